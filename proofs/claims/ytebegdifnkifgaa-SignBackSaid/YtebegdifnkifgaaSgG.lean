/-
  Layer 6: the document's own Sign. Conditions: those in each statement.
-/
import Derived.Test.YtebegdifnkifgaaSgF
namespace Go.Proofs.Ytebegdifnkifgaa
open Go.RowKit

/-- n bytes, of which the first k are laid -/
def fillI (S : List UInt8) (n k : Nat) : List UInt8 := S.take k ++ Z8 (n - k)
theorem fillI_len (S : List UInt8) (n k : Nat) (h : k ≤ n) (hS : S.length = n) : (fillI S n k).length = n := by
  simp only [fillI, List.length_append, List.length_take, Z8, List.length_replicate]
  omega
theorem fillI_step (S : List UInt8) (n k : Nat) (h : k < n) (hS : S.length = n) : (fillI S n k).set k (S.getD k 0) = fillI S n (k + 1) := by
  unfold fillI Z8
  rw [List.set_append_right _ _ (by simp; omega), show k - (S.take k).length = 0 by simp; omega, show n - k = (n - (k + 1)) + 1 by omega, List.replicate_succ, List.set_cons_zero,
    List.take_succ_eq_append_getElem (by omega), List.append_assoc]
  simp [List.getD, hS, h]
theorem fillI_end (S : List UInt8) (n : Nat) (hS : S.length = n) : fillI S n n = S := by
  unfold fillI
  rw [List.take_of_length_le (by omega)]
  simp [Z8]
theorem fillI_zero (S : List UInt8) (n : Nat) : fillI S n 0 = Z8 n := by simp [fillI]
theorem fill2_step (S T : List UInt8) (k : Nat) (h : k < 32) (hS : S.length = 32) (hT : T.length = 32) :
    ((fillI S 32 k ++ fillI T 32 k).set k (S.getD k 0)).set (32 + k) (T.getD k 0) = fillI S 32 (k + 1) ++ fillI T 32 (k + 1) := by
  have l1 := fillI_len S 32 k (by omega) hS
  have l2 := fillI_len S 32 (k + 1) (by omega) hS
  rw [List.set_append_left _ _ (by omega), fillI_step S 32 k h hS, List.set_append_right _ _ (by omega), l2, show 32 + k - 32 = k by omega, fillI_step T 32 k h hT]
theorem take_snocD (S : List UInt8) (k : Nat) (h : k < S.length) : S.take (k + 1) = S.take k ++ [S.getD k 0] := by
  rw [List.take_succ_eq_append_getElem h]
  simp [List.getD, h]

theorem own_lit (w : World) (E : TypeId) (xs : List UInt8) (n : Nat) (hn : xs.length = n) (hm : n ≤ 1000000) : Own (w.alloc (.cells (xs.map bv).toArray E)) w.heap.size E (.slice (some ⟨w.heap.size, 0, none⟩) n n) xs := by
  subst hn
  exact World.ownsRow_lit (base := w.heap.size) (e := E) (size := 1) w (xs.map bv).toArray xs.length (Nat.le_refl _) (by unfold maxLen; omega) (by simp)
set_option maxHeartbeats 800000 in
theorem rSign_no (a b : Option Addr) (n m c d : Nat) (w : World) (hm : mayB n = false) (hn : n ≤ 140737488355328) :
    Calls Try.prog 9 #[.slice a n c, .slice b m d] w fun e w' => e = .returned (.tuple #[.agg (bvs (Z8 64)).toArray, .int .i64 1]) ∧ Below w.heap.size w w' := by
  have hmay : Hid (∀ w, Calls Try.prog 13 #[.slice a n c] w fun e w' => e = .returned (.bool false) ∧ w = w') := fun w => (rMay_any a n c w hn).mono fun e w' h => by rw [hm] at h; exact h
  clear hm
  have H64 : Hid ((Try.prog.info? 23).map (·.size) = some (bvs (Z8 64)).length) := sizeSig
  go_enter Try.func9, Try.ntmps9
  go_wp2_with (first
    | ((with_reducible show wpList _ _ _ (⟨some 4, .alloc _, _, _, _, _⟩ :: _) _ _); refine wl_alloc rfl 23 rfl (bvs (Z8 64)) 64 infoSig ?_; intro w1 hA1 hb1 hs1)
    | ((with_reducible show wpList _ _ _ (⟨some 6, .alloc _, _, _, _, _⟩ :: _) _ _); refine wl_alloc rfl 23 rfl (bvs (Z8 64)) 64 infoSig ?_; intro w2 hA2 hb2 hs2)
    | (go_at_call 13; refine (hmay.out _).mono ?_; rintro e w3 ⟨rfl, rfl⟩)
    | ((with_reducible show wpList _ _ _ (⟨some 16, .load _ _, _, _, _, _⟩ :: _) _ _); refine wl_load rfl 23 _ rfl w1.heap.size 0 rfl 23 (bvs (Z8 64)) (bvs (Z8 64)) hA2 (fun j v h => by rw [Nat.zero_add]; exact h) (.array 64 5) Try.underlying23 rfl H64.out ?_)
    | ((with_reducible show wpList _ _ _ (⟨none, .store _ _ _, _, _, _, _⟩ :: _) _ _); refine wl_store rfl 23 _ _ rfl w.heap.size 0 rfl (bvs (Z8 64)) rfl 23 _ (hA1.kept hb2) H64.out (by decide) (bvs_one _) ?_; intro w15 hR15 hg15 hs15))
  rw [whole_store _ _ (by rfl)] at hR15
  refine end_cell2 rfl w.heap.size 23 (bvs (Z8 64)) (.array 64 5) (.int .i64 1) rfl hR15 Try.underlying23 rfl H64.out rfl rfl ⟨rfl, ?_⟩
  exact (hb1.trans (hb2.mono (Nat.le_of_lt hs1))).grown hg15 (by omega) (by intro k e; injection e with e; omega)

set_option maxHeartbeats 3200000 in
theorem rSign_yes (key msg : List UInt8) (a b : Option Addr) (n m c d : Nat) (w : World) (hm : mayB n = true) (hn : m ≤ 140737488351232) (hk : Rd w a n c key) (hs : Rd w b m d msg) :
    Calls Try.prog 9 #[.slice a n c, .slice b m d] w fun e w' => e = .returned (.tuple #[.agg (bvs (sgA key msg ++ sgB key msg)).toArray, .int .i64 0]) ∧ Below w.heap.size w w' := by
  have hlen := hk.len
  have hlenm := hs.len
  subst hlen hlenm
  have hml := mayB_le hm
  have hmay : Hid (∀ w, Calls Try.prog 13 #[.slice a key.length c] w fun e w' => e = .returned (.bool true) ∧ w = w') := fun w => (rMay_any a key.length c w (by omega)).mono fun e w' h => by rw [hm] at h; exact h
  clear hm
  have hconv : Hid ((((UInt8.ofNat key.length).toNat : Nat) : Int) = (key.length : Int)) := by show _ = _; simp [UInt8.toNat_ofNat']; omega
  go_enter Try.func9, Try.ntmps9
  go_upto_region 5 with (first
    | ((with_reducible show wpList _ _ _ (⟨some 4, .alloc _, _, _, _, _⟩ :: _) _ _); refine wl_alloc rfl 23 rfl (bvs (Z8 64)) 64 infoSig ?_; intro w1 hA1 hb1 hs1)
    | ((with_reducible show wpList _ _ _ (⟨some 6, .alloc _, _, _, _, _⟩ :: _) _ _); refine wl_alloc rfl 23 rfl (bvs (Z8 64)) 64 infoSig ?_; intro w2 hA2 hb2 hs2)
    | (go_at_call 13; refine (hmay.out _).mono ?_; rintro e w3 ⟨rfl, rfl⟩))
  obtain ⟨gR, hgR⟩ : ∃ gR, w.heap.size = gR := ⟨_, rfl⟩
  obtain ⟨gS, hgS⟩ : ∃ gS, w1.heap.size = gS := ⟨_, rfl⟩
  have HGR := Lib.hid hgR
  rw [hgR] at hA1 hb1 hs1 ⊢
  rw [hgS] at hA2 hs1 hb2 hs2 ⊢
  have hB2 : Below gR w w2 := hb1.trans (hb2.mono (by omega))
  have hR2 := hA1.to hb2 hs1
  have hk2 := hk.to (by rw [hgR]; exact hB2)
  have hm2 := hs.to (by rw [hgR]; exact hB2)
  clear hA1 hb1 hb2 hk hs hgR hgS
  have hlit : Hid (∀ w : World, w.alloc (.cells #[.int .u8 (key.length : Int)] 5) = w.alloc (.cells ([UInt8.ofNat key.length].map bv).toArray 5)) := fun w => by simp only [List.map_cons, List.map_nil, bv, hconv.out]
  have hal : Hid (∀ (w : World) o, Below w.heap.size w (w.alloc o)) := fun w o => (Below.refl _ _).alloc (Nat.le_refl _) _
  go_upto_region 8 with (first
    | ((with_reducible show wpList _ _ _ (⟨some 22, _, _, _, _, _⟩ :: _) _ _); rw [hlit.out]; go_loud (refine wl_append bt rfl _ _ rfl w2.heap.size _ [] (Own.nil _ _ _) rfl _ 1 1 [UInt8.ofNat key.length] rfl (rd_lit _ _ _) (by simp) (by simp) ?_); intro v3 w3 ho3 hb3; rw [List.nil_append] at ho3; obtain ⟨a3, c3, rfl, -⟩ := ho3.shape; (have hb3' := ((hal.out w2 (.cells ([UInt8.ofNat key.length].map bv).toArray 5)).trans hb3)); clear hb3)
    | ((with_reducible show wpList _ _ _ (⟨some 25, _, _, _, _, _⟩ :: _) _ _); go_loud (refine wl_append bt rfl _ _ rfl w2.heap.size _ _ ho3 rfl a key.length c key rfl (hk2.to hb3') (by simp; omega) hb3'.size ?_); intro v4 w4 ho4 hb4; obtain ⟨a4, c4, rfl, -⟩ := ho4.shape; (have hb4' := hb3'.trans hb4); clear hb4)
    | ((with_reducible show wpList _ _ _ (⟨some 28, _, _, _, _, _⟩ :: _) _ _); go_loud (refine wl_append bt rfl _ _ rfl w2.heap.size _ _ ho4 rfl b msg.length d msg rfl (hm2.to hb4') (by simp; omega) hb4'.size ?_); intro v5 w5 ho5 hb5; obtain ⟨a5, c5, rfl, -⟩ := ho5.shape; (have hb5' := hb4'.trans hb5); clear hb5))
  have hT : Hid ([UInt8.ofNat key.length] ++ key ++ msg = txtL key msg) := by show _ = _; simp [txtL]
  have hTl : Hid ((txtL key msg).length = key.length + msg.length + 1) := by show _ = _; simp [txtL]
  have hr5 : Rd w5 a5 (key.length + msg.length + 1) c5 (txtL key msg) := by
    have := ho5.rd.toRd
    rw [hT.out, hTl.out] at this
    exact this
  have hB5 : Below gR w w5 := hB2.trans (hb5'.mono (by have := hR2.lt; omega))
  have hR5 := hR2.kept hb5'
  have hS5 := hA2.kept hb5'
  clear ho3 ho4 ho5 hb3' hb4' hb5' hB2 hR2 hA2 hk2 hm2 hlit
  have hb1 : key.length + msg.length ≤ 140737488351300 := by omega
  have hH1 : Hid (∀ a n c w, Rd w a n c ([1] ++ txtL key msg) → Calls Try.prog 23 #[.slice a n c] w fun e w' => e = .returned (.agg (bvs (sgA key msg)).toArray) ∧ Below w.heap.size w w') := fun a n c w h => rSum_any _ a n c w (by show (_ :: _).length ≤ _; simp only [List.length_cons, hTl.out]; omega) h
  have hH2 : Hid (∀ a n c w, Rd w a n c (2 :: sgA key msg ++ txtL key msg) → Calls Try.prog 23 #[.slice a n c] w fun e w' => e = .returned (.agg (bvs (sgB key msg)).toArray) ∧ Below w.heap.size w w') := fun a n c w h => rSum_any _ a n c w (by simp only [List.length_append, hTl.out, List.length_cons, sgA_len]; omega) h
  have hl1 := sgA_len key msg
  have hl2 := sgB_len key msg
  generalize hq1 : sgA key msg = S1 at *
  generalize hq2 : sgB key msg = S2 at *
  generalize hq3 : txtL key msg = T at *
  have HQ1 := Lib.hid hq1
  have HQ2 := Lib.hid hq2
  have HL1 := Lib.hid hl1
  have HL2 := Lib.hid hl2
  have h321 : Hid ((Try.prog.info? 30).map (·.size) = some (bvs S1).length) := by show _ = _; rw [bvs_len, hl1]; exact sizeD
  have h322 : Hid ((Try.prog.info? 30).map (·.size) = some (bvs S2).length) := by show _ = _; rw [bvs_len, hl2]; exact sizeD
  clear hq1 hq2 hq3 hl1 hl2 hT
  have hlit1 : Hid (∀ w : World, w.alloc (.cells #[.int .u8 1] 5) = w.alloc (.cells (([1] : List UInt8).map bv).toArray 5)) := fun w => rfl
  have hlit2 : Hid (∀ w : World, w.alloc (.cells #[.int .u8 2] 5) = w.alloc (.cells (([2] : List UInt8).map bv).toArray 5)) := fun w => rfl
  generalize hN : key.length + msg.length + 1 = N at *
  have hNb : N ≤ 140737488351400 := by omega
  have HN := Lib.hid hN
  clear hN
  go_upto_region 9 with (first
    | ((with_reducible show wpList _ _ _ (⟨some 31, _, _, _, _, _⟩ :: _) _ _); rw [hlit1.out]; go_loud (refine wl_append bt rfl _ _ rfl w5.heap.size _ [1] (own_lit _ _ [1] 1 rfl (by omega)) rfl a5 N c5 T rfl (hr5.to (hal.out _ _)) (by simp; omega) (by simp) ?_); intro v6 w6 ho6 hb6; obtain ⟨a6, c6, rfl, -⟩ := ho6.shape; (have hb6' := (hal.out w5 (.cells (([1] : List UInt8).map bv).toArray 5)).trans hb6); clear hb6)
    | (go_at_call 23; go_loud (refine (hH1.out _ _ _ _ ho6.rd.toRd).mono ?_); rintro e w7 ⟨rfl, hb7⟩)
    | ((with_reducible show wpList _ _ _ (⟨some 8, .alloc _, _, _, _, _⟩ :: _) _ _); refine wl_alloc rfl 30 rfl (bvs (Z8 32)) 32 infoD ?_; intro w8 hA8 hb8 hs8)
    | ((with_reducible show wpList _ _ _ (⟨none, .store _ _ _, _, _, _, _⟩ :: _) _ _); go_loud (refine wl_store rfl 30 _ _ rfl w7.heap.size 0 rfl (bvs S1) rfl 30 _ hA8 h321.out (by rw [bvs_len, HL1.out]; exact (by decide : 0 + 32 ≤ (bvs (Z8 32)).length)) (bvs_one _) ?_); intro w9 hA9 hg9 hs9))
  rw [whole_store _ _ (by rw [bvs_len, bvs_len, HL1.out]; rfl)] at hA9
  have x6 := hb6'.size
  have x7 := hb7.size
  have x8 := hb8.size
  have hb9 : Below w5.heap.size w5 w9 := (hb6'.trans (hb7.mono (by omega))).trans ((hb8.grown hg9 (by omega) (by intro k e; injection e with e; omega)).mono (by omega))
  obtain ⟨gA, hgA⟩ : ∃ gA, w7.heap.size = gA := ⟨_, rfl⟩
  rw [hgA] at hA9 hs8 x8 ⊢
  have hR9 := hR5.kept hb9
  have hS9 := hS5.kept hb9
  have hr9 := hr5.to hb9
  have hB9 : Below gR w w9 := hB5.trans (hb9.mono (by have := hR5.lt; omega))
  have hlS := hS5.lt
  have hgSA : gS < gA := by omega
  clear hb6' hb7 hb8 hg9 hA8 hs9 hs8 x6 x7 x8 hb9 hr5 hR5 hS5 hB5 ho6 hgA
  go_wp2_with fail
  rw [hlit2.out]
  obtain ⟨gB, hgB⟩ : ∃ gB, w9.heap.size = gB := ⟨_, rfl⟩
  have hlA := hA9.lt
  have ho10 := own_lit w9 5 [2] 1 rfl (by omega)
  have hb10 := hal.out w9 (.cells (([2] : List UInt8).map bv).toArray 5)
  have hs10 : gB < (w9.alloc (.cells (([2] : List UInt8).map bv).toArray 5)).heap.size := by rw [World.size_alloc]; omega
  have hW9 : Hid (∀ w', Below gB w9 w' → Arr w' gR 23 (bvs (Z8 64)) ∧ Arr w' gS 23 (bvs (Z8 64)) ∧ Arr w' gA 30 (bvs S1) ∧ Rd w' a5 N c5 T ∧ Below gR w w') := fun w' h => by
    rw [← hgB] at h
    exact ⟨hR9.kept h, hS9.kept h, hA9.kept h, hr9.to h, hB9.trans (h.mono (by have := hR9.lt; omega))⟩
  have hgRS := hs1
  rw [hgB] at ho10 hb10 hlA ⊢
  clear hgB hR9 hS9 hr9 hB9 hA9
  generalize w9.alloc (.cells (([2] : List UInt8).map bv).toArray 5) = w10 at *
  go_loopw [9, 10] (fun v i wr => ∃ (k : Nat) (p : Option Addr) (c : Nat), k ≤ 32 ∧ i = .int .i64 k ∧ v = .slice p (1 + k) c ∧ Own wr gB 5 v (2 :: S1.take k) ∧ Below gB w9 wr ∧ gB < wr.heap.size) (fun _ i _ => 32 - (intOf i).toNat)
  case atStart => exact ⟨0, _, _, by omega, rfl, rfl, ho10, hb10, hs10⟩
  case round =>
    obtain ⟨k, p, cc, hk, rfl, rfl, ho, hb, hsz⟩ := hrel
    by_cases hlt : k < 32
    · have hc : (k : Int) < 32 := by omega
      obtain ⟨-, -, hA, -, -⟩ := hW9.out _ hb
      have c0 := (hA.cell k).trans (bvs_get _ k (by rw [HL1.out]; exact hlt))
      have htk : Hid (2 :: S1.take k ++ [S1.getD k 0] = 2 :: S1.take (k + 1)) := by show _ = _; rw [take_snocD _ _ (by rw [HL1.out]; exact hlt)]; rfl
      have htl : Hid ((2 :: S1.take k).length = 1 + k) := by show _ = _; simp [HL1.out]; omega
      have htl2 : Hid ((2 :: S1.take (k + 1)).length = 1 + (k + 1)) := by show _ = _; simp [HL1.out]; omega
      have hlx : Hid (∀ x : UInt8, wr.alloc (.cells #[.int .u8 (x.toNat : Int)] 5) = wr.alloc (.cells ([x].map bv).toArray 5)) := fun x => rfl
      generalize S1.getD k 0 = x at *
      clear hA
      go_wp2_with (((with_reducible show wpList _ _ _ (⟨some 43, _, _, _, _, _⟩ :: _) _ _); rw [hlx.out]; go_loud (refine wl_append bt rfl _ _ rfl gB _ _ (ho.to (hal.out _ _)) rfl _ 1 1 [x] rfl (rd_lit _ [x] _) (by rw [htl.out]; omega) (by simp; omega) ?_); intro v11 w11 ho11 hb11; rw [htk.out] at ho11; obtain ⟨a11, c11, e11, -⟩ := ho11.shape; rw [htl2.out] at e11; obtain rfl := e11.symm))
      have hz := hb11.size
      rw [World.size_alloc] at hz
      go_roundw
      case rel => exact ⟨k + 1, a11, c11, hlt, by go_num, rfl, ho11, (hb.trans ((hal.out _ _).mono (Nat.le_of_lt hsz))).trans hb11, by omega⟩
      case measure => simp [intOf]; omega
    · obtain rfl : k = 32 := by omega
      have hc : ¬ ((32 : Nat) : Int) < 32 := by omega
      rw [List.take_of_length_le (by rw [HL1.out]; omega)] at ho
      obtain ⟨hR, hS, hA, hr, hB⟩ := hW9.out _ hb
      obtain ⟨M, hM0⟩ : ∃ M, (2 :: S1 ++ T).length = M := ⟨_, rfl⟩
      have hM := Lib.hid hM0
      clear hM0
      go_upto_region 15 with (first
        | ((with_reducible show wpList _ _ _ (⟨some 46, _, _, _, _, _⟩ :: _) _ _); go_loud (refine wl_append bt rfl _ _ rfl gB _ _ ho rfl a5 N c5 T rfl hr (by simp [HL1.out]; omega) (Nat.le_of_lt hsz) ?_); intro v12 w12 ho12 hb12; obtain ⟨a12, c12, e12, -⟩ := ho12.shape; rw [hM.out] at e12; obtain rfl := e12.symm)
        | (go_at_call 23; go_loud (refine (hH2.out _ _ _ _ ho12.rd.toRd).mono ?_); rintro e w13 ⟨rfl, hb13⟩)
        | ((with_reducible show wpList _ _ _ (⟨some 11, .alloc _, _, _, _, _⟩ :: _) _ _); refine wl_alloc rfl 30 rfl (bvs (Z8 32)) 32 infoD ?_; intro w14 hA14 hb14 hs14)
        | ((with_reducible show wpList _ _ _ (⟨none, .store _ _ _, _, _, _, _⟩ :: _) _ _); go_loud (refine wl_store rfl 30 _ _ rfl w13.heap.size 0 rfl (bvs S2) rfl 30 _ hA14 h322.out (by rw [bvs_len, HL2.out]; exact (by decide : 0 + 32 ≤ (bvs (Z8 32)).length)) (bvs_one _) ?_); intro w15 hA15 hg15 hs15))
      rw [whole_store _ _ (by rw [bvs_len, bvs_len, HL2.out]; rfl)] at hA15
      have x12 := hb12.size
      have x13 := hb13.size
      have x14 := hb14.size
      have lA := hA.lt
      have lS := hS.lt
      have hbx : Below gB wr w15 := ((hb12.trans (hb13.mono (by omega))).trans (hb14.mono (by omega))).grown hg15 (by omega) (by intro k e; injection e with e; omega)
      obtain ⟨gD, hgD⟩ : ∃ gD, w13.heap.size = gD := ⟨_, rfl⟩
      rw [hgD] at hA15 ⊢
      have hDB : gB < gD := by omega
      have hR15 := hR.to hbx (by omega)
      have hS15 := hS.to hbx (by omega)
      have hA15' := hA.to hbx hlA
      have hB15 := hB.trans (hbx.mono (by omega))
      clear hb12 hb13 hb14 hg15 hs15 hA14 hbx x12 x13 x14 hr hR hS hA hB ho hb hsz hgD ho12 hs14 hW9 hs10 hb10 ho10
      have hfz : Hid (bvs (Z8 64) = bvs (fillI S1 32 0 ++ fillI S2 32 0)) := rfl
      rw [hfz.out] at hS15
      go_wp2_with fail
      go_loopw [12] (fun i wr => ∃ k : Nat, k ≤ 32 ∧ i = .int .i64 k ∧ Arr wr gR 23 (bvs (Z8 64)) ∧ Arr wr gS 23 (bvs (fillI S1 32 k ++ fillI S2 32 k)) ∧ Arr wr gA 30 (bvs S1) ∧ Arr wr gD 30 (bvs S2) ∧ Below gR w wr) (fun i _ => 32 - (intOf i).toNat)
      case atStart => exact ⟨0, by omega, rfl, hR15, hS15, hA15', hA15, hB15⟩
      case round =>
        obtain ⟨k, hk, rfl, hR, hS, hA, hD, hB⟩ := hrel
        by_cases hlt : k < 32
        · have hc : (k : Int) < 32 := by omega
          have ca := (hA.cell k).trans (bvs_get _ k (by rw [HL1.out]; exact hlt))
          have cd := (hD.cell k).trans (bvs_get _ k (by rw [HL2.out]; exact hlt))
          have hfl : Hid ((fillI S1 32 k ++ fillI S2 32 k).length = 64) := by show _ = _; rw [List.length_append, fillI_len S1 32 k (by omega) HL1.out, fillI_len S2 32 k (by omega) HL2.out]
          have cs1 := (hS.cell k).trans (bvs_get _ k (by rw [hfl.out]; omega))
          have cs2 := (hS.cell (32 + k)).trans (bvs_get _ (32 + k) (by rw [hfl.out]; omega))
          have f1 := hS.frozen k
          have f2 := hS.frozen (32 + k)
          have hst := (hS.store k (.int .u8 ((S1.getD k 0).toNat : Int))).store (32 + k) (.int .u8 ((S2.getD k 0).toNat : Int))
          rw [bvs_set, bvs_set, fill2_step S1 S2 k hlt HL1.out HL2.out] at hst
          have e1 : Hid (((32 : Int) + (k : Int)).toNat = 32 + k) := by show _ = _; omega
          generalize S1.getD k 0 = x at *
          generalize S2.getD k 0 = y at *
          generalize (fillI S1 32 k ++ fillI S2 32 k).getD k 0 = z1 at *
          generalize (fillI S1 32 k ++ fillI S2 32 k).getD (32 + k) 0 = z2 at *
          have HST := Lib.hid hst
          clear hst
          go_wp2
          go_roundw
          case rel =>
            exact ⟨k + 1, hlt, by go_num, (hR.other _ (by simp; omega) _).other _ (by simp; omega) _, HST.out, (hA.other _ (by simp; omega) _).other _ (by simp; omega) _, (hD.other _ (by simp; omega) _).other _ (by simp; omega) _,
              (hB.setCell (by simp; omega) _).setCell (by simp; omega) _⟩
          case measure => simp [intOf]; omega
        · obtain rfl : k = 32 := by omega
          have hc : ¬ ((32 : Nat) : Int) < 32 := by omega
          rw [fillI_end S1 32 HL1.out, fillI_end S2 32 HL2.out] at hS
          have l64 : Hid ((bvs (S1 ++ S2)).length = 64) := by show _ = _; rw [bvs_len, List.length_append, HL1.out, HL2.out]
          have h64 : Hid ((Try.prog.info? 23).map (·.size) = some (bvs (S1 ++ S2)).length) := by show _ = _; rw [l64.out]; exact sizeSig
          generalize hq : S1 ++ S2 = S at *
          have HQ := Lib.hid hq
          clear hq hA hD
          go_wp2_with (first
            | ((with_reducible show wpList _ _ _ (⟨some 63, .load _ _, _, _, _, _⟩ :: _) _ _); refine wl_load rfl 23 _ rfl gS 0 rfl 23 (bvs S) (bvs S) hS (fun j v h => by rw [Nat.zero_add]; exact h) (.array 64 5) Try.underlying23 rfl h64.out ?_)
            | ((with_reducible show wpList _ _ _ (⟨none, .store _ _ _, _, _, _, _⟩ :: _) _ _); refine wl_store rfl 23 _ _ rfl gR 0 rfl (bvs S) rfl 23 _ hR h64.out (by rw [l64.out]; exact (by decide : 0 + 64 ≤ (bvs (Z8 64)).length)) (bvs_one _) ?_; intro w25 hR25 hg25 hs25))
          rw [whole_store _ _ (by rw [l64.out]; rfl)] at hR25
          refine end_cell2 rfl gR 23 (bvs S) (.array 64 5) (.int .i64 0) rfl hR25 Try.underlying23 rfl h64.out rfl rfl ⟨by rw [HQ1.out, HQ2.out, HQ.out], ?_⟩
          rw [HGR.out]
          exact hB.grown hg25 (Nat.le_of_lt hR.lt) (by intro k e; injection e with e; omega)

theorem rSign_any (key msg : List UInt8) (a b : Option Addr) (n m c d : Nat) (w : World) (hn : n ≤ 140737488351232) (hmm : m ≤ 140737488351232) (hk : Rd w a n c key) (hs : Rd w b m d msg) :
    Calls Try.prog 9 #[.slice a n c, .slice b m d] w fun e w' => e = .returned (.tuple #[.agg (bvs (sigF key msg)).toArray, .int .i64 (errF n)]) ∧ Below w.heap.size w w' := by
  have hl := hk.len
  cases hm : mayB n with
  | true =>
    have e : sigF key msg = sgA key msg ++ sgB key msg := by unfold sigF; rw [hl, hm]; rfl
    have e2 : errF n = 0 := by unfold errF; rw [hm]; rfl
    rw [e, e2]
    exact rSign_yes key msg a b n m c d w hm hmm hk hs
  | false =>
    have e : sigF key msg = Z8 64 := by unfold sigF; rw [hl, hm]; rfl
    have e2 : errF n = 1 := by unfold errF; rw [hm]; rfl
    rw [e, e2]
    exact rSign_no a b n m c d w hm (by omega)
end Go.Proofs.Ytebegdifnkifgaa
