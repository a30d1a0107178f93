/-
  Layer 6: the document's own Id, Mark, Unmark. Conditions: those in each statement.
-/
import Derived.Test.YtebegdifnkifgaaSgG
namespace Go.Proofs.Ytebegdifnkifgaa
open Go.RowKit

set_option maxHeartbeats 800000 in
theorem rId_any (key : List UInt8) (a : Option Addr) (n c : Nat) (w : World) (hn : n ≤ 140737488351232) (hk : Rd w a n c key) :
    Calls Try.prog 11 #[.slice a n c] w fun e w' => e = .returned (.tuple #[.agg (bvs (idF key)).toArray, .int .i64 (errF n)]) ∧ Below w.heap.size w w' := by
  have hl := hk.len
  subst hl
  have hmay : Hid (∀ w, Calls Try.prog 13 #[.slice a key.length c] w fun e w' => e = .returned (.bool (mayB key.length)) ∧ w = w') := fun w => rMay_any a key.length c w (by omega)
  cases hm : mayB key.length with
  | true =>
    have e1 : errF key.length = 0 := by unfold errF; rw [hm]; rfl
    have e2 : idF key = shaL (0 :: key) := by unfold idF; rw [hm]; rfl
    rw [hm] at hmay
    rw [e1, e2]
    have hml := mayB_le hm
    have hlen := shaL_len (0 :: key)
    have hH : Hid (∀ a n c w, Rd w a n c ([0] ++ key) → Calls Try.prog 23 #[.slice a n c] w fun e w' => e = .returned (.agg (bvs (shaL (0 :: key))).toArray) ∧ Below w.heap.size w w') := fun a n c w h => rSum_any _ a n c w (by show (_ :: _).length ≤ _; simp only [List.length_cons]; omega) h
    have h32 : Hid ((Try.prog.info? 30).map (·.size) = some (bvs (shaL (0 :: key))).length) := by show _ = _; rw [bvs_len, hlen]; exact sizeD
    have L32 : Hid ((bvs (shaL (0 :: key))).length = 32) := by show _ = _; rw [bvs_len, hlen]
    clear e1 e2 hm hlen
    generalize shaL (0 :: key) = S at *
    have hlit1 : Hid (∀ w : World, w.alloc (.cells #[.int .u8 0] 5) = w.alloc (.cells (([0] : List UInt8).map bv).toArray 5)) := fun w => rfl
    have hal : Hid (∀ (w : World) o, Below w.heap.size w (w.alloc o)) := fun w o => (Below.refl _ _).alloc (Nat.le_refl _) _
    go_enter Try.func11, Try.ntmps11
    go_wp2_with (first
      | ((with_reducible show wpList _ _ _ (⟨some 2, .alloc _, _, _, _, _⟩ :: _) _ _); refine wl_alloc rfl 30 rfl (bvs (Z8 32)) 32 infoD ?_; intro w1 hA1 hb1 hs1)
      | (go_at_call 13; refine (hmay.out _).mono ?_; rintro e w3 ⟨rfl, rfl⟩)
      | (at_builtin; rw [hlit1.out]; go_loud (refine wl_append bt rfl _ _ rfl w1.heap.size _ [0] (own_lit _ _ [0] 1 rfl (by omega)) rfl a key.length c key rfl ((hk.to hb1).to (hal.out _ _)) (by simp; omega) (by simp) ?_); intro v6 w6 ho6 hb6; obtain ⟨a6, c6, rfl, -⟩ := ho6.shape; (have hb6' := (hal.out w1 (.cells (([0] : List UInt8).map bv).toArray 5)).trans hb6); clear hb6)
      | (go_at_call 23; go_loud (refine (hH.out _ _ _ _ ho6.rd.toRd).mono ?_); rintro e w5 ⟨rfl, hb5⟩)
      | ((with_reducible show wpList _ _ _ (⟨none, .store _ _ _, _, _, _, _⟩ :: _) _ _); refine wl_store rfl 30 _ _ rfl w.heap.size 0 rfl (bvs S) rfl 30 _ ((hA1.kept hb6').kept hb5) h32.out (by rw [L32.out]; exact (by decide : 0 + 32 ≤ (bvs (Z8 32)).length)) (bvs_one _) ?_; intro w15 hR15 hg15 hs15))
    rw [whole_store _ _ (by rw [L32.out]; rfl)] at hR15
    refine end_cell2 rfl w.heap.size 30 (bvs S) (.array 32 5) (.int .i64 0) rfl hR15 Try.underlying30 rfl h32.out rfl rfl ⟨rfl, ?_⟩
    have x5 := hb5.size
    have x6 := hb6'.size
    exact ((hb1.trans (hb6'.mono (by omega))).trans (hb5.mono (by omega))).grown hg15 (by omega) (by intro k e; injection e with e; omega)
  | false =>
    have e1 : errF key.length = 1 := by unfold errF; rw [hm]; rfl
    have e2 : idF key = Z8 32 := by unfold idF; rw [hm]; rfl
    rw [hm] at hmay
    rw [e1, e2]
    clear e1 e2 hm
    have h32 : Hid ((Try.prog.info? 30).map (·.size) = some (bvs (Z8 32)).length) := sizeD
    go_enter Try.func11, Try.ntmps11
    go_wp2_with (first
      | ((with_reducible show wpList _ _ _ (⟨some 2, .alloc _, _, _, _, _⟩ :: _) _ _); refine wl_alloc rfl 30 rfl (bvs (Z8 32)) 32 infoD ?_; intro w1 hA1 hb1 hs1)
      | (go_at_call 13; refine (hmay.out _).mono ?_; rintro e w3 ⟨rfl, rfl⟩)
      | ((with_reducible show wpList _ _ _ (⟨none, .store _ _ _, _, _, _, _⟩ :: _) _ _); refine wl_store rfl 30 _ _ rfl w.heap.size 0 rfl (bvs (Z8 32)) rfl 30 _ hA1 h32.out (by decide) (bvs_one _) ?_; intro w15 hR15 hg15 hs15))
    rw [whole_store _ _ (by rfl)] at hR15
    refine end_cell2 rfl w.heap.size 30 (bvs (Z8 32)) (.array 32 5) (.int .i64 1) rfl hR15 Try.underlying30 rfl h32.out rfl rfl ⟨rfl, ?_⟩
    exact hb1.grown hg15 (by omega) (by intro k e; injection e with e; omega)

set_option maxHeartbeats 800000 in
theorem rMark_any (sig : List UInt8) (w : World) (hg : sig.length = 64) :
    Calls Try.prog 19 #[.agg (bvs sig).toArray] w fun e w' => ∃ v, e = .returned v ∧ Own w' w.heap.size 5 v (mhead ++ sig) ∧ Below w.heap.size w w' := by
  have HG := Lib.hid hg
  clear hg
  have hal : Hid (∀ (w : World) o, Below w.heap.size w (w.alloc o)) := fun w o => (Below.refl _ _).alloc (Nat.le_refl _) _
  go_enter Try.func19, Try.ntmps19
  go_wp2_with (((with_reducible show wpList _ _ _ (⟨some 1, .box _ _, _, _, _, _⟩ :: _) _ _); refine wl_box rfl 23 _ rfl (bvs sig) rfl ?_; intro w1 hA1 hb1 hs1))
  have hlit1 : Hid (w1.alloc (.cells #[.int .u8 8, .int .u8 7, .int .u8 0, .int .u8 64] 5) = w1.alloc (.cells (mhead.map bv).toArray 5)) := rfl
  rw [hlit1.out]
  have ho2 := own_lit w1 5 mhead 4 rfl (by omega)
  have hb2 := hal.out w1 (.cells (mhead.map bv).toArray 5)
  have hz2 : w1.heap.size < (w1.alloc (.cells (mhead.map bv).toArray 5)).heap.size := by rw [World.size_alloc]; omega
  clear hlit1
  obtain ⟨g, hgg⟩ : ∃ g, w.heap.size = g := ⟨_, rfl⟩
  obtain ⟨B, hB⟩ : ∃ B, w1.heap.size = B := ⟨_, rfl⟩
  have HGG := Lib.hid hgg
  rw [hgg] at hA1 hs1 hb1 ⊢
  rw [hB] at hs1 ho2 hb2 hz2 ⊢
  clear hgg hB
  generalize w1.alloc (.cells (mhead.map bv).toArray 5) = w2 at *
  have e0 : mhead = mhead ++ sig.take 0 := by simp
  rw [e0] at ho2
  clear e0
  go_loopw [3, 4] (fun v i wr => ∃ (k : Nat) (p : Option Addr) (c : Nat), k ≤ 64 ∧ i = .int .i64 k ∧ v = .slice p (4 + k) c ∧ Own wr B 5 v (mhead ++ sig.take k) ∧ Below B w1 wr ∧ B < wr.heap.size) (fun _ i _ => 64 - (intOf i).toNat)
  case atStart => exact ⟨0, _, _, by omega, rfl, rfl, ho2, hb2, hz2⟩
  case round =>
    obtain ⟨k, p, cc, hk, rfl, rfl, ho, hb, hsz⟩ := hrel
    by_cases hlt : k < 64
    · have hc : (k : Int) < 64 := by omega
      have c0 := ((hA1.to hb hs1).cell k).trans (bvs_get _ k (by rw [HG.out]; exact hlt))
      have htk : Hid (mhead ++ sig.take k ++ [sig.getD k 0] = mhead ++ sig.take (k + 1)) := by show _ = _; rw [take_snocD _ _ (by rw [HG.out]; exact hlt), List.append_assoc]
      have htl : Hid ((mhead ++ sig.take k).length = 4 + k) := by show _ = _; simp [HG.out, mhead]; omega
      have htl2 : Hid ((mhead ++ sig.take (k + 1)).length = 4 + (k + 1)) := by show _ = _; simp [HG.out, mhead]; omega
      have hlx : Hid (∀ x : UInt8, wr.alloc (.cells #[.int .u8 (x.toNat : Int)] 5) = wr.alloc (.cells ([x].map bv).toArray 5)) := fun x => rfl
      generalize sig.getD k 0 = x at *
      go_wp2_with (((with_reducible show wpList _ _ _ (⟨some 15, _, _, _, _, _⟩ :: _) _ _); rw [hlx.out]; go_loud (refine wl_append bt rfl _ _ rfl B _ _ (ho.to (hal.out _ _)) rfl _ 1 1 [x] rfl (rd_lit _ [x] _) (by rw [htl.out]; omega) (by simp; omega) ?_); intro v11 w11 ho11 hb11; rw [htk.out] at ho11; obtain ⟨a11, c11, e11, -⟩ := ho11.shape; rw [htl2.out] at e11; obtain rfl := e11.symm))
      have hz := hb11.size
      rw [World.size_alloc] at hz
      go_roundw
      case rel => exact ⟨k + 1, a11, c11, hlt, by go_num, rfl, ho11, (hb.trans ((hal.out _ _).mono (Nat.le_of_lt hsz))).trans hb11, by omega⟩
      case measure => simp [intOf]; omega
    · obtain rfl : k = 64 := by omega
      have hc : ¬ ((64 : Nat) : Int) < 64 := by omega
      rw [List.take_of_length_le (by rw [HG.out]; omega)] at ho
      go_wp2
      go_ret
      exact ⟨_, rfl, by rw [HGG.out]; exact ho.mono (Nat.le_of_lt hs1), by rw [HGG.out]; exact hb1.trans (hb.mono (Nat.le_of_lt hs1))⟩
end Go.Proofs.Ytebegdifnkifgaa
