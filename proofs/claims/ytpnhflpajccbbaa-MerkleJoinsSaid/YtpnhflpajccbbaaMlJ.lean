/-
  Layer 8: MerkleJoins as a call. Conditions: those in each statement.
-/
import Derived.Test.YtpnhflpajccbbaaMkZ
import Derived.Test.YtpnhflpajccbbaaMkW
namespace Go.Proofs.Ytpnhflpajccbbaa
open Go.RowKit

theorem log2_is {m j : Nat} (h1 : 2 ^ j ≤ m) (h2 : m < 2 ^ (j + 1)) : m.log2 = j := by
  have hp := Nat.two_pow_pos j
  have hm : m ≠ 0 := by omega
  have a : j ≤ m.log2 := by rw [Nat.le_log2 hm]; exact h1
  have b : m.log2 < j + 1 := by rw [Nat.log2_lt hm]; exact h2
  omega
theorem peaksGo_step (f : Nat) (L : List (List UInt8)) (A K : Nat) (hA : A < L.length) (hf : L.length - A ≤ f) (hK : K = 2 ^ (L.length - A).log2) :
    ∃ f', f = f' + 1 ∧ peaksGo f (L.drop A) = rootF ((L.drop A).take K) :: peaksGo f' (L.drop (A + K)) := by
  obtain ⟨f', rfl⟩ : ∃ g, f = g + 1 := ⟨f - 1, by omega⟩
  refine ⟨f', rfl, ?_⟩
  have hl : (L.drop A).length = L.length - A := List.length_drop
  rw [peaksGo, if_neg (by omega), hl, ← hK, List.drop_drop]
theorem foldP_drop (P : List (List UInt8)) (t : Nat) (h0 : 0 < t) (h : t < P.length) : foldP (P.drop (t - 1)) = nodeH (P.getD (t - 1) []) (foldP (P.drop t)) := by
  have e1 : P.drop (t - 1) = P.getD (t - 1) [] :: P.drop t := by
    rw [List.drop_eq_getElem_cons (by omega), show t - 1 + 1 = t by omega]
    simp [List.getD, show t - 1 < P.length by omega]
  have e2 : P.drop t = P.getD t [] :: P.drop (t + 1) := by
    rw [List.drop_eq_getElem_cons h]
    simp [List.getD, h]
  rw [e1, e2]
  rfl
theorem foldP_last (P : List (List UInt8)) (h : 0 < P.length) : foldP (P.drop (P.length - 1)) = P.getD (P.length - 1) [] := by
  have e1 : P.drop (P.length - 1) = [P.getD (P.length - 1) []] := by
    rw [List.drop_eq_getElem_cons (by omega), show P.length - 1 + 1 = P.length by omega, List.drop_length]
    simp [List.getD, show P.length - 1 < P.length by omega]
  rw [e1]
  rfl
theorem foldP_len {P : List (List UInt8)} : ∀ _ : All32 P, (foldP P).length = 32 := by
  induction P with
  | nil => intro _; exact shaL_len _
  | cons a r ih =>
    intro h
    cases r with
    | nil =>
      show a.length = 32
      exact h.mem (by simp)
    | cons b r => exact shaL_len _

structure InvJoinA (RT RA RB : List UInt8) (b off n c k : Nat) (u2 u13 u14 u21 u22 u23 u24 u25 u26 u27 u28 u29 u30 u31 u32 : Value) (wb : World) (L : Nat → Bool) (v21 v22 v23 v24 v25 v26 v27 v28 v29 v30 v31 v32 : Value) (wx : World) : Prop where
  t0 : L 0 = true → v21 = .slice (some ⟨b, off, none⟩) n c
  t1 : L 1 = true → v22 = .agg (bvs RT).toArray
  t2 : L 2 = true → v23 = .slice (some ⟨b, off, none⟩) n c
  t3 : L 3 = true → v24 = .int .i64 (k : Int)
  t4 : L 4 = true → v25 = .slice (some ⟨b, off, none⟩) k c
  t5 : L 5 = true → v26 = .agg (bvs RA).toArray
  t6 : L 6 = true → v27 = .slice (some ⟨b, off, none⟩) n c
  t7 : L 7 = true → v28 = .int .i64 (k : Int)
  t8 : L 8 = true → v29 = .slice (some ⟨b, off + k * 32, none⟩) (n - k) (c - k)
  t9 : L 9 = true → v30 = .agg (bvs RB).toArray
  t10 : L 10 = true → v31 = .agg (bvs RT).toArray
  t11 : L 11 = true → v32 = .bool false
  bw : Below wb.heap.size wb wx

structure InvJoinB (Y F FN : List UInt8) (gp cp g7 rr m : Nat) (u2 u6 u13 u14 u15 u16 u17 u18 u19 u20 u21 u22 u23 u24 u25 u26 u27 u28 u29 u30 u31 u32 u41 u42 u43 u44 u45 u46 u47 u48 u49 u50 u51 u52 u53 u54 u55 u56 u57 u58 u59 u60 u61 u62 u74 u75 u76 u77 u78 u79 u80 u81 : Value) (w0 : World) (L : Nat → Bool) (v76 v77 v78 v79 v80 v81 : Value) (wx : World) : Prop where
  t0 : L 0 = true → v76 = .slice (some ⟨gp, 0, none⟩) m cp
  t1 : L 1 = true → v77 = .int .i64 (rr : Int)
  t2 : L 2 = true → v78 = .pointer (some ⟨gp, rr * 32, none⟩)
  t3 : L 3 = true → v79 = .agg (bvs Y).toArray
  t4 : L 4 = true → v80 = .agg (bvs F).toArray
  t5 : L 5 = true → v81 = .agg (bvs FN).toArray
  a7 : Arr wx g7 25 (bvs (if L 6 then FN else F))
  bw : KB (fun q => q = g7) w0 wx

structure InvJoinC (RT : List UInt8) (b off A c g7 : Nat) (wb : World) (L : Nat → Bool) (v : Nat → Value) (wx : World) : Prop where
  t0 : L 0 = true → (v 82) = .agg (bvs RT).toArray
  t1 : L 1 = true → (v 83) = .slice (some ⟨b, off, none⟩) A c
  t2 : L 2 = true → (v 84) = .agg (bvs RT).toArray
  t3 : L 3 = true → (v 85) = .bool true
  t4 : L 4 = true → (v 86) = .bool true
  t5 : L 5 = true → (v 87) = .bool true
  t6 : L 6 = true → (v 88) = .bool true
  t7 : L 7 = true → (v 2) = .bool true
  a7 : Arr wx g7 25 (bvs RT)
  bw : Below wb.heap.size wb wx


set_option maxRecDepth 100000 in
set_option maxHeartbeats 3200000 in
theorem Joins_any (L : List (List UInt8)) (al : Option Addr) (n c : Nat) (w : World) (hn : n ≤ 2 ^ 42) (hr : RdD w al n c L) :
    Calls Try.prog 5 #[.slice al n c] w fun e w' => e = .returned (.bool true) ∧ Below w.heap.size w w' := by
  have hl := hr.len
  have hcap := hr.le
  have lRT := rootF_len hr.all
  obtain ⟨RT, hRT⟩ : ∃ r, r = rootF L := ⟨_, rfl⟩
  rw [← hRT] at lRT
  have HRT := Lib.hid hRT
  have HRW : Hid (∀ wx, Below w.heap.size w wx → Calls Try.prog 11 #[.slice al n c] wx fun e w' => e = .returned (.agg (bvs RT).toArray) ∧ Below wx.heap.size wx w') := fun wx hb => by
    have := Root_any _ L (Nat.le_refl _) al n c wx (by omega) (hr.to hb)
    rwa [← hRT] at this
  have HQ : Hid (∀ w, _) := fun w => eqSame lRT w
  clear hRT
  go_enter Try.func5, Try.ntmps5
  go_wp2_with fail
  go_loopw [3] (fun kk wr => ∃ j : Nat, kk = .int .i64 ((2 ^ j : Nat) : Int) ∧ 2 ^ j ≤ 2 * n + 1 ∧ Below w.heap.size w wr) (fun kk _ => 2 * n + 2 - (intOf kk).toNat)
  case atStart => exact ⟨0, rfl, by omega, Below.refl _ _⟩
  case round =>
    obtain ⟨j, rfl, hkn, hB⟩ := hrel
    have hp0 : 0 < 2 ^ j := Nat.two_pow_pos j
    have hp2 : 2 ^ (j + 1) = 2 * 2 ^ j := by rw [Nat.pow_succ, Nat.mul_comm]
    obtain ⟨k, hk⟩ : ∃ k, k = 2 ^ j := ⟨_, rfl⟩
    rw [← hk] at hp0 hp2 hkn ⊢
    have H2 := Lib.hid hp2
    have HK := Lib.hid hk
    clear hp2 hk
    by_cases hlt : k < n
    · have hkn' : (k : Int) < (n : Int) := by omega
      by_cases hgt : k < n - k
      · have hg' : (k : Int) < (n : Int) - (k : Int) := by omega
        go_wp2_with fail
        go_roundw
        case rel => exact ⟨j + 1, by rw [H2.out]; go_num, by rw [H2.out]; omega, hB⟩
        case measure => simp [intOf]; omega
      · have hg' : ¬ ((k : Int) < (n : Int) - (k : Int)) := by omega
        obtain ⟨b, off, rfl, hbl, -⟩ := hr.mem (by omega)
        have hjn := rootF_join j (L.take k) (L.drop k) (by rw [List.length_take, ← HK.out]; omega) (by rw [List.length_drop]; omega) (by rw [List.length_drop, ← HK.out]; omega)
        rw [List.take_append_drop, ← HRT.out] at hjn
        have lA := rootF_len (hr.all.take k)
        have lB := rootF_len (hr.all.drop k)
        have HRA : Hid (∀ wx, Below wr.heap.size wr wx → Calls Try.prog 11 #[.slice (some ⟨b, off, none⟩) k c] wx fun e w' => e = .returned (.agg (bvs (rootF (L.take k))).toArray) ∧ Below wx.heap.size wx w') := fun wx hb => Root_any _ _ (Nat.le_refl _) _ k c wx (by omega) (((hr.to hB).to hb).take k (by omega))
        have HRB : Hid (∀ wx, Below wr.heap.size wr wx → Calls Try.prog 11 #[.slice (some ⟨b, off + k * 32, none⟩) (n - k) (c - k)] wx fun e w' => e = .returned (.agg (bvs (rootF (L.drop k))).toArray) ∧ Below wx.heap.size wx w') := fun wx hb => Root_any _ _ (Nat.le_refl _) _ (n - k) (c - k) wx (by omega) (((hr.to hB).to hb).drop k (by omega))
        have HRL : Hid (∀ wx, Below wr.heap.size wr wx → Calls Try.prog 11 #[.slice (some ⟨b, off, none⟩) n c] wx fun e w' => e = .returned (.agg (bvs RT).toArray) ∧ Below wx.heap.size wx w') := fun wx hb => HRW.out wx (hB.trans (hb.mono hB.size))
        have HNN : Hid (∀ wx, Calls Try.prog 19 #[.agg (bvs (rootF (L.take k))).toArray, .agg (bvs (rootF (L.drop k))).toArray] wx fun e w' => e = .returned (.agg (bvs RT).toArray) ∧ Below wx.heap.size wx w') := fun wx => by
          have := Node_any _ _ wx lA lB
          rwa [← hjn] at this
        have HCX : Hid (¬ (c = k)) := by show ¬ _; omega
        have HB := Lib.hid hB
        have HBs := Lib.hid hB.size
        generalize rootF (L.take k) = RA at *
        generalize rootF (L.drop k) = RB at *
        have c1 : (0 : Int) ≤ (k : Int) := by omega
        have c2 : (k : Int) ≤ (n : Int) := by omega
        have c3 : (k : Int) ≤ (c : Int) := by omega
        have c4 : (n : Int) ≤ (c : Int) := by omega
        clear hjn lA lB hB hgt hr lRT HRW
        go_upto_region 5 with fail
        refine wp_region_steps [[], [0], [], [], [2, 3], [4], [], [], [6, 7], [8], [5, 9], [1, 10]] (by kernel_rfl) (by kernel_rfl) (fun L a wx => ∃ v21 v22 v23 v24 v25 v26 v27 v28 v29 v30 v31 v32, a = ⟨#[.slice (some ⟨b, off, none⟩) n c, undef, u2, .int .i64 ↑k, undef, undef, undef, undef, undef, .int .i64 ↑k, .slice (some ⟨b, off, none⟩) n c, .int .i64 ↑n, .bool true, u13, u14, .slice (some ⟨b, off, none⟩) n c, .int .i64 ↑n, .int .i64 ↑k, .int .i64 (↑n - ↑k), .int .i64 ↑k, .bool false, v21, v22, v23, v24, v25, v26, v27, v28, v29, v30, v31, v32, undef, undef, undef, undef, undef, undef, undef, undef, undef, undef, undef, undef, undef, undef, undef, undef, undef, undef, undef, undef, undef, undef, undef, undef, undef, undef, undef, undef, undef, undef, undef, undef, undef, undef, undef, undef, undef, undef, undef, undef, undef, undef, undef, undef, undef, undef, undef, undef, undef, undef, undef, undef, undef, undef, undef, undef], []⟩ ∧ InvJoinA RT RA RB b off n c k u2 u13 u14 u21 u22 u23 u24 u25 u26 u27 u28 u29 u30 u31 u32 wr L v21 v22 v23 v24 v25 v26 v27 v28 v29 v30 v31 v32 wx) ?_ ⟨?_, ?_, ?_, ?_, ?_, ?_, ?_, ?_, ?_, ?_, ?_, ?_, trivial⟩ ?_
        · refine ⟨_, _, _, _, _, _, _, _, _, _, _, _, rfl, ⟨?_, ?_, ?_, ?_, ?_, ?_, ?_, ?_, ?_, ?_, ?_, ?_, (Below.refl _ _).drew⟩⟩ <;> (intro h; exact absurd h (by decide))
        · rintro L a wx ⟨v21, v22, v23, v24, v25, v26, v27, v28, v29, v30, v31, v32, rfl, hI⟩ hL hdep hcl K hK
          go_simp
          exact hK _ _ ⟨_, v22, v23, v24, v25, v26, v27, v28, v29, v30, v31, v32, rfl, ⟨fun _ => rfl, hI.t1, hI.t2, hI.t3, hI.t4, hI.t5, hI.t6, hI.t7, hI.t8, hI.t9, hI.t10, hI.t11, hI.bw⟩⟩
        · rintro L a wx ⟨v21, v22, v23, v24, v25, v26, v27, v28, v29, v30, v31, v32, rfl, hI⟩ hL hdep hcl K hK
          obtain rfl := hI.t0 (hdep 0 (by decide))
          have HC := HRL.out wx hI.bw
          go_simp
          refine HC.mono ?_
          rintro e w' ⟨rfl, hb⟩
          exact hK _ _ ⟨_, _, v23, v24, v25, v26, v27, v28, v29, v30, v31, v32, rfl, ⟨hI.t0, fun _ => rfl, hI.t2, hI.t3, hI.t4, hI.t5, hI.t6, hI.t7, hI.t8, hI.t9, hI.t10, hI.t11, (hI.bw).trans (hb.mono (hI.bw).size)⟩⟩
        · rintro L a wx ⟨v21, v22, v23, v24, v25, v26, v27, v28, v29, v30, v31, v32, rfl, hI⟩ hL hdep hcl K hK
          go_simp
          exact hK _ _ ⟨v21, v22, _, v24, v25, v26, v27, v28, v29, v30, v31, v32, rfl, ⟨hI.t0, hI.t1, fun _ => rfl, hI.t3, hI.t4, hI.t5, hI.t6, hI.t7, hI.t8, hI.t9, hI.t10, hI.t11, hI.bw⟩⟩
        · rintro L a wx ⟨v21, v22, v23, v24, v25, v26, v27, v28, v29, v30, v31, v32, rfl, hI⟩ hL hdep hcl K hK
          go_simp
          exact hK _ _ ⟨v21, v22, v23, _, v25, v26, v27, v28, v29, v30, v31, v32, rfl, ⟨hI.t0, hI.t1, hI.t2, fun _ => rfl, hI.t4, hI.t5, hI.t6, hI.t7, hI.t8, hI.t9, hI.t10, hI.t11, hI.bw⟩⟩
        · rintro L a wx ⟨v21, v22, v23, v24, v25, v26, v27, v28, v29, v30, v31, v32, rfl, hI⟩ hL hdep hcl K hK
          obtain rfl := hI.t2 (hdep 2 (by decide))
          obtain rfl := hI.t3 (hdep 3 (by decide))
          go_simp
          exact hK _ _ ⟨v21, v22, _, _, _, v26, v27, v28, v29, v30, v31, v32, rfl, ⟨hI.t0, hI.t1, hI.t2, hI.t3, fun _ => rfl, hI.t5, hI.t6, hI.t7, hI.t8, hI.t9, hI.t10, hI.t11, hI.bw⟩⟩
        · rintro L a wx ⟨v21, v22, v23, v24, v25, v26, v27, v28, v29, v30, v31, v32, rfl, hI⟩ hL hdep hcl K hK
          obtain rfl := hI.t4 (hdep 4 (by decide))
          have HC := HRA.out wx hI.bw
          go_simp
          refine HC.mono ?_
          rintro e w' ⟨rfl, hb⟩
          exact hK _ _ ⟨v21, v22, v23, v24, _, _, v27, v28, v29, v30, v31, v32, rfl, ⟨hI.t0, hI.t1, hI.t2, hI.t3, hI.t4, fun _ => rfl, hI.t6, hI.t7, hI.t8, hI.t9, hI.t10, hI.t11, (hI.bw).trans (hb.mono (hI.bw).size)⟩⟩
        · rintro L a wx ⟨v21, v22, v23, v24, v25, v26, v27, v28, v29, v30, v31, v32, rfl, hI⟩ hL hdep hcl K hK
          go_simp
          exact hK _ _ ⟨v21, v22, v23, v24, v25, v26, _, v28, v29, v30, v31, v32, rfl, ⟨hI.t0, hI.t1, hI.t2, hI.t3, hI.t4, hI.t5, fun _ => rfl, hI.t7, hI.t8, hI.t9, hI.t10, hI.t11, hI.bw⟩⟩
        · rintro L a wx ⟨v21, v22, v23, v24, v25, v26, v27, v28, v29, v30, v31, v32, rfl, hI⟩ hL hdep hcl K hK
          go_simp
          exact hK _ _ ⟨v21, v22, v23, v24, v25, v26, v27, _, v29, v30, v31, v32, rfl, ⟨hI.t0, hI.t1, hI.t2, hI.t3, hI.t4, hI.t5, hI.t6, fun _ => rfl, hI.t8, hI.t9, hI.t10, hI.t11, hI.bw⟩⟩
        · rintro L a wx ⟨v21, v22, v23, v24, v25, v26, v27, v28, v29, v30, v31, v32, rfl, hI⟩ hL hdep hcl K hK
          obtain rfl := hI.t6 (hdep 6 (by decide))
          obtain rfl := hI.t7 (hdep 7 (by decide))
          have hcx := HCX.out
          go_simp
          exact hK _ _ ⟨v21, v22, v23, v24, v25, v26, _, _, _, v30, v31, v32, rfl, ⟨hI.t0, hI.t1, hI.t2, hI.t3, hI.t4, hI.t5, hI.t6, hI.t7, fun _ => rfl, hI.t9, hI.t10, hI.t11, hI.bw⟩⟩
        · rintro L a wx ⟨v21, v22, v23, v24, v25, v26, v27, v28, v29, v30, v31, v32, rfl, hI⟩ hL hdep hcl K hK
          obtain rfl := hI.t8 (hdep 8 (by decide))
          have HC := HRB.out wx hI.bw
          go_simp
          refine HC.mono ?_
          rintro e w' ⟨rfl, hb⟩
          exact hK _ _ ⟨v21, v22, v23, v24, v25, v26, v27, v28, _, _, v31, v32, rfl, ⟨hI.t0, hI.t1, hI.t2, hI.t3, hI.t4, hI.t5, hI.t6, hI.t7, hI.t8, fun _ => rfl, hI.t10, hI.t11, (hI.bw).trans (hb.mono (hI.bw).size)⟩⟩
        · rintro L a wx ⟨v21, v22, v23, v24, v25, v26, v27, v28, v29, v30, v31, v32, rfl, hI⟩ hL hdep hcl K hK
          obtain rfl := hI.t5 (hdep 5 (by decide))
          obtain rfl := hI.t9 (hdep 9 (by decide))
          have HC := HNN.out wx
          go_simp
          refine HC.mono ?_
          rintro e w' ⟨rfl, hb⟩
          exact hK _ _ ⟨v21, v22, v23, v24, v25, _, v27, v28, v29, _, _, v32, rfl, ⟨hI.t0, hI.t1, hI.t2, hI.t3, hI.t4, hI.t5, hI.t6, hI.t7, hI.t8, hI.t9, fun _ => rfl, hI.t11, (hI.bw).trans (hb.mono (hI.bw).size)⟩⟩
        · rintro L a wx ⟨v21, v22, v23, v24, v25, v26, v27, v28, v29, v30, v31, v32, rfl, hI⟩ hL hdep hcl K hK
          obtain rfl := hI.t1 (hdep 1 (by decide))
          obtain rfl := hI.t10 (hdep 10 (by decide))
          have hq := HQ.out wx
          go_simp
          exact hK _ _ ⟨v21, _, v23, v24, v25, v26, v27, v28, v29, v30, _, _, rfl, ⟨hI.t0, hI.t1, hI.t2, hI.t3, hI.t4, hI.t5, hI.t6, hI.t7, hI.t8, hI.t9, hI.t10, fun _ => rfl, hI.bw⟩⟩
        · rintro a wx ⟨v21, v22, v23, v24, v25, v26, v27, v28, v29, v30, v31, v32, rfl, hI⟩
          have e := hI.t11 rfl
          subst e
          have hbw := hI.bw
          clear hI
          go_wp2_with fail
          go_roundw
          case rel => exact ⟨j + 1, by rw [H2.out]; go_num, by rw [H2.out]; omega, HB.out.trans (hbw.mono HBs.out)⟩
          case measure => simp [intOf]; omega
    · have hkn' : ¬ ((k : Int) < (n : Int)) := by omega
      clear hlt hkn hp0
      by_cases h0 : n = 0
      · have e0 : ((n : Int) == 0) = true := by rw [h0]; rfl
        go_wp2_with (go_at_call 16; refine (wakes_any _).mono ?_; rintro e wx ⟨rfl, hbx⟩)
        go_ret
        exact ⟨rfl, hB.trans (hbx.mono hB.size)⟩
      · have e0 : ((n : Int) == 0) = false := by simp only [beq_eq_false_iff_ne]; omega
        obtain ⟨b, off, rfl, hbl, -⟩ := hr.mem (by omega)
        go_wp2_with fail
        go_loopw [4, 5, 6] (fun pv at_ _ wq => ∃ (A f : Nat) (P : List (List UInt8)), A ≤ n ∧ at_ = .int .i64 (A : Int) ∧ P.length ≤ A ∧ (0 < A → 0 < P.length) ∧ n - A ≤ f ∧ P ++ peaksGo f (L.drop A) = peaksF L ∧ OwnD wq w.heap.size pv P ∧ Below w.heap.size w wq) (fun _ at_ _ _ => n - (intOf at_).toNat)
        case atStart => exact ⟨0, L.length, [], Nat.zero_le _, rfl, Nat.le_refl _, fun h => absurd h (by omega), by omega, rfl, OwnD.nil _ _, hB⟩
        case round =>
          clear hB
          obtain ⟨A, f, P, hAn, rfl, hPA, hP0, hf, hpk, hown, hB⟩ := hrel
          by_cases hA : A < n
          · have hA' : (A : Int) < (n : Int) := by omega
            obtain ⟨m, hm⟩ : ∃ m, m = n - A := ⟨_, rfl⟩
            have hm' : (n : Int) - (A : Int) = (m : Int) := by omega
            have HST : Hid (∀ K, K = 2 ^ m.log2 → ∃ f', f = f' + 1 ∧ peaksGo f (L.drop A) = rootF ((L.drop A).take K) :: peaksGo f' (L.drop (A + K))) := fun K hK => peaksGo_step f L A K (by omega) (by omega) (by rw [hK, hm, hl])
            have HPK := Lib.hid hpk
            have HM := Lib.hid hm
            have HF := Lib.hid hf
            clear hpk hm hf hP0
            go_wp2_with fail
            go_loopw [6] (fun kk wq => ∃ j : Nat, kk = .int .i64 ((2 ^ j : Nat) : Int) ∧ 2 ^ j ≤ m ∧ wq = wr) (fun kk _ => m + 1 - (intOf kk).toNat)
            case atStart => exact ⟨0, rfl, by have := HM.out; simp; omega, rfl⟩
            case round =>
              obtain ⟨j, rfl, hjm, rfl⟩ := hrel
              have hp0 : 0 < 2 ^ j := Nat.two_pow_pos j
              have hp2 : 2 ^ (j + 1) = 2 * 2 ^ j := by rw [Nat.pow_succ, Nat.mul_comm]
              have hlog : m < 2 ^ (j + 1) → 2 ^ j = 2 ^ m.log2 := fun h => by rw [log2_is hjm h]
              obtain ⟨k, hk⟩ : ∃ k, k = 2 ^ j := ⟨_, rfl⟩
              rw [← hk] at hp0 hp2 hjm hlog ⊢
              rw [hp2] at hlog
              have H2 := Lib.hid hp2
              clear hp2 hk
              have hmn : m ≤ 2 ^ 42 := by have := HM.out; omega
              by_cases h2 : 2 * k ≤ m
              · have h2' : 2 * (k : Int) ≤ (m : Int) := by omega
                clear hlog
                go_wp2_with fail
                go_roundw
                case rel => exact ⟨j + 1, by rw [H2.out]; go_num, by rw [H2.out]; exact h2, by trivial⟩
                case measure => simp [intOf]; omega
              · have h2' : ¬ (2 * (k : Int) ≤ (m : Int)) := by omega
                have hk2 := hlog (by omega)
                obtain ⟨f', hf', hst⟩ := HST.out k hk2
                have hkA : A + k ≤ n := by have := HM.out; omega
                have hS32 := rootF_len ((hr.all.drop A).take k)
                have hRt := Root_any _ _ (Nat.le_refl _) _ k (c - A) wr (by omega) (((hr.to hB).drop A (by omega)).take k (by omega))
                have HPK2 : Hid ((P ++ [rootF ((L.drop A).take k)]) ++ peaksGo f' (L.drop (A + k)) = peaksF L) := by
                  show _ = _
                  rw [List.append_assoc, ← HPK.out, hst]
                  rfl
                have hf2 : n - (A + k) ≤ f' := by have := HF.out; omega
                generalize rootF ((L.drop A).take k) = S at *
                have hcA : ¬ (c = A) := by omega
                have c1 : (0 : Int) ≤ (A : Int) := by omega
                have c2 : (A : Int) ≤ (A : Int) + (k : Int) := by omega
                have c3 : (A : Int) + (k : Int) ≤ (c : Int) := by omega
                have ek : A + k - A = k := by omega
                clear hlog hk2 hf' hst
                go_wp2_with (first
                  | (go_at_call 11; refine hRt.mono ?_; rintro _ w1 ⟨rfl, h1⟩)
                  | ((with_reducible show wpList _ _ _ (⟨some 58, .buildSlice _ _ _, _, _, _, _⟩ :: _) _ _); refine wl_litD rfl 57 rfl S hS32 rfl ?_; intro w2 hA2 h2)
                  | (at_builtin; refine wl_appendD rfl (.tmp 50) (.tmp 58) rfl w.heap.size u4 P rfl ((hown.to h1).to h2) w1.heap.size S rfl hA2 hS32 (by omega) (by have := hB.size; have := h1.size; have := h2.size; omega) ?_; intro v3 w3 ho3 hb3))
                go_roundw
                case rel =>
                  have z0 := hB.size
                  have z1 := h1.size
                  exact ⟨A + k, f', P ++ [S], hkA, by go_num, by simp; omega, fun _ => by simp, hf2, HPK2.out, ho3, hB.trans (((h1.mono z0).trans (h2.mono (by omega))).trans hb3)⟩
                case measure => simp [intOf]; omega
          · obtain rfl : A = n := by omega
            have hA' : ¬ ((A : Int) < (A : Int)) := by omega
            have hPP : P = peaksF L := by
              rw [List.drop_of_length_le (by omega), peaksGo_nil, List.append_nil] at hpk
              exact hpk
            have hfold : Hid (foldP P = RT) := by show _ = _; rw [hPP, foldP_root, HRT.out]
            have hPl := hP0 (by omega)
            obtain ⟨gp, cp, rfl, hgp, hgpl⟩ := hown.solid hPl
            have hrp := hown.rdAt
            obtain ⟨m, hm⟩ : ∃ m, m = P.length := ⟨_, rfl⟩
            have hlast := foldP_last P hPl
            have hlF := foldP_len (hown.all.drop (P.length - 1))
            rw [hlast] at hlF
            have HFD : Hid (∀ t, 0 < t → t < m → foldP (P.drop (t - 1)) = nodeH (P.getD (t - 1) []) (foldP (P.drop t))) := fun t h1 h2 => foldP_drop P t h1 (by rw [← hm]; exact h2)
            rw [← hm] at hrp hPl hlast hlF hPA ⊢
            have hrange := hrp.range (m - 1) (by omega)
            rw [Nat.zero_add] at hrange
            obtain ⟨X, hX⟩ : ∃ X, X = P.getD (m - 1) [] := ⟨_, rfl⟩
            rw [← hX] at hrange hlF hlast
            have IX : Hid ((Try.prog.info? 25).map (·.size) = some (bvs X).length) := by show _ = _; rw [bvs_len, hlF]; exact sizeD
            have FX : Hid (0 + (bvs X).length ≤ (bvs (Z8 32)).length) := by show _ ≤ _; rw [bvs_len X, hlF]; exact (by decide : 0 + 32 ≤ (bvs (Z8 32)).length)
            have TX : Hid ((bvs (Z8 32)).length = (bvs X).length) := by show _ = _; rw [bvs_len X, hlF]; rfl
            have hm1 : (m : Int) - 1 = ((m - 1 : Nat) : Int) := by omega
            obtain ⟨s, hs⟩ : ∃ s, s = m - 1 := ⟨_, rfl⟩
            rw [← hs] at hm1 hrange hlast
            have i1 : (0 : Int) ≤ (s : Int) := by omega
            have i2 : (s : Int) < (m : Int) := by omega
            have HLA := Lib.hid hlast
            have HRP := Lib.hid hrp
            have HAL := Lib.hid hown.all
            have HMM := Lib.hid hm
            have hsm : (m : Int) - 2 = (s : Int) - 1 := by omega
            have hm42 : m ≤ 2 ^ 42 := by omega
            clear hpk hP0 hPP hown hrp hX hf hPl hlF hlast hm hs
            go_upto_region 18 with (first
              | ((with_reducible show wpList _ _ _ (⟨some 68, .load _ _, _, _, _, _⟩ :: _) _ _); refine wpList_load_mid rfl 25 _ rfl gp (s * 32) rfl (bvs X) (.array 32 5) hrange Try.underlying25 rfl IX.out ?_)
              | ((with_reducible show wpList _ _ _ (⟨some 7, .alloc _, _, _, _, _⟩ :: _) _ _); refine wl_alloc rfl 25 rfl (bvs (Z8 32)) 32 infoD ?_; intro w3 hA3 hb3 hs3)
              | ((with_reducible show wpList _ _ _ (⟨none, .store _ (.tmp 7) _, _, _, _, _⟩ :: _) _ _); refine wl_store rfl 25 _ _ rfl wr.heap.size 0 rfl (bvs X) rfl 25 _ hA3 IX.out FX.out (bvs_one _) ?_; intro w17 hA4 hg4 hs4))
            rw [whole_store _ _ TX.out] at hA4
            have hb4 : Below wr.heap.size wr w17 := hb3.grown hg4 (by omega) (by intro k e; injection e with e; omega)
            obtain ⟨g7, hg7⟩ : ∃ g, wr.heap.size = g := ⟨_, rfl⟩
            have HR17 := Lib.hid (HRP.out.to hb4)
            have B17 := Lib.hid (hB.trans (hb4.mono hB.size))
            have hw7 : w.heap.size ≤ g7 := by have := hB.size; omega
            rw [hg7] at hA4 hgpl ⊢
            have hsz17 := hA4.lt
            have HGP : Hid (gp < g7) := hgpl
            have HW7 := Lib.hid hw7
            have HBL : Hid (b < w.heap.size) := hbl
            clear hA3 hb3 hg4 hs3 hs4 hb4 hg7 hB hrange hgp hgpl hw7 hbl
            go_wp2_with fail
            go_loopw [8] (fun ii wr => ∃ t : Nat, t ≤ s ∧ ii = .int .i64 ((t : Int) - 1) ∧ Arr wr g7 25 (bvs (foldP (P.drop t))) ∧ KB (fun q => q = g7) w17 wr) (fun ii _ => (intOf ii + 1).toNat)
            case atStart => exact ⟨s, Nat.le_refl _, rfl, by rw [HLA.out]; exact hA4, KB.refl _ _⟩
            case round =>
              clear hA4
              obtain ⟨t, hts, rfl, hA, hK⟩ := hrel
              by_cases h1 : 0 < t
              · have ht0 : (0 : Int) ≤ (t : Int) - 1 := by omega
                have hfd := HFD.out t h1 (by omega)
                obtain ⟨rr, hrr⟩ : ∃ x, x = t - 1 := ⟨_, rfl⟩
                rw [← hrr] at hfd
                have htr : (t : Int) - 1 = (rr : Int) := by omega
                rw [htr]
                have lX := HAL.out rr (by rw [← HMM.out]; omega)
                have lF := foldP_len (HAL.out.drop t)
                have hrg := HR17.out.range rr (by omega)
                rw [Nat.zero_add] at hrg
                obtain ⟨Y, hY⟩ : ∃ X, X = P.getD rr [] := ⟨_, rfl⟩
                rw [← hY] at hfd lX hrg
                have HNN : Hid (∀ wx, Calls Try.prog 19 #[.agg (bvs Y).toArray, .agg (bvs (foldP (P.drop t))).toArray] wx fun e w' => e = .returned (.agg (bvs (nodeH Y (foldP (P.drop t)))).toArray) ∧ Below wx.heap.size wx w') := fun wx => Node_any _ _ wx lX lF
                have lN : (nodeH Y (foldP (P.drop t))).length = 32 := shaL_len _
                rw [← hfd] at HNN lN
                have HRG : Hid (∀ wx, KB (fun q => q = g7) w17 wx → wx.rangeAt gp (rr * 32) (bvs Y)) := fun wx hx j v hj => (hx.cell (p := ⟨gp, rr * 32 + j, none⟩) (by have := HGP.out; show gp < _; omega) (by have := HGP.out; show ¬ (gp = g7); omega)).trans (hrg j v hj)
                have IY : Hid ((Try.prog.info? 25).map (·.size) = some (bvs Y).length) := by show _ = _; rw [bvs_len, lX]; exact sizeD
                obtain ⟨F, hF⟩ : ∃ F, F = foldP (P.drop t) := ⟨_, rfl⟩
                obtain ⟨FN, hFN⟩ : ∃ F, F = foldP (P.drop rr) := ⟨_, rfl⟩
                rw [← hF] at hA lF HNN
                rw [← hFN] at HNN lN
                have HFN := Lib.hid hFN
                have IF : Hid ((Try.prog.info? 25).map (·.size) = some (bvs F).length) := by show _ = _; rw [bvs_len, lF]; exact sizeD
                have IFN : Hid ((Try.prog.info? 25).map (·.size) = some (bvs FN).length) := by show _ = _; rw [bvs_len, lN]; exact sizeD
                have LF : Hid ((bvs F).length = 32) := by show _ = _; rw [bvs_len]; exact lF
                have LFN : Hid ((bvs FN).length = 32) := by show _ = _; rw [bvs_len]; exact lN
                have HS0 : Hid ((0 : Int) ≤ (rr : Int)) := by show _ ≤ _; omega
                have HSM : Hid ((rr : Int) < (m : Int)) := by show _ < _; omega
                have hrt : rr < t := by omega
                have hr0 : (0 : Int) ≤ (rr : Int) := by omega
                clear hfd lX lF lN hrg hY hF hFN hrr htr
                go_upto_region 21 with fail
                refine wp_region_steps [[], [], [0, 1], [2], [], [3, 4], [5, 0, 1, 2, 3, 4]] (by kernel_rfl) (by kernel_rfl) (fun L a wx => ∃ v76 v77 v78 v79 v80 v81, a = ⟨#[.slice (some ⟨b, off, none⟩) A c, undef, u2, .int .i64 ↑k, .slice (some ⟨gp, 0, none⟩) m cp, .int .i64 ↑A, u6, .pointer (some ⟨g7, 0, none⟩), .int .i64 ↑rr, .int .i64 ↑k, .slice (some ⟨b, off, none⟩) A c, .int .i64 ↑A, .bool false, u13, u14, u15, u16, u17, u18, u19, u20, u21, u22, u23, u24, u25, u26, u27, u28, u29, u30, u31, u32, .slice (some ⟨b, off, none⟩) A c, .int .i64 ↑A, .bool false, undef, .int .i64 ↑A, .slice (some ⟨b, off, none⟩) A c, .int .i64 ↑A, .bool false, u41, u42, u43, u44, u45, u46, u47, u48, u49, u50, u51, u52, u53, u54, u55, u56, u57, u58, u59, u60, u61, u62, .slice (some ⟨gp, 0, none⟩) m cp, .slice (some ⟨gp, 0, none⟩) m cp, .int .i64 ↑m, .int .i64 ↑s, .pointer (some ⟨gp, s * 32, none⟩), .agg (bvs X).toArray, .slice (some ⟨gp, 0, none⟩) m cp, .int .i64 ↑m, .int .i64 (↑s - 1), .int .i64 ↑rr, .bool true, u74, u75, v76, v77, v78, v79, v80, v81, undef, undef, undef, undef, undef, undef, undef], []⟩ ∧ InvJoinB Y F FN gp cp g7 rr m u2 u6 u13 u14 u15 u16 u17 u18 u19 u20 u21 u22 u23 u24 u25 u26 u27 u28 u29 u30 u31 u32 u41 u42 u43 u44 u45 u46 u47 u48 u49 u50 u51 u52 u53 u54 u55 u56 u57 u58 u59 u60 u61 u62 u74 u75 u76 u77 u78 u79 u80 u81 w17 L v76 v77 v78 v79 v80 v81 wx) ?_ ⟨?_, ?_, ?_, ?_, ?_, ?_, ?_, trivial⟩ ?_
                · refine ⟨_, _, _, _, _, _, rfl, ⟨?_, ?_, ?_, ?_, ?_, ?_, hA.drew, hK.drew⟩⟩ <;> (intro h; exact absurd h (by decide))
                · rintro L a wx ⟨v76, v77, v78, v79, v80, v81, rfl, hI⟩ hL hdep hcl K hK
                  go_simp
                  exact hK _ _ ⟨_, v77, v78, v79, v80, v81, rfl, ⟨fun _ => rfl, hI.t1, hI.t2, hI.t3, hI.t4, hI.t5, hI.a7, hI.bw⟩⟩
                · rintro L a wx ⟨v76, v77, v78, v79, v80, v81, rfl, hI⟩ hL hdep hcl K hK
                  go_simp
                  exact hK _ _ ⟨v76, _, v78, v79, v80, v81, rfl, ⟨hI.t0, fun _ => rfl, hI.t2, hI.t3, hI.t4, hI.t5, hI.a7, hI.bw⟩⟩
                · rintro L a wx ⟨v76, v77, v78, v79, v80, v81, rfl, hI⟩ hL hdep hcl K hK
                  obtain rfl := hI.t0 (hdep 0 (by decide))
                  obtain rfl := hI.t1 (hdep 1 (by decide))
                  have h1 := HS0.out
                  have h2 := HSM.out
                  go_simp
                  exact hK _ _ ⟨_, _, _, v79, v80, v81, rfl, ⟨hI.t0, hI.t1, fun _ => rfl, hI.t3, hI.t4, hI.t5, hI.a7, hI.bw⟩⟩
                · rintro L a wx ⟨v76, v77, v78, v79, v80, v81, rfl, hI⟩ hL hdep hcl K hK
                  obtain rfl := hI.t2 (hdep 2 (by decide))
                  refine wp_load_mid 25 _ rfl gp (rr * 32) rfl (bvs Y) (.array 32 5) (HRG.out wx hI.bw) Try.underlying25 rfl IY.out ?_
                  exact hK _ _ ⟨v76, v77, _, _, v80, v81, rfl, ⟨hI.t0, hI.t1, hI.t2, fun _ => rfl, hI.t4, hI.t5, hI.a7, hI.bw⟩⟩
                · rintro L a wx ⟨v76, v77, v78, v79, v80, v81, rfl, hI⟩ hL hdep hcl K hK
                  have hA0 : Arr wx g7 25 (bvs F) := by
                    have h7 := hI.a7
                    cases h6 : L 6 with
                    | true =>
                      have h4 := hcl 6 (by decide) h6 4 (by decide)
                      rw [hL] at h4
                      cases h4
                    | false =>
                      rw [h6] at h7
                      exact h7
                  refine ow_load 25 _ rfl g7 0 rfl 25 (bvs F) (bvs F) hA0 (fun j v h => by rw [Nat.zero_add]; exact h) (.array 32 5) Try.underlying25 rfl IF.out ?_
                  exact hK _ _ ⟨v76, v77, v78, v79, _, v81, rfl, ⟨hI.t0, hI.t1, hI.t2, hI.t3, fun _ => rfl, hI.t5, hI.a7, hI.bw⟩⟩
                · rintro L a wx ⟨v76, v77, v78, v79, v80, v81, rfl, hI⟩ hL hdep hcl K hK
                  obtain rfl := hI.t3 (hdep 3 (by decide))
                  obtain rfl := hI.t4 (hdep 4 (by decide))
                  have HC := HNN.out wx
                  go_simp
                  refine HC.mono ?_
                  rintro e w' ⟨rfl, hb⟩
                  exact hK _ _ ⟨v76, v77, v78, _, _, _, rfl, ⟨hI.t0, hI.t1, hI.t2, hI.t3, hI.t4, fun _ => rfl, (hI.a7).kept hb, (hI.bw).below hb⟩⟩
                · rintro L a wx ⟨v76, v77, v78, v79, v80, v81, rfl, hI⟩ hL hdep hcl K hK
                  obtain rfl := hI.t5 (hdep 5 (by decide))
                  obtain rfl := hI.t0 (hdep 0 (by decide))
                  obtain rfl := hI.t1 (hdep 1 (by decide))
                  obtain rfl := hI.t2 (hdep 2 (by decide))
                  obtain rfl := hI.t3 (hdep 3 (by decide))
                  obtain rfl := hI.t4 (hdep 4 (by decide))
                  have hA0 : Arr wx g7 25 (bvs F) := by
                    have := hI.a7
                    rw [hL] at this
                    exact this
                  refine ow_store 25 _ _ rfl g7 0 rfl (bvs FN) rfl 25 _ hA0 IFN.out (by rw [LF.out, LFN.out]; omega) (bvs_one _) ?_
                  intro w' hA' hg hs
                  rw [whole_store _ _ (LF.out.trans LFN.out.symm)] at hA'
                  exact hK _ _ ⟨_, _, _, _, _, _, rfl, ⟨hI.t0, hI.t1, hI.t2, hI.t3, hI.t4, hI.t5, hA', hI.bw.grown hg rfl⟩⟩
                · rintro a wx ⟨v76, v77, v78, v79, v80, v81, rfl, hI⟩
                  have hS3 : Arr wx g7 25 (bvs FN) := hI.a7
                  have hbw := hI.bw
                  clear hI
                  go_wp2_with fail
                  go_roundw
                  case rel => exact ⟨rr, by omega, by go_num, by rw [← HFN.out]; exact hS3, hbw⟩
                  case measure => simp [intOf]
              · obtain rfl : t = 0 := by omega
                have ht0 : ¬ ((0 : Int) ≤ ((0 : Nat) : Int) - 1) := by omega
                rw [List.drop_zero, hfold.out] at hA
                have lRT' : (bvs RT).length = 32 := by rw [bvs_len]; exact lRT
                have IR : Hid ((Try.prog.info? 25).map (·.size) = some (bvs RT).length) := by show _ = _; rw [lRT']; exact sizeD
                have hBw : Below w.heap.size w wr := B17.out.trans (hK.under (B := w.heap.size) (fun q hq => by have := HW7.out; omega) B17.out.size)
                have HBw := Lib.hid hBw
                have HBws := Lib.hid hBw.size
                have HRL : Hid (∀ wx, Below wr.heap.size wr wx → Calls Try.prog 11 #[.slice (some ⟨b, off, none⟩) A c] wx fun e w' => e = .returned (.agg (bvs RT).toArray) ∧ Below wx.heap.size wx w') := fun wx hb => HRW.out wx (hBw.trans (hb.mono hBw.size))
                clear lRT' hBw hK
                go_upto_region 22 with fail
                refine wp_region_steps [[], [], [1], [0, 2], [3], [4], [4, 5], [6]] (by kernel_rfl) (by kernel_rfl) (fun L a wx => ∃ v : Nat → Value, a = ⟨#[.slice (some ⟨b, off, none⟩) A c, undef, v 2, .int .i64 ↑k, .slice (some ⟨gp, 0, none⟩) m cp, .int .i64 ↑A, u6, .pointer (some ⟨g7, 0, none⟩), .int .i64 (((0 : Nat) : Int) - 1), .int .i64 ↑k, .slice (some ⟨b, off, none⟩) A c, .int .i64 ↑A, .bool false, u13, u14, u15, u16, u17, u18, u19, u20, u21, u22, u23, u24, u25, u26, u27, u28, u29, u30, u31, u32, .slice (some ⟨b, off, none⟩) A c, .int .i64 ↑A, .bool false, undef, .int .i64 ↑A, .slice (some ⟨b, off, none⟩) A c, .int .i64 ↑A, .bool false, u41, u42, u43, u44, u45, u46, u47, u48, u49, u50, u51, u52, u53, u54, u55, u56, u57, u58, u59, u60, u61, u62, .slice (some ⟨gp, 0, none⟩) m cp, .slice (some ⟨gp, 0, none⟩) m cp, .int .i64 ↑m, .int .i64 ↑s, .pointer (some ⟨gp, s * 32, none⟩), .agg (bvs X).toArray, .slice (some ⟨gp, 0, none⟩) m cp, .int .i64 ↑m, .int .i64 (↑s - 1), .int .i64 (((0 : Nat) : Int) - 1), .bool false, u74, u75, u76, u77, u78, u79, u80, u81, v 82, v 83, v 84, v 85, v 86, v 87, v 88], []⟩ ∧ InvJoinC RT b off A c g7 wr L v wx) ?_ ⟨?_, ?_, ?_, ?_, ?_, ?_, ?_, ?_, trivial⟩ ?_
                · refine ⟨upd (fun _ => undef) 2 (u2), rfl, ⟨?_, ?_, ?_, ?_, ?_, ?_, ?_, ?_, hA.drew, (Below.refl _ _).drew⟩⟩ <;> (intro h; exact absurd h (by decide))
                · rintro L a wx ⟨v, rfl, hI⟩ hL hdep hcl K hK
                  refine ow_load 25 _ rfl g7 0 rfl 25 (bvs RT) (bvs RT) hI.a7 (fun j v h => by rw [Nat.zero_add]; exact h) (.array 32 5) Try.underlying25 rfl IR.out ?_
                  exact hK _ _ ⟨(upd v 82 (.agg (bvs RT).toArray)), rfl, ⟨fun _ => rfl, hI.t1, hI.t2, hI.t3, hI.t4, hI.t5, hI.t6, hI.t7, hI.a7, hI.bw⟩⟩
                · rintro L a wx ⟨v, rfl, hI⟩ hL hdep hcl K hK
                  go_simp
                  exact hK _ _ ⟨(upd v 83 (.slice (some ⟨b, off, none⟩) A c)), rfl, ⟨hI.t0, fun _ => rfl, hI.t2, hI.t3, hI.t4, hI.t5, hI.t6, hI.t7, hI.a7, hI.bw⟩⟩
                · rintro L a wx ⟨v, rfl, hI⟩ hL hdep hcl K hK
                  have e1 := hI.t1 (hdep 1 (by decide))
                  rw [e1]
                  have HC := HRL.out wx hI.bw
                  go_simp
                  refine HC.mono ?_
                  rintro e w' ⟨rfl, hb⟩
                  exact hK _ _ ⟨(upd (upd v 83 (.slice (some ⟨b, off, none⟩) A c)) 84 (.agg (bvs RT).toArray)), rfl, ⟨hI.t0, fun _ => rfl, fun _ => rfl, hI.t3, hI.t4, hI.t5, hI.t6, hI.t7, (hI.a7).kept hb, (hI.bw).trans (hb.mono (hI.bw).size)⟩⟩
                · rintro L a wx ⟨v, rfl, hI⟩ hL hdep hcl K hK
                  have e0 := hI.t0 (hdep 0 (by decide))
                  have e2 := hI.t2 (hdep 2 (by decide))
                  rw [e0, e2]
                  have hq := HQ.out wx
                  go_simp
                  exact hK _ _ ⟨(upd (upd (upd v 82 (.agg (bvs RT).toArray)) 84 (.agg (bvs RT).toArray)) 85 (.bool true)), rfl, ⟨fun _ => rfl, hI.t1, fun _ => rfl, fun _ => rfl, hI.t4, hI.t5, hI.t6, hI.t7, hI.a7, hI.bw⟩⟩
                · rintro L a wx ⟨v, rfl, hI⟩ hL hdep hcl K hK
                  have e3 := hI.t3 (hdep 3 (by decide))
                  rw [e3]
                  go_simp
                  exact hK _ _ ⟨(upd (upd v 85 (.bool true)) 86 (.bool true)), rfl, ⟨hI.t0, hI.t1, hI.t2, fun _ => rfl, fun _ => rfl, hI.t5, hI.t6, hI.t7, hI.a7, hI.bw⟩⟩
                · rintro L a wx ⟨v, rfl, hI⟩ hL hdep hcl K hK
                  have e4 := hI.t4 (hdep 4 (by decide))
                  rw [e4]
                  refine (if_pos rfl).mpr ?_
                  go_simp
                  refine (wakes_any wx).mono ?_
                  rintro e' w' ⟨rfl, hb⟩
                  exact hK _ _ ⟨(upd (upd v 86 (.bool true)) 87 (.bool true)), rfl, ⟨hI.t0, hI.t1, hI.t2, hI.t3, fun _ => rfl, fun _ => rfl, hI.t6, hI.t7, (hI.a7).kept hb, (hI.bw).trans (hb.mono (hI.bw).size)⟩⟩
                · rintro L a wx ⟨v, rfl, hI⟩ hL hdep hcl K hK
                  have e4 := hI.t4 (hdep 4 (by decide))
                  have e5 := hI.t5 (hdep 5 (by decide))
                  rw [e4, e5]
                  go_simp
                  exact hK _ _ ⟨(upd (upd (upd v 86 (.bool true)) 87 (.bool true)) 88 (.bool true)), rfl, ⟨hI.t0, hI.t1, hI.t2, hI.t3, fun _ => rfl, fun _ => rfl, fun _ => rfl, hI.t7, hI.a7, hI.bw⟩⟩
                · rintro L a wx ⟨v, rfl, hI⟩ hL hdep hcl K hK
                  have e6 := hI.t6 (hdep 6 (by decide))
                  rw [e6]
                  go_simp
                  exact hK _ _ ⟨(upd (upd v 88 (.bool true)) 2 (.bool true)), rfl, ⟨hI.t0, hI.t1, hI.t2, hI.t3, hI.t4, hI.t5, fun _ => rfl, fun _ => rfl, hI.a7, hI.bw⟩⟩
                · rintro a wx ⟨v, rfl, hI⟩
                  have e := hI.t7 rfl
                  rw [e]
                  have hbw := hI.bw
                  clear hI e
                  go_wp2
                  go_ret
                  exact ⟨rfl, HBw.out.trans (hbw.mono HBws.out)⟩
end Go.Proofs.Ytpnhflpajccbbaa
