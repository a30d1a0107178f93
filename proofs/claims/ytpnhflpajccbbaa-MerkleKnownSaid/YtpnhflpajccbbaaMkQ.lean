/-
  Layer 8: the program's above: the nodes of each two of a level. Conditions: those in each statement.
-/
import Derived.Test.YtpnhflpajccbbaaMkP
namespace Go.Proofs.Ytpnhflpajccbbaa
open Go.RowKit

theorem dcs_append (L M : List (List UInt8)) : dcs (L ++ M) = dcs L ++ dcs M := by simp [dcs]
theorem dcs_set {M : List (List UInt8)} (h : All32 M) {x : List UInt8} (hx : x.length = 32) (k : Nat) (hk : k < M.length) :
    (dcs M).take (k * 32) ++ bvs x ++ (dcs M).drop (k * 32 + (bvs x).length) = dcs (M.set k x) := by
  have e0 : M = M.take k ++ M[k] :: M.drop (k + 1) := by simp
  have l1 : (dcs (M.take k)).length = k * 32 := by rw [dcs_len (h.take k), List.length_take]; congr 1; omega
  have l2 : (bvs M[k]).length = 32 := by rw [bvs_len]; exact h.mem (List.getElem_mem hk)
  have e1 : dcs M = dcs (M.take k) ++ (bvs M[k] ++ dcs (M.drop (k + 1))) := by
    conv => lhs; rw [e0]
    rw [dcs_append]
    exact congrArg _ (List.flatMap_cons ..)
  have e2 : M.set k x = M.take k ++ x :: M.drop (k + 1) := List.set_eq_take_append_cons_drop.trans (by rw [if_pos hk])
  rw [e2, dcs_append, show dcs (x :: M.drop (k + 1)) = bvs x ++ dcs (M.drop (k + 1)) by simp [dcs], e1]
  rw [List.take_left' l1, List.drop_append, List.drop_of_length_le (by rw [l1]; omega), l1, show k * 32 + (bvs x).length - k * 32 = 32 by rw [bvs_len, hx]; omega, List.drop_left' l2]
  simp
/-- a level half done -/
def halfL (P : List (List UInt8)) (k : Nat) : List (List UInt8) := P.take k ++ List.replicate (P.length - k) (Z8 32)
theorem halfL_len (P : List (List UInt8)) (k : Nat) (h : k ≤ P.length) : (halfL P k).length = P.length := by simp [halfL]; omega
theorem halfL_zero (P : List (List UInt8)) : halfL P 0 = List.replicate P.length (Z8 32) := by simp [halfL]
theorem halfL_end (P : List (List UInt8)) : halfL P P.length = P := by simp [halfL]
theorem halfL_all {P : List (List UInt8)} (h : All32 P) (k : Nat) : All32 (halfL P k) := All32.of fun x hx => by
  rcases List.mem_append.1 hx with hx | hx
  · exact (h.take k).mem hx
  · rw [(List.mem_replicate.1 hx).2]; simp [Z8]
theorem halfL_set (P : List (List UInt8)) (k : Nat) (h : k < P.length) : (halfL P k).set k (P.getD k []) = halfL P (k + 1) := by
  unfold halfL
  have e2 : P.take (k + 1) = P.take k ++ [P.getD k []] := by
    rw [List.take_succ_eq_append_getElem h]
    simp [List.getD, h]
  rw [List.set_append_right _ _ (by rw [List.length_take]; omega)]
  have e1 : k - (P.take k).length = 0 := by rw [List.length_take]; omega
  rw [e1, e2, show P.length - k = (P.length - (k + 1)) + 1 by omega, List.replicate_succ, List.set_cons_zero, List.append_assoc]
  rfl
theorem pairs_all (L : List (List UInt8)) : All32 (pairs L) := fun k hk => by
  rw [pairs_len _ L (Nat.le_refl _)] at hk
  rw [pairs_get _ L k (Nat.le_refl _) (by omega)]
  exact shaL_len _

structure InvAbove (S S1 S2 : List UInt8) (PP : List (List UInt8)) (b off n c g k m j0 j1 B : Nat) (u14 u15 u16 u17 u18 u19 u20 u21 u22 u23 u24 u25 u26 u27 u28 u29 : Value) (w0 : World) (L : Nat → Bool) (v14 v15 v16 v17 v18 v19 v20 v21 v22 v23 v24 v25 v26 v27 v28 : Value) (wx : World) : Prop where
  t0 : L 0 = true → v14 = .slice (some ⟨g, 0, none⟩) m m
  t1 : L 1 = true → v15 = .int .i64 (k : Int)
  t2 : L 2 = true → v16 = .slice (some ⟨b, off, none⟩) n c
  t3 : L 3 = true → v17 = .int .i64 (k : Int)
  t4 : L 4 = true → v18 = .int .i64 (j0 : Int)
  t5 : L 5 = true → v19 = .pointer (some ⟨b, off + j0 * 32, none⟩)
  t6 : L 6 = true → v20 = .agg (bvs S1).toArray
  t7 : L 7 = true → v21 = .slice (some ⟨b, off, none⟩) n c
  t8 : L 8 = true → v22 = .int .i64 (k : Int)
  t9 : L 9 = true → v23 = .int .i64 (j0 : Int)
  t10 : L 10 = true → v24 = .int .i64 (j1 : Int)
  t11 : L 11 = true → v25 = .pointer (some ⟨b, off + j1 * 32, none⟩)
  t12 : L 12 = true → v26 = .agg (bvs S2).toArray
  t13 : L 13 = true → v27 = .agg (bvs S).toArray
  t14 : L 14 = true → v28 = .pointer (some ⟨g, k * 32, none⟩)
  a2 : Arr wx g 25 (dcs (halfL PP (if L 15 then k + 1 else k)))
  bw : Below B w0 wx
  le : B ≤ w0.heap.size


set_option maxRecDepth 100000 in
set_option maxHeartbeats 3200000 in
theorem above_any (L : List (List UInt8)) (n c b off : Nat) (w : World) (hn : n ≤ 2 ^ 43) (hr : RdD w (some ⟨b, off, none⟩) n c L) :
    Calls Try.prog 27 #[.slice (some ⟨b, off, none⟩) n c] w fun e w' => ∃ v, e = .returned v ∧ OwnD w' w.heap.size v (pairs L) ∧ Below w.heap.size w w' := by
  have hl := hr.len
  obtain ⟨PP, hP⟩ : ∃ P, P = pairs L := ⟨_, rfl⟩
  have hpl := pairs_len _ L (Nat.le_refl _)
  have hpa := pairs_all L
  rw [hl] at hpl
  obtain ⟨m, hm⟩ : ∃ m, m = n / 2 := ⟨_, rfl⟩
  rw [← hm] at hpl
  have HPG : Hid (∀ k, 2 * k + 1 < n → PP.getD k [] = nodeH (L.getD (2 * k) []) (L.getD (2 * k + 1) [])) := fun k hk => by rw [hP]; exact pairs_get _ L k (Nat.le_refl _) (by omega)
  rw [← hP] at hpl hpa ⊢
  have HMX : Hid (m ≤ maxLen) := by show _ ≤ _; unfold maxLen; omega
  have HPL := Lib.hid hpl
  have HPA := Lib.hid hpa
  have HM := Lib.hid hm
  have hq : (n : Int) / 2 = (m : Int) := by omega
  have hq2 : (n : Int).tdiv 2 = (m : Int) := by rw [Int.tdiv_eq_ediv_of_nonneg (by omega)]; exact hq
  clear hP hpl hpa hm hl
  go_enter Try.func27, Try.ntmps27
  go_upto_region 2 with ((with_reducible show wpList _ _ _ (⟨some 8, .makeSlice _ _ _, _, _, _, _⟩ :: _) _ _); refine wl_makeD rfl (.tmp 7) (.tmp 7) rfl m m rfl rfl (Nat.le_refl _) (by have := HM.out; omega) ?_; intro w1 hA1 hb1 hs1)
  have hA2 : Arr w1 w.heap.size 25 (dcs (halfL PP 0)) := by rw [halfL_zero, HPL.out]; exact hA1
  obtain ⟨g, hg⟩ : ∃ g, g = w.heap.size := ⟨_, rfl⟩
  rw [← hg] at hA2 ⊢
  have HG := Lib.hid hg
  clear hg hs1 hA1
  go_wp2_with fail
  go_loopw [11] (fun i wr => ∃ k : Nat, k ≤ m ∧ i = .int .i64 (k : Int) ∧ Arr wr g 25 (dcs (halfL PP k)) ∧ Below w.heap.size w wr) (fun i _ => m - (intOf i).toNat)
  case atStart => exact ⟨0, Nat.zero_le _, rfl, hA2, hb1⟩
  case round =>
    clear hA2 hb1
    obtain ⟨k, hk, rfl, hA, hB⟩ := hrel
    by_cases hlt : k < m
    · have hkn : 2 * k + 1 < n := by have := HM.out; omega
      have hbl : b < w.heap.size := by obtain ⟨_, _, e, h, -⟩ := hr.mem (by omega); injection e with e; injection e with e1 e2; subst e1; exact h
      have hr0 := hr.range (2 * k) (by omega)
      have hr1 := hr.range (2 * k + 1) hkn
      have l1 := hr.all (2 * k) (by have := hr.len; omega)
      have l2 := hr.all (2 * k + 1) (by have := hr.len; omega)
      have HPK := HPG.out k hkn
      obtain ⟨S1, hS1⟩ : ∃ x, x = L.getD (2 * k) [] := ⟨_, rfl⟩
      obtain ⟨S2, hS2⟩ : ∃ x, x = L.getD (2 * k + 1) [] := ⟨_, rfl⟩
      rw [← hS1] at hr0 l1 HPK
      rw [← hS2] at hr1 l2 HPK
      have HN' := fun w' => Node_any S1 S2 w' l1 l2
      have l3 : (nodeH S1 S2).length = 32 := shaL_len _
      rw [← HPK] at HN' l3
      obtain ⟨S, hS⟩ : ∃ x, x = PP.getD k [] := ⟨_, rfl⟩
      rw [← hS] at HN' l3
      have HN := Lib.hid HN'
      have HSET : Hid ((dcs (halfL PP k)).take (k * 32) ++ bvs S ++ (dcs (halfL PP k)).drop (k * 32 + (bvs S).length) = dcs (halfL PP (k + 1))) := by
        show _ = _
        rw [dcs_set (halfL_all HPA.out k) l3 k (by rw [halfL_len _ _ (by rw [HPL.out]; exact hk), HPL.out]; exact hlt), hS, halfL_set _ _ (by rw [HPL.out]; exact hlt)]
      have HFIT : Hid (k * 32 + (bvs S).length ≤ (dcs (halfL PP k)).length) := by
        show _ ≤ _
        rw [dcs_len (halfL_all HPA.out k), halfL_len _ _ (by rw [HPL.out]; exact hk), HPL.out, bvs_len, l3]
        omega
      obtain ⟨j0, hj0⟩ : ∃ j, j = 2 * k := ⟨_, rfl⟩
      obtain ⟨j1, hj1⟩ : ∃ j, j = 2 * k + 1 := ⟨_, rfl⟩
      rw [← hj0] at hr0
      rw [← hj1] at hr1
      have HR0 : Hid (∀ wx, Below w.heap.size w wx → wx.rangeAt b (off + j0 * 32) (bvs S1)) := fun wx hb j v hj => (hb.cell (p := ⟨b, off + j0 * 32 + j, none⟩) hbl).trans (hr0 j v hj)
      have HR1 : Hid (∀ wx, Below w.heap.size w wx → wx.rangeAt b (off + j1 * 32) (bvs S2)) := fun wx hb j v hj => (hb.cell (p := ⟨b, off + j1 * 32 + j, none⟩) hbl).trans (hr1 j v hj)
      have h321 : Hid ((Try.prog.info? 25).map (·.size) = some (bvs S1).length) := by show _ = _; rw [bvs_len, l1]; exact sizeD
      have h322 : Hid ((Try.prog.info? 25).map (·.size) = some (bvs S2).length) := by show _ = _; rw [bvs_len, l2]; exact sizeD
      have h32 : Hid ((Try.prog.info? 25).map (·.size) = some (bvs S).length) := by show _ = _; rw [bvs_len, l3]; exact sizeD
      have HJ0 : Hid (2 * (k : Int) = (j0 : Int)) := by show _ = _; omega
      have HJ1 : Hid ((j0 : Int) + 1 = (j1 : Int)) := by show _ = _; omega
      have HW0 : Hid (IntKind.i64.wrap (j0 : Int) = (j0 : Int)) := by show _ = _; rw [IntKind.wrap_i64]; omega
      have HW1 : Hid (IntKind.i64.wrap (j1 : Int) = (j1 : Int)) := by show _ = _; rw [IntKind.wrap_i64]; omega
      have HP0 : Hid ((0 : Int) ≤ (j0 : Int)) := by show _ ≤ _; omega
      have HQ0 : Hid ((j0 : Int) < (n : Int)) := by show _ < _; omega
      have HP1 : Hid ((0 : Int) ≤ (j1 : Int)) := by show _ ≤ _; omega
      have HQ1 : Hid ((j1 : Int) < (n : Int)) := by show _ < _; omega
      have HP2 : Hid ((0 : Int) ≤ (k : Int)) := by show _ ≤ _; omega
      have HQ2 : Hid ((k : Int) < (m : Int)) := by show _ < _; omega
      have hkm : (k : Int) < (m : Int) := HQ2.out
      have HKM := Lib.hid hlt
      clear hr0 hr1 l1 l2 l3 HPK hS1 hS2 hS HN' hj0 hj1 hlt hkn hbl
      go_upto_region 5 with fail
      refine wp_region_steps [[], [], [], [], [3], [2, 4], [5], [], [], [8], [9], [7, 10], [11], [6, 12], [0, 1], [14, 13, 0, 1, 2, 3, 4, 5, 6, 7, 8, 9, 10, 11, 12]] (by kernel_rfl) (by kernel_rfl) (fun L a wx => ∃ v14 v15 v16 v17 v18 v19 v20 v21 v22 v23 v24 v25 v26 v27 v28, a = ⟨#[.slice (some ⟨b, off, none⟩) n c, undef, .slice none 0 0, .slice (some ⟨g, 0, none⟩) m m, .int .i64 ↑k, .slice (some ⟨b, off, none⟩) n c, .int .i64 ↑n, .int .i64 ↑m, .slice (some ⟨g, 0, none⟩) m m, .slice (some ⟨g, 0, none⟩) m m, .int .i64 ↑m, .int .i64 ↑k, .bool true, .int .i64 ↑k, v14, v15, v16, v17, v18, v19, v20, v21, v22, v23, v24, v25, v26, v27, v28, u29, undef], []⟩ ∧ InvAbove S S1 S2 PP b off n c g k m j0 j1 w.heap.size u14 u15 u16 u17 u18 u19 u20 u21 u22 u23 u24 u25 u26 u27 u28 u29 w L v14 v15 v16 v17 v18 v19 v20 v21 v22 v23 v24 v25 v26 v27 v28 wx) ?_ ⟨?_, ?_, ?_, ?_, ?_, ?_, ?_, ?_, ?_, ?_, ?_, ?_, ?_, ?_, ?_, ?_, trivial⟩ ?_
      · refine ⟨_, _, _, _, _, _, _, _, _, _, _, _, _, _, _, rfl, ⟨?_, ?_, ?_, ?_, ?_, ?_, ?_, ?_, ?_, ?_, ?_, ?_, ?_, ?_, ?_, hA.drew, hB.drew, Nat.le_refl _⟩⟩ <;> (intro h; exact absurd h (by decide))
      · rintro L a wx ⟨v14, v15, v16, v17, v18, v19, v20, v21, v22, v23, v24, v25, v26, v27, v28, rfl, hI⟩ hL hdep hcl K hK
        go_simp
        exact hK _ _ ⟨_, v15, v16, v17, v18, v19, v20, v21, v22, v23, v24, v25, v26, v27, v28, rfl, ⟨fun _ => rfl, hI.t1, hI.t2, hI.t3, hI.t4, hI.t5, hI.t6, hI.t7, hI.t8, hI.t9, hI.t10, hI.t11, hI.t12, hI.t13, hI.t14, hI.a2, hI.bw, hI.le⟩⟩
      · rintro L a wx ⟨v14, v15, v16, v17, v18, v19, v20, v21, v22, v23, v24, v25, v26, v27, v28, rfl, hI⟩ hL hdep hcl K hK
        go_simp
        exact hK _ _ ⟨v14, _, v16, v17, v18, v19, v20, v21, v22, v23, v24, v25, v26, v27, v28, rfl, ⟨hI.t0, fun _ => rfl, hI.t2, hI.t3, hI.t4, hI.t5, hI.t6, hI.t7, hI.t8, hI.t9, hI.t10, hI.t11, hI.t12, hI.t13, hI.t14, hI.a2, hI.bw, hI.le⟩⟩
      · rintro L a wx ⟨v14, v15, v16, v17, v18, v19, v20, v21, v22, v23, v24, v25, v26, v27, v28, rfl, hI⟩ hL hdep hcl K hK
        go_simp
        exact hK _ _ ⟨v14, v15, _, v17, v18, v19, v20, v21, v22, v23, v24, v25, v26, v27, v28, rfl, ⟨hI.t0, hI.t1, fun _ => rfl, hI.t3, hI.t4, hI.t5, hI.t6, hI.t7, hI.t8, hI.t9, hI.t10, hI.t11, hI.t12, hI.t13, hI.t14, hI.a2, hI.bw, hI.le⟩⟩
      · rintro L a wx ⟨v14, v15, v16, v17, v18, v19, v20, v21, v22, v23, v24, v25, v26, v27, v28, rfl, hI⟩ hL hdep hcl K hK
        go_simp
        exact hK _ _ ⟨v14, v15, v16, _, v18, v19, v20, v21, v22, v23, v24, v25, v26, v27, v28, rfl, ⟨hI.t0, hI.t1, hI.t2, fun _ => rfl, hI.t4, hI.t5, hI.t6, hI.t7, hI.t8, hI.t9, hI.t10, hI.t11, hI.t12, hI.t13, hI.t14, hI.a2, hI.bw, hI.le⟩⟩
      · rintro L a wx ⟨v14, v15, v16, v17, v18, v19, v20, v21, v22, v23, v24, v25, v26, v27, v28, rfl, hI⟩ hL hdep hcl K hK
        obtain rfl := hI.t3 (hdep 3 (by decide))
        have hj := HJ0.out
        have hj2 := HW0.out
        go_simp
        exact hK _ _ ⟨v14, v15, v16, _, _, v19, v20, v21, v22, v23, v24, v25, v26, v27, v28, rfl, ⟨hI.t0, hI.t1, hI.t2, hI.t3, fun _ => rfl, hI.t5, hI.t6, hI.t7, hI.t8, hI.t9, hI.t10, hI.t11, hI.t12, hI.t13, hI.t14, hI.a2, hI.bw, hI.le⟩⟩
      · rintro L a wx ⟨v14, v15, v16, v17, v18, v19, v20, v21, v22, v23, v24, v25, v26, v27, v28, rfl, hI⟩ hL hdep hcl K hK
        obtain rfl := hI.t2 (hdep 2 (by decide))
        obtain rfl := hI.t4 (hdep 4 (by decide))
        have h1 := HP0.out
        have h2 := HQ0.out
        go_simp
        exact hK _ _ ⟨v14, v15, _, v17, _, _, v20, v21, v22, v23, v24, v25, v26, v27, v28, rfl, ⟨hI.t0, hI.t1, hI.t2, hI.t3, hI.t4, fun _ => rfl, hI.t6, hI.t7, hI.t8, hI.t9, hI.t10, hI.t11, hI.t12, hI.t13, hI.t14, hI.a2, hI.bw, hI.le⟩⟩
      · rintro L a wx ⟨v14, v15, v16, v17, v18, v19, v20, v21, v22, v23, v24, v25, v26, v27, v28, rfl, hI⟩ hL hdep hcl K hK
        obtain rfl := hI.t5 (hdep 5 (by decide))
        refine wp_load_mid 25 _ rfl b (off + j0 * 32) rfl (bvs S1) (.array 32 5) (HR0.out wx hI.bw) Try.underlying25 rfl h321.out ?_
        exact hK _ _ ⟨v14, v15, v16, v17, v18, _, _, v21, v22, v23, v24, v25, v26, v27, v28, rfl, ⟨hI.t0, hI.t1, hI.t2, hI.t3, hI.t4, hI.t5, fun _ => rfl, hI.t7, hI.t8, hI.t9, hI.t10, hI.t11, hI.t12, hI.t13, hI.t14, hI.a2, hI.bw, hI.le⟩⟩
      · rintro L a wx ⟨v14, v15, v16, v17, v18, v19, v20, v21, v22, v23, v24, v25, v26, v27, v28, rfl, hI⟩ hL hdep hcl K hK
        go_simp
        exact hK _ _ ⟨v14, v15, v16, v17, v18, v19, v20, _, v22, v23, v24, v25, v26, v27, v28, rfl, ⟨hI.t0, hI.t1, hI.t2, hI.t3, hI.t4, hI.t5, hI.t6, fun _ => rfl, hI.t8, hI.t9, hI.t10, hI.t11, hI.t12, hI.t13, hI.t14, hI.a2, hI.bw, hI.le⟩⟩
      · rintro L a wx ⟨v14, v15, v16, v17, v18, v19, v20, v21, v22, v23, v24, v25, v26, v27, v28, rfl, hI⟩ hL hdep hcl K hK
        go_simp
        exact hK _ _ ⟨v14, v15, v16, v17, v18, v19, v20, v21, _, v23, v24, v25, v26, v27, v28, rfl, ⟨hI.t0, hI.t1, hI.t2, hI.t3, hI.t4, hI.t5, hI.t6, hI.t7, fun _ => rfl, hI.t9, hI.t10, hI.t11, hI.t12, hI.t13, hI.t14, hI.a2, hI.bw, hI.le⟩⟩
      · rintro L a wx ⟨v14, v15, v16, v17, v18, v19, v20, v21, v22, v23, v24, v25, v26, v27, v28, rfl, hI⟩ hL hdep hcl K hK
        obtain rfl := hI.t8 (hdep 8 (by decide))
        have hj := HJ0.out
        have hj2 := HW0.out
        go_simp
        exact hK _ _ ⟨v14, v15, v16, v17, v18, v19, v20, v21, _, _, v24, v25, v26, v27, v28, rfl, ⟨hI.t0, hI.t1, hI.t2, hI.t3, hI.t4, hI.t5, hI.t6, hI.t7, hI.t8, fun _ => rfl, hI.t10, hI.t11, hI.t12, hI.t13, hI.t14, hI.a2, hI.bw, hI.le⟩⟩
      · rintro L a wx ⟨v14, v15, v16, v17, v18, v19, v20, v21, v22, v23, v24, v25, v26, v27, v28, rfl, hI⟩ hL hdep hcl K hK
        obtain rfl := hI.t9 (hdep 9 (by decide))
        have hj := HJ1.out
        have hj2 := HW1.out
        go_simp
        exact hK _ _ ⟨v14, v15, v16, v17, v18, v19, v20, v21, v22, _, _, v25, v26, v27, v28, rfl, ⟨hI.t0, hI.t1, hI.t2, hI.t3, hI.t4, hI.t5, hI.t6, hI.t7, hI.t8, hI.t9, fun _ => rfl, hI.t11, hI.t12, hI.t13, hI.t14, hI.a2, hI.bw, hI.le⟩⟩
      · rintro L a wx ⟨v14, v15, v16, v17, v18, v19, v20, v21, v22, v23, v24, v25, v26, v27, v28, rfl, hI⟩ hL hdep hcl K hK
        obtain rfl := hI.t7 (hdep 7 (by decide))
        obtain rfl := hI.t10 (hdep 10 (by decide))
        have h1 := HP1.out
        have h2 := HQ1.out
        go_simp
        exact hK _ _ ⟨v14, v15, v16, v17, v18, v19, v20, _, v22, v23, _, _, v26, v27, v28, rfl, ⟨hI.t0, hI.t1, hI.t2, hI.t3, hI.t4, hI.t5, hI.t6, hI.t7, hI.t8, hI.t9, hI.t10, fun _ => rfl, hI.t12, hI.t13, hI.t14, hI.a2, hI.bw, hI.le⟩⟩
      · rintro L a wx ⟨v14, v15, v16, v17, v18, v19, v20, v21, v22, v23, v24, v25, v26, v27, v28, rfl, hI⟩ hL hdep hcl K hK
        obtain rfl := hI.t11 (hdep 11 (by decide))
        refine wp_load_mid 25 _ rfl b (off + j1 * 32) rfl (bvs S2) (.array 32 5) (HR1.out wx hI.bw) Try.underlying25 rfl h322.out ?_
        exact hK _ _ ⟨v14, v15, v16, v17, v18, v19, v20, v21, v22, v23, v24, _, _, v27, v28, rfl, ⟨hI.t0, hI.t1, hI.t2, hI.t3, hI.t4, hI.t5, hI.t6, hI.t7, hI.t8, hI.t9, hI.t10, hI.t11, fun _ => rfl, hI.t13, hI.t14, hI.a2, hI.bw, hI.le⟩⟩
      · rintro L a wx ⟨v14, v15, v16, v17, v18, v19, v20, v21, v22, v23, v24, v25, v26, v27, v28, rfl, hI⟩ hL hdep hcl K hK
        obtain rfl := hI.t6 (hdep 6 (by decide))
        obtain rfl := hI.t12 (hdep 12 (by decide))
        have HC := HN.out wx
        go_simp
        refine HC.mono ?_
        rintro e w' ⟨rfl, hb⟩
        exact hK _ _ ⟨v14, v15, v16, v17, v18, v19, _, v21, v22, v23, v24, v25, _, _, v28, rfl, ⟨hI.t0, hI.t1, hI.t2, hI.t3, hI.t4, hI.t5, hI.t6, hI.t7, hI.t8, hI.t9, hI.t10, hI.t11, hI.t12, fun _ => rfl, hI.t14, (hI.a2).kept hb, (hI.bw).trans (hb.mono (Nat.le_trans hI.le (hI.bw).size)), hI.le⟩⟩
      · rintro L a wx ⟨v14, v15, v16, v17, v18, v19, v20, v21, v22, v23, v24, v25, v26, v27, v28, rfl, hI⟩ hL hdep hcl K hK
        obtain rfl := hI.t0 (hdep 0 (by decide))
        obtain rfl := hI.t1 (hdep 1 (by decide))
        have h1 := HP2.out
        have h2 := HQ2.out
        go_simp
        exact hK _ _ ⟨_, _, v16, v17, v18, v19, v20, v21, v22, v23, v24, v25, v26, v27, _, rfl, ⟨hI.t0, hI.t1, hI.t2, hI.t3, hI.t4, hI.t5, hI.t6, hI.t7, hI.t8, hI.t9, hI.t10, hI.t11, hI.t12, hI.t13, fun _ => rfl, hI.a2, hI.bw, hI.le⟩⟩
      · rintro L a wx ⟨v14, v15, v16, v17, v18, v19, v20, v21, v22, v23, v24, v25, v26, v27, v28, rfl, hI⟩ hL hdep hcl K hK
        obtain rfl := hI.t14 (hdep 14 (by decide))
        obtain rfl := hI.t13 (hdep 13 (by decide))
        obtain rfl := hI.t0 (hdep 0 (by decide))
        obtain rfl := hI.t1 (hdep 1 (by decide))
        obtain rfl := hI.t2 (hdep 2 (by decide))
        obtain rfl := hI.t3 (hdep 3 (by decide))
        obtain rfl := hI.t4 (hdep 4 (by decide))
        obtain rfl := hI.t5 (hdep 5 (by decide))
        obtain rfl := hI.t6 (hdep 6 (by decide))
        obtain rfl := hI.t7 (hdep 7 (by decide))
        obtain rfl := hI.t8 (hdep 8 (by decide))
        obtain rfl := hI.t9 (hdep 9 (by decide))
        obtain rfl := hI.t10 (hdep 10 (by decide))
        obtain rfl := hI.t11 (hdep 11 (by decide))
        obtain rfl := hI.t12 (hdep 12 (by decide))
        have hA0 : Arr wx g 25 (dcs (halfL PP k)) := by
          have := hI.a2
          rw [hL] at this
          exact this
        refine ow_store 25 _ _ rfl g (k * 32) rfl (bvs S) rfl 25 _ hA0 h32.out HFIT.out (bvs_one _) ?_
        intro w' hA' hg hs
        rw [HSET.out] at hA'
        exact hK _ _ ⟨_, _, _, _, _, _, _, _, _, _, _, _, _, _, _, rfl, ⟨hI.t0, hI.t1, hI.t2, hI.t3, hI.t4, hI.t5, hI.t6, hI.t7, hI.t8, hI.t9, hI.t10, hI.t11, hI.t12, hI.t13, hI.t14, hA', hI.bw.grown hg hI.bw.size (by intro k e; injection e with e; have := HG.out; omega), hI.le⟩⟩
      · rintro a wx ⟨v14, v15, v16, v17, v18, v19, v20, v21, v22, v23, v24, v25, v26, v27, v28, rfl, hI⟩
        have hS3 : Arr wx g 25 (dcs (halfL PP (k + 1))) := hI.a2
        have hbw := hI.bw
        clear hI
        go_wp2_with fail
        go_roundw
        case rel => exact ⟨k + 1, HKM.out, by go_num, hS3, hbw⟩
        case measure => have := HKM.out; simp [intOf]; omega
    · obtain rfl : k = m := by omega
      have hc : ¬ ((k : Int) < (k : Int)) := by omega
      have hA3 : Arr wr g 25 (dcs PP) := by have := hA; rw [← HPL.out, halfL_end] at this; exact this
      have ho := OwnD.made (B := w.heap.size) hA3 HPL.out HPA.out (by have := HG.out; omega) HMX.out
      clear hA hA3
      go_wp2_with fail
      go_ret
      exact ⟨_, rfl, ho, hB⟩
end Go.Proofs.Ytpnhflpajccbbaa
