/-
  Joined texts: RnQ, RnM, RnN, RnO, LRKnown. Conditions: those in each statement.
-/
import Derived.Test.YtlfncgpjgbpdjaaRnI
import Derived.Test.YtlfncgpjgbpdjaaMkS
import Derived.Test.YtlfncgpjgbpdjaaTpA
namespace Go.Proofs.Ytlfncgpjgbpdjaa
open Go.RowKit

theorem run_guardNe (x y : Operand) (A B : Array Value) (w : World) : (eqGuard .neq 29 x y (.agg A) (.agg B)).run Try.prog w = .ok () w := by
  unfold eqGuard
  simp
theorem run_guardEq (x y : Operand) (A B : Array Value) (w : World) : (eqGuard .eql 29 x y (.agg A) (.agg B)).run Try.prog w = .ok () w := by
  unfold eqGuard
  simp
section
variable {o : Oper} {a : Act} {K : Act → World → Prop} {Q : Exit → Act → World → Prop} {w : World}
theorem ow_neSame (x y : Operand) (r : TypeId) (ho : o.op = .binOp .neq 29 x y r) (xs : List UInt8) (hl : xs.length = 32) (hx : a.eval x = .agg (bvs xs).toArray) (hy : a.eval y = .agg (bvs xs).toArray)
    (hK : K (a.put o.dst (.bool false)) w) : o.wp Try.prog a w K Q := by
  have h := neD hl hl w
  rw [decide_eq_true rfl] at h
  unfold Oper.wp execOp
  simp only [ho, hx, hy, Sem.run_bind, Sem.run_pure, run_guardNe, h, Result.andThen_ok]
  exact hK
theorem ow_neDiff (x y : Operand) (r : TypeId) (ho : o.op = .binOp .neq 29 x y r) (xs ys : List UInt8) (hl : xs.length = 32) (hm : ys.length = 32) (hne : xs ≠ ys) (hx : a.eval x = .agg (bvs xs).toArray) (hy : a.eval y = .agg (bvs ys).toArray)
    (hK : K (a.put o.dst (.bool true)) w) : o.wp Try.prog a w K Q := by
  have h := neD hl hm w
  rw [decide_eq_false hne] at h
  unfold Oper.wp execOp
  simp only [ho, hx, hy, Sem.run_bind, Sem.run_pure, run_guardNe, h, Result.andThen_ok]
  exact hK
theorem ow_eqSame (x y : Operand) (r : TypeId) (ho : o.op = .binOp .eql 29 x y r) (xs : List UInt8) (hl : xs.length = 32) (hx : a.eval x = .agg (bvs xs).toArray) (hy : a.eval y = .agg (bvs xs).toArray)
    (hK : K (a.put o.dst (.bool true)) w) : o.wp Try.prog a w K Q := by
  have h := eqD hl hl w
  rw [decide_eq_true rfl] at h
  unfold Oper.wp execOp
  simp only [ho, hx, hy, Sem.run_bind, Sem.run_pure, run_guardEq, h, Result.andThen_ok]
  exact hK
end

set_option maxHeartbeats 1600000 in
theorem Root_z (v : Value) (w : World) (hS : ∀ wx, Below w.heap.size w wx → Calls Try.prog 13 #[v] wx fun e w' => e = .returned (.int .u64 0) ∧ wx = w') :
    Calls Try.prog 17 #[v] w fun e w' => e = .returned (.agg (bvs (rootF [])).toArray) ∧ Below w.heap.size w w' := by
  have hlen := shaL_len []
  have h32 : Hid ((Try.prog.info? 29).map (·.size) = some (bvs (rootF [])).length) := by show _ = _; rw [bvs_len, rootF_nil, hlen]; exact sizeD
  have L32 : Hid ((bvs (rootF [])).length = 32) := by show _ = _; rw [bvs_len, rootF_nil, hlen]
  have hR : Hid (∀ w, Calls Try.prog 18 #[.slice none 0 0] w (fun e w' => e = .returned (.agg (bvs (rootF [])).toArray) ∧ Below w.heap.size w w')) := fun w => Root_any 0 [] (by simp) none 0 0 w (by omega) (rdd_nil w)
  have HS := Lib.hid hS
  clear hlen hS
  generalize rootF [] = S at *
  go_enter Try.func17, Try.ntmps17
  go_wp2_with (first
    | ((with_reducible show wpList _ _ _ (⟨some 2, .alloc _, _, _, _, _⟩ :: _) _ _); refine wl_alloc rfl 29 rfl (bvs (Z8 32)) 32 infoD ?_; intro w1 hA1 hb1 hs1)
    | (go_at_call 13; refine (HS.out _ hb1).mono ?_; rintro e w0 ⟨rfl, rfl⟩)
    | (go_at_call 18; refine (hR.out _).mono ?_; rintro e w5 ⟨rfl, hb5⟩)
    | ((with_reducible show wpList _ _ _ (⟨none, .store _ _ _, _, _, _, _⟩ :: _) _ _); refine wl_store rfl 29 _ _ rfl w.heap.size 0 rfl (bvs S) rfl 29 _ (hA1.kept hb5) h32.out (by rw [L32.out]; exact (by decide : 0 + 32 ≤ (bvs (Z8 32)).length)) (bvs_one _) ?_; intro w15 hR15 hg15 hs15))
  rw [whole_store _ _ (by rw [L32.out]; rfl)] at hR15
  refine end_cell rfl w.heap.size 29 (bvs S) (.array 32 5) rfl hR15 Try.underlying29 rfl h32.out rfl ⟨rfl, ?_⟩
  have hb' := hb1.trans (hb5.mono (by omega))
  exact hb'.grown hg15 hb'.size (by intro k e; injection e with e; omega)
theorem popN_pos {n : Nat} (h : 0 < n) : 0 < popN n := by
  obtain ⟨r, e1, e2⟩ := lowP_low n 1 h
  unfold popN
  rw [e1]
  simp
theorem Root_all {q : Nat → Prop} (p n : Nat) (P : List (List UInt8)) (w : World) (h : IsR q w p n P) :
    Calls Try.prog 17 #[.pointer (some ⟨p, 0, none⟩)] w fun e w' => e = .returned (.agg (bvs (foldP P)).toArray) ∧ Below w.heap.size w w' := by
  rcases Nat.eq_zero_or_pos n with h0 | h0
  · subst h0
    have hP : P = [] := List.eq_nil_of_length_eq_zero (by rw [h.cnt, popN_zero])
    subst hP
    rw [fold_nil]
    exact Root_z _ w fun wx hb => Size_any (q := q) p 0 [] wx (h.to hb)
  · exact Root_r p n P w h h0
end Go.Proofs.Ytlfncgpjgbpdjaa

namespace Go.Proofs.Ytlfncgpjgbpdjaa
open Go.RowKit

structure InvWakes (HC NAB NR : List UInt8) (gx cx gy cy gz cz g3 g11 g12 r : Nat) (W0 : World) (L : Nat → Bool) (v : Nat → Value) (wx : World) : Prop where
  t0 : L 0 = true → (v 50) = .int .i64 0
  t1 : L 1 = true → (v 51) = .bool false
  t2 : L 2 = true → (v 52) = .bool false
  t3 : L 3 = true → (v 53) = .int .i64 0
  t4 : L 4 = true → (v 54) = .bool false
  t5 : L 5 = true → (v 55) = .bool false
  t6 : L 6 = true → (v 56) = .bool false
  t7 : L 7 = true → (v 57) = .int .i64 0
  t8 : L 8 = true → (v 58) = .bool false
  t9 : L 9 = true → (v 59) = .bool false
  t10 : L 10 = true → (v 60) = .bool false
  t11 : L 11 = true → (v 61) = .slice (some ⟨gx, 0, none⟩) 1 cx
  t12 : L 12 = true → (v 62) = .int .i64 (1 : Int)
  t13 : L 13 = true → (v 63) = .bool false
  t14 : L 14 = true → (v 64) = .bool false
  t15 : L 15 = true → (v 65) = .bool false
  t16 : L 16 = true → (v 66) = .slice (some ⟨gy, 0, none⟩) 2 cy
  t17 : L 17 = true → (v 67) = .int .i64 (2 : Int)
  t18 : L 18 = true → (v 68) = .bool false
  t19 : L 19 = true → (v 69) = .bool false
  t20 : L 20 = true → (v 70) = .bool false
  t21 : L 21 = true → (v 71) = .slice (some ⟨gy, 0, none⟩) 2 cy
  t22 : L 22 = true → (v 72) = .pointer (some ⟨gy, 32, none⟩)
  t23 : L 23 = true → (v 73) = .agg (bvs NAB).toArray
  t24 : L 24 = true → (v 74) = .agg (bvs NAB).toArray
  t25 : L 25 = true → (v 75) = .bool false
  t26 : L 26 = true → (v 76) = .bool false
  t27 : L 27 = true → (v 77) = .bool false
  t28 : L 28 = true → (v 78) = .slice (some ⟨gz, 0, none⟩) 1 cz
  t29 : L 29 = true → (v 79) = .int .i64 (1 : Int)
  t30 : L 30 = true → (v 80) = .bool false
  t31 : L 31 = true → (v 81) = .bool false
  t32 : L 32 = true → (v 82) = .bool false
  t33 : L 33 = true → (v 83) = .slice (some ⟨g12, 0, none⟩) 2 2
  t34 : L 34 = true → (v 84) = .int .i64 (2 : Int)
  t35 : L 35 = true → (v 85) = .bool false
  t36 : L 36 = true → (v 86) = .bool false
  t37 : L 37 = true → (v 87) = .bool false
  t38 : L 38 = true → (v 88) = .slice (some ⟨g12, 0, none⟩) 2 2
  t39 : L 39 = true → (v 89) = .pointer (some ⟨g12, 0, none⟩)
  t40 : L 40 = true → (v 90) = .agg (bvs NAB).toArray
  t41 : L 41 = true → (v 91) = .agg (bvs NAB).toArray
  t42 : L 42 = true → (v 92) = .bool false
  t43 : L 43 = true → (v 93) = .bool false
  t44 : L 44 = true → (v 94) = .bool false
  t45 : L 45 = true → (v 95) = .pointer (some ⟨r, 0, none⟩)
  t46 : L 46 = true → (v 96) = .agg (bvs NR).toArray
  t47 : L 47 = true → (v 97) = .agg (bvs NAB).toArray
  t48 : L 48 = true → (v 98) = .agg (bvs HC).toArray
  t49 : L 49 = true → (v 99) = .agg (bvs NR).toArray
  t50 : L 50 = true → (v 100) = .bool false
  t51 : L 51 = true → (v 101) = .bool false
  t52 : L 52 = true → (v 102) = .bool false
  t53 : L 53 = true → (v 103) = .pointer (some ⟨r, 0, none⟩)
  t54 : L 54 = true → (v 104) = .int .u64 (3 : Int)
  t55 : L 55 = true → (v 105) = .bool false
  t56 : L 56 = true → (v 106) = .bool false
  bw : Below W0.heap.size W0 wx
set_option maxRecDepth 100000 in
set_option maxHeartbeats 12800000 in
theorem wakes9_any (w : World) : Calls Try.prog 7 #[] w fun e w' => e = .returned (.bool true) ∧ Below w.heap.size w w' := by
  have lA : (leafH [97]).length = 32 := shaL_len _
  have lB : (leafH [98]).length = 32 := shaL_len _
  have lC : (leafH [99]).length = 32 := shaL_len _
  have hLF : ∀ x : UInt8, Hid (∀ w g, LitB w g [x] → Calls Try.prog 19 #[.slice (some ⟨g, 0, none⟩) 1 1] w fun e w' => e = .returned (.agg (bvs (leafH [x])).toArray) ∧ Below w.heap.size w w') := fun x w g h => Leaf_any [x] _ 1 1 w (by omega) h.rd
  have HLA := hLF 97
  have HLB := hLF 98
  have HLC := hLF 99
  clear hLF
  generalize leafH [97] = HA at *
  generalize leafH [98] = HB at *
  generalize leafH [99] = HC at *
  have lAB : (nodeH HA HB).length = 32 := shaL_len _
  have lR : (nodeH (nodeH HA HB) HC).length = 32 := shaL_len _
  have HAdd1 : Hid (∀ (q : Nat → Prop) wx p, IsR q wx p 0 [] → Calls Try.prog 9 #[.pointer (some ⟨p, 0, none⟩), .agg (bvs HA).toArray] wx fun e w' => ∃ g gc, e = .returned (.tuple #[.slice (some ⟨g, 0, none⟩) 1 gc, .int .i64 0]) ∧ OwnD w' wx.heap.size (.slice (some ⟨g, 0, none⟩) 1 gc) [HA] ∧ IsR (fun b => wx.heap.size ≤ b ∧ b ≠ g) w' p 1 [HA] ∧ wx.heap.size ≤ g ∧ KB (fun k => k = p) wx w') := fun q wx p h => by
    have := Add_r p 0 [] HA wx h (by omega) lA
    simpa [toldP, addP, toldQ, addQ] using this
  have HAdd2 : Hid (∀ (q : Nat → Prop) wx p, IsR q wx p 1 [HA] → Calls Try.prog 9 #[.pointer (some ⟨p, 0, none⟩), .agg (bvs HB).toArray] wx fun e w' => ∃ g gc, e = .returned (.tuple #[.slice (some ⟨g, 0, none⟩) 2 gc, .int .i64 0]) ∧ OwnD w' wx.heap.size (.slice (some ⟨g, 0, none⟩) 2 gc) [HB, nodeH HA HB] ∧ IsR (fun b => wx.heap.size ≤ b ∧ b ≠ g) w' p 2 [nodeH HA HB] ∧ wx.heap.size ≤ g ∧ KB (fun k => k = p) wx w') := fun q wx p h => by
    have := Add_r p 1 [HA] HB wx h (by omega) lB
    simpa [toldP, addP, toldQ, addQ] using this
  have HAdd3 : Hid (∀ (q : Nat → Prop) wx p, IsR q wx p 2 [nodeH HA HB] → Calls Try.prog 9 #[.pointer (some ⟨p, 0, none⟩), .agg (bvs HC).toArray] wx fun e w' => ∃ g gc, e = .returned (.tuple #[.slice (some ⟨g, 0, none⟩) 1 gc, .int .i64 0]) ∧ OwnD w' wx.heap.size (.slice (some ⟨g, 0, none⟩) 1 gc) [HC] ∧ IsR (fun b => wx.heap.size ≤ b ∧ b ≠ g) w' p 3 [nodeH HA HB, HC] ∧ wx.heap.size ≤ g ∧ KB (fun k => k = p) wx w') := fun q wx p h => by
    have := Add_r p 2 [nodeH HA HB] HC wx h (by omega) lC
    simpa [toldP, addP, toldQ, addQ] using this
  have HNAB : Hid (∀ w, Calls Try.prog 20 #[.agg (bvs HA).toArray, .agg (bvs HB).toArray] w _) := fun w => Node_any HA HB w lA lB
  have HNR : Hid (∀ w, Calls Try.prog 20 #[.agg (bvs (nodeH HA HB)).toArray, .agg (bvs HC).toArray] w _) := fun w => Node_any (nodeH HA HB) HC w lAB lC
  have hfold : foldP [nodeH HA HB, HC] = nodeH (nodeH HA HB) HC := rfl
  have p3 : popN 3 = 2 := by decide +kernel
  have p2 : popN 2 = 1 := by decide +kernel
  generalize nodeH (nodeH HA HB) HC = NR at *
  generalize nodeH HA HB = NAB at *
  have s32 : ∀ x : List UInt8, x.length = 32 → (Try.prog.info? 29).map (·.size) = some (bvs x).length := fun x h => by rw [bvs_len, h]; exact sizeD
  have f32 : ∀ x : List UInt8, x.length = 32 → 0 + (bvs x).length ≤ (bvs (Z8 32)).length := fun x h => by rw [bvs_len, h]; exact (by decide : 0 + 32 ≤ (bvs (Z8 32)).length)
  have t32 : ∀ x : List UInt8, x.length = 32 → (bvs (Z8 32)).length = (bvs x).length := fun x h => by rw [bvs_len x, h]; rfl
  have IA := Lib.hid (s32 HA lA)
  have IB := Lib.hid (s32 HB lB)
  have IC := Lib.hid (s32 HC lC)
  have IAB := Lib.hid (s32 NAB lAB)
  have FA := Lib.hid (f32 HA lA)
  have FB := Lib.hid (f32 HB lB)
  have FC := Lib.hid (f32 HC lC)
  have FAB := Lib.hid (f32 NAB lAB)
  have TA := Lib.hid (t32 HA lA)
  have TB := Lib.hid (t32 HB lB)
  have TC := Lib.hid (t32 HC lC)
  have TAB := Lib.hid (t32 NAB lAB)
  have LA := Lib.hid lA
  have LAB := Lib.hid lAB
  have LC := Lib.hid lC
  have LR := Lib.hid lR
  have HFO := Lib.hid hfold
  have P3 := Lib.hid p3
  have P2 := Lib.hid p2
  clear s32 f32 t32 lA lB lC lAB lR hfold p3 p2
  go_enter Try.func7, Try.ntmps7
  go_upto_region 2 with (first
    | ((with_reducible show wpList _ _ _ (⟨some 18, .convert _ _ _, _, _, _, _⟩ :: _) _ _); refine wl_conv rfl (.tmp 17) rfl w.heap.size 1 1 [97] rfl (LitB.new w [97]) ?_; intro wa1 ha1 ga1 sa1)
    | (go_at_call 19; with_reducible refine (HLA.out _ _ ha1).mono ?_; rintro e wa2 ⟨rfl, hba⟩)
    | ((with_reducible show wpList _ _ _ (⟨some 21, .convert _ _ _, _, _, _, _⟩ :: _) _ _); refine wl_conv rfl (.tmp 20) rfl wa2.heap.size 1 1 [98] rfl (LitB.new wa2 [98]) ?_; intro wb1 hb1 gb1 sb1)
    | (go_at_call 19; with_reducible refine (HLB.out _ _ hb1).mono ?_; rintro e wb2 ⟨rfl, hbb⟩)
    | ((with_reducible show wpList _ _ _ (⟨some 24, .convert _ _ _, _, _, _, _⟩ :: _) _ _); refine wl_conv rfl (.tmp 23) rfl wb2.heap.size 1 1 [99] rfl (LitB.new wb2 [99]) ?_; intro wc1 hc1 gc1 sc1)
    | (go_at_call 19; with_reducible refine (HLC.out _ _ hc1).mono ?_; rintro e wc2 ⟨rfl, hbc⟩)
    | ((with_reducible show wpList _ _ _ (⟨some 1, .alloc _, _, _, _, _⟩ :: _) _ _); refine wl_alloc rfl 29 rfl (bvs (Z8 32)) 32 infoD ?_; intro w1 hA1 hb1' hs1)
    | ((with_reducible show wpList _ _ _ (⟨some 2, .alloc _, _, _, _, _⟩ :: _) _ _); refine wl_alloc rfl 29 rfl (bvs (Z8 32)) 32 infoD ?_; intro w2 hA2 hb2' hs2)
    | ((with_reducible show wpList _ _ _ (⟨some 3, .alloc _, _, _, _, _⟩ :: _) _ _); refine wl_alloc rfl 29 rfl (bvs (Z8 32)) 32 infoD ?_; intro w3 hA3 hb3' hs3)
    | ((with_reducible show wpList _ _ _ (⟨none, .store _ (.tmp 1) _, _, _, _, _⟩ :: _) _ _); refine wl_store rfl 29 _ _ rfl wc2.heap.size 0 rfl (bvs HA) rfl 29 _ ((hA1.kept hb2').kept hb3') IA.out FA.out (bvs_one _) ?_; intro w4 hA4 hg4 hs4)
    | ((with_reducible show wpList _ _ _ (⟨none, .store _ (.tmp 2) _, _, _, _, _⟩ :: _) _ _); refine wl_store rfl 29 _ _ rfl w1.heap.size 0 rfl (bvs HB) rfl 29 _ ((hA2.kept hb3').grown hg4 (by intro e; injection e with e; omega)) IB.out FB.out (bvs_one _) ?_; intro w5 hA5 hg5 hs5)
    | ((with_reducible show wpList _ _ _ (⟨none, .store _ (.tmp 3) _, _, _, _, _⟩ :: _) _ _); refine wl_store rfl 29 _ _ rfl w2.heap.size 0 rfl (bvs HC) rfl 29 _ ((hA3.grown hg4 (by intro e; injection e with e; omega)).grown hg5 (by intro e; injection e with e; omega)) IC.out FC.out (bvs_one _) ?_; intro w6 hA6 hg6 hs6))
  rw [whole_store _ _ TA.out] at hA4
  rw [whole_store _ _ TB.out] at hA5
  rw [whole_store _ _ TC.out] at hA6
  have z1 := ga1.size
  have z2 := hba.size
  have z3 := gb1.size
  have z4 := hbb.size
  have z5 := gc1.size
  have z6 := hbc.size
  simp only [World.size_alloc] at z1 z3 z5 sa1 sb1 sc1
  have E1 : Below w.heap.size w wa2 := ((hal w _).grown ga1 (by rw [World.size_alloc]; omega) (by intro k e; injection e with e; omega)).trans (hba.mono (by omega))
  have E2 : Below wa2.heap.size wa2 wb2 := ((hal wa2 _).grown gb1 (by rw [World.size_alloc]; omega) (by intro k e; injection e with e; omega)).trans (hbb.mono (by omega))
  have E3 : Below wb2.heap.size wb2 wc2 := ((hal wb2 _).grown gc1 (by rw [World.size_alloc]; omega) (by intro k e; injection e with e; omega)).trans (hbc.mono (by omega))
  have E : Below w.heap.size w w6 := (((((E1.trans (E2.mono (by omega))).trans (E3.mono (by omega))).trans (hb1'.mono (by omega))).trans (hb2'.mono (by omega))).trans (hb3'.mono (by omega))).grown hg4 (by omega) (by intro k e; injection e with e; omega) |>.grown hg5 (by omega) (by intro k e; injection e with e; omega) |>.grown hg6 (by omega) (by intro k e; injection e with e; omega)
  have hA64 := (hA4.grown hg5 (by intro e; injection e with e; omega)).grown hg6 (by intro e; injection e with e; omega)
  have hA65 := hA5.grown hg6 (by intro e; injection e with e; omega)
  obtain ⟨g1, hg1⟩ : ∃ g, g = wc2.heap.size := ⟨_, rfl⟩
  obtain ⟨g2, hg2⟩ : ∃ g, g = w1.heap.size := ⟨_, rfl⟩
  obtain ⟨g3, hg3⟩ : ∃ g, g = w2.heap.size := ⟨_, rfl⟩
  have hEs := E.size
  rw [← hg1] at hA64
  rw [← hg2] at hA65
  rw [← hg3] at hA6
  go_simp
  rw [← hg1, ← hg2, ← hg3]
  clear hA1 hA2 hA3 hA4 hA5 hb1 hb1' hb2' hb3' hg4 hg5 hg6 hs1 hs2 hs3 hs4 hs5 hs6 E1 E2 E3 z1 z2 z3 z4 z5 z6 hba hbb hbc ga1 gb1 gc1 ha1 hc1 sa1 sb1 sc1 hg1 hg2 hg3
  have l1 := hA64.lt
  have l2 := hA65.lt
  have l3 := hA6.lt
  go_upto_region 3 with (go_at_call 5; refine (New_r _).mono ?_; rintro e w7 ⟨r, rfl, hI0, hr0, hb7⟩)
  have A1 := hA64.kept hb7
  have A2 := hA65.kept hb7
  have A3 := hA6.kept hb7
  have E7 : Below w.heap.size w w7 := E.trans (hb7.mono hEs)
  have hrw : w.heap.size ≤ r := by omega
  have hn1 : g1 ≠ r := by omega
  have hn2 : g2 ≠ r := by omega
  have hn3 : g3 ≠ r := by omega
  have hE7s := E7.size
  clear hA64 hA65 hA6 E hb7 hr0 l1 l2 l3 hEs
  go_upto_region 4 with (first
    | ((with_reducible show wpList _ _ _ (⟨some 29, .load _ _, _, _, _, _⟩ :: _) _ _); refine wl_load rfl 29 _ rfl g1 0 rfl 29 (bvs HA) (bvs HA) A1 (fun j v h => (by rw [Nat.zero_add]; exact h)) (.array 32 5) Try.underlying29 rfl IA.out ?_)
    | (go_at_call 9; with_reducible refine (HAdd1.out _ _ _ hI0).mono ?_; rintro e w8 ⟨gx, cx, rfl, hOx, hI1, hgx, kb1⟩))
  have B1 := arr_kb A1 kb1 hn1
  have B2 := arr_kb A2 kb1 hn2
  have B3 := arr_kb A3 kb1 hn3
  have E8 : Below w.heap.size w w8 := E7.trans (kb1.under (fun k e => by omega) (by omega))
  have k8 := kb1.size
  have hrl8 := hI1.lt
  clear A1 A2 A3 E7 kb1 hI0 hOx hgx
  go_simp
  go_upto_region 5 with (first
    | ((with_reducible show wpList _ _ _ (⟨some 35, .load _ _, _, _, _, _⟩ :: _) _ _); refine wl_load rfl 29 _ rfl g2 0 rfl 29 (bvs HB) (bvs HB) B2 (fun j v h => (by rw [Nat.zero_add]; exact h)) (.array 32 5) Try.underlying29 rfl IB.out ?_)
    | (go_at_call 9; with_reducible refine (HAdd2.out _ _ _ hI1).mono ?_; rintro e w9 ⟨gy, cy, rfl, hOy, hI2, hgy, kb2⟩))
  have C1 := arr_kb B1 kb2 hn1
  have C3 := arr_kb B3 kb2 hn3
  have C2 := arr_kb B2 kb2 hn2
  have E9 : Below w.heap.size w w9 := E8.trans (kb2.under (fun k e => by omega) (by omega))
  have k9 := kb2.size
  have hyr : gy ≠ r := by omega
  clear B1 B2 B3 E8 kb2 hI1 hgy
  go_simp
  go_upto_region 6 with (first
    | ((with_reducible show wpList _ _ _ (⟨some 41, .load _ _, _, _, _, _⟩ :: _) _ _); refine wl_load rfl 29 _ rfl g3 0 rfl 29 (bvs HC) (bvs HC) C3 (fun j v h => (by rw [Nat.zero_add]; exact h)) (.array 32 5) Try.underlying29 rfl IC.out ?_)
    | (go_at_call 9; with_reducible refine (HAdd3.out _ _ _ hI2).mono ?_; rintro e w10 ⟨gz, cz, rfl, hOz, hI3, hgz, kb3⟩))
  have D1 := arr_kb C1 kb3 hn1
  have D2 := arr_kb C2 kb3 hn2
  have D3 := arr_kb C3 kb3 hn3
  have hOy' := kb3.ownD hOy (by exact hyr)
  have E10 : Below w.heap.size w w10 := E9.trans (kb3.under (fun k e => by omega) (by omega))
  have k10 := kb3.size
  clear C1 C2 C3 E9 kb3 hI2 hgz hOz hOy
  go_simp
  go_upto_region 7 with (first
    | ((with_reducible show wpList _ _ _ (⟨some 45, .load _ _, _, _, _, _⟩ :: _) _ _); refine wl_load rfl 29 _ rfl g1 0 rfl 29 (bvs HA) (bvs HA) D1 (fun j v h => (by rw [Nat.zero_add]; exact h)) (.array 32 5) Try.underlying29 rfl IA.out ?_)
    | ((with_reducible show wpList _ _ _ (⟨some 46, .load _ _, _, _, _, _⟩ :: _) _ _); refine wl_load rfl 29 _ rfl g2 0 rfl 29 (bvs HB) (bvs HB) D2 (fun j v h => (by rw [Nat.zero_add]; exact h)) (.array 32 5) Try.underlying29 rfl IB.out ?_)
    | (go_at_call 20; with_reducible refine (HNAB.out _).mono ?_; rintro e w11 ⟨rfl, hb11⟩)
    | ((with_reducible show wpList _ _ _ (⟨some 11, .alloc _, _, _, _, _⟩ :: _) _ _); refine wl_alloc rfl 29 rfl (bvs (Z8 32)) 32 infoD ?_; intro w12 hA12 hb12 hs12)
    | ((with_reducible show wpList _ _ _ (⟨none, .store _ _ _, _, _, _, _⟩ :: _) _ _); refine wl_store rfl 29 _ _ rfl w11.heap.size 0 rfl (bvs NAB) rfl 29 _ hA12 IAB.out FAB.out (bvs_one _) ?_; intro w13 hA13 hg13 hs13))
  rw [whole_store _ _ TAB.out] at hA13
  have hb13 : Below w10.heap.size w10 w13 := (hb11.trans (hb12.mono hb11.size)).grown hg13 (by have := hb11.size; have := hb12.size; omega) (by intro k e; injection e with e; have := hb11.size; omega)
  obtain ⟨g11, hg11⟩ : ∃ g, g = w11.heap.size := ⟨_, rfl⟩
  rw [← hg11] at hA13
  have F1 := D1.kept hb13
  have F3 := D3.kept hb13
  have hOy13 := hOy'.to hb13
  have hI13 := hI3.to hb13
  have E13 : Below w.heap.size w w13 := E10.trans (hb13.mono E10.size)
  go_simp
  rw [← hg11]
  clear D1 D2 D3 hOy' hI3 E10 hb13 hb11 hb12 hg13 hs12 hs13 hA12 hg11
  go_upto_region 8 with (go_at_call 12; with_reducible refine (Peaks_any _ _ _ _ hI13).mono ?_; rintro e w14 ⟨rfl, hP14, hb14⟩)
  obtain ⟨g12, hg12⟩ : ∃ g, g = w13.heap.size := ⟨_, rfl⟩
  rw [← hg12] at hP14
  have G11 := hA13.kept hb14
  have G3 := F3.kept hb14
  have hOy14 := hOy13.to hb14
  have hI14 := hI13.to hb14
  have E14 : Below w.heap.size w w14 := E13.trans (hb14.mono E13.size)
  go_simp
  rw [← hg12]
  clear F1 F3 hOy13 hI13 E13 hb14 hA13 hg12
  have HG11 : Hid (∀ wx, Below w14.heap.size w14 wx → Arr wx g11 29 (bvs NAB)) := fun wx hb => G11.kept hb
  have HG3 : Hid (∀ wx, Below w14.heap.size w14 wx → Arr wx g3 29 (bvs HC)) := fun wx hb => G3.kept hb
  have RY : Hid (∀ wx, Below w14.heap.size w14 wx → wx.rangeAt gy 32 (bvs NAB)) := fun wx hb => by
    have h1 := (hOy14.rdAt.to hb).range 1 (by omega)
    simpa using h1
  have R12 : Hid (∀ wx, Below w14.heap.size w14 wx → wx.rangeAt g12 0 (bvs NAB)) := fun wx hb => by
    have h1 := ((rdd_arr' (n := 2) hP14 (All32.of (by simp [LAB.out, LC.out])) rfl).to hb).range 0 (by omega)
    simpa using h1
  have HRT : Hid (∀ wx, Below w14.heap.size w14 wx → Calls Try.prog 17 #[.pointer (some ⟨r, 0, none⟩)] wx fun e w' => e = .returned (.agg (bvs NR).toArray) ∧ Below wx.heap.size wx w') := fun wx hb => by
    have h1 := Root_all r 3 [NAB, HC] wx (hI14.to hb)
    rwa [HFO.out] at h1
  have HSZ : Hid (∀ wx, Below w14.heap.size w14 wx → Calls Try.prog 13 #[.pointer (some ⟨r, 0, none⟩)] wx fun e w' => e = .returned (.int .u64 (3 : Int)) ∧ wx = w') := fun wx hb => by
    have h1 := Size_any r 3 [NAB, HC] wx (hI14.to hb)
    exact h1
  refine wp_region_steps [[], [0], [1], [2], [3, 2], [2, 4], [5], [6], [7, 6], [6, 8], [9], [10], [11, 10], [12, 10], [10, 13], [14], [15], [16, 15], [17, 15], [15, 18], [19], [20], [21, 20], [22, 20], [20], [23, 24, 20], [20, 25], [26], [27], [28, 27], [29, 27], [27, 30], [31], [32], [33, 32], [34, 32], [32, 35], [36], [37], [38, 37], [39, 37], [37], [40, 41, 37], [37, 42], [43], [44], [45, 44], [44], [44], [47, 48, 44], [46, 49, 44], [44, 50], [51], [52], [53, 52], [54, 52], [52, 55]] (by kernel_rfl) (by kernel_rfl) (fun L a wx => ∃ v : Nat → Value, a = ⟨#[.bool false, .pointer (some ⟨g1, 0, none⟩), .pointer (some ⟨g2, 0, none⟩), .pointer (some ⟨g3, 0, none⟩), .pointer (some ⟨r, 0, none⟩), .slice (some ⟨gx, 0, none⟩) 1 cx, .int .i64 0, .slice (some ⟨gy, 0, none⟩) 2 cy, .int .i64 0, .slice (some ⟨gz, 0, none⟩) 1 cz, .int .i64 0, .pointer (some ⟨g11, 0, none⟩), .slice (some ⟨g12, 0, none⟩) 2 2, undef, undef, undef, undef, .slice (some ⟨w.heap.size, 0, none⟩) 1 1, .slice (some ⟨w.heap.size, 0, none⟩) 1 1, .agg (bvs HA).toArray, .slice (some ⟨wa2.heap.size, 0, none⟩) 1 1, .slice (some ⟨wa2.heap.size, 0, none⟩) 1 1, .agg (bvs HB).toArray, .slice (some ⟨wb2.heap.size, 0, none⟩) 1 1, .slice (some ⟨wb2.heap.size, 0, none⟩) 1 1, .agg (bvs HC).toArray, .pointer (some ⟨r, 0, none⟩), .tuple #[.slice (some ⟨gx, 0, none⟩) 1 cx, .int .i64 0], .pointer (some ⟨r, 0, none⟩), .agg (bvs HA).toArray, .tuple #[.slice (some ⟨gx, 0, none⟩) 1 cx, .int .i64 0], .slice (some ⟨gx, 0, none⟩) 1 cx, .int .i64 0, .tuple #[.slice (some ⟨gy, 0, none⟩) 2 cy, .int .i64 0], .pointer (some ⟨r, 0, none⟩), .agg (bvs HB).toArray, .tuple #[.slice (some ⟨gy, 0, none⟩) 2 cy, .int .i64 0], .slice (some ⟨gy, 0, none⟩) 2 cy, .int .i64 0, .tuple #[.slice (some ⟨gz, 0, none⟩) 1 cz, .int .i64 0], .pointer (some ⟨r, 0, none⟩), .agg (bvs HC).toArray, .tuple #[.slice (some ⟨gz, 0, none⟩) 1 cz, .int .i64 0], .slice (some ⟨gz, 0, none⟩) 1 cz, .int .i64 0, .agg (bvs HA).toArray, .agg (bvs HB).toArray, .agg (bvs NAB).toArray, .pointer (some ⟨r, 0, none⟩), .slice (some ⟨g12, 0, none⟩) 2 2, v 50, v 51, v 52, v 53, v 54, v 55, v 56, v 57, v 58, v 59, v 60, v 61, v 62, v 63, v 64, v 65, v 66, v 67, v 68, v 69, v 70, v 71, v 72, v 73, v 74, v 75, v 76, v 77, v 78, v 79, v 80, v 81, v 82, v 83, v 84, v 85, v 86, v 87, v 88, v 89, v 90, v 91, v 92, v 93, v 94, v 95, v 96, v 97, v 98, v 99, v 100, v 101, v 102, v 103, v 104, v 105, v 106, undef, undef, undef, undef, undef, undef, undef, undef, undef, undef, undef, undef, undef, undef, undef, undef, undef, undef, undef, undef, undef, undef, undef], []⟩ ∧ InvWakes HC NAB NR gx cx gy cy gz cz g3 g11 g12 r w14 L v wx) ?_ ⟨?_, ?_, ?_, ?_, ?_, ?_, ?_, ?_, ?_, ?_, ?_, ?_, ?_, ?_, ?_, ?_, ?_, ?_, ?_, ?_, ?_, ?_, ?_, ?_, ?_, ?_, ?_, ?_, ?_, ?_, ?_, ?_, ?_, ?_, ?_, ?_, ?_, ?_, ?_, ?_, ?_, ?_, ?_, ?_, ?_, ?_, ?_, ?_, ?_, ?_, ?_, ?_, ?_, ?_, ?_, ?_, ?_, trivial⟩ ?_
  · refine ⟨fun _ => undef, rfl, ⟨?_, ?_, ?_, ?_, ?_, ?_, ?_, ?_, ?_, ?_, ?_, ?_, ?_, ?_, ?_, ?_, ?_, ?_, ?_, ?_, ?_, ?_, ?_, ?_, ?_, ?_, ?_, ?_, ?_, ?_, ?_, ?_, ?_, ?_, ?_, ?_, ?_, ?_, ?_, ?_, ?_, ?_, ?_, ?_, ?_, ?_, ?_, ?_, ?_, ?_, ?_, ?_, ?_, ?_, ?_, ?_, ?_, (Below.refl _ _).drew⟩⟩ <;> (intro h; exact absurd h (by decide))
  · rintro L a wx ⟨v, rfl, hI⟩ hL hdep hcl K hK
    go_simp
    exact hK _ _ ⟨(upd v 50 (.int .i64 0)), rfl, ⟨fun _ => rfl, hI.t1, hI.t2, hI.t3, hI.t4, hI.t5, hI.t6, hI.t7, hI.t8, hI.t9, hI.t10, hI.t11, hI.t12, hI.t13, hI.t14, hI.t15, hI.t16, hI.t17, hI.t18, hI.t19, hI.t20, hI.t21, hI.t22, hI.t23, hI.t24, hI.t25, hI.t26, hI.t27, hI.t28, hI.t29, hI.t30, hI.t31, hI.t32, hI.t33, hI.t34, hI.t35, hI.t36, hI.t37, hI.t38, hI.t39, hI.t40, hI.t41, hI.t42, hI.t43, hI.t44, hI.t45, hI.t46, hI.t47, hI.t48, hI.t49, hI.t50, hI.t51, hI.t52, hI.t53, hI.t54, hI.t55, hI.t56, hI.bw⟩⟩
  · rintro L a wx ⟨v, rfl, hI⟩ hL hdep hcl K hK
    have e0 := hI.t0 (hdep 0 (by decide))
    rw [e0]
    go_simp
    exact hK _ _ ⟨(upd (upd v 50 (.int .i64 0)) 51 (.bool false)), rfl, ⟨fun _ => rfl, fun _ => rfl, hI.t2, hI.t3, hI.t4, hI.t5, hI.t6, hI.t7, hI.t8, hI.t9, hI.t10, hI.t11, hI.t12, hI.t13, hI.t14, hI.t15, hI.t16, hI.t17, hI.t18, hI.t19, hI.t20, hI.t21, hI.t22, hI.t23, hI.t24, hI.t25, hI.t26, hI.t27, hI.t28, hI.t29, hI.t30, hI.t31, hI.t32, hI.t33, hI.t34, hI.t35, hI.t36, hI.t37, hI.t38, hI.t39, hI.t40, hI.t41, hI.t42, hI.t43, hI.t44, hI.t45, hI.t46, hI.t47, hI.t48, hI.t49, hI.t50, hI.t51, hI.t52, hI.t53, hI.t54, hI.t55, hI.t56, hI.bw⟩⟩
  · rintro L a wx ⟨v, rfl, hI⟩ hL hdep hcl K hK
    have e1 := hI.t1 (hdep 1 (by decide))
    rw [e1]
    go_simp
    exact hK _ _ ⟨(upd (upd v 51 (.bool false)) 52 (.bool false)), rfl, ⟨hI.t0, fun _ => rfl, fun _ => rfl, hI.t3, hI.t4, hI.t5, hI.t6, hI.t7, hI.t8, hI.t9, hI.t10, hI.t11, hI.t12, hI.t13, hI.t14, hI.t15, hI.t16, hI.t17, hI.t18, hI.t19, hI.t20, hI.t21, hI.t22, hI.t23, hI.t24, hI.t25, hI.t26, hI.t27, hI.t28, hI.t29, hI.t30, hI.t31, hI.t32, hI.t33, hI.t34, hI.t35, hI.t36, hI.t37, hI.t38, hI.t39, hI.t40, hI.t41, hI.t42, hI.t43, hI.t44, hI.t45, hI.t46, hI.t47, hI.t48, hI.t49, hI.t50, hI.t51, hI.t52, hI.t53, hI.t54, hI.t55, hI.t56, hI.bw⟩⟩
  · rintro L a wx ⟨v, rfl, hI⟩ hL hdep hcl K hK
    have e2 := hI.t2 (hdep 2 (by decide))
    rw [e2]
    refine (if_pos rfl).mpr ?_
    go_simp
    exact hK _ _ ⟨(upd (upd v 52 (.bool false)) 53 (.int .i64 0)), rfl, ⟨hI.t0, hI.t1, fun _ => rfl, fun _ => rfl, hI.t4, hI.t5, hI.t6, hI.t7, hI.t8, hI.t9, hI.t10, hI.t11, hI.t12, hI.t13, hI.t14, hI.t15, hI.t16, hI.t17, hI.t18, hI.t19, hI.t20, hI.t21, hI.t22, hI.t23, hI.t24, hI.t25, hI.t26, hI.t27, hI.t28, hI.t29, hI.t30, hI.t31, hI.t32, hI.t33, hI.t34, hI.t35, hI.t36, hI.t37, hI.t38, hI.t39, hI.t40, hI.t41, hI.t42, hI.t43, hI.t44, hI.t45, hI.t46, hI.t47, hI.t48, hI.t49, hI.t50, hI.t51, hI.t52, hI.t53, hI.t54, hI.t55, hI.t56, hI.bw⟩⟩
  · rintro L a wx ⟨v, rfl, hI⟩ hL hdep hcl K hK
    have e3 := hI.t3 (hdep 3 (by decide))
    have e2 := hI.t2 (hdep 2 (by decide))
    rw [e3, e2]
    refine (if_pos rfl).mpr ?_
    go_simp
    exact hK _ _ ⟨(upd (upd (upd v 53 (.int .i64 0)) 52 (.bool false)) 54 (.bool false)), rfl, ⟨hI.t0, hI.t1, fun _ => rfl, fun _ => rfl, fun _ => rfl, hI.t5, hI.t6, hI.t7, hI.t8, hI.t9, hI.t10, hI.t11, hI.t12, hI.t13, hI.t14, hI.t15, hI.t16, hI.t17, hI.t18, hI.t19, hI.t20, hI.t21, hI.t22, hI.t23, hI.t24, hI.t25, hI.t26, hI.t27, hI.t28, hI.t29, hI.t30, hI.t31, hI.t32, hI.t33, hI.t34, hI.t35, hI.t36, hI.t37, hI.t38, hI.t39, hI.t40, hI.t41, hI.t42, hI.t43, hI.t44, hI.t45, hI.t46, hI.t47, hI.t48, hI.t49, hI.t50, hI.t51, hI.t52, hI.t53, hI.t54, hI.t55, hI.t56, hI.bw⟩⟩
  · rintro L a wx ⟨v, rfl, hI⟩ hL hdep hcl K hK
    have e2 := hI.t2 (hdep 2 (by decide))
    have e4 := hI.t4 (hdep 4 (by decide))
    rw [e2, e4]
    go_simp
    exact hK _ _ ⟨(upd (upd (upd v 52 (.bool false)) 54 (.bool false)) 55 (.bool false)), rfl, ⟨hI.t0, hI.t1, fun _ => rfl, hI.t3, fun _ => rfl, fun _ => rfl, hI.t6, hI.t7, hI.t8, hI.t9, hI.t10, hI.t11, hI.t12, hI.t13, hI.t14, hI.t15, hI.t16, hI.t17, hI.t18, hI.t19, hI.t20, hI.t21, hI.t22, hI.t23, hI.t24, hI.t25, hI.t26, hI.t27, hI.t28, hI.t29, hI.t30, hI.t31, hI.t32, hI.t33, hI.t34, hI.t35, hI.t36, hI.t37, hI.t38, hI.t39, hI.t40, hI.t41, hI.t42, hI.t43, hI.t44, hI.t45, hI.t46, hI.t47, hI.t48, hI.t49, hI.t50, hI.t51, hI.t52, hI.t53, hI.t54, hI.t55, hI.t56, hI.bw⟩⟩
  · rintro L a wx ⟨v, rfl, hI⟩ hL hdep hcl K hK
    have e5 := hI.t5 (hdep 5 (by decide))
    rw [e5]
    go_simp
    exact hK _ _ ⟨(upd (upd v 55 (.bool false)) 56 (.bool false)), rfl, ⟨hI.t0, hI.t1, hI.t2, hI.t3, hI.t4, fun _ => rfl, fun _ => rfl, hI.t7, hI.t8, hI.t9, hI.t10, hI.t11, hI.t12, hI.t13, hI.t14, hI.t15, hI.t16, hI.t17, hI.t18, hI.t19, hI.t20, hI.t21, hI.t22, hI.t23, hI.t24, hI.t25, hI.t26, hI.t27, hI.t28, hI.t29, hI.t30, hI.t31, hI.t32, hI.t33, hI.t34, hI.t35, hI.t36, hI.t37, hI.t38, hI.t39, hI.t40, hI.t41, hI.t42, hI.t43, hI.t44, hI.t45, hI.t46, hI.t47, hI.t48, hI.t49, hI.t50, hI.t51, hI.t52, hI.t53, hI.t54, hI.t55, hI.t56, hI.bw⟩⟩
  · rintro L a wx ⟨v, rfl, hI⟩ hL hdep hcl K hK
    have e6 := hI.t6 (hdep 6 (by decide))
    rw [e6]
    refine (if_pos rfl).mpr ?_
    go_simp
    exact hK _ _ ⟨(upd (upd v 56 (.bool false)) 57 (.int .i64 0)), rfl, ⟨hI.t0, hI.t1, hI.t2, hI.t3, hI.t4, hI.t5, fun _ => rfl, fun _ => rfl, hI.t8, hI.t9, hI.t10, hI.t11, hI.t12, hI.t13, hI.t14, hI.t15, hI.t16, hI.t17, hI.t18, hI.t19, hI.t20, hI.t21, hI.t22, hI.t23, hI.t24, hI.t25, hI.t26, hI.t27, hI.t28, hI.t29, hI.t30, hI.t31, hI.t32, hI.t33, hI.t34, hI.t35, hI.t36, hI.t37, hI.t38, hI.t39, hI.t40, hI.t41, hI.t42, hI.t43, hI.t44, hI.t45, hI.t46, hI.t47, hI.t48, hI.t49, hI.t50, hI.t51, hI.t52, hI.t53, hI.t54, hI.t55, hI.t56, hI.bw⟩⟩
  · rintro L a wx ⟨v, rfl, hI⟩ hL hdep hcl K hK
    have e7 := hI.t7 (hdep 7 (by decide))
    have e6 := hI.t6 (hdep 6 (by decide))
    rw [e7, e6]
    refine (if_pos rfl).mpr ?_
    go_simp
    exact hK _ _ ⟨(upd (upd (upd v 57 (.int .i64 0)) 56 (.bool false)) 58 (.bool false)), rfl, ⟨hI.t0, hI.t1, hI.t2, hI.t3, hI.t4, hI.t5, fun _ => rfl, fun _ => rfl, fun _ => rfl, hI.t9, hI.t10, hI.t11, hI.t12, hI.t13, hI.t14, hI.t15, hI.t16, hI.t17, hI.t18, hI.t19, hI.t20, hI.t21, hI.t22, hI.t23, hI.t24, hI.t25, hI.t26, hI.t27, hI.t28, hI.t29, hI.t30, hI.t31, hI.t32, hI.t33, hI.t34, hI.t35, hI.t36, hI.t37, hI.t38, hI.t39, hI.t40, hI.t41, hI.t42, hI.t43, hI.t44, hI.t45, hI.t46, hI.t47, hI.t48, hI.t49, hI.t50, hI.t51, hI.t52, hI.t53, hI.t54, hI.t55, hI.t56, hI.bw⟩⟩
  · rintro L a wx ⟨v, rfl, hI⟩ hL hdep hcl K hK
    have e6 := hI.t6 (hdep 6 (by decide))
    have e8 := hI.t8 (hdep 8 (by decide))
    rw [e6, e8]
    go_simp
    exact hK _ _ ⟨(upd (upd (upd v 56 (.bool false)) 58 (.bool false)) 59 (.bool false)), rfl, ⟨hI.t0, hI.t1, hI.t2, hI.t3, hI.t4, hI.t5, fun _ => rfl, hI.t7, fun _ => rfl, fun _ => rfl, hI.t10, hI.t11, hI.t12, hI.t13, hI.t14, hI.t15, hI.t16, hI.t17, hI.t18, hI.t19, hI.t20, hI.t21, hI.t22, hI.t23, hI.t24, hI.t25, hI.t26, hI.t27, hI.t28, hI.t29, hI.t30, hI.t31, hI.t32, hI.t33, hI.t34, hI.t35, hI.t36, hI.t37, hI.t38, hI.t39, hI.t40, hI.t41, hI.t42, hI.t43, hI.t44, hI.t45, hI.t46, hI.t47, hI.t48, hI.t49, hI.t50, hI.t51, hI.t52, hI.t53, hI.t54, hI.t55, hI.t56, hI.bw⟩⟩
  · rintro L a wx ⟨v, rfl, hI⟩ hL hdep hcl K hK
    have e9 := hI.t9 (hdep 9 (by decide))
    rw [e9]
    go_simp
    exact hK _ _ ⟨(upd (upd v 59 (.bool false)) 60 (.bool false)), rfl, ⟨hI.t0, hI.t1, hI.t2, hI.t3, hI.t4, hI.t5, hI.t6, hI.t7, hI.t8, fun _ => rfl, fun _ => rfl, hI.t11, hI.t12, hI.t13, hI.t14, hI.t15, hI.t16, hI.t17, hI.t18, hI.t19, hI.t20, hI.t21, hI.t22, hI.t23, hI.t24, hI.t25, hI.t26, hI.t27, hI.t28, hI.t29, hI.t30, hI.t31, hI.t32, hI.t33, hI.t34, hI.t35, hI.t36, hI.t37, hI.t38, hI.t39, hI.t40, hI.t41, hI.t42, hI.t43, hI.t44, hI.t45, hI.t46, hI.t47, hI.t48, hI.t49, hI.t50, hI.t51, hI.t52, hI.t53, hI.t54, hI.t55, hI.t56, hI.bw⟩⟩
  · rintro L a wx ⟨v, rfl, hI⟩ hL hdep hcl K hK
    have e10 := hI.t10 (hdep 10 (by decide))
    rw [e10]
    refine (if_pos rfl).mpr ?_
    go_simp
    exact hK _ _ ⟨(upd (upd v 60 (.bool false)) 61 (.slice (some ⟨gx, 0, none⟩) 1 cx)), rfl, ⟨hI.t0, hI.t1, hI.t2, hI.t3, hI.t4, hI.t5, hI.t6, hI.t7, hI.t8, hI.t9, fun _ => rfl, fun _ => rfl, hI.t12, hI.t13, hI.t14, hI.t15, hI.t16, hI.t17, hI.t18, hI.t19, hI.t20, hI.t21, hI.t22, hI.t23, hI.t24, hI.t25, hI.t26, hI.t27, hI.t28, hI.t29, hI.t30, hI.t31, hI.t32, hI.t33, hI.t34, hI.t35, hI.t36, hI.t37, hI.t38, hI.t39, hI.t40, hI.t41, hI.t42, hI.t43, hI.t44, hI.t45, hI.t46, hI.t47, hI.t48, hI.t49, hI.t50, hI.t51, hI.t52, hI.t53, hI.t54, hI.t55, hI.t56, hI.bw⟩⟩
  · rintro L a wx ⟨v, rfl, hI⟩ hL hdep hcl K hK
    have e11 := hI.t11 (hdep 11 (by decide))
    have e10 := hI.t10 (hdep 10 (by decide))
    rw [e11, e10]
    refine (if_pos rfl).mpr ?_
    go_simp
    exact hK _ _ ⟨(upd (upd (upd v 61 (.slice (some ⟨gx, 0, none⟩) 1 cx)) 60 (.bool false)) 62 (.int .i64 (1 : Int))), rfl, ⟨hI.t0, hI.t1, hI.t2, hI.t3, hI.t4, hI.t5, hI.t6, hI.t7, hI.t8, hI.t9, fun _ => rfl, fun _ => rfl, fun _ => rfl, hI.t13, hI.t14, hI.t15, hI.t16, hI.t17, hI.t18, hI.t19, hI.t20, hI.t21, hI.t22, hI.t23, hI.t24, hI.t25, hI.t26, hI.t27, hI.t28, hI.t29, hI.t30, hI.t31, hI.t32, hI.t33, hI.t34, hI.t35, hI.t36, hI.t37, hI.t38, hI.t39, hI.t40, hI.t41, hI.t42, hI.t43, hI.t44, hI.t45, hI.t46, hI.t47, hI.t48, hI.t49, hI.t50, hI.t51, hI.t52, hI.t53, hI.t54, hI.t55, hI.t56, hI.bw⟩⟩
  · rintro L a wx ⟨v, rfl, hI⟩ hL hdep hcl K hK
    have e12 := hI.t12 (hdep 12 (by decide))
    have e10 := hI.t10 (hdep 10 (by decide))
    rw [e12, e10]
    refine (if_pos rfl).mpr ?_
    go_simp
    exact hK _ _ ⟨(upd (upd (upd v 62 (.int .i64 (1 : Int))) 60 (.bool false)) 63 (.bool false)), rfl, ⟨hI.t0, hI.t1, hI.t2, hI.t3, hI.t4, hI.t5, hI.t6, hI.t7, hI.t8, hI.t9, fun _ => rfl, hI.t11, fun _ => rfl, fun _ => rfl, hI.t14, hI.t15, hI.t16, hI.t17, hI.t18, hI.t19, hI.t20, hI.t21, hI.t22, hI.t23, hI.t24, hI.t25, hI.t26, hI.t27, hI.t28, hI.t29, hI.t30, hI.t31, hI.t32, hI.t33, hI.t34, hI.t35, hI.t36, hI.t37, hI.t38, hI.t39, hI.t40, hI.t41, hI.t42, hI.t43, hI.t44, hI.t45, hI.t46, hI.t47, hI.t48, hI.t49, hI.t50, hI.t51, hI.t52, hI.t53, hI.t54, hI.t55, hI.t56, hI.bw⟩⟩
  · rintro L a wx ⟨v, rfl, hI⟩ hL hdep hcl K hK
    have e10 := hI.t10 (hdep 10 (by decide))
    have e13 := hI.t13 (hdep 13 (by decide))
    rw [e10, e13]
    go_simp
    exact hK _ _ ⟨(upd (upd (upd v 60 (.bool false)) 63 (.bool false)) 64 (.bool false)), rfl, ⟨hI.t0, hI.t1, hI.t2, hI.t3, hI.t4, hI.t5, hI.t6, hI.t7, hI.t8, hI.t9, fun _ => rfl, hI.t11, hI.t12, fun _ => rfl, fun _ => rfl, hI.t15, hI.t16, hI.t17, hI.t18, hI.t19, hI.t20, hI.t21, hI.t22, hI.t23, hI.t24, hI.t25, hI.t26, hI.t27, hI.t28, hI.t29, hI.t30, hI.t31, hI.t32, hI.t33, hI.t34, hI.t35, hI.t36, hI.t37, hI.t38, hI.t39, hI.t40, hI.t41, hI.t42, hI.t43, hI.t44, hI.t45, hI.t46, hI.t47, hI.t48, hI.t49, hI.t50, hI.t51, hI.t52, hI.t53, hI.t54, hI.t55, hI.t56, hI.bw⟩⟩
  · rintro L a wx ⟨v, rfl, hI⟩ hL hdep hcl K hK
    have e14 := hI.t14 (hdep 14 (by decide))
    rw [e14]
    go_simp
    exact hK _ _ ⟨(upd (upd v 64 (.bool false)) 65 (.bool false)), rfl, ⟨hI.t0, hI.t1, hI.t2, hI.t3, hI.t4, hI.t5, hI.t6, hI.t7, hI.t8, hI.t9, hI.t10, hI.t11, hI.t12, hI.t13, fun _ => rfl, fun _ => rfl, hI.t16, hI.t17, hI.t18, hI.t19, hI.t20, hI.t21, hI.t22, hI.t23, hI.t24, hI.t25, hI.t26, hI.t27, hI.t28, hI.t29, hI.t30, hI.t31, hI.t32, hI.t33, hI.t34, hI.t35, hI.t36, hI.t37, hI.t38, hI.t39, hI.t40, hI.t41, hI.t42, hI.t43, hI.t44, hI.t45, hI.t46, hI.t47, hI.t48, hI.t49, hI.t50, hI.t51, hI.t52, hI.t53, hI.t54, hI.t55, hI.t56, hI.bw⟩⟩
  · rintro L a wx ⟨v, rfl, hI⟩ hL hdep hcl K hK
    have e15 := hI.t15 (hdep 15 (by decide))
    rw [e15]
    refine (if_pos rfl).mpr ?_
    go_simp
    exact hK _ _ ⟨(upd (upd v 65 (.bool false)) 66 (.slice (some ⟨gy, 0, none⟩) 2 cy)), rfl, ⟨hI.t0, hI.t1, hI.t2, hI.t3, hI.t4, hI.t5, hI.t6, hI.t7, hI.t8, hI.t9, hI.t10, hI.t11, hI.t12, hI.t13, hI.t14, fun _ => rfl, fun _ => rfl, hI.t17, hI.t18, hI.t19, hI.t20, hI.t21, hI.t22, hI.t23, hI.t24, hI.t25, hI.t26, hI.t27, hI.t28, hI.t29, hI.t30, hI.t31, hI.t32, hI.t33, hI.t34, hI.t35, hI.t36, hI.t37, hI.t38, hI.t39, hI.t40, hI.t41, hI.t42, hI.t43, hI.t44, hI.t45, hI.t46, hI.t47, hI.t48, hI.t49, hI.t50, hI.t51, hI.t52, hI.t53, hI.t54, hI.t55, hI.t56, hI.bw⟩⟩
  · rintro L a wx ⟨v, rfl, hI⟩ hL hdep hcl K hK
    have e16 := hI.t16 (hdep 16 (by decide))
    have e15 := hI.t15 (hdep 15 (by decide))
    rw [e16, e15]
    refine (if_pos rfl).mpr ?_
    go_simp
    exact hK _ _ ⟨(upd (upd (upd v 66 (.slice (some ⟨gy, 0, none⟩) 2 cy)) 65 (.bool false)) 67 (.int .i64 (2 : Int))), rfl, ⟨hI.t0, hI.t1, hI.t2, hI.t3, hI.t4, hI.t5, hI.t6, hI.t7, hI.t8, hI.t9, hI.t10, hI.t11, hI.t12, hI.t13, hI.t14, fun _ => rfl, fun _ => rfl, fun _ => rfl, hI.t18, hI.t19, hI.t20, hI.t21, hI.t22, hI.t23, hI.t24, hI.t25, hI.t26, hI.t27, hI.t28, hI.t29, hI.t30, hI.t31, hI.t32, hI.t33, hI.t34, hI.t35, hI.t36, hI.t37, hI.t38, hI.t39, hI.t40, hI.t41, hI.t42, hI.t43, hI.t44, hI.t45, hI.t46, hI.t47, hI.t48, hI.t49, hI.t50, hI.t51, hI.t52, hI.t53, hI.t54, hI.t55, hI.t56, hI.bw⟩⟩
  · rintro L a wx ⟨v, rfl, hI⟩ hL hdep hcl K hK
    have e17 := hI.t17 (hdep 17 (by decide))
    have e15 := hI.t15 (hdep 15 (by decide))
    rw [e17, e15]
    refine (if_pos rfl).mpr ?_
    go_simp
    exact hK _ _ ⟨(upd (upd (upd v 67 (.int .i64 (2 : Int))) 65 (.bool false)) 68 (.bool false)), rfl, ⟨hI.t0, hI.t1, hI.t2, hI.t3, hI.t4, hI.t5, hI.t6, hI.t7, hI.t8, hI.t9, hI.t10, hI.t11, hI.t12, hI.t13, hI.t14, fun _ => rfl, hI.t16, fun _ => rfl, fun _ => rfl, hI.t19, hI.t20, hI.t21, hI.t22, hI.t23, hI.t24, hI.t25, hI.t26, hI.t27, hI.t28, hI.t29, hI.t30, hI.t31, hI.t32, hI.t33, hI.t34, hI.t35, hI.t36, hI.t37, hI.t38, hI.t39, hI.t40, hI.t41, hI.t42, hI.t43, hI.t44, hI.t45, hI.t46, hI.t47, hI.t48, hI.t49, hI.t50, hI.t51, hI.t52, hI.t53, hI.t54, hI.t55, hI.t56, hI.bw⟩⟩
  · rintro L a wx ⟨v, rfl, hI⟩ hL hdep hcl K hK
    have e15 := hI.t15 (hdep 15 (by decide))
    have e18 := hI.t18 (hdep 18 (by decide))
    rw [e15, e18]
    go_simp
    exact hK _ _ ⟨(upd (upd (upd v 65 (.bool false)) 68 (.bool false)) 69 (.bool false)), rfl, ⟨hI.t0, hI.t1, hI.t2, hI.t3, hI.t4, hI.t5, hI.t6, hI.t7, hI.t8, hI.t9, hI.t10, hI.t11, hI.t12, hI.t13, hI.t14, fun _ => rfl, hI.t16, hI.t17, fun _ => rfl, fun _ => rfl, hI.t20, hI.t21, hI.t22, hI.t23, hI.t24, hI.t25, hI.t26, hI.t27, hI.t28, hI.t29, hI.t30, hI.t31, hI.t32, hI.t33, hI.t34, hI.t35, hI.t36, hI.t37, hI.t38, hI.t39, hI.t40, hI.t41, hI.t42, hI.t43, hI.t44, hI.t45, hI.t46, hI.t47, hI.t48, hI.t49, hI.t50, hI.t51, hI.t52, hI.t53, hI.t54, hI.t55, hI.t56, hI.bw⟩⟩
  · rintro L a wx ⟨v, rfl, hI⟩ hL hdep hcl K hK
    have e19 := hI.t19 (hdep 19 (by decide))
    rw [e19]
    go_simp
    exact hK _ _ ⟨(upd (upd v 69 (.bool false)) 70 (.bool false)), rfl, ⟨hI.t0, hI.t1, hI.t2, hI.t3, hI.t4, hI.t5, hI.t6, hI.t7, hI.t8, hI.t9, hI.t10, hI.t11, hI.t12, hI.t13, hI.t14, hI.t15, hI.t16, hI.t17, hI.t18, fun _ => rfl, fun _ => rfl, hI.t21, hI.t22, hI.t23, hI.t24, hI.t25, hI.t26, hI.t27, hI.t28, hI.t29, hI.t30, hI.t31, hI.t32, hI.t33, hI.t34, hI.t35, hI.t36, hI.t37, hI.t38, hI.t39, hI.t40, hI.t41, hI.t42, hI.t43, hI.t44, hI.t45, hI.t46, hI.t47, hI.t48, hI.t49, hI.t50, hI.t51, hI.t52, hI.t53, hI.t54, hI.t55, hI.t56, hI.bw⟩⟩
  · rintro L a wx ⟨v, rfl, hI⟩ hL hdep hcl K hK
    have e20 := hI.t20 (hdep 20 (by decide))
    rw [e20]
    refine (if_pos rfl).mpr ?_
    go_simp
    exact hK _ _ ⟨(upd (upd v 70 (.bool false)) 71 (.slice (some ⟨gy, 0, none⟩) 2 cy)), rfl, ⟨hI.t0, hI.t1, hI.t2, hI.t3, hI.t4, hI.t5, hI.t6, hI.t7, hI.t8, hI.t9, hI.t10, hI.t11, hI.t12, hI.t13, hI.t14, hI.t15, hI.t16, hI.t17, hI.t18, hI.t19, fun _ => rfl, fun _ => rfl, hI.t22, hI.t23, hI.t24, hI.t25, hI.t26, hI.t27, hI.t28, hI.t29, hI.t30, hI.t31, hI.t32, hI.t33, hI.t34, hI.t35, hI.t36, hI.t37, hI.t38, hI.t39, hI.t40, hI.t41, hI.t42, hI.t43, hI.t44, hI.t45, hI.t46, hI.t47, hI.t48, hI.t49, hI.t50, hI.t51, hI.t52, hI.t53, hI.t54, hI.t55, hI.t56, hI.bw⟩⟩
  · rintro L a wx ⟨v, rfl, hI⟩ hL hdep hcl K hK
    have e21 := hI.t21 (hdep 21 (by decide))
    have e20 := hI.t20 (hdep 20 (by decide))
    rw [e21, e20]
    refine (if_pos rfl).mpr ?_
    go_simp
    exact hK _ _ ⟨(upd (upd (upd v 71 (.slice (some ⟨gy, 0, none⟩) 2 cy)) 70 (.bool false)) 72 (.pointer (some ⟨gy, 32, none⟩))), rfl, ⟨hI.t0, hI.t1, hI.t2, hI.t3, hI.t4, hI.t5, hI.t6, hI.t7, hI.t8, hI.t9, hI.t10, hI.t11, hI.t12, hI.t13, hI.t14, hI.t15, hI.t16, hI.t17, hI.t18, hI.t19, fun _ => rfl, fun _ => rfl, fun _ => rfl, hI.t23, hI.t24, hI.t25, hI.t26, hI.t27, hI.t28, hI.t29, hI.t30, hI.t31, hI.t32, hI.t33, hI.t34, hI.t35, hI.t36, hI.t37, hI.t38, hI.t39, hI.t40, hI.t41, hI.t42, hI.t43, hI.t44, hI.t45, hI.t46, hI.t47, hI.t48, hI.t49, hI.t50, hI.t51, hI.t52, hI.t53, hI.t54, hI.t55, hI.t56, hI.bw⟩⟩
  · rintro L a wx ⟨v, rfl, hI⟩ hL hdep hcl K hK
    have e22 := hI.t22 (hdep 22 (by decide))
    have e20 := hI.t20 (hdep 20 (by decide))
    rw [e22, e20]
    refine (if_pos rfl).mpr ?_
    refine wp_load_mid 29 _ rfl gy 32 rfl (bvs NAB) (.array 32 5) (RY.out wx hI.bw) Try.underlying29 rfl IAB.out ?_
    exact hK _ _ ⟨(upd (upd (upd v 72 (.pointer (some ⟨gy, 32, none⟩))) 70 (.bool false)) 73 (.agg (bvs NAB).toArray)), rfl, ⟨hI.t0, hI.t1, hI.t2, hI.t3, hI.t4, hI.t5, hI.t6, hI.t7, hI.t8, hI.t9, hI.t10, hI.t11, hI.t12, hI.t13, hI.t14, hI.t15, hI.t16, hI.t17, hI.t18, hI.t19, fun _ => rfl, hI.t21, fun _ => rfl, fun _ => rfl, hI.t24, hI.t25, hI.t26, hI.t27, hI.t28, hI.t29, hI.t30, hI.t31, hI.t32, hI.t33, hI.t34, hI.t35, hI.t36, hI.t37, hI.t38, hI.t39, hI.t40, hI.t41, hI.t42, hI.t43, hI.t44, hI.t45, hI.t46, hI.t47, hI.t48, hI.t49, hI.t50, hI.t51, hI.t52, hI.t53, hI.t54, hI.t55, hI.t56, hI.bw⟩⟩
  · rintro L a wx ⟨v, rfl, hI⟩ hL hdep hcl K hK
    have e20 := hI.t20 (hdep 20 (by decide))
    rw [e20]
    refine (if_pos rfl).mpr ?_
    refine ow_load 29 _ rfl g11 0 rfl 29 (bvs NAB) (bvs NAB) (HG11.out wx hI.bw) (fun j v h => by rw [Nat.zero_add]; exact h) (.array 32 5) Try.underlying29 rfl IAB.out ?_
    exact hK _ _ ⟨(upd (upd v 70 (.bool false)) 74 (.agg (bvs NAB).toArray)), rfl, ⟨hI.t0, hI.t1, hI.t2, hI.t3, hI.t4, hI.t5, hI.t6, hI.t7, hI.t8, hI.t9, hI.t10, hI.t11, hI.t12, hI.t13, hI.t14, hI.t15, hI.t16, hI.t17, hI.t18, hI.t19, fun _ => rfl, hI.t21, hI.t22, hI.t23, fun _ => rfl, hI.t25, hI.t26, hI.t27, hI.t28, hI.t29, hI.t30, hI.t31, hI.t32, hI.t33, hI.t34, hI.t35, hI.t36, hI.t37, hI.t38, hI.t39, hI.t40, hI.t41, hI.t42, hI.t43, hI.t44, hI.t45, hI.t46, hI.t47, hI.t48, hI.t49, hI.t50, hI.t51, hI.t52, hI.t53, hI.t54, hI.t55, hI.t56, hI.bw⟩⟩
  · rintro L a wx ⟨v, rfl, hI⟩ hL hdep hcl K hK
    have e23 := hI.t23 (hdep 23 (by decide))
    have e24 := hI.t24 (hdep 24 (by decide))
    have e20 := hI.t20 (hdep 20 (by decide))
    rw [e23, e24, e20]
    refine (if_pos rfl).mpr ?_
    refine ow_neSame _ _ _ rfl NAB LAB.out rfl rfl ?_
    exact hK _ _ ⟨(upd (upd (upd (upd v 73 (.agg (bvs NAB).toArray)) 74 (.agg (bvs NAB).toArray)) 70 (.bool false)) 75 (.bool false)), rfl, ⟨hI.t0, hI.t1, hI.t2, hI.t3, hI.t4, hI.t5, hI.t6, hI.t7, hI.t8, hI.t9, hI.t10, hI.t11, hI.t12, hI.t13, hI.t14, hI.t15, hI.t16, hI.t17, hI.t18, hI.t19, fun _ => rfl, hI.t21, hI.t22, fun _ => rfl, fun _ => rfl, fun _ => rfl, hI.t26, hI.t27, hI.t28, hI.t29, hI.t30, hI.t31, hI.t32, hI.t33, hI.t34, hI.t35, hI.t36, hI.t37, hI.t38, hI.t39, hI.t40, hI.t41, hI.t42, hI.t43, hI.t44, hI.t45, hI.t46, hI.t47, hI.t48, hI.t49, hI.t50, hI.t51, hI.t52, hI.t53, hI.t54, hI.t55, hI.t56, hI.bw⟩⟩
  · rintro L a wx ⟨v, rfl, hI⟩ hL hdep hcl K hK
    have e20 := hI.t20 (hdep 20 (by decide))
    have e25 := hI.t25 (hdep 25 (by decide))
    rw [e20, e25]
    go_simp
    exact hK _ _ ⟨(upd (upd (upd v 70 (.bool false)) 75 (.bool false)) 76 (.bool false)), rfl, ⟨hI.t0, hI.t1, hI.t2, hI.t3, hI.t4, hI.t5, hI.t6, hI.t7, hI.t8, hI.t9, hI.t10, hI.t11, hI.t12, hI.t13, hI.t14, hI.t15, hI.t16, hI.t17, hI.t18, hI.t19, fun _ => rfl, hI.t21, hI.t22, hI.t23, hI.t24, fun _ => rfl, fun _ => rfl, hI.t27, hI.t28, hI.t29, hI.t30, hI.t31, hI.t32, hI.t33, hI.t34, hI.t35, hI.t36, hI.t37, hI.t38, hI.t39, hI.t40, hI.t41, hI.t42, hI.t43, hI.t44, hI.t45, hI.t46, hI.t47, hI.t48, hI.t49, hI.t50, hI.t51, hI.t52, hI.t53, hI.t54, hI.t55, hI.t56, hI.bw⟩⟩
  · rintro L a wx ⟨v, rfl, hI⟩ hL hdep hcl K hK
    have e26 := hI.t26 (hdep 26 (by decide))
    rw [e26]
    go_simp
    exact hK _ _ ⟨(upd (upd v 76 (.bool false)) 77 (.bool false)), rfl, ⟨hI.t0, hI.t1, hI.t2, hI.t3, hI.t4, hI.t5, hI.t6, hI.t7, hI.t8, hI.t9, hI.t10, hI.t11, hI.t12, hI.t13, hI.t14, hI.t15, hI.t16, hI.t17, hI.t18, hI.t19, hI.t20, hI.t21, hI.t22, hI.t23, hI.t24, hI.t25, fun _ => rfl, fun _ => rfl, hI.t28, hI.t29, hI.t30, hI.t31, hI.t32, hI.t33, hI.t34, hI.t35, hI.t36, hI.t37, hI.t38, hI.t39, hI.t40, hI.t41, hI.t42, hI.t43, hI.t44, hI.t45, hI.t46, hI.t47, hI.t48, hI.t49, hI.t50, hI.t51, hI.t52, hI.t53, hI.t54, hI.t55, hI.t56, hI.bw⟩⟩
  · rintro L a wx ⟨v, rfl, hI⟩ hL hdep hcl K hK
    have e27 := hI.t27 (hdep 27 (by decide))
    rw [e27]
    refine (if_pos rfl).mpr ?_
    go_simp
    exact hK _ _ ⟨(upd (upd v 77 (.bool false)) 78 (.slice (some ⟨gz, 0, none⟩) 1 cz)), rfl, ⟨hI.t0, hI.t1, hI.t2, hI.t3, hI.t4, hI.t5, hI.t6, hI.t7, hI.t8, hI.t9, hI.t10, hI.t11, hI.t12, hI.t13, hI.t14, hI.t15, hI.t16, hI.t17, hI.t18, hI.t19, hI.t20, hI.t21, hI.t22, hI.t23, hI.t24, hI.t25, hI.t26, fun _ => rfl, fun _ => rfl, hI.t29, hI.t30, hI.t31, hI.t32, hI.t33, hI.t34, hI.t35, hI.t36, hI.t37, hI.t38, hI.t39, hI.t40, hI.t41, hI.t42, hI.t43, hI.t44, hI.t45, hI.t46, hI.t47, hI.t48, hI.t49, hI.t50, hI.t51, hI.t52, hI.t53, hI.t54, hI.t55, hI.t56, hI.bw⟩⟩
  · rintro L a wx ⟨v, rfl, hI⟩ hL hdep hcl K hK
    have e28 := hI.t28 (hdep 28 (by decide))
    have e27 := hI.t27 (hdep 27 (by decide))
    rw [e28, e27]
    refine (if_pos rfl).mpr ?_
    go_simp
    exact hK _ _ ⟨(upd (upd (upd v 78 (.slice (some ⟨gz, 0, none⟩) 1 cz)) 77 (.bool false)) 79 (.int .i64 (1 : Int))), rfl, ⟨hI.t0, hI.t1, hI.t2, hI.t3, hI.t4, hI.t5, hI.t6, hI.t7, hI.t8, hI.t9, hI.t10, hI.t11, hI.t12, hI.t13, hI.t14, hI.t15, hI.t16, hI.t17, hI.t18, hI.t19, hI.t20, hI.t21, hI.t22, hI.t23, hI.t24, hI.t25, hI.t26, fun _ => rfl, fun _ => rfl, fun _ => rfl, hI.t30, hI.t31, hI.t32, hI.t33, hI.t34, hI.t35, hI.t36, hI.t37, hI.t38, hI.t39, hI.t40, hI.t41, hI.t42, hI.t43, hI.t44, hI.t45, hI.t46, hI.t47, hI.t48, hI.t49, hI.t50, hI.t51, hI.t52, hI.t53, hI.t54, hI.t55, hI.t56, hI.bw⟩⟩
  · rintro L a wx ⟨v, rfl, hI⟩ hL hdep hcl K hK
    have e29 := hI.t29 (hdep 29 (by decide))
    have e27 := hI.t27 (hdep 27 (by decide))
    rw [e29, e27]
    refine (if_pos rfl).mpr ?_
    go_simp
    exact hK _ _ ⟨(upd (upd (upd v 79 (.int .i64 (1 : Int))) 77 (.bool false)) 80 (.bool false)), rfl, ⟨hI.t0, hI.t1, hI.t2, hI.t3, hI.t4, hI.t5, hI.t6, hI.t7, hI.t8, hI.t9, hI.t10, hI.t11, hI.t12, hI.t13, hI.t14, hI.t15, hI.t16, hI.t17, hI.t18, hI.t19, hI.t20, hI.t21, hI.t22, hI.t23, hI.t24, hI.t25, hI.t26, fun _ => rfl, hI.t28, fun _ => rfl, fun _ => rfl, hI.t31, hI.t32, hI.t33, hI.t34, hI.t35, hI.t36, hI.t37, hI.t38, hI.t39, hI.t40, hI.t41, hI.t42, hI.t43, hI.t44, hI.t45, hI.t46, hI.t47, hI.t48, hI.t49, hI.t50, hI.t51, hI.t52, hI.t53, hI.t54, hI.t55, hI.t56, hI.bw⟩⟩
  · rintro L a wx ⟨v, rfl, hI⟩ hL hdep hcl K hK
    have e27 := hI.t27 (hdep 27 (by decide))
    have e30 := hI.t30 (hdep 30 (by decide))
    rw [e27, e30]
    go_simp
    exact hK _ _ ⟨(upd (upd (upd v 77 (.bool false)) 80 (.bool false)) 81 (.bool false)), rfl, ⟨hI.t0, hI.t1, hI.t2, hI.t3, hI.t4, hI.t5, hI.t6, hI.t7, hI.t8, hI.t9, hI.t10, hI.t11, hI.t12, hI.t13, hI.t14, hI.t15, hI.t16, hI.t17, hI.t18, hI.t19, hI.t20, hI.t21, hI.t22, hI.t23, hI.t24, hI.t25, hI.t26, fun _ => rfl, hI.t28, hI.t29, fun _ => rfl, fun _ => rfl, hI.t32, hI.t33, hI.t34, hI.t35, hI.t36, hI.t37, hI.t38, hI.t39, hI.t40, hI.t41, hI.t42, hI.t43, hI.t44, hI.t45, hI.t46, hI.t47, hI.t48, hI.t49, hI.t50, hI.t51, hI.t52, hI.t53, hI.t54, hI.t55, hI.t56, hI.bw⟩⟩
  · rintro L a wx ⟨v, rfl, hI⟩ hL hdep hcl K hK
    have e31 := hI.t31 (hdep 31 (by decide))
    rw [e31]
    go_simp
    exact hK _ _ ⟨(upd (upd v 81 (.bool false)) 82 (.bool false)), rfl, ⟨hI.t0, hI.t1, hI.t2, hI.t3, hI.t4, hI.t5, hI.t6, hI.t7, hI.t8, hI.t9, hI.t10, hI.t11, hI.t12, hI.t13, hI.t14, hI.t15, hI.t16, hI.t17, hI.t18, hI.t19, hI.t20, hI.t21, hI.t22, hI.t23, hI.t24, hI.t25, hI.t26, hI.t27, hI.t28, hI.t29, hI.t30, fun _ => rfl, fun _ => rfl, hI.t33, hI.t34, hI.t35, hI.t36, hI.t37, hI.t38, hI.t39, hI.t40, hI.t41, hI.t42, hI.t43, hI.t44, hI.t45, hI.t46, hI.t47, hI.t48, hI.t49, hI.t50, hI.t51, hI.t52, hI.t53, hI.t54, hI.t55, hI.t56, hI.bw⟩⟩
  · rintro L a wx ⟨v, rfl, hI⟩ hL hdep hcl K hK
    have e32 := hI.t32 (hdep 32 (by decide))
    rw [e32]
    refine (if_pos rfl).mpr ?_
    go_simp
    exact hK _ _ ⟨(upd (upd v 82 (.bool false)) 83 (.slice (some ⟨g12, 0, none⟩) 2 2)), rfl, ⟨hI.t0, hI.t1, hI.t2, hI.t3, hI.t4, hI.t5, hI.t6, hI.t7, hI.t8, hI.t9, hI.t10, hI.t11, hI.t12, hI.t13, hI.t14, hI.t15, hI.t16, hI.t17, hI.t18, hI.t19, hI.t20, hI.t21, hI.t22, hI.t23, hI.t24, hI.t25, hI.t26, hI.t27, hI.t28, hI.t29, hI.t30, hI.t31, fun _ => rfl, fun _ => rfl, hI.t34, hI.t35, hI.t36, hI.t37, hI.t38, hI.t39, hI.t40, hI.t41, hI.t42, hI.t43, hI.t44, hI.t45, hI.t46, hI.t47, hI.t48, hI.t49, hI.t50, hI.t51, hI.t52, hI.t53, hI.t54, hI.t55, hI.t56, hI.bw⟩⟩
  · rintro L a wx ⟨v, rfl, hI⟩ hL hdep hcl K hK
    have e33 := hI.t33 (hdep 33 (by decide))
    have e32 := hI.t32 (hdep 32 (by decide))
    rw [e33, e32]
    refine (if_pos rfl).mpr ?_
    go_simp
    exact hK _ _ ⟨(upd (upd (upd v 83 (.slice (some ⟨g12, 0, none⟩) 2 2)) 82 (.bool false)) 84 (.int .i64 (2 : Int))), rfl, ⟨hI.t0, hI.t1, hI.t2, hI.t3, hI.t4, hI.t5, hI.t6, hI.t7, hI.t8, hI.t9, hI.t10, hI.t11, hI.t12, hI.t13, hI.t14, hI.t15, hI.t16, hI.t17, hI.t18, hI.t19, hI.t20, hI.t21, hI.t22, hI.t23, hI.t24, hI.t25, hI.t26, hI.t27, hI.t28, hI.t29, hI.t30, hI.t31, fun _ => rfl, fun _ => rfl, fun _ => rfl, hI.t35, hI.t36, hI.t37, hI.t38, hI.t39, hI.t40, hI.t41, hI.t42, hI.t43, hI.t44, hI.t45, hI.t46, hI.t47, hI.t48, hI.t49, hI.t50, hI.t51, hI.t52, hI.t53, hI.t54, hI.t55, hI.t56, hI.bw⟩⟩
  · rintro L a wx ⟨v, rfl, hI⟩ hL hdep hcl K hK
    have e34 := hI.t34 (hdep 34 (by decide))
    have e32 := hI.t32 (hdep 32 (by decide))
    rw [e34, e32]
    refine (if_pos rfl).mpr ?_
    go_simp
    exact hK _ _ ⟨(upd (upd (upd v 84 (.int .i64 (2 : Int))) 82 (.bool false)) 85 (.bool false)), rfl, ⟨hI.t0, hI.t1, hI.t2, hI.t3, hI.t4, hI.t5, hI.t6, hI.t7, hI.t8, hI.t9, hI.t10, hI.t11, hI.t12, hI.t13, hI.t14, hI.t15, hI.t16, hI.t17, hI.t18, hI.t19, hI.t20, hI.t21, hI.t22, hI.t23, hI.t24, hI.t25, hI.t26, hI.t27, hI.t28, hI.t29, hI.t30, hI.t31, fun _ => rfl, hI.t33, fun _ => rfl, fun _ => rfl, hI.t36, hI.t37, hI.t38, hI.t39, hI.t40, hI.t41, hI.t42, hI.t43, hI.t44, hI.t45, hI.t46, hI.t47, hI.t48, hI.t49, hI.t50, hI.t51, hI.t52, hI.t53, hI.t54, hI.t55, hI.t56, hI.bw⟩⟩
  · rintro L a wx ⟨v, rfl, hI⟩ hL hdep hcl K hK
    have e32 := hI.t32 (hdep 32 (by decide))
    have e35 := hI.t35 (hdep 35 (by decide))
    rw [e32, e35]
    go_simp
    exact hK _ _ ⟨(upd (upd (upd v 82 (.bool false)) 85 (.bool false)) 86 (.bool false)), rfl, ⟨hI.t0, hI.t1, hI.t2, hI.t3, hI.t4, hI.t5, hI.t6, hI.t7, hI.t8, hI.t9, hI.t10, hI.t11, hI.t12, hI.t13, hI.t14, hI.t15, hI.t16, hI.t17, hI.t18, hI.t19, hI.t20, hI.t21, hI.t22, hI.t23, hI.t24, hI.t25, hI.t26, hI.t27, hI.t28, hI.t29, hI.t30, hI.t31, fun _ => rfl, hI.t33, hI.t34, fun _ => rfl, fun _ => rfl, hI.t37, hI.t38, hI.t39, hI.t40, hI.t41, hI.t42, hI.t43, hI.t44, hI.t45, hI.t46, hI.t47, hI.t48, hI.t49, hI.t50, hI.t51, hI.t52, hI.t53, hI.t54, hI.t55, hI.t56, hI.bw⟩⟩
  · rintro L a wx ⟨v, rfl, hI⟩ hL hdep hcl K hK
    have e36 := hI.t36 (hdep 36 (by decide))
    rw [e36]
    go_simp
    exact hK _ _ ⟨(upd (upd v 86 (.bool false)) 87 (.bool false)), rfl, ⟨hI.t0, hI.t1, hI.t2, hI.t3, hI.t4, hI.t5, hI.t6, hI.t7, hI.t8, hI.t9, hI.t10, hI.t11, hI.t12, hI.t13, hI.t14, hI.t15, hI.t16, hI.t17, hI.t18, hI.t19, hI.t20, hI.t21, hI.t22, hI.t23, hI.t24, hI.t25, hI.t26, hI.t27, hI.t28, hI.t29, hI.t30, hI.t31, hI.t32, hI.t33, hI.t34, hI.t35, fun _ => rfl, fun _ => rfl, hI.t38, hI.t39, hI.t40, hI.t41, hI.t42, hI.t43, hI.t44, hI.t45, hI.t46, hI.t47, hI.t48, hI.t49, hI.t50, hI.t51, hI.t52, hI.t53, hI.t54, hI.t55, hI.t56, hI.bw⟩⟩
  · rintro L a wx ⟨v, rfl, hI⟩ hL hdep hcl K hK
    have e37 := hI.t37 (hdep 37 (by decide))
    rw [e37]
    refine (if_pos rfl).mpr ?_
    go_simp
    exact hK _ _ ⟨(upd (upd v 87 (.bool false)) 88 (.slice (some ⟨g12, 0, none⟩) 2 2)), rfl, ⟨hI.t0, hI.t1, hI.t2, hI.t3, hI.t4, hI.t5, hI.t6, hI.t7, hI.t8, hI.t9, hI.t10, hI.t11, hI.t12, hI.t13, hI.t14, hI.t15, hI.t16, hI.t17, hI.t18, hI.t19, hI.t20, hI.t21, hI.t22, hI.t23, hI.t24, hI.t25, hI.t26, hI.t27, hI.t28, hI.t29, hI.t30, hI.t31, hI.t32, hI.t33, hI.t34, hI.t35, hI.t36, fun _ => rfl, fun _ => rfl, hI.t39, hI.t40, hI.t41, hI.t42, hI.t43, hI.t44, hI.t45, hI.t46, hI.t47, hI.t48, hI.t49, hI.t50, hI.t51, hI.t52, hI.t53, hI.t54, hI.t55, hI.t56, hI.bw⟩⟩
  · rintro L a wx ⟨v, rfl, hI⟩ hL hdep hcl K hK
    have e38 := hI.t38 (hdep 38 (by decide))
    have e37 := hI.t37 (hdep 37 (by decide))
    rw [e38, e37]
    refine (if_pos rfl).mpr ?_
    go_simp
    exact hK _ _ ⟨(upd (upd (upd v 88 (.slice (some ⟨g12, 0, none⟩) 2 2)) 87 (.bool false)) 89 (.pointer (some ⟨g12, 0, none⟩))), rfl, ⟨hI.t0, hI.t1, hI.t2, hI.t3, hI.t4, hI.t5, hI.t6, hI.t7, hI.t8, hI.t9, hI.t10, hI.t11, hI.t12, hI.t13, hI.t14, hI.t15, hI.t16, hI.t17, hI.t18, hI.t19, hI.t20, hI.t21, hI.t22, hI.t23, hI.t24, hI.t25, hI.t26, hI.t27, hI.t28, hI.t29, hI.t30, hI.t31, hI.t32, hI.t33, hI.t34, hI.t35, hI.t36, fun _ => rfl, fun _ => rfl, fun _ => rfl, hI.t40, hI.t41, hI.t42, hI.t43, hI.t44, hI.t45, hI.t46, hI.t47, hI.t48, hI.t49, hI.t50, hI.t51, hI.t52, hI.t53, hI.t54, hI.t55, hI.t56, hI.bw⟩⟩
  · rintro L a wx ⟨v, rfl, hI⟩ hL hdep hcl K hK
    have e39 := hI.t39 (hdep 39 (by decide))
    have e37 := hI.t37 (hdep 37 (by decide))
    rw [e39, e37]
    refine (if_pos rfl).mpr ?_
    refine wp_load_mid 29 _ rfl g12 0 rfl (bvs NAB) (.array 32 5) (R12.out wx hI.bw) Try.underlying29 rfl IAB.out ?_
    exact hK _ _ ⟨(upd (upd (upd v 89 (.pointer (some ⟨g12, 0, none⟩))) 87 (.bool false)) 90 (.agg (bvs NAB).toArray)), rfl, ⟨hI.t0, hI.t1, hI.t2, hI.t3, hI.t4, hI.t5, hI.t6, hI.t7, hI.t8, hI.t9, hI.t10, hI.t11, hI.t12, hI.t13, hI.t14, hI.t15, hI.t16, hI.t17, hI.t18, hI.t19, hI.t20, hI.t21, hI.t22, hI.t23, hI.t24, hI.t25, hI.t26, hI.t27, hI.t28, hI.t29, hI.t30, hI.t31, hI.t32, hI.t33, hI.t34, hI.t35, hI.t36, fun _ => rfl, hI.t38, fun _ => rfl, fun _ => rfl, hI.t41, hI.t42, hI.t43, hI.t44, hI.t45, hI.t46, hI.t47, hI.t48, hI.t49, hI.t50, hI.t51, hI.t52, hI.t53, hI.t54, hI.t55, hI.t56, hI.bw⟩⟩
  · rintro L a wx ⟨v, rfl, hI⟩ hL hdep hcl K hK
    have e37 := hI.t37 (hdep 37 (by decide))
    rw [e37]
    refine (if_pos rfl).mpr ?_
    refine ow_load 29 _ rfl g11 0 rfl 29 (bvs NAB) (bvs NAB) (HG11.out wx hI.bw) (fun j v h => by rw [Nat.zero_add]; exact h) (.array 32 5) Try.underlying29 rfl IAB.out ?_
    exact hK _ _ ⟨(upd (upd v 87 (.bool false)) 91 (.agg (bvs NAB).toArray)), rfl, ⟨hI.t0, hI.t1, hI.t2, hI.t3, hI.t4, hI.t5, hI.t6, hI.t7, hI.t8, hI.t9, hI.t10, hI.t11, hI.t12, hI.t13, hI.t14, hI.t15, hI.t16, hI.t17, hI.t18, hI.t19, hI.t20, hI.t21, hI.t22, hI.t23, hI.t24, hI.t25, hI.t26, hI.t27, hI.t28, hI.t29, hI.t30, hI.t31, hI.t32, hI.t33, hI.t34, hI.t35, hI.t36, fun _ => rfl, hI.t38, hI.t39, hI.t40, fun _ => rfl, hI.t42, hI.t43, hI.t44, hI.t45, hI.t46, hI.t47, hI.t48, hI.t49, hI.t50, hI.t51, hI.t52, hI.t53, hI.t54, hI.t55, hI.t56, hI.bw⟩⟩
  · rintro L a wx ⟨v, rfl, hI⟩ hL hdep hcl K hK
    have e40 := hI.t40 (hdep 40 (by decide))
    have e41 := hI.t41 (hdep 41 (by decide))
    have e37 := hI.t37 (hdep 37 (by decide))
    rw [e40, e41, e37]
    refine (if_pos rfl).mpr ?_
    refine ow_neSame _ _ _ rfl NAB LAB.out rfl rfl ?_
    exact hK _ _ ⟨(upd (upd (upd (upd v 90 (.agg (bvs NAB).toArray)) 91 (.agg (bvs NAB).toArray)) 87 (.bool false)) 92 (.bool false)), rfl, ⟨hI.t0, hI.t1, hI.t2, hI.t3, hI.t4, hI.t5, hI.t6, hI.t7, hI.t8, hI.t9, hI.t10, hI.t11, hI.t12, hI.t13, hI.t14, hI.t15, hI.t16, hI.t17, hI.t18, hI.t19, hI.t20, hI.t21, hI.t22, hI.t23, hI.t24, hI.t25, hI.t26, hI.t27, hI.t28, hI.t29, hI.t30, hI.t31, hI.t32, hI.t33, hI.t34, hI.t35, hI.t36, fun _ => rfl, hI.t38, hI.t39, fun _ => rfl, fun _ => rfl, fun _ => rfl, hI.t43, hI.t44, hI.t45, hI.t46, hI.t47, hI.t48, hI.t49, hI.t50, hI.t51, hI.t52, hI.t53, hI.t54, hI.t55, hI.t56, hI.bw⟩⟩
  · rintro L a wx ⟨v, rfl, hI⟩ hL hdep hcl K hK
    have e37 := hI.t37 (hdep 37 (by decide))
    have e42 := hI.t42 (hdep 42 (by decide))
    rw [e37, e42]
    go_simp
    exact hK _ _ ⟨(upd (upd (upd v 87 (.bool false)) 92 (.bool false)) 93 (.bool false)), rfl, ⟨hI.t0, hI.t1, hI.t2, hI.t3, hI.t4, hI.t5, hI.t6, hI.t7, hI.t8, hI.t9, hI.t10, hI.t11, hI.t12, hI.t13, hI.t14, hI.t15, hI.t16, hI.t17, hI.t18, hI.t19, hI.t20, hI.t21, hI.t22, hI.t23, hI.t24, hI.t25, hI.t26, hI.t27, hI.t28, hI.t29, hI.t30, hI.t31, hI.t32, hI.t33, hI.t34, hI.t35, hI.t36, fun _ => rfl, hI.t38, hI.t39, hI.t40, hI.t41, fun _ => rfl, fun _ => rfl, hI.t44, hI.t45, hI.t46, hI.t47, hI.t48, hI.t49, hI.t50, hI.t51, hI.t52, hI.t53, hI.t54, hI.t55, hI.t56, hI.bw⟩⟩
  · rintro L a wx ⟨v, rfl, hI⟩ hL hdep hcl K hK
    have e43 := hI.t43 (hdep 43 (by decide))
    rw [e43]
    go_simp
    exact hK _ _ ⟨(upd (upd v 93 (.bool false)) 94 (.bool false)), rfl, ⟨hI.t0, hI.t1, hI.t2, hI.t3, hI.t4, hI.t5, hI.t6, hI.t7, hI.t8, hI.t9, hI.t10, hI.t11, hI.t12, hI.t13, hI.t14, hI.t15, hI.t16, hI.t17, hI.t18, hI.t19, hI.t20, hI.t21, hI.t22, hI.t23, hI.t24, hI.t25, hI.t26, hI.t27, hI.t28, hI.t29, hI.t30, hI.t31, hI.t32, hI.t33, hI.t34, hI.t35, hI.t36, hI.t37, hI.t38, hI.t39, hI.t40, hI.t41, hI.t42, fun _ => rfl, fun _ => rfl, hI.t45, hI.t46, hI.t47, hI.t48, hI.t49, hI.t50, hI.t51, hI.t52, hI.t53, hI.t54, hI.t55, hI.t56, hI.bw⟩⟩
  · rintro L a wx ⟨v, rfl, hI⟩ hL hdep hcl K hK
    have e44 := hI.t44 (hdep 44 (by decide))
    rw [e44]
    refine (if_pos rfl).mpr ?_
    go_simp
    exact hK _ _ ⟨(upd (upd v 94 (.bool false)) 95 (.pointer (some ⟨r, 0, none⟩))), rfl, ⟨hI.t0, hI.t1, hI.t2, hI.t3, hI.t4, hI.t5, hI.t6, hI.t7, hI.t8, hI.t9, hI.t10, hI.t11, hI.t12, hI.t13, hI.t14, hI.t15, hI.t16, hI.t17, hI.t18, hI.t19, hI.t20, hI.t21, hI.t22, hI.t23, hI.t24, hI.t25, hI.t26, hI.t27, hI.t28, hI.t29, hI.t30, hI.t31, hI.t32, hI.t33, hI.t34, hI.t35, hI.t36, hI.t37, hI.t38, hI.t39, hI.t40, hI.t41, hI.t42, hI.t43, fun _ => rfl, fun _ => rfl, hI.t46, hI.t47, hI.t48, hI.t49, hI.t50, hI.t51, hI.t52, hI.t53, hI.t54, hI.t55, hI.t56, hI.bw⟩⟩
  · rintro L a wx ⟨v, rfl, hI⟩ hL hdep hcl K hK
    have e45 := hI.t45 (hdep 45 (by decide))
    have e44 := hI.t44 (hdep 44 (by decide))
    rw [e45, e44]
    refine (if_pos rfl).mpr ?_
    have HCC := HRT.out wx hI.bw
    go_simp
    refine HCC.mono ?_
    rintro e w' ⟨rfl, hb⟩
    exact hK _ _ ⟨(upd (upd (upd v 95 (.pointer (some ⟨r, 0, none⟩))) 94 (.bool false)) 96 (.agg (bvs NR).toArray)), rfl, ⟨hI.t0, hI.t1, hI.t2, hI.t3, hI.t4, hI.t5, hI.t6, hI.t7, hI.t8, hI.t9, hI.t10, hI.t11, hI.t12, hI.t13, hI.t14, hI.t15, hI.t16, hI.t17, hI.t18, hI.t19, hI.t20, hI.t21, hI.t22, hI.t23, hI.t24, hI.t25, hI.t26, hI.t27, hI.t28, hI.t29, hI.t30, hI.t31, hI.t32, hI.t33, hI.t34, hI.t35, hI.t36, hI.t37, hI.t38, hI.t39, hI.t40, hI.t41, hI.t42, hI.t43, fun _ => rfl, fun _ => rfl, fun _ => rfl, hI.t47, hI.t48, hI.t49, hI.t50, hI.t51, hI.t52, hI.t53, hI.t54, hI.t55, hI.t56, (hI.bw).trans (hb.mono (hI.bw).size)⟩⟩
  · rintro L a wx ⟨v, rfl, hI⟩ hL hdep hcl K hK
    have e44 := hI.t44 (hdep 44 (by decide))
    rw [e44]
    refine (if_pos rfl).mpr ?_
    refine ow_load 29 _ rfl g11 0 rfl 29 (bvs NAB) (bvs NAB) (HG11.out wx hI.bw) (fun j v h => by rw [Nat.zero_add]; exact h) (.array 32 5) Try.underlying29 rfl IAB.out ?_
    exact hK _ _ ⟨(upd (upd v 94 (.bool false)) 97 (.agg (bvs NAB).toArray)), rfl, ⟨hI.t0, hI.t1, hI.t2, hI.t3, hI.t4, hI.t5, hI.t6, hI.t7, hI.t8, hI.t9, hI.t10, hI.t11, hI.t12, hI.t13, hI.t14, hI.t15, hI.t16, hI.t17, hI.t18, hI.t19, hI.t20, hI.t21, hI.t22, hI.t23, hI.t24, hI.t25, hI.t26, hI.t27, hI.t28, hI.t29, hI.t30, hI.t31, hI.t32, hI.t33, hI.t34, hI.t35, hI.t36, hI.t37, hI.t38, hI.t39, hI.t40, hI.t41, hI.t42, hI.t43, fun _ => rfl, hI.t45, hI.t46, fun _ => rfl, hI.t48, hI.t49, hI.t50, hI.t51, hI.t52, hI.t53, hI.t54, hI.t55, hI.t56, hI.bw⟩⟩
  · rintro L a wx ⟨v, rfl, hI⟩ hL hdep hcl K hK
    have e44 := hI.t44 (hdep 44 (by decide))
    rw [e44]
    refine (if_pos rfl).mpr ?_
    refine ow_load 29 _ rfl g3 0 rfl 29 (bvs HC) (bvs HC) (HG3.out wx hI.bw) (fun j v h => by rw [Nat.zero_add]; exact h) (.array 32 5) Try.underlying29 rfl IC.out ?_
    exact hK _ _ ⟨(upd (upd v 94 (.bool false)) 98 (.agg (bvs HC).toArray)), rfl, ⟨hI.t0, hI.t1, hI.t2, hI.t3, hI.t4, hI.t5, hI.t6, hI.t7, hI.t8, hI.t9, hI.t10, hI.t11, hI.t12, hI.t13, hI.t14, hI.t15, hI.t16, hI.t17, hI.t18, hI.t19, hI.t20, hI.t21, hI.t22, hI.t23, hI.t24, hI.t25, hI.t26, hI.t27, hI.t28, hI.t29, hI.t30, hI.t31, hI.t32, hI.t33, hI.t34, hI.t35, hI.t36, hI.t37, hI.t38, hI.t39, hI.t40, hI.t41, hI.t42, hI.t43, fun _ => rfl, hI.t45, hI.t46, hI.t47, fun _ => rfl, hI.t49, hI.t50, hI.t51, hI.t52, hI.t53, hI.t54, hI.t55, hI.t56, hI.bw⟩⟩
  · rintro L a wx ⟨v, rfl, hI⟩ hL hdep hcl K hK
    have e47 := hI.t47 (hdep 47 (by decide))
    have e48 := hI.t48 (hdep 48 (by decide))
    have e44 := hI.t44 (hdep 44 (by decide))
    rw [e47, e48, e44]
    refine (if_pos rfl).mpr ?_
    have HCC := HNR.out wx
    go_simp
    refine HCC.mono ?_
    rintro e w' ⟨rfl, hb⟩
    exact hK _ _ ⟨(upd (upd (upd (upd v 97 (.agg (bvs NAB).toArray)) 98 (.agg (bvs HC).toArray)) 94 (.bool false)) 99 (.agg (bvs NR).toArray)), rfl, ⟨hI.t0, hI.t1, hI.t2, hI.t3, hI.t4, hI.t5, hI.t6, hI.t7, hI.t8, hI.t9, hI.t10, hI.t11, hI.t12, hI.t13, hI.t14, hI.t15, hI.t16, hI.t17, hI.t18, hI.t19, hI.t20, hI.t21, hI.t22, hI.t23, hI.t24, hI.t25, hI.t26, hI.t27, hI.t28, hI.t29, hI.t30, hI.t31, hI.t32, hI.t33, hI.t34, hI.t35, hI.t36, hI.t37, hI.t38, hI.t39, hI.t40, hI.t41, hI.t42, hI.t43, fun _ => rfl, hI.t45, hI.t46, fun _ => rfl, fun _ => rfl, fun _ => rfl, hI.t50, hI.t51, hI.t52, hI.t53, hI.t54, hI.t55, hI.t56, (hI.bw).trans (hb.mono (hI.bw).size)⟩⟩
  · rintro L a wx ⟨v, rfl, hI⟩ hL hdep hcl K hK
    have e46 := hI.t46 (hdep 46 (by decide))
    have e49 := hI.t49 (hdep 49 (by decide))
    have e44 := hI.t44 (hdep 44 (by decide))
    rw [e46, e49, e44]
    refine (if_pos rfl).mpr ?_
    refine ow_neSame _ _ _ rfl NR LR.out rfl rfl ?_
    exact hK _ _ ⟨(upd (upd (upd (upd v 96 (.agg (bvs NR).toArray)) 99 (.agg (bvs NR).toArray)) 94 (.bool false)) 100 (.bool false)), rfl, ⟨hI.t0, hI.t1, hI.t2, hI.t3, hI.t4, hI.t5, hI.t6, hI.t7, hI.t8, hI.t9, hI.t10, hI.t11, hI.t12, hI.t13, hI.t14, hI.t15, hI.t16, hI.t17, hI.t18, hI.t19, hI.t20, hI.t21, hI.t22, hI.t23, hI.t24, hI.t25, hI.t26, hI.t27, hI.t28, hI.t29, hI.t30, hI.t31, hI.t32, hI.t33, hI.t34, hI.t35, hI.t36, hI.t37, hI.t38, hI.t39, hI.t40, hI.t41, hI.t42, hI.t43, fun _ => rfl, hI.t45, fun _ => rfl, hI.t47, hI.t48, fun _ => rfl, fun _ => rfl, hI.t51, hI.t52, hI.t53, hI.t54, hI.t55, hI.t56, hI.bw⟩⟩
  · rintro L a wx ⟨v, rfl, hI⟩ hL hdep hcl K hK
    have e44 := hI.t44 (hdep 44 (by decide))
    have e50 := hI.t50 (hdep 50 (by decide))
    rw [e44, e50]
    go_simp
    exact hK _ _ ⟨(upd (upd (upd v 94 (.bool false)) 100 (.bool false)) 101 (.bool false)), rfl, ⟨hI.t0, hI.t1, hI.t2, hI.t3, hI.t4, hI.t5, hI.t6, hI.t7, hI.t8, hI.t9, hI.t10, hI.t11, hI.t12, hI.t13, hI.t14, hI.t15, hI.t16, hI.t17, hI.t18, hI.t19, hI.t20, hI.t21, hI.t22, hI.t23, hI.t24, hI.t25, hI.t26, hI.t27, hI.t28, hI.t29, hI.t30, hI.t31, hI.t32, hI.t33, hI.t34, hI.t35, hI.t36, hI.t37, hI.t38, hI.t39, hI.t40, hI.t41, hI.t42, hI.t43, fun _ => rfl, hI.t45, hI.t46, hI.t47, hI.t48, hI.t49, fun _ => rfl, fun _ => rfl, hI.t52, hI.t53, hI.t54, hI.t55, hI.t56, hI.bw⟩⟩
  · rintro L a wx ⟨v, rfl, hI⟩ hL hdep hcl K hK
    have e51 := hI.t51 (hdep 51 (by decide))
    rw [e51]
    go_simp
    exact hK _ _ ⟨(upd (upd v 101 (.bool false)) 102 (.bool false)), rfl, ⟨hI.t0, hI.t1, hI.t2, hI.t3, hI.t4, hI.t5, hI.t6, hI.t7, hI.t8, hI.t9, hI.t10, hI.t11, hI.t12, hI.t13, hI.t14, hI.t15, hI.t16, hI.t17, hI.t18, hI.t19, hI.t20, hI.t21, hI.t22, hI.t23, hI.t24, hI.t25, hI.t26, hI.t27, hI.t28, hI.t29, hI.t30, hI.t31, hI.t32, hI.t33, hI.t34, hI.t35, hI.t36, hI.t37, hI.t38, hI.t39, hI.t40, hI.t41, hI.t42, hI.t43, hI.t44, hI.t45, hI.t46, hI.t47, hI.t48, hI.t49, hI.t50, fun _ => rfl, fun _ => rfl, hI.t53, hI.t54, hI.t55, hI.t56, hI.bw⟩⟩
  · rintro L a wx ⟨v, rfl, hI⟩ hL hdep hcl K hK
    have e52 := hI.t52 (hdep 52 (by decide))
    rw [e52]
    refine (if_pos rfl).mpr ?_
    go_simp
    exact hK _ _ ⟨(upd (upd v 102 (.bool false)) 103 (.pointer (some ⟨r, 0, none⟩))), rfl, ⟨hI.t0, hI.t1, hI.t2, hI.t3, hI.t4, hI.t5, hI.t6, hI.t7, hI.t8, hI.t9, hI.t10, hI.t11, hI.t12, hI.t13, hI.t14, hI.t15, hI.t16, hI.t17, hI.t18, hI.t19, hI.t20, hI.t21, hI.t22, hI.t23, hI.t24, hI.t25, hI.t26, hI.t27, hI.t28, hI.t29, hI.t30, hI.t31, hI.t32, hI.t33, hI.t34, hI.t35, hI.t36, hI.t37, hI.t38, hI.t39, hI.t40, hI.t41, hI.t42, hI.t43, hI.t44, hI.t45, hI.t46, hI.t47, hI.t48, hI.t49, hI.t50, hI.t51, fun _ => rfl, fun _ => rfl, hI.t54, hI.t55, hI.t56, hI.bw⟩⟩
  · rintro L a wx ⟨v, rfl, hI⟩ hL hdep hcl K hK
    have e53 := hI.t53 (hdep 53 (by decide))
    have e52 := hI.t52 (hdep 52 (by decide))
    rw [e53, e52]
    refine (if_pos rfl).mpr ?_
    have HCC := HSZ.out wx hI.bw
    go_simp
    refine HCC.mono ?_
    rintro e w' ⟨rfl, rfl⟩
    exact hK _ _ ⟨(upd (upd (upd v 103 (.pointer (some ⟨r, 0, none⟩))) 102 (.bool false)) 104 (.int .u64 (3 : Int))), rfl, ⟨hI.t0, hI.t1, hI.t2, hI.t3, hI.t4, hI.t5, hI.t6, hI.t7, hI.t8, hI.t9, hI.t10, hI.t11, hI.t12, hI.t13, hI.t14, hI.t15, hI.t16, hI.t17, hI.t18, hI.t19, hI.t20, hI.t21, hI.t22, hI.t23, hI.t24, hI.t25, hI.t26, hI.t27, hI.t28, hI.t29, hI.t30, hI.t31, hI.t32, hI.t33, hI.t34, hI.t35, hI.t36, hI.t37, hI.t38, hI.t39, hI.t40, hI.t41, hI.t42, hI.t43, hI.t44, hI.t45, hI.t46, hI.t47, hI.t48, hI.t49, hI.t50, hI.t51, fun _ => rfl, fun _ => rfl, fun _ => rfl, hI.t55, hI.t56, hI.bw⟩⟩
  · rintro L a wx ⟨v, rfl, hI⟩ hL hdep hcl K hK
    have e54 := hI.t54 (hdep 54 (by decide))
    have e52 := hI.t52 (hdep 52 (by decide))
    rw [e54, e52]
    refine (if_pos rfl).mpr ?_
    go_simp
    exact hK _ _ ⟨(upd (upd (upd v 104 (.int .u64 (3 : Int))) 102 (.bool false)) 105 (.bool false)), rfl, ⟨hI.t0, hI.t1, hI.t2, hI.t3, hI.t4, hI.t5, hI.t6, hI.t7, hI.t8, hI.t9, hI.t10, hI.t11, hI.t12, hI.t13, hI.t14, hI.t15, hI.t16, hI.t17, hI.t18, hI.t19, hI.t20, hI.t21, hI.t22, hI.t23, hI.t24, hI.t25, hI.t26, hI.t27, hI.t28, hI.t29, hI.t30, hI.t31, hI.t32, hI.t33, hI.t34, hI.t35, hI.t36, hI.t37, hI.t38, hI.t39, hI.t40, hI.t41, hI.t42, hI.t43, hI.t44, hI.t45, hI.t46, hI.t47, hI.t48, hI.t49, hI.t50, hI.t51, fun _ => rfl, hI.t53, fun _ => rfl, fun _ => rfl, hI.t56, hI.bw⟩⟩
  · rintro L a wx ⟨v, rfl, hI⟩ hL hdep hcl K hK
    have e52 := hI.t52 (hdep 52 (by decide))
    have e55 := hI.t55 (hdep 55 (by decide))
    rw [e52, e55]
    go_simp
    exact hK _ _ ⟨(upd (upd (upd v 102 (.bool false)) 105 (.bool false)) 106 (.bool false)), rfl, ⟨hI.t0, hI.t1, hI.t2, hI.t3, hI.t4, hI.t5, hI.t6, hI.t7, hI.t8, hI.t9, hI.t10, hI.t11, hI.t12, hI.t13, hI.t14, hI.t15, hI.t16, hI.t17, hI.t18, hI.t19, hI.t20, hI.t21, hI.t22, hI.t23, hI.t24, hI.t25, hI.t26, hI.t27, hI.t28, hI.t29, hI.t30, hI.t31, hI.t32, hI.t33, hI.t34, hI.t35, hI.t36, hI.t37, hI.t38, hI.t39, hI.t40, hI.t41, hI.t42, hI.t43, hI.t44, hI.t45, hI.t46, hI.t47, hI.t48, hI.t49, hI.t50, hI.t51, fun _ => rfl, hI.t53, hI.t54, fun _ => rfl, fun _ => rfl, hI.bw⟩⟩
  · rintro a wx ⟨vF, rfl, hI⟩
    have e := hI.t56 rfl
    have hbw := hI.bw
    clear hI
    rw [e]
    have hP15 := hP14.kept hbw
    have hI15 := hI14.to hbw
    have E15 : Below w.heap.size w wx := E14.trans (hbw.mono E14.size)
    obtain ⟨w15, hw15⟩ : ∃ W, W = wx := ⟨_, rfl⟩
    rw [← hw15] at hP15 hI15 E15 ⊢
    have HFR : Hid (∀ W, Below w15.heap.size w15 W → Calls Try.prog 14 #[.slice (some ⟨g12, 0, none⟩) 2 2, .int .u64 3] W fun e w' => ∃ p, e = .returned (.tuple #[.pointer (some ⟨p, 0, none⟩), .int .i64 0]) ∧ IsR (fun b => W.heap.size ≤ b) w' p 3 [NAB, HC] ∧ W.heap.size ≤ p ∧ Below W.heap.size W w') := fun W hb => by
      have h1 := From_any [NAB, HC] (some ⟨g12, 0, none⟩) 2 3 W (rdd_arr' (n := 2) (hP15.kept hb) (All32.of (by simp [LAB.out, LC.out])) rfl) (by omega) (by rw [P3.out]; rfl)
      exact h1
    have HFN : Hid (∀ W, Calls Try.prog 14 #[.slice (some ⟨g12, 0, none⟩) 2 2, .int .u64 2] W fun e w' => e = .returned (.tuple #[.pointer none, .int .i64 1]) ∧ W = w') := fun W => by
      have h1 := From_no 2 (some ⟨g12, 0, none⟩) 2 2 W (.inr ⟨by omega, by rw [P2.out]; omega⟩)
      exact h1
    clear hw15 HG11 HG3 RY R12 HRT HSZ G11 G3 hOy14 hI14 E14 hP14 hbw e
    go_upto_region 11 with (go_at_call 14; with_reducible refine (HFR.out _ (Below.refl _ _)).mono ?_; rintro e w16 ⟨s, rfl, hS16, hs16, hb16⟩)
    have hI16 := hI15.to hb16
    have E16 : Below w.heap.size w w16 := E15.trans (hb16.mono E15.size)
    go_simp
    go_upto_region 12 with (go_at_call 14; with_reducible refine (HFN.out _).mono ?_; rintro e w17 ⟨rfl, hw17⟩; obtain rfl := hw17)
    have HRS : Hid (∀ W, Below w16.heap.size w16 W → Calls Try.prog 17 #[.pointer (some ⟨s, 0, none⟩)] W fun e w' => e = .returned (.agg (bvs NR).toArray) ∧ Below W.heap.size W w') := fun W hb => by
      have h1 := Root_all s 3 [NAB, HC] W (hS16.to hb)
      rwa [HFO.out] at h1
    have HRR : Hid (∀ W, Below w16.heap.size w16 W → Calls Try.prog 17 #[.pointer (some ⟨r, 0, none⟩)] W fun e w' => e = .returned (.agg (bvs NR).toArray) ∧ Below W.heap.size W w') := fun W hb => by
      have h1 := Root_all r 3 [NAB, HC] W (hI16.to hb)
      rwa [HFO.out] at h1
    have hqe := eqD LR.out LR.out
    have hqe2 := fun w => eqSame LR.out w
    clear hP15 hI15 E15 hb16 HFR HFN hI16 hS16
    go_simp
    go_wp2_with (first
      | (go_at_call 17; with_reducible refine (HRS.out _ (Below.refl _ _)).mono ?_; rintro e w18 ⟨rfl, hb18⟩)
      | (go_at_call 17; with_reducible refine (HRR.out _ hb18).mono ?_; rintro e w19 ⟨rfl, hb19⟩))
    go_ret
    exact ⟨by simp, E16.trans ((hb18.trans (hb19.mono hb18.size)).mono E16.size)⟩
end Go.Proofs.Ytlfncgpjgbpdjaa

namespace Go.Proofs.Ytlfncgpjgbpdjaa
open Go.RowKit

theorem Size_no (v : Value) (w : World) (hI : Calls Try.prog 21 #[v] w fun e w' => e = .returned (.bool false) ∧ w = w') :
    Calls Try.prog 13 #[v] w fun e w' => e = .returned (.int .u64 0) ∧ w = w' := by
  have HI := Lib.hid hI
  clear hI
  go_enter Try.func13, Try.ntmps13
  go_wp2_with (go_at_call 21; refine (HI.out).mono ?_; rintro e w1 ⟨rfl, rfl⟩)
  go_ret
  exact ⟨rfl, rfl⟩
theorem Peaks_no (v : Value) (w : World) (hI : Calls Try.prog 21 #[v] w fun e w' => e = .returned (.bool false) ∧ w = w') :
    Calls Try.prog 12 #[v] w fun e w' => e = .returned (.slice none 0 0) ∧ w = w' := by
  have HI := Lib.hid hI
  clear hI
  go_enter Try.func12, Try.ntmps12
  go_wp2_with (go_at_call 21; refine (HI.out).mono ?_; rintro e w1 ⟨rfl, rfl⟩)
  go_ret
  exact ⟨rfl, rfl⟩
theorem Copy_no (v : Value) (w : World) (hI : Calls Try.prog 21 #[v] w fun e w' => e = .returned (.bool false) ∧ w = w') :
    Calls Try.prog 8 #[v] w fun e w' => e = .returned (.pointer none) ∧ w = w' := by
  have HI := Lib.hid hI
  clear hI
  go_enter Try.func8, Try.ntmps8
  go_wp2_with (go_at_call 21; refine (HI.out).mono ?_; rintro e w1 ⟨rfl, rfl⟩)
  go_ret
  exact ⟨rfl, rfl⟩
theorem Add_no (v : Value) (d : List UInt8) (w : World) (hI : ∀ wx, Below w.heap.size w wx → Calls Try.prog 21 #[v] wx fun e w' => e = .returned (.bool false) ∧ wx = w') :
    Calls Try.prog 9 #[v, .agg (bvs d).toArray] w fun e w' => e = .returned (.tuple #[.slice none 0 0, .int .i64 2]) ∧ Below w.heap.size w w' := by
  have HI := Lib.hid hI
  clear hI
  go_enter Try.func9, Try.ntmps9
  go_wp2_with (first
    | ((with_reducible show wpList _ _ _ (⟨some 3, .box _ _, _, _, _, _⟩ :: _) _ _); refine wl_box rfl 29 _ rfl (bvs d) rfl ?_; intro w1 hA1 hb1 hs1)
    | (go_at_call 21; refine (HI.out _ hb1).mono ?_; rintro e w0 ⟨rfl, rfl⟩))
  go_ret2
  exact ⟨rfl, hb1⟩
section
variable {o : Oper} {a : Act} {Q : Exit → Act → World → Prop} {w : World} {ops : Array Oper} {rest : List Oper}
/-- a row of two hashes, written out -/
theorem wl_litD2 (hg : o.guard = none) (i j : Nat) (ho : o.op = .buildSlice 30 2 #[(0, .tmp i), (1, .tmp j)]) (x y : List UInt8) (hx : x.length = 32) (hy : y.length = 32)
    (h1 : a.eval (.tmp i) = .agg (bvs x).toArray) (h2 : a.eval (.tmp j) = .agg (bvs y).toArray)
    (hK : ∀ w', Arr w' w.heap.size 29 (dcs [x, y]) → Below w.heap.size w w' → wpList Try.prog ops Q rest (a.put o.dst (.slice (some ⟨w.heap.size, 0, none⟩) 2 2)) w') : wpList Try.prog ops Q (o :: rest) a w := by
  refine Great.wpList_buildRows hg 30 29 #[(0, .tmp i), (1, .tmp j)] 32 [.agg (bvs x).toArray, .agg (bvs y).toArray] ho (fun n => [i, j].getD n 0) _ rfl _ rfl Try.underlying30 sizeD (by kernel_rfl) (by decide) (by simp) (by simp) rfl ?_ ?_ ?_
  · intro v hv
    simp only [List.mem_cons, List.not_mem_nil, or_false] at hv
    rcases hv with rfl | rfl <;> simp [Value.cells, bvs_len, hx, hy]
  · intro n hn
    match n, hn with
    | 0, _ => exact h1
    | 1, _ => exact h2
  · refine hK _ ?_ ((Below.refl _ _).alloc (Nat.le_refl _) _)
    have e : ((([.agg (bvs x).toArray, .agg (bvs y).toArray] : List Value).flatMap fun v => v.cells.toList).toArray) = (dcs [x, y]).toArray := by simp [Value.cells, dcs]
    rw [e]
    exact Arr.new _ _ _
end
/-- a hash whose first byte is b, the others 0 -/
def Dg (b : UInt8) : List UInt8 := b :: List.replicate 31 0
theorem Dg_len (b : UInt8) : (Dg b).length = 32 := by simp [Dg]
theorem built_dg (b : UInt8) : Try.prog.built 29 [(0, bv b)] = some (bvs (Dg b)).toArray := by kernel_rfl
theorem built_dz : Try.prog.built 29 [] = some (bvs (Z8 32)).toArray := by kernel_rfl
theorem built_rz : Try.prog.built 49 [] = some #[.bool false, .int .u64 0, .slice none 0 0] := by kernel_rfl
/-- with nothing but ones, all is told -/
theorem toldQ_ones : ∀ (Q : List (List UInt8)) (d : List UInt8), (toldQ (2 ^ Q.length - 1) Q d).length = Q.length + 1 := by
  intro Q
  induction Q with
  | nil => intro d; simp [toldQ]
  | cons q Q ih =>
    intro d
    have h2 := Nat.two_pow_pos Q.length
    have e : 2 ^ (q :: Q).length - 1 = 2 * (2 ^ Q.length - 1) + 1 := by rw [List.length_cons, Nat.pow_succ]; omega
    rw [e, toldQ, if_pos (by omega), show (2 * (2 ^ Q.length - 1) + 1) / 2 = 2 ^ Q.length - 1 by omega, List.length_cons, ih, List.length_cons]
theorem popN_full : popN 1048576 = 1 := by
  rw [popN_pop8 20 1048576, show 1048576 / 2 ^ 20 = 1 from rfl, show 1048576 % 2 ^ 20 = 0 from rfl, popN_two 1, show 1 / 2 = 0 from rfl, popN_zero]
  decide +kernel
theorem popN_less : popN 1048575 = 20 := by
  rw [popN_pop8 20 1048575, show 1048575 / 2 ^ 20 = 0 from rfl, show 1048575 % 2 ^ 20 = 1048575 from rfl, popN_zero]
  decide +kernel
end Go.Proofs.Ytlfncgpjgbpdjaa

namespace Go.Proofs.Ytlfncgpjgbpdjaa
open Go.RowKit

set_option maxRecDepth 100000 in
set_option maxHeartbeats 12800000 in
theorem Known9_any (w : World) : Calls Try.prog 4 #[] w fun e w' => e = .returned (.bool true) ∧ Below w.heap.size w w' := by
  have lE : (rootF []).length = 32 := by rw [rootF_nil]; exact shaL_len []
  have lZ : (Z8 32).length = 32 := by simp [Z8]
  have BZ := Lib.hid built_dz
  have B5 : Hid (Try.prog.built 29 [(0, .int .u8 5)] = some (bvs (Dg 5)).toArray) := built_dg 5
  have B6 : Hid (Try.prog.built 29 [(0, .int .u8 6)] = some (bvs (Dg 6)).toArray) := built_dg 6
  have l5 := Dg_len 5
  have l6 := Dg_len 6
  have hR : Hid (∀ w, Calls Try.prog 18 #[.slice none 0 0] w (fun e w' => e = .returned (.agg (bvs (rootF [])).toArray) ∧ Below w.heap.size w w')) := fun w => Root_any 0 [] (by simp) none 0 0 w (by omega) (rdd_nil w)
  have hRN : Hid (∀ w, Calls Try.prog 17 #[.pointer none] w (fun e w' => e = .returned (.agg (bvs (rootF [])).toArray) ∧ Below w.heap.size w w')) := fun w => Root_z _ w fun wx hb => Size_no _ wx (isR_none wx)
  have hRI : Hid (∀ w z, (∀ wx, Below w.heap.size w wx → Calls Try.prog 21 #[.pointer (some ⟨z, 0, none⟩)] wx fun e w' => e = .returned (.bool false) ∧ wx = w') → Calls Try.prog 17 #[.pointer (some ⟨z, 0, none⟩)] w (fun e w' => e = .returned (.agg (bvs (rootF [])).toArray) ∧ Below w.heap.size w w')) := fun w z h => Root_z _ w fun wx hb => Size_no _ wx (h wx hb)
  have hRE : Hid (∀ (q : Nat → Prop) w p, IsR q w p 0 [] → Calls Try.prog 17 #[.pointer (some ⟨p, 0, none⟩)] w (fun e w' => e = .returned (.agg (bvs (rootF [])).toArray) ∧ Below w.heap.size w w')) := fun q w p h => by
    have h1 := Root_all p 0 [] w h
    rwa [fold_nil] at h1
  have hAN : Hid (∀ w, Calls Try.prog 9 #[.pointer none, .agg (bvs (Z8 32)).toArray] w fun e w' => e = .returned (.tuple #[.slice none 0 0, .int .i64 2]) ∧ Below w.heap.size w w') := fun w => Add_no _ _ w fun wx _ => isR_none wx
  have hAI : Hid (∀ w z, (∀ wx, Below w.heap.size w wx → Calls Try.prog 21 #[.pointer (some ⟨z, 0, none⟩)] wx fun e w' => e = .returned (.bool false) ∧ wx = w') → Calls Try.prog 9 #[.pointer (some ⟨z, 0, none⟩), .agg (bvs (Z8 32)).toArray] w fun e w' => e = .returned (.tuple #[.slice none 0 0, .int .i64 2]) ∧ Below w.heap.size w w') := fun w z h => Add_no _ _ w h
  have HF5 : Hid (∀ W g, Arr W g 29 (bvs (Dg 5)) → Calls Try.prog 14 #[.slice (some ⟨g, 0, none⟩) 1 1, .int .u64 1048576] W fun e w' => ∃ p, e = .returned (.tuple #[.pointer (some ⟨p, 0, none⟩), .int .i64 0]) ∧ IsR (fun b => W.heap.size ≤ b) w' p 1048576 [Dg 5] ∧ W.heap.size ≤ p ∧ Below W.heap.size W w') := fun W g h => by
    have h1 := From_any [Dg 5] (some ⟨g, 0, none⟩) 1 1048576 W (rdd_arr' (n := 1) (by simpa [dcs] using h) (All32.of (by simp [l5])) rfl) (by omega) (by rw [popN_full]; rfl)
    exact h1
  have HF6 : Hid (∀ W g, Calls Try.prog 14 #[.slice (some ⟨g, 0, none⟩) 2 2, .int .u64 1048577] W fun e w' => e = .returned (.tuple #[.pointer none, .int .i64 1]) ∧ W = w') := fun W g => by
    have h1 := From_no 2 (some ⟨g, 0, none⟩) 2 1048577 W (.inl (by omega))
    exact h1
  have HF63 : Hid (∀ W, Calls Try.prog 14 #[.slice none 0 0, .int .u64 9223372036854775808] W fun e w' => e = .returned (.tuple #[.pointer none, .int .i64 1]) ∧ W = w') := fun W => by
    have h1 := From_no 0 none 0 9223372036854775808 W (.inl (by omega))
    exact h1
  have HF0 : Hid (∀ W, Calls Try.prog 14 #[.slice none 0 0, .int .u64 0] W fun e w' => ∃ p, e = .returned (.tuple #[.pointer (some ⟨p, 0, none⟩), .int .i64 0]) ∧ IsR (fun b => W.heap.size ≤ b) w' p 0 [] ∧ W.heap.size ≤ p ∧ Below W.heap.size W w') := fun W => by
    have h1 := From_any [] none 0 0 W (rdd_nil W) (by omega) (by rw [popN_zero]; rfl)
    exact h1
  have lZL : (List.replicate 20 (Z8 32)).length = 20 := by simp
  have aZL : All32 (List.replicate 20 (Z8 32)) := All32.of fun x hx => by rw [(List.mem_replicate.1 hx).2]; exact lZ
  have HFL : Hid (∀ W g, Arr W g 29 (dcs (List.replicate 20 (Z8 32))) → Calls Try.prog 14 #[.slice (some ⟨g, 0, none⟩) 20 20, .int .u64 1048575] W fun e w' => ∃ p, e = .returned (.tuple #[.pointer (some ⟨p, 0, none⟩), .int .i64 0]) ∧ IsR (fun b => W.heap.size ≤ b) w' p 1048575 (List.replicate 20 (Z8 32)) ∧ W.heap.size ≤ p ∧ Below W.heap.size W w') := fun W g h => by
    have h1 := From_any (List.replicate 20 (Z8 32)) (some ⟨g, 0, none⟩) 20 1048575 W (by rw [lZL]; exact rdd_arr' (n := 20) h aZL lZL) (by omega) (by rw [popN_less]; exact lZL)
    rw [lZL] at h1
    exact h1
  have eZL : (toldP 1048575 (List.replicate 20 (Z8 32)) (Z8 32)).length = 21 := by
    have := toldQ_ones (List.replicate 20 (Z8 32)).reverse (Z8 32)
    rw [List.length_reverse, lZL] at this
    exact this
  have eAL : (addP 1048575 (List.replicate 20 (Z8 32)) (Z8 32)).length = 1 := by
    have := addP_len (d := Z8 32) (show (List.replicate 20 (Z8 32)).length = popN 1048575 by rw [popN_less]; exact lZL)
    rw [this]
    exact popN_full
  have HAL : Hid (∀ (q : Nat → Prop) wx p, IsR q wx p 1048575 (List.replicate 20 (Z8 32)) → Calls Try.prog 9 #[.pointer (some ⟨p, 0, none⟩), .agg (bvs (Z8 32)).toArray] wx fun e w' => ∃ g gc, e = .returned (.tuple #[.slice (some ⟨g, 0, none⟩) 21 gc, .int .i64 0]) ∧ IsR (fun b => wx.heap.size ≤ b ∧ b ≠ g) w' p 1048576 (addP 1048575 (List.replicate 20 (Z8 32)) (Z8 32)) ∧ KB (fun k => k = p) wx w') := fun q wx p h => by
    have h1 := Add_r p 1048575 (List.replicate 20 (Z8 32)) (Z8 32) wx h (by omega) lZ
    rw [eZL] at h1
    refine h1.mono ?_
    rintro e w' ⟨g, gc, h2, -, h3, -, h4⟩
    exact ⟨g, gc, h2, h3, h4⟩
  have HAF : Hid (∀ (q : Nat → Prop) wx p, IsR q wx p 1048576 [Dg 5] → Calls Try.prog 9 #[.pointer (some ⟨p, 0, none⟩), .agg (bvs (Z8 32)).toArray] wx fun e w' => e = .returned (.tuple #[.slice none 0 0, .int .i64 7]) ∧ Below wx.heap.size wx w') := fun q wx p h => Add_full p 1048576 [Dg 5] (Z8 32) wx h rfl
  have HRF : Hid (∀ (q : Nat → Prop) wx p, IsR q wx p 1048576 [Dg 5] → Calls Try.prog 17 #[.pointer (some ⟨p, 0, none⟩)] wx fun e w' => e = .returned (.agg (bvs (Dg 5)).toArray) ∧ Below wx.heap.size wx w') := fun q wx p h => Root_all p 1048576 [Dg 5] wx h
  have hq7 : ∀ w, (Op.equalIn 10000 29 (.agg (bvs (Dg 5)).toArray) (.agg #[.int .u8 5, .int .u8 0, .int .u8 0, .int .u8 0, .int .u8 0, .int .u8 0, .int .u8 0, .int .u8 0, .int .u8 0, .int .u8 0, .int .u8 0, .int .u8 0, .int .u8 0, .int .u8 0, .int .u8 0, .int .u8 0, .int .u8 0, .int .u8 0, .int .u8 0, .int .u8 0, .int .u8 0, .int .u8 0, .int .u8 0, .int .u8 0, .int .u8 0, .int .u8 0, .int .u8 0, .int .u8 0, .int .u8 0, .int .u8 0, .int .u8 0, .int .u8 0])).run Try.prog w = .ok true w := fun w => eqSame l5 w
  generalize addP 1048575 (List.replicate 20 (Z8 32)) (Z8 32) = PL at *
  generalize Dg 5 = D5 at *
  generalize Dg 6 = D6 at *
  clear lZL aZL eZL
  have HPL := Lib.hid eAL
  have HSL : Hid (∀ (q : Nat → Prop) wx p, IsR q wx p 1048576 PL → Calls Try.prog 13 #[.pointer (some ⟨p, 0, none⟩)] wx fun e w' => e = .returned (.int .u64 1048576) ∧ wx = w') := fun q wx p h => Size_any p 1048576 PL wx h
  have HPK : Hid (∀ (q : Nat → Prop) wx p, IsR q wx p 1048576 PL → Calls Try.prog 12 #[.pointer (some ⟨p, 0, none⟩)] wx fun e w' => e = .returned (.slice (some ⟨wx.heap.size, 0, none⟩) 1 1) ∧ Below wx.heap.size wx w') := fun q wx p h => by
    have h1 := Peaks_any p 1048576 PL wx h
    rw [eAL] at h1
    exact h1.mono fun e w' h2 => ⟨h2.1, h2.2.2⟩
  have HS0 : Hid (∀ (q : Nat → Prop) wx p, IsR q wx p 0 [] → Calls Try.prog 13 #[.pointer (some ⟨p, 0, none⟩)] wx fun e w' => e = .returned (.int .u64 0) ∧ wx = w') := fun q wx p h => Size_any p 0 [] wx h
  have hq1 := eqD lE lE
  have hq2 := fun w => eqSame lE w
  have hq3 := neD lE lE
  have hq4 := eqD l5 l5
  have hq5 := fun w => eqSame l5 w
  have hq6 := neD l5 l5
  have LD5 := Lib.hid l5
  have LD6 := Lib.hid l6
  clear lE lZ l5 l6 eAL
  generalize rootF [] = E at *
  go_enter Try.func4, Try.ntmps4
  go_upto_region 3 with (first
    | ((with_reducible show wpList _ _ _ (⟨some 21, .build _ _, _, _, _, _⟩ :: _) _ _); refine wpList_buildTo rfl 49 _ rfl (some 21) rfl #[.bool false, .int .u64 0, .slice none 0 0] (by simpa [Act.eval] using built_rz) ?_)
    | ((with_reducible show wpList _ _ _ (⟨some 22, .box _ _, _, _, _, _⟩ :: _) _ _); refine wl_box rfl 49 _ rfl [.bool false, .int .u64 0, .slice none 0 0] rfl ?_; intro w2 hA2 hb2 hs2))
  obtain ⟨z, hz⟩ : ∃ z, z = w.heap.size := ⟨_, rfl⟩
  rw [← hz] at hA2
  go_simp
  rw [← hz]
  have HIZ : Hid (∀ wx, Below w2.heap.size w2 wx → Calls Try.prog 21 #[.pointer (some ⟨z, 0, none⟩)] wx fun e w' => e = .returned (.bool false) ∧ wx = w') := fun wx hb => isR_any _ _ z false wx (hA2.kept hb)
  clear hA2 hz
  go_upto_region 5 with (first
    | ((with_reducible show wpList _ _ _ (⟨some 25, .build _ _, _, _, _, _⟩ :: _) _ _); refine wpList_buildTo rfl 29 _ rfl (some 25) rfl (bvs (Z8 32)).toArray (by simpa [Act.eval] using BZ.out) ?_)
    | ((with_reducible show wpList _ _ _ (⟨some 31, .build _ _, _, _, _, _⟩ :: _) _ _); refine wpList_buildTo rfl 29 _ rfl (some 31) rfl (bvs (Z8 32)).toArray (by simpa [Act.eval] using BZ.out) ?_)
    | (go_at_call 9; with_reducible refine (hAN.out _).mono ?_; rintro e w3 ⟨rfl, hb3⟩)
    | (go_at_call 9; with_reducible refine (hAI.out _ _ (fun wx hb => HIZ.out wx (hb3.trans (hb.mono hb3.size)))).mono ?_; rintro e w4 ⟨rfl, hb4⟩))
  have E4 : Below w2.heap.size w2 w4 := hb3.trans (hb4.mono hb3.size)
  clear hb3 hb4
  have z42 := E4.size
  have F4 : Below w4.heap.size w4 w4 := Below.refl _ _
  have HIX : Hid (∀ W, Below w4.heap.size w4 W → ∀ wx, Below W.heap.size W wx → Calls Try.prog 21 #[.pointer (some ⟨z, 0, none⟩)] wx fun e w' => e = .returned (.bool false) ∧ wx = w') := fun W h wx hb => HIZ.out wx (E4.trans ((h.trans (hb.mono h.size)).mono z42))
  have RN4 : Hid (∀ W, Below w4.heap.size w4 W → Calls Try.prog 17 #[.pointer none] W fun e w' => e = .returned (.agg (bvs E).toArray) ∧ Below w4.heap.size w4 w') := fun W h => (hRN.out W).mono fun e w' h2 => ⟨h2.1, h.trans (h2.2.mono h.size)⟩
  have RI4 : Hid (∀ W, Below w4.heap.size w4 W → Calls Try.prog 17 #[.pointer (some ⟨z, 0, none⟩)] W fun e w' => e = .returned (.agg (bvs E).toArray) ∧ Below w4.heap.size w4 w') := fun W h => (hRI.out W z (HIX.out W h)).mono fun e w' h2 => ⟨h2.1, h.trans (h2.2.mono h.size)⟩
  have MR4 : Hid (∀ W, Below w4.heap.size w4 W → Calls Try.prog 18 #[.slice none 0 0] W fun e w' => e = .returned (.agg (bvs E).toArray) ∧ Below w4.heap.size w4 w') := fun W h => (hR.out W).mono fun e w' h2 => ⟨h2.1, h.trans (h2.2.mono h.size)⟩
  have SI4 : Hid (∀ W, Below w4.heap.size w4 W → Calls Try.prog 13 #[.pointer (some ⟨z, 0, none⟩)] W fun e w' => e = .returned (.int .u64 0) ∧ W = w') := fun W h => Size_no _ _ (HIX.out W h W (Below.refl _ _))
  have CI4 : Hid (∀ W, Below w4.heap.size w4 W → Calls Try.prog 8 #[.pointer (some ⟨z, 0, none⟩)] W fun e w' => e = .returned (.pointer none) ∧ W = w') := fun W h => Copy_no _ _ (HIX.out W h W (Below.refl _ _))
  go_upto_region 7 with (first
    | (go_at_call 13; with_reducible refine (Size_no _ _ (isR_none _)).mono ?_; rintro e w0 ⟨rfl, rfl⟩)
    | (go_at_call 13; with_reducible refine (SI4.out _ (by assumption)).mono ?_; rintro e w0 ⟨rfl, rfl⟩)
    | (go_at_call 12; with_reducible refine (Peaks_no _ _ (isR_none _)).mono ?_; rintro e w0 ⟨rfl, rfl⟩)
    | (go_at_call 17; with_reducible refine (RN4.out _ (by assumption)).mono ?_; rintro e wr ⟨rfl, hbr⟩)
    | (go_at_call 17; with_reducible refine (RI4.out _ (by assumption)).mono ?_; rintro e wr ⟨rfl, hbr⟩)
    | (go_at_call 18; with_reducible refine (MR4.out _ (by assumption)).mono ?_; rintro e wr ⟨rfl, hbr⟩)
    | (go_at_call 8; with_reducible refine (Copy_no _ _ (isR_none _)).mono ?_; rintro e w0 ⟨rfl, rfl⟩)
    | (go_at_call 8; with_reducible refine (CI4.out _ (by assumption)).mono ?_; rintro e w0 ⟨rfl, rfl⟩))
  obtain ⟨w7, hw7⟩ : ∃ W, W = wr := ⟨_, rfl⟩
  have F7 := hbr
  rw [← hw7] at F7 ⊢
  clear RN4 RI4 MR4 SI4 CI4 HIX F4 hw7
  go_upto_region 8 with (first
    | ((with_reducible show wpList _ _ _ (⟨some 80, .build _ _, _, _, _, _⟩ :: _) _ _); refine wpList_buildTo rfl 29 _ rfl (some 80) rfl (bvs D5).toArray (by simpa [Act.eval] using B5.out) ?_)
    | ((with_reducible show wpList _ _ _ (⟨some 81, .buildSlice _ _ _, _, _, _, _⟩ :: _) _ _); refine wl_litD rfl 80 rfl D5 LD5.out rfl ?_; intro w9 hA9 hb9)
    | (go_at_call 14; with_reducible refine (HF5.out _ _ hA9).mono ?_; rintro e w10 ⟨pf, rfl, hF10, hpf, hb10⟩))
  have E10 : Below w4.heap.size w4 w10 := F7.trans ((hb9.trans (hb10.mono hb9.size)).mono F7.size)
  clear F7 hA9 hb9 hb10 hpf HF5
  go_simp
  go_upto_region 9 with (first
    | ((with_reducible show wpList _ _ _ (⟨some 86, .build _ _, _, _, _, _⟩ :: _) _ _); refine wpList_buildTo rfl 29 _ rfl (some 86) rfl (bvs D5).toArray (by simpa [Act.eval] using B5.out) ?_)
    | ((with_reducible show wpList _ _ _ (⟨some 87, .build _ _, _, _, _, _⟩ :: _) _ _); refine wpList_buildTo rfl 29 _ rfl (some 87) rfl (bvs D6).toArray (by simpa [Act.eval] using B6.out) ?_)
    | ((with_reducible show wpList _ _ _ (⟨some 88, .buildSlice _ _ _, _, _, _, _⟩ :: _) _ _); refine wl_litD2 rfl 86 87 rfl D5 D6 LD5.out LD6.out rfl rfl ?_; intro w11 hA11 hb11)
    | (go_at_call 14; with_reducible refine (HF6.out _ _).mono ?_; rintro e w0 ⟨rfl, hw0⟩; obtain rfl := hw0))
  have E11 : Below w4.heap.size w4 w11 := E10.trans (hb11.mono E10.size)
  have hF11 := hF10.to hb11
  clear E10 hA11 hb11 hF10 HF6
  go_simp
  go_upto_region 10 with (go_at_call 14; with_reducible refine (HF63.out _).mono ?_; rintro e w0 ⟨rfl, hw0⟩; obtain rfl := hw0)
  go_simp
  go_upto_region 13 with (first
    | ((with_reducible show wpList _ _ _ (⟨some 108, .build _ _, _, _, _, _⟩ :: _) _ _); refine wpList_buildTo rfl 29 _ rfl (some 108) rfl (bvs (Z8 32)).toArray (by simpa [Act.eval] using BZ.out) ?_)
    | (go_at_call 9; with_reducible refine (HAF.out _ _ _ hF11).mono ?_; rintro e w12 ⟨rfl, hb12⟩))
  have E12 : Below w4.heap.size w4 w12 := E11.trans (hb12.mono E11.size)
  have hF12 := hF11.to hb12
  clear E11 hb12 hF11 HAF
  go_simp
  go_upto_region 14 with (first
    | ((with_reducible show wpList _ _ _ (⟨some 113, .makeSlice _ _ _, _, _, _, _⟩ :: _) _ _); refine wl_makeD rfl _ _ rfl 20 20 rfl rfl (Nat.le_refl _) (by omega) ?_; intro w13 hA13 hb13 hs13)
    | (go_at_call 14; with_reducible refine (HFL.out _ _ hA13).mono ?_; rintro e w14 ⟨pl, rfl, hL14, hpl, hb14⟩))
  have z13 := Nat.le_trans E12.size hb13.size
  have hb1314 := hb13.trans (hb14.mono hb13.size)
  have E14 : Below w4.heap.size w4 w14 := E12.trans (hb1314.mono E12.size)
  have hF14 := hF12.to hb1314
  clear E12 hb13 hb14 hb1314 hF12 HFL hA13 hs13
  go_simp
  go_upto_region 16 with (first
    | ((with_reducible show wpList _ _ _ (⟨some 126, .build _ _, _, _, _, _⟩ :: _) _ _); refine wpList_buildTo rfl 29 _ rfl (some 126) rfl (bvs D5).toArray (by simpa [Act.eval] using B5.out) ?_)
    | (go_at_call 17; with_reducible refine (HRF.out _ _ _ hF14).mono ?_; rintro e w15 ⟨rfl, hb15⟩))
  have E15 : Below w4.heap.size w4 w15 := E14.trans (hb15.mono E14.size)
  have hL15 := hL14.to hb15
  have hpl15 := hb15.size
  clear hF14 HRF
  go_simp
  go_upto_region 17 with (first
    | ((with_reducible show wpList _ _ _ (⟨some 131, .build _ _, _, _, _, _⟩ :: _) _ _); refine wpList_buildTo rfl 29 _ rfl (some 131) rfl (bvs (Z8 32)).toArray (by simpa [Act.eval] using BZ.out) ?_)
    | (go_at_call 9; with_reducible refine (HAL.out _ _ _ hL15).mono ?_; rintro e w16 ⟨gt, gc, rfl, hL16, kb16⟩))
  have E16 : Below w4.heap.size w4 w16 := E15.trans (kb16.under (fun k e => by omega) E15.size)
  clear E14 E15 kb16 hL15 hL14 hpl hpl15 hb15 HAL
  go_simp
  go_upto_region 18 with (go_at_call 14; with_reducible refine (HF0.out _).mono ?_; rintro e w17 ⟨ph, rfl, hH17, hph, hb17⟩)
  have E17 : Below w4.heap.size w4 w17 := E16.trans (hb17.mono E16.size)
  have hL17 := hL16.to hb17
  have F17 : Below w17.heap.size w17 w17 := Below.refl _ _
  have SL17 : Hid (∀ W, Below w17.heap.size w17 W → Calls Try.prog 13 #[.pointer (some ⟨pl, 0, none⟩)] W fun e w' => e = .returned (.int .u64 1048576) ∧ W = w') := fun W h => HSL.out _ W pl (hL17.to h)
  have PL17 : Hid (∀ W, Below w17.heap.size w17 W → Calls Try.prog 12 #[.pointer (some ⟨pl, 0, none⟩)] W fun e w' => (∃ g, e = .returned (.slice (some ⟨g, 0, none⟩) 1 1)) ∧ Below w17.heap.size w17 w') := fun W h => (HPK.out _ W pl (hL17.to h)).mono fun e w' h2 => ⟨⟨_, h2.1⟩, h.trans (h2.2.mono h.size)⟩
  have RH17 : Hid (∀ W, Below w17.heap.size w17 W → Calls Try.prog 17 #[.pointer (some ⟨ph, 0, none⟩)] W fun e w' => e = .returned (.agg (bvs E).toArray) ∧ Below w17.heap.size w17 w') := fun W h => (hRE.out _ W ph (hH17.to h)).mono fun e w' h2 => ⟨h2.1, h.trans (h2.2.mono h.size)⟩
  have MR17 : Hid (∀ W, Below w17.heap.size w17 W → Calls Try.prog 18 #[.slice none 0 0] W fun e w' => e = .returned (.agg (bvs E).toArray) ∧ Below w17.heap.size w17 w') := fun W h => (hR.out W).mono fun e w' h2 => ⟨h2.1, h.trans (h2.2.mono h.size)⟩
  have NW17 : Hid (∀ W, Below w17.heap.size w17 W → Calls Try.prog 5 #[] W fun e w' => ∃ p, e = .returned (.pointer (some ⟨p, 0, none⟩)) ∧ IsR (fun _ => False) w' p 0 [] ∧ Below w17.heap.size w17 w') := fun W h => (New_r W).mono fun e w' ⟨p, h1, h2, _, h3⟩ => ⟨p, h1, h2, h.trans (h3.mono h.size)⟩
  have WK17 : Hid (∀ W, Below w17.heap.size w17 W → Calls Try.prog 7 #[] W fun e w' => e = .returned (.bool true) ∧ Below w17.heap.size w17 w') := fun W h => (wakes9_any W).mono fun e w' h2 => ⟨h2.1, h.trans (h2.2.mono h.size)⟩
  have EE : Hid (∀ W, Below w17.heap.size w17 W → Below w.heap.size w W) := fun W h => (hb2.trans (E4.mono hb2.size)).trans ((E17.trans (h.mono E17.size)).mono (Nat.le_trans hb2.size z42))
  clear E16 E17 hb17 hL16 hL17 hH17 HSL HPK hRE hR
  go_simp
  go_wp2_with (first
    | (go_at_call 13; with_reducible refine (SL17.out _ (by assumption)).mono ?_; rintro e w0 ⟨rfl, rfl⟩)
    | (go_at_call 12; with_reducible refine (PL17.out _ (by assumption)).mono ?_; rintro e wr ⟨⟨gk, rfl⟩, hbr⟩)
    | (go_at_call 17; with_reducible refine (RH17.out _ (by assumption)).mono ?_; rintro e wr ⟨rfl, hbr⟩)
    | (go_at_call 18; with_reducible refine (MR17.out _ (by assumption)).mono ?_; rintro e wr ⟨rfl, hbr⟩)
    | (go_at_call 5; with_reducible refine (NW17.out _ (by assumption)).mono ?_; rintro e wr ⟨pn, rfl, hN, hbr⟩)
    | (go_at_call 13; with_reducible refine (HS0.out _ _ _ hN).mono ?_; rintro e w0 ⟨rfl, rfl⟩)
    | (go_at_call 7; with_reducible refine (WK17.out _ (by assumption)).mono ?_; rintro e wr ⟨rfl, hbr⟩))
  go_ret
  exact ⟨by simp, EE.out _ (by assumption)⟩
end Go.Proofs.Ytlfncgpjgbpdjaa

namespace Go.Proofs.Ytlfncgpjgbpdjaa
open Go.ChangeShapes Go.WideShapes Go.ChangeAt Go.RowKit

theorem rangesKnown_lifted (os : Os) (started : os.Started) (H : Type) (enc : TypeId × Value → H) :
    ReturnsInHanded {} Try.checked os 4 .any (Rows.rangesKnownSpec.pre6 enc Try.prog Try.f4 Rows.rangesKnownRow.domain false) (Rows.rangesKnownSpec.post enc Try.prog Try.f4 false true false false) := by
  refine returnsInHanded_of_change_sized (C := Try.checked) ownKnobs started (by kernel_rfl) Try.func4
    (ChangeSpec.witness6 (enc := enc) (C := Try.checked) false ⟨#[], #[], []⟩ 8 (by kernel_rfl) (by kernel_rfl) (by kernel_rfl) (by kernel_rfl)) ?_
  intro W base args ds gs before _ hW _ _ _
  have hW' := hW
  obtain ⟨p, q, hA0, hV, rfl, _, _⟩ := hW
  have hA : DataW.TrodAll enc Try.prog W 0 (fun _ => true) true Try.f4.params.toList args.toList ds p := hA0
  rw [Try.params4] at hA
  obtain ⟨hargs, rfl, rfl⟩ := trodAll_nil hA
  obtain rfl : args = #[] := by cases args; simp_all
  obtain ⟨rfl, rfl⟩ := trodVars_none hV
  refine (Known9_any W).mono fun e W' ⟨he, hw⟩ => ?_
  subst he
  exact ⟨_, rfl, law_post laidOuts (by kernel_rfl) rfl Try.underlying4 rfl hW' hw rfl⟩

theorem rangesKnown_proved : Rows.RangesKnownSaid :=
  OpenClaim.holds_of_wide 4 Try.f4 rfl rfl rfl rfl rfl rfl rfl ⟨rfl, rfl, rfl, rfl, rfl⟩ rfl rfl rfl rfl rfl (by kernel_rfl) Try.func4 (by kernel_rfl)
    (of_decide_eq_true (by kernel_rfl)) (by unfold Func.isWrapper; first | (rw [if_pos (by decide +kernel)]; kernel_rfl) | (rw [if_neg (by decide +kernel)]; exact ⟨rfl, rfl⟩))
    (fun os started H enc _ => rangesKnown_lifted os started H enc)
end Go.Proofs.Ytlfncgpjgbpdjaa
