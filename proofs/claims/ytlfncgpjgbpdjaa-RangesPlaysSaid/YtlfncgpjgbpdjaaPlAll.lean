/-
  Joined texts: RnQ, RnM, RnN, RnL, RnR, RnP, RnT. Conditions: those in each statement.
-/
import Derived.Test.YtlfncgpjgbpdjaaRnI
import Derived.Test.YtlfncgpjgbpdjaaMkS
import Derived.Test.YtlfncgpjgbpdjaaMgA
import Derived.Test.YtlfncgpjgbpdjaaTpA
namespace Go.Proofs.Ytlfncgpjgbpdjaa
open Go.RowKit

theorem run_guardNe (x y : Operand) (A B : Array Value) (w : World) : (eqGuard .neq 29 x y (.agg A) (.agg B)).run Try.prog w = .ok () w := by
  unfold eqGuard
  simp
theorem run_guardEq (x y : Operand) (A B : Array Value) (w : World) : (eqGuard .eql 29 x y (.agg A) (.agg B)).run Try.prog w = .ok () w := by
  unfold eqGuard
  simp
section
variable {o : Oper} {a : Act} {K : Act → World → Prop} {Q : Exit → Act → World → Prop} {w : World}
theorem ow_neSame (x y : Operand) (r : TypeId) (ho : o.op = .binOp .neq 29 x y r) (xs : List UInt8) (hl : xs.length = 32) (hx : a.eval x = .agg (bvs xs).toArray) (hy : a.eval y = .agg (bvs xs).toArray)
    (hK : K (a.put o.dst (.bool false)) w) : o.wp Try.prog a w K Q := by
  have h := neD hl hl w
  rw [decide_eq_true rfl] at h
  unfold Oper.wp execOp
  simp only [ho, hx, hy, Sem.run_bind, Sem.run_pure, run_guardNe, h, Result.andThen_ok]
  exact hK
theorem ow_neDiff (x y : Operand) (r : TypeId) (ho : o.op = .binOp .neq 29 x y r) (xs ys : List UInt8) (hl : xs.length = 32) (hm : ys.length = 32) (hne : xs ≠ ys) (hx : a.eval x = .agg (bvs xs).toArray) (hy : a.eval y = .agg (bvs ys).toArray)
    (hK : K (a.put o.dst (.bool true)) w) : o.wp Try.prog a w K Q := by
  have h := neD hl hm w
  rw [decide_eq_false hne] at h
  unfold Oper.wp execOp
  simp only [ho, hx, hy, Sem.run_bind, Sem.run_pure, run_guardNe, h, Result.andThen_ok]
  exact hK
theorem ow_eqSame (x y : Operand) (r : TypeId) (ho : o.op = .binOp .eql 29 x y r) (xs : List UInt8) (hl : xs.length = 32) (hx : a.eval x = .agg (bvs xs).toArray) (hy : a.eval y = .agg (bvs xs).toArray)
    (hK : K (a.put o.dst (.bool true)) w) : o.wp Try.prog a w K Q := by
  have h := eqD hl hl w
  rw [decide_eq_true rfl] at h
  unfold Oper.wp execOp
  simp only [ho, hx, hy, Sem.run_bind, Sem.run_pure, run_guardEq, h, Result.andThen_ok]
  exact hK
end

set_option maxHeartbeats 1600000 in
theorem Root_z (v : Value) (w : World) (hS : ∀ wx, Below w.heap.size w wx → Calls Try.prog 13 #[v] wx fun e w' => e = .returned (.int .u64 0) ∧ wx = w') :
    Calls Try.prog 17 #[v] w fun e w' => e = .returned (.agg (bvs (rootF [])).toArray) ∧ Below w.heap.size w w' := by
  have hlen := shaL_len []
  have h32 : Hid ((Try.prog.info? 29).map (·.size) = some (bvs (rootF [])).length) := by show _ = _; rw [bvs_len, rootF_nil, hlen]; exact sizeD
  have L32 : Hid ((bvs (rootF [])).length = 32) := by show _ = _; rw [bvs_len, rootF_nil, hlen]
  have hR : Hid (∀ w, Calls Try.prog 18 #[.slice none 0 0] w (fun e w' => e = .returned (.agg (bvs (rootF [])).toArray) ∧ Below w.heap.size w w')) := fun w => Root_any 0 [] (by simp) none 0 0 w (by omega) (rdd_nil w)
  have HS := Lib.hid hS
  clear hlen hS
  generalize rootF [] = S at *
  go_enter Try.func17, Try.ntmps17
  go_wp2_with (first
    | ((with_reducible show wpList _ _ _ (⟨some 2, .alloc _, _, _, _, _⟩ :: _) _ _); refine wl_alloc rfl 29 rfl (bvs (Z8 32)) 32 infoD ?_; intro w1 hA1 hb1 hs1)
    | (go_at_call 13; refine (HS.out _ hb1).mono ?_; rintro e w0 ⟨rfl, rfl⟩)
    | (go_at_call 18; refine (hR.out _).mono ?_; rintro e w5 ⟨rfl, hb5⟩)
    | ((with_reducible show wpList _ _ _ (⟨none, .store _ _ _, _, _, _, _⟩ :: _) _ _); refine wl_store rfl 29 _ _ rfl w.heap.size 0 rfl (bvs S) rfl 29 _ (hA1.kept hb5) h32.out (by rw [L32.out]; exact (by decide : 0 + 32 ≤ (bvs (Z8 32)).length)) (bvs_one _) ?_; intro w15 hR15 hg15 hs15))
  rw [whole_store _ _ (by rw [L32.out]; rfl)] at hR15
  refine end_cell rfl w.heap.size 29 (bvs S) (.array 32 5) rfl hR15 Try.underlying29 rfl h32.out rfl ⟨rfl, ?_⟩
  have hb' := hb1.trans (hb5.mono (by omega))
  exact hb'.grown hg15 hb'.size (by intro k e; injection e with e; omega)
theorem popN_pos {n : Nat} (h : 0 < n) : 0 < popN n := by
  obtain ⟨r, e1, e2⟩ := lowP_low n 1 h
  unfold popN
  rw [e1]
  simp
theorem Root_all {q : Nat → Prop} (p n : Nat) (P : List (List UInt8)) (w : World) (h : IsR q w p n P) :
    Calls Try.prog 17 #[.pointer (some ⟨p, 0, none⟩)] w fun e w' => e = .returned (.agg (bvs (foldP P)).toArray) ∧ Below w.heap.size w w' := by
  rcases Nat.eq_zero_or_pos n with h0 | h0
  · subst h0
    have hP : P = [] := List.eq_nil_of_length_eq_zero (by rw [h.cnt, popN_zero])
    subst hP
    rw [fold_nil]
    exact Root_z _ w fun wx hb => Size_any (q := q) p 0 [] wx (h.to hb)
  · exact Root_r p n P w h h0
end Go.Proofs.Ytlfncgpjgbpdjaa

namespace Go.Proofs.Ytlfncgpjgbpdjaa
open Go.RowKit

structure InvWakes (HC NAB NR : List UInt8) (gx cx gy cy gz cz g3 g11 g12 r : Nat) (W0 : World) (L : Nat → Bool) (v : Nat → Value) (wx : World) : Prop where
  t0 : L 0 = true → (v 50) = .int .i64 0
  t1 : L 1 = true → (v 51) = .bool false
  t2 : L 2 = true → (v 52) = .bool false
  t3 : L 3 = true → (v 53) = .int .i64 0
  t4 : L 4 = true → (v 54) = .bool false
  t5 : L 5 = true → (v 55) = .bool false
  t6 : L 6 = true → (v 56) = .bool false
  t7 : L 7 = true → (v 57) = .int .i64 0
  t8 : L 8 = true → (v 58) = .bool false
  t9 : L 9 = true → (v 59) = .bool false
  t10 : L 10 = true → (v 60) = .bool false
  t11 : L 11 = true → (v 61) = .slice (some ⟨gx, 0, none⟩) 1 cx
  t12 : L 12 = true → (v 62) = .int .i64 (1 : Int)
  t13 : L 13 = true → (v 63) = .bool false
  t14 : L 14 = true → (v 64) = .bool false
  t15 : L 15 = true → (v 65) = .bool false
  t16 : L 16 = true → (v 66) = .slice (some ⟨gy, 0, none⟩) 2 cy
  t17 : L 17 = true → (v 67) = .int .i64 (2 : Int)
  t18 : L 18 = true → (v 68) = .bool false
  t19 : L 19 = true → (v 69) = .bool false
  t20 : L 20 = true → (v 70) = .bool false
  t21 : L 21 = true → (v 71) = .slice (some ⟨gy, 0, none⟩) 2 cy
  t22 : L 22 = true → (v 72) = .pointer (some ⟨gy, 32, none⟩)
  t23 : L 23 = true → (v 73) = .agg (bvs NAB).toArray
  t24 : L 24 = true → (v 74) = .agg (bvs NAB).toArray
  t25 : L 25 = true → (v 75) = .bool false
  t26 : L 26 = true → (v 76) = .bool false
  t27 : L 27 = true → (v 77) = .bool false
  t28 : L 28 = true → (v 78) = .slice (some ⟨gz, 0, none⟩) 1 cz
  t29 : L 29 = true → (v 79) = .int .i64 (1 : Int)
  t30 : L 30 = true → (v 80) = .bool false
  t31 : L 31 = true → (v 81) = .bool false
  t32 : L 32 = true → (v 82) = .bool false
  t33 : L 33 = true → (v 83) = .slice (some ⟨g12, 0, none⟩) 2 2
  t34 : L 34 = true → (v 84) = .int .i64 (2 : Int)
  t35 : L 35 = true → (v 85) = .bool false
  t36 : L 36 = true → (v 86) = .bool false
  t37 : L 37 = true → (v 87) = .bool false
  t38 : L 38 = true → (v 88) = .slice (some ⟨g12, 0, none⟩) 2 2
  t39 : L 39 = true → (v 89) = .pointer (some ⟨g12, 0, none⟩)
  t40 : L 40 = true → (v 90) = .agg (bvs NAB).toArray
  t41 : L 41 = true → (v 91) = .agg (bvs NAB).toArray
  t42 : L 42 = true → (v 92) = .bool false
  t43 : L 43 = true → (v 93) = .bool false
  t44 : L 44 = true → (v 94) = .bool false
  t45 : L 45 = true → (v 95) = .pointer (some ⟨r, 0, none⟩)
  t46 : L 46 = true → (v 96) = .agg (bvs NR).toArray
  t47 : L 47 = true → (v 97) = .agg (bvs NAB).toArray
  t48 : L 48 = true → (v 98) = .agg (bvs HC).toArray
  t49 : L 49 = true → (v 99) = .agg (bvs NR).toArray
  t50 : L 50 = true → (v 100) = .bool false
  t51 : L 51 = true → (v 101) = .bool false
  t52 : L 52 = true → (v 102) = .bool false
  t53 : L 53 = true → (v 103) = .pointer (some ⟨r, 0, none⟩)
  t54 : L 54 = true → (v 104) = .int .u64 (3 : Int)
  t55 : L 55 = true → (v 105) = .bool false
  t56 : L 56 = true → (v 106) = .bool false
  bw : Below W0.heap.size W0 wx
set_option maxRecDepth 100000 in
set_option maxHeartbeats 12800000 in
theorem wakes9_any (w : World) : Calls Try.prog 7 #[] w fun e w' => e = .returned (.bool true) ∧ Below w.heap.size w w' := by
  have lA : (leafH [97]).length = 32 := shaL_len _
  have lB : (leafH [98]).length = 32 := shaL_len _
  have lC : (leafH [99]).length = 32 := shaL_len _
  have hLF : ∀ x : UInt8, Hid (∀ w g, LitB w g [x] → Calls Try.prog 19 #[.slice (some ⟨g, 0, none⟩) 1 1] w fun e w' => e = .returned (.agg (bvs (leafH [x])).toArray) ∧ Below w.heap.size w w') := fun x w g h => Leaf_any [x] _ 1 1 w (by omega) h.rd
  have HLA := hLF 97
  have HLB := hLF 98
  have HLC := hLF 99
  clear hLF
  generalize leafH [97] = HA at *
  generalize leafH [98] = HB at *
  generalize leafH [99] = HC at *
  have lAB : (nodeH HA HB).length = 32 := shaL_len _
  have lR : (nodeH (nodeH HA HB) HC).length = 32 := shaL_len _
  have HAdd1 : Hid (∀ (q : Nat → Prop) wx p, IsR q wx p 0 [] → Calls Try.prog 9 #[.pointer (some ⟨p, 0, none⟩), .agg (bvs HA).toArray] wx fun e w' => ∃ g gc, e = .returned (.tuple #[.slice (some ⟨g, 0, none⟩) 1 gc, .int .i64 0]) ∧ OwnD w' wx.heap.size (.slice (some ⟨g, 0, none⟩) 1 gc) [HA] ∧ IsR (fun b => wx.heap.size ≤ b ∧ b ≠ g) w' p 1 [HA] ∧ wx.heap.size ≤ g ∧ KB (fun k => k = p) wx w') := fun q wx p h => by
    have := Add_r p 0 [] HA wx h (by omega) lA
    simpa [toldP, addP, toldQ, addQ] using this
  have HAdd2 : Hid (∀ (q : Nat → Prop) wx p, IsR q wx p 1 [HA] → Calls Try.prog 9 #[.pointer (some ⟨p, 0, none⟩), .agg (bvs HB).toArray] wx fun e w' => ∃ g gc, e = .returned (.tuple #[.slice (some ⟨g, 0, none⟩) 2 gc, .int .i64 0]) ∧ OwnD w' wx.heap.size (.slice (some ⟨g, 0, none⟩) 2 gc) [HB, nodeH HA HB] ∧ IsR (fun b => wx.heap.size ≤ b ∧ b ≠ g) w' p 2 [nodeH HA HB] ∧ wx.heap.size ≤ g ∧ KB (fun k => k = p) wx w') := fun q wx p h => by
    have := Add_r p 1 [HA] HB wx h (by omega) lB
    simpa [toldP, addP, toldQ, addQ] using this
  have HAdd3 : Hid (∀ (q : Nat → Prop) wx p, IsR q wx p 2 [nodeH HA HB] → Calls Try.prog 9 #[.pointer (some ⟨p, 0, none⟩), .agg (bvs HC).toArray] wx fun e w' => ∃ g gc, e = .returned (.tuple #[.slice (some ⟨g, 0, none⟩) 1 gc, .int .i64 0]) ∧ OwnD w' wx.heap.size (.slice (some ⟨g, 0, none⟩) 1 gc) [HC] ∧ IsR (fun b => wx.heap.size ≤ b ∧ b ≠ g) w' p 3 [nodeH HA HB, HC] ∧ wx.heap.size ≤ g ∧ KB (fun k => k = p) wx w') := fun q wx p h => by
    have := Add_r p 2 [nodeH HA HB] HC wx h (by omega) lC
    simpa [toldP, addP, toldQ, addQ] using this
  have HNAB : Hid (∀ w, Calls Try.prog 20 #[.agg (bvs HA).toArray, .agg (bvs HB).toArray] w _) := fun w => Node_any HA HB w lA lB
  have HNR : Hid (∀ w, Calls Try.prog 20 #[.agg (bvs (nodeH HA HB)).toArray, .agg (bvs HC).toArray] w _) := fun w => Node_any (nodeH HA HB) HC w lAB lC
  have hfold : foldP [nodeH HA HB, HC] = nodeH (nodeH HA HB) HC := rfl
  have p3 : popN 3 = 2 := by decide +kernel
  have p2 : popN 2 = 1 := by decide +kernel
  generalize nodeH (nodeH HA HB) HC = NR at *
  generalize nodeH HA HB = NAB at *
  have s32 : ∀ x : List UInt8, x.length = 32 → (Try.prog.info? 29).map (·.size) = some (bvs x).length := fun x h => by rw [bvs_len, h]; exact sizeD
  have f32 : ∀ x : List UInt8, x.length = 32 → 0 + (bvs x).length ≤ (bvs (Z8 32)).length := fun x h => by rw [bvs_len, h]; exact (by decide : 0 + 32 ≤ (bvs (Z8 32)).length)
  have t32 : ∀ x : List UInt8, x.length = 32 → (bvs (Z8 32)).length = (bvs x).length := fun x h => by rw [bvs_len x, h]; rfl
  have IA := Lib.hid (s32 HA lA)
  have IB := Lib.hid (s32 HB lB)
  have IC := Lib.hid (s32 HC lC)
  have IAB := Lib.hid (s32 NAB lAB)
  have FA := Lib.hid (f32 HA lA)
  have FB := Lib.hid (f32 HB lB)
  have FC := Lib.hid (f32 HC lC)
  have FAB := Lib.hid (f32 NAB lAB)
  have TA := Lib.hid (t32 HA lA)
  have TB := Lib.hid (t32 HB lB)
  have TC := Lib.hid (t32 HC lC)
  have TAB := Lib.hid (t32 NAB lAB)
  have LA := Lib.hid lA
  have LAB := Lib.hid lAB
  have LC := Lib.hid lC
  have LR := Lib.hid lR
  have HFO := Lib.hid hfold
  have P3 := Lib.hid p3
  have P2 := Lib.hid p2
  clear s32 f32 t32 lA lB lC lAB lR hfold p3 p2
  go_enter Try.func7, Try.ntmps7
  go_upto_region 2 with (first
    | ((with_reducible show wpList _ _ _ (⟨some 18, .convert _ _ _, _, _, _, _⟩ :: _) _ _); refine wl_conv rfl (.tmp 17) rfl w.heap.size 1 1 [97] rfl (LitB.new w [97]) ?_; intro wa1 ha1 ga1 sa1)
    | (go_at_call 19; with_reducible refine (HLA.out _ _ ha1).mono ?_; rintro e wa2 ⟨rfl, hba⟩)
    | ((with_reducible show wpList _ _ _ (⟨some 21, .convert _ _ _, _, _, _, _⟩ :: _) _ _); refine wl_conv rfl (.tmp 20) rfl wa2.heap.size 1 1 [98] rfl (LitB.new wa2 [98]) ?_; intro wb1 hb1 gb1 sb1)
    | (go_at_call 19; with_reducible refine (HLB.out _ _ hb1).mono ?_; rintro e wb2 ⟨rfl, hbb⟩)
    | ((with_reducible show wpList _ _ _ (⟨some 24, .convert _ _ _, _, _, _, _⟩ :: _) _ _); refine wl_conv rfl (.tmp 23) rfl wb2.heap.size 1 1 [99] rfl (LitB.new wb2 [99]) ?_; intro wc1 hc1 gc1 sc1)
    | (go_at_call 19; with_reducible refine (HLC.out _ _ hc1).mono ?_; rintro e wc2 ⟨rfl, hbc⟩)
    | ((with_reducible show wpList _ _ _ (⟨some 1, .alloc _, _, _, _, _⟩ :: _) _ _); refine wl_alloc rfl 29 rfl (bvs (Z8 32)) 32 infoD ?_; intro w1 hA1 hb1' hs1)
    | ((with_reducible show wpList _ _ _ (⟨some 2, .alloc _, _, _, _, _⟩ :: _) _ _); refine wl_alloc rfl 29 rfl (bvs (Z8 32)) 32 infoD ?_; intro w2 hA2 hb2' hs2)
    | ((with_reducible show wpList _ _ _ (⟨some 3, .alloc _, _, _, _, _⟩ :: _) _ _); refine wl_alloc rfl 29 rfl (bvs (Z8 32)) 32 infoD ?_; intro w3 hA3 hb3' hs3)
    | ((with_reducible show wpList _ _ _ (⟨none, .store _ (.tmp 1) _, _, _, _, _⟩ :: _) _ _); refine wl_store rfl 29 _ _ rfl wc2.heap.size 0 rfl (bvs HA) rfl 29 _ ((hA1.kept hb2').kept hb3') IA.out FA.out (bvs_one _) ?_; intro w4 hA4 hg4 hs4)
    | ((with_reducible show wpList _ _ _ (⟨none, .store _ (.tmp 2) _, _, _, _, _⟩ :: _) _ _); refine wl_store rfl 29 _ _ rfl w1.heap.size 0 rfl (bvs HB) rfl 29 _ ((hA2.kept hb3').grown hg4 (by intro e; injection e with e; omega)) IB.out FB.out (bvs_one _) ?_; intro w5 hA5 hg5 hs5)
    | ((with_reducible show wpList _ _ _ (⟨none, .store _ (.tmp 3) _, _, _, _, _⟩ :: _) _ _); refine wl_store rfl 29 _ _ rfl w2.heap.size 0 rfl (bvs HC) rfl 29 _ ((hA3.grown hg4 (by intro e; injection e with e; omega)).grown hg5 (by intro e; injection e with e; omega)) IC.out FC.out (bvs_one _) ?_; intro w6 hA6 hg6 hs6))
  rw [whole_store _ _ TA.out] at hA4
  rw [whole_store _ _ TB.out] at hA5
  rw [whole_store _ _ TC.out] at hA6
  have z1 := ga1.size
  have z2 := hba.size
  have z3 := gb1.size
  have z4 := hbb.size
  have z5 := gc1.size
  have z6 := hbc.size
  simp only [World.size_alloc] at z1 z3 z5 sa1 sb1 sc1
  have E1 : Below w.heap.size w wa2 := ((hal w _).grown ga1 (by rw [World.size_alloc]; omega) (by intro k e; injection e with e; omega)).trans (hba.mono (by omega))
  have E2 : Below wa2.heap.size wa2 wb2 := ((hal wa2 _).grown gb1 (by rw [World.size_alloc]; omega) (by intro k e; injection e with e; omega)).trans (hbb.mono (by omega))
  have E3 : Below wb2.heap.size wb2 wc2 := ((hal wb2 _).grown gc1 (by rw [World.size_alloc]; omega) (by intro k e; injection e with e; omega)).trans (hbc.mono (by omega))
  have E : Below w.heap.size w w6 := (((((E1.trans (E2.mono (by omega))).trans (E3.mono (by omega))).trans (hb1'.mono (by omega))).trans (hb2'.mono (by omega))).trans (hb3'.mono (by omega))).grown hg4 (by omega) (by intro k e; injection e with e; omega) |>.grown hg5 (by omega) (by intro k e; injection e with e; omega) |>.grown hg6 (by omega) (by intro k e; injection e with e; omega)
  have hA64 := (hA4.grown hg5 (by intro e; injection e with e; omega)).grown hg6 (by intro e; injection e with e; omega)
  have hA65 := hA5.grown hg6 (by intro e; injection e with e; omega)
  obtain ⟨g1, hg1⟩ : ∃ g, g = wc2.heap.size := ⟨_, rfl⟩
  obtain ⟨g2, hg2⟩ : ∃ g, g = w1.heap.size := ⟨_, rfl⟩
  obtain ⟨g3, hg3⟩ : ∃ g, g = w2.heap.size := ⟨_, rfl⟩
  have hEs := E.size
  rw [← hg1] at hA64
  rw [← hg2] at hA65
  rw [← hg3] at hA6
  go_simp
  rw [← hg1, ← hg2, ← hg3]
  clear hA1 hA2 hA3 hA4 hA5 hb1 hb1' hb2' hb3' hg4 hg5 hg6 hs1 hs2 hs3 hs4 hs5 hs6 E1 E2 E3 z1 z2 z3 z4 z5 z6 hba hbb hbc ga1 gb1 gc1 ha1 hc1 sa1 sb1 sc1 hg1 hg2 hg3
  have l1 := hA64.lt
  have l2 := hA65.lt
  have l3 := hA6.lt
  go_upto_region 3 with (go_at_call 5; refine (New_r _).mono ?_; rintro e w7 ⟨r, rfl, hI0, hr0, hb7⟩)
  have A1 := hA64.kept hb7
  have A2 := hA65.kept hb7
  have A3 := hA6.kept hb7
  have E7 : Below w.heap.size w w7 := E.trans (hb7.mono hEs)
  have hrw : w.heap.size ≤ r := by omega
  have hn1 : g1 ≠ r := by omega
  have hn2 : g2 ≠ r := by omega
  have hn3 : g3 ≠ r := by omega
  have hE7s := E7.size
  clear hA64 hA65 hA6 E hb7 hr0 l1 l2 l3 hEs
  go_upto_region 4 with (first
    | ((with_reducible show wpList _ _ _ (⟨some 29, .load _ _, _, _, _, _⟩ :: _) _ _); refine wl_load rfl 29 _ rfl g1 0 rfl 29 (bvs HA) (bvs HA) A1 (fun j v h => (by rw [Nat.zero_add]; exact h)) (.array 32 5) Try.underlying29 rfl IA.out ?_)
    | (go_at_call 9; with_reducible refine (HAdd1.out _ _ _ hI0).mono ?_; rintro e w8 ⟨gx, cx, rfl, hOx, hI1, hgx, kb1⟩))
  have B1 := arr_kb A1 kb1 hn1
  have B2 := arr_kb A2 kb1 hn2
  have B3 := arr_kb A3 kb1 hn3
  have E8 : Below w.heap.size w w8 := E7.trans (kb1.under (fun k e => by omega) (by omega))
  have k8 := kb1.size
  have hrl8 := hI1.lt
  clear A1 A2 A3 E7 kb1 hI0 hOx hgx
  go_simp
  go_upto_region 5 with (first
    | ((with_reducible show wpList _ _ _ (⟨some 35, .load _ _, _, _, _, _⟩ :: _) _ _); refine wl_load rfl 29 _ rfl g2 0 rfl 29 (bvs HB) (bvs HB) B2 (fun j v h => (by rw [Nat.zero_add]; exact h)) (.array 32 5) Try.underlying29 rfl IB.out ?_)
    | (go_at_call 9; with_reducible refine (HAdd2.out _ _ _ hI1).mono ?_; rintro e w9 ⟨gy, cy, rfl, hOy, hI2, hgy, kb2⟩))
  have C1 := arr_kb B1 kb2 hn1
  have C3 := arr_kb B3 kb2 hn3
  have C2 := arr_kb B2 kb2 hn2
  have E9 : Below w.heap.size w w9 := E8.trans (kb2.under (fun k e => by omega) (by omega))
  have k9 := kb2.size
  have hyr : gy ≠ r := by omega
  clear B1 B2 B3 E8 kb2 hI1 hgy
  go_simp
  go_upto_region 6 with (first
    | ((with_reducible show wpList _ _ _ (⟨some 41, .load _ _, _, _, _, _⟩ :: _) _ _); refine wl_load rfl 29 _ rfl g3 0 rfl 29 (bvs HC) (bvs HC) C3 (fun j v h => (by rw [Nat.zero_add]; exact h)) (.array 32 5) Try.underlying29 rfl IC.out ?_)
    | (go_at_call 9; with_reducible refine (HAdd3.out _ _ _ hI2).mono ?_; rintro e w10 ⟨gz, cz, rfl, hOz, hI3, hgz, kb3⟩))
  have D1 := arr_kb C1 kb3 hn1
  have D2 := arr_kb C2 kb3 hn2
  have D3 := arr_kb C3 kb3 hn3
  have hOy' := kb3.ownD hOy (by exact hyr)
  have E10 : Below w.heap.size w w10 := E9.trans (kb3.under (fun k e => by omega) (by omega))
  have k10 := kb3.size
  clear C1 C2 C3 E9 kb3 hI2 hgz hOz hOy
  go_simp
  go_upto_region 7 with (first
    | ((with_reducible show wpList _ _ _ (⟨some 45, .load _ _, _, _, _, _⟩ :: _) _ _); refine wl_load rfl 29 _ rfl g1 0 rfl 29 (bvs HA) (bvs HA) D1 (fun j v h => (by rw [Nat.zero_add]; exact h)) (.array 32 5) Try.underlying29 rfl IA.out ?_)
    | ((with_reducible show wpList _ _ _ (⟨some 46, .load _ _, _, _, _, _⟩ :: _) _ _); refine wl_load rfl 29 _ rfl g2 0 rfl 29 (bvs HB) (bvs HB) D2 (fun j v h => (by rw [Nat.zero_add]; exact h)) (.array 32 5) Try.underlying29 rfl IB.out ?_)
    | (go_at_call 20; with_reducible refine (HNAB.out _).mono ?_; rintro e w11 ⟨rfl, hb11⟩)
    | ((with_reducible show wpList _ _ _ (⟨some 11, .alloc _, _, _, _, _⟩ :: _) _ _); refine wl_alloc rfl 29 rfl (bvs (Z8 32)) 32 infoD ?_; intro w12 hA12 hb12 hs12)
    | ((with_reducible show wpList _ _ _ (⟨none, .store _ _ _, _, _, _, _⟩ :: _) _ _); refine wl_store rfl 29 _ _ rfl w11.heap.size 0 rfl (bvs NAB) rfl 29 _ hA12 IAB.out FAB.out (bvs_one _) ?_; intro w13 hA13 hg13 hs13))
  rw [whole_store _ _ TAB.out] at hA13
  have hb13 : Below w10.heap.size w10 w13 := (hb11.trans (hb12.mono hb11.size)).grown hg13 (by have := hb11.size; have := hb12.size; omega) (by intro k e; injection e with e; have := hb11.size; omega)
  obtain ⟨g11, hg11⟩ : ∃ g, g = w11.heap.size := ⟨_, rfl⟩
  rw [← hg11] at hA13
  have F1 := D1.kept hb13
  have F3 := D3.kept hb13
  have hOy13 := hOy'.to hb13
  have hI13 := hI3.to hb13
  have E13 : Below w.heap.size w w13 := E10.trans (hb13.mono E10.size)
  go_simp
  rw [← hg11]
  clear D1 D2 D3 hOy' hI3 E10 hb13 hb11 hb12 hg13 hs12 hs13 hA12 hg11
  go_upto_region 8 with (go_at_call 12; with_reducible refine (Peaks_any _ _ _ _ hI13).mono ?_; rintro e w14 ⟨rfl, hP14, hb14⟩)
  obtain ⟨g12, hg12⟩ : ∃ g, g = w13.heap.size := ⟨_, rfl⟩
  rw [← hg12] at hP14
  have G11 := hA13.kept hb14
  have G3 := F3.kept hb14
  have hOy14 := hOy13.to hb14
  have hI14 := hI13.to hb14
  have E14 : Below w.heap.size w w14 := E13.trans (hb14.mono E13.size)
  go_simp
  rw [← hg12]
  clear F1 F3 hOy13 hI13 E13 hb14 hA13 hg12
  have HG11 : Hid (∀ wx, Below w14.heap.size w14 wx → Arr wx g11 29 (bvs NAB)) := fun wx hb => G11.kept hb
  have HG3 : Hid (∀ wx, Below w14.heap.size w14 wx → Arr wx g3 29 (bvs HC)) := fun wx hb => G3.kept hb
  have RY : Hid (∀ wx, Below w14.heap.size w14 wx → wx.rangeAt gy 32 (bvs NAB)) := fun wx hb => by
    have h1 := (hOy14.rdAt.to hb).range 1 (by omega)
    simpa using h1
  have R12 : Hid (∀ wx, Below w14.heap.size w14 wx → wx.rangeAt g12 0 (bvs NAB)) := fun wx hb => by
    have h1 := ((rdd_arr' (n := 2) hP14 (All32.of (by simp [LAB.out, LC.out])) rfl).to hb).range 0 (by omega)
    simpa using h1
  have HRT : Hid (∀ wx, Below w14.heap.size w14 wx → Calls Try.prog 17 #[.pointer (some ⟨r, 0, none⟩)] wx fun e w' => e = .returned (.agg (bvs NR).toArray) ∧ Below wx.heap.size wx w') := fun wx hb => by
    have h1 := Root_all r 3 [NAB, HC] wx (hI14.to hb)
    rwa [HFO.out] at h1
  have HSZ : Hid (∀ wx, Below w14.heap.size w14 wx → Calls Try.prog 13 #[.pointer (some ⟨r, 0, none⟩)] wx fun e w' => e = .returned (.int .u64 (3 : Int)) ∧ wx = w') := fun wx hb => by
    have h1 := Size_any r 3 [NAB, HC] wx (hI14.to hb)
    exact h1
  refine wp_region_steps [[], [0], [1], [2], [3, 2], [2, 4], [5], [6], [7, 6], [6, 8], [9], [10], [11, 10], [12, 10], [10, 13], [14], [15], [16, 15], [17, 15], [15, 18], [19], [20], [21, 20], [22, 20], [20], [23, 24, 20], [20, 25], [26], [27], [28, 27], [29, 27], [27, 30], [31], [32], [33, 32], [34, 32], [32, 35], [36], [37], [38, 37], [39, 37], [37], [40, 41, 37], [37, 42], [43], [44], [45, 44], [44], [44], [47, 48, 44], [46, 49, 44], [44, 50], [51], [52], [53, 52], [54, 52], [52, 55]] (by kernel_rfl) (by kernel_rfl) (fun L a wx => ∃ v : Nat → Value, a = ⟨#[.bool false, .pointer (some ⟨g1, 0, none⟩), .pointer (some ⟨g2, 0, none⟩), .pointer (some ⟨g3, 0, none⟩), .pointer (some ⟨r, 0, none⟩), .slice (some ⟨gx, 0, none⟩) 1 cx, .int .i64 0, .slice (some ⟨gy, 0, none⟩) 2 cy, .int .i64 0, .slice (some ⟨gz, 0, none⟩) 1 cz, .int .i64 0, .pointer (some ⟨g11, 0, none⟩), .slice (some ⟨g12, 0, none⟩) 2 2, undef, undef, undef, undef, .slice (some ⟨w.heap.size, 0, none⟩) 1 1, .slice (some ⟨w.heap.size, 0, none⟩) 1 1, .agg (bvs HA).toArray, .slice (some ⟨wa2.heap.size, 0, none⟩) 1 1, .slice (some ⟨wa2.heap.size, 0, none⟩) 1 1, .agg (bvs HB).toArray, .slice (some ⟨wb2.heap.size, 0, none⟩) 1 1, .slice (some ⟨wb2.heap.size, 0, none⟩) 1 1, .agg (bvs HC).toArray, .pointer (some ⟨r, 0, none⟩), .tuple #[.slice (some ⟨gx, 0, none⟩) 1 cx, .int .i64 0], .pointer (some ⟨r, 0, none⟩), .agg (bvs HA).toArray, .tuple #[.slice (some ⟨gx, 0, none⟩) 1 cx, .int .i64 0], .slice (some ⟨gx, 0, none⟩) 1 cx, .int .i64 0, .tuple #[.slice (some ⟨gy, 0, none⟩) 2 cy, .int .i64 0], .pointer (some ⟨r, 0, none⟩), .agg (bvs HB).toArray, .tuple #[.slice (some ⟨gy, 0, none⟩) 2 cy, .int .i64 0], .slice (some ⟨gy, 0, none⟩) 2 cy, .int .i64 0, .tuple #[.slice (some ⟨gz, 0, none⟩) 1 cz, .int .i64 0], .pointer (some ⟨r, 0, none⟩), .agg (bvs HC).toArray, .tuple #[.slice (some ⟨gz, 0, none⟩) 1 cz, .int .i64 0], .slice (some ⟨gz, 0, none⟩) 1 cz, .int .i64 0, .agg (bvs HA).toArray, .agg (bvs HB).toArray, .agg (bvs NAB).toArray, .pointer (some ⟨r, 0, none⟩), .slice (some ⟨g12, 0, none⟩) 2 2, v 50, v 51, v 52, v 53, v 54, v 55, v 56, v 57, v 58, v 59, v 60, v 61, v 62, v 63, v 64, v 65, v 66, v 67, v 68, v 69, v 70, v 71, v 72, v 73, v 74, v 75, v 76, v 77, v 78, v 79, v 80, v 81, v 82, v 83, v 84, v 85, v 86, v 87, v 88, v 89, v 90, v 91, v 92, v 93, v 94, v 95, v 96, v 97, v 98, v 99, v 100, v 101, v 102, v 103, v 104, v 105, v 106, undef, undef, undef, undef, undef, undef, undef, undef, undef, undef, undef, undef, undef, undef, undef, undef, undef, undef, undef, undef, undef, undef, undef], []⟩ ∧ InvWakes HC NAB NR gx cx gy cy gz cz g3 g11 g12 r w14 L v wx) ?_ ⟨?_, ?_, ?_, ?_, ?_, ?_, ?_, ?_, ?_, ?_, ?_, ?_, ?_, ?_, ?_, ?_, ?_, ?_, ?_, ?_, ?_, ?_, ?_, ?_, ?_, ?_, ?_, ?_, ?_, ?_, ?_, ?_, ?_, ?_, ?_, ?_, ?_, ?_, ?_, ?_, ?_, ?_, ?_, ?_, ?_, ?_, ?_, ?_, ?_, ?_, ?_, ?_, ?_, ?_, ?_, ?_, ?_, trivial⟩ ?_
  · refine ⟨fun _ => undef, rfl, ⟨?_, ?_, ?_, ?_, ?_, ?_, ?_, ?_, ?_, ?_, ?_, ?_, ?_, ?_, ?_, ?_, ?_, ?_, ?_, ?_, ?_, ?_, ?_, ?_, ?_, ?_, ?_, ?_, ?_, ?_, ?_, ?_, ?_, ?_, ?_, ?_, ?_, ?_, ?_, ?_, ?_, ?_, ?_, ?_, ?_, ?_, ?_, ?_, ?_, ?_, ?_, ?_, ?_, ?_, ?_, ?_, ?_, (Below.refl _ _).drew⟩⟩ <;> (intro h; exact absurd h (by decide))
  · rintro L a wx ⟨v, rfl, hI⟩ hL hdep hcl K hK
    go_simp
    exact hK _ _ ⟨(upd v 50 (.int .i64 0)), rfl, ⟨fun _ => rfl, hI.t1, hI.t2, hI.t3, hI.t4, hI.t5, hI.t6, hI.t7, hI.t8, hI.t9, hI.t10, hI.t11, hI.t12, hI.t13, hI.t14, hI.t15, hI.t16, hI.t17, hI.t18, hI.t19, hI.t20, hI.t21, hI.t22, hI.t23, hI.t24, hI.t25, hI.t26, hI.t27, hI.t28, hI.t29, hI.t30, hI.t31, hI.t32, hI.t33, hI.t34, hI.t35, hI.t36, hI.t37, hI.t38, hI.t39, hI.t40, hI.t41, hI.t42, hI.t43, hI.t44, hI.t45, hI.t46, hI.t47, hI.t48, hI.t49, hI.t50, hI.t51, hI.t52, hI.t53, hI.t54, hI.t55, hI.t56, hI.bw⟩⟩
  · rintro L a wx ⟨v, rfl, hI⟩ hL hdep hcl K hK
    have e0 := hI.t0 (hdep 0 (by decide))
    rw [e0]
    go_simp
    exact hK _ _ ⟨(upd (upd v 50 (.int .i64 0)) 51 (.bool false)), rfl, ⟨fun _ => rfl, fun _ => rfl, hI.t2, hI.t3, hI.t4, hI.t5, hI.t6, hI.t7, hI.t8, hI.t9, hI.t10, hI.t11, hI.t12, hI.t13, hI.t14, hI.t15, hI.t16, hI.t17, hI.t18, hI.t19, hI.t20, hI.t21, hI.t22, hI.t23, hI.t24, hI.t25, hI.t26, hI.t27, hI.t28, hI.t29, hI.t30, hI.t31, hI.t32, hI.t33, hI.t34, hI.t35, hI.t36, hI.t37, hI.t38, hI.t39, hI.t40, hI.t41, hI.t42, hI.t43, hI.t44, hI.t45, hI.t46, hI.t47, hI.t48, hI.t49, hI.t50, hI.t51, hI.t52, hI.t53, hI.t54, hI.t55, hI.t56, hI.bw⟩⟩
  · rintro L a wx ⟨v, rfl, hI⟩ hL hdep hcl K hK
    have e1 := hI.t1 (hdep 1 (by decide))
    rw [e1]
    go_simp
    exact hK _ _ ⟨(upd (upd v 51 (.bool false)) 52 (.bool false)), rfl, ⟨hI.t0, fun _ => rfl, fun _ => rfl, hI.t3, hI.t4, hI.t5, hI.t6, hI.t7, hI.t8, hI.t9, hI.t10, hI.t11, hI.t12, hI.t13, hI.t14, hI.t15, hI.t16, hI.t17, hI.t18, hI.t19, hI.t20, hI.t21, hI.t22, hI.t23, hI.t24, hI.t25, hI.t26, hI.t27, hI.t28, hI.t29, hI.t30, hI.t31, hI.t32, hI.t33, hI.t34, hI.t35, hI.t36, hI.t37, hI.t38, hI.t39, hI.t40, hI.t41, hI.t42, hI.t43, hI.t44, hI.t45, hI.t46, hI.t47, hI.t48, hI.t49, hI.t50, hI.t51, hI.t52, hI.t53, hI.t54, hI.t55, hI.t56, hI.bw⟩⟩
  · rintro L a wx ⟨v, rfl, hI⟩ hL hdep hcl K hK
    have e2 := hI.t2 (hdep 2 (by decide))
    rw [e2]
    refine (if_pos rfl).mpr ?_
    go_simp
    exact hK _ _ ⟨(upd (upd v 52 (.bool false)) 53 (.int .i64 0)), rfl, ⟨hI.t0, hI.t1, fun _ => rfl, fun _ => rfl, hI.t4, hI.t5, hI.t6, hI.t7, hI.t8, hI.t9, hI.t10, hI.t11, hI.t12, hI.t13, hI.t14, hI.t15, hI.t16, hI.t17, hI.t18, hI.t19, hI.t20, hI.t21, hI.t22, hI.t23, hI.t24, hI.t25, hI.t26, hI.t27, hI.t28, hI.t29, hI.t30, hI.t31, hI.t32, hI.t33, hI.t34, hI.t35, hI.t36, hI.t37, hI.t38, hI.t39, hI.t40, hI.t41, hI.t42, hI.t43, hI.t44, hI.t45, hI.t46, hI.t47, hI.t48, hI.t49, hI.t50, hI.t51, hI.t52, hI.t53, hI.t54, hI.t55, hI.t56, hI.bw⟩⟩
  · rintro L a wx ⟨v, rfl, hI⟩ hL hdep hcl K hK
    have e3 := hI.t3 (hdep 3 (by decide))
    have e2 := hI.t2 (hdep 2 (by decide))
    rw [e3, e2]
    refine (if_pos rfl).mpr ?_
    go_simp
    exact hK _ _ ⟨(upd (upd (upd v 53 (.int .i64 0)) 52 (.bool false)) 54 (.bool false)), rfl, ⟨hI.t0, hI.t1, fun _ => rfl, fun _ => rfl, fun _ => rfl, hI.t5, hI.t6, hI.t7, hI.t8, hI.t9, hI.t10, hI.t11, hI.t12, hI.t13, hI.t14, hI.t15, hI.t16, hI.t17, hI.t18, hI.t19, hI.t20, hI.t21, hI.t22, hI.t23, hI.t24, hI.t25, hI.t26, hI.t27, hI.t28, hI.t29, hI.t30, hI.t31, hI.t32, hI.t33, hI.t34, hI.t35, hI.t36, hI.t37, hI.t38, hI.t39, hI.t40, hI.t41, hI.t42, hI.t43, hI.t44, hI.t45, hI.t46, hI.t47, hI.t48, hI.t49, hI.t50, hI.t51, hI.t52, hI.t53, hI.t54, hI.t55, hI.t56, hI.bw⟩⟩
  · rintro L a wx ⟨v, rfl, hI⟩ hL hdep hcl K hK
    have e2 := hI.t2 (hdep 2 (by decide))
    have e4 := hI.t4 (hdep 4 (by decide))
    rw [e2, e4]
    go_simp
    exact hK _ _ ⟨(upd (upd (upd v 52 (.bool false)) 54 (.bool false)) 55 (.bool false)), rfl, ⟨hI.t0, hI.t1, fun _ => rfl, hI.t3, fun _ => rfl, fun _ => rfl, hI.t6, hI.t7, hI.t8, hI.t9, hI.t10, hI.t11, hI.t12, hI.t13, hI.t14, hI.t15, hI.t16, hI.t17, hI.t18, hI.t19, hI.t20, hI.t21, hI.t22, hI.t23, hI.t24, hI.t25, hI.t26, hI.t27, hI.t28, hI.t29, hI.t30, hI.t31, hI.t32, hI.t33, hI.t34, hI.t35, hI.t36, hI.t37, hI.t38, hI.t39, hI.t40, hI.t41, hI.t42, hI.t43, hI.t44, hI.t45, hI.t46, hI.t47, hI.t48, hI.t49, hI.t50, hI.t51, hI.t52, hI.t53, hI.t54, hI.t55, hI.t56, hI.bw⟩⟩
  · rintro L a wx ⟨v, rfl, hI⟩ hL hdep hcl K hK
    have e5 := hI.t5 (hdep 5 (by decide))
    rw [e5]
    go_simp
    exact hK _ _ ⟨(upd (upd v 55 (.bool false)) 56 (.bool false)), rfl, ⟨hI.t0, hI.t1, hI.t2, hI.t3, hI.t4, fun _ => rfl, fun _ => rfl, hI.t7, hI.t8, hI.t9, hI.t10, hI.t11, hI.t12, hI.t13, hI.t14, hI.t15, hI.t16, hI.t17, hI.t18, hI.t19, hI.t20, hI.t21, hI.t22, hI.t23, hI.t24, hI.t25, hI.t26, hI.t27, hI.t28, hI.t29, hI.t30, hI.t31, hI.t32, hI.t33, hI.t34, hI.t35, hI.t36, hI.t37, hI.t38, hI.t39, hI.t40, hI.t41, hI.t42, hI.t43, hI.t44, hI.t45, hI.t46, hI.t47, hI.t48, hI.t49, hI.t50, hI.t51, hI.t52, hI.t53, hI.t54, hI.t55, hI.t56, hI.bw⟩⟩
  · rintro L a wx ⟨v, rfl, hI⟩ hL hdep hcl K hK
    have e6 := hI.t6 (hdep 6 (by decide))
    rw [e6]
    refine (if_pos rfl).mpr ?_
    go_simp
    exact hK _ _ ⟨(upd (upd v 56 (.bool false)) 57 (.int .i64 0)), rfl, ⟨hI.t0, hI.t1, hI.t2, hI.t3, hI.t4, hI.t5, fun _ => rfl, fun _ => rfl, hI.t8, hI.t9, hI.t10, hI.t11, hI.t12, hI.t13, hI.t14, hI.t15, hI.t16, hI.t17, hI.t18, hI.t19, hI.t20, hI.t21, hI.t22, hI.t23, hI.t24, hI.t25, hI.t26, hI.t27, hI.t28, hI.t29, hI.t30, hI.t31, hI.t32, hI.t33, hI.t34, hI.t35, hI.t36, hI.t37, hI.t38, hI.t39, hI.t40, hI.t41, hI.t42, hI.t43, hI.t44, hI.t45, hI.t46, hI.t47, hI.t48, hI.t49, hI.t50, hI.t51, hI.t52, hI.t53, hI.t54, hI.t55, hI.t56, hI.bw⟩⟩
  · rintro L a wx ⟨v, rfl, hI⟩ hL hdep hcl K hK
    have e7 := hI.t7 (hdep 7 (by decide))
    have e6 := hI.t6 (hdep 6 (by decide))
    rw [e7, e6]
    refine (if_pos rfl).mpr ?_
    go_simp
    exact hK _ _ ⟨(upd (upd (upd v 57 (.int .i64 0)) 56 (.bool false)) 58 (.bool false)), rfl, ⟨hI.t0, hI.t1, hI.t2, hI.t3, hI.t4, hI.t5, fun _ => rfl, fun _ => rfl, fun _ => rfl, hI.t9, hI.t10, hI.t11, hI.t12, hI.t13, hI.t14, hI.t15, hI.t16, hI.t17, hI.t18, hI.t19, hI.t20, hI.t21, hI.t22, hI.t23, hI.t24, hI.t25, hI.t26, hI.t27, hI.t28, hI.t29, hI.t30, hI.t31, hI.t32, hI.t33, hI.t34, hI.t35, hI.t36, hI.t37, hI.t38, hI.t39, hI.t40, hI.t41, hI.t42, hI.t43, hI.t44, hI.t45, hI.t46, hI.t47, hI.t48, hI.t49, hI.t50, hI.t51, hI.t52, hI.t53, hI.t54, hI.t55, hI.t56, hI.bw⟩⟩
  · rintro L a wx ⟨v, rfl, hI⟩ hL hdep hcl K hK
    have e6 := hI.t6 (hdep 6 (by decide))
    have e8 := hI.t8 (hdep 8 (by decide))
    rw [e6, e8]
    go_simp
    exact hK _ _ ⟨(upd (upd (upd v 56 (.bool false)) 58 (.bool false)) 59 (.bool false)), rfl, ⟨hI.t0, hI.t1, hI.t2, hI.t3, hI.t4, hI.t5, fun _ => rfl, hI.t7, fun _ => rfl, fun _ => rfl, hI.t10, hI.t11, hI.t12, hI.t13, hI.t14, hI.t15, hI.t16, hI.t17, hI.t18, hI.t19, hI.t20, hI.t21, hI.t22, hI.t23, hI.t24, hI.t25, hI.t26, hI.t27, hI.t28, hI.t29, hI.t30, hI.t31, hI.t32, hI.t33, hI.t34, hI.t35, hI.t36, hI.t37, hI.t38, hI.t39, hI.t40, hI.t41, hI.t42, hI.t43, hI.t44, hI.t45, hI.t46, hI.t47, hI.t48, hI.t49, hI.t50, hI.t51, hI.t52, hI.t53, hI.t54, hI.t55, hI.t56, hI.bw⟩⟩
  · rintro L a wx ⟨v, rfl, hI⟩ hL hdep hcl K hK
    have e9 := hI.t9 (hdep 9 (by decide))
    rw [e9]
    go_simp
    exact hK _ _ ⟨(upd (upd v 59 (.bool false)) 60 (.bool false)), rfl, ⟨hI.t0, hI.t1, hI.t2, hI.t3, hI.t4, hI.t5, hI.t6, hI.t7, hI.t8, fun _ => rfl, fun _ => rfl, hI.t11, hI.t12, hI.t13, hI.t14, hI.t15, hI.t16, hI.t17, hI.t18, hI.t19, hI.t20, hI.t21, hI.t22, hI.t23, hI.t24, hI.t25, hI.t26, hI.t27, hI.t28, hI.t29, hI.t30, hI.t31, hI.t32, hI.t33, hI.t34, hI.t35, hI.t36, hI.t37, hI.t38, hI.t39, hI.t40, hI.t41, hI.t42, hI.t43, hI.t44, hI.t45, hI.t46, hI.t47, hI.t48, hI.t49, hI.t50, hI.t51, hI.t52, hI.t53, hI.t54, hI.t55, hI.t56, hI.bw⟩⟩
  · rintro L a wx ⟨v, rfl, hI⟩ hL hdep hcl K hK
    have e10 := hI.t10 (hdep 10 (by decide))
    rw [e10]
    refine (if_pos rfl).mpr ?_
    go_simp
    exact hK _ _ ⟨(upd (upd v 60 (.bool false)) 61 (.slice (some ⟨gx, 0, none⟩) 1 cx)), rfl, ⟨hI.t0, hI.t1, hI.t2, hI.t3, hI.t4, hI.t5, hI.t6, hI.t7, hI.t8, hI.t9, fun _ => rfl, fun _ => rfl, hI.t12, hI.t13, hI.t14, hI.t15, hI.t16, hI.t17, hI.t18, hI.t19, hI.t20, hI.t21, hI.t22, hI.t23, hI.t24, hI.t25, hI.t26, hI.t27, hI.t28, hI.t29, hI.t30, hI.t31, hI.t32, hI.t33, hI.t34, hI.t35, hI.t36, hI.t37, hI.t38, hI.t39, hI.t40, hI.t41, hI.t42, hI.t43, hI.t44, hI.t45, hI.t46, hI.t47, hI.t48, hI.t49, hI.t50, hI.t51, hI.t52, hI.t53, hI.t54, hI.t55, hI.t56, hI.bw⟩⟩
  · rintro L a wx ⟨v, rfl, hI⟩ hL hdep hcl K hK
    have e11 := hI.t11 (hdep 11 (by decide))
    have e10 := hI.t10 (hdep 10 (by decide))
    rw [e11, e10]
    refine (if_pos rfl).mpr ?_
    go_simp
    exact hK _ _ ⟨(upd (upd (upd v 61 (.slice (some ⟨gx, 0, none⟩) 1 cx)) 60 (.bool false)) 62 (.int .i64 (1 : Int))), rfl, ⟨hI.t0, hI.t1, hI.t2, hI.t3, hI.t4, hI.t5, hI.t6, hI.t7, hI.t8, hI.t9, fun _ => rfl, fun _ => rfl, fun _ => rfl, hI.t13, hI.t14, hI.t15, hI.t16, hI.t17, hI.t18, hI.t19, hI.t20, hI.t21, hI.t22, hI.t23, hI.t24, hI.t25, hI.t26, hI.t27, hI.t28, hI.t29, hI.t30, hI.t31, hI.t32, hI.t33, hI.t34, hI.t35, hI.t36, hI.t37, hI.t38, hI.t39, hI.t40, hI.t41, hI.t42, hI.t43, hI.t44, hI.t45, hI.t46, hI.t47, hI.t48, hI.t49, hI.t50, hI.t51, hI.t52, hI.t53, hI.t54, hI.t55, hI.t56, hI.bw⟩⟩
  · rintro L a wx ⟨v, rfl, hI⟩ hL hdep hcl K hK
    have e12 := hI.t12 (hdep 12 (by decide))
    have e10 := hI.t10 (hdep 10 (by decide))
    rw [e12, e10]
    refine (if_pos rfl).mpr ?_
    go_simp
    exact hK _ _ ⟨(upd (upd (upd v 62 (.int .i64 (1 : Int))) 60 (.bool false)) 63 (.bool false)), rfl, ⟨hI.t0, hI.t1, hI.t2, hI.t3, hI.t4, hI.t5, hI.t6, hI.t7, hI.t8, hI.t9, fun _ => rfl, hI.t11, fun _ => rfl, fun _ => rfl, hI.t14, hI.t15, hI.t16, hI.t17, hI.t18, hI.t19, hI.t20, hI.t21, hI.t22, hI.t23, hI.t24, hI.t25, hI.t26, hI.t27, hI.t28, hI.t29, hI.t30, hI.t31, hI.t32, hI.t33, hI.t34, hI.t35, hI.t36, hI.t37, hI.t38, hI.t39, hI.t40, hI.t41, hI.t42, hI.t43, hI.t44, hI.t45, hI.t46, hI.t47, hI.t48, hI.t49, hI.t50, hI.t51, hI.t52, hI.t53, hI.t54, hI.t55, hI.t56, hI.bw⟩⟩
  · rintro L a wx ⟨v, rfl, hI⟩ hL hdep hcl K hK
    have e10 := hI.t10 (hdep 10 (by decide))
    have e13 := hI.t13 (hdep 13 (by decide))
    rw [e10, e13]
    go_simp
    exact hK _ _ ⟨(upd (upd (upd v 60 (.bool false)) 63 (.bool false)) 64 (.bool false)), rfl, ⟨hI.t0, hI.t1, hI.t2, hI.t3, hI.t4, hI.t5, hI.t6, hI.t7, hI.t8, hI.t9, fun _ => rfl, hI.t11, hI.t12, fun _ => rfl, fun _ => rfl, hI.t15, hI.t16, hI.t17, hI.t18, hI.t19, hI.t20, hI.t21, hI.t22, hI.t23, hI.t24, hI.t25, hI.t26, hI.t27, hI.t28, hI.t29, hI.t30, hI.t31, hI.t32, hI.t33, hI.t34, hI.t35, hI.t36, hI.t37, hI.t38, hI.t39, hI.t40, hI.t41, hI.t42, hI.t43, hI.t44, hI.t45, hI.t46, hI.t47, hI.t48, hI.t49, hI.t50, hI.t51, hI.t52, hI.t53, hI.t54, hI.t55, hI.t56, hI.bw⟩⟩
  · rintro L a wx ⟨v, rfl, hI⟩ hL hdep hcl K hK
    have e14 := hI.t14 (hdep 14 (by decide))
    rw [e14]
    go_simp
    exact hK _ _ ⟨(upd (upd v 64 (.bool false)) 65 (.bool false)), rfl, ⟨hI.t0, hI.t1, hI.t2, hI.t3, hI.t4, hI.t5, hI.t6, hI.t7, hI.t8, hI.t9, hI.t10, hI.t11, hI.t12, hI.t13, fun _ => rfl, fun _ => rfl, hI.t16, hI.t17, hI.t18, hI.t19, hI.t20, hI.t21, hI.t22, hI.t23, hI.t24, hI.t25, hI.t26, hI.t27, hI.t28, hI.t29, hI.t30, hI.t31, hI.t32, hI.t33, hI.t34, hI.t35, hI.t36, hI.t37, hI.t38, hI.t39, hI.t40, hI.t41, hI.t42, hI.t43, hI.t44, hI.t45, hI.t46, hI.t47, hI.t48, hI.t49, hI.t50, hI.t51, hI.t52, hI.t53, hI.t54, hI.t55, hI.t56, hI.bw⟩⟩
  · rintro L a wx ⟨v, rfl, hI⟩ hL hdep hcl K hK
    have e15 := hI.t15 (hdep 15 (by decide))
    rw [e15]
    refine (if_pos rfl).mpr ?_
    go_simp
    exact hK _ _ ⟨(upd (upd v 65 (.bool false)) 66 (.slice (some ⟨gy, 0, none⟩) 2 cy)), rfl, ⟨hI.t0, hI.t1, hI.t2, hI.t3, hI.t4, hI.t5, hI.t6, hI.t7, hI.t8, hI.t9, hI.t10, hI.t11, hI.t12, hI.t13, hI.t14, fun _ => rfl, fun _ => rfl, hI.t17, hI.t18, hI.t19, hI.t20, hI.t21, hI.t22, hI.t23, hI.t24, hI.t25, hI.t26, hI.t27, hI.t28, hI.t29, hI.t30, hI.t31, hI.t32, hI.t33, hI.t34, hI.t35, hI.t36, hI.t37, hI.t38, hI.t39, hI.t40, hI.t41, hI.t42, hI.t43, hI.t44, hI.t45, hI.t46, hI.t47, hI.t48, hI.t49, hI.t50, hI.t51, hI.t52, hI.t53, hI.t54, hI.t55, hI.t56, hI.bw⟩⟩
  · rintro L a wx ⟨v, rfl, hI⟩ hL hdep hcl K hK
    have e16 := hI.t16 (hdep 16 (by decide))
    have e15 := hI.t15 (hdep 15 (by decide))
    rw [e16, e15]
    refine (if_pos rfl).mpr ?_
    go_simp
    exact hK _ _ ⟨(upd (upd (upd v 66 (.slice (some ⟨gy, 0, none⟩) 2 cy)) 65 (.bool false)) 67 (.int .i64 (2 : Int))), rfl, ⟨hI.t0, hI.t1, hI.t2, hI.t3, hI.t4, hI.t5, hI.t6, hI.t7, hI.t8, hI.t9, hI.t10, hI.t11, hI.t12, hI.t13, hI.t14, fun _ => rfl, fun _ => rfl, fun _ => rfl, hI.t18, hI.t19, hI.t20, hI.t21, hI.t22, hI.t23, hI.t24, hI.t25, hI.t26, hI.t27, hI.t28, hI.t29, hI.t30, hI.t31, hI.t32, hI.t33, hI.t34, hI.t35, hI.t36, hI.t37, hI.t38, hI.t39, hI.t40, hI.t41, hI.t42, hI.t43, hI.t44, hI.t45, hI.t46, hI.t47, hI.t48, hI.t49, hI.t50, hI.t51, hI.t52, hI.t53, hI.t54, hI.t55, hI.t56, hI.bw⟩⟩
  · rintro L a wx ⟨v, rfl, hI⟩ hL hdep hcl K hK
    have e17 := hI.t17 (hdep 17 (by decide))
    have e15 := hI.t15 (hdep 15 (by decide))
    rw [e17, e15]
    refine (if_pos rfl).mpr ?_
    go_simp
    exact hK _ _ ⟨(upd (upd (upd v 67 (.int .i64 (2 : Int))) 65 (.bool false)) 68 (.bool false)), rfl, ⟨hI.t0, hI.t1, hI.t2, hI.t3, hI.t4, hI.t5, hI.t6, hI.t7, hI.t8, hI.t9, hI.t10, hI.t11, hI.t12, hI.t13, hI.t14, fun _ => rfl, hI.t16, fun _ => rfl, fun _ => rfl, hI.t19, hI.t20, hI.t21, hI.t22, hI.t23, hI.t24, hI.t25, hI.t26, hI.t27, hI.t28, hI.t29, hI.t30, hI.t31, hI.t32, hI.t33, hI.t34, hI.t35, hI.t36, hI.t37, hI.t38, hI.t39, hI.t40, hI.t41, hI.t42, hI.t43, hI.t44, hI.t45, hI.t46, hI.t47, hI.t48, hI.t49, hI.t50, hI.t51, hI.t52, hI.t53, hI.t54, hI.t55, hI.t56, hI.bw⟩⟩
  · rintro L a wx ⟨v, rfl, hI⟩ hL hdep hcl K hK
    have e15 := hI.t15 (hdep 15 (by decide))
    have e18 := hI.t18 (hdep 18 (by decide))
    rw [e15, e18]
    go_simp
    exact hK _ _ ⟨(upd (upd (upd v 65 (.bool false)) 68 (.bool false)) 69 (.bool false)), rfl, ⟨hI.t0, hI.t1, hI.t2, hI.t3, hI.t4, hI.t5, hI.t6, hI.t7, hI.t8, hI.t9, hI.t10, hI.t11, hI.t12, hI.t13, hI.t14, fun _ => rfl, hI.t16, hI.t17, fun _ => rfl, fun _ => rfl, hI.t20, hI.t21, hI.t22, hI.t23, hI.t24, hI.t25, hI.t26, hI.t27, hI.t28, hI.t29, hI.t30, hI.t31, hI.t32, hI.t33, hI.t34, hI.t35, hI.t36, hI.t37, hI.t38, hI.t39, hI.t40, hI.t41, hI.t42, hI.t43, hI.t44, hI.t45, hI.t46, hI.t47, hI.t48, hI.t49, hI.t50, hI.t51, hI.t52, hI.t53, hI.t54, hI.t55, hI.t56, hI.bw⟩⟩
  · rintro L a wx ⟨v, rfl, hI⟩ hL hdep hcl K hK
    have e19 := hI.t19 (hdep 19 (by decide))
    rw [e19]
    go_simp
    exact hK _ _ ⟨(upd (upd v 69 (.bool false)) 70 (.bool false)), rfl, ⟨hI.t0, hI.t1, hI.t2, hI.t3, hI.t4, hI.t5, hI.t6, hI.t7, hI.t8, hI.t9, hI.t10, hI.t11, hI.t12, hI.t13, hI.t14, hI.t15, hI.t16, hI.t17, hI.t18, fun _ => rfl, fun _ => rfl, hI.t21, hI.t22, hI.t23, hI.t24, hI.t25, hI.t26, hI.t27, hI.t28, hI.t29, hI.t30, hI.t31, hI.t32, hI.t33, hI.t34, hI.t35, hI.t36, hI.t37, hI.t38, hI.t39, hI.t40, hI.t41, hI.t42, hI.t43, hI.t44, hI.t45, hI.t46, hI.t47, hI.t48, hI.t49, hI.t50, hI.t51, hI.t52, hI.t53, hI.t54, hI.t55, hI.t56, hI.bw⟩⟩
  · rintro L a wx ⟨v, rfl, hI⟩ hL hdep hcl K hK
    have e20 := hI.t20 (hdep 20 (by decide))
    rw [e20]
    refine (if_pos rfl).mpr ?_
    go_simp
    exact hK _ _ ⟨(upd (upd v 70 (.bool false)) 71 (.slice (some ⟨gy, 0, none⟩) 2 cy)), rfl, ⟨hI.t0, hI.t1, hI.t2, hI.t3, hI.t4, hI.t5, hI.t6, hI.t7, hI.t8, hI.t9, hI.t10, hI.t11, hI.t12, hI.t13, hI.t14, hI.t15, hI.t16, hI.t17, hI.t18, hI.t19, fun _ => rfl, fun _ => rfl, hI.t22, hI.t23, hI.t24, hI.t25, hI.t26, hI.t27, hI.t28, hI.t29, hI.t30, hI.t31, hI.t32, hI.t33, hI.t34, hI.t35, hI.t36, hI.t37, hI.t38, hI.t39, hI.t40, hI.t41, hI.t42, hI.t43, hI.t44, hI.t45, hI.t46, hI.t47, hI.t48, hI.t49, hI.t50, hI.t51, hI.t52, hI.t53, hI.t54, hI.t55, hI.t56, hI.bw⟩⟩
  · rintro L a wx ⟨v, rfl, hI⟩ hL hdep hcl K hK
    have e21 := hI.t21 (hdep 21 (by decide))
    have e20 := hI.t20 (hdep 20 (by decide))
    rw [e21, e20]
    refine (if_pos rfl).mpr ?_
    go_simp
    exact hK _ _ ⟨(upd (upd (upd v 71 (.slice (some ⟨gy, 0, none⟩) 2 cy)) 70 (.bool false)) 72 (.pointer (some ⟨gy, 32, none⟩))), rfl, ⟨hI.t0, hI.t1, hI.t2, hI.t3, hI.t4, hI.t5, hI.t6, hI.t7, hI.t8, hI.t9, hI.t10, hI.t11, hI.t12, hI.t13, hI.t14, hI.t15, hI.t16, hI.t17, hI.t18, hI.t19, fun _ => rfl, fun _ => rfl, fun _ => rfl, hI.t23, hI.t24, hI.t25, hI.t26, hI.t27, hI.t28, hI.t29, hI.t30, hI.t31, hI.t32, hI.t33, hI.t34, hI.t35, hI.t36, hI.t37, hI.t38, hI.t39, hI.t40, hI.t41, hI.t42, hI.t43, hI.t44, hI.t45, hI.t46, hI.t47, hI.t48, hI.t49, hI.t50, hI.t51, hI.t52, hI.t53, hI.t54, hI.t55, hI.t56, hI.bw⟩⟩
  · rintro L a wx ⟨v, rfl, hI⟩ hL hdep hcl K hK
    have e22 := hI.t22 (hdep 22 (by decide))
    have e20 := hI.t20 (hdep 20 (by decide))
    rw [e22, e20]
    refine (if_pos rfl).mpr ?_
    refine wp_load_mid 29 _ rfl gy 32 rfl (bvs NAB) (.array 32 5) (RY.out wx hI.bw) Try.underlying29 rfl IAB.out ?_
    exact hK _ _ ⟨(upd (upd (upd v 72 (.pointer (some ⟨gy, 32, none⟩))) 70 (.bool false)) 73 (.agg (bvs NAB).toArray)), rfl, ⟨hI.t0, hI.t1, hI.t2, hI.t3, hI.t4, hI.t5, hI.t6, hI.t7, hI.t8, hI.t9, hI.t10, hI.t11, hI.t12, hI.t13, hI.t14, hI.t15, hI.t16, hI.t17, hI.t18, hI.t19, fun _ => rfl, hI.t21, fun _ => rfl, fun _ => rfl, hI.t24, hI.t25, hI.t26, hI.t27, hI.t28, hI.t29, hI.t30, hI.t31, hI.t32, hI.t33, hI.t34, hI.t35, hI.t36, hI.t37, hI.t38, hI.t39, hI.t40, hI.t41, hI.t42, hI.t43, hI.t44, hI.t45, hI.t46, hI.t47, hI.t48, hI.t49, hI.t50, hI.t51, hI.t52, hI.t53, hI.t54, hI.t55, hI.t56, hI.bw⟩⟩
  · rintro L a wx ⟨v, rfl, hI⟩ hL hdep hcl K hK
    have e20 := hI.t20 (hdep 20 (by decide))
    rw [e20]
    refine (if_pos rfl).mpr ?_
    refine ow_load 29 _ rfl g11 0 rfl 29 (bvs NAB) (bvs NAB) (HG11.out wx hI.bw) (fun j v h => by rw [Nat.zero_add]; exact h) (.array 32 5) Try.underlying29 rfl IAB.out ?_
    exact hK _ _ ⟨(upd (upd v 70 (.bool false)) 74 (.agg (bvs NAB).toArray)), rfl, ⟨hI.t0, hI.t1, hI.t2, hI.t3, hI.t4, hI.t5, hI.t6, hI.t7, hI.t8, hI.t9, hI.t10, hI.t11, hI.t12, hI.t13, hI.t14, hI.t15, hI.t16, hI.t17, hI.t18, hI.t19, fun _ => rfl, hI.t21, hI.t22, hI.t23, fun _ => rfl, hI.t25, hI.t26, hI.t27, hI.t28, hI.t29, hI.t30, hI.t31, hI.t32, hI.t33, hI.t34, hI.t35, hI.t36, hI.t37, hI.t38, hI.t39, hI.t40, hI.t41, hI.t42, hI.t43, hI.t44, hI.t45, hI.t46, hI.t47, hI.t48, hI.t49, hI.t50, hI.t51, hI.t52, hI.t53, hI.t54, hI.t55, hI.t56, hI.bw⟩⟩
  · rintro L a wx ⟨v, rfl, hI⟩ hL hdep hcl K hK
    have e23 := hI.t23 (hdep 23 (by decide))
    have e24 := hI.t24 (hdep 24 (by decide))
    have e20 := hI.t20 (hdep 20 (by decide))
    rw [e23, e24, e20]
    refine (if_pos rfl).mpr ?_
    refine ow_neSame _ _ _ rfl NAB LAB.out rfl rfl ?_
    exact hK _ _ ⟨(upd (upd (upd (upd v 73 (.agg (bvs NAB).toArray)) 74 (.agg (bvs NAB).toArray)) 70 (.bool false)) 75 (.bool false)), rfl, ⟨hI.t0, hI.t1, hI.t2, hI.t3, hI.t4, hI.t5, hI.t6, hI.t7, hI.t8, hI.t9, hI.t10, hI.t11, hI.t12, hI.t13, hI.t14, hI.t15, hI.t16, hI.t17, hI.t18, hI.t19, fun _ => rfl, hI.t21, hI.t22, fun _ => rfl, fun _ => rfl, fun _ => rfl, hI.t26, hI.t27, hI.t28, hI.t29, hI.t30, hI.t31, hI.t32, hI.t33, hI.t34, hI.t35, hI.t36, hI.t37, hI.t38, hI.t39, hI.t40, hI.t41, hI.t42, hI.t43, hI.t44, hI.t45, hI.t46, hI.t47, hI.t48, hI.t49, hI.t50, hI.t51, hI.t52, hI.t53, hI.t54, hI.t55, hI.t56, hI.bw⟩⟩
  · rintro L a wx ⟨v, rfl, hI⟩ hL hdep hcl K hK
    have e20 := hI.t20 (hdep 20 (by decide))
    have e25 := hI.t25 (hdep 25 (by decide))
    rw [e20, e25]
    go_simp
    exact hK _ _ ⟨(upd (upd (upd v 70 (.bool false)) 75 (.bool false)) 76 (.bool false)), rfl, ⟨hI.t0, hI.t1, hI.t2, hI.t3, hI.t4, hI.t5, hI.t6, hI.t7, hI.t8, hI.t9, hI.t10, hI.t11, hI.t12, hI.t13, hI.t14, hI.t15, hI.t16, hI.t17, hI.t18, hI.t19, fun _ => rfl, hI.t21, hI.t22, hI.t23, hI.t24, fun _ => rfl, fun _ => rfl, hI.t27, hI.t28, hI.t29, hI.t30, hI.t31, hI.t32, hI.t33, hI.t34, hI.t35, hI.t36, hI.t37, hI.t38, hI.t39, hI.t40, hI.t41, hI.t42, hI.t43, hI.t44, hI.t45, hI.t46, hI.t47, hI.t48, hI.t49, hI.t50, hI.t51, hI.t52, hI.t53, hI.t54, hI.t55, hI.t56, hI.bw⟩⟩
  · rintro L a wx ⟨v, rfl, hI⟩ hL hdep hcl K hK
    have e26 := hI.t26 (hdep 26 (by decide))
    rw [e26]
    go_simp
    exact hK _ _ ⟨(upd (upd v 76 (.bool false)) 77 (.bool false)), rfl, ⟨hI.t0, hI.t1, hI.t2, hI.t3, hI.t4, hI.t5, hI.t6, hI.t7, hI.t8, hI.t9, hI.t10, hI.t11, hI.t12, hI.t13, hI.t14, hI.t15, hI.t16, hI.t17, hI.t18, hI.t19, hI.t20, hI.t21, hI.t22, hI.t23, hI.t24, hI.t25, fun _ => rfl, fun _ => rfl, hI.t28, hI.t29, hI.t30, hI.t31, hI.t32, hI.t33, hI.t34, hI.t35, hI.t36, hI.t37, hI.t38, hI.t39, hI.t40, hI.t41, hI.t42, hI.t43, hI.t44, hI.t45, hI.t46, hI.t47, hI.t48, hI.t49, hI.t50, hI.t51, hI.t52, hI.t53, hI.t54, hI.t55, hI.t56, hI.bw⟩⟩
  · rintro L a wx ⟨v, rfl, hI⟩ hL hdep hcl K hK
    have e27 := hI.t27 (hdep 27 (by decide))
    rw [e27]
    refine (if_pos rfl).mpr ?_
    go_simp
    exact hK _ _ ⟨(upd (upd v 77 (.bool false)) 78 (.slice (some ⟨gz, 0, none⟩) 1 cz)), rfl, ⟨hI.t0, hI.t1, hI.t2, hI.t3, hI.t4, hI.t5, hI.t6, hI.t7, hI.t8, hI.t9, hI.t10, hI.t11, hI.t12, hI.t13, hI.t14, hI.t15, hI.t16, hI.t17, hI.t18, hI.t19, hI.t20, hI.t21, hI.t22, hI.t23, hI.t24, hI.t25, hI.t26, fun _ => rfl, fun _ => rfl, hI.t29, hI.t30, hI.t31, hI.t32, hI.t33, hI.t34, hI.t35, hI.t36, hI.t37, hI.t38, hI.t39, hI.t40, hI.t41, hI.t42, hI.t43, hI.t44, hI.t45, hI.t46, hI.t47, hI.t48, hI.t49, hI.t50, hI.t51, hI.t52, hI.t53, hI.t54, hI.t55, hI.t56, hI.bw⟩⟩
  · rintro L a wx ⟨v, rfl, hI⟩ hL hdep hcl K hK
    have e28 := hI.t28 (hdep 28 (by decide))
    have e27 := hI.t27 (hdep 27 (by decide))
    rw [e28, e27]
    refine (if_pos rfl).mpr ?_
    go_simp
    exact hK _ _ ⟨(upd (upd (upd v 78 (.slice (some ⟨gz, 0, none⟩) 1 cz)) 77 (.bool false)) 79 (.int .i64 (1 : Int))), rfl, ⟨hI.t0, hI.t1, hI.t2, hI.t3, hI.t4, hI.t5, hI.t6, hI.t7, hI.t8, hI.t9, hI.t10, hI.t11, hI.t12, hI.t13, hI.t14, hI.t15, hI.t16, hI.t17, hI.t18, hI.t19, hI.t20, hI.t21, hI.t22, hI.t23, hI.t24, hI.t25, hI.t26, fun _ => rfl, fun _ => rfl, fun _ => rfl, hI.t30, hI.t31, hI.t32, hI.t33, hI.t34, hI.t35, hI.t36, hI.t37, hI.t38, hI.t39, hI.t40, hI.t41, hI.t42, hI.t43, hI.t44, hI.t45, hI.t46, hI.t47, hI.t48, hI.t49, hI.t50, hI.t51, hI.t52, hI.t53, hI.t54, hI.t55, hI.t56, hI.bw⟩⟩
  · rintro L a wx ⟨v, rfl, hI⟩ hL hdep hcl K hK
    have e29 := hI.t29 (hdep 29 (by decide))
    have e27 := hI.t27 (hdep 27 (by decide))
    rw [e29, e27]
    refine (if_pos rfl).mpr ?_
    go_simp
    exact hK _ _ ⟨(upd (upd (upd v 79 (.int .i64 (1 : Int))) 77 (.bool false)) 80 (.bool false)), rfl, ⟨hI.t0, hI.t1, hI.t2, hI.t3, hI.t4, hI.t5, hI.t6, hI.t7, hI.t8, hI.t9, hI.t10, hI.t11, hI.t12, hI.t13, hI.t14, hI.t15, hI.t16, hI.t17, hI.t18, hI.t19, hI.t20, hI.t21, hI.t22, hI.t23, hI.t24, hI.t25, hI.t26, fun _ => rfl, hI.t28, fun _ => rfl, fun _ => rfl, hI.t31, hI.t32, hI.t33, hI.t34, hI.t35, hI.t36, hI.t37, hI.t38, hI.t39, hI.t40, hI.t41, hI.t42, hI.t43, hI.t44, hI.t45, hI.t46, hI.t47, hI.t48, hI.t49, hI.t50, hI.t51, hI.t52, hI.t53, hI.t54, hI.t55, hI.t56, hI.bw⟩⟩
  · rintro L a wx ⟨v, rfl, hI⟩ hL hdep hcl K hK
    have e27 := hI.t27 (hdep 27 (by decide))
    have e30 := hI.t30 (hdep 30 (by decide))
    rw [e27, e30]
    go_simp
    exact hK _ _ ⟨(upd (upd (upd v 77 (.bool false)) 80 (.bool false)) 81 (.bool false)), rfl, ⟨hI.t0, hI.t1, hI.t2, hI.t3, hI.t4, hI.t5, hI.t6, hI.t7, hI.t8, hI.t9, hI.t10, hI.t11, hI.t12, hI.t13, hI.t14, hI.t15, hI.t16, hI.t17, hI.t18, hI.t19, hI.t20, hI.t21, hI.t22, hI.t23, hI.t24, hI.t25, hI.t26, fun _ => rfl, hI.t28, hI.t29, fun _ => rfl, fun _ => rfl, hI.t32, hI.t33, hI.t34, hI.t35, hI.t36, hI.t37, hI.t38, hI.t39, hI.t40, hI.t41, hI.t42, hI.t43, hI.t44, hI.t45, hI.t46, hI.t47, hI.t48, hI.t49, hI.t50, hI.t51, hI.t52, hI.t53, hI.t54, hI.t55, hI.t56, hI.bw⟩⟩
  · rintro L a wx ⟨v, rfl, hI⟩ hL hdep hcl K hK
    have e31 := hI.t31 (hdep 31 (by decide))
    rw [e31]
    go_simp
    exact hK _ _ ⟨(upd (upd v 81 (.bool false)) 82 (.bool false)), rfl, ⟨hI.t0, hI.t1, hI.t2, hI.t3, hI.t4, hI.t5, hI.t6, hI.t7, hI.t8, hI.t9, hI.t10, hI.t11, hI.t12, hI.t13, hI.t14, hI.t15, hI.t16, hI.t17, hI.t18, hI.t19, hI.t20, hI.t21, hI.t22, hI.t23, hI.t24, hI.t25, hI.t26, hI.t27, hI.t28, hI.t29, hI.t30, fun _ => rfl, fun _ => rfl, hI.t33, hI.t34, hI.t35, hI.t36, hI.t37, hI.t38, hI.t39, hI.t40, hI.t41, hI.t42, hI.t43, hI.t44, hI.t45, hI.t46, hI.t47, hI.t48, hI.t49, hI.t50, hI.t51, hI.t52, hI.t53, hI.t54, hI.t55, hI.t56, hI.bw⟩⟩
  · rintro L a wx ⟨v, rfl, hI⟩ hL hdep hcl K hK
    have e32 := hI.t32 (hdep 32 (by decide))
    rw [e32]
    refine (if_pos rfl).mpr ?_
    go_simp
    exact hK _ _ ⟨(upd (upd v 82 (.bool false)) 83 (.slice (some ⟨g12, 0, none⟩) 2 2)), rfl, ⟨hI.t0, hI.t1, hI.t2, hI.t3, hI.t4, hI.t5, hI.t6, hI.t7, hI.t8, hI.t9, hI.t10, hI.t11, hI.t12, hI.t13, hI.t14, hI.t15, hI.t16, hI.t17, hI.t18, hI.t19, hI.t20, hI.t21, hI.t22, hI.t23, hI.t24, hI.t25, hI.t26, hI.t27, hI.t28, hI.t29, hI.t30, hI.t31, fun _ => rfl, fun _ => rfl, hI.t34, hI.t35, hI.t36, hI.t37, hI.t38, hI.t39, hI.t40, hI.t41, hI.t42, hI.t43, hI.t44, hI.t45, hI.t46, hI.t47, hI.t48, hI.t49, hI.t50, hI.t51, hI.t52, hI.t53, hI.t54, hI.t55, hI.t56, hI.bw⟩⟩
  · rintro L a wx ⟨v, rfl, hI⟩ hL hdep hcl K hK
    have e33 := hI.t33 (hdep 33 (by decide))
    have e32 := hI.t32 (hdep 32 (by decide))
    rw [e33, e32]
    refine (if_pos rfl).mpr ?_
    go_simp
    exact hK _ _ ⟨(upd (upd (upd v 83 (.slice (some ⟨g12, 0, none⟩) 2 2)) 82 (.bool false)) 84 (.int .i64 (2 : Int))), rfl, ⟨hI.t0, hI.t1, hI.t2, hI.t3, hI.t4, hI.t5, hI.t6, hI.t7, hI.t8, hI.t9, hI.t10, hI.t11, hI.t12, hI.t13, hI.t14, hI.t15, hI.t16, hI.t17, hI.t18, hI.t19, hI.t20, hI.t21, hI.t22, hI.t23, hI.t24, hI.t25, hI.t26, hI.t27, hI.t28, hI.t29, hI.t30, hI.t31, fun _ => rfl, fun _ => rfl, fun _ => rfl, hI.t35, hI.t36, hI.t37, hI.t38, hI.t39, hI.t40, hI.t41, hI.t42, hI.t43, hI.t44, hI.t45, hI.t46, hI.t47, hI.t48, hI.t49, hI.t50, hI.t51, hI.t52, hI.t53, hI.t54, hI.t55, hI.t56, hI.bw⟩⟩
  · rintro L a wx ⟨v, rfl, hI⟩ hL hdep hcl K hK
    have e34 := hI.t34 (hdep 34 (by decide))
    have e32 := hI.t32 (hdep 32 (by decide))
    rw [e34, e32]
    refine (if_pos rfl).mpr ?_
    go_simp
    exact hK _ _ ⟨(upd (upd (upd v 84 (.int .i64 (2 : Int))) 82 (.bool false)) 85 (.bool false)), rfl, ⟨hI.t0, hI.t1, hI.t2, hI.t3, hI.t4, hI.t5, hI.t6, hI.t7, hI.t8, hI.t9, hI.t10, hI.t11, hI.t12, hI.t13, hI.t14, hI.t15, hI.t16, hI.t17, hI.t18, hI.t19, hI.t20, hI.t21, hI.t22, hI.t23, hI.t24, hI.t25, hI.t26, hI.t27, hI.t28, hI.t29, hI.t30, hI.t31, fun _ => rfl, hI.t33, fun _ => rfl, fun _ => rfl, hI.t36, hI.t37, hI.t38, hI.t39, hI.t40, hI.t41, hI.t42, hI.t43, hI.t44, hI.t45, hI.t46, hI.t47, hI.t48, hI.t49, hI.t50, hI.t51, hI.t52, hI.t53, hI.t54, hI.t55, hI.t56, hI.bw⟩⟩
  · rintro L a wx ⟨v, rfl, hI⟩ hL hdep hcl K hK
    have e32 := hI.t32 (hdep 32 (by decide))
    have e35 := hI.t35 (hdep 35 (by decide))
    rw [e32, e35]
    go_simp
    exact hK _ _ ⟨(upd (upd (upd v 82 (.bool false)) 85 (.bool false)) 86 (.bool false)), rfl, ⟨hI.t0, hI.t1, hI.t2, hI.t3, hI.t4, hI.t5, hI.t6, hI.t7, hI.t8, hI.t9, hI.t10, hI.t11, hI.t12, hI.t13, hI.t14, hI.t15, hI.t16, hI.t17, hI.t18, hI.t19, hI.t20, hI.t21, hI.t22, hI.t23, hI.t24, hI.t25, hI.t26, hI.t27, hI.t28, hI.t29, hI.t30, hI.t31, fun _ => rfl, hI.t33, hI.t34, fun _ => rfl, fun _ => rfl, hI.t37, hI.t38, hI.t39, hI.t40, hI.t41, hI.t42, hI.t43, hI.t44, hI.t45, hI.t46, hI.t47, hI.t48, hI.t49, hI.t50, hI.t51, hI.t52, hI.t53, hI.t54, hI.t55, hI.t56, hI.bw⟩⟩
  · rintro L a wx ⟨v, rfl, hI⟩ hL hdep hcl K hK
    have e36 := hI.t36 (hdep 36 (by decide))
    rw [e36]
    go_simp
    exact hK _ _ ⟨(upd (upd v 86 (.bool false)) 87 (.bool false)), rfl, ⟨hI.t0, hI.t1, hI.t2, hI.t3, hI.t4, hI.t5, hI.t6, hI.t7, hI.t8, hI.t9, hI.t10, hI.t11, hI.t12, hI.t13, hI.t14, hI.t15, hI.t16, hI.t17, hI.t18, hI.t19, hI.t20, hI.t21, hI.t22, hI.t23, hI.t24, hI.t25, hI.t26, hI.t27, hI.t28, hI.t29, hI.t30, hI.t31, hI.t32, hI.t33, hI.t34, hI.t35, fun _ => rfl, fun _ => rfl, hI.t38, hI.t39, hI.t40, hI.t41, hI.t42, hI.t43, hI.t44, hI.t45, hI.t46, hI.t47, hI.t48, hI.t49, hI.t50, hI.t51, hI.t52, hI.t53, hI.t54, hI.t55, hI.t56, hI.bw⟩⟩
  · rintro L a wx ⟨v, rfl, hI⟩ hL hdep hcl K hK
    have e37 := hI.t37 (hdep 37 (by decide))
    rw [e37]
    refine (if_pos rfl).mpr ?_
    go_simp
    exact hK _ _ ⟨(upd (upd v 87 (.bool false)) 88 (.slice (some ⟨g12, 0, none⟩) 2 2)), rfl, ⟨hI.t0, hI.t1, hI.t2, hI.t3, hI.t4, hI.t5, hI.t6, hI.t7, hI.t8, hI.t9, hI.t10, hI.t11, hI.t12, hI.t13, hI.t14, hI.t15, hI.t16, hI.t17, hI.t18, hI.t19, hI.t20, hI.t21, hI.t22, hI.t23, hI.t24, hI.t25, hI.t26, hI.t27, hI.t28, hI.t29, hI.t30, hI.t31, hI.t32, hI.t33, hI.t34, hI.t35, hI.t36, fun _ => rfl, fun _ => rfl, hI.t39, hI.t40, hI.t41, hI.t42, hI.t43, hI.t44, hI.t45, hI.t46, hI.t47, hI.t48, hI.t49, hI.t50, hI.t51, hI.t52, hI.t53, hI.t54, hI.t55, hI.t56, hI.bw⟩⟩
  · rintro L a wx ⟨v, rfl, hI⟩ hL hdep hcl K hK
    have e38 := hI.t38 (hdep 38 (by decide))
    have e37 := hI.t37 (hdep 37 (by decide))
    rw [e38, e37]
    refine (if_pos rfl).mpr ?_
    go_simp
    exact hK _ _ ⟨(upd (upd (upd v 88 (.slice (some ⟨g12, 0, none⟩) 2 2)) 87 (.bool false)) 89 (.pointer (some ⟨g12, 0, none⟩))), rfl, ⟨hI.t0, hI.t1, hI.t2, hI.t3, hI.t4, hI.t5, hI.t6, hI.t7, hI.t8, hI.t9, hI.t10, hI.t11, hI.t12, hI.t13, hI.t14, hI.t15, hI.t16, hI.t17, hI.t18, hI.t19, hI.t20, hI.t21, hI.t22, hI.t23, hI.t24, hI.t25, hI.t26, hI.t27, hI.t28, hI.t29, hI.t30, hI.t31, hI.t32, hI.t33, hI.t34, hI.t35, hI.t36, fun _ => rfl, fun _ => rfl, fun _ => rfl, hI.t40, hI.t41, hI.t42, hI.t43, hI.t44, hI.t45, hI.t46, hI.t47, hI.t48, hI.t49, hI.t50, hI.t51, hI.t52, hI.t53, hI.t54, hI.t55, hI.t56, hI.bw⟩⟩
  · rintro L a wx ⟨v, rfl, hI⟩ hL hdep hcl K hK
    have e39 := hI.t39 (hdep 39 (by decide))
    have e37 := hI.t37 (hdep 37 (by decide))
    rw [e39, e37]
    refine (if_pos rfl).mpr ?_
    refine wp_load_mid 29 _ rfl g12 0 rfl (bvs NAB) (.array 32 5) (R12.out wx hI.bw) Try.underlying29 rfl IAB.out ?_
    exact hK _ _ ⟨(upd (upd (upd v 89 (.pointer (some ⟨g12, 0, none⟩))) 87 (.bool false)) 90 (.agg (bvs NAB).toArray)), rfl, ⟨hI.t0, hI.t1, hI.t2, hI.t3, hI.t4, hI.t5, hI.t6, hI.t7, hI.t8, hI.t9, hI.t10, hI.t11, hI.t12, hI.t13, hI.t14, hI.t15, hI.t16, hI.t17, hI.t18, hI.t19, hI.t20, hI.t21, hI.t22, hI.t23, hI.t24, hI.t25, hI.t26, hI.t27, hI.t28, hI.t29, hI.t30, hI.t31, hI.t32, hI.t33, hI.t34, hI.t35, hI.t36, fun _ => rfl, hI.t38, fun _ => rfl, fun _ => rfl, hI.t41, hI.t42, hI.t43, hI.t44, hI.t45, hI.t46, hI.t47, hI.t48, hI.t49, hI.t50, hI.t51, hI.t52, hI.t53, hI.t54, hI.t55, hI.t56, hI.bw⟩⟩
  · rintro L a wx ⟨v, rfl, hI⟩ hL hdep hcl K hK
    have e37 := hI.t37 (hdep 37 (by decide))
    rw [e37]
    refine (if_pos rfl).mpr ?_
    refine ow_load 29 _ rfl g11 0 rfl 29 (bvs NAB) (bvs NAB) (HG11.out wx hI.bw) (fun j v h => by rw [Nat.zero_add]; exact h) (.array 32 5) Try.underlying29 rfl IAB.out ?_
    exact hK _ _ ⟨(upd (upd v 87 (.bool false)) 91 (.agg (bvs NAB).toArray)), rfl, ⟨hI.t0, hI.t1, hI.t2, hI.t3, hI.t4, hI.t5, hI.t6, hI.t7, hI.t8, hI.t9, hI.t10, hI.t11, hI.t12, hI.t13, hI.t14, hI.t15, hI.t16, hI.t17, hI.t18, hI.t19, hI.t20, hI.t21, hI.t22, hI.t23, hI.t24, hI.t25, hI.t26, hI.t27, hI.t28, hI.t29, hI.t30, hI.t31, hI.t32, hI.t33, hI.t34, hI.t35, hI.t36, fun _ => rfl, hI.t38, hI.t39, hI.t40, fun _ => rfl, hI.t42, hI.t43, hI.t44, hI.t45, hI.t46, hI.t47, hI.t48, hI.t49, hI.t50, hI.t51, hI.t52, hI.t53, hI.t54, hI.t55, hI.t56, hI.bw⟩⟩
  · rintro L a wx ⟨v, rfl, hI⟩ hL hdep hcl K hK
    have e40 := hI.t40 (hdep 40 (by decide))
    have e41 := hI.t41 (hdep 41 (by decide))
    have e37 := hI.t37 (hdep 37 (by decide))
    rw [e40, e41, e37]
    refine (if_pos rfl).mpr ?_
    refine ow_neSame _ _ _ rfl NAB LAB.out rfl rfl ?_
    exact hK _ _ ⟨(upd (upd (upd (upd v 90 (.agg (bvs NAB).toArray)) 91 (.agg (bvs NAB).toArray)) 87 (.bool false)) 92 (.bool false)), rfl, ⟨hI.t0, hI.t1, hI.t2, hI.t3, hI.t4, hI.t5, hI.t6, hI.t7, hI.t8, hI.t9, hI.t10, hI.t11, hI.t12, hI.t13, hI.t14, hI.t15, hI.t16, hI.t17, hI.t18, hI.t19, hI.t20, hI.t21, hI.t22, hI.t23, hI.t24, hI.t25, hI.t26, hI.t27, hI.t28, hI.t29, hI.t30, hI.t31, hI.t32, hI.t33, hI.t34, hI.t35, hI.t36, fun _ => rfl, hI.t38, hI.t39, fun _ => rfl, fun _ => rfl, fun _ => rfl, hI.t43, hI.t44, hI.t45, hI.t46, hI.t47, hI.t48, hI.t49, hI.t50, hI.t51, hI.t52, hI.t53, hI.t54, hI.t55, hI.t56, hI.bw⟩⟩
  · rintro L a wx ⟨v, rfl, hI⟩ hL hdep hcl K hK
    have e37 := hI.t37 (hdep 37 (by decide))
    have e42 := hI.t42 (hdep 42 (by decide))
    rw [e37, e42]
    go_simp
    exact hK _ _ ⟨(upd (upd (upd v 87 (.bool false)) 92 (.bool false)) 93 (.bool false)), rfl, ⟨hI.t0, hI.t1, hI.t2, hI.t3, hI.t4, hI.t5, hI.t6, hI.t7, hI.t8, hI.t9, hI.t10, hI.t11, hI.t12, hI.t13, hI.t14, hI.t15, hI.t16, hI.t17, hI.t18, hI.t19, hI.t20, hI.t21, hI.t22, hI.t23, hI.t24, hI.t25, hI.t26, hI.t27, hI.t28, hI.t29, hI.t30, hI.t31, hI.t32, hI.t33, hI.t34, hI.t35, hI.t36, fun _ => rfl, hI.t38, hI.t39, hI.t40, hI.t41, fun _ => rfl, fun _ => rfl, hI.t44, hI.t45, hI.t46, hI.t47, hI.t48, hI.t49, hI.t50, hI.t51, hI.t52, hI.t53, hI.t54, hI.t55, hI.t56, hI.bw⟩⟩
  · rintro L a wx ⟨v, rfl, hI⟩ hL hdep hcl K hK
    have e43 := hI.t43 (hdep 43 (by decide))
    rw [e43]
    go_simp
    exact hK _ _ ⟨(upd (upd v 93 (.bool false)) 94 (.bool false)), rfl, ⟨hI.t0, hI.t1, hI.t2, hI.t3, hI.t4, hI.t5, hI.t6, hI.t7, hI.t8, hI.t9, hI.t10, hI.t11, hI.t12, hI.t13, hI.t14, hI.t15, hI.t16, hI.t17, hI.t18, hI.t19, hI.t20, hI.t21, hI.t22, hI.t23, hI.t24, hI.t25, hI.t26, hI.t27, hI.t28, hI.t29, hI.t30, hI.t31, hI.t32, hI.t33, hI.t34, hI.t35, hI.t36, hI.t37, hI.t38, hI.t39, hI.t40, hI.t41, hI.t42, fun _ => rfl, fun _ => rfl, hI.t45, hI.t46, hI.t47, hI.t48, hI.t49, hI.t50, hI.t51, hI.t52, hI.t53, hI.t54, hI.t55, hI.t56, hI.bw⟩⟩
  · rintro L a wx ⟨v, rfl, hI⟩ hL hdep hcl K hK
    have e44 := hI.t44 (hdep 44 (by decide))
    rw [e44]
    refine (if_pos rfl).mpr ?_
    go_simp
    exact hK _ _ ⟨(upd (upd v 94 (.bool false)) 95 (.pointer (some ⟨r, 0, none⟩))), rfl, ⟨hI.t0, hI.t1, hI.t2, hI.t3, hI.t4, hI.t5, hI.t6, hI.t7, hI.t8, hI.t9, hI.t10, hI.t11, hI.t12, hI.t13, hI.t14, hI.t15, hI.t16, hI.t17, hI.t18, hI.t19, hI.t20, hI.t21, hI.t22, hI.t23, hI.t24, hI.t25, hI.t26, hI.t27, hI.t28, hI.t29, hI.t30, hI.t31, hI.t32, hI.t33, hI.t34, hI.t35, hI.t36, hI.t37, hI.t38, hI.t39, hI.t40, hI.t41, hI.t42, hI.t43, fun _ => rfl, fun _ => rfl, hI.t46, hI.t47, hI.t48, hI.t49, hI.t50, hI.t51, hI.t52, hI.t53, hI.t54, hI.t55, hI.t56, hI.bw⟩⟩
  · rintro L a wx ⟨v, rfl, hI⟩ hL hdep hcl K hK
    have e45 := hI.t45 (hdep 45 (by decide))
    have e44 := hI.t44 (hdep 44 (by decide))
    rw [e45, e44]
    refine (if_pos rfl).mpr ?_
    have HCC := HRT.out wx hI.bw
    go_simp
    refine HCC.mono ?_
    rintro e w' ⟨rfl, hb⟩
    exact hK _ _ ⟨(upd (upd (upd v 95 (.pointer (some ⟨r, 0, none⟩))) 94 (.bool false)) 96 (.agg (bvs NR).toArray)), rfl, ⟨hI.t0, hI.t1, hI.t2, hI.t3, hI.t4, hI.t5, hI.t6, hI.t7, hI.t8, hI.t9, hI.t10, hI.t11, hI.t12, hI.t13, hI.t14, hI.t15, hI.t16, hI.t17, hI.t18, hI.t19, hI.t20, hI.t21, hI.t22, hI.t23, hI.t24, hI.t25, hI.t26, hI.t27, hI.t28, hI.t29, hI.t30, hI.t31, hI.t32, hI.t33, hI.t34, hI.t35, hI.t36, hI.t37, hI.t38, hI.t39, hI.t40, hI.t41, hI.t42, hI.t43, fun _ => rfl, fun _ => rfl, fun _ => rfl, hI.t47, hI.t48, hI.t49, hI.t50, hI.t51, hI.t52, hI.t53, hI.t54, hI.t55, hI.t56, (hI.bw).trans (hb.mono (hI.bw).size)⟩⟩
  · rintro L a wx ⟨v, rfl, hI⟩ hL hdep hcl K hK
    have e44 := hI.t44 (hdep 44 (by decide))
    rw [e44]
    refine (if_pos rfl).mpr ?_
    refine ow_load 29 _ rfl g11 0 rfl 29 (bvs NAB) (bvs NAB) (HG11.out wx hI.bw) (fun j v h => by rw [Nat.zero_add]; exact h) (.array 32 5) Try.underlying29 rfl IAB.out ?_
    exact hK _ _ ⟨(upd (upd v 94 (.bool false)) 97 (.agg (bvs NAB).toArray)), rfl, ⟨hI.t0, hI.t1, hI.t2, hI.t3, hI.t4, hI.t5, hI.t6, hI.t7, hI.t8, hI.t9, hI.t10, hI.t11, hI.t12, hI.t13, hI.t14, hI.t15, hI.t16, hI.t17, hI.t18, hI.t19, hI.t20, hI.t21, hI.t22, hI.t23, hI.t24, hI.t25, hI.t26, hI.t27, hI.t28, hI.t29, hI.t30, hI.t31, hI.t32, hI.t33, hI.t34, hI.t35, hI.t36, hI.t37, hI.t38, hI.t39, hI.t40, hI.t41, hI.t42, hI.t43, fun _ => rfl, hI.t45, hI.t46, fun _ => rfl, hI.t48, hI.t49, hI.t50, hI.t51, hI.t52, hI.t53, hI.t54, hI.t55, hI.t56, hI.bw⟩⟩
  · rintro L a wx ⟨v, rfl, hI⟩ hL hdep hcl K hK
    have e44 := hI.t44 (hdep 44 (by decide))
    rw [e44]
    refine (if_pos rfl).mpr ?_
    refine ow_load 29 _ rfl g3 0 rfl 29 (bvs HC) (bvs HC) (HG3.out wx hI.bw) (fun j v h => by rw [Nat.zero_add]; exact h) (.array 32 5) Try.underlying29 rfl IC.out ?_
    exact hK _ _ ⟨(upd (upd v 94 (.bool false)) 98 (.agg (bvs HC).toArray)), rfl, ⟨hI.t0, hI.t1, hI.t2, hI.t3, hI.t4, hI.t5, hI.t6, hI.t7, hI.t8, hI.t9, hI.t10, hI.t11, hI.t12, hI.t13, hI.t14, hI.t15, hI.t16, hI.t17, hI.t18, hI.t19, hI.t20, hI.t21, hI.t22, hI.t23, hI.t24, hI.t25, hI.t26, hI.t27, hI.t28, hI.t29, hI.t30, hI.t31, hI.t32, hI.t33, hI.t34, hI.t35, hI.t36, hI.t37, hI.t38, hI.t39, hI.t40, hI.t41, hI.t42, hI.t43, fun _ => rfl, hI.t45, hI.t46, hI.t47, fun _ => rfl, hI.t49, hI.t50, hI.t51, hI.t52, hI.t53, hI.t54, hI.t55, hI.t56, hI.bw⟩⟩
  · rintro L a wx ⟨v, rfl, hI⟩ hL hdep hcl K hK
    have e47 := hI.t47 (hdep 47 (by decide))
    have e48 := hI.t48 (hdep 48 (by decide))
    have e44 := hI.t44 (hdep 44 (by decide))
    rw [e47, e48, e44]
    refine (if_pos rfl).mpr ?_
    have HCC := HNR.out wx
    go_simp
    refine HCC.mono ?_
    rintro e w' ⟨rfl, hb⟩
    exact hK _ _ ⟨(upd (upd (upd (upd v 97 (.agg (bvs NAB).toArray)) 98 (.agg (bvs HC).toArray)) 94 (.bool false)) 99 (.agg (bvs NR).toArray)), rfl, ⟨hI.t0, hI.t1, hI.t2, hI.t3, hI.t4, hI.t5, hI.t6, hI.t7, hI.t8, hI.t9, hI.t10, hI.t11, hI.t12, hI.t13, hI.t14, hI.t15, hI.t16, hI.t17, hI.t18, hI.t19, hI.t20, hI.t21, hI.t22, hI.t23, hI.t24, hI.t25, hI.t26, hI.t27, hI.t28, hI.t29, hI.t30, hI.t31, hI.t32, hI.t33, hI.t34, hI.t35, hI.t36, hI.t37, hI.t38, hI.t39, hI.t40, hI.t41, hI.t42, hI.t43, fun _ => rfl, hI.t45, hI.t46, fun _ => rfl, fun _ => rfl, fun _ => rfl, hI.t50, hI.t51, hI.t52, hI.t53, hI.t54, hI.t55, hI.t56, (hI.bw).trans (hb.mono (hI.bw).size)⟩⟩
  · rintro L a wx ⟨v, rfl, hI⟩ hL hdep hcl K hK
    have e46 := hI.t46 (hdep 46 (by decide))
    have e49 := hI.t49 (hdep 49 (by decide))
    have e44 := hI.t44 (hdep 44 (by decide))
    rw [e46, e49, e44]
    refine (if_pos rfl).mpr ?_
    refine ow_neSame _ _ _ rfl NR LR.out rfl rfl ?_
    exact hK _ _ ⟨(upd (upd (upd (upd v 96 (.agg (bvs NR).toArray)) 99 (.agg (bvs NR).toArray)) 94 (.bool false)) 100 (.bool false)), rfl, ⟨hI.t0, hI.t1, hI.t2, hI.t3, hI.t4, hI.t5, hI.t6, hI.t7, hI.t8, hI.t9, hI.t10, hI.t11, hI.t12, hI.t13, hI.t14, hI.t15, hI.t16, hI.t17, hI.t18, hI.t19, hI.t20, hI.t21, hI.t22, hI.t23, hI.t24, hI.t25, hI.t26, hI.t27, hI.t28, hI.t29, hI.t30, hI.t31, hI.t32, hI.t33, hI.t34, hI.t35, hI.t36, hI.t37, hI.t38, hI.t39, hI.t40, hI.t41, hI.t42, hI.t43, fun _ => rfl, hI.t45, fun _ => rfl, hI.t47, hI.t48, fun _ => rfl, fun _ => rfl, hI.t51, hI.t52, hI.t53, hI.t54, hI.t55, hI.t56, hI.bw⟩⟩
  · rintro L a wx ⟨v, rfl, hI⟩ hL hdep hcl K hK
    have e44 := hI.t44 (hdep 44 (by decide))
    have e50 := hI.t50 (hdep 50 (by decide))
    rw [e44, e50]
    go_simp
    exact hK _ _ ⟨(upd (upd (upd v 94 (.bool false)) 100 (.bool false)) 101 (.bool false)), rfl, ⟨hI.t0, hI.t1, hI.t2, hI.t3, hI.t4, hI.t5, hI.t6, hI.t7, hI.t8, hI.t9, hI.t10, hI.t11, hI.t12, hI.t13, hI.t14, hI.t15, hI.t16, hI.t17, hI.t18, hI.t19, hI.t20, hI.t21, hI.t22, hI.t23, hI.t24, hI.t25, hI.t26, hI.t27, hI.t28, hI.t29, hI.t30, hI.t31, hI.t32, hI.t33, hI.t34, hI.t35, hI.t36, hI.t37, hI.t38, hI.t39, hI.t40, hI.t41, hI.t42, hI.t43, fun _ => rfl, hI.t45, hI.t46, hI.t47, hI.t48, hI.t49, fun _ => rfl, fun _ => rfl, hI.t52, hI.t53, hI.t54, hI.t55, hI.t56, hI.bw⟩⟩
  · rintro L a wx ⟨v, rfl, hI⟩ hL hdep hcl K hK
    have e51 := hI.t51 (hdep 51 (by decide))
    rw [e51]
    go_simp
    exact hK _ _ ⟨(upd (upd v 101 (.bool false)) 102 (.bool false)), rfl, ⟨hI.t0, hI.t1, hI.t2, hI.t3, hI.t4, hI.t5, hI.t6, hI.t7, hI.t8, hI.t9, hI.t10, hI.t11, hI.t12, hI.t13, hI.t14, hI.t15, hI.t16, hI.t17, hI.t18, hI.t19, hI.t20, hI.t21, hI.t22, hI.t23, hI.t24, hI.t25, hI.t26, hI.t27, hI.t28, hI.t29, hI.t30, hI.t31, hI.t32, hI.t33, hI.t34, hI.t35, hI.t36, hI.t37, hI.t38, hI.t39, hI.t40, hI.t41, hI.t42, hI.t43, hI.t44, hI.t45, hI.t46, hI.t47, hI.t48, hI.t49, hI.t50, fun _ => rfl, fun _ => rfl, hI.t53, hI.t54, hI.t55, hI.t56, hI.bw⟩⟩
  · rintro L a wx ⟨v, rfl, hI⟩ hL hdep hcl K hK
    have e52 := hI.t52 (hdep 52 (by decide))
    rw [e52]
    refine (if_pos rfl).mpr ?_
    go_simp
    exact hK _ _ ⟨(upd (upd v 102 (.bool false)) 103 (.pointer (some ⟨r, 0, none⟩))), rfl, ⟨hI.t0, hI.t1, hI.t2, hI.t3, hI.t4, hI.t5, hI.t6, hI.t7, hI.t8, hI.t9, hI.t10, hI.t11, hI.t12, hI.t13, hI.t14, hI.t15, hI.t16, hI.t17, hI.t18, hI.t19, hI.t20, hI.t21, hI.t22, hI.t23, hI.t24, hI.t25, hI.t26, hI.t27, hI.t28, hI.t29, hI.t30, hI.t31, hI.t32, hI.t33, hI.t34, hI.t35, hI.t36, hI.t37, hI.t38, hI.t39, hI.t40, hI.t41, hI.t42, hI.t43, hI.t44, hI.t45, hI.t46, hI.t47, hI.t48, hI.t49, hI.t50, hI.t51, fun _ => rfl, fun _ => rfl, hI.t54, hI.t55, hI.t56, hI.bw⟩⟩
  · rintro L a wx ⟨v, rfl, hI⟩ hL hdep hcl K hK
    have e53 := hI.t53 (hdep 53 (by decide))
    have e52 := hI.t52 (hdep 52 (by decide))
    rw [e53, e52]
    refine (if_pos rfl).mpr ?_
    have HCC := HSZ.out wx hI.bw
    go_simp
    refine HCC.mono ?_
    rintro e w' ⟨rfl, rfl⟩
    exact hK _ _ ⟨(upd (upd (upd v 103 (.pointer (some ⟨r, 0, none⟩))) 102 (.bool false)) 104 (.int .u64 (3 : Int))), rfl, ⟨hI.t0, hI.t1, hI.t2, hI.t3, hI.t4, hI.t5, hI.t6, hI.t7, hI.t8, hI.t9, hI.t10, hI.t11, hI.t12, hI.t13, hI.t14, hI.t15, hI.t16, hI.t17, hI.t18, hI.t19, hI.t20, hI.t21, hI.t22, hI.t23, hI.t24, hI.t25, hI.t26, hI.t27, hI.t28, hI.t29, hI.t30, hI.t31, hI.t32, hI.t33, hI.t34, hI.t35, hI.t36, hI.t37, hI.t38, hI.t39, hI.t40, hI.t41, hI.t42, hI.t43, hI.t44, hI.t45, hI.t46, hI.t47, hI.t48, hI.t49, hI.t50, hI.t51, fun _ => rfl, fun _ => rfl, fun _ => rfl, hI.t55, hI.t56, hI.bw⟩⟩
  · rintro L a wx ⟨v, rfl, hI⟩ hL hdep hcl K hK
    have e54 := hI.t54 (hdep 54 (by decide))
    have e52 := hI.t52 (hdep 52 (by decide))
    rw [e54, e52]
    refine (if_pos rfl).mpr ?_
    go_simp
    exact hK _ _ ⟨(upd (upd (upd v 104 (.int .u64 (3 : Int))) 102 (.bool false)) 105 (.bool false)), rfl, ⟨hI.t0, hI.t1, hI.t2, hI.t3, hI.t4, hI.t5, hI.t6, hI.t7, hI.t8, hI.t9, hI.t10, hI.t11, hI.t12, hI.t13, hI.t14, hI.t15, hI.t16, hI.t17, hI.t18, hI.t19, hI.t20, hI.t21, hI.t22, hI.t23, hI.t24, hI.t25, hI.t26, hI.t27, hI.t28, hI.t29, hI.t30, hI.t31, hI.t32, hI.t33, hI.t34, hI.t35, hI.t36, hI.t37, hI.t38, hI.t39, hI.t40, hI.t41, hI.t42, hI.t43, hI.t44, hI.t45, hI.t46, hI.t47, hI.t48, hI.t49, hI.t50, hI.t51, fun _ => rfl, hI.t53, fun _ => rfl, fun _ => rfl, hI.t56, hI.bw⟩⟩
  · rintro L a wx ⟨v, rfl, hI⟩ hL hdep hcl K hK
    have e52 := hI.t52 (hdep 52 (by decide))
    have e55 := hI.t55 (hdep 55 (by decide))
    rw [e52, e55]
    go_simp
    exact hK _ _ ⟨(upd (upd (upd v 102 (.bool false)) 105 (.bool false)) 106 (.bool false)), rfl, ⟨hI.t0, hI.t1, hI.t2, hI.t3, hI.t4, hI.t5, hI.t6, hI.t7, hI.t8, hI.t9, hI.t10, hI.t11, hI.t12, hI.t13, hI.t14, hI.t15, hI.t16, hI.t17, hI.t18, hI.t19, hI.t20, hI.t21, hI.t22, hI.t23, hI.t24, hI.t25, hI.t26, hI.t27, hI.t28, hI.t29, hI.t30, hI.t31, hI.t32, hI.t33, hI.t34, hI.t35, hI.t36, hI.t37, hI.t38, hI.t39, hI.t40, hI.t41, hI.t42, hI.t43, hI.t44, hI.t45, hI.t46, hI.t47, hI.t48, hI.t49, hI.t50, hI.t51, fun _ => rfl, hI.t53, hI.t54, fun _ => rfl, fun _ => rfl, hI.bw⟩⟩
  · rintro a wx ⟨vF, rfl, hI⟩
    have e := hI.t56 rfl
    have hbw := hI.bw
    clear hI
    rw [e]
    have hP15 := hP14.kept hbw
    have hI15 := hI14.to hbw
    have E15 : Below w.heap.size w wx := E14.trans (hbw.mono E14.size)
    obtain ⟨w15, hw15⟩ : ∃ W, W = wx := ⟨_, rfl⟩
    rw [← hw15] at hP15 hI15 E15 ⊢
    have HFR : Hid (∀ W, Below w15.heap.size w15 W → Calls Try.prog 14 #[.slice (some ⟨g12, 0, none⟩) 2 2, .int .u64 3] W fun e w' => ∃ p, e = .returned (.tuple #[.pointer (some ⟨p, 0, none⟩), .int .i64 0]) ∧ IsR (fun b => W.heap.size ≤ b) w' p 3 [NAB, HC] ∧ W.heap.size ≤ p ∧ Below W.heap.size W w') := fun W hb => by
      have h1 := From_any [NAB, HC] (some ⟨g12, 0, none⟩) 2 3 W (rdd_arr' (n := 2) (hP15.kept hb) (All32.of (by simp [LAB.out, LC.out])) rfl) (by omega) (by rw [P3.out]; rfl)
      exact h1
    have HFN : Hid (∀ W, Calls Try.prog 14 #[.slice (some ⟨g12, 0, none⟩) 2 2, .int .u64 2] W fun e w' => e = .returned (.tuple #[.pointer none, .int .i64 1]) ∧ W = w') := fun W => by
      have h1 := From_no 2 (some ⟨g12, 0, none⟩) 2 2 W (.inr ⟨by omega, by rw [P2.out]; omega⟩)
      exact h1
    clear hw15 HG11 HG3 RY R12 HRT HSZ G11 G3 hOy14 hI14 E14 hP14 hbw e
    go_upto_region 11 with (go_at_call 14; with_reducible refine (HFR.out _ (Below.refl _ _)).mono ?_; rintro e w16 ⟨s, rfl, hS16, hs16, hb16⟩)
    have hI16 := hI15.to hb16
    have E16 : Below w.heap.size w w16 := E15.trans (hb16.mono E15.size)
    go_simp
    go_upto_region 12 with (go_at_call 14; with_reducible refine (HFN.out _).mono ?_; rintro e w17 ⟨rfl, hw17⟩; obtain rfl := hw17)
    have HRS : Hid (∀ W, Below w16.heap.size w16 W → Calls Try.prog 17 #[.pointer (some ⟨s, 0, none⟩)] W fun e w' => e = .returned (.agg (bvs NR).toArray) ∧ Below W.heap.size W w') := fun W hb => by
      have h1 := Root_all s 3 [NAB, HC] W (hS16.to hb)
      rwa [HFO.out] at h1
    have HRR : Hid (∀ W, Below w16.heap.size w16 W → Calls Try.prog 17 #[.pointer (some ⟨r, 0, none⟩)] W fun e w' => e = .returned (.agg (bvs NR).toArray) ∧ Below W.heap.size W w') := fun W hb => by
      have h1 := Root_all r 3 [NAB, HC] W (hI16.to hb)
      rwa [HFO.out] at h1
    have hqe := eqD LR.out LR.out
    have hqe2 := fun w => eqSame LR.out w
    clear hP15 hI15 E15 hb16 HFR HFN hI16 hS16
    go_simp
    go_wp2_with (first
      | (go_at_call 17; with_reducible refine (HRS.out _ (Below.refl _ _)).mono ?_; rintro e w18 ⟨rfl, hb18⟩)
      | (go_at_call 17; with_reducible refine (HRR.out _ hb18).mono ?_; rintro e w19 ⟨rfl, hb19⟩))
    go_ret
    exact ⟨by simp, E16.trans ((hb18.trans (hb19.mono hb18.size)).mono E16.size)⟩
end Go.Proofs.Ytlfncgpjgbpdjaa

namespace Go.Proofs.Ytlfncgpjgbpdjaa
open Go.RowKit

theorem Size_no (v : Value) (w : World) (hI : Calls Try.prog 21 #[v] w fun e w' => e = .returned (.bool false) ∧ w = w') :
    Calls Try.prog 13 #[v] w fun e w' => e = .returned (.int .u64 0) ∧ w = w' := by
  have HI := Lib.hid hI
  clear hI
  go_enter Try.func13, Try.ntmps13
  go_wp2_with (go_at_call 21; refine (HI.out).mono ?_; rintro e w1 ⟨rfl, rfl⟩)
  go_ret
  exact ⟨rfl, rfl⟩
theorem Peaks_no (v : Value) (w : World) (hI : Calls Try.prog 21 #[v] w fun e w' => e = .returned (.bool false) ∧ w = w') :
    Calls Try.prog 12 #[v] w fun e w' => e = .returned (.slice none 0 0) ∧ w = w' := by
  have HI := Lib.hid hI
  clear hI
  go_enter Try.func12, Try.ntmps12
  go_wp2_with (go_at_call 21; refine (HI.out).mono ?_; rintro e w1 ⟨rfl, rfl⟩)
  go_ret
  exact ⟨rfl, rfl⟩
theorem Copy_no (v : Value) (w : World) (hI : Calls Try.prog 21 #[v] w fun e w' => e = .returned (.bool false) ∧ w = w') :
    Calls Try.prog 8 #[v] w fun e w' => e = .returned (.pointer none) ∧ w = w' := by
  have HI := Lib.hid hI
  clear hI
  go_enter Try.func8, Try.ntmps8
  go_wp2_with (go_at_call 21; refine (HI.out).mono ?_; rintro e w1 ⟨rfl, rfl⟩)
  go_ret
  exact ⟨rfl, rfl⟩
theorem Add_no (v : Value) (d : List UInt8) (w : World) (hI : ∀ wx, Below w.heap.size w wx → Calls Try.prog 21 #[v] wx fun e w' => e = .returned (.bool false) ∧ wx = w') :
    Calls Try.prog 9 #[v, .agg (bvs d).toArray] w fun e w' => e = .returned (.tuple #[.slice none 0 0, .int .i64 2]) ∧ Below w.heap.size w w' := by
  have HI := Lib.hid hI
  clear hI
  go_enter Try.func9, Try.ntmps9
  go_wp2_with (first
    | ((with_reducible show wpList _ _ _ (⟨some 3, .box _ _, _, _, _, _⟩ :: _) _ _); refine wl_box rfl 29 _ rfl (bvs d) rfl ?_; intro w1 hA1 hb1 hs1)
    | (go_at_call 21; refine (HI.out _ hb1).mono ?_; rintro e w0 ⟨rfl, rfl⟩))
  go_ret2
  exact ⟨rfl, hb1⟩
section
variable {o : Oper} {a : Act} {Q : Exit → Act → World → Prop} {w : World} {ops : Array Oper} {rest : List Oper}
/-- a row of two hashes, written out -/
theorem wl_litD2 (hg : o.guard = none) (i j : Nat) (ho : o.op = .buildSlice 30 2 #[(0, .tmp i), (1, .tmp j)]) (x y : List UInt8) (hx : x.length = 32) (hy : y.length = 32)
    (h1 : a.eval (.tmp i) = .agg (bvs x).toArray) (h2 : a.eval (.tmp j) = .agg (bvs y).toArray)
    (hK : ∀ w', Arr w' w.heap.size 29 (dcs [x, y]) → Below w.heap.size w w' → wpList Try.prog ops Q rest (a.put o.dst (.slice (some ⟨w.heap.size, 0, none⟩) 2 2)) w') : wpList Try.prog ops Q (o :: rest) a w := by
  refine Great.wpList_buildRows hg 30 29 #[(0, .tmp i), (1, .tmp j)] 32 [.agg (bvs x).toArray, .agg (bvs y).toArray] ho (fun n => [i, j].getD n 0) _ rfl _ rfl Try.underlying30 sizeD (by kernel_rfl) (by decide) (by simp) (by simp) rfl ?_ ?_ ?_
  · intro v hv
    simp only [List.mem_cons, List.not_mem_nil, or_false] at hv
    rcases hv with rfl | rfl <;> simp [Value.cells, bvs_len, hx, hy]
  · intro n hn
    match n, hn with
    | 0, _ => exact h1
    | 1, _ => exact h2
  · refine hK _ ?_ ((Below.refl _ _).alloc (Nat.le_refl _) _)
    have e : ((([.agg (bvs x).toArray, .agg (bvs y).toArray] : List Value).flatMap fun v => v.cells.toList).toArray) = (dcs [x, y]).toArray := by simp [Value.cells, dcs]
    rw [e]
    exact Arr.new _ _ _
end
/-- a hash whose first byte is b, the others 0 -/
def Dg (b : UInt8) : List UInt8 := b :: List.replicate 31 0
theorem Dg_len (b : UInt8) : (Dg b).length = 32 := by simp [Dg]
theorem built_dg (b : UInt8) : Try.prog.built 29 [(0, bv b)] = some (bvs (Dg b)).toArray := by kernel_rfl
theorem built_dz : Try.prog.built 29 [] = some (bvs (Z8 32)).toArray := by kernel_rfl
theorem built_rz : Try.prog.built 49 [] = some #[.bool false, .int .u64 0, .slice none 0 0] := by kernel_rfl
/-- with nothing but ones, all is told -/
theorem toldQ_ones : ∀ (Q : List (List UInt8)) (d : List UInt8), (toldQ (2 ^ Q.length - 1) Q d).length = Q.length + 1 := by
  intro Q
  induction Q with
  | nil => intro d; simp [toldQ]
  | cons q Q ih =>
    intro d
    have h2 := Nat.two_pow_pos Q.length
    have e : 2 ^ (q :: Q).length - 1 = 2 * (2 ^ Q.length - 1) + 1 := by rw [List.length_cons, Nat.pow_succ]; omega
    rw [e, toldQ, if_pos (by omega), show (2 * (2 ^ Q.length - 1) + 1) / 2 = 2 ^ Q.length - 1 by omega, List.length_cons, ih, List.length_cons]
theorem popN_full : popN 1048576 = 1 := by
  rw [popN_pop8 20 1048576, show 1048576 / 2 ^ 20 = 1 from rfl, show 1048576 % 2 ^ 20 = 0 from rfl, popN_two 1, show 1 / 2 = 0 from rfl, popN_zero]
  decide +kernel
theorem popN_less : popN 1048575 = 20 := by
  rw [popN_pop8 20 1048575, show 1048575 / 2 ^ 20 = 0 from rfl, show 1048575 % 2 ^ 20 = 1048575 from rfl, popN_zero]
  decide +kernel
end Go.Proofs.Ytlfncgpjgbpdjaa

namespace Go.Proofs.Ytlfncgpjgbpdjaa
open Go.RowKit

theorem rRoot_all {B : Nat} (p n : Nat) (P : List (List UInt8)) (w : World) (h : IsW B w p n P) :
    Calls Try.prog 27 #[.pointer (some ⟨p, 0, none⟩)] w fun e w' => e = .returned (.agg (bvs (foldP P)).toArray) ∧ Below w.heap.size w w' := by
  rcases Nat.eq_zero_or_pos n with h0 | h0
  · subst h0
    have hP : P = [] := List.eq_nil_of_length_eq_zero (by rw [h.cnt, popN_zero])
    subst hP
    exact rRoot_zero p w h
  · exact rRoot_r p n P w h (by rw [h.cnt]; exact popN_pos h0)
structure InvAlike (F : List UInt8) (P : List (List UInt8)) (p pw n : Nat) (W0 : World) (L : Nat → Bool) (v5 v6 v7 v8 v9 v10 v11 v12 v13 v14 v15 v16 v17 v18 v19 v20 v21 v22 v23 v24 v25 v4 : Value) (wx : World) : Prop where
  t0 : L 0 = true → v5 = .pointer (some ⟨p, 0, none⟩)
  t1 : L 1 = true → v6 = .int .u64 (n : Int)
  t2 : L 2 = true → v7 = .pointer (some ⟨pw, 0, none⟩)
  t3 : L 3 = true → v8 = .pointer (some ⟨pw, 0, none⟩)
  t4 : L 4 = true → v9 = .pointer (some ⟨pw, 0, none⟩)
  t5 : L 5 = true → v10 = .int .u64 (n : Int)
  t6 : L 6 = true → v11 = .bool true
  t7 : L 7 = true → v12 = .bool true
  t8 : L 8 = true → v13 = .pointer (some ⟨p, 0, none⟩)
  t9 : L 9 = true → ∃ g, v14 = .slice (some ⟨g, 0, none⟩) P.length P.length ∧ Arr wx g 29 (dcs P)
  t10 : L 10 = true → v15 = .pointer (some ⟨pw, 0, none⟩)
  t11 : L 11 = true → OwnD wx W0.heap.size v16 P
  t12 : L 12 = true → v17 = .bool true
  t13 : L 13 = true → v18 = .bool true
  t14 : L 14 = true → v19 = .bool true
  t15 : L 15 = true → v20 = .pointer (some ⟨p, 0, none⟩)
  t16 : L 16 = true → v21 = .agg (bvs F).toArray
  t17 : L 17 = true → v22 = .pointer (some ⟨pw, 0, none⟩)
  t18 : L 18 = true → v23 = .agg (bvs F).toArray
  t19 : L 19 = true → v24 = .bool true
  t20 : L 20 = true → v25 = .bool true
  t21 : L 21 = true → v4 = .bool true
  bw : Below W0.heap.size W0 wx
set_option maxRecDepth 100000 in
set_option maxHeartbeats 3200000 in
theorem alike_any {q : Nat → Prop} {B : Nat} (p pw n : Nat) (P : List (List UInt8)) (w : World) (h : IsR q w p n P) (hw : IsW B w pw n P) :
    Calls Try.prog 16 #[.pointer (some ⟨p, 0, none⟩), .pointer (some ⟨pw, 0, none⟩)] w fun e w' => e = .returned (.bool true) ∧ Below w.heap.size w w' := by
  have hall := hw.all
  have hf := foldP_len hall
  have HS := Lib.hid (fun wx (hb : Below w.heap.size w wx) => Size_any (q := q) p n P wx (h.to hb))
  have HP := Lib.hid (fun wx (hb : Below w.heap.size w wx) => Peaks_any (q := q) p n P wx (h.to hb))
  have HRP := Lib.hid (fun wx (hb : Below w.heap.size w wx) => rPeaks_any (B := B) pw n P wx (hw.to hb))
  have HR := Lib.hid (fun wx (hb : Below w.heap.size w wx) => Root_all (q := q) p n P wx (h.to hb))
  have HRR := Lib.hid (fun wx (hb : Below w.heap.size w wx) => rRoot_all (B := B) pw n P wx (hw.to hb))
  have hfew := h.few
  obtain ⟨v, hA, -⟩ := hw.ex
  have HC0 : Hid (∀ wx, Below w.heap.size w wx → wx.cell? ⟨pw, 0, none⟩ = some (.int .u64 (n : Int))) := fun wx hb => by simpa using (hA.kept hb).cell 0
  have hSame : Hid (∀ wx (v1 v2 : Value), (∃ g, v1 = .slice (some ⟨g, 0, none⟩) P.length P.length ∧ Arr wx g 29 (dcs P)) → OwnD wx w.heap.size v2 P → Calls Try.prog 11 #[v1, v2] wx fun e w' => e = .returned (.bool true) ∧ Below wx.heap.size wx w') := by
    rintro wx v1 v2 ⟨g, rfl, h1⟩ h2
    obtain ⟨a2, c2, rfl, hr2⟩ := h2.rd
    have := rSame_any P P _ _ _ _ _ _ wx (rdd_arr' h1 hall rfl) hr2 (by omega) (by omega)
    rwa [decide_eq_true rfl] at this
  have HF := Lib.hid hf
  have LS := Lib.hid hfew
  clear h hw hA hf hfew hall
  generalize foldP P = F at *
  go_enter Try.func16, Try.ntmps16
  go_upto_region 1 with fail
  refine wp_region_steps [[], [0], [], [2], [3], [4], [1, 5], [6], [7], [8, 7], [7], [10, 7], [9, 11, 7], [7, 12], [13], [14], [15, 14], [14], [17, 14], [16, 18, 14], [14, 19], [20]] (by kernel_rfl) (by kernel_rfl) (fun L a wx => ∃ v5 v6 v7 v8 v9 v10 v11 v12 v13 v14 v15 v16 v17 v18 v19 v20 v21 v22 v23 v24 v25 v4, a = ⟨#[.pointer (some ⟨p, 0, none⟩), .pointer (some ⟨pw, 0, none⟩), undef, undef, v4, v5, v6, v7, v8, v9, v10, v11, v12, v13, v14, v15, v16, v17, v18, v19, v20, v21, v22, v23, v24, v25], []⟩ ∧ InvAlike F P p pw n w L v5 v6 v7 v8 v9 v10 v11 v12 v13 v14 v15 v16 v17 v18 v19 v20 v21 v22 v23 v24 v25 v4 wx) ?_ ⟨?_, ?_, ?_, ?_, ?_, ?_, ?_, ?_, ?_, ?_, ?_, ?_, ?_, ?_, ?_, ?_, ?_, ?_, ?_, ?_, ?_, ?_, trivial⟩ ?_
  · refine ⟨_, _, _, _, _, _, _, _, _, _, _, _, _, _, _, _, _, _, _, _, _, _, rfl, ⟨?_, ?_, ?_, ?_, ?_, ?_, ?_, ?_, ?_, ?_, ?_, ?_, ?_, ?_, ?_, ?_, ?_, ?_, ?_, ?_, ?_, ?_, (Below.refl _ _).drew⟩⟩ <;> (intro h; exact absurd h (by decide))
  · rintro L a wx ⟨v5, v6, v7, v8, v9, v10, v11, v12, v13, v14, v15, v16, v17, v18, v19, v20, v21, v22, v23, v24, v25, v4, rfl, hI⟩ hL hdep hcl K hK
    go_simp
    exact hK _ _ ⟨_, v6, v7, v8, v9, v10, v11, v12, v13, v14, v15, v16, v17, v18, v19, v20, v21, v22, v23, v24, v25, v4, rfl, ⟨fun _ => rfl, hI.t1, hI.t2, hI.t3, hI.t4, hI.t5, hI.t6, hI.t7, hI.t8, hI.t9, hI.t10, hI.t11, hI.t12, hI.t13, hI.t14, hI.t15, hI.t16, hI.t17, hI.t18, hI.t19, hI.t20, hI.t21, hI.bw⟩⟩
  · rintro L a wx ⟨v5, v6, v7, v8, v9, v10, v11, v12, v13, v14, v15, v16, v17, v18, v19, v20, v21, v22, v23, v24, v25, v4, rfl, hI⟩ hL hdep hcl K hK
    obtain rfl := hI.t0 (hdep 0 (by decide))
    have HC := HS.out wx hI.bw
    go_simp
    refine HC.mono ?_
    rintro e w' ⟨rfl, rfl⟩
    exact hK _ _ ⟨_, _, v7, v8, v9, v10, v11, v12, v13, v14, v15, v16, v17, v18, v19, v20, v21, v22, v23, v24, v25, v4, rfl, ⟨hI.t0, fun _ => rfl, hI.t2, hI.t3, hI.t4, hI.t5, hI.t6, hI.t7, hI.t8, hI.t9, hI.t10, hI.t11, hI.t12, hI.t13, hI.t14, hI.t15, hI.t16, hI.t17, hI.t18, hI.t19, hI.t20, hI.t21, hI.bw⟩⟩
  · rintro L a wx ⟨v5, v6, v7, v8, v9, v10, v11, v12, v13, v14, v15, v16, v17, v18, v19, v20, v21, v22, v23, v24, v25, v4, rfl, hI⟩ hL hdep hcl K hK
    go_simp
    exact hK _ _ ⟨v5, v6, _, v8, v9, v10, v11, v12, v13, v14, v15, v16, v17, v18, v19, v20, v21, v22, v23, v24, v25, v4, rfl, ⟨hI.t0, hI.t1, fun _ => rfl, hI.t3, hI.t4, hI.t5, hI.t6, hI.t7, hI.t8, hI.t9, hI.t10, hI.t11, hI.t12, hI.t13, hI.t14, hI.t15, hI.t16, hI.t17, hI.t18, hI.t19, hI.t20, hI.t21, hI.bw⟩⟩
  · rintro L a wx ⟨v5, v6, v7, v8, v9, v10, v11, v12, v13, v14, v15, v16, v17, v18, v19, v20, v21, v22, v23, v24, v25, v4, rfl, hI⟩ hL hdep hcl K hK
    obtain rfl := hI.t2 (hdep 2 (by decide))
    go_simp
    exact hK _ _ ⟨v5, v6, _, _, v9, v10, v11, v12, v13, v14, v15, v16, v17, v18, v19, v20, v21, v22, v23, v24, v25, v4, rfl, ⟨hI.t0, hI.t1, hI.t2, fun _ => rfl, hI.t4, hI.t5, hI.t6, hI.t7, hI.t8, hI.t9, hI.t10, hI.t11, hI.t12, hI.t13, hI.t14, hI.t15, hI.t16, hI.t17, hI.t18, hI.t19, hI.t20, hI.t21, hI.bw⟩⟩
  · rintro L a wx ⟨v5, v6, v7, v8, v9, v10, v11, v12, v13, v14, v15, v16, v17, v18, v19, v20, v21, v22, v23, v24, v25, v4, rfl, hI⟩ hL hdep hcl K hK
    obtain rfl := hI.t3 (hdep 3 (by decide))
    go_simp
    exact hK _ _ ⟨v5, v6, v7, _, _, v10, v11, v12, v13, v14, v15, v16, v17, v18, v19, v20, v21, v22, v23, v24, v25, v4, rfl, ⟨hI.t0, hI.t1, hI.t2, hI.t3, fun _ => rfl, hI.t5, hI.t6, hI.t7, hI.t8, hI.t9, hI.t10, hI.t11, hI.t12, hI.t13, hI.t14, hI.t15, hI.t16, hI.t17, hI.t18, hI.t19, hI.t20, hI.t21, hI.bw⟩⟩
  · rintro L a wx ⟨v5, v6, v7, v8, v9, v10, v11, v12, v13, v14, v15, v16, v17, v18, v19, v20, v21, v22, v23, v24, v25, v4, rfl, hI⟩ hL hdep hcl K hK
    obtain rfl := hI.t4 (hdep 4 (by decide))
    have cc := HC0.out wx hI.bw
    go_simp
    exact hK _ _ ⟨v5, v6, v7, v8, _, _, v11, v12, v13, v14, v15, v16, v17, v18, v19, v20, v21, v22, v23, v24, v25, v4, rfl, ⟨hI.t0, hI.t1, hI.t2, hI.t3, hI.t4, fun _ => rfl, hI.t6, hI.t7, hI.t8, hI.t9, hI.t10, hI.t11, hI.t12, hI.t13, hI.t14, hI.t15, hI.t16, hI.t17, hI.t18, hI.t19, hI.t20, hI.t21, hI.bw⟩⟩
  · rintro L a wx ⟨v5, v6, v7, v8, v9, v10, v11, v12, v13, v14, v15, v16, v17, v18, v19, v20, v21, v22, v23, v24, v25, v4, rfl, hI⟩ hL hdep hcl K hK
    obtain rfl := hI.t1 (hdep 1 (by decide))
    obtain rfl := hI.t5 (hdep 5 (by decide))
    go_simp
    exact hK _ _ ⟨v5, _, v7, v8, v9, _, _, v12, v13, v14, v15, v16, v17, v18, v19, v20, v21, v22, v23, v24, v25, v4, rfl, ⟨hI.t0, hI.t1, hI.t2, hI.t3, hI.t4, hI.t5, fun _ => rfl, hI.t7, hI.t8, hI.t9, hI.t10, hI.t11, hI.t12, hI.t13, hI.t14, hI.t15, hI.t16, hI.t17, hI.t18, hI.t19, hI.t20, hI.t21, hI.bw⟩⟩
  · rintro L a wx ⟨v5, v6, v7, v8, v9, v10, v11, v12, v13, v14, v15, v16, v17, v18, v19, v20, v21, v22, v23, v24, v25, v4, rfl, hI⟩ hL hdep hcl K hK
    obtain rfl := hI.t6 (hdep 6 (by decide))
    go_simp
    exact hK _ _ ⟨v5, v6, v7, v8, v9, v10, _, _, v13, v14, v15, v16, v17, v18, v19, v20, v21, v22, v23, v24, v25, v4, rfl, ⟨hI.t0, hI.t1, hI.t2, hI.t3, hI.t4, hI.t5, hI.t6, fun _ => rfl, hI.t8, hI.t9, hI.t10, hI.t11, hI.t12, hI.t13, hI.t14, hI.t15, hI.t16, hI.t17, hI.t18, hI.t19, hI.t20, hI.t21, hI.bw⟩⟩
  · rintro L a wx ⟨v5, v6, v7, v8, v9, v10, v11, v12, v13, v14, v15, v16, v17, v18, v19, v20, v21, v22, v23, v24, v25, v4, rfl, hI⟩ hL hdep hcl K hK
    obtain rfl := hI.t7 (hdep 7 (by decide))
    refine (if_pos rfl).mpr ?_
    go_simp
    exact hK _ _ ⟨v5, v6, v7, v8, v9, v10, v11, _, _, v14, v15, v16, v17, v18, v19, v20, v21, v22, v23, v24, v25, v4, rfl, ⟨hI.t0, hI.t1, hI.t2, hI.t3, hI.t4, hI.t5, hI.t6, hI.t7, fun _ => rfl, hI.t9, hI.t10, hI.t11, hI.t12, hI.t13, hI.t14, hI.t15, hI.t16, hI.t17, hI.t18, hI.t19, hI.t20, hI.t21, hI.bw⟩⟩
  · rintro L a wx ⟨v5, v6, v7, v8, v9, v10, v11, v12, v13, v14, v15, v16, v17, v18, v19, v20, v21, v22, v23, v24, v25, v4, rfl, hI⟩ hL hdep hcl K hK
    obtain rfl := hI.t8 (hdep 8 (by decide))
    obtain rfl := hI.t7 (hdep 7 (by decide))
    refine (if_pos rfl).mpr ?_
    have HC := HP.out wx hI.bw
    go_simp
    refine HC.mono ?_
    rintro e w' ⟨rfl, hA1, hb⟩
    exact hK _ _ ⟨v5, v6, v7, v8, v9, v10, v11, _, _, _, v15, v16, v17, v18, v19, v20, v21, v22, v23, v24, v25, v4, rfl, ⟨hI.t0, hI.t1, hI.t2, hI.t3, hI.t4, hI.t5, hI.t6, hI.t7, hI.t8, fun _ => ⟨_, rfl, hA1⟩, hI.t10, fun h => (hI.t11 h).to hb, hI.t12, hI.t13, hI.t14, hI.t15, hI.t16, hI.t17, hI.t18, hI.t19, hI.t20, hI.t21, (hI.bw).trans (hb.mono (hI.bw).size)⟩⟩
  · rintro L a wx ⟨v5, v6, v7, v8, v9, v10, v11, v12, v13, v14, v15, v16, v17, v18, v19, v20, v21, v22, v23, v24, v25, v4, rfl, hI⟩ hL hdep hcl K hK
    obtain rfl := hI.t7 (hdep 7 (by decide))
    refine (if_pos rfl).mpr ?_
    go_simp
    exact hK _ _ ⟨v5, v6, v7, v8, v9, v10, v11, _, v13, v14, _, v16, v17, v18, v19, v20, v21, v22, v23, v24, v25, v4, rfl, ⟨hI.t0, hI.t1, hI.t2, hI.t3, hI.t4, hI.t5, hI.t6, hI.t7, hI.t8, hI.t9, fun _ => rfl, hI.t11, hI.t12, hI.t13, hI.t14, hI.t15, hI.t16, hI.t17, hI.t18, hI.t19, hI.t20, hI.t21, hI.bw⟩⟩
  · rintro L a wx ⟨v5, v6, v7, v8, v9, v10, v11, v12, v13, v14, v15, v16, v17, v18, v19, v20, v21, v22, v23, v24, v25, v4, rfl, hI⟩ hL hdep hcl K hK
    obtain rfl := hI.t10 (hdep 10 (by decide))
    obtain rfl := hI.t7 (hdep 7 (by decide))
    refine (if_pos rfl).mpr ?_
    have HC := HRP.out wx hI.bw
    go_simp
    refine HC.mono ?_
    rintro e w' ⟨v, rfl, hO, hb⟩
    exact hK _ _ ⟨v5, v6, v7, v8, v9, v10, v11, _, v13, v14, _, _, v17, v18, v19, v20, v21, v22, v23, v24, v25, v4, rfl, ⟨hI.t0, hI.t1, hI.t2, hI.t3, hI.t4, hI.t5, hI.t6, hI.t7, hI.t8, fun h => by obtain ⟨g, e, h1⟩ := hI.t9 h; exact ⟨g, e, h1.kept hb⟩, hI.t10, fun _ => hO.base hI.bw.size, hI.t12, hI.t13, hI.t14, hI.t15, hI.t16, hI.t17, hI.t18, hI.t19, hI.t20, hI.t21, (hI.bw).trans (hb.mono (hI.bw).size)⟩⟩
  · rintro L a wx ⟨v5, v6, v7, v8, v9, v10, v11, v12, v13, v14, v15, v16, v17, v18, v19, v20, v21, v22, v23, v24, v25, v4, rfl, hI⟩ hL hdep hcl K hK
    obtain rfl := hI.t7 (hdep 7 (by decide))
    refine (if_pos rfl).mpr ?_
    have HC := hSame.out wx v14 v16 (hI.t9 (hdep 9 (by decide))) (hI.t11 (hdep 11 (by decide)))
    go_simp
    refine HC.mono ?_
    rintro e w' ⟨rfl, hb⟩
    exact hK _ _ ⟨v5, v6, v7, v8, v9, v10, v11, _, v13, v14, v15, v16, _, v18, v19, v20, v21, v22, v23, v24, v25, v4, rfl, ⟨hI.t0, hI.t1, hI.t2, hI.t3, hI.t4, hI.t5, hI.t6, hI.t7, hI.t8, fun h => by obtain ⟨g, e, h1⟩ := hI.t9 h; exact ⟨g, e, h1.kept hb⟩, hI.t10, fun h => (hI.t11 h).to hb, fun _ => rfl, hI.t13, hI.t14, hI.t15, hI.t16, hI.t17, hI.t18, hI.t19, hI.t20, hI.t21, (hI.bw).trans (hb.mono (hI.bw).size)⟩⟩
  · rintro L a wx ⟨v5, v6, v7, v8, v9, v10, v11, v12, v13, v14, v15, v16, v17, v18, v19, v20, v21, v22, v23, v24, v25, v4, rfl, hI⟩ hL hdep hcl K hK
    obtain rfl := hI.t7 (hdep 7 (by decide))
    obtain rfl := hI.t12 (hdep 12 (by decide))
    go_simp
    exact hK _ _ ⟨v5, v6, v7, v8, v9, v10, v11, _, v13, v14, v15, v16, _, _, v19, v20, v21, v22, v23, v24, v25, v4, rfl, ⟨hI.t0, hI.t1, hI.t2, hI.t3, hI.t4, hI.t5, hI.t6, hI.t7, hI.t8, hI.t9, hI.t10, hI.t11, hI.t12, fun _ => rfl, hI.t14, hI.t15, hI.t16, hI.t17, hI.t18, hI.t19, hI.t20, hI.t21, hI.bw⟩⟩
  · rintro L a wx ⟨v5, v6, v7, v8, v9, v10, v11, v12, v13, v14, v15, v16, v17, v18, v19, v20, v21, v22, v23, v24, v25, v4, rfl, hI⟩ hL hdep hcl K hK
    obtain rfl := hI.t13 (hdep 13 (by decide))
    go_simp
    exact hK _ _ ⟨v5, v6, v7, v8, v9, v10, v11, v12, v13, v14, v15, v16, v17, _, _, v20, v21, v22, v23, v24, v25, v4, rfl, ⟨hI.t0, hI.t1, hI.t2, hI.t3, hI.t4, hI.t5, hI.t6, hI.t7, hI.t8, hI.t9, hI.t10, hI.t11, hI.t12, hI.t13, fun _ => rfl, hI.t15, hI.t16, hI.t17, hI.t18, hI.t19, hI.t20, hI.t21, hI.bw⟩⟩
  · rintro L a wx ⟨v5, v6, v7, v8, v9, v10, v11, v12, v13, v14, v15, v16, v17, v18, v19, v20, v21, v22, v23, v24, v25, v4, rfl, hI⟩ hL hdep hcl K hK
    obtain rfl := hI.t14 (hdep 14 (by decide))
    refine (if_pos rfl).mpr ?_
    go_simp
    exact hK _ _ ⟨v5, v6, v7, v8, v9, v10, v11, v12, v13, v14, v15, v16, v17, v18, _, _, v21, v22, v23, v24, v25, v4, rfl, ⟨hI.t0, hI.t1, hI.t2, hI.t3, hI.t4, hI.t5, hI.t6, hI.t7, hI.t8, hI.t9, hI.t10, hI.t11, hI.t12, hI.t13, hI.t14, fun _ => rfl, hI.t16, hI.t17, hI.t18, hI.t19, hI.t20, hI.t21, hI.bw⟩⟩
  · rintro L a wx ⟨v5, v6, v7, v8, v9, v10, v11, v12, v13, v14, v15, v16, v17, v18, v19, v20, v21, v22, v23, v24, v25, v4, rfl, hI⟩ hL hdep hcl K hK
    obtain rfl := hI.t15 (hdep 15 (by decide))
    obtain rfl := hI.t14 (hdep 14 (by decide))
    refine (if_pos rfl).mpr ?_
    have HC := HR.out wx hI.bw
    go_simp
    refine HC.mono ?_
    rintro e w' ⟨rfl, hb⟩
    exact hK _ _ ⟨v5, v6, v7, v8, v9, v10, v11, v12, v13, v14, v15, v16, v17, v18, _, _, _, v22, v23, v24, v25, v4, rfl, ⟨hI.t0, hI.t1, hI.t2, hI.t3, hI.t4, hI.t5, hI.t6, hI.t7, hI.t8, fun h => by obtain ⟨g, e, h1⟩ := hI.t9 h; exact ⟨g, e, h1.kept hb⟩, hI.t10, fun h => (hI.t11 h).to hb, hI.t12, hI.t13, hI.t14, hI.t15, fun _ => rfl, hI.t17, hI.t18, hI.t19, hI.t20, hI.t21, (hI.bw).trans (hb.mono (hI.bw).size)⟩⟩
  · rintro L a wx ⟨v5, v6, v7, v8, v9, v10, v11, v12, v13, v14, v15, v16, v17, v18, v19, v20, v21, v22, v23, v24, v25, v4, rfl, hI⟩ hL hdep hcl K hK
    obtain rfl := hI.t14 (hdep 14 (by decide))
    refine (if_pos rfl).mpr ?_
    go_simp
    exact hK _ _ ⟨v5, v6, v7, v8, v9, v10, v11, v12, v13, v14, v15, v16, v17, v18, _, v20, v21, _, v23, v24, v25, v4, rfl, ⟨hI.t0, hI.t1, hI.t2, hI.t3, hI.t4, hI.t5, hI.t6, hI.t7, hI.t8, hI.t9, hI.t10, hI.t11, hI.t12, hI.t13, hI.t14, hI.t15, hI.t16, fun _ => rfl, hI.t18, hI.t19, hI.t20, hI.t21, hI.bw⟩⟩
  · rintro L a wx ⟨v5, v6, v7, v8, v9, v10, v11, v12, v13, v14, v15, v16, v17, v18, v19, v20, v21, v22, v23, v24, v25, v4, rfl, hI⟩ hL hdep hcl K hK
    obtain rfl := hI.t17 (hdep 17 (by decide))
    obtain rfl := hI.t14 (hdep 14 (by decide))
    refine (if_pos rfl).mpr ?_
    have HC := HRR.out wx hI.bw
    go_simp
    refine HC.mono ?_
    rintro e w' ⟨rfl, hb⟩
    exact hK _ _ ⟨v5, v6, v7, v8, v9, v10, v11, v12, v13, v14, v15, v16, v17, v18, _, v20, v21, _, _, v24, v25, v4, rfl, ⟨hI.t0, hI.t1, hI.t2, hI.t3, hI.t4, hI.t5, hI.t6, hI.t7, hI.t8, fun h => by obtain ⟨g, e, h1⟩ := hI.t9 h; exact ⟨g, e, h1.kept hb⟩, hI.t10, fun h => (hI.t11 h).to hb, hI.t12, hI.t13, hI.t14, hI.t15, hI.t16, hI.t17, fun _ => rfl, hI.t19, hI.t20, hI.t21, (hI.bw).trans (hb.mono (hI.bw).size)⟩⟩
  · rintro L a wx ⟨v5, v6, v7, v8, v9, v10, v11, v12, v13, v14, v15, v16, v17, v18, v19, v20, v21, v22, v23, v24, v25, v4, rfl, hI⟩ hL hdep hcl K hK
    obtain rfl := hI.t16 (hdep 16 (by decide))
    obtain rfl := hI.t18 (hdep 18 (by decide))
    obtain rfl := hI.t14 (hdep 14 (by decide))
    refine (if_pos rfl).mpr ?_
    refine ow_eqSame _ _ _ rfl F HF.out rfl rfl ?_
    exact hK _ _ ⟨v5, v6, v7, v8, v9, v10, v11, v12, v13, v14, v15, v16, v17, v18, _, v20, _, v22, _, _, v25, v4, rfl, ⟨hI.t0, hI.t1, hI.t2, hI.t3, hI.t4, hI.t5, hI.t6, hI.t7, hI.t8, hI.t9, hI.t10, hI.t11, hI.t12, hI.t13, hI.t14, hI.t15, hI.t16, hI.t17, hI.t18, fun _ => rfl, hI.t20, hI.t21, hI.bw⟩⟩
  · rintro L a wx ⟨v5, v6, v7, v8, v9, v10, v11, v12, v13, v14, v15, v16, v17, v18, v19, v20, v21, v22, v23, v24, v25, v4, rfl, hI⟩ hL hdep hcl K hK
    obtain rfl := hI.t14 (hdep 14 (by decide))
    obtain rfl := hI.t19 (hdep 19 (by decide))
    go_simp
    exact hK _ _ ⟨v5, v6, v7, v8, v9, v10, v11, v12, v13, v14, v15, v16, v17, v18, _, v20, v21, v22, v23, _, _, v4, rfl, ⟨hI.t0, hI.t1, hI.t2, hI.t3, hI.t4, hI.t5, hI.t6, hI.t7, hI.t8, hI.t9, hI.t10, hI.t11, hI.t12, hI.t13, hI.t14, hI.t15, hI.t16, hI.t17, hI.t18, hI.t19, fun _ => rfl, hI.t21, hI.bw⟩⟩
  · rintro L a wx ⟨v5, v6, v7, v8, v9, v10, v11, v12, v13, v14, v15, v16, v17, v18, v19, v20, v21, v22, v23, v24, v25, v4, rfl, hI⟩ hL hdep hcl K hK
    obtain rfl := hI.t20 (hdep 20 (by decide))
    go_simp
    exact hK _ _ ⟨v5, v6, v7, v8, v9, v10, v11, v12, v13, v14, v15, v16, v17, v18, v19, v20, v21, v22, v23, v24, _, _, rfl, ⟨hI.t0, hI.t1, hI.t2, hI.t3, hI.t4, hI.t5, hI.t6, hI.t7, hI.t8, hI.t9, hI.t10, hI.t11, hI.t12, hI.t13, hI.t14, hI.t15, hI.t16, hI.t17, hI.t18, hI.t19, hI.t20, fun _ => rfl, hI.bw⟩⟩
  · rintro a wx ⟨v5, v6, v7, v8, v9, v10, v11, v12, v13, v14, v15, v16, v17, v18, v19, v20, v21, v22, v23, v24, v25, v4, rfl, hI⟩
    have e := hI.t21 rfl
    have hbw := hI.bw
    clear hI
    go_wp2_with fail
    go_ret
    exact ⟨by rw [e]; rfl, hbw⟩
end Go.Proofs.Ytlfncgpjgbpdjaa

namespace Go.Proofs.Ytlfncgpjgbpdjaa
open Go.RowKit

/-- what a document's range has turned is none of a range's -/
theorem IsR.kz {q : Nat → Prop} {B : Nat} {w w' : World} {p n : Nat} {P : List (List UInt8)} (h : IsR q w p n P) (hb : KB (ZW B w) w w') : IsR q w' p n P := by
  obtain ⟨a, c, hA, hr, hl⟩ := h.ex
  have hp : ¬ ZW B w p := by
    rintro ⟨-, cs, T, fr, e, ht⟩
    have e2 : w.heap[p]? = _ := hA
    rw [e2] at e
    injection e with e
    injection e with e3 e4 e5
    subst e4
    rcases ht with ht | ht <;> exact absurd ht (by decide)
  have hz : ∀ ad, a = some ad → ¬ ZW B w ad.block := by
    rintro ad e ⟨-, cs, T, fr, e1, ht⟩
    obtain ⟨-, -, cs2, e2⟩ := hl ad e
    rw [e2] at e1
    injection e1 with e1
    injection e1 with e3 e4 e5
    subst e4
    rcases ht with ht | ht <;> exact absurd ht (by decide)
  exact ⟨⟨a, c, arr_kb hA hb hp, hb.rdD hr fun ad e _ => hz ad e, fun ad e => ⟨(hl ad e).1, Nat.lt_of_lt_of_le (hl ad e).2.1 hb.size, by obtain ⟨cs, h1⟩ := (hl ad e).2.2; exact ⟨cs, (hb.block _ (hl ad e).2.1 (hz ad e)).trans h1⟩⟩⟩, h.cnt, h.le⟩
/-- a block of another type is none of a document's range -/
theorem IsW.kt {B : Nat} {w w' : World} {p n : Nat} {P : List (List UInt8)} {Z : Nat → Prop} (h : IsW B w p n P) (hb : KB Z w w')
    (hz : ∀ k, Z k → ∃ cs T fr, w.heap[k]? = some (.cells cs T fr) ∧ T ≠ 54 ∧ T ≠ 63) : IsW B w' p n P := by
  obtain ⟨v, hA, hO⟩ := h.ex
  have hp : ¬ Z p := by
    intro e
    obtain ⟨cs, T, fr, e1, h1, -⟩ := hz p e
    have e2 : w.heap[p]? = _ := hA
    rw [e2] at e1
    injection e1 with e1
    injection e1 with e3 e4 e5
    exact h1 e4.symm
  have hg : ∀ g, v.ownBlock = some g → ¬ Z g := by
    intro g e hZ
    obtain ⟨cs, T, fr, e1, -, h2⟩ := hz g hZ
    obtain ⟨cs2, e2⟩ := own_type hO.row e
    rw [e2] at e1
    injection e1 with e1
    injection e1 with e3 e4 e5
    exact h2 e4.symm
  exact ⟨⟨v, arr_kb hA hb hp, hO.kb hb hg⟩, h.all, h.cnt, h.le, h.base⟩
theorem IsR.atom {q : Nat → Prop} {w : World} {p n : Nat} {P : List (List UInt8)} (h : IsR q w p n P) : ∀ k, k = p → ∃ cs T fr, w.heap[k]? = some (.cells cs T fr) ∧ T ≠ 54 ∧ T ≠ 63 := by
  rintro k rfl
  obtain ⟨a, c, hA, -, -⟩ := h.ex
  exact ⟨_, _, _, hA, by decide, by decide⟩
theorem OwnD.atom {w : World} {B : Nat} {v : Value} {L : List (List UInt8)} (h : OwnD w B v L) : ∀ k, v.ownBlock = some k → ∃ cs T fr, w.heap[k]? = some (.cells cs T fr) ∧ T ≠ 54 ∧ T ≠ 63 := by
  intro k e
  obtain ⟨cs, h1⟩ := own_type h.row e
  exact ⟨_, _, _, h1, by decide, by decide⟩
theorem OwnD.kz {B B' : Nat} {w w' : World} {v : Value} {L : List (List UInt8)} (h : OwnD w B v L) (hb : KB (ZW B' w) w w') : OwnD w' B v L := by
  have hlt := World.ownsRow.lt h.row
  have hz : ∀ g, v.ownBlock = some g → ¬ ZW B' w g := by
    rintro g e ⟨-, cs, T, fr, e1, ht⟩
    obtain ⟨cs2, e2⟩ := own_type h.row e
    rw [e2] at e1
    injection e1 with e1
    injection e1 with e3 e4 e5
    subst e4
    rcases ht with ht | ht <;> exact absurd ht (by decide)
  refine ⟨?_, h.all⟩
  obtain ⟨h1, ⟨rfl, hn⟩ | ⟨g, cap, cur, rfl, hbb, hg, r⟩⟩ := h.row
  · exact ⟨h1, .inl ⟨rfl, hn⟩⟩
  · exact ⟨h1, .inr ⟨g, cap, cur, rfl, hbb, by rw [hb.block g (hlt g rfl).2 (hz g rfl)]; exact hg, r⟩⟩
theorem KB.zlow {B : Nat} {w w' : World} (h : KB (ZW B w) w w') (hB : B ≤ w.heap.size) : Below B w w' := h.under (fun _ e => e.1) hB
theorem arr_kz {B : Nat} {w w' : World} {g : Nat} {T : TypeId} {xs : List Value} (h : Arr w g T xs) (hb : KB (ZW B w) w w') (h1 : T ≠ 54) (h2 : T ≠ 63) : Arr w' g T xs := by
  refine arr_kb h hb ?_
  rintro ⟨-, cs, T', fr, e1, ht⟩
  have e2 : w.heap[g]? = _ := h
  rw [e2] at e1
  injection e1 with e1
  injection e1 with e3 e4 e5
  subst e4
  rcases ht with ht | ht
  · exact h2 ht
  · exact h1 ht
/-- two blocks of different types -/
theorem arr_ne {w : World} {g p : Nat} {T T' : TypeId} {xs ys : List Value} (h : Arr w g T xs) (h' : Arr w p T' ys) (hne : T ≠ T') : g ≠ p := by
  rintro rfl
  have e1 : w.heap[g]? = _ := h
  have e2 : w.heap[g]? = _ := h'
  rw [e1] at e2
  injection e2 with e2
  injection e2 with e3 e4 e5
  exact hne e4
theorem toldQ_most : ∀ (Q : List (List UInt8)) (n : Nat) (d : List UInt8), (toldQ n Q d).length ≤ Q.length + 1 := by
  intro Q
  induction Q with
  | nil => intro n d; simp [toldQ]
  | cons q Q ih =>
    intro n d
    rw [toldQ]
    split
    · have := ih (n / 2) (nodeH q d)
      simp only [List.length_cons]
      omega
    · simp
/-- an Add: the error, how many leaves then, the peaks then, what is told -/
def adE (n : Nat) : Int := if n < 1048576 then 0 else 7
def adN (n : Nat) : Nat := if n < 1048576 then n + 1 else n
def adP (n : Nat) (P : List (List UInt8)) (d : List UInt8) : List (List UInt8) := if n < 1048576 then addP n P d else P
def adT (n : Nat) (P : List (List UInt8)) (d : List UInt8) : List (List UInt8) := if n < 1048576 then toldP n P d else []
theorem adT_len (n : Nat) (P : List (List UInt8)) (d : List UInt8) (h : P.length ≤ 21) : (adT n P d).length ≤ 22 := by
  unfold adT
  split
  · have := toldQ_most P.reverse n d
    rw [List.length_reverse] at this
    unfold toldP
    omega
  · simp
theorem Add_both {q : Nat → Prop} (p n : Nat) (P : List (List UInt8)) (d : List UInt8) (w : World) (h : IsR q w p n P) (hd : d.length = 32) :
    Calls Try.prog 9 #[.pointer (some ⟨p, 0, none⟩), .agg (bvs d).toArray] w fun e w' => ∃ v, e = .returned (.tuple #[v, .int .i64 (adE n)]) ∧ OwnD w' w.heap.size v (adT n P d) ∧ IsR (fun b => v.ownBlock ≠ some b) w' p (adN n) (adP n P d) ∧ KB (fun k => k = p) w w' := by
  by_cases hn : n < 1048576
  · refine (Add_r p n P d w h hn hd).mono ?_
    rintro e w' ⟨g, gc, h1, h2, h3, -, h4⟩
    simp only [adE, adN, adP, adT, if_pos hn]
    refine ⟨_, h1, h2, h3.mono ?_, h4⟩
    rintro b - ⟨-, h5⟩ e6
    have e6 : some g = some b := e6
    injection e6 with e6
    exact h5 e6.symm
  · refine (Add_full p n P d w h (by have := h.le; omega)).mono ?_
    rintro e w' ⟨h1, h2⟩
    simp only [adE, adN, adP, adT, if_neg hn]
    exact ⟨_, h1, OwnD.nil _ _, (h.to h2).mono (fun b _ _ e => by cases e), kb_below h2⟩
theorem rAdd_both {B : Nat} (p n : Nat) (P : List (List UInt8)) (d : List UInt8) (w : World) (h : IsW B w p n P) (hB : B ≤ w.heap.size) (hd : d.length = 32) :
    Calls Try.prog 10 #[.pointer (some ⟨p, 0, none⟩), .agg (bvs d).toArray] w fun e w' => ∃ v, e = .returned (.tuple #[v, .int .i64 (adE n)]) ∧ OwnD w' w.heap.size v (adT n P d) ∧ IsW B w' p (adN n) (adP n P d) ∧ KB (ZW B w) w w' := by
  by_cases hn : n < 1048576
  · refine (rAdd_any p n P d w h hB hn hd).mono ?_
    rintro e w' ⟨v, h1, h2, h3, h4⟩
    simp only [adE, adN, adP, adT, if_pos hn]
    exact ⟨_, h1, h2, h3, h4⟩
  · refine (rAdd_full p n P d w h (by have := h.le; omega)).mono ?_
    rintro e w' ⟨h1, h2⟩
    simp only [adE, adN, adP, adT, if_neg hn]
    exact ⟨_, h1, OwnD.nil _ _, h.to h2, kb_below h2⟩
theorem Same_own {w : World} {B1 B2 : Nat} {v1 v2 : Value} {T : List (List UInt8)} (h1 : OwnD w B1 v1 T) (h2 : OwnD w B2 v2 T) (hl : T.length ≤ 2 ^ 50) :
    Calls Try.prog 11 #[v1, v2] w fun e w' => e = .returned (.bool true) ∧ Below w.heap.size w w' := by
  obtain ⟨a1, c1, rfl, hr1⟩ := h1.rd
  obtain ⟨a2, c2, rfl, hr2⟩ := h2.rd
  have := rSame_any T T _ _ _ _ _ _ w hr1 hr2 hl hl
  rwa [decide_eq_true rfl] at this
/-- From, of what is no range -/
theorem From_err (P : List (List UInt8)) (a : Option Addr) (c n : Nat) (w : World) (hc : ¬ (n ≤ 1048576 ∧ P.length = popN n)) :
    Calls Try.prog 14 #[.slice a P.length c, .int .u64 (n : Int)] w fun e w' => e = .returned (.tuple #[.pointer none, .int .i64 1]) ∧ w = w' := by
  refine From_no P.length a c n w ?_
  by_cases h : n ≤ 1048576
  · exact .inr ⟨h, fun e => hc ⟨h, e⟩⟩
  · exact .inl (by omega)
theorem rFrom_err (P : List (List UInt8)) (a : Option Addr) (c n : Nat) (w : World) (hr : RdD w a P.length c P) (hB : P.length ≤ 2 ^ 50) (hc : ¬ (n ≤ 1048576 ∧ P.length = popN n)) :
    Calls Try.prog 15 #[.slice a P.length c, .int .u64 (n : Int)] w fun e w' => e = .returned (.tuple #[.pointer none, .int .i64 1]) ∧ Below w.heap.size w w' := by
  by_cases h : n ≤ 1048576
  · refine (rFrom_any P a P.length c n w hr h hB).mono ?_
    rintro e w' ⟨⟨h1, -⟩ | ⟨-, h2⟩, hb⟩
    · exact absurd ⟨h, h1⟩ hc
    · exact ⟨h2, hb⟩
  · refine (rFrom_big P.length n a c w (by omega)).mono ?_
    rintro e w' ⟨h1, rfl⟩
    exact ⟨h1, Below.refl _ _⟩
theorem rFrom_ok (P : List (List UInt8)) (a : Option Addr) (c n : Nat) (w : World) (hr : RdD w a P.length c P) (hB : P.length ≤ 2 ^ 50) (hn : n ≤ 1048576) (hc : P.length = popN n) :
    Calls Try.prog 15 #[.slice a P.length c, .int .u64 (n : Int)] w fun e w' => ∃ p, e = .returned (.tuple #[.pointer (some ⟨p, 0, none⟩), .int .i64 0]) ∧ IsW w.heap.size w' p n P ∧ Below w.heap.size w w' := by
  refine (rFrom_any P a P.length c n w hr hn hB).mono ?_
  rintro e w' ⟨⟨-, p, h1, h2⟩ | ⟨h1, -⟩, hb⟩
  · exact ⟨p, h1, h2, hb⟩
  · exact absurd hc h1
/-- a call of the law: what, of what hash, of what peaks, of how many leaves -/
structure ActR where
  what : Int
  d : List UInt8
  a : Option Addr
  c : Nat
  L : List (List UInt8)
  size : Nat
def encA (x : ActR) : List Value := .int .i64 x.what :: (bvs x.d ++ [.slice x.a x.L.length x.c, .int .u64 (x.size : Int)])
theorem encA_len {x : ActR} (h : x.d.length = 32) : (encA x).length = 35 := by simp [encA, bvs_len, h]
theorem encA_sub {x : ActR} : ∀ j v, (bvs x.d)[j]? = some v → (encA x)[1 + j]? = some v := by
  intro j v h
  have hj := (List.getElem?_eq_some_iff.1 h).1
  rw [Nat.add_comm, encA, List.getElem?_cons_succ, List.getElem?_append_left hj]
  exact h
theorem encA_33 {x : ActR} (h : x.d.length = 32) : (encA x)[33]? = some (.slice x.a x.L.length x.c) := by
  rw [encA, List.getElem?_cons_succ, List.getElem?_append_right (by rw [bvs_len, h]; omega), bvs_len, h]
  rfl
theorem encA_34 {x : ActR} (h : x.d.length = 32) : (encA x)[34]? = some (.int .u64 (x.size : Int)) := by
  rw [encA, List.getElem?_cons_succ, List.getElem?_append_right (by rw [bvs_len, h]; omega), bvs_len, h]
  rfl
theorem encA_one (x : ActR) : ∀ u ∈ encA x, u.oneCell' = true := by
  intro u hu
  rcases List.mem_cons.1 hu with rfl | hu
  · rfl
  · rcases List.mem_append.1 hu with hu | hu
    · exact bvs_one _ u hu
    · simp only [List.mem_cons, List.not_mem_nil, or_false] at hu
      rcases hu with rfl | rfl <;> rfl
def zA : List Value := .int .i64 0 :: (bvs (Z8 32) ++ [.slice none 0 0, .int .u64 0])
theorem zA_len : zA.length = 35 := by simp [zA, bvs_len, Z8]
theorem infoA : (Try.prog.info? 33).map (fun i => (i.zero, i.size)) = some (some (.agg zA.toArray), 35) := by kernel_rfl
theorem sizeA : (Try.prog.info? 33).map (·.size) = some 35 := by kernel_rfl
end Go.Proofs.Ytlfncgpjgbpdjaa

namespace Go.Proofs.Ytlfncgpjgbpdjaa
open Go.RowKit

structure InvPk2 (x : ActR) (b off n c k p pw p0 pw0 g6 : Nat) (u2 u7 u8 u9 u10 u11 u12 u13 u14 u15 u16 u17 u18 u19 u32 u33 u43 u44 u45 u46 u47 u48 u49 u50 u51 u52 u53 u54 u55 u56 u57 u58 u59 u60 u61 u62 u63 u64 u65 u66 u67 u68 u69 u70 u71 u72 u73 u74 u75 u76 u77 u78 u79 u80 u81 u82 u83 u84 u85 u86 u87 u88 u89 u90 u93 u94 u95 u96 u97 u98 u99 u100 u101 u102 u103 u104 u105 u106 u107 u108 u109 u110 u111 u112 u113 u114 u115 u116 u117 u118 u119 u120 u121 u122 u123 u124 u125 u126 u127 u128 u129 u130 u131 u132 u133 u134 u135 u136 u137 u138 u139 u140 u141 u142 u143 u144 u145 u146 u147 u148 u149 u150 u151 : Value) (W0 : World) (L : Nat → Bool) (v94 v95 v96 v97 v98 v13 v14 : Value) (wx : World) : Prop where
  t0 : L 0 = true → v94 = .pointer (some ⟨g6, 33, none⟩)
  t1 : L 1 = true → v95 = .slice x.a x.L.length x.c
  t2 : L 2 = true → OwnD wx W0.heap.size v96 x.L
  t3 : L 3 = true → v97 = .pointer (some ⟨g6, 34, none⟩)
  t4 : L 4 = true → v98 = .int .u64 (x.size : Int)
  t5 : L 5 = true → v13 = v96
  t6 : L 6 = true → v14 = .int .u64 (x.size : Int)
  bw : Below W0.heap.size W0 wx
structure InvPk3 (x : ActR) (b off n c k p pw p0 pw0 g6 : Nat) (u2 u7 u8 u9 u10 u11 u12 u13 u14 u15 u16 u17 u18 u19 u32 u33 u43 u44 u45 u46 u47 u48 u49 u50 u51 u52 u53 u54 u55 u56 u57 u58 u59 u60 u61 u62 u63 u64 u65 u66 u67 u68 u69 u70 u71 u72 u73 u74 u75 u76 u77 u78 u79 u80 u81 u82 u83 u84 u85 u86 u87 u88 u89 u90 u94 u95 u96 u97 u98 u99 u100 u101 u102 u103 u104 u105 u106 u107 u108 u109 u110 u111 u112 u113 u114 u115 u116 u117 u118 u119 u120 u121 u122 u123 u124 u125 u126 u127 u128 u129 u130 u131 u132 u133 u134 u135 u136 u137 u138 u139 u140 u141 u142 u143 u144 u145 u146 u147 u148 u149 u150 u151 : Value) (W0 : World) (L : Nat → Bool) (v94 v95 v96 v97 v98 v13 v14 : Value) (wx : World) : Prop where
  t0 : L 0 = true → v94 = .pointer (some ⟨g6, 33, none⟩)
  t1 : L 1 = true → v95 = .slice x.a x.L.length x.c
  t2 : L 2 = true → OwnD wx W0.heap.size v96 x.L
  t3 : L 3 = true → v97 = .pointer (some ⟨g6, 34, none⟩)
  t4 : L 4 = true → v98 = .int .u64 (x.size : Int)
  t5 : L 5 = true → v13 = v96
  t6 : L 6 = true → v14 = .int .u64 (x.size : Int)
  bw : Below W0.heap.size W0 wx
set_option maxRecDepth 100000 in
set_option maxHeartbeats 12800000 in
theorem Plays9_any (XS : List ActR) (al : Option Addr) (n c : Nat) (w : World) (hr : RdG 35 encA w al n c XS)
    (hn : n ≤ 2 ^ 42) (hx : ∀ x ∈ XS, x.d.length = 32 ∧ RdD w x.a x.L.length x.c x.L ∧ x.L.length ≤ 2 ^ 42) :
    Calls Try.prog 3 #[.slice al n c] w fun e w' => e = .returned (.bool true) ∧ Below w.heap.size w w' := by
  have HR0 := Lib.hid hr
  have HX := Lib.hid hx
  have B1 : Hid (Try.prog.built 29 [(0, .int .u8 1)] = some (bvs (Dg 1)).toArray) := built_dg 1
  have L1 : Hid ((Dg 1).length = 32) := Dg_len 1
  have HNB := Lib.hid hn
  clear hr hx hn
  go_enter Try.func3, Try.ntmps3
  go_upto_region 2 with (first
    | (go_at_call 5; with_reducible refine (New_r _).mono ?_; rintro e w1 ⟨p0, rfl, hI0, hp0, hb1⟩)
    | (go_at_call 6; with_reducible refine (rNew_any _).mono ?_; rintro e w2 ⟨pw0, rfl, hW0, hb2⟩))
  have hI1 := (hI0.to hb2).mono (q' := fun _ => True) (fun _ _ _ => trivial)
  have hW1 := hW0.lower hb1.size
  have hE1 : Below w.heap.size w w2 := hb1.trans (hb2.mono hb1.size)
  clear hI0 hW0 hb1 hb2
  go_upto_region 4 with (go_at_call 7; with_reducible refine (wakes9_any _).mono ?_; rintro e w3 ⟨rfl, hb3⟩)
  have hI2 := hI1.to hb3
  have hW2 := hW1.to hb3
  have hE2 : Below w.heap.size w w3 := hE1.trans (hb3.mono hE1.size)
  clear hI1 hW1 hE1 hb3
  obtain ⟨B, hB⟩ : ∃ B, B = w.heap.size := ⟨_, rfl⟩
  rw [← hB] at hp0 hW2 hE2
  have HZ : Hid (B ≤ w.heap.size) := by show _ ≤ _; omega
  have HZ2 : Hid (w.heap.size ≤ B) := by show _ ≤ _; omega
  clear hB
  go_wp2_with fail
  go_loopw [3, 4, 5] (fun rr ww ii wr => ∃ (p pw m : Nat) (P : List (List UInt8)) (k : Nat), k ≤ n ∧ rr = .pointer (some ⟨p, 0, none⟩) ∧ ww = .pointer (some ⟨pw, 0, none⟩) ∧ ii = .int .i64 (k : Int) ∧ IsR (fun _ => True) wr p m P ∧ B ≤ p ∧ IsW B wr pw m P ∧ Below B w wr) (fun _ _ ii _ => n - (intOf ii).toNat)
  case atStart => exact ⟨_, _, 0, [], 0, Nat.zero_le _, rfl, rfl, rfl, hI2, hp0, hW2, hE2⟩
  case round =>
    clear hI2 hW2 hE2 hp0
    obtain ⟨p, pw, m, P, k, hk, rfl, rfl, rfl, hI, hp, hW, hE⟩ := hrel
    by_cases hlt : k < n
    · obtain ⟨b, off, hal, hrg⟩ : ∃ b off, al = some ⟨b, off, none⟩ ∧ ∀ (h : k < XS.length), wr.rangeAt b (off + k * 35) (encA XS[k]) := by
        have h1 := HR0.out.to (hE.mono HZ2.out)
        obtain ⟨b, off, e, -, -⟩ := h1.mem (by omega)
        subst e
        exact ⟨b, off, rfl, fun h => h1.range k h⟩
      subst hal
      have hkl : k < XS.length := by rw [HR0.out.len]; exact hlt
      obtain ⟨x, hxk⟩ : ∃ x, x = XS[k] := ⟨_, rfl⟩
      have hxx := HX.out x (by rw [hxk]; exact List.getElem_mem hkl)
      have hrg := hrg hkl
      rw [← hxk] at hrg
      have HRG := Lib.hid hrg
      have LX := Lib.hid (encA_len hxx.1)
      have LD := Lib.hid hxx.1
      have ID : Hid ((Try.prog.info? 29).map (·.size) = some (bvs x.d).length) := by show _ = _; rw [bvs_len, hxx.1]; exact sizeD
      have HL := Lib.hid hxx.2.1
      have HL42 := Lib.hid hxx.2.2
      have hk0 : (0 : Int) ≤ (k : Int) := by omega
      have hkn : (k : Int) < (n : Int) := by omega
      have HLT := Lib.hid hlt
      have LSZ : Hid ((Try.prog.info? 33).map (·.size) = some (encA x).length) := by show _ = _; rw [LX.out]; exact sizeA
      have LFT : Hid (0 + (encA x).length ≤ zA.length) := by show _ ≤ _; rw [LX.out, zA_len]; exact Nat.le_refl _
      have LWH : Hid (zA.length = (encA x).length) := by show _ = _; rw [LX.out, zA_len]
      clear hrg hxx hkl hxk hlt
      go_upto_region 8 with (first
        | ((with_reducible show wpList _ _ _ (⟨some 37, .load _ _, _, _, _, _⟩ :: _) _ _); refine wpList_load_mid rfl 33 _ rfl b (off + k * 35) rfl (encA x) _ HRG.out Try.underlying33 rfl LSZ.out ?_)
        | ((with_reducible show wpList _ _ _ (⟨some 6, .alloc _, _, _, _, _⟩ :: _) _ _); refine wl_alloc rfl 33 rfl zA 35 infoA ?_; intro w4 hA4 hb4 hs4)
        | ((with_reducible show wpList _ _ _ (⟨none, .store _ _ _, _, _, _, _⟩ :: _) _ _); refine wl_store rfl 33 _ _ rfl wr.heap.size 0 rfl (encA x) rfl 33 _ hA4 LSZ.out LFT.out (encA_one x) ?_; intro w5 hA5 hg5 hs5))
      rw [whole_store _ _ LWH.out] at hA5
      have hb5 : Below wr.heap.size wr w5 := hb4.grown hg5 hb4.size (by intro k e; injection e with e; omega)
      have hI5 := hI.to hb5
      have hW5 := hW.to hb5
      have hE5 : Below B w w5 := hE.trans (hb5.mono (Nat.le_trans HZ.out hE.size))
      obtain ⟨g6, hg6⟩ : ∃ g, g = wr.heap.size := ⟨_, rfl⟩
      rw [← hg6] at hA5
      go_simp
      rw [← hg6]
      clear hA4 hb4 hs4 hg5 hs5 hb5 hI hW hE HRG LSZ LFT LWH hg6
      have c0 : w5.cell? ⟨g6, 0, none⟩ = some (.int .i64 x.what) := by have := hA5.cell 0; simpa [encA] using this
      have hwc : x.what = 0 ∨ x.what = 1 ∨ x.what = 2 ∨ x.what = 3 ∨ (x.what ≠ 0 ∧ x.what ≠ 1 ∧ x.what ≠ 2 ∧ x.what ≠ 3) := by omega
      rcases hwc with hw0 | hw0 | hw0 | hw0 | hw0
      · rw [hw0] at c0
        go_upto_region 17 with fail
        have hBs := (Nat.le_trans HZ.out hE5.size)
        have hne : g6 ≠ p := by obtain ⟨_, _, hAA, -⟩ := hI5.ex; exact arr_ne hA5 hAA (by decide)
        go_upto_region 18 with (first
          | ((with_reducible show wpList _ _ _ (⟨some 57, .load _ _, _, _, _, _⟩ :: _) _ _); refine wl_load rfl 29 _ rfl g6 1 rfl 33 (encA x) (bvs x.d) hA5 encA_sub (.array 32 5) Try.underlying29 rfl ID.out ?_)
          | (go_at_call 9; with_reducible refine (Add_both p m P x.d _ hI5 LD.out).mono ?_; rintro e w6 ⟨v1, rfl, hO3, hI3, kb3⟩))
        have hW3 := hW5.kt kb3 hI5.atom
        have hA3 := arr_kb hA5 kb3 hne
        have hE3 : Below B w w6 := hE5.trans (kb3.under (fun k e => by omega) hBs)
        have hpl := hI5.lt
        clear kb3 hne
        go_simp
        go_upto_region 19 with (first
          | ((with_reducible show wpList _ _ _ (⟨some 64, .load _ _, _, _, _, _⟩ :: _) _ _); refine wl_load rfl 29 _ rfl g6 1 rfl 33 (encA x) (bvs x.d) hA3 encA_sub (.array 32 5) Try.underlying29 rfl ID.out ?_)
          | (go_at_call 10; with_reducible refine (rAdd_both pw m P x.d _ hW3 (Nat.le_trans HZ.out hE3.size) LD.out).mono ?_; rintro e w7 ⟨v2, rfl, hO4, hW4, kz4⟩))
        have hI4 := hI3.kz kz4
        have hO34 := hO3.kz kz4
        have hE4 : Below B w w7 := hE3.trans (kz4.zlow (Nat.le_trans HZ.out hE3.size))
        have hA6 := arr_kz hA3 kz4 (by decide) (by decide)
        obtain ⟨a1, c1, e1, -⟩ := hO34.rd
        subst e1
        have hTl := adT_len m P x.d hI5.few
        have HSM := Same_own hO34 hO4 (by omega)
        clear hA3 hI3 hO3 kz4 hW3 hE3
        go_simp
        go_upto_region 21 with (go_at_call 11; with_reducible refine (HSM).mono ?_; rintro e w8 ⟨rfl, hb8⟩)
        have hI5' := hI4.to hb8
        have hO5' := hO34.to hb8
        have hW5' := hW4.to hb8
        have hE5' : Below B w w8 := hE4.trans (hb8.mono (Nat.le_trans HZ.out hE4.size))
        have hNP : ¬ ((Value.slice a1 (adT m P x.d).length c1).ownBlock = some p) := fun e => by have := (World.ownsRow.lt hO34.row _ e).1; omega
        have hAT := hO5'.atom
        have hBL : ∀ k, (Value.slice a1 (adT m P x.d).length c1).ownBlock = some k → B ≤ k := fun k e => by have := (World.ownsRow.lt hO34.row _ e).1; omega
        obtain ⟨li, hli⟩ : ∃ l, l = (adT m P x.d).length := ⟨_, rfl⟩
        rw [← hli] at hI5' hO5' hNP hAT hBL
        have HTL : Hid ((adT m P x.d).length = li) := hli.symm
        go_simp
        rw [← hli]
        have HI5 := Lib.hid hI5'
        have HO5 := Lib.hid hO5'
        have HW5 := Lib.hid hW5'
        have HE5 := Lib.hid hE5'
        have HNP := Lib.hid hNP
        have HAT := Lib.hid hAT
        have HBL := Lib.hid hBL
        have HLB : Hid (li ≤ 2 ^ 42) := by show _ ≤ _; omega
        clear hI5' hO5' hW5' hE5' hNP hAT hBL hli hTl HSM hb8 hO34 hO4 hI4 hW4 hE4 hI5 hW5 hA5 hE5
        go_wp2_with fail
        go_loopw [12] (fun kk wq => ∃ (j : Nat) (M : List (List UInt8)), j ≤ li ∧ kk = .int .i64 (j : Int) ∧ M.length = li ∧ OwnD wq w5.heap.size (.slice a1 li c1) M ∧ KB (fun q => (Value.slice a1 li c1).ownBlock = some q) w8 wq) (fun kk _ => li - (intOf kk).toNat)
        case atStart => exact ⟨0, (adT m P x.d), Nat.zero_le _, rfl, HTL.out, HO5.out, KB.refl _ _⟩
        case round =>
          obtain ⟨j, M, hj, rfl, hM, hOw, hKb⟩ := hrel
          by_cases hjl : j < li
          · obtain ⟨G, hG⟩ : ∃ G, a1 = some ⟨G, 0, none⟩ := by
              obtain ⟨g, c, e, -⟩ := hOw.solid (by omega)
              injection e with e
              exact ⟨g, e⟩
            subst hG
            have hj0 : (0 : Int) ≤ (j : Int) := by omega
            have hjl' : (j : Int) < (li : Int) := by omega
            have hat := hOw.cellAt j hjl
            have hcl := hat.1
            have hfr := hat.2
            have hfl := hOw.flip j (by omega)
            have hgw := setCells_grown G [(.int .u8 ((((M.getD j []).getD 0 0 ^^^ 1).toNat : Nat) : Int))] wr (j * 32)
            have hkf := hKb.grown hgw rfl
            obtain ⟨Y, hY⟩ : ∃ Y, Y = (M.getD j []).getD 0 0 := ⟨_, rfl⟩
            rw [← hY] at hcl hfl hkf
            rw [← xor_one] at hfl hkf
            have HFL := Lib.hid hfl
            have HKF := Lib.hid hkf
            have HML : Hid ((flipL M j).length = li) := by show _ = _; rw [flipL_len]; exact hM
            have HJL := Lib.hid hjl
            have hlb := HLB.out
            clear hat hfl hgw hkf hOw hKb hM hY c0
            go_upto_region 24 with fail
            go_region
            go_wp2_with fail
            go_roundw
            case rel => exact ⟨j + 1, flipL M j, HJL.out, by go_num, HML.out, ⟨HFL.out.row, HFL.out.all⟩, HKF.out.drew⟩
            case measure => have := HJL.out; simp [intOf]; omega
          · obtain rfl : j = li := by omega
            have hjl' : ¬ ((j : Int) < (j : Int)) := by omega
            have hI6 := HI5.out.kb hKb HNP.out (fun _ e => e)
            have hW6 := HW5.out.kt hKb HAT.out
            have hE6 := HE5.out.trans (hKb.under HBL.out (Nat.le_trans HZ.out HE5.out.size))
            clear hKb hOw hM
            have hAL := alike_any (q := _) (B := B) p pw (adN m) (adP m P x.d) _ hI6 hW6
            have hnb := HNB.out
            have hkn := HLT.out
            clear c0 hA6
            go_wp2_with (go_at_call 16; with_reducible refine (hAL).mono ?_; rintro e wz ⟨rfl, hbz⟩)
            go_roundw
            case rel => exact ⟨p, pw, (adN m), (adP m P x.d), k + 1, HLT.out, rfl, rfl, by go_num, (hI6.to hbz).mono (fun _ _ _ => trivial), hp, hW6.to hbz, hE6.trans (hbz.mono (Nat.le_trans HZ.out hE6.size))⟩
            case measure => have := HLT.out; simp [intOf]; omega
      · rw [hw0] at c0
        have hBs5 := (Nat.le_trans HZ.out hE5.size)
        have hpl5 := hI5.lt
        go_upto_region 13 with (go_at_call 8; with_reducible refine (Copy_r p m P _ hI5).mono ?_; rintro e w9 ⟨p2, rfl, hIc, hpc, hb9⟩)
        have hI9 := hI5.to hb9
        have hW9 := hW5.to hb9
        have hA9 := hA5.kept hb9
        have hE9 : Below B w w9 := hE5.trans (hb9.mono hBs5)
        clear hb9 hI5 hW5 hA5 hE5 c0
        go_upto_region 17 with (first
          | ((with_reducible show wpList _ _ _ (⟨some 51, .build _ _, _, _, _, _⟩ :: _) _ _); refine wpList_buildTo rfl 29 _ rfl (some 51) rfl (bvs (Dg 1)).toArray (by simpa [Act.eval] using B1.out) ?_)
          | (go_at_call 9; with_reducible refine (Add_both p m P (Dg 1) _ hI9 L1.out).mono ?_; rintro e w10 ⟨vo, rfl, hOo, hIo, kb10⟩))
        have hne9 : g6 ≠ p := by obtain ⟨_, _, hAA, -⟩ := hI9.ex; exact arr_ne hA9 hAA (by decide)
        have hI10 := hIc.kb kb10 (by omega) (fun b e => by omega)
        have hW10 := hW9.kt kb10 hI9.atom
        have hA10 := arr_kb hA9 kb10 hne9
        have hE10 : Below B w w10 := hE9.trans (kb10.under (fun k e => by omega) (Nat.le_trans HZ.out hE9.size))
        have hp2 : B ≤ p2 := by omega
        have c0 : True := trivial
        clear hI9 hW9 hA9 hE9 kb10 hIc hIo hOo hne9
        go_simp
        have hBs := (Nat.le_trans HZ.out hE10.size)
        have hne : g6 ≠ p2 := by obtain ⟨_, _, hAA, -⟩ := hI10.ex; exact arr_ne hA10 hAA (by decide)
        go_upto_region 18 with (first
          | ((with_reducible show wpList _ _ _ (⟨some 57, .load _ _, _, _, _, _⟩ :: _) _ _); refine wl_load rfl 29 _ rfl g6 1 rfl 33 (encA x) (bvs x.d) hA10 encA_sub (.array 32 5) Try.underlying29 rfl ID.out ?_)
          | (go_at_call 9; with_reducible refine (Add_both p2 m P x.d _ hI10 LD.out).mono ?_; rintro e w6 ⟨v1, rfl, hO3, hI3, kb3⟩))
        have hW3 := hW10.kt kb3 hI10.atom
        have hA3 := arr_kb hA10 kb3 hne
        have hE3 : Below B w w6 := hE10.trans (kb3.under (fun k e => by omega) hBs)
        have hpl := hI10.lt
        clear kb3 hne
        go_simp
        go_upto_region 19 with (first
          | ((with_reducible show wpList _ _ _ (⟨some 64, .load _ _, _, _, _, _⟩ :: _) _ _); refine wl_load rfl 29 _ rfl g6 1 rfl 33 (encA x) (bvs x.d) hA3 encA_sub (.array 32 5) Try.underlying29 rfl ID.out ?_)
          | (go_at_call 10; with_reducible refine (rAdd_both pw m P x.d _ hW3 (Nat.le_trans HZ.out hE3.size) LD.out).mono ?_; rintro e w7 ⟨v2, rfl, hO4, hW4, kz4⟩))
        have hI4 := hI3.kz kz4
        have hO34 := hO3.kz kz4
        have hE4 : Below B w w7 := hE3.trans (kz4.zlow (Nat.le_trans HZ.out hE3.size))
        have hA6 := arr_kz hA3 kz4 (by decide) (by decide)
        obtain ⟨a1, c1, e1, -⟩ := hO34.rd
        subst e1
        have hTl := adT_len m P x.d hI10.few
        have HSM := Same_own hO34 hO4 (by omega)
        clear hA3 hI3 hO3 kz4 hW3 hE3
        go_simp
        go_upto_region 21 with (go_at_call 11; with_reducible refine (HSM).mono ?_; rintro e w8 ⟨rfl, hb8⟩)
        have hI5' := hI4.to hb8
        have hO5' := hO34.to hb8
        have hW5' := hW4.to hb8
        have hE5' : Below B w w8 := hE4.trans (hb8.mono (Nat.le_trans HZ.out hE4.size))
        have hNP : ¬ ((Value.slice a1 (adT m P x.d).length c1).ownBlock = some p2) := fun e => by have := (World.ownsRow.lt hO34.row _ e).1; omega
        have hAT := hO5'.atom
        have hBL : ∀ k, (Value.slice a1 (adT m P x.d).length c1).ownBlock = some k → B ≤ k := fun k e => by have := (World.ownsRow.lt hO34.row _ e).1; omega
        obtain ⟨li, hli⟩ : ∃ l, l = (adT m P x.d).length := ⟨_, rfl⟩
        rw [← hli] at hI5' hO5' hNP hAT hBL
        have HTL : Hid ((adT m P x.d).length = li) := hli.symm
        go_simp
        rw [← hli]
        have HI5 := Lib.hid hI5'
        have HO5 := Lib.hid hO5'
        have HW5 := Lib.hid hW5'
        have HE5 := Lib.hid hE5'
        have HNP := Lib.hid hNP
        have HAT := Lib.hid hAT
        have HBL := Lib.hid hBL
        have HLB : Hid (li ≤ 2 ^ 42) := by show _ ≤ _; omega
        clear hI5' hO5' hW5' hE5' hNP hAT hBL hli hTl HSM hb8 hO34 hO4 hI4 hW4 hE4 hI10 hW10 hA10 hE10
        go_wp2_with fail
        go_loopw [12] (fun kk wq => ∃ (j : Nat) (M : List (List UInt8)), j ≤ li ∧ kk = .int .i64 (j : Int) ∧ M.length = li ∧ OwnD wq w10.heap.size (.slice a1 li c1) M ∧ KB (fun q => (Value.slice a1 li c1).ownBlock = some q) w8 wq) (fun kk _ => li - (intOf kk).toNat)
        case atStart => exact ⟨0, (adT m P x.d), Nat.zero_le _, rfl, HTL.out, HO5.out, KB.refl _ _⟩
        case round =>
          obtain ⟨j, M, hj, rfl, hM, hOw, hKb⟩ := hrel
          by_cases hjl : j < li
          · obtain ⟨G, hG⟩ : ∃ G, a1 = some ⟨G, 0, none⟩ := by
              obtain ⟨g, c, e, -⟩ := hOw.solid (by omega)
              injection e with e
              exact ⟨g, e⟩
            subst hG
            have hj0 : (0 : Int) ≤ (j : Int) := by omega
            have hjl' : (j : Int) < (li : Int) := by omega
            have hat := hOw.cellAt j hjl
            have hcl := hat.1
            have hfr := hat.2
            have hfl := hOw.flip j (by omega)
            have hgw := setCells_grown G [(.int .u8 ((((M.getD j []).getD 0 0 ^^^ 1).toNat : Nat) : Int))] wr (j * 32)
            have hkf := hKb.grown hgw rfl
            obtain ⟨Y, hY⟩ : ∃ Y, Y = (M.getD j []).getD 0 0 := ⟨_, rfl⟩
            rw [← hY] at hcl hfl hkf
            rw [← xor_one] at hfl hkf
            have HFL := Lib.hid hfl
            have HKF := Lib.hid hkf
            have HML : Hid ((flipL M j).length = li) := by show _ = _; rw [flipL_len]; exact hM
            have HJL := Lib.hid hjl
            have hlb := HLB.out
            clear hat hfl hgw hkf hOw hKb hM hY c0
            go_upto_region 24 with fail
            go_region
            go_wp2_with fail
            go_roundw
            case rel => exact ⟨j + 1, flipL M j, HJL.out, by go_num, HML.out, ⟨HFL.out.row, HFL.out.all⟩, HKF.out.drew⟩
            case measure => have := HJL.out; simp [intOf]; omega
          · obtain rfl : j = li := by omega
            have hjl' : ¬ ((j : Int) < (j : Int)) := by omega
            have hI6 := HI5.out.kb hKb HNP.out (fun _ e => e)
            have hW6 := HW5.out.kt hKb HAT.out
            have hE6 := HE5.out.trans (hKb.under HBL.out (Nat.le_trans HZ.out HE5.out.size))
            clear hKb hOw hM
            have hAL := alike_any (q := _) (B := B) p2 pw (adN m) (adP m P x.d) _ hI6 hW6
            have hnb := HNB.out
            have hkn := HLT.out
            clear c0 hA6
            go_wp2_with (go_at_call 16; with_reducible refine (hAL).mono ?_; rintro e wz ⟨rfl, hbz⟩)
            go_roundw
            case rel => exact ⟨p2, pw, (adN m), (adP m P x.d), k + 1, HLT.out, rfl, rfl, by go_num, (hI6.to hbz).mono (fun _ _ _ => trivial), hp2, hW6.to hbz, hE6.trans (hbz.mono (Nat.le_trans HZ.out hE6.size))⟩
            case measure => have := HLT.out; simp [intOf]; omega
      · rw [hw0] at c0
        have z5 := (Nat.le_trans HZ.out hE5.size)
        have hpl5 := hI5.lt
        have C33 : Hid (∀ wx, Below w5.heap.size w5 wx → wx.cell? ⟨g6, 33, none⟩ = some (.slice x.a x.L.length x.c)) := fun wx hb => ((hA5.kept hb).cell 33).trans (encA_33 LD.out)
        have C34 : Hid (∀ wx, Below w5.heap.size w5 wx → wx.cell? ⟨g6, 34, none⟩ = some (.int .u64 (x.size : Int))) := fun wx hb => ((hA5.kept hb).cell 34).trans (encA_34 LD.out)
        have HLX : Hid (∀ wx, Below w5.heap.size w5 wx → RdD wx x.a x.L.length x.c x.L) := fun wx hb => HL.out.to ((hE5.trans (hb.mono z5)).mono HZ2.out)
        have CC0 : Hid (∀ wx, Below w5.heap.size w5 wx → wx.cell? ⟨g6, 0, none⟩ = some (.int .i64 2)) := fun wx hb => (hb.cell (p := ⟨g6, 0, none⟩) hA5.lt).trans c0
        go_upto_region 27 with fail
        refine wp_region_steps [[], [0], [1], [], [3], [2], [4]] (by kernel_rfl) (by kernel_rfl) (fun L a wx => ∃ v94 v95 v96 v97 v98 v13 v14, a = ⟨#[.slice (some ⟨b, off, none⟩) n c, undef, u2, .pointer (some ⟨p, 0, none⟩), .pointer (some ⟨pw, 0, none⟩), .int .i64 ↑k, .pointer (some ⟨g6, 0, none⟩), u7, u8, u9, u10, u11, u12, v13, v14, u15, u16, u17, u18, u19, .pointer (some ⟨p0, 0, none⟩), .pointer (some ⟨pw0, 0, none⟩), .pointer (some ⟨p0, 0, none⟩), .bool false, .bool false, .bool true, .bool false, .bool false, .int .i64 ↑k, .slice (some ⟨b, off, none⟩) n c, .int .i64 ↑n, .bool true, u32, u33, .slice (some ⟨b, off, none⟩) n c, .int .i64 ↑k, .pointer (some ⟨b, off + k * 35, none⟩), .agg (encA x).toArray, .pointer (some ⟨g6, 0, none⟩), .int .i64 2, .bool false, .bool false, .bool false, u43, u44, u45, u46, u47, u48, u49, u50, u51, u52, u53, u54, u55, u56, u57, u58, u59, u60, u61, u62, u63, u64, u65, u66, u67, u68, u69, u70, u71, u72, u73, u74, u75, u76, u77, u78, u79, u80, u81, u82, u83, u84, u85, u86, u87, u88, u89, u90, .bool true, .bool true, u93, v94, v95, v96, v97, v98, u99, u100, u101, u102, u103, u104, u105, u106, u107, u108, u109, u110, u111, u112, u113, u114, u115, u116, u117, u118, u119, u120, u121, u122, u123, u124, u125, u126, u127, u128, u129, u130, u131, u132, u133, u134, u135, u136, u137, u138, u139, u140, u141, u142, u143, u144, u145, u146, u147, u148, u149, u150, u151], []⟩ ∧ InvPk2 x b off n c k p pw p0 pw0 g6 u2 u7 u8 u9 u10 u11 u12 u13 u14 u15 u16 u17 u18 u19 u32 u33 u43 u44 u45 u46 u47 u48 u49 u50 u51 u52 u53 u54 u55 u56 u57 u58 u59 u60 u61 u62 u63 u64 u65 u66 u67 u68 u69 u70 u71 u72 u73 u74 u75 u76 u77 u78 u79 u80 u81 u82 u83 u84 u85 u86 u87 u88 u89 u90 u93 u94 u95 u96 u97 u98 u99 u100 u101 u102 u103 u104 u105 u106 u107 u108 u109 u110 u111 u112 u113 u114 u115 u116 u117 u118 u119 u120 u121 u122 u123 u124 u125 u126 u127 u128 u129 u130 u131 u132 u133 u134 u135 u136 u137 u138 u139 u140 u141 u142 u143 u144 u145 u146 u147 u148 u149 u150 u151 w5 L v94 v95 v96 v97 v98 v13 v14 wx) ?_ ⟨?_, ?_, ?_, ?_, ?_, ?_, ?_, trivial⟩ ?_
        · refine ⟨_, _, _, _, _, _, _, rfl, ⟨?_, ?_, ?_, ?_, ?_, ?_, ?_, (Below.refl _ _).drew⟩⟩ <;> (intro h; exact absurd h (by decide))
        · rintro L a wx ⟨v94, v95, v96, v97, v98, v13, v14, rfl, hI⟩ hL hdep hcl K hK
          go_simp
          exact hK _ _ ⟨_, v95, v96, v97, v98, v13, v14, rfl, ⟨fun _ => rfl, hI.t1, hI.t2, hI.t3, hI.t4, hI.t5, hI.t6, hI.bw⟩⟩
        · rintro L a wx ⟨v94, v95, v96, v97, v98, v13, v14, rfl, hI⟩ hL hdep hcl K hK
          obtain rfl := hI.t0 (hdep 0 (by decide))
          have cc := C33.out wx hI.bw
          go_simp
          exact hK _ _ ⟨_, _, v96, v97, v98, v13, v14, rfl, ⟨hI.t0, fun _ => rfl, hI.t2, hI.t3, hI.t4, hI.t5, hI.t6, hI.bw⟩⟩
        · rintro L a wx ⟨v94, v95, v96, v97, v98, v13, v14, rfl, hI⟩ hL hdep hcl K hK
          obtain rfl := hI.t1 (hdep 1 (by decide))
          refine ow_of_wl rfl ?_
          refine wl_rowD rfl _ _ rfl wx.heap.size (.slice none 0 0) [] rfl (OwnD.nil _ _) x.a x.L.length x.c x.L rfl (HLX.out wx hI.bw) (by have := HL42.out; simp; omega) (Nat.le_refl _) ?_
          intro v' w' hO hb
          rw [List.nil_append] at hO
          show K _ _
          exact hK _ _ ⟨v94, _, _, v97, v98, v13, v14, rfl, ⟨hI.t0, hI.t1, (fun _ => hO.base hI.bw.size), hI.t3, hI.t4, (fun h => by have h4 := hcl 5 (by decide) (show L 5 = true from h) 2 (by decide); rw [hL] at h4; cases h4), hI.t6, (hI.bw).trans (hb.mono (hI.bw).size)⟩⟩
        · rintro L a wx ⟨v94, v95, v96, v97, v98, v13, v14, rfl, hI⟩ hL hdep hcl K hK
          go_simp
          exact hK _ _ ⟨v94, v95, v96, _, v98, v13, v14, rfl, ⟨hI.t0, hI.t1, hI.t2, fun _ => rfl, hI.t4, hI.t5, hI.t6, hI.bw⟩⟩
        · rintro L a wx ⟨v94, v95, v96, v97, v98, v13, v14, rfl, hI⟩ hL hdep hcl K hK
          obtain rfl := hI.t3 (hdep 3 (by decide))
          have cc := C34.out wx hI.bw
          go_simp
          exact hK _ _ ⟨v94, v95, v96, _, _, v13, v14, rfl, ⟨hI.t0, hI.t1, hI.t2, hI.t3, fun _ => rfl, hI.t5, hI.t6, hI.bw⟩⟩
        · rintro L a wx ⟨v94, v95, v96, v97, v98, v13, v14, rfl, hI⟩ hL hdep hcl K hK
          go_simp
          exact hK _ _ ⟨v94, v95, v96, v97, v98, _, v14, rfl, ⟨hI.t0, hI.t1, hI.t2, hI.t3, hI.t4, fun _ => rfl, hI.t6, hI.bw⟩⟩
        · rintro L a wx ⟨v94, v95, v96, v97, v98, v13, v14, rfl, hI⟩ hL hdep hcl K hK
          obtain rfl := hI.t4 (hdep 4 (by decide))
          go_simp
          exact hK _ _ ⟨v94, v95, v96, v97, _, v13, _, rfl, ⟨hI.t0, hI.t1, hI.t2, hI.t3, hI.t4, hI.t5, fun _ => rfl, hI.bw⟩⟩
        · rintro a wx ⟨v94, v95, v96, v97, v98, v13, v14, rfl, hI⟩
          have hO := hI.t2 rfl
          have e1 := hI.t5 rfl
          have e2 := hI.t6 rfl
          have hbw := hI.bw
          clear hI
          subst e1 e2
          obtain ⟨a1, c1, e3, hr⟩ := hO.rd
          subst e3
          have hIq := (hI5.mono (q' := fun b => b < w5.heap.size) (fun b hb _ => hb)).to hbw
          have hWq := hW5.to hbw
          have hEq := hE5.trans (hbw.mono z5)
          have cq := CC0.out wx hbw
          have hEqs := hEq.size
          clear hI5 hW5 hA5 hE5 C33 C34 HLX CC0 c0 hbw
          go_upto_region 30 with fail
          clear cq
          have HL42b := HL42
          have HL50 : Hid (x.L.length ≤ 2 ^ 50) := by show _ ≤ _; have := HL42.out; omega
          by_cases hok : x.size ≤ 1048576 ∧ x.L.length = popN x.size
          · have HOK1 := Lib.hid hok.1
            have HOK2 := Lib.hid hok.2
            clear hok hIq hWq
            have c0 : True := trivial
            have hFr := From_any x.L a1 c1 x.size wx hr HOK1.out HOK2.out
            go_upto_region 31 with (go_at_call 14; with_reducible refine (hFr).mono ?_; rintro e wa ⟨p2, rfl, hI2, hp2, hba⟩)
            have hra := hr.to hba
            have hFw := rFrom_ok x.L a1 c1 x.size wa hra HL50.out HOK1.out HOK2.out
            go_upto_region 32 with (go_at_call 15; with_reducible refine (hFw).mono ?_; rintro e wb ⟨pw2, rfl, hW2, hbb⟩)
            have hbab := hba.trans (hbb.mono hba.size)
            have hI3 := hI2.to hbb
            have hOb := hO.to hbab
            have hEb := hEq.trans (hbab.mono (Nat.le_trans HZ.out hEq.size))
            have hol := fun g e => World.ownsRow.lt hO.row g e
            have hEs := Nat.le_trans HZ.out hEq.size
            have hNP : ¬ ((Value.slice a1 x.L.length c1).ownBlock = some p2) := fun e => by have := (hol _ e).2; omega
            have hNQ : ∀ b, wx.heap.size ≤ b → ¬ ((Value.slice a1 x.L.length c1).ownBlock = some b) := fun b h e => by have := (hol _ e).2; omega
            have hBL : ∀ k, (Value.slice a1 x.L.length c1).ownBlock = some k → B ≤ k := fun k e => by have := (hol _ e).1; omega
            have HP2 : Hid (B ≤ p2) := by show _ ≤ _; omega
            have HALL := Lib.hid hO.all
            have hLb : x.L.length ≤ 2 ^ 42 := HL42b.out
            have ATT := hOb.atom
            obtain ⟨li, hli⟩ : ∃ l, l = x.L.length := ⟨_, rfl⟩
            rw [← hli] at hOb hNP hNQ hBL hLb ATT
            have HTL : Hid (x.L.length = li) := hli.symm
            go_simp
            rw [← hli]
            have HI5 := Lib.hid hI3
            have HO5 := Lib.hid hOb
            have HE5 := Lib.hid hEb
            have HNP := Lib.hid hNP
            have HNQ := Lib.hid hNQ
            have HBL := Lib.hid hBL
            have HLB : Hid (li ≤ 2 ^ 42) := hLb
            clear hFr hFw hra hI2 hW2 hba hbb hbab hr hO hI3 hOb hEb hol hEs hNP hNQ hBL hLb ATT hp2 hli
            go_wp2_with fail
            go_loopw [19] (fun kk wq => ∃ (j : Nat) (M : List (List UInt8)), j ≤ li ∧ kk = .int .i64 (j : Int) ∧ M.length = li ∧ OwnD wq w5.heap.size (.slice a1 li c1) M ∧ KB (fun q => (Value.slice a1 li c1).ownBlock = some q) wb wq) (fun kk _ => li - (intOf kk).toNat)
            case atStart => exact ⟨0, x.L, Nat.zero_le _, rfl, HTL.out, HO5.out, KB.refl _ _⟩
            case round =>
              obtain ⟨j, M, hj, rfl, hM, hOw, hKb⟩ := hrel
              by_cases hjl : j < li
              · obtain ⟨G, hG⟩ : ∃ G, a1 = some ⟨G, 0, none⟩ := by
                  obtain ⟨g, c, e, -⟩ := hOw.solid (by omega)
                  injection e with e
                  exact ⟨g, e⟩
                subst hG
                have hj0 : (0 : Int) ≤ (j : Int) := by omega
                have hjl' : (j : Int) < (li : Int) := by omega
                have hat := hOw.cellAt j hjl
                have hcl := hat.1
                have hfr := hat.2
                have hfl := hOw.flip j (by omega)
                have hgw := setCells_grown G [(.int .u8 ((((M.getD j []).getD 0 0 ^^^ 1).toNat : Nat) : Int))] wr (j * 32)
                have hkf := hKb.grown hgw rfl
                obtain ⟨Y, hY⟩ : ∃ Y, Y = (M.getD j []).getD 0 0 := ⟨_, rfl⟩
                rw [← hY] at hcl hfl hkf
                rw [← xor_one] at hfl hkf
                have HFL := Lib.hid hfl
                have HKF := Lib.hid hkf
                have HML : Hid ((flipL M j).length = li) := by show _ = _; rw [flipL_len]; exact hM
                have HJL := Lib.hid hjl
                have hlb := HLB.out
                clear hat hfl hgw hkf hOw hKb hM hY c0
                go_upto_region 39 with fail
                go_region
                go_wp2_with fail
                go_roundw
                case rel => exact ⟨j + 1, flipL M j, HJL.out, by go_num, HML.out, ⟨HFL.out.row, HFL.out.all⟩, HKF.out.drew⟩
                case measure => have := HJL.out; simp [intOf]; omega
              · obtain rfl : j = li := by omega
                have hjl' : ¬ ((j : Int) < (j : Int)) := by omega
                have hI6 := HI5.out.kb hKb HNP.out HNQ.out
                have hE6 := HE5.out.trans (hKb.under HBL.out (Nat.le_trans HZ.out HE5.out.size))
                clear hKb hOw hM
                have hPk := Peaks_any p2 x.size x.L wr hI6
                go_upto_region 42 with (first
                  | (go_at_call 12; with_reducible refine (hPk).mono ?_; rintro e wc ⟨rfl, hAc, hbc⟩)
                  | (go_at_call 15; with_reducible refine (rFrom_ok x.L (some ⟨wr.heap.size, 0, none⟩) x.L.length x.size _ (rdd_arr' hAc HALL.out rfl) HL50.out HOK1.out HOK2.out).mono ?_; rintro e wd ⟨pw3, rfl, hW3, hbd⟩))
                have hbcd := hbc.trans (hbd.mono hbc.size)
                have hI7 := hI6.to hbcd
                have hE7 := hE6.trans (hbcd.mono (Nat.le_trans HZ.out hE6.size))
                have hW7 := hW3.lower (B' := B) (Nat.le_trans (Nat.le_trans HZ.out hE6.size) hbc.size)
                have hp2 := HP2.out
                clear hPk hbc hbd hbcd hAc hI6 hW3
                have hAL := alike_any (q := _) (B := B) p2 pw3 x.size x.L _ hI7 hW7
                have hnb := HNB.out
                have hkn := HLT.out
                clear c0
                go_wp2_with (go_at_call 16; with_reducible refine (hAL).mono ?_; rintro e wz ⟨rfl, hbz⟩)
                go_roundw
                case rel => exact ⟨p2, pw3, x.size, x.L, k + 1, HLT.out, rfl, rfl, by go_num, (hI7.to hbz).mono (fun _ _ _ => trivial), hp2, hW7.to hbz, hE7.trans (hbz.mono (Nat.le_trans HZ.out hE7.size))⟩
                case measure => have := HLT.out; simp [intOf]; omega

          · have HNOK : Hid (¬ (x.size ≤ 1048576 ∧ x.L.length = popN x.size)) := hok
            clear hok
            have c0 : True := trivial
            have hFr := From_err x.L a1 c1 x.size wx HNOK.out
            go_upto_region 31 with (go_at_call 14; with_reducible refine (hFr).mono ?_; rintro e w0 ⟨rfl, hw0⟩; obtain rfl := hw0)
            have hFw := rFrom_err x.L a1 c1 x.size wx hr HL50.out HNOK.out
            go_upto_region 32 with (go_at_call 15; with_reducible refine (hFw).mono ?_; rintro e wb ⟨rfl, hbb⟩)
            have hI3 := hIq.to hbb
            have hOb := hO.to hbb
            have hWb := hWq.to hbb
            have hEb := hEq.trans (hbb.mono (Nat.le_trans HZ.out hEq.size))
            have hol := fun g e => World.ownsRow.lt hO.row g e
            have hEs := Nat.le_trans HZ.out hEq.size
            have hNP : ¬ ((Value.slice a1 x.L.length c1).ownBlock = some p) := fun e => by have := (hol _ e).1; omega
            have hNQ : ∀ b, b < w5.heap.size → ¬ ((Value.slice a1 x.L.length c1).ownBlock = some b) := fun b h e => by have := (hol _ e).1; omega
            have hBL : ∀ k, (Value.slice a1 x.L.length c1).ownBlock = some k → B ≤ k := fun k e => by have := (hol _ e).1; omega
            have hLb : x.L.length ≤ 2 ^ 42 := HL42b.out
            have ATT := hOb.atom
            obtain ⟨li, hli⟩ : ∃ l, l = x.L.length := ⟨_, rfl⟩
            rw [← hli] at hOb hNP hNQ hBL hLb ATT
            have HTL : Hid (x.L.length = li) := hli.symm
            go_simp
            rw [← hli]
            have HI5 := Lib.hid hI3
            have HO5 := Lib.hid hOb
            have HE5 := Lib.hid hEb
            have HNP := Lib.hid hNP
            have HNQ := Lib.hid hNQ
            have HBL := Lib.hid hBL
            have HLB : Hid (li ≤ 2 ^ 42) := hLb
            have HW5 := Lib.hid hWb
            have HAT := Lib.hid ATT
            clear hFr hFw hbb hr hO hI3 hOb hWb hEb hol hEs hNP hNQ hBL hLb ATT hli
            go_wp2_with fail
            go_loopw [19] (fun kk wq => ∃ (j : Nat) (M : List (List UInt8)), j ≤ li ∧ kk = .int .i64 (j : Int) ∧ M.length = li ∧ OwnD wq w5.heap.size (.slice a1 li c1) M ∧ KB (fun q => (Value.slice a1 li c1).ownBlock = some q) wb wq) (fun kk _ => li - (intOf kk).toNat)
            case atStart => exact ⟨0, x.L, Nat.zero_le _, rfl, HTL.out, HO5.out, KB.refl _ _⟩
            case round =>
              obtain ⟨j, M, hj, rfl, hM, hOw, hKb⟩ := hrel
              by_cases hjl : j < li
              · obtain ⟨G, hG⟩ : ∃ G, a1 = some ⟨G, 0, none⟩ := by
                  obtain ⟨g, c, e, -⟩ := hOw.solid (by omega)
                  injection e with e
                  exact ⟨g, e⟩
                subst hG
                have hj0 : (0 : Int) ≤ (j : Int) := by omega
                have hjl' : (j : Int) < (li : Int) := by omega
                have hat := hOw.cellAt j hjl
                have hcl := hat.1
                have hfr := hat.2
                have hfl := hOw.flip j (by omega)
                have hgw := setCells_grown G [(.int .u8 ((((M.getD j []).getD 0 0 ^^^ 1).toNat : Nat) : Int))] wr (j * 32)
                have hkf := hKb.grown hgw rfl
                obtain ⟨Y, hY⟩ : ∃ Y, Y = (M.getD j []).getD 0 0 := ⟨_, rfl⟩
                rw [← hY] at hcl hfl hkf
                rw [← xor_one] at hfl hkf
                have HFL := Lib.hid hfl
                have HKF := Lib.hid hkf
                have HML : Hid ((flipL M j).length = li) := by show _ = _; rw [flipL_len]; exact hM
                have HJL := Lib.hid hjl
                have hlb := HLB.out
                clear hat hfl hgw hkf hOw hKb hM hY c0
                go_upto_region 39 with fail
                go_region
                go_wp2_with fail
                go_roundw
                case rel => exact ⟨j + 1, flipL M j, HJL.out, by go_num, HML.out, ⟨HFL.out.row, HFL.out.all⟩, HKF.out.drew⟩
                case measure => have := HJL.out; simp [intOf]; omega
              · obtain rfl : j = li := by omega
                have hjl' : ¬ ((j : Int) < (j : Int)) := by omega
                have hI6 := HI5.out.kb hKb HNP.out HNQ.out
                have hW6 := HW5.out.kt hKb HAT.out
                have hE6 := HE5.out.trans (hKb.under HBL.out (Nat.le_trans HZ.out HE5.out.size))
                clear hKb hOw hM
                have hAL := alike_any (q := _) (B := B) p pw m P _ hI6 hW6
                have hnb := HNB.out
                have hkn := HLT.out
                clear c0
                go_wp2_with (go_at_call 16; with_reducible refine (hAL).mono ?_; rintro e wz ⟨rfl, hbz⟩)
                go_roundw
                case rel => exact ⟨p, pw, m, P, k + 1, HLT.out, rfl, rfl, by go_num, (hI6.to hbz).mono (fun _ _ _ => trivial), hp, hW6.to hbz, hE6.trans (hbz.mono (Nat.le_trans HZ.out hE6.size))⟩
                case measure => have := HLT.out; simp [intOf]; omega
      · rw [hw0] at c0
        have z5 := (Nat.le_trans HZ.out hE5.size)
        have hpl5 := hI5.lt
        have C33 : Hid (∀ wx, Below w5.heap.size w5 wx → wx.cell? ⟨g6, 33, none⟩ = some (.slice x.a x.L.length x.c)) := fun wx hb => ((hA5.kept hb).cell 33).trans (encA_33 LD.out)
        have C34 : Hid (∀ wx, Below w5.heap.size w5 wx → wx.cell? ⟨g6, 34, none⟩ = some (.int .u64 (x.size : Int))) := fun wx hb => ((hA5.kept hb).cell 34).trans (encA_34 LD.out)
        have HLX : Hid (∀ wx, Below w5.heap.size w5 wx → RdD wx x.a x.L.length x.c x.L) := fun wx hb => HL.out.to ((hE5.trans (hb.mono z5)).mono HZ2.out)
        have CC0 : Hid (∀ wx, Below w5.heap.size w5 wx → wx.cell? ⟨g6, 0, none⟩ = some (.int .i64 3)) := fun wx hb => (hb.cell (p := ⟨g6, 0, none⟩) hA5.lt).trans c0
        go_upto_region 27 with fail
        refine wp_region_steps [[], [0], [1], [], [3], [2], [4]] (by kernel_rfl) (by kernel_rfl) (fun L a wx => ∃ v94 v95 v96 v97 v98 v13 v14, a = ⟨#[.slice (some ⟨b, off, none⟩) n c, undef, u2, .pointer (some ⟨p, 0, none⟩), .pointer (some ⟨pw, 0, none⟩), .int .i64 ↑k, .pointer (some ⟨g6, 0, none⟩), u7, u8, u9, u10, u11, u12, v13, v14, u15, u16, u17, u18, u19, .pointer (some ⟨p0, 0, none⟩), .pointer (some ⟨pw0, 0, none⟩), .pointer (some ⟨p0, 0, none⟩), .bool false, .bool false, .bool true, .bool false, .bool false, .int .i64 ↑k, .slice (some ⟨b, off, none⟩) n c, .int .i64 ↑n, .bool true, u32, u33, .slice (some ⟨b, off, none⟩) n c, .int .i64 ↑k, .pointer (some ⟨b, off + k * 35, none⟩), .agg (encA x).toArray, .pointer (some ⟨g6, 0, none⟩), .int .i64 3, .bool false, .bool false, .bool false, u43, u44, u45, u46, u47, u48, u49, u50, u51, u52, u53, u54, u55, u56, u57, u58, u59, u60, u61, u62, u63, u64, u65, u66, u67, u68, u69, u70, u71, u72, u73, u74, u75, u76, u77, u78, u79, u80, u81, u82, u83, u84, u85, u86, u87, u88, u89, u90, .bool true, .bool false, .bool true, v94, v95, v96, v97, v98, u99, u100, u101, u102, u103, u104, u105, u106, u107, u108, u109, u110, u111, u112, u113, u114, u115, u116, u117, u118, u119, u120, u121, u122, u123, u124, u125, u126, u127, u128, u129, u130, u131, u132, u133, u134, u135, u136, u137, u138, u139, u140, u141, u142, u143, u144, u145, u146, u147, u148, u149, u150, u151], []⟩ ∧ InvPk3 x b off n c k p pw p0 pw0 g6 u2 u7 u8 u9 u10 u11 u12 u13 u14 u15 u16 u17 u18 u19 u32 u33 u43 u44 u45 u46 u47 u48 u49 u50 u51 u52 u53 u54 u55 u56 u57 u58 u59 u60 u61 u62 u63 u64 u65 u66 u67 u68 u69 u70 u71 u72 u73 u74 u75 u76 u77 u78 u79 u80 u81 u82 u83 u84 u85 u86 u87 u88 u89 u90 u94 u95 u96 u97 u98 u99 u100 u101 u102 u103 u104 u105 u106 u107 u108 u109 u110 u111 u112 u113 u114 u115 u116 u117 u118 u119 u120 u121 u122 u123 u124 u125 u126 u127 u128 u129 u130 u131 u132 u133 u134 u135 u136 u137 u138 u139 u140 u141 u142 u143 u144 u145 u146 u147 u148 u149 u150 u151 w5 L v94 v95 v96 v97 v98 v13 v14 wx) ?_ ⟨?_, ?_, ?_, ?_, ?_, ?_, ?_, trivial⟩ ?_
        · refine ⟨_, _, _, _, _, _, _, rfl, ⟨?_, ?_, ?_, ?_, ?_, ?_, ?_, (Below.refl _ _).drew⟩⟩ <;> (intro h; exact absurd h (by decide))
        · rintro L a wx ⟨v94, v95, v96, v97, v98, v13, v14, rfl, hI⟩ hL hdep hcl K hK
          go_simp
          exact hK _ _ ⟨_, v95, v96, v97, v98, v13, v14, rfl, ⟨fun _ => rfl, hI.t1, hI.t2, hI.t3, hI.t4, hI.t5, hI.t6, hI.bw⟩⟩
        · rintro L a wx ⟨v94, v95, v96, v97, v98, v13, v14, rfl, hI⟩ hL hdep hcl K hK
          obtain rfl := hI.t0 (hdep 0 (by decide))
          have cc := C33.out wx hI.bw
          go_simp
          exact hK _ _ ⟨_, _, v96, v97, v98, v13, v14, rfl, ⟨hI.t0, fun _ => rfl, hI.t2, hI.t3, hI.t4, hI.t5, hI.t6, hI.bw⟩⟩
        · rintro L a wx ⟨v94, v95, v96, v97, v98, v13, v14, rfl, hI⟩ hL hdep hcl K hK
          obtain rfl := hI.t1 (hdep 1 (by decide))
          refine ow_of_wl rfl ?_
          refine wl_rowD rfl _ _ rfl wx.heap.size (.slice none 0 0) [] rfl (OwnD.nil _ _) x.a x.L.length x.c x.L rfl (HLX.out wx hI.bw) (by have := HL42.out; simp; omega) (Nat.le_refl _) ?_
          intro v' w' hO hb
          rw [List.nil_append] at hO
          show K _ _
          exact hK _ _ ⟨v94, _, _, v97, v98, v13, v14, rfl, ⟨hI.t0, hI.t1, (fun _ => hO.base hI.bw.size), hI.t3, hI.t4, (fun h => by have h4 := hcl 5 (by decide) (show L 5 = true from h) 2 (by decide); rw [hL] at h4; cases h4), hI.t6, (hI.bw).trans (hb.mono (hI.bw).size)⟩⟩
        · rintro L a wx ⟨v94, v95, v96, v97, v98, v13, v14, rfl, hI⟩ hL hdep hcl K hK
          go_simp
          exact hK _ _ ⟨v94, v95, v96, _, v98, v13, v14, rfl, ⟨hI.t0, hI.t1, hI.t2, fun _ => rfl, hI.t4, hI.t5, hI.t6, hI.bw⟩⟩
        · rintro L a wx ⟨v94, v95, v96, v97, v98, v13, v14, rfl, hI⟩ hL hdep hcl K hK
          obtain rfl := hI.t3 (hdep 3 (by decide))
          have cc := C34.out wx hI.bw
          go_simp
          exact hK _ _ ⟨v94, v95, v96, _, _, v13, v14, rfl, ⟨hI.t0, hI.t1, hI.t2, hI.t3, fun _ => rfl, hI.t5, hI.t6, hI.bw⟩⟩
        · rintro L a wx ⟨v94, v95, v96, v97, v98, v13, v14, rfl, hI⟩ hL hdep hcl K hK
          go_simp
          exact hK _ _ ⟨v94, v95, v96, v97, v98, _, v14, rfl, ⟨hI.t0, hI.t1, hI.t2, hI.t3, hI.t4, fun _ => rfl, hI.t6, hI.bw⟩⟩
        · rintro L a wx ⟨v94, v95, v96, v97, v98, v13, v14, rfl, hI⟩ hL hdep hcl K hK
          obtain rfl := hI.t4 (hdep 4 (by decide))
          go_simp
          exact hK _ _ ⟨v94, v95, v96, v97, _, v13, _, rfl, ⟨hI.t0, hI.t1, hI.t2, hI.t3, hI.t4, hI.t5, fun _ => rfl, hI.bw⟩⟩
        · rintro a wx ⟨v94, v95, v96, v97, v98, v13, v14, rfl, hI⟩
          have hO := hI.t2 rfl
          have e1 := hI.t5 rfl
          have e2 := hI.t6 rfl
          have hbw := hI.bw
          clear hI
          subst e1 e2
          obtain ⟨a1, c1, e3, hr⟩ := hO.rd
          subst e3
          have hI6 := hI5.to hbw
          have hE6q := hE5.trans (hbw.mono z5)
          have cq := CC0.out wx hbw
          have hall : All32 P := by obtain ⟨_, _, _, h2, -⟩ := hI6.ex; exact h2.all
          have HOK1 := Lib.hid hI6.le
          have HOK2 := Lib.hid hI6.cnt
          have hfw := hI6.few
          have HL42b : Hid (P.length ≤ 2 ^ 42) := by show _ ≤ _; omega
          have HL50 : Hid (P.length ≤ 2 ^ 50) := by show _ ≤ _; omega
          clear hI5 hW5 hA5 hE5 C33 C34 HLX CC0 c0 hbw hO hr
          go_upto_region 30 with (first
            | (go_at_call 12; with_reducible refine (Peaks_any p m P _ hI6).mono ?_; rintro e wk ⟨rfl, hAk, hbk⟩)
            | (go_at_call 13; with_reducible refine (Size_any p m P _ (hI6.to hbk)).mono ?_; rintro e w0 ⟨rfl, hw0⟩; obtain rfl := hw0))
          clear cq
          have hEq := hE6q.trans (hbk.mono (Nat.le_trans HZ.out hE6q.size))
          have hEqs := Nat.le_trans HZ.out hE6q.size
          have hO := OwnD.made (B := wx.heap.size) hAk rfl hall (Nat.le_refl _) (by unfold maxLen; omega)
          have hr := rdd_arr' hAk hall rfl
          clear hAk hbk hI6 hall hE6q
          obtain ⟨a1, ha1⟩ : ∃ a, a = some (⟨wx.heap.size, 0, none⟩ : Addr) := ⟨_, rfl⟩
          rw [← ha1] at hO hr
          go_simp
          rw [← ha1]
          clear ha1
          have c0 : True := trivial
          have hFr := From_any P a1 P.length m wk hr HOK1.out HOK2.out
          go_upto_region 31 with (go_at_call 14; with_reducible refine (hFr).mono ?_; rintro e wa ⟨p2, rfl, hI2, hp2, hba⟩)
          have hra := hr.to hba
          have hFw := rFrom_ok P a1 P.length m wa hra HL50.out HOK1.out HOK2.out
          go_upto_region 32 with (go_at_call 15; with_reducible refine (hFw).mono ?_; rintro e wb ⟨pw2, rfl, hW2, hbb⟩)
          have hbab := hba.trans (hbb.mono hba.size)
          have hI3 := hI2.to hbb
          have hOb := hO.to hbab
          have hEb := hEq.trans (hbab.mono (Nat.le_trans HZ.out hEq.size))
          have hol := fun g e => World.ownsRow.lt hO.row g e
          have hEs := Nat.le_trans HZ.out hEq.size
          have hNP : ¬ ((Value.slice a1 P.length P.length).ownBlock = some p2) := fun e => by have := (hol _ e).2; omega
          have hNQ : ∀ b, wk.heap.size ≤ b → ¬ ((Value.slice a1 P.length P.length).ownBlock = some b) := fun b h e => by have := (hol _ e).2; omega
          have hBL : ∀ k, (Value.slice a1 P.length P.length).ownBlock = some k → B ≤ k := fun k e => by have := (hol _ e).1; omega
          have HP2 : Hid (B ≤ p2) := by show _ ≤ _; omega
          have HALL := Lib.hid hO.all
          have hLb : P.length ≤ 2 ^ 42 := HL42b.out
          have ATT := hOb.atom
          obtain ⟨li, hli⟩ : ∃ l, l = P.length := ⟨_, rfl⟩
          rw [← hli] at hOb hNP hNQ hBL hLb ATT
          have HTL : Hid (P.length = li) := hli.symm
          go_simp
          rw [← hli]
          have HI5 := Lib.hid hI3
          have HO5 := Lib.hid hOb
          have HE5 := Lib.hid hEb
          have HNP := Lib.hid hNP
          have HNQ := Lib.hid hNQ
          have HBL := Lib.hid hBL
          have HLB : Hid (li ≤ 2 ^ 42) := hLb
          clear hFr hFw hra hI2 hW2 hba hbb hbab hr hO hI3 hOb hEb hol hEs hNP hNQ hBL hLb ATT hp2 hli
          go_wp2_with fail
          go_loopw [19] (fun kk wq => ∃ (j : Nat) (M : List (List UInt8)), j ≤ li ∧ kk = .int .i64 (j : Int) ∧ M.length = li ∧ OwnD wq wx.heap.size (.slice a1 li li) M ∧ KB (fun q => (Value.slice a1 li li).ownBlock = some q) wb wq) (fun kk _ => li - (intOf kk).toNat)
          case atStart => exact ⟨0, P, Nat.zero_le _, rfl, HTL.out, HO5.out, KB.refl _ _⟩
          case round =>
            obtain ⟨j, M, hj, rfl, hM, hOw, hKb⟩ := hrel
            by_cases hjl : j < li
            · obtain ⟨G, hG⟩ : ∃ G, a1 = some ⟨G, 0, none⟩ := by
                obtain ⟨g, c, e, -⟩ := hOw.solid (by omega)
                injection e with e
                exact ⟨g, e⟩
              subst hG
              have hj0 : (0 : Int) ≤ (j : Int) := by omega
              have hjl' : (j : Int) < (li : Int) := by omega
              have hat := hOw.cellAt j hjl
              have hcl := hat.1
              have hfr := hat.2
              have hfl := hOw.flip j (by omega)
              have hgw := setCells_grown G [(.int .u8 ((((M.getD j []).getD 0 0 ^^^ 1).toNat : Nat) : Int))] wr (j * 32)
              have hkf := hKb.grown hgw rfl
              obtain ⟨Y, hY⟩ : ∃ Y, Y = (M.getD j []).getD 0 0 := ⟨_, rfl⟩
              rw [← hY] at hcl hfl hkf
              rw [← xor_one] at hfl hkf
              have HFL := Lib.hid hfl
              have HKF := Lib.hid hkf
              have HML : Hid ((flipL M j).length = li) := by show _ = _; rw [flipL_len]; exact hM
              have HJL := Lib.hid hjl
              have hlb := HLB.out
              clear hat hfl hgw hkf hOw hKb hM hY c0
              go_upto_region 39 with fail
              go_region
              go_wp2_with fail
              go_roundw
              case rel => exact ⟨j + 1, flipL M j, HJL.out, by go_num, HML.out, ⟨HFL.out.row, HFL.out.all⟩, HKF.out.drew⟩
              case measure => have := HJL.out; simp [intOf]; omega
            · obtain rfl : j = li := by omega
              have hjl' : ¬ ((j : Int) < (j : Int)) := by omega
              have hI6 := HI5.out.kb hKb HNP.out HNQ.out
              have hE6 := HE5.out.trans (hKb.under HBL.out (Nat.le_trans HZ.out HE5.out.size))
              clear hKb hOw hM
              have hPk := Peaks_any p2 m P wr hI6
              go_upto_region 42 with (first
                | (go_at_call 12; with_reducible refine (hPk).mono ?_; rintro e wc ⟨rfl, hAc, hbc⟩)
                | (go_at_call 15; with_reducible refine (rFrom_ok P (some ⟨wr.heap.size, 0, none⟩) P.length m _ (rdd_arr' hAc HALL.out rfl) HL50.out HOK1.out HOK2.out).mono ?_; rintro e wd ⟨pw3, rfl, hW3, hbd⟩))
              have hbcd := hbc.trans (hbd.mono hbc.size)
              have hI7 := hI6.to hbcd
              have hE7 := hE6.trans (hbcd.mono (Nat.le_trans HZ.out hE6.size))
              have hW7 := hW3.lower (B' := B) (Nat.le_trans (Nat.le_trans HZ.out hE6.size) hbc.size)
              have hp2 := HP2.out
              clear hPk hbc hbd hbcd hAc hI6 hW3
              have hAL := alike_any (q := _) (B := B) p2 pw3 m P _ hI7 hW7
              have hnb := HNB.out
              have hkn := HLT.out
              clear c0
              go_wp2_with (go_at_call 16; with_reducible refine (hAL).mono ?_; rintro e wz ⟨rfl, hbz⟩)
              go_roundw
              case rel => exact ⟨p2, pw3, m, P, k + 1, HLT.out, rfl, rfl, by go_num, (hI7.to hbz).mono (fun _ _ _ => trivial), hp2, hW7.to hbz, hE7.trans (hbz.mono (Nat.le_trans HZ.out hE7.size))⟩
              case measure => have := HLT.out; simp [intOf]; omega
      · obtain ⟨h0, h1, h2, h3⟩ := hw0
        have hA6 := hA5
        have c0d := c0
        clear hA5
        have hAL := alike_any (q := _) (B := B) p pw m P _ hI5 hW5
        have hnb := HNB.out
        have hkn := HLT.out
        clear c0 hA6
        go_wp2_with (go_at_call 16; with_reducible refine (hAL).mono ?_; rintro e wz ⟨rfl, hbz⟩)
        go_roundw
        case rel => exact ⟨p, pw, m, P, k + 1, HLT.out, rfl, rfl, by go_num, (hI5.to hbz).mono (fun _ _ _ => trivial), hp, hW5.to hbz, hE5.trans (hbz.mono (Nat.le_trans HZ.out hE5.size))⟩
        case measure => have := HLT.out; simp [intOf]; omega
    · obtain rfl : k = n := by omega
      have hc : ¬ ((k : Int) < (k : Int)) := by omega
      have hE := hE.mono HZ2.out
      clear hI hW
      go_wp2_with fail
      go_ret
      exact ⟨rfl, hE⟩
end Go.Proofs.Ytlfncgpjgbpdjaa

namespace Go.Proofs.Ytlfncgpjgbpdjaa
open Go.ChangeShapes Go.WideShapes Go.ChangeAt Go.RowKit

def WOK {H : Type} (P : Program) (t : TypeId) (d : DataW H) : Prop := (d.weights P t).all (· ≤ reachBytes) = true
theorem wok_all {H : Type} {P : Program} {e : TypeId} : ∀ {l : List (DataW H)} {d : DataW H}, d ∈ l → ∀ n ∈ d.weights P e, n ∈ DataW.weightsAll P e l
  | x :: r, d, h, n, hn => by
    simp only [DataW.weightsAll, List.mem_append]
    rcases List.mem_cons.1 h with rfl | h
    · exact .inl hn
    · exact .inr (wok_all h n hn)
theorem wok_slice {H : Type} {P : Program} {t e : TypeId} {elems spare : List (DataW H)} (hu : P.underlying t = some (.slice e)) (h : WOK P t (.slice elems spare)) : (elems.length + spare.length) * P.bytesOf e ≤ reachBytes ∧ ∀ d ∈ elems, WOK P e d := by
  unfold WOK at h
  refine ⟨by simpa using List.all_eq_true.1 h ((elems.length + spare.length) * P.bytesOf e) (by simp [DataW.weights, hu]), fun d hd => ?_⟩
  unfold WOK
  rw [List.all_eq_true]
  intro n hn
  exact List.all_eq_true.1 h n (by
    simp only [DataW.weights, hu, List.mem_cons, List.mem_append]
    exact .inr (.inl (wok_all hd n hn)))
theorem wok_struct {H : Type} {P : Program} {t : TypeId} {fs : Array Field} {parts : List (DataW H)} (hu : P.underlying t = some (.struct fs)) (h : WOK P t (.agg parts)) {i : Nat} {f : Field} {d : DataW H} (hf : fs[i]? = some f) (hd : parts[i]? = some d) : WOK P f.type d := by
  unfold WOK at *
  rw [List.all_eq_true]
  intro n hn
  refine List.all_eq_true.1 h n ?_
  simp only [DataW.weights, hu]
  exact DataW.weights_mem_each (j := i) (by simp [hf]) hd n hn
theorem wok_top {H : Type} {P : Program} {ts : List TypeId} {ds : List (DataW H)} (h : (DataW.weightsEach P ts ds).all (· ≤ reachBytes) = true) {j : Nat} {t : TypeId} {d : DataW H} (ht : ts[j]? = some t) (hd : ds[j]? = some d) : WOK P t d := by
  unfold WOK
  rw [List.all_eq_true]
  intro n hn
  exact List.all_eq_true.1 h n (DataW.weights_mem_each ht hd n hn)
theorem wok_dlen {H : Type} {P : Program} {t e : TypeId} {d : DataW H} (hu : P.underlying t = some (.slice e)) (h : WOK P t d) : dlen d * P.bytesOf e ≤ reachBytes := by
  cases d with
  | slice elems spare => exact (wok_slice hu h).1
  | _ => simp [dlen]
theorem bytesDg : Try.prog.bytesOf 29 = 32 := by kernel_rfl
theorem bytesAct : Try.prog.bytesOf 33 = 72 := by kernel_rfl
theorem cellsAct : Try.prog.cellsOf 33 = 35 := by kernel_rfl
theorem cellsI : Try.prog.cellsOf 3 = 1 := by kernel_rfl
theorem cellsU : Try.prog.cellsOf 31 = 1 := by kernel_rfl
theorem cellsDs : Try.prog.cellsOf 30 = 1 := by kernel_rfl
theorem two {α : Type} {l : List α} (h : l.length = 2) : ∃ a b, l = [a, b] := by
  cases l with
  | nil => cases h
  | cons a l => cases l with
    | nil => cases h
    | cons b l => cases l with
      | nil => exact ⟨a, b, rfl⟩
      | cons c l => simp at h
theorem four {α : Type} {l : List α} (h : l.length = 4) : ∃ a b c d, l = [a, b, c, d] := by
  cases l with
  | nil => cases h
  | cons a l => cases l with
    | nil => cases h
    | cons b l =>
      obtain ⟨c, d, rfl⟩ := two (l := l) (by simpa using h)
      exact ⟨a, b, c, d, rfl⟩
theorem wf_n64 {n : Int} (h : (Lit.int .u64 n).wf = true) : ∃ m : Nat, n = m := by
  simp [Lit.wf, IntKind.min, IntKind.max, IntKind.signed, IntKind.bits] at h
  exact ⟨n.toNat, by omega⟩

section
variable {H : Type} {enc : TypeId × Value → H} {W : World} {sp : Nat → Bool} {fuel : Nat}
/-- the cell of a slice of hashes that came in -/
theorem rdD_of_cells {v : Value} {y : DataW H × List MemPlace} (hf : DataW.trod enc Try.prog W 0 sp true fuel 30 [v] = some y) :
    ∃ a n cap L, v = .slice a n cap ∧ RdD W a n cap L ∧ n ≤ dlen y.1 := by
  rcases Deep.open_slice Try.underlying30 hf with ⟨hcs, he⟩ | ⟨a, len, cap, m, n, D, Pl, hcs, _, hl, _, hmm, he, hi⟩
  · obtain rfl : v = .slice none 0 0 := by simpa using hcs
    exact ⟨_, _, _, [], rfl, ⟨rfl, Nat.le_refl _, fun k hk => by simp at hk, fun _ => rfl, fun h => by omega⟩, Nat.zero_le _⟩
  · obtain rfl : v = .slice (some a) len cap := by simpa using hcs
    have hsl := slice_len_d Try.underlying30 hf
    have hml : len ≤ m := by rw [hmm]; split <;> omega
    have cell : ∀ i, i < len → ∃ xs : List UInt8, xs.length = 32 ∧ ∀ j, j < 32 → W.cell? ((a.add (i * 32)).add j) = (bvs xs)[j]? := by
      intro i hil
      obtain ⟨cs', hc, ht'⟩ := hi i (by omega)
      rw [cellsDg] at hc
      obtain ⟨_, hcl, hat⟩ := World.cells?_some hc
      obtain ⟨xs, h1, rfl⟩ := dig_cells ht'
      exact ⟨xs, h1, hat⟩
    obtain ⟨L, hL, hall⟩ := listOf _ len cell
    have hA32 : All32 L := fun k hk => by
      have := (hall k hk).1
      simpa [List.getD, hk] using this
    refine ⟨_, _, _, L, rfl, ⟨hL, hl, hA32, (by intro e; cases e), fun h0 => ?_⟩, hsl⟩
    have c0 := (hall 0 (by omega)).2 0 (by omega)
    rw [bvs_get _ _ (by have := (hall 0 (by omega)).1; omega)] at c0
    have hspot := spot_none c0
    obtain ⟨b, off, spt⟩ := a
    have e0 : ((⟨b, off, spt⟩ : Addr).add (0 * 32)).add 0 = ⟨b, off, spt⟩ := rfl
    rw [e0] at hspot c0
    simp only at hspot
    subst hspot
    refine ⟨b, off, rfl, World.block_lt_of_cell? W _ c0, fun k hk j hj => ?_⟩
    have h1 := hall k (by omega)
    have h2 := h1.2 j hj
    rw [bvs_get _ _ (by have := h1.1; omega), Addr.add_lit, Addr.add_lit] at h2
    rw [h2]
    simp [List.getD, show k < L.length by omega]
theorem fieldsAct : ∃ f0 f1 f2 f3 : Field, Try.prog.underlying 33 = some (.struct #[f0, f1, f2, f3]) ∧ f0.type = 3 ∧ f0.offset = 0 ∧ f1.type = 29 ∧ f1.offset = 1 ∧ f2.type = 30 ∧ f2.offset = 33 ∧ f3.type = 31 ∧ f3.offset = 34 := ⟨_, _, _, _, Try.underlying33, rfl, rfl, rfl, rfl, rfl, rfl, rfl, rfl⟩
/-- a call that came in -/
theorem act_of_cells {cs : List Value} {y : DataW H × List MemPlace} (hf : DataW.trod enc Try.prog W 0 sp true fuel 33 cs = some y) :
    ∃ x : ActR, encA x = cs ∧ x.d.length = 32 ∧ RdD W x.a x.L.length x.c x.L ∧ (WOK Try.prog 33 y.1 → x.L.length ≤ 2 ^ 42) := by
  obtain ⟨f0, f1, f2, f3, hu, t0, o0, t1, o1, t2, o2, t3, o3⟩ := fieldsAct
  obtain ⟨ys, m, _, rfl, hlen, hyl, hfl⟩ := DataW.trod_struct hu hf
  rw [cellsAct] at hlen
  obtain ⟨y0, y1, y2, y3, rfl⟩ := four (show ys.length = 4 from hyl)
  have h0 := hfl 0 f0 rfl
  have h1 := hfl 1 f1 rfl
  have h2 := hfl 2 f2 rfl
  have h3 := hfl 3 f3 rfl
  rw [t0, o0, cellsI] at h0
  rw [t1, o1, cellsDg] at h1
  rw [t2, o2, cellsDs] at h2
  rw [t3, o3, cellsU] at h3
  obtain ⟨u, v, e4⟩ := two (l := cs.drop 33) (by simp; omega)
  have e5 : cs.drop 34 = [v] := by
    have : (cs.drop 33).drop 1 = [v] := by rw [e4]; rfl
    simpa using this
  rw [e4] at h2
  rw [e5] at h3
  cases cs with
  | nil => simp at hlen
  | cons w0 r =>
    obtain ⟨z, hz, -⟩ := int_of_cells (y := y0) Try.underlying3 h0
    obtain ⟨z3, hz3, w3⟩ := int_of_cells (y := y3) Try.underlying31 h3
    obtain ⟨s3, rfl⟩ := wf_n64 w3
    obtain ⟨xs, hxl, ex⟩ := dig_cells (y := y1) h1
    obtain ⟨a, n, cap, L, hv, hr, hn⟩ := rdD_of_cells (y := y2) h2
    have hl := hr.len
    subst hl
    refine ⟨⟨z, xs, a, cap, L, s3⟩, ?_, hxl, hr, fun hw => ?_⟩
    · have hz' : w0 = .int .i64 z := by simpa using hz
      have hv' : u = .slice a L.length cap := by simpa using hv
      have hz3' : v = .int .u64 (s3 : Int) := by simpa using hz3
      subst hz' hv' hz3'
      simp only [List.drop_succ_cons, List.drop_zero] at ex e4
      show _ :: (bvs xs ++ _) = _
      rw [← ex, ← e4, List.take_append_drop]
    · have hw2 := wok_struct hu hw (i := 2) (f := f2) (d := y2.1) rfl rfl
      rw [t2] at hw2
      have h5 := wok_dlen Try.underlying30 hw2
      rw [bytesDg] at h5
      simp only [reachBytes] at h5
      show L.length ≤ _
      omega
end

theorem rangesPlays_lifted (os : Os) (started : os.Started) (H : Type) (enc : TypeId × Value → H) :
    ReturnsInHanded {} Try.checked os 3 .any (Rows.rangesPlaysSpec.pre6 enc Try.prog Try.f3 Rows.rangesPlaysRow.domain false) (Rows.rangesPlaysSpec.post enc Try.prog Try.f3 false true false false) := by
  refine returnsInHanded_of_change_sized (C := Try.checked) ownKnobs started (by kernel_rfl) Try.func3
    (ChangeSpec.witness6 (enc := enc) (C := Try.checked) false ⟨#[], #[.slice none 0 0], []⟩ 8 (by kernel_rfl) (by kernel_rfl) (by kernel_rfl) (by kernel_rfl)) ?_
  intro W base args ds gs before hval hW hcond hsz _
  have hW' := hW
  obtain ⟨p, q, hA0, hV, rfl, _, _⟩ := hW
  have hA : DataW.TrodAll enc Try.prog W 0 (fun _ => true) true Try.f3.params.toList args.toList ds p := hA0
  have hval' := hval
  rw [Try.params3] at hA hval' hsz
  obtain ⟨v0, d0, hargs, rfl, h0⟩ := trodAll_one hA
  obtain rfl : args = #[v0] := by cases args; simp_all
  obtain ⟨rfl, rfl⟩ := trodVars_none hV
  have hwt := wok_top hsz (j := 0) (t := 22) (d := d0) rfl rfl
  obtain ⟨a0, n0, c0, L0, rfl, hr0, hn0, hx0⟩ := rdG_of_trod (S := 35) (enc := encA) Try.underlying22 cellsAct (by decide) (fun x e => x.d.length = 32 ∧ RdD W x.a x.L.length x.c x.L ∧ (WOK Try.prog 33 e → x.L.length ≤ 2 ^ 42)) (fun fuel cs y _ hf => act_of_cells hf) (hval' 0 22 v0 rfl rfl) h0
  have b0 : n0 ≤ 2 ^ 42 := by
    have h5 := wok_dlen Try.underlying22 hwt
    rw [bytesAct] at h5
    simp only [reachBytes] at h5
    omega
  have hx1 : ∀ x ∈ L0, x.d.length = 32 ∧ RdD W x.a x.L.length x.c x.L ∧ x.L.length ≤ 2 ^ 42 := by
    intro x hx
    obtain ⟨l, r, e, rfl, he, h1, h2, h3⟩ := hx0 x hx
    exact ⟨h1, h2, h3 ((wok_slice Try.underlying22 hwt).2 e he)⟩
  refine (Plays9_any L0 a0 n0 c0 W hr0 b0 hx1).mono fun e W' ⟨he, hw⟩ => ?_
  subst he
  exact ⟨_, rfl, law_post laidOuts (by kernel_rfl) rfl Try.underlying4 rfl hW' hw rfl⟩

theorem rangesPlays_proved : Rows.RangesPlaysSaid :=
  OpenClaim.holds_of_wide 3 Try.f3 rfl rfl rfl rfl rfl rfl rfl ⟨rfl, rfl, rfl, rfl, rfl⟩ rfl rfl rfl rfl rfl (by kernel_rfl) Try.func3 (by kernel_rfl)
    (of_decide_eq_true (by kernel_rfl)) (by unfold Func.isWrapper; first | (rw [if_pos (by decide +kernel)]; kernel_rfl) | (rw [if_neg (by decide +kernel)]; exact ⟨rfl, rfl⟩))
    (fun os started H enc _ => rangesPlays_lifted os started H enc)
end Go.Proofs.Ytlfncgpjgbpdjaa
