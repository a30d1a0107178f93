/-
  Layer 7: PlaceDoes as a call. Conditions: those in each statement.
-/
import Derived.Test.YtbhmgkpkagjmnaaPlQ
namespace Go.Proofs.Ytbhmgkpkagjmnaa
open Go.RowKit

structure InvDoes1 (l i m j : Int) (S : Nat) (wb : World) (L : Nat → Bool) (v27 v28 v29 v30 v5 v6 : Value) (wx : World) : Prop where
  t0 : L 0 = true → v27 = .agg #[.int .i64 l, .int .u64 i]
  t1 : L 1 = true → v28 = .agg #[.int .i64 l, .int .u64 i]
  t2 : L 2 = true → v29 = .agg #[.int .i64 m, .int .u64 j]
  t3 : L 3 = true → v30 = .agg #[.int .i64 m, .int .u64 j]
  t4 : L 4 = true → ∃ g, v5 = .pointer (some ⟨g, 0, none⟩) ∧ wb.heap.size ≤ g ∧ Arr wx g 25 (pickL (L 6) l i)
  t5 : L 5 = true → ∃ g, v6 = .pointer (some ⟨g, 0, none⟩) ∧ wb.heap.size ≤ g ∧ Arr wx g 25 (pickL (L 7) m j)
  ax : Arr wx S 24 [.int .i64 l, .int .u64 i]
  ay : Arr wx (S + 1) 24 [.int .i64 m, .int .u64 j]
  bw : Below wb.heap.size wb wx
  ne : L 4 = true → L 5 = true → v5 ≠ v6

structure InvDoes (l i m j lf lb le pl pi pe sl si cl ca cb ce : Int) (mb bb : Bool) (S g5 g6 g13 g15 g17 g19 g21 g24 : Nat) (wb : World) (L : Nat → Bool) (v : Nat → Value) (wx : World) : Prop where
  t0 : L 0 = true → (v 75) = .bool true
  t1 : L 1 = true → (v 76) = .bool true
  t2 : L 2 = true → (v 77) = .agg #[.int .i64 l, .int .u64 i]
  t3 : L 3 = true → (v 78) = .bool mb
  t4 : L 4 = true → (v 79) = .agg #[.int .i64 l, .int .u64 i]
  t5 : L 5 = true → (v 80) = .bool mb
  t6 : L 6 = true → (v 81) = .bool true
  t7 : L 7 = true → (v 82) = .bool true
  t8 : L 8 = true → (v 83) = .bool true
  t9 : L 9 = true → (v 84) = .int .u64 lf
  t10 : L 10 = true → (v 85) = .int .u64 lf
  t11 : L 11 = true → (v 86) = .bool true
  t12 : L 12 = true → (v 87) = .bool true
  t13 : L 13 = true → (v 88) = .bool true
  t14 : L 14 = true → (v 89) = .int .u64 lb
  t15 : L 15 = true → (v 90) = .int .u64 lb
  t16 : L 16 = true → (v 91) = .bool true
  t17 : L 17 = true → (v 92) = .bool true
  t18 : L 18 = true → (v 93) = .bool true
  t19 : L 19 = true → (v 94) = .int .i64 le
  t20 : L 20 = true → (v 95) = .int .i64 le
  t21 : L 21 = true → (v 96) = .bool true
  t22 : L 22 = true → (v 97) = .bool true
  t23 : L 23 = true → (v 98) = .bool true
  t24 : L 24 = true → (v 99) = .agg #[.int .i64 pl, .int .u64 pi]
  t25 : L 25 = true → (v 100) = .agg #[.int .i64 pl, .int .u64 pi]
  t26 : L 26 = true → (v 101) = .agg #[.int .i64 pl, .int .u64 pi]
  t27 : L 27 = true → (v 102) = .bool true
  t28 : L 28 = true → (v 103) = .bool true
  t29 : L 29 = true → (v 104) = .bool true
  t30 : L 30 = true → (v 105) = .int .i64 pe
  t31 : L 31 = true → (v 106) = .int .i64 pe
  t32 : L 32 = true → (v 107) = .bool true
  t33 : L 33 = true → (v 108) = .bool true
  t34 : L 34 = true → (v 109) = .bool true
  t35 : L 35 = true → (v 110) = .agg #[.int .i64 sl, .int .u64 si]
  t36 : L 36 = true → (v 111) = .agg #[.int .i64 sl, .int .u64 si]
  t37 : L 37 = true → (v 112) = .agg #[.int .i64 sl, .int .u64 si]
  t38 : L 38 = true → (v 113) = .bool true
  t39 : L 39 = true → (v 114) = .bool true
  t40 : L 40 = true → (v 115) = .bool true
  t41 : L 41 = true → (v 116) = .int .i64 pe
  t42 : L 42 = true → (v 117) = .int .i64 pe
  t43 : L 43 = true → (v 118) = .bool true
  t44 : L 44 = true → (v 119) = .bool true
  t45 : L 45 = true → (v 120) = .bool true
  t46 : L 46 = true → (v 121) = .agg #[.int .i64 cl, .int .u64 ca]
  t47 : L 47 = true → (v 122) = .agg #[.int .i64 cl, .int .u64 ca]
  t48 : L 48 = true → (v 123) = .agg #[.int .i64 cl, .int .u64 ca]
  t49 : L 49 = true → (v 124) = .bool true
  t50 : L 50 = true → (v 125) = .bool true
  t51 : L 51 = true → (v 126) = .bool true
  t52 : L 52 = true → (v 127) = .agg #[.int .i64 cl, .int .u64 cb]
  t53 : L 53 = true → (v 128) = .agg #[.int .i64 cl, .int .u64 cb]
  t54 : L 54 = true → (v 129) = .agg #[.int .i64 cl, .int .u64 cb]
  t55 : L 55 = true → (v 130) = .bool true
  t56 : L 56 = true → (v 131) = .bool true
  t57 : L 57 = true → (v 132) = .bool true
  t58 : L 58 = true → (v 133) = .int .i64 ce
  t59 : L 59 = true → (v 134) = .int .i64 ce
  t60 : L 60 = true → (v 135) = .bool true
  t61 : L 61 = true → (v 136) = .bool true
  t62 : L 62 = true → (v 137) = .bool true
  t63 : L 63 = true → (v 138) = .agg #[.int .i64 l, .int .u64 i]
  t64 : L 64 = true → (v 139) = .agg #[.int .i64 m, .int .u64 j]
  t65 : L 65 = true → (v 140) = .bool bb
  t66 : L 66 = true → (v 141) = .agg #[.int .i64 l, .int .u64 i]
  t67 : L 67 = true → (v 142) = .agg #[.int .i64 m, .int .u64 j]
  t68 : L 68 = true → (v 143) = .bool bb
  t69 : L 69 = true → (v 144) = .bool true
  t70 : L 70 = true → (v 145) = .bool true
  t71 : L 71 = true → (v 4) = .bool true
  a5 : Arr wx g5 25 [.int .i64 l, .int .u64 i]
  a6 : Arr wx g6 25 [.int .i64 m, .int .u64 j]
  ax : Arr wx S 24 [.int .i64 l, .int .u64 i]
  ay : Arr wx (S + 1) 24 [.int .i64 m, .int .u64 j]
  a13 : Arr wx g13 25 [.int .i64 pl, .int .u64 pi]
  a15 : Arr wx g15 24 [.int .i64 pl, .int .u64 pi]
  a17 : Arr wx g17 25 [.int .i64 sl, .int .u64 si]
  a19 : Arr wx g19 24 [.int .i64 sl, .int .u64 si]
  a21 : Arr wx g21 25 [.int .i64 cl, .int .u64 ca]
  a22 : Arr wx (g21 + 1) 25 [.int .i64 cl, .int .u64 cb]
  a24 : Arr wx g24 24 [.int .i64 cl, .int .u64 ca]
  a25 : Arr wx (g24 + 1) 24 [.int .i64 cl, .int .u64 cb]
  bw : Below wb.heap.size wb wx

set_option maxRecDepth 100000 in
set_option maxHeartbeats 12800000 in
theorem Does_law (l i m j : Int) (w : World) (hi : 0 ≤ i) (hj : 0 ≤ j) :
    Calls Try.prog 3 #[.agg #[.int .i64 l, .int .u64 i], .agg #[.int .i64 m, .int .u64 j]] w fun e w' => e = .returned (.bool true) ∧ Below w.heap.size w w' := by
  have HL1 := fun w => Leaves_any l i w hi
  have HL2 := fun w => rLeaves_any l i w hi
  have HP1 := fun w => Parent_any l i w hi
  have HP2 := fun w => rParent_any l i w hi
  have HS1 := fun w => Sibling_any l i w hi
  have HS2 := fun w => rSibling_any l i w hi
  have HC1 := fun w => Children_any l i w hi
  have HC2 := fun w => rChildren_any l i w hi
  have HM1 := fun w => May_any l i w
  have HM2 := fun w => rMay_any l i w hi
  have HB1 := fun w => Beneath_any l i m j w hi hj
  have HB2 := fun w => rBeneath_any l i m j w hi hj
  generalize lfF l i = lf at *
  generalize lbF l i = lb at *
  generalize leF l i = le at *
  generalize plF l i = pl at *
  generalize piF l i = pi at *
  generalize peF l i = pe at *
  generalize slF l i = sl at *
  generalize siF l i = si at *
  generalize clF l i = cl at *
  generalize caF l i = ca at *
  generalize cbF l i = cb at *
  generalize ceF l i = ce at *
  generalize mayB l i = mb at *
  generalize benB l i m j = bb at *
  go_enter Try.func3, Try.ntmps3
  go_upto_region 1 with (fail)
  obtain ⟨hX, hY, hW⟩ := box3A (w := w) (a := .int .i64 l) (b := .int .u64 i) (c := .int .i64 m) (d := .int .u64 j) (T := 24) (Below.refl _ _)
  generalize (w.alloc (.cells #[.int .i64 l, .int .u64 i] 24)).alloc (.cells #[.int .i64 m, .int .u64 j] 24) = wb at *
  obtain ⟨S, hS⟩ : ∃ S, S = w.heap.size := ⟨_, rfl⟩
  rw [← hS] at hX hY hW ⊢
  have HS := Lib.hid hS
  clear hS
  refine wp_region_steps [[], [0], [], [2, 1], [], [], [4, 1, 3, 0, 5], [5, 3, 6, 0, 1, 2, 4]] (by kernel_rfl) (by kernel_rfl) (fun L a wx => ∃ v27 v28 v29 v30 v5 v6, a = ⟨#[.agg #[.int .i64 l, .int .u64 i], .agg #[.int .i64 m, .int .u64 j], .pointer (some ⟨S, 0, none⟩), .pointer (some ⟨S + 1, 0, none⟩), .bool false, v5, v6, undef, undef, undef, undef, undef, undef, undef, undef, undef, undef, undef, undef, undef, undef, undef, undef, undef, undef, undef, undef, v27, v28, v29, v30, undef, undef, undef, undef, undef, undef, undef, undef, undef, undef, undef, undef, undef, undef, undef, undef, undef, undef, undef, undef, undef, undef, undef, undef, undef, undef, undef, undef, undef, undef, undef, undef, undef, undef, undef, undef, undef, undef, undef, undef, undef, undef, undef, undef, undef, undef, undef, undef, undef, undef, undef, undef, undef, undef, undef, undef, undef, undef, undef, undef, undef, undef, undef, undef, undef, undef, undef, undef, undef, undef, undef, undef, undef, undef, undef, undef, undef, undef, undef, undef, undef, undef, undef, undef, undef, undef, undef, undef, undef, undef, undef, undef, undef, undef, undef, undef, undef, undef, undef, undef, undef, undef, undef, undef, undef, undef, undef, undef, undef, undef, undef, undef, undef, undef, undef], []⟩ ∧ InvDoes1 l i m j S wb L v27 v28 v29 v30 v5 v6 wx) ?_ ⟨?_, ?_, ?_, ?_, ?_, ?_, ?_, ?_, trivial⟩ ?_
  · refine ⟨_, _, _, _, _, _, rfl, ⟨?_, ?_, ?_, ?_, ?_, ?_, hX.drew, hY.drew, (Below.refl _ _).drew, ?_⟩⟩ <;> (intro h; exact absurd h (by decide))
  · rintro L a wx ⟨v27, v28, v29, v30, v5, v6, rfl, hI⟩ hL hdep hcl K hK
    obtain ⟨c0, c1⟩ := hI.ax.two
    go_simp
    exact hK _ _ ⟨_, v28, v29, v30, v5, v6, rfl, ⟨fun _ => rfl, hI.t1, hI.t2, hI.t3, hI.t4, hI.t5, hI.ax, hI.ay, hI.bw, hI.ne⟩⟩
  · rintro L a wx ⟨v27, v28, v29, v30, v5, v6, rfl, hI⟩ hL hdep hcl K hK
    obtain rfl := hI.t0 (hdep 0 (by decide))
    go_simp
    refine (ours_any _ _ wx).mono ?_
    rintro e w' ⟨rfl, hb⟩
    exact hK _ _ ⟨_, _, v29, v30, v5, v6, rfl, ⟨hI.t0, fun _ => rfl, hI.t2, hI.t3, fun h => (hI.t4 h).elim fun g h => ⟨g, h.1, h.2.1, h.2.2.kept hb⟩, fun h => (hI.t5 h).elim fun g h => ⟨g, h.1, h.2.1, h.2.2.kept hb⟩, (hI.ax).kept hb, (hI.ay).kept hb, (hI.bw).trans (hb.mono (hI.bw).size), hI.ne⟩⟩
  · rintro L a wx ⟨v27, v28, v29, v30, v5, v6, rfl, hI⟩ hL hdep hcl K hK
    obtain ⟨c0, c1⟩ := hI.ay.two
    go_simp
    exact hK _ _ ⟨v27, v28, _, v30, v5, v6, rfl, ⟨hI.t0, hI.t1, fun _ => rfl, hI.t3, hI.t4, hI.t5, hI.ax, hI.ay, hI.bw, hI.ne⟩⟩
  · rintro L a wx ⟨v27, v28, v29, v30, v5, v6, rfl, hI⟩ hL hdep hcl K hK
    obtain rfl := hI.t2 (hdep 2 (by decide))
    obtain rfl := hI.t1 (hdep 1 (by decide))
    go_simp
    refine (ours_any _ _ wx).mono ?_
    rintro e w' ⟨rfl, hb⟩
    exact hK _ _ ⟨v27, _, _, _, v5, v6, rfl, ⟨hI.t0, hI.t1, hI.t2, fun _ => rfl, fun h => (hI.t4 h).elim fun g h => ⟨g, h.1, h.2.1, h.2.2.kept hb⟩, fun h => (hI.t5 h).elim fun g h => ⟨g, h.1, h.2.1, h.2.2.kept hb⟩, (hI.ax).kept hb, (hI.ay).kept hb, (hI.bw).trans (hb.mono (hI.bw).size), hI.ne⟩⟩
  · rintro L a wx ⟨v27, v28, v29, v30, v5, v6, rfl, hI⟩ hL hdep hcl K hK
    have hnot : L 6 = false := by
      cases h : L 6 with
      | true =>
        have := hcl 6 (by decide) h 4 (by decide)
        rw [hL] at this
        cases this
      | false => rfl
    refine ow_alloc 25 rfl [.int .i64 0, .int .u64 0] 2 infoZ ?_
    intro w' hA' hb hs
    exact hK _ _ ⟨v27, v28, v29, v30, _, v6, rfl, ⟨hI.t0, hI.t1, hI.t2, hI.t3, fun _ => ⟨_, rfl, hI.bw.size, show Arr w' _ _ (pickL (L 6) l i) from hnot ▸ hA'⟩, fun h => (hI.t5 h).elim fun g h => ⟨g, h.1, h.2.1, h.2.2.kept hb⟩, (hI.ax).kept hb, (hI.ay).kept hb, (hI.bw).trans (hb.mono (hI.bw).size), fun _ h => (by
        obtain ⟨g, hg, -, hA⟩ := hI.t5 h
        rw [hg]
        exact ptr_ne (Nat.ne_of_gt hA.lt))⟩⟩
  · rintro L a wx ⟨v27, v28, v29, v30, v5, v6, rfl, hI⟩ hL hdep hcl K hK
    have hnot : L 7 = false := by
      cases h : L 7 with
      | true =>
        have := hcl 7 (by decide) h 5 (by decide)
        rw [hL] at this
        cases this
      | false => rfl
    refine ow_alloc 25 rfl [.int .i64 0, .int .u64 0] 2 infoZ ?_
    intro w' hA' hb hs
    exact hK _ _ ⟨v27, v28, v29, v30, v5, _, rfl, ⟨hI.t0, hI.t1, hI.t2, hI.t3, fun h => (hI.t4 h).elim fun g h => ⟨g, h.1, h.2.1, h.2.2.kept hb⟩, fun _ => ⟨_, rfl, hI.bw.size, show Arr w' _ _ (pickL (L 7) m j) from hnot ▸ hA'⟩, (hI.ax).kept hb, (hI.ay).kept hb, (hI.bw).trans (hb.mono (hI.bw).size), fun h _ => (by
        obtain ⟨g, hg, -, hA⟩ := hI.t4 h
        rw [hg]
        exact ptr_ne (Nat.ne_of_lt hA.lt))⟩⟩
  · rintro L a wx ⟨v27, v28, v29, v30, v5, v6, rfl, hI⟩ hL hdep hcl K hK
    obtain rfl := hI.t1 (hdep 1 (by decide))
    obtain rfl := hI.t3 (hdep 3 (by decide))
    obtain rfl := hI.t0 (hdep 0 (by decide))
    obtain ⟨g, rfl, hg1, hA⟩ := hI.t4 (hdep 4 (by decide))
    obtain ⟨g2, rfl, hg2, hA2⟩ := hI.t5 (hdep 5 (by decide))
    have hne : g ≠ g2 := fun e => hI.ne (hdep 4 (by decide)) (hdep 5 (by decide)) (by rw [e])
    have hA0 : Arr wx g 25 [.int .i64 0, .int .u64 0] := by
      rw [hL] at hA
      exact hA
    refine ow_store 25 _ _ rfl g 0 rfl [.int .i64 l, .int .u64 i] rfl 25 _ hA0 infoNode (Nat.le_refl _) (two_one rfl rfl) ?_
    intro w' hA' hg hs
    rw [two_store] at hA'
    have hlt1 := hX.lt
    have hlt2 := hY.lt
    exact hK _ _ ⟨_, _, v29, _, _, _, rfl, ⟨hI.t0, hI.t1, hI.t2, hI.t3, fun _ => ⟨g, rfl, hg1, hA'⟩, fun _ => ⟨g2, rfl, hg2, hA2.grown hg (by intro e; injection e with e; exact hne e.symm)⟩, hI.ax.grown hg (by intro e; injection e with e; omega), hI.ay.grown hg (by intro e; injection e with e; omega), hI.bw.grown hg hI.bw.size (by intro k e; injection e with e; omega), hI.ne⟩⟩
  · rintro L a wx ⟨v27, v28, v29, v30, v5, v6, rfl, hI⟩ hL hdep hcl K hK
    obtain rfl := hI.t3 (hdep 3 (by decide))
    obtain rfl := hI.t0 (hdep 0 (by decide))
    obtain rfl := hI.t1 (hdep 1 (by decide))
    obtain rfl := hI.t2 (hdep 2 (by decide))
    obtain ⟨g, rfl, hg1, hA⟩ := hI.t5 (hdep 5 (by decide))
    obtain ⟨g2, rfl, hg2, hA2⟩ := hI.t4 (hdep 4 (by decide))
    have hne : g ≠ g2 := fun e => hI.ne (hdep 4 (by decide)) (hdep 5 (by decide)) (by rw [e])
    have hA0 : Arr wx g 25 [.int .i64 0, .int .u64 0] := by
      rw [hL] at hA
      exact hA
    refine ow_store 25 _ _ rfl g 0 rfl [.int .i64 m, .int .u64 j] rfl 25 _ hA0 infoNode (Nat.le_refl _) (two_one rfl rfl) ?_
    intro w' hA' hg hs
    rw [two_store] at hA'
    have hlt1 := hX.lt
    have hlt2 := hY.lt
    exact hK _ _ ⟨_, _, _, _, _, _, rfl, ⟨hI.t0, hI.t1, hI.t2, hI.t3, fun _ => ⟨g2, rfl, hg2, hA2.grown hg (by intro e; injection e with e; exact hne e.symm)⟩, fun _ => ⟨g, rfl, hg1, hA'⟩, hI.ax.grown hg (by intro e; injection e with e; omega), hI.ay.grown hg (by intro e; injection e with e; omega), hI.bw.grown hg hI.bw.size (by intro k e; injection e with e; omega), hI.ne⟩⟩
  · rintro a wx ⟨v27, v28, v29, v30, v5, v6, rfl, hI⟩
    obtain ⟨g5, rfl, hg5, hA5⟩ := hI.t4 rfl
    obtain ⟨g6, rfl, hg6, hA6⟩ := hI.t5 rfl
    obtain rfl := hI.t0 rfl
    obtain rfl := hI.t1 rfl
    obtain rfl := hI.t2 rfl
    obtain rfl := hI.t3 rfl
    have A5 : Arr wx g5 25 [.int .i64 l, .int .u64 i] := hA5
    have A6 : Arr wx g6 25 [.int .i64 m, .int .u64 j] := hA6
    have Ax := hI.ax
    have Ay := hI.ay
    have HB : Below w.heap.size w wx := (HS.out ▸ hW : Below w.heap.size w wb).trans (hI.bw.mono hW.size)
    clear hA5 hA6 hI hg5 hg6 hX hY hW
    obtain ⟨p5, q5⟩ := A5.two
    obtain ⟨p6, q6⟩ := A6.two
    obtain ⟨px, qx⟩ := Ax.two
    obtain ⟨py, qy⟩ := Ay.two
    go_upto_region 3 with (go_at_call 10; with_reducible refine (HL1 _).mono ?_; rintro _ w1 ⟨rfl, h1⟩)
    clear p5 q5 p6 q6 px qx py qy
    replace A5 := A5.kept h1
    replace A6 := A6.kept h1
    replace Ax := Ax.kept h1
    replace Ay := Ay.kept h1
    replace HB := HB.trans (h1.mono HB.size)
    clear h1
    obtain ⟨p5, q5⟩ := A5.two
    obtain ⟨p6, q6⟩ := A6.two
    obtain ⟨px, qx⟩ := Ax.two
    obtain ⟨py, qy⟩ := Ay.two
    go_upto_region 4 with (go_at_call 11; with_reducible refine (HL2 _).mono ?_; rintro _ w2 ⟨rfl, h2⟩)
    clear p5 q5 p6 q6 px qx py qy
    replace A5 := A5.kept h2
    replace A6 := A6.kept h2
    replace Ax := Ax.kept h2
    replace Ay := Ay.kept h2
    replace HB := HB.trans (h2.mono HB.size)
    clear h2
    obtain ⟨p5, q5⟩ := A5.two
    obtain ⟨p6, q6⟩ := A6.two
    obtain ⟨px, qx⟩ := Ax.two
    obtain ⟨py, qy⟩ := Ay.two
    go_upto_region 5 with (go_at_call 12; with_reducible refine (HP1 _).mono ?_; rintro _ w3 ⟨rfl, h3⟩)
    clear p5 q5 p6 q6 px qx py qy
    replace A5 := A5.kept h3
    replace A6 := A6.kept h3
    replace Ax := Ax.kept h3
    replace Ay := Ay.kept h3
    replace HB := HB.trans (h3.mono HB.size)
    clear h3
    have hb4 := hal (w3) (.cells #[.int .i64 pl, .int .u64 pi] 25)
    have A13_ := Arr.new (w3) 25 [.int .i64 pl, .int .u64 pi]
    replace A5 := A5.kept hb4
    replace A6 := A6.kept hb4
    replace Ax := Ax.kept hb4
    replace Ay := Ay.kept hb4
    replace HB := HB.trans (hb4.mono HB.size)
    have A13 := A13_
    clear hb4 A13_
    generalize hg13 : w3.heap.size = g13 at *
    generalize w3.alloc (.cells #[.int .i64 pl, .int .u64 pi] 25) = w4 at *
    clear hg13
    obtain ⟨p5, q5⟩ := A5.two
    obtain ⟨p6, q6⟩ := A6.two
    obtain ⟨px, qx⟩ := Ax.two
    obtain ⟨py, qy⟩ := Ay.two
    obtain ⟨p13, q13⟩ := A13.two
    go_upto_region 6 with (go_at_call 13; with_reducible refine (HP2 _).mono ?_; rintro _ w5 ⟨rfl, h5⟩)
    clear p5 q5 p6 q6 px qx py qy p13 q13
    replace A5 := A5.kept h5
    replace A6 := A6.kept h5
    replace Ax := Ax.kept h5
    replace Ay := Ay.kept h5
    replace A13 := A13.kept h5
    replace HB := HB.trans (h5.mono HB.size)
    clear h5
    have hb6 := hal (w5) (.cells #[.int .i64 pl, .int .u64 pi] 24)
    have A15_ := Arr.new (w5) 24 [.int .i64 pl, .int .u64 pi]
    replace A5 := A5.kept hb6
    replace A6 := A6.kept hb6
    replace Ax := Ax.kept hb6
    replace Ay := Ay.kept hb6
    replace A13 := A13.kept hb6
    replace HB := HB.trans (hb6.mono HB.size)
    have A15 := A15_
    clear hb6 A15_
    generalize hg15 : w5.heap.size = g15 at *
    generalize w5.alloc (.cells #[.int .i64 pl, .int .u64 pi] 24) = w6 at *
    clear hg15
    obtain ⟨p5, q5⟩ := A5.two
    obtain ⟨p6, q6⟩ := A6.two
    obtain ⟨px, qx⟩ := Ax.two
    obtain ⟨py, qy⟩ := Ay.two
    obtain ⟨p13, q13⟩ := A13.two
    obtain ⟨p15, q15⟩ := A15.two
    go_upto_region 7 with (go_at_call 14; with_reducible refine (HS1 _).mono ?_; rintro _ w7 ⟨rfl, h7⟩)
    clear p5 q5 p6 q6 px qx py qy p13 q13 p15 q15
    replace A5 := A5.kept h7
    replace A6 := A6.kept h7
    replace Ax := Ax.kept h7
    replace Ay := Ay.kept h7
    replace A13 := A13.kept h7
    replace A15 := A15.kept h7
    replace HB := HB.trans (h7.mono HB.size)
    clear h7
    have hb8 := hal (w7) (.cells #[.int .i64 sl, .int .u64 si] 25)
    have A17_ := Arr.new (w7) 25 [.int .i64 sl, .int .u64 si]
    replace A5 := A5.kept hb8
    replace A6 := A6.kept hb8
    replace Ax := Ax.kept hb8
    replace Ay := Ay.kept hb8
    replace A13 := A13.kept hb8
    replace A15 := A15.kept hb8
    replace HB := HB.trans (hb8.mono HB.size)
    have A17 := A17_
    clear hb8 A17_
    generalize hg17 : w7.heap.size = g17 at *
    generalize w7.alloc (.cells #[.int .i64 sl, .int .u64 si] 25) = w8 at *
    clear hg17
    obtain ⟨p5, q5⟩ := A5.two
    obtain ⟨p6, q6⟩ := A6.two
    obtain ⟨px, qx⟩ := Ax.two
    obtain ⟨py, qy⟩ := Ay.two
    obtain ⟨p13, q13⟩ := A13.two
    obtain ⟨p15, q15⟩ := A15.two
    obtain ⟨p17, q17⟩ := A17.two
    go_upto_region 8 with (go_at_call 15; with_reducible refine (HS2 _).mono ?_; rintro _ w9 ⟨rfl, h9⟩)
    clear p5 q5 p6 q6 px qx py qy p13 q13 p15 q15 p17 q17
    replace A5 := A5.kept h9
    replace A6 := A6.kept h9
    replace Ax := Ax.kept h9
    replace Ay := Ay.kept h9
    replace A13 := A13.kept h9
    replace A15 := A15.kept h9
    replace A17 := A17.kept h9
    replace HB := HB.trans (h9.mono HB.size)
    clear h9
    have hb10 := hal (w9) (.cells #[.int .i64 sl, .int .u64 si] 24)
    have A19_ := Arr.new (w9) 24 [.int .i64 sl, .int .u64 si]
    replace A5 := A5.kept hb10
    replace A6 := A6.kept hb10
    replace Ax := Ax.kept hb10
    replace Ay := Ay.kept hb10
    replace A13 := A13.kept hb10
    replace A15 := A15.kept hb10
    replace A17 := A17.kept hb10
    replace HB := HB.trans (hb10.mono HB.size)
    have A19 := A19_
    clear hb10 A19_
    generalize hg19 : w9.heap.size = g19 at *
    generalize w9.alloc (.cells #[.int .i64 sl, .int .u64 si] 24) = w10 at *
    clear hg19
    obtain ⟨p5, q5⟩ := A5.two
    obtain ⟨p6, q6⟩ := A6.two
    obtain ⟨px, qx⟩ := Ax.two
    obtain ⟨py, qy⟩ := Ay.two
    obtain ⟨p13, q13⟩ := A13.two
    obtain ⟨p15, q15⟩ := A15.two
    obtain ⟨p17, q17⟩ := A17.two
    obtain ⟨p19, q19⟩ := A19.two
    go_upto_region 9 with (go_at_call 16; with_reducible refine (HC1 _).mono ?_; rintro _ w11 ⟨rfl, h11⟩)
    clear p5 q5 p6 q6 px qx py qy p13 q13 p15 q15 p17 q17 p19 q19
    replace A5 := A5.kept h11
    replace A6 := A6.kept h11
    replace Ax := Ax.kept h11
    replace Ay := Ay.kept h11
    replace A13 := A13.kept h11
    replace A15 := A15.kept h11
    replace A17 := A17.kept h11
    replace A19 := A19.kept h11
    replace HB := HB.trans (h11.mono HB.size)
    clear h11
    have hb12 := hal (w11) (.cells #[.int .i64 cl, .int .u64 ca] 25)
    have A21_ := Arr.new (w11) 25 [.int .i64 cl, .int .u64 ca]
    replace A5 := A5.kept hb12
    replace A6 := A6.kept hb12
    replace Ax := Ax.kept hb12
    replace Ay := Ay.kept hb12
    replace A13 := A13.kept hb12
    replace A15 := A15.kept hb12
    replace A17 := A17.kept hb12
    replace A19 := A19.kept hb12
    replace HB := HB.trans (hb12.mono HB.size)
    have A21 := A21_
    clear hb12 A21_
    have hb13 := hal (w11.alloc (.cells #[.int .i64 cl, .int .u64 ca] 25)) (.cells #[.int .i64 cl, .int .u64 cb] 25)
    have A22_ := Arr.new (w11.alloc (.cells #[.int .i64 cl, .int .u64 ca] 25)) 25 [.int .i64 cl, .int .u64 cb]
    rw [show (w11.alloc (.cells #[.int .i64 cl, .int .u64 ca] 25)).heap.size = w11.heap.size + 1 from by simp] at A22_
    replace A5 := A5.kept hb13
    replace A6 := A6.kept hb13
    replace Ax := Ax.kept hb13
    replace Ay := Ay.kept hb13
    replace A13 := A13.kept hb13
    replace A15 := A15.kept hb13
    replace A17 := A17.kept hb13
    replace A19 := A19.kept hb13
    replace A21 := A21.kept hb13
    replace HB := HB.trans (hb13.mono HB.size)
    have A22 := A22_
    clear hb13 A22_
    generalize hg21 : w11.heap.size = g21 at *
    generalize (w11.alloc (.cells #[.int .i64 cl, .int .u64 ca] 25)).alloc (.cells #[.int .i64 cl, .int .u64 cb] 25) = w13 at *
    clear hg21
    obtain ⟨p5, q5⟩ := A5.two
    obtain ⟨p6, q6⟩ := A6.two
    obtain ⟨px, qx⟩ := Ax.two
    obtain ⟨py, qy⟩ := Ay.two
    obtain ⟨p13, q13⟩ := A13.two
    obtain ⟨p15, q15⟩ := A15.two
    obtain ⟨p17, q17⟩ := A17.two
    obtain ⟨p19, q19⟩ := A19.two
    obtain ⟨p21, q21⟩ := A21.two
    obtain ⟨p22, q22⟩ := A22.two
    go_upto_region 10 with (go_at_call 17; with_reducible refine (HC2 _).mono ?_; rintro _ w14 ⟨rfl, h14⟩)
    clear p5 q5 p6 q6 px qx py qy p13 q13 p15 q15 p17 q17 p19 q19 p21 q21 p22 q22
    replace A5 := A5.kept h14
    replace A6 := A6.kept h14
    replace Ax := Ax.kept h14
    replace Ay := Ay.kept h14
    replace A13 := A13.kept h14
    replace A15 := A15.kept h14
    replace A17 := A17.kept h14
    replace A19 := A19.kept h14
    replace A21 := A21.kept h14
    replace A22 := A22.kept h14
    replace HB := HB.trans (h14.mono HB.size)
    clear h14
    have hb15 := hal (w14) (.cells #[.int .i64 cl, .int .u64 ca] 24)
    have A24_ := Arr.new (w14) 24 [.int .i64 cl, .int .u64 ca]
    replace A5 := A5.kept hb15
    replace A6 := A6.kept hb15
    replace Ax := Ax.kept hb15
    replace Ay := Ay.kept hb15
    replace A13 := A13.kept hb15
    replace A15 := A15.kept hb15
    replace A17 := A17.kept hb15
    replace A19 := A19.kept hb15
    replace A21 := A21.kept hb15
    replace A22 := A22.kept hb15
    replace HB := HB.trans (hb15.mono HB.size)
    have A24 := A24_
    clear hb15 A24_
    have hb16 := hal (w14.alloc (.cells #[.int .i64 cl, .int .u64 ca] 24)) (.cells #[.int .i64 cl, .int .u64 cb] 24)
    have A25_ := Arr.new (w14.alloc (.cells #[.int .i64 cl, .int .u64 ca] 24)) 24 [.int .i64 cl, .int .u64 cb]
    rw [show (w14.alloc (.cells #[.int .i64 cl, .int .u64 ca] 24)).heap.size = w14.heap.size + 1 from by simp] at A25_
    replace A5 := A5.kept hb16
    replace A6 := A6.kept hb16
    replace Ax := Ax.kept hb16
    replace Ay := Ay.kept hb16
    replace A13 := A13.kept hb16
    replace A15 := A15.kept hb16
    replace A17 := A17.kept hb16
    replace A19 := A19.kept hb16
    replace A21 := A21.kept hb16
    replace A22 := A22.kept hb16
    replace A24 := A24.kept hb16
    replace HB := HB.trans (hb16.mono HB.size)
    have A25 := A25_
    clear hb16 A25_
    generalize hg24 : w14.heap.size = g24 at *
    generalize (w14.alloc (.cells #[.int .i64 cl, .int .u64 ca] 24)).alloc (.cells #[.int .i64 cl, .int .u64 cb] 24) = w16 at *
    clear hg24
    refine wp_region_steps [[], [0], [1], [1, 2], [1], [1, 4], [1, 3, 5], [1, 6], [7], [8], [8], [8, 9, 10], [8, 11], [12], [13], [13], [13, 14, 15], [13, 16], [17], [18], [18], [18, 19, 20], [18, 21], [22], [23], [23, 24], [23], [23, 25, 26], [23, 27], [28], [29], [29], [29, 30, 31], [29, 32], [33], [34], [34, 35], [34], [34, 36, 37], [34, 38], [39], [40], [40], [40, 41, 42], [40, 43], [44], [45], [45, 46], [45], [45, 47, 48], [45, 49], [50], [51], [51, 52], [51], [51, 53, 54], [51, 55], [56], [57], [57], [57, 58, 59], [57, 60], [61], [62], [62], [62, 63, 64], [62], [62], [62, 66, 67], [62, 65, 68], [62, 69], [70]] (by kernel_rfl) (by kernel_rfl) (fun L a wx => ∃ v : Nat → Value, a = ⟨#[.agg #[.int .i64 l, .int .u64 i], .agg #[.int .i64 m, .int .u64 j], .pointer (some ⟨S, 0, none⟩), .pointer (some ⟨S + 1, 0, none⟩), v 4, .pointer (some ⟨g5, 0, none⟩), .pointer (some ⟨g6, 0, none⟩), .int .u64 lf, .int .u64 lb, .int .i64 le, .int .u64 lf, .int .u64 lb, .int .i64 le, .pointer (some ⟨g13, 0, none⟩), .int .i64 pe, .pointer (some ⟨g15, 0, none⟩), .int .i64 pe, .pointer (some ⟨g17, 0, none⟩), .int .i64 pe, .pointer (some ⟨g19, 0, none⟩), .int .i64 pe, .pointer (some ⟨g21, 0, none⟩), .pointer (some ⟨g21 + 1, 0, none⟩), .int .i64 ce, .pointer (some ⟨g24, 0, none⟩), .pointer (some ⟨g24 + 1, 0, none⟩), .int .i64 ce, .agg #[.int .i64 l, .int .u64 i], .agg #[.int .i64 l, .int .u64 i], .agg #[.int .i64 m, .int .u64 j], .agg #[.int .i64 m, .int .u64 j], .tuple #[.int .u64 lf, .int .u64 lb, .int .i64 le], .agg #[.int .i64 l, .int .u64 i], .tuple #[.int .u64 lf, .int .u64 lb, .int .i64 le], .int .u64 lf, .int .u64 lb, .int .i64 le, .tuple #[.int .u64 lf, .int .u64 lb, .int .i64 le], .agg #[.int .i64 l, .int .u64 i], .tuple #[.int .u64 lf, .int .u64 lb, .int .i64 le], .int .u64 lf, .int .u64 lb, .int .i64 le, .tuple #[.agg #[.int .i64 pl, .int .u64 pi], .int .i64 pe], .agg #[.int .i64 l, .int .u64 i], .tuple #[.agg #[.int .i64 pl, .int .u64 pi], .int .i64 pe], .agg #[.int .i64 pl, .int .u64 pi], .int .i64 pe, .tuple #[.agg #[.int .i64 pl, .int .u64 pi], .int .i64 pe], .agg #[.int .i64 l, .int .u64 i], .tuple #[.agg #[.int .i64 pl, .int .u64 pi], .int .i64 pe], .agg #[.int .i64 pl, .int .u64 pi], .int .i64 pe, .tuple #[.agg #[.int .i64 sl, .int .u64 si], .int .i64 pe], .agg #[.int .i64 l, .int .u64 i], .tuple #[.agg #[.int .i64 sl, .int .u64 si], .int .i64 pe], .agg #[.int .i64 sl, .int .u64 si], .int .i64 pe, .tuple #[.agg #[.int .i64 sl, .int .u64 si], .int .i64 pe], .agg #[.int .i64 l, .int .u64 i], .tuple #[.agg #[.int .i64 sl, .int .u64 si], .int .i64 pe], .agg #[.int .i64 sl, .int .u64 si], .int .i64 pe, .tuple #[.agg #[.int .i64 cl, .int .u64 ca], .agg #[.int .i64 cl, .int .u64 cb], .int .i64 ce], .agg #[.int .i64 l, .int .u64 i], .tuple #[.agg #[.int .i64 cl, .int .u64 ca], .agg #[.int .i64 cl, .int .u64 cb], .int .i64 ce], .agg #[.int .i64 cl, .int .u64 ca], .agg #[.int .i64 cl, .int .u64 cb], .int .i64 ce, .tuple #[.agg #[.int .i64 cl, .int .u64 ca], .agg #[.int .i64 cl, .int .u64 cb], .int .i64 ce], .agg #[.int .i64 l, .int .u64 i], .tuple #[.agg #[.int .i64 cl, .int .u64 ca], .agg #[.int .i64 cl, .int .u64 cb], .int .i64 ce], .agg #[.int .i64 cl, .int .u64 ca], .agg #[.int .i64 cl, .int .u64 cb], .int .i64 ce, v 75, v 76, v 77, v 78, v 79, v 80, v 81, v 82, v 83, v 84, v 85, v 86, v 87, v 88, v 89, v 90, v 91, v 92, v 93, v 94, v 95, v 96, v 97, v 98, v 99, v 100, v 101, v 102, v 103, v 104, v 105, v 106, v 107, v 108, v 109, v 110, v 111, v 112, v 113, v 114, v 115, v 116, v 117, v 118, v 119, v 120, v 121, v 122, v 123, v 124, v 125, v 126, v 127, v 128, v 129, v 130, v 131, v 132, v 133, v 134, v 135, v 136, v 137, v 138, v 139, v 140, v 141, v 142, v 143, v 144, v 145], []⟩ ∧ InvDoes l i m j lf lb le pl pi pe sl si cl ca cb ce mb bb S g5 g6 g13 g15 g17 g19 g21 g24 w16 L v wx) ?_ ⟨?_, ?_, ?_, ?_, ?_, ?_, ?_, ?_, ?_, ?_, ?_, ?_, ?_, ?_, ?_, ?_, ?_, ?_, ?_, ?_, ?_, ?_, ?_, ?_, ?_, ?_, ?_, ?_, ?_, ?_, ?_, ?_, ?_, ?_, ?_, ?_, ?_, ?_, ?_, ?_, ?_, ?_, ?_, ?_, ?_, ?_, ?_, ?_, ?_, ?_, ?_, ?_, ?_, ?_, ?_, ?_, ?_, ?_, ?_, ?_, ?_, ?_, ?_, ?_, ?_, ?_, ?_, ?_, ?_, ?_, ?_, ?_, trivial⟩ ?_
    · refine ⟨upd (fun _ => undef) 4 (.bool false), rfl, ⟨?_, ?_, ?_, ?_, ?_, ?_, ?_, ?_, ?_, ?_, ?_, ?_, ?_, ?_, ?_, ?_, ?_, ?_, ?_, ?_, ?_, ?_, ?_, ?_, ?_, ?_, ?_, ?_, ?_, ?_, ?_, ?_, ?_, ?_, ?_, ?_, ?_, ?_, ?_, ?_, ?_, ?_, ?_, ?_, ?_, ?_, ?_, ?_, ?_, ?_, ?_, ?_, ?_, ?_, ?_, ?_, ?_, ?_, ?_, ?_, ?_, ?_, ?_, ?_, ?_, ?_, ?_, ?_, ?_, ?_, ?_, ?_, A5.drew, A6.drew, Ax.drew, Ay.drew, A13.drew, A15.drew, A17.drew, A19.drew, A21.drew, A22.drew, A24.drew, A25.drew, (Below.refl _ _).drew⟩⟩ <;> (intro h; exact absurd h (by decide))
    · rintro L a wx ⟨v, rfl, hI⟩ hL hdep hcl K hK
      go_simp
      refine (awake_any wx).mono ?_
      rintro e w' ⟨rfl, hb⟩
      exact hK _ _ ⟨(upd v 75 (.bool true)), rfl, ⟨fun _ => rfl, hI.t1, hI.t2, hI.t3, hI.t4, hI.t5, hI.t6, hI.t7, hI.t8, hI.t9, hI.t10, hI.t11, hI.t12, hI.t13, hI.t14, hI.t15, hI.t16, hI.t17, hI.t18, hI.t19, hI.t20, hI.t21, hI.t22, hI.t23, hI.t24, hI.t25, hI.t26, hI.t27, hI.t28, hI.t29, hI.t30, hI.t31, hI.t32, hI.t33, hI.t34, hI.t35, hI.t36, hI.t37, hI.t38, hI.t39, hI.t40, hI.t41, hI.t42, hI.t43, hI.t44, hI.t45, hI.t46, hI.t47, hI.t48, hI.t49, hI.t50, hI.t51, hI.t52, hI.t53, hI.t54, hI.t55, hI.t56, hI.t57, hI.t58, hI.t59, hI.t60, hI.t61, hI.t62, hI.t63, hI.t64, hI.t65, hI.t66, hI.t67, hI.t68, hI.t69, hI.t70, hI.t71, (hI.a5).kept hb, (hI.a6).kept hb, (hI.ax).kept hb, (hI.ay).kept hb, (hI.a13).kept hb, (hI.a15).kept hb, (hI.a17).kept hb, (hI.a19).kept hb, (hI.a21).kept hb, (hI.a22).kept hb, (hI.a24).kept hb, (hI.a25).kept hb, (hI.bw).trans (hb.mono (hI.bw).size)⟩⟩
    · rintro L a wx ⟨v, rfl, hI⟩ hL hdep hcl K hK
      have e0 := hI.t0 (hdep 0 (by decide))
      rw [e0]
      go_simp
      exact hK _ _ ⟨(upd (upd v 75 (.bool true)) 76 (.bool true)), rfl, ⟨fun _ => rfl, fun _ => rfl, hI.t2, hI.t3, hI.t4, hI.t5, hI.t6, hI.t7, hI.t8, hI.t9, hI.t10, hI.t11, hI.t12, hI.t13, hI.t14, hI.t15, hI.t16, hI.t17, hI.t18, hI.t19, hI.t20, hI.t21, hI.t22, hI.t23, hI.t24, hI.t25, hI.t26, hI.t27, hI.t28, hI.t29, hI.t30, hI.t31, hI.t32, hI.t33, hI.t34, hI.t35, hI.t36, hI.t37, hI.t38, hI.t39, hI.t40, hI.t41, hI.t42, hI.t43, hI.t44, hI.t45, hI.t46, hI.t47, hI.t48, hI.t49, hI.t50, hI.t51, hI.t52, hI.t53, hI.t54, hI.t55, hI.t56, hI.t57, hI.t58, hI.t59, hI.t60, hI.t61, hI.t62, hI.t63, hI.t64, hI.t65, hI.t66, hI.t67, hI.t68, hI.t69, hI.t70, hI.t71, hI.a5, hI.a6, hI.ax, hI.ay, hI.a13, hI.a15, hI.a17, hI.a19, hI.a21, hI.a22, hI.a24, hI.a25, hI.bw⟩⟩
    · rintro L a wx ⟨v, rfl, hI⟩ hL hdep hcl K hK
      have e1 := hI.t1 (hdep 1 (by decide))
      rw [e1]
      refine (if_pos rfl).mpr ?_
      obtain ⟨c0, c1⟩ := hI.a5.two
      go_simp
      exact hK _ _ ⟨(upd (upd v 76 (.bool true)) 77 (.agg #[.int .i64 l, .int .u64 i])), rfl, ⟨hI.t0, fun _ => rfl, fun _ => rfl, hI.t3, hI.t4, hI.t5, hI.t6, hI.t7, hI.t8, hI.t9, hI.t10, hI.t11, hI.t12, hI.t13, hI.t14, hI.t15, hI.t16, hI.t17, hI.t18, hI.t19, hI.t20, hI.t21, hI.t22, hI.t23, hI.t24, hI.t25, hI.t26, hI.t27, hI.t28, hI.t29, hI.t30, hI.t31, hI.t32, hI.t33, hI.t34, hI.t35, hI.t36, hI.t37, hI.t38, hI.t39, hI.t40, hI.t41, hI.t42, hI.t43, hI.t44, hI.t45, hI.t46, hI.t47, hI.t48, hI.t49, hI.t50, hI.t51, hI.t52, hI.t53, hI.t54, hI.t55, hI.t56, hI.t57, hI.t58, hI.t59, hI.t60, hI.t61, hI.t62, hI.t63, hI.t64, hI.t65, hI.t66, hI.t67, hI.t68, hI.t69, hI.t70, hI.t71, hI.a5, hI.a6, hI.ax, hI.ay, hI.a13, hI.a15, hI.a17, hI.a19, hI.a21, hI.a22, hI.a24, hI.a25, hI.bw⟩⟩
    · rintro L a wx ⟨v, rfl, hI⟩ hL hdep hcl K hK
      have e1 := hI.t1 (hdep 1 (by decide))
      have e2 := hI.t2 (hdep 2 (by decide))
      rw [e1, e2]
      refine (if_pos rfl).mpr ?_
      go_simp
      refine (HM1 wx).mono ?_
      rintro e w' ⟨rfl, hb⟩
      exact hK _ _ ⟨(upd (upd (upd v 76 (.bool true)) 77 (.agg #[.int .i64 l, .int .u64 i])) 78 (.bool mb)), rfl, ⟨hI.t0, fun _ => rfl, fun _ => rfl, fun _ => rfl, hI.t4, hI.t5, hI.t6, hI.t7, hI.t8, hI.t9, hI.t10, hI.t11, hI.t12, hI.t13, hI.t14, hI.t15, hI.t16, hI.t17, hI.t18, hI.t19, hI.t20, hI.t21, hI.t22, hI.t23, hI.t24, hI.t25, hI.t26, hI.t27, hI.t28, hI.t29, hI.t30, hI.t31, hI.t32, hI.t33, hI.t34, hI.t35, hI.t36, hI.t37, hI.t38, hI.t39, hI.t40, hI.t41, hI.t42, hI.t43, hI.t44, hI.t45, hI.t46, hI.t47, hI.t48, hI.t49, hI.t50, hI.t51, hI.t52, hI.t53, hI.t54, hI.t55, hI.t56, hI.t57, hI.t58, hI.t59, hI.t60, hI.t61, hI.t62, hI.t63, hI.t64, hI.t65, hI.t66, hI.t67, hI.t68, hI.t69, hI.t70, hI.t71, (hI.a5).kept hb, (hI.a6).kept hb, (hI.ax).kept hb, (hI.ay).kept hb, (hI.a13).kept hb, (hI.a15).kept hb, (hI.a17).kept hb, (hI.a19).kept hb, (hI.a21).kept hb, (hI.a22).kept hb, (hI.a24).kept hb, (hI.a25).kept hb, (hI.bw).trans (hb.mono (hI.bw).size)⟩⟩
    · rintro L a wx ⟨v, rfl, hI⟩ hL hdep hcl K hK
      have e1 := hI.t1 (hdep 1 (by decide))
      rw [e1]
      refine (if_pos rfl).mpr ?_
      obtain ⟨c0, c1⟩ := hI.ax.two
      go_simp
      exact hK _ _ ⟨(upd (upd v 76 (.bool true)) 79 (.agg #[.int .i64 l, .int .u64 i])), rfl, ⟨hI.t0, fun _ => rfl, hI.t2, hI.t3, fun _ => rfl, hI.t5, hI.t6, hI.t7, hI.t8, hI.t9, hI.t10, hI.t11, hI.t12, hI.t13, hI.t14, hI.t15, hI.t16, hI.t17, hI.t18, hI.t19, hI.t20, hI.t21, hI.t22, hI.t23, hI.t24, hI.t25, hI.t26, hI.t27, hI.t28, hI.t29, hI.t30, hI.t31, hI.t32, hI.t33, hI.t34, hI.t35, hI.t36, hI.t37, hI.t38, hI.t39, hI.t40, hI.t41, hI.t42, hI.t43, hI.t44, hI.t45, hI.t46, hI.t47, hI.t48, hI.t49, hI.t50, hI.t51, hI.t52, hI.t53, hI.t54, hI.t55, hI.t56, hI.t57, hI.t58, hI.t59, hI.t60, hI.t61, hI.t62, hI.t63, hI.t64, hI.t65, hI.t66, hI.t67, hI.t68, hI.t69, hI.t70, hI.t71, hI.a5, hI.a6, hI.ax, hI.ay, hI.a13, hI.a15, hI.a17, hI.a19, hI.a21, hI.a22, hI.a24, hI.a25, hI.bw⟩⟩
    · rintro L a wx ⟨v, rfl, hI⟩ hL hdep hcl K hK
      have e1 := hI.t1 (hdep 1 (by decide))
      have e4 := hI.t4 (hdep 4 (by decide))
      rw [e1, e4]
      refine (if_pos rfl).mpr ?_
      go_simp
      refine (HM2 wx).mono ?_
      rintro e w' ⟨rfl, hb⟩
      exact hK _ _ ⟨(upd (upd (upd v 76 (.bool true)) 79 (.agg #[.int .i64 l, .int .u64 i])) 80 (.bool mb)), rfl, ⟨hI.t0, fun _ => rfl, hI.t2, hI.t3, fun _ => rfl, fun _ => rfl, hI.t6, hI.t7, hI.t8, hI.t9, hI.t10, hI.t11, hI.t12, hI.t13, hI.t14, hI.t15, hI.t16, hI.t17, hI.t18, hI.t19, hI.t20, hI.t21, hI.t22, hI.t23, hI.t24, hI.t25, hI.t26, hI.t27, hI.t28, hI.t29, hI.t30, hI.t31, hI.t32, hI.t33, hI.t34, hI.t35, hI.t36, hI.t37, hI.t38, hI.t39, hI.t40, hI.t41, hI.t42, hI.t43, hI.t44, hI.t45, hI.t46, hI.t47, hI.t48, hI.t49, hI.t50, hI.t51, hI.t52, hI.t53, hI.t54, hI.t55, hI.t56, hI.t57, hI.t58, hI.t59, hI.t60, hI.t61, hI.t62, hI.t63, hI.t64, hI.t65, hI.t66, hI.t67, hI.t68, hI.t69, hI.t70, hI.t71, (hI.a5).kept hb, (hI.a6).kept hb, (hI.ax).kept hb, (hI.ay).kept hb, (hI.a13).kept hb, (hI.a15).kept hb, (hI.a17).kept hb, (hI.a19).kept hb, (hI.a21).kept hb, (hI.a22).kept hb, (hI.a24).kept hb, (hI.a25).kept hb, (hI.bw).trans (hb.mono (hI.bw).size)⟩⟩
    · rintro L a wx ⟨v, rfl, hI⟩ hL hdep hcl K hK
      have e1 := hI.t1 (hdep 1 (by decide))
      have e3 := hI.t3 (hdep 3 (by decide))
      have e5 := hI.t5 (hdep 5 (by decide))
      rw [e1, e3, e5]
      refine (if_pos rfl).mpr ?_
      go_simp
      exact hK _ _ ⟨(upd (upd (upd (upd v 76 (.bool true)) 78 (.bool mb)) 80 (.bool mb)) 81 (.bool true)), rfl, ⟨hI.t0, fun _ => rfl, hI.t2, fun _ => rfl, hI.t4, fun _ => rfl, fun _ => rfl, hI.t7, hI.t8, hI.t9, hI.t10, hI.t11, hI.t12, hI.t13, hI.t14, hI.t15, hI.t16, hI.t17, hI.t18, hI.t19, hI.t20, hI.t21, hI.t22, hI.t23, hI.t24, hI.t25, hI.t26, hI.t27, hI.t28, hI.t29, hI.t30, hI.t31, hI.t32, hI.t33, hI.t34, hI.t35, hI.t36, hI.t37, hI.t38, hI.t39, hI.t40, hI.t41, hI.t42, hI.t43, hI.t44, hI.t45, hI.t46, hI.t47, hI.t48, hI.t49, hI.t50, hI.t51, hI.t52, hI.t53, hI.t54, hI.t55, hI.t56, hI.t57, hI.t58, hI.t59, hI.t60, hI.t61, hI.t62, hI.t63, hI.t64, hI.t65, hI.t66, hI.t67, hI.t68, hI.t69, hI.t70, hI.t71, hI.a5, hI.a6, hI.ax, hI.ay, hI.a13, hI.a15, hI.a17, hI.a19, hI.a21, hI.a22, hI.a24, hI.a25, hI.bw⟩⟩
    · rintro L a wx ⟨v, rfl, hI⟩ hL hdep hcl K hK
      have e1 := hI.t1 (hdep 1 (by decide))
      have e6 := hI.t6 (hdep 6 (by decide))
      rw [e1, e6]
      go_simp
      exact hK _ _ ⟨(upd (upd (upd v 76 (.bool true)) 81 (.bool true)) 82 (.bool true)), rfl, ⟨hI.t0, fun _ => rfl, hI.t2, hI.t3, hI.t4, hI.t5, fun _ => rfl, fun _ => rfl, hI.t8, hI.t9, hI.t10, hI.t11, hI.t12, hI.t13, hI.t14, hI.t15, hI.t16, hI.t17, hI.t18, hI.t19, hI.t20, hI.t21, hI.t22, hI.t23, hI.t24, hI.t25, hI.t26, hI.t27, hI.t28, hI.t29, hI.t30, hI.t31, hI.t32, hI.t33, hI.t34, hI.t35, hI.t36, hI.t37, hI.t38, hI.t39, hI.t40, hI.t41, hI.t42, hI.t43, hI.t44, hI.t45, hI.t46, hI.t47, hI.t48, hI.t49, hI.t50, hI.t51, hI.t52, hI.t53, hI.t54, hI.t55, hI.t56, hI.t57, hI.t58, hI.t59, hI.t60, hI.t61, hI.t62, hI.t63, hI.t64, hI.t65, hI.t66, hI.t67, hI.t68, hI.t69, hI.t70, hI.t71, hI.a5, hI.a6, hI.ax, hI.ay, hI.a13, hI.a15, hI.a17, hI.a19, hI.a21, hI.a22, hI.a24, hI.a25, hI.bw⟩⟩
    · rintro L a wx ⟨v, rfl, hI⟩ hL hdep hcl K hK
      have e7 := hI.t7 (hdep 7 (by decide))
      rw [e7]
      go_simp
      exact hK _ _ ⟨(upd (upd v 82 (.bool true)) 83 (.bool true)), rfl, ⟨hI.t0, hI.t1, hI.t2, hI.t3, hI.t4, hI.t5, hI.t6, fun _ => rfl, fun _ => rfl, hI.t9, hI.t10, hI.t11, hI.t12, hI.t13, hI.t14, hI.t15, hI.t16, hI.t17, hI.t18, hI.t19, hI.t20, hI.t21, hI.t22, hI.t23, hI.t24, hI.t25, hI.t26, hI.t27, hI.t28, hI.t29, hI.t30, hI.t31, hI.t32, hI.t33, hI.t34, hI.t35, hI.t36, hI.t37, hI.t38, hI.t39, hI.t40, hI.t41, hI.t42, hI.t43, hI.t44, hI.t45, hI.t46, hI.t47, hI.t48, hI.t49, hI.t50, hI.t51, hI.t52, hI.t53, hI.t54, hI.t55, hI.t56, hI.t57, hI.t58, hI.t59, hI.t60, hI.t61, hI.t62, hI.t63, hI.t64, hI.t65, hI.t66, hI.t67, hI.t68, hI.t69, hI.t70, hI.t71, hI.a5, hI.a6, hI.ax, hI.ay, hI.a13, hI.a15, hI.a17, hI.a19, hI.a21, hI.a22, hI.a24, hI.a25, hI.bw⟩⟩
    · rintro L a wx ⟨v, rfl, hI⟩ hL hdep hcl K hK
      have e8 := hI.t8 (hdep 8 (by decide))
      rw [e8]
      refine (if_pos rfl).mpr ?_
      go_simp
      exact hK _ _ ⟨(upd (upd v 83 (.bool true)) 84 (.int .u64 lf)), rfl, ⟨hI.t0, hI.t1, hI.t2, hI.t3, hI.t4, hI.t5, hI.t6, hI.t7, fun _ => rfl, fun _ => rfl, hI.t10, hI.t11, hI.t12, hI.t13, hI.t14, hI.t15, hI.t16, hI.t17, hI.t18, hI.t19, hI.t20, hI.t21, hI.t22, hI.t23, hI.t24, hI.t25, hI.t26, hI.t27, hI.t28, hI.t29, hI.t30, hI.t31, hI.t32, hI.t33, hI.t34, hI.t35, hI.t36, hI.t37, hI.t38, hI.t39, hI.t40, hI.t41, hI.t42, hI.t43, hI.t44, hI.t45, hI.t46, hI.t47, hI.t48, hI.t49, hI.t50, hI.t51, hI.t52, hI.t53, hI.t54, hI.t55, hI.t56, hI.t57, hI.t58, hI.t59, hI.t60, hI.t61, hI.t62, hI.t63, hI.t64, hI.t65, hI.t66, hI.t67, hI.t68, hI.t69, hI.t70, hI.t71, hI.a5, hI.a6, hI.ax, hI.ay, hI.a13, hI.a15, hI.a17, hI.a19, hI.a21, hI.a22, hI.a24, hI.a25, hI.bw⟩⟩
    · rintro L a wx ⟨v, rfl, hI⟩ hL hdep hcl K hK
      have e8 := hI.t8 (hdep 8 (by decide))
      rw [e8]
      refine (if_pos rfl).mpr ?_
      go_simp
      exact hK _ _ ⟨(upd (upd v 83 (.bool true)) 85 (.int .u64 lf)), rfl, ⟨hI.t0, hI.t1, hI.t2, hI.t3, hI.t4, hI.t5, hI.t6, hI.t7, fun _ => rfl, hI.t9, fun _ => rfl, hI.t11, hI.t12, hI.t13, hI.t14, hI.t15, hI.t16, hI.t17, hI.t18, hI.t19, hI.t20, hI.t21, hI.t22, hI.t23, hI.t24, hI.t25, hI.t26, hI.t27, hI.t28, hI.t29, hI.t30, hI.t31, hI.t32, hI.t33, hI.t34, hI.t35, hI.t36, hI.t37, hI.t38, hI.t39, hI.t40, hI.t41, hI.t42, hI.t43, hI.t44, hI.t45, hI.t46, hI.t47, hI.t48, hI.t49, hI.t50, hI.t51, hI.t52, hI.t53, hI.t54, hI.t55, hI.t56, hI.t57, hI.t58, hI.t59, hI.t60, hI.t61, hI.t62, hI.t63, hI.t64, hI.t65, hI.t66, hI.t67, hI.t68, hI.t69, hI.t70, hI.t71, hI.a5, hI.a6, hI.ax, hI.ay, hI.a13, hI.a15, hI.a17, hI.a19, hI.a21, hI.a22, hI.a24, hI.a25, hI.bw⟩⟩
    · rintro L a wx ⟨v, rfl, hI⟩ hL hdep hcl K hK
      have e8 := hI.t8 (hdep 8 (by decide))
      have e9 := hI.t9 (hdep 9 (by decide))
      have e10 := hI.t10 (hdep 10 (by decide))
      rw [e8, e9, e10]
      refine (if_pos rfl).mpr ?_
      go_simp
      exact hK _ _ ⟨(upd (upd (upd (upd v 83 (.bool true)) 84 (.int .u64 lf)) 85 (.int .u64 lf)) 86 (.bool true)), rfl, ⟨hI.t0, hI.t1, hI.t2, hI.t3, hI.t4, hI.t5, hI.t6, hI.t7, fun _ => rfl, fun _ => rfl, fun _ => rfl, fun _ => rfl, hI.t12, hI.t13, hI.t14, hI.t15, hI.t16, hI.t17, hI.t18, hI.t19, hI.t20, hI.t21, hI.t22, hI.t23, hI.t24, hI.t25, hI.t26, hI.t27, hI.t28, hI.t29, hI.t30, hI.t31, hI.t32, hI.t33, hI.t34, hI.t35, hI.t36, hI.t37, hI.t38, hI.t39, hI.t40, hI.t41, hI.t42, hI.t43, hI.t44, hI.t45, hI.t46, hI.t47, hI.t48, hI.t49, hI.t50, hI.t51, hI.t52, hI.t53, hI.t54, hI.t55, hI.t56, hI.t57, hI.t58, hI.t59, hI.t60, hI.t61, hI.t62, hI.t63, hI.t64, hI.t65, hI.t66, hI.t67, hI.t68, hI.t69, hI.t70, hI.t71, hI.a5, hI.a6, hI.ax, hI.ay, hI.a13, hI.a15, hI.a17, hI.a19, hI.a21, hI.a22, hI.a24, hI.a25, hI.bw⟩⟩
    · rintro L a wx ⟨v, rfl, hI⟩ hL hdep hcl K hK
      have e8 := hI.t8 (hdep 8 (by decide))
      have e11 := hI.t11 (hdep 11 (by decide))
      rw [e8, e11]
      go_simp
      exact hK _ _ ⟨(upd (upd (upd v 83 (.bool true)) 86 (.bool true)) 87 (.bool true)), rfl, ⟨hI.t0, hI.t1, hI.t2, hI.t3, hI.t4, hI.t5, hI.t6, hI.t7, fun _ => rfl, hI.t9, hI.t10, fun _ => rfl, fun _ => rfl, hI.t13, hI.t14, hI.t15, hI.t16, hI.t17, hI.t18, hI.t19, hI.t20, hI.t21, hI.t22, hI.t23, hI.t24, hI.t25, hI.t26, hI.t27, hI.t28, hI.t29, hI.t30, hI.t31, hI.t32, hI.t33, hI.t34, hI.t35, hI.t36, hI.t37, hI.t38, hI.t39, hI.t40, hI.t41, hI.t42, hI.t43, hI.t44, hI.t45, hI.t46, hI.t47, hI.t48, hI.t49, hI.t50, hI.t51, hI.t52, hI.t53, hI.t54, hI.t55, hI.t56, hI.t57, hI.t58, hI.t59, hI.t60, hI.t61, hI.t62, hI.t63, hI.t64, hI.t65, hI.t66, hI.t67, hI.t68, hI.t69, hI.t70, hI.t71, hI.a5, hI.a6, hI.ax, hI.ay, hI.a13, hI.a15, hI.a17, hI.a19, hI.a21, hI.a22, hI.a24, hI.a25, hI.bw⟩⟩
    · rintro L a wx ⟨v, rfl, hI⟩ hL hdep hcl K hK
      have e12 := hI.t12 (hdep 12 (by decide))
      rw [e12]
      go_simp
      exact hK _ _ ⟨(upd (upd v 87 (.bool true)) 88 (.bool true)), rfl, ⟨hI.t0, hI.t1, hI.t2, hI.t3, hI.t4, hI.t5, hI.t6, hI.t7, hI.t8, hI.t9, hI.t10, hI.t11, fun _ => rfl, fun _ => rfl, hI.t14, hI.t15, hI.t16, hI.t17, hI.t18, hI.t19, hI.t20, hI.t21, hI.t22, hI.t23, hI.t24, hI.t25, hI.t26, hI.t27, hI.t28, hI.t29, hI.t30, hI.t31, hI.t32, hI.t33, hI.t34, hI.t35, hI.t36, hI.t37, hI.t38, hI.t39, hI.t40, hI.t41, hI.t42, hI.t43, hI.t44, hI.t45, hI.t46, hI.t47, hI.t48, hI.t49, hI.t50, hI.t51, hI.t52, hI.t53, hI.t54, hI.t55, hI.t56, hI.t57, hI.t58, hI.t59, hI.t60, hI.t61, hI.t62, hI.t63, hI.t64, hI.t65, hI.t66, hI.t67, hI.t68, hI.t69, hI.t70, hI.t71, hI.a5, hI.a6, hI.ax, hI.ay, hI.a13, hI.a15, hI.a17, hI.a19, hI.a21, hI.a22, hI.a24, hI.a25, hI.bw⟩⟩
    · rintro L a wx ⟨v, rfl, hI⟩ hL hdep hcl K hK
      have e13 := hI.t13 (hdep 13 (by decide))
      rw [e13]
      refine (if_pos rfl).mpr ?_
      go_simp
      exact hK _ _ ⟨(upd (upd v 88 (.bool true)) 89 (.int .u64 lb)), rfl, ⟨hI.t0, hI.t1, hI.t2, hI.t3, hI.t4, hI.t5, hI.t6, hI.t7, hI.t8, hI.t9, hI.t10, hI.t11, hI.t12, fun _ => rfl, fun _ => rfl, hI.t15, hI.t16, hI.t17, hI.t18, hI.t19, hI.t20, hI.t21, hI.t22, hI.t23, hI.t24, hI.t25, hI.t26, hI.t27, hI.t28, hI.t29, hI.t30, hI.t31, hI.t32, hI.t33, hI.t34, hI.t35, hI.t36, hI.t37, hI.t38, hI.t39, hI.t40, hI.t41, hI.t42, hI.t43, hI.t44, hI.t45, hI.t46, hI.t47, hI.t48, hI.t49, hI.t50, hI.t51, hI.t52, hI.t53, hI.t54, hI.t55, hI.t56, hI.t57, hI.t58, hI.t59, hI.t60, hI.t61, hI.t62, hI.t63, hI.t64, hI.t65, hI.t66, hI.t67, hI.t68, hI.t69, hI.t70, hI.t71, hI.a5, hI.a6, hI.ax, hI.ay, hI.a13, hI.a15, hI.a17, hI.a19, hI.a21, hI.a22, hI.a24, hI.a25, hI.bw⟩⟩
    · rintro L a wx ⟨v, rfl, hI⟩ hL hdep hcl K hK
      have e13 := hI.t13 (hdep 13 (by decide))
      rw [e13]
      refine (if_pos rfl).mpr ?_
      go_simp
      exact hK _ _ ⟨(upd (upd v 88 (.bool true)) 90 (.int .u64 lb)), rfl, ⟨hI.t0, hI.t1, hI.t2, hI.t3, hI.t4, hI.t5, hI.t6, hI.t7, hI.t8, hI.t9, hI.t10, hI.t11, hI.t12, fun _ => rfl, hI.t14, fun _ => rfl, hI.t16, hI.t17, hI.t18, hI.t19, hI.t20, hI.t21, hI.t22, hI.t23, hI.t24, hI.t25, hI.t26, hI.t27, hI.t28, hI.t29, hI.t30, hI.t31, hI.t32, hI.t33, hI.t34, hI.t35, hI.t36, hI.t37, hI.t38, hI.t39, hI.t40, hI.t41, hI.t42, hI.t43, hI.t44, hI.t45, hI.t46, hI.t47, hI.t48, hI.t49, hI.t50, hI.t51, hI.t52, hI.t53, hI.t54, hI.t55, hI.t56, hI.t57, hI.t58, hI.t59, hI.t60, hI.t61, hI.t62, hI.t63, hI.t64, hI.t65, hI.t66, hI.t67, hI.t68, hI.t69, hI.t70, hI.t71, hI.a5, hI.a6, hI.ax, hI.ay, hI.a13, hI.a15, hI.a17, hI.a19, hI.a21, hI.a22, hI.a24, hI.a25, hI.bw⟩⟩
    · rintro L a wx ⟨v, rfl, hI⟩ hL hdep hcl K hK
      have e13 := hI.t13 (hdep 13 (by decide))
      have e14 := hI.t14 (hdep 14 (by decide))
      have e15 := hI.t15 (hdep 15 (by decide))
      rw [e13, e14, e15]
      refine (if_pos rfl).mpr ?_
      go_simp
      exact hK _ _ ⟨(upd (upd (upd (upd v 88 (.bool true)) 89 (.int .u64 lb)) 90 (.int .u64 lb)) 91 (.bool true)), rfl, ⟨hI.t0, hI.t1, hI.t2, hI.t3, hI.t4, hI.t5, hI.t6, hI.t7, hI.t8, hI.t9, hI.t10, hI.t11, hI.t12, fun _ => rfl, fun _ => rfl, fun _ => rfl, fun _ => rfl, hI.t17, hI.t18, hI.t19, hI.t20, hI.t21, hI.t22, hI.t23, hI.t24, hI.t25, hI.t26, hI.t27, hI.t28, hI.t29, hI.t30, hI.t31, hI.t32, hI.t33, hI.t34, hI.t35, hI.t36, hI.t37, hI.t38, hI.t39, hI.t40, hI.t41, hI.t42, hI.t43, hI.t44, hI.t45, hI.t46, hI.t47, hI.t48, hI.t49, hI.t50, hI.t51, hI.t52, hI.t53, hI.t54, hI.t55, hI.t56, hI.t57, hI.t58, hI.t59, hI.t60, hI.t61, hI.t62, hI.t63, hI.t64, hI.t65, hI.t66, hI.t67, hI.t68, hI.t69, hI.t70, hI.t71, hI.a5, hI.a6, hI.ax, hI.ay, hI.a13, hI.a15, hI.a17, hI.a19, hI.a21, hI.a22, hI.a24, hI.a25, hI.bw⟩⟩
    · rintro L a wx ⟨v, rfl, hI⟩ hL hdep hcl K hK
      have e13 := hI.t13 (hdep 13 (by decide))
      have e16 := hI.t16 (hdep 16 (by decide))
      rw [e13, e16]
      go_simp
      exact hK _ _ ⟨(upd (upd (upd v 88 (.bool true)) 91 (.bool true)) 92 (.bool true)), rfl, ⟨hI.t0, hI.t1, hI.t2, hI.t3, hI.t4, hI.t5, hI.t6, hI.t7, hI.t8, hI.t9, hI.t10, hI.t11, hI.t12, fun _ => rfl, hI.t14, hI.t15, fun _ => rfl, fun _ => rfl, hI.t18, hI.t19, hI.t20, hI.t21, hI.t22, hI.t23, hI.t24, hI.t25, hI.t26, hI.t27, hI.t28, hI.t29, hI.t30, hI.t31, hI.t32, hI.t33, hI.t34, hI.t35, hI.t36, hI.t37, hI.t38, hI.t39, hI.t40, hI.t41, hI.t42, hI.t43, hI.t44, hI.t45, hI.t46, hI.t47, hI.t48, hI.t49, hI.t50, hI.t51, hI.t52, hI.t53, hI.t54, hI.t55, hI.t56, hI.t57, hI.t58, hI.t59, hI.t60, hI.t61, hI.t62, hI.t63, hI.t64, hI.t65, hI.t66, hI.t67, hI.t68, hI.t69, hI.t70, hI.t71, hI.a5, hI.a6, hI.ax, hI.ay, hI.a13, hI.a15, hI.a17, hI.a19, hI.a21, hI.a22, hI.a24, hI.a25, hI.bw⟩⟩
    · rintro L a wx ⟨v, rfl, hI⟩ hL hdep hcl K hK
      have e17 := hI.t17 (hdep 17 (by decide))
      rw [e17]
      go_simp
      exact hK _ _ ⟨(upd (upd v 92 (.bool true)) 93 (.bool true)), rfl, ⟨hI.t0, hI.t1, hI.t2, hI.t3, hI.t4, hI.t5, hI.t6, hI.t7, hI.t8, hI.t9, hI.t10, hI.t11, hI.t12, hI.t13, hI.t14, hI.t15, hI.t16, fun _ => rfl, fun _ => rfl, hI.t19, hI.t20, hI.t21, hI.t22, hI.t23, hI.t24, hI.t25, hI.t26, hI.t27, hI.t28, hI.t29, hI.t30, hI.t31, hI.t32, hI.t33, hI.t34, hI.t35, hI.t36, hI.t37, hI.t38, hI.t39, hI.t40, hI.t41, hI.t42, hI.t43, hI.t44, hI.t45, hI.t46, hI.t47, hI.t48, hI.t49, hI.t50, hI.t51, hI.t52, hI.t53, hI.t54, hI.t55, hI.t56, hI.t57, hI.t58, hI.t59, hI.t60, hI.t61, hI.t62, hI.t63, hI.t64, hI.t65, hI.t66, hI.t67, hI.t68, hI.t69, hI.t70, hI.t71, hI.a5, hI.a6, hI.ax, hI.ay, hI.a13, hI.a15, hI.a17, hI.a19, hI.a21, hI.a22, hI.a24, hI.a25, hI.bw⟩⟩
    · rintro L a wx ⟨v, rfl, hI⟩ hL hdep hcl K hK
      have e18 := hI.t18 (hdep 18 (by decide))
      rw [e18]
      refine (if_pos rfl).mpr ?_
      go_simp
      exact hK _ _ ⟨(upd (upd v 93 (.bool true)) 94 (.int .i64 le)), rfl, ⟨hI.t0, hI.t1, hI.t2, hI.t3, hI.t4, hI.t5, hI.t6, hI.t7, hI.t8, hI.t9, hI.t10, hI.t11, hI.t12, hI.t13, hI.t14, hI.t15, hI.t16, hI.t17, fun _ => rfl, fun _ => rfl, hI.t20, hI.t21, hI.t22, hI.t23, hI.t24, hI.t25, hI.t26, hI.t27, hI.t28, hI.t29, hI.t30, hI.t31, hI.t32, hI.t33, hI.t34, hI.t35, hI.t36, hI.t37, hI.t38, hI.t39, hI.t40, hI.t41, hI.t42, hI.t43, hI.t44, hI.t45, hI.t46, hI.t47, hI.t48, hI.t49, hI.t50, hI.t51, hI.t52, hI.t53, hI.t54, hI.t55, hI.t56, hI.t57, hI.t58, hI.t59, hI.t60, hI.t61, hI.t62, hI.t63, hI.t64, hI.t65, hI.t66, hI.t67, hI.t68, hI.t69, hI.t70, hI.t71, hI.a5, hI.a6, hI.ax, hI.ay, hI.a13, hI.a15, hI.a17, hI.a19, hI.a21, hI.a22, hI.a24, hI.a25, hI.bw⟩⟩
    · rintro L a wx ⟨v, rfl, hI⟩ hL hdep hcl K hK
      have e18 := hI.t18 (hdep 18 (by decide))
      rw [e18]
      refine (if_pos rfl).mpr ?_
      go_simp
      exact hK _ _ ⟨(upd (upd v 93 (.bool true)) 95 (.int .i64 le)), rfl, ⟨hI.t0, hI.t1, hI.t2, hI.t3, hI.t4, hI.t5, hI.t6, hI.t7, hI.t8, hI.t9, hI.t10, hI.t11, hI.t12, hI.t13, hI.t14, hI.t15, hI.t16, hI.t17, fun _ => rfl, hI.t19, fun _ => rfl, hI.t21, hI.t22, hI.t23, hI.t24, hI.t25, hI.t26, hI.t27, hI.t28, hI.t29, hI.t30, hI.t31, hI.t32, hI.t33, hI.t34, hI.t35, hI.t36, hI.t37, hI.t38, hI.t39, hI.t40, hI.t41, hI.t42, hI.t43, hI.t44, hI.t45, hI.t46, hI.t47, hI.t48, hI.t49, hI.t50, hI.t51, hI.t52, hI.t53, hI.t54, hI.t55, hI.t56, hI.t57, hI.t58, hI.t59, hI.t60, hI.t61, hI.t62, hI.t63, hI.t64, hI.t65, hI.t66, hI.t67, hI.t68, hI.t69, hI.t70, hI.t71, hI.a5, hI.a6, hI.ax, hI.ay, hI.a13, hI.a15, hI.a17, hI.a19, hI.a21, hI.a22, hI.a24, hI.a25, hI.bw⟩⟩
    · rintro L a wx ⟨v, rfl, hI⟩ hL hdep hcl K hK
      have e18 := hI.t18 (hdep 18 (by decide))
      have e19 := hI.t19 (hdep 19 (by decide))
      have e20 := hI.t20 (hdep 20 (by decide))
      rw [e18, e19, e20]
      refine (if_pos rfl).mpr ?_
      go_simp
      exact hK _ _ ⟨(upd (upd (upd (upd v 93 (.bool true)) 94 (.int .i64 le)) 95 (.int .i64 le)) 96 (.bool true)), rfl, ⟨hI.t0, hI.t1, hI.t2, hI.t3, hI.t4, hI.t5, hI.t6, hI.t7, hI.t8, hI.t9, hI.t10, hI.t11, hI.t12, hI.t13, hI.t14, hI.t15, hI.t16, hI.t17, fun _ => rfl, fun _ => rfl, fun _ => rfl, fun _ => rfl, hI.t22, hI.t23, hI.t24, hI.t25, hI.t26, hI.t27, hI.t28, hI.t29, hI.t30, hI.t31, hI.t32, hI.t33, hI.t34, hI.t35, hI.t36, hI.t37, hI.t38, hI.t39, hI.t40, hI.t41, hI.t42, hI.t43, hI.t44, hI.t45, hI.t46, hI.t47, hI.t48, hI.t49, hI.t50, hI.t51, hI.t52, hI.t53, hI.t54, hI.t55, hI.t56, hI.t57, hI.t58, hI.t59, hI.t60, hI.t61, hI.t62, hI.t63, hI.t64, hI.t65, hI.t66, hI.t67, hI.t68, hI.t69, hI.t70, hI.t71, hI.a5, hI.a6, hI.ax, hI.ay, hI.a13, hI.a15, hI.a17, hI.a19, hI.a21, hI.a22, hI.a24, hI.a25, hI.bw⟩⟩
    · rintro L a wx ⟨v, rfl, hI⟩ hL hdep hcl K hK
      have e18 := hI.t18 (hdep 18 (by decide))
      have e21 := hI.t21 (hdep 21 (by decide))
      rw [e18, e21]
      go_simp
      exact hK _ _ ⟨(upd (upd (upd v 93 (.bool true)) 96 (.bool true)) 97 (.bool true)), rfl, ⟨hI.t0, hI.t1, hI.t2, hI.t3, hI.t4, hI.t5, hI.t6, hI.t7, hI.t8, hI.t9, hI.t10, hI.t11, hI.t12, hI.t13, hI.t14, hI.t15, hI.t16, hI.t17, fun _ => rfl, hI.t19, hI.t20, fun _ => rfl, fun _ => rfl, hI.t23, hI.t24, hI.t25, hI.t26, hI.t27, hI.t28, hI.t29, hI.t30, hI.t31, hI.t32, hI.t33, hI.t34, hI.t35, hI.t36, hI.t37, hI.t38, hI.t39, hI.t40, hI.t41, hI.t42, hI.t43, hI.t44, hI.t45, hI.t46, hI.t47, hI.t48, hI.t49, hI.t50, hI.t51, hI.t52, hI.t53, hI.t54, hI.t55, hI.t56, hI.t57, hI.t58, hI.t59, hI.t60, hI.t61, hI.t62, hI.t63, hI.t64, hI.t65, hI.t66, hI.t67, hI.t68, hI.t69, hI.t70, hI.t71, hI.a5, hI.a6, hI.ax, hI.ay, hI.a13, hI.a15, hI.a17, hI.a19, hI.a21, hI.a22, hI.a24, hI.a25, hI.bw⟩⟩
    · rintro L a wx ⟨v, rfl, hI⟩ hL hdep hcl K hK
      have e22 := hI.t22 (hdep 22 (by decide))
      rw [e22]
      go_simp
      exact hK _ _ ⟨(upd (upd v 97 (.bool true)) 98 (.bool true)), rfl, ⟨hI.t0, hI.t1, hI.t2, hI.t3, hI.t4, hI.t5, hI.t6, hI.t7, hI.t8, hI.t9, hI.t10, hI.t11, hI.t12, hI.t13, hI.t14, hI.t15, hI.t16, hI.t17, hI.t18, hI.t19, hI.t20, hI.t21, fun _ => rfl, fun _ => rfl, hI.t24, hI.t25, hI.t26, hI.t27, hI.t28, hI.t29, hI.t30, hI.t31, hI.t32, hI.t33, hI.t34, hI.t35, hI.t36, hI.t37, hI.t38, hI.t39, hI.t40, hI.t41, hI.t42, hI.t43, hI.t44, hI.t45, hI.t46, hI.t47, hI.t48, hI.t49, hI.t50, hI.t51, hI.t52, hI.t53, hI.t54, hI.t55, hI.t56, hI.t57, hI.t58, hI.t59, hI.t60, hI.t61, hI.t62, hI.t63, hI.t64, hI.t65, hI.t66, hI.t67, hI.t68, hI.t69, hI.t70, hI.t71, hI.a5, hI.a6, hI.ax, hI.ay, hI.a13, hI.a15, hI.a17, hI.a19, hI.a21, hI.a22, hI.a24, hI.a25, hI.bw⟩⟩
    · rintro L a wx ⟨v, rfl, hI⟩ hL hdep hcl K hK
      have e23 := hI.t23 (hdep 23 (by decide))
      rw [e23]
      refine (if_pos rfl).mpr ?_
      obtain ⟨c0, c1⟩ := hI.a13.two
      go_simp
      exact hK _ _ ⟨(upd (upd v 98 (.bool true)) 99 (.agg #[.int .i64 pl, .int .u64 pi])), rfl, ⟨hI.t0, hI.t1, hI.t2, hI.t3, hI.t4, hI.t5, hI.t6, hI.t7, hI.t8, hI.t9, hI.t10, hI.t11, hI.t12, hI.t13, hI.t14, hI.t15, hI.t16, hI.t17, hI.t18, hI.t19, hI.t20, hI.t21, hI.t22, fun _ => rfl, fun _ => rfl, hI.t25, hI.t26, hI.t27, hI.t28, hI.t29, hI.t30, hI.t31, hI.t32, hI.t33, hI.t34, hI.t35, hI.t36, hI.t37, hI.t38, hI.t39, hI.t40, hI.t41, hI.t42, hI.t43, hI.t44, hI.t45, hI.t46, hI.t47, hI.t48, hI.t49, hI.t50, hI.t51, hI.t52, hI.t53, hI.t54, hI.t55, hI.t56, hI.t57, hI.t58, hI.t59, hI.t60, hI.t61, hI.t62, hI.t63, hI.t64, hI.t65, hI.t66, hI.t67, hI.t68, hI.t69, hI.t70, hI.t71, hI.a5, hI.a6, hI.ax, hI.ay, hI.a13, hI.a15, hI.a17, hI.a19, hI.a21, hI.a22, hI.a24, hI.a25, hI.bw⟩⟩
    · rintro L a wx ⟨v, rfl, hI⟩ hL hdep hcl K hK
      have e23 := hI.t23 (hdep 23 (by decide))
      have e24 := hI.t24 (hdep 24 (by decide))
      rw [e23, e24]
      refine (if_pos rfl).mpr ?_
      go_simp
      refine (theirs_any _ _ wx).mono ?_
      rintro e w' ⟨rfl, hb⟩
      exact hK _ _ ⟨(upd (upd (upd v 98 (.bool true)) 99 (.agg #[.int .i64 pl, .int .u64 pi])) 100 (.agg #[.int .i64 pl, .int .u64 pi])), rfl, ⟨hI.t0, hI.t1, hI.t2, hI.t3, hI.t4, hI.t5, hI.t6, hI.t7, hI.t8, hI.t9, hI.t10, hI.t11, hI.t12, hI.t13, hI.t14, hI.t15, hI.t16, hI.t17, hI.t18, hI.t19, hI.t20, hI.t21, hI.t22, fun _ => rfl, fun _ => rfl, fun _ => rfl, hI.t26, hI.t27, hI.t28, hI.t29, hI.t30, hI.t31, hI.t32, hI.t33, hI.t34, hI.t35, hI.t36, hI.t37, hI.t38, hI.t39, hI.t40, hI.t41, hI.t42, hI.t43, hI.t44, hI.t45, hI.t46, hI.t47, hI.t48, hI.t49, hI.t50, hI.t51, hI.t52, hI.t53, hI.t54, hI.t55, hI.t56, hI.t57, hI.t58, hI.t59, hI.t60, hI.t61, hI.t62, hI.t63, hI.t64, hI.t65, hI.t66, hI.t67, hI.t68, hI.t69, hI.t70, hI.t71, (hI.a5).kept hb, (hI.a6).kept hb, (hI.ax).kept hb, (hI.ay).kept hb, (hI.a13).kept hb, (hI.a15).kept hb, (hI.a17).kept hb, (hI.a19).kept hb, (hI.a21).kept hb, (hI.a22).kept hb, (hI.a24).kept hb, (hI.a25).kept hb, (hI.bw).trans (hb.mono (hI.bw).size)⟩⟩
    · rintro L a wx ⟨v, rfl, hI⟩ hL hdep hcl K hK
      have e23 := hI.t23 (hdep 23 (by decide))
      rw [e23]
      refine (if_pos rfl).mpr ?_
      obtain ⟨c0, c1⟩ := hI.a15.two
      go_simp
      exact hK _ _ ⟨(upd (upd v 98 (.bool true)) 101 (.agg #[.int .i64 pl, .int .u64 pi])), rfl, ⟨hI.t0, hI.t1, hI.t2, hI.t3, hI.t4, hI.t5, hI.t6, hI.t7, hI.t8, hI.t9, hI.t10, hI.t11, hI.t12, hI.t13, hI.t14, hI.t15, hI.t16, hI.t17, hI.t18, hI.t19, hI.t20, hI.t21, hI.t22, fun _ => rfl, hI.t24, hI.t25, fun _ => rfl, hI.t27, hI.t28, hI.t29, hI.t30, hI.t31, hI.t32, hI.t33, hI.t34, hI.t35, hI.t36, hI.t37, hI.t38, hI.t39, hI.t40, hI.t41, hI.t42, hI.t43, hI.t44, hI.t45, hI.t46, hI.t47, hI.t48, hI.t49, hI.t50, hI.t51, hI.t52, hI.t53, hI.t54, hI.t55, hI.t56, hI.t57, hI.t58, hI.t59, hI.t60, hI.t61, hI.t62, hI.t63, hI.t64, hI.t65, hI.t66, hI.t67, hI.t68, hI.t69, hI.t70, hI.t71, hI.a5, hI.a6, hI.ax, hI.ay, hI.a13, hI.a15, hI.a17, hI.a19, hI.a21, hI.a22, hI.a24, hI.a25, hI.bw⟩⟩
    · rintro L a wx ⟨v, rfl, hI⟩ hL hdep hcl K hK
      have e23 := hI.t23 (hdep 23 (by decide))
      have e25 := hI.t25 (hdep 25 (by decide))
      have e26 := hI.t26 (hdep 26 (by decide))
      rw [e23, e25, e26]
      refine (if_pos rfl).mpr ?_
      go_simp
      exact hK _ _ ⟨(upd (upd (upd (upd v 98 (.bool true)) 100 (.agg #[.int .i64 pl, .int .u64 pi])) 101 (.agg #[.int .i64 pl, .int .u64 pi])) 102 (.bool true)), rfl, ⟨hI.t0, hI.t1, hI.t2, hI.t3, hI.t4, hI.t5, hI.t6, hI.t7, hI.t8, hI.t9, hI.t10, hI.t11, hI.t12, hI.t13, hI.t14, hI.t15, hI.t16, hI.t17, hI.t18, hI.t19, hI.t20, hI.t21, hI.t22, fun _ => rfl, hI.t24, fun _ => rfl, fun _ => rfl, fun _ => rfl, hI.t28, hI.t29, hI.t30, hI.t31, hI.t32, hI.t33, hI.t34, hI.t35, hI.t36, hI.t37, hI.t38, hI.t39, hI.t40, hI.t41, hI.t42, hI.t43, hI.t44, hI.t45, hI.t46, hI.t47, hI.t48, hI.t49, hI.t50, hI.t51, hI.t52, hI.t53, hI.t54, hI.t55, hI.t56, hI.t57, hI.t58, hI.t59, hI.t60, hI.t61, hI.t62, hI.t63, hI.t64, hI.t65, hI.t66, hI.t67, hI.t68, hI.t69, hI.t70, hI.t71, hI.a5, hI.a6, hI.ax, hI.ay, hI.a13, hI.a15, hI.a17, hI.a19, hI.a21, hI.a22, hI.a24, hI.a25, hI.bw⟩⟩
    · rintro L a wx ⟨v, rfl, hI⟩ hL hdep hcl K hK
      have e23 := hI.t23 (hdep 23 (by decide))
      have e27 := hI.t27 (hdep 27 (by decide))
      rw [e23, e27]
      go_simp
      exact hK _ _ ⟨(upd (upd (upd v 98 (.bool true)) 102 (.bool true)) 103 (.bool true)), rfl, ⟨hI.t0, hI.t1, hI.t2, hI.t3, hI.t4, hI.t5, hI.t6, hI.t7, hI.t8, hI.t9, hI.t10, hI.t11, hI.t12, hI.t13, hI.t14, hI.t15, hI.t16, hI.t17, hI.t18, hI.t19, hI.t20, hI.t21, hI.t22, fun _ => rfl, hI.t24, hI.t25, hI.t26, fun _ => rfl, fun _ => rfl, hI.t29, hI.t30, hI.t31, hI.t32, hI.t33, hI.t34, hI.t35, hI.t36, hI.t37, hI.t38, hI.t39, hI.t40, hI.t41, hI.t42, hI.t43, hI.t44, hI.t45, hI.t46, hI.t47, hI.t48, hI.t49, hI.t50, hI.t51, hI.t52, hI.t53, hI.t54, hI.t55, hI.t56, hI.t57, hI.t58, hI.t59, hI.t60, hI.t61, hI.t62, hI.t63, hI.t64, hI.t65, hI.t66, hI.t67, hI.t68, hI.t69, hI.t70, hI.t71, hI.a5, hI.a6, hI.ax, hI.ay, hI.a13, hI.a15, hI.a17, hI.a19, hI.a21, hI.a22, hI.a24, hI.a25, hI.bw⟩⟩
    · rintro L a wx ⟨v, rfl, hI⟩ hL hdep hcl K hK
      have e28 := hI.t28 (hdep 28 (by decide))
      rw [e28]
      go_simp
      exact hK _ _ ⟨(upd (upd v 103 (.bool true)) 104 (.bool true)), rfl, ⟨hI.t0, hI.t1, hI.t2, hI.t3, hI.t4, hI.t5, hI.t6, hI.t7, hI.t8, hI.t9, hI.t10, hI.t11, hI.t12, hI.t13, hI.t14, hI.t15, hI.t16, hI.t17, hI.t18, hI.t19, hI.t20, hI.t21, hI.t22, hI.t23, hI.t24, hI.t25, hI.t26, hI.t27, fun _ => rfl, fun _ => rfl, hI.t30, hI.t31, hI.t32, hI.t33, hI.t34, hI.t35, hI.t36, hI.t37, hI.t38, hI.t39, hI.t40, hI.t41, hI.t42, hI.t43, hI.t44, hI.t45, hI.t46, hI.t47, hI.t48, hI.t49, hI.t50, hI.t51, hI.t52, hI.t53, hI.t54, hI.t55, hI.t56, hI.t57, hI.t58, hI.t59, hI.t60, hI.t61, hI.t62, hI.t63, hI.t64, hI.t65, hI.t66, hI.t67, hI.t68, hI.t69, hI.t70, hI.t71, hI.a5, hI.a6, hI.ax, hI.ay, hI.a13, hI.a15, hI.a17, hI.a19, hI.a21, hI.a22, hI.a24, hI.a25, hI.bw⟩⟩
    · rintro L a wx ⟨v, rfl, hI⟩ hL hdep hcl K hK
      have e29 := hI.t29 (hdep 29 (by decide))
      rw [e29]
      refine (if_pos rfl).mpr ?_
      go_simp
      exact hK _ _ ⟨(upd (upd v 104 (.bool true)) 105 (.int .i64 pe)), rfl, ⟨hI.t0, hI.t1, hI.t2, hI.t3, hI.t4, hI.t5, hI.t6, hI.t7, hI.t8, hI.t9, hI.t10, hI.t11, hI.t12, hI.t13, hI.t14, hI.t15, hI.t16, hI.t17, hI.t18, hI.t19, hI.t20, hI.t21, hI.t22, hI.t23, hI.t24, hI.t25, hI.t26, hI.t27, hI.t28, fun _ => rfl, fun _ => rfl, hI.t31, hI.t32, hI.t33, hI.t34, hI.t35, hI.t36, hI.t37, hI.t38, hI.t39, hI.t40, hI.t41, hI.t42, hI.t43, hI.t44, hI.t45, hI.t46, hI.t47, hI.t48, hI.t49, hI.t50, hI.t51, hI.t52, hI.t53, hI.t54, hI.t55, hI.t56, hI.t57, hI.t58, hI.t59, hI.t60, hI.t61, hI.t62, hI.t63, hI.t64, hI.t65, hI.t66, hI.t67, hI.t68, hI.t69, hI.t70, hI.t71, hI.a5, hI.a6, hI.ax, hI.ay, hI.a13, hI.a15, hI.a17, hI.a19, hI.a21, hI.a22, hI.a24, hI.a25, hI.bw⟩⟩
    · rintro L a wx ⟨v, rfl, hI⟩ hL hdep hcl K hK
      have e29 := hI.t29 (hdep 29 (by decide))
      rw [e29]
      refine (if_pos rfl).mpr ?_
      go_simp
      exact hK _ _ ⟨(upd (upd v 104 (.bool true)) 106 (.int .i64 pe)), rfl, ⟨hI.t0, hI.t1, hI.t2, hI.t3, hI.t4, hI.t5, hI.t6, hI.t7, hI.t8, hI.t9, hI.t10, hI.t11, hI.t12, hI.t13, hI.t14, hI.t15, hI.t16, hI.t17, hI.t18, hI.t19, hI.t20, hI.t21, hI.t22, hI.t23, hI.t24, hI.t25, hI.t26, hI.t27, hI.t28, fun _ => rfl, hI.t30, fun _ => rfl, hI.t32, hI.t33, hI.t34, hI.t35, hI.t36, hI.t37, hI.t38, hI.t39, hI.t40, hI.t41, hI.t42, hI.t43, hI.t44, hI.t45, hI.t46, hI.t47, hI.t48, hI.t49, hI.t50, hI.t51, hI.t52, hI.t53, hI.t54, hI.t55, hI.t56, hI.t57, hI.t58, hI.t59, hI.t60, hI.t61, hI.t62, hI.t63, hI.t64, hI.t65, hI.t66, hI.t67, hI.t68, hI.t69, hI.t70, hI.t71, hI.a5, hI.a6, hI.ax, hI.ay, hI.a13, hI.a15, hI.a17, hI.a19, hI.a21, hI.a22, hI.a24, hI.a25, hI.bw⟩⟩
    · rintro L a wx ⟨v, rfl, hI⟩ hL hdep hcl K hK
      have e29 := hI.t29 (hdep 29 (by decide))
      have e30 := hI.t30 (hdep 30 (by decide))
      have e31 := hI.t31 (hdep 31 (by decide))
      rw [e29, e30, e31]
      refine (if_pos rfl).mpr ?_
      go_simp
      exact hK _ _ ⟨(upd (upd (upd (upd v 104 (.bool true)) 105 (.int .i64 pe)) 106 (.int .i64 pe)) 107 (.bool true)), rfl, ⟨hI.t0, hI.t1, hI.t2, hI.t3, hI.t4, hI.t5, hI.t6, hI.t7, hI.t8, hI.t9, hI.t10, hI.t11, hI.t12, hI.t13, hI.t14, hI.t15, hI.t16, hI.t17, hI.t18, hI.t19, hI.t20, hI.t21, hI.t22, hI.t23, hI.t24, hI.t25, hI.t26, hI.t27, hI.t28, fun _ => rfl, fun _ => rfl, fun _ => rfl, fun _ => rfl, hI.t33, hI.t34, hI.t35, hI.t36, hI.t37, hI.t38, hI.t39, hI.t40, hI.t41, hI.t42, hI.t43, hI.t44, hI.t45, hI.t46, hI.t47, hI.t48, hI.t49, hI.t50, hI.t51, hI.t52, hI.t53, hI.t54, hI.t55, hI.t56, hI.t57, hI.t58, hI.t59, hI.t60, hI.t61, hI.t62, hI.t63, hI.t64, hI.t65, hI.t66, hI.t67, hI.t68, hI.t69, hI.t70, hI.t71, hI.a5, hI.a6, hI.ax, hI.ay, hI.a13, hI.a15, hI.a17, hI.a19, hI.a21, hI.a22, hI.a24, hI.a25, hI.bw⟩⟩
    · rintro L a wx ⟨v, rfl, hI⟩ hL hdep hcl K hK
      have e29 := hI.t29 (hdep 29 (by decide))
      have e32 := hI.t32 (hdep 32 (by decide))
      rw [e29, e32]
      go_simp
      exact hK _ _ ⟨(upd (upd (upd v 104 (.bool true)) 107 (.bool true)) 108 (.bool true)), rfl, ⟨hI.t0, hI.t1, hI.t2, hI.t3, hI.t4, hI.t5, hI.t6, hI.t7, hI.t8, hI.t9, hI.t10, hI.t11, hI.t12, hI.t13, hI.t14, hI.t15, hI.t16, hI.t17, hI.t18, hI.t19, hI.t20, hI.t21, hI.t22, hI.t23, hI.t24, hI.t25, hI.t26, hI.t27, hI.t28, fun _ => rfl, hI.t30, hI.t31, fun _ => rfl, fun _ => rfl, hI.t34, hI.t35, hI.t36, hI.t37, hI.t38, hI.t39, hI.t40, hI.t41, hI.t42, hI.t43, hI.t44, hI.t45, hI.t46, hI.t47, hI.t48, hI.t49, hI.t50, hI.t51, hI.t52, hI.t53, hI.t54, hI.t55, hI.t56, hI.t57, hI.t58, hI.t59, hI.t60, hI.t61, hI.t62, hI.t63, hI.t64, hI.t65, hI.t66, hI.t67, hI.t68, hI.t69, hI.t70, hI.t71, hI.a5, hI.a6, hI.ax, hI.ay, hI.a13, hI.a15, hI.a17, hI.a19, hI.a21, hI.a22, hI.a24, hI.a25, hI.bw⟩⟩
    · rintro L a wx ⟨v, rfl, hI⟩ hL hdep hcl K hK
      have e33 := hI.t33 (hdep 33 (by decide))
      rw [e33]
      go_simp
      exact hK _ _ ⟨(upd (upd v 108 (.bool true)) 109 (.bool true)), rfl, ⟨hI.t0, hI.t1, hI.t2, hI.t3, hI.t4, hI.t5, hI.t6, hI.t7, hI.t8, hI.t9, hI.t10, hI.t11, hI.t12, hI.t13, hI.t14, hI.t15, hI.t16, hI.t17, hI.t18, hI.t19, hI.t20, hI.t21, hI.t22, hI.t23, hI.t24, hI.t25, hI.t26, hI.t27, hI.t28, hI.t29, hI.t30, hI.t31, hI.t32, fun _ => rfl, fun _ => rfl, hI.t35, hI.t36, hI.t37, hI.t38, hI.t39, hI.t40, hI.t41, hI.t42, hI.t43, hI.t44, hI.t45, hI.t46, hI.t47, hI.t48, hI.t49, hI.t50, hI.t51, hI.t52, hI.t53, hI.t54, hI.t55, hI.t56, hI.t57, hI.t58, hI.t59, hI.t60, hI.t61, hI.t62, hI.t63, hI.t64, hI.t65, hI.t66, hI.t67, hI.t68, hI.t69, hI.t70, hI.t71, hI.a5, hI.a6, hI.ax, hI.ay, hI.a13, hI.a15, hI.a17, hI.a19, hI.a21, hI.a22, hI.a24, hI.a25, hI.bw⟩⟩
    · rintro L a wx ⟨v, rfl, hI⟩ hL hdep hcl K hK
      have e34 := hI.t34 (hdep 34 (by decide))
      rw [e34]
      refine (if_pos rfl).mpr ?_
      obtain ⟨c0, c1⟩ := hI.a17.two
      go_simp
      exact hK _ _ ⟨(upd (upd v 109 (.bool true)) 110 (.agg #[.int .i64 sl, .int .u64 si])), rfl, ⟨hI.t0, hI.t1, hI.t2, hI.t3, hI.t4, hI.t5, hI.t6, hI.t7, hI.t8, hI.t9, hI.t10, hI.t11, hI.t12, hI.t13, hI.t14, hI.t15, hI.t16, hI.t17, hI.t18, hI.t19, hI.t20, hI.t21, hI.t22, hI.t23, hI.t24, hI.t25, hI.t26, hI.t27, hI.t28, hI.t29, hI.t30, hI.t31, hI.t32, hI.t33, fun _ => rfl, fun _ => rfl, hI.t36, hI.t37, hI.t38, hI.t39, hI.t40, hI.t41, hI.t42, hI.t43, hI.t44, hI.t45, hI.t46, hI.t47, hI.t48, hI.t49, hI.t50, hI.t51, hI.t52, hI.t53, hI.t54, hI.t55, hI.t56, hI.t57, hI.t58, hI.t59, hI.t60, hI.t61, hI.t62, hI.t63, hI.t64, hI.t65, hI.t66, hI.t67, hI.t68, hI.t69, hI.t70, hI.t71, hI.a5, hI.a6, hI.ax, hI.ay, hI.a13, hI.a15, hI.a17, hI.a19, hI.a21, hI.a22, hI.a24, hI.a25, hI.bw⟩⟩
    · rintro L a wx ⟨v, rfl, hI⟩ hL hdep hcl K hK
      have e34 := hI.t34 (hdep 34 (by decide))
      have e35 := hI.t35 (hdep 35 (by decide))
      rw [e34, e35]
      refine (if_pos rfl).mpr ?_
      go_simp
      refine (theirs_any _ _ wx).mono ?_
      rintro e w' ⟨rfl, hb⟩
      exact hK _ _ ⟨(upd (upd (upd v 109 (.bool true)) 110 (.agg #[.int .i64 sl, .int .u64 si])) 111 (.agg #[.int .i64 sl, .int .u64 si])), rfl, ⟨hI.t0, hI.t1, hI.t2, hI.t3, hI.t4, hI.t5, hI.t6, hI.t7, hI.t8, hI.t9, hI.t10, hI.t11, hI.t12, hI.t13, hI.t14, hI.t15, hI.t16, hI.t17, hI.t18, hI.t19, hI.t20, hI.t21, hI.t22, hI.t23, hI.t24, hI.t25, hI.t26, hI.t27, hI.t28, hI.t29, hI.t30, hI.t31, hI.t32, hI.t33, fun _ => rfl, fun _ => rfl, fun _ => rfl, hI.t37, hI.t38, hI.t39, hI.t40, hI.t41, hI.t42, hI.t43, hI.t44, hI.t45, hI.t46, hI.t47, hI.t48, hI.t49, hI.t50, hI.t51, hI.t52, hI.t53, hI.t54, hI.t55, hI.t56, hI.t57, hI.t58, hI.t59, hI.t60, hI.t61, hI.t62, hI.t63, hI.t64, hI.t65, hI.t66, hI.t67, hI.t68, hI.t69, hI.t70, hI.t71, (hI.a5).kept hb, (hI.a6).kept hb, (hI.ax).kept hb, (hI.ay).kept hb, (hI.a13).kept hb, (hI.a15).kept hb, (hI.a17).kept hb, (hI.a19).kept hb, (hI.a21).kept hb, (hI.a22).kept hb, (hI.a24).kept hb, (hI.a25).kept hb, (hI.bw).trans (hb.mono (hI.bw).size)⟩⟩
    · rintro L a wx ⟨v, rfl, hI⟩ hL hdep hcl K hK
      have e34 := hI.t34 (hdep 34 (by decide))
      rw [e34]
      refine (if_pos rfl).mpr ?_
      obtain ⟨c0, c1⟩ := hI.a19.two
      go_simp
      exact hK _ _ ⟨(upd (upd v 109 (.bool true)) 112 (.agg #[.int .i64 sl, .int .u64 si])), rfl, ⟨hI.t0, hI.t1, hI.t2, hI.t3, hI.t4, hI.t5, hI.t6, hI.t7, hI.t8, hI.t9, hI.t10, hI.t11, hI.t12, hI.t13, hI.t14, hI.t15, hI.t16, hI.t17, hI.t18, hI.t19, hI.t20, hI.t21, hI.t22, hI.t23, hI.t24, hI.t25, hI.t26, hI.t27, hI.t28, hI.t29, hI.t30, hI.t31, hI.t32, hI.t33, fun _ => rfl, hI.t35, hI.t36, fun _ => rfl, hI.t38, hI.t39, hI.t40, hI.t41, hI.t42, hI.t43, hI.t44, hI.t45, hI.t46, hI.t47, hI.t48, hI.t49, hI.t50, hI.t51, hI.t52, hI.t53, hI.t54, hI.t55, hI.t56, hI.t57, hI.t58, hI.t59, hI.t60, hI.t61, hI.t62, hI.t63, hI.t64, hI.t65, hI.t66, hI.t67, hI.t68, hI.t69, hI.t70, hI.t71, hI.a5, hI.a6, hI.ax, hI.ay, hI.a13, hI.a15, hI.a17, hI.a19, hI.a21, hI.a22, hI.a24, hI.a25, hI.bw⟩⟩
    · rintro L a wx ⟨v, rfl, hI⟩ hL hdep hcl K hK
      have e34 := hI.t34 (hdep 34 (by decide))
      have e36 := hI.t36 (hdep 36 (by decide))
      have e37 := hI.t37 (hdep 37 (by decide))
      rw [e34, e36, e37]
      refine (if_pos rfl).mpr ?_
      go_simp
      exact hK _ _ ⟨(upd (upd (upd (upd v 109 (.bool true)) 111 (.agg #[.int .i64 sl, .int .u64 si])) 112 (.agg #[.int .i64 sl, .int .u64 si])) 113 (.bool true)), rfl, ⟨hI.t0, hI.t1, hI.t2, hI.t3, hI.t4, hI.t5, hI.t6, hI.t7, hI.t8, hI.t9, hI.t10, hI.t11, hI.t12, hI.t13, hI.t14, hI.t15, hI.t16, hI.t17, hI.t18, hI.t19, hI.t20, hI.t21, hI.t22, hI.t23, hI.t24, hI.t25, hI.t26, hI.t27, hI.t28, hI.t29, hI.t30, hI.t31, hI.t32, hI.t33, fun _ => rfl, hI.t35, fun _ => rfl, fun _ => rfl, fun _ => rfl, hI.t39, hI.t40, hI.t41, hI.t42, hI.t43, hI.t44, hI.t45, hI.t46, hI.t47, hI.t48, hI.t49, hI.t50, hI.t51, hI.t52, hI.t53, hI.t54, hI.t55, hI.t56, hI.t57, hI.t58, hI.t59, hI.t60, hI.t61, hI.t62, hI.t63, hI.t64, hI.t65, hI.t66, hI.t67, hI.t68, hI.t69, hI.t70, hI.t71, hI.a5, hI.a6, hI.ax, hI.ay, hI.a13, hI.a15, hI.a17, hI.a19, hI.a21, hI.a22, hI.a24, hI.a25, hI.bw⟩⟩
    · rintro L a wx ⟨v, rfl, hI⟩ hL hdep hcl K hK
      have e34 := hI.t34 (hdep 34 (by decide))
      have e38 := hI.t38 (hdep 38 (by decide))
      rw [e34, e38]
      go_simp
      exact hK _ _ ⟨(upd (upd (upd v 109 (.bool true)) 113 (.bool true)) 114 (.bool true)), rfl, ⟨hI.t0, hI.t1, hI.t2, hI.t3, hI.t4, hI.t5, hI.t6, hI.t7, hI.t8, hI.t9, hI.t10, hI.t11, hI.t12, hI.t13, hI.t14, hI.t15, hI.t16, hI.t17, hI.t18, hI.t19, hI.t20, hI.t21, hI.t22, hI.t23, hI.t24, hI.t25, hI.t26, hI.t27, hI.t28, hI.t29, hI.t30, hI.t31, hI.t32, hI.t33, fun _ => rfl, hI.t35, hI.t36, hI.t37, fun _ => rfl, fun _ => rfl, hI.t40, hI.t41, hI.t42, hI.t43, hI.t44, hI.t45, hI.t46, hI.t47, hI.t48, hI.t49, hI.t50, hI.t51, hI.t52, hI.t53, hI.t54, hI.t55, hI.t56, hI.t57, hI.t58, hI.t59, hI.t60, hI.t61, hI.t62, hI.t63, hI.t64, hI.t65, hI.t66, hI.t67, hI.t68, hI.t69, hI.t70, hI.t71, hI.a5, hI.a6, hI.ax, hI.ay, hI.a13, hI.a15, hI.a17, hI.a19, hI.a21, hI.a22, hI.a24, hI.a25, hI.bw⟩⟩
    · rintro L a wx ⟨v, rfl, hI⟩ hL hdep hcl K hK
      have e39 := hI.t39 (hdep 39 (by decide))
      rw [e39]
      go_simp
      exact hK _ _ ⟨(upd (upd v 114 (.bool true)) 115 (.bool true)), rfl, ⟨hI.t0, hI.t1, hI.t2, hI.t3, hI.t4, hI.t5, hI.t6, hI.t7, hI.t8, hI.t9, hI.t10, hI.t11, hI.t12, hI.t13, hI.t14, hI.t15, hI.t16, hI.t17, hI.t18, hI.t19, hI.t20, hI.t21, hI.t22, hI.t23, hI.t24, hI.t25, hI.t26, hI.t27, hI.t28, hI.t29, hI.t30, hI.t31, hI.t32, hI.t33, hI.t34, hI.t35, hI.t36, hI.t37, hI.t38, fun _ => rfl, fun _ => rfl, hI.t41, hI.t42, hI.t43, hI.t44, hI.t45, hI.t46, hI.t47, hI.t48, hI.t49, hI.t50, hI.t51, hI.t52, hI.t53, hI.t54, hI.t55, hI.t56, hI.t57, hI.t58, hI.t59, hI.t60, hI.t61, hI.t62, hI.t63, hI.t64, hI.t65, hI.t66, hI.t67, hI.t68, hI.t69, hI.t70, hI.t71, hI.a5, hI.a6, hI.ax, hI.ay, hI.a13, hI.a15, hI.a17, hI.a19, hI.a21, hI.a22, hI.a24, hI.a25, hI.bw⟩⟩
    · rintro L a wx ⟨v, rfl, hI⟩ hL hdep hcl K hK
      have e40 := hI.t40 (hdep 40 (by decide))
      rw [e40]
      refine (if_pos rfl).mpr ?_
      go_simp
      exact hK _ _ ⟨(upd (upd v 115 (.bool true)) 116 (.int .i64 pe)), rfl, ⟨hI.t0, hI.t1, hI.t2, hI.t3, hI.t4, hI.t5, hI.t6, hI.t7, hI.t8, hI.t9, hI.t10, hI.t11, hI.t12, hI.t13, hI.t14, hI.t15, hI.t16, hI.t17, hI.t18, hI.t19, hI.t20, hI.t21, hI.t22, hI.t23, hI.t24, hI.t25, hI.t26, hI.t27, hI.t28, hI.t29, hI.t30, hI.t31, hI.t32, hI.t33, hI.t34, hI.t35, hI.t36, hI.t37, hI.t38, hI.t39, fun _ => rfl, fun _ => rfl, hI.t42, hI.t43, hI.t44, hI.t45, hI.t46, hI.t47, hI.t48, hI.t49, hI.t50, hI.t51, hI.t52, hI.t53, hI.t54, hI.t55, hI.t56, hI.t57, hI.t58, hI.t59, hI.t60, hI.t61, hI.t62, hI.t63, hI.t64, hI.t65, hI.t66, hI.t67, hI.t68, hI.t69, hI.t70, hI.t71, hI.a5, hI.a6, hI.ax, hI.ay, hI.a13, hI.a15, hI.a17, hI.a19, hI.a21, hI.a22, hI.a24, hI.a25, hI.bw⟩⟩
    · rintro L a wx ⟨v, rfl, hI⟩ hL hdep hcl K hK
      have e40 := hI.t40 (hdep 40 (by decide))
      rw [e40]
      refine (if_pos rfl).mpr ?_
      go_simp
      exact hK _ _ ⟨(upd (upd v 115 (.bool true)) 117 (.int .i64 pe)), rfl, ⟨hI.t0, hI.t1, hI.t2, hI.t3, hI.t4, hI.t5, hI.t6, hI.t7, hI.t8, hI.t9, hI.t10, hI.t11, hI.t12, hI.t13, hI.t14, hI.t15, hI.t16, hI.t17, hI.t18, hI.t19, hI.t20, hI.t21, hI.t22, hI.t23, hI.t24, hI.t25, hI.t26, hI.t27, hI.t28, hI.t29, hI.t30, hI.t31, hI.t32, hI.t33, hI.t34, hI.t35, hI.t36, hI.t37, hI.t38, hI.t39, fun _ => rfl, hI.t41, fun _ => rfl, hI.t43, hI.t44, hI.t45, hI.t46, hI.t47, hI.t48, hI.t49, hI.t50, hI.t51, hI.t52, hI.t53, hI.t54, hI.t55, hI.t56, hI.t57, hI.t58, hI.t59, hI.t60, hI.t61, hI.t62, hI.t63, hI.t64, hI.t65, hI.t66, hI.t67, hI.t68, hI.t69, hI.t70, hI.t71, hI.a5, hI.a6, hI.ax, hI.ay, hI.a13, hI.a15, hI.a17, hI.a19, hI.a21, hI.a22, hI.a24, hI.a25, hI.bw⟩⟩
    · rintro L a wx ⟨v, rfl, hI⟩ hL hdep hcl K hK
      have e40 := hI.t40 (hdep 40 (by decide))
      have e41 := hI.t41 (hdep 41 (by decide))
      have e42 := hI.t42 (hdep 42 (by decide))
      rw [e40, e41, e42]
      refine (if_pos rfl).mpr ?_
      go_simp
      exact hK _ _ ⟨(upd (upd (upd (upd v 115 (.bool true)) 116 (.int .i64 pe)) 117 (.int .i64 pe)) 118 (.bool true)), rfl, ⟨hI.t0, hI.t1, hI.t2, hI.t3, hI.t4, hI.t5, hI.t6, hI.t7, hI.t8, hI.t9, hI.t10, hI.t11, hI.t12, hI.t13, hI.t14, hI.t15, hI.t16, hI.t17, hI.t18, hI.t19, hI.t20, hI.t21, hI.t22, hI.t23, hI.t24, hI.t25, hI.t26, hI.t27, hI.t28, hI.t29, hI.t30, hI.t31, hI.t32, hI.t33, hI.t34, hI.t35, hI.t36, hI.t37, hI.t38, hI.t39, fun _ => rfl, fun _ => rfl, fun _ => rfl, fun _ => rfl, hI.t44, hI.t45, hI.t46, hI.t47, hI.t48, hI.t49, hI.t50, hI.t51, hI.t52, hI.t53, hI.t54, hI.t55, hI.t56, hI.t57, hI.t58, hI.t59, hI.t60, hI.t61, hI.t62, hI.t63, hI.t64, hI.t65, hI.t66, hI.t67, hI.t68, hI.t69, hI.t70, hI.t71, hI.a5, hI.a6, hI.ax, hI.ay, hI.a13, hI.a15, hI.a17, hI.a19, hI.a21, hI.a22, hI.a24, hI.a25, hI.bw⟩⟩
    · rintro L a wx ⟨v, rfl, hI⟩ hL hdep hcl K hK
      have e40 := hI.t40 (hdep 40 (by decide))
      have e43 := hI.t43 (hdep 43 (by decide))
      rw [e40, e43]
      go_simp
      exact hK _ _ ⟨(upd (upd (upd v 115 (.bool true)) 118 (.bool true)) 119 (.bool true)), rfl, ⟨hI.t0, hI.t1, hI.t2, hI.t3, hI.t4, hI.t5, hI.t6, hI.t7, hI.t8, hI.t9, hI.t10, hI.t11, hI.t12, hI.t13, hI.t14, hI.t15, hI.t16, hI.t17, hI.t18, hI.t19, hI.t20, hI.t21, hI.t22, hI.t23, hI.t24, hI.t25, hI.t26, hI.t27, hI.t28, hI.t29, hI.t30, hI.t31, hI.t32, hI.t33, hI.t34, hI.t35, hI.t36, hI.t37, hI.t38, hI.t39, fun _ => rfl, hI.t41, hI.t42, fun _ => rfl, fun _ => rfl, hI.t45, hI.t46, hI.t47, hI.t48, hI.t49, hI.t50, hI.t51, hI.t52, hI.t53, hI.t54, hI.t55, hI.t56, hI.t57, hI.t58, hI.t59, hI.t60, hI.t61, hI.t62, hI.t63, hI.t64, hI.t65, hI.t66, hI.t67, hI.t68, hI.t69, hI.t70, hI.t71, hI.a5, hI.a6, hI.ax, hI.ay, hI.a13, hI.a15, hI.a17, hI.a19, hI.a21, hI.a22, hI.a24, hI.a25, hI.bw⟩⟩
    · rintro L a wx ⟨v, rfl, hI⟩ hL hdep hcl K hK
      have e44 := hI.t44 (hdep 44 (by decide))
      rw [e44]
      go_simp
      exact hK _ _ ⟨(upd (upd v 119 (.bool true)) 120 (.bool true)), rfl, ⟨hI.t0, hI.t1, hI.t2, hI.t3, hI.t4, hI.t5, hI.t6, hI.t7, hI.t8, hI.t9, hI.t10, hI.t11, hI.t12, hI.t13, hI.t14, hI.t15, hI.t16, hI.t17, hI.t18, hI.t19, hI.t20, hI.t21, hI.t22, hI.t23, hI.t24, hI.t25, hI.t26, hI.t27, hI.t28, hI.t29, hI.t30, hI.t31, hI.t32, hI.t33, hI.t34, hI.t35, hI.t36, hI.t37, hI.t38, hI.t39, hI.t40, hI.t41, hI.t42, hI.t43, fun _ => rfl, fun _ => rfl, hI.t46, hI.t47, hI.t48, hI.t49, hI.t50, hI.t51, hI.t52, hI.t53, hI.t54, hI.t55, hI.t56, hI.t57, hI.t58, hI.t59, hI.t60, hI.t61, hI.t62, hI.t63, hI.t64, hI.t65, hI.t66, hI.t67, hI.t68, hI.t69, hI.t70, hI.t71, hI.a5, hI.a6, hI.ax, hI.ay, hI.a13, hI.a15, hI.a17, hI.a19, hI.a21, hI.a22, hI.a24, hI.a25, hI.bw⟩⟩
    · rintro L a wx ⟨v, rfl, hI⟩ hL hdep hcl K hK
      have e45 := hI.t45 (hdep 45 (by decide))
      rw [e45]
      refine (if_pos rfl).mpr ?_
      obtain ⟨c0, c1⟩ := hI.a21.two
      go_simp
      exact hK _ _ ⟨(upd (upd v 120 (.bool true)) 121 (.agg #[.int .i64 cl, .int .u64 ca])), rfl, ⟨hI.t0, hI.t1, hI.t2, hI.t3, hI.t4, hI.t5, hI.t6, hI.t7, hI.t8, hI.t9, hI.t10, hI.t11, hI.t12, hI.t13, hI.t14, hI.t15, hI.t16, hI.t17, hI.t18, hI.t19, hI.t20, hI.t21, hI.t22, hI.t23, hI.t24, hI.t25, hI.t26, hI.t27, hI.t28, hI.t29, hI.t30, hI.t31, hI.t32, hI.t33, hI.t34, hI.t35, hI.t36, hI.t37, hI.t38, hI.t39, hI.t40, hI.t41, hI.t42, hI.t43, hI.t44, fun _ => rfl, fun _ => rfl, hI.t47, hI.t48, hI.t49, hI.t50, hI.t51, hI.t52, hI.t53, hI.t54, hI.t55, hI.t56, hI.t57, hI.t58, hI.t59, hI.t60, hI.t61, hI.t62, hI.t63, hI.t64, hI.t65, hI.t66, hI.t67, hI.t68, hI.t69, hI.t70, hI.t71, hI.a5, hI.a6, hI.ax, hI.ay, hI.a13, hI.a15, hI.a17, hI.a19, hI.a21, hI.a22, hI.a24, hI.a25, hI.bw⟩⟩
    · rintro L a wx ⟨v, rfl, hI⟩ hL hdep hcl K hK
      have e45 := hI.t45 (hdep 45 (by decide))
      have e46 := hI.t46 (hdep 46 (by decide))
      rw [e45, e46]
      refine (if_pos rfl).mpr ?_
      go_simp
      refine (theirs_any _ _ wx).mono ?_
      rintro e w' ⟨rfl, hb⟩
      exact hK _ _ ⟨(upd (upd (upd v 120 (.bool true)) 121 (.agg #[.int .i64 cl, .int .u64 ca])) 122 (.agg #[.int .i64 cl, .int .u64 ca])), rfl, ⟨hI.t0, hI.t1, hI.t2, hI.t3, hI.t4, hI.t5, hI.t6, hI.t7, hI.t8, hI.t9, hI.t10, hI.t11, hI.t12, hI.t13, hI.t14, hI.t15, hI.t16, hI.t17, hI.t18, hI.t19, hI.t20, hI.t21, hI.t22, hI.t23, hI.t24, hI.t25, hI.t26, hI.t27, hI.t28, hI.t29, hI.t30, hI.t31, hI.t32, hI.t33, hI.t34, hI.t35, hI.t36, hI.t37, hI.t38, hI.t39, hI.t40, hI.t41, hI.t42, hI.t43, hI.t44, fun _ => rfl, fun _ => rfl, fun _ => rfl, hI.t48, hI.t49, hI.t50, hI.t51, hI.t52, hI.t53, hI.t54, hI.t55, hI.t56, hI.t57, hI.t58, hI.t59, hI.t60, hI.t61, hI.t62, hI.t63, hI.t64, hI.t65, hI.t66, hI.t67, hI.t68, hI.t69, hI.t70, hI.t71, (hI.a5).kept hb, (hI.a6).kept hb, (hI.ax).kept hb, (hI.ay).kept hb, (hI.a13).kept hb, (hI.a15).kept hb, (hI.a17).kept hb, (hI.a19).kept hb, (hI.a21).kept hb, (hI.a22).kept hb, (hI.a24).kept hb, (hI.a25).kept hb, (hI.bw).trans (hb.mono (hI.bw).size)⟩⟩
    · rintro L a wx ⟨v, rfl, hI⟩ hL hdep hcl K hK
      have e45 := hI.t45 (hdep 45 (by decide))
      rw [e45]
      refine (if_pos rfl).mpr ?_
      obtain ⟨c0, c1⟩ := hI.a24.two
      go_simp
      exact hK _ _ ⟨(upd (upd v 120 (.bool true)) 123 (.agg #[.int .i64 cl, .int .u64 ca])), rfl, ⟨hI.t0, hI.t1, hI.t2, hI.t3, hI.t4, hI.t5, hI.t6, hI.t7, hI.t8, hI.t9, hI.t10, hI.t11, hI.t12, hI.t13, hI.t14, hI.t15, hI.t16, hI.t17, hI.t18, hI.t19, hI.t20, hI.t21, hI.t22, hI.t23, hI.t24, hI.t25, hI.t26, hI.t27, hI.t28, hI.t29, hI.t30, hI.t31, hI.t32, hI.t33, hI.t34, hI.t35, hI.t36, hI.t37, hI.t38, hI.t39, hI.t40, hI.t41, hI.t42, hI.t43, hI.t44, fun _ => rfl, hI.t46, hI.t47, fun _ => rfl, hI.t49, hI.t50, hI.t51, hI.t52, hI.t53, hI.t54, hI.t55, hI.t56, hI.t57, hI.t58, hI.t59, hI.t60, hI.t61, hI.t62, hI.t63, hI.t64, hI.t65, hI.t66, hI.t67, hI.t68, hI.t69, hI.t70, hI.t71, hI.a5, hI.a6, hI.ax, hI.ay, hI.a13, hI.a15, hI.a17, hI.a19, hI.a21, hI.a22, hI.a24, hI.a25, hI.bw⟩⟩
    · rintro L a wx ⟨v, rfl, hI⟩ hL hdep hcl K hK
      have e45 := hI.t45 (hdep 45 (by decide))
      have e47 := hI.t47 (hdep 47 (by decide))
      have e48 := hI.t48 (hdep 48 (by decide))
      rw [e45, e47, e48]
      refine (if_pos rfl).mpr ?_
      go_simp
      exact hK _ _ ⟨(upd (upd (upd (upd v 120 (.bool true)) 122 (.agg #[.int .i64 cl, .int .u64 ca])) 123 (.agg #[.int .i64 cl, .int .u64 ca])) 124 (.bool true)), rfl, ⟨hI.t0, hI.t1, hI.t2, hI.t3, hI.t4, hI.t5, hI.t6, hI.t7, hI.t8, hI.t9, hI.t10, hI.t11, hI.t12, hI.t13, hI.t14, hI.t15, hI.t16, hI.t17, hI.t18, hI.t19, hI.t20, hI.t21, hI.t22, hI.t23, hI.t24, hI.t25, hI.t26, hI.t27, hI.t28, hI.t29, hI.t30, hI.t31, hI.t32, hI.t33, hI.t34, hI.t35, hI.t36, hI.t37, hI.t38, hI.t39, hI.t40, hI.t41, hI.t42, hI.t43, hI.t44, fun _ => rfl, hI.t46, fun _ => rfl, fun _ => rfl, fun _ => rfl, hI.t50, hI.t51, hI.t52, hI.t53, hI.t54, hI.t55, hI.t56, hI.t57, hI.t58, hI.t59, hI.t60, hI.t61, hI.t62, hI.t63, hI.t64, hI.t65, hI.t66, hI.t67, hI.t68, hI.t69, hI.t70, hI.t71, hI.a5, hI.a6, hI.ax, hI.ay, hI.a13, hI.a15, hI.a17, hI.a19, hI.a21, hI.a22, hI.a24, hI.a25, hI.bw⟩⟩
    · rintro L a wx ⟨v, rfl, hI⟩ hL hdep hcl K hK
      have e45 := hI.t45 (hdep 45 (by decide))
      have e49 := hI.t49 (hdep 49 (by decide))
      rw [e45, e49]
      go_simp
      exact hK _ _ ⟨(upd (upd (upd v 120 (.bool true)) 124 (.bool true)) 125 (.bool true)), rfl, ⟨hI.t0, hI.t1, hI.t2, hI.t3, hI.t4, hI.t5, hI.t6, hI.t7, hI.t8, hI.t9, hI.t10, hI.t11, hI.t12, hI.t13, hI.t14, hI.t15, hI.t16, hI.t17, hI.t18, hI.t19, hI.t20, hI.t21, hI.t22, hI.t23, hI.t24, hI.t25, hI.t26, hI.t27, hI.t28, hI.t29, hI.t30, hI.t31, hI.t32, hI.t33, hI.t34, hI.t35, hI.t36, hI.t37, hI.t38, hI.t39, hI.t40, hI.t41, hI.t42, hI.t43, hI.t44, fun _ => rfl, hI.t46, hI.t47, hI.t48, fun _ => rfl, fun _ => rfl, hI.t51, hI.t52, hI.t53, hI.t54, hI.t55, hI.t56, hI.t57, hI.t58, hI.t59, hI.t60, hI.t61, hI.t62, hI.t63, hI.t64, hI.t65, hI.t66, hI.t67, hI.t68, hI.t69, hI.t70, hI.t71, hI.a5, hI.a6, hI.ax, hI.ay, hI.a13, hI.a15, hI.a17, hI.a19, hI.a21, hI.a22, hI.a24, hI.a25, hI.bw⟩⟩
    · rintro L a wx ⟨v, rfl, hI⟩ hL hdep hcl K hK
      have e50 := hI.t50 (hdep 50 (by decide))
      rw [e50]
      go_simp
      exact hK _ _ ⟨(upd (upd v 125 (.bool true)) 126 (.bool true)), rfl, ⟨hI.t0, hI.t1, hI.t2, hI.t3, hI.t4, hI.t5, hI.t6, hI.t7, hI.t8, hI.t9, hI.t10, hI.t11, hI.t12, hI.t13, hI.t14, hI.t15, hI.t16, hI.t17, hI.t18, hI.t19, hI.t20, hI.t21, hI.t22, hI.t23, hI.t24, hI.t25, hI.t26, hI.t27, hI.t28, hI.t29, hI.t30, hI.t31, hI.t32, hI.t33, hI.t34, hI.t35, hI.t36, hI.t37, hI.t38, hI.t39, hI.t40, hI.t41, hI.t42, hI.t43, hI.t44, hI.t45, hI.t46, hI.t47, hI.t48, hI.t49, fun _ => rfl, fun _ => rfl, hI.t52, hI.t53, hI.t54, hI.t55, hI.t56, hI.t57, hI.t58, hI.t59, hI.t60, hI.t61, hI.t62, hI.t63, hI.t64, hI.t65, hI.t66, hI.t67, hI.t68, hI.t69, hI.t70, hI.t71, hI.a5, hI.a6, hI.ax, hI.ay, hI.a13, hI.a15, hI.a17, hI.a19, hI.a21, hI.a22, hI.a24, hI.a25, hI.bw⟩⟩
    · rintro L a wx ⟨v, rfl, hI⟩ hL hdep hcl K hK
      have e51 := hI.t51 (hdep 51 (by decide))
      rw [e51]
      refine (if_pos rfl).mpr ?_
      obtain ⟨c0, c1⟩ := hI.a22.two
      go_simp
      exact hK _ _ ⟨(upd (upd v 126 (.bool true)) 127 (.agg #[.int .i64 cl, .int .u64 cb])), rfl, ⟨hI.t0, hI.t1, hI.t2, hI.t3, hI.t4, hI.t5, hI.t6, hI.t7, hI.t8, hI.t9, hI.t10, hI.t11, hI.t12, hI.t13, hI.t14, hI.t15, hI.t16, hI.t17, hI.t18, hI.t19, hI.t20, hI.t21, hI.t22, hI.t23, hI.t24, hI.t25, hI.t26, hI.t27, hI.t28, hI.t29, hI.t30, hI.t31, hI.t32, hI.t33, hI.t34, hI.t35, hI.t36, hI.t37, hI.t38, hI.t39, hI.t40, hI.t41, hI.t42, hI.t43, hI.t44, hI.t45, hI.t46, hI.t47, hI.t48, hI.t49, hI.t50, fun _ => rfl, fun _ => rfl, hI.t53, hI.t54, hI.t55, hI.t56, hI.t57, hI.t58, hI.t59, hI.t60, hI.t61, hI.t62, hI.t63, hI.t64, hI.t65, hI.t66, hI.t67, hI.t68, hI.t69, hI.t70, hI.t71, hI.a5, hI.a6, hI.ax, hI.ay, hI.a13, hI.a15, hI.a17, hI.a19, hI.a21, hI.a22, hI.a24, hI.a25, hI.bw⟩⟩
    · rintro L a wx ⟨v, rfl, hI⟩ hL hdep hcl K hK
      have e51 := hI.t51 (hdep 51 (by decide))
      have e52 := hI.t52 (hdep 52 (by decide))
      rw [e51, e52]
      refine (if_pos rfl).mpr ?_
      go_simp
      refine (theirs_any _ _ wx).mono ?_
      rintro e w' ⟨rfl, hb⟩
      exact hK _ _ ⟨(upd (upd (upd v 126 (.bool true)) 127 (.agg #[.int .i64 cl, .int .u64 cb])) 128 (.agg #[.int .i64 cl, .int .u64 cb])), rfl, ⟨hI.t0, hI.t1, hI.t2, hI.t3, hI.t4, hI.t5, hI.t6, hI.t7, hI.t8, hI.t9, hI.t10, hI.t11, hI.t12, hI.t13, hI.t14, hI.t15, hI.t16, hI.t17, hI.t18, hI.t19, hI.t20, hI.t21, hI.t22, hI.t23, hI.t24, hI.t25, hI.t26, hI.t27, hI.t28, hI.t29, hI.t30, hI.t31, hI.t32, hI.t33, hI.t34, hI.t35, hI.t36, hI.t37, hI.t38, hI.t39, hI.t40, hI.t41, hI.t42, hI.t43, hI.t44, hI.t45, hI.t46, hI.t47, hI.t48, hI.t49, hI.t50, fun _ => rfl, fun _ => rfl, fun _ => rfl, hI.t54, hI.t55, hI.t56, hI.t57, hI.t58, hI.t59, hI.t60, hI.t61, hI.t62, hI.t63, hI.t64, hI.t65, hI.t66, hI.t67, hI.t68, hI.t69, hI.t70, hI.t71, (hI.a5).kept hb, (hI.a6).kept hb, (hI.ax).kept hb, (hI.ay).kept hb, (hI.a13).kept hb, (hI.a15).kept hb, (hI.a17).kept hb, (hI.a19).kept hb, (hI.a21).kept hb, (hI.a22).kept hb, (hI.a24).kept hb, (hI.a25).kept hb, (hI.bw).trans (hb.mono (hI.bw).size)⟩⟩
    · rintro L a wx ⟨v, rfl, hI⟩ hL hdep hcl K hK
      have e51 := hI.t51 (hdep 51 (by decide))
      rw [e51]
      refine (if_pos rfl).mpr ?_
      obtain ⟨c0, c1⟩ := hI.a25.two
      go_simp
      exact hK _ _ ⟨(upd (upd v 126 (.bool true)) 129 (.agg #[.int .i64 cl, .int .u64 cb])), rfl, ⟨hI.t0, hI.t1, hI.t2, hI.t3, hI.t4, hI.t5, hI.t6, hI.t7, hI.t8, hI.t9, hI.t10, hI.t11, hI.t12, hI.t13, hI.t14, hI.t15, hI.t16, hI.t17, hI.t18, hI.t19, hI.t20, hI.t21, hI.t22, hI.t23, hI.t24, hI.t25, hI.t26, hI.t27, hI.t28, hI.t29, hI.t30, hI.t31, hI.t32, hI.t33, hI.t34, hI.t35, hI.t36, hI.t37, hI.t38, hI.t39, hI.t40, hI.t41, hI.t42, hI.t43, hI.t44, hI.t45, hI.t46, hI.t47, hI.t48, hI.t49, hI.t50, fun _ => rfl, hI.t52, hI.t53, fun _ => rfl, hI.t55, hI.t56, hI.t57, hI.t58, hI.t59, hI.t60, hI.t61, hI.t62, hI.t63, hI.t64, hI.t65, hI.t66, hI.t67, hI.t68, hI.t69, hI.t70, hI.t71, hI.a5, hI.a6, hI.ax, hI.ay, hI.a13, hI.a15, hI.a17, hI.a19, hI.a21, hI.a22, hI.a24, hI.a25, hI.bw⟩⟩
    · rintro L a wx ⟨v, rfl, hI⟩ hL hdep hcl K hK
      have e51 := hI.t51 (hdep 51 (by decide))
      have e53 := hI.t53 (hdep 53 (by decide))
      have e54 := hI.t54 (hdep 54 (by decide))
      rw [e51, e53, e54]
      refine (if_pos rfl).mpr ?_
      go_simp
      exact hK _ _ ⟨(upd (upd (upd (upd v 126 (.bool true)) 128 (.agg #[.int .i64 cl, .int .u64 cb])) 129 (.agg #[.int .i64 cl, .int .u64 cb])) 130 (.bool true)), rfl, ⟨hI.t0, hI.t1, hI.t2, hI.t3, hI.t4, hI.t5, hI.t6, hI.t7, hI.t8, hI.t9, hI.t10, hI.t11, hI.t12, hI.t13, hI.t14, hI.t15, hI.t16, hI.t17, hI.t18, hI.t19, hI.t20, hI.t21, hI.t22, hI.t23, hI.t24, hI.t25, hI.t26, hI.t27, hI.t28, hI.t29, hI.t30, hI.t31, hI.t32, hI.t33, hI.t34, hI.t35, hI.t36, hI.t37, hI.t38, hI.t39, hI.t40, hI.t41, hI.t42, hI.t43, hI.t44, hI.t45, hI.t46, hI.t47, hI.t48, hI.t49, hI.t50, fun _ => rfl, hI.t52, fun _ => rfl, fun _ => rfl, fun _ => rfl, hI.t56, hI.t57, hI.t58, hI.t59, hI.t60, hI.t61, hI.t62, hI.t63, hI.t64, hI.t65, hI.t66, hI.t67, hI.t68, hI.t69, hI.t70, hI.t71, hI.a5, hI.a6, hI.ax, hI.ay, hI.a13, hI.a15, hI.a17, hI.a19, hI.a21, hI.a22, hI.a24, hI.a25, hI.bw⟩⟩
    · rintro L a wx ⟨v, rfl, hI⟩ hL hdep hcl K hK
      have e51 := hI.t51 (hdep 51 (by decide))
      have e55 := hI.t55 (hdep 55 (by decide))
      rw [e51, e55]
      go_simp
      exact hK _ _ ⟨(upd (upd (upd v 126 (.bool true)) 130 (.bool true)) 131 (.bool true)), rfl, ⟨hI.t0, hI.t1, hI.t2, hI.t3, hI.t4, hI.t5, hI.t6, hI.t7, hI.t8, hI.t9, hI.t10, hI.t11, hI.t12, hI.t13, hI.t14, hI.t15, hI.t16, hI.t17, hI.t18, hI.t19, hI.t20, hI.t21, hI.t22, hI.t23, hI.t24, hI.t25, hI.t26, hI.t27, hI.t28, hI.t29, hI.t30, hI.t31, hI.t32, hI.t33, hI.t34, hI.t35, hI.t36, hI.t37, hI.t38, hI.t39, hI.t40, hI.t41, hI.t42, hI.t43, hI.t44, hI.t45, hI.t46, hI.t47, hI.t48, hI.t49, hI.t50, fun _ => rfl, hI.t52, hI.t53, hI.t54, fun _ => rfl, fun _ => rfl, hI.t57, hI.t58, hI.t59, hI.t60, hI.t61, hI.t62, hI.t63, hI.t64, hI.t65, hI.t66, hI.t67, hI.t68, hI.t69, hI.t70, hI.t71, hI.a5, hI.a6, hI.ax, hI.ay, hI.a13, hI.a15, hI.a17, hI.a19, hI.a21, hI.a22, hI.a24, hI.a25, hI.bw⟩⟩
    · rintro L a wx ⟨v, rfl, hI⟩ hL hdep hcl K hK
      have e56 := hI.t56 (hdep 56 (by decide))
      rw [e56]
      go_simp
      exact hK _ _ ⟨(upd (upd v 131 (.bool true)) 132 (.bool true)), rfl, ⟨hI.t0, hI.t1, hI.t2, hI.t3, hI.t4, hI.t5, hI.t6, hI.t7, hI.t8, hI.t9, hI.t10, hI.t11, hI.t12, hI.t13, hI.t14, hI.t15, hI.t16, hI.t17, hI.t18, hI.t19, hI.t20, hI.t21, hI.t22, hI.t23, hI.t24, hI.t25, hI.t26, hI.t27, hI.t28, hI.t29, hI.t30, hI.t31, hI.t32, hI.t33, hI.t34, hI.t35, hI.t36, hI.t37, hI.t38, hI.t39, hI.t40, hI.t41, hI.t42, hI.t43, hI.t44, hI.t45, hI.t46, hI.t47, hI.t48, hI.t49, hI.t50, hI.t51, hI.t52, hI.t53, hI.t54, hI.t55, fun _ => rfl, fun _ => rfl, hI.t58, hI.t59, hI.t60, hI.t61, hI.t62, hI.t63, hI.t64, hI.t65, hI.t66, hI.t67, hI.t68, hI.t69, hI.t70, hI.t71, hI.a5, hI.a6, hI.ax, hI.ay, hI.a13, hI.a15, hI.a17, hI.a19, hI.a21, hI.a22, hI.a24, hI.a25, hI.bw⟩⟩
    · rintro L a wx ⟨v, rfl, hI⟩ hL hdep hcl K hK
      have e57 := hI.t57 (hdep 57 (by decide))
      rw [e57]
      refine (if_pos rfl).mpr ?_
      go_simp
      exact hK _ _ ⟨(upd (upd v 132 (.bool true)) 133 (.int .i64 ce)), rfl, ⟨hI.t0, hI.t1, hI.t2, hI.t3, hI.t4, hI.t5, hI.t6, hI.t7, hI.t8, hI.t9, hI.t10, hI.t11, hI.t12, hI.t13, hI.t14, hI.t15, hI.t16, hI.t17, hI.t18, hI.t19, hI.t20, hI.t21, hI.t22, hI.t23, hI.t24, hI.t25, hI.t26, hI.t27, hI.t28, hI.t29, hI.t30, hI.t31, hI.t32, hI.t33, hI.t34, hI.t35, hI.t36, hI.t37, hI.t38, hI.t39, hI.t40, hI.t41, hI.t42, hI.t43, hI.t44, hI.t45, hI.t46, hI.t47, hI.t48, hI.t49, hI.t50, hI.t51, hI.t52, hI.t53, hI.t54, hI.t55, hI.t56, fun _ => rfl, fun _ => rfl, hI.t59, hI.t60, hI.t61, hI.t62, hI.t63, hI.t64, hI.t65, hI.t66, hI.t67, hI.t68, hI.t69, hI.t70, hI.t71, hI.a5, hI.a6, hI.ax, hI.ay, hI.a13, hI.a15, hI.a17, hI.a19, hI.a21, hI.a22, hI.a24, hI.a25, hI.bw⟩⟩
    · rintro L a wx ⟨v, rfl, hI⟩ hL hdep hcl K hK
      have e57 := hI.t57 (hdep 57 (by decide))
      rw [e57]
      refine (if_pos rfl).mpr ?_
      go_simp
      exact hK _ _ ⟨(upd (upd v 132 (.bool true)) 134 (.int .i64 ce)), rfl, ⟨hI.t0, hI.t1, hI.t2, hI.t3, hI.t4, hI.t5, hI.t6, hI.t7, hI.t8, hI.t9, hI.t10, hI.t11, hI.t12, hI.t13, hI.t14, hI.t15, hI.t16, hI.t17, hI.t18, hI.t19, hI.t20, hI.t21, hI.t22, hI.t23, hI.t24, hI.t25, hI.t26, hI.t27, hI.t28, hI.t29, hI.t30, hI.t31, hI.t32, hI.t33, hI.t34, hI.t35, hI.t36, hI.t37, hI.t38, hI.t39, hI.t40, hI.t41, hI.t42, hI.t43, hI.t44, hI.t45, hI.t46, hI.t47, hI.t48, hI.t49, hI.t50, hI.t51, hI.t52, hI.t53, hI.t54, hI.t55, hI.t56, fun _ => rfl, hI.t58, fun _ => rfl, hI.t60, hI.t61, hI.t62, hI.t63, hI.t64, hI.t65, hI.t66, hI.t67, hI.t68, hI.t69, hI.t70, hI.t71, hI.a5, hI.a6, hI.ax, hI.ay, hI.a13, hI.a15, hI.a17, hI.a19, hI.a21, hI.a22, hI.a24, hI.a25, hI.bw⟩⟩
    · rintro L a wx ⟨v, rfl, hI⟩ hL hdep hcl K hK
      have e57 := hI.t57 (hdep 57 (by decide))
      have e58 := hI.t58 (hdep 58 (by decide))
      have e59 := hI.t59 (hdep 59 (by decide))
      rw [e57, e58, e59]
      refine (if_pos rfl).mpr ?_
      go_simp
      exact hK _ _ ⟨(upd (upd (upd (upd v 132 (.bool true)) 133 (.int .i64 ce)) 134 (.int .i64 ce)) 135 (.bool true)), rfl, ⟨hI.t0, hI.t1, hI.t2, hI.t3, hI.t4, hI.t5, hI.t6, hI.t7, hI.t8, hI.t9, hI.t10, hI.t11, hI.t12, hI.t13, hI.t14, hI.t15, hI.t16, hI.t17, hI.t18, hI.t19, hI.t20, hI.t21, hI.t22, hI.t23, hI.t24, hI.t25, hI.t26, hI.t27, hI.t28, hI.t29, hI.t30, hI.t31, hI.t32, hI.t33, hI.t34, hI.t35, hI.t36, hI.t37, hI.t38, hI.t39, hI.t40, hI.t41, hI.t42, hI.t43, hI.t44, hI.t45, hI.t46, hI.t47, hI.t48, hI.t49, hI.t50, hI.t51, hI.t52, hI.t53, hI.t54, hI.t55, hI.t56, fun _ => rfl, fun _ => rfl, fun _ => rfl, fun _ => rfl, hI.t61, hI.t62, hI.t63, hI.t64, hI.t65, hI.t66, hI.t67, hI.t68, hI.t69, hI.t70, hI.t71, hI.a5, hI.a6, hI.ax, hI.ay, hI.a13, hI.a15, hI.a17, hI.a19, hI.a21, hI.a22, hI.a24, hI.a25, hI.bw⟩⟩
    · rintro L a wx ⟨v, rfl, hI⟩ hL hdep hcl K hK
      have e57 := hI.t57 (hdep 57 (by decide))
      have e60 := hI.t60 (hdep 60 (by decide))
      rw [e57, e60]
      go_simp
      exact hK _ _ ⟨(upd (upd (upd v 132 (.bool true)) 135 (.bool true)) 136 (.bool true)), rfl, ⟨hI.t0, hI.t1, hI.t2, hI.t3, hI.t4, hI.t5, hI.t6, hI.t7, hI.t8, hI.t9, hI.t10, hI.t11, hI.t12, hI.t13, hI.t14, hI.t15, hI.t16, hI.t17, hI.t18, hI.t19, hI.t20, hI.t21, hI.t22, hI.t23, hI.t24, hI.t25, hI.t26, hI.t27, hI.t28, hI.t29, hI.t30, hI.t31, hI.t32, hI.t33, hI.t34, hI.t35, hI.t36, hI.t37, hI.t38, hI.t39, hI.t40, hI.t41, hI.t42, hI.t43, hI.t44, hI.t45, hI.t46, hI.t47, hI.t48, hI.t49, hI.t50, hI.t51, hI.t52, hI.t53, hI.t54, hI.t55, hI.t56, fun _ => rfl, hI.t58, hI.t59, fun _ => rfl, fun _ => rfl, hI.t62, hI.t63, hI.t64, hI.t65, hI.t66, hI.t67, hI.t68, hI.t69, hI.t70, hI.t71, hI.a5, hI.a6, hI.ax, hI.ay, hI.a13, hI.a15, hI.a17, hI.a19, hI.a21, hI.a22, hI.a24, hI.a25, hI.bw⟩⟩
    · rintro L a wx ⟨v, rfl, hI⟩ hL hdep hcl K hK
      have e61 := hI.t61 (hdep 61 (by decide))
      rw [e61]
      go_simp
      exact hK _ _ ⟨(upd (upd v 136 (.bool true)) 137 (.bool true)), rfl, ⟨hI.t0, hI.t1, hI.t2, hI.t3, hI.t4, hI.t5, hI.t6, hI.t7, hI.t8, hI.t9, hI.t10, hI.t11, hI.t12, hI.t13, hI.t14, hI.t15, hI.t16, hI.t17, hI.t18, hI.t19, hI.t20, hI.t21, hI.t22, hI.t23, hI.t24, hI.t25, hI.t26, hI.t27, hI.t28, hI.t29, hI.t30, hI.t31, hI.t32, hI.t33, hI.t34, hI.t35, hI.t36, hI.t37, hI.t38, hI.t39, hI.t40, hI.t41, hI.t42, hI.t43, hI.t44, hI.t45, hI.t46, hI.t47, hI.t48, hI.t49, hI.t50, hI.t51, hI.t52, hI.t53, hI.t54, hI.t55, hI.t56, hI.t57, hI.t58, hI.t59, hI.t60, fun _ => rfl, fun _ => rfl, hI.t63, hI.t64, hI.t65, hI.t66, hI.t67, hI.t68, hI.t69, hI.t70, hI.t71, hI.a5, hI.a6, hI.ax, hI.ay, hI.a13, hI.a15, hI.a17, hI.a19, hI.a21, hI.a22, hI.a24, hI.a25, hI.bw⟩⟩
    · rintro L a wx ⟨v, rfl, hI⟩ hL hdep hcl K hK
      have e62 := hI.t62 (hdep 62 (by decide))
      rw [e62]
      refine (if_pos rfl).mpr ?_
      obtain ⟨c0, c1⟩ := hI.a5.two
      go_simp
      exact hK _ _ ⟨(upd (upd v 137 (.bool true)) 138 (.agg #[.int .i64 l, .int .u64 i])), rfl, ⟨hI.t0, hI.t1, hI.t2, hI.t3, hI.t4, hI.t5, hI.t6, hI.t7, hI.t8, hI.t9, hI.t10, hI.t11, hI.t12, hI.t13, hI.t14, hI.t15, hI.t16, hI.t17, hI.t18, hI.t19, hI.t20, hI.t21, hI.t22, hI.t23, hI.t24, hI.t25, hI.t26, hI.t27, hI.t28, hI.t29, hI.t30, hI.t31, hI.t32, hI.t33, hI.t34, hI.t35, hI.t36, hI.t37, hI.t38, hI.t39, hI.t40, hI.t41, hI.t42, hI.t43, hI.t44, hI.t45, hI.t46, hI.t47, hI.t48, hI.t49, hI.t50, hI.t51, hI.t52, hI.t53, hI.t54, hI.t55, hI.t56, hI.t57, hI.t58, hI.t59, hI.t60, hI.t61, fun _ => rfl, fun _ => rfl, hI.t64, hI.t65, hI.t66, hI.t67, hI.t68, hI.t69, hI.t70, hI.t71, hI.a5, hI.a6, hI.ax, hI.ay, hI.a13, hI.a15, hI.a17, hI.a19, hI.a21, hI.a22, hI.a24, hI.a25, hI.bw⟩⟩
    · rintro L a wx ⟨v, rfl, hI⟩ hL hdep hcl K hK
      have e62 := hI.t62 (hdep 62 (by decide))
      rw [e62]
      refine (if_pos rfl).mpr ?_
      obtain ⟨c0, c1⟩ := hI.a6.two
      go_simp
      exact hK _ _ ⟨(upd (upd v 137 (.bool true)) 139 (.agg #[.int .i64 m, .int .u64 j])), rfl, ⟨hI.t0, hI.t1, hI.t2, hI.t3, hI.t4, hI.t5, hI.t6, hI.t7, hI.t8, hI.t9, hI.t10, hI.t11, hI.t12, hI.t13, hI.t14, hI.t15, hI.t16, hI.t17, hI.t18, hI.t19, hI.t20, hI.t21, hI.t22, hI.t23, hI.t24, hI.t25, hI.t26, hI.t27, hI.t28, hI.t29, hI.t30, hI.t31, hI.t32, hI.t33, hI.t34, hI.t35, hI.t36, hI.t37, hI.t38, hI.t39, hI.t40, hI.t41, hI.t42, hI.t43, hI.t44, hI.t45, hI.t46, hI.t47, hI.t48, hI.t49, hI.t50, hI.t51, hI.t52, hI.t53, hI.t54, hI.t55, hI.t56, hI.t57, hI.t58, hI.t59, hI.t60, hI.t61, fun _ => rfl, hI.t63, fun _ => rfl, hI.t65, hI.t66, hI.t67, hI.t68, hI.t69, hI.t70, hI.t71, hI.a5, hI.a6, hI.ax, hI.ay, hI.a13, hI.a15, hI.a17, hI.a19, hI.a21, hI.a22, hI.a24, hI.a25, hI.bw⟩⟩
    · rintro L a wx ⟨v, rfl, hI⟩ hL hdep hcl K hK
      have e62 := hI.t62 (hdep 62 (by decide))
      have e63 := hI.t63 (hdep 63 (by decide))
      have e64 := hI.t64 (hdep 64 (by decide))
      rw [e62, e63, e64]
      refine (if_pos rfl).mpr ?_
      go_simp
      refine (HB1 wx).mono ?_
      rintro e w' ⟨rfl, hb⟩
      exact hK _ _ ⟨(upd (upd (upd (upd v 137 (.bool true)) 138 (.agg #[.int .i64 l, .int .u64 i])) 139 (.agg #[.int .i64 m, .int .u64 j])) 140 (.bool bb)), rfl, ⟨hI.t0, hI.t1, hI.t2, hI.t3, hI.t4, hI.t5, hI.t6, hI.t7, hI.t8, hI.t9, hI.t10, hI.t11, hI.t12, hI.t13, hI.t14, hI.t15, hI.t16, hI.t17, hI.t18, hI.t19, hI.t20, hI.t21, hI.t22, hI.t23, hI.t24, hI.t25, hI.t26, hI.t27, hI.t28, hI.t29, hI.t30, hI.t31, hI.t32, hI.t33, hI.t34, hI.t35, hI.t36, hI.t37, hI.t38, hI.t39, hI.t40, hI.t41, hI.t42, hI.t43, hI.t44, hI.t45, hI.t46, hI.t47, hI.t48, hI.t49, hI.t50, hI.t51, hI.t52, hI.t53, hI.t54, hI.t55, hI.t56, hI.t57, hI.t58, hI.t59, hI.t60, hI.t61, fun _ => rfl, fun _ => rfl, fun _ => rfl, fun _ => rfl, hI.t66, hI.t67, hI.t68, hI.t69, hI.t70, hI.t71, (hI.a5).kept hb, (hI.a6).kept hb, (hI.ax).kept hb, (hI.ay).kept hb, (hI.a13).kept hb, (hI.a15).kept hb, (hI.a17).kept hb, (hI.a19).kept hb, (hI.a21).kept hb, (hI.a22).kept hb, (hI.a24).kept hb, (hI.a25).kept hb, (hI.bw).trans (hb.mono (hI.bw).size)⟩⟩
    · rintro L a wx ⟨v, rfl, hI⟩ hL hdep hcl K hK
      have e62 := hI.t62 (hdep 62 (by decide))
      rw [e62]
      refine (if_pos rfl).mpr ?_
      obtain ⟨c0, c1⟩ := hI.ax.two
      go_simp
      exact hK _ _ ⟨(upd (upd v 137 (.bool true)) 141 (.agg #[.int .i64 l, .int .u64 i])), rfl, ⟨hI.t0, hI.t1, hI.t2, hI.t3, hI.t4, hI.t5, hI.t6, hI.t7, hI.t8, hI.t9, hI.t10, hI.t11, hI.t12, hI.t13, hI.t14, hI.t15, hI.t16, hI.t17, hI.t18, hI.t19, hI.t20, hI.t21, hI.t22, hI.t23, hI.t24, hI.t25, hI.t26, hI.t27, hI.t28, hI.t29, hI.t30, hI.t31, hI.t32, hI.t33, hI.t34, hI.t35, hI.t36, hI.t37, hI.t38, hI.t39, hI.t40, hI.t41, hI.t42, hI.t43, hI.t44, hI.t45, hI.t46, hI.t47, hI.t48, hI.t49, hI.t50, hI.t51, hI.t52, hI.t53, hI.t54, hI.t55, hI.t56, hI.t57, hI.t58, hI.t59, hI.t60, hI.t61, fun _ => rfl, hI.t63, hI.t64, hI.t65, fun _ => rfl, hI.t67, hI.t68, hI.t69, hI.t70, hI.t71, hI.a5, hI.a6, hI.ax, hI.ay, hI.a13, hI.a15, hI.a17, hI.a19, hI.a21, hI.a22, hI.a24, hI.a25, hI.bw⟩⟩
    · rintro L a wx ⟨v, rfl, hI⟩ hL hdep hcl K hK
      have e62 := hI.t62 (hdep 62 (by decide))
      rw [e62]
      refine (if_pos rfl).mpr ?_
      obtain ⟨c0, c1⟩ := hI.ay.two
      go_simp
      exact hK _ _ ⟨(upd (upd v 137 (.bool true)) 142 (.agg #[.int .i64 m, .int .u64 j])), rfl, ⟨hI.t0, hI.t1, hI.t2, hI.t3, hI.t4, hI.t5, hI.t6, hI.t7, hI.t8, hI.t9, hI.t10, hI.t11, hI.t12, hI.t13, hI.t14, hI.t15, hI.t16, hI.t17, hI.t18, hI.t19, hI.t20, hI.t21, hI.t22, hI.t23, hI.t24, hI.t25, hI.t26, hI.t27, hI.t28, hI.t29, hI.t30, hI.t31, hI.t32, hI.t33, hI.t34, hI.t35, hI.t36, hI.t37, hI.t38, hI.t39, hI.t40, hI.t41, hI.t42, hI.t43, hI.t44, hI.t45, hI.t46, hI.t47, hI.t48, hI.t49, hI.t50, hI.t51, hI.t52, hI.t53, hI.t54, hI.t55, hI.t56, hI.t57, hI.t58, hI.t59, hI.t60, hI.t61, fun _ => rfl, hI.t63, hI.t64, hI.t65, hI.t66, fun _ => rfl, hI.t68, hI.t69, hI.t70, hI.t71, hI.a5, hI.a6, hI.ax, hI.ay, hI.a13, hI.a15, hI.a17, hI.a19, hI.a21, hI.a22, hI.a24, hI.a25, hI.bw⟩⟩
    · rintro L a wx ⟨v, rfl, hI⟩ hL hdep hcl K hK
      have e62 := hI.t62 (hdep 62 (by decide))
      have e66 := hI.t66 (hdep 66 (by decide))
      have e67 := hI.t67 (hdep 67 (by decide))
      rw [e62, e66, e67]
      refine (if_pos rfl).mpr ?_
      go_simp
      refine (HB2 wx).mono ?_
      rintro e w' ⟨rfl, hb⟩
      exact hK _ _ ⟨(upd (upd (upd (upd v 137 (.bool true)) 141 (.agg #[.int .i64 l, .int .u64 i])) 142 (.agg #[.int .i64 m, .int .u64 j])) 143 (.bool bb)), rfl, ⟨hI.t0, hI.t1, hI.t2, hI.t3, hI.t4, hI.t5, hI.t6, hI.t7, hI.t8, hI.t9, hI.t10, hI.t11, hI.t12, hI.t13, hI.t14, hI.t15, hI.t16, hI.t17, hI.t18, hI.t19, hI.t20, hI.t21, hI.t22, hI.t23, hI.t24, hI.t25, hI.t26, hI.t27, hI.t28, hI.t29, hI.t30, hI.t31, hI.t32, hI.t33, hI.t34, hI.t35, hI.t36, hI.t37, hI.t38, hI.t39, hI.t40, hI.t41, hI.t42, hI.t43, hI.t44, hI.t45, hI.t46, hI.t47, hI.t48, hI.t49, hI.t50, hI.t51, hI.t52, hI.t53, hI.t54, hI.t55, hI.t56, hI.t57, hI.t58, hI.t59, hI.t60, hI.t61, fun _ => rfl, hI.t63, hI.t64, hI.t65, fun _ => rfl, fun _ => rfl, fun _ => rfl, hI.t69, hI.t70, hI.t71, (hI.a5).kept hb, (hI.a6).kept hb, (hI.ax).kept hb, (hI.ay).kept hb, (hI.a13).kept hb, (hI.a15).kept hb, (hI.a17).kept hb, (hI.a19).kept hb, (hI.a21).kept hb, (hI.a22).kept hb, (hI.a24).kept hb, (hI.a25).kept hb, (hI.bw).trans (hb.mono (hI.bw).size)⟩⟩
    · rintro L a wx ⟨v, rfl, hI⟩ hL hdep hcl K hK
      have e62 := hI.t62 (hdep 62 (by decide))
      have e65 := hI.t65 (hdep 65 (by decide))
      have e68 := hI.t68 (hdep 68 (by decide))
      rw [e62, e65, e68]
      refine (if_pos rfl).mpr ?_
      go_simp
      exact hK _ _ ⟨(upd (upd (upd (upd v 137 (.bool true)) 140 (.bool bb)) 143 (.bool bb)) 144 (.bool true)), rfl, ⟨hI.t0, hI.t1, hI.t2, hI.t3, hI.t4, hI.t5, hI.t6, hI.t7, hI.t8, hI.t9, hI.t10, hI.t11, hI.t12, hI.t13, hI.t14, hI.t15, hI.t16, hI.t17, hI.t18, hI.t19, hI.t20, hI.t21, hI.t22, hI.t23, hI.t24, hI.t25, hI.t26, hI.t27, hI.t28, hI.t29, hI.t30, hI.t31, hI.t32, hI.t33, hI.t34, hI.t35, hI.t36, hI.t37, hI.t38, hI.t39, hI.t40, hI.t41, hI.t42, hI.t43, hI.t44, hI.t45, hI.t46, hI.t47, hI.t48, hI.t49, hI.t50, hI.t51, hI.t52, hI.t53, hI.t54, hI.t55, hI.t56, hI.t57, hI.t58, hI.t59, hI.t60, hI.t61, fun _ => rfl, hI.t63, hI.t64, fun _ => rfl, hI.t66, hI.t67, fun _ => rfl, fun _ => rfl, hI.t70, hI.t71, hI.a5, hI.a6, hI.ax, hI.ay, hI.a13, hI.a15, hI.a17, hI.a19, hI.a21, hI.a22, hI.a24, hI.a25, hI.bw⟩⟩
    · rintro L a wx ⟨v, rfl, hI⟩ hL hdep hcl K hK
      have e62 := hI.t62 (hdep 62 (by decide))
      have e69 := hI.t69 (hdep 69 (by decide))
      rw [e62, e69]
      go_simp
      exact hK _ _ ⟨(upd (upd (upd v 137 (.bool true)) 144 (.bool true)) 145 (.bool true)), rfl, ⟨hI.t0, hI.t1, hI.t2, hI.t3, hI.t4, hI.t5, hI.t6, hI.t7, hI.t8, hI.t9, hI.t10, hI.t11, hI.t12, hI.t13, hI.t14, hI.t15, hI.t16, hI.t17, hI.t18, hI.t19, hI.t20, hI.t21, hI.t22, hI.t23, hI.t24, hI.t25, hI.t26, hI.t27, hI.t28, hI.t29, hI.t30, hI.t31, hI.t32, hI.t33, hI.t34, hI.t35, hI.t36, hI.t37, hI.t38, hI.t39, hI.t40, hI.t41, hI.t42, hI.t43, hI.t44, hI.t45, hI.t46, hI.t47, hI.t48, hI.t49, hI.t50, hI.t51, hI.t52, hI.t53, hI.t54, hI.t55, hI.t56, hI.t57, hI.t58, hI.t59, hI.t60, hI.t61, fun _ => rfl, hI.t63, hI.t64, hI.t65, hI.t66, hI.t67, hI.t68, fun _ => rfl, fun _ => rfl, hI.t71, hI.a5, hI.a6, hI.ax, hI.ay, hI.a13, hI.a15, hI.a17, hI.a19, hI.a21, hI.a22, hI.a24, hI.a25, hI.bw⟩⟩
    · rintro L a wx ⟨v, rfl, hI⟩ hL hdep hcl K hK
      have e70 := hI.t70 (hdep 70 (by decide))
      rw [e70]
      go_simp
      exact hK _ _ ⟨(upd (upd v 145 (.bool true)) 4 (.bool true)), rfl, ⟨hI.t0, hI.t1, hI.t2, hI.t3, hI.t4, hI.t5, hI.t6, hI.t7, hI.t8, hI.t9, hI.t10, hI.t11, hI.t12, hI.t13, hI.t14, hI.t15, hI.t16, hI.t17, hI.t18, hI.t19, hI.t20, hI.t21, hI.t22, hI.t23, hI.t24, hI.t25, hI.t26, hI.t27, hI.t28, hI.t29, hI.t30, hI.t31, hI.t32, hI.t33, hI.t34, hI.t35, hI.t36, hI.t37, hI.t38, hI.t39, hI.t40, hI.t41, hI.t42, hI.t43, hI.t44, hI.t45, hI.t46, hI.t47, hI.t48, hI.t49, hI.t50, hI.t51, hI.t52, hI.t53, hI.t54, hI.t55, hI.t56, hI.t57, hI.t58, hI.t59, hI.t60, hI.t61, hI.t62, hI.t63, hI.t64, hI.t65, hI.t66, hI.t67, hI.t68, hI.t69, fun _ => rfl, fun _ => rfl, hI.a5, hI.a6, hI.ax, hI.ay, hI.a13, hI.a15, hI.a17, hI.a19, hI.a21, hI.a22, hI.a24, hI.a25, hI.bw⟩⟩
    · rintro a wx ⟨v, rfl, hI⟩
      have e := hI.t71 rfl
      rw [e]
      have hbw := hI.bw
      clear hI e
      go_wp2
      go_ret
      exact ⟨rfl, HS.out ▸ (HB.trans (hbw.mono HB.size))⟩
end Go.Proofs.Ytbhmgkpkagjmnaa
