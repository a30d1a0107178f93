/-
  Layer 7: PlaceTree as a call, of a node that may not be. Conditions: those in each statement.
-/
import Derived.Test.YtbhmgkpkagjmnaaPlP
import Derived.Test.YtbhmgkpkagjmnaaRegF
namespace Go.Proofs.Ytbhmgkpkagjmnaa
open Go.RowKit

def pickL (b : Bool) (l i : Int) : List Value := match b with
  | true => [.int .i64 l, .int .u64 i]
  | false => [.int .i64 0, .int .u64 0]
theorem ptr_ne {g h : Nat} (hne : g ≠ h) : Value.pointer (some ⟨g, 0, none⟩) ≠ .pointer (some ⟨h, 0, none⟩) := by
  intro e
  injection e with e
  injection e with e
  injection e with e
  exact hne e
theorem infoZ : (Try.prog.info? 25).map (fun i => (i.zero, i.size)) = some (some (.agg [Value.int .i64 0, .int .u64 0].toArray), 2) := by kernel_rfl

theorem hal (w : World) (o : Obj) : Below w.heap.size w (w.alloc o) := (Below.refl _ _).alloc (Nat.le_refl _) _

structure InvTree (l i m j : Int) (S : Nat) (wb : World) (L : Nat → Bool) (v30 v31 v32 v33 v5 v6 : Value) (wx : World) : Prop where
  t0 : L 0 = true → v30 = .agg #[.int .i64 l, .int .u64 i]
  t1 : L 1 = true → v31 = .agg #[.int .i64 l, .int .u64 i]
  t2 : L 2 = true → v32 = .agg #[.int .i64 m, .int .u64 j]
  t3 : L 3 = true → v33 = .agg #[.int .i64 m, .int .u64 j]
  t4 : L 4 = true → ∃ g, v5 = .pointer (some ⟨g, 0, none⟩) ∧ wb.heap.size ≤ g ∧ Arr wx g 25 (pickL (L 6) l i)
  t5 : L 5 = true → ∃ g, v6 = .pointer (some ⟨g, 0, none⟩) ∧ wb.heap.size ≤ g ∧ Arr wx g 25 (pickL (L 7) m j)
  ax : Arr wx S 24 [.int .i64 l, .int .u64 i]
  ay : Arr wx (S + 1) 24 [.int .i64 m, .int .u64 j]
  bw : Below wb.heap.size wb wx
  ne : L 4 = true → L 5 = true → v5 ≠ v6

set_option maxRecDepth 100000 in
set_option maxHeartbeats 6400000 in
theorem Tree_no (l i m j : Int) (w : World) (hi : 0 ≤ i) (hj : 0 ≤ j) (hm : mayB l i = false) :
    Calls Try.prog 6 #[.agg #[.int .i64 l, .int .u64 i], .agg #[.int .i64 m, .int .u64 j]] w fun e w' => e = .returned (.bool true) ∧ Below w.heap.size w w' := by
  have HLn := fun w => Leaves_any l i w hi
  have HMn := fun w => May_any l i w
  have HB1 := fun w => Beneath_any l i m j w hi hj
  have HB2 := fun w => Beneath_any m j l i w hj hi
  rw [show leF l i = 1 by simp [leF, hm]] at HLn
  rw [benB_no1 hm] at HB1
  rw [benB_no2 hm] at HB2
  rw [hm] at HMn
  clear hm
  generalize lfF l i = f at *
  generalize lbF l i = t at *
  go_enter Try.func6, Try.ntmps6
  go_upto_region 1 with (fail)
  obtain ⟨hX, hY, hW⟩ := box3A (w := w) (a := .int .i64 l) (b := .int .u64 i) (c := .int .i64 m) (d := .int .u64 j) (T := 24) (Below.refl _ _)
  generalize (w.alloc (.cells #[.int .i64 l, .int .u64 i] 24)).alloc (.cells #[.int .i64 m, .int .u64 j] 24) = wb at *
  obtain ⟨S, hS⟩ : ∃ S, S = w.heap.size := ⟨_, rfl⟩
  rw [← hS] at hX hY hW ⊢
  have HS := Lib.hid hS
  clear hS
  refine wp_region_steps [[], [0], [], [2, 1], [], [], [4, 1, 3, 0, 5], [5, 3, 6, 0, 1, 2, 4]] (by kernel_rfl) (by kernel_rfl) (fun L a wx => ∃ v30 v31 v32 v33 v5 v6, a = ⟨#[.agg #[.int .i64 l, .int .u64 i], .agg #[.int .i64 m, .int .u64 j], .pointer (some ⟨S, 0, none⟩), .pointer (some ⟨S + 1, 0, none⟩), .bool false, v5, v6, undef, undef, undef, undef, undef, undef, undef, undef, undef, undef, undef, undef, undef, undef, undef, undef, undef, undef, undef, undef, undef, undef, undef, v30, v31, v32, v33, undef, undef, undef, undef, undef, undef, undef, undef, undef, undef, undef, undef, undef, undef, undef, undef, undef, undef, undef, undef, undef, undef, undef, undef, undef, undef, undef, undef, undef, undef, undef, undef, undef, undef, undef, undef, undef, undef, undef, undef, undef, undef, undef, undef, undef, undef, undef, undef, undef, undef, undef, undef, undef, undef, undef, undef, undef, undef, undef, undef, undef, undef, undef, undef, undef, undef, undef, undef, undef, undef, undef, undef, undef, undef, undef, undef, undef, undef, undef, undef, undef, undef, undef, undef, undef, undef, undef, undef, undef, undef, undef, undef, undef, undef, undef, undef, undef, undef, undef, undef, undef, undef, undef, undef, undef, undef, undef, undef, undef, undef, undef, undef, undef, undef, undef, undef, undef, undef, undef, undef, undef, undef, undef, undef, undef, undef, undef, undef, undef, undef, undef, undef, undef, undef, undef, undef, undef, undef, undef, undef, undef, undef, undef, undef, undef, undef, undef, undef, undef, undef, undef, undef, undef, undef, undef, undef, undef, undef, undef, undef, undef, undef, undef, undef, undef, undef, undef, undef, undef, undef, undef, undef, undef, undef, undef, undef, undef, undef, undef, undef, undef, undef, undef, undef, undef, undef, undef, undef, undef, undef, undef], []⟩ ∧ InvTree l i m j S wb L v30 v31 v32 v33 v5 v6 wx) ?_ ⟨?_, ?_, ?_, ?_, ?_, ?_, ?_, ?_, trivial⟩ ?_
  · refine ⟨_, _, _, _, _, _, rfl, ⟨?_, ?_, ?_, ?_, ?_, ?_, hX.drew, hY.drew, (Below.refl _ _).drew, ?_⟩⟩ <;> (intro h; exact absurd h (by decide))
  · rintro L a wx ⟨v30, v31, v32, v33, v5, v6, rfl, hI⟩ hL hdep hcl K hK
    obtain ⟨c0, c1⟩ := hI.ax.two
    go_simp
    exact hK _ _ ⟨_, v31, v32, v33, v5, v6, rfl, ⟨fun _ => rfl, hI.t1, hI.t2, hI.t3, hI.t4, hI.t5, hI.ax, hI.ay, hI.bw, hI.ne⟩⟩
  · rintro L a wx ⟨v30, v31, v32, v33, v5, v6, rfl, hI⟩ hL hdep hcl K hK
    obtain rfl := hI.t0 (hdep 0 (by decide))
    go_simp
    refine (ours_any _ _ wx).mono ?_
    rintro e w' ⟨rfl, hb⟩
    exact hK _ _ ⟨_, _, v32, v33, v5, v6, rfl, ⟨hI.t0, fun _ => rfl, hI.t2, hI.t3, fun h => (hI.t4 h).elim fun g h => ⟨g, h.1, h.2.1, h.2.2.kept hb⟩, fun h => (hI.t5 h).elim fun g h => ⟨g, h.1, h.2.1, h.2.2.kept hb⟩, (hI.ax).kept hb, (hI.ay).kept hb, (hI.bw).trans (hb.mono (hI.bw).size), hI.ne⟩⟩
  · rintro L a wx ⟨v30, v31, v32, v33, v5, v6, rfl, hI⟩ hL hdep hcl K hK
    obtain ⟨c0, c1⟩ := hI.ay.two
    go_simp
    exact hK _ _ ⟨v30, v31, _, v33, v5, v6, rfl, ⟨hI.t0, hI.t1, fun _ => rfl, hI.t3, hI.t4, hI.t5, hI.ax, hI.ay, hI.bw, hI.ne⟩⟩
  · rintro L a wx ⟨v30, v31, v32, v33, v5, v6, rfl, hI⟩ hL hdep hcl K hK
    obtain rfl := hI.t2 (hdep 2 (by decide))
    obtain rfl := hI.t1 (hdep 1 (by decide))
    go_simp
    refine (ours_any _ _ wx).mono ?_
    rintro e w' ⟨rfl, hb⟩
    exact hK _ _ ⟨v30, _, _, _, v5, v6, rfl, ⟨hI.t0, hI.t1, hI.t2, fun _ => rfl, fun h => (hI.t4 h).elim fun g h => ⟨g, h.1, h.2.1, h.2.2.kept hb⟩, fun h => (hI.t5 h).elim fun g h => ⟨g, h.1, h.2.1, h.2.2.kept hb⟩, (hI.ax).kept hb, (hI.ay).kept hb, (hI.bw).trans (hb.mono (hI.bw).size), hI.ne⟩⟩
  · rintro L a wx ⟨v30, v31, v32, v33, v5, v6, rfl, hI⟩ hL hdep hcl K hK
    have hnot : L 6 = false := by
      cases h : L 6 with
      | true =>
        have := hcl 6 (by decide) h 4 (by decide)
        rw [hL] at this
        cases this
      | false => rfl
    refine ow_alloc 25 rfl [.int .i64 0, .int .u64 0] 2 infoZ ?_
    intro w' hA' hb hs
    exact hK _ _ ⟨v30, v31, v32, v33, _, v6, rfl, ⟨hI.t0, hI.t1, hI.t2, hI.t3, fun _ => ⟨_, rfl, hI.bw.size, show Arr w' _ _ (pickL (L 6) l i) from hnot ▸ hA'⟩, fun h => (hI.t5 h).elim fun g h => ⟨g, h.1, h.2.1, h.2.2.kept hb⟩, (hI.ax).kept hb, (hI.ay).kept hb, (hI.bw).trans (hb.mono (hI.bw).size), fun _ h => (by
        obtain ⟨g, hg, -, hA⟩ := hI.t5 h
        rw [hg]
        exact ptr_ne (Nat.ne_of_gt hA.lt))⟩⟩
  · rintro L a wx ⟨v30, v31, v32, v33, v5, v6, rfl, hI⟩ hL hdep hcl K hK
    have hnot : L 7 = false := by
      cases h : L 7 with
      | true =>
        have := hcl 7 (by decide) h 5 (by decide)
        rw [hL] at this
        cases this
      | false => rfl
    refine ow_alloc 25 rfl [.int .i64 0, .int .u64 0] 2 infoZ ?_
    intro w' hA' hb hs
    exact hK _ _ ⟨v30, v31, v32, v33, v5, _, rfl, ⟨hI.t0, hI.t1, hI.t2, hI.t3, fun h => (hI.t4 h).elim fun g h => ⟨g, h.1, h.2.1, h.2.2.kept hb⟩, fun _ => ⟨_, rfl, hI.bw.size, show Arr w' _ _ (pickL (L 7) m j) from hnot ▸ hA'⟩, (hI.ax).kept hb, (hI.ay).kept hb, (hI.bw).trans (hb.mono (hI.bw).size), fun h _ => (by
        obtain ⟨g, hg, -, hA⟩ := hI.t4 h
        rw [hg]
        exact ptr_ne (Nat.ne_of_lt hA.lt))⟩⟩
  · rintro L a wx ⟨v30, v31, v32, v33, v5, v6, rfl, hI⟩ hL hdep hcl K hK
    obtain rfl := hI.t1 (hdep 1 (by decide))
    obtain rfl := hI.t3 (hdep 3 (by decide))
    obtain rfl := hI.t0 (hdep 0 (by decide))
    obtain ⟨g, rfl, hg1, hA⟩ := hI.t4 (hdep 4 (by decide))
    obtain ⟨g2, rfl, hg2, hA2⟩ := hI.t5 (hdep 5 (by decide))
    have hne : g ≠ g2 := fun e => hI.ne (hdep 4 (by decide)) (hdep 5 (by decide)) (by rw [e])
    have hA0 : Arr wx g 25 [.int .i64 0, .int .u64 0] := by
      rw [hL] at hA
      exact hA
    refine ow_store 25 _ _ rfl g 0 rfl [.int .i64 l, .int .u64 i] rfl 25 _ hA0 infoNode (Nat.le_refl _) (two_one rfl rfl) ?_
    intro w' hA' hg hs
    rw [two_store] at hA'
    have hlt1 := hX.lt
    have hlt2 := hY.lt
    exact hK _ _ ⟨_, _, v32, _, _, _, rfl, ⟨hI.t0, hI.t1, hI.t2, hI.t3, fun _ => ⟨g, rfl, hg1, hA'⟩, fun _ => ⟨g2, rfl, hg2, hA2.grown hg (by intro e; injection e with e; exact hne e.symm)⟩, hI.ax.grown hg (by intro e; injection e with e; omega), hI.ay.grown hg (by intro e; injection e with e; omega), hI.bw.grown hg hI.bw.size (by intro k e; injection e with e; omega), hI.ne⟩⟩
  · rintro L a wx ⟨v30, v31, v32, v33, v5, v6, rfl, hI⟩ hL hdep hcl K hK
    obtain rfl := hI.t3 (hdep 3 (by decide))
    obtain rfl := hI.t0 (hdep 0 (by decide))
    obtain rfl := hI.t1 (hdep 1 (by decide))
    obtain rfl := hI.t2 (hdep 2 (by decide))
    obtain ⟨g, rfl, hg1, hA⟩ := hI.t5 (hdep 5 (by decide))
    obtain ⟨g2, rfl, hg2, hA2⟩ := hI.t4 (hdep 4 (by decide))
    have hne : g ≠ g2 := fun e => hI.ne (hdep 4 (by decide)) (hdep 5 (by decide)) (by rw [e])
    have hA0 : Arr wx g 25 [.int .i64 0, .int .u64 0] := by
      rw [hL] at hA
      exact hA
    refine ow_store 25 _ _ rfl g 0 rfl [.int .i64 m, .int .u64 j] rfl 25 _ hA0 infoNode (Nat.le_refl _) (two_one rfl rfl) ?_
    intro w' hA' hg hs
    rw [two_store] at hA'
    have hlt1 := hX.lt
    have hlt2 := hY.lt
    exact hK _ _ ⟨_, _, _, _, _, _, rfl, ⟨hI.t0, hI.t1, hI.t2, hI.t3, fun _ => ⟨g2, rfl, hg2, hA2.grown hg (by intro e; injection e with e; exact hne e.symm)⟩, fun _ => ⟨g, rfl, hg1, hA'⟩, hI.ax.grown hg (by intro e; injection e with e; omega), hI.ay.grown hg (by intro e; injection e with e; omega), hI.bw.grown hg hI.bw.size (by intro k e; injection e with e; omega), hI.ne⟩⟩
  · rintro a wx ⟨v30, v31, v32, v33, v5, v6, rfl, hI⟩
    obtain ⟨g5, rfl, hg5, hA5⟩ := hI.t4 rfl
    obtain ⟨g6, rfl, hg6, hA6⟩ := hI.t5 rfl
    obtain rfl := hI.t0 rfl
    obtain rfl := hI.t1 rfl
    obtain rfl := hI.t2 rfl
    obtain rfl := hI.t3 rfl
    have A5 : Arr wx g5 25 [.int .i64 l, .int .u64 i] := hA5
    have A6 : Arr wx g6 25 [.int .i64 m, .int .u64 j] := hA6
    have HB : Below w.heap.size w wx := (HS.out ▸ hW : Below w.heap.size w wb).trans (hI.bw.mono hW.size)
    clear hA5 hA6 hI hg5 hg6
    obtain ⟨p5, q5⟩ := A5.two
    obtain ⟨p6, q6⟩ := A6.two
    go_upto_region 3 with (go_at_call 10; with_reducible refine (HLn _).mono ?_; rintro _ w1 ⟨rfl, h1⟩)
    clear p5 q5 p6 q6
    replace A5 := A5.kept h1
    replace A6 := A6.kept h1
    replace HB := HB.trans (h1.mono HB.size)
    clear h1
    obtain ⟨p5, q5⟩ := A5.two
    obtain ⟨p6, q6⟩ := A6.two
    go_wp2_with (first
      | (go_at_call 19; with_reducible refine (HMn _).mono ?_; rintro _ z1 ⟨rfl, hz1⟩; replace A5 := A5.kept hz1; replace A6 := A6.kept hz1; replace HB := HB.trans (hz1.mono HB.size); obtain ⟨a1, a2⟩ := A5.two; obtain ⟨a3, a4⟩ := A6.two)
      | (go_at_call 18; refine (awake_any _).mono ?_; rintro _ z2 ⟨rfl, hz2⟩; replace A5 := A5.kept hz2; replace A6 := A6.kept hz2; replace HB := HB.trans (hz2.mono HB.size); obtain ⟨b1, b2⟩ := A5.two; obtain ⟨b3, b4⟩ := A6.two)
      | (go_at_call 22; with_reducible refine (HB1 _).mono ?_; rintro _ z3 ⟨rfl, hz3⟩; replace A5 := A5.kept hz3; replace A6 := A6.kept hz3; replace HB := HB.trans (hz3.mono HB.size); obtain ⟨c1, c2⟩ := A5.two; obtain ⟨c3, c4⟩ := A6.two)
      | (go_at_call 22; with_reducible refine (HB2 _).mono ?_; rintro _ z4 ⟨rfl, hz4⟩; replace HB := HB.trans (hz4.mono HB.size)))
    go_ret
    exact ⟨rfl, HS.out ▸ HB⟩
end Go.Proofs.Ytbhmgkpkagjmnaa
