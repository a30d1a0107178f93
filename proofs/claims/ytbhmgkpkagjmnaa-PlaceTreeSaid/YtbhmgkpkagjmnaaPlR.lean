/-
  Layer 7: PlaceTree as a call, of a node that may be. Conditions: those in each statement.
-/
import Derived.Test.YtbhmgkpkagjmnaaPlQ
namespace Go.Proofs.Ytbhmgkpkagjmnaa
open Go.RowKit

set_option maxRecDepth 100000 in
set_option maxHeartbeats 6400000 in
theorem Tree_leaf (l i : Int) (L I : Nat) (hl : l = (L : Int)) (hi : i = (I : Int)) (m j : Int) (w : World) (hj : 0 ≤ j) (hb : (I + 1) * 2 ^ L ≤ 2 ^ 20) (hL0 : L = 0) :
    Calls Try.prog 6 #[.agg #[.int .i64 l, .int .u64 i], .agg #[.int .i64 m, .int .u64 j]] w fun e w' => e = .returned (.bool true) ∧ Below w.heap.size w w' := by
  have HLQ := Lib.hid hl
  have HIQ := Lib.hid hi
  have hL : L ≤ 20 := by omega
  have hd0 : decide ((0 : Int) < (L : Int)) = false := decide_eq_false (by omega)
  have hd1 : decide (0 < L) = false := decide_eq_false (by omega)
  obtain ⟨F, hF⟩ : ∃ F, F = I * 2 ^ L := ⟨_, rfl⟩
  obtain ⟨X, hX⟩ : ∃ X, X = 2 ^ L := ⟨_, rfl⟩
  obtain ⟨T, hT⟩ : ∃ T, T = F + X := ⟨_, rfl⟩
  have hTI : (I + 1) * 2 ^ L = T := by rw [Nat.add_mul, Nat.one_mul, ← hF, ← hX, hT]
  have hT20 : T ≤ 2 ^ 20 := by rw [← hTI]; exact hb
  have HLn := fun w => leaves_yes (l := L) (i := I) hb hL w
  rw [hTI, ← hF] at HLn
  have HMn := fun w => May_any L I w
  have hmL := may_of hb hL
  rw [hmL] at HMn
  have HLm := fun w => Leaves_any m j w hj
  have HBn := fun w => Beneath_any L I m j w (by omega) hj
  have hsub : (T : Int) - (F : Int) = (X : Int) := by omega
  have hsh : IntKind.u64.wrap ((2 : Int) ^ L) = (X : Int) := by
    have := pow_le20 hL
    rw [IntKind.wrap_u64, show ((2 : Int) ^ L) = ((2 ^ L : Nat) : Int) by push_cast; rfl, ← hX]
    omega
  have hlfn : lfF L I = (F : Int) := by simp [lfF, hmL, hF]
  have hlbn : lbF L I = (T : Int) := by
    unfold lbF
    rw [hmL, if_pos rfl, ← hTI, Int.toNat_natCast]
    push_cast
    rfl
  obtain ⟨E, hE⟩ : ∃ E, E = leF m j := ⟨_, rfl⟩
  obtain ⟨G, hG⟩ : ∃ G, G = lfF m j := ⟨_, rfl⟩
  obtain ⟨U, hU⟩ : ∃ U, U = lbF m j := ⟨_, rfl⟩
  rw [← hE, ← hG, ← hU] at HLm
  obtain ⟨v, hv⟩ : ∃ v, v = benB L I m j := ⟨_, rfl⟩
  rw [← hv] at HBn
  have HV : Hid ((E = 1 ∧ v = false) ∨ (E = 0 ∧ decide ((L : Int) < m) = false ∧ v = false) ∨ (E = 0 ∧ decide ((L : Int) < m) = true ∧ decide (G ≤ (F : Int)) = false ∧ v = false) ∨ (E = 0 ∧ decide ((L : Int) < m) = true ∧ decide (G ≤ (F : Int)) = true ∧ decide ((T : Int) ≤ U) = false ∧ v = false) ∨ (E = 0 ∧ decide ((L : Int) < m) = true ∧ decide (G ≤ (F : Int)) = true ∧ decide ((T : Int) ≤ U) = true ∧ v = true)) := by
    show _ ∨ _
    cases hmm : mayB m j with
    | false => exact .inl ⟨by rw [hE]; simp [leF, hmm], by rw [hv]; exact benB_no2 hmm⟩
    | true =>
      have h0 : E = 0 := by rw [hE]; simp [leF, hmm]
      by_cases hlm : (L : Int) < m
      · have hben := benB_leaves (l := L) (i := I) (by omega) hj hmL hmm hlm
        rw [← hv, hlfn, hlbn, ← hG, ← hU] at hben
        by_cases c1 : G ≤ (F : Int)
        · by_cases c2 : (T : Int) ≤ U
          · exact .inr (.inr (.inr (.inr ⟨h0, decide_eq_true hlm, decide_eq_true c1, decide_eq_true c2, by rw [hben]; simp [c1, c2]⟩)))
          · exact .inr (.inr (.inr (.inl ⟨h0, decide_eq_true hlm, decide_eq_true c1, decide_eq_false c2, by rw [hben]; simp [c2]⟩)))
        · exact .inr (.inr (.inl ⟨h0, decide_eq_true hlm, decide_eq_false c1, by rw [hben]; simp [c1]⟩))
      · exact .inr (.inl ⟨h0, decide_eq_false hlm, by rw [hv]; exact benB_no3 (by omega)⟩)
  clear hl hi hb hF hX hT hTI hE hG hU hv hlfn hlbn hmL hL0
  go_enter Try.func6, Try.ntmps6
  go_upto_region 1 with (fail)
  obtain ⟨hX, hY, hW⟩ := box3A (w := w) (a := .int .i64 l) (b := .int .u64 i) (c := .int .i64 m) (d := .int .u64 j) (T := 24) (Below.refl _ _)
  generalize (w.alloc (.cells #[.int .i64 l, .int .u64 i] 24)).alloc (.cells #[.int .i64 m, .int .u64 j] 24) = wb at *
  obtain ⟨S, hS⟩ : ∃ S, S = w.heap.size := ⟨_, rfl⟩
  rw [← hS] at hX hY hW ⊢
  have HS := Lib.hid hS
  clear hS
  refine wp_region_steps [[], [0], [], [2, 1], [], [], [4, 1, 3, 0, 5], [5, 3, 6, 0, 1, 2, 4]] (by kernel_rfl) (by kernel_rfl) (fun L a wx => ∃ v30 v31 v32 v33 v5 v6, a = ⟨#[.agg #[.int .i64 l, .int .u64 i], .agg #[.int .i64 m, .int .u64 j], .pointer (some ⟨S, 0, none⟩), .pointer (some ⟨S + 1, 0, none⟩), .bool false, v5, v6, undef, undef, undef, undef, undef, undef, undef, undef, undef, undef, undef, undef, undef, undef, undef, undef, undef, undef, undef, undef, undef, undef, undef, v30, v31, v32, v33, undef, undef, undef, undef, undef, undef, undef, undef, undef, undef, undef, undef, undef, undef, undef, undef, undef, undef, undef, undef, undef, undef, undef, undef, undef, undef, undef, undef, undef, undef, undef, undef, undef, undef, undef, undef, undef, undef, undef, undef, undef, undef, undef, undef, undef, undef, undef, undef, undef, undef, undef, undef, undef, undef, undef, undef, undef, undef, undef, undef, undef, undef, undef, undef, undef, undef, undef, undef, undef, undef, undef, undef, undef, undef, undef, undef, undef, undef, undef, undef, undef, undef, undef, undef, undef, undef, undef, undef, undef, undef, undef, undef, undef, undef, undef, undef, undef, undef, undef, undef, undef, undef, undef, undef, undef, undef, undef, undef, undef, undef, undef, undef, undef, undef, undef, undef, undef, undef, undef, undef, undef, undef, undef, undef, undef, undef, undef, undef, undef, undef, undef, undef, undef, undef, undef, undef, undef, undef, undef, undef, undef, undef, undef, undef, undef, undef, undef, undef, undef, undef, undef, undef, undef, undef, undef, undef, undef, undef, undef, undef, undef, undef, undef, undef, undef, undef, undef, undef, undef, undef, undef, undef, undef, undef, undef, undef, undef, undef, undef, undef, undef, undef, undef, undef, undef, undef, undef, undef, undef, undef, undef], []⟩ ∧ InvTree l i m j S wb L v30 v31 v32 v33 v5 v6 wx) ?_ ⟨?_, ?_, ?_, ?_, ?_, ?_, ?_, ?_, trivial⟩ ?_
  · refine ⟨_, _, _, _, _, _, rfl, ⟨?_, ?_, ?_, ?_, ?_, ?_, hX.drew, hY.drew, (Below.refl _ _).drew, ?_⟩⟩ <;> (intro h; exact absurd h (by decide))
  · rintro L a wx ⟨v30, v31, v32, v33, v5, v6, rfl, hI⟩ hL hdep hcl K hK
    obtain ⟨c0, c1⟩ := hI.ax.two
    go_simp
    exact hK _ _ ⟨_, v31, v32, v33, v5, v6, rfl, ⟨fun _ => rfl, hI.t1, hI.t2, hI.t3, hI.t4, hI.t5, hI.ax, hI.ay, hI.bw, hI.ne⟩⟩
  · rintro L a wx ⟨v30, v31, v32, v33, v5, v6, rfl, hI⟩ hL hdep hcl K hK
    obtain rfl := hI.t0 (hdep 0 (by decide))
    go_simp
    refine (ours_any _ _ wx).mono ?_
    rintro e w' ⟨rfl, hb⟩
    exact hK _ _ ⟨_, _, v32, v33, v5, v6, rfl, ⟨hI.t0, fun _ => rfl, hI.t2, hI.t3, fun h => (hI.t4 h).elim fun g h => ⟨g, h.1, h.2.1, h.2.2.kept hb⟩, fun h => (hI.t5 h).elim fun g h => ⟨g, h.1, h.2.1, h.2.2.kept hb⟩, (hI.ax).kept hb, (hI.ay).kept hb, (hI.bw).trans (hb.mono (hI.bw).size), hI.ne⟩⟩
  · rintro L a wx ⟨v30, v31, v32, v33, v5, v6, rfl, hI⟩ hL hdep hcl K hK
    obtain ⟨c0, c1⟩ := hI.ay.two
    go_simp
    exact hK _ _ ⟨v30, v31, _, v33, v5, v6, rfl, ⟨hI.t0, hI.t1, fun _ => rfl, hI.t3, hI.t4, hI.t5, hI.ax, hI.ay, hI.bw, hI.ne⟩⟩
  · rintro L a wx ⟨v30, v31, v32, v33, v5, v6, rfl, hI⟩ hL hdep hcl K hK
    obtain rfl := hI.t2 (hdep 2 (by decide))
    obtain rfl := hI.t1 (hdep 1 (by decide))
    go_simp
    refine (ours_any _ _ wx).mono ?_
    rintro e w' ⟨rfl, hb⟩
    exact hK _ _ ⟨v30, _, _, _, v5, v6, rfl, ⟨hI.t0, hI.t1, hI.t2, fun _ => rfl, fun h => (hI.t4 h).elim fun g h => ⟨g, h.1, h.2.1, h.2.2.kept hb⟩, fun h => (hI.t5 h).elim fun g h => ⟨g, h.1, h.2.1, h.2.2.kept hb⟩, (hI.ax).kept hb, (hI.ay).kept hb, (hI.bw).trans (hb.mono (hI.bw).size), hI.ne⟩⟩
  · rintro L a wx ⟨v30, v31, v32, v33, v5, v6, rfl, hI⟩ hL hdep hcl K hK
    have hnot : L 6 = false := by
      cases h : L 6 with
      | true =>
        have := hcl 6 (by decide) h 4 (by decide)
        rw [hL] at this
        cases this
      | false => rfl
    refine ow_alloc 25 rfl [.int .i64 0, .int .u64 0] 2 infoZ ?_
    intro w' hA' hb hs
    exact hK _ _ ⟨v30, v31, v32, v33, _, v6, rfl, ⟨hI.t0, hI.t1, hI.t2, hI.t3, fun _ => ⟨_, rfl, hI.bw.size, show Arr w' _ _ (pickL (L 6) l i) from hnot ▸ hA'⟩, fun h => (hI.t5 h).elim fun g h => ⟨g, h.1, h.2.1, h.2.2.kept hb⟩, (hI.ax).kept hb, (hI.ay).kept hb, (hI.bw).trans (hb.mono (hI.bw).size), fun _ h => (by
        obtain ⟨g, hg, -, hA⟩ := hI.t5 h
        rw [hg]
        exact ptr_ne (Nat.ne_of_gt hA.lt))⟩⟩
  · rintro L a wx ⟨v30, v31, v32, v33, v5, v6, rfl, hI⟩ hL hdep hcl K hK
    have hnot : L 7 = false := by
      cases h : L 7 with
      | true =>
        have := hcl 7 (by decide) h 5 (by decide)
        rw [hL] at this
        cases this
      | false => rfl
    refine ow_alloc 25 rfl [.int .i64 0, .int .u64 0] 2 infoZ ?_
    intro w' hA' hb hs
    exact hK _ _ ⟨v30, v31, v32, v33, v5, _, rfl, ⟨hI.t0, hI.t1, hI.t2, hI.t3, fun h => (hI.t4 h).elim fun g h => ⟨g, h.1, h.2.1, h.2.2.kept hb⟩, fun _ => ⟨_, rfl, hI.bw.size, show Arr w' _ _ (pickL (L 7) m j) from hnot ▸ hA'⟩, (hI.ax).kept hb, (hI.ay).kept hb, (hI.bw).trans (hb.mono (hI.bw).size), fun h _ => (by
        obtain ⟨g, hg, -, hA⟩ := hI.t4 h
        rw [hg]
        exact ptr_ne (Nat.ne_of_lt hA.lt))⟩⟩
  · rintro L a wx ⟨v30, v31, v32, v33, v5, v6, rfl, hI⟩ hL hdep hcl K hK
    obtain rfl := hI.t1 (hdep 1 (by decide))
    obtain rfl := hI.t3 (hdep 3 (by decide))
    obtain rfl := hI.t0 (hdep 0 (by decide))
    obtain ⟨g, rfl, hg1, hA⟩ := hI.t4 (hdep 4 (by decide))
    obtain ⟨g2, rfl, hg2, hA2⟩ := hI.t5 (hdep 5 (by decide))
    have hne : g ≠ g2 := fun e => hI.ne (hdep 4 (by decide)) (hdep 5 (by decide)) (by rw [e])
    have hA0 : Arr wx g 25 [.int .i64 0, .int .u64 0] := by
      rw [hL] at hA
      exact hA
    refine ow_store 25 _ _ rfl g 0 rfl [.int .i64 l, .int .u64 i] rfl 25 _ hA0 infoNode (Nat.le_refl _) (two_one rfl rfl) ?_
    intro w' hA' hg hs
    rw [two_store] at hA'
    have hlt1 := hX.lt
    have hlt2 := hY.lt
    exact hK _ _ ⟨_, _, v32, _, _, _, rfl, ⟨hI.t0, hI.t1, hI.t2, hI.t3, fun _ => ⟨g, rfl, hg1, hA'⟩, fun _ => ⟨g2, rfl, hg2, hA2.grown hg (by intro e; injection e with e; exact hne e.symm)⟩, hI.ax.grown hg (by intro e; injection e with e; omega), hI.ay.grown hg (by intro e; injection e with e; omega), hI.bw.grown hg hI.bw.size (by intro k e; injection e with e; omega), hI.ne⟩⟩
  · rintro L a wx ⟨v30, v31, v32, v33, v5, v6, rfl, hI⟩ hL hdep hcl K hK
    obtain rfl := hI.t3 (hdep 3 (by decide))
    obtain rfl := hI.t0 (hdep 0 (by decide))
    obtain rfl := hI.t1 (hdep 1 (by decide))
    obtain rfl := hI.t2 (hdep 2 (by decide))
    obtain ⟨g, rfl, hg1, hA⟩ := hI.t5 (hdep 5 (by decide))
    obtain ⟨g2, rfl, hg2, hA2⟩ := hI.t4 (hdep 4 (by decide))
    have hne : g ≠ g2 := fun e => hI.ne (hdep 4 (by decide)) (hdep 5 (by decide)) (by rw [e])
    have hA0 : Arr wx g 25 [.int .i64 0, .int .u64 0] := by
      rw [hL] at hA
      exact hA
    refine ow_store 25 _ _ rfl g 0 rfl [.int .i64 m, .int .u64 j] rfl 25 _ hA0 infoNode (Nat.le_refl _) (two_one rfl rfl) ?_
    intro w' hA' hg hs
    rw [two_store] at hA'
    have hlt1 := hX.lt
    have hlt2 := hY.lt
    exact hK _ _ ⟨_, _, _, _, _, _, rfl, ⟨hI.t0, hI.t1, hI.t2, hI.t3, fun _ => ⟨g2, rfl, hg2, hA2.grown hg (by intro e; injection e with e; exact hne e.symm)⟩, fun _ => ⟨g, rfl, hg1, hA'⟩, hI.ax.grown hg (by intro e; injection e with e; omega), hI.ay.grown hg (by intro e; injection e with e; omega), hI.bw.grown hg hI.bw.size (by intro k e; injection e with e; omega), hI.ne⟩⟩
  · rintro a wx ⟨v30, v31, v32, v33, v5, v6, rfl, hI⟩
    obtain ⟨g5, rfl, hg5, hA5⟩ := hI.t4 rfl
    obtain ⟨g6, rfl, hg6, hA6⟩ := hI.t5 rfl
    obtain rfl := hI.t0 rfl
    obtain rfl := hI.t1 rfl
    obtain rfl := hI.t2 rfl
    obtain rfl := hI.t3 rfl
    have A5 : Arr wx g5 25 [.int .i64 l, .int .u64 i] := hA5
    have A6 : Arr wx g6 25 [.int .i64 m, .int .u64 j] := hA6
    have HB : Below w.heap.size w wx := (HS.out ▸ hW : Below w.heap.size w wb).trans (hI.bw.mono hW.size)
    clear hA5 hA6 hI hg5 hg6
    obtain rfl := HLQ.out
    obtain rfl := HIQ.out
    obtain ⟨p5, q5⟩ := A5.two
    obtain ⟨p6, q6⟩ := A6.two
    go_upto_region 3 with (go_at_call 10; with_reducible refine (HLn _).mono ?_; rintro _ w1 ⟨rfl, h1⟩)
    clear p5 q5 p6 q6
    replace A5 := A5.kept h1
    replace A6 := A6.kept h1
    replace HB := HB.trans (h1.mono HB.size)
    clear h1
    obtain ⟨p5, q5⟩ := A5.two
    obtain ⟨p6, q6⟩ := A6.two
    go_upto_region 5 with (go_at_call 19; with_reducible refine (HMn _).mono ?_; rintro _ w2 ⟨rfl, h2⟩)
    clear p5 q5 p6 q6
    replace A5 := A5.kept h2
    replace A6 := A6.kept h2
    replace HB := HB.trans (h2.mono HB.size)
    clear h2
    obtain ⟨p5, q5⟩ := A5.two
    obtain ⟨p6, q6⟩ := A6.two
    go_upto_region 15 with (fail)
    clear p5 q5 p6 q6
    obtain ⟨p5, q5⟩ := A5.two
    obtain ⟨p6, q6⟩ := A6.two
    go_upto_region 16 with (go_at_call 10; with_reducible refine (HLm _).mono ?_; rintro _ w3 ⟨rfl, h3⟩)
    clear p5 q5 p6 q6
    replace A5 := A5.kept h3
    replace A6 := A6.kept h3
    replace HB := HB.trans (h3.mono HB.size)
    clear h3
    rcases HV.out with ⟨hE, hv⟩ | ⟨hE, hlm, hv⟩ | ⟨hE, hlm, c1, hv⟩ | ⟨hE, hlm, c1, c2, hv⟩ | ⟨hE, hlm, c1, c2, hv⟩
    · subst hE
      rw [hv] at HBn
      clear hv
      go_wp2_with (first
        | (go_at_call 18; refine (awake_any _).mono ?_; rintro _ y1 ⟨rfl, hy1⟩; replace A5 := A5.kept hy1; replace A6 := A6.kept hy1; replace HB := HB.trans (hy1.mono HB.size); obtain ⟨r5, s5⟩ := A5.two; obtain ⟨r6, s6⟩ := A6.two)
        | (go_at_call 22; with_reducible refine (HBn _).mono ?_; rintro _ y2 ⟨rfl, hy2⟩; replace A5 := A5.kept hy2; replace A6 := A6.kept hy2; replace HB := HB.trans (hy2.mono HB.size); obtain ⟨r7, s7⟩ := A5.two; obtain ⟨r8, s8⟩ := A6.two))
      go_ret
      exact ⟨rfl, HS.out ▸ HB⟩
    · subst hE
      rw [hv] at HBn
      clear hv
      go_wp2_with (first
        | (go_at_call 18; refine (awake_any _).mono ?_; rintro _ y1 ⟨rfl, hy1⟩; replace A5 := A5.kept hy1; replace A6 := A6.kept hy1; replace HB := HB.trans (hy1.mono HB.size); obtain ⟨r5, s5⟩ := A5.two; obtain ⟨r6, s6⟩ := A6.two)
        | (go_at_call 22; with_reducible refine (HBn _).mono ?_; rintro _ y2 ⟨rfl, hy2⟩; replace A5 := A5.kept hy2; replace A6 := A6.kept hy2; replace HB := HB.trans (hy2.mono HB.size); obtain ⟨r7, s7⟩ := A5.two; obtain ⟨r8, s8⟩ := A6.two))
      go_ret
      exact ⟨rfl, HS.out ▸ HB⟩
    · subst hE
      rw [hv] at HBn
      clear hv
      go_wp2_with (first
        | (go_at_call 18; refine (awake_any _).mono ?_; rintro _ y1 ⟨rfl, hy1⟩; replace A5 := A5.kept hy1; replace A6 := A6.kept hy1; replace HB := HB.trans (hy1.mono HB.size); obtain ⟨r5, s5⟩ := A5.two; obtain ⟨r6, s6⟩ := A6.two)
        | (go_at_call 22; with_reducible refine (HBn _).mono ?_; rintro _ y2 ⟨rfl, hy2⟩; replace A5 := A5.kept hy2; replace A6 := A6.kept hy2; replace HB := HB.trans (hy2.mono HB.size); obtain ⟨r7, s7⟩ := A5.two; obtain ⟨r8, s8⟩ := A6.two))
      go_ret
      exact ⟨rfl, HS.out ▸ HB⟩
    · subst hE
      rw [hv] at HBn
      clear hv
      go_wp2_with (first
        | (go_at_call 18; refine (awake_any _).mono ?_; rintro _ y1 ⟨rfl, hy1⟩; replace A5 := A5.kept hy1; replace A6 := A6.kept hy1; replace HB := HB.trans (hy1.mono HB.size); obtain ⟨r5, s5⟩ := A5.two; obtain ⟨r6, s6⟩ := A6.two)
        | (go_at_call 22; with_reducible refine (HBn _).mono ?_; rintro _ y2 ⟨rfl, hy2⟩; replace A5 := A5.kept hy2; replace A6 := A6.kept hy2; replace HB := HB.trans (hy2.mono HB.size); obtain ⟨r7, s7⟩ := A5.two; obtain ⟨r8, s8⟩ := A6.two))
      go_ret
      exact ⟨rfl, HS.out ▸ HB⟩
    · subst hE
      rw [hv] at HBn
      clear hv
      go_wp2_with (first
        | (go_at_call 18; refine (awake_any _).mono ?_; rintro _ y1 ⟨rfl, hy1⟩; replace A5 := A5.kept hy1; replace A6 := A6.kept hy1; replace HB := HB.trans (hy1.mono HB.size); obtain ⟨r5, s5⟩ := A5.two; obtain ⟨r6, s6⟩ := A6.two)
        | (go_at_call 22; with_reducible refine (HBn _).mono ?_; rintro _ y2 ⟨rfl, hy2⟩; replace A5 := A5.kept hy2; replace A6 := A6.kept hy2; replace HB := HB.trans (hy2.mono HB.size); obtain ⟨r7, s7⟩ := A5.two; obtain ⟨r8, s8⟩ := A6.two))
      go_ret
      exact ⟨rfl, HS.out ▸ HB⟩

set_option maxRecDepth 100000 in
set_option maxHeartbeats 12800000 in
theorem Tree_deep (l i : Int) (L I : Nat) (hl : l = (L : Int)) (hi : i = (I : Int)) (m j : Int) (w : World) (hj : 0 ≤ j) (hb : (I + 1) * 2 ^ L ≤ 2 ^ 20) (hL : L ≤ 20) (hL1 : 1 ≤ L) :
    Calls Try.prog 6 #[.agg #[.int .i64 l, .int .u64 i], .agg #[.int .i64 m, .int .u64 j]] w fun e w' => e = .returned (.bool true) ∧ Below w.heap.size w w' := by
  have HLQ := Lib.hid hl
  have HIQ := Lib.hid hi
  have hd0 : decide ((0 : Int) < (L : Int)) = true := decide_eq_true (by omega)
  have hd1 : decide (0 < L) = true := decide_eq_true (by omega)
  obtain ⟨F, hF⟩ : ∃ F, F = I * 2 ^ L := ⟨_, rfl⟩
  obtain ⟨X, hX⟩ : ∃ X, X = 2 ^ L := ⟨_, rfl⟩
  obtain ⟨T, hT⟩ : ∃ T, T = F + X := ⟨_, rfl⟩
  have hTI : (I + 1) * 2 ^ L = T := by rw [Nat.add_mul, Nat.one_mul, ← hF, ← hX, hT]
  have hT20 : T ≤ 2 ^ 20 := by rw [← hTI]; exact hb
  have HLn := fun w => leaves_yes (l := L) (i := I) hb hL w
  rw [hTI, ← hF] at HLn
  have HMn := fun w => May_any L I w
  have hmL := may_of hb hL
  rw [hmL] at HMn
  have HLm := fun w => Leaves_any m j w hj
  have HBn := fun w => Beneath_any L I m j w (by omega) hj
  have hsub : (T : Int) - (F : Int) = (X : Int) := by omega
  have hsh : IntKind.u64.wrap ((2 : Int) ^ L) = (X : Int) := by
    have := pow_le20 hL
    rw [IntKind.wrap_u64, show ((2 : Int) ^ L) = ((2 ^ L : Nat) : Int) by push_cast; rfl, ← hX]
    omega
  have hlfn : lfF L I = (F : Int) := by simp [lfF, hmL, hF]
  have hlbn : lbF L I = (T : Int) := by
    unfold lbF
    rw [hmL, if_pos rfl, ← hTI, Int.toNat_natCast]
    push_cast
    rfl
  obtain ⟨E, hE⟩ : ∃ E, E = leF m j := ⟨_, rfl⟩
  obtain ⟨G, hG⟩ : ∃ G, G = lfF m j := ⟨_, rfl⟩
  obtain ⟨U, hU⟩ : ∃ U, U = lbF m j := ⟨_, rfl⟩
  rw [← hE, ← hG, ← hU] at HLm
  obtain ⟨v, hv⟩ : ∃ v, v = benB L I m j := ⟨_, rfl⟩
  rw [← hv] at HBn
  have HV : Hid ((E = 1 ∧ v = false) ∨ (E = 0 ∧ decide ((L : Int) < m) = false ∧ v = false) ∨ (E = 0 ∧ decide ((L : Int) < m) = true ∧ decide (G ≤ (F : Int)) = false ∧ v = false) ∨ (E = 0 ∧ decide ((L : Int) < m) = true ∧ decide (G ≤ (F : Int)) = true ∧ decide ((T : Int) ≤ U) = false ∧ v = false) ∨ (E = 0 ∧ decide ((L : Int) < m) = true ∧ decide (G ≤ (F : Int)) = true ∧ decide ((T : Int) ≤ U) = true ∧ v = true)) := by
    show _ ∨ _
    cases hmm : mayB m j with
    | false => exact .inl ⟨by rw [hE]; simp [leF, hmm], by rw [hv]; exact benB_no2 hmm⟩
    | true =>
      have h0 : E = 0 := by rw [hE]; simp [leF, hmm]
      by_cases hlm : (L : Int) < m
      · have hben := benB_leaves (l := L) (i := I) (by omega) hj hmL hmm hlm
        rw [← hv, hlfn, hlbn, ← hG, ← hU] at hben
        by_cases c1 : G ≤ (F : Int)
        · by_cases c2 : (T : Int) ≤ U
          · exact .inr (.inr (.inr (.inr ⟨h0, decide_eq_true hlm, decide_eq_true c1, decide_eq_true c2, by rw [hben]; simp [c1, c2]⟩)))
          · exact .inr (.inr (.inr (.inl ⟨h0, decide_eq_true hlm, decide_eq_true c1, decide_eq_false c2, by rw [hben]; simp [c2]⟩)))
        · exact .inr (.inr (.inl ⟨h0, decide_eq_true hlm, decide_eq_false c1, by rw [hben]; simp [c1]⟩))
      · exact .inr (.inl ⟨h0, decide_eq_false hlm, by rw [hv]; exact benB_no3 (by omega)⟩)
  obtain ⟨M, hM⟩ : ∃ M, L = M + 1 := ⟨L - 1, by omega⟩
  obtain ⟨J, hJ⟩ : ∃ J, J = 2 * I := ⟨_, rfl⟩
  obtain ⟨K, hK⟩ : ∃ K, K = J + 1 := ⟨_, rfl⟩
  have h2p : 2 ^ L = 2 * 2 ^ M := by rw [hM, Nat.pow_succ, Nat.mul_comm]
  have hpM := Nat.two_pow_pos M
  have eF : J * 2 ^ M = F := by rw [hF, h2p, hJ, Nat.mul_comm 2 I, Nat.mul_assoc]
  have eT : (K + 1) * 2 ^ M = T := by rw [← hTI, h2p, hK, hJ, show 2 * I + 1 + 1 = (I + 1) * 2 by omega, Nat.mul_assoc]
  obtain ⟨H, hH⟩ : ∃ H, H = K * 2 ^ M := ⟨_, rfl⟩
  have eH : (J + 1) * 2 ^ M = H := by rw [hH, hK]
  have hHT : H + 2 ^ M = T := by rw [hH, ← eT, Nat.add_mul, Nat.one_mul]
  have hbJ : (J + 1) * 2 ^ M ≤ 2 ^ 20 := by omega
  have hbK : (K + 1) * 2 ^ M ≤ 2 ^ 20 := by omega
  have hM20 : M < 20 := by omega
  have HLa := fun w => leaves_yes (l := M) (i := J) hbJ (by omega) w
  rw [eF, eH] at HLa
  have HLb := fun w => leaves_yes (l := M) (i := K) hbK (by omega) w
  rw [← hH, eT] at HLb
  have HPa := fun w => parent_yes (l := M) (i := J) hbJ hM20 w
  rw [← hM, show J / 2 = I by omega] at HPa
  have HPb := fun w => parent_yes (l := M) (i := K) hbK hM20 w
  rw [← hM, show K / 2 = I by omega] at HPb
  have HSa := fun w => sibling_even (l := M) (k := I) (by rw [← hJ]; exact hbJ) hM20 w
  rw [← hJ, ← hK] at HSa
  have HSb := fun w => sibling_odd (l := M) (k := I) (by rw [← hJ, ← hK]; exact hbK) hM20 w
  rw [← hJ, ← hK] at HSb
  have HCh := fun w => Children_any L I w (by omega)
  have hcb : cB L I = true := by
    have : (L : Int) ≠ 0 := by omega
    simp only [cB, hmL, Bool.true_and, decide_eq_true_eq]
    exact this
  rw [show clF L I = (M : Int) by simp [clF, hcb]; omega, show caF L I = (J : Int) by simp [caF, hcb]; omega, show cbF L I = (K : Int) by simp [cbF, hcb]; omega, show ceF L I = 0 by simp [ceF, hcb]] at HCh
  have hmJ := may_of hbJ (by omega)
  have hmK := may_of hbK (by omega)
  have HBa := fun w => Beneath_any M J L I w (by omega) (by omega)
  have HBb := fun w => Beneath_any M K L I w (by omega) (by omega)
  have HBab := fun w => Beneath_any M J M K w (by omega) (by omega)
  have hone : ((L : Int) - (M : Int)).toNat = 1 := by omega
  have hlt : decide ((M : Int) < (L : Int)) = true := decide_eq_true (by omega)
  rw [show benB M J L I = true by unfold benB; rw [hmJ, hmL, hlt, hone]; simp only [Bool.true_and, decide_eq_true_eq]; omega] at HBa
  rw [show benB M K L I = true by unfold benB; rw [hmK, hmL, hlt, hone]; simp only [Bool.true_and, decide_eq_true_eq]; omega] at HBb
  rw [benB_no3 (Int.le_refl _)] at HBab
  clear hl hi hb hF hX hT hTI hE hG hU hv hlfn hlbn hmL hL1 hM hJ hK h2p hpM eF eT hH eH hHT hbJ hbK hcb hmJ hmK hone hlt
  go_enter Try.func6, Try.ntmps6
  go_upto_region 1 with (fail)
  obtain ⟨hX, hY, hW⟩ := box3A (w := w) (a := .int .i64 l) (b := .int .u64 i) (c := .int .i64 m) (d := .int .u64 j) (T := 24) (Below.refl _ _)
  generalize (w.alloc (.cells #[.int .i64 l, .int .u64 i] 24)).alloc (.cells #[.int .i64 m, .int .u64 j] 24) = wb at *
  obtain ⟨S, hS⟩ : ∃ S, S = w.heap.size := ⟨_, rfl⟩
  rw [← hS] at hX hY hW ⊢
  have HS := Lib.hid hS
  clear hS
  refine wp_region_steps [[], [0], [], [2, 1], [], [], [4, 1, 3, 0, 5], [5, 3, 6, 0, 1, 2, 4]] (by kernel_rfl) (by kernel_rfl) (fun L a wx => ∃ v30 v31 v32 v33 v5 v6, a = ⟨#[.agg #[.int .i64 l, .int .u64 i], .agg #[.int .i64 m, .int .u64 j], .pointer (some ⟨S, 0, none⟩), .pointer (some ⟨S + 1, 0, none⟩), .bool false, v5, v6, undef, undef, undef, undef, undef, undef, undef, undef, undef, undef, undef, undef, undef, undef, undef, undef, undef, undef, undef, undef, undef, undef, undef, v30, v31, v32, v33, undef, undef, undef, undef, undef, undef, undef, undef, undef, undef, undef, undef, undef, undef, undef, undef, undef, undef, undef, undef, undef, undef, undef, undef, undef, undef, undef, undef, undef, undef, undef, undef, undef, undef, undef, undef, undef, undef, undef, undef, undef, undef, undef, undef, undef, undef, undef, undef, undef, undef, undef, undef, undef, undef, undef, undef, undef, undef, undef, undef, undef, undef, undef, undef, undef, undef, undef, undef, undef, undef, undef, undef, undef, undef, undef, undef, undef, undef, undef, undef, undef, undef, undef, undef, undef, undef, undef, undef, undef, undef, undef, undef, undef, undef, undef, undef, undef, undef, undef, undef, undef, undef, undef, undef, undef, undef, undef, undef, undef, undef, undef, undef, undef, undef, undef, undef, undef, undef, undef, undef, undef, undef, undef, undef, undef, undef, undef, undef, undef, undef, undef, undef, undef, undef, undef, undef, undef, undef, undef, undef, undef, undef, undef, undef, undef, undef, undef, undef, undef, undef, undef, undef, undef, undef, undef, undef, undef, undef, undef, undef, undef, undef, undef, undef, undef, undef, undef, undef, undef, undef, undef, undef, undef, undef, undef, undef, undef, undef, undef, undef, undef, undef, undef, undef, undef, undef, undef, undef, undef, undef, undef], []⟩ ∧ InvTree l i m j S wb L v30 v31 v32 v33 v5 v6 wx) ?_ ⟨?_, ?_, ?_, ?_, ?_, ?_, ?_, ?_, trivial⟩ ?_
  · refine ⟨_, _, _, _, _, _, rfl, ⟨?_, ?_, ?_, ?_, ?_, ?_, hX.drew, hY.drew, (Below.refl _ _).drew, ?_⟩⟩ <;> (intro h; exact absurd h (by decide))
  · rintro L a wx ⟨v30, v31, v32, v33, v5, v6, rfl, hI⟩ hL hdep hcl K hK
    obtain ⟨c0, c1⟩ := hI.ax.two
    go_simp
    exact hK _ _ ⟨_, v31, v32, v33, v5, v6, rfl, ⟨fun _ => rfl, hI.t1, hI.t2, hI.t3, hI.t4, hI.t5, hI.ax, hI.ay, hI.bw, hI.ne⟩⟩
  · rintro L a wx ⟨v30, v31, v32, v33, v5, v6, rfl, hI⟩ hL hdep hcl K hK
    obtain rfl := hI.t0 (hdep 0 (by decide))
    go_simp
    refine (ours_any _ _ wx).mono ?_
    rintro e w' ⟨rfl, hb⟩
    exact hK _ _ ⟨_, _, v32, v33, v5, v6, rfl, ⟨hI.t0, fun _ => rfl, hI.t2, hI.t3, fun h => (hI.t4 h).elim fun g h => ⟨g, h.1, h.2.1, h.2.2.kept hb⟩, fun h => (hI.t5 h).elim fun g h => ⟨g, h.1, h.2.1, h.2.2.kept hb⟩, (hI.ax).kept hb, (hI.ay).kept hb, (hI.bw).trans (hb.mono (hI.bw).size), hI.ne⟩⟩
  · rintro L a wx ⟨v30, v31, v32, v33, v5, v6, rfl, hI⟩ hL hdep hcl K hK
    obtain ⟨c0, c1⟩ := hI.ay.two
    go_simp
    exact hK _ _ ⟨v30, v31, _, v33, v5, v6, rfl, ⟨hI.t0, hI.t1, fun _ => rfl, hI.t3, hI.t4, hI.t5, hI.ax, hI.ay, hI.bw, hI.ne⟩⟩
  · rintro L a wx ⟨v30, v31, v32, v33, v5, v6, rfl, hI⟩ hL hdep hcl K hK
    obtain rfl := hI.t2 (hdep 2 (by decide))
    obtain rfl := hI.t1 (hdep 1 (by decide))
    go_simp
    refine (ours_any _ _ wx).mono ?_
    rintro e w' ⟨rfl, hb⟩
    exact hK _ _ ⟨v30, _, _, _, v5, v6, rfl, ⟨hI.t0, hI.t1, hI.t2, fun _ => rfl, fun h => (hI.t4 h).elim fun g h => ⟨g, h.1, h.2.1, h.2.2.kept hb⟩, fun h => (hI.t5 h).elim fun g h => ⟨g, h.1, h.2.1, h.2.2.kept hb⟩, (hI.ax).kept hb, (hI.ay).kept hb, (hI.bw).trans (hb.mono (hI.bw).size), hI.ne⟩⟩
  · rintro L a wx ⟨v30, v31, v32, v33, v5, v6, rfl, hI⟩ hL hdep hcl K hK
    have hnot : L 6 = false := by
      cases h : L 6 with
      | true =>
        have := hcl 6 (by decide) h 4 (by decide)
        rw [hL] at this
        cases this
      | false => rfl
    refine ow_alloc 25 rfl [.int .i64 0, .int .u64 0] 2 infoZ ?_
    intro w' hA' hb hs
    exact hK _ _ ⟨v30, v31, v32, v33, _, v6, rfl, ⟨hI.t0, hI.t1, hI.t2, hI.t3, fun _ => ⟨_, rfl, hI.bw.size, show Arr w' _ _ (pickL (L 6) l i) from hnot ▸ hA'⟩, fun h => (hI.t5 h).elim fun g h => ⟨g, h.1, h.2.1, h.2.2.kept hb⟩, (hI.ax).kept hb, (hI.ay).kept hb, (hI.bw).trans (hb.mono (hI.bw).size), fun _ h => (by
        obtain ⟨g, hg, -, hA⟩ := hI.t5 h
        rw [hg]
        exact ptr_ne (Nat.ne_of_gt hA.lt))⟩⟩
  · rintro L a wx ⟨v30, v31, v32, v33, v5, v6, rfl, hI⟩ hL hdep hcl K hK
    have hnot : L 7 = false := by
      cases h : L 7 with
      | true =>
        have := hcl 7 (by decide) h 5 (by decide)
        rw [hL] at this
        cases this
      | false => rfl
    refine ow_alloc 25 rfl [.int .i64 0, .int .u64 0] 2 infoZ ?_
    intro w' hA' hb hs
    exact hK _ _ ⟨v30, v31, v32, v33, v5, _, rfl, ⟨hI.t0, hI.t1, hI.t2, hI.t3, fun h => (hI.t4 h).elim fun g h => ⟨g, h.1, h.2.1, h.2.2.kept hb⟩, fun _ => ⟨_, rfl, hI.bw.size, show Arr w' _ _ (pickL (L 7) m j) from hnot ▸ hA'⟩, (hI.ax).kept hb, (hI.ay).kept hb, (hI.bw).trans (hb.mono (hI.bw).size), fun h _ => (by
        obtain ⟨g, hg, -, hA⟩ := hI.t4 h
        rw [hg]
        exact ptr_ne (Nat.ne_of_lt hA.lt))⟩⟩
  · rintro L a wx ⟨v30, v31, v32, v33, v5, v6, rfl, hI⟩ hL hdep hcl K hK
    obtain rfl := hI.t1 (hdep 1 (by decide))
    obtain rfl := hI.t3 (hdep 3 (by decide))
    obtain rfl := hI.t0 (hdep 0 (by decide))
    obtain ⟨g, rfl, hg1, hA⟩ := hI.t4 (hdep 4 (by decide))
    obtain ⟨g2, rfl, hg2, hA2⟩ := hI.t5 (hdep 5 (by decide))
    have hne : g ≠ g2 := fun e => hI.ne (hdep 4 (by decide)) (hdep 5 (by decide)) (by rw [e])
    have hA0 : Arr wx g 25 [.int .i64 0, .int .u64 0] := by
      rw [hL] at hA
      exact hA
    refine ow_store 25 _ _ rfl g 0 rfl [.int .i64 l, .int .u64 i] rfl 25 _ hA0 infoNode (Nat.le_refl _) (two_one rfl rfl) ?_
    intro w' hA' hg hs
    rw [two_store] at hA'
    have hlt1 := hX.lt
    have hlt2 := hY.lt
    exact hK _ _ ⟨_, _, v32, _, _, _, rfl, ⟨hI.t0, hI.t1, hI.t2, hI.t3, fun _ => ⟨g, rfl, hg1, hA'⟩, fun _ => ⟨g2, rfl, hg2, hA2.grown hg (by intro e; injection e with e; exact hne e.symm)⟩, hI.ax.grown hg (by intro e; injection e with e; omega), hI.ay.grown hg (by intro e; injection e with e; omega), hI.bw.grown hg hI.bw.size (by intro k e; injection e with e; omega), hI.ne⟩⟩
  · rintro L a wx ⟨v30, v31, v32, v33, v5, v6, rfl, hI⟩ hL hdep hcl K hK
    obtain rfl := hI.t3 (hdep 3 (by decide))
    obtain rfl := hI.t0 (hdep 0 (by decide))
    obtain rfl := hI.t1 (hdep 1 (by decide))
    obtain rfl := hI.t2 (hdep 2 (by decide))
    obtain ⟨g, rfl, hg1, hA⟩ := hI.t5 (hdep 5 (by decide))
    obtain ⟨g2, rfl, hg2, hA2⟩ := hI.t4 (hdep 4 (by decide))
    have hne : g ≠ g2 := fun e => hI.ne (hdep 4 (by decide)) (hdep 5 (by decide)) (by rw [e])
    have hA0 : Arr wx g 25 [.int .i64 0, .int .u64 0] := by
      rw [hL] at hA
      exact hA
    refine ow_store 25 _ _ rfl g 0 rfl [.int .i64 m, .int .u64 j] rfl 25 _ hA0 infoNode (Nat.le_refl _) (two_one rfl rfl) ?_
    intro w' hA' hg hs
    rw [two_store] at hA'
    have hlt1 := hX.lt
    have hlt2 := hY.lt
    exact hK _ _ ⟨_, _, _, _, _, _, rfl, ⟨hI.t0, hI.t1, hI.t2, hI.t3, fun _ => ⟨g2, rfl, hg2, hA2.grown hg (by intro e; injection e with e; exact hne e.symm)⟩, fun _ => ⟨g, rfl, hg1, hA'⟩, hI.ax.grown hg (by intro e; injection e with e; omega), hI.ay.grown hg (by intro e; injection e with e; omega), hI.bw.grown hg hI.bw.size (by intro k e; injection e with e; omega), hI.ne⟩⟩
  · rintro a wx ⟨v30, v31, v32, v33, v5, v6, rfl, hI⟩
    obtain ⟨g5, rfl, hg5, hA5⟩ := hI.t4 rfl
    obtain ⟨g6, rfl, hg6, hA6⟩ := hI.t5 rfl
    obtain rfl := hI.t0 rfl
    obtain rfl := hI.t1 rfl
    obtain rfl := hI.t2 rfl
    obtain rfl := hI.t3 rfl
    have A5 : Arr wx g5 25 [.int .i64 l, .int .u64 i] := hA5
    have A6 : Arr wx g6 25 [.int .i64 m, .int .u64 j] := hA6
    have HB : Below w.heap.size w wx := (HS.out ▸ hW : Below w.heap.size w wb).trans (hI.bw.mono hW.size)
    clear hA5 hA6 hI hg5 hg6
    obtain rfl := HLQ.out
    obtain rfl := HIQ.out
    obtain ⟨p5, q5⟩ := A5.two
    obtain ⟨p6, q6⟩ := A6.two
    go_upto_region 3 with (go_at_call 10; with_reducible refine (HLn _).mono ?_; rintro _ w1 ⟨rfl, h1⟩)
    clear p5 q5 p6 q6
    replace A5 := A5.kept h1
    replace A6 := A6.kept h1
    replace HB := HB.trans (h1.mono HB.size)
    clear h1
    obtain ⟨p5, q5⟩ := A5.two
    obtain ⟨p6, q6⟩ := A6.two
    go_upto_region 5 with (go_at_call 19; with_reducible refine (HMn _).mono ?_; rintro _ w2 ⟨rfl, h2⟩)
    clear p5 q5 p6 q6
    replace A5 := A5.kept h2
    replace A6 := A6.kept h2
    replace HB := HB.trans (h2.mono HB.size)
    clear h2
    obtain ⟨p5, q5⟩ := A5.two
    obtain ⟨p6, q6⟩ := A6.two
    go_upto_region 7 with (go_at_call 16; with_reducible refine (HCh _).mono ?_; rintro _ w3 ⟨rfl, h3⟩)
    clear p5 q5 p6 q6
    replace A5 := A5.kept h3
    replace A6 := A6.kept h3
    replace HB := HB.trans (h3.mono HB.size)
    clear h3
    have hb4 := hal (w3) (.cells #[.int .i64 (M : Int), .int .u64 (J : Int)] 25)
    have A10_ := Arr.new (w3) 25 [.int .i64 (M : Int), .int .u64 (J : Int)]
    replace A5 := A5.kept hb4
    replace A6 := A6.kept hb4
    replace HB := HB.trans (hb4.mono HB.size)
    have A10 := A10_
    clear hb4 A10_
    have hb5 := hal (w3.alloc (.cells #[.int .i64 (M : Int), .int .u64 (J : Int)] 25)) (.cells #[.int .i64 (M : Int), .int .u64 (K : Int)] 25)
    have A11_ := Arr.new (w3.alloc (.cells #[.int .i64 (M : Int), .int .u64 (J : Int)] 25)) 25 [.int .i64 (M : Int), .int .u64 (K : Int)]
    rw [show (w3.alloc (.cells #[.int .i64 (M : Int), .int .u64 (J : Int)] 25)).heap.size = w3.heap.size + 1 from by simp] at A11_
    replace A5 := A5.kept hb5
    replace A6 := A6.kept hb5
    replace A10 := A10.kept hb5
    replace HB := HB.trans (hb5.mono HB.size)
    have A11 := A11_
    clear hb5 A11_
    generalize hg10 : w3.heap.size = g10 at *
    generalize (w3.alloc (.cells #[.int .i64 (M : Int), .int .u64 (J : Int)] 25)).alloc (.cells #[.int .i64 (M : Int), .int .u64 (K : Int)] 25) = w5 at *
    clear hg10
    obtain ⟨p5, q5⟩ := A5.two
    obtain ⟨p6, q6⟩ := A6.two
    obtain ⟨p10, q10⟩ := A10.two
    obtain ⟨p11, q11⟩ := A11.two
    go_upto_region 8 with (go_at_call 10; with_reducible refine (HLa _).mono ?_; rintro _ w6 ⟨rfl, h6⟩)
    clear p5 q5 p6 q6 p10 q10 p11 q11
    replace A5 := A5.kept h6
    replace A6 := A6.kept h6
    replace A10 := A10.kept h6
    replace A11 := A11.kept h6
    replace HB := HB.trans (h6.mono HB.size)
    clear h6
    obtain ⟨p5, q5⟩ := A5.two
    obtain ⟨p6, q6⟩ := A6.two
    obtain ⟨p10, q10⟩ := A10.two
    obtain ⟨p11, q11⟩ := A11.two
    go_upto_region 9 with (go_at_call 10; with_reducible refine (HLb _).mono ?_; rintro _ w7 ⟨rfl, h7⟩)
    clear p5 q5 p6 q6 p10 q10 p11 q11
    replace A5 := A5.kept h7
    replace A6 := A6.kept h7
    replace A10 := A10.kept h7
    replace A11 := A11.kept h7
    replace HB := HB.trans (h7.mono HB.size)
    clear h7
    obtain ⟨p5, q5⟩ := A5.two
    obtain ⟨p6, q6⟩ := A6.two
    obtain ⟨p10, q10⟩ := A10.two
    obtain ⟨p11, q11⟩ := A11.two
    go_upto_region 10 with (go_at_call 12; with_reducible refine (HPa _).mono ?_; rintro _ w8 ⟨rfl, h8⟩)
    clear p5 q5 p6 q6 p10 q10 p11 q11
    replace A5 := A5.kept h8
    replace A6 := A6.kept h8
    replace A10 := A10.kept h8
    replace A11 := A11.kept h8
    replace HB := HB.trans (h8.mono HB.size)
    clear h8
    have hb9 := hal (w8) (.cells #[.int .i64 (L : Int), .int .u64 (I : Int)] 25)
    have A19_ := Arr.new (w8) 25 [.int .i64 (L : Int), .int .u64 (I : Int)]
    replace A5 := A5.kept hb9
    replace A6 := A6.kept hb9
    replace A10 := A10.kept hb9
    replace A11 := A11.kept hb9
    replace HB := HB.trans (hb9.mono HB.size)
    have A19 := A19_
    clear hb9 A19_
    generalize hg19 : w8.heap.size = g19 at *
    generalize w8.alloc (.cells #[.int .i64 (L : Int), .int .u64 (I : Int)] 25) = w9 at *
    clear hg19
    obtain ⟨p5, q5⟩ := A5.two
    obtain ⟨p6, q6⟩ := A6.two
    obtain ⟨p10, q10⟩ := A10.two
    obtain ⟨p11, q11⟩ := A11.two
    obtain ⟨p19, q19⟩ := A19.two
    go_upto_region 11 with (go_at_call 12; with_reducible refine (HPb _).mono ?_; rintro _ w10 ⟨rfl, h10⟩)
    clear p5 q5 p6 q6 p10 q10 p11 q11 p19 q19
    replace A5 := A5.kept h10
    replace A6 := A6.kept h10
    replace A10 := A10.kept h10
    replace A11 := A11.kept h10
    replace A19 := A19.kept h10
    replace HB := HB.trans (h10.mono HB.size)
    clear h10
    have hb11 := hal (w10) (.cells #[.int .i64 (L : Int), .int .u64 (I : Int)] 25)
    have A21_ := Arr.new (w10) 25 [.int .i64 (L : Int), .int .u64 (I : Int)]
    replace A5 := A5.kept hb11
    replace A6 := A6.kept hb11
    replace A10 := A10.kept hb11
    replace A11 := A11.kept hb11
    replace A19 := A19.kept hb11
    replace HB := HB.trans (hb11.mono HB.size)
    have A21 := A21_
    clear hb11 A21_
    generalize hg21 : w10.heap.size = g21 at *
    generalize w10.alloc (.cells #[.int .i64 (L : Int), .int .u64 (I : Int)] 25) = w11 at *
    clear hg21
    obtain ⟨p5, q5⟩ := A5.two
    obtain ⟨p6, q6⟩ := A6.two
    obtain ⟨p10, q10⟩ := A10.two
    obtain ⟨p11, q11⟩ := A11.two
    obtain ⟨p19, q19⟩ := A19.two
    obtain ⟨p21, q21⟩ := A21.two
    go_upto_region 12 with (go_at_call 14; with_reducible refine (HSa _).mono ?_; rintro _ w12 ⟨rfl, h12⟩)
    clear p5 q5 p6 q6 p10 q10 p11 q11 p19 q19 p21 q21
    replace A5 := A5.kept h12
    replace A6 := A6.kept h12
    replace A10 := A10.kept h12
    replace A11 := A11.kept h12
    replace A19 := A19.kept h12
    replace A21 := A21.kept h12
    replace HB := HB.trans (h12.mono HB.size)
    clear h12
    have hb13 := hal (w12) (.cells #[.int .i64 (M : Int), .int .u64 (K : Int)] 25)
    have A23_ := Arr.new (w12) 25 [.int .i64 (M : Int), .int .u64 (K : Int)]
    replace A5 := A5.kept hb13
    replace A6 := A6.kept hb13
    replace A10 := A10.kept hb13
    replace A11 := A11.kept hb13
    replace A19 := A19.kept hb13
    replace A21 := A21.kept hb13
    replace HB := HB.trans (hb13.mono HB.size)
    have A23 := A23_
    clear hb13 A23_
    generalize hg23 : w12.heap.size = g23 at *
    generalize w12.alloc (.cells #[.int .i64 (M : Int), .int .u64 (K : Int)] 25) = w13 at *
    clear hg23
    obtain ⟨p5, q5⟩ := A5.two
    obtain ⟨p6, q6⟩ := A6.two
    obtain ⟨p10, q10⟩ := A10.two
    obtain ⟨p11, q11⟩ := A11.two
    obtain ⟨p19, q19⟩ := A19.two
    obtain ⟨p21, q21⟩ := A21.two
    obtain ⟨p23, q23⟩ := A23.two
    go_upto_region 13 with (go_at_call 14; with_reducible refine (HSb _).mono ?_; rintro _ w14 ⟨rfl, h14⟩)
    clear p5 q5 p6 q6 p10 q10 p11 q11 p19 q19 p21 q21 p23 q23
    replace A5 := A5.kept h14
    replace A6 := A6.kept h14
    replace A10 := A10.kept h14
    replace A11 := A11.kept h14
    replace A19 := A19.kept h14
    replace A21 := A21.kept h14
    replace A23 := A23.kept h14
    replace HB := HB.trans (h14.mono HB.size)
    clear h14
    have hb15 := hal (w14) (.cells #[.int .i64 (M : Int), .int .u64 (J : Int)] 25)
    have A25_ := Arr.new (w14) 25 [.int .i64 (M : Int), .int .u64 (J : Int)]
    replace A5 := A5.kept hb15
    replace A6 := A6.kept hb15
    replace A10 := A10.kept hb15
    replace A11 := A11.kept hb15
    replace A19 := A19.kept hb15
    replace A21 := A21.kept hb15
    replace A23 := A23.kept hb15
    replace HB := HB.trans (hb15.mono HB.size)
    have A25 := A25_
    clear hb15 A25_
    generalize hg25 : w14.heap.size = g25 at *
    generalize w14.alloc (.cells #[.int .i64 (M : Int), .int .u64 (J : Int)] 25) = w15 at *
    clear hg25
    obtain ⟨p5, q5⟩ := A5.two
    obtain ⟨p6, q6⟩ := A6.two
    obtain ⟨p10, q10⟩ := A10.two
    obtain ⟨p11, q11⟩ := A11.two
    obtain ⟨p19, q19⟩ := A19.two
    obtain ⟨p21, q21⟩ := A21.two
    obtain ⟨p23, q23⟩ := A23.two
    obtain ⟨p25, q25⟩ := A25.two
    go_upto_region 15 with (first
      | (go_at_call 22; with_reducible refine (HBa _).mono ?_; rintro _ z0 ⟨rfl, hz0⟩; replace A5 := A5.kept hz0; replace A6 := A6.kept hz0; replace A10 := A10.kept hz0; replace A11 := A11.kept hz0; replace HB := HB.trans (hz0.mono HB.size); obtain ⟨z0p5, z0q5⟩ := A5.two; obtain ⟨z0p6, z0q6⟩ := A6.two; obtain ⟨z0p10, z0q10⟩ := A10.two; obtain ⟨z0p11, z0q11⟩ := A11.two)
      | (go_at_call 22; with_reducible refine (HBb _).mono ?_; rintro _ z1 ⟨rfl, hz1⟩; replace A5 := A5.kept hz1; replace A6 := A6.kept hz1; replace A10 := A10.kept hz1; replace A11 := A11.kept hz1; replace HB := HB.trans (hz1.mono HB.size); obtain ⟨z1p5, z1q5⟩ := A5.two; obtain ⟨z1p6, z1q6⟩ := A6.two; obtain ⟨z1p10, z1q10⟩ := A10.two; obtain ⟨z1p11, z1q11⟩ := A11.two)
      | (go_at_call 22; with_reducible refine (HBab _).mono ?_; rintro _ z2 ⟨rfl, hz2⟩; replace A5 := A5.kept hz2; replace A6 := A6.kept hz2; replace A10 := A10.kept hz2; replace A11 := A11.kept hz2; replace HB := HB.trans (hz2.mono HB.size); obtain ⟨z2p5, z2q5⟩ := A5.two; obtain ⟨z2p6, z2q6⟩ := A6.two; obtain ⟨z2p10, z2q10⟩ := A10.two; obtain ⟨z2p11, z2q11⟩ := A11.two))
    clear p5 q5 p6 q6 p10 q10 p11 q11 p19 q19 p21 q21 p23 q23 p25 q25 A10 A11 A19 A21 A23 A25
    obtain ⟨p5, q5⟩ := A5.two
    obtain ⟨p6, q6⟩ := A6.two
    go_upto_region 16 with (go_at_call 10; with_reducible refine (HLm _).mono ?_; rintro _ w16 ⟨rfl, h16⟩)
    clear p5 q5 p6 q6
    replace A5 := A5.kept h16
    replace A6 := A6.kept h16
    replace HB := HB.trans (h16.mono HB.size)
    clear h16
    rcases HV.out with ⟨hE, hv⟩ | ⟨hE, hlm, hv⟩ | ⟨hE, hlm, c1, hv⟩ | ⟨hE, hlm, c1, c2, hv⟩ | ⟨hE, hlm, c1, c2, hv⟩
    · subst hE
      rw [hv] at HBn
      clear hv
      go_wp2_with (first
        | (go_at_call 18; refine (awake_any _).mono ?_; rintro _ y1 ⟨rfl, hy1⟩; replace A5 := A5.kept hy1; replace A6 := A6.kept hy1; replace HB := HB.trans (hy1.mono HB.size); obtain ⟨r5, s5⟩ := A5.two; obtain ⟨r6, s6⟩ := A6.two)
        | (go_at_call 22; with_reducible refine (HBn _).mono ?_; rintro _ y2 ⟨rfl, hy2⟩; replace A5 := A5.kept hy2; replace A6 := A6.kept hy2; replace HB := HB.trans (hy2.mono HB.size); obtain ⟨r7, s7⟩ := A5.two; obtain ⟨r8, s8⟩ := A6.two))
      go_ret
      exact ⟨rfl, HS.out ▸ HB⟩
    · subst hE
      rw [hv] at HBn
      clear hv
      go_wp2_with (first
        | (go_at_call 18; refine (awake_any _).mono ?_; rintro _ y1 ⟨rfl, hy1⟩; replace A5 := A5.kept hy1; replace A6 := A6.kept hy1; replace HB := HB.trans (hy1.mono HB.size); obtain ⟨r5, s5⟩ := A5.two; obtain ⟨r6, s6⟩ := A6.two)
        | (go_at_call 22; with_reducible refine (HBn _).mono ?_; rintro _ y2 ⟨rfl, hy2⟩; replace A5 := A5.kept hy2; replace A6 := A6.kept hy2; replace HB := HB.trans (hy2.mono HB.size); obtain ⟨r7, s7⟩ := A5.two; obtain ⟨r8, s8⟩ := A6.two))
      go_ret
      exact ⟨rfl, HS.out ▸ HB⟩
    · subst hE
      rw [hv] at HBn
      clear hv
      go_wp2_with (first
        | (go_at_call 18; refine (awake_any _).mono ?_; rintro _ y1 ⟨rfl, hy1⟩; replace A5 := A5.kept hy1; replace A6 := A6.kept hy1; replace HB := HB.trans (hy1.mono HB.size); obtain ⟨r5, s5⟩ := A5.two; obtain ⟨r6, s6⟩ := A6.two)
        | (go_at_call 22; with_reducible refine (HBn _).mono ?_; rintro _ y2 ⟨rfl, hy2⟩; replace A5 := A5.kept hy2; replace A6 := A6.kept hy2; replace HB := HB.trans (hy2.mono HB.size); obtain ⟨r7, s7⟩ := A5.two; obtain ⟨r8, s8⟩ := A6.two))
      go_ret
      exact ⟨rfl, HS.out ▸ HB⟩
    · subst hE
      rw [hv] at HBn
      clear hv
      go_wp2_with (first
        | (go_at_call 18; refine (awake_any _).mono ?_; rintro _ y1 ⟨rfl, hy1⟩; replace A5 := A5.kept hy1; replace A6 := A6.kept hy1; replace HB := HB.trans (hy1.mono HB.size); obtain ⟨r5, s5⟩ := A5.two; obtain ⟨r6, s6⟩ := A6.two)
        | (go_at_call 22; with_reducible refine (HBn _).mono ?_; rintro _ y2 ⟨rfl, hy2⟩; replace A5 := A5.kept hy2; replace A6 := A6.kept hy2; replace HB := HB.trans (hy2.mono HB.size); obtain ⟨r7, s7⟩ := A5.two; obtain ⟨r8, s8⟩ := A6.two))
      go_ret
      exact ⟨rfl, HS.out ▸ HB⟩
    · subst hE
      rw [hv] at HBn
      clear hv
      go_wp2_with (first
        | (go_at_call 18; refine (awake_any _).mono ?_; rintro _ y1 ⟨rfl, hy1⟩; replace A5 := A5.kept hy1; replace A6 := A6.kept hy1; replace HB := HB.trans (hy1.mono HB.size); obtain ⟨r5, s5⟩ := A5.two; obtain ⟨r6, s6⟩ := A6.two)
        | (go_at_call 22; with_reducible refine (HBn _).mono ?_; rintro _ y2 ⟨rfl, hy2⟩; replace A5 := A5.kept hy2; replace A6 := A6.kept hy2; replace HB := HB.trans (hy2.mono HB.size); obtain ⟨r7, s7⟩ := A5.two; obtain ⟨r8, s8⟩ := A6.two))
      go_ret
      exact ⟨rfl, HS.out ▸ HB⟩

theorem Tree_law (l i m j : Int) (w : World) (hi : 0 ≤ i) (hj : 0 ≤ j) :
    Calls Try.prog 6 #[.agg #[.int .i64 l, .int .u64 i], .agg #[.int .i64 m, .int .u64 j]] w fun e w' => e = .returned (.bool true) ∧ Below w.heap.size w w' := by
  cases hm : mayB l i with
  | false => exact Tree_no l i m j w hi hj hm
  | true =>
    obtain ⟨L, I, hl, hI, hL, -, hb, -⟩ := mayB_cases l i hi hm
    by_cases h : L = 0
    · exact Tree_leaf l i L I hl hI m j w hj hb h
    · exact Tree_deep l i L I hl hI m j w hj hb hL (by omega)
end Go.Proofs.Ytbhmgkpkagjmnaa
