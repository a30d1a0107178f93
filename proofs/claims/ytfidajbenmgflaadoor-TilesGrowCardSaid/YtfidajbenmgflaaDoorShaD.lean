/-
  Package sha: a block that goes in. Conditions: those in each statement.
-/
import Derived.Test.YtfidajbenmgflaaDoorShaC
import Derived.Test.YtfidajbenmgflaaDoorReg
import Derived.Deep.QuietTactic
namespace Go.Proofs.YtfidajbenmgflaaDoor
open Go.RowKit

theorem K64_len : K64.length = 64 := by decide
theorem below_drewN {B : Nat} {a w : World} (h : Below B a w) (n : Nat) : Below B a (w.drewN n) := ⟨h.os, h.tape, h.output, h.size, h.block⟩
theorem size64b : (Tryd.prog.info? 108).map (·.size) = some 64 := by kernel_rfl
abbrev PT (g : Nat) : Value := .pointer (some ⟨g, 0, none⟩)
structure Inv1 (s : R8) (xs : List UInt8) (S : List UInt32) (g1 g2 g3 : Nat) (w : World) (L : Nat → Bool) (v5 v6 v18 v19 v20 : Value) (wx : World) : Prop where
  t18 : L 0 = true → v18 = .agg (qs K64).toArray
  t19 : L 1 = true → v19 = .agg (bvs xs).toArray
  t20 : L 2 = true → v20 = .agg (qs S).toArray
  t5 : L 3 = true → ∃ g, v5 = PT g ∧ g3 < g ∧ Arr wx g 132 (if L 5 then qs K64 else qs (Z 64))
  t6 : L 4 = true → ∃ g, v6 = PT g ∧ g3 < g ∧ Arr wx g 132 (if L 6 then qs S else qs (Z 64))
  c5 : L 5 = true → L 3 = true
  c6 : L 6 = true → L 4 = true
  ne : L 3 = true → L 4 = true → v5 ≠ v6
  a1 : Arr wx g1 105 (qs s.list)
  a2 : Arr wx g2 108 (bvs xs)
  a3 : Arr wx g3 105 (qs (Z 8))
  g13 : g1 < g3
  g23 : g2 < g3
  bl : Below g1 w wx

def frame1 (s : R8) (xs : List UInt8) (g1 g2 g3 : Nat) (v5 v6 v18 v19 v20 : Value) : Act := ⟨#[.agg (qs s.list).toArray, .agg (bvs xs).toArray, PT g1, PT g2, PT g3, v5, v6, undef, undef, undef, undef, undef, undef, undef, undef, undef, undef, undef, v18, v19, v20, undef, undef, undef, undef, undef, undef, undef, undef, undef, undef, undef, undef, undef, undef, undef, undef, undef, undef, undef, undef, undef, undef, undef, undef, undef, undef, undef, undef, undef, undef, undef, undef, undef, undef, undef, undef, undef, undef, undef, undef, undef, undef, undef, undef, undef, undef, undef, undef, undef, undef, undef, undef, undef, undef, undef, undef, undef, undef, undef, undef, undef, undef, undef, undef, undef, undef, undef, undef, undef, undef, undef, undef, undef, undef, undef, undef, undef, undef, undef, undef, undef, undef, undef, undef, undef, undef, undef, undef, undef, undef, undef, undef, undef, undef, undef, undef, undef, undef, undef, undef, undef, undef, undef, undef, undef, undef, undef, undef, undef, undef, undef, undef], []⟩

set_option maxRecDepth 100000 in
set_option maxHeartbeats 1600000 in
set_option maxRecDepth 100000 in
theorem goIn_any (s : R8) (xs : List UInt8) (hx : xs.length = 64) (w : World) : Calls Tryd.prog 58 #[.agg (qs s.list).toArray, .agg (bvs xs).toArray] w (Tab (blk s xs).list w) := by
  have hnum := numbers_any xs hx
  have hsl := sched_len xs
  generalize hS : sched xs = S at *
  have HS := Lib.hid hS
  have HN := Lib.hid hnum
  have HSL := Lib.hid hsl
  have HX := Lib.hid hx
  clear hx hS hnum hsl
  go_enter Tryd.func58, Tryd.ntmps58
  go_upto_region 1 with (first
    | ((with_reducible show wpList _ _ _ (⟨some 2, .box _ _, _, _, _, _⟩ :: _) _ _); refine wl_box rfl 105 _ rfl (qs s.list) rfl ?_; intro w1 hA1 hb1 hs1)
    | ((with_reducible show wpList _ _ _ (⟨some 3, .box _ _, _, _, _, _⟩ :: _) _ _); refine wl_box rfl 108 _ rfl (bvs xs) rfl ?_; intro w2 hA2 hb2 hs2)
    | ((with_reducible show wpList _ _ _ (⟨some 4, .alloc _, _, _, _, _⟩ :: _) _ _); refine wl_alloc rfl 105 rfl (qs (Z 8)) 8 info8 ?_; intro w3 hA3 hb3 hs3))
  generalize h1 : w.heap.size = g1 at *
  generalize h2 : w1.heap.size = g2 at *
  generalize h3 : w2.heap.size = g3 at *
  have G1 := Lib.hid h1
  have G2 := Lib.hid h2
  have G3 := Lib.hid h3
  clear h1 h2 h3
  have hB3 : Below g1 w w3 := hb1.trans ((hb2.mono (Nat.le_of_lt hs1)).trans (hb3.mono (by omega)))
  have hX3 : Arr w3 g1 105 (qs s.list) := (hA1.to hb2 hs1).to hb3 (by omega)
  have hR3 : Arr w3 g2 108 (bvs xs) := hA2.to hb3 hs2
  clear hA1 hA2 hb1 hb2 hb3
  refine wp_region_steps [[], [], [1, 0], [], [], [3, 0, 2, 4], [4, 2, 5, 3]] (by kernel_rfl) (by kernel_rfl) (fun L a wx => ∃ v5 v6 v18 v19 v20, a = frame1 s xs g1 g2 g3 v5 v6 v18 v19 v20 ∧ Inv1 s xs S g1 g2 g3 w L v5 v6 v18 v19 v20 wx) ?_ ⟨?_, ?_, ?_, ?_, ?_, ?_, ?_, trivial⟩ ?_
  · refine ⟨_, _, _, _, _, rfl, ⟨?_, ?_, ?_, ?_, ?_, ?_, ?_, ?_, hX3.drew, hR3.drew, hA3.drew, by omega, by omega, hB3.drew⟩⟩ <;> (intro h; exact absurd h (by decide))
  · as_aux_lemma =>
    rintro L a wx ⟨v5, v6, v18, v19, v20, rfl, hI⟩ hL hdep _ K hK
    go_simp
    refine (consts_any _).mono ?_
    rintro e w' ⟨rfl, hb⟩
    refine hK _ _ ⟨v5, v6, _, v19, v20, rfl, ⟨fun _ => rfl, hI.t19, hI.t20, fun h => ?_, fun h => ?_, hI.c5, hI.c6, hI.ne, hI.a1.kept hb, hI.a2.kept hb, hI.a3.kept hb, hI.g13, hI.g23, hI.bl.trans (hb.mono (Nat.le_of_lt hI.a1.lt))⟩⟩
    · obtain ⟨g, e, h1, h2⟩ := hI.t5 h
      exact ⟨g, e, h1, h2.kept hb⟩
    · obtain ⟨g, e, h1, h2⟩ := hI.t6 h
      exact ⟨g, e, h1, h2.kept hb⟩
  · as_aux_lemma =>
    rintro L a wx ⟨v5, v6, v18, v19, v20, rfl, hI⟩ hL hdep _ K hK
    refine ow_load 108 _ rfl g2 0 rfl 108 (bvs xs) (bvs xs) hI.a2 (fun j v h => by rw [Nat.zero_add]; exact h) (.array 64 5) Tryd.underlying108 rfl (by rw [bvs_len, HX.out]; exact size64b) ?_
    exact hK _ _ ⟨v5, v6, v18, _, v20, rfl, ⟨hI.t18, fun _ => rfl, hI.t20, hI.t5, hI.t6, hI.c5, hI.c6, hI.ne, hI.a1, hI.a2, hI.a3, hI.g13, hI.g23, hI.bl⟩⟩
  · as_aux_lemma =>
    rintro L a wx ⟨v5, v6, v18, v19, v20, rfl, hI⟩ hL hdep _ K hK
    obtain rfl := hI.t19 (hdep 1 (by decide))
    go_simp
    refine (HN.out _).mono ?_
    rintro e w' ⟨rfl, hb⟩
    refine hK _ _ ⟨v5, v6, v18, _, _, rfl, ⟨hI.t18, fun _ => rfl, fun _ => rfl, fun h => ?_, fun h => ?_, hI.c5, hI.c6, hI.ne, hI.a1.kept hb, hI.a2.kept hb, hI.a3.kept hb, hI.g13, hI.g23, hI.bl.trans (hb.mono (Nat.le_of_lt hI.a1.lt))⟩⟩
    · obtain ⟨g, e, h1, h2⟩ := hI.t5 h
      exact ⟨g, e, h1, h2.kept hb⟩
    · obtain ⟨g, e, h1, h2⟩ := hI.t6 h
      exact ⟨g, e, h1, h2.kept hb⟩
  · as_aux_lemma =>
    rintro L a wx ⟨v5, v6, v18, v19, v20, rfl, hI⟩ hL hdep _ K hK
    refine ow_alloc 132 rfl (qs (Z 64)) 64 info64 ?_
    intro w' hA hb hs
    refine hK _ _ ⟨_, v6, v18, v19, v20, rfl, ⟨hI.t18, hI.t19, hI.t20, fun _ => ⟨_, rfl, hI.a3.lt, ?_⟩, fun h => ?_, fun _ => rfl, hI.c6, fun _ h e => ?_, hI.a1.kept hb, hI.a2.kept hb, hI.a3.kept hb, hI.g13, hI.g23, hI.bl.trans (hb.mono (Nat.le_of_lt hI.a1.lt))⟩⟩
    · have : stepL L 3 5 = false := by
        cases h : L 5 with
        | false => exact h
        | true => exact absurd ((hI.c5 h).symm.trans hL) (by decide)
      rw [this]
      exact hA
    · obtain ⟨g, e, h1, h2⟩ := hI.t6 h
      exact ⟨g, e, h1, h2.kept hb⟩
    · obtain ⟨g, e2, h1, h2⟩ := hI.t6 h
      rw [e2] at e
      have := h2.lt
      injection e with e
      injection e with e
      injection e with e
      omega
  · as_aux_lemma =>
    rintro L a wx ⟨v5, v6, v18, v19, v20, rfl, hI⟩ hL hdep _ K hK
    refine ow_alloc 132 rfl (qs (Z 64)) 64 info64 ?_
    intro w' hA hb hs
    refine hK _ _ ⟨v5, _, v18, v19, v20, rfl, ⟨hI.t18, hI.t19, hI.t20, fun h => ?_, fun _ => ⟨_, rfl, hI.a3.lt, ?_⟩, hI.c5, fun _ => rfl, fun h _ e => ?_, hI.a1.kept hb, hI.a2.kept hb, hI.a3.kept hb, hI.g13, hI.g23, hI.bl.trans (hb.mono (Nat.le_of_lt hI.a1.lt))⟩⟩
    · obtain ⟨g, e, h1, h2⟩ := hI.t5 h
      exact ⟨g, e, h1, h2.kept hb⟩
    · have : stepL L 4 6 = false := by
        cases h : L 6 with
        | false => exact h
        | true => exact absurd ((hI.c6 h).symm.trans hL) (by decide)
      rw [this]
      exact hA
    · obtain ⟨g, e2, h1, h2⟩ := hI.t5 h
      rw [e2] at e
      have := h2.lt
      injection e with e
      injection e with e
      injection e with e
      omega
  · as_aux_lemma =>
    rintro L a wx ⟨v5, v6, v18, v19, v20, rfl, hI⟩ hL hdep _ K hK
    have hL5 : L 5 = false := hL
    obtain rfl := hI.t18 (hdep 0 (by decide))
    obtain ⟨g, rfl, h1, h2⟩ := hI.t5 (hdep 3 (by decide))
    rw [hL5] at h2
    refine ow_store 132 _ _ rfl g 0 rfl (qs K64) rfl 132 _ h2 (by rw [size64]; rfl) (by decide) (qs_one _) ?_
    intro w' hA hg hs
    rw [whole_store _ _ (by rfl)] at hA
    refine hK _ _ ⟨_, v6, _, v19, v20, rfl, ⟨hI.t18, hI.t19, hI.t20, fun _ => ⟨_, rfl, h1, hA⟩, fun h => ?_, fun _ => hdep 3 (by decide), hI.c6, hI.ne, hI.a1.grown hg (by intro e; injection e with e; have := hI.a1.lt; have := hI.g13; omega), hI.a2.grown hg (by intro e; injection e with e; have := hI.g23; omega), hI.a3.grown hg (by intro e; injection e with e; omega), hI.g13, hI.g23, hI.bl.grown hg (Nat.le_of_lt hI.a1.lt) (by intro k e; injection e with e; have := hI.g13; omega)⟩⟩
    obtain ⟨g', e', h1', h2'⟩ := hI.t6 h
    refine ⟨g', e', h1', h2'.grown hg ?_⟩
    intro e
    injection e with e
    subst e
    exact hI.ne (hdep 3 (by decide)) h e'.symm
  · as_aux_lemma =>
    rintro L a wx ⟨v5, v6, v18, v19, v20, rfl, hI⟩ hL hdep _ K hK
    have hL6 : L 6 = false := hL
    obtain rfl := hI.t20 (hdep 2 (by decide))
    obtain ⟨g, rfl, h1, h2⟩ := hI.t6 (hdep 4 (by decide))
    rw [hL6] at h2
    refine ow_store 132 _ _ rfl g 0 rfl (qs S) rfl 132 _ h2 (by rw [qs_len, HSL.out]; exact size64) (by rw [qs_len, HSL.out]; exact (by decide : 0 + 64 ≤ (qs (Z 64)).length)) (qs_one _) ?_
    intro w' hA hg hs
    rw [whole_store _ _ (by rw [qs_len S, HSL.out]; rfl)] at hA
    refine hK _ _ ⟨v5, _, v18, v19, _, rfl, ⟨hI.t18, hI.t19, hI.t20, fun h => ?_, fun _ => ⟨_, rfl, h1, hA⟩, hI.c5, fun _ => hdep 4 (by decide), hI.ne, hI.a1.grown hg (by intro e; injection e with e; have := hI.a1.lt; have := hI.g13; omega), hI.a2.grown hg (by intro e; injection e with e; have := hI.g23; omega), hI.a3.grown hg (by intro e; injection e with e; omega), hI.g13, hI.g23, hI.bl.grown hg (Nat.le_of_lt hI.a1.lt) (by intro k e; injection e with e; have := hI.g13; omega)⟩⟩
    obtain ⟨g', e', h1', h2'⟩ := hI.t5 h
    refine ⟨g', e', h1', h2'.grown hg ?_⟩
    intro e
    injection e with e
    subst e
    exact hI.ne h (hdep 4 (by decide)) e'
  · rintro a wx ⟨v5, v6, v18, v19, v20, rfl, hI⟩
    obtain ⟨g5, rfl, h5, hK5⟩ := hI.t5 rfl
    obtain ⟨g6, rfl, h6, hW6⟩ := hI.t6 rfl
    have hN := hI.a1
    have hR := hI.a3
    have hB := hI.bl
    simp only [if_true] at hK5 hW6
    clear hI hX3 hR3 hA3 hB3
    unfold frame1
    have n0 : wx.cell? ⟨g1, 0, none⟩ = some (.int .u32 (s.a.toNat : Int)) := hN.cell 0
    have n1 : wx.cell? ⟨g1, 1, none⟩ = some (.int .u32 (s.b.toNat : Int)) := hN.cell 1
    have n2 : wx.cell? ⟨g1, 2, none⟩ = some (.int .u32 (s.c.toNat : Int)) := hN.cell 2
    have n3 : wx.cell? ⟨g1, 3, none⟩ = some (.int .u32 (s.d.toNat : Int)) := hN.cell 3
    have n4 : wx.cell? ⟨g1, 4, none⟩ = some (.int .u32 (s.e.toNat : Int)) := hN.cell 4
    have n5 : wx.cell? ⟨g1, 5, none⟩ = some (.int .u32 (s.f.toNat : Int)) := hN.cell 5
    have n6 : wx.cell? ⟨g1, 6, none⟩ = some (.int .u32 (s.g.toNat : Int)) := hN.cell 6
    have n7 : wx.cell? ⟨g1, 7, none⟩ = some (.int .u32 (s.h.toNat : Int)) := hN.cell 7
    go_wp2_with fail
    go_quiet (fail)
    clear n0 n1 n2 n3 n4 n5 n6 n7
    replace hN := hN.drewN nq
    replace hR := hR.drewN nq
    replace hK5 := hK5.drewN nq
    replace hW6 := hW6.drewN nq
    replace hB := below_drewN hB nq
    generalize wx.drewN nq = wq at *
    go_wp2_with fail

    go_loopw [7, 8, 9, 10, 11, 12, 13, 14, 37] (fun a b c d e f g h i wr => ∃ k : Nat, k ≤ 64 ∧ i = .int .i64 k ∧ a = q (s.run S k).a ∧ b = q (s.run S k).b ∧ c = q (s.run S k).c ∧ d = q (s.run S k).d ∧ e = q (s.run S k).e ∧ f = q (s.run S k).f ∧ g = q (s.run S k).g ∧ h = q (s.run S k).h ∧
      Arr wr g1 105 (qs s.list) ∧ Arr wr g3 105 (qs (Z 8)) ∧ Arr wr g5 132 (qs K64) ∧ Arr wr g6 132 (qs S) ∧ Below g1 w wr) (fun _ _ _ _ _ _ _ _ i _ => 64 - (intOf i).toNat)
    case atStart => exact ⟨0, by omega, rfl, rfl, rfl, rfl, rfl, rfl, rfl, rfl, rfl, hN, hR, hK5, hW6, hB⟩
    case round =>
      obtain ⟨k, hk, rfl, rfl, rfl, rfl, rfl, rfl, rfl, rfl, rfl, hN, hR, hK5, hW6, hB⟩ := hrel
      unfold q
      by_cases hlt : k < 64
      · have hs : Hid (s.run S (k + 1) = (s.run S k).step (K64.getD k 0) (S.getD k 0)) := rfl
        have ck := (hK5.cell k).trans (qs_get K64 k (by rw [K64_len]; exact hlt))
        have cw := (hW6.cell k).trans (qs_get S k (by rw [HSL.out]; exact hlt))
        generalize K64.getD k 0 = x at *
        generalize S.getD k 0 = y at *
        generalize s.run S k = t at *
        obtain ⟨a, b, c, d, e, f, g, h⟩ := t
        simp only
        have hc : ((k : Int) < 64) := by omega
        go_upto_if 38 with fail
        go_upto_region 6 with fail
        go_quiet ((go_at_call 83; exact Calls.quiet_of_same ((turn_any _ _ (by simp [turns]) (by omega) _).mono fun _ _ h => ⟨h.1, h.2.symm⟩)))
        clear ck cw
        replace hN := hN.drewN nq
        replace hR := hR.drewN nq
        replace hK5 := hK5.drewN nq
        replace hW6 := hW6.drewN nq
        replace hB := below_drewN hB nq
        generalize wr.drewN nq = wq at *
        go_wp2_with (go_at_call 83; refine (turn_any _ _ (by simp [turns]) (by omega) _).mono ?_; rintro e w' ⟨rfl, rfl⟩)
        go_roundw
        case rel =>
          refine ⟨k + 1, by omega, by go_num, ?_, ?_, ?_, ?_, ?_, ?_, ?_, ?_, hN, hR, hK5, hW6, hB⟩ <;> rw [hs.out]
          · exact congrArg (Value.int .u32) (step_a a b c d e f g h x y)
          · rfl
          · rfl
          · rfl
          · exact congrArg (Value.int .u32) (step_e a b c d e f g h x y)
          · rfl
          · rfl
          · rfl
        case measure => simp [intOf]; omega
      · have hk64 : k = 64 := by omega
        have hfin : (blk s xs).list = (s.add (s.run S k)).list := by rw [hk64, blk_list, HS.out]
        have HF := Lib.hid hfin
        clear hfin hk64
        have hc : ¬ ((k : Int) < 64) := by omega
        generalize s.run S k = t at *
        have n0 : wr.cell? ⟨g1, 0, none⟩ = some (.int .u32 (s.a.toNat : Int)) := hN.cell 0
        have n1 : wr.cell? ⟨g1, 1, none⟩ = some (.int .u32 (s.b.toNat : Int)) := hN.cell 1
        have n2 : wr.cell? ⟨g1, 2, none⟩ = some (.int .u32 (s.c.toNat : Int)) := hN.cell 2
        have n3 : wr.cell? ⟨g1, 3, none⟩ = some (.int .u32 (s.d.toNat : Int)) := hN.cell 3
        have n4 : wr.cell? ⟨g1, 4, none⟩ = some (.int .u32 (s.e.toNat : Int)) := hN.cell 4
        have n5 : wr.cell? ⟨g1, 5, none⟩ = some (.int .u32 (s.f.toNat : Int)) := hN.cell 5
        have n6 : wr.cell? ⟨g1, 6, none⟩ = some (.int .u32 (s.g.toNat : Int)) := hN.cell 6
        have n7 : wr.cell? ⟨g1, 7, none⟩ = some (.int .u32 (s.h.toNat : Int)) := hN.cell 7
        clear hlt hk hK5 hW6 hN
        go_upto_if 38 with fail
        go_upto_region 10 with fail
        go_wp2_with ((with_reducible show wpList _ _ _ (⟨none, .store _ _ _, _, _, _, _⟩ :: _) _ _); refine wl_store rfl 105 _ _ rfl g3 0 rfl (raw8 s t) rfl 105 _ hR (by rw [size8]; rfl) (show 0 + 8 ≤ 8 from Nat.le_refl 8) (raw8_one s t) ?_; intro w5 hA5 hg5 hs5)
        refine end_cell rfl g3 105 (raw8 s t) (.array 8 104) rfl ?_ Tryd.underlying105 rfl (by rw [size8]; rfl) rfl ⟨by rw [raw8_eq, HF.out], G1.out ▸ hB.grown hg5 (Nat.le_trans (by omega) (Nat.le_of_lt hR.lt)) (by intro k e; cases e; omega)⟩
        rw [whole_store _ _ (by rfl)] at hA5
        exact hA5
end Go.Proofs.YtfidajbenmgflaaDoor
