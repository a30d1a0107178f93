/-
  The statements' helper awake. Conditions: those in each statement.
-/
import Derived.Test.YtcohcjhbkiangaaEnK
import Derived.Lib.SlBytesConst
namespace Go.Proofs.Ytcohcjhbkiangaa
open Go.RowKit

/-- the row of a chain, and what its cells read as -/
theorem chn_row {w : World} {B : Nat} {g cap : Nat} {vs : List Value} {xss : List (List UInt8)} (h : w.ownsRow B 27 1 (.slice (some ⟨g, 0, none⟩) vs.length cap) vs.length vs) (hl : vs.length = xss.length) (hc : vs.length ≤ cap)
    (hr : ∀ j, j < vs.length → ∃ aj nj cj, vs[j]? = some (.slice aj nj cj) ∧ Rd w aj nj cj (xss.getD j [])) : Chn w (some ⟨g, 0, none⟩) vs.length cap xss := by
  refine ⟨hl.symm, hc, by (intro e; cases e), fun h0 => ⟨g, 0, rfl, (World.ownsRow.lt h g rfl).2, fun j hj => ?_⟩⟩
  obtain ⟨aj, nj, cj, e, hrd⟩ := hr j hj
  refine ⟨aj, nj, cj, ?_, hrd⟩
  have := World.ownsRow.cellAt h j (by omega)
  rw [Nat.zero_add, this, e]
theorem row_cap {w : World} {B : Nat} {T : TypeId} {g n m cap : Nat} {vs : List Value} (h : w.ownsRow B T 1 (.slice (some ⟨g, 0, none⟩) n cap) m vs) : n = m ∧ n ≤ cap := by
  obtain ⟨_, ⟨e, _⟩ | ⟨g', cap', cur, e, hbb, hg, hn, r⟩⟩ := h
  · cases e
  · injection e with _ e1 e2
    subst e1 e2
    exact ⟨rfl, hn⟩
theorem row_form {w : World} {base size n : Nat} {e : TypeId} {v : Value} {xs : List Value} (h : w.ownsRow base e size v n xs) (hn : 0 < n) : ∃ g cap, v = .slice (some ⟨g, 0, none⟩) n cap := by
  rcases h.2 with ⟨_, h0⟩ | ⟨g, cap, _, hv, _⟩
  · omega
  · exact ⟨g, cap, hv⟩
theorem stamp_awake : stampR 258 [[97, 98]] = ([0, 0, 0, 0, 0, 0, 0, 0, 1, 2, 0, 0, 0, 0, 2, 97, 98, 0, 0], 0) := by decide +kernel
theorem extra_awake1 : extraR [[97, 98]] = ([0, 0, 0], 0) := by decide +kernel
theorem extra_awake2 : extraR [[97, 98], [99]] = ([0, 0, 4, 0, 0, 1, 99], 0) := by decide +kernel

set_option maxRecDepth 100000 in
set_option maxHeartbeats 2000000 in
theorem awake_any (w : World) : Calls Try.prog 26 #[] w fun e w' => e = .returned (.bool true) ∧ Below w.heap.size w w' := by
  have hcv := Lib.run_convert_bytes_const (P := Try.prog) w 27 5 #[.int .u8 97, .int .u8 98] 2 2 Try.underlying27 Try.underlying5
  have F : ∀ W, W = ((w.alloc (.cells #[.int .u8 97, .int .u8 98] 5 (2, 3))).alloc (.cells #[.slice (some ⟨w.heap.size, 0, none⟩) 2 2] 27)).alloc (.cells #[.int .u64 258, .slice (some ⟨w.heap.size + 1, 0, none⟩) 1 1] 25) →
      Below w.heap.size w W ∧ W.heap.size = w.heap.size + 3 ∧ Rd W (some ⟨w.heap.size, 0, none⟩) 2 2 [97, 98] ∧ W.ownsRow (w.heap.size + 1) 27 1 (.slice (some ⟨w.heap.size + 1, 0, none⟩) 1 1) 1 [.slice (some ⟨w.heap.size, 0, none⟩) 2 2] ∧
      Arr W (w.heap.size + 2) 25 [.int .u64 258, .slice (some ⟨w.heap.size + 1, 0, none⟩) 1 1] := by
    rintro W rfl
    refine ⟨((hal w _).alloc (by simp) _).alloc (by simp; omega) _, by simp, ?_, ?_, ?_⟩
    · refine ⟨rfl, Nat.le_refl _, by (intro e; cases e), fun _ => ⟨_, 0, rfl, by simp; omega, fun j hj => ?_⟩⟩
      have hbb : Below (w.heap.size + 1) (w.alloc (.cells #[.int .u8 97, .int .u8 98] 5 (2, 3))) (((w.alloc (.cells #[.int .u8 97, .int .u8 98] 5 (2, 3))).alloc (.cells #[.slice (some ⟨w.heap.size, 0, none⟩) 2 2] 27)).alloc (.cells #[.int .u64 258, .slice (some ⟨w.heap.size + 1, 0, none⟩) 1 1] 25)) := ((Below.refl _ _).alloc (by simp) _).alloc (by simp) _
      rw [hbb.cell (p := ⟨w.heap.size, 0 + j, none⟩) (Nat.lt_succ_self _), World.cell?_alloc_mark]
      have : j = 0 ∨ j = 1 := by omega
      rcases this with rfl | rfl <;> rfl
    · have := World.ownsRow_lit (base := w.heap.size + 1) (e := 27) (size := 1) (w.alloc (.cells #[.int .u8 97, .int .u8 98] 5 (2, 3))) #[.slice (some ⟨w.heap.size, 0, none⟩) 2 2] 1 (by simp) (by decide) (by simp)
      rw [World.size_alloc] at this
      exact row_to this (hal _ _)
    · have := Arr.new ((w.alloc (.cells #[.int .u8 97, .int .u8 98] 5 (2, 3))).alloc (.cells #[.slice (some ⟨w.heap.size, 0, none⟩) 2 2] 27)) 25 [.int .u64 258, .slice (some ⟨w.heap.size + 1, 0, none⟩) 1 1]
      simpa using this
  go_enter Try.func26, Try.ntmps26
  go_wp2_with fail
  obtain ⟨hb0, hs0, hrA, hrow, hE⟩ := F _ rfl
  generalize World.alloc (World.alloc (World.alloc w _) _) _ = W0 at *
  clear F hcv
  have hch : Chn W0 (some ⟨w.heap.size + 1, 0, none⟩) 1 1 [[97, 98]] := chn_row (vs := [.slice (some ⟨w.heap.size, 0, none⟩) 2 2]) hrow rfl (Nat.le_refl _) (fun j hj => by
    obtain rfl : j = 0 := by simpa using hj
    exact ⟨_, _, _, rfl, hrA⟩)
  refine (Leaf_any 258 _ _ _ [[97, 98]] _ (by decide) (by decide) hch).mono ?_
  rw [stamp_awake]
  rintro e w1 ⟨va, rfl, hoa, hb1⟩
  have hE1 := hE.kept hb1
  have e0 := hE1.cell 0
  have e1 := hE1.cell 1
  simp only [List.getElem?_cons_zero, List.getElem?_cons_succ] at e0 e1
  go_wp2_with fail
  refine (Extra_any 258 _ _ _ [[97, 98]] _ (by decide) (hch.to hb1)).mono ?_
  rw [extra_awake1]
  rintro e w2 ⟨vb, rfl, hob, hb2⟩
  have hcv2 := Lib.run_convert_bytes_const (P := Try.prog) w2 27 5 #[.int .u8 99] 1 1 Try.underlying27 Try.underlying5
  have s02 := hb1.trans (hb2.mono hb1.size)
  have hE2 := hE1.kept hb2
  have f0 := hE2.cell 0
  have f1 := hE2.cell 1
  simp only [List.getElem?_cons_zero, List.getElem?_cons_succ] at f0 f1
  clear e0 e1 hE1
  have hWx : ∀ W, W = (w2.alloc (.cells #[.int .u8 99] 5 (1, 2))).alloc (.cells #[.slice (some ⟨w2.heap.size, 0, none⟩) 1 1] 27) → Below w2.heap.size w2 W ∧ W.heap.size = w2.heap.size + 2 ∧ Rd W (some ⟨w2.heap.size, 0, none⟩) 1 1 [99] ∧ W.cell? ⟨w2.heap.size + 1, 0, none⟩ = some (.slice (some ⟨w2.heap.size, 0, none⟩) 1 1) := by
    rintro W rfl
    refine ⟨(hal w2 _).alloc (by simp) _, by simp, ?_, by simp⟩
    refine ⟨rfl, Nat.le_refl _, by (intro e; cases e), fun _ => ⟨_, 0, rfl, by simp; omega, fun j hj => ?_⟩⟩
    obtain rfl : j = 0 := by omega
    have hbb : Below (w2.heap.size + 1) (w2.alloc (.cells #[.int .u8 99] 5 (1, 2))) ((w2.alloc (.cells #[.int .u8 99] 5 (1, 2))).alloc (.cells #[.slice (some ⟨w2.heap.size, 0, none⟩) 1 1] 27)) := (Below.refl _ _).alloc (by simp) _
    rw [hbb.cell (p := ⟨w2.heap.size, 0 + 0, none⟩) (Nat.lt_succ_self _), World.cell?_alloc_mark]
    rfl
  obtain ⟨hx1, hx2, hx3, hx4⟩ := hWx _ rfl
  obtain ⟨i0, hi, hz0, hz1, hz2⟩ := info_parts btC_info
  have s0x := s02.trans (hx1.mono s02.size)
  have hsz2 := s02.size
  have hrowx := row_to hrow s0x
  go_wp2_with (at_builtin; go_loud (refine wpList_append_own _ rfl (.tmp 23) (.tmp 26) 23 rfl (w.heap.size + 1) 27 i0 (.slice none 0 0) 1 24 btC_sl hi hz0 hz1 hz2 rfl (by decide) (.slice (some ⟨w.heap.size + 1, 0, none⟩) 1 1) 1 [.slice (some ⟨w.heap.size, 0, none⟩) 2 2] rfl hrowx ⟨w2.heap.size + 1, 0, none⟩ 1 1 [.slice (some ⟨w2.heap.size, 0, none⟩) 1 1] rfl rfl (fun j u hu => by { cases j with | zero => { simp at hu; subst hu; exact hx4 } | succ j => simp at hu }) (by simp [Value.oneCell']) (by decide) (by decide) (by rw [hx2]; omega) ?_); intro v3 w3 hr3 hg3 hnil; clear hnil; go_loud (obtain ⟨g3, c3, rfl⟩ := row_form hr3 (by decide)); go_loud (have hE3 := (hE2.kept hx1).grown hg3 (by simp [Value.ownBlock])); go_loud (have q1 := hE3.cell 1); have q2 := hE3.frozen 1; go_loud (simp only [List.getElem?_cons_zero, List.getElem?_cons_succ] at q1); have hE4 := hE3.store 1 (.slice (some ⟨g3, 0, none⟩) 2 c3); have r0 := hE4.cell 0; have r1 := hE4.cell 1; simp only [List.set_cons_succ, List.set_cons_zero, List.getElem?_cons_zero, List.getElem?_cons_succ] at r0 r1)
  obtain ⟨_, hcap3⟩ := row_cap hr3
  have hg30 : w.heap.size + 1 ≤ g3 ∧ g3 < w3.heap.size := World.ownsRow.lt hr3 g3 rfl
  have hne : g3 ≠ w.heap.size + 2 := by
    intro e
    obtain ⟨_, ⟨e1, _⟩ | ⟨g', cap', cur, e1, hbb, hg, hn, r⟩⟩ := hr3
    · cases e1
    · injection e1 with e1 _ _
      injection e1 with e1
      injection e1 with e1 _ _
      subst e1
      rw [e] at hg
      unfold Arr at hE3
      rw [hE3] at hg
      injection hg with hg
      injection hg with _ e2 _
      exact absurd e2 (by decide)
  have b03 : Below (w.heap.size + 1) W0 w3 := (s0x.mono (by omega)).grown hg3 (by rw [hx2]; omega) (by intro k hk; cases hk; exact Nat.le_refl _)
  have b04 : Below (w.heap.size + 1) W0 (w3.setCell ⟨w.heap.size + 2, 1, none⟩ (.slice (some ⟨g3, 0, none⟩) 2 c3)) := b03.setCell (by simp) _
  have rA := hrA.below b04 (by intro ad e _; cases e; exact Nat.lt_succ_self _)
  have rB : Rd (w3.setCell ⟨w.heap.size + 2, 1, none⟩ (.slice (some ⟨g3, 0, none⟩) 2 c3)) (some ⟨w2.heap.size, 0, none⟩) 1 1 [99] := by
    refine ⟨rfl, Nat.le_refl _, by (intro e; cases e), fun _ => ⟨_, 0, rfl, ?_, fun j hj => ?_⟩⟩
    · have := hg3.size; simp; omega
    · obtain ⟨b', off', e, -, h3⟩ := hx3.mem (by decide)
      cases e
      have h4 := h3 j hj
      rw [← h4]
      refine World.cell?_of_block (a := ⟨w2.heap.size, 0 + j, none⟩) ?_
      rw [heap_setCell_other _ _ _ _ (by show w2.heap.size ≠ w.heap.size + 2; omega)]
      exact hg3.block w2.heap.size (by rw [hx2]; omega) (by simp [Value.ownBlock]; omega)
  have hch4 : Chn (w3.setCell ⟨w.heap.size + 2, 1, none⟩ (.slice (some ⟨g3, 0, none⟩) 2 c3)) (some ⟨g3, 0, none⟩) 2 c3 [[97, 98], [99]] := by
    refine chn_row (vs := [.slice (some ⟨w.heap.size, 0, none⟩) 2 2, .slice (some ⟨w2.heap.size, 0, none⟩) 1 1]) (B := w.heap.size + 1) ?_ rfl hcap3 (fun j hj => ?_)
    · obtain ⟨h1, ⟨e1, _⟩ | ⟨g', cap', cur, e1, hbb, hg, hn, r⟩⟩ := hr3
      · cases e1
      · refine ⟨h1, .inr ⟨g', cap', cur, e1, hbb, ?_, hn, r⟩⟩
        injection e1 with e1 _ _
        injection e1 with e1
        injection e1 with e1 _ _
        subst e1
        rw [heap_setCell_other _ _ _ _ (by simpa using hne)]
        exact hg
    · have : j = 0 ∨ j = 1 := by have : j < 2 := hj; omega
      rcases this with rfl | rfl
      · exact ⟨_, _, _, rfl, rA⟩
      · exact ⟨_, _, _, rfl, rB⟩
  have hb04 := hb0.trans (b04.mono (by omega))
  refine (Extra_any 258 _ _ _ [[97, 98], [99]] _ (by decide) hch4).mono ?_
  rw [extra_awake2]
  rintro e w5 ⟨vc, rfl, hoc, hb5⟩
  have hb1s := hb1.size
  have hb2s := hb2.size
  have o1 := ((((hoa.to hb2).to hx1).grownLow (r := w.heap.size + 1) hg3 (by omega)).store_old (r := w.heap.size + 2) (o := 1) (u := .slice (some ⟨g3, 0, none⟩) 2 c3) (by omega)).to hb5
  have o2 := ((((hob.to hx1).grownLow (r := w.heap.size + 1) hg3 (by omega))).store_old (r := w.heap.size + 2) (o := 1) (u := .slice (some ⟨g3, 0, none⟩) 2 c3) (by omega)).to hb5
  obtain ⟨a1, n1, c1, rfl, p1⟩ := o1.reads
  obtain ⟨a2, n2, c2, rfl, p2⟩ := o2.reads
  obtain ⟨a5, n5, c5, rfl, p5⟩ := hoc.reads
  have t1 := run_bstr bt Try.underlying9 p1.toRd
  have t2 := run_bstr bt Try.underlying9 p2.toRd
  have t5 := run_bstr bt Try.underlying9 p5.toRd
  clear p1 p2 p5 o1 o2 hoa hob hoc hrA hrow hE hch hE2 hrowx hr3 hE3 hE4 q1 q2 r0 r1 rA rB hch4 f0 f1 hx3 hx4
  have u1 : ((bstr [0, 0, 0, 0, 0, 0, 0, 0, 1, 2, 0, 0, 0, 0, 2, 97, 98, 0, 0]).toList == [0, 0, 0, 0, 0, 0, 0, 0, 1, 2, 0, 0, 0, 0, 2, 97, 98, 0, 0]) = true := by rw [bstr_toList]; decide
  have u2 : ((bstr [0, 0, 0]).toList == [0, 0, 0]) = true := by rw [bstr_toList]; decide
  have u5 : ((bstr [0, 0, 4, 0, 0, 1, 99]).toList == [0, 0, 4, 0, 0, 1, 99]) = true := by rw [bstr_toList]; decide
  have hbe := hb04.trans (hb5.mono hb04.size)
  go_wp2
  go_ret
  exact ⟨rfl, hbe⟩
end Go.Proofs.Ytcohcjhbkiangaa
