/-
  The program's Put: the text of any bytes. Conditions: those in each statement.
-/
import Derived.Test.YtpfhbkjjijmpaaaBaseV
namespace Go.Proofs.Ytpfhbkjjijmpaaa
open Go.RowKit Go.Shelf
attribute [local go_sem] Oper.semAt_some

theorem sizeF_nat (n : Nat) (h : n ≤ 140737488351232) : sizeF (n : Int) = (((n + 2) / 3 * 4 : Nat) : Int) := by
  unfold sizeF
  split
  · have : n = 0 := by omega
    subst this
    rfl
  · rw [if_neg (by omega)]
    omega

theorem bu_round {w w2 : World} {g q c : Nat} {ys : List UInt8} (h : Bu w g q c ys) (hb : Below w.heap.size w w2) (o : Obj) : Bu (w2.alloc o) g q c ys := by
  obtain ⟨cur, hcur⟩ := h.row
  have hq := lt_of_block hcur
  have hg := lt_of_block h.blk
  have hs := hb.size
  exact h.kept ((Below.heap_alloc _ _ _ (by omega)).trans (hb.block g hg)) ((Below.heap_alloc _ _ _ (by omega)).trans (hb.block q hq))
set_option maxRecDepth 100000 in
set_option maxHeartbeats 2000000 in
theorem Put_any (a : Option Addr) (n cap : Nat) (xs : List UInt8) (w : World) (hm : n ≤ 140737488351232) (hr : Rd w a n cap xs) :
    Calls Try.prog 10 #[.slice a n cap] w fun e w' => e = .returned (.string (bstr (putF xs))) ∧ Below w.heap.size w w' := by
  refine (callsIn_wide (n := 4)).1 ?_
  have hn := hr.len
  have hsz := fun w => Size_any (n : Int) w (by omega) (by omega)
  rw [sizeF_nat n hm] at hsz
  obtain ⟨S, hS⟩ : ∃ S, S = (n + 2) / 3 * 4 := ⟨_, rfl⟩
  rw [← hS] at hsz
  have HSZ := Lib.hid hsz
  have HS := Lib.hid hS
  clear hsz
  have hSl : S ≤ 281474976710656 := by omega
  clear hS
  refine callsIn_of_wp_marks Try.func10 rfl trivial ?_ rfl
  simp only [Try.ntmps10, List.size_toArray, List.length_cons, List.length_nil, Nat.reduceAdd, Nat.reduceSub, Array.replicate_succ, Array.replicate_zero, List.push_toArray, List.append_toArray, List.nil_append, List.cons_append]
  gi_wp2_with (first
    | (refine ⟨trivial, ?_⟩; gi_at_call 11; refine (callsIn_wide.2 (HSZ.out _)).mono ?_; rintro e w' ⟨rfl, hw⟩; obtain rfl := hw.symm)
    | (refine ⟨trivial, ?_⟩; gi_at_call 16; refine (callsIn_wide.2 (Try.Builder_Grow_fresh_cap w.heap.size w.heap.size S _ (Nat.le_refl _) (heap_alloc_new w _) (by simp) hSl)).mono ?_; rintro e w1 ⟨rfl, ⟨hA1, hb1⟩, hc1⟩)
    | (refine ⟨trivial, ?_⟩; gi_at_call 17; refine (callsIn_wide.2 (parts_any _ _ _ _)).mono ?_; rintro e w2 ⟨rfl, rfl⟩))
  obtain ⟨bb, off, ha⟩ : ∃ bb off, 0 < n → a = some ⟨bb, off, none⟩ ∧ bb < w.heap.size := by
    by_cases h0 : 0 < n
    · obtain ⟨bb, off, e, h1, _⟩ := hr.mem (by have := hr.le; omega)
      exact ⟨bb, off, fun _ => ⟨e, h1⟩⟩
    · exact ⟨0, 0, fun h => absurd h h0⟩
  have hx1 := Boxed.new w1 22 (.slice a n cap)
  have hB0 : Below w.heap.size w w1 := ((Below.refl _ w).alloc (Nat.le_refl _) _).trans hb1
  have hB1 : Below w.heap.size w (w1.alloc (.cells #[.slice a n cap] 22)) := hB0.alloc hB0.size _
  have hA2 : BAt w.heap.size [] (w1.alloc (.cells #[.slice a n cap] 22)) := bat_kept (row := none) hA1 (World.grownBy_alloc _ _ _) (fun r e => by cases e)
  have hg1 : w.heap.size < w1.heap.size := Lib.BuilderAt.lt hA1
  have hR2 : 0 < n → Room (w1.alloc (.cells #[.slice a n cap] 22)) w.heap.size S 0 := fun h0 => by
    obtain ⟨p, c, hc, hcS⟩ := hc1
    have hS4 : 0 < S := by rw [HS.out]; omega
    obtain ⟨_, v, hbk, hown, _⟩ := hA1
    have hv : v = .slice p 0 c := by
      rw [Lib.cell_of_heap hbk] at hc
      exact Option.some.inj hc
    subst hv
    rcases hown.2 with ⟨e, _⟩ | ⟨q, c', cur, e, _⟩
    · injection e with _ _ e3
      omega
    · injection e with e1 e2 e3
      exact ⟨q, c, by rw [Below.cell ((Below.refl w1.heap.size w1).alloc (Nat.le_refl _) _) (p := ⟨w.heap.size, 1, none⟩) hg1, hc, e1], hcS⟩
  have hrW : ∀ W, Below w.heap.size w W → Rd W a n cap xs := fun W h => hr.to h
  have hle := hr.le
  generalize hgd : w.heap.size = g at *
  generalize hxd : w1.heap.size = x at *
  have HG := Lib.hid hgd
  have HX := Lib.hid hxd
  have HRW := Lib.hid hrW
  clear hgd hc1 hA1 hb1 hB0 hr hrW
  refine wpIn_rangeFunc_ownG rfl (by omega) (gf := 26) (lb := #[.pointer (some ⟨x, 0, none⟩)]) rfl trivial (enters_of Try.func26 (by kernel_rfl) rfl)
    (parts_stops 3 (by omega) x bb off n cap a (fun h => (ha h).1) hle (by omega) _ hx1) (fun h k => k.trans h) (fun W l o o' hl _ _ _ => World.putObj_heap_other (by rw [World.size_alloc] at hl; omega)) (Below.refl _ _) (fun _ => rfl)
    (fun pre W => (BAt g (soFar xs pre) W ∧ (0 < n → Room W g S (soFar xs pre).length) ∧ Boxed W x 22 (.slice a n cap)) ∧ Below g w W)
    (fun _ _ _ => False)
    ?own
    (fun _ _ _ _ _ hs _ _ => hs)
    ⟨⟨hA2, hR2, hx1⟩, hB1⟩
    (fun c => { tmps := #[.slice a n cap, undef, .string ⟨#[]⟩, .pointer (some ⟨g, 0, none⟩), .slice (some ⟨bb, off + 3 * c.1, none⟩) (min 3 (n - 3 * c.1)) (cap - 3 * c.1), undef, .slice a n cap, .int .i64 (n : Int), .int .i64 (S : Int), .tuple #[], .slice a n cap, .func (.func 26) #[] #[.pointer (some ⟨x, 0, none⟩)], .slice (some ⟨bb, off + 3 * c.1, none⟩) (min 3 (n - 3 * c.1)) (cap - 3 * c.1), undef, undef, undef, undef, undef], defers := [] }) ?assign ?body ?done ?stop
  case own =>
    refine OwnFrom.and (Own.from (fun s A B row hs hg hr => ⟨bat_kept hs.1 hg hr, fun h0 => ?_, hs.2.2.kept hg ?_⟩) _) (ownFrom_below (Nat.le_of_eq HG.out.symm) (by rw [World.size_alloc]; omega))
    · obtain ⟨q, c, hc, hcS⟩ := hs.2.1 h0
      exact ⟨q, c, cell_kept hc hg hr, hcS⟩
    · intro e
      obtain ⟨o, ho, hc⟩ := hr x e.symm
      rw [show A.heap[x]? = _ from hs.2.2] at ho
      cases ho
      cases hc
  case assign =>
    intro l c W K hK
    unfold partV
    gi_wp2
    exact hK
  case body =>
    rintro l pre c W ⟨⟨hA, hR, hX⟩, hB⟩ hlen
    have h0 : 0 < n := by have := c.2; omega
    obtain ⟨q, cq, hbu, hSc⟩ := bu_of hA (hR h0)
    obtain ⟨rfl, hbbw⟩ := ha h0
    have hrd := HRW.out W (HG.out.symm ▸ hB)
    have hl4 := soFar_len xs hn pre
    have hroom : (soFar xs pre).length + 4 ≤ cq := by
      have := HS.out
      omega
    have HSC := Lib.hid hSc
    have HL4 := Lib.hid hl4
    have HXX := Lib.hid hX
    have HBB := Lib.hid hB
    clear hSc hl4 hX hB hA hR
    gi_wp2_with (first
      | (refine ⟨trivial, ?_⟩; gi_at_call 18; refine (CallsIn.inRound l (callsIn_wide.2 (letters4 hrd c))).mono ?_; rintro e w2 ⟨⟨l0, l1, l2, l3, hp, rfl⟩, hb2⟩)
      | (refine ⟨trivial, ?_⟩; gi_at_call 19; refine (CallsIn.inRound l (callsIn_wide.2 (Write_any g q cq (soFar xs pre) [l0, l1, l2, l3] ⟨w2.heap.size, 0, none⟩ 4 4 _ (bu_round hbu hb2 _) (rd_lit w2 [l0, l1, l2, l3] 51) hroom))).mono ?_; rintro e w4 ⟨rfl, hbu4, w3, hg3, hg4⟩))
    have hxW := Boxed.lt HXX.out
    obtain ⟨cur, hcur⟩ := hbu.row
    have hqW := lt_of_block hcur
    have hgW := lt_of_block hbu.blk
    have hs2 := hb2.size
    have hqx : q ≠ x := by
      intro e
      rw [e, show W.heap[x]? = _ from HXX.out] at hcur
      injection hcur with hcur
      injection hcur with _ h2
      revert h2
      decide
    have hgx : g ≠ x := by omega
    have hqg := hbu.ne
    have keep : ∀ k o, W.heap[k]? = some o → k ≠ q → k ≠ g → w4.heap[k]? = some o := fun k o hk hkq hkg => by
      have hlt : k < W.heap.size := (Array.getElem?_eq_some_iff.1 hk).1
      have h1 := (hb2.block k hlt).trans hk
      have h2 := (Below.heap_alloc w2 (.cells ([l0, l1, l2, l3].map bv).toArray 51) k (by omega)).trans h1
      have h3 := (hg3.block k (by rw [World.size_alloc]; omega) (by intro e; injection e with e; omega)).trans h2
      have h33 := hg3.size
      rw [World.size_alloc] at h33
      exact (hg4.block k (by omega) (by intro e; injection e with e; omega)).trans h3
    have hs4 : W.heap.size ≤ w4.heap.size := by
      have h3 := hg3.size
      have h4 := hg4.size
      rw [World.size_alloc] at h3
      omega
    have hsn := soFar_snoc xs pre c
    rw [hp] at hsn
    have hB4 : Below g w w4 := by
      have hBW := HBB.out
      have e2 := hBW.trans (hb2.mono (by omega))
      have e3 := (e2.alloc (by omega) (.cells ([l0, l1, l2, l3].map bv).toArray 51)).grown hg3 (by rw [World.size_alloc]; omega) (by intro k e; injection e with e; have := (Own.base hbu.own).1; omega)
      exact e3.grown hg4 (by have := hg3.size; rw [World.size_alloc] at this; omega) (by intro k e; injection e with e; omega)
    refine ⟨⟨hs4, fun k o _ hk ho => keep k o hk ?_ ?_⟩, ?_, ⟨⟨?_, fun _ => ?_, ?_⟩, hB4⟩⟩
    · intro e
      rw [e, hcur] at hk
      injection hk with hk
      rw [← hk] at ho
      cases ho
    · intro e
      rw [e, hbu.blk] at hk
      injection hk with hk
      rw [← hk] at ho
      cases ho
    · exact (keep x _ HXX.out hqx.symm hgx.symm).trans (show W.heap[x]? = _ from HXX.out).symm
    · rw [hsn]
      exact hbu4.bat
    · rw [hsn]
      exact hbu4.room HSC.out
    · exact keep x _ HXX.out hqx.symm hgx.symm
  case done =>
    rintro D ys W hD hys ⟨⟨hA, hR, hX⟩, hB⟩ hK
    rw [World.size_alloc] at hD
    have hall : soFar xs ys = putF xs := by
      unfold soFar
      rw [hys, ← hn]
      exact parts_all xs
    rw [hall] at hA
    have hgW : g ≤ W.heap.size := Nat.le_of_lt (Lib.BuilderAt.lt hA)
    have HD : Hid (D ≠ g) := by show _ ≠ _; omega
    clear hall hR hX
    gi_wp2_with (refine ⟨trivial, ?_⟩; gi_at_call 20; refine (callsIn_wide.2 (Try.Builder_String_any_k g g (putF xs) W (.inr (Lib.BuilderAtF.of hA)) hgW)).mono ?_; rintro e W5 ⟨rfl, _, hb5, hk5⟩)
    have hK5 := hk5 D _ hK (fun e => HD.out (by injection e)) (fun c fz e => by cases e)
    refine ⟨by simp, .inl ⟨_, _, rfl, run_takeDeferred hK5, ?_⟩⟩
    exact ⟨_, results_tmp rfl _ _ _, rfl, HG.out.symm ▸ (hB.trans hb5).trans (belowK_b (w := w) (Nat.le_of_eq HG.out.symm) W5 D _ _ (by have := HG.out; omega) hK5 rfl rfl)⟩
  case stop =>
    rintro D c pre W _ _ h _
    exact h.elim
end Go.Proofs.Ytpfhbkjjijmpaaa
