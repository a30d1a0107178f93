/-
  The document's examples of entries, and the ends. Conditions: none.
-/
import Derived.Test.YtcohcjhbkiangaaEoD
namespace Go.Proofs.Ytcohcjhbkiangaa
open Go.ChangeShapes Go.WideShapes Go.ChangeAt Go.RowKit

structure KnW (w : World) (X6 X9 X11 X12 X13 T : Nat) (a5 : Option Addr) (c5 : Nat) (a6 : Option Addr) (c6 : Nat) (a9 : Option Addr) (c9 : Nat) (a11 a12 : Option Addr) (c12 : Nat) (a13 : Option Addr) (Z Y : List UInt8) (wr : World) : Prop where
  bw : Below w.heap.size w wr
  h : Rd wr a5 50 c5 (headF 1 2 (List.replicate 32 0))
  x6 : Arr wr X6 25 [.int .u64 (T : Int), .slice a6 4 c6]
  x9 : Arr wr X9 25 [.int .u64 (T : Int), .slice a9 4 c9]
  x11 : Arr wr X11 25 [.int .u64 0, .slice a11 1 1]
  x12 : Arr wr X12 25 [.int .u64 0, .slice a12 5 c12]
  x13 : Arr wr X13 25 [.int .u64 0, .slice a13 2 2]
  h6 : Chn wr a6 4 c6 [Z, Z, Z, Z]
  h9 : Chn wr a9 4 c9 [Z, Z, Z, Z]
  h11 : Chn wr a11 1 1 [Y]
  h13 : Chn wr a13 2 2 [[1], []]
theorem KnW.to {w : World} {X6 X9 X11 X12 X13 T : Nat} {a5 : Option Addr} {c5 : Nat} {a6 : Option Addr} {c6 : Nat} {a9 : Option Addr} {c9 : Nat} {a11 a12 : Option Addr} {c12 : Nat} {a13 : Option Addr} {Z Y : List UInt8} {wr w' : World} (h : KnW w X6 X9 X11 X12 X13 T a5 c5 a6 c6 a9 c9 a11 a12 c12 a13 Z Y wr) (hb : Below wr.heap.size wr w') : KnW w X6 X9 X11 X12 X13 T a5 c5 a6 c6 a9 c9 a11 a12 c12 a13 Z Y w' :=
  ⟨h.bw.trans (hb.mono h.bw.size), h.h.to hb, h.x6.kept hb, h.x9.kept hb, h.x11.kept hb, h.x12.kept hb, h.x13.kept hb, h.h6.to hb, h.h9.to hb, h.h11.to hb, h.h13.to hb⟩
structure InvKn (T : Nat) (Z : List UInt8) (w1 : World) (L : Nat → Bool) (v31 v32 v33 v34 v35 v36 v6 : Value) (wx : World) : Prop where
  t0 : L 0 = true → Own wx w1.heap.size 5 (v31) Z
  t1 : L 1 = true → Own wx w1.heap.size 5 (v32) Z
  t2 : L 2 = true → Own wx w1.heap.size 5 (v33) Z
  t3 : L 3 = true → Own wx w1.heap.size 5 (v34) Z
  t4 : L 4 = true → ∃ a n c, v35 = .slice a n c ∧ OwnC wx w1.heap.size (.slice a n c) [Z, Z, Z, Z]
  t5 : L 5 = true → ∃ a n c, v36 = entV T a n c ∧ OwnC wx w1.heap.size (.slice a n c) [Z, Z, Z, Z]
  t6 : L 6 = true → ∃ X cur, v6 = .pointer (some ⟨X, 0, none⟩) ∧ w1.heap.size ≤ X ∧ Arr wx X 25 cur ∧ cur.length = 2 ∧ (L 7 = true → ∃ a n c, cur = [.int .u64 (T : Int), .slice a n c] ∧ OwnC wx w1.heap.size (.slice a n c) [Z, Z, Z, Z])
  bw : Below w1.heap.size w1 wx

set_option maxRecDepth 100000 in
set_option maxHeartbeats 8000000 in
theorem Known_law (w : World) : Calls Try.prog 8 #[] w fun e w' => e = .returned (.bool true) ∧ Below w.heap.size w w' := by
  obtain ⟨Z, hZ⟩ : ∃ Z : List UInt8, List.replicate 512 0 = Z := ⟨_, rfl⟩
  have HZ := Lib.hid hZ
  have HZl : Hid (Z.length = 512) := by rw [← hZ]; exact List.length_replicate ..
  obtain ⟨Y, hY⟩ : ∃ Y : List UInt8, List.replicate 513 0 = Y := ⟨_, rfl⟩
  have HY := Lib.hid hY
  have HYl : Hid (Y.length = 513) := by rw [← hY]; exact List.length_replicate ..
  obtain ⟨T, hT⟩ : ∃ T : Nat, T = 18446744073709551615 := ⟨_, rfl⟩
  have hTi : Hid ((T : Int) = 18446744073709551615) := by rw [hT]; rfl
  have hTl : T ≤ 18446744073709551615 := by omega
  have HTL := Lib.hid hTl
  clear hZ hY hT hTl
  go_enter Try.func8, Try.ntmps8
  go_wp2_with fail
  refine (Leaf_any 0 none 0 0 [] w (by decide) (by decide) (chn_none w)).mono ?_
  rw [show stampR 0 [] = ([], 1) by decide +kernel]
  rintro e w1 ⟨v1, rfl, -, hb1⟩
  have hs1 := hb1.size
  have HB1 := Lib.hid hb1
  clear hb1
  go_wp2_with fail
  refine (TakeRecord_any none 0 0 [] w1 (by decide) (Rd.none w1)).mono ?_
  rw [take_nil]
  rintro e w2 ⟨a2, n2, c2, rfl, -, hb2⟩
  have HB2 := Lib.hid (HB1.out.trans (hb2.mono hs1))
  have hb3 := hal w2 (.cells #[.int .u64 ((0 : Nat) : Int), .slice a2 n2 c2] 25)
  have HB3 := Lib.hid (HB2.out.trans (hb3.mono HB2.out.size))
  clear hb2 hs1
  go_upto_region 3 with (fail)
  have hB3 : Below w.heap.size w (w2.alloc (.cells #[.int .u64 0, .slice a2 n2 c2] 25)) := HB3.out
  generalize w2.alloc (.cells #[.int .u64 0, .slice a2 n2 c2] 25) = w3 at *
  have HB3 := Lib.hid hB3
  clear hB3 hb3
  go_wp2_with fail
  refine (SignedHead_any 1 2 (List.replicate 32 0) (List.replicate 64 0) w3 (by decide) (by decide) (by decide)).mono ?_
  rintro e w4 ⟨v5, rfl, o5, hb4⟩
  obtain ⟨a5, n5, c5, rfl, -⟩ := o5.reads
  have hl5 : n5 = 50 := o5.rd.len.symm
  subst hl5
  have HB4 := Lib.hid (HB3.out.trans (hb4.mono HB3.out.size))
  clear hb4
  go_wp2_with fail
  rw [← hTi.out]
  generalize Value.pointer (some ⟨w2.heap.size, 0, none⟩) = P3
  generalize Value.agg ((Try.zeroCells55.setIfInBounds 0 (.int .u64 1)).setIfInBounds 1 (.int .u64 2)) = q29
  refine wp_region_steps [[], [], [], [], [0, 1, 2, 3], [4], [], [6, 5]] (by kernel_rfl) (by kernel_rfl) (fun L a wx => ∃ v31 v32 v33 v34 v35 v36 v6, a = ⟨#[.bool false, v1, .int .i64 1, P3, .int .i64 5, .slice a5 50 c5, v6, undef, undef, undef, undef, undef, undef, undef, undef, undef, undef, undef, undef, undef, .tuple #[v1, .int .i64 1], .agg #[.int .u64 0, .slice none 0 0], .tuple #[v1, .int .i64 1], v1, .int .i64 1, .tuple #[entV 0 a2 n2 c2, .int .i64 5], .tuple #[entV 0 a2 n2 c2, .int .i64 5], entV 0 a2 n2 c2, .int .i64 5, q29, .slice a5 50 c5, v31, v32, v33, v34, v35, v36, undef, undef, undef, undef, undef, undef, undef, undef, undef, undef, undef, undef, undef, undef, undef, undef, undef, undef, undef, undef, undef, undef, undef, undef, undef, undef, undef, undef, undef, undef, undef, undef, undef, undef, undef, undef, undef, undef, undef, undef, undef, undef, undef, undef, undef, undef, undef, undef, undef, undef, undef, undef, undef, undef, undef, undef, undef, undef, undef, undef, undef, undef, undef, undef, undef, undef, undef, undef, undef, undef, undef, undef, undef, undef, undef, undef, undef, undef, undef, undef, undef, undef, undef, undef, undef, undef, undef, undef, undef, undef, undef, undef, undef, undef, undef, undef, undef, undef, undef, undef, undef, undef, undef, undef, undef, undef, undef, undef, undef, undef, undef, undef, undef, undef, undef, undef, undef, undef, undef, undef, undef, undef, undef, undef, undef, undef, undef, undef, undef, undef, undef, undef, undef, undef, undef], []⟩ ∧ InvKn T Z w4 L v31 v32 v33 v34 v35 v36 v6 wx) ?_ ⟨?_, ?_, ?_, ?_, ?_, ?_, ?_, ?_, trivial⟩ ?_
  · refine ⟨_, _, _, _, _, _, _, rfl, ⟨?_, ?_, ?_, ?_, ?_, ?_, ?_, below_drew (Below.refl _ _)⟩⟩ <;> (intro h; exact absurd h (by decide))
  · rintro L a wx ⟨v31, v32, v33, v34, v35, v36, v6, rfl, hI⟩ hL hdep hcl K hK
    refine ow_make _ _ rfl 512 Z HZ.out rfl rfl (by decide) ?_
    intro w' ho hb
    have hf := Fr.of_below (rs := []) hb
    have hap : ∀ x ∈ ([] : List Nat), Apart wx w4.heap.size x := by simp
    have hbb : Below w4.heap.size wx w' := hb.mono hI.bw.size
    exact hK _ _ ⟨_, v32, v33, v34, v35, v36, v6, rfl, ⟨fun _ => ho.mono hI.bw.size, fun h => (hI.t1 h).fr hf hap, fun h => (hI.t2 h).fr hf hap, fun h => (hI.t3 h).fr hf hap, fun h => let ⟨a, n, c, e, h⟩ := hI.t4 h; ⟨a, n, c, e, h.fr hf hap⟩, fun h => let ⟨a, n, c, e, h⟩ := hI.t5 h; ⟨a, n, c, e, h.fr hf hap⟩, fun h => let ⟨X, cur, e, h1, h2, h3, h4⟩ := hI.t6 h; ⟨X, cur, e, h1, hf.arr h2 (by simp), h3, fun h => let ⟨a, n, c, e, k⟩ := h4 h; ⟨a, n, c, e, k.fr hf hap⟩⟩, hI.bw.trans (hb.mono hI.bw.size)⟩⟩
  · rintro L a wx ⟨v31, v32, v33, v34, v35, v36, v6, rfl, hI⟩ hL hdep hcl K hK
    refine ow_make _ _ rfl 512 Z HZ.out rfl rfl (by decide) ?_
    intro w' ho hb
    have hf := Fr.of_below (rs := []) hb
    have hap : ∀ x ∈ ([] : List Nat), Apart wx w4.heap.size x := by simp
    have hbb : Below w4.heap.size wx w' := hb.mono hI.bw.size
    exact hK _ _ ⟨v31, _, v33, v34, v35, v36, v6, rfl, ⟨fun h => (hI.t0 h).fr hf hap, fun _ => ho.mono hI.bw.size, fun h => (hI.t2 h).fr hf hap, fun h => (hI.t3 h).fr hf hap, fun h => let ⟨a, n, c, e, h⟩ := hI.t4 h; ⟨a, n, c, e, h.fr hf hap⟩, fun h => let ⟨a, n, c, e, h⟩ := hI.t5 h; ⟨a, n, c, e, h.fr hf hap⟩, fun h => let ⟨X, cur, e, h1, h2, h3, h4⟩ := hI.t6 h; ⟨X, cur, e, h1, hf.arr h2 (by simp), h3, fun h => let ⟨a, n, c, e, k⟩ := h4 h; ⟨a, n, c, e, k.fr hf hap⟩⟩, hI.bw.trans (hb.mono hI.bw.size)⟩⟩
  · rintro L a wx ⟨v31, v32, v33, v34, v35, v36, v6, rfl, hI⟩ hL hdep hcl K hK
    refine ow_make _ _ rfl 512 Z HZ.out rfl rfl (by decide) ?_
    intro w' ho hb
    have hf := Fr.of_below (rs := []) hb
    have hap : ∀ x ∈ ([] : List Nat), Apart wx w4.heap.size x := by simp
    have hbb : Below w4.heap.size wx w' := hb.mono hI.bw.size
    exact hK _ _ ⟨v31, v32, _, v34, v35, v36, v6, rfl, ⟨fun h => (hI.t0 h).fr hf hap, fun h => (hI.t1 h).fr hf hap, fun _ => ho.mono hI.bw.size, fun h => (hI.t3 h).fr hf hap, fun h => let ⟨a, n, c, e, h⟩ := hI.t4 h; ⟨a, n, c, e, h.fr hf hap⟩, fun h => let ⟨a, n, c, e, h⟩ := hI.t5 h; ⟨a, n, c, e, h.fr hf hap⟩, fun h => let ⟨X, cur, e, h1, h2, h3, h4⟩ := hI.t6 h; ⟨X, cur, e, h1, hf.arr h2 (by simp), h3, fun h => let ⟨a, n, c, e, k⟩ := h4 h; ⟨a, n, c, e, k.fr hf hap⟩⟩, hI.bw.trans (hb.mono hI.bw.size)⟩⟩
  · rintro L a wx ⟨v31, v32, v33, v34, v35, v36, v6, rfl, hI⟩ hL hdep hcl K hK
    refine ow_make _ _ rfl 512 Z HZ.out rfl rfl (by decide) ?_
    intro w' ho hb
    have hf := Fr.of_below (rs := []) hb
    have hap : ∀ x ∈ ([] : List Nat), Apart wx w4.heap.size x := by simp
    have hbb : Below w4.heap.size wx w' := hb.mono hI.bw.size
    exact hK _ _ ⟨v31, v32, v33, _, v35, v36, v6, rfl, ⟨fun h => (hI.t0 h).fr hf hap, fun h => (hI.t1 h).fr hf hap, fun h => (hI.t2 h).fr hf hap, fun _ => ho.mono hI.bw.size, fun h => let ⟨a, n, c, e, h⟩ := hI.t4 h; ⟨a, n, c, e, h.fr hf hap⟩, fun h => let ⟨a, n, c, e, h⟩ := hI.t5 h; ⟨a, n, c, e, h.fr hf hap⟩, fun h => let ⟨X, cur, e, h1, h2, h3, h4⟩ := hI.t6 h; ⟨X, cur, e, h1, hf.arr h2 (by simp), h3, fun h => let ⟨a, n, c, e, k⟩ := h4 h; ⟨a, n, c, e, k.fr hf hap⟩⟩, hI.bw.trans (hb.mono hI.bw.size)⟩⟩
  · rintro L a wx ⟨v31, v32, v33, v34, v35, v36, v6, rfl, hI⟩ hL hdep hcl K hK
    have h0 := hI.t0 (hdep 0 (by decide))
    have h1 := hI.t1 (hdep 1 (by decide))
    have h2 := hI.t2 (hdep 2 (by decide))
    have h3 := hI.t3 (hdep 3 (by decide))
    obtain ⟨b0, m0, d0, rfl, -⟩ := h0.reads
    obtain ⟨b1, m1, d1, rfl, -⟩ := h1.reads
    obtain ⟨b2, m2, d2, rfl, -⟩ := h2.reads
    obtain ⟨b3, m3, d3, rfl, -⟩ := h3.reads
    have hO := ownC_four (B := w4.heap.size) (w := wx) hI.bw.size h0 h1 h2 h3
    have hb := hal wx (.cells #[.slice b0 m0 d0, .slice b1 m1 d1, .slice b2 m2 d2, .slice b3 m3 d3] 27)
    have hf := Fr.of_below (rs := []) hb
    have hap : ∀ x ∈ ([] : List Nat), Apart wx w4.heap.size x := by simp
    go_simp
    exact hK _ _ ⟨_, _, _, _, _, v36, v6, rfl, ⟨fun h => (hI.t0 h).fr hf hap, fun h => (hI.t1 h).fr hf hap, fun h => (hI.t2 h).fr hf hap, fun h => (hI.t3 h).fr hf hap, fun _ => ⟨_, _, _, rfl, hO⟩, fun h => let ⟨a, n, c, e, h⟩ := hI.t5 h; ⟨a, n, c, e, h.fr hf hap⟩, fun h => let ⟨X, cur, e, h1, h2, h3, h4⟩ := hI.t6 h; ⟨X, cur, e, h1, hf.arr h2 (by simp), h3, fun h => let ⟨a, n, c, e, k⟩ := h4 h; ⟨a, n, c, e, k.fr hf hap⟩⟩, hI.bw.trans (hb.mono hI.bw.size)⟩⟩
  · rintro L a wx ⟨v31, v32, v33, v34, v35, v36, v6, rfl, hI⟩ hL hdep hcl K hK
    obtain ⟨a, n, c, rfl, h⟩ := hI.t4 (hdep 4 (by decide))
    go_simp
    exact hK _ _ ⟨v31, v32, v33, v34, _, _, v6, rfl, ⟨hI.t0, hI.t1, hI.t2, hI.t3, fun _ => ⟨a, n, c, rfl, h⟩, fun _ => ⟨a, n, c, rfl, h⟩, hI.t6, hI.bw⟩⟩
  · rintro L a wx ⟨v31, v32, v33, v34, v35, v36, v6, rfl, hI⟩ hL hdep hcl K hK
    refine ow_alloc 25 rfl [.int .u64 0, .slice none 0 0] 2 infozE ?_
    intro w' hA hb hs
    have hf := Fr.of_below (rs := []) hb
    have hap : ∀ x ∈ ([] : List Nat), Apart wx w4.heap.size x := by simp
    exact hK _ _ ⟨v31, v32, v33, v34, v35, v36, _, rfl, ⟨fun h => (hI.t0 h).fr hf hap, fun h => (hI.t1 h).fr hf hap, fun h => (hI.t2 h).fr hf hap, fun h => (hI.t3 h).fr hf hap, fun h => let ⟨a, n, c, e, h⟩ := hI.t4 h; ⟨a, n, c, e, h.fr hf hap⟩, fun h => let ⟨a, n, c, e, h⟩ := hI.t5 h; ⟨a, n, c, e, h.fr hf hap⟩, fun _ => ⟨_, _, rfl, hI.bw.size, hA, rfl, fun h => absurd (hcl 7 (by decide) h 6 (by decide)) (by rw [hL]; decide)⟩, hI.bw.trans (hb.mono hI.bw.size)⟩⟩
  · rintro L a wx ⟨v31, v32, v33, v34, v35, v36, v6, rfl, hI⟩ hL hdep hcl K hK
    obtain ⟨X, cur, rfl, hX, hA, hl, -⟩ := hI.t6 (hdep 6 (by decide))
    obtain ⟨a, n, c, rfl, h⟩ := hI.t5 (hdep 5 (by decide))
    refine ow_store 25 _ _ rfl X 0 rfl [.int .u64 (T : Int), .slice a n c] rfl 25 cur hA sizeE (by rw [hl]; simp) (by simp [Value.oneCell']) ?_
    intro w' hA' hg hs
    rw [whole_store _ _ (by rw [hl]; rfl)] at hA'
    have hf : Fr [X] wx w' := Fr.of_grown hg (by simp)
    have hap : ∀ x ∈ [X], Apart wx w4.heap.size x := by intro x hx; simp at hx; subst hx; exact .inr ⟨_, _, hA, by decide, by decide⟩
    have h' := h.fr hf hap
    exact hK _ _ ⟨v31, v32, v33, v34, v35, _, _, rfl, ⟨fun h => (hI.t0 h).fr hf hap, fun h => (hI.t1 h).fr hf hap, fun h => (hI.t2 h).fr hf hap, fun h => (hI.t3 h).fr hf hap, fun h => let ⟨a, n, c, e, h⟩ := hI.t4 h; ⟨a, n, c, e, h.fr hf hap⟩, fun _ => ⟨a, n, c, rfl, h'⟩, fun _ => ⟨X, _, rfl, hX, hA', rfl, fun _ => ⟨a, n, c, rfl, h'⟩⟩, hI.bw.grown hg hI.bw.size (by intro k hk; cases hk; exact hX)⟩⟩
  · rintro a w5 ⟨v31, v32, v33, v34, v35, v36, v6, rfl, hI⟩
    obtain ⟨X6, cur, rfl, hX6, hA5, -, h7⟩ := hI.t6 rfl
    obtain ⟨a6, n6, c6, rfl, hO5⟩ := h7 rfl
    have hbw := hI.bw
    have HB5 := Lib.hid (HB4.out.trans (hbw.mono HB4.out.size))
    have o5 := o5.to hbw
    have hs5 := hbw.size
    clear hI h7 hbw
    have hn6 : n6 = 4 := hO5.len.symm
    subst hn6
    obtain ⟨_, _, _, ee, hch5⟩ := hO5.chn
    cases ee
    have HCH5 := Lib.hid hch5
    have HA5 := Lib.hid hA5
    have x0 := hA5.cell 0
    have x1 := hA5.cell 1
    simp only [List.getElem?_cons_zero, List.getElem?_cons_succ] at x0 x1
    have HO5 := Lib.hid hO5
    clear hch5 hA5 hO5
    go_wp2_with fail
    obtain ⟨RF, hRF⟩ : ∃ RF, RF = recF T [Z, Z, Z, Z] := ⟨_, rfl⟩
    have HRF := Lib.hid hRF
    have hRl : RF.length ≤ 3000 := by rw [hRF]; exact rec_len T _ (may_big HZl.out)
    clear hRF
    refine (Record_any T a6 4 c6 [Z, Z, Z, Z] w5 (by decide) HTL.out HCH5.out).mono ?_
    rw [show recR T [Z, Z, Z, Z] = (RF, 0) by unfold recR; rw [if_pos (may_big HZl.out), HRF.out]]
    rintro e w6 ⟨v7, rfl, o7, hb6⟩
    have o7 : Own w6 w5.heap.size 5 v7 RF := o7
    obtain ⟨a7, n7, c7, rfl, -⟩ := o7.reads
    have hn7 : n7 ≤ 3000 := by have := o7.rd.len; omega
    have hs6 := hb6.size
    have HG7 := Lib.hid (World.ownsRow.lt o7)
    have HB6 := Lib.hid hb6
    clear x0 x1
    go_wp2_with fail
    refine (TakeRecord_any a7 n7 c7 RF w6 (by omega) o7.rd.toRd).mono ?_
    rw [show takeRecR RF = ((T, [Z, Z, Z, Z]), 0) by rw [HRF.out]; exact takeRec_yes T _ HTL.out (may_big HZl.out)]
    rintro e w7 ⟨a9, n9, c9, rfl, hO9, hb7⟩
    have hs7 := hb7.size
    have hO9 : OwnC w7 w6.heap.size (.slice a9 n9 c9) [Z, Z, Z, Z] := hO9
    have hn9 : n9 = 4 := hO9.len.symm
    subst hn9
    have hba := hal w7 (.cells #[.int .u64 (T : Int), .slice a9 4 c9] 25)
    have hX9 := Arr.new w7 25 [.int .u64 (T : Int), .slice a9 4 c9]
    have hO9 := hO9.to hba
    have o7 := (o7.to hb7).to hba
    have hs8 := hba.size
    have HL8 := Lib.hid (HB6.out.trans ((hb7.trans (hba.mono hs7)).mono hs6))
    go_upto_region 7 with (fail)
    generalize w7.alloc (.cells #[.int .u64 (T : Int), .slice a9 4 c9] 25) = w8 at *
    obtain ⟨X9, hX9e⟩ : ∃ X9, X9 = w7.heap.size := ⟨_, rfl⟩
    rw [← hX9e] at hX9 ⊢
    have hX9g : w7.heap.size ≤ X9 := Nat.le_of_eq hX9e.symm
    clear hX9e hba hb6 hb7
    have hO9 := Lib.hid hO9
    have hX9 := Lib.hid hX9
    have o7 := Lib.hid o7
    go_upto_region 8 with ((with_reducible show wpList _ _ _ (⟨some 47, _, _, _, _, _⟩ :: _) _ _); refine wl_makeZ rfl _ _ rfl 513 Y HY.out rfl rfl (by decide) ?_; intro w9 o9 hb9)
    have hs9 := hb9.size
    have hU9 := ownC_lit (B := w8.heap.size) (w := w9) hs9 o9
    have hba := hal w9 (.cells #[.slice (some ⟨w8.heap.size, 0, none⟩) 513 513] 27)
    have hbc := hal (w9.alloc (.cells #[.slice (some ⟨w8.heap.size, 0, none⟩) 513 513] 27)) (.cells #[.int .u64 0, .slice (some ⟨w9.heap.size, 0, none⟩) 1 1] 25)
    have hX11 := Arr.new (w9.alloc (.cells #[.slice (some ⟨w8.heap.size, 0, none⟩) 513 513] 27)) 25 [.int .u64 0, .slice (some ⟨w9.heap.size, 0, none⟩) 1 1]
    rw [World.size_alloc] at hX11
    have HO11 := Lib.hid (hU9.to hbc)
    have HL10 := Lib.hid (hb9.trans ((hba.trans (hbc.mono hba.size)).mono hs9))
    have hs10 := HL10.out.size
    have hX11g : w9.heap.size ≤ w9.heap.size + 1 := Nat.le_succ _
    generalize (w9.alloc (.cells #[.slice (some ⟨w8.heap.size, 0, none⟩) 513 513] 27)).alloc (.cells #[.int .u64 0, .slice (some ⟨w9.heap.size, 0, none⟩) 1 1] 25) = w10 at *
    clear hba hbc hU9 o9 hb9
    have HX11 := Lib.hid hX11
    have HL510 := Lib.hid (HL8.out.trans (HL10.out.mono (by omega)))
    obtain ⟨i0, hi, hz0, hz1, hz2⟩ := info_parts btC_info
    have hO10 := HO5.out.to HL510.out
    obtain ⟨us, k1, k2, k3⟩ := hO10
    have hus : us.length = 4 := k2
    rw [hus] at k1
    obtain ⟨g6, cap6, ee⟩ := row_form k1 (by decide)
    cases ee
    have hb11 := hal w10 (.cells #[] 27)
    have hA11 := HA5.out.kept (HL510.out.trans (hb11.mono hs10 |>.mono (by omega)))
    have x0 := hA11.cell 0
    have x1 := hA11.cell 1
    simp only [List.getElem?_cons_zero, List.getElem?_cons_succ] at x0 x1
    have hrow0 : (w10.alloc (.cells #[] 27)).ownsRow w10.heap.size 27 1 (.slice (some ⟨w10.heap.size, 0, none⟩) 0 0) 0 [] := World.ownsRow_lit w10 #[] 0 (Nat.le_refl _) (by decide) (by simp)
    have k1' := row_to k1 hb11
    have hone : ∀ x ∈ us, x.oneCell' = true := by
      intro x hx
      obtain ⟨j, hj, rfl⟩ := List.mem_iff_getElem.1 hx
      obtain ⟨aj, nj, cj, e, -⟩ := (k3 j (by rw [← k2]; exact hj)).reads
      have e2 : us[j] = .slice aj nj cj := by rw [← e]; simp [List.getD, hj]
      rw [e2]
      rfl
    have HK := Lib.hid k1'
    have HR0 := Lib.hid hrow0
    have HONE := Lib.hid hone
    have HUS := Lib.hid hus
    clear k1 k1' k2 k3 hrow0 hone hus hX11 hA11
    go_upto_region 9 with (first
      | ((with_reducible show wpList _ _ _ (⟨some 53, _, _, _, _, _⟩ :: _) _ _); go_loud (refine wpList_append_own _ rfl (.tmp 50) (.tmp 52) 23 rfl w10.heap.size 27 i0 (.slice none 0 0) 1 24 btC_sl hi hz0 hz1 hz2 rfl (by decide) (.slice (some ⟨w10.heap.size, 0, none⟩) 0 0) 0 [] rfl HR0.out ⟨g6, 0, none⟩ 4 c6 us rfl HUS.out (World.ownsRow.cells HK.out rfl) HONE.out (by decide) (by decide) hb11.size ?_); intro v11 w11 hr11 hg11 hnil; have hbp := hal w11 (.cells #[.int .u8 1] 5); have hbq := hal (w11.alloc (.cells #[.int .u8 1] 5)) (.cells #[.slice (some ⟨w11.heap.size, 0, none⟩) 1 1] 27); have hbr := hbp.trans (hbq.mono hbp.size); have hrow := row_to hr11 hbr; have hx4 : ((w11.alloc (.cells #[.int .u8 1] 5)).alloc (.cells #[.slice (some ⟨w11.heap.size, 0, none⟩) 1 1] 27)).cell? ⟨w11.heap.size + 1, 0, none⟩ = some (.slice (some ⟨w11.heap.size, 0, none⟩) 1 1) := (by simp); have hs11 : w10.heap.size ≤ w11.heap.size := Nat.le_trans hb11.size hg11.size)
      | ((with_reducible show wpList _ _ _ (⟨some 56, _, _, _, _, _⟩ :: _) _ _); go_loud (refine wpList_append_own _ rfl (.tmp 53) (.tmp 55) 23 rfl w10.heap.size 27 i0 (.slice none 0 0) 1 24 btC_sl hi hz0 hz1 hz2 rfl (by decide) v11 (0 + 4) ([] ++ us) rfl hrow ⟨w11.heap.size + 1, 0, none⟩ 1 1 [.slice (some ⟨w11.heap.size, 0, none⟩) 1 1] rfl rfl (fun j u hu => by { cases j with | zero => { simp at hu; subst hu; exact hx4 } | succ j => simp at hu }) (by simp [Value.oneCell']) (by decide) (by decide) (Nat.le_trans hs11 hbr.size) ?_); intro v12 w12 hr12 hg12 hnil2; obtain ⟨g12, c12, rfl⟩ := row_form hr12 (by decide)))
    have hL11 : Below w10.heap.size w10 w11 := (hb11.grown hg11 hb11.size (by intro k hk; cases hk; exact Nat.le_refl _))
    have hL12 : Below w10.heap.size w10 w12 := (hL11.trans (hbr.mono hs11)).grown hg12 (Nat.le_trans hs11 hbr.size) (fun k hk => (World.ownsRow.lt hrow k hk).1)
    have hs12 := hL12.size
    have hba := hal w12 (.cells #[.int .u64 0, .slice (some ⟨g12, 0, none⟩) (0 + 4 + 1) c12] 25)
    have hX12 := Arr.new w12 25 [.int .u64 0, .slice (some ⟨g12, 0, none⟩) 5 c12]
    have HL13 := Lib.hid (hL12.trans (hba.mono hs12))
    clear hr11 hg11 hnil hbp hbq hbr hrow hx4 hr12 hg12 hnil2 hL11 hL12 hb11 HK HR0 HONE HUS x0 x1
    generalize w12.alloc (.cells #[.int .u64 0, .slice (some ⟨g12, 0, none⟩) 5 c12] 25) = w13 at *
    have HX12 := Lib.hid hX12
    have hs13 := hba.size
    clear hX12 hba
    go_upto_region 10 with (fail)
    have hba := hal w13 (.cells #[.int .u8 1] 5)
    have hU1 : Own (w13.alloc (.cells #[.int .u8 1] 5)) w13.heap.size 5 (.slice (some ⟨w13.heap.size, 0, none⟩) 1 1) [1] := own_lit w13 [1] 5 (by decide)
    have hU2 := ownC_two (B := w13.heap.size) hba.size hU1 (Own.nil _ _ _)
    have hbb2 := hal (w13.alloc (.cells #[.int .u8 1] 5)) (.cells #[.slice (some ⟨w13.heap.size, 0, none⟩) 1 1, .slice none 0 0] 27)
    have hbc := hal ((w13.alloc (.cells #[.int .u8 1] 5)).alloc (.cells #[.slice (some ⟨w13.heap.size, 0, none⟩) 1 1, .slice none 0 0] 27)) (.cells #[.int .u64 0, .slice (some ⟨w13.heap.size + 1, 0, none⟩) 2 2] 25)
    have hX13 := Arr.new ((w13.alloc (.cells #[.int .u8 1] 5)).alloc (.cells #[.slice (some ⟨w13.heap.size, 0, none⟩) 1 1, .slice none 0 0] 27)) 25 [.int .u64 0, .slice (some ⟨w13.heap.size + 1, 0, none⟩) 2 2]
    rw [World.size_alloc, World.size_alloc] at hX13
    rw [World.size_alloc] at hU2
    have HO13 := Lib.hid (hU2.to hbc)
    have HL14 := Lib.hid ((hba.trans (hbb2.mono hba.size)).trans (hbc.mono (Nat.le_trans hba.size hbb2.size)))
    have hs14 := HL14.out.size
    have hX13g : w13.heap.size ≤ w13.heap.size + 1 + 1 := Nat.le_trans (Nat.le_succ _) (Nat.le_succ _)
    generalize ((w13.alloc (.cells #[.int .u8 1] 5)).alloc (.cells #[.slice (some ⟨w13.heap.size, 0, none⟩) 1 1, .slice none 0 0] 27)).alloc (.cells #[.int .u64 0, .slice (some ⟨w13.heap.size + 1, 0, none⟩) 2 2] 25) = w14 at *
    have HX13 := Lib.hid hX13
    clear hba hU1 hU2 hbb2 hbc hX13
    have hb15 := hal w14 (.cells #[.int .u8 0] 5)
    have HL15 := Lib.hid (((HL10.out.trans (HL13.out.mono hs10)).trans (HL14.out.mono (by omega))).trans (hb15.mono (by omega)))
    have o7' := Lib.hid (o7.out.to HL15.out)
    have hrz : Rd (w14.alloc (.cells #[.int .u8 0] 5)) (some ⟨w14.heap.size, 0, none⟩) 1 1 [0] := rd_lit w14 [0] 5 (by decide)
    have hsB : w5.heap.size ≤ (w14.alloc (.cells #[.int .u8 0] 5)).heap.size := Nat.le_trans (by omega) hb15.size
    go_wp2_with ((with_reducible show wpList _ _ _ (⟨some 64, _, _, _, _, _⟩ :: _) _ _); go_loud (refine wl_appendR rfl (.tmp 62) (.tmp 63) rfl w5.heap.size (.slice a7 n7 c7) RF o7'.out rfl ⟨w14.heap.size, 0, none⟩ 1 1 [0] rfl hrz (by omega) hsB ?_); intro v15 w15 o15 hg15; obtain ⟨a15, n15, c15, rfl, hr15⟩ := o15.reads)
    obtain ⟨g7, d7, ee, hg7, -, -⟩ := o7.out.solid (by rw [HRF.out, recF, List.length_append, digits_len]; omega)
    cases ee
    have hg7u : g7 < w6.heap.size := (HG7.out g7 rfl).2
    have hg7l : w5.heap.size ≤ g7 := (HG7.out g7 rfl).1
    generalize RF.length = m7 at hRl ⊢
    have f15 : Fr [g7] w14 w15 := ((Fr.of_below (rs := [g7]) hb15)).trans (Fr.of_grown (r := g7) hg15 (by simp))
    have HL15 : Below w5.heap.size w5 w15 := (((HL8.out.trans (((HL10.out.trans (HL13.out.mono hs10)).trans (HL14.out.mono (by omega))).mono (by omega)))).trans (f15.below (by omega) (by simpa using hg7l)))
    have hX9f := f15.arr (((hX9.out.kept HL10.out).kept HL13.out).kept HL14.out) (by simp; omega)
    have hX11f := f15.arr ((HX11.out.kept HL13.out).kept HL14.out) (by simp; omega)
    have hX12f := f15.arr (HX12.out.kept HL14.out) (by simp; omega)
    have hX13f := f15.arr HX13.out (by simp; omega)
    have hO9f := (((hO9.out.to HL10.out).to HL13.out).to HL14.out).fr f15 (by intro x hx; simp at hx; subst hx; exact .inl hg7u)
    have hO11f := ((HO11.out.to HL13.out).to HL14.out).fr f15 (by intro x hx; simp at hx; subst hx; exact .inl (by omega))
    have hO13f := HO13.out.fr f15 (by intro x hx; simp at hx; subst hx; exact .inl (by omega))
    have H15 : Hid (KnW w X6 X9 (w9.heap.size + 1) w12.heap.size (w13.heap.size + 1 + 1) T a5 c5 (some ⟨g6, 0, none⟩) c6 a9 c9 (some ⟨w9.heap.size, 0, none⟩) (some ⟨g12, 0, none⟩) c12 (some ⟨w13.heap.size + 1, 0, none⟩) Z Y w15) := by
      refine ⟨HB5.out.trans (HL15.mono HB5.out.size), (o5.rd.toRd).to HL15, HA5.out.kept HL15, hX9f, hX11f, hX12f, hX13f, HCH5.out.to HL15, ?_, ?_, ?_⟩
      · obtain ⟨_, _, _, ee, hc⟩ := hO9f.chn
        cases ee
        exact hc
      · obtain ⟨_, _, _, ee, hc⟩ := hO11f.chn
        cases ee
        exact hc
      · obtain ⟨_, _, _, ee, hc⟩ := hO13f.chn
        cases ee
        exact hc
    have h15 := hr15.toRd
    have hn15 : n15 ≤ 3001 := by
      have h1 := h15.len
      have h2 := rec_len T [Z, Z, Z, Z] (may_big HZl.out)
      rw [← HRF.out] at h2
      simp only [List.length_append, List.length_cons, List.length_nil] at h1
      omega
    clear hX9f hX11f hX12f hX13f hO9f hO11f hO13f hg15 o15 hr15 hb15 f15 HL15 o5
    refine (TakeRecord_any a15 n15 c15 (RF ++ [0]) w15 (by omega) h15).mono ?_
    rw [show takeRecR (RF ++ [0]) = ((0, []), 5) by rw [HRF.out]; exact take_more T _ HTL.out (may_big HZl.out) 0]
    rintro e w16 ⟨a14, n14, c14, rfl, -, hb16⟩
    have hba := hal w16 (.cells #[.int .u64 ((0 : Nat) : Int), .slice a14 n14 c14] 25)
    have H17 := Lib.hid ((H15.out.to hb16).to hba)
    clear h15 hb16
    go_upto_region 11 with (fail)
    generalize w16.alloc (.cells #[.int .u64 0, .slice a14 n14 c14] 25) = w17 at *
    generalize Value.pointer (some ⟨w16.heap.size, 0, none⟩) = P14
    clear hba
    have hba := hal w17 (.cells #[.int .u8 9] 5)
    have hU1 : Own (w17.alloc (.cells #[.int .u8 9] 5)) w17.heap.size 5 (.slice (some ⟨w17.heap.size, 0, none⟩) 1 1) [9] := own_lit w17 [9] 5 (by decide)
    have hU2 := ownC_lit (B := w17.heap.size) hba.size hU1
    have hbb2 := hal (w17.alloc (.cells #[.int .u8 9] 5)) (.cells #[.slice (some ⟨w17.heap.size, 0, none⟩) 1 1] 27)
    rw [World.size_alloc] at hU2
    have hC : Chn ((w17.alloc (.cells #[.int .u8 9] 5)).alloc (.cells #[.slice (some ⟨w17.heap.size, 0, none⟩) 1 1] 27)) (some ⟨w17.heap.size + 1, 0, none⟩) 1 1 [[9]] := by
      obtain ⟨_, _, _, ee, hc⟩ := hU2.chn
      cases ee
      exact hc
    have H18 := Lib.hid ((H17.out.to hba).to hbb2)
    have hs18 := Nat.le_trans hba.size hbb2.size
    clear hba hbb2 hU1 hU2
    go_wp2_with fail
    refine (Item_any 3 (some ⟨w17.heap.size + 1, 0, none⟩) 1 1 [[9]] _ (by decide) (by decide) hC).mono ?_
    rintro e w19 ⟨a18, n18, c18, a19, n19, c19, rfl, o18, o19, hb19⟩
    have hg9 := item_good (t := 3) may_nine
    rw [hg9.1]
    rw [hg9.2.1] at o18
    rw [hg9.2.2] at o19
    have HG18 := Lib.hid (World.ownsRow.lt o18)
    have hn18 : n18 = 18 := by have h : (stampF 3 [9]).length = n18 := o18.rd.len; rw [stamp_len] at h; exact h.symm
    subst hn18
    have hn19 : n19 = 3 := by have h : (listF []).length = n19 := o19.rd.len; rw [list_len] at h; exact h.symm
    subst hn19
    have hba := hal w19 (.cells #[.slice a18 18 c18, .slice a19 3 c19] 34)
    have hX16 := Arr.new w19 34 [.slice a18 18 c18, .slice a19 3 c19]
    have HL20 := Lib.hid (hb19.trans (hba.mono hb19.size))
    have o18 := o18.to hba
    have o19 := o19.to hba
    clear hg9 hC hb19
    go_upto_region 12 with (fail)
    generalize w19.alloc (.cells #[.slice a18 18 c18, .slice a19 3 c19] 34) = w20 at *
    obtain ⟨X16, hX16e⟩ : ∃ X16, X16 = w19.heap.size := ⟨_, rfl⟩
    rw [← hX16e] at hX16 ⊢
    have hXe : w19.heap.size ≤ X16 := Nat.le_of_eq hX16e.symm
    clear hX16e hba
    obtain ⟨g18, d18, ee, hg18l, hg18u, -⟩ := o18.solid (by decide)
    have hge : a18 = some ⟨g18, 0, none⟩ := by injection ee
    subst hge
    clear ee
    have hgX : g18 ≠ X16 := by have := (HG18.out g18 rfl).2; omega
    have d0 := hX16.cell 0
    have d1 := hX16.cell 1
    simp only [List.getElem?_cons_zero, List.getElem?_cons_succ] at d0 d1
    have hcz := Own.cellAt o18 11 (by decide)
    have hfz := Own.frozenAt o18 11
    have o18' := Own.stored o18 11 1
    have hX16' := hX16.other ⟨g18, 11, none⟩ hgX (.int .u8 1)
    have o19' : ∃ xs', Rd (w20.setCell ⟨g18, 11, none⟩ (.int .u8 1)) a19 3 c19 xs' := by
      obtain ⟨xs', -, h⟩ := o19.poke g18 11 1
      exact ⟨xs', h.rd.toRd⟩
    obtain ⟨xz, o19'⟩ := o19'
    have o18' : Rd (w20.setCell ⟨g18, 11, none⟩ (.int .u8 1)) (some ⟨g18, 0, none⟩) 18 c18 ((stampF 3 [9]).set 11 1) := o18'.rd.toRd
    have hLs := HL20.out.setCell (p := ⟨g18, 11, none⟩) hg18l (.int .u8 1)
    have H21 := Lib.hid (H18.out.to hLs)
    clear hLs o18 o19 hX16
    go_upto_region 14 with (fail)
    go_upto_region 15 with (fail)
    generalize w20.setCell ⟨g18, 11, none⟩ (.int .u8 1) = w21 at *
    have d0 := hX16'.cell 0
    have d1 := hX16'.cell 1
    simp only [List.getElem?_cons_zero, List.getElem?_cons_succ] at d0 d1
    clear hcz hfz
    go_wp2_with fail
    refine (TakeItem_any (some ⟨g18, 0, none⟩) 18 c18 a19 3 c19 ((stampF 3 [9]).set 11 1) xz w21 (by decide) (by decide) o18' o19').mono ?_
    rw [take_turned]
    rintro e w22 ⟨a22, n22, c22, rfl, -, hb22⟩
    have hba := hal w22 (.cells #[.int .u64 ((0 : Nat) : Int), .slice a22 n22 c22] 25)
    have H23 := Lib.hid ((H21.out.to hb22).to hba)
    clear hb22 d0 d1 hX16' o18' o19'
    go_upto_region 16 with (fail)
    generalize w22.alloc (.cells #[.int .u64 0, .slice a22 n22 c22] 25) = w23 at *
    clear hba
    go_wp2_with fail
    refine (awake_any w23).mono ?_
    rintro e w24 ⟨rfl, hb24⟩
    have h24 := H23.out.to hb24
    obtain ⟨bh, oh, eh, hbh, hch⟩ := h24.h.mem (by have := h24.h.le; omega)
    subst eh
    have q1 := hch 1 (by decide)
    have q9 := hch 9 (by decide)
    have q17 := hch 17 (by decide)
    rw [show (headF 1 2 (List.replicate 32 0)).getD 1 0 = 1 by decide +kernel] at q1
    rw [show (headF 1 2 (List.replicate 32 0)).getD 9 0 = 2 by decide +kernel] at q9
    rw [show (headF 1 2 (List.replicate 32 0)).getD 17 0 = 1 by decide +kernel] at q17
    have q1 : w24.cell? ⟨bh, oh + 1, none⟩ = some (.int .u8 1) := q1
    have q9 : w24.cell? ⟨bh, oh + 9, none⟩ = some (.int .u8 2) := q9
    have q17 : w24.cell? ⟨bh, oh + 17, none⟩ = some (.int .u8 1) := q17
    have x0 := h24.x6.cell 0
    have x1 := h24.x6.cell 1
    have y0 := h24.x9.cell 0
    have y1 := h24.x9.cell 1
    simp only [List.getElem?_cons_zero, List.getElem?_cons_succ] at x0 x1 y0 y1
    have H24 := Lib.hid h24
    clear hch hb24 h24
    go_wp2_with fail
    have hS := Same_any T T a9 (some ⟨g6, 0, none⟩) 4 c9 4 c6 [Z, Z, Z, Z] [Z, Z, Z, Z] w24 (by decide) (by decide) H24.out.h9 H24.out.h6
    rw [same_self] at hS
    refine hS.mono ?_
    rintro e w25 ⟨rfl, hb25⟩
    have h25 := H24.out.to hb25
    have z0 := h25.x11.cell 0
    have z1 := h25.x11.cell 1
    simp only [List.getElem?_cons_zero, List.getElem?_cons_succ] at z0 z1
    have H25 := Lib.hid h25
    clear hS hb25 h25 q1 q9 q17 x0 x1 y0 y1
    go_wp2_with fail
    have hM := May_any 0 (some ⟨w9.heap.size, 0, none⟩) 1 1 [Y] w25 (by decide) H25.out.h11
    rw [may_over HYl.out] at hM
    refine hM.mono ?_
    rintro e w26 ⟨rfl, hb26⟩
    have h26 := H25.out.to hb26
    have z0 := h26.x12.cell 0
    have z1 := h26.x12.cell 1
    simp only [List.getElem?_cons_zero, List.getElem?_cons_succ] at z0 z1
    have H26 := Lib.hid h26
    clear hM hb26 h26
    go_wp2_with fail
    refine (May_long 0 (some ⟨g12, 0, none⟩) 5 c12 w26 (by decide) (by decide)).mono ?_
    rintro e w27 ⟨rfl, hb27⟩
    have h27 := H26.out.to hb27
    have z0 := h27.x13.cell 0
    have z1 := h27.x13.cell 1
    simp only [List.getElem?_cons_zero, List.getElem?_cons_succ] at z0 z1
    have H27 := Lib.hid h27
    clear hb27 h27
    go_wp2_with fail
    have hM := May_any 0 (some ⟨w13.heap.size + 1, 0, none⟩) 2 2 [[1], []] w27 (by decide) H27.out.h13
    rw [may_none] at hM
    refine hM.mono ?_
    rintro e w28 ⟨rfl, hb28⟩
    have h28 := H27.out.to hb28
    have x0 := h28.x6.cell 0
    have x1 := h28.x6.cell 1
    have y0 := h28.x11.cell 0
    have y1 := h28.x11.cell 1
    simp only [List.getElem?_cons_zero, List.getElem?_cons_succ] at x0 x1 y0 y1
    have H28 := Lib.hid h28
    clear hM hb28 h28
    go_wp2_with fail
    have hS := Same_any T 0 (some ⟨g6, 0, none⟩) (some ⟨w9.heap.size, 0, none⟩) 4 c6 1 1 [Z, Z, Z, Z] [Y] w28 (by decide) (by decide) H28.out.h6 H28.out.h11
    rw [show sameB T 0 [Z, Z, Z, Z] [Y] = false by simp [sameB]] at hS
    refine hS.mono ?_
    rintro e w29 ⟨rfl, hb29⟩
    have hfin := Lib.hid ((H28.out.to hb29).bw)
    clear hS hb29
    go_wp2_with fail
    go_ret
    exact ⟨rfl, hfin.out⟩
end Go.Proofs.Ytcohcjhbkiangaa
