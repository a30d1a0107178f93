/-
  What bytes say, as a record and as an item, is the document's; they stay. Conditions: none.
-/
import Derived.Test.YtcohcjhbkiangaaEBack
import Derived.Test.YtcohcjhbkiangaaEoC
import Derived.Test.YtcohcjhbkiangaaEoB
namespace Go.Proofs.Ytcohcjhbkiangaa
open Go.ChangeShapes Go.WideShapes Go.ChangeAt Go.RowKit

theorem rd_other {w w' : World} {a : Option Addr} {n c X : Nat} {ys : List UInt8} {cur : List Value} (h : Rd w a n c ys) (hA : Arr w X 34 cur) (hg : w.grownBy w' (some X)) (hcu : ∀ v ∈ cur, ∃ a n c, v = Value.slice a n c) : Rd w' a n c ys := by
  refine ⟨h.len, h.le, h.nil, fun hc => ?_⟩
  obtain ⟨b, off, e, hb, hm⟩ := h.mem hc
  by_cases h0 : n = 0
  · exact ⟨b, off, e, Nat.lt_of_lt_of_le hb hg.size, fun j hj => by omega⟩
  · have hbX : b ≠ X := by
      rintro rfl
      have h1 := hm 0 (by omega)
      rw [hA.cell] at h1
      obtain ⟨a', n', c', e'⟩ := hcu _ (List.mem_of_getElem? h1)
      cases e'
    exact ⟨b, off, e, Nat.lt_of_lt_of_le hb hg.size, fun j hj => (World.cell?_of_block (a := ⟨b, off + j, none⟩) (hg.block b hb (by simpa using hbX))).trans (hm j hj)⟩
theorem two_slices (a : Option Addr) (n c : Nat) (a' : Option Addr) (n' c' : Nat) : ∀ v ∈ [Value.slice a n c, Value.slice a' n' c'], ∃ a n c, v = Value.slice a n c := by
  intro v hv
  simp at hv
  rcases hv with rfl | rfl <;> exact ⟨_, _, _, rfl⟩
theorem zI_slices : ∀ v ∈ zI, ∃ a n c, v = Value.slice a n c := two_slices _ _ _ _ _ _
structure TkW (w : World) (B X : Nat) (la : Option Addr) (ln lc : Nat) (xa : Option Addr) (xn xc : Nat) (a1 : Option Addr) (n1 c1 : Nat) (a2 : Option Addr) (n2 c2 : Nat) (oa : Option Addr) (on oc : Nat) (bs ls xs : List UInt8) (wr : World) : Prop where
  bw : Below B w wr
  le : B ≤ wr.heap.size
  i : Arr wr B 34 [.slice la ln lc, .slice xa xn xc]
  it : Arr wr X 34 [.slice a1 n1 c1, .slice a2 n2 c2]
  ro : Rd wr oa on oc bs
  q1 : Rd wr a1 n1 c1 ls
  q2 : Rd wr a2 n2 c2 xs
theorem TkW.to {w : World} {B X : Nat} {la : Option Addr} {ln lc : Nat} {xa : Option Addr} {xn xc : Nat} {a1 : Option Addr} {n1 c1 : Nat} {a2 : Option Addr} {n2 c2 : Nat} {oa : Option Addr} {on oc : Nat} {bs ls xs : List UInt8} {wr w' : World} (h : TkW w B X la ln lc xa xn xc a1 n1 c1 a2 n2 c2 oa on oc bs ls xs wr) (hb : Below wr.heap.size wr w') : TkW w B X la ln lc xa xn xc a1 n1 c1 a2 n2 c2 oa on oc bs ls xs w' :=
  ⟨h.bw.trans (hb.mono h.le), Nat.le_trans h.le hb.size, h.i.kept hb, h.it.kept hb, h.ro.to hb, h.q1.to hb, h.q2.to hb⟩
theorem takeRec_small {bs : List UInt8} {t : Nat} {l : List (List UInt8)} {e : Int} (h : takeRecR bs = ((t, l), e)) : l.length ≤ 4 ∧ ∀ x ∈ l, x.length ≤ 512 := by
  rcases takeRec_two bs with ⟨t', l', -, hm, -, h'⟩ | h'
  · rw [h'] at h
    cases h
    obtain ⟨-, h4, hx⟩ := mayB_parts hm
    exact ⟨h4, fun x h => (hx x h).2⟩
  · rw [h'] at h
    cases h
    exact ⟨by simp, by simp⟩
theorem takeItem_small {ls xs : List UInt8} {t : Nat} {l : List (List UInt8)} {e : Int} (h : takeItemR ls xs = ((t, l), e)) : l.length ≤ 4 ∧ ∀ x ∈ l, x.length ≤ 512 := by
  rcases takeItem_two ls xs with ⟨t', l', -, hm, -, -, h'⟩ | h'
  · rw [h'] at h
    cases h
    obtain ⟨-, h4, hx⟩ := mayB_parts hm
    exact ⟨h4, fun x h => (hx x h).2⟩
  · rw [h'] at h
    cases h
    exact ⟨by simp, by simp⟩

structure InvTk (ba : Option Addr) (bn bc : Nat) (la : Option Addr) (ln lc : Nat) (xa : Option Addr) (xn xc : Nat) (oa : Option Addr) (on oc B : Nat) (ls xs : List UInt8) (w1 : World) (L : Nat → Bool) (v19 v20 v21 v22 v23 v24 v25 v26 v27 v6 : Value) (wx : World) : Prop where
  t0 : L 0 = true → ∃ g, v19 = .slice (some ⟨g, 0, none⟩) 0 0
  t1 : L 1 = true → v20 = .pointer (some ⟨B, 0, none⟩)
  t2 : L 2 = true → v21 = .slice la ln lc
  t3 : L 3 = true → ∃ a n c, v22 = .slice a n c ∧ Rd wx a n c ls
  t4 : L 4 = true → ∃ g, v23 = .slice (some ⟨g, 0, none⟩) 0 0
  t5 : L 5 = true → v24 = .pointer (some ⟨B, 1, none⟩)
  t6 : L 6 = true → v25 = .slice xa xn xc
  t7 : L 7 = true → ∃ a n c, v26 = .slice a n c ∧ Rd wx a n c xs
  t8 : L 8 = true → ∃ a n c a' n' c', v27 = .agg #[.slice a n c, .slice a' n' c'] ∧ Rd wx a n c ls ∧ Rd wx a' n' c' xs
  t9 : L 9 = true → ∃ X cur, v6 = .pointer (some ⟨X, 0, none⟩) ∧ w1.heap.size ≤ X ∧ Arr wx X 34 cur ∧ cur.length = 2 ∧ (∀ v ∈ cur, ∃ a n c, v = .slice a n c) ∧ (L 10 = true → ∃ a n c a' n' c', cur = [.slice a n c, .slice a' n' c'] ∧ Rd wx a n c ls ∧ Rd wx a' n' c' xs)
  bw : Below w1.heap.size w1 wx

set_option maxRecDepth 100000 in
set_option maxHeartbeats 8000000 in
theorem Takes_law (ba : Option Addr) (bn bc : Nat) (bs : List UInt8) (la : Option Addr) (ln lc : Nat) (xa : Option Addr) (xn xc : Nat) (ls xs : List UInt8) (w : World)
    (hmb : bn ≤ 140737488355327) (hrb : Rd w ba bn bc bs) (hml : ln ≤ 140737488355327) (hmx : xn ≤ 140737488355327) (hrl : Rd w la ln lc ls) (hrx : Rd w xa xn xc xs) :
    Calls Try.prog 4 #[.slice ba bn bc, .agg #[.slice la ln lc, .slice xa xn xc]] w fun e w' => e = .returned (.bool true) ∧ Below w.heap.size w w' := by
  have hb0 := hal w (.cells #[.slice la ln lc, .slice xa xn xc] 34)
  have hI0 : Arr (w.alloc (.cells #[.slice la ln lc, .slice xa xn xc] 34)) w.heap.size 34 [.slice la ln lc, .slice xa xn xc] := Arr.new w _ _
  have hs0 : (w.alloc (.cells #[.slice la ln lc, .slice xa xn xc] 34)).heap.size = w.heap.size + 1 := by simp
  have HRB := Lib.hid (fun W (hW : Below w.heap.size w W) => hrb.to hW)
  have HRL := Lib.hid (fun W (hW : Below w.heap.size w W) => hrl.to hW)
  have HRX := Lib.hid (fun W (hW : Below w.heap.size w W) => hrx.to hW)
  have hlnb := Lib.hid hrb.len
  have hlnl := Lib.hid hrl.len
  have hlnx := Lib.hid hrx.len
  clear hrb hrl hrx
  go_enter Try.func4, Try.ntmps4
  have hb1 := hal (w.alloc (.cells #[.slice la ln lc, .slice xa xn xc] 34)) (.cells #[] 5)
  have hb01 := hb0.trans (hb1.mono hb0.size)
  have r1 := HRB.out _ hb01
  have hI1 := hI0.kept hb1
  go_wp2_with (at_builtin; refine wl_append0 rfl (.tmp 16) (.tmp 17) rfl (w.heap.size + 1) rfl ba bn bc bs rfl r1 (by omega) ?_; intro oa on oc w1 hro hb2)
  have hI2 := hI1.kept hb2
  have HB1 := Lib.hid (hb01.trans (hb2.mono hb01.size))
  have hon := hro.len
  have HRO := Lib.hid hro
  have hs1 := HB1.out.size
  clear hb0 hb1 hb01 hb2 r1 hI0 hI1 hro hs0
  generalize hB : w.heap.size = B at *
  have HB := Lib.hid hB
  clear hB
  have hI2l := hI2.lt
  have HI2 := Lib.hid hI2
  clear hI2
  refine wp_region_steps [[], [], [1], [0, 2], [], [], [5], [4, 6], [3, 7], [], [9, 8]] (by kernel_rfl) (by kernel_rfl) (fun L a wx => ∃ v19 v20 v21 v22 v23 v24 v25 v26 v27 v6, a = ⟨#[.slice ba bn bc, .agg #[.slice la ln lc, .slice xa xn xc], undef, .pointer (some ⟨B, 0, none⟩), .bool false, .slice oa on oc, v6, undef, undef, undef, undef, undef, undef, undef, undef, undef, .slice (some ⟨B + 1, 0, none⟩) 0 0, .slice ba bn bc, .slice oa on oc, v19, v20, v21, v22, v23, v24, v25, v26, v27, undef, undef, undef, undef, undef, undef, undef, undef, undef, undef, undef, undef, undef, undef, undef, undef, undef, undef, undef, undef, undef, undef, undef, undef, undef, undef, undef, undef, undef, undef, undef, undef, undef, undef, undef, undef, undef, undef, undef, undef, undef, undef, undef, undef, undef, undef, undef, undef, undef, undef, undef, undef, undef, undef, undef, undef, undef, undef, undef, undef, undef, undef, undef, undef, undef, undef, undef], []⟩ ∧ InvTk ba bn bc la ln lc xa xn xc oa on oc B ls xs w1 L v19 v20 v21 v22 v23 v24 v25 v26 v27 v6 wx) ?_ ⟨?_, ?_, ?_, ?_, ?_, ?_, ?_, ?_, ?_, ?_, ?_, trivial⟩ ?_
  · refine ⟨_, _, _, _, _, _, _, _, _, _, rfl, ⟨?_, ?_, ?_, ?_, ?_, ?_, ?_, ?_, ?_, ?_, below_drew (Below.refl _ _)⟩⟩ <;> (intro h; exact absurd h (by decide))
  · rintro L a wx ⟨v19, v20, v21, v22, v23, v24, v25, v26, v27, v6, rfl, hI⟩ hL hdep hcl K hK
    have hb := hal wx (.cells #[] 5)
    go_simp
    exact hK _ _ ⟨_, v20, v21, v22, v23, v24, v25, v26, v27, v6, rfl, ⟨fun _ => ⟨wx.heap.size, rfl⟩, hI.t1, hI.t2, fun h => let ⟨a, n, c, e, h⟩ := hI.t3 h; ⟨a, n, c, e, h.to hb⟩, hI.t4, hI.t5, hI.t6, fun h => let ⟨a, n, c, e, h⟩ := hI.t7 h; ⟨a, n, c, e, h.to hb⟩, fun h => let ⟨a, n, c, a', n', c', e, h, h'⟩ := hI.t8 h; ⟨a, n, c, a', n', c', e, h.to hb, h'.to hb⟩, fun h => let ⟨X, cur, e, h1, h2, h3, h5, h4⟩ := hI.t9 h; ⟨X, cur, e, h1, h2.kept hb, h3, h5, fun h => let ⟨a, n, c, a', n', c', e, k1, k2⟩ := h4 h; ⟨a, n, c, a', n', c', e, k1.to hb, k2.to hb⟩⟩, (hI.bw).trans (hb.mono hI.bw.size)⟩⟩
  · rintro L a wx ⟨v19, v20, v21, v22, v23, v24, v25, v26, v27, v6, rfl, hI⟩ hL hdep hcl K hK
    go_simp
    exact hK _ _ ⟨v19, _, v21, v22, v23, v24, v25, v26, v27, v6, rfl, ⟨hI.t0, fun _ => rfl, hI.t2, hI.t3, hI.t4, hI.t5, hI.t6, hI.t7, hI.t8, hI.t9, hI.bw⟩⟩
  · rintro L a wx ⟨v19, v20, v21, v22, v23, v24, v25, v26, v27, v6, rfl, hI⟩ hL hdep hcl K hK
    obtain rfl := hI.t1 (hdep 1 (by decide))
    have hA := HI2.out.kept hI.bw
    have cc := hA.cell 0
    simp only [List.getElem?_cons_zero] at cc
    go_simp
    exact hK _ _ ⟨v19, _, _, v22, v23, v24, v25, v26, v27, v6, rfl, ⟨hI.t0, hI.t1, fun _ => rfl, hI.t3, hI.t4, hI.t5, hI.t6, hI.t7, hI.t8, hI.t9, hI.bw⟩⟩
  · rintro L a wx ⟨v19, v20, v21, v22, v23, v24, v25, v26, v27, v6, rfl, hI⟩ hL hdep hcl K hK
    obtain rfl := hI.t2 (hdep 2 (by decide))
    obtain ⟨g, rfl⟩ := hI.t0 (hdep 0 (by decide))
    have hr := HRL.out wx (HB1.out.trans (hI.bw.mono hs1))
    refine ow_append0 _ _ rfl g rfl la ln lc ls rfl hr (by omega) ?_
    intro a' n' c' w' hr' hb
    exact hK _ _ ⟨_, v20, _, _, v23, v24, v25, v26, v27, v6, rfl, ⟨fun _ => ⟨g, rfl⟩, hI.t1, hI.t2, fun _ => ⟨a', n', c', rfl, hr'⟩, hI.t4, hI.t5, hI.t6, fun h => let ⟨a, n, c, e, h⟩ := hI.t7 h; ⟨a, n, c, e, h.to hb⟩, fun h => let ⟨a, n, c, a', n', c', e, h, h'⟩ := hI.t8 h; ⟨a, n, c, a', n', c', e, h.to hb, h'.to hb⟩, fun h => let ⟨X, cur, e, h1, h2, h3, h5, h4⟩ := hI.t9 h; ⟨X, cur, e, h1, h2.kept hb, h3, h5, fun h => let ⟨a, n, c, a', n', c', e, k1, k2⟩ := h4 h; ⟨a, n, c, a', n', c', e, k1.to hb, k2.to hb⟩⟩, (hI.bw).trans (hb.mono hI.bw.size)⟩⟩
  · rintro L a wx ⟨v19, v20, v21, v22, v23, v24, v25, v26, v27, v6, rfl, hI⟩ hL hdep hcl K hK
    have hb := hal wx (.cells #[] 5)
    go_simp
    exact hK _ _ ⟨v19, v20, v21, v22, _, v24, v25, v26, v27, v6, rfl, ⟨hI.t0, hI.t1, hI.t2, fun h => let ⟨a, n, c, e, h⟩ := hI.t3 h; ⟨a, n, c, e, h.to hb⟩, fun _ => ⟨wx.heap.size, rfl⟩, hI.t5, hI.t6, fun h => let ⟨a, n, c, e, h⟩ := hI.t7 h; ⟨a, n, c, e, h.to hb⟩, fun h => let ⟨a, n, c, a', n', c', e, h, h'⟩ := hI.t8 h; ⟨a, n, c, a', n', c', e, h.to hb, h'.to hb⟩, fun h => let ⟨X, cur, e, h1, h2, h3, h5, h4⟩ := hI.t9 h; ⟨X, cur, e, h1, h2.kept hb, h3, h5, fun h => let ⟨a, n, c, a', n', c', e, k1, k2⟩ := h4 h; ⟨a, n, c, a', n', c', e, k1.to hb, k2.to hb⟩⟩, (hI.bw).trans (hb.mono hI.bw.size)⟩⟩
  · rintro L a wx ⟨v19, v20, v21, v22, v23, v24, v25, v26, v27, v6, rfl, hI⟩ hL hdep hcl K hK
    go_simp
    exact hK _ _ ⟨v19, v20, v21, v22, v23, _, v25, v26, v27, v6, rfl, ⟨hI.t0, hI.t1, hI.t2, hI.t3, hI.t4, fun _ => rfl, hI.t6, hI.t7, hI.t8, hI.t9, hI.bw⟩⟩
  · rintro L a wx ⟨v19, v20, v21, v22, v23, v24, v25, v26, v27, v6, rfl, hI⟩ hL hdep hcl K hK
    obtain rfl := hI.t5 (hdep 5 (by decide))
    have hA := HI2.out.kept hI.bw
    have cc := hA.cell 1
    simp only [List.getElem?_cons_zero, List.getElem?_cons_succ] at cc
    go_simp
    exact hK _ _ ⟨v19, v20, v21, v22, v23, _, _, v26, v27, v6, rfl, ⟨hI.t0, hI.t1, hI.t2, hI.t3, hI.t4, hI.t5, fun _ => rfl, hI.t7, hI.t8, hI.t9, hI.bw⟩⟩
  · rintro L a wx ⟨v19, v20, v21, v22, v23, v24, v25, v26, v27, v6, rfl, hI⟩ hL hdep hcl K hK
    obtain rfl := hI.t6 (hdep 6 (by decide))
    obtain ⟨g, rfl⟩ := hI.t4 (hdep 4 (by decide))
    have hr := HRX.out wx (HB1.out.trans (hI.bw.mono hs1))
    refine ow_append0 _ _ rfl g rfl xa xn xc xs rfl hr (by omega) ?_
    intro a' n' c' w' hr' hb
    exact hK _ _ ⟨v19, v20, v21, v22, _, v24, _, _, v27, v6, rfl, ⟨hI.t0, hI.t1, hI.t2, fun h => let ⟨a, n, c, e, h⟩ := hI.t3 h; ⟨a, n, c, e, h.to hb⟩, fun _ => ⟨g, rfl⟩, hI.t5, hI.t6, fun _ => ⟨a', n', c', rfl, hr'⟩, fun h => let ⟨a, n, c, a', n', c', e, h, h'⟩ := hI.t8 h; ⟨a, n, c, a', n', c', e, h.to hb, h'.to hb⟩, fun h => let ⟨X, cur, e, h1, h2, h3, h5, h4⟩ := hI.t9 h; ⟨X, cur, e, h1, h2.kept hb, h3, h5, fun h => let ⟨a, n, c, a', n', c', e, k1, k2⟩ := h4 h; ⟨a, n, c, a', n', c', e, k1.to hb, k2.to hb⟩⟩, (hI.bw).trans (hb.mono hI.bw.size)⟩⟩
  · rintro L a wx ⟨v19, v20, v21, v22, v23, v24, v25, v26, v27, v6, rfl, hI⟩ hL hdep hcl K hK
    obtain ⟨a, n, c, rfl, h1⟩ := hI.t3 (hdep 3 (by decide))
    obtain ⟨a', n', c', rfl, h2⟩ := hI.t7 (hdep 7 (by decide))
    go_simp
    exact hK _ _ ⟨v19, v20, v21, _, v23, v24, v25, _, _, v6, rfl, ⟨hI.t0, hI.t1, hI.t2, fun _ => ⟨a, n, c, rfl, h1⟩, hI.t4, hI.t5, hI.t6, fun _ => ⟨a', n', c', rfl, h2⟩, fun _ => ⟨a, n, c, a', n', c', rfl, h1, h2⟩, hI.t9, hI.bw⟩⟩
  · rintro L a wx ⟨v19, v20, v21, v22, v23, v24, v25, v26, v27, v6, rfl, hI⟩ hL hdep hcl K hK
    refine ow_alloc 34 rfl zI 2 infozI ?_
    intro w' hA hb hs
    exact hK _ _ ⟨v19, v20, v21, v22, v23, v24, v25, v26, v27, _, rfl, ⟨hI.t0, hI.t1, hI.t2, fun h => let ⟨a, n, c, e, h⟩ := hI.t3 h; ⟨a, n, c, e, h.to hb⟩, hI.t4, hI.t5, hI.t6, fun h => let ⟨a, n, c, e, h⟩ := hI.t7 h; ⟨a, n, c, e, h.to hb⟩, fun h => let ⟨a, n, c, a', n', c', e, h, h'⟩ := hI.t8 h; ⟨a, n, c, a', n', c', e, h.to hb, h'.to hb⟩, fun _ => ⟨_, _, rfl, hI.bw.size, hA, rfl, zI_slices, fun h => absurd (hcl 10 (by decide) h 9 (by decide)) (by rw [hL]; decide)⟩, (hI.bw).trans (hb.mono hI.bw.size)⟩⟩
  · rintro L a wx ⟨v19, v20, v21, v22, v23, v24, v25, v26, v27, v6, rfl, hI⟩ hL hdep hcl K hK
    obtain ⟨X, cur, rfl, hX, hA, hl, hcu, -⟩ := hI.t9 (hdep 9 (by decide))
    obtain ⟨a, n, c, a', n', c', rfl, h1, h2⟩ := hI.t8 (hdep 8 (by decide))
    refine ow_store 34 _ _ rfl X 0 rfl [.slice a n c, .slice a' n' c'] rfl 34 cur hA sizeI (by rw [hl]; simp) (by simp [Value.oneCell']) ?_
    intro w' hA' hg hs
    rw [whole_store _ _ (by rw [hl]; rfl)] at hA'
    have keep : ∀ {a : Option Addr} {n c : Nat} {ys : List UInt8}, Rd wx a n c ys → Rd w' a n c ys := fun h => rd_other h hA hg hcu
    have lift : ∀ {v : Value} {ys : List UInt8}, (∃ a n c, v = .slice a n c ∧ Rd wx a n c ys) → ∃ a n c, v = .slice a n c ∧ Rd w' a n c ys := fun ⟨a, n, c, e, h⟩ => ⟨a, n, c, e, keep h⟩
    exact hK _ _ ⟨v19, v20, v21, v22, v23, v24, v25, v26, _, _, rfl, ⟨hI.t0, hI.t1, hI.t2, fun h => lift (hI.t3 h), hI.t4, hI.t5, hI.t6, fun h => lift (hI.t7 h), fun _ => ⟨a, n, c, a', n', c', rfl, keep h1, keep h2⟩, fun _ => ⟨X, _, rfl, hX, hA', rfl, two_slices _ _ _ _ _ _, fun _ => ⟨a, n, c, a', n', c', rfl, keep h1, keep h2⟩⟩, hI.bw.grown hg hI.bw.size (by intro k hk; cases hk; exact hX)⟩⟩
  · rintro a w2 ⟨v19, v20, v21, v22, v23, v24, v25, v26, v27, v6, rfl, hI⟩
    obtain ⟨X, cur, rfl, hX, hA, -, -, h4⟩ := hI.t9 rfl
    obtain ⟨a1, n1, c1, a2, n2, c2, rfl, k1, k2⟩ := h4 rfl
    have h2 : TkW w B X la ln lc xa xn xc a1 n1 c1 a2 n2 c2 oa on oc bs ls xs w2 := ⟨HB1.out.trans (hI.bw.mono hs1), Nat.le_trans hs1 hI.bw.size, HI2.out.kept hI.bw, hA, HRO.out.to hI.bw, k1, k2⟩
    clear hI h4 hA k1 k2
    obtain ⟨t1, l1, e1, hR1⟩ : ∃ t1 l1 e1, takeRecR bs = ((t1, l1), e1) := ⟨_, _, _, rfl⟩
    obtain ⟨t2, l2, e2, hR2⟩ : ∃ t2 l2 e2, takeItemR ls xs = ((t2, l2), e2) := ⟨_, _, _, rfl⟩
    have sm1 := Lib.hid (takeRec_small hR1)
    have sm2 := Lib.hid (takeItem_small hR2)
    have HR1 := Lib.hid hR1
    have HR2 := Lib.hid hR2
    have hn1 : n1 ≤ 140737488355327 := by have := h2.q1.len; have := hlnl.out; omega
    have hn2 : n2 ≤ 140737488355327 := by have := h2.q2.len; have := hlnx.out; omega
    have hon' : on ≤ 140737488355327 := by have := hlnb.out; omega
    have H2 := Lib.hid h2
    clear hR1 hR2 hon h2
    go_wp2_with fail
    refine (TakeRecord_any oa on oc bs w2 (by omega) H2.out.ro).mono ?_
    rw [HR1.out]
    rintro e w3 ⟨a3, n3, c3, rfl, hO3, hb3⟩
    have hs3 := hb3.size
    have HO3 := Lib.hid (show OwnC w3 w2.heap.size (.slice a3 n3 c3) l1 from hO3)
    have hn3 : n3 ≤ 4 := by have := HO3.out.len; have := sm1.out.1; omega
    have HB3 := Lib.hid hb3
    clear hO3 hb3
    have hba := hal w3 (.cells #[.int .u64 (t1 : Int), .slice a3 n3 c3] 25)
    have hX3 := Arr.new w3 25 [.int .u64 (t1 : Int), .slice a3 n3 c3]
    have hs4 := hba.size
    have HB4 := Lib.hid hba
    go_upto_region 4 with (fail)
    generalize w3.alloc (.cells #[.int .u64 (t1 : Int), .slice a3 n3 c3] 25) = w4 at *
    obtain ⟨X3, hX3e⟩ : ∃ X3, X3 = w3.heap.size := ⟨_, rfl⟩
    rw [← hX3e] at hX3 ⊢
    have HX3e := Lib.hid hX3e
    clear hX3e hba
    have HL4 := Lib.hid (HB3.out.trans (HB4.out.mono hs3))
    go_wp2_with fail
    refine (refTakeRecord_any ba bn bc bs w4 (by omega) (HRB.out w4 (H2.out.to HL4.out).bw)).mono ?_
    rw [HR1.out]
    rintro e w5 ⟨a5, n5, c5, rfl, hO5, hb5⟩
    have hs5 := hb5.size
    have HO5 := Lib.hid (show OwnC w5 w4.heap.size (.slice a5 n5 c5) l1 from hO5)
    have hn5 : n5 ≤ 4 := by have := HO5.out.len; have := sm1.out.1; omega
    have hX35 := hX3.kept hb5
    have HB5 := Lib.hid hb5
    clear hO5 hX3
    have hba := hal w5 (.cells #[.int .u64 (t1 : Int), .slice a5 n5 c5] 25)
    have hX4 := Arr.new w5 25 [.int .u64 (t1 : Int), .slice a5 n5 c5]
    have hs6 := hba.size
    have HB6 := Lib.hid hba
    have hX36 := hX35.kept hba
    go_upto_region 5 with (fail)
    generalize w5.alloc (.cells #[.int .u64 (t1 : Int), .slice a5 n5 c5] 25) = w6 at *
    obtain ⟨X4, hX4e⟩ : ∃ X4, X4 = w5.heap.size := ⟨_, rfl⟩
    rw [← hX4e] at hX4 ⊢
    clear hX4e hba hb5 hX35
    have HL6 := Lib.hid (HL4.out.trans ((HB5.out.trans (HB6.out.mono hs5)).mono (by omega)))
    have h6 := H2.out.to HL6.out
    have i0 := h6.it.cell 0
    have i1 := h6.it.cell 1
    simp only [List.getElem?_cons_zero, List.getElem?_cons_succ] at i0 i1
    have H6 := Lib.hid h6
    clear h6
    go_wp2_with fail
    refine (TakeItem_any a1 n1 c1 a2 n2 c2 ls xs w6 (by omega) (by omega) H6.out.q1 H6.out.q2).mono ?_
    rw [HR2.out]
    rintro e w7 ⟨a7, n7, c7, rfl, hO7, hb7⟩
    have hs7 := hb7.size
    have HO7 := Lib.hid (show OwnC w7 w6.heap.size (.slice a7 n7 c7) l2 from hO7)
    have hn7 : n7 ≤ 5 := by have := HO7.out.len; have := sm2.out.1; omega
    have hX37 := hX36.kept hb7
    have hX47 := hX4.kept hb7
    have HB7 := Lib.hid hb7
    clear hO7 hX36 hX4 i0 i1
    have hba := hal w7 (.cells #[.int .u64 (t2 : Int), .slice a7 n7 c7] 25)
    have hX5 := Arr.new w7 25 [.int .u64 (t2 : Int), .slice a7 n7 c7]
    have hs8 := hba.size
    have HB8 := Lib.hid hba
    have hX38 := hX37.kept hba
    have hX48 := hX47.kept hba
    go_upto_region 6 with (fail)
    generalize w7.alloc (.cells #[.int .u64 (t2 : Int), .slice a7 n7 c7] 25) = w8 at *
    obtain ⟨X5, hX5e⟩ : ∃ X5, X5 = w7.heap.size := ⟨_, rfl⟩
    rw [← hX5e] at hX5 ⊢
    have hX5g : w7.heap.size ≤ X5 := Nat.le_of_eq hX5e.symm
    clear hX5e hba hb7 hX37 hX47
    have HL8 := Lib.hid (HL6.out.trans ((HB7.out.trans (HB8.out.mono hs7)).mono (by omega)))
    have h8 := H2.out.to HL8.out
    have i0 := h8.i.cell 0
    have i1 := h8.i.cell 1
    simp only [List.getElem?_cons_zero, List.getElem?_cons_succ] at i0 i1
    have H8 := Lib.hid h8
    clear h8
    go_wp2_with fail
    refine (refTakeItem_any la ln lc xa xn xc ls xs w8 (by omega) (by omega) (HRL.out w8 H8.out.bw) (HRX.out w8 H8.out.bw)).mono ?_
    rw [HR2.out]
    rintro e w9 ⟨a9, n9, c9, rfl, hO9, hb9⟩
    have hs9 := hb9.size
    have HO9 := Lib.hid (show OwnC w9 w8.heap.size (.slice a9 n9 c9) l2 from hO9)
    have hn9 : n9 ≤ 5 := by have := HO9.out.len; have := sm2.out.1; omega
    have hX39 := hX38.kept hb9
    have hX49 := hX48.kept hb9
    have hX59 := hX5.kept hb9
    have HB9 := Lib.hid hb9
    clear hO9 hX38 hX48 hX5 i0 i1
    have hba := hal w9 (.cells #[.int .u64 (t2 : Int), .slice a9 n9 c9] 25)
    have hX6 := Arr.new w9 25 [.int .u64 (t2 : Int), .slice a9 n9 c9]
    have hs10 := hba.size
    have HB10 := Lib.hid hba
    have hX3A := hX39.kept hba
    have hX4A := hX49.kept hba
    have hX5A := hX59.kept hba
    go_upto_region 7 with (fail)
    generalize w9.alloc (.cells #[.int .u64 (t2 : Int), .slice a9 n9 c9] 25) = w10 at *
    obtain ⟨X6, hX6e⟩ : ∃ X6, X6 = w9.heap.size := ⟨_, rfl⟩
    rw [← hX6e] at hX6 ⊢
    clear hX6e hba hb9 hX39 hX49 hX59
    have ch3 : Chn w10 a3 n3 c3 l1 := by
      obtain ⟨_, _, _, ee, hc⟩ := HO3.out.chn
      cases ee
      exact ((((hc.to HB4.out).to HB5.out).to HB6.out).to HB7.out).to HB8.out |>.to HB9.out |>.to HB10.out
    have ch5 : Chn w10 a5 n5 c5 l1 := by
      obtain ⟨_, _, _, ee, hc⟩ := HO5.out.chn
      cases ee
      exact ((hc.to HB6.out).to HB7.out).to HB8.out |>.to HB9.out |>.to HB10.out
    have ch7 : Chn w10 a7 n7 c7 l2 := by
      obtain ⟨_, _, _, ee, hc⟩ := HO7.out.chn
      cases ee
      exact ((hc.to HB8.out).to HB9.out).to HB10.out
    have ch9 : Chn w10 a9 n9 c9 l2 := by
      obtain ⟨_, _, _, ee, hc⟩ := HO9.out.chn
      cases ee
      exact hc.to HB10.out
    have hS1 := refSame_any t1 t1 a3 a5 n3 c3 n5 c5 l1 l1 w10 (by omega) (by omega) ch3 ch5
    rw [same_self] at hS1
    have HS1 := Lib.hid hS1
    have CH7 := Lib.hid ch7
    have CH9 := Lib.hid ch9
    clear hS1 ch3 ch5 ch7 ch9
    have x0 := hX3A.cell 0
    have x1 := hX3A.cell 1
    have y0 := hX4A.cell 0
    have y1 := hX4A.cell 1
    simp only [List.getElem?_cons_zero, List.getElem?_cons_succ] at x0 x1 y0 y1
    go_wp2_with fail
    refine HS1.out.mono ?_
    rintro e w11 ⟨rfl, hb11⟩
    have hs11 := hb11.size
    have hX3B := hX3A.kept hb11
    have hX5B := hX5A.kept hb11
    have hX6B := hX6.kept hb11
    have HB11 := Lib.hid hb11
    have hS2 := refSame_any t2 t2 a7 a9 n7 c7 n9 c9 l2 l2 w11 (by omega) (by omega) (CH7.out.to hb11) (CH9.out.to hb11)
    rw [same_self] at hS2
    have HS2 := Lib.hid hS2
    clear hS2 x0 x1 y0 y1 hb11 hX3A hX4A hX5A hX6
    have x0 := hX5B.cell 0
    have x1 := hX5B.cell 1
    have y0 := hX6B.cell 0
    have y1 := hX6B.cell 1
    simp only [List.getElem?_cons_zero, List.getElem?_cons_succ] at x0 x1 y0 y1
    go_wp2_with fail
    refine HS2.out.mono ?_
    rintro e w12 ⟨rfl, hb12⟩
    have hs12 := hb12.size
    have hX3C := hX3B.kept hb12
    have hX5C := hX5B.kept hb12
    have HB12 := Lib.hid hb12
    have HL12 := Lib.hid (HL8.out.trans (((HB9.out.trans (HB10.out.mono hs9)).trans ((HB11.out.trans (HB12.out.mono hs11)).mono (by omega))).mono (by omega)))
    have HU3 := Lib.hid (HB4.out.trans (((HB5.out.trans (HB6.out.mono hs5)).trans (((HB7.out.trans (HB8.out.mono hs7)).trans (((HB9.out.trans (HB10.out.mono hs9)).trans ((HB11.out.trans (HB12.out.mono hs11)).mono (by omega))).mono (by omega))).mono (by omega))).mono (by omega)))
    have HO7C := Lib.hid (((HO7.out.to HB8.out).to HB9.out).to HB10.out |>.to HB11.out |>.to HB12.out)
    clear x0 x1 y0 y1 hb12 hX3B hX5B hX6B
    have x1 := hX3C.cell 1
    simp only [List.getElem?_cons_zero, List.getElem?_cons_succ] at x1
    go_wp2_with fail
    refine (spoil_any w2.heap.size a3 n3 c3 l1 w3 w12 HO3.out HU3.out (by omega) (fun x hx => Nat.le_trans (sm1.out.2 x hx) (by decide))).mono ?_
    rintro e w13 ⟨rfl, hM⟩
    have hX5D := hX5C.hi hM.high (by omega)
    have HO7D := Lib.hid (HO7C.out.hi hM.high (by omega))
    have HL13 := Lib.hid (HL12.out.trans hM.low)
    clear hM x1 hX3C hX5C
    have x1 := hX5D.cell 1
    simp only [List.getElem?_cons_zero, List.getElem?_cons_succ] at x1
    go_wp2_with fail
    refine (spoil_any w6.heap.size a7 n7 c7 l2 w13 w13 HO7D.out (Below.refl _ _) (by omega) (fun x hx => Nat.le_trans (sm2.out.2 x hx) (by decide))).mono ?_
    rintro e w14 ⟨rfl, hM⟩
    have HL14 := Lib.hid (HL13.out.trans (hM.low.mono (by omega)))
    clear hM x1 hX5D
    go_wp2_with fail
    refine (awake_any w14).mono ?_
    rintro e w15 ⟨rfl, hb15⟩
    have HL15 := Lib.hid (HL14.out.trans (hb15.mono (by have := HL14.out.size; omega)))
    have h15 := H2.out.to HL15.out
    have i0 := h15.i.cell 0
    have i1 := h15.i.cell 1
    have d0 := h15.it.cell 0
    have d1 := h15.it.cell 1
    simp only [List.getElem?_cons_zero, List.getElem?_cons_succ] at i0 i1 d0 d1
    have E1 := Equal_any oa ba on oc bn bc bs bs w15 h15.ro (HRB.out w15 h15.bw)
    have E2 := Equal_any a1 la n1 c1 ln lc ls ls w15 h15.q1 (HRL.out w15 h15.bw)
    have E3 := Equal_any a2 xa n2 c2 xn xc xs xs w15 h15.q2 (HRX.out w15 h15.bw)
    rw [decide_eq_true rfl] at E1 E2 E3
    have HE1 := Lib.hid E1
    have HE2 := Lib.hid E2
    have HE3 := Lib.hid E3
    have HF := Lib.hid h15.bw
    clear E1 E2 E3 h15 hb15
    go_wp2_with fail
    refine HE1.out.mono ?_
    rintro e wq ⟨rfl, rfl⟩
    go_wp2_with fail
    refine HE2.out.mono ?_
    rintro e wq ⟨rfl, rfl⟩
    go_wp2_with fail
    refine HE3.out.mono ?_
    rintro e wq ⟨rfl, rfl⟩
    go_wp2_with fail
    go_ret
    exact ⟨rfl, by rw [HB.out]; exact HF.out⟩
end Go.Proofs.Ytcohcjhbkiangaa
