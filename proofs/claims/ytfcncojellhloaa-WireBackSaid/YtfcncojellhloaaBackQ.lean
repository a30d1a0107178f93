/-
  What WireBack keeps: things in rows, their bytes, two readers. Conditions: those in each statement.
-/
import Derived.Test.YtfcncojellhloaaBackP
import Derived.Test.YtfcncojellhloaaWireF
import Derived.Test.YtfcncojellhloaaTop
import Derived.Deep.DeepCutAuto
import Derived.Deep.CutBlock
import Derived.Deep.AppendLies
namespace Go.Proofs.Ytfcncojellhloaa
open Go.ChangeShapes Go.WideShapes Go.ChangeAt Go.RowKit

theorem tsize_any (v : Bool) (s num : Int) (sl : Value) (w : World) (hsl : ∃ a n c, sl = .slice a n c) :
    Calls Try.prog 23 #[.agg #[.bool v, .int .i64 s, .int .u64 num, sl]] w fun e w' => e = .returned (.int .i64 (tsz v s : Int)) ∧ Below w.heap.size w w' := by
  obtain ⟨a, n, c, rfl⟩ := hsl
  cases v with
  | true =>
    have hk : wrap64 (1 + wrap64 ((IntKind.u64.wrap s).tmod 3)) = ((tsz true s : Nat) : Int) := by
      rw [IntKind.wrap_u64, IntWalk.rem_in _ _ (by omega)]
      unfold wrap64 tsz
      rw [if_pos rfl]
      omega
    go_enter Try.func23, Try.ntmps23
    go_wp2
    go_ret
    exact ⟨ret_int (by first | rfl | exact hk | exact hk.symm), (Below.refl _ _).alloc (Nat.le_refl _) _⟩
  | false =>
    have h5 : ((s % 18446744073709551616) % 5).toNat < 5 := by omega
    have hk : wrap64 ((IntKind.u64.wrap s).tmod 5) = ((((s % 18446744073709551616) % 5).toNat : Nat) : Int) := by
      rw [IntKind.wrap_u64, IntWalk.rem_in _ _ (by omega)]
      unfold wrap64
      omega
    have ht : tsz false s = [1, 2, 3, 4, 8].getD ((s % 18446744073709551616) % 5).toNat 0 := rfl
    rw [ht]
    clear ht
    generalize ((s % 18446744073709551616) % 5).toNat = i at *
    have : i = 0 ∨ i = 1 ∨ i = 2 ∨ i = 3 ∨ i = 4 := by omega
    rcases this with rfl | rfl | rfl | rfl | rfl
    all_goals
      go_enter Try.func23, Try.ntmps23
      go_wp2
      go_ret
      exact ⟨rfl, ((Below.refl _ _).alloc (Nat.le_refl _) _).alloc (by simp) _⟩

theorem undrew {W w' : World} (h : Below W.drew.heap.size W.drew w') : Below W.heap.size W w' := ⟨h.os, h.tape, h.output, h.size, h.block⟩

theorem infoT : (Try.prog.info? 57).map (fun i => (i.zero, i.size, i.bytes)) = some (some (.agg #[.bool false, .int .i64 0, .int .u64 0, .slice none 0 0]), 4, 48) := by kernel_rfl
theorem infoI : (Try.prog.info? 3).map (fun i => (i.zero, i.size, i.bytes)) = some (some (.int .i64 0), 1, 8) := by kernel_rfl

theorem row_to {w w' : World} {B : Nat} {E : TypeId} {sz n : Nat} {v : Value} {xs : List Value} (h : w.ownsRow B E sz v n xs) (hb : Below w.heap.size w w') : w'.ownsRow B E sz v n xs := by
  have hlt := World.ownsRow.lt h
  obtain ⟨h1, ⟨rfl, hn⟩ | ⟨g, cap, cur, rfl, hbb, hg, r⟩⟩ := h
  · exact ⟨h1, .inl ⟨rfl, hn⟩⟩
  · exact ⟨h1, .inr ⟨g, cap, cur, rfl, hbb, by rw [hb.block g (hlt g rfl).2]; exact hg, r⟩⟩
/-- rows of unlike elements lie in unlike blocks -/
theorem row_ne {w : World} {B B' : Nat} {E E' : TypeId} {sz sz' n n' : Nat} {v v' : Value} {xs xs' : List Value} (h : w.ownsRow B E sz v n xs) (h' : w.ownsRow B' E' sz' v' n' xs') (hE : E ≠ E') : v.ownBlock = none ∨ v.ownBlock ≠ v'.ownBlock := by
  obtain ⟨_, ⟨rfl, _⟩ | ⟨g, cap, cur, rfl, _, hg, _⟩⟩ := h
  · exact .inl rfl
  · refine .inr fun e => ?_
    obtain ⟨_, ⟨rfl, _⟩ | ⟨g', cap', cur', rfl, _, hg', _⟩⟩ := h'
    · cases e
    · simp only [Value.ownBlock] at e
      injection e with e
      rw [← e, hg] at hg'
      injection hg' with hg'
      injection hg' with _ h2
      exact hE h2

/-- the cells of a thing -/
def cellsT (t : KT) : List Value := [.bool t.vec, .int .i64 t.size, .int .u64 (t.num : Int), .slice t.a t.bs.length t.cap]


structure Kept (w : World) (ks : List KT) (es : List Nat) : Prop where
  each : ∀ t ∈ ks, Rd w t.a t.bs.length t.cap t.bs ∧ t.num ≤ 18446744073709551615 ∧ t.bs.length ≤ 300 ∧ okT t
  ends : ∀ j, j < ks.length → es.getD j 0 = (encL (ks.take (j + 1))).length
  len : es.length = ks.length
theorem Kept.nil (w : World) : Kept w [] [] := ⟨by simp, by simp, rfl⟩
theorem Kept.add {w : World} {ks : List KT} {es : List Nat} (h : Kept w ks es) (t : KT) (ht : Rd w t.a t.bs.length t.cap t.bs ∧ t.num ≤ 18446744073709551615 ∧ t.bs.length ≤ 300 ∧ okT t) : Kept w (ks ++ [t]) (es ++ [(encL (ks ++ [t])).length]) := by
  have hl := h.len
  refine ⟨fun x hx => ?_, fun j hj => ?_, by simp [hl]⟩
  · rcases List.mem_append.1 hx with h1 | h1
    · exact h.each x h1
    · simp at h1; subst h1; exact ht
  · by_cases hj2 : j < ks.length
    · rw [List.take_append_of_le_length (by omega), ← h.ends j hj2]
      simp [List.getD, hl, hj2, List.getElem?_append]
    · have hj3 : j = ks.length := by simp at hj; omega
      subst hj3
      rw [List.take_of_length_le (by simp), ← hl]
      simp [List.getD]
theorem Kept.small {w : World} {ks : List KT} {es : List Nat} (h : Kept w ks es) : (encL ks).length ≤ 308 * ks.length := encL_len ks fun t ht => (h.each t ht).2.2.1

/-- a goal at which the walk stands -/
def Stand (p : Prop) : Prop := p
theorem stand {p : Prop} (h : Stand p) : p := h

def endV (x : Nat) : Value := .int .i64 (x : Int)
structure KMem (g : Nat) (w wr : World) (all kept ends : Value) (ks : List KT) (es : List Nat) : Prop where
  all : Own wr g 5 all (encL ks)
  kept : wr.ownsRow g 57 4 kept ks.length (ks.map cellsT).flatten
  ends : wr.ownsRow g 3 1 ends ks.length (es.map endV)
  below : Below g w wr
theorem KMem.to {g : Nat} {w wr w' : World} {all kept ends : Value} {ks : List KT} {es : List Nat} (h : KMem g w wr all kept ends ks es) (hb : Below wr.heap.size wr w') (hg : g ≤ wr.heap.size) : KMem g w w' all kept ends ks es :=
  ⟨h.all.to hb, row_to h.kept hb, row_to h.ends hb, h.below.trans (hb.mono hg)⟩
theorem cellsT_len (l : List KT) : (l.map cellsT).flatten.length = l.length * 4 := by
  induction l with
  | nil => rfl
  | cons x r ih => simp only [List.map_cons, List.flatten_cons, List.length_append, ih, List.length_cons]; simp [cellsT]; omega

theorem flat_at (ks : List KT) : ∀ (j : Nat) (t : KT), ks[j]? = some t → ∀ i, i < 4 → ((ks.map cellsT).flatten)[j * 4 + i]? = (cellsT t)[i]? := by
  induction ks with
  | nil => intro j t h; simp at h
  | cons x r ih =>
    intro j t h i hi
    have hx : (cellsT x).length = 4 := rfl
    cases j with
    | zero =>
      have e : x = t := by simpa using h
      subst e
      rw [List.map_cons, List.flatten_cons, Nat.zero_mul, Nat.zero_add, List.getElem?_append_left (by omega)]
    | succ j =>
      have h' : r[j]? = some t := by simpa using h
      rw [List.map_cons, List.flatten_cons, List.getElem?_append_right (by omega), hx, show (j + 1) * 4 + i - 4 = j * 4 + i by omega]
      exact ih j t h' i hi

theorem row_shape {w : World} {B : Nat} {E : TypeId} {sz n : Nat} {v : Value} {xs : List Value} (h : w.ownsRow B E sz v n xs) : ∃ p cap, v = .slice p n cap ∧ n ≤ cap := by
  obtain ⟨h1, ⟨rfl, hn⟩ | ⟨g, cap, cur, rfl, hbb, hg, hn, r⟩⟩ := h
  · exact ⟨none, 0, by rw [hn], by omega⟩
  · exact ⟨_, cap, rfl, hn⟩
theorem row_at {w : World} {B : Nat} {E : TypeId} {sz n cap : Nat} {p : Option Addr} {xs : List Value} (h : w.ownsRow B E sz (.slice p n cap) n xs) (hn : 0 < n) : ∃ q, p = some ⟨q, 0, none⟩ ∧ q < w.heap.size ∧ ∀ k, k < xs.length → w.cell? ⟨q, k, none⟩ = xs[k]? := by
  obtain ⟨h1, ⟨e, hn0⟩ | ⟨q, cap', cur, e, hbb, hg, hnc, hcm, hcs, ht⟩⟩ := h
  · omega
  · injection e with e1 e2 e3
    subst e1 e3
    refine ⟨q, rfl, lt_of_block hg, fun k hk => ?_⟩
    rw [cell_of_row _ q _ _ _ (0, 0) hg, ← ht, List.getElem?_take_of_lt (by rw [h1] at hk; exact hk)]
    simp

theorem KMem.keptAt {g : Nat} {w wr : World} {all ends : Value} {pk : Option Addr} {n ck : Nat} {ks : List KT} {es : List Nat} (h : KMem g w wr all (.slice pk n ck) ends ks es) (hn : n = ks.length) {j : Nat} {t : KT} (hj : ks[j]? = some t) :
    ∃ q, pk = some ⟨q, 0, none⟩ ∧ q < wr.heap.size ∧ wr.cell? ⟨q, j * 4, none⟩ = some (.bool t.vec) ∧ wr.cell? ⟨q, j * 4 + 1, none⟩ = some (.int .i64 t.size) ∧ wr.cell? ⟨q, j * 4 + 2, none⟩ = some (.int .u64 (t.num : Int)) ∧ wr.cell? ⟨q, j * 4 + 3, none⟩ = some (.slice t.a t.bs.length t.cap) := by
  have hk := h.kept
  subst hn
  have hl : j < ks.length := (List.getElem?_eq_some_iff.1 hj).1
  obtain ⟨q, e, hq, hall⟩ := row_at hk (by omega)
  have hlen := cellsT_len ks
  refine ⟨q, e, hq, ?_, ?_, ?_, ?_⟩
  · rw [hall (j * 4) (by omega)]; exact flat_at ks j t hj 0 (by omega)
  · rw [hall (j * 4 + 1) (by omega)]; exact flat_at ks j t hj 1 (by omega)
  · rw [hall (j * 4 + 2) (by omega)]; exact flat_at ks j t hj 2 (by omega)
  · rw [hall (j * 4 + 3) (by omega)]; exact flat_at ks j t hj 3 (by omega)
theorem KMem.endsAt {g : Nat} {w wr : World} {all kept : Value} {pe : Option Addr} {n ce : Nat} {ks : List KT} {es : List Nat} (h : KMem g w wr all kept (.slice pe n ce) ks es) (hn : n = ks.length) (hle : es.length = ks.length) {j : Nat} (hj : j < ks.length) :
    ∃ q, pe = some ⟨q, 0, none⟩ ∧ q < wr.heap.size ∧ wr.cell? ⟨q, j, none⟩ = some (.int .i64 (es.getD j 0 : Nat)) := by
  have hk := h.ends
  subst hn
  obtain ⟨q, e, hq, hall⟩ := row_at hk (by omega)
  refine ⟨q, e, hq, ?_⟩
  rw [hall j (by rw [List.length_map]; omega), List.getElem?_map]
  have : j < es.length := by omega
  simp [List.getD, this, endV]

theorem ks_at {ks : List KT} {j : Nat} (h : j < ks.length) : ∃ t R, t ∈ ks ∧ ks[j]? = some t ∧ encL (ks.drop j) = encT t ++ R ∧ R = encL (ks.drop (j + 1)) ∧ (encL (ks.take (j + 1))).length = (encL (ks.take j)).length + (encT t).length := by
  refine ⟨ks[j], encL (ks.drop (j + 1)), List.getElem_mem h, List.getElem?_eq_getElem h, ?_, rfl, ?_⟩
  · rw [List.drop_eq_getElem_cons h, encL_cons]
  · rw [List.take_succ_eq_append_getElem h, encL_append, List.length_append]
    simp [encL]

/-- what the second reader has left: the beginning's rest, or nothing any more -/
def SState (ks : List KT) (c j : Nat) (sh : Bool) (x2 : List UInt8) : Prop :=
  (sh = false ∧ (encL (ks.take j)).length ≤ c ∧ x2 = (encL (ks.drop j)).take (c - (encL (ks.take j)).length)) ∨ (sh = true ∧ c < (encL (ks.take j)).length ∧ x2 = [])

/-- two readers of the call's own -/
structure Two (h0 : Nat) (wc wr : World) (q1 : Option Nat) (r1 : Nat) (x1 : List UInt8) (q2 : Option Nat) (r2 : Nat) (x2 : List UInt8) : Prop where
  d1 : Rdr wr 66 [.bool true] q1 r1 x1
  d2 : Rdr wr 66 [.bool true] q2 r2 x2
  ne : r1 ≠ r2
  n1 : ∀ k, q1 = some k → k ≠ r2 ∧ k < wr.heap.size
  n2 : ∀ k, q2 = some k → k ≠ r1 ∧ k < wr.heap.size
  b1 : h0 ≤ r1
  b2 : h0 ≤ r2
  bl : Below h0 wc wr
theorem Two.to {h0 : Nat} {wc w w' : World} {q1 : Option Nat} {r1 : Nat} {x1 : List UInt8} {q2 : Option Nat} {r2 : Nat} {x2 : List UInt8} (h : Two h0 wc w q1 r1 x1 q2 r2 x2) (hb : Below w.heap.size w w') (hc : h0 ≤ wc.heap.size) : Two h0 wc w' q1 r1 x1 q2 r2 x2 := by
  have hs := hb.size
  refine ⟨h.d1.kept hs (fun k hk => hb.block k (h.n1 k hk).2) (hb.block r1 h.d1.lt), h.d2.kept hs (fun k hk => hb.block k (h.n2 k hk).2) (hb.block r2 h.d2.lt), h.ne, fun k hk => ⟨(h.n1 k hk).1, by have := (h.n1 k hk).2; omega⟩, fun k hk => ⟨(h.n2 k hk).1, by have := (h.n2 k hk).2; omega⟩, h.b1, h.b2, h.bl.trans (hb.mono (by have := h.bl.size; omega))⟩
theorem Two.first {h0 : Nat} {wc w w' : World} {q1 : Option Nat} {r1 : Nat} {x1 x1' : List UInt8} {q2 : Option Nat} {r2 : Nat} {x2 : List UInt8} (h : Two h0 wc w q1 r1 x1 q2 r2 x2) (hd : Rdr w' 66 [.bool true] q1 r1 x1') (hg : w.grownBy w' (some r1)) (hc : h0 ≤ wc.heap.size) : Two h0 wc w' q1 r1 x1' q2 r2 x2 := by
  have hs := hg.size
  refine ⟨hd, h.d2.kept hs (fun k hk => hg.block k (h.n2 k hk).2 (by intro e; injection e with e; exact (h.n2 k hk).1 e)) (hg.block r2 h.d2.lt (by intro e; injection e with e; exact h.ne e.symm)), h.ne, fun k hk => ⟨(h.n1 k hk).1, by have := (h.n1 k hk).2; omega⟩, fun k hk => ⟨(h.n2 k hk).1, by have := (h.n2 k hk).2; omega⟩, h.b1, h.b2, h.bl.grown hg (by have := h.bl.size; omega) (by intro k e; injection e with e; have := h.b1; omega)⟩
theorem Two.second {h0 : Nat} {wc w w' : World} {q1 : Option Nat} {r1 : Nat} {x1 : List UInt8} {q2 : Option Nat} {r2 : Nat} {x2 x2' : List UInt8} (h : Two h0 wc w q1 r1 x1 q2 r2 x2) (hd : Rdr w' 66 [.bool true] q2 r2 x2') (hg : w.grownBy w' (some r2)) (hc : h0 ≤ wc.heap.size) : Two h0 wc w' q1 r1 x1 q2 r2 x2' := by
  have hs := hg.size
  refine ⟨h.d1.kept hs (fun k hk => hg.block k (h.n1 k hk).2 (by intro e; injection e with e; exact (h.n1 k hk).1 e)) (hg.block r1 h.d1.lt (by intro e; injection e with e; exact h.ne e)), hd, h.ne, fun k hk => ⟨(h.n1 k hk).1, by have := (h.n1 k hk).2; omega⟩, fun k hk => ⟨(h.n2 k hk).1, by have := (h.n2 k hk).2; omega⟩, h.b1, h.b2, h.bl.grown hg (by have := h.bl.size; omega) (by intro k e; injection e with e; have := h.b2; omega)⟩
theorem Two.fresh {h0 : Nat} {wc w w' : World} {q1 : Option Nat} {r1 : Nat} {x1 : List UInt8} {q2 : Option Nat} {r2 : Nat} {x2 : List UInt8} (h : Two h0 wc w q1 r1 x1 q2 r2 x2) {q3 : Option Nat} {r3 : Nat} {x3 : List UInt8} (hd : Rdr w' 66 [.bool true] q3 r3 x3) (hq : ∀ k, q3 = some k → w.heap.size ≤ k ∧ k < w'.heap.size) (hr : w.heap.size ≤ r3) (hb : Below w.heap.size w w') (hc : h0 ≤ wc.heap.size) : Two h0 wc w' q1 r1 x1 q3 r3 x3 := by
  have h2 := h.to hb hc
  have l1 := h.d1.lt
  have := h.bl.size
  refine ⟨h2.d1, hd, by omega, fun k hk => ⟨by have := (h.n1 k hk).2; omega, (h2.n1 k hk).2⟩, fun k hk => ⟨by have := (hq k hk).1; omega, (hq k hk).2⟩, h.b1, by omega, h2.bl⟩
theorem Two.start {w0 wx wy : World} {q1 : Option Nat} {r1 : Nat} {x1 : List UInt8} {q2 : Option Nat} {r2 : Nat} {x2 : List UInt8} (h1 : Rdr wx 66 [.bool true] q1 r1 x1) (hq1 : ∀ k, q1 = some k → w0.heap.size ≤ k ∧ k < wx.heap.size) (hl1 : w0.heap.size ≤ r1) (hb1 : Below w0.heap.size w0 wx)
    (h2 : Rdr wy 66 [.bool true] q2 r2 x2) (hq2 : ∀ k, q2 = some k → wx.heap.size ≤ k ∧ k < wy.heap.size) (hl2 : wx.heap.size ≤ r2) (hb2 : Below wx.heap.size wx wy) : Two w0.heap.size w0 wy q1 r1 x1 q2 r2 x2 := by
  have hs1 := hb1.size
  have hs2 := hb2.size
  have l1 := h1.lt
  refine ⟨h1.kept hs2 (fun k hk => hb2.block k (hq1 k hk).2) (hb2.block r1 l1), h2, by omega, fun k hk => ⟨by have := (hq1 k hk).2; omega, by have := (hq1 k hk).2; omega⟩, fun k hk => ⟨by have := (hq2 k hk).1; omega, (hq2 k hk).2⟩, hl1, by omega, hb1.trans (hb2.mono hs1)⟩

theorem own_grown {w w' : World} {B : Nat} {E : TypeId} {v : Value} {xs : List UInt8} {r : Option Nat} (h : Own w B E v xs) (hb : w.grownBy w' r) (hr : ∀ g, v.ownBlock = some g → some g ≠ r) : Own w' B E v xs := by
  have hlt := World.ownsRow.lt h
  obtain ⟨h1, ⟨rfl, hn⟩ | ⟨g, cap, cur, rfl, hbb, hg, r⟩⟩ := h
  · exact ⟨h1, .inl ⟨rfl, hn⟩⟩
  · exact ⟨h1, .inr ⟨g, cap, cur, rfl, hbb, by rw [hb.block g (hlt g rfl).2 (hr g rfl)]; exact hg, r⟩⟩
end Go.Proofs.Ytfcncojellhloaa
