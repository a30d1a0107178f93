/-
  The program's Put: the text of any bytes. Conditions: those in each statement.
-/
import Derived.Test.YtpfhbkjjijmpaaaBaseI
import Derived.Test.YtpfhbkjjijmpaaaBaseW
namespace Go.Proofs.Ytpfhbkjjijmpaaa
open Go.RowKit Go.Shelf
attribute [local go_sem] Oper.semAt_some

theorem rd_drop {w : World} {b off n cap : Nat} {xs : List UInt8} (h : Rd w (some ⟨b, off, none⟩) n cap xs) (m : Nat) (hm : m ≤ n) (hc : m < cap) : Rd w (some ⟨b, off + m, none⟩) (n - m) (cap - m) (xs.drop m) := by
  have hl := h.len
  obtain ⟨b', off', e, h2, h3⟩ := h.mem (by omega)
  cases e
  refine ⟨by simp; omega, by have := h.le; omega, (by intro e; cases e), fun _ => ⟨b, off + m, rfl, h2, fun j hj => ?_⟩⟩
  have := h3 (m + j) (by omega)
  simp only [Nat.add_assoc] at this ⊢
  rw [this]
  simp [List.getD]

/-- the text of one part -/
def partF (xs : List UInt8) (k : Nat) : List UInt8 := putF ((xs.drop (3 * k)).take 3)
theorem parts_all : ∀ xs : List UInt8, (List.range ((xs.length + 2) / 3)).flatMap (partF xs) = putF xs
  | [] => rfl
  | [a] => by
    have e : ([a].length + 2) / 3 = 1 := by simp
    rw [e]
    simp [List.range_succ, partF]
  | [a, b] => by
    have e : ([a, b].length + 2) / 3 = 1 := by simp
    rw [e]
    simp [List.range_succ, partF]
  | a :: b :: c :: r => by
    have ih := parts_all r
    have e : ((a :: b :: c :: r).length + 2) / 3 = (r.length + 2) / 3 + 1 := by simp only [List.length_cons]; omega
    rw [e, List.range_succ_eq_map, List.flatMap_cons, List.flatMap_map]
    have h0 : partF (a :: b :: c :: r) 0 = putF [a, b, c] := rfl
    have h1 : ∀ k, partF (a :: b :: c :: r) (k + 1) = partF r k := fun k => by
      unfold partF
      rw [show 3 * (k + 1) = 3 * k + 1 + 1 + 1 by omega]
      rfl
    rw [h0]
    simp only [Nat.succ_eq_add_one, h1]
    rw [ih]
    rfl
/-- what was written when some parts have come -/
def soFar (xs : List UInt8) {n : Nat} (pre : List (Chunk n)) : List UInt8 := (pre.map (·.1)).flatMap (partF xs)
theorem soFar_snoc (xs : List UInt8) {n : Nat} (pre : List (Chunk n)) (c : Chunk n) : soFar xs (pre ++ [c]) = soFar xs pre ++ partF xs c.1 := by
  unfold soFar
  rw [List.map_append, List.flatMap_append]
  simp
theorem partF_len (xs : List UInt8) {n : Nat} (hn : xs.length = n) (c : Chunk n) : (partF xs c.1).length = 4 := by
  unfold partF
  have := c.2
  rw [put_len, List.length_take, List.length_drop]
  omega
theorem soFar_len (xs : List UInt8) {n : Nat} (hn : xs.length = n) (pre : List (Chunk n)) : (soFar xs pre).length = 4 * pre.length := by
  induction pre with
  | nil => rfl
  | cons c r ih =>
    have := partF_len xs hn c
    unfold soFar at ih ⊢
    rw [List.map_cons, List.flatMap_cons, List.length_append, this, ih, List.length_cons]
    omega
theorem rd_part {w : World} {b off n cap : Nat} {xs : List UInt8} (h : Rd w (some ⟨b, off, none⟩) n cap xs) (c : Chunk n) : Rd w (some ⟨b, off + 3 * c.1, none⟩) (min 3 (n - 3 * c.1)) (cap - 3 * c.1) ((xs.drop (3 * c.1)).take 3) := by
  have hc := c.2
  have hle := h.le
  have hd := rd_drop h (3 * c.1) (by omega) (by omega)
  have ht := hd.take (min 3 (n - 3 * c.1)) (by omega)
  have e : (xs.drop (3 * c.1)).take (min 3 (n - 3 * c.1)) = (xs.drop (3 * c.1)).take 3 := by
    have hl := h.len
    by_cases h3 : 3 ≤ n - 3 * c.1
    · rw [Nat.min_eq_left h3]
    · rw [Nat.min_eq_right (by omega), List.take_of_length_le (by rw [List.length_drop]; omega), List.take_of_length_le (by rw [List.length_drop]; omega)]
  rw [← e]
  exact ht

/-- the letters of a part, four of them -/
theorem letters4 {w : World} {b off n cap : Nat} {xs : List UInt8} (h : Rd w (some ⟨b, off, none⟩) n cap xs) (c : Chunk n) :
    Calls Try.prog 18 #[.slice (some ⟨b, off + 3 * c.1, none⟩) (min 3 (n - 3 * c.1)) (cap - 3 * c.1)] w fun e w' => (∃ l0 l1 l2 l3 : UInt8, partF xs c.1 = [l0, l1, l2, l3] ∧ e = .returned (.agg #[.int .u8 (l0.toNat : Int), .int .u8 (l1.toNat : Int), .int .u8 (l2.toNat : Int), .int .u8 (l3.toNat : Int)])) ∧ Below w.heap.size w w' := by
  have hc := c.2
  have hp := rd_part h c
  have hl := hp.len
  refine (letters_any _ _ _ _ w (by omega) (by omega) hp).mono ?_
  rintro e w' ⟨rfl, hb⟩
  exact ⟨⟨_, _, _, _, put_part _ (by omega) (by omega), by rw [put_part _ (by omega) (by omega)]; rfl⟩, hb⟩

/-- block g is a builder -/
abbrev BAt (g : Nat) (ys : List UInt8) (w : World) : Prop := Lib.BuilderAt 46 5 g g (.pointer (some ⟨g, 0, none⟩)) (Lib.byteCells ys) w
/-- .. with room -/
def Room (w : World) (g S len : Nat) : Prop := ∃ q c, w.cell? ⟨g, 1, none⟩ = some (.slice (some ⟨q, 0, none⟩) len c) ∧ S ≤ c
theorem bu_of {w : World} {g S : Nat} {ys : List UInt8} (h : BAt g ys w) (hr : Room w g S ys.length) : ∃ q c, Bu w g q c ys ∧ S ≤ c := by
  obtain ⟨q, c, hc, hS⟩ := hr
  obtain ⟨_, v, hb, ho, hne⟩ := h
  have : v = .slice (some ⟨q, 0, none⟩) ys.length c := by
    rw [Lib.cell_of_heap hb] at hc
    exact Option.some.inj hc
  subst this
  refine ⟨q, c, ⟨hb, ?_, ?_⟩, hS⟩
  · have e : (Lib.byteCells ys).length = ys.length := by simp [Lib.byteCells]
    rw [e] at ho
    exact ho
  · intro e
    exact hne (by rw [e]; rfl)
theorem Bu.bat {w : World} {g q c : Nat} {ys : List UInt8} (h : Bu w g q c ys) : BAt g ys w := by
  refine ⟨Nat.le_refl _, _, h.blk, ?_, fun e => h.ne (by simp only [Value.ownBlock] at e; injection e)⟩
  have e : (Lib.byteCells ys).length = ys.length := by simp [Lib.byteCells]
  rw [e]
  exact h.own
theorem Bu.room {w : World} {g q c S : Nat} {ys : List UInt8} (h : Bu w g q c ys) (hS : S ≤ c) : Room w g S ys.length := ⟨q, c, by rw [Lib.cell_of_heap h.blk]; rfl, hS⟩
/-- the builder's two blocks are cells -/
theorem Bu.kept {w w' : World} {g q c : Nat} {ys : List UInt8} (h : Bu w g q c ys) (hg : w'.heap[g]? = w.heap[g]?) (hq : w'.heap[q]? = w.heap[q]?) : Bu w' g q c ys := by
  refine ⟨hg.trans h.blk, ?_, h.ne⟩
  obtain ⟨h1, ⟨e, _⟩ | ⟨q', cap', cur, e, hbb, hk, r⟩⟩ := h.own
  · cases e
  · injection e with e1 e2 e3
    injection e1 with e1
    injection e1 with e1
    subst e1
    exact ⟨h1, .inr ⟨q, cap', cur, by rw [e2, e3], hbb, hq.trans hk, r⟩⟩
theorem Bu.row {w : World} {g q c : Nat} {ys : List UInt8} (h : Bu w g q c ys) : ∃ cur, w.heap[q]? = some (.cells cur 5 (0, 0)) := by
  obtain ⟨h1, ⟨e, _⟩ | ⟨q', cap', cur, e, hbb, hk, r⟩⟩ := h.own
  · cases e
  · injection e with e1 e2 e3
    injection e1 with e1
    injection e1 with e1
    subst e1
    exact ⟨cur, hk⟩
theorem bat_kept {w w' : World} {g : Nat} {ys : List UInt8} {row : Option Nat} (h : BAt g ys w) (hg : w.grownBy w' row) (hr : ∀ r, row = some r → ∃ o : Obj, w.heap[r]? = some o ∧ o.isCells = false) : BAt g ys w' := by
  obtain ⟨hB, v, hb, ho, hne⟩ := h
  refine ⟨hB, v, (hg.block g (lt_of_block hb) ?_).trans hb, World.ownsRow.kept ho hg ?_, hne⟩
  · intro e
    obtain ⟨o, ho', hc⟩ := hr g e.symm
    rw [hb] at ho'
    cases ho'
    cases hc
  · rcases ho.2 with ⟨rfl, _⟩ | ⟨q, cap, cur, rfl, _, hq, _⟩
    · exact .inl rfl
    · refine .inr fun e => ?_
      obtain ⟨o, ho', hc⟩ := hr q (by simpa [Value.ownBlock] using e.symm)
      rw [hq] at ho'
      cases ho'
      cases hc
end Go.Proofs.Ytpfhbkjjijmpaaa
