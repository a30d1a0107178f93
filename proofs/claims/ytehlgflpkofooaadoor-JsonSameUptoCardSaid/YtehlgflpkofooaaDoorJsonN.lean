/-
  Values in memory whose lists lie in plain blocks: what is read stays, and is one. Conditions: those in each statement.
-/
import Derived.Test.YtehlgflpkofooaaDoorJsonL
namespace Go.Proofs.YtehlgflpkofooaaDoor
open Go.RowKit

/-- all blocks of cells stay as they are -/
structure CellsKept (w w' : World) : Prop where
  size : w.heap.size ≤ w'.heap.size
  cells : ∀ (b : Nat) (cs : Array Value) (T : TypeId) (fr : Nat × Nat), w.heap[b]? = some (Obj.cells cs T fr) → w'.heap[b]? = some (Obj.cells cs T fr)
theorem CellsKept.refl (w : World) : CellsKept w w := ⟨Nat.le_refl _, fun _ _ _ _ h => h⟩
theorem CellsKept.trans {a b c : World} (h : CellsKept a b) (k : CellsKept b c) : CellsKept a c := ⟨Nat.le_trans h.size k.size, fun i cs T fr e => k.cells i cs T fr (h.cells i cs T fr e)⟩
theorem CellsKept.of_below {w w' : World} (h : Below w.heap.size w w') : CellsKept w w' := ⟨h.size, fun b _ _ _ e => (h.block b (Array.getElem?_eq_some_iff.1 e).1).trans e⟩
theorem CellsKept.of_grown {w w' : World} {B : Nat} (h : w.grownBy w' (some B)) {es : Array MapEntry} {cl : Nat} (hb : w.heap[B]? = some (.map es cl)) : CellsKept w w' :=
  ⟨h.size, fun b cs T fr e => (h.block b (Array.getElem?_eq_some_iff.1 e).1 (fun hh => by cases hh; rw [hb] at e; cases e)).trans e⟩
theorem CellsKept.cell {w w' : World} (h : CellsKept w w') {p : Addr} {v : Value} (hc : w.cell? p = some v) : w'.cell? p = some v := by
  unfold World.cell? at hc ⊢
  cases e : w.heap[p.block]? with
  | none => rw [e] at hc; cases hc
  | some o =>
    cases o with
    | cells cs T fr => rw [h.cells _ _ _ _ e]; rw [e] at hc; exact hc
    | _ => rw [e] at hc; cases hc
theorem CellsKept.plain {w w' : World} (h : CellsKept w w') (b : Nat) (hp : PlainB w b) : PlainB w' b := by
  obtain ⟨cs, T, e⟩ := hp
  exact ⟨cs, T, h.cells _ _ _ _ e⟩
theorem RStr.keep {w w' : World} {ks : List (List UInt8)} {a : Option Addr} {c : Nat} (h : RStr w ks a c) (hb : CellsKept w w') : RStr w' ks a c := by
  refine ⟨h.le, h.big, h.nil, fun h0 => ?_⟩
  obtain ⟨b, off, e, h1, h2⟩ := h.mem h0
  exact ⟨b, off, e, Nat.lt_of_lt_of_le h1 hb.size, fun i hi => hb.cell (h2 i hi)⟩
theorem RStr.one {w : World} {ks ks' : List (List UInt8)} {a : Option Addr} {c c' : Nat} (h : RStr w ks a c) (h' : RStr w ks' a c') (hl : ks.length = ks'.length) : ks = ks' := by
  apply List.ext_getElem hl
  intro i h1 h2
  obtain ⟨b, off, e, -, hc⟩ := h.mem (by omega)
  obtain ⟨b', off', e', -, hc'⟩ := h'.mem (by omega)
  rw [e] at e'
  cases e'
  have e1 := hc i h1
  rw [hc' i h2] at e1
  have := bstr_inj (Value.string.inj (Option.some.inj e1))
  simpa [List.getD, h1, h2] using this.symm

mutual
/-- five cells read as a value, its lists in plain blocks -/
def PV (w : World) : JV → List Value → Prop
  | .mk k s n l ks, cs => ∃ a c a' c', cs = [.int .i64 k, .string (bstr s), .int .u64 (n : Int), .slice a l.length c, .slice a' ks.length c'] ∧ (-9223372036854775808 ≤ k ∧ k ≤ 9223372036854775807 ∧ n < 18446744073709551616) ∧ RStr w ks a' c' ∧
      (l.length ≤ c ∧ c ≤ 9223372036854775807) ∧ (a = none → c = 0) ∧ (0 < l.length → ∃ b off, a = some ⟨b, off, none⟩ ∧ PlainB w b ∧ PL w l b off)
def PL (w : World) : List JV → Nat → Nat → Prop
  | [], _, _ => True
  | v :: r, b, off => (∃ cs, cs.length = 5 ∧ (∀ j, j < 5 → w.cell? ⟨b, off + j, none⟩ = cs[j]?) ∧ PV w v cs) ∧ PL w r b (off + 5)
end
theorem PlainB.lt {w : World} {b : Nat} (h : PlainB w b) : b < w.heap.size := by obtain ⟨cs, T, e⟩ := h; exact (Array.getElem?_eq_some_iff.1 e).1
theorem pv_len {w : World} {v : JV} {cs : List Value} (h : PV w v cs) : cs.length = 5 := by
  obtain ⟨k, s, n, l, ks⟩ := v
  unfold PV at h
  obtain ⟨a, c, a', c', rfl, _⟩ := h
  rfl
mutual
theorem pv_rv {w : World} : ∀ (v : JV) (cs : List Value), PV w v cs → RV w v cs
  | .mk k s n l ks, cs, h => by
    unfold PV at h
    unfold RV
    obtain ⟨a, c, a', c', e, hk, hs, h1, h2, h3⟩ := h
    refine ⟨a, c, a', c', e, hk, hs, h1, h2, fun h0 => ?_⟩
    obtain ⟨b, off, e1, e2, e3⟩ := h3 h0
    exact ⟨b, off, e1, e2.lt, pl_rl l b off e3⟩
theorem pl_rl {w : World} : ∀ (l : List JV) (b off : Nat), PL w l b off → RL w l b off
  | [], _, _, _ => by unfold RL; trivial
  | v :: r, b, off, h => by
    unfold PL at h
    unfold RL
    obtain ⟨⟨cs, h1, h2, h3⟩, h4⟩ := h
    exact ⟨⟨cs, h1, h2, pv_rv v cs h3⟩, pl_rl r b (off + 5) h4⟩
end
mutual
theorem pv_keep {w w' : World} (hb : CellsKept w w') : ∀ (v : JV) (cs : List Value), PV w v cs → PV w' v cs
  | .mk k s n l ks, cs, h => by
    unfold PV at h ⊢
    obtain ⟨a, c, a', c', e, hk, hs, h1, h2, h3⟩ := h
    refine ⟨a, c, a', c', e, hk, hs.keep hb, h1, h2, fun h0 => ?_⟩
    obtain ⟨b, off, e1, e2, e3⟩ := h3 h0
    exact ⟨b, off, e1, hb.plain b e2, pl_keep hb l b off e3⟩
theorem pl_keep {w w' : World} (hb : CellsKept w w') : ∀ (l : List JV) (b off : Nat), PL w l b off → PL w' l b off
  | [], _, _, _ => by unfold PL; trivial
  | v :: r, b, off, h => by
    unfold PL at h ⊢
    obtain ⟨⟨cs, h1, h2, h3⟩, h4⟩ := h
    refine ⟨⟨cs, h1, fun j hj => ?_, pv_keep hb v cs h3⟩, pl_keep hb r b (off + 5) h4⟩
    have e := h2 j hj
    rw [List.getElem?_eq_getElem (by omega)] at e ⊢
    exact hb.cell e
end
mutual
theorem pv_one {w : World} : ∀ (v v' : JV) (cs : List Value), PV w v cs → PV w v' cs → v = v'
  | .mk k s n l ks, .mk k' s' n' l' ks', cs, h, h' => by
    unfold PV at h h'
    obtain ⟨a, c, b, d, e, -, hs, -, -, h3⟩ := h
    obtain ⟨a', c', b', d', e', -, hs', -, -, h3'⟩ := h'
    rw [e] at e'
    simp only [List.cons.injEq, Value.int.injEq, Value.string.injEq, Value.slice.injEq, true_and, and_true] at e'
    obtain ⟨rfl, e2, e3, ⟨rfl, e5, rfl⟩, ⟨rfl, e6, rfl⟩⟩ := e'
    obtain rfl := bstr_inj e2
    obtain rfl : n = n' := by omega
    obtain rfl := hs.one hs' e6
    have : l = l' := by
      by_cases h0 : 0 < l.length
      · obtain ⟨b1, o1, rfl, -, q1⟩ := h3 h0
        obtain ⟨b2, o2, e7, -, q2⟩ := h3' (by omega)
        cases e7
        exact pl_one l l' b1 o1 q1 q2 e5
      · rw [List.eq_nil_of_length_eq_zero (l := l) (by omega), List.eq_nil_of_length_eq_zero (l := l') (by omega)]
    rw [this]
theorem pl_one {w : World} : ∀ (l l' : List JV) (b off : Nat), PL w l b off → PL w l' b off → l.length = l'.length → l = l'
  | [], l', _, _, _, _, hl => (List.eq_nil_of_length_eq_zero (by simpa using hl.symm)).symm
  | v :: r, [], _, _, _, _, hl => by simp at hl
  | v :: r, v' :: r', b, off, h, h', hl => by
    unfold PL at h h'
    obtain ⟨⟨cs, h1, h2, h3⟩, h4⟩ := h
    obtain ⟨⟨cs', h1', h2', h3'⟩, h4'⟩ := h'
    have : cs = cs' := by
      apply List.ext_getElem?
      intro j
      by_cases hj : j < 5
      · rw [← h2 j hj, ← h2' j hj]
      · rw [List.getElem?_eq_none (by omega), List.getElem?_eq_none (by omega)]
    subst this
    rw [pv_one v v' cs h3 h3', pl_one r r' b (off + 5) h4 h4' (by simpa using hl)]
end
theorem pl_at {w : World} : ∀ (l : List JV) (b off i : Nat) (v : JV), PL w l b off → l[i]? = some v → ∃ cs, cs.length = 5 ∧ (∀ j, j < 5 → w.cell? ⟨b, off + (5 * i + j), none⟩ = cs[j]?) ∧ PV w v cs
  | [], _, _, _, _, _, h => by simp at h
  | u :: r, b, off, 0, v, h, hi => by
    unfold PL at h
    obtain ⟨⟨cs, h1, h2, h3⟩, _⟩ := h
    cases hi
    exact ⟨cs, h1, fun j hj => by rw [Nat.mul_zero, Nat.zero_add]; exact h2 j hj, h3⟩
  | u :: r, b, off, i + 1, v, h, hi => by
    unfold PL at h
    obtain ⟨cs, h1, h2, h3⟩ := pl_at r b (off + 5) i v h.2 (by simpa using hi)
    exact ⟨cs, h1, fun j hj => by rw [show off + (5 * (i + 1) + j) = off + 5 + (5 * i + j) by omega]; exact h2 j hj, h3⟩
theorem pl_mk {w : World} (b : Nat) : ∀ (l : List JV) (off : Nat), (∀ i v, l[i]? = some v → ∃ cs, cs.length = 5 ∧ (∀ j, j < 5 → w.cell? ⟨b, off + (5 * i + j), none⟩ = cs[j]?) ∧ PV w v cs) → PL w l b off
  | [], _, _ => by unfold PL; trivial
  | v :: r, off, h => by
    unfold PL
    refine ⟨?_, pl_mk b r (off + 5) fun i u hi => ?_⟩
    · obtain ⟨cs, h1, h2, h3⟩ := h 0 v rfl
      exact ⟨cs, h1, fun j hj => by have := h2 j hj; rwa [Nat.mul_zero, Nat.zero_add] at this, h3⟩
    · obtain ⟨cs, h1, h2, h3⟩ := h (i + 1) u (by simpa using hi)
      exact ⟨cs, h1, fun j hj => by rw [show off + 5 + (5 * i + j) = off + (5 * (i + 1) + j) by omega]; exact h2 j hj, h3⟩
end Go.Proofs.YtehlgflpkofooaaDoor
