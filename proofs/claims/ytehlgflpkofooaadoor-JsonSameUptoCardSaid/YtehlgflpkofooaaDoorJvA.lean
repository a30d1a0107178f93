/-
  Values in memory of which it is known in which blocks they lie. Conditions: those in each statement.
-/
import Derived.Test.YtehlgflpkofooaaDoorJsonZ
namespace Go.Proofs.YtehlgflpkofooaaDoor
open Go.RowKit

/-- the blocks of S stay as they are -/
def Stay (S : Nat → Prop) (w w' : World) : Prop := ∀ b, S b → b < w.heap.size → w'.heap[b]? = w.heap[b]?
theorem Stay.trans {S : Nat → Prop} {a b c : World} (h : Stay S a b) (hs : a.heap.size ≤ b.heap.size) (k : Stay S b c) : Stay S a c := fun i hi hl => (k i hi (Nat.lt_of_lt_of_le hl hs)).trans (h i hi hl)
theorem Stay.of_below {S : Nat → Prop} {w w' : World} (h : Below w.heap.size w w') : Stay S w w' := fun b _ hl => h.block b hl
theorem Stay.of_grown {S : Nat → Prop} {w w' : World} {r : Option Nat} (h : w.grownBy w' r) (hr : ∀ k, r = some k → ¬ S k) : Stay S w w' := fun b hb hl => h.block b hl (fun e => hr b e.symm hb)
theorem Stay.cell {S : Nat → Prop} {w w' : World} (h : Stay S w w') {b o : Nat} {v : Value} (hb : S b) (hc : w.cell? ⟨b, o, none⟩ = some v) : w'.cell? ⟨b, o, none⟩ = some v :=
  (World.cell?_of_block (a := ⟨b, o, none⟩) (h b hb (World.block_lt_of_cell? w _ hc))).trans hc
theorem Stay.plain {S : Nat → Prop} {w w' : World} (h : Stay S w w') {b : Nat} (hb : S b) (hp : PlainB w b) : PlainB w' b := by
  obtain ⟨cs, T, e⟩ := hp
  exact ⟨cs, T, (h b hb (Array.getElem?_eq_some_iff.1 e).1).trans e⟩
theorem lt_of_cell {w : World} {b o : Nat} {v : Value} (h : w.cell? ⟨b, o, none⟩ = some v) : b < w.heap.size := World.block_lt_of_cell? w _ h

/-- a slice of texts in blocks of S -/
structure SStr (S : Nat → Prop) (w : World) (ks : List (List UInt8)) (a : Option Addr) (c : Nat) : Prop extends RStr w ks a c where
  inS : 0 < ks.length → ∃ b off, a = some ⟨b, off, none⟩ ∧ S b
theorem SStr.to' {S S' : Nat → Prop} {w w' : World} {ks : List (List UInt8)} {a : Option Addr} {c : Nat} (h : SStr S w ks a c) (hS : ∀ b, S b → b < w.heap.size → S' b) (hb : Stay S w w') : SStr S' w' ks a c := by
  refine ⟨⟨h.le, h.big, h.nil, fun h0 => ?_⟩, fun h0 => ?_⟩
  · obtain ⟨b, off, e, h1, h2⟩ := h.mem h0
    obtain ⟨b', off', e', h3⟩ := h.inS h0
    rw [e] at e'
    cases e'
    exact ⟨b, off, e, lt_of_cell (hb.cell h3 (h2 0 h0)), fun i hi => hb.cell h3 (h2 i hi)⟩
  · obtain ⟨b, off, e, h1, h2⟩ := h.mem h0
    obtain ⟨b', off', e', h3⟩ := h.inS h0
    rw [e] at e'
    cases e'
    exact ⟨b, off, e, hS b h3 h1⟩

mutual
/-- five cells read as a value, all of it in plain blocks of S -/
def SV (S : Nat → Prop) (w : World) : JV → List Value → Prop
  | .mk k s n l ks, cs => ∃ a c a' c', cs = [.int .i64 k, .string (bstr s), .int .u64 (n : Int), .slice a l.length c, .slice a' ks.length c'] ∧ (-9223372036854775808 ≤ k ∧ k ≤ 9223372036854775807 ∧ n < 18446744073709551616) ∧ SStr S w ks a' c' ∧
      (l.length ≤ c ∧ c ≤ 9223372036854775807) ∧ (a = none → c = 0) ∧ (0 < l.length → ∃ b off, a = some ⟨b, off, none⟩ ∧ S b ∧ PlainB w b ∧ SL S w l b off)
def SL (S : Nat → Prop) (w : World) : List JV → Nat → Nat → Prop
  | [], _, _ => True
  | v :: r, b, off => (∃ cs, cs.length = 5 ∧ (∀ j, j < 5 → w.cell? ⟨b, off + j, none⟩ = cs[j]?) ∧ SV S w v cs) ∧ SL S w r b (off + 5)
end
/-- the slice of values, in plain blocks of S -/
def SLi (S : Nat → Prop) (w : World) (l : List JV) (a : Option Addr) (c : Nat) : Prop :=
  (l.length ≤ c ∧ c ≤ 9223372036854775807) ∧ (a = none → c = 0) ∧ (0 < l.length → ∃ b off, a = some ⟨b, off, none⟩ ∧ S b ∧ PlainB w b ∧ SL S w l b off)
theorem sv_len {S : Nat → Prop} {w : World} {v : JV} {cs : List Value} (h : SV S w v cs) : cs.length = 5 := by
  obtain ⟨k, s, n, l, ks⟩ := v
  unfold SV at h
  obtain ⟨a, c, a', c', rfl, _⟩ := h
  rfl
mutual
theorem sv_pv {S : Nat → Prop} {w : World} : ∀ (v : JV) (cs : List Value), SV S w v cs → PV w v cs
  | .mk k s n l ks, cs, h => by
    unfold SV at h
    unfold PV
    obtain ⟨a, c, a', c', e, hk, hs, h1, h2, h3⟩ := h
    refine ⟨a, c, a', c', e, hk, hs.toRStr, h1, h2, fun h0 => ?_⟩
    obtain ⟨b, off, e1, _, e2, e3⟩ := h3 h0
    exact ⟨b, off, e1, e2, sl_pl l b off e3⟩
theorem sl_pl {S : Nat → Prop} {w : World} : ∀ (l : List JV) (b off : Nat), SL S w l b off → PL w l b off
  | [], _, _, _ => by unfold PL; trivial
  | v :: r, b, off, h => by
    unfold SL at h
    unfold PL
    obtain ⟨⟨cs, h1, h2, h3⟩, h4⟩ := h
    exact ⟨⟨cs, h1, h2, sv_pv v cs h3⟩, sl_pl r b (off + 5) h4⟩
end
mutual
theorem sv_to {S S' : Nat → Prop} {w w' : World} (hS : ∀ b, S b → b < w.heap.size → S' b) (hb : Stay S w w') : ∀ (v : JV) (cs : List Value), SV S w v cs → SV S' w' v cs
  | .mk k s n l ks, cs, h => by
    unfold SV at h ⊢
    obtain ⟨a, c, a', c', e, hk, hs, h1, h2, h3⟩ := h
    refine ⟨a, c, a', c', e, hk, hs.to' hS hb, h1, h2, fun h0 => ?_⟩
    obtain ⟨b, off, e1, e0, e2, e3⟩ := h3 h0
    exact ⟨b, off, e1, hS b e0 e2.lt, hb.plain e0 e2, sl_to hS hb l b off e0 e3⟩
theorem sl_to {S S' : Nat → Prop} {w w' : World} (hS : ∀ b, S b → b < w.heap.size → S' b) (hb : Stay S w w') : ∀ (l : List JV) (b off : Nat), S b → SL S w l b off → SL S' w' l b off
  | [], _, _, _, _ => by unfold SL; trivial
  | v :: r, b, off, hs, h => by
    unfold SL at h ⊢
    obtain ⟨⟨cs, h1, h2, h3⟩, h4⟩ := h
    refine ⟨⟨cs, h1, fun j hj => ?_, sv_to hS hb v cs h3⟩, sl_to hS hb r b (off + 5) hs h4⟩
    have e := h2 j hj
    rw [List.getElem?_eq_getElem (by omega)] at e ⊢
    exact hb.cell hs e
end
theorem sl_at {S : Nat → Prop} {w : World} : ∀ (l : List JV) (b off i : Nat) (v : JV), SL S w l b off → l[i]? = some v → ∃ cs, cs.length = 5 ∧ (∀ j, j < 5 → w.cell? ⟨b, off + (5 * i + j), none⟩ = cs[j]?) ∧ SV S w v cs
  | [], _, _, _, _, _, h => by simp at h
  | u :: r, b, off, 0, v, h, hi => by
    unfold SL at h
    obtain ⟨⟨cs, h1, h2, h3⟩, _⟩ := h
    cases hi
    exact ⟨cs, h1, fun j hj => by rw [Nat.mul_zero, Nat.zero_add]; exact h2 j hj, h3⟩
  | u :: r, b, off, i + 1, v, h, hi => by
    unfold SL at h
    obtain ⟨cs, h1, h2, h3⟩ := sl_at r b (off + 5) i v h.2 (by simpa using hi)
    exact ⟨cs, h1, fun j hj => by rw [show off + (5 * (i + 1) + j) = off + 5 + (5 * i + j) by omega]; exact h2 j hj, h3⟩
theorem sl_mk {S : Nat → Prop} {w : World} (b : Nat) : ∀ (l : List JV) (off : Nat), (∀ i v, l[i]? = some v → ∃ cs, cs.length = 5 ∧ (∀ j, j < 5 → w.cell? ⟨b, off + (5 * i + j), none⟩ = cs[j]?) ∧ SV S w v cs) → SL S w l b off
  | [], _, _ => by unfold SL; trivial
  | v :: r, off, h => by
    unfold SL
    refine ⟨?_, sl_mk b r (off + 5) fun i u hi => ?_⟩
    · obtain ⟨cs, h1, h2, h3⟩ := h 0 v rfl
      exact ⟨cs, h1, fun j hj => by have := h2 j hj; rwa [Nat.mul_zero, Nat.zero_add] at this, h3⟩
    · obtain ⟨cs, h1, h2, h3⟩ := h (i + 1) u (by simpa using hi)
      exact ⟨cs, h1, fun j hj => by rw [show off + 5 + (5 * i + j) = off + (5 * (i + 1) + j) by omega]; exact h2 j hj, h3⟩
theorem SLi.to' {S S' : Nat → Prop} {w w' : World} {l : List JV} {a : Option Addr} {c : Nat} (h : SLi S w l a c) (hS : ∀ b, S b → b < w.heap.size → S' b) (hb : Stay S w w') : SLi S' w' l a c := by
  obtain ⟨h1, h2, h3⟩ := h
  refine ⟨h1, h2, fun h0 => ?_⟩
  obtain ⟨b, off, e1, e0, e2, e3⟩ := h3 h0
  exact ⟨b, off, e1, hS b e0 e2.lt, hb.plain e0 e2, sl_to hS hb l b off e0 e3⟩
mutual
/-- all lists are so long at most -/
def fewV : JV → Nat → Prop
  | .mk _ _ _ l ks, m => l.length ≤ m ∧ ks.length ≤ m ∧ fewL l m
def fewL : List JV → Nat → Prop
  | [], _ => True
  | v :: r, m => fewV v m ∧ fewL r m
end
theorem few_at : ∀ (l : List JV) (m i : Nat) (v : JV), fewL l m → l[i]? = some v → fewV v m
  | [], _, _, _, _, h => by simp at h
  | u :: r, m, 0, v, h, hi => by
    unfold fewL at h
    cases hi
    exact h.1
  | u :: r, m, i + 1, v, h, hi => by
    unfold fewL at h
    exact few_at r m i v h.2 (by simpa using hi)
theorem gb_new {a b c : World} {r : Option Nat} {O : Nat} (h : a.grownBy b r) (k : b.grownBy c (some O)) (hO : a.heap.size ≤ O) : a.grownBy c r :=
  ⟨k.os.trans h.os, k.tape.trans h.tape, k.output.trans h.output, Nat.le_trans h.size k.size, fun i hi hr => (k.block i (Nat.lt_of_lt_of_le hi h.size) (fun e => by cases e; omega)).trans (h.block i hi hr)⟩

/-- slices.Clone of texts -/
theorem clone_any (ks : List (List UInt8)) (a : Option Addr) (c : Nat) (w : World) (h : RStr w ks a c) (hn : ks.length ≤ 1099511627776) :
    Calls Tryd.prog 40 #[.slice a ks.length c] w fun e w' => ∃ a' c', e = .returned (.slice a' ks.length c') ∧ SStr (fun b => w.heap.size ≤ b) w' ks a' c' ∧ Below w.heap.size w w' := by
  have key : ∀ w' v', w'.ownsRow w.heap.size 9 1 v' ks.length (ks.map fun k => Value.string (bstr k)) → ∃ a' c', v' = .slice a' ks.length c' ∧ SStr (fun b => w.heap.size ≤ b) w' ks a' c' := fun w' v' ho => by
    have hl := World.ownsRow.lt ho
    have hc := @World.ownsRow.cells _ _ _ _ _ _ _ ho
    obtain ⟨h1, ⟨rfl, hn0⟩ | ⟨g, cap, cur, rfl, hg1, hg2, hg3, hg4, -⟩⟩ := ho
    · refine ⟨none, 0, by rw [hn0], ⟨⟨by omega, by omega, fun _ => rfl, fun h0 => by omega⟩, fun h0 => by omega⟩⟩
    · refine ⟨some ⟨g, 0, none⟩, cap, rfl, ⟨⟨hg3, by unfold maxLen at hg4; omega, (by intro e; cases e), fun h0 => ?_⟩, fun h0 => ⟨g, 0, rfl, (hl g rfl).1⟩⟩⟩
      refine ⟨g, 0, rfl, (hl g rfl).2, fun i hi => ?_⟩
      have := hc (g := g) rfl i (.string (bstr (ks.getD i []))) (by simp [List.getD, hi])
      rw [Addr.add_lit] at this
      simpa using this
  cases a with
  | none =>
    have h0 := h.nil rfl
    have h1 := h.le
    have : ks.length = 0 := by omega
    refine (Tryd.slices_Clone_string_nil ks.length c w).mono ?_
    rintro e w' ⟨rfl, rfl⟩
    exact ⟨none, 0, by rw [this], ⟨⟨by omega, by omega, fun _ => rfl, fun h0 => by omega⟩, fun h0 => by omega⟩, Below.refl _ _⟩
  | some ad =>
    by_cases h0 : 0 < ks.length
    · obtain ⟨b, off, e, hb, hc⟩ := h.mem h0
      cases e
      refine (Tryd.slices_Clone_string b off ks.length c (ks.map bstr) w (by simp) (by omega) (fun j hj => ?_)).mono ?_
      · rw [List.length_map] at hj
        rw [hc j hj]
        simp [List.getD, hj]
      · rintro e w' ⟨v', rfl, ho, -, hB⟩
        obtain ⟨a', c', rfl, h2⟩ := key w' v' (by rw [List.take_of_length_le (by simp), List.map_map] at ho; exact ho)
        exact ⟨a', c', rfl, h2, hB⟩
    · have h1 : ks.length = 0 := by omega
      have h2 : ks = [] := List.eq_nil_of_length_eq_zero h1
      rw [h1]
      refine (Tryd.slices_Clone_string_zero ad c w).mono ?_
      rintro e w' ⟨v', rfl, ho, -, hB⟩
      obtain ⟨a', c', rfl, h2⟩ := key w' v' (by subst h2; exact ho)
      exact ⟨a', c', by rw [h1], h2, hB⟩
end Go.Proofs.YtehlgflpkofooaaDoor
