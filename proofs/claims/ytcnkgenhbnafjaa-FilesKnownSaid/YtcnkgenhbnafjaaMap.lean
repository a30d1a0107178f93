/-
  Maps of texts: what a map's block bears, looked up, put, taken away. Conditions: those in each statement.
-/
import Derived.Test.YtcnkgenhbnafjaaArr
import Derived.Lib.OthersKept
import Derived.Lib.OwnKind
import Derived.Maps.Keyed
import Derived.LaidEql
import Derived.ChangeKeysEq
import Derived.Laws.StructEq
import Derived.Laws.Pointers
import Derived.Maps.OwnSet
import Derived.ProofKit
namespace Go.Proofs.Ytcnkgenhbnafjaa
open Go.RowKit Go.ChangeMaps

/-- a block of plain cells -/
def PlainB (w : World) (b : Nat) : Prop := ∃ cs T, w.heap[b]? = some (.cells cs T (0, 0))
/-- keys of a map that the walk can compare -/
structure KeyOK (K : TypeId) (G : World → Value → Prop) : Prop where
  check : ∀ w a e, G w a → (Instr.checkKey e 10000 K a).run Try.prog w = .ok () w
  find : ∀ w x es, G w x → (∀ e ∈ es, G w e.key) → ((Instr.findKey K x es).run Try.prog w = .ok none w ∧ ∀ e ∈ es, e.key ≠ x) ∨
    ∃ j e, (Instr.findKey K x es).run Try.prog w = .ok (some (j, e.val)) w ∧ es[j]? = some e ∧ e.key = x ∧ ∀ i f, i < j → es[i]? = some f → f.key ≠ x
  stays : ∀ w a, G w a → (Instr.keyThatStays a a).run Try.prog w = .ok a w
  kept : ∀ w w' a, (∀ b, PlainB w b → PlainB w' b) → G w a → G w' a


def GStr (_ : World) (a : Value) : Prop := ∃ s, a = .string s
theorem check_str (w : World) (e : Bool) (d : Nat) (s : ByteArray) : (Instr.checkKey e (d + 1) 9 (.string s)).run Try.prog w = .ok () w := by
  simp [Instr.checkKey, run_underlying Try.underlying9]
theorem str_ok : KeyOK 9 GStr where
  check := by
    rintro w _ e ⟨s, rfl⟩
    exact check_str w e 9999 s
  find := by
    intro w x es hx hes
    obtain ⟨s, rfl⟩ := hx
    have key : ∀ (es : List MapEntry) (i : Nat), (∀ e ∈ es, GStr w e.key) → (Instr.findNow .string (.string s) es i = some none ∧ ∀ e ∈ es, e.key ≠ .string s) ∨
        ∃ j e, Instr.findNow .string (.string s) es i = some (some (i + j, e.val)) ∧ es[j]? = some e ∧ e.key = .string s ∧ ∀ k f, k < j → es[k]? = some f → f.key ≠ .string s := by
      intro es
      induction es with
      | nil => intro i _; exact .inl ⟨rfl, by simp⟩
      | cons e es ih =>
        intro i hall
        obtain ⟨t, ht⟩ := hall e (by simp)
        by_cases hst : s = t
        · exact .inr ⟨0, e, by have hb : (s == t) = true := (MapKept.bytes_beq s t).2 hst; simp [Instr.findNow, Instr.sameNow, ht, hb], rfl, by rw [ht, hst], fun k f hk => by omega⟩
        · have hb : (s == t) = false := by
            cases hh : (s == t) with
            | false => rfl
            | true => exact absurd ((MapKept.bytes_beq s t).1 hh) hst
          have hne : e.key ≠ .string s := by rw [ht]; intro h; cases h; exact hst rfl
          rcases ih (i + 1) (fun y hy => hall y (by simp [hy])) with ⟨h1, h2⟩ | ⟨j, e', h1, h2, h3, h4⟩
          · left
            refine ⟨by simp [Instr.findNow, Instr.sameNow, ht, hb, h1], fun y hy => ?_⟩
            rcases List.mem_cons.1 hy with rfl | hy
            · exact hne
            · exact h2 y hy
          · right
            refine ⟨j + 1, e', by simp [Instr.findNow, Instr.sameNow, ht, hb, h1, Nat.add_assoc, Nat.add_comm 1 j], by simpa using h2, h3, fun k f hk hf => ?_⟩
            cases k with
            | zero => simp at hf; subst hf; exact hne
            | succ k => exact h4 k f (by omega) (by simpa using hf)
    rcases key es 0 hes with ⟨h1, h2⟩ | ⟨j, e, h1, h2, h3, h4⟩
    · exact .inl ⟨MapKept.run_findKey Try.underlying9 h1, h2⟩
    · exact .inr ⟨j, e, MapKept.run_findKey Try.underlying9 (by rw [Nat.zero_add] at h1; exact h1), h2, h3, h4⟩
  stays := by
    rintro w _ ⟨s, rfl⟩
    have : Instr.sameBits 10000 (.string s) (.string s) = true := (MapKept.bytes_beq s s).2 rfl
    simp [Instr.keyThatStays, this]
  kept := fun _ _ _ _ h => h
/-- the entries' stamps -/
def Born (es : Array MapEntry) (clock : Nat) : Prop := (∀ x ∈ es.toList, x.born < clock) ∧ (es.toList.map (·.born)).Nodup
/-- block B is a map of these keys and values, in the order in which they came -/
def MapR (G : World → Value → Prop) (w : World) (B : Nat) (ps : List (Value × Value)) : Prop :=
  ∃ es clock, w.heap[B]? = some (.map es clock) ∧ es.toList.map (fun e => (e.key, e.val)) = ps ∧ (∀ p ∈ ps, G w p.1) ∧ Born es clock

theorem MapR.lt {G : World → Value → Prop} {w : World} {B : Nat} {ps : List (Value × Value)} (h : MapR G w B ps) : B < w.heap.size := by
  obtain ⟨es, clock, h1, _⟩ := h
  exact (Array.getElem?_eq_some_iff.1 h1).1
theorem MapR.new {G : World → Value → Prop} (w : World) : MapR G (w.alloc (.map #[] 0)) w.heap.size [] := ⟨#[], 0, heap_alloc_new w _, rfl, by simp, by simp [Born]⟩
theorem plain_set {w : World} {B : Nat} {es : Array MapEntry} {clock : Nat} (hb : w.heap[B]? = some (.map es clock)) (o : Obj) (b : Nat) (h : PlainB w b) : PlainB (setBlock w B o) b := by
  obtain ⟨cs, U, hc⟩ := h
  have hne : b ≠ B := by rintro rfl; rw [hb] at hc; cases hc
  exact ⟨cs, U, ((MapKept.heap_set hb (o' := o)).2 b hne).trans hc⟩
theorem set_grown {w : World} {B : Nat} {es : Array MapEntry} {clock : Nat} (hb : w.heap[B]? = some (.map es clock)) (o : Obj) : w.grownBy (setBlock w B o) (some B) :=
  ⟨rfl, rfl, rfl, by simp [setBlock], fun k _ hne => (MapKept.heap_set hb (o' := o)).2 k (fun e => hne (by rw [e]))⟩
section
variable {G : World → Value → Prop} {K E T : TypeId} (hK : KeyOK K G) (ht : Try.prog.underlying T = some (.map K E))
include hK
include ht
theorem put_new {w : World} {B : Nat} {ps : List (Value × Value)} (h : MapR G w B ps) {a v : Value} (ha : G w a) (hn : ∀ p ∈ ps, p.1 ≠ a) :
    ∃ w', (Instr.mapUpdate T (.map (some B)) a v).run Try.prog w = .ok () w' ∧ MapR G w' B (ps ++ [(a, v)]) ∧ w.grownBy w' (some B) ∧ w'.heap.size = w.heap.size := by
  obtain ⟨es, clock, hb, rfl, hg, hbo⟩ := h
  have hk : ∀ e ∈ es.toList, G w e.key := fun e he => hg (e.key, e.val) (List.mem_map.2 ⟨e, he, rfl⟩)
  rcases hK.find w a es.toList ha hk with ⟨h1, h2⟩ | ⟨j, e0, h1, h2, h3, -⟩
  · refine ⟨setBlock w B (.map (es.push ⟨a, v, clock⟩) (clock + 1)), by simp [Instr.mapUpdate, run_underlying ht, MapKept.run_getObj_map hb, hK.check w a _ ha, h1, MapKept.run_setObj_map _ hb, Result.andThen, setBlock], ?_, set_grown hb _, by simp [setBlock]⟩
    refine ⟨_, _, (MapKept.heap_set hb).1, by simp, fun p hp => ?_, ?_, ?_⟩
    · refine hK.kept w _ _ (plain_set hb _) ?_
      rcases List.mem_append.1 hp with hp | hp
      · exact hg p hp
      · simp at hp
        rw [hp]
        exact ha
    · intro x hx
      rw [Array.toList_push] at hx
      rcases List.mem_append.1 hx with hx | hx
      · have := hbo.1 x hx
        omega
      · rw [List.mem_singleton.1 hx]
        exact Nat.lt_succ_self _
    · rw [Array.toList_push, List.map_append, List.nodup_append]
      refine ⟨hbo.2, by simp, fun x hx y hy e => ?_⟩
      obtain ⟨z, hz, rfl⟩ := List.mem_map.1 hx
      rw [List.map_singleton, List.mem_singleton] at hy
      have := hbo.1 z hz
      simp only at hy
      omega
  · exact absurd h3 (hn (e0.key, e0.val) (List.mem_map.2 ⟨e0, List.mem_of_getElem? h2, rfl⟩))
end
theorem map_len {G : World → Value → Prop} {K E T : TypeId} (ht : Try.prog.underlying T = some (.map K E)) {w : World} {B : Nat} {ps : List (Value × Value)} (h : MapR G w B ps) (ty : TypeId) : (Builtin.len_ #[T] ty #[.map (some B)]).run Try.prog w = .ok (.int .i64 (ps.length : Int)) w := by
  obtain ⟨es, clock, hb, rfl, hg⟩ := h
  simp [Builtin.len_, run_underlying ht, MapKept.run_getObj_map hb, goInt, Result.andThen]
end Go.Proofs.Ytcnkgenhbnafjaa
