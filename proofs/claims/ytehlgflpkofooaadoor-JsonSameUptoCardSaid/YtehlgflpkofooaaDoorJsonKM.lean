/-
  Maps as rows of keys and values: look up, store, strike, length. Conditions: those in each statement.
-/
import Derived.Test.YtehlgflpkofooaaDoorJsonK
import Derived.Maps.OwnSet
namespace Go.Proofs.YtehlgflpkofooaaDoor
open Go.RowKit Go.ChangeMaps

/-- block B is a map of these keys and values, in the order in which they came -/
def MapR (G : World → Value → Prop) (w : World) (B : Nat) (ps : List (Value × Value)) : Prop :=
  ∃ es clock, w.heap[B]? = some (.map es clock) ∧ es.toList.map (fun e => (e.key, e.val)) = ps ∧ ∀ p ∈ ps, G w p.1

section
variable {G : World → Value → Prop} {K E T : TypeId} (hK : KeyOK K G) (ht : Tryd.prog.underlying T = some (.map K E))
include hK

theorem MapR.kept {w w' : World} {B : Nat} {ps : List (Value × Value)} (h : MapR G w B ps) (hb : w'.heap[B]? = w.heap[B]?) (hp : ∀ b, PlainB w b → PlainB w' b) : MapR G w' B ps := by
  obtain ⟨es, clock, h1, h2, h3⟩ := h
  exact ⟨es, clock, hb.trans h1, h2, fun p hp' => hK.kept w w' _ hp (h3 p hp')⟩
theorem MapR.below {w w' : World} {B : Nat} {ps : List (Value × Value)} (h : MapR G w B ps) (hb : Below w.heap.size w w') : MapR G w' B ps := by
  have hB : B < w.heap.size := by obtain ⟨es, clock, h1, _⟩ := h; exact (Array.getElem?_eq_some_iff.1 h1).1
  refine h.kept hK (hb.block B hB) fun b hp => ?_
  obtain ⟨cs, U, hc⟩ := hp
  exact ⟨cs, U, (hb.block b (Array.getElem?_eq_some_iff.1 hc).1).trans hc⟩
omit hK in
theorem MapR.lt {w : World} {B : Nat} {ps : List (Value × Value)} (h : MapR G w B ps) : B < w.heap.size := by
  obtain ⟨es, clock, h1, _⟩ := h
  exact (Array.getElem?_eq_some_iff.1 h1).1
omit hK in
theorem MapR.new (w : World) : MapR G (w.alloc (.map #[] 0)) w.heap.size [] := ⟨#[], 0, heap_alloc_new w _, rfl, by simp⟩

omit hK in
theorem plain_set {w : World} {B : Nat} {es : Array MapEntry} {clock : Nat} (hb : w.heap[B]? = some (.map es clock)) (o : Obj) (b : Nat) (h : PlainB w b) : PlainB (setBlock w B o) b := by
  obtain ⟨cs, U, hc⟩ := h
  have hne : b ≠ B := by rintro rfl; rw [hb] at hc; cases hc
  exact ⟨cs, U, ((MapKept.heap_set hb (o' := o)).2 b hne).trans hc⟩
omit hK in
theorem set_grown {w : World} {B : Nat} {es : Array MapEntry} {clock : Nat} (hb : w.heap[B]? = some (.map es clock)) (o : Obj) : w.grownBy (setBlock w B o) (some B) :=
  ⟨rfl, rfl, rfl, by simp [setBlock], fun k _ hne => (MapKept.heap_set hb (o' := o)).2 k (fun e => hne (by rw [e]))⟩

include ht
theorem look {w : World} {B : Nat} {ps : List (Value × Value)} (h : MapR G w B ps) {a z : Value} (ha : G w a) (hz : (zeroValue E).run Tryd.prog w = .ok z w) :
    ((Instr.lookup T (.map (some B)) a true).run Tryd.prog w = .ok (.tuple #[z, .bool false]) w ∧ ∀ p ∈ ps, p.1 ≠ a) ∨
    ∃ v, (a, v) ∈ ps ∧ (Instr.lookup T (.map (some B)) a true).run Tryd.prog w = .ok (.tuple #[v, .bool true]) w := by
  obtain ⟨es, clock, hb, rfl, hg⟩ := h
  have hk : ∀ e ∈ es.toList, G w e.key := fun e he => hg (e.key, e.val) (List.mem_map.2 ⟨e, he, rfl⟩)
  rcases hK.find w a es.toList ha hk with ⟨h1, h2⟩ | ⟨j, e0, h1, h2, h3, -⟩
  · refine .inl ⟨by simp [Instr.lookup, run_underlying ht, MapKept.run_getObj_map hb, hK.check w a _ ha, h1, hz, Result.andThen], fun p hp => ?_⟩
    obtain ⟨e, he, rfl⟩ := List.mem_map.1 hp
    exact h2 e he
  · refine .inr ⟨e0.val, List.mem_map.2 ⟨e0, List.mem_of_getElem? h2, by rw [h3]⟩, ?_⟩
    simp [Instr.lookup, run_underlying ht, MapKept.run_getObj_map hb, hK.check w a _ ha, h1, Result.andThen]

theorem put_new {w : World} {B : Nat} {ps : List (Value × Value)} (h : MapR G w B ps) {a v : Value} (ha : G w a) (hn : ∀ p ∈ ps, p.1 ≠ a) :
    ∃ w', (Instr.mapUpdate T (.map (some B)) a v).run Tryd.prog w = .ok () w' ∧ MapR G w' B (ps ++ [(a, v)]) ∧ w.grownBy w' (some B) ∧ w'.heap.size = w.heap.size := by
  obtain ⟨es, clock, hb, rfl, hg⟩ := h
  have hk : ∀ e ∈ es.toList, G w e.key := fun e he => hg (e.key, e.val) (List.mem_map.2 ⟨e, he, rfl⟩)
  rcases hK.find w a es.toList ha hk with ⟨h1, h2⟩ | ⟨j, e0, h1, h2, h3, -⟩
  · refine ⟨setBlock w B (.map (es.push ⟨a, v, clock⟩) (clock + 1)), by simp [Instr.mapUpdate, run_underlying ht, MapKept.run_getObj_map hb, hK.check w a _ ha, h1, MapKept.run_setObj_map _ hb, Result.andThen, setBlock], ?_, set_grown hb _, by simp [setBlock]⟩
    refine ⟨_, _, (MapKept.heap_set hb).1, by simp, fun p hp => ?_⟩
    refine hK.kept w _ _ (plain_set hb _) ?_
    rcases List.mem_append.1 hp with hp | hp
    · exact hg p hp
    · simp at hp
      rw [hp]
      exact ha
  · exact absurd h3 (hn (e0.key, e0.val) (List.mem_map.2 ⟨e0, List.mem_of_getElem? h2, rfl⟩))

theorem put_set {w : World} {B : Nat} {ps : List (Value × Value)} (h : MapR G w B ps) {a v : Value} (ha : G w a) (hv : ∀ p ∈ ps, p.2 = v) :
    ∃ w' ps', (Instr.mapUpdate T (.map (some B)) a v).run Tryd.prog w = .ok () w' ∧ MapR G w' B ps' ∧ w.grownBy w' (some B) ∧ w'.heap.size = w.heap.size ∧
      ((ps' = ps ∧ ∃ p ∈ ps, p.1 = a) ∨ (ps' = ps ++ [(a, v)] ∧ ∀ p ∈ ps, p.1 ≠ a)) := by
  by_cases hn : ∀ p ∈ ps, p.1 ≠ a
  · obtain ⟨w', h1, h2, h3, h4⟩ := put_new hK ht h (v := v) ha hn
    exact ⟨w', _, h1, h2, h3, h4, .inr ⟨rfl, hn⟩⟩
  · obtain ⟨es, clock, hb, rfl, hg⟩ := h
    have hk : ∀ e ∈ es.toList, G w e.key := fun e he => hg (e.key, e.val) (List.mem_map.2 ⟨e, he, rfl⟩)
    rcases hK.find w a es.toList ha hk with ⟨h1, h2⟩ | ⟨j, e0, h1, h2, h3, -⟩
    · exact absurd (fun p hp => by obtain ⟨e, he, rfl⟩ := List.mem_map.1 hp; exact h2 e he) hn
    · have hj : es[j]? = some e0 := by rw [← Array.getElem?_toList]; exact h2
      have hval : e0.val = v := hv (e0.key, e0.val) (List.mem_map.2 ⟨e0, List.mem_of_getElem? h2, rfl⟩)
      have hst := hK.stays w a ha
      have hmod : (es.modify j fun e => { e with key := a, val := v }) = es := by
        apply Array.ext_getElem?
        intro i
        rw [Array.getElem?_modify]
        split
        · rename_i hij
          subst hij
          rw [hj]
          simp [← h3, ← hval]
        · rfl
      refine ⟨setBlock w B (.map es clock), _, ?_, ⟨es, clock, (MapKept.heap_set hb).1, rfl, fun p hp => hK.kept w _ _ (plain_set hb _) (hg p hp)⟩, set_grown hb _, by simp [setBlock], .inl ⟨rfl, (e0.key, e0.val), List.mem_map.2 ⟨e0, List.mem_of_getElem? h2, rfl⟩, h3⟩⟩
      simp [Instr.mapUpdate, run_underlying ht, MapKept.run_getObj_map hb, hK.check w a _ ha, h1, hj, h3, hst, hmod, MapKept.run_setObj_map _ hb, Result.andThen, setBlock]

theorem drop_last {w : World} {B : Nat} {ps : List (Value × Value)} {a v : Value} (h : MapR G w B (ps ++ [(a, v)])) (ha : G w a) (hn : ∀ p ∈ ps, p.1 ≠ a) (ty : TypeId) :
    ∃ w', (Builtin.delete_ #[T, K] ty #[.map (some B), a]).run Tryd.prog w = .ok (.tuple #[]) w' ∧ MapR G w' B ps ∧ w.grownBy w' (some B) ∧ w'.heap.size = w.heap.size := by
  obtain ⟨es, clock, hb, he, hg⟩ := h
  have hk : ∀ e ∈ es.toList, G w e.key := fun e hm => hg (e.key, e.val) (by rw [← he]; exact List.mem_map.2 ⟨e, hm, rfl⟩)
  have hlen : es.size = ps.length + 1 := by have := congrArg List.length he; simpa using this
  rcases hK.find w a es.toList ha hk with ⟨h1, h2⟩ | ⟨j, e0, h1, h2, h3, h4⟩
  · have : (a, v) ∈ es.toList.map (fun e => (e.key, e.val)) := by rw [he]; simp
    obtain ⟨e, hm, hee⟩ := List.mem_map.1 this
    exact absurd (congrArg Prod.fst hee) (h2 e hm)
  · have hj : j = ps.length := by
      have hjl : j < es.toList.length := (List.getElem?_eq_some_iff.1 h2).1
      have hjl' : j < es.size := by simpa using hjl
      by_cases hlt : j < ps.length
      · have e1 : (es.toList.map (fun e => (e.key, e.val)))[j]? = some (e0.key, e0.val) := by rw [List.getElem?_map, h2]; rfl
        rw [he, List.getElem?_append_left hlt] at e1
        exact absurd h3 (hn (e0.key, e0.val) (List.mem_of_getElem? e1))
      · omega
    have hsub : (es.eraseIdxIfInBounds j).toList = es.toList.eraseIdx j := by
      unfold Array.eraseIdxIfInBounds
      rw [dif_pos (by omega)]
      simp
    have hmap : (es.eraseIdxIfInBounds j).toList.map (fun e => (e.key, e.val)) = ps := by
      rw [hsub, map_eraseIdx, he, hj]
      simp [List.eraseIdx_append_of_length_le]
    refine ⟨setBlock w B (.map (es.eraseIdxIfInBounds j) clock), by simp [Builtin.delete_, run_underlying ht, MapKept.run_getObj_map hb, hK.check w a _ ha, h1, MapKept.run_setObj_map _ hb, Result.andThen, setBlock], ⟨_, _, (MapKept.heap_set hb).1, hmap, fun p hp => hK.kept w _ _ (plain_set hb _) (hg p (by simp [hp]))⟩, set_grown hb _, by simp [setBlock]⟩
omit hK in
theorem map_len {w : World} {B : Nat} {ps : List (Value × Value)} (h : MapR G w B ps) (ty : TypeId) : (Builtin.len_ #[T] ty #[.map (some B)]).run Tryd.prog w = .ok (.int .i64 (ps.length : Int)) w := by
  obtain ⟨es, clock, hb, rfl, hg⟩ := h
  simp [Builtin.len_, run_underlying ht, MapKept.run_getObj_map hb, goInt, Result.andThen]
end

/-! at the operations -/
section
variable {G : World → Value → Prop} {K E T : TypeId} (hK : KeyOK K G) (ht : Tryd.prog.underlying T = some (.map K E)) {w : World} {ops : Array Oper} {rest : List Oper} {o : Oper} {a : Act} {Q : Exit → Act → World → Prop}
include hK ht
theorem wl_look_no (hg : o.guard = none) (m x : Operand) (hop : o.op = Op.lookup T m x true) (B : Nat) (ps : List (Value × Value)) (hm : a.eval m = .map (some B)) (hown : MapR G w B ps) (key z : Value) (hx : a.eval x = key) (hkey : G w key)
    (hz : (zeroValue E).run Tryd.prog w = .ok z w) (hn : ∀ p ∈ ps, p.1 ≠ key) (hk : wpList Tryd.prog ops Q rest (a.put o.dst (.tuple #[z, .bool false])) w) : wpList Tryd.prog ops Q (o :: rest) a w := by
  refine wpList_plain hg fun K' hK' => ?_
  rcases look hK ht hown hkey hz with ⟨h1, -⟩ | ⟨v, h1, -⟩
  · unfold Oper.wp
    simp [execOp, hop, hm, hx, h1, Result.andThen]
    exact hK' _ _ hk
  · exact absurd rfl (hn _ h1)
theorem wl_look_yes (hg : o.guard = none) (m x : Operand) (hop : o.op = Op.lookup T m x true) (B : Nat) (ps : List (Value × Value)) (hm : a.eval m = .map (some B)) (hown : MapR G w B ps) (key z u : Value) (hx : a.eval x = key) (hkey : G w key)
    (hz : (zeroValue E).run Tryd.prog w = .ok z w) (hy : ∃ p ∈ ps, p.1 = key) (hu : ∀ p ∈ ps, p.2 = u) (hk : wpList Tryd.prog ops Q rest (a.put o.dst (.tuple #[u, .bool true])) w) : wpList Tryd.prog ops Q (o :: rest) a w := by
  refine wpList_plain hg fun K' hK' => ?_
  rcases look hK ht hown hkey hz with ⟨-, h1⟩ | ⟨v, h1, h2⟩
  · obtain ⟨p, hp, e⟩ := hy
    exact absurd e (h1 p hp)
  · rw [show v = u from hu _ h1] at h2
    unfold Oper.wp
    simp [execOp, hop, hm, hx, h2, Result.andThen]
    exact hK' _ _ hk
theorem wl_put_new (hg : o.guard = none) (m x v : Operand) (hop : o.op = Op.mapUpdate T m x v) (B : Nat) (ps : List (Value × Value)) (hm : a.eval m = .map (some B)) (hown : MapR G w B ps) (key val : Value) (hx : a.eval x = key) (hv : a.eval v = val) (hkey : G w key)
    (hn : ∀ p ∈ ps, p.1 ≠ key) (hk : ∀ w', MapR G w' B (ps ++ [(key, val)]) → w.grownBy w' (some B) → w'.heap.size = w.heap.size → wpList Tryd.prog ops Q rest (a.put o.dst undef) w') : wpList Tryd.prog ops Q (o :: rest) a w := by
  refine wpList_plain hg fun K' hK' => ?_
  obtain ⟨w', h1, h2, h3, h4⟩ := put_new hK ht hown (v := val) hkey hn
  unfold Oper.wp
  simp [execOp, hop, hm, hx, hv, h1, Result.andThen]
  exact hK' _ _ (hk w' h2 h3 h4)
theorem wl_put_set (hg : o.guard = none) (m x v : Operand) (hop : o.op = Op.mapUpdate T m x v) (B : Nat) (ps : List (Value × Value)) (hm : a.eval m = .map (some B)) (hown : MapR G w B ps) (key val : Value) (hx : a.eval x = key) (hv : a.eval v = val) (hkey : G w key)
    (hu : ∀ p ∈ ps, p.2 = val) (hk : ∀ w' ps', MapR G w' B ps' → w.grownBy w' (some B) → w'.heap.size = w.heap.size → ((ps' = ps ∧ ∃ p ∈ ps, p.1 = key) ∨ (ps' = ps ++ [(key, val)] ∧ ∀ p ∈ ps, p.1 ≠ key)) → wpList Tryd.prog ops Q rest (a.put o.dst undef) w') : wpList Tryd.prog ops Q (o :: rest) a w := by
  refine wpList_plain hg fun K' hK' => ?_
  obtain ⟨w', ps', h1, h2, h3, h4, h5⟩ := put_set hK ht hown (v := val) hkey hu
  unfold Oper.wp
  simp [execOp, hop, hm, hx, hv, h1, Result.andThen]
  exact hK' _ _ (hk w' ps' h2 h3 h4 h5)
theorem wl_drop (hg : o.guard = none) (m x : Operand) (hop : o.op = Op.call { callee := Callee.builtin Builtin.delete, args := #[m, x], argTypes := #[T, K] }) (B : Nat) (ps : List (Value × Value)) (key v : Value) (hm : a.eval m = .map (some B)) (hown : MapR G w B (ps ++ [(key, v)])) (hx : a.eval x = key) (hkey : G w key)
    (hn : ∀ p ∈ ps, p.1 ≠ key) (hk : ∀ w', MapR G w' B ps → w.grownBy w' (some B) → w'.heap.size = w.heap.size → wpList Tryd.prog ops Q rest (a.put o.dst (.tuple #[])) w') : wpList Tryd.prog ops Q (o :: rest) a w := by
  refine wpList_plain hg fun K' hK' => ?_
  obtain ⟨w', h1, h2, h3, h4⟩ := drop_last hK ht hown hkey hn o.type
  unfold Oper.wp
  simp [execOp, hop, resolve, invoke, builtin, hm, hx, h1, Result.andThen]
  exact hK' _ _ (hk w' h2 h3 h4)
omit hK in
theorem wl_len (hg : o.guard = none) (m : Operand) (hop : o.op = Op.call { callee := Callee.builtin Builtin.len, args := #[m], argTypes := #[T] }) (B : Nat) (ps : List (Value × Value)) (hm : a.eval m = .map (some B)) (hown : MapR G w B ps)
    (hk : wpList Tryd.prog ops Q rest (a.put o.dst (.int .i64 (ps.length : Int))) w) : wpList Tryd.prog ops Q (o :: rest) a w := by
  refine wpList_plain hg fun K' hK' => ?_
  unfold Oper.wp
  simp [execOp, hop, resolve, invoke, builtin, hm, map_len ht hown o.type, Result.andThen]
  exact hK' _ _ hk
end
end Go.Proofs.YtehlgflpkofooaaDoor
