/-
  Blocks of cells known whole (arrays, structs): laws of the walk for alloc, box, load, store of all of one, with the cells a variable. Conditions: those in each statement.
-/
import Derived.Test.YtfidajbenmgflaaDoorBytes
import Derived.Laws.Rows
import Derived.Laws.Tables
import Derived.Laws.NewBlocks
import Derived.Deep.MidRow
import Derived.Deep.WholeRow
import Derived.Great.Ranges
namespace Go.Proofs.YtfidajbenmgflaaDoor
open Go.RowKit

/-- a block of cells -/
def Arr (w : World) (g : Nat) (T : TypeId) (xs : List Value) : Prop := w.heap[g]? = some (.cells xs.toArray T (0, 0))
section
variable {w w' : World} {g : Nat} {T : TypeId} {xs : List Value}
theorem Arr.lt (h : Arr w g T xs) : g < w.heap.size := lt_of_block h
theorem Arr.cell (h : Arr w g T xs) (j : Nat) : w.cell? ⟨g, j, none⟩ = xs[j]? := by
  rw [cell_of_row w g j _ T (0, 0) h]; simp
theorem Arr.frozen (h : Arr w g T xs) (j : Nat) : w.frozen? ⟨g, j, none⟩ = false := frozen_of_row w g j _ T h
theorem Arr.store (h : Arr w g T xs) (j : Nat) (v : Value) : Arr (w.setCell ⟨g, j, none⟩ v) g T (xs.set j v) := by
  unfold Arr
  rw [heap_setCell_same w g j _ T v h]
  simp
theorem Arr.other (h : Arr w g T xs) (p : Addr) (hp : p.block ≠ g) (v : Value) : Arr (w.setCell p v) g T xs := by
  unfold Arr
  rw [heap_setCell_other w p g v (fun e => hp e.symm)]
  exact h
theorem Arr.to {B : Nat} (h : Arr w g T xs) (hb : Below B w w') (hg : g < B) : Arr w' g T xs := by
  unfold Arr
  rw [hb.block g hg]
  exact h
theorem Arr.kept (h : Arr w g T xs) (hb : Below w.heap.size w w') : Arr w' g T xs := h.to hb h.lt
theorem Arr.grown {r : Option Nat} (h : Arr w g T xs) (hb : w.grownBy w' r) (hr : some g ≠ r) : Arr w' g T xs := by
  unfold Arr
  rw [hb.block g h.lt hr]
  exact h
theorem Arr.new (w : World) (T : TypeId) (xs : List Value) : Arr (w.alloc (.cells xs.toArray T)) w.heap.size T xs := heap_alloc_new w _
theorem Arr.range (h : Arr w g T xs) (o : Nat) (ys : List Value) (hy : ∀ j v, ys[j]? = some v → xs[o + j]? = some v) : w.rangeAt g o ys := fun j v hv => by
  rw [h.cell]; exact hy j v hv
theorem Arr.there (h : Arr w g T xs) (o n : Nat) (hn : o + n ≤ xs.length) : w.there g o n := fun j hj => by
  rw [h.cell, List.getElem?_eq_getElem (by omega)]
  exact ⟨rfl, h.frozen _⟩
theorem Arr.drew (h : Arr w g T xs) : Arr w.drew g T xs := h
theorem Arr.drewN (h : Arr w g T xs) (n : Nat) : Arr (w.drewN n) g T xs := h
theorem Arr.undrew (h : Arr w.drew g T xs) : Arr w g T xs := h
end

/-- many cells of a list, set -/
def setAt (xs : List Value) (o : Nat) : List Value → List Value
  | [] => xs
  | v :: r => setAt (xs.set o v) (o + 1) r
theorem Arr.stores {T : TypeId} {g : Nat} (ys : List Value) : ∀ {w : World} {xs : List Value} (o : Nat), Arr w g T xs → Arr (w.setCells g o ys) g T (setAt xs o ys) := by
  induction ys with
  | nil => intro w xs o h; exact h
  | cons v r ih => intro w xs o h; exact ih (o + 1) (h.store o v)
theorem setCells_grown (g : Nat) (ys : List Value) : ∀ (w : World) (o : Nat), w.grownBy (w.setCells g o ys) (some g) := by
  induction ys with
  | nil => intro w o; exact ⟨rfl, rfl, rfl, Nat.le_refl _, fun _ _ _ => rfl⟩
  | cons v r ih =>
    intro w o
    have h := ih (w.setCell ⟨g, o, none⟩ v) (o + 1)
    refine ⟨h.os, h.tape, h.output, by have := h.size; rw [World.size_setCell] at this; exact this, fun k hk hne => ?_⟩
    exact (h.block k (by simpa using hk) hne).trans (heap_setCell_other w _ k v (fun e => hne (by rw [e])))
theorem setCells_size (g : Nat) (ys : List Value) : ∀ (w : World) (o : Nat), (w.setCells g o ys).heap.size = w.heap.size := by
  induction ys with
  | nil => intro w o; rfl
  | cons v r ih => intro w o; exact (ih _ _).trans (by simp)
theorem setAt_length (ys : List Value) : ∀ (xs : List Value) (o : Nat), (setAt xs o ys).length = xs.length := by
  induction ys with
  | nil => intro xs o; rfl
  | cons v r ih => intro xs o; simp [setAt, ih]
theorem setAt_eq (ys : List Value) : ∀ (xs : List Value) (o : Nat), o + ys.length ≤ xs.length → setAt xs o ys = xs.take o ++ ys ++ xs.drop (o + ys.length) := by
  induction ys with
  | nil => intro xs o h; simp [setAt]
  | cons v r ih =>
    intro xs o h
    simp only [List.length_cons] at h
    simp only [setAt]
    rw [ih _ _ (by simp; omega)]
    have e1 : (xs.set o v).take (o + 1) = xs.take o ++ [v] := by
      rw [List.take_set, List.take_succ_eq_append_getElem (by omega), List.set_append_right _ _ (by simp; omega)]
      have : o - (xs.take o).length = 0 := by simp; omega
      rw [this]; rfl
    have e2 : (xs.set o v).drop (o + 1 + r.length) = xs.drop (o + (r.length + 1)) := by
      rw [List.drop_set_of_lt (by omega)]; congr 1; omega
    rw [e1, e2]
    simp
theorem setAt_whole (xs ys : List Value) (h : xs.length = ys.length) : setAt xs 0 ys = ys := by
  rw [setAt_eq _ _ _ (by omega)]
  simp [h]

section
variable {P : Program} {ops : Array Oper} {rest : List Oper} {o : Oper} {a : Act} {Q : Exit → Act → World → Prop} {w : World}

/-- a new variable of a type of many cells -/
theorem wl_alloc (hg : o.guard = none) (t : TypeId) (ho : o.op = .alloc t) (xs : List Value) (n : Nat) (hz : (P.info? t).map (fun i => (i.zero, i.size)) = some (some (.agg xs.toArray), n))
    (hK : ∀ w', Arr w' w.heap.size t xs → Below w.heap.size w w' → w.heap.size < w'.heap.size → wpList P ops Q rest (a.put o.dst (.pointer (some ⟨w.heap.size, 0, none⟩))) w') :
    wpList P ops Q (o :: rest) a w := by
  have h0 := (zero_of_info (P := P) hz).1
  refine wpList_plain hg fun K hK' => ?_
  unfold Oper.wp execOp
  simp only [ho, Sem.run_bind, Instr.alloc, h0, newVar, newRow, run_newObj_alloc, Sem.run_pure, Result.andThen_ok]
  exact hK' _ _ (hK _ (Arr.new w t xs) ((Below.refl _ _).alloc (Nat.le_refl _) _) (by simp))

/-- a new variable that holds a value of many cells -/
theorem wl_box (hg : o.guard = none) (t : TypeId) (x : Operand) (ho : o.op = .box t x) (xs : List Value) (hx : a.eval x = .agg xs.toArray)
    (hK : ∀ w', Arr w' w.heap.size t xs → Below w.heap.size w w' → w.heap.size < w'.heap.size → wpList P ops Q rest (a.put o.dst (.pointer (some ⟨w.heap.size, 0, none⟩))) w') :
    wpList P ops Q (o :: rest) a w := by
  refine wpList_plain hg fun K hK' => ?_
  unfold Oper.wp execOp
  simp only [ho, hx, Sem.run_bind, Instr.box, newVar, newRow, run_newObj_alloc, Sem.run_pure, Result.andThen_ok]
  exact hK' _ _ (hK _ (Arr.new w t xs) ((Below.refl _ _).alloc (Nat.le_refl _) _) (by simp))

/-- cells of a block, stored by value -/
theorem wl_store (hgd : o.guard = none) (ty : TypeId) (x y : Operand) (ho : o.op = .store ty x y) (g off : Nat) (hx : a.eval x = .pointer (some ⟨g, off, none⟩)) (ys : List Value) (hy : a.eval y = .agg ys.toArray)
    (T : TypeId) (old : List Value) (hA : Arr w g T old) (hi : (P.info? ty).map (·.size) = some ys.length) (hl : off + ys.length ≤ old.length) (h1 : ∀ v ∈ ys, v.oneCell' = true)
    (hK : ∀ w', Arr w' g T (old.take off ++ ys ++ old.drop (off + ys.length)) → w.grownBy w' (some g) → w'.heap.size = w.heap.size → wpList P ops Q rest (a.put o.dst undef) w') :
    wpList P ops Q (o :: rest) a w := by
  refine wpList_store_mid hgd ty x y ho g off ys.toArray hx hy (hA.there _ _ (by simpa using hl)) (by simpa using hi) (all_oneCell_toArray h1) ?_
  have := hK (w.setCells g off ys) (by rw [← setAt_eq _ _ _ hl]; exact hA.stores ys off) (setCells_grown _ _ _ _) (setCells_size _ _ _ _)
  simpa using this

/-- cells of a block, loaded by value -/
theorem wl_load (hgd : o.guard = none) (ty : TypeId) (x : Operand) (ho : o.op = .load ty x) (g off : Nat) (hx : a.eval x = .pointer (some ⟨g, off, none⟩))
    (T : TypeId) (xs ys : List Value) (hA : Arr w g T xs) (hy : ∀ j v, ys[j]? = some v → xs[off + j]? = some v) (d : TypeDesc) (hu : P.underlying ty = some d) (hd : d.isRow = true) (hi : (P.info? ty).map (·.size) = some ys.length)
    (hK : wpList P ops Q rest (a.put o.dst (.agg ys.toArray)) w) : wpList P ops Q (o :: rest) a w :=
  wpList_load_mid hgd ty x ho g off hx ys d (hA.range off ys hy) hu hd hi hK
end

section
variable {P : Program} {o : Oper} {a : Act} {K : Act → World → Prop} {Q : Exit → Act → World → Prop} {w : World}
theorem ow_alloc (t : TypeId) (ho : o.op = .alloc t) (xs : List Value) (n : Nat) (hz : (P.info? t).map (fun i => (i.zero, i.size)) = some (some (.agg xs.toArray), n))
    (hK : ∀ w', Arr w' w.heap.size t xs → Below w.heap.size w w' → w.heap.size < w'.heap.size → K (a.put o.dst (.pointer (some ⟨w.heap.size, 0, none⟩))) w') : o.wp P a w K Q := by
  have h0 := (zero_of_info (P := P) hz).1
  unfold Oper.wp execOp
  simp only [ho, Sem.run_bind, Instr.alloc, h0, newVar, newRow, run_newObj_alloc, Sem.run_pure, Result.andThen_ok]
  exact hK _ (Arr.new w t xs) ((Below.refl _ _).alloc (Nat.le_refl _) _) (by simp)
theorem ow_store (ty : TypeId) (x y : Operand) (ho : o.op = .store ty x y) (g off : Nat) (hx : a.eval x = .pointer (some ⟨g, off, none⟩)) (ys : List Value) (hy : a.eval y = .agg ys.toArray)
    (T : TypeId) (old : List Value) (hA : Arr w g T old) (hi : (P.info? ty).map (·.size) = some ys.length) (hl : off + ys.length ≤ old.length) (h1 : ∀ v ∈ ys, v.oneCell' = true)
    (hK : ∀ w', Arr w' g T (old.take off ++ ys ++ old.drop (off + ys.length)) → w.grownBy w' (some g) → w'.heap.size = w.heap.size → K (a.put o.dst undef) w') : o.wp P a w K Q := by
  refine wp_store_mid ty x y ho g off ys.toArray hx hy (hA.there _ _ (by simpa using hl)) (by simpa using hi) (all_oneCell_toArray h1) ?_
  have := hK (w.setCells g off ys) (by rw [← setAt_eq _ _ _ hl]; exact hA.stores ys off) (setCells_grown _ _ _ _) (setCells_size _ _ _ _)
  simpa using this
theorem ow_load (ty : TypeId) (x : Operand) (ho : o.op = .load ty x) (g off : Nat) (hx : a.eval x = .pointer (some ⟨g, off, none⟩))
    (T : TypeId) (xs ys : List Value) (hA : Arr w g T xs) (hy : ∀ j v, ys[j]? = some v → xs[off + j]? = some v) (d : TypeDesc) (hu : P.underlying ty = some d) (hd : d.isRow = true) (hi : (P.info? ty).map (·.size) = some ys.length)
    (hK : K (a.put o.dst (.agg ys.toArray)) w) : o.wp P a w K Q :=
  wp_load_mid ty x ho g off hx ys d (hA.range off ys hy) hu hd hi hK
end
/-- a whole block stored anew -/
theorem whole_store (old ys : List Value) (h : old.length = ys.length) : old.take 0 ++ ys ++ old.drop (0 + ys.length) = ys := by
  rw [List.drop_of_length_le (by omega)]; simp

/-- the end: a result that lies in a block -/
theorem end_cell {P : Program} {fn : Func} {R : Ending → World → Prop} {a : Act} {w : World} {p : Tmp} {ty : TypeId} (h : fn.results = #[.cell p ty]) (g : Nat) (T : TypeId) (xs : List Value) (d : TypeDesc)
    (hp : a.tmps.getD p undef = .pointer (some ⟨g, 0, none⟩)) (hA : Arr w g T xs) (hu : P.underlying ty = some d) (hd : (match d with | .struct _ | .array _ _ => true | _ => false) = true) (hi : (P.info? ty).map (·.size) = some xs.length)
    (hdf : a.defers = []) (hR : R (.returned (.agg xs.toArray)) w) : bodyPost P fn R .ret a w :=
  bodyPost_ret (results_cell_row h _ _ g T _ (0, 0) d hp hA hu hd (by simpa using hi)) hdf hR
end Go.Proofs.YtfidajbenmgflaaDoor
