/-
  Blocks of cells, regions that draw their order; the document's own functions of words, UTF-8, sameness. Conditions: those in each statement.
-/
import Derived.Test.YtiadfijeglbdlaaDoorJyA
import Derived.Laws.Rows
import Derived.Laws.Tables
import Derived.Laws.NewBlocks
import Derived.Deep.MidRow
import Derived.Deep.WholeRow
import Derived.Great.Ranges
import Derived.Orders
import Derived.RegionTactic
import Derived.WalkKit
import Derived.Lib.Hide
import Derived.Deep.DeepCutAuto
import Derived.Deep.CutBlock
import Derived.Deep.RegionHeld3
import Derived.Deep.RegionLaw
import Derived.Lib.SlBytesConst
namespace Go.Proofs.YtiadfijeglbdlaaDoor
open Go.RowKit

/-- a block of cells -/
def Arr (w : World) (g : Nat) (T : TypeId) (xs : List Value) : Prop := w.heap[g]? = some (.cells xs.toArray T (0, 0))
section
variable {w w' : World} {g : Nat} {T : TypeId} {xs : List Value}
theorem Arr.lt (h : Arr w g T xs) : g < w.heap.size := lt_of_block h
theorem Arr.cell (h : Arr w g T xs) (j : Nat) : w.cell? ⟨g, j, none⟩ = xs[j]? := by
  rw [cell_of_row w g j _ T (0, 0) h]; simp
theorem Arr.frozen (h : Arr w g T xs) (j : Nat) : w.frozen? ⟨g, j, none⟩ = false := frozen_of_row w g j _ T h
theorem Arr.store (h : Arr w g T xs) (j : Nat) (v : Value) : Arr (w.setCell ⟨g, j, none⟩ v) g T (xs.set j v) := by
  unfold Arr
  rw [heap_setCell_same w g j _ T v h]
  simp
theorem Arr.other (h : Arr w g T xs) (p : Addr) (hp : p.block ≠ g) (v : Value) : Arr (w.setCell p v) g T xs := by
  unfold Arr
  rw [heap_setCell_other w p g v (fun e => hp e.symm)]
  exact h
theorem Arr.to {B : Nat} (h : Arr w g T xs) (hb : Below B w w') (hg : g < B) : Arr w' g T xs := by
  unfold Arr
  rw [hb.block g hg]
  exact h
theorem Arr.kept (h : Arr w g T xs) (hb : Below w.heap.size w w') : Arr w' g T xs := h.to hb h.lt
theorem Arr.grown {r : Option Nat} (h : Arr w g T xs) (hb : w.grownBy w' r) (hr : some g ≠ r) : Arr w' g T xs := by
  unfold Arr
  rw [hb.block g h.lt hr]
  exact h
theorem Arr.new (w : World) (T : TypeId) (xs : List Value) : Arr (w.alloc (.cells xs.toArray T)) w.heap.size T xs := heap_alloc_new w _
theorem Arr.range (h : Arr w g T xs) (o : Nat) (ys : List Value) (hy : ∀ j v, ys[j]? = some v → xs[o + j]? = some v) : w.rangeAt g o ys := fun j v hv => by
  rw [h.cell]; exact hy j v hv
theorem Arr.there (h : Arr w g T xs) (o n : Nat) (hn : o + n ≤ xs.length) : w.there g o n := fun j hj => by
  rw [h.cell, List.getElem?_eq_getElem (by omega)]
  exact ⟨rfl, h.frozen _⟩
theorem Arr.drew (h : Arr w g T xs) : Arr w.drew g T xs := h
theorem Arr.drewN (h : Arr w g T xs) (n : Nat) : Arr (w.drewN n) g T xs := h
theorem Arr.undrew (h : Arr w.drew g T xs) : Arr w g T xs := h
end

/-- many cells of a list, set -/
def setAt (xs : List Value) (o : Nat) : List Value → List Value
  | [] => xs
  | v :: r => setAt (xs.set o v) (o + 1) r
theorem Arr.stores {T : TypeId} {g : Nat} (ys : List Value) : ∀ {w : World} {xs : List Value} (o : Nat), Arr w g T xs → Arr (w.setCells g o ys) g T (setAt xs o ys) := by
  induction ys with
  | nil => intro w xs o h; exact h
  | cons v r ih => intro w xs o h; exact ih (o + 1) (h.store o v)
theorem setCells_grown (g : Nat) (ys : List Value) : ∀ (w : World) (o : Nat), w.grownBy (w.setCells g o ys) (some g) := by
  induction ys with
  | nil => intro w o; exact ⟨rfl, rfl, rfl, Nat.le_refl _, fun _ _ _ => rfl⟩
  | cons v r ih =>
    intro w o
    have h := ih (w.setCell ⟨g, o, none⟩ v) (o + 1)
    refine ⟨h.os, h.tape, h.output, by have := h.size; rw [World.size_setCell] at this; exact this, fun k hk hne => ?_⟩
    exact (h.block k (by simpa using hk) hne).trans (heap_setCell_other w _ k v (fun e => hne (by rw [e])))
theorem setCells_size (g : Nat) (ys : List Value) : ∀ (w : World) (o : Nat), (w.setCells g o ys).heap.size = w.heap.size := by
  induction ys with
  | nil => intro w o; rfl
  | cons v r ih => intro w o; exact (ih _ _).trans (by simp)
theorem setAt_length (ys : List Value) : ∀ (xs : List Value) (o : Nat), (setAt xs o ys).length = xs.length := by
  induction ys with
  | nil => intro xs o; rfl
  | cons v r ih => intro xs o; simp [setAt, ih]
theorem setAt_eq (ys : List Value) : ∀ (xs : List Value) (o : Nat), o + ys.length ≤ xs.length → setAt xs o ys = xs.take o ++ ys ++ xs.drop (o + ys.length) := by
  induction ys with
  | nil => intro xs o h; simp [setAt]
  | cons v r ih =>
    intro xs o h
    simp only [List.length_cons] at h
    simp only [setAt]
    rw [ih _ _ (by simp; omega)]
    have e1 : (xs.set o v).take (o + 1) = xs.take o ++ [v] := by
      rw [List.take_set, List.take_succ_eq_append_getElem (by omega), List.set_append_right _ _ (by simp; omega)]
      have : o - (xs.take o).length = 0 := by simp; omega
      rw [this]; rfl
    have e2 : (xs.set o v).drop (o + 1 + r.length) = xs.drop (o + (r.length + 1)) := by
      rw [List.drop_set_of_lt (by omega)]; congr 1; omega
    rw [e1, e2]
    simp
theorem setAt_whole (xs ys : List Value) (h : xs.length = ys.length) : setAt xs 0 ys = ys := by
  rw [setAt_eq _ _ _ (by omega)]
  simp [h]

section
variable {P : Program} {ops : Array Oper} {rest : List Oper} {o : Oper} {a : Act} {Q : Exit → Act → World → Prop} {w : World}

/-- a new variable of a type of many cells -/
theorem wl_alloc (hg : o.guard = none) (t : TypeId) (ho : o.op = .alloc t) (xs : List Value) (n : Nat) (hz : (P.info? t).map (fun i => (i.zero, i.size)) = some (some (.agg xs.toArray), n))
    (hK : ∀ w', Arr w' w.heap.size t xs → Below w.heap.size w w' → w.heap.size < w'.heap.size → wpList P ops Q rest (a.put o.dst (.pointer (some ⟨w.heap.size, 0, none⟩))) w') :
    wpList P ops Q (o :: rest) a w := by
  have h0 := (zero_of_info (P := P) hz).1
  refine wpList_plain hg fun K hK' => ?_
  unfold Oper.wp execOp
  simp only [ho, Sem.run_bind, Instr.alloc, h0, newVar, newRow, run_newObj_alloc, Sem.run_pure, Result.andThen_ok]
  exact hK' _ _ (hK _ (Arr.new w t xs) ((Below.refl _ _).alloc (Nat.le_refl _) _) (by simp))

/-- a new variable that holds a value of many cells -/
theorem wl_box (hg : o.guard = none) (t : TypeId) (x : Operand) (ho : o.op = .box t x) (xs : List Value) (hx : a.eval x = .agg xs.toArray)
    (hK : ∀ w', Arr w' w.heap.size t xs → Below w.heap.size w w' → w.heap.size < w'.heap.size → wpList P ops Q rest (a.put o.dst (.pointer (some ⟨w.heap.size, 0, none⟩))) w') :
    wpList P ops Q (o :: rest) a w := by
  refine wpList_plain hg fun K hK' => ?_
  unfold Oper.wp execOp
  simp only [ho, hx, Sem.run_bind, Instr.box, newVar, newRow, run_newObj_alloc, Sem.run_pure, Result.andThen_ok]
  exact hK' _ _ (hK _ (Arr.new w t xs) ((Below.refl _ _).alloc (Nat.le_refl _) _) (by simp))

/-- cells of a block, stored by value -/
theorem wl_store (hgd : o.guard = none) (ty : TypeId) (x y : Operand) (ho : o.op = .store ty x y) (g off : Nat) (hx : a.eval x = .pointer (some ⟨g, off, none⟩)) (ys : List Value) (hy : a.eval y = .agg ys.toArray)
    (T : TypeId) (old : List Value) (hA : Arr w g T old) (hi : (P.info? ty).map (·.size) = some ys.length) (hl : off + ys.length ≤ old.length) (h1 : ∀ v ∈ ys, v.oneCell' = true)
    (hK : ∀ w', Arr w' g T (old.take off ++ ys ++ old.drop (off + ys.length)) → w.grownBy w' (some g) → w'.heap.size = w.heap.size → wpList P ops Q rest (a.put o.dst undef) w') :
    wpList P ops Q (o :: rest) a w := by
  refine wpList_store_mid hgd ty x y ho g off ys.toArray hx hy (hA.there _ _ (by simpa using hl)) (by simpa using hi) (all_oneCell_toArray h1) ?_
  have := hK (w.setCells g off ys) (by rw [← setAt_eq _ _ _ hl]; exact hA.stores ys off) (setCells_grown _ _ _ _) (setCells_size _ _ _ _)
  simpa using this

/-- cells of a block, loaded by value -/
theorem wl_load (hgd : o.guard = none) (ty : TypeId) (x : Operand) (ho : o.op = .load ty x) (g off : Nat) (hx : a.eval x = .pointer (some ⟨g, off, none⟩))
    (T : TypeId) (xs ys : List Value) (hA : Arr w g T xs) (hy : ∀ j v, ys[j]? = some v → xs[off + j]? = some v) (d : TypeDesc) (hu : P.underlying ty = some d) (hd : d.isRow = true) (hi : (P.info? ty).map (·.size) = some ys.length)
    (hK : wpList P ops Q rest (a.put o.dst (.agg ys.toArray)) w) : wpList P ops Q (o :: rest) a w :=
  wpList_load_mid hgd ty x ho g off hx ys d (hA.range off ys hy) hu hd hi hK
end

section
variable {P : Program} {o : Oper} {a : Act} {K : Act → World → Prop} {Q : Exit → Act → World → Prop} {w : World}
theorem ow_alloc (t : TypeId) (ho : o.op = .alloc t) (xs : List Value) (n : Nat) (hz : (P.info? t).map (fun i => (i.zero, i.size)) = some (some (.agg xs.toArray), n))
    (hK : ∀ w', Arr w' w.heap.size t xs → Below w.heap.size w w' → w.heap.size < w'.heap.size → K (a.put o.dst (.pointer (some ⟨w.heap.size, 0, none⟩))) w') : o.wp P a w K Q := by
  have h0 := (zero_of_info (P := P) hz).1
  unfold Oper.wp execOp
  simp only [ho, Sem.run_bind, Instr.alloc, h0, newVar, newRow, run_newObj_alloc, Sem.run_pure, Result.andThen_ok]
  exact hK _ (Arr.new w t xs) ((Below.refl _ _).alloc (Nat.le_refl _) _) (by simp)
theorem ow_store (ty : TypeId) (x y : Operand) (ho : o.op = .store ty x y) (g off : Nat) (hx : a.eval x = .pointer (some ⟨g, off, none⟩)) (ys : List Value) (hy : a.eval y = .agg ys.toArray)
    (T : TypeId) (old : List Value) (hA : Arr w g T old) (hi : (P.info? ty).map (·.size) = some ys.length) (hl : off + ys.length ≤ old.length) (h1 : ∀ v ∈ ys, v.oneCell' = true)
    (hK : ∀ w', Arr w' g T (old.take off ++ ys ++ old.drop (off + ys.length)) → w.grownBy w' (some g) → w'.heap.size = w.heap.size → K (a.put o.dst undef) w') : o.wp P a w K Q := by
  refine wp_store_mid ty x y ho g off ys.toArray hx hy (hA.there _ _ (by simpa using hl)) (by simpa using hi) (all_oneCell_toArray h1) ?_
  have := hK (w.setCells g off ys) (by rw [← setAt_eq _ _ _ hl]; exact hA.stores ys off) (setCells_grown _ _ _ _) (setCells_size _ _ _ _)
  simpa using this
theorem ow_load (ty : TypeId) (x : Operand) (ho : o.op = .load ty x) (g off : Nat) (hx : a.eval x = .pointer (some ⟨g, off, none⟩))
    (T : TypeId) (xs ys : List Value) (hA : Arr w g T xs) (hy : ∀ j v, ys[j]? = some v → xs[off + j]? = some v) (d : TypeDesc) (hu : P.underlying ty = some d) (hd : d.isRow = true) (hi : (P.info? ty).map (·.size) = some ys.length)
    (hK : K (a.put o.dst (.agg ys.toArray)) w) : o.wp P a w K Q :=
  wp_load_mid ty x ho g off hx ys d (hA.range off ys hy) hu hd hi hK
end
/-- a whole block stored anew -/
theorem whole_store (old ys : List Value) (h : old.length = ys.length) : old.take 0 ++ ys ++ old.drop (0 + ys.length) = ys := by
  rw [List.drop_of_length_le (by omega)]; simp

/-- the end: a result that lies in a block -/
theorem end_cell {P : Program} {fn : Func} {R : Ending → World → Prop} {a : Act} {w : World} {p : Tmp} {ty : TypeId} (h : fn.results = #[.cell p ty]) (g : Nat) (T : TypeId) (xs : List Value) (d : TypeDesc)
    (hp : a.tmps.getD p undef = .pointer (some ⟨g, 0, none⟩)) (hA : Arr w g T xs) (hu : P.underlying ty = some d) (hd : (match d with | .struct _ | .array _ _ => true | _ => false) = true) (hi : (P.info? ty).map (·.size) = some xs.length)
    (hdf : a.defers = []) (hR : R (.returned (.agg xs.toArray)) w) : bodyPost P fn R .ret a w :=
  bodyPost_ret (results_cell_row h _ _ g T _ (0, 0) d hp hA hu hd (by simpa using hi)) hdf hR
end Go.Proofs.YtiadfijeglbdlaaDoor

namespace Go.Proofs.YtiadfijeglbdlaaDoor
open Go.RowKit

def depsB (ops : Array Oper) (D : List (List Nat)) : Bool :=
  decide (D.length = ops.size) && (List.range ops.size).all fun i => match ops[i]? with
    | none => false
    | some o => (D.getD i []).all (fun j => o.after.any fun e => Region.binds .any e && e.on == j) && o.after.all (fun e => !Region.binds .any e || decide (e.on < i))

def doneL (n : Nat) : Nat → Bool := fun j => decide (n ≤ j)
def stepL (L : Nat → Bool) (i : Nat) : Nat → Bool := fun j => if j = i then true else L j

section
variable {P : Program} {ops : Array Oper} {Q : Exit → Act → World → Prop}

theorem depsB_at {D : List (List Nat)} (hD : depsB ops D = true) {i : Nat} {o : Oper} (ho : ops[i]? = some o) :
    i < D.length ∧ (∀ j ∈ D.getD i [], ∃ e ∈ o.after, Region.binds .any e = true ∧ e.on = j) ∧ (∀ e ∈ o.after, Region.binds .any e = true → e.on < i) := by
  unfold depsB at hD
  rw [Bool.and_eq_true] at hD
  obtain ⟨h1, h2⟩ := hD
  have hi : i < ops.size := (Array.getElem?_eq_some_iff.1 ho).1
  have h3 := List.all_eq_true.1 h2 i (by simpa using hi)
  rw [ho] at h3
  simp only [Bool.and_eq_true] at h3
  obtain ⟨h4, h5⟩ := h3
  refine ⟨by have := of_decide_eq_true h1; omega, fun j hj => ?_, fun e he hb => ?_⟩
  · have := List.all_eq_true.1 h4 j hj
    obtain ⟨e, he, hx⟩ := Array.any_eq_true'.1 this
    simp only [Bool.and_eq_true, beq_iff_eq] at hx
    exact ⟨e, he, hx.1, hx.2⟩
  · have := (Array.all_eq_true_iff_forall_mem.1 h5) e he
    simpa [hb] using this

theorem all_listed {D : List (List Nat)} (hD : depsB ops D = true) {listed : Array Bool} (hs : listed.size = ops.size) (hr : Region.ready .any ops listed = []) : ∀ i, listed.getD i true = true := by
  intro i
  induction i using Nat.strongRecOn with
  | _ i ih =>
    cases h : listed.getD i true with
    | true => rfl
    | false =>
      have hi : i < ops.size := by
        rw [← hs]
        rcases Nat.lt_or_ge i listed.size with h' | h'
        · exact h'
        · simp [Array.getD, Nat.not_lt.2 h'] at h
      have ho : ops[i]? = some ops[i] := Array.getElem?_eq_getElem hi
      have : i ∈ Region.ready .any ops listed := mem_ready.2 ⟨h, _, ho, fun e he hb => by
        have hlt := (depsB_at hD ho).2.2 e he hb
        have := ih e.on hlt
        have h2 : e.on < listed.size := by omega
        simpa [Array.getD, h2] using this⟩
      rw [hr] at this
      cases this

theorem wpAny_inv {D : List (List Nat)} (hD : depsB ops D = true) (I : (Nat → Bool) → Act → World → Prop)
    (hstep : ∀ i, i < D.length → ∀ (L : Nat → Bool) (a : Act) (w : World), I L a w → L i = false → (∀ j ∈ D.getD i [], L j = true) → (∀ k, k < D.length → L k = true → ∀ j ∈ D.getD k [], L j = true) → ∀ K : Act → World → Prop, (∀ a' w', I (stepL L i) a' w' → K a' w') →
      ∀ o, ops[i]? = some o → if Region.wanted o (yielded ops a.tmps) = true then Oper.wp P o a w K Q else K (a.put o.dst undef) w)
    (hend : ∀ a w, I (fun _ => true) a w → Q .normal a w) :
    ∀ (fuel : Nat) (listed : Array Bool) (a : Act) (w : World), listed.size = ops.size → (∀ k, k < D.length → listed.getD k true = true → ∀ j ∈ D.getD k [], listed.getD j true = true) → listed.toList.count false ≤ fuel → I (fun j => listed.getD j true) a w → wpAny P .any ops Q fuel listed a w := by
  have fin : ∀ (listed : Array Bool) (a : Act) (w : World), listed.size = ops.size → Region.ready .any ops listed = [] → I (fun j => listed.getD j true) a w → Q .normal a w := by
    intro listed a w hs hr hI
    have := all_listed hD hs hr
    refine hend a w ?_
    have e : (fun j => listed.getD j true) = fun _ => true := funext this
    rw [e] at hI
    exact hI
  intro fuel
  induction fuel with
  | zero =>
    intro listed a w hs hcl hc hI
    have hr : Region.ready .any ops listed = [] := by
      cases h : Region.ready .any ops listed with
      | nil => rfl
      | cons i r =>
        have hi : i ∈ Region.ready .any ops listed := by rw [h]; exact List.mem_cons_self ..
        obtain ⟨h1, -⟩ := mem_ready.1 hi
        have hlt : i < listed.size := by
          rcases Nat.lt_or_ge i listed.size with h' | h'
          · exact h'
          · simp [Array.getD, Nat.not_lt.2 h'] at h1
        have : false ∈ listed.toList := by
          simp [Array.getD, hlt] at h1
          rw [← h1]
          exact Array.getElem_mem_toList hlt
        have := List.count_pos_iff.2 this
        omega
    exact ⟨hr, fin listed a w hs hr hI⟩
  | succ fuel ih =>
    intro listed a w hs hcl hc hI
    refine ⟨fun hr => fin listed a w hs hr hI, fun i hi => ?_⟩
    obtain ⟨h1, o, ho, hdep⟩ := mem_ready.1 hi
    have hlt : i < listed.size := by
      rcases Nat.lt_or_ge i listed.size with h' | h'
      · exact h'
      · simp [Array.getD, Nat.not_lt.2 h'] at h1
    obtain ⟨d1, d2, d3⟩ := depsB_at hD ho
    refine wpOp_step ho fun K hK => ?_
    have hdeps : ∀ j ∈ D.getD i [], listed.getD j true = true := by
      intro j hj
      obtain ⟨e, he, hb, rfl⟩ := d2 j hj
      have := hdep e he hb
      have h3 := d3 e he hb
      have h2 : e.on < listed.size := by omega
      simpa [Array.getD, h2] using this
    have enext : (fun j => (listed.setIfInBounds i true).getD j true) = stepL (fun j => listed.getD j true) i := by
      funext j
      unfold stepL
      by_cases hj : j = i
      · subst hj; simp [Array.getD, hlt]
      · rw [if_neg hj]
        simp only [Array.getD, Array.size_setIfInBounds]
        split
        · exact Array.getElem_setIfInBounds_ne (by assumption) (Ne.symm hj)
        · rfl
    have hup : ∀ j, listed.getD j true = true → (listed.setIfInBounds i true).getD j true = true := by
      intro j hj
      have : (listed.setIfInBounds i true).getD j true = stepL (fun j => listed.getD j true) i j := congrFun enext j
      rw [this]
      unfold stepL
      split
      · rfl
      · exact hj
    refine hstep i d1 _ a w hI h1 hdeps hcl K (fun a' w' hI' => hK a' w' (ih _ a' w' (by simpa using hs) ?_ ?_ ?_)) o ho
    · intro k hk hkl j hj
      by_cases hki : k = i
      · subst hki; exact hup j (hdeps j hj)
      · have h4 : (listed.setIfInBounds i true).getD k true = stepL (fun j => listed.getD j true) i k := congrFun enext k
        rw [h4] at hkl
        unfold stepL at hkl
        rw [if_neg hki] at hkl
        exact hup j (hcl k hk hkl j hj)
    · have hb : listed.toList[i]'(by simpa using hlt) = false := by simpa [Array.getD, hlt] using h1
      have : (listed.setIfInBounds i true).toList = listed.toList.set i true := by simp
      rw [this, List.count_set (by simpa using hlt), hb]
      rw [if_pos (by simp), if_neg (by simp)]
      omega
    · rw [enext]
      exact hI'

/-- a region that draws its order, by an invariant -/
theorem wp_region_inv {id : Nat} {a : Act} {w : World} (D : List (List Nat)) (hm : P.follows .mixedOrders = true) (hD : depsB ops D = true) (I : (Nat → Bool) → Act → World → Prop)
    (h0 : I (doneL D.length) a w.drew)
    (hstep : ∀ i, i < D.length → ∀ (L : Nat → Bool) (a : Act) (w : World), I L a w → L i = false → (∀ j ∈ D.getD i [], L j = true) → (∀ k, k < D.length → L k = true → ∀ j ∈ D.getD k [], L j = true) → ∀ K : Act → World → Prop, (∀ a' w', I (stepL L i) a' w' → K a' w') →
      ∀ o, ops[i]? = some o → if Region.wanted o (yielded ops a.tmps) = true then Oper.wp P o a w K Q else K (a.put o.dst undef) w)
    (hend : ∀ a w, I (fun _ => true) a w → Q .normal a w) : (Code.region id ops true).wp P Q a w := by
  have hDl : D.length = ops.size := by
    unfold depsB at hD
    rw [Bool.and_eq_true] at hD
    exact of_decide_eq_true hD.1
  refine wp_region_any hm (wpAny_inv hD I hstep hend _ _ a _ (by simp) (fun k hk hkl => by rw [hDl] at hk; simp [Array.getD, hk] at hkl) (by simp) ?_)
  have e : (fun j => (Array.replicate ops.size false).getD j true) = doneL D.length := by
    funext j
    simp only [Array.getD, doneL, hDl]
    by_cases h : j < ops.size <;> simp [h]; omega
  rw [e]
  exact h0
/-- one goal an operation -/
def Steps (P : Program) (ops : Array Oper) (Q : Exit → Act → World → Prop) (D : List (List Nat)) (I : (Nat → Bool) → Act → World → Prop) : Nat → List Oper → Prop
  | _, [] => True
  | i, o :: r => (∀ (L : Nat → Bool) (a : Act) (w : World), I L a w → L i = false → (∀ j ∈ D.getD i [], L j = true) → (∀ k, k < D.length → L k = true → ∀ j ∈ D.getD k [], L j = true) → ∀ K : Act → World → Prop, (∀ a' w', I (stepL L i) a' w' → K a' w') →
      match o.guard with
      | none => Oper.wp P o a w K Q
      | some _ => if Region.wanted o (yielded ops a.tmps) = true then Oper.wp P o a w K Q else K (a.put o.dst undef) w) ∧ Steps P ops Q D I (i + 1) r

theorem steps_at {D : List (List Nat)} {I : (Nat → Bool) → Act → World → Prop} : ∀ (l : List Oper) (i : Nat), Steps P ops Q D I i l → ∀ k o, l[k]? = some o →
    ∀ (L : Nat → Bool) (a : Act) (w : World), I L a w → L (i + k) = false → (∀ j ∈ D.getD (i + k) [], L j = true) → (∀ k, k < D.length → L k = true → ∀ j ∈ D.getD k [], L j = true) → ∀ K : Act → World → Prop, (∀ a' w', I (stepL L (i + k)) a' w' → K a' w') →
      if Region.wanted o (yielded ops a.tmps) = true then Oper.wp P o a w K Q else K (a.put o.dst undef) w
  | [], _, _, _, _, hk => by simp at hk
  | o :: r, i, ⟨h1, h2⟩, 0, o', hk => by
    intro L a w hI hL hd hcl K hK
    have e : o = o' := by simpa using hk
    subst e
    have := h1 L a w hI hL hd hcl K hK
    cases hg : o.guard with
    | none =>
      rw [hg] at this
      rw [if_pos (by simp [Region.wanted, hg])]
      exact this
    | some g => rw [hg] at this; exact this
  | o :: r, i, ⟨h1, h2⟩, k + 1, o', hk => by
    have := steps_at r (i + 1) h2 k o' (by simpa using hk)
    rw [show i + 1 + k = i + (k + 1) by omega] at this
    exact this

theorem wp_region_steps {id : Nat} {a : Act} {w : World} (D : List (List Nat)) (hm : P.follows .mixedOrders = true) (hD : depsB ops D = true) (I : (Nat → Bool) → Act → World → Prop)
    (h0 : I (doneL D.length) a w.drew) (hstep : Steps P ops Q D I 0 ops.toList) (hend : ∀ a w, I (fun _ => true) a w → Q .normal a w) : (Code.region id ops true).wp P Q a w :=
  wp_region_inv D hm hD I h0 (fun i _ L a w hI hL hd hcl K hK o ho => by
    have := steps_at ops.toList 0 hstep i o (by simpa using ho)
    rw [Nat.zero_add] at this
    exact this L a w hI hL hd hcl K hK) hend
end

end Go.Proofs.YtiadfijeglbdlaaDoor

namespace Go.Proofs.YtiadfijeglbdlaaDoor
open Go.RowKit

theorem bstr_beq (s t : List UInt8) : (bstr s == bstr t) = decide (s = t) := by
  show (s.toArray == t.toArray) = _
  rw [Bool.eq_iff_iff, beq_iff_eq, decide_eq_true_eq]
  constructor
  · intro h
    simpa using congrArg Array.toList h
  · rintro rfl
    rfl

theorem five (l : List Value) (h : l.length = 5) : ∃ a b c d e, l = [a, b, c, d, e] := by
  match l, h with
  | [a, b, c, d, e], _ => exact ⟨a, b, c, d, e, rfl⟩
set_option maxRecDepth 100000 in
set_option maxHeartbeats 1600000 in
theorem rSame_all : ∀ (N : Nat) (v v' : JV) (cs cs' : List Value) (w : World), SizeOf.sizeOf v ≤ N → RV w v cs → RV w v' cs' →
    Calls Tryd.prog 17 #[.agg cs.toArray, .agg cs'.toArray] w fun e w' => e = .returned (.bool (sameF v v')) ∧ Below w.heap.size w w' := by
  intro N
  induction N with
  | zero => intro v; intros; cases v; simp at *
  | succ N ih =>
    rintro ⟨k, s, n, l, ks⟩ ⟨k', s', n', l', ks'⟩ cs cs' w hN hv hv'
    unfold RV at hv hv'
    obtain ⟨a, c, b, d, rfl, ⟨hk0, hk1, hn⟩, hks, ⟨hlc, hcb⟩, hac, hl⟩ := hv
    obtain ⟨a', c', b', d', rfl, ⟨hk0', hk1', hn'⟩, hks', ⟨hlc', hcb'⟩, hac', hl'⟩ := hv'
    have hBB : ∀ A B : Array Value, Below w.heap.size w ((w.alloc (.cells A 26)).alloc (.cells B 26)) := fun A B => ((Below.refl _ w).alloc (Nat.le_refl _) _).alloc (by rw [World.size_alloc]; omega) _
    by_cases e1 : k = k'
    · subst e1
      by_cases e2 : s = s'
      · subst e2
        by_cases e3 : n = n'
        · subst e3
          by_cases e4 : l.length = l'.length
          · by_cases e5 : ks.length = ks'.length
            · have hsm : Hid (sameF (.mk k s n l ks) (.mk k s n l' ks') = (decide (ks = ks') && sameL l l')) := by show _ = _; unfold sameF; simp
              rw [hsm.out]
              obtain ⟨R, hR⟩ : ∃ R, R = (decide (ks = ks') && sameL l l') := ⟨_, rfl⟩
              rw [← hR]
              have HR := Lib.hid hR
              have hLb : l'.length ≤ 9223372036854775807 := by omega
              have hMb : ks'.length ≤ 9223372036854775807 := by have h1 := hks'.le; have h2 := hks'.big; omega
              have HLC := Lib.hid hlc
              have HLC' := Lib.hid hlc'
              clear hR hcb hcb'
              have e4i : (l.length : Int) = (l'.length : Int) := by omega
              have e5i : (ks.length : Int) = (ks'.length : Int) := by omega
              go_enter Tryd.func17, Tryd.ntmps17
              go_wp2_with fail
              obtain ⟨W0, hW0⟩ : ∃ W0, W0 = (w.alloc (.cells #[.int .i64 k, .string (bstr s), .int .u64 (n : Int), .slice a l'.length c, .slice b ks'.length d] 26)).alloc (.cells #[.int .i64 k, .string (bstr s), .int .u64 (n : Int), .slice a' l'.length c', .slice b' ks'.length d'] 26) := ⟨_, rfl⟩
              rw [← hW0]
              have hA0 : Arr W0 w.heap.size 26 [.int .i64 k, .string (bstr s), .int .u64 (n : Int), .slice a l'.length c, .slice b ks'.length d] := by
                rw [hW0]
                exact (Arr.new w _ _).kept ((Below.refl _ _).alloc (Nat.le_refl _) _)
              have hA1 : Arr W0 (w.heap.size + 1) 26 [.int .i64 k, .string (bstr s), .int .u64 (n : Int), .slice a' l'.length c', .slice b' ks'.length d'] := by
                have := Arr.new (w.alloc (.cells #[.int .i64 k, .string (bstr s), .int .u64 (n : Int), .slice a l'.length c, .slice b ks'.length d] 26)) 26 [.int .i64 k, .string (bstr s), .int .u64 (n : Int), .slice a' l'.length c', .slice b' ks'.length d']
                rw [World.size_alloc] at this
                rw [hW0]
                exact this
              have hB0 : Below w.heap.size w W0 := by rw [hW0]; exact hBB _ _
              have HKS : Hid (∀ W, Below w.heap.size w W → RStr W ks b d) := fun W h => hks.to h
              have HKS' : Hid (∀ W, Below w.heap.size w W → RStr W ks' b' d') := fun W h => hks'.to h
              have HL : Hid (0 < l.length → ∃ b off, a = some ⟨b, off, none⟩ ∧ b < w.heap.size ∧ RL w l b off) := hl
              have HL' : Hid (0 < l'.length → ∃ b off, a' = some ⟨b, off, none⟩ ∧ b < w.heap.size ∧ RL w l' b off) := hl'
              obtain ⟨g, hg⟩ : ∃ g, g = w.heap.size := ⟨_, rfl⟩
              rw [← hg] at hA0 hA1 hB0 HKS HKS' ⊢
              have HG := Lib.hid hg
              have IH := Lib.hid ih
              have HBE := Lib.hid e5i
              have HLE := Lib.hid e4i
              have HN := Lib.hid hN
              clear hg hW0 hks hks' hl hl' hBB ih hlc hlc' hac hac' e4 e4i e5i hsm hN
              have e5' : Hid (ks.length = ks'.length) := e5
              clear e5
              go_loopw [5] (fun i wr => ∃ m : Nat, m ≤ ks'.length ∧ i = .int .i64 m ∧ Arr wr g 26 [.int .i64 k, .string (bstr s), .int .u64 (n : Int), .slice a l'.length c, .slice b ks'.length d] ∧ Arr wr (g + 1) 26 [.int .i64 k, .string (bstr s), .int .u64 (n : Int), .slice a' l'.length c', .slice b' ks'.length d'] ∧ Below g w wr ∧ Hid (∀ j, j < m → ks.getD j [] = ks'.getD j [])) (fun i _ => ks'.length - (intOf i).toNat)
              case atStart => exact ⟨0, by omega, rfl, hA0, hA1, hB0, fun j hj => by omega⟩
              case round =>
                clear hA0 hA1 hB0
                obtain ⟨m, hm, rfl, hA0, hA1, hB, HE⟩ := hrel
                have c4 := (hA0.cell 4).trans (show _ = some (Value.slice b ks'.length d) from rfl)
                have c4' := (hA1.cell 4).trans (show _ = some (Value.slice b' ks'.length d') from rfl)
                by_cases hlt : m < ks'.length
                · have hc : (m : Int) < (ks'.length : Int) := by omega
                  obtain ⟨bb, off, rfl, hbb, hcb⟩ := (HKS.out wr hB).mem (by rw [e5'.out]; omega)
                  obtain ⟨bb', off', rfl, hbb', hcb'⟩ := (HKS'.out wr hB).mem (by omega)
                  have cx := hcb m (by rw [e5'.out]; exact hlt)
                  have cy := hcb' m hlt
                  have hmd : m < d := by have := (HKS.out wr hB).le; rw [e5'.out] at this; omega
                  have hmd' : m < d' := by have := (HKS'.out wr hB).le; omega
                  clear hcb hcb'
                  by_cases hxy : ks.getD m [] = ks'.getD m []
                  · have HXY := Lib.hid hxy
                    rw [hxy] at cx
                    clear hxy
                    generalize ks'.getD m [] = y at cx cy
                    go_upto_region 6 with fail
                    go_region
                    all_goals
                      go_wp2_with fail
                      go_roundw
                      case rel => exact ⟨m + 1, by omega, by go_num, hA0.drew, hA1.drew, hB.drew, fun j hj => by
                        by_cases hjm : j = m
                        · subst hjm; exact HXY.out
                        · exact HE.out j (by omega)⟩
                      case measure => simp [intOf] <;> omega
                  · have hf : Hid ((decide (ks = ks') && sameL l l') = false) := by show _ = _; rw [decide_eq_false (fun h => hxy (by rw [h])), Bool.false_and]
                    have hxl : ((bstr (ks.getD m [])).toList == (bstr (ks'.getD m [])).toList) = false := by rw [bstr_toList, bstr_toList]; exact beq_eq_false_iff_ne.2 hxy
                    clear hxy
                    generalize ks.getD m [] = x at cx hxl
                    generalize ks'.getD m [] = y at cy hxl
                    go_upto_region 6 with fail
                    go_region
                    all_goals
                      go_wp2_with fail
                      go_ret
                      exact ⟨by rw [show R = false from HR.out.trans hf.out]; rfl, HG.out ▸ hB.drew⟩
                · have hc : ¬ (m : Int) < (ks'.length : Int) := by omega
                  have hkk : ks = ks' := by
                    apply List.ext_getElem e5'.out
                    intro i h1 h2
                    have := HE.out i (by omega)
                    rw [List.getD_eq_getElem?_getD, List.getD_eq_getElem?_getD, List.getElem?_eq_getElem h1, List.getElem?_eq_getElem h2] at this
                    simpa using this
                  have HR2 : Hid (R = sameL l l') := by show _ = _; rw [HR.out, decide_eq_true hkk, Bool.true_and]
                  clear hkk HE hlt hm
                  go_wp2_with fail
                  clear c4 c4'
                  go_loopw [6] (fun i wr => ∃ m : Nat, m ≤ l'.length ∧ i = .int .i64 m ∧ Arr wr g 26 [.int .i64 k, .string (bstr s), .int .u64 (n : Int), .slice a l'.length c, .slice b ks'.length d] ∧ Arr wr (g + 1) 26 [.int .i64 k, .string (bstr s), .int .u64 (n : Int), .slice a' l'.length c', .slice b' ks'.length d'] ∧ Below g w wr ∧ Hid (∀ j x y, j < m → l[j]? = some x → l'[j]? = some y → x = y)) (fun i _ => l'.length - (intOf i).toNat)
                  case atStart => exact ⟨0, by omega, rfl, hA0, hA1, hB, fun j x y hj => by omega⟩
                  case round =>
                    clear hA0 hA1 hB
                    obtain ⟨m, hm, rfl, hA0, hA1, hB, HE⟩ := hrel
                    have c3 := (hA0.cell 3).trans (show _ = some (Value.slice a l'.length c) from rfl)
                    have c3' := (hA1.cell 3).trans (show _ = some (Value.slice a' l'.length c') from rfl)
                    by_cases hlt : m < l'.length
                    · have hc : (m : Int) < (l'.length : Int) := by omega
                      have hll : l.length = l'.length := by have := HLE.out; omega
                      have hwr : Below w.heap.size w wr := HG.out ▸ hB
                      obtain ⟨ab, ao, rfl, hab, hrl⟩ := HL.out (by omega)
                      obtain ⟨ab', ao', rfl, hab', hrl'⟩ := HL'.out (by omega)
                      obtain ⟨x, hx⟩ : ∃ x, l[m]? = some x := ⟨_, List.getElem?_eq_getElem (by omega)⟩
                      obtain ⟨y, hy⟩ : ∃ y, l'[m]? = some y := ⟨_, List.getElem?_eq_getElem hlt⟩
                      obtain ⟨cx, hcx, hcx2, hrx⟩ := rl_at l ab ao m x hrl hx
                      obtain ⟨cy, hcy, hcy2, hry⟩ := rl_at l' ab' ao' m y hrl' hy
                      obtain ⟨q0, q1, q2, q3, q4, rfl⟩ := five cx hcx
                      obtain ⟨r0, r1, r2, r3, r4, rfl⟩ := five cy hcy
                      have hIH : Hid (∀ W, Below g w W → Calls Tryd.prog 17 #[.agg #[q0, q1, q2, q3, q4], .agg #[r0, r1, r2, r3, r4]] W fun e w' => e = .returned (.bool (sameF x y)) ∧ Below W.heap.size W w') := fun W hW => IH.out x y [q0, q1, q2, q3, q4] [r0, r1, r2, r3, r4] W (by have := jv_mem (k := k) (s := s) (n := n) (ks := ks) (List.mem_of_getElem? hx); have := HN.out; omega) (rv_to (HG.out ▸ hW) _ _ hrx) (rv_to (HG.out ▸ hW) _ _ hry)
                      have hmc : m < c := by have := HLC.out; omega
                      have hmc' : m < c' := by have := HLC'.out; omega
                      have z := fun (j : Nat) (v : Value) (h : [q0, q1, q2, q3, q4][j]? = some v) (hj : j < 5) => (hwr.cell (p := ⟨ab, ao + (5 * m + j), none⟩) hab).trans ((hcx2 j hj).trans h)
                      have z' := fun (j : Nat) (v : Value) (h : [r0, r1, r2, r3, r4][j]? = some v) (hj : j < 5) => (hwr.cell (p := ⟨ab', ao' + (5 * m + j), none⟩) hab').trans ((hcy2 j hj).trans h)
                      have Z := Lib.hid z
                      have Z' := Lib.hid z'
                      have HXL := Lib.hid hx
                      have HYL := Lib.hid hy
                      clear z z' hcx hcx2 hcy hcy2 hrx hry hrl hrl' hll hx hy
                      have qc0 : wr.cell? ⟨ab, ao + m * 5, none⟩ = some q0 := by rw [show ao + m * 5 = ao + (5 * m + 0) by omega]; exact Z.out 0 _ rfl (by omega)
                      have qc1 : wr.cell? ⟨ab, ao + m * 5 + 1, none⟩ = some q1 := by rw [show ao + m * 5 + 1 = ao + (5 * m + 1) by omega]; exact Z.out 1 _ rfl (by omega)
                      have qc2 : wr.cell? ⟨ab, ao + m * 5 + 2, none⟩ = some q2 := by rw [show ao + m * 5 + 2 = ao + (5 * m + 2) by omega]; exact Z.out 2 _ rfl (by omega)
                      have qc3 : wr.cell? ⟨ab, ao + m * 5 + 3, none⟩ = some q3 := by rw [show ao + m * 5 + 3 = ao + (5 * m + 3) by omega]; exact Z.out 3 _ rfl (by omega)
                      have qc4 : wr.cell? ⟨ab, ao + m * 5 + 4, none⟩ = some q4 := by rw [show ao + m * 5 + 4 = ao + (5 * m + 4) by omega]; exact Z.out 4 _ rfl (by omega)
                      have rc0 : wr.cell? ⟨ab', ao' + m * 5, none⟩ = some r0 := by rw [show ao' + m * 5 = ao' + (5 * m + 0) by omega]; exact Z'.out 0 _ rfl (by omega)
                      have rc1 : wr.cell? ⟨ab', ao' + m * 5 + 1, none⟩ = some r1 := by rw [show ao' + m * 5 + 1 = ao' + (5 * m + 1) by omega]; exact Z'.out 1 _ rfl (by omega)
                      have rc2 : wr.cell? ⟨ab', ao' + m * 5 + 2, none⟩ = some r2 := by rw [show ao' + m * 5 + 2 = ao' + (5 * m + 2) by omega]; exact Z'.out 2 _ rfl (by omega)
                      have rc3 : wr.cell? ⟨ab', ao' + m * 5 + 3, none⟩ = some r3 := by rw [show ao' + m * 5 + 3 = ao' + (5 * m + 3) by omega]; exact Z'.out 3 _ rfl (by omega)
                      have rc4 : wr.cell? ⟨ab', ao' + m * 5 + 4, none⟩ = some r4 := by rw [show ao' + m * 5 + 4 = ao' + (5 * m + 4) by omega]; exact Z'.out 4 _ rfl (by omega)
                      have HLT0 : Hid (g < wr.heap.size) := hA0.lt
                      have HLT1 : Hid (g + 1 < wr.heap.size) := hA1.lt
                      have HLTA : Hid (ab < wr.heap.size) := Nat.lt_of_lt_of_le hab hwr.size
                      have HLTB : Hid (ab' < wr.heap.size) := Nat.lt_of_lt_of_le hab' hwr.size
                      go_upto_region 11 with fail
                      go_region_held3 (fun w' => w'.cell? ⟨g, 3, none⟩ = some (.slice (some ⟨ab, ao, none⟩) l'.length c) ∧ w'.cell? ⟨g + 1, 3, none⟩ = some (.slice (some ⟨ab', ao', none⟩) l'.length c') ∧ w'.cell? ⟨ab, ao + m * 5, none⟩ = some q0 ∧ w'.cell? ⟨ab, ao + m * 5 + 1, none⟩ = some q1 ∧ w'.cell? ⟨ab, ao + m * 5 + 2, none⟩ = some q2 ∧ w'.cell? ⟨ab, ao + m * 5 + 3, none⟩ = some q3 ∧ w'.cell? ⟨ab, ao + m * 5 + 4, none⟩ = some q4 ∧ w'.cell? ⟨ab', ao' + m * 5, none⟩ = some r0 ∧ w'.cell? ⟨ab', ao' + m * 5 + 1, none⟩ = some r1 ∧ w'.cell? ⟨ab', ao' + m * 5 + 2, none⟩ = some r2 ∧ w'.cell? ⟨ab', ao' + m * 5 + 3, none⟩ = some r3 ∧ w'.cell? ⟨ab', ao' + m * 5 + 4, none⟩ = some r4) (first | exact ⟨(hb3.cell (p := ⟨g, 3, none⟩) HLT0.out).trans c3, (hb3.cell (p := ⟨g + 1, 3, none⟩) HLT1.out).trans c3', (hb3.cell (p := ⟨ab, ao + m * 5, none⟩) HLTA.out).trans qc0, (hb3.cell (p := ⟨ab, ao + m * 5 + 1, none⟩) HLTA.out).trans qc1, (hb3.cell (p := ⟨ab, ao + m * 5 + 2, none⟩) HLTA.out).trans qc2, (hb3.cell (p := ⟨ab, ao + m * 5 + 3, none⟩) HLTA.out).trans qc3, (hb3.cell (p := ⟨ab, ao + m * 5 + 4, none⟩) HLTA.out).trans qc4, (hb3.cell (p := ⟨ab', ao' + m * 5, none⟩) HLTB.out).trans rc0, (hb3.cell (p := ⟨ab', ao' + m * 5 + 1, none⟩) HLTB.out).trans rc1, (hb3.cell (p := ⟨ab', ao' + m * 5 + 2, none⟩) HLTB.out).trans rc2, (hb3.cell (p := ⟨ab', ao' + m * 5 + 3, none⟩) HLTB.out).trans rc3, (hb3.cell (p := ⟨ab', ao' + m * 5 + 4, none⟩) HLTB.out).trans rc4⟩ | go_keep) (first | (go_at_call 17; refine (hIH.out _ ?_).mono ?_; (exact hB.drew); rintro e w3 ⟨rfl, hb3⟩))
                      have hA3 : Arr w3 g 26 [.int .i64 k, .string (bstr s), .int .u64 (n : Int), .slice (some ⟨ab, ao, none⟩) l'.length c, .slice b ks'.length d] := hA0.drew.kept hb3
                      have hA3' : Arr w3 (g + 1) 26 [.int .i64 k, .string (bstr s), .int .u64 (n : Int), .slice (some ⟨ab', ao', none⟩) l'.length c', .slice b' ks'.length d'] := hA1.drew.kept hb3
                      have hB3 : Below g w w3 := hB.drew.trans (hb3.mono (Nat.le_of_lt HLT0.out))
                      clear hb3 c3 c3' hA0 hA1 hB Z Z' qc0 qc1 qc2 qc3 qc4 rc0 rc1 rc2 rc3 rc4
                      cases hxy : sameF x y with
                      | true =>
                        have HXY : Hid (x = y) := (same_eq x y).1 hxy
                        clear hxy
                        go_wp2_with fail
                        go_roundw
                        case rel => exact ⟨m + 1, by omega, by go_num, hA3, hA3', hB3, fun j x' y' hj hx' hy' => by
                          by_cases hjm : j = m
                          · subst hjm
                            rw [HXL.out] at hx'
                            rw [HYL.out] at hy'
                            cases hx'
                            cases hy'
                            exact HXY.out
                          · exact HE.out j x' y' (by omega) hx' hy'⟩
                        case measure => simp [intOf] <;> omega
                      | false =>
                        have HF : Hid (R = false) := by
                          show _ = _
                          rw [HR2.out]
                          cases hsl : sameL l l' with
                          | false => rfl
                          | true =>
                            have e := (sameL_eq l l').1 hsl
                            have h1 := HXL.out
                            have h2 := HYL.out
                            rw [e] at h1
                            rw [h1] at h2
                            cases h2
                            rw [(same_eq x x).2 rfl] at hxy
                            cases hxy
                        clear hxy
                        go_wp2_with fail
                        go_ret
                        exact ⟨by rw [HF.out]; rfl, HG.out ▸ hB3⟩
                    · have hc : ¬ (m : Int) < (l'.length : Int) := by omega
                      have HT : Hid (R = true) := by
                        show _ = _
                        rw [HR2.out, sameL_eq]
                        have hll : l.length = l'.length := by have := HLE.out; omega
                        apply List.ext_getElem hll
                        intro i h1 h2
                        exact HE.out i _ _ (by omega) (List.getElem?_eq_getElem h1) (List.getElem?_eq_getElem h2)
                      clear hlt hm
                      go_wp2_with fail
                      go_ret
                      exact ⟨by rw [HT.out]; rfl, HG.out ▸ hB⟩
            · have hs : Hid (sameF (.mk k s n l ks) (.mk k s n l' ks') = false) := by show _ = _; unfold sameF; rw [decide_eq_false (fun h : ks = ks' => e5 (by rw [h]))]; simp
              have e4i : (l.length : Int) = (l'.length : Int) := by omega
              have e5i : ¬ (ks.length : Int) = (ks'.length : Int) := by omega
              rw [hs.out]
              clear ih hl hl' hks hks'
              go_enter Tryd.func17, Tryd.ntmps17
              go_wp2_with fail
              go_ret
              exact ⟨rfl, hBB _ _⟩
          · have hs : Hid (sameF (.mk k s n l ks) (.mk k s n l' ks') = false) := by
              show _ = _
              cases h : sameF (.mk k s n l ks) (.mk k s n l' ks') with
              | false => rfl
              | true =>
                have := (same_eq _ _).1 h
                cases this
                exact absurd rfl e4
            have e4i : ¬ (l.length : Int) = (l'.length : Int) := by omega
            rw [hs.out]
            clear ih hl hl' hks hks'
            go_enter Tryd.func17, Tryd.ntmps17
            go_wp2_with fail
            go_ret
            exact ⟨rfl, hBB _ _⟩
        · have hs : Hid (sameF (.mk k s n l ks) (.mk k s n' l' ks') = false) := by show _ = _; unfold sameF; rw [decide_eq_false e3]; simp
          have e3i : ¬ (n : Int) = (n' : Int) := by omega
          rw [hs.out]
          clear ih hl hl' hks hks'
          go_enter Tryd.func17, Tryd.ntmps17
          go_wp2_with fail
          go_ret
          exact ⟨rfl, hBB _ _⟩
      · have hs : Hid (sameF (.mk k s n l ks) (.mk k s' n' l' ks') = false) := by show _ = _; unfold sameF; rw [decide_eq_false e2]; simp
        have e2b : ¬ (bstr s).toList = (bstr s').toList := by rw [bstr_toList, bstr_toList]; exact e2
        rw [hs.out]
        clear ih hl hl' hks hks'
        go_enter Tryd.func17, Tryd.ntmps17
        go_wp2_with fail
        go_ret
        exact ⟨rfl, hBB _ _⟩
    · have hs : Hid (sameF (.mk k s n l ks) (.mk k' s' n' l' ks') = false) := by show _ = _; unfold sameF; rw [decide_eq_false e1]; rfl
      rw [hs.out]
      clear ih hl hl' hks hks'
      go_enter Tryd.func17, Tryd.ntmps17
      go_wp2_with fail
      go_ret
      exact ⟨rfl, hBB _ _⟩

theorem rSame_any (v v' : JV) (cs cs' : List Value) (w : World) (h : RV w v cs) (h' : RV w v' cs') :
    Calls Tryd.prog 17 #[.agg cs.toArray, .agg cs'.toArray] w fun e w' => e = .returned (.bool (sameF v v')) ∧ Below w.heap.size w w' :=
  rSame_all (SizeOf.sizeOf v) v v' cs cs' w (Nat.le_refl _) h h'
end Go.Proofs.YtiadfijeglbdlaaDoor

namespace Go.Proofs.YtiadfijeglbdlaaDoor
open Go.RowKit

theorem digits_max : ∀ (k n : Nat), n < 10 ^ (k + 1) → (digitsF n).length ≤ k + 1 := by
  intro k
  induction k with
  | zero => intro n h; unfold digitsF; rw [if_pos (by omega)]; simp
  | succ k ih =>
    intro n h
    unfold digitsF
    split
    · simp
    · have : n / 10 < 10 ^ (k + 1) := by rw [Nat.pow_succ] at h; omega
      have := ih _ this
      rw [List.length_append, List.length_singleton]
      omega
theorem digits_twenty (n : Nat) (h : n < 18446744073709551616) : (digitsF n).length ≤ 20 := digits_max 19 n (by omega)

theorem bt : BT Tryd.prog 32 5 := ⟨Tryd.underlying32, Tryd.underlying5, by kernel_rfl⟩

theorem own_one (w : World) (x : UInt8) (E : TypeId) : Own (w.alloc (.cells #[.int .u8 (x.toNat : Int)] E)) w.heap.size E (.slice (some ⟨w.heap.size, 0, none⟩) 1 1) [x] :=
  World.ownsRow_lit (base := w.heap.size) (e := E) (size := 1) w #[.int .u8 (x.toNat : Int)] 1 (Nat.le_refl _) (by simp [maxLen]) (by simp)

theorem digit_byte (m : Nat) : ((UInt8.ofNat (48 + m % 10)).toNat : Int) = 48 + (m : Int) % 10 := by
  simp only [UInt8.toNat_ofNat']
  omega

set_option maxHeartbeats 800000 in
theorem rDigits_any (n : Nat) (w : World) (hn : n < 18446744073709551616) :
    Calls Tryd.prog 38 #[.int .u64 (n : Int)] w fun e w' => ∃ v, e = .returned v ∧ Own w' w.heap.size 5 v (digitsF n) ∧ Below w.heap.size w w' := by
  have h20 := digits_twenty n hn
  go_enter Tryd.func38, Tryd.ntmps38
  go_wp2_with fail
  generalize hg : w.heap.size = g at *
  have HG := Lib.hid hg
  clear hg
  go_loopw [0, 3] (fun i v wr => ∃ (m : Nat) (ds : List UInt8), m < 18446744073709551616 ∧ i = .int .u64 m ∧ Hid (digitsF n = digitsF m ++ ds) ∧ Own wr g 5 v ds ∧ Below g w wr) (fun i _ _ => (intOf i).toNat)
  case atStart => exact ⟨n, [], hn, rfl, (List.append_nil _).symm, Own.nil _ _ _, HG.out ▸ Below.refl _ _⟩
  case round =>
    obtain ⟨m, ds, hm, rfl, hd, ho, hb⟩ := hrel
    obtain ⟨a, l, cap, rfl, hr⟩ := ho.reads
    have hdl : ds.length ≤ 20 := by have := hd.out; rw [this, List.length_append] at h20; omega
    have HR := Lib.hid hr
    have HM := Lib.hid hm
    have hby := Lib.hid (digit_byte m)
    clear hr
    have hlit : Hid (Own (wr.alloc (.cells #[.int .u8 (48 + (m : Int) % 10)] 5)) wr.heap.size 5 (.slice (some ⟨wr.heap.size, 0, none⟩) 1 1) [UInt8.ofNat (48 + m % 10)]) := by
      show Own _ _ _ _ _
      rw [← hby.out]
      exact own_one wr _ _
    have hg : g ≤ wr.heap.size := by rw [← HG.out]; exact hb.size
    have HGW := Lib.hid hg
    have hbW : Hid (∀ w1, Below wr.heap.size (wr.alloc (.cells #[.int .u8 (48 + (m : Int) % 10)] 5)) w1 → Below g w w1) := fun w1 h => hb.trans ((((Below.refl _ wr).alloc (Nat.le_refl _) _).trans h).mono HGW.out)
    clear hg hb ho
    by_cases hten : m < 10
    · have hq : Hid ((m : Int) / 10 = 0) := by show _ = _; omega
      have hF : Hid (digitsF n = [UInt8.ofNat (48 + m % 10)] ++ ds) := by
        show _ = _
        rw [hd.out]
        unfold digitsF
        rw [if_pos hten, Nat.mod_eq_of_lt hten]
      have hq2 := hq.out
      go_wp2_with (at_builtin; go_loud (refine wl_append bt rfl (.tmp 8) (.tmp 9) rfl wr.heap.size _ _ hlit.out rfl a l cap ds rfl (HR.out.toRd.to ((Below.refl _ _).alloc (Nat.le_refl _) _)) (by have := HR.out.len; simp only [List.length_singleton]; omega) (by simp) ?_); intro v' w1 ho1 hb1)
      go_ret
      exact ⟨_, rfl, by rw [hF.out, HG.out]; exact ho1.mono HGW.out, HG.out ▸ hbW.out _ hb1⟩
    · have hq : Hid ((m : Int) / 10 = ((m / 10 : Nat) : Int)) := by show _ = _; omega
      have hF : Hid (digitsF n = digitsF (m / 10) ++ ([UInt8.ofNat (48 + m % 10)] ++ ds)) := by
        show _ = _
        rw [hd.out]
        conv => lhs; unfold digitsF
        rw [if_neg hten, List.append_assoc]
      have hne : ¬ (m : Int) / 10 = 0 := by omega
      have HT := Lib.hid hten
      clear hten
      go_wp2_with (at_builtin; go_loud (refine wl_append bt rfl (.tmp 8) (.tmp 9) rfl wr.heap.size _ _ hlit.out rfl a l cap ds rfl (HR.out.toRd.to ((Below.refl _ _).alloc (Nat.le_refl _) _)) (by have := HR.out.len; simp only [List.length_singleton]; omega) (by simp) ?_); intro v' w1 ho1 hb1)
      go_roundw
      case rel => exact ⟨m / 10, _, by have := HM.out; omega, by rw [hq.out], hF, ho1.mono HGW.out, hbW.out _ hb1⟩
      case measure => have := HT.out; simp only [intOf]; omega
end Go.Proofs.YtiadfijeglbdlaaDoor

namespace Go.Proofs.YtiadfijeglbdlaaDoor
open Go.RowKit

section
variable {P : Program} {T E : TypeId} (bt : BT P T E)
include bt
/-- append(dst, src...) in a region that draws -/
theorem step_append_b {ops : Array Oper} {o : Oper} {a : Act} {w : World} {K : Act → World → Prop} {Q : Exit → Act → World → Prop} {X : Prop} (hgd : o.guard = none)
    (d s : Operand) (ho : o.op = .call { callee := .builtin .append, args := #[d, s], argTypes := #[T, T] })
    (B : Nat) (v : Value) (ys : List UInt8) (hown : Own w B E v ys) (hd : a.eval d = v) (ad : Addr) (sLen sCap : Nat) (xs : List UInt8)
    (hs : a.eval s = .slice (some ad) sLen sCap) (hrd : Rd w (some ad) sLen sCap xs) (hb : ys.length + sLen ≤ 140737488355328) (hB : B ≤ w.heap.size)
    (hK : ∀ v' w', Own w' B E v' (ys ++ xs) → Below B w w' → K (a.put o.dst v') w') :
    if Region.wanted o (yielded ops a.tmps) = true then Oper.wp P o a w K Q else X := by
  rw [if_pos (by simp [Region.wanted, hgd])]
  obtain ⟨i0, hi, hz0, hz1, hz2⟩ := info_parts bt.info
  refine wp_append_own w d s T ho B E i0 (.int .u8 0) 1 1 bt.sl hi hz0 hz1 hz2 rfl (by decide) v _ _ hd hown ad sLen sCap (xs.map bv) hs (by simp [hrd.len]) hrd.cells bv_oneCell (by unfold maxLen; omega) (by omega) hB ?_
  intro v' w' h1 h2 _
  refine hK v' w' ?_ ((Below.refl _ _).grown h2 hB fun k hk => (World.ownsRow.lt hown k hk).1)
  unfold Own
  rw [List.length_append, List.map_append, hrd.len]
  exact h1
end
theorem rd_lit (w : World) (cs : List UInt8) (E : TypeId) (fr : Nat × Nat := (0, 0)) : Rd (w.alloc (.cells (cs.map bv).toArray E fr)) (some ⟨w.heap.size, 0, none⟩) cs.length cs.length cs := by
  refine ⟨rfl, Nat.le_refl _, by (intro e; cases e), fun _ => ⟨w.heap.size, 0, rfl, by simp, fun j hj => ?_⟩⟩
  rw [cell_of_row _ w.heap.size _ _ E fr (heap_alloc_new w _)]
  simp [bv, List.getD, hj]

theorem rd_lit_at (w : World) (cs : List UInt8) (E : TypeId) (g : Nat) (hg : g = w.heap.size) : Rd (w.alloc (.cells (cs.map bv).toArray E (0, 0))) (some ⟨g, 0, none⟩) cs.length cs.length cs := by
  subst hg
  exact rd_lit w cs E

theorem str_index {P : Program} {t : TypeId} (ht : P.underlying t = some .string) (s : ByteArray) (i : Nat) (h : i < s.size) (w : World) :
    (Instr.index t (.string s) (.int .i64 (i : Int))).run P w = .ok (.int .u8 ((s.data.toList.getD i 0).toNat : Int)) w := by
  rw [run_index_string _ _ _ _ _ ht, dif_pos ⟨by omega, by omega⟩]
  have e : s.data.toList.getD i 0 = s[i] := by
    have hi : i < s.data.toList.length := by simpa using h
    rw [List.getD, List.getElem?_eq_getElem hi]
    rfl
  rw [e]
  rfl


theorem rd_drew {w : World} {a : Option Addr} {n cap : Nat} {xs : List UInt8} (h : Rd w a n cap xs) : Rd w.drew a n cap xs := h.to (Below.refl _ _).drew

theorem rd_one (w : World) (x : UInt8) (N : Int) (E : TypeId) (h : (x.toNat : Int) = N) : Rd (w.alloc (.cells #[.int .u8 N] E)) (some ⟨w.heap.size, 0, none⟩) 1 1 [x] := by
  rw [← h]
  exact rd_lit w [x] E

theorem bstr_index (s : List UInt8) (k : Nat) (h : k < s.length) (w : World) : (Instr.index 9 (.string (bstr s)) (.int .i64 (k : Int))).run Tryd.prog w = .ok (.int .u8 ((s.getD k 0).toNat : Int)) w :=
  str_index Tryd.underlying9 (bstr s) k (by show k < s.toArray.size; simpa using h) w

theorem hex_index (n : Nat) (h : n < 16) (w : World) : (Instr.index 9 (.string ⟨#[48, 49, 50, 51, 52, 53, 54, 55, 56, 57, 97, 98, 99, 100, 101, 102]⟩) (.int .u8 (n : Int))).run Tryd.prog w = .ok (.int .u8 ((hexD n).toNat : Int)) w := by
  have : n = 0 ∨ n = 1 ∨ n = 2 ∨ n = 3 ∨ n = 4 ∨ n = 5 ∨ n = 6 ∨ n = 7 ∨ n = 8 ∨ n = 9 ∨ n = 10 ∨ n = 11 ∨ n = 12 ∨ n = 13 ∨ n = 14 ∨ n = 15 := by omega
  rw [run_index_string _ _ _ _ _ Tryd.underlying9]
  rcases this with rfl | rfl | rfl | rfl | rfl | rfl | rfl | rfl | rfl | rfl | rfl | rfl | rfl | rfl | rfl | rfl <;> rfl

theorem esc_six (c : UInt8) : (escF c).length ≤ 6 := by
  unfold escF
  split
  · simp
  · split <;> simp
theorem escs_six (s : List UInt8) : (s.flatMap escF).length ≤ 6 * s.length := by
  induction s with
  | nil => simp
  | cons c r ih => have := esc_six c; simp only [List.flatMap_cons, List.length_append, List.length_cons]; omega
theorem escs_take (s : List UInt8) (k : Nat) (h : k < s.length) : (s.take (k + 1)).flatMap escF = (s.take k).flatMap escF ++ escF (s.getD k 0) := by
  rw [List.take_succ_eq_append_getElem h, List.flatMap_append]
  simp [List.getD, h]

set_option maxHeartbeats 1600000 in
theorem rWord_any (s : List UInt8) (w : World) (hs : s.length ≤ 23456248059000) :
    Calls Tryd.prog 39 #[.string (bstr s)] w fun e w' => ∃ v, e = .returned v ∧ Own w' w.heap.size 5 v (wordF s) ∧ Below w.heap.size w w' := by
  have hsz : (bstr s).size = s.length := by show s.toArray.size = _; simp
  have ho0 := Lib.hid (own_one w 34 5)
  go_enter Tryd.func39, Tryd.ntmps39
  go_wp2_with fail
  have ho1 : Own (w.alloc (.cells #[.int .u8 34] 5)) w.heap.size 5 (.slice (some ⟨w.heap.size, 0, none⟩) 1 1) [34] := ho0.out
  have hb1 : Below w.heap.size w (w.alloc (.cells #[.int .u8 34] 5)) := (Below.refl _ w).alloc (Nat.le_refl _) _
  generalize hg : w.heap.size = g at *
  have HG := Lib.hid hg
  clear hg ho0
  go_loopw [4, 5] (fun v i wr => ∃ (k : Nat), k ≤ s.length ∧ i = .int .i64 k ∧ Own wr g 5 v (34 :: (s.take k).flatMap escF) ∧ Below g w wr) (fun _ i _ => s.length - (intOf i).toNat)
  case atStart => exact ⟨0, by omega, rfl, ho1, hb1⟩
  case round =>
    obtain ⟨k, hk, rfl, ho, hb⟩ := hrel
    obtain ⟨a, c, rfl, -⟩ := ho.shape
    have hlen : Hid ((34 :: (s.take k).flatMap escF).length ≤ 6 * k + 1) := by
      show _ ≤ _
      have := escs_six (s.take k)
      rw [List.length_take] at this
      rw [List.length_cons]
      omega
    generalize hD : 34 :: (s.take k).flatMap escF = ds at ho hlen
    have HD := Lib.hid hD
    clear hD
    by_cases hlt : k < s.length
    · have hc : (k : Int) < (s.length : Int) := by omega
      have hix := bstr_index s k hlt
      have hsn := Lib.hid (escs_take s k hlt)
      have hgr : Hid (g ≤ wr.heap.size) := by show g ≤ _; rw [← HG.out]; exact hb.size
      generalize hx : s.getD k 0 = x at *
      have hxl := x.toNat_lt
      have hL := Lib.hid hlen.out
      have hwb : Hid (∀ {w1 w2 : World}, Below wr.heap.size wr w1 → Below g w1 w2 → Below g w w2) := fun h1 h2 => hb.trans ((h1.mono hgr.out).trans h2)
      by_cases h32 : x.toNat < 32
      · have hcx : (x.toNat : Int) < 32 := by omega
        have hE : Hid (34 :: (s.take (k + 1)).flatMap escF = ds ++ [92, 117, 48, 48, hexD (x.toNat / 16), hexD (x.toNat % 16)]) := by
          show _ = _
          rw [hsn.out, ← HD.out]
          unfold escF
          rw [if_pos h32]
          rfl
        have d1 := hex_index (x.toNat / 16) (by omega)
        have d2 := hex_index (x.toNat % 16) (by omega)
        push_cast at d1 d2
        clear hsn
        generalize hy : x.toNat = y at *
        have hw16 : IntKind.u8.wrap ((y : Int) / 16) = (y : Int) / 16 := IntWalk.u8_in _ (by omega)
        have hr16 : (y : Int).tmod 16 = (y : Int) % 16 := IntWalk.rem_in _ _ (by omega)
        clear hy h32
        go_upto_region 8 with fail
        clear hix
        have hw0 : ∀ o, Below wr.heap.size wr (wr.alloc o).drew := fun o => ((Below.refl _ _).alloc (Nat.le_refl _) _).drew
        go_region_law (go_loud (refine step_append_b bt rfl _ _ rfl g _ _ (ho.to (hw0 _)) rfl _ 6 6 [92, 117, 48, 48, hexD (y / 16), hexD (y % 16)] rfl (rd_drew (rd_lit _ [92, 117, 48, 48, hexD (y / 16), hexD (y % 16)] _)) (by have := hL.out; omega) (by have := hgr.out; simp; omega) ?_); intro v4 w4 ho4 hb4)
        all_goals
          rw [← hE.out] at ho4
          go_wp2
          go_roundw
          case rel => exact ⟨k + 1, by omega, by go_num, ho4, hwb.out (hw0 _) hb4⟩
          case measure => simp [intOf]; omega
      · have hcx : ¬ (x.toNat : Int) < 32 := by omega
        have hw0 : ∀ o, Below wr.heap.size wr (wr.alloc o) := fun o => (Below.refl _ _).alloc (Nat.le_refl _) _
        by_cases hq : x = 34 ∨ x = 92
        · have hE : Hid (34 :: (s.take (k + 1)).flatMap escF = (ds ++ [92]) ++ [x]) := by
            show _ = _
            rw [hsn.out, ← HD.out]
            unfold escF
            rw [if_neg h32, if_pos hq]
            simp
          have hL1 : Hid ((ds ++ [92]).length ≤ 6 * k + 2) := by show _ ≤ _; rw [List.length_append, List.length_singleton]; have := hL.out; omega
          clear hsn h32
          have hqn : x.toNat = 34 ∨ x.toNat = 92 := hq.imp (fun h => by rw [h]; rfl) (fun h => by rw [h]; rfl)
          clear hq
          rcases hqn with hqn | hqn
          · have hqi : (x.toNat : Int) = 34 := by omega
            have hQ := Lib.hid hqi
            clear hqn
            go_wp2_with (first
              | ((with_reducible show wpList _ _ _ (⟨some 38, _, _, _, _, _⟩ :: _) _ _); go_loud (refine wl_append bt rfl (.tmp 36) (.tmp 37) rfl g _ _ (ho.to (hw0 _)) rfl _ 1 1 [92] rfl (rd_lit _ [92] _) (by have := hL.out; omega) (by have := hgr.out; simp; omega) ?_); intro v4 w4 ho4 hb4; have hg4 : Hid (g ≤ w4.heap.size) := Nat.le_trans hgr.out (Nat.le_trans (hw0 _).size hb4.size))
              | ((with_reducible show wpList _ _ _ (⟨some 42, _, _, _, _, _⟩ :: _) _ _); go_loud (refine wl_append bt rfl (.tmp 39) (.tmp 41) rfl g _ _ (ho4.to ((Below.refl _ _).alloc (Nat.le_refl _) _)) rfl _ 1 1 [x] rfl (rd_one _ x _ _ hQ.out) (by have := hL1.out; omega) (by have := hg4.out; simp; omega) ?_); intro v5 w5 ho5 hb5))
            all_goals
              rw [← hE.out] at ho5
              go_roundw
              case rel => exact ⟨k + 1, by omega, by go_num, ho5, hwb.out (hw0 _) (hb4.trans ((((Below.refl _ _).alloc (Nat.le_refl _) _).mono hg4.out).trans hb5))⟩
              case measure => simp [intOf]; omega
          · have hqi : (x.toNat : Int) = 92 := by omega
            have hQ := Lib.hid hqi
            clear hqn
            go_wp2_with (first
              | ((with_reducible show wpList _ _ _ (⟨some 38, _, _, _, _, _⟩ :: _) _ _); go_loud (refine wl_append bt rfl (.tmp 36) (.tmp 37) rfl g _ _ (ho.to (hw0 _)) rfl _ 1 1 [92] rfl (rd_lit _ [92] _) (by have := hL.out; omega) (by have := hgr.out; simp; omega) ?_); intro v4 w4 ho4 hb4; have hg4 : Hid (g ≤ w4.heap.size) := Nat.le_trans hgr.out (Nat.le_trans (hw0 _).size hb4.size))
              | ((with_reducible show wpList _ _ _ (⟨some 42, _, _, _, _, _⟩ :: _) _ _); go_loud (refine wl_append bt rfl (.tmp 39) (.tmp 41) rfl g _ _ (ho4.to ((Below.refl _ _).alloc (Nat.le_refl _) _)) rfl _ 1 1 [x] rfl (rd_one _ x _ _ hQ.out) (by have := hL1.out; omega) (by have := hg4.out; simp; omega) ?_); intro v5 w5 ho5 hb5))
            all_goals
              rw [← hE.out] at ho5
              go_roundw
              case rel => exact ⟨k + 1, by omega, by go_num, ho5, hwb.out (hw0 _) (hb4.trans ((((Below.refl _ _).alloc (Nat.le_refl _) _).mono hg4.out).trans hb5))⟩
              case measure => simp [intOf]; omega
        · have hE : Hid (34 :: (s.take (k + 1)).flatMap escF = ds ++ [x]) := by
            show _ = _
            rw [hsn.out, ← HD.out]
            unfold escF
            rw [if_neg h32, if_neg hq]
            rfl
          have hn1 : ¬ (x.toNat : Int) = 34 := fun h => hq (.inl (UInt8.toNat_inj.1 (by have e : (34 : UInt8).toNat = 34 := rfl; omega)))
          have hn2 : ¬ (x.toNat : Int) = 92 := fun h => hq (.inr (UInt8.toNat_inj.1 (by have e : (92 : UInt8).toNat = 92 := rfl; omega)))
          have hb1 : ((x.toNat : Int) == 34) = false := beq_eq_false_iff_ne.2 hn1
          have hb2 : ((x.toNat : Int) == 92) = false := beq_eq_false_iff_ne.2 hn2
          clear hsn h32 hq hn1 hn2
          go_wp2_with ((with_reducible show wpList _ _ _ (⟨some 42, _, _, _, _, _⟩ :: _) _ _); go_loud (refine wl_append bt rfl (.tmp 39) (.tmp 41) rfl g _ _ (ho.to (hw0 _)) rfl _ 1 1 [x] rfl (rd_lit _ [x] _) (by have := hL.out; omega) (by have := hgr.out; simp; omega) ?_); intro v5 w5 ho5 hb5)
          rw [← hE.out] at ho5
          go_roundw
          case rel => exact ⟨k + 1, by omega, by go_num, ho5, hwb.out (hw0 _) hb5⟩
          case measure => simp [intOf]; omega
    · have hc : ¬ (k : Int) < (s.length : Int) := by omega
      have hF : Hid (wordF s = ds ++ [34]) := by
        show _ = _
        rw [← HD.out, List.take_of_length_le (by omega)]
        rfl
      have hgr : Hid (g ≤ wr.heap.size) := by show g ≤ _; rw [← HG.out]; exact hb.size
      have hw0 : ∀ o, Below wr.heap.size wr (wr.alloc o) := fun o => (Below.refl _ _).alloc (Nat.le_refl _) _
      go_wp2_with ((with_reducible show wpList _ _ _ (⟨some 45, _, _, _, _, _⟩ :: _) _ _); go_loud (refine wl_append bt rfl (.tmp 43) (.tmp 44) rfl g _ _ (ho.to (hw0 _)) rfl _ 1 1 [34] rfl (rd_lit _ [34] _) (by have := hlen.out; omega) (by have := hgr.out; simp; omega) ?_); intro v5 w5 ho5 hb5)
      go_ret
      exact ⟨_, rfl, by rw [hF.out, HG.out]; exact ho5, by rw [HG.out]; exact hb.trans (((hw0 _).mono hgr.out).trans hb5)⟩
end Go.Proofs.YtiadfijeglbdlaaDoor

namespace Go.Proofs.YtiadfijeglbdlaaDoor
open Go.RowKit

/-- what a first byte says: how many bytes, the least number, the number's first bits -/
def firstF (c : Nat) : Option (Nat × Nat × Nat) :=
  if c < 128 then some (0, 0, c) else if 194 ≤ c ∧ c < 224 then some (1, 128, c - 192) else if 224 ≤ c ∧ c < 240 then some (2, 2048, c - 224) else if 240 ≤ c ∧ c < 245 then some (3, 65536, c - 240) else none
/-- so many bytes that continue -/
def contsF : Nat → Nat → List UInt8 → Option (Nat × List UInt8)
  | 0, v, l => some (v, l)
  | _ + 1, _, [] => none
  | n + 1, v, d :: l => if cont d then contsF n (64 * v + (d.toNat - 128)) l else none
def mayRune (least v : Nat) : Bool := decide (least ≤ v) && decide (v ≤ 1114111) && !(decide (55296 ≤ v) && decide (v < 57344))

theorem utf8_step (c : UInt8) (l : List UInt8) : utf8F (c :: l) = match firstF c.toNat with
    | none => false
    | some (n, least, v) => match contsF n v l with
      | none => false
      | some (u, rest) => mayRune least u && utf8F rest := by
  have hc := c.toNat_lt
  conv => lhs; unfold utf8F
  unfold firstF
  by_cases h1 : c.toNat < 128
  · rw [if_pos h1, if_pos h1]
    simp only [contsF]
    have : mayRune 0 c.toNat = true := by unfold mayRune; simp; omega
    rw [this, Bool.true_and]
  · rw [if_neg h1, if_neg h1]
    by_cases h2 : 194 ≤ c.toNat ∧ c.toNat < 224
    · rw [if_pos h2, if_pos h2]
      cases l with
      | nil => simp [contsF]
      | cons d l =>
        simp only [contsF]
        cases hd : cont d with
        | false => simp
        | true =>
          have hd' := hd
          unfold cont at hd'
          simp at hd'
          have : mayRune 128 (64 * (c.toNat - 192) + (d.toNat - 128)) = true := by unfold mayRune; simp; omega
          simp [this]
    · rw [if_neg h2, if_neg h2]
      by_cases h3 : 224 ≤ c.toNat ∧ c.toNat < 240
      · rw [if_pos h3, if_pos h3]
        match l with
        | [] => simp [contsF]
        | [d] => simp only [contsF]; cases cont d <;> simp
        | d :: e :: l =>
          simp only [contsF]
          cases hd : cont d with
          | false => simp
          | true =>
            cases he : cont e with
            | false => simp
            | true =>
              unfold cont at hd he
              simp at hd he
              have e1 : 64 * (64 * (c.toNat - 224) + (d.toNat - 128)) + (e.toNat - 128) = 4096 * (c.toNat - 224) + 64 * (d.toNat - 128) + (e.toNat - 128) := by omega
              simp only [if_true, e1]
              generalize hv : 4096 * (c.toNat - 224) + 64 * (d.toNat - 128) + (e.toNat - 128) = v
              have : v ≤ 1114111 := by omega
              unfold mayRune
              simp [this]
      · rw [if_neg h3, if_neg h3]
        by_cases h4 : 240 ≤ c.toNat ∧ c.toNat < 245
        · rw [if_pos h4, if_pos h4]
          match l with
          | [] => simp [contsF]
          | [d] => simp only [contsF]; cases cont d <;> simp
          | [d, e] => simp only [contsF]; cases cont d <;> cases cont e <;> simp
          | d :: e :: f :: l =>
            simp only [contsF]
            cases hd : cont d with
            | false => simp
            | true =>
              cases he : cont e with
              | false => simp
              | true =>
                cases hf : cont f with
                | false => simp
                | true =>
                  have e1 : 64 * (64 * (64 * (c.toNat - 240) + (d.toNat - 128)) + (e.toNat - 128)) + (f.toNat - 128) = 262144 * (c.toNat - 240) + 4096 * (d.toNat - 128) + 64 * (e.toNat - 128) + (f.toNat - 128) := by omega
                  simp only [if_true, e1]
                  generalize hv : 262144 * (c.toNat - 240) + 4096 * (d.toNat - 128) + 64 * (e.toNat - 128) + (f.toNat - 128) = v
                  unfold mayRune
                  by_cases hl : 65536 ≤ v
                  · have : ¬ v < 57344 := by omega
                    simp [hl, this]
                  · simp [hl]
        · rw [if_neg h4, if_neg h4]
/-- a number of so many bytes is short -/
theorem first_le {c n least v : Nat} (hc : c < 256) (h : firstF c = some (n, least, v)) : n ≤ 3 ∧ v < 256 ∧ least ≤ 65536 := by
  unfold firstF at h
  split at h
  · cases h; omega
  · split at h
    · cases h; omega
    · split at h
      · cases h; omega
      · split at h
        · cases h; omega
        · cases h
theorem conts_none : ∀ (n v : Nat) (l : List UInt8), l.length < n → contsF n v l = none
  | 0, _, _, h => by omega
  | n + 1, v, [], _ => rfl
  | n + 1, v, d :: l, h => by
    unfold contsF
    split
    · exact conts_none n _ l (by simpa using h)
    · rfl
theorem conts_rest : ∀ (n v : Nat) (l : List UInt8) (u : Nat) (r : List UInt8), contsF n v l = some (u, r) → r = l.drop n
  | 0, v, l, u, r, h => by cases h; rfl
  | n + 1, v, [], u, r, h => by cases h
  | n + 1, v, d :: l, u, r, h => by
    unfold contsF at h
    split at h
    · exact conts_rest n _ l u r h
    · cases h

theorem conts_step (n v : Nat) (s : List UInt8) (i : Nat) (h : i < s.length) : contsF (n + 1) v (s.drop i) = if cont (s.getD i 0) then contsF n (64 * v + ((s.getD i 0).toNat - 128)) (s.drop (i + 1)) else none := by
  rw [List.drop_eq_getElem_cons h]
  have e : s.getD i 0 = s[i] := by simp [List.getD, h]
  rw [e]
  rfl

set_option maxRecDepth 100000 in
set_option maxHeartbeats 1600000 in
theorem rUtf8_any (s : List UInt8) (w : World) (hs : s.length ≤ 9223372036854775000) :
    Calls Tryd.prog 46 #[.string (bstr s)] w fun e w' => e = .returned (.bool (utf8F s)) ∧ w' = w := by
  have hsz : (bstr s).size = s.length := by show s.toArray.size = _; simp
  go_enter Tryd.func46, Tryd.ntmps46
  go_wp2_with fail
  go_loopw [3] (fun i wr => ∃ (k : Nat), k ≤ s.length ∧ i = .int .i64 k ∧ Hid (utf8F s = utf8F (s.drop k)) ∧ wr = w) (fun i _ => s.length - (intOf i).toNat)
  case atStart => exact ⟨0, by omega, rfl, rfl, rfl⟩
  case round =>
    obtain ⟨k, hk, rfl, HF, hw⟩ := hrel
    subst hw
    by_cases hlt : k < s.length
    · have hc : (k : Int) < (s.length : Int) := by omega
      have hix := bstr_index s k hlt
      have hst : Hid (utf8F s = match firstF (s.getD k 0).toNat with
        | none => false
        | some (n, least, v) => match contsF n v (s.drop (k + 1)) with
          | none => false
          | some (u, rest) => mayRune least u && utf8F rest) := by
        show _ = _
        rw [HF.out, List.drop_eq_getElem_cons hlt, utf8_step]
        have e : s.getD k 0 = s[k] := by simp [List.getD, hlt]
        rw [e]
      have hy := (s.getD k 0).toNat_lt
      generalize (s.getD k 0).toNat = y at *
      have HY := Lib.hid hy
      go_upto_block 2 with fail
      go_cut [5, 6, 7] from 19 to 48 (fun a b c wx => wx = wr ∧ ∃ N L V : Nat, Hid (firstF y = some (N, L, V)) ∧ a = .int .i64 ((N + 1 : Nat) : Int) ∧ b = .int .i64 (L : Int) ∧ c = .int .i64 (V : Int))
      case first =>
        clear hix
        by_cases h1 : y < 128
        · have i1 : (y : Int) < 128 := by omega
          have hf : Hid (firstF y = some (0, 0, y)) := by show _ = _; unfold firstF; rw [if_pos h1]
          clear h1 hy
          go_wp2_with fail
          go_meet
          exact ⟨rfl, 0, 0, y, hf, rfl, rfl, rfl⟩
        · have i1 : ¬ (y : Int) < 128 := by omega
          by_cases h2 : 194 ≤ y ∧ y < 224
          · have i2 : 194 ≤ (y : Int) := by omega
            have i3 : (y : Int) < 224 := by omega
            have hf : Hid (firstF y = some (1, 128, y - 192)) := by show _ = _; unfold firstF; rw [if_neg h1, if_pos h2]
            have hv : Hid ((y : Int) - 192 = ((y - 192 : Nat) : Int)) := by show _ = _; omega
            clear h1 h2 hy
            go_wp2_with fail
            go_meet
            exact ⟨rfl, 1, 128, _, hf, rfl, rfl, by rw [hv.out]⟩
          · by_cases h3 : 224 ≤ y ∧ y < 240
            · have i2 : 224 ≤ (y : Int) := by omega
              have i3 : (y : Int) < 240 := by omega
              have i4 : 194 ≤ (y : Int) := by omega
              have i5 : ¬ (y : Int) < 224 := by omega
              have hf : Hid (firstF y = some (2, 2048, y - 224)) := by show _ = _; unfold firstF; rw [if_neg h1, if_neg h2, if_pos h3]
              have hv : Hid ((y : Int) - 224 = ((y - 224 : Nat) : Int)) := by show _ = _; omega
              clear h1 h2 h3 hy
              go_wp2_with fail
              go_meet
              exact ⟨rfl, 2, 2048, _, hf, rfl, rfl, by rw [hv.out]⟩
            · by_cases h4 : 240 ≤ y ∧ y < 245
              · have i2 : 240 ≤ (y : Int) := by omega
                have i3 : (y : Int) < 245 := by omega
                have i4 : 194 ≤ (y : Int) := by omega
                have i5 : ¬ (y : Int) < 224 := by omega
                have i6 : 224 ≤ (y : Int) := by omega
                have i7 : ¬ (y : Int) < 240 := by omega
                have hf : Hid (firstF y = some (3, 65536, y - 240)) := by show _ = _; unfold firstF; rw [if_neg h1, if_neg h2, if_neg h3, if_pos h4]
                have hv : Hid ((y : Int) - 240 = ((y - 240 : Nat) : Int)) := by show _ = _; omega
                clear h1 h2 h3 h4 hy
                go_wp2_with fail
                go_meet
                exact ⟨rfl, 3, 65536, _, hf, rfl, rfl, by rw [hv.out]⟩
              · have hF : Hid (utf8F s = false) := by
                  show _ = _
                  rw [hst.out]
                  have : firstF y = none := by unfold firstF; rw [if_neg h1, if_neg h2, if_neg h3, if_neg h4]
                  rw [this]
                have i2 : ¬ (194 ≤ (y : Int) ∧ (y : Int) < 224) := by omega
                have hw : y < 194 ∨ 245 ≤ y := by omega
                clear h1 h2 h3 h4 hy i2
                rcases hw with hw | hw
                · have i3 : ¬ 194 ≤ (y : Int) := by omega
                  have i4 : ¬ 224 ≤ (y : Int) := by omega
                  have i5 : ¬ 240 ≤ (y : Int) := by omega
                  clear hw
                  go_wp2_with fail
                  go_ret
                  exact ⟨by rw [hF.out]; rfl, rfl⟩
                · have i2 : 240 ≤ (y : Int) := by omega
                  have i3 : ¬ (y : Int) < 245 := by omega
                  have i4 : 194 ≤ (y : Int) := by omega
                  have i5 : ¬ (y : Int) < 224 := by omega
                  have i6 : 224 ≤ (y : Int) := by omega
                  have i7 : ¬ (y : Int) < 240 := by omega
                  clear hw
                  go_wp2_with fail
                  go_ret
                  exact ⟨by rw [hF.out]; rfl, rfl⟩
      case rest =>
        obtain ⟨rfl, N, L, V, hf, rfl, rfl, rfl⟩ := hcut
        have hle := first_le HY.out hf.out
        obtain ⟨hN, hV, hL⟩ := hle
        have hst2 : Hid (utf8F s = match contsF N V (s.drop (k + 1)) with
          | none => false
          | some (u, rest) => mayRune L u && utf8F rest) := by
          show _ = _
          rw [hst.out, hf.out]
        clear hst hf hix
        obtain ⟨M, hM⟩ : ∃ M, M = N + 1 := ⟨_, rfl⟩
        rw [← hM]
        by_cases hsh : s.length - k < M
        · have hc2 : (s.length : Int) - (k : Int) < (M : Int) := by omega
          have hF : Hid (utf8F s = false) := by
            show _ = _
            rw [hst2.out, conts_none _ _ _ (by rw [List.length_drop]; omega)]
          clear hsh
          go_wp2_with fail
          go_ret
          exact ⟨by rw [hF.out]; rfl, rfl⟩
        · have hc2 : ¬ (s.length : Int) - (k : Int) < (M : Int) := by omega
          have HM := Lib.hid hM
          have HS := Lib.hid hsh
          have HL := Lib.hid hL
          have hM4 : M ≤ 4 := by omega
          clear hM hsh hL hy
          go_wp2_with fail
          clear hc2
          go_loopw [7, 8] (fun r j wx => ∃ (K U : Nat), 1 ≤ K ∧ K ≤ M ∧ j = .int .i64 K ∧ r = .int .i64 U ∧ Hid (contsF N V (s.drop (k + 1)) = contsF (M - K) U (s.drop (k + K))) ∧ Hid (U < 256 * 64 ^ (K - 1)) ∧ wx = wc) (fun _ j _ => M - (intOf j).toNat)
          case atStart => exact ⟨1, V, by omega, by have := HM.out; omega, rfl, rfl, by show _ = _; rw [HM.out]; rfl, by show _ < _; omega, rfl⟩
          case round =>
            obtain ⟨K, U, hK1, hK, rfl, rfl, HC, HU, hw⟩ := hrel
            subst hw
            by_cases hkm : K < M
            · have hc3 : (K : Int) < (M : Int) := by omega
              have hin : k + K < s.length := by have := HS.out; omega
              have hix := bstr_index s (k + K) hin
              push_cast at hix
              have hCS : Hid (contsF N V (s.drop (k + 1)) = if cont (s.getD (k + K) 0) then contsF (M - (K + 1)) (64 * U + ((s.getD (k + K) 0).toNat - 128)) (s.drop (k + (K + 1))) else none) := by
                show _ = _
                rw [HC.out, show M - K = (M - (K + 1)) + 1 by omega, conts_step _ _ _ _ hin]
                rfl
              have hUb : U < 1048576 := by
                have h := HU.out
                have : K = 1 ∨ K = 2 ∨ K = 3 := by omega
                rcases this with rfl | rfl | rfl <;> simp at h <;> omega
              have hd := (s.getD (k + K) 0).toNat_lt
              have hcd : Hid (cont (s.getD (k + K) 0) = (decide (128 ≤ (s.getD (k + K) 0).toNat) && decide ((s.getD (k + K) 0).toNat ≤ 191))) := rfl
              generalize hcn : cont (s.getD (k + K) 0) = cn at *
              generalize (s.getD (k + K) 0).toNat = d at *
              clear hcn
              by_cases hd1 : d < 128
              · have i1 : (d : Int) < 128 := by omega
                have hF : Hid (utf8F s = false) := by
                  show _ = _
                  rw [hst2.out, hCS.out, hcd.out, decide_eq_false (by omega)]
                  rfl
                clear hd1
                go_wp2_with fail
                go_ret
                exact ⟨by rw [hF.out]; rfl, rfl⟩
              · have i1 : ¬ (d : Int) < 128 := by omega
                by_cases hd2 : 191 < d
                · have i2 : (d : Int) > 191 := by omega
                  have hF : Hid (utf8F s = false) := by
                    show _ = _
                    rw [hst2.out, hCS.out, hcd.out, decide_eq_false (p := d ≤ 191) (by omega), Bool.and_false]
                    rfl
                  clear hd1 hd2
                  go_wp2_with fail
                  go_ret
                  exact ⟨by rw [hF.out]; rfl, rfl⟩
                · have i2 : ¬ (d : Int) > 191 := by omega
                  have hct : Hid (contsF N V (s.drop (k + 1)) = contsF (M - (K + 1)) (64 * U + (d - 128)) (s.drop (k + (K + 1)))) := by
                    show _ = _
                    rw [hCS.out, hcd.out, decide_eq_true (by omega), decide_eq_true (by omega)]
                    rfl
                  have hnew : Hid (64 * (U : Int) + (d : Int) - 128 = ((64 * U + (d - 128) : Nat) : Int)) := by show _ = _; omega
                  have hub : Hid (64 * U + (d - 128) < 256 * 64 ^ (K + 1 - 1)) := by
                    show _ < _
                    have h := HU.out
                    obtain ⟨K', rfl⟩ : ∃ K', K = K' + 1 := ⟨K - 1, by omega⟩
                    rw [Nat.add_sub_cancel] at h ⊢
                    rw [Nat.pow_succ]
                    omega
                  have HK := Lib.hid hkm
                  clear hd1 hd2 hkm
                  go_wp2_with fail
                  go_roundw
                  case rel => exact ⟨K + 1, _, by omega, by have := HK.out; omega, by go_num, by rw [hnew.out], hct, hub, trivial⟩
                  case measure => have := HK.out; simp [intOf]; omega
            · have hc3 : ¬ (K : Int) < (M : Int) := by omega
              have hst3 : Hid (utf8F s = (mayRune L U && utf8F (s.drop (k + M)))) := by
                show _ = _
                rw [hst2.out, HC.out, show K = M by omega, Nat.sub_self]
                rfl
              have hUb : U < 4294967296 := by
                have h := HU.out
                have : K = 1 ∨ K = 2 ∨ K = 3 ∨ K = 4 := by omega
                rcases this with rfl | rfl | rfl | rfl <;> simp at h <;> omega
              have HUB := Lib.hid hUb
              by_cases a1 : U < L
              · have i1 : (U : Int) < (L : Int) := by omega
                have hF : Hid (utf8F s = false) := by show _ = _; rw [hst3.out]; unfold mayRune; simp; omega
                clear hUb
                clear a1
                go_wp2_with fail
                go_ret
                exact ⟨by rw [hF.out]; rfl, rfl⟩
              · have i1 : ¬ (U : Int) < (L : Int) := by omega
                by_cases a2 : 1114111 < U
                · have i2 : (U : Int) > 1114111 := by omega
                  have hF : Hid (utf8F s = false) := by show _ = _; rw [hst3.out]; unfold mayRune; simp; omega
                  clear hUb
                  clear a1 a2
                  go_wp2_with fail
                  go_ret
                  exact ⟨by rw [hF.out]; rfl, rfl⟩
                · have i2 : ¬ (U : Int) > 1114111 := by omega
                  by_cases a3 : 55296 ≤ U
                  · have i3 : (U : Int) ≥ 55296 := by omega
                    by_cases a4 : U < 57344
                    · have i4 : (U : Int) < 57344 := by omega
                      have hF : Hid (utf8F s = false) := by show _ = _; rw [hst3.out]; unfold mayRune; simp; omega
                      clear hUb
                      clear a1 a2 a3 a4
                      go_wp2_with fail
                      go_ret
                      exact ⟨by rw [hF.out]; rfl, rfl⟩
                    · have i4 : ¬ (U : Int) < 57344 := by omega
                      have hG : Hid (utf8F s = utf8F (s.drop (k + M))) := by
                        show _ = _
                        have : mayRune L U = true := by unfold mayRune; simp; omega
                        rw [hst3.out, this, Bool.true_and]
                      clear hUb
                      clear a1 a2 a3 a4
                      go_wp2_with fail
                      go_roundw
                      case rel => exact ⟨k + M, by have := HS.out; omega, by go_num, hG, trivial⟩
                      case measure => have := HM.out; have := HS.out; simp [intOf]; omega
                  · have i3 : ¬ (U : Int) ≥ 55296 := by omega
                    have hG : Hid (utf8F s = utf8F (s.drop (k + M))) := by
                      show _ = _
                      have : mayRune L U = true := by unfold mayRune; simp; omega
                      rw [hst3.out, this, Bool.true_and]
                    clear hUb
                    clear a1 a2 a3
                    go_wp2_with fail
                    go_roundw
                    case rel => exact ⟨k + M, by have := HS.out; omega, by go_num, hG, trivial⟩
                    case measure => have := HM.out; have := HS.out; simp [intOf]; omega
    · have hc : ¬ (k : Int) < (s.length : Int) := by omega
      have HT : Hid (utf8F s = true) := by
        show _ = _
        rw [HF.out, List.drop_of_length_le (by omega)]
        rfl
      go_wp2_with fail
      go_ret
      exact ⟨by rw [HT.out]; rfl, rfl⟩
end Go.Proofs.YtiadfijeglbdlaaDoor

namespace Go.Proofs.YtiadfijeglbdlaaDoor
open Go.RowKit

/-- what the first test refuses -/
def bad1 (k : Int) (s : List UInt8) (n : Nat) (l : List JV) (ks : List (List UInt8)) : Prop :=
  k < 0 ∨ 6 < k ∨ (k ≠ 3 ∧ n ≠ 0) ∨ (k ≠ 4 ∧ 0 < s.length) ∨ (k ≠ 6 ∧ 0 < ks.length) ∨ (k < 5 ∧ 0 < l.length)
/-- .. the second -/
def bad2 (k : Int) (s : List UInt8) (l : List JV) (ks : List (List UInt8)) (most : Nat) : Prop :=
  (5 ≤ k ∧ most = 0) ∨ utf8F s = false ∨ (k = 6 ∧ ks.length ≠ l.length)
theorem isE {α : Type} (l : List α) : l.isEmpty = decide (l = []) := by cases l <;> simp
theorem head_split (k : Int) (s : List UInt8) (n : Nat) (l : List JV) (ks : List (List UInt8)) (most : Nat) :
    headF k s n l ks most = true ↔ (¬ bad1 k s n l ks ∧ ¬ bad2 k s l ks most ∧ ks.all utf8F = true ∧ apartF ks = true) := by
  unfold headF bad1 bad2
  simp only [isE, Bool.and_eq_true, Bool.or_eq_true, decide_eq_true_eq]
  have e1 : (0 < ks.length) ↔ ks ≠ [] := List.length_pos_iff
  have e2 : (0 < l.length) ↔ l ≠ [] := List.length_pos_iff
  have e3 : (0 < s.length) ↔ s ≠ [] := List.length_pos_iff
  rw [e1, e2, e3]
  generalize utf8F s = u
  generalize (ks.all utf8F = true) = A
  generalize (apartF ks = true) = B
  by_cases hl : l = []
  · have : l.length = 0 := by rw [hl]; rfl
    by_cases hk : ks = []
    · have : ks.length = 0 := by rw [hk]; rfl
      by_cases hA : A <;> by_cases hB : B <;> by_cases hS : s = [] <;> cases u <;> simp [hl, hk, hA, hB, hS] <;> omega
    · by_cases hA : A <;> by_cases hB : B <;> by_cases hS : s = [] <;> cases u <;> simp [hl, hk, hA, hB, hS] <;> omega
  · by_cases hk : ks = []
    · have : ks.length = 0 := by rw [hk]; rfl
      by_cases hA : A <;> by_cases hB : B <;> by_cases hS : s = [] <;> cases u <;> simp [hl, hk, hA, hB, hS] <;> omega
    · by_cases hA : A <;> by_cases hB : B <;> by_cases hS : s = [] <;> cases u <;> simp [hl, hk, hA, hB, hS] <;> omega

mutual
/-- all texts are so long at most -/
def smallV : JV → Nat → Prop
  | .mk _ s _ l ks, m => s.length ≤ m ∧ (∀ k ∈ ks, k.length ≤ m) ∧ smallL l m
def smallL : List JV → Nat → Prop
  | [], _ => True
  | v :: r, m => smallV v m ∧ smallL r m
end
theorem small_at : ∀ (l : List JV) (m i : Nat) (v : JV), smallL l m → l[i]? = some v → smallV v m
  | [], _, _, _, _, h => by simp at h
  | u :: r, m, 0, v, h, hi => by
    unfold smallL at h
    cases hi
    exact h.1
  | u :: r, m, i + 1, v, h, hi => by
    unfold smallL at h
    exact small_at r m i v h.2 (by simpa using hi)

end Go.Proofs.YtiadfijeglbdlaaDoor

namespace Go.Proofs.YtiadfijeglbdlaaDoor
open Go.RowKit

theorem holdsOthers_any (k : Int) (w : World) : Calls Tryd.prog 44 #[.int .i64 k] w fun e w' => e = .returned (.bool (decide (k = 5) || decide (k = 6))) ∧ w' = w := by
  by_cases h5 : k = 5
  · subst h5
    go_enter Tryd.func44, Tryd.ntmps44
    go_wp2
    go_ret
    exact ⟨rfl, rfl⟩
  · by_cases h6 : k = 6
    · subst h6
      go_enter Tryd.func44, Tryd.ntmps44
      go_wp2
      go_ret
      exact ⟨rfl, rfl⟩
    · have e5 : (k == 5) = false := beq_eq_false_iff_ne.2 h5
      have e6 : (k == 6) = false := beq_eq_false_iff_ne.2 h6
      rw [decide_eq_false h5, decide_eq_false h6]
      go_enter Tryd.func44, Tryd.ntmps44
      go_wp2
      go_ret
      exact ⟨rfl, rfl⟩

theorem lastSign_any (k : Int) (w : World) : Calls Tryd.prog 50 #[.int .i64 k] w fun e w' => e = .returned (.int .u8 (if k = 6 then 125 else 93)) ∧ w' = w := by
  by_cases h6 : k = 6
  · subst h6
    go_enter Tryd.func50, Tryd.ntmps50
    go_wp2
    go_ret
    exact ⟨rfl, rfl⟩
  · have e6 : (k == 6) = false := beq_eq_false_iff_ne.2 h6
    rw [if_neg h6]
    go_enter Tryd.func50, Tryd.ntmps50
    go_wp2
    go_ret
    exact ⟨rfl, rfl⟩

theorem isHigh_any (n : Nat) (hn : n < 2147483648) (w : World) : Calls Tryd.prog 72 #[.int .i32 (n : Int)] w fun e w' => e = .returned (.bool (decide (55296 ≤ n) && decide (n ≤ 56319))) ∧ w' = w := by
  by_cases h1 : 55296 ≤ n
  · have i1 : (55296 : Int) ≤ (n : Int) := by omega
    by_cases h2 : n ≤ 56319
    · have i2 : (n : Int) ≤ 56319 := by omega
      rw [decide_eq_true h1, decide_eq_true h2]
      go_enter Tryd.func72, Tryd.ntmps72
      go_wp2
      go_ret
      exact ⟨rfl, rfl⟩
    · have i2 : ¬ (n : Int) ≤ 56319 := by omega
      rw [decide_eq_true h1, decide_eq_false h2]
      go_enter Tryd.func72, Tryd.ntmps72
      go_wp2
      go_ret
      exact ⟨rfl, rfl⟩
  · have i1 : ¬ (55296 : Int) ≤ (n : Int) := by omega
    rw [decide_eq_false h1]
    go_enter Tryd.func72, Tryd.ntmps72
    go_wp2
    go_ret
    exact ⟨rfl, rfl⟩

theorem words_any (w : World) : Calls Tryd.prog 34 #[] w fun e w' => e = .returned (.agg #[.string ⟨#[110, 117, 108, 108]⟩, .string ⟨#[102, 97, 108, 115, 101]⟩, .string ⟨#[116, 114, 117, 101]⟩]) ∧ Below w.heap.size w w' := by
  go_enter Tryd.func34, Tryd.ntmps34
  go_wp2
  exact bodyPost_ret (v := .agg #[.string ⟨#[110, 117, 108, 108]⟩, .string ⟨#[102, 97, 108, 115, 101]⟩, .string ⟨#[116, 114, 117, 101]⟩]) (by simp [results, Tryd.results34, go_sem]) rfl ⟨rfl, (Below.refl _ _).alloc (Nat.le_refl _) _⟩

theorem isLow_any (n : Nat) (hn : n < 2147483648) (w : World) : Calls Tryd.prog 73 #[.int .i32 (n : Int)] w fun e w' => e = .returned (.bool (decide (56320 ≤ n) && decide (n ≤ 57343))) ∧ w' = w := by
  by_cases h1 : 56320 ≤ n
  · have i1 : (56320 : Int) ≤ (n : Int) := by omega
    by_cases h2 : n ≤ 57343
    · have i2 : (n : Int) ≤ 57343 := by omega
      rw [decide_eq_true h1, decide_eq_true h2]
      go_enter Tryd.func73, Tryd.ntmps73
      go_wp2
      go_ret
      exact ⟨rfl, rfl⟩
    · have i2 : ¬ (n : Int) ≤ 57343 := by omega
      rw [decide_eq_true h1, decide_eq_false h2]
      go_enter Tryd.func73, Tryd.ntmps73
      go_wp2
      go_ret
      exact ⟨rfl, rfl⟩
  · have i1 : ¬ (56320 : Int) ≤ (n : Int) := by omega
    rw [decide_eq_false h1]
    go_enter Tryd.func73, Tryd.ntmps73
    go_wp2
    go_ret
    exact ⟨rfl, rfl⟩

/-- where a list stands -/
def placeV (a : Option Addr) (n : Nat) : Value := if n = 0 then .agg #[.pointer none, .int .i64 0] else .agg #[.pointer a, .int .i64 (n : Int)]
theorem placeOf_any (a : Option Addr) (n c : Nat) (w : World) (hn : n ≤ 9223372036854775807) (ha : 0 < n → ∃ b off, a = some ⟨b, off, none⟩) :
    Calls Tryd.prog 33 #[.slice a n c] w fun e w' => e = .returned (placeV a n) ∧ Below w.heap.size w w' := by
  unfold placeV
  by_cases h0 : n = 0
  · rw [if_pos h0]
    have i0 : (n : Int) = 0 := by omega
    subst h0
    go_enter Tryd.func33, Tryd.ntmps33
    go_wp2
    exact bodyPost_ret (v := .agg #[.pointer none, .int .i64 0]) (by simp [results, Tryd.results33, go_sem]) rfl ⟨rfl, (Below.refl _ _).alloc (Nat.le_refl _) _⟩
  · rw [if_neg h0]
    obtain ⟨b, off, rfl⟩ := ha (by omega)
    have i0 : ((n : Int) == 0) = false := beq_eq_false_iff_ne.2 (by omega)
    have i1 : (0 : Int) < (n : Int) := by omega
    have i2 : 0 < n := by omega
    clear h0
    go_enter Tryd.func33, Tryd.ntmps33
    go_wp2
    exact bodyPost_ret (v := .agg #[.pointer (some ⟨b, off, none⟩), .int .i64 (n : Int)]) (by simp [results, Tryd.results33, go_sem]) rfl ⟨rfl, (Below.refl _ _).alloc (Nat.le_refl _) _⟩
theorem digit_yes (c d : Nat) (hc : c < 256) (h : (48 ≤ c ∧ c ≤ 57 ∧ d = c - 48) ∨ (97 ≤ c ∧ c ≤ 102 ∧ d = c - 87) ∨ (65 ≤ c ∧ c ≤ 70 ∧ d = c - 55)) (w : World) :
    Calls Tryd.prog 87 #[.int .u8 (c : Int)] w fun e w' => e = .returned (.tuple #[.int .i32 (d : Int), .bool true]) ∧ w' = w := by
  rcases h with ⟨h1, h2, h3⟩ | ⟨h1, h2, h3⟩ | ⟨h1, h2, h3⟩
  · have i1 : (48 : Int) ≤ (c : Int) := by omega
    have i2 : (c : Int) ≤ 57 := by omega
    have e : (d : Int) = (c : Int) - 48 := by omega
    rw [e]
    clear h3 h1 h2 e
    go_enter Tryd.func87, Tryd.ntmps87
    go_wp2
    go_ret2
    exact ⟨rfl, rfl⟩
  · have i1 : (97 : Int) ≤ (c : Int) := by omega
    have i2 : (c : Int) ≤ 102 := by omega
    have i3 : (48 : Int) ≤ (c : Int) := by omega
    have i4 : ¬ (c : Int) ≤ 57 := by omega
    have e : (d : Int) = (c : Int) - 97 + 10 := by omega
    rw [e]
    clear h3 h1 h2 e
    go_enter Tryd.func87, Tryd.ntmps87
    go_wp2
    go_ret2
    exact ⟨rfl, rfl⟩
  · have i1 : (65 : Int) ≤ (c : Int) := by omega
    have i2 : (c : Int) ≤ 70 := by omega
    have i3 : (48 : Int) ≤ (c : Int) := by omega
    have i4 : ¬ (c : Int) ≤ 57 := by omega
    have i5 : ¬ (97 : Int) ≤ (c : Int) := by omega
    have e : (d : Int) = (c : Int) - 65 + 10 := by omega
    rw [e]
    clear h3 h1 h2 e
    go_enter Tryd.func87, Tryd.ntmps87
    go_wp2
    go_ret2
    exact ⟨rfl, rfl⟩
theorem digit_no (c : Nat) (hc : c < 256) (h1 : ¬ (48 ≤ c ∧ c ≤ 57)) (h2 : ¬ (97 ≤ c ∧ c ≤ 102)) (h3 : ¬ (65 ≤ c ∧ c ≤ 70)) (w : World) :
    Calls Tryd.prog 87 #[.int .u8 (c : Int)] w fun e w' => e = .returned (.tuple #[.int .i32 0, .bool false]) ∧ w' = w := by
  have hk : ((¬ (48 : Int) ≤ (c : Int) ∧ ¬ (97 : Int) ≤ (c : Int) ∧ ¬ (65 : Int) ≤ (c : Int)) ∨ ((48 : Int) ≤ (c : Int) ∧ ¬ (c : Int) ≤ 57 ∧ ¬ (97 : Int) ≤ (c : Int) ∧ ¬ (65 : Int) ≤ (c : Int))) ∨ (((48 : Int) ≤ (c : Int) ∧ ¬ (c : Int) ≤ 57 ∧ ¬ (97 : Int) ≤ (c : Int) ∧ (65 : Int) ≤ (c : Int) ∧ ¬ (c : Int) ≤ 70) ∨ ((48 : Int) ≤ (c : Int) ∧ ¬ (c : Int) ≤ 57 ∧ (97 : Int) ≤ (c : Int) ∧ ¬ (c : Int) ≤ 102 ∧ (65 : Int) ≤ (c : Int) ∧ ¬ (c : Int) ≤ 70)) := by omega
  clear h1 h2 h3
  rcases hk with (⟨a1, a2, a3⟩ | ⟨a1, a2, a3, a4⟩) | (⟨a1, a2, a3, a4, a5⟩ | ⟨a1, a2, a3, a4, a5, a6⟩)
  all_goals
    go_enter Tryd.func87, Tryd.ntmps87
    go_wp2
    go_ret2
    exact ⟨rfl, rfl⟩

theorem meant_any (c : UInt8) (w : World) :
    Calls Tryd.prog 70 #[.int .u8 (c.toNat : Int)] w fun e w' => e = .returned (.tuple #[.int .u8 (((oneF c).getD 0).toNat : Int), .bool (oneF c).isSome]) ∧ w' = w := by
  have hlt := c.toNat_lt
  have hk : (c = 34 ∨ c = 92 ∨ c = 47 ∨ c = 98) ∨ (c = 102 ∨ c = 110 ∨ c = 114 ∨ c = 116) ∨ (c ≠ 34 ∧ c ≠ 92 ∧ c ≠ 47 ∧ c ≠ 98 ∧ c ≠ 102 ∧ c ≠ 110 ∧ c ≠ 114 ∧ c ≠ 116) := by
    by_cases a1 : c = 34 <;> by_cases a2 : c = 92 <;> by_cases a3 : c = 47 <;> by_cases a4 : c = 98 <;> by_cases a5 : c = 102 <;> by_cases a6 : c = 110 <;> by_cases a7 : c = 114 <;> by_cases a8 : c = 116 <;> simp_all
  rcases hk with (rfl | rfl | rfl | rfl) | (rfl | rfl | rfl | rfl) | ⟨a1, a2, a3, a4, a5, a6, a7, a8⟩
  · clear hlt
    rw [show ((UInt8.toNat 34 : Nat) : Int) = 34 from rfl]
    go_enter Tryd.func70, Tryd.ntmps70
    go_wp2
    go_ret2
    exact ⟨rfl, rfl⟩
  · clear hlt
    rw [show ((UInt8.toNat 92 : Nat) : Int) = 92 from rfl]
    go_enter Tryd.func70, Tryd.ntmps70
    go_wp2
    go_ret2
    exact ⟨rfl, rfl⟩
  · clear hlt
    rw [show ((UInt8.toNat 47 : Nat) : Int) = 47 from rfl]
    go_enter Tryd.func70, Tryd.ntmps70
    go_wp2
    go_ret2
    exact ⟨rfl, rfl⟩
  · clear hlt
    rw [show ((UInt8.toNat 98 : Nat) : Int) = 98 from rfl]
    go_enter Tryd.func70, Tryd.ntmps70
    go_wp2
    go_ret2
    exact ⟨rfl, rfl⟩
  · clear hlt
    rw [show ((UInt8.toNat 102 : Nat) : Int) = 102 from rfl]
    go_enter Tryd.func70, Tryd.ntmps70
    go_wp2
    go_ret2
    exact ⟨rfl, rfl⟩
  · clear hlt
    rw [show ((UInt8.toNat 110 : Nat) : Int) = 110 from rfl]
    go_enter Tryd.func70, Tryd.ntmps70
    go_wp2
    go_ret2
    exact ⟨rfl, rfl⟩
  · clear hlt
    rw [show ((UInt8.toNat 114 : Nat) : Int) = 114 from rfl]
    go_enter Tryd.func70, Tryd.ntmps70
    go_wp2
    go_ret2
    exact ⟨rfl, rfl⟩
  · clear hlt
    rw [show ((UInt8.toNat 116 : Nat) : Int) = 116 from rfl]
    go_enter Tryd.func70, Tryd.ntmps70
    go_wp2
    go_ret2
    exact ⟨rfl, rfl⟩
  have hn : oneF c = none := by unfold oneF; simp [a1, a2, a3, a4, a5, a6, a7, a8]
  rw [hn]
  have q : ∀ k : Nat, k < 256 → c ≠ UInt8.ofNat k → ((c.toNat : Int) == (k : Int)) = false := fun k hk h => beq_eq_false_iff_ne.2 (fun e => h (by apply UInt8.toNat_inj.1; rw [UInt8.toNat_ofNat', Nat.mod_eq_of_lt hk]; omega))
  have b1 := q 34 (by omega) a1
  have b2 := q 92 (by omega) a2
  have b3 := q 47 (by omega) a3
  have b4 := q 98 (by omega) a4
  have b5 := q 102 (by omega) a5
  have b6 := q 110 (by omega) a6
  have b7 := q 114 (by omega) a7
  have b8 := q 116 (by omega) a8
  push_cast at b1 b2 b3 b4 b5 b6 b7 b8
  generalize c.toNat = n at *
  clear q a1 a2 a3 a4 a5 a6 a7 a8 hn
  go_enter Tryd.func70, Tryd.ntmps70
  go_wp2
  go_ret2
  exact ⟨rfl, rfl⟩

theorem together_any (h l : Nat) (h1 : 55296 ≤ h) (h2 : h ≤ 56319) (l1 : 56320 ≤ l) (l2 : l ≤ 57343) (w : World) :
    Calls Tryd.prog 75 #[.int .i32 (h : Int), .int .i32 (l : Int)] w fun e w' => e = .returned (.int .i32 ((65536 + 1024 * (h - 55296) + (l - 56320) : Nat) : Int)) ∧ w' = w := by
  have e : ((65536 + 1024 * (h - 55296) + (l - 56320) : Nat) : Int) = 65536 + ((h : Int) - 55296) * 1024 + ((l : Int) - 56320) := by omega
  rw [e]
  have i1 : (55296 : Int) ≤ (h : Int) := by omega
  have i2 : (h : Int) ≤ 56319 := by omega
  have i3 : (56320 : Int) ≤ (l : Int) := by omega
  have i4 : (l : Int) ≤ 57343 := by omega
  clear e h1 h2 l1 l2
  go_enter Tryd.func75, Tryd.ntmps75
  go_wp2
  go_ret
  exact ⟨rfl, rfl⟩
end Go.Proofs.YtiadfijeglbdlaaDoor
