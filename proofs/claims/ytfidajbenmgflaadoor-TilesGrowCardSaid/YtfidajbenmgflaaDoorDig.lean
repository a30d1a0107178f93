/-
  Two hashes held against each other. Conditions: those in each statement.
-/
import Derived.Test.YtfidajbenmgflaaDoorShaC
import Derived.Test.YtfidajbenmgflaaDoorMgS
import Derived.ChangeKeysEq
import Derived.Laws.StructEq
namespace Go.Proofs.YtfidajbenmgflaaDoor
open Go.RowKit

section
variable {P : Program} {w : World}
theorem run_part_byte {e : TypeId} (he : P.underlying e = some (.int .u8)) (xs : List UInt8) (i : Nat) (h : i < xs.length) : (part e (bvs xs).toArray i).run P w = .ok (.int .u8 ((xs.getD i 0).toNat : Int)) w := by
  have ha : (isAgg e).run P w = .ok false w := by
    unfold isAgg
    rw [Sem.run_bind, run_underlying he w]
    rfl
  have hc := bvs_get xs i h
  unfold part
  rw [Sem.run_bind, ha, Result.andThen_ok]
  simp [hc]
theorem run_eqItems_bytes {e : TypeId} (he : P.underlying e = some (.int .u8)) (d : Nat) (xs ys : List UInt8) : ∀ (is : List Nat), (∀ i ∈ is, i < xs.length ∧ i < ys.length) →
    (Op.eqItems (d + 1) e 1 (bvs xs).toArray (bvs ys).toArray is).run P w = .ok (is.all fun i => xs.getD i 0 == ys.getD i 0) w
  | [], _ => by simp [Op.eqItems]
  | i :: is, h => by
    obtain ⟨h1, h2⟩ := h i (List.mem_cons_self ..)
    have ih := run_eqItems_bytes he d xs ys is fun j hj => h j (List.mem_cons_of_mem _ hj)
    simp only [Op.eqItems, Sem.run_bind, Nat.mul_one, run_part_byte he xs i h1, run_part_byte he ys i h2, Result.andThen_ok, run_equalIn_int w d e .u8 .u8 _ _ he, List.all_cons]
    have e1 : (((xs.getD i 0).toNat : Int) == ((ys.getD i 0).toNat : Int)) = (xs.getD i 0 == ys.getD i 0) := by
      rw [Bool.eq_iff_iff, beq_iff_eq, beq_iff_eq]
      constructor
      · intro h; exact UInt8.toNat_inj.1 (by omega)
      · intro h; rw [h]
    rw [e1]
    cases hb : (xs.getD i 0 == ys.getD i 0)
    · simp
    · simpa using ih
theorem all_range {xs ys : List UInt8} {n : Nat} (hx : xs.length = n) (hy : ys.length = n) : ((List.range n).all fun i => xs.getD i 0 == ys.getD i 0) = decide (xs = ys) := by
  rw [Bool.eq_iff_iff, List.all_eq_true, decide_eq_true_eq]
  constructor
  · intro h
    apply List.ext_getElem (by omega)
    intro i h1 h2
    have := h i (by simp; omega)
    simp only [List.getD, beq_iff_eq] at this
    rw [List.getElem?_eq_getElem h1, List.getElem?_eq_getElem h2] at this
    simpa using this
  · rintro rfl i _
    simp
/-- '==' of two arrays of bytes -/
theorem run_eql_bytes {t e : TypeId} {n : Nat} (hu : P.underlying t = some (.array n e)) (he : P.underlying e = some (.int .u8)) (h1 : P.cellsOf e = 1) (hi : (P.info? e).isSome = true) {xs ys : List UInt8} (hx : xs.length = n) (hy : ys.length = n) :
    (binOp .eql t (.agg (bvs xs).toArray) (.agg (bvs ys).toArray)).run P w = .ok (.bool (decide (xs = ys))) w := by
  obtain ⟨i, hi⟩ := Option.isSome_iff_exists.1 hi
  have h := run_equalIn_array w 9999 (bvs xs).toArray (bvs ys).toArray hu hi
  rw [h1, show (9999 : Nat) = 9998 + 1 from rfl, run_eqItems_bytes he 9998 xs ys _ (fun j hj => by have := List.mem_range.1 hj; omega), all_range hx hy] at h
  rw [run_eql_struct, show (10000 : Nat) = 9998 + 1 + 1 from rfl, h]
  rfl
theorem run_neq_bytes {t e : TypeId} {n : Nat} (hu : P.underlying t = some (.array n e)) (he : P.underlying e = some (.int .u8)) (h1 : P.cellsOf e = 1) (hi : (P.info? e).isSome = true) {xs ys : List UInt8} (hx : xs.length = n) (hy : ys.length = n) :
    (binOp .neq t (.agg (bvs xs).toArray) (.agg (bvs ys).toArray)).run P w = .ok (.bool (!decide (xs = ys))) w := by
  obtain ⟨i, hi⟩ := Option.isSome_iff_exists.1 hi
  have h := run_equalIn_array w 9999 (bvs xs).toArray (bvs ys).toArray hu hi
  rw [h1, show (9999 : Nat) = 9998 + 1 from rfl, run_eqItems_bytes he 9998 xs ys _ (fun j hj => by have := List.mem_range.1 hj; omega), all_range hx hy] at h
  rw [run_neq_struct, show (10000 : Nat) = 9998 + 1 + 1 from rfl, h]
  rfl
end
/-- a guarded load of a block, where it is wanted -/
theorem wl_loadG {P : Program} {ops : Array Oper} {rest : List Oper} {o : Oper} {a : Act} {Q : Exit → Act → World → Prop} {w : World} (hw : Region.wanted o (yielded ops a.tmps) = true) (ty : TypeId) (x : Operand) (ho : o.op = .load ty x) (g off : Nat) (hx : a.eval x = .pointer (some ⟨g, off, none⟩))
    (T : TypeId) (xs ys : List Value) (hA : Arr w g T xs) (hy : ∀ j v, ys[j]? = some v → xs[off + j]? = some v) (d : TypeDesc) (hu : P.underlying ty = some d) (hd : d.isRow = true) (hi : (P.info? ty).map (·.size) = some ys.length)
    (hK : wpList P ops Q rest (a.put o.dst (.agg ys.toArray)) w) : wpList P ops Q (o :: rest) a w :=
  wpList_step fun K hK' => by
    rw [if_pos hw]
    exact ow_load ty x ho g off hx T xs ys hA hy d hu hd hi (hK' _ _ hK)
/-- a guarded build, where it is wanted -/
theorem wl_buildG {P : Program} {ops : Array Oper} {rest : List Oper} {o : Oper} {a : Act} {Q : Exit → Act → World → Prop} {w : World} (hw : Region.wanted o (yielded ops a.tmps) = true) (t : TypeId) (parts : Array (Nat × Operand)) (ho : o.op = .build t parts)
    (cells : Array Value) (hf : P.built t (parts.map fun (i, x) => (i, a.eval x)).toList = some cells)
    (hK : wpList P ops Q rest (a.put o.dst (.agg cells)) w) : wpList P ops Q (o :: rest) a w :=
  wpList_step fun K hK' => by
    rw [if_pos hw]
    refine wp_build t parts ho (by rw [hf]; rfl) ?_
    rw [hf]
    exact hK' _ _ hK
theorem cells1 : Tryd.prog.cellsOf 5 = 1 := by kernel_rfl
theorem infoSome : (Tryd.prog.info? 5).isSome = true := by kernel_rfl
/-- .. of hashes, in the walk -/
theorem eqD {xs ys : List UInt8} (hx : xs.length = 32) (hy : ys.length = 32) (w : World) : (binOp .eql 48 (.agg (bvs xs).toArray) (.agg (bvs ys).toArray)).run Tryd.prog w = .ok (.bool (decide (xs = ys))) w :=
  run_eql_bytes Tryd.underlying48 Tryd.underlying5 cells1 infoSome hx hy
theorem neD {xs ys : List UInt8} (hx : xs.length = 32) (hy : ys.length = 32) (w : World) : (binOp .neq 48 (.agg (bvs xs).toArray) (.agg (bvs ys).toArray)).run Tryd.prog w = .ok (.bool (!decide (xs = ys))) w :=
  run_neq_bytes Tryd.underlying48 Tryd.underlying5 cells1 infoSome hx hy
end Go.Proofs.YtfidajbenmgflaaDoor
