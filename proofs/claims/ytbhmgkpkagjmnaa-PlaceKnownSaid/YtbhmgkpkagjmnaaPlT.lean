/-
  Layer 7: from a law's call to its statement: nodes and numbers that came in. Conditions: those in each statement.
-/
import Derived.Test.YtbhmgkpkagjmnaaPlM
import Derived.Test.YtbhmgkpkagjmnaaTop
import Derived.SizedLaws
import Derived.ChangeSame
namespace Go.Proofs.Ytbhmgkpkagjmnaa
open Go.ChangeShapes Go.WideShapes Go.ChangeAt Go.RowKit

section
variable {H : Type} {enc : TypeId × Value → H} {W : World}
theorem fieldsN : ∃ f0 f1 : Field, Try.prog.underlying 24 = some (.struct #[f0, f1]) ∧ f0.type = 3 ∧ f0.offset = 0 ∧ f1.type = 22 ∧ f1.offset = 1 := ⟨_, _, Try.underlying24, rfl, rfl, rfl, rfl⟩
theorem cellsInt : Try.prog.cellsOf 3 = 1 := by kernel_rfl
theorem cellsU64 : Try.prog.cellsOf 22 = 1 := by kernel_rfl
theorem cellsNode : Try.prog.cellsOf 24 = 2 := by kernel_rfl
theorem u64_wf {n : Int} (h : (Lit.int .u64 n).wf = true) : 0 ≤ n := by
  simp [Lit.wf, min_u64] at h
  exact h.1

/-- a node that came in -/
theorem node_of_trod {v : Value} {d : DataW H} {p : List MemPlace} {b0 : Nat} {sp : Nat → Bool} (hval : Value.okWide Try.prog W .any b0 24 v) (h0 : DataW.Trod enc Try.prog W 0 sp true 24 v d p) :
    ∃ l i : Int, v = .agg #[.int .i64 l, .int .u64 i] ∧ 0 ≤ i := by
  obtain ⟨f0, f1, hu, t0, o0, t1, o1⟩ := fieldsN
  obtain ⟨cs, rfl, hsz⟩ := okWide_struct hu hval
  obtain ⟨fuel, hf⟩ := h0
  obtain ⟨y0, y1, n, -, hl, g0, g1⟩ := trod_struct2 hu hf
  rw [cellsNode] at hsz
  rw [t0, o0, cellsInt] at g0
  rw [t1, o1, cellsU64] at g1
  match cs, hsz with
  | ⟨[a, b]⟩, _ =>
    obtain ⟨l, rfl, -⟩ := int_of_cells Try.underlying3 (v := a) g0
    obtain ⟨i, rfl, hi⟩ := int_of_cells Try.underlying22 (v := b) g1
    exact ⟨l, i, rfl, u64_wf hi⟩
theorem u64_of_trod {v : Value} {d : DataW H} {p : List MemPlace} {b0 : Nat} {sp : Nat → Bool} {base : Nat} (hval : Value.okWide Try.prog W .any b0 22 v) (h0 : DataW.Trod enc Try.prog W base sp true 22 v d p) :
    ∃ n : Int, v = .int .u64 n ∧ 0 ≤ n := by
  obtain ⟨n, rfl, -, -, hw⟩ := open_int Try.underlying22 hval h0
  exact ⟨n, rfl, u64_wf hw⟩
end
end Go.Proofs.Ytbhmgkpkagjmnaa
