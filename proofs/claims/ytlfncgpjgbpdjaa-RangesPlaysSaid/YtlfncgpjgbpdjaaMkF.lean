/-
  Layer 8: the document's Sub. Conditions: those in each statement.
-/
import Derived.Test.YtlfncgpjgbpdjaaMkE
namespace Go.Proofs.Ytlfncgpjgbpdjaa
open Go.RowKit

/-- whether a part may be asked for -/
def okP (n : Nat) (f t : Int) : Bool := decide (0 ≤ f) && decide (f < t) && decide (t ≤ (n : Int))
def subF (L : List (List UInt8)) (f t : Int) : List UInt8 := if okP L.length f t then rootF ((L.drop f.toNat).take (t.toNat - f.toNat)) else Z8 32
def subE (n : Nat) (f t : Int) : Int := if okP n f t then 0 else 1
theorem okP_yes {n : Nat} {f t : Int} (h : okP n f t = true) : ∃ a b : Nat, f = a ∧ t = b ∧ a < b ∧ b ≤ n := by
  simp [okP] at h
  exact ⟨f.toNat, t.toNat, by omega, by omega, by omega, by omega⟩
theorem okP_no {n : Nat} {f t : Int} (h : okP n f t = false) : f < 0 ∨ (0 ≤ f ∧ t ≤ f) ∨ (0 ≤ f ∧ f < t ∧ (n : Int) < t) := by
  simp [okP] at h
  omega
theorem subF_len {L : List (List UInt8)} (h : All32 L) (f t : Int) : (subF L f t).length = 32 := by
  unfold subF
  split
  · exact rootF_len ((h.drop _).take _)
  · simp [Z8]
/-- the end: a result that lies in a block, another value -/
theorem end_cell2 {P : Program} {fn : Func} {R : Ending → World → Prop} {a : Act} {w : World} {p qq : Tmp} {ty : TypeId} (h : fn.results = #[.cell p ty, .tmp qq]) (g : Nat) (T : TypeId) (xs : List Value) (d : TypeDesc) (v : Value)
    (hp : a.tmps.getD p undef = .pointer (some ⟨g, 0, none⟩)) (hA : Arr w g T xs) (hu : P.underlying ty = some d) (hd : (match d with | .struct _ | .array _ _ => true | _ => false) = true) (hi : (P.info? ty).map (·.size) = some xs.length)
    (hq : a.tmps.getD qq undef = v) (hdf : a.defers = []) (hR : R (.returned (.tuple #[.agg xs.toArray, v])) w) : bodyPost P fn R .ret a w := by
  have hr : (results fn a.tmps).run P w = .ok (.tuple #[.agg xs.toArray, v]) w := by
    have hp' : a.tmps[p]?.getD undef = .pointer (some ⟨g, 0, none⟩) := by simpa using hp
    have hq' : a.tmps[qq]?.getD undef = v := by simpa using hq
    have hl := run_loadVar_row (P := P) w g T ty xs.toArray (0, 0) d hA hu hd (by simpa using hi)
    simp [results, h, hp', hq', asAddr, hl]
  exact bodyPost_ret hr hdf hR

end Go.Proofs.Ytlfncgpjgbpdjaa
