/-
  Layer 10: the document's examples. Conditions: those in each statement.
-/
import Derived.Test.YtbmhobbeimhodaaInL
import Derived.Test.YtbmhobbeimhodaaInF
import Derived.Test.YtbmhobbeimhodaaRegF
namespace Go.Proofs.Ytbmhobbeimhodaa
open Go.RowKit

section
variable {P : Program} {o : Oper} {a : Act} {K : Act → World → Prop} {Q : Exit → Act → World → Prop} {w : World}
theorem ow_build (t : TypeId) (parts : Array (Nat × Operand)) (ho : o.op = .build t parts) (cells : Array Value) (hf : P.built t (parts.map fun (i, x) => (i, a.eval x)).toList = some cells)
    (h : K (a.put o.dst (.agg cells)) w) : o.wp P a w K Q := by
  refine wp_build t parts ho (by rw [hf]; rfl) ?_
  rw [hf]
  exact h
end
/-- the seven leaves -/
def sevenL : List (List UInt8) := (List.range 7).map (lvF 1)
theorem seven_at (k : Nat) (h : k < 7) : sevenL.getD k [] = lvF 1 k := by
  unfold sevenL
  simp [List.getD, h]
theorem seven_rg : rL 5 7 = [(4, 5), (6, 7), (0, 4)] := by decide +kernel
theorem seven_rg0 : rgF 5 7 0 = [(4, 5), (6, 7), (0, 4)] := by decide +kernel
theorem seven_rE : rE 5 7 = 0 := by decide +kernel
theorem seven_pL : pL sevenL 5 = pathF sevenL 5 := by
  unfold pL
  rw [show okR 5 sevenL.length = true by decide +kernel, if_pos rfl]
theorem seven_path0 : (pL sevenL 5).getD 0 [] = lvF 1 4 := by
  rw [seven_pL, path_ranges _ sevenL 5 0 (Nat.le_refl _) (by decide +kernel), show rgF 5 sevenL.length 0 = [(4, 5), (6, 7), (0, 4)] by decide +kernel]
  show rootF ((sevenL.drop 4).take 1) = _
  rfl
theorem seven_plen : (pL sevenL 5).length = 3 := by decide +kernel
theorem seven_yes : verB (lvF 1 5) 5 7 (pL sevenL 5) (rootF sevenL) = true := by
  have e := head_path 7 sevenL 5 (by decide +kernel) (by decide +kernel)
  rw [seven_at 5 (by omega), show sevenL.length = 7 by decide +kernel] at e
  have ok : okH 5 7 (pL sevenL 5).length = true := by rw [seven_plen]; decide +kernel
  unfold verB hdV
  rw [ok, if_pos rfl, seven_pL, e]
  simp
theorem seven_no : verB (lvF 1 4) 5 7 (pL sevenL 5) (rootF sevenL) = false := by decide +kernel
end Go.Proofs.Ytbmhobbeimhodaa
