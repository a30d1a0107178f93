/-
  Layer 11: the document's examples; a proof is verified, plainly. Conditions: those in each statement.
-/
import Derived.Test.YtcnnblhjgligbaaCnK
import Derived.Test.YtcnnblhjgligbaaCnD
import Derived.Test.YtcnnblhjgligbaaCnF
import Derived.Test.YtcnnblhjgligbaaInL
namespace Go.Proofs.Ytcnnblhjgligbaa
open Go.RowKit

section
variable {P : Program} {o : Oper} {a : Act} {K : Act → World → Prop} {Q : Exit → Act → World → Prop} {w : World}
theorem ow_build (t : TypeId) (parts : Array (Nat × Operand)) (ho : o.op = .build t parts) (cells : Array Value) (hf : P.built t (parts.map fun (i, x) => (i, a.eval x)).toList = some cells)
    (h : K (a.put o.dst (.agg cells)) w) : o.wp P a w K Q := by
  refine wp_build t parts ho (by rw [hf]; rfl) ?_
  rw [hf]
  exact h
end
/-- P11.4, plainly: the proof of a tree's first leaves tells both heads -/
theorem okT_own {L : List (List UInt8)} {m : Nat} (h20 : L.length ≤ 1048576) (h1 : 1 ≤ m) (hm : m ≤ L.length) : okT m L.length (qL L m).length = true := by
  have hc : okC m L.length = true := by simp [okC]; omega
  unfold okT
  rw [hc, qL_len, decide_eq_true rfl, decide_eq_true (show m ≠ 0 by omega)]
  rfl
theorem tdV_own {L : List (List UInt8)} {m : Nat} (h20 : L.length ≤ 1048576) (h1 : 1 ≤ m) (hm : m ≤ L.length) : tdV m L.length (rootF (L.take m)) (qL L m) = (rootF (L.take m), rootF L) := by
  have hc : okC m L.length = true := by simp [okC]; omega
  have e : qL L m = prF L m true := by unfold qL; rw [hc, if_pos rfl, if_neg (by omega)]
  unfold tdV
  rw [okT_own h20 h1 hm, if_pos rfl, e]
  exact heads_proof _ L m _ true (Nat.le_refl _) h1 hm (fun _ => rfl)
theorem vrC_own {L : List (List UInt8)} {m : Nat} (h20 : L.length ≤ 1048576) (hm : m ≤ L.length) : vrC m L.length (rootF (L.take m)) (rootF L) (qL L m) = true := by
  unfold vrC
  by_cases h0 : m = 0
  · subst h0
    rw [if_pos rfl]
    have e : qL L 0 = [] := by unfold qL; split <;> rfl
    rw [e]
    simp [h20]
  · rw [if_neg h0, okT_own h20 (by omega) hm, tdV_own h20 (by omega) hm]
    simp
/-- the seven leaves -/
def sevenC : List (List UInt8) := (List.range 7).map (lvF 2)
theorem sevenC_len : sevenC.length = 7 := by decide +kernel
theorem sevenC_at (k : Nat) (h : k < 7) : sevenC.getD k [] = lvF 2 k := by
  unfold sevenC
  simp [List.getD, h]
theorem sevenC_cL : cL 3 7 = [(2, 3), (3, 4), (0, 2), (4, 7)] := by decide +kernel
theorem sevenC_cE : cE 3 7 = 0 := by decide +kernel
theorem sevenC_q : qL sevenC 3 = [(2, 3), (3, 4), (0, 2), (4, 7)].map (rootR sevenC) := by rw [qL_map sevenC 3 7 sevenC_len, sevenC_cL]
theorem sevenC_qlen : (qL sevenC 3).length = 4 := by rw [sevenC_q]; rfl
theorem sevenC_q0 : (qL sevenC 3).getD 0 [] = lvF 2 2 := by rw [sevenC_q]; rfl
theorem sevenC_yes : vrC 3 7 (rootF (sevenC.take 3)) (rootF sevenC) (qL sevenC 3) = true := by
  have e := vrC_own (L := sevenC) (m := 3) (by rw [sevenC_len]; omega) (by rw [sevenC_len]; omega)
  rwa [sevenC_len] at e
theorem sevenC_no : vrC 3 7 (rootF (sevenC.take 2)) (rootF sevenC) (qL sevenC 3) = false := by decide +kernel
end Go.Proofs.Ytcnnblhjgligbaa
