/-
  Layer 10: the program's Head. Conditions: those in each statement.
-/
import Derived.Test.YtcnnblhjgligbaaInE
namespace Go.Proofs.Ytcnnblhjgligbaa
open Go.RowKit

section
variable {P : Program} {ops : Array Oper} {rest : List Oper} {op : Oper} {a : Act} {Q : Act → Prop} {w : World}
/-- a load of many cells among operations that turn nothing -/
theorem still_load_mid (hgd : op.guard = none) (ty : TypeId) (x : Operand) (ho : op.op = .load ty x) (b o : Nat) (hx : a.eval x = .pointer (some ⟨b, o, none⟩)) (cs : List Value) (d : TypeDesc) (hc : w.rangeAt b o cs)
    (hu : P.underlying ty = some d) (hd : d.isRow = true) (hi : (P.info? ty).map (·.size) = some cs.length) (h : wpStill P ops w Q rest (a.put op.dst (.agg cs.toArray))) : wpStill P ops w Q (op :: rest) a := by
  refine wpStill_step fun K hK => ?_
  have hw : Region.wanted op (yielded ops a.tmps) = true := by simp [Region.wanted, hgd]
  rw [if_pos hw]
  unfold Oper.still execOp
  simp only [ho, hx, Instr.loadAt, Instr.sureAddr, Sem.run_bind, Sem.run_pure, Result.andThen_ok, run_loadVar_mid w b o ty cs d hc hu hd hi]
  rw [Oper.stillUpon_value]
  exact hK _ h
end
/-- whether there is such a path -/
def okH (i s n : Nat) : Bool := okR i s && decide ((rL i s).length = n)
def hdV (d : List UInt8) (i s : Nat) (P : List (List UInt8)) : List UInt8 := if okH i s P.length then headF d i s P else Z8 32
def hdE (i s n : Nat) : Int := if okH i s n then 0 else 1
theorem okH_yes {i s n : Nat} (h : okH i s n = true) : okR i s = true ∧ (rgF i s 0).length = n ∧ rL i s = rgF i s 0 := by
  unfold okH at h
  rw [Bool.and_eq_true, decide_eq_true_eq] at h
  have e : rL i s = rgF i s 0 := by unfold rL; rw [h.1, if_pos rfl]
  exact ⟨h.1, by rw [← e]; exact h.2, e⟩
theorem hdV_len {d : List UInt8} (hd : d.length = 32) (i s : Nat) (P : List (List UInt8)) : (hdV d i s P).length = 32 := by
  unfold hdV
  split
  · exact head_len s d i s P (Nat.le_refl _) hd
  · simp [Z8]
theorem infoR0 : (Try.prog.info? 52).map (fun i => (i.zero, i.size)) = some (some (.agg ([.int .u64 0, .int .u64 0] : List Value).toArray), 2) := by kernel_rfl
theorem infoRs : (Try.prog.info? 52).map (·.size) = some 2 := by kernel_rfl
theorem descR : ∃ d, Try.prog.underlying 52 = some d ∧ d.isRow = true := ⟨_, Try.underlying52, rfl⟩
theorem stepU_hi {i : Nat} {x : Nat × Nat} (h : i < x.1) (d y : List UInt8) : stepU i d (x, y) = nodeH d y := by unfold stepU; rw [if_neg (by simp only; omega)]
theorem stepU_lo {i : Nat} {x : Nat × Nat} (h : x.1 ≤ i) (d y : List UInt8) : stepU i d (x, y) = nodeH y d := by unfold stepU; rw [if_pos h]
theorem fold_next (i : Nat) (L : List (Nat × Nat)) (P : List (List UInt8)) (d : List UInt8) (k : Nat) (h1 : k < L.length) (h2 : k < P.length) :
    ((L.zip P).take (k + 1)).foldl (stepU i) d = stepU i (((L.zip P).take k).foldl (stepU i) d) (L[k], P.getD k []) := by
  have hk : k < (L.zip P).length := by rw [List.length_zip]; omega
  rw [List.take_succ_eq_append_getElem hk, List.foldl_append]
  simp [List.getD, h2]

end Go.Proofs.Ytcnnblhjgligbaa
