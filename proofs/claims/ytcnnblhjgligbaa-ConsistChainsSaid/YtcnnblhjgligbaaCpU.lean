/-
  A row of hashes up to a place, whatever it points to; what is not verified. Conditions: those in each statement.
-/
import Derived.Test.YtcnnblhjgligbaaCpP
import Derived.Test.YtcnnblhjgligbaaCpV
namespace Go.Proofs.Ytcnnblhjgligbaa
open Go.RowKit

theorem run_take (ad : Option Addr) (n c j : Nat) (h1 : j ≤ n) (h2 : n ≤ c) (hnil : ad = none → c = 0) (w : World) :
    (Instr.sliceAt 33 (.slice ad n c) none (some (.int .u64 (j : Int))) none).run Try.prog w = .ok (.slice ad j c) w := by
  have c1 : (j : Int) ≤ (c : Int) := by omega
  have c2 : (0 : Int) ≤ (j : Int) := by omega
  cases ad with
  | none =>
    obtain rfl : c = 0 := hnil rfl
    obtain rfl : n = 0 := by omega
    obtain rfl : j = 0 := by omega
    go_simp
  | some ad =>
    clear h1 h2 hnil
    obtain ⟨b, off, p⟩ := ad
    go_simp
section
variable {o : Oper} {a : Act} {K : Act → World → Prop} {Q : Exit → Act → World → Prop} {w : World} {ops : Array Oper} {rest : List Oper}
theorem ow_takeD (ad : Option Addr) (n c j : Nat) (h1 : j ≤ n) (h2 : n ≤ c) (hnil : ad = none → c = 0) (x y : Operand) (ho : o.op = .slice 33 x none (some y) none) (hx : a.eval x = .slice ad n c) (hy : a.eval y = .int .u64 (j : Int))
    (hK : K (a.put o.dst (.slice ad j c)) w) : o.wp Try.prog a w K Q := by
  have h := run_take ad n c j h1 h2 hnil w
  unfold Oper.wp execOp
  simp only [ho, hx, hy, Option.map_some, Option.map_none, Sem.run_bind, h, Sem.run_pure, Result.andThen_ok]
  exact hK
theorem wl_takeD (hg : o.guard = none) (ad : Option Addr) (n c j : Nat) (h1 : j ≤ n) (h2 : n ≤ c) (hnil : ad = none → c = 0) (x y : Operand) (ho : o.op = .slice 33 x none (some y) none) (hx : a.eval x = .slice ad n c) (hy : a.eval y = .int .u64 (j : Int))
    (hK : wpList Try.prog ops Q rest (a.put o.dst (.slice ad j c)) w) : wpList Try.prog ops Q (o :: rest) a w :=
  wpList_plain hg fun _ hK' => ow_takeD ad n c j h1 h2 hnil x y ho hx hy (hK' _ _ hK)
end
/-- a proof with another number of hashes is not verified -/
theorem vrC_no {m n : Nat} {d r : List UInt8} {P : List (List UInt8)} (h : P.length ≠ (cL m n).length) : vrC m n d r P = false := by
  unfold vrC
  by_cases h0 : m = 0
  · subst h0
    rw [cL_zero] at h
    rw [if_pos rfl, decide_eq_false (show ¬ (P.length = 0) from h)]
    simp
  · rw [if_neg h0]
    have : okT m n P.length = false := by
      unfold okT
      rw [decide_eq_false (show ¬ ((cL m n).length = P.length) from fun e => h e.symm)]
      simp
    rw [this, Bool.false_and]
theorem cE_own {m n : Nat} (h20 : n ≤ 1048576) (hm : m ≤ n) : cE m n = 0 := by
  have hc : okC m n = true := by simp [okC]; omega
  unfold cE
  rw [hc]
  rfl
theorem tdE_own {L : List (List UInt8)} {m : Nat} (h20 : L.length ≤ 1048576) (h1 : 1 ≤ m) (hm : m ≤ L.length) : tdE m L.length (qL L m).length = 0 := by
  unfold tdE
  rw [okT_own h20 h1 hm]
  rfl
end Go.Proofs.Ytcnnblhjgligbaa
