/-
  The program's fitsKind. Conditions: those in each statement.
-/
import Derived.Test.YtehlgflpkofooaaDoorJsonG
namespace Go.Proofs.YtehlgflpkofooaaDoor
open Go.RowKit

/-- nothing that its kind has not -/
def fitsB (k : Int) (n sl ll kl : Nat) : Bool :=
  decide (0 ≤ k) && decide (k ≤ 6) && (decide (n = 0) || decide (k = 3)) && (decide (sl = 0) || decide (k = 4)) && (decide (ll = 0) || (decide (k = 5) || decide (k = 6))) && (decide (kl = 0) || decide (k = 6))

set_option maxRecDepth 100000 in
set_option maxHeartbeats 4000000 in
theorem fitsKind_any (k : Int) (s : List UInt8) (n ll lc kl kc : Nat) (a b : Option Addr) (w : World) :
    Calls Tryd.prog 42 #[.agg #[.int .i64 k, .string (bstr s), .int .u64 (n : Int), .slice a ll lc, .slice b kl kc]] w
      fun e w' => e = .returned (.bool (fitsB k n s.length ll kl)) ∧ Below w.heap.size w w' := by
  have hE : (bstr s).toList.isEmpty = decide (s.length = 0) := by rw [bstr_toList]; cases s <;> simp
  have hk : (k < 0 ∨ 6 < k ∨ k = 0) ∨ (k = 1 ∨ k = 2 ∨ k = 3) ∨ (k = 4 ∨ k = 5 ∨ k = 6) := by omega
  generalize bstr s = S at *
  generalize s.length = sl at *
  rcases hk with (hk | hk | rfl) | (rfl | rfl | rfl) | (rfl | rfl | rfl)
  · have h1 : ¬ 0 ≤ k := by omega
    have hr : fitsB k n sl ll kl = false := by unfold fitsB; rw [decide_eq_false h1]; rfl
    rw [hr]
    clear hr hE
    go_enter Tryd.func42, Tryd.ntmps42
    go_wp2
    go_ret
    exact ⟨rfl, (Below.refl _ _).alloc (Nat.le_refl _) _⟩
  · have h1 : ¬ k ≤ 6 := by omega
    have h0 : 0 ≤ k := by omega
    have hr : fitsB k n sl ll kl = false := by unfold fitsB; rw [decide_eq_false h1]; simp
    rw [hr]
    clear hr hE
    go_enter Tryd.func42, Tryd.ntmps42
    go_wp2
    go_ret
    exact ⟨rfl, (Below.refl _ _).alloc (Nat.le_refl _) _⟩
  · go_enter Tryd.func42, Tryd.ntmps42
    go_wp2
    all_goals
      go_ret
      exact ⟨congrArg (fun x => Ending.returned (.bool x)) (by unfold fitsB; simp [*] <;> omega), (Below.refl _ _).alloc (Nat.le_refl _) _⟩
  · go_enter Tryd.func42, Tryd.ntmps42
    go_wp2
    all_goals
      go_ret
      exact ⟨congrArg (fun x => Ending.returned (.bool x)) (by unfold fitsB; simp [*] <;> omega), (Below.refl _ _).alloc (Nat.le_refl _) _⟩
  · go_enter Tryd.func42, Tryd.ntmps42
    go_wp2
    all_goals
      go_ret
      exact ⟨congrArg (fun x => Ending.returned (.bool x)) (by unfold fitsB; simp [*] <;> omega), (Below.refl _ _).alloc (Nat.le_refl _) _⟩
  · go_enter Tryd.func42, Tryd.ntmps42
    go_wp2
    all_goals
      go_ret
      exact ⟨congrArg (fun x => Ending.returned (.bool x)) (by unfold fitsB; simp [*] <;> omega), (Below.refl _ _).alloc (Nat.le_refl _) _⟩
  · go_enter Tryd.func42, Tryd.ntmps42
    go_wp2
    all_goals
      go_ret
      exact ⟨congrArg (fun x => Ending.returned (.bool x)) (by unfold fitsB; simp [*] <;> omega), (Below.refl _ _).alloc (Nat.le_refl _) _⟩
  · go_enter Tryd.func42, Tryd.ntmps42
    go_wp2
    all_goals
      go_ret
      exact ⟨congrArg (fun x => Ending.returned (.bool x)) (by unfold fitsB; simp [*] <;> omega), (Below.refl _ _).alloc (Nat.le_refl _) _⟩
  · go_enter Tryd.func42, Tryd.ntmps42
    go_wp2
    all_goals
      go_ret
      exact ⟨congrArg (fun x => Ending.returned (.bool x)) (by unfold fitsB; simp [*] <;> omega), (Below.refl _ _).alloc (Nat.le_refl _) _⟩
end Go.Proofs.YtehlgflpkofooaaDoor
