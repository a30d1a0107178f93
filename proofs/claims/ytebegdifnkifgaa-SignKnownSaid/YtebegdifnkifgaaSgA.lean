/-
  Layer 6: what a signature is, plainly; which keys may be; what a mark begins with; the hash of a byte and parts. Conditions: those in each statement.
-/
import Derived.Test.YtebegdifnkifgaaShaJ
import Derived.Test.YtebegdifnkifgaaDig
import Derived.Test.YtebegdifnkifgaaReg
namespace Go.Proofs.Ytebegdifnkifgaa
open Go.RowKit

def mayB (n : Nat) : Bool := decide (1 ≤ n) && decide (n ≤ 64)
theorem mayB_le {n : Nat} (h : mayB n = true) : 1 ≤ n ∧ n ≤ 64 := by simpa [mayB] using h
theorem mayB_not {n : Nat} (h : mayB n = false) : n = 0 ∨ 64 < n := by
  simp [mayB] at h
  omega

theorem May_any (a : Option Addr) (n cap : Nat) (w : World) (hn : n ≤ 140737488355328) :
    Calls Try.prog 12 #[.slice a n cap] w fun e w' => e = .returned (.bool (mayB n)) ∧ w = w' := by
  by_cases h1 : 1 ≤ n
  · by_cases h2 : n ≤ 64
    · have hm : mayB n = true := by simp [mayB, h1, h2]
      rw [hm]
      clear hm
      have g1 : (1 : Int) ≤ (n : Int) := by omega
      have g2 : (n : Int) ≤ 64 := by omega
      go_enter Try.func12, Try.ntmps12
      go_wp2
      go_ret
      exact ⟨rfl, rfl⟩
    · have hm : mayB n = false := by simp [mayB, h2]
      rw [hm]
      clear hm
      have g1 : (1 : Int) ≤ (n : Int) := by omega
      have g2 : ¬ (n : Int) ≤ 64 := by omega
      go_enter Try.func12, Try.ntmps12
      go_wp2
      go_ret
      exact ⟨rfl, rfl⟩
  · have hm : mayB n = false := by simp [mayB, h1]
    rw [hm]
    clear hm
    have g1 : ¬ (1 : Int) ≤ (n : Int) := by omega
    go_enter Try.func12, Try.ntmps12
    go_wp2
    go_ret
    exact ⟨rfl, rfl⟩

theorem rMay_any (a : Option Addr) (n cap : Nat) (w : World) (hn : n ≤ 140737488355328) :
    Calls Try.prog 13 #[.slice a n cap] w fun e w' => e = .returned (.bool (mayB n)) ∧ w = w' := by
  by_cases h1 : 1 ≤ n
  · by_cases h2 : n ≤ 64
    · have hm : mayB n = true := by simp [mayB, h1, h2]
      rw [hm]
      clear hm
      have g1 : (0 : Int) < (n : Int) := by omega
      have g2 : (n : Int) ≤ 64 := by omega
      go_enter Try.func13, Try.ntmps13
      go_wp2
      go_ret
      exact ⟨rfl, rfl⟩
    · have hm : mayB n = false := by simp [mayB, h2]
      rw [hm]
      clear hm
      have g1 : (0 : Int) < (n : Int) := by omega
      have g2 : ¬ (n : Int) ≤ 64 := by omega
      go_enter Try.func13, Try.ntmps13
      go_wp2
      go_ret
      exact ⟨rfl, rfl⟩
  · have hm : mayB n = false := by simp [mayB, h1]
    rw [hm]
    clear hm
    have g1 : ¬ (0 : Int) < (n : Int) := by omega
    go_enter Try.func13, Try.ntmps13
    go_wp2
    go_ret
    exact ⟨rfl, rfl⟩

def mhead : List UInt8 := [8, 7, 0, 64]
theorem markHead_any (w : World) :
    Calls Try.prog 25 #[] w fun e w' => ∃ v, e = .returned v ∧ Own w' w.heap.size 5 v mhead ∧ Below w.heap.size w w' := by
  go_enter Try.func25, Try.ntmps25
  go_wp2
  go_ret
  exact ⟨_, rfl, World.ownsRow_lit (base := w.heap.size) (e := 5) (size := 1) w (mhead.map bv).toArray 4 (Nat.le_refl _) (by unfold maxLen; omega) (by simp [mhead]), (Below.refl _ _).alloc (Nat.le_refl _) _⟩
end Go.Proofs.Ytebegdifnkifgaa
