/-
  The constants as roots of primes, reckoned; Write and Len of no state. Conditions: those in each statement.
-/
import Derived.Test.YtgippimoklefnaaRoot
import Derived.Test.YtgippimoklefnaaShaO
import Derived.Test.YtgippimoklefnaaDig
namespace Go.Proofs.Ytgippimoklefnaa
open Go.RowKit

def chk3 : Nat → Bool
  | 0 => true
  | m + 1 => chk3 m && (!prB (m + 2) m || decide (rootN (m + 2) 3 38 % 4294967296 = (K64.getD (prC m) 0).toNat))
def chk2 : Nat → Bool
  | 0 => true
  | m + 1 => chk2 m && (!prB (m + 2) m || decide (rootN (m + 2) 2 38 % 4294967296 = (H0.getD (prC m) 0).toNat))
theorem chk3_310 : chk3 310 = true := by decide +kernel
theorem chk2_18 : chk2 18 = true := by decide +kernel
theorem chk3_at {N : Nat} (h : chk3 N = true) : ∀ m, m < N → prB (m + 2) m = true → rootN (m + 2) 3 38 % 4294967296 = (K64.getD (prC m) 0).toNat := by
  induction N with
  | zero => intro m h; omega
  | succ N ih =>
    intro m hm hp
    simp only [chk3, Bool.and_eq_true, Bool.or_eq_true, Bool.not_eq_true', decide_eq_true_eq] at h
    by_cases he : m = N
    · subst he
      rcases h.2 with h2 | h2
      · rw [hp] at h2; cases h2
      · exact h2
    · exact ih h.1 m (by omega) hp
theorem chk2_at {N : Nat} (h : chk2 N = true) : ∀ m, m < N → prB (m + 2) m = true → rootN (m + 2) 2 38 % 4294967296 = (H0.getD (prC m) 0).toNat := by
  induction N with
  | zero => intro m h; omega
  | succ N ih =>
    intro m hm hp
    simp only [chk2, Bool.and_eq_true, Bool.or_eq_true, Bool.not_eq_true', decide_eq_true_eq] at h
    by_cases he : m = N
    · subst he
      rcases h.2 with h2 | h2
      · rw [hp] at h2; cases h2
      · exact h2
    · exact ih h.1 m (by omega) hp
theorem prC_18 : prC 18 = 8 := by decide +kernel

theorem Write_nil (a : Option Addr) (n cap : Nat) (w : World) : Calls Try.prog 13 #[.pointer none, .slice a n cap] w fun e w' => e = .returned (.tuple #[]) ∧ w = w' := by
  go_enter Try.func13, Try.ntmps13
  go_wp2_with (go_at_call 27; refine (is_nil _).mono ?_; rintro e w1 ⟨rfl, rfl⟩)
  refine bodyPost_ret (results_none rfl _ _ _) rfl ?_
  exact ⟨rfl, rfl⟩
theorem Write_zero (r : Nat) (a : Option Addr) (n cap : Nat) (w : World) (hc : w.cell? ⟨r, 0, none⟩ = some (.bool false)) : Calls Try.prog 13 #[.pointer (some ⟨r, 0, none⟩), .slice a n cap] w fun e w' => e = .returned (.tuple #[]) ∧ w = w' := by
  go_enter Try.func13, Try.ntmps13
  go_wp2_with (go_at_call 27; refine (is_zero _ _ hc).mono ?_; rintro e w1 ⟨rfl, rfl⟩)
  refine bodyPost_ret (results_none rfl _ _ _) rfl ?_
  exact ⟨rfl, rfl⟩
theorem Len_nil (w : World) : Calls Try.prog 14 #[.pointer none] w fun e w' => e = .returned (.int .u64 0) ∧ w = w' := by
  go_enter Try.func14, Try.ntmps14
  go_wp2_with (go_at_call 27; refine (is_nil _).mono ?_; rintro e w1 ⟨rfl, rfl⟩)
  go_ret
  exact ⟨rfl, rfl⟩
theorem Len_zero (r : Nat) (w : World) (hc : w.cell? ⟨r, 0, none⟩ = some (.bool false)) : Calls Try.prog 14 #[.pointer (some ⟨r, 0, none⟩)] w fun e w' => e = .returned (.int .u64 0) ∧ w = w' := by
  go_enter Try.func14, Try.ntmps14
  go_wp2_with (go_at_call 27; refine (is_zero _ _ hc).mono ?_; rintro e w1 ⟨rfl, rfl⟩)
  go_ret
  exact ⟨rfl, rfl⟩

/-- the i-th prime: its root is the i-th constant -/
theorem prime3 (i : Nat) (hi : i < 64) (w : World) : Calls Try.prog 24 #[.int .i64 (i : Int)] w fun e w' => (∃ p, p < 65536 ∧ Hid (rootN p 3 38 % 4294967296 = (K64.getD i 0).toNat) ∧ e = .returned (.int .u64 (p : Int))) ∧ Below w.heap.size w w' :=
  (Prime_any i w hi).mono fun e w' ⟨⟨k, h1, h2, h3, h4⟩, hb⟩ => ⟨⟨k + 2, by omega, by
    have := chk3_at chk3_310 k h1 h2
    rw [h3] at this
    exact this, h4⟩, hb⟩
theorem prime2 (i : Nat) (hi : i < 8) (w : World) : Calls Try.prog 24 #[.int .i64 (i : Int)] w fun e w' => (∃ p, p < 65536 ∧ Hid (rootN p 2 38 % 4294967296 = (H0.getD i 0).toNat) ∧ e = .returned (.int .u64 (p : Int))) ∧ Below w.heap.size w w' :=
  (Prime_any i w (by omega)).mono fun e w' ⟨⟨k, h1, h2, h3, h4⟩, hb⟩ => ⟨⟨k + 2, by omega, by
    have h18 : k < 18 := by
      rcases Nat.lt_or_ge k 18 with h | h
      · exact h
      · have := prC_mono (k - 18) 18
        rw [prC_18, show 18 + (k - 18) = k by omega] at this
        omega
    have := chk2_at chk2_18 k h18 h2
    rw [h3] at this
    exact this, h4⟩, hb⟩
theorem root3 (p v : Nat) (w : World) (hp : p < 65536) (hv : rootN p 3 38 % 4294967296 = v) : Calls Try.prog 23 #[.int .u64 (p : Int), .int .i64 3] w fun e w' => e = .returned (.int .u32 (v : Int)) ∧ Below w.heap.size w w' := by
  have := Root_any p 3 w hp (.inr rfl)
  rw [hv] at this
  exact this
theorem root2 (p v : Nat) (w : World) (hp : p < 65536) (hv : rootN p 2 38 % 4294967296 = v) : Calls Try.prog 23 #[.int .u64 (p : Int), .int .i64 2] w fun e w' => e = .returned (.int .u32 (v : Int)) ∧ Below w.heap.size w w' := by
  have := Root_any p 2 w hp (.inl rfl)
  rw [hv] at this
  exact this
end Go.Proofs.Ytgippimoklefnaa
