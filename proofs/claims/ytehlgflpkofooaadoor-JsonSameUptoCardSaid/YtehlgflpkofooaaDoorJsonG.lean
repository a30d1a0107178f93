/-
  The program's small functions on values. Conditions: those in each statement.
-/
import Derived.Test.YtehlgflpkofooaaDoorJsonD
namespace Go.Proofs.YtehlgflpkofooaaDoor
open Go.RowKit

theorem holdsOthers_any (k : Int) (w : World) : Calls Tryd.prog 44 #[.int .i64 k] w fun e w' => e = .returned (.bool (decide (k = 5) || decide (k = 6))) ∧ w' = w := by
  by_cases h5 : k = 5
  · subst h5
    go_enter Tryd.func44, Tryd.ntmps44
    go_wp2
    go_ret
    exact ⟨rfl, rfl⟩
  · by_cases h6 : k = 6
    · subst h6
      go_enter Tryd.func44, Tryd.ntmps44
      go_wp2
      go_ret
      exact ⟨rfl, rfl⟩
    · have e5 : (k == 5) = false := beq_eq_false_iff_ne.2 h5
      have e6 : (k == 6) = false := beq_eq_false_iff_ne.2 h6
      rw [decide_eq_false h5, decide_eq_false h6]
      go_enter Tryd.func44, Tryd.ntmps44
      go_wp2
      go_ret
      exact ⟨rfl, rfl⟩

theorem lastSign_any (k : Int) (w : World) : Calls Tryd.prog 50 #[.int .i64 k] w fun e w' => e = .returned (.int .u8 (if k = 6 then 125 else 93)) ∧ w' = w := by
  by_cases h6 : k = 6
  · subst h6
    go_enter Tryd.func50, Tryd.ntmps50
    go_wp2
    go_ret
    exact ⟨rfl, rfl⟩
  · have e6 : (k == 6) = false := beq_eq_false_iff_ne.2 h6
    rw [if_neg h6]
    go_enter Tryd.func50, Tryd.ntmps50
    go_wp2
    go_ret
    exact ⟨rfl, rfl⟩

theorem isHigh_any (n : Nat) (hn : n < 2147483648) (w : World) : Calls Tryd.prog 72 #[.int .i32 (n : Int)] w fun e w' => e = .returned (.bool (decide (55296 ≤ n) && decide (n ≤ 56319))) ∧ w' = w := by
  by_cases h1 : 55296 ≤ n
  · have i1 : (55296 : Int) ≤ (n : Int) := by omega
    by_cases h2 : n ≤ 56319
    · have i2 : (n : Int) ≤ 56319 := by omega
      rw [decide_eq_true h1, decide_eq_true h2]
      go_enter Tryd.func72, Tryd.ntmps72
      go_wp2
      go_ret
      exact ⟨rfl, rfl⟩
    · have i2 : ¬ (n : Int) ≤ 56319 := by omega
      rw [decide_eq_true h1, decide_eq_false h2]
      go_enter Tryd.func72, Tryd.ntmps72
      go_wp2
      go_ret
      exact ⟨rfl, rfl⟩
  · have i1 : ¬ (55296 : Int) ≤ (n : Int) := by omega
    rw [decide_eq_false h1]
    go_enter Tryd.func72, Tryd.ntmps72
    go_wp2
    go_ret
    exact ⟨rfl, rfl⟩

theorem words_any (w : World) : Calls Tryd.prog 34 #[] w fun e w' => e = .returned (.agg #[.string ⟨#[110, 117, 108, 108]⟩, .string ⟨#[102, 97, 108, 115, 101]⟩, .string ⟨#[116, 114, 117, 101]⟩]) ∧ Below w.heap.size w w' := by
  go_enter Tryd.func34, Tryd.ntmps34
  go_wp2
  exact bodyPost_ret (v := .agg #[.string ⟨#[110, 117, 108, 108]⟩, .string ⟨#[102, 97, 108, 115, 101]⟩, .string ⟨#[116, 114, 117, 101]⟩]) (by simp [results, Tryd.results34, go_sem]) rfl ⟨rfl, (Below.refl _ _).alloc (Nat.le_refl _) _⟩

theorem isLow_any (n : Nat) (hn : n < 2147483648) (w : World) : Calls Tryd.prog 73 #[.int .i32 (n : Int)] w fun e w' => e = .returned (.bool (decide (56320 ≤ n) && decide (n ≤ 57343))) ∧ w' = w := by
  by_cases h1 : 56320 ≤ n
  · have i1 : (56320 : Int) ≤ (n : Int) := by omega
    by_cases h2 : n ≤ 57343
    · have i2 : (n : Int) ≤ 57343 := by omega
      rw [decide_eq_true h1, decide_eq_true h2]
      go_enter Tryd.func73, Tryd.ntmps73
      go_wp2
      go_ret
      exact ⟨rfl, rfl⟩
    · have i2 : ¬ (n : Int) ≤ 57343 := by omega
      rw [decide_eq_true h1, decide_eq_false h2]
      go_enter Tryd.func73, Tryd.ntmps73
      go_wp2
      go_ret
      exact ⟨rfl, rfl⟩
  · have i1 : ¬ (56320 : Int) ≤ (n : Int) := by omega
    rw [decide_eq_false h1]
    go_enter Tryd.func73, Tryd.ntmps73
    go_wp2
    go_ret
    exact ⟨rfl, rfl⟩

/-- where a list stands -/
def placeV (a : Option Addr) (n : Nat) : Value := if n = 0 then .agg #[.pointer none, .int .i64 0] else .agg #[.pointer a, .int .i64 (n : Int)]
theorem placeOf_any (a : Option Addr) (n c : Nat) (w : World) (hn : n ≤ 9223372036854775807) (ha : 0 < n → ∃ b off, a = some ⟨b, off, none⟩) :
    Calls Tryd.prog 33 #[.slice a n c] w fun e w' => e = .returned (placeV a n) ∧ Below w.heap.size w w' := by
  unfold placeV
  by_cases h0 : n = 0
  · rw [if_pos h0]
    have i0 : (n : Int) = 0 := by omega
    subst h0
    go_enter Tryd.func33, Tryd.ntmps33
    go_wp2
    exact bodyPost_ret (v := .agg #[.pointer none, .int .i64 0]) (by simp [results, Tryd.results33, go_sem]) rfl ⟨rfl, (Below.refl _ _).alloc (Nat.le_refl _) _⟩
  · rw [if_neg h0]
    obtain ⟨b, off, rfl⟩ := ha (by omega)
    have i0 : ((n : Int) == 0) = false := beq_eq_false_iff_ne.2 (by omega)
    have i1 : (0 : Int) < (n : Int) := by omega
    have i2 : 0 < n := by omega
    clear h0
    go_enter Tryd.func33, Tryd.ntmps33
    go_wp2
    exact bodyPost_ret (v := .agg #[.pointer (some ⟨b, off, none⟩), .int .i64 (n : Int)]) (by simp [results, Tryd.results33, go_sem]) rfl ⟨rfl, (Below.refl _ _).alloc (Nat.le_refl _) _⟩
theorem digit_yes (c d : Nat) (hc : c < 256) (h : (48 ≤ c ∧ c ≤ 57 ∧ d = c - 48) ∨ (97 ≤ c ∧ c ≤ 102 ∧ d = c - 87) ∨ (65 ≤ c ∧ c ≤ 70 ∧ d = c - 55)) (w : World) :
    Calls Tryd.prog 87 #[.int .u8 (c : Int)] w fun e w' => e = .returned (.tuple #[.int .i32 (d : Int), .bool true]) ∧ w' = w := by
  rcases h with ⟨h1, h2, h3⟩ | ⟨h1, h2, h3⟩ | ⟨h1, h2, h3⟩
  · have i1 : (48 : Int) ≤ (c : Int) := by omega
    have i2 : (c : Int) ≤ 57 := by omega
    have e : (d : Int) = (c : Int) - 48 := by omega
    rw [e]
    clear h3 h1 h2 e
    go_enter Tryd.func87, Tryd.ntmps87
    go_wp2
    go_ret2
    exact ⟨rfl, rfl⟩
  · have i1 : (97 : Int) ≤ (c : Int) := by omega
    have i2 : (c : Int) ≤ 102 := by omega
    have i3 : (48 : Int) ≤ (c : Int) := by omega
    have i4 : ¬ (c : Int) ≤ 57 := by omega
    have e : (d : Int) = (c : Int) - 97 + 10 := by omega
    rw [e]
    clear h3 h1 h2 e
    go_enter Tryd.func87, Tryd.ntmps87
    go_wp2
    go_ret2
    exact ⟨rfl, rfl⟩
  · have i1 : (65 : Int) ≤ (c : Int) := by omega
    have i2 : (c : Int) ≤ 70 := by omega
    have i3 : (48 : Int) ≤ (c : Int) := by omega
    have i4 : ¬ (c : Int) ≤ 57 := by omega
    have i5 : ¬ (97 : Int) ≤ (c : Int) := by omega
    have e : (d : Int) = (c : Int) - 65 + 10 := by omega
    rw [e]
    clear h3 h1 h2 e
    go_enter Tryd.func87, Tryd.ntmps87
    go_wp2
    go_ret2
    exact ⟨rfl, rfl⟩
theorem digit_no (c : Nat) (hc : c < 256) (h1 : ¬ (48 ≤ c ∧ c ≤ 57)) (h2 : ¬ (97 ≤ c ∧ c ≤ 102)) (h3 : ¬ (65 ≤ c ∧ c ≤ 70)) (w : World) :
    Calls Tryd.prog 87 #[.int .u8 (c : Int)] w fun e w' => e = .returned (.tuple #[.int .i32 0, .bool false]) ∧ w' = w := by
  have hk : ((¬ (48 : Int) ≤ (c : Int) ∧ ¬ (97 : Int) ≤ (c : Int) ∧ ¬ (65 : Int) ≤ (c : Int)) ∨ ((48 : Int) ≤ (c : Int) ∧ ¬ (c : Int) ≤ 57 ∧ ¬ (97 : Int) ≤ (c : Int) ∧ ¬ (65 : Int) ≤ (c : Int))) ∨ (((48 : Int) ≤ (c : Int) ∧ ¬ (c : Int) ≤ 57 ∧ ¬ (97 : Int) ≤ (c : Int) ∧ (65 : Int) ≤ (c : Int) ∧ ¬ (c : Int) ≤ 70) ∨ ((48 : Int) ≤ (c : Int) ∧ ¬ (c : Int) ≤ 57 ∧ (97 : Int) ≤ (c : Int) ∧ ¬ (c : Int) ≤ 102 ∧ (65 : Int) ≤ (c : Int) ∧ ¬ (c : Int) ≤ 70)) := by omega
  clear h1 h2 h3
  rcases hk with (⟨a1, a2, a3⟩ | ⟨a1, a2, a3, a4⟩) | (⟨a1, a2, a3, a4, a5⟩ | ⟨a1, a2, a3, a4, a5, a6⟩)
  all_goals
    go_enter Tryd.func87, Tryd.ntmps87
    go_wp2
    go_ret2
    exact ⟨rfl, rfl⟩

theorem meant_any (c : UInt8) (w : World) :
    Calls Tryd.prog 70 #[.int .u8 (c.toNat : Int)] w fun e w' => e = .returned (.tuple #[.int .u8 (((oneF c).getD 0).toNat : Int), .bool (oneF c).isSome]) ∧ w' = w := by
  have hlt := c.toNat_lt
  have hk : (c = 34 ∨ c = 92 ∨ c = 47 ∨ c = 98) ∨ (c = 102 ∨ c = 110 ∨ c = 114 ∨ c = 116) ∨ (c ≠ 34 ∧ c ≠ 92 ∧ c ≠ 47 ∧ c ≠ 98 ∧ c ≠ 102 ∧ c ≠ 110 ∧ c ≠ 114 ∧ c ≠ 116) := by
    by_cases a1 : c = 34 <;> by_cases a2 : c = 92 <;> by_cases a3 : c = 47 <;> by_cases a4 : c = 98 <;> by_cases a5 : c = 102 <;> by_cases a6 : c = 110 <;> by_cases a7 : c = 114 <;> by_cases a8 : c = 116 <;> simp_all
  rcases hk with (rfl | rfl | rfl | rfl) | (rfl | rfl | rfl | rfl) | ⟨a1, a2, a3, a4, a5, a6, a7, a8⟩
  · clear hlt
    rw [show ((UInt8.toNat 34 : Nat) : Int) = 34 from rfl]
    go_enter Tryd.func70, Tryd.ntmps70
    go_wp2
    go_ret2
    exact ⟨rfl, rfl⟩
  · clear hlt
    rw [show ((UInt8.toNat 92 : Nat) : Int) = 92 from rfl]
    go_enter Tryd.func70, Tryd.ntmps70
    go_wp2
    go_ret2
    exact ⟨rfl, rfl⟩
  · clear hlt
    rw [show ((UInt8.toNat 47 : Nat) : Int) = 47 from rfl]
    go_enter Tryd.func70, Tryd.ntmps70
    go_wp2
    go_ret2
    exact ⟨rfl, rfl⟩
  · clear hlt
    rw [show ((UInt8.toNat 98 : Nat) : Int) = 98 from rfl]
    go_enter Tryd.func70, Tryd.ntmps70
    go_wp2
    go_ret2
    exact ⟨rfl, rfl⟩
  · clear hlt
    rw [show ((UInt8.toNat 102 : Nat) : Int) = 102 from rfl]
    go_enter Tryd.func70, Tryd.ntmps70
    go_wp2
    go_ret2
    exact ⟨rfl, rfl⟩
  · clear hlt
    rw [show ((UInt8.toNat 110 : Nat) : Int) = 110 from rfl]
    go_enter Tryd.func70, Tryd.ntmps70
    go_wp2
    go_ret2
    exact ⟨rfl, rfl⟩
  · clear hlt
    rw [show ((UInt8.toNat 114 : Nat) : Int) = 114 from rfl]
    go_enter Tryd.func70, Tryd.ntmps70
    go_wp2
    go_ret2
    exact ⟨rfl, rfl⟩
  · clear hlt
    rw [show ((UInt8.toNat 116 : Nat) : Int) = 116 from rfl]
    go_enter Tryd.func70, Tryd.ntmps70
    go_wp2
    go_ret2
    exact ⟨rfl, rfl⟩
  have hn : oneF c = none := by unfold oneF; simp [a1, a2, a3, a4, a5, a6, a7, a8]
  rw [hn]
  have q : ∀ k : Nat, k < 256 → c ≠ UInt8.ofNat k → ((c.toNat : Int) == (k : Int)) = false := fun k hk h => beq_eq_false_iff_ne.2 (fun e => h (by apply UInt8.toNat_inj.1; rw [UInt8.toNat_ofNat', Nat.mod_eq_of_lt hk]; omega))
  have b1 := q 34 (by omega) a1
  have b2 := q 92 (by omega) a2
  have b3 := q 47 (by omega) a3
  have b4 := q 98 (by omega) a4
  have b5 := q 102 (by omega) a5
  have b6 := q 110 (by omega) a6
  have b7 := q 114 (by omega) a7
  have b8 := q 116 (by omega) a8
  push_cast at b1 b2 b3 b4 b5 b6 b7 b8
  generalize c.toNat = n at *
  clear q a1 a2 a3 a4 a5 a6 a7 a8 hn
  go_enter Tryd.func70, Tryd.ntmps70
  go_wp2
  go_ret2
  exact ⟨rfl, rfl⟩

theorem together_any (h l : Nat) (h1 : 55296 ≤ h) (h2 : h ≤ 56319) (l1 : 56320 ≤ l) (l2 : l ≤ 57343) (w : World) :
    Calls Tryd.prog 75 #[.int .i32 (h : Int), .int .i32 (l : Int)] w fun e w' => e = .returned (.int .i32 ((65536 + 1024 * (h - 55296) + (l - 56320) : Nat) : Int)) ∧ w' = w := by
  have e : ((65536 + 1024 * (h - 55296) + (l - 56320) : Nat) : Int) = 65536 + ((h : Int) - 55296) * 1024 + ((l : Int) - 56320) := by omega
  rw [e]
  have i1 : (55296 : Int) ≤ (h : Int) := by omega
  have i2 : (h : Int) ≤ 56319 := by omega
  have i3 : (56320 : Int) ≤ (l : Int) := by omega
  have i4 : (l : Int) ≤ 57343 := by omega
  clear e h1 h2 l1 l2
  go_enter Tryd.func75, Tryd.ntmps75
  go_wp2
  go_ret
  exact ⟨rfl, rfl⟩
end Go.Proofs.YtehlgflpkofooaaDoor
