/-
  The document's letters and numbers. Conditions: those in each statement.
-/
import Derived.Test.YtpfhbkjjijmpaaaBaseP
import Derived.Deep.DeepCutAuto
import Derived.Deep.CutBlock
import Derived.StillTailTactics
namespace Go.Proofs.Ytpfhbkjjijmpaaa
open Go.RowKit

theorem ret_u8 {a b : Int} (h : a = b) : Ending.returned (.int .u8 a) = .returned (.int .u8 b) := by rw [h]
theorem ret_i64 {a b : Int} (h : a = b) : Ending.returned (.int .i64 a) = .returned (.int .i64 b) := by rw [h]

theorem ltr_nat : ∀ n : Fin 64, ((ltr n).toNat : Int) = if n.val < 26 then (65 : Int) + n.val else if n.val < 52 then (71 : Int) + n.val else if n.val < 62 then (n.val : Int) - 4 else if n.val = 62 then 43 else 47 := by decide +kernel

theorem rletter_any (n : Nat) (w : World) (hn : n < 64) : Calls Try.prog 23 #[.int .i64 (n : Int)] w fun e w' => e = .returned (.int .u8 ((ltr n).toNat : Int)) ∧ w = w' := by
  have hl := ltr_nat ⟨n, hn⟩
  simp only at hl
  rw [hl]
  clear hl
  by_cases h1 : n < 26
  · have h1' : (n : Int) < 26 := by omega
    rw [if_pos h1]
    go_enter Try.func23, Try.ntmps23
    go_wp2
    go_ret
    exact ⟨ret_u8 (by first | rfl | omega), rfl⟩
  · have h1' : ¬ (n : Int) < 26 := by omega
    rw [if_neg h1]
    by_cases h2 : n < 52
    · have h2' : (n : Int) < 52 := by omega
      rw [if_pos h2]
      go_enter Try.func23, Try.ntmps23
      go_wp2
      go_ret
      exact ⟨ret_u8 (by first | rfl | omega), rfl⟩
    · have h2' : ¬ (n : Int) < 52 := by omega
      rw [if_neg h2]
      by_cases h3 : n < 62
      · have h3' : (n : Int) < 62 := by omega
        rw [if_pos h3]
        go_enter Try.func23, Try.ntmps23
        go_wp2
        go_ret
        exact ⟨ret_u8 (by first | rfl | omega), rfl⟩
      · have h3' : ¬ (n : Int) < 62 := by omega
        rw [if_neg h3]
        by_cases h4 : n = 62
        · subst h4
          go_enter Try.func23, Try.ntmps23
          go_wp2
          go_ret
          exact ⟨rfl, rfl⟩
        · have h4' : ¬ (n : Int) = 62 := by omega
          rw [if_neg h4]
          go_enter Try.func23, Try.ntmps23
          go_wp2
          go_ret
          exact ⟨rfl, rfl⟩

/-- a letter's number; -1 of what is none -/
def numI (c : UInt8) : Int := if isL c = true then (num c : Int) else -1
theorem rnumber_any (c : UInt8) (w : World) : Calls Try.prog 15 #[.int .u8 (c.toNat : Int)] w fun e w' => e = .returned (.int .i64 (numI c)) ∧ w = w' := by
  go_enter Try.func15, Try.ntmps15
  go_wp2_with fail
  go_loopw [3] (fun i wr => ∃ k : Nat, k ≤ 64 ∧ i = .int .i64 k ∧ Hid (∀ j, j < k → ltr j ≠ c) ∧ w = wr) (fun i _ => 64 - (intOf i).toNat)
  case atStart => exact ⟨0, by omega, rfl, fun j hj => by omega, rfl⟩
  case round =>
    obtain ⟨k, hk, rfl, HN, rfl⟩ := hrel
    by_cases hlt : k < 64
    · have hc : (k : Int) < 64 := by omega
      have hlet := Lib.hid (rletter_any k w hlt)
      by_cases he : ltr k = c
      · have hisL := ltr_isL hlt
        have hnum := num_ltr hlt
        rw [he] at hisL hnum
        have hI : Hid (numI c = (k : Int)) := by show _ = _; unfold numI; rw [if_pos hisL, hnum]
        have he2 : ((ltr k).toNat : Int) = (c.toNat : Int) := by rw [he]
        clear hisL hnum he
        go_wp2_with (go_at_call 23; refine hlet.out.mono ?_; rintro e w1 ⟨rfl, rfl⟩)
        go_ret
        exact ⟨ret_i64 hI.out.symm, rfl⟩
      · have he2 : ¬ ((ltr k).toNat : Int) = (c.toNat : Int) := fun e => he (UInt8.toNat_inj.1 (by omega))
        have HE := Lib.hid he
        clear he
        go_wp2_with (go_at_call 23; refine hlet.out.mono ?_; rintro e w1 ⟨rfl, rfl⟩)
        go_roundw
        case rel => exact ⟨k + 1, by omega, by go_num, fun j hj => by
          by_cases hjk : j = k
          · subst hjk; exact HE.out
          · exact HN.out j (by omega), trivial⟩
        case measure => simp [intOf] <;> omega
    · have hc : ¬ (k : Int) < 64 := by omega
      have hI : Hid (numI c = -1) := by
        show _ = _
        unfold numI
        rw [if_neg]
        intro h
        exact HN.out (num c) (by have := num_lt h; omega) (ltr_num h)
      go_wp2_with fail
      go_ret
      exact ⟨ret_i64 hI.out.symm, rfl⟩
end Go.Proofs.Ytpfhbkjjijmpaaa
