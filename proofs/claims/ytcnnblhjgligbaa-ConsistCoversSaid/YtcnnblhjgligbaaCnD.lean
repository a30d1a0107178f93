/-
  Layer 11: rows of ranges held against each other. Conditions: those in each statement.
-/
import Derived.Test.YtcnnblhjgligbaaCnC
namespace Go.Proofs.Ytcnnblhjgligbaa
open Go.RowKit

set_option maxRecDepth 100000 in
set_option maxHeartbeats 3200000 in
/-- the same ranges are told as the same -/
theorem sameC_any (L : List (Nat × Nat)) (ua va : Option Addr) (n uc vc : Nat) (w : World) (hu : RdG 2 encR w ua n uc L) (hv : RdG 2 encR w va n vc L) (hn : n ≤ 2 ^ 50) :
    Calls Try.prog 13 #[.slice ua n uc, .slice va n vc] w fun e w' => e = .returned (.bool true) ∧ Below w.heap.size w w' := by
  have hl := hu.len
  go_enter Try.func13, Try.ntmps13
  go_wp2
  go_loopw [13] (fun i wr => ∃ k : Nat, k ≤ n ∧ i = .int .i64 (k : Int) ∧ Below w.heap.size w wr) (fun i _ => n - (intOf i).toNat)
  case atStart => exact ⟨0, Nat.zero_le _, rfl, Below.refl _ _⟩
  case round =>
    obtain ⟨k, hk, rfl, hB⟩ := hrel
    by_cases hlt : k < n
    · obtain ⟨ub, uo, rfl, hub, hu2⟩ := hu.mem (by omega)
      obtain ⟨vb, vo, rfl, hvb, hv2⟩ := hv.mem (by omega)
      have u0 := (hB.cell (p := ⟨ub, uo + k * 2 + 0, none⟩) hub).trans (hu2 k (by omega) 0 _ rfl)
      have u1 := (hB.cell (p := ⟨ub, uo + k * 2 + 1, none⟩) hub).trans (hu2 k (by omega) 1 _ rfl)
      have v0 := (hB.cell (p := ⟨vb, vo + k * 2 + 0, none⟩) hvb).trans (hv2 k (by omega) 0 _ rfl)
      have v1 := (hB.cell (p := ⟨vb, vo + k * 2 + 1, none⟩) hvb).trans (hv2 k (by omega) 1 _ rfl)
      rw [Nat.add_zero] at u0 v0
      have hc : (k : Int) < (n : Int) := by omega
      clear hu2 hv2 hu hv
      generalize L[k].1 = x at *
      generalize L[k].2 = y at *
      have HL := Lib.hid hl
      have HLT := Lib.hid hlt
      clear hl hlt
      go_upto_region 6 with fail
      go_region
      all_goals go_wp2
      all_goals go_roundw
      case rel => exact ⟨k + 1, HLT.out, by go_num, hB.drew⟩
      case measure => simp [intOf]; omega
    · obtain rfl : k = n := by omega
      have hc : ¬ ((k : Int) < (k : Int)) := by omega
      clear hu hv
      go_wp2
      go_ret
      exact ⟨rfl, hB⟩
end Go.Proofs.Ytcnnblhjgligbaa
