/-
  ConsistRanges as a call. Conditions: those in each statement.
-/
import Derived.Test.YtcnnblhjgligbaaCnN
namespace Go.Proofs.Ytcnnblhjgligbaa
open Go.RowKit

set_option maxRecDepth 100000 in
set_option maxHeartbeats 1600000 in
theorem LRanges_any (i s : Nat) (w : World) :
    Calls Try.prog 3 #[.int .u64 (i : Int), .int .u64 (s : Int)] w fun e w' => e = .returned (.bool true) ∧ Below w.heap.size w w' := by
  have HA := Lib.hid (fun w => RangesC_any i s w)
  have HB := Lib.hid (fun w => rRangesC_any i s w)
  have HW := Lib.hid (fun w => awakeC_any w)
  have hlen := cL_few i s
  have hE : ∃ E, E = cE i s := ⟨_, rfl⟩
  obtain ⟨E, hE⟩ := hE
  rw [← hE] at HA HB
  have HSm := Lib.hid (fun ua va n uc vc w hu hv hn => sameC_any (cL i s) ua va n uc vc w hu hv hn)
  generalize cL i s = L at *
  have hlen' := Lib.hid hlen
  clear hE hlen
  go_enter Try.func3, Try.ntmps3
  go_wp2_with (first
    | (go_at_call 10; refine (HA.out _).mono ?_; rintro e w1 ⟨v1, rfl, hO1, hb1⟩; obtain ⟨a1, c1, rfl, hR1, -⟩ := hO1.rd (by omega))
    | (go_at_call 11; refine (HB.out _).mono ?_; rintro e w2 ⟨v2, rfl, hO2, hb2⟩; obtain ⟨a2, c2, rfl, hR2, -⟩ := hO2.rd (by omega))
    | (go_at_call 12; refine (HW.out _).mono ?_; rintro e w3 ⟨rfl, hb3⟩)
    | (go_at_call 13; refine (HSm.out _ _ _ _ _ _ ((hR1.to hb2).to hb3) (hR2.to hb3) (by have := hlen'.out; omega)).mono ?_; rintro e w4 ⟨rfl, hb4⟩))
  go_ret
  have z1 := hb1.size
  have z2 := hb2.size
  have z3 := hb3.size
  exact ⟨rfl, ((hb1.trans (hb2.mono z1)).trans (hb3.mono (by omega))).trans (hb4.mono (by omega))⟩
end Go.Proofs.Ytcnnblhjgligbaa
