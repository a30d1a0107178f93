/-
  The statement's side: any tile's name, any name's tile; how many hashes any size has. Conditions: those in each statement.
-/
import Derived.Test.YtfidajbenmgflaaDoorTiJ
import Derived.Test.YtfidajbenmgflaaDoorTrC
namespace Go.Proofs.YtfidajbenmgflaaDoor
open Go.RowKit

set_option maxRecDepth 100000 in
set_option maxHeartbeats 3200000 in
theorem Names_any (l : Int) (n : Nat) (v : Int) (s : List UInt8) (z : Nat) (w : World) (hT : Tabs w)
    (h1 : -9223372036854775808 ≤ l) (h2 : l ≤ 9223372036854775807) (h3 : -9223372036854775808 ≤ v) (h4 : v ≤ 9223372036854775807) (hn : n < 18446744073709551616) (hs : s.length ≤ 140737488355328) (hz : z < 18446744073709551616) :
    Calls Tryd.prog 3 #[.int .i64 l, .int .u64 (n : Int), .int .i64 v, txt s, .int .u64 (z : Int)] w fun e w' => e = .returned (.bool true) ∧ Below w.heap.size w w' := by
  have HW : Hid (∀ W, Below w.heap.size w W → Calls Tryd.prog 15 #[] W fun e w' => e = .returned (.bool true) ∧ Below W.heap.size W w') := fun W hb => wakes_any W (hT.to hb)
  have HN := Lib.hid (Name_any l n v hn w hT)
  have HRN : Hid (∀ W, Calls Tryd.prog 9 #[.int .i64 l, .int .u64 (n : Int), .int .i64 v] W fun e w' => e = .returned (.tuple #[txt (layT (rowF l n v)), .int .i64 (nameE (rowF l n v))]) ∧ Below W.heap.size W w') := fun W => rName_any l n v h1 h2 h3 h4 hn W
  have HP : Hid (∀ W, Below w.heap.size w W → Calls Tryd.prog 10 #[txt s] W fun e w' => e = .returned (prsT s) ∧ Below W.heap.size W w') := fun W hb => Parse_any s hs W (hT.to hb)
  have HRP : Hid (∀ W, Calls Tryd.prog 11 #[txt s] W fun e w' => e = .returned (prsT s) ∧ Below W.heap.size W w') := fun W => rParse_any s W
  have HC : Hid (∀ W, Calls Tryd.prog 14 #[.int .u64 (z : Int), .int .i64 l] W fun e w' => e = .returned (.int .u64 (cntF z l : Int)) ∧ W = w') := fun W => Count_any z l hz W
  have HRC : Hid (∀ W, Calls Tryd.prog 12 #[.int .u64 (z : Int), .int .i64 l] W fun e w' => e = .returned (.int .u64 (cntF z l : Int)) ∧ W = w') := fun W => rCount_any z l hz W
  have HD : Hid (∀ W, Calls Tryd.prog 13 #[.int .u64 (z : Int), .int .i64 l] W fun e w' => e = .returned (.tuple #[.int .u64 ((cntF z l : Int) / 16), .int .i64 ((cntF z l : Int) % 16)]) ∧ W = w') := fun W => by
    have h := Need_any z l hz W
    have e1 : ((cntF z l / 16 : Nat) : Int) = (cntF z l : Int) / 16 := by simp
    have e2 : ((cntF z l % 16 : Nat) : Int) = (cntF z l : Int) % 16 := by simp
    rwa [e1, e2] at h
  have hcl := cnt_le z l
  unfold prsT at HP HRP
  generalize layT (rowF l n v) = T at HN HRN
  generalize nameE (rowF l n v) = E at HN HRN
  generalize (prsV s 0 : Int) = A0 at HP HRP
  generalize (prsV s 1 : Int) = A1 at HP HRP
  generalize (prsV s 2 : Int) = A2 at HP HRP
  generalize prsE s = E2 at HP HRP
  generalize cntF z l = c at HC HRC HD hcl
  have hw : IntKind.u64.wrap ((c : Int) % 16) = (c : Int) % 16 := by rw [IntKind.wrap_u64]; omega
  have hcb : c < 18446744073709551616 := by omega
  clear hT h1 h2 h3 h4 hn hs hz hcl
  go_enter Tryd.func3, Tryd.ntmps3
  go_upto_region 7 with (first
    | (go_at_call 8; go_loud (refine HN.out.mono ?_); rintro e x1 ⟨rfl, y1⟩)
    | (go_at_call 9; go_loud (refine (HRN.out _).mono ?_); rintro e x2 ⟨rfl, y2⟩; (have k2 := y1.trans (y2.mono y1.size)))
    | (go_at_call 10; go_loud (refine (HP.out _ k2).mono ?_); rintro e x3 ⟨rfl, y3⟩; (have k3 := k2.trans (y3.mono k2.size)))
    | (go_at_call 11; go_loud (refine (HRP.out _).mono ?_); rintro e x4 ⟨rfl, y4⟩; (have k4 := k3.trans (y4.mono k3.size)))
    | (go_at_call 12; go_loud (refine (HRC.out _).mono ?_); rintro e x5 ⟨rfl, rfl⟩)
    | (go_at_call 13; go_loud (refine (HD.out _).mono ?_); rintro e x6 ⟨rfl, rfl⟩))
  have K4 := Lib.hid k4
  clear y1 y2 y3 y4 k2 k3 k4
  go_wp2_with (first
    | (go_at_call 14; go_loud (refine (HC.out _).mono ?_); rintro e x7 ⟨rfl, rfl⟩)
    | (go_at_call 15; go_loud (refine (HW.out _ K4.out).mono ?_); rintro e x8 ⟨rfl, y8⟩))
  go_ret
  exact ⟨rfl, K4.out.trans (y8.mono K4.out.size)⟩
end Go.Proofs.YtfidajbenmgflaaDoor
