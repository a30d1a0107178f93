/-
  Package crc: Take. Conditions: those in each statement.
-/
import Derived.Test.YtocehaflgpljfaaCrE
namespace Go.Proofs.Ytocehaflgpljfaa
open Go.RowKit

/-- none, false; or what reads so, true -/
def TakeRes (w : World) (o : Option (List UInt8)) (e : Ending) (w' : World) : Prop :=
  ∃ ao n c, e = .returned (.tuple #[.slice ao n c, .bool o.isSome]) ∧ Rd w' ao n c (o.getD []) ∧ Below w.heap.size w w'
set_option maxHeartbeats 1600000 in
set_option maxRecDepth 100000 in
theorem Take_any (a : Option Addr) (n cap : Nat) (xs : List UInt8) (w : World) (hn : n ≤ 140737488355300) (hr : Rd w a n cap xs) : Calls Try.prog 14 #[.slice a n cap] w (TakeRes w (takeF xs)) := by
  have hl := hr.len
  have hle := hr.le
  have HR := Lib.hid hr
  by_cases h4 : n < 4
  · have hT : takeF xs = none := by
      unfold takeF
      rw [if_neg (by omega)]
    rw [hT]
    clear hr
    go_enter Try.func14, Try.ntmps14
    go_wp2_with fail
    go_ret2
    exact ⟨none, 0, 0, rfl, Rd.none _, Below.refl _ _⟩
  · have hc : 0 < cap := by omega
    obtain ⟨b, off, rfl, hb, -⟩ := hr.mem hc
    clear hr
    obtain ⟨m, rfl⟩ : ∃ m, n = m + 4 := ⟨n - 4, by omega⟩
    have HP := Put_any (some ⟨b, off, none⟩) m cap (xs.take m) w (by omega) (HR.out.take m (by omega))
    have hT : takeF xs = if putF (xs.take m) = xs then some (xs.take m) else none := by
      unfold takeF
      rw [hl, Nat.add_sub_cancel]
      by_cases e : putF (xs.take m) = xs
      · rw [if_pos ⟨by omega, e⟩, if_pos e]
      · rw [if_neg (fun h => e h.2), if_neg e]
    rw [hT]
    have HML : Hid ((xs.take m).length = m) := by
      show (xs.take m).length = m
      rw [List.length_take]; omega
    by_cases heq : putF (xs.take m) = xs
    · rw [if_pos heq]
      have HQ : Hid (∀ ao c (W : World), Rd W ao (m + 4) c (putF (xs.take m)) → Rd W (some ⟨b, off, none⟩) (m + 4) cap xs → Calls Try.prog 19 #[.slice ao (m + 4) c, .slice (some ⟨b, off, none⟩) (m + 4) cap] W fun e w' => e = .returned (.bool true) ∧ W = w') := fun ao c W h1 h2 => by
        have := Equal_any _ _ _ _ _ _ _ _ W h1 h2
        rw [decide_eq_true heq] at this
        exact this
      have HE := Lib.hid heq
      clear heq hT h4
      go_enter Try.func14, Try.ntmps14
      go_wp2_with (first
        | (go_at_call 13; refine HP.mono ?_; rintro e w1 ⟨ao, c, rfl, hr1, hb1⟩; (have hle1 := hr1.le); obtain ⟨b1, off1, rfl, hb1l, -⟩ := hr1.mem (by omega))
        | (go_at_call 19; go_loud (refine (HQ.out _ _ _ hr1 (HR.out.to hb1)).mono ?_); rintro e w2 ⟨rfl, rfl⟩))
      go_ret2
      refine ⟨some ⟨b1, off1, none⟩, m, m, rfl, ?_, hb1⟩
      have h := (hr1.take m (by omega)).cut
      have e : (putF (xs.take m)).take m = xs.take m := by
        rw [putF, List.take_append_of_le_length (by rw [HML.out]; exact Nat.le_refl _), List.take_of_length_le (by rw [HML.out]; exact Nat.le_refl _)]
      rw [e] at h
      exact h
    · rw [if_neg heq]
      have HQ : Hid (∀ ao c (W : World), Rd W ao (m + 4) c (putF (xs.take m)) → Rd W (some ⟨b, off, none⟩) (m + 4) cap xs → Calls Try.prog 19 #[.slice ao (m + 4) c, .slice (some ⟨b, off, none⟩) (m + 4) cap] W fun e w' => e = .returned (.bool false) ∧ W = w') := fun ao c W h1 h2 => by
        have := Equal_any _ _ _ _ _ _ _ _ W h1 h2
        rw [decide_eq_false heq] at this
        exact this
      have HE := Lib.hid heq
      clear heq hT h4
      go_enter Try.func14, Try.ntmps14
      go_wp2_with (first
        | (go_at_call 13; refine HP.mono ?_; rintro e w1 ⟨ao, c, rfl, hr1, hb1⟩)
        | (go_at_call 19; go_loud (refine (HQ.out _ _ _ hr1 (HR.out.to hb1)).mono ?_); rintro e w2 ⟨rfl, rfl⟩))
      go_ret2
      exact ⟨none, 0, 0, rfl, Rd.none _, hb1⟩
end Go.Proofs.Ytocehaflgpljfaa
