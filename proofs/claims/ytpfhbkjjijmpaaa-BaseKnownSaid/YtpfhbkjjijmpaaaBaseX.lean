/-
  The statements' own helper: the chapter's rows hold. No conditions.
-/
import Derived.Test.YtpfhbkjjijmpaaaBaseU
import Derived.Lib.SlBytesConst
namespace Go.Proofs.Ytpfhbkjjijmpaaa
open Go.RowKit

theorem row_f : takeB [90, 103, 61, 61] = some [102] := by decide +kernel
theorem row_bad : takeB [90, 104, 61, 61] = none := by decide +kernel
theorem row_foob : bstr (putF [102, 111, 111, 98]) = ⟨#[90, 109, 57, 118, 89, 103, 61, 61]⟩ := by
  have : putF [102, 111, 111, 98] = [90, 109, 57, 118, 89, 103, 61, 61] := by decide +kernel
  rw [this]
  rfl
theorem row_fo : bstr (putF [102, 111]) = ⟨#[90, 109, 56, 61]⟩ := by
  have : putF [102, 111] = [90, 109, 56, 61] := by decide +kernel
  rw [this]
  rfl

set_option maxRecDepth 100000 in
theorem wakes_any (w : World) : Calls Try.prog 9 #[] w fun e w' => e = .returned (.bool true) ∧ Below w.heap.size w w' := by
  have k1 : Hid (∀ w, Calls Try.prog 7 #[.string ⟨#[90, 103, 61, 61]⟩] w fun e w' => ∃ v, e = .returned (.tuple #[v, .int .i64 0]) ∧ Own w' w.heap.size 5 v [102] ∧ Below w.heap.size w w') := fun w => by
    have h := Take_any ⟨#[90, 103, 61, 61]⟩ w (by decide)
    rw [show (⟨#[90, 103, 61, 61]⟩ : ByteArray).data.toList = [90, 103, 61, 61] from rfl, row_f] at h
    exact h
  have k2 : Hid (∀ w, Calls Try.prog 7 #[.string ⟨#[90, 104, 61, 61]⟩] w fun e w' => ∃ v, e = .returned (.tuple #[v, .int .i64 5]) ∧ Own w' w.heap.size 5 v [] ∧ Below w.heap.size w w') := fun w => by
    have h := Take_any ⟨#[90, 104, 61, 61]⟩ w (by decide)
    rw [show (⟨#[90, 104, 61, 61]⟩ : ByteArray).data.toList = [90, 104, 61, 61] from rfl, row_bad] at h
    exact h
  have k3 : Hid (∀ w a c, Rd w a 4 c [102, 111, 111, 98] → Calls Try.prog 10 #[.slice a 4 c] w fun e w' => e = .returned (.string ⟨#[90, 109, 57, 118, 89, 103, 61, 61]⟩) ∧ Below w.heap.size w w') := fun w a c h => by
    have := Put_any a 4 c _ w (by omega) h
    rw [row_foob] at this
    exact this
  have k4 : Hid (∀ w a c, Rd w a 2 c [102, 111] → Calls Try.prog 10 #[.slice a 2 c] w fun e w' => e = .returned (.string ⟨#[90, 109, 56, 61]⟩) ∧ Below w.heap.size w w') := fun w a c h => by
    have := Put_any a 2 c _ w (by omega) h
    rw [row_fo] at this
    exact this
  have k5 : Hid (∀ w, Calls Try.prog 11 #[.int .i64 4] w fun e w' => e = .returned (.int .i64 8) ∧ w' = w) := fun w => Size_any 4 w (by omega) (by omega)
  have kc := fun (w : World) (C : Array Value) (n c : Nat) => Lib.run_convert_bytes_const (P := Try.prog) w 22 5 C n c Try.underlying22 Try.underlying5
  go_enter Try.func9, Try.ntmps9
  go_wp2_with fail
  refine (k1.out _).mono ?_
  rintro e w1 ⟨v1, rfl, ho1, hb1⟩
  obtain ⟨a1, c1, rfl, -⟩ := ho1.shape
  have hr1 := Lib.hid ho1.rd.toRd
  clear ho1
  go_wp2_with fail
  refine (k2.out _).mono ?_
  rintro e w2 ⟨v2, rfl, -, hb2⟩
  go_wp2_with fail
  refine (k3.out _ _ _ (rd_lit _ [102, 111, 111, 98] _ (4, 5))).mono ?_
  rintro e w3 ⟨rfl, hb3⟩
  go_wp2_with fail
  refine (k4.out _ _ _ (rd_lit _ [102, 111] _ (2, 3))).mono ?_
  rintro e w4 ⟨rfl, hb4⟩
  have x1 := hb1.size
  have x2 := hb2.size
  have x3 := hb3.size
  have x4 := hb4.size
  simp only [World.size_alloc] at x3 x4
  have hB2 := hb1.trans (hb2.mono x1)
  have hB3 := (hB2.alloc (by omega) (.cells ([102, 111, 111, 98].map bv).toArray 5 (4, 5))).trans (hb3.mono (by rw [World.size_alloc]; omega))
  have hB4 := (hB3.alloc (by omega) (.cells ([102, 111].map bv).toArray 5 (2, 3))).trans (hb4.mono (by rw [World.size_alloc]; omega))
  have hR4 : Rd w4 a1 1 c1 [102] := by
    have e2 := hr1.out.to hb2
    have e3 := e2.to (((Below.refl _ w2).alloc (Nat.le_refl _) (.cells ([102, 111, 111, 98].map bv).toArray 5 (4, 5))).trans (hb3.mono (by rw [World.size_alloc]; omega)))
    exact e3.to (((Below.refl _ w3).alloc (Nat.le_refl _) (.cells ([102, 111].map bv).toArray 5 (2, 3))).trans (hb4.mono (by rw [World.size_alloc]; omega)))
  have hst := run_bstr bt Try.underlying9 hR4
  have hbs : bstr [102] = ⟨#[102]⟩ := rfl
  rw [hbs] at hst
  clear hb1 hb2 hb3 hb4 hB2 hB3 hR4 x1 x2 x3 x4 hbs
  go_wp2_with fail
  refine (k5.out _).mono ?_
  rintro e w5 ⟨rfl, rfl⟩
  go_wp2_with fail
  go_ret
  exact ⟨rfl, hB4⟩
end Go.Proofs.Ytpfhbkjjijmpaaa
