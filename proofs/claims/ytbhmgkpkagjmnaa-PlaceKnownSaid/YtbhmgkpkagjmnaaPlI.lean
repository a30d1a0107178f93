/-
  Layer 7: the greatest node that begins at a leaf, plainly; the program's highest. Conditions: those in each statement.
-/
import Derived.Test.YtbhmgkpkagjmnaaPlH
namespace Go.Proofs.Ytbhmgkpkagjmnaa
open Go.RowKit

/-- may the node be one level higher? -/
def stepB (f t l : Nat) : Bool := decide (f % 2 ^ (l + 1) = 0) && decide (f + 2 ^ (l + 1) ≤ t)
def lvlGo (f t : Nat) : Nat → Nat → Nat
  | 0, l => l
  | n + 1, l => if stepB f t l then lvlGo f t n (l + 1) else l
/-- the level of the greatest node that begins at f -/
def lvl (f t : Nat) : Nat := lvlGo f t 20 0
/-- what holds of the levels on the way -/
def On (f t l : Nat) : Prop := l ≤ 20 ∧ lvlGo f t (20 - l) l = lvl f t ∧ f % 2 ^ l = 0 ∧ f + 2 ^ l ≤ t
theorem On.start {f t : Nat} (h : f < t) : On f t 0 := ⟨by omega, rfl, by simp [Nat.mod_one], by rw [Nat.pow_zero]; omega⟩
theorem On.lt {f t l : Nat} (ht : t ≤ 2 ^ 20) (hs : stepB f t l = true) : l < 20 := by
  simp [stepB] at hs
  rcases Nat.lt_or_ge l 20 with h | h
  · exact h
  · have := Nat.pow_le_pow_right (n := 2) (by omega) (show 21 ≤ l + 1 by omega)
    omega
theorem On.step {f t l : Nat} (ht : t ≤ 2 ^ 20) (h : On f t l) (hs : stepB f t l = true) : On f t (l + 1) := by
  obtain ⟨h1, h2, h3, h4⟩ := h
  have hl := On.lt ht hs
  refine ⟨by omega, ?_, ?_⟩
  · rw [show 20 - l = (20 - (l + 1)) + 1 by omega] at h2
    simpa [lvlGo, hs] using h2
  · simpa [stepB] using hs
theorem On.stop {f t l : Nat} (h : On f t l) (hs : stepB f t l = false) : lvl f t = l := by
  obtain ⟨h1, h2, h3, h4⟩ := h
  rw [← h2]
  cases h : 20 - l with
  | zero => rfl
  | succ n => simp [lvlGo, hs]
theorem On.pow {f t l : Nat} (h : On f t l) : 2 ^ l ≤ 2 ^ 20 := pow_le20 h.1

theorem lvl_on {f t : Nat} (h : f < t) (ht : t ≤ 2 ^ 20) : On f t (lvl f t) ∧ stepB f t (lvl f t) = false := by
  have : ∀ n l, 20 - l = n → On f t l → On f t (lvl f t) ∧ stepB f t (lvl f t) = false := by
    intro n
    induction n with
    | zero =>
      intro l hl ho
      cases hs : stepB f t l with
      | true => have := On.lt ht hs; omega
      | false => rw [ho.stop hs]; exact ⟨ho, hs⟩
    | succ n ih =>
      intro l hl ho
      cases hs : stepB f t l with
      | true => exact ih (l + 1) (by omega) (ho.step ht hs)
      | false => rw [ho.stop hs]; exact ⟨ho, hs⟩
  exact this 20 0 rfl (On.start h)

theorem F_up : ∀ l, l < 40 → F l < F (l + 1) := by decide
theorem F_top : ∀ l, l < 41 → F l < 2 ^ 63 := by decide
def cxOf : Value → Nat
  | .complex _ _ b => b
  | _ => 0

set_option maxHeartbeats 1600000 in
theorem highest_any (f t : Nat) (w : World) (hft : f < t) (ht : t ≤ 2 ^ 20) :
    Calls Try.prog 36 #[.int .u64 (f : Int), .int .u64 (t : Int)] w fun e w' => e = .returned (sp (lvl f t) (f / 2 ^ lvl f t)) ∧ Below w.heap.size w w' := by
  go_enter Try.func36, Try.ntmps36
  go_wp2_with (go_at_call 29; refine (spotOf_any 0 f _ (by omega) (by omega)).mono ?_; rintro _ w1 ⟨rfl, h1⟩)
  go_loopw [5] (fun s wr => ∃ l : Nat, On f t l ∧ s = sp l (f / 2 ^ l) ∧ Below w.heap.size w wr) (fun s _ => 2 ^ 63 - cxOf s)
  case atStart => exact ⟨0, On.start hft, by simp, h1⟩
  case round =>
    obtain ⟨l, ho, rfl, hB⟩ := hrel
    have hl := ho.1
    have hm1 := F_up l (by omega)
    have hm2 := F_top (l + 1) (by omega)
    have hpw : 2 ^ (l + 1) ≤ 2 ^ 21 := Nat.pow_le_pow_right (by omega) (by omega)
    have hpl := Nat.two_pow_pos (l + 1)
    have hfl := Nat.div_le_self f (2 ^ l)
    have hX2 : f / 2 ^ l / 2 = f / 2 ^ (l + 1) := by rw [Nat.div_div_eq_div_mul, Nat.pow_succ]
    have hdm := Nat.div_mul_le_self f (2 ^ (l + 1))
    have hda := Nat.div_add_mod f (2 ^ (l + 1))
    have hdl := Nat.div_le_self f (2 ^ (l + 1))
    have hb : (f / 2 ^ (l + 1) + 1) * 2 ^ (l + 1) = f / 2 ^ (l + 1) * 2 ^ (l + 1) + 2 ^ (l + 1) := by rw [Nat.add_mul, Nat.one_mul]
    have hstop : stepB f t l = true ↔ f % 2 ^ (l + 1) = 0 ∧ f + 2 ^ (l + 1) ≤ t := by simp [stepB]
    rw [Nat.mul_comm] at hda
    obtain ⟨X, hX⟩ : ∃ X, X = f / 2 ^ l := ⟨_, rfl⟩
    obtain ⟨Y, hY⟩ : ∃ Y, Y = f / 2 ^ (l + 1) := ⟨_, rfl⟩
    rw [← hX] at hfl hX2 ⊢
    rw [← hY] at hX2 hdm hda hdl hb
    have hlv := leaves_any (l + 1) Y
    have hup := up_any l X
    rw [hX2] at hup
    obtain ⟨p, hp⟩ : ∃ p, p = 2 ^ (l + 1) := ⟨_, rfl⟩
    obtain ⟨A, hA⟩ : ∃ A, A = Y * 2 ^ (l + 1) := ⟨_, rfl⟩
    obtain ⟨B, hB2⟩ : ∃ B, B = (Y + 1) * 2 ^ (l + 1) := ⟨_, rfl⟩
    rw [← hA, ← hB2] at hlv
    rw [← hA] at hdm hda hb
    rw [← hB2] at hb
    rw [← hp] at hpw hpl hda hb hstop
    have hlv2 : ∀ w, Calls Try.prog 30 #[sp (l + 1) Y] w fun e w' => e = .returned (.tuple #[.int .u64 (A : Int), .int .u64 (B : Int)]) ∧ Below w.heap.size w w' := fun w => hlv w (by omega) (by omega) (by omega)
    have hup2 : ∀ w, Calls Try.prog 32 #[sp l X] w fun e w' => e = .returned (sp (l + 1) Y) ∧ w' = w := fun w => hup w (by omega) (by omega)
    clear hlv hup
    cases hs : stepB f t l with
    | true =>
      have hq := hstop.1 hs
      have c1 : A = f := by omega
      have c2 : B = f + p := by omega
      have c3 : (f : Int) + (p : Int) ≤ (t : Int) := by omega
      have ho2 := ho.step ht hs
      have HY := Lib.hid hY
      have HM : Hid (2 ^ 63 - F (l + 1) < 2 ^ 63 - F l) := by show _ < _; omega
      subst c1 c2
      clear hA hB2 hq hstop hb hda hdm hdl hX hY hX2 hp hpw hpl hm1 hm2 hs ho hl hfl
      go_wp2_with (first
        | (go_at_call 30; refine (hlv2 _).mono ?_; rintro _ w2 ⟨rfl, h2⟩)
        | (go_at_call 32; refine (hup2 _).mono ?_; rintro _ _ ⟨rfl, rfl⟩))
      go_roundw
      case rel => exact ⟨l + 1, ho2, by rw [HY.out], hB.trans (h2.mono hB.size)⟩
      case measure => exact HM.out
    | false =>
      have hlv3 := ho.stop hs
      have HX : Hid (X = f / 2 ^ l) := hX
      have HV := Lib.hid hlv3
      by_cases c1 : A = f
      · have c2 : B = f + p := by omega
        have c3 : ¬ ((f : Int) + (p : Int) ≤ (t : Int)) := by
          intro h
          have : stepB f t l = true := hstop.2 ⟨by omega, by omega⟩
          rw [hs] at this
          cases this
        subst c1 c2
        clear hA hB2 hstop hb hda hdm hdl hX hY hX2 hp hpw hpl hm1 hm2 hs ho hl hlv3 hfl
        go_wp2_with (first
          | (go_at_call 30; refine (hlv2 _).mono ?_; rintro _ w2 ⟨rfl, h2⟩)
          | (go_at_call 32; refine (hup2 _).mono ?_; rintro _ _ ⟨rfl, rfl⟩))
        go_ret
        exact ⟨by rw [HV.out, ← HX.out]; rfl, hB.trans (h2.mono hB.size)⟩
      · have c1' : ¬ ((A : Int) = (f : Int)) := by omega
        clear hA hB2 hstop hb hda hdm hdl hX hY hX2 hp hpw hpl hm1 hm2 hs ho hl hlv3 hfl
        go_wp2_with (first
          | (go_at_call 30; refine (hlv2 _).mono ?_; rintro _ w2 ⟨rfl, h2⟩)
          | (go_at_call 32; refine (hup2 _).mono ?_; rintro _ _ ⟨rfl, rfl⟩))
        go_ret
        exact ⟨by rw [HV.out, ← HX.out]; rfl, hB.trans (h2.mono hB.size)⟩
end Go.Proofs.Ytbhmgkpkagjmnaa
