/-
  Layer 7: the program's Beneath. Conditions: those in each statement.
-/
import Derived.Test.YtbhmgkpkagjmnaaPlD
namespace Go.Proofs.Ytbhmgkpkagjmnaa
open Go.RowKit

theorem box3A {w w1 : World} {a b c d : Value} {T : TypeId} (h : Below ((w.alloc (.cells #[a, b] T)).alloc (.cells #[c, d] T)).heap.size ((w.alloc (.cells #[a, b] T)).alloc (.cells #[c, d] T)) w1) :
    Arr w1 w.heap.size T [a, b] ∧ Arr w1 (w.heap.size + 1) T [c, d] ∧ Below w.heap.size w w1 := by
  obtain ⟨-, -, hR, hB⟩ := box3 h
  have hA0 : Arr (w.alloc (.cells #[a, b] T)) w.heap.size T [a, b] := Arr.new w T [a, b]
  have hb0 : Below (w.alloc (.cells #[a, b] T)).heap.size (w.alloc (.cells #[a, b] T)) ((w.alloc (.cells #[a, b] T)).alloc (.cells #[c, d] T)) := (Below.refl _ _).alloc (Nat.le_refl _) _
  exact ⟨(hA0.kept hb0).kept h, hR, hB⟩
theorem Arr.two {w : World} {g : Nat} {T : TypeId} {a b : Value} (h : Arr w g T [a, b]) : w.cell? ⟨g, 0, none⟩ = some a ∧ w.cell? ⟨g, 1, none⟩ = some b := ⟨h.cell 0, h.cell 1⟩

theorem benB_no1 {l i m j : Int} (h : mayB l i = false) : benB l i m j = false := by simp [benB, h]
theorem benB_no2 {l i m j : Int} (h : mayB m j = false) : benB l i m j = false := by simp [benB, h]
theorem benB_no3 {l i m j : Int} (h : m ≤ l) : benB l i m j = false := by
  have : ¬ (l < m) := by omega
  simp [benB, this]

set_option maxHeartbeats 1600000 in
theorem Beneath_any (l i m j : Int) (w : World) (hi : 0 ≤ i) (hj : 0 ≤ j) :
    Calls Try.prog 22 #[.agg #[.int .i64 l, .int .u64 i], .agg #[.int .i64 m, .int .u64 j]] w fun e w' => e = .returned (.bool (benB l i m j)) ∧ Below w.heap.size w w' := by
  have HM1 := fun w => May_any l i w
  have HM2 := fun w => May_any m j w
  cases hm : mayB l i with
  | false =>
    rw [benB_no1 hm]
    rw [hm] at HM1
    go_enter Try.func22, Try.ntmps22
    go_wp2_with (go_at_call 19; with_reducible refine (HM1 _).mono ?_; rintro _ w1 ⟨rfl, h1⟩; obtain ⟨hA, hR, hB⟩ := box3A h1)
    go_ret
    exact ⟨rfl, hB⟩
  | true =>
    rw [hm] at HM1
    cases hm2 : mayB m j with
    | false =>
      rw [benB_no2 hm2]
      rw [hm2] at HM2
      go_enter Try.func22, Try.ntmps22
      go_wp2_with (first
        | (go_at_call 19; with_reducible refine (HM1 _).mono ?_; rintro _ w1 ⟨rfl, h1⟩; obtain ⟨hA, hR, hB⟩ := box3A h1; obtain ⟨r0, r1⟩ := hR.two)
        | (go_at_call 19; with_reducible refine (HM2 _).mono ?_; rintro _ w2 ⟨rfl, h2⟩))
      go_ret
      exact ⟨rfl, hB.trans (h2.mono hB.size)⟩
    | true =>
      rw [hm2] at HM2
      by_cases hlt : m ≤ l
      · rw [benB_no3 hlt]
        go_enter Try.func22, Try.ntmps22
        go_wp2_with (first
          | (go_at_call 19; with_reducible refine (HM1 _).mono ?_; rintro _ w1 ⟨rfl, h1⟩; obtain ⟨hA, hR, hB⟩ := box3A h1; obtain ⟨r0, r1⟩ := hR.two)
          | (go_at_call 19; with_reducible refine (HM2 _).mono ?_; rintro _ w2 ⟨rfl, h2⟩; obtain ⟨s0, s1⟩ := (hR.kept h2).two; obtain ⟨t0, t1⟩ := (hA.kept h2).two))
        go_ret
        exact ⟨rfl, hB.trans (h2.mono hB.size)⟩
      · obtain ⟨L, I, rfl, rfl, hL, hI, hb, hI2⟩ := mayB_cases l i hi hm
        obtain ⟨M, J, rfl, rfl, hM, hJ, hc, hJ2⟩ := mayB_cases m j hj hm2
        have hlt' : ¬ ((M : Int) ≤ (L : Int)) := hlt
        obtain ⟨D, hD⟩ : ∃ D : Nat, M = L + D := ⟨M - L, by omega⟩
        have hD2 : (M : Int) - (L : Int) = (D : Int) := by omega
        have hv : benB (L : Int) (I : Int) (M : Int) (J : Int) = decide (I / 2 ^ D = J) := by
          have e1 : ((I : Int) / 2 ^ ((M : Int) - (L : Int)).toNat = (J : Int)) ↔ I / 2 ^ D = J := by
            rw [hD2, Int.toNat_natCast]
            have : ((I : Int) / 2 ^ D) = ((I / 2 ^ D : Nat) : Int) := by push_cast; rfl
            rw [this]
            omega
          have e2 : ((L : Int) < (M : Int)) := by omega
          simp only [benB, hm, hm2, e1, e2, decide_true, Bool.and_self, Bool.true_and]
        rw [hv]
        have HD := Lib.hid hD
        have HD2 := Lib.hid hD2
        clear hv hD hD2 hlt hI hb hJ hc hm hm2
        go_enter Try.func22, Try.ntmps22
        go_wp2_with (first
          | (go_at_call 19; with_reducible refine (HM1 _).mono ?_; rintro _ w1 ⟨rfl, h1⟩; obtain ⟨hA, hR, hB⟩ := box3A h1; obtain ⟨r0, r1⟩ := hR.two)
          | (go_at_call 19; with_reducible refine (HM2 _).mono ?_; rintro _ w2 ⟨rfl, h2⟩; obtain ⟨s0, s1⟩ := (hR.kept h2).two; obtain ⟨t0, t1⟩ := (hA.kept h2).two)
          | (go_at_call 29; refine (spotOf_any L I _ (by omega) (by omega)).mono ?_; rintro _ w3 ⟨rfl, h3⟩; obtain ⟨u0, u1⟩ := ((hR.kept h2).kept h3).two; obtain ⟨v0, v1⟩ := ((hA.kept h2).kept h3).two))
        rw [HD2.out]
        have hle : ∀ k, I / 2 ^ k ≤ I := fun k => Nat.div_le_self _ _
        have HLE := Lib.hid hle
        clear hle r0 r1 s0 s1 t0 t1 v0 v1 hA hR HM1 HM2
        go_loopw [5, 28] (fun s i wr => ∃ k : Nat, k ≤ D ∧ i = .int .i64 k ∧ s = sp (L + k) (I / 2 ^ k) ∧ wr = w3) (fun _ i _ => D - (intOf i).toNat)
        case atStart => exact ⟨0, Nat.zero_le _, rfl, by simp, rfl⟩
        case round =>
          obtain ⟨k, hk, rfl, rfl, rfl⟩ := hrel
          have hik := HLE.out k
          obtain ⟨X, hX⟩ : ∃ X, X = I / 2 ^ k := ⟨_, rfl⟩
          rw [← hX] at hik ⊢
          have hXi : X < 2 ^ 20 := by omega
          by_cases hlt : k < D
          · have hc : (k : Int) < (D : Int) := by omega
            have hLk : L + k < 2 ^ 30 := by have := HD.out; omega
            have hX2 : X / 2 = I / 2 ^ (k + 1) := by rw [hX, Nat.div_div_eq_div_mul, Nat.pow_succ]
            have HX := Lib.hid hX2
            clear hX2 hX
            go_wp2_with (go_at_call 32; refine (up_any (L + k) X _ (by omega) (by omega)).mono ?_; rintro _ _ ⟨rfl, rfl⟩)
            go_roundw
            case rel => exact ⟨k + 1, by omega, by go_num, (by rw [← HX.out]; rfl), trivial⟩
            case measure => simp [intOf]; omega
          · obtain rfl : k = D := by omega
            have hc : ¬ ((k : Int) < (k : Int)) := by omega
            have hMk : L + k < 2 ^ 30 := by have := HD.out; omega
            have hq := run_eql_sp (L + k) X M J (by omega) (by omega) (by omega) (by omega)
            have hkm : L + k = M := HD.out.symm
            rw [show decide (L + k = M) = true from decide_eq_true hkm] at hq
            simp only [Bool.and_true] at hq
            have hg0 := eqGuard_sp (L + k) X
            have hB3 := hB.trans ((h2.mono hB.size).trans (h3.mono (by have := h2.size; have := hB.size; omega)))
            have HX := Lib.hid hX
            clear hX hkm
            go_wp2_with (go_at_call 29; refine (spotOf_any M J _ (by omega) (by omega)).mono ?_; rintro _ w4 ⟨rfl, h4⟩)
            go_ret
            exact ⟨by rw [← HX.out]; rfl, hB3.trans (h4.mono hB3.size)⟩
end Go.Proofs.Ytbhmgkpkagjmnaa
