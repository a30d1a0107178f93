/-
  Layer 8: the document's Levels. Conditions: those in each statement.
-/
import Derived.Test.YtpnhflpajccbbaaMkI
namespace Go.Proofs.Ytpnhflpajccbbaa
open Go.RowKit

/-- the levels below i -/
def levs (L : List (List UInt8)) (i : Nat) : List (List (List UInt8)) := (List.range i).map (chunks L)
theorem levs_succ (L : List (List UInt8)) (i : Nat) : levs L (i + 1) = levs L i ++ [chunks L i] := by simp [levs, List.range_succ]

set_option maxHeartbeats 6400000 in
theorem rLevels_any (L : List (List UInt8)) (a : Option Addr) (n c : Nat) (w : World) (hn : n ≤ 2 ^ 42) (hr : RdD w a n c L) :
    Calls Try.prog 14 #[.slice a n c] w fun e w' => ∃ v i, e = .returned v ∧ n < 2 ^ i ∧ (∀ j, j < i → 2 ^ j ≤ n) ∧ OwnR w' w.heap.size v (levs L i) ∧ Below w.heap.size w w' := by
  have hl := hr.len
  have hcap := hr.le
  go_enter Try.func14, Try.ntmps14
  go_wp2
  go_loopw [3, 4] (fun out s wr => ∃ i D : Nat, D = 2 ^ i ∧ D ≤ 2 * n + 1 ∧ (∀ j, j < i → 2 ^ j ≤ n) ∧ s = .int .i64 (D : Int) ∧ OwnR wr w.heap.size out (levs L i) ∧ Below w.heap.size w wr) (fun _ s _ => 2 * n + 2 - (intOf s).toNat)
  case atStart => exact ⟨0, 1, rfl, by omega, fun j hj => by omega, rfl, OwnR.nil _ _, Below.refl _ _⟩
  case round =>
    obtain ⟨i, D, hD, hD1, hj, rfl, hown, hB⟩ := hrel
    have hDp : 1 ≤ D := by rw [hD]; exact Nat.two_pow_pos i
    by_cases hle : D ≤ n
    · have hle' : (D : Int) ≤ (n : Int) := by omega
      have HJ : Hid (∀ j, j < i + 1 → 2 ^ j ≤ n) := by
        intro j h
        rcases Nat.lt_or_ge j i with h1 | h1
        · exact hj j h1
        · obtain rfl : j = i := by omega
          rw [← hD]; exact hle
      have hil : (levs L i).length + 1 ≤ 2 ^ 42 := by
        have : i < 2 ^ i := Nat.lt_two_pow_self
        simp [levs]
        omega
      obtain ⟨wo, hwo⟩ : ∃ x, x = wr := ⟨_, rfl⟩
      subst hwo
      have hrr := hr.to hB
      obtain ⟨b, off, rfl, hbl, -⟩ := hr.mem (by omega)
      have HIL := Lib.hid hil
      have HD := Lib.hid hD
      clear hj hil hD
      go_wp2
      go_loopw [5, 6] (fun row at_ wq => ∃ k A : Nat, A = k * D ∧ A ≤ n ∧ at_ = .int .i64 (A : Int) ∧ OwnD wq wo.heap.size row ((chunks L i).take k) ∧ Below wo.heap.size wo wq) (fun _ at_ _ => n - (intOf at_).toNat)
      case atStart => exact ⟨0, 0, by simp, Nat.zero_le _, rfl, OwnD.nil _ _, Below.refl _ _⟩
      case round =>
        obtain ⟨k, A, hA, hAn, rfl, hrow, hBq⟩ := hrel
        by_cases hin : A + D ≤ n
        · have hin' : (A : Int) + (D : Int) ≤ (n : Int) := by omega
          have hA1 : (k + 1) * D = A + D := by rw [Nat.add_mul, Nat.one_mul, ← hA]
          have hkd : k < L.length / 2 ^ i := by
            rw [← HD.out, Nat.lt_iff_add_one_le, Nat.le_div_iff_mul_le hDp]
            omega
          have hstep : Hid ((chunks L i).take k ++ [rootF (chunk L i k)] = (chunks L i).take (k + 1)) := by
            show _ = _
            have h1 := chunks_get L i k hkd
            have h2 : k < (chunks L i).length := by rw [chunks_len]; exact hkd
            rw [List.take_add_one]
            have : (chunks L i)[k]? = some (rootF (chunk L i k)) := by
              rw [← h1]; simp [List.getD, h2]
            rw [this]; rfl
          have hd := ((hrr.to hBq).drop A (by omega)).take D (by omega)
          have hch : (L.drop A).take D = chunk L i k := by rw [hA, HD.out]; rfl
          rw [hch] at hd
          have hS32 := rootF_len hd.all
          have hRt := rRoot_any _ _ (Nat.le_refl _) _ _ _ wr (by omega) hd
          have hlen : ((chunks L i).take k).length + 1 ≤ 6000000000000 := by
            rw [List.length_take, chunks_len]
            have := Nat.div_le_self L.length (2 ^ i)
            omega
          generalize rootF (chunk L i k) = S at *
          generalize (chunks L i).take k = M at *
          have hcA : ¬ (c = A) := by omega
          have c1 : (0 : Int) ≤ (A : Int) := by omega
          have c2 : (A : Int) ≤ (A : Int) + (D : Int) := by omega
          have c3 : (A : Int) + (D : Int) ≤ (c : Int) := by omega
          have HA1 := Lib.hid hA1
          clear hch hd hkd hA hA1
          go_wp2_with (first
            | (go_at_call 12; refine hRt.mono ?_; rintro _ w1 ⟨rfl, h1⟩)
            | ((with_reducible show wpList _ _ _ (⟨some 28, .buildSlice _ _ _, _, _, _, _⟩ :: _) _ _); refine wl_litD rfl 27 rfl S hS32 rfl ?_; intro w2 hA2 h2)
            | (at_builtin; refine wl_appendD rfl (.tmp 20) (.tmp 28) rfl wo.heap.size u5 M rfl ((hrow.to h1).to h2) w1.heap.size S rfl hA2 hS32 hlen (by have := hBq.size; have := h1.size; have := h2.size; omega) ?_; intro v3 w3 ho3 hb3))
          go_roundw
          case rel =>
            have z0 := hBq.size
            have z1 := h1.size
            exact ⟨k + 1, A + D, HA1.out.symm, hin, by go_num, by rw [← hstep.out]; exact ho3, hBq.trans (((h1.mono z0).trans (h2.mono (by omega))).trans hb3)⟩
          case measure => simp [intOf]; omega
        · have hkd : n / D ≤ k := by
            rw [Nat.div_le_iff_le_mul_add_pred (by omega), Nat.mul_comm, ← hA]
            omega
          rw [List.take_of_length_le (by rw [chunks_len, ← HD.out, hl]; exact hkd)] at hrow
          have hin' : ¬ ((A : Int) + (D : Int) ≤ (n : Int)) := by omega
          have hstep : Hid (levs L i ++ [chunks L i] = levs L (i + 1)) := (levs_succ L i).symm
          have hil := HIL.out
          have hown2 := hown.to hBq
          have hrow2 := hrow.base hB.size
          obtain ⟨ra, rc, rfl, -⟩ := hrow.rd
          generalize hM : chunks L i = M at *
          generalize levs L i = LL at *
          generalize M.length = ml at *
          have z0 := hB.size
          have z1 := hBq.size
          clear hM hA hkd
          go_wp2_with (first
            | ((with_reducible show wpList _ _ _ (⟨some 32, .buildSlice _ _ _, _, _, _, _⟩ :: _) _ _); refine wl_litR rfl 31 rfl (.slice ra ml rc) rfl rfl ?_; intro w2 hA2 h2)
            | (at_builtin; refine wl_appendR rfl (.tmp 30) (.tmp 32) rfl w.heap.size u3 LL rfl (hown2.to h2) wr.heap.size (.slice ra ml rc) M rfl hA2 (hrow2.to h2) rfl hil (by have := h2.size; omega) ?_; intro v3 w3 ho3 hb3))
          go_roundw
          case rel =>
            exact ⟨i + 1, 2 * D, by rw [Nat.pow_succ, ← HD.out, Nat.mul_comm], by omega, HJ.out, by go_num, by rw [← hstep.out]; exact ho3, hB.trans (((hBq.mono z0).trans (h2.mono (by omega))).trans hb3)⟩
          case measure => simp [intOf]; omega
    · have hle' : ¬ ((D : Int) ≤ (n : Int)) := by omega
      have HD := Lib.hid hD
      clear hD
      go_wp2
      go_ret
      exact ⟨_, rfl, i, by rw [← HD.out]; omega, hj, hown, hB⟩
end Go.Proofs.Ytpnhflpajccbbaa
