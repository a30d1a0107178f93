/-
  The document's roots and primes. Conditions: those in each statement.
-/
import Derived.Test.YtgippimoklefnaaAbove
namespace Go.Proofs.Ytgippimoklefnaa
open Go.RowKit

/-- the root's bits, the first k of 38 -/
def rootN (p n : Nat) : Nat → Nat
  | 0 => 0
  | k + 1 => if p * 65536 ^ (2 * n) < (rootN p n k + 2 ^ (37 - k)) ^ n then rootN p n k else rootN p n k + 2 ^ (37 - k)
theorem rootN_lt (p n : Nat) : ∀ k, k ≤ 38 → rootN p n k + 2 ^ (38 - k) ≤ 2 ^ 38
  | 0, _ => by simp [rootN]
  | k + 1, h => by
    have ih := rootN_lt p n k (by omega)
    have e : 2 ^ (38 - k) = 2 ^ (37 - k) + 2 ^ (37 - k) := by rw [show 38 - k = (37 - k) + 1 by omega, Nat.pow_succ]; omega
    have e2 : 38 - (k + 1) = 37 - k := by omega
    rw [e2]
    have hpos : 0 < 2 ^ (37 - k) := Nat.two_pow_pos _
    unfold rootN
    split <;> omega

theorem pow_small (x n : Nat) (hx : x < 274877906944) (hn : n = 2 ∨ n = 3) : ∀ k, k < n → x ^ k * x < 65536 ^ 11 := by
  intro k hk
  rw [← Nat.pow_succ]
  rcases Nat.eq_zero_or_pos x with h0 | h0
  · subst h0; rw [Nat.zero_pow (by omega)]; decide
  · have h1 : x ^ (k + 1) ≤ x ^ 3 := Nat.pow_le_pow_right h0 (by omega)
    have h2 : x ^ 3 ≤ 274877906944 ^ 3 := Nat.pow_le_pow_left (by omega) 3
    have h3 : (274877906944 : Nat) ^ 3 < 65536 ^ 11 := by decide
    exact Nat.lt_of_le_of_lt (Nat.le_trans h1 h2) h3

set_option maxRecDepth 100000 in
set_option maxHeartbeats 800000 in
theorem Root_any (p n : Nat) (w : World) (hp : p < 65536) (hn : n = 2 ∨ n = 3) :
    Calls Try.prog 23 #[.int .u64 (p : Int), .int .i64 (n : Int)] w fun e w' => e = .returned (.int .u32 ((rootN p n 38 % 4294967296 : Nat) : Int)) ∧ Below w.heap.size w w' := by
  obtain ⟨R, hR⟩ : ∃ R, R = rootN p n 38 := ⟨_, rfl⟩
  rw [← hR]
  have HR := Lib.hid hR
  clear hR
  obtain ⟨g, hg⟩ : ∃ g, g = w.heap.size := ⟨_, rfl⟩
  have HG := Lib.hid hg
  have hB0 : Below g w w := Below.refl _ _
  clear hg
  go_enter Try.func23, Try.ntmps23
  go_wp2_with fail
  go_loopw [5, 6] (fun x b wr => ∃ k : Nat, k ≤ 38 ∧ x = .int .u64 (rootN p n k : Nat) ∧ b = .int .i64 ((37 : Int) - (k : Int)) ∧ Below g w wr ∧ g ≤ wr.heap.size) (fun _ b _ => (intOf b + 1).toNat)
  case atStart => exact ⟨0, by omega, rfl, rfl, hB0, by rw [HG.out]; exact Nat.le_refl _⟩
  case round =>
    obtain ⟨k, hk, rfl, rfl, hB, hgs⟩ := hrel
    by_cases hlt : k < 38
    · have hxb := rootN_lt p n k hk
      have e38 : 2 ^ (38 - k) = 2 ^ (37 - k) + 2 ^ (37 - k) := by rw [show 38 - k = (37 - k) + 1 by omega, Nat.pow_succ]; omega
      have hpos : 0 < 2 ^ (37 - k) := Nat.two_pow_pos _
      obtain ⟨y, hy⟩ : ∃ y, y = rootN p n k + 2 ^ (37 - k) := ⟨_, rfl⟩
      have hy38 : y < 274877906944 := by omega
      have hnext : rootN p n (k + 1) = if p * 65536 ^ (2 * n) < y ^ n then rootN p n k else y := by rw [hy]; rfl
      obtain ⟨b, hb⟩ : ∃ b, b = 37 - k := ⟨_, rfl⟩
      rw [← hb] at hy
      have eb : (37 : Int) - (k : Int) = (b : Int) := by omega
      have eb2 : (b : Int) - 1 = (37 : Int) - ((k + 1 : Nat) : Int) := by omega
      have hb37 : b ≤ 37 := by omega
      have hb0 : (0 : Int) ≤ (b : Int) := by omega
      have hraw : Hid (IntKind.u64.wrap (((rootN p n k : Nat) : Int) + IntKind.u64.wrap ((2 : Int) ^ b)) = (y : Int)) := by
        have e : (2 : Int) ^ b = ((2 ^ b : Nat) : Int) := by rw [Int.natCast_pow]; rfl
        show _ = _
        rw [e, IntKind.wrap_u64, IntKind.wrap_u64]
        omega
      rw [eb]
      have HN := Lib.hid hnext
      have HE := Lib.hid eb2
      clear hb hy hnext e38 hpos hxb eb eb2
      generalize rootN p n k = r at *
      go_upto_region 6 with fail
      rw [hraw.out]
      have hpn := pow_small y n hy38 hn
      have HPN := Lib.hid hpn
      clear hpn
      by_cases hgt : p * 65536 ^ (2 * n) < y ^ n
      · have HGT := Lib.hid hgt
        clear hgt
        go_wp2_with (first
          | (go_at_call 33; go_loud (refine (power_any y n _ (by omega) (by omega) HPN.out).mono ?_); rintro e w1 ⟨⟨l, rfl, hD⟩, hb1⟩)
          | (go_at_call 32; go_loud (refine (above_any l (y ^ n) p n _ hD hp hn).mono ?_); rintro e w2 ⟨rfl, hb2⟩; rw [decide_eq_true HGT.out]))
        go_roundw
        case rel => exact ⟨k + 1, by omega, by rw [HN.out, if_pos HGT.out], by rw [HE.out], hB.trans ((hb1.mono hgs).trans (hb2.mono (Nat.le_trans hgs hb1.size))), by have := hb1.size; have := hb2.size; omega⟩
        case measure => simp [intOf] <;> omega
      · have HGT := Lib.hid hgt
        clear hgt
        go_wp2_with (first
          | (go_at_call 33; go_loud (refine (power_any y n _ (by omega) (by omega) HPN.out).mono ?_); rintro e w1 ⟨⟨l, rfl, hD⟩, hb1⟩)
          | (go_at_call 32; go_loud (refine (above_any l (y ^ n) p n _ hD hp hn).mono ?_); rintro e w2 ⟨rfl, hb2⟩; rw [decide_eq_false HGT.out]))
        go_roundw
        case rel => exact ⟨k + 1, by omega, by rw [HN.out, if_neg HGT.out], by rw [HE.out], hB.trans ((hb1.mono hgs).trans (hb2.mono (Nat.le_trans hgs hb1.size))), by have := hb1.size; have := hb2.size; omega⟩
        case measure => simp [intOf] <;> omega
    · obtain rfl : k = 38 := by omega
      have e0 : (37 : Int) - ((38 : Nat) : Int) = -1 := by omega
      rw [e0]
      rw [← HR.out]
      go_wp2_with fail
      go_ret
      exact ⟨rfl, HG.out ▸ hB⟩

/-- is 2 + k a number that none of 2 .. 1 + j divides? -/
def prB (p : Nat) : Nat → Bool
  | 0 => true
  | j + 1 => if p % (j + 2) = 0 then false else prB p j
/-- how many primes are below 2 + k -/
def prC : Nat → Nat
  | 0 => 0
  | k + 1 => if prB (k + 2) k = true then prC k + 1 else prC k
theorem prC_mono : ∀ (d k : Nat), prC k ≤ prC (k + d)
  | 0, k => Nat.le_refl _
  | d + 1, k => by
    have := prC_mono d k
    have e : prC (k + (d + 1)) = if prB (k + d + 2) (k + d) = true then prC (k + d) + 1 else prC (k + d) := rfl
    rw [e]
    split <;> omega
theorem prC_312 : prC 310 = 64 := by decide +kernel

set_option maxRecDepth 100000 in
set_option maxHeartbeats 800000 in
theorem Prime_any (n : Nat) (w : World) (hn : n < 64) :
    Calls Try.prog 24 #[.int .i64 (n : Int)] w fun e w' => (∃ k, k < 310 ∧ prB (k + 2) k = true ∧ prC k = n ∧ e = .returned (.int .u64 ((k + 2 : Nat) : Int))) ∧ Below w.heap.size w w' := by
  obtain ⟨g, hg⟩ : ∃ g, g = w.heap.size := ⟨_, rfl⟩
  have HG := Lib.hid hg
  have hB0 : Below g w w := by rw [hg]; exact Below.refl _ _
  clear hg
  have h64 : ∀ k, 310 ≤ k → 64 ≤ prC k := fun k hk => by
    have := prC_mono (k - 310) 310
    rw [prC_312, show 310 + (k - 310) = k by omega] at this
    exact this
  have H64 := Lib.hid h64
  clear h64
  go_enter Try.func24, Try.ntmps24
  go_wp2_with fail
  go_loopw [0, 3] (fun nn pp wr => ∃ (k c : Nat), nn = .int .i64 c ∧ pp = .int .i64 ((k + 2 : Nat) : Int) ∧ prC k + c = n ∧ Below g w wr) (fun _ pp _ => 312 - (intOf pp).toNat)
  case atStart => exact ⟨0, n, rfl, rfl, by simp [prC], hB0⟩
  case round =>
    obtain ⟨k, c, rfl, rfl, hc, hB⟩ := hrel
    have hk310 : k < 310 := by
      rcases Nat.lt_or_ge k 310 with h | h
      · exact h
      · have := H64.out k h; omega
    obtain ⟨p, hp⟩ : ∃ p, p = k + 2 := ⟨_, rfl⟩
    rw [← hp]
    have HPK := Lib.hid hp
    have hp2 : 2 ≤ p := by omega
    have hp312 : p < 312 := by omega
    clear hp
    go_wp2_with fail
    obtain ⟨wo, rfl⟩ : ∃ wo : World, wo = wr := ⟨_, rfl⟩
    go_loopw [4, 5] (fun f qq wr => ∃ j : Nat, j + 2 ≤ p ∧ f = .bool (prB p j) ∧ qq = .int .i64 ((j + 2 : Nat) : Int) ∧ Below g w wr) (fun _ qq _ => p - (intOf qq).toNat)
    case atStart => exact ⟨0, by omega, rfl, rfl, hB⟩
    case round =>
      clear hB
      obtain ⟨j, hj, rfl, rfl, hB⟩ := hrel
      obtain ⟨q, hq⟩ : ∃ q, q = j + 2 := ⟨_, rfl⟩
      rw [← hq]
      by_cases hlt : q < p
      · have hcq : (q : Int) < (p : Int) := by omega
        have hq0 : ¬ (q : Int) = 0 := by omega
        have hn1 : prB p (j + 1) = if p % q = 0 then false else prB p j := by rw [hq]; rfl
        have hce : (p : Int) % (q : Int) = ((p % q : Nat) : Int) := by rw [Int.natCast_emod]
        by_cases hm : p % q = 0
        · have ht2 : (p : Int) % (q : Int) = 0 := by rw [hce, hm]; rfl
          have ht : (p : Int).tmod (q : Int) = 0 := by rw [Int.tmod_eq_emod_of_nonneg (by omega)]; exact ht2
          clear hce
          rw [if_pos hm] at hn1
          have HN := Lib.hid hn1
          have HQ := Lib.hid hq
          clear hn1 hm hq
          go_wp2_with fail
          go_roundw
          case rel => exact ⟨j + 1, by have := HQ.out; omega, by rw [HN.out], by rw [HQ.out]; rfl, hB⟩
          case measure => simp [intOf] <;> omega
        · have ht2 : ¬ (p : Int) % (q : Int) = 0 := by rw [hce]; omega
          have ht : ¬ (p : Int).tmod (q : Int) = 0 := by rw [Int.tmod_eq_emod_of_nonneg (by omega)]; exact ht2
          clear hce
          rw [if_neg hm] at hn1
          have HN := Lib.hid hn1
          have HQ := Lib.hid hq
          clear hn1 hm hq
          go_wp2_with fail
          go_roundw
          case rel => exact ⟨j + 1, by have := HQ.out; omega, by rw [HN.out], by rw [HQ.out]; rfl, hB⟩
          case measure => simp [intOf] <;> omega
      · have hcq : ¬ (q : Int) < (p : Int) := by omega
        have hjk : j = k := by have := HPK.out; omega
        have hnx : prC (k + 1) = if prB p k = true then prC k + 1 else prC k := by rw [HPK.out]; rfl
        rw [hjk]
        cases hb : prB p k with
        | true =>
          rw [if_pos hb] at hnx
          have HNX := Lib.hid hnx
          have HB := Lib.hid hb
          clear hnx hb hjk
          by_cases h0 : c = 0
          · subst h0
            go_wp2_with fail
            go_ret
            exact ⟨⟨k, hk310, by rw [← HPK.out]; exact HB.out, by omega, by show Ending.returned (Value.int .u64 (p : Int)) = Ending.returned (Value.int .u64 _); have := HPK.out; congr 2; omega⟩, HG.out ▸ hB⟩
          · have hc0 : ¬ (c : Int) = 0 := by omega
            obtain ⟨c', hc'⟩ : ∃ c', c = c' + 1 := ⟨c - 1, by omega⟩
            have HC := Lib.hid hc'
            clear hc'
            go_wp2_with fail
            go_roundw
            case rel => exact ⟨k + 1, c', by rw [HC.out]; show Value.int _ _ = Value.int _ _; congr 1; omega, by rw [HPK.out]; rfl, by rw [HNX.out]; have := HC.out; omega, hB⟩
            case measure => simp [intOf] <;> omega
        | false =>
          rw [if_neg (by rw [hb]; decide)] at hnx
          have HNX := Lib.hid hnx
          clear hnx hb hjk
          go_wp2_with fail
          go_roundw
          case rel => exact ⟨k + 1, c, rfl, by rw [HPK.out]; rfl, by rw [HNX.out]; exact hc, hB⟩
          case measure => simp [intOf] <;> omega
end Go.Proofs.Ytgippimoklefnaa
