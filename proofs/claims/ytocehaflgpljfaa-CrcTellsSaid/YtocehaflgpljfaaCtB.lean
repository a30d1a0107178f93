/-
  CrcTells' closure. Conditions: those in each statement.
-/
import Derived.Test.YtocehaflgpljfaaCtA
import Derived.Test.YtocehaflgpljfaaArr
namespace Go.Proofs.Ytocehaflgpljfaa
open Go.RowKit

theorem bit_u32 (c r : Nat) (hc : c < 4294967296) : bits .and .u32 ((c : Int) / 2 ^ r) 1 = (((c.testBit r).toNat : Nat) : Int) := by
  have h := and_u32 (c / 2 ^ r) 1 (Nat.lt_of_le_of_lt (Nat.div_le_self _ _) hc) (by decide)
  rw [Nat.and_one_is_mod] at h
  rw [show ((c : Int) / 2 ^ r) = ((c / 2 ^ r : Nat) : Int) by simp]
  refine h.trans ?_
  rw [Nat.testBit_eq_decide_div_mod_eq]
  rcases Nat.mod_two_eq_zero_or_one (c / 2 ^ r) with e | e <;> rw [e] <;> rfl
theorem xor_u8 (a b : Nat) (ha : a < 256) (hb : b < 256) : bits .xor .u8 (a : Int) (b : Int) = ((a ^^^ b : Nat) : Int) := by
  have e1 : a % 2 ^ 8 = a := Nat.mod_eq_of_lt (by simpa using ha)
  have e2 : b % 2 ^ 8 = b := Nat.mod_eq_of_lt (by simpa using hb)
  have hlt : a ^^^ b < 2 ^ 8 := Nat.xor_lt_two_pow (by simpa using ha) (by simpa using hb)
  have hw : IntKind.u8.bits = 8 := rfl
  simp only [bits, hw, BitVec.ofInt_natCast, BitVec.toNat_xor, BitVec.toNat_ofNat, e1, e2]
  rw [IntKind.wrap_u8]
  omega
theorem xor_pow (c : UInt8) (r : Nat) : bits .xor .u8 (c.toNat : Int) (2 ^ r % 256) = ((c ^^^ UInt8.ofNat (2 ^ r)).toNat : Int) := by
  have h : ((2 : Int) ^ r % 256) = ((2 ^ r % 256 : Nat) : Int) := by simp
  rw [h, xor_u8 _ _ c.toNat_lt (Nat.mod_lt _ (by decide)), UInt8.toNat_xor, UInt8.toNat_ofNat']
theorem w64_in (i : Int) (h0 : 0 ≤ i) (h1 : i < 9223372036854775808) : wrap64 i = i := by
  unfold wrap64
  omega
set_option maxHeartbeats 1600000 in
set_option maxRecDepth 100000 in
theorem turned_any (p : Option Addr) (n cap : Nat) (xs : List UInt8) (ga gb B L : Nat) (at_ : Int) (first : Nat) (w : World) (h0 : 0 < n) (hn : n ≤ 140737488351232) (hr : Rd w p n cap xs) (hB : B < 4294967296)
    (ca : w.cell? ⟨ga, 0, none⟩ = some (.int .i64 at_)) (cb : w.cell? ⟨gb, 0, none⟩ = some (.int .u32 (B : Int))) (hL : L < 32) (hLB : B.testBit L = true) (hLn : ∀ i, i < L → B.testBit i = false)
    (hfirst : (IntKind.u64.wrap at_).tmod (8 * (n : Int)) = (first : Int)) (hfl : first < 8 * n) :
    Calls Try.prog 17 #[.slice p n cap, .pointer (some ⟨ga, 0, none⟩), .pointer (some ⟨gb, 0, none⟩)] w fun e w' => ∃ v, e = .returned v ∧ Own w' w.heap.size 5 v (flips xs first L B (32 - L)) ∧ Below w.heap.size w w' := by
  have hl := hr.len
  have HR := Lib.hid hr
  have HF := Lib.hid hfirst
  have HLB := Lib.hid hLB
  have HLN := Lib.hid hLn
  clear hr hfirst hLB hLn
  have la : ga < w.heap.size := World.block_lt_of_cell? w _ ca
  have lb : gb < w.heap.size := World.block_lt_of_cell? w _ cb
  go_enter Try.func17, Try.ntmps17
  go_upto_region 2 with ((with_reducible show wpList _ _ _ (⟨some 11, _, _, _, _, _⟩ :: _) _ _); go_loud (refine wl_append bt rfl _ _ rfl w.heap.size _ [] (Own.nil _ _ _) rfl p n cap xs rfl HR.out (by simp; omega) (Nat.le_refl _) ?_); intro v1 w1 ho1 hb1; rw [List.nil_append] at ho1)
  obtain ⟨g, c, rfl, hg1, hg2, hgc⟩ := ho1.solid (by omega)
  rw [hl] at ho1 hgc ⊢
  have CB := Lib.hid cb
  have ca1 := (hb1.cell (p := ⟨ga, 0, none⟩) la).trans ca
  have cb1 := (hb1.cell (p := ⟨gb, 0, none⟩) lb).trans cb
  have HO1 := Lib.hid ho1
  have HB1 := Lib.hid hb1
  clear ho1 hb1 ca cb
  go_upto_region 3 with fail
  rw [HF.out, show wrap64 (first : Int) = (first : Int) from w64_in _ (by omega) (by omega)]
  clear HF
  go_wp2_with fail
  go_loop [7] (fun i => ∃ k : Nat, k ≤ L ∧ i = .int .i64 k) (fun i => L - (intOf i).toNat)
  case atStart => exact ⟨0, by omega, rfl⟩
  case round =>
    obtain ⟨k, hk, rfl⟩ := hrel
    have X1 := bit_u32 B k hB
    by_cases hlt : k < L
    · rw [HLN.out k hlt] at X1
      have X2 : bits .and .u32 ((B : Int) / 2 ^ k) 1 = 0 := X1
      clear X1
      go_wp2_with fail
      go_roundw
      case rel => exact ⟨k + 1, by omega, by go_num⟩
      case measure => simp [intOf]; omega
    · obtain rfl : k = L := by omega
      rw [HLB.out] at X1
      have X2 : bits .and .u32 ((B : Int) / 2 ^ k) 1 = 1 := X1
      clear X1
      go_wp2_with fail
      clear X2
      go_loopw [8] (fun i wr => ∃ j : Nat, k ≤ j ∧ j ≤ 32 ∧ i = .int .i64 j ∧ Own wr w.heap.size 5 (.slice (some ⟨g, 0, none⟩) n c) (flips xs first k B (j - k)) ∧ Below w.heap.size w wr) (fun i _ => 32 - (intOf i).toNat)
      case atStart => exact ⟨k, by omega, by omega, rfl, by rw [Nat.sub_self]; exact HO1.out, HB1.out⟩
      case round =>
        obtain ⟨j, hkj, hj, rfl, ho, hb⟩ := hrel
        by_cases hlt : j < 32
        · obtain ⟨q, hq⟩ : ∃ q, q = first + (j - k) := ⟨_, rfl⟩
          have hq1 : (first : Int) + (j : Int) - (k : Int) = (q : Int) := by omega
          have cbr := (hb.cell (p := ⟨gb, 0, none⟩) lb).trans CB.out
          have X1 := bit_u32 B j hB
          have hstep : Hid (flips xs first k B (j + 1 - k) = if B.testBit j = true ∧ q < 8 * n then flipN (flips xs first k B (j - k)) q else flips xs first k B (j - k)) := by
            show flips xs first k B (j + 1 - k) = _
            rw [show j + 1 - k = (j - k) + 1 by omega, flips, show k + (j - k) = j by omega, ← hq, hl]
          have hfl2 : Hid ((flips xs first k B (j - k)).length = n) := by
            show (flips xs first k B (j - k)).length = n
            rw [flips_len, hl]
          generalize flips xs first k B (j - k) = Y at *
          cases hbit : B.testBit j with
          | false =>
            rw [hbit] at X1 hstep
            rw [if_neg (by rintro ⟨h, -⟩; cases h)] at hstep
            have X2 : bits .and .u32 ((B : Int) / 2 ^ j) 1 = 0 := X1
            clear X1 hq
            have HO := Lib.hid ho
            have HB := Lib.hid hb
            clear ho hb
            go_wp2_with fail
            go_roundw
            case rel => exact ⟨j + 1, by omega, by omega, by go_num, by rw [hstep.out]; exact HO.out, HB.out⟩
            case measure => simp [intOf]; omega
          | true =>
            rw [hbit] at X1 hstep
            have X2 : bits .and .u32 ((B : Int) / 2 ^ j) 1 = 1 := X1
            clear X1 hq
            by_cases hqn : q < 8 * n
            · rw [if_pos ⟨rfl, hqn⟩] at hstep
              have cy := ho.cellAt (q / 8) (by omega)
              have fy := ho.frozenAt (q / 8)
              obtain ⟨cv, hcv⟩ : ∃ cv, cv = Y.getD (q / 8) 0 := ⟨_, rfl⟩
              rw [← hcv] at cy
              have hcl := cv.toNat_lt
              obtain ⟨z, hz⟩ : ∃ z, z = cv ^^^ UInt8.ofNat (2 ^ (q % 8)) := ⟨_, rfl⟩
              have XV : bits .xor .u8 (cv.toNat : Int) (2 ^ (q % 8) % 256) = (z.toNat : Int) := by rw [hz]; exact xor_pow cv (q % 8)
              have HZ : Hid (flipN Y q = Y.set (q / 8) z) := by
                show flipN Y q = _
                rw [flipN, ← hcv, hz]
              have HO := Lib.hid (ho.stored (q / 8) z)
              have HB := Lib.hid (hb.setCell (p := ⟨g, q / 8, none⟩) hg1 (.int .u8 (z.toNat : Int)))
              clear ho hb hcv hz
              go_wp2_with fail
              go_roundw
              case rel => exact ⟨j + 1, by omega, by omega, by go_num, by rw [hstep.out, HZ.out]; exact HO.out, HB.out⟩
              case measure => simp [intOf]; omega
            · rw [if_neg (by rintro ⟨-, h⟩; exact hqn h)] at hstep
              have HO := Lib.hid ho
              have HB := Lib.hid hb
              clear ho hb
              go_wp2_with fail
              go_roundw
              case rel => exact ⟨j + 1, by omega, by omega, by go_num, by rw [hstep.out]; exact HO.out, HB.out⟩
              case measure => simp [intOf]; omega
        · obtain rfl : j = 32 := by omega
          have HO := Lib.hid ho
          have HB := Lib.hid hb
          clear ho hb
          go_wp2_with fail
          go_ret
          exact ⟨_, rfl, HO.out, HB.out⟩
end Go.Proofs.Ytocehaflgpljfaa
