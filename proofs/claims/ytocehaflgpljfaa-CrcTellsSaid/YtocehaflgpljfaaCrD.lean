/-
  Package crc: a bit goes out, sums of bytes. Conditions: those in each statement.
-/
import Derived.Test.YtocehaflgpljfaaCrC
import Derived.StillTailTactics
import Derived.ProofKit
import Derived.Deep.DeepCutAuto
import Derived.Deep.CutBlock
import Derived.Deep.RegionHeld3
import Derived.PlainAid
import Derived.Outline
namespace Go.Proofs.Ytocehaflgpljfaa
open Go.RowKit

theorem ret_val {a b : Value} (h : a = b) : Ending.returned a = .returned b := by rw [h]
/-- 32 bits as a value -/
def qb (x : BitVec 32) : Value := .int .u32 (x.toNat : Int)
theorem xor_u32 (a b : Nat) (ha : a < 4294967296) (hb : b < 4294967296) : bits .xor .u32 (a : Int) (b : Int) = ((a ^^^ b : Nat) : Int) := by
  have e1 : a % 2 ^ 32 = a := Nat.mod_eq_of_lt (by simpa using ha)
  have e2 : b % 2 ^ 32 = b := Nat.mod_eq_of_lt (by simpa using hb)
  have hlt : a ^^^ b < 2 ^ 32 := Nat.xor_lt_two_pow (by simpa using ha) (by simpa using hb)
  have hw : IntKind.u32.bits = 32 := rfl
  simp only [bits, hw, BitVec.ofInt_natCast, BitVec.toNat_xor, BitVec.toNat_ofNat, e1, e2]
  rw [IntKind.wrap_u32]
  omega
theorem and_u32 (a b : Nat) (ha : a < 4294967296) (hb : b < 4294967296) : bits .and .u32 (a : Int) (b : Int) = ((a &&& b : Nat) : Int) :=
  (bits_nat .u32 32 (by decide) (fun n h0 h1 => by rw [IntKind.wrap_u32]; omega) a b (by simpa using ha) (by simpa using hb)).1
theorem zst_toNat (x : BitVec 32) : (zst x).toNat = (x.toNat / 2) ^^^ (3988292384 * (x.toNat % 2)) := by
  unfold zst
  rw [BitVec.toNat_xor, BitVec.toNat_ushiftRight, Nat.shiftRight_eq_div_pow]
  have h : x.getLsbD 0 = decide (x.toNat % 2 = 1) := by
    rw [← BitVec.testBit_toNat, Nat.testBit_zero]
  rw [h]
  rcases Nat.mod_two_eq_zero_or_one x.toNat with e | e <;> rw [e] <;> simp [polR]
theorem not_u32 (x : BitVec 32) : bits .xor .u32 IntKind.u32.max (x.toNat : Int) = ((~~~x).toNat : Int) := by
  have h : IntKind.u32.max = (((4294967295 : Nat) : Nat) : Int) := by decide
  rw [h, xor_u32 _ _ (by decide) x.isLt]
  have e : (BitVec.allOnes 32) ^^^ x = ~~~x := BitVec.allOnes_xor
  rw [← e, BitVec.toNat_xor]
  rfl
/-- the bits of a byte, the lowest first -/
def bitsB (c : UInt8) : List Bool := (List.range 8).map fun i => c.toNat.testBit i
def byb (l : List UInt8) : List Bool := l.flatMap bitsB
theorem bitsB_word (c : UInt8) : wordB (bitsB c) = BitVec.ofNat 32 c.toNat := by
  obtain ⟨n, hn, rfl⟩ : ∃ n, n < 256 ∧ c = UInt8.ofNat n := ⟨c.toNat, c.toNat_lt, by simp⟩
  have h : ∀ n : Fin 256, wordB (bitsB (UInt8.ofNat n.val)) = BitVec.ofNat 32 (UInt8.ofNat n.val).toNat := by decide +kernel
  exact h ⟨n, hn⟩
/-- a byte goes in: at once -/
def byteS (x : BitVec 32) (c : UInt8) : BitVec 32 := zsts 8 (x ^^^ BitVec.ofNat 32 c.toNat)
theorem byte_bits (x : BitVec 32) (c : UInt8) : crfold x (bitsB c) = byteS x c := by
  rw [crfold_word _ _ (by simp [bitsB]), bitsB_word]
  simp [byteS, bitsB]
theorem bytes_bits : ∀ (l : List UInt8) (x : BitVec 32), crfold x (byb l) = l.foldl byteS x := by
  intro l
  induction l with
  | nil => intro x; rfl
  | cons c l ih =>
    intro x
    show crfold x (bitsB c ++ byb l) = _
    rw [crfold_app, byte_bits, ih]
    rfl
/-- the sum of bytes behind those whose sum is x -/
def moreF (x : BitVec 32) (l : List UInt8) : BitVec 32 := ~~~ (l.foldl byteS (~~~ x))
def sumF (l : List UInt8) : BitVec 32 := moreF 0#32 l
theorem moreF_app (x : BitVec 32) (l m : List UInt8) : moreF (moreF x l) m = moreF x (l ++ m) := by
  unfold moreF
  rw [BitVec.not_not, List.foldl_append]
theorem moreF_sum (l m : List UInt8) : moreF (sumF l) m = sumF (l ++ m) := moreF_app _ _ _
theorem moreF_nil (x : BitVec 32) : moreF x [] = x := by simp [moreF]
theorem sumF_bits (l : List UInt8) : sumF l = ~~~ (crfold ones32 (byb l)) := by
  rw [bytes_bits]
  rfl
theorem zsts_snoc : ∀ (k : Nat) (x : BitVec 32), zsts (k + 1) x = zst (zsts k x) := by
  intro k
  induction k with
  | zero => intro x; rfl
  | succ k ih => intro x; exact ih (zst x)

set_option maxRecDepth 100000 in
theorem shift_any (x : BitVec 32) (w : World) : Calls Try.prog 18 #[.int .u32 (x.toNat : Int)] w fun e w' => e = .returned (.int .u32 ((zst x).toNat : Int)) ∧ w = w' := by
  have hx := x.isLt
  have e1 := and_u32 x.toNat 1 hx (by decide)
  have e2 : Hid (bits .xor .u32 ((x.toNat / 2 : Nat) : Int) ((3988292384 * (x.toNat % 2) : Nat) : Int) = ((zst x).toNat : Int)) := by
    rw [xor_u32 _ _ (by omega) (by omega), zst_toNat]; exact rfl
  rw [Nat.and_one_is_mod] at e1
  go_enter Try.func18, Try.ntmps18
  go_wp2
  go_ret
  refine ⟨ret_val ?_, rfl⟩
  show Value.int .u32 (bits .xor .u32 ((x.toNat : Int) / 2) (3988292384 * bits .and .u32 (x.toNat : Int) 1 % 4294967296)) = _
  have e1' : bits .and .u32 (x.toNat : Int) 1 = ((x.toNat % 2 : Nat) : Int) := e1
  rw [← e2.out, e1', show ((x.toNat : Int) / 2) = ((x.toNat / 2 : Nat) : Int) by omega, show (3988292384 * ((x.toNat % 2 : Nat) : Int) % 4294967296) = ((3988292384 * (x.toNat % 2) : Nat) : Int) by omega]
set_option maxHeartbeats 1600000 in
set_option maxRecDepth 100000 in
theorem More_any (x : BitVec 32) (a : Option Addr) (n cap : Nat) (xs : List UInt8) (w : World) (hn : n ≤ 1125899906842624) (hr : Rd w a n cap xs) : Calls Try.prog 11 #[.int .u32 (x.toNat : Int), .slice a n cap] w fun e w' => e = .returned (.int .u32 ((moreF x xs).toNat : Int)) ∧ w = w' := by
  have hx := x.isLt
  have hl := hr.len
  have HR := Lib.hid hr
  clear hr
  go_enter Try.func11, Try.ntmps11
  go_wp2_with fail
  obtain ⟨s0, hs0, hs1⟩ : ∃ s : BitVec 32, s = ~~~ x ∧ bits .xor .u32 IntKind.u32.max (x.toNat : Int) = (s.toNat : Int) := ⟨_, rfl, not_u32 x⟩
  rw [hs1]
  clear hs1
  have HS := Lib.hid hs0
  clear hs0
  go_loop [12, 5] (fun i s => ∃ (k : Nat) (y : BitVec 32), k ≤ n ∧ i = .int .i64 k ∧ s = .int .u32 (y.toNat : Int) ∧ (xs.drop k).foldl byteS y = xs.foldl byteS s0) (fun i _ => n - (intOf i).toNat)
  case atStart => exact ⟨0, s0, by omega, rfl, rfl, rfl⟩
  case round =>
    obtain ⟨k, y, hk, rfl, rfl, hf⟩ := hrel
    have HF := Lib.hid hf
    clear hf
    have hy := y.isLt
    by_cases hlt : k < n
    · obtain ⟨b, off, rfl, hb, hc⟩ := HR.out.mem (by have := HR.out.le; omega)
      have c := hc k hlt
      have hbl := (xs.getD k 0).toNat_lt
      obtain ⟨cv, hcv⟩ : ∃ cv, cv = xs.getD k 0 := ⟨_, rfl⟩
      rw [← hcv] at c hbl
      have HCV := Lib.hid hcv
      have X1 := xor_u32 y.toNat cv.toNat y.isLt (by omega)
      obtain ⟨z, hz⟩ : ∃ z : BitVec 32, z = y ^^^ BitVec.ofNat 32 cv.toNat := ⟨_, rfl⟩
      have hzn : y.toNat ^^^ cv.toNat = z.toNat := by
        rw [hz, BitVec.toNat_xor, BitVec.toNat_ofNat, Nat.mod_eq_of_lt (by omega)]
      have hcap := HR.out.le
      rw [hzn] at X1
      have HZ := Lib.hid hz
      clear hz hcv hzn hc
      go_upto_region 6 with fail
      go_wp2_with fail
      go_loop [20, 5] (fun i s => ∃ j : Nat, j ≤ 8 ∧ i = .int .i64 j ∧ s = .int .u32 ((zsts j z).toNat : Int)) (fun i _ => 8 - (intOf i).toNat)
      case atStart => exact ⟨0, by omega, rfl, rfl⟩
      case round =>
        obtain ⟨j, hj, rfl, rfl⟩ := hrel
        by_cases hlj : j < 8
        · have SH := shift_any (zsts j z)
          rw [← zsts_snoc] at SH
          go_wp2_with (go_at_call 18; refine (SH _).mono ?_; rintro e w' ⟨rfl, rfl⟩)
          go_roundw
          case rel => exact ⟨j + 1, by omega, by go_num, rfl⟩
          case measure => simp [intOf]; omega
        · obtain rfl : j = 8 := by omega
          go_wp2_with fail
          go_roundw
          case rel =>
            refine ⟨k + 1, zsts 8 z, by omega, by go_num, rfl, ?_⟩
            rw [← HF.out, HZ.out]
            conv => rhs; rw [List.drop_eq_getElem_cons (by have := HR.out.len; omega)]
            rw [List.foldl_cons]
            congr 1
            unfold byteS
            rw [HCV.out]
            simp [List.getD, HR.out.len, hlt]
          case measure => simp [intOf]; omega
    · obtain rfl : k = n := by omega
      go_wp2_with fail
      go_ret
      refine ⟨ret_val ?_, rfl⟩
      show Value.int .u32 (bits .xor .u32 IntKind.u32.max (y.toNat : Int)) = _
      rw [not_u32 y]
      unfold moreF
      rw [← HS.out, ← HF.out, List.drop_of_length_le (by omega)]
      rfl
end Go.Proofs.Ytocehaflgpljfaa
