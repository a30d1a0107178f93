/-
  The document's sum. Conditions: those in each statement.
-/
import Derived.Test.YtocehaflgpljfaaCrF
namespace Go.Proofs.Ytocehaflgpljfaa
open Go.RowKit

theorem byb_len : ∀ (xs : List UInt8), (byb xs).length = 8 * xs.length := by
  intro xs
  induction xs with
  | nil => rfl
  | cons c xs ih =>
    show (bitsB c ++ byb xs).length = _
    rw [List.length_append, ih]
    simp [bitsB]; omega
theorem byb_get : ∀ (xs : List UInt8) (q r : Nat), q < xs.length → r < 8 → (byb xs)[8 * q + r]? = some ((xs.getD q 0).toNat.testBit r) := by
  intro xs
  induction xs with
  | nil => intro q r h; cases h
  | cons c xs ih =>
    intro q r h hr
    show (bitsB c ++ byb xs)[8 * q + r]? = _
    have hb : (bitsB c).length = 8 := by simp [bitsB]
    cases q with
    | zero =>
      rw [List.getElem?_append_left (by omega)]
      simp [bitsB, hr]
    | succ q =>
      rw [List.getElem?_append_right (by omega), hb, show 8 * (q + 1) + r - 8 = 8 * q + r by omega, ih q r (by simpa using h) hr]
      simp
theorem doc_len (bs : List Bool) : (docBits bs).length = bs.length + 32 := by simp [docBits]; omega
theorem doc_get (bs : List Bool) (i : Nat) (hi : i < bs.length + 32) : (docBits bs)[i]? = some (((bs ++ List.replicate 32 false).getD i false) ^^ decide (i < 32)) := by
  unfold docBits
  have hl : (bs ++ List.replicate 32 false).length = bs.length + 32 := by simp
  generalize bs ++ List.replicate 32 false = z at *
  have hg : z[i]? = some (z.getD i false) := by
    rw [List.getElem?_eq_getElem (by omega), List.getD, List.getElem?_eq_getElem (by omega)]; rfl
  by_cases h : i < 32
  · rw [List.getElem?_append_left (by simp; omega), List.getElem?_map, List.getElem?_take, if_pos h, hg]
    simp [h]
  · rw [List.getElem?_append_right (by simp; omega)]
    simp only [List.length_map, List.length_take]
    rw [show i - min 32 z.length = i - 32 by omega, List.getElem?_drop, show 32 + (i - 32) = i by omega, hg]
    simp [h]
/-- the document's bit of number i -/
def docBit (xs : List UInt8) (i : Nat) : Bool := (decide (i < 8 * xs.length) && (xs.getD (i / 8) 0).toNat.testBit (i % 8)) ^^ decide (i < 32)
theorem doc_bit (xs : List UInt8) (i : Nat) (hi : i < 8 * xs.length + 32) : (docBits (byb xs))[i]? = some (docBit xs i) := by
  have hl := byb_len xs
  rw [doc_get _ i (by omega)]
  unfold docBit
  by_cases h : i < 8 * xs.length
  · have := byb_get xs (i / 8) (i % 8) (by omega) (by omega)
    rw [show 8 * (i / 8) + i % 8 = i by omega] at this
    rw [List.getD, List.getElem?_append_left (by omega), this]
    simp [h]
  · rw [List.getD, List.getElem?_append_right (by omega), List.getElem?_replicate, if_pos (by omega), decide_eq_false h]
    rfl
/-- the rest behind i bits -/
def restX (xs : List UInt8) (i : Nat) : BitVec 32 := ((docBits (byb xs)).take i).foldl rst 0#32
theorem restX_step (xs : List UInt8) (i : Nat) (hi : i < 8 * xs.length + 32) : restX xs (i + 1) = rst (restX xs i) (docBit xs i) := by
  unfold restX
  have h := doc_bit xs i hi
  rw [List.take_add_one, h, List.foldl_append]
  rfl
theorem restX_all (xs : List UInt8) : ~~~ (restX xs (8 * xs.length + 32)) = sumF xs := by
  unfold restX
  have h := doc_len (byb xs)
  rw [byb_len] at h
  rw [List.take_of_length_le (by omega), doc_sum, sumF_bits]
theorem xor_u64 (a b : Nat) (ha : a < 18446744073709551616) (hb : b < 18446744073709551616) : bits .xor .u64 (a : Int) (b : Int) = ((a ^^^ b : Nat) : Int) := by
  have e1 : a % 2 ^ 64 = a := Nat.mod_eq_of_lt (by simpa using ha)
  have e2 : b % 2 ^ 64 = b := Nat.mod_eq_of_lt (by simpa using hb)
  have hlt : a ^^^ b < 2 ^ 64 := Nat.xor_lt_two_pow (by simpa using ha) (by simpa using hb)
  have hw : IntKind.u64.bits = 64 := rfl
  simp only [bits, hw, BitVec.ofInt_natCast, BitVec.toNat_xor, BitVec.toNat_ofNat, e1, e2]
  rw [IntKind.wrap_u64]
  omega
theorem and_one_u64 (a : Nat) (ha : a < 18446744073709551616) : bits .and .u64 (a : Int) 1 = ((a % 2 : Nat) : Int) := by
  have := (bits_nat .u64 64 (by decide) (fun n h0 h1 => by rw [IntKind.wrap_u64]; omega) a 1 (by simpa using ha) (by decide)).1
  rw [Nat.and_one_is_mod] at this
  exact this
theorem bit_u64 (c r : Nat) (hc : c < 18446744073709551616) : bits .and .u64 ((c : Int) / 2 ^ r) 1 = (((c.testBit r).toNat : Nat) : Int) := by
  rw [show ((c : Int) / 2 ^ r) = ((c / 2 ^ r : Nat) : Int) by simp, and_one_u64 _ (Nat.lt_of_le_of_lt (Nat.div_le_self _ _) hc), Nat.testBit_eq_decide_div_mod_eq]
  rcases Nat.mod_two_eq_zero_or_one (c / 2 ^ r) with e | e <;> rw [e] <;> rfl
theorem docBit_cases (xs : List UInt8) (k n : Nat) (hn : xs.length = n) :
    (k < 8 * n → ∃ B0 : Nat, B0 = ((xs.getD (k / 8) 0).toNat.testBit (k % 8)).toNat ∧ bits .and .u64 (((xs.getD (k / 8) 0).toNat : Int) / 2 ^ (k % 8)) 1 = (B0 : Int)) ∧
    (k < 8 * n → ¬ k < 32 → ∀ B0 : Nat, B0 = ((xs.getD (k / 8) 0).toNat.testBit (k % 8)).toNat → B0 = (docBit xs k).toNat) ∧
    (k < 8 * n → k < 32 → ∀ B0 : Nat, B0 = ((xs.getD (k / 8) 0).toNat.testBit (k % 8)).toNat → bits .xor .u64 (B0 : Int) 1 = (((docBit xs k).toNat : Nat) : Int)) ∧
    (¬ k < 8 * n → k < 32 → bits .xor .u64 0 1 = (((docBit xs k).toNat : Nat) : Int)) ∧
    (¬ k < 8 * n → ¬ k < 32 → (docBit xs k).toNat = 0) := by
  subst hn
  have hb := (xs.getD (k / 8) 0).toNat_lt
  refine ⟨fun h => ⟨_, rfl, bit_u64 _ _ (by omega)⟩, fun h h' B0 e => ?_, fun h h' B0 e => ?_, fun h h' => ?_, fun h h' => ?_⟩
  · subst e
    unfold docBit
    simp [h, h']
  · subst e
    unfold docBit
    rw [decide_eq_true h, decide_eq_true h']
    cases (xs.getD (k / 8) 0).toNat.testBit (k % 8) <;> decide +kernel
  · unfold docBit
    rw [decide_eq_false h, decide_eq_true h', Bool.false_and]
    decide +kernel
  · unfold docBit
    rw [decide_eq_false h, decide_eq_false h']
    rfl
theorem outR_lt {n : Nat} {x : BitVec 32} (h : RelR n x) (k : Nat) (hk : k ≤ 32) : outR n k < 4294967296 := by
  rw [outR_step h k hk]
  exact Nat.lt_of_le_of_lt (Nat.div_mul_le_self _ _) (~~~x).isLt
set_option maxHeartbeats 1600000 in
set_option maxRecDepth 100000 in
theorem rSum_any (a : Option Addr) (n cap : Nat) (xs : List UInt8) (w : World) (hn : n ≤ 1125899906842624) (hr : Rd w a n cap xs) : Calls Try.prog 10 #[.slice a n cap] w fun e w' => e = .returned (.int .u32 ((sumF xs).toNat : Int)) ∧ w = w' := by
  have hl := hr.len
  have HR := Lib.hid hr
  clear hr
  go_enter Try.func10, Try.ntmps10
  go_wp2_with fail
  go_loop [4, 3] (fun i s => ∃ (k m : Nat), k ≤ 8 * n + 32 ∧ i = .int .i64 k ∧ s = .int .u64 m ∧ RelR m (restX xs k)) (fun i _ => 8 * n + 32 - (intOf i).toNat)
  case atStart => exact ⟨0, 0, by omega, rfl, rfl, relR_zero⟩
  case round =>
    obtain ⟨k, m, hk, rfl, rfl, hf⟩ := hrel
    have hm := hf.1
    have HF := Lib.hid hf
    clear hf
    by_cases hlt : k < 8 * n + 32
    · have HK := docBit_cases xs k n HR.out.len
      obtain ⟨z, hz⟩ : ∃ z : Nat, z = (docBit xs k).toNat := ⟨_, rfl⟩
      have hz1 : z ≤ 1 := by rw [hz]; cases docBit xs k <;> decide
      rw [← hz] at HK
      have HZ := Lib.hid hz
      clear hz
      by_cases h8 : k < 8 * n <;> by_cases h32 : k < 32
      · obtain ⟨b, off, rfl, hb, hc⟩ := HR.out.mem (by have := HR.out.le; omega)
        have c := hc (k / 8) (by omega)
        have hcap := HR.out.le
        obtain ⟨cv, hcv⟩ : ∃ cv, cv = xs.getD (k / 8) 0 := ⟨_, rfl⟩
        have hbl := cv.toNat_lt
        rw [← hcv] at c HK
        obtain ⟨B0, hB, X1⟩ := HK.1 h8
        have X2 := HK.2.2.1 h8 h32 B0 hB
        have HB := Lib.hid hB
        clear hc hcv HK hB
        by_cases h1 : (2 * m + z) / 2 ^ 32 = 1
        · have hT : ((2 * (m : Int) + (z : Int)) / 4294967296 == 1) = true := by simp; omega
          obtain ⟨m2, hm2⟩ : ∃ m2, m2 = (2 * m + z) ^^^ 0x104c11db7 := ⟨_, rfl⟩
          have X3 : bits .xor .u64 (2 * (m : Int) + (z : Int)) 4374732215 = (m2 : Int) := by
            rw [hm2]
            exact xor_u64 (2 * m + z) 4374732215 (by omega) (by decide)
          have HM := Lib.hid hm2
          have H1 := Lib.hid h1
          clear hm2 h1
          go_wp2_with fail
          go_roundw
          case rel => exact ⟨k + 1, m2, by omega, by go_num, rfl, by rw [restX_step _ _ (by rw [HR.out.len]; exact hlt)]; have h := rel_step HF.out (docBit xs k); rw [← HZ.out, if_pos H1.out, ← HM.out] at h; exact h⟩
          case measure => simp [intOf]; omega
        · have hT : ((2 * (m : Int) + (z : Int)) / 4294967296 == 1) = false := by simp; omega
          have H1 := Lib.hid h1
          clear h1
          go_wp2_with fail
          go_roundw
          case rel => exact ⟨k + 1, 2 * m + z, by omega, by go_num, by go_num, by rw [restX_step _ _ (by rw [HR.out.len]; exact hlt)]; have h := rel_step HF.out (docBit xs k); rw [← HZ.out, if_neg H1.out] at h; exact h⟩
          case measure => simp [intOf]; omega
      · obtain ⟨b, off, rfl, hb, hc⟩ := HR.out.mem (by have := HR.out.le; omega)
        have c := hc (k / 8) (by omega)
        have hcap := HR.out.le
        obtain ⟨cv, hcv⟩ : ∃ cv, cv = xs.getD (k / 8) 0 := ⟨_, rfl⟩
        have hbl := cv.toNat_lt
        rw [← hcv] at c HK
        obtain ⟨B0, hB, X1⟩ := HK.1 h8
        obtain rfl := (HK.2.1 h8 h32 B0 hB).symm
        clear hc hcv HK hB
        by_cases h1 : (2 * m + z) / 2 ^ 32 = 1
        · have hT : ((2 * (m : Int) + (z : Int)) / 4294967296 == 1) = true := by simp; omega
          obtain ⟨m2, hm2⟩ : ∃ m2, m2 = (2 * m + z) ^^^ 0x104c11db7 := ⟨_, rfl⟩
          have X3 : bits .xor .u64 (2 * (m : Int) + (z : Int)) 4374732215 = (m2 : Int) := by
            rw [hm2]
            exact xor_u64 (2 * m + z) 4374732215 (by omega) (by decide)
          have HM := Lib.hid hm2
          have H1 := Lib.hid h1
          clear hm2 h1
          go_wp2_with fail
          go_roundw
          case rel => exact ⟨k + 1, m2, by omega, by go_num, rfl, by rw [restX_step _ _ (by rw [HR.out.len]; exact hlt)]; have h := rel_step HF.out (docBit xs k); rw [← HZ.out, if_pos H1.out, ← HM.out] at h; exact h⟩
          case measure => simp [intOf]; omega
        · have hT : ((2 * (m : Int) + (z : Int)) / 4294967296 == 1) = false := by simp; omega
          have H1 := Lib.hid h1
          clear h1
          go_wp2_with fail
          go_roundw
          case rel => exact ⟨k + 1, 2 * m + z, by omega, by go_num, by go_num, by rw [restX_step _ _ (by rw [HR.out.len]; exact hlt)]; have h := rel_step HF.out (docBit xs k); rw [← HZ.out, if_neg H1.out] at h; exact h⟩
          case measure => simp [intOf]; omega
      · have X2 := HK.2.2.2.1 h8 h32
        clear HK
        by_cases h1 : (2 * m + z) / 2 ^ 32 = 1
        · have hT : ((2 * (m : Int) + (z : Int)) / 4294967296 == 1) = true := by simp; omega
          obtain ⟨m2, hm2⟩ : ∃ m2, m2 = (2 * m + z) ^^^ 0x104c11db7 := ⟨_, rfl⟩
          have X3 : bits .xor .u64 (2 * (m : Int) + (z : Int)) 4374732215 = (m2 : Int) := by
            rw [hm2]
            exact xor_u64 (2 * m + z) 4374732215 (by omega) (by decide)
          have HM := Lib.hid hm2
          have H1 := Lib.hid h1
          clear hm2 h1
          go_wp2_with fail
          go_roundw
          case rel => exact ⟨k + 1, m2, by omega, by go_num, rfl, by rw [restX_step _ _ (by rw [HR.out.len]; exact hlt)]; have h := rel_step HF.out (docBit xs k); rw [← HZ.out, if_pos H1.out, ← HM.out] at h; exact h⟩
          case measure => simp [intOf]; omega
        · have hT : ((2 * (m : Int) + (z : Int)) / 4294967296 == 1) = false := by simp; omega
          have H1 := Lib.hid h1
          clear h1
          go_wp2_with fail
          go_roundw
          case rel => exact ⟨k + 1, 2 * m + z, by omega, by go_num, by go_num, by rw [restX_step _ _ (by rw [HR.out.len]; exact hlt)]; have h := rel_step HF.out (docBit xs k); rw [← HZ.out, if_neg H1.out] at h; exact h⟩
          case measure => simp [intOf]; omega
      · have hz0 := HK.2.2.2.2 h8 h32
        obtain rfl := hz0
        clear HK
        by_cases h1 : (2 * m) / 2 ^ 32 = 1
        · have hT : ((2 * (m : Int)) / 4294967296 == 1) = true := by simp; omega
          obtain ⟨m2, hm2⟩ : ∃ m2, m2 = (2 * m) ^^^ 0x104c11db7 := ⟨_, rfl⟩
          have X3 : bits .xor .u64 (2 * (m : Int)) 4374732215 = (m2 : Int) := by
            rw [hm2]
            exact xor_u64 (2 * m) 4374732215 (by omega) (by decide)
          have HM := Lib.hid hm2
          have H1 := Lib.hid h1
          clear hm2 h1
          go_wp2_with fail
          go_roundw
          case rel => exact ⟨k + 1, m2, by omega, by go_num, rfl, by rw [restX_step _ _ (by rw [HR.out.len]; exact hlt)]; have h := rel_step HF.out (docBit xs k); rw [← HZ.out, Nat.add_zero, if_pos H1.out, ← HM.out] at h; exact h⟩
          case measure => simp [intOf]; omega
        · have hT : ((2 * (m : Int)) / 4294967296 == 1) = false := by simp; omega
          have H1 := Lib.hid h1
          clear h1
          go_wp2_with fail
          go_roundw
          case rel => exact ⟨k + 1, 2 * m, by omega, by go_num, by go_num, by rw [restX_step _ _ (by rw [HR.out.len]; exact hlt)]; have h := rel_step HF.out (docBit xs k); rw [← HZ.out, Nat.add_zero, if_neg H1.out] at h; exact h⟩
          case measure => simp [intOf]; omega
    · obtain rfl : k = 8 * n + 32 := by omega
      have HS : Hid (outR m 32 = (sumF xs).toNat) := by
        show outR m 32 = _
        rw [outR_all HF.out, ← restX_all, HR.out.len]
      clear hlt hk
      go_wp2_with fail
      go_loop [7, 6] (fun i s => ∃ (k : Nat), k ≤ 32 ∧ i = .int .i64 k ∧ s = .int .u32 (outR m k)) (fun i _ => 32 - (intOf i).toNat)
      case atStart => exact ⟨0, by omega, rfl, rfl⟩
      case round =>
        obtain ⟨k, hk, rfl, rfl⟩ := hrel
        by_cases hlt : k < 32
        · have hO := outR_lt HF.out (k + 1) (by omega)
          have hO2 := outR_lt HF.out k (by omega)
          have X1 := bit_u64 m k (by omega)
          have hstep : Hid (outR m (k + 1) = outR m k + (if m.testBit k then 0 else 2 ^ (31 - k))) := rfl
          obtain ⟨o2, ho2⟩ : ∃ o2, o2 = outR m (k + 1) := ⟨_, rfl⟩
          obtain ⟨o1, ho1⟩ : ∃ o1, o1 = outR m k := ⟨_, rfl⟩
          rw [← ho2] at hO hstep
          rw [← ho1] at hO2 hstep ⊢
          have HO2 := Lib.hid ho2
          have HO1 := Lib.hid ho1
          clear ho1 ho2
          cases hb : m.testBit k with
          | true =>
            have e : o1 = o2 := by rw [hstep.out, hb]; rfl
            rw [hb] at X1
            have X2 : bits .and .u64 ((m : Int) / 2 ^ k) 1 = 1 := X1
            clear X1 hb
            go_wp2_with fail
            go_roundw
            case rel => exact ⟨k + 1, by omega, by go_num, by rw [← HO2.out, e]⟩
            case measure => simp [intOf]; omega
          | false =>
            have e : o1 + 2 ^ (31 - k) = o2 := by rw [hstep.out, hb]; rfl
            rw [hb] at X1
            have X2 : bits .and .u64 ((m : Int) / 2 ^ k) 1 = 0 := X1
            obtain ⟨p, hp⟩ : ∃ p, p = 2 ^ (31 - k) := ⟨_, rfl⟩
            rw [← hp] at e
            have HE := Lib.hid e
            have HP := Lib.hid hp
            have hpl : p < 4294967296 := by omega
            clear X1 hb e hp
            go_wp2_with fail
            go_roundw
            case rel =>
              refine ⟨k + 1, by omega, by go_num, ?_⟩
              rw [← HO2.out]
              have e3 : ((2 : Int) ^ (31 - k)) = (p : Int) := by rw [HP.out]; simp
              have e4 := HE.out
              show Value.int .u32 (((o1 : Int) + 2 ^ (31 - k) % 4294967296) % 4294967296) = _
              rw [e3]
              congr 1
              omega
            case measure => simp [intOf]; omega
        · obtain rfl : k = 32 := by omega
          go_wp2_with fail
          go_ret
          refine ⟨ret_val ?_, rfl⟩
          show Value.int .u32 ((outR m 32 : Nat) : Int) = _
          rw [HS.out]
end Go.Proofs.Ytocehaflgpljfaa
