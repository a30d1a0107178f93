/-
  The program's reader of letters, and a text without its padding. Conditions: those in each statement.
-/
import Derived.Test.YtpfhbkjjijmpaaaBaseA
import Derived.Test.YtpfhbkjjijmpaaaBaseR
import Derived.Test.YtpfhbkjjijmpaaaShelf
import Derived.RangeFuncBox
namespace Go.Proofs.Ytpfhbkjjijmpaaa
open Go.RowKit

theorem alpha_num : ∀ n : Fin 256, Lib.indexByte [65, 66, 67, 68, 69, 70, 71, 72, 73, 74, 75, 76, 77, 78, 79, 80, 81, 82, 83, 84, 85, 86, 87, 88, 89, 90, 97, 98, 99, 100, 101, 102, 103, 104, 105, 106, 107, 108, 109, 110, 111, 112, 113, 114, 115, 116, 117, 118, 119, 120, 121, 122, 48, 49, 50, 51, 52, 53, 54, 55, 56, 57, 43, 47] (UInt8.ofNat n) = numI (UInt8.ofNat n) := by decide +kernel
theorem alpha_any (c : UInt8) (w : World) : Calls Try.prog 14 #[.string ⟨#[65, 66, 67, 68, 69, 70, 71, 72, 73, 74, 75, 76, 77, 78, 79, 80, 81, 82, 83, 84, 85, 86, 87, 88, 89, 90, 97, 98, 99, 100, 101, 102, 103, 104, 105, 106, 107, 108, 109, 110, 111, 112, 113, 114, 115, 116, 117, 118, 119, 120, 121, 122, 48, 49, 50, 51, 52, 53, 54, 55, 56, 57, 43, 47]⟩, .int .u8 (c.toNat : Int)] w fun e w' => e = .returned (.int .i64 (numI c)) ∧ w' = w := by
  have h := Try.strings_IndexByte ⟨#[65, 66, 67, 68, 69, 70, 71, 72, 73, 74, 75, 76, 77, 78, 79, 80, 81, 82, 83, 84, 85, 86, 87, 88, 89, 90, 97, 98, 99, 100, 101, 102, 103, 104, 105, 106, 107, 108, 109, 110, 111, 112, 113, 114, 115, 116, 117, 118, 119, 120, 121, 122, 48, 49, 50, 51, 52, 53, 54, 55, 56, 57, 43, 47]⟩ (c.toNat : Int) w
  have e := alpha_num ⟨c.toNat, c.toNat_lt⟩
  simp only [u8_of] at e
  rw [show ((c.toNat : Int).toNat.toUInt8) = c from by simp] at h
  rw [← e]
  exact h

theorem str_index {P : Program} {t : TypeId} (ht : P.underlying t = some .string) (s : ByteArray) (i : Nat) (h : i < s.size) (w : World) :
    (Instr.index t (.string s) (.int .i64 (i : Int))).run P w = .ok (.int .u8 ((s.data.toList.getD i 0).toNat : Int)) w := by
  rw [run_index_string _ _ _ _ _ ht, dif_pos ⟨by omega, by omega⟩]
  have e : s.data.toList.getD i 0 = s[i] := by
    have hi : i < s.data.toList.length := by simpa using h
    rw [List.getD, List.getElem?_eq_getElem hi]
    rfl
  rw [e]
  rfl
theorem extract_tail (s : ByteArray) : (s.extract 1 s.size).data.toList = s.data.toList.drop 1 := by
  simp only [ByteArray.data_extract, Array.toList_extract, List.extract_eq_take_drop]
  rw [List.take_of_length_le]
  simp
theorem next_any (r : Nat) (s : ByteArray) (w : World) (hbx : Boxed w r 9 (.string s)) (hs : 0 < s.size) (hm : s.size ≤ 281474976710656) :
    Calls Try.prog 13 #[.pointer (some ⟨r, 0, none⟩)] w fun e w' => e = .returned (.tuple #[.int .u32 (numI (s.data.toList.getD 0 0) % 4294967296), .bool (isL (s.data.toList.getD 0 0))]) ∧
      ∃ t : ByteArray, t.data.toList = s.data.toList.drop 1 ∧ Boxed w' r 9 (.string t) ∧ w.grownBy w' (some r) := by
  have hc := hbx.cell
  have hf := hbx.frozen
  obtain ⟨c, hcd⟩ : ∃ c, c = s.data.toList.getD 0 0 := ⟨_, rfl⟩
  have hd : s.data[0]'hs = c := by
    rw [hcd, List.getD, List.getElem?_eq_getElem (by simpa using hs)]
    rfl
  have hd2 : s[0]'hs = c := hd
  rw [← hcd]
  clear hcd
  go_enter Try.func13, Try.ntmps13
  go_wp2_with (go_at_call 14; refine (alpha_any c _).mono ?_; rintro e w1 ⟨rfl, rfl⟩)
  have hge : decide (0 ≤ numI c) = isL c := by
    unfold numI
    cases isL c <;> simp
  rw [hge]
  go_ret2
  exact ⟨rfl, _, extract_tail s, hbx.set _, grownBy_setCell' _ _ _⟩

theorem suffix_pad (l : List UInt8) : Lib.hasSuffix l [61] = (decide (0 < l.length) && l.getD (l.length - 1) 0 == 61) := by
  unfold Lib.hasSuffix
  rw [Bool.eq_iff_iff, List.isSuffixOf_iff_suffix, Bool.and_eq_true, decide_eq_true_eq, beq_iff_eq]
  constructor
  · rintro ⟨t, rfl⟩
    refine ⟨by simp, ?_⟩
    simp [List.getD]
  · rintro ⟨h0, h⟩
    refine ⟨l.take (l.length - 1), ?_⟩
    apply List.ext_getElem
    · simp; omega
    · intro i h1 h2
      by_cases hi : i < l.length - 1
      · rw [List.getElem_append_left (by simp; omega), List.getElem_take]
      · have e : i = l.length - 1 := by omega
        subst e
        rw [List.getElem_append_right (by simp)]
        rw [List.getD_eq_getElem?_getD, List.getElem?_eq_getElem h2] at h
        simpa using h.symm
def trimP (l : List UInt8) : List UInt8 := Lib.trimSuffix l [61]
theorem trimP_eq (l : List UInt8) : trimP l = if 0 < l.length ∧ l.getD (l.length - 1) 0 = 61 then l.take (l.length - 1) else l := by
  unfold trimP Lib.trimSuffix
  rw [suffix_pad]
  by_cases h : 0 < l.length ∧ l.getD (l.length - 1) 0 = 61
  · rw [if_pos h, h.2, decide_eq_true h.1, if_pos (by decide)]
    rfl
  · rw [if_neg h, if_neg]
    intro e
    rw [Bool.and_eq_true, decide_eq_true_eq, beq_iff_eq] at e
    exact h e
theorem trimP_pad (l : List UInt8) (h4 : l.length % 4 = 0) : trimP (trimP l) = l.take (l.length - padN l) := by
  rw [trimP_eq l]
  unfold padN
  by_cases h0 : l.length = 0
  · have hl : l = [] := List.eq_nil_of_length_eq_zero h0
    subst hl
    rfl
  · rw [if_neg h0]
    by_cases h1 : l.getD (l.length - 1) 0 = 61
    · rw [if_pos ⟨by omega, h1⟩, if_pos h1, trimP_eq]
      have hl : (l.take (l.length - 1)).length = l.length - 1 := by rw [List.length_take]; omega
      have e : (l.take (l.length - 1)).getD (l.length - 1 - 1) 0 = l.getD (l.length - 2) 0 := by
        rw [List.getD_eq_getElem?_getD, List.getD_eq_getElem?_getD, List.getElem?_take, if_pos (by omega)]
        congr 2
      rw [hl, e]
      by_cases h2 : l.getD (l.length - 2) 0 = 61
      · rw [if_pos ⟨by omega, h2⟩, if_pos h2, List.take_take]
        congr 1
        omega
      · rw [if_neg (fun h => h2 h.2), if_neg h2]
    · rw [if_neg (fun h => h1 h.2), if_neg h1, trimP_eq, if_neg (fun h => h1 h.2)]
      simp

theorem trim_any (s : ByteArray) (w : World) (hs : s.size ≤ 281474976710656) : Calls Try.prog 21 #[.string s, .string ⟨#[61]⟩] w fun e w' => e = .returned (.string (bstr (trimP s.data.toList))) ∧ w' = w :=
  Try.strings_TrimSuffix s ⟨#[61]⟩ w (by omega)
theorem trimP_len (l : List UInt8) : (trimP l).length ≤ l.length := by
  rw [trimP_eq]
  split
  · simp
  · exact Nat.le_refl _
theorem bstr_data (l : List UInt8) : (bstr l).data.toList = l := rfl
theorem bstr_size (l : List UInt8) : (bstr l).size = l.length := rfl
theorem unpadded_any (s : ByteArray) (w : World) (hs : s.size ≤ 281474976710656) :
    Calls Try.prog 12 #[.string s] w fun e w' => e = .returned (.string (bstr (trimP (trimP s.data.toList)))) ∧ w' = w := by
  have k1 := Lib.hid (fun w => trim_any s w hs)
  have k2 := Lib.hid (fun w => trim_any (bstr (trimP s.data.toList)) w (by rw [bstr_size]; have := trimP_len s.data.toList; have : s.data.toList.length = s.size := (by simp); omega))
  rw [bstr_data] at k2
  obtain ⟨s1, h1⟩ : ∃ x, x = bstr (trimP s.data.toList) := ⟨_, rfl⟩
  obtain ⟨s2, h2⟩ : ∃ x, x = bstr (trimP (trimP s.data.toList)) := ⟨_, rfl⟩
  rw [← h1, ← h2] at k2
  rw [← h1] at k1
  rw [← h2]
  clear h1 h2 hs
  go_enter Try.func12, Try.ntmps12
  go_wp2_with fail
  go_loopw [0, 3] (fun t i wr => (i = .int .i64 0 ∧ t = .string s ∨ i = .int .i64 1 ∧ t = .string s1 ∨ i = .int .i64 2 ∧ t = .string s2) ∧ wr = w) (fun _ i _ => 2 - (intOf i).toNat)
  case atStart => exact ⟨.inl ⟨rfl, rfl⟩, rfl⟩
  case round =>
    obtain ⟨h, rfl⟩ := hrel
    rcases h with ⟨rfl, rfl⟩ | ⟨rfl, rfl⟩ | ⟨rfl, rfl⟩
    · go_wp2_with (go_at_call 21; refine (k1.out _).mono ?_; rintro e w1 ⟨rfl, rfl⟩)
      go_roundw
      case rel => exact ⟨.inr (.inl ⟨rfl, rfl⟩), trivial⟩
      case measure => simp [intOf]
    · go_wp2_with (go_at_call 21; refine (k2.out _).mono ?_; rintro e w1 ⟨rfl, rfl⟩)
      go_roundw
      case rel => exact ⟨.inr (.inr ⟨rfl, rfl⟩), trivial⟩
      case measure => simp [intOf]
    · go_wp2_with fail
      go_ret
      exact ⟨rfl, rfl⟩
end Go.Proofs.Ytpfhbkjjijmpaaa
