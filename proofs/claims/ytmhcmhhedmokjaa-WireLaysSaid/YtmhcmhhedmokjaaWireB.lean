/-
  Package wire (Vec, readers), the document's own answers for it, and bytes.Equal: a contract for each function. Conditions: those in each statement.
-/
import Derived.Test.YtmhcmhhedmokjaaWire
import Derived.BigQuiet
import Derived.Deep.QuietTactic
import Derived.Laws.BytesArg
namespace Go.Proofs.Ytmhcmhhedmokjaa
open Go.RowKit

set_option maxHeartbeats 400000 in
theorem Vec_any (a a' : Option Addr) (n cap n' cap' : Nat) (size : Int) (xs ys : List UInt8) (w : World) (hm : n ≤ 140737488351232) (hm' : n' ≤ 140737488351232) (hr : Rd w a n cap xs) (hr' : Rd w a' n' cap' ys) :
    Calls Try.prog 7 #[.slice a n cap, .slice a' n' cap', .int .i64 size] w (BRes w (vecF xs ys size)) := by
  have hl' := hr'.len
  unfold vecF
  rw [hl']
  cases hs : vecB size with
  | false =>
    have H := isVec_any size
    rw [hs] at H
    go_enter Try.func7, Try.ntmps7
    go_wp2_with (go_at_call 25; refine (H _).mono ?_; rintro e w' ⟨rfl, rfl⟩)
    go_ret2
    exact ⟨_, rfl, Own.nil _ _ _, Below.refl _ _⟩
  | true =>
    have hz := vec_size size hs
    obtain ⟨k, rfl, hk1, hk8⟩ := size_of size hz
    have H := isVec_any k
    rw [hs] at H
    have H2 := fun w => isNum_any n' k w (by omega) hz
    simp only [if_true, Int.toNat_natCast]
    cases hb : decide (n' < 256 ^ k) <;> rw [hb] at H2
    · have hb' : ¬ n' < 256 ^ k := by simpa using hb
      rw [if_neg hb']
      clear hb hb'
      go_enter Try.func7, Try.ntmps7
      go_wp2_with (first | (go_at_call 25; refine (H _).mono ?_; rintro e w' ⟨rfl, rfl⟩) | (go_at_call 21; refine (H2 _).mono ?_; rintro e w' ⟨rfl, rfl⟩))
      go_ret2
      exact ⟨_, rfl, Own.nil _ _ _, Below.refl _ _⟩
    · have hb' : n' < 256 ^ k := by simpa using hb
      rw [if_pos hb']
      clear hb hb'
      go_enter Try.func7, Try.ntmps7
      go_wp2_with (first | (go_at_call 25; refine (H _).mono ?_; rintro e w' ⟨rfl, rfl⟩) | (go_at_call 21; refine (H2 _).mono ?_; rintro e w' ⟨rfl, rfl⟩) | (go_at_call 22; refine (lay_any a a' n cap n' cap' k n' xs ys _ hm hm' hz hr hr').mono ?_; rintro e w' ⟨v, rfl, ho, hb⟩))
      go_ret2
      exact ⟨_, rfl, ho, hb⟩

theorem sized_any (n : Int) (w : World) :
    Calls Try.prog 23 #[.int .i64 n] w fun e w' => e = .returned (.bool (sizeB n)) ∧ w = w' := by
  have hs : sizeB n = ((n == 1) || (n == 2) || (n == 3) || (n == 4) || (n == 8)) := by
    unfold sizeB
    rw [Bool.eq_iff_iff]
    simp
    omega
  rw [hs]
  clear hs
  cases h1 : (n == 1) <;> cases h2 : (n == 2) <;> cases h3 : (n == 3) <;> cases h4 : (n == 4) <;> cases h8 : (n == 8)
  all_goals
    go_enter Try.func23, Try.ntmps23
    go_wp2
    go_ret
    exact ⟨rfl, rfl⟩

theorem own_any (a : Option Addr) (n cap : Nat) (xs : List UInt8) (w : World) (hm : n ≤ 140737488355328) (hr : Rd w a n cap xs) :
    Calls Try.prog 24 #[.slice a n cap] w fun e w' => ∃ v, e = .returned v ∧ Own w' w.heap.size 5 v xs ∧ Below w.heap.size w w' := by
  have h0 := Own.nil w w.heap.size 5
  go_enter Try.func24, Try.ntmps24
  go_wp2_with (at_builtin; refine wl_append bt rfl (.tmp 4) (.tmp 5) rfl w.heap.size _ _ h0 rfl a n cap xs rfl hr (by simpa using hm) (Nat.le_refl _) ?_; intro v1 w1 ho1 hb1)
  go_ret
  exact ⟨_, rfl, ho1, hb1⟩

theorem down_step (num k j : Nat) (h : j < k) : (List.replicate (k - j) 0 ++ (digits num k).drop (k - j)).set (k - 1 - j) (digit num k (k - 1 - j)) = List.replicate (k - (j + 1)) 0 ++ (digits num k).drop (k - (j + 1)) := by
  have hl := digits_len num k
  have e : k - j = (k - (j + 1)) + 1 := by omega
  have hi : k - (j + 1) < (digits num k).length := by omega
  rw [e, List.replicate_succ', List.append_assoc, List.set_append_right _ _ (by simp; omega), List.length_replicate, show k - 1 - j - (k - (j + 1)) = 0 from by omega]
  congr 1
  rw [List.drop_eq_getElem_cons hi]
  simp [digits, show k - (j + 1) = k - 1 - j from by omega]

/-- the bytes of a number, laid from the last one on -/
theorem refNum_any (a : Option Addr) (n cap num : Nat) (size : Int) (xs : List UInt8) (w : World) (hm : n ≤ 140737488351232) (hnum : num ≤ 18446744073709551615) (hr : Rd w a n cap xs) :
    Calls Try.prog 6 #[.slice a n cap, .int .u64 num, .int .i64 size] w (BRes w (numF xs num size)) := by
  cases hs : sizeB size with
  | false =>
    have e0 : numF xs num size = ([], 1) := by simp [numF, hs]
    rw [e0]
    clear e0
    have H := sized_any size
    rw [hs] at H
    go_enter Try.func6, Try.ntmps6
    go_wp2_with (go_at_call 23; refine (H _).mono ?_; rintro e w' ⟨rfl, rfl⟩)
    go_ret2
    exact ⟨_, rfl, Own.nil _ _ _, Below.refl _ _⟩
  | true =>
    obtain ⟨k, rfl, hk1, hk8⟩ := size_of size hs
    have H := sized_any k
    rw [hs] at H
    go_enter Try.func6, Try.ntmps6
    go_wp2_with (first
      | (go_at_call 23; refine (H _).mono ?_; rintro e w' ⟨rfl, rfl⟩)
      | (at_make; refine wl_make bt rfl _ _ rfl w.heap.size k rfl rfl (by omega) (Nat.le_refl _) ?_; intro w1 ho1 hb1 hs1))
    generalize hB : w.heap.size = B at *
    have HB := Lib.hid hB
    clear hB
    have hdl := digits_len num k
    go_loopw [1, 9] (fun x i wr => ∃ j q : Nat, j ≤ k ∧ Hid (q = num / 256 ^ j) ∧ q ≤ 18446744073709551615 ∧ i = .int .i64 ((k : Int) - 1 - j) ∧ x = .int .u64 (q : Int) ∧ Own wr B 5 (.slice (some ⟨B, 0, none⟩) k k) (List.replicate (k - j) 0 ++ (digits num k).drop (k - j)) ∧ Below B w wr) (fun x i _ => (intOf i + 1).toNat)
    case atStart => exact ⟨0, num, Nat.zero_le _, (by simp : num = num / 256 ^ 0), hnum, by go_num, rfl, by simpa [List.drop_of_length_le (Nat.le_of_eq hdl)] using ho1, hb1⟩
    case round =>
      obtain ⟨j, q, hj, Hq, hq, rfl, rfl, ho, hb⟩ := hrel
      by_cases hlt : j < k
      · have hcl := Own.cellAt ho (k - 1 - j) (by omega)
        have hfr := Own.frozenAt ho (k - 1 - j)
        have hst := Own.stored ho (k - 1 - j) (digit num k (k - 1 - j))
        rw [down_step num k j hlt] at hst
        have hd : (((digit num k (k - 1 - j)).toNat : Nat) : Int) = (q : Int) % 256 := by
          simp only [digit, UInt8.toNat_ofNat', show k - 1 - (k - 1 - j) = j from by omega]
          rw [← Hq.out]; omega
        rw [hd] at hst
        have Hq' : Hid (q / 256 = num / 256 ^ (j + 1)) := by
          show _ = _
          rw [Hq.out, Nat.div_div_eq_div_mul, Nat.pow_succ]
        go_wp2
        go_roundw
        case rel => exact ⟨j + 1, q / 256, by omega, Hq', by omega, by go_num, by go_num, by simpa using hst, hb.setCell (Nat.le_refl _) _⟩
        case measure => simp [intOf]; omega
      · obtain rfl : j = k := by omega
        clear hlt
        simp only [Nat.sub_self, List.replicate_zero, List.nil_append, List.drop_zero] at ho
        have hbw : Below w.heap.size w wr := by rw [HB.out]; exact hb
        have hro := hr.to hbw
        by_cases hq0 : 0 < q
        · have e0 : numF xs num j = ([], 3) := by
            have : ¬ num < 256 ^ j := by
              intro h; have := Nat.div_eq_of_lt h; have := Hq.out; omega
            simp [numF, hs, this]
          have H0 := Lib.hid e0
          clear e0
          go_wp2
          go_ret2
          rw [H0.out]
          exact ⟨_, rfl, Own.nil _ _ _, hbw⟩
        · have e0 : numF xs num j = (xs ++ digits num j, 0) := by
            have : num < 256 ^ j := by
              have h1 := Hq.out
              have h2 : num / 256 ^ j = 0 := by omega
              exact (Nat.div_eq_zero_iff_lt (Nat.pow_pos (by omega))).1 h2
            simp [numF, hs, this]
          have H0 := Lib.hid e0
          clear e0
          have hxl := hr.len
          have hrd := ho.rd
          go_wp2_with (first
            | (go_at_call 24; refine (own_any a n cap xs _ (by omega) hro).mono ?_; rintro e w2 ⟨v2, rfl, ho2, hb2⟩)
            | (at_builtin; go_loud (refine wl_append bt rfl (.tmp 32) (.tmp 33) rfl wr.heap.size v2 xs ho2 rfl _ _ _ (digits num j) rfl (hrd.toRd.to hb2) (by omega) hb2.size ?_); intro v3 w3 ho3 hb3))
          go_ret2
          rw [H0.out]
          exact ⟨_, rfl, ho3.mono hbw.size, hbw.trans ((hb2.trans hb3).mono hbw.size)⟩

theorem Equal_any (a a' : Option Addr) (n cap n' cap' : Nat) (xs ys : List UInt8) (w : World) (hr : Rd w a n cap xs) (hr' : Rd w a' n' cap' ys) :
    Calls Try.prog 9 #[.slice a n cap, .slice a' n' cap'] w fun e w' => e = .returned (.bool (decide (xs = ys))) ∧ w = w' := by
  have h1 := run_bstr bt Try.underlying9 hr
  have h2 := run_bstr bt Try.underlying9 hr'
  go_enter Try.func9, Try.ntmps9
  go_wp2
  go_ret
  refine ⟨ret_bool ?_, rfl⟩
  rw [Bool.eq_iff_iff]
  simp [bstr_toList]
end Go.Proofs.Ytmhcmhhedmokjaa
