/-
  Package wire: a contract for each function. Conditions: those in each statement.
-/
import Derived.Test.YtmhcmhhedmokjaaBytes
import Derived.ProofKit
import Derived.Outline
namespace Go.Proofs.Ytmhcmhhedmokjaa
open Go.RowKit

theorem bt : BT Try.prog 22 5 := ⟨Try.underlying22, Try.underlying5, by kernel_rfl⟩

/-- the number that bytes are, the highest first -/
def beNat (xs : List UInt8) : Nat := xs.foldl (fun n x => 256 * n + x.toNat) 0
def vecB (n : Int) : Bool := decide (1 ≤ n ∧ n ≤ 3)
def sizeB (n : Int) : Bool := decide ((1 ≤ n ∧ n ≤ 3) ∨ n = 4 ∨ n = 8)
/-- the byte of n at place i of size -/
def digit (n size i : Nat) : UInt8 := UInt8.ofNat (n / 256 ^ (size - 1 - i))
def digits (n size : Nat) : List UInt8 := (List.range size).map (digit n size)

theorem beNat_snoc (xs : List UInt8) (x : UInt8) : beNat (xs ++ [x]) = 256 * beNat xs + x.toNat := by simp [beNat]
theorem beNat_lt (xs : List UInt8) : beNat xs < 256 ^ xs.length := by
  suffices h : ∀ (xs : List UInt8) (n : Nat), xs.foldl (fun n x => 256 * n + x.toNat) n < (n + 1) * 256 ^ xs.length by simpa [beNat] using h xs 0
  intro xs
  induction xs with
  | nil => intro n; simp
  | cons x xs ih =>
    intro n
    have hx := x.toNat_lt
    refine Nat.lt_of_lt_of_le (ih _) ?_
    rw [List.length_cons, Nat.pow_succ, Nat.mul_comm (256 ^ _) 256, ← Nat.mul_assoc]
    exact Nat.mul_le_mul_right _ (by show 256 * n + x.toNat + 1 ≤ _; omega)
theorem ret_bool {a b : Bool} (h : a = b) : Ending.returned (.bool a) = .returned (.bool b) := by rw [h]
theorem ret_int {k : IntKind} {a b : Int} (h : a = b) : Ending.returned (.int k a) = .returned (.int k b) := by rw [h]
theorem take_succ_getD (xs : List UInt8) (k : Nat) (h : k < xs.length) : xs.take (k + 1) = xs.take k ++ [xs[k]] := by
  rw [List.take_succ_eq_append_getElem h]
theorem or_byte (a b : Nat) (hb : b < 256) (ha : a < 72057594037927936) : bits BinOp.or IntKind.u64 ((a : Int) * 256) ((b : Nat) : Int) = ((256 * a + b : Nat) : Int) := by
  have e : (a : Int) * 256 = ((a * 256 : Nat) : Int) := by omega
  rw [e, bits_or_u64_nat _ _ (by omega) (by omega)]
  have := Nat.shiftLeft_add_eq_or_of_lt (a := a) (b := b) (i := 8) (by simpa using hb)
  rw [Nat.shiftLeft_eq] at this
  simp only [Nat.reducePow] at this
  rw [← this]; congr 1; omega

theorem isVec_any (n : Int) (w : World) :
    Calls Try.prog 25 #[.int .i64 n] w fun e w' => e = .returned (.bool (vecB n)) ∧ w = w' := by
  by_cases h1 : 1 ≤ n <;> by_cases h2 : n ≤ 3
  all_goals
    go_enter Try.func25, Try.ntmps25
    go_wp2
    go_ret
    simp [vecB, h1, h2]

theorem isSize_any (n : Int) (w : World) :
    Calls Try.prog 20 #[.int .i64 n] w fun e w' => e = .returned (.bool (sizeB n)) ∧ w = w' := by
  have hs : sizeB n = (vecB n || (n == 4) || (n == 8)) := by
    unfold sizeB vecB
    rw [Bool.eq_iff_iff]
    simp
    omega
  rw [hs]
  clear hs
  have H := isVec_any n
  cases hv : vecB n <;> rw [hv] at H <;> cases h4 : (n == 4) <;> cases h8 : (n == 8)
  all_goals
    go_enter Try.func20, Try.ntmps20
    go_wp2_with (go_at_call 25; refine (H _).mono ?_; rintro e w' ⟨rfl, rfl⟩)
    go_ret
    exact ⟨rfl, rfl⟩

theorem isNum_any (x n : Nat) (w : World) (h1 : x ≤ 18446744073709551615) (hn : sizeB n = true) :
    Calls Try.prog 21 #[.int .u64 x, .int .i64 n] w fun e w' => e = .returned (.bool (decide (x < 256 ^ n))) ∧ w = w' := by
  have hn' : n = 1 ∨ n = 2 ∨ n = 3 ∨ n = 4 ∨ n = 8 := by simp [sizeB] at hn; omega
  rcases hn' with rfl | rfl | rfl | rfl | rfl
  all_goals
    go_enter Try.func21, Try.ntmps21
    go_wp2
    go_ret
    refine ⟨ret_bool ?_, rfl⟩
    rw [Bool.eq_iff_iff]
    simp
    omega

theorem number_any (a : Option Addr) (n cap size : Nat) (xs : List UInt8) (w : World) (hsz : size ≤ 8) (hn : size ≤ n) (hm : n ≤ 9223372036854775807)
    (hr : RdS w a n cap xs) :
    Calls Try.prog 28 #[.slice a n cap, .int .i64 size] w fun e w' => e = .returned (.int .u64 (beNat (xs.take size))) ∧ w = w' := by
  have hlen := hr.len
  have hcap := hr.le
  have hnil := hr.nil
  cases a with
  | none =>
    have := hnil rfl
    have hs : size = 0 := by omega
    subst hs
    go_enter Try.func28, Try.ntmps28
    go_wp2
    refine wp_loop_rounds 1 ?_
    rw [rounds_succ]
    go_wp2
    go_ret
    exact ⟨rfl, rfl⟩
  | some ad =>
    obtain ⟨hspot, hblk, hc⟩ := hr.adr ad rfl
    obtain ⟨b, off, sp⟩ := ad
    simp only at hspot hblk hc
    subst hspot
    clear hnil
    go_enter Try.func28, Try.ntmps28
    go_wp2
    go_loop [5, 8] (fun t i => ∃ k : Nat, k ≤ size ∧ i = .int .i64 k ∧ t = .int .u64 (beNat (xs.take k))) (fun _ i => size - (intOf i).toNat)
    case atStart => exact ⟨0, Nat.zero_le _, rfl, rfl⟩
    case round =>
      obtain ⟨k, hk, rfl, rfl⟩ := hrel
      by_cases hlt : k < size
      · have hcell := hc k (by omega)
        have hsnoc := take_succ_getD xs k (by omega)
        have hbe := beNat_lt (xs.take k)
        have hp : 256 ^ (xs.take k).length ≤ 256 ^ 7 := Nat.pow_le_pow_right (by omega) (by simp; omega)
        have hx : xs.getD k 0 = xs[k] := by simp [List.getD]; rw [List.getElem?_eq_getElem (by omega)]; rfl
        rw [hx] at hcell
        have hb := (xs[k]).toNat_lt
        have Hs : Hid (beNat (xs.take (k + 1)) = 256 * beNat (xs.take k) + (xs[k]).toNat) := by rw [hsnoc]; exact beNat_snoc _ _
        clear hsnoc hx
        generalize (xs[k]'(by omega)).toNat = y at *
        go_wp2
        go_round
        case rel => 
          refine ⟨k + 1, by omega, by go_num, ?_⟩
          rw [Hs.out]
          congr 1
          exact or_byte _ _ hb (by omega)
        case measure => simp [intOf]; omega
      · go_wp2
        go_ret
        obtain rfl : k = size := by omega
        exact ⟨rfl, rfl⟩

/-- what lies in lay's row behind k rounds -/
def mid (xs : List UInt8) (num size n' k : Nat) : List UInt8 := xs ++ ((digits num size).take k ++ List.replicate (size - k + n') 0)

theorem digit_toNat (num size k : Nat) : (((digit num size k).toNat : Nat) : Int) = (num : Int) / 2 ^ (8 * (size - 1 - k)) % 256 := by
  have e : (256 : Nat) ^ (size - 1 - k) = 2 ^ (8 * (size - 1 - k)) := by rw [Nat.pow_mul]
  simp [digit, e]
theorem digits_len (num size : Nat) : (digits num size).length = size := by simp [digits]
theorem set_at_take (ds r : List UInt8) (z : UInt8) (k : Nat) (hk : k < ds.length) : (ds.take k ++ z :: r).set k ds[k] = ds.take (k + 1) ++ r := by
  rw [List.set_append_right _ _ (by simp; omega), List.take_succ_eq_append_getElem hk, List.append_assoc]
  have e : k - (List.take k ds).length = 0 := by simp; omega
  rw [e]
  rfl
theorem mid_step (xs : List UInt8) (num size n' k n : Nat) (h : xs.length = n) (hk : k < size) : (mid xs num size n' k).set (n + k) (digit num size k) = mid xs num size n' (k + 1) := by
  subst h
  have hl := digits_len num size
  have hk' : k < (digits num size).length := by omega
  have hd : (digits num size)[k] = digit num size k := by simp [digits]
  unfold mid
  rw [List.set_append_right _ _ (by omega), show xs.length + k - xs.length = k from by omega, show size - k + n' = (size - (k + 1) + n') + 1 from by omega, List.replicate_succ, ← hd, set_at_take _ _ _ _ hk']
theorem mid_end (xs ys : List UInt8) (num size n : Nat) (h : xs.length = n) : splice (mid xs num size ys.length size) (n + size) ys = xs ++ digits num size ++ ys := by
  subst h
  have hl := digits_len num size
  have hL : (xs ++ digits num size).length = xs.length + size := by simp [hl]
  have e : mid xs num size ys.length size = (xs ++ digits num size) ++ List.replicate ys.length 0 := by
    unfold mid
    rw [List.take_of_length_le (Nat.le_of_eq hl), Nat.sub_self, Nat.zero_add, List.append_assoc]
  unfold splice
  rw [e, List.take_left' hL, List.drop_of_length_le (by simp [hl]; omega), List.append_nil]

theorem fresh_any (a : Option Addr) (n cap : Nat) (xs : List UInt8) (w : World) (hm : n ≤ 140737488355328) (hr : Rd w a n cap xs) :
    Calls Try.prog 26 #[.slice a n cap] w fun e w' => ∃ v, e = .returned v ∧ Own w' w.heap.size 5 v xs ∧ v ≠ .slice none 0 0 ∧ Below w.heap.size w w' := by
  have hlen := hr.len
  go_enter Try.func26, Try.ntmps26
  go_wp2_with (first
    | (at_make; refine wl_make bt rfl _ _ rfl w.heap.size n rfl rfl (by omega) (Nat.le_refl _) ?_; intro w1 ho1 hb1 hs1)
    | ((with_reducible show wpList _ _ _ (⟨some 9, _, _, _, _, _⟩ :: _) _ _); refine wl_copy bt rfl (.tmp 7) (.tmp 8) rfl w.heap.size _ _ ho1 0 _ a n n n cap xs rfl rfl (hr.to hb1) (by simp) (Nat.le_refl _) (by rintro _ g ⟨⟩; rfl) ?_; intro w2 ho2 hb2 hs2))
  go_ret
  refine ⟨_, rfl, ?_, by simp, hb1.trans hb2⟩
  have e : splice (List.replicate n (0 : UInt8)) 0 xs = xs := by simp [splice, hlen]
  rw [e] at ho2
  exact ho2

theorem lay_any (a a' : Option Addr) (n cap n' cap' size num : Nat) (xs ys : List UInt8) (w : World) (hm : n ≤ 140737488351232) (hm' : n' ≤ 140737488351232)
    (hs : sizeB size = true) (hr : Rd w a n cap xs) (hr' : Rd w a' n' cap' ys) :
    Calls Try.prog 22 #[.slice a n cap, .int .u64 num, .int .i64 size, .slice a' n' cap'] w fun e w' =>
      ∃ v, e = .returned v ∧ Own w' w.heap.size 5 v (xs ++ digits num size ++ ys) ∧ Below w.heap.size w w' := by
  have hlen := hr.len
  have hlen' := hr'.len
  have hs' : 1 ≤ size ∧ size ≤ 8 := by simp [sizeB] at hs; omega
  go_enter Try.func22, Try.ntmps22
  go_wp2_with (first
    | (at_make; refine wl_make bt rfl _ _ rfl w.heap.size (n + size + n') rfl rfl (by omega) (Nat.le_refl _) ?_; intro w1 ho1 hb1 hs1)
    | ((with_reducible show wpList _ _ _ (⟨some 21, _, _, _, _, _⟩ :: _) _ _); refine wl_copy bt rfl (.tmp 19) (.tmp 20) rfl w.heap.size _ _ ho1 0 _ a (n + size + n') (n + size + n') n cap xs rfl rfl (hr.to hb1) (by simp; omega) (by omega) (by rintro _ g ⟨⟩; rfl) ?_; intro w2 ho2 hb2 hs2))
  have e0 : splice (List.replicate (n + size + n') (0 : UInt8)) 0 xs = mid xs num size n' 0 := by
    simp [splice, mid, hlen]; omega
  rw [e0] at ho2
  clear e0 ho1
  generalize hB : w.heap.size = B at *
  have HB := Lib.hid hB
  clear hB
  go_loopw [23] (fun i wr => ∃ k : Nat, k ≤ size ∧ i = .int .i64 k ∧ Own wr B 5 (.slice (some ⟨B, 0, none⟩) (n + size + n') (n + size + n')) (mid xs num size n' k) ∧ Below B w wr) (fun i _ => size - (intOf i).toNat)
  case atStart => exact ⟨0, Nat.zero_le _, rfl, ho2, hb1.trans hb2⟩
  case round =>
    obtain ⟨k, hk, rfl, ho, hb⟩ := hrel
    by_cases hlt : k < size
    · have hml : (mid xs num size n' k).length = n + size + n' := by simp [mid, hlen, digits]; omega
      have hcl := Own.cellAt ho (n + k) (by omega)
      have hfr := Own.frozenAt ho (n + k)
      have hst := Own.stored ho (n + k) (digit num size k)
      have hmk := mid_step xs num size n' k n hlen hlt
      rw [hmk] at hst
      have hd := digit_toNat num size k
      go_wp2
      rw [hd] at hst
      go_roundw
      case rel => exact ⟨k + 1, by omega, by go_num, hst, hb.setCell (Nat.le_refl _) _⟩
      case measure => simp [intOf]; omega
    · obtain rfl : k = size := by omega
      have hbw : Below w.heap.size w wr := by rw [HB.out]; exact hb
      have hfit : n + k + n' ≤ (mid xs num k n' k).length := by simp [mid, hlen, digits_len]; omega
      go_wp2_with ((with_reducible show wpList _ _ _ (⟨some 48, _, _, _, _, _⟩ :: _) _ _); go_loud (refine wl_copy bt rfl (.tmp 46) (.tmp 47) rfl B _ _ ho (n + k) _ _ _ _ _ _ ys rfl rfl (hr'.to hbw) hfit (by omega) (by intro h0 g hg; cases hg; rw [if_neg (by omega)]) ?_); intro w3 ho3 hb3 hs3)
      all_goals
        go_ret
        refine ⟨_, rfl, ?_, HB.out ▸ (hb.trans hb3)⟩
        have e := mid_end xs ys num k n hlen
        rw [hlen'] at e
        rw [e, List.append_assoc] at ho3
        rw [HB.out]
        first
          | exact ho3
          | (have h0 : n' = 0 := by omega
             simpa [h0] using ho3)

/-- a list and an error's number -/
def BRes (w : World) (r : List UInt8 × Int) (e : Ending) (w' : World) : Prop :=
  ∃ v, e = .returned (.tuple #[v, .int .i64 r.2]) ∧ Own w' w.heap.size 5 v r.1 ∧ Below w.heap.size w w'

def numF (xs : List UInt8) (num : Nat) (size : Int) : List UInt8 × Int :=
  if sizeB size = true then (if num < 256 ^ size.toNat then (xs ++ digits num size.toNat, 0) else ([], 3)) else ([], 1)
def vecF (xs ys : List UInt8) (size : Int) : List UInt8 × Int :=
  if vecB size = true then (if ys.length < 256 ^ size.toNat then (xs ++ digits ys.length size.toNat ++ ys, 0) else ([], 3)) else ([], 1)

theorem size_of (size : Int) (h : sizeB size = true) : ∃ k : Nat, size = k ∧ 1 ≤ k ∧ k ≤ 8 := by
  simp [sizeB] at h
  exact ⟨size.toNat, by omega, by omega, by omega⟩
theorem vec_size (size : Int) (h : vecB size = true) : sizeB size = true := by
  simp [vecB] at h
  simp [sizeB]
  omega

set_option maxHeartbeats 400000 in
theorem Num_any (a : Option Addr) (n cap num : Nat) (size : Int) (xs : List UInt8) (w : World) (hm : n ≤ 140737488351232) (hnum : num ≤ 18446744073709551615) (hr : Rd w a n cap xs) :
    Calls Try.prog 5 #[.slice a n cap, .int .u64 num, .int .i64 size] w (BRes w (numF xs num size)) := by
  have hnil : Rd w none 0 0 [] := Rd.none w
  unfold numF
  cases hs : sizeB size with
  | false =>
    have H := isSize_any size
    rw [hs] at H
    go_enter Try.func5, Try.ntmps5
    go_wp2_with (go_at_call 20; refine (H _).mono ?_; rintro e w' ⟨rfl, rfl⟩)
    go_ret2
    exact ⟨_, rfl, Own.nil _ _ _, Below.refl _ _⟩
  | true =>
    obtain ⟨k, rfl, hk1, hk8⟩ := size_of size hs
    have H := isSize_any k
    rw [hs] at H
    have H2 := fun w => isNum_any num k w hnum hs
    simp only [if_true, Int.toNat_natCast]
    cases hb : decide (num < 256 ^ k) <;> rw [hb] at H2
    · have hb' : ¬ num < 256 ^ k := by simpa using hb
      rw [if_neg hb']
      clear hb hb'
      go_enter Try.func5, Try.ntmps5
      go_wp2_with (first | (go_at_call 20; refine (H _).mono ?_; rintro e w' ⟨rfl, rfl⟩) | (go_at_call 21; refine (H2 _).mono ?_; rintro e w' ⟨rfl, rfl⟩))
      go_ret2
      exact ⟨_, rfl, Own.nil _ _ _, Below.refl _ _⟩
    · have hb' : num < 256 ^ k := by simpa using hb
      rw [if_pos hb']
      clear hb hb'
      go_enter Try.func5, Try.ntmps5
      go_wp2_with (first | (go_at_call 20; refine (H _).mono ?_; rintro e w' ⟨rfl, rfl⟩) | (go_at_call 21; refine (H2 _).mono ?_; rintro e w' ⟨rfl, rfl⟩) | (go_at_call 22; refine (lay_any a none n cap 0 0 k num xs [] _ hm (by omega) hs hr hnil).mono ?_; rintro e w' ⟨v, rfl, ho, hb⟩))
      go_ret2
      exact ⟨_, rfl, by simpa using ho, hb⟩
end Go.Proofs.Ytmhcmhhedmokjaa
