/-
  Base 64 bit by bit: what the document's answer reckons is what the groups of four say. Conditions: those in each statement.
-/
import Derived.Test.YtpfhbkjjijmpaaaBaseP
namespace Go.Proofs.Ytpfhbkjjijmpaaa

def six (n : Nat) : List Nat := [n / 32 % 2, n / 16 % 2, n / 8 % 2, n / 4 % 2, n / 2 % 2, n % 2]
def bitsL (l : List UInt8) : List Nat := l.flatMap fun c => six (num c)
/-- the first k bits of the j-th byte -/
def accB (b : List Nat) (at_ : Nat) : Nat → Nat
  | 0 => 0
  | k + 1 => 2 * accB b at_ k + b.getD (at_ + k) 0
def outB (b : List Nat) (j : Nat) : List UInt8 := (List.range j).map fun i => UInt8.ofNat (accB b (8 * i) 8)
def zeroB (b : List Nat) (at_ : Nat) : Bool := (b.drop at_).all (· == 0)
/-- padding: none, one, two -/
def padN (s : List UInt8) : Nat :=
  if s.length = 0 then 0 else if s.getD (s.length - 1) 0 = 61 then (if s.getD (s.length - 2) 0 = 61 then 2 else 1) else 0
/-- what the document's answer reckons -/
def takeB (s : List UInt8) : Option (List UInt8) :=
  if s.length % 4 = 0 then
    if (s.take (s.length - padN s)).all isL = true then
      if zeroB (bitsL (s.take (s.length - padN s))) (8 * ((bitsL (s.take (s.length - padN s))).length / 8)) = true then some (outB (bitsL (s.take (s.length - padN s))) ((bitsL (s.take (s.length - padN s))).length / 8)) else none
    else none
  else none

theorem bitsL_len (l : List UInt8) : (bitsL l).length = 6 * l.length := by
  induction l with
  | nil => rfl
  | cons c l ih => simp only [bitsL, List.flatMap_cons, List.length_append, List.length_cons] at ih ⊢; rw [ih]; simp [six]; omega
theorem bitsL_cons (c : UInt8) (l : List UInt8) : bitsL (c :: l) = six (num c) ++ bitsL l := rfl
theorem six_len (n : Nat) : (six n).length = 6 := rfl

theorem accB_shift (a b : List Nat) (o k : Nat) : accB (a ++ b) (a.length + o) k = accB b o k := by
  induction k with
  | zero => rfl
  | succ k ih =>
    unfold accB
    rw [ih]
    congr 1
    rw [List.getD_eq_getElem?_getD, List.getD_eq_getElem?_getD, show a.length + o + k = a.length + (o + k) by omega, List.getElem?_append_right (by omega)]
    congr 2
    omega
/-- 24 bits of four letters are three bytes -/
theorem outB_quad {a b c d : Nat} (ha : a < 64) (hb : b < 64) (hc : c < 64) (hd : d < 64) (r : List Nat) (j : Nat) :
    outB (six a ++ (six b ++ (six c ++ (six d ++ r)))) (3 + j) = b0 a b :: b1 b c :: b2 c d :: outB r j := by
  have sh : ∀ i, accB (six a ++ (six b ++ (six c ++ (six d ++ r)))) (8 * (3 + i)) 8 = accB r (8 * i) 8 := fun i => by
    have h := accB_shift (six a ++ (six b ++ (six c ++ six d))) r (8 * i) 8
    rw [show (six a ++ (six b ++ (six c ++ six d))).length = 24 from rfl, List.append_assoc, List.append_assoc, List.append_assoc] at h
    rw [← h]
    congr 1
    omega
  have e : List.range (3 + j) = 0 :: 1 :: 2 :: (List.range j).map (3 + ·) := by
    rw [List.range_add]
    rfl
  unfold outB
  rw [e]
  simp only [List.map_cons, List.map_map]
  refine List.cons_eq_cons.2 ⟨?_, List.cons_eq_cons.2 ⟨?_, List.cons_eq_cons.2 ⟨?_, ?_⟩⟩⟩
  · unfold b0; congr 1; simp only [accB, six, List.cons_append, List.nil_append, List.getD_cons_succ, List.getD_cons_zero, Nat.mul_zero, Nat.zero_add]; omega
  · unfold b1; congr 1; simp only [accB, six, List.cons_append, List.nil_append, List.getD_cons_succ, List.getD_cons_zero, Nat.mul_one, Nat.reduceAdd]; omega
  · unfold b2; congr 1; simp only [accB, six, List.cons_append, List.nil_append, List.getD_cons_succ, List.getD_cons_zero, Nat.reduceMul, Nat.reduceAdd]; omega
  · apply List.map_congr_left
    intro i _
    simp only [Function.comp]
    rw [sh i]

theorem padN_le (s : List UInt8) : padN s ≤ 2 := by
  unfold padN
  split
  · omega
  · split
    · split <;> omega
    · omega
theorem padN_quad (a b c d : UInt8) (r : List UInt8) (hr : 2 ≤ r.length) : padN (a :: b :: c :: d :: r) = padN r := by
  have g : ∀ k, k < r.length → (a :: b :: c :: d :: r).getD (4 + k) 0 = r.getD k 0 := fun k _ => by
    rw [show 4 + k = k + 1 + 1 + 1 + 1 by omega]
    simp only [List.getD_cons_succ]
  unfold padN
  simp only [List.length_cons]
  have g1 : (a :: b :: c :: d :: r).getD (r.length + 1 + 1 + 1 + 1 - 1) 0 = r.getD (r.length - 1) 0 := by rw [show r.length + 1 + 1 + 1 + 1 - 1 = 4 + (r.length - 1) by omega]; exact g _ (by omega)
  have g2 : (a :: b :: c :: d :: r).getD (r.length + 1 + 1 + 1 + 1 - 2) 0 = r.getD (r.length - 2) 0 := by rw [show r.length + 1 + 1 + 1 + 1 - 2 = 4 + (r.length - 2) by omega]; exact g _ (by omega)
  rw [if_neg (show ¬ r.length + 1 + 1 + 1 + 1 = 0 by omega), if_neg (show ¬ r.length = 0 by omega)]
  simp only [g1, g2]

theorem quad_core (a b c d : UInt8) (q : List UInt8) :
    (if (isL a && (isL b && (isL c && (isL d && q.all isL)))) = true then
        if zeroB (bitsL (a :: b :: c :: d :: q)) (8 * ((bitsL (a :: b :: c :: d :: q)).length / 8)) = true then some (outB (bitsL (a :: b :: c :: d :: q)) ((bitsL (a :: b :: c :: d :: q)).length / 8)) else none
      else none) =
      if (isL a && isL b && isL c && isL d) = true then
        Option.map (fun y => b0 (num a) (num b) :: b1 (num b) (num c) :: b2 (num c) (num d) :: y)
          (if q.all isL = true then
            if zeroB (bitsL q) (8 * ((bitsL q).length / 8)) = true then some (outB (bitsL q) ((bitsL q).length / 8)) else none
          else none)
      else none := by
  cases ha : isL a with
  | false => simp
  | true =>
    cases hb : isL b with
    | false => simp
    | true =>
      cases hc : isL c with
      | false => simp
      | true =>
        cases hd : isL d with
        | false => simp
        | true =>
          cases hq : q.all isL with
          | false => simp
          | true =>
            have na := num_lt ha
            have nb := num_lt hb
            have nc := num_lt hc
            have nd := num_lt hd
            have eL : (bitsL (a :: b :: c :: d :: q)).length / 8 = 3 + (bitsL q).length / 8 := by rw [bitsL_len, bitsL_len]; simp only [List.length_cons]; omega
            have eB : bitsL (a :: b :: c :: d :: q) = six (num a) ++ (six (num b) ++ (six (num c) ++ (six (num d) ++ bitsL q))) := by simp only [bitsL_cons]
            have eZ : zeroB (bitsL (a :: b :: c :: d :: q)) (8 * (3 + (bitsL q).length / 8)) = zeroB (bitsL q) (8 * ((bitsL q).length / 8)) := by
              unfold zeroB
              congr 1
              rw [eB, show 8 * (3 + (bitsL q).length / 8) = 24 + 8 * ((bitsL q).length / 8) by omega, ← List.drop_drop]
              congr 1
            rw [eL, eZ, eB, outB_quad na nb nc nd]
            simp only [Bool.and_self, if_true]
            split <;> rfl

theorem takeB_quad (a b c d : UInt8) (r : List UInt8) (hr : r ≠ []) (h4 : r.length % 4 = 0) :
    takeB (a :: b :: c :: d :: r) = if isL a && isL b && isL c && isL d then (takeB r).map fun y => b0 (num a) (num b) :: b1 (num b) (num c) :: b2 (num c) (num d) :: y else none := by
  have hl : 4 ≤ r.length := by
    have : r.length ≠ 0 := fun e => hr (List.eq_nil_of_length_eq_zero e)
    omega
  have hp := padN_quad a b c d r (by omega)
  have hp2 := padN_le r
  unfold takeB
  rw [hp]
  simp only [List.length_cons]
  rw [if_pos (by omega), show r.length + 1 + 1 + 1 + 1 - padN r = (r.length - padN r) + 1 + 1 + 1 + 1 by omega]
  simp only [List.take_succ_cons, List.all_cons]
  rw [if_pos h4]
  exact quad_core a b c d _

theorem takeB_last (a b c d : UInt8) : takeB [a, b, c, d] = lastF a b c d := by
  have hpad : padN [a, b, c, d] = if d = 61 then (if c = 61 then 2 else 1) else 0 := rfl
  unfold takeB lastF
  rw [hpad, if_pos (by simp)]
  by_cases hd : d = 61
  · rw [if_pos hd]
    by_cases hc : c = 61
    · rw [if_pos hc]
      have e : [a, b, c, d].take ([a, b, c, d].length - 2) = [a, b] := rfl
      rw [e]
      cases ha : isL a with
      | false => simp [ha]
      | true =>
        cases hb : isL b with
        | false => simp [ha, hb]
        | true =>
          have na := num_lt ha
          have nb := num_lt hb
          have eB : bitsL [a, b] = six (num a) ++ six (num b) := rfl
          have eO : outB (bitsL [a, b]) 1 = [b0 (num a) (num b)] := by
            rw [eB]
            simp only [outB, List.range_succ, List.range_zero, List.nil_append, List.map_cons, List.map_nil]
            congr 1
            unfold b0; congr 1; simp only [accB, six, List.cons_append, List.nil_append, List.getD_cons_succ, List.getD_cons_zero, Nat.mul_zero, Nat.zero_add]; omega
          have eZ : zeroB (bitsL [a, b]) 8 = decide (num b % 16 = 0) := by
            rw [eB]
            unfold zeroB six
            simp only [List.cons_append, List.nil_append, List.drop_succ_cons, List.drop_zero, List.all_cons, List.all_nil]
            rw [Bool.eq_iff_iff]
            simp only [Bool.and_eq_true, beq_iff_eq, Bool.and_true, decide_eq_true_eq]
            omega
          have hlen : (bitsL [a, b]).length / 8 = 1 := by rw [bitsL_len]; simp
          rw [hlen, Nat.mul_one, eZ, eO]
          simp [ha, hb, hc, hd]
    · rw [if_neg hc]
      have e : [a, b, c, d].take ([a, b, c, d].length - 1) = [a, b, c] := rfl
      rw [e]
      cases ha : isL a with
      | false => simp [ha]
      | true =>
        cases hb : isL b with
        | false => simp [ha, hb]
        | true =>
          cases hcl : isL c with
          | false => simp [ha, hb, hcl, hc, hd]
          | true =>
            have na := num_lt ha
            have nb := num_lt hb
            have nc := num_lt hcl
            have eB : bitsL [a, b, c] = six (num a) ++ (six (num b) ++ six (num c)) := rfl
            have eO : outB (bitsL [a, b, c]) 2 = [b0 (num a) (num b), b1 (num b) (num c)] := by
              rw [eB]
              simp only [outB, List.range_succ, List.range_zero, List.nil_append, List.map_cons, List.map_nil, List.cons_append]
              refine List.cons_eq_cons.2 ⟨?_, List.cons_eq_cons.2 ⟨?_, rfl⟩⟩
              · unfold b0; congr 1; simp only [accB, six, List.cons_append, List.nil_append, List.getD_cons_succ, List.getD_cons_zero, Nat.mul_zero, Nat.zero_add]; omega
              · unfold b1; congr 1; simp only [accB, six, List.cons_append, List.nil_append, List.getD_cons_succ, List.getD_cons_zero, Nat.mul_one, Nat.reduceAdd]; omega
            have eZ : zeroB (bitsL [a, b, c]) 16 = decide (num c % 4 = 0) := by
              rw [eB]
              unfold zeroB six
              simp only [List.cons_append, List.nil_append, List.drop_succ_cons, List.drop_zero, List.all_cons, List.all_nil]
              rw [Bool.eq_iff_iff]
              simp only [Bool.and_eq_true, beq_iff_eq, Bool.and_true, decide_eq_true_eq]
              omega
            have hlen : (bitsL [a, b, c]).length / 8 = 2 := by rw [bitsL_len]; simp
            rw [hlen, show 8 * 2 = 16 from rfl, eZ, eO]
            simp [ha, hb, hcl, hc, hd]
  · rw [if_neg hd]
    have e : [a, b, c, d].take ([a, b, c, d].length - 0) = [a, b, c, d] := rfl
    rw [e]
    cases ha : isL a with
    | false => simp [ha]
    | true =>
      cases hb : isL b with
      | false => simp [ha, hb]
      | true =>
        cases hcl : isL c with
        | false => simp [ha, hb, hcl, hd]
        | true =>
          cases hdl : isL d with
          | false => simp [ha, hb, hcl, hdl, hd]
          | true =>
            have na := num_lt ha
            have nb := num_lt hb
            have nc := num_lt hcl
            have nd := num_lt hdl
            have eO := outB_quad na nb nc nd [] 0
            have eB : bitsL [a, b, c, d] = six (num a) ++ (six (num b) ++ (six (num c) ++ (six (num d) ++ []))) := rfl
            have hlen : (bitsL [a, b, c, d]).length / 8 = 3 := by rw [bitsL_len]; simp
            have eZ : zeroB (bitsL [a, b, c, d]) 24 = true := rfl
            rw [hlen, show 8 * 3 = 24 from rfl, eZ, eB, show 3 = 3 + 0 from rfl, eO]
            simp [ha, hb, hcl, hdl, outB, hd]

theorem takeB_mod {s : List UInt8} (h : s.length % 4 ≠ 0) : takeB s = none := by
  unfold takeB
  rw [if_neg h]
theorem takeB_eq : ∀ s : List UInt8, takeB s = takeF s
  | [] => by rfl
  | [_] => by rw [takeB_mod (by simp)]; rfl
  | [_, _] => by rw [takeB_mod (by simp)]; rfl
  | [_, _, _] => by rw [takeB_mod (by simp)]; rfl
  | a :: b :: c :: d :: r => by
    have ih := takeB_eq r
    simp only [takeF]
    by_cases hr : r = []
    · rw [if_pos hr, hr]
      exact takeB_last a b c d
    · rw [if_neg hr]
      by_cases h4 : r.length % 4 = 0
      · rw [takeB_quad a b c d r hr h4, ih]
      · rw [takeB_mod (by simp only [List.length_cons]; omega), ← ih, takeB_mod h4]
        split <;> rfl
end Go.Proofs.Ytpfhbkjjijmpaaa
