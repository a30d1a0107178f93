/-
  Layer 9: compact ranges, plainly: the digits of a size, peaks, what is told. Conditions: those in each statement.
-/
import Derived.Test.YtlfncgpjgbpdjaaMkW
namespace Go.Proofs.Ytlfncgpjgbpdjaa
open Go.RowKit

/-- the ones of n, each s times its power of 2, the least first -/
def lowP (s n : Nat) : List Nat := if h : n = 0 then [] else if n % 2 = 1 then s :: lowP (2 * s) (n / 2) else lowP (2 * s) (n / 2)
termination_by n
decreasing_by all_goals omega
theorem lowP_zero (s : Nat) : lowP s 0 = [] := by unfold lowP; simp
theorem lowP_odd (s n : Nat) (h : n % 2 = 1) : lowP s n = s :: lowP (2 * s) (n / 2) := by
  rw [lowP, dif_neg (by omega), if_pos h]
theorem lowP_even (s n : Nat) (h : n % 2 = 0) : lowP s n = lowP (2 * s) (n / 2) := by
  by_cases h0 : n = 0
  · subst h0; rw [lowP_zero, lowP_zero]
  · rw [lowP, dif_neg h0, if_neg (by omega)]
theorem lowP_ge : ∀ (n s a : Nat), a ∈ lowP s n → s ≤ a := by
  intro n
  induction n using Nat.strongRecOn with
  | _ n ih =>
    intro s a ha
    by_cases h0 : n = 0
    · subst h0; rw [lowP_zero] at ha; cases ha
    · by_cases h : n % 2 = 1
      · rw [lowP_odd s n h] at ha
        rcases List.mem_cons.1 ha with e | ha
        · omega
        · have := ih (n / 2) (by omega) (2 * s) a ha; omega
      · rw [lowP_even s n (by omega)] at ha
        have := ih (n / 2) (by omega) (2 * s) a ha; omega
theorem lowP_two : ∀ (n s : Nat), lowP (2 * s) n = (lowP s n).map (2 * ·) := by
  intro n
  induction n using Nat.strongRecOn with
  | _ n ih =>
    intro s
    by_cases h0 : n = 0
    · subst h0; rw [lowP_zero, lowP_zero]; rfl
    · by_cases h : n % 2 = 1
      · rw [lowP_odd _ n h, lowP_odd _ n h, ih (n / 2) (by omega), List.map_cons]
      · rw [lowP_even _ n (by omega), lowP_even _ n (by omega), ih (n / 2) (by omega)]
/-- the greatest one stands last -/
theorem lowP_top : ∀ (k s m : Nat), m < 2 ^ k → lowP s (2 ^ k + m) = lowP s m ++ [s * 2 ^ k] := by
  intro k
  induction k with
  | zero =>
    intro s m h
    obtain rfl : m = 0 := by omega
    rw [lowP_odd s (2 ^ 0 + 0) (by decide), lowP_zero]
    simp [lowP_zero]
  | succ k ih =>
    intro s m h
    rw [Nat.pow_succ] at h
    have hd : (2 ^ (k + 1) + m) / 2 = 2 ^ k + m / 2 := by rw [Nat.pow_succ]; omega
    have hs : 2 * s * 2 ^ k = s * 2 ^ (k + 1) := by rw [Nat.pow_succ, Nat.mul_comm (2 ^ k) 2, ← Nat.mul_assoc, Nat.mul_comm s 2]
    by_cases h1 : m % 2 = 1
    · rw [lowP_odd s (2 ^ (k + 1) + m) (by rw [Nat.pow_succ]; omega), lowP_odd s m h1, hd, ih (2 * s) (m / 2) (by omega), hs]
      rfl
    · rw [lowP_even s (2 ^ (k + 1) + m) (by rw [Nat.pow_succ]; omega), lowP_even s m (by omega), hd, ih (2 * s) (m / 2) (by omega), hs]
/-- a leaf more, over the peaks, the last one first: what the size says alone -/
def addQ : Nat → List (List UInt8) → List UInt8 → List (List UInt8)
  | n, [], d => if n % 2 = 1 then [] else [d]
  | n, q :: Q, d => if n % 2 = 1 then addQ (n / 2) Q (nodeH q d) else d :: q :: Q
/-- .. and what is told -/
def toldQ : Nat → List (List UInt8) → List UInt8 → List (List UInt8)
  | _, [], d => [d]
  | n, q :: Q, d => if n % 2 = 1 then d :: toldQ (n / 2) Q (nodeH q d) else [d]
/-- parts of the document, the last one first: equal ones go together -/
def carry : List (Nat × List UInt8) → Nat × List UInt8 → List (Nat × List UInt8)
  | [], b => [b]
  | a :: r, b => if a.1 = b.1 then carry r (a.1 + b.1, nodeH a.2 b.2) else b :: a :: r
def carryT : List (Nat × List UInt8) → Nat × List UInt8 → List (List UInt8)
  | [], b => [b.2]
  | a :: r, b => if a.1 = b.1 then b.2 :: carryT r (a.1 + b.1, nodeH a.2 b.2) else [b.2]
theorem zip_head {s n : Nat} {Q : List (List UInt8)} {a : Nat × List UInt8} {r : List (Nat × List UInt8)} (h : (lowP s n).zip Q = a :: r) : s ≤ a.1 := by
  have : a ∈ (lowP s n).zip Q := by rw [h]; simp
  have h1 := List.of_mem_zip this
  exact lowP_ge n s a.1 h1.1
/-- the document's way is the size's way -/
theorem carry_add : ∀ (n s : Nat) (Q : List (List UInt8)) (d : List UInt8), 0 < s → Q.length = (lowP s n).length →
    carry ((lowP s n).zip Q) (s, d) = (lowP s (n + 1)).zip (addQ n Q d) ∧ carryT ((lowP s n).zip Q) (s, d) = toldQ n Q d ∧ (addQ n Q d).length = (lowP s (n + 1)).length := by
  intro n
  induction n using Nat.strongRecOn with
  | _ n ih =>
    intro s Q d hs hl
    by_cases h : n % 2 = 1
    · rw [lowP_odd s n h] at hl ⊢
      have e1 : (n + 1) / 2 = n / 2 + 1 := by omega
      rw [lowP_even s (n + 1) (by omega), e1]
      match Q, hl with
      | q :: Q, hl =>
        have hi := ih (n / 2) (by omega) (2 * s) Q (nodeH q d) (by omega) (by simpa using hl)
        have e2 : s + s = 2 * s := by omega
        refine ⟨?_, ?_, ?_⟩
        · rw [List.zip_cons_cons, carry, if_pos rfl, addQ, if_pos h]
          show carry _ (s + s, nodeH q d) = _
          rw [e2]
          exact hi.1
        · rw [List.zip_cons_cons, carryT, if_pos rfl, toldQ, if_pos h]
          show d :: carryT _ (s + s, nodeH q d) = _
          rw [e2, hi.2.1]
        · rw [addQ, if_pos h]
          exact hi.2.2
    · have h0 : n % 2 = 0 := by omega
      have e1 : (n + 1) / 2 = n / 2 := by omega
      have e3 : lowP s (n + 1) = s :: lowP s n := by rw [lowP_odd s (n + 1) (by omega), e1, lowP_even s n h0]
      have e4 : addQ n Q d = d :: Q := by cases Q <;> simp [addQ, h0]
      have e5 : toldQ n Q d = [d] := by cases Q <;> simp [toldQ, h0]
      rw [e3, e4, e5, List.zip_cons_cons]
      cases hz : (lowP s n).zip Q with
      | nil => exact ⟨rfl, rfl, by simp [hl]⟩
      | cons a r =>
        have hge : 2 * s ≤ a.1 := by
          rw [lowP_even s n h0] at hz
          exact zip_head hz
        have hne : ¬ (a.1 = s) := by omega
        refine ⟨?_, ?_, by simp [hl]⟩
        · rw [carry, if_neg hne]
        · rw [carryT, if_neg hne]
theorem addQ_all : ∀ (Q : List (List UInt8)) (n : Nat) (d : List UInt8), All32 Q → d.length = 32 → All32 (addQ n Q d) := by
  intro Q
  induction Q with
  | nil =>
    intro n d _ hd
    unfold addQ
    split
    · exact All32.of (by simp)
    · exact All32.of (by simp [hd])
  | cons q Q ih =>
    intro n d hQ hd
    unfold addQ
    split
    · exact ih _ _ (All32.of fun x hx => hQ.mem (by simp [hx])) (shaL_len _)
    · exact All32.of fun x hx => by
        rcases List.mem_cons.1 hx with rfl | hx
        · exact hd
        · exact hQ.mem hx
theorem toldQ_all : ∀ (Q : List (List UInt8)) (n : Nat) (d : List UInt8), d.length = 32 → All32 (toldQ n Q d) := by
  intro Q
  induction Q with
  | nil => intro n d hd; exact All32.of (by simp [toldQ, hd])
  | cons q Q ih =>
    intro n d hd
    unfold toldQ
    split
    · exact All32.of fun x hx => by
        rcases List.mem_cons.1 hx with rfl | hx
        · exact hd
        · exact (ih _ _ (shaL_len _)).mem hx
    · exact All32.of (by simp [hd])
/-- the document's From: the powers of 2 from the greatest on -/
def hiP : Nat → Nat → List Nat
  | 0, m => if 1 ≤ m then [1] else []
  | k + 1, m => if 2 ^ (k + 1) ≤ m then 2 ^ (k + 1) :: hiP k (m - 2 ^ (k + 1)) else hiP k m
theorem hiP_low : ∀ (k m : Nat), m < 2 ^ (k + 1) → hiP k m = (lowP 1 m).reverse := by
  intro k
  induction k with
  | zero =>
    intro m h
    match m, h with
    | 0, _ => rw [lowP_zero]; rfl
    | 1, _ => rw [lowP_odd 1 1 (by decide), show (1 : Nat) / 2 = 0 from rfl, lowP_zero]; rfl
  | succ k ih =>
    intro m h
    rw [Nat.pow_succ] at h
    unfold hiP
    split
    · rename_i hle
      have e : m = 2 ^ (k + 1) + (m - 2 ^ (k + 1)) := by omega
      have ht := lowP_top (k + 1) 1 (m - 2 ^ (k + 1)) (by omega)
      rw [← e] at ht
      rw [ht, ih _ (by omega)]
      simp
    · exact ih m (by omega)
theorem lowP_len_lt : ∀ (k n s : Nat), n < 2 ^ k → (lowP s n).length ≤ k := by
  intro k
  induction k with
  | zero =>
    intro n s h
    obtain rfl : n = 0 := by omega
    rw [lowP_zero]; simp
  | succ k ih =>
    intro n s h
    rw [Nat.pow_succ] at h
    by_cases h1 : n % 2 = 1
    · rw [lowP_odd s n h1, List.length_cons]
      have := ih (n / 2) (2 * s) (by omega)
      omega
    · rw [lowP_even s n (by omega)]
      have := ih (n / 2) (2 * s) (by omega)
      omega
theorem lowP_len_two (n s : Nat) : (lowP s (2 * n)).length = (lowP s n).length := by
  rw [lowP_even s (2 * n) (by omega), show 2 * n / 2 = n by omega, lowP_two, List.length_map]
theorem lowP_len_scale : ∀ (n s t : Nat), (lowP s n).length = (lowP t n).length := by
  intro n
  induction n using Nat.strongRecOn with
  | _ n ih =>
    intro s t
    by_cases h0 : n = 0
    · subst h0; rw [lowP_zero, lowP_zero]
    · by_cases h : n % 2 = 1
      · rw [lowP_odd s n h, lowP_odd t n h, List.length_cons, List.length_cons, ih (n / 2) (by omega) (2 * s) (2 * t)]
      · rw [lowP_even s n (by omega), lowP_even t n (by omega), ih (n / 2) (by omega) (2 * s) (2 * t)]
theorem toldQ_len : ∀ (Q : List (List UInt8)) (n : Nat) (d : List UInt8), 1 ≤ (toldQ n Q d).length ∧ (toldQ n Q d).length ≤ Q.length + 1 := by
  intro Q
  induction Q with
  | nil => intro n d; simp [toldQ]
  | cons q Q ih =>
    intro n d
    unfold toldQ
    split
    · have := ih (n / 2) (nodeH q d)
      simp only [List.length_cons]
      omega
    · simp
/-- the head, over the peaks, the last one first -/
def headQ : List UInt8 → List (List UInt8) → List UInt8
  | h, [] => h
  | h, q :: Q => headQ (nodeH q h) Q
theorem foldP_snoc : ∀ (P : List (List UInt8)) (a h : List UInt8), foldP (P ++ [nodeH a h]) = foldP (P ++ [a, h]) := by
  intro P
  induction P with
  | nil => intro a h; rfl
  | cons p P ih =>
    intro a h
    have e := ih a h
    cases P with
    | nil => rfl
    | cons q P => show nodeH p _ = nodeH p _; exact congrArg _ e
theorem headQ_fold : ∀ (Q : List (List UInt8)) (h : List UInt8), headQ h Q = foldP (Q.reverse ++ [h]) := by
  intro Q
  induction Q with
  | nil => intro h; rfl
  | cons q Q ih =>
    intro h
    rw [headQ, ih, foldP_snoc]
    simp
end Go.Proofs.Ytlfncgpjgbpdjaa
