/-
  Plain: a string's tail, in the order in which the program reads it; a scope with five labels. Conditions: those in each statement.
-/
import Derived.Test.YtehlgflpkofooaaDoorJvM
namespace Go.Proofs.YtehlgflpkofooaaDoor
open Go.RowKit

theorem wp_scope_five {P : Program} {a : Act} {w : World} {Q : Exit → Act → World → Prop} {c r0 r1 r2 r3 r4 : Code} (J : Nat → Nat → Act → World → Prop)
    (h0 : findLabel c 0 = some r0) (h1 : findLabel c 1 = some r1) (h2 : findLabel c 2 = some r2) (h3 : findLabel c 3 = some r3) (h4 : findLabel c 4 = some r4) (hJ : ∀ l n a w, J l n a w → l < 5)
    (first : c.wp P (jumps (fun l a w => ∃ n, J l n a w) Q) a w)
    (p0 : ∀ n a w, J 0 n a w → r0.wp P (jumps (fun l' a' w' => ∃ n', n' < n ∧ J l' n' a' w') Q) a w)
    (p1 : ∀ n a w, J 1 n a w → r1.wp P (jumps (fun l' a' w' => ∃ n', n' < n ∧ J l' n' a' w') Q) a w)
    (p2 : ∀ n a w, J 2 n a w → r2.wp P (jumps (fun l' a' w' => ∃ n', n' < n ∧ J l' n' a' w') Q) a w)
    (p3 : ∀ n a w, J 3 n a w → r3.wp P (jumps (fun l' a' w' => ∃ n', n' < n ∧ J l' n' a' w') Q) a w)
    (p4 : ∀ n a w, J 4 n a w → r4.wp P (jumps (fun l' a' w' => ∃ n', n' < n ∧ J l' n' a' w') Q) a w) : (Code.scope c).wp P Q a w := by
  have hl : ∀ l, l < 5 → l = 0 ∨ l = 1 ∨ l = 2 ∨ l = 3 ∨ l = 4 := fun l h => by omega
  refine wp_scope_labels (fun l => match l with | 0 => r0 | 1 => r1 | 2 => r2 | 3 => r3 | _ => r4) J (fun l n a w h => ?_) first (fun l n a w h => ?_)
  · rcases hl l (hJ l n a w h) with rfl | rfl | rfl | rfl | rfl
    · exact h0
    · exact h1
    · exact h2
    · exact h3
    · exact h4
  · rcases hl l (hJ l n a w h) with rfl | rfl | rfl | rfl | rfl
    · exact p0 n a w h
    · exact p1 n a w h
    · exact p2 n a w h
    · exact p3 n a w h
    · exact p4 n a w h

theorem must_no {c d : UInt8} {s b : List UInt8} (h : d ≠ c) : mustF (c :: s) (d :: b) = none := by
  simp only [mustF]
  exact if_neg (fun e => h e.symm)
theorem must_yes {c : UInt8} {s b : List UInt8} : mustF (c :: s) (c :: b) = mustF s b := by
  simp only [mustF, if_true]
/-- behind a high half: its other half, and on -/
def pairF (f n : Nat) (r : List UInt8) : Option (List UInt8 × List UInt8) :=
  match mustF [92, 117] r with
  | none => none
  | some r3 =>
    match fourF r3 with
    | none => none
    | some (m, r4) => if 56320 ≤ m ∧ m ≤ 57343 then (strF f r4).map fun (s, q) => (runeF (65536 + 1024 * (n - 55296) + (m - 56320)) ++ s, q) else none
/-- behind '\u' -/
def digF (f : Nat) (r1 : List UInt8) : Option (List UInt8 × List UInt8) :=
  match fourF r1 with
  | none => none
  | some (n, r2) => if 55296 ≤ n ∧ n < 56320 then pairF f n r2 else if 56320 ≤ n ∧ n < 57344 then none else (strF f r2).map fun (s, q) => (runeF n ++ s, q)
/-- behind '\' -/
def escT (f : Nat) (r : List UInt8) : Option (List UInt8 × List UInt8) :=
  match r with
  | [] => none
  | d :: r1 => if d = 117 then digF f r1 else match oneF d with | none => none | some x => (strF f r1).map fun (s, q) => (x :: s, q)
theorem strF_cons (f : Nat) (c : UInt8) (r : List UInt8) : strF (f + 1) (c :: r) = if c.toNat < 32 then none else if c = 34 then some ([], r) else if c ≠ 92 then (strF f r).map fun (s, q) => (c :: s, q) else escT f r := by
  conv => lhs; unfold strF
  unfold escT digF pairF
  rfl
/-- with what was read before -/
def aheadF (acc : List UInt8) (o : Option (List UInt8 × List UInt8)) : Option (List UInt8 × List UInt8) := o.map fun (s, q) => (acc ++ s, q)
theorem ahead_step (acc x : List UInt8) (o : Option (List UInt8 × List UInt8)) : aheadF acc (o.map fun (s, q) => (x ++ s, q)) = aheadF (acc ++ x) o := by
  cases o with
  | none => rfl
  | some p => simp [aheadF]
theorem ahead_one (acc : List UInt8) (x : UInt8) (o : Option (List UInt8 × List UInt8)) : aheadF acc (o.map fun (s, q) => (x :: s, q)) = aheadF (acc ++ [x]) o := by
  cases o with
  | none => rfl
  | some p => simp [aheadF]
theorem ahead_none (acc : List UInt8) : aheadF acc none = none := rfl
/-- the bytes of a rune that is no half -/
theorem rune_cells (n : Nat) (h1 : ¬ (55296 ≤ n ∧ n < 57344)) (h2 : n ≤ 1114111) : Lib.runeCells (n : Int) = (runeF n).map bv := by
  unfold Lib.runeCells runeF
  have hb : ∀ (k : Nat) (z : Int), k < 256 → (k : Int) = z → Value.int .u8 z = bv (UInt8.ofNat k) := fun k z hk e => by
    unfold bv
    rw [UInt8.toNat_ofNat', Nat.mod_eq_of_lt (by omega), e]
  by_cases a1 : n < 128
  · rw [if_pos a1, Lib.encodeRuneZ_one (by omega) (by omega)]
    simp only [List.map_cons, List.map_nil]
    rw [hb n (n : Int) (by omega) rfl]
  · rw [if_neg a1]
    by_cases a2 : n < 2048
    · rw [if_pos a2, Lib.encodeRuneZ_two (by omega) (by omega)]
      simp only [List.map_cons, List.map_nil]
      rw [hb (192 + n / 64) (192 + (n : Int) / 64) (by omega) (by omega), hb (128 + n % 64) (128 + (n : Int) % 64) (by omega) (by omega)]
    · rw [if_neg a2]
      by_cases a3 : n < 65536
      · rw [if_pos a3, Lib.encodeRuneZ_three (by omega)]
        simp only [List.map_cons, List.map_nil]
        rw [hb (224 + n / 4096) (224 + (n : Int) / 4096) (by omega) (by omega), hb (128 + n / 64 % 64) (128 + (n : Int) / 64 % 64) (by omega) (by omega), hb (128 + n % 64) (128 + (n : Int) % 64) (by omega) (by omega)]
      · rw [if_neg a3, Lib.encodeRuneZ_four (by omega) (by omega)]
        simp only [List.map_cons, List.map_nil]
        rw [hb (240 + n / 262144) (240 + (n : Int) / 262144) (by omega) (by omega), hb (128 + n / 4096 % 64) (128 + (n : Int) / 4096 % 64) (by omega) (by omega), hb (128 + n / 64 % 64) (128 + (n : Int) / 64 % 64) (by omega) (by omega), hb (128 + n % 64) (128 + (n : Int) % 64) (by omega) (by omega)]
theorem rune_len (n : Nat) : (runeF n).length ≤ 4 := by
  unfold runeF
  split
  · simp
  · split
    · simp
    · split <;> simp
end Go.Proofs.YtehlgflpkofooaaDoor
