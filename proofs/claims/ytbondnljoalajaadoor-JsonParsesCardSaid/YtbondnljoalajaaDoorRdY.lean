/-
  Layer 4: the document's reader: values, plainly, without fuel. Conditions: those in each statement.
-/
import Derived.Test.YtbondnljoalajaaDoorJyA
namespace Go.Proofs.YtbondnljoalajaaDoor
open Go.RowKit

def valF (most : Nat) (b : List UInt8) : Option (JV × List UInt8) := valueF (2 * b.length + 1) most b
def itF (most : Nat) (b : List UInt8) : Option (List JV × List UInt8) := itemsF (2 * b.length + 2) most b
def mbF (most : Nat) (b : List UInt8) : Option (List JV × List (List UInt8) × List UInt8) := membersF (2 * b.length + 2) most b
theorem val_fuel {most g : Nat} {b : List UInt8} (h : 2 * b.length + 1 ≤ g) : valueF g most b = valF most b := (value_fuel (2 * b.length + 1)).1 most b g (Nat.le_refl _) h
theorem it_fuel {most g : Nat} {b : List UInt8} (h : 2 * b.length + 2 ≤ g) : itemsF g most b = itF most b := (value_fuel (2 * b.length + 2)).2.1 most b g (Nat.le_refl _) h
theorem mb_fuel {most g : Nat} {b : List UInt8} (h : 2 * b.length + 2 ≤ g) : membersF g most b = mbF most b := (value_fuel (2 * b.length + 2)).2.2 most b g (Nat.le_refl _) h
theorem val_len {most : Nat} {b r : List UInt8} {x : JV} (h : valF most b = some (x, r)) : r.length < b.length := (value_len _).1 most b x r h
/-- behind an open bracket -/
def lsF (most : Nat) (r : List UInt8) : Option (JV × List UInt8) :=
  match blanksF r with
  | [] => none
  | d :: r1 => if d = 93 then some (JV.mk 5 [] 0 [] [], r1) else (itF most (d :: r1)).map fun (l, q) => (JV.mk 5 [] 0 l [], q)
/-- behind an open brace -/
def obF (most : Nat) (r : List UInt8) : Option (JV × List UInt8) :=
  match blanksF r with
  | [] => none
  | d :: r1 => if d = 125 then some (JV.mk 6 [] 0 [] [], r1) else (mbF most (d :: r1)).map fun (l, ks, q) => (JV.mk 6 [] 0 l ks, q)
theorem val_eq (most : Nat) (b : List UInt8) : valF most b = match blanksF b with
    | [] => none
    | c :: r =>
      if c = 110 then (mustF [110, 117, 108, 108] (c :: r)).map fun q => (JV.mk 0 [] 0 [] [], q)
      else if c = 102 then (mustF [102, 97, 108, 115, 101] (c :: r)).map fun q => (JV.mk 1 [] 0 [] [], q)
      else if c = 116 then (mustF [116, 114, 117, 101] (c :: r)).map fun q => (JV.mk 2 [] 0 [] [], q)
      else if c = 34 then (stringF (c :: r)).map fun (s, q) => (JV.mk 4 s 0 [] [], q)
      else if c = 91 then (if most = 0 then none else lsF (most - 1) r)
      else if c = 123 then (if most = 0 then none else obF (most - 1) r)
      else (numF (c :: r)).map fun (n, q) => (JV.mk 3 [] n [] [], q) := by
  unfold valF
  conv => lhs; unfold valueF
  have hb := blanks_len b
  cases hc : blanksF b with
  | nil => rfl
  | cons c r =>
    rw [hc, List.length_cons] at hb
    have hr := blanks_len r
    simp only
    by_cases h1 : c = 110
    · rw [if_pos h1, if_pos h1]
    rw [if_neg h1, if_neg h1]
    by_cases h2 : c = 102
    · rw [if_pos h2, if_pos h2]
    rw [if_neg h2, if_neg h2]
    by_cases h3 : c = 116
    · rw [if_pos h3, if_pos h3]
    rw [if_neg h3, if_neg h3]
    by_cases h4 : c = 34
    · rw [if_pos h4, if_pos h4]
    rw [if_neg h4, if_neg h4]
    by_cases h5 : c = 91
    · rw [if_pos h5, if_pos h5]
      by_cases h0 : most = 0
      · rw [if_pos h0, if_pos h0]
      rw [if_neg h0, if_neg h0]
      unfold lsF
      cases hd : blanksF r with
      | nil => rfl
      | cons d r1 =>
        rw [hd, List.length_cons] at hr
        simp only
        rw [it_fuel (by rw [List.length_cons]; omega)]
    rw [if_neg h5, if_neg h5]
    by_cases h6 : c = 123
    · rw [if_pos h6, if_pos h6]
      by_cases h0 : most = 0
      · rw [if_pos h0, if_pos h0]
      rw [if_neg h0, if_neg h0]
      unfold obF
      cases hd : blanksF r with
      | nil => rfl
      | cons d r1 =>
        rw [hd, List.length_cons] at hr
        simp only
        rw [mb_fuel (by rw [List.length_cons]; omega)]
    rw [if_neg h6, if_neg h6]
theorem it_eq (most : Nat) (b : List UInt8) : itF most b = match valF most b with
    | none => none
    | some (v, q) => match blanksF q with
      | [] => none
      | c :: r => if c = 93 then some ([v], r) else if c = 44 then (itF most r).map fun (l, q) => (v :: l, q) else none := by
  unfold itF
  conv => lhs; unfold itemsF
  rw [show valueF (2 * b.length + 1) most b = valF most b from rfl]
  cases hv : valF most b with
  | none => rfl
  | some p =>
    obtain ⟨v, q⟩ := p
    have h1 := val_len hv
    have h2 := blanks_len q
    simp only
    cases hq : blanksF q with
    | nil => rfl
    | cons c r =>
      rw [hq, List.length_cons] at h2
      simp only
      rw [it_fuel (by omega)]
      rfl
theorem mb_eq (most : Nat) (b : List UInt8) : mbF most b = match stringF (blanksF b) with
    | none => none
    | some (k, b1) => match mustF [58] (blanksF b1) with
      | none => none
      | some b2 => match valF most b2 with
        | none => none
        | some (v, q) => match blanksF q with
          | [] => none
          | c :: r => if c = 125 then some ([v], [k], r) else if c = 44 then (mbF most r).map fun (l, ks, q) => (v :: l, k :: ks, q) else none := by
  unfold mbF
  conv => lhs; unfold membersF
  have h0 := blanks_len b
  cases hs : stringF (blanksF b) with
  | none => rfl
  | some p =>
    obtain ⟨k, b1⟩ := p
    have h1 := string_len _ _ _ hs
    have h2 := blanks_len b1
    simp only
    cases hm : mustF [58] (blanksF b1) with
    | none => rfl
    | some b2 =>
      have h3 := must_len _ _ _ hm
      simp only [List.length_singleton] at h3
      simp only
      rw [val_fuel (by omega)]
      cases hv : valF most b2 with
      | none => rfl
      | some p =>
        obtain ⟨v, q⟩ := p
        have h4 := val_len hv
        have h5 := blanks_len q
        simp only
        cases hq : blanksF q with
        | nil => rfl
        | cons c r =>
          rw [hq, List.length_cons] at h5
          simp only
          rw [mb_fuel (by omega)]
          rfl
end Go.Proofs.YtbondnljoalajaaDoor
