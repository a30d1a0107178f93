/-
  The program's reader: the plain machine, and its passes. Conditions: those in each statement.
-/
import Derived.Test.YtiadfijeglbdlaaDoorJyG
import Derived.ArgAppend
import Derived.OwnWalk
import Derived.Test.YtiadfijeglbdlaaDoorJyO
namespace Go.Proofs.YtiadfijeglbdlaaDoor
open Go.RowKit

def valueW (most : Nat) (b : List UInt8) : Option (JV × List UInt8) := valueG (2 * b.length + 1) most b
def itemsW (most : Nat) (b : List UInt8) : Option (List JV × List UInt8) := itemsG (2 * b.length + 2) most b
def membersW (most : Nat) (b : List UInt8) : Option (List JV × List (List UInt8) × List UInt8) := membersG (2 * b.length + 2) most b
theorem valueW_of {f most : Nat} {b : List UInt8} (h : 2 * b.length + 1 ≤ f) : valueG f most b = valueW most b := (valueG_fuel _).1 most b f (Nat.le_refl _) h
theorem itemsW_of {f most : Nat} {b : List UInt8} (h : 2 * b.length + 2 ≤ f) : itemsG f most b = itemsW most b := (valueG_fuel _).2.1 most b f (Nat.le_refl _) h
theorem membersW_of {f most : Nat} {b : List UInt8} (h : 2 * b.length + 2 ≤ f) : membersG f most b = membersW most b := (valueG_fuel _).2.2 most b f (Nat.le_refl _) h

theorem blanks_twice : ∀ b : List UInt8, blanksF (blanksF b) = blanksF b
  | [] => rfl
  | c :: r => by
    by_cases h : isBlank c = true
    · have e : blanksF (c :: r) = blanksF r := by
        conv => lhs; unfold blanksF
        exact if_pos h
      rw [e]
      exact blanks_twice r
    · have e : blanksF (c :: r) = c :: r := by
        conv => lhs; unfold blanksF
        exact if_neg h
      rw [e, e]
theorem take_nil {c : UInt8} {b : List UInt8} (h : blanksF b = []) : takeF c b = (false, []) := by unfold takeF; rw [h]
theorem take_yes {c : UInt8} {b r : List UInt8} (h : blanksF b = c :: r) : takeF c b = (true, r) := by unfold takeF; rw [h]; simp
theorem take_no {c d : UInt8} {b r : List UInt8} (h : blanksF b = d :: r) (hd : d ≠ c) : takeF c b = (false, d :: r) := by unfold takeF; rw [h]; simp [hd]
theorem blanks_of {b r : List UInt8} {d : UInt8} (h : blanksF b = d :: r) : blanksF (d :: r) = d :: r := by rw [← h]; exact blanks_twice b

/-- what is in a list behind its '[' -/
def openL (most : Nat) (ys : List UInt8) : Option (List JV × List UInt8) := if (takeF 93 ys).1 = true then some ([], (takeF 93 ys).2) else itemsW most (takeF 93 ys).2
/-- what is in an object behind its brace -/
def openM (most : Nat) (ys : List UInt8) : Option (List JV × List (List UInt8) × List UInt8) := if (takeF 125 ys).1 = true then some ([], [], (takeF 125 ys).2) else membersW most (takeF 125 ys).2
/-- what is in a list behind one of its values -/
def tailI (most : Nat) (q : List UInt8) : Option (List JV × List UInt8) := if (takeF 93 q).1 = true then some ([], (takeF 93 q).2) else if (takeF 44 (takeF 93 q).2).1 = true then itemsW most (takeF 44 (takeF 93 q).2).2 else none
def tailM (most : Nat) (q : List UInt8) : Option (List JV × List (List UInt8) × List UInt8) := if (takeF 125 q).1 = true then some ([], [], (takeF 125 q).2) else if (takeF 44 (takeF 125 q).2).1 = true then membersW most (takeF 44 (takeF 125 q).2).2 else none
/-- a name and the ':' behind it -/
def nameF (xs : List UInt8) : Option (List UInt8 × List UInt8) :=
  if (takeF 34 xs).1 = true then
    match strF ((takeF 34 xs).2.length + 1) (takeF 34 xs).2 with
    | none => none
    | some (s, q) => if (takeF 58 q).1 = true then some (s, (takeF 58 q).2) else none
  else none

theorem tail_i (most : Nat) (q : List UInt8) : tailI most q = match blanksF q with | [] => none | c :: r => if c = 93 then some ([], r) else if c = 44 then itemsW most r else none := by
  unfold tailI
  cases h : blanksF q with
  | nil => rw [take_nil h, take_nil rfl]; rfl
  | cons c r =>
    by_cases h1 : c = 93
    · subst h1; rw [take_yes h]; rfl
    · rw [take_no h h1]
      simp only [if_neg h1]
      by_cases h2 : c = 44
      · subst h2; rw [take_yes (blanks_of h)]; rfl
      · rw [take_no (blanks_of h) h2, if_neg h2]; rfl
theorem tail_m (most : Nat) (q : List UInt8) : tailM most q = match blanksF q with | [] => none | c :: r => if c = 125 then some ([], [], r) else if c = 44 then membersW most r else none := by
  unfold tailM
  cases h : blanksF q with
  | nil => rw [take_nil h, take_nil rfl]; rfl
  | cons c r =>
    by_cases h1 : c = 125
    · subst h1; rw [take_yes h]; rfl
    · rw [take_no h h1]
      simp only [if_neg h1]
      by_cases h2 : c = 44
      · subst h2; rw [take_yes (blanks_of h)]; rfl
      · rw [take_no (blanks_of h) h2, if_neg h2]; rfl

theorem itemsW_eq (most : Nat) (b : List UInt8) : itemsW most b = match valueW most b with | none => none | some (v, q) => (tailI most q).map fun (l, q') => (v :: l, q') := by
  unfold itemsW itemsG
  show (match valueW most b with | none => none | some (v, q) => _) = _
  cases hv : valueW most b with
  | none => rfl
  | some z =>
    obtain ⟨v, q⟩ := z
    have lv := (valueG_len _).1 _ _ _ _ hv
    have hq := blanks_len q
    simp only
    rw [tail_i]
    cases ht : blanksF q with
    | nil => rfl
    | cons c r =>
      rw [ht, List.length_cons] at hq
      simp only
      rw [itemsW_of (by omega)]
      by_cases h1 : c = 93
      · simp [h1]
      · by_cases h2 : c = 44
        · simp [h2]
        · simp [h1, h2]
theorem name_string (b : List UInt8) : nameF b = match stringG (blanksF b) with | none => none | some (k, b1) => mustF [58] (blanksF b1) |>.map fun b2 => (k, b2) := by
  unfold nameF stringG
  cases h : blanksF b with
  | nil => rw [take_nil h]; rfl
  | cons c r =>
    by_cases h1 : c = 34
    · subst h1
      rw [take_yes h]
      simp only [mustF, if_true]
      cases hs : strF (r.length + 1) r with
      | none => rfl
      | some z =>
        obtain ⟨s, q⟩ := z
        simp only
        cases hq : blanksF q with
        | nil => rw [take_nil hq]; rfl
        | cons d t =>
          by_cases h2 : d = 58
          · subst h2; rw [take_yes hq, must_yes]; rfl
          · rw [take_no hq h2]; rw [must_no h2]; rfl
    · rw [take_no h h1]
      rw [must_no h1]; rfl
theorem membersW_eq (most : Nat) (b : List UInt8) : membersW most b = match nameF b with | none => none | some (k, b2) => match valueW most b2 with | none => none | some (v, q) => (tailM most q).map fun (l, ks, q') => (v :: l, k :: ks, q') := by
  rw [name_string]
  unfold membersW membersG
  have hb := blanks_len b
  cases hk : stringG (blanksF b) with
  | none => rfl
  | some z =>
    obtain ⟨k, b1⟩ := z
    have hk1 := stringG_len _ _ _ hk
    have hb1 := blanks_len b1
    simp only
    cases hm : mustF [58] (blanksF b1) with
    | none => rfl
    | some b2 =>
      have hm1 := must_len _ _ _ hm
      simp only [Option.map_some]
      simp only [List.length_cons, List.length_nil] at hm1
      rw [valueW_of (by omega)]
      cases hv : valueW most b2 with
      | none => rfl
      | some z =>
        obtain ⟨v, q⟩ := z
        have lv := (valueG_len _).1 _ _ _ _ hv
        have hq := blanks_len q
        simp only
        rw [tail_m]
        cases ht : blanksF q with
        | nil => rfl
        | cons c r =>
          rw [ht, List.length_cons] at hq
          simp only
          rw [membersW_of (by omega)]
          by_cases h1 : c = 125
          · simp [h1]
          · by_cases h2 : c = 44
            · simp [h2]
            · simp [h1, h2]
theorem itemsW_nil (most : Nat) : itemsW most [] = none := rfl
theorem membersW_nil (most : Nat) : membersW most [] = none := rfl
theorem open_l (most : Nat) (r : List UInt8) : openL most r = match blanksF r with | [] => none | d :: r1 => if d = 93 then some ([], r1) else itemsW most (d :: r1) := by
  unfold openL
  cases h : blanksF r with
  | nil => rw [take_nil h]; exact itemsW_nil _
  | cons c t =>
    by_cases h1 : c = 93
    · subst h1; rw [take_yes h]; rfl
    · rw [take_no h h1]; simp [h1]
theorem open_m (most : Nat) (r : List UInt8) : openM most r = match blanksF r with | [] => none | d :: r1 => if d = 125 then some ([], [], r1) else membersW most (d :: r1) := by
  unfold openM
  cases h : blanksF r with
  | nil => rw [take_nil h]; exact membersW_nil _
  | cons c t =>
    by_cases h1 : c = 125
    · subst h1; rw [take_yes h]; rfl
    · rw [take_no h h1]; simp [h1]
/-- what begins, and what that is -/
theorem valueW_eq (most : Nat) (xs : List UInt8) : valueW most xs =
    if (openF xs).1 = 0 then (singleF (openF xs).2).map fun p => (JV.mk (p.1 : Int) p.2.1 p.2.2.1 [] [], p.2.2.2)
    else if most = 0 then none
    else if (openF xs).1 = 5 then (openL (most - 1) (openF xs).2).map fun (l, q) => (JV.mk 5 [] 0 l [], q)
    else (openM (most - 1) (openF xs).2).map fun (l, ks, q) => (JV.mk 6 [] 0 l ks, q) := by
  have hb := blanks_len xs
  unfold valueW valueG
  cases h : blanksF xs with
  | nil =>
    have ho : openF xs = (0, []) := by unfold openF; rw [take_nil h, take_nil rfl]; rfl
    rw [ho]
    rfl
  | cons c r =>
    rw [h, List.length_cons] at hb
    by_cases h91 : c = 91
    · subst h91
      have ho : openF xs = (5, r) := by unfold openF; rw [take_yes h]; rfl
      rw [ho]
      simp only [show (91 : UInt8) ≠ 110 by decide, show (91 : UInt8) ≠ 102 by decide, show (91 : UInt8) ≠ 116 by decide, show (91 : UInt8) ≠ 34 by decide, if_false, if_true, show (5 : Nat) ≠ 0 by decide]
      by_cases hm : most = 0
      · simp [hm]
      · rw [if_neg hm, if_neg hm, open_l]
        have hr := blanks_len r
        cases ht : blanksF r with
        | nil => rfl
        | cons d t =>
          rw [ht, List.length_cons] at hr
          simp only
          rw [itemsW_of (by simp only [List.length_cons]; omega)]
          by_cases h1 : d = 93
          · simp [h1]
          · simp [h1]
    · by_cases h123 : c = 123
      · subst h123
        have ho : openF xs = (6, r) := by unfold openF; rw [take_no h h91]; simp [take_yes (blanks_of h)]
        rw [ho]
        simp only [show (123 : UInt8) ≠ 110 by decide, show (123 : UInt8) ≠ 102 by decide, show (123 : UInt8) ≠ 116 by decide, show (123 : UInt8) ≠ 34 by decide, show (123 : UInt8) ≠ 91 by decide, if_false, if_true, show (6 : Nat) ≠ 0 by decide, show (6 : Nat) ≠ 5 by decide]
        by_cases hm : most = 0
        · simp [hm]
        · rw [if_neg hm, if_neg hm, open_m]
          have hr := blanks_len r
          cases ht : blanksF r with
          | nil => rfl
          | cons d t =>
            rw [ht, List.length_cons] at hr
            simp only
            rw [membersW_of (by simp only [List.length_cons]; omega)]
            by_cases h1 : d = 125
            · simp [h1]
            · simp [h1]
      · have ho : openF xs = (0, c :: r) := by
          unfold openF
          rw [take_no h h91]
          simp [take_no (blanks_of h) h123]
        rw [ho]
        simp only [if_true, if_neg h91, if_neg h123]
        unfold singleF
        have hbb := blanks_of h
        by_cases h34 : c = 34
        · subst h34
          rw [take_yes hbb]
          simp only [show (34 : UInt8) ≠ 110 by decide, show (34 : UInt8) ≠ 102 by decide, show (34 : UInt8) ≠ 116 by decide, if_false, if_true]
          unfold stringG
          simp only [mustF, if_true]
          cases strF (r.length + 1) r with
          | none => rfl
          | some z => rfl
        · rw [take_no hbb h34]
          have hnum : isDigit c = false → numF (c :: r) = none := fun hd => by
            have e : spanD (c :: r) = ([], c :: r) := by
              unfold spanD
              exact if_neg (by rw [hd]; decide)
            unfold numF
            rw [e]
            exact if_pos rfl
          simp only [if_neg h34, wordsF, wordX]
          by_cases h1 : c = 110
          · subst h1
            rw [hnum (by decide)]
            simp only [if_true]
            cases mustF [110, 117, 108, 108] (110 :: r) with
            | some q => rfl
            | none => rfl
          · have m1 : mustF [110, 117, 108, 108] (c :: r) = none := must_no h1
            rw [m1]
            by_cases h2 : c = 102
            · subst h2
              rw [hnum (by decide)]
              simp only [show (102 : UInt8) ≠ 110 by decide, if_false, if_true]
              cases mustF [102, 97, 108, 115, 101] (102 :: r) with
              | some q => rfl
              | none => rfl
            · have m2 : mustF [102, 97, 108, 115, 101] (c :: r) = none := must_no h2
              rw [m2]
              by_cases h3 : c = 116
              · subst h3
                rw [hnum (by decide)]
                simp only [show (116 : UInt8) ≠ 110 by decide, show (116 : UInt8) ≠ 102 by decide, if_false, if_true]
                cases mustF [116, 114, 117, 101] (116 :: r) with
                | some q => rfl
                | none => rfl
              · have m3 : mustF [116, 114, 117, 101] (c :: r) = none := must_no h3
                rw [m3]
                simp only [if_neg h1, if_neg h2, if_neg h3]
                cases numF (c :: r) with
                | none => rfl
                | some z => rfl

/-- a list or an object that has not ended: kind, values, names -/
structure Frm where
  k : Nat
  acc : List JV
  ks : List (List UInt8)
/-- a value ended, with so many around it: what the text tells -/
def doneF : List Frm → JV → List UInt8 → Option JV
  | [], v, q => if blanksF q = [] then some v else none
  | fr :: S, v, q =>
    if fr.k = 6 then match tailM (7 - S.length) q with | none => none | some (l, ks, q') => doneF S (.mk 6 [] 0 (fr.acc ++ v :: l) (fr.ks ++ ks)) q'
    else match tailI (7 - S.length) q with | none => none | some (l, q') => doneF S (.mk 5 [] 0 (fr.acc ++ v :: l) fr.ks) q'
/-- a value is next -/
def atValue (S : List Frm) (ys : List UInt8) : Option JV := match valueW (8 - S.length) ys with | none => none | some (v, q) => doneF S v q
/-- a list or an object began -/
def atOpened (S : List Frm) (k : Nat) (ys : List UInt8) : Option JV :=
  if S.length = 8 then none
  else if k = 6 then match openM (7 - S.length) ys with | none => none | some (l, ks, q) => doneF S (.mk 6 [] 0 l ks) q
  else match openL (7 - S.length) ys with | none => none | some (l, q) => doneF S (.mk 5 [] 0 l []) q
/-- a member of the innermost one is next -/
def atMember (fr : Frm) (S : List Frm) (ys : List UInt8) : Option JV := match membersW (7 - S.length) ys with | none => none | some (l, ks, q) => doneF S (.mk 6 [] 0 (fr.acc ++ l) (fr.ks ++ ks)) q
/-- the innermost one ended -/
def atClosed (fr : Frm) (S : List Frm) (ys : List UInt8) : Option JV := doneF S (.mk (fr.k : Int) [] 0 fr.acc fr.ks) ys

theorem value_opened {S : List Frm} {ys : List UInt8} (hS : S.length ≤ 8) (h : (openF ys).1 ≠ 0) : atValue S ys = atOpened S (openF ys).1 (openF ys).2 := by
  unfold atValue atOpened
  rw [valueW_eq, if_neg h]
  by_cases h8 : S.length = 8
  · rw [if_pos (by omega), if_pos h8]
  · rw [if_neg (by omega), if_neg h8, show 8 - S.length - 1 = 7 - S.length by omega]
    by_cases h5 : (openF ys).1 = 5
    · rw [if_pos h5, h5]
      simp only [show (5 : Nat) ≠ 6 by decide, if_false]
      cases openL (7 - S.length) (openF ys).2 <;> rfl
    · have h6 : (openF ys).1 = 6 := by
        unfold openF at h h5 ⊢
        split at h
        · simp_all
        · split at h
          · simp_all
          · simp at h
      rw [if_neg h5, if_pos h6]
      cases openM (7 - S.length) (openF ys).2 <;> rfl
theorem open_kind (ys : List UInt8) : (openF ys).1 = 0 ∨ (openF ys).1 = 5 ∨ (openF ys).1 = 6 := by
  unfold openF
  split
  · simp
  · split <;> simp
theorem open_less (ys : List UInt8) : (openF ys).2.length ≤ ys.length ∧ ((openF ys).1 ≠ 0 → (openF ys).2.length < ys.length) := by
  have t1 := take_len 91 ys
  have t2 := take_len 123 (takeF 91 ys).2
  have e1 := take_less 91 ys
  have e2 := take_less 123 (takeF 91 ys).2
  unfold openF
  split
  · rename_i h
    exact ⟨t1, fun _ => e1 h⟩
  · split
    · rename_i h
      have := e2 h
      exact ⟨by simp only; omega, fun _ => by simp only; omega⟩
    · exact ⟨by simp only; omega, fun h => absurd rfl h⟩
theorem value_single {S : List Frm} {ys q : List UInt8} {k n : Nat} {s : List UInt8} (h : (openF ys).1 = 0) (hs : singleF (openF ys).2 = some (k, s, n, q)) : atValue S ys = doneF S (.mk (k : Int) s n [] []) q := by
  unfold atValue
  rw [valueW_eq, if_pos h, hs]
  rfl
theorem value_none {S : List Frm} {ys : List UInt8} (h : (openF ys).1 = 0) (hs : singleF (openF ys).2 = none) : atValue S ys = none := by
  unfold atValue
  rw [valueW_eq, if_pos h, hs]
  rfl
theorem opened_deep {S : List Frm} {k : Nat} {ys : List UInt8} (h : S.length = 8) : atOpened S k ys = none := by unfold atOpened; rw [if_pos h]
/-- the last sign of a kind -/
def lastF (k : Nat) : UInt8 := if k = 6 then 125 else 93
theorem opened_closed {S : List Frm} {k : Nat} {ys : List UInt8} (h : S.length ≠ 8) (hk : k = 5 ∨ k = 6) (ht : (takeF (lastF k) ys).1 = true) : atOpened S k ys = atClosed ⟨k, [], []⟩ S (takeF (lastF k) ys).2 := by
  unfold atOpened atClosed
  rw [if_neg h]
  rcases hk with rfl | rfl
  · simp only [lastF, show (5 : Nat) ≠ 6 by decide, if_false] at ht ⊢
    unfold openL
    rw [if_pos ht]
    rfl
  · simp only [lastF, if_true] at ht ⊢
    unfold openM
    rw [if_pos ht]
    rfl
theorem items_value {S : List Frm} {acc : List JV} {ys : List UInt8} {ks : List (List UInt8)} (hS : S.length < 8) : (match itemsW (7 - S.length) ys with | none => none | some (l, q) => doneF S (.mk 5 [] 0 (acc ++ l) ks) q) = atValue (⟨5, acc, ks⟩ :: S) ys := by
  unfold atValue
  rw [itemsW_eq, List.length_cons, show 8 - (S.length + 1) = 7 - S.length by omega]
  cases valueW (7 - S.length) ys with
  | none => rfl
  | some z =>
    obtain ⟨v, q⟩ := z
    simp only [doneF, show (5 : Nat) ≠ 6 by decide, if_false]
    cases tailI (7 - S.length) q with
    | none => rfl
    | some z => rfl
theorem opened_value {S : List Frm} {ys : List UInt8} (h : S.length < 8) (ht : (takeF 93 ys).1 = false) : atOpened S 5 ys = atValue (⟨5, [], []⟩ :: S) (takeF 93 ys).2 := by
  rw [← items_value h]
  unfold atOpened
  rw [if_neg (by omega)]
  simp only [show (5 : Nat) ≠ 6 by decide, if_false, List.nil_append]
  unfold openL
  rw [if_neg (by rw [ht]; decide)]
theorem opened_member {S : List Frm} {ys : List UInt8} (h : S.length < 8) (ht : (takeF 125 ys).1 = false) : atOpened S 6 ys = atMember ⟨6, [], []⟩ S (takeF 125 ys).2 := by
  unfold atOpened atMember
  rw [if_neg (by omega)]
  simp only [if_true, List.nil_append]
  unfold openM
  rw [if_neg (by rw [ht]; decide)]
theorem member_value {fr : Frm} {S : List Frm} {ys key q : List UInt8} (hS : S.length < 8) (h : nameF ys = some (key, q)) : atMember fr S ys = atValue (⟨6, fr.acc, fr.ks ++ [key]⟩ :: S) q := by
  unfold atMember atValue
  rw [membersW_eq, h, List.length_cons, show 8 - (S.length + 1) = 7 - S.length by omega]
  simp only
  cases valueW (7 - S.length) q with
  | none => rfl
  | some z =>
    obtain ⟨v, q1⟩ := z
    simp only [doneF, if_true]
    cases tailM (7 - S.length) q1 with
    | none => rfl
    | some z => obtain ⟨l, ks, q2⟩ := z; simp
theorem member_none {fr : Frm} {S : List Frm} {ys : List UInt8} (h : nameF ys = none) : atMember fr S ys = none := by
  unfold atMember
  rw [membersW_eq, h]
theorem done_closed {fr : Frm} {S : List Frm} {v : JV} {ys : List UInt8} (hk : fr.k = 5 ∨ fr.k = 6) (h : (takeF (lastF fr.k) ys).1 = true) : doneF (fr :: S) v ys = atClosed ⟨fr.k, fr.acc ++ [v], fr.ks⟩ S (takeF (lastF fr.k) ys).2 := by
  obtain ⟨k, acc, ks⟩ := fr
  unfold atClosed
  rcases hk with rfl | rfl
  · simp only [lastF, show (5 : Nat) ≠ 6 by decide, if_false] at h ⊢
    simp only [doneF, show (5 : Nat) ≠ 6 by decide, if_false]
    unfold tailI
    rw [if_pos h]
    rfl
  · simp only [lastF, if_true] at h ⊢
    simp only [doneF, if_true]
    unfold tailM
    rw [if_pos h]
    simp
theorem done_none {fr : Frm} {S : List Frm} {v : JV} {ys : List UInt8} (hk : fr.k = 5 ∨ fr.k = 6) (h : (takeF (lastF fr.k) ys).1 = false) (h2 : (takeF 44 (takeF (lastF fr.k) ys).2).1 = false) : doneF (fr :: S) v ys = none := by
  obtain ⟨k, acc, ks⟩ := fr
  rcases hk with rfl | rfl
  · simp only [lastF, show (5 : Nat) ≠ 6 by decide, if_false] at h h2
    simp only [doneF, show (5 : Nat) ≠ 6 by decide, if_false]
    unfold tailI
    rw [if_neg (by rw [h]; decide), if_neg (by rw [h2]; decide)]
  · simp only [lastF, if_true] at h h2
    simp only [doneF, if_true]
    unfold tailM
    rw [if_neg (by rw [h]; decide), if_neg (by rw [h2]; decide)]
theorem done_member {fr : Frm} {S : List Frm} {v : JV} {ys : List UInt8} (hk : fr.k = 6) (h : (takeF 125 ys).1 = false) (h2 : (takeF 44 (takeF 125 ys).2).1 = true) : doneF (fr :: S) v ys = atMember ⟨6, fr.acc ++ [v], fr.ks⟩ S (takeF 44 (takeF 125 ys).2).2 := by
  obtain ⟨k, acc, ks⟩ := fr
  simp only at hk
  subst hk
  unfold atMember
  simp only [doneF, if_true]
  unfold tailM
  rw [if_neg (by rw [h]; decide), if_pos h2]
  cases membersW (7 - S.length) (takeF 44 (takeF 125 ys).2).2 with
  | none => rfl
  | some z => obtain ⟨l, ks2, q⟩ := z; simp
theorem done_value {fr : Frm} {S : List Frm} {v : JV} {ys : List UInt8} (hS : S.length < 8) (hk : fr.k = 5) (h : (takeF 93 ys).1 = false) (h2 : (takeF 44 (takeF 93 ys).2).1 = true) : doneF (fr :: S) v ys = atValue (⟨5, fr.acc ++ [v], fr.ks⟩ :: S) (takeF 44 (takeF 93 ys).2).2 := by
  rw [← items_value hS]
  obtain ⟨k, acc, ks⟩ := fr
  simp only at hk
  subst hk
  simp only [doneF, show (5 : Nat) ≠ 6 by decide, if_false]
  unfold tailI
  rw [if_neg (by rw [h]; decide), if_pos h2]
  cases itemsW (7 - S.length) (takeF 44 (takeF 93 ys).2).2 with
  | none => rfl
  | some z => obtain ⟨l, q⟩ := z; simp
/-- what the machine tells of a text -/
theorem parse_machine (b : List UInt8) : parseF b = (atValue [] b).bind fun v => if mayF v 8 = true then some v else none := by
  rw [parse_G, valueW_of (by omega)]
  unfold atValue
  simp only [List.length_nil, Nat.sub_zero]
  cases valueW 8 b with
  | none => rfl
  | some z =>
    obtain ⟨v, q⟩ := z
    simp only [doneF]
    by_cases h1 : blanksF q = []
    · by_cases h2 : mayF v 8 = true
      · simp [h1, h2]
      · simp [h1, h2]
    · simp [h1]
end Go.Proofs.YtiadfijeglbdlaaDoor

namespace Go.Proofs.YtiadfijeglbdlaaDoor
open Go.RowKit

/-- all older blocks but these stay as they are -/
structure Tch (w w' : World) (bs : List Nat) : Prop where
  os : w'.os = w.os
  tape : w'.tape = w.tape
  output : w'.output = w.output
  size : w.heap.size ≤ w'.heap.size
  block : ∀ k, k < w.heap.size → k ∉ bs → w'.heap[k]? = w.heap[k]?
theorem Tch.of_grown {w w' : World} {r : Option Nat} (h : w.grownBy w' r) : Tch w w' r.toList := ⟨h.os, h.tape, h.output, h.size, fun k hk hb => h.block k hk (fun e => hb (by rw [← e]; simp))⟩
theorem Tch.of_below {w w' : World} (h : Below w.heap.size w w') (bs : List Nat) : Tch w w' bs := ⟨h.os, h.tape, h.output, h.size, fun k hk _ => h.block k hk⟩
theorem Tch.refl (w : World) (bs : List Nat) : Tch w w bs := ⟨rfl, rfl, rfl, Nat.le_refl _, fun _ _ _ => rfl⟩
theorem Tch.mono {w w' : World} {bs bs' : List Nat} (h : Tch w w' bs) (hs : ∀ b ∈ bs, b ∈ bs' ∨ w.heap.size ≤ b) : Tch w w' bs' := ⟨h.os, h.tape, h.output, h.size, fun k hk hb => h.block k hk (fun e => by rcases hs k e with h1 | h1; exact hb h1; omega)⟩
theorem Tch.trans {a b c : World} {bs : List Nat} (h : Tch a b bs) (k : Tch b c bs) : Tch a c bs := ⟨k.os.trans h.os, k.tape.trans h.tape, k.output.trans h.output, Nat.le_trans h.size k.size, fun i hi hb => (k.block i (Nat.lt_of_lt_of_le hi h.size) hb).trans (h.block i hi hb)⟩
theorem Tch.grown {w w' : World} {bs : List Nat} {r : Option Nat} (h : Tch w w' bs) (hs : ∀ b ∈ bs, some b = r ∨ w.heap.size ≤ b) : w.grownBy w' r := ⟨h.os, h.tape, h.output, h.size, fun k hk hr => h.block k hk (fun e => by rcases hs k e with h1 | h1; exact hr h1; omega)⟩
/-- .. and back to what was there before -/
theorem Tch.after {a b c : World} {bs : List Nat} {r : Option Nat} (h : a.grownBy b r) (k : Tch b c bs) (hs : ∀ x ∈ bs, some x = r ∨ a.heap.size ≤ x) : a.grownBy c r :=
  ⟨k.os.trans h.os, k.tape.trans h.tape, k.output.trans h.output, Nat.le_trans h.size k.size, fun i hi hr => (k.block i (Nat.lt_of_lt_of_le hi h.size) (fun e => by rcases hs i e with h1 | h1; exact hr h1; omega)).trans (h.block i hi hr)⟩
theorem Tch.row {w w' : World} {bs : List Nat} {B sz n : Nat} {T : TypeId} {v : Value} {xs : List Value} (h : Tch w w' bs) (ho : w.ownsRow B T sz v n xs) (hb : ∀ k, v.ownBlock = some k → k ∉ bs) : w'.ownsRow B T sz v n xs := by
  obtain ⟨h1, h2 | ⟨g, cap, cur, hv, hg, hc, h3⟩⟩ := ho
  · exact ⟨h1, .inl h2⟩
  · refine ⟨h1, .inr ⟨g, cap, cur, hv, hg, ?_, h3⟩⟩
    rw [h.block g (Array.getElem?_eq_some_iff.1 hc).1 (hb g (by rw [hv]; rfl))]
    exact hc
theorem Tch.arr {w w' : World} {bs : List Nat} {g : Nat} {T : TypeId} {xs : List Value} (h : Tch w w' bs) (ha : Arr w g T xs) (hb : g ∉ bs) : Arr w' g T xs := by
  unfold Arr
  rw [h.block g ha.lt hb]
  exact ha
theorem Tch.stay {w w' : World} {bs : List Nat} {S : Nat → Prop} (h : Tch w w' bs) (hb : ∀ b ∈ bs, ¬ S b) : Stay S w w' := fun b hs hl => h.block b hl (fun e => hb b e hs)
theorem Tch.rd {w w' : World} {bs : List Nat} {R : Nat} {xs : List UInt8} (h : Tch w w' bs) (hr : RdAt w R xs) (hb : ∀ b ∈ bs, R < b) : RdAt w' R xs := by
  obtain ⟨a, c, h1, h2⟩ := hr
  refine ⟨a, c, h.arr h1 (fun e => Nat.lt_irrefl _ (hb R e)), h2.le, h2.big, fun h0 => ?_⟩
  obtain ⟨b, off, e, k1, k2, k3⟩ := h2.mem h0
  exact ⟨b, off, e, k1, Nat.lt_of_lt_of_le k2 h.size, fun j hj => (World.cell?_of_block (a := ⟨b, off + j, none⟩) (h.block b k2 (fun e => by have := hb b e; omega))).trans (k3 j hj)⟩

theorem row_base {w : World} {B B' sz n : Nat} {T : TypeId} {v : Value} {xs : List Value} (h : w.ownsRow B T sz v n xs) (hB : B' ≤ B) : w.ownsRow B' T sz v n xs := by
  obtain ⟨h1, h2 | ⟨g, cap, cur, hv, hg, h3⟩⟩ := h
  · exact ⟨h1, .inl h2⟩
  · exact ⟨h1, .inr ⟨g, cap, cur, hv, Nat.le_trans hB hg, h3⟩⟩

/-- append to a row, and where the new row lies: where it was, or in a new block -/
theorem wl_append_w {P : Program} {ops : Array Oper} {rest : List Oper} {o : Oper} {a : Act} {Q : Exit → Act → World → Prop} {w : World} (hgd : o.guard = none) (s x : Operand) (t : TypeId)
    (ho : o.op = .call { callee := .builtin .append, args := #[s, x], argTypes := #[t, t] })
    (base : Nat) (e : TypeId) (i : TypeInfo) (z : Value) (size bytes : Nat) (ht : P.underlying t = some (.slice e)) (hi : P.info? e = some i) (hz : i.zero = some z)
    (hsize : i.size = size) (hby : i.bytes = bytes) (hzs : z.cells.size = size) (hsz : 0 < size)
    (v : Value) (n : Nat) (xs : List Value) (hs : a.eval s = v) (hown : w.ownsRow base e size v n xs)
    (ad : Addr) (c : Nat) (news : List Value) (hx : a.eval x = .slice (some ad) 1 c) (hl : news.length = 1 * size) (hnews : ∀ j u, news[j]? = some u → w.cell? (ad.add j) = some u) (h1 : ∀ u ∈ news, u.oneCell' = true)
    (h63 : n + 1 ≤ maxLen) (hbytes : (n + 1) * bytes ≤ 140737488355328) (hbase : base ≤ w.heap.size)
    (h : ∀ v' w', w'.ownsRow base e size v' (n + 1) (xs ++ news) → Tch w w' v.ownBlock.toList → (∀ k, v'.ownBlock = some k → v.ownBlock = some k ∨ w.heap.size ≤ k) → wpList P ops Q rest (a.put o.dst v') w') : wpList P ops Q (o :: rest) a w := by
  rcases hown.2 with ⟨hv, hn⟩ | ⟨g, cap, cur, hv, hg, hc, hcap, hm, hcs, hct⟩
  · subst hv
    subst hn
    have hxs : xs = [] := List.eq_nil_of_length_eq_zero (by have := hown.1; simpa using this)
    subst hxs
    refine wpList_append_own w hgd s x t ho w.heap.size e i z size bytes ht hi hz hsize hby hzs hsz _ 0 [] hs (World.ownsRow_nil w _ e size) ad 1 c news hx hl hnews h1 h63 hbytes (Nat.le_refl _) ?_
    intro v' w' h2 h3 _
    exact h v' w' (row_base h2 hbase) (Tch.of_grown h3) (fun k hk => .inr (World.ownsRow.lt h2 k hk).1)
  · by_cases hr : n + 1 ≤ cap
    · subst hv
      refine wpList_append_fits w hgd s x t ho base e i size ht hi hsize g n cap xs hs hown ad 1 c news hx hl hnews h1 hr ?_
      intro w' h2 h3
      exact h _ w' h2 (Tch.of_grown h3) (fun k hk => .inl hk)
    · have hcur := hown
      refine wpList_append_arg w hgd s x t ho e i z size bytes ht hi hz hsize hby hzs hsz g 0 n cap xs (hs.trans hv) hown.1 (fun j u hj => by have := World.ownsRow.cells hown (g := g) (by rw [hv]; rfl) j u hj; rwa [Addr.add_lit] at this) ad 1 c news hx hl hnews h1 (fun hh => absurd hh hr) h63 hbytes (fun hh => absurd hh hr) ?_
      intro _ v' w' h2 h3
      exact h v' w' (row_base h2 hbase) ((Tch.of_grown h3).mono (by simp)) (fun k hk => .inr (World.ownsRow.lt h2 k hk).1)

/-- the cells of a row, five an element -/
def cell5 (xs : List Value) (i : Nat) : List Value := (xs.drop (5 * i)).take 5
theorem cell5_old {xs ys : List Value} {n i : Nat} (h : xs.length = n * 5) (hi : i < n) : cell5 (xs ++ ys) i = cell5 xs i := by
  unfold cell5
  rw [List.drop_append_of_le_length (by omega), List.take_append_of_le_length (by rw [List.length_drop]; omega)]
theorem cell5_new {xs cs : List Value} {n : Nat} (h : xs.length = n * 5) (hc : cs.length = 5) : cell5 (xs ++ cs) n = cs := by
  unfold cell5
  rw [List.drop_append, List.drop_eq_nil_of_le (by omega), show 5 * n - xs.length = 0 by omega]
  simp
  exact List.take_of_length_le (by omega)

/-- a list or an object that has not ended, in memory: its values' row, its names' row; what is in its values lies in blocks of D -/
structure FrM (D : Nat → Prop) (B : Nat) (w : World) (fr : Frm) (lv kv : Value) : Prop where
  kind : fr.k = 5 ∨ fr.k = 6
  keys : w.ownsRow B 9 1 kv fr.ks.length (fr.ks.map fun k => Value.string (bstr k))
  list : ∃ xs, w.ownsRow B 30 5 lv fr.acc.length xs ∧ ∀ i v, fr.acc[i]? = some v → SV D w v (cell5 xs i)
/-- the five cells of one -/
def frC (fr : Frm) (lv kv : Value) : List Value := [.int .i64 (fr.k : Int), .string ⟨#[]⟩, .int .u64 0, lv, kv]
/-- those that have not ended, the innermost one first: their cells, the blocks of their rows -/
def FS (D : Nat → Prop) (B : Nat) (w : World) : List Frm → List (List Value) → List Nat → Prop
  | [], css, bl => css = [] ∧ bl = []
  | fr :: S, css, bl => ∃ lv kv css' bl', css = frC fr lv kv :: css' ∧ bl = (lv.ownBlock.toList ++ kv.ownBlock.toList) ++ bl' ∧ FrM D B w fr lv kv ∧ FS D B w S css' bl'
theorem FrM.tch {D D' : Nat → Prop} {B : Nat} {w w' : World} {fr : Frm} {lv kv : Value} {bs : List Nat} (h : FrM D B w fr lv kv) (ht : Tch w w' bs) (hl : ∀ k, lv.ownBlock = some k → k ∉ bs) (hk : ∀ k, kv.ownBlock = some k → k ∉ bs) (hD : ∀ b ∈ bs, ¬ D b) (hDD : ∀ b, D b → b < w.heap.size → D' b) : FrM D' B w' fr lv kv := by
  obtain ⟨xs, h1, h2⟩ := h.list
  exact ⟨h.kind, ht.row h.keys hk, xs, ht.row h1 hl, fun i v hi => sv_to hDD (ht.stay hD) v _ (h2 i v hi)⟩
theorem FS.tch {D D' : Nat → Prop} {B : Nat} {w w' : World} {bs : List Nat} (ht : Tch w w' bs) (hD : ∀ b ∈ bs, ¬ D b) (hDD : ∀ b, D b → b < w.heap.size → D' b) : ∀ (S : List Frm) (css : List (List Value)) (bl : List Nat), FS D B w S css bl → (∀ b ∈ bl, b ∉ bs) → FS D' B w' S css bl
  | [], _, _, h, _ => h
  | fr :: S, css, bl, h, hb => by
    obtain ⟨lv, kv, css', bl', rfl, rfl, h1, h2⟩ := h
    refine ⟨lv, kv, css', bl', rfl, rfl, h1.tch ht (fun k hk => hb k (by simp [hk])) (fun k hk => hb k (by simp [hk])) hD hDD, FS.tch ht hD hDD S css' bl' h2 (fun b hbb => hb b (List.mem_append_right _ hbb))⟩
theorem FS.len {D : Nat → Prop} {B : Nat} {w : World} : ∀ (S : List Frm) (css : List (List Value)) (bl : List Nat), FS D B w S css bl → css.length = S.length
  | [], _, _, h => by rw [h.1]; rfl
  | fr :: S, css, bl, h => by
    obtain ⟨lv, kv, css', bl', rfl, rfl, h1, h2⟩ := h
    rw [List.length_cons, List.length_cons, FS.len S css' bl' h2]
theorem FS.lo {D : Nat → Prop} {B : Nat} {w : World} : ∀ (S : List Frm) (css : List (List Value)) (bl : List Nat), FS D B w S css bl → ∀ b ∈ bl, B ≤ b ∧ b < w.heap.size
  | [], _, _, h => by rw [h.2]; simp
  | fr :: S, css, bl, h => by
    obtain ⟨lv, kv, css', bl', rfl, rfl, h1, h2⟩ := h
    intro b hb
    rcases List.mem_append.1 hb with hb | hb
    · rcases List.mem_append.1 hb with hb | hb
      · obtain ⟨xs, h3, -⟩ := h1.list
        exact World.ownsRow.lt h3 b (by simpa using hb)
      · exact World.ownsRow.lt h1.keys b (by simpa using hb)
    · exact FS.lo S css' bl' h2 b hb

/-- what has ended reads as its value -/
theorem FrM.ends {D D' : Nat → Prop} {B : Nat} {w : World} {fr : Frm} {lv kv : Value} (h : FrM D B w fr lv kv) (hD : ∀ b, D b → b < w.heap.size → D' b) (hl : ∀ k, lv.ownBlock = some k → D' k) (hk : ∀ k, kv.ownBlock = some k → D' k) : SV D' w (.mk (fr.k : Int) [] 0 fr.acc fr.ks) (frC fr lv kv) := by
  have hkind := h.kind
  have hkeys := h.keys
  obtain ⟨xs, h1, h2⟩ := h.list
  have e0 : ∀ S : Nat → Prop, Stay S w w := fun S b _ _ => rfl
  have key1 : ∃ a' c', kv = .slice a' fr.ks.length c' ∧ SStr D' w fr.ks a' c' := by
    have hlt := World.ownsRow.lt hkeys
    have hc := @World.ownsRow.cells _ _ _ _ _ _ _ hkeys
    obtain ⟨e1, ⟨rfl, hn0⟩ | ⟨g, cap, cur, rfl, hg1, hg2, hg3, hg4, -⟩⟩ := hkeys
    · exact ⟨none, 0, by rw [hn0], ⟨⟨by omega, by omega, fun _ => rfl, fun h0 => by omega⟩, fun h0 => by omega⟩⟩
    · refine ⟨some ⟨g, 0, none⟩, cap, rfl, ⟨⟨hg3, by unfold maxLen at hg4; omega, (by intro e; cases e), fun h0 => ?_⟩, fun h0 => ⟨g, 0, rfl, hk g rfl⟩⟩⟩
      refine ⟨g, 0, rfl, (hlt g rfl).2, fun i hi => ?_⟩
      have := hc (g := g) rfl i (.string (bstr (fr.ks.getD i []))) (by simp [List.getD, hi])
      rw [Addr.add_lit] at this
      simpa using this
  have key2 : ∃ a c, lv = .slice a fr.acc.length c ∧ (fr.acc.length ≤ c ∧ c ≤ 9223372036854775807) ∧ (a = none → c = 0) ∧ (0 < fr.acc.length → ∃ b off, a = some ⟨b, off, none⟩ ∧ D' b ∧ PlainB w b ∧ SL D' w fr.acc b off) := by
    have hc := @World.ownsRow.cells _ _ _ _ _ _ _ h1
    have hlen := h1.1
    obtain ⟨e1, ⟨rfl, hn0⟩ | ⟨g, cap, cur, rfl, hg1, hg2, hg3, hg4, -⟩⟩ := h1
    · exact ⟨none, 0, by rw [hn0], ⟨by omega, by omega⟩, fun _ => rfl, fun h0 => by omega⟩
    · refine ⟨some ⟨g, 0, none⟩, cap, rfl, ⟨hg3, by unfold maxLen at hg4; omega⟩, (by intro e; cases e), fun h0 => ⟨g, 0, rfl, hl g rfl, ⟨_, _, hg2⟩, sl_mk g fr.acc 0 fun i v hiv => ?_⟩⟩
      have hil := (List.getElem?_eq_some_iff.1 hiv).1
      have hv := h2 i v hiv
      have h5 := sv_len hv
      refine ⟨cell5 xs i, h5, fun j hj => ?_, sv_to hD (e0 D) v _ hv⟩
      have hx : xs[5 * i + j]? = (cell5 xs i)[j]? := by
        unfold cell5
        rw [List.getElem?_take, if_pos hj, List.getElem?_drop]
      rw [← hx, List.getElem?_eq_getElem (by omega)]
      have := hc (g := g) rfl (5 * i + j) (xs[5 * i + j]'(by omega)) (List.getElem?_eq_getElem (by omega))
      rw [Addr.add_lit] at this
      exact this
  obtain ⟨a', c', rfl, k1⟩ := key1
  obtain ⟨a, c, rfl, k2, k3, k4⟩ := key2
  unfold SV frC
  exact ⟨a, c, a', c', rfl, by rcases hkind with e | e <;> rw [e] <;> omega, k1, k2, k3, k4⟩
end Go.Proofs.YtiadfijeglbdlaaDoor

namespace Go.Proofs.YtiadfijeglbdlaaDoor
open Go.RowKit

def zC : List Value := [.int .i64 0, .string ⟨#[]⟩, .int .u64 0, .slice none 0 0, .slice none 0 0]
/-- those that have not ended lie apart: the row of them all, each one's rows, what is in D -/
def OpenS (D : Nat → Prop) (B : Nat) (w : World) (S : List Frm) (ov : Value) : Prop :=
  ∃ css bl, FS D B w S css bl ∧ w.ownsRow B 30 5 ov S.length css.reverse.flatten ∧ (ov.ownBlock.toList ++ bl).Nodup ∧ ∀ b ∈ ov.ownBlock.toList ++ bl, ¬ D b
/-- between two labels -/
structure WS (w : World) (R L : Nat) (D : Nat → Prop) (S : List Frm) (ys : List UInt8) (m : Nat) (ov : Value) (vc : List Value) (wr : World) : Prop where
  gb : w.grownBy wr (some R)
  rd : RdAt wr R ys
  res : Arr wr w.heap.size 30 zC
  vbl : Arr wr (w.heap.size + 1) 30 vc
  vlen : vc.length = 5
  dlo : ∀ b, D b → w.heap.size + 2 ≤ b ∧ b < wr.heap.size
  opn : OpenS D (w.heap.size + 2) wr S ov
  few : ∀ fr ∈ S, fr.acc.length + m ≤ L ∧ fr.ks.length + m ≤ L
  deep : S.length ≤ 8
  len : ys.length ≤ L

theorem option_nodup (o : Option Nat) : o.toList.Nodup := by cases o <;> simp
theorem OpenS.lo {D : Nat → Prop} {B : Nat} {w : World} {S : List Frm} {ov : Value} (h : OpenS D B w S ov) : ∀ b, ov.ownBlock = some b → B ≤ b ∧ b < w.heap.size := by
  obtain ⟨css, bl, -, h2, -⟩ := h
  exact World.ownsRow.lt h2
theorem OpenS.tch {D : Nat → Prop} {B : Nat} {w w' : World} {S : List Frm} {ov : Value} {bs : List Nat} (h : OpenS D B w S ov) (ht : Tch w w' bs) (hb : ∀ b ∈ bs, b < B) (hD : ∀ b, D b → B ≤ b) : OpenS D B w' S ov := by
  obtain ⟨css, bl, h1, h2, h3, h4⟩ := h
  have hlo := FS.lo S css bl h1
  refine ⟨css, bl, FS.tch ht (fun b hbb hd => by have := hD b hd; have := hb b hbb; omega) (fun _ hd _ => hd) S css bl h1 (fun b hbb e => by have := hlo b hbb; have := hb b e; omega), ht.row h2 (fun k hk e => by have := (World.ownsRow.lt h2 k hk).1; have := hb k e; omega), h3, h4⟩
/-- the reader goes on, v is another -/
theorem WS.keep {w wr w' : World} {R L : Nat} {D : Nat → Prop} {S : List Frm} {ys ys' : List UInt8} {m m' : Nat} {ov : Value} {vc vc' : List Value} (h : WS w R L D S ys m ov vc wr) (hT : Tch wr w' [R, w.heap.size + 1]) (hR : R < w.heap.size)
    (hr : RdAt w' R ys') (hv : Arr w' (w.heap.size + 1) 30 vc') (hvl : vc'.length = 5) (hl : ys'.length ≤ L) (hm : m' ≤ m) : WS w R L D S ys' m' ov vc' w' where
  gb := Tch.after h.gb hT (by intro x hx; simp at hx; rcases hx with rfl | rfl; exact .inl rfl; right; omega)
  rd := hr
  res := hT.arr h.res (by simp; omega)
  vbl := hv
  vlen := hvl
  dlo := fun b hb => ⟨(h.dlo b hb).1, Nat.lt_of_lt_of_le (h.dlo b hb).2 hT.size⟩
  opn := h.opn.tch hT (by intro b hb; simp at hb; omega) (fun b hb => (h.dlo b hb).1)
  few := fun fr hf => by have := h.few fr hf; omega
  deep := h.deep
  len := hl

/-- the innermost one, in memory -/
structure TopM (D : Nat → Prop) (B : Nat) (w : World) (fr : Frm) (S : List Frm) (ov : Value) (O cap : Nat) (cur lead : List Value) (lv kv : Value) (css : List (List Value)) (bl : List Nat) : Prop where
  hov : ov = .slice (some ⟨O, 0, none⟩) (S.length + 1) cap
  harr : Arr w O 30 cur
  cap1 : S.length + 1 ≤ cap
  cap2 : cap ≤ maxLen
  hsize : cur.length = cap * 5
  hlead : lead = css.reverse.flatten
  llen : lead.length = S.length * 5
  hcur : cur.take ((S.length + 1) * 5) = lead ++ frC fr lv kv
  hfr : FrM D B w fr lv kv
  hfs : FS D B w S css bl
  lo : B ≤ O
  nd : (O :: ((lv.ownBlock.toList ++ kv.ownBlock.toList) ++ bl)).Nodup
  out : ∀ b ∈ O :: ((lv.ownBlock.toList ++ kv.ownBlock.toList) ++ bl), ¬ D b
theorem TopM.cell {D : Nat → Prop} {B : Nat} {w : World} {fr : Frm} {S : List Frm} {ov : Value} {O cap : Nat} {cur lead : List Value} {lv kv : Value} {css : List (List Value)} {bl : List Nat} (h : TopM D B w fr S ov O cap cur lead lv kv css bl) (j : Nat) (hj : j < 5) : cur[S.length * 5 + j]? = (frC fr lv kv)[j]? := by
  have h1 : (cur.take ((S.length + 1) * 5))[S.length * 5 + j]? = cur[S.length * 5 + j]? := by rw [List.getElem?_take, if_pos (by omega)]
  rw [← h1, h.hcur, List.getElem?_append_right (by rw [h.llen]; omega), h.llen, Nat.add_sub_cancel_left]
theorem flat_len (css : List (List Value)) (h : ∀ cs ∈ css, cs.length = 5) : css.flatten.length = css.length * 5 := by
  induction css with
  | nil => rfl
  | cons c r ih =>
    rw [List.flatten_cons, List.length_append, List.length_cons, ih (fun cs hc => h cs (List.mem_cons_of_mem _ hc)), h c (List.mem_cons_self ..)]
    omega
theorem FS.five {D : Nat → Prop} {B : Nat} {w : World} : ∀ (S : List Frm) (css : List (List Value)) (bl : List Nat), FS D B w S css bl → ∀ cs ∈ css, cs.length = 5
  | [], _, _, h => by rw [h.1]; simp
  | fr :: S, css, bl, h => by
    obtain ⟨lv, kv, css', bl', rfl, rfl, h1, h2⟩ := h
    intro cs hc
    rcases List.mem_cons.1 hc with rfl | hc
    · rfl
    · exact FS.five S css' bl' h2 cs hc
theorem OpenS.top {D : Nat → Prop} {B : Nat} {w : World} {fr : Frm} {S : List Frm} {ov : Value} (h : OpenS D B w (fr :: S) ov) : ∃ O cap cur lead lv kv css bl, TopM D B w fr S ov O cap cur lead lv kv css bl := by
  obtain ⟨css, bl, h1, h2, h3, h4⟩ := h
  obtain ⟨lv, kv, css', bl', rfl, rfl, hf, hs⟩ := h1
  rcases h2.2 with ⟨_, hn⟩ | ⟨O, cap, cur, hv, hg, hc, hcap, hm, hcs, hct⟩
  · simp at hn
  · subst hv
    have hl := FS.len S css' bl' hs
    have hlead : css'.reverse.flatten.length = S.length * 5 := by
      rw [flat_len _ (fun cs hcm => FS.five S css' bl' hs cs (by simpa using hcm)), List.length_reverse, hl]
    refine ⟨O, cap, cur.toList, css'.reverse.flatten, lv, kv, css', bl', ?_⟩
    exact { hov := rfl, harr := by unfold Arr; simpa using hc, cap1 := hcap, cap2 := hm, hsize := by simpa using hcs, hlead := rfl, llen := hlead, hcur := by rw [List.length_cons] at hct; rw [hct]; simp, hfr := hf, hfs := hs, lo := hg, nd := h3, out := h4 }
/-- .. and back -/
theorem TopM.opens {D : Nat → Prop} {B : Nat} {w : World} {fr : Frm} {S : List Frm} {ov : Value} {O cap : Nat} {cur lead : List Value} {lv kv : Value} {css : List (List Value)} {bl : List Nat} (h : TopM D B w fr S ov O cap cur lead lv kv css bl) : OpenS D B w (fr :: S) ov := by
  have hov := h.hov
  subst hov
  refine ⟨frC fr lv kv :: css, (lv.ownBlock.toList ++ kv.ownBlock.toList) ++ bl, ⟨lv, kv, css, bl, rfl, rfl, h.hfr, h.hfs⟩, ⟨?_, .inr ⟨O, cap, cur.toArray, rfl, h.lo, h.harr, h.cap1, h.cap2, by simpa using h.hsize, ?_⟩⟩, h.nd, h.out⟩
  · have := h.llen
    have e := h.hlead
    simp only [List.reverse_cons, List.flatten_append, List.flatten_cons, List.flatten_nil, List.append_nil, List.length_append, List.length_cons, ← e, this]
    rw [show (frC fr lv kv).length = 5 from rfl]
    omega
  · have := h.hcur
    have e := h.hlead
    simp only [List.reverse_cons, List.flatten_append, List.flatten_cons, List.flatten_nil, List.append_nil, List.length_cons, ← e]
    exact this
theorem nodup_swap {O : Nat} {a c c' bl : List Nat} {sz : Nat} (h : (O :: ((a ++ c) ++ bl)).Nodup) (hlt : ∀ x ∈ O :: ((a ++ c) ++ bl), x < sz) (hc : c'.Nodup) (hnew : ∀ x ∈ c', x ∈ c ∨ sz ≤ x) : (O :: ((a ++ c') ++ bl)).Nodup := by
  simp only [List.nodup_cons, List.nodup_append, List.mem_append, List.mem_cons, not_or] at h hlt ⊢
  obtain ⟨⟨⟨o1, o2⟩, o3⟩, ⟨⟨h1, h2, h3⟩, h4, h5⟩⟩ := h
  refine ⟨⟨⟨o1, fun e => ?_⟩, o3⟩, ⟨⟨h1, hc, fun x hx y hy e => ?_⟩, h4, fun x hx y hy e => ?_⟩⟩
  · rcases hnew O e with e2 | e2
    · exact o2 e2
    · have := hlt O (.inl rfl); omega
  · subst e
    rcases hnew x hy with e2 | e2
    · exact h3 x hx x e2 rfl
    · have := hlt x (.inr (.inl (.inl hx))); omega
  · subst e
    rcases hx with hx | hx
    · exact h5 x (.inl hx) x hy rfl
    · rcases hnew x hx with e2 | e2
      · exact h5 x (.inr e2) x hy rfl
      · have := hlt x (.inr (.inr hy)); omega
theorem TopM.lt {D : Nat → Prop} {B : Nat} {w : World} {fr : Frm} {S : List Frm} {ov : Value} {O cap : Nat} {cur lead : List Value} {lv kv : Value} {css : List (List Value)} {bl : List Nat} (h : TopM D B w fr S ov O cap cur lead lv kv css bl) : ∀ x ∈ O :: ((lv.ownBlock.toList ++ kv.ownBlock.toList) ++ bl), B ≤ x ∧ x < w.heap.size := by
  intro x hx
  simp only [List.mem_cons, List.mem_append, Option.mem_toList] at hx
  obtain ⟨xs, h1, -⟩ := h.hfr.list
  rcases hx with rfl | (hx | hx) | hx
  · exact ⟨h.lo, h.harr.lt⟩
  · exact World.ownsRow.lt h1 x hx
  · exact World.ownsRow.lt h.hfr.keys x hx
  · exact FS.lo S css bl h.hfs x hx
theorem take_set {cur lead cs cs' : List Value} {n i : Nat} {v : Value} (h : cur.take ((n + 1) * 5) = lead ++ cs) (hl : lead.length = n * 5) (hi : i < 5) (hc : cs' = cs.set i v) : (cur.set (n * 5 + i) v).take ((n + 1) * 5) = lead ++ cs' := by
  rw [List.take_set, h, List.set_append, if_neg (by omega), hl, Nat.add_sub_cancel_left, hc]
/-- the innermost one is another: its values' row, or its names' row -/
theorem TopM.set {D : Nat → Prop} {B : Nat} {w w' : World} {fr fr' : Frm} {S : List Frm} {ov : Value} {O cap : Nat} {cur lead : List Value} {lv kv lv' kv' v : Value} {css : List (List Value)} {bl bs : List Nat} {i : Nat} (h : TopM D B w fr S ov O cap cur lead lv kv css bl)
    (hi : i < 5) (hc : frC fr' lv' kv' = (frC fr lv kv).set i v) (ht : Tch w w' bs) (hO : Arr w' O 30 (cur.set (S.length * 5 + i) v)) (hfr : FrM D B w' fr' lv' kv')
    (hbs : ∀ b ∈ bs, b < B ∨ b = O ∨ lv.ownBlock = some b ∨ kv.ownBlock = some b) (hD : ∀ b, D b → B ≤ b ∧ b < w.heap.size) (hl : ∀ x, lv'.ownBlock = some x → lv.ownBlock = some x ∨ w.heap.size ≤ x) (hk : ∀ x, kv'.ownBlock = some x → kv.ownBlock = some x ∨ w.heap.size ≤ x) (hlk : lv'.ownBlock = lv.ownBlock ∨ kv'.ownBlock = kv.ownBlock) :
    TopM D B w' fr' S ov O cap (cur.set (S.length * 5 + i) v) lead lv' kv' css bl := by
  have hlt := h.lt
  have hnd := h.nd
  have hout := h.out
  have hO2 : ∀ b ∈ bs, ¬ D b := fun b hb hd => by
    rcases hbs b hb with e | e | e | e
    · have := (hD b hd).1; omega
    · exact hout b (by simp [e]) hd
    · exact hout b (by simp [e]) hd
    · exact hout b (by simp [e]) hd
  have hfs : ∀ b ∈ bl, b ∉ bs := fun b hb e => by
    simp only [List.nodup_cons, List.nodup_append, List.mem_append, Option.mem_toList, not_or] at hnd
    rcases hbs b e with e | e | e | e
    · have := (hlt b (by simp [hb])).1; omega
    · exact hnd.1.2 (e ▸ hb)
    · exact hnd.2.2.2 b (.inl e) b hb rfl
    · exact hnd.2.2.2 b (.inr e) b hb rfl
  refine { hov := h.hov, harr := hO, cap1 := h.cap1, cap2 := h.cap2, hsize := by rw [List.length_set]; exact h.hsize, hlead := h.hlead, llen := h.llen, hcur := take_set h.hcur h.llen hi hc, hfr := hfr, hfs := FS.tch ht hO2 (fun _ hd _ => hd) S css bl h.hfs hfs, lo := h.lo, nd := ?_, out := ?_ }
  · rcases hlk with e | e
    · rw [e]
      exact nodup_swap hnd (fun x hx => (hlt x hx).2) (option_nodup _) (fun x hx => by simpa using hk x (by simpa using hx))
    · rw [e]
      have e2 : ∀ (a c bl : List Nat), (O :: ((a ++ c) ++ bl)).Nodup ↔ (O :: ((c ++ a) ++ bl)).Nodup := fun a c bl => (List.Perm.cons O (List.Perm.append_right bl List.perm_append_comm)).nodup_iff
      rw [e2]
      rw [e2] at hnd
      exact nodup_swap hnd (fun x hx => (hlt x (by simp only [List.mem_cons, List.mem_append] at hx ⊢; rcases hx with e | (e | e) | e; exact .inl e; exact .inr (.inl (.inr e)); exact .inr (.inl (.inl e)); exact .inr (.inr e))).2) (option_nodup _) (fun x hx => by simpa using hl x (by simpa using hx))
  · intro b hb hd
    simp only [List.mem_cons, List.mem_append, Option.mem_toList] at hb
    rcases hb with e | (e | e) | e
    · exact hout b (by simp [e]) hd
    · rcases hl b e with e | e
      · exact hout b (by simp [e]) hd
      · have := (hD b hd).2; omega
    · rcases hk b e with e | e
      · exact hout b (by simp [e]) hd
      · have := (hD b hd).2; omega
    · exact hout b (by simp [e]) hd
/-- it ended: the others are left; its blocks are D's -/
theorem TopM.closes {D : Nat → Prop} {B : Nat} {w : World} {fr : Frm} {S : List Frm} {ov : Value} {O cap : Nat} {cur lead : List Value} {lv kv : Value} {css : List (List Value)} {bl : List Nat} (h : TopM D B w fr S ov O cap cur lead lv kv css bl) :
    OpenS (fun b => D b ∨ lv.ownBlock = some b ∨ kv.ownBlock = some b) B w S (.slice (some ⟨O, 0, none⟩) S.length cap) ∧ SV (fun b => D b ∨ lv.ownBlock = some b ∨ kv.ownBlock = some b) w (.mk (fr.k : Int) [] 0 fr.acc fr.ks) (frC fr lv kv) := by
  have hnd := h.nd
  have hout := h.out
  refine ⟨⟨css, bl, FS.tch (bs := []) (Tch.refl w []) (by simp) (fun b hd _ => .inl hd) S css bl h.hfs (by simp), ⟨?_, .inr ⟨O, cap, cur.toArray, rfl, h.lo, h.harr, by have := h.cap1; omega, h.cap2, by simpa using h.hsize, ?_⟩⟩, ?_, ?_⟩, h.hfr.ends (fun b hd _ => .inl hd) (fun k hk => .inr (.inl hk)) (fun k hk => .inr (.inr hk))⟩
  · rw [← h.hlead, h.llen]
  · have := congrArg (List.take (S.length * 5)) h.hcur
    have e2 : (lead ++ frC fr lv kv).take (S.length * 5) = lead := by rw [List.take_append_of_le_length (by rw [h.llen]; omega), List.take_of_length_le (by rw [h.llen]; omega)]
    rw [List.take_take, Nat.min_eq_left (by omega), e2] at this
    rw [← h.hlead]
    exact this
  · simp only [List.nodup_cons, List.nodup_append, List.mem_append, not_or] at hnd
    show ([O] ++ bl).Nodup
    simp only [List.singleton_append, List.nodup_cons]
    exact ⟨hnd.1.2, hnd.2.2.1⟩
  · intro b hb hd
    simp only [List.nodup_cons, List.nodup_append, List.mem_append, Option.mem_toList, not_or] at hnd
    have hb2 : b = O ∨ b ∈ bl := by
      rcases List.mem_append.1 hb with e | e
      · left; simpa [Value.ownBlock] using e
      · exact .inr e
    rcases hd with hd | hd | hd
    · rcases hb2 with e | e
      · exact hout b (by simp [e]) hd
      · exact hout b (by simp [e]) hd
    · rcases hb2 with e | e
      · subst e; exact hnd.1.1.1 hd
      · exact hnd.2.2.2 b (.inl hd) b e rfl
    · rcases hb2 with e | e
      · subst e; exact hnd.1.1.2 hd
      · exact hnd.2.2.2 b (.inr hd) b e rfl
end Go.Proofs.YtiadfijeglbdlaaDoor

namespace Go.Proofs.YtiadfijeglbdlaaDoor
open Go.RowKit

theorem Tabs.past {w w' : World} {R : Nat} {xs : List UInt8} (h : Tabs w) (hr : RdAt w R xs) (hg : w.grownBy w' (some R)) : Tabs w' := by
  obtain ⟨a, c, hA, -⟩ := hr
  have hc : ∀ g o v, w.cell? ⟨g, o, none⟩ = some v → (∀ a n c, v ≠ .slice a n c) → w'.cell? ⟨g, o, none⟩ = some v := fun g o v hv hn => by
    have hgR : g ≠ R := by
      intro e
      subst e
      have := (hA.cell o).symm.trans hv
      cases o with
      | zero => cases this; exact hn _ _ _ rfl
      | succ o => simp at this
    exact (World.cell?_of_block (a := ⟨g, o, none⟩) (hg.block g (World.block_lt_of_cell? w _ hv) (fun e => hgR (by cases e; rfl)))).trans hv
  refine ⟨⟨fun i hi => hc _ _ _ (h.utf.1 i hi) (by intro _ _ _ e; cases e), fun i hi => ⟨hc _ _ _ (h.utf.2 i hi).1 (by intro _ _ _ e; cases e), hc _ _ _ (h.utf.2 i hi).2 (by intro _ _ _ e; cases e)⟩⟩, ?_, ?_, ?_⟩
  · have hp := h.pow
    unfold Lib.TabIs World.var? at hp ⊢
    cases hgn : Tryd.prog.globalNamed "internal/strconv.uint64pow10" with
    | none => rw [hgn] at hp; cases hp
    | some g =>
      rw [hgn] at hp
      simp only [Option.bind_some] at hp ⊢
      cases hh : w.heap[g]? with
      | none => rw [hh] at hp; cases hp
      | some o =>
        have hgR : g ≠ R := by
          intro e
          subst e
          have h0 := hA.cell 0
          unfold World.cell? at h0
          rw [hh] at h0 hp
          cases o with
          | cells cs T fr =>
            simp only [Option.some.injEq] at hp
            subst hp
            have h1 : (Lib.pow10Tab.map fun z => Value.int .u64 z)[0]? = some (Value.int .u64 (Lib.pow10Tab.headD 0)) := rfl
            simp only [List.getElem?_toArray] at h0
            rw [h1] at h0
            cases h0
          | _ => cases hp
        rw [hg.block g (Array.getElem?_eq_some_iff.1 hh).1 (fun e => hgR (by cases e; rfl)), hh]
        rw [hh] at hp
        exact hp
  · obtain ⟨te, pe, e⟩ := h.syn
    exact ⟨te, pe, hc _ _ _ e (by intro _ _ _ e; cases e)⟩
  · obtain ⟨te, pe, e⟩ := h.rng
    exact ⟨te, pe, hc _ _ _ e (by intro _ _ _ e; cases e)⟩
/-- []byte(s) of a string that is no constant -/
theorem conv_bytes (s : ByteArray) (w : World) : ∃ p c w', (convert 9 32 (.string s)).run Tryd.prog w = .ok (.slice p s.size c) w' ∧ Rd w' p s.size c s.data.toList ∧ Below w.heap.size w w' := by
  refine ⟨_, _, _, Lib.run_convert_string_bytes w 9 32 5 s Tryd.underlying9 Tryd.underlying32 Tryd.underlying5, ?_, ?_⟩
  · refine ⟨by simp, grownCap_ge _ _ _ _, (by intro e; cases e), fun _ => ⟨w.heap.size, 0, rfl, by rw [Lib.bytesWorld_size]; omega, fun j hj => ?_⟩⟩
    rw [Nat.zero_add]
    exact Lib.bytesWorld_cell w 5 s j hj
  · exact ⟨rfl, rfl, rfl, by rw [Lib.bytesWorld_size]; omega, fun k hk => Lib.bytesWorld_at_old w 5 s k hk⟩
/-- what bytes.CutPrefix answers -/
def CutRes (res : Option (List UInt8)) (w : World) (R : Nat) (e : Ending) (w' : World) : Prop :=
  w' = w ∧ match res with
  | some q => ∃ a' c', e = .returned (.tuple #[.slice a' q.length c', .bool true]) ∧ TextAt w R a' c' q
  | none => ∃ x, e = .returned (.tuple #[x, .bool false])
theorem cutp_any (a p2 : Option Addr) (c d R : Nat) (xs ys : List UInt8) (w : World) (h : TextAt w R a c xs) (h2 : Rd w p2 ys.length d ys) (hy : 0 < ys.length) :
    Calls Tryd.prog 61 #[.slice a xs.length c, .slice p2 ys.length d] w (CutRes (mustF ys xs) w R) := by
  refine (Tryd.bytes_CutPrefix_all a p2 xs.length c ys.length d (xs.map fun x => (x.toNat : Int)) (ys.map fun x => (x.toNat : Int)) w (by simp) (by simp) h.le (fun h0 => ?_) (fun h0 => ?_)).mono ?_
  · obtain ⟨b, off, e, -, -, h3⟩ := h.mem h0
    exact ⟨b, off, e, fun i hi => by rw [h3 i hi]; simp [List.getD, hi]⟩
  · obtain ⟨b, off, e, -, h3⟩ := h2.mem (by have := h2.le; omega)
    exact ⟨b, off, e, fun i hi => by rw [h3 i hi]; simp [List.getD, hi]⟩
  · rintro e w' ⟨rfl, rfl⟩
    rw [bytesOf_nat, bytesOf_nat]
    refine ⟨rfl, ?_⟩
    rw [must_drop]
    unfold Lib.hasPrefix
    by_cases hp : ys.isPrefixOf xs = true
    · rw [if_pos hp, hp]
      have hle : ys.length ≤ xs.length := (List.isPrefixOf_iff_prefix.1 hp).length_le
      obtain ⟨b, off, rfl, -⟩ := h.mem (by omega)
      have hlc := h.le
      cases ys with
      | nil => simp at hy
      | cons y ys =>
        have ev : Lib.trimPrefixV (some ⟨b, off, none⟩) xs.length c (xs.map fun x => (x.toNat : Int)) ((y :: ys).map fun x => (x.toNat : Int)) = Lib.sliceFrom b off xs.length c (y :: ys).length := by
          show Lib.bytesTrimPrefix b off xs.length c _ _ = _
          unfold Lib.bytesTrimPrefix
          rw [show Lib.hasPrefix (Lib.bytesOf _) (Lib.bytesOf _) = true by rw [bytesOf_nat, bytesOf_nat]; exact hp, if_pos rfl]
          simp
        simp only
        rw [ev]
        unfold Lib.sliceFrom
        by_cases hc : c = (y :: ys).length
        · have h0 : xs.drop (y :: ys).length = [] := List.drop_eq_nil_of_le (by omega)
          rw [if_pos hc, h0]
          refine ⟨_, _, ?_, TextAt.nil _ _ (some ⟨b, off, none⟩) (c - (y :: ys).length) (by have := h.big; omega)⟩
          rw [show xs.length - (y :: ys).length = ([] : List UInt8).length by have := congrArg List.length h0; rw [List.length_drop] at this; exact this]
        · rw [if_neg hc]
          refine ⟨_, _, ?_, h.drop (y :: ys).length hle (by omega)⟩
          rw [List.length_drop]
    · rw [if_neg hp]
      rw [Bool.not_eq_true] at hp
      rw [hp]
      exact ⟨_, rfl⟩

set_option maxRecDepth 100000 in
set_option maxHeartbeats 6400000 in
theorem single_any (R : Nat) (xs : List UInt8) (w : World) (h : RdAt w R xs) (hT : Tabs w) (hlim : xs.length ≤ 140737488355000) :
    Calls Tryd.prog 48 #[.pointer (some ⟨R, 0, none⟩)] w (FlatRes (singleF xs) w R) := by
  have hRw := h.lt
  have hB1 : Below w.heap.size w (w.alloc (.cells #[.int .i64 0, .string ⟨#[]⟩, .int .u64 0, .slice none 0 0, .slice none 0 0] 30)) := (Below.refl w.heap.size w).alloc (Nat.le_refl _) _
  have h0 := h.kept (gb hB1 none) (by simp)
  have hR0 := Arr.new w 30 [.int .i64 0, .string ⟨#[]⟩, .int .u64 0, .slice none 0 0, .slice none 0 0]
  have hG0 := Lib.hid (gb hB1 (some R))
  have hS0 : Hid (w.heap.size < (w.alloc (.cells #[.int .i64 0, .string ⟨#[]⟩, .int .u64 0, .slice none 0 0, .slice none 0 0] 30)).heap.size) := by show _ < _; simp
  have ht1 := Lib.hid (take_any R 34 xs _ h0)
  have hlen := take_len 34 xs
  obtain ⟨res, hres⟩ : ∃ res, res = singleF xs := ⟨_, rfl⟩
  rw [← hres]
  unfold singleF at hres
  generalize he1 : takeF 34 xs = p1 at *
  obtain ⟨b1, y1⟩ := p1
  simp only at hlen
  cases b1 with
  | true =>
    rw [if_pos rfl] at hres
    have htx : Hid (∀ W, RdAt W R y1 → Calls Tryd.prog 60 #[.pointer (some ⟨R, 0, none⟩)] W (TextRes (strF (y1.length + 1) y1) W R)) := fun W hW => text_any R y1 W hW (by omega)
    simp only at hres
    cases hs : strF (y1.length + 1) y1 with
    | some z =>
      obtain ⟨s, q⟩ := z
      rw [hs] at hres htx
      have HF : Hid (res = some (4, s, 0, q)) := hres
      have htx : Hid (∀ W, RdAt W R y1 → Calls Tryd.prog 60 #[.pointer (some ⟨R, 0, none⟩)] W fun e w' => W.grownBy w' (some R) ∧ e = .returned (.tuple #[.string (bstr s), .bool true]) ∧ RdAt w' R q) := htx.out
      clear he1 h h0 hs hres hlen hB1 hlim hT
      go_enter Tryd.func48, Tryd.ntmps48
      go_wp2_with (first
        | (go_at_call 49; refine ht1.out.mono ?_; rintro e w2 ⟨rfl, hr2, hg2⟩; have hR2 := hR0.grown hg2 (by intro e; cases e; omega); clear hR0)
        | (go_at_call 60; refine (htx.out _ hr2).mono ?_; rintro e w3 ⟨hg3, rfl, hr3⟩; have hR3 := hR2.grown hg3 (by intro e; cases e; omega))
        | ((with_reducible show wpList _ _ _ (⟨none, _, _, _, _, _⟩ :: _) _ _); refine wl_store rfl 30 _ _ rfl w.heap.size 0 rfl (flatC 4 s 0) rfl 30 _ hR3 (by kernel_rfl) (by simp [flatC]) (by simp [flatC, Value.oneCell']) ?_; intro w4 hR4 hg4 hs4))
      rw [flat_store _ rfl] at hR4
      refine end_cell2 rfl w.heap.size 30 _ _ _ rfl hR4 Tryd.underlying30 rfl (by kernel_rfl) rfl rfl ?_
      rw [HF.out]
      exact ⟨gb_new_row (gb_trans hg2 hg3) hg4, rfl, hr3.kept hg4 (by intro k hk; cases hk; exact hRw)⟩
    | none =>
      rw [hs] at hres htx
      have HF : Hid (res = none) := hres
      have htx : Hid (∀ W, RdAt W R y1 → Calls Tryd.prog 60 #[.pointer (some ⟨R, 0, none⟩)] W fun e w' => W.grownBy w' (some R) ∧ e = .returned (.tuple #[.string ⟨#[]⟩, .bool false])) := htx.out
      clear he1 h h0 hs hres hlen hB1 hlim hT
      go_enter Tryd.func48, Tryd.ntmps48
      go_wp2_with (first
        | (go_at_call 49; refine ht1.out.mono ?_; rintro e w2 ⟨rfl, hr2, hg2⟩; have hR2 := hR0.grown hg2 (by intro e; cases e; omega); clear hR0)
        | (go_at_call 60; refine (htx.out _ hr2).mono ?_; rintro e w3 ⟨hg3, rfl⟩; have hR3 := hR2.grown hg3 (by intro e; cases e; omega))
        | ((with_reducible show wpList _ _ _ (⟨none, _, _, _, _, _⟩ :: _) _ _); refine wl_store rfl 30 _ _ rfl w.heap.size 0 rfl (flatC 4 [] 0) rfl 30 _ hR3 (by kernel_rfl) (by simp [flatC]) (by simp [flatC, Value.oneCell']) ?_; intro w4 hR4 hg4 hs4))
      rw [flat_store _ rfl] at hR4
      refine end_cell2 rfl w.heap.size 30 _ _ _ rfl hR4 Tryd.underlying30 rfl (by kernel_rfl) rfl rfl ?_
      rw [HF.out]
      exact ⟨gb_new_row (gb_trans hg2 hg3) hg4, 4, [], 0, rfl⟩
  | false =>
    simp only [Bool.false_eq_true, if_false] at hres
    have HRES := Lib.hid hres
    have HT := Lib.hid hT
    have HB1 := Lib.hid hB1
    have HLEN : Hid (y1.length ≤ 140737488355000) := by show _ ≤ _; omega
    have h0 := Lib.hid h0
    clear he1 h hres hlen hB1 hlim hT
    go_enter Tryd.func48, Tryd.ntmps48
    go_upto_region 4 with (go_at_call 49; refine ht1.out.mono ?_; rintro e w2 ⟨rfl, hr2, hg2⟩)
    have hR2 := hR0.grown hg2 (by intro e; cases e; omega)
    have hwo := Lib.hid (words_any w2)
    go_upto_region 5 with (go_at_call 34; refine hwo.out.mono ?_; rintro e w3 ⟨rfl, hb3⟩)
    have hr3 := hr2.kept (gb hb3 none) (by simp)
    have hR3 := hR2.kept hb3
    have hG3 := Lib.hid (gb_trans hg2 (gb hb3 (some R)))
    clear hr2 hR2 hg2 hb3 ht1 hR0 hwo
    go_loopw [21] (fun i wr => ∃ m : Nat, m ≤ 3 ∧ i = .int .i64 m ∧ RdAt wr R y1 ∧ Arr wr w.heap.size 30 [.int .i64 0, .string ⟨#[]⟩, .int .u64 0, .slice none 0 0, .slice none 0 0] ∧ Hid ((w.alloc (.cells #[.int .i64 0, .string ⟨#[]⟩, .int .u64 0, .slice none 0 0, .slice none 0 0] 30)).grownBy wr (some R)) ∧ Hid (wordsF 3 0 y1 = wordsF (3 - m) m y1)) (fun i _ => 3 - (intOf i).toNat)
    case atStart => exact ⟨0, by omega, rfl, hr3, hR3, hG3, rfl⟩
    case round =>
      clear hr3 hR3 hG3
      obtain ⟨m, hm, rfl, hr, hR, hg, he⟩ := hrel
      by_cases hlt : m < 3
      · have hm3 : m = 0 ∨ m = 1 ∨ m = 2 := by omega
        obtain ⟨a, c, hA, hX⟩ := hr
        have c0 := (hA.cell 0).trans (show _ = some (Value.slice a y1.length c) from rfl)
        have f0 := hA.frozen 0
        rcases hm3 with rfl | rfl | rfl
        · obtain ⟨p2, d2, W2, hcv, hrd, hbl⟩ := conv_bytes ⟨#[110, 117, 108, 108]⟩ wr
          have hcv : (convert 9 32 (.string ⟨#[110, 117, 108, 108]⟩)).run Tryd.prog wr = .ok (.slice p2 4 d2) W2 := hcv
          have hix : ∀ W, (Instr.index 85 (.agg #[.string ⟨#[110, 117, 108, 108]⟩, .string ⟨#[102, 97, 108, 115, 101]⟩, .string ⟨#[116, 114, 117, 101]⟩]) (.int .i64 0)).run Tryd.prog W = .ok (.string ⟨#[110, 117, 108, 108]⟩) W := fun W => by kernel_rfl
          rw [show ((0 : Nat) : Int) = 0 from rfl]
          have hX2 := hX.kept (gb hbl none) (by simp)
          have hA2 := hA.kept hbl
          have hR2 := hR.kept hbl
          have hcp := cutp_any a p2 c d2 R y1 [110, 117, 108, 108] W2 hX2 hrd (by decide)
          have hg2 := Lib.hid (gb_trans hg.out (gb hbl (some R)))
          cases hq : mustF [110, 117, 108, 108] y1 with
          | some q =>
            rw [hq] at hcp
            have hcp : Hid (Calls Tryd.prog 61 #[.slice a y1.length c, .slice p2 4 d2] W2 fun e w' => w' = W2 ∧ ∃ a' c', e = .returned (.tuple #[.slice a' q.length c', .bool true]) ∧ TextAt W2 R a' c' q) := hcp
            have HF : Hid (res = some (0, [], 0, q)) := by show _ = _; rw [HRES.out, he.out]; simp only [wordsF, wordX]; rw [hq]
            clear he hq hX hX2 hrd
            have HA := Lib.hid hA2
            have d0 := (hA2.cell 0).trans (show _ = some (Value.slice a y1.length c) from rfl)
            have g0 := hA2.frozen 0
            go_wp2_with (first
              | (go_at_call 61; refine hcp.out.mono ?_; rintro e w4 ⟨rfl, a', c', rfl, hX4⟩; have hst := rd_store HA.out hX4 rfl; have hR4 := hR2.grown hst.2 (by intro e; cases e; omega))
              | ((with_reducible show wpList _ _ _ (⟨none, _, _, _, _, _⟩ :: _) _ _); refine wl_store rfl 30 _ _ rfl w.heap.size 0 rfl (flatC 0 [] 0) rfl 30 _ hR4 (by kernel_rfl) (by simp [flatC]) (by simp [flatC, Value.oneCell']) ?_; intro w5 hR5 hg5 hs5))
            rw [flat_store _ rfl] at hR5
            refine end_cell2 rfl w.heap.size 30 _ _ _ rfl hR5 Tryd.underlying30 rfl (by kernel_rfl) rfl rfl ?_
            rw [HF.out]
            exact ⟨gb_new_row (gb_trans hg2.out hst.2) hg5, rfl, hst.1.kept hg5 (by intro k hk; cases hk; exact hRw)⟩
          | none =>
            rw [hq] at hcp
            have hcp : Hid (Calls Tryd.prog 61 #[.slice a y1.length c, .slice p2 4 d2] W2 fun e w' => w' = W2 ∧ ∃ x, e = .returned (.tuple #[x, .bool false])) := hcp
            have HF : Hid (wordsF 3 0 y1 = wordsF 2 1 y1) := by show _ = _; rw [he.out]; simp only [wordsF, wordX]; rw [hq]
            have HRD : Hid (RdAt W2 R y1) := ⟨_, _, hA2, hX2⟩
            have d0 := (hA2.cell 0).trans (show _ = some (Value.slice a y1.length c) from rfl)
            have HR2 := Lib.hid hR2
            clear he hq hX hX2 hrd hR2 hA2
            go_wp2_with (first
              | (go_at_call 61; refine hcp.out.mono ?_; rintro e w4 ⟨rfl, x, rfl⟩))
            go_roundw
            case rel => exact ⟨1, by omega, by first | rfl | go_num, HRD.out, HR2.out, hg2.out, HF.out⟩
            case measure => simp [intOf]
        · obtain ⟨p2, d2, W2, hcv, hrd, hbl⟩ := conv_bytes ⟨#[102, 97, 108, 115, 101]⟩ wr
          have hcv : (convert 9 32 (.string ⟨#[102, 97, 108, 115, 101]⟩)).run Tryd.prog wr = .ok (.slice p2 5 d2) W2 := hcv
          have hix : ∀ W, (Instr.index 85 (.agg #[.string ⟨#[110, 117, 108, 108]⟩, .string ⟨#[102, 97, 108, 115, 101]⟩, .string ⟨#[116, 114, 117, 101]⟩]) (.int .i64 1)).run Tryd.prog W = .ok (.string ⟨#[102, 97, 108, 115, 101]⟩) W := fun W => by kernel_rfl
          rw [show ((1 : Nat) : Int) = 1 from rfl]
          have hX2 := hX.kept (gb hbl none) (by simp)
          have hA2 := hA.kept hbl
          have hR2 := hR.kept hbl
          have hcp := cutp_any a p2 c d2 R y1 [102, 97, 108, 115, 101] W2 hX2 hrd (by decide)
          have hg2 := Lib.hid (gb_trans hg.out (gb hbl (some R)))
          cases hq : mustF [102, 97, 108, 115, 101] y1 with
          | some q =>
            rw [hq] at hcp
            have hcp : Hid (Calls Tryd.prog 61 #[.slice a y1.length c, .slice p2 5 d2] W2 fun e w' => w' = W2 ∧ ∃ a' c', e = .returned (.tuple #[.slice a' q.length c', .bool true]) ∧ TextAt W2 R a' c' q) := hcp
            have HF : Hid (res = some (1, [], 0, q)) := by show _ = _; rw [HRES.out, he.out]; simp only [wordsF, wordX]; rw [hq]
            clear he hq hX hX2 hrd
            have HA := Lib.hid hA2
            have d0 := (hA2.cell 0).trans (show _ = some (Value.slice a y1.length c) from rfl)
            have g0 := hA2.frozen 0
            go_wp2_with (first
              | (go_at_call 61; refine hcp.out.mono ?_; rintro e w4 ⟨rfl, a', c', rfl, hX4⟩; have hst := rd_store HA.out hX4 rfl; have hR4 := hR2.grown hst.2 (by intro e; cases e; omega))
              | ((with_reducible show wpList _ _ _ (⟨none, _, _, _, _, _⟩ :: _) _ _); refine wl_store rfl 30 _ _ rfl w.heap.size 0 rfl (flatC 1 [] 0) rfl 30 _ hR4 (by kernel_rfl) (by simp [flatC]) (by simp [flatC, Value.oneCell']) ?_; intro w5 hR5 hg5 hs5))
            rw [flat_store _ rfl] at hR5
            refine end_cell2 rfl w.heap.size 30 _ _ _ rfl hR5 Tryd.underlying30 rfl (by kernel_rfl) rfl rfl ?_
            rw [HF.out]
            exact ⟨gb_new_row (gb_trans hg2.out hst.2) hg5, rfl, hst.1.kept hg5 (by intro k hk; cases hk; exact hRw)⟩
          | none =>
            rw [hq] at hcp
            have hcp : Hid (Calls Tryd.prog 61 #[.slice a y1.length c, .slice p2 5 d2] W2 fun e w' => w' = W2 ∧ ∃ x, e = .returned (.tuple #[x, .bool false])) := hcp
            have HF : Hid (wordsF 3 0 y1 = wordsF 1 2 y1) := by show _ = _; rw [he.out]; simp only [wordsF, wordX]; rw [hq]
            have HRD : Hid (RdAt W2 R y1) := ⟨_, _, hA2, hX2⟩
            have d0 := (hA2.cell 0).trans (show _ = some (Value.slice a y1.length c) from rfl)
            have HR2 := Lib.hid hR2
            clear he hq hX hX2 hrd hR2 hA2
            go_wp2_with (first
              | (go_at_call 61; refine hcp.out.mono ?_; rintro e w4 ⟨rfl, x, rfl⟩))
            go_roundw
            case rel => exact ⟨2, by omega, by first | rfl | go_num, HRD.out, HR2.out, hg2.out, HF.out⟩
            case measure => simp [intOf]
        · obtain ⟨p2, d2, W2, hcv, hrd, hbl⟩ := conv_bytes ⟨#[116, 114, 117, 101]⟩ wr
          have hcv : (convert 9 32 (.string ⟨#[116, 114, 117, 101]⟩)).run Tryd.prog wr = .ok (.slice p2 4 d2) W2 := hcv
          have hix : ∀ W, (Instr.index 85 (.agg #[.string ⟨#[110, 117, 108, 108]⟩, .string ⟨#[102, 97, 108, 115, 101]⟩, .string ⟨#[116, 114, 117, 101]⟩]) (.int .i64 2)).run Tryd.prog W = .ok (.string ⟨#[116, 114, 117, 101]⟩) W := fun W => by kernel_rfl
          rw [show ((2 : Nat) : Int) = 2 from rfl]
          have hX2 := hX.kept (gb hbl none) (by simp)
          have hA2 := hA.kept hbl
          have hR2 := hR.kept hbl
          have hcp := cutp_any a p2 c d2 R y1 [116, 114, 117, 101] W2 hX2 hrd (by decide)
          have hg2 := Lib.hid (gb_trans hg.out (gb hbl (some R)))
          cases hq : mustF [116, 114, 117, 101] y1 with
          | some q =>
            rw [hq] at hcp
            have hcp : Hid (Calls Tryd.prog 61 #[.slice a y1.length c, .slice p2 4 d2] W2 fun e w' => w' = W2 ∧ ∃ a' c', e = .returned (.tuple #[.slice a' q.length c', .bool true]) ∧ TextAt W2 R a' c' q) := hcp
            have HF : Hid (res = some (2, [], 0, q)) := by show _ = _; rw [HRES.out, he.out]; simp only [wordsF, wordX]; rw [hq]
            clear he hq hX hX2 hrd
            have HA := Lib.hid hA2
            have d0 := (hA2.cell 0).trans (show _ = some (Value.slice a y1.length c) from rfl)
            have g0 := hA2.frozen 0
            go_wp2_with (first
              | (go_at_call 61; refine hcp.out.mono ?_; rintro e w4 ⟨rfl, a', c', rfl, hX4⟩; have hst := rd_store HA.out hX4 rfl; have hR4 := hR2.grown hst.2 (by intro e; cases e; omega))
              | ((with_reducible show wpList _ _ _ (⟨none, _, _, _, _, _⟩ :: _) _ _); refine wl_store rfl 30 _ _ rfl w.heap.size 0 rfl (flatC 2 [] 0) rfl 30 _ hR4 (by kernel_rfl) (by simp [flatC]) (by simp [flatC, Value.oneCell']) ?_; intro w5 hR5 hg5 hs5))
            rw [flat_store _ rfl] at hR5
            refine end_cell2 rfl w.heap.size 30 _ _ _ rfl hR5 Tryd.underlying30 rfl (by kernel_rfl) rfl rfl ?_
            rw [HF.out]
            exact ⟨gb_new_row (gb_trans hg2.out hst.2) hg5, rfl, hst.1.kept hg5 (by intro k hk; cases hk; exact hRw)⟩
          | none =>
            rw [hq] at hcp
            have hcp : Hid (Calls Tryd.prog 61 #[.slice a y1.length c, .slice p2 4 d2] W2 fun e w' => w' = W2 ∧ ∃ x, e = .returned (.tuple #[x, .bool false])) := hcp
            have HF : Hid (wordsF 3 0 y1 = wordsF 0 3 y1) := by show _ = _; rw [he.out]; simp only [wordsF, wordX]; rw [hq]
            have HRD : Hid (RdAt W2 R y1) := ⟨_, _, hA2, hX2⟩
            have d0 := (hA2.cell 0).trans (show _ = some (Value.slice a y1.length c) from rfl)
            have HR2 := Lib.hid hR2
            clear he hq hX hX2 hrd hR2 hA2
            go_wp2_with (first
              | (go_at_call 61; refine hcp.out.mono ?_; rintro e w4 ⟨rfl, x, rfl⟩))
            go_roundw
            case rel => exact ⟨3, by omega, by first | rfl | go_num, HRD.out, HR2.out, hg2.out, HF.out⟩
            case measure => simp [intOf]
      · have hm3 : m = 3 := by omega
        subst hm3
        have hw : wordsF 3 0 y1 = none := by rw [he.out]; rfl
        have hnu := number_any R y1 wr hr ((HT.out.to HB1.out).past h0.out hg.out) (by have := HLEN.out; omega)
        rw [hw] at HRES
        have hres : res = (numF y1).map fun p => (3, [], p.1, p.2) := HRES.out
        rw [← hres] at hnu
        clear hres HRES hw he
        have hRL := hR
        cases hz : res with
        | some z =>
          obtain ⟨k, s, n, q⟩ := z
          rw [hz] at hnu
          have hnu : Hid (Calls Tryd.prog 62 #[.pointer (some ⟨R, 0, none⟩)] wr fun e w' => wr.grownBy w' (some R) ∧ e = .returned (.tuple #[.agg (flatC (k : Int) s n).toArray, .bool true]) ∧ RdAt w' R q) := hnu
          have HZ := Lib.hid hz
          clear hr hz
          go_wp2_with (first
            | (go_at_call 62; refine hnu.out.mono ?_; rintro e w4 ⟨hg4, rfl, hr4⟩; have hR4 := hR.grown hg4 (by intro e; cases e; omega))
            | ((with_reducible show wpList _ _ _ (⟨none, _, _, _, _, _⟩ :: _) _ _); refine wl_store rfl 30 _ _ rfl w.heap.size 0 rfl (flatC (k : Int) s n) rfl 30 _ hR4 (by kernel_rfl) (by simp [flatC]) (by simp [flatC, Value.oneCell']) ?_; intro w5 hR5 hg5 hs5))
          rw [flat_store _ rfl] at hR5
          refine end_cell2 rfl w.heap.size 30 _ _ _ rfl hR5 Tryd.underlying30 rfl (by kernel_rfl) rfl rfl ?_
          rw [HZ.out]
          exact ⟨gb_new_row (gb_trans hg.out hg4) hg5, rfl, hr4.kept hg5 (by intro k hk; cases hk; exact hRw)⟩
        | none =>
          rw [hz] at hnu
          have hnu : Hid (Calls Tryd.prog 62 #[.pointer (some ⟨R, 0, none⟩)] wr fun e w' => wr.grownBy w' (some R) ∧ ∃ (k : Int) (s : List UInt8) (n : Nat), e = .returned (.tuple #[.agg (flatC k s n).toArray, .bool false])) := hnu
          have HZ := Lib.hid hz
          clear hr hz
          go_wp2_with (first
            | (go_at_call 62; refine hnu.out.mono ?_; rintro e w4 ⟨hg4, k, s, n, rfl⟩; have hR4 := hR.grown hg4 (by intro e; cases e; omega))
            | ((with_reducible show wpList _ _ _ (⟨none, _, _, _, _, _⟩ :: _) _ _); refine wl_store rfl 30 _ _ rfl w.heap.size 0 rfl (flatC k s n) rfl 30 _ hR4 (by kernel_rfl) (by simp [flatC]) (by simp [flatC, Value.oneCell']) ?_; intro w5 hR5 hg5 hs5))
          rw [flat_store _ rfl] at hR5
          refine end_cell2 rfl w.heap.size 30 _ _ _ rfl hR5 Tryd.underlying30 rfl (by kernel_rfl) rfl rfl ?_
          rw [HZ.out]
          exact ⟨gb_new_row (gb_trans hg.out hg4) hg5, _, _, _, rfl⟩
end Go.Proofs.YtiadfijeglbdlaaDoor

namespace Go.Proofs.YtiadfijeglbdlaaDoor
open Go.RowKit

def strC (k : List UInt8) : Value := .string (bstr k)
/-- append of one text to the names -/
theorem wl_append_s {ops : Array Oper} {rest : List Oper} {o : Oper} {a : Act} {Q : Exit → Act → World → Prop} {w : World} (hgd : o.guard = none) (d s : Operand) (ho : o.op = .call { callee := .builtin .append, args := #[d, s], argTypes := #[24, 24] })
    (B : Nat) (v : Value) (ks : List (List UInt8)) (hown : w.ownsRow B 9 1 v ks.length (ks.map fun k => Value.string (bstr k))) (hd : a.eval d = v) (g1 : Nat) (t : List UInt8) (hs : a.eval s = .slice (some ⟨g1, 0, none⟩) 1 1)
    (hc : w.cell? ⟨g1, 0, none⟩ = some (.string (bstr t))) (hlen : ks.length + 1 ≤ 1099511627776) (hB : B ≤ w.heap.size)
    (hK : ∀ v' w', w'.ownsRow B 9 1 v' (ks ++ [t]).length ((ks ++ [t]).map fun k => Value.string (bstr k)) → Tch w w' v.ownBlock.toList → (∀ k, v'.ownBlock = some k → v.ownBlock = some k ∨ w.heap.size ≤ k) → wpList Tryd.prog ops Q rest (a.put o.dst v') w') : wpList Tryd.prog ops Q (o :: rest) a w := by
  obtain ⟨i0, hi, hz0, hz1, hz2⟩ := info_parts (show (Tryd.prog.info? 9).map (fun i => (i.zero, i.size, i.bytes)) = some (some (.string ⟨#[]⟩), 1, 16) by kernel_rfl)
  refine wl_append_w hgd d s 24 ho B 9 i0 _ 1 16 Tryd.underlying24 hi hz0 hz1 hz2 rfl (by decide) v _ _ hd hown ⟨g1, 0, none⟩ 1 [.string (bstr t)] hs rfl (fun j u hj => ?_) (fun u hu => ?_) (by unfold maxLen; omega) (by omega) hB ?_
  · match j, hj with
    | 0, hj => cases hj; rw [Addr.add_lit]; exact hc
    | j + 1, hj => simp at hj
  · rw [List.mem_singleton] at hu
    subst hu
    rfl
  · intro v' w' h1 h2 h3
    refine hK v' w' ?_ h2 h3
    rw [List.length_append, List.map_append]
    exact h1
theorem row_shape {w : World} {B sz n : Nat} {T : TypeId} {v : Value} {xs : List Value} (h : w.ownsRow B T sz v n xs) : ∃ a m c, v = .slice a m c := by
  obtain ⟨-, ⟨h1, -⟩ | ⟨g, cap, cur, h1, -⟩⟩ := h
  · exact ⟨_, _, _, h1⟩
  · exact ⟨_, _, _, h1⟩
theorem tch_cell (w : World) (p : Addr) (v : Value) : Tch w (w.setCell p v) [p.block] := ⟨rfl, rfl, rfl, by rw [World.size_setCell]; exact Nat.le_refl _, fun k hk hb => Below.heap_setCell _ _ _ _ (fun e => hb (by rw [e]; simp))⟩

theorem Tch.in3 {w w' : World} {R O : Nat} {l : List Nat} (h : Tch w w' l) : Tch w w' (R :: O :: l) := h.mono (fun _ hb => .inl (List.mem_cons_of_mem _ (List.mem_cons_of_mem _ hb)))
/-- what a member's name does -/
def NameRes (res : Option (List UInt8 × List UInt8)) (w : World) (R O q B : Nat) (cur : List Value) (kv : Value) (ks : List (List UInt8)) (e : Ending) (w' : World) : Prop :=
  Tch w w' (R :: O :: kv.ownBlock.toList) ∧ match res with
  | some (key, r) => e = .returned (.bool true) ∧ RdAt w' R r ∧ ∃ kv', w'.ownsRow B 9 1 kv' (ks ++ [key]).length ((ks ++ [key]).map fun k => Value.string (bstr k)) ∧ Arr w' O 30 (cur.set (q + 4) kv') ∧ (∀ k, kv'.ownBlock = some k → kv.ownBlock = some k ∨ w.heap.size ≤ k)
  | none => e = .returned (.bool false)

set_option maxRecDepth 100000 in
set_option maxHeartbeats 6400000 in
theorem name_any (R O q B : Nat) (ys : List UInt8) (w : World) (cur : List Value) (kv : Value) (ks : List (List UInt8)) (h : RdAt w R ys) (hlim : ys.length ≤ 140737488355000) (hRB : R < B) (hBO : B ≤ O) (hO : Arr w O 30 cur) (hq : cur[q + 4]? = some kv)
    (hk : w.ownsRow B 9 1 kv ks.length (ks.map fun k => Value.string (bstr k))) (hkO : kv.ownBlock ≠ some O) (hks : ks.length + 1 ≤ 1099511627776) :
    Calls Tryd.prog 51 #[.pointer (some ⟨R, 0, none⟩), .pointer (some ⟨O, q, none⟩)] w (NameRes (nameF ys) w R O q B cur kv ks) := by
  have hOw := hO.lt
  have hkB := World.ownsRow.lt hk
  have ht1 := Lib.hid (take_any R 34 ys w h)
  have hlen := take_len 34 ys
  obtain ⟨res, hres⟩ : ∃ res, res = nameF ys := ⟨_, rfl⟩
  rw [← hres]
  unfold nameF at hres
  generalize he1 : takeF 34 ys = p1 at *
  obtain ⟨b1, y1⟩ := p1
  cases b1 with
  | false =>
    simp only [Bool.false_eq_true, if_false] at hres
    have HF := Lib.hid hres
    clear he1 h hres hlen hlim hO hk hq
    go_enter Tryd.func51, Tryd.ntmps51
    go_wp2_with (go_at_call 49; refine ht1.out.mono ?_; rintro e w2 ⟨rfl, hr2, hg2⟩)
    go_ret
    show NameRes _ _ _ _ _ _ _ _ _ _ _
    rw [HF.out]
    exact ⟨(Tch.of_grown hg2).mono (by simp), rfl⟩
  | true =>
    rw [if_pos rfl] at hres
    simp only at hres hlen
    have htx : Hid (∀ W, RdAt W R y1 → Calls Tryd.prog 60 #[.pointer (some ⟨R, 0, none⟩)] W (TextRes (strF (y1.length + 1) y1) W R)) := fun W hW => text_any R y1 W hW (by omega)
    have HO := Lib.hid hO
    have HQ := Lib.hid hq
    have HK := Lib.hid hk
    have HKO := Lib.hid hkO
    have HKB := Lib.hid hkB
    cases hs : strF (y1.length + 1) y1 with
    | none =>
      rw [hs] at hres htx
      have HF : Hid (res = none) := hres
      have htx : Hid (∀ W, RdAt W R y1 → Calls Tryd.prog 60 #[.pointer (some ⟨R, 0, none⟩)] W fun e w' => W.grownBy w' (some R) ∧ e = .returned (.tuple #[.string ⟨#[]⟩, .bool false])) := htx.out
      clear he1 h hs hres hlen hlim hO hk hq hkO hkB
      go_enter Tryd.func51, Tryd.ntmps51
      go_wp2_with (first
        | (go_at_call 49; refine ht1.out.mono ?_; rintro e w2 ⟨rfl, hr2, hg2⟩; clear ht1)
        | (go_at_call 60; refine (htx.out _ hr2).mono ?_; rintro e w3 ⟨hg3, rfl⟩; have HT3 := Lib.hid ((Tch.of_grown hg2).trans (Tch.of_grown hg3)); have HO3 := Lib.hid (HT3.out.arr HO.out (by simp; omega)); have c4 := (HO3.out.cell (q + 4)).trans HQ.out; have HB3 : Hid (B ≤ w3.heap.size) := (by have := HT3.out.size; show _ ≤ _; omega))
        | (at_builtin; go_loud (refine wl_append_s rfl (.tmp 19) (.tmp 21) rfl B kv ks ((HT3.out.row HK.out (fun k hk => by have := (HKB.out k hk).1; simp; omega)).alloc _) rfl _ [] rfl ((Arr.new _ _ [.string ⟨#[]⟩]).cell 0) hks (by simp; have := HB3.out; omega) ?_); intro v5 w5 ho5 ht5 hn5; obtain ⟨a5, n5, c5, rfl⟩ := row_shape ho5; have HO5 := Lib.hid (ht5.arr ((HO3.out.kept ((Below.refl _ _).alloc (Nat.le_refl _) _))) (by have := HKO.out; cases hkb : kv.ownBlock with | none => simp | some z => (rw [hkb] at this; simp at this ⊢; exact fun e => this e.symm))); have d4 := (HO5.out.cell (q + 4)).trans HQ.out; have f4 := HO5.out.frozen (q + 4)))
      go_ret
      show NameRes _ _ _ _ _ _ _ _ _ _ _
      rw [HF.out]
      refine ⟨?_, rfl⟩
      refine ((HT3.out.mono (by simp)).trans ((Tch.of_below ((Below.refl _ _).alloc (Nat.le_refl _) _) _).trans (ht5.in3.trans ((tch_cell _ _ _).mono (by simp)))))
    | some z =>
      obtain ⟨s, r⟩ := z
      rw [hs] at hres htx
      have htx : Hid (∀ W, RdAt W R y1 → Calls Tryd.prog 60 #[.pointer (some ⟨R, 0, none⟩)] W fun e w' => W.grownBy w' (some R) ∧ e = .returned (.tuple #[.string (bstr s), .bool true]) ∧ RdAt w' R r) := htx.out
      have ht2 := Lib.hid (fun W (hW : RdAt W R r) => take_any R 58 r W hW)
      obtain ⟨b2, hb2⟩ : ∃ b2, b2 = (takeF 58 r).1 := ⟨_, rfl⟩
      rw [← hb2] at ht2
      have HF : Hid (res = if b2 = true then some (s, (takeF 58 r).2) else none) := by show _ = _; rw [hb2]; exact hres
      clear he1 h hs hres hlen hlim hO hk hq hkO hkB hb2
      go_enter Tryd.func51, Tryd.ntmps51
      go_wp2_with (first
        | (go_at_call 49; refine ht1.out.mono ?_; rintro e w2 ⟨rfl, hr2, hg2⟩; clear ht1)
        | (go_at_call 60; refine (htx.out _ hr2).mono ?_; rintro e w3 ⟨hg3, rfl, hr3⟩; have HT3 := Lib.hid ((Tch.of_grown hg2).trans (Tch.of_grown hg3)); have HO3 := Lib.hid (HT3.out.arr HO.out (by simp; omega)); have c4 := (HO3.out.cell (q + 4)).trans HQ.out; have HB3 : Hid (B ≤ w3.heap.size) := (by have := HT3.out.size; show _ ≤ _; omega); clear htx)
        | (at_builtin; go_loud (refine wl_append_s rfl (.tmp 19) (.tmp 21) rfl B kv ks ((HT3.out.row HK.out (fun k hk => by have := (HKB.out k hk).1; simp; omega)).alloc _) rfl _ s rfl ((Arr.new _ _ [.string (bstr s)]).cell 0) hks (by simp; have := HB3.out; omega) ?_); intro v5 w5 ho5 ht5 hn5; obtain ⟨a5, n5, c5, rfl⟩ := row_shape ho5; have HO5 := Lib.hid (ht5.arr ((HO3.out.kept ((Below.refl _ _).alloc (Nat.le_refl _) _))) (by have := HKO.out; cases hkb : kv.ownBlock with | none => simp | some z => (rw [hkb] at this; simp at this ⊢; exact fun e => this e.symm))); have d4 := (HO5.out.cell (q + 4)).trans HQ.out; have f4 := HO5.out.frozen (q + 4); have HT6 := Lib.hid (((Tch.of_below ((Below.refl _ _).alloc (Nat.le_refl _) _) (R :: O :: kv.ownBlock.toList)).trans (ht5.in3.trans ((tch_cell w5 ⟨O, q + 4, none⟩ (.slice a5 n5 c5)).mono (by simp))))); have HR6 := Lib.hid ((((tch_cell w5 ⟨O, q + 4, none⟩ (.slice a5 n5 c5)).rd (ht5.rd (hr3.kept (gb ((Below.refl _ _).alloc (Nat.le_refl _) _) none) (by simp)) (fun b hb => by have := (HKB.out b (by simpa using hb)).1; omega)) (by simp; omega)))))
        | (go_at_call 49; refine (ht2.out _ HR6.out).mono ?_; rintro e w7 ⟨rfl, hr7, hg7⟩))
      go_ret
      show NameRes _ _ _ _ _ _ _ _ _ _ _
      have hT7 : Tch w w7 (R :: O :: kv.ownBlock.toList) := (HT3.out.mono (by simp)).trans (HT6.out.trans ((Tch.of_grown hg7).mono (by simp)))
      refine ⟨hT7, ?_⟩
      rw [HF.out]
      cases b2 with
      | false => exact rfl
      | true =>
        refine ⟨rfl, hr7, .slice a5 n5 c5, ?_, ?_, fun k hk => ?_⟩
        · refine (Tch.of_grown hg7).row ((tch_cell _ _ _).row ho5 (fun k hk => ?_)) (fun k hk => ?_)
          · rcases hn5 k hk with e | e
            · have := HKO.out
              simp
              intro e2
              exact this (by rw [e, e2])
            · have := HO3.out.lt
              simp at e ⊢
              omega
          · have := (World.ownsRow.lt ho5 k hk).1
            simp
            omega
        · exact (Tch.of_grown hg7).arr (HO5.out.store (q + 4) _) (by simp; omega)
        · rcases hn5 k hk with e | e
          · exact .inl e
          · right
            have := HT3.out.size
            simp at e
            omega
end Go.Proofs.YtiadfijeglbdlaaDoor

namespace Go.Proofs.YtiadfijeglbdlaaDoor
open Go.RowKit

/-- the frame of whole: the lists and objects that have not ended; the innermost one -/
def FrW (R g : Nat) (ov tp : Value) (a : Act) : Prop := ∃ u : Nat → Value, a = ⟨#[.pointer (some ⟨R, 0, none⟩), u 1, .pointer (some ⟨g, 0, none⟩), u 3, ov, tp, .pointer (some ⟨g + 1, 0, none⟩), u 7, u 8, u 9, u 10, u 11, u 12, u 13, u 14, u 15, u 16, u 17, u 18, u 19, u 20, u 21, u 22, u 23, u 24, u 25, u 26, u 27, u 28, u 29, u 30, u 31, u 32, u 33, u 34, u 35, u 36, u 37, u 38, u 39, u 40, u 41, u 42, u 43, u 44, u 45, u 46, u 47, u 48, u 49, u 50, u 51, u 52, u 53, u 54, u 55, u 56, u 57, u 58, u 59, u 60, u 61, u 62, u 63, u 64, u 65, u 66, u 67, u 68, u 69, u 70, u 71, u 72, u 73, u 74, u 75, u 76, u 77, u 78, u 79, u 80, u 81, u 82, u 83, u 84, u 85, u 86, u 87, u 88, u 89, u 90, u 91, u 92, u 93, u 94, u 95, u 96, u 97], []⟩
theorem frW_of {R g : Nat} {ov tp x1 x3 x7 x8 x9 x10 x11 x12 x13 x14 x15 x16 x17 x18 x19 x20 x21 x22 x23 x24 x25 x26 x27 x28 x29 x30 x31 x32 x33 x34 x35 x36 x37 x38 x39 x40 x41 x42 x43 x44 x45 x46 x47 x48 x49 x50 x51 x52 x53 x54 x55 x56 x57 x58 x59 x60 x61 x62 x63 x64 x65 x66 x67 x68 x69 x70 x71 x72 x73 x74 x75 x76 x77 x78 x79 x80 x81 x82 x83 x84 x85 x86 x87 x88 x89 x90 x91 x92 x93 x94 x95 x96 x97 : Value} : FrW R g ov tp ⟨#[.pointer (some ⟨R, 0, none⟩), x1, .pointer (some ⟨g, 0, none⟩), x3, ov, tp, .pointer (some ⟨g + 1, 0, none⟩), x7, x8, x9, x10, x11, x12, x13, x14, x15, x16, x17, x18, x19, x20, x21, x22, x23, x24, x25, x26, x27, x28, x29, x30, x31, x32, x33, x34, x35, x36, x37, x38, x39, x40, x41, x42, x43, x44, x45, x46, x47, x48, x49, x50, x51, x52, x53, x54, x55, x56, x57, x58, x59, x60, x61, x62, x63, x64, x65, x66, x67, x68, x69, x70, x71, x72, x73, x74, x75, x76, x77, x78, x79, x80, x81, x82, x83, x84, x85, x86, x87, x88, x89, x90, x91, x92, x93, x94, x95, x96, x97], []⟩ :=
  ⟨fun i => List.getD [undef, x1, undef, x3, undef, undef, undef, x7, x8, x9, x10, x11, x12, x13, x14, x15, x16, x17, x18, x19, x20, x21, x22, x23, x24, x25, x26, x27, x28, x29, x30, x31, x32, x33, x34, x35, x36, x37, x38, x39, x40, x41, x42, x43, x44, x45, x46, x47, x48, x49, x50, x51, x52, x53, x54, x55, x56, x57, x58, x59, x60, x61, x62, x63, x64, x65, x66, x67, x68, x69, x70, x71, x72, x73, x74, x75, x76, x77, x78, x79, x80, x81, x82, x83, x84, x85, x86, x87, x88, x89, x90, x91, x92, x93, x94, x95, x96, x97] i undef, rfl⟩
/-- what whole answers -/
def WholeRes (res : Option JV) (w : World) (R : Nat) (e : Ending) (w' : World) : Prop :=
  w.grownBy w' (some R) ∧ ∃ (cs : List Value) (b : Bool), e = .returned (.tuple #[.agg cs.toArray, .bool b]) ∧ cs.length = 5 ∧ (∀ u ∈ cs, u.oneCell' = true) ∧ match res with
  | some v => b = true ∧ SV (fun x => w.heap.size ≤ x) w' v cs
  | none => b = false
/-- what holds at the labels -/
def WJ (res : Option JV) (w : World) (R L : Nat) (l n : Nat) (a : Act) (wr : World) : Prop :=
  (l = 3 ∧ (∃ ov tp, FrW R w.heap.size ov tp a) ∧ w.grownBy wr (some R) ∧ Arr wr w.heap.size 30 zC ∧ res = none ∧ n = 0) ∨
  ∃ D S ys ov tp vc, FrW R w.heap.size ov tp a ∧
    ((l = 1 ∧ WS w R L D S ys ys.length ov vc wr ∧ res = atValue S ys ∧ n = 8 * ys.length + 1) ∨
     (l = 0 ∧ ∃ k : Nat, (k = 5 ∨ k = 6) ∧ vc = flatC (k : Int) [] 0 ∧ WS w R L D S ys ys.length ov vc wr ∧ res = atOpened S k ys ∧ n = 8 * ys.length + 3) ∨
     (l = 5 ∧ ∃ fr S', S = fr :: S' ∧ fr.k = 6 ∧ WS w R L D S ys ys.length ov vc wr ∧ res = atMember fr S' ys ∧ n = 8 * ys.length + 2) ∨
     (l = 4 ∧ ∃ fr S', S = fr :: S' ∧ WS w R L D S ys (ys.length + 1) ov vc wr ∧ res = atClosed fr S' ys ∧ n = 8 * ys.length + 2) ∨
     (l = 2 ∧ ∃ v, SV D wr v vc ∧ WS w R L D S ys (ys.length + 1) ov vc wr ∧ res = doneF S v ys ∧ n = 8 * ys.length + 1))
theorem WJ.lt {res : Option JV} {w : World} {R L l n : Nat} {a : Act} {wr : World} (h : WJ res w R L l n a wr) : l < 6 := by
  rcases h with ⟨rfl, _⟩ | ⟨_, _, _, _, _, _, _, ⟨rfl, _⟩ | ⟨rfl, _⟩ | ⟨rfl, _⟩ | ⟨rfl, _⟩ | ⟨rfl, _⟩⟩ <;> omega
/-- the machine -/
def bodyC (f : Func) : Code := match f.body with | some (.seq _ (.scope c)) => c | _ => .skip
/-- a way out of a pass: to a label, at a smaller number; or the end -/
def WQ (res : Option JV) (w : World) (R L n : Nat) : Exit → Act → World → Prop := jumps (fun l a wr => ∃ n', n' < n ∧ WJ res w R L l n' a wr) (bodyPost Tryd.prog Tryd.f29 (WholeRes res w R))

theorem name_less {xs key r : List UInt8} (h : nameF xs = some (key, r)) : r.length < xs.length := by
  unfold nameF at h
  have h1 := take_less 34 xs
  split at h
  · rename_i ht
    have h2 := h1 ht
    cases hs : strF ((takeF 34 xs).2.length + 1) (takeF 34 xs).2 with
    | none => rw [hs] at h; cases h
    | some z =>
      obtain ⟨s, q⟩ := z
      have h3 := str_len _ _ _ _ hs
      have h4 := take_len 58 q
      rw [hs] at h
      simp only at h
      split at h
      · simp only [Option.some.injEq, Prod.mk.injEq] at h
        rw [← h.2]
        omega
      · cases h
  · cases h
theorem words_len : ∀ (n k : Nat) (ys q : List UInt8) (m : Nat), wordsF n k ys = some (m, q) → q.length < ys.length
  | 0, _, _, _, _, h => by simp [wordsF] at h
  | n + 1, k, ys, q, m, h => by
    unfold wordsF at h
    cases hm : mustF (wordX k) ys with
    | none => rw [hm] at h; exact words_len n (k + 1) ys q m h
    | some z =>
      have h1 := must_len _ _ _ hm
      have h2 : 0 < (wordX k).length := by unfold wordX; split <;> simp
      rw [hm] at h
      simp only [Option.some.injEq, Prod.mk.injEq] at h
      rw [← h.2]
      omega
theorem single_less {xs q s : List UInt8} {k n : Nat} (h : singleF xs = some (k, s, n, q)) : q.length < xs.length := by
  have h1 := take_less 34 xs
  have h0 := take_len 34 xs
  unfold singleF at h
  split at h
  · rename_i ht
    have h2 := h1 ht
    cases hs : strF ((takeF 34 xs).2.length + 1) (takeF 34 xs).2 with
    | none => rw [hs] at h; cases h
    | some z =>
      obtain ⟨s, q1⟩ := z
      have h3 := str_len _ _ _ _ hs
      rw [hs] at h
      simp only [Option.map_some, Option.some.injEq, Prod.mk.injEq] at h
      rw [← h.2.2.2]
      omega
  · cases hw : wordsF 3 0 (takeF 34 xs).2 with
    | some z =>
      obtain ⟨m, q1⟩ := z
      have h3 := words_len _ _ _ _ _ hw
      rw [hw] at h
      simp only [Option.some.injEq, Prod.mk.injEq] at h
      rw [← h.2.2.2]
      omega
    | none =>
      rw [hw] at h
      cases hn : numF (takeF 34 xs).2 with
      | none => simp only [hn] at h; cases h
      | some z =>
        obtain ⟨m, q1⟩ := z
        have h3 := num_len _ _ _ hn
        simp only [hn, Option.map_some, Option.some.injEq, Prod.mk.injEq] at h
        rw [← h.2.2.2]
        omega

/-- the innermost one is another -/
theorem WS.setTop {w wr w' : World} {R L : Nat} {D : Nat → Prop} {fr fr' : Frm} {S : List Frm} {ys ys' : List UInt8} {m m' O cap i : Nat} {ov lv kv lv' kv' v : Value} {vc cur lead : List Value} {css : List (List Value)} {bl bs : List Nat}
    (h : WS w R L D (fr :: S) ys m ov vc wr) (hR : R < w.heap.size) (ht : TopM D (w.heap.size + 2) wr fr S ov O cap cur lead lv kv css bl) (hT : Tch wr w' bs) (hbs : ∀ b ∈ bs, b = R ∨ b = O ∨ lv.ownBlock = some b ∨ kv.ownBlock = some b)
    (hi : i < 5) (hc : frC fr' lv' kv' = (frC fr lv kv).set i v) (hO : Arr w' O 30 (cur.set (S.length * 5 + i) v)) (hfr : FrM D (w.heap.size + 2) w' fr' lv' kv')
    (hl : ∀ x, lv'.ownBlock = some x → lv.ownBlock = some x ∨ wr.heap.size ≤ x) (hk : ∀ x, kv'.ownBlock = some x → kv.ownBlock = some x ∨ wr.heap.size ≤ x) (hlk : lv'.ownBlock = lv.ownBlock ∨ kv'.ownBlock = kv.ownBlock)
    (hr : RdAt w' R ys') (hl2 : ys'.length ≤ L) (hm : m' ≤ m) (hfew : fr'.acc.length + m' ≤ L ∧ fr'.ks.length + m' ≤ L) : WS w R L D (fr' :: S) ys' m' ov vc w' := by
  have hlt := ht.lt
  have hb2 : ∀ b ∈ bs, b = R ∨ w.heap.size + 2 ≤ b := fun b hb => by
    rcases hbs b hb with e | e | e | e
    · exact .inl e
    · exact .inr (e ▸ ht.lo)
    · exact .inr (hlt b (by simp [e])).1
    · exact .inr (hlt b (by simp [e])).1
  exact {
    gb := Tch.after h.gb hT (fun x hx => by rcases hb2 x hx with e | e; exact .inl (by rw [e]); right; omega)
    rd := hr
    res := hT.arr h.res (fun e => by rcases hb2 _ e with e | e <;> omega)
    vbl := hT.arr h.vbl (fun e => by rcases hb2 _ e with e | e <;> omega)
    vlen := h.vlen
    dlo := fun b hb => ⟨(h.dlo b hb).1, Nat.lt_of_lt_of_le (h.dlo b hb).2 hT.size⟩
    opn := (ht.set hi hc hT hO hfr (fun b hb => by rcases hbs b hb with e | e | e | e; exact .inl (by omega); exact .inr (.inl e); exact .inr (.inr (.inl e)); exact .inr (.inr (.inr e))) (h.dlo) hl hk hlk).opens
    few := fun f hf => by
      rcases List.mem_cons.1 hf with e | e
      · rw [e]; exact hfew
      · have := h.few f (List.mem_cons_of_mem _ e); omega
    deep := h.deep
    len := hl2 }
theorem num_lt {xs q : List UInt8} {n : Nat} (h : numF xs = some (n, q)) : n < 18446744073709551616 := by
  unfold numF at h
  split at h
  · cases h
  · split at h
    · cases h
    · split at h
      · simp only [Option.some.injEq, Prod.mk.injEq] at h
        omega
      · cases h
theorem words_k : ∀ (n k : Nat) (ys q : List UInt8) (m : Nat), wordsF n k ys = some (m, q) → m < n + k
  | 0, _, _, _, _, h => by simp [wordsF] at h
  | n + 1, k, ys, q, m, h => by
    unfold wordsF at h
    cases hm : mustF (wordX k) ys with
    | none => rw [hm] at h; have := words_k n (k + 1) ys q m h; omega
    | some z =>
      rw [hm] at h
      simp only [Option.some.injEq, Prod.mk.injEq] at h
      omega
theorem single_range {xs q s : List UInt8} {k n : Nat} (h : singleF xs = some (k, s, n, q)) : k < 5 ∧ n < 18446744073709551616 := by
  unfold singleF at h
  split at h
  · cases hs : strF ((takeF 34 xs).2.length + 1) (takeF 34 xs).2 with
    | none => rw [hs] at h; cases h
    | some z =>
      rw [hs] at h
      simp only [Option.map_some, Option.some.injEq, Prod.mk.injEq] at h
      omega
  · cases hw : wordsF 3 0 (takeF 34 xs).2 with
    | some z =>
      obtain ⟨m, q1⟩ := z
      have h3 := words_k _ _ _ _ _ hw
      rw [hw] at h
      simp only [Option.some.injEq, Prod.mk.injEq] at h
      omega
    | none =>
      rw [hw] at h
      cases hn : numF (takeF 34 xs).2 with
      | none => simp only [hn] at h; cases h
      | some z =>
        obtain ⟨m, q1⟩ := z
        have h3 := num_lt hn
        simp only [hn, Option.map_some, Option.some.injEq, Prod.mk.injEq] at h
        omega
theorem flat_sv (D : Nat → Prop) (w : World) (k n : Nat) (s : List UInt8) (hk : k < 5) (hn : n < 18446744073709551616) : SV D w (.mk (k : Int) s n [] []) (flatC (k : Int) s n) := by
  unfold SV flatC
  exact ⟨none, 0, none, 0, rfl, by omega, ⟨⟨by simp, by omega, fun _ => rfl, fun h => by simp at h⟩, fun h => by simp at h⟩, ⟨by simp, by omega⟩, fun _ => rfl, fun h => by simp at h⟩
theorem row_n {w : World} {B sz n : Nat} {T : TypeId} {v : Value} {xs : List Value} (h : w.ownsRow B T sz v n xs) : ∃ a c, v = .slice a n c := by
  obtain ⟨-, ⟨h1, h2⟩ | ⟨g, cap, cur, h1, -⟩⟩ := h
  · exact ⟨none, 0, by rw [h1, h2]⟩
  · exact ⟨_, _, h1⟩
/-- append of one value -/
theorem wl_append_5 {ops : Array Oper} {rest : List Oper} {o : Oper} {a : Act} {Q : Exit → Act → World → Prop} {w : World} (hgd : o.guard = none) (d s : Operand) (ho : o.op = .call { callee := .builtin .append, args := #[d, s], argTypes := #[28, 28] })
    (B n : Nat) (v : Value) (xs : List Value) (hown : w.ownsRow B 30 5 v n xs) (hd : a.eval d = v) (g1 : Nat) (T' : TypeId) (cs : List Value) (hcs : cs.length = 5) (hone : ∀ u ∈ cs, u.oneCell' = true) (hs : a.eval s = .slice (some ⟨g1, 0, none⟩) 1 1)
    (hA : Arr w g1 T' cs) (hlen : n + 1 ≤ 1073741824) (hB : B ≤ w.heap.size)
    (hK : ∀ v' w', w'.ownsRow B 30 5 v' (n + 1) (xs ++ cs) → Tch w w' v.ownBlock.toList → (∀ k, v'.ownBlock = some k → v.ownBlock = some k ∨ w.heap.size ≤ k) → wpList Tryd.prog ops Q rest (a.put o.dst v') w') : wpList Tryd.prog ops Q (o :: rest) a w := by
  obtain ⟨i0, hi, hz0, hz1, hz2⟩ := info_parts (show (Tryd.prog.info? 30).map (fun i => (i.zero, i.size, i.bytes)) = some (some (.agg #[.int .i64 0, .string ⟨#[]⟩, .int .u64 0, .slice none 0 0, .slice none 0 0]), 5, 80) by kernel_rfl)
  refine wl_append_w hgd d s 28 ho B 30 i0 _ 5 80 Tryd.underlying28 hi hz0 hz1 hz2 rfl (by decide) v n xs hd hown ⟨g1, 0, none⟩ 1 cs hs (by rw [hcs]) (fun j u hj => ?_) hone (by unfold maxLen; omega) (by omega) hB hK
  rw [Addr.add_lit, Nat.zero_add]
  exact (hA.cell j).trans hj
/-- one more begins -/
theorem WS.push {w wr w' : World} {R L k m : Nat} {D : Nat → Prop} {S : List Frm} {ys : List UInt8} {ov ov' : Value} {vc : List Value} {css : List (List Value)} {bl : List Nat} (h : WS w R L D S ys m ov vc wr) (hR : R < w.heap.size)
    (h1 : FS D (w.heap.size + 2) wr S css bl) (h2 : wr.ownsRow (w.heap.size + 2) 30 5 ov S.length css.reverse.flatten) (h3 : (ov.ownBlock.toList ++ bl).Nodup) (h4 : ∀ b ∈ ov.ownBlock.toList ++ bl, ¬ D b)
    (hT : Tch wr w' ov.ownBlock.toList) (hk : k = 5 ∨ k = 6) (hrow : w'.ownsRow (w.heap.size + 2) 30 5 ov' (S.length + 1) (css.reverse.flatten ++ frC ⟨k, [], []⟩ (.slice none 0 0) (.slice none 0 0)))
    (hn : ∀ b, ov'.ownBlock = some b → ov.ownBlock = some b ∨ wr.heap.size ≤ b) (hS : S.length < 8) (hm : m ≤ L) : WS w R L D (⟨k, [], []⟩ :: S) ys m ov' vc w' := by
  have hlo := World.ownsRow.lt h2
  have hbl := FS.lo S css bl h1
  have hb : ∀ b ∈ ov.ownBlock.toList, w.heap.size + 2 ≤ b := fun b hb => (hlo b (by simpa using hb)).1
  rw [List.nodup_append] at h3
  exact {
    gb := Tch.after h.gb hT (fun x hx => by have := hb x hx; right; omega)
    rd := hT.rd h.rd (fun b hbb => by have := hb b hbb; omega)
    res := hT.arr h.res (fun e => by have := hb _ e; omega)
    vbl := hT.arr h.vbl (fun e => by have := hb _ e; omega)
    vlen := h.vlen
    dlo := fun b hd => ⟨(h.dlo b hd).1, Nat.lt_of_lt_of_le (h.dlo b hd).2 hT.size⟩
    opn := by
      refine ⟨frC ⟨k, [], []⟩ (.slice none 0 0) (.slice none 0 0) :: css, bl, ⟨_, _, css, bl, rfl, rfl, ⟨hk, World.ownsRow_nil _ _ _ _, [], World.ownsRow_nil _ _ _ _, fun i v hi => by simp at hi⟩, FS.tch hT (fun b hbb => h4 b (List.mem_append_left _ hbb)) (fun _ hd _ => hd) S css bl h1 (fun b hbb e => h3.2.2 b e b hbb rfl)⟩, ?_, ?_, ?_⟩
      · simpa using hrow
      · rw [List.nodup_append]
        refine ⟨option_nodup _, h3.2.1, fun x hx y hy e => ?_⟩
        subst e
        rcases hn x (by simpa using hx) with e | e
        · exact h3.2.2 x (by simpa using e) x hy rfl
        · have := (hbl x hy).2; omega
      · intro b hbb hd
        rcases List.mem_append.1 hbb with e | e
        · rcases hn b (by simpa using e) with e | e
          · exact h4 b (List.mem_append_left _ (by simpa using e)) hd
          · have := (h.dlo b hd).2; omega
        · exact h4 b (List.mem_append_right _ e) hd
    few := fun f hf => by
      rcases List.mem_cons.1 hf with e | e
      · rw [e]; simp; exact hm
      · exact h.few f e
    deep := by rw [List.length_cons]; omega
    len := h.len }
theorem wp_scope_six {P : Program} {a : Act} {w : World} {Q : Exit → Act → World → Prop} {c r0 r1 r2 r3 r4 r5 : Code} (J : Nat → Nat → Act → World → Prop)
    (h0 : findLabel c 0 = some r0) (h1 : findLabel c 1 = some r1) (h2 : findLabel c 2 = some r2) (h3 : findLabel c 3 = some r3) (h4 : findLabel c 4 = some r4) (h5 : findLabel c 5 = some r5) (hJ : ∀ l n a w, J l n a w → l < 6)
    (first : c.wp P (jumps (fun l a w => ∃ n, J l n a w) Q) a w)
    (p0 : ∀ n a w, J 0 n a w → r0.wp P (jumps (fun l' a' w' => ∃ n', n' < n ∧ J l' n' a' w') Q) a w)
    (p1 : ∀ n a w, J 1 n a w → r1.wp P (jumps (fun l' a' w' => ∃ n', n' < n ∧ J l' n' a' w') Q) a w)
    (p2 : ∀ n a w, J 2 n a w → r2.wp P (jumps (fun l' a' w' => ∃ n', n' < n ∧ J l' n' a' w') Q) a w)
    (p3 : ∀ n a w, J 3 n a w → r3.wp P (jumps (fun l' a' w' => ∃ n', n' < n ∧ J l' n' a' w') Q) a w)
    (p4 : ∀ n a w, J 4 n a w → r4.wp P (jumps (fun l' a' w' => ∃ n', n' < n ∧ J l' n' a' w') Q) a w)
    (p5 : ∀ n a w, J 5 n a w → r5.wp P (jumps (fun l' a' w' => ∃ n', n' < n ∧ J l' n' a' w') Q) a w) : (Code.scope c).wp P Q a w := by
  have hl : ∀ l, l < 6 → l = 0 ∨ l = 1 ∨ l = 2 ∨ l = 3 ∨ l = 4 ∨ l = 5 := fun l h => by omega
  refine wp_scope_labels (fun l => match l with | 0 => r0 | 1 => r1 | 2 => r2 | 3 => r3 | 4 => r4 | _ => r5) J (fun l n a w h => ?_) first (fun l n a w h => ?_)
  · rcases hl l (hJ l n a w h) with rfl | rfl | rfl | rfl | rfl | rfl
    · exact h0
    · exact h1
    · exact h2
    · exact h3
    · exact h4
    · exact h5
  · rcases hl l (hJ l n a w h) with rfl | rfl | rfl | rfl | rfl | rfl
    · exact p0 n a w h
    · exact p1 n a w h
    · exact p2 n a w h
    · exact p3 n a w h
    · exact p4 n a w h
    · exact p5 n a w h

set_option maxRecDepth 100000 in
set_option maxHeartbeats 3200000 in
/-- wrong -/
theorem pass3 (res : Option JV) (w : World) (R L n : Nat) (ov tp : Value) (a : Act) (wr : World) (r Y : Code) (hf : findLabel (bodyC Tryd.f29) 3 = some (.seq .skip (.seq r Y))) (hfr : FrW R w.heap.size ov tp a) (hgb : w.grownBy wr (some R)) (hA : Arr wr w.heap.size 30 zC) (hres : res = none) :
    r.wp Tryd.prog (Exit.then (Y.wp Tryd.prog (WQ res w R L n)) (WQ res w R L n)) a wr := by
  unfold bodyC Tryd.f29 at hf
  change some (Code.seq Code.skip (Code.seq _ _)) = _ at hf
  cases hf
  obtain ⟨u, rfl⟩ := hfr
  have HRES := Lib.hid hres
  have HGB := Lib.hid hgb
  clear hres hgb
  generalize hg : w.heap.size = g at *
  have HG := Lib.hid hg
  clear hg
  go_wp2_with ((with_reducible show wpList _ _ _ (⟨none, _, _, _, _, _⟩ :: _) _ _); refine wl_store rfl 30 _ _ rfl g 0 rfl (flatC 0 [] 0) rfl 30 _ hA (by kernel_rfl) (by simp [flatC, zC]) (by simp [flatC, Value.oneCell']) ?_; intro w4 hR4 hg4 hs4)
  unfold WQ
  try simp only [jumps]
  rw [flat_store _ rfl] at hR4
  refine end_cell2 rfl g 30 _ _ _ rfl hR4 Tryd.underlying30 rfl (by kernel_rfl) rfl rfl ?_
  refine ⟨Tch.after HGB.out (Tch.of_grown hg4) (by have := HG.out; simp; omega), _, false, rfl, rfl, by simp [flatC, Value.oneCell'], ?_⟩
  rw [HRES.out]
end Go.Proofs.YtiadfijeglbdlaaDoor

namespace Go.Proofs.YtiadfijeglbdlaaDoor
open Go.RowKit

set_option maxRecDepth 100000 in
set_option maxHeartbeats 6400000 in
theorem pass5 (res : Option JV) (w : World) (R L n : Nat) (hR : R < w.heap.size) (hL : L ≤ 1048576) (ov tp : Value) (a : Act) (wr : World) (r Y : Code) (hf : findLabel (bodyC Tryd.f29) 5 = some (.seq .skip (.seq r Y))) (hfr : FrW R w.heap.size ov tp a) (D : Nat → Prop) (fr : Frm) (S : List Frm) (ys : List UInt8) (vc : List Value) (hk : fr.k = 6) (h : WS w R L D (fr :: S) ys ys.length ov vc wr) (hres : res = atMember fr S ys) (hn : 8 * ys.length + 2 ≤ n) :
    r.wp Tryd.prog (Exit.then (Y.wp Tryd.prog (WQ res w R L n)) (WQ res w R L n)) a wr := by
  unfold bodyC Tryd.f29 at hf
  change some (Code.seq Code.skip (Code.seq _ _)) = _ at hf
  cases hf
  obtain ⟨u, rfl⟩ := hfr
  obtain ⟨O, cap, cur, lead, lv, kv, css, bl, ht⟩ := h.opn.top
  have hov := ht.hov
  have hnd := ht.nd
  simp only [List.nodup_cons, List.nodup_append, List.mem_append, Option.mem_toList, not_or] at hnd
  have hlO : lv.ownBlock ≠ some O := hnd.1.1.1
  have hkO : kv.ownBlock ≠ some O := hnd.1.1.2
  have hlk : ∀ x, lv.ownBlock = some x → kv.ownBlock ≠ some x := fun x h1 h2 => hnd.2.1.2.2 x h1 x h2 rfl
  have hf1 := h.few fr (List.mem_cons_self ..)
  have hS : S.length < 8 := by have := h.deep; simp only [List.length_cons] at this; omega
  have hlen := h.len
  have hBO := ht.lo
  have hnm := Lib.hid (name_any R O (S.length * 5) (w.heap.size + 2) ys wr cur kv fr.ks h.rd (by omega) (by omega) hBO ht.harr (by rw [ht.cell 4 (by omega)]; rfl) ht.hfr.keys hkO (by omega))
  have HBS : Hid (∀ b ∈ R :: O :: kv.ownBlock.toList, b = R ∨ w.heap.size + 2 ≤ b) := fun b hb => by
    simp only [List.mem_cons, Option.mem_toList] at hb
    rcases hb with e | e | e
    · exact .inl e
    · exact .inr (e ▸ hBO)
    · exact .inr (World.ownsRow.lt ht.hfr.keys b e).1
  have HBD : Hid (∀ b ∈ R :: O :: kv.ownBlock.toList, ¬ D b) := fun b hb hd => by
    simp only [List.mem_cons, Option.mem_toList] at hb
    rcases hb with e | e | e
    · have := (h.dlo b hd).1; omega
    · exact ht.out b (by simp [e]) hd
    · exact ht.out b (by simp [Option.mem_toList.2 e]) hd
  have H := Lib.hid h
  have HT := Lib.hid ht
  have HK := Lib.hid hk
  have HRES := Lib.hid hres
  have HN := Lib.hid hn
  have HF1 := Lib.hid hf1
  have HLO := Lib.hid hlO
  have HLK := Lib.hid hlk
  have HS := Lib.hid hS
  subst hov
  clear hnd h ht hk hres hn hf1 hlO hkO hlk hlen
  obtain ⟨d, hd⟩ : ∃ d, d = S.length := ⟨_, rfl⟩
  rw [← hd] at hS hnm
  rw [← hd]
  have HD := Lib.hid hd
  clear hd
  cases hnf : nameF ys with
  | none =>
    rw [hnf] at hnm
    have hnm : Hid (Calls Tryd.prog 51 #[.pointer (some ⟨R, 0, none⟩), .pointer (some ⟨O, d * 5, none⟩)] wr fun e w' => Tch wr w' (R :: O :: kv.ownBlock.toList) ∧ e = .returned (.bool false)) := hnm.out
    have HNF := Lib.hid hnf
    clear hnf
    go_wp2_with (go_at_call 51; refine hnm.out.mono ?_; rintro e w2 ⟨ht2, rfl⟩)
    refine wp_goto ?_
    show ∃ n', n' < n ∧ WJ res w R L 3 n' _ _
    refine ⟨0, by have := HN.out; omega, .inl ⟨rfl, ⟨_, _, frW_of⟩, Tch.after H.out.gb ht2 (fun x hx => ?_), ht2.arr H.out.res (fun e => ?_), HRES.out.trans (member_none HNF.out), rfl⟩⟩
    · rcases HBS.out x hx with e | e
      · exact .inl (by rw [e])
      · right; omega
    · rcases HBS.out _ e with e | e <;> omega
  | some p =>
    obtain ⟨key, q⟩ := p
    rw [hnf] at hnm
    have hnm : Hid (Calls Tryd.prog 51 #[.pointer (some ⟨R, 0, none⟩), .pointer (some ⟨O, d * 5, none⟩)] wr fun e w' => Tch wr w' (R :: O :: kv.ownBlock.toList) ∧ e = .returned (.bool true) ∧ RdAt w' R q ∧ ∃ kv', w'.ownsRow (w.heap.size + 2) 9 1 kv' (fr.ks ++ [key]).length ((fr.ks ++ [key]).map fun k => Value.string (bstr k)) ∧ Arr w' O 30 (cur.set (d * 5 + 4) kv') ∧ (∀ k, kv'.ownBlock = some k → kv.ownBlock = some k ∨ wr.heap.size ≤ k)) := hnm.out
    have HNF := Lib.hid hnf
    clear hnf
    go_wp2_with (go_at_call 51; refine hnm.out.mono ?_; rintro e w2 ⟨ht2, rfl, hr2, hkv2⟩; have HKV := Lib.hid hkv2; clear hkv2)
    refine wp_goto ?_
    show ∃ n', n' < n ∧ WJ res w R L 1 n' _ _
    obtain ⟨kv', k1, k2, k3⟩ := HKV.out
    have hq := name_less HNF.out
    have hh := H.out
    have hT := HT.out
    have hd := HD.out
    obtain ⟨xs, x1, x2⟩ := hT.hfr.list
    have hfm : FrM D (w.heap.size + 2) w2 ⟨6, fr.acc, fr.ks ++ [key]⟩ lv kv' := by
      refine ⟨.inr rfl, k1, xs, ht2.row x1 (fun k hk e => ?_), fun i v hi => sv_to (fun _ hd _ => hd) (ht2.stay HBD.out) v _ (x2 i v hi)⟩
      simp only [List.mem_cons, Option.mem_toList] at e
      rcases e with e | e | e
      · have := (World.ownsRow.lt x1 k hk).1; omega
      · exact HLO.out (by rw [hk, e])
      · exact HLK.out k hk e
    have hws := hh.setTop hR hT ht2 (fun b hb => by simp only [List.mem_cons, Option.mem_toList] at hb; rcases hb with e | e | e; exact .inl e; exact .inr (.inl e); exact .inr (.inr (.inr e))) (i := 4) (by omega) (fr' := ⟨6, fr.acc, fr.ks ++ [key]⟩) (lv' := lv) (kv' := kv') (v := kv') (by simp [frC, HK.out]) (by rw [← hd]; exact k2) hfm (fun x hx => .inl hx) k3 (.inl rfl) hr2 (by have := hh.len; omega) (m' := q.length) (by omega) (by have := HF1.out; simp only [List.length_append, List.length_singleton]; omega)
    rw [← hd] at hws
    exact ⟨8 * q.length + 1, by have := HN.out; omega, .inr ⟨_, _, _, _, _, _, frW_of, .inl ⟨rfl, hws, HRES.out.trans (member_value HS.out HNF.out), rfl⟩⟩⟩
end Go.Proofs.YtiadfijeglbdlaaDoor

namespace Go.Proofs.YtiadfijeglbdlaaDoor
open Go.RowKit

set_option maxRecDepth 100000 in
set_option maxHeartbeats 6400000 in
theorem pass1 (res : Option JV) (w : World) (R L n : Nat) (hR : R < w.heap.size) (hL : L ≤ 1048576) (ov tp : Value) (a : Act) (wr : World) (r Y : Code) (hf : findLabel (bodyC Tryd.f29) 1 = some (.seq .skip (.seq r Y))) (hfr : FrW R w.heap.size ov tp a) (htab : ∀ W, w.grownBy W (some R) → Tabs W) (D : Nat → Prop) (S : List Frm) (ys : List UInt8) (vc : List Value) (h : WS w R L D S ys ys.length ov vc wr) (hres : res = atValue S ys) (hn : 8 * ys.length + 1 ≤ n) :
    r.wp Tryd.prog (Exit.then (Y.wp Tryd.prog (WQ res w R L n)) (WQ res w R L n)) a wr := by
  unfold bodyC Tryd.f29 at hf
  change some (Code.seq Code.skip (Code.seq _ _)) = _ at hf
  cases hf
  obtain ⟨u, rfl⟩ := hfr
  have hop := Lib.hid (opening_any R ys wr h.rd)
  have hV := h.vbl
  have VL := Lib.hid h.vlen
  have hlen := h.len
  have hdeep := h.deep
  have H := Lib.hid h
  have HRES := Lib.hid hres
  have HN := Lib.hid hn
  have HTAB := Lib.hid htab
  have hol := open_less ys
  clear h hres hn htab
  have hwf : (fun b => b ∈ [R, w.heap.size + 1]) R := by simp
  rcases open_kind ys with hk | hk | hk
  · obtain ⟨y, hy⟩ : ∃ y, y = (openF ys).2 := ⟨_, rfl⟩
    have hop : Hid (Calls Tryd.prog 47 #[.pointer (some ⟨R, 0, none⟩)] wr fun e w' => e = .returned (.tuple #[.agg (flatC 0 [] 0).toArray, .bool false]) ∧ RdAt w' R y ∧ wr.grownBy w' (some R)) := by
      have := hop.out
      rw [hk, ← hy] at this
      exact this
    rw [← hy] at hol
    have hyl : y.length ≤ L := by omega
    have hsg : Hid (∀ W, RdAt W R y → w.grownBy W (some R) → Calls Tryd.prog 48 #[.pointer (some ⟨R, 0, none⟩)] W (FlatRes (singleF y) W R)) := fun W h1 h2 => single_any R y W h1 (HTAB.out W h2) (by omega)
    have HK0 := Lib.hid hk
    have HY := Lib.hid hy
    have HOL := Lib.hid hol
    have HYL := Lib.hid hyl
    clear hk hy hol hyl
    cases hs : singleF y with
    | none =>
      rw [hs] at hsg
      have hsg : Hid (∀ W, RdAt W R y → w.grownBy W (some R) → Calls Tryd.prog 48 #[.pointer (some ⟨R, 0, none⟩)] W fun e w' => W.grownBy w' (some R) ∧ ∃ (k : Int) (s : List UInt8) (n : Nat), e = .returned (.tuple #[.agg (flatC k s n).toArray, .bool false])) := hsg.out
      have HS := Lib.hid hs
      clear hs
      go_wp2_with (first
        | (go_at_call 47; refine hop.out.mono ?_; rintro e w2 ⟨rfl, hr2, hg2⟩; have hV2 := hV.grown hg2 (by intro e; cases e; omega); have hgb2 := gb_trans H.out.gb hg2; clear hop hV)
        | ((with_reducible show wpList _ _ _ (⟨none, _, _, _, _, _⟩ :: _) _ _); refine wl_store rfl 30 _ _ rfl (w.heap.size + 1) 0 rfl (flatC 0 [] 0) rfl 30 _ hV2 (by kernel_rfl) (by simp [flatC, VL.out]) (by simp [flatC, Value.oneCell']) ?_; intro w3 hV3 hg3 hs3; have hr3 := hr2.kept hg3 (by intro k hk; cases hk; omega); have hgb3 := gb_new hgb2 hg3 (by omega); clear hV2 hr2)
        | (go_at_call 48; refine (hsg.out _ hr3 hgb3).mono ?_; rintro e w4 ⟨hg4, k4, s4, n4, rfl⟩; have hV4 := hV3.grown hg4 (by intro e; cases e; omega); rw [flat_store _ VL.out] at hV4; have hgb4 := gb_trans hgb3 hg4; clear hV3)
        | ((with_reducible show wpList _ _ _ (⟨none, _, _, _, _, _⟩ :: _) _ _); refine wl_store rfl 30 _ _ rfl (w.heap.size + 1) 0 rfl (flatC k4 s4 n4) rfl 30 _ hV4 (by kernel_rfl) (by simp [flatC]) (by simp [flatC, Value.oneCell']) ?_; intro w5 hV5 hg5 hs5; skip))
      refine wp_goto ?_
      show ∃ n', n' < n ∧ WJ res w R L 3 n' _ _
      refine ⟨0, by have := HN.out; omega, .inl ⟨rfl, ⟨_, _, frW_of⟩, gb_new hgb4 hg5 (by omega), ?_, ?_, rfl⟩⟩
      · exact (((H.out.res.grown hg2 (by intro e; cases e; omega)).grown hg3 (by simp)).grown hg4 (by intro e; cases e; omega)).grown hg5 (by simp)
      · exact HRES.out.trans (value_none HK0.out (by rw [← HY.out]; exact HS.out))
    | some p =>
      obtain ⟨k, s, n1, q⟩ := p
      rw [hs] at hsg
      have hsg : Hid (∀ W, RdAt W R y → w.grownBy W (some R) → Calls Tryd.prog 48 #[.pointer (some ⟨R, 0, none⟩)] W fun e w' => W.grownBy w' (some R) ∧ e = .returned (.tuple #[.agg (flatC (k : Int) s n1).toArray, .bool true]) ∧ RdAt w' R q) := hsg.out
      have HS := Lib.hid hs
      clear hs
      go_wp2_with (first
        | (go_at_call 47; refine hop.out.mono ?_; rintro e w2 ⟨rfl, hr2, hg2⟩; have hV2 := hV.grown hg2 (by intro e; cases e; omega); have hgb2 := gb_trans H.out.gb hg2; clear hop hV)
        | ((with_reducible show wpList _ _ _ (⟨none, _, _, _, _, _⟩ :: _) _ _); refine wl_store rfl 30 _ _ rfl (w.heap.size + 1) 0 rfl (flatC 0 [] 0) rfl 30 _ hV2 (by kernel_rfl) (by simp [flatC, VL.out]) (by simp [flatC, Value.oneCell']) ?_; intro w3 hV3 hg3 hs3; have hr3 := hr2.kept hg3 (by intro k hk; cases hk; omega); have hgb3 := gb_new hgb2 hg3 (by omega); clear hV2 hr2)
        | (go_at_call 48; refine (hsg.out _ hr3 hgb3).mono ?_; rintro e w4 ⟨hg4, rfl, hr4⟩; have hV4 := hV3.grown hg4 (by intro e; cases e; omega); rw [flat_store _ VL.out] at hV4; have hgb4 := gb_trans hgb3 hg4; clear hV3)
        | ((with_reducible show wpList _ _ _ (⟨none, _, _, _, _, _⟩ :: _) _ _); refine wl_store rfl 30 _ _ rfl (w.heap.size + 1) 0 rfl (flatC (k : Int) s n1) rfl 30 _ hV4 (by kernel_rfl) (by simp [flatC]) (by simp [flatC, Value.oneCell']) ?_; intro w5 hV5 hg5 hs5; skip))
      refine wp_goto ?_
      show ∃ n', n' < n ∧ WJ res w R L 2 n' _ _
      have hl := single_less HS.out
      have hrg := single_range HS.out
      rw [flat_store _ rfl] at hV5
      have hT : Tch wr w5 [R, w.heap.size + 1] := ((Tch.of_grown hg2).mono (by simp)).trans (((Tch.of_grown hg3).mono (by simp)).trans (((Tch.of_grown hg4).mono (by simp)).trans ((Tch.of_grown hg5).mono (by simp))))
      exact ⟨8 * q.length + 1, by have := HN.out; have := HOL.out; omega, .inr ⟨_, _, _, _, _, _, frW_of, .inr (.inr (.inr (.inr ⟨rfl, _, flat_sv D _ k n1 s hrg.1 hrg.2, H.out.keep hT hR (hr4.kept hg5 (by intro k hk; cases hk; omega)) hV5 rfl (by have := HYL.out; omega) (by have := HOL.out; omega), HRES.out.trans (value_single HK0.out (by rw [← HY.out]; exact HS.out)), rfl⟩)))⟩⟩
  · have hx := hol.2 (by rw [hk]; decide)
    obtain ⟨y, hy⟩ : ∃ y, y = (openF ys).2 := ⟨_, rfl⟩
    have hop : Hid (Calls Tryd.prog 47 #[.pointer (some ⟨R, 0, none⟩)] wr fun e w' => e = .returned (.tuple #[.agg (flatC 5 [] 0).toArray, .bool true]) ∧ RdAt w' R y ∧ wr.grownBy w' (some R)) := by
      have := hop.out
      rw [hk, ← hy] at this
      exact this
    rw [← hy] at hx
    have HX := Lib.hid hx
    have HY := Lib.hid hy
    have HK := Lib.hid hk
    clear hx hy hk hol
    go_wp2_with (first
      | (go_at_call 47; refine hop.out.mono ?_; rintro e w2 ⟨rfl, hr2, hg2⟩; have hV2 := hV.grown hg2 (by intro e; cases e; omega); clear hop hV)
      | ((with_reducible show wpList _ _ _ (⟨none, _, _, _, _, _⟩ :: _) _ _); refine wl_store rfl 30 _ _ rfl (w.heap.size + 1) 0 rfl (flatC 5 [] 0) rfl 30 _ hV2 (by kernel_rfl) (by simp [flatC, VL.out]) (by simp [flatC, Value.oneCell']) ?_; intro w3 hV3 hg3 hs3; skip))
    refine wp_goto ?_
    show ∃ n', n' < n ∧ WJ res w R L 0 n' _ _
    rw [flat_store _ VL.out] at hV3
    have hT : Tch wr w3 [R, w.heap.size + 1] := ((Tch.of_grown hg2).mono (by simp)).trans ((Tch.of_grown hg3).mono (by simp))
    exact ⟨8 * y.length + 3, by have := HN.out; have := HX.out; omega, .inr ⟨_, _, _, _, _, _, frW_of, .inr (.inl ⟨rfl, 5, .inl rfl, rfl, H.out.keep hT hR (hr2.kept hg3 (by intro k hk; cases hk; omega)) hV3 rfl (by have := HX.out; omega) (by have := HX.out; omega), by rw [HRES.out, HY.out, value_opened hdeep (by rw [HK.out]; decide), HK.out], rfl⟩)⟩⟩
  · have hx := hol.2 (by rw [hk]; decide)
    obtain ⟨y, hy⟩ : ∃ y, y = (openF ys).2 := ⟨_, rfl⟩
    have hop : Hid (Calls Tryd.prog 47 #[.pointer (some ⟨R, 0, none⟩)] wr fun e w' => e = .returned (.tuple #[.agg (flatC 6 [] 0).toArray, .bool true]) ∧ RdAt w' R y ∧ wr.grownBy w' (some R)) := by
      have := hop.out
      rw [hk, ← hy] at this
      exact this
    rw [← hy] at hx
    have HX := Lib.hid hx
    have HY := Lib.hid hy
    have HK := Lib.hid hk
    clear hx hy hk hol
    go_wp2_with (first
      | (go_at_call 47; refine hop.out.mono ?_; rintro e w2 ⟨rfl, hr2, hg2⟩; have hV2 := hV.grown hg2 (by intro e; cases e; omega); clear hop hV)
      | ((with_reducible show wpList _ _ _ (⟨none, _, _, _, _, _⟩ :: _) _ _); refine wl_store rfl 30 _ _ rfl (w.heap.size + 1) 0 rfl (flatC 6 [] 0) rfl 30 _ hV2 (by kernel_rfl) (by simp [flatC, VL.out]) (by simp [flatC, Value.oneCell']) ?_; intro w3 hV3 hg3 hs3; skip))
    refine wp_goto ?_
    show ∃ n', n' < n ∧ WJ res w R L 0 n' _ _
    rw [flat_store _ VL.out] at hV3
    have hT : Tch wr w3 [R, w.heap.size + 1] := ((Tch.of_grown hg2).mono (by simp)).trans ((Tch.of_grown hg3).mono (by simp))
    exact ⟨8 * y.length + 3, by have := HN.out; have := HX.out; omega, .inr ⟨_, _, _, _, _, _, frW_of, .inr (.inl ⟨rfl, 6, .inr rfl, rfl, H.out.keep hT hR (hr2.kept hg3 (by intro k hk; cases hk; omega)) hV3 rfl (by have := HX.out; omega) (by have := HX.out; omega), by rw [HRES.out, HY.out, value_opened hdeep (by rw [HK.out]; decide), HK.out], rfl⟩)⟩⟩
end Go.Proofs.YtiadfijeglbdlaaDoor

namespace Go.Proofs.YtiadfijeglbdlaaDoor
open Go.RowKit

set_option maxRecDepth 100000 in
set_option maxHeartbeats 6400000 in
theorem pass0 (res : Option JV) (w : World) (R L n : Nat) (hR : R < w.heap.size) (hL : L ≤ 1048576) (ov tp : Value) (a : Act) (wr : World) (r Y : Code) (hf : findLabel (bodyC Tryd.f29) 0 = some (.seq .skip (.seq r Y))) (hfr : FrW R w.heap.size ov tp a) (D : Nat → Prop) (S : List Frm) (ys : List UInt8) (k : Nat) (hk0 : k = 5 ∨ k = 6) (h : WS w R L D S ys ys.length ov (flatC (k : Int) [] 0) wr) (hres : res = atOpened S k ys) (hn : 8 * ys.length + 3 ≤ n) :
    r.wp Tryd.prog (Exit.then (Y.wp Tryd.prog (WQ res w R L n)) (WQ res w R L n)) a wr := by
  unfold bodyC Tryd.f29 at hf
  change some (Code.seq Code.skip (Code.seq _ _)) = _ at hf
  cases hf
  obtain ⟨u, rfl⟩ := hfr
  obtain ⟨css, bl, h1, h2, h3, h4⟩ := h.opn
  obtain ⟨a0, cc, hov⟩ := row_n h2
  subst hov
  have hlo := World.ownsRow.lt h2
  have HLO : Hid (∀ b ∈ (Value.ownBlock (.slice a0 S.length cc)).toList, w.heap.size + 2 ≤ b) := fun b hb => (hlo b (by simpa using hb)).1
  have hdeep := h.deep
  have H := Lib.hid h
  have HRES := Lib.hid hres
  have HN := Lib.hid hn
  have HFS := Lib.hid h1
  have H2 := Lib.hid h2
  have H2' := Lib.hid h2
  have HND := Lib.hid h3
  have HOUT := Lib.hid h4
  have HRD := Lib.hid h.rd
  have HSZ : Hid (w.heap.size + 2 ≤ wr.heap.size) := by show _ ≤ _; have := h.vbl.lt; omega
  have HLS : Hid (∀ W, Calls Tryd.prog 50 #[.int .i64 (k : Int)] W fun e w' => e = .returned (.int .u8 ((lastF k).toNat : Int)) ∧ w' = W) := fun W => by
    have := lastSign_any (k : Int) W
    rcases hk0 with rfl | rfl
    · exact this
    · exact this
  clear h hres hn h1 h2 h3 h4 hlo
  have hSd := hdeep
  obtain ⟨d, hd⟩ : ∃ d, d = S.length := ⟨_, rfl⟩
  rw [← hd] at hdeep H2 HLO
  rw [← hd]
  have HD := Lib.hid hd
  by_cases h8 : d = 8
  · have HR8 := Lib.hid (HRES.out.trans (opened_deep (k := k) (ys := ys) (hd.symm.trans h8)))
    clear hd hSd
    subst h8
    go_wp2
    refine wp_goto ?_
    show ∃ n', n' < n ∧ WJ res w R L 3 n' _ _
    exact ⟨0, by have := HN.out; omega, .inl ⟨rfl, ⟨_, _, frW_of⟩, H.out.gb, H.out.res, HR8.out, rfl⟩⟩
  · have h8i : ¬ (d : Int) = 8 := by omega
    have HS : Hid (S.length < 8) := by show _ < _; omega
    have hd7 : d ≤ 7 := by omega
    have h8l := Lib.hid h8
    clear hdeep hd hSd h8
    obtain ⟨y, htk2⟩ : ∃ y, (takeF (lastF k) ys).2 = y := ⟨_, rfl⟩
    have hyl := take_len (lastF k) ys
    have hyle := take_less (lastF k) ys
    rw [htk2] at hyl hyle
    have HYL := Lib.hid hyl
    have HYLE := Lib.hid hyle
    clear hyl hyle
    cases htk1 : (takeF (lastF k) ys).1 with
    | true =>
      have HK0 := Lib.hid hk0
      have hV : Arr wr (w.heap.size + 1) 30 [.int .i64 (k : Int), .string ⟨#[]⟩, .int .u64 0, .slice none 0 0, .slice none 0 0] := H.out.vbl
      have hls : Hid (∀ W, Calls Tryd.prog 50 #[.int .i64 (k : Int)] W fun e w' => e = .returned (.int .u8 ((lastF k).toNat : Int)) ∧ w' = W) := HLS.out
      have htk : Hid (∀ W, RdAt W R ys → Calls Tryd.prog 49 #[.pointer (some ⟨R, 0, none⟩), .int .u8 ((lastF k).toNat : Int)] W fun e w' => e = .returned (.bool true) ∧ RdAt w' R y ∧ W.grownBy w' (some R)) := fun W hW => by have := take_any R (lastF k) ys W hW; rw [htk1, htk2] at this; exact this
      have HX1 := Lib.hid htk1
      have HX2 := Lib.hid htk2
      clear htk1 htk2
      go_wp2_with (first
      | ((with_reducible show wpList _ _ _ (⟨some 24, _, _, _, _, _⟩ :: _) _ _); go_loud (refine wl_load rfl 30 _ rfl (w.heap.size + 1) 0 rfl 30 _ [.int .i64 (k : Int), .string ⟨#[]⟩, .int .u64 0, .slice none 0 0, .slice none 0 0] hV (fun j v hj => by rw [Nat.zero_add]; exact hj) _ Tryd.underlying30 rfl (by kernel_rfl) ?_))
      | (at_builtin; go_loud (refine wl_append_5 rfl (.tmp 23) (.tmp 25) rfl (w.heap.size + 2) d _ _ (H2.out.alloc _) rfl _ _ [.int .i64 (k : Int), .string ⟨#[]⟩, .int .u64 0, .slice none 0 0, .slice none 0 0] rfl (by simp [Value.oneCell']) rfl (Arr.new _ _ _) (by omega) (by have := HSZ.out; simp; omega) ?_; intro v5 w5 ho5 ht5 hn5; obtain ⟨a5, c5, rfl⟩ := row_n ho5; have HT5 := Lib.hid ((Tch.of_below ((Below.refl _ _).alloc (Nat.le_refl _) _) _).trans ht5); have HO5 := Lib.hid ho5; have HV5 := Lib.hid (HT5.out.arr hV (fun e => by have := HLO.out _ e; omega)); have c0 := (HV5.out.cell 0).trans (show _ = some (Value.int .i64 (k : Int)) from rfl); have HRD5 := Lib.hid (HT5.out.rd HRD.out (fun b hb => by have := HLO.out b hb; omega)); have HN5 : Hid (∀ b, Value.ownBlock (.slice a5 (d + 1) c5) = some b → Value.ownBlock (.slice a0 d cc) = some b ∨ wr.heap.size ≤ b) := (fun b hb => (hn5 b hb).imp id (fun h => by simp at h; omega)); clear ho5 ht5 hn5))
      | (go_at_call 50; refine (hls.out _).mono ?_; rintro e w6 ⟨rfl, rfl⟩)
      | (go_at_call 49; refine (htk.out _ HRD5.out).mono ?_; rintro e w7 ⟨rfl, hr7, hg7⟩; have HV7 := Lib.hid (HV5.out.grown hg7 (by intro e; cases e; omega)); have c1 := (HV7.out.cell 0).trans (show _ = some (Value.int .i64 (k : Int)) from rfl)))
      refine wp_goto ?_
      show ∃ n', n' < n ∧ WJ res w R L 4 n' _ _
      have hws := H.out.push hR HFS.out H2'.out HND.out HOUT.out (by rw [← HD.out]; exact HT5.out) HK0.out (by rw [← HD.out]; exact HO5.out) (by rw [← HD.out]; exact HN5.out) HS.out H.out.len
      have hT : Tch w6 w7 [R, w.heap.size + 1] := (Tch.of_grown hg7).mono (by simp)
      have hyl := HYLE.out HX1.out
      have hws2 := hws.keep hT hR hr7 HV7.out rfl (by have := H.out.len; omega) (m' := y.length + 1) (by omega)
      exact ⟨8 * y.length + 2, by have := HN.out; omega, .inr ⟨_, _, _, _, _, _, frW_of, .inr (.inr (.inr (.inl ⟨rfl, _, _, rfl, hws2, by rw [HRES.out, opened_closed (by have := HS.out; omega) HK0.out HX1.out, HX2.out], rfl⟩)))⟩⟩
    | false =>
      rcases hk0 with rfl | rfl
      · have HK0 : Hid (∀ x : Nat, x = 5 → x = 5 ∨ x = 6) := fun x e => .inl e
        have hV : Arr wr (w.heap.size + 1) 30 [.int .i64 5, .string ⟨#[]⟩, .int .u64 0, .slice none 0 0, .slice none 0 0] := H.out.vbl
        have hls : Hid (∀ W, Calls Tryd.prog 50 #[.int .i64 5] W fun e w' => e = .returned (.int .u8 ((lastF 5).toNat : Int)) ∧ w' = W) := HLS.out
        have htk : Hid (∀ W, RdAt W R ys → Calls Tryd.prog 49 #[.pointer (some ⟨R, 0, none⟩), .int .u8 ((lastF 5).toNat : Int)] W fun e w' => e = .returned (.bool false) ∧ RdAt w' R y ∧ W.grownBy w' (some R)) := fun W hW => by have := take_any R (lastF 5) ys W hW; rw [htk1, htk2] at this; exact this
        have HX1 := Lib.hid htk1
        have HX2 := Lib.hid htk2
        clear htk1 htk2
        go_wp2_with (first
      | ((with_reducible show wpList _ _ _ (⟨some 24, _, _, _, _, _⟩ :: _) _ _); go_loud (refine wl_load rfl 30 _ rfl (w.heap.size + 1) 0 rfl 30 _ [.int .i64 5, .string ⟨#[]⟩, .int .u64 0, .slice none 0 0, .slice none 0 0] hV (fun j v hj => by rw [Nat.zero_add]; exact hj) _ Tryd.underlying30 rfl (by kernel_rfl) ?_))
      | (at_builtin; go_loud (refine wl_append_5 rfl (.tmp 23) (.tmp 25) rfl (w.heap.size + 2) d _ _ (H2.out.alloc _) rfl _ _ [.int .i64 5, .string ⟨#[]⟩, .int .u64 0, .slice none 0 0, .slice none 0 0] rfl (by simp [Value.oneCell']) rfl (Arr.new _ _ _) (by omega) (by have := HSZ.out; simp; omega) ?_; intro v5 w5 ho5 ht5 hn5; obtain ⟨a5, c5, rfl⟩ := row_n ho5; have HT5 := Lib.hid ((Tch.of_below ((Below.refl _ _).alloc (Nat.le_refl _) _) _).trans ht5); have HO5 := Lib.hid ho5; have HV5 := Lib.hid (HT5.out.arr hV (fun e => by have := HLO.out _ e; omega)); have c0 := (HV5.out.cell 0).trans (show _ = some (Value.int .i64 5) from rfl); have HRD5 := Lib.hid (HT5.out.rd HRD.out (fun b hb => by have := HLO.out b hb; omega)); have HN5 : Hid (∀ b, Value.ownBlock (.slice a5 (d + 1) c5) = some b → Value.ownBlock (.slice a0 d cc) = some b ∨ wr.heap.size ≤ b) := (fun b hb => (hn5 b hb).imp id (fun h => by simp at h; omega)); clear ho5 ht5 hn5))
      | (go_at_call 50; refine (hls.out _).mono ?_; rintro e w6 ⟨rfl, rfl⟩)
      | (go_at_call 49; refine (htk.out _ HRD5.out).mono ?_; rintro e w7 ⟨rfl, hr7, hg7⟩; have HV7 := Lib.hid (HV5.out.grown hg7 (by intro e; cases e; omega)); have c1 := (HV7.out.cell 0).trans (show _ = some (Value.int .i64 5) from rfl)))
        refine wp_goto ?_
        show ∃ n', n' < n ∧ WJ res w R L 1 n' _ _
        have hws := H.out.push hR HFS.out H2'.out HND.out HOUT.out (by rw [← HD.out]; exact HT5.out) (HK0.out _ rfl) (by rw [← HD.out]; exact HO5.out) (by rw [← HD.out]; exact HN5.out) HS.out H.out.len
        have hT : Tch w6 w7 [R, w.heap.size + 1] := (Tch.of_grown hg7).mono (by simp)
        have hws2 := hws.keep hT hR hr7 HV7.out rfl (by have := H.out.len; have := HYL.out; omega) (m' := y.length) HYL.out
        exact ⟨8 * y.length + 1, by have := HN.out; have := HYL.out; omega, .inr ⟨_, _, _, _, _, _, frW_of, .inl ⟨rfl, hws2, by rw [HRES.out, opened_value HS.out HX1.out]; exact congrArg _ HX2.out, rfl⟩⟩⟩
      · have HK0 : Hid (∀ x : Nat, x = 6 → x = 5 ∨ x = 6) := fun x e => .inr e
        have hV : Arr wr (w.heap.size + 1) 30 [.int .i64 6, .string ⟨#[]⟩, .int .u64 0, .slice none 0 0, .slice none 0 0] := H.out.vbl
        have hls : Hid (∀ W, Calls Tryd.prog 50 #[.int .i64 6] W fun e w' => e = .returned (.int .u8 ((lastF 6).toNat : Int)) ∧ w' = W) := HLS.out
        have htk : Hid (∀ W, RdAt W R ys → Calls Tryd.prog 49 #[.pointer (some ⟨R, 0, none⟩), .int .u8 ((lastF 6).toNat : Int)] W fun e w' => e = .returned (.bool false) ∧ RdAt w' R y ∧ W.grownBy w' (some R)) := fun W hW => by have := take_any R (lastF 6) ys W hW; rw [htk1, htk2] at this; exact this
        have HX1 := Lib.hid htk1
        have HX2 := Lib.hid htk2
        clear htk1 htk2
        go_upto_region 13 with (first
      | ((with_reducible show wpList _ _ _ (⟨some 24, _, _, _, _, _⟩ :: _) _ _); go_loud (refine wl_load rfl 30 _ rfl (w.heap.size + 1) 0 rfl 30 _ [.int .i64 6, .string ⟨#[]⟩, .int .u64 0, .slice none 0 0, .slice none 0 0] hV (fun j v hj => by rw [Nat.zero_add]; exact hj) _ Tryd.underlying30 rfl (by kernel_rfl) ?_))
      | (at_builtin; go_loud (refine wl_append_5 rfl (.tmp 23) (.tmp 25) rfl (w.heap.size + 2) d _ _ (H2.out.alloc _) rfl _ _ [.int .i64 6, .string ⟨#[]⟩, .int .u64 0, .slice none 0 0, .slice none 0 0] rfl (by simp [Value.oneCell']) rfl (Arr.new _ _ _) (by omega) (by have := HSZ.out; simp; omega) ?_; intro v5 w5 ho5 ht5 hn5; obtain ⟨a5, c5, rfl⟩ := row_n ho5; have HT5 := Lib.hid ((Tch.of_below ((Below.refl _ _).alloc (Nat.le_refl _) _) _).trans ht5); have HO5 := Lib.hid ho5; have HV5 := Lib.hid (HT5.out.arr hV (fun e => by have := HLO.out _ e; omega)); have c0 := (HV5.out.cell 0).trans (show _ = some (Value.int .i64 6) from rfl); have HRD5 := Lib.hid (HT5.out.rd HRD.out (fun b hb => by have := HLO.out b hb; omega)); have HN5 : Hid (∀ b, Value.ownBlock (.slice a5 (d + 1) c5) = some b → Value.ownBlock (.slice a0 d cc) = some b ∨ wr.heap.size ≤ b) := (fun b hb => (hn5 b hb).imp id (fun h => by simp at h; omega)); clear ho5 ht5 hn5))
      | (go_at_call 50; refine (hls.out _).mono ?_; rintro e w6 ⟨rfl, rfl⟩)
      | (go_at_call 49; refine (htk.out _ HRD5.out).mono ?_; rintro e w7 ⟨rfl, hr7, hg7⟩; have HV7 := Lib.hid (HV5.out.grown hg7 (by intro e; cases e; omega)); have c1 := (HV7.out.cell 0).trans (show _ = some (Value.int .i64 6) from rfl)))
        have hws := H.out.push hR HFS.out H2'.out HND.out HOUT.out (by rw [← HD.out]; exact HT5.out) (HK0.out _ rfl) (by rw [← HD.out]; exact HO5.out) (by rw [← HD.out]; exact HN5.out) HS.out H.out.len
        have hT : Tch w6 w7 [R, w.heap.size + 1] := (Tch.of_grown hg7).mono (by simp)
        have hws2 := hws.keep hT hR hr7 HV7.out rfl (by have := H.out.len; have := HYL.out; omega) (m' := y.length) HYL.out
        refine wp_label ?_
        rename_i hK
        refine hK _ _ (wp_seq ?_)
        exact pass5 res w R L n hR hL _ _ _ _ _ _ rfl frW_of D ⟨6, [], []⟩ S y _ rfl hws2 (by rw [HRES.out, opened_member HS.out HX1.out]; exact congrArg _ HX2.out) (by have := HN.out; have := HYL.out; omega)
end Go.Proofs.YtiadfijeglbdlaaDoor

namespace Go.Proofs.YtiadfijeglbdlaaDoor
open Go.RowKit

structure Inv18 (w w17 : World) (R n1 c1 : Nat) (a1 : Option Addr) (vc : List Value) (b1 : Bool) (L : Nat → Bool) (v59 v60 v61 v62 v63 v64 v65 v3 : Value) (wx : World) : Prop where
  t0 : L 0 = true → v59 = .agg vc.toArray
  t1 : L 1 = true → v60 = .pointer (some ⟨R, 0, none⟩)
  t2 : L 2 = true → v61 = .pointer (some ⟨R, 0, none⟩)
  t3 : L 3 = true → v62 = .pointer (some ⟨R, 0, none⟩)
  t4 : L 4 = true → v63 = .slice a1 n1 c1
  t5 : L 5 = true → v64 = .int .i64 (n1 : Int)
  t6 : L 6 = true → v65 = .bool b1
  t8 : L 8 = true → v3 = .bool b1
  aV : Arr wx (w.heap.size + 1) 30 vc
  aR : Arr wx R 69 [.slice a1 n1 c1]
  aG : ∃ zs, Arr wx w.heap.size 30 zs ∧ zs.length = 5 ∧ (L 7 = true → zs = vc)
  gw : w17.grownBy wx (some w.heap.size)

theorem wp_frW {R g : Nat} {ov tp : Value} {a : Act} {c : Code} {Q : Exit → Act → World → Prop} {W : World} (h : FrW R g ov tp a) (hk : ∀ a, FrW R g ov tp a → c.wp Tryd.prog Q a W) : c.wp Tryd.prog Q a W := hk a h
set_option maxRecDepth 100000 in
set_option maxHeartbeats 6400000 in
theorem pass2nil (res : Option JV) (w : World) (R L n : Nat) (hR : R < w.heap.size) (_hL : L ≤ 1048576) (ov tp : Value) (a : Act) (wr : World) (r Y : Code) (hf : findLabel (bodyC Tryd.f29) 2 = some (.seq .skip (.seq r Y))) (hfr : FrW R w.heap.size ov tp a) (D : Nat → Prop) (v : JV) (ys : List UInt8) (vc : List Value) (hv : SV D wr v vc) (h : WS w R L D [] ys (ys.length + 1) ov vc wr) (hres : res = doneF [] v ys) :
    r.wp Tryd.prog (Exit.then (Y.wp Tryd.prog (WQ res w R L n)) (WQ res w R L n)) a wr := by
  unfold bodyC Tryd.f29 at hf
  change some (Code.seq Code.skip (Code.seq _ _)) = _ at hf
  cases hf
  obtain ⟨u, rfl⟩ := hfr
  obtain ⟨css, bl, -, h2, -, -⟩ := h.opn
  obtain ⟨a0, cc, hov⟩ := row_n h2
  subst hov
  clear h2
  have hbl := Lib.hid (blanks_any R ys wr h.rd)
  have VL := Lib.hid h.vlen
  have hV := Lib.hid h.vbl
  have hG := Lib.hid h.res
  have HGB := Lib.hid h.gb
  have HDL := Lib.hid h.dlo
  have ONE : Hid (∀ u ∈ vc, u.oneCell' = true) := pv_one_cell (sv_pv v vc hv)
  have HV := Lib.hid hv
  obtain ⟨y, hy⟩ : ∃ y, y = blanksF ys := ⟨_, rfl⟩
  rw [← hy] at hbl
  have HRES : Hid (res = if y = [] then some v else none) := by show _ = _; rw [hres, hy]; rfl
  clear h hv hres hy
  go_upto_region 18 with (go_at_call 52; refine hbl.out.mono ?_; rintro e w17 ⟨rfl, hr17, hg17⟩)
  obtain ⟨a1, c1, hR17, hX17⟩ := hr17
  have hG17 := hG.out.grown hg17 (by intro e; cases e; omega)
  have hV17 := hV.out.grown hg17 (by intro e; cases e; omega)
  have HG17 := Lib.hid hg17
  obtain ⟨b1, hb1⟩ : ∃ b1, b1 = decide (y = []) := ⟨_, rfl⟩
  generalize hn1 : y.length = n1 at hR17
  have hnb : ((n1 : Int) == 0) = b1 := by
    rw [hb1, ← hn1]
    cases y with
    | nil => rfl
    | cons c r => simp only [List.length_cons]; rw [decide_eq_false (by simp)]; exact beq_eq_false_iff_ne.2 (by omega)
  have HB := Lib.hid hb1
  clear hb1 hn1 hX17 hg17
  refine wp_frW frW_of ?_
  rintro a ⟨u, rfl⟩
  refine wp_region_steps [[], [], [1], [2], [3], [4], [5], [0], [6, 7]] (by kernel_rfl) (by kernel_rfl) (fun L a wx => ∃ v59 v60 v61 v62 v63 v64 v65 v3, a = ⟨#[.pointer (some ⟨R, 0, none⟩), u 1, .pointer (some ⟨w.heap.size, 0, none⟩), v3, (.slice a0 0 cc), tp, .pointer (some ⟨w.heap.size + 1, 0, none⟩), u 7, u 8, u 9, u 10, u 11, u 12, u 13, u 14, u 15, u 16, u 17, u 18, u 19, u 20, u 21, u 22, u 23, u 24, u 25, u 26, u 27, u 28, u 29, u 30, u 31, u 32, u 33, u 34, u 35, u 36, u 37, u 38, u 39, u 40, u 41, u 42, u 43, u 44, u 45, u 46, u 47, u 48, u 49, u 50, u 51, u 52, u 53, u 54, u 55, u 56, u 57, u 58, v59, v60, v61, v62, v63, v64, v65, u 66, u 67, u 68, u 69, u 70, u 71, u 72, u 73, u 74, u 75, u 76, u 77, u 78, u 79, u 80, u 81, u 82, u 83, u 84, u 85, u 86, u 87, u 88, u 89, u 90, u 91, u 92, u 93, u 94, u 95, u 96, u 97], []⟩ ∧ Inv18 w w17 R n1 c1 a1 vc b1 L v59 v60 v61 v62 v63 v64 v65 v3 wx) ?_ ⟨?_, ?_, ?_, ?_, ?_, ?_, ?_, ?_, ?_, trivial⟩ ?_
  · refine ⟨_, _, _, _, _, _, _, _, rfl, ⟨?_, ?_, ?_, ?_, ?_, ?_, ?_, ?_, hV17.drew, hR17.drew, ⟨_, hG17.drew, rfl, fun h => absurd h (by decide)⟩, ⟨rfl, rfl, rfl, Nat.le_refl _, fun _ _ _ => rfl⟩⟩⟩ <;> (intro h; exact absurd h (by decide))
  · rintro L a wx ⟨v59, v60, v61, v62, v63, v64, v65, v3, rfl, hI⟩ hL hdep hcl K hK
    refine ow_load 30 _ rfl (w.heap.size + 1) 0 rfl 30 vc vc hI.aV (fun j v hj => by rw [Nat.zero_add]; exact hj) _ Tryd.underlying30 rfl (by rw [VL.out]; kernel_rfl) ?_
    exact hK _ _ ⟨_, v60, v61, v62, v63, v64, v65, v3, rfl, ⟨fun _ => rfl, hI.t1, hI.t2, hI.t3, hI.t4, hI.t5, hI.t6, hI.t8, hI.aV, hI.aR, hI.aG, hI.gw⟩⟩
  · rintro L a wx ⟨v59, v60, v61, v62, v63, v64, v65, v3, rfl, hI⟩ hL hdep hcl K hK
    go_simp
    exact hK _ _ ⟨v59, _, v61, v62, v63, v64, v65, v3, rfl, ⟨hI.t0, fun _ => rfl, hI.t2, hI.t3, hI.t4, hI.t5, hI.t6, hI.t8, hI.aV, hI.aR, hI.aG, hI.gw⟩⟩
  · rintro L a wx ⟨v59, v60, v61, v62, v63, v64, v65, v3, rfl, hI⟩ hL hdep hcl K hK
    obtain rfl := hI.t1 (hdep 1 (by decide))
    go_simp
    exact hK _ _ ⟨v59, _, _, v62, v63, v64, v65, v3, rfl, ⟨hI.t0, hI.t1, fun _ => rfl, hI.t3, hI.t4, hI.t5, hI.t6, hI.t8, hI.aV, hI.aR, hI.aG, hI.gw⟩⟩
  · rintro L a wx ⟨v59, v60, v61, v62, v63, v64, v65, v3, rfl, hI⟩ hL hdep hcl K hK
    obtain rfl := hI.t2 (hdep 2 (by decide))
    go_simp
    exact hK _ _ ⟨v59, v60, _, _, v63, v64, v65, v3, rfl, ⟨hI.t0, hI.t1, hI.t2, fun _ => rfl, hI.t4, hI.t5, hI.t6, hI.t8, hI.aV, hI.aR, hI.aG, hI.gw⟩⟩
  · rintro L a wx ⟨v59, v60, v61, v62, v63, v64, v65, v3, rfl, hI⟩ hL hdep hcl K hK
    obtain rfl := hI.t3 (hdep 3 (by decide))
    have c0 := (hI.aR.cell 0).trans (show _ = some (Value.slice a1 n1 c1) from rfl)
    go_simp
    exact hK _ _ ⟨v59, v60, v61, _, _, v64, v65, v3, rfl, ⟨hI.t0, hI.t1, hI.t2, hI.t3, fun _ => rfl, hI.t5, hI.t6, hI.t8, hI.aV, hI.aR, hI.aG, hI.gw⟩⟩
  · rintro L a wx ⟨v59, v60, v61, v62, v63, v64, v65, v3, rfl, hI⟩ hL hdep hcl K hK
    obtain rfl := hI.t4 (hdep 4 (by decide))
    go_simp
    exact hK _ _ ⟨v59, v60, v61, v62, _, _, v65, v3, rfl, ⟨hI.t0, hI.t1, hI.t2, hI.t3, hI.t4, fun _ => rfl, hI.t6, hI.t8, hI.aV, hI.aR, hI.aG, hI.gw⟩⟩
  · rintro L a wx ⟨v59, v60, v61, v62, v63, v64, v65, v3, rfl, hI⟩ hL hdep hcl K hK
    obtain rfl := hI.t5 (hdep 5 (by decide))
    go_simp
    exact hK _ _ ⟨v59, v60, v61, v62, v63, _, _, v3, rfl, ⟨hI.t0, hI.t1, hI.t2, hI.t3, hI.t4, hI.t5, fun _ => rfl, hI.t8, hI.aV, hI.aR, hI.aG, hI.gw⟩⟩
  · rintro L a wx ⟨v59, v60, v61, v62, v63, v64, v65, v3, rfl, hI⟩ hL hdep hcl K hK
    obtain rfl := hI.t0 (hdep 0 (by decide))
    obtain ⟨zs, z1, z2, z3⟩ := hI.aG
    refine ow_store 30 _ _ rfl w.heap.size 0 rfl vc rfl 30 zs z1 (by rw [VL.out]; kernel_rfl) (by rw [VL.out, z2]; omega) ONE.out ?_
    intro w' hA hg hs
    rw [whole_store _ _ (by rw [z2, VL.out])] at hA
    exact hK _ _ ⟨_, v60, v61, v62, v63, v64, v65, v3, rfl, ⟨hI.t0, hI.t1, hI.t2, hI.t3, hI.t4, hI.t5, hI.t6, hI.t8, hI.aV.grown hg (by simp), hI.aR.grown hg (by intro e; cases e; omega), ⟨vc, hA, VL.out, fun _ => rfl⟩, gb_trans hI.gw hg⟩⟩
  · rintro L a wx ⟨v59, v60, v61, v62, v63, v64, v65, v3, rfl, hI⟩ hL hdep hcl K hK
    obtain rfl := hI.t6 (hdep 6 (by decide))
    go_simp
    exact hK _ _ ⟨v59, v60, v61, v62, v63, v64, _, _, rfl, ⟨hI.t0, hI.t1, hI.t2, hI.t3, hI.t4, hI.t5, hI.t6, fun _ => rfl, hI.aV, hI.aR, hI.aG, hI.gw⟩⟩
  · rintro a wx ⟨v59, v60, v61, v62, v63, v64, v65, v3, rfl, hI⟩
    obtain rfl := hI.t8 rfl
    obtain ⟨zs, z1, z2, z3⟩ := hI.aG
    obtain rfl := z3 rfl
    have hgw := hI.gw
    clear hI
    go_wp2
    unfold WQ
    try simp only [jumps]
    refine end_cell2 rfl w.heap.size 30 _ _ _ rfl z1 Tryd.underlying30 rfl (by rw [VL.out]; kernel_rfl) rfl rfl ?_
    have hgb := gb_trans HGB.out HG17.out
    have hgf : w.grownBy wx (some R) := gb_new hgb hgw (Nat.le_refl _)
    refine ⟨hgf, zs, b1, rfl, VL.out, ONE.out, ?_⟩
    rw [HRES.out, HB.out]
    by_cases hy : y = []
    · rw [if_pos hy]
      refine ⟨by simp [hy], sv_to (fun b hd _ => by have := (HDL.out b hd).1; omega) ?_ v zs HV.out⟩
      refine Stay.trans (Stay.of_grown HG17.out (fun k hk hd => by cases hk; have := (HDL.out _ hd).1; omega)) HG17.out.size (Stay.of_grown hgw (fun k hk hd => by cases hk; have := (HDL.out _ hd).1; omega))
    · rw [if_neg hy]
      simp [hy]
end Go.Proofs.YtiadfijeglbdlaaDoor
