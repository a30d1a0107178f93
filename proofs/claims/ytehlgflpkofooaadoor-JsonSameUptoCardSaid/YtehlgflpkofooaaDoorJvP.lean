/-
  Plain: the reader that does not ask whether strings are UTF-8 (the program asks it of the value); as much fuel as the text is long serves. Conditions: those in each statement.
-/
import Derived.Test.YtehlgflpkofooaaDoorJvN
import Derived.Test.YtehlgflpkofooaaDoorJsonU
namespace Go.Proofs.YtehlgflpkofooaaDoor
open Go.RowKit

/-- a string; whether it is UTF-8 is not asked -/
def stringG (b : List UInt8) : Option (List UInt8 × List UInt8) :=
  match mustF [34] b with
  | none => none
  | some r => strF (r.length + 1) r
mutual
/-- a value, that may have so many in one another -/
def valueG : Nat → Nat → List UInt8 → Option (JV × List UInt8)
  | 0, _, _ => none
  | f + 1, most, b0 =>
    match blanksF b0 with
    | [] => none
    | c :: r =>
      if c = 110 then (mustF [110, 117, 108, 108] (c :: r)).map fun q => (JV.mk 0 [] 0 [] [], q)
      else if c = 102 then (mustF [102, 97, 108, 115, 101] (c :: r)).map fun q => (JV.mk 1 [] 0 [] [], q)
      else if c = 116 then (mustF [116, 114, 117, 101] (c :: r)).map fun q => (JV.mk 2 [] 0 [] [], q)
      else if c = 34 then (stringG (c :: r)).map fun (s, q) => (JV.mk 4 s 0 [] [], q)
      else if c = 91 then
        if most = 0 then none
        else match blanksF r with
          | [] => none
          | d :: r1 => if d = 93 then some (JV.mk 5 [] 0 [] [], r1) else (itemsG f (most - 1) (d :: r1)).map fun (l, q) => (JV.mk 5 [] 0 l [], q)
      else if c = 123 then
        if most = 0 then none
        else match blanksF r with
          | [] => none
          | d :: r1 => if d = 125 then some (JV.mk 6 [] 0 [] [], r1) else (membersG f (most - 1) (d :: r1)).map fun (l, ks, q) => (JV.mk 6 [] 0 l ks, q)
      else (numF (c :: r)).map fun (n, q) => (JV.mk 3 [] n [] [], q)
/-- items of a list, up to its end -/
def itemsG : Nat → Nat → List UInt8 → Option (List JV × List UInt8)
  | 0, _, _ => none
  | f + 1, most, b =>
    match valueG f most b with
    | none => none
    | some (v, q) =>
      match blanksF q with
      | [] => none
      | c :: r => if c = 93 then some ([v], r) else if c = 44 then (itemsG f most r).map fun (l, q) => (v :: l, q) else none
/-- members of an object, up to its end -/
def membersG : Nat → Nat → List UInt8 → Option (List JV × List (List UInt8) × List UInt8)
  | 0, _, _ => none
  | f + 1, most, b =>
    match stringG (blanksF b) with
    | none => none
    | some (k, b1) =>
      match mustF [58] (blanksF b1) with
      | none => none
      | some b2 =>
        match valueG f most b2 with
        | none => none
        | some (v, q) =>
          match blanksF q with
          | [] => none
          | c :: r => if c = 125 then some ([v], [k], r) else if c = 44 then (membersG f most r).map fun (l, ks, q) => (v :: l, k :: ks, q) else none
end
theorem stringG_len (b s r : List UInt8) (h : stringG b = some (s, r)) : r.length < b.length := by
  unfold stringG at h
  cases hm : mustF [34] b with
  | none => rw [hm] at h; cases h
  | some t =>
    have h1 := must_len _ _ _ hm
    rw [hm] at h
    have := str_len _ _ _ _ h
    omega
/-- what is left is shorter -/
theorem valueG_len : ∀ f : Nat, (∀ most b x r, valueG f most b = some (x, r) → r.length < b.length) ∧ (∀ most b l r, itemsG f most b = some (l, r) → r.length < b.length) ∧ (∀ most b l ks r, membersG f most b = some (l, ks, r) → r.length < b.length) := by
  intro f
  induction f with
  | zero => exact ⟨fun _ _ _ _ h => by simp [valueG] at h, fun _ _ _ _ h => by simp [itemsG] at h, fun _ _ _ _ _ h => by simp [membersG] at h⟩
  | succ f ih =>
    obtain ⟨ihv, ihi, ihm⟩ := ih
    refine ⟨?_, ?_, ?_⟩
    · intro most b x r h
      have hbl := blanks_len b
      unfold valueG at h
      cases hb : blanksF b with
      | nil => rw [hb] at h; cases h
      | cons c t =>
        rw [hb] at h hbl
        rw [List.length_cons] at hbl
        have no : ∀ (s : List UInt8) (k : Int), 0 < s.length → (mustF s (c :: t)).map (fun q => (JV.mk k [] 0 [] [], q)) = some (x, r) → r.length < b.length := by
          intro s k hs e
          cases hm : mustF s (c :: t) with
          | none => rw [hm] at e; cases e
          | some z =>
            have := must_len _ _ _ hm
            rw [hm] at e
            cases e
            rw [List.length_cons] at this
            omega
        simp only at h
        split at h
        · exact no _ _ (by decide) h
        · split at h
          · exact no _ _ (by decide) h
          · split at h
            · exact no _ _ (by decide) h
            · split at h
              · obtain ⟨s, hs⟩ := map_len_u (k := fun s => JV.mk 4 s 0 [] []) h
                have := stringG_len _ _ _ hs
                rw [List.length_cons] at this
                omega
              · have htl := blanks_len t
                split at h
                · split at h
                  · cases h
                  · cases ht : blanksF t with
                    | nil => rw [ht] at h; cases h
                    | cons d t1 =>
                      rw [ht] at h htl
                      rw [List.length_cons] at htl
                      simp only at h
                      split at h
                      · cases h; omega
                      · obtain ⟨l, hl⟩ := map_len_u (k := fun l => JV.mk 5 [] 0 l []) h
                        have := ihi _ _ _ _ hl
                        rw [List.length_cons] at this
                        omega
                · split at h
                  · split at h
                    · cases h
                    · cases ht : blanksF t with
                      | nil => rw [ht] at h; cases h
                      | cons d t1 =>
                        rw [ht] at h htl
                        rw [List.length_cons] at htl
                        simp only at h
                        split at h
                        · cases h; omega
                        · cases hm : membersG f (most - 1) (d :: t1) with
                          | none => rw [hm] at h; cases h
                          | some z =>
                            obtain ⟨l, ks, r1⟩ := z
                            rw [hm] at h
                            cases h
                            have := ihm _ _ _ _ _ hm
                            rw [List.length_cons] at this
                            dsimp only
                            omega
                  · obtain ⟨n, hn⟩ := map_len_u (k := fun n => JV.mk 3 [] n [] []) h
                    have := num_len _ _ _ hn
                    rw [List.length_cons] at this
                    omega
    · intro most b l r h
      unfold itemsG at h
      cases hv : valueG f most b with
      | none => rw [hv] at h; cases h
      | some z =>
        obtain ⟨v, t⟩ := z
        have lv := ihv _ _ _ _ hv
        have htl := blanks_len t
        rw [hv] at h
        simp only at h
        cases ht : blanksF t with
        | nil => rw [ht] at h; cases h
        | cons c t1 =>
          rw [ht] at h htl
          rw [List.length_cons] at htl
          simp only at h
          split at h
          · cases h; omega
          · split at h
            · obtain ⟨l1, hl⟩ := map_len_u (k := fun l => v :: l) h
              have := ihi _ _ _ _ hl
              omega
            · cases h
    · intro most b l ks r h
      have hb0 := blanks_len b
      unfold membersG at h
      cases hk : stringG (blanksF b) with
      | none => rw [hk] at h; cases h
      | some z =>
        obtain ⟨k, b1⟩ := z
        have hk1 := stringG_len _ _ _ hk
        have hb1 := blanks_len b1
        rw [hk] at h
        simp only at h
        cases hm : mustF [58] (blanksF b1) with
        | none => rw [hm] at h; cases h
        | some b2 =>
          have hm1 := must_len _ _ _ hm
          rw [hm] at h
          simp only at h
          cases hv : valueG f most b2 with
          | none => rw [hv] at h; cases h
          | some z =>
            obtain ⟨v, t⟩ := z
            have lv := ihv _ _ _ _ hv
            have htl := blanks_len t
            rw [hv] at h
            simp only at h
            cases ht : blanksF t with
            | nil => rw [ht] at h; cases h
            | cons c t1 =>
              rw [ht] at h htl
              rw [List.length_cons] at htl
              simp only at h
              split at h
              · cases h; omega
              · split at h
                · cases hi : membersG f most t1 with
                  | none => rw [hi] at h; cases h
                  | some z =>
                    obtain ⟨l1, ks1, r1⟩ := z
                    rw [hi] at h
                    cases h
                    have := ihm _ _ _ _ _ hi
                    dsimp only
                    omega
                · cases h
/-- more fuel than the text is long tells nothing else -/
theorem valueG_fuel : ∀ f : Nat, (∀ most b g, 2 * b.length + 1 ≤ f → f ≤ g → valueG g most b = valueG f most b) ∧ (∀ most b g, 2 * b.length + 2 ≤ f → f ≤ g → itemsG g most b = itemsG f most b) ∧ (∀ most b g, 2 * b.length + 2 ≤ f → f ≤ g → membersG g most b = membersG f most b) := by
  intro f
  induction f with
  | zero => exact ⟨fun _ _ _ h => by omega, fun _ _ _ h => by omega, fun _ _ _ h => by omega⟩
  | succ f ih =>
    obtain ⟨ihv, ihi, ihm⟩ := ih
    refine ⟨?_, ?_, ?_⟩
    · intro most b g hf hg
      obtain ⟨g, rfl⟩ : ∃ g', g = g' + 1 := ⟨g - 1, by omega⟩
      have hbl := blanks_len b
      unfold valueG
      cases hb : blanksF b with
      | nil => rfl
      | cons c t =>
        rw [hb, List.length_cons] at hbl
        have htl := blanks_len t
        simp only
        cases ht : blanksF t with
        | nil => rfl
        | cons d t1 =>
          rw [ht] at htl
          simp only
          rw [ihi (most - 1) (d :: t1) g (by omega) (by omega), ihm (most - 1) (d :: t1) g (by omega) (by omega)]
    · intro most b g hf hg
      obtain ⟨g, rfl⟩ : ∃ g', g = g' + 1 := ⟨g - 1, by omega⟩
      unfold itemsG
      rw [ihv most b g (by omega) (by omega)]
      cases hv : valueG f most b with
      | none => rfl
      | some z =>
        obtain ⟨v, t⟩ := z
        have lv := (valueG_len f).1 _ _ _ _ hv
        have htl := blanks_len t
        simp only
        cases ht : blanksF t with
        | nil => rfl
        | cons c t1 =>
          rw [ht, List.length_cons] at htl
          simp only
          rw [ihi most t1 g (by omega) (by omega)]
    · intro most b g hf hg
      obtain ⟨g, rfl⟩ : ∃ g', g = g' + 1 := ⟨g - 1, by omega⟩
      have hb0 := blanks_len b
      unfold membersG
      cases hk : stringG (blanksF b) with
      | none => rfl
      | some z =>
        obtain ⟨k, b1⟩ := z
        have hk1 := stringG_len _ _ _ hk
        have hb1 := blanks_len b1
        simp only
        cases hm : mustF [58] (blanksF b1) with
        | none => rfl
        | some b2 =>
          have hm1 := must_len _ _ _ hm
          simp only
          rw [ihv most b2 g (by omega) (by omega)]
          cases hv : valueG f most b2 with
          | none => rfl
          | some z =>
            obtain ⟨v, t⟩ := z
            have lv := (valueG_len f).1 _ _ _ _ hv
            have htl := blanks_len t
            simp only
            cases ht : blanksF t with
            | nil => rfl
            | cons c t1 =>
              rw [ht, List.length_cons] at htl
              simp only
              rw [ihm most t1 g (by omega) (by omega)]

mutual
/-- all its strings are UTF-8 -/
def goodF : JV → Bool
  | .mk _ s _ l ks => utf8F s && ks.all utf8F && goodL l
def goodL : List JV → Bool
  | [] => true
  | v :: r => goodF v && goodL r
end
mutual
theorem good_may : ∀ (v : JV) (m : Nat), mayF v m = true → goodF v = true
  | .mk k s n l ks, m, h => by
    unfold mayF headF at h
    simp only [Bool.and_eq_true] at h
    unfold goodF
    rw [h.1.1.1.1.2, h.1.1.2, good_mayL l (m - 1) h.2]
    rfl
theorem good_mayL : ∀ (l : List JV) (m : Nat), mayL l m = true → goodL l = true
  | [], _, _ => rfl
  | v :: r, m, h => by
    unfold mayL at h
    rw [Bool.and_eq_true] at h
    unfold goodL
    rw [good_may v m h.1, good_mayL r m h.2]
    rfl
end
theorem string_G {b s r : List UInt8} (h : stringF b = some (s, r)) : stringG b = some (s, r) := by
  unfold stringF at h
  unfold stringG
  cases hm : mustF [34] b with
  | none => rw [hm] at h; cases h
  | some t =>
    rw [hm] at h
    simp only at h ⊢
    cases hs : strF (t.length + 1) t with
    | none => rw [hs] at h; cases h
    | some z =>
      obtain ⟨s1, r1⟩ := z
      rw [hs] at h
      simp only at h
      split at h
      · exact h
      · cases h
theorem string_F {b s r : List UInt8} (h : stringG b = some (s, r)) (hu : utf8F s = true) : stringF b = some (s, r) := by
  unfold stringG at h
  unfold stringF
  cases hm : mustF [34] b with
  | none => rw [hm] at h; cases h
  | some t =>
    rw [hm] at h
    simp only at h ⊢
    rw [h]
    simp only
    rw [if_pos hu]
theorem map_eq_some {α β : Type} {o o' : Option (α × List UInt8)} {k : α → β} {x : β} {r : List UInt8} (h : o.map (fun (s, t) => (k s, t)) = some (x, r)) (hh : ∀ s, k s = x → o = some (s, r) → o' = some (s, r)) : o'.map (fun (s, t) => (k s, t)) = some (x, r) := by
  cases o with
  | none => cases h
  | some z =>
    obtain ⟨s, t⟩ := z
    simp only [Option.map_some, Option.some.injEq, Prod.mk.injEq] at h
    obtain ⟨h1, rfl⟩ := h
    rw [hh s h1 rfl]
    simp only [Option.map_some, h1]
/-- both readers tell the same of strings that are UTF-8 -/
theorem value_both : ∀ f : Nat,
    (∀ most b v q, (valueF f most b = some (v, q) → valueG f most b = some (v, q)) ∧ (valueG f most b = some (v, q) → goodF v = true → valueF f most b = some (v, q))) ∧
    (∀ most b l q, (itemsF f most b = some (l, q) → itemsG f most b = some (l, q)) ∧ (itemsG f most b = some (l, q) → goodL l = true → itemsF f most b = some (l, q))) ∧
    (∀ most b l ks q, (membersF f most b = some (l, ks, q) → membersG f most b = some (l, ks, q)) ∧ (membersG f most b = some (l, ks, q) → goodL l = true → ks.all utf8F = true → membersF f most b = some (l, ks, q))) := by
  intro f
  induction f with
  | zero => exact ⟨fun _ _ _ _ => ⟨fun h => by simp [valueF] at h, fun h => by simp [valueG] at h⟩, fun _ _ _ _ => ⟨fun h => by simp [itemsF] at h, fun h => by simp [itemsG] at h⟩, fun _ _ _ _ _ => ⟨fun h => by simp [membersF] at h, fun h => by simp [membersG] at h⟩⟩
  | succ f ih =>
    obtain ⟨ihv, ihi, ihm⟩ := ih
    refine ⟨fun most b v q => ?_, fun most b l q => ?_, fun most b l ks q => ?_⟩
    · unfold valueF valueG
      cases hb : blanksF b with
      | nil => exact ⟨fun h => (by cases h), fun h _ => (by cases h)⟩
      | cons c t =>
        simp only
        split
        · exact ⟨id, fun h _ => h⟩
        · split
          · exact ⟨id, fun h _ => h⟩
          · split
            · exact ⟨id, fun h _ => h⟩
            · split
              · refine ⟨fun h => map_eq_some (k := fun s => JV.mk 4 s 0 [] []) h fun s _ hs => string_G hs, fun h hg => map_eq_some (k := fun s => JV.mk 4 s 0 [] []) h fun s hv hs => string_F hs ?_⟩
                subst hv
                unfold goodF at hg
                simp only [Bool.and_eq_true] at hg
                exact hg.1.1
              · split
                · split
                  · exact ⟨id, fun h _ => h⟩
                  · cases ht : blanksF t with
                    | nil => exact ⟨id, fun h _ => h⟩
                    | cons d t1 =>
                      simp only
                      split
                      · exact ⟨id, fun h _ => h⟩
                      · refine ⟨fun h => map_eq_some (k := fun l => JV.mk 5 [] 0 l []) h fun s _ hs => (ihi _ _ _ _).1 hs, fun h hg => map_eq_some (k := fun l => JV.mk 5 [] 0 l []) h fun s hv hs => (ihi _ _ _ _).2 hs ?_⟩
                        subst hv
                        unfold goodF at hg
                        simp only [Bool.and_eq_true] at hg
                        exact hg.2
                · split
                  · split
                    · exact ⟨id, fun h _ => h⟩
                    · cases ht : blanksF t with
                      | nil => exact ⟨id, fun h _ => h⟩
                      | cons d t1 =>
                        simp only
                        split
                        · exact ⟨id, fun h _ => h⟩
                        · constructor
                          · intro h
                            cases hm : membersF f (most - 1) (d :: t1) with
                            | none => rw [hm] at h; cases h
                            | some z =>
                              obtain ⟨l, ks, r1⟩ := z
                              rw [hm] at h
                              rw [(ihm _ _ _ _ _).1 hm]
                              exact h
                          · intro h hg
                            cases hm : membersG f (most - 1) (d :: t1) with
                            | none => rw [hm] at h; cases h
                            | some z =>
                              obtain ⟨l, ks, r1⟩ := z
                              rw [hm] at h
                              simp only [Option.map_some, Option.some.injEq, Prod.mk.injEq] at h
                              obtain ⟨rfl, rfl⟩ := h
                              unfold goodF at hg
                              simp only [Bool.and_eq_true] at hg
                              rw [(ihm _ _ _ _ _).2 hm hg.2 hg.1.2]
                              rfl
                  · exact ⟨id, fun h _ => h⟩
    · unfold itemsF itemsG
      constructor
      · intro h
        cases hv : valueF f most b with
        | none => rw [hv] at h; cases h
        | some z =>
          obtain ⟨v, t⟩ := z
          rw [hv] at h
          rw [(ihv _ _ _ _).1 hv]
          simp only at h ⊢
          cases ht : blanksF t with
          | nil => rw [ht] at h; cases h
          | cons c t1 =>
            rw [ht] at h
            simp only at h ⊢
            split at h
            · rename_i h1
              rw [if_pos h1]
              exact h
            · rename_i h1
              rw [if_neg h1]
              split at h
              · rename_i h2
                rw [if_pos h2]
                exact map_eq_some (k := fun l => v :: l) h fun s _ hs => (ihi _ _ _ _).1 hs
              · cases h
      · intro h hg
        cases hv : valueG f most b with
        | none => rw [hv] at h; cases h
        | some z =>
          obtain ⟨v, t⟩ := z
          rw [hv] at h
          simp only at h
          cases ht : blanksF t with
          | nil => rw [ht] at h; cases h
          | cons c t1 =>
            rw [ht] at h
            simp only at h
            have hgv : goodF v = true := by
              split at h
              · cases h
                unfold goodL at hg
                rw [Bool.and_eq_true] at hg
                exact hg.1
              · split at h
                · cases hi : itemsG f most t1 with
                  | none => rw [hi] at h; cases h
                  | some z =>
                    rw [hi] at h
                    cases h
                    unfold goodL at hg
                    rw [Bool.and_eq_true] at hg
                    exact hg.1
                · cases h
            rw [(ihv _ _ _ _).2 hv hgv]
            simp only
            rw [ht]
            simp only
            split at h
            · rename_i h1
              rw [if_pos h1]
              exact h
            · rename_i h1
              rw [if_neg h1]
              split at h
              · rename_i h2
                rw [if_pos h2]
                refine map_eq_some (k := fun l => v :: l) h fun s hs hi => (ihi _ _ _ _).2 hi ?_
                subst hs
                unfold goodL at hg
                rw [Bool.and_eq_true] at hg
                exact hg.2
              · cases h
    · unfold membersF membersG
      constructor
      · intro h
        cases hk : stringF (blanksF b) with
        | none => rw [hk] at h; cases h
        | some z =>
          obtain ⟨k, b1⟩ := z
          rw [hk] at h
          rw [string_G hk]
          simp only at h ⊢
          cases hm : mustF [58] (blanksF b1) with
          | none => rw [hm] at h; cases h
          | some b2 =>
            rw [hm] at h
            simp only at h ⊢
            cases hv : valueF f most b2 with
            | none => rw [hv] at h; cases h
            | some z =>
              obtain ⟨v, t⟩ := z
              rw [hv] at h
              rw [(ihv _ _ _ _).1 hv]
              simp only at h ⊢
              cases ht : blanksF t with
              | nil => rw [ht] at h; cases h
              | cons c t1 =>
                rw [ht] at h
                simp only at h ⊢
                split at h
                · rename_i h1
                  rw [if_pos h1]
                  exact h
                · rename_i h1
                  rw [if_neg h1]
                  split at h
                  · rename_i h2
                    rw [if_pos h2]
                    cases hi : membersF f most t1 with
                    | none => rw [hi] at h; cases h
                    | some z =>
                      obtain ⟨l1, ks1, r1⟩ := z
                      rw [hi] at h
                      rw [(ihm _ _ _ _ _).1 hi]
                      exact h
                  · cases h
      · intro h hg hks
        cases hk : stringG (blanksF b) with
        | none => rw [hk] at h; cases h
        | some z =>
          obtain ⟨k, b1⟩ := z
          rw [hk] at h
          simp only at h
          cases hm : mustF [58] (blanksF b1) with
          | none => rw [hm] at h; cases h
          | some b2 =>
            rw [hm] at h
            simp only at h
            cases hv : valueG f most b2 with
            | none => rw [hv] at h; cases h
            | some z =>
              obtain ⟨v, t⟩ := z
              rw [hv] at h
              simp only at h
              cases ht : blanksF t with
              | nil => rw [ht] at h; cases h
              | cons c t1 =>
                rw [ht] at h
                simp only at h
                have hgv : goodF v = true ∧ utf8F k = true := by
                  split at h
                  · cases h
                    unfold goodL at hg
                    rw [Bool.and_eq_true] at hg
                    simp only [List.all_cons, Bool.and_eq_true] at hks
                    exact ⟨hg.1, hks.1⟩
                  · split at h
                    · cases hi : membersG f most t1 with
                      | none => rw [hi] at h; cases h
                      | some z =>
                        rw [hi] at h
                        cases h
                        unfold goodL at hg
                        rw [Bool.and_eq_true] at hg
                        simp only [List.all_cons, Bool.and_eq_true] at hks
                        exact ⟨hg.1, hks.1⟩
                    · cases h
                rw [string_F hk hgv.2]
                simp only
                rw [hm]
                simp only
                rw [(ihv _ _ _ _).2 hv hgv.1]
                simp only
                rw [ht]
                simp only
                split at h
                · rename_i h1
                  rw [if_pos h1]
                  exact h
                · rename_i h1
                  rw [if_neg h1]
                  split at h
                  · rename_i h2
                    rw [if_pos h2]
                    cases hi : membersG f most t1 with
                    | none => rw [hi] at h; cases h
                    | some z =>
                      obtain ⟨l1, ks1, r1⟩ := z
                      rw [hi] at h
                      simp only [Option.map_some, Option.some.injEq, Prod.mk.injEq] at h
                      obtain ⟨rfl, rfl, rfl⟩ := h
                      unfold goodL at hg
                      rw [Bool.and_eq_true] at hg
                      simp only [List.all_cons, Bool.and_eq_true] at hks
                      rw [(ihm _ _ _ _ _).2 hi hg.2 hks.2]
                      rfl
                  · cases h
/-- a text's value, asked behind the reading -/
theorem parse_G (b : List UInt8) : parseF b = match valueG (2 * b.length + 2) 8 b with | none => none | some (v, q) => if blanksF q = [] ∧ mayF v 8 = true then some v else none := by
  unfold parseF
  cases hg : valueG (2 * b.length + 2) 8 b with
  | none =>
    cases hf : valueF (2 * b.length + 2) 8 b with
    | none => rfl
    | some z =>
      obtain ⟨v, q⟩ := z
      rw [((value_both _).1 _ _ _ _).1 hf] at hg
      cases hg
  | some z =>
    obtain ⟨v, q⟩ := z
    simp only
    cases hf : valueF (2 * b.length + 2) 8 b with
    | none =>
      simp only
      rw [if_neg]
      rintro ⟨-, h⟩
      rw [((value_both _).1 _ _ _ _).2 hg (good_may v 8 h)] at hf
      cases hf
    | some z =>
      obtain ⟨v2, q2⟩ := z
      rw [((value_both _).1 _ _ _ _).1 hf] at hg
      cases hg
      rfl
end Go.Proofs.YtehlgflpkofooaaDoor
