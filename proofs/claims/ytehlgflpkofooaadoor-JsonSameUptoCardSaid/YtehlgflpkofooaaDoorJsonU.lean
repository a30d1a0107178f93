/-
  JSON: as much fuel as the text is long serves; what is left is shorter. Conditions: those in each statement.
-/
import Derived.Test.YtehlgflpkofooaaDoorJsonT
namespace Go.Proofs.YtehlgflpkofooaaDoor

theorem must_len : ∀ (s b r : List UInt8), mustF s b = some r → r.length + s.length = b.length
  | [], b, r, h => by simp only [mustF] at h; cases h; rfl
  | _ :: _, [], r, h => by simp [mustF] at h
  | c :: s, d :: b, r, h => by
    simp only [mustF] at h
    split at h
    · have := must_len s b r h
      simp only [List.length_cons]
      omega
    · cases h
theorem four_len (b : List UInt8) (n : Nat) (r : List UInt8) (h : fourF b = some (n, r)) : r.length + 4 = b.length := by
  rcases b with _ | ⟨a, _ | ⟨b, _ | ⟨c, _ | ⟨d, t⟩⟩⟩⟩ <;> try (simp [fourF] at h; done)
  simp only [fourF] at h
  split at h
  · cases h
    rfl
  · cases h
theorem str_len : ∀ (f : Nat) (b s r : List UInt8), strF f b = some (s, r) → r.length < b.length := by
  intro f
  induction f with
  | zero => intro b s r h; simp [strF] at h
  | succ f ih =>
    intro b s r h
    have ihm : ∀ (t : List UInt8) (k : List UInt8 → List UInt8), (strF f t).map (fun (s, q) => (k s, q)) = some (s, r) → r.length < t.length := by
      intro t k hk
      cases ht : strF f t with
      | none => rw [ht] at hk; cases hk
      | some z =>
        obtain ⟨s1, r1⟩ := z
        rw [ht] at hk
        cases hk
        exact ih t s1 r ht
    cases b with
    | nil => simp [strF] at h
    | cons c b =>
      unfold strF at h
      rw [List.length_cons]
      split at h
      · cases h
      · split at h
        · cases h
          omega
        · split at h
          · have := ihm b (c :: ·) h
            omega
          · cases b with
            | nil => simp at h
            | cons d b =>
              rw [List.length_cons]
              simp only at h
              split at h
              · cases hf : fourF b with
                | none => rw [hf] at h; cases h
                | some z =>
                  obtain ⟨n, r2⟩ := z
                  have h2 := four_len b n r2 hf
                  rw [hf] at h
                  simp only at h
                  split at h
                  · cases hm : mustF [92, 117] r2 with
                    | none => rw [hm] at h; cases h
                    | some r3 =>
                      have h3 := must_len _ _ _ hm
                      rw [hm] at h
                      simp only at h
                      cases hf2 : fourF r3 with
                      | none => rw [hf2] at h; cases h
                      | some z =>
                        obtain ⟨m, r4⟩ := z
                        have h4 := four_len r3 m r4 hf2
                        rw [hf2] at h
                        simp only at h
                        split at h
                        · have := ihm r4 (runeF (65536 + 1024 * (n - 55296) + (m - 56320)) ++ ·) h
                          omega
                        · cases h
                  · split at h
                    · cases h
                    · have := ihm r2 (runeF n ++ ·) h
                      omega
              · cases ho : oneF d with
                | none => rw [ho] at h; cases h
                | some x =>
                  rw [ho] at h
                  simp only at h
                  have := ihm b (x :: ·) h
                  omega
theorem string_len (b s r : List UInt8) (h : stringF b = some (s, r)) : r.length < b.length := by
  unfold stringF at h
  cases hm : mustF [34] b with
  | none => rw [hm] at h; cases h
  | some t =>
    have h1 := must_len _ _ _ hm
    rw [hm] at h
    simp only at h
    cases hs : strF (t.length + 1) t with
    | none => rw [hs] at h; cases h
    | some z =>
      obtain ⟨s1, r1⟩ := z
      have h2 := str_len _ _ _ _ hs
      rw [hs] at h
      simp only at h
      split at h
      · cases h
        omega
      · cases h
theorem span_len : ∀ b : List UInt8, (spanD b).1.length + (spanD b).2.length = b.length
  | [] => rfl
  | c :: b => by
    have := span_len b
    unfold spanD
    split
    · simp only [List.length_cons]
      omega
    · simp
theorem num_len (b r : List UInt8) (n : Nat) (h : numF b = some (n, r)) : r.length < b.length := by
  have hs := span_len b
  unfold numF at h
  split at h
  · cases h
  · rename_i hne
    have : 0 < (spanD b).1.length := List.length_pos_iff.2 hne
    split at h
    · cases h
    · split at h
      · cases h
        omega
      · cases h
theorem blanks_len : ∀ b : List UInt8, (blanksF b).length ≤ b.length
  | [] => Nat.le_refl _
  | c :: b => by
    unfold blanksF
    split
    · have := blanks_len b
      simp only [List.length_cons]
      omega
    · exact Nat.le_refl _
theorem map_len_u {α β : Type} {o : Option (α × List UInt8)} {k : α → β} {x : β} {r : List UInt8} (h : o.map (fun (s, t) => (k s, t)) = some (x, r)) : ∃ s, o = some (s, r) := by
  cases o with
  | none => cases h
  | some z =>
    obtain ⟨s, t⟩ := z
    cases h
    exact ⟨s, rfl⟩
/-- what is left is shorter -/
theorem value_len : ∀ f : Nat, (∀ most b x r, valueF f most b = some (x, r) → r.length < b.length) ∧ (∀ most b l r, itemsF f most b = some (l, r) → r.length < b.length) ∧ (∀ most b l ks r, membersF f most b = some (l, ks, r) → r.length < b.length) := by
  intro f
  induction f with
  | zero => exact ⟨fun _ _ _ _ h => by simp [valueF] at h, fun _ _ _ _ h => by simp [itemsF] at h, fun _ _ _ _ _ h => by simp [membersF] at h⟩
  | succ f ih =>
    obtain ⟨ihv, ihi, ihm⟩ := ih
    refine ⟨?_, ?_, ?_⟩
    · intro most b x r h
      have hbl := blanks_len b
      unfold valueF at h
      cases hb : blanksF b with
      | nil => rw [hb] at h; cases h
      | cons c t =>
        rw [hb] at h hbl
        rw [List.length_cons] at hbl
        have no : ∀ (s : List UInt8) (k : Int), 0 < s.length → (mustF s (c :: t)).map (fun q => (JV.mk k [] 0 [] [], q)) = some (x, r) → r.length < b.length := by
          intro s k hs e
          cases hm : mustF s (c :: t) with
          | none => rw [hm] at e; cases e
          | some z =>
            have := must_len _ _ _ hm
            rw [hm] at e
            cases e
            rw [List.length_cons] at this
            omega
        simp only at h
        split at h
        · exact no _ _ (by decide) h
        · split at h
          · exact no _ _ (by decide) h
          · split at h
            · exact no _ _ (by decide) h
            · split at h
              · obtain ⟨s, hs⟩ := map_len_u (k := fun s => JV.mk 4 s 0 [] []) h
                have := string_len _ _ _ hs
                rw [List.length_cons] at this
                omega
              · have htl := blanks_len t
                split at h
                · split at h
                  · cases h
                  · cases ht : blanksF t with
                    | nil => rw [ht] at h; cases h
                    | cons d t1 =>
                      rw [ht] at h htl
                      rw [List.length_cons] at htl
                      simp only at h
                      split at h
                      · cases h; omega
                      · obtain ⟨l, hl⟩ := map_len_u (k := fun l => JV.mk 5 [] 0 l []) h
                        have := ihi _ _ _ _ hl
                        rw [List.length_cons] at this
                        omega
                · split at h
                  · split at h
                    · cases h
                    · cases ht : blanksF t with
                      | nil => rw [ht] at h; cases h
                      | cons d t1 =>
                        rw [ht] at h htl
                        rw [List.length_cons] at htl
                        simp only at h
                        split at h
                        · cases h; omega
                        · cases hm : membersF f (most - 1) (d :: t1) with
                          | none => rw [hm] at h; cases h
                          | some z =>
                            obtain ⟨l, ks, r1⟩ := z
                            rw [hm] at h
                            cases h
                            have := ihm _ _ _ _ _ hm
                            rw [List.length_cons] at this
                            dsimp only
                            omega
                  · obtain ⟨n, hn⟩ := map_len_u (k := fun n => JV.mk 3 [] n [] []) h
                    have := num_len _ _ _ hn
                    rw [List.length_cons] at this
                    omega
    · intro most b l r h
      unfold itemsF at h
      cases hv : valueF f most b with
      | none => rw [hv] at h; cases h
      | some z =>
        obtain ⟨v, t⟩ := z
        have lv := ihv _ _ _ _ hv
        have htl := blanks_len t
        rw [hv] at h
        simp only at h
        cases ht : blanksF t with
        | nil => rw [ht] at h; cases h
        | cons c t1 =>
          rw [ht] at h htl
          rw [List.length_cons] at htl
          simp only at h
          split at h
          · cases h; omega
          · split at h
            · obtain ⟨l1, hl⟩ := map_len_u (k := fun l => v :: l) h
              have := ihi _ _ _ _ hl
              omega
            · cases h
    · intro most b l ks r h
      have hb0 := blanks_len b
      unfold membersF at h
      cases hk : stringF (blanksF b) with
      | none => rw [hk] at h; cases h
      | some z =>
        obtain ⟨k, b1⟩ := z
        have hk1 := string_len _ _ _ hk
        have hb1 := blanks_len b1
        rw [hk] at h
        simp only at h
        cases hm : mustF [58] (blanksF b1) with
        | none => rw [hm] at h; cases h
        | some b2 =>
          have hm1 := must_len _ _ _ hm
          rw [hm] at h
          simp only at h
          cases hv : valueF f most b2 with
          | none => rw [hv] at h; cases h
          | some z =>
            obtain ⟨v, t⟩ := z
            have lv := ihv _ _ _ _ hv
            have htl := blanks_len t
            rw [hv] at h
            simp only at h
            cases ht : blanksF t with
            | nil => rw [ht] at h; cases h
            | cons c t1 =>
              rw [ht] at h htl
              rw [List.length_cons] at htl
              simp only at h
              split at h
              · cases h; omega
              · split at h
                · cases hi : membersF f most t1 with
                  | none => rw [hi] at h; cases h
                  | some z =>
                    obtain ⟨l1, ks1, r1⟩ := z
                    rw [hi] at h
                    cases h
                    have := ihm _ _ _ _ _ hi
                    dsimp only
                    omega
                · cases h
/-- more fuel than the text is long tells nothing else -/
theorem value_fuel : ∀ f : Nat, (∀ most b g, 2 * b.length + 1 ≤ f → f ≤ g → valueF g most b = valueF f most b) ∧ (∀ most b g, 2 * b.length + 2 ≤ f → f ≤ g → itemsF g most b = itemsF f most b) ∧ (∀ most b g, 2 * b.length + 2 ≤ f → f ≤ g → membersF g most b = membersF f most b) := by
  intro f
  induction f with
  | zero => exact ⟨fun _ _ _ h => by omega, fun _ _ _ h => by omega, fun _ _ _ h => by omega⟩
  | succ f ih =>
    obtain ⟨ihv, ihi, ihm⟩ := ih
    refine ⟨?_, ?_, ?_⟩
    · intro most b g hf hg
      obtain ⟨g, rfl⟩ : ∃ g', g = g' + 1 := ⟨g - 1, by omega⟩
      have hbl := blanks_len b
      unfold valueF
      cases hb : blanksF b with
      | nil => rfl
      | cons c t =>
        rw [hb, List.length_cons] at hbl
        have htl := blanks_len t
        simp only
        cases ht : blanksF t with
        | nil => rfl
        | cons d t1 =>
          rw [ht] at htl
          simp only
          rw [ihi (most - 1) (d :: t1) g (by omega) (by omega), ihm (most - 1) (d :: t1) g (by omega) (by omega)]
    · intro most b g hf hg
      obtain ⟨g, rfl⟩ : ∃ g', g = g' + 1 := ⟨g - 1, by omega⟩
      unfold itemsF
      rw [ihv most b g (by omega) (by omega)]
      cases hv : valueF f most b with
      | none => rfl
      | some z =>
        obtain ⟨v, t⟩ := z
        have lv := (value_len f).1 _ _ _ _ hv
        have htl := blanks_len t
        simp only
        cases ht : blanksF t with
        | nil => rfl
        | cons c t1 =>
          rw [ht, List.length_cons] at htl
          simp only
          rw [ihi most t1 g (by omega) (by omega)]
    · intro most b g hf hg
      obtain ⟨g, rfl⟩ : ∃ g', g = g' + 1 := ⟨g - 1, by omega⟩
      have hb0 := blanks_len b
      unfold membersF
      cases hk : stringF (blanksF b) with
      | none => rfl
      | some z =>
        obtain ⟨k, b1⟩ := z
        have hk1 := string_len _ _ _ hk
        have hb1 := blanks_len b1
        simp only
        cases hm : mustF [58] (blanksF b1) with
        | none => rfl
        | some b2 =>
          have hm1 := must_len _ _ _ hm
          simp only
          rw [ihv most b2 g (by omega) (by omega)]
          cases hv : valueF f most b2 with
          | none => rfl
          | some z =>
            obtain ⟨v, t⟩ := z
            have lv := (value_len f).1 _ _ _ _ hv
            have htl := blanks_len t
            simp only
            cases ht : blanksF t with
            | nil => rfl
            | cons c t1 =>
              rw [ht, List.length_cons] at htl
              simp only
              rw [ihm most t1 g (by omega) (by omega)]
end Go.Proofs.YtehlgflpkofooaaDoor
