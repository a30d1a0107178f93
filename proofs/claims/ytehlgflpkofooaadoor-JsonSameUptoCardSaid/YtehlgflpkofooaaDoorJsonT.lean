/-
  JSON: blanks around a text, signs behind it, texts cut off, what a reader tells, sameness. Conditions: those in each statement.
-/
import Derived.Test.YtehlgflpkofooaaDoorJsonS
namespace Go.Proofs.YtehlgflpkofooaaDoor

theorem value_mono {f g most : Nat} {b : List UInt8} {x : JV} {r : List UInt8} (h : valueF f most b = some (x, r)) (hg : f ≤ g) : valueF g most b = some (x, r) := by
  have := (value_ext f).1 most b x r [] g h (.inr (.inr rfl)) hg
  rwa [List.append_nil, List.append_nil] at this
theorem blanks_all : ∀ (g r : List UInt8), (∀ c ∈ g, isBlank c = true) → blanksF (g ++ r) = blanksF r
  | [], _, _ => rfl
  | c :: g, r, h => by
    rw [List.cons_append]
    show (if isBlank c then blanksF (g ++ r) else _) = _
    rw [h c (List.mem_cons_self ..), if_pos rfl]
    exact blanks_all g r fun c hc => h c (List.mem_cons_of_mem _ hc)
theorem value_blanks (g : List UInt8) (hg : ∀ c ∈ g, isBlank c = true) (f most : Nat) (b : List UInt8) : valueF f most (g ++ b) = valueF f most b := by
  cases f with
  | zero => rfl
  | succ f =>
    unfold valueF
    rw [blanks_all g b hg]
theorem noDig_blank (g : List UInt8) (hg : ∀ c ∈ g, isBlank c = true) : noDig g := by
  intro c q e
  have hc := hg c (by rw [e]; exact List.mem_cons_self ..)
  cases hd : isDigit c with
  | false => rfl
  | true => rw [(digit_not hd).1] at hc; cases hc
/-- blanks ahead of and behind a text change nothing -/
theorem parse_gaps (v : JV) (h : mayF v 8 = true) (hw : wfF v = true) (g1 g2 : List UInt8) (h1 : ∀ c ∈ g1, isBlank c = true) (h2 : ∀ c ∈ g2, isBlank c = true) : parseF (g1 ++ plainF v ++ g2) = some v := by
  have := (value_all (2 * (g1 ++ plainF v ++ g2).length + 2)).1 v 8 g2 h hw (noDig_blank g2 h2) (by simp only [List.length_append]; omega)
  unfold parseF
  rw [List.append_assoc, value_blanks g1 h1] at *
  rw [this]
  simp only
  have hb : blanksF g2 = [] := by
    have := blanks_all g2 [] h2
    rwa [List.append_nil] at this
  rw [if_pos ⟨hb, h⟩]
/-- a comma behind a text spoils it -/
theorem parse_comma (v : JV) (h : mayF v 8 = true) (hw : wfF v = true) : parseF (plainF v ++ [44]) = none := by
  have := (value_all (2 * (plainF v ++ [44]).length + 2)).1 v 8 [44] h hw (noDig_cons (by decide)) (by simp only [List.length_append]; omega)
  unfold parseF
  rw [this]
  simp only
  rw [if_neg]
  intro ⟨h1, _⟩
  revert h1
  decide
theorem num_first {f most : Nat} {b r : List UInt8} {x : JV} (h : valueF f most b = some (x, r)) (hk : x.kind = 3) : ∃ c t, blanksF b = c :: t ∧ isDigit c = true := by
  cases f with
  | zero => simp [valueF] at h
  | succ f =>
    unfold valueF at h
    cases hb : blanksF b with
    | nil => rw [hb] at h; cases h
    | cons c t =>
      rw [hb] at h
      refine ⟨c, t, rfl, ?_⟩
      have no : ∀ (o : Option (List UInt8)) (k : Int), k ≠ 3 → o.map (fun q => (JV.mk k [] 0 [] [], q)) ≠ some (x, r) := by
        intro o k hk3 e
        cases o with
        | none => cases e
        | some z => cases e; exact hk3 hk
      simp only at h
      split at h
      · exact absurd h (no _ 0 (by decide))
      · split at h
        · exact absurd h (no _ 1 (by decide))
        · split at h
          · exact absurd h (no _ 2 (by decide))
          · split at h
            · cases hs : stringF (c :: t) with
              | none => rw [hs] at h; cases h
              | some z => rw [hs] at h; cases h; cases hk
            · split at h
              · split at h
                · cases h
                · cases ht : blanksF t with
                  | nil => rw [ht] at h; cases h
                  | cons d t1 =>
                    rw [ht] at h
                    simp only at h
                    split at h
                    · cases h; cases hk
                    · cases hi : itemsF f (most - 1) (d :: t1) with
                      | none => rw [hi] at h; cases h
                      | some z => rw [hi] at h; cases h; cases hk
              · split at h
                · split at h
                  · cases h
                  · cases ht : blanksF t with
                    | nil => rw [ht] at h; cases h
                    | cons d t1 =>
                      rw [ht] at h
                      simp only at h
                      split at h
                      · cases h; cases hk
                      · cases hi : membersF f (most - 1) (d :: t1) with
                        | none => rw [hi] at h; cases h
                        | some z => rw [hi] at h; cases h; cases hk
                · obtain ⟨_, n, hn, _⟩ := num_kind h
                  unfold numF at hn
                  split at hn
                  · cases hn
                  · rename_i hne
                    cases hd : isDigit c with
                    | true => rfl
                    | false =>
                      exfalso
                      apply hne
                      unfold spanD
                      rw [hd]
                      rfl
theorem plain_first (v : JV) (h : mayF v 8 = true) {c : UInt8} {r : List UInt8} (e : plainF v = c :: r) (hd : isDigit c = true) : v.kind = 3 := by
  obtain ⟨k, s, n, l, ks⟩ := v
  unfold mayF at h
  rw [Bool.and_eq_true] at h
  rcases head_cases h.1 with ⟨rfl, rfl, rfl, rfl, rfl⟩ | ⟨rfl, rfl, rfl, rfl, rfl⟩ | ⟨rfl, rfl, rfl, rfl, rfl⟩ | ⟨rfl, rfl, rfl, rfl⟩ | ⟨rfl, rfl, rfl, rfl, hu⟩ | ⟨rfl, rfl, rfl, rfl, hm⟩ | ⟨rfl, rfl, rfl, hkl, hku, hm⟩
  · cases e; cases hd
  · cases e; cases hd
  · cases e; cases hd
  · rfl
  · cases e; cases hd
  · cases e; cases hd
  · cases e; cases hd
/-- a text that is cut off is none -/
theorem parse_cut (v : JV) (h : mayF v 8 = true) (hw : wfF v = true) (hk : v.kind ≠ 3) (k : Nat) (hlt : k < (plainF v).length) : parseF ((plainF v).take k) = none := by
  cases hp : parseF ((plainF v).take k) with
  | none => rfl
  | some x =>
    exfalso
    unfold parseF at hp
    cases hv : valueF (2 * ((plainF v).take k).length + 2) 8 ((plainF v).take k) with
    | none => rw [hv] at hp; cases hp
    | some z =>
      obtain ⟨y, r⟩ := z
      rw [hv] at hp
      simp only at hp
      split at hp
      · rename_i hc
        have full := (value_all (2 * (plainF v).length + 2)).1 v 8 [] h hw noDig_nil (by omega)
        rw [List.append_nil] at full
        have hy3 : y.kind ≠ 3 := by
          intro e
          obtain ⟨c, t, hb, hd⟩ := num_first hv e
          obtain ⟨c', t', ev, hb', -⟩ := plain_cons v
          rw [ev] at hb
          cases k with
          | zero => cases hb
          | succ k =>
            rw [List.take_succ_cons, blanks_not hb'] at hb
            cases hb
            exact hk (plain_first v h ev hd)
        have hx := (value_ext _).1 8 _ y r ((plainF v).drop k) (2 * (plainF v).length + 2) hv (.inr (.inl hy3)) (by rw [List.length_take]; omega)
        rw [List.take_append_drop, full] at hx
        have hx2 := Option.some.inj hx
        have hx3 := congrArg Prod.snd hx2
        simp only at hx3
        have hd := (List.append_eq_nil_iff.1 hx3.symm).2
        rw [List.drop_eq_nil_iff] at hd
        omega
      · cases hp
/-- what the reader tells has numbers below 2^64 -/
theorem value_wf : ∀ f : Nat, (∀ most b x r, valueF f most b = some (x, r) → wfF x = true) ∧ (∀ most b l r, itemsF f most b = some (l, r) → wfL l = true) ∧ (∀ most b l ks r, membersF f most b = some (l, ks, r) → wfL l = true) := by
  intro f
  induction f with
  | zero => exact ⟨fun _ _ _ _ h => by simp [valueF] at h, fun _ _ _ _ h => by simp [itemsF] at h, fun _ _ _ _ _ h => by simp [membersF] at h⟩
  | succ f ih =>
    obtain ⟨ihv, ihi, ihm⟩ := ih
    refine ⟨?_, ?_, ?_⟩
    · intro most b x r h
      unfold valueF at h
      cases hb : blanksF b with
      | nil => rw [hb] at h; cases h
      | cons c t =>
        rw [hb] at h
        have no : ∀ (o : Option (List UInt8)) (k : Int), o.map (fun q => (JV.mk k [] 0 [] [], q)) = some (x, r) → wfF x = true := by
          intro o k e
          cases o with
          | none => cases e
          | some z => cases e; rfl
        simp only at h
        split at h
        · exact no _ _ h
        · split at h
          · exact no _ _ h
          · split at h
            · exact no _ _ h
            · split at h
              · cases hs : stringF (c :: t) with
                | none => rw [hs] at h; cases h
                | some z => rw [hs] at h; cases h; rfl
              · split at h
                · split at h
                  · cases h
                  · cases ht : blanksF t with
                    | nil => rw [ht] at h; cases h
                    | cons d t1 =>
                      rw [ht] at h
                      simp only at h
                      split at h
                      · cases h; rfl
                      · cases hi : itemsF f (most - 1) (d :: t1) with
                        | none => rw [hi] at h; cases h
                        | some z =>
                          rw [hi] at h
                          cases h
                          unfold wfF
                          rw [ihi _ _ _ _ hi]
                          rfl
                · split at h
                  · split at h
                    · cases h
                    · cases ht : blanksF t with
                      | nil => rw [ht] at h; cases h
                      | cons d t1 =>
                        rw [ht] at h
                        simp only at h
                        split at h
                        · cases h; rfl
                        · cases hi : membersF f (most - 1) (d :: t1) with
                          | none => rw [hi] at h; cases h
                          | some z =>
                            rw [hi] at h
                            cases h
                            unfold wfF
                            rw [ihm _ _ _ _ _ hi]
                            rfl
                  · obtain ⟨_, n, hn, rfl⟩ := num_kind h
                    unfold numF at hn
                    split at hn
                    · cases hn
                    · split at hn
                      · cases hn
                      · split at hn
                        · rename_i hlt
                          cases hn
                          unfold wfF
                          rw [decide_eq_true hlt]
                          rfl
                        · cases hn
    · intro most b l r h
      unfold itemsF at h
      cases hv : valueF f most b with
      | none => rw [hv] at h; cases h
      | some z =>
        obtain ⟨v, t⟩ := z
        have wv := ihv _ _ _ _ hv
        rw [hv] at h
        simp only at h
        cases ht : blanksF t with
        | nil => rw [ht] at h; cases h
        | cons c t1 =>
          rw [ht] at h
          simp only at h
          split at h
          · cases h
            unfold wfL
            rw [wv]
            rfl
          · split at h
            · cases hi : itemsF f most t1 with
              | none => rw [hi] at h; cases h
              | some z =>
                rw [hi] at h
                cases h
                unfold wfL
                rw [wv, ihi _ _ _ _ hi]
                rfl
            · cases h
    · intro most b l ks r h
      unfold membersF at h
      cases hk : stringF (blanksF b) with
      | none => rw [hk] at h; cases h
      | some z =>
        obtain ⟨k, b1⟩ := z
        rw [hk] at h
        simp only at h
        cases hm : mustF [58] (blanksF b1) with
        | none => rw [hm] at h; cases h
        | some b2 =>
          rw [hm] at h
          simp only at h
          cases hv : valueF f most b2 with
          | none => rw [hv] at h; cases h
          | some z =>
            obtain ⟨v, t⟩ := z
            have wv := ihv _ _ _ _ hv
            rw [hv] at h
            simp only at h
            cases ht : blanksF t with
            | nil => rw [ht] at h; cases h
            | cons c t1 =>
              rw [ht] at h
              simp only at h
              split at h
              · cases h
                unfold wfL
                rw [wv]
                rfl
              · split at h
                · cases hi : membersF f most t1 with
                  | none => rw [hi] at h; cases h
                  | some z =>
                    rw [hi] at h
                    cases h
                    unfold wfL
                    rw [wv, ihm _ _ _ _ _ hi]
                    rfl
                · cases h
theorem parse_some {b : List UInt8} {x : JV} (h : parseF b = some x) : mayF x 8 = true ∧ wfF x = true := by
  unfold parseF at h
  cases hv : valueF (2 * b.length + 2) 8 b with
  | none => rw [hv] at h; cases h
  | some z =>
    obtain ⟨y, r⟩ := z
    rw [hv] at h
    simp only at h
    split at h
    · rename_i hc
      cases h
      exact ⟨hc.2, (value_wf _).1 _ _ _ _ hv⟩
    · cases h

mutual
theorem same_eq : ∀ v w : JV, sameF v w = true ↔ v = w
  | .mk k s n l ks, .mk k' s' n' l' ks' => by
    have := sameL_eq l l'
    unfold sameF
    simp only [Bool.and_eq_true, decide_eq_true_eq, this]
    constructor
    · rintro ⟨⟨⟨⟨rfl, rfl⟩, rfl⟩, rfl⟩, rfl⟩
      rfl
    · intro e
      cases e
      exact ⟨⟨⟨⟨rfl, rfl⟩, rfl⟩, rfl⟩, rfl⟩
theorem sameL_eq : ∀ l m : List JV, sameL l m = true ↔ l = m
  | [], [] => by simp [sameL]
  | [], _ :: _ => by simp [sameL]
  | _ :: _, [] => by simp [sameL]
  | v :: l, w :: m => by
    have h1 := same_eq v w
    have h2 := sameL_eq l m
    unfold sameL
    rw [Bool.and_eq_true, h1, h2]
    constructor
    · rintro ⟨rfl, rfl⟩; rfl
    · intro e; cases e; exact ⟨rfl, rfl⟩
end
end Go.Proofs.YtehlgflpkofooaaDoor
