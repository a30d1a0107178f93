/-
  JSON: what the reader tells stands with more fuel and with more behind; blanks; texts cut off; sameness. Conditions: those in each statement.
-/
import Derived.Test.YtehlgflpkofooaaDoorJsonR
namespace Go.Proofs.YtehlgflpkofooaaDoor

theorem must_ext : ∀ (s b r q : List UInt8), mustF s b = some r → mustF s (b ++ q) = some (r ++ q)
  | [], b, r, q, h => by simp only [mustF] at h ⊢; cases h; rfl
  | _ :: _, [], r, q, h => by simp [mustF] at h
  | c :: s, d :: b, r, q, h => by
    simp only [mustF, List.cons_append] at h ⊢
    split at h
    · rename_i e
      rw [if_pos e]
      exact must_ext s b r q h
    · cases h
theorem four_ext (b : List UInt8) (n : Nat) (r q : List UInt8) (h : fourF b = some (n, r)) : fourF (b ++ q) = some (n, r ++ q) := by
  rcases b with _ | ⟨a, _ | ⟨b, _ | ⟨c, _ | ⟨d, t⟩⟩⟩⟩ <;> try (simp [fourF] at h; done)
  simp only [fourF, List.cons_append] at h ⊢
  split at h
  · cases h
    rfl
  · cases h
theorem str_ext : ∀ (f : Nat) (b s r q : List UInt8), strF f b = some (s, r) → ∀ g, f ≤ g → strF g (b ++ q) = some (s, r ++ q) := by
  intro f
  induction f with
  | zero => intro b s r q h; simp [strF] at h
  | succ f ih =>
    intro b s r q h g hg
    obtain ⟨g, rfl⟩ : ∃ g', g = g' + 1 := ⟨g - 1, by omega⟩
    have hfg : f ≤ g := by omega
    have ihm : ∀ (t : List UInt8) (k : List UInt8 → List UInt8), (strF f t).map (fun (s, q) => (k s, q)) = some (s, r) → (strF g (t ++ q)).map (fun (s, q) => (k s, q)) = some (s, r ++ q) := by
      intro t k hk
      cases ht : strF f t with
      | none => rw [ht] at hk; cases hk
      | some z =>
        obtain ⟨s1, r1⟩ := z
        rw [ht] at hk
        rw [ih t s1 r1 q ht g hfg]
        simp only [Option.map_some, Option.some.injEq, Prod.mk.injEq] at hk ⊢
        exact ⟨hk.1, by rw [hk.2]⟩
    cases b with
    | nil => simp [strF] at h
    | cons c b =>
      rw [List.cons_append]
      unfold strF at h ⊢
      split at h
      · cases h
      · rename_i h1
        rw [if_neg h1]
        split at h
        · rename_i h2
          rw [if_pos h2]
          cases h
          rfl
        · rename_i h2
          rw [if_neg h2]
          split at h
          · rename_i h3
            rw [if_pos h3]
            exact ihm b (c :: ·) h
          · rename_i h3
            rw [if_neg h3]
            cases b with
            | nil => simp at h
            | cons d b =>
              simp only [List.cons_append] at h ⊢
              split at h
              · rename_i h4
                rw [if_pos h4]
                cases hf : fourF b with
                | none => rw [hf] at h; cases h
                | some z =>
                  obtain ⟨n, r2⟩ := z
                  rw [hf] at h
                  rw [four_ext b n r2 q hf]
                  simp only at h ⊢
                  split at h
                  · rename_i h5
                    rw [if_pos h5]
                    cases hm : mustF [92, 117] r2 with
                    | none => rw [hm] at h; cases h
                    | some r3 =>
                      rw [hm] at h
                      rw [must_ext _ _ _ q hm]
                      simp only at h ⊢
                      cases hf2 : fourF r3 with
                      | none => rw [hf2] at h; cases h
                      | some z =>
                        obtain ⟨m, r4⟩ := z
                        rw [hf2] at h
                        rw [four_ext r3 m r4 q hf2]
                        simp only at h ⊢
                        split at h
                        · rename_i h6
                          rw [if_pos h6]
                          exact ihm r4 (runeF (65536 + 1024 * (n - 55296) + (m - 56320)) ++ ·) h
                        · cases h
                  · rename_i h5
                    rw [if_neg h5]
                    split at h
                    · cases h
                    · rename_i h6
                      rw [if_neg h6]
                      exact ihm r2 (runeF n ++ ·) h
              · rename_i h4
                rw [if_neg h4]
                cases ho : oneF d with
                | none => rw [ho] at h; cases h
                | some x =>
                  rw [ho] at h
                  simp only at h ⊢
                  exact ihm b (x :: ·) h
theorem string_ext (b s r q : List UInt8) (h : stringF b = some (s, r)) : stringF (b ++ q) = some (s, r ++ q) := by
  unfold stringF at h ⊢
  cases hm : mustF [34] b with
  | none => rw [hm] at h; cases h
  | some t =>
    rw [hm] at h
    rw [must_ext _ _ _ q hm]
    simp only at h ⊢
    cases hs : strF (t.length + 1) t with
    | none => rw [hs] at h; cases h
    | some z =>
      obtain ⟨s1, r1⟩ := z
      rw [hs] at h
      rw [str_ext _ _ _ _ q hs ((t ++ q).length + 1) (by rw [List.length_append]; omega)]
      simp only at h ⊢
      split at h
      · rename_i hu
        rw [if_pos hu]
        cases h
        rfl
      · cases h
theorem span_ext : ∀ (b q : List UInt8), (spanD b).2 ≠ [] → spanD (b ++ q) = ((spanD b).1, (spanD b).2 ++ q)
  | [], q, h => by simp [spanD] at h
  | c :: b, q, h => by
    simp only [List.cons_append]
    unfold spanD at h ⊢
    split
    · rename_i hd
      rw [if_pos hd] at h
      rw [span_ext b q h]
    · rfl
theorem num_ext (b r q : List UInt8) (n : Nat) (h : numF b = some (n, r)) (hr : r ≠ []) : numF (b ++ q) = some (n, r ++ q) := by
  have h2 : (spanD b).2 = r := by
    unfold numF at h
    split at h
    · cases h
    · split at h
      · cases h
      · split at h
        · cases h; rfl
        · cases h
  have he := span_ext b q (by rw [h2]; exact hr)
  unfold numF at h ⊢
  rw [he]
  simp only
  split at h
  · cases h
  · rename_i g1
    rw [if_neg g1]
    split at h
    · cases h
    · rename_i g2
      rw [if_neg g2]
      split at h
      · rename_i g3
        rw [if_pos g3]
        cases h
        rfl
      · cases h
theorem blanks_ext : ∀ (b q : List UInt8), blanksF b ≠ [] → blanksF (b ++ q) = blanksF b ++ q
  | [], q, h => by simp [blanksF] at h
  | c :: b, q, h => by
    simp only [List.cons_append]
    unfold blanksF at h ⊢
    split
    · rename_i hb
      rw [if_pos hb] at h
      exact blanks_ext b q h
    · rfl
theorem num_kind {b : List UInt8} {x : JV} {r : List UInt8} (h : (numF b).map (fun (n, q) => (JV.mk 3 [] n [] [], q)) = some (x, r)) : x.kind = 3 ∧ ∃ n, numF b = some (n, r) ∧ x = JV.mk 3 [] n [] [] := by
  cases hn : numF b with
  | none => rw [hn] at h; cases h
  | some z =>
    obtain ⟨n, q⟩ := z
    rw [hn] at h
    simp only [Option.map_some, Option.some.injEq, Prod.mk.injEq] at h
    obtain ⟨rfl, rfl⟩ := h
    exact ⟨rfl, n, rfl, rfl⟩
theorem map_ext {α β : Type} {x y : Option (α × List UInt8)} {z : β × List UInt8} (q : List UInt8) (k : α → β) (hxy : ∀ s r, x = some (s, r) → y = some (s, r ++ q)) (h : x.map (fun (s, t) => (k s, t)) = some z) : y.map (fun (s, t) => (k s, t)) = some (z.1, z.2 ++ q) := by
  cases hx : x with
  | none => rw [hx] at h; cases h
  | some w =>
    obtain ⟨s, t⟩ := w
    rw [hx] at h
    rw [hxy s t hx]
    simp only [Option.map_some, Option.some.injEq] at h
    subst h
    rfl

/-- what the reader tells stands, whatever comes behind (but digits behind a number), and with more fuel -/
theorem value_ext : ∀ f : Nat,
    (∀ most b x r q g, valueF f most b = some (x, r) → (r ≠ [] ∨ x.kind ≠ 3 ∨ q = []) → f ≤ g → valueF g most (b ++ q) = some (x, r ++ q)) ∧
    (∀ most b l r q g, itemsF f most b = some (l, r) → f ≤ g → itemsF g most (b ++ q) = some (l, r ++ q)) ∧
    (∀ most b l ks r q g, membersF f most b = some (l, ks, r) → f ≤ g → membersF g most (b ++ q) = some (l, ks, r ++ q)) := by
  intro f
  induction f with
  | zero => exact ⟨fun _ _ _ _ _ _ h => by simp [valueF] at h, fun _ _ _ _ _ _ h => by simp [itemsF] at h, fun _ _ _ _ _ _ _ h => by simp [membersF] at h⟩
  | succ f ih =>
    obtain ⟨ihv, ihi, ihm⟩ := ih
    refine ⟨?_, ?_, ?_⟩
    · intro most b x r q g h hr hg
      obtain ⟨g, rfl⟩ : ∃ g', g = g' + 1 := ⟨g - 1, by omega⟩
      have hfg : f ≤ g := by omega
      unfold valueF at h ⊢
      cases hb : blanksF b with
      | nil => rw [hb] at h; cases h
      | cons c t =>
        rw [hb] at h
        rw [blanks_ext b q (by rw [hb]; exact List.cons_ne_nil _ _), hb, List.cons_append]
        simp only at h ⊢
        split at h
        · rename_i h1
          rw [if_pos h1]
          cases hm : mustF [110, 117, 108, 108] (c :: t) with
          | none => rw [hm] at h; cases h
          | some z =>
            rw [hm] at h
            cases h
            have := must_ext _ _ _ q hm
            rw [List.cons_append] at this
            rw [this]
            rfl
        · rename_i h1
          rw [if_neg h1]
          split at h
          · rename_i h2
            rw [if_pos h2]
            cases hm : mustF [102, 97, 108, 115, 101] (c :: t) with
            | none => rw [hm] at h; cases h
            | some z =>
              rw [hm] at h
              cases h
              have := must_ext _ _ _ q hm
              rw [List.cons_append] at this
              rw [this]
              rfl
          · rename_i h2
            rw [if_neg h2]
            split at h
            · rename_i h3
              rw [if_pos h3]
              cases hm : mustF [116, 114, 117, 101] (c :: t) with
              | none => rw [hm] at h; cases h
              | some z =>
                rw [hm] at h
                cases h
                have := must_ext _ _ _ q hm
                rw [List.cons_append] at this
                rw [this]
                rfl
            · rename_i h3
              rw [if_neg h3]
              split at h
              · rename_i h4
                rw [if_pos h4]
                exact map_ext q (fun s => JV.mk 4 s 0 [] []) (fun s r hs => by have := string_ext _ _ _ q hs; rwa [List.cons_append] at this) h
              · rename_i h4
                rw [if_neg h4]
                split at h
                · rename_i h5
                  rw [if_pos h5]
                  split at h
                  · cases h
                  · rename_i h6
                    rw [if_neg h6]
                    cases ht : blanksF t with
                    | nil => rw [ht] at h; cases h
                    | cons d t1 =>
                      rw [ht] at h
                      rw [blanks_ext t q (by rw [ht]; exact List.cons_ne_nil _ _), ht, List.cons_append]
                      simp only at h ⊢
                      split at h
                      · rename_i h7
                        rw [if_pos h7]
                        cases h
                        rfl
                      · rename_i h7
                        rw [if_neg h7]
                        exact map_ext q (fun l => JV.mk 5 [] 0 l []) (fun l r hs => by have := ihi _ _ _ _ q g hs hfg; rwa [List.cons_append] at this) h
                · rename_i h5
                  rw [if_neg h5]
                  split at h
                  · rename_i h6
                    rw [if_pos h6]
                    split at h
                    · cases h
                    · rename_i h7
                      rw [if_neg h7]
                      cases ht : blanksF t with
                      | nil => rw [ht] at h; cases h
                      | cons d t1 =>
                        rw [ht] at h
                        rw [blanks_ext t q (by rw [ht]; exact List.cons_ne_nil _ _), ht, List.cons_append]
                        simp only at h ⊢
                        split at h
                        · rename_i h8
                          rw [if_pos h8]
                          cases h
                          rfl
                        · rename_i h8
                          rw [if_neg h8]
                          cases hm : membersF f (most - 1) (d :: t1) with
                          | none => rw [hm] at h; cases h
                          | some z =>
                            obtain ⟨l, ks, r1⟩ := z
                            rw [hm] at h
                            have := ihm _ _ _ _ _ q g hm hfg
                            rw [List.cons_append] at this
                            rw [this]
                            cases h
                            rfl
                  · rename_i h6
                    rw [if_neg h6]
                    obtain ⟨hk, n, hn, rfl⟩ := num_kind h
                    rcases hr with hr | hr | rfl
                    · have := num_ext _ _ q n hn hr
                      rw [List.cons_append] at this
                      rw [this]
                      rfl
                    · exact absurd hk hr
                    · rw [List.append_nil, hn, List.append_nil]
                      rfl
    · intro most b l r q g h hg
      obtain ⟨g, rfl⟩ : ∃ g', g = g' + 1 := ⟨g - 1, by omega⟩
      have hfg : f ≤ g := by omega
      unfold itemsF at h ⊢
      cases hv : valueF f most b with
      | none => rw [hv] at h; cases h
      | some z =>
        obtain ⟨v, t⟩ := z
        rw [hv] at h
        simp only at h
        cases ht : blanksF t with
        | nil => rw [ht] at h; cases h
        | cons c t1 =>
          have htn : t ≠ [] := by intro e; rw [e] at ht; cases ht
          rw [ihv most b v t q g hv (.inl htn) hfg]
          simp only
          rw [ht] at h
          rw [blanks_ext t q (by rw [ht]; exact List.cons_ne_nil _ _), ht, List.cons_append]
          simp only at h ⊢
          split at h
          · rename_i h1
            rw [if_pos h1]
            cases h
            rfl
          · rename_i h1
            rw [if_neg h1]
            split at h
            · rename_i h2
              rw [if_pos h2]
              exact map_ext q (fun l => v :: l) (fun l r hs => ihi _ _ _ _ q g hs hfg) h
            · cases h
    · intro most b l ks r q g h hg
      obtain ⟨g, rfl⟩ : ∃ g', g = g' + 1 := ⟨g - 1, by omega⟩
      have hfg : f ≤ g := by omega
      unfold membersF at h ⊢
      cases hk : stringF (blanksF b) with
      | none => rw [hk] at h; cases h
      | some z =>
        obtain ⟨k, b1⟩ := z
        have hbn : blanksF b ≠ [] := by
          intro e
          rw [e] at hk
          simp [stringF, mustF] at hk
        rw [hk] at h
        rw [blanks_ext b q hbn, string_ext _ _ _ q hk]
        simp only at h ⊢
        cases hm : mustF [58] (blanksF b1) with
        | none => rw [hm] at h; cases h
        | some b2 =>
          have hb1n : blanksF b1 ≠ [] := by
            intro e
            rw [e] at hm
            simp [mustF] at hm
          rw [hm] at h
          rw [blanks_ext b1 q hb1n, must_ext _ _ _ q hm]
          simp only at h ⊢
          cases hv : valueF f most b2 with
          | none => rw [hv] at h; cases h
          | some z =>
            obtain ⟨v, t⟩ := z
            rw [hv] at h
            simp only at h
            cases ht : blanksF t with
            | nil => rw [ht] at h; cases h
            | cons c t1 =>
              have htn : t ≠ [] := by intro e; rw [e] at ht; cases ht
              rw [ihv most b2 v t q g hv (.inl htn) hfg]
              simp only
              rw [ht] at h
              rw [blanks_ext t q (by rw [ht]; exact List.cons_ne_nil _ _), ht, List.cons_append]
              simp only at h ⊢
              split at h
              · rename_i h1
                rw [if_pos h1]
                cases h
                rfl
              · rename_i h1
                rw [if_neg h1]
                split at h
                · rename_i h2
                  rw [if_pos h2]
                  cases hmm : membersF f most t1 with
                  | none => rw [hmm] at h; cases h
                  | some z =>
                    obtain ⟨l1, ks1, r1⟩ := z
                    rw [hmm] at h
                    rw [ihm _ _ _ _ _ q g hmm hfg]
                    cases h
                    rfl
                · cases h
end Go.Proofs.YtehlgflpkofooaaDoor
