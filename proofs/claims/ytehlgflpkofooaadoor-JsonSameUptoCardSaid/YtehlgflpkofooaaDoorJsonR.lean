/-
  JSON there and back: each value that may be comes back out of its plain text, whatever stands behind but a digit. Conditions: those in each statement.
-/
import Derived.Test.YtehlgflpkofooaaDoorJsonQ
namespace Go.Proofs.YtehlgflpkofooaaDoor

mutual
/-- numbers are below 2^64 -/
def wfF : JV → Bool
  | .mk _ _ n l _ => decide (n < 18446744073709551616) && wfL l
def wfL : List JV → Bool
  | [] => true
  | v :: r => wfF v && wfL r
end

/-- a head that may be, kind by kind -/
theorem head_cases {k : Int} {s : List UInt8} {n : Nat} {l : List JV} {ks : List (List UInt8)} {most : Nat} (h : headF k s n l ks most = true) :
    (k = 0 ∧ s = [] ∧ n = 0 ∧ l = [] ∧ ks = []) ∨ (k = 1 ∧ s = [] ∧ n = 0 ∧ l = [] ∧ ks = []) ∨ (k = 2 ∧ s = [] ∧ n = 0 ∧ l = [] ∧ ks = []) ∨ (k = 3 ∧ s = [] ∧ l = [] ∧ ks = []) ∨
    (k = 4 ∧ n = 0 ∧ l = [] ∧ ks = [] ∧ utf8F s = true) ∨ (k = 5 ∧ s = [] ∧ n = 0 ∧ ks = [] ∧ 0 < most) ∨ (k = 6 ∧ s = [] ∧ n = 0 ∧ ks.length = l.length ∧ ks.all utf8F = true ∧ 0 < most) := by
  unfold headF at h
  simp only [Bool.and_eq_true, Bool.or_eq_true, decide_eq_true_eq, List.isEmpty_iff] at h
  obtain ⟨⟨⟨⟨⟨⟨⟨⟨⟨⟨h0, h6⟩, hn⟩, hs⟩, hk⟩, hl⟩, hm⟩, hu⟩, hkl⟩, hku⟩, _⟩ := h
  have hk7 : k = 0 ∨ k = 1 ∨ k = 2 ∨ k = 3 ∨ k = 4 ∨ k = 5 ∨ k = 6 := by omega
  rcases hk7 with rfl | rfl | rfl | rfl | rfl | rfl | rfl
  · exact .inl ⟨rfl, by simpa using hs, by simpa using hn, by simpa using hl, by simpa using hk⟩
  · exact .inr (.inl ⟨rfl, by simpa using hs, by simpa using hn, by simpa using hl, by simpa using hk⟩)
  · exact .inr (.inr (.inl ⟨rfl, by simpa using hs, by simpa using hn, by simpa using hl, by simpa using hk⟩))
  · exact .inr (.inr (.inr (.inl ⟨rfl, by simpa using hs, by simpa using hl, by simpa using hk⟩)))
  · exact .inr (.inr (.inr (.inr (.inl ⟨rfl, by simpa using hn, by simpa using hl, by simpa using hk, hu⟩))))
  · exact .inr (.inr (.inr (.inr (.inr (.inl ⟨rfl, by simpa using hs, by simpa using hn, by simpa using hk, by simpa using hm⟩)))))
  · exact .inr (.inr (.inr (.inr (.inr (.inr ⟨rfl, by simpa using hs, by simpa using hn, by simpa using hkl, hku, by simpa using hm⟩)))))

theorem blanks_not {c : UInt8} {r : List UInt8} (h : isBlank c = false) : blanksF (c :: r) = c :: r := by
  unfold blanksF
  rw [h]
  rfl
theorem digits_cons (n : Nat) : ∃ c r, digitsF n = c :: r ∧ isDigit c = true := by
  cases h : digitsF n with
  | nil => exact absurd h (digits_ne n)
  | cons c r => exact ⟨c, r, rfl, digits_all n c (by rw [h]; exact List.mem_cons_self ..)⟩
theorem digit_not {c : UInt8} (h : isDigit c = true) : isBlank c = false ∧ c ≠ 110 ∧ c ≠ 102 ∧ c ≠ 116 ∧ c ≠ 34 ∧ c ≠ 91 ∧ c ≠ 123 ∧ c ≠ 93 ∧ c ≠ 125 ∧ c ≠ 44 := by
  have hh : ∀ n : Fin 256, isDigit (UInt8.ofNat n) = true → isBlank (UInt8.ofNat n) = false ∧ UInt8.ofNat n ≠ 110 ∧ UInt8.ofNat n ≠ 102 ∧ UInt8.ofNat n ≠ 116 ∧ UInt8.ofNat n ≠ 34 ∧ UInt8.ofNat n ≠ 91 ∧ UInt8.ofNat n ≠ 123 ∧ UInt8.ofNat n ≠ 93 ∧ UInt8.ofNat n ≠ 125 ∧ UInt8.ofNat n ≠ 44 := by decide +kernel
  have := hh ⟨c.toNat, c.toNat_lt⟩
  simp only [u8_same] at this
  exact this h
/-- a text's first sign -/
theorem plain_cons (v : JV) : ∃ c r, plainF v = c :: r ∧ isBlank c = false ∧ c ≠ 93 ∧ c ≠ 125 ∧ c ≠ 44 := by
  obtain ⟨k, s, n, l, ks⟩ := v
  unfold plainF
  split
  · exact ⟨_, _, rfl, by decide, by decide, by decide, by decide⟩
  · split
    · exact ⟨_, _, rfl, by decide, by decide, by decide, by decide⟩
    · split
      · exact ⟨_, _, rfl, by decide, by decide, by decide, by decide⟩
      · split
        · obtain ⟨c, r, e, hc⟩ := digits_cons n
          have := digit_not hc
          exact ⟨c, r, e, this.1, this.2.2.2.2.2.2.2.1, this.2.2.2.2.2.2.2.2.1, this.2.2.2.2.2.2.2.2.2⟩
        · split
          · exact ⟨34, _, rfl, by decide, by decide, by decide, by decide⟩
          · split
            · exact ⟨_, _, rfl, by decide, by decide, by decide, by decide⟩
            · exact ⟨_, _, rfl, by decide, by decide, by decide, by decide⟩
theorem noDig_cons {c : UInt8} {r : List UInt8} (h : isDigit c = false) : noDig (c :: r) := fun c' q e => by cases e; exact h
theorem noDig_nil : noDig [] := fun c q e => by cases e

theorem value_all : ∀ f : Nat,
    (∀ v most rest, mayF v most = true → wfF v = true → noDig rest → 2 * (plainF v).length + 1 ≤ f → valueF f most (plainF v ++ rest) = some (v, rest)) ∧
    (∀ v l most rest, mayF v most = true → mayL l most = true → wfF v = true → wfL l = true → 2 * (plainF v ++ plainAt l).length + 2 ≤ f → itemsF f most (plainF v ++ (plainAt l ++ 93 :: rest)) = some (v :: l, rest)) ∧
    (∀ v l k ks most rest, mayF v most = true → mayL l most = true → wfF v = true → wfL l = true → utf8F k = true → ks.all utf8F = true → ks.length = l.length →
      2 * (wordF k ++ 58 :: (plainF v ++ plainOt l ks)).length + 2 ≤ f → membersF f most (wordF k ++ 58 :: (plainF v ++ (plainOt l ks ++ 125 :: rest))) = some (v :: l, k :: ks, rest)) := by
  intro f
  induction f with
  | zero => exact ⟨fun _ _ _ _ _ _ h => by omega, fun _ _ _ _ _ _ _ _ h => by omega, fun _ _ _ _ _ _ _ _ _ _ _ _ _ h => by omega⟩
  | succ f ih =>
    obtain ⟨ihv, ihi, ihm⟩ := ih
    refine ⟨?_, ?_, ?_⟩
    · rintro ⟨k, s, n, l, ks⟩ most rest hmay hwf hr hf
      unfold mayF at hmay
      rw [Bool.and_eq_true] at hmay
      obtain ⟨hh, hl⟩ := hmay
      unfold wfF at hwf
      rw [Bool.and_eq_true, decide_eq_true_eq] at hwf
      rcases head_cases hh with ⟨rfl, rfl, rfl, rfl, rfl⟩ | ⟨rfl, rfl, rfl, rfl, rfl⟩ | ⟨rfl, rfl, rfl, rfl, rfl⟩ | ⟨rfl, rfl, rfl, rfl⟩ | ⟨rfl, rfl, rfl, rfl, hu⟩ | ⟨rfl, rfl, rfl, rfl, hm⟩ | ⟨rfl, rfl, rfl, hkl, hku, hm⟩
      · rfl
      · rfl
      · rfl
      · obtain ⟨c, r, e, hc⟩ := digits_cons n
        obtain ⟨g0, g1, g2, g3, g4, g5, g6, -⟩ := digit_not hc
        have hp : plainF (.mk 3 [] n [] []) = digitsF n := rfl
        have hn := num_digits hwf.1 rest hr
        rw [hp]
        rw [e] at hn ⊢
        rw [List.cons_append] at hn ⊢
        unfold valueF
        rw [blanks_not g0]
        simp only [g1, g2, g3, g4, g5, g6, if_false, hn]
        rfl
      · have hp : plainF (.mk 4 s 0 [] []) = wordF s := rfl
        have hn := string_word s rest hu
        rw [hp]
        unfold valueF
        have e : wordF s ++ rest = 34 :: (s.flatMap escF ++ [34] ++ rest) := rfl
        rw [e] at hn ⊢
        rw [blanks_not (by decide)]
        simp only [show (34 : UInt8) ≠ 110 by decide, show (34 : UInt8) ≠ 102 by decide, show (34 : UInt8) ≠ 116 by decide, if_false, if_true, hn]
        rfl
      · cases l with
        | nil =>
          have hp : plainF (.mk 5 [] 0 [] []) = [91, 93] := rfl
          rw [hp]
          unfold valueF
          simp only [List.cons_append, List.nil_append]
          rw [blanks_not (by decide)]
          simp only [show (91 : UInt8) ≠ 110 by decide, show (91 : UInt8) ≠ 102 by decide, show (91 : UInt8) ≠ 116 by decide, show (91 : UInt8) ≠ 34 by decide, if_false, if_true, show most ≠ 0 by omega]
          rw [blanks_not (by decide)]
          simp only [if_true]
        | cons v l =>
          have hp : plainF (.mk 5 [] 0 (v :: l) []) = 91 :: (plainF v ++ plainAt l ++ [93]) := rfl
          rw [hp] at hf ⊢
          unfold mayL at hl
          unfold wfL at hwf
          simp only [Bool.and_eq_true] at hl hwf
          have hi := ihi v l (most - 1) rest hl.1 hl.2 hwf.2.1 hwf.2.2 (by simp only [List.length_cons, List.length_append, List.length_nil] at hf ⊢; omega)
          obtain ⟨c, r, e, gb, g1, -⟩ := plain_cons v
          have e2 : (91 :: (plainF v ++ plainAt l ++ [93])) ++ rest = 91 :: (plainF v ++ (plainAt l ++ 93 :: rest)) := by simp
          rw [e2]
          unfold valueF
          rw [blanks_not (by decide)]
          simp only [show (91 : UInt8) ≠ 110 by decide, show (91 : UInt8) ≠ 102 by decide, show (91 : UInt8) ≠ 116 by decide, show (91 : UInt8) ≠ 34 by decide, if_false, if_true, show most ≠ 0 by omega]
          rw [e] at hi ⊢
          rw [List.cons_append] at hi ⊢
          rw [blanks_not gb]
          simp only [g1, if_false, hi]
          rfl
      · cases l with
        | nil =>
          have hks : ks = [] := List.eq_nil_of_length_eq_zero (by simpa using hkl)
          subst hks
          have hp : plainF (.mk 6 [] 0 [] []) = [123, 125] := rfl
          rw [hp]
          unfold valueF
          simp only [List.cons_append, List.nil_append]
          rw [blanks_not (by decide)]
          simp only [show (123 : UInt8) ≠ 110 by decide, show (123 : UInt8) ≠ 102 by decide, show (123 : UInt8) ≠ 116 by decide, show (123 : UInt8) ≠ 34 by decide, show (123 : UInt8) ≠ 91 by decide, if_false, if_true, show most ≠ 0 by omega]
          rw [blanks_not (by decide)]
          simp only [if_true]
        | cons v l =>
          cases ks with
          | nil => simp at hkl
          | cons key ks =>
            have hp : plainF (.mk 6 [] 0 (v :: l) (key :: ks)) = 123 :: (wordF key ++ 58 :: (plainF v ++ plainOt l ks) ++ [125]) := rfl
            rw [hp] at hf ⊢
            unfold mayL at hl
            unfold wfL at hwf
            simp only [Bool.and_eq_true] at hl hwf
            simp only [List.all_cons, Bool.and_eq_true] at hku
            have hi := ihm v l key ks (most - 1) rest hl.1 hl.2 hwf.2.1 hwf.2.2 hku.1 hku.2 (by simpa using hkl) (by simp only [List.length_cons, List.length_append, List.length_nil] at hf ⊢; omega)
            have e2 : (123 :: (wordF key ++ 58 :: (plainF v ++ plainOt l ks) ++ [125])) ++ rest = 123 :: (wordF key ++ 58 :: (plainF v ++ (plainOt l ks ++ 125 :: rest))) := by simp
            rw [e2]
            unfold valueF
            rw [blanks_not (by decide)]
            simp only [show (123 : UInt8) ≠ 110 by decide, show (123 : UInt8) ≠ 102 by decide, show (123 : UInt8) ≠ 116 by decide, show (123 : UInt8) ≠ 34 by decide, show (123 : UInt8) ≠ 91 by decide, if_false, if_true, show most ≠ 0 by omega]
            have e3 : ∀ t, wordF key ++ t = 34 :: (key.flatMap escF ++ [34] ++ t) := fun t => rfl
            rw [e3] at hi ⊢
            rw [blanks_not (by decide)]
            simp only [show (34 : UInt8) ≠ 125 by decide, if_false, hi]
            rfl
    · intro v l most rest hv hl wv wl hf
      have hv1 := ihv v most (plainAt l ++ 93 :: rest) hv wv (by
        cases l with
        | nil => exact noDig_cons (by decide)
        | cons v' l => exact noDig_cons (by decide)) (by simp only [List.length_append] at hf; omega)
      unfold itemsF
      rw [hv1]
      cases l with
      | nil =>
        have e : plainAt [] ++ 93 :: rest = 93 :: rest := rfl
        simp only [e]
        rw [blanks_not (by decide)]
        simp only [if_true]
      | cons v' l =>
        have e : plainAt (v' :: l) ++ 93 :: rest = 44 :: (plainF v' ++ (plainAt l ++ 93 :: rest)) := by
          show 44 :: (plainF v' ++ plainAt l) ++ 93 :: rest = _
          simp
        simp only [e]
        rw [blanks_not (by decide)]
        unfold mayL at hl
        unfold wfL at wl
        simp only [Bool.and_eq_true] at hl wl
        have hp : plainAt (v' :: l) = 44 :: (plainF v' ++ plainAt l) := rfl
        have hi := ihi v' l most rest hl.1 hl.2 wl.1 wl.2 (by rw [hp] at hf; simp only [List.length_append, List.length_cons] at hf ⊢; omega)
        simp only [show (44 : UInt8) ≠ 93 by decide, if_false, if_true, hi]
        rfl
    · intro v l k ks most rest hv hl wv wl hk hks hlen hf
      have hs := string_word k (58 :: (plainF v ++ (plainOt l ks ++ 125 :: rest))) hk
      have hv1 := ihv v most (plainOt l ks ++ 125 :: rest) hv wv (by
        cases l with
        | nil => exact noDig_cons (by decide)
        | cons v' l => exact noDig_cons (by decide)) (by simp only [List.length_append, List.length_cons] at hf; omega)
      unfold membersF
      have e3 : ∀ t, wordF k ++ t = 34 :: (k.flatMap escF ++ [34] ++ t) := fun t => rfl
      have eb : blanksF (wordF k ++ 58 :: (plainF v ++ (plainOt l ks ++ 125 :: rest))) = wordF k ++ 58 :: (plainF v ++ (plainOt l ks ++ 125 :: rest)) := by
        rw [e3]
        exact blanks_not (by decide)
      rw [eb, hs]
      simp only
      rw [blanks_not (by decide)]
      have hm : mustF [58] (58 :: (plainF v ++ (plainOt l ks ++ 125 :: rest))) = some (plainF v ++ (plainOt l ks ++ 125 :: rest)) := rfl
      rw [hm]
      simp only
      rw [hv1]
      cases l with
      | nil =>
        have hks0 : ks = [] := List.eq_nil_of_length_eq_zero (by simpa using hlen)
        subst hks0
        have e : plainOt [] [] ++ 125 :: rest = 125 :: rest := rfl
        simp only [e]
        rw [blanks_not (by decide)]
        simp only [if_true]
      | cons v' l =>
        cases ks with
        | nil => simp at hlen
        | cons k' ks =>
          have hp : plainOt (v' :: l) (k' :: ks) = 44 :: (wordF k' ++ 58 :: (plainF v' ++ plainOt l ks)) := rfl
          have e : plainOt (v' :: l) (k' :: ks) ++ 125 :: rest = 44 :: (wordF k' ++ 58 :: (plainF v' ++ (plainOt l ks ++ 125 :: rest))) := by
            rw [hp]
            simp
          simp only [e]
          rw [blanks_not (by decide)]
          unfold mayL at hl
          unfold wfL at wl
          simp only [Bool.and_eq_true] at hl wl
          simp only [List.all_cons, Bool.and_eq_true] at hks
          have hi := ihm v' l k' ks most rest hl.1 hl.2 wl.1 wl.2 hks.1 hks.2 (by simpa using hlen) (by rw [hp] at hf; simp only [List.length_append, List.length_cons] at hf ⊢; omega)
          simp only [show (44 : UInt8) ≠ 125 by decide, if_false, if_true, hi]
          rfl
/-- each value that may be comes back -/
theorem parse_plain (v : JV) (h : mayF v 8 = true) (hw : wfF v = true) : parseF (plainF v) = some v := by
  have := (value_all (2 * (plainF v).length + 2)).1 v 8 [] h hw noDig_nil (by omega)
  rw [List.append_nil] at this
  unfold parseF
  rw [this]
  simp only
  rw [if_pos ⟨rfl, h⟩]
end Go.Proofs.YtehlgflpkofooaaDoor
