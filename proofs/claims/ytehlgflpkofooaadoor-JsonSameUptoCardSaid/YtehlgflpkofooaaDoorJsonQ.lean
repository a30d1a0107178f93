/-
  JSON there and back: the reader tells of each plain text its value. Conditions: those in each statement.
-/
import Derived.Test.YtehlgflpkofooaaDoorJsonP
namespace Go.Proofs.YtehlgflpkofooaaDoor

theorem row_1 : (parseF [32, 91, 32, 49, 32, 44, 32, 34, 92, 117, 48, 48, 101, 57, 34, 32, 93, 32]).map (fun v => sameF v (.mk 5 [] 0 [.mk 3 [] 1 [] [], .mk 4 [195, 169] 0 [] []] [])) = some true := by decide +kernel
theorem row_2 : (parseF [48, 49]).isNone = true := by decide +kernel
theorem row_3 : (parseF [123, 34, 97, 34, 58, 49, 44, 34, 97, 34, 58, 50, 125]).isNone = true := by decide +kernel
theorem row_4 : plainF (.mk 6 [] 0 [.mk 3 [] 1 [] [], .mk 5 [] 0 [.mk 0 [] 0 [] [], .mk 4 [120] 0 [] []] []] [[97], [98]]) = [123, 34, 97, 34, 58, 49, 44, 34, 98, 34, 58, 91, 110, 117, 108, 108, 44, 34, 120, 34, 93, 125] := by decide +kernel

theorem hex_back : ∀ n : Fin 16, hexV (hexD n) = some n.val := by decide +kernel
theorem hexV_D {n : Nat} (h : n < 16) : hexV (hexD n) = some n := hex_back ⟨n, h⟩
theorem u8_same (c : UInt8) : UInt8.ofNat c.toNat = c := by simp

theorem four_low {c : UInt8} (hc : c.toNat < 32) (r : List UInt8) : fourF (48 :: 48 :: hexD (c.toNat / 16) :: hexD (c.toNat % 16) :: r) = some (c.toNat, r) := by
  have h0 : hexV 48 = some 0 := by decide
  have h1 : hexV (hexD (c.toNat / 16)) = some (c.toNat / 16) := hexV_D (by omega)
  have h2 : hexV (hexD (c.toNat % 16)) = some (c.toNat % 16) := hexV_D (by omega)
  simp only [fourF, h0, h1, h2]
  congr 2
  omega
theorem str_low (f : Nat) {c : UInt8} (hc : c.toNat < 32) (r : List UInt8) : strF (f + 1) (escF c ++ r) = (strF f r).map fun (s, q) => (c :: s, q) := by
  unfold escF
  rw [if_pos hc]
  simp only [List.cons_append, List.nil_append]
  conv => lhs; unfold strF
  have h1 : (92 : UInt8).toNat = 92 := rfl
  rw [if_neg (by rw [h1]; omega), if_neg (by decide), if_neg (by decide)]
  simp only [if_true]
  rw [four_low hc]
  simp only
  rw [if_neg (by omega), if_neg (by omega)]
  have hr : runeF c.toNat = [c] := by
    unfold runeF
    rw [if_pos (by omega), u8_same]
  rw [hr]
  rfl
theorem str_esc (f : Nat) {c : UInt8} (r : List UInt8) : strF (f + 1) (escF c ++ r) = (strF f r).map fun (s, q) => (c :: s, q) := by
  by_cases hc : c.toNat < 32
  · exact str_low f hc r
  · by_cases h2 : c = 34 ∨ c = 92
    · unfold escF
      rw [if_neg hc, if_pos h2]
      simp only [List.cons_append, List.nil_append]
      conv => lhs; unfold strF
      have h1 : (92 : UInt8).toNat = 92 := rfl
      rw [if_neg (by rw [h1]; omega), if_neg (by decide), if_neg (by decide)]
      have hd : c ≠ 117 := by rcases h2 with rfl | rfl <;> decide
      have ho : oneF c = some c := by rcases h2 with rfl | rfl <;> decide
      simp only [if_neg hd, ho]
    · unfold escF
      rw [if_neg hc, if_neg h2]
      simp only [List.cons_append, List.nil_append]
      conv => lhs; unfold strF
      rw [if_neg hc, if_neg (fun h => h2 (.inl h)), if_pos (fun h => h2 (.inr h))]
theorem str_word : ∀ (s : List UInt8) (f : Nat) (r : List UInt8), s.length + 1 ≤ f → strF f (s.flatMap escF ++ 34 :: r) = some (s, r)
  | [], f, r, h => by
    obtain ⟨f', rfl⟩ : ∃ f', f = f' + 1 := ⟨f - 1, by omega⟩
    simp only [List.flatMap_nil, List.nil_append]
    unfold strF
    rw [if_neg (by decide), if_pos rfl]
  | c :: s, f, r, h => by
    obtain ⟨f', rfl⟩ : ∃ f', f = f' + 1 := ⟨f - 1, by omega⟩
    rw [List.flatMap_cons, List.append_assoc, str_esc, str_word s f' r (by simp only [List.length_cons] at h; omega)]
    rfl
theorem esc_len (c : UInt8) : 1 ≤ (escF c).length := by
  unfold escF
  split
  · simp
  · split <;> simp
theorem escs_len (s : List UInt8) : s.length ≤ (s.flatMap escF).length := by
  induction s with
  | nil => simp
  | cons c r ih => have := esc_len c; rw [List.flatMap_cons, List.length_append, List.length_cons]; omega
theorem string_word (s r : List UInt8) (hu : utf8F s = true) : stringF (wordF s ++ r) = some (s, r) := by
  have he := escs_len s
  unfold stringF wordF
  simp only [List.cons_append, mustF, if_true]
  rw [List.append_assoc, List.cons_append, List.nil_append, str_word s _ r (by simp only [List.length_append, List.length_cons]; omega)]
  simp only [hu, if_true]

/-! digits -/
def noDig (r : List UInt8) : Prop := ∀ c q, r = c :: q → isDigit c = false
theorem digit_facts : ∀ n : Fin 10, isDigit (UInt8.ofNat (48 + n.val)) = true ∧ (UInt8.ofNat (48 + n.val)).toNat - 48 = n.val ∧ (UInt8.ofNat (48 + n.val) = 48 ↔ n.val = 0) := by decide +kernel
theorem digits_all (n : Nat) : ∀ c ∈ digitsF n, isDigit c = true := by
  induction n using Nat.strongRecOn with
  | _ n ih =>
    unfold digitsF
    split
    · rename_i h
      intro c hc
      simp only [List.mem_singleton] at hc
      subst hc
      exact (digit_facts ⟨n, h⟩).1
    · rename_i h
      intro c hc
      rcases List.mem_append.1 hc with hc | hc
      · exact ih (n / 10) (by omega) c hc
      · simp only [List.mem_singleton] at hc
        subst hc
        exact (digit_facts ⟨n % 10, by omega⟩).1
theorem span_all : ∀ (l r : List UInt8), (∀ c ∈ l, isDigit c = true) → noDig r → spanD (l ++ r) = (l, r)
  | [], r, _, hr => by
    cases r with
    | nil => rfl
    | cons c q => simp only [List.nil_append, spanD, hr c q rfl]; rfl
  | c :: l, r, hl, hr => by
    have ih := span_all l r (fun c hc => hl c (List.mem_cons_of_mem _ hc)) hr
    simp only [List.cons_append, spanD, hl c (List.mem_cons_self ..), if_true, ih]
theorem valD_snoc (l : List UInt8) (c : UInt8) : valD (l ++ [c]) = 10 * valD l + (c.toNat - 48) := by simp [valD]
theorem valD_digits (n : Nat) : valD (digitsF n) = n := by
  induction n using Nat.strongRecOn with
  | _ n ih =>
    unfold digitsF
    split
    · rename_i h
      have := (digit_facts ⟨n, h⟩).2.1
      simp only [valD, List.foldl_cons, List.foldl_nil] at this ⊢
      omega
    · rename_i h
      have := (digit_facts ⟨n % 10, by omega⟩).2.1
      simp only at this
      rw [valD_snoc, ih (n / 10) (by omega), this]
      omega
theorem digits_ne (n : Nat) : digitsF n ≠ [] := by
  unfold digitsF
  split <;> simp
/-- no nought ahead -/
theorem digits_head (n : Nat) : (digitsF n).headD 0 = 48 → n = 0 := by
  induction n using Nat.strongRecOn with
  | _ n ih =>
    unfold digitsF
    split
    · rename_i h
      intro e
      exact (digit_facts ⟨n, h⟩).2.2.1 e
    · rename_i h
      intro e
      have hne := digits_ne (n / 10)
      cases hd : digitsF (n / 10) with
      | nil => exact absurd hd hne
      | cons c l =>
        rw [hd] at e
        have := ih (n / 10) (by omega) (by rw [hd]; exact e)
        omega
theorem num_digits {n : Nat} (h : n < 18446744073709551616) (r : List UInt8) (hr : noDig r) : numF (digitsF n ++ r) = some (n, r) := by
  unfold numF
  rw [span_all _ _ (digits_all n) hr]
  simp only
  rw [if_neg (digits_ne n), if_neg, valD_digits, if_pos h]
  intro ⟨h1, h2⟩
  have := digits_head n h1
  subst this
  unfold digitsF at h2
  simp at h2
end Go.Proofs.YtehlgflpkofooaaDoor
