/-
  Layer 11: proofs of beginnings, plainly: ranges, hashes, what a proof tells. Conditions: those in each statement.
-/
import Derived.Test.YtcnnblhjgligbaaInX
namespace Go.Proofs.Ytcnnblhjgligbaa
open Go.RowKit

/-- the ranges of what is wanted of m in n leaves, with so many halvings at most -/
def wtGo : Nat → Nat → Nat → Nat → Bool → List (Nat × Nat)
  | 0, _, _, _, _ => []
  | f + 1, m, n, s, b => if m = n then (if b then [] else [(s, s + n)]) else if m ≤ splK n then wtGo f m (splK n) s b ++ [(s + splK n, s + n)] else wtGo f (m - splK n) (n - splK n) (s + splK n) false ++ [(s, s + splK n)]
def wtF (m n s : Nat) (b : Bool) : List (Nat × Nat) := wtGo n m n s b
theorem wtGo_enough : ∀ (f g m n s : Nat) (b : Bool), 1 ≤ m → m ≤ n → n ≤ f → n ≤ g → wtGo f m n s b = wtGo g m n s b := by
  intro f
  induction f with
  | zero => intro g m n s b h1 h2 h3; omega
  | succ f ih =>
    intro g m n s b h1 h2 h3 h4
    obtain ⟨g, rfl⟩ : ∃ x, g = x + 1 := ⟨g - 1, by omega⟩
    unfold wtGo
    by_cases h : m = n
    · rw [if_pos h, if_pos h]
    · obtain ⟨b1, b2, b3⟩ := splK_bounds (n := n) (by omega)
      rw [if_neg h, if_neg h]
      by_cases hk : m ≤ splK n
      · rw [if_pos hk, if_pos hk, ih g m (splK n) s b h1 hk (by omega) (by omega)]
      · rw [if_neg hk, if_neg hk, ih g (m - splK n) (n - splK n) (s + splK n) false (by omega) (by omega) (by omega) (by omega)]
theorem wtF_all (n s : Nat) (b : Bool) (h : 1 ≤ n) : wtF n n s b = if b then [] else [(s, s + n)] := by
  unfold wtF
  obtain ⟨f, hf⟩ : ∃ f, n = f + 1 := ⟨n - 1, by omega⟩
  conv => lhs; rw [hf, wtGo]
  rw [← hf, if_pos rfl]
theorem wtF_low (m n s : Nat) (b : Bool) (h1 : 1 ≤ m) (h : m < n) (hk : m ≤ splK n) : wtF m n s b = wtF m (splK n) s b ++ [(s + splK n, s + n)] := by
  obtain ⟨b1, b2, b3⟩ := splK_bounds (n := n) (by omega)
  unfold wtF
  obtain ⟨f, hf⟩ : ∃ f, n = f + 1 := ⟨n - 1, by omega⟩
  conv => lhs; rw [hf, wtGo]
  rw [← hf, if_neg (by omega), if_pos hk, wtGo_enough f (splK n) m (splK n) s b h1 hk (by omega) (Nat.le_refl _)]
theorem wtF_high (m n s : Nat) (b : Bool) (h : m < n) (hk : ¬ m ≤ splK n) : wtF m n s b = wtF (m - splK n) (n - splK n) (s + splK n) false ++ [(s, s + splK n)] := by
  obtain ⟨b1, b2, b3⟩ := splK_bounds (n := n) (by omega)
  unfold wtF
  obtain ⟨f, hf⟩ : ∃ f, n = f + 1 := ⟨n - 1, by omega⟩
  conv => lhs; rw [hf, wtGo]
  rw [← hf, if_neg (by omega), if_neg hk, wtGo_enough f (n - splK n) (m - splK n) (n - splK n) (s + splK n) false (by omega) (by omega) (by omega) (Nat.le_refl _)]
/-- what is wanted of m in the leaves -/
def prGo : Nat → List (List UInt8) → Nat → Bool → List (List UInt8)
  | 0, _, _, _ => []
  | f + 1, L, m, b => if m = L.length then (if b then [] else [rootF L]) else if m ≤ splK L.length then prGo f (L.take (splK L.length)) m b ++ [rootF (L.drop (splK L.length))] else prGo f (L.drop (splK L.length)) (m - splK L.length) false ++ [rootF (L.take (splK L.length))]
def prF (L : List (List UInt8)) (m : Nat) (b : Bool) : List (List UInt8) := prGo L.length L m b
theorem prGo_enough : ∀ (f g : Nat) (L : List (List UInt8)) (m : Nat) (b : Bool), 1 ≤ m → m ≤ L.length → L.length ≤ f → L.length ≤ g → prGo f L m b = prGo g L m b := by
  intro f
  induction f with
  | zero => intro g L m b h1 h2 h3; omega
  | succ f ih =>
    intro g L m b h1 h2 h3 h4
    obtain ⟨g, rfl⟩ : ∃ x, g = x + 1 := ⟨g - 1, by omega⟩
    unfold prGo
    by_cases h : m = L.length
    · rw [if_pos h, if_pos h]
    · obtain ⟨b1, b2, b3⟩ := splK_bounds (n := L.length) (by omega)
      rw [if_neg h, if_neg h]
      by_cases hk : m ≤ splK L.length
      · rw [if_pos hk, if_pos hk, ih g (L.take (splK L.length)) m b h1 (by rw [List.length_take]; omega) (by rw [List.length_take]; omega) (by rw [List.length_take]; omega)]
      · rw [if_neg hk, if_neg hk, ih g (L.drop (splK L.length)) (m - splK L.length) false (by omega) (by rw [List.length_drop]; omega) (by rw [List.length_drop]; omega) (by rw [List.length_drop]; omega)]
theorem prF_all (L : List (List UInt8)) (b : Bool) (h : 1 ≤ L.length) : prF L L.length b = if b then [] else [rootF L] := by
  unfold prF
  obtain ⟨f, hf⟩ : ∃ f, L.length = f + 1 := ⟨L.length - 1, by omega⟩
  conv => lhs; rw [hf, prGo]
  rw [← hf, if_pos rfl]
theorem prF_low (L : List (List UInt8)) (m : Nat) (b : Bool) (h1 : 1 ≤ m) (h : m < L.length) (hk : m ≤ splK L.length) : prF L m b = prF (L.take (splK L.length)) m b ++ [rootF (L.drop (splK L.length))] := by
  obtain ⟨b1, b2, b3⟩ := splK_bounds (n := L.length) (by omega)
  unfold prF
  obtain ⟨f, hf⟩ : ∃ f, L.length = f + 1 := ⟨L.length - 1, by omega⟩
  conv => lhs; rw [hf, prGo]
  rw [if_neg (by omega), if_pos hk, prGo_enough f (L.take (splK L.length)).length _ m b h1 (by rw [List.length_take]; omega) (by rw [List.length_take]; omega) (Nat.le_refl _)]
theorem prF_high (L : List (List UInt8)) (m : Nat) (b : Bool) (h : m < L.length) (hk : ¬ m ≤ splK L.length) : prF L m b = prF (L.drop (splK L.length)) (m - splK L.length) false ++ [rootF (L.take (splK L.length))] := by
  obtain ⟨b1, b2, b3⟩ := splK_bounds (n := L.length) (by omega)
  unfold prF
  obtain ⟨f, hf⟩ : ∃ f, L.length = f + 1 := ⟨L.length - 1, by omega⟩
  conv => lhs; rw [hf, prGo]
  rw [if_neg (by omega), if_neg hk, prGo_enough f (L.drop (splK L.length)).length _ (m - splK L.length) false (by omega) (by rw [List.length_drop]; omega) (by rw [List.length_drop]; omega) (Nat.le_refl _)]
/-- both heads that what is wanted tells -/
def hdGo : Nat → Nat → Nat → List UInt8 → List (List UInt8) → Bool → List UInt8 × List UInt8
  | 0, _, _, d, _, _ => (d, d)
  | f + 1, m, n, d, P, b => if m = n then (if b then (d, d) else (P.getD 0 [], P.getD 0 [])) else if m ≤ splK n then
      ((hdGo f m (splK n) d P.dropLast b).1, nodeH (hdGo f m (splK n) d P.dropLast b).2 (P.getD (P.length - 1) []))
    else (nodeH (P.getD (P.length - 1) []) (hdGo f (m - splK n) (n - splK n) d P.dropLast false).1, nodeH (P.getD (P.length - 1) []) (hdGo f (m - splK n) (n - splK n) d P.dropLast false).2)
def hdF (m n : Nat) (d : List UInt8) (P : List (List UInt8)) (b : Bool) : List UInt8 × List UInt8 := hdGo n m n d P b
theorem hdGo_enough : ∀ (f g m n : Nat) (d : List UInt8) (P : List (List UInt8)) (b : Bool), 1 ≤ m → m ≤ n → n ≤ f → n ≤ g → hdGo f m n d P b = hdGo g m n d P b := by
  intro f
  induction f with
  | zero => intro g m n d P b h1 h2 h3; omega
  | succ f ih =>
    intro g m n d P b h1 h2 h3 h4
    obtain ⟨g, rfl⟩ : ∃ x, g = x + 1 := ⟨g - 1, by omega⟩
    unfold hdGo
    by_cases h : m = n
    · rw [if_pos h, if_pos h]
    · obtain ⟨b1, b2, b3⟩ := splK_bounds (n := n) (by omega)
      rw [if_neg h, if_neg h]
      by_cases hk : m ≤ splK n
      · rw [if_pos hk, if_pos hk, ih g m (splK n) d P.dropLast b h1 hk (by omega) (by omega)]
      · rw [if_neg hk, if_neg hk, ih g (m - splK n) (n - splK n) d P.dropLast false (by omega) (by omega) (by omega) (by omega)]
theorem hdF_all (n : Nat) (d : List UInt8) (P : List (List UInt8)) (b : Bool) (h : 1 ≤ n) : hdF n n d P b = if b then (d, d) else (P.getD 0 [], P.getD 0 []) := by
  unfold hdF
  obtain ⟨f, hf⟩ : ∃ f, n = f + 1 := ⟨n - 1, by omega⟩
  conv => lhs; rw [hf, hdGo]
  rw [← hf, if_pos rfl]
theorem hdF_low (m n : Nat) (d : List UInt8) (P : List (List UInt8)) (b : Bool) (h1 : 1 ≤ m) (h : m < n) (hk : m ≤ splK n) : hdF m n d P b = ((hdF m (splK n) d P.dropLast b).1, nodeH (hdF m (splK n) d P.dropLast b).2 (P.getD (P.length - 1) [])) := by
  obtain ⟨b1, b2, b3⟩ := splK_bounds (n := n) (by omega)
  unfold hdF
  obtain ⟨f, hf⟩ : ∃ f, n = f + 1 := ⟨n - 1, by omega⟩
  conv => lhs; rw [hf, hdGo]
  rw [← hf, if_neg (by omega), if_pos hk, hdGo_enough f (splK n) m (splK n) d P.dropLast b h1 hk (by omega) (Nat.le_refl _)]
theorem hdF_high (m n : Nat) (d : List UInt8) (P : List (List UInt8)) (b : Bool) (h : m < n) (hk : ¬ m ≤ splK n) : hdF m n d P b = (nodeH (P.getD (P.length - 1) []) (hdF (m - splK n) (n - splK n) d P.dropLast false).1, nodeH (P.getD (P.length - 1) []) (hdF (m - splK n) (n - splK n) d P.dropLast false).2) := by
  obtain ⟨b1, b2, b3⟩ := splK_bounds (n := n) (by omega)
  unfold hdF
  obtain ⟨f, hf⟩ : ∃ f, n = f + 1 := ⟨n - 1, by omega⟩
  conv => lhs; rw [hf, hdGo]
  rw [← hf, if_neg (by omega), if_neg hk, hdGo_enough f (n - splK n) (m - splK n) (n - splK n) d P.dropLast false (by omega) (by omega) (by omega) (Nat.le_refl _)]
/-- P11.4, plainly: a proof tells both heads -/
theorem heads_proof : ∀ (N : Nat) (L : List (List UInt8)) (m : Nat) (d : List UInt8) (b : Bool), L.length ≤ N → 1 ≤ m → m ≤ L.length → (b = true → d = rootF (L.take m)) →
    hdF m L.length d (prF L m b) b = (rootF (L.take m), rootF L) := by
  intro N
  induction N using Nat.strongRecOn with
  | _ N ih =>
    intro L m d b hN h1 h2 hd
    by_cases h : m = L.length
    · subst h
      rw [hdF_all _ _ _ _ h1, prF_all _ _ h1]
      rw [List.take_length] at hd ⊢
      cases b with
      | true => simp [hd rfl]
      | false => simp [List.getD]
    · obtain ⟨b1, b2, b3⟩ := splK_bounds (n := L.length) (by omega)
      have ht : (L.take (splK L.length)).length = splK L.length := by rw [List.length_take]; omega
      have hdl : (L.drop (splK L.length)).length = L.length - splK L.length := List.length_drop
      have hroot := rootF_more (L := L) (by omega)
      by_cases hk : m ≤ splK L.length
      · have e : (L.take (splK L.length)).take m = L.take m := by rw [List.take_take, Nat.min_eq_left hk]
        have := ih (splK L.length) (by omega) (L.take (splK L.length)) m d b (by omega) h1 (by omega) (by rw [e]; exact hd)
        rw [ht, e] at this
        rw [prF_low L m b h1 (by omega) hk, hdF_low _ _ _ _ _ h1 (by omega) hk, (snoc_last _ _).1, (snoc_last _ _).2, this, hroot]
      · have := ih (L.length - splK L.length) (by omega) (L.drop (splK L.length)) (m - splK L.length) d false (by omega) (by omega) (by omega) (by intro h; cases h)
        rw [hdl] at this
        rw [prF_high L m b (by omega) hk, hdF_high _ _ _ _ _ (by omega) hk, (snoc_last _ _).1, (snoc_last _ _).2, this, hroot]
        have hj := rootF_join ((L.length - 1).log2) (L.take (splK L.length)) ((L.drop (splK L.length)).take (m - splK L.length)) ht (by rw [List.length_take, hdl]; omega) (by rw [List.length_take, hdl]; show _ ≤ splK L.length; omega)
        have e : L.take (splK L.length) ++ (L.drop (splK L.length)).take (m - splK L.length) = L.take m := by
          rw [← List.take_add, show splK L.length + (m - splK L.length) = m by omega]
        rw [e] at hj
        rw [hj]
theorem pr_len : ∀ (N : Nat) (L : List (List UInt8)) (m s : Nat) (b : Bool), L.length ≤ N → 1 ≤ m → m ≤ L.length → (prF L m b).length = (wtF m L.length s b).length := by
  intro N
  induction N using Nat.strongRecOn with
  | _ N ih =>
    intro L m s b hN h1 h2
    by_cases h : m = L.length
    · subst h
      rw [prF_all _ _ h1, wtF_all _ _ _ h1]
      cases b <;> rfl
    · obtain ⟨b1, b2, b3⟩ := splK_bounds (n := L.length) (by omega)
      have ht : (L.take (splK L.length)).length = splK L.length := by rw [List.length_take]; omega
      have hdl : (L.drop (splK L.length)).length = L.length - splK L.length := List.length_drop
      by_cases hk : m ≤ splK L.length
      · have := ih (splK L.length) (by omega) (L.take (splK L.length)) m s b (by omega) h1 (by omega)
        rw [ht] at this
        rw [prF_low L m b h1 (by omega) hk, wtF_low _ _ _ _ h1 (by omega) hk, List.length_append, List.length_append, this]
        rfl
      · have := ih (L.length - splK L.length) (by omega) (L.drop (splK L.length)) (m - splK L.length) (s + splK L.length) false (by omega) (by omega) (by omega)
        rw [hdl] at this
        rw [prF_high L m b (by omega) hk, wtF_high _ _ _ _ (by omega) hk, List.length_append, List.length_append, this]
        rfl
theorem wt_len : ∀ (k m n s : Nat) (b : Bool), 1 ≤ m → m ≤ n → n ≤ 2 ^ k → (wtF m n s b).length ≤ k + 1 := by
  intro k
  induction k with
  | zero =>
    intro m n s b h1 h2 h
    obtain rfl : m = n := by simp at h; omega
    rw [wtF_all _ _ _ h1]
    cases b <;> simp
  | succ k ih =>
    intro m n s b h1 h2 h
    rw [Nat.pow_succ] at h
    by_cases hmn : m = n
    · subst hmn
      rw [wtF_all _ _ _ h1]
      cases b <;> simp
    · obtain ⟨b1, b2, b3⟩ := splK_bounds (n := n) (by omega)
      have hk : splK n ≤ 2 ^ k := by
        unfold splK
        refine Nat.pow_le_pow_right (by omega) ?_
        have : (n - 1).log2 < k + 1 := by rw [Nat.log2_lt (by omega), Nat.pow_succ]; omega
        omega
      by_cases hi : m ≤ splK n
      · rw [wtF_low _ _ _ _ h1 (by omega) hi, List.length_append]
        have := ih m (splK n) s b h1 hi hk
        simp only [List.length_singleton]
        omega
      · rw [wtF_high _ _ _ _ (by omega) hi, List.length_append]
        have := ih (m - splK n) (n - splK n) (s + splK n) false (by omega) (by omega) (by omega)
        simp only [List.length_singleton]
        omega
/-- the ranges cover, unmarked -/
theorem wt_cover : ∀ (N m n s : Nat), n ≤ N → 1 ≤ m → m ≤ n → ∃ x l, wtF m n s false = (x, s + m) :: l ∧ s ≤ x ∧ x < s + m ∧ l.foldl stepC (some (x, s + m)) = some (s, s + n) := by
  intro N
  induction N using Nat.strongRecOn with
  | _ N ih =>
    intro m n s hN h1 h2
    by_cases h : m = n
    · subst h
      exact ⟨s, [], by rw [wtF_all _ _ _ h1]; rfl, by omega, by omega, rfl⟩
    · obtain ⟨b1, b2, b3⟩ := splK_bounds (n := n) (by omega)
      by_cases hk : m ≤ splK n
      · obtain ⟨x, l, e, hx1, hx2, hf⟩ := ih (splK n) (by omega) m (splK n) s (Nat.le_refl _) h1 hk
        refine ⟨x, l ++ [(s + splK n, s + n)], by rw [wtF_low _ _ _ _ h1 (by omega) hk, e]; rfl, hx1, hx2, ?_⟩
        rw [List.foldl_append, hf]
        show stepC (some (s, s + splK n)) (s + splK n, s + n) = _
        simp only [stepC]
        rw [if_pos ⟨trivial, by omega⟩]
      · obtain ⟨x, l, e, hx1, hx2, hf⟩ := ih (n - splK n) (by omega) (m - splK n) (n - splK n) (s + splK n) (Nat.le_refl _) (by omega) (by omega)
        have e2 : s + splK n + (m - splK n) = s + m := by omega
        rw [e2] at e hf hx2
        refine ⟨x, l ++ [(s, s + splK n)], by rw [wtF_high _ _ _ _ (by omega) hk, e]; rfl, by omega, hx2, ?_⟩
        rw [List.foldl_append, hf]
        show stepC (some (s + splK n, s + splK n + (n - splK n))) (s, s + splK n) = _
        simp only [stepC]
        rw [if_neg (by omega), if_pos ⟨trivial, by omega⟩]
        congr 2
        omega
/-- the ranges cover, marked: behind the old leaves, or with those that are told first -/
theorem wt_cover_mark : ∀ (N m n : Nat), n ≤ N → 1 ≤ m → m ≤ n →
    (∃ x l, wtF m n 0 true = (x, m) :: l ∧ x < m ∧ l.foldl stepC (some (x, m)) = some (0, n)) ∨
    ((∀ r l, wtF m n 0 true = r :: l → r.2 ≠ m) ∧ (wtF m n 0 true).foldl stepC (some (0, m)) = some (0, n)) := by
  intro N
  induction N using Nat.strongRecOn with
  | _ N ih =>
    intro m n hN h1 h2
    by_cases h : m = n
    · subst h
      right
      rw [wtF_all _ _ _ h1]
      exact ⟨fun r l e => by simp at e, rfl⟩
    · obtain ⟨b1, b2, b3⟩ := splK_bounds (n := n) (by omega)
      by_cases hk : m ≤ splK n
      · have step : stepC (some (0, splK n)) (0 + splK n, 0 + n) = some (0, n) := by
          simp only [stepC, Nat.zero_add]
          rw [if_pos ⟨trivial, b2⟩]
        rcases ih (splK n) (by omega) m (splK n) (Nat.le_refl _) h1 hk with ⟨x, l, e, hx, hf⟩ | ⟨hne, hf⟩
        · left
          refine ⟨x, l ++ [(0 + splK n, 0 + n)], by rw [wtF_low _ _ _ _ h1 (by omega) hk, e]; rfl, hx, ?_⟩
          rw [List.foldl_append, hf]
          exact step
        · right
          rw [wtF_low _ _ _ _ h1 (by omega) hk]
          refine ⟨fun r l e => ?_, by rw [List.foldl_append, hf]; exact step⟩
          cases hq : wtF m (splK n) 0 true with
          | nil =>
            rw [hq] at e
            injection e with e _
            rw [← e]
            simp only
            omega
          | cons r' l' =>
            rw [hq] at e
            injection e with e _
            rw [← e]
            exact hne r' l' hq
      · left
        obtain ⟨x, l, e, hx1, hx2, hf⟩ := wt_cover (n - splK n) (m - splK n) (n - splK n) (0 + splK n) (Nat.le_refl _) (by omega) (by omega)
        have e2 : 0 + splK n + (m - splK n) = m := by omega
        rw [e2] at e hf hx2
        refine ⟨x, l ++ [(0, 0 + splK n)], by rw [wtF_high _ _ _ _ (by omega) hk, e]; rfl, hx2, ?_⟩
        rw [List.foldl_append, hf]
        show stepC (some (0 + splK n, 0 + splK n + (n - splK n))) (0, 0 + splK n) = _
        simp only [stepC, Nat.zero_add]
        rw [if_neg (by omega), if_pos ⟨trivial, by omega⟩]
        congr 2
        omega
end Go.Proofs.Ytcnnblhjgligbaa
