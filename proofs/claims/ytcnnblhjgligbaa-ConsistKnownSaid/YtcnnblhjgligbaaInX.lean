/-
  Layer 10: paths, plainly: ranges, hashes, what a path tells. Layer 10: ranges go together to all leaves; a path goes up step by step; where two heads meet. Layer 7: splits, plainly and as the program and the document have them. Conditions: those in each statement.
-/
import Derived.Test.YtcnnblhjgligbaaMgA
import Derived.Test.YtcnnblhjgligbaaMgC
namespace Go.Proofs.Ytcnnblhjgligbaa
open Go.RowKit

/-- the ranges of the path of i in n leaves that begin at a number, with so many halvings at most -/
def rgGo : Nat → Nat → Nat → Nat → List (Nat × Nat)
  | 0, _, _, _ => []
  | f + 1, i, n, s => if n ≤ 1 then [] else if i < splK n then rgGo f i (splK n) s ++ [(s + splK n, s + n)] else rgGo f (i - splK n) (n - splK n) (s + splK n) ++ [(s, s + splK n)]
def rgF (i n s : Nat) : List (Nat × Nat) := rgGo n i n s
theorem rgGo_enough : ∀ (f g i n s : Nat), n ≤ f → n ≤ g → rgGo f i n s = rgGo g i n s := by
  intro f
  induction f with
  | zero => intro g i n s h1 h2; cases g <;> simp [rgGo]; intro h; omega
  | succ f ih =>
    intro g i n s h1 h2
    cases g with
    | zero => simp [rgGo]; intro h; omega
    | succ g =>
      unfold rgGo
      by_cases h : n ≤ 1
      · rw [if_pos h, if_pos h]
      · obtain ⟨b1, b2, b3⟩ := splK_bounds (n := n) (by omega)
        rw [if_neg h, if_neg h, ih g i (splK n) s (by omega) (by omega), ih g (i - splK n) (n - splK n) (s + splK n) (by omega) (by omega)]
theorem rgF_one (i n s : Nat) (h : n ≤ 1) : rgF i n s = [] := by
  unfold rgF
  cases n with
  | zero => rfl
  | succ n => rw [rgGo, if_pos h]
theorem rgF_low (i n s : Nat) (h : 2 ≤ n) (hi : i < splK n) : rgF i n s = rgF i (splK n) s ++ [(s + splK n, s + n)] := by
  obtain ⟨b1, b2, b3⟩ := splK_bounds h
  unfold rgF
  obtain ⟨f, hf⟩ : ∃ f, n = f + 1 := ⟨n - 1, by omega⟩
  conv => lhs; rw [hf, rgGo]
  rw [← hf, if_neg (by omega), if_pos hi, rgGo_enough f (splK n) i (splK n) s (by omega) (Nat.le_refl _)]
theorem rgF_high (i n s : Nat) (h : 2 ≤ n) (hi : ¬ i < splK n) : rgF i n s = rgF (i - splK n) (n - splK n) (s + splK n) ++ [(s, s + splK n)] := by
  obtain ⟨b1, b2, b3⟩ := splK_bounds h
  unfold rgF
  obtain ⟨f, hf⟩ : ∃ f, n = f + 1 := ⟨n - 1, by omega⟩
  conv => lhs; rw [hf, rgGo]
  rw [← hf, if_neg (by omega), if_neg hi, rgGo_enough f (n - splK n) (i - splK n) (n - splK n) (s + splK n) (by omega) (Nat.le_refl _)]
/-- the path of i in the leaves -/
def pathGo : Nat → List (List UInt8) → Nat → List (List UInt8)
  | 0, _, _ => []
  | f + 1, L, i => if L.length ≤ 1 then [] else if i < splK L.length then pathGo f (L.take (splK L.length)) i ++ [rootF (L.drop (splK L.length))] else pathGo f (L.drop (splK L.length)) (i - splK L.length) ++ [rootF (L.take (splK L.length))]
def pathF (L : List (List UInt8)) (i : Nat) : List (List UInt8) := pathGo L.length L i
theorem pathGo_enough : ∀ (f g : Nat) (L : List (List UInt8)) (i : Nat), L.length ≤ f → L.length ≤ g → pathGo f L i = pathGo g L i := by
  intro f
  induction f with
  | zero => intro g L i h1 h2; cases g <;> simp [pathGo]; intro h; omega
  | succ f ih =>
    intro g L i h1 h2
    cases g with
    | zero => simp [pathGo]; intro h; omega
    | succ g =>
      unfold pathGo
      by_cases h : L.length ≤ 1
      · rw [if_pos h, if_pos h]
      · obtain ⟨b1, b2, b3⟩ := splK_bounds (n := L.length) (by omega)
        rw [if_neg h, if_neg h, ih g (L.take (splK L.length)) i (by rw [List.length_take]; omega) (by rw [List.length_take]; omega), ih g (L.drop (splK L.length)) (i - splK L.length) (by rw [List.length_drop]; omega) (by rw [List.length_drop]; omega)]
theorem pathF_one (L : List (List UInt8)) (i : Nat) (h : L.length ≤ 1) : pathF L i = [] := by
  unfold pathF
  cases hl : L.length with
  | zero => rfl
  | succ n => rw [pathGo, if_pos h]
theorem pathF_low (L : List (List UInt8)) (i : Nat) (h : 2 ≤ L.length) (hi : i < splK L.length) : pathF L i = pathF (L.take (splK L.length)) i ++ [rootF (L.drop (splK L.length))] := by
  obtain ⟨b1, b2, b3⟩ := splK_bounds h
  unfold pathF
  obtain ⟨f, hf⟩ : ∃ f, L.length = f + 1 := ⟨L.length - 1, by omega⟩
  conv => lhs; rw [hf, pathGo]
  rw [if_neg (by omega), if_pos hi, pathGo_enough f (L.take (splK L.length)).length _ i (by rw [List.length_take]; omega) (Nat.le_refl _)]
theorem pathF_high (L : List (List UInt8)) (i : Nat) (h : 2 ≤ L.length) (hi : ¬ i < splK L.length) : pathF L i = pathF (L.drop (splK L.length)) (i - splK L.length) ++ [rootF (L.take (splK L.length))] := by
  obtain ⟨b1, b2, b3⟩ := splK_bounds h
  unfold pathF
  obtain ⟨f, hf⟩ : ∃ f, L.length = f + 1 := ⟨L.length - 1, by omega⟩
  conv => lhs; rw [hf, pathGo]
  rw [if_neg (by omega), if_neg hi, pathGo_enough f (L.drop (splK L.length)).length _ _ (by rw [List.length_drop]; omega) (Nat.le_refl _)]
/-- what a path tells: the last hash is the other half's -/
def headGo : Nat → List UInt8 → Nat → Nat → List (List UInt8) → List UInt8
  | 0, d, _, _, _ => d
  | f + 1, d, i, n, P => if n ≤ 1 then d else if i < splK n then nodeH (headGo f d i (splK n) P.dropLast) (P.getD (P.length - 1) []) else nodeH (P.getD (P.length - 1) []) (headGo f d (i - splK n) (n - splK n) P.dropLast)
def headF (d : List UInt8) (i n : Nat) (P : List (List UInt8)) : List UInt8 := headGo n d i n P
theorem headGo_enough : ∀ (f g : Nat) (d : List UInt8) (i n : Nat) (P : List (List UInt8)), n ≤ f → n ≤ g → headGo f d i n P = headGo g d i n P := by
  intro f
  induction f with
  | zero => intro g d i n P h1 h2; cases g <;> simp [headGo]; intro h; omega
  | succ f ih =>
    intro g d i n P h1 h2
    cases g with
    | zero => simp [headGo]; intro h; omega
    | succ g =>
      unfold headGo
      by_cases h : n ≤ 1
      · rw [if_pos h, if_pos h]
      · obtain ⟨b1, b2, b3⟩ := splK_bounds (n := n) (by omega)
        rw [if_neg h, if_neg h, ih g d i (splK n) _ (by omega) (by omega), ih g d (i - splK n) (n - splK n) _ (by omega) (by omega)]
theorem headF_one (d : List UInt8) (i n : Nat) (P : List (List UInt8)) (h : n ≤ 1) : headF d i n P = d := by
  unfold headF
  cases n with
  | zero => rfl
  | succ n => rw [headGo, if_pos h]
theorem headF_low (d : List UInt8) (i n : Nat) (P : List (List UInt8)) (h : 2 ≤ n) (hi : i < splK n) : headF d i n P = nodeH (headF d i (splK n) P.dropLast) (P.getD (P.length - 1) []) := by
  obtain ⟨b1, b2, b3⟩ := splK_bounds h
  unfold headF
  obtain ⟨f, hf⟩ : ∃ f, n = f + 1 := ⟨n - 1, by omega⟩
  conv => lhs; rw [hf, headGo]
  rw [← hf, if_neg (by omega), if_pos hi, headGo_enough f (splK n) d i (splK n) _ (by omega) (Nat.le_refl _)]
theorem headF_high (d : List UInt8) (i n : Nat) (P : List (List UInt8)) (h : 2 ≤ n) (hi : ¬ i < splK n) : headF d i n P = nodeH (P.getD (P.length - 1) []) (headF d (i - splK n) (n - splK n) P.dropLast) := by
  obtain ⟨b1, b2, b3⟩ := splK_bounds h
  unfold headF
  obtain ⟨f, hf⟩ : ∃ f, n = f + 1 := ⟨n - 1, by omega⟩
  conv => lhs; rw [hf, headGo]
  rw [← hf, if_neg (by omega), if_neg hi, headGo_enough f (n - splK n) d (i - splK n) (n - splK n) _ (by omega) (Nat.le_refl _)]
theorem snoc_last (P : List (List UInt8)) (x : List UInt8) : (P ++ [x]).dropLast = P ∧ (P ++ [x]).getD ((P ++ [x]).length - 1) [] = x := by
  refine ⟨by simp, ?_⟩
  simp [List.getD]
/-- P10.4, plainly: each path tells the head -/
theorem head_path : ∀ (N : Nat) (L : List (List UInt8)) (i : Nat), L.length ≤ N → i < L.length → headF (L.getD i []) i L.length (pathF L i) = rootF L := by
  intro N
  induction N using Nat.strongRecOn with
  | _ N ih =>
    intro L i hN hi
    by_cases h1 : L.length ≤ 1
    · rw [headF_one _ _ _ _ h1]
      match L, h1, hi with
      | [a], _, hi =>
        obtain rfl : i = 0 := by simpa using hi
        rfl
    · obtain ⟨b1, b2, b3⟩ := splK_bounds (n := L.length) (by omega)
      have ht : (L.take (splK L.length)).length = splK L.length := by rw [List.length_take]; omega
      have hd : (L.drop (splK L.length)).length = L.length - splK L.length := List.length_drop
      rw [rootF_more (L := L) (by omega)]
      by_cases h : i < splK L.length
      · rw [pathF_low L i (by omega) h, headF_low _ _ _ _ (by omega) h, (snoc_last _ _).1, (snoc_last _ _).2]
        have := ih (splK L.length) (by omega) (L.take (splK L.length)) i (by omega) (by omega)
        rw [ht] at this
        have e : (L.take (splK L.length)).getD i [] = L.getD i [] := by simp [List.getD, h]
        rw [e] at this
        rw [this]
      · rw [pathF_high L i (by omega) h, headF_high _ _ _ _ (by omega) h, (snoc_last _ _).1, (snoc_last _ _).2]
        have := ih (L.length - splK L.length) (by omega) (L.drop (splK L.length)) (i - splK L.length) (by omega) (by omega)
        rw [hd] at this
        have e : (L.drop (splK L.length)).getD (i - splK L.length) [] = L.getD i [] := by
          simp only [List.getD, List.getElem?_drop]
          rw [show splK L.length + (i - splK L.length) = i by omega]
        rw [e] at this
        rw [this]
theorem path_len : ∀ (N : Nat) (L : List (List UInt8)) (i s : Nat), L.length ≤ N → (pathF L i).length = (rgF i L.length s).length := by
  intro N
  induction N using Nat.strongRecOn with
  | _ N ih =>
    intro L i s hN
    by_cases h1 : L.length ≤ 1
    · rw [pathF_one L i h1, rgF_one _ _ _ h1]; rfl
    · obtain ⟨b1, b2, b3⟩ := splK_bounds (n := L.length) (by omega)
      have ht : (L.take (splK L.length)).length = splK L.length := by rw [List.length_take]; omega
      have hd : (L.drop (splK L.length)).length = L.length - splK L.length := List.length_drop
      by_cases h : i < splK L.length
      · have := ih (splK L.length) (by omega) (L.take (splK L.length)) i s (by omega)
        rw [ht] at this
        rw [pathF_low L i (by omega) h, rgF_low _ _ _ (by omega) h, List.length_append, List.length_append, this]
        rfl
      · have := ih (L.length - splK L.length) (by omega) (L.drop (splK L.length)) (i - splK L.length) (s + splK L.length) (by omega)
        rw [hd] at this
        rw [pathF_high L i (by omega) h, rgF_high _ _ _ (by omega) h, List.length_append, List.length_append, this]
        rfl
theorem path_all : ∀ (N : Nat) (L : List (List UInt8)) (i : Nat), L.length ≤ N → All32 L → All32 (pathF L i) := by
  intro N
  induction N using Nat.strongRecOn with
  | _ N ih =>
    intro L i hN hA
    by_cases h1 : L.length ≤ 1
    · rw [pathF_one L i h1]; exact All32.of (by simp)
    · obtain ⟨b1, b2, b3⟩ := splK_bounds (n := L.length) (by omega)
      have ht : (L.take (splK L.length)).length = splK L.length := by rw [List.length_take]; omega
      have hd : (L.drop (splK L.length)).length = L.length - splK L.length := List.length_drop
      by_cases h : i < splK L.length
      · rw [pathF_low L i (by omega) h]
        have := ih (splK L.length) (by omega) (L.take (splK L.length)) i (by omega) (hA.take _)
        refine All32.of fun x hx => ?_
        rcases List.mem_append.1 hx with hx | hx
        · exact this.mem hx
        · rw [List.mem_singleton.1 hx]; exact rootF_len (hA.drop _)
      · rw [pathF_high L i (by omega) h]
        have := ih (L.length - splK L.length) (by omega) (L.drop (splK L.length)) (i - splK L.length) (by omega) (hA.drop _)
        refine All32.of fun x hx => ?_
        rcases List.mem_append.1 hx with hx | hx
        · exact this.mem hx
        · rw [List.mem_singleton.1 hx]; exact rootF_len (hA.take _)
theorem head_len : ∀ (N : Nat) (d : List UInt8) (i n : Nat) (P : List (List UInt8)), n ≤ N → d.length = 32 → (headF d i n P).length = 32 := by
  intro N d i n P _ hd
  by_cases h1 : n ≤ 1
  · rw [headF_one _ _ _ _ h1]; exact hd
  · by_cases h : i < splK n
    · rw [headF_low _ _ _ _ (by omega) h]; exact shaL_len _
    · rw [headF_high _ _ _ _ (by omega) h]; exact shaL_len _
/-- n leaves of at most 2^k have paths of at most k hashes -/
theorem rg_len : ∀ (k n i s : Nat), n ≤ 2 ^ k → (rgF i n s).length ≤ k := by
  intro k
  induction k with
  | zero => intro n i s h; rw [rgF_one _ _ _ (by simpa using h)]; simp
  | succ k ih =>
    intro n i s h
    rw [Nat.pow_succ] at h
    by_cases h1 : n ≤ 1
    · rw [rgF_one _ _ _ h1]; simp
    · obtain ⟨b1, b2, b3⟩ := splK_bounds (n := n) (by omega)
      have hk : splK n ≤ 2 ^ k := by
        unfold splK
        refine Nat.pow_le_pow_right (by omega) ?_
        have : (n - 1).log2 < k + 1 := by rw [Nat.log2_lt (by omega), Nat.pow_succ]; omega
        omega
      by_cases hi : i < splK n
      · rw [rgF_low _ _ _ (by omega) hi, List.length_append]
        have := ih (splK n) i s hk
        simp only [List.length_singleton]
        omega
      · rw [rgF_high _ _ _ (by omega) hi, List.length_append]
        have := ih (n - splK n) (i - splK n) (s + splK n) (by omega)
        simp only [List.length_singleton]
        omega
end Go.Proofs.Ytcnnblhjgligbaa

namespace Go.Proofs.Ytcnnblhjgligbaa
open Go.RowKit

/-- leaves gathered so far, and a range beside them -/
def stepC (c : Option (Nat × Nat)) (r : Nat × Nat) : Option (Nat × Nat) :=
  match c with
  | none => none
  | some (a, b) => if r.1 = b ∧ r.1 < r.2 then some (a, r.2) else if r.2 = a ∧ r.1 < r.2 then some (r.1, b) else none
theorem cover_fold : ∀ (N n i s : Nat), n ≤ N → i < n → (rgF i n s).foldl stepC (some (s + i, s + i + 1)) = some (s, s + n) := by
  intro N
  induction N using Nat.strongRecOn with
  | _ N ih =>
    intro n i s hN hi
    by_cases h1 : n ≤ 1
    · rw [rgF_one _ _ _ h1]
      obtain rfl : i = 0 := by omega
      obtain rfl : n = 1 := by omega
      rfl
    · obtain ⟨b1, b2, b3⟩ := splK_bounds (n := n) (by omega)
      by_cases h : i < splK n
      · have := ih (splK n) (by omega) (splK n) i s (Nat.le_refl _) h
        rw [rgF_low _ _ _ (by omega) h, List.foldl_append, this]
        show stepC (some (s, s + splK n)) (s + splK n, s + n) = _
        simp only [stepC]
        rw [if_pos ⟨trivial, by omega⟩]
      · have := ih (n - splK n) (by omega) (n - splK n) (i - splK n) (s + splK n) (Nat.le_refl _) (by omega)
        rw [show s + splK n + (i - splK n) = s + i by omega] at this
        rw [rgF_high _ _ _ (by omega) h, List.foldl_append, this]
        show stepC (some (s + splK n, s + splK n + (n - splK n))) (s, s + splK n) = _
        simp only [stepC]
        rw [if_neg (by omega), if_pos ⟨trivial, by omega⟩]
        congr 2
        omega
theorem rg_in : ∀ (N n i s : Nat), n ≤ N → i < n → ∀ r ∈ rgF i n s, s ≤ r.1 ∧ r.1 < r.2 ∧ r.2 ≤ s + n := by
  intro N
  induction N using Nat.strongRecOn with
  | _ N ih =>
    intro n i s hN hi r hr
    by_cases h1 : n ≤ 1
    · rw [rgF_one _ _ _ h1] at hr; cases hr
    · obtain ⟨b1, b2, b3⟩ := splK_bounds (n := n) (by omega)
      by_cases h : i < splK n
      · rw [rgF_low _ _ _ (by omega) h] at hr
        rcases List.mem_append.1 hr with hr | hr
        · have := ih (splK n) (by omega) (splK n) i s (Nat.le_refl _) h r hr; omega
        · rw [List.mem_singleton.1 hr]; simp only; omega
      · rw [rgF_high _ _ _ (by omega) h] at hr
        rcases List.mem_append.1 hr with hr | hr
        · have := ih (n - splK n) (by omega) (n - splK n) (i - splK n) (s + splK n) (Nat.le_refl _) (by omega) r hr; omega
        · rw [List.mem_singleton.1 hr]; simp only; omega
/-- one step up a path -/
def stepU (i : Nat) (d : List UInt8) (x : (Nat × Nat) × List UInt8) : List UInt8 := if x.1.1 ≤ i then nodeH x.2 d else nodeH d x.2
theorem last_split {P : List (List UInt8)} (h : 0 < P.length) : P = P.dropLast ++ [P.getD (P.length - 1) []] := by
  have hne : P ≠ [] := by intro e; rw [e] at h; simp at h
  have h1 := List.dropLast_concat_getLast hne
  have h2 : P.getLast hne = P.getD (P.length - 1) [] := by
    rw [List.getLast_eq_getElem]
    simp [List.getD, show P.length - 1 < P.length by omega]
  rw [h2] at h1
  exact h1.symm
theorem head_fold : ∀ (N n i s : Nat) (d : List UInt8) (P : List (List UInt8)), n ≤ N → i < n → P.length = (rgF i n s).length →
    headF d i n P = ((rgF i n s).zip P).foldl (stepU (s + i)) d := by
  intro N
  induction N using Nat.strongRecOn with
  | _ N ih =>
    intro n i s d P hN hi hl
    by_cases h1 : n ≤ 1
    · rw [headF_one _ _ _ _ h1, rgF_one _ _ _ h1]; rfl
    · obtain ⟨b1, b2, b3⟩ := splK_bounds (n := n) (by omega)
      by_cases h : i < splK n
      · rw [rgF_low _ _ _ (by omega) h, List.length_append, List.length_singleton] at hl
        have hP := last_split (P := P) (by omega)
        have hdl : P.dropLast.length = (rgF i (splK n) s).length := by rw [List.length_dropLast]; omega
        rw [headF_low _ _ _ _ (by omega) h, rgF_low _ _ _ (by omega) h, ih (splK n) (by omega) (splK n) i s d P.dropLast (Nat.le_refl _) h hdl]
        conv => rhs; rw [hP]
        rw [List.zip_append hdl.symm, List.foldl_append]
        show _ = stepU (s + i) _ ((s + splK n, s + n), P.getD (P.length - 1) [])
        unfold stepU
        rw [if_neg (by simp only; omega)]
      · rw [rgF_high _ _ _ (by omega) h, List.length_append, List.length_singleton] at hl
        have hP := last_split (P := P) (by omega)
        have hdl : P.dropLast.length = (rgF (i - splK n) (n - splK n) (s + splK n)).length := by rw [List.length_dropLast]; omega
        have hi2 := ih (n - splK n) (by omega) (n - splK n) (i - splK n) (s + splK n) d P.dropLast (Nat.le_refl _) (by omega) hdl
        rw [show s + splK n + (i - splK n) = s + i by omega] at hi2
        rw [headF_high _ _ _ _ (by omega) h, rgF_high _ _ _ (by omega) h, hi2]
        conv => rhs; rw [hP]
        rw [List.zip_append hdl.symm, List.foldl_append]
        show _ = stepU (s + i) _ ((s, s + splK n), P.getD (P.length - 1) [])
        unfold stepU
        rw [if_pos (by simp only; omega)]
/-- two that differ below and are one above meet on the way -/
theorem meet_fold (i : Nat) : ∀ (l : List ((Nat × Nat) × List UInt8)) (a b : List UInt8), a ≠ b → l.foldl (stepU i) a = l.foldl (stepU i) b →
    ∃ k, k < l.length ∧ (l.take k).foldl (stepU i) a ≠ (l.take k).foldl (stepU i) b ∧ (l.take (k + 1)).foldl (stepU i) a = (l.take (k + 1)).foldl (stepU i) b ∧ ∀ j, j ≤ k → (l.take j).foldl (stepU i) a ≠ (l.take j).foldl (stepU i) b := by
  intro l
  induction l with
  | nil => intro a b hne he; exact absurd he hne
  | cons x l ih =>
    intro a b hne he
    by_cases h : stepU i a x = stepU i b x
    · refine ⟨0, by simp, by simpa using hne, by simpa using h, fun j hj => ?_⟩
      obtain rfl : j = 0 := by omega
      simpa using hne
    · obtain ⟨k, hk, h1, h2, h3⟩ := ih _ _ h he
      refine ⟨k + 1, by simpa using hk, by simpa using h1, by simpa using h2, fun j hj => ?_⟩
      cases j with
      | zero => simpa using hne
      | succ j => simpa using h3 j (by omega)
end Go.Proofs.Ytcnnblhjgligbaa

namespace Go.Proofs.Ytcnnblhjgligbaa
open Go.RowKit

theorem pow_le20 {k : Nat} (h : k ≤ 20) : 2 ^ k ≤ 2 ^ 20 := Nat.pow_le_pow_right (by omega) h

/-- where a list is parted -/
def okS (n : Int) : Bool := decide (2 ≤ n) && decide (n ≤ 1048576)
def spV (n : Int) : Int := if okS n then ((2 ^ (n.toNat - 1).log2 : Nat) : Int) else 0
def seF (n : Int) : Int := if okS n then 0 else 1
theorem okS_no {n : Int} (h : okS n = false) : n < 2 ∨ (2 ≤ n ∧ 1048576 < n) := by
  simp [okS] at h
  omega
theorem okS_yes {n : Int} (h : okS n = true) : ∃ N : Nat, n - 1 = (N : Int) ∧ n.toNat - 1 = N ∧ 1 ≤ N ∧ N < 2 ^ 20 ∧ N.log2 < 20 := by
  simp [okS] at h
  refine ⟨n.toNat - 1, by omega, rfl, by omega, by omega, ?_⟩
  rw [Nat.log2_lt (by omega)]
  omega

theorem Split_any (n : Int) (w : World) (_h0 : 0 ≤ n) :
    Calls Try.prog 23 #[.int .u64 n] w fun e w' => e = .returned (.tuple #[.int .u64 (spV n), .int .i64 (seF n)]) ∧ w' = w := by
  cases hm : okS n with
  | false =>
    have e1 : spV n = 0 := by simp [spV, hm]
    have e2 : seF n = 1 := by simp [seF, hm]
    rw [e1, e2]
    rcases okS_no hm with h | ⟨h, h'⟩
    · have c : (n : Int) < 2 := h
      clear hm e1 e2
      go_enter Try.func23, Try.ntmps23
      go_wp2
      exact bodyPost_ret (results_tmp2 rfl _ _ _) rfl ⟨rfl, rfl⟩
    · have c : ¬ (n : Int) < 2 := by omega
      have c2 : ¬ (n ≤ 1048576) := by omega
      clear hm e1 e2
      go_enter Try.func23, Try.ntmps23
      go_wp2
      exact bodyPost_ret (results_tmp2 rfl _ _ _) rfl ⟨rfl, rfl⟩
  | true =>
    obtain ⟨N, hn, hn2, hN1, hN2, hN3⟩ := okS_yes hm
    have c : ¬ (n < 2) := by omega
    have c2 : n ≤ 1048576 := by omega
    have e1 : spV n = ((2 ^ N.log2 : Nat) : Int) := by
      unfold spV
      rw [hm, if_pos rfl, hn2]
    have e2 : seF n = 0 := by simp only [seF, hm, if_true]
    rw [e1, e2]
    clear e1 e2 hm hn2
    have hb : Lib.bitLen N = N.log2 + 1 := bitLen_log N (by omega) (by omega)
    obtain ⟨E, hE⟩ : ∃ E, E = N.log2 := ⟨_, rfl⟩
    rw [← hE] at hb hN3 ⊢
    have hc := fun w => Try.bits_Len64 (N : Int) w (by omega) (by omega)
    rw [Int.toNat_natCast, hb] at hc
    have hk : Hid (IntKind.u64.wrap (2 ^ E) = ((2 ^ E : Nat) : Int)) := by
      show _ = _
      have := pow_le20 (k := E) (by omega)
      rw [IntKind.wrap_u64, show ((2 : Int) ^ E) = ((2 ^ E : Nat) : Int) by push_cast; rfl]
      generalize 2 ^ E = x at *
      omega
    clear hb hE
    go_enter Try.func23, Try.ntmps23
    go_wp2_with (go_at_call 33; refine (hc _).mono ?_; rintro _ _ ⟨rfl, rfl⟩)
    rw [hk.out]
    exact bodyPost_ret (results_tmp2 rfl _ _ _) rfl ⟨rfl, rfl⟩

theorem rSplit_any (n : Int) (w : World) (h0 : 0 ≤ n) :
    Calls Try.prog 34 #[.int .u64 n] w fun e w' => e = .returned (.tuple #[.int .u64 (spV n), .int .i64 (seF n)]) ∧ w' = w := by
  cases hm : okS n with
  | false =>
    have e1 : spV n = 0 := by simp [spV, hm]
    have e2 : seF n = 1 := by simp [seF, hm]
    rw [e1, e2]
    rcases okS_no hm with h | ⟨h, h'⟩
    · have c : (n : Int) < 2 := h
      clear hm e1 e2
      go_enter Try.func34, Try.ntmps34
      go_wp2
      exact bodyPost_ret (results_tmp2 rfl _ _ _) rfl ⟨rfl, rfl⟩
    · have c : ¬ (n : Int) < 2 := by omega
      have c2 : ¬ (n ≤ 1048576) := by omega
      clear hm e1 e2
      go_enter Try.func34, Try.ntmps34
      go_wp2
      exact bodyPost_ret (results_tmp2 rfl _ _ _) rfl ⟨rfl, rfl⟩
  | true =>
    obtain ⟨N, hn, hn2, hN1, hN2, hN3⟩ := okS_yes hm
    have c : ¬ (n < 2) := by omega
    have c2 : n ≤ 1048576 := by omega
    have e1 : spV n = ((2 ^ N.log2 : Nat) : Int) := by
      unfold spV
      rw [hm, if_pos rfl, hn2]
    have e2 : seF n = 0 := by simp only [seF, hm, if_true]
    rw [e1, e2]
    clear e1 e2 hm hn2
    have hl1 := Nat.log2_self_le (n := N) (by omega)
    have hl2 := @Nat.lt_log2_self N
    obtain ⟨E, hE⟩ : ∃ E, E = N.log2 := ⟨_, rfl⟩
    rw [← hE] at hl1 hl2 hN3 ⊢
    obtain ⟨Y, hY⟩ : ∃ Y, Y = 2 ^ E := ⟨_, rfl⟩
    rw [← hY]
    rw [← hY] at hl1
    have HY := Lib.hid hY
    have HL2 := Lib.hid hl2
    have HN := Lib.hid hn
    clear hE hY hl2 hn
    go_enter Try.func34, Try.ntmps34
    go_wp2
    obtain ⟨w0, hw0⟩ : ∃ w0 : World, w0 = w := ⟨_, rfl⟩
    go_loopw [4] (fun k wr => ∃ j : Nat, j ≤ E ∧ k = .int .u64 ((2 ^ j : Nat) : Int) ∧ wr = w0) (fun k _ => 2 ^ 21 - (intOf k).toNat)
    case atStart => exact ⟨0, Nat.zero_le _, rfl, hw0.symm⟩
    case round =>
      obtain ⟨j, hj, rfl, rfl⟩ := hrel
      have hp := pow_le20 (k := j) (by omega)
      have hp0 : 0 < 2 ^ j := Nat.two_pow_pos j
      have hp2 : 2 ^ (j + 1) = 2 * 2 ^ j := by rw [Nat.pow_succ, Nat.mul_comm]
      have hmono : j + 1 ≤ E → 2 ^ (j + 1) ≤ Y := fun h => by rw [HY.out]; exact Nat.pow_le_pow_right (by omega) h
      have hmono2 : E ≤ j → 2 ^ (E + 1) ≤ 2 ^ (j + 1) := fun h => Nat.pow_le_pow_right (by omega) (by omega)
      obtain ⟨X, hX⟩ : ∃ X, X = 2 ^ j := ⟨_, rfl⟩
      rw [hp2] at hmono hmono2
      rw [← hX] at hp hp0 hp2 hmono hmono2 ⊢
      have hn := HN.out
      by_cases hlt : 2 * X < N + 1
      · have hjE : j + 1 ≤ E := by
          have := HL2.out
          rcases Nat.lt_or_ge j E with h | h
          · omega
          · have := hmono2 h; omega
        have H2 := Lib.hid hp2
        have hcc : 2 * (X : Int) < n := by omega
        clear hn hp2 hX hmono hmono2 hlt
        go_wp2
        go_roundw
        case rel => exact ⟨j + 1, hjE, by rw [H2.out]; go_num, hw0.symm⟩
        case measure => simp [intOf]; omega
      · have hjE : j = E := by
          rcases Nat.lt_or_ge j E with h | h
          · have := hmono (by omega); omega
          · omega
        have hXY : Hid (X = Y) := by
          show _ = _
          rw [hX, HY.out, hjE]
        have hcc : ¬ (2 * (X : Int) < n) := by omega
        clear hn hp2 hX hmono hmono2 hlt hjE
        go_wp2
        refine bodyPost_ret (results_tmp2 rfl _ _ _) rfl ⟨?_, rfl⟩
        rw [← hXY.out]
        rfl
theorem spV_nat {n : Nat} (h : 2 ≤ n) (h2 : n ≤ 1048576) : spV (n : Int) = ((splK n : Nat) : Int) ∧ seF (n : Int) = 0 := by
  have hm : okS (n : Int) = true := by simp [okS]; omega
  refine ⟨?_, by simp only [seF, hm, if_true]⟩
  unfold spV splK
  rw [hm, if_pos rfl, Int.toNat_natCast]
theorem spV_one : spV (1 : Int) = 0 ∧ seF (1 : Int) = 1 := by decide
theorem Split_nat (n : Nat) (w : World) (h : 2 ≤ n) (h2 : n ≤ 1048576) :
    Calls Try.prog 23 #[.int .u64 (n : Int)] w fun e w' => e = .returned (.tuple #[.int .u64 ((splK n : Nat) : Int), .int .i64 0]) ∧ w' = w := by
  have := Split_any (n : Int) w (by omega)
  rwa [(spV_nat h h2).1, (spV_nat h h2).2] at this
theorem Split_one (w : World) :
    Calls Try.prog 23 #[.int .u64 (1 : Int)] w fun e w' => e = .returned (.tuple #[.int .u64 0, .int .i64 1]) ∧ w' = w := by
  have := Split_any (1 : Int) w (by omega)
  rwa [spV_one.1, spV_one.2] at this
theorem rSplit_nat (n : Nat) (w : World) (h : 2 ≤ n) (h2 : n ≤ 1048576) :
    Calls Try.prog 34 #[.int .u64 (n : Int)] w fun e w' => e = .returned (.tuple #[.int .u64 ((splK n : Nat) : Int), .int .i64 0]) ∧ w' = w := by
  have := rSplit_any (n : Int) w (by omega)
  rwa [(spV_nat h h2).1, (spV_nat h h2).2] at this
end Go.Proofs.Ytcnnblhjgligbaa
