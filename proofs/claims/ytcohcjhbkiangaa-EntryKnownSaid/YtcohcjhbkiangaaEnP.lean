/-
  Records and items read back, over plain lists. Conditions: those in each statement.
-/
import Derived.Test.YtcohcjhbkiangaaEnF
namespace Go.Proofs.Ytcohcjhbkiangaa
open Go.RowKit

theorem digits_snocP (n k : Nat) : digits n (k + 1) = digits (n / 256) k ++ [UInt8.ofNat n] := by
  unfold digits
  rw [List.range_succ, List.map_append]
  congr 1
  · apply List.map_congr_left
    intro i hi
    have := List.mem_range.1 hi
    unfold digit
    have e : k + 1 - 1 - i = (k - 1 - i) + 1 := by omega
    rw [e, Nat.pow_succ, Nat.mul_comm, ← Nat.div_div_eq_div_mul]
  · simp [digit]
theorem beNat_digitsP (n k : Nat) (h : n < 256 ^ k) : beNat (digits n k) = n := by
  induction k generalizing n with
  | zero => simp [digits, beNat]; omega
  | succ k ih =>
    rw [digits_snocP, beNat_snoc, ih (n / 256) (by rw [Nat.pow_succ] at h; omega), UInt8.toNat_ofNat']
    omega
theorem digits_beNatP : ∀ (k : Nat) (xs : List UInt8), xs.length = k → digits (beNat xs) k = xs := by
  intro k
  induction k with
  | zero => intro xs h; rw [List.eq_nil_of_length_eq_zero h]; rfl
  | succ k ih =>
    intro xs h
    obtain ⟨ys, y, rfl⟩ : ∃ ys y, xs = ys ++ [y] := ⟨xs.dropLast, xs.getLast (by intro e; rw [e] at h; cases h), (List.dropLast_concat_getLast _).symm⟩
    have hl : ys.length = k := by simpa using h
    have hy := y.toNat_lt
    rw [digits_snocP, beNat_snoc]
    have e1 : (256 * beNat ys + y.toNat) / 256 = beNat ys := by omega
    have e2 : UInt8.ofNat (256 * beNat ys + y.toNat) = y := by
      rw [← UInt8.toNat_inj, UInt8.toNat_ofNat']
      omega
    rw [e1, e2, ih ys hl]
theorem take_left {α : Type} {xs ys : List α} {n : Nat} (h : xs.length = n) : (xs ++ ys).take n = xs := by rw [List.take_append_of_le_length (by omega), List.take_of_length_le (by omega)]
theorem drop_left {α : Type} {xs ys : List α} {n : Nat} (h : xs.length = n) : (xs ++ ys).drop n = ys := by rw [← h, List.drop_left]

/-- a vector with a size of three is read back -/
theorem rvec3_of (x r : List UInt8) (h : x.length < 16777216) : rvecF (vec3 x ++ r) 3 = (x, 0, r) := by
  have hd := digits_len x.length 3
  have e1 : ((vec3 x ++ r).take 3) = digits x.length 3 := by rw [vec3, List.append_assoc]; exact take_left hd
  have e2 : beNat (digits x.length 3) = x.length := beNat_digitsP _ _ (by simpa using h)
  have hl : (vec3 x ++ r).length = x.length + 3 + r.length := by rw [List.length_append, vec3_len]
  unfold rvecF
  rw [if_pos (by decide), if_neg (by rw [hl]; omega)]
  show (if (vec3 x ++ r).length < 3 + beNat ((vec3 x ++ r).take 3) then _ else (((vec3 x ++ r).drop 3).take (beNat ((vec3 x ++ r).take 3)), 0, (vec3 x ++ r).drop (3 + beNat ((vec3 x ++ r).take 3)))) = _
  rw [e1, e2, if_neg (by omega)]
  have e3 : (vec3 x ++ r).drop 3 = x ++ r := by rw [vec3, List.append_assoc]; exact drop_left hd
  rw [← List.drop_drop, e3, List.take_left, List.drop_left]
theorem rvec3_inv {xs x r : List UInt8} (h : rvecF xs 3 = (x, 0, r)) : xs = vec3 x ++ r ∧ x.length < 16777216 := by
  unfold rvecF at h
  rw [if_pos (by decide)] at h
  split at h
  · cases h
  · rename_i h1
    split at h
    · cases h
    · rename_i h2
      have ht : ((3 : Int).toNat) = 3 := rfl
      rw [ht] at h h2
      have hl : 3 ≤ xs.length := by omega
      have h3 : (xs.take 3).length = 3 := by simp; omega
      have hb := beNat_lt (xs.take 3)
      rw [h3] at hb
      injection h with e1 e2
      injection e2 with _ e3
      have hx : x.length = beNat (xs.take 3) := by rw [← e1, List.length_take, List.length_drop]; omega
      refine ⟨?_, by rw [hx]; simpa using hb⟩
      have hr : r = (xs.drop 3).drop (beNat (xs.take 3)) := by rw [List.drop_drop, ← e3]
      rw [vec3, hx, digits_beNatP 3 _ h3, ← e1, hr, List.append_assoc, List.take_append_drop, List.take_append_drop]
theorem rvec3_err {xs : List UInt8} (h : (rvecF xs 3).2.1 ≠ 0) : (rvecF xs 3).1 = [] := by
  unfold rvecF at h ⊢
  rw [if_pos (by decide)] at h ⊢
  split
  · rfl
  · rename_i h1
    rw [if_neg h1] at h
    split
    · rfl
    · rename_i h2
      rw [if_neg h2] at h
      exact absurd rfl h
theorem vec3_ne (x r : List UInt8) : vec3 x ++ r ≠ [] := by
  intro e
  have := congrArg List.length e
  rw [List.length_append, vec3_len] at this
  simp at this
theorem rvec3_less {xs : List UInt8} : (rvecF xs 3).2.1 = 0 → (rvecF xs 3).2.2.length < xs.length := by
  intro h
  have := rvec3_inv (xs := xs) (x := (rvecF xs 3).1) (r := (rvecF xs 3).2.2) (by rw [← h])
  have hl := congrArg List.length this.1
  rw [List.length_append, vec3_len] at hl
  omega
theorem rnum_of (n k : Nat) (r : List UInt8) (hk : sizeB k = true) (h : n < 256 ^ k) : rnumF (digits n k ++ r) k = (n, 0, r) := by
  have hd := digits_len n k
  unfold rnumF
  rw [if_pos hk, if_neg (by rw [List.length_append, hd]; omega)]
  have ht : ((k : Int).toNat) = k := by omega
  rw [ht, take_left hd, drop_left hd, beNat_digitsP _ _ h]
theorem rnum_inv {xs : List UInt8} {n k : Nat} {r : List UInt8} (h : rnumF xs k = (n, 0, r)) : xs = digits n k ++ r ∧ n < 256 ^ k := by
  unfold rnumF at h
  split at h
  · split at h
    · cases h
    · rename_i h2
      have ht : ((k : Int).toNat) = k := by omega
      rw [ht] at h
      have h3 : (xs.take k).length = k := by simp; omega
      have hb := beNat_lt (xs.take k)
      rw [h3] at hb
      injection h with e1 e2
      injection e2 with _ e3
      refine ⟨?_, by rw [← e1]; exact hb⟩
      rw [← e1, ← e3, digits_beNatP k _ h3, List.take_append_drop]
  · cases h
theorem rnum_len (xs : List UInt8) (size : Int) : (rnumF xs size).2.2.length ≤ xs.length := by
  unfold rnumF
  split
  · split
    · exact Nat.le_refl _
    · show (xs.drop _).length ≤ _
      rw [List.length_drop]; omega
  · exact Nat.le_refl _
theorem rnum8_lt (xs : List UInt8) : (rnumF xs 8).1 ≤ 18446744073709551615 := by
  unfold rnumF
  split
  · split
    · exact Nat.zero_le _
    · rename_i h2
      have hb := beNat_lt (xs.take (8 : Int).toNat)
      have h3 : (xs.take (8 : Int).toNat).length = 8 := by simp; omega
      rw [h3] at hb
      exact Nat.le_of_lt_succ (by simpa using hb)
  · exact Nat.zero_le _

/-- the program's loop over a list's bytes: k certificates may still come -/
def certsF : Nat → List UInt8 → List (List UInt8) × Int
  | 0, _ => ([], 0)
  | k + 1, xs => if xs = [] then ([], 0) else if (rvecF xs 3).2.1 = 0 then ((rvecF xs 3).1 :: (certsF k (rvecF xs 3).2.2).1, (certsF k (rvecF xs 3).2.2).2) else ([], (rvecF xs 3).2.1)
/-- a list of certificates that is taken: the certificates, an error's number, what is left -/
def takeListF (xs : List UInt8) : List (List UInt8) × Int × List UInt8 :=
  if (rvecF xs 3).2.1 = 0 then
    (if (certsF 4 (rvecF xs 3).1).2 = 0 then ((certsF 4 (rvecF xs 3).1).1, 0, (rvecF xs 3).2.2) else ([], (certsF 4 (rvecF xs 3).1).2, (rvecF xs 3).2.2))
  else ([], (rvecF xs 3).2.1, (rvecF xs 3).2.2)

theorem cat_cons (x : List UInt8) (l : List (List UInt8)) : catF (x :: l) = vec3 x ++ catF l := by simp [catF]
theorem certs_of : ∀ (l : List (List UInt8)) (k : Nat), l.length ≤ k → (∀ x ∈ l, x.length < 16777216) → certsF k (catF l) = (l, 0)
  | [], k, _, _ => by cases k <;> simp [certsF, catF]
  | x :: l, 0, h, _ => by simp at h
  | x :: l, k + 1, h, hx => by
    have ih := certs_of l k (by simpa using h) (fun y hy => hx y (List.mem_cons_of_mem _ hy))
    rw [cat_cons]
    unfold certsF
    rw [if_neg (vec3_ne _ _), rvec3_of x (catF l) (hx x (List.mem_cons_self ..))]
    simp [ih]
theorem takeList_of (l : List (List UInt8)) (r : List UInt8) (h4 : l.length ≤ 4) (hx : ∀ x ∈ l, x.length ≤ 512) : takeListF (listF l ++ r) = (l, 0, r) := by
  have hc := cat_bound h4 hx
  unfold takeListF listF
  rw [rvec3_of _ _ (by omega)]
  simp [certs_of l 4 h4 (fun x h => by have := hx x h; omega)]

/-- the entry of which bs is the record; 5: there is none -/
noncomputable def takeRecR (bs : List UInt8) : (Nat × List (List UInt8)) × Int :=
  open Classical in if h : ∃ p : Nat × List (List UInt8), p.1 ≤ 18446744073709551615 ∧ mayB p.2 = true ∧ bs = recF p.1 p.2 then (h.choose, 0) else ((0, []), 5)
theorem rec_read (t : Nat) (l : List (List UInt8)) (ht : t ≤ 18446744073709551615) (hm : mayB l = true) : rnumF (recF t l) 8 = (t, 0, listF l) ∧ takeListF (listF l) = (l, 0, []) := by
  obtain ⟨-, h4, hx⟩ := mayB_parts hm
  refine ⟨rnum_of t 8 (listF l) (by decide) (Nat.lt_of_le_of_lt ht (by decide)), ?_⟩
  have := takeList_of l [] h4 (fun x h => (hx x h).2)
  rwa [List.append_nil] at this
theorem takeRec_yes (t : Nat) (l : List (List UInt8)) (ht : t ≤ 18446744073709551615) (hm : mayB l = true) : takeRecR (recF t l) = ((t, l), 0) := by
  have h : ∃ p : Nat × List (List UInt8), p.1 ≤ 18446744073709551615 ∧ mayB p.2 = true ∧ recF t l = recF p.1 p.2 := ⟨(t, l), ht, hm, rfl⟩
  unfold takeRecR
  rw [dif_pos h]
  obtain ⟨h1, h2, h3⟩ := h.choose_spec
  have r1 := rec_read t l ht hm
  have r2 := rec_read _ _ h1 h2
  rw [← h3, r1.1] at r2
  injection r2.1 with e1 e2
  injection e2 with _ e3
  have r4 := r2.2
  rw [← e3, r1.2] at r4
  injection r4 with e4
  rw [show h.choose = (t, l) from Prod.ext e1.symm e4.symm]
theorem takeRec_no (bs : List UInt8) (h : ¬ ∃ t l, t ≤ 18446744073709551615 ∧ mayB l = true ∧ bs = recF t l) : takeRecR bs = ((0, []), 5) := by
  unfold takeRecR
  rw [dif_neg (fun ⟨p, hp⟩ => h ⟨p.1, p.2, hp⟩)]

/-- the entry of which (ls, xs) is the item; 5: there is none -/
noncomputable def takeItemR (ls xs : List UInt8) : (Nat × List (List UInt8)) × Int :=
  open Classical in if h : ∃ p : Nat × List (List UInt8), p.1 ≤ 18446744073709551615 ∧ mayB p.2 = true ∧ ls = stampF p.1 (p.2.getD 0 []) ∧ xs = listF (p.2.drop 1) then (h.choose, 0) else ((0, []), 5)
theorem stamp_split (t : Nat) (c : List UInt8) : stampF t c = digits 0 1 ++ (digits 0 1 ++ (digits t 8 ++ (digits 0 2 ++ (vec3 c ++ digits 0 2)))) := by simp [stampF, stampL]
theorem item_read (t : Nat) (c : List UInt8) (ht : t ≤ 18446744073709551615) (hc : c.length ≤ 512) :
    rnumF (stampF t c) 1 = (0, 0, digits 0 1 ++ (digits t 8 ++ (digits 0 2 ++ (vec3 c ++ digits 0 2)))) ∧
    rnumF (digits 0 1 ++ (digits t 8 ++ (digits 0 2 ++ (vec3 c ++ digits 0 2)))) 1 = (0, 0, digits t 8 ++ (digits 0 2 ++ (vec3 c ++ digits 0 2))) ∧
    rnumF (digits t 8 ++ (digits 0 2 ++ (vec3 c ++ digits 0 2))) 8 = (t, 0, digits 0 2 ++ (vec3 c ++ digits 0 2)) ∧
    rnumF (digits 0 2 ++ (vec3 c ++ digits 0 2)) 2 = (0, 0, vec3 c ++ digits 0 2) ∧
    rvecF (vec3 c ++ digits 0 2) 3 = (c, 0, digits 0 2) := by
  rw [stamp_split]
  exact ⟨rnum_of 0 1 _ (by decide) (by decide), rnum_of 0 1 _ (by decide) (by decide), rnum_of t 8 _ (by decide) (Nat.lt_of_le_of_lt ht (by decide)), rnum_of 0 2 _ (by decide) (by decide), rvec3_of _ _ (by omega)⟩
theorem stamp_one {t u : Nat} {c d : List UInt8} (ht : t ≤ 18446744073709551615) (hu : u ≤ 18446744073709551615) (hc : c.length ≤ 512) (hd : d.length ≤ 512) (h : stampF t c = stampF u d) : t = u ∧ c = d := by
  obtain ⟨a1, a2, a3, a4, a5⟩ := item_read t c ht hc
  obtain ⟨b1, b2, b3, b4, b5⟩ := item_read u d hu hd
  rw [h, b1] at a1
  injection a1 with _ a1; injection a1 with _ e1
  rw [← e1, b2] at a2
  injection a2 with _ a2; injection a2 with _ e2
  rw [← e2, b3] at a3
  injection a3 with e a3; injection a3 with _ e3
  rw [← e3, b4] at a4
  injection a4 with _ a4; injection a4 with _ e4
  rw [← e4, b5] at a5
  injection a5 with e' _
  exact ⟨e.symm, e'.symm⟩
theorem may_first {l : List (List UInt8)} (h : mayB l = true) : ∃ c r, l = c :: r ∧ c.length ≤ 512 ∧ r.length ≤ 3 ∧ ∀ x ∈ r, x.length ≤ 512 := by
  obtain ⟨h1, h4, hx⟩ := mayB_parts h
  cases l with
  | nil => simp at h1
  | cons c r => exact ⟨c, r, rfl, (hx c (List.mem_cons_self ..)).2, by simpa using h4, fun x hx' => (hx x (List.mem_cons_of_mem _ hx')).2⟩
theorem takeItem_yes (t : Nat) (l : List (List UInt8)) (ht : t ≤ 18446744073709551615) (hm : mayB l = true) : takeItemR (stampF t (l.getD 0 [])) (listF (l.drop 1)) = ((t, l), 0) := by
  have h : ∃ p : Nat × List (List UInt8), p.1 ≤ 18446744073709551615 ∧ mayB p.2 = true ∧ stampF t (l.getD 0 []) = stampF p.1 (p.2.getD 0 []) ∧ listF (l.drop 1) = listF (p.2.drop 1) := ⟨(t, l), ht, hm, rfl, rfl⟩
  unfold takeItemR
  rw [dif_pos h]
  obtain ⟨h1, h2, h3, h4⟩ := h.choose_spec
  generalize h.choose = p at *
  obtain ⟨u, m⟩ := p
  obtain ⟨c, r, rfl, hc, hr, hx⟩ := may_first hm
  obtain ⟨d, s, rfl, hd, hs, hy⟩ := may_first h2
  obtain ⟨rfl, e⟩ := stamp_one ht h1 hc hd h3
  have e : c = d := e
  subst e
  have k1 := takeList_of r [] (by omega) hx
  have k2 := takeList_of s [] (by omega) hy
  rw [show listF r = listF s from h4, k2] at k1
  injection k1 with e
  rw [show s = r from e]
theorem takeItem_no (ls xs : List UInt8) (h : ¬ ∃ t l, t ≤ 18446744073709551615 ∧ mayB l = true ∧ ls = stampF t (l.getD 0 []) ∧ xs = listF (l.drop 1)) : takeItemR ls xs = ((0, []), 5) := by
  unfold takeItemR
  rw [dif_neg (fun ⟨p, hp⟩ => h ⟨p.1, p.2, hp⟩)]
end Go.Proofs.Ytcohcjhbkiangaa
