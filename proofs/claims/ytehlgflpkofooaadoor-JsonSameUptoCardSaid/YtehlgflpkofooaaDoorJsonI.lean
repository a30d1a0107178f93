/-
  Go's own test of UTF-8 is the plain one. Conditions: those in each statement.
-/
import Derived.Test.YtehlgflpkofooaaDoorJsonP
import Derived.Lib.ValidLaws
namespace Go.Proofs.YtehlgflpkofooaaDoor
open Go.Lib

def mK (o : Option Nat) (f : Nat → Bool) : Bool := match o with | none => false | some k => f k
theorem mK_none {o : Option Nat} (f : Nat → Bool) (h : o = none) : mK o f = false := by rw [h]; rfl
theorem mK_some {o : Option Nat} {k : Nat} (f : Nat → Bool) (h : o = some k) : mK o f = f k := by rw [h]; rfl

theorem two_all (c : UInt8) (r : List UInt8) (lo hi : Nat) (g : List UInt8 → Bool) (hlo : lo = 128) (hhi : hi = 191) (hg : ∀ d r1, r = d :: r1 → validD r1 = g r1) :
    mK (checkN (r.length + 1) (r.getD 0 0).toNat (r.getD 1 0).toNat (r.getD 2 0).toNat 2 lo hi) (fun k => validD ((c :: r).drop k)) = match (generalizing := false) r with | d :: r1 => cont d && g r1 | _ => false := by
  subst hlo; subst hhi
  match r, hg with
  | [], _ => rw [mK_none _ (by simp [checkN])]
  | d :: r1, hg =>
    have hr := hg d r1 rfl
    unfold cont
    by_cases hd : 128 ≤ d.toNat ∧ d.toNat ≤ 191
    · rw [mK_some _ (k := 2) (by unfold checkN; rw [if_pos rfl, if_neg (by simp; omega)])]
      simp [hd, hr]
    · rw [mK_none _ (by unfold checkN; rw [if_pos rfl, if_pos (by simp; omega)])]
      have : (decide (128 ≤ d.toNat) && decide (d.toNat ≤ 191)) = false := by simp; omega
      simp [this]
theorem three_all (c : UInt8) (r : List UInt8) (lo hi : Nat) (ok : Nat → Nat → Bool) (g : List UInt8 → Bool) (hok : ∀ d e : Nat, d < 256 → e < 256 → ((lo ≤ d ∧ d ≤ hi) ∧ 128 ≤ e ∧ e ≤ 191 ↔ (128 ≤ d ∧ d ≤ 191) ∧ (128 ≤ e ∧ e ≤ 191) ∧ ok d e = true)) (hg : ∀ d e r1, r = d :: e :: r1 → validD r1 = g r1) :
    mK (checkN (r.length + 1) (r.getD 0 0).toNat (r.getD 1 0).toNat (r.getD 2 0).toNat 3 lo hi) (fun k => validD ((c :: r).drop k)) = match (generalizing := false) r with | d :: e :: r1 => (cont d && cont e && ok d.toNat e.toNat) && g r1 | _ => false := by
  match r, hg with
  | [], _ => rw [mK_none _ (by simp [checkN])]
  | [d], _ => rw [mK_none _ (by simp [checkN])]
  | d :: e :: r1, hg =>
    have hr := hg d e r1 rfl
    have hk := hok d.toNat e.toNat d.toNat_lt e.toNat_lt
    unfold cont
    by_cases hd : (lo ≤ d.toNat ∧ d.toNat ≤ hi) ∧ 128 ≤ e.toNat ∧ e.toNat ≤ 191
    · rw [mK_some _ (k := 3) (by unfold checkN; rw [if_neg (by omega), if_pos rfl, if_neg (by simp; omega)])]
      obtain ⟨a1, a2, a3⟩ := hk.1 hd
      simp [a1, a2, a3, hr]
    · rw [mK_none _ (by unfold checkN; rw [if_neg (by omega), if_pos rfl, if_pos (by simp; omega)])]
      have hn := fun h => hd (hk.2 h)
      by_cases b1 : 128 ≤ d.toNat ∧ d.toNat ≤ 191
      · by_cases b2 : 128 ≤ e.toNat ∧ e.toNat ≤ 191
        · have b3 : ok d.toNat e.toNat = false := by
            cases h : ok d.toNat e.toNat
            · rfl
            · exact absurd ⟨b1, b2, h⟩ hn
          simp [b3]
        · have : (decide (128 ≤ e.toNat) && decide (e.toNat ≤ 191)) = false := by simp; omega
          simp [this]
      · have : (decide (128 ≤ d.toNat) && decide (d.toNat ≤ 191)) = false := by simp; omega
        simp [this]
theorem four_all (c : UInt8) (r : List UInt8) (lo hi : Nat) (ok : Nat → Nat → Nat → Bool) (g : List UInt8 → Bool) (hok : ∀ d e f : Nat, d < 256 → e < 256 → f < 256 → ((lo ≤ d ∧ d ≤ hi) ∧ (128 ≤ e ∧ e ≤ 191) ∧ 128 ≤ f ∧ f ≤ 191 ↔ (128 ≤ d ∧ d ≤ 191) ∧ (128 ≤ e ∧ e ≤ 191) ∧ (128 ≤ f ∧ f ≤ 191) ∧ ok d e f = true)) (hg : ∀ d e f r1, r = d :: e :: f :: r1 → validD r1 = g r1) :
    mK (checkN (r.length + 1) (r.getD 0 0).toNat (r.getD 1 0).toNat (r.getD 2 0).toNat 4 lo hi) (fun k => validD ((c :: r).drop k)) = match (generalizing := false) r with | d :: e :: f :: r1 => (cont d && cont e && cont f && ok d.toNat e.toNat f.toNat) && g r1 | _ => false := by
  match r, hg with
  | [], _ => rw [mK_none _ (by simp [checkN])]
  | [d], _ => rw [mK_none _ (by simp [checkN])]
  | [d, e], _ => rw [mK_none _ (by simp [checkN])]
  | d :: e :: f :: r1, hg =>
    have hr := hg d e f r1 rfl
    have hk := hok d.toNat e.toNat f.toNat d.toNat_lt e.toNat_lt f.toNat_lt
    unfold cont
    by_cases hd : (lo ≤ d.toNat ∧ d.toNat ≤ hi) ∧ (128 ≤ e.toNat ∧ e.toNat ≤ 191) ∧ 128 ≤ f.toNat ∧ f.toNat ≤ 191
    · rw [mK_some _ (k := 4) (by unfold checkN; rw [if_neg (by omega), if_neg (by omega), if_pos rfl, if_neg (by simp; omega)])]
      obtain ⟨a1, a2, a3, a4⟩ := hk.1 hd
      simp [a1, a2, a3, a4, hr]
    · rw [mK_none _ (by unfold checkN; rw [if_neg (by omega), if_neg (by omega), if_pos rfl, if_pos (by simp; omega)])]
      have hn := fun h => hd (hk.2 h)
      by_cases b1 : 128 ≤ d.toNat ∧ d.toNat ≤ 191
      · by_cases b2 : 128 ≤ e.toNat ∧ e.toNat ≤ 191
        · by_cases b4 : 128 ≤ f.toNat ∧ f.toNat ≤ 191
          · have b3 : ok d.toNat e.toNat f.toNat = false := by
              cases h : ok d.toNat e.toNat f.toNat
              · rfl
              · exact absurd ⟨b1, b2, b4, h⟩ hn
            simp [b3]
          · have : (decide (128 ≤ f.toNat) && decide (f.toNat ≤ 191)) = false := by simp; omega
            simp [this]
        · have : (decide (128 ≤ e.toNat) && decide (e.toNat ≤ 191)) = false := by simp; omega
          simp [this]
      · have : (decide (128 ≤ d.toNat) && decide (d.toNat ≤ 191)) = false := by simp; omega
        simp [this]

theorem valid_all : ∀ (n : Nat) (l : List UInt8), l.length ≤ n → validD l = utf8F l := by
  intro n
  induction n with
  | zero => intro l h; have : l = [] := List.eq_nil_of_length_eq_zero (by omega); subst this; simp [validD_nil, utf8F]
  | succ n ih =>
    intro l h
    match l with
    | [] => simp [validD_nil, utf8F]
    | c :: r =>
      have hc := c.toNat_lt
      rw [List.length_cons] at h
      by_cases h0 : c.toNat < 128
      · rw [validD_cons c r h0, ih r (by omega)]
        conv => rhs; unfold utf8F
        rw [if_pos h0]
      · rw [validD_lead (c :: r) (by simp) (by simp; omega)]
        conv => rhs; unfold utf8F
        rw [if_neg h0]
        show mK (checkN (r.length + 1) (r.getD 0 0).toNat (r.getD 1 0).toNat (r.getD 2 0).toNat (firstT c.toNat % 8) (accLo (firstT c.toNat / 16)) (accHi (firstT c.toNat / 16))) (fun k => validD ((c :: r).drop k)) = _
        by_cases h1 : c.toNat < 194
        · rw [if_neg (by omega), if_neg (by omega), if_neg (by omega)]
          exact mK_none _ (by simp [firstT, checkN, h0, h1])
        by_cases h2 : c.toNat < 224
        · rw [if_pos ⟨by omega, h2⟩]
          have e1 : firstT c.toNat % 8 = 2 := by simp [firstT, h0, h1, h2]
          have e2 : accLo (firstT c.toNat / 16) = 128 := by simp [firstT, accLo, h0, h1, h2]
          have e3 : accHi (firstT c.toNat / 16) = 191 := by simp [firstT, accHi, h0, h1, h2]
          rw [e1]
          exact two_all c r _ _ utf8F e2 e3 (fun d r1 e => ih r1 (by subst e; simp at h; omega))

        by_cases h3 : c.toNat = 224
        · rw [if_neg (by omega), if_pos ⟨by omega, by omega⟩]
          have e1 : firstT c.toNat % 8 = 3 := by simp [firstT, h3]
          have e2 : accLo (firstT c.toNat / 16) = 160 := by simp [firstT, accLo, h3]
          have e3 : accHi (firstT c.toNat / 16) = 191 := by simp [firstT, accHi, h3]
          rw [e1]
          refine (three_all c r _ _ (fun d e => decide (2048 ≤ 4096 * (c.toNat - 224) + 64 * (d - 128) + (e - 128)) && !(decide (55296 ≤ 4096 * (c.toNat - 224) + 64 * (d - 128) + (e - 128)) && decide (4096 * (c.toNat - 224) + 64 * (d - 128) + (e - 128) < 57344))) utf8F ?_ (fun d e r1 e' => ih r1 (by subst e'; simp at h; omega))).trans ?_
          · intro d e hd he
            rw [e2, e3]
            simp only [Bool.and_eq_true, Bool.not_eq_true', Bool.and_eq_false_iff, decide_eq_true_eq, decide_eq_false_iff_not]
            constructor
            · rintro ⟨⟨a1, a2⟩, a3, a4⟩; refine ⟨⟨by omega, by omega⟩, ⟨a3, a4⟩, by omega, by omega⟩
            · rintro ⟨⟨a1, a2⟩, ⟨a3, a4⟩, a5, a6⟩; refine ⟨⟨by omega, by omega⟩, a3, a4⟩
          · match r with
            | [] => rfl
            | [_] => rfl
            | d :: e :: r1 => simp [Bool.and_assoc]

        by_cases h4 : c.toNat < 237
        · rw [if_neg (by omega), if_pos ⟨by omega, by omega⟩]
          have e1 : firstT c.toNat % 8 = 3 := by simp [firstT, h0, h1, h2, h3, h4]
          have e2 : accLo (firstT c.toNat / 16) = 128 := by simp [firstT, accLo, h0, h1, h2, h3, h4]
          have e3 : accHi (firstT c.toNat / 16) = 191 := by simp [firstT, accHi, h0, h1, h2, h3, h4]
          rw [e1]
          refine (three_all c r _ _ (fun d e => decide (2048 ≤ 4096 * (c.toNat - 224) + 64 * (d - 128) + (e - 128)) && !(decide (55296 ≤ 4096 * (c.toNat - 224) + 64 * (d - 128) + (e - 128)) && decide (4096 * (c.toNat - 224) + 64 * (d - 128) + (e - 128) < 57344))) utf8F ?_ (fun d e r1 e' => ih r1 (by subst e'; simp at h; omega))).trans ?_
          · intro d e hd he
            rw [e2, e3]
            simp only [Bool.and_eq_true, Bool.not_eq_true', Bool.and_eq_false_iff, decide_eq_true_eq, decide_eq_false_iff_not]
            constructor
            · rintro ⟨⟨a1, a2⟩, a3, a4⟩; refine ⟨⟨by omega, by omega⟩, ⟨a3, a4⟩, by omega, by omega⟩
            · rintro ⟨⟨a1, a2⟩, ⟨a3, a4⟩, a5, a6⟩; refine ⟨⟨by omega, by omega⟩, a3, a4⟩
          · match r with
            | [] => rfl
            | [_] => rfl
            | d :: e :: r1 => simp [Bool.and_assoc]

        by_cases h5 : c.toNat = 237
        · rw [if_neg (by omega), if_pos ⟨by omega, by omega⟩]
          have e1 : firstT c.toNat % 8 = 3 := by simp [firstT, h5]
          have e2 : accLo (firstT c.toNat / 16) = 128 := by simp [firstT, accLo, h5]
          have e3 : accHi (firstT c.toNat / 16) = 159 := by simp [firstT, accHi, h5]
          rw [e1]
          refine (three_all c r _ _ (fun d e => decide (2048 ≤ 4096 * (c.toNat - 224) + 64 * (d - 128) + (e - 128)) && !(decide (55296 ≤ 4096 * (c.toNat - 224) + 64 * (d - 128) + (e - 128)) && decide (4096 * (c.toNat - 224) + 64 * (d - 128) + (e - 128) < 57344))) utf8F ?_ (fun d e r1 e' => ih r1 (by subst e'; simp at h; omega))).trans ?_
          · intro d e hd he
            rw [e2, e3]
            simp only [Bool.and_eq_true, Bool.not_eq_true', Bool.and_eq_false_iff, decide_eq_true_eq, decide_eq_false_iff_not]
            constructor
            · rintro ⟨⟨a1, a2⟩, a3, a4⟩; refine ⟨⟨by omega, by omega⟩, ⟨a3, a4⟩, by omega, by omega⟩
            · rintro ⟨⟨a1, a2⟩, ⟨a3, a4⟩, a5, a6⟩; refine ⟨⟨by omega, by omega⟩, a3, a4⟩
          · match r with
            | [] => rfl
            | [_] => rfl
            | d :: e :: r1 => simp [Bool.and_assoc]

        by_cases h6 : c.toNat < 240
        · rw [if_neg (by omega), if_pos ⟨by omega, by omega⟩]
          have e1 : firstT c.toNat % 8 = 3 := by simp [firstT, h0, h1, h2, h3, h4, h5, h6]
          have e2 : accLo (firstT c.toNat / 16) = 128 := by simp [firstT, accLo, h0, h1, h2, h3, h4, h5, h6]
          have e3 : accHi (firstT c.toNat / 16) = 191 := by simp [firstT, accHi, h0, h1, h2, h3, h4, h5, h6]
          rw [e1]
          refine (three_all c r _ _ (fun d e => decide (2048 ≤ 4096 * (c.toNat - 224) + 64 * (d - 128) + (e - 128)) && !(decide (55296 ≤ 4096 * (c.toNat - 224) + 64 * (d - 128) + (e - 128)) && decide (4096 * (c.toNat - 224) + 64 * (d - 128) + (e - 128) < 57344))) utf8F ?_ (fun d e r1 e' => ih r1 (by subst e'; simp at h; omega))).trans ?_
          · intro d e hd he
            rw [e2, e3]
            simp only [Bool.and_eq_true, Bool.not_eq_true', Bool.and_eq_false_iff, decide_eq_true_eq, decide_eq_false_iff_not]
            constructor
            · rintro ⟨⟨a1, a2⟩, a3, a4⟩; refine ⟨⟨by omega, by omega⟩, ⟨a3, a4⟩, by omega, by omega⟩
            · rintro ⟨⟨a1, a2⟩, ⟨a3, a4⟩, a5, a6⟩; refine ⟨⟨by omega, by omega⟩, a3, a4⟩
          · match r with
            | [] => rfl
            | [_] => rfl
            | d :: e :: r1 => simp [Bool.and_assoc]

        by_cases h7 : c.toNat = 240
        · rw [if_neg (by omega), if_neg (by omega), if_pos ⟨by omega, by omega⟩]
          have e1 : firstT c.toNat % 8 = 4 := by simp [firstT, h7]
          have e2 : accLo (firstT c.toNat / 16) = 144 := by simp [firstT, accLo, h7]
          have e3 : accHi (firstT c.toNat / 16) = 191 := by simp [firstT, accHi, h7]
          rw [e1]
          refine (four_all c r _ _ (fun d e f => decide (65536 ≤ 262144 * (c.toNat - 240) + 4096 * (d - 128) + 64 * (e - 128) + (f - 128)) && decide (262144 * (c.toNat - 240) + 4096 * (d - 128) + 64 * (e - 128) + (f - 128) ≤ 1114111)) utf8F ?_ (fun d e f r1 e' => ih r1 (by subst e'; simp at h; omega))).trans ?_
          · intro d e f hd he hf
            rw [e2, e3]
            simp only [Bool.and_eq_true, decide_eq_true_eq]
            constructor
            · rintro ⟨⟨a1, a2⟩, ⟨a3, a4⟩, a5, a6⟩; refine ⟨⟨by omega, by omega⟩, ⟨a3, a4⟩, ⟨a5, a6⟩, by omega, by omega⟩
            · rintro ⟨⟨a1, a2⟩, ⟨a3, a4⟩, ⟨a5, a6⟩, a7, a8⟩; refine ⟨⟨by omega, by omega⟩, ⟨a3, a4⟩, a5, a6⟩
          · match r with
            | [] => rfl
            | [_] => rfl
            | [_, _] => rfl
            | d :: e :: f :: r1 => simp [Bool.and_assoc]

        by_cases h8 : c.toNat < 244
        · rw [if_neg (by omega), if_neg (by omega), if_pos ⟨by omega, by omega⟩]
          have e1 : firstT c.toNat % 8 = 4 := by simp [firstT, h0, h1, h2, h3, h4, h5, h6, h7, h8]
          have e2 : accLo (firstT c.toNat / 16) = 128 := by simp [firstT, accLo, h0, h1, h2, h3, h4, h5, h6, h7, h8]
          have e3 : accHi (firstT c.toNat / 16) = 191 := by simp [firstT, accHi, h0, h1, h2, h3, h4, h5, h6, h7, h8]
          rw [e1]
          refine (four_all c r _ _ (fun d e f => decide (65536 ≤ 262144 * (c.toNat - 240) + 4096 * (d - 128) + 64 * (e - 128) + (f - 128)) && decide (262144 * (c.toNat - 240) + 4096 * (d - 128) + 64 * (e - 128) + (f - 128) ≤ 1114111)) utf8F ?_ (fun d e f r1 e' => ih r1 (by subst e'; simp at h; omega))).trans ?_
          · intro d e f hd he hf
            rw [e2, e3]
            simp only [Bool.and_eq_true, decide_eq_true_eq]
            constructor
            · rintro ⟨⟨a1, a2⟩, ⟨a3, a4⟩, a5, a6⟩; refine ⟨⟨by omega, by omega⟩, ⟨a3, a4⟩, ⟨a5, a6⟩, by omega, by omega⟩
            · rintro ⟨⟨a1, a2⟩, ⟨a3, a4⟩, ⟨a5, a6⟩, a7, a8⟩; refine ⟨⟨by omega, by omega⟩, ⟨a3, a4⟩, a5, a6⟩
          · match r with
            | [] => rfl
            | [_] => rfl
            | [_, _] => rfl
            | d :: e :: f :: r1 => simp [Bool.and_assoc]

        by_cases h9 : c.toNat = 244
        · rw [if_neg (by omega), if_neg (by omega), if_pos ⟨by omega, by omega⟩]
          have e1 : firstT c.toNat % 8 = 4 := by simp [firstT, h9]
          have e2 : accLo (firstT c.toNat / 16) = 128 := by simp [firstT, accLo, h9]
          have e3 : accHi (firstT c.toNat / 16) = 143 := by simp [firstT, accHi, h9]
          rw [e1]
          refine (four_all c r _ _ (fun d e f => decide (65536 ≤ 262144 * (c.toNat - 240) + 4096 * (d - 128) + 64 * (e - 128) + (f - 128)) && decide (262144 * (c.toNat - 240) + 4096 * (d - 128) + 64 * (e - 128) + (f - 128) ≤ 1114111)) utf8F ?_ (fun d e f r1 e' => ih r1 (by subst e'; simp at h; omega))).trans ?_
          · intro d e f hd he hf
            rw [e2, e3]
            simp only [Bool.and_eq_true, decide_eq_true_eq]
            constructor
            · rintro ⟨⟨a1, a2⟩, ⟨a3, a4⟩, a5, a6⟩; refine ⟨⟨by omega, by omega⟩, ⟨a3, a4⟩, ⟨a5, a6⟩, by omega, by omega⟩
            · rintro ⟨⟨a1, a2⟩, ⟨a3, a4⟩, ⟨a5, a6⟩, a7, a8⟩; refine ⟨⟨by omega, by omega⟩, ⟨a3, a4⟩, a5, a6⟩
          · match r with
            | [] => rfl
            | [_] => rfl
            | [_, _] => rfl
            | d :: e :: f :: r1 => simp [Bool.and_assoc]

        rw [if_neg (by omega), if_neg (by omega), if_neg (by omega)]
        exact mK_none _ (by simp [firstT, checkN, h0, h1, h2, h3, h4, h5, h6, h7, h8, h9])
theorem valid_eq (l : List UInt8) : validD l = utf8F l := valid_all l.length l (Nat.le_refl _)
end Go.Proofs.YtehlgflpkofooaaDoor
