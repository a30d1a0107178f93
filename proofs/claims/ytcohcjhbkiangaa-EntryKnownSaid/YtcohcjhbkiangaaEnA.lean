/-
  Chains of certificates in memory: what reads as a list of byte slices. Conditions: those in each statement.
-/
import Derived.Test.YtcohcjhbkiangaaWireE
namespace Go.Proofs.Ytcohcjhbkiangaa
open Go.RowKit

/-- the slice of n byte slices at a reads as xss -/
structure Chn (w : World) (a : Option Addr) (n cap : Nat) (xss : List (List UInt8)) : Prop where
  len : xss.length = n
  le : n ≤ cap
  nil : a = none → cap = 0
  mem : 0 < n → ∃ b off, a = some ⟨b, off, none⟩ ∧ b < w.heap.size ∧ ∀ j, j < n → ∃ aj nj cj, w.cell? ⟨b, off + j, none⟩ = some (.slice aj nj cj) ∧ Rd w aj nj cj (xss.getD j [])

theorem Chn.to {w w' : World} {a : Option Addr} {n cap : Nat} {xss : List (List UInt8)} (h : Chn w a n cap xss) (hb : Below w.heap.size w w') : Chn w' a n cap xss := by
  refine ⟨h.len, h.le, h.nil, fun hc => ?_⟩
  obtain ⟨b, off, e, h2, h3⟩ := h.mem hc
  refine ⟨b, off, e, Nat.lt_of_lt_of_le h2 hb.size, fun j hj => ?_⟩
  obtain ⟨aj, nj, cj, hcl, hr⟩ := h3 j hj
  exact ⟨aj, nj, cj, (hb.cell (p := ⟨b, off + j, none⟩) h2).trans hcl, hr.to hb⟩
theorem chn_none (w : World) : Chn w none 0 0 [] := { len := rfl, le := Nat.le_refl _, nil := fun _ => rfl, mem := by intro h; omega }

/-- a certificate that may be -/
def certB (x : List UInt8) : Bool := decide (1 ≤ x.length ∧ x.length ≤ 512)
/-- a chain that may be -/
def mayB (xss : List (List UInt8)) : Bool := decide (1 ≤ xss.length ∧ xss.length ≤ 4) && xss.all certB

theorem mayB_short {xss : List (List UInt8)} (h : xss.length < 1) : mayB xss = false := by
  simp [mayB]; intro h1; omega
theorem mayB_long {xss : List (List UInt8)} (h : 4 < xss.length) : mayB xss = false := by
  simp [mayB]; intro h1; omega
theorem mayB_bad {xss : List (List UInt8)} {k : Nat} (hk : k < xss.length) (h : certB (xss.getD k []) = false) : mayB xss = false := by
  have hm : xss.getD k [] ∈ xss := by
    simp [List.getD, hk]
  simp only [mayB, Bool.and_eq_false_iff]
  right
  rw [List.all_eq_false]
  exact ⟨_, hm, by rw [h]; simp⟩
theorem mayB_all {xss : List (List UInt8)} (h1 : 1 ≤ xss.length) (h4 : xss.length ≤ 4) (h : ∀ j, j < xss.length → certB (xss.getD j []) = true) : mayB xss = true := by
  simp only [mayB, Bool.and_eq_true, decide_eq_true_eq, List.all_eq_true]
  refine ⟨⟨h1, h4⟩, fun x hx => ?_⟩
  obtain ⟨j, hj, rfl⟩ := List.mem_iff_getElem.1 hx
  have := h j hj
  simpa [List.getD, hj] using this
theorem mayB_parts {xss : List (List UInt8)} (h : mayB xss = true) : 1 ≤ xss.length ∧ xss.length ≤ 4 ∧ ∀ x ∈ xss, 1 ≤ x.length ∧ x.length ≤ 512 := by
  simp only [mayB, Bool.and_eq_true, decide_eq_true_eq, List.all_eq_true, certB] at h
  exact ⟨h.1.1, h.1.2, h.2⟩

abbrev entV (t : Nat) (a : Option Addr) (n cap : Nat) : Value := .agg #[.int .u64 (t : Int), .slice a n cap]

theorem hal (W : World) (o : Obj) : Below W.heap.size W (W.alloc o) := (Below.refl _ _).alloc (Nat.le_refl _) _

theorem May_any (t : Nat) (a : Option Addr) (n cap : Nat) (xss : List (List UInt8)) (w : World) (hm : n ≤ 70368744177664) (h : Chn w a n cap xss) :
    Calls Try.prog 21 #[entV t a n cap] w fun e w' => e = .returned (.bool (mayB xss)) ∧ Below w.heap.size w w' := by
  have hl := h.len
  have hcap := h.le
  by_cases h1 : n < 1
  · rw [mayB_short (by omega)]
    go_enter Try.func21, Try.ntmps21
    go_wp2
    go_ret
    exact ⟨rfl, hal _ _⟩
  by_cases h4 : 4 < n
  · rw [mayB_long (by omega)]
    go_enter Try.func21, Try.ntmps21
    go_wp2
    go_ret
    exact ⟨rfl, hal _ _⟩
  obtain ⟨b, off, rfl, hb, hc⟩ := h.mem (by omega)
  have hbw := hal w (.cells #[.int .u64 (t : Int), .slice (some ⟨b, off, none⟩) n cap] 25)
  have HX := Lib.hid hl
  clear hl h
  go_enter Try.func21, Try.ntmps21
  go_wp2
  go_loop [18] (fun i => ∃ k : Nat, k ≤ n ∧ i = .int .i64 k ∧ Hid (∀ j, j < k → certB (xss.getD j []) = true)) (fun i => n - (intOf i).toNat)
  case atStart => exact ⟨0, Nat.zero_le _, rfl, fun j hj => by omega⟩
  case round =>
    obtain ⟨k, hk, rfl, hall⟩ := hrel
    by_cases hlt : k < n
    · obtain ⟨aj, nj, cj, hcl, hr⟩ := hc k hlt
      have hcl' := (hbw.cell (p := ⟨b, off + k, none⟩) hb).trans hcl
      have hnl : Hid (nj = (xss.getD k []).length) := hr.len.symm
      clear hcl hr
      by_cases hg : 1 ≤ nj ∧ nj ≤ 512
      · go_wp2
        go_round
        case rel =>
          refine ⟨k + 1, by omega, by go_num, fun j hj => ?_⟩
          by_cases hjk : j < k
          · exact hall.out j hjk
          · obtain rfl : j = k := by omega
            have := hnl.out
            simp only [certB, decide_eq_true_eq]
            omega
        case measure => simp [intOf]; omega
      · have hbad : Hid (mayB xss = false) := mayB_bad (k := k) (by rw [HX.out]; exact hlt) (by have := hnl.out; simp only [certB, decide_eq_false_iff_not]; omega)
        rcases (show nj < 1 ∨ 512 < nj from by omega) with h5 | h5
        all_goals
          go_wp2
          go_ret
          exact ⟨ret_bool hbad.out.symm, hbw⟩
    · obtain rfl : k = n := by omega
      have hgood : Hid (mayB xss = true) := mayB_all (by rw [HX.out]; omega) (by rw [HX.out]; omega) (fun j hj => hall.out j (by rw [HX.out] at hj; exact hj))
      go_wp2
      go_ret
      exact ⟨ret_bool hgood.out.symm, hbw⟩
end Go.Proofs.Ytcohcjhbkiangaa
