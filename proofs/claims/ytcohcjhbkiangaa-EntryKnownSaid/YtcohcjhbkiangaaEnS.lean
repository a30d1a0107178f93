/-
  The program's TakeRecord: its contract. Conditions: those in each statement.
-/
import Derived.Test.YtcohcjhbkiangaaEnR
import Derived.Test.YtcohcjhbkiangaaEnN
namespace Go.Proofs.Ytcohcjhbkiangaa
open Go.RowKit

def KTL (w : World) (q : Option Nat) (r fb : Nat) (f : List (List UInt8) × Int × List UInt8) (e : Ending) (w' : World) : Prop :=
  ∃ v, e = .returned v ∧ OwnC w' w.heap.size v f.1 ∧ Boxed w' fb 28 (.int .i64 f.2.1) ∧ Rdr w' 102 [.bool true] q r f.2.2 ∧ Fr [r, fb] w w'

theorem keptRL_any (e0 : Int) (q : Option Nat) (r : Nat) (xs : List UInt8) (p pq fb : Nat) (w : World) (hm : xs.length ≤ 140737488355328)
    (c1 : w.cell? ⟨p, 0, none⟩ = some (.pointer (some ⟨fb, 0, none⟩))) (c2 : w.cell? ⟨pq, 0, none⟩ = some (.func (.func 46) #[] #[])) (lp : p < w.heap.size) (lq : pq < w.heap.size)
    (hbx : Boxed w fb 28 (.int .i64 e0)) (hr : Rdr w 102 [.bool true] q r xs) (hqf : q ≠ some fb) (hql : ∀ k, q = some k → k < w.heap.size) :
    Calls Try.prog 66 #[.pointer (some ⟨r, 0, none⟩), .pointer (some ⟨p, 0, none⟩), .pointer (some ⟨pq, 0, none⟩)] w (KTL w q r fb (keptT e0 [] xs (takeListF xs))) := by
  have hc := hbx.cell
  have hfz := hbx.frozen
  have lf := hbx.lt
  have r0 := hr.c0
  have np : p ≠ r := by rintro rfl; rw [r0] at c1; cases c1
  have nq : pq ≠ r := by rintro rfl; rw [r0] at c2; cases c2
  have nf : fb ≠ r := by rintro rfl; rw [r0] at hc; cases hc
  have np2 : p ≠ fb := by rintro rfl; rw [hc] at c1; cases c1
  have nq2 : pq ≠ fb := by rintro rfl; rw [hc] at c2; cases c2
  by_cases h0 : e0 = 0
  · subst h0
    have e1 : keptT 0 [] xs (takeListF xs) = takeListF xs := rfl
    rw [e1]
    have H := takeList_any q r xs w.drew hm hr.drew hql
    clear hql
    go_enter Try.func66, Try.ntmps66
    go_wp2_with fail
    go_region_held3 (fun w' => w'.cell? ⟨p, 0, none⟩ = some (.pointer (some ⟨fb, 0, none⟩)) ∧ w'.cell? ⟨pq, 0, none⟩ = some (.func (.func 46) #[] #[]))
      (first
        | exact ⟨c1, c2⟩
        | exact ⟨hf1.cell c1 lp (by simpa using np), hf1.cell c2 lq (by simpa using nq)⟩
        | exact ⟨cell_setOther np2 (hf1.cell c1 lp (by simpa using np)), cell_setOther nq2 (hf1.cell c2 lq (by simpa using nq))⟩
        | go_keep)
      (first
        | (go_at_call 46; refine H.mono ?_; rintro e w1 ⟨v, rfl, ho, hr1, hf0⟩; have hf1 := hf0.undrew; clear hf0; have hx1 : Boxed w1 fb 28 (.int .i64 0) := hf1.boxed hbx (by simpa using nf); have hc1 := hx1.cell; have hfz1 := hx1.frozen))
    go_wp2
    go_ret
    have hst : Fr [fb] w1 (w1.setCell ⟨fb, 0, none⟩ (.int .i64 (takeListF xs).2.1)) := (Fr.refl _ _).set (by simp) _
    refine ⟨_, rfl, ho.fr hst (by intro x hx; simp at hx; subst hx; exact .inl lf), hx1.set _, ?_, ?_⟩
    · exact hr1.kept (by simp) (fun k hk => heap_setCell_other w1 ⟨fb, 0, none⟩ k _ (by rintro rfl; exact hqf hk)) (heap_setCell_other w1 ⟨fb, 0, none⟩ r _ (by simpa using Ne.symm nf))
    · exact (hf1.more (qs := [r, fb]) (by simp)).trans (hst.more (by simp))
  · have e1 : keptT e0 [] xs (takeListF xs) = ([], e0, xs) := by simp [keptT, h0]
    rw [e1]
    have hq : (e0 == 0) = false := by simpa using h0
    clear hql
    go_enter Try.func66, Try.ntmps66
    go_wp2
    go_ret
    exact ⟨_, rfl, OwnC.nil _ _, hbx, hr, Fr.refl _ _⟩

theorem certs_len : ∀ (k : Nat) (xs : List UInt8), (certsF k xs).1.length ≤ k
  | 0, _ => by simp [certsF]
  | k + 1, xs => by
    unfold certsF
    split
    · simp
    · split
      · have := certs_len k (rvecF xs 3).2.2
        simp only [List.length_cons]; omega
      · simp
theorem takeList_len (xs : List UInt8) : (takeListF xs).1.length ≤ 4 := by
  unfold takeListF
  split
  · split
    · exact certs_len 4 _
    · simp
  · simp
def recT (bs : List UInt8) : Nat := (rnumF bs 8).1
def recC (bs : List UInt8) : List (List UInt8) × Int × List UInt8 := keptT (rnumF bs 8).2.1 [] (rnumF bs 8).2.2 (takeListF (rnumF bs 8).2.2)
def recA (bs : List UInt8) : List UInt8 × Int := keptR (recC bs).2.1 (recR (recT bs) (recC bs).1)
theorem recC_len (bs : List UInt8) : (recC bs).1.length ≤ 4 := by
  unfold recC keptT
  split
  · exact takeList_len _
  · simp
theorem rec_case (bs : List UInt8) : ((recA bs).2 = 0 ∧ (recA bs).1 = bs ∧ takeRecR bs = ((recT bs, (recC bs).1), 0)) ∨ (((recA bs).2 ≠ 0 ∨ (recA bs).1 ≠ bs) ∧ takeRecR bs = ((0, []), 5)) := by
  by_cases h : (recA bs).2 = 0 ∧ (recA bs).1 = bs
  · left
    refine ⟨h.1, h.2, ?_⟩
    obtain ⟨h1, h2⟩ := h
    have e2 : (recC bs).2.1 = 0 := by
      unfold recA keptR at h1
      split at h1
      · assumption
      · exact h1
    have e3 : recA bs = recR (recT bs) (recC bs).1 := by unfold recA keptR; rw [if_pos e2]
    rw [e3] at h1 h2
    have hm : mayB (recC bs).1 = true := by
      cases h : mayB (recC bs).1 with
      | true => rfl
      | false => rw [recR, h] at h1; simp at h1
    rw [recR, if_pos hm] at h2
    conv => lhs; rw [← h2]
    exact takeRec_yes _ _ (rnum8_lt bs) hm
  · right
    refine ⟨by by_cases h1 : (recA bs).2 = 0; exact .inr (fun h2 => h ⟨h1, h2⟩); exact .inl h1, takeRec_no bs ?_⟩
    rintro ⟨t, l, ht, hm, rfl⟩
    obtain ⟨h1, h2⟩ := rec_read t l ht hm
    apply h
    have k1 : recT (recF t l) = t := by unfold recT; rw [h1]
    have k2 : recC (recF t l) = (l, 0, []) := by unfold recC keptT; rw [h1]; exact h2
    have k3 : recA (recF t l) = (recF t l, 0) := by unfold recA; rw [k1, k2]; unfold keptR recR; rw [if_pos rfl, if_pos hm]
    rw [k3]
    exact ⟨rfl, rfl⟩
end Go.Proofs.Ytcohcjhbkiangaa
