/-
  Layer 4: slots as a function; how long a plain text is. Conditions: none.
-/
import Derived.Test.YtighbdhjegklbaaDoorJzC
namespace Go.Proofs.YtighbdhjegklbaaDoor
open Go.RowKit

def pickB (b : Bool) (x y : Value) : Value := match b with
  | true => x
  | false => y
/-- slot k turned -/
def upd (v : Nat → Value) (k : Nat) (x : Value) (j : Nat) : Value := pickB (Nat.beq j k) x (v j)

theorem word_six (s : List UInt8) : (wordF s).length ≤ 6 * s.length + 2 := by
  unfold wordF
  have := escs_six s
  simp only [List.length_cons, List.length_append, List.length_nil]
  omega
mutual
theorem plain_tot : ∀ (v : JV), wfF v = true → (plainF v).length + 5 ≤ 32 * totV v
  | .mk k s n l ks, h => by
    unfold wfF at h
    rw [Bool.and_eq_true, decide_eq_true_eq] at h
    obtain ⟨hn, hl⟩ := h
    have h1 := plainA_tot l hl
    have h2 := plainO_tot l ks hl
    have h3 := digits_twenty n hn
    have h4 := word_six s
    unfold plainF totV
    split
    · simp only [List.length_cons, List.length_nil]; omega
    · split
      · simp only [List.length_cons, List.length_nil]; omega
      · split
        · simp only [List.length_cons, List.length_nil]; omega
        · split
          · omega
          · split
            · omega
            · split
              · simp only [List.length_cons, List.length_append, List.length_nil]; omega
              · simp only [List.length_cons, List.length_append, List.length_nil]; omega
theorem plainA_tot : ∀ (l : List JV), wfL l = true → (plainA l).length ≤ 32 * totL l
  | [], _ => by unfold plainA; simp
  | v :: r, h => by
    unfold wfL at h
    rw [Bool.and_eq_true] at h
    have h1 := plain_tot v h.1
    have h2 := plainAt_tot r h.2
    unfold plainA totL
    rw [List.length_append]
    omega
theorem plainAt_tot : ∀ (l : List JV), wfL l = true → (plainAt l).length ≤ 32 * totL l
  | [], _ => by unfold plainAt; simp
  | v :: r, h => by
    unfold wfL at h
    rw [Bool.and_eq_true] at h
    have h1 := plain_tot v h.1
    have h2 := plainAt_tot r h.2
    unfold plainAt totL
    rw [List.length_cons, List.length_append]
    omega
theorem plainO_tot : ∀ (l : List JV) (ks : List (List UInt8)), wfL l = true → (plainO l ks).length ≤ 32 * totL l + 32 * totK ks
  | [], _, _ => by unfold plainO; simp
  | v :: r, ks, h => by
    unfold wfL at h
    rw [Bool.and_eq_true] at h
    have h1 := plain_tot v h.1
    have h2 := plainOt_tot r ks.tail h.2
    have h3 := word_six (ks.headD [])
    have h4 : (ks.headD []).length + totK ks.tail ≤ totK ks := by
      cases ks with
      | nil => simp [totK]
      | cons k q => simp only [List.headD_cons, List.tail_cons, totK]; omega
    unfold plainO totL
    rw [List.length_append, List.length_cons, List.length_append]
    omega
theorem plainOt_tot : ∀ (l : List JV) (ks : List (List UInt8)), wfL l = true → (plainOt l ks).length ≤ 32 * totL l + 32 * totK ks
  | [], _, _ => by unfold plainOt; simp
  | v :: r, ks, h => by
    unfold wfL at h
    rw [Bool.and_eq_true] at h
    have h1 := plain_tot v h.1
    have h2 := plainOt_tot r ks.tail h.2
    have h3 := word_six (ks.headD [])
    have h4 : (ks.headD []).length + totK ks.tail ≤ totK ks := by
      cases ks with
      | nil => simp [totK]
      | cons k q => simp only [List.headD_cons, List.tail_cons, totK]; omega
    unfold plainOt totL
    rw [List.length_cons, List.length_append, List.length_cons, List.length_append]
    omega
end
mutual
theorem rvw_ok {w : World} : ∀ (v : JV) (cs : List Value), RV w v cs → wfF v = true
  | .mk k s n l ks, cs, h => by
    unfold RV at h
    obtain ⟨a, c, a', c', -, hk, -, -, -, h3⟩ := h
    unfold wfF
    rw [Bool.and_eq_true]
    refine ⟨decide_eq_true hk.2.2, ?_⟩
    by_cases h0 : 0 < l.length
    · obtain ⟨b, off, -, -, hl⟩ := h3 h0
      exact rlw_ok l b off hl
    · rw [show l = [] from List.eq_nil_of_length_eq_zero (by omega)]
      unfold wfL
      rfl
theorem rlw_ok {w : World} : ∀ (l : List JV) (b off : Nat), RL w l b off → wfL l = true
  | [], _, _, _ => by unfold wfL; rfl
  | v :: r, b, off, h => by
    unfold RL at h
    obtain ⟨⟨cs, -, -, h1⟩, h2⟩ := h
    unfold wfL
    rw [rvw_ok v cs h1, rlw_ok r b (off + 5) h2]
    rfl
end
/-- what a name names is no greater than what holds it -/
theorem mem_tot : ∀ (l : List JV) (i : Nat) (x : JV), l[i]? = some x → totV x ≤ totL l
  | [], _, _, h => by simp at h
  | v :: r, 0, x, h => by
    cases h
    unfold totL
    omega
  | v :: r, i + 1, x, h => by
    have := mem_tot r i x (by simpa using h)
    unfold totL
    omega
theorem get_tot (v : JV) (key : List UInt8) (m : Nat) (h : totV v ≤ m) (hm : 1 ≤ m) : totV ((getF v key).getD JV.zero) ≤ m := by
  obtain ⟨k, s, n, l, ks⟩ := v
  have h0 : totV JV.zero = 1 := rfl
  cases hg : getF (.mk k s n l ks) key with
  | none => rw [Option.getD_none, h0]; exact hm
  | some x =>
    rw [Option.getD_some]
    rw [getF_eq] at hg
    split at hg
    · cases hi : idxF ks key with
      | none => rw [hi] at hg; cases hg
      | some i =>
        rw [hi] at hg
        have := mem_tot l i x hg
        unfold totV at h
        omega
    · cases hg
end Go.Proofs.YtighbdhjegklbaaDoor
