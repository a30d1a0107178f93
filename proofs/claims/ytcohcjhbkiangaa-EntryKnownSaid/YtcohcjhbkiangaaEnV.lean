/-
  What the program's TakeItem reckons, over plain lists; makers of kept steps, with where their boxes lie. Conditions: those in each statement.
-/
import Derived.Test.YtcohcjhbkiangaaEnU
namespace Go.Proofs.Ytcohcjhbkiangaa
open Go.RowKit

def i1 (ls : List UInt8) : Nat × Int × List UInt8 := keptT 0 0 ls (rnumF ls 1)
def i2 (ls : List UInt8) : Nat × Int × List UInt8 := keptT (i1 ls).2.1 0 (i1 ls).2.2 (rnumF (i1 ls).2.2 1)
def i3 (ls : List UInt8) : Nat × Int × List UInt8 := keptT (i2 ls).2.1 0 (i2 ls).2.2 (rnumF (i2 ls).2.2 8)
def i4 (ls : List UInt8) : Nat × Int × List UInt8 := keptT (i3 ls).2.1 0 (i3 ls).2.2 (rnumF (i3 ls).2.2 2)
def i5 (ls : List UInt8) : List UInt8 × Int × List UInt8 := keptT (i4 ls).2.1 [] (i4 ls).2.2 (rvecF (i4 ls).2.2 3)
def i6 (ls xs : List UInt8) : List (List UInt8) × Int × List UInt8 := keptT (i5 ls).2.1 [] xs (takeListF xs)
def iC (ls xs : List UInt8) : List (List UInt8) := [(i5 ls).1] ++ (i6 ls xs).1
def i7 (ls xs : List UInt8) : List UInt8 × List UInt8 × Int := keptI (i6 ls xs).2.1 (i3 ls).1 (iC ls xs)

theorem keptNum_len (e0 size : Int) (xs : List UInt8) : (keptT e0 0 xs (rnumF xs size)).2.2.length ≤ xs.length := by
  unfold keptT; split
  · exact rnum_len xs size
  · exact Nat.le_refl _
theorem i1_len (ls : List UInt8) : (i1 ls).2.2.length ≤ ls.length := keptNum_len ..
theorem i2_len (ls : List UInt8) : (i2 ls).2.2.length ≤ ls.length := Nat.le_trans (keptNum_len ..) (i1_len ls)
theorem i3_len (ls : List UInt8) : (i3 ls).2.2.length ≤ ls.length := Nat.le_trans (keptNum_len ..) (i2_len ls)
theorem i4_len (ls : List UInt8) : (i4 ls).2.2.length ≤ ls.length := Nat.le_trans (keptNum_len ..) (i3_len ls)
theorem i3_le (ls : List UInt8) : (i3 ls).1 ≤ 18446744073709551615 := by
  unfold i3 keptT; split
  · exact rnum8_lt _
  · exact Nat.zero_le _
theorem i6_len (ls xs : List UInt8) : (i6 ls xs).1.length ≤ 4 := by
  unfold i6 keptT; split
  · exact takeList_len xs
  · simp
theorem iC_len (ls xs : List UInt8) : (iC ls xs).length ≤ 5 := by
  have := i6_len ls xs
  simp only [iC, List.length_append, List.length_cons, List.length_nil]
  omega

theorem item_case (ls xs : List UInt8) : ((i7 ls xs).2.2 = 0 ∧ (i7 ls xs).1 = ls ∧ (i7 ls xs).2.1 = xs ∧ takeItemR ls xs = (((i3 ls).1, iC ls xs), 0)) ∨
    (((i7 ls xs).2.2 ≠ 0 ∨ (i7 ls xs).1 ≠ ls ∨ (i7 ls xs).2.1 ≠ xs) ∧ takeItemR ls xs = ((0, []), 5)) := by
  by_cases h : (i7 ls xs).2.2 = 0 ∧ (i7 ls xs).1 = ls ∧ (i7 ls xs).2.1 = xs
  · left
    refine ⟨h.1, h.2.1, h.2.2, ?_⟩
    obtain ⟨h1, h2, h3⟩ := h
    have e6 : (i6 ls xs).2.1 = 0 := by
      unfold i7 keptI at h1
      split at h1
      · assumption
      · exact h1
    have e7 : i7 ls xs = (itemL (i3 ls).1 (iC ls xs), itemX (iC ls xs), itemE (i3 ls).1 (iC ls xs)) := by unfold i7 keptI; rw [if_pos e6]
    rw [e7] at h1 h2 h3
    have hm : mayB (iC ls xs) = true := by
      cases h : mayB (iC ls xs) with
      | true => rfl
      | false => unfold itemE stampR at h1; rw [h] at h1; simp at h1
    have h2 : itemL (i3 ls).1 (iC ls xs) = ls := h2
    have h3 : itemX (iC ls xs) = xs := h3
    unfold itemL stampR at h2
    unfold itemX extraR at h3
    rw [if_pos hm] at h2 h3
    have := takeItem_yes (i3 ls).1 (iC ls xs) (i3_le ls) hm
    have h2 : stampF (i3 ls).1 ((iC ls xs).getD 0 []) = ls := h2
    have h3 : listF ((iC ls xs).drop 1) = xs := h3
    rwa [h2, h3] at this
  · right
    refine ⟨by
      by_cases h1 : (i7 ls xs).2.2 = 0
      · by_cases h2 : (i7 ls xs).1 = ls
        · exact .inr (.inr fun h3 => h ⟨h1, h2, h3⟩)
        · exact .inr (.inl h2)
      · exact .inl h1, takeItem_no ls xs ?_⟩
    rintro ⟨t, l, ht, hm, hls, hxs⟩
    obtain ⟨c, r, rfl, hc, hr, hx⟩ := may_first hm
    have hls : ls = stampF t c := hls
    have hxs : xs = listF r := hxs
    obtain ⟨a1, a2, a3, a4, a5⟩ := item_read t c ht hc
    rw [← hls] at a1
    have k1 : i1 ls = _ := a1
    have k2 : i2 ls = (0, 0, digits t 8 ++ (digits 0 2 ++ (vec3 c ++ digits 0 2))) := by unfold i2 keptT; rw [k1]; exact a2
    have k3 : i3 ls = (t, 0, digits 0 2 ++ (vec3 c ++ digits 0 2)) := by unfold i3 keptT; rw [k2]; exact a3
    have k4 : i4 ls = (0, 0, vec3 c ++ digits 0 2) := by unfold i4 keptT; rw [k3]; exact a4
    have k5 : i5 ls = (c, 0, digits 0 2) := by unfold i5 keptT; rw [k4]; exact a5
    have k6 : i6 ls xs = (r, 0, []) := by
      have := takeList_of r [] (by omega) hx
      rw [List.append_nil, ← hxs] at this
      unfold i6 keptT; rw [k5]; exact this
    have kc : iC ls xs = c :: r := by unfold iC; rw [k5, k6]; rfl
    have k7 : i7 ls xs = (stampF t c, listF r, 0) := by
      unfold i7 keptI; rw [k6, k3, kc]
      show (itemL t (c :: r), itemX (c :: r), itemE t (c :: r)) = _
      unfold itemL itemX itemE stampR extraR
      rw [if_pos hm, if_pos hm]
      rfl
    apply h
    rw [k7]
    exact ⟨rfl, hls.symm, hxs.symm⟩

theorem kept_iu2 (fn : Fn) (bs caps : Array Value) (g : Option Addr) (w : World) : Calls Try.prog 43 #[.func fn bs caps, .pointer g] w fun e w' =>
    ∃ p q, e = .returned (.func (.func 62) #[] #[.pointer (some ⟨p, 0, none⟩), .pointer (some ⟨q, 0, none⟩)]) ∧ Two w' w.heap.size p q (.pointer g) (.func fn bs caps) ∧ Below w.heap.size w w' := by
  have hb := (hal w (.cells #[.func fn bs caps] 79)).alloc (by simp) (.cells #[.pointer g] 73)
  go_enter Try.func43, Try.ntmps43
  go_wp2
  go_ret
  exact ⟨_, _, rfl, ⟨by simp, by simp, by (simp; try omega), by (simp; try omega), by omega, by omega⟩, hb⟩
theorem kept_ib2 (fn : Fn) (bs caps : Array Value) (g : Option Addr) (w : World) : Calls Try.prog 50 #[.func fn bs caps, .pointer g] w fun e w' =>
    ∃ p q, e = .returned (.func (.func 71) #[] #[.pointer (some ⟨p, 0, none⟩), .pointer (some ⟨q, 0, none⟩)]) ∧ Two w' w.heap.size p q (.pointer g) (.func fn bs caps) ∧ Below w.heap.size w w' := by
  have hb := (hal w (.cells #[.func fn bs caps] 91)).alloc (by simp) (.cells #[.pointer g] 73)
  go_enter Try.func50, Try.ntmps50
  go_wp2
  go_ret
  exact ⟨_, _, rfl, ⟨by simp, by simp, by (simp; try omega), by (simp; try omega), by omega, by omega⟩, hb⟩
theorem kept_rl2 (fn : Fn) (bs caps : Array Value) (g : Option Addr) (w : World) : Calls Try.prog 45 #[.func fn bs caps, .pointer g] w fun e w' =>
    ∃ p q, e = .returned (.func (.func 66) #[] #[.pointer (some ⟨p, 0, none⟩), .pointer (some ⟨q, 0, none⟩)]) ∧ Two w' w.heap.size p q (.pointer g) (.func fn bs caps) ∧ Below w.heap.size w w' := by
  have hb := (hal w (.cells #[.func fn bs caps] 82)).alloc (by simp) (.cells #[.pointer g] 73)
  go_enter Try.func45, Try.ntmps45
  go_wp2
  go_ret
  exact ⟨_, _, rfl, ⟨by simp, by simp, by (simp; try omega), by (simp; try omega), by omega, by omega⟩, hb⟩
theorem Two.fr {rs : List Nat} {w w' : World} {b p q : Nat} {u v : Value} (h : Two w b p q u v) (hf : Fr rs w w') (hr : ∀ r ∈ rs, r ≠ p ∧ r ≠ q) : Two w' b p q u v :=
  ⟨hf.cell h.cp h.lp (fun hm => (hr _ hm).1 rfl), hf.cell h.cq h.lq (fun hm => (hr _ hm).2 rfl), Nat.lt_of_lt_of_le h.lp hf.size, Nat.lt_of_lt_of_le h.lq hf.size, h.bp, h.bq⟩
section
variable {o : Oper} {a : Act} {K : Act → World → Prop} {Q : Exit → Act → World → Prop} {w : World}
/-- append of chains, with the row that it may write -/
theorem ow_appendG (d s : Operand) (ho : o.op = .call { callee := .builtin .append, args := #[d, s], argTypes := #[23, 23] })
    (B : Nat) (v : Value) (xss : List (List UInt8)) (hv : OwnC w B v xss) (hd : a.eval d = v) (u : Value) (yss : List (List UInt8)) (hu : OwnC w B u yss) (hs : a.eval s = u) (hb : xss.length + yss.length ≤ 5000000000000) (hB : B ≤ w.heap.size)
    (hK : ∀ v' w', OwnC w' B v' (xss ++ yss) → w.grownBy w' v.ownBlock → K (a.put o.dst v') w') : Oper.wp Try.prog o a w K Q := by
  obtain ⟨i0, hi, hz0, hz1, hz2⟩ := info_parts btC_info
  have hv' := hv
  obtain ⟨vs, h1, h2, h3⟩ := hv
  obtain ⟨us, k1, k2, k3⟩ := hu
  have k1' := k1
  obtain ⟨hl, ⟨rfl, hn⟩ | ⟨g, cap, cur, rfl, hbb, hg, hn, hc, hss, ht⟩⟩ := k1
  · have e : yss = [] := List.eq_nil_of_length_eq_zero (by omega)
    subst e
    have hrun := run_append_owned_none (P := Try.prog) (w := w) B 23 o.type 27 i0 1 btC_sl hi v _ _ h1
    unfold Oper.wp
    simp [execOp, ho, resolve, invoke, builtin, hs, hd, hrun, Result.andThen]
    exact hK _ _ (by simpa using hv') (World.grownBy.refl _ _)
  · refine wp_append_own w d s 23 ho B 27 i0 (.slice none 0 0) 1 24 btC_sl hi hz0 hz1 hz2 rfl (by decide) v _ _ hd h1 ⟨g, 0, none⟩ us.length cap us hs (by simp) (World.ownsRow.cells k1' rfl) ?_ (by unfold maxLen; omega) (by omega) hB ?_
    · intro x hx
      obtain ⟨j, hj, rfl⟩ := List.mem_iff_getElem.1 hx
      have := k3 j (by omega)
      obtain ⟨aj, nj, cj, e, -⟩ := this.reads
      have e2 : us[j] = .slice aj nj cj := by rw [← e]; simp [List.getD, hj]
      rw [e2]
      rfl
    · intro v' w' r hg _
      exact hK v' w' (appC_post h1 h2 h3 k2 k3 r hg) hg
end
end Go.Proofs.Ytcohcjhbkiangaa
