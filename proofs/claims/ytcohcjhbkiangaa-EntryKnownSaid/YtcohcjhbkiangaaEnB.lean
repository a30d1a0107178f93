/-
  Entries: whether one may be, by the document; whether two are the same, by the program and by the document. Conditions: those in each statement.
-/
import Derived.Test.YtcohcjhbkiangaaEnA
namespace Go.Proofs.Ytcohcjhbkiangaa
open Go.RowKit

def okP (xss : List (List UInt8)) (k : Nat) : Bool := decide (1 ≤ xss.length ∧ xss.length ≤ 4) && (xss.take k).all certB
theorem okP_step {xss : List (List UInt8)} {k : Nat} (hk : k < xss.length) : okP xss (k + 1) = (okP xss k && certB (xss.getD k [])) := by
  unfold okP
  rw [List.take_succ_eq_append_getElem hk, List.all_append, Bool.and_assoc]
  simp [List.getD, hk]
theorem okP_end (xss : List (List UInt8)) : okP xss xss.length = mayB xss := by
  simp [okP, mayB]
theorem okP_zero (xss : List (List UInt8)) : okP xss 0 = decide (1 ≤ xss.length ∧ xss.length ≤ 4) := by
  simp [okP]

theorem refMay_any (t : Nat) (a : Option Addr) (n cap : Nat) (xss : List (List UInt8)) (w : World) (hm : n ≤ 70368744177664) (h : Chn w a n cap xss) :
    Calls Try.prog 22 #[entV t a n cap] w fun e w' => e = .returned (.bool (mayB xss)) ∧ Below w.heap.size w w' := by
  have hl := h.len
  have hcap := h.le
  have hc := h.mem
  have hbw := hal w (.cells #[.int .u64 (t : Int), .slice a n cap] 25)
  have HX := Lib.hid hl
  have H0 : Hid (okP xss 0 = decide (1 ≤ n ∧ n ≤ 4)) := by show _ = _; rw [okP_zero, HX.out]
  clear hl h
  by_cases hz : n < 1
  · have hgood : Hid (false = mayB xss) := (mayB_short (by rw [HX.out]; exact hz)).symm
    go_enter Try.func22, Try.ntmps22
    go_wp2
    refine wp_loop_rounds 1 ?_
    rw [rounds_succ]
    go_wp2
    go_ret
    exact ⟨ret_bool hgood.out, hbw⟩
  rcases (show (1 ≤ n ∧ n ≤ 4) ∨ 4 < n from by omega) with h0 | h0
  all_goals
    go_enter Try.func22, Try.ntmps22
    go_wp2
    go_loop [3, 4] (fun o i => ∃ k : Nat, k ≤ n ∧ o = .bool (okP xss k) ∧ i = .int .i64 k) (fun _ i => n - (intOf i).toNat)
    case atStart =>
      refine ⟨0, Nat.zero_le _, ?_, rfl⟩
      rw [H0.out]
      congr 1
      rw [Bool.eq_iff_iff]
      simp
      omega
    case round =>
      obtain ⟨k, hk, rfl, rfl⟩ := hrel
      by_cases hlt : k < n
      · obtain ⟨b, off, rfl, hb, hc⟩ := hc (by omega)
        obtain ⟨aj, nj, cj, hcl, hr⟩ := hc k hlt
        have hcl' := (hbw.cell (p := ⟨b, off + k, none⟩) hb).trans hcl
        have hnl : Hid (nj = (xss.getD k []).length) := hr.len.symm
        have hst : Hid (okP xss (k + 1) = (okP xss k && certB (xss.getD k []))) := okP_step (by rw [HX.out]; exact hlt)
        clear hcl hr
        rcases (show nj = 0 ∨ (1 ≤ nj ∧ nj ≤ 512) ∨ 512 < nj from by omega) with h5 | h5 | h5
        · subst h5
          go_wp2
          go_round
          case rel =>
            refine ⟨k + 1, by omega, ?_, by go_num⟩
            have := hnl.out
            rw [hst.out, show certB (xss.getD k []) = false by simp only [certB, decide_eq_false_iff_not]; omega, Bool.and_false]
          case measure => simp [intOf]; omega
        · have hq : ((nj : Int) == 0) = false := by simp; omega
          go_wp2
          go_round
          case rel =>
            refine ⟨k + 1, by omega, ?_, by go_num⟩
            have := hnl.out
            rw [hst.out, show certB (xss.getD k []) = true by simp only [certB, decide_eq_true_eq]; omega, Bool.and_true]
          case measure => simp [intOf]; omega
        · have hq : ((nj : Int) == 0) = false := by simp; omega
          go_wp2
          go_round
          case rel =>
            refine ⟨k + 1, by omega, ?_, by go_num⟩
            have := hnl.out
            rw [hst.out, show certB (xss.getD k []) = false by simp only [certB, decide_eq_false_iff_not]; omega, Bool.and_false]
          case measure => simp [intOf]; omega
      · obtain rfl : k = n := by omega
        have hgood : Hid (okP xss k = mayB xss) := by show _ = _; rw [← HX.out, okP_end]
        go_wp2
        go_ret
        exact ⟨ret_bool hgood.out, hbw⟩

def sameB (t u : Nat) (xss yss : List (List UInt8)) : Bool := decide (t = u) && decide (xss = yss)

theorem list_ext_getD {xss yss : List (List UInt8)} (h : xss.length = yss.length) (hj : ∀ j, j < xss.length → xss.getD j [] = yss.getD j []) : xss = yss := by
  refine List.ext_getElem h fun j h1 h2 => ?_
  have := hj j h1
  simpa [List.getD, h1, h2] using this

theorem equalFunc_any (a a' : Option Addr) (n cap n' cap' : Nat) (xss yss : List (List UInt8)) (w : World) (hm : n ≤ 70368744177664) (hm' : n' ≤ 70368744177664) (h : Chn w a n cap xss) (h' : Chn w a' n' cap' yss) :
    Calls Try.prog 41 #[.slice a n cap, .slice a' n' cap', .func (.func 20) #[] #[]] w fun e w' => e = .returned (.bool (decide (xss = yss))) ∧ w = w' := by
  have hl := h.len
  have hcap := h.le
  have hl' := h'.len
  have hcap' := h'.le
  have hc := h.mem
  have hc' := h'.mem
  have HX := Lib.hid hl
  have HY := Lib.hid hl'
  clear hl hl' h h'
  by_cases hn : n = n'
  · subst hn
    go_enter Try.func41, Try.ntmps41
    go_wp2
    go_loop [17] (fun i => ∃ k : Nat, k ≤ n ∧ i = .int .i64 k ∧ Hid (∀ j, j < k → xss.getD j [] = yss.getD j [])) (fun i => n - (intOf i).toNat)
    case atStart => exact ⟨0, Nat.zero_le _, rfl, fun j hj => by omega⟩
    case round =>
      obtain ⟨k, hk, rfl, hall⟩ := hrel
      by_cases hlt : k < n
      · obtain ⟨b, off, rfl, hb, hc⟩ := hc (by omega)
        obtain ⟨b', off', rfl, hb', hc'⟩ := hc' (by omega)
        obtain ⟨aj, nj, cj, hcl, hr⟩ := hc k hlt
        obtain ⟨aj', nj', cj', hcl', hr'⟩ := hc' k hlt
        have H := Equal_any aj aj' nj cj nj' cj' _ _ w hr hr'
        clear hr hr' hc hc'
        by_cases he : xss.getD k [] = yss.getD k []
        · rw [decide_eq_true he] at H
          have HE := Lib.hid he
          clear he
          go_wp2_with (go_at_call 20; refine H.mono ?_; rintro e w1 ⟨rfl, rfl⟩)
          go_round
          case rel =>
            refine ⟨k + 1, by omega, by go_num, fun j hj => ?_⟩
            by_cases hjk : j < k
            · exact hall.out j hjk
            · obtain rfl : j = k := by omega
              exact HE.out
          case measure => simp [intOf]; omega
        · rw [decide_eq_false he] at H
          have HE : Hid (decide (xss = yss) = false) := decide_eq_false (fun h => he (by rw [h]))
          clear he
          go_wp2_with (go_at_call 20; refine H.mono ?_; rintro e w1 ⟨rfl, rfl⟩)
          go_ret
          exact ⟨ret_bool HE.out.symm, rfl⟩
      · obtain rfl : k = n := by omega
        have HE : Hid (decide (xss = yss) = true) := decide_eq_true (list_ext_getD (by rw [HX.out, HY.out]) (fun j hj => hall.out j (by rw [HX.out] at hj; exact hj)))
        go_wp2
        go_ret
        exact ⟨ret_bool HE.out.symm, rfl⟩
  · have HE : Hid (decide (xss = yss) = false) := decide_eq_false (fun h => hn (by rw [← HX.out, ← HY.out, h]))
    have hq : ((n : Int) != n') = true := by simp; omega
    go_enter Try.func41, Try.ntmps41
    go_wp2
    go_ret
    exact ⟨ret_bool HE.out.symm, rfl⟩

theorem Same_any (t u : Nat) (a a' : Option Addr) (n cap n' cap' : Nat) (xss yss : List (List UInt8)) (w : World) (hm : n ≤ 70368744177664) (hm' : n' ≤ 70368744177664) (h : Chn w a n cap xss) (h' : Chn w a' n' cap' yss) :
    Calls Try.prog 23 #[entV t a n cap, entV u a' n' cap'] w fun e w' => e = .returned (.bool (sameB t u xss yss)) ∧ Below w.heap.size w w' := by
  have hb := hal w (.cells #[.int .u64 (t : Int), .slice a n cap] 25)
  have hb2 := hb.alloc (by simp) (.cells #[.int .u64 (u : Int), .slice a' n' cap'] 25)
  have H := equalFunc_any a a' n cap n' cap' xss yss _ hm hm' (h.to hb2) (h'.to hb2)
  unfold sameB
  by_cases htu : t = u
  · subst htu
    rw [decide_eq_true rfl, Bool.true_and]
    have hq : ((t : Int) == t) = true := by simp
    clear h h'
    go_enter Try.func23, Try.ntmps23
    go_wp2_with (go_at_call 41; refine H.mono ?_; rintro e w1 ⟨rfl, rfl⟩)
    go_ret
    exact ⟨rfl, hb2⟩
  · have hq : ((t : Int) == u) = false := by simp; omega
    rw [decide_eq_false htu, Bool.false_and]
    clear H h h'
    go_enter Try.func23, Try.ntmps23
    go_wp2
    go_ret
    exact ⟨rfl, hb2⟩

theorem below_drew {B : Nat} {w w' : World} (h : Below B w w') : Below B w w'.drew := ⟨h.os, h.tape, h.output, h.size, h.block⟩

theorem refSame_any (t u : Nat) (a a' : Option Addr) (n cap n' cap' : Nat) (xss yss : List (List UInt8)) (w : World) (hm : n ≤ 70368744177664) (hm' : n' ≤ 70368744177664) (h : Chn w a n cap xss) (h' : Chn w a' n' cap' yss) :
    Calls Try.prog 24 #[entV t a n cap, entV u a' n' cap'] w fun e w' => e = .returned (.bool (sameB t u xss yss)) ∧ Below w.heap.size w w' := by
  have hb := hal w (.cells #[.int .u64 (t : Int), .slice a n cap] 25)
  have hb2 := hb.alloc (by simp) (.cells #[.int .u64 (u : Int), .slice a' n' cap'] 25)
  have hl := h.len
  have hcap := h.le
  have hl' := h'.len
  have hcap' := h'.le
  have hc := (h.to hb2).mem
  have hc' := (h'.to hb2).mem
  have HX := Lib.hid hl
  have HY := Lib.hid hl'
  clear hl hl' h h'
  unfold sameB
  by_cases htu : t = u
  · subst htu
    rw [decide_eq_true rfl, Bool.true_and]
    have hq : ((t : Int) != t) = false := by simp
    by_cases hn : n = n'
    · subst hn
      have hq2 : ((n : Int) != n) = false := by simp
      go_enter Try.func24, Try.ntmps24
      go_wp2
      go_loopw [5] (fun i wr => ∃ k : Nat, k ≤ n ∧ i = .int .i64 k ∧ Hid (∀ j, j < k → xss.getD j [] = yss.getD j []) ∧ Below (w.heap.size + 2) ((w.alloc (.cells #[.int .u64 (t : Int), .slice a n cap] 25)).alloc (.cells #[.int .u64 (t : Int), .slice a' n cap'] 25)) wr) (fun i _ => n - (intOf i).toNat)
      case atStart => exact ⟨0, Nat.zero_le _, rfl, fun j hj => by omega, Below.refl _ _⟩
      case round =>
        obtain ⟨k, hk, rfl, hall, hbr⟩ := hrel
        have e2 : ((w.alloc (.cells #[.int .u64 (t : Int), .slice a n cap] 25)).alloc (.cells #[.int .u64 (t : Int), .slice a' n cap'] 25)).heap.size = w.heap.size + 2 := by simp
        have c0 : wr.cell? ⟨w.heap.size, 1, none⟩ = some (.slice a n cap) := by
          rw [hbr.cell (p := ⟨w.heap.size, 1, none⟩) (by show w.heap.size < _; omega)]
          simp
        have c1 : wr.cell? ⟨w.heap.size + 1, 1, none⟩ = some (.slice a' n cap') := by
          rw [hbr.cell (p := ⟨w.heap.size + 1, 1, none⟩) (by show w.heap.size + 1 < _; omega)]
          simp
        have hbr2 := hb2.trans (hbr.mono (by omega))
        have hbd := below_drew (Below.refl wr.heap.size wr)
        by_cases hlt : k < n
        · obtain ⟨b, off, rfl, hb, hc⟩ := hc (by omega)
          obtain ⟨b', off', rfl, hb', hc'⟩ := hc' (by omega)
          obtain ⟨aj, nj, cj, hcl, hr⟩ := hc k hlt
          obtain ⟨aj', nj', cj', hcl', hr'⟩ := hc' k hlt
          rw [e2] at hb hb'
          have d0 := (hbr.cell (p := ⟨b, off + k, none⟩) hb).trans hcl
          have d1 := (hbr.cell (p := ⟨b', off' + k, none⟩) hb').trans hcl'
          have q1 := hr.to (hbr.mono (Nat.le_of_eq e2))
          have q2 := hr'.to (hbr.mono (Nat.le_of_eq e2))
          have r1 := run_bstr bt Try.underlying9 (q1.to hbd)
          have r2 := run_bstr bt Try.underlying9 (q2.to hbd)
          have HBR := Lib.hid hbr
          have HBR2 := Lib.hid hbr2
          clear hr hr' hc hc' q1 q2 hcl hcl' hbr hbr2 e2
          by_cases he : xss.getD k [] = yss.getD k []
          · have HE := Lib.hid he
            rw [he] at r1
            clear he
            go_wp2_with fail
            go_region
            go_wp2
            go_roundw
            case rel =>
              refine ⟨k + 1, by omega, by go_num, fun j hj => ?_, below_drew HBR.out⟩
              by_cases hjk : j < k
              · exact hall.out j hjk
              · obtain rfl : j = k := by omega
                exact HE.out
            case measure => simp [intOf]; omega
          · have HE : Hid (decide (xss = yss) = false) := decide_eq_false (fun h => he (by rw [h]))
            have hne : ((bstr (xss.getD k [])).toList == (bstr (yss.getD k [])).toList) = false := by rw [bstr_toList, bstr_toList]; simpa using he
            clear he
            generalize bstr (xss.getD k []) = s at *
            generalize bstr (yss.getD k []) = s' at *
            go_wp2_with fail
            go_region
            go_wp2
            go_ret
            exact ⟨ret_bool HE.out.symm, below_drew HBR2.out⟩
        · obtain rfl : k = n := by omega
          have HE : Hid (decide (xss = yss) = true) := decide_eq_true (list_ext_getD (by rw [HX.out, HY.out]) (fun j hj => hall.out j (by rw [HX.out] at hj; exact hj)))
          go_wp2
          go_ret
          exact ⟨ret_bool HE.out.symm, hbr2⟩
    · have HE : Hid (decide (xss = yss) = false) := decide_eq_false (fun h => hn (by rw [← HX.out, ← HY.out, h]))
      have hq2 : ((n : Int) != n') = true := by simp; omega
      clear hc hc'
      go_enter Try.func24, Try.ntmps24
      go_wp2
      go_ret
      exact ⟨ret_bool HE.out.symm, hb2⟩
  · have hq : ((t : Int) != u) = true := by simp; omega
    rw [decide_eq_false htu, Bool.false_and]
    clear hc hc'
    go_enter Try.func24, Try.ntmps24
    go_wp2
    go_ret
    exact ⟨rfl, hb2⟩
end Go.Proofs.Ytcohcjhbkiangaa
