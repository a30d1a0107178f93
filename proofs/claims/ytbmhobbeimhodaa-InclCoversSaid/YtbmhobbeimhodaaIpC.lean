/-
  InclCovers as a call. Conditions: those in each statement.
-/
import Derived.Test.YtbmhobbeimhodaaInN
namespace Go.Proofs.Ytbmhobbeimhodaa
open Go.RowKit

theorem fold_none (l : List (Nat × Nat)) : l.foldl stepC none = none := by
  induction l with
  | nil => rfl
  | cons x l ih => exact ih
/-- the next range goes on behind what was gathered, or ahead of it -/
theorem cover_next {L : List (Nat × Nat)} {c e : Option (Nat × Nat)} {f t k : Nat} (hall : L.foldl stepC c = e) (hs : e ≠ none) (hk : k < L.length) (h : (L.take k).foldl stepC c = some (f, t)) :
    (L[k].1 = t ∧ L[k].1 < L[k].2 ∧ (L.take (k + 1)).foldl stepC c = some (f, L[k].2)) ∨ (L[k].1 ≠ t ∧ L[k].2 = f ∧ L[k].1 < L[k].2 ∧ (L.take (k + 1)).foldl stepC c = some (L[k].1, t)) := by
  have e1 : (L.take (k + 1)).foldl stepC c = stepC (some (f, t)) L[k] := by
    rw [List.take_succ_eq_append_getElem hk, List.foldl_append, h]
    rfl
  have e2 : L.foldl stepC c = (L.drop (k + 1)).foldl stepC ((L.take (k + 1)).foldl stepC c) := by
    rw [← List.foldl_append, List.take_append_drop]
  have hne : stepC (some (f, t)) L[k] ≠ none := fun h0 => by
    rw [e1, h0, fold_none, hall] at e2
    exact hs e2
  rw [e1]
  unfold stepC at *
  by_cases c1 : L[k].1 = t ∧ L[k].1 < L[k].2
  · left
    refine ⟨c1.1, c1.2, ?_⟩
    show (if _ then _ else _) = _
    rw [if_pos c1]
  · simp only [if_neg c1] at hne
    by_cases c2 : L[k].2 = f ∧ L[k].1 < L[k].2
    · right
      refine ⟨fun h1 => c1 ⟨h1, c2.2⟩, c2.1, c2.2, ?_⟩
      show (if _ then _ else _) = _
      rw [if_neg c1, if_pos c2]
    · rw [if_neg c2] at hne
      exact absurd rfl hne
set_option maxRecDepth 100000 in
set_option maxHeartbeats 1600000 in
theorem LCovers_any (i s : Nat) (w : World) :
    Calls Try.prog 7 #[.int .u64 (i : Int), .int .u64 (s : Int)] w fun e w' => e = .returned (.bool true) ∧ Below w.heap.size w w' := by
  have HA := Lib.hid (fun w => Ranges_any i s w)
  have HW := Lib.hid (fun w => awake_any w)
  cases hm : okR i s with
  | false =>
    have e1 : rE i s = 1 := by simp only [rE, hm]; rfl
    have e2 : rL i s = [] := by simp only [rL, hm]; rfl
    rw [e1, e2] at HA
    rcases okR_no hm with h | ⟨h, h'⟩
    · have c : (1048576 : Int) < (s : Int) := by omega
      clear hm h e1 e2
      go_enter Try.func7, Try.ntmps7
      go_wp2_with (first
        | (go_at_call 10; refine (HA.out _).mono ?_; rintro e w1 ⟨v1, rfl, hO1, hb1⟩; obtain ⟨a1, c1, rfl, hR1, -⟩ := hO1.rd (by omega))
        | (go_at_call 12; refine (HW.out _).mono ?_; rintro e w3 ⟨rfl, hb3⟩))
      go_ret
      exact ⟨rfl, hb1.trans (hb3.mono hb1.size)⟩
    · have c : ¬ ((1048576 : Int) < (s : Int)) := by omega
      have c2 : (s : Int) ≤ (i : Int) := by omega
      clear hm h h' e1 e2
      go_enter Try.func7, Try.ntmps7
      go_wp2_with (first
        | (go_at_call 10; refine (HA.out _).mono ?_; rintro e w1 ⟨v1, rfl, hO1, hb1⟩; obtain ⟨a1, c1, rfl, hR1, -⟩ := hO1.rd (by omega))
        | (go_at_call 12; refine (HW.out _).mono ?_; rintro e w3 ⟨rfl, hb3⟩))
      go_ret
      exact ⟨rfl, hb1.trans (hb3.mono hb1.size)⟩
  | true =>
    obtain ⟨hs20, his⟩ := okR_yes hm
    have e1 : rE i s = 0 := by simp only [rE, hm]; rfl
    have e2 : rL i s = rgF i s 0 := by simp only [rL, hm]; rfl
    rw [e1, e2] at HA
    have hcov := cover_fold s s i 0 (Nat.le_refl _) his
    rw [Nat.zero_add, Nat.zero_add] at hcov
    have hin := rg_in s s i 0 (Nat.le_refl _) his
    have hlen := rg_few i s 0 hs20
    clear hm e1 e2
    generalize rgF i s 0 = L at *
    obtain ⟨m, hmL⟩ : ∃ m, m = L.length := ⟨_, rfl⟩
    rw [← hmL] at hlen
    have HM := Lib.hid hmL
    have HCOV := Lib.hid hcov
    have HIN := Lib.hid hin
    have hi20 : (i : Int) < 1048576 := by omega
    have hi0 : (0 : Int) ≤ (i : Int) := by omega
    have HS := Lib.hid hs20
    have HI := Lib.hid his
    clear hmL hcov hin hs20 his
    go_enter Try.func7, Try.ntmps7
    go_wp2_with (go_at_call 10; refine (HA.out _).mono ?_; rintro e w1 ⟨v1, rfl, hO1, hb1⟩; obtain ⟨a1, c1, rfl, hR1, -⟩ := hO1.rd (by omega); rw [← HM.out] at hR1 ⊢)
    clear hO1
    go_loopw [7, 8, 43] (fun fr tv ix wr => ∃ k f t : Nat, k ≤ m ∧ fr = .int .u64 (f : Int) ∧ tv = .int .u64 (t : Int) ∧ ix = .int .i64 (k : Int) ∧ (L.take k).foldl stepC (some (i, i + 1)) = some (f, t) ∧ Below w1.heap.size w1 wr) (fun _ _ ix _ => m - (intOf ix).toNat)
    case atStart => exact ⟨0, i, i + 1, Nat.zero_le _, rfl, by go_num, rfl, rfl, Below.refl _ _⟩
    case round =>
      obtain ⟨k, f, t, hk, rfl, rfl, rfl, hft, hB⟩ := hrel
      by_cases hlt : k < m
      · have hkL : k < L.length := by rw [← HM.out]; exact hlt
        obtain ⟨rb, ro, rfl, hrbl, -⟩ := hR1.mem (by omega)
        have hRr := (hR1.to hB).range k hkL
        have hx := HIN.out L[k] (List.getElem_mem hkL)
        have hnx := cover_next HCOV.out (by simp) hkL hft
        have hki : (k : Int) < (m : Int) := by omega
        generalize L[k] = x at *
        obtain ⟨xf, xt⟩ := x
        simp only at hx hnx
        have HLT := Lib.hid hlt
        clear hlt hkL hR1 hrbl hx
        rcases hnx with ⟨h1, h2, h3⟩ | ⟨h1, h2, h3, h4⟩
        · subst h1
          have d1 : (xf : Int) < (xt : Int) := by omega
          have H3 := Lib.hid h3
          clear h2 h3 hft
          go_wp2_with (first
            | ((with_reducible show wpList _ _ _ (⟨some 46, .load _ _, _, _, _, _⟩ :: _) _ _); refine wpList_load_mid rfl 52 _ rfl rb (ro + k * 2) rfl (encR (xf, xt)) _ hRr Try.underlying52 rfl infoRs ?_)
            | ((with_reducible show wpList _ _ _ (⟨some 10, .alloc _, _, _, _, _⟩ :: _) _ _); refine wl_alloc rfl 52 rfl [.int .u64 0, .int .u64 0] 2 infoR0 ?_; intro w6 hA6 hb6 hs6)
            | ((with_reducible show wpList _ _ _ (⟨none, .store _ _ _, _, _, _, _⟩ :: _) _ _); refine wl_store rfl 52 _ _ rfl wr.heap.size 0 rfl (encR (xf, xt)) rfl 52 _ hA6 infoRs (by simp [encR]) (encR_one _) ?_; intro w7 hA7 hg7 hs7; have c70 := hA7.cell 0; have c71 := hA7.cell 1; simp only [encR, List.take_zero, List.nil_append, List.cons_append, List.getElem?_cons_zero, List.getElem?_cons_succ] at c70 c71; have b67 : Below wr.heap.size wr w7 := hb6.grown hg7 hb6.size (by intro k e; injection e with e; omega)))
          go_roundw
          case rel => exact ⟨k + 1, f, xt, HLT.out, rfl, rfl, by go_num, H3.out, hB.trans (b67.mono hB.size)⟩
          case measure => simp [intOf]; have := HLT.out; omega
        · have d1 : (xf : Int) < (xt : Int) := by omega
          have d2 : ((xf : Int) == (t : Int)) = false := by simp; omega
          subst h2
          have H4 := Lib.hid h4
          clear h1 h3 h4 hft
          go_wp2_with (first
            | ((with_reducible show wpList _ _ _ (⟨some 46, .load _ _, _, _, _, _⟩ :: _) _ _); refine wpList_load_mid rfl 52 _ rfl rb (ro + k * 2) rfl (encR (xf, xt)) _ hRr Try.underlying52 rfl infoRs ?_)
            | ((with_reducible show wpList _ _ _ (⟨some 10, .alloc _, _, _, _, _⟩ :: _) _ _); refine wl_alloc rfl 52 rfl [.int .u64 0, .int .u64 0] 2 infoR0 ?_; intro w6 hA6 hb6 hs6)
            | ((with_reducible show wpList _ _ _ (⟨none, .store _ _ _, _, _, _, _⟩ :: _) _ _); refine wl_store rfl 52 _ _ rfl wr.heap.size 0 rfl (encR (xf, xt)) rfl 52 _ hA6 infoRs (by simp [encR]) (encR_one _) ?_; intro w7 hA7 hg7 hs7; have c70 := hA7.cell 0; have c71 := hA7.cell 1; simp only [encR, List.take_zero, List.nil_append, List.cons_append, List.getElem?_cons_zero, List.getElem?_cons_succ] at c70 c71; have b67 : Below wr.heap.size wr w7 := hb6.grown hg7 hb6.size (by intro k e; injection e with e; omega)))
          go_roundw
          case rel => exact ⟨k + 1, xf, t, HLT.out, rfl, rfl, by go_num, H4.out, hB.trans (b67.mono hB.size)⟩
          case measure => simp [intOf]; have := HLT.out; omega
      · obtain rfl : k = m := by omega
        have hc : ¬ ((k : Int) < (k : Int)) := by omega
        rw [List.take_of_length_le (by rw [← HM.out]; omega), HCOV.out] at hft
        injection hft with hft
        injection hft with h1 h2
        subst h1 h2
        have hk20 : (k : Int) ≤ 20 := by omega
        clear hR1
        go_wp2_with (go_at_call 12; refine (HW.out _).mono ?_; rintro e w3 ⟨rfl, hb3⟩)
        go_ret
        have z1 := hb1.size
        have zB := hB.size
        exact ⟨rfl, (hb1.trans (hB.mono z1)).trans (hb3.mono (by omega))⟩
end Go.Proofs.Ytbmhobbeimhodaa
