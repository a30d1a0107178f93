/-
  Layer 10: the document's Ranges. Conditions: those in each statement.
-/
import Derived.Test.YtbmhobbeimhodaaInD
namespace Go.Proofs.Ytbmhobbeimhodaa
open Go.RowKit

set_option maxRecDepth 100000 in
set_option maxHeartbeats 3200000 in
theorem rranges_any : ∀ (N n i at_ : Nat), n ≤ N → 1 ≤ n → i < n → at_ + n ≤ 1048576 → ∀ (w : World),
    Calls Try.prog 25 #[.int .u64 (i : Int), .int .u64 (n : Int), .int .u64 (at_ : Int)] w fun e w' => ∃ v, e = .returned v ∧ OwnRd w' w.heap.size v (rgF i n at_) ∧ Below w.heap.size w w' := by
  intro N
  induction N using Nat.strongRecOn with
  | _ N ih =>
    intro n i at_ hN h1 hi h20 w
    by_cases hn1 : n = 1
    · subst hn1
      rw [rgF_one _ _ _ (by omega)]
      clear ih hN hi
      go_enter Try.func25, Try.ntmps25
      go_wp2
      go_ret
      exact ⟨_, rfl, OwnG.nil _ _, Below.refl _ _⟩
    · obtain ⟨b1, b2, b3⟩ := splK_bounds (n := n) (by omega)
      have hS := fun w => rSplit_nat n w (by omega) (by omega)
      have HS := Lib.hid hS
      obtain ⟨k, hk⟩ : ∃ k, k = splK n := ⟨_, rfl⟩
      have hm1 : ((at_ + k : Nat) : Int) = (at_ : Int) + (k : Int) := by push_cast; rfl
      have hc1 : ¬ ((n : Int) = 1) := by omega
      have hk1 : (0 : Int) ≤ (k : Int) := by omega
      have hk2 : (at_ : Int) + (k : Int) ≤ 1048576 := by omega
      have hk3 : (at_ : Int) + (n : Int) ≤ 1048576 := by omega
      have hk4 : (k : Int) ≤ (n : Int) := by omega
      by_cases hlt : i < k
      · have hIH := ih k (by omega) k i at_ (Nat.le_refl _) (by omega) hlt (by omega)
        have hlen := rg_few i k at_ (by omega)
        rw [rgF_low i n at_ (by omega) (by omega), ← hk]
        rw [← hk] at HS
        obtain ⟨M, hM⟩ : ∃ M, M = rgF i k at_ := ⟨_, rfl⟩
        rw [← hM] at hIH hlen ⊢
        have hc : (i : Int) < (k : Int) := by omega
        have HIH := Lib.hid hIH
        have HML := Lib.hid hlen
        have HM1 := Lib.hid hm1
        clear hS ih hN hIH hlen hm1 hM hk b1 b2 b3 hlt h1 hi h20
        go_enter Try.func25, Try.ntmps25
        go_wp2_with (first
          | (go_at_call 32; refine (HS.out _).mono ?_; rintro e w1 ⟨rfl, rfl⟩)
          | (go_at_call 25; refine (HIH.out _).mono ?_; rintro e w2 ⟨v2, rfl, hOw2, hb2⟩)
          | ((with_reducible show wpList _ _ _ (⟨some 29, .build _ _, _, _, _, _⟩ :: _) _ _); refine wpList_buildTo rfl 60 _ rfl (some 29) rfl (encR (at_ + k, at_ + n)).toArray (builtRd _ _) ?_)
          | ((with_reducible show wpList _ _ _ (⟨some 30, .buildSlice _ _ _, _, _, _, _⟩ :: _) _ _); refine wl_litG1 (enc := encR) infoRd rfl 29 rfl (at_ + k, at_ + n) rfl (by omega) (.agg (encR (at_ + k, at_ + n)).toArray) rfl rfl ?_; intro w3 hL3 hb3 hs3)
          | ((with_reducible show wpList _ _ _ (⟨some 31, _, _, _, _, _⟩ :: _) _ _); refine wl_appendG1 infoRd rfl (.tmp 22) (.tmp 30) rfl w1.heap.size v2 M rfl (hOw2.to hb3) w2.heap.size (at_ + k, at_ + n) rfl hL3 rfl (encR_one _) (by have := HML.out; unfold maxLen; omega) (by have := HML.out; omega) (by have := hb2.size; have := hb3.size; omega) ?_; intro v4 w4 hO4 hg4 hb4))
        go_ret
        exact ⟨_, rfl, hO4, (hb2.trans (hb3.mono hb2.size)).trans hb4⟩
      · have hIH := ih (n - k) (by omega) (n - k) (i - k) (at_ + k) (Nat.le_refl _) (by omega) (by omega) (by omega)
        have hlen := rg_few (i - k) (n - k) (at_ + k) (by omega)
        rw [rgF_high i n at_ (by omega) (by omega), ← hk]
        rw [← hk] at HS
        obtain ⟨M, hM⟩ : ∃ M, M = rgF (i - k) (n - k) (at_ + k) := ⟨_, rfl⟩
        rw [← hM] at hIH hlen ⊢
        have hc : ¬ ((i : Int) < (k : Int)) := by omega
        have hc2 : (k : Int) ≤ (i : Int) := by omega
        rw [hm1, show ((i - k : Nat) : Int) = (i : Int) - (k : Int) by omega, show ((n - k : Nat) : Int) = (n : Int) - (k : Int) by omega] at hIH
        have HIH := Lib.hid hIH
        have HML := Lib.hid hlen
        have HM1 := Lib.hid hm1
        clear hS ih hN hIH hlen hm1 hM hk b1 b2 b3 hlt h1 h20
        go_enter Try.func25, Try.ntmps25
        go_wp2_with (first
          | (go_at_call 32; refine (HS.out _).mono ?_; rintro e w1 ⟨rfl, rfl⟩)
          | (go_at_call 25; refine (HIH.out _).mono ?_; rintro e w2 ⟨v2, rfl, hOw2, hb2⟩)
          | ((with_reducible show wpList _ _ _ (⟨some 46, .build _ _, _, _, _, _⟩ :: _) _ _); refine wpList_buildTo rfl 60 _ rfl (some 46) rfl (encR (at_, at_ + k)).toArray (builtRd _ _) ?_)
          | ((with_reducible show wpList _ _ _ (⟨some 47, .buildSlice _ _ _, _, _, _, _⟩ :: _) _ _); refine wl_litG1 (enc := encR) infoRd rfl 46 rfl (at_, at_ + k) rfl (by omega) (.agg (encR (at_, at_ + k)).toArray) rfl rfl ?_; intro w3 hL3 hb3 hs3)
          | ((with_reducible show wpList _ _ _ (⟨some 48, _, _, _, _, _⟩ :: _) _ _); refine wl_appendG1 infoRd rfl (.tmp 41) (.tmp 47) rfl w1.heap.size v2 M rfl (hOw2.to hb3) w2.heap.size (at_, at_ + k) rfl hL3 rfl (encR_one _) (by have := HML.out; unfold maxLen; omega) (by have := HML.out; omega) (by have := hb2.size; have := hb3.size; omega) ?_; intro v4 w4 hO4 hg4 hb4))
        go_ret
        exact ⟨_, rfl, hO4, (hb2.trans (hb3.mono hb2.size)).trans hb4⟩
theorem rRanges_any (i s : Nat) (w : World) :
    Calls Try.prog 11 #[.int .u64 (i : Int), .int .u64 (s : Int)] w fun e w' => ∃ v, e = .returned (.tuple #[v, .int .i64 (rE i s)]) ∧ OwnRd w' w.heap.size v (rL i s) ∧ Below w.heap.size w w' := by
  cases hm : okR i s with
  | false =>
    have e1 : rE i s = 1 := by simp only [rE, hm]; rfl
    have e2 : rL i s = [] := by simp only [rL, hm]; rfl
    rw [e1, e2]
    clear e1 e2
    rcases okR_no hm with h | ⟨h, h'⟩
    · have c : (1048576 : Int) < (s : Int) := by omega
      clear hm h
      go_enter Try.func11, Try.ntmps11
      go_wp2
      go_ret2
      exact ⟨_, rfl, OwnG.nil _ _, Below.refl _ _⟩
    · have c : ¬ ((1048576 : Int) < (s : Int)) := by omega
      have c2 : (s : Int) ≤ (i : Int) := by omega
      clear hm h h'
      go_enter Try.func11, Try.ntmps11
      go_wp2
      go_ret2
      exact ⟨_, rfl, OwnG.nil _ _, Below.refl _ _⟩
  | true =>
    obtain ⟨hs20, his⟩ := okR_yes hm
    have e1 : rE i s = 0 := by simp only [rE, hm]; rfl
    have e2 : rL i s = rgF i s 0 := by simp only [rL, hm]; rfl
    rw [e1, e2]
    have c : ¬ ((1048576 : Int) < (s : Int)) := by omega
    have c2 : ¬ ((s : Int) ≤ (i : Int)) := by omega
    have HD : Hid (∀ w, Calls Try.prog 25 #[.int .u64 (i : Int), .int .u64 (s : Int), .int .u64 0] w fun e w' => ∃ v, e = .returned v ∧ OwnRd w' w.heap.size v (rgF i s 0) ∧ Below w.heap.size w w') :=
      fun w => rranges_any s s i 0 (Nat.le_refl _) (by omega) his (by omega) w
    clear hm hs20 his e1 e2
    generalize rgF i s 0 = L at *
    go_enter Try.func11, Try.ntmps11
    go_wp2_with (go_at_call 25; refine (HD.out _).mono ?_; rintro e w2 ⟨v2, rfl, hOw2, hb2⟩)
    go_ret2
    exact ⟨_, rfl, hOw2, hb2⟩
end Go.Proofs.Ytbmhobbeimhodaa
