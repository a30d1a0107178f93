/-
  Layer 11: the document's Ranges. Conditions: those in each statement.
-/
import Derived.Test.YtcnnblhjgligbaaCnB
namespace Go.Proofs.Ytcnnblhjgligbaa
open Go.RowKit

set_option maxRecDepth 100000 in
set_option maxHeartbeats 3200000 in
theorem wanted_any : ∀ (N n m at_ : Nat) (b : Bool), n ≤ N → 1 ≤ m → m ≤ n → at_ + n ≤ 1048576 → ∀ (w : World),
    Calls Try.prog 24 #[.int .u64 (m : Int), .int .u64 (n : Int), .int .u64 (at_ : Int), .bool b] w fun e w' => ∃ v, e = .returned v ∧ OwnRd w' w.heap.size v (wtF m n at_ b) ∧ Below w.heap.size w w' := by
  intro N
  induction N using Nat.strongRecOn with
  | _ N ih =>
    intro n m at_ b hN h1 hmn h20 w
    have hm2 : ((at_ + n : Nat) : Int) = (at_ : Int) + (n : Int) := by push_cast; rfl
    have hk3 : (at_ : Int) + (n : Int) ≤ 1048576 := by omega
    by_cases hmn2 : m = n
    · subst hmn2
      rw [wtF_all _ _ _ h1]
      clear ih hN hmn
      cases b with
      | true =>
        simp only [if_true]
        clear h1 h20 hm2 hk3
        go_enter Try.func24, Try.ntmps24
        go_wp2
        go_ret
        exact ⟨_, rfl, OwnG.nil _ _, Below.refl _ _⟩
      | false =>
        rw [if_neg (by decide)]
        have HM2 := Lib.hid hm2
        clear hm2
        go_enter Try.func24, Try.ntmps24
        go_wp2_with (first
          | ((with_reducible show wpList _ _ _ (⟨some 21, .build _ _, _, _, _, _⟩ :: _) _ _); refine wpList_buildTo rfl 59 _ rfl (some 21) rfl (encR (at_, at_ + m)).toArray (builtRd _ _) ?_)
          | ((with_reducible show wpList _ _ _ (⟨some 22, .buildSlice _ _ _, _, _, _, _⟩ :: _) _ _); refine wl_litG1 (enc := encR) infoRd rfl 21 rfl (at_, at_ + m) rfl (by omega) (.agg (encR (at_, at_ + m)).toArray) rfl rfl ?_; intro w3 hL3 hb3 hs3)
          | ((with_reducible show wpList _ _ _ (⟨some 23, _, _, _, _, _⟩ :: _) _ _); refine wl_appendG1 infoRd rfl (.tmp 16) (.tmp 22) rfl w.heap.size (.slice none 0 0) [] rfl (OwnG.nil _ _) w.heap.size (at_, at_ + m) rfl hL3 rfl (encR_one _) (by simp [maxLen]) (by simp) (by have := hb3.size; omega) ?_; intro v4 w4 hO4 hg4 hb4))
        go_ret
        exact ⟨_, rfl, hO4, hb3.trans hb4⟩
    · obtain ⟨b1, b2, b3⟩ := splK_bounds (n := n) (by omega)
      have hS := fun w => rSplit_nat n w (by omega) (by omega)
      have HS := Lib.hid hS
      obtain ⟨k, hk⟩ : ∃ k, k = splK n := ⟨_, rfl⟩
      have hm1 : ((at_ + k : Nat) : Int) = (at_ : Int) + (k : Int) := by push_cast; rfl
      have hc1 : ¬ ((m : Int) = (n : Int)) := by omega
      have hk1 : (0 : Int) ≤ (k : Int) := by omega
      have hk2 : (at_ : Int) + (k : Int) ≤ 1048576 := by omega
      have hk4 : (k : Int) ≤ (n : Int) := by omega
      by_cases hlt : m ≤ k
      · have hIH := ih k (by omega) k m at_ b (Nat.le_refl _) h1 hlt (by omega)
        have hlen := wt_few m k at_ b h1 hlt (by omega)
        rw [wtF_low m n at_ b h1 (by omega) (by omega), ← hk]
        rw [← hk] at HS
        obtain ⟨M, hM⟩ : ∃ M, M = wtF m k at_ b := ⟨_, rfl⟩
        rw [← hM] at hIH hlen ⊢
        have hc : (m : Int) ≤ (k : Int) := by omega
        have HIH := Lib.hid hIH
        have HML := Lib.hid hlen
        have HM1 := Lib.hid hm1
        have HM2 := Lib.hid hm2
        clear hS ih hN hIH hlen hm1 hm2 hM hk b1 b2 b3 hlt h1 hmn h20 hmn2
        go_enter Try.func24, Try.ntmps24
        go_wp2_with (first
          | (go_at_call 34; refine (HS.out _).mono ?_; rintro e w1 ⟨rfl, rfl⟩)
          | (go_at_call 24; refine (HIH.out _).mono ?_; rintro e w2 ⟨v2, rfl, hOw2, hb2⟩)
          | ((with_reducible show wpList _ _ _ (⟨some 43, .build _ _, _, _, _, _⟩ :: _) _ _); refine wpList_buildTo rfl 59 _ rfl (some 43) rfl (encR (at_ + k, at_ + n)).toArray (builtRd _ _) ?_)
          | ((with_reducible show wpList _ _ _ (⟨some 44, .buildSlice _ _ _, _, _, _, _⟩ :: _) _ _); refine wl_litG1 (enc := encR) infoRd rfl 43 rfl (at_ + k, at_ + n) rfl (by omega) (.agg (encR (at_ + k, at_ + n)).toArray) rfl rfl ?_; intro w3 hL3 hb3 hs3)
          | ((with_reducible show wpList _ _ _ (⟨some 45, _, _, _, _, _⟩ :: _) _ _); refine wl_appendG1 infoRd rfl (.tmp 36) (.tmp 44) rfl w1.heap.size v2 M rfl (hOw2.to hb3) w2.heap.size (at_ + k, at_ + n) rfl hL3 rfl (encR_one _) (by have := HML.out; unfold maxLen; omega) (by have := HML.out; omega) (by have := hb2.size; have := hb3.size; omega) ?_; intro v4 w4 hO4 hg4 hb4))
        go_ret
        exact ⟨_, rfl, hO4, (hb2.trans (hb3.mono hb2.size)).trans hb4⟩
      · have hIH := ih (n - k) (by omega) (n - k) (m - k) (at_ + k) false (Nat.le_refl _) (by omega) (by omega) (by omega)
        have hlen := wt_few (m - k) (n - k) (at_ + k) false (by omega) (by omega) (by omega)
        rw [wtF_high m n at_ b (by omega) (by omega), ← hk]
        rw [← hk] at HS
        obtain ⟨M, hM⟩ : ∃ M, M = wtF (m - k) (n - k) (at_ + k) false := ⟨_, rfl⟩
        rw [← hM] at hIH hlen ⊢
        have hc : ¬ ((m : Int) ≤ (k : Int)) := by omega
        have hc2 : (k : Int) ≤ (m : Int) := by omega
        have hmm : (m : Int) ≤ (n : Int) := by omega
        rw [hm1, show ((m - k : Nat) : Int) = (m : Int) - (k : Int) by omega, show ((n - k : Nat) : Int) = (n : Int) - (k : Int) by omega] at hIH
        have HIH := Lib.hid hIH
        have HML := Lib.hid hlen
        have HM1 := Lib.hid hm1
        have HM2 := Lib.hid hm2
        clear hS ih hN hIH hlen hm1 hm2 hM hk b1 b2 b3 hlt h1 h20 hmn2 hmn
        go_enter Try.func24, Try.ntmps24
        go_wp2_with (first
          | (go_at_call 34; refine (HS.out _).mono ?_; rintro e w1 ⟨rfl, rfl⟩)
          | (go_at_call 24; refine (HIH.out _).mono ?_; rintro e w2 ⟨v2, rfl, hOw2, hb2⟩)
          | ((with_reducible show wpList _ _ _ (⟨some 60, .build _ _, _, _, _, _⟩ :: _) _ _); refine wpList_buildTo rfl 59 _ rfl (some 60) rfl (encR (at_, at_ + k)).toArray (builtRd _ _) ?_)
          | ((with_reducible show wpList _ _ _ (⟨some 61, .buildSlice _ _ _, _, _, _, _⟩ :: _) _ _); refine wl_litG1 (enc := encR) infoRd rfl 60 rfl (at_, at_ + k) rfl (by omega) (.agg (encR (at_, at_ + k)).toArray) rfl rfl ?_; intro w3 hL3 hb3 hs3)
          | ((with_reducible show wpList _ _ _ (⟨some 62, _, _, _, _, _⟩ :: _) _ _); refine wl_appendG1 infoRd rfl (.tmp 55) (.tmp 61) rfl w1.heap.size v2 M rfl (hOw2.to hb3) w2.heap.size (at_, at_ + k) rfl hL3 rfl (encR_one _) (by have := HML.out; unfold maxLen; omega) (by have := HML.out; omega) (by have := hb2.size; have := hb3.size; omega) ?_; intro v4 w4 hO4 hg4 hb4))
        go_ret
        exact ⟨_, rfl, hO4, (hb2.trans (hb3.mono hb2.size)).trans hb4⟩
set_option maxRecDepth 100000 in
set_option maxHeartbeats 1600000 in
theorem rRangesC_any (m n : Nat) (w : World) :
    Calls Try.prog 11 #[.int .u64 (m : Int), .int .u64 (n : Int)] w fun e w' => ∃ v, e = .returned (.tuple #[v, .int .i64 (cE m n)]) ∧ OwnRd w' w.heap.size v (cL m n) ∧ Below w.heap.size w w' := by
  cases hm : okC m n with
  | false =>
    have e1 : cE m n = 1 := by simp only [cE, hm]; rfl
    have e2 : cL m n = [] := by simp only [cL, hm]; rfl
    rw [e1, e2]
    clear e1 e2
    rcases okC_no hm with h | ⟨h, h'⟩
    · have c : (1048576 : Int) < (n : Int) := by omega
      clear hm h
      go_enter Try.func11, Try.ntmps11
      go_wp2
      go_ret2
      exact ⟨_, rfl, OwnG.nil _ _, Below.refl _ _⟩
    · have c : ¬ ((1048576 : Int) < (n : Int)) := by omega
      have c2 : (n : Int) < (m : Int) := by omega
      clear hm h h'
      go_enter Try.func11, Try.ntmps11
      go_wp2
      go_ret2
      exact ⟨_, rfl, OwnG.nil _ _, Below.refl _ _⟩
  | true =>
    obtain ⟨hn20, hmn⟩ := okC_yes hm
    have e1 : cE m n = 0 := by simp only [cE, hm]; rfl
    have c : ¬ ((1048576 : Int) < (n : Int)) := by omega
    have c2 : ¬ ((n : Int) < (m : Int)) := by omega
    by_cases h0 : m = 0
    · subst h0
      rw [e1, cL_zero]
      have c4 : ¬ ((n : Int) < 0) := by omega
      clear hm hn20 hmn e1 c2
      go_enter Try.func11, Try.ntmps11
      go_wp2
      go_ret2
      exact ⟨_, rfl, OwnG.nil _ _, Below.refl _ _⟩
    have e2 : cL m n = wtF m n 0 true := by simp only [cL, hm, if_true, if_neg h0]
    rw [e1, e2]
    have c0 : ((m : Int) == 0) = false := by simp; omega
    have HD : Hid (∀ w, Calls Try.prog 24 #[.int .u64 (m : Int), .int .u64 (n : Int), .int .u64 0, .bool true] w fun e w' => ∃ v, e = .returned v ∧ OwnRd w' w.heap.size v (wtF m n 0 true) ∧ Below w.heap.size w w') :=
      fun w => wanted_any n n m 0 true (Nat.le_refl _) (by omega) hmn (by omega) w
    clear hm hn20 hmn e1 e2 h0
    generalize wtF m n 0 true = L at *
    go_enter Try.func11, Try.ntmps11
    go_wp2_with (go_at_call 24; refine (HD.out _).mono ?_; rintro e w2 ⟨v2, rfl, hOw2, hb2⟩)
    go_ret2
    exact ⟨_, rfl, hOw2, hb2⟩
end Go.Proofs.Ytcnnblhjgligbaa
