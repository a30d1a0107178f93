/-
  Layer 11: the program's closure and its Ranges. Conditions: those in each statement.
-/
import Derived.Test.YtcnnblhjgligbaaCnA
import Derived.Test.YtcnnblhjgligbaaInE
namespace Go.Proofs.Ytcnnblhjgligbaa
open Go.RowKit

abbrev fnC (bm bo bd : Nat) : Value := .func (.func 22) #[] #[.pointer (some ⟨bm, 0, none⟩), .pointer (some ⟨bo, 0, none⟩), .pointer (some ⟨bd, 0, none⟩)]
theorem wt_few (m n s : Nat) (b : Bool) (h1 : 1 ≤ m) (h2 : m ≤ n) (h : n ≤ 1048576) : (wtF m n s b).length ≤ 21 := wt_len 20 m n s b h1 h2 (by simpa using h)
set_option maxRecDepth 100000 in
set_option maxHeartbeats 3200000 in
theorem downC_any (bm bo bd m B : Nat) (hoB : bo < B) : ∀ (N n f t : Nat), n ≤ N → t = f + n → f < m → m ≤ t → t ≤ 1048576 → ∀ (w : World) (v : Value) (L : List (Nat × Nat)),
    Arr w bm 22 [.int .u64 (m : Int)] → Arr w bd 54 [fnC bm bo bd] → Arr w bo 23 [v] → OwnRp w B v L → L.length ≤ 1048576 → B ≤ w.heap.size →
    Calls Try.prog 22 #[.int .u64 (f : Int), .int .u64 (t : Int), .pointer (some ⟨bm, 0, none⟩), .pointer (some ⟨bo, 0, none⟩), .pointer (some ⟨bd, 0, none⟩)] w fun e w' => e = .returned (.tuple #[]) ∧ DownD bo B (L ++ wtF (m - f) n f (decide (f = 0))) w w' := by
  intro N
  induction N using Nat.strongRecOn with
  | _ N ih =>
    intro n f t hN ht hfm hmt ht20 w v L hI hD hO hOw hLl hBw
    have en : (n : Int) = (t : Int) - (f : Int) := by omega
    have c1 := hI.cell 0
    have c2 := hD.cell 0
    have c3 := hO.cell 0
    simp only [List.getElem?_cons_zero] at c1 c2 c3
    by_cases hmt2 : m = t
    · have hnf : m - f = n := by omega
      rw [hnf, wtF_all _ _ _ (by omega), ← ht]
      subst hmt2
      clear ih hN en hnf
      have HT := Lib.hid ht
      clear ht
      by_cases hf0 : f = 0
      · subst hf0
        simp only [decide_true, if_true, List.append_nil]
        go_enter Try.func22, Try.ntmps22
        go_wp2
        exact bodyPost_ret (results_none rfl _ _ _) rfl ⟨rfl, v, hO, hOw, KB.refl _ _⟩
      · rw [decide_eq_false hf0, if_neg (by decide)]
        have hc : (0 : Int) < (f : Int) := by omega
        have HML := Lib.hid hLl
        have HBW := Lib.hid hBw
        clear hLl hBw hf0
        go_enter Try.func22, Try.ntmps22
        go_wp2_with (first
          | ((with_reducible show wpList _ _ _ (⟨some 18, .build _ _, _, _, _, _⟩ :: _) _ _); refine wpList_buildTo rfl 52 _ rfl (some 18) rfl (encR (f, m)).toArray (builtRp _ _) ?_)
          | ((with_reducible show wpList _ _ _ (⟨some 19, .buildSlice _ _ _, _, _, _, _⟩ :: _) _ _); refine wl_litG1 (enc := encR) infoRp rfl 18 rfl (f, m) rfl (by omega) (.agg (encR (f, m)).toArray) rfl rfl ?_; intro w3 hL3 hb3 hs3; replace hs3 := Lib.hid hs3)
          | ((with_reducible show wpList _ _ _ (⟨some 20, _, _, _, _, _⟩ :: _) _ _); refine wl_appendG1 infoRp rfl (.tmp 15) (.tmp 19) rfl B v L rfl (hOw.to hb3) w.heap.size (f, m) rfl hL3 rfl (encR_one _) (by have := HML.out; unfold maxLen; omega) (by have := HML.out; omega) (by have := HBW.out; have := hb3.size; omega) ?_; intro v4 w4 hO4 hg4 hb4; obtain ⟨a4, cp4, rfl, hrd4, -⟩ := hO4.rd (by omega))
          | ((with_reducible show wpList _ _ _ (⟨none, .store _ _ _, _, _, _, _⟩ :: _) _ _); refine wl_store1 rfl 23 _ _ rfl bo 0 rfl _ rfl rfl rfl 23 [v] ((hO.kept hb3).grown hg4 (row_other hO hOw (by decide))) infoVs (by simp) ?_; intro w5 hA5 hg5 hs5))
        refine bodyPost_ret (results_none rfl _ _ _) rfl ?_
        have hOB := World.ownsRow.lt hOw.row
        have hBw := HBW.out
        have z3 := hb3.size
        have z4 := hg4.size
        have hne : (Value.slice a4 (L ++ [(f, m)]).length cp4).ownBlock ≠ some bo := fun e => by have := (World.ownsRow.lt hO4.row bo e).1; omega
        refine ⟨rfl, _, hA5, hO4.by hg5 (.inr hne), ?_⟩
        have k3 : KB (fun k => k = bo ∨ B ≤ k) w w3 := (KB.refl _ _).below hb3
        have k4 : KB (fun k => k = bo ∨ B ≤ k) w w4 := kb_row k3 hg4 fun g e => .inr (hOB g e).1
        exact k4.grown hg5 (.inl rfl)
    · obtain ⟨b1, b2, b3⟩ := splK_bounds (n := n) (by omega)
      have hS := fun w => Split_nat n w (by omega) (by omega)
      rw [en] at hS
      have HS := Lib.hid hS
      have hcm : ¬ ((t : Int) = (m : Int)) := by omega
      obtain ⟨k, hk⟩ : ∃ k, k = splK n := ⟨_, rfl⟩
      have hm1 : ((f + k : Nat) : Int) = (f : Int) + (k : Int) := by push_cast; rfl
      have hft : (f : Int) ≤ (t : Int) := by omega
      by_cases hlt : m ≤ f + k
      · have hIH := ih k (by omega) k f (f + k) (Nat.le_refl _) rfl hfm hlt (by omega) w v L hI hD hO hOw hLl hBw
        have hlen := wt_few (m - f) k f (decide (f = 0)) (by omega) (by omega) (by omega)
        rw [wtF_low (m - f) n f _ (by omega) (by omega) (by omega), ← hk, ← List.append_assoc, ← ht]
        rw [← hk] at HS
        rw [hm1] at hIH
        obtain ⟨M, hM⟩ : ∃ M, M = L ++ wtF (m - f) k f (decide (f = 0)) := ⟨_, rfl⟩
        rw [← hM] at hIH ⊢
        have hMl : M.length ≤ 1048597 := by rw [hM, List.length_append]; omega
        have hc : (m : Int) ≤ (f : Int) + (k : Int) := by omega
        have hk1 : (0 : Int) ≤ (k : Int) := by omega
        have hk2 : (f : Int) + (k : Int) ≤ 1048576 := by omega
        have HIH := Lib.hid hIH
        have HML := Lib.hid hMl
        have HM1 := Lib.hid hm1
        have HBW := Lib.hid hBw
        clear hS ih hN en hIH hMl hM hm1 hlen hk b1 b2 b3 ht hlt hmt2
        go_enter Try.func22, Try.ntmps22
        go_wp2_with (first
          | (go_at_call 23; refine (HS.out _).mono ?_; rintro e w1 ⟨rfl, rfl⟩)
          | (go_at_call 22; refine HIH.out.mono ?_; rintro e w2 ⟨rfl, v2, hO2, hOw2, hkb2⟩; have c4 := hO2.cell 0; simp only [List.getElem?_cons_zero] at c4; have hBw2 : B ≤ w2.heap.size := (by have := hkb2.size; have := HBW.out; omega))
          | ((with_reducible show wpList _ _ _ (⟨some 41, .build _ _, _, _, _, _⟩ :: _) _ _); refine wpList_buildTo rfl 52 _ rfl (some 41) rfl (encR (f + k, t)).toArray (builtRp _ _) ?_)
          | ((with_reducible show wpList _ _ _ (⟨some 42, .buildSlice _ _ _, _, _, _, _⟩ :: _) _ _); refine wl_litG1 (enc := encR) infoRp rfl 41 rfl (f + k, t) rfl (by omega) (.agg (encR (f + k, t)).toArray) rfl rfl ?_; intro w3 hL3 hb3 hs3)
          | ((with_reducible show wpList _ _ _ (⟨some 43, _, _, _, _, _⟩ :: _) _ _); refine wl_appendG1 infoRp rfl (.tmp 38) (.tmp 42) rfl B v2 M rfl (hOw2.to hb3) w2.heap.size (f + k, t) rfl hL3 rfl (encR_one _) (by have := HML.out; unfold maxLen; omega) (by have := HML.out; omega) (by omega) ?_; intro v4 w4 hO4 hg4 hb4; obtain ⟨a4, cp4, rfl, hrd4, -⟩ := hO4.rd (by omega))
          | ((with_reducible show wpList _ _ _ (⟨none, .store _ _ _, _, _, _, _⟩ :: _) _ _); refine wl_store1 rfl 23 _ _ rfl bo 0 rfl _ rfl rfl rfl 23 [v2] ((hO2.kept hb3).grown hg4 (row_other hO2 hOw2 (by decide))) infoVs (by simp) ?_; intro w5 hA5 hg5 hs5))
        refine bodyPost_end (results_none rfl _ _ _) rfl ?_
        have s3 := hb3.size
        have s4 := hg4.size
        have hOB := World.ownsRow.lt hOw2.row
        have hne : (Value.slice a4 (M ++ [(f + k, t)]).length cp4).ownBlock ≠ some bo := fun e => by have := (World.ownsRow.lt hO4.row bo e).1; omega
        refine ⟨rfl, _, hA5, hO4.by hg5 (.inr hne), ?_⟩
        have k3 := hkb2.below hb3
        have k4 : KB (fun k => k = bo ∨ B ≤ k) w1 w4 := kb_row k3 hg4 fun g e => .inr (hOB g e).1
        exact k4.grown hg5 (.inl rfl)
      · have hIH := ih (n - k) (by omega) (n - k) (f + k) t (Nat.le_refl _) (by omega) (by omega) hmt ht20 w v L hI hD hO hOw hLl hBw
        rw [show decide (f + k = 0) = false from decide_eq_false (by omega)] at hIH
        have hlen := wt_few (m - f - k) (n - k) (f + k) false (by omega) (by omega) (by omega)
        rw [show m - (f + k) = m - f - k by omega] at hIH
        rw [wtF_high (m - f) n f _ (by omega) (by omega), ← hk, ← List.append_assoc]
        rw [← hk] at HS
        rw [hm1] at hIH
        obtain ⟨M, hM⟩ : ∃ M, M = L ++ wtF (m - f - k) (n - k) (f + k) false := ⟨_, rfl⟩
        rw [← hM] at hIH ⊢
        have hMl : M.length ≤ 1048597 := by rw [hM, List.length_append]; omega
        have hc : ¬ ((m : Int) ≤ (f : Int) + (k : Int)) := by omega
        have hk1 : (0 : Int) ≤ (k : Int) := by omega
        have hk2 : (f : Int) + (k : Int) ≤ 1048576 := by omega
        have HIH := Lib.hid hIH
        have HML := Lib.hid hMl
        have HM1 := Lib.hid hm1
        have HBW := Lib.hid hBw
        clear hS ih hN en hIH hMl hM hm1 hlen hk b1 b2 b3 ht hlt hmt2
        go_enter Try.func22, Try.ntmps22
        go_wp2_with (first
          | (go_at_call 23; refine (HS.out _).mono ?_; rintro e w1 ⟨rfl, rfl⟩)
          | (go_at_call 22; refine HIH.out.mono ?_; rintro e w2 ⟨rfl, v2, hO2, hOw2, hkb2⟩; have c4 := hO2.cell 0; simp only [List.getElem?_cons_zero] at c4; have hBw2 : B ≤ w2.heap.size := (by have := hkb2.size; have := HBW.out; omega))
          | ((with_reducible show wpList _ _ _ (⟨some 51, .build _ _, _, _, _, _⟩ :: _) _ _); refine wpList_buildTo rfl 52 _ rfl (some 51) rfl (encR (f, f + k)).toArray (builtRp _ _) ?_)
          | ((with_reducible show wpList _ _ _ (⟨some 52, .buildSlice _ _ _, _, _, _, _⟩ :: _) _ _); refine wl_litG1 (enc := encR) infoRp rfl 51 rfl (f, f + k) rfl (by omega) (.agg (encR (f, f + k)).toArray) rfl rfl ?_; intro w3 hL3 hb3 hs3)
          | ((with_reducible show wpList _ _ _ (⟨some 53, _, _, _, _, _⟩ :: _) _ _); refine wl_appendG1 infoRp rfl (.tmp 48) (.tmp 52) rfl B v2 M rfl (hOw2.to hb3) w2.heap.size (f, f + k) rfl hL3 rfl (encR_one _) (by have := HML.out; unfold maxLen; omega) (by have := HML.out; omega) (by omega) ?_; intro v4 w4 hO4 hg4 hb4; obtain ⟨a4, cp4, rfl, hrd4, -⟩ := hO4.rd (by omega))
          | ((with_reducible show wpList _ _ _ (⟨none, .store _ _ _, _, _, _, _⟩ :: _) _ _); refine wl_store1 rfl 23 _ _ rfl bo 0 rfl _ rfl rfl rfl 23 [v2] ((hO2.kept hb3).grown hg4 (row_other hO2 hOw2 (by decide))) infoVs (by simp) ?_; intro w5 hA5 hg5 hs5))
        refine bodyPost_end (results_none rfl _ _ _) rfl ?_
        have s3 := hb3.size
        have s4 := hg4.size
        have hOB := World.ownsRow.lt hOw2.row
        have hne : (Value.slice a4 (M ++ [(f, f + k)]).length cp4).ownBlock ≠ some bo := fun e => by have := (World.ownsRow.lt hO4.row bo e).1; omega
        refine ⟨rfl, _, hA5, hO4.by hg5 (.inr hne), ?_⟩
        have k3 := hkb2.below hb3
        have k4 : KB (fun k => k = bo ∨ B ≤ k) w1 w4 := kb_row k3 hg4 fun g e => .inr (hOB g e).1
        exact k4.grown hg5 (.inl rfl)
/-- whether there are such first leaves -/
def okC (m n : Nat) : Bool := decide (n ≤ 1048576) && decide (m ≤ n)
def cE (m n : Nat) : Int := if okC m n then 0 else 1
def cL (m n : Nat) : List (Nat × Nat) := if okC m n then (if m = 0 then [] else wtF m n 0 true) else []
theorem okC_yes {m n : Nat} (h : okC m n = true) : n ≤ 1048576 ∧ m ≤ n := by simpa [okC] using h
theorem okC_no {m n : Nat} (h : okC m n = false) : 1048576 < n ∨ (n ≤ 1048576 ∧ n < m) := by
  simp [okC] at h
  omega
theorem cL_zero (n : Nat) : cL 0 n = [] := by unfold cL; split <;> rfl
theorem cL_few (m n : Nat) : (cL m n).length ≤ 21 := by
  unfold cL
  cases h : okC m n with
  | false => simp
  | true =>
    by_cases h0 : m = 0
    · simp [h0]
    · rw [if_pos rfl, if_neg h0]
      exact wt_few m n 0 true (by omega) (okC_yes h).2 (okC_yes h).1
set_option maxRecDepth 100000 in
set_option maxHeartbeats 1600000 in
theorem RangesC_any (m n : Nat) (w : World) :
    Calls Try.prog 10 #[.int .u64 (m : Int), .int .u64 (n : Int)] w fun e w' => ∃ v, e = .returned (.tuple #[v, .int .i64 (cE m n)]) ∧ OwnRp w' w.heap.size v (cL m n) ∧ Below w.heap.size w w' := by
  cases hm : okC m n with
  | false =>
    have e1 : cE m n = 1 := by simp only [cE, hm]; rfl
    have e2 : cL m n = [] := by simp only [cL, hm]; rfl
    rw [e1, e2]
    clear e1 e2
    rcases okC_no hm with h | ⟨h, h'⟩
    · have c : (1048576 : Int) < (n : Int) := by omega
      clear hm h
      go_enter Try.func10, Try.ntmps10
      go_wp2
      go_ret2
      exact ⟨_, rfl, OwnG.nil _ _, (Below.refl _ _).alloc (Nat.le_refl _) _⟩
    · have c : ¬ ((1048576 : Int) < (n : Int)) := by omega
      have c2 : (n : Int) < (m : Int) := by omega
      clear hm h h'
      go_enter Try.func10, Try.ntmps10
      go_wp2_with (first
        | ((with_reducible show wpList _ _ _ (⟨some 2, .box _ _, _, _, _, _⟩ :: _) _ _); refine wl_box1 rfl 22 _ rfl (.int .u64 (m : Int)) rfl rfl ?_; intro w1 hA1 hb1 hs1; have c3 := hA1.cell 0; simp only [List.getElem?_cons_zero] at c3))
      go_ret2
      exact ⟨_, rfl, OwnG.nil _ _, hb1⟩
  | true =>
    obtain ⟨hn20, hmn⟩ := okC_yes hm
    have e1 : cE m n = 0 := by simp only [cE, hm]; rfl
    have c : ¬ ((1048576 : Int) < (n : Int)) := by omega
    have c2 : ¬ ((n : Int) < (m : Int)) := by omega
    by_cases h0 : m = 0
    · subst h0
      rw [e1, cL_zero]
      have c4 : ¬ ((n : Int) < 0) := by omega
      clear hm hn20 hmn e1 c2
      go_enter Try.func10, Try.ntmps10
      go_wp2_with (first
        | ((with_reducible show wpList _ _ _ (⟨some 2, .box _ _, _, _, _, _⟩ :: _) _ _); refine wl_box1 rfl 22 _ rfl (.int .u64 0) rfl rfl ?_; intro w1 hA1 hb1 hs1; have c3 := hA1.cell 0; simp only [List.getElem?_cons_zero] at c3))
      go_ret2
      exact ⟨_, rfl, OwnG.nil _ _, hb1⟩
    have e2 : cL m n = wtF m n 0 true := by simp only [cL, hm, if_true, if_neg h0]
    rw [e1, e2]
    have c0 : ((m : Int) == 0) = false := by simp; omega
    have HD : Hid (∀ (bm bo bd B : Nat) (w : World), bo < B → Arr w bm 22 [.int .u64 (m : Int)] → Arr w bd 54 [fnC bm bo bd] → Arr w bo 23 [.slice none 0 0] → B ≤ w.heap.size → Calls Try.prog 22 #[.int .u64 0, .int .u64 (n : Int), .pointer (some ⟨bm, 0, none⟩), .pointer (some ⟨bo, 0, none⟩), .pointer (some ⟨bd, 0, none⟩)] w fun e w' => e = .returned (.tuple #[]) ∧ DownD bo B (wtF m n 0 true) w w') :=
      fun bm bo bd B w h1 h2 h3 h4 h5 => downC_any bm bo bd m B h1 n n 0 n (Nat.le_refl _) (by omega) (by omega) hmn hn20 w _ [] h2 h3 h4 (OwnG.nil _ _) (by simp) h5
    clear hm hn20 hmn e1 e2 h0
    generalize wtF m n 0 true = L at *
    have hmf : ∀ (fn : Fn) (first cap : Array Value) (w : World), (Instr.makeFunc fn first cap).run Try.prog w = .ok (.func fn first cap) w := fun _ _ _ _ => rfl
    go_enter Try.func10, Try.ntmps10
    go_wp2_with (first
      | ((with_reducible show wpList _ _ _ (⟨some 2, .box _ _, _, _, _, _⟩ :: _) _ _); refine wl_box1 rfl 22 _ rfl (.int .u64 (m : Int)) rfl rfl ?_; intro w1 hA1 hb1 hs1; replace hs1 := Lib.hid hs1; have c3 := hA1.cell 0; simp only [List.getElem?_cons_zero] at c3)
      | ((with_reducible show wpList _ _ _ (⟨some 6, .alloc _, _, _, _, _⟩ :: _) _ _); refine wl_alloc1 rfl 23 rfl _ 1 infoVp rfl ?_; intro w2 hA2 hb2 hs2; replace hs2 := Lib.hid hs2)
      | ((with_reducible show wpList _ _ _ (⟨some 7, .alloc _, _, _, _, _⟩ :: _) _ _); refine wl_alloc1 rfl 54 rfl _ 1 infoFn rfl ?_; intro w3 hA3 hb3 hs3; replace hs3 := Lib.hid hs3)
      | ((with_reducible show wpList _ _ _ (⟨none, .store _ _ _, _, _, _, _⟩ :: _) _ _); refine wl_store1 rfl 54 _ _ rfl w2.heap.size 0 rfl (fnC w.heap.size w1.heap.size w2.heap.size) rfl rfl rfl 54 _ hA3 infoFs (by simp) ?_; intro w4 hA4 hg4 hs4; replace hs4 := Lib.hid hs4; have c4 := hA4.cell 0; simp only [List.set_cons_zero, List.getElem?_cons_zero] at c4)
      | (go_at_call 22; refine (HD.out w.heap.size w1.heap.size w2.heap.size w3.heap.size w4 (by have z1 := hs1.out; have z2 := hs2.out; have z3 := hs3.out; have z4 := hs4.out; omega) (((hA1.kept hb2).kept hb3).grown hg4 (by intro e; injection e with e; have z1 := hs1.out; have z2 := hs2.out; have z3 := hs3.out; have z4 := hs4.out; omega)) hA4 ((hA2.kept hb3).grown hg4 (by intro e; injection e with e; have z1 := hs1.out; have z2 := hs2.out; have z3 := hs3.out; have z4 := hs4.out; omega)) (by have z1 := hs1.out; have z2 := hs2.out; have z3 := hs3.out; have z4 := hs4.out; omega)).mono ?_; rintro e w5 ⟨rfl, v, hA5, hO5, hkb5⟩; have c5 := hA5.cell 0; simp only [List.getElem?_cons_zero] at c5))
    go_ret2
    have z1 := hs1.out
    have z2 := hs2.out
    have z3 := hs3.out
    have z4 := hs4.out
    have b4 : Below w.heap.size w w4 := ((hb1.trans (hb2.mono (by omega))).trans (hb3.mono (by omega))).grown hg4 (by omega) (by intro k e; injection e with e; omega)
    exact ⟨_, rfl, hO5.base (by omega), b4.trans (hkb5.under (fun k h => by omega) (by omega))⟩
end Go.Proofs.Ytcnnblhjgligbaa
