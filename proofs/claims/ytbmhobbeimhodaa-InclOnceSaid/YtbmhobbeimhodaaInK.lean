/-
  Layer 10: the document's Path. Conditions: those in each statement.
-/
import Derived.Test.YtbmhobbeimhodaaInJ
namespace Go.Proofs.Ytbmhobbeimhodaa
open Go.RowKit

section
variable {P : Program} {ops : Array Oper} {rest : List Oper} {o : Oper} {a : Act} {K : Act → World → Prop} {Q : Exit → Act → World → Prop} {w : World}
/-- what is known of an operation as a list's last one is known of it alone -/
theorem ow_of_wl (hg : o.guard = none) (h : wpList P #[o] (fun e a w => match e with | .normal => K a w | _ => False) [o] a w) : o.wp P a w K Q := by
  unfold wpList at h
  rw [if_pos (by simp [Region.wanted, hg])] at h
  rcases h with h | ⟨-, hx⟩
  · unfold Oper.wp at h ⊢
    generalize (execOp a.eval o).run P w = r at *
    cases r with
    | ok x w' =>
      cases x with
      | value v => exact h
      | skip => exact h
      | defer d => exact h
      | enter f args =>
        refine Calls.mono h fun e w'' he => ?_
        cases e with
        | returned v => exact he
        | panicked c => exact he.elim
        | outgrown => obtain ⟨_, _, he⟩ := he; exact he.elim
      | row rw args => exact h
      | _ => exact h.elim
    | halt x w' =>
      cases x with
      | panic v => exact h.elim
      | _ => exact h.elim
  · obtain ⟨_, _, e⟩ := hx
    exact e.elim
end
section
variable {ops : Array Oper} {rest : List Oper} {o : Oper} {a : Act} {K : Act → World → Prop} {Q : Exit → Act → World → Prop} {w : World}
end
structure InvPath6 (S : List UInt8) (M : List (List UInt8)) (i n k b off c : Nat) (W0 : World) (L : Nat → Bool) (v21 v22 v23 v24 v25 v26 v27 v28 v29 v30 v31 v4 : Value) (wx : World) : Prop where
  t0 : L 0 = true → v21 = .slice (some ⟨b, off, none⟩) n c
  t1 : L 1 = true → v22 = .int .u64 ↑k
  t2 : L 2 = true → v23 = .slice (some ⟨b, off, none⟩) k c
  t3 : L 3 = true → v24 = .int .u64 ↑i
  t4 : L 4 = true → L 10 = false → OwnD wx W0.heap.size v25 M
  t5 : L 5 = true → v26 = .slice (some ⟨b, off, none⟩) n c
  t6 : L 6 = true → v27 = .int .u64 ↑k
  t7 : L 7 = true → v28 = .slice (some ⟨b, off + k * 32, none⟩) (n - k) (c - k)
  t8 : L 8 = true → v29 = .agg (bvs S).toArray
  t9 : L 9 = true → L 10 = false → ∃ g, v30 = .slice (some ⟨g, 0, none⟩) 1 1 ∧ Arr wx g 41 (bvs S)
  t10 : L 10 = true → OwnD wx W0.heap.size v31 (M ++ [S])
  t11 : L 11 = true → OwnD wx W0.heap.size v4 (M ++ [S])
  bw : Below W0.heap.size W0 wx
structure InvPath7 (S : List UInt8) (M : List (List UInt8)) (i n k b off c : Nat) (W0 : World) (L : Nat → Bool) (v32 v33 v34 v35 v36 v37 v38 v39 v40 v41 v42 v43 v44 v4 : Value) (wx : World) : Prop where
  t0 : L 0 = true → v32 = .slice (some ⟨b, off, none⟩) n c
  t1 : L 1 = true → v33 = .int .u64 ↑k
  t2 : L 2 = true → v34 = .slice (some ⟨b, off + k * 32, none⟩) (n - k) (c - k)
  t3 : L 3 = true → v35 = .int .u64 ↑i
  t4 : L 4 = true → v36 = .int .u64 ↑k
  t5 : L 5 = true → v37 = .int .u64 ((i : Int) - (k : Int))
  t6 : L 6 = true → L 12 = false → OwnD wx W0.heap.size v38 M
  t7 : L 7 = true → v39 = .slice (some ⟨b, off, none⟩) n c
  t8 : L 8 = true → v40 = .int .u64 ↑k
  t9 : L 9 = true → v41 = .slice (some ⟨b, off, none⟩) k c
  t10 : L 10 = true → v42 = .agg (bvs S).toArray
  t11 : L 11 = true → L 12 = false → ∃ g, v43 = .slice (some ⟨g, 0, none⟩) 1 1 ∧ Arr wx g 41 (bvs S)
  t12 : L 12 = true → OwnD wx W0.heap.size v44 (M ++ [S])
  t13 : L 13 = true → OwnD wx W0.heap.size v4 (M ++ [S])
  bw : Below W0.heap.size W0 wx
set_option maxRecDepth 100000 in
set_option maxHeartbeats 1600000 in
theorem rpath_any : ∀ (N : Nat) (L : List (List UInt8)) (i n : Nat), n ≤ N → 1 ≤ n → i < n → n ≤ 1048576 → ∀ (a : Option Addr) (c : Nat) (w : World), RdD w a n c L →
    Calls Try.prog 27 #[.slice a n c, .int .u64 (i : Int)] w fun e w' => ∃ v, e = .returned v ∧ OwnD w' w.heap.size v (pathF L i) ∧ Below w.heap.size w w' := by
  intro N
  induction N using Nat.strongRecOn with
  | _ N ih =>
    intro L i n hN h1 hi h20 a c w hL
    have hl := hL.len
    by_cases hn1 : n = 1
    · subst hn1
      rw [pathF_one _ _ (by omega)]
      clear ih hN hL hl h20
      go_enter Try.func27, Try.ntmps27
      go_wp2
      go_ret
      exact ⟨_, rfl, OwnD.nil _ _, Below.refl _ _⟩
    · obtain ⟨b1, b2, b3⟩ := splK_bounds (n := n) (by omega)
      have HS := Lib.hid (fun w => rSplit_nat n w (by omega) (by omega))
      have hc1 : ¬ ((n : Int) = 1) := by omega
      obtain ⟨k, hk⟩ : ∃ k, k = splK n := ⟨_, rfl⟩
      obtain ⟨b, off, rfl, hbl, -⟩ := hL.mem (by omega)
      have hle := hL.le
      have hT := hL.take k (by omega)
      have hDr := hL.drop k (by omega)
      have hall := hL.all
      have f0 : (n : Int) ≤ 1048576 := by omega
      have f1 : (0 : Int) ≤ (k : Int) := by omega
      have f2 : (k : Int) ≤ (n : Int) := by omega
      have f3 : (n : Int) ≤ (c : Int) := by omega
      have f4 : (k : Int) < (c : Int) := by omega
      have f5 : ¬ (c = k) := by omega
      have f6 : (k : Int) ≤ (c : Int) := by omega
      by_cases hlt : i < k
      · have hIH := fun w' (hb : Below w.heap.size w w') => ih k (by omega) (L.take k) i k (Nat.le_refl _) (by omega) hlt (by omega) _ _ w' (hT.to hb)
        have hMl : (pathF (L.take k) i).length ≤ 20 := by
          rw [path_len _ (L.take k) i 0 (Nat.le_refl _), hT.len]
          exact rg_few i k 0 (by omega)
        have hRo := fun w' (hb : Below w.heap.size w w') => rRoot_any _ (L.drop k) (Nat.le_refl _) _ _ _ w' (by omega) (hDr.to hb)
        rw [pathF_low L i (by omega) (by rw [hl, ← hk]; exact hlt), hl, ← hk]
        have hSl : (rootF (L.drop k)).length = 32 := rootF_len (hall.drop _)
        generalize pathF (L.take k) i = M at *
        generalize rootF (L.drop k) = S at *
        rw [← hk] at HS
        have hc : (i : Int) < (k : Int) := by omega
        have HX := Lib.hid hIH
        have HRO := Lib.hid hRo
        have HML := Lib.hid hMl
        have HSL := Lib.hid hSl
        clear ih hN hIH hRo hMl hSl hT hDr hall hL hl hk b1 b2 b3 hlt hn1 h1 hi h20 hbl hle
        go_enter Try.func27, Try.ntmps27
        go_upto_region 6 with (go_at_call 32; refine (HS.out _).mono ?_; rintro e w3 ⟨rfl, hw3⟩; obtain rfl := hw3.symm)
        go_simp
        refine wp_region_steps [[], [], [0, 1], [], [2, 3], [], [], [5, 6], [7, 4], [8], [4, 9], [10]] (by kernel_rfl) (by kernel_rfl) (fun L a wx => ∃ v21 v22 v23 v24 v25 v26 v27 v28 v29 v30 v31 v4, a = ⟨#[.slice (some ⟨b, off, none⟩) n c, .int .u64 ↑i, undef, undef, v4, .int .u64 ↑n, .int .u64 ↑k, .int .i64 0, .slice (some ⟨b, off, none⟩) n c, .int .i64 ↑n, .int .u64 ↑n, .int .u64 ↑n, .bool false, .tuple #[.int .u64 ↑k, .int .i64 0], .int .u64 ↑n, .tuple #[.int .u64 ↑k, .int .i64 0], .int .u64 ↑k, .int .i64 0, .int .u64 ↑i, .int .u64 ↑k, .bool true, v21, v22, v23, v24, v25, v26, v27, v28, v29, v30, v31, undef, undef, undef, undef, undef, undef, undef, undef, undef, undef, undef, undef, undef], []⟩ ∧ InvPath6 S M i n k b off c w L v21 v22 v23 v24 v25 v26 v27 v28 v29 v30 v31 v4 wx) ?_ ⟨?_, ?_, ?_, ?_, ?_, ?_, ?_, ?_, ?_, ?_, ?_, ?_, trivial⟩ ?_
        · refine ⟨_, _, _, _, _, _, _, _, _, _, _, _, rfl, ⟨?_, ?_, ?_, ?_, ?_, ?_, ?_, ?_, ?_, ?_, ?_, ?_, (Below.refl _ _).drew⟩⟩ <;> (intro h; exact absurd h (by decide))
        · rintro L a wx ⟨v21, v22, v23, v24, v25, v26, v27, v28, v29, v30, v31, v4, rfl, hI⟩ hL hdep hcl K hK
          go_simp
          exact hK _ _ ⟨_, v22, v23, v24, v25, v26, v27, v28, v29, v30, v31, v4, rfl, ⟨fun _ => rfl, hI.t1, hI.t2, hI.t3, hI.t4, hI.t5, hI.t6, hI.t7, hI.t8, hI.t9, hI.t10, hI.t11, hI.bw⟩⟩
        · rintro L a wx ⟨v21, v22, v23, v24, v25, v26, v27, v28, v29, v30, v31, v4, rfl, hI⟩ hL hdep hcl K hK
          go_simp
          exact hK _ _ ⟨v21, _, v23, v24, v25, v26, v27, v28, v29, v30, v31, v4, rfl, ⟨hI.t0, fun _ => rfl, hI.t2, hI.t3, hI.t4, hI.t5, hI.t6, hI.t7, hI.t8, hI.t9, hI.t10, hI.t11, hI.bw⟩⟩
        · rintro L a wx ⟨v21, v22, v23, v24, v25, v26, v27, v28, v29, v30, v31, v4, rfl, hI⟩ hL hdep hcl K hK
          obtain rfl := hI.t0 (hdep 0 (by decide))
          obtain rfl := hI.t1 (hdep 1 (by decide))
          go_simp
          exact hK _ _ ⟨_, _, _, v24, v25, v26, v27, v28, v29, v30, v31, v4, rfl, ⟨hI.t0, hI.t1, fun _ => rfl, hI.t3, hI.t4, hI.t5, hI.t6, hI.t7, hI.t8, hI.t9, hI.t10, hI.t11, hI.bw⟩⟩
        · rintro L a wx ⟨v21, v22, v23, v24, v25, v26, v27, v28, v29, v30, v31, v4, rfl, hI⟩ hL hdep hcl K hK
          go_simp
          exact hK _ _ ⟨v21, v22, v23, _, v25, v26, v27, v28, v29, v30, v31, v4, rfl, ⟨hI.t0, hI.t1, hI.t2, fun _ => rfl, hI.t4, hI.t5, hI.t6, hI.t7, hI.t8, hI.t9, hI.t10, hI.t11, hI.bw⟩⟩
        · rintro L a wx ⟨v21, v22, v23, v24, v25, v26, v27, v28, v29, v30, v31, v4, rfl, hI⟩ hL hdep hcl K hK
          obtain rfl := hI.t2 (hdep 2 (by decide))
          obtain rfl := hI.t3 (hdep 3 (by decide))
          have HC := HX.out wx hI.bw
          go_simp
          refine HC.mono ?_
          rintro e w' ⟨v, rfl, hO, hb⟩
          exact hK _ _ ⟨v21, v22, _, _, _, v26, v27, v28, v29, v30, v31, v4, rfl, ⟨hI.t0, hI.t1, hI.t2, hI.t3, fun _ _ => hO.base' hI.bw.size, hI.t5, hI.t6, hI.t7, hI.t8, fun h => fun ha => by obtain ⟨g, e, h1⟩ := (hI.t9 h) ha; exact ⟨g, e, h1.kept hb⟩, fun h => (hI.t10 h).to hb, fun h => (hI.t11 h).to hb, (hI.bw).trans (hb.mono (hI.bw).size)⟩⟩
        · rintro L a wx ⟨v21, v22, v23, v24, v25, v26, v27, v28, v29, v30, v31, v4, rfl, hI⟩ hL hdep hcl K hK
          go_simp
          exact hK _ _ ⟨v21, v22, v23, v24, v25, _, v27, v28, v29, v30, v31, v4, rfl, ⟨hI.t0, hI.t1, hI.t2, hI.t3, hI.t4, fun _ => rfl, hI.t6, hI.t7, hI.t8, hI.t9, hI.t10, hI.t11, hI.bw⟩⟩
        · rintro L a wx ⟨v21, v22, v23, v24, v25, v26, v27, v28, v29, v30, v31, v4, rfl, hI⟩ hL hdep hcl K hK
          go_simp
          exact hK _ _ ⟨v21, v22, v23, v24, v25, v26, _, v28, v29, v30, v31, v4, rfl, ⟨hI.t0, hI.t1, hI.t2, hI.t3, hI.t4, hI.t5, fun _ => rfl, hI.t7, hI.t8, hI.t9, hI.t10, hI.t11, hI.bw⟩⟩
        · rintro L a wx ⟨v21, v22, v23, v24, v25, v26, v27, v28, v29, v30, v31, v4, rfl, hI⟩ hL hdep hcl K hK
          obtain rfl := hI.t5 (hdep 5 (by decide))
          obtain rfl := hI.t6 (hdep 6 (by decide))
          go_simp
          exact hK _ _ ⟨v21, v22, v23, v24, v25, _, _, _, v29, v30, v31, v4, rfl, ⟨hI.t0, hI.t1, hI.t2, hI.t3, hI.t4, hI.t5, hI.t6, fun _ => rfl, hI.t8, hI.t9, hI.t10, hI.t11, hI.bw⟩⟩
        · rintro L a wx ⟨v21, v22, v23, v24, v25, v26, v27, v28, v29, v30, v31, v4, rfl, hI⟩ hL hdep hcl K hK
          obtain rfl := hI.t7 (hdep 7 (by decide))
          have HC := HRO.out wx hI.bw
          go_simp
          refine HC.mono ?_
          rintro e w' ⟨rfl, hb⟩
          exact hK _ _ ⟨v21, v22, v23, v24, v25, v26, v27, _, _, v30, v31, v4, rfl, ⟨hI.t0, hI.t1, hI.t2, hI.t3, fun h => fun ha => ((hI.t4 h) ha).to hb, hI.t5, hI.t6, hI.t7, fun _ => rfl, fun h => fun ha => by obtain ⟨g, e, h1⟩ := (hI.t9 h) ha; exact ⟨g, e, h1.kept hb⟩, fun h => (hI.t10 h).to hb, fun h => (hI.t11 h).to hb, (hI.bw).trans (hb.mono (hI.bw).size)⟩⟩
        · rintro L a wx ⟨v21, v22, v23, v24, v25, v26, v27, v28, v29, v30, v31, v4, rfl, hI⟩ hL hdep hcl K hK
          obtain rfl := hI.t8 (hdep 8 (by decide))
          refine ow_of_wl rfl ?_
          refine wl_litD rfl 29 rfl S HSL.out rfl ?_
          intro w' hA' hb
          show K _ _
          exact hK _ _ ⟨v21, v22, v23, v24, v25, v26, v27, v28, _, _, v31, v4, rfl, ⟨hI.t0, hI.t1, hI.t2, hI.t3, fun h => fun ha => ((hI.t4 h) ha).to hb, hI.t5, hI.t6, hI.t7, hI.t8, fun _ _ => ⟨_, rfl, hA'⟩, fun h => (hI.t10 h).to hb, fun h => (hI.t11 h).to hb, (hI.bw).trans (hb.mono (hI.bw).size)⟩⟩
        · rintro L a wx ⟨v21, v22, v23, v24, v25, v26, v27, v28, v29, v30, v31, v4, rfl, hI⟩ hL hdep hcl K hK
          have hOx := hI.t4 (hdep 4 (by decide)) hL
          obtain ⟨g, rfl, hAx⟩ := hI.t9 (hdep 9 (by decide)) hL
          refine ow_of_wl rfl ?_
          refine wl_appendD rfl (.tmp 25) (.tmp 30) rfl w.heap.size _ M rfl hOx g S rfl hAx HSL.out (by have := HML.out; omega) hI.bw.size ?_
          intro v' w' hO' hb'
          show K _ _
          exact hK _ _ ⟨v21, v22, v23, v24, v25, v26, v27, v28, v29, _, _, v4, rfl, ⟨hI.t0, hI.t1, hI.t2, hI.t3, fun _ ha => (nomatch (show true = false from ha)), hI.t5, hI.t6, hI.t7, hI.t8, fun _ ha => (nomatch (show true = false from ha)), fun _ => hO', fun h => (by have h4 := hcl 11 (by decide) h 10 (by decide); rw [hL] at h4; cases h4), hI.bw.trans hb'⟩⟩
        · rintro L a wx ⟨v21, v22, v23, v24, v25, v26, v27, v28, v29, v30, v31, v4, rfl, hI⟩ hL hdep hcl K hK
          have hOx := hI.t10 (hdep 10 (by decide))
          go_simp
          exact hK _ _ ⟨v21, v22, v23, v24, v25, v26, v27, v28, v29, v30, v31, _, rfl, ⟨hI.t0, hI.t1, hI.t2, hI.t3, hI.t4, hI.t5, hI.t6, hI.t7, hI.t8, hI.t9, hI.t10, fun _ => hOx, hI.bw⟩⟩
        · rintro a wx ⟨v21, v22, v23, v24, v25, v26, v27, v28, v29, v30, v31, v4, rfl, hI⟩
          have hO := hI.t11 rfl
          have hbw := hI.bw
          clear hI
          go_wp2_with fail
          go_ret
          exact ⟨_, rfl, hO, hbw⟩
      · have hIH := fun w' (hb : Below w.heap.size w w') => ih (n - k) (by omega) (L.drop k) (i - k) (n - k) (Nat.le_refl _) (by omega) (by omega) (by omega) _ _ w' (hDr.to hb)
        have hMl : (pathF (L.drop k) (i - k)).length ≤ 20 := by
          rw [path_len _ (L.drop k) (i - k) 0 (Nat.le_refl _), hDr.len]
          exact rg_few (i - k) (n - k) 0 (by omega)
        have hRo := fun w' (hb : Below w.heap.size w w') => rRoot_any _ (L.take k) (Nat.le_refl _) _ _ _ w' (by omega) (hT.to hb)
        rw [pathF_high L i (by omega) (by rw [hl, ← hk]; exact hlt), hl, ← hk]
        rw [show ((i - k : Nat) : Int) = (i : Int) - (k : Int) by omega] at hIH
        have hSl : (rootF (L.take k)).length = 32 := rootF_len (hall.take _)
        generalize pathF (L.drop k) (i - k) = M at *
        generalize rootF (L.take k) = S at *
        rw [← hk] at HS
        have hc : ¬ ((i : Int) < (k : Int)) := by omega
        have HWI : Hid (IntKind.u64.wrap ((i : Int) - (k : Int)) = (i : Int) - (k : Int)) := by show _ = _; rw [IntKind.wrap_u64]; omega
        have HX := Lib.hid hIH
        have HRO := Lib.hid hRo
        have HML := Lib.hid hMl
        have HSL := Lib.hid hSl
        clear ih hN hIH hRo hMl hSl hT hDr hall hL hl hk b1 b2 b3 hlt hn1 h1 hi h20 hbl hle
        go_enter Try.func27, Try.ntmps27
        go_upto_region 7 with (go_at_call 32; refine (HS.out _).mono ?_; rintro e w3 ⟨rfl, hw3⟩; obtain rfl := hw3.symm)
        go_simp
        refine wp_region_steps [[], [], [0, 1], [], [], [3, 4], [2, 5], [], [], [7, 8], [9, 6], [10], [6, 11], [12]] (by kernel_rfl) (by kernel_rfl) (fun L a wx => ∃ v32 v33 v34 v35 v36 v37 v38 v39 v40 v41 v42 v43 v44 v4, a = ⟨#[.slice (some ⟨b, off, none⟩) n c, .int .u64 ↑i, undef, undef, v4, .int .u64 ↑n, .int .u64 ↑k, .int .i64 0, .slice (some ⟨b, off, none⟩) n c, .int .i64 ↑n, .int .u64 ↑n, .int .u64 ↑n, .bool false, .tuple #[.int .u64 ↑k, .int .i64 0], .int .u64 ↑n, .tuple #[.int .u64 ↑k, .int .i64 0], .int .u64 ↑k, .int .i64 0, .int .u64 ↑i, .int .u64 ↑k, .bool false, undef, undef, undef, undef, undef, undef, undef, undef, undef, undef, undef, v32, v33, v34, v35, v36, v37, v38, v39, v40, v41, v42, v43, v44], []⟩ ∧ InvPath7 S M i n k b off c w L v32 v33 v34 v35 v36 v37 v38 v39 v40 v41 v42 v43 v44 v4 wx) ?_ ⟨?_, ?_, ?_, ?_, ?_, ?_, ?_, ?_, ?_, ?_, ?_, ?_, ?_, ?_, trivial⟩ ?_
        · refine ⟨_, _, _, _, _, _, _, _, _, _, _, _, _, _, rfl, ⟨?_, ?_, ?_, ?_, ?_, ?_, ?_, ?_, ?_, ?_, ?_, ?_, ?_, ?_, (Below.refl _ _).drew⟩⟩ <;> (intro h; exact absurd h (by decide))
        · rintro L a wx ⟨v32, v33, v34, v35, v36, v37, v38, v39, v40, v41, v42, v43, v44, v4, rfl, hI⟩ hL hdep hcl K hK
          go_simp
          exact hK _ _ ⟨_, v33, v34, v35, v36, v37, v38, v39, v40, v41, v42, v43, v44, v4, rfl, ⟨fun _ => rfl, hI.t1, hI.t2, hI.t3, hI.t4, hI.t5, hI.t6, hI.t7, hI.t8, hI.t9, hI.t10, hI.t11, hI.t12, hI.t13, hI.bw⟩⟩
        · rintro L a wx ⟨v32, v33, v34, v35, v36, v37, v38, v39, v40, v41, v42, v43, v44, v4, rfl, hI⟩ hL hdep hcl K hK
          go_simp
          exact hK _ _ ⟨v32, _, v34, v35, v36, v37, v38, v39, v40, v41, v42, v43, v44, v4, rfl, ⟨hI.t0, fun _ => rfl, hI.t2, hI.t3, hI.t4, hI.t5, hI.t6, hI.t7, hI.t8, hI.t9, hI.t10, hI.t11, hI.t12, hI.t13, hI.bw⟩⟩
        · rintro L a wx ⟨v32, v33, v34, v35, v36, v37, v38, v39, v40, v41, v42, v43, v44, v4, rfl, hI⟩ hL hdep hcl K hK
          obtain rfl := hI.t0 (hdep 0 (by decide))
          obtain rfl := hI.t1 (hdep 1 (by decide))
          go_simp
          exact hK _ _ ⟨_, _, _, v35, v36, v37, v38, v39, v40, v41, v42, v43, v44, v4, rfl, ⟨hI.t0, hI.t1, fun _ => rfl, hI.t3, hI.t4, hI.t5, hI.t6, hI.t7, hI.t8, hI.t9, hI.t10, hI.t11, hI.t12, hI.t13, hI.bw⟩⟩
        · rintro L a wx ⟨v32, v33, v34, v35, v36, v37, v38, v39, v40, v41, v42, v43, v44, v4, rfl, hI⟩ hL hdep hcl K hK
          go_simp
          exact hK _ _ ⟨v32, v33, v34, _, v36, v37, v38, v39, v40, v41, v42, v43, v44, v4, rfl, ⟨hI.t0, hI.t1, hI.t2, fun _ => rfl, hI.t4, hI.t5, hI.t6, hI.t7, hI.t8, hI.t9, hI.t10, hI.t11, hI.t12, hI.t13, hI.bw⟩⟩
        · rintro L a wx ⟨v32, v33, v34, v35, v36, v37, v38, v39, v40, v41, v42, v43, v44, v4, rfl, hI⟩ hL hdep hcl K hK
          go_simp
          exact hK _ _ ⟨v32, v33, v34, v35, _, v37, v38, v39, v40, v41, v42, v43, v44, v4, rfl, ⟨hI.t0, hI.t1, hI.t2, hI.t3, fun _ => rfl, hI.t5, hI.t6, hI.t7, hI.t8, hI.t9, hI.t10, hI.t11, hI.t12, hI.t13, hI.bw⟩⟩
        · rintro L a wx ⟨v32, v33, v34, v35, v36, v37, v38, v39, v40, v41, v42, v43, v44, v4, rfl, hI⟩ hL hdep hcl K hK
          obtain rfl := hI.t3 (hdep 3 (by decide))
          obtain rfl := hI.t4 (hdep 4 (by decide))
          go_simp
          rw [HWI.out]
          exact hK _ _ ⟨v32, v33, v34, _, _, _, v38, v39, v40, v41, v42, v43, v44, v4, rfl, ⟨hI.t0, hI.t1, hI.t2, hI.t3, hI.t4, fun _ => rfl, hI.t6, hI.t7, hI.t8, hI.t9, hI.t10, hI.t11, hI.t12, hI.t13, hI.bw⟩⟩
        · rintro L a wx ⟨v32, v33, v34, v35, v36, v37, v38, v39, v40, v41, v42, v43, v44, v4, rfl, hI⟩ hL hdep hcl K hK
          obtain rfl := hI.t2 (hdep 2 (by decide))
          obtain rfl := hI.t5 (hdep 5 (by decide))
          have HC := HX.out wx hI.bw
          go_simp
          refine HC.mono ?_
          rintro e w' ⟨v, rfl, hO, hb⟩
          exact hK _ _ ⟨v32, v33, _, v35, v36, _, _, v39, v40, v41, v42, v43, v44, v4, rfl, ⟨hI.t0, hI.t1, hI.t2, hI.t3, hI.t4, hI.t5, fun _ _ => hO.base' hI.bw.size, hI.t7, hI.t8, hI.t9, hI.t10, fun h => fun ha => by obtain ⟨g, e, h1⟩ := (hI.t11 h) ha; exact ⟨g, e, h1.kept hb⟩, fun h => (hI.t12 h).to hb, fun h => (hI.t13 h).to hb, (hI.bw).trans (hb.mono (hI.bw).size)⟩⟩
        · rintro L a wx ⟨v32, v33, v34, v35, v36, v37, v38, v39, v40, v41, v42, v43, v44, v4, rfl, hI⟩ hL hdep hcl K hK
          go_simp
          exact hK _ _ ⟨v32, v33, v34, v35, v36, v37, v38, _, v40, v41, v42, v43, v44, v4, rfl, ⟨hI.t0, hI.t1, hI.t2, hI.t3, hI.t4, hI.t5, hI.t6, fun _ => rfl, hI.t8, hI.t9, hI.t10, hI.t11, hI.t12, hI.t13, hI.bw⟩⟩
        · rintro L a wx ⟨v32, v33, v34, v35, v36, v37, v38, v39, v40, v41, v42, v43, v44, v4, rfl, hI⟩ hL hdep hcl K hK
          go_simp
          exact hK _ _ ⟨v32, v33, v34, v35, v36, v37, v38, v39, _, v41, v42, v43, v44, v4, rfl, ⟨hI.t0, hI.t1, hI.t2, hI.t3, hI.t4, hI.t5, hI.t6, hI.t7, fun _ => rfl, hI.t9, hI.t10, hI.t11, hI.t12, hI.t13, hI.bw⟩⟩
        · rintro L a wx ⟨v32, v33, v34, v35, v36, v37, v38, v39, v40, v41, v42, v43, v44, v4, rfl, hI⟩ hL hdep hcl K hK
          obtain rfl := hI.t7 (hdep 7 (by decide))
          obtain rfl := hI.t8 (hdep 8 (by decide))
          go_simp
          exact hK _ _ ⟨v32, v33, v34, v35, v36, v37, v38, _, _, _, v42, v43, v44, v4, rfl, ⟨hI.t0, hI.t1, hI.t2, hI.t3, hI.t4, hI.t5, hI.t6, hI.t7, hI.t8, fun _ => rfl, hI.t10, hI.t11, hI.t12, hI.t13, hI.bw⟩⟩
        · rintro L a wx ⟨v32, v33, v34, v35, v36, v37, v38, v39, v40, v41, v42, v43, v44, v4, rfl, hI⟩ hL hdep hcl K hK
          obtain rfl := hI.t9 (hdep 9 (by decide))
          have HC := HRO.out wx hI.bw
          go_simp
          refine HC.mono ?_
          rintro e w' ⟨rfl, hb⟩
          exact hK _ _ ⟨v32, v33, v34, v35, v36, v37, v38, v39, v40, _, _, v43, v44, v4, rfl, ⟨hI.t0, hI.t1, hI.t2, hI.t3, hI.t4, hI.t5, fun h => fun ha => ((hI.t6 h) ha).to hb, hI.t7, hI.t8, hI.t9, fun _ => rfl, fun h => fun ha => by obtain ⟨g, e, h1⟩ := (hI.t11 h) ha; exact ⟨g, e, h1.kept hb⟩, fun h => (hI.t12 h).to hb, fun h => (hI.t13 h).to hb, (hI.bw).trans (hb.mono (hI.bw).size)⟩⟩
        · rintro L a wx ⟨v32, v33, v34, v35, v36, v37, v38, v39, v40, v41, v42, v43, v44, v4, rfl, hI⟩ hL hdep hcl K hK
          obtain rfl := hI.t10 (hdep 10 (by decide))
          refine ow_of_wl rfl ?_
          refine wl_litD rfl 42 rfl S HSL.out rfl ?_
          intro w' hA' hb
          show K _ _
          exact hK _ _ ⟨v32, v33, v34, v35, v36, v37, v38, v39, v40, v41, _, _, v44, v4, rfl, ⟨hI.t0, hI.t1, hI.t2, hI.t3, hI.t4, hI.t5, fun h => fun ha => ((hI.t6 h) ha).to hb, hI.t7, hI.t8, hI.t9, hI.t10, fun _ _ => ⟨_, rfl, hA'⟩, fun h => (hI.t12 h).to hb, fun h => (hI.t13 h).to hb, (hI.bw).trans (hb.mono (hI.bw).size)⟩⟩
        · rintro L a wx ⟨v32, v33, v34, v35, v36, v37, v38, v39, v40, v41, v42, v43, v44, v4, rfl, hI⟩ hL hdep hcl K hK
          have hOx := hI.t6 (hdep 6 (by decide)) hL
          obtain ⟨g, rfl, hAx⟩ := hI.t11 (hdep 11 (by decide)) hL
          refine ow_of_wl rfl ?_
          refine wl_appendD rfl (.tmp 38) (.tmp 43) rfl w.heap.size _ M rfl hOx g S rfl hAx HSL.out (by have := HML.out; omega) hI.bw.size ?_
          intro v' w' hO' hb'
          show K _ _
          exact hK _ _ ⟨v32, v33, v34, v35, v36, v37, v38, v39, v40, v41, v42, _, _, v4, rfl, ⟨hI.t0, hI.t1, hI.t2, hI.t3, hI.t4, hI.t5, fun _ ha => (nomatch (show true = false from ha)), hI.t7, hI.t8, hI.t9, hI.t10, fun _ ha => (nomatch (show true = false from ha)), fun _ => hO', fun h => (by have h4 := hcl 13 (by decide) h 12 (by decide); rw [hL] at h4; cases h4), hI.bw.trans hb'⟩⟩
        · rintro L a wx ⟨v32, v33, v34, v35, v36, v37, v38, v39, v40, v41, v42, v43, v44, v4, rfl, hI⟩ hL hdep hcl K hK
          have hOx := hI.t12 (hdep 12 (by decide))
          go_simp
          exact hK _ _ ⟨v32, v33, v34, v35, v36, v37, v38, v39, v40, v41, v42, v43, v44, _, rfl, ⟨hI.t0, hI.t1, hI.t2, hI.t3, hI.t4, hI.t5, hI.t6, hI.t7, hI.t8, hI.t9, hI.t10, hI.t11, hI.t12, fun _ => hOx, hI.bw⟩⟩
        · rintro a wx ⟨v32, v33, v34, v35, v36, v37, v38, v39, v40, v41, v42, v43, v44, v4, rfl, hI⟩
          have hO := hI.t13 rfl
          have hbw := hI.bw
          clear hI
          go_wp2_with fail
          go_ret
          exact ⟨_, rfl, hO, hbw⟩
theorem rPath_any (L : List (List UInt8)) (i : Nat) (a : Option Addr) (n c : Nat) (w : World) (hL : RdD w a n c L) (hn50 : n ≤ 2 ^ 50) :
    Calls Try.prog 15 #[.slice a n c, .int .u64 (i : Int)] w fun e w' => ∃ v, e = .returned (.tuple #[v, .int .i64 (rE i n)]) ∧ OwnD w' w.heap.size v (pL L i) ∧ Below w.heap.size w w' := by
  have hl := hL.len
  cases hm : okR i n with
  | false =>
    have e1 : rE i n = 1 := by simp only [rE, hm]; rfl
    have e2 : pL L i = [] := by simp only [pL, hl, hm]; rfl
    rw [e1, e2]
    clear e1 e2 hL hl
    rcases okR_no hm with h | ⟨h, h'⟩
    · have c : (1048576 : Int) < (n : Int) := by omega
      clear hm h
      go_enter Try.func15, Try.ntmps15
      go_wp2
      go_ret2
      exact ⟨_, rfl, OwnD.nil _ _, Below.refl _ _⟩
    · have c : ¬ ((1048576 : Int) < (n : Int)) := by omega
      have c2 : (n : Int) ≤ (i : Int) := by omega
      clear hm h h'
      go_enter Try.func15, Try.ntmps15
      go_wp2
      go_ret2
      exact ⟨_, rfl, OwnD.nil _ _, Below.refl _ _⟩
  | true =>
    obtain ⟨hs20, his⟩ := okR_yes hm
    have e1 : rE i n = 0 := by simp only [rE, hm]; rfl
    have e2 : pL L i = pathF L i := by simp only [pL, hl, hm]; rfl
    rw [e1, e2]
    have c : ¬ ((1048576 : Int) < (n : Int)) := by omega
    have c2 : ¬ ((n : Int) ≤ (i : Int)) := by omega
    have HD := Lib.hid (rpath_any n L i n (Nat.le_refl _) (by omega) his hs20 a _ w hL)
    clear hm hs20 his e1 e2 hL hl
    generalize pathF L i = M at *
    go_enter Try.func15, Try.ntmps15
    go_wp2_with (go_at_call 27; refine HD.out.mono ?_; rintro e w2 ⟨v2, rfl, hOw2, hb2⟩)
    go_ret2
    exact ⟨_, rfl, hOw2, hb2⟩
end Go.Proofs.Ytbmhobbeimhodaa
