/-
  Layer 11: the document's Proof. Conditions: those in each statement.
-/
import Derived.Test.YtcnnblhjgligbaaCnE
import Derived.Test.YtcnnblhjgligbaaInK
namespace Go.Proofs.Ytcnnblhjgligbaa
open Go.RowKit

structure InvProof9 (b : Bool) (S : List UInt8) (M : List (List UInt8)) (m n k bb off c : Nat) (W0 : World) (L : Nat → Bool) (v31 v32 v33 v34 v35 v36 v37 v38 v39 v40 v41 v42 v6 : Value) (wx : World) : Prop where
  t0 : L 0 = true → v31 = .slice (some ⟨bb, off, none⟩) n c
  t1 : L 1 = true → v32 = .int .u64 ↑k
  t2 : L 2 = true → v33 = .slice (some ⟨bb, off, none⟩) k c
  t3 : L 3 = true → v34 = .int .u64 ↑m
  t4 : L 4 = true → v35 = .bool b
  t5 : L 5 = true → L 11 = false → OwnD wx W0.heap.size v36 M
  t6 : L 6 = true → v37 = .slice (some ⟨bb, off, none⟩) n c
  t7 : L 7 = true → v38 = .int .u64 ↑k
  t8 : L 8 = true → v39 = .slice (some ⟨bb, off + k * 32, none⟩) (n - k) (c - k)
  t9 : L 9 = true → v40 = .agg (bvs S).toArray
  t10 : L 10 = true → L 11 = false → ∃ g, v41 = .slice (some ⟨g, 0, none⟩) 1 1 ∧ Arr wx g 41 (bvs S)
  t11 : L 11 = true → OwnD wx W0.heap.size v42 (M ++ [S])
  t12 : L 12 = true → OwnD wx W0.heap.size v6 (M ++ [S])
  bw : Below W0.heap.size W0 wx
structure InvProof10 (b : Bool) (S : List UInt8) (M : List (List UInt8)) (m n k bb off c : Nat) (W0 : World) (L : Nat → Bool) (v43 v44 v45 v46 v47 v48 v49 v50 v51 v52 v53 v54 v55 v6 : Value) (wx : World) : Prop where
  t0 : L 0 = true → v43 = .slice (some ⟨bb, off, none⟩) n c
  t1 : L 1 = true → v44 = .int .u64 ↑k
  t2 : L 2 = true → v45 = .slice (some ⟨bb, off + k * 32, none⟩) (n - k) (c - k)
  t3 : L 3 = true → v46 = .int .u64 ↑m
  t4 : L 4 = true → v47 = .int .u64 ↑k
  t5 : L 5 = true → v48 = .int .u64 ((m : Int) - (k : Int))
  t6 : L 6 = true → L 12 = false → OwnD wx W0.heap.size v49 M
  t7 : L 7 = true → v50 = .slice (some ⟨bb, off, none⟩) n c
  t8 : L 8 = true → v51 = .int .u64 ↑k
  t9 : L 9 = true → v52 = .slice (some ⟨bb, off, none⟩) k c
  t10 : L 10 = true → v53 = .agg (bvs S).toArray
  t11 : L 11 = true → L 12 = false → ∃ g, v54 = .slice (some ⟨g, 0, none⟩) 1 1 ∧ Arr wx g 41 (bvs S)
  t12 : L 12 = true → OwnD wx W0.heap.size v55 (M ++ [S])
  t13 : L 13 = true → OwnD wx W0.heap.size v6 (M ++ [S])
  bw : Below W0.heap.size W0 wx
set_option maxRecDepth 100000 in
set_option maxHeartbeats 1600000 in
theorem rproof_any : ∀ (N : Nat) (L : List (List UInt8)) (m n : Nat) (b : Bool), n ≤ N → 1 ≤ m → m ≤ n → n ≤ 1048576 → ∀ (a : Option Addr) (c : Nat) (w : World), RdD w a n c L →
    Calls Try.prog 26 #[.slice a n c, .int .u64 (m : Int), .bool b] w fun e w' => ∃ v, e = .returned v ∧ OwnD w' w.heap.size v (prF L m b) ∧ Below w.heap.size w w' := by
  intro N
  induction N using Nat.strongRecOn with
  | _ N ih =>
    intro L m n b hN h1 hmn h20 a c w hL
    have hl := hL.len
    have f0 : (n : Int) ≤ 1048576 := by omega
    by_cases hmn2 : m = n
    · subst hmn2
      rw [show prF L m b = if b then [] else [rootF L] by rw [← hl]; exact prF_all L b (by omega)]
      cases b with
      | true =>
        simp only [if_true]
        clear ih hN hL hl h1 h20 hmn
        go_enter Try.func26, Try.ntmps26
        go_wp2
        go_ret
        exact ⟨_, rfl, OwnD.nil _ _, Below.refl _ _⟩
      | false =>
        rw [if_neg (by decide)]
        have HRO := Lib.hid (rRoot_any _ L (Nat.le_refl _) _ _ _ w (by omega) hL)
        have hSl : (rootF L).length = 32 := rootF_len hL.all
        generalize rootF L = S at *
        have HSL := Lib.hid hSl
        clear ih hN hL hl h1 h20 hmn hSl
        go_enter Try.func26, Try.ntmps26
        go_wp2_with (first
          | (go_at_call 29; refine HRO.out.mono ?_; rintro e w3 ⟨rfl, hb3⟩)
          | ((with_reducible show wpList _ _ _ (⟨some 21, .buildSlice _ _ _, _, _, _, _⟩ :: _) _ _); refine wl_litD rfl 20 rfl S HSL.out rfl ?_; intro w4 hA4 hb4)
          | ((with_reducible show wpList _ _ _ (⟨some 22, _, _, _, _, _⟩ :: _) _ _); refine wl_appendD rfl (.tmp 18) (.tmp 21) rfl w.heap.size (.slice none 0 0) [] rfl (OwnD.nil _ _) w3.heap.size S rfl hA4 HSL.out (by simp) (by have := hb3.size; have := hb4.size; omega) ?_; intro v5 w5 hO5 hb5))
        go_ret
        exact ⟨_, rfl, hO5, (hb3.trans (hb4.mono hb3.size)).trans hb5⟩
    · obtain ⟨b1, b2, b3⟩ := splK_bounds (n := n) (by omega)
      have HS := Lib.hid (fun w => rSplit_nat n w (by omega) (by omega))
      have hc1 : ¬ ((m : Int) = (n : Int)) := by omega
      obtain ⟨k, hk⟩ : ∃ k, k = splK n := ⟨_, rfl⟩
      obtain ⟨bb, off, rfl, hbl, -⟩ := hL.mem (by omega)
      have hle := hL.le
      have hT := hL.take k (by omega)
      have hDr := hL.drop k (by omega)
      have hall := hL.all
      have f1 : (0 : Int) ≤ (k : Int) := by omega
      have f2 : (k : Int) ≤ (n : Int) := by omega
      have f3 : (n : Int) ≤ (c : Int) := by omega
      have f4 : (k : Int) < (c : Int) := by omega
      have f5 : ¬ (c = k) := by omega
      have f6 : (k : Int) ≤ (c : Int) := by omega
      by_cases hlt : m ≤ k
      · have hIH := fun w' (hb : Below w.heap.size w w') => ih k (by omega) (L.take k) m k b (Nat.le_refl _) h1 hlt (by omega) _ _ w' (hT.to hb)
        have hMl : (prF (L.take k) m b).length ≤ 21 := by
          rw [pr_len _ (L.take k) m 0 b (Nat.le_refl _) h1 (by rw [hT.len]; exact hlt), hT.len]
          exact wt_few m k 0 b h1 hlt (by omega)
        have hRo := fun w' (hb : Below w.heap.size w w') => rRoot_any _ (L.drop k) (Nat.le_refl _) _ _ _ w' (by omega) (hDr.to hb)
        rw [prF_low L m b h1 (by omega) (by rw [hl, ← hk]; exact hlt), hl, ← hk]
        have hSl : (rootF (L.drop k)).length = 32 := rootF_len (hall.drop _)
        generalize prF (L.take k) m b = M at *
        generalize rootF (L.drop k) = S at *
        rw [← hk] at HS
        have hc : (m : Int) ≤ (k : Int) := by omega
        have HX := Lib.hid hIH
        have HRO := Lib.hid hRo
        have HML := Lib.hid hMl
        have HSL := Lib.hid hSl
        clear ih hN hIH hRo hMl hSl hT hDr hall hL hl hk b1 b2 b3 hlt hmn2 h1 hmn h20 hbl hle
        go_enter Try.func26, Try.ntmps26
        go_upto_region 9 with (go_at_call 34; refine (HS.out _).mono ?_; rintro e w3 ⟨rfl, hw3⟩; obtain rfl := hw3.symm)
        go_simp
        refine wp_region_steps [[], [], [0, 1], [], [], [2, 3, 4], [], [], [6, 7], [8, 5], [9], [5, 10], [11]] (by kernel_rfl) (by kernel_rfl) (fun L a wx => ∃ v31 v32 v33 v34 v35 v36 v37 v38 v39 v40 v41 v42 v6, a = ⟨#[.slice (some ⟨bb, off, none⟩) n c, .int .u64 ↑m, .bool b, undef, undef, undef, v6, .int .u64 ↑n, undef, .int .u64 ↑k, .int .i64 0, .slice (some ⟨bb, off, none⟩) n c, .int .i64 ↑n, .int .u64 ↑n, .int .u64 ↑m, .int .u64 ↑n, .bool false, undef, undef, undef, undef, undef, undef, .tuple #[.int .u64 ↑k, .int .i64 0], .int .u64 ↑n, .tuple #[.int .u64 ↑k, .int .i64 0], .int .u64 ↑k, .int .i64 0, .int .u64 ↑m, .int .u64 ↑k, .bool true, v31, v32, v33, v34, v35, v36, v37, v38, v39, v40, v41, v42, undef, undef, undef, undef, undef, undef, undef, undef, undef, undef, undef, undef, undef], []⟩ ∧ InvProof9 b S M m n k bb off c w L v31 v32 v33 v34 v35 v36 v37 v38 v39 v40 v41 v42 v6 wx) ?_ ⟨?_, ?_, ?_, ?_, ?_, ?_, ?_, ?_, ?_, ?_, ?_, ?_, ?_, trivial⟩ ?_
        · refine ⟨_, _, _, _, _, _, _, _, _, _, _, _, _, rfl, ⟨?_, ?_, ?_, ?_, ?_, ?_, ?_, ?_, ?_, ?_, ?_, ?_, ?_, (Below.refl _ _).drew⟩⟩ <;> (intro h; exact absurd h (by decide))
        · rintro L a wx ⟨v31, v32, v33, v34, v35, v36, v37, v38, v39, v40, v41, v42, v6, rfl, hI⟩ hL hdep hcl K hK
          go_simp
          exact hK _ _ ⟨_, v32, v33, v34, v35, v36, v37, v38, v39, v40, v41, v42, v6, rfl, ⟨fun _ => rfl, hI.t1, hI.t2, hI.t3, hI.t4, hI.t5, hI.t6, hI.t7, hI.t8, hI.t9, hI.t10, hI.t11, hI.t12, hI.bw⟩⟩
        · rintro L a wx ⟨v31, v32, v33, v34, v35, v36, v37, v38, v39, v40, v41, v42, v6, rfl, hI⟩ hL hdep hcl K hK
          go_simp
          exact hK _ _ ⟨v31, _, v33, v34, v35, v36, v37, v38, v39, v40, v41, v42, v6, rfl, ⟨hI.t0, fun _ => rfl, hI.t2, hI.t3, hI.t4, hI.t5, hI.t6, hI.t7, hI.t8, hI.t9, hI.t10, hI.t11, hI.t12, hI.bw⟩⟩
        · rintro L a wx ⟨v31, v32, v33, v34, v35, v36, v37, v38, v39, v40, v41, v42, v6, rfl, hI⟩ hL hdep hcl K hK
          obtain rfl := hI.t0 (hdep 0 (by decide))
          obtain rfl := hI.t1 (hdep 1 (by decide))
          go_simp
          exact hK _ _ ⟨_, _, _, v34, v35, v36, v37, v38, v39, v40, v41, v42, v6, rfl, ⟨hI.t0, hI.t1, fun _ => rfl, hI.t3, hI.t4, hI.t5, hI.t6, hI.t7, hI.t8, hI.t9, hI.t10, hI.t11, hI.t12, hI.bw⟩⟩
        · rintro L a wx ⟨v31, v32, v33, v34, v35, v36, v37, v38, v39, v40, v41, v42, v6, rfl, hI⟩ hL hdep hcl K hK
          go_simp
          exact hK _ _ ⟨v31, v32, v33, _, v35, v36, v37, v38, v39, v40, v41, v42, v6, rfl, ⟨hI.t0, hI.t1, hI.t2, fun _ => rfl, hI.t4, hI.t5, hI.t6, hI.t7, hI.t8, hI.t9, hI.t10, hI.t11, hI.t12, hI.bw⟩⟩
        · rintro L a wx ⟨v31, v32, v33, v34, v35, v36, v37, v38, v39, v40, v41, v42, v6, rfl, hI⟩ hL hdep hcl K hK
          go_simp
          exact hK _ _ ⟨v31, v32, v33, v34, _, v36, v37, v38, v39, v40, v41, v42, v6, rfl, ⟨hI.t0, hI.t1, hI.t2, hI.t3, fun _ => rfl, hI.t5, hI.t6, hI.t7, hI.t8, hI.t9, hI.t10, hI.t11, hI.t12, hI.bw⟩⟩
        · rintro L a wx ⟨v31, v32, v33, v34, v35, v36, v37, v38, v39, v40, v41, v42, v6, rfl, hI⟩ hL hdep hcl K hK
          obtain rfl := hI.t2 (hdep 2 (by decide))
          obtain rfl := hI.t3 (hdep 3 (by decide))
          obtain rfl := hI.t4 (hdep 4 (by decide))
          have HC := HX.out wx hI.bw
          go_simp
          refine HC.mono ?_
          rintro e w' ⟨v, rfl, hO, hb⟩
          exact hK _ _ ⟨v31, v32, _, _, _, _, v37, v38, v39, v40, v41, v42, v6, rfl, ⟨hI.t0, hI.t1, hI.t2, hI.t3, hI.t4, fun _ _ => hO.base' hI.bw.size, hI.t6, hI.t7, hI.t8, hI.t9, fun h => fun ha => by obtain ⟨g, e, h1⟩ := (hI.t10 h) ha; exact ⟨g, e, h1.kept hb⟩, fun h => (hI.t11 h).to hb, fun h => (hI.t12 h).to hb, (hI.bw).trans (hb.mono (hI.bw).size)⟩⟩
        · rintro L a wx ⟨v31, v32, v33, v34, v35, v36, v37, v38, v39, v40, v41, v42, v6, rfl, hI⟩ hL hdep hcl K hK
          go_simp
          exact hK _ _ ⟨v31, v32, v33, v34, v35, v36, _, v38, v39, v40, v41, v42, v6, rfl, ⟨hI.t0, hI.t1, hI.t2, hI.t3, hI.t4, hI.t5, fun _ => rfl, hI.t7, hI.t8, hI.t9, hI.t10, hI.t11, hI.t12, hI.bw⟩⟩
        · rintro L a wx ⟨v31, v32, v33, v34, v35, v36, v37, v38, v39, v40, v41, v42, v6, rfl, hI⟩ hL hdep hcl K hK
          go_simp
          exact hK _ _ ⟨v31, v32, v33, v34, v35, v36, v37, _, v39, v40, v41, v42, v6, rfl, ⟨hI.t0, hI.t1, hI.t2, hI.t3, hI.t4, hI.t5, hI.t6, fun _ => rfl, hI.t8, hI.t9, hI.t10, hI.t11, hI.t12, hI.bw⟩⟩
        · rintro L a wx ⟨v31, v32, v33, v34, v35, v36, v37, v38, v39, v40, v41, v42, v6, rfl, hI⟩ hL hdep hcl K hK
          obtain rfl := hI.t6 (hdep 6 (by decide))
          obtain rfl := hI.t7 (hdep 7 (by decide))
          go_simp
          exact hK _ _ ⟨v31, v32, v33, v34, v35, v36, _, _, _, v40, v41, v42, v6, rfl, ⟨hI.t0, hI.t1, hI.t2, hI.t3, hI.t4, hI.t5, hI.t6, hI.t7, fun _ => rfl, hI.t9, hI.t10, hI.t11, hI.t12, hI.bw⟩⟩
        · rintro L a wx ⟨v31, v32, v33, v34, v35, v36, v37, v38, v39, v40, v41, v42, v6, rfl, hI⟩ hL hdep hcl K hK
          obtain rfl := hI.t8 (hdep 8 (by decide))
          have HC := HRO.out wx hI.bw
          go_simp
          refine HC.mono ?_
          rintro e w' ⟨rfl, hb⟩
          exact hK _ _ ⟨v31, v32, v33, v34, v35, v36, v37, v38, _, _, v41, v42, v6, rfl, ⟨hI.t0, hI.t1, hI.t2, hI.t3, hI.t4, fun h => fun ha => ((hI.t5 h) ha).to hb, hI.t6, hI.t7, hI.t8, fun _ => rfl, fun h => fun ha => by obtain ⟨g, e, h1⟩ := (hI.t10 h) ha; exact ⟨g, e, h1.kept hb⟩, fun h => (hI.t11 h).to hb, fun h => (hI.t12 h).to hb, (hI.bw).trans (hb.mono (hI.bw).size)⟩⟩
        · rintro L a wx ⟨v31, v32, v33, v34, v35, v36, v37, v38, v39, v40, v41, v42, v6, rfl, hI⟩ hL hdep hcl K hK
          obtain rfl := hI.t9 (hdep 9 (by decide))
          refine ow_of_wl rfl ?_
          refine wl_litD rfl 40 rfl S HSL.out rfl ?_
          intro w' hA' hb
          show K _ _
          exact hK _ _ ⟨v31, v32, v33, v34, v35, v36, v37, v38, v39, _, _, v42, v6, rfl, ⟨hI.t0, hI.t1, hI.t2, hI.t3, hI.t4, fun h => fun ha => ((hI.t5 h) ha).to hb, hI.t6, hI.t7, hI.t8, hI.t9, fun _ _ => ⟨_, rfl, hA'⟩, fun h => (hI.t11 h).to hb, fun h => (hI.t12 h).to hb, (hI.bw).trans (hb.mono (hI.bw).size)⟩⟩
        · rintro L a wx ⟨v31, v32, v33, v34, v35, v36, v37, v38, v39, v40, v41, v42, v6, rfl, hI⟩ hL hdep hcl K hK
          have hOx := hI.t5 (hdep 5 (by decide)) hL
          obtain ⟨g, rfl, hAx⟩ := hI.t10 (hdep 10 (by decide)) hL
          refine ow_of_wl rfl ?_
          refine wl_appendD rfl (.tmp 36) (.tmp 41) rfl w.heap.size _ M rfl hOx g S rfl hAx HSL.out (by have := HML.out; omega) hI.bw.size ?_
          intro v' w' hO' hb'
          show K _ _
          exact hK _ _ ⟨v31, v32, v33, v34, v35, v36, v37, v38, v39, v40, _, _, v6, rfl, ⟨hI.t0, hI.t1, hI.t2, hI.t3, hI.t4, fun _ ha => (nomatch (show true = false from ha)), hI.t6, hI.t7, hI.t8, hI.t9, fun _ ha => (nomatch (show true = false from ha)), fun _ => hO', fun h => (by have h4 := hcl 12 (by decide) h 11 (by decide); rw [hL] at h4; cases h4), hI.bw.trans hb'⟩⟩
        · rintro L a wx ⟨v31, v32, v33, v34, v35, v36, v37, v38, v39, v40, v41, v42, v6, rfl, hI⟩ hL hdep hcl K hK
          have hOx := hI.t11 (hdep 11 (by decide))
          go_simp
          exact hK _ _ ⟨v31, v32, v33, v34, v35, v36, v37, v38, v39, v40, v41, v42, _, rfl, ⟨hI.t0, hI.t1, hI.t2, hI.t3, hI.t4, hI.t5, hI.t6, hI.t7, hI.t8, hI.t9, hI.t10, hI.t11, fun _ => hOx, hI.bw⟩⟩
        · rintro a wx ⟨v31, v32, v33, v34, v35, v36, v37, v38, v39, v40, v41, v42, v6, rfl, hI⟩
          have hO := hI.t12 rfl
          have hbw := hI.bw
          clear hI
          go_wp2_with fail
          go_ret
          exact ⟨_, rfl, hO, hbw⟩
      · have hIH := fun w' (hb : Below w.heap.size w w') => ih (n - k) (by omega) (L.drop k) (m - k) (n - k) false (Nat.le_refl _) (by omega) (by omega) (by omega) _ _ w' (hDr.to hb)
        have hMl : (prF (L.drop k) (m - k) false).length ≤ 21 := by
          rw [pr_len _ (L.drop k) (m - k) 0 false (Nat.le_refl _) (by omega) (by rw [hDr.len]; omega), hDr.len]
          exact wt_few (m - k) (n - k) 0 false (by omega) (by omega) (by omega)
        have hRo := fun w' (hb : Below w.heap.size w w') => rRoot_any _ (L.take k) (Nat.le_refl _) _ _ _ w' (by omega) (hT.to hb)
        rw [prF_high L m b (by omega) (by rw [hl, ← hk]; exact hlt), hl, ← hk]
        rw [show ((m - k : Nat) : Int) = (m : Int) - (k : Int) by omega] at hIH
        have hSl : (rootF (L.take k)).length = 32 := rootF_len (hall.take _)
        generalize prF (L.drop k) (m - k) false = M at *
        generalize rootF (L.take k) = S at *
        rw [← hk] at HS
        have hc : ¬ ((m : Int) ≤ (k : Int)) := by omega
        have hmn3 : (m : Int) ≤ (n : Int) := by omega
        have HWI : Hid (IntKind.u64.wrap ((m : Int) - (k : Int)) = (m : Int) - (k : Int)) := by show _ = _; rw [IntKind.wrap_u64]; omega
        have HX := Lib.hid hIH
        have HRO := Lib.hid hRo
        have HML := Lib.hid hMl
        have HSL := Lib.hid hSl
        clear ih hN hIH hRo hMl hSl hT hDr hall hL hl hk b1 b2 b3 hlt hmn2 h1 hmn h20 hbl hle
        go_enter Try.func26, Try.ntmps26
        go_upto_region 10 with (go_at_call 34; refine (HS.out _).mono ?_; rintro e w3 ⟨rfl, hw3⟩; obtain rfl := hw3.symm)
        go_simp
        refine wp_region_steps [[], [], [0, 1], [], [], [3, 4], [2, 5], [], [], [7, 8], [9, 6], [10], [6, 11], [12]] (by kernel_rfl) (by kernel_rfl) (fun L a wx => ∃ v43 v44 v45 v46 v47 v48 v49 v50 v51 v52 v53 v54 v55 v6, a = ⟨#[.slice (some ⟨bb, off, none⟩) n c, .int .u64 ↑m, .bool b, undef, undef, undef, v6, .int .u64 ↑n, undef, .int .u64 ↑k, .int .i64 0, .slice (some ⟨bb, off, none⟩) n c, .int .i64 ↑n, .int .u64 ↑n, .int .u64 ↑m, .int .u64 ↑n, .bool false, undef, undef, undef, undef, undef, undef, .tuple #[.int .u64 ↑k, .int .i64 0], .int .u64 ↑n, .tuple #[.int .u64 ↑k, .int .i64 0], .int .u64 ↑k, .int .i64 0, .int .u64 ↑m, .int .u64 ↑k, .bool false, undef, undef, undef, undef, undef, undef, undef, undef, undef, undef, undef, undef, v43, v44, v45, v46, v47, v48, v49, v50, v51, v52, v53, v54, v55], []⟩ ∧ InvProof10 b S M m n k bb off c w L v43 v44 v45 v46 v47 v48 v49 v50 v51 v52 v53 v54 v55 v6 wx) ?_ ⟨?_, ?_, ?_, ?_, ?_, ?_, ?_, ?_, ?_, ?_, ?_, ?_, ?_, ?_, trivial⟩ ?_
        · refine ⟨_, _, _, _, _, _, _, _, _, _, _, _, _, _, rfl, ⟨?_, ?_, ?_, ?_, ?_, ?_, ?_, ?_, ?_, ?_, ?_, ?_, ?_, ?_, (Below.refl _ _).drew⟩⟩ <;> (intro h; exact absurd h (by decide))
        · rintro L a wx ⟨v43, v44, v45, v46, v47, v48, v49, v50, v51, v52, v53, v54, v55, v6, rfl, hI⟩ hL hdep hcl K hK
          go_simp
          exact hK _ _ ⟨_, v44, v45, v46, v47, v48, v49, v50, v51, v52, v53, v54, v55, v6, rfl, ⟨fun _ => rfl, hI.t1, hI.t2, hI.t3, hI.t4, hI.t5, hI.t6, hI.t7, hI.t8, hI.t9, hI.t10, hI.t11, hI.t12, hI.t13, hI.bw⟩⟩
        · rintro L a wx ⟨v43, v44, v45, v46, v47, v48, v49, v50, v51, v52, v53, v54, v55, v6, rfl, hI⟩ hL hdep hcl K hK
          go_simp
          exact hK _ _ ⟨v43, _, v45, v46, v47, v48, v49, v50, v51, v52, v53, v54, v55, v6, rfl, ⟨hI.t0, fun _ => rfl, hI.t2, hI.t3, hI.t4, hI.t5, hI.t6, hI.t7, hI.t8, hI.t9, hI.t10, hI.t11, hI.t12, hI.t13, hI.bw⟩⟩
        · rintro L a wx ⟨v43, v44, v45, v46, v47, v48, v49, v50, v51, v52, v53, v54, v55, v6, rfl, hI⟩ hL hdep hcl K hK
          obtain rfl := hI.t0 (hdep 0 (by decide))
          obtain rfl := hI.t1 (hdep 1 (by decide))
          go_simp
          exact hK _ _ ⟨_, _, _, v46, v47, v48, v49, v50, v51, v52, v53, v54, v55, v6, rfl, ⟨hI.t0, hI.t1, fun _ => rfl, hI.t3, hI.t4, hI.t5, hI.t6, hI.t7, hI.t8, hI.t9, hI.t10, hI.t11, hI.t12, hI.t13, hI.bw⟩⟩
        · rintro L a wx ⟨v43, v44, v45, v46, v47, v48, v49, v50, v51, v52, v53, v54, v55, v6, rfl, hI⟩ hL hdep hcl K hK
          go_simp
          exact hK _ _ ⟨v43, v44, v45, _, v47, v48, v49, v50, v51, v52, v53, v54, v55, v6, rfl, ⟨hI.t0, hI.t1, hI.t2, fun _ => rfl, hI.t4, hI.t5, hI.t6, hI.t7, hI.t8, hI.t9, hI.t10, hI.t11, hI.t12, hI.t13, hI.bw⟩⟩
        · rintro L a wx ⟨v43, v44, v45, v46, v47, v48, v49, v50, v51, v52, v53, v54, v55, v6, rfl, hI⟩ hL hdep hcl K hK
          go_simp
          exact hK _ _ ⟨v43, v44, v45, v46, _, v48, v49, v50, v51, v52, v53, v54, v55, v6, rfl, ⟨hI.t0, hI.t1, hI.t2, hI.t3, fun _ => rfl, hI.t5, hI.t6, hI.t7, hI.t8, hI.t9, hI.t10, hI.t11, hI.t12, hI.t13, hI.bw⟩⟩
        · rintro L a wx ⟨v43, v44, v45, v46, v47, v48, v49, v50, v51, v52, v53, v54, v55, v6, rfl, hI⟩ hL hdep hcl K hK
          obtain rfl := hI.t3 (hdep 3 (by decide))
          obtain rfl := hI.t4 (hdep 4 (by decide))
          go_simp
          rw [HWI.out]
          exact hK _ _ ⟨v43, v44, v45, _, _, _, v49, v50, v51, v52, v53, v54, v55, v6, rfl, ⟨hI.t0, hI.t1, hI.t2, hI.t3, hI.t4, fun _ => rfl, hI.t6, hI.t7, hI.t8, hI.t9, hI.t10, hI.t11, hI.t12, hI.t13, hI.bw⟩⟩
        · rintro L a wx ⟨v43, v44, v45, v46, v47, v48, v49, v50, v51, v52, v53, v54, v55, v6, rfl, hI⟩ hL hdep hcl K hK
          obtain rfl := hI.t2 (hdep 2 (by decide))
          obtain rfl := hI.t5 (hdep 5 (by decide))
          have HC := HX.out wx hI.bw
          go_simp
          refine HC.mono ?_
          rintro e w' ⟨v, rfl, hO, hb⟩
          exact hK _ _ ⟨v43, v44, _, v46, v47, _, _, v50, v51, v52, v53, v54, v55, v6, rfl, ⟨hI.t0, hI.t1, hI.t2, hI.t3, hI.t4, hI.t5, fun _ _ => hO.base' hI.bw.size, hI.t7, hI.t8, hI.t9, hI.t10, fun h => fun ha => by obtain ⟨g, e, h1⟩ := (hI.t11 h) ha; exact ⟨g, e, h1.kept hb⟩, fun h => (hI.t12 h).to hb, fun h => (hI.t13 h).to hb, (hI.bw).trans (hb.mono (hI.bw).size)⟩⟩
        · rintro L a wx ⟨v43, v44, v45, v46, v47, v48, v49, v50, v51, v52, v53, v54, v55, v6, rfl, hI⟩ hL hdep hcl K hK
          go_simp
          exact hK _ _ ⟨v43, v44, v45, v46, v47, v48, v49, _, v51, v52, v53, v54, v55, v6, rfl, ⟨hI.t0, hI.t1, hI.t2, hI.t3, hI.t4, hI.t5, hI.t6, fun _ => rfl, hI.t8, hI.t9, hI.t10, hI.t11, hI.t12, hI.t13, hI.bw⟩⟩
        · rintro L a wx ⟨v43, v44, v45, v46, v47, v48, v49, v50, v51, v52, v53, v54, v55, v6, rfl, hI⟩ hL hdep hcl K hK
          go_simp
          exact hK _ _ ⟨v43, v44, v45, v46, v47, v48, v49, v50, _, v52, v53, v54, v55, v6, rfl, ⟨hI.t0, hI.t1, hI.t2, hI.t3, hI.t4, hI.t5, hI.t6, hI.t7, fun _ => rfl, hI.t9, hI.t10, hI.t11, hI.t12, hI.t13, hI.bw⟩⟩
        · rintro L a wx ⟨v43, v44, v45, v46, v47, v48, v49, v50, v51, v52, v53, v54, v55, v6, rfl, hI⟩ hL hdep hcl K hK
          obtain rfl := hI.t7 (hdep 7 (by decide))
          obtain rfl := hI.t8 (hdep 8 (by decide))
          go_simp
          exact hK _ _ ⟨v43, v44, v45, v46, v47, v48, v49, _, _, _, v53, v54, v55, v6, rfl, ⟨hI.t0, hI.t1, hI.t2, hI.t3, hI.t4, hI.t5, hI.t6, hI.t7, hI.t8, fun _ => rfl, hI.t10, hI.t11, hI.t12, hI.t13, hI.bw⟩⟩
        · rintro L a wx ⟨v43, v44, v45, v46, v47, v48, v49, v50, v51, v52, v53, v54, v55, v6, rfl, hI⟩ hL hdep hcl K hK
          obtain rfl := hI.t9 (hdep 9 (by decide))
          have HC := HRO.out wx hI.bw
          go_simp
          refine HC.mono ?_
          rintro e w' ⟨rfl, hb⟩
          exact hK _ _ ⟨v43, v44, v45, v46, v47, v48, v49, v50, v51, _, _, v54, v55, v6, rfl, ⟨hI.t0, hI.t1, hI.t2, hI.t3, hI.t4, hI.t5, fun h => fun ha => ((hI.t6 h) ha).to hb, hI.t7, hI.t8, hI.t9, fun _ => rfl, fun h => fun ha => by obtain ⟨g, e, h1⟩ := (hI.t11 h) ha; exact ⟨g, e, h1.kept hb⟩, fun h => (hI.t12 h).to hb, fun h => (hI.t13 h).to hb, (hI.bw).trans (hb.mono (hI.bw).size)⟩⟩
        · rintro L a wx ⟨v43, v44, v45, v46, v47, v48, v49, v50, v51, v52, v53, v54, v55, v6, rfl, hI⟩ hL hdep hcl K hK
          obtain rfl := hI.t10 (hdep 10 (by decide))
          refine ow_of_wl rfl ?_
          refine wl_litD rfl 53 rfl S HSL.out rfl ?_
          intro w' hA' hb
          show K _ _
          exact hK _ _ ⟨v43, v44, v45, v46, v47, v48, v49, v50, v51, v52, _, _, v55, v6, rfl, ⟨hI.t0, hI.t1, hI.t2, hI.t3, hI.t4, hI.t5, fun h => fun ha => ((hI.t6 h) ha).to hb, hI.t7, hI.t8, hI.t9, hI.t10, fun _ _ => ⟨_, rfl, hA'⟩, fun h => (hI.t12 h).to hb, fun h => (hI.t13 h).to hb, (hI.bw).trans (hb.mono (hI.bw).size)⟩⟩
        · rintro L a wx ⟨v43, v44, v45, v46, v47, v48, v49, v50, v51, v52, v53, v54, v55, v6, rfl, hI⟩ hL hdep hcl K hK
          have hOx := hI.t6 (hdep 6 (by decide)) hL
          obtain ⟨g, rfl, hAx⟩ := hI.t11 (hdep 11 (by decide)) hL
          refine ow_of_wl rfl ?_
          refine wl_appendD rfl (.tmp 49) (.tmp 54) rfl w.heap.size _ M rfl hOx g S rfl hAx HSL.out (by have := HML.out; omega) hI.bw.size ?_
          intro v' w' hO' hb'
          show K _ _
          exact hK _ _ ⟨v43, v44, v45, v46, v47, v48, v49, v50, v51, v52, v53, _, _, v6, rfl, ⟨hI.t0, hI.t1, hI.t2, hI.t3, hI.t4, hI.t5, fun _ ha => (nomatch (show true = false from ha)), hI.t7, hI.t8, hI.t9, hI.t10, fun _ ha => (nomatch (show true = false from ha)), fun _ => hO', fun h => (by have h4 := hcl 13 (by decide) h 12 (by decide); rw [hL] at h4; cases h4), hI.bw.trans hb'⟩⟩
        · rintro L a wx ⟨v43, v44, v45, v46, v47, v48, v49, v50, v51, v52, v53, v54, v55, v6, rfl, hI⟩ hL hdep hcl K hK
          have hOx := hI.t12 (hdep 12 (by decide))
          go_simp
          exact hK _ _ ⟨v43, v44, v45, v46, v47, v48, v49, v50, v51, v52, v53, v54, v55, _, rfl, ⟨hI.t0, hI.t1, hI.t2, hI.t3, hI.t4, hI.t5, hI.t6, hI.t7, hI.t8, hI.t9, hI.t10, hI.t11, hI.t12, fun _ => hOx, hI.bw⟩⟩
        · rintro a wx ⟨v43, v44, v45, v46, v47, v48, v49, v50, v51, v52, v53, v54, v55, v6, rfl, hI⟩
          have hO := hI.t13 rfl
          have hbw := hI.bw
          clear hI
          go_wp2_with fail
          go_ret
          exact ⟨_, rfl, hO, hbw⟩
set_option maxRecDepth 100000 in
set_option maxHeartbeats 1600000 in
theorem rProofC_any (L : List (List UInt8)) (m : Nat) (a : Option Addr) (n c : Nat) (w : World) (hL : RdD w a n c L) (hn50 : n ≤ 2 ^ 50) :
    Calls Try.prog 15 #[.slice a n c, .int .u64 (m : Int)] w fun e w' => ∃ v, e = .returned (.tuple #[v, .int .i64 (cE m n)]) ∧ OwnD w' w.heap.size v (qL L m) ∧ Below w.heap.size w w' := by
  have hl := hL.len
  cases hm : okC m n with
  | false =>
    have e1 : cE m n = 1 := by simp only [cE, hm]; rfl
    have e2 : qL L m = [] := by simp only [qL, hl, hm]; rfl
    rw [e1, e2]
    clear e1 e2 hL hl
    rcases okC_no hm with h | ⟨h, h'⟩
    · have c : (1048576 : Int) < (n : Int) := by omega
      clear hm h
      go_enter Try.func15, Try.ntmps15
      go_wp2
      go_ret2
      exact ⟨_, rfl, OwnD.nil _ _, Below.refl _ _⟩
    · have c : ¬ ((1048576 : Int) < (n : Int)) := by omega
      have c2 : (n : Int) < (m : Int) := by omega
      clear hm h h'
      go_enter Try.func15, Try.ntmps15
      go_wp2
      go_ret2
      exact ⟨_, rfl, OwnD.nil _ _, Below.refl _ _⟩
  | true =>
    obtain ⟨hn20, hmn⟩ := okC_yes hm
    have e1 : cE m n = 0 := by simp only [cE, hm]; rfl
    have c1 : ¬ ((1048576 : Int) < (n : Int)) := by omega
    by_cases h0 : m = 0
    · subst h0
      have e2 : qL L 0 = [] := by unfold qL; split <;> rfl
      rw [e1, e2]
      have c4 : ¬ ((n : Int) < 0) := by omega
      clear hm hn20 hmn e1 e2 hL hl
      go_enter Try.func15, Try.ntmps15
      go_wp2
      go_ret2
      exact ⟨_, rfl, OwnD.nil _ _, Below.refl _ _⟩
    have e2 : qL L m = prF L m true := by simp only [qL, hl, hm, if_true, if_neg h0]
    rw [e1, e2]
    have c2 : ¬ ((n : Int) < (m : Int)) := by omega
    have c0 : ((m : Int) == 0) = false := by simp; omega
    have HD := Lib.hid (rproof_any n L m n true (Nat.le_refl _) (by omega) hmn hn20 a _ w hL)
    clear hm hn20 hmn e1 e2 hL hl h0
    generalize prF L m true = M at *
    go_enter Try.func15, Try.ntmps15
    go_wp2_with (go_at_call 26; refine HD.out.mono ?_; rintro e w2 ⟨v2, rfl, hOw2, hb2⟩)
    go_ret2
    exact ⟨_, rfl, hOw2, hb2⟩
end Go.Proofs.Ytcnnblhjgligbaa
