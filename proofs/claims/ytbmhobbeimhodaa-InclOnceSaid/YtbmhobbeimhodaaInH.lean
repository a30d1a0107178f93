/-
  Layer 10: the document's head. Conditions: those in each statement.
-/
import Derived.Test.YtbmhobbeimhodaaInG
namespace Go.Proofs.Ytbmhobbeimhodaa
open Go.RowKit

theorem rg_len_s : ∀ (N n i s t : Nat), n ≤ N → (rgF i n s).length = (rgF i n t).length := by
  intro N
  induction N using Nat.strongRecOn with
  | _ N ih =>
    intro n i s t hN
    by_cases h1 : n ≤ 1
    · rw [rgF_one _ _ _ h1, rgF_one _ _ _ h1]
    · obtain ⟨b1, b2, b3⟩ := splK_bounds (n := n) (by omega)
      by_cases h : i < splK n
      · rw [rgF_low _ _ _ (by omega) h, rgF_low _ _ _ (by omega) h, List.length_append, List.length_append, ih (splK n) (by omega) (splK n) i s t (Nat.le_refl _)]
        rfl
      · rw [rgF_high _ _ _ (by omega) h, rgF_high _ _ _ (by omega) h, List.length_append, List.length_append, ih (n - splK n) (by omega) (n - splK n) (i - splK n) (s + splK n) (t + splK n) (Nat.le_refl _)]
        rfl
structure InvHead6 (d X y S : List UInt8) (i n k q pb po c g4 g8 g11 : Nat) (W0 : World) (L : Nat → Bool) (v29 v30 v31 v32 v33 v34 v35 v36 v37 v38 v39 : Value) (wx : World) : Prop where
  t0 : L 0 = true → v29 = .agg (bvs d).toArray
  t1 : L 1 = true → v30 = .int .u64 ↑i
  t2 : L 2 = true → v31 = .int .u64 ↑k
  t3 : L 3 = true → v32 = .slice (some ⟨pb, po, none⟩) (q + 1) c
  t4 : L 4 = true → v33 = .slice (some ⟨pb, po, none⟩) (q + 1) c
  t5 : L 5 = true → v34 = .int .i64 ((q : Int) + 1)
  t6 : L 6 = true → v35 = .int .i64 (q : Int)
  t7 : L 7 = true → v36 = .slice (some ⟨pb, po, none⟩) q c
  t8 : L 8 = true → v37 = .agg (bvs X).toArray
  t9 : L 9 = true → v38 = .agg (bvs y).toArray
  t10 : L 10 = true → v39 = .agg (bvs S).toArray
  bw : L 11 = false → Below W0.heap.size W0 wx
  fin : L 11 = true → ∃ wy, Below W0.heap.size W0 wy ∧ Arr wx g8 41 (bvs S) ∧ wy.grownBy wx (some g8)
structure InvHead7 (d X y S : List UInt8) (i n k q pb po c g4 g8 g11 : Nat) (W0 : World) (L : Nat → Bool) (v40 v41 v42 v43 v44 v45 v46 v47 v48 v49 v50 v51 v52 v53 v54 : Value) (wx : World) : Prop where
  t0 : L 0 = true → v40 = .agg (bvs y).toArray
  t1 : L 1 = true → v41 = .agg (bvs d).toArray
  t2 : L 2 = true → v42 = .int .u64 ↑i
  t3 : L 3 = true → v43 = .int .u64 ↑k
  t4 : L 4 = true → v44 = .int .u64 ((i : Int) - (k : Int))
  t5 : L 5 = true → v45 = .int .u64 ↑n
  t6 : L 6 = true → v46 = .int .u64 ↑k
  t7 : L 7 = true → v47 = .int .u64 ((n : Int) - (k : Int))
  t8 : L 8 = true → v48 = .slice (some ⟨pb, po, none⟩) (q + 1) c
  t9 : L 9 = true → v49 = .slice (some ⟨pb, po, none⟩) (q + 1) c
  t10 : L 10 = true → v50 = .int .i64 ((q : Int) + 1)
  t11 : L 11 = true → v51 = .int .i64 (q : Int)
  t12 : L 12 = true → v52 = .slice (some ⟨pb, po, none⟩) q c
  t13 : L 13 = true → v53 = .agg (bvs X).toArray
  t14 : L 14 = true → v54 = .agg (bvs S).toArray
  bw : L 15 = false → Below W0.heap.size W0 wx
  fin : L 15 = true → ∃ wy, Below W0.heap.size W0 wy ∧ Arr wx g8 41 (bvs S) ∧ wy.grownBy wx (some g8)
set_option maxRecDepth 100000 in
set_option maxHeartbeats 6400000 in
theorem rhead_any (d : List UInt8) (hd : d.length = 32) : ∀ (N n i : Nat), n ≤ N → 1 ≤ n → i < n → n ≤ 1048576 → ∀ (a : Option Addr) (m c : Nat) (P : List (List UInt8)) (w : World), RdD w a m c P → m = (rgF i n 0).length →
    Calls Try.prog 28 #[.agg (bvs d).toArray, .int .u64 (i : Int), .int .u64 (n : Int), .slice a m c] w fun e w' => e = .returned (.agg (bvs (headF d i n P)).toArray) ∧ Below w.heap.size w w' := by
  have h32d : Hid ((Try.prog.info? 41).map (·.size) = some (bvs d).length) := by show _ = _; rw [bvs_len, hd]; exact sizeD
  have hd32 : Hid ((bvs d).length = 32) := by show _ = _; rw [bvs_len]; exact hd
  intro N
  induction N using Nat.strongRecOn with
  | _ N ih =>
    intro n i hN h1 hi h20 a m c P w hP hm
    have hlP := hP.len
    by_cases hn1 : n = 1
    · subst hn1
      rw [headF_one _ _ _ _ (by omega)]
      clear ih hN hi hP hm hlP h20
      go_enter Try.func28, Try.ntmps28
      go_wp2_with (first
        | ((with_reducible show wpList _ _ _ (⟨some 4, .box _ _, _, _, _, _⟩ :: _) _ _); refine wl_box rfl 41 _ rfl (bvs d) rfl ?_; intro w1 hA1 hb1 hs1)
        | ((with_reducible show wpList _ _ _ (⟨some 8, .alloc _, _, _, _, _⟩ :: _) _ _); refine wl_alloc rfl 41 rfl (bvs (Z8 32)) 32 infoD ?_; intro w2 hA2 hb2 hs2)
        | ((with_reducible show wpList _ _ _ (⟨some 14, .load _ _, _, _, _, _⟩ :: _) _ _); refine wl_load rfl 41 _ rfl w.heap.size 0 rfl 41 (bvs d) (bvs d) (hA1.kept hb2) (fun j v h => (by rw [Nat.zero_add]; exact h)) (.array 32 5) Try.underlying41 rfl h32d.out ?_)
        | ((with_reducible show wpList _ _ _ (⟨none, .store _ _ _, _, _, _, _⟩ :: _) _ _); refine wl_store rfl 41 _ _ rfl w1.heap.size 0 rfl (bvs d) rfl 41 _ hA2 h32d.out (by rw [hd32.out]; exact (by decide : 0 + 32 ≤ (bvs (Z8 32)).length)) (bvs_one _) ?_; intro w3 hA3 hg3 hs3))
      rw [whole_store _ _ (by rw [hd32.out]; rfl)] at hA3
      refine end_cell rfl w1.heap.size 41 (bvs d) (.array 32 5) rfl hA3 Try.underlying41 rfl h32d.out rfl ⟨rfl, ?_⟩
      have z1 := hb1.size
      exact (hb1.trans (hb2.mono z1)).grown hg3 (by have := hb2.size; omega) (by intro k e; injection e with e; omega)
    · obtain ⟨b1, b2, b3⟩ := splK_bounds (n := n) (by omega)
      have HS := Lib.hid (fun w => rSplit_nat n w (by omega) (by omega))
      have hc1 : ¬ ((n : Int) = 1) := by omega
      obtain ⟨k, hk⟩ : ∃ k, k = splK n := ⟨_, rfl⟩
      have hm20 : m ≤ 20 := by rw [hm]; exact rg_few i n 0 h20
      have hq1 : 1 ≤ m := by
        rw [hm]
        by_cases h : i < splK n
        · rw [rgF_low _ _ _ (by omega) h, List.length_append]; simp
        · rw [rgF_high _ _ _ (by omega) h, List.length_append]; simp
      obtain ⟨q, rfl⟩ : ∃ q, m = q + 1 := ⟨m - 1, by omega⟩
      obtain ⟨pb, po, rfl, hpbl, -⟩ := hP.mem (by omega)
      have hPd : RdD w (some ⟨pb, po, none⟩) q c P.dropLast := by
        have := hP.take q (by omega)
        rwa [show P.take q = P.dropLast by rw [List.dropLast_eq_take, hlP]; rfl] at this
      have hPr := hP.range q (by omega)
      have hyl := hP.all q (by omega)
      have hq0 : (0 : Int) ≤ (q : Int) := by omega
      have hq2 : (q : Int) ≤ 20 := by omega
      have hqc : (q : Int) ≤ (c : Int) := by have := hP.le; omega
      have hqc1 : (q : Int) < (c : Int) := by have := hP.le; omega
      have hyq : P.getD (P.length - 1) [] = P.getD q [] := by rw [hlP]; rfl
      obtain ⟨y, hy⟩ : ∃ y, y = P.getD q [] := ⟨_, rfl⟩
      rw [← hy] at hPr hyl hyq
      have h32y : Hid ((Try.prog.info? 41).map (·.size) = some (bvs y).length) := by show _ = _; rw [bvs_len, hyl]; exact sizeD
      have hy32 : Hid ((bvs y).length = 32) := by show _ = _; rw [bvs_len]; exact hyl
      have HWQ : Hid (IntKind.i64.wrap (q : Int) = (q : Int)) := by show _ = _; exact IntWalk.i64_in _ (by omega)
      by_cases hlt : i < k
      · have hIH := fun w' (hb : Below w.heap.size w w') => ih k (by omega) k i (Nat.le_refl _) (by omega) hlt (by omega) (some ⟨pb, po, none⟩) q c P.dropLast w' (hPd.to hb) (by
          rw [rgF_low i n 0 (by omega) (by omega), List.length_append, ← hk] at hm
          simpa using hm)
        rw [headF_low d i n P (by omega) (by omega), hyq, ← hk]
        rw [← hk] at HS
        have hXl := head_len k d i k P.dropLast (Nat.le_refl _) hd
        have HX := Lib.hid hIH
        obtain ⟨X, hX⟩ : ∃ X, X = headF d i k P.dropLast := ⟨_, rfl⟩
        rw [← hX] at HX hXl ⊢
        have HN := Lib.hid (fun w => rNode_any X y w hXl hyl)
        have hSl : (nodeH X y).length = 32 := shaL_len _
        obtain ⟨S, hS⟩ : ∃ S, S = nodeH X y := ⟨_, rfl⟩
        rw [← hS] at HN hSl ⊢
        have hc : (i : Int) < (k : Int) := by omega
        have h32S : Hid ((Try.prog.info? 41).map (·.size) = some (bvs S).length) := by show _ = _; rw [bvs_len, hSl]; exact sizeD
        have hS32 : Hid ((bvs S).length = 32) := by show _ = _; rw [bvs_len]; exact hSl
        clear ih hN hIH hX hS hXl hSl hyl hyq hy hPd hm hm20 hq1 hlP hP hk b1 b2 b3 hlt hn1 h1 hi h20
        go_enter Try.func28, Try.ntmps28
        go_upto_region 6 with (first
          | ((with_reducible show wpList _ _ _ (⟨some 4, .box _ _, _, _, _, _⟩ :: _) _ _); refine wl_box rfl 41 _ rfl (bvs d) rfl ?_; intro w1 hA1 hb1 hs1)
          | ((with_reducible show wpList _ _ _ (⟨some 8, .alloc _, _, _, _, _⟩ :: _) _ _); refine wl_alloc rfl 41 rfl (bvs (Z8 32)) 32 infoD ?_; intro w2 hA2 hb2 hs2)
          | (go_at_call 32; refine (HS.out _).mono ?_; rintro e w3 ⟨rfl, hw3⟩; obtain rfl := hw3.symm)
          | ((with_reducible show wpList _ _ _ (⟨some 25, .load _ _, _, _, _, _⟩ :: _) _ _); refine wpList_load_mid rfl 41 _ rfl pb (po + q * 32) rfl (bvs y) (.array 32 5) (fun j v hj => ((hb1.trans (hb2.mono hb1.size)).cell (p := ⟨pb, po + q * 32 + j, none⟩) hpbl).trans (hPr j v hj)) Try.underlying41 rfl h32y.out ?_)
          | ((with_reducible show wpList _ _ _ (⟨some 11, .alloc _, _, _, _, _⟩ :: _) _ _); refine wl_alloc rfl 41 rfl (bvs (Z8 32)) 32 infoD ?_; intro w4 hA4 hb4 hs4)
          | ((with_reducible show wpList _ _ _ (⟨none, .store _ _ _, _, _, _, _⟩ :: _) _ _); refine wl_store rfl 41 _ _ rfl w2.heap.size 0 rfl (bvs y) rfl 41 _ hA4 h32y.out (by rw [hy32.out]; exact (by decide : 0 + 32 ≤ (bvs (Z8 32)).length)) (bvs_one _) ?_; intro w5 hA5 hg5 hs5))
        rw [whole_store _ _ (by rw [hy32.out]; rfl)] at hA5
        have z1 := hb1.size
        have z2 := hb2.size
        have z4 := hb4.size
        have b25 : Below w2.heap.size w2 w5 := hb4.grown hg5 z4 (by intro k e; injection e with e; omega)
        have b05 : Below w.heap.size w w5 := (hb1.trans (hb2.mono z1)).trans (b25.mono (by omega))
        have A4 : Arr w5 w.heap.size 41 (bvs d) := (hA1.kept hb2).kept b25
        have A8 : Arr w5 w1.heap.size 41 (bvs (Z8 32)) := hA2.kept b25
        have z5 := b05.size
        obtain ⟨g4, hg4⟩ : ∃ g, g = w.heap.size := ⟨_, rfl⟩
        obtain ⟨g8, hg8⟩ : ∃ g, g = w1.heap.size := ⟨_, rfl⟩
        obtain ⟨g11, hg11⟩ : ∃ g, g = w2.heap.size := ⟨_, rfl⟩
        have h48 : g4 ≠ g8 := by omega
        have h118 : g11 ≠ g8 := by omega
        have h08 : w.heap.size ≤ g8 := by omega
        have h8l : g8 < w5.heap.size := by rw [hg8]; exact A8.lt
        have h4l : g4 < w5.heap.size := by rw [hg4]; exact A4.lt
        go_simp
        rw [← hg4, ← hg8, ← hg11]
        rw [← hg4] at A4
        rw [← hg8] at A8
        rw [← hg11] at hA5
        have HB := Lib.hid b05
        have H48 := Lib.hid h48
        have H118 := Lib.hid h118
        have H08 := Lib.hid h08
        have Z5 := Lib.hid z5
        have HA4 : Hid (∀ wx, Below w5.heap.size w5 wx → Arr wx g4 41 (bvs d)) := fun wx hb => A4.kept hb
        have HA11 : Hid (∀ wx, Below w5.heap.size w5 wx → Arr wx g11 41 (bvs y)) := fun wx hb => hA5.kept hb
        have HA8 : Hid (∀ wx, Below w5.heap.size w5 wx → Arr wx g8 41 (bvs (Z8 32))) := fun wx hb => A8.kept hb
        clear hA1 hA2 hA4 hb1 hb2 hb4 hs1 hs2 hs4 hs5 hg5 b25 b05 A4 A8 hA5 z1 z2 z4 z5 hg4 hg8 hg11 h48 h118 h08 hPr hpbl h8l h4l
        refine wp_region_steps [[], [], [], [], [], [4], [5], [3, 6], [0, 1, 2, 7], [], [8, 9], [10]] (by kernel_rfl) (by kernel_rfl) (fun L a wx => ∃ v29 v30 v31 v32 v33 v34 v35 v36 v37 v38 v39, a = ⟨#[.agg (bvs d).toArray, .int .u64 ↑i, .int .u64 ↑n, .slice (some ⟨pb, po, none⟩) (q + 1) c, .pointer (some ⟨g4, 0, none⟩), undef, undef, undef, .pointer (some ⟨g8, 0, none⟩), .int .u64 ↑k, .int .i64 0, .pointer (some ⟨g11, 0, none⟩), .int .u64 ↑n, .bool false, undef, .tuple #[.int .u64 ↑k, .int .i64 0], .int .u64 ↑n, .tuple #[.int .u64 ↑k, .int .i64 0], .int .u64 ↑k, .int .i64 0, .slice (some ⟨pb, po, none⟩) (q + 1) c, .slice (some ⟨pb, po, none⟩) (q + 1) c, .int .i64 (↑q + 1), .int .i64 ↑q, .pointer (some ⟨pb, po + q * 32, none⟩), .agg (bvs y).toArray, .int .u64 ↑i, .int .u64 ↑k, .bool true, v29, v30, v31, v32, v33, v34, v35, v36, v37, v38, v39, undef, undef, undef, undef, undef, undef, undef, undef, undef, undef, undef, undef, undef, undef, undef], []⟩ ∧ InvHead6 d X y S i n k q pb po c g4 g8 g11 w5 L v29 v30 v31 v32 v33 v34 v35 v36 v37 v38 v39 wx) ?_ ⟨?_, ?_, ?_, ?_, ?_, ?_, ?_, ?_, ?_, ?_, ?_, ?_, trivial⟩ ?_
        · refine ⟨_, _, _, _, _, _, _, _, _, _, _, rfl, ⟨?_, ?_, ?_, ?_, ?_, ?_, ?_, ?_, ?_, ?_, ?_, fun _ => (Below.refl _ _).drew, fun h => absurd h (by decide)⟩⟩ <;> (intro h; exact absurd h (by decide))
        · rintro L a wx ⟨v29, v30, v31, v32, v33, v34, v35, v36, v37, v38, v39, rfl, hI⟩ hL hdep hcl K hK
          refine ow_load 41 _ rfl g4 0 rfl 41 (bvs d) (bvs d) (HA4.out wx (hI.bw (by cases hq : L 11 with | false => rfl | true => have h4 := (hcl 8 (by decide) (hcl 10 (by decide) (hcl 11 (by decide) hq 10 (by decide)) 8 (by decide)) 0 (by decide)); rw [hL] at h4; cases h4))) (fun j v h => by rw [Nat.zero_add]; exact h) (.array 32 5) Try.underlying41 rfl h32d.out ?_
          exact hK _ _ ⟨_, v30, v31, v32, v33, v34, v35, v36, v37, v38, v39, rfl, ⟨fun _ => rfl, hI.t1, hI.t2, hI.t3, hI.t4, hI.t5, hI.t6, hI.t7, hI.t8, hI.t9, hI.t10, hI.bw, hI.fin⟩⟩
        · rintro L a wx ⟨v29, v30, v31, v32, v33, v34, v35, v36, v37, v38, v39, rfl, hI⟩ hL hdep hcl K hK
          go_simp
          exact hK _ _ ⟨v29, _, v31, v32, v33, v34, v35, v36, v37, v38, v39, rfl, ⟨hI.t0, fun _ => rfl, hI.t2, hI.t3, hI.t4, hI.t5, hI.t6, hI.t7, hI.t8, hI.t9, hI.t10, hI.bw, hI.fin⟩⟩
        · rintro L a wx ⟨v29, v30, v31, v32, v33, v34, v35, v36, v37, v38, v39, rfl, hI⟩ hL hdep hcl K hK
          go_simp
          exact hK _ _ ⟨v29, v30, _, v32, v33, v34, v35, v36, v37, v38, v39, rfl, ⟨hI.t0, hI.t1, fun _ => rfl, hI.t3, hI.t4, hI.t5, hI.t6, hI.t7, hI.t8, hI.t9, hI.t10, hI.bw, hI.fin⟩⟩
        · rintro L a wx ⟨v29, v30, v31, v32, v33, v34, v35, v36, v37, v38, v39, rfl, hI⟩ hL hdep hcl K hK
          go_simp
          exact hK _ _ ⟨v29, v30, v31, _, v33, v34, v35, v36, v37, v38, v39, rfl, ⟨hI.t0, hI.t1, hI.t2, fun _ => rfl, hI.t4, hI.t5, hI.t6, hI.t7, hI.t8, hI.t9, hI.t10, hI.bw, hI.fin⟩⟩
        · rintro L a wx ⟨v29, v30, v31, v32, v33, v34, v35, v36, v37, v38, v39, rfl, hI⟩ hL hdep hcl K hK
          go_simp
          exact hK _ _ ⟨v29, v30, v31, v32, _, v34, v35, v36, v37, v38, v39, rfl, ⟨hI.t0, hI.t1, hI.t2, hI.t3, fun _ => rfl, hI.t5, hI.t6, hI.t7, hI.t8, hI.t9, hI.t10, hI.bw, hI.fin⟩⟩
        · rintro L a wx ⟨v29, v30, v31, v32, v33, v34, v35, v36, v37, v38, v39, rfl, hI⟩ hL hdep hcl K hK
          obtain rfl := hI.t4 (hdep 4 (by decide))
          go_simp
          exact hK _ _ ⟨v29, v30, v31, v32, _, _, v35, v36, v37, v38, v39, rfl, ⟨hI.t0, hI.t1, hI.t2, hI.t3, hI.t4, fun _ => rfl, hI.t6, hI.t7, hI.t8, hI.t9, hI.t10, hI.bw, hI.fin⟩⟩
        · rintro L a wx ⟨v29, v30, v31, v32, v33, v34, v35, v36, v37, v38, v39, rfl, hI⟩ hL hdep hcl K hK
          obtain rfl := hI.t5 (hdep 5 (by decide))
          go_simp
          rw [HWQ.out]
          exact hK _ _ ⟨v29, v30, v31, v32, v33, _, _, v36, v37, v38, v39, rfl, ⟨hI.t0, hI.t1, hI.t2, hI.t3, hI.t4, hI.t5, fun _ => rfl, hI.t7, hI.t8, hI.t9, hI.t10, hI.bw, hI.fin⟩⟩
        · rintro L a wx ⟨v29, v30, v31, v32, v33, v34, v35, v36, v37, v38, v39, rfl, hI⟩ hL hdep hcl K hK
          obtain rfl := hI.t3 (hdep 3 (by decide))
          obtain rfl := hI.t6 (hdep 6 (by decide))
          go_simp
          exact hK _ _ ⟨v29, v30, v31, _, v33, v34, _, _, v37, v38, v39, rfl, ⟨hI.t0, hI.t1, hI.t2, hI.t3, hI.t4, hI.t5, hI.t6, fun _ => rfl, hI.t8, hI.t9, hI.t10, hI.bw, hI.fin⟩⟩
        · rintro L a wx ⟨v29, v30, v31, v32, v33, v34, v35, v36, v37, v38, v39, rfl, hI⟩ hL hdep hcl K hK
          obtain rfl := hI.t0 (hdep 0 (by decide))
          obtain rfl := hI.t1 (hdep 1 (by decide))
          obtain rfl := hI.t2 (hdep 2 (by decide))
          obtain rfl := hI.t7 (hdep 7 (by decide))
          have HC := HX.out wx (HB.out.trans ((hI.bw (by cases hq : L 11 with | false => rfl | true => have h4 := (hcl 10 (by decide) (hcl 11 (by decide) hq 10 (by decide)) 8 (by decide)); rw [hL] at h4; cases h4)).mono Z5.out))
          go_simp
          refine HC.mono ?_
          rintro e w' ⟨rfl, hb⟩
          exact hK _ _ ⟨_, _, _, v32, v33, v34, v35, _, _, v38, v39, rfl, ⟨hI.t0, hI.t1, hI.t2, hI.t3, hI.t4, hI.t5, hI.t6, hI.t7, fun _ => rfl, hI.t9, hI.t10, fun h => ((hI.bw) h).trans (hb.mono ((hI.bw) h).size), fun h => absurd (show L 11 = true from h) (by rw [show L 11 = false from (by cases hq : L 11 with | false => rfl | true => have h4 := (hcl 10 (by decide) (hcl 11 (by decide) hq 10 (by decide)) 8 (by decide)); rw [hL] at h4; cases h4)]; decide)⟩⟩
        · rintro L a wx ⟨v29, v30, v31, v32, v33, v34, v35, v36, v37, v38, v39, rfl, hI⟩ hL hdep hcl K hK
          refine ow_load 41 _ rfl g11 0 rfl 41 (bvs y) (bvs y) (HA11.out wx (hI.bw (by cases hq : L 11 with | false => rfl | true => have h4 := (hcl 10 (by decide) (hcl 11 (by decide) hq 10 (by decide)) 9 (by decide)); rw [hL] at h4; cases h4))) (fun j v h => by rw [Nat.zero_add]; exact h) (.array 32 5) Try.underlying41 rfl h32y.out ?_
          exact hK _ _ ⟨v29, v30, v31, v32, v33, v34, v35, v36, v37, _, v39, rfl, ⟨hI.t0, hI.t1, hI.t2, hI.t3, hI.t4, hI.t5, hI.t6, hI.t7, hI.t8, fun _ => rfl, hI.t10, hI.bw, hI.fin⟩⟩
        · rintro L a wx ⟨v29, v30, v31, v32, v33, v34, v35, v36, v37, v38, v39, rfl, hI⟩ hL hdep hcl K hK
          obtain rfl := hI.t8 (hdep 8 (by decide))
          obtain rfl := hI.t9 (hdep 9 (by decide))
          have HC := HN.out wx
          go_simp
          refine HC.mono ?_
          rintro e w' ⟨rfl, hb⟩
          exact hK _ _ ⟨v29, v30, v31, v32, v33, v34, v35, v36, _, _, _, rfl, ⟨hI.t0, hI.t1, hI.t2, hI.t3, hI.t4, hI.t5, hI.t6, hI.t7, hI.t8, hI.t9, fun _ => rfl, fun h => ((hI.bw) h).trans (hb.mono ((hI.bw) h).size), fun h => absurd (show L 11 = true from h) (by rw [show L 11 = false from (by cases hq : L 11 with | false => rfl | true => have h4 := (hcl 11 (by decide) hq 10 (by decide)); rw [hL] at h4; cases h4)]; decide)⟩⟩
        · rintro L a wx ⟨v29, v30, v31, v32, v33, v34, v35, v36, v37, v38, v39, rfl, hI⟩ hL hdep hcl K hK
          obtain rfl := hI.t10 (hdep 10 (by decide))
          refine ow_store 41 _ _ rfl g8 0 rfl (bvs S) rfl 41 _ (HA8.out wx (hI.bw hL)) h32S.out (by rw [hS32.out]; exact (by decide : 0 + 32 ≤ (bvs (Z8 32)).length)) (bvs_one _) ?_
          intro w' hA' hg' hs'
          rw [whole_store _ _ (by rw [hS32.out]; rfl)] at hA'
          have hbw := hI.bw hL
          exact hK _ _ ⟨v29, v30, v31, v32, v33, v34, v35, v36, v37, v38, _, rfl, ⟨hI.t0, hI.t1, hI.t2, hI.t3, hI.t4, hI.t5, hI.t6, hI.t7, hI.t8, hI.t9, hI.t10, fun h => (nomatch (show true = false from h)), fun _ => ⟨wx, hbw, hA', hg'⟩⟩⟩
        · rintro a wx ⟨v29, v30, v31, v32, v33, v34, v35, v36, v37, v38, v39, rfl, hI⟩
          obtain ⟨wy, hw, A8', hg⟩ := hI.fin rfl
          clear hI
          go_wp2_with fail
          refine end_cell rfl g8 41 (bvs S) (.array 32 5) rfl A8' Try.underlying41 rfl h32S.out rfl ⟨rfl, ?_⟩
          have h1 := HB.out.trans (hw.mono Z5.out)
          exact h1.grown hg (by have := h1.size; omega) (by intro k e; injection e with e; have := H08.out; omega)
      · have hIH := fun w' (hb : Below w.heap.size w w') => ih (n - k) (by omega) (n - k) (i - k) (Nat.le_refl _) (by omega) (by omega) (by omega) (some ⟨pb, po, none⟩) q c P.dropLast w' (hPd.to hb) (by
          rw [rgF_high i n 0 (by omega) (by omega), List.length_append, ← hk, rg_len_s (n - k) (n - k) (i - k) (0 + k) 0 (Nat.le_refl _)] at hm
          simpa using hm)
        rw [headF_high d i n P (by omega) (by omega), hyq, ← hk]
        rw [← hk] at HS
        rw [show ((i - k : Nat) : Int) = (i : Int) - (k : Int) by omega, show ((n - k : Nat) : Int) = (n : Int) - (k : Int) by omega] at hIH
        have hXl := head_len (n - k) d (i - k) (n - k) P.dropLast (Nat.le_refl _) hd
        have HX := Lib.hid hIH
        obtain ⟨X, hX⟩ : ∃ X, X = headF d (i - k) (n - k) P.dropLast := ⟨_, rfl⟩
        rw [← hX] at HX hXl ⊢
        have HN := Lib.hid (fun w => rNode_any y X w hyl hXl)
        have hSl : (nodeH y X).length = 32 := shaL_len _
        obtain ⟨S, hS⟩ : ∃ S, S = nodeH y X := ⟨_, rfl⟩
        rw [← hS] at HN hSl ⊢
        have hc : ¬ ((i : Int) < (k : Int)) := by omega
        have hki : (k : Int) ≤ (i : Int) := by omega
        have hkn : (k : Int) ≤ (n : Int) := by omega
        have HWI : Hid (IntKind.u64.wrap ((i : Int) - (k : Int)) = (i : Int) - (k : Int)) := by show _ = _; rw [IntKind.wrap_u64]; omega
        have HWN : Hid (IntKind.u64.wrap ((n : Int) - (k : Int)) = (n : Int) - (k : Int)) := by show _ = _; rw [IntKind.wrap_u64]; omega
        have h32S : Hid ((Try.prog.info? 41).map (·.size) = some (bvs S).length) := by show _ = _; rw [bvs_len, hSl]; exact sizeD
        have hS32 : Hid ((bvs S).length = 32) := by show _ = _; rw [bvs_len]; exact hSl
        clear ih hN hIH hX hS hXl hSl hyl hyq hy hPd hm hm20 hq1 hlP hP hk b1 b2 b3 hlt hn1 h1 hi h20
        go_enter Try.func28, Try.ntmps28
        go_upto_region 7 with (first
          | ((with_reducible show wpList _ _ _ (⟨some 4, .box _ _, _, _, _, _⟩ :: _) _ _); refine wl_box rfl 41 _ rfl (bvs d) rfl ?_; intro w1 hA1 hb1 hs1)
          | ((with_reducible show wpList _ _ _ (⟨some 8, .alloc _, _, _, _, _⟩ :: _) _ _); refine wl_alloc rfl 41 rfl (bvs (Z8 32)) 32 infoD ?_; intro w2 hA2 hb2 hs2)
          | (go_at_call 32; refine (HS.out _).mono ?_; rintro e w3 ⟨rfl, hw3⟩; obtain rfl := hw3.symm)
          | ((with_reducible show wpList _ _ _ (⟨some 25, .load _ _, _, _, _, _⟩ :: _) _ _); refine wpList_load_mid rfl 41 _ rfl pb (po + q * 32) rfl (bvs y) (.array 32 5) (fun j v hj => ((hb1.trans (hb2.mono hb1.size)).cell (p := ⟨pb, po + q * 32 + j, none⟩) hpbl).trans (hPr j v hj)) Try.underlying41 rfl h32y.out ?_)
          | ((with_reducible show wpList _ _ _ (⟨some 11, .alloc _, _, _, _, _⟩ :: _) _ _); refine wl_alloc rfl 41 rfl (bvs (Z8 32)) 32 infoD ?_; intro w4 hA4 hb4 hs4)
          | ((with_reducible show wpList _ _ _ (⟨none, .store _ _ _, _, _, _, _⟩ :: _) _ _); refine wl_store rfl 41 _ _ rfl w2.heap.size 0 rfl (bvs y) rfl 41 _ hA4 h32y.out (by rw [hy32.out]; exact (by decide : 0 + 32 ≤ (bvs (Z8 32)).length)) (bvs_one _) ?_; intro w5 hA5 hg5 hs5))
        rw [whole_store _ _ (by rw [hy32.out]; rfl)] at hA5
        have z1 := hb1.size
        have z2 := hb2.size
        have z4 := hb4.size
        have b25 : Below w2.heap.size w2 w5 := hb4.grown hg5 z4 (by intro k e; injection e with e; omega)
        have b05 : Below w.heap.size w w5 := (hb1.trans (hb2.mono z1)).trans (b25.mono (by omega))
        have A4 : Arr w5 w.heap.size 41 (bvs d) := (hA1.kept hb2).kept b25
        have A8 : Arr w5 w1.heap.size 41 (bvs (Z8 32)) := hA2.kept b25
        have z5 := b05.size
        obtain ⟨g4, hg4⟩ : ∃ g, g = w.heap.size := ⟨_, rfl⟩
        obtain ⟨g8, hg8⟩ : ∃ g, g = w1.heap.size := ⟨_, rfl⟩
        obtain ⟨g11, hg11⟩ : ∃ g, g = w2.heap.size := ⟨_, rfl⟩
        have h48 : g4 ≠ g8 := by omega
        have h118 : g11 ≠ g8 := by omega
        have h08 : w.heap.size ≤ g8 := by omega
        have h8l : g8 < w5.heap.size := by rw [hg8]; exact A8.lt
        have h4l : g4 < w5.heap.size := by rw [hg4]; exact A4.lt
        go_simp
        rw [← hg4, ← hg8, ← hg11]
        rw [← hg4] at A4
        rw [← hg8] at A8
        rw [← hg11] at hA5
        have HB := Lib.hid b05
        have H48 := Lib.hid h48
        have H118 := Lib.hid h118
        have H08 := Lib.hid h08
        have Z5 := Lib.hid z5
        have HA4 : Hid (∀ wx, Below w5.heap.size w5 wx → Arr wx g4 41 (bvs d)) := fun wx hb => A4.kept hb
        have HA11 : Hid (∀ wx, Below w5.heap.size w5 wx → Arr wx g11 41 (bvs y)) := fun wx hb => hA5.kept hb
        have HA8 : Hid (∀ wx, Below w5.heap.size w5 wx → Arr wx g8 41 (bvs (Z8 32))) := fun wx hb => A8.kept hb
        clear hA1 hA2 hA4 hb1 hb2 hb4 hs1 hs2 hs4 hs5 hg5 b25 b05 A4 A8 hA5 z1 z2 z4 z5 hg4 hg8 hg11 h48 h118 h08 hPr hpbl h8l h4l
        refine wp_region_steps [[], [], [], [], [2, 3], [], [], [5, 6], [], [], [9], [10], [8, 11], [1, 4, 7, 12], [0, 13], [14]] (by kernel_rfl) (by kernel_rfl) (fun L a wx => ∃ v40 v41 v42 v43 v44 v45 v46 v47 v48 v49 v50 v51 v52 v53 v54, a = ⟨#[.agg (bvs d).toArray, .int .u64 ↑i, .int .u64 ↑n, .slice (some ⟨pb, po, none⟩) (q + 1) c, .pointer (some ⟨g4, 0, none⟩), undef, undef, undef, .pointer (some ⟨g8, 0, none⟩), .int .u64 ↑k, .int .i64 0, .pointer (some ⟨g11, 0, none⟩), .int .u64 ↑n, .bool false, undef, .tuple #[.int .u64 ↑k, .int .i64 0], .int .u64 ↑n, .tuple #[.int .u64 ↑k, .int .i64 0], .int .u64 ↑k, .int .i64 0, .slice (some ⟨pb, po, none⟩) (q + 1) c, .slice (some ⟨pb, po, none⟩) (q + 1) c, .int .i64 (↑q + 1), .int .i64 ↑q, .pointer (some ⟨pb, po + q * 32, none⟩), .agg (bvs y).toArray, .int .u64 ↑i, .int .u64 ↑k, .bool false, undef, undef, undef, undef, undef, undef, undef, undef, undef, undef, undef, v40, v41, v42, v43, v44, v45, v46, v47, v48, v49, v50, v51, v52, v53, v54], []⟩ ∧ InvHead7 d X y S i n k q pb po c g4 g8 g11 w5 L v40 v41 v42 v43 v44 v45 v46 v47 v48 v49 v50 v51 v52 v53 v54 wx) ?_ ⟨?_, ?_, ?_, ?_, ?_, ?_, ?_, ?_, ?_, ?_, ?_, ?_, ?_, ?_, ?_, ?_, trivial⟩ ?_
        · refine ⟨_, _, _, _, _, _, _, _, _, _, _, _, _, _, _, rfl, ⟨?_, ?_, ?_, ?_, ?_, ?_, ?_, ?_, ?_, ?_, ?_, ?_, ?_, ?_, ?_, fun _ => (Below.refl _ _).drew, fun h => absurd h (by decide)⟩⟩ <;> (intro h; exact absurd h (by decide))
        · rintro L a wx ⟨v40, v41, v42, v43, v44, v45, v46, v47, v48, v49, v50, v51, v52, v53, v54, rfl, hI⟩ hL hdep hcl K hK
          refine ow_load 41 _ rfl g11 0 rfl 41 (bvs y) (bvs y) (HA11.out wx (hI.bw (by cases hq : L 15 with | false => rfl | true => have h4 := (hcl 14 (by decide) (hcl 15 (by decide) hq 14 (by decide)) 0 (by decide)); rw [hL] at h4; cases h4))) (fun j v h => by rw [Nat.zero_add]; exact h) (.array 32 5) Try.underlying41 rfl h32y.out ?_
          exact hK _ _ ⟨_, v41, v42, v43, v44, v45, v46, v47, v48, v49, v50, v51, v52, v53, v54, rfl, ⟨fun _ => rfl, hI.t1, hI.t2, hI.t3, hI.t4, hI.t5, hI.t6, hI.t7, hI.t8, hI.t9, hI.t10, hI.t11, hI.t12, hI.t13, hI.t14, hI.bw, hI.fin⟩⟩
        · rintro L a wx ⟨v40, v41, v42, v43, v44, v45, v46, v47, v48, v49, v50, v51, v52, v53, v54, rfl, hI⟩ hL hdep hcl K hK
          refine ow_load 41 _ rfl g4 0 rfl 41 (bvs d) (bvs d) (HA4.out wx (hI.bw (by cases hq : L 15 with | false => rfl | true => have h4 := (hcl 13 (by decide) (hcl 14 (by decide) (hcl 15 (by decide) hq 14 (by decide)) 13 (by decide)) 1 (by decide)); rw [hL] at h4; cases h4))) (fun j v h => by rw [Nat.zero_add]; exact h) (.array 32 5) Try.underlying41 rfl h32d.out ?_
          exact hK _ _ ⟨v40, _, v42, v43, v44, v45, v46, v47, v48, v49, v50, v51, v52, v53, v54, rfl, ⟨hI.t0, fun _ => rfl, hI.t2, hI.t3, hI.t4, hI.t5, hI.t6, hI.t7, hI.t8, hI.t9, hI.t10, hI.t11, hI.t12, hI.t13, hI.t14, hI.bw, hI.fin⟩⟩
        · rintro L a wx ⟨v40, v41, v42, v43, v44, v45, v46, v47, v48, v49, v50, v51, v52, v53, v54, rfl, hI⟩ hL hdep hcl K hK
          go_simp
          exact hK _ _ ⟨v40, v41, _, v43, v44, v45, v46, v47, v48, v49, v50, v51, v52, v53, v54, rfl, ⟨hI.t0, hI.t1, fun _ => rfl, hI.t3, hI.t4, hI.t5, hI.t6, hI.t7, hI.t8, hI.t9, hI.t10, hI.t11, hI.t12, hI.t13, hI.t14, hI.bw, hI.fin⟩⟩
        · rintro L a wx ⟨v40, v41, v42, v43, v44, v45, v46, v47, v48, v49, v50, v51, v52, v53, v54, rfl, hI⟩ hL hdep hcl K hK
          go_simp
          exact hK _ _ ⟨v40, v41, v42, _, v44, v45, v46, v47, v48, v49, v50, v51, v52, v53, v54, rfl, ⟨hI.t0, hI.t1, hI.t2, fun _ => rfl, hI.t4, hI.t5, hI.t6, hI.t7, hI.t8, hI.t9, hI.t10, hI.t11, hI.t12, hI.t13, hI.t14, hI.bw, hI.fin⟩⟩
        · rintro L a wx ⟨v40, v41, v42, v43, v44, v45, v46, v47, v48, v49, v50, v51, v52, v53, v54, rfl, hI⟩ hL hdep hcl K hK
          obtain rfl := hI.t2 (hdep 2 (by decide))
          obtain rfl := hI.t3 (hdep 3 (by decide))
          go_simp
          rw [HWI.out]
          exact hK _ _ ⟨v40, v41, _, _, _, v45, v46, v47, v48, v49, v50, v51, v52, v53, v54, rfl, ⟨hI.t0, hI.t1, hI.t2, hI.t3, fun _ => rfl, hI.t5, hI.t6, hI.t7, hI.t8, hI.t9, hI.t10, hI.t11, hI.t12, hI.t13, hI.t14, hI.bw, hI.fin⟩⟩
        · rintro L a wx ⟨v40, v41, v42, v43, v44, v45, v46, v47, v48, v49, v50, v51, v52, v53, v54, rfl, hI⟩ hL hdep hcl K hK
          go_simp
          exact hK _ _ ⟨v40, v41, v42, v43, v44, _, v46, v47, v48, v49, v50, v51, v52, v53, v54, rfl, ⟨hI.t0, hI.t1, hI.t2, hI.t3, hI.t4, fun _ => rfl, hI.t6, hI.t7, hI.t8, hI.t9, hI.t10, hI.t11, hI.t12, hI.t13, hI.t14, hI.bw, hI.fin⟩⟩
        · rintro L a wx ⟨v40, v41, v42, v43, v44, v45, v46, v47, v48, v49, v50, v51, v52, v53, v54, rfl, hI⟩ hL hdep hcl K hK
          go_simp
          exact hK _ _ ⟨v40, v41, v42, v43, v44, v45, _, v47, v48, v49, v50, v51, v52, v53, v54, rfl, ⟨hI.t0, hI.t1, hI.t2, hI.t3, hI.t4, hI.t5, fun _ => rfl, hI.t7, hI.t8, hI.t9, hI.t10, hI.t11, hI.t12, hI.t13, hI.t14, hI.bw, hI.fin⟩⟩
        · rintro L a wx ⟨v40, v41, v42, v43, v44, v45, v46, v47, v48, v49, v50, v51, v52, v53, v54, rfl, hI⟩ hL hdep hcl K hK
          obtain rfl := hI.t5 (hdep 5 (by decide))
          obtain rfl := hI.t6 (hdep 6 (by decide))
          go_simp
          rw [HWN.out]
          exact hK _ _ ⟨v40, v41, v42, v43, v44, _, _, _, v48, v49, v50, v51, v52, v53, v54, rfl, ⟨hI.t0, hI.t1, hI.t2, hI.t3, hI.t4, hI.t5, hI.t6, fun _ => rfl, hI.t8, hI.t9, hI.t10, hI.t11, hI.t12, hI.t13, hI.t14, hI.bw, hI.fin⟩⟩
        · rintro L a wx ⟨v40, v41, v42, v43, v44, v45, v46, v47, v48, v49, v50, v51, v52, v53, v54, rfl, hI⟩ hL hdep hcl K hK
          go_simp
          exact hK _ _ ⟨v40, v41, v42, v43, v44, v45, v46, v47, _, v49, v50, v51, v52, v53, v54, rfl, ⟨hI.t0, hI.t1, hI.t2, hI.t3, hI.t4, hI.t5, hI.t6, hI.t7, fun _ => rfl, hI.t9, hI.t10, hI.t11, hI.t12, hI.t13, hI.t14, hI.bw, hI.fin⟩⟩
        · rintro L a wx ⟨v40, v41, v42, v43, v44, v45, v46, v47, v48, v49, v50, v51, v52, v53, v54, rfl, hI⟩ hL hdep hcl K hK
          go_simp
          exact hK _ _ ⟨v40, v41, v42, v43, v44, v45, v46, v47, v48, _, v50, v51, v52, v53, v54, rfl, ⟨hI.t0, hI.t1, hI.t2, hI.t3, hI.t4, hI.t5, hI.t6, hI.t7, hI.t8, fun _ => rfl, hI.t10, hI.t11, hI.t12, hI.t13, hI.t14, hI.bw, hI.fin⟩⟩
        · rintro L a wx ⟨v40, v41, v42, v43, v44, v45, v46, v47, v48, v49, v50, v51, v52, v53, v54, rfl, hI⟩ hL hdep hcl K hK
          obtain rfl := hI.t9 (hdep 9 (by decide))
          go_simp
          exact hK _ _ ⟨v40, v41, v42, v43, v44, v45, v46, v47, v48, _, _, v51, v52, v53, v54, rfl, ⟨hI.t0, hI.t1, hI.t2, hI.t3, hI.t4, hI.t5, hI.t6, hI.t7, hI.t8, hI.t9, fun _ => rfl, hI.t11, hI.t12, hI.t13, hI.t14, hI.bw, hI.fin⟩⟩
        · rintro L a wx ⟨v40, v41, v42, v43, v44, v45, v46, v47, v48, v49, v50, v51, v52, v53, v54, rfl, hI⟩ hL hdep hcl K hK
          obtain rfl := hI.t10 (hdep 10 (by decide))
          go_simp
          rw [HWQ.out]
          exact hK _ _ ⟨v40, v41, v42, v43, v44, v45, v46, v47, v48, v49, _, _, v52, v53, v54, rfl, ⟨hI.t0, hI.t1, hI.t2, hI.t3, hI.t4, hI.t5, hI.t6, hI.t7, hI.t8, hI.t9, hI.t10, fun _ => rfl, hI.t12, hI.t13, hI.t14, hI.bw, hI.fin⟩⟩
        · rintro L a wx ⟨v40, v41, v42, v43, v44, v45, v46, v47, v48, v49, v50, v51, v52, v53, v54, rfl, hI⟩ hL hdep hcl K hK
          obtain rfl := hI.t8 (hdep 8 (by decide))
          obtain rfl := hI.t11 (hdep 11 (by decide))
          go_simp
          exact hK _ _ ⟨v40, v41, v42, v43, v44, v45, v46, v47, _, v49, v50, _, _, v53, v54, rfl, ⟨hI.t0, hI.t1, hI.t2, hI.t3, hI.t4, hI.t5, hI.t6, hI.t7, hI.t8, hI.t9, hI.t10, hI.t11, fun _ => rfl, hI.t13, hI.t14, hI.bw, hI.fin⟩⟩
        · rintro L a wx ⟨v40, v41, v42, v43, v44, v45, v46, v47, v48, v49, v50, v51, v52, v53, v54, rfl, hI⟩ hL hdep hcl K hK
          obtain rfl := hI.t1 (hdep 1 (by decide))
          obtain rfl := hI.t4 (hdep 4 (by decide))
          obtain rfl := hI.t7 (hdep 7 (by decide))
          obtain rfl := hI.t12 (hdep 12 (by decide))
          have HC := HX.out wx (HB.out.trans ((hI.bw (by cases hq : L 15 with | false => rfl | true => have h4 := (hcl 14 (by decide) (hcl 15 (by decide) hq 14 (by decide)) 13 (by decide)); rw [hL] at h4; cases h4)).mono Z5.out))
          go_simp
          refine HC.mono ?_
          rintro e w' ⟨rfl, hb⟩
          exact hK _ _ ⟨v40, _, v42, v43, _, v45, v46, _, v48, v49, v50, v51, _, _, v54, rfl, ⟨hI.t0, hI.t1, hI.t2, hI.t3, hI.t4, hI.t5, hI.t6, hI.t7, hI.t8, hI.t9, hI.t10, hI.t11, hI.t12, fun _ => rfl, hI.t14, fun h => ((hI.bw) h).trans (hb.mono ((hI.bw) h).size), fun h => absurd (show L 15 = true from h) (by rw [show L 15 = false from (by cases hq : L 15 with | false => rfl | true => have h4 := (hcl 14 (by decide) (hcl 15 (by decide) hq 14 (by decide)) 13 (by decide)); rw [hL] at h4; cases h4)]; decide)⟩⟩
        · rintro L a wx ⟨v40, v41, v42, v43, v44, v45, v46, v47, v48, v49, v50, v51, v52, v53, v54, rfl, hI⟩ hL hdep hcl K hK
          obtain rfl := hI.t0 (hdep 0 (by decide))
          obtain rfl := hI.t13 (hdep 13 (by decide))
          have HC := HN.out wx
          go_simp
          refine HC.mono ?_
          rintro e w' ⟨rfl, hb⟩
          exact hK _ _ ⟨_, v41, v42, v43, v44, v45, v46, v47, v48, v49, v50, v51, v52, _, _, rfl, ⟨hI.t0, hI.t1, hI.t2, hI.t3, hI.t4, hI.t5, hI.t6, hI.t7, hI.t8, hI.t9, hI.t10, hI.t11, hI.t12, hI.t13, fun _ => rfl, fun h => ((hI.bw) h).trans (hb.mono ((hI.bw) h).size), fun h => absurd (show L 15 = true from h) (by rw [show L 15 = false from (by cases hq : L 15 with | false => rfl | true => have h4 := (hcl 15 (by decide) hq 14 (by decide)); rw [hL] at h4; cases h4)]; decide)⟩⟩
        · rintro L a wx ⟨v40, v41, v42, v43, v44, v45, v46, v47, v48, v49, v50, v51, v52, v53, v54, rfl, hI⟩ hL hdep hcl K hK
          obtain rfl := hI.t14 (hdep 14 (by decide))
          refine ow_store 41 _ _ rfl g8 0 rfl (bvs S) rfl 41 _ (HA8.out wx (hI.bw hL)) h32S.out (by rw [hS32.out]; exact (by decide : 0 + 32 ≤ (bvs (Z8 32)).length)) (bvs_one _) ?_
          intro w' hA' hg' hs'
          rw [whole_store _ _ (by rw [hS32.out]; rfl)] at hA'
          have hbw := hI.bw hL
          exact hK _ _ ⟨v40, v41, v42, v43, v44, v45, v46, v47, v48, v49, v50, v51, v52, v53, _, rfl, ⟨hI.t0, hI.t1, hI.t2, hI.t3, hI.t4, hI.t5, hI.t6, hI.t7, hI.t8, hI.t9, hI.t10, hI.t11, hI.t12, hI.t13, hI.t14, fun h => (nomatch (show true = false from h)), fun _ => ⟨wx, hbw, hA', hg'⟩⟩⟩
        · rintro a wx ⟨v40, v41, v42, v43, v44, v45, v46, v47, v48, v49, v50, v51, v52, v53, v54, rfl, hI⟩
          obtain ⟨wy, hw, A8', hg⟩ := hI.fin rfl
          clear hI
          go_wp2_with fail
          refine end_cell rfl g8 41 (bvs S) (.array 32 5) rfl A8' Try.underlying41 rfl h32S.out rfl ⟨rfl, ?_⟩
          have h1 := HB.out.trans (hw.mono Z5.out)
          exact h1.grown hg (by have := h1.size; omega) (by intro k e; injection e with e; have := H08.out; omega)
end Go.Proofs.Ytbmhobbeimhodaa
