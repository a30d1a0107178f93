/-
  Layer 8: the chapter's rows. Conditions: those in each statement.
-/
import Derived.Test.YtpnhflpajccbbaaMkS
namespace Go.Proofs.Ytpnhflpajccbbaa
open Go.RowKit

theorem cell_grown {w w' : World} {r : Option Nat} {p : Addr} (hg : w.grownBy w' r) (hp : p.block < w.heap.size) (hr : some p.block ≠ r) : w'.cell? p = w.cell? p := World.cell?_of_block (hg.block p.block hp hr)
theorem rdd_grown {w w' : World} {g n c : Nat} {b : Nat} {L : List (List UInt8)} (h : RdD w (some ⟨b, 0, none⟩) n c L) (hg : w.grownBy w' (some g)) (hne : b ≠ g) : RdD w' (some ⟨b, 0, none⟩) n c L := by
  refine ⟨h.len, h.le, h.all, h.nil, fun h0 => ?_⟩
  obtain ⟨b', off, e, hlt, hc⟩ := h.mem h0
  injection e with e
  injection e with e1 e2
  subst e1 e2
  exact ⟨_, _, rfl, Nat.lt_of_lt_of_le hlt hg.size, fun k hk j hj => (cell_grown hg hlt (by intro e; injection e with e; exact hne e)).trans (hc k hk j hj)⟩
structure InvWakes (HA HB HC NBC NAB NR SZ : List UInt8) (g1 g2 g3 g4 g5 g7 gm cm mc : Nat) (ma : Option Addr) (wb : World) (L : Nat → Bool) (v : Nat → Value) (wx : World) : Prop where
  t0 : L 0 = true → (v 35) = .agg (bvs HA).toArray
  t1 : L 1 = true → ∃ g, (v 36) = .slice (some ⟨g, 0, none⟩) 2 2 ∧ LitB wx g [0, 97] ∧ wb.heap.size ≤ g
  t2 : L 2 = true → ∃ g, (v 37) = .slice (some ⟨g, 0, none⟩) 2 2 ∧ LitB wx g [0, 97]
  t3 : L 3 = true → (v 38) = .agg (bvs HA).toArray
  t4 : L 4 = true → (v 39) = .bool true
  t5 : L 5 = true → (v 40) = .bool true
  t6 : L 6 = true → (v 41) = .agg (bvs SZ).toArray
  t7 : L 7 = true → (v 42) = .agg (bvs SZ).toArray
  t8 : L 8 = true → (v 43) = .bool true
  t9 : L 9 = true → (v 44) = .bool true
  t10 : L 10 = true → (v 45) = .bool true
  t11 : L 11 = true → (v 46) = .slice (some ⟨g4, 0, none⟩) 3 3
  t12 : L 12 = true → (v 47) = .slice (some ⟨g4, 0, none⟩) 1 3
  t13 : L 13 = true → (v 48) = .agg (bvs HA).toArray
  t14 : L 14 = true → (v 49) = .agg (bvs HA).toArray
  t15 : L 15 = true → (v 50) = .bool true
  t16 : L 16 = true → (v 51) = .bool true
  t17 : L 17 = true → (v 52) = .bool true
  t18 : L 18 = true → (v 53) = .slice (some ⟨g4, 0, none⟩) 3 3
  t19 : L 19 = true → (v 54) = .agg (bvs NR).toArray
  t20 : L 20 = true → (v 55) = .agg (bvs HA).toArray
  t21 : L 21 = true → (v 56) = .agg (bvs HB).toArray
  t22 : L 22 = true → (v 57) = .agg (bvs NAB).toArray
  t23 : L 23 = true → (v 58) = .agg (bvs HC).toArray
  t24 : L 24 = true → (v 59) = .agg (bvs NR).toArray
  t25 : L 25 = true → (v 60) = .bool true
  t26 : L 26 = true → (v 61) = .bool true
  t27 : L 27 = true → (v 62) = .bool true
  t28 : L 28 = true → (v 63) = .agg (bvs NBC).toArray
  t29 : L 29 = true → (v 64) = .agg (bvs HB).toArray
  t30 : L 30 = true → (v 65) = .agg (bvs HC).toArray
  t31 : L 31 = true → (v 66) = .agg (bvs NBC).toArray
  t32 : L 32 = true → (v 67) = .bool true
  t33 : L 33 = true → (v 68) = .bool true
  t34 : L 34 = true → (v 69) = .bool true
  t35 : L 35 = true → (v 70) = .int .i64 0
  t36 : L 36 = true → (v 71) = .bool true
  t37 : L 37 = true → (v 72) = .bool true
  t38 : L 38 = true → (v 73) = .bool true
  t39 : L 39 = true → (v 74) = .int .i64 1
  t40 : L 40 = true → (v 75) = .bool true
  t41 : L 41 = true → (v 76) = .bool true
  t42 : L 42 = true → (v 77) = .bool true
  t43 : L 43 = true → (v 78) = .slice (some ⟨gm, 0, none⟩) 2 cm
  t44 : L 44 = true → (v 79) = .int .i64 2
  t45 : L 45 = true → (v 80) = .bool true
  t46 : L 46 = true → (v 81) = .bool true
  t47 : L 47 = true → (v 82) = .bool true
  t48 : L 48 = true → (v 83) = .slice (some ⟨gm, 0, none⟩) 2 cm
  t49 : L 49 = true → (v 84) = .pointer (some ⟨gm, 1, none⟩)
  t50 : L 50 = true → (v 85) = .slice ma 1 mc
  t51 : L 51 = true → (v 86) = .int .i64 1
  t52 : L 52 = true → (v 87) = .bool true
  t53 : L 53 = true → (v 88) = .bool true
  t54 : L 54 = true → (v 89) = .bool true
  t55 : L 55 = true → (v 90) = .agg (bvs HA).toArray
  t56 : L 56 = true → (v 91) = .agg (bvs HB).toArray
  t57 : L 57 = true → (v 92) = .bool true
  t58 : L 58 = true → (v 93) = .bool true
  t59 : L 59 = true → (v 0) = .bool true
  a1 : Arr wx g1 25 (bvs HA)
  a2 : Arr wx g2 25 (bvs HB)
  a3 : Arr wx g3 25 (bvs HC)
  a5 : Arr wx g5 25 (bvs NBC)
  rl : RdD wx (some ⟨g4, 0, none⟩) 3 3 [HA, HB, HC]
  hm : wx.cell? ⟨gm, 1, none⟩ = some (.slice ma 1 mc)
  lm : gm < wb.heap.size
  bw : Below wb.heap.size wb wx


set_option maxRecDepth 100000 in
set_option maxHeartbeats 12800000 in
theorem wakes_any (w : World) : Calls Try.prog 16 #[] w fun e w' => e = .returned (.bool true) ∧ Below w.heap.size w w' := by
  have lA : (leafH [97]).length = 32 := shaL_len _
  have lB : (leafH [98]).length = 32 := shaL_len _
  have lC : (leafH [99]).length = 32 := shaL_len _
  have hne := leaf_ne
  have hLF : ∀ x : UInt8, Hid (∀ w g, LitB w g [x] → Calls Try.prog 17 #[.slice (some ⟨g, 0, none⟩) 1 1] w fun e w' => e = .returned (.agg (bvs (leafH [x])).toArray) ∧ Below w.heap.size w w') := fun x w g h => Leaf_any [x] _ 1 1 w (by omega) h.rd
  have HLA := hLF 97
  have HLB := hLF 98
  have HLC := hLF 99
  have HS0 : Hid (∀ (v : Value) w g, v = .slice (some ⟨g, 0, none⟩) 2 2 → LitB w g [0, 97] → Calls Try.prog 23 #[v] w fun e w' => e = .returned (.agg (bvs (leafH [97])).toArray) ∧ Below w.heap.size w w') := fun v w g e h => by subst e; exact shaSum_any [0, 97] _ 2 2 w (by simp) h.rd
  clear hLF
  generalize leafH [97] = HA at *
  generalize leafH [98] = HB at *
  generalize leafH [99] = HC at *
  have HL3 : Hid (All32 [HA, HB, HC]) := All32.of (by simp [lA, lB, lC])
  have HSub1 : Hid (∀ w g, RdD w (some ⟨g, 0, none⟩) 3 3 [HA, HB, HC] → Calls Try.prog 9 #[.slice (some ⟨g, 0, none⟩) 3 3, .int .i64 1, .int .i64 3] w fun e w' => e = .returned (.tuple #[.agg (bvs (nodeH HB HC)).toArray, .int .i64 0]) ∧ Below w.heap.size w w') := fun w g h => by
    have := Sub_any [HA, HB, HC] _ 3 3 1 3 w (by omega) h
    rw [sub_13, sube_13] at this
    exact this
  have HSub2 : Hid (∀ w g, RdD w (some ⟨g, 0, none⟩) 3 3 [HA, HB, HC] → Calls Try.prog 9 #[.slice (some ⟨g, 0, none⟩) 3 3, .int .i64 1, .int .i64 1] w fun e w' => e = .returned (.tuple #[.agg (bvs (Z8 32)).toArray, .int .i64 1]) ∧ Below w.heap.size w w') := fun w g h => by
    have := Sub_any [HA, HB, HC] _ 3 3 1 1 w (by omega) h
    rw [sub_11, sube_11] at this
    exact this
  have HLev : Hid (∀ w g, RdD w (some ⟨g, 0, none⟩) 3 3 [HA, HB, HC] → Calls Try.prog 13 #[.slice (some ⟨g, 0, none⟩) 3 3] w fun e w' => ∃ gm cm ma mc, e = .returned (.slice (some ⟨gm, 0, none⟩) 2 cm) ∧ gm < w'.heap.size ∧ w'.cell? ⟨gm, 1, none⟩ = some (.slice ma 1 mc) ∧ Below w.heap.size w w') := fun w g h => by
    refine (Levels_any [HA, HB, HC] _ 3 3 w (by omega) h).mono ?_
    rintro e w' ⟨v, i, rfl, h1, h2, hS, hb⟩
    rw [three_levs HA HB HC i h1 h2] at hS
    obtain ⟨vs, hrow, hel, -, -⟩ := hS
    obtain ⟨u, hu, ho⟩ := hel 1 (by simp)
    obtain ⟨ma, mc, e1, -⟩ := ho.rd
    have hlt := World.ownsRow.lt hrow
    obtain ⟨-, ⟨rfl, hn⟩ | ⟨gm, cm, cur, rfl, hbb, hg, hnc, hcm, hcs, htk⟩⟩ := hrow
    · simp at hn
    · refine ⟨gm, cm, ma, mc, rfl, (hlt gm rfl).2, ?_, hb⟩
      have h3 : w'.cell? ⟨gm, 1, none⟩ = cur[1]? := by simp [World.cell?, hg]
      rw [h3]
      rw [← htk] at hu
      rw [e1] at hu
      simp at hu
      simpa using hu
  have HNBC : Hid (∀ w, Calls Try.prog 19 #[.agg (bvs HB).toArray, .agg (bvs HC).toArray] w _) := fun w => Node_any HB HC w lB lC
  have HNAB : Hid (∀ w, Calls Try.prog 19 #[.agg (bvs HA).toArray, .agg (bvs HB).toArray] w _) := fun w => Node_any HA HB w lA lB
  have lAB : (nodeH HA HB).length = 32 := shaL_len _
  have lBC : (nodeH HB HC).length = 32 := shaL_len _
  have lR : (nodeH (nodeH HA HB) HC).length = 32 := shaL_len _
  have lS : (shaL []).length = 32 := shaL_len _
  have HNR : Hid (∀ w, Calls Try.prog 19 #[.agg (bvs (nodeH HA HB)).toArray, .agg (bvs HC).toArray] w _) := fun w => Node_any (nodeH HA HB) HC w lAB lC
  have HR0 : Hid (∀ w, Calls Try.prog 11 #[.slice none 0 0] w fun e w' => e = .returned (.agg (bvs (shaL [])).toArray) ∧ Below w.heap.size w w') := fun w => Root_any 0 [] (by simp) none 0 0 w (by omega) (rdd_nil w)
  have HSn : Hid (∀ w, Calls Try.prog 23 #[.slice none 0 0] w fun e w' => e = .returned (.agg (bvs (shaL [])).toArray) ∧ Below w.heap.size w w') := fun w => shaSum_any [] none 0 0 w (by simp) (Rd.none w)
  have HR1 : Hid (∀ w g, RdD w (some ⟨g, 0, none⟩) 3 3 [HA, HB, HC] → Calls Try.prog 11 #[.slice (some ⟨g, 0, none⟩) 1 3] w fun e w' => e = .returned (.agg (bvs HA).toArray) ∧ Below w.heap.size w w') := fun w g h => Root_any 1 [HA] (by simp) _ 1 3 w (by omega) (h.take 1 (by omega))
  have HR3 : Hid (∀ w g, RdD w (some ⟨g, 0, none⟩) 3 3 [HA, HB, HC] → Calls Try.prog 11 #[.slice (some ⟨g, 0, none⟩) 3 3] w fun e w' => e = .returned (.agg (bvs (nodeH (nodeH HA HB) HC)).toArray) ∧ Below w.heap.size w w') := fun w g h => by
    have := Root_any 3 [HA, HB, HC] (by simp) _ 3 3 w (by omega) h
    rw [three_root] at this
    exact this
  generalize nodeH (nodeH HA HB) HC = NR at *
  generalize nodeH HA HB = NAB at *
  generalize nodeH HB HC = NBC at *
  generalize shaL [] = SZ at *
  have s32 : ∀ x : List UInt8, x.length = 32 → (Try.prog.info? 25).map (·.size) = some (bvs x).length := fun x h => by rw [bvs_len, h]; exact sizeD
  have f32 : ∀ x : List UInt8, x.length = 32 → 0 + (bvs x).length ≤ (bvs (Z8 32)).length := fun x h => by rw [bvs_len, h]; exact (by decide : 0 + 32 ≤ (bvs (Z8 32)).length)
  have t32 : ∀ x : List UInt8, x.length = 32 → (bvs (Z8 32)).length = (bvs x).length := fun x h => by rw [bvs_len x, h]; rfl
  have IA := Lib.hid (s32 HA lA)
  have IB := Lib.hid (s32 HB lB)
  have IC := Lib.hid (s32 HC lC)
  have IBC := Lib.hid (s32 NBC lBC)
  have IZ := Lib.hid (s32 (Z8 32) (by simp [Z8]))
  have FA := Lib.hid (f32 HA lA)
  have FB := Lib.hid (f32 HB lB)
  have FC := Lib.hid (f32 HC lC)
  have FBC := Lib.hid (f32 NBC lBC)
  have FZ := Lib.hid (f32 (Z8 32) (by simp [Z8]))
  have TA := Lib.hid (t32 HA lA)
  have TB := Lib.hid (t32 HB lB)
  have TC := Lib.hid (t32 HC lC)
  have TBC := Lib.hid (t32 NBC lBC)
  have QA : Hid (∀ w, _) := fun w => eqSame lA w
  have QS : Hid (∀ w, _) := fun w => eqSame lS w
  have QR : Hid (∀ w, _) := fun w => eqSame lR w
  have QBC : Hid (∀ w, _) := fun w => eqSame lBC w
  have QNE : Hid (∀ w, _) := fun w => neIn lA lB hne w
  have LA := Lib.hid lA
  have LB := Lib.hid lB
  have LC := Lib.hid lC
  clear s32 f32 t32 lA lB lC lAB lBC lR lS hne
  go_enter Try.func16, Try.ntmps16
  go_upto_region 2 with (first
    | ((with_reducible show wpList _ _ _ (⟨some 11, .convert _ _ _, _, _, _, _⟩ :: _) _ _); refine wl_conv rfl (.tmp 10) rfl w.heap.size 1 1 [97] rfl (LitB.new w [97]) ?_; intro wa1 ha1 ga1 sa1)
    | (go_at_call 17; with_reducible refine (HLA.out _ _ ha1).mono ?_; rintro e wa2 ⟨rfl, hba⟩)
    | ((with_reducible show wpList _ _ _ (⟨some 14, .convert _ _ _, _, _, _, _⟩ :: _) _ _); refine wl_conv rfl (.tmp 13) rfl wa2.heap.size 1 1 [98] rfl (LitB.new wa2 [98]) ?_; intro wb1 hb1 gb1 sb1)
    | (go_at_call 17; with_reducible refine (HLB.out _ _ hb1).mono ?_; rintro e wb2 ⟨rfl, hbb⟩)
    | ((with_reducible show wpList _ _ _ (⟨some 17, .convert _ _ _, _, _, _, _⟩ :: _) _ _); refine wl_conv rfl (.tmp 16) rfl wb2.heap.size 1 1 [99] rfl (LitB.new wb2 [99]) ?_; intro wc1 hc1 gc1 sc1)
    | (go_at_call 17; with_reducible refine (HLC.out _ _ hc1).mono ?_; rintro e wc2 ⟨rfl, hbc⟩)
    | ((with_reducible show wpList _ _ _ (⟨some 1, .alloc _, _, _, _, _⟩ :: _) _ _); refine wl_alloc rfl 25 rfl (bvs (Z8 32)) 32 infoD ?_; intro w1 hA1 hb1' hs1)
    | ((with_reducible show wpList _ _ _ (⟨some 2, .alloc _, _, _, _, _⟩ :: _) _ _); refine wl_alloc rfl 25 rfl (bvs (Z8 32)) 32 infoD ?_; intro w2 hA2 hb2' hs2)
    | ((with_reducible show wpList _ _ _ (⟨some 3, .alloc _, _, _, _, _⟩ :: _) _ _); refine wl_alloc rfl 25 rfl (bvs (Z8 32)) 32 infoD ?_; intro w3 hA3 hb3' hs3)
    | ((with_reducible show wpList _ _ _ (⟨none, .store _ (.tmp 1) _, _, _, _, _⟩ :: _) _ _); refine wl_store rfl 25 _ _ rfl wc2.heap.size 0 rfl (bvs HA) rfl 25 _ ((hA1.kept hb2').kept hb3') IA.out FA.out (bvs_one _) ?_; intro w4 hA4 hg4 hs4)
    | ((with_reducible show wpList _ _ _ (⟨none, .store _ (.tmp 2) _, _, _, _, _⟩ :: _) _ _); refine wl_store rfl 25 _ _ rfl w1.heap.size 0 rfl (bvs HB) rfl 25 _ ((hA2.kept hb3').grown hg4 (by intro e; injection e with e; omega)) IB.out FB.out (bvs_one _) ?_; intro w5 hA5 hg5 hs5)
    | ((with_reducible show wpList _ _ _ (⟨none, .store _ (.tmp 3) _, _, _, _, _⟩ :: _) _ _); refine wl_store rfl 25 _ _ rfl w2.heap.size 0 rfl (bvs HC) rfl 25 _ ((hA3.grown hg4 (by intro e; injection e with e; omega)).grown hg5 (by intro e; injection e with e; omega)) IC.out FC.out (bvs_one _) ?_; intro w6 hA6 hg6 hs6))
  rw [whole_store _ _ TA.out] at hA4
  rw [whole_store _ _ TB.out] at hA5
  rw [whole_store _ _ TC.out] at hA6
  have z1 := ga1.size
  have z2 := hba.size
  have z3 := gb1.size
  have z4 := hbb.size
  have z5 := gc1.size
  have z6 := hbc.size
  simp only [World.size_alloc] at z1 z3 z5 sa1 sb1 sc1
  have E1 : Below w.heap.size w wa2 := ((hal w _).grown ga1 (by rw [World.size_alloc]; omega) (by intro k e; injection e with e; omega)).trans (hba.mono (by omega))
  have E2 : Below wa2.heap.size wa2 wb2 := ((hal wa2 _).grown gb1 (by rw [World.size_alloc]; omega) (by intro k e; injection e with e; omega)).trans (hbb.mono (by omega))
  have E3 : Below wb2.heap.size wb2 wc2 := ((hal wb2 _).grown gc1 (by rw [World.size_alloc]; omega) (by intro k e; injection e with e; omega)).trans (hbc.mono (by omega))
  have E : Below w.heap.size w w6 := (((((E1.trans (E2.mono (by omega))).trans (E3.mono (by omega))).trans (hb1'.mono (by omega))).trans (hb2'.mono (by omega))).trans (hb3'.mono (by omega))).grown hg4 (by omega) (by intro k e; injection e with e; omega) |>.grown hg5 (by omega) (by intro k e; injection e with e; omega) |>.grown hg6 (by omega) (by intro k e; injection e with e; omega)
  have A1 := (hA4.grown hg5 (by intro e; injection e with e; omega)).grown hg6 (by intro e; injection e with e; omega)
  have A2 := hA5.grown hg6 (by intro e; injection e with e; omega)
  have A3 := hA6
  obtain ⟨g1, hg1⟩ : ∃ g, wc2.heap.size = g := ⟨_, rfl⟩
  obtain ⟨g2, hg2⟩ : ∃ g, w1.heap.size = g := ⟨_, rfl⟩
  obtain ⟨g3, hg3⟩ : ∃ g, w2.heap.size = g := ⟨_, rfl⟩
  rw [hg1] at A1 ⊢
  rw [hg2] at A2 ⊢
  rw [hg3] at A3 ⊢
  clear hA1 hA2 hA3 hA4 hA5 hA6 hb1' hb2' hb3' hg4 hg5 hg6 hs1 hs2 hs3 hs4 hs5 hs6 E1 E2 E3 hbc hbb hba ha1 hb1 hc1 ga1 gb1 gc1 sa1 sb1 sc1 z1 z2 z3 z4 z5 z6 hg1 hg2 hg3
  go_upto_region 3 with (first
    | ((with_reducible show wpList _ _ _ (⟨some 19, .load _ _, _, _, _, _⟩ :: _) _ _); refine wl_load rfl 25 _ rfl g1 0 rfl 25 (bvs HA) (bvs HA) A1 (fun j v h => (by rw [Nat.zero_add]; exact h)) (.array 32 5) Try.underlying25 rfl IA.out ?_)
    | ((with_reducible show wpList _ _ _ (⟨some 20, .load _ _, _, _, _, _⟩ :: _) _ _); refine wl_load rfl 25 _ rfl g2 0 rfl 25 (bvs HB) (bvs HB) A2 (fun j v h => (by rw [Nat.zero_add]; exact h)) (.array 32 5) Try.underlying25 rfl IB.out ?_)
    | ((with_reducible show wpList _ _ _ (⟨some 21, .load _ _, _, _, _, _⟩ :: _) _ _); refine wl_load rfl 25 _ rfl g3 0 rfl 25 (bvs HC) (bvs HC) A3 (fun j v h => (by rw [Nat.zero_add]; exact h)) (.array 32 5) Try.underlying25 rfl IC.out ?_)
    | ((with_reducible show wpList _ _ _ (⟨some 22, .buildSlice _ _ _, _, _, _, _⟩ :: _) _ _); refine wl_litD3 rfl 19 20 21 rfl HA HB HC LA.out LB.out LC.out rfl rfl rfl ?_; intro w7 hA7 hb7))
  have R4 : RdD w7 (some ⟨w6.heap.size, 0, none⟩) 3 3 [HA, HB, HC] := rdd_arr hA7 HL3.out
  replace A1 := A1.kept hb7
  replace A2 := A2.kept hb7
  replace A3 := A3.kept hb7
  have E7 := E.trans (hb7.mono E.size)
  obtain ⟨g4, hg4⟩ : ∃ g, w6.heap.size = g := ⟨_, rfl⟩
  rw [hg4] at R4 ⊢
  clear hA7 hb7 E hg4
  go_upto_region 4 with (first
    | (go_at_call 9; refine (HSub1.out _ _ R4).mono ?_; rintro e w8 ⟨rfl, hb8⟩)
    | ((with_reducible show wpList _ _ _ (⟨some 5, .alloc _, _, _, _, _⟩ :: _) _ _); refine wl_alloc rfl 25 rfl (bvs (Z8 32)) 32 infoD ?_; intro w9 hA9 hb9 hs9)
    | ((with_reducible show wpList _ _ _ (⟨none, .store _ (.tmp 5) _, _, _, _, _⟩ :: _) _ _); refine wl_store rfl 25 _ _ rfl w8.heap.size 0 rfl (bvs NBC) rfl 25 _ hA9 IBC.out FBC.out (bvs_one _) ?_; intro w10 hA10 hg10 hs10))
  rw [whole_store _ _ TBC.out] at hA10
  have hb10 : Below w7.heap.size w7 w10 := (hb8.trans (hb9.mono hb8.size)).grown hg10 (by have := hb8.size; have := hb9.size; omega) (by intro k e; injection e with e; have := hb8.size; omega)
  replace A1 := A1.kept hb10
  replace A2 := A2.kept hb10
  replace A3 := A3.kept hb10
  replace R4 := R4.to hb10
  have E10 := E7.trans (hb10.mono E7.size)
  obtain ⟨g5, hg5⟩ : ∃ g, w8.heap.size = g := ⟨_, rfl⟩
  rw [hg5] at hA10 ⊢
  clear hb8 hb9 hA9 hg10 hs9 hs10 hb10 E7 hg5
  go_upto_region 5 with (first
    | (go_at_call 9; refine (HSub2.out _ _ R4).mono ?_; rintro e w11 ⟨rfl, hb11⟩)
    | ((with_reducible show wpList _ _ _ (⟨some 7, .alloc _, _, _, _, _⟩ :: _) _ _); refine wl_alloc rfl 25 rfl (bvs (Z8 32)) 32 infoD ?_; intro w12 hA12 hb12 hs12)
    | ((with_reducible show wpList _ _ _ (⟨none, .store _ (.tmp 7) _, _, _, _, _⟩ :: _) _ _); refine wl_store rfl 25 _ _ rfl w11.heap.size 0 rfl (bvs (Z8 32)) rfl 25 _ hA12 IZ.out FZ.out (bvs_one _) ?_; intro w13 hA13 hg13 hs13))
  have hb13 : Below w10.heap.size w10 w13 := (hb11.trans (hb12.mono hb11.size)).grown hg13 (by have := hb11.size; have := hb12.size; omega) (by intro k e; injection e with e; have := hb11.size; omega)
  replace A1 := A1.kept hb13
  replace A2 := A2.kept hb13
  replace A3 := A3.kept hb13
  replace R4 := R4.to hb13
  have A5 := hA10.kept hb13
  have E13 := E10.trans (hb13.mono E10.size)
  obtain ⟨g7, hg7⟩ : ∃ g, w11.heap.size = g := ⟨_, rfl⟩
  rw [hg7]
  clear hb11 hb12 hA12 hg13 hs12 hs13 hb13 E10 hA13 hA10 hg7
  go_upto_region 6 with (go_at_call 13; refine (HLev.out _ _ R4).mono ?_; rintro e wz ⟨gm, cm, ma, mc, rfl, hgm, hm1, hbz⟩)
  replace A1 := A1.kept hbz
  replace A2 := A2.kept hbz
  replace A3 := A3.kept hbz
  replace A5 := A5.kept hbz
  replace R4 := R4.to hbz
  have EZ := Lib.hid (E13.trans (hbz.mono E13.size))
  have EZs := Lib.hid EZ.out.size
  clear hbz E13
  have HLT : Hid (g1 < wz.heap.size ∧ g2 < wz.heap.size ∧ g3 < wz.heap.size ∧ g5 < wz.heap.size ∧ g4 < wz.heap.size) := ⟨A1.lt, A2.lt, A3.lt, A5.lt, by obtain ⟨b, off, e, h, -⟩ := R4.mem (by omega); injection e with e; injection e with e; subst e; exact h⟩
  refine wp_region_steps [[], [], [1], [2], [0, 3], [4], [5], [5], [6, 7, 5], [5, 8], [9], [10], [11, 10], [12, 10], [10], [13, 14, 10], [10, 15], [16], [17], [18, 17], [17], [17], [20, 21, 17], [17], [22, 23, 17], [19, 24, 17], [17, 25], [26], [27], [27], [27], [29, 30, 27], [28, 31, 27], [27, 32], [33], [34], [35, 34], [34, 36], [37], [38], [39, 38], [38, 40], [41], [42], [43, 42], [44, 42], [42, 45], [46], [47], [48, 47], [49, 47], [50, 47], [51, 47], [47, 52], [53], [54], [54], [55, 56, 54], [54, 57], [58]] (by kernel_rfl) (by kernel_rfl) (fun L a wx => ∃ v : Nat → Value, a = ⟨#[v 0, .pointer (some ⟨g1, 0, none⟩), .pointer (some ⟨g2, 0, none⟩), .pointer (some ⟨g3, 0, none⟩), .slice (some ⟨g4, 0, none⟩) 3 3, .pointer (some ⟨g5, 0, none⟩), .int .i64 0, .pointer (some ⟨g7, 0, none⟩), .int .i64 1, .slice (some ⟨gm, 0, none⟩) 2 cm, .slice (some ⟨w.heap.size, 0, none⟩) 1 1, .slice (some ⟨w.heap.size, 0, none⟩) 1 1, .agg (bvs HA).toArray, .slice (some ⟨wa2.heap.size, 0, none⟩) 1 1, .slice (some ⟨wa2.heap.size, 0, none⟩) 1 1, .agg (bvs HB).toArray, .slice (some ⟨wb2.heap.size, 0, none⟩) 1 1, .slice (some ⟨wb2.heap.size, 0, none⟩) 1 1, .agg (bvs HC).toArray, .agg (bvs HA).toArray, .agg (bvs HB).toArray, .agg (bvs HC).toArray, .slice (some ⟨g4, 0, none⟩) 3 3, .tuple #[.agg (bvs NBC).toArray, .int .i64 0], .slice (some ⟨g4, 0, none⟩) 3 3, .tuple #[.agg (bvs NBC).toArray, .int .i64 0], .agg (bvs NBC).toArray, .int .i64 0, .tuple #[.agg (bvs (Z8 32)).toArray, .int .i64 1], .slice (some ⟨g4, 0, none⟩) 3 3, .tuple #[.agg (bvs (Z8 32)).toArray, .int .i64 1], .agg (bvs (Z8 32)).toArray, .int .i64 1, .slice (some ⟨g4, 0, none⟩) 3 3, .slice (some ⟨gm, 0, none⟩) 2 cm, v 35, v 36, v 37, v 38, v 39, v 40, v 41, v 42, v 43, v 44, v 45, v 46, v 47, v 48, v 49, v 50, v 51, v 52, v 53, v 54, v 55, v 56, v 57, v 58, v 59, v 60, v 61, v 62, v 63, v 64, v 65, v 66, v 67, v 68, v 69, v 70, v 71, v 72, v 73, v 74, v 75, v 76, v 77, v 78, v 79, v 80, v 81, v 82, v 83, v 84, v 85, v 86, v 87, v 88, v 89, v 90, v 91, v 92, v 93], []⟩ ∧ InvWakes HA HB HC NBC NAB NR SZ g1 g2 g3 g4 g5 g7 gm cm mc ma  wz L v wx) ?_ ⟨?_, ?_, ?_, ?_, ?_, ?_, ?_, ?_, ?_, ?_, ?_, ?_, ?_, ?_, ?_, ?_, ?_, ?_, ?_, ?_, ?_, ?_, ?_, ?_, ?_, ?_, ?_, ?_, ?_, ?_, ?_, ?_, ?_, ?_, ?_, ?_, ?_, ?_, ?_, ?_, ?_, ?_, ?_, ?_, ?_, ?_, ?_, ?_, ?_, ?_, ?_, ?_, ?_, ?_, ?_, ?_, ?_, ?_, ?_, ?_, trivial⟩ ?_
  · refine ⟨upd (fun _ => undef) 0 (.bool false), rfl, ⟨?_, ?_, ?_, ?_, ?_, ?_, ?_, ?_, ?_, ?_, ?_, ?_, ?_, ?_, ?_, ?_, ?_, ?_, ?_, ?_, ?_, ?_, ?_, ?_, ?_, ?_, ?_, ?_, ?_, ?_, ?_, ?_, ?_, ?_, ?_, ?_, ?_, ?_, ?_, ?_, ?_, ?_, ?_, ?_, ?_, ?_, ?_, ?_, ?_, ?_, ?_, ?_, ?_, ?_, ?_, ?_, ?_, ?_, ?_, ?_, A1.drew, A2.drew, A3.drew, A5.drew, R4.to (Below.refl _ _).drew, hm1, hgm, (Below.refl _ _).drew⟩⟩ <;> (intro h; exact absurd h (by decide))
  · rintro L a wx ⟨v, rfl, hI⟩ hL hdep hcl K hK
    refine ow_load 25 _ rfl g1 0 rfl 25 (bvs HA) (bvs HA) hI.a1 (fun j v h => by rw [Nat.zero_add]; exact h) (.array 32 5) Try.underlying25 rfl IA.out ?_
    exact hK _ _ ⟨(upd v 35 (.agg (bvs HA).toArray)), rfl, ⟨fun _ => rfl, hI.t1, hI.t2, hI.t3, hI.t4, hI.t5, hI.t6, hI.t7, hI.t8, hI.t9, hI.t10, hI.t11, hI.t12, hI.t13, hI.t14, hI.t15, hI.t16, hI.t17, hI.t18, hI.t19, hI.t20, hI.t21, hI.t22, hI.t23, hI.t24, hI.t25, hI.t26, hI.t27, hI.t28, hI.t29, hI.t30, hI.t31, hI.t32, hI.t33, hI.t34, hI.t35, hI.t36, hI.t37, hI.t38, hI.t39, hI.t40, hI.t41, hI.t42, hI.t43, hI.t44, hI.t45, hI.t46, hI.t47, hI.t48, hI.t49, hI.t50, hI.t51, hI.t52, hI.t53, hI.t54, hI.t55, hI.t56, hI.t57, hI.t58, hI.t59, hI.a1, hI.a2, hI.a3, hI.a5, hI.rl, hI.hm, hI.lm, hI.bw⟩⟩
  · rintro L a wx ⟨v, rfl, hI⟩ hL hdep hcl K hK
    go_simp
    have hl : LitB (wx.alloc (.cells #[.int .u8 0, .int .u8 97] 5)) wx.heap.size [0, 97] := LitB.new wx [0, 97]
    have hb := hal wx (.cells #[.int .u8 0, .int .u8 97] 5)
    exact hK _ _ ⟨(upd v 36 (_)), rfl, ⟨hI.t0, fun _ => ⟨_, rfl, hl, hI.bw.size⟩, fun h => (hI.t2 h).elim fun g h => ⟨g, h.1, h.2.kept hb⟩, hI.t3, hI.t4, hI.t5, hI.t6, hI.t7, hI.t8, hI.t9, hI.t10, hI.t11, hI.t12, hI.t13, hI.t14, hI.t15, hI.t16, hI.t17, hI.t18, hI.t19, hI.t20, hI.t21, hI.t22, hI.t23, hI.t24, hI.t25, hI.t26, hI.t27, hI.t28, hI.t29, hI.t30, hI.t31, hI.t32, hI.t33, hI.t34, hI.t35, hI.t36, hI.t37, hI.t38, hI.t39, hI.t40, hI.t41, hI.t42, hI.t43, hI.t44, hI.t45, hI.t46, hI.t47, hI.t48, hI.t49, hI.t50, hI.t51, hI.t52, hI.t53, hI.t54, hI.t55, hI.t56, hI.t57, hI.t58, hI.t59, (hI.a1).kept hb, (hI.a2).kept hb, (hI.a3).kept hb, (hI.a5).kept hb, (hI.rl).to hb, (hb.cell (p := ⟨gm, 1, none⟩) (Nat.lt_of_lt_of_le hI.lm hI.bw.size)).trans (hI.hm), hI.lm, (hI.bw).trans (hb.mono (hI.bw).size)⟩⟩
  · rintro L a wx ⟨v, rfl, hI⟩ hL hdep hcl K hK
    obtain ⟨g, e1, hl, hlo⟩ := hI.t1 (hdep 1 (by decide))
    refine ow_conv (.tmp 36) rfl g 2 2 [0, 97] e1 hl ?_
    intro w' hl' hg' hs'
    have hgl := hl.lt
    exact hK _ _ ⟨(upd v 37 (_)), rfl, ⟨hI.t0, fun _ => ⟨g, e1, hl', hlo⟩, fun _ => ⟨g, rfl, hl'⟩, hI.t3, hI.t4, hI.t5, hI.t6, hI.t7, hI.t8, hI.t9, hI.t10, hI.t11, hI.t12, hI.t13, hI.t14, hI.t15, hI.t16, hI.t17, hI.t18, hI.t19, hI.t20, hI.t21, hI.t22, hI.t23, hI.t24, hI.t25, hI.t26, hI.t27, hI.t28, hI.t29, hI.t30, hI.t31, hI.t32, hI.t33, hI.t34, hI.t35, hI.t36, hI.t37, hI.t38, hI.t39, hI.t40, hI.t41, hI.t42, hI.t43, hI.t44, hI.t45, hI.t46, hI.t47, hI.t48, hI.t49, hI.t50, hI.t51, hI.t52, hI.t53, hI.t54, hI.t55, hI.t56, hI.t57, hI.t58, hI.t59, hI.a1.grown hg' (by intro e; injection e with e; have := HLT.out.1; omega), hI.a2.grown hg' (by intro e; injection e with e; have := HLT.out.2.1; omega), hI.a3.grown hg' (by intro e; injection e with e; have := HLT.out.2.2.1; omega), hI.a5.grown hg' (by intro e; injection e with e; have := HLT.out.2.2.2.1; omega), rdd_grown hI.rl hg' (by have := HLT.out.2.2.2.2; omega), (cell_grown hg' (by have := hI.lm; have := hI.bw.size; simp; omega) (by have := hI.lm; simp; omega)).trans hI.hm, hI.lm, hI.bw.grown hg' hI.bw.size (by intro k e; injection e with e; omega)⟩⟩
  · rintro L a wx ⟨v, rfl, hI⟩ hL hdep hcl K hK
    obtain ⟨g, e1, hl⟩ := hI.t2 (hdep 2 (by decide))
    have hc := HS0.out _ wx g e1 hl
    clear e1
    go_simp
    refine hc.mono ?_
    rintro e w' ⟨rfl, hb⟩
    exact hK _ _ ⟨(upd v 38 (.agg (bvs HA).toArray)), rfl, ⟨hI.t0, fun h => (hI.t1 h).elim fun g h => ⟨g, h.1, h.2.1.kept hb, h.2.2⟩, fun h => (hI.t2 h).elim fun g h => ⟨g, h.1, h.2.kept hb⟩, fun _ => rfl, hI.t4, hI.t5, hI.t6, hI.t7, hI.t8, hI.t9, hI.t10, hI.t11, hI.t12, hI.t13, hI.t14, hI.t15, hI.t16, hI.t17, hI.t18, hI.t19, hI.t20, hI.t21, hI.t22, hI.t23, hI.t24, hI.t25, hI.t26, hI.t27, hI.t28, hI.t29, hI.t30, hI.t31, hI.t32, hI.t33, hI.t34, hI.t35, hI.t36, hI.t37, hI.t38, hI.t39, hI.t40, hI.t41, hI.t42, hI.t43, hI.t44, hI.t45, hI.t46, hI.t47, hI.t48, hI.t49, hI.t50, hI.t51, hI.t52, hI.t53, hI.t54, hI.t55, hI.t56, hI.t57, hI.t58, hI.t59, (hI.a1).kept hb, (hI.a2).kept hb, (hI.a3).kept hb, (hI.a5).kept hb, (hI.rl).to hb, (hb.cell (p := ⟨gm, 1, none⟩) (Nat.lt_of_lt_of_le hI.lm hI.bw.size)).trans (hI.hm), hI.lm, (hI.bw).trans (hb.mono (hI.bw).size)⟩⟩
  · rintro L a wx ⟨v, rfl, hI⟩ hL hdep hcl K hK
    have e0 := hI.t0 (hdep 0 (by decide))
    have e3 := hI.t3 (hdep 3 (by decide))
    rw [e0, e3]
    have hq := QA.out wx
    go_simp
    exact hK _ _ ⟨(upd (upd (upd v 35 (.agg (bvs HA).toArray)) 38 (.agg (bvs HA).toArray)) 39 (.bool true)), rfl, ⟨fun _ => rfl, hI.t1, hI.t2, fun _ => rfl, fun _ => rfl, hI.t5, hI.t6, hI.t7, hI.t8, hI.t9, hI.t10, hI.t11, hI.t12, hI.t13, hI.t14, hI.t15, hI.t16, hI.t17, hI.t18, hI.t19, hI.t20, hI.t21, hI.t22, hI.t23, hI.t24, hI.t25, hI.t26, hI.t27, hI.t28, hI.t29, hI.t30, hI.t31, hI.t32, hI.t33, hI.t34, hI.t35, hI.t36, hI.t37, hI.t38, hI.t39, hI.t40, hI.t41, hI.t42, hI.t43, hI.t44, hI.t45, hI.t46, hI.t47, hI.t48, hI.t49, hI.t50, hI.t51, hI.t52, hI.t53, hI.t54, hI.t55, hI.t56, hI.t57, hI.t58, hI.t59, hI.a1, hI.a2, hI.a3, hI.a5, hI.rl, hI.hm, hI.lm, hI.bw⟩⟩
  · rintro L a wx ⟨v, rfl, hI⟩ hL hdep hcl K hK
    have e4 := hI.t4 (hdep 4 (by decide))
    rw [e4]
    go_simp
    exact hK _ _ ⟨(upd (upd v 39 (.bool true)) 40 (.bool true)), rfl, ⟨hI.t0, hI.t1, hI.t2, hI.t3, fun _ => rfl, fun _ => rfl, hI.t6, hI.t7, hI.t8, hI.t9, hI.t10, hI.t11, hI.t12, hI.t13, hI.t14, hI.t15, hI.t16, hI.t17, hI.t18, hI.t19, hI.t20, hI.t21, hI.t22, hI.t23, hI.t24, hI.t25, hI.t26, hI.t27, hI.t28, hI.t29, hI.t30, hI.t31, hI.t32, hI.t33, hI.t34, hI.t35, hI.t36, hI.t37, hI.t38, hI.t39, hI.t40, hI.t41, hI.t42, hI.t43, hI.t44, hI.t45, hI.t46, hI.t47, hI.t48, hI.t49, hI.t50, hI.t51, hI.t52, hI.t53, hI.t54, hI.t55, hI.t56, hI.t57, hI.t58, hI.t59, hI.a1, hI.a2, hI.a3, hI.a5, hI.rl, hI.hm, hI.lm, hI.bw⟩⟩
  · rintro L a wx ⟨v, rfl, hI⟩ hL hdep hcl K hK
    have e5 := hI.t5 (hdep 5 (by decide))
    rw [e5]
    refine (if_pos rfl).mpr ?_
    go_simp
    refine (HR0.out wx).mono ?_
    rintro e w' ⟨rfl, hb⟩
    exact hK _ _ ⟨(upd (upd v 40 (.bool true)) 41 (.agg (bvs SZ).toArray)), rfl, ⟨hI.t0, fun h => (hI.t1 h).elim fun g h => ⟨g, h.1, h.2.1.kept hb, h.2.2⟩, fun h => (hI.t2 h).elim fun g h => ⟨g, h.1, h.2.kept hb⟩, hI.t3, hI.t4, fun _ => rfl, fun _ => rfl, hI.t7, hI.t8, hI.t9, hI.t10, hI.t11, hI.t12, hI.t13, hI.t14, hI.t15, hI.t16, hI.t17, hI.t18, hI.t19, hI.t20, hI.t21, hI.t22, hI.t23, hI.t24, hI.t25, hI.t26, hI.t27, hI.t28, hI.t29, hI.t30, hI.t31, hI.t32, hI.t33, hI.t34, hI.t35, hI.t36, hI.t37, hI.t38, hI.t39, hI.t40, hI.t41, hI.t42, hI.t43, hI.t44, hI.t45, hI.t46, hI.t47, hI.t48, hI.t49, hI.t50, hI.t51, hI.t52, hI.t53, hI.t54, hI.t55, hI.t56, hI.t57, hI.t58, hI.t59, (hI.a1).kept hb, (hI.a2).kept hb, (hI.a3).kept hb, (hI.a5).kept hb, (hI.rl).to hb, (hb.cell (p := ⟨gm, 1, none⟩) (Nat.lt_of_lt_of_le hI.lm hI.bw.size)).trans (hI.hm), hI.lm, (hI.bw).trans (hb.mono (hI.bw).size)⟩⟩
  · rintro L a wx ⟨v, rfl, hI⟩ hL hdep hcl K hK
    have e5 := hI.t5 (hdep 5 (by decide))
    rw [e5]
    refine (if_pos rfl).mpr ?_
    go_simp
    refine (HSn.out wx).mono ?_
    rintro e w' ⟨rfl, hb⟩
    exact hK _ _ ⟨(upd (upd v 40 (.bool true)) 42 (.agg (bvs SZ).toArray)), rfl, ⟨hI.t0, fun h => (hI.t1 h).elim fun g h => ⟨g, h.1, h.2.1.kept hb, h.2.2⟩, fun h => (hI.t2 h).elim fun g h => ⟨g, h.1, h.2.kept hb⟩, hI.t3, hI.t4, fun _ => rfl, hI.t6, fun _ => rfl, hI.t8, hI.t9, hI.t10, hI.t11, hI.t12, hI.t13, hI.t14, hI.t15, hI.t16, hI.t17, hI.t18, hI.t19, hI.t20, hI.t21, hI.t22, hI.t23, hI.t24, hI.t25, hI.t26, hI.t27, hI.t28, hI.t29, hI.t30, hI.t31, hI.t32, hI.t33, hI.t34, hI.t35, hI.t36, hI.t37, hI.t38, hI.t39, hI.t40, hI.t41, hI.t42, hI.t43, hI.t44, hI.t45, hI.t46, hI.t47, hI.t48, hI.t49, hI.t50, hI.t51, hI.t52, hI.t53, hI.t54, hI.t55, hI.t56, hI.t57, hI.t58, hI.t59, (hI.a1).kept hb, (hI.a2).kept hb, (hI.a3).kept hb, (hI.a5).kept hb, (hI.rl).to hb, (hb.cell (p := ⟨gm, 1, none⟩) (Nat.lt_of_lt_of_le hI.lm hI.bw.size)).trans (hI.hm), hI.lm, (hI.bw).trans (hb.mono (hI.bw).size)⟩⟩
  · rintro L a wx ⟨v, rfl, hI⟩ hL hdep hcl K hK
    have e6 := hI.t6 (hdep 6 (by decide))
    have e7 := hI.t7 (hdep 7 (by decide))
    have e5 := hI.t5 (hdep 5 (by decide))
    rw [e6, e7, e5]
    refine (if_pos rfl).mpr ?_
    have hq := QS.out wx
    go_simp
    exact hK _ _ ⟨(upd (upd (upd (upd v 41 (.agg (bvs SZ).toArray)) 42 (.agg (bvs SZ).toArray)) 40 (.bool true)) 43 (.bool true)), rfl, ⟨hI.t0, hI.t1, hI.t2, hI.t3, hI.t4, fun _ => rfl, fun _ => rfl, fun _ => rfl, fun _ => rfl, hI.t9, hI.t10, hI.t11, hI.t12, hI.t13, hI.t14, hI.t15, hI.t16, hI.t17, hI.t18, hI.t19, hI.t20, hI.t21, hI.t22, hI.t23, hI.t24, hI.t25, hI.t26, hI.t27, hI.t28, hI.t29, hI.t30, hI.t31, hI.t32, hI.t33, hI.t34, hI.t35, hI.t36, hI.t37, hI.t38, hI.t39, hI.t40, hI.t41, hI.t42, hI.t43, hI.t44, hI.t45, hI.t46, hI.t47, hI.t48, hI.t49, hI.t50, hI.t51, hI.t52, hI.t53, hI.t54, hI.t55, hI.t56, hI.t57, hI.t58, hI.t59, hI.a1, hI.a2, hI.a3, hI.a5, hI.rl, hI.hm, hI.lm, hI.bw⟩⟩
  · rintro L a wx ⟨v, rfl, hI⟩ hL hdep hcl K hK
    have e5 := hI.t5 (hdep 5 (by decide))
    have e8 := hI.t8 (hdep 8 (by decide))
    rw [e5, e8]
    go_simp
    exact hK _ _ ⟨(upd (upd (upd v 40 (.bool true)) 43 (.bool true)) 44 (.bool true)), rfl, ⟨hI.t0, hI.t1, hI.t2, hI.t3, hI.t4, fun _ => rfl, hI.t6, hI.t7, fun _ => rfl, fun _ => rfl, hI.t10, hI.t11, hI.t12, hI.t13, hI.t14, hI.t15, hI.t16, hI.t17, hI.t18, hI.t19, hI.t20, hI.t21, hI.t22, hI.t23, hI.t24, hI.t25, hI.t26, hI.t27, hI.t28, hI.t29, hI.t30, hI.t31, hI.t32, hI.t33, hI.t34, hI.t35, hI.t36, hI.t37, hI.t38, hI.t39, hI.t40, hI.t41, hI.t42, hI.t43, hI.t44, hI.t45, hI.t46, hI.t47, hI.t48, hI.t49, hI.t50, hI.t51, hI.t52, hI.t53, hI.t54, hI.t55, hI.t56, hI.t57, hI.t58, hI.t59, hI.a1, hI.a2, hI.a3, hI.a5, hI.rl, hI.hm, hI.lm, hI.bw⟩⟩
  · rintro L a wx ⟨v, rfl, hI⟩ hL hdep hcl K hK
    have e9 := hI.t9 (hdep 9 (by decide))
    rw [e9]
    go_simp
    exact hK _ _ ⟨(upd (upd v 44 (.bool true)) 45 (.bool true)), rfl, ⟨hI.t0, hI.t1, hI.t2, hI.t3, hI.t4, hI.t5, hI.t6, hI.t7, hI.t8, fun _ => rfl, fun _ => rfl, hI.t11, hI.t12, hI.t13, hI.t14, hI.t15, hI.t16, hI.t17, hI.t18, hI.t19, hI.t20, hI.t21, hI.t22, hI.t23, hI.t24, hI.t25, hI.t26, hI.t27, hI.t28, hI.t29, hI.t30, hI.t31, hI.t32, hI.t33, hI.t34, hI.t35, hI.t36, hI.t37, hI.t38, hI.t39, hI.t40, hI.t41, hI.t42, hI.t43, hI.t44, hI.t45, hI.t46, hI.t47, hI.t48, hI.t49, hI.t50, hI.t51, hI.t52, hI.t53, hI.t54, hI.t55, hI.t56, hI.t57, hI.t58, hI.t59, hI.a1, hI.a2, hI.a3, hI.a5, hI.rl, hI.hm, hI.lm, hI.bw⟩⟩
  · rintro L a wx ⟨v, rfl, hI⟩ hL hdep hcl K hK
    have e10 := hI.t10 (hdep 10 (by decide))
    rw [e10]
    refine (if_pos rfl).mpr ?_
    go_simp
    exact hK _ _ ⟨(upd (upd v 45 (.bool true)) 46 (.slice (some ⟨g4, 0, none⟩) 3 3)), rfl, ⟨hI.t0, hI.t1, hI.t2, hI.t3, hI.t4, hI.t5, hI.t6, hI.t7, hI.t8, hI.t9, fun _ => rfl, fun _ => rfl, hI.t12, hI.t13, hI.t14, hI.t15, hI.t16, hI.t17, hI.t18, hI.t19, hI.t20, hI.t21, hI.t22, hI.t23, hI.t24, hI.t25, hI.t26, hI.t27, hI.t28, hI.t29, hI.t30, hI.t31, hI.t32, hI.t33, hI.t34, hI.t35, hI.t36, hI.t37, hI.t38, hI.t39, hI.t40, hI.t41, hI.t42, hI.t43, hI.t44, hI.t45, hI.t46, hI.t47, hI.t48, hI.t49, hI.t50, hI.t51, hI.t52, hI.t53, hI.t54, hI.t55, hI.t56, hI.t57, hI.t58, hI.t59, hI.a1, hI.a2, hI.a3, hI.a5, hI.rl, hI.hm, hI.lm, hI.bw⟩⟩
  · rintro L a wx ⟨v, rfl, hI⟩ hL hdep hcl K hK
    have e11 := hI.t11 (hdep 11 (by decide))
    have e10 := hI.t10 (hdep 10 (by decide))
    rw [e11, e10]
    refine (if_pos rfl).mpr ?_
    go_simp
    exact hK _ _ ⟨(upd (upd (upd v 46 (.slice (some ⟨g4, 0, none⟩) 3 3)) 45 (.bool true)) 47 (.slice (some ⟨g4, 0, none⟩) 1 3)), rfl, ⟨hI.t0, hI.t1, hI.t2, hI.t3, hI.t4, hI.t5, hI.t6, hI.t7, hI.t8, hI.t9, fun _ => rfl, fun _ => rfl, fun _ => rfl, hI.t13, hI.t14, hI.t15, hI.t16, hI.t17, hI.t18, hI.t19, hI.t20, hI.t21, hI.t22, hI.t23, hI.t24, hI.t25, hI.t26, hI.t27, hI.t28, hI.t29, hI.t30, hI.t31, hI.t32, hI.t33, hI.t34, hI.t35, hI.t36, hI.t37, hI.t38, hI.t39, hI.t40, hI.t41, hI.t42, hI.t43, hI.t44, hI.t45, hI.t46, hI.t47, hI.t48, hI.t49, hI.t50, hI.t51, hI.t52, hI.t53, hI.t54, hI.t55, hI.t56, hI.t57, hI.t58, hI.t59, hI.a1, hI.a2, hI.a3, hI.a5, hI.rl, hI.hm, hI.lm, hI.bw⟩⟩
  · rintro L a wx ⟨v, rfl, hI⟩ hL hdep hcl K hK
    have e12 := hI.t12 (hdep 12 (by decide))
    have e10 := hI.t10 (hdep 10 (by decide))
    rw [e12, e10]
    refine (if_pos rfl).mpr ?_
    go_simp
    refine (HR1.out wx _ hI.rl).mono ?_
    rintro e w' ⟨rfl, hb⟩
    exact hK _ _ ⟨(upd (upd (upd v 47 (.slice (some ⟨g4, 0, none⟩) 1 3)) 45 (.bool true)) 48 (.agg (bvs HA).toArray)), rfl, ⟨hI.t0, fun h => (hI.t1 h).elim fun g h => ⟨g, h.1, h.2.1.kept hb, h.2.2⟩, fun h => (hI.t2 h).elim fun g h => ⟨g, h.1, h.2.kept hb⟩, hI.t3, hI.t4, hI.t5, hI.t6, hI.t7, hI.t8, hI.t9, fun _ => rfl, hI.t11, fun _ => rfl, fun _ => rfl, hI.t14, hI.t15, hI.t16, hI.t17, hI.t18, hI.t19, hI.t20, hI.t21, hI.t22, hI.t23, hI.t24, hI.t25, hI.t26, hI.t27, hI.t28, hI.t29, hI.t30, hI.t31, hI.t32, hI.t33, hI.t34, hI.t35, hI.t36, hI.t37, hI.t38, hI.t39, hI.t40, hI.t41, hI.t42, hI.t43, hI.t44, hI.t45, hI.t46, hI.t47, hI.t48, hI.t49, hI.t50, hI.t51, hI.t52, hI.t53, hI.t54, hI.t55, hI.t56, hI.t57, hI.t58, hI.t59, (hI.a1).kept hb, (hI.a2).kept hb, (hI.a3).kept hb, (hI.a5).kept hb, (hI.rl).to hb, (hb.cell (p := ⟨gm, 1, none⟩) (Nat.lt_of_lt_of_le hI.lm hI.bw.size)).trans (hI.hm), hI.lm, (hI.bw).trans (hb.mono (hI.bw).size)⟩⟩
  · rintro L a wx ⟨v, rfl, hI⟩ hL hdep hcl K hK
    have e10 := hI.t10 (hdep 10 (by decide))
    rw [e10]
    refine (if_pos rfl).mpr ?_
    refine ow_load 25 _ rfl g1 0 rfl 25 (bvs HA) (bvs HA) hI.a1 (fun j v h => by rw [Nat.zero_add]; exact h) (.array 32 5) Try.underlying25 rfl IA.out ?_
    exact hK _ _ ⟨(upd (upd v 45 (.bool true)) 49 (.agg (bvs HA).toArray)), rfl, ⟨hI.t0, hI.t1, hI.t2, hI.t3, hI.t4, hI.t5, hI.t6, hI.t7, hI.t8, hI.t9, fun _ => rfl, hI.t11, hI.t12, hI.t13, fun _ => rfl, hI.t15, hI.t16, hI.t17, hI.t18, hI.t19, hI.t20, hI.t21, hI.t22, hI.t23, hI.t24, hI.t25, hI.t26, hI.t27, hI.t28, hI.t29, hI.t30, hI.t31, hI.t32, hI.t33, hI.t34, hI.t35, hI.t36, hI.t37, hI.t38, hI.t39, hI.t40, hI.t41, hI.t42, hI.t43, hI.t44, hI.t45, hI.t46, hI.t47, hI.t48, hI.t49, hI.t50, hI.t51, hI.t52, hI.t53, hI.t54, hI.t55, hI.t56, hI.t57, hI.t58, hI.t59, hI.a1, hI.a2, hI.a3, hI.a5, hI.rl, hI.hm, hI.lm, hI.bw⟩⟩
  · rintro L a wx ⟨v, rfl, hI⟩ hL hdep hcl K hK
    have e13 := hI.t13 (hdep 13 (by decide))
    have e14 := hI.t14 (hdep 14 (by decide))
    have e10 := hI.t10 (hdep 10 (by decide))
    rw [e13, e14, e10]
    refine (if_pos rfl).mpr ?_
    have hq := QA.out wx
    go_simp
    exact hK _ _ ⟨(upd (upd (upd (upd v 48 (.agg (bvs HA).toArray)) 49 (.agg (bvs HA).toArray)) 45 (.bool true)) 50 (.bool true)), rfl, ⟨hI.t0, hI.t1, hI.t2, hI.t3, hI.t4, hI.t5, hI.t6, hI.t7, hI.t8, hI.t9, fun _ => rfl, hI.t11, hI.t12, fun _ => rfl, fun _ => rfl, fun _ => rfl, hI.t16, hI.t17, hI.t18, hI.t19, hI.t20, hI.t21, hI.t22, hI.t23, hI.t24, hI.t25, hI.t26, hI.t27, hI.t28, hI.t29, hI.t30, hI.t31, hI.t32, hI.t33, hI.t34, hI.t35, hI.t36, hI.t37, hI.t38, hI.t39, hI.t40, hI.t41, hI.t42, hI.t43, hI.t44, hI.t45, hI.t46, hI.t47, hI.t48, hI.t49, hI.t50, hI.t51, hI.t52, hI.t53, hI.t54, hI.t55, hI.t56, hI.t57, hI.t58, hI.t59, hI.a1, hI.a2, hI.a3, hI.a5, hI.rl, hI.hm, hI.lm, hI.bw⟩⟩
  · rintro L a wx ⟨v, rfl, hI⟩ hL hdep hcl K hK
    have e10 := hI.t10 (hdep 10 (by decide))
    have e15 := hI.t15 (hdep 15 (by decide))
    rw [e10, e15]
    go_simp
    exact hK _ _ ⟨(upd (upd (upd v 45 (.bool true)) 50 (.bool true)) 51 (.bool true)), rfl, ⟨hI.t0, hI.t1, hI.t2, hI.t3, hI.t4, hI.t5, hI.t6, hI.t7, hI.t8, hI.t9, fun _ => rfl, hI.t11, hI.t12, hI.t13, hI.t14, fun _ => rfl, fun _ => rfl, hI.t17, hI.t18, hI.t19, hI.t20, hI.t21, hI.t22, hI.t23, hI.t24, hI.t25, hI.t26, hI.t27, hI.t28, hI.t29, hI.t30, hI.t31, hI.t32, hI.t33, hI.t34, hI.t35, hI.t36, hI.t37, hI.t38, hI.t39, hI.t40, hI.t41, hI.t42, hI.t43, hI.t44, hI.t45, hI.t46, hI.t47, hI.t48, hI.t49, hI.t50, hI.t51, hI.t52, hI.t53, hI.t54, hI.t55, hI.t56, hI.t57, hI.t58, hI.t59, hI.a1, hI.a2, hI.a3, hI.a5, hI.rl, hI.hm, hI.lm, hI.bw⟩⟩
  · rintro L a wx ⟨v, rfl, hI⟩ hL hdep hcl K hK
    have e16 := hI.t16 (hdep 16 (by decide))
    rw [e16]
    go_simp
    exact hK _ _ ⟨(upd (upd v 51 (.bool true)) 52 (.bool true)), rfl, ⟨hI.t0, hI.t1, hI.t2, hI.t3, hI.t4, hI.t5, hI.t6, hI.t7, hI.t8, hI.t9, hI.t10, hI.t11, hI.t12, hI.t13, hI.t14, hI.t15, fun _ => rfl, fun _ => rfl, hI.t18, hI.t19, hI.t20, hI.t21, hI.t22, hI.t23, hI.t24, hI.t25, hI.t26, hI.t27, hI.t28, hI.t29, hI.t30, hI.t31, hI.t32, hI.t33, hI.t34, hI.t35, hI.t36, hI.t37, hI.t38, hI.t39, hI.t40, hI.t41, hI.t42, hI.t43, hI.t44, hI.t45, hI.t46, hI.t47, hI.t48, hI.t49, hI.t50, hI.t51, hI.t52, hI.t53, hI.t54, hI.t55, hI.t56, hI.t57, hI.t58, hI.t59, hI.a1, hI.a2, hI.a3, hI.a5, hI.rl, hI.hm, hI.lm, hI.bw⟩⟩
  · rintro L a wx ⟨v, rfl, hI⟩ hL hdep hcl K hK
    have e17 := hI.t17 (hdep 17 (by decide))
    rw [e17]
    refine (if_pos rfl).mpr ?_
    go_simp
    exact hK _ _ ⟨(upd (upd v 52 (.bool true)) 53 (.slice (some ⟨g4, 0, none⟩) 3 3)), rfl, ⟨hI.t0, hI.t1, hI.t2, hI.t3, hI.t4, hI.t5, hI.t6, hI.t7, hI.t8, hI.t9, hI.t10, hI.t11, hI.t12, hI.t13, hI.t14, hI.t15, hI.t16, fun _ => rfl, fun _ => rfl, hI.t19, hI.t20, hI.t21, hI.t22, hI.t23, hI.t24, hI.t25, hI.t26, hI.t27, hI.t28, hI.t29, hI.t30, hI.t31, hI.t32, hI.t33, hI.t34, hI.t35, hI.t36, hI.t37, hI.t38, hI.t39, hI.t40, hI.t41, hI.t42, hI.t43, hI.t44, hI.t45, hI.t46, hI.t47, hI.t48, hI.t49, hI.t50, hI.t51, hI.t52, hI.t53, hI.t54, hI.t55, hI.t56, hI.t57, hI.t58, hI.t59, hI.a1, hI.a2, hI.a3, hI.a5, hI.rl, hI.hm, hI.lm, hI.bw⟩⟩
  · rintro L a wx ⟨v, rfl, hI⟩ hL hdep hcl K hK
    have e18 := hI.t18 (hdep 18 (by decide))
    have e17 := hI.t17 (hdep 17 (by decide))
    rw [e18, e17]
    refine (if_pos rfl).mpr ?_
    go_simp
    refine (HR3.out wx _ hI.rl).mono ?_
    rintro e w' ⟨rfl, hb⟩
    exact hK _ _ ⟨(upd (upd (upd v 53 (.slice (some ⟨g4, 0, none⟩) 3 3)) 52 (.bool true)) 54 (.agg (bvs NR).toArray)), rfl, ⟨hI.t0, fun h => (hI.t1 h).elim fun g h => ⟨g, h.1, h.2.1.kept hb, h.2.2⟩, fun h => (hI.t2 h).elim fun g h => ⟨g, h.1, h.2.kept hb⟩, hI.t3, hI.t4, hI.t5, hI.t6, hI.t7, hI.t8, hI.t9, hI.t10, hI.t11, hI.t12, hI.t13, hI.t14, hI.t15, hI.t16, fun _ => rfl, fun _ => rfl, fun _ => rfl, hI.t20, hI.t21, hI.t22, hI.t23, hI.t24, hI.t25, hI.t26, hI.t27, hI.t28, hI.t29, hI.t30, hI.t31, hI.t32, hI.t33, hI.t34, hI.t35, hI.t36, hI.t37, hI.t38, hI.t39, hI.t40, hI.t41, hI.t42, hI.t43, hI.t44, hI.t45, hI.t46, hI.t47, hI.t48, hI.t49, hI.t50, hI.t51, hI.t52, hI.t53, hI.t54, hI.t55, hI.t56, hI.t57, hI.t58, hI.t59, (hI.a1).kept hb, (hI.a2).kept hb, (hI.a3).kept hb, (hI.a5).kept hb, (hI.rl).to hb, (hb.cell (p := ⟨gm, 1, none⟩) (Nat.lt_of_lt_of_le hI.lm hI.bw.size)).trans (hI.hm), hI.lm, (hI.bw).trans (hb.mono (hI.bw).size)⟩⟩
  · rintro L a wx ⟨v, rfl, hI⟩ hL hdep hcl K hK
    have e17 := hI.t17 (hdep 17 (by decide))
    rw [e17]
    refine (if_pos rfl).mpr ?_
    refine ow_load 25 _ rfl g1 0 rfl 25 (bvs HA) (bvs HA) hI.a1 (fun j v h => by rw [Nat.zero_add]; exact h) (.array 32 5) Try.underlying25 rfl IA.out ?_
    exact hK _ _ ⟨(upd (upd v 52 (.bool true)) 55 (.agg (bvs HA).toArray)), rfl, ⟨hI.t0, hI.t1, hI.t2, hI.t3, hI.t4, hI.t5, hI.t6, hI.t7, hI.t8, hI.t9, hI.t10, hI.t11, hI.t12, hI.t13, hI.t14, hI.t15, hI.t16, fun _ => rfl, hI.t18, hI.t19, fun _ => rfl, hI.t21, hI.t22, hI.t23, hI.t24, hI.t25, hI.t26, hI.t27, hI.t28, hI.t29, hI.t30, hI.t31, hI.t32, hI.t33, hI.t34, hI.t35, hI.t36, hI.t37, hI.t38, hI.t39, hI.t40, hI.t41, hI.t42, hI.t43, hI.t44, hI.t45, hI.t46, hI.t47, hI.t48, hI.t49, hI.t50, hI.t51, hI.t52, hI.t53, hI.t54, hI.t55, hI.t56, hI.t57, hI.t58, hI.t59, hI.a1, hI.a2, hI.a3, hI.a5, hI.rl, hI.hm, hI.lm, hI.bw⟩⟩
  · rintro L a wx ⟨v, rfl, hI⟩ hL hdep hcl K hK
    have e17 := hI.t17 (hdep 17 (by decide))
    rw [e17]
    refine (if_pos rfl).mpr ?_
    refine ow_load 25 _ rfl g2 0 rfl 25 (bvs HB) (bvs HB) hI.a2 (fun j v h => by rw [Nat.zero_add]; exact h) (.array 32 5) Try.underlying25 rfl IB.out ?_
    exact hK _ _ ⟨(upd (upd v 52 (.bool true)) 56 (.agg (bvs HB).toArray)), rfl, ⟨hI.t0, hI.t1, hI.t2, hI.t3, hI.t4, hI.t5, hI.t6, hI.t7, hI.t8, hI.t9, hI.t10, hI.t11, hI.t12, hI.t13, hI.t14, hI.t15, hI.t16, fun _ => rfl, hI.t18, hI.t19, hI.t20, fun _ => rfl, hI.t22, hI.t23, hI.t24, hI.t25, hI.t26, hI.t27, hI.t28, hI.t29, hI.t30, hI.t31, hI.t32, hI.t33, hI.t34, hI.t35, hI.t36, hI.t37, hI.t38, hI.t39, hI.t40, hI.t41, hI.t42, hI.t43, hI.t44, hI.t45, hI.t46, hI.t47, hI.t48, hI.t49, hI.t50, hI.t51, hI.t52, hI.t53, hI.t54, hI.t55, hI.t56, hI.t57, hI.t58, hI.t59, hI.a1, hI.a2, hI.a3, hI.a5, hI.rl, hI.hm, hI.lm, hI.bw⟩⟩
  · rintro L a wx ⟨v, rfl, hI⟩ hL hdep hcl K hK
    have e20 := hI.t20 (hdep 20 (by decide))
    have e21 := hI.t21 (hdep 21 (by decide))
    have e17 := hI.t17 (hdep 17 (by decide))
    rw [e20, e21, e17]
    refine (if_pos rfl).mpr ?_
    go_simp
    refine (HNAB.out wx).mono ?_
    rintro e w' ⟨rfl, hb⟩
    exact hK _ _ ⟨(upd (upd (upd (upd v 55 (.agg (bvs HA).toArray)) 56 (.agg (bvs HB).toArray)) 52 (.bool true)) 57 (.agg (bvs NAB).toArray)), rfl, ⟨hI.t0, fun h => (hI.t1 h).elim fun g h => ⟨g, h.1, h.2.1.kept hb, h.2.2⟩, fun h => (hI.t2 h).elim fun g h => ⟨g, h.1, h.2.kept hb⟩, hI.t3, hI.t4, hI.t5, hI.t6, hI.t7, hI.t8, hI.t9, hI.t10, hI.t11, hI.t12, hI.t13, hI.t14, hI.t15, hI.t16, fun _ => rfl, hI.t18, hI.t19, fun _ => rfl, fun _ => rfl, fun _ => rfl, hI.t23, hI.t24, hI.t25, hI.t26, hI.t27, hI.t28, hI.t29, hI.t30, hI.t31, hI.t32, hI.t33, hI.t34, hI.t35, hI.t36, hI.t37, hI.t38, hI.t39, hI.t40, hI.t41, hI.t42, hI.t43, hI.t44, hI.t45, hI.t46, hI.t47, hI.t48, hI.t49, hI.t50, hI.t51, hI.t52, hI.t53, hI.t54, hI.t55, hI.t56, hI.t57, hI.t58, hI.t59, (hI.a1).kept hb, (hI.a2).kept hb, (hI.a3).kept hb, (hI.a5).kept hb, (hI.rl).to hb, (hb.cell (p := ⟨gm, 1, none⟩) (Nat.lt_of_lt_of_le hI.lm hI.bw.size)).trans (hI.hm), hI.lm, (hI.bw).trans (hb.mono (hI.bw).size)⟩⟩
  · rintro L a wx ⟨v, rfl, hI⟩ hL hdep hcl K hK
    have e17 := hI.t17 (hdep 17 (by decide))
    rw [e17]
    refine (if_pos rfl).mpr ?_
    refine ow_load 25 _ rfl g3 0 rfl 25 (bvs HC) (bvs HC) hI.a3 (fun j v h => by rw [Nat.zero_add]; exact h) (.array 32 5) Try.underlying25 rfl IC.out ?_
    exact hK _ _ ⟨(upd (upd v 52 (.bool true)) 58 (.agg (bvs HC).toArray)), rfl, ⟨hI.t0, hI.t1, hI.t2, hI.t3, hI.t4, hI.t5, hI.t6, hI.t7, hI.t8, hI.t9, hI.t10, hI.t11, hI.t12, hI.t13, hI.t14, hI.t15, hI.t16, fun _ => rfl, hI.t18, hI.t19, hI.t20, hI.t21, hI.t22, fun _ => rfl, hI.t24, hI.t25, hI.t26, hI.t27, hI.t28, hI.t29, hI.t30, hI.t31, hI.t32, hI.t33, hI.t34, hI.t35, hI.t36, hI.t37, hI.t38, hI.t39, hI.t40, hI.t41, hI.t42, hI.t43, hI.t44, hI.t45, hI.t46, hI.t47, hI.t48, hI.t49, hI.t50, hI.t51, hI.t52, hI.t53, hI.t54, hI.t55, hI.t56, hI.t57, hI.t58, hI.t59, hI.a1, hI.a2, hI.a3, hI.a5, hI.rl, hI.hm, hI.lm, hI.bw⟩⟩
  · rintro L a wx ⟨v, rfl, hI⟩ hL hdep hcl K hK
    have e22 := hI.t22 (hdep 22 (by decide))
    have e23 := hI.t23 (hdep 23 (by decide))
    have e17 := hI.t17 (hdep 17 (by decide))
    rw [e22, e23, e17]
    refine (if_pos rfl).mpr ?_
    go_simp
    refine (HNR.out wx).mono ?_
    rintro e w' ⟨rfl, hb⟩
    exact hK _ _ ⟨(upd (upd (upd (upd v 57 (.agg (bvs NAB).toArray)) 58 (.agg (bvs HC).toArray)) 52 (.bool true)) 59 (.agg (bvs NR).toArray)), rfl, ⟨hI.t0, fun h => (hI.t1 h).elim fun g h => ⟨g, h.1, h.2.1.kept hb, h.2.2⟩, fun h => (hI.t2 h).elim fun g h => ⟨g, h.1, h.2.kept hb⟩, hI.t3, hI.t4, hI.t5, hI.t6, hI.t7, hI.t8, hI.t9, hI.t10, hI.t11, hI.t12, hI.t13, hI.t14, hI.t15, hI.t16, fun _ => rfl, hI.t18, hI.t19, hI.t20, hI.t21, fun _ => rfl, fun _ => rfl, fun _ => rfl, hI.t25, hI.t26, hI.t27, hI.t28, hI.t29, hI.t30, hI.t31, hI.t32, hI.t33, hI.t34, hI.t35, hI.t36, hI.t37, hI.t38, hI.t39, hI.t40, hI.t41, hI.t42, hI.t43, hI.t44, hI.t45, hI.t46, hI.t47, hI.t48, hI.t49, hI.t50, hI.t51, hI.t52, hI.t53, hI.t54, hI.t55, hI.t56, hI.t57, hI.t58, hI.t59, (hI.a1).kept hb, (hI.a2).kept hb, (hI.a3).kept hb, (hI.a5).kept hb, (hI.rl).to hb, (hb.cell (p := ⟨gm, 1, none⟩) (Nat.lt_of_lt_of_le hI.lm hI.bw.size)).trans (hI.hm), hI.lm, (hI.bw).trans (hb.mono (hI.bw).size)⟩⟩
  · rintro L a wx ⟨v, rfl, hI⟩ hL hdep hcl K hK
    have e19 := hI.t19 (hdep 19 (by decide))
    have e24 := hI.t24 (hdep 24 (by decide))
    have e17 := hI.t17 (hdep 17 (by decide))
    rw [e19, e24, e17]
    refine (if_pos rfl).mpr ?_
    have hq := QR.out wx
    go_simp
    exact hK _ _ ⟨(upd (upd (upd (upd v 54 (.agg (bvs NR).toArray)) 59 (.agg (bvs NR).toArray)) 52 (.bool true)) 60 (.bool true)), rfl, ⟨hI.t0, hI.t1, hI.t2, hI.t3, hI.t4, hI.t5, hI.t6, hI.t7, hI.t8, hI.t9, hI.t10, hI.t11, hI.t12, hI.t13, hI.t14, hI.t15, hI.t16, fun _ => rfl, hI.t18, fun _ => rfl, hI.t20, hI.t21, hI.t22, hI.t23, fun _ => rfl, fun _ => rfl, hI.t26, hI.t27, hI.t28, hI.t29, hI.t30, hI.t31, hI.t32, hI.t33, hI.t34, hI.t35, hI.t36, hI.t37, hI.t38, hI.t39, hI.t40, hI.t41, hI.t42, hI.t43, hI.t44, hI.t45, hI.t46, hI.t47, hI.t48, hI.t49, hI.t50, hI.t51, hI.t52, hI.t53, hI.t54, hI.t55, hI.t56, hI.t57, hI.t58, hI.t59, hI.a1, hI.a2, hI.a3, hI.a5, hI.rl, hI.hm, hI.lm, hI.bw⟩⟩
  · rintro L a wx ⟨v, rfl, hI⟩ hL hdep hcl K hK
    have e17 := hI.t17 (hdep 17 (by decide))
    have e25 := hI.t25 (hdep 25 (by decide))
    rw [e17, e25]
    go_simp
    exact hK _ _ ⟨(upd (upd (upd v 52 (.bool true)) 60 (.bool true)) 61 (.bool true)), rfl, ⟨hI.t0, hI.t1, hI.t2, hI.t3, hI.t4, hI.t5, hI.t6, hI.t7, hI.t8, hI.t9, hI.t10, hI.t11, hI.t12, hI.t13, hI.t14, hI.t15, hI.t16, fun _ => rfl, hI.t18, hI.t19, hI.t20, hI.t21, hI.t22, hI.t23, hI.t24, fun _ => rfl, fun _ => rfl, hI.t27, hI.t28, hI.t29, hI.t30, hI.t31, hI.t32, hI.t33, hI.t34, hI.t35, hI.t36, hI.t37, hI.t38, hI.t39, hI.t40, hI.t41, hI.t42, hI.t43, hI.t44, hI.t45, hI.t46, hI.t47, hI.t48, hI.t49, hI.t50, hI.t51, hI.t52, hI.t53, hI.t54, hI.t55, hI.t56, hI.t57, hI.t58, hI.t59, hI.a1, hI.a2, hI.a3, hI.a5, hI.rl, hI.hm, hI.lm, hI.bw⟩⟩
  · rintro L a wx ⟨v, rfl, hI⟩ hL hdep hcl K hK
    have e26 := hI.t26 (hdep 26 (by decide))
    rw [e26]
    go_simp
    exact hK _ _ ⟨(upd (upd v 61 (.bool true)) 62 (.bool true)), rfl, ⟨hI.t0, hI.t1, hI.t2, hI.t3, hI.t4, hI.t5, hI.t6, hI.t7, hI.t8, hI.t9, hI.t10, hI.t11, hI.t12, hI.t13, hI.t14, hI.t15, hI.t16, hI.t17, hI.t18, hI.t19, hI.t20, hI.t21, hI.t22, hI.t23, hI.t24, hI.t25, fun _ => rfl, fun _ => rfl, hI.t28, hI.t29, hI.t30, hI.t31, hI.t32, hI.t33, hI.t34, hI.t35, hI.t36, hI.t37, hI.t38, hI.t39, hI.t40, hI.t41, hI.t42, hI.t43, hI.t44, hI.t45, hI.t46, hI.t47, hI.t48, hI.t49, hI.t50, hI.t51, hI.t52, hI.t53, hI.t54, hI.t55, hI.t56, hI.t57, hI.t58, hI.t59, hI.a1, hI.a2, hI.a3, hI.a5, hI.rl, hI.hm, hI.lm, hI.bw⟩⟩
  · rintro L a wx ⟨v, rfl, hI⟩ hL hdep hcl K hK
    have e27 := hI.t27 (hdep 27 (by decide))
    rw [e27]
    refine (if_pos rfl).mpr ?_
    refine ow_load 25 _ rfl g5 0 rfl 25 (bvs NBC) (bvs NBC) hI.a5 (fun j v h => by rw [Nat.zero_add]; exact h) (.array 32 5) Try.underlying25 rfl IBC.out ?_
    exact hK _ _ ⟨(upd (upd v 62 (.bool true)) 63 (.agg (bvs NBC).toArray)), rfl, ⟨hI.t0, hI.t1, hI.t2, hI.t3, hI.t4, hI.t5, hI.t6, hI.t7, hI.t8, hI.t9, hI.t10, hI.t11, hI.t12, hI.t13, hI.t14, hI.t15, hI.t16, hI.t17, hI.t18, hI.t19, hI.t20, hI.t21, hI.t22, hI.t23, hI.t24, hI.t25, hI.t26, fun _ => rfl, fun _ => rfl, hI.t29, hI.t30, hI.t31, hI.t32, hI.t33, hI.t34, hI.t35, hI.t36, hI.t37, hI.t38, hI.t39, hI.t40, hI.t41, hI.t42, hI.t43, hI.t44, hI.t45, hI.t46, hI.t47, hI.t48, hI.t49, hI.t50, hI.t51, hI.t52, hI.t53, hI.t54, hI.t55, hI.t56, hI.t57, hI.t58, hI.t59, hI.a1, hI.a2, hI.a3, hI.a5, hI.rl, hI.hm, hI.lm, hI.bw⟩⟩
  · rintro L a wx ⟨v, rfl, hI⟩ hL hdep hcl K hK
    have e27 := hI.t27 (hdep 27 (by decide))
    rw [e27]
    refine (if_pos rfl).mpr ?_
    refine ow_load 25 _ rfl g2 0 rfl 25 (bvs HB) (bvs HB) hI.a2 (fun j v h => by rw [Nat.zero_add]; exact h) (.array 32 5) Try.underlying25 rfl IB.out ?_
    exact hK _ _ ⟨(upd (upd v 62 (.bool true)) 64 (.agg (bvs HB).toArray)), rfl, ⟨hI.t0, hI.t1, hI.t2, hI.t3, hI.t4, hI.t5, hI.t6, hI.t7, hI.t8, hI.t9, hI.t10, hI.t11, hI.t12, hI.t13, hI.t14, hI.t15, hI.t16, hI.t17, hI.t18, hI.t19, hI.t20, hI.t21, hI.t22, hI.t23, hI.t24, hI.t25, hI.t26, fun _ => rfl, hI.t28, fun _ => rfl, hI.t30, hI.t31, hI.t32, hI.t33, hI.t34, hI.t35, hI.t36, hI.t37, hI.t38, hI.t39, hI.t40, hI.t41, hI.t42, hI.t43, hI.t44, hI.t45, hI.t46, hI.t47, hI.t48, hI.t49, hI.t50, hI.t51, hI.t52, hI.t53, hI.t54, hI.t55, hI.t56, hI.t57, hI.t58, hI.t59, hI.a1, hI.a2, hI.a3, hI.a5, hI.rl, hI.hm, hI.lm, hI.bw⟩⟩
  · rintro L a wx ⟨v, rfl, hI⟩ hL hdep hcl K hK
    have e27 := hI.t27 (hdep 27 (by decide))
    rw [e27]
    refine (if_pos rfl).mpr ?_
    refine ow_load 25 _ rfl g3 0 rfl 25 (bvs HC) (bvs HC) hI.a3 (fun j v h => by rw [Nat.zero_add]; exact h) (.array 32 5) Try.underlying25 rfl IC.out ?_
    exact hK _ _ ⟨(upd (upd v 62 (.bool true)) 65 (.agg (bvs HC).toArray)), rfl, ⟨hI.t0, hI.t1, hI.t2, hI.t3, hI.t4, hI.t5, hI.t6, hI.t7, hI.t8, hI.t9, hI.t10, hI.t11, hI.t12, hI.t13, hI.t14, hI.t15, hI.t16, hI.t17, hI.t18, hI.t19, hI.t20, hI.t21, hI.t22, hI.t23, hI.t24, hI.t25, hI.t26, fun _ => rfl, hI.t28, hI.t29, fun _ => rfl, hI.t31, hI.t32, hI.t33, hI.t34, hI.t35, hI.t36, hI.t37, hI.t38, hI.t39, hI.t40, hI.t41, hI.t42, hI.t43, hI.t44, hI.t45, hI.t46, hI.t47, hI.t48, hI.t49, hI.t50, hI.t51, hI.t52, hI.t53, hI.t54, hI.t55, hI.t56, hI.t57, hI.t58, hI.t59, hI.a1, hI.a2, hI.a3, hI.a5, hI.rl, hI.hm, hI.lm, hI.bw⟩⟩
  · rintro L a wx ⟨v, rfl, hI⟩ hL hdep hcl K hK
    have e29 := hI.t29 (hdep 29 (by decide))
    have e30 := hI.t30 (hdep 30 (by decide))
    have e27 := hI.t27 (hdep 27 (by decide))
    rw [e29, e30, e27]
    refine (if_pos rfl).mpr ?_
    go_simp
    refine (HNBC.out wx).mono ?_
    rintro e w' ⟨rfl, hb⟩
    exact hK _ _ ⟨(upd (upd (upd (upd v 64 (.agg (bvs HB).toArray)) 65 (.agg (bvs HC).toArray)) 62 (.bool true)) 66 (.agg (bvs NBC).toArray)), rfl, ⟨hI.t0, fun h => (hI.t1 h).elim fun g h => ⟨g, h.1, h.2.1.kept hb, h.2.2⟩, fun h => (hI.t2 h).elim fun g h => ⟨g, h.1, h.2.kept hb⟩, hI.t3, hI.t4, hI.t5, hI.t6, hI.t7, hI.t8, hI.t9, hI.t10, hI.t11, hI.t12, hI.t13, hI.t14, hI.t15, hI.t16, hI.t17, hI.t18, hI.t19, hI.t20, hI.t21, hI.t22, hI.t23, hI.t24, hI.t25, hI.t26, fun _ => rfl, hI.t28, fun _ => rfl, fun _ => rfl, fun _ => rfl, hI.t32, hI.t33, hI.t34, hI.t35, hI.t36, hI.t37, hI.t38, hI.t39, hI.t40, hI.t41, hI.t42, hI.t43, hI.t44, hI.t45, hI.t46, hI.t47, hI.t48, hI.t49, hI.t50, hI.t51, hI.t52, hI.t53, hI.t54, hI.t55, hI.t56, hI.t57, hI.t58, hI.t59, (hI.a1).kept hb, (hI.a2).kept hb, (hI.a3).kept hb, (hI.a5).kept hb, (hI.rl).to hb, (hb.cell (p := ⟨gm, 1, none⟩) (Nat.lt_of_lt_of_le hI.lm hI.bw.size)).trans (hI.hm), hI.lm, (hI.bw).trans (hb.mono (hI.bw).size)⟩⟩
  · rintro L a wx ⟨v, rfl, hI⟩ hL hdep hcl K hK
    have e28 := hI.t28 (hdep 28 (by decide))
    have e31 := hI.t31 (hdep 31 (by decide))
    have e27 := hI.t27 (hdep 27 (by decide))
    rw [e28, e31, e27]
    refine (if_pos rfl).mpr ?_
    have hq := QBC.out wx
    go_simp
    exact hK _ _ ⟨(upd (upd (upd (upd v 63 (.agg (bvs NBC).toArray)) 66 (.agg (bvs NBC).toArray)) 62 (.bool true)) 67 (.bool true)), rfl, ⟨hI.t0, hI.t1, hI.t2, hI.t3, hI.t4, hI.t5, hI.t6, hI.t7, hI.t8, hI.t9, hI.t10, hI.t11, hI.t12, hI.t13, hI.t14, hI.t15, hI.t16, hI.t17, hI.t18, hI.t19, hI.t20, hI.t21, hI.t22, hI.t23, hI.t24, hI.t25, hI.t26, fun _ => rfl, fun _ => rfl, hI.t29, hI.t30, fun _ => rfl, fun _ => rfl, hI.t33, hI.t34, hI.t35, hI.t36, hI.t37, hI.t38, hI.t39, hI.t40, hI.t41, hI.t42, hI.t43, hI.t44, hI.t45, hI.t46, hI.t47, hI.t48, hI.t49, hI.t50, hI.t51, hI.t52, hI.t53, hI.t54, hI.t55, hI.t56, hI.t57, hI.t58, hI.t59, hI.a1, hI.a2, hI.a3, hI.a5, hI.rl, hI.hm, hI.lm, hI.bw⟩⟩
  · rintro L a wx ⟨v, rfl, hI⟩ hL hdep hcl K hK
    have e27 := hI.t27 (hdep 27 (by decide))
    have e32 := hI.t32 (hdep 32 (by decide))
    rw [e27, e32]
    go_simp
    exact hK _ _ ⟨(upd (upd (upd v 62 (.bool true)) 67 (.bool true)) 68 (.bool true)), rfl, ⟨hI.t0, hI.t1, hI.t2, hI.t3, hI.t4, hI.t5, hI.t6, hI.t7, hI.t8, hI.t9, hI.t10, hI.t11, hI.t12, hI.t13, hI.t14, hI.t15, hI.t16, hI.t17, hI.t18, hI.t19, hI.t20, hI.t21, hI.t22, hI.t23, hI.t24, hI.t25, hI.t26, fun _ => rfl, hI.t28, hI.t29, hI.t30, hI.t31, fun _ => rfl, fun _ => rfl, hI.t34, hI.t35, hI.t36, hI.t37, hI.t38, hI.t39, hI.t40, hI.t41, hI.t42, hI.t43, hI.t44, hI.t45, hI.t46, hI.t47, hI.t48, hI.t49, hI.t50, hI.t51, hI.t52, hI.t53, hI.t54, hI.t55, hI.t56, hI.t57, hI.t58, hI.t59, hI.a1, hI.a2, hI.a3, hI.a5, hI.rl, hI.hm, hI.lm, hI.bw⟩⟩
  · rintro L a wx ⟨v, rfl, hI⟩ hL hdep hcl K hK
    have e33 := hI.t33 (hdep 33 (by decide))
    rw [e33]
    go_simp
    exact hK _ _ ⟨(upd (upd v 68 (.bool true)) 69 (.bool true)), rfl, ⟨hI.t0, hI.t1, hI.t2, hI.t3, hI.t4, hI.t5, hI.t6, hI.t7, hI.t8, hI.t9, hI.t10, hI.t11, hI.t12, hI.t13, hI.t14, hI.t15, hI.t16, hI.t17, hI.t18, hI.t19, hI.t20, hI.t21, hI.t22, hI.t23, hI.t24, hI.t25, hI.t26, hI.t27, hI.t28, hI.t29, hI.t30, hI.t31, hI.t32, fun _ => rfl, fun _ => rfl, hI.t35, hI.t36, hI.t37, hI.t38, hI.t39, hI.t40, hI.t41, hI.t42, hI.t43, hI.t44, hI.t45, hI.t46, hI.t47, hI.t48, hI.t49, hI.t50, hI.t51, hI.t52, hI.t53, hI.t54, hI.t55, hI.t56, hI.t57, hI.t58, hI.t59, hI.a1, hI.a2, hI.a3, hI.a5, hI.rl, hI.hm, hI.lm, hI.bw⟩⟩
  · rintro L a wx ⟨v, rfl, hI⟩ hL hdep hcl K hK
    have e34 := hI.t34 (hdep 34 (by decide))
    rw [e34]
    refine (if_pos rfl).mpr ?_
    go_simp
    exact hK _ _ ⟨(upd (upd v 69 (.bool true)) 70 (.int .i64 0)), rfl, ⟨hI.t0, hI.t1, hI.t2, hI.t3, hI.t4, hI.t5, hI.t6, hI.t7, hI.t8, hI.t9, hI.t10, hI.t11, hI.t12, hI.t13, hI.t14, hI.t15, hI.t16, hI.t17, hI.t18, hI.t19, hI.t20, hI.t21, hI.t22, hI.t23, hI.t24, hI.t25, hI.t26, hI.t27, hI.t28, hI.t29, hI.t30, hI.t31, hI.t32, hI.t33, fun _ => rfl, fun _ => rfl, hI.t36, hI.t37, hI.t38, hI.t39, hI.t40, hI.t41, hI.t42, hI.t43, hI.t44, hI.t45, hI.t46, hI.t47, hI.t48, hI.t49, hI.t50, hI.t51, hI.t52, hI.t53, hI.t54, hI.t55, hI.t56, hI.t57, hI.t58, hI.t59, hI.a1, hI.a2, hI.a3, hI.a5, hI.rl, hI.hm, hI.lm, hI.bw⟩⟩
  · rintro L a wx ⟨v, rfl, hI⟩ hL hdep hcl K hK
    have e35 := hI.t35 (hdep 35 (by decide))
    have e34 := hI.t34 (hdep 34 (by decide))
    rw [e35, e34]
    refine (if_pos rfl).mpr ?_
    go_simp
    exact hK _ _ ⟨(upd (upd (upd v 70 (.int .i64 0)) 69 (.bool true)) 71 (.bool true)), rfl, ⟨hI.t0, hI.t1, hI.t2, hI.t3, hI.t4, hI.t5, hI.t6, hI.t7, hI.t8, hI.t9, hI.t10, hI.t11, hI.t12, hI.t13, hI.t14, hI.t15, hI.t16, hI.t17, hI.t18, hI.t19, hI.t20, hI.t21, hI.t22, hI.t23, hI.t24, hI.t25, hI.t26, hI.t27, hI.t28, hI.t29, hI.t30, hI.t31, hI.t32, hI.t33, fun _ => rfl, fun _ => rfl, fun _ => rfl, hI.t37, hI.t38, hI.t39, hI.t40, hI.t41, hI.t42, hI.t43, hI.t44, hI.t45, hI.t46, hI.t47, hI.t48, hI.t49, hI.t50, hI.t51, hI.t52, hI.t53, hI.t54, hI.t55, hI.t56, hI.t57, hI.t58, hI.t59, hI.a1, hI.a2, hI.a3, hI.a5, hI.rl, hI.hm, hI.lm, hI.bw⟩⟩
  · rintro L a wx ⟨v, rfl, hI⟩ hL hdep hcl K hK
    have e34 := hI.t34 (hdep 34 (by decide))
    have e36 := hI.t36 (hdep 36 (by decide))
    rw [e34, e36]
    go_simp
    exact hK _ _ ⟨(upd (upd (upd v 69 (.bool true)) 71 (.bool true)) 72 (.bool true)), rfl, ⟨hI.t0, hI.t1, hI.t2, hI.t3, hI.t4, hI.t5, hI.t6, hI.t7, hI.t8, hI.t9, hI.t10, hI.t11, hI.t12, hI.t13, hI.t14, hI.t15, hI.t16, hI.t17, hI.t18, hI.t19, hI.t20, hI.t21, hI.t22, hI.t23, hI.t24, hI.t25, hI.t26, hI.t27, hI.t28, hI.t29, hI.t30, hI.t31, hI.t32, hI.t33, fun _ => rfl, hI.t35, fun _ => rfl, fun _ => rfl, hI.t38, hI.t39, hI.t40, hI.t41, hI.t42, hI.t43, hI.t44, hI.t45, hI.t46, hI.t47, hI.t48, hI.t49, hI.t50, hI.t51, hI.t52, hI.t53, hI.t54, hI.t55, hI.t56, hI.t57, hI.t58, hI.t59, hI.a1, hI.a2, hI.a3, hI.a5, hI.rl, hI.hm, hI.lm, hI.bw⟩⟩
  · rintro L a wx ⟨v, rfl, hI⟩ hL hdep hcl K hK
    have e37 := hI.t37 (hdep 37 (by decide))
    rw [e37]
    go_simp
    exact hK _ _ ⟨(upd (upd v 72 (.bool true)) 73 (.bool true)), rfl, ⟨hI.t0, hI.t1, hI.t2, hI.t3, hI.t4, hI.t5, hI.t6, hI.t7, hI.t8, hI.t9, hI.t10, hI.t11, hI.t12, hI.t13, hI.t14, hI.t15, hI.t16, hI.t17, hI.t18, hI.t19, hI.t20, hI.t21, hI.t22, hI.t23, hI.t24, hI.t25, hI.t26, hI.t27, hI.t28, hI.t29, hI.t30, hI.t31, hI.t32, hI.t33, hI.t34, hI.t35, hI.t36, fun _ => rfl, fun _ => rfl, hI.t39, hI.t40, hI.t41, hI.t42, hI.t43, hI.t44, hI.t45, hI.t46, hI.t47, hI.t48, hI.t49, hI.t50, hI.t51, hI.t52, hI.t53, hI.t54, hI.t55, hI.t56, hI.t57, hI.t58, hI.t59, hI.a1, hI.a2, hI.a3, hI.a5, hI.rl, hI.hm, hI.lm, hI.bw⟩⟩
  · rintro L a wx ⟨v, rfl, hI⟩ hL hdep hcl K hK
    have e38 := hI.t38 (hdep 38 (by decide))
    rw [e38]
    refine (if_pos rfl).mpr ?_
    go_simp
    exact hK _ _ ⟨(upd (upd v 73 (.bool true)) 74 (.int .i64 1)), rfl, ⟨hI.t0, hI.t1, hI.t2, hI.t3, hI.t4, hI.t5, hI.t6, hI.t7, hI.t8, hI.t9, hI.t10, hI.t11, hI.t12, hI.t13, hI.t14, hI.t15, hI.t16, hI.t17, hI.t18, hI.t19, hI.t20, hI.t21, hI.t22, hI.t23, hI.t24, hI.t25, hI.t26, hI.t27, hI.t28, hI.t29, hI.t30, hI.t31, hI.t32, hI.t33, hI.t34, hI.t35, hI.t36, hI.t37, fun _ => rfl, fun _ => rfl, hI.t40, hI.t41, hI.t42, hI.t43, hI.t44, hI.t45, hI.t46, hI.t47, hI.t48, hI.t49, hI.t50, hI.t51, hI.t52, hI.t53, hI.t54, hI.t55, hI.t56, hI.t57, hI.t58, hI.t59, hI.a1, hI.a2, hI.a3, hI.a5, hI.rl, hI.hm, hI.lm, hI.bw⟩⟩
  · rintro L a wx ⟨v, rfl, hI⟩ hL hdep hcl K hK
    have e39 := hI.t39 (hdep 39 (by decide))
    have e38 := hI.t38 (hdep 38 (by decide))
    rw [e39, e38]
    refine (if_pos rfl).mpr ?_
    go_simp
    exact hK _ _ ⟨(upd (upd (upd v 74 (.int .i64 1)) 73 (.bool true)) 75 (.bool true)), rfl, ⟨hI.t0, hI.t1, hI.t2, hI.t3, hI.t4, hI.t5, hI.t6, hI.t7, hI.t8, hI.t9, hI.t10, hI.t11, hI.t12, hI.t13, hI.t14, hI.t15, hI.t16, hI.t17, hI.t18, hI.t19, hI.t20, hI.t21, hI.t22, hI.t23, hI.t24, hI.t25, hI.t26, hI.t27, hI.t28, hI.t29, hI.t30, hI.t31, hI.t32, hI.t33, hI.t34, hI.t35, hI.t36, hI.t37, fun _ => rfl, fun _ => rfl, fun _ => rfl, hI.t41, hI.t42, hI.t43, hI.t44, hI.t45, hI.t46, hI.t47, hI.t48, hI.t49, hI.t50, hI.t51, hI.t52, hI.t53, hI.t54, hI.t55, hI.t56, hI.t57, hI.t58, hI.t59, hI.a1, hI.a2, hI.a3, hI.a5, hI.rl, hI.hm, hI.lm, hI.bw⟩⟩
  · rintro L a wx ⟨v, rfl, hI⟩ hL hdep hcl K hK
    have e38 := hI.t38 (hdep 38 (by decide))
    have e40 := hI.t40 (hdep 40 (by decide))
    rw [e38, e40]
    go_simp
    exact hK _ _ ⟨(upd (upd (upd v 73 (.bool true)) 75 (.bool true)) 76 (.bool true)), rfl, ⟨hI.t0, hI.t1, hI.t2, hI.t3, hI.t4, hI.t5, hI.t6, hI.t7, hI.t8, hI.t9, hI.t10, hI.t11, hI.t12, hI.t13, hI.t14, hI.t15, hI.t16, hI.t17, hI.t18, hI.t19, hI.t20, hI.t21, hI.t22, hI.t23, hI.t24, hI.t25, hI.t26, hI.t27, hI.t28, hI.t29, hI.t30, hI.t31, hI.t32, hI.t33, hI.t34, hI.t35, hI.t36, hI.t37, fun _ => rfl, hI.t39, fun _ => rfl, fun _ => rfl, hI.t42, hI.t43, hI.t44, hI.t45, hI.t46, hI.t47, hI.t48, hI.t49, hI.t50, hI.t51, hI.t52, hI.t53, hI.t54, hI.t55, hI.t56, hI.t57, hI.t58, hI.t59, hI.a1, hI.a2, hI.a3, hI.a5, hI.rl, hI.hm, hI.lm, hI.bw⟩⟩
  · rintro L a wx ⟨v, rfl, hI⟩ hL hdep hcl K hK
    have e41 := hI.t41 (hdep 41 (by decide))
    rw [e41]
    go_simp
    exact hK _ _ ⟨(upd (upd v 76 (.bool true)) 77 (.bool true)), rfl, ⟨hI.t0, hI.t1, hI.t2, hI.t3, hI.t4, hI.t5, hI.t6, hI.t7, hI.t8, hI.t9, hI.t10, hI.t11, hI.t12, hI.t13, hI.t14, hI.t15, hI.t16, hI.t17, hI.t18, hI.t19, hI.t20, hI.t21, hI.t22, hI.t23, hI.t24, hI.t25, hI.t26, hI.t27, hI.t28, hI.t29, hI.t30, hI.t31, hI.t32, hI.t33, hI.t34, hI.t35, hI.t36, hI.t37, hI.t38, hI.t39, hI.t40, fun _ => rfl, fun _ => rfl, hI.t43, hI.t44, hI.t45, hI.t46, hI.t47, hI.t48, hI.t49, hI.t50, hI.t51, hI.t52, hI.t53, hI.t54, hI.t55, hI.t56, hI.t57, hI.t58, hI.t59, hI.a1, hI.a2, hI.a3, hI.a5, hI.rl, hI.hm, hI.lm, hI.bw⟩⟩
  · rintro L a wx ⟨v, rfl, hI⟩ hL hdep hcl K hK
    have e42 := hI.t42 (hdep 42 (by decide))
    rw [e42]
    refine (if_pos rfl).mpr ?_
    go_simp
    exact hK _ _ ⟨(upd (upd v 77 (.bool true)) 78 (.slice (some ⟨gm, 0, none⟩) 2 cm)), rfl, ⟨hI.t0, hI.t1, hI.t2, hI.t3, hI.t4, hI.t5, hI.t6, hI.t7, hI.t8, hI.t9, hI.t10, hI.t11, hI.t12, hI.t13, hI.t14, hI.t15, hI.t16, hI.t17, hI.t18, hI.t19, hI.t20, hI.t21, hI.t22, hI.t23, hI.t24, hI.t25, hI.t26, hI.t27, hI.t28, hI.t29, hI.t30, hI.t31, hI.t32, hI.t33, hI.t34, hI.t35, hI.t36, hI.t37, hI.t38, hI.t39, hI.t40, hI.t41, fun _ => rfl, fun _ => rfl, hI.t44, hI.t45, hI.t46, hI.t47, hI.t48, hI.t49, hI.t50, hI.t51, hI.t52, hI.t53, hI.t54, hI.t55, hI.t56, hI.t57, hI.t58, hI.t59, hI.a1, hI.a2, hI.a3, hI.a5, hI.rl, hI.hm, hI.lm, hI.bw⟩⟩
  · rintro L a wx ⟨v, rfl, hI⟩ hL hdep hcl K hK
    have e43 := hI.t43 (hdep 43 (by decide))
    have e42 := hI.t42 (hdep 42 (by decide))
    rw [e43, e42]
    refine (if_pos rfl).mpr ?_
    go_simp
    exact hK _ _ ⟨(upd (upd (upd v 78 (.slice (some ⟨gm, 0, none⟩) 2 cm)) 77 (.bool true)) 79 (.int .i64 2)), rfl, ⟨hI.t0, hI.t1, hI.t2, hI.t3, hI.t4, hI.t5, hI.t6, hI.t7, hI.t8, hI.t9, hI.t10, hI.t11, hI.t12, hI.t13, hI.t14, hI.t15, hI.t16, hI.t17, hI.t18, hI.t19, hI.t20, hI.t21, hI.t22, hI.t23, hI.t24, hI.t25, hI.t26, hI.t27, hI.t28, hI.t29, hI.t30, hI.t31, hI.t32, hI.t33, hI.t34, hI.t35, hI.t36, hI.t37, hI.t38, hI.t39, hI.t40, hI.t41, fun _ => rfl, fun _ => rfl, fun _ => rfl, hI.t45, hI.t46, hI.t47, hI.t48, hI.t49, hI.t50, hI.t51, hI.t52, hI.t53, hI.t54, hI.t55, hI.t56, hI.t57, hI.t58, hI.t59, hI.a1, hI.a2, hI.a3, hI.a5, hI.rl, hI.hm, hI.lm, hI.bw⟩⟩
  · rintro L a wx ⟨v, rfl, hI⟩ hL hdep hcl K hK
    have e44 := hI.t44 (hdep 44 (by decide))
    have e42 := hI.t42 (hdep 42 (by decide))
    rw [e44, e42]
    refine (if_pos rfl).mpr ?_
    go_simp
    exact hK _ _ ⟨(upd (upd (upd v 79 (.int .i64 2)) 77 (.bool true)) 80 (.bool true)), rfl, ⟨hI.t0, hI.t1, hI.t2, hI.t3, hI.t4, hI.t5, hI.t6, hI.t7, hI.t8, hI.t9, hI.t10, hI.t11, hI.t12, hI.t13, hI.t14, hI.t15, hI.t16, hI.t17, hI.t18, hI.t19, hI.t20, hI.t21, hI.t22, hI.t23, hI.t24, hI.t25, hI.t26, hI.t27, hI.t28, hI.t29, hI.t30, hI.t31, hI.t32, hI.t33, hI.t34, hI.t35, hI.t36, hI.t37, hI.t38, hI.t39, hI.t40, hI.t41, fun _ => rfl, hI.t43, fun _ => rfl, fun _ => rfl, hI.t46, hI.t47, hI.t48, hI.t49, hI.t50, hI.t51, hI.t52, hI.t53, hI.t54, hI.t55, hI.t56, hI.t57, hI.t58, hI.t59, hI.a1, hI.a2, hI.a3, hI.a5, hI.rl, hI.hm, hI.lm, hI.bw⟩⟩
  · rintro L a wx ⟨v, rfl, hI⟩ hL hdep hcl K hK
    have e42 := hI.t42 (hdep 42 (by decide))
    have e45 := hI.t45 (hdep 45 (by decide))
    rw [e42, e45]
    go_simp
    exact hK _ _ ⟨(upd (upd (upd v 77 (.bool true)) 80 (.bool true)) 81 (.bool true)), rfl, ⟨hI.t0, hI.t1, hI.t2, hI.t3, hI.t4, hI.t5, hI.t6, hI.t7, hI.t8, hI.t9, hI.t10, hI.t11, hI.t12, hI.t13, hI.t14, hI.t15, hI.t16, hI.t17, hI.t18, hI.t19, hI.t20, hI.t21, hI.t22, hI.t23, hI.t24, hI.t25, hI.t26, hI.t27, hI.t28, hI.t29, hI.t30, hI.t31, hI.t32, hI.t33, hI.t34, hI.t35, hI.t36, hI.t37, hI.t38, hI.t39, hI.t40, hI.t41, fun _ => rfl, hI.t43, hI.t44, fun _ => rfl, fun _ => rfl, hI.t47, hI.t48, hI.t49, hI.t50, hI.t51, hI.t52, hI.t53, hI.t54, hI.t55, hI.t56, hI.t57, hI.t58, hI.t59, hI.a1, hI.a2, hI.a3, hI.a5, hI.rl, hI.hm, hI.lm, hI.bw⟩⟩
  · rintro L a wx ⟨v, rfl, hI⟩ hL hdep hcl K hK
    have e46 := hI.t46 (hdep 46 (by decide))
    rw [e46]
    go_simp
    exact hK _ _ ⟨(upd (upd v 81 (.bool true)) 82 (.bool true)), rfl, ⟨hI.t0, hI.t1, hI.t2, hI.t3, hI.t4, hI.t5, hI.t6, hI.t7, hI.t8, hI.t9, hI.t10, hI.t11, hI.t12, hI.t13, hI.t14, hI.t15, hI.t16, hI.t17, hI.t18, hI.t19, hI.t20, hI.t21, hI.t22, hI.t23, hI.t24, hI.t25, hI.t26, hI.t27, hI.t28, hI.t29, hI.t30, hI.t31, hI.t32, hI.t33, hI.t34, hI.t35, hI.t36, hI.t37, hI.t38, hI.t39, hI.t40, hI.t41, hI.t42, hI.t43, hI.t44, hI.t45, fun _ => rfl, fun _ => rfl, hI.t48, hI.t49, hI.t50, hI.t51, hI.t52, hI.t53, hI.t54, hI.t55, hI.t56, hI.t57, hI.t58, hI.t59, hI.a1, hI.a2, hI.a3, hI.a5, hI.rl, hI.hm, hI.lm, hI.bw⟩⟩
  · rintro L a wx ⟨v, rfl, hI⟩ hL hdep hcl K hK
    have e47 := hI.t47 (hdep 47 (by decide))
    rw [e47]
    refine (if_pos rfl).mpr ?_
    go_simp
    exact hK _ _ ⟨(upd (upd v 82 (.bool true)) 83 (.slice (some ⟨gm, 0, none⟩) 2 cm)), rfl, ⟨hI.t0, hI.t1, hI.t2, hI.t3, hI.t4, hI.t5, hI.t6, hI.t7, hI.t8, hI.t9, hI.t10, hI.t11, hI.t12, hI.t13, hI.t14, hI.t15, hI.t16, hI.t17, hI.t18, hI.t19, hI.t20, hI.t21, hI.t22, hI.t23, hI.t24, hI.t25, hI.t26, hI.t27, hI.t28, hI.t29, hI.t30, hI.t31, hI.t32, hI.t33, hI.t34, hI.t35, hI.t36, hI.t37, hI.t38, hI.t39, hI.t40, hI.t41, hI.t42, hI.t43, hI.t44, hI.t45, hI.t46, fun _ => rfl, fun _ => rfl, hI.t49, hI.t50, hI.t51, hI.t52, hI.t53, hI.t54, hI.t55, hI.t56, hI.t57, hI.t58, hI.t59, hI.a1, hI.a2, hI.a3, hI.a5, hI.rl, hI.hm, hI.lm, hI.bw⟩⟩
  · rintro L a wx ⟨v, rfl, hI⟩ hL hdep hcl K hK
    have e48 := hI.t48 (hdep 48 (by decide))
    have e47 := hI.t47 (hdep 47 (by decide))
    rw [e48, e47]
    refine (if_pos rfl).mpr ?_
    go_simp
    exact hK _ _ ⟨(upd (upd (upd v 83 (.slice (some ⟨gm, 0, none⟩) 2 cm)) 82 (.bool true)) 84 (.pointer (some ⟨gm, 1, none⟩))), rfl, ⟨hI.t0, hI.t1, hI.t2, hI.t3, hI.t4, hI.t5, hI.t6, hI.t7, hI.t8, hI.t9, hI.t10, hI.t11, hI.t12, hI.t13, hI.t14, hI.t15, hI.t16, hI.t17, hI.t18, hI.t19, hI.t20, hI.t21, hI.t22, hI.t23, hI.t24, hI.t25, hI.t26, hI.t27, hI.t28, hI.t29, hI.t30, hI.t31, hI.t32, hI.t33, hI.t34, hI.t35, hI.t36, hI.t37, hI.t38, hI.t39, hI.t40, hI.t41, hI.t42, hI.t43, hI.t44, hI.t45, hI.t46, fun _ => rfl, fun _ => rfl, fun _ => rfl, hI.t50, hI.t51, hI.t52, hI.t53, hI.t54, hI.t55, hI.t56, hI.t57, hI.t58, hI.t59, hI.a1, hI.a2, hI.a3, hI.a5, hI.rl, hI.hm, hI.lm, hI.bw⟩⟩
  · rintro L a wx ⟨v, rfl, hI⟩ hL hdep hcl K hK
    have e49 := hI.t49 (hdep 49 (by decide))
    have e47 := hI.t47 (hdep 47 (by decide))
    rw [e49, e47]
    refine (if_pos rfl).mpr ?_
    have hc := hI.hm
    go_simp
    exact hK _ _ ⟨(upd (upd (upd v 84 (.pointer (some ⟨gm, 1, none⟩))) 82 (.bool true)) 85 (.slice ma 1 mc)), rfl, ⟨hI.t0, hI.t1, hI.t2, hI.t3, hI.t4, hI.t5, hI.t6, hI.t7, hI.t8, hI.t9, hI.t10, hI.t11, hI.t12, hI.t13, hI.t14, hI.t15, hI.t16, hI.t17, hI.t18, hI.t19, hI.t20, hI.t21, hI.t22, hI.t23, hI.t24, hI.t25, hI.t26, hI.t27, hI.t28, hI.t29, hI.t30, hI.t31, hI.t32, hI.t33, hI.t34, hI.t35, hI.t36, hI.t37, hI.t38, hI.t39, hI.t40, hI.t41, hI.t42, hI.t43, hI.t44, hI.t45, hI.t46, fun _ => rfl, hI.t48, fun _ => rfl, fun _ => rfl, hI.t51, hI.t52, hI.t53, hI.t54, hI.t55, hI.t56, hI.t57, hI.t58, hI.t59, hI.a1, hI.a2, hI.a3, hI.a5, hI.rl, hI.hm, hI.lm, hI.bw⟩⟩
  · rintro L a wx ⟨v, rfl, hI⟩ hL hdep hcl K hK
    have e50 := hI.t50 (hdep 50 (by decide))
    have e47 := hI.t47 (hdep 47 (by decide))
    rw [e50, e47]
    refine (if_pos rfl).mpr ?_
    go_simp
    exact hK _ _ ⟨(upd (upd (upd v 85 (.slice ma 1 mc)) 82 (.bool true)) 86 (.int .i64 1)), rfl, ⟨hI.t0, hI.t1, hI.t2, hI.t3, hI.t4, hI.t5, hI.t6, hI.t7, hI.t8, hI.t9, hI.t10, hI.t11, hI.t12, hI.t13, hI.t14, hI.t15, hI.t16, hI.t17, hI.t18, hI.t19, hI.t20, hI.t21, hI.t22, hI.t23, hI.t24, hI.t25, hI.t26, hI.t27, hI.t28, hI.t29, hI.t30, hI.t31, hI.t32, hI.t33, hI.t34, hI.t35, hI.t36, hI.t37, hI.t38, hI.t39, hI.t40, hI.t41, hI.t42, hI.t43, hI.t44, hI.t45, hI.t46, fun _ => rfl, hI.t48, hI.t49, fun _ => rfl, fun _ => rfl, hI.t52, hI.t53, hI.t54, hI.t55, hI.t56, hI.t57, hI.t58, hI.t59, hI.a1, hI.a2, hI.a3, hI.a5, hI.rl, hI.hm, hI.lm, hI.bw⟩⟩
  · rintro L a wx ⟨v, rfl, hI⟩ hL hdep hcl K hK
    have e51 := hI.t51 (hdep 51 (by decide))
    have e47 := hI.t47 (hdep 47 (by decide))
    rw [e51, e47]
    refine (if_pos rfl).mpr ?_
    go_simp
    exact hK _ _ ⟨(upd (upd (upd v 86 (.int .i64 1)) 82 (.bool true)) 87 (.bool true)), rfl, ⟨hI.t0, hI.t1, hI.t2, hI.t3, hI.t4, hI.t5, hI.t6, hI.t7, hI.t8, hI.t9, hI.t10, hI.t11, hI.t12, hI.t13, hI.t14, hI.t15, hI.t16, hI.t17, hI.t18, hI.t19, hI.t20, hI.t21, hI.t22, hI.t23, hI.t24, hI.t25, hI.t26, hI.t27, hI.t28, hI.t29, hI.t30, hI.t31, hI.t32, hI.t33, hI.t34, hI.t35, hI.t36, hI.t37, hI.t38, hI.t39, hI.t40, hI.t41, hI.t42, hI.t43, hI.t44, hI.t45, hI.t46, fun _ => rfl, hI.t48, hI.t49, hI.t50, fun _ => rfl, fun _ => rfl, hI.t53, hI.t54, hI.t55, hI.t56, hI.t57, hI.t58, hI.t59, hI.a1, hI.a2, hI.a3, hI.a5, hI.rl, hI.hm, hI.lm, hI.bw⟩⟩
  · rintro L a wx ⟨v, rfl, hI⟩ hL hdep hcl K hK
    have e47 := hI.t47 (hdep 47 (by decide))
    have e52 := hI.t52 (hdep 52 (by decide))
    rw [e47, e52]
    go_simp
    exact hK _ _ ⟨(upd (upd (upd v 82 (.bool true)) 87 (.bool true)) 88 (.bool true)), rfl, ⟨hI.t0, hI.t1, hI.t2, hI.t3, hI.t4, hI.t5, hI.t6, hI.t7, hI.t8, hI.t9, hI.t10, hI.t11, hI.t12, hI.t13, hI.t14, hI.t15, hI.t16, hI.t17, hI.t18, hI.t19, hI.t20, hI.t21, hI.t22, hI.t23, hI.t24, hI.t25, hI.t26, hI.t27, hI.t28, hI.t29, hI.t30, hI.t31, hI.t32, hI.t33, hI.t34, hI.t35, hI.t36, hI.t37, hI.t38, hI.t39, hI.t40, hI.t41, hI.t42, hI.t43, hI.t44, hI.t45, hI.t46, fun _ => rfl, hI.t48, hI.t49, hI.t50, hI.t51, fun _ => rfl, fun _ => rfl, hI.t54, hI.t55, hI.t56, hI.t57, hI.t58, hI.t59, hI.a1, hI.a2, hI.a3, hI.a5, hI.rl, hI.hm, hI.lm, hI.bw⟩⟩
  · rintro L a wx ⟨v, rfl, hI⟩ hL hdep hcl K hK
    have e53 := hI.t53 (hdep 53 (by decide))
    rw [e53]
    go_simp
    exact hK _ _ ⟨(upd (upd v 88 (.bool true)) 89 (.bool true)), rfl, ⟨hI.t0, hI.t1, hI.t2, hI.t3, hI.t4, hI.t5, hI.t6, hI.t7, hI.t8, hI.t9, hI.t10, hI.t11, hI.t12, hI.t13, hI.t14, hI.t15, hI.t16, hI.t17, hI.t18, hI.t19, hI.t20, hI.t21, hI.t22, hI.t23, hI.t24, hI.t25, hI.t26, hI.t27, hI.t28, hI.t29, hI.t30, hI.t31, hI.t32, hI.t33, hI.t34, hI.t35, hI.t36, hI.t37, hI.t38, hI.t39, hI.t40, hI.t41, hI.t42, hI.t43, hI.t44, hI.t45, hI.t46, hI.t47, hI.t48, hI.t49, hI.t50, hI.t51, hI.t52, fun _ => rfl, fun _ => rfl, hI.t55, hI.t56, hI.t57, hI.t58, hI.t59, hI.a1, hI.a2, hI.a3, hI.a5, hI.rl, hI.hm, hI.lm, hI.bw⟩⟩
  · rintro L a wx ⟨v, rfl, hI⟩ hL hdep hcl K hK
    have e54 := hI.t54 (hdep 54 (by decide))
    rw [e54]
    refine (if_pos rfl).mpr ?_
    refine ow_load 25 _ rfl g1 0 rfl 25 (bvs HA) (bvs HA) hI.a1 (fun j v h => by rw [Nat.zero_add]; exact h) (.array 32 5) Try.underlying25 rfl IA.out ?_
    exact hK _ _ ⟨(upd (upd v 89 (.bool true)) 90 (.agg (bvs HA).toArray)), rfl, ⟨hI.t0, hI.t1, hI.t2, hI.t3, hI.t4, hI.t5, hI.t6, hI.t7, hI.t8, hI.t9, hI.t10, hI.t11, hI.t12, hI.t13, hI.t14, hI.t15, hI.t16, hI.t17, hI.t18, hI.t19, hI.t20, hI.t21, hI.t22, hI.t23, hI.t24, hI.t25, hI.t26, hI.t27, hI.t28, hI.t29, hI.t30, hI.t31, hI.t32, hI.t33, hI.t34, hI.t35, hI.t36, hI.t37, hI.t38, hI.t39, hI.t40, hI.t41, hI.t42, hI.t43, hI.t44, hI.t45, hI.t46, hI.t47, hI.t48, hI.t49, hI.t50, hI.t51, hI.t52, hI.t53, fun _ => rfl, fun _ => rfl, hI.t56, hI.t57, hI.t58, hI.t59, hI.a1, hI.a2, hI.a3, hI.a5, hI.rl, hI.hm, hI.lm, hI.bw⟩⟩
  · rintro L a wx ⟨v, rfl, hI⟩ hL hdep hcl K hK
    have e54 := hI.t54 (hdep 54 (by decide))
    rw [e54]
    refine (if_pos rfl).mpr ?_
    refine ow_load 25 _ rfl g2 0 rfl 25 (bvs HB) (bvs HB) hI.a2 (fun j v h => by rw [Nat.zero_add]; exact h) (.array 32 5) Try.underlying25 rfl IB.out ?_
    exact hK _ _ ⟨(upd (upd v 89 (.bool true)) 91 (.agg (bvs HB).toArray)), rfl, ⟨hI.t0, hI.t1, hI.t2, hI.t3, hI.t4, hI.t5, hI.t6, hI.t7, hI.t8, hI.t9, hI.t10, hI.t11, hI.t12, hI.t13, hI.t14, hI.t15, hI.t16, hI.t17, hI.t18, hI.t19, hI.t20, hI.t21, hI.t22, hI.t23, hI.t24, hI.t25, hI.t26, hI.t27, hI.t28, hI.t29, hI.t30, hI.t31, hI.t32, hI.t33, hI.t34, hI.t35, hI.t36, hI.t37, hI.t38, hI.t39, hI.t40, hI.t41, hI.t42, hI.t43, hI.t44, hI.t45, hI.t46, hI.t47, hI.t48, hI.t49, hI.t50, hI.t51, hI.t52, hI.t53, fun _ => rfl, hI.t55, fun _ => rfl, hI.t57, hI.t58, hI.t59, hI.a1, hI.a2, hI.a3, hI.a5, hI.rl, hI.hm, hI.lm, hI.bw⟩⟩
  · rintro L a wx ⟨v, rfl, hI⟩ hL hdep hcl K hK
    have e55 := hI.t55 (hdep 55 (by decide))
    have e56 := hI.t56 (hdep 56 (by decide))
    have e54 := hI.t54 (hdep 54 (by decide))
    rw [e55, e56, e54]
    refine (if_pos rfl).mpr ?_
    have hq := QNE.out wx
    go_simp
    exact hK _ _ ⟨(upd (upd (upd (upd v 90 (.agg (bvs HA).toArray)) 91 (.agg (bvs HB).toArray)) 89 (.bool true)) 92 (.bool true)), rfl, ⟨hI.t0, hI.t1, hI.t2, hI.t3, hI.t4, hI.t5, hI.t6, hI.t7, hI.t8, hI.t9, hI.t10, hI.t11, hI.t12, hI.t13, hI.t14, hI.t15, hI.t16, hI.t17, hI.t18, hI.t19, hI.t20, hI.t21, hI.t22, hI.t23, hI.t24, hI.t25, hI.t26, hI.t27, hI.t28, hI.t29, hI.t30, hI.t31, hI.t32, hI.t33, hI.t34, hI.t35, hI.t36, hI.t37, hI.t38, hI.t39, hI.t40, hI.t41, hI.t42, hI.t43, hI.t44, hI.t45, hI.t46, hI.t47, hI.t48, hI.t49, hI.t50, hI.t51, hI.t52, hI.t53, fun _ => rfl, fun _ => rfl, fun _ => rfl, fun _ => rfl, hI.t58, hI.t59, hI.a1, hI.a2, hI.a3, hI.a5, hI.rl, hI.hm, hI.lm, hI.bw⟩⟩
  · rintro L a wx ⟨v, rfl, hI⟩ hL hdep hcl K hK
    have e54 := hI.t54 (hdep 54 (by decide))
    have e57 := hI.t57 (hdep 57 (by decide))
    rw [e54, e57]
    go_simp
    exact hK _ _ ⟨(upd (upd (upd v 89 (.bool true)) 92 (.bool true)) 93 (.bool true)), rfl, ⟨hI.t0, hI.t1, hI.t2, hI.t3, hI.t4, hI.t5, hI.t6, hI.t7, hI.t8, hI.t9, hI.t10, hI.t11, hI.t12, hI.t13, hI.t14, hI.t15, hI.t16, hI.t17, hI.t18, hI.t19, hI.t20, hI.t21, hI.t22, hI.t23, hI.t24, hI.t25, hI.t26, hI.t27, hI.t28, hI.t29, hI.t30, hI.t31, hI.t32, hI.t33, hI.t34, hI.t35, hI.t36, hI.t37, hI.t38, hI.t39, hI.t40, hI.t41, hI.t42, hI.t43, hI.t44, hI.t45, hI.t46, hI.t47, hI.t48, hI.t49, hI.t50, hI.t51, hI.t52, hI.t53, fun _ => rfl, hI.t55, hI.t56, fun _ => rfl, fun _ => rfl, hI.t59, hI.a1, hI.a2, hI.a3, hI.a5, hI.rl, hI.hm, hI.lm, hI.bw⟩⟩
  · rintro L a wx ⟨v, rfl, hI⟩ hL hdep hcl K hK
    have e58 := hI.t58 (hdep 58 (by decide))
    rw [e58]
    go_simp
    exact hK _ _ ⟨(upd (upd v 93 (.bool true)) 0 (.bool true)), rfl, ⟨hI.t0, hI.t1, hI.t2, hI.t3, hI.t4, hI.t5, hI.t6, hI.t7, hI.t8, hI.t9, hI.t10, hI.t11, hI.t12, hI.t13, hI.t14, hI.t15, hI.t16, hI.t17, hI.t18, hI.t19, hI.t20, hI.t21, hI.t22, hI.t23, hI.t24, hI.t25, hI.t26, hI.t27, hI.t28, hI.t29, hI.t30, hI.t31, hI.t32, hI.t33, hI.t34, hI.t35, hI.t36, hI.t37, hI.t38, hI.t39, hI.t40, hI.t41, hI.t42, hI.t43, hI.t44, hI.t45, hI.t46, hI.t47, hI.t48, hI.t49, hI.t50, hI.t51, hI.t52, hI.t53, hI.t54, hI.t55, hI.t56, hI.t57, fun _ => rfl, fun _ => rfl, hI.a1, hI.a2, hI.a3, hI.a5, hI.rl, hI.hm, hI.lm, hI.bw⟩⟩
  · rintro a wx ⟨v, rfl, hI⟩
    have e := hI.t59 rfl
    rw [e]
    have hbw := hI.bw
    clear hI e
    go_wp2
    go_ret
    exact ⟨rfl, EZ.out.trans (hbw.mono EZs.out)⟩
end Go.Proofs.Ytpnhflpajccbbaa
