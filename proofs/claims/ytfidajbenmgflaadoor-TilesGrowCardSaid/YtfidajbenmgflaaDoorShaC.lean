/-
  Package sha: the numbers that a block is made into. Conditions: those in each statement.
-/
import Derived.Test.YtfidajbenmgflaaDoorShaP
import Derived.StillTailTactics
import Derived.Deep.DeepCutAuto
import Derived.Deep.CutBlock
import Derived.Deep.RegionHeld3
namespace Go.Proofs.YtfidajbenmgflaaDoor
open Go.RowKit

theorem qs_get (ws : List UInt32) (j : Nat) (h : j < ws.length) : (qs ws)[j]? = some (.int .u32 ((ws.getD j 0).toNat : Int)) := by
  simp [qs, q, h, List.getD]
theorem bvs_get (xs : List UInt8) (j : Nat) (h : j < xs.length) : (bvs xs)[j]? = some (.int .u8 ((xs.getD j 0).toNat : Int)) := by
  simp [bvs, bv, h, List.getD]
theorem qs_set (ws : List UInt32) (j : Nat) (x : UInt32) : (qs ws).set j (.int .u32 (x.toNat : Int)) = qs (ws.set j x) := by
  simp [qs, List.map_set]; rfl

set_option maxRecDepth 100000 in
set_option maxHeartbeats 1600000 in
set_option maxRecDepth 100000 in
theorem numbers_any (xs : List UInt8) (hx : xs.length = 64) (w : World) : Calls Tryd.prog 82 #[.agg (bvs xs).toArray] w (Tab (sched xs) w) := by
  have HX := Lib.hid hx
  clear hx
  go_enter Tryd.func82, Tryd.ntmps82
  go_wp2_with (first
    | ((with_reducible show wpList _ _ _ (⟨some 1, .box _ _, _, _, _, _⟩ :: _) _ _); refine wl_box rfl 108 _ rfl (bvs xs) rfl ?_; intro w1 hA1 hb1 hs1)
    | ((with_reducible show wpList _ _ _ (⟨some 2, .alloc _, _, _, _, _⟩ :: _) _ _); refine wl_alloc rfl 132 rfl (qs (Z 64)) 64 info64 ?_; intro w2 hA2 hb2 hs2)
    | ((with_reducible show wpList _ _ _ (⟨some 3, .alloc _, _, _, _, _⟩ :: _) _ _); refine wl_alloc rfl 132 rfl (qs (Z 64)) 64 info64 ?_; intro w3 hA3 hb3 hs3))
  generalize h1 : w.heap.size = g1 at *
  generalize h2 : w1.heap.size = g2 at *
  generalize h3 : w2.heap.size = g3 at *
  have G1 := Lib.hid h1
  have G2 := Lib.hid h2
  have G3 := Lib.hid h3
  clear h1 h2 h3
  have hB3 : Below g1 w w3 := hb1.trans ((hb2.mono (Nat.le_of_lt hs1)).trans (hb3.mono (by omega)))
  have hX3 : Arr w3 g1 108 (bvs xs) := (hA1.to hb2 hs1).to hb3 (by omega)
  have hR3 : Arr w3 g2 132 (qs (Z 64)) := hA2.to hb3 hs2
  clear hA1 hA2 hb1 hb2 hb3
  have hZ : Arr w3 g3 132 (qs (padZ (words xs 0) 64)) := hA3
  clear hA3
  go_loopw [8] (fun i wr => ∃ k : Nat, k ≤ 16 ∧ i = .int .i64 k ∧ Arr wr g1 108 (bvs xs) ∧ Arr wr g2 132 (qs (Z 64)) ∧ Arr wr g3 132 (qs (padZ (words xs k) 64)) ∧ Below g1 w wr) (fun i _ => 16 - (intOf i).toNat)
  case atStart => exact ⟨0, by omega, rfl, hX3, hR3, hZ, hB3⟩
  case round =>
    obtain ⟨k, hk, rfl, hX, hR, hW, hB⟩ := hrel
    by_cases hlt : k < 16
    · have hl := HX.out
      have c0 := (hX.cell (4 * k)).trans (bvs_get xs (4 * k) (by omega))
      have c1 := (hX.cell (4 * k + 1)).trans (bvs_get xs (4 * k + 1) (by omega))
      have c2 := (hX.cell (4 * k + 2)).trans (bvs_get xs (4 * k + 2) (by omega))
      have c3 := (hX.cell (4 * k + 3)).trans (bvs_get xs (4 * k + 3) (by omega))
      clear hl
      have b0 := (xs.getD (4 * k) 0).toNat_lt
      have b1 := (xs.getD (4 * k + 1) 0).toNat_lt
      have b2 := (xs.getD (4 * k + 2) 0).toNat_lt
      have b3 := (xs.getD (4 * k + 3) 0).toNat_lt
      have HO : Hid (bits .or .u32 (bits .or .u32 (bits .or .u32 (((xs.getD (4 * k) 0).toNat : Int) * 16777216) (((xs.getD (4 * k + 1) 0).toNat : Int) * 65536)) (((xs.getD (4 * k + 2) 0).toNat : Int) * 256)) ((xs.getD (4 * k + 3) 0).toNat : Int) = (((((xs.getD (4 * k) 0).toNat * 256 + (xs.getD (4 * k + 1) 0).toNat) * 256 + (xs.getD (4 * k + 2) 0).toNat) * 256 + (xs.getD (4 * k + 3) 0).toNat : Nat) : Int)) := or4 _ _ _ _ b0 b1 b2 b3
      have hwk : Hid ((word xs k).toNat = (((xs.getD (4 * k) 0).toNat * 256 + (xs.getD (4 * k + 1) 0).toNat) * 256 + (xs.getD (4 * k + 2) 0).toNat) * 256 + (xs.getD (4 * k + 3) 0).toNat) := be4_toNat _ _ _ _
      generalize (xs.getD (4 * k) 0).toNat = y0 at *
      generalize (xs.getD (4 * k + 1) 0).toNat = y1 at *
      generalize (xs.getD (4 * k + 2) 0).toNat = y2 at *
      generalize (xs.getD (4 * k + 3) 0).toNat = y3 at *
      have hwl := words_len xs k
      have cw := hW.cell k
      rw [qs_get _ k (by rw [padZ_len _ _ (by omega)]; omega)] at cw
      have fw := hW.frozen k
      have hst := hW.store k (.int .u32 ((word xs k).toNat : Int))
      rw [qs_set, show (padZ (words xs k) 64).set k (word xs k) = padZ (words xs (k + 1)) 64 by
        have := padZ_snoc (words xs k) 64 (word xs k) (by omega)
        rw [hwl] at this
        rw [this, words_snoc]] at hst
      have hX' := hX.other ⟨g3, k, none⟩ (by simp; omega) (.int .u32 ((word xs k).toNat : Int))
      have hR' := hR.other ⟨g3, k, none⟩ (by simp; omega) (.int .u32 ((word xs k).toNat : Int))
      have hB' := hB.setCell (p := ⟨g3, k, none⟩) (by simp; omega) (.int .u32 ((word xs k).toNat : Int))
      clear hwl hX hR hW hB
      go_upto_region 5 with fail
      go_region
      go_wp2
      go_roundw
      case rel =>
        rw [HO.out, ← hwk.out]
        exact ⟨k + 1, by omega, by go_num, hX'.drew, hR'.drew, hst.drew, hB'.drew⟩
      case measure => simp [intOf]; omega
    · obtain rfl : k = 16 := by omega
      clear hk hlt
      rw [show (((16 : Nat) : Int)) = 16 from rfl]
      go_wp2_with fail
      go_loopw [5] (fun i wr => ∃ k : Nat, k ≤ 48 ∧ i = .int .i64 ((16 + k : Nat) : Int) ∧ Arr wr g1 108 (bvs xs) ∧ Arr wr g2 132 (qs (Z 64)) ∧ Arr wr g3 132 (qs (padZ (grow k (words xs 16)) 64)) ∧ Below g1 w wr) (fun i _ => 64 - (intOf i).toNat)
      case atStart => exact ⟨0, by omega, by go_num, hX, hR, hW, hB⟩
      case round =>
        obtain ⟨k, hk, rfl, hX, hR, hW, hB⟩ := hrel
        have hgl := grow_len k (words xs 16)
        have hwl := words_len xs 16
        have hnx : Hid (grow (k + 1) (words xs 16) = grow k (words xs 16) ++ [nextW (grow k (words xs 16))]) := rfl
        obtain ⟨i, hi⟩ : ∃ i : Nat, 16 + k = i := ⟨_, rfl⟩
        by_cases hlt : k < 48
        · generalize grow k (words xs 16) = ws at *
          rw [hwl, hi] at hgl
          rw [hi]
          have hpl := padZ_len ws 64 (by omega)
          have cell : ∀ j, j < ws.length → wr.cell? ⟨g3, j, none⟩ = some (.int .u32 ((ws.getD j 0).toNat : Int)) := fun j hj => by
            rw [hW.cell, qs_get _ _ (by omega), padZ_getD _ _ _ hj]
          have c16 := cell (i - 16) (by omega)
          have c15 := cell (i - 15) (by omega)
          have c7 := cell (i - 7) (by omega)
          have c2 := cell (i - 2) (by omega)
          have cw := hW.cell i
          rw [qs_get _ i (by omega)] at cw
          have HW := Lib.hid hW
          have HGL := Lib.hid hgl
          have HI := Lib.hid hi
          have hi16 : 16 ≤ i := by omega
          have hi64 : i < 64 := by omega
          clear cell hwl hgl hpl hW hi
          have hnw : Hid (nextW ws = ws.getD (i - 16) 0 + ws.getD (i - 7) 0 + sg0 (ws.getD (i - 15) 0) + sg1 (ws.getD (i - 2) 0)) := by
            show nextW ws = _
            unfold nextW; rw [HGL.out]
          generalize ws.getD (i - 16) 0 = x16 at *
          generalize ws.getD (i - 15) 0 = x15 at *
          generalize ws.getD (i - 7) 0 = x7 at *
          generalize ws.getD (i - 2) 0 = x2 at *
          go_upto_region 10 with fail
          go_region
          go_upto_region 11 with fail
          have e16 : IntKind.i64.wrap ((i : Int) - 16) = (i : Int) - 16 := IntWalk.i64_in _ (by omega)
          have e7 : IntKind.i64.wrap ((i : Int) - 7) = (i : Int) - 7 := IntWalk.i64_in _ (by omega)
          have f16 : (16 : Int) ≤ (i : Int) := by omega
          have f7 : (7 : Int) ≤ (i : Int) := by omega
          have g16 : (i : Int) - 16 < 64 := by omega
          have g7 : (i : Int) - 7 < 64 := by omega
          have t16 : ((i : Int) - 16).toNat = i - 16 := by omega
          have t7 : ((i : Int) - 7).toNat = i - 7 := by omega
          have dw : Hid (wr.drew.drew.cell? ⟨g3, i, none⟩ = some (.int .u32 (((padZ ws 64).getD i 0).toNat : Int))) := cw
          have kX := hX.drew.drew
          have kR := hR.drew.drew
          have kW := HW.out.drew.drew
          have kB := hB.drew.drew
          have fw : Hid (wr.drew.drew.frozen? ⟨g3, i, none⟩ = false) := kW.frozen i
          have KX := Lib.hid kX
          have KR := Lib.hid kR
          have KW := Lib.hid kW
          have KB := Lib.hid kB
          clear c15 c2 cw hX hR HW hB kX kR kW kB
          refine wp_region_still_tail 29 (by kernel_rfl) (by kernel_rfl) ?_
          simp only [List.take_succ_cons, List.take_zero, List.drop_succ_cons, List.drop_zero]
          change wpStill _ _ wr.drew.drew _ _ _
          repeat (first
            | still_step
            | still_call ((turn_any _ _ (by simp [turns]) (by omega) _).mono fun _ _ h => ⟨h.1, h.2.symm⟩))
          refine wpStill_nil ?_
          clear c16 c7 e16 e7 f16 f7 g16 g7 t16 t7
          change wpList _ _ _ _ _ wr.drew.drew
          generalize wr.drew.drew = wd at *
          have dw' := dw.out
          have fw' := fw.out
          go_wp2
          go_roundw
          case rel =>
            rw [nextW_raw, ← hnw.out]
            have hl2 : ws.length = i := HGL.out
            refine ⟨k + 1, by omega, by rw [show 16 + (k + 1) = i + 1 by have := HI.out; omega]; go_num, KX.out.other _ (by simp; omega) _, KR.out.other _ (by simp; omega) _, ?_, KB.out.setCell (by simp; omega) _⟩
            rw [hnx.out, ← padZ_snoc ws 64 _ (by omega), hl2, ← qs_set]
            exact KW.out.store i _
          case measure =>
            simp [intOf]
            omega
        · obtain rfl : k = 48 := by omega
          have hs : padZ (grow 48 (words xs 16)) 64 = sched xs := padZ_full _ _ (by rw [hgl, hwl])
          have hsl := qs_len (sched xs)
          rw [sched_len] at hsl
          have hsz : (Tryd.prog.info? 132).map (·.size) = some (qs (sched xs)).length := by rw [hsl]; exact size64
          rw [hs] at hW
          have h1 := qs_one (sched xs)
          have h64 : (qs (Z 64)).length = 64 := rfl
          have hBx := hB
          have HSL := Lib.hid hsl
          have H64 := Lib.hid h64
          have HSZ := Lib.hid hsz
          clear hs hgl hwl hnx HX hi hsl h64 hsz
          unfold Tab
          generalize sched xs = S at *
          obtain ⟨V, hV⟩ : ∃ V, V = qs S := ⟨_, rfl⟩
          rw [← hV] at hW HSL HSZ h1
          have HV := Lib.hid hV
          clear hV
          go_wp2_with (first
            | ((with_reducible show wpList _ _ _ (⟨some 84, .load _ _, _, _, _, _⟩ :: _) _ _); refine wl_load rfl 132 _ rfl g3 0 rfl 132 V V hW (fun j v h => by rw [Nat.zero_add]; exact h) (.array 64 104) Tryd.underlying132 rfl HSZ.out ?_)
            | ((with_reducible show wpList _ _ _ (⟨none, .store _ _ _, _, _, _, _⟩ :: _) _ _); refine wl_store rfl 132 _ _ rfl g2 0 rfl V rfl 132 _ hR HSZ.out (by rw [HSL.out, H64.out]; exact Nat.le_refl _) h1 ?_; intro w5 hA5 hg5 hs5))
          refine end_cell rfl g2 132 V (.array 64 104) rfl ?_ Tryd.underlying132 rfl HSZ.out rfl ⟨by rw [HV.out], G1.out ▸ hB.grown hg5 (Nat.le_trans (by omega) (Nat.le_of_lt hR.lt)) (by intro k e; cases e; omega)⟩
          have e : List.take 0 (qs (Z 64)) ++ V ++ List.drop (0 + V.length) (qs (Z 64)) = V := by
            rw [List.drop_of_length_le (by rw [H64.out, HSL.out]; exact Nat.le_refl _)]; simp
          rw [e] at hA5
          exact hA5
end Go.Proofs.YtfidajbenmgflaaDoor
