/-
  Layer 6: the document's own Unmark. Conditions: those in each statement.
-/
import Derived.Test.YtebegdifnkifgaaSgH
namespace Go.Proofs.Ytebegdifnkifgaa
open Go.RowKit

theorem unmB_of {b : List UInt8} (h : b.length = 68) : unmB b = (decide ((b.getD 0 0).toNat = 8) && decide ((b.getD 1 0).toNat = 7) && decide ((b.getD 2 0).toNat = 0) && decide ((b.getD 3 0).toNat = 64)) := by
  match b, h with
  | x :: y :: z :: u :: r, h =>
    unfold unmB mhead
    rw [h]
    rw [Bool.eq_iff_iff]
    simp [← UInt8.toNat_inj, and_assoc]

set_option maxHeartbeats 800000 in
theorem rUnmark_no (b : List UInt8) (a : Option Addr) (n c : Nat) (w : World) (hr : Rd w a n c b) (hh : unmB b = false) :
    Calls Try.prog 17 #[.slice a n c] w fun e w' => e = .returned (.tuple #[.agg (bvs (Z8 64)).toArray, .int .i64 5]) ∧ Below w.heap.size w w' := by
  have H64 : Hid ((Try.prog.info? 23).map (·.size) = some (bvs (Z8 64)).length) := sizeSig
  by_cases h68 : n = 68
  · subst h68
    have hl := hr.len
    have hcap := hr.le
    obtain ⟨bb, off, rfl, hbb, hcx⟩ := hr.mem (by omega)
    have hu := unmB_of hl
    rw [hh] at hu
    have c0 := hcx 0 (by omega)
    have c1 := hcx 1 (by omega)
    have c2 := hcx 2 (by omega)
    have c3 := hcx 3 (by omega)
    generalize (b.getD 0 0).toNat = y0 at *
    generalize (b.getD 1 0).toNat = y1 at *
    generalize (b.getD 2 0).toNat = y2 at *
    generalize (b.getD 3 0).toNat = y3 at *
    have hcc : Hid (∀ w1 w2, Below w.heap.size w w1 → Below w1.heap.size w1 w2 → w2.cell? ⟨bb, off, none⟩ = some (.int .u8 (y0 : Int)) ∧ w2.cell? ⟨bb, off + 1, none⟩ = some (.int .u8 (y1 : Int)) ∧ w2.cell? ⟨bb, off + 2, none⟩ = some (.int .u8 (y2 : Int)) ∧ w2.cell? ⟨bb, off + 3, none⟩ = some (.int .u8 (y3 : Int))) := fun w1 w2 h1 h2 => by
      have hb := h1.trans (h2.mono h1.size)
      exact ⟨(hb.cell (p := ⟨bb, off, none⟩) hbb).trans c0, (hb.cell (p := ⟨bb, off + 1, none⟩) hbb).trans c1, (hb.cell (p := ⟨bb, off + 2, none⟩) hbb).trans c2, (hb.cell (p := ⟨bb, off + 3, none⟩) hbb).trans c3⟩
    have hne : y0 ≠ 8 ∨ (y0 = 8 ∧ y1 ≠ 7) ∨ (y0 = 8 ∧ y1 = 7 ∧ y2 ≠ 0) ∨ (y0 = 8 ∧ y1 = 7 ∧ y2 = 0 ∧ y3 ≠ 64) := by
      have hu' : ¬ (((y0 = 8 ∧ y1 = 7) ∧ y2 = 0) ∧ y3 = 64) := by simpa using hu.symm
      omega
    clear hr hl hcx hh hu c0 c1 c2 c3
    rcases hne with h | ⟨rfl, h⟩ | ⟨rfl, rfl, h⟩ | ⟨rfl, rfl, rfl, h⟩
    all_goals
      first
        | (have g1 : ((y0 : Int) != 8) = true := (by simp; omega); have g2 : ((y0 : Int) == 8) = false := (by simp; omega))
        | (have g1 : ((y1 : Int) != 7) = true := (by simp; omega); have g2 : ((y1 : Int) == 7) = false := (by simp; omega))
        | (have g1 : ((y2 : Int) != 0) = true := (by simp; omega); have g2 : ((y2 : Int) == 0) = false := (by simp; omega))
        | (have g1 : ((y3 : Int) != 64) = true := (by simp; omega); have g2 : ((y3 : Int) == 64) = false := (by simp; omega))
      clear h
      go_enter Try.func17, Try.ntmps17
      go_upto_region 2 with (first
        | ((with_reducible show wpList _ _ _ (⟨some 2, .alloc _, _, _, _, _⟩ :: _) _ _); refine wl_alloc rfl 23 rfl (bvs (Z8 64)) 64 infoSig ?_; intro w1 hA1 hb1 hs1)
        | ((with_reducible show wpList _ _ _ (⟨some 4, .alloc _, _, _, _, _⟩ :: _) _ _); refine wl_alloc rfl 23 rfl (bvs (Z8 64)) 64 infoSig ?_; intro w2 hA2 hb2 hs2))
      obtain ⟨c0, c1, c2, c3⟩ := hcc.out _ _ hb1 hb2
      go_wp2_with (first
        | ((with_reducible show wpList _ _ _ (⟨some 33, .load _ _, _, _, _, _⟩ :: _) _ _); refine wl_load rfl 23 _ rfl w1.heap.size 0 rfl 23 (bvs (Z8 64)) (bvs (Z8 64)) hA2 (fun j v h => by rw [Nat.zero_add]; exact h) (.array 64 5) Try.underlying23 rfl H64.out ?_)
        | ((with_reducible show wpList _ _ _ (⟨none, .store _ _ _, _, _, _, _⟩ :: _) _ _); refine wl_store rfl 23 _ _ rfl w.heap.size 0 rfl (bvs (Z8 64)) rfl 23 _ (hA1.kept hb2) H64.out (by decide) (bvs_one _) ?_; intro w15 hR15 hg15 hs15))
      rw [whole_store _ _ (by rfl)] at hR15
      refine end_cell2 rfl w.heap.size 23 (bvs (Z8 64)) (.array 64 5) (.int .i64 5) rfl hR15 Try.underlying23 rfl H64.out rfl rfl ⟨rfl, ?_⟩
      exact (hb1.trans (hb2.mono (Nat.le_of_lt hs1))).grown hg15 (by omega) (by intro k e; injection e with e; omega)
  · have g1 : ((n : Int) != 68) = true := by simp; omega
    have g2 : ((n : Int) == 68) = false := by simp; omega
    clear h68 hr hh
    go_enter Try.func17, Try.ntmps17
    go_wp2_with (first
      | ((with_reducible show wpList _ _ _ (⟨some 2, .alloc _, _, _, _, _⟩ :: _) _ _); refine wl_alloc rfl 23 rfl (bvs (Z8 64)) 64 infoSig ?_; intro w1 hA1 hb1 hs1)
      | ((with_reducible show wpList _ _ _ (⟨some 4, .alloc _, _, _, _, _⟩ :: _) _ _); refine wl_alloc rfl 23 rfl (bvs (Z8 64)) 64 infoSig ?_; intro w2 hA2 hb2 hs2)
      | ((with_reducible show wpList _ _ _ (⟨some 33, .load _ _, _, _, _, _⟩ :: _) _ _); refine wl_load rfl 23 _ rfl w1.heap.size 0 rfl 23 (bvs (Z8 64)) (bvs (Z8 64)) hA2 (fun j v h => by rw [Nat.zero_add]; exact h) (.array 64 5) Try.underlying23 rfl H64.out ?_)
      | ((with_reducible show wpList _ _ _ (⟨none, .store _ _ _, _, _, _, _⟩ :: _) _ _); refine wl_store rfl 23 _ _ rfl w.heap.size 0 rfl (bvs (Z8 64)) rfl 23 _ (hA1.kept hb2) H64.out (by decide) (bvs_one _) ?_; intro w15 hR15 hg15 hs15))
    rw [whole_store _ _ (by rfl)] at hR15
    refine end_cell2 rfl w.heap.size 23 (bvs (Z8 64)) (.array 64 5) (.int .i64 5) rfl hR15 Try.underlying23 rfl H64.out rfl rfl ⟨rfl, ?_⟩
    exact (hb1.trans (hb2.mono (Nat.le_of_lt hs1))).grown hg15 (by omega) (by intro k e; injection e with e; omega)

set_option maxHeartbeats 800000 in
theorem rUnmark_yes (b : List UInt8) (a : Option Addr) (n c : Nat) (w : World) (hr : Rd w a n c b) (hh : unmB b = true) :
    Calls Try.prog 17 #[.slice a n c] w fun e w' => e = .returned (.tuple #[.agg (bvs (b.drop 4)).toArray, .int .i64 0]) ∧ Below w.heap.size w w' := by
  have hl := hr.len
  have h68 : b.length = 68 := by
    simp only [unmB, Bool.and_eq_true, decide_eq_true_eq] at hh
    exact hh.1
  obtain rfl : n = 68 := by omega
  have hcap := hr.le
  obtain ⟨bb, off, rfl, hbb, hcx⟩ := hr.mem (by omega)
  have hu := unmB_of h68
  rw [hh] at hu
  have c0 := hcx 0 (by omega)
  have c1 := hcx 1 (by omega)
  have c2 := hcx 2 (by omega)
  have c3 := hcx 3 (by omega)
  have hy : (((b.getD 0 0).toNat = 8 ∧ (b.getD 1 0).toNat = 7) ∧ (b.getD 2 0).toNat = 0) ∧ (b.getD 3 0).toNat = 64 := by simpa [-List.getD_eq_getElem?_getD] using hu.symm
  rw [hy.1.1.1] at c0
  rw [hy.1.1.2] at c1
  rw [hy.1.2] at c2
  rw [hy.2] at c3
  have hcc : Hid (∀ w1 w2, Below w.heap.size w w1 → Below w1.heap.size w1 w2 → w2.cell? ⟨bb, off, none⟩ = some (.int .u8 8) ∧ w2.cell? ⟨bb, off + 1, none⟩ = some (.int .u8 7) ∧ w2.cell? ⟨bb, off + 2, none⟩ = some (.int .u8 0) ∧ w2.cell? ⟨bb, off + 3, none⟩ = some (.int .u8 64)) := fun w1 w2 h1 h2 => by
    have hb := h1.trans (h2.mono h1.size)
    exact ⟨(hb.cell (p := ⟨bb, off, none⟩) hbb).trans c0, (hb.cell (p := ⟨bb, off + 1, none⟩) hbb).trans c1, (hb.cell (p := ⟨bb, off + 2, none⟩) hbb).trans c2, (hb.cell (p := ⟨bb, off + 3, none⟩) hbb).trans c3⟩
  have hdl : (b.drop 4).length = 64 := by simp [h68]
  have HDL := Lib.hid hdl
  have h64 : Hid ((Try.prog.info? 23).map (·.size) = some (bvs (b.drop 4)).length) := by show _ = _; rw [bvs_len, hdl]; exact sizeSig
  have l64 : Hid ((bvs (b.drop 4)).length = 64) := by show _ = _; rw [bvs_len, hdl]
  have hcy : Hid (∀ j, j < 64 → w.cell? ⟨bb, off + (4 + j), none⟩ = some (.int .u8 (((b.drop 4).getD j 0).toNat : Int))) := fun j hj => by
    have := hcx (4 + j) (by omega)
    rw [this]
    simp [List.getD]
  generalize b.drop 4 = S at *
  clear hr hl hcx hh hu c0 c1 c2 c3 hy h68 hdl
  go_enter Try.func17, Try.ntmps17
  go_upto_region 2 with (first
    | ((with_reducible show wpList _ _ _ (⟨some 2, .alloc _, _, _, _, _⟩ :: _) _ _); refine wl_alloc rfl 23 rfl (bvs (Z8 64)) 64 infoSig ?_; intro w1 hA1 hb1 hs1)
    | ((with_reducible show wpList _ _ _ (⟨some 4, .alloc _, _, _, _, _⟩ :: _) _ _); refine wl_alloc rfl 23 rfl (bvs (Z8 64)) 64 infoSig ?_; intro w2 hA2 hb2 hs2))
  obtain ⟨c0, c1, c2, c3⟩ := hcc.out _ _ hb1 hb2
  have z2 := hb2.size
  obtain ⟨gR, hgR⟩ : ∃ gR, w.heap.size = gR := ⟨_, rfl⟩
  obtain ⟨gS, hgS⟩ : ∃ gS, w1.heap.size = gS := ⟨_, rfl⟩
  have HGR := Lib.hid hgR
  rw [hgR] at hA1 hb1 hs1 hbb ⊢
  rw [hgS] at hA2 hs1 hb2 z2 hs2 ⊢
  have hB2 : Below gR w w2 := hb1.trans (hb2.mono (by omega))
  have hR2 := hA1.to hb2 hs1
  have hS2 : Arr w2 gS 23 (bvs (fillI S 64 0)) := hA2
  clear hA1 hA2 hb1 hb2 hgR hgS hcc
  go_wp2_with fail
  clear c0 c1 c2 c3
  go_loopw [5] (fun i wr => ∃ k : Nat, k ≤ 64 ∧ i = .int .i64 k ∧ Arr wr gR 23 (bvs (Z8 64)) ∧ Arr wr gS 23 (bvs (fillI S 64 k)) ∧ Below gR w wr) (fun i _ => 64 - (intOf i).toNat)
  case atStart => exact ⟨0, by omega, rfl, hR2, hS2, hB2⟩
  case round =>
    obtain ⟨k, hk, rfl, hR, hS, hB⟩ := hrel
    by_cases hlt : k < 64
    · have hc : (k : Int) < 64 := by omega
      have ca := (hB.cell (p := ⟨bb, off + (4 + k), none⟩) hbb).trans (hcy.out k hlt)
      have hfl : Hid ((fillI S 64 k).length = 64) := fillI_len S 64 k (by omega) HDL.out
      have cs1 := (hS.cell k).trans (bvs_get _ k (by rw [hfl.out]; omega))
      have f1 := hS.frozen k
      have hst := hS.store k (.int .u8 ((S.getD k 0).toNat : Int))
      rw [bvs_set, fillI_step S 64 k hlt HDL.out] at hst
      generalize S.getD k 0 = x at *
      generalize (fillI S 64 k).getD k 0 = z1 at *
      have HST := Lib.hid hst
      have e1 : ((4 : Int) + (k : Int)).toNat = 4 + k := by omega
      have e2 : (4 : Int) + (k : Int) < 68 := by omega
      clear hst
      go_wp2
      go_roundw
      case rel => exact ⟨k + 1, hlt, by go_num, hR.other _ (by simp; omega) _, HST.out, hB.setCell (by simp; omega) _⟩
      case measure => simp [intOf]; omega
    · obtain rfl : k = 64 := by omega
      have hc : ¬ ((64 : Nat) : Int) < 64 := by omega
      rw [fillI_end S 64 HDL.out] at hS
      go_wp2_with (first
        | ((with_reducible show wpList _ _ _ (⟨some 45, .load _ _, _, _, _, _⟩ :: _) _ _); refine wl_load rfl 23 _ rfl gS 0 rfl 23 (bvs S) (bvs S) hS (fun j v h => by rw [Nat.zero_add]; exact h) (.array 64 5) Try.underlying23 rfl h64.out ?_)
        | ((with_reducible show wpList _ _ _ (⟨none, .store _ _ _, _, _, _, _⟩ :: _) _ _); refine wl_store rfl 23 _ _ rfl gR 0 rfl (bvs S) rfl 23 _ hR h64.out (by rw [l64.out]; exact (by decide : 0 + 64 ≤ (bvs (Z8 64)).length)) (bvs_one _) ?_; intro w25 hR25 hg25 hs25))
      rw [whole_store _ _ (by rw [l64.out]; rfl)] at hR25
      refine end_cell2 rfl gR 23 (bvs S) (.array 64 5) (.int .i64 0) rfl hR25 Try.underlying23 rfl h64.out rfl rfl ⟨rfl, ?_⟩
      rw [HGR.out]
      exact hB.grown hg25 (Nat.le_of_lt hR.lt) (by intro k e; injection e with e; omega)

theorem rUnmark_any (b : List UInt8) (a : Option Addr) (n c : Nat) (w : World) (hr : Rd w a n c b) :
    Calls Try.prog 17 #[.slice a n c] w fun e w' => e = .returned (.tuple #[.agg (bvs (unmF b)).toArray, .int .i64 (unmE b)]) ∧ Below w.heap.size w w' := by
  unfold unmF unmE
  cases hh : unmB b with
  | true => exact rUnmark_yes b a n c w hr hh
  | false => exact rUnmark_no b a n c w hr hh
end Go.Proofs.Ytebegdifnkifgaa
