/-
  The document's 'above', and its roots. Conditions: those in each statement.
-/
import Derived.Test.YtgippimoklefnaaPow
import Derived.Test.YtgippimoklefnaaShaF
namespace Go.Proofs.Ytgippimoklefnaa
open Go.RowKit

theorem digs_same {d e : List Nat} (hl : d.length = e.length) (h : ∀ t, d.getD t 0 = e.getD t 0) : val d = val e := by
  have : d = e := by
    apply List.ext_getElem?
    intro k
    have hk := h k
    simp only [List.getD_eq_getElem?_getD] at hk
    by_cases hd : k < d.length
    · rw [List.getElem?_eq_getElem hd, List.getElem?_eq_getElem (by omega)] at hk ⊢
      simpa using hk
    · rw [List.getElem?_eq_none (by omega), List.getElem?_eq_none (by omega)]
  rw [this]

set_option maxRecDepth 100000 in
set_option maxHeartbeats 800000 in
theorem above_any (l : List Nat) (V p n : Nat) (w : World) (hD : Digs l V) (hp : p < 65536) (hn : n = 2 ∨ n = 3) :
    Calls Try.prog 32 #[.agg (nvs l).toArray, .int .u64 (p : Int), .int .i64 (n : Int)] w fun e w' => e = .returned (.bool (decide (p * 65536 ^ (2 * n) < V))) ∧ Below w.heap.size w w' := by
  have hE := Digs.place (2 * n) p (by omega) hp
  have hll := hD.len
  have HD := Lib.hid hD
  have HE := Lib.hid hE
  clear hD hE
  rcases hn with rfl | rfl
  · obtain ⟨U, hU⟩ : ∃ U, U = p * 65536 ^ (2 * 2) := ⟨_, rfl⟩
    rw [← hU] at HE ⊢
    clear hU
    go_enter Try.func32, Try.ntmps32
    go_wp2_with (first
      | ((with_reducible show wpList _ _ _ (⟨some 3, .box _ _, _, _, _, _⟩ :: _) _ _); refine wl_box rfl 65 _ rfl (nvs l) rfl ?_; intro w1 hA1 hb1 hs1)
      | ((with_reducible show wpList _ _ _ (⟨some 7, .alloc _, _, _, _, _⟩ :: _) _ _); refine wl_alloc rfl 65 rfl (nvs Z12) 12 info12 ?_; intro w2 hA2 hb2 hs2; have cf := hA2.frozen 4; have cc := (hA2.cell 4).trans (nvs_get Z12 4 (by decide))))
    generalize h1 : w.heap.size = g3 at *
    generalize h2 : w1.heap.size = g7 at *
    have G3 := Lib.hid h1
    clear h1 h2 cf cc
    have hst : Arr (w2.setCell ⟨g7, 4, none⟩ (.int .u64 (p : Int))) g7 65 (nvs (Z12.set 4 p)) := by
      have := hA2.store 4 (.int .u64 (p : Int))
      rw [nvs_set] at this
      exact this
    have hX := (hA1.to hb2 hs1).other ⟨g7, 4, none⟩ (by simp; omega) (.int .u64 (p : Int))
    have hB := (hb1.trans (hb2.mono (by omega))).setCell (p := ⟨g7, 4, none⟩) (by simp; omega) (.int .u64 (p : Int))
    have hEd : Digs (Z12.set 4 p) U := HE.out
    generalize Z12.set 4 p = e at *
    have HED := Lib.hid hEd
    clear hEd hA1 hA2 hb1 hb2 HE
    go_loopw [8] (fun i wr => ∃ k : Nat, k ≤ 12 ∧ i = .int .i64 ((k : Int) - 1) ∧ Hid (∀ t, k ≤ t → l.getD t 0 = e.getD t 0) ∧ Arr wr g3 65 (nvs l) ∧ Arr wr g7 65 (nvs e) ∧ Below g3 w wr) (fun i _ => (intOf i + 1).toNat)
    case atStart => exact ⟨12, by omega, rfl, fun t ht => by rw [List.getD_eq_getElem?_getD, List.getD_eq_getElem?_getD, List.getElem?_eq_none (by omega), List.getElem?_eq_none (by have := HED.out.len; omega)], hX, hst, hB⟩
    case round =>
      clear hX hst hB
      obtain ⟨k, hk, rfl, HS, hX, hE, hB⟩ := hrel
      cases k with
      | zero =>
        have e0 : ((0 : Nat) : Int) - 1 = -1 := by omega
        rw [e0]
        go_wp2_with fail
        go_ret
        refine ⟨ret_bool ?_, G3.out ▸ hB⟩
        have h1 := digs_same (by rw [hll, HED.out.len]) (fun t => HS.out t (Nat.zero_le _))
        rw [HD.out.v, HED.out.v] at h1
        exact (decide_eq_false (by omega)).symm
      | succ m =>
        have e0 : ((m + 1 : Nat) : Int) - 1 = (m : Int) := by omega
        rw [e0]
        clear e0
        have hm : m < 12 := by omega
        have hge : (0 : Int) ≤ (m : Int) := by omega
        have cd := (hX.cell m).trans (nvs_get l m (by omega))
        have ce := (hE.cell m).trans (nvs_get e m (by rw [HED.out.len]; omega))
        obtain ⟨du, hdu⟩ : ∃ du, du = l.getD m 0 := ⟨_, rfl⟩
        obtain ⟨eu, heu⟩ : ∃ eu, eu = e.getD m 0 := ⟨_, rfl⟩
        rw [← hdu] at cd
        rw [← heu] at ce
        have HDU := Lib.hid hdu
        have HEU := Lib.hid heu
        clear hdu heu
        by_cases hde : du = eu
        · subst hde
          clear hk
          go_upto_region 6 with fail
          go_region
          go_wp2_with fail
          go_roundw
          case rel => exact ⟨m, by omega, rfl, fun t ht => by
            by_cases htm : t = m
            · subst htm; rw [← HDU.out, ← HEU.out]
            · exact HS.out t (by omega), hX.drew, hE.drew, hB.drew⟩
          case measure => simp [intOf] <;> omega
        · have hne : ¬ (du : Int) = (eu : Int) := by omega
          have cd2 : (wr.drew).cell? ⟨g3, m, none⟩ = some (.int .u64 (du : Int)) := cd
          have ce2 : (wr.drew).cell? ⟨g7, m, none⟩ = some (.int .u64 (eu : Int)) := ce
          go_upto_region 6 with fail
          go_region
          go_upto_region 7 with fail
          go_region
          go_wp2_with fail
          go_ret
          refine ⟨ret_bool ?_, G3.out ▸ hB.drew.drew⟩
          have hV := HD.out.v
          have hU := HED.out.v
          rcases Nat.lt_or_ge eu du with h | h
          · have h1 := val_above l e m (by rw [hll, HED.out.len]) (by omega) HED.out.bd (fun j hj => HS.out j (by omega)) (by rw [← HDU.out, ← HEU.out]; exact h)
            rw [hV, hU] at h1
            rw [decide_eq_true (show U < V from h1)]
            simp; omega
          · have h1 := val_above e l m (by rw [hll, HED.out.len]) (by rw [HED.out.len]; omega) HD.out.bd (fun j hj => (HS.out j (by omega)).symm) (by rw [← HDU.out, ← HEU.out]; omega)
            rw [hV, hU] at h1
            rw [decide_eq_false (show ¬ U < V by omega)]
            simp; omega
  · obtain ⟨U, hU⟩ : ∃ U, U = p * 65536 ^ (2 * 3) := ⟨_, rfl⟩
    rw [← hU] at HE ⊢
    clear hU
    go_enter Try.func32, Try.ntmps32
    go_wp2_with (first
      | ((with_reducible show wpList _ _ _ (⟨some 3, .box _ _, _, _, _, _⟩ :: _) _ _); refine wl_box rfl 65 _ rfl (nvs l) rfl ?_; intro w1 hA1 hb1 hs1)
      | ((with_reducible show wpList _ _ _ (⟨some 7, .alloc _, _, _, _, _⟩ :: _) _ _); refine wl_alloc rfl 65 rfl (nvs Z12) 12 info12 ?_; intro w2 hA2 hb2 hs2; have cf := hA2.frozen 6; have cc := (hA2.cell 6).trans (nvs_get Z12 6 (by decide))))
    generalize h1 : w.heap.size = g3 at *
    generalize h2 : w1.heap.size = g7 at *
    have G3 := Lib.hid h1
    clear h1 h2 cf cc
    have hst : Arr (w2.setCell ⟨g7, 6, none⟩ (.int .u64 (p : Int))) g7 65 (nvs (Z12.set 6 p)) := by
      have := hA2.store 6 (.int .u64 (p : Int))
      rw [nvs_set] at this
      exact this
    have hX := (hA1.to hb2 hs1).other ⟨g7, 6, none⟩ (by simp; omega) (.int .u64 (p : Int))
    have hB := (hb1.trans (hb2.mono (by omega))).setCell (p := ⟨g7, 6, none⟩) (by simp; omega) (.int .u64 (p : Int))
    have hEd : Digs (Z12.set 6 p) U := HE.out
    generalize Z12.set 6 p = e at *
    have HED := Lib.hid hEd
    clear hEd hA1 hA2 hb1 hb2 HE
    go_loopw [8] (fun i wr => ∃ k : Nat, k ≤ 12 ∧ i = .int .i64 ((k : Int) - 1) ∧ Hid (∀ t, k ≤ t → l.getD t 0 = e.getD t 0) ∧ Arr wr g3 65 (nvs l) ∧ Arr wr g7 65 (nvs e) ∧ Below g3 w wr) (fun i _ => (intOf i + 1).toNat)
    case atStart => exact ⟨12, by omega, rfl, fun t ht => by rw [List.getD_eq_getElem?_getD, List.getD_eq_getElem?_getD, List.getElem?_eq_none (by omega), List.getElem?_eq_none (by have := HED.out.len; omega)], hX, hst, hB⟩
    case round =>
      clear hX hst hB
      obtain ⟨k, hk, rfl, HS, hX, hE, hB⟩ := hrel
      cases k with
      | zero =>
        have e0 : ((0 : Nat) : Int) - 1 = -1 := by omega
        rw [e0]
        go_wp2_with fail
        go_ret
        refine ⟨ret_bool ?_, G3.out ▸ hB⟩
        have h1 := digs_same (by rw [hll, HED.out.len]) (fun t => HS.out t (Nat.zero_le _))
        rw [HD.out.v, HED.out.v] at h1
        exact (decide_eq_false (by omega)).symm
      | succ m =>
        have e0 : ((m + 1 : Nat) : Int) - 1 = (m : Int) := by omega
        rw [e0]
        clear e0
        have hm : m < 12 := by omega
        have hge : (0 : Int) ≤ (m : Int) := by omega
        have cd := (hX.cell m).trans (nvs_get l m (by omega))
        have ce := (hE.cell m).trans (nvs_get e m (by rw [HED.out.len]; omega))
        obtain ⟨du, hdu⟩ : ∃ du, du = l.getD m 0 := ⟨_, rfl⟩
        obtain ⟨eu, heu⟩ : ∃ eu, eu = e.getD m 0 := ⟨_, rfl⟩
        rw [← hdu] at cd
        rw [← heu] at ce
        have HDU := Lib.hid hdu
        have HEU := Lib.hid heu
        clear hdu heu
        by_cases hde : du = eu
        · subst hde
          clear hk
          go_upto_region 6 with fail
          go_region
          go_wp2_with fail
          go_roundw
          case rel => exact ⟨m, by omega, rfl, fun t ht => by
            by_cases htm : t = m
            · subst htm; rw [← HDU.out, ← HEU.out]
            · exact HS.out t (by omega), hX.drew, hE.drew, hB.drew⟩
          case measure => simp [intOf] <;> omega
        · have hne : ¬ (du : Int) = (eu : Int) := by omega
          have cd2 : (wr.drew).cell? ⟨g3, m, none⟩ = some (.int .u64 (du : Int)) := cd
          have ce2 : (wr.drew).cell? ⟨g7, m, none⟩ = some (.int .u64 (eu : Int)) := ce
          go_upto_region 6 with fail
          go_region
          go_upto_region 7 with fail
          go_region
          go_wp2_with fail
          go_ret
          refine ⟨ret_bool ?_, G3.out ▸ hB.drew.drew⟩
          have hV := HD.out.v
          have hU := HED.out.v
          rcases Nat.lt_or_ge eu du with h | h
          · have h1 := val_above l e m (by rw [hll, HED.out.len]) (by omega) HED.out.bd (fun j hj => HS.out j (by omega)) (by rw [← HDU.out, ← HEU.out]; exact h)
            rw [hV, hU] at h1
            rw [decide_eq_true (show U < V from h1)]
            simp; omega
          · have h1 := val_above e l m (by rw [hll, HED.out.len]) (by rw [HED.out.len]; omega) HD.out.bd (fun j hj => (HS.out j (by omega)).symm) (by rw [← HDU.out, ← HEU.out]; omega)
            rw [hV, hU] at h1
            rw [decide_eq_false (show ¬ U < V by omega)]
            simp; omega
end Go.Proofs.Ytgippimoklefnaa
