/-
  The document's own answer: digits as hashes. Conditions: those in each statement.
-/
import Derived.Test.YtgippimoklefnaaShaL
namespace Go.Proofs.Ytgippimoklefnaa
open Go.RowKit

def curH (l : List UInt8) (k : Nat) : Nat := if k % 2 = 0 then 0 else dvN (l.getD (k - 1) 0).toNat
def unH (l : List UInt8) (k : Nat) : List UInt8 := if k % 2 = 0 then unI l (k / 2) else (unI l (k / 2)).set (k / 2) (UInt8.ofNat (curH l k))
theorem curH_lt (l : List UInt8) (k : Nat) : curH l k < 16 := by
  unfold curH
  split
  · omega
  · exact dvN_lt _
theorem unH_len (l : List UInt8) (k : Nat) (h : k ≤ 64) : (unH l k).length = 32 := by
  unfold unH
  split
  · exact unI_len l _ (by omega)
  · rw [List.length_set]; exact unI_len l _ (by omega)
theorem unI_at (l : List UInt8) (m : Nat) (h : m < 32) : (unI l m).getD m 0 = 0 := by
  have hl : ((unL l).take m).length = m := by simp [unL_len]; omega
  simp only [unI, List.getD]
  rw [List.getElem?_append_right (by omega), hl, Z8, show 32 - m = (31 - m) + 1 by omega, List.replicate_succ, Nat.sub_self]
  rfl
theorem unH_at (l : List UInt8) (k : Nat) (h : k < 64) : (((unH l k).getD (k / 2) 0).toNat : Int) = (curH l k : Int) := by
  unfold unH
  by_cases hk : k % 2 = 0
  · rw [if_pos hk, unI_at l _ (by omega)]
    simp [curH, hk]
  · rw [if_neg hk]
    have hlen := unI_len l (k / 2) (by omega)
    have hc := curH_lt l k
    simp only [List.getD]
    rw [List.getElem?_set_self (by omega)]
    simp only [Option.getD_some, UInt8.toNat_ofNat']
    omega
theorem unH_step (l : List UInt8) (k : Nat) (h : k < 64) : (unH l k).set (k / 2) (UInt8.ofNat (16 * curH l k + dvN (l.getD k 0).toNat)) = unH l (k + 1) := by
  by_cases hk : k % 2 = 0
  · have h1 : (k + 1) % 2 ≠ 0 := by omega
    have h2 : (k + 1) / 2 = k / 2 := by omega
    simp [unH, curH, hk, h1, h2]
  · have h1 : (k + 1) % 2 = 0 := by omega
    have h2 : (k + 1) / 2 = k / 2 + 1 := by omega
    have h3 : k - 1 = 2 * (k / 2) := by omega
    have h4 : k = 2 * (k / 2) + 1 := by omega
    simp only [unH, curH, hk, h1, h2, if_true, if_false]
    rw [List.set_set, ← unI_step l (k / 2) (by omega)]
    congr 1
    unfold unB
    rw [h3, ← h4]
theorem unH_val (l : List UInt8) (k : Nat) : (((UInt8.ofNat (16 * curH l k + dvN (l.getD k 0).toNat)).toNat : Nat) : Int) = 16 * (curH l k : Int) + (dvN (l.getD k 0).toNat : Int) := by
  have h1 := curH_lt l k
  have h2 := dvN_lt (l.getD k 0).toNat
  rw [UInt8.toNat_ofNat']
  omega
theorem unH_end (l : List UInt8) : unH l 64 = unL l := by
  unfold unH
  rw [if_pos (by decide), show 64 / 2 = 32 from rfl, unI_end]

set_option maxHeartbeats 1600000 in
theorem rUnhex_any (s : ByteArray) (w : World) :
    Calls Try.prog 18 #[.string s] w (HErr (unhexF s.data.toList) w) := by
  have hls : s.data.toList.length = s.size := by simp
  by_cases h64 : s.size = 64
  · have ht : ((s.size : Int) != 64) = false := by rw [bne_eq_false_iff_eq]; omega
    have H64 := Lib.hid h64
    have HLS := Lib.hid hls
    have HIX := Lib.hid fun (i : Nat) (h : i < s.size) (W : World) => str_index (P := Try.prog) Try.underlying9 s i h W
    clear h64 hls
    generalize hl : s.data.toList = l at *
    clear hl
    go_enter Try.func18, Try.ntmps18
    go_wp2_with (first
      | ((with_reducible show wpList _ _ _ (⟨some 2, .alloc _, _, _, _, _⟩ :: _) _ _); refine wl_alloc rfl 24 rfl (bvs (Z8 32)) 32 infoD ?_; intro w1 hA1 hb1 hs1)
      | ((with_reducible show wpList _ _ _ (⟨some 4, .alloc _, _, _, _, _⟩ :: _) _ _); refine wl_alloc rfl 24 rfl (bvs (Z8 32)) 32 infoD ?_; intro w2 hA2 hb2 hs2))
    generalize hg1 : w.heap.size = g1 at *
    generalize hg2 : w1.heap.size = g2 at *
    have HG1 := Lib.hid hg1
    clear hg1 hg2
    have hB : Below g1 w w2 := hb1.trans (hb2.mono (Nat.le_of_lt hs1))
    have hR : Arr w2 g1 24 (bvs (Z8 32)) := hA1.to hb2 hs1
    have hD : Arr w2 g2 24 (bvs (unH l 0)) := hA2
    clear hA1 hA2 hb1 hb2
    go_loopw [5] (fun i wr => ∃ k : Nat, k ≤ 64 ∧ i = .int .i64 k ∧ Hid (∀ j, j < k → okAt l j = true) ∧ Arr wr g1 24 (bvs (Z8 32)) ∧ Arr wr g2 24 (bvs (unH l k)) ∧ Below g1 w wr) (fun i _ => 64 - (intOf i).toNat)
    case atStart => exact ⟨0, by omega, rfl, (fun j hj => by omega), hR, hD, hB⟩
    case round =>
      obtain ⟨k, hk, rfl, HK, hR, hD, hB⟩ := hrel
      by_cases hlt : k < 64
      · have hc : (k : Int) < 64 := by omega
        have i0 := HIX.out k (by have := H64.out; omega)
        have b0 := (l.getD k 0).toNat_lt
        have ck := (hD.cell (k / 2)).trans (bvs_get _ (k / 2) (by rw [unH_len _ _ (by omega)]; omega))
        rw [unH_at l k hlt] at ck
        have fk := hD.frozen (k / 2)
        have hst := hD.store (k / 2) (.int .u8 ((UInt8.ofNat (16 * curH l k + dvN (l.getD k 0).toNat)).toNat : Int))
        rw [bvs_set, unH_step l k hlt, unH_val l k] at hst
        have ok0 : Hid (okAt l k = okD (l.getD k 0).toNat) := rfl
        have e2 : ((k : Int) / 2).toNat = k / 2 := by omega
        have f2 : (k : Int) / 2 < 32 := by omega
        have hcu := curH_lt l k
        generalize (l.getD k 0).toNat = y at *
        generalize curH l k = cu at *
        have HD := Lib.hid hD
        have HST := Lib.hid hst
        clear hD hst
        have hall : y < 48 ∨ (48 ≤ y ∧ y ≤ 57) ∨ (58 ≤ y ∧ y < 97) ∨ (97 ≤ y ∧ y ≤ 102) ∨ 103 ≤ y := by omega
        rcases hall with h | h | h | h | h
        · have e0 : okD y = false := by
            have h1 := h
            rw [Bool.eq_iff_iff]
            simp [okD]
            omega
          have HF : Hid (unhexF l = (Z8 32, 5)) := not_hexed_at l k (by omega) (by rw [ok0.out, e0])
          clear ck fk e2 f2 e0
          have fq0 : ¬ (48 : Int) ≤ (y : Int) := by omega
          have fq1 : ¬ (97 : Int) ≤ (y : Int) := by omega
          go_wp2_with (first
            | ((with_reducible show wpList _ _ _ (⟨some 15, .build _ _, _, _, _, _⟩ :: _) _ _); refine wpList_buildTo rfl 24 _ rfl (some 15) rfl (bvs (Z8 32)).toArray (by simpa [Act.eval] using built_zero) ?_)
            | ((with_reducible show wpList _ _ _ (⟨none, .store 24 _ _, _, _, _, _⟩ :: _) _ _); refine wl_store rfl 24 _ _ rfl g1 0 rfl (bvs (Z8 32)) rfl 24 _ hR sizeD (by decide) (bvs_one _) ?_; intro w3 hA3 hg3 hs3))
          rw [whole_store _ _ rfl] at hA3
          refine end_cell2 rfl g1 24 (bvs (Z8 32)) (.array 32 5) _ rfl hA3 Try.underlying24 rfl sizeD rfl rfl ?_
          unfold HErr
          rw [HF.out]
          exact ⟨rfl, HG1.out ▸ hB.grown hg3 (Nat.le_of_lt hR.lt) (by intro k e; injection e with e; omega)⟩
        · have e0 : okD y = true := by
            have h1 := h
            rw [Bool.eq_iff_iff]
            simp [okD]
            omega
          have ev : (dvN y : Int) = (y : Int) - 48 := by
            unfold dvN
            rw [e0]
            simp
            split <;> omega
          have EV := Lib.hid ev
          have E0 := Lib.hid e0
          clear ev e0
          have fq0 : (48 : Int) ≤ (y : Int) := by omega
          have fq1 : (y : Int) ≤ 57 := by omega
          go_wp2
          go_roundw
          case rel =>
            rw [EV.out] at HST
            refine ⟨k + 1, by omega, by go_num, ?_, hR.other _ (by simp; omega) _, HST.out, hB.setCell (by simp; omega) _⟩
            intro j hj
            rcases (by omega : j < k ∨ j = k) with h | h
            · exact HK.out j h
            · rw [h, ok0.out, E0.out]
          case measure => simp [intOf]; omega
        · have e0 : okD y = false := by
            have h1 := h
            rw [Bool.eq_iff_iff]
            simp [okD]
            omega
          have HF : Hid (unhexF l = (Z8 32, 5)) := not_hexed_at l k (by omega) (by rw [ok0.out, e0])
          clear ck fk e2 f2 e0
          have fq0 : (48 : Int) ≤ (y : Int) := by omega
          have fq1 : ¬ (y : Int) ≤ 57 := by omega
          have fq2 : ¬ (97 : Int) ≤ (y : Int) := by omega
          go_wp2_with (first
            | ((with_reducible show wpList _ _ _ (⟨some 15, .build _ _, _, _, _, _⟩ :: _) _ _); refine wpList_buildTo rfl 24 _ rfl (some 15) rfl (bvs (Z8 32)).toArray (by simpa [Act.eval] using built_zero) ?_)
            | ((with_reducible show wpList _ _ _ (⟨none, .store 24 _ _, _, _, _, _⟩ :: _) _ _); refine wl_store rfl 24 _ _ rfl g1 0 rfl (bvs (Z8 32)) rfl 24 _ hR sizeD (by decide) (bvs_one _) ?_; intro w3 hA3 hg3 hs3))
          rw [whole_store _ _ rfl] at hA3
          refine end_cell2 rfl g1 24 (bvs (Z8 32)) (.array 32 5) _ rfl hA3 Try.underlying24 rfl sizeD rfl rfl ?_
          unfold HErr
          rw [HF.out]
          exact ⟨rfl, HG1.out ▸ hB.grown hg3 (Nat.le_of_lt hR.lt) (by intro k e; injection e with e; omega)⟩
        · have e0 : okD y = true := by
            have h1 := h
            rw [Bool.eq_iff_iff]
            simp [okD]
            omega
          have ev : (dvN y : Int) = (y : Int) - 87 := by
            unfold dvN
            rw [e0]
            simp
            split <;> omega
          have EV := Lib.hid ev
          have E0 := Lib.hid e0
          clear ev e0
          have fq0 : (48 : Int) ≤ (y : Int) := by omega
          have fq1 : ¬ (y : Int) ≤ 57 := by omega
          have fq2 : (97 : Int) ≤ (y : Int) := by omega
          have fq3 : (y : Int) ≤ 102 := by omega
          go_wp2
          go_roundw
          case rel =>
            rw [EV.out, show 16 * (cu : Int) + ((y : Int) - 87) = 16 * (cu : Int) + ((y : Int) - 97 + 10) by omega] at HST
            refine ⟨k + 1, by omega, by go_num, ?_, hR.other _ (by simp; omega) _, HST.out, hB.setCell (by simp; omega) _⟩
            intro j hj
            rcases (by omega : j < k ∨ j = k) with h | h
            · exact HK.out j h
            · rw [h, ok0.out, E0.out]
          case measure => simp [intOf]; omega
        · have e0 : okD y = false := by
            have h1 := h
            rw [Bool.eq_iff_iff]
            simp [okD]
            omega
          have HF : Hid (unhexF l = (Z8 32, 5)) := not_hexed_at l k (by omega) (by rw [ok0.out, e0])
          clear ck fk e2 f2 e0
          have fq0 : (48 : Int) ≤ (y : Int) := by omega
          have fq1 : ¬ (y : Int) ≤ 57 := by omega
          have fq2 : (97 : Int) ≤ (y : Int) := by omega
          have fq3 : ¬ (y : Int) ≤ 102 := by omega
          go_wp2_with (first
            | ((with_reducible show wpList _ _ _ (⟨some 15, .build _ _, _, _, _, _⟩ :: _) _ _); refine wpList_buildTo rfl 24 _ rfl (some 15) rfl (bvs (Z8 32)).toArray (by simpa [Act.eval] using built_zero) ?_)
            | ((with_reducible show wpList _ _ _ (⟨none, .store 24 _ _, _, _, _, _⟩ :: _) _ _); refine wl_store rfl 24 _ _ rfl g1 0 rfl (bvs (Z8 32)) rfl 24 _ hR sizeD (by decide) (bvs_one _) ?_; intro w3 hA3 hg3 hs3))
          rw [whole_store _ _ rfl] at hA3
          refine end_cell2 rfl g1 24 (bvs (Z8 32)) (.array 32 5) _ rfl hA3 Try.underlying24 rfl sizeD rfl rfl ?_
          unfold HErr
          rw [HF.out]
          exact ⟨rfl, HG1.out ▸ hB.grown hg3 (Nat.le_of_lt hR.lt) (by intro k e; injection e with e; omega)⟩
      · have hk64 : k = 64 := by omega
        have hc : ¬ (k : Int) < 64 := by omega
        have HF : Hid (unhexF l = (unL l, 0)) := is_hexed l (by rw [HLS.out, H64.out]) fun i hi => HK.out i (by omega)
        rw [hk64, unH_end] at hD
        clear hk64
        have hul := unL_len l
        have HDL : Hid ((Try.prog.info? 24).map (·.size) = some (bvs (unL l)).length) := by show _ = _; rw [bvs_len, hul]; exact sizeD
        have HDL2 : Hid ((bvs (unL l)).length = 32) := by show _ = _; rw [bvs_len, hul]
        have h1 := bvs_one (unL l)
        obtain ⟨D, hDD⟩ : ∃ D, D = unL l := ⟨_, rfl⟩
        rw [← hDD] at hD HDL HDL2 h1
        have HDD := Lib.hid hDD
        clear hDD hul
        go_wp2_with (first
          | ((with_reducible show wpList _ _ _ (⟨some 57, .load _ _, _, _, _, _⟩ :: _) _ _); refine wl_load rfl 24 _ rfl g2 0 rfl 24 (bvs D) (bvs D) hD (fun j v h => by rw [Nat.zero_add]; exact h) (.array 32 5) Try.underlying24 rfl HDL.out ?_)
          | ((with_reducible show wpList _ _ _ (⟨none, .store 24 _ _, _, _, _, _⟩ :: _) _ _); refine wl_store rfl 24 _ _ rfl g1 0 rfl (bvs D) rfl 24 _ hR HDL.out (by rw [HDL2.out]; exact (by decide : 0 + 32 ≤ (bvs (Z8 32)).length)) h1 ?_; intro w3 hA3 hg3 hs3))
        rw [whole_store _ _ (by rw [HDL2.out]; rfl)] at hA3
        refine end_cell2 rfl g1 24 (bvs D) (.array 32 5) _ rfl hA3 Try.underlying24 rfl HDL.out rfl rfl ?_
        unfold HErr
        rw [HF.out, ← HDD.out]
        exact ⟨rfl, HG1.out ▸ hB.grown hg3 (Nat.le_of_lt hR.lt) (by intro k e; injection e with e; omega)⟩
  · have hF : Hid (unhexF s.data.toList = (Z8 32, 5)) := not_hexed_len _ (by omega)
    have ht : ((s.size : Int) != 64) = true := by rw [bne_iff_ne]; omega
    clear hls
    go_enter Try.func18, Try.ntmps18
    go_wp2_with (first
      | ((with_reducible show wpList _ _ _ (⟨some 2, .alloc _, _, _, _, _⟩ :: _) _ _); refine wl_alloc rfl 24 rfl (bvs (Z8 32)) 32 infoD ?_; intro w1 hA1 hb1 hs1)
      | ((with_reducible show wpList _ _ _ (⟨some 4, .alloc _, _, _, _, _⟩ :: _) _ _); refine wl_alloc rfl 24 rfl (bvs (Z8 32)) 32 infoD ?_; intro w2 hA2 hb2 hs2)
      | ((with_reducible show wpList _ _ _ (⟨some 10, .load _ _, _, _, _, _⟩ :: _) _ _); refine wl_load rfl 24 _ rfl w1.heap.size 0 rfl 24 (bvs (Z8 32)) (bvs (Z8 32)) hA2 (fun j v h => by rw [Nat.zero_add]; exact h) (.array 32 5) Try.underlying24 rfl sizeD ?_)
      | ((with_reducible show wpList _ _ _ (⟨none, .store _ _ _, _, _, _, _⟩ :: _) _ _); refine wl_store rfl 24 _ _ rfl w.heap.size 0 rfl (bvs (Z8 32)) rfl 24 _ (hA1.kept hb2) sizeD (by decide) (bvs_one _) ?_; intro w3 hA3 hg3 hs3))
    rw [whole_store _ _ rfl] at hA3
    refine end_cell2 rfl w.heap.size 24 (bvs (Z8 32)) (.array 32 5) _ rfl hA3 Try.underlying24 rfl sizeD rfl rfl ?_
    unfold HErr
    rw [hF.out]
    exact ⟨rfl, (hb1.trans (hb2.mono (Nat.le_of_lt hs1))).grown hg3 (by omega) (by intro k e; injection e with e; omega)⟩
end Go.Proofs.Ytgippimoklefnaa
