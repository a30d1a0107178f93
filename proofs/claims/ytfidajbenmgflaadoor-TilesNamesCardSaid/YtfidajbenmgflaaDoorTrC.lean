/-
  The document's Parse, walked. Conditions: those in each statement.
-/
import Derived.Test.YtfidajbenmgflaaDoorTrB
import Derived.Deep.CutRange
import Derived.Deep.CutBlock
namespace Go.Proofs.YtfidajbenmgflaaDoor
open Go.RowKit

theorem prs_no {s : List UInt8} (h : okN s = false) : prsT s = .tuple #[.int .i64 0, .int .u64 0, .int .i64 0, .int .i64 5] := by
  unfold prsT prsV prsE
  rw [h]
  rfl
def digs (s : List UInt8) (k : Nat) : List Value := (List.range 12).map fun j => .int .i64 (if j < k then (vN s j : Int) else 0)
theorem digs_len (s : List UInt8) (k : Nat) : (digs s k).length = 12 := by simp [digs]
theorem digs_at (s : List UInt8) (k j : Nat) (hj : j < 12) : (digs s k)[j]? = some (.int .i64 (if j < k then (vN s j : Int) else 0)) := by
  unfold digs
  rw [List.getElem?_map, List.getElem?_range hj]
  rfl
theorem digs_skip (s : List UInt8) (k : Nat) (h : sepB k = true) : digs s (k + 1) = digs s k := by
  unfold digs
  refine List.map_congr_left fun j hj => ?_
  by_cases e : j = k
  · subst e
    rw [if_pos (by omega), if_neg (by omega)]
    unfold vN
    rw [if_pos h]
    rfl
  · congr 1
    by_cases hlt : j < k
    · rw [if_pos (by omega), if_pos hlt]
    · rw [if_neg (by omega), if_neg hlt]
theorem digs_set (s : List UInt8) (k : Nat) (hk : k < 12) : (digs s k).set k (.int .i64 (vN s k : Int)) = digs s (k + 1) := by
  apply List.ext_getElem?
  intro j
  by_cases hj : j < 12
  · rw [digs_at s (k + 1) j hj, List.getElem?_set]
    by_cases e : k = j
    · subst e
      rw [if_pos rfl, if_pos (by rw [digs_len]; exact hk), if_pos (by omega)]
    · rw [if_neg e, digs_at s k j hj]
      congr 2
      by_cases hlt : j < k
      · rw [if_pos hlt, if_pos (by omega)]
      · rw [if_neg hlt, if_neg (by omega)]
  · rw [List.getElem?_eq_none (by rw [List.length_set, digs_len]; omega), List.getElem?_eq_none (by rw [digs_len]; omega)]
theorem mid_step {s : List UInt8} {k : Nat} (hl : s.length = 12) (h1 : 3 ≤ k) (h2 : k < 9) : midN s (k + 1) = midN s k * 10 + vN s k := by
  unfold midN
  rw [show k + 1 - 3 = (k - 3) + 1 by omega, List.take_add_one, List.getElem?_drop, show 3 + (k - 3) = k by omega, List.getElem?_eq_getElem (by omega)]
  unfold tDec
  rw [List.foldl_append]
  have hs : sepB k = false := by
    have hc : k = 3 ∨ k = 4 ∨ k = 5 ∨ k = 6 ∨ k = 7 ∨ k = 8 := by omega
    rcases hc with rfl | rfl | rfl | rfl | rfl | rfl <;> rfl
  unfold vN
  rw [hs]
  simp [List.getD, show k < s.length by omega]
theorem mid_lt {s : List UInt8} {k : Nat} (hl : s.length = 12) (hg : goodS s 12) (h1 : 3 ≤ k) (h2 : k ≤ 9) : midN s k < 1000000 := by
  have hd : ((s.drop 3).take (k - 3)).all tDig = true := by
    rw [List.all_eq_true]
    intro x hx
    obtain ⟨i, hi, e⟩ := List.mem_iff_getElem.1 hx
    rw [List.length_take, List.length_drop] at hi
    rw [List.getElem_take, List.getElem_drop] at e
    have := (hg (3 + i) (by omega)).resolve_left (by
      have hc : i = 0 ∨ i = 1 ∨ i = 2 ∨ i = 3 ∨ i = 4 ∨ i = 5 := by omega
      rcases hc with rfl | rfl | rfl | rfl | rfl | rfl <;> decide)
    rw [List.getD, List.getElem?_eq_getElem (by omega), Option.getD_some, e] at this
    exact this
  have h3 := dec_lt _ hd
  have h4 : ((s.drop 3).take (k - 3)).length ≤ 6 := by rw [List.length_take]; omega
  have h5 : 10 ^ ((s.drop 3).take (k - 3)).length ≤ 10 ^ 6 := Nat.pow_le_pow_right (by omega) h4
  unfold midN
  omega
theorem vN_le {s : List UInt8} {j : Nat} (hg : goodS s 12) (hj : j < 12) : vN s j ≤ 9 := by
  unfold vN
  cases hs : sepB j with
  | true => simp
  | false =>
    have := (hg j hj).resolve_left (by rw [hs]; decide)
    simp only [tDig, Bool.and_eq_true, decide_eq_true_eq] at this
    simp only [Bool.false_eq_true, if_false]
    omega
set_option maxRecDepth 100000 in
set_option maxHeartbeats 6400000 in
theorem rParse_any (s : List UInt8) (w : World) :
    Calls Tryd.prog 11 #[txt s] w fun e w' => e = .returned (prsT s) ∧ Below w.heap.size w w' := by
  obtain ⟨P, hP⟩ : ∃ P, P = prsT s := ⟨_, rfl⟩
  have HPR := Lib.hid hP
  rw [← hP]
  clear hP
  go_enter Tryd.func11, Tryd.ntmps11
  by_cases h12 : s.length = 12
  · have x0 : ∀ W, (Instr.index 9 (txt s) (.int .i64 0)).run Tryd.prog W = .ok (.int .u8 ((s.getD 0 0).toNat : Int)) W := fun W => str_at s 0 (by omega) W
    have x2 : ∀ W, (Instr.index 9 (txt s) (.int .i64 2)).run Tryd.prog W = .ok (.int .u8 ((s.getD 2 0).toNat : Int)) W := fun W => str_at s 2 (by omega) W
    have x9 : ∀ W, (Instr.index 9 (txt s) (.int .i64 9)).run Tryd.prog W = .ok (.int .u8 ((s.getD 9 0).toNat : Int)) W := fun W => str_at s 9 (by omega) W
    have HX : Hid (∀ (k : Nat) W, k < 12 → (Instr.index 9 (txt s) (.int .i64 (k : Int))).run Tryd.prog W = .ok (.int .u8 ((s.getD k 0).toNat : Int)) W) := fun k W hk => str_at s k (by omega) W
    have h12i : (s.length : Int) = 12 := by omega
    obtain ⟨c0, hc0⟩ : ∃ c, c = s.getD 0 0 := ⟨_, rfl⟩
    obtain ⟨c2, hc2⟩ : ∃ c, c = s.getD 2 0 := ⟨_, rfl⟩
    obtain ⟨c9, hc9⟩ : ∃ c, c = s.getD 9 0 := ⟨_, rfl⟩
    rw [← hc0] at x0
    rw [← hc2] at x2
    rw [← hc9] at x9
    have HC := Lib.hid (And.intro hc0 (And.intro hc2 hc9))
    have H12 := Lib.hid h12
    clear hc0 hc2 hc9 h12
    by_cases k0 : c0 = 116
    · by_cases k2 : c2 = 45
      · by_cases k9 : c9 = 45
        · have HK := Lib.hid (And.intro (HC.out.1.symm.trans k0) (And.intro (HC.out.2.1.symm.trans k2) (HC.out.2.2.symm.trans k9)))
          subst k0 k2 k9
          go_upto_region 5 with ((with_reducible show wpList _ _ _ (⟨some 6, .alloc _, _, _, _, _⟩ :: _) _ _); go_loud (refine wl_alloc rfl 66 rfl (List.replicate 12 (.int .i64 0)) 12 (by kernel_rfl) ?_); intro w1 hA1 hb1 hs1)
          have hA0 : Arr w1 w.heap.size 66 (digs s 0) := hA1
          obtain ⟨g, hg⟩ : ∃ g, g = w.heap.size := ⟨_, rfl⟩
          rw [← hg] at hA0 ⊢
          have HG := Lib.hid hg
          have HA0 := Lib.hid hA0
          have HB1 := Lib.hid hb1
          clear hA1 hb1 hs1 hA0 hg x0 x2 x9 h12i HC
          go_loopw [7] (fun ix wr => ∃ k : Nat, k ≤ 12 ∧ ix = .int .i64 (k : Int) ∧ goodS s k ∧ Arr wr g 66 (digs s k) ∧ Below w.heap.size w wr) (fun ix _ => 12 - (intOf ix).toNat)
          case atStart => exact ⟨0, by omega, rfl, fun j hj => by omega, HA0.out, HB1.out⟩
          case round =>
            obtain ⟨k, hk, rfl, hgd, hA, hbr⟩ := hrel
            have HGD := Lib.hid hgd
            have HA := Lib.hid hA
            have HBR := Lib.hid hbr
            clear hgd hA hbr
            by_cases hlt : k < 12
            · have hlti : (k : Int) < 12 := by omega
              by_cases hsep : k = 0 ∨ k = 2 ∨ k = 9
              · have hsb : sepB k = true := by rcases hsep with rfl | rfl | rfl <;> rfl
                have HSB := Lib.hid hsb
                have HREL : Hid (goodS s (k + 1) ∧ Arr wr g 66 (digs s (k + 1))) := by
                  refine ⟨fun j hj => ?_, by rw [digs_skip s k HSB.out]; exact HA.out⟩
                  by_cases e : j = k
                  · rw [e]; exact .inl HSB.out
                  · exact HGD.out j (by omega)
                clear hsb
                rcases hsep with rfl | rfl | rfl
                all_goals
                  go_wp2_with fail
                  go_roundw
                  case rel => first | exact ⟨1, by omega, rfl, HREL.out.1, HREL.out.2, HBR.out⟩ | exact ⟨3, by omega, rfl, HREL.out.1, HREL.out.2, HBR.out⟩ | exact ⟨10, by omega, rfl, HREL.out.1, HREL.out.2, HBR.out⟩
                  case measure => simp [intOf]
              · have q0 : ((k : Int) == 0) = false := beq_eq_false_iff_ne.2 (by omega)
                have q2 : ((k : Int) == 2) = false := beq_eq_false_iff_ne.2 (by omega)
                have q9 : ((k : Int) == 9) = false := beq_eq_false_iff_ne.2 (by omega)
                have hsb : sepB k = false := by
                  simp only [sepB, Bool.or_eq_false_iff, beq_eq_false_iff_ne]
                  omega
                have HSB := Lib.hid hsb
                have HSE := Lib.hid hsep
                have hix := fun W => HX.out k W hlt
                obtain ⟨c, hc⟩ : ∃ c, c = s.getD k 0 := ⟨_, rfl⟩
                rw [← hc] at hix
                have HC := Lib.hid hc
                clear hc hsb hsep
                have HBAD : Hid (tDig c = false → okN s = false) := fun h => by
                  cases hq : okN s with
                  | false => rfl
                  | true =>
                    have := ((good_of hq).2.2.2.2 k hlt).resolve_left (by rw [HSB.out]; decide)
                    rw [← HC.out, h] at this
                    cases this
                by_cases l48 : c.toNat < 48
                · have l48' : (c.toNat : Int) < 48 := by omega
                  have HL := Lib.hid l48
                  clear l48
                  go_wp2_with fail
                  refine bodyPost_ret (two_tuple4 rfl rfl rfl rfl rfl) rfl ⟨?_, HBR.out⟩
                  rw [HPR.out, prs_no (HBAD.out (by simp only [tDig, Bool.and_eq_false_iff, decide_eq_false_iff_not]; have := HL.out; omega))]
                  rfl
                · have l48' : ¬ (c.toNat : Int) < 48 := by omega
                  by_cases l57 : 57 < c.toNat
                  · have l57' : (57 : Int) < (c.toNat : Int) := by omega
                    have HL := Lib.hid l57
                    clear l48 l57
                    go_wp2_with fail
                    refine bodyPost_ret (two_tuple4 rfl rfl rfl rfl rfl) rfl ⟨?_, HBR.out⟩
                    rw [HPR.out, prs_no (HBAD.out (by simp only [tDig, Bool.and_eq_false_iff, decide_eq_false_iff_not]; have := HL.out; omega))]
                    rfl
                  · have l57' : ¬ (57 : Int) < (c.toNat : Int) := by omega
                    have HTD : Hid (tDig c = true) := by show tDig c = true; simp only [tDig, Bool.and_eq_true, decide_eq_true_eq]; omega
                    have hw8 : IntKind.u8.wrap ((c.toNat : Int) - 48) = ((vN s k : Nat) : Int) := by
                      unfold vN
                      rw [HSB.out, ← HC.out]
                      simp only [Bool.false_eq_true, if_false]
                      rw [show IntKind.u8.wrap ((c.toNat : Int) - 48) = ((c.toNat : Int) - 48) % 256 from rfl]
                      omega
                    have hwi : IntKind.i64.wrap ((vN s k : Nat) : Int) = ((vN s k : Nat) : Int) := by
                      have : vN s k ≤ 255 := by unfold vN; split; omega; have := (s.getD k 0).toNat_lt; omega
                      rw [IntKind.wrap_i64]; omega
                    obtain ⟨V, hV⟩ : ∃ V, V = vN s k := ⟨_, rfl⟩
                    rw [← hV] at hw8 hwi
                    have HV := Lib.hid hV
                    clear l48 l57 hV
                    go_wp2_with ((with_reducible show wpList _ _ _ (⟨none, .store _ _ _, _, _, _, _⟩ :: _) _ _); go_loud (refine wl_store1 rfl 3 _ _ rfl g k rfl (.int .i64 (V : Int)) rfl rfl rfl 66 _ HA.out (by kernel_rfl) (by rw [digs_len]; exact hlt) ?_); intro w2 hA2 hg2 hs2)
                    rw [HV.out, digs_set s k hlt] at hA2
                    go_roundw
                    case rel =>
                      refine ⟨k + 1, by omega, by go_num, fun j hj => ?_, hA2, HBR.out.grown hg2 HBR.out.size (fun q hq => by injection hq with hq; have := HG.out; omega)⟩
                      by_cases e : j = k
                      · rw [e, ← HC.out]; exact .inr HTD.out
                      · exact HGD.out j (by omega)
                    case measure => simp [intOf]; omega
            · have e : k = 12 := by omega
              subst e
              have HLE := Lib.hid (fun j hj => vN_le (s := s) (j := j) HGD.out hj)
              have hcell : ∀ j, j < 12 → wr.cell? ⟨g, j, none⟩ = some (.int .i64 (vN s j : Int)) := fun j hj => by
                rw [HA.out.cell, digs_at s 12 j hj, if_pos hj]
              have d1 := hcell 1 (by omega)
              have d10 := hcell 10 (by omega)
              have d11 := hcell 11 (by omega)
              have HCL := Lib.hid hcell
              have HP := Lib.hid (prs_of H12.out HK.out.1 HK.out.2.1 HK.out.2.2 HGD.out)
              have b1 := HLE.out 1 (by omega)
              have b10 := HLE.out 10 (by omega)
              have b11 := HLE.out 11 (by omega)
              obtain ⟨v1, hv1⟩ : ∃ v, v = vN s 1 := ⟨_, rfl⟩
              obtain ⟨v10, hv10⟩ : ∃ v, v = vN s 10 := ⟨_, rfl⟩
              obtain ⟨v11, hv11⟩ : ∃ v, v = vN s 11 := ⟨_, rfl⟩
              rw [← hv1] at d1 b1
              rw [← hv10] at d10 b10
              rw [← hv11] at d11 b11
              rw [← hv1, ← hv10, ← hv11] at HP
              clear hcell hv1 hv10 hv11
              go_upto_region 14 with fail
              go_loop [9, 10] (fun q ix => ∃ k : Nat, 3 ≤ k ∧ k ≤ 9 ∧ q = .int .u64 (midN s k : Int) ∧ ix = .int .i64 (k : Int)) (fun _ ix => 9 - (intOf ix).toNat)
              case atStart => exact ⟨3, by omega, by omega, rfl, rfl⟩
              case round =>
                obtain ⟨k, hk3, hk9, rfl, rfl⟩ := hrel
                by_cases hlt9 : k < 9
                · have hlti : (k : Int) < 9 := by omega
                  have dk := HCL.out k (by omega)
                  have bk := HLE.out k (by omega)
                  have hst := mid_step H12.out hk3 hlt9
                  have hml := mid_lt H12.out HGD.out hk3 hk9
                  obtain ⟨M, hM⟩ : ∃ M, M = midN s k := ⟨_, rfl⟩
                  obtain ⟨V, hV⟩ : ∃ V, V = vN s k := ⟨_, rfl⟩
                  rw [← hM] at hst hml ⊢
                  rw [← hV] at dk bk hst
                  have hwv : IntKind.u64.wrap ((V : Nat) : Int) = ((V : Nat) : Int) := by rw [IntKind.wrap_u64]; omega
                  have HST := Lib.hid hst
                  clear hst hM hV d1 d10 d11 b1 b10 b11
                  go_wp2_with fail
                  go_roundw
                  case rel =>
                    refine ⟨k + 1, by omega, by omega, ?_, by go_num⟩
                    rw [HST.out]
                    show Value.int _ _ = Value.int _ _
                    congr 1
                    first | (push_cast; omega) | (rw [IntKind.wrap_u64]; push_cast; omega)
                  case measure => simp [intOf]; omega
                · have e : k = 9 := by omega
                  subst e
                  have hwz : IntKind.i64.wrap (10 * (v10 : Int) + (v11 : Int)) = ((10 * v10 + v11 : Nat) : Int) := by rw [IntKind.wrap_i64]; push_cast; omega
                  by_cases c1 : 5 < v1
                  · have c1' : (5 : Int) < (v1 : Int) := by omega
                    have HNO := Lib.hid (HP.out.2 (fun h => by omega))
                    clear c1 hwz
                    go_wp2_with fail
                    refine bodyPost_ret (two_tuple4 rfl rfl rfl rfl rfl) rfl ⟨?_, HBR.out⟩
                    rw [HPR.out, prs_no HNO.out]
                    rfl
                  · have c1' : ¬ (5 : Int) < (v1 : Int) := by omega
                    by_cases c2 : 10 * v10 + v11 < 1
                    · have c2' : (10 * (v10 : Int) + (v11 : Int)) < 1 := by omega
                      have HNO := Lib.hid (HP.out.2 (fun h => by omega))
                      clear c1 c2 hwz
                      go_wp2_with fail
                      refine bodyPost_ret (two_tuple4 rfl rfl rfl rfl rfl) rfl ⟨?_, HBR.out⟩
                      rw [HPR.out, prs_no HNO.out]
                      rfl
                    · have c2' : ¬ (10 * (v10 : Int) + (v11 : Int)) < 1 := by omega
                      by_cases c3 : 16 < 10 * v10 + v11
                      · have c3' : (16 : Int) < (10 * (v10 : Int) + (v11 : Int)) := by omega
                        have HNO := Lib.hid (HP.out.2 (fun h => by omega))
                        clear c1 c2 c3 hwz
                        go_wp2_with fail
                        refine bodyPost_ret (two_tuple4 rfl rfl rfl rfl rfl) rfl ⟨?_, HBR.out⟩
                        rw [HPR.out, prs_no HNO.out]
                        rfl
                      · have c3' : ¬ (16 : Int) < (10 * (v10 : Int) + (v11 : Int)) := by omega
                        have HYES := Lib.hid (HP.out.1 ⟨by omega, by omega, by omega⟩)
                        clear c1 c2 c3 hwz
                        go_wp2_with fail
                        refine bodyPost_ret (two_tuple4 rfl rfl rfl rfl rfl) rfl ⟨?_, HBR.out⟩
                        rw [HPR.out, HYES.out]
                        push_cast
                        rfl
        · have k9' : ¬ ((c9.toNat : Nat) : Int) = 45 := fun e => k9 (UInt8.toNat_inj.1 (by show c9.toNat = 45; omega))
          have HNO : Hid (okN s = false) := by
            show okN s = false
            cases hq : okN s with
            | false => rfl
            | true => exact absurd (HC.out.2.2.trans (good_of hq).2.2.2.1) k9
          subst k0 k2
          have k9b : (((c9.toNat : Nat) : Int) != 45) = true := by simpa using k9'
          clear k9
          go_wp2_with fail
          refine bodyPost_ret (two_tuple4 rfl rfl rfl rfl rfl) rfl ⟨?_, Below.refl _ _⟩
          rw [HPR.out, prs_no HNO.out]
          rfl
      · have k2' : ¬ ((c2.toNat : Nat) : Int) = 45 := fun e => k2 (UInt8.toNat_inj.1 (by show c2.toNat = 45; omega))
        have HNO : Hid (okN s = false) := by
          show okN s = false
          cases hq : okN s with
          | false => rfl
          | true => exact absurd (HC.out.2.1.trans (good_of hq).2.2.1) k2
        subst k0
        have k2b : (((c2.toNat : Nat) : Int) != 45) = true := by simpa using k2'
        clear k2
        go_wp2_with fail
        refine bodyPost_ret (two_tuple4 rfl rfl rfl rfl rfl) rfl ⟨?_, Below.refl _ _⟩
        rw [HPR.out, prs_no HNO.out]
        rfl
    · have k0' : ¬ ((c0.toNat : Nat) : Int) = 116 := fun e => k0 (UInt8.toNat_inj.1 (by show c0.toNat = 116; omega))
      have HNO : Hid (okN s = false) := by
        show okN s = false
        cases hq : okN s with
        | false => rfl
        | true => exact absurd (HC.out.1.trans (good_of hq).2.1) k0
      have k0b : (((c0.toNat : Nat) : Int) != 116) = true := by simpa using k0'
      clear k0
      go_wp2_with fail
      refine bodyPost_ret (two_tuple4 rfl rfl rfl rfl rfl) rfl ⟨?_, Below.refl _ _⟩
      rw [HPR.out, prs_no HNO.out]
      rfl
  · have HNO : Hid (okN s = false) := by
      show okN s = false
      cases hq : okN s with
      | false => rfl
      | true => exact absurd (good_of hq).1 h12
    have h12i : ¬ (s.length : Int) = 12 := by omega
    have h12b : ((s.length : Int) != 12) = true := by simpa using h12i
    clear h12
    go_wp2_with fail
    refine bodyPost_ret (two_tuple4 rfl rfl rfl rfl rfl) rfl ⟨?_, Below.refl _ _⟩
    rw [HPR.out, prs_no HNO.out]
    rfl
end Go.Proofs.YtfidajbenmgflaaDoor
