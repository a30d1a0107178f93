/-
  Layer 4: the document's reader: strings. Conditions: those in each statement.
-/
import Derived.Test.YtbondnljoalajaaDoorRdXs
namespace Go.Proofs.YtbondnljoalajaaDoor
open Go.RowKit

set_option maxRecDepth 100000 in
set_option maxHeartbeats 25600000 in
theorem rStr_any (R : Nat) (bs : List UInt8) (a : Option Addr) (c k : Nat) (w : World) (h : RefAt w R bs a c k false) (hlim : bs.length ≤ 1048576) (hR : R < w.heap.size) :
    Calls Tryd.prog 54 #[.pointer (some ⟨R, 0, none⟩)] w (StrP R bs a c k w) := by
  have hM := Lib.hid (rMust_any R [34] bs a c k false w h (by simp))
  have hle := h.text.le
  have HLE := Lib.hid hle
  clear h hle
  go_enter Tryd.func54, Tryd.ntmps54
  go_upto_region 2 with (go_at_call 53; refine hM.out.mono ?_; rintro e w1 ⟨rfl, hmp⟩)
  obtain ⟨hg1, k1, bad1, hk1, hr1, hs1, hn1⟩ := hmp
  have hst : StrAt bs a c k R w [] k1 bad1 (.slice none 0 0) w1 := by
    refine ⟨Own.nil _ _ _, hr1, hg1, hk1, by simp, ?_⟩
    cases hm : mustF [34] (bs.drop k) with
    | none => exact .inr ⟨hn1 hm, by unfold strR; rw [hm]⟩
    | some r =>
      obtain ⟨e1, e2⟩ := hs1 r hm
      refine .inl ⟨e1, r.length + 1, ?_, ?_⟩
      · rw [← e2, List.length_drop]; omega
      · unfold strR
        rw [hm, e2]
        simp only [aheadF]
        cases strF (r.length + 1) r <;> simp
  clear hg1 hk1 hr1 hs1 hn1
  go_wp2_with fail
  go_loopw [3] (fun v wr => ∃ (acc : List UInt8) (q : Nat) (bad : Bool), StrAt bs a c k R w acc q bad v wr) (fun _ wr => bs.length - (intOf ((wr.cell? ⟨R, 1, none⟩).getD undef)).toNat)
  case atStart => exact ⟨[], k1, bad1, hst⟩
  case round =>
    clear hst
    obtain ⟨acc, q, bad, hS⟩ := hrel
    have HS := Lib.hid hS
    obtain ⟨va, vc, rfl, -⟩ := hS.own.shape
    have c2 := (hS.ref.arr.cell 2).trans (show _ = some (Value.bool bad) from rfl)
    clear hS
    cases bad with
    | true =>
      have HE : Hid (StrE bs a c k R w acc q true (.slice va acc.length vc) wr) := ⟨HS.out.own, HS.out.ref, HS.out.gb, HS.out.le, by have := HS.out.len; have := HS.out.ref.at_; omega, by
        rcases HS.out.res with ⟨h1, _⟩ | ⟨h1, h2⟩
        · cases h1
        · exact .inl ⟨rfl, h2⟩⟩
      go_upto_region 44 with fail
      clear c2
      have hcv := own_conv HE.out.own
      have hcv2 := own_conv (own_past HE.out.own (gb_cellAt wr R 2 (.bool true)) hR)
      have c2 := (HE.out.ref.arr.cell 2).trans (show _ = some (Value.bool true) from rfl)
      have f2 := HE.out.ref.arr.frozen 2
      have hu8 := Lib.hid (fun W => rUtf8_any acc W (by have := HE.out.len; omega))
      cases hu : utf8F acc with
      | false =>
        have fin := Lib.hid (HE.out.fail hu)
        rw [hu] at hu8
        clear hu
        go_wp2_with (go_at_call 46; refine (hu8.out _).mono ?_; rintro e w9 ⟨rfl, hw9⟩; obtain rfl := hw9)
        go_ret
        exact fin.out
      | true =>
        have fin := Lib.hid (HE.out.fin hu)
        rw [hu] at hu8
        clear hu
        go_wp2_with (go_at_call 46; refine (hu8.out _).mono ?_; rintro e w9 ⟨rfl, hw9⟩; obtain rfl := hw9)
        go_ret
        exact fin.out
    | false =>
      obtain ⟨f, hf, hres⟩ : ∃ f, bs.length - q < f ∧ strR (bs.drop k) = aheadF acc (strF f (bs.drop q)) := by
        rcases HS.out.res with ⟨_, h2⟩ | ⟨h1, _⟩
        · exact h2
        · cases h1
      have HF := Lib.hid hf
      have HRES := Lib.hid hres
      clear hf hres
      go_upto_region 4 with fail
      have c0 := (HS.out.ref.arr.cell 0).trans (show _ = some (Value.slice a bs.length c) from rfl)
      have c1 := (HS.out.ref.arr.cell 1).trans (show _ = some (Value.int .i64 (q : Int)) from rfl)
      have f1 := HS.out.ref.arr.frozen 1
      have f2 := HS.out.ref.arr.frozen 2
      have hat := HS.out.ref.at_
      have hq0 : (0 : Int) ≤ (q : Int) := by omega
      by_cases hlt : q < bs.length
      · have hc : ¬ (q : Int) ≥ (bs.length : Int) := by omega
        have hqn : (q : Int) < (bs.length : Int) := by omega
        obtain ⟨b, off, rfl, hbR, hbw, hcell⟩ := HS.out.ref.text.mem (by omega)
        have ck := hcell q hlt
        have hkc : q < c := by have := HLE.out; omega
        have hdr := drop_cons hlt
        obtain ⟨x, hx⟩ : ∃ x, x = bs.getD q 0 := ⟨_, rfl⟩
        rw [← hx] at ck hdr
        have HDR := Lib.hid hdr
        have HLT := Lib.hid hlt
        obtain ⟨f', hf'⟩ : ∃ f', f = f' + 1 := ⟨f - 1, by have := HF.out; omega⟩
        subst hf'
        have HR2 : Hid (strR (bs.drop k) = aheadF acc (if x.toNat < 32 then none else if x = 34 then some ([], bs.drop (q + 1)) else if x ≠ 92 then (strF f' (bs.drop (q + 1))).map fun (s, q) => (x :: s, q) else escT f' (bs.drop (q + 1)))) := by
          show _ = _
          rw [HRES.out, HDR.out, strF_cons]
        clear hcell hdr hx hlt HRES
        by_cases h32 : x.toNat < 32
        · as_aux_lemma =>
          have i32 : (x.toNat : Int) < 32 := by omega
          have hno : strR (bs.drop k) = none := by rw [HR2.out, if_pos h32]; rfl
          have fin : Hid (StrP R bs (some ⟨b, off, none⟩) c k w (.returned (.string ⟨#[]⟩)) (wr.drew.setCell ⟨R, 2, none⟩ (.bool true))) :=
            ⟨gb_trans (gb_drew HS.out.gb) (gb_cellAt _ _ _ _), [], q, true, rfl, HS.out.le, HS.out.ref.drew.bad true, by simp, (fun s0 r hs => by rw [string_bad hno] at hs; cases hs), fun _ => rfl⟩
          clear hno h32 HR2
          go_region
          all_goals
            have c2 : wr.drew.cell? ⟨R, 2, none⟩ = some (Value.bool false) := c2
            have f2 : wr.drew.frozen? ⟨R, 2, none⟩ = false := f2
            go_wp2_with fail
            go_ret
            exact fin.out
        · have i32 : ¬ (x.toNat : Int) < 32 := by omega
          rw [if_neg h32] at HR2
          clear h32
          have hk1 : (q : Int) + 1 ≤ 9223372036854775807 := by omega
          go_region
          all_goals
            have c0 : wr.drew.cell? ⟨R, 0, none⟩ = some (Value.slice (some ⟨b, off, none⟩) bs.length c) := c0
            have c1 : wr.drew.cell? ⟨R, 1, none⟩ = some (Value.int .i64 (q : Int)) := c1
            have ck : wr.drew.cell? ⟨b, off + q, none⟩ = some (.int .u8 (x.toNat : Int)) := ck
            go_upto_region 7 with fail
            go_region
            all_goals
              have c1 : wr.drew.drew.cell? ⟨R, 1, none⟩ = some (Value.int .i64 (q : Int)) := c1
              have f1 : wr.drew.drew.frozen? ⟨R, 1, none⟩ = false := f1
              go_upto_region 9 with fail
              have hmv := (HS.out.ref.move (q + 1) HLT.out).drew.drew
              have ecast : ((q + 1 : Nat) : Int) = (q : Int) + 1 := by omega
              rw [ecast] at hmv
              have hgv : w.grownBy (wr.setCell ⟨R, 1, none⟩ (.int .i64 ((q : Int) + 1))).drew.drew (some R) := gb_drew (gb_drew (gb_trans HS.out.gb (gb_cellAt _ _ _ _)))
              have hov : Own (wr.setCell ⟨R, 1, none⟩ (.int .i64 ((q : Int) + 1))).drew.drew w.heap.size 5 (.slice va acc.length vc) acc := own_past HS.out.own (gb_drew (gb_drew (gb_cellAt _ _ _ _))) hR
              have hsz : wr.heap.size ≤ (wr.setCell ⟨R, 1, none⟩ (.int .i64 ((q : Int) + 1))).drew.drew.heap.size := (gb_drew (gb_drew (gb_cellAt wr R 1 _))).size
              generalize (wr.setCell ⟨R, 1, none⟩ (.int .i64 ((q : Int) + 1))).drew.drew = V2 at hmv hgv hov hsz ⊢
              have HMV := Lib.hid hmv
              have HGV := Lib.hid hgv
              have HOV := Lib.hid hov
              have HSZ := Lib.hid hsz
              clear hmv hgv hov hsz ecast c0 c1 f1 c2 f2 ck
              by_cases h34 : x = 34
              · as_aux_lemma =>
                have i34 : ((x.toNat : Int) == 34) = true := by rw [h34]; rfl
                have HE : Hid (StrE bs (some ⟨b, off, none⟩) c k R w acc (q + 1) false (.slice va acc.length vc) V2) := ⟨HOV.out, HMV.out, HGV.out, by have := HS.out.le; omega, by have := HS.out.len; have := HS.out.ref.at_; omega, .inr ⟨rfl, by rw [HR2.out, if_pos h34]; simp [aheadF]⟩⟩
                clear h34 HR2
                go_upto_region 44 with fail
                skip
                have hcv := own_conv HE.out.own
                have hcv2 := own_conv (own_past HE.out.own (gb_cellAt V2 R 2 (.bool true)) hR)
                have c2 := (HE.out.ref.arr.cell 2).trans (show _ = some (Value.bool false) from rfl)
                have f2 := HE.out.ref.arr.frozen 2
                have hu8 := Lib.hid (fun W => rUtf8_any acc W (by have := HE.out.len; omega))
                cases hu : utf8F acc with
                | false =>
                  have fin := Lib.hid (HE.out.fail hu)
                  rw [hu] at hu8
                  clear hu
                  go_wp2_with (go_at_call 46; refine (hu8.out _).mono ?_; rintro e w9 ⟨rfl, hw9⟩; obtain rfl := hw9)
                  go_ret
                  exact fin.out
                | true =>
                  have fin := Lib.hid (HE.out.fin hu)
                  rw [hu] at hu8
                  clear hu
                  go_wp2_with (go_at_call 46; refine (hu8.out _).mono ?_; rintro e w9 ⟨rfl, hw9⟩; obtain rfl := hw9)
                  go_ret
                  exact fin.out
              · have i34 : ((x.toNat : Int) == 34) = false := beq_eq_false_iff_ne.2 (fun e => h34 ((u8_eq x 34).1 e))
                rw [if_neg h34] at HR2
                clear h34
                by_cases h92 : x = 92
                · have i92 : ((x.toNat : Int) != 92) = false := by rw [h92]; rfl
                  rw [if_neg (fun h => h h92)] at HR2
                  clear h92
                  go_upto_region 12 with fail
                  have c0 := (HMV.out.arr.cell 0).trans (show _ = some (Value.slice (some ⟨b, off, none⟩) bs.length c) from rfl)
                  have c1 := (HMV.out.arr.cell 1).trans (show _ = some (Value.int .i64 ((q + 1 : Nat) : Int)) from rfl)
                  have f1 := HMV.out.arr.frozen 1
                  have c2 := (HMV.out.arr.cell 2).trans (show _ = some (Value.bool false) from rfl)
                  have f2 := HMV.out.arr.frozen 2
                  obtain ⟨p, hp⟩ : ∃ p, p = q + 1 := ⟨_, rfl⟩
                  rw [← hp] at c1 HR2
                  have HP := Lib.hid hp
                  have hmvp := HMV.out
                  rw [← hp] at hmvp
                  have HMP := Lib.hid hmvp
                  clear hp hmvp HMV
                  have hp0 : (0 : Int) ≤ (p : Int) := by omega
                  by_cases hpl : p < bs.length
                  · have hc : ¬ (p : Int) ≥ (bs.length : Int) := by omega
                    have hpn : (p : Int) < (bs.length : Int) := by omega
                    obtain ⟨b', off', e', hbR', hbw', hcell'⟩ := HMP.out.text.mem (by omega)
                    cases e'
                    have ck := hcell' p hpl
                    have hpc : p < c := by have := HLE.out; omega
                    have hdr := drop_cons hpl
                    obtain ⟨y, hy⟩ : ∃ y, y = bs.getD p 0 := ⟨_, rfl⟩
                    rw [← hy] at ck hdr
                    rw [hdr] at HR2
                    have HPL := Lib.hid hpl
                    have hp1 : (p : Int) + 1 ≤ 9223372036854775807 := by omega
                    clear hcell' hdr hy hpl
                    go_region
                    all_goals
                      have c0 := (HMP.out.drew.arr.cell 0).trans (show _ = some (Value.slice _ bs.length c) from rfl)
                      have c1 : V2.drew.cell? ⟨R, 1, none⟩ = some (Value.int .i64 (p : Int)) := c1
                      have ck : V2.drew.cell? _ = some (.int .u8 (y.toNat : Int)) := ck
                      go_upto_region 15 with fail
                      go_region
                      all_goals
                        have c1 : V2.drew.drew.cell? ⟨R, 1, none⟩ = some (Value.int .i64 (p : Int)) := c1
                        have f1 : V2.drew.drew.frozen? ⟨R, 1, none⟩ = false := f1
                        go_upto_region 17 with fail
                        have hmv := (HMP.out.move (p + 1) HPL.out).drew.drew
                        have ecast : ((p + 1 : Nat) : Int) = (p : Int) + 1 := by omega
                        rw [ecast] at hmv
                        have hgv : w.grownBy (V2.setCell ⟨R, 1, none⟩ (.int .i64 ((p : Int) + 1))).drew.drew (some R) := gb_drew (gb_drew (gb_trans HGV.out (gb_cellAt _ _ _ _)))
                        have hov : Own (V2.setCell ⟨R, 1, none⟩ (.int .i64 ((p : Int) + 1))).drew.drew w.heap.size 5 (.slice va acc.length vc) acc := own_past HOV.out (gb_drew (gb_drew (gb_cellAt _ _ _ _))) hR
                        generalize (V2.setCell ⟨R, 1, none⟩ (.int .i64 ((p : Int) + 1))).drew.drew = V3 at hmv hgv hov ⊢
                        have HM3 := Lib.hid hmv
                        have HG3 := Lib.hid hgv
                        have HO3 := Lib.hid hov
                        have hwV : Hid (w.heap.size ≤ V3.heap.size) := hgv.size
                        have hal := Lib.hid (fun o => (Below.refl V3.heap.size V3).alloc (Nat.le_refl _) o)
                        clear hmv hgv hov ecast c0 c1 f1 c2 f2 ck
                        have hys := esc_kinds y
                        rcases hys with rfl | rfl | rfl | rfl | rfl | rfl | rfl | rfl | rfl | hys
                        · as_aux_lemma =>
                          have HR3 : Hid (strR (bs.drop k) = aheadF (acc ++ [34]) (strF f' (bs.drop (p + 1)))) := by
                            show _ = _
                            have h1 : oneF 34 = some 34 := by decide
                            rw [HR2.out]
                            unfold escT
                            simp only [if_neg (show ¬ (34 : UInt8) = 117 by decide), h1]
                            rw [ahead_one]
                          clear HR2
                          go_wp2_with ((with_reducible show wpList _ _ _ (⟨some 106, _, _, _, _, _⟩ :: _) _ _); go_loud (refine wl_append bt rfl (.tmp 103) (.tmp 105) rfl w.heap.size _ _ (HO3.out.to (hal.out _)) rfl _ 1 1 [34] rfl (rd_lit _ [34] _) (by have := HS.out.len; have := HS.out.ref.at_; omega) (by have := hwV.out; simp; omega) ?_); intro v5 w5 ho5 hb5)
                          have hrf := HM3.out.below (((hal.out _).mono hwV.out).trans hb5) hR
                          go_roundw
                          case rel => exact ⟨acc ++ [34], p + 1, false, ho5, hrf, gb_belowR HG3.out (((hal.out _).mono hwV.out).trans hb5), by have := HS.out.le; have := HP.out; omega, by have := HS.out.len; have := HP.out; simp only [List.length_append, List.length_cons, List.length_nil]; omega, .inl ⟨rfl, f', by have := HF.out; have := HPL.out; have := HP.out; omega, HR3.out⟩⟩
                          case measure =>
                            have m1 := (hrf.arr.cell 1).trans (show _ = some (Value.int .i64 ((p + 1 : Nat) : Int)) from rfl)
                            have m2 := (HS.out.ref.arr.cell 1).trans (show _ = some (Value.int .i64 (q : Int)) from rfl)
                            have hq2 := HLT.out
                            have hq3 := HP.out
                            simp only [m1, m2, Option.getD_some, intOf]
                            omega
                        · as_aux_lemma =>
                          have HR3 : Hid (strR (bs.drop k) = aheadF (acc ++ [92]) (strF f' (bs.drop (p + 1)))) := by
                            show _ = _
                            have h1 : oneF 92 = some 92 := by decide
                            rw [HR2.out]
                            unfold escT
                            simp only [if_neg (show ¬ (92 : UInt8) = 117 by decide), h1]
                            rw [ahead_one]
                          clear HR2
                          go_wp2_with ((with_reducible show wpList _ _ _ (⟨some 106, _, _, _, _, _⟩ :: _) _ _); go_loud (refine wl_append bt rfl (.tmp 103) (.tmp 105) rfl w.heap.size _ _ (HO3.out.to (hal.out _)) rfl _ 1 1 [92] rfl (rd_lit _ [92] _) (by have := HS.out.len; have := HS.out.ref.at_; omega) (by have := hwV.out; simp; omega) ?_); intro v5 w5 ho5 hb5)
                          have hrf := HM3.out.below (((hal.out _).mono hwV.out).trans hb5) hR
                          go_roundw
                          case rel => exact ⟨acc ++ [92], p + 1, false, ho5, hrf, gb_belowR HG3.out (((hal.out _).mono hwV.out).trans hb5), by have := HS.out.le; have := HP.out; omega, by have := HS.out.len; have := HP.out; simp only [List.length_append, List.length_cons, List.length_nil]; omega, .inl ⟨rfl, f', by have := HF.out; have := HPL.out; have := HP.out; omega, HR3.out⟩⟩
                          case measure =>
                            have m1 := (hrf.arr.cell 1).trans (show _ = some (Value.int .i64 ((p + 1 : Nat) : Int)) from rfl)
                            have m2 := (HS.out.ref.arr.cell 1).trans (show _ = some (Value.int .i64 (q : Int)) from rfl)
                            have hq2 := HLT.out
                            have hq3 := HP.out
                            simp only [m1, m2, Option.getD_some, intOf]
                            omega
                        · as_aux_lemma =>
                          have HR3 : Hid (strR (bs.drop k) = aheadF (acc ++ [47]) (strF f' (bs.drop (p + 1)))) := by
                            show _ = _
                            have h1 : oneF 47 = some 47 := by decide
                            rw [HR2.out]
                            unfold escT
                            simp only [if_neg (show ¬ (47 : UInt8) = 117 by decide), h1]
                            rw [ahead_one]
                          clear HR2
                          go_wp2_with ((with_reducible show wpList _ _ _ (⟨some 106, _, _, _, _, _⟩ :: _) _ _); go_loud (refine wl_append bt rfl (.tmp 103) (.tmp 105) rfl w.heap.size _ _ (HO3.out.to (hal.out _)) rfl _ 1 1 [47] rfl (rd_lit _ [47] _) (by have := HS.out.len; have := HS.out.ref.at_; omega) (by have := hwV.out; simp; omega) ?_); intro v5 w5 ho5 hb5)
                          have hrf := HM3.out.below (((hal.out _).mono hwV.out).trans hb5) hR
                          go_roundw
                          case rel => exact ⟨acc ++ [47], p + 1, false, ho5, hrf, gb_belowR HG3.out (((hal.out _).mono hwV.out).trans hb5), by have := HS.out.le; have := HP.out; omega, by have := HS.out.len; have := HP.out; simp only [List.length_append, List.length_cons, List.length_nil]; omega, .inl ⟨rfl, f', by have := HF.out; have := HPL.out; have := HP.out; omega, HR3.out⟩⟩
                          case measure =>
                            have m1 := (hrf.arr.cell 1).trans (show _ = some (Value.int .i64 ((p + 1 : Nat) : Int)) from rfl)
                            have m2 := (HS.out.ref.arr.cell 1).trans (show _ = some (Value.int .i64 (q : Int)) from rfl)
                            have hq2 := HLT.out
                            have hq3 := HP.out
                            simp only [m1, m2, Option.getD_some, intOf]
                            omega
                        · as_aux_lemma =>
                          have HR3 : Hid (strR (bs.drop k) = aheadF (acc ++ [8]) (strF f' (bs.drop (p + 1)))) := by
                            show _ = _
                            have h1 : oneF 98 = some 8 := by decide
                            rw [HR2.out]
                            unfold escT
                            simp only [if_neg (show ¬ (98 : UInt8) = 117 by decide), h1]
                            rw [ahead_one]
                          clear HR2
                          go_wp2_with ((with_reducible show wpList _ _ _ (⟨some 111, _, _, _, _, _⟩ :: _) _ _); go_loud (refine wl_append bt rfl (.tmp 109) (.tmp 110) rfl w.heap.size _ _ (HO3.out.to (hal.out _)) rfl _ 1 1 [8] rfl (rd_lit _ [8] _) (by have := HS.out.len; have := HS.out.ref.at_; omega) (by have := hwV.out; simp; omega) ?_); intro v5 w5 ho5 hb5)
                          have hrf := HM3.out.below (((hal.out _).mono hwV.out).trans hb5) hR
                          go_roundw
                          case rel => exact ⟨acc ++ [8], p + 1, false, ho5, hrf, gb_belowR HG3.out (((hal.out _).mono hwV.out).trans hb5), by have := HS.out.le; have := HP.out; omega, by have := HS.out.len; have := HP.out; simp only [List.length_append, List.length_cons, List.length_nil]; omega, .inl ⟨rfl, f', by have := HF.out; have := HPL.out; have := HP.out; omega, HR3.out⟩⟩
                          case measure =>
                            have m1 := (hrf.arr.cell 1).trans (show _ = some (Value.int .i64 ((p + 1 : Nat) : Int)) from rfl)
                            have m2 := (HS.out.ref.arr.cell 1).trans (show _ = some (Value.int .i64 (q : Int)) from rfl)
                            have hq2 := HLT.out
                            have hq3 := HP.out
                            simp only [m1, m2, Option.getD_some, intOf]
                            omega
                        · as_aux_lemma =>
                          have HR3 : Hid (strR (bs.drop k) = aheadF (acc ++ [12]) (strF f' (bs.drop (p + 1)))) := by
                            show _ = _
                            have h1 : oneF 102 = some 12 := by decide
                            rw [HR2.out]
                            unfold escT
                            simp only [if_neg (show ¬ (102 : UInt8) = 117 by decide), h1]
                            rw [ahead_one]
                          clear HR2
                          go_wp2_with ((with_reducible show wpList _ _ _ (⟨some 116, _, _, _, _, _⟩ :: _) _ _); go_loud (refine wl_append bt rfl (.tmp 114) (.tmp 115) rfl w.heap.size _ _ (HO3.out.to (hal.out _)) rfl _ 1 1 [12] rfl (rd_lit _ [12] _) (by have := HS.out.len; have := HS.out.ref.at_; omega) (by have := hwV.out; simp; omega) ?_); intro v5 w5 ho5 hb5)
                          have hrf := HM3.out.below (((hal.out _).mono hwV.out).trans hb5) hR
                          go_roundw
                          case rel => exact ⟨acc ++ [12], p + 1, false, ho5, hrf, gb_belowR HG3.out (((hal.out _).mono hwV.out).trans hb5), by have := HS.out.le; have := HP.out; omega, by have := HS.out.len; have := HP.out; simp only [List.length_append, List.length_cons, List.length_nil]; omega, .inl ⟨rfl, f', by have := HF.out; have := HPL.out; have := HP.out; omega, HR3.out⟩⟩
                          case measure =>
                            have m1 := (hrf.arr.cell 1).trans (show _ = some (Value.int .i64 ((p + 1 : Nat) : Int)) from rfl)
                            have m2 := (HS.out.ref.arr.cell 1).trans (show _ = some (Value.int .i64 (q : Int)) from rfl)
                            have hq2 := HLT.out
                            have hq3 := HP.out
                            simp only [m1, m2, Option.getD_some, intOf]
                            omega
                        · as_aux_lemma =>
                          have HR3 : Hid (strR (bs.drop k) = aheadF (acc ++ [10]) (strF f' (bs.drop (p + 1)))) := by
                            show _ = _
                            have h1 : oneF 110 = some 10 := by decide
                            rw [HR2.out]
                            unfold escT
                            simp only [if_neg (show ¬ (110 : UInt8) = 117 by decide), h1]
                            rw [ahead_one]
                          clear HR2
                          go_wp2_with ((with_reducible show wpList _ _ _ (⟨some 121, _, _, _, _, _⟩ :: _) _ _); go_loud (refine wl_append bt rfl (.tmp 119) (.tmp 120) rfl w.heap.size _ _ (HO3.out.to (hal.out _)) rfl _ 1 1 [10] rfl (rd_lit _ [10] _) (by have := HS.out.len; have := HS.out.ref.at_; omega) (by have := hwV.out; simp; omega) ?_); intro v5 w5 ho5 hb5)
                          have hrf := HM3.out.below (((hal.out _).mono hwV.out).trans hb5) hR
                          go_roundw
                          case rel => exact ⟨acc ++ [10], p + 1, false, ho5, hrf, gb_belowR HG3.out (((hal.out _).mono hwV.out).trans hb5), by have := HS.out.le; have := HP.out; omega, by have := HS.out.len; have := HP.out; simp only [List.length_append, List.length_cons, List.length_nil]; omega, .inl ⟨rfl, f', by have := HF.out; have := HPL.out; have := HP.out; omega, HR3.out⟩⟩
                          case measure =>
                            have m1 := (hrf.arr.cell 1).trans (show _ = some (Value.int .i64 ((p + 1 : Nat) : Int)) from rfl)
                            have m2 := (HS.out.ref.arr.cell 1).trans (show _ = some (Value.int .i64 (q : Int)) from rfl)
                            have hq2 := HLT.out
                            have hq3 := HP.out
                            simp only [m1, m2, Option.getD_some, intOf]
                            omega
                        · as_aux_lemma =>
                          have HR3 : Hid (strR (bs.drop k) = aheadF (acc ++ [13]) (strF f' (bs.drop (p + 1)))) := by
                            show _ = _
                            have h1 : oneF 114 = some 13 := by decide
                            rw [HR2.out]
                            unfold escT
                            simp only [if_neg (show ¬ (114 : UInt8) = 117 by decide), h1]
                            rw [ahead_one]
                          clear HR2
                          go_wp2_with ((with_reducible show wpList _ _ _ (⟨some 126, _, _, _, _, _⟩ :: _) _ _); go_loud (refine wl_append bt rfl (.tmp 124) (.tmp 125) rfl w.heap.size _ _ (HO3.out.to (hal.out _)) rfl _ 1 1 [13] rfl (rd_lit _ [13] _) (by have := HS.out.len; have := HS.out.ref.at_; omega) (by have := hwV.out; simp; omega) ?_); intro v5 w5 ho5 hb5)
                          have hrf := HM3.out.below (((hal.out _).mono hwV.out).trans hb5) hR
                          go_roundw
                          case rel => exact ⟨acc ++ [13], p + 1, false, ho5, hrf, gb_belowR HG3.out (((hal.out _).mono hwV.out).trans hb5), by have := HS.out.le; have := HP.out; omega, by have := HS.out.len; have := HP.out; simp only [List.length_append, List.length_cons, List.length_nil]; omega, .inl ⟨rfl, f', by have := HF.out; have := HPL.out; have := HP.out; omega, HR3.out⟩⟩
                          case measure =>
                            have m1 := (hrf.arr.cell 1).trans (show _ = some (Value.int .i64 ((p + 1 : Nat) : Int)) from rfl)
                            have m2 := (HS.out.ref.arr.cell 1).trans (show _ = some (Value.int .i64 (q : Int)) from rfl)
                            have hq2 := HLT.out
                            have hq3 := HP.out
                            simp only [m1, m2, Option.getD_some, intOf]
                            omega
                        · as_aux_lemma =>
                          have HR3 : Hid (strR (bs.drop k) = aheadF (acc ++ [9]) (strF f' (bs.drop (p + 1)))) := by
                            show _ = _
                            have h1 : oneF 116 = some 9 := by decide
                            rw [HR2.out]
                            unfold escT
                            simp only [if_neg (show ¬ (116 : UInt8) = 117 by decide), h1]
                            rw [ahead_one]
                          clear HR2
                          go_wp2_with ((with_reducible show wpList _ _ _ (⟨some 131, _, _, _, _, _⟩ :: _) _ _); go_loud (refine wl_append bt rfl (.tmp 129) (.tmp 130) rfl w.heap.size _ _ (HO3.out.to (hal.out _)) rfl _ 1 1 [9] rfl (rd_lit _ [9] _) (by have := HS.out.len; have := HS.out.ref.at_; omega) (by have := hwV.out; simp; omega) ?_); intro v5 w5 ho5 hb5)
                          have hrf := HM3.out.below (((hal.out _).mono hwV.out).trans hb5) hR
                          go_roundw
                          case rel => exact ⟨acc ++ [9], p + 1, false, ho5, hrf, gb_belowR HG3.out (((hal.out _).mono hwV.out).trans hb5), by have := HS.out.le; have := HP.out; omega, by have := HS.out.len; have := HP.out; simp only [List.length_append, List.length_cons, List.length_nil]; omega, .inl ⟨rfl, f', by have := HF.out; have := HPL.out; have := HP.out; omega, HR3.out⟩⟩
                          case measure =>
                            have m1 := (hrf.arr.cell 1).trans (show _ = some (Value.int .i64 ((p + 1 : Nat) : Int)) from rfl)
                            have m2 := (HS.out.ref.arr.cell 1).trans (show _ = some (Value.int .i64 (q : Int)) from rfl)
                            have hq2 := HLT.out
                            have hq3 := HP.out
                            simp only [m1, m2, Option.getD_some, intOf]
                            omega
                        · as_aux_lemma =>
                          have hHR : Hid (strR (bs.drop k) = aheadF acc (digF f' (bs.drop (p + 1)))) := by
                            show _ = _
                            rw [HR2.out]
                            unfold escT
                            simp only [if_true]
                          clear HR2
                          go_upto_region 35 with (go_at_call 64; refine (rFour_any R bs _ c (p + 1) false V3 HM3.out).mono ?_; rintro e w4 ⟨hg4, n, k4, bad4, rfl, hk4, hr4, hn4, hs4, hz4⟩)
                          have HG4 := Lib.hid (gb_trans HG3.out hg4)
                          have HO4 := Lib.hid (own_past HO3.out hg4 hR)
                          have HR4 := Lib.hid hr4
                          have HKK := Lib.hid hk4
                          have HN4 := Lib.hid hn4
                          have c2 := (hr4.arr.cell 2).trans (show _ = some (Value.bool bad4) from rfl)
                          have f2 := hr4.arr.frozen 2
                          clear hg4 hr4 hk4 hn4 hwV hal
                          cases hf4 : fourF (bs.drop (p + 1)) with
                          | none =>
                            obtain ⟨hb4, hn0⟩ := hz4 hf4
                            subst hb4
                            have hno : Hid (strR (bs.drop k) = none) := by show _ = _; rw [hHR.out]; unfold digF; rw [hf4]; rfl
                            have i1 : ¬ ((55296 : Int) ≤ (n : Int)) := by omega
                            have i2 : ¬ ((56320 : Int) ≤ (n : Int)) := by omega
                            have i0 : (0 : Int) ≤ (n : Int) := by omega
                            have i9 : (n : Int) ≤ 65535 := by omega
                            clear hs4 hz4 hf4 hn0 hHR
                            obtain ⟨sx, hsx, hsl⟩ := encode_any ((n : Int))
                            have HSX := Lib.hid hsx
                            have HSL := Lib.hid hsl
                            clear hsx hsl
                            have hWs : Hid (w.heap.size ≤ w4.heap.size) := HG4.out.size
                            go_wp2_with ((with_reducible show wpList _ _ _ (⟨some 182, _, _, _, _, _⟩ :: _) _ _); go_loud (refine wl_append_str rfl (.tmp 178) (.tmp 181) rfl w.heap.size _ _ HO4.out rfl sx (congrArg Value.string HSX.out) (by have := HS.out.len; have := HS.out.ref.at_; have := HSL.out; omega) hWs.out ?_); intro v5 w5 ho5 hb5)
                            have hrf := HR4.out.below hb5 hR
                            go_roundw
                            case rel => exact ⟨acc ++ sx, k4, true, ho5, hrf, gb_belowR HG4.out hb5, by have := HS.out.le; have := HP.out; have := HKK.out; omega, by have := HS.out.len; have := HP.out; have := HKK.out; have := HSL.out; rw [List.length_append]; omega, .inr ⟨rfl, hno.out⟩⟩
                            case measure =>
                              have m1 := (hrf.arr.cell 1).trans (show _ = some (Value.int .i64 ((k4 : Nat) : Int)) from rfl)
                              have m2 := (HS.out.ref.arr.cell 1).trans (show _ = some (Value.int .i64 (q : Int)) from rfl)
                              have hq2 := HLT.out
                              have hq3 := HP.out
                              have hq4 := HKK.out
                              simp only [m1, m2, Option.getD_some, intOf]
                              omega
                          | some mr =>
                            obtain ⟨m0, r2⟩ := mr
                            obtain ⟨hm0, hb4, hd4⟩ := hs4 m0 r2 hf4
                            subst hm0 hb4
                            have hHR2 : Hid (strR (bs.drop k) = aheadF acc (if 55296 ≤ n ∧ n < 56320 then pairF f' n (bs.drop k4) else if 56320 ≤ n ∧ n < 57344 then none else (strF f' (bs.drop k4)).map fun (s, q) => (runeF n ++ s, q))) := by
                              show _ = _
                              rw [hHR.out]
                              unfold digF
                              rw [hf4, hd4]
                            have i0 : (0 : Int) ≤ (n : Int) := by omega
                            clear hs4 hz4 hf4 hHR hd4
                            by_cases hA : 55296 ≤ n ∧ n < 56320
                            · as_aux_lemma =>
                              have i1 : (55296 : Int) ≤ (n : Int) := by omega
                              have i2 : (n : Int) < 56320 := by omega
                              have hHA : Hid (strR (bs.drop k) = aheadF acc (pairF f' n (bs.drop k4))) := by show _ = _; rw [hHR2.out, if_pos hA]
                              have HAN := Lib.hid hA
                              clear hA hHR2
                              go_upto_region 37 with (go_at_call 53; refine (rMust_any R [92, 117] bs _ c k4 false w4 HR4.out (by simp)).mono ?_; rintro e w5 ⟨rfl, hg5, k5, bad5, hk5, hr5, hs5, hz5⟩)
                              clear c2 f2
                              go_upto_region 38 with (go_at_call 64; refine (rFour_any R bs _ c k5 bad5 w5 hr5).mono ?_; rintro e w6 ⟨hg6, m, k6, bad6, rfl, hk6, hr6, hm6, hs6, hz6⟩)
                              have HG6 := Lib.hid (gb_trans (gb_trans HG4.out hg5) hg6)
                              have HO6 := Lib.hid (own_past (own_past HO4.out hg5 hR) hg6 hR)
                              have HR6 := Lib.hid hr6
                              have hkk : Hid (p + 1 ≤ k6) := by have := HKK.out; show _ ≤ _; omega
                              have HM6 := Lib.hid hm6
                              have j0 : (0 : Int) ≤ (m : Int) := by omega
                              have j9 : (m : Int) ≤ 65535 := by omega
                              by_cases hB : 56320 ≤ m ∧ m ≤ 57343
                              · as_aux_lemma =>
                                have hres : Hid ((bad6 = false ∧ ∃ f, bs.length - k6 < f ∧ strR (bs.drop k) = aheadF (acc ++ runeF (65536 + 1024 * (n - 55296) + (m - 56320))) (strF f (bs.drop k6))) ∨ (bad6 = true ∧ strR (bs.drop k) = none)) := by
                                  show _ ∨ _
                                  rw [hHA.out]
                                  unfold pairF
                                  cases hm5 : mustF [92, 117] (bs.drop k4) with
                                  | none =>
                                    right
                                    have hb5 := hz5 hm5
                                    subst hb5
                                    refine ⟨?_, rfl⟩
                                    cases hf6 : fourF (bs.drop k5) with
                                    | none => exact (hz6 hf6).1
                                    | some mr => exact (hs6 mr.1 mr.2 hf6).2.1
                                  | some r3 =>
                                    obtain ⟨hb5, hd5⟩ := hs5 r3 hm5
                                    subst hb5
                                    simp only
                                    rw [← hd5]
                                    cases hf6 : fourF (bs.drop k5) with
                                    | none => exact .inr ⟨(hz6 hf6).1, rfl⟩
                                    | some mr =>
                                      obtain ⟨m', r4⟩ := mr
                                      obtain ⟨h1, h2, h3⟩ := hs6 m' r4 hf6
                                      subst h1 h3
                                      refine .inl ⟨h2, f', ?_, ?_⟩
                                      · have := HF.out; have := HPL.out; have := HP.out; have := hkk.out; omega
                                      · simp only
                                        rw [if_pos hB, ahead_step]
                                have j1 : ¬ ((m : Int) < 56320) := by omega
                                have j2 : ¬ ((57343 : Int) < (m : Int)) := by omega
                                have hval : Hid ((65536 + 1024 * ((n : Int) - 55296) + (m : Int) - 56320) = ((65536 + 1024 * (n - 55296) + (m - 56320) : Nat) : Int)) := by show _ = _; have := HAN.out; omega
                                have hlt : Hid (65536 + 1024 * (n - 55296) + (m - 56320) ≤ 1114111) := by show _ ≤ _; have := HAN.out; omega
                                have hge : Hid (65536 ≤ 65536 + 1024 * (n - 55296) + (m - 56320)) := by show _ ≤ _; omega
                                clear HKK hB hs5 hz5 hs6 hz6 hg5 hr5 hk5 hg6 hr6 hk6 hm6 hHA HR4 HO4 HG4 HN4
                                have HKK := hkk
                                generalize 65536 + 1024 * (n - 55296) + (m - 56320) = N at *
                                have HENC := Lib.hid (encode_rune N (by have := hge.out; omega) hlt.out)
                                have n0 : (0 : Int) ≤ (N : Int) := by omega
                                have n9 : (N : Int) ≤ 1114111 := by have := hlt.out; omega
                                go_upto_region 43 with fail
                                rw [hval.out]
                                have hWs : Hid (w.heap.size ≤ w6.heap.size) := HG6.out.size
                                go_wp2_with ((with_reducible show wpList _ _ _ (⟨some 182, _, _, _, _, _⟩ :: _) _ _); go_loud (refine wl_append_str rfl (.tmp 178) (.tmp 181) rfl w.heap.size _ _ HO6.out rfl (runeF N) (congrArg Value.string HENC.out) (by have := HS.out.len; have := HS.out.ref.at_; have := rune_four N; omega) hWs.out ?_); intro v5 w5 ho5 hb5)
                                have hrf := HR6.out.below hb5 hR
                                go_roundw
                                case rel => exact ⟨acc ++ (runeF N), k6, bad6, ho5, hrf, gb_belowR HG6.out hb5, by have := HS.out.le; have := HP.out; have := HKK.out; omega, by have := HS.out.len; have := HP.out; have := HKK.out; have := rune_four N; rw [List.length_append]; omega, hres.out⟩
                                case measure =>
                                  have m1 := (hrf.arr.cell 1).trans (show _ = some (Value.int .i64 ((k6 : Nat) : Int)) from rfl)
                                  have m2 := (HS.out.ref.arr.cell 1).trans (show _ = some (Value.int .i64 (q : Int)) from rfl)
                                  have hq2 := HLT.out
                                  have hq3 := HP.out
                                  have hq4 := HKK.out
                                  simp only [m1, m2, Option.getD_some, intOf]
                                  omega
                              · as_aux_lemma =>
                                have hno : Hid (strR (bs.drop k) = none) := by
                                  show _ = _
                                  rw [hHA.out]
                                  unfold pairF
                                  cases hm5 : mustF [92, 117] (bs.drop k4) with
                                  | none => rfl
                                  | some r3 =>
                                    obtain ⟨hb5, hd5⟩ := hs5 r3 hm5
                                    subst hb5
                                    simp only
                                    rw [← hd5]
                                    cases hf6 : fourF (bs.drop k5) with
                                    | none => rfl
                                    | some mr =>
                                      obtain ⟨m', r4⟩ := mr
                                      obtain ⟨h1, h2, h3⟩ := hs6 m' r4 hf6
                                      subst h1
                                      simp only
                                      rw [if_neg hB]
                                      rfl
                                have c2 := (hr6.arr.cell 2).trans (show _ = some (Value.bool bad6) from rfl)
                                have f2 := hr6.arr.frozen 2
                                have hjj : m < 56320 ∨ 57343 < m := by omega
                                have hv0 : Hid ((0 : Int) ≤ 65536 + 1024 * ((n : Int) - 55296) + (m : Int) - 56320 ∧ 65536 + 1024 * ((n : Int) - 55296) + (m : Int) - 56320 ≤ 2000000) := by show _ ∧ _; omega
                                have HG7 := Lib.hid (gb_trans HG6.out (gb_cellAt w6 R 2 (.bool true)))
                                have HO7 := Lib.hid (own_past HO6.out (gb_cellAt w6 R 2 (.bool true)) hR)
                                have HR7 := Lib.hid (HR6.out.bad true)
                                clear HKK hB hs5 hz5 hs6 hz6 hg5 hr5 hk5 hg6 hr6 hk6 hm6 hHA HR4 HO4 HG4 HN4
                                have HKK := hkk
                                obtain ⟨sx, hsx, hsl⟩ := encode_any (65536 + 1024 * ((n : Int) - 55296) + (m : Int) - 56320)
                                have HSX := Lib.hid hsx
                                have HSL := Lib.hid hsl
                                clear hsx hsl
                                rcases hjj with hj | hj
                                · have j1 : (m : Int) < 56320 := by omega
                                  clear hj
                                  go_upto_region 43 with fail
                                  have hWs : Hid (w.heap.size ≤ (w6.setCell ⟨R, 2, none⟩ (.bool true)).heap.size) := HG7.out.size
                                  go_wp2_with ((with_reducible show wpList _ _ _ (⟨some 182, _, _, _, _, _⟩ :: _) _ _); go_loud (refine wl_append_str rfl (.tmp 178) (.tmp 181) rfl w.heap.size _ _ HO7.out rfl sx (congrArg Value.string HSX.out) (by have := HS.out.len; have := HS.out.ref.at_; have := HSL.out; omega) hWs.out ?_); intro v5 w5 ho5 hb5)
                                  have hrf := HR7.out.below hb5 hR
                                  go_roundw
                                  case rel => exact ⟨acc ++ sx, k6, true, ho5, hrf, gb_belowR HG7.out hb5, by have := HS.out.le; have := HP.out; have := HKK.out; omega, by have := HS.out.len; have := HP.out; have := HKK.out; have := HSL.out; rw [List.length_append]; omega, .inr ⟨rfl, hno.out⟩⟩
                                  case measure =>
                                    have m1 := (hrf.arr.cell 1).trans (show _ = some (Value.int .i64 ((k6 : Nat) : Int)) from rfl)
                                    have m2 := (HS.out.ref.arr.cell 1).trans (show _ = some (Value.int .i64 (q : Int)) from rfl)
                                    have hq2 := HLT.out
                                    have hq3 := HP.out
                                    have hq4 := HKK.out
                                    simp only [m1, m2, Option.getD_some, intOf]
                                    omega
                                · have j1 : ¬ ((m : Int) < 56320) := by omega
                                  have j2 : (57343 : Int) < (m : Int) := by omega
                                  clear hj
                                  go_upto_region 43 with fail
                                  have hWs : Hid (w.heap.size ≤ (w6.setCell ⟨R, 2, none⟩ (.bool true)).heap.size) := HG7.out.size
                                  go_wp2_with ((with_reducible show wpList _ _ _ (⟨some 182, _, _, _, _, _⟩ :: _) _ _); go_loud (refine wl_append_str rfl (.tmp 178) (.tmp 181) rfl w.heap.size _ _ HO7.out rfl sx (congrArg Value.string HSX.out) (by have := HS.out.len; have := HS.out.ref.at_; have := HSL.out; omega) hWs.out ?_); intro v5 w5 ho5 hb5)
                                  have hrf := HR7.out.below hb5 hR
                                  go_roundw
                                  case rel => exact ⟨acc ++ sx, k6, true, ho5, hrf, gb_belowR HG7.out hb5, by have := HS.out.le; have := HP.out; have := HKK.out; omega, by have := HS.out.len; have := HP.out; have := HKK.out; have := HSL.out; rw [List.length_append]; omega, .inr ⟨rfl, hno.out⟩⟩
                                  case measure =>
                                    have m1 := (hrf.arr.cell 1).trans (show _ = some (Value.int .i64 ((k6 : Nat) : Int)) from rfl)
                                    have m2 := (HS.out.ref.arr.cell 1).trans (show _ = some (Value.int .i64 (q : Int)) from rfl)
                                    have hq2 := HLT.out
                                    have hq3 := HP.out
                                    have hq4 := HKK.out
                                    simp only [m1, m2, Option.getD_some, intOf]
                                    omega
                            · by_cases hC : 56320 ≤ n ∧ n < 57344
                              · as_aux_lemma =>
                                have i1 : (55296 : Int) ≤ (n : Int) := by omega
                                have i2 : ¬ ((n : Int) < 56320) := by omega
                                have i3 : (56320 : Int) ≤ (n : Int) := by omega
                                have i4 : (n : Int) < 57344 := by omega
                                have i9 : (n : Int) ≤ 65535 := by omega
                                have hno : Hid (strR (bs.drop k) = none) := by show _ = _; rw [hHR2.out, if_neg hA, if_pos hC]; rfl
                                have HG7 := Lib.hid (gb_trans HG4.out (gb_cellAt w4 R 2 (.bool true)))
                                have HO7 := Lib.hid (own_past HO4.out (gb_cellAt w4 R 2 (.bool true)) hR)
                                have HR7 := Lib.hid (HR4.out.bad true)
                                clear hA hC hHR2
                                obtain ⟨sx, hsx, hsl⟩ := encode_any ((n : Int))
                                have HSX := Lib.hid hsx
                                have HSL := Lib.hid hsl
                                clear hsx hsl
                                go_upto_region 43 with fail
                                have hWs : Hid (w.heap.size ≤ (w4.setCell ⟨R, 2, none⟩ (.bool true)).heap.size) := HG7.out.size
                                go_wp2_with ((with_reducible show wpList _ _ _ (⟨some 182, _, _, _, _, _⟩ :: _) _ _); go_loud (refine wl_append_str rfl (.tmp 178) (.tmp 181) rfl w.heap.size _ _ HO7.out rfl sx (congrArg Value.string HSX.out) (by have := HS.out.len; have := HS.out.ref.at_; have := HSL.out; omega) hWs.out ?_); intro v5 w5 ho5 hb5)
                                have hrf := HR7.out.below hb5 hR
                                go_roundw
                                case rel => exact ⟨acc ++ sx, k4, true, ho5, hrf, gb_belowR HG7.out hb5, by have := HS.out.le; have := HP.out; have := HKK.out; omega, by have := HS.out.len; have := HP.out; have := HKK.out; have := HSL.out; rw [List.length_append]; omega, .inr ⟨rfl, hno.out⟩⟩
                                case measure =>
                                  have m1 := (hrf.arr.cell 1).trans (show _ = some (Value.int .i64 ((k4 : Nat) : Int)) from rfl)
                                  have m2 := (HS.out.ref.arr.cell 1).trans (show _ = some (Value.int .i64 (q : Int)) from rfl)
                                  have hq2 := HLT.out
                                  have hq3 := HP.out
                                  have hq4 := HKK.out
                                  simp only [m1, m2, Option.getD_some, intOf]
                                  omega
                              · as_aux_lemma =>
                                have i9 : (n : Int) ≤ 65535 := by have := HN4.out; omega
                                have hHC : Hid (strR (bs.drop k) = aheadF (acc ++ runeF n) (strF f' (bs.drop k4))) := by show _ = _; rw [hHR2.out, if_neg hA, if_neg hC, ahead_step]
                                have HENC := Lib.hid (encode_rune n (by omega) (by have := HN4.out; omega))
                                have hcs : n < 55296 ∨ 57344 ≤ n := by omega
                                clear hA hC hHR2
                                rcases hcs with hj | hj
                                · have i1 : ¬ ((55296 : Int) ≤ (n : Int)) := by omega
                                  have i2 : ¬ ((56320 : Int) ≤ (n : Int)) := by omega
                                  clear hj
                                  go_upto_region 43 with fail
                                  have hWs : Hid (w.heap.size ≤ w4.heap.size) := HG4.out.size
                                  go_wp2_with ((with_reducible show wpList _ _ _ (⟨some 182, _, _, _, _, _⟩ :: _) _ _); go_loud (refine wl_append_str rfl (.tmp 178) (.tmp 181) rfl w.heap.size _ _ HO4.out rfl (runeF n) (congrArg Value.string HENC.out) (by have := HS.out.len; have := HS.out.ref.at_; have := rune_four n; omega) hWs.out ?_); intro v5 w5 ho5 hb5)
                                  have hrf := HR4.out.below hb5 hR
                                  go_roundw
                                  case rel => exact ⟨acc ++ (runeF n), k4, false, ho5, hrf, gb_belowR HG4.out hb5, by have := HS.out.le; have := HP.out; have := HKK.out; omega, by have := HS.out.len; have := HP.out; have := HKK.out; have := rune_four n; rw [List.length_append]; omega, .inl ⟨rfl, f', by have := HF.out; have := HPL.out; have := HP.out; have := HKK.out; omega, hHC.out⟩⟩
                                  case measure =>
                                    have m1 := (hrf.arr.cell 1).trans (show _ = some (Value.int .i64 ((k4 : Nat) : Int)) from rfl)
                                    have m2 := (HS.out.ref.arr.cell 1).trans (show _ = some (Value.int .i64 (q : Int)) from rfl)
                                    have hq2 := HLT.out
                                    have hq3 := HP.out
                                    have hq4 := HKK.out
                                    simp only [m1, m2, Option.getD_some, intOf]
                                    omega
                                · as_aux_lemma =>
                                  have i1 : (55296 : Int) ≤ (n : Int) := by omega
                                  have i2 : ¬ ((n : Int) < 56320) := by omega
                                  have i3 : (56320 : Int) ≤ (n : Int) := by omega
                                  have i4 : ¬ ((n : Int) < 57344) := by omega
                                  clear hj
                                  go_upto_region 43 with fail
                                  have hWs : Hid (w.heap.size ≤ w4.heap.size) := HG4.out.size
                                  go_wp2_with ((with_reducible show wpList _ _ _ (⟨some 182, _, _, _, _, _⟩ :: _) _ _); go_loud (refine wl_append_str rfl (.tmp 178) (.tmp 181) rfl w.heap.size _ _ HO4.out rfl (runeF n) (congrArg Value.string HENC.out) (by have := HS.out.len; have := HS.out.ref.at_; have := rune_four n; omega) hWs.out ?_); intro v5 w5 ho5 hb5)
                                  have hrf := HR4.out.below hb5 hR
                                  go_roundw
                                  case rel => exact ⟨acc ++ (runeF n), k4, false, ho5, hrf, gb_belowR HG4.out hb5, by have := HS.out.le; have := HP.out; have := HKK.out; omega, by have := HS.out.len; have := HP.out; have := HKK.out; have := rune_four n; rw [List.length_append]; omega, .inl ⟨rfl, f', by have := HF.out; have := HPL.out; have := HP.out; have := HKK.out; omega, hHC.out⟩⟩
                                  case measure =>
                                    have m1 := (hrf.arr.cell 1).trans (show _ = some (Value.int .i64 ((k4 : Nat) : Int)) from rfl)
                                    have m2 := (HS.out.ref.arr.cell 1).trans (show _ = some (Value.int .i64 (q : Int)) from rfl)
                                    have hq2 := HLT.out
                                    have hq3 := HP.out
                                    have hq4 := HKK.out
                                    simp only [m1, m2, Option.getD_some, intOf]
                                    omega
                        · as_aux_lemma =>
                          obtain ⟨n1, n2, n3, n4, n5, n6, n7, n8, n9⟩ := hys
                          have hno : strR (bs.drop k) = none := by
                            rw [HR2.out]
                            unfold escT oneF
                            simp [n1, n2, n3, n4, n5, n6, n7, n8, n9, aheadF]
                          have e1 : ((y.toNat : Int) == 34) = false := beq_eq_false_iff_ne.2 (fun e => n1 ((u8_eq y 34).1 e))
                          have e2 : ((y.toNat : Int) == 92) = false := beq_eq_false_iff_ne.2 (fun e => n2 ((u8_eq y 92).1 e))
                          have e3 : ((y.toNat : Int) == 47) = false := beq_eq_false_iff_ne.2 (fun e => n3 ((u8_eq y 47).1 e))
                          have e4 : ((y.toNat : Int) == 98) = false := beq_eq_false_iff_ne.2 (fun e => n4 ((u8_eq y 98).1 e))
                          have e5 : ((y.toNat : Int) == 102) = false := beq_eq_false_iff_ne.2 (fun e => n5 ((u8_eq y 102).1 e))
                          have e6 : ((y.toNat : Int) == 110) = false := beq_eq_false_iff_ne.2 (fun e => n6 ((u8_eq y 110).1 e))
                          have e7 : ((y.toNat : Int) == 114) = false := beq_eq_false_iff_ne.2 (fun e => n7 ((u8_eq y 114).1 e))
                          have e8 : ((y.toNat : Int) == 116) = false := beq_eq_false_iff_ne.2 (fun e => n8 ((u8_eq y 116).1 e))
                          have e9 : ((y.toNat : Int) == 117) = false := beq_eq_false_iff_ne.2 (fun e => n9 ((u8_eq y 117).1 e))
                          have c2 := (HM3.out.arr.cell 2).trans (show _ = some (Value.bool false) from rfl)
                          have f2 := HM3.out.arr.frozen 2
                          have HNO := Lib.hid hno
                          clear hno n1 n2 n3 n4 n5 n6 n7 n8 n9 HR2
                          go_wp2_with fail
                          have hrf := HM3.out.bad true
                          go_roundw
                          case rel => exact ⟨acc, p + 1, true, own_past HO3.out (gb_cellAt _ _ _ _) hR, hrf, gb_trans HG3.out (gb_cellAt _ _ _ _), by have := HS.out.le; have := HP.out; omega, by have := HS.out.len; have := HP.out; omega, .inr ⟨rfl, HNO.out⟩⟩
                          case measure =>
                            have m1 := (hrf.arr.cell 1).trans (show _ = some (Value.int .i64 ((p + 1 : Nat) : Int)) from rfl)
                            have m2 := (HS.out.ref.arr.cell 1).trans (show _ = some (Value.int .i64 (q : Int)) from rfl)
                            have hq2 := HLT.out
                            have hq3 := HP.out
                            simp only [m1, m2, Option.getD_some, intOf]
                            omega
                  · as_aux_lemma =>
                    have hc : (p : Int) ≥ (bs.length : Int) := by omega
                    have hno : strR (bs.drop k) = none := by
                      rw [HR2.out, List.drop_of_length_le (by omega)]
                      rfl
                    have fin : Hid (StrP R bs (some ⟨b, off, none⟩) c k w (.returned (.string ⟨#[]⟩)) (V2.drew.setCell ⟨R, 2, none⟩ (.bool true))) :=
                      ⟨gb_trans (gb_drew HGV.out) (gb_cellAt _ _ _ _), [], p, true, rfl, by have := HS.out.le; have := HP.out; omega, HMP.out.drew.bad true, by simp, (fun s0 r hs => by rw [string_bad hno] at hs; cases hs), fun _ => rfl⟩
                    clear hno hpl
                    go_region
                    all_goals
                      have c2 : V2.drew.cell? ⟨R, 2, none⟩ = some (Value.bool false) := c2
                      have f2 : V2.drew.frozen? ⟨R, 2, none⟩ = false := f2
                      go_wp2_with fail
                      go_ret
                      exact fin.out
                · as_aux_lemma =>
                  have e92 : ((x.toNat : Int) == 92) = false := beq_eq_false_iff_ne.2 (fun e => h92 ((u8_eq x 92).1 e))
                  have i92 : ((x.toNat : Int) != 92) = true := by rw [bne, e92]; rfl
                  rw [if_pos h92, ahead_one] at HR2
                  have hal := Lib.hid (fun o => (Below.refl V2.heap.size V2).alloc (Nat.le_refl _) o)
                  have hwV : Hid (w.heap.size ≤ V2.heap.size) := HGV.out.size
                  clear h92
                  go_wp2_with ((with_reducible show wpList _ _ _ (⟨some 64, _, _, _, _, _⟩ :: _) _ _); go_loud (refine wl_append bt rfl (.tmp 61) (.tmp 63) rfl w.heap.size _ _ (HOV.out.to (hal.out _)) rfl _ 1 1 [x] rfl (rd_lit _ [x] _) (by have := HS.out.len; have := HS.out.ref.at_; omega) (by have := hwV.out; simp; omega) ?_); intro v5 w5 ho5 hb5)
                  have hrf := (HMV.out).below (((hal).out _).mono hwV.out |>.trans hb5) hR
                  go_roundw
                  case rel => exact ⟨acc ++ [x], q + 1, false, ho5, hrf, gb_belowR HGV.out (((hal).out _).mono hwV.out |>.trans hb5), by have := HS.out.le; omega, by have := HS.out.len; simp only [List.length_append, List.length_cons, List.length_nil]; omega, .inl ⟨rfl, f', by have := HF.out; have := HLT.out; omega, HR2.out⟩⟩
                  case measure =>
                    have m1 := (hrf.arr.cell 1).trans (show _ = some (Value.int .i64 ((q + 1 : Nat) : Int)) from rfl)
                    have m2 := (HS.out.ref.arr.cell 1).trans (show _ = some (Value.int .i64 (q : Int)) from rfl)
                    have hq2 := HLT.out
                    simp only [m1, m2, Option.getD_some, intOf]
                    omega
      · as_aux_lemma =>
        have hc : (q : Int) ≥ (bs.length : Int) := by omega
        have hno : strR (bs.drop k) = none := by
          rw [HRES.out, List.drop_of_length_le (by omega)]
          cases f <;> rfl
        have fin : Hid (StrP R bs a c k w (.returned (.string ⟨#[]⟩)) (wr.drew.setCell ⟨R, 2, none⟩ (.bool true))) :=
          ⟨gb_trans (gb_drew HS.out.gb) (gb_cellAt _ _ _ _), [], q, true, rfl, HS.out.le, HS.out.ref.drew.bad true, by simp, (fun s0 r hs => by rw [string_bad hno] at hs; cases hs), fun _ => rfl⟩
        clear hno hlt
        go_region
        all_goals
          have c2 : wr.drew.cell? ⟨R, 2, none⟩ = some (Value.bool false) := c2
          have f2 : wr.drew.frozen? ⟨R, 2, none⟩ = false := f2
          go_wp2_with fail
          go_ret
          exact fin.out
end Go.Proofs.YtbondnljoalajaaDoor
