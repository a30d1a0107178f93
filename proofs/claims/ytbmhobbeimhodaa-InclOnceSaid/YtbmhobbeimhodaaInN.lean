/-
  Layer 10: the document's examples, awake. Conditions: those in each statement.
-/
import Derived.Test.YtbmhobbeimhodaaInM
namespace Go.Proofs.Ytbmhobbeimhodaa
open Go.RowKit
structure InvAwake (Y4 Y5 RT : List UInt8) (M P : List (List UInt8)) (a1 : Option Addr) (c1 g3 c3 g4 c4 : Nat) (W0 : World) (L : Nat → Bool) (v : Nat → Value) (wx : World) : Prop where
  t0 : L 0 = true → (v 16) = .int .i64 0
  t1 : L 1 = true → (v 17) = .bool true
  t2 : L 2 = true → (v 18) = .bool true
  t3 : L 3 = true → (v 19) = .slice a1 3 c1
  t4 : L 4 = true → (v 20) = .agg #[.int .u64 4, .int .u64 5]
  t5 : L 5 = true → (v 21) = .agg #[.int .u64 6, .int .u64 7]
  t6 : L 6 = true → (v 22) = .agg #[.int .u64 0, .int .u64 4]
  t7 : L 7 = true → ∃ g, (v 23) = .slice (some ⟨g, 0, none⟩) 3 3 ∧ Arr wx g 60 (dcg encR [(4, 5), (6, 7), (0, 4)])
  t8 : L 8 = true → (v 24) = .bool true
  t9 : L 9 = true → (v 25) = .bool true
  t10 : L 10 = true → (v 26) = .bool true
  t11 : L 11 = true → (v 27) = .int .i64 0
  t12 : L 12 = true → (v 28) = .bool true
  t13 : L 13 = true → (v 29) = .bool true
  t14 : L 14 = true → (v 30) = .bool true
  t15 : L 15 = true → (v 31) = .slice (some ⟨g4, 0, none⟩) 3 c4
  t16 : L 16 = true → (v 32) = .int .i64 3
  t17 : L 17 = true → (v 33) = .bool true
  t18 : L 18 = true → (v 34) = .bool true
  t19 : L 19 = true → (v 35) = .bool true
  t20 : L 20 = true → (v 36) = .slice (some ⟨g4, 0, none⟩) 3 c4
  t21 : L 21 = true → (v 37) = .pointer (some ⟨g4, 0, none⟩)
  t22 : L 22 = true → (v 38) = .agg (bvs Y4).toArray
  t23 : L 23 = true → (v 39) = .slice (some ⟨g3, 0, none⟩) 7 c3
  t24 : L 24 = true → (v 40) = .pointer (some ⟨g3, 128, none⟩)
  t25 : L 25 = true → (v 41) = .agg (bvs Y4).toArray
  t26 : L 26 = true → (v 42) = .bool true
  t27 : L 27 = true → (v 43) = .bool true
  t28 : L 28 = true → (v 44) = .bool true
  t29 : L 29 = true → (v 45) = .slice (some ⟨g3, 0, none⟩) 7 c3
  t30 : L 30 = true → (v 46) = .pointer (some ⟨g3, 160, none⟩)
  t31 : L 31 = true → (v 47) = .agg (bvs Y5).toArray
  t32 : L 32 = true → (v 48) = .slice (some ⟨g4, 0, none⟩) 3 c4
  t33 : L 33 = true → (v 49) = .slice (some ⟨g3, 0, none⟩) 7 c3
  t34 : L 34 = true → (v 50) = .agg (bvs RT).toArray
  t35 : L 35 = true → (v 51) = .bool true
  t36 : L 36 = true → (v 52) = .bool true
  t37 : L 37 = true → (v 53) = .bool true
  t38 : L 38 = true → (v 54) = .slice (some ⟨g3, 0, none⟩) 7 c3
  t39 : L 39 = true → (v 55) = .pointer (some ⟨g3, 128, none⟩)
  t40 : L 40 = true → (v 56) = .agg (bvs Y4).toArray
  t41 : L 41 = true → (v 57) = .slice (some ⟨g4, 0, none⟩) 3 c4
  t42 : L 42 = true → (v 58) = .slice (some ⟨g3, 0, none⟩) 7 c3
  t43 : L 43 = true → (v 59) = .agg (bvs RT).toArray
  t44 : L 44 = true → (v 60) = .bool false
  t45 : L 45 = true → (v 61) = .bool true
  t46 : L 46 = true → (v 62) = .bool true
  t47 : L 47 = true → (v 0) = .bool true
  bw : Below W0.heap.size W0 wx
set_option maxRecDepth 100000 in
set_option maxHeartbeats 6400000 in
theorem awake_any (w : World) : Calls Try.prog 12 #[] w fun e w' => e = .returned (.bool true) ∧ Below w.heap.size w w' := by
  have HR := Lib.hid (fun w => Ranges_any 5 7 w)
  have HL := Lib.hid (fun w => Leaves_any 1 7 w (by omega))
  have HP := Lib.hid (fun w a c (h : RdD w a 7 c sevenL) => Path_any sevenL 5 a 7 c w h (by omega))
  rw [seven_rg, seven_rE] at HR
  change Hid (∀ w, Calls _ _ _ w fun e w' => ∃ v, _ ∧ OwnD w' _ v sevenL ∧ _) at HL
  have hpl : (pL sevenL 5).length = 3 := seven_plen
  have hp0 := seven_path0
  have hs4 := seven_at 4 (by omega)
  have hs5 := seven_at 5 (by omega)
  have hsl : sevenL.length = 7 := by decide +kernel
  have hsa : All32 sevenL := Leaves_all 1 7
  have hpa := pL_all hsa 5
  have hy := seven_yes
  have hn := seven_no
  have l4 : (lvF 1 4).length = 32 := shaL_len _
  have l5 : (lvF 1 5).length = 32 := shaL_len _
  have lr : (rootF sevenL).length = 32 := rootF_len hsa
  have HRT := Lib.hid (fun w a c (h : RdD w a 7 c sevenL) => Root_any 7 sevenL (by omega) a 7 c w (by omega) h)
  have HV5 := Lib.hid (fun w a c (h : RdD w a 3 c (pL sevenL 5)) => Verify_any (lvF 1 5) (rootF sevenL) 5 7 a 3 c (pL sevenL 5) w l5 lr h (by omega))
  have HV4 := Lib.hid (fun w a c (h : RdD w a 3 c (pL sevenL 5)) => Verify_any (lvF 1 4) (rootF sevenL) 5 7 a 3 c (pL sevenL 5) w l4 lr h (by omega))
  rw [hy] at HV5
  rw [hn] at HV4
  rw [show rE 5 7 = 0 from seven_rE] at HP
  clear hy hn
  generalize pL sevenL 5 = P at *
  generalize rootF sevenL = RT at *
  generalize lvF 1 4 = Y4 at *
  generalize lvF 1 5 = Y5 at *
  generalize sevenL = M at *
  have HPL := Lib.hid hpl
  have HML := Lib.hid hsl
  have HP0 := Lib.hid hp0
  have HS4 := Lib.hid hs4
  have HS5 := Lib.hid hs5
  have L4 := Lib.hid l4
  have L5 := Lib.hid l5
  have LR := Lib.hid lr
  have I4 : Hid ((Try.prog.info? 41).map (·.size) = some (bvs Y4).length) := by show _ = _; rw [bvs_len, l4]; exact sizeD
  have I5 : Hid ((Try.prog.info? 41).map (·.size) = some (bvs Y5).length) := by show _ = _; rw [bvs_len, l5]; exact sizeD
  clear hpl hsl hp0 hs4 hs5 l4 l5 lr hsa hpa
  go_enter Try.func12, Try.ntmps12
  go_upto_region 4 with (first
    | (go_at_call 10; refine (HR.out _).mono ?_; rintro e w1 ⟨v1, rfl, hO1, hb1⟩; obtain ⟨a1, c1, rfl, hR1, -⟩ := hO1.rd (by omega))
    | (go_at_call 26; refine (HL.out _).mono ?_; rintro e w2 ⟨v2, rfl, hO2, hb2⟩; obtain ⟨g3, c3, rfl, hg3, hg3'⟩ := hO2.solid (by rw [HML.out]; omega); have hRM := hO2.rdAt; rw [HML.out] at hRM ⊢)
    | (go_at_call 14; refine (HP.out _ _ _ hRM).mono ?_; rintro e w3 ⟨v3, rfl, hO3, hb3⟩; obtain ⟨g4, c4, rfl, hg4, hg4'⟩ := hO3.solid (by rw [HPL.out]; omega); have hRP := hO3.rdAt; rw [HPL.out] at hRP ⊢))
  have z1 := hb1.size
  have z2 := hb2.size
  have b13 : Below w1.heap.size w1 w3 := hb2.trans (hb3.mono z2)
  have b03 : Below w.heap.size w w3 := hb1.trans (b13.mono z1)
  have R1 := hR1.to b13
  have RM := hRM.to hb3
  have B03 := Lib.hid b03
  have HR1 : Hid (∀ wx, Below w3.heap.size w3 wx → RdG 2 encR wx a1 3 c1 [(4, 5), (6, 7), (0, 4)]) := fun wx hb => R1.to hb
  have HRM : Hid (∀ wx, Below w3.heap.size w3 wx → RdD wx (some ⟨g3, 0, none⟩) 7 c3 M) := fun wx hb => RM.to hb
  have HRP : Hid (∀ wx, Below w3.heap.size w3 wx → RdD wx (some ⟨g4, 0, none⟩) 3 c4 P) := fun wx hb => hRP.to hb
  have HSM : Hid (∀ wx (v : Value), Below w3.heap.size w3 wx → (∃ g, v = .slice (some ⟨g, 0, none⟩) 3 3 ∧ Arr wx g 60 (dcg encR [(4, 5), (6, 7), (0, 4)])) → Calls Try.prog 13 #[.slice a1 3 c1, v] wx fun e w' => e = .returned (.bool true) ∧ Below wx.heap.size wx w') := by
    rintro wx v hb ⟨g, rfl, hA⟩
    exact same_any [(4, 5), (6, 7), (0, 4)] a1 (some ⟨g, 0, none⟩) 3 c1 3 wx (HR1.out wx hb) (rdg_arr hA (fun x _ => encR_len x)) (by omega)
  have Q0 : Hid (∀ wx, Below w3.heap.size w3 wx → wx.rangeAt g4 0 (bvs Y4)) := fun wx hb => by
    have h := (HRP.out wx hb).range 0 (by omega)
    rw [HP0.out] at h
    simpa using h
  have Q4 : Hid (∀ wx, Below w3.heap.size w3 wx → wx.rangeAt g3 128 (bvs Y4)) := fun wx hb => by
    have h := (HRM.out wx hb).range 4 (by omega)
    rw [HS4.out] at h
    simpa using h
  have Q5 : Hid (∀ wx, Below w3.heap.size w3 wx → wx.rangeAt g3 160 (bvs Y5)) := fun wx hb => by
    have h := (HRM.out wx hb).range 5 (by omega)
    rw [HS5.out] at h
    simpa using h
  have HV5' : Hid (∀ wx, Below w3.heap.size w3 wx → Calls Try.prog 19 #[.agg (bvs Y5).toArray, .int .u64 5, .int .u64 7, .slice (some ⟨g4, 0, none⟩) 3 c4, .agg (bvs RT).toArray] wx fun e w' => e = .returned (.bool true) ∧ Below wx.heap.size wx w') := fun wx hb => HV5.out wx _ _ (HRP.out wx hb)
  have HV4' : Hid (∀ wx, Below w3.heap.size w3 wx → Calls Try.prog 19 #[.agg (bvs Y4).toArray, .int .u64 5, .int .u64 7, .slice (some ⟨g4, 0, none⟩) 3 c4, .agg (bvs RT).toArray] wx fun e w' => e = .returned (.bool false) ∧ Below wx.heap.size wx w') := fun wx hb => HV4.out wx _ _ (HRP.out wx hb)
  have HRT' : Hid (∀ wx, Below w3.heap.size w3 wx → Calls Try.prog 21 #[.slice (some ⟨g3, 0, none⟩) 7 c3] wx fun e w' => e = .returned (.agg (bvs RT).toArray) ∧ Below wx.heap.size wx w') := fun wx hb => HRT.out wx _ _ (HRM.out wx hb)
  clear hO1 hb1 hR1 hO2 hb2 hg3 hg3' hRM hO3 hb3 hg4 hg4' hRP z1 z2 b13 b03 R1 RM
  go_simp
  refine wp_region_steps [[], [0], [1], [2], [2], [2], [2], [4, 5, 6, 2], [3, 7, 2], [2, 8], [9], [10], [11, 10], [10, 12], [13], [14], [15, 14], [16, 14], [14, 17], [18], [19], [20, 19], [21, 19], [19], [23, 19], [24, 19], [22, 25, 19], [19, 26], [27], [28], [29, 28], [30, 28], [28], [28], [33, 28], [31, 32, 34, 28], [28, 35], [36], [37], [38, 37], [39, 37], [37], [37], [42, 37], [40, 41, 43, 37], [44, 37], [37, 45], [46]] (by kernel_rfl) (by kernel_rfl) (fun L a wx => ∃ v : Nat → Value, a = ⟨#[v 0, .slice a1 3 c1, .int .i64 0, .slice (some ⟨g3, 0, none⟩) 7 c3, .slice (some ⟨g4, 0, none⟩) 3 c4, .int .i64 0, .tuple #[.slice a1 3 c1, .int .i64 0], .tuple #[.slice a1 3 c1, .int .i64 0], .slice a1 3 c1, .int .i64 0, .slice (some ⟨g3, 0, none⟩) 7 c3, .tuple #[.slice (some ⟨g4, 0, none⟩) 3 c4, .int .i64 0], .slice (some ⟨g3, 0, none⟩) 7 c3, .tuple #[.slice (some ⟨g4, 0, none⟩) 3 c4, .int .i64 0], .slice (some ⟨g4, 0, none⟩) 3 c4, .int .i64 0, v 16, v 17, v 18, v 19, v 20, v 21, v 22, v 23, v 24, v 25, v 26, v 27, v 28, v 29, v 30, v 31, v 32, v 33, v 34, v 35, v 36, v 37, v 38, v 39, v 40, v 41, v 42, v 43, v 44, v 45, v 46, v 47, v 48, v 49, v 50, v 51, v 52, v 53, v 54, v 55, v 56, v 57, v 58, v 59, v 60, v 61, v 62], []⟩ ∧ InvAwake Y4 Y5 RT M P a1 c1 g3 c3 g4 c4 w3 L v wx) ?_ ⟨?_, ?_, ?_, ?_, ?_, ?_, ?_, ?_, ?_, ?_, ?_, ?_, ?_, ?_, ?_, ?_, ?_, ?_, ?_, ?_, ?_, ?_, ?_, ?_, ?_, ?_, ?_, ?_, ?_, ?_, ?_, ?_, ?_, ?_, ?_, ?_, ?_, ?_, ?_, ?_, ?_, ?_, ?_, ?_, ?_, ?_, ?_, ?_, trivial⟩ ?_
  · refine ⟨upd (fun _ => undef) 0 (.bool false), rfl, ⟨?_, ?_, ?_, ?_, ?_, ?_, ?_, ?_, ?_, ?_, ?_, ?_, ?_, ?_, ?_, ?_, ?_, ?_, ?_, ?_, ?_, ?_, ?_, ?_, ?_, ?_, ?_, ?_, ?_, ?_, ?_, ?_, ?_, ?_, ?_, ?_, ?_, ?_, ?_, ?_, ?_, ?_, ?_, ?_, ?_, ?_, ?_, ?_, (Below.refl _ _).drew⟩⟩ <;> (intro h; exact absurd h (by decide))
  · rintro L a wx ⟨v, rfl, hI⟩ hL hdep hcl K hK
    go_simp
    exact hK _ _ ⟨(upd v 16 (.int .i64 0)), rfl, ⟨fun _ => rfl, hI.t1, hI.t2, hI.t3, hI.t4, hI.t5, hI.t6, hI.t7, hI.t8, hI.t9, hI.t10, hI.t11, hI.t12, hI.t13, hI.t14, hI.t15, hI.t16, hI.t17, hI.t18, hI.t19, hI.t20, hI.t21, hI.t22, hI.t23, hI.t24, hI.t25, hI.t26, hI.t27, hI.t28, hI.t29, hI.t30, hI.t31, hI.t32, hI.t33, hI.t34, hI.t35, hI.t36, hI.t37, hI.t38, hI.t39, hI.t40, hI.t41, hI.t42, hI.t43, hI.t44, hI.t45, hI.t46, hI.t47, hI.bw⟩⟩
  · rintro L a wx ⟨v, rfl, hI⟩ hL hdep hcl K hK
    have e0 := hI.t0 (hdep 0 (by decide))
    rw [e0]
    go_simp
    exact hK _ _ ⟨(upd (upd v 16 (.int .i64 0)) 17 (.bool true)), rfl, ⟨fun _ => rfl, fun _ => rfl, hI.t2, hI.t3, hI.t4, hI.t5, hI.t6, hI.t7, hI.t8, hI.t9, hI.t10, hI.t11, hI.t12, hI.t13, hI.t14, hI.t15, hI.t16, hI.t17, hI.t18, hI.t19, hI.t20, hI.t21, hI.t22, hI.t23, hI.t24, hI.t25, hI.t26, hI.t27, hI.t28, hI.t29, hI.t30, hI.t31, hI.t32, hI.t33, hI.t34, hI.t35, hI.t36, hI.t37, hI.t38, hI.t39, hI.t40, hI.t41, hI.t42, hI.t43, hI.t44, hI.t45, hI.t46, hI.t47, hI.bw⟩⟩
  · rintro L a wx ⟨v, rfl, hI⟩ hL hdep hcl K hK
    have e1 := hI.t1 (hdep 1 (by decide))
    rw [e1]
    go_simp
    exact hK _ _ ⟨(upd (upd v 17 (.bool true)) 18 (.bool true)), rfl, ⟨hI.t0, fun _ => rfl, fun _ => rfl, hI.t3, hI.t4, hI.t5, hI.t6, hI.t7, hI.t8, hI.t9, hI.t10, hI.t11, hI.t12, hI.t13, hI.t14, hI.t15, hI.t16, hI.t17, hI.t18, hI.t19, hI.t20, hI.t21, hI.t22, hI.t23, hI.t24, hI.t25, hI.t26, hI.t27, hI.t28, hI.t29, hI.t30, hI.t31, hI.t32, hI.t33, hI.t34, hI.t35, hI.t36, hI.t37, hI.t38, hI.t39, hI.t40, hI.t41, hI.t42, hI.t43, hI.t44, hI.t45, hI.t46, hI.t47, hI.bw⟩⟩
  · rintro L a wx ⟨v, rfl, hI⟩ hL hdep hcl K hK
    have e2 := hI.t2 (hdep 2 (by decide))
    rw [e2]
    refine (if_pos rfl).mpr ?_
    go_simp
    exact hK _ _ ⟨(upd (upd v 18 (.bool true)) 19 (.slice a1 3 c1)), rfl, ⟨hI.t0, hI.t1, fun _ => rfl, fun _ => rfl, hI.t4, hI.t5, hI.t6, hI.t7, hI.t8, hI.t9, hI.t10, hI.t11, hI.t12, hI.t13, hI.t14, hI.t15, hI.t16, hI.t17, hI.t18, hI.t19, hI.t20, hI.t21, hI.t22, hI.t23, hI.t24, hI.t25, hI.t26, hI.t27, hI.t28, hI.t29, hI.t30, hI.t31, hI.t32, hI.t33, hI.t34, hI.t35, hI.t36, hI.t37, hI.t38, hI.t39, hI.t40, hI.t41, hI.t42, hI.t43, hI.t44, hI.t45, hI.t46, hI.t47, hI.bw⟩⟩
  · rintro L a wx ⟨v, rfl, hI⟩ hL hdep hcl K hK
    have e2 := hI.t2 (hdep 2 (by decide))
    rw [e2]
    refine (if_pos rfl).mpr ?_
    refine ow_build 60 _ rfl #[.int .u64 4, .int .u64 5] (by simpa [Act.eval] using builtRd 4 5) ?_
    exact hK _ _ ⟨(upd (upd v 18 (.bool true)) 20 (.agg #[.int .u64 4, .int .u64 5])), rfl, ⟨hI.t0, hI.t1, fun _ => rfl, hI.t3, fun _ => rfl, hI.t5, hI.t6, hI.t7, hI.t8, hI.t9, hI.t10, hI.t11, hI.t12, hI.t13, hI.t14, hI.t15, hI.t16, hI.t17, hI.t18, hI.t19, hI.t20, hI.t21, hI.t22, hI.t23, hI.t24, hI.t25, hI.t26, hI.t27, hI.t28, hI.t29, hI.t30, hI.t31, hI.t32, hI.t33, hI.t34, hI.t35, hI.t36, hI.t37, hI.t38, hI.t39, hI.t40, hI.t41, hI.t42, hI.t43, hI.t44, hI.t45, hI.t46, hI.t47, hI.bw⟩⟩
  · rintro L a wx ⟨v, rfl, hI⟩ hL hdep hcl K hK
    have e2 := hI.t2 (hdep 2 (by decide))
    rw [e2]
    refine (if_pos rfl).mpr ?_
    refine ow_build 60 _ rfl #[.int .u64 6, .int .u64 7] (by simpa [Act.eval] using builtRd 6 7) ?_
    exact hK _ _ ⟨(upd (upd v 18 (.bool true)) 21 (.agg #[.int .u64 6, .int .u64 7])), rfl, ⟨hI.t0, hI.t1, fun _ => rfl, hI.t3, hI.t4, fun _ => rfl, hI.t6, hI.t7, hI.t8, hI.t9, hI.t10, hI.t11, hI.t12, hI.t13, hI.t14, hI.t15, hI.t16, hI.t17, hI.t18, hI.t19, hI.t20, hI.t21, hI.t22, hI.t23, hI.t24, hI.t25, hI.t26, hI.t27, hI.t28, hI.t29, hI.t30, hI.t31, hI.t32, hI.t33, hI.t34, hI.t35, hI.t36, hI.t37, hI.t38, hI.t39, hI.t40, hI.t41, hI.t42, hI.t43, hI.t44, hI.t45, hI.t46, hI.t47, hI.bw⟩⟩
  · rintro L a wx ⟨v, rfl, hI⟩ hL hdep hcl K hK
    have e2 := hI.t2 (hdep 2 (by decide))
    rw [e2]
    refine (if_pos rfl).mpr ?_
    refine ow_build 60 _ rfl #[.int .u64 0, .int .u64 4] (by simpa [Act.eval] using builtRd 0 4) ?_
    exact hK _ _ ⟨(upd (upd v 18 (.bool true)) 22 (.agg #[.int .u64 0, .int .u64 4])), rfl, ⟨hI.t0, hI.t1, fun _ => rfl, hI.t3, hI.t4, hI.t5, fun _ => rfl, hI.t7, hI.t8, hI.t9, hI.t10, hI.t11, hI.t12, hI.t13, hI.t14, hI.t15, hI.t16, hI.t17, hI.t18, hI.t19, hI.t20, hI.t21, hI.t22, hI.t23, hI.t24, hI.t25, hI.t26, hI.t27, hI.t28, hI.t29, hI.t30, hI.t31, hI.t32, hI.t33, hI.t34, hI.t35, hI.t36, hI.t37, hI.t38, hI.t39, hI.t40, hI.t41, hI.t42, hI.t43, hI.t44, hI.t45, hI.t46, hI.t47, hI.bw⟩⟩
  · rintro L a wx ⟨v, rfl, hI⟩ hL hdep hcl K hK
    have e4 := hI.t4 (hdep 4 (by decide))
    have e5 := hI.t5 (hdep 5 (by decide))
    have e6 := hI.t6 (hdep 6 (by decide))
    have e2 := hI.t2 (hdep 2 (by decide))
    rw [e4, e5, e6, e2]
    refine (if_pos rfl).mpr ?_
    go_simp
    have hb : Below wx.heap.size wx (wx.alloc (.cells #[.int .u64 4, .int .u64 5, .int .u64 6, .int .u64 7, .int .u64 0, .int .u64 4] 60)) := (Below.refl _ _).alloc (Nat.le_refl _) _
    have hA : Arr (wx.alloc (.cells #[.int .u64 4, .int .u64 5, .int .u64 6, .int .u64 7, .int .u64 0, .int .u64 4] 60)) wx.heap.size 60 (dcg encR [(4, 5), (6, 7), (0, 4)]) := Arr.new wx 60 (dcg encR [(4, 5), (6, 7), (0, 4)])
    exact hK _ _ ⟨(upd (upd (upd (upd (upd v 20 (.agg #[.int .u64 4, .int .u64 5])) 21 (.agg #[.int .u64 6, .int .u64 7])) 22 (.agg #[.int .u64 0, .int .u64 4])) 18 (.bool true)) 23 (_)), rfl, ⟨hI.t0, hI.t1, fun _ => rfl, hI.t3, fun _ => rfl, fun _ => rfl, fun _ => rfl, fun _ => ⟨_, rfl, hA⟩, hI.t8, hI.t9, hI.t10, hI.t11, hI.t12, hI.t13, hI.t14, hI.t15, hI.t16, hI.t17, hI.t18, hI.t19, hI.t20, hI.t21, hI.t22, hI.t23, hI.t24, hI.t25, hI.t26, hI.t27, hI.t28, hI.t29, hI.t30, hI.t31, hI.t32, hI.t33, hI.t34, hI.t35, hI.t36, hI.t37, hI.t38, hI.t39, hI.t40, hI.t41, hI.t42, hI.t43, hI.t44, hI.t45, hI.t46, hI.t47, (hI.bw).trans (hb.mono (hI.bw).size)⟩⟩
  · rintro L a wx ⟨v, rfl, hI⟩ hL hdep hcl K hK
    have e3 := hI.t3 (hdep 3 (by decide))
    have e2 := hI.t2 (hdep 2 (by decide))
    rw [e3, e2]
    refine (if_pos rfl).mpr ?_
    have HC := HSM.out wx (v 23) hI.bw (hI.t7 (hdep 7 (by decide)))
    go_simp
    refine HC.mono ?_
    rintro e w' ⟨rfl, hb⟩
    exact hK _ _ ⟨(upd (upd (upd v 19 (.slice a1 3 c1)) 18 (.bool true)) 24 (.bool true)), rfl, ⟨hI.t0, hI.t1, fun _ => rfl, fun _ => rfl, hI.t4, hI.t5, hI.t6, fun h => by obtain ⟨g, e, h1⟩ := hI.t7 h; exact ⟨g, e, h1.kept hb⟩, fun _ => rfl, hI.t9, hI.t10, hI.t11, hI.t12, hI.t13, hI.t14, hI.t15, hI.t16, hI.t17, hI.t18, hI.t19, hI.t20, hI.t21, hI.t22, hI.t23, hI.t24, hI.t25, hI.t26, hI.t27, hI.t28, hI.t29, hI.t30, hI.t31, hI.t32, hI.t33, hI.t34, hI.t35, hI.t36, hI.t37, hI.t38, hI.t39, hI.t40, hI.t41, hI.t42, hI.t43, hI.t44, hI.t45, hI.t46, hI.t47, (hI.bw).trans (hb.mono (hI.bw).size)⟩⟩
  · rintro L a wx ⟨v, rfl, hI⟩ hL hdep hcl K hK
    have e2 := hI.t2 (hdep 2 (by decide))
    have e8 := hI.t8 (hdep 8 (by decide))
    rw [e2, e8]
    go_simp
    exact hK _ _ ⟨(upd (upd (upd v 18 (.bool true)) 24 (.bool true)) 25 (.bool true)), rfl, ⟨hI.t0, hI.t1, fun _ => rfl, hI.t3, hI.t4, hI.t5, hI.t6, hI.t7, fun _ => rfl, fun _ => rfl, hI.t10, hI.t11, hI.t12, hI.t13, hI.t14, hI.t15, hI.t16, hI.t17, hI.t18, hI.t19, hI.t20, hI.t21, hI.t22, hI.t23, hI.t24, hI.t25, hI.t26, hI.t27, hI.t28, hI.t29, hI.t30, hI.t31, hI.t32, hI.t33, hI.t34, hI.t35, hI.t36, hI.t37, hI.t38, hI.t39, hI.t40, hI.t41, hI.t42, hI.t43, hI.t44, hI.t45, hI.t46, hI.t47, hI.bw⟩⟩
  · rintro L a wx ⟨v, rfl, hI⟩ hL hdep hcl K hK
    have e9 := hI.t9 (hdep 9 (by decide))
    rw [e9]
    go_simp
    exact hK _ _ ⟨(upd (upd v 25 (.bool true)) 26 (.bool true)), rfl, ⟨hI.t0, hI.t1, hI.t2, hI.t3, hI.t4, hI.t5, hI.t6, hI.t7, hI.t8, fun _ => rfl, fun _ => rfl, hI.t11, hI.t12, hI.t13, hI.t14, hI.t15, hI.t16, hI.t17, hI.t18, hI.t19, hI.t20, hI.t21, hI.t22, hI.t23, hI.t24, hI.t25, hI.t26, hI.t27, hI.t28, hI.t29, hI.t30, hI.t31, hI.t32, hI.t33, hI.t34, hI.t35, hI.t36, hI.t37, hI.t38, hI.t39, hI.t40, hI.t41, hI.t42, hI.t43, hI.t44, hI.t45, hI.t46, hI.t47, hI.bw⟩⟩
  · rintro L a wx ⟨v, rfl, hI⟩ hL hdep hcl K hK
    have e10 := hI.t10 (hdep 10 (by decide))
    rw [e10]
    refine (if_pos rfl).mpr ?_
    go_simp
    exact hK _ _ ⟨(upd (upd v 26 (.bool true)) 27 (.int .i64 0)), rfl, ⟨hI.t0, hI.t1, hI.t2, hI.t3, hI.t4, hI.t5, hI.t6, hI.t7, hI.t8, hI.t9, fun _ => rfl, fun _ => rfl, hI.t12, hI.t13, hI.t14, hI.t15, hI.t16, hI.t17, hI.t18, hI.t19, hI.t20, hI.t21, hI.t22, hI.t23, hI.t24, hI.t25, hI.t26, hI.t27, hI.t28, hI.t29, hI.t30, hI.t31, hI.t32, hI.t33, hI.t34, hI.t35, hI.t36, hI.t37, hI.t38, hI.t39, hI.t40, hI.t41, hI.t42, hI.t43, hI.t44, hI.t45, hI.t46, hI.t47, hI.bw⟩⟩
  · rintro L a wx ⟨v, rfl, hI⟩ hL hdep hcl K hK
    have e11 := hI.t11 (hdep 11 (by decide))
    have e10 := hI.t10 (hdep 10 (by decide))
    rw [e11, e10]
    refine (if_pos rfl).mpr ?_
    go_simp
    exact hK _ _ ⟨(upd (upd (upd v 27 (.int .i64 0)) 26 (.bool true)) 28 (.bool true)), rfl, ⟨hI.t0, hI.t1, hI.t2, hI.t3, hI.t4, hI.t5, hI.t6, hI.t7, hI.t8, hI.t9, fun _ => rfl, fun _ => rfl, fun _ => rfl, hI.t13, hI.t14, hI.t15, hI.t16, hI.t17, hI.t18, hI.t19, hI.t20, hI.t21, hI.t22, hI.t23, hI.t24, hI.t25, hI.t26, hI.t27, hI.t28, hI.t29, hI.t30, hI.t31, hI.t32, hI.t33, hI.t34, hI.t35, hI.t36, hI.t37, hI.t38, hI.t39, hI.t40, hI.t41, hI.t42, hI.t43, hI.t44, hI.t45, hI.t46, hI.t47, hI.bw⟩⟩
  · rintro L a wx ⟨v, rfl, hI⟩ hL hdep hcl K hK
    have e10 := hI.t10 (hdep 10 (by decide))
    have e12 := hI.t12 (hdep 12 (by decide))
    rw [e10, e12]
    go_simp
    exact hK _ _ ⟨(upd (upd (upd v 26 (.bool true)) 28 (.bool true)) 29 (.bool true)), rfl, ⟨hI.t0, hI.t1, hI.t2, hI.t3, hI.t4, hI.t5, hI.t6, hI.t7, hI.t8, hI.t9, fun _ => rfl, hI.t11, fun _ => rfl, fun _ => rfl, hI.t14, hI.t15, hI.t16, hI.t17, hI.t18, hI.t19, hI.t20, hI.t21, hI.t22, hI.t23, hI.t24, hI.t25, hI.t26, hI.t27, hI.t28, hI.t29, hI.t30, hI.t31, hI.t32, hI.t33, hI.t34, hI.t35, hI.t36, hI.t37, hI.t38, hI.t39, hI.t40, hI.t41, hI.t42, hI.t43, hI.t44, hI.t45, hI.t46, hI.t47, hI.bw⟩⟩
  · rintro L a wx ⟨v, rfl, hI⟩ hL hdep hcl K hK
    have e13 := hI.t13 (hdep 13 (by decide))
    rw [e13]
    go_simp
    exact hK _ _ ⟨(upd (upd v 29 (.bool true)) 30 (.bool true)), rfl, ⟨hI.t0, hI.t1, hI.t2, hI.t3, hI.t4, hI.t5, hI.t6, hI.t7, hI.t8, hI.t9, hI.t10, hI.t11, hI.t12, fun _ => rfl, fun _ => rfl, hI.t15, hI.t16, hI.t17, hI.t18, hI.t19, hI.t20, hI.t21, hI.t22, hI.t23, hI.t24, hI.t25, hI.t26, hI.t27, hI.t28, hI.t29, hI.t30, hI.t31, hI.t32, hI.t33, hI.t34, hI.t35, hI.t36, hI.t37, hI.t38, hI.t39, hI.t40, hI.t41, hI.t42, hI.t43, hI.t44, hI.t45, hI.t46, hI.t47, hI.bw⟩⟩
  · rintro L a wx ⟨v, rfl, hI⟩ hL hdep hcl K hK
    have e14 := hI.t14 (hdep 14 (by decide))
    rw [e14]
    refine (if_pos rfl).mpr ?_
    go_simp
    exact hK _ _ ⟨(upd (upd v 30 (.bool true)) 31 (.slice (some ⟨g4, 0, none⟩) 3 c4)), rfl, ⟨hI.t0, hI.t1, hI.t2, hI.t3, hI.t4, hI.t5, hI.t6, hI.t7, hI.t8, hI.t9, hI.t10, hI.t11, hI.t12, hI.t13, fun _ => rfl, fun _ => rfl, hI.t16, hI.t17, hI.t18, hI.t19, hI.t20, hI.t21, hI.t22, hI.t23, hI.t24, hI.t25, hI.t26, hI.t27, hI.t28, hI.t29, hI.t30, hI.t31, hI.t32, hI.t33, hI.t34, hI.t35, hI.t36, hI.t37, hI.t38, hI.t39, hI.t40, hI.t41, hI.t42, hI.t43, hI.t44, hI.t45, hI.t46, hI.t47, hI.bw⟩⟩
  · rintro L a wx ⟨v, rfl, hI⟩ hL hdep hcl K hK
    have e15 := hI.t15 (hdep 15 (by decide))
    have e14 := hI.t14 (hdep 14 (by decide))
    rw [e15, e14]
    refine (if_pos rfl).mpr ?_
    go_simp
    exact hK _ _ ⟨(upd (upd (upd v 31 (.slice (some ⟨g4, 0, none⟩) 3 c4)) 30 (.bool true)) 32 (.int .i64 3)), rfl, ⟨hI.t0, hI.t1, hI.t2, hI.t3, hI.t4, hI.t5, hI.t6, hI.t7, hI.t8, hI.t9, hI.t10, hI.t11, hI.t12, hI.t13, fun _ => rfl, fun _ => rfl, fun _ => rfl, hI.t17, hI.t18, hI.t19, hI.t20, hI.t21, hI.t22, hI.t23, hI.t24, hI.t25, hI.t26, hI.t27, hI.t28, hI.t29, hI.t30, hI.t31, hI.t32, hI.t33, hI.t34, hI.t35, hI.t36, hI.t37, hI.t38, hI.t39, hI.t40, hI.t41, hI.t42, hI.t43, hI.t44, hI.t45, hI.t46, hI.t47, hI.bw⟩⟩
  · rintro L a wx ⟨v, rfl, hI⟩ hL hdep hcl K hK
    have e16 := hI.t16 (hdep 16 (by decide))
    have e14 := hI.t14 (hdep 14 (by decide))
    rw [e16, e14]
    refine (if_pos rfl).mpr ?_
    go_simp
    exact hK _ _ ⟨(upd (upd (upd v 32 (.int .i64 3)) 30 (.bool true)) 33 (.bool true)), rfl, ⟨hI.t0, hI.t1, hI.t2, hI.t3, hI.t4, hI.t5, hI.t6, hI.t7, hI.t8, hI.t9, hI.t10, hI.t11, hI.t12, hI.t13, fun _ => rfl, hI.t15, fun _ => rfl, fun _ => rfl, hI.t18, hI.t19, hI.t20, hI.t21, hI.t22, hI.t23, hI.t24, hI.t25, hI.t26, hI.t27, hI.t28, hI.t29, hI.t30, hI.t31, hI.t32, hI.t33, hI.t34, hI.t35, hI.t36, hI.t37, hI.t38, hI.t39, hI.t40, hI.t41, hI.t42, hI.t43, hI.t44, hI.t45, hI.t46, hI.t47, hI.bw⟩⟩
  · rintro L a wx ⟨v, rfl, hI⟩ hL hdep hcl K hK
    have e14 := hI.t14 (hdep 14 (by decide))
    have e17 := hI.t17 (hdep 17 (by decide))
    rw [e14, e17]
    go_simp
    exact hK _ _ ⟨(upd (upd (upd v 30 (.bool true)) 33 (.bool true)) 34 (.bool true)), rfl, ⟨hI.t0, hI.t1, hI.t2, hI.t3, hI.t4, hI.t5, hI.t6, hI.t7, hI.t8, hI.t9, hI.t10, hI.t11, hI.t12, hI.t13, fun _ => rfl, hI.t15, hI.t16, fun _ => rfl, fun _ => rfl, hI.t19, hI.t20, hI.t21, hI.t22, hI.t23, hI.t24, hI.t25, hI.t26, hI.t27, hI.t28, hI.t29, hI.t30, hI.t31, hI.t32, hI.t33, hI.t34, hI.t35, hI.t36, hI.t37, hI.t38, hI.t39, hI.t40, hI.t41, hI.t42, hI.t43, hI.t44, hI.t45, hI.t46, hI.t47, hI.bw⟩⟩
  · rintro L a wx ⟨v, rfl, hI⟩ hL hdep hcl K hK
    have e18 := hI.t18 (hdep 18 (by decide))
    rw [e18]
    go_simp
    exact hK _ _ ⟨(upd (upd v 34 (.bool true)) 35 (.bool true)), rfl, ⟨hI.t0, hI.t1, hI.t2, hI.t3, hI.t4, hI.t5, hI.t6, hI.t7, hI.t8, hI.t9, hI.t10, hI.t11, hI.t12, hI.t13, hI.t14, hI.t15, hI.t16, hI.t17, fun _ => rfl, fun _ => rfl, hI.t20, hI.t21, hI.t22, hI.t23, hI.t24, hI.t25, hI.t26, hI.t27, hI.t28, hI.t29, hI.t30, hI.t31, hI.t32, hI.t33, hI.t34, hI.t35, hI.t36, hI.t37, hI.t38, hI.t39, hI.t40, hI.t41, hI.t42, hI.t43, hI.t44, hI.t45, hI.t46, hI.t47, hI.bw⟩⟩
  · rintro L a wx ⟨v, rfl, hI⟩ hL hdep hcl K hK
    have e19 := hI.t19 (hdep 19 (by decide))
    rw [e19]
    refine (if_pos rfl).mpr ?_
    go_simp
    exact hK _ _ ⟨(upd (upd v 35 (.bool true)) 36 (.slice (some ⟨g4, 0, none⟩) 3 c4)), rfl, ⟨hI.t0, hI.t1, hI.t2, hI.t3, hI.t4, hI.t5, hI.t6, hI.t7, hI.t8, hI.t9, hI.t10, hI.t11, hI.t12, hI.t13, hI.t14, hI.t15, hI.t16, hI.t17, hI.t18, fun _ => rfl, fun _ => rfl, hI.t21, hI.t22, hI.t23, hI.t24, hI.t25, hI.t26, hI.t27, hI.t28, hI.t29, hI.t30, hI.t31, hI.t32, hI.t33, hI.t34, hI.t35, hI.t36, hI.t37, hI.t38, hI.t39, hI.t40, hI.t41, hI.t42, hI.t43, hI.t44, hI.t45, hI.t46, hI.t47, hI.bw⟩⟩
  · rintro L a wx ⟨v, rfl, hI⟩ hL hdep hcl K hK
    have e20 := hI.t20 (hdep 20 (by decide))
    have e19 := hI.t19 (hdep 19 (by decide))
    rw [e20, e19]
    refine (if_pos rfl).mpr ?_
    go_simp
    exact hK _ _ ⟨(upd (upd (upd v 36 (.slice (some ⟨g4, 0, none⟩) 3 c4)) 35 (.bool true)) 37 (.pointer (some ⟨g4, 0, none⟩))), rfl, ⟨hI.t0, hI.t1, hI.t2, hI.t3, hI.t4, hI.t5, hI.t6, hI.t7, hI.t8, hI.t9, hI.t10, hI.t11, hI.t12, hI.t13, hI.t14, hI.t15, hI.t16, hI.t17, hI.t18, fun _ => rfl, fun _ => rfl, fun _ => rfl, hI.t22, hI.t23, hI.t24, hI.t25, hI.t26, hI.t27, hI.t28, hI.t29, hI.t30, hI.t31, hI.t32, hI.t33, hI.t34, hI.t35, hI.t36, hI.t37, hI.t38, hI.t39, hI.t40, hI.t41, hI.t42, hI.t43, hI.t44, hI.t45, hI.t46, hI.t47, hI.bw⟩⟩
  · rintro L a wx ⟨v, rfl, hI⟩ hL hdep hcl K hK
    have e21 := hI.t21 (hdep 21 (by decide))
    have e19 := hI.t19 (hdep 19 (by decide))
    rw [e21, e19]
    refine (if_pos rfl).mpr ?_
    refine wp_load_mid 41 _ rfl g4 0 rfl (bvs Y4) (.array 32 5) (Q0.out wx hI.bw) Try.underlying41 rfl I4.out ?_
    exact hK _ _ ⟨(upd (upd (upd v 37 (.pointer (some ⟨g4, 0, none⟩))) 35 (.bool true)) 38 (.agg (bvs Y4).toArray)), rfl, ⟨hI.t0, hI.t1, hI.t2, hI.t3, hI.t4, hI.t5, hI.t6, hI.t7, hI.t8, hI.t9, hI.t10, hI.t11, hI.t12, hI.t13, hI.t14, hI.t15, hI.t16, hI.t17, hI.t18, fun _ => rfl, hI.t20, fun _ => rfl, fun _ => rfl, hI.t23, hI.t24, hI.t25, hI.t26, hI.t27, hI.t28, hI.t29, hI.t30, hI.t31, hI.t32, hI.t33, hI.t34, hI.t35, hI.t36, hI.t37, hI.t38, hI.t39, hI.t40, hI.t41, hI.t42, hI.t43, hI.t44, hI.t45, hI.t46, hI.t47, hI.bw⟩⟩
  · rintro L a wx ⟨v, rfl, hI⟩ hL hdep hcl K hK
    have e19 := hI.t19 (hdep 19 (by decide))
    rw [e19]
    refine (if_pos rfl).mpr ?_
    go_simp
    exact hK _ _ ⟨(upd (upd v 35 (.bool true)) 39 (.slice (some ⟨g3, 0, none⟩) 7 c3)), rfl, ⟨hI.t0, hI.t1, hI.t2, hI.t3, hI.t4, hI.t5, hI.t6, hI.t7, hI.t8, hI.t9, hI.t10, hI.t11, hI.t12, hI.t13, hI.t14, hI.t15, hI.t16, hI.t17, hI.t18, fun _ => rfl, hI.t20, hI.t21, hI.t22, fun _ => rfl, hI.t24, hI.t25, hI.t26, hI.t27, hI.t28, hI.t29, hI.t30, hI.t31, hI.t32, hI.t33, hI.t34, hI.t35, hI.t36, hI.t37, hI.t38, hI.t39, hI.t40, hI.t41, hI.t42, hI.t43, hI.t44, hI.t45, hI.t46, hI.t47, hI.bw⟩⟩
  · rintro L a wx ⟨v, rfl, hI⟩ hL hdep hcl K hK
    have e23 := hI.t23 (hdep 23 (by decide))
    have e19 := hI.t19 (hdep 19 (by decide))
    rw [e23, e19]
    refine (if_pos rfl).mpr ?_
    go_simp
    exact hK _ _ ⟨(upd (upd (upd v 39 (.slice (some ⟨g3, 0, none⟩) 7 c3)) 35 (.bool true)) 40 (.pointer (some ⟨g3, 128, none⟩))), rfl, ⟨hI.t0, hI.t1, hI.t2, hI.t3, hI.t4, hI.t5, hI.t6, hI.t7, hI.t8, hI.t9, hI.t10, hI.t11, hI.t12, hI.t13, hI.t14, hI.t15, hI.t16, hI.t17, hI.t18, fun _ => rfl, hI.t20, hI.t21, hI.t22, fun _ => rfl, fun _ => rfl, hI.t25, hI.t26, hI.t27, hI.t28, hI.t29, hI.t30, hI.t31, hI.t32, hI.t33, hI.t34, hI.t35, hI.t36, hI.t37, hI.t38, hI.t39, hI.t40, hI.t41, hI.t42, hI.t43, hI.t44, hI.t45, hI.t46, hI.t47, hI.bw⟩⟩
  · rintro L a wx ⟨v, rfl, hI⟩ hL hdep hcl K hK
    have e24 := hI.t24 (hdep 24 (by decide))
    have e19 := hI.t19 (hdep 19 (by decide))
    rw [e24, e19]
    refine (if_pos rfl).mpr ?_
    refine wp_load_mid 41 _ rfl g3 128 rfl (bvs Y4) (.array 32 5) (Q4.out wx hI.bw) Try.underlying41 rfl I4.out ?_
    exact hK _ _ ⟨(upd (upd (upd v 40 (.pointer (some ⟨g3, 128, none⟩))) 35 (.bool true)) 41 (.agg (bvs Y4).toArray)), rfl, ⟨hI.t0, hI.t1, hI.t2, hI.t3, hI.t4, hI.t5, hI.t6, hI.t7, hI.t8, hI.t9, hI.t10, hI.t11, hI.t12, hI.t13, hI.t14, hI.t15, hI.t16, hI.t17, hI.t18, fun _ => rfl, hI.t20, hI.t21, hI.t22, hI.t23, fun _ => rfl, fun _ => rfl, hI.t26, hI.t27, hI.t28, hI.t29, hI.t30, hI.t31, hI.t32, hI.t33, hI.t34, hI.t35, hI.t36, hI.t37, hI.t38, hI.t39, hI.t40, hI.t41, hI.t42, hI.t43, hI.t44, hI.t45, hI.t46, hI.t47, hI.bw⟩⟩
  · rintro L a wx ⟨v, rfl, hI⟩ hL hdep hcl K hK
    have e22 := hI.t22 (hdep 22 (by decide))
    have e25 := hI.t25 (hdep 25 (by decide))
    have e19 := hI.t19 (hdep 19 (by decide))
    rw [e22, e25, e19]
    refine (if_pos rfl).mpr ?_
    refine ow_eqD _ _ _ rfl Y4 Y4 L4.out L4.out rfl rfl ?_
    rw [decide_eq_true rfl]
    exact hK _ _ ⟨(upd (upd (upd (upd v 38 (.agg (bvs Y4).toArray)) 41 (.agg (bvs Y4).toArray)) 35 (.bool true)) 42 (.bool true)), rfl, ⟨hI.t0, hI.t1, hI.t2, hI.t3, hI.t4, hI.t5, hI.t6, hI.t7, hI.t8, hI.t9, hI.t10, hI.t11, hI.t12, hI.t13, hI.t14, hI.t15, hI.t16, hI.t17, hI.t18, fun _ => rfl, hI.t20, hI.t21, fun _ => rfl, hI.t23, hI.t24, fun _ => rfl, fun _ => rfl, hI.t27, hI.t28, hI.t29, hI.t30, hI.t31, hI.t32, hI.t33, hI.t34, hI.t35, hI.t36, hI.t37, hI.t38, hI.t39, hI.t40, hI.t41, hI.t42, hI.t43, hI.t44, hI.t45, hI.t46, hI.t47, hI.bw⟩⟩
  · rintro L a wx ⟨v, rfl, hI⟩ hL hdep hcl K hK
    have e19 := hI.t19 (hdep 19 (by decide))
    have e26 := hI.t26 (hdep 26 (by decide))
    rw [e19, e26]
    go_simp
    exact hK _ _ ⟨(upd (upd (upd v 35 (.bool true)) 42 (.bool true)) 43 (.bool true)), rfl, ⟨hI.t0, hI.t1, hI.t2, hI.t3, hI.t4, hI.t5, hI.t6, hI.t7, hI.t8, hI.t9, hI.t10, hI.t11, hI.t12, hI.t13, hI.t14, hI.t15, hI.t16, hI.t17, hI.t18, fun _ => rfl, hI.t20, hI.t21, hI.t22, hI.t23, hI.t24, hI.t25, fun _ => rfl, fun _ => rfl, hI.t28, hI.t29, hI.t30, hI.t31, hI.t32, hI.t33, hI.t34, hI.t35, hI.t36, hI.t37, hI.t38, hI.t39, hI.t40, hI.t41, hI.t42, hI.t43, hI.t44, hI.t45, hI.t46, hI.t47, hI.bw⟩⟩
  · rintro L a wx ⟨v, rfl, hI⟩ hL hdep hcl K hK
    have e27 := hI.t27 (hdep 27 (by decide))
    rw [e27]
    go_simp
    exact hK _ _ ⟨(upd (upd v 43 (.bool true)) 44 (.bool true)), rfl, ⟨hI.t0, hI.t1, hI.t2, hI.t3, hI.t4, hI.t5, hI.t6, hI.t7, hI.t8, hI.t9, hI.t10, hI.t11, hI.t12, hI.t13, hI.t14, hI.t15, hI.t16, hI.t17, hI.t18, hI.t19, hI.t20, hI.t21, hI.t22, hI.t23, hI.t24, hI.t25, hI.t26, fun _ => rfl, fun _ => rfl, hI.t29, hI.t30, hI.t31, hI.t32, hI.t33, hI.t34, hI.t35, hI.t36, hI.t37, hI.t38, hI.t39, hI.t40, hI.t41, hI.t42, hI.t43, hI.t44, hI.t45, hI.t46, hI.t47, hI.bw⟩⟩
  · rintro L a wx ⟨v, rfl, hI⟩ hL hdep hcl K hK
    have e28 := hI.t28 (hdep 28 (by decide))
    rw [e28]
    refine (if_pos rfl).mpr ?_
    go_simp
    exact hK _ _ ⟨(upd (upd v 44 (.bool true)) 45 (.slice (some ⟨g3, 0, none⟩) 7 c3)), rfl, ⟨hI.t0, hI.t1, hI.t2, hI.t3, hI.t4, hI.t5, hI.t6, hI.t7, hI.t8, hI.t9, hI.t10, hI.t11, hI.t12, hI.t13, hI.t14, hI.t15, hI.t16, hI.t17, hI.t18, hI.t19, hI.t20, hI.t21, hI.t22, hI.t23, hI.t24, hI.t25, hI.t26, hI.t27, fun _ => rfl, fun _ => rfl, hI.t30, hI.t31, hI.t32, hI.t33, hI.t34, hI.t35, hI.t36, hI.t37, hI.t38, hI.t39, hI.t40, hI.t41, hI.t42, hI.t43, hI.t44, hI.t45, hI.t46, hI.t47, hI.bw⟩⟩
  · rintro L a wx ⟨v, rfl, hI⟩ hL hdep hcl K hK
    have e29 := hI.t29 (hdep 29 (by decide))
    have e28 := hI.t28 (hdep 28 (by decide))
    rw [e29, e28]
    refine (if_pos rfl).mpr ?_
    go_simp
    exact hK _ _ ⟨(upd (upd (upd v 45 (.slice (some ⟨g3, 0, none⟩) 7 c3)) 44 (.bool true)) 46 (.pointer (some ⟨g3, 160, none⟩))), rfl, ⟨hI.t0, hI.t1, hI.t2, hI.t3, hI.t4, hI.t5, hI.t6, hI.t7, hI.t8, hI.t9, hI.t10, hI.t11, hI.t12, hI.t13, hI.t14, hI.t15, hI.t16, hI.t17, hI.t18, hI.t19, hI.t20, hI.t21, hI.t22, hI.t23, hI.t24, hI.t25, hI.t26, hI.t27, fun _ => rfl, fun _ => rfl, fun _ => rfl, hI.t31, hI.t32, hI.t33, hI.t34, hI.t35, hI.t36, hI.t37, hI.t38, hI.t39, hI.t40, hI.t41, hI.t42, hI.t43, hI.t44, hI.t45, hI.t46, hI.t47, hI.bw⟩⟩
  · rintro L a wx ⟨v, rfl, hI⟩ hL hdep hcl K hK
    have e30 := hI.t30 (hdep 30 (by decide))
    have e28 := hI.t28 (hdep 28 (by decide))
    rw [e30, e28]
    refine (if_pos rfl).mpr ?_
    refine wp_load_mid 41 _ rfl g3 160 rfl (bvs Y5) (.array 32 5) (Q5.out wx hI.bw) Try.underlying41 rfl I5.out ?_
    exact hK _ _ ⟨(upd (upd (upd v 46 (.pointer (some ⟨g3, 160, none⟩))) 44 (.bool true)) 47 (.agg (bvs Y5).toArray)), rfl, ⟨hI.t0, hI.t1, hI.t2, hI.t3, hI.t4, hI.t5, hI.t6, hI.t7, hI.t8, hI.t9, hI.t10, hI.t11, hI.t12, hI.t13, hI.t14, hI.t15, hI.t16, hI.t17, hI.t18, hI.t19, hI.t20, hI.t21, hI.t22, hI.t23, hI.t24, hI.t25, hI.t26, hI.t27, fun _ => rfl, hI.t29, fun _ => rfl, fun _ => rfl, hI.t32, hI.t33, hI.t34, hI.t35, hI.t36, hI.t37, hI.t38, hI.t39, hI.t40, hI.t41, hI.t42, hI.t43, hI.t44, hI.t45, hI.t46, hI.t47, hI.bw⟩⟩
  · rintro L a wx ⟨v, rfl, hI⟩ hL hdep hcl K hK
    have e28 := hI.t28 (hdep 28 (by decide))
    rw [e28]
    refine (if_pos rfl).mpr ?_
    go_simp
    exact hK _ _ ⟨(upd (upd v 44 (.bool true)) 48 (.slice (some ⟨g4, 0, none⟩) 3 c4)), rfl, ⟨hI.t0, hI.t1, hI.t2, hI.t3, hI.t4, hI.t5, hI.t6, hI.t7, hI.t8, hI.t9, hI.t10, hI.t11, hI.t12, hI.t13, hI.t14, hI.t15, hI.t16, hI.t17, hI.t18, hI.t19, hI.t20, hI.t21, hI.t22, hI.t23, hI.t24, hI.t25, hI.t26, hI.t27, fun _ => rfl, hI.t29, hI.t30, hI.t31, fun _ => rfl, hI.t33, hI.t34, hI.t35, hI.t36, hI.t37, hI.t38, hI.t39, hI.t40, hI.t41, hI.t42, hI.t43, hI.t44, hI.t45, hI.t46, hI.t47, hI.bw⟩⟩
  · rintro L a wx ⟨v, rfl, hI⟩ hL hdep hcl K hK
    have e28 := hI.t28 (hdep 28 (by decide))
    rw [e28]
    refine (if_pos rfl).mpr ?_
    go_simp
    exact hK _ _ ⟨(upd (upd v 44 (.bool true)) 49 (.slice (some ⟨g3, 0, none⟩) 7 c3)), rfl, ⟨hI.t0, hI.t1, hI.t2, hI.t3, hI.t4, hI.t5, hI.t6, hI.t7, hI.t8, hI.t9, hI.t10, hI.t11, hI.t12, hI.t13, hI.t14, hI.t15, hI.t16, hI.t17, hI.t18, hI.t19, hI.t20, hI.t21, hI.t22, hI.t23, hI.t24, hI.t25, hI.t26, hI.t27, fun _ => rfl, hI.t29, hI.t30, hI.t31, hI.t32, fun _ => rfl, hI.t34, hI.t35, hI.t36, hI.t37, hI.t38, hI.t39, hI.t40, hI.t41, hI.t42, hI.t43, hI.t44, hI.t45, hI.t46, hI.t47, hI.bw⟩⟩
  · rintro L a wx ⟨v, rfl, hI⟩ hL hdep hcl K hK
    have e33 := hI.t33 (hdep 33 (by decide))
    have e28 := hI.t28 (hdep 28 (by decide))
    rw [e33, e28]
    refine (if_pos rfl).mpr ?_
    have HC := HRT'.out wx hI.bw
    go_simp
    refine HC.mono ?_
    rintro e w' ⟨rfl, hb⟩
    exact hK _ _ ⟨(upd (upd (upd v 49 (.slice (some ⟨g3, 0, none⟩) 7 c3)) 44 (.bool true)) 50 (.agg (bvs RT).toArray)), rfl, ⟨hI.t0, hI.t1, hI.t2, hI.t3, hI.t4, hI.t5, hI.t6, fun h => by obtain ⟨g, e, h1⟩ := hI.t7 h; exact ⟨g, e, h1.kept hb⟩, hI.t8, hI.t9, hI.t10, hI.t11, hI.t12, hI.t13, hI.t14, hI.t15, hI.t16, hI.t17, hI.t18, hI.t19, hI.t20, hI.t21, hI.t22, hI.t23, hI.t24, hI.t25, hI.t26, hI.t27, fun _ => rfl, hI.t29, hI.t30, hI.t31, hI.t32, fun _ => rfl, fun _ => rfl, hI.t35, hI.t36, hI.t37, hI.t38, hI.t39, hI.t40, hI.t41, hI.t42, hI.t43, hI.t44, hI.t45, hI.t46, hI.t47, (hI.bw).trans (hb.mono (hI.bw).size)⟩⟩
  · rintro L a wx ⟨v, rfl, hI⟩ hL hdep hcl K hK
    have e31 := hI.t31 (hdep 31 (by decide))
    have e32 := hI.t32 (hdep 32 (by decide))
    have e34 := hI.t34 (hdep 34 (by decide))
    have e28 := hI.t28 (hdep 28 (by decide))
    rw [e31, e32, e34, e28]
    refine (if_pos rfl).mpr ?_
    have HC := HV5'.out wx hI.bw
    go_simp
    refine HC.mono ?_
    rintro e w' ⟨rfl, hb⟩
    exact hK _ _ ⟨(upd (upd (upd (upd (upd v 47 (.agg (bvs Y5).toArray)) 48 (.slice (some ⟨g4, 0, none⟩) 3 c4)) 50 (.agg (bvs RT).toArray)) 44 (.bool true)) 51 (.bool true)), rfl, ⟨hI.t0, hI.t1, hI.t2, hI.t3, hI.t4, hI.t5, hI.t6, fun h => by obtain ⟨g, e, h1⟩ := hI.t7 h; exact ⟨g, e, h1.kept hb⟩, hI.t8, hI.t9, hI.t10, hI.t11, hI.t12, hI.t13, hI.t14, hI.t15, hI.t16, hI.t17, hI.t18, hI.t19, hI.t20, hI.t21, hI.t22, hI.t23, hI.t24, hI.t25, hI.t26, hI.t27, fun _ => rfl, hI.t29, hI.t30, fun _ => rfl, fun _ => rfl, hI.t33, fun _ => rfl, fun _ => rfl, hI.t36, hI.t37, hI.t38, hI.t39, hI.t40, hI.t41, hI.t42, hI.t43, hI.t44, hI.t45, hI.t46, hI.t47, (hI.bw).trans (hb.mono (hI.bw).size)⟩⟩
  · rintro L a wx ⟨v, rfl, hI⟩ hL hdep hcl K hK
    have e28 := hI.t28 (hdep 28 (by decide))
    have e35 := hI.t35 (hdep 35 (by decide))
    rw [e28, e35]
    go_simp
    exact hK _ _ ⟨(upd (upd (upd v 44 (.bool true)) 51 (.bool true)) 52 (.bool true)), rfl, ⟨hI.t0, hI.t1, hI.t2, hI.t3, hI.t4, hI.t5, hI.t6, hI.t7, hI.t8, hI.t9, hI.t10, hI.t11, hI.t12, hI.t13, hI.t14, hI.t15, hI.t16, hI.t17, hI.t18, hI.t19, hI.t20, hI.t21, hI.t22, hI.t23, hI.t24, hI.t25, hI.t26, hI.t27, fun _ => rfl, hI.t29, hI.t30, hI.t31, hI.t32, hI.t33, hI.t34, fun _ => rfl, fun _ => rfl, hI.t37, hI.t38, hI.t39, hI.t40, hI.t41, hI.t42, hI.t43, hI.t44, hI.t45, hI.t46, hI.t47, hI.bw⟩⟩
  · rintro L a wx ⟨v, rfl, hI⟩ hL hdep hcl K hK
    have e36 := hI.t36 (hdep 36 (by decide))
    rw [e36]
    go_simp
    exact hK _ _ ⟨(upd (upd v 52 (.bool true)) 53 (.bool true)), rfl, ⟨hI.t0, hI.t1, hI.t2, hI.t3, hI.t4, hI.t5, hI.t6, hI.t7, hI.t8, hI.t9, hI.t10, hI.t11, hI.t12, hI.t13, hI.t14, hI.t15, hI.t16, hI.t17, hI.t18, hI.t19, hI.t20, hI.t21, hI.t22, hI.t23, hI.t24, hI.t25, hI.t26, hI.t27, hI.t28, hI.t29, hI.t30, hI.t31, hI.t32, hI.t33, hI.t34, hI.t35, fun _ => rfl, fun _ => rfl, hI.t38, hI.t39, hI.t40, hI.t41, hI.t42, hI.t43, hI.t44, hI.t45, hI.t46, hI.t47, hI.bw⟩⟩
  · rintro L a wx ⟨v, rfl, hI⟩ hL hdep hcl K hK
    have e37 := hI.t37 (hdep 37 (by decide))
    rw [e37]
    refine (if_pos rfl).mpr ?_
    go_simp
    exact hK _ _ ⟨(upd (upd v 53 (.bool true)) 54 (.slice (some ⟨g3, 0, none⟩) 7 c3)), rfl, ⟨hI.t0, hI.t1, hI.t2, hI.t3, hI.t4, hI.t5, hI.t6, hI.t7, hI.t8, hI.t9, hI.t10, hI.t11, hI.t12, hI.t13, hI.t14, hI.t15, hI.t16, hI.t17, hI.t18, hI.t19, hI.t20, hI.t21, hI.t22, hI.t23, hI.t24, hI.t25, hI.t26, hI.t27, hI.t28, hI.t29, hI.t30, hI.t31, hI.t32, hI.t33, hI.t34, hI.t35, hI.t36, fun _ => rfl, fun _ => rfl, hI.t39, hI.t40, hI.t41, hI.t42, hI.t43, hI.t44, hI.t45, hI.t46, hI.t47, hI.bw⟩⟩
  · rintro L a wx ⟨v, rfl, hI⟩ hL hdep hcl K hK
    have e38 := hI.t38 (hdep 38 (by decide))
    have e37 := hI.t37 (hdep 37 (by decide))
    rw [e38, e37]
    refine (if_pos rfl).mpr ?_
    go_simp
    exact hK _ _ ⟨(upd (upd (upd v 54 (.slice (some ⟨g3, 0, none⟩) 7 c3)) 53 (.bool true)) 55 (.pointer (some ⟨g3, 128, none⟩))), rfl, ⟨hI.t0, hI.t1, hI.t2, hI.t3, hI.t4, hI.t5, hI.t6, hI.t7, hI.t8, hI.t9, hI.t10, hI.t11, hI.t12, hI.t13, hI.t14, hI.t15, hI.t16, hI.t17, hI.t18, hI.t19, hI.t20, hI.t21, hI.t22, hI.t23, hI.t24, hI.t25, hI.t26, hI.t27, hI.t28, hI.t29, hI.t30, hI.t31, hI.t32, hI.t33, hI.t34, hI.t35, hI.t36, fun _ => rfl, fun _ => rfl, fun _ => rfl, hI.t40, hI.t41, hI.t42, hI.t43, hI.t44, hI.t45, hI.t46, hI.t47, hI.bw⟩⟩
  · rintro L a wx ⟨v, rfl, hI⟩ hL hdep hcl K hK
    have e39 := hI.t39 (hdep 39 (by decide))
    have e37 := hI.t37 (hdep 37 (by decide))
    rw [e39, e37]
    refine (if_pos rfl).mpr ?_
    refine wp_load_mid 41 _ rfl g3 128 rfl (bvs Y4) (.array 32 5) (Q4.out wx hI.bw) Try.underlying41 rfl I4.out ?_
    exact hK _ _ ⟨(upd (upd (upd v 55 (.pointer (some ⟨g3, 128, none⟩))) 53 (.bool true)) 56 (.agg (bvs Y4).toArray)), rfl, ⟨hI.t0, hI.t1, hI.t2, hI.t3, hI.t4, hI.t5, hI.t6, hI.t7, hI.t8, hI.t9, hI.t10, hI.t11, hI.t12, hI.t13, hI.t14, hI.t15, hI.t16, hI.t17, hI.t18, hI.t19, hI.t20, hI.t21, hI.t22, hI.t23, hI.t24, hI.t25, hI.t26, hI.t27, hI.t28, hI.t29, hI.t30, hI.t31, hI.t32, hI.t33, hI.t34, hI.t35, hI.t36, fun _ => rfl, hI.t38, fun _ => rfl, fun _ => rfl, hI.t41, hI.t42, hI.t43, hI.t44, hI.t45, hI.t46, hI.t47, hI.bw⟩⟩
  · rintro L a wx ⟨v, rfl, hI⟩ hL hdep hcl K hK
    have e37 := hI.t37 (hdep 37 (by decide))
    rw [e37]
    refine (if_pos rfl).mpr ?_
    go_simp
    exact hK _ _ ⟨(upd (upd v 53 (.bool true)) 57 (.slice (some ⟨g4, 0, none⟩) 3 c4)), rfl, ⟨hI.t0, hI.t1, hI.t2, hI.t3, hI.t4, hI.t5, hI.t6, hI.t7, hI.t8, hI.t9, hI.t10, hI.t11, hI.t12, hI.t13, hI.t14, hI.t15, hI.t16, hI.t17, hI.t18, hI.t19, hI.t20, hI.t21, hI.t22, hI.t23, hI.t24, hI.t25, hI.t26, hI.t27, hI.t28, hI.t29, hI.t30, hI.t31, hI.t32, hI.t33, hI.t34, hI.t35, hI.t36, fun _ => rfl, hI.t38, hI.t39, hI.t40, fun _ => rfl, hI.t42, hI.t43, hI.t44, hI.t45, hI.t46, hI.t47, hI.bw⟩⟩
  · rintro L a wx ⟨v, rfl, hI⟩ hL hdep hcl K hK
    have e37 := hI.t37 (hdep 37 (by decide))
    rw [e37]
    refine (if_pos rfl).mpr ?_
    go_simp
    exact hK _ _ ⟨(upd (upd v 53 (.bool true)) 58 (.slice (some ⟨g3, 0, none⟩) 7 c3)), rfl, ⟨hI.t0, hI.t1, hI.t2, hI.t3, hI.t4, hI.t5, hI.t6, hI.t7, hI.t8, hI.t9, hI.t10, hI.t11, hI.t12, hI.t13, hI.t14, hI.t15, hI.t16, hI.t17, hI.t18, hI.t19, hI.t20, hI.t21, hI.t22, hI.t23, hI.t24, hI.t25, hI.t26, hI.t27, hI.t28, hI.t29, hI.t30, hI.t31, hI.t32, hI.t33, hI.t34, hI.t35, hI.t36, fun _ => rfl, hI.t38, hI.t39, hI.t40, hI.t41, fun _ => rfl, hI.t43, hI.t44, hI.t45, hI.t46, hI.t47, hI.bw⟩⟩
  · rintro L a wx ⟨v, rfl, hI⟩ hL hdep hcl K hK
    have e42 := hI.t42 (hdep 42 (by decide))
    have e37 := hI.t37 (hdep 37 (by decide))
    rw [e42, e37]
    refine (if_pos rfl).mpr ?_
    have HC := HRT'.out wx hI.bw
    go_simp
    refine HC.mono ?_
    rintro e w' ⟨rfl, hb⟩
    exact hK _ _ ⟨(upd (upd (upd v 58 (.slice (some ⟨g3, 0, none⟩) 7 c3)) 53 (.bool true)) 59 (.agg (bvs RT).toArray)), rfl, ⟨hI.t0, hI.t1, hI.t2, hI.t3, hI.t4, hI.t5, hI.t6, fun h => by obtain ⟨g, e, h1⟩ := hI.t7 h; exact ⟨g, e, h1.kept hb⟩, hI.t8, hI.t9, hI.t10, hI.t11, hI.t12, hI.t13, hI.t14, hI.t15, hI.t16, hI.t17, hI.t18, hI.t19, hI.t20, hI.t21, hI.t22, hI.t23, hI.t24, hI.t25, hI.t26, hI.t27, hI.t28, hI.t29, hI.t30, hI.t31, hI.t32, hI.t33, hI.t34, hI.t35, hI.t36, fun _ => rfl, hI.t38, hI.t39, hI.t40, hI.t41, fun _ => rfl, fun _ => rfl, hI.t44, hI.t45, hI.t46, hI.t47, (hI.bw).trans (hb.mono (hI.bw).size)⟩⟩
  · rintro L a wx ⟨v, rfl, hI⟩ hL hdep hcl K hK
    have e40 := hI.t40 (hdep 40 (by decide))
    have e41 := hI.t41 (hdep 41 (by decide))
    have e43 := hI.t43 (hdep 43 (by decide))
    have e37 := hI.t37 (hdep 37 (by decide))
    rw [e40, e41, e43, e37]
    refine (if_pos rfl).mpr ?_
    have HC := HV4'.out wx hI.bw
    go_simp
    refine HC.mono ?_
    rintro e w' ⟨rfl, hb⟩
    exact hK _ _ ⟨(upd (upd (upd (upd (upd v 56 (.agg (bvs Y4).toArray)) 57 (.slice (some ⟨g4, 0, none⟩) 3 c4)) 59 (.agg (bvs RT).toArray)) 53 (.bool true)) 60 (.bool false)), rfl, ⟨hI.t0, hI.t1, hI.t2, hI.t3, hI.t4, hI.t5, hI.t6, fun h => by obtain ⟨g, e, h1⟩ := hI.t7 h; exact ⟨g, e, h1.kept hb⟩, hI.t8, hI.t9, hI.t10, hI.t11, hI.t12, hI.t13, hI.t14, hI.t15, hI.t16, hI.t17, hI.t18, hI.t19, hI.t20, hI.t21, hI.t22, hI.t23, hI.t24, hI.t25, hI.t26, hI.t27, hI.t28, hI.t29, hI.t30, hI.t31, hI.t32, hI.t33, hI.t34, hI.t35, hI.t36, fun _ => rfl, hI.t38, hI.t39, fun _ => rfl, fun _ => rfl, hI.t42, fun _ => rfl, fun _ => rfl, hI.t45, hI.t46, hI.t47, (hI.bw).trans (hb.mono (hI.bw).size)⟩⟩
  · rintro L a wx ⟨v, rfl, hI⟩ hL hdep hcl K hK
    have e44 := hI.t44 (hdep 44 (by decide))
    have e37 := hI.t37 (hdep 37 (by decide))
    rw [e44, e37]
    refine (if_pos rfl).mpr ?_
    go_simp
    exact hK _ _ ⟨(upd (upd (upd v 60 (.bool false)) 53 (.bool true)) 61 (.bool true)), rfl, ⟨hI.t0, hI.t1, hI.t2, hI.t3, hI.t4, hI.t5, hI.t6, hI.t7, hI.t8, hI.t9, hI.t10, hI.t11, hI.t12, hI.t13, hI.t14, hI.t15, hI.t16, hI.t17, hI.t18, hI.t19, hI.t20, hI.t21, hI.t22, hI.t23, hI.t24, hI.t25, hI.t26, hI.t27, hI.t28, hI.t29, hI.t30, hI.t31, hI.t32, hI.t33, hI.t34, hI.t35, hI.t36, fun _ => rfl, hI.t38, hI.t39, hI.t40, hI.t41, hI.t42, hI.t43, fun _ => rfl, fun _ => rfl, hI.t46, hI.t47, hI.bw⟩⟩
  · rintro L a wx ⟨v, rfl, hI⟩ hL hdep hcl K hK
    have e37 := hI.t37 (hdep 37 (by decide))
    have e45 := hI.t45 (hdep 45 (by decide))
    rw [e37, e45]
    go_simp
    exact hK _ _ ⟨(upd (upd (upd v 53 (.bool true)) 61 (.bool true)) 62 (.bool true)), rfl, ⟨hI.t0, hI.t1, hI.t2, hI.t3, hI.t4, hI.t5, hI.t6, hI.t7, hI.t8, hI.t9, hI.t10, hI.t11, hI.t12, hI.t13, hI.t14, hI.t15, hI.t16, hI.t17, hI.t18, hI.t19, hI.t20, hI.t21, hI.t22, hI.t23, hI.t24, hI.t25, hI.t26, hI.t27, hI.t28, hI.t29, hI.t30, hI.t31, hI.t32, hI.t33, hI.t34, hI.t35, hI.t36, fun _ => rfl, hI.t38, hI.t39, hI.t40, hI.t41, hI.t42, hI.t43, hI.t44, fun _ => rfl, fun _ => rfl, hI.t47, hI.bw⟩⟩
  · rintro L a wx ⟨v, rfl, hI⟩ hL hdep hcl K hK
    have e46 := hI.t46 (hdep 46 (by decide))
    rw [e46]
    go_simp
    exact hK _ _ ⟨(upd (upd v 62 (.bool true)) 0 (.bool true)), rfl, ⟨hI.t0, hI.t1, hI.t2, hI.t3, hI.t4, hI.t5, hI.t6, hI.t7, hI.t8, hI.t9, hI.t10, hI.t11, hI.t12, hI.t13, hI.t14, hI.t15, hI.t16, hI.t17, hI.t18, hI.t19, hI.t20, hI.t21, hI.t22, hI.t23, hI.t24, hI.t25, hI.t26, hI.t27, hI.t28, hI.t29, hI.t30, hI.t31, hI.t32, hI.t33, hI.t34, hI.t35, hI.t36, hI.t37, hI.t38, hI.t39, hI.t40, hI.t41, hI.t42, hI.t43, hI.t44, hI.t45, fun _ => rfl, fun _ => rfl, hI.bw⟩⟩
  · rintro a wx ⟨vF, rfl, hI⟩
    have e := hI.t47 rfl
    have hbw := hI.bw
    clear hI
    rw [e]
    go_wp2_with fail
    go_ret
    exact ⟨rfl, B03.out.trans (hbw.mono B03.out.size)⟩
end Go.Proofs.Ytbmhobbeimhodaa
