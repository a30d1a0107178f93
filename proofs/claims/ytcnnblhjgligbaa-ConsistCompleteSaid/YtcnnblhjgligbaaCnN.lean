/-
  Layer 11: the document's examples, awake. Conditions: those in each statement.
-/
import Derived.Test.YtcnnblhjgligbaaCnM
namespace Go.Proofs.Ytcnnblhjgligbaa
open Go.RowKit
structure InvAwakeC (Y2 R2 R3 RT : List UInt8) (M P : List (List UInt8)) (a1 : Option Addr) (c1 g3 c3 g4 c4 : Nat) (W0 : World) (L : Nat → Bool) (v : Nat → Value) (wx : World) : Prop where
  t0 : L 0 = true → (v 16) = .int .i64 0
  t1 : L 1 = true → (v 17) = .bool true
  t2 : L 2 = true → (v 18) = .bool true
  t3 : L 3 = true → (v 19) = .slice a1 4 c1
  t4 : L 4 = true → (v 20) = .agg #[.int .u64 2, .int .u64 3]
  t5 : L 5 = true → (v 21) = .agg #[.int .u64 3, .int .u64 4]
  t6 : L 6 = true → (v 22) = .agg #[.int .u64 0, .int .u64 2]
  t7 : L 7 = true → (v 23) = .agg #[.int .u64 4, .int .u64 7]
  t8 : L 8 = true → ∃ g, (v 24) = .slice (some ⟨g, 0, none⟩) 4 4 ∧ Arr wx g 59 (dcg encR [(2, 3), (3, 4), (0, 2), (4, 7)])
  t9 : L 9 = true → (v 25) = .bool true
  t10 : L 10 = true → (v 26) = .bool true
  t11 : L 11 = true → (v 27) = .bool true
  t12 : L 12 = true → (v 28) = .int .i64 0
  t13 : L 13 = true → (v 29) = .bool true
  t14 : L 14 = true → (v 30) = .bool true
  t15 : L 15 = true → (v 31) = .bool true
  t16 : L 16 = true → (v 32) = .slice (some ⟨g4, 0, none⟩) 4 c4
  t17 : L 17 = true → (v 33) = .int .i64 4
  t18 : L 18 = true → (v 34) = .bool true
  t19 : L 19 = true → (v 35) = .bool true
  t20 : L 20 = true → (v 36) = .bool true
  t21 : L 21 = true → (v 37) = .slice (some ⟨g4, 0, none⟩) 4 c4
  t22 : L 22 = true → (v 38) = .pointer (some ⟨g4, 0, none⟩)
  t23 : L 23 = true → (v 39) = .agg (bvs Y2).toArray
  t24 : L 24 = true → (v 40) = .slice (some ⟨g3, 0, none⟩) 7 c3
  t25 : L 25 = true → (v 41) = .pointer (some ⟨g3, 64, none⟩)
  t26 : L 26 = true → (v 42) = .agg (bvs Y2).toArray
  t27 : L 27 = true → (v 43) = .bool true
  t28 : L 28 = true → (v 44) = .bool true
  t29 : L 29 = true → (v 45) = .bool true
  t30 : L 30 = true → (v 46) = .slice (some ⟨g3, 0, none⟩) 7 c3
  t31 : L 31 = true → (v 47) = .slice (some ⟨g3, 0, none⟩) 3 c3
  t32 : L 32 = true → (v 48) = .agg (bvs R3).toArray
  t33 : L 33 = true → (v 49) = .slice (some ⟨g3, 0, none⟩) 7 c3
  t34 : L 34 = true → (v 50) = .agg (bvs RT).toArray
  t35 : L 35 = true → (v 51) = .slice (some ⟨g4, 0, none⟩) 4 c4
  t36 : L 36 = true → (v 52) = .bool true
  t37 : L 37 = true → (v 53) = .bool true
  t38 : L 38 = true → (v 54) = .bool true
  t39 : L 39 = true → (v 55) = .slice (some ⟨g3, 0, none⟩) 7 c3
  t40 : L 40 = true → (v 56) = .slice (some ⟨g3, 0, none⟩) 2 c3
  t41 : L 41 = true → (v 57) = .agg (bvs R2).toArray
  t42 : L 42 = true → (v 58) = .slice (some ⟨g3, 0, none⟩) 7 c3
  t43 : L 43 = true → (v 59) = .agg (bvs RT).toArray
  t44 : L 44 = true → (v 60) = .slice (some ⟨g4, 0, none⟩) 4 c4
  t45 : L 45 = true → (v 61) = .bool false
  t46 : L 46 = true → (v 62) = .bool true
  t47 : L 47 = true → (v 63) = .bool true
  t48 : L 48 = true → (v 0) = .bool true
  bw : Below W0.heap.size W0 wx
set_option maxRecDepth 100000 in
set_option maxHeartbeats 6400000 in
theorem awakeC_any (w : World) : Calls Try.prog 12 #[] w fun e w' => e = .returned (.bool true) ∧ Below w.heap.size w w' := by
  have HR := Lib.hid (fun w => RangesC_any 3 7 w)
  have HL := Lib.hid (fun w => Leaves_any 2 7 w (by omega))
  have HP := Lib.hid (fun w a c (h : RdD w a 7 c sevenC) => ProofC_any sevenC 3 a 7 c w h (by omega))
  rw [sevenC_cL, sevenC_cE] at HR
  change Hid (∀ w, Calls _ _ _ w fun e w' => ∃ v, _ ∧ OwnD w' _ v sevenC ∧ _) at HL
  have hpl := sevenC_qlen
  have hp0 := sevenC_q0
  have hs2 := sevenC_at 2 (by omega)
  have hsl := sevenC_len
  have hsa : All32 sevenC := Leaves_all 2 7
  have hy := sevenC_yes
  have hn := sevenC_no
  have l2 : (lvF 2 2).length = 32 := shaL_len _
  have r3 : (rootF (sevenC.take 3)).length = 32 := rootF_len (hsa.take _)
  have r2 : (rootF (sevenC.take 2)).length = 32 := rootF_len (hsa.take _)
  have lr : (rootF sevenC).length = 32 := rootF_len hsa
  have HRT := Lib.hid (fun w a c (h : RdD w a 7 c sevenC) => Root_any 7 sevenC (by omega) a 7 c w (by omega) h)
  have HR3 := Lib.hid (fun w a c (h : RdD w a 3 c (sevenC.take 3)) => Root_any 3 (sevenC.take 3) (by simp; omega) a 3 c w (by omega) h)
  have HR2 := Lib.hid (fun w a c (h : RdD w a 2 c (sevenC.take 2)) => Root_any 2 (sevenC.take 2) (by simp; omega) a 2 c w (by omega) h)
  have HV3 := Lib.hid (fun w a c (h : RdD w a 4 c (qL sevenC 3)) => VerifyC_any 3 7 (rootF (sevenC.take 3)) (rootF sevenC) a 4 c (qL sevenC 3) w r3 lr h (by omega))
  have HV2 := Lib.hid (fun w a c (h : RdD w a 4 c (qL sevenC 3)) => VerifyC_any 3 7 (rootF (sevenC.take 2)) (rootF sevenC) a 4 c (qL sevenC 3) w r2 lr h (by omega))
  rw [hy] at HV3
  rw [hn] at HV2
  rw [show cE 3 7 = 0 from sevenC_cE] at HP
  clear hy hn
  generalize qL sevenC 3 = P at *
  generalize rootF (sevenC.take 3) = R3 at *
  generalize rootF (sevenC.take 2) = R2 at *
  generalize rootF sevenC = RT at *
  generalize lvF 2 2 = Y2 at *
  generalize sevenC = M at *
  have HPL := Lib.hid hpl
  have HML := Lib.hid hsl
  have HP0 := Lib.hid hp0
  have HS2 := Lib.hid hs2
  have L2 := Lib.hid l2
  have I2 : Hid ((Try.prog.info? 41).map (·.size) = some (bvs Y2).length) := by show _ = _; rw [bvs_len, l2]; exact sizeD
  clear hpl hsl hp0 hs2 l2 r3 r2 lr hsa
  go_enter Try.func12, Try.ntmps12
  go_upto_region 4 with (first
    | (go_at_call 10; refine (HR.out _).mono ?_; rintro e w1 ⟨v1, rfl, hO1, hb1⟩; obtain ⟨a1, c1, rfl, hR1, -⟩ := hO1.rd (by omega))
    | (go_at_call 25; refine (HL.out _).mono ?_; rintro e w2 ⟨v2, rfl, hO2, hb2⟩; obtain ⟨g3, c3, rfl, hg3, hg3'⟩ := hO2.solid (by rw [HML.out]; omega); have hRM := hO2.rdAt; rw [HML.out] at hRM ⊢)
    | (go_at_call 14; refine (HP.out _ _ _ hRM).mono ?_; rintro e w3 ⟨v3, rfl, hO3, hb3⟩; obtain ⟨g4, c4, rfl, hg4, hg4'⟩ := hO3.solid (by rw [HPL.out]; omega); have hRP := hO3.rdAt; rw [HPL.out] at hRP ⊢))
  have z1 := hb1.size
  have z2 := hb2.size
  have b13 : Below w1.heap.size w1 w3 := hb2.trans (hb3.mono z2)
  have b03 : Below w.heap.size w w3 := hb1.trans (b13.mono z1)
  have R1 := hR1.to b13
  have RM := hRM.to hb3
  have hc3 : (7 : Int) ≤ (c3 : Int) := by have := RM.le; omega
  have hc32 : (3 : Int) ≤ (c3 : Int) := by omega
  have hc33 : (2 : Int) ≤ (c3 : Int) := by omega
  have B03 := Lib.hid b03
  have HR1 : Hid (∀ wx, Below w3.heap.size w3 wx → RdG 2 encR wx a1 4 c1 [(2, 3), (3, 4), (0, 2), (4, 7)]) := fun wx hb => R1.to hb
  have HRM : Hid (∀ wx, Below w3.heap.size w3 wx → RdD wx (some ⟨g3, 0, none⟩) 7 c3 M) := fun wx hb => RM.to hb
  have HRP : Hid (∀ wx, Below w3.heap.size w3 wx → RdD wx (some ⟨g4, 0, none⟩) 4 c4 P) := fun wx hb => hRP.to hb
  have HSM : Hid (∀ wx (v : Value), Below w3.heap.size w3 wx → (∃ g, v = .slice (some ⟨g, 0, none⟩) 4 4 ∧ Arr wx g 59 (dcg encR [(2, 3), (3, 4), (0, 2), (4, 7)])) → Calls Try.prog 13 #[.slice a1 4 c1, v] wx fun e w' => e = .returned (.bool true) ∧ Below wx.heap.size wx w') := by
    rintro wx v hb ⟨g, rfl, hA⟩
    exact sameC_any [(2, 3), (3, 4), (0, 2), (4, 7)] a1 (some ⟨g, 0, none⟩) 4 c1 4 wx (HR1.out wx hb) (rdg_arr hA (fun x _ => encR_len x)) (by omega)
  have Q0 : Hid (∀ wx, Below w3.heap.size w3 wx → wx.rangeAt g4 0 (bvs Y2)) := fun wx hb => by
    have h := (HRP.out wx hb).range 0 (by omega)
    rw [HP0.out] at h
    simpa using h
  have Q2 : Hid (∀ wx, Below w3.heap.size w3 wx → wx.rangeAt g3 64 (bvs Y2)) := fun wx hb => by
    have h := (HRM.out wx hb).range 2 (by omega)
    rw [HS2.out] at h
    simpa using h
  have HV3' : Hid (∀ wx, Below w3.heap.size w3 wx → Calls Try.prog 19 #[.int .u64 3, .int .u64 7, .agg (bvs R3).toArray, .agg (bvs RT).toArray, .slice (some ⟨g4, 0, none⟩) 4 c4] wx fun e w' => e = .returned (.bool true) ∧ Below wx.heap.size wx w') := fun wx hb => HV3.out wx _ _ (HRP.out wx hb)
  have HV2' : Hid (∀ wx, Below w3.heap.size w3 wx → Calls Try.prog 19 #[.int .u64 3, .int .u64 7, .agg (bvs R2).toArray, .agg (bvs RT).toArray, .slice (some ⟨g4, 0, none⟩) 4 c4] wx fun e w' => e = .returned (.bool false) ∧ Below wx.heap.size wx w') := fun wx hb => HV2.out wx _ _ (HRP.out wx hb)
  have HRT' : Hid (∀ wx, Below w3.heap.size w3 wx → Calls Try.prog 21 #[.slice (some ⟨g3, 0, none⟩) 7 c3] wx fun e w' => e = .returned (.agg (bvs RT).toArray) ∧ Below wx.heap.size wx w') := fun wx hb => HRT.out wx _ _ (HRM.out wx hb)
  have HR3' : Hid (∀ wx, Below w3.heap.size w3 wx → Calls Try.prog 21 #[.slice (some ⟨g3, 0, none⟩) 3 c3] wx fun e w' => e = .returned (.agg (bvs R3).toArray) ∧ Below wx.heap.size wx w') := fun wx hb => HR3.out wx _ _ ((HRM.out wx hb).take 3 (by omega))
  have HR2' : Hid (∀ wx, Below w3.heap.size w3 wx → Calls Try.prog 21 #[.slice (some ⟨g3, 0, none⟩) 2 c3] wx fun e w' => e = .returned (.agg (bvs R2).toArray) ∧ Below wx.heap.size wx w') := fun wx hb => HR2.out wx _ _ ((HRM.out wx hb).take 2 (by omega))
  clear hO1 hb1 hR1 hO2 hb2 hg3 hg3' hRM hO3 hb3 hg4 hg4' hRP z1 z2 b13 b03 R1 RM
  go_simp
  refine wp_region_steps [[], [0], [1], [2], [2], [2], [2], [2], [4, 5, 6, 7, 2], [3, 8, 2], [2, 9], [10], [11], [12, 11], [11, 13], [14], [15], [16, 15], [17, 15], [15, 18], [19], [20], [21, 20], [22, 20], [20], [24, 20], [25, 20], [23, 26, 20], [20, 27], [28], [29], [30, 29], [31, 29], [29], [33, 29], [29], [32, 34, 35, 29], [29, 36], [37], [38], [39, 38], [40, 38], [38], [42, 38], [38], [41, 43, 44, 38], [45, 38], [38, 46], [47]] (by kernel_rfl) (by kernel_rfl) (fun L a wx => ∃ v : Nat → Value, a = ⟨#[v 0, .slice a1 4 c1, .int .i64 0, .slice (some ⟨g3, 0, none⟩) 7 c3, .slice (some ⟨g4, 0, none⟩) 4 c4, .int .i64 0, .tuple #[.slice a1 4 c1, .int .i64 0], .tuple #[.slice a1 4 c1, .int .i64 0], .slice a1 4 c1, .int .i64 0, .slice (some ⟨g3, 0, none⟩) 7 c3, .tuple #[.slice (some ⟨g4, 0, none⟩) 4 c4, .int .i64 0], .slice (some ⟨g3, 0, none⟩) 7 c3, .tuple #[.slice (some ⟨g4, 0, none⟩) 4 c4, .int .i64 0], .slice (some ⟨g4, 0, none⟩) 4 c4, .int .i64 0, v 16, v 17, v 18, v 19, v 20, v 21, v 22, v 23, v 24, v 25, v 26, v 27, v 28, v 29, v 30, v 31, v 32, v 33, v 34, v 35, v 36, v 37, v 38, v 39, v 40, v 41, v 42, v 43, v 44, v 45, v 46, v 47, v 48, v 49, v 50, v 51, v 52, v 53, v 54, v 55, v 56, v 57, v 58, v 59, v 60, v 61, v 62, v 63], []⟩ ∧ InvAwakeC Y2 R2 R3 RT M P a1 c1 g3 c3 g4 c4 w3 L v wx) ?_ ⟨?_, ?_, ?_, ?_, ?_, ?_, ?_, ?_, ?_, ?_, ?_, ?_, ?_, ?_, ?_, ?_, ?_, ?_, ?_, ?_, ?_, ?_, ?_, ?_, ?_, ?_, ?_, ?_, ?_, ?_, ?_, ?_, ?_, ?_, ?_, ?_, ?_, ?_, ?_, ?_, ?_, ?_, ?_, ?_, ?_, ?_, ?_, ?_, ?_, trivial⟩ ?_
  · refine ⟨upd (fun _ => undef) 0 (.bool false), rfl, ⟨?_, ?_, ?_, ?_, ?_, ?_, ?_, ?_, ?_, ?_, ?_, ?_, ?_, ?_, ?_, ?_, ?_, ?_, ?_, ?_, ?_, ?_, ?_, ?_, ?_, ?_, ?_, ?_, ?_, ?_, ?_, ?_, ?_, ?_, ?_, ?_, ?_, ?_, ?_, ?_, ?_, ?_, ?_, ?_, ?_, ?_, ?_, ?_, ?_, (Below.refl _ _).drew⟩⟩ <;> (intro h; exact absurd h (by decide))
  · rintro L a wx ⟨v, rfl, hI⟩ hL hdep hcl K hK
    go_simp
    exact hK _ _ ⟨(upd v 16 (.int .i64 0)), rfl, ⟨fun _ => rfl, hI.t1, hI.t2, hI.t3, hI.t4, hI.t5, hI.t6, hI.t7, hI.t8, hI.t9, hI.t10, hI.t11, hI.t12, hI.t13, hI.t14, hI.t15, hI.t16, hI.t17, hI.t18, hI.t19, hI.t20, hI.t21, hI.t22, hI.t23, hI.t24, hI.t25, hI.t26, hI.t27, hI.t28, hI.t29, hI.t30, hI.t31, hI.t32, hI.t33, hI.t34, hI.t35, hI.t36, hI.t37, hI.t38, hI.t39, hI.t40, hI.t41, hI.t42, hI.t43, hI.t44, hI.t45, hI.t46, hI.t47, hI.t48, hI.bw⟩⟩
  · rintro L a wx ⟨v, rfl, hI⟩ hL hdep hcl K hK
    have e0 := hI.t0 (hdep 0 (by decide))
    rw [e0]
    go_simp
    exact hK _ _ ⟨(upd (upd v 16 (.int .i64 0)) 17 (.bool true)), rfl, ⟨fun _ => rfl, fun _ => rfl, hI.t2, hI.t3, hI.t4, hI.t5, hI.t6, hI.t7, hI.t8, hI.t9, hI.t10, hI.t11, hI.t12, hI.t13, hI.t14, hI.t15, hI.t16, hI.t17, hI.t18, hI.t19, hI.t20, hI.t21, hI.t22, hI.t23, hI.t24, hI.t25, hI.t26, hI.t27, hI.t28, hI.t29, hI.t30, hI.t31, hI.t32, hI.t33, hI.t34, hI.t35, hI.t36, hI.t37, hI.t38, hI.t39, hI.t40, hI.t41, hI.t42, hI.t43, hI.t44, hI.t45, hI.t46, hI.t47, hI.t48, hI.bw⟩⟩
  · rintro L a wx ⟨v, rfl, hI⟩ hL hdep hcl K hK
    have e1 := hI.t1 (hdep 1 (by decide))
    rw [e1]
    go_simp
    exact hK _ _ ⟨(upd (upd v 17 (.bool true)) 18 (.bool true)), rfl, ⟨hI.t0, fun _ => rfl, fun _ => rfl, hI.t3, hI.t4, hI.t5, hI.t6, hI.t7, hI.t8, hI.t9, hI.t10, hI.t11, hI.t12, hI.t13, hI.t14, hI.t15, hI.t16, hI.t17, hI.t18, hI.t19, hI.t20, hI.t21, hI.t22, hI.t23, hI.t24, hI.t25, hI.t26, hI.t27, hI.t28, hI.t29, hI.t30, hI.t31, hI.t32, hI.t33, hI.t34, hI.t35, hI.t36, hI.t37, hI.t38, hI.t39, hI.t40, hI.t41, hI.t42, hI.t43, hI.t44, hI.t45, hI.t46, hI.t47, hI.t48, hI.bw⟩⟩
  · rintro L a wx ⟨v, rfl, hI⟩ hL hdep hcl K hK
    have e2 := hI.t2 (hdep 2 (by decide))
    rw [e2]
    refine (if_pos rfl).mpr ?_
    go_simp
    exact hK _ _ ⟨(upd (upd v 18 (.bool true)) 19 (.slice a1 4 c1)), rfl, ⟨hI.t0, hI.t1, fun _ => rfl, fun _ => rfl, hI.t4, hI.t5, hI.t6, hI.t7, hI.t8, hI.t9, hI.t10, hI.t11, hI.t12, hI.t13, hI.t14, hI.t15, hI.t16, hI.t17, hI.t18, hI.t19, hI.t20, hI.t21, hI.t22, hI.t23, hI.t24, hI.t25, hI.t26, hI.t27, hI.t28, hI.t29, hI.t30, hI.t31, hI.t32, hI.t33, hI.t34, hI.t35, hI.t36, hI.t37, hI.t38, hI.t39, hI.t40, hI.t41, hI.t42, hI.t43, hI.t44, hI.t45, hI.t46, hI.t47, hI.t48, hI.bw⟩⟩
  · rintro L a wx ⟨v, rfl, hI⟩ hL hdep hcl K hK
    have e2 := hI.t2 (hdep 2 (by decide))
    rw [e2]
    refine (if_pos rfl).mpr ?_
    refine ow_build 59 _ rfl #[.int .u64 2, .int .u64 3] (by simpa [Act.eval] using builtRd 2 3) ?_
    exact hK _ _ ⟨(upd (upd v 18 (.bool true)) 20 (.agg #[.int .u64 2, .int .u64 3])), rfl, ⟨hI.t0, hI.t1, fun _ => rfl, hI.t3, fun _ => rfl, hI.t5, hI.t6, hI.t7, hI.t8, hI.t9, hI.t10, hI.t11, hI.t12, hI.t13, hI.t14, hI.t15, hI.t16, hI.t17, hI.t18, hI.t19, hI.t20, hI.t21, hI.t22, hI.t23, hI.t24, hI.t25, hI.t26, hI.t27, hI.t28, hI.t29, hI.t30, hI.t31, hI.t32, hI.t33, hI.t34, hI.t35, hI.t36, hI.t37, hI.t38, hI.t39, hI.t40, hI.t41, hI.t42, hI.t43, hI.t44, hI.t45, hI.t46, hI.t47, hI.t48, hI.bw⟩⟩
  · rintro L a wx ⟨v, rfl, hI⟩ hL hdep hcl K hK
    have e2 := hI.t2 (hdep 2 (by decide))
    rw [e2]
    refine (if_pos rfl).mpr ?_
    refine ow_build 59 _ rfl #[.int .u64 3, .int .u64 4] (by simpa [Act.eval] using builtRd 3 4) ?_
    exact hK _ _ ⟨(upd (upd v 18 (.bool true)) 21 (.agg #[.int .u64 3, .int .u64 4])), rfl, ⟨hI.t0, hI.t1, fun _ => rfl, hI.t3, hI.t4, fun _ => rfl, hI.t6, hI.t7, hI.t8, hI.t9, hI.t10, hI.t11, hI.t12, hI.t13, hI.t14, hI.t15, hI.t16, hI.t17, hI.t18, hI.t19, hI.t20, hI.t21, hI.t22, hI.t23, hI.t24, hI.t25, hI.t26, hI.t27, hI.t28, hI.t29, hI.t30, hI.t31, hI.t32, hI.t33, hI.t34, hI.t35, hI.t36, hI.t37, hI.t38, hI.t39, hI.t40, hI.t41, hI.t42, hI.t43, hI.t44, hI.t45, hI.t46, hI.t47, hI.t48, hI.bw⟩⟩
  · rintro L a wx ⟨v, rfl, hI⟩ hL hdep hcl K hK
    have e2 := hI.t2 (hdep 2 (by decide))
    rw [e2]
    refine (if_pos rfl).mpr ?_
    refine ow_build 59 _ rfl #[.int .u64 0, .int .u64 2] (by simpa [Act.eval] using builtRd 0 2) ?_
    exact hK _ _ ⟨(upd (upd v 18 (.bool true)) 22 (.agg #[.int .u64 0, .int .u64 2])), rfl, ⟨hI.t0, hI.t1, fun _ => rfl, hI.t3, hI.t4, hI.t5, fun _ => rfl, hI.t7, hI.t8, hI.t9, hI.t10, hI.t11, hI.t12, hI.t13, hI.t14, hI.t15, hI.t16, hI.t17, hI.t18, hI.t19, hI.t20, hI.t21, hI.t22, hI.t23, hI.t24, hI.t25, hI.t26, hI.t27, hI.t28, hI.t29, hI.t30, hI.t31, hI.t32, hI.t33, hI.t34, hI.t35, hI.t36, hI.t37, hI.t38, hI.t39, hI.t40, hI.t41, hI.t42, hI.t43, hI.t44, hI.t45, hI.t46, hI.t47, hI.t48, hI.bw⟩⟩
  · rintro L a wx ⟨v, rfl, hI⟩ hL hdep hcl K hK
    have e2 := hI.t2 (hdep 2 (by decide))
    rw [e2]
    refine (if_pos rfl).mpr ?_
    refine ow_build 59 _ rfl #[.int .u64 4, .int .u64 7] (by simpa [Act.eval] using builtRd 4 7) ?_
    exact hK _ _ ⟨(upd (upd v 18 (.bool true)) 23 (.agg #[.int .u64 4, .int .u64 7])), rfl, ⟨hI.t0, hI.t1, fun _ => rfl, hI.t3, hI.t4, hI.t5, hI.t6, fun _ => rfl, hI.t8, hI.t9, hI.t10, hI.t11, hI.t12, hI.t13, hI.t14, hI.t15, hI.t16, hI.t17, hI.t18, hI.t19, hI.t20, hI.t21, hI.t22, hI.t23, hI.t24, hI.t25, hI.t26, hI.t27, hI.t28, hI.t29, hI.t30, hI.t31, hI.t32, hI.t33, hI.t34, hI.t35, hI.t36, hI.t37, hI.t38, hI.t39, hI.t40, hI.t41, hI.t42, hI.t43, hI.t44, hI.t45, hI.t46, hI.t47, hI.t48, hI.bw⟩⟩
  · rintro L a wx ⟨v, rfl, hI⟩ hL hdep hcl K hK
    have e4 := hI.t4 (hdep 4 (by decide))
    have e5 := hI.t5 (hdep 5 (by decide))
    have e6 := hI.t6 (hdep 6 (by decide))
    have e7 := hI.t7 (hdep 7 (by decide))
    have e2 := hI.t2 (hdep 2 (by decide))
    rw [e4, e5, e6, e7, e2]
    refine (if_pos rfl).mpr ?_
    go_simp
    have hb : Below wx.heap.size wx (wx.alloc (.cells #[.int .u64 2, .int .u64 3, .int .u64 3, .int .u64 4, .int .u64 0, .int .u64 2, .int .u64 4, .int .u64 7] 59)) := (Below.refl _ _).alloc (Nat.le_refl _) _
    have hA : Arr (wx.alloc (.cells #[.int .u64 2, .int .u64 3, .int .u64 3, .int .u64 4, .int .u64 0, .int .u64 2, .int .u64 4, .int .u64 7] 59)) wx.heap.size 59 (dcg encR [(2, 3), (3, 4), (0, 2), (4, 7)]) := Arr.new wx 59 (dcg encR [(2, 3), (3, 4), (0, 2), (4, 7)])
    exact hK _ _ ⟨(upd (upd (upd (upd (upd (upd v 20 (.agg #[.int .u64 2, .int .u64 3])) 21 (.agg #[.int .u64 3, .int .u64 4])) 22 (.agg #[.int .u64 0, .int .u64 2])) 23 (.agg #[.int .u64 4, .int .u64 7])) 18 (.bool true)) 24 (_)), rfl, ⟨hI.t0, hI.t1, fun _ => rfl, hI.t3, fun _ => rfl, fun _ => rfl, fun _ => rfl, fun _ => rfl, fun _ => ⟨_, rfl, hA⟩, hI.t9, hI.t10, hI.t11, hI.t12, hI.t13, hI.t14, hI.t15, hI.t16, hI.t17, hI.t18, hI.t19, hI.t20, hI.t21, hI.t22, hI.t23, hI.t24, hI.t25, hI.t26, hI.t27, hI.t28, hI.t29, hI.t30, hI.t31, hI.t32, hI.t33, hI.t34, hI.t35, hI.t36, hI.t37, hI.t38, hI.t39, hI.t40, hI.t41, hI.t42, hI.t43, hI.t44, hI.t45, hI.t46, hI.t47, hI.t48, (hI.bw).trans (hb.mono (hI.bw).size)⟩⟩
  · rintro L a wx ⟨v, rfl, hI⟩ hL hdep hcl K hK
    have e3 := hI.t3 (hdep 3 (by decide))
    have e2 := hI.t2 (hdep 2 (by decide))
    rw [e3, e2]
    refine (if_pos rfl).mpr ?_
    have HC := HSM.out wx (v 24) hI.bw (hI.t8 (hdep 8 (by decide)))
    go_simp
    refine HC.mono ?_
    rintro e w' ⟨rfl, hb⟩
    exact hK _ _ ⟨(upd (upd (upd v 19 (.slice a1 4 c1)) 18 (.bool true)) 25 (.bool true)), rfl, ⟨hI.t0, hI.t1, fun _ => rfl, fun _ => rfl, hI.t4, hI.t5, hI.t6, hI.t7, fun h => by obtain ⟨g, e, h1⟩ := hI.t8 h; exact ⟨g, e, h1.kept hb⟩, fun _ => rfl, hI.t10, hI.t11, hI.t12, hI.t13, hI.t14, hI.t15, hI.t16, hI.t17, hI.t18, hI.t19, hI.t20, hI.t21, hI.t22, hI.t23, hI.t24, hI.t25, hI.t26, hI.t27, hI.t28, hI.t29, hI.t30, hI.t31, hI.t32, hI.t33, hI.t34, hI.t35, hI.t36, hI.t37, hI.t38, hI.t39, hI.t40, hI.t41, hI.t42, hI.t43, hI.t44, hI.t45, hI.t46, hI.t47, hI.t48, (hI.bw).trans (hb.mono (hI.bw).size)⟩⟩
  · rintro L a wx ⟨v, rfl, hI⟩ hL hdep hcl K hK
    have e2 := hI.t2 (hdep 2 (by decide))
    have e9 := hI.t9 (hdep 9 (by decide))
    rw [e2, e9]
    go_simp
    exact hK _ _ ⟨(upd (upd (upd v 18 (.bool true)) 25 (.bool true)) 26 (.bool true)), rfl, ⟨hI.t0, hI.t1, fun _ => rfl, hI.t3, hI.t4, hI.t5, hI.t6, hI.t7, hI.t8, fun _ => rfl, fun _ => rfl, hI.t11, hI.t12, hI.t13, hI.t14, hI.t15, hI.t16, hI.t17, hI.t18, hI.t19, hI.t20, hI.t21, hI.t22, hI.t23, hI.t24, hI.t25, hI.t26, hI.t27, hI.t28, hI.t29, hI.t30, hI.t31, hI.t32, hI.t33, hI.t34, hI.t35, hI.t36, hI.t37, hI.t38, hI.t39, hI.t40, hI.t41, hI.t42, hI.t43, hI.t44, hI.t45, hI.t46, hI.t47, hI.t48, hI.bw⟩⟩
  · rintro L a wx ⟨v, rfl, hI⟩ hL hdep hcl K hK
    have e10 := hI.t10 (hdep 10 (by decide))
    rw [e10]
    go_simp
    exact hK _ _ ⟨(upd (upd v 26 (.bool true)) 27 (.bool true)), rfl, ⟨hI.t0, hI.t1, hI.t2, hI.t3, hI.t4, hI.t5, hI.t6, hI.t7, hI.t8, hI.t9, fun _ => rfl, fun _ => rfl, hI.t12, hI.t13, hI.t14, hI.t15, hI.t16, hI.t17, hI.t18, hI.t19, hI.t20, hI.t21, hI.t22, hI.t23, hI.t24, hI.t25, hI.t26, hI.t27, hI.t28, hI.t29, hI.t30, hI.t31, hI.t32, hI.t33, hI.t34, hI.t35, hI.t36, hI.t37, hI.t38, hI.t39, hI.t40, hI.t41, hI.t42, hI.t43, hI.t44, hI.t45, hI.t46, hI.t47, hI.t48, hI.bw⟩⟩
  · rintro L a wx ⟨v, rfl, hI⟩ hL hdep hcl K hK
    have e11 := hI.t11 (hdep 11 (by decide))
    rw [e11]
    refine (if_pos rfl).mpr ?_
    go_simp
    exact hK _ _ ⟨(upd (upd v 27 (.bool true)) 28 (.int .i64 0)), rfl, ⟨hI.t0, hI.t1, hI.t2, hI.t3, hI.t4, hI.t5, hI.t6, hI.t7, hI.t8, hI.t9, hI.t10, fun _ => rfl, fun _ => rfl, hI.t13, hI.t14, hI.t15, hI.t16, hI.t17, hI.t18, hI.t19, hI.t20, hI.t21, hI.t22, hI.t23, hI.t24, hI.t25, hI.t26, hI.t27, hI.t28, hI.t29, hI.t30, hI.t31, hI.t32, hI.t33, hI.t34, hI.t35, hI.t36, hI.t37, hI.t38, hI.t39, hI.t40, hI.t41, hI.t42, hI.t43, hI.t44, hI.t45, hI.t46, hI.t47, hI.t48, hI.bw⟩⟩
  · rintro L a wx ⟨v, rfl, hI⟩ hL hdep hcl K hK
    have e12 := hI.t12 (hdep 12 (by decide))
    have e11 := hI.t11 (hdep 11 (by decide))
    rw [e12, e11]
    refine (if_pos rfl).mpr ?_
    go_simp
    exact hK _ _ ⟨(upd (upd (upd v 28 (.int .i64 0)) 27 (.bool true)) 29 (.bool true)), rfl, ⟨hI.t0, hI.t1, hI.t2, hI.t3, hI.t4, hI.t5, hI.t6, hI.t7, hI.t8, hI.t9, hI.t10, fun _ => rfl, fun _ => rfl, fun _ => rfl, hI.t14, hI.t15, hI.t16, hI.t17, hI.t18, hI.t19, hI.t20, hI.t21, hI.t22, hI.t23, hI.t24, hI.t25, hI.t26, hI.t27, hI.t28, hI.t29, hI.t30, hI.t31, hI.t32, hI.t33, hI.t34, hI.t35, hI.t36, hI.t37, hI.t38, hI.t39, hI.t40, hI.t41, hI.t42, hI.t43, hI.t44, hI.t45, hI.t46, hI.t47, hI.t48, hI.bw⟩⟩
  · rintro L a wx ⟨v, rfl, hI⟩ hL hdep hcl K hK
    have e11 := hI.t11 (hdep 11 (by decide))
    have e13 := hI.t13 (hdep 13 (by decide))
    rw [e11, e13]
    go_simp
    exact hK _ _ ⟨(upd (upd (upd v 27 (.bool true)) 29 (.bool true)) 30 (.bool true)), rfl, ⟨hI.t0, hI.t1, hI.t2, hI.t3, hI.t4, hI.t5, hI.t6, hI.t7, hI.t8, hI.t9, hI.t10, fun _ => rfl, hI.t12, fun _ => rfl, fun _ => rfl, hI.t15, hI.t16, hI.t17, hI.t18, hI.t19, hI.t20, hI.t21, hI.t22, hI.t23, hI.t24, hI.t25, hI.t26, hI.t27, hI.t28, hI.t29, hI.t30, hI.t31, hI.t32, hI.t33, hI.t34, hI.t35, hI.t36, hI.t37, hI.t38, hI.t39, hI.t40, hI.t41, hI.t42, hI.t43, hI.t44, hI.t45, hI.t46, hI.t47, hI.t48, hI.bw⟩⟩
  · rintro L a wx ⟨v, rfl, hI⟩ hL hdep hcl K hK
    have e14 := hI.t14 (hdep 14 (by decide))
    rw [e14]
    go_simp
    exact hK _ _ ⟨(upd (upd v 30 (.bool true)) 31 (.bool true)), rfl, ⟨hI.t0, hI.t1, hI.t2, hI.t3, hI.t4, hI.t5, hI.t6, hI.t7, hI.t8, hI.t9, hI.t10, hI.t11, hI.t12, hI.t13, fun _ => rfl, fun _ => rfl, hI.t16, hI.t17, hI.t18, hI.t19, hI.t20, hI.t21, hI.t22, hI.t23, hI.t24, hI.t25, hI.t26, hI.t27, hI.t28, hI.t29, hI.t30, hI.t31, hI.t32, hI.t33, hI.t34, hI.t35, hI.t36, hI.t37, hI.t38, hI.t39, hI.t40, hI.t41, hI.t42, hI.t43, hI.t44, hI.t45, hI.t46, hI.t47, hI.t48, hI.bw⟩⟩
  · rintro L a wx ⟨v, rfl, hI⟩ hL hdep hcl K hK
    have e15 := hI.t15 (hdep 15 (by decide))
    rw [e15]
    refine (if_pos rfl).mpr ?_
    go_simp
    exact hK _ _ ⟨(upd (upd v 31 (.bool true)) 32 (.slice (some ⟨g4, 0, none⟩) 4 c4)), rfl, ⟨hI.t0, hI.t1, hI.t2, hI.t3, hI.t4, hI.t5, hI.t6, hI.t7, hI.t8, hI.t9, hI.t10, hI.t11, hI.t12, hI.t13, hI.t14, fun _ => rfl, fun _ => rfl, hI.t17, hI.t18, hI.t19, hI.t20, hI.t21, hI.t22, hI.t23, hI.t24, hI.t25, hI.t26, hI.t27, hI.t28, hI.t29, hI.t30, hI.t31, hI.t32, hI.t33, hI.t34, hI.t35, hI.t36, hI.t37, hI.t38, hI.t39, hI.t40, hI.t41, hI.t42, hI.t43, hI.t44, hI.t45, hI.t46, hI.t47, hI.t48, hI.bw⟩⟩
  · rintro L a wx ⟨v, rfl, hI⟩ hL hdep hcl K hK
    have e16 := hI.t16 (hdep 16 (by decide))
    have e15 := hI.t15 (hdep 15 (by decide))
    rw [e16, e15]
    refine (if_pos rfl).mpr ?_
    go_simp
    exact hK _ _ ⟨(upd (upd (upd v 32 (.slice (some ⟨g4, 0, none⟩) 4 c4)) 31 (.bool true)) 33 (.int .i64 4)), rfl, ⟨hI.t0, hI.t1, hI.t2, hI.t3, hI.t4, hI.t5, hI.t6, hI.t7, hI.t8, hI.t9, hI.t10, hI.t11, hI.t12, hI.t13, hI.t14, fun _ => rfl, fun _ => rfl, fun _ => rfl, hI.t18, hI.t19, hI.t20, hI.t21, hI.t22, hI.t23, hI.t24, hI.t25, hI.t26, hI.t27, hI.t28, hI.t29, hI.t30, hI.t31, hI.t32, hI.t33, hI.t34, hI.t35, hI.t36, hI.t37, hI.t38, hI.t39, hI.t40, hI.t41, hI.t42, hI.t43, hI.t44, hI.t45, hI.t46, hI.t47, hI.t48, hI.bw⟩⟩
  · rintro L a wx ⟨v, rfl, hI⟩ hL hdep hcl K hK
    have e17 := hI.t17 (hdep 17 (by decide))
    have e15 := hI.t15 (hdep 15 (by decide))
    rw [e17, e15]
    refine (if_pos rfl).mpr ?_
    go_simp
    exact hK _ _ ⟨(upd (upd (upd v 33 (.int .i64 4)) 31 (.bool true)) 34 (.bool true)), rfl, ⟨hI.t0, hI.t1, hI.t2, hI.t3, hI.t4, hI.t5, hI.t6, hI.t7, hI.t8, hI.t9, hI.t10, hI.t11, hI.t12, hI.t13, hI.t14, fun _ => rfl, hI.t16, fun _ => rfl, fun _ => rfl, hI.t19, hI.t20, hI.t21, hI.t22, hI.t23, hI.t24, hI.t25, hI.t26, hI.t27, hI.t28, hI.t29, hI.t30, hI.t31, hI.t32, hI.t33, hI.t34, hI.t35, hI.t36, hI.t37, hI.t38, hI.t39, hI.t40, hI.t41, hI.t42, hI.t43, hI.t44, hI.t45, hI.t46, hI.t47, hI.t48, hI.bw⟩⟩
  · rintro L a wx ⟨v, rfl, hI⟩ hL hdep hcl K hK
    have e15 := hI.t15 (hdep 15 (by decide))
    have e18 := hI.t18 (hdep 18 (by decide))
    rw [e15, e18]
    go_simp
    exact hK _ _ ⟨(upd (upd (upd v 31 (.bool true)) 34 (.bool true)) 35 (.bool true)), rfl, ⟨hI.t0, hI.t1, hI.t2, hI.t3, hI.t4, hI.t5, hI.t6, hI.t7, hI.t8, hI.t9, hI.t10, hI.t11, hI.t12, hI.t13, hI.t14, fun _ => rfl, hI.t16, hI.t17, fun _ => rfl, fun _ => rfl, hI.t20, hI.t21, hI.t22, hI.t23, hI.t24, hI.t25, hI.t26, hI.t27, hI.t28, hI.t29, hI.t30, hI.t31, hI.t32, hI.t33, hI.t34, hI.t35, hI.t36, hI.t37, hI.t38, hI.t39, hI.t40, hI.t41, hI.t42, hI.t43, hI.t44, hI.t45, hI.t46, hI.t47, hI.t48, hI.bw⟩⟩
  · rintro L a wx ⟨v, rfl, hI⟩ hL hdep hcl K hK
    have e19 := hI.t19 (hdep 19 (by decide))
    rw [e19]
    go_simp
    exact hK _ _ ⟨(upd (upd v 35 (.bool true)) 36 (.bool true)), rfl, ⟨hI.t0, hI.t1, hI.t2, hI.t3, hI.t4, hI.t5, hI.t6, hI.t7, hI.t8, hI.t9, hI.t10, hI.t11, hI.t12, hI.t13, hI.t14, hI.t15, hI.t16, hI.t17, hI.t18, fun _ => rfl, fun _ => rfl, hI.t21, hI.t22, hI.t23, hI.t24, hI.t25, hI.t26, hI.t27, hI.t28, hI.t29, hI.t30, hI.t31, hI.t32, hI.t33, hI.t34, hI.t35, hI.t36, hI.t37, hI.t38, hI.t39, hI.t40, hI.t41, hI.t42, hI.t43, hI.t44, hI.t45, hI.t46, hI.t47, hI.t48, hI.bw⟩⟩
  · rintro L a wx ⟨v, rfl, hI⟩ hL hdep hcl K hK
    have e20 := hI.t20 (hdep 20 (by decide))
    rw [e20]
    refine (if_pos rfl).mpr ?_
    go_simp
    exact hK _ _ ⟨(upd (upd v 36 (.bool true)) 37 (.slice (some ⟨g4, 0, none⟩) 4 c4)), rfl, ⟨hI.t0, hI.t1, hI.t2, hI.t3, hI.t4, hI.t5, hI.t6, hI.t7, hI.t8, hI.t9, hI.t10, hI.t11, hI.t12, hI.t13, hI.t14, hI.t15, hI.t16, hI.t17, hI.t18, hI.t19, fun _ => rfl, fun _ => rfl, hI.t22, hI.t23, hI.t24, hI.t25, hI.t26, hI.t27, hI.t28, hI.t29, hI.t30, hI.t31, hI.t32, hI.t33, hI.t34, hI.t35, hI.t36, hI.t37, hI.t38, hI.t39, hI.t40, hI.t41, hI.t42, hI.t43, hI.t44, hI.t45, hI.t46, hI.t47, hI.t48, hI.bw⟩⟩
  · rintro L a wx ⟨v, rfl, hI⟩ hL hdep hcl K hK
    have e21 := hI.t21 (hdep 21 (by decide))
    have e20 := hI.t20 (hdep 20 (by decide))
    rw [e21, e20]
    refine (if_pos rfl).mpr ?_
    go_simp
    exact hK _ _ ⟨(upd (upd (upd v 37 (.slice (some ⟨g4, 0, none⟩) 4 c4)) 36 (.bool true)) 38 (.pointer (some ⟨g4, 0, none⟩))), rfl, ⟨hI.t0, hI.t1, hI.t2, hI.t3, hI.t4, hI.t5, hI.t6, hI.t7, hI.t8, hI.t9, hI.t10, hI.t11, hI.t12, hI.t13, hI.t14, hI.t15, hI.t16, hI.t17, hI.t18, hI.t19, fun _ => rfl, fun _ => rfl, fun _ => rfl, hI.t23, hI.t24, hI.t25, hI.t26, hI.t27, hI.t28, hI.t29, hI.t30, hI.t31, hI.t32, hI.t33, hI.t34, hI.t35, hI.t36, hI.t37, hI.t38, hI.t39, hI.t40, hI.t41, hI.t42, hI.t43, hI.t44, hI.t45, hI.t46, hI.t47, hI.t48, hI.bw⟩⟩
  · rintro L a wx ⟨v, rfl, hI⟩ hL hdep hcl K hK
    have e22 := hI.t22 (hdep 22 (by decide))
    have e20 := hI.t20 (hdep 20 (by decide))
    rw [e22, e20]
    refine (if_pos rfl).mpr ?_
    refine wp_load_mid 41 _ rfl g4 0 rfl (bvs Y2) (.array 32 5) (Q0.out wx hI.bw) Try.underlying41 rfl I2.out ?_
    exact hK _ _ ⟨(upd (upd (upd v 38 (.pointer (some ⟨g4, 0, none⟩))) 36 (.bool true)) 39 (.agg (bvs Y2).toArray)), rfl, ⟨hI.t0, hI.t1, hI.t2, hI.t3, hI.t4, hI.t5, hI.t6, hI.t7, hI.t8, hI.t9, hI.t10, hI.t11, hI.t12, hI.t13, hI.t14, hI.t15, hI.t16, hI.t17, hI.t18, hI.t19, fun _ => rfl, hI.t21, fun _ => rfl, fun _ => rfl, hI.t24, hI.t25, hI.t26, hI.t27, hI.t28, hI.t29, hI.t30, hI.t31, hI.t32, hI.t33, hI.t34, hI.t35, hI.t36, hI.t37, hI.t38, hI.t39, hI.t40, hI.t41, hI.t42, hI.t43, hI.t44, hI.t45, hI.t46, hI.t47, hI.t48, hI.bw⟩⟩
  · rintro L a wx ⟨v, rfl, hI⟩ hL hdep hcl K hK
    have e20 := hI.t20 (hdep 20 (by decide))
    rw [e20]
    refine (if_pos rfl).mpr ?_
    go_simp
    exact hK _ _ ⟨(upd (upd v 36 (.bool true)) 40 (.slice (some ⟨g3, 0, none⟩) 7 c3)), rfl, ⟨hI.t0, hI.t1, hI.t2, hI.t3, hI.t4, hI.t5, hI.t6, hI.t7, hI.t8, hI.t9, hI.t10, hI.t11, hI.t12, hI.t13, hI.t14, hI.t15, hI.t16, hI.t17, hI.t18, hI.t19, fun _ => rfl, hI.t21, hI.t22, hI.t23, fun _ => rfl, hI.t25, hI.t26, hI.t27, hI.t28, hI.t29, hI.t30, hI.t31, hI.t32, hI.t33, hI.t34, hI.t35, hI.t36, hI.t37, hI.t38, hI.t39, hI.t40, hI.t41, hI.t42, hI.t43, hI.t44, hI.t45, hI.t46, hI.t47, hI.t48, hI.bw⟩⟩
  · rintro L a wx ⟨v, rfl, hI⟩ hL hdep hcl K hK
    have e24 := hI.t24 (hdep 24 (by decide))
    have e20 := hI.t20 (hdep 20 (by decide))
    rw [e24, e20]
    refine (if_pos rfl).mpr ?_
    go_simp
    exact hK _ _ ⟨(upd (upd (upd v 40 (.slice (some ⟨g3, 0, none⟩) 7 c3)) 36 (.bool true)) 41 (.pointer (some ⟨g3, 64, none⟩))), rfl, ⟨hI.t0, hI.t1, hI.t2, hI.t3, hI.t4, hI.t5, hI.t6, hI.t7, hI.t8, hI.t9, hI.t10, hI.t11, hI.t12, hI.t13, hI.t14, hI.t15, hI.t16, hI.t17, hI.t18, hI.t19, fun _ => rfl, hI.t21, hI.t22, hI.t23, fun _ => rfl, fun _ => rfl, hI.t26, hI.t27, hI.t28, hI.t29, hI.t30, hI.t31, hI.t32, hI.t33, hI.t34, hI.t35, hI.t36, hI.t37, hI.t38, hI.t39, hI.t40, hI.t41, hI.t42, hI.t43, hI.t44, hI.t45, hI.t46, hI.t47, hI.t48, hI.bw⟩⟩
  · rintro L a wx ⟨v, rfl, hI⟩ hL hdep hcl K hK
    have e25 := hI.t25 (hdep 25 (by decide))
    have e20 := hI.t20 (hdep 20 (by decide))
    rw [e25, e20]
    refine (if_pos rfl).mpr ?_
    refine wp_load_mid 41 _ rfl g3 64 rfl (bvs Y2) (.array 32 5) (Q2.out wx hI.bw) Try.underlying41 rfl I2.out ?_
    exact hK _ _ ⟨(upd (upd (upd v 41 (.pointer (some ⟨g3, 64, none⟩))) 36 (.bool true)) 42 (.agg (bvs Y2).toArray)), rfl, ⟨hI.t0, hI.t1, hI.t2, hI.t3, hI.t4, hI.t5, hI.t6, hI.t7, hI.t8, hI.t9, hI.t10, hI.t11, hI.t12, hI.t13, hI.t14, hI.t15, hI.t16, hI.t17, hI.t18, hI.t19, fun _ => rfl, hI.t21, hI.t22, hI.t23, hI.t24, fun _ => rfl, fun _ => rfl, hI.t27, hI.t28, hI.t29, hI.t30, hI.t31, hI.t32, hI.t33, hI.t34, hI.t35, hI.t36, hI.t37, hI.t38, hI.t39, hI.t40, hI.t41, hI.t42, hI.t43, hI.t44, hI.t45, hI.t46, hI.t47, hI.t48, hI.bw⟩⟩
  · rintro L a wx ⟨v, rfl, hI⟩ hL hdep hcl K hK
    have e23 := hI.t23 (hdep 23 (by decide))
    have e26 := hI.t26 (hdep 26 (by decide))
    have e20 := hI.t20 (hdep 20 (by decide))
    rw [e23, e26, e20]
    refine (if_pos rfl).mpr ?_
    refine ow_eqD _ _ _ rfl Y2 Y2 L2.out L2.out rfl rfl ?_
    rw [decide_eq_true rfl]
    exact hK _ _ ⟨(upd (upd (upd (upd v 39 (.agg (bvs Y2).toArray)) 42 (.agg (bvs Y2).toArray)) 36 (.bool true)) 43 (.bool true)), rfl, ⟨hI.t0, hI.t1, hI.t2, hI.t3, hI.t4, hI.t5, hI.t6, hI.t7, hI.t8, hI.t9, hI.t10, hI.t11, hI.t12, hI.t13, hI.t14, hI.t15, hI.t16, hI.t17, hI.t18, hI.t19, fun _ => rfl, hI.t21, hI.t22, fun _ => rfl, hI.t24, hI.t25, fun _ => rfl, fun _ => rfl, hI.t28, hI.t29, hI.t30, hI.t31, hI.t32, hI.t33, hI.t34, hI.t35, hI.t36, hI.t37, hI.t38, hI.t39, hI.t40, hI.t41, hI.t42, hI.t43, hI.t44, hI.t45, hI.t46, hI.t47, hI.t48, hI.bw⟩⟩
  · rintro L a wx ⟨v, rfl, hI⟩ hL hdep hcl K hK
    have e20 := hI.t20 (hdep 20 (by decide))
    have e27 := hI.t27 (hdep 27 (by decide))
    rw [e20, e27]
    go_simp
    exact hK _ _ ⟨(upd (upd (upd v 36 (.bool true)) 43 (.bool true)) 44 (.bool true)), rfl, ⟨hI.t0, hI.t1, hI.t2, hI.t3, hI.t4, hI.t5, hI.t6, hI.t7, hI.t8, hI.t9, hI.t10, hI.t11, hI.t12, hI.t13, hI.t14, hI.t15, hI.t16, hI.t17, hI.t18, hI.t19, fun _ => rfl, hI.t21, hI.t22, hI.t23, hI.t24, hI.t25, hI.t26, fun _ => rfl, fun _ => rfl, hI.t29, hI.t30, hI.t31, hI.t32, hI.t33, hI.t34, hI.t35, hI.t36, hI.t37, hI.t38, hI.t39, hI.t40, hI.t41, hI.t42, hI.t43, hI.t44, hI.t45, hI.t46, hI.t47, hI.t48, hI.bw⟩⟩
  · rintro L a wx ⟨v, rfl, hI⟩ hL hdep hcl K hK
    have e28 := hI.t28 (hdep 28 (by decide))
    rw [e28]
    go_simp
    exact hK _ _ ⟨(upd (upd v 44 (.bool true)) 45 (.bool true)), rfl, ⟨hI.t0, hI.t1, hI.t2, hI.t3, hI.t4, hI.t5, hI.t6, hI.t7, hI.t8, hI.t9, hI.t10, hI.t11, hI.t12, hI.t13, hI.t14, hI.t15, hI.t16, hI.t17, hI.t18, hI.t19, hI.t20, hI.t21, hI.t22, hI.t23, hI.t24, hI.t25, hI.t26, hI.t27, fun _ => rfl, fun _ => rfl, hI.t30, hI.t31, hI.t32, hI.t33, hI.t34, hI.t35, hI.t36, hI.t37, hI.t38, hI.t39, hI.t40, hI.t41, hI.t42, hI.t43, hI.t44, hI.t45, hI.t46, hI.t47, hI.t48, hI.bw⟩⟩
  · rintro L a wx ⟨v, rfl, hI⟩ hL hdep hcl K hK
    have e29 := hI.t29 (hdep 29 (by decide))
    rw [e29]
    refine (if_pos rfl).mpr ?_
    go_simp
    exact hK _ _ ⟨(upd (upd v 45 (.bool true)) 46 (.slice (some ⟨g3, 0, none⟩) 7 c3)), rfl, ⟨hI.t0, hI.t1, hI.t2, hI.t3, hI.t4, hI.t5, hI.t6, hI.t7, hI.t8, hI.t9, hI.t10, hI.t11, hI.t12, hI.t13, hI.t14, hI.t15, hI.t16, hI.t17, hI.t18, hI.t19, hI.t20, hI.t21, hI.t22, hI.t23, hI.t24, hI.t25, hI.t26, hI.t27, hI.t28, fun _ => rfl, fun _ => rfl, hI.t31, hI.t32, hI.t33, hI.t34, hI.t35, hI.t36, hI.t37, hI.t38, hI.t39, hI.t40, hI.t41, hI.t42, hI.t43, hI.t44, hI.t45, hI.t46, hI.t47, hI.t48, hI.bw⟩⟩
  · rintro L a wx ⟨v, rfl, hI⟩ hL hdep hcl K hK
    have e30 := hI.t30 (hdep 30 (by decide))
    have e29 := hI.t29 (hdep 29 (by decide))
    rw [e30, e29]
    refine (if_pos rfl).mpr ?_
    go_simp
    exact hK _ _ ⟨(upd (upd (upd v 46 (.slice (some ⟨g3, 0, none⟩) 7 c3)) 45 (.bool true)) 47 (.slice (some ⟨g3, 0, none⟩) 3 c3)), rfl, ⟨hI.t0, hI.t1, hI.t2, hI.t3, hI.t4, hI.t5, hI.t6, hI.t7, hI.t8, hI.t9, hI.t10, hI.t11, hI.t12, hI.t13, hI.t14, hI.t15, hI.t16, hI.t17, hI.t18, hI.t19, hI.t20, hI.t21, hI.t22, hI.t23, hI.t24, hI.t25, hI.t26, hI.t27, hI.t28, fun _ => rfl, fun _ => rfl, fun _ => rfl, hI.t32, hI.t33, hI.t34, hI.t35, hI.t36, hI.t37, hI.t38, hI.t39, hI.t40, hI.t41, hI.t42, hI.t43, hI.t44, hI.t45, hI.t46, hI.t47, hI.t48, hI.bw⟩⟩
  · rintro L a wx ⟨v, rfl, hI⟩ hL hdep hcl K hK
    have e31 := hI.t31 (hdep 31 (by decide))
    have e29 := hI.t29 (hdep 29 (by decide))
    rw [e31, e29]
    refine (if_pos rfl).mpr ?_
    have HC := HR3'.out wx hI.bw
    go_simp
    refine HC.mono ?_
    rintro e w' ⟨rfl, hb⟩
    exact hK _ _ ⟨(upd (upd (upd v 47 (.slice (some ⟨g3, 0, none⟩) 3 c3)) 45 (.bool true)) 48 (.agg (bvs R3).toArray)), rfl, ⟨hI.t0, hI.t1, hI.t2, hI.t3, hI.t4, hI.t5, hI.t6, hI.t7, fun h => by obtain ⟨g, e, h1⟩ := hI.t8 h; exact ⟨g, e, h1.kept hb⟩, hI.t9, hI.t10, hI.t11, hI.t12, hI.t13, hI.t14, hI.t15, hI.t16, hI.t17, hI.t18, hI.t19, hI.t20, hI.t21, hI.t22, hI.t23, hI.t24, hI.t25, hI.t26, hI.t27, hI.t28, fun _ => rfl, hI.t30, fun _ => rfl, fun _ => rfl, hI.t33, hI.t34, hI.t35, hI.t36, hI.t37, hI.t38, hI.t39, hI.t40, hI.t41, hI.t42, hI.t43, hI.t44, hI.t45, hI.t46, hI.t47, hI.t48, (hI.bw).trans (hb.mono (hI.bw).size)⟩⟩
  · rintro L a wx ⟨v, rfl, hI⟩ hL hdep hcl K hK
    have e29 := hI.t29 (hdep 29 (by decide))
    rw [e29]
    refine (if_pos rfl).mpr ?_
    go_simp
    exact hK _ _ ⟨(upd (upd v 45 (.bool true)) 49 (.slice (some ⟨g3, 0, none⟩) 7 c3)), rfl, ⟨hI.t0, hI.t1, hI.t2, hI.t3, hI.t4, hI.t5, hI.t6, hI.t7, hI.t8, hI.t9, hI.t10, hI.t11, hI.t12, hI.t13, hI.t14, hI.t15, hI.t16, hI.t17, hI.t18, hI.t19, hI.t20, hI.t21, hI.t22, hI.t23, hI.t24, hI.t25, hI.t26, hI.t27, hI.t28, fun _ => rfl, hI.t30, hI.t31, hI.t32, fun _ => rfl, hI.t34, hI.t35, hI.t36, hI.t37, hI.t38, hI.t39, hI.t40, hI.t41, hI.t42, hI.t43, hI.t44, hI.t45, hI.t46, hI.t47, hI.t48, hI.bw⟩⟩
  · rintro L a wx ⟨v, rfl, hI⟩ hL hdep hcl K hK
    have e33 := hI.t33 (hdep 33 (by decide))
    have e29 := hI.t29 (hdep 29 (by decide))
    rw [e33, e29]
    refine (if_pos rfl).mpr ?_
    have HC := HRT'.out wx hI.bw
    go_simp
    refine HC.mono ?_
    rintro e w' ⟨rfl, hb⟩
    exact hK _ _ ⟨(upd (upd (upd v 49 (.slice (some ⟨g3, 0, none⟩) 7 c3)) 45 (.bool true)) 50 (.agg (bvs RT).toArray)), rfl, ⟨hI.t0, hI.t1, hI.t2, hI.t3, hI.t4, hI.t5, hI.t6, hI.t7, fun h => by obtain ⟨g, e, h1⟩ := hI.t8 h; exact ⟨g, e, h1.kept hb⟩, hI.t9, hI.t10, hI.t11, hI.t12, hI.t13, hI.t14, hI.t15, hI.t16, hI.t17, hI.t18, hI.t19, hI.t20, hI.t21, hI.t22, hI.t23, hI.t24, hI.t25, hI.t26, hI.t27, hI.t28, fun _ => rfl, hI.t30, hI.t31, hI.t32, fun _ => rfl, fun _ => rfl, hI.t35, hI.t36, hI.t37, hI.t38, hI.t39, hI.t40, hI.t41, hI.t42, hI.t43, hI.t44, hI.t45, hI.t46, hI.t47, hI.t48, (hI.bw).trans (hb.mono (hI.bw).size)⟩⟩
  · rintro L a wx ⟨v, rfl, hI⟩ hL hdep hcl K hK
    have e29 := hI.t29 (hdep 29 (by decide))
    rw [e29]
    refine (if_pos rfl).mpr ?_
    go_simp
    exact hK _ _ ⟨(upd (upd v 45 (.bool true)) 51 (.slice (some ⟨g4, 0, none⟩) 4 c4)), rfl, ⟨hI.t0, hI.t1, hI.t2, hI.t3, hI.t4, hI.t5, hI.t6, hI.t7, hI.t8, hI.t9, hI.t10, hI.t11, hI.t12, hI.t13, hI.t14, hI.t15, hI.t16, hI.t17, hI.t18, hI.t19, hI.t20, hI.t21, hI.t22, hI.t23, hI.t24, hI.t25, hI.t26, hI.t27, hI.t28, fun _ => rfl, hI.t30, hI.t31, hI.t32, hI.t33, hI.t34, fun _ => rfl, hI.t36, hI.t37, hI.t38, hI.t39, hI.t40, hI.t41, hI.t42, hI.t43, hI.t44, hI.t45, hI.t46, hI.t47, hI.t48, hI.bw⟩⟩
  · rintro L a wx ⟨v, rfl, hI⟩ hL hdep hcl K hK
    have e32 := hI.t32 (hdep 32 (by decide))
    have e34 := hI.t34 (hdep 34 (by decide))
    have e35 := hI.t35 (hdep 35 (by decide))
    have e29 := hI.t29 (hdep 29 (by decide))
    rw [e32, e34, e35, e29]
    refine (if_pos rfl).mpr ?_
    have HC := HV3'.out wx hI.bw
    go_simp
    refine HC.mono ?_
    rintro e w' ⟨rfl, hb⟩
    exact hK _ _ ⟨(upd (upd (upd (upd (upd v 48 (.agg (bvs R3).toArray)) 50 (.agg (bvs RT).toArray)) 51 (.slice (some ⟨g4, 0, none⟩) 4 c4)) 45 (.bool true)) 52 (.bool true)), rfl, ⟨hI.t0, hI.t1, hI.t2, hI.t3, hI.t4, hI.t5, hI.t6, hI.t7, fun h => by obtain ⟨g, e, h1⟩ := hI.t8 h; exact ⟨g, e, h1.kept hb⟩, hI.t9, hI.t10, hI.t11, hI.t12, hI.t13, hI.t14, hI.t15, hI.t16, hI.t17, hI.t18, hI.t19, hI.t20, hI.t21, hI.t22, hI.t23, hI.t24, hI.t25, hI.t26, hI.t27, hI.t28, fun _ => rfl, hI.t30, hI.t31, fun _ => rfl, hI.t33, fun _ => rfl, fun _ => rfl, fun _ => rfl, hI.t37, hI.t38, hI.t39, hI.t40, hI.t41, hI.t42, hI.t43, hI.t44, hI.t45, hI.t46, hI.t47, hI.t48, (hI.bw).trans (hb.mono (hI.bw).size)⟩⟩
  · rintro L a wx ⟨v, rfl, hI⟩ hL hdep hcl K hK
    have e29 := hI.t29 (hdep 29 (by decide))
    have e36 := hI.t36 (hdep 36 (by decide))
    rw [e29, e36]
    go_simp
    exact hK _ _ ⟨(upd (upd (upd v 45 (.bool true)) 52 (.bool true)) 53 (.bool true)), rfl, ⟨hI.t0, hI.t1, hI.t2, hI.t3, hI.t4, hI.t5, hI.t6, hI.t7, hI.t8, hI.t9, hI.t10, hI.t11, hI.t12, hI.t13, hI.t14, hI.t15, hI.t16, hI.t17, hI.t18, hI.t19, hI.t20, hI.t21, hI.t22, hI.t23, hI.t24, hI.t25, hI.t26, hI.t27, hI.t28, fun _ => rfl, hI.t30, hI.t31, hI.t32, hI.t33, hI.t34, hI.t35, fun _ => rfl, fun _ => rfl, hI.t38, hI.t39, hI.t40, hI.t41, hI.t42, hI.t43, hI.t44, hI.t45, hI.t46, hI.t47, hI.t48, hI.bw⟩⟩
  · rintro L a wx ⟨v, rfl, hI⟩ hL hdep hcl K hK
    have e37 := hI.t37 (hdep 37 (by decide))
    rw [e37]
    go_simp
    exact hK _ _ ⟨(upd (upd v 53 (.bool true)) 54 (.bool true)), rfl, ⟨hI.t0, hI.t1, hI.t2, hI.t3, hI.t4, hI.t5, hI.t6, hI.t7, hI.t8, hI.t9, hI.t10, hI.t11, hI.t12, hI.t13, hI.t14, hI.t15, hI.t16, hI.t17, hI.t18, hI.t19, hI.t20, hI.t21, hI.t22, hI.t23, hI.t24, hI.t25, hI.t26, hI.t27, hI.t28, hI.t29, hI.t30, hI.t31, hI.t32, hI.t33, hI.t34, hI.t35, hI.t36, fun _ => rfl, fun _ => rfl, hI.t39, hI.t40, hI.t41, hI.t42, hI.t43, hI.t44, hI.t45, hI.t46, hI.t47, hI.t48, hI.bw⟩⟩
  · rintro L a wx ⟨v, rfl, hI⟩ hL hdep hcl K hK
    have e38 := hI.t38 (hdep 38 (by decide))
    rw [e38]
    refine (if_pos rfl).mpr ?_
    go_simp
    exact hK _ _ ⟨(upd (upd v 54 (.bool true)) 55 (.slice (some ⟨g3, 0, none⟩) 7 c3)), rfl, ⟨hI.t0, hI.t1, hI.t2, hI.t3, hI.t4, hI.t5, hI.t6, hI.t7, hI.t8, hI.t9, hI.t10, hI.t11, hI.t12, hI.t13, hI.t14, hI.t15, hI.t16, hI.t17, hI.t18, hI.t19, hI.t20, hI.t21, hI.t22, hI.t23, hI.t24, hI.t25, hI.t26, hI.t27, hI.t28, hI.t29, hI.t30, hI.t31, hI.t32, hI.t33, hI.t34, hI.t35, hI.t36, hI.t37, fun _ => rfl, fun _ => rfl, hI.t40, hI.t41, hI.t42, hI.t43, hI.t44, hI.t45, hI.t46, hI.t47, hI.t48, hI.bw⟩⟩
  · rintro L a wx ⟨v, rfl, hI⟩ hL hdep hcl K hK
    have e39 := hI.t39 (hdep 39 (by decide))
    have e38 := hI.t38 (hdep 38 (by decide))
    rw [e39, e38]
    refine (if_pos rfl).mpr ?_
    go_simp
    exact hK _ _ ⟨(upd (upd (upd v 55 (.slice (some ⟨g3, 0, none⟩) 7 c3)) 54 (.bool true)) 56 (.slice (some ⟨g3, 0, none⟩) 2 c3)), rfl, ⟨hI.t0, hI.t1, hI.t2, hI.t3, hI.t4, hI.t5, hI.t6, hI.t7, hI.t8, hI.t9, hI.t10, hI.t11, hI.t12, hI.t13, hI.t14, hI.t15, hI.t16, hI.t17, hI.t18, hI.t19, hI.t20, hI.t21, hI.t22, hI.t23, hI.t24, hI.t25, hI.t26, hI.t27, hI.t28, hI.t29, hI.t30, hI.t31, hI.t32, hI.t33, hI.t34, hI.t35, hI.t36, hI.t37, fun _ => rfl, fun _ => rfl, fun _ => rfl, hI.t41, hI.t42, hI.t43, hI.t44, hI.t45, hI.t46, hI.t47, hI.t48, hI.bw⟩⟩
  · rintro L a wx ⟨v, rfl, hI⟩ hL hdep hcl K hK
    have e40 := hI.t40 (hdep 40 (by decide))
    have e38 := hI.t38 (hdep 38 (by decide))
    rw [e40, e38]
    refine (if_pos rfl).mpr ?_
    have HC := HR2'.out wx hI.bw
    go_simp
    refine HC.mono ?_
    rintro e w' ⟨rfl, hb⟩
    exact hK _ _ ⟨(upd (upd (upd v 56 (.slice (some ⟨g3, 0, none⟩) 2 c3)) 54 (.bool true)) 57 (.agg (bvs R2).toArray)), rfl, ⟨hI.t0, hI.t1, hI.t2, hI.t3, hI.t4, hI.t5, hI.t6, hI.t7, fun h => by obtain ⟨g, e, h1⟩ := hI.t8 h; exact ⟨g, e, h1.kept hb⟩, hI.t9, hI.t10, hI.t11, hI.t12, hI.t13, hI.t14, hI.t15, hI.t16, hI.t17, hI.t18, hI.t19, hI.t20, hI.t21, hI.t22, hI.t23, hI.t24, hI.t25, hI.t26, hI.t27, hI.t28, hI.t29, hI.t30, hI.t31, hI.t32, hI.t33, hI.t34, hI.t35, hI.t36, hI.t37, fun _ => rfl, hI.t39, fun _ => rfl, fun _ => rfl, hI.t42, hI.t43, hI.t44, hI.t45, hI.t46, hI.t47, hI.t48, (hI.bw).trans (hb.mono (hI.bw).size)⟩⟩
  · rintro L a wx ⟨v, rfl, hI⟩ hL hdep hcl K hK
    have e38 := hI.t38 (hdep 38 (by decide))
    rw [e38]
    refine (if_pos rfl).mpr ?_
    go_simp
    exact hK _ _ ⟨(upd (upd v 54 (.bool true)) 58 (.slice (some ⟨g3, 0, none⟩) 7 c3)), rfl, ⟨hI.t0, hI.t1, hI.t2, hI.t3, hI.t4, hI.t5, hI.t6, hI.t7, hI.t8, hI.t9, hI.t10, hI.t11, hI.t12, hI.t13, hI.t14, hI.t15, hI.t16, hI.t17, hI.t18, hI.t19, hI.t20, hI.t21, hI.t22, hI.t23, hI.t24, hI.t25, hI.t26, hI.t27, hI.t28, hI.t29, hI.t30, hI.t31, hI.t32, hI.t33, hI.t34, hI.t35, hI.t36, hI.t37, fun _ => rfl, hI.t39, hI.t40, hI.t41, fun _ => rfl, hI.t43, hI.t44, hI.t45, hI.t46, hI.t47, hI.t48, hI.bw⟩⟩
  · rintro L a wx ⟨v, rfl, hI⟩ hL hdep hcl K hK
    have e42 := hI.t42 (hdep 42 (by decide))
    have e38 := hI.t38 (hdep 38 (by decide))
    rw [e42, e38]
    refine (if_pos rfl).mpr ?_
    have HC := HRT'.out wx hI.bw
    go_simp
    refine HC.mono ?_
    rintro e w' ⟨rfl, hb⟩
    exact hK _ _ ⟨(upd (upd (upd v 58 (.slice (some ⟨g3, 0, none⟩) 7 c3)) 54 (.bool true)) 59 (.agg (bvs RT).toArray)), rfl, ⟨hI.t0, hI.t1, hI.t2, hI.t3, hI.t4, hI.t5, hI.t6, hI.t7, fun h => by obtain ⟨g, e, h1⟩ := hI.t8 h; exact ⟨g, e, h1.kept hb⟩, hI.t9, hI.t10, hI.t11, hI.t12, hI.t13, hI.t14, hI.t15, hI.t16, hI.t17, hI.t18, hI.t19, hI.t20, hI.t21, hI.t22, hI.t23, hI.t24, hI.t25, hI.t26, hI.t27, hI.t28, hI.t29, hI.t30, hI.t31, hI.t32, hI.t33, hI.t34, hI.t35, hI.t36, hI.t37, fun _ => rfl, hI.t39, hI.t40, hI.t41, fun _ => rfl, fun _ => rfl, hI.t44, hI.t45, hI.t46, hI.t47, hI.t48, (hI.bw).trans (hb.mono (hI.bw).size)⟩⟩
  · rintro L a wx ⟨v, rfl, hI⟩ hL hdep hcl K hK
    have e38 := hI.t38 (hdep 38 (by decide))
    rw [e38]
    refine (if_pos rfl).mpr ?_
    go_simp
    exact hK _ _ ⟨(upd (upd v 54 (.bool true)) 60 (.slice (some ⟨g4, 0, none⟩) 4 c4)), rfl, ⟨hI.t0, hI.t1, hI.t2, hI.t3, hI.t4, hI.t5, hI.t6, hI.t7, hI.t8, hI.t9, hI.t10, hI.t11, hI.t12, hI.t13, hI.t14, hI.t15, hI.t16, hI.t17, hI.t18, hI.t19, hI.t20, hI.t21, hI.t22, hI.t23, hI.t24, hI.t25, hI.t26, hI.t27, hI.t28, hI.t29, hI.t30, hI.t31, hI.t32, hI.t33, hI.t34, hI.t35, hI.t36, hI.t37, fun _ => rfl, hI.t39, hI.t40, hI.t41, hI.t42, hI.t43, fun _ => rfl, hI.t45, hI.t46, hI.t47, hI.t48, hI.bw⟩⟩
  · rintro L a wx ⟨v, rfl, hI⟩ hL hdep hcl K hK
    have e41 := hI.t41 (hdep 41 (by decide))
    have e43 := hI.t43 (hdep 43 (by decide))
    have e44 := hI.t44 (hdep 44 (by decide))
    have e38 := hI.t38 (hdep 38 (by decide))
    rw [e41, e43, e44, e38]
    refine (if_pos rfl).mpr ?_
    have HC := HV2'.out wx hI.bw
    go_simp
    refine HC.mono ?_
    rintro e w' ⟨rfl, hb⟩
    exact hK _ _ ⟨(upd (upd (upd (upd (upd v 57 (.agg (bvs R2).toArray)) 59 (.agg (bvs RT).toArray)) 60 (.slice (some ⟨g4, 0, none⟩) 4 c4)) 54 (.bool true)) 61 (.bool false)), rfl, ⟨hI.t0, hI.t1, hI.t2, hI.t3, hI.t4, hI.t5, hI.t6, hI.t7, fun h => by obtain ⟨g, e, h1⟩ := hI.t8 h; exact ⟨g, e, h1.kept hb⟩, hI.t9, hI.t10, hI.t11, hI.t12, hI.t13, hI.t14, hI.t15, hI.t16, hI.t17, hI.t18, hI.t19, hI.t20, hI.t21, hI.t22, hI.t23, hI.t24, hI.t25, hI.t26, hI.t27, hI.t28, hI.t29, hI.t30, hI.t31, hI.t32, hI.t33, hI.t34, hI.t35, hI.t36, hI.t37, fun _ => rfl, hI.t39, hI.t40, fun _ => rfl, hI.t42, fun _ => rfl, fun _ => rfl, fun _ => rfl, hI.t46, hI.t47, hI.t48, (hI.bw).trans (hb.mono (hI.bw).size)⟩⟩
  · rintro L a wx ⟨v, rfl, hI⟩ hL hdep hcl K hK
    have e45 := hI.t45 (hdep 45 (by decide))
    have e38 := hI.t38 (hdep 38 (by decide))
    rw [e45, e38]
    refine (if_pos rfl).mpr ?_
    go_simp
    exact hK _ _ ⟨(upd (upd (upd v 61 (.bool false)) 54 (.bool true)) 62 (.bool true)), rfl, ⟨hI.t0, hI.t1, hI.t2, hI.t3, hI.t4, hI.t5, hI.t6, hI.t7, hI.t8, hI.t9, hI.t10, hI.t11, hI.t12, hI.t13, hI.t14, hI.t15, hI.t16, hI.t17, hI.t18, hI.t19, hI.t20, hI.t21, hI.t22, hI.t23, hI.t24, hI.t25, hI.t26, hI.t27, hI.t28, hI.t29, hI.t30, hI.t31, hI.t32, hI.t33, hI.t34, hI.t35, hI.t36, hI.t37, fun _ => rfl, hI.t39, hI.t40, hI.t41, hI.t42, hI.t43, hI.t44, fun _ => rfl, fun _ => rfl, hI.t47, hI.t48, hI.bw⟩⟩
  · rintro L a wx ⟨v, rfl, hI⟩ hL hdep hcl K hK
    have e38 := hI.t38 (hdep 38 (by decide))
    have e46 := hI.t46 (hdep 46 (by decide))
    rw [e38, e46]
    go_simp
    exact hK _ _ ⟨(upd (upd (upd v 54 (.bool true)) 62 (.bool true)) 63 (.bool true)), rfl, ⟨hI.t0, hI.t1, hI.t2, hI.t3, hI.t4, hI.t5, hI.t6, hI.t7, hI.t8, hI.t9, hI.t10, hI.t11, hI.t12, hI.t13, hI.t14, hI.t15, hI.t16, hI.t17, hI.t18, hI.t19, hI.t20, hI.t21, hI.t22, hI.t23, hI.t24, hI.t25, hI.t26, hI.t27, hI.t28, hI.t29, hI.t30, hI.t31, hI.t32, hI.t33, hI.t34, hI.t35, hI.t36, hI.t37, fun _ => rfl, hI.t39, hI.t40, hI.t41, hI.t42, hI.t43, hI.t44, hI.t45, fun _ => rfl, fun _ => rfl, hI.t48, hI.bw⟩⟩
  · rintro L a wx ⟨v, rfl, hI⟩ hL hdep hcl K hK
    have e47 := hI.t47 (hdep 47 (by decide))
    rw [e47]
    go_simp
    exact hK _ _ ⟨(upd (upd v 63 (.bool true)) 0 (.bool true)), rfl, ⟨hI.t0, hI.t1, hI.t2, hI.t3, hI.t4, hI.t5, hI.t6, hI.t7, hI.t8, hI.t9, hI.t10, hI.t11, hI.t12, hI.t13, hI.t14, hI.t15, hI.t16, hI.t17, hI.t18, hI.t19, hI.t20, hI.t21, hI.t22, hI.t23, hI.t24, hI.t25, hI.t26, hI.t27, hI.t28, hI.t29, hI.t30, hI.t31, hI.t32, hI.t33, hI.t34, hI.t35, hI.t36, hI.t37, hI.t38, hI.t39, hI.t40, hI.t41, hI.t42, hI.t43, hI.t44, hI.t45, hI.t46, fun _ => rfl, fun _ => rfl, hI.bw⟩⟩
  · rintro a wx ⟨vF, rfl, hI⟩
    have e := hI.t48 rfl
    have hbw := hI.bw
    clear hI
    rw [e]
    go_wp2_with fail
    go_ret
    exact ⟨rfl, B03.out.trans (hbw.mono B03.out.size)⟩
end Go.Proofs.Ytcnnblhjgligbaa
