/-
  InclKnown as a call. Conditions: those in each statement.
-/
import Derived.Test.YtbmhobbeimhodaaInN
namespace Go.Proofs.Ytbmhobbeimhodaa
open Go.RowKit

section
variable {P : Program} {ops : Array Oper} {rest : List Oper} {o : Oper} {a : Act} {Q : Exit → Act → World → Prop} {w : World}
/-- a guarded load of many cells, where it is wanted -/
theorem wl_loadGm (hw : Region.wanted o (yielded ops a.tmps) = true) (ty : TypeId) (x : Operand) (ho : o.op = .load ty x) (b off : Nat) (hx : a.eval x = .pointer (some ⟨b, off, none⟩)) (cs : List Value) (d : TypeDesc) (hc : w.rangeAt b off cs)
    (hu : P.underlying ty = some d) (hd : d.isRow = true) (hi : (P.info? ty).map (·.size) = some cs.length) (hK : wpList P ops Q rest (a.put o.dst (.agg cs.toArray)) w) : wpList P ops Q (o :: rest) a w :=
  wpList_step fun K hK' => by
    rw [if_pos hw]
    exact wp_load_mid ty x ho b off hx cs d hc hu hd hi (hK' _ _ hK)
end
def oneL : List UInt8 := 1 :: Z8 31
theorem oneL_len : oneL.length = 32 := by decide
theorem builtD1 : Try.prog.built 41 [(0, .int .u8 1)] = some (bvs oneL).toArray := by kernel_rfl
theorem kn_07 : rL 0 7 = [(1, 2), (2, 4), (4, 7)] ∧ rE 0 7 = 0 := by decide +kernel
theorem kn_67 : rL 6 7 = [(4, 6), (0, 4)] ∧ rE 6 7 = 0 := by decide +kernel
theorem kn_01 : rL 0 1 = [] ∧ rE 0 1 = 0 := by decide +kernel
theorem kn_11 : rE 1 1 = 1 := by decide +kernel
theorem kn_00 : rE 0 0 = 1 := by decide +kernel
theorem kn_far : rE 0 1048577 = 1 := by decide +kernel
theorem kn_last : (rL 1048575 1048576).length = 20 ∧ rE 1048575 1048576 = 0 ∧ (rL 1048575 1048576)[19]? = some (0, 524288) := by decide +kernel
theorem kn_spl : splK 1048576 = 524288 := by decide +kernel
theorem kn_path : pL [oneL] 0 = [] := by decide +kernel
theorem kn_ver : verB oneL 0 1 [] oneL = true := by decide +kernel
set_option maxRecDepth 100000 in
set_option maxHeartbeats 3200000 in
theorem LKnown_any (w : World) : Calls Try.prog 9 #[] w fun e w' => e = .returned (.bool true) ∧ Below w.heap.size w w' := by
  have H1 : Hid (∀ w, Calls Try.prog 10 #[.int .u64 0, .int .u64 7] w fun e w' => ∃ v, e = .returned (.tuple #[v, .int .i64 0]) ∧ OwnRp w' w.heap.size v [(1, 2), (2, 4), (4, 7)] ∧ Below w.heap.size w w') := fun w => by
    have h := Ranges_any 0 7 w
    rwa [kn_07.1, kn_07.2] at h
  have H2 : Hid (∀ w, Calls Try.prog 10 #[.int .u64 6, .int .u64 7] w fun e w' => ∃ v, e = .returned (.tuple #[v, .int .i64 0]) ∧ OwnRp w' w.heap.size v [(4, 6), (0, 4)] ∧ Below w.heap.size w w') := fun w => by
    have h := Ranges_any 6 7 w
    rwa [kn_67.1, kn_67.2] at h
  have H3 : Hid (∀ w, Calls Try.prog 10 #[.int .u64 0, .int .u64 1] w fun e w' => ∃ v, e = .returned (.tuple #[v, .int .i64 0]) ∧ OwnRp w' w.heap.size v [] ∧ Below w.heap.size w w') := fun w => by
    have h := Ranges_any 0 1 w
    rwa [kn_01.1, kn_01.2] at h
  have H4 : Hid (∀ w, Calls Try.prog 10 #[.int .u64 1, .int .u64 1] w fun e w' => ∃ v, e = .returned (.tuple #[v, .int .i64 1]) ∧ Below w.heap.size w w') := fun w => by
    have h := Ranges_any 1 1 w
    rw [kn_11] at h
    exact h.mono fun e w' ⟨v, h1, _, h2⟩ => ⟨v, h1, h2⟩
  have H5 : Hid (∀ w, Calls Try.prog 10 #[.int .u64 0, .int .u64 0] w fun e w' => ∃ v, e = .returned (.tuple #[v, .int .i64 1]) ∧ Below w.heap.size w w') := fun w => by
    have h := Ranges_any 0 0 w
    rw [kn_00] at h
    exact h.mono fun e w' ⟨v, h1, _, h2⟩ => ⟨v, h1, h2⟩
  have H6 : Hid (∀ w, Calls Try.prog 10 #[.int .u64 0, .int .u64 1048577] w fun e w' => ∃ v, e = .returned (.tuple #[v, .int .i64 1]) ∧ Below w.heap.size w w') := fun w => by
    have h := Ranges_any 0 1048577 w
    rw [kn_far] at h
    exact h.mono fun e w' ⟨v, h1, _, h2⟩ => ⟨v, h1, h2⟩
  obtain ⟨l20, e20, at19⟩ := kn_last
  have H7 : Hid (∀ w, Calls Try.prog 10 #[.int .u64 1048575, .int .u64 1048576] w fun e w' => ∃ v, e = .returned (.tuple #[v, .int .i64 0]) ∧ OwnRp w' w.heap.size v (rL 1048575 1048576) ∧ Below w.heap.size w w') := fun w => by
    have h := Ranges_any 1048575 1048576 w
    rwa [e20] at h
  generalize rL 1048575 1048576 = L7 at *
  have HL7 := Lib.hid l20
  have hat : Hid (∃ h : 19 < L7.length, L7[19] = (0, 524288)) := List.getElem?_eq_some_iff.1 at19
  have H8 : Hid (∀ w, Calls Try.prog 14 #[.slice none 0 0, .int .u64 0] w fun e w' => ∃ v, e = .returned (.tuple #[v, .int .i64 1]) ∧ Below w.heap.size w w') := fun w => by
    have h := Path_any [] 0 none 0 0 w (rdd_nil w) (by omega)
    rw [kn_00] at h
    exact h.mono fun e w' ⟨v, h1, _, h2⟩ => ⟨v, h1, h2⟩
  have H9 : Hid (∀ w a c, RdD w a 1 c [oneL] → Calls Try.prog 14 #[.slice a 1 c, .int .u64 0] w fun e w' => ∃ v, e = .returned (.tuple #[v, .int .i64 0]) ∧ OwnD w' w.heap.size v [] ∧ Below w.heap.size w w') := fun w a c hr => by
    have h := Path_any [oneL] 0 a 1 c w hr (by omega)
    rwa [kn_01.2, kn_path] at h
  have H10 : Hid (∀ w, Calls Try.prog 23 #[.int .u64 1048576] w fun e w' => e = .returned (.tuple #[.int .u64 524288, .int .i64 0]) ∧ w' = w) := fun w => by
    have h := Split_nat 1048576 w (by omega) (by omega)
    rwa [kn_spl] at h
  have HV : Hid (∀ w, Calls Try.prog 19 #[.agg (bvs oneL).toArray, .int .u64 0, .int .u64 1, .slice none 0 0, .agg (bvs oneL).toArray] w fun e w' => e = .returned (.bool true) ∧ Below w.heap.size w w') := fun w => by
    have h := Verify_any oneL oneL 0 1 none 0 0 [] w oneL_len oneL_len (rdd_nil w) (by omega)
    rwa [kn_ver] at h
  have HW := Lib.hid (fun w => awake_any w)
  have HB1 := Lib.hid builtD1
  have HO1 := Lib.hid oneL_len
  have HRD : Hid (∀ w g, Arr w g 41 (bvs oneL) → RdD w (some ⟨g, 0, none⟩) 1 1 [oneL]) := fun w g h => rdd_arr (L := [oneL]) (by simpa [dcs] using h) (All32.of (by simp [oneL_len]))
  clear l20 e20 at19
  generalize oneL = X at *
  go_enter Try.func9, Try.ntmps9
  go_upto_region 11 with (first
    | (go_at_call 10; with_reducible refine (H1.out _).mono ?_; rintro e w1 ⟨v1, rfl, hO1, hb1⟩; obtain ⟨a1, c1, rfl, hR1, -⟩ := hO1.rd (by omega))
    | (go_at_call 10; with_reducible refine (H2.out _).mono ?_; rintro e w2 ⟨v2, rfl, hO2, hb2⟩; obtain ⟨a2, c2, rfl, hR2, -⟩ := hO2.rd (by omega))
    | (go_at_call 10; with_reducible refine (H3.out _).mono ?_; rintro e w3 ⟨v3, rfl, hO3, hb3⟩; obtain ⟨a3, c3, rfl, hR3, -⟩ := hO3.rd (by omega))
    | (go_at_call 10; with_reducible refine (H4.out _).mono ?_; rintro e w4 ⟨v4, rfl, hb4⟩)
    | (go_at_call 10; with_reducible refine (H5.out _).mono ?_; rintro e w5 ⟨v5, rfl, hb5⟩)
    | (go_at_call 10; with_reducible refine (H6.out _).mono ?_; rintro e w6 ⟨v6, rfl, hb6⟩)
    | (go_at_call 10; with_reducible refine (H7.out _).mono ?_; rintro e w7 ⟨v7, rfl, hO7, hb7⟩; obtain ⟨a7, c7, rfl, hR7, -⟩ := hO7.rd (by omega); rw [HL7.out] at hR7 ⊢)
    | (go_at_call 14; with_reducible refine (H8.out _).mono ?_; rintro e w8 ⟨v8, rfl, hb8⟩)
    | ((with_reducible show wpList _ _ _ (⟨some 54, .build _ _, _, _, _, _⟩ :: _) _ _); refine wpList_buildTo rfl 41 _ rfl (some 54) rfl (bvs X).toArray (by simpa [Act.eval] using HB1.out) ?_)
    | ((with_reducible show wpList _ _ _ (⟨some 55, .buildSlice _ _ _, _, _, _, _⟩ :: _) _ _); refine wl_litD rfl 54 rfl X HO1.out rfl ?_; intro w9 hA9 hb9)
    | (go_at_call 14; with_reducible refine (H9.out _ _ _ (HRD.out _ _ hA9)).mono ?_; rintro e w10 ⟨v10, rfl, hO10, hb10⟩; obtain ⟨a10, c10, rfl, hR10⟩ := hO10.rd)
    | (go_at_call 23; with_reducible refine (H10.out _).mono ?_; rintro e w11 ⟨rfl, hw11⟩; obtain rfl := hw11.symm))
  have z1 := hb1.size
  have z2 := hb2.size
  have z3 := hb3.size
  have z4 := hb4.size
  have z5 := hb5.size
  have z6 := hb6.size
  have z7 := hb7.size
  have z8 := hb8.size
  have z9 := hb9.size
  have b710 : Below w7.heap.size w7 w10 := (hb8.trans (hb9.mono z8)).trans (hb10.mono (by omega))
  have b27 : Below w2.heap.size w2 w7 := (((hb3.trans (hb4.mono z3)).trans (hb5.mono (by omega))).trans (hb6.mono (by omega))).trans (hb7.mono (by omega))
  have b210 : Below w2.heap.size w2 w10 := b27.trans (b710.mono b27.size)
  have b110 : Below w1.heap.size w1 w10 := hb2.trans (b210.mono z2)
  have b010 : Below w.heap.size w w10 := hb1.trans (b110.mono z1)
  obtain ⟨q1, o1, rfl, -, -⟩ := hR1.mem (by simp)
  obtain ⟨q2, o2, rfl, -, -⟩ := hR2.mem (by simp)
  obtain ⟨q7, o7, rfl, -, -⟩ := hR7.mem (by omega)
  have P1 : Hid (∀ wx, Below w10.heap.size w10 wx → wx.rangeAt q1 o1 [.int .u64 1, .int .u64 2]) := fun wx hb => by
    have h := ((hR1.to b110).to hb).range 0 (by simp)
    rw [Nat.zero_mul, Nat.add_zero] at h
    exact h
  have P2 : Hid (∀ wx, Below w10.heap.size w10 wx → wx.rangeAt q1 (o1 + 4) [.int .u64 4, .int .u64 7]) := fun wx hb => ((hR1.to b110).to hb).range 2 (by simp)
  have P3 : Hid (∀ wx, Below w10.heap.size w10 wx → wx.rangeAt q2 o2 [.int .u64 4, .int .u64 6]) := fun wx hb => by
    have h := ((hR2.to b210).to hb).range 0 (by simp)
    rw [Nat.zero_mul, Nat.add_zero] at h
    exact h
  have P7 : Hid (∀ wx, Below w10.heap.size w10 wx → wx.rangeAt q7 (o7 + 38) [.int .u64 0, .int .u64 524288]) := fun wx hb => by
    obtain ⟨hl, he⟩ := hat.out
    have h := ((hR7.to b710).to hb).range 19 hl
    rw [he] at h
    exact h
  have B := Lib.hid b010
  clear hO1 hb1 hR1 hO2 hb2 hR2 hO3 hb3 hR3 hb4 hb5 hb6 hO7 hb7 hR7 hb8 hA9 hb9 hO10 hb10 hR10 z1 z2 z3 z4 z5 z6 z7 z8 z9 b710 b27 b210 b110 b010 H1 H2 H3 H4 H5 H6 H7 H8 H9 H10 HL7 hat HRD
  go_wp2_with (first
    | (go_at_call 12; refine (HW.out _).mono ?_; rintro e w12 ⟨rfl, hb12⟩; have k10 := P1.out _ hb12 0 _ rfl; have k11 := P1.out _ hb12 1 _ rfl; have k20 := P2.out _ hb12 0 _ rfl; have k21 := P2.out _ hb12 1 _ rfl; have k30 := P3.out _ hb12 0 _ rfl; have k31 := P3.out _ hb12 1 _ rfl; have k70 := P7.out _ hb12 0 _ rfl; have k71 := P7.out _ hb12 1 _ rfl; simp only [Nat.add_zero] at k10 k20 k30 k70)
    | ((with_reducible show wpList _ _ _ (⟨some 161, .build _ _, _, _, _, _⟩ :: _) _ _); refine wl_buildG rfl 41 _ rfl (bvs X).toArray (by simpa [Act.eval] using HB1.out) ?_)
    | ((with_reducible show wpList _ _ _ (⟨some 162, .build _ _, _, _, _, _⟩ :: _) _ _); refine wl_buildG rfl 41 _ rfl (bvs X).toArray (by simpa [Act.eval] using HB1.out) ?_)
    | (go_at_call 19; refine (HV.out _).mono ?_; rintro e w13 ⟨rfl, hb13⟩))
  go_ret
  have zb := B.out.size
  exact ⟨rfl, (B.out.trans (hb12.mono zb)).trans (hb13.mono (by have := hb12.size; omega))⟩
end Go.Proofs.Ytbmhobbeimhodaa
