/-
  ConsistKnown as a call. Conditions: those in each statement.
-/
import Derived.Test.YtcnnblhjgligbaaCpU
namespace Go.Proofs.Ytcnnblhjgligbaa
open Go.RowKit

section
variable {P : Program} {ops : Array Oper} {rest : List Oper} {o : Oper} {a : Act} {Q : Exit → Act → World → Prop} {w : World}
/-- a guarded load of many cells, where it is wanted -/
theorem wl_loadGm (hw : Region.wanted o (yielded ops a.tmps) = true) (ty : TypeId) (x : Operand) (ho : o.op = .load ty x) (b off : Nat) (hx : a.eval x = .pointer (some ⟨b, off, none⟩)) (cs : List Value) (d : TypeDesc) (hc : w.rangeAt b off cs)
    (hu : P.underlying ty = some d) (hd : d.isRow = true) (hi : (P.info? ty).map (·.size) = some cs.length) (hK : wpList P ops Q rest (a.put o.dst (.agg cs.toArray)) w) : wpList P ops Q (o :: rest) a w :=
  wpList_step fun K hK' => by
    rw [if_pos hw]
    exact wp_load_mid ty x ho b off hx cs d hc hu hd hi (hK' _ _ hK)
end
def fiveL : List UInt8 := 5 :: Z8 31
theorem fiveL_len : fiveL.length = 32 := by decide
theorem builtD5 : Try.prog.built 41 [(0, .int .u8 5)] = some (bvs fiveL).toArray := by kernel_rfl
theorem kc_47 : cL 4 7 = [(4, 7)] ∧ cE 4 7 = 0 := by decide +kernel
theorem kc_67 : cL 6 7 = [(4, 6), (6, 7), (0, 4)] ∧ cE 6 7 = 0 := by decide +kernel
theorem kc_77 : cL 7 7 = [] ∧ cE 7 7 = 0 := by decide +kernel
theorem kc_07 : cL 0 7 = [] ∧ cE 0 7 = 0 := by decide +kernel
theorem kc_87 : cE 8 7 = 1 := by decide +kernel
theorem kc_far : cE 1 1048577 = 1 := by decide +kernel
theorem kc_last : (cL 1048575 1048576).length = 21 ∧ cE 1048575 1048576 = 0 := by decide +kernel
theorem kc_heads : tdV 0 7 (Z8 32) [] = (Z8 32, Z8 32) ∧ tdE 0 7 0 = 1 := by decide +kernel
theorem kc_v1 : vrC 0 7 (rootF []) fiveL [] = true := by simp [vrC]
theorem kc_v2 : vrC 0 0 (rootF []) (rootF []) [] = true := by simp [vrC]
theorem kc_v3 : vrC 0 7 fiveL fiveL [] = false := by decide +kernel
theorem kc_v4 : vrC 3 3 fiveL fiveL [] = true := by decide +kernel
theorem kc_v5 : vrC 3 3 fiveL (rootF []) [] = false := by decide +kernel
theorem kc_v6 : vrC 0 1048577 (rootF []) fiveL [] = false := by simp [vrC]
theorem rdd_none (w : World) : RdD w none 0 0 [] := ⟨rfl, Nat.le_refl _, All32.of (by simp), fun _ => rfl, fun h => by omega⟩
set_option maxRecDepth 100000 in
set_option maxHeartbeats 6400000 in
theorem LKnown_any (w : World) : Calls Try.prog 9 #[] w fun e w' => e = .returned (.bool true) ∧ Below w.heap.size w w' := by
  have lE : (rootF []).length = 32 := rootF_len (All32.of (by simp))
  have lZ : (Z8 32).length = 32 := by simp [Z8]
  have H1 : Hid (∀ w, Calls Try.prog 10 #[.int .u64 4, .int .u64 7] w fun e w' => ∃ v, e = .returned (.tuple #[v, .int .i64 0]) ∧ OwnRp w' w.heap.size v [(4, 7)] ∧ Below w.heap.size w w') := fun w => by
    have h := RangesC_any 4 7 w
    rwa [kc_47.1, kc_47.2] at h
  have H2 : Hid (∀ w, Calls Try.prog 10 #[.int .u64 6, .int .u64 7] w fun e w' => ∃ v, e = .returned (.tuple #[v, .int .i64 0]) ∧ OwnRp w' w.heap.size v [(4, 6), (6, 7), (0, 4)] ∧ Below w.heap.size w w') := fun w => by
    have h := RangesC_any 6 7 w
    rwa [kc_67.1, kc_67.2] at h
  have H3 : Hid (∀ w, Calls Try.prog 10 #[.int .u64 7, .int .u64 7] w fun e w' => ∃ v, e = .returned (.tuple #[v, .int .i64 0]) ∧ OwnRp w' w.heap.size v [] ∧ Below w.heap.size w w') := fun w => by
    have h := RangesC_any 7 7 w
    rwa [kc_77.1, kc_77.2] at h
  have H4 : Hid (∀ w, Calls Try.prog 10 #[.int .u64 0, .int .u64 7] w fun e w' => ∃ v, e = .returned (.tuple #[v, .int .i64 0]) ∧ OwnRp w' w.heap.size v [] ∧ Below w.heap.size w w') := fun w => by
    have h := RangesC_any 0 7 w
    rwa [kc_07.1, kc_07.2] at h
  have H5 : Hid (∀ w, Calls Try.prog 10 #[.int .u64 8, .int .u64 7] w fun e w' => ∃ v, e = .returned (.tuple #[v, .int .i64 1]) ∧ Below w.heap.size w w') := fun w => by
    have h := RangesC_any 8 7 w
    rw [kc_87] at h
    exact h.mono fun e w' ⟨v, h1, _, h2⟩ => ⟨v, h1, h2⟩
  have H6 : Hid (∀ w, Calls Try.prog 10 #[.int .u64 1, .int .u64 1048577] w fun e w' => ∃ v, e = .returned (.tuple #[v, .int .i64 1]) ∧ Below w.heap.size w w') := fun w => by
    have h := RangesC_any 1 1048577 w
    rw [kc_far] at h
    exact h.mono fun e w' ⟨v, h1, _, h2⟩ => ⟨v, h1, h2⟩
  obtain ⟨l21, e21⟩ := kc_last
  have H7 : Hid (∀ w, Calls Try.prog 10 #[.int .u64 1048575, .int .u64 1048576] w fun e w' => ∃ v, e = .returned (.tuple #[v, .int .i64 0]) ∧ OwnRp w' w.heap.size v (cL 1048575 1048576) ∧ Below w.heap.size w w') := fun w => by
    have h := RangesC_any 1048575 1048576 w
    rwa [e21] at h
  generalize cL 1048575 1048576 = L7 at *
  have HL7 := Lib.hid l21
  have HH : Hid (∀ w, Calls Try.prog 17 #[.int .u64 0, .int .u64 7, .agg (bvs (Z8 32)).toArray, .slice none 0 0] w fun e w' => e = .returned (.tuple #[.agg (bvs (Z8 32)).toArray, .agg (bvs (Z8 32)).toArray, .int .i64 1]) ∧ Below w.heap.size w w') := fun w => by
    have h := HeadsC_any 0 7 (Z8 32) none 0 0 [] w lZ (rdd_none w) (by omega)
    rwa [kc_heads.1, kc_heads.2] at h
  have HRt := Lib.hid (fun w' => Root_any 0 [] (Nat.le_refl _) none 0 0 w' (by omega) (rdd_none w'))
  have V1 : Hid (∀ w, Calls Try.prog 19 #[.int .u64 0, .int .u64 7, .agg (bvs (rootF [])).toArray, .agg (bvs fiveL).toArray, .slice none 0 0] w fun e w' => e = .returned (.bool true) ∧ Below w.heap.size w w') := fun w => by
    have h := VerifyC_any 0 7 (rootF []) fiveL none 0 0 [] w lE fiveL_len (rdd_none w) (by omega)
    rwa [kc_v1] at h
  have V2 : Hid (∀ w, Calls Try.prog 19 #[.int .u64 0, .int .u64 0, .agg (bvs (rootF [])).toArray, .agg (bvs (rootF [])).toArray, .slice none 0 0] w fun e w' => e = .returned (.bool true) ∧ Below w.heap.size w w') := fun w => by
    have h := VerifyC_any 0 0 (rootF []) (rootF []) none 0 0 [] w lE lE (rdd_none w) (by omega)
    rwa [kc_v2] at h
  have V3 : Hid (∀ w, Calls Try.prog 19 #[.int .u64 0, .int .u64 7, .agg (bvs fiveL).toArray, .agg (bvs fiveL).toArray, .slice none 0 0] w fun e w' => e = .returned (.bool false) ∧ Below w.heap.size w w') := fun w => by
    have h := VerifyC_any 0 7 fiveL fiveL none 0 0 [] w fiveL_len fiveL_len (rdd_none w) (by omega)
    rwa [kc_v3] at h
  have V4 : Hid (∀ w, Calls Try.prog 19 #[.int .u64 3, .int .u64 3, .agg (bvs fiveL).toArray, .agg (bvs fiveL).toArray, .slice none 0 0] w fun e w' => e = .returned (.bool true) ∧ Below w.heap.size w w') := fun w => by
    have h := VerifyC_any 3 3 fiveL fiveL none 0 0 [] w fiveL_len fiveL_len (rdd_none w) (by omega)
    rwa [kc_v4] at h
  have V5 : Hid (∀ w, Calls Try.prog 19 #[.int .u64 3, .int .u64 3, .agg (bvs fiveL).toArray, .agg (bvs (rootF [])).toArray, .slice none 0 0] w fun e w' => e = .returned (.bool false) ∧ Below w.heap.size w w') := fun w => by
    have h := VerifyC_any 3 3 fiveL (rootF []) none 0 0 [] w fiveL_len lE (rdd_none w) (by omega)
    rwa [kc_v5] at h
  have V6 : Hid (∀ w, Calls Try.prog 19 #[.int .u64 0, .int .u64 1048577, .agg (bvs (rootF [])).toArray, .agg (bvs fiveL).toArray, .slice none 0 0] w fun e w' => e = .returned (.bool false) ∧ Below w.heap.size w w') := fun w => by
    have h := VerifyC_any 0 1048577 (rootF []) fiveL none 0 0 [] w lE fiveL_len (rdd_none w) (by omega)
    rwa [kc_v6] at h
  have HW := Lib.hid (fun w => awakeC_any w)
  have HB0 := Lib.hid builtD0
  have HB5 := Lib.hid builtD5
  have IZ : Hid ((Try.prog.info? 41).map (·.size) = some (bvs (Z8 32)).length) := sizeD
  have IE : Hid ((Try.prog.info? 41).map (·.size) = some (bvs (rootF [])).length) := by show _ = _; rw [bvs_len, lE]; exact sizeD
  have IX : Hid ((Try.prog.info? 41).map (·.size) = some (bvs fiveL).length) := by show _ = _; rw [bvs_len, fiveL_len]; exact sizeD
  have Z32 : Hid ((bvs (Z8 32)).length = 32) := by show _ = _; rw [bvs_len]; exact lZ
  have E32 : Hid ((bvs (rootF [])).length = 32) := by show _ = _; rw [bvs_len]; exact lE
  have X32 : Hid ((bvs fiveL).length = 32) := by show _ = _; rw [bvs_len]; exact fiveL_len
  clear l21 e21 lE lZ
  generalize fiveL = X at *
  generalize rootF [] = E0 at *
  generalize Z8 32 = ZZ at *
  go_enter Try.func9, Try.ntmps9
  go_upto_region 9 with (first
    | (go_at_call 10; with_reducible refine (H1.out _).mono ?_; rintro e w1 ⟨v1, rfl, hO1, hb1⟩; obtain ⟨a1, c1, rfl, hR1, -⟩ := hO1.rd (by omega))
    | (go_at_call 10; with_reducible refine (H2.out _).mono ?_; rintro e w2 ⟨v2, rfl, hO2, hb2⟩; obtain ⟨a2, c2, rfl, hR2, -⟩ := hO2.rd (by omega))
    | (go_at_call 10; with_reducible refine (H3.out _).mono ?_; rintro e w3 ⟨v3, rfl, hO3, hb3⟩; obtain ⟨a3, c3, rfl, hR3, -⟩ := hO3.rd (by omega))
    | (go_at_call 10; with_reducible refine (H4.out _).mono ?_; rintro e w4 ⟨v4, rfl, hO4, hb4⟩; obtain ⟨a4, c4, rfl, hR4, -⟩ := hO4.rd (by omega))
    | (go_at_call 10; with_reducible refine (H7.out _).mono ?_; rintro e w7 ⟨v7, rfl, hO7, hb7⟩; obtain ⟨a7, c7, rfl, hR7, -⟩ := hO7.rd (by omega); rw [HL7.out] at hR7 ⊢)
    | (go_at_call 10; with_reducible refine (H5.out _).mono ?_; rintro e w5 ⟨v5, rfl, hb5⟩)
    | (go_at_call 10; with_reducible refine (H6.out _).mono ?_; rintro e w6 ⟨v6, rfl, hb6⟩)
    | ((with_reducible show wpList _ _ _ (⟨some 49, .build _ _, _, _, _, _⟩ :: _) _ _); refine wpList_buildTo rfl 41 _ rfl (some 49) rfl (bvs ZZ).toArray (by simpa [Act.eval] using HB0.out) ?_)
    | (go_at_call 17; refine (HH.out _).mono ?_; rintro e w8 ⟨rfl, hb8⟩)
    | ((with_reducible show wpList _ _ _ (⟨some 15, .alloc _, _, _, _, _⟩ :: _) _ _); refine wl_alloc rfl 41 rfl (bvs (Z8 32)) 32 infoD ?_; intro w9 hA9 hb9 hs9)
    | ((with_reducible show wpList _ _ _ (⟨some 16, .alloc _, _, _, _, _⟩ :: _) _ _); refine wl_alloc rfl 41 rfl (bvs (Z8 32)) 32 infoD ?_; intro w10 hA10 hb10 hs10)
    | ((with_reducible show wpList _ _ _ (⟨none, .store _ (.tmp 15) _, _, _, _, _⟩ :: _) _ _); refine wl_store rfl 41 _ _ rfl w8.heap.size 0 rfl (bvs ZZ) rfl 41 _ (hA9.kept hb10) IZ.out (by rw [Z32.out]; exact (by decide : 0 + 32 ≤ (bvs (Z8 32)).length)) (bvs_one _) ?_; intro w11 hA11 hg11 hs11)
    | ((with_reducible show wpList _ _ _ (⟨none, .store _ (.tmp 16) _, _, _, _, _⟩ :: _) _ _); refine wl_store rfl 41 _ _ rfl w9.heap.size 0 rfl (bvs ZZ) rfl 41 _ (hA10.grown hg11 (by intro e; injection e with e; have := hA9.lt; omega)) IZ.out (by rw [Z32.out]; exact (by decide : 0 + 32 ≤ (bvs (Z8 32)).length)) (bvs_one _) ?_; intro w12 hA12 hg12 hs12))
  have z1 := hb1.size
  have z2 := hb2.size
  have z3 := hb3.size
  have z4 := hb4.size
  have z5 := hb5.size
  have z6 := hb6.size
  have z7 := hb7.size
  have z8 := hb8.size
  have z9 := hb9.size
  have z10 := hb10.size
  have b812 : Below w8.heap.size w8 w12 := ((hb9.trans (hb10.mono z9)).grown hg11 (by omega) (by intro k e; injection e with e; omega)).grown hg12 (by omega) (by intro k e; injection e with e; omega)
  have b712 : Below w7.heap.size w7 w12 := hb8.trans (b812.mono z8)
  have b212 : Below w2.heap.size w2 w12 := ((((hb3.trans (hb4.mono z3)).trans (hb5.mono (by omega))).trans (hb6.mono (by omega))).trans (hb7.mono (by omega))).trans (b712.mono (by omega))
  have b112 : Below w1.heap.size w1 w12 := hb2.trans (b212.mono z2)
  have b012 : Below w.heap.size w w12 := hb1.trans (b112.mono z1)
  obtain ⟨q1, o1, rfl, -, -⟩ := hR1.mem (by simp)
  obtain ⟨q2, o2, rfl, -, -⟩ := hR2.mem (by simp)
  have P1 : Hid (∀ wx, Below w12.heap.size w12 wx → wx.rangeAt q1 o1 [.int .u64 4, .int .u64 7]) := fun wx hb => by
    have h := ((hR1.to b112).to hb).range 0 (by simp)
    rw [Nat.zero_mul, Nat.add_zero] at h
    exact h
  have P2 : Hid (∀ wx, Below w12.heap.size w12 wx → wx.rangeAt q2 o2 [.int .u64 4, .int .u64 6]) := fun wx hb => by
    have h := ((hR2.to b212).to hb).range 0 (by simp)
    rw [Nat.zero_mul, Nat.add_zero] at h
    exact h
  have P3 : Hid (∀ wx, Below w12.heap.size w12 wx → wx.rangeAt q2 (o2 + 2) [.int .u64 6, .int .u64 7]) := fun wx hb => ((hR2.to b212).to hb).range 1 (by simp)
  have P4 : Hid (∀ wx, Below w12.heap.size w12 wx → wx.rangeAt q2 (o2 + 4) [.int .u64 0, .int .u64 4]) := fun wx hb => ((hR2.to b212).to hb).range 2 (by simp)
  have B := Lib.hid b012
  clear hO1 hb1 hR1 hO2 hb2 hR2 hO3 hb3 hR3 hO4 hb4 hR4 hb5 hb6 hO7 hb7 hR7 hb8 hA9 hb9 hs9 hA10 hb10 hs10 hA11 hg11 hs11 hA12 hg12 hs12 z1 z2 z3 z4 z5 z6 z7 z8 z9 z10 b812 b712 b212 b112 b012 H1 H2 H3 H4 H5 H6 H7 HL7 HH
  go_simp
  go_upto_region 11 with (first
    | (go_at_call 21; refine (HRt.out _).mono ?_; rintro e w13 ⟨rfl, hb13⟩)
    | ((with_reducible show wpList _ _ _ (⟨some 18, .alloc _, _, _, _, _⟩ :: _) _ _); refine wl_alloc rfl 41 rfl (bvs (Z8 32)) 32 infoD ?_; intro w14 hA14 hb14 hs14)
    | ((with_reducible show wpList _ _ _ (⟨none, .store _ (.tmp 18) _, _, _, _, _⟩ :: _) _ _); refine wl_store rfl 41 _ _ rfl w13.heap.size 0 rfl (bvs E0) rfl 41 _ hA14 IE.out (by rw [E32.out]; exact (by decide : 0 + 32 ≤ (bvs (Z8 32)).length)) (bvs_one _) ?_; intro w15 hA15 hg15 hs15; clear hs15; rw [whole_store _ _ (by rw [E32.out]; rfl)] at hA15)
    | ((with_reducible show wpList _ _ _ (⟨some 55, .build _ _, _, _, _, _⟩ :: _) _ _); refine wpList_buildTo rfl 41 _ rfl (some 55) rfl (bvs X).toArray (by simpa [Act.eval] using HB5.out) ?_)
    | ((with_reducible show wpList _ _ _ (⟨some 19, .alloc _, _, _, _, _⟩ :: _) _ _); refine wl_alloc rfl 41 rfl (bvs (Z8 32)) 32 infoD ?_; intro w16 hA16 hb16 hs16)
    | ((with_reducible show wpList _ _ _ (⟨none, .store _ (.tmp 19) _, _, _, _, _⟩ :: _) _ _); refine wl_store rfl 41 _ _ rfl w15.heap.size 0 rfl (bvs X) rfl 41 _ hA16 IX.out (by rw [X32.out]; exact (by decide : 0 + 32 ≤ (bvs (Z8 32)).length)) (bvs_one _) ?_; intro w17 hA17 hg17 hs17; rw [whole_store _ _ (by rw [X32.out]; rfl)] at hA17))
  have z13 := hb13.size
  have z14 := hb14.size
  have z15 := hg15.size
  have b1317 : Below w13.heap.size w13 w17 := ((hb14.grown hg15 z14 (by intro k e; injection e with e; omega)).trans (hb16.mono (by omega))).grown hg17 (by have := hb16.size; omega) (by intro k e; injection e with e; omega)
  have b1217 : Below w12.heap.size w12 w17 := hb13.trans (b1317.mono z13)
  have A18 := (hA15.kept hb16).grown hg17 (by intro e; injection e with e; have := hA14.lt; omega)
  obtain ⟨g18, hg18⟩ : ∃ g, g = w13.heap.size := ⟨_, rfl⟩
  obtain ⟨g19, hg19⟩ : ∃ g, g = w15.heap.size := ⟨_, rfl⟩
  go_simp
  rw [← hg18, ← hg19]
  rw [← hg18] at A18
  rw [← hg19] at hA17
  have B17 := Lib.hid (B.out.trans (b1217.mono B.out.size))
  have H18 : Hid (∀ wx, Below w17.heap.size w17 wx → Arr wx g18 41 (bvs E0)) := fun wx hb => A18.kept hb
  have H19 : Hid (∀ wx, Below w17.heap.size w17 wx → Arr wx g19 41 (bvs X)) := fun wx hb => hA17.kept hb
  have B1217 := Lib.hid b1217
  clear hb13 hA14 hb14 hs14 hA15 hg15 hA16 hb16 hs16 hA17 hg17 hs17 z13 z14 z15 b1317 b1217 A18 hg18 hg19 HRt
  go_wp2_with (first
    | (go_at_call 12; refine (HW.out _).mono ?_; rintro e y0 ⟨rfl, hy0⟩; have by0 := Lib.hid hy0; have hk := B1217.out.trans (hy0.mono B1217.out.size); have k10 := P1.out _ hk 0 _ rfl; have k11 := P1.out _ hk 1 _ rfl; have k20 := P2.out _ hk 0 _ rfl; have k21 := P2.out _ hk 1 _ rfl; have k30 := P3.out _ hk 0 _ rfl; have k31 := P3.out _ hk 1 _ rfl; have k40 := P4.out _ hk 0 _ rfl; have k41 := P4.out _ hk 1 _ rfl; clear hk; simp only [Nat.add_zero] at k10 k20 k30 k40)
    | ((with_reducible show wpList _ _ _ (⟨some 159, .load _ _, _, _, _, _⟩ :: _) _ _); refine wl_loadG rfl 41 _ rfl g18 0 rfl 41 (bvs E0) (bvs E0) (H18.out _ by0.out) (fun j v h => (by rw [Nat.zero_add]; exact h)) (.array 32 5) Try.underlying41 rfl IE.out ?_)
    | ((with_reducible show wpList _ _ _ (⟨some 160, .load _ _, _, _, _, _⟩ :: _) _ _); refine wl_loadG rfl 41 _ rfl g19 0 rfl 41 (bvs X) (bvs X) (H19.out _ by0.out) (fun j v h => (by rw [Nat.zero_add]; exact h)) (.array 32 5) Try.underlying41 rfl IX.out ?_)
    | ((with_reducible show wpList _ _ _ (⟨some 164, .load _ _, _, _, _, _⟩ :: _) _ _); refine wl_loadG rfl 41 _ rfl g18 0 rfl 41 (bvs E0) (bvs E0) (H18.out _ by1.out) (fun j v h => (by rw [Nat.zero_add]; exact h)) (.array 32 5) Try.underlying41 rfl IE.out ?_)
    | ((with_reducible show wpList _ _ _ (⟨some 165, .load _ _, _, _, _, _⟩ :: _) _ _); refine wl_loadG rfl 41 _ rfl g18 0 rfl 41 (bvs E0) (bvs E0) (H18.out _ by1.out) (fun j v h => (by rw [Nat.zero_add]; exact h)) (.array 32 5) Try.underlying41 rfl IE.out ?_)
    | ((with_reducible show wpList _ _ _ (⟨some 169, .load _ _, _, _, _, _⟩ :: _) _ _); refine wl_loadG rfl 41 _ rfl g19 0 rfl 41 (bvs X) (bvs X) (H19.out _ by2.out) (fun j v h => (by rw [Nat.zero_add]; exact h)) (.array 32 5) Try.underlying41 rfl IX.out ?_)
    | ((with_reducible show wpList _ _ _ (⟨some 170, .load _ _, _, _, _, _⟩ :: _) _ _); refine wl_loadG rfl 41 _ rfl g19 0 rfl 41 (bvs X) (bvs X) (H19.out _ by2.out) (fun j v h => (by rw [Nat.zero_add]; exact h)) (.array 32 5) Try.underlying41 rfl IX.out ?_)
    | ((with_reducible show wpList _ _ _ (⟨some 175, .load _ _, _, _, _, _⟩ :: _) _ _); refine wl_loadG rfl 41 _ rfl g19 0 rfl 41 (bvs X) (bvs X) (H19.out _ by3.out) (fun j v h => (by rw [Nat.zero_add]; exact h)) (.array 32 5) Try.underlying41 rfl IX.out ?_)
    | ((with_reducible show wpList _ _ _ (⟨some 176, .load _ _, _, _, _, _⟩ :: _) _ _); refine wl_loadG rfl 41 _ rfl g19 0 rfl 41 (bvs X) (bvs X) (H19.out _ by3.out) (fun j v h => (by rw [Nat.zero_add]; exact h)) (.array 32 5) Try.underlying41 rfl IX.out ?_)
    | ((with_reducible show wpList _ _ _ (⟨some 180, .load _ _, _, _, _, _⟩ :: _) _ _); refine wl_loadG rfl 41 _ rfl g19 0 rfl 41 (bvs X) (bvs X) (H19.out _ by4.out) (fun j v h => (by rw [Nat.zero_add]; exact h)) (.array 32 5) Try.underlying41 rfl IX.out ?_)
    | ((with_reducible show wpList _ _ _ (⟨some 181, .load _ _, _, _, _, _⟩ :: _) _ _); refine wl_loadG rfl 41 _ rfl g18 0 rfl 41 (bvs E0) (bvs E0) (H18.out _ by4.out) (fun j v h => (by rw [Nat.zero_add]; exact h)) (.array 32 5) Try.underlying41 rfl IE.out ?_)
    | ((with_reducible show wpList _ _ _ (⟨some 186, .load _ _, _, _, _, _⟩ :: _) _ _); refine wl_loadG rfl 41 _ rfl g18 0 rfl 41 (bvs E0) (bvs E0) (H18.out _ by5.out) (fun j v h => (by rw [Nat.zero_add]; exact h)) (.array 32 5) Try.underlying41 rfl IE.out ?_)
    | ((with_reducible show wpList _ _ _ (⟨some 187, .load _ _, _, _, _, _⟩ :: _) _ _); refine wl_loadG rfl 41 _ rfl g19 0 rfl 41 (bvs X) (bvs X) (H19.out _ by5.out) (fun j v h => (by rw [Nat.zero_add]; exact h)) (.array 32 5) Try.underlying41 rfl IX.out ?_)
    | (go_at_call 19; with_reducible refine (V1.out _).mono ?_; rintro e y1 ⟨rfl, hy1⟩; have by1 := Lib.hid (by0.out.trans (hy1.mono by0.out.size)))
    | (go_at_call 19; with_reducible refine (V2.out _).mono ?_; rintro e y2 ⟨rfl, hy2⟩; have by2 := Lib.hid (by1.out.trans (hy2.mono by1.out.size)))
    | (go_at_call 19; with_reducible refine (V3.out _).mono ?_; rintro e y3 ⟨rfl, hy3⟩; have by3 := Lib.hid (by2.out.trans (hy3.mono by2.out.size)))
    | (go_at_call 19; with_reducible refine (V4.out _).mono ?_; rintro e y4 ⟨rfl, hy4⟩; have by4 := Lib.hid (by3.out.trans (hy4.mono by3.out.size)))
    | (go_at_call 19; with_reducible refine (V5.out _).mono ?_; rintro e y5 ⟨rfl, hy5⟩; have by5 := Lib.hid (by4.out.trans (hy5.mono by4.out.size)))
    | (go_at_call 19; with_reducible refine (V6.out _).mono ?_; rintro e y6 ⟨rfl, hy6⟩; have by6 := Lib.hid (by5.out.trans (hy6.mono by5.out.size))))
  go_ret
  exact ⟨rfl, B17.out.trans (by6.out.mono B17.out.size)⟩
end Go.Proofs.Ytcnnblhjgligbaa
