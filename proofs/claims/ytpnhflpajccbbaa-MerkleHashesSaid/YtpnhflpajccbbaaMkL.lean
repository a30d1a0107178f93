/-
  Layer 8: MerkleHashes as a call, over what is known of the program's Leaf, Node, Leaves and of the chapter's rows. Conditions: those in each statement.
-/
import Derived.Test.YtpnhflpajccbbaaMkK
namespace Go.Proofs.Ytpnhflpajccbbaa
open Go.RowKit

theorem eqIn {xs : List UInt8} (hx : xs.length = 32) (w : World) : (Op.equalIn 10000 25 (.agg (bvs xs).toArray) (.agg (bvs xs).toArray)).run Try.prog w = .ok true w := by
  obtain ⟨i, hi⟩ := Option.isSome_iff_exists.1 infoSome
  have h := run_equalIn_array w 9999 (bvs xs).toArray (bvs xs).toArray Try.underlying25 hi
  rw [cells1, show (9999 : Nat) = 9998 + 1 from rfl, run_eqItems_bytes Try.underlying5 9998 xs xs _ (fun j hj => by have := List.mem_range.1 hj; omega), all_range hx hx] at h
  simpa using h
/-- what is known of the program's functions -/
structure PHash : Prop where
  leaf : ∀ (xs : List UInt8) (a : Option Addr) (n c : Nat) (w : World), n ≤ 140737488352000 → Rd w a n c xs → Calls Try.prog 17 #[.slice a n c] w fun e w' => e = .returned (.agg (bvs (leafH xs)).toArray) ∧ Below w.heap.size w w'
  node : ∀ (x y : List UInt8) (w : World), x.length = 32 → y.length = 32 → Calls Try.prog 19 #[.agg (bvs x).toArray, .agg (bvs y).toArray] w fun e w' => e = .returned (.agg (bvs (nodeH x y)).toArray) ∧ Below w.heap.size w w'
  leaves : ∀ (B : List (List UInt8)) (a : Option Addr) (n c : Nat) (w : World), n ≤ 5900000000000 → RdR w a n c B → Calls Try.prog 21 #[.slice a n c] w fun e w' => ∃ v, e = .returned v ∧ OwnD w' w.heap.size v (B.map leafH) ∧ Below w.heap.size w w'
  wakes : ∀ w : World, Calls Try.prog 16 #[] w fun e w' => e = .returned (.bool true) ∧ Below w.heap.size w w'
structure InvHashes (X Y S1 S2 : List UInt8) (LL : List (List UInt8)) (ab am al : Option Addr) (n c nm cm nl cl gx gy : Nat) (T : List UInt8) (wb : World) (L : Nat → Bool) (v12 v13 v14 v15 v16 v17 v18 v19 v20 v21 v22 v23 v24 v25 v26 v27 v28 v29 v30 v31 v32 v33 v34 v35 v36 v37 v38 v39 v40 v41 v42 v8 : Value) (wx : World) : Prop where
  t0 : L 0 = true → v12 = .slice am nm cm
  t1 : L 1 = true → v13 = .agg (bvs S1).toArray
  t2 : L 2 = true → v14 = .slice ab n c
  t3 : L 3 = true → v15 = .agg (bvs S1).toArray
  t4 : L 4 = true → v16 = .bool true
  t5 : L 5 = true → v17 = .bool true
  t6 : L 6 = true → v18 = .slice am nm cm
  t7 : L 7 = true → v19 = .string (bstr T)
  t8 : L 8 = true → v20 = .slice ab n c
  t9 : L 9 = true → v21 = .string (bstr T)
  t10 : L 10 = true → v22 = .bool true
  t11 : L 11 = true → v23 = .bool true
  t12 : L 12 = true → v24 = .bool true
  t13 : L 13 = true → v25 = .agg (bvs X).toArray
  t14 : L 14 = true → v26 = .agg (bvs Y).toArray
  t15 : L 15 = true → v27 = .agg (bvs S2).toArray
  t16 : L 16 = true → v28 = .agg (bvs X).toArray
  t17 : L 17 = true → v29 = .agg (bvs Y).toArray
  t18 : L 18 = true → v30 = .agg (bvs S2).toArray
  t19 : L 19 = true → v31 = .bool true
  t20 : L 20 = true → v32 = .bool true
  t21 : L 21 = true → v33 = .bool true
  t22 : L 22 = true → v34 = .slice al nl cl
  t23 : L 23 = true → ∃ (a1 : Option Addr) (c1 : Nat), v35 = .slice a1 LL.length c1 ∧ RdD wx a1 LL.length c1 LL
  t24 : L 24 = true → v36 = .slice al nl cl
  t25 : L 25 = true → ∃ (a1 : Option Addr) (c1 : Nat), v37 = .slice a1 LL.length c1 ∧ RdD wx a1 LL.length c1 LL
  t26 : L 26 = true → v38 = .bool true
  t27 : L 27 = true → v39 = .bool true
  t28 : L 28 = true → v40 = .bool true
  t29 : L 29 = true → v41 = .bool true
  t30 : L 30 = true → v42 = .bool true
  t31 : L 31 = true → v8 = .bool true
  bw : Below wb.heap.size wb wx


set_option maxRecDepth 100000 in
set_option maxHeartbeats 6400000 in
theorem Hashes_any (hp : PHash) (xs x y : List UInt8) (B : List (List UInt8)) (ab al : Option Addr) (n c nl cl : Nat) (w : World) (hn : n ≤ 140737488352000) (hnl : nl ≤ 5900000000000) (hx : x.length = 32) (hy : y.length = 32) (hr : Rd w ab n c xs) (hl : RdR w al nl cl B) :
    Calls Try.prog 4 #[.slice ab n c, .agg (bvs x).toArray, .agg (bvs y).toArray, .slice al nl cl] w fun e w' => e = .returned (.bool true) ∧ Below w.heap.size w w' := by
  have hlen := hr.len
  go_enter Try.func4, Try.ntmps4
  go_upto_region 2 with (first
    | ((with_reducible show wpList _ _ _ (⟨some 5, .box _ _, _, _, _, _⟩ :: _) _ _); refine wl_box rfl 25 _ rfl (bvs x) rfl ?_; intro w1 hA1 hb1 hs1)
    | ((with_reducible show wpList _ _ _ (⟨some 6, .box _ _, _, _, _, _⟩ :: _) _ _); refine wl_box rfl 25 _ rfl (bvs y) rfl ?_; intro w2 hA2 hb2 hs2)
    | (at_builtin; refine wl_append bt rfl (.const (.slice none 0 0)) (.tmp 10) rfl w2.heap.size _ [] (Own.nil _ _ _) rfl ab n c xs rfl ((hr.to hb1).to (hb2.mono (by omega))) (by simp; omega) (Nat.le_refl _) ?_; intro v3 wm ho3 hb3; obtain ⟨am, nm, cm, rfl, hr3⟩ := ho3.reads))
  have hb12 : Below w.heap.size w w2 := hb1.trans (hb2.mono (by omega))
  have hB : Below w.heap.size w wm := hb12.trans (hb3.mono (by omega))
  have HB := Lib.hid hB
  have HBs := Lib.hid hB.size
  have hrm : Rd wm am nm cm xs := hr3.toRd
  have hra : Rd wm ab n c xs := hr.to hB
  have hrl : RdR wm al nl cl B := hl.to hB
  have hnm : nm = n := by rw [← hrm.len, hlen]
  have A5 := Lib.hid ((hA1.kept hb2).kept hb3)
  have A6 := Lib.hid (hA2.kept hb3)
  have h32x : Hid ((Try.prog.info? 25).map (·.size) = some (bvs x).length) := by show _ = _; rw [bvs_len, hx]; exact sizeD
  have h32y : Hid ((Try.prog.info? 25).map (·.size) = some (bvs y).length) := by show _ = _; rw [bvs_len, hy]; exact sizeD
  have HL1 : Hid (∀ wx, Below wm.heap.size wm wx → _) := fun wx hb => hp.leaf xs am nm cm wx (by omega) (hrm.to hb)
  have HL2 : Hid (∀ wx, Below wm.heap.size wm wx → _) := fun wx hb => rLeaf_any xs ab n c wx (by omega) (hra.to hb)
  have HC1 : Hid (∀ wx, Below wm.heap.size wm wx → _) := fun wx hb => run_bstr bt (S := 9) Try.underlying9 (hrm.to hb)
  have HC2 : Hid (∀ wx, Below wm.heap.size wm wx → _) := fun wx hb => run_bstr bt (S := 9) Try.underlying9 (hra.to hb)
  have HN1 : Hid (∀ wx, _) := fun wx => hp.node x y wx hx hy
  have HN2 : Hid (∀ wx, _) := fun wx => rNode_any x y wx hx hy
  have HV1 : Hid (∀ wx, Below wm.heap.size wm wx → _) := fun wx hb => hp.leaves B al nl cl wx hnl (hrl.to hb)
  have HV2 : Hid (∀ wx, Below wm.heap.size wm wx → _) := fun wx hb => rLeaves_any B al nl cl wx hnl (hrl.to hb)
  have hBl : (B.map leafH).length ≤ 2 ^ 50 := by rw [List.length_map, hl.len]; omega
  have HSm : Hid (∀ (wx : World) (a1 : Option Addr) (c1 : Nat) (a2 : Option Addr) (c2 : Nat), RdD wx a1 (B.map leafH).length c1 (B.map leafH) → RdD wx a2 (B.map leafH).length c2 (B.map leafH) → Calls Try.prog 15 #[.slice a1 (B.map leafH).length c1, .slice a2 (B.map leafH).length c2] wx fun e w' => e = .returned (.bool true) ∧ Below wx.heap.size wx w') := fun wx a1 c1 a2 c2 h1 h2 => by
    have := rSame_any _ _ a1 a2 _ _ c1 c2 wx h1 h2 hBl hBl
    rwa [decide_eq_true (rfl : B.map leafH = B.map leafH)] at this
  have HWk : Hid (∀ wx, _) := fun wx => hp.wakes wx
  have HQ1 : Hid (∀ w, _) := fun w => eqIn (shaL_len (0 :: xs)) w
  have HQ2 : Hid (∀ w, _) := fun w => eqIn (shaL_len (1 :: (x ++ y))) w
  rw [show shaL (0 :: xs) = leafH xs from rfl] at HQ1
  rw [show shaL (1 :: (x ++ y)) = nodeH x y from rfl] at HQ2
  generalize leafH xs = S1 at *
  generalize nodeH x y = S2 at *
  generalize B.map leafH = LL at *
  generalize w1.heap.size = gy at *
  clear hA1 hA2 hb1 hb2 hb3 hb12 hrm hra hrl hnm hBl hr hl hr3 ho3 hx hy hB hlen hs1 hs2
  refine wp_region_steps [[], [0], [], [2], [1, 3], [4], [5], [6, 5], [5], [8, 5], [7, 9, 5], [5, 10], [11], [12], [12], [13, 14, 12], [12], [12], [16, 17, 12], [15, 18, 12], [12, 19], [20], [21], [22, 21], [21], [24, 21], [23, 25, 21], [21, 26], [27], [28], [28, 29], [30]] (by kernel_rfl) (by kernel_rfl) (fun L a wx => ∃ v12 v13 v14 v15 v16 v17 v18 v19 v20 v21 v22 v23 v24 v25 v26 v27 v28 v29 v30 v31 v32 v33 v34 v35 v36 v37 v38 v39 v40 v41 v42 v8, a = ⟨#[.slice ab n c, .agg (bvs x).toArray, .agg (bvs y).toArray, .slice al nl cl, undef, .pointer (some ⟨w.heap.size, 0, none⟩), .pointer (some ⟨gy, 0, none⟩), undef, v8, .slice am nm cm, .slice ab n c, .slice am nm cm, v12, v13, v14, v15, v16, v17, v18, v19, v20, v21, v22, v23, v24, v25, v26, v27, v28, v29, v30, v31, v32, v33, v34, v35, v36, v37, v38, v39, v40, v41, v42], []⟩ ∧ InvHashes x y S1 S2 LL ab am al n c nm cm nl cl w.heap.size gy xs wm L v12 v13 v14 v15 v16 v17 v18 v19 v20 v21 v22 v23 v24 v25 v26 v27 v28 v29 v30 v31 v32 v33 v34 v35 v36 v37 v38 v39 v40 v41 v42 v8 wx) ?_ ⟨?_, ?_, ?_, ?_, ?_, ?_, ?_, ?_, ?_, ?_, ?_, ?_, ?_, ?_, ?_, ?_, ?_, ?_, ?_, ?_, ?_, ?_, ?_, ?_, ?_, ?_, ?_, ?_, ?_, ?_, ?_, ?_, trivial⟩ ?_
  · refine ⟨_, _, _, _, _, _, _, _, _, _, _, _, _, _, _, _, _, _, _, _, _, _, _, _, _, _, _, _, _, _, _, _, rfl, ⟨?_, ?_, ?_, ?_, ?_, ?_, ?_, ?_, ?_, ?_, ?_, ?_, ?_, ?_, ?_, ?_, ?_, ?_, ?_, ?_, ?_, ?_, ?_, ?_, ?_, ?_, ?_, ?_, ?_, ?_, ?_, ?_, (Below.refl _ _).drew⟩⟩ <;> (intro h; exact absurd h (by decide))
  · rintro L a wx ⟨v12, v13, v14, v15, v16, v17, v18, v19, v20, v21, v22, v23, v24, v25, v26, v27, v28, v29, v30, v31, v32, v33, v34, v35, v36, v37, v38, v39, v40, v41, v42, v8, rfl, hI⟩ hL hdep hcl K hK
    go_simp
    exact hK _ _ ⟨_, v13, v14, v15, v16, v17, v18, v19, v20, v21, v22, v23, v24, v25, v26, v27, v28, v29, v30, v31, v32, v33, v34, v35, v36, v37, v38, v39, v40, v41, v42, v8, rfl, ⟨fun _ => rfl, hI.t1, hI.t2, hI.t3, hI.t4, hI.t5, hI.t6, hI.t7, hI.t8, hI.t9, hI.t10, hI.t11, hI.t12, hI.t13, hI.t14, hI.t15, hI.t16, hI.t17, hI.t18, hI.t19, hI.t20, hI.t21, hI.t22, hI.t23, hI.t24, hI.t25, hI.t26, hI.t27, hI.t28, hI.t29, hI.t30, hI.t31, hI.bw⟩⟩
  · rintro L a wx ⟨v12, v13, v14, v15, v16, v17, v18, v19, v20, v21, v22, v23, v24, v25, v26, v27, v28, v29, v30, v31, v32, v33, v34, v35, v36, v37, v38, v39, v40, v41, v42, v8, rfl, hI⟩ hL hdep hcl K hK
    obtain rfl := hI.t0 (hdep 0 (by decide))
    go_simp
    refine (HL1.out wx hI.bw).mono ?_
    rintro e w' ⟨rfl, hb⟩
    exact hK _ _ ⟨_, _, v14, v15, v16, v17, v18, v19, v20, v21, v22, v23, v24, v25, v26, v27, v28, v29, v30, v31, v32, v33, v34, v35, v36, v37, v38, v39, v40, v41, v42, v8, rfl, ⟨hI.t0, fun _ => rfl, hI.t2, hI.t3, hI.t4, hI.t5, hI.t6, hI.t7, hI.t8, hI.t9, hI.t10, hI.t11, hI.t12, hI.t13, hI.t14, hI.t15, hI.t16, hI.t17, hI.t18, hI.t19, hI.t20, hI.t21, hI.t22, fun h => (hI.t23 h).elim fun a h => h.elim fun c h => ⟨a, c, h.1, h.2.to hb⟩, hI.t24, fun h => (hI.t25 h).elim fun a h => h.elim fun c h => ⟨a, c, h.1, h.2.to hb⟩, hI.t26, hI.t27, hI.t28, hI.t29, hI.t30, hI.t31, (hI.bw).trans (hb.mono (hI.bw).size)⟩⟩
  · rintro L a wx ⟨v12, v13, v14, v15, v16, v17, v18, v19, v20, v21, v22, v23, v24, v25, v26, v27, v28, v29, v30, v31, v32, v33, v34, v35, v36, v37, v38, v39, v40, v41, v42, v8, rfl, hI⟩ hL hdep hcl K hK
    go_simp
    exact hK _ _ ⟨v12, v13, _, v15, v16, v17, v18, v19, v20, v21, v22, v23, v24, v25, v26, v27, v28, v29, v30, v31, v32, v33, v34, v35, v36, v37, v38, v39, v40, v41, v42, v8, rfl, ⟨hI.t0, hI.t1, fun _ => rfl, hI.t3, hI.t4, hI.t5, hI.t6, hI.t7, hI.t8, hI.t9, hI.t10, hI.t11, hI.t12, hI.t13, hI.t14, hI.t15, hI.t16, hI.t17, hI.t18, hI.t19, hI.t20, hI.t21, hI.t22, hI.t23, hI.t24, hI.t25, hI.t26, hI.t27, hI.t28, hI.t29, hI.t30, hI.t31, hI.bw⟩⟩
  · rintro L a wx ⟨v12, v13, v14, v15, v16, v17, v18, v19, v20, v21, v22, v23, v24, v25, v26, v27, v28, v29, v30, v31, v32, v33, v34, v35, v36, v37, v38, v39, v40, v41, v42, v8, rfl, hI⟩ hL hdep hcl K hK
    obtain rfl := hI.t2 (hdep 2 (by decide))
    go_simp
    refine (HL2.out wx hI.bw).mono ?_
    rintro e w' ⟨rfl, hb⟩
    exact hK _ _ ⟨v12, v13, _, _, v16, v17, v18, v19, v20, v21, v22, v23, v24, v25, v26, v27, v28, v29, v30, v31, v32, v33, v34, v35, v36, v37, v38, v39, v40, v41, v42, v8, rfl, ⟨hI.t0, hI.t1, hI.t2, fun _ => rfl, hI.t4, hI.t5, hI.t6, hI.t7, hI.t8, hI.t9, hI.t10, hI.t11, hI.t12, hI.t13, hI.t14, hI.t15, hI.t16, hI.t17, hI.t18, hI.t19, hI.t20, hI.t21, hI.t22, fun h => (hI.t23 h).elim fun a h => h.elim fun c h => ⟨a, c, h.1, h.2.to hb⟩, hI.t24, fun h => (hI.t25 h).elim fun a h => h.elim fun c h => ⟨a, c, h.1, h.2.to hb⟩, hI.t26, hI.t27, hI.t28, hI.t29, hI.t30, hI.t31, (hI.bw).trans (hb.mono (hI.bw).size)⟩⟩
  · rintro L a wx ⟨v12, v13, v14, v15, v16, v17, v18, v19, v20, v21, v22, v23, v24, v25, v26, v27, v28, v29, v30, v31, v32, v33, v34, v35, v36, v37, v38, v39, v40, v41, v42, v8, rfl, hI⟩ hL hdep hcl K hK
    obtain rfl := hI.t1 (hdep 1 (by decide))
    obtain rfl := hI.t3 (hdep 3 (by decide))
    have hq := HQ1.out wx
    go_simp
    exact hK _ _ ⟨v12, _, v14, _, _, v17, v18, v19, v20, v21, v22, v23, v24, v25, v26, v27, v28, v29, v30, v31, v32, v33, v34, v35, v36, v37, v38, v39, v40, v41, v42, v8, rfl, ⟨hI.t0, hI.t1, hI.t2, hI.t3, fun _ => rfl, hI.t5, hI.t6, hI.t7, hI.t8, hI.t9, hI.t10, hI.t11, hI.t12, hI.t13, hI.t14, hI.t15, hI.t16, hI.t17, hI.t18, hI.t19, hI.t20, hI.t21, hI.t22, hI.t23, hI.t24, hI.t25, hI.t26, hI.t27, hI.t28, hI.t29, hI.t30, hI.t31, hI.bw⟩⟩
  · rintro L a wx ⟨v12, v13, v14, v15, v16, v17, v18, v19, v20, v21, v22, v23, v24, v25, v26, v27, v28, v29, v30, v31, v32, v33, v34, v35, v36, v37, v38, v39, v40, v41, v42, v8, rfl, hI⟩ hL hdep hcl K hK
    obtain rfl := hI.t4 (hdep 4 (by decide))
    go_simp
    exact hK _ _ ⟨v12, v13, v14, v15, _, _, v18, v19, v20, v21, v22, v23, v24, v25, v26, v27, v28, v29, v30, v31, v32, v33, v34, v35, v36, v37, v38, v39, v40, v41, v42, v8, rfl, ⟨hI.t0, hI.t1, hI.t2, hI.t3, hI.t4, fun _ => rfl, hI.t6, hI.t7, hI.t8, hI.t9, hI.t10, hI.t11, hI.t12, hI.t13, hI.t14, hI.t15, hI.t16, hI.t17, hI.t18, hI.t19, hI.t20, hI.t21, hI.t22, hI.t23, hI.t24, hI.t25, hI.t26, hI.t27, hI.t28, hI.t29, hI.t30, hI.t31, hI.bw⟩⟩
  · rintro L a wx ⟨v12, v13, v14, v15, v16, v17, v18, v19, v20, v21, v22, v23, v24, v25, v26, v27, v28, v29, v30, v31, v32, v33, v34, v35, v36, v37, v38, v39, v40, v41, v42, v8, rfl, hI⟩ hL hdep hcl K hK
    obtain rfl := hI.t5 (hdep 5 (by decide))
    refine (if_pos rfl).mpr ?_
    go_simp
    exact hK _ _ ⟨v12, v13, v14, v15, v16, _, _, v19, v20, v21, v22, v23, v24, v25, v26, v27, v28, v29, v30, v31, v32, v33, v34, v35, v36, v37, v38, v39, v40, v41, v42, v8, rfl, ⟨hI.t0, hI.t1, hI.t2, hI.t3, hI.t4, hI.t5, fun _ => rfl, hI.t7, hI.t8, hI.t9, hI.t10, hI.t11, hI.t12, hI.t13, hI.t14, hI.t15, hI.t16, hI.t17, hI.t18, hI.t19, hI.t20, hI.t21, hI.t22, hI.t23, hI.t24, hI.t25, hI.t26, hI.t27, hI.t28, hI.t29, hI.t30, hI.t31, hI.bw⟩⟩
  · rintro L a wx ⟨v12, v13, v14, v15, v16, v17, v18, v19, v20, v21, v22, v23, v24, v25, v26, v27, v28, v29, v30, v31, v32, v33, v34, v35, v36, v37, v38, v39, v40, v41, v42, v8, rfl, hI⟩ hL hdep hcl K hK
    obtain rfl := hI.t6 (hdep 6 (by decide))
    obtain rfl := hI.t5 (hdep 5 (by decide))
    refine (if_pos rfl).mpr ?_
    have hq := HC1.out wx hI.bw
    go_simp
    exact hK _ _ ⟨v12, v13, v14, v15, v16, _, _, _, v20, v21, v22, v23, v24, v25, v26, v27, v28, v29, v30, v31, v32, v33, v34, v35, v36, v37, v38, v39, v40, v41, v42, v8, rfl, ⟨hI.t0, hI.t1, hI.t2, hI.t3, hI.t4, hI.t5, hI.t6, fun _ => rfl, hI.t8, hI.t9, hI.t10, hI.t11, hI.t12, hI.t13, hI.t14, hI.t15, hI.t16, hI.t17, hI.t18, hI.t19, hI.t20, hI.t21, hI.t22, hI.t23, hI.t24, hI.t25, hI.t26, hI.t27, hI.t28, hI.t29, hI.t30, hI.t31, hI.bw⟩⟩
  · rintro L a wx ⟨v12, v13, v14, v15, v16, v17, v18, v19, v20, v21, v22, v23, v24, v25, v26, v27, v28, v29, v30, v31, v32, v33, v34, v35, v36, v37, v38, v39, v40, v41, v42, v8, rfl, hI⟩ hL hdep hcl K hK
    obtain rfl := hI.t5 (hdep 5 (by decide))
    refine (if_pos rfl).mpr ?_
    go_simp
    exact hK _ _ ⟨v12, v13, v14, v15, v16, _, v18, v19, _, v21, v22, v23, v24, v25, v26, v27, v28, v29, v30, v31, v32, v33, v34, v35, v36, v37, v38, v39, v40, v41, v42, v8, rfl, ⟨hI.t0, hI.t1, hI.t2, hI.t3, hI.t4, hI.t5, hI.t6, hI.t7, fun _ => rfl, hI.t9, hI.t10, hI.t11, hI.t12, hI.t13, hI.t14, hI.t15, hI.t16, hI.t17, hI.t18, hI.t19, hI.t20, hI.t21, hI.t22, hI.t23, hI.t24, hI.t25, hI.t26, hI.t27, hI.t28, hI.t29, hI.t30, hI.t31, hI.bw⟩⟩
  · rintro L a wx ⟨v12, v13, v14, v15, v16, v17, v18, v19, v20, v21, v22, v23, v24, v25, v26, v27, v28, v29, v30, v31, v32, v33, v34, v35, v36, v37, v38, v39, v40, v41, v42, v8, rfl, hI⟩ hL hdep hcl K hK
    obtain rfl := hI.t8 (hdep 8 (by decide))
    obtain rfl := hI.t5 (hdep 5 (by decide))
    refine (if_pos rfl).mpr ?_
    have hq := HC2.out wx hI.bw
    go_simp
    exact hK _ _ ⟨v12, v13, v14, v15, v16, _, v18, v19, _, _, v22, v23, v24, v25, v26, v27, v28, v29, v30, v31, v32, v33, v34, v35, v36, v37, v38, v39, v40, v41, v42, v8, rfl, ⟨hI.t0, hI.t1, hI.t2, hI.t3, hI.t4, hI.t5, hI.t6, hI.t7, hI.t8, fun _ => rfl, hI.t10, hI.t11, hI.t12, hI.t13, hI.t14, hI.t15, hI.t16, hI.t17, hI.t18, hI.t19, hI.t20, hI.t21, hI.t22, hI.t23, hI.t24, hI.t25, hI.t26, hI.t27, hI.t28, hI.t29, hI.t30, hI.t31, hI.bw⟩⟩
  · rintro L a wx ⟨v12, v13, v14, v15, v16, v17, v18, v19, v20, v21, v22, v23, v24, v25, v26, v27, v28, v29, v30, v31, v32, v33, v34, v35, v36, v37, v38, v39, v40, v41, v42, v8, rfl, hI⟩ hL hdep hcl K hK
    obtain rfl := hI.t7 (hdep 7 (by decide))
    obtain rfl := hI.t9 (hdep 9 (by decide))
    obtain rfl := hI.t5 (hdep 5 (by decide))
    refine (if_pos rfl).mpr ?_
    go_simp
    exact hK _ _ ⟨v12, v13, v14, v15, v16, _, v18, _, v20, _, _, v23, v24, v25, v26, v27, v28, v29, v30, v31, v32, v33, v34, v35, v36, v37, v38, v39, v40, v41, v42, v8, rfl, ⟨hI.t0, hI.t1, hI.t2, hI.t3, hI.t4, hI.t5, hI.t6, hI.t7, hI.t8, hI.t9, fun _ => rfl, hI.t11, hI.t12, hI.t13, hI.t14, hI.t15, hI.t16, hI.t17, hI.t18, hI.t19, hI.t20, hI.t21, hI.t22, hI.t23, hI.t24, hI.t25, hI.t26, hI.t27, hI.t28, hI.t29, hI.t30, hI.t31, hI.bw⟩⟩
  · rintro L a wx ⟨v12, v13, v14, v15, v16, v17, v18, v19, v20, v21, v22, v23, v24, v25, v26, v27, v28, v29, v30, v31, v32, v33, v34, v35, v36, v37, v38, v39, v40, v41, v42, v8, rfl, hI⟩ hL hdep hcl K hK
    obtain rfl := hI.t5 (hdep 5 (by decide))
    obtain rfl := hI.t10 (hdep 10 (by decide))
    go_simp
    exact hK _ _ ⟨v12, v13, v14, v15, v16, _, v18, v19, v20, v21, _, _, v24, v25, v26, v27, v28, v29, v30, v31, v32, v33, v34, v35, v36, v37, v38, v39, v40, v41, v42, v8, rfl, ⟨hI.t0, hI.t1, hI.t2, hI.t3, hI.t4, hI.t5, hI.t6, hI.t7, hI.t8, hI.t9, hI.t10, fun _ => rfl, hI.t12, hI.t13, hI.t14, hI.t15, hI.t16, hI.t17, hI.t18, hI.t19, hI.t20, hI.t21, hI.t22, hI.t23, hI.t24, hI.t25, hI.t26, hI.t27, hI.t28, hI.t29, hI.t30, hI.t31, hI.bw⟩⟩
  · rintro L a wx ⟨v12, v13, v14, v15, v16, v17, v18, v19, v20, v21, v22, v23, v24, v25, v26, v27, v28, v29, v30, v31, v32, v33, v34, v35, v36, v37, v38, v39, v40, v41, v42, v8, rfl, hI⟩ hL hdep hcl K hK
    obtain rfl := hI.t11 (hdep 11 (by decide))
    go_simp
    exact hK _ _ ⟨v12, v13, v14, v15, v16, v17, v18, v19, v20, v21, v22, _, _, v25, v26, v27, v28, v29, v30, v31, v32, v33, v34, v35, v36, v37, v38, v39, v40, v41, v42, v8, rfl, ⟨hI.t0, hI.t1, hI.t2, hI.t3, hI.t4, hI.t5, hI.t6, hI.t7, hI.t8, hI.t9, hI.t10, hI.t11, fun _ => rfl, hI.t13, hI.t14, hI.t15, hI.t16, hI.t17, hI.t18, hI.t19, hI.t20, hI.t21, hI.t22, hI.t23, hI.t24, hI.t25, hI.t26, hI.t27, hI.t28, hI.t29, hI.t30, hI.t31, hI.bw⟩⟩
  · rintro L a wx ⟨v12, v13, v14, v15, v16, v17, v18, v19, v20, v21, v22, v23, v24, v25, v26, v27, v28, v29, v30, v31, v32, v33, v34, v35, v36, v37, v38, v39, v40, v41, v42, v8, rfl, hI⟩ hL hdep hcl K hK
    obtain rfl := hI.t12 (hdep 12 (by decide))
    refine (if_pos rfl).mpr ?_
    refine ow_load 25 _ rfl w.heap.size 0 rfl 25 (bvs x) (bvs x) (A5.out.kept hI.bw) (fun j v h => by rw [Nat.zero_add]; exact h) (.array 32 5) Try.underlying25 rfl h32x.out ?_
    exact hK _ _ ⟨v12, v13, v14, v15, v16, v17, v18, v19, v20, v21, v22, v23, _, _, v26, v27, v28, v29, v30, v31, v32, v33, v34, v35, v36, v37, v38, v39, v40, v41, v42, v8, rfl, ⟨hI.t0, hI.t1, hI.t2, hI.t3, hI.t4, hI.t5, hI.t6, hI.t7, hI.t8, hI.t9, hI.t10, hI.t11, hI.t12, fun _ => rfl, hI.t14, hI.t15, hI.t16, hI.t17, hI.t18, hI.t19, hI.t20, hI.t21, hI.t22, hI.t23, hI.t24, hI.t25, hI.t26, hI.t27, hI.t28, hI.t29, hI.t30, hI.t31, hI.bw⟩⟩
  · rintro L a wx ⟨v12, v13, v14, v15, v16, v17, v18, v19, v20, v21, v22, v23, v24, v25, v26, v27, v28, v29, v30, v31, v32, v33, v34, v35, v36, v37, v38, v39, v40, v41, v42, v8, rfl, hI⟩ hL hdep hcl K hK
    obtain rfl := hI.t12 (hdep 12 (by decide))
    refine (if_pos rfl).mpr ?_
    refine ow_load 25 _ rfl gy 0 rfl 25 (bvs y) (bvs y) (A6.out.kept hI.bw) (fun j v h => by rw [Nat.zero_add]; exact h) (.array 32 5) Try.underlying25 rfl h32y.out ?_
    exact hK _ _ ⟨v12, v13, v14, v15, v16, v17, v18, v19, v20, v21, v22, v23, _, v25, _, v27, v28, v29, v30, v31, v32, v33, v34, v35, v36, v37, v38, v39, v40, v41, v42, v8, rfl, ⟨hI.t0, hI.t1, hI.t2, hI.t3, hI.t4, hI.t5, hI.t6, hI.t7, hI.t8, hI.t9, hI.t10, hI.t11, hI.t12, hI.t13, fun _ => rfl, hI.t15, hI.t16, hI.t17, hI.t18, hI.t19, hI.t20, hI.t21, hI.t22, hI.t23, hI.t24, hI.t25, hI.t26, hI.t27, hI.t28, hI.t29, hI.t30, hI.t31, hI.bw⟩⟩
  · rintro L a wx ⟨v12, v13, v14, v15, v16, v17, v18, v19, v20, v21, v22, v23, v24, v25, v26, v27, v28, v29, v30, v31, v32, v33, v34, v35, v36, v37, v38, v39, v40, v41, v42, v8, rfl, hI⟩ hL hdep hcl K hK
    obtain rfl := hI.t13 (hdep 13 (by decide))
    obtain rfl := hI.t14 (hdep 14 (by decide))
    obtain rfl := hI.t12 (hdep 12 (by decide))
    refine (if_pos rfl).mpr ?_
    go_simp
    refine (HN1.out wx).mono ?_
    rintro e w' ⟨rfl, hb⟩
    exact hK _ _ ⟨v12, v13, v14, v15, v16, v17, v18, v19, v20, v21, v22, v23, _, _, _, _, v28, v29, v30, v31, v32, v33, v34, v35, v36, v37, v38, v39, v40, v41, v42, v8, rfl, ⟨hI.t0, hI.t1, hI.t2, hI.t3, hI.t4, hI.t5, hI.t6, hI.t7, hI.t8, hI.t9, hI.t10, hI.t11, hI.t12, hI.t13, hI.t14, fun _ => rfl, hI.t16, hI.t17, hI.t18, hI.t19, hI.t20, hI.t21, hI.t22, fun h => (hI.t23 h).elim fun a h => h.elim fun c h => ⟨a, c, h.1, h.2.to hb⟩, hI.t24, fun h => (hI.t25 h).elim fun a h => h.elim fun c h => ⟨a, c, h.1, h.2.to hb⟩, hI.t26, hI.t27, hI.t28, hI.t29, hI.t30, hI.t31, (hI.bw).trans (hb.mono (hI.bw).size)⟩⟩
  · rintro L a wx ⟨v12, v13, v14, v15, v16, v17, v18, v19, v20, v21, v22, v23, v24, v25, v26, v27, v28, v29, v30, v31, v32, v33, v34, v35, v36, v37, v38, v39, v40, v41, v42, v8, rfl, hI⟩ hL hdep hcl K hK
    obtain rfl := hI.t12 (hdep 12 (by decide))
    refine (if_pos rfl).mpr ?_
    refine ow_load 25 _ rfl w.heap.size 0 rfl 25 (bvs x) (bvs x) (A5.out.kept hI.bw) (fun j v h => by rw [Nat.zero_add]; exact h) (.array 32 5) Try.underlying25 rfl h32x.out ?_
    exact hK _ _ ⟨v12, v13, v14, v15, v16, v17, v18, v19, v20, v21, v22, v23, _, v25, v26, v27, _, v29, v30, v31, v32, v33, v34, v35, v36, v37, v38, v39, v40, v41, v42, v8, rfl, ⟨hI.t0, hI.t1, hI.t2, hI.t3, hI.t4, hI.t5, hI.t6, hI.t7, hI.t8, hI.t9, hI.t10, hI.t11, hI.t12, hI.t13, hI.t14, hI.t15, fun _ => rfl, hI.t17, hI.t18, hI.t19, hI.t20, hI.t21, hI.t22, hI.t23, hI.t24, hI.t25, hI.t26, hI.t27, hI.t28, hI.t29, hI.t30, hI.t31, hI.bw⟩⟩
  · rintro L a wx ⟨v12, v13, v14, v15, v16, v17, v18, v19, v20, v21, v22, v23, v24, v25, v26, v27, v28, v29, v30, v31, v32, v33, v34, v35, v36, v37, v38, v39, v40, v41, v42, v8, rfl, hI⟩ hL hdep hcl K hK
    obtain rfl := hI.t12 (hdep 12 (by decide))
    refine (if_pos rfl).mpr ?_
    refine ow_load 25 _ rfl gy 0 rfl 25 (bvs y) (bvs y) (A6.out.kept hI.bw) (fun j v h => by rw [Nat.zero_add]; exact h) (.array 32 5) Try.underlying25 rfl h32y.out ?_
    exact hK _ _ ⟨v12, v13, v14, v15, v16, v17, v18, v19, v20, v21, v22, v23, _, v25, v26, v27, v28, _, v30, v31, v32, v33, v34, v35, v36, v37, v38, v39, v40, v41, v42, v8, rfl, ⟨hI.t0, hI.t1, hI.t2, hI.t3, hI.t4, hI.t5, hI.t6, hI.t7, hI.t8, hI.t9, hI.t10, hI.t11, hI.t12, hI.t13, hI.t14, hI.t15, hI.t16, fun _ => rfl, hI.t18, hI.t19, hI.t20, hI.t21, hI.t22, hI.t23, hI.t24, hI.t25, hI.t26, hI.t27, hI.t28, hI.t29, hI.t30, hI.t31, hI.bw⟩⟩
  · rintro L a wx ⟨v12, v13, v14, v15, v16, v17, v18, v19, v20, v21, v22, v23, v24, v25, v26, v27, v28, v29, v30, v31, v32, v33, v34, v35, v36, v37, v38, v39, v40, v41, v42, v8, rfl, hI⟩ hL hdep hcl K hK
    obtain rfl := hI.t16 (hdep 16 (by decide))
    obtain rfl := hI.t17 (hdep 17 (by decide))
    obtain rfl := hI.t12 (hdep 12 (by decide))
    refine (if_pos rfl).mpr ?_
    go_simp
    refine (HN2.out wx).mono ?_
    rintro e w' ⟨rfl, hb⟩
    exact hK _ _ ⟨v12, v13, v14, v15, v16, v17, v18, v19, v20, v21, v22, v23, _, v25, v26, v27, _, _, _, v31, v32, v33, v34, v35, v36, v37, v38, v39, v40, v41, v42, v8, rfl, ⟨hI.t0, hI.t1, hI.t2, hI.t3, hI.t4, hI.t5, hI.t6, hI.t7, hI.t8, hI.t9, hI.t10, hI.t11, hI.t12, hI.t13, hI.t14, hI.t15, hI.t16, hI.t17, fun _ => rfl, hI.t19, hI.t20, hI.t21, hI.t22, fun h => (hI.t23 h).elim fun a h => h.elim fun c h => ⟨a, c, h.1, h.2.to hb⟩, hI.t24, fun h => (hI.t25 h).elim fun a h => h.elim fun c h => ⟨a, c, h.1, h.2.to hb⟩, hI.t26, hI.t27, hI.t28, hI.t29, hI.t30, hI.t31, (hI.bw).trans (hb.mono (hI.bw).size)⟩⟩
  · rintro L a wx ⟨v12, v13, v14, v15, v16, v17, v18, v19, v20, v21, v22, v23, v24, v25, v26, v27, v28, v29, v30, v31, v32, v33, v34, v35, v36, v37, v38, v39, v40, v41, v42, v8, rfl, hI⟩ hL hdep hcl K hK
    obtain rfl := hI.t15 (hdep 15 (by decide))
    obtain rfl := hI.t18 (hdep 18 (by decide))
    obtain rfl := hI.t12 (hdep 12 (by decide))
    refine (if_pos rfl).mpr ?_
    have hq := HQ2.out wx
    go_simp
    exact hK _ _ ⟨v12, v13, v14, v15, v16, v17, v18, v19, v20, v21, v22, v23, _, v25, v26, _, v28, v29, _, _, v32, v33, v34, v35, v36, v37, v38, v39, v40, v41, v42, v8, rfl, ⟨hI.t0, hI.t1, hI.t2, hI.t3, hI.t4, hI.t5, hI.t6, hI.t7, hI.t8, hI.t9, hI.t10, hI.t11, hI.t12, hI.t13, hI.t14, hI.t15, hI.t16, hI.t17, hI.t18, fun _ => rfl, hI.t20, hI.t21, hI.t22, hI.t23, hI.t24, hI.t25, hI.t26, hI.t27, hI.t28, hI.t29, hI.t30, hI.t31, hI.bw⟩⟩
  · rintro L a wx ⟨v12, v13, v14, v15, v16, v17, v18, v19, v20, v21, v22, v23, v24, v25, v26, v27, v28, v29, v30, v31, v32, v33, v34, v35, v36, v37, v38, v39, v40, v41, v42, v8, rfl, hI⟩ hL hdep hcl K hK
    obtain rfl := hI.t12 (hdep 12 (by decide))
    obtain rfl := hI.t19 (hdep 19 (by decide))
    go_simp
    exact hK _ _ ⟨v12, v13, v14, v15, v16, v17, v18, v19, v20, v21, v22, v23, _, v25, v26, v27, v28, v29, v30, _, _, v33, v34, v35, v36, v37, v38, v39, v40, v41, v42, v8, rfl, ⟨hI.t0, hI.t1, hI.t2, hI.t3, hI.t4, hI.t5, hI.t6, hI.t7, hI.t8, hI.t9, hI.t10, hI.t11, hI.t12, hI.t13, hI.t14, hI.t15, hI.t16, hI.t17, hI.t18, hI.t19, fun _ => rfl, hI.t21, hI.t22, hI.t23, hI.t24, hI.t25, hI.t26, hI.t27, hI.t28, hI.t29, hI.t30, hI.t31, hI.bw⟩⟩
  · rintro L a wx ⟨v12, v13, v14, v15, v16, v17, v18, v19, v20, v21, v22, v23, v24, v25, v26, v27, v28, v29, v30, v31, v32, v33, v34, v35, v36, v37, v38, v39, v40, v41, v42, v8, rfl, hI⟩ hL hdep hcl K hK
    obtain rfl := hI.t20 (hdep 20 (by decide))
    go_simp
    exact hK _ _ ⟨v12, v13, v14, v15, v16, v17, v18, v19, v20, v21, v22, v23, v24, v25, v26, v27, v28, v29, v30, v31, _, _, v34, v35, v36, v37, v38, v39, v40, v41, v42, v8, rfl, ⟨hI.t0, hI.t1, hI.t2, hI.t3, hI.t4, hI.t5, hI.t6, hI.t7, hI.t8, hI.t9, hI.t10, hI.t11, hI.t12, hI.t13, hI.t14, hI.t15, hI.t16, hI.t17, hI.t18, hI.t19, hI.t20, fun _ => rfl, hI.t22, hI.t23, hI.t24, hI.t25, hI.t26, hI.t27, hI.t28, hI.t29, hI.t30, hI.t31, hI.bw⟩⟩
  · rintro L a wx ⟨v12, v13, v14, v15, v16, v17, v18, v19, v20, v21, v22, v23, v24, v25, v26, v27, v28, v29, v30, v31, v32, v33, v34, v35, v36, v37, v38, v39, v40, v41, v42, v8, rfl, hI⟩ hL hdep hcl K hK
    obtain rfl := hI.t21 (hdep 21 (by decide))
    refine (if_pos rfl).mpr ?_
    go_simp
    exact hK _ _ ⟨v12, v13, v14, v15, v16, v17, v18, v19, v20, v21, v22, v23, v24, v25, v26, v27, v28, v29, v30, v31, v32, _, _, v35, v36, v37, v38, v39, v40, v41, v42, v8, rfl, ⟨hI.t0, hI.t1, hI.t2, hI.t3, hI.t4, hI.t5, hI.t6, hI.t7, hI.t8, hI.t9, hI.t10, hI.t11, hI.t12, hI.t13, hI.t14, hI.t15, hI.t16, hI.t17, hI.t18, hI.t19, hI.t20, hI.t21, fun _ => rfl, hI.t23, hI.t24, hI.t25, hI.t26, hI.t27, hI.t28, hI.t29, hI.t30, hI.t31, hI.bw⟩⟩
  · rintro L a wx ⟨v12, v13, v14, v15, v16, v17, v18, v19, v20, v21, v22, v23, v24, v25, v26, v27, v28, v29, v30, v31, v32, v33, v34, v35, v36, v37, v38, v39, v40, v41, v42, v8, rfl, hI⟩ hL hdep hcl K hK
    obtain rfl := hI.t22 (hdep 22 (by decide))
    obtain rfl := hI.t21 (hdep 21 (by decide))
    refine (if_pos rfl).mpr ?_
    go_simp
    refine (HV1.out wx hI.bw).mono ?_
    rintro e w' ⟨v, rfl, ho, hb⟩
    obtain ⟨a1, c1, rfl, h1⟩ := ho.rd
    exact hK _ _ ⟨v12, v13, v14, v15, v16, v17, v18, v19, v20, v21, v22, v23, v24, v25, v26, v27, v28, v29, v30, v31, v32, _, _, _, v36, v37, v38, v39, v40, v41, v42, v8, rfl, ⟨hI.t0, hI.t1, hI.t2, hI.t3, hI.t4, hI.t5, hI.t6, hI.t7, hI.t8, hI.t9, hI.t10, hI.t11, hI.t12, hI.t13, hI.t14, hI.t15, hI.t16, hI.t17, hI.t18, hI.t19, hI.t20, hI.t21, hI.t22, fun _ => ⟨_, _, rfl, h1⟩, hI.t24, fun h => (hI.t25 h).elim fun a h => h.elim fun c h => ⟨a, c, h.1, h.2.to hb⟩, hI.t26, hI.t27, hI.t28, hI.t29, hI.t30, hI.t31, (hI.bw).trans (hb.mono (hI.bw).size)⟩⟩
  · rintro L a wx ⟨v12, v13, v14, v15, v16, v17, v18, v19, v20, v21, v22, v23, v24, v25, v26, v27, v28, v29, v30, v31, v32, v33, v34, v35, v36, v37, v38, v39, v40, v41, v42, v8, rfl, hI⟩ hL hdep hcl K hK
    obtain rfl := hI.t21 (hdep 21 (by decide))
    refine (if_pos rfl).mpr ?_
    go_simp
    exact hK _ _ ⟨v12, v13, v14, v15, v16, v17, v18, v19, v20, v21, v22, v23, v24, v25, v26, v27, v28, v29, v30, v31, v32, _, v34, v35, _, v37, v38, v39, v40, v41, v42, v8, rfl, ⟨hI.t0, hI.t1, hI.t2, hI.t3, hI.t4, hI.t5, hI.t6, hI.t7, hI.t8, hI.t9, hI.t10, hI.t11, hI.t12, hI.t13, hI.t14, hI.t15, hI.t16, hI.t17, hI.t18, hI.t19, hI.t20, hI.t21, hI.t22, hI.t23, fun _ => rfl, hI.t25, hI.t26, hI.t27, hI.t28, hI.t29, hI.t30, hI.t31, hI.bw⟩⟩
  · rintro L a wx ⟨v12, v13, v14, v15, v16, v17, v18, v19, v20, v21, v22, v23, v24, v25, v26, v27, v28, v29, v30, v31, v32, v33, v34, v35, v36, v37, v38, v39, v40, v41, v42, v8, rfl, hI⟩ hL hdep hcl K hK
    obtain rfl := hI.t24 (hdep 24 (by decide))
    obtain rfl := hI.t21 (hdep 21 (by decide))
    refine (if_pos rfl).mpr ?_
    go_simp
    refine (HV2.out wx hI.bw).mono ?_
    rintro e w' ⟨v, rfl, ho, hb⟩
    obtain ⟨a1, c1, rfl, h1⟩ := ho.rd
    exact hK _ _ ⟨v12, v13, v14, v15, v16, v17, v18, v19, v20, v21, v22, v23, v24, v25, v26, v27, v28, v29, v30, v31, v32, _, v34, v35, _, _, v38, v39, v40, v41, v42, v8, rfl, ⟨hI.t0, hI.t1, hI.t2, hI.t3, hI.t4, hI.t5, hI.t6, hI.t7, hI.t8, hI.t9, hI.t10, hI.t11, hI.t12, hI.t13, hI.t14, hI.t15, hI.t16, hI.t17, hI.t18, hI.t19, hI.t20, hI.t21, hI.t22, fun h => (hI.t23 h).elim fun a h => h.elim fun c h => ⟨a, c, h.1, h.2.to hb⟩, hI.t24, fun _ => ⟨_, _, rfl, h1⟩, hI.t26, hI.t27, hI.t28, hI.t29, hI.t30, hI.t31, (hI.bw).trans (hb.mono (hI.bw).size)⟩⟩
  · rintro L a wx ⟨v12, v13, v14, v15, v16, v17, v18, v19, v20, v21, v22, v23, v24, v25, v26, v27, v28, v29, v30, v31, v32, v33, v34, v35, v36, v37, v38, v39, v40, v41, v42, v8, rfl, hI⟩ hL hdep hcl K hK
    obtain rfl := hI.t21 (hdep 21 (by decide))
    refine (if_pos rfl).mpr ?_
    obtain ⟨a1, c1, rfl, h1⟩ := hI.t23 (hdep 23 (by decide))
    obtain ⟨a2, c2, rfl, h2⟩ := hI.t25 (hdep 25 (by decide))
    go_simp
    refine (HSm.out wx a1 c1 a2 c2 h1 h2).mono ?_
    rintro e w' ⟨rfl, hb⟩
    exact hK _ _ ⟨v12, v13, v14, v15, v16, v17, v18, v19, v20, v21, v22, v23, v24, v25, v26, v27, v28, v29, v30, v31, v32, _, v34, _, v36, _, _, v39, v40, v41, v42, v8, rfl, ⟨hI.t0, hI.t1, hI.t2, hI.t3, hI.t4, hI.t5, hI.t6, hI.t7, hI.t8, hI.t9, hI.t10, hI.t11, hI.t12, hI.t13, hI.t14, hI.t15, hI.t16, hI.t17, hI.t18, hI.t19, hI.t20, hI.t21, hI.t22, fun h => (hI.t23 h).elim fun a h => h.elim fun c h => ⟨a, c, h.1, h.2.to hb⟩, hI.t24, fun h => (hI.t25 h).elim fun a h => h.elim fun c h => ⟨a, c, h.1, h.2.to hb⟩, fun _ => rfl, hI.t27, hI.t28, hI.t29, hI.t30, hI.t31, (hI.bw).trans (hb.mono (hI.bw).size)⟩⟩
  · rintro L a wx ⟨v12, v13, v14, v15, v16, v17, v18, v19, v20, v21, v22, v23, v24, v25, v26, v27, v28, v29, v30, v31, v32, v33, v34, v35, v36, v37, v38, v39, v40, v41, v42, v8, rfl, hI⟩ hL hdep hcl K hK
    obtain rfl := hI.t21 (hdep 21 (by decide))
    obtain rfl := hI.t26 (hdep 26 (by decide))
    go_simp
    exact hK _ _ ⟨v12, v13, v14, v15, v16, v17, v18, v19, v20, v21, v22, v23, v24, v25, v26, v27, v28, v29, v30, v31, v32, _, v34, v35, v36, v37, _, _, v40, v41, v42, v8, rfl, ⟨hI.t0, hI.t1, hI.t2, hI.t3, hI.t4, hI.t5, hI.t6, hI.t7, hI.t8, hI.t9, hI.t10, hI.t11, hI.t12, hI.t13, hI.t14, hI.t15, hI.t16, hI.t17, hI.t18, hI.t19, hI.t20, hI.t21, hI.t22, hI.t23, hI.t24, hI.t25, hI.t26, fun _ => rfl, hI.t28, hI.t29, hI.t30, hI.t31, hI.bw⟩⟩
  · rintro L a wx ⟨v12, v13, v14, v15, v16, v17, v18, v19, v20, v21, v22, v23, v24, v25, v26, v27, v28, v29, v30, v31, v32, v33, v34, v35, v36, v37, v38, v39, v40, v41, v42, v8, rfl, hI⟩ hL hdep hcl K hK
    obtain rfl := hI.t27 (hdep 27 (by decide))
    go_simp
    exact hK _ _ ⟨v12, v13, v14, v15, v16, v17, v18, v19, v20, v21, v22, v23, v24, v25, v26, v27, v28, v29, v30, v31, v32, v33, v34, v35, v36, v37, v38, _, _, v41, v42, v8, rfl, ⟨hI.t0, hI.t1, hI.t2, hI.t3, hI.t4, hI.t5, hI.t6, hI.t7, hI.t8, hI.t9, hI.t10, hI.t11, hI.t12, hI.t13, hI.t14, hI.t15, hI.t16, hI.t17, hI.t18, hI.t19, hI.t20, hI.t21, hI.t22, hI.t23, hI.t24, hI.t25, hI.t26, hI.t27, fun _ => rfl, hI.t29, hI.t30, hI.t31, hI.bw⟩⟩
  · rintro L a wx ⟨v12, v13, v14, v15, v16, v17, v18, v19, v20, v21, v22, v23, v24, v25, v26, v27, v28, v29, v30, v31, v32, v33, v34, v35, v36, v37, v38, v39, v40, v41, v42, v8, rfl, hI⟩ hL hdep hcl K hK
    obtain rfl := hI.t28 (hdep 28 (by decide))
    refine (if_pos rfl).mpr ?_
    go_simp
    refine (HWk.out wx).mono ?_
    rintro e w' ⟨rfl, hb⟩
    exact hK _ _ ⟨v12, v13, v14, v15, v16, v17, v18, v19, v20, v21, v22, v23, v24, v25, v26, v27, v28, v29, v30, v31, v32, v33, v34, v35, v36, v37, v38, v39, _, _, v42, v8, rfl, ⟨hI.t0, hI.t1, hI.t2, hI.t3, hI.t4, hI.t5, hI.t6, hI.t7, hI.t8, hI.t9, hI.t10, hI.t11, hI.t12, hI.t13, hI.t14, hI.t15, hI.t16, hI.t17, hI.t18, hI.t19, hI.t20, hI.t21, hI.t22, fun h => (hI.t23 h).elim fun a h => h.elim fun c h => ⟨a, c, h.1, h.2.to hb⟩, hI.t24, fun h => (hI.t25 h).elim fun a h => h.elim fun c h => ⟨a, c, h.1, h.2.to hb⟩, hI.t26, hI.t27, hI.t28, fun _ => rfl, hI.t30, hI.t31, (hI.bw).trans (hb.mono (hI.bw).size)⟩⟩
  · rintro L a wx ⟨v12, v13, v14, v15, v16, v17, v18, v19, v20, v21, v22, v23, v24, v25, v26, v27, v28, v29, v30, v31, v32, v33, v34, v35, v36, v37, v38, v39, v40, v41, v42, v8, rfl, hI⟩ hL hdep hcl K hK
    obtain rfl := hI.t28 (hdep 28 (by decide))
    obtain rfl := hI.t29 (hdep 29 (by decide))
    go_simp
    exact hK _ _ ⟨v12, v13, v14, v15, v16, v17, v18, v19, v20, v21, v22, v23, v24, v25, v26, v27, v28, v29, v30, v31, v32, v33, v34, v35, v36, v37, v38, v39, _, _, _, v8, rfl, ⟨hI.t0, hI.t1, hI.t2, hI.t3, hI.t4, hI.t5, hI.t6, hI.t7, hI.t8, hI.t9, hI.t10, hI.t11, hI.t12, hI.t13, hI.t14, hI.t15, hI.t16, hI.t17, hI.t18, hI.t19, hI.t20, hI.t21, hI.t22, hI.t23, hI.t24, hI.t25, hI.t26, hI.t27, hI.t28, hI.t29, fun _ => rfl, hI.t31, hI.bw⟩⟩
  · rintro L a wx ⟨v12, v13, v14, v15, v16, v17, v18, v19, v20, v21, v22, v23, v24, v25, v26, v27, v28, v29, v30, v31, v32, v33, v34, v35, v36, v37, v38, v39, v40, v41, v42, v8, rfl, hI⟩ hL hdep hcl K hK
    obtain rfl := hI.t30 (hdep 30 (by decide))
    go_simp
    exact hK _ _ ⟨v12, v13, v14, v15, v16, v17, v18, v19, v20, v21, v22, v23, v24, v25, v26, v27, v28, v29, v30, v31, v32, v33, v34, v35, v36, v37, v38, v39, v40, v41, _, _, rfl, ⟨hI.t0, hI.t1, hI.t2, hI.t3, hI.t4, hI.t5, hI.t6, hI.t7, hI.t8, hI.t9, hI.t10, hI.t11, hI.t12, hI.t13, hI.t14, hI.t15, hI.t16, hI.t17, hI.t18, hI.t19, hI.t20, hI.t21, hI.t22, hI.t23, hI.t24, hI.t25, hI.t26, hI.t27, hI.t28, hI.t29, hI.t30, fun _ => rfl, hI.bw⟩⟩
  · rintro a wx ⟨v12, v13, v14, v15, v16, v17, v18, v19, v20, v21, v22, v23, v24, v25, v26, v27, v28, v29, v30, v31, v32, v33, v34, v35, v36, v37, v38, v39, v40, v41, v42, v8, rfl, hI⟩
    have e := hI.t31 rfl
    subst e
    have hbw := hI.bw
    clear hI
    go_wp2_with fail
    go_ret
    exact ⟨rfl, HB.out.trans (hbw.mono HBs.out)⟩
end Go.Proofs.Ytpnhflpajccbbaa
