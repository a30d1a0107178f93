/-
  ShaTexts holds, whatever the arguments: any hash as digits, any text as a hash; the arguments read as they did.
-/
import Derived.Test.YtgippimoklefnaaBackW
namespace Go.Proofs.Ytgippimoklefnaa
open Go.ChangeShapes Go.WideShapes Go.ChangeAt Go.RowKit

structure InvT (xs ys : List UInt8) (T : ByteArray) (er : Int) (g2 g5 g7 : Nat) (w : World) (L : Nat → Bool) (v19 v20 v21 v22 v23 v24 v25 v26 v27 v28 v29 v30 v31 v32 v33 v34 v35 v36 v4 : Value) (wx : World) : Prop where
  t0 : L 0 = true → v19 = .agg (bvs xs).toArray
  t1 : L 1 = true → v20 = .string T
  t2 : L 2 = true → v21 = .agg (bvs xs).toArray
  t3 : L 3 = true → v22 = .string T
  t4 : L 4 = true → v23 = .bool true
  t5 : L 5 = true → v24 = .bool true
  t6 : L 6 = true → v25 = .agg (bvs ys).toArray
  t7 : L 7 = true → v26 = .agg (bvs ys).toArray
  t8 : L 8 = true → v27 = .bool true
  t9 : L 9 = true → v28 = .bool true
  t10 : L 10 = true → v29 = .bool true
  t11 : L 11 = true → v30 = .int .i64 er
  t12 : L 12 = true → v31 = .int .i64 er
  t13 : L 13 = true → v32 = .bool true
  t14 : L 14 = true → v33 = .bool true
  t15 : L 15 = true → v34 = .bool true
  t16 : L 16 = true → v35 = .bool true
  t17 : L 17 = true → v36 = .bool true
  t18 : L 18 = true → v4 = .bool true
  a2 : Arr wx g2 24 (bvs xs)
  a5 : Arr wx g5 24 (bvs ys)
  a7 : Arr wx g7 24 (bvs ys)
  bl : Below g2 w wx

set_option maxHeartbeats 1600000 in
set_option maxRecDepth 100000 in
theorem Texts_any (xs : List UInt8) (s : ByteArray) (hx : xs.length = 32) (w : World) :
    Calls Try.prog 5 #[.agg (bvs xs).toArray, .string s] w fun e w' => e = .returned (.bool true) ∧ Below w.heap.size w w' := by
  have hhex := Hex_any xs hx
  have hhex2 := rHex_any xs hx
  have hun := Unhex_any s
  have hun2 := rUnhex_any s
  have hul := unhexF_len s.data.toList
  have heq : ∀ W, (binOp .eql 24 (.agg (bvs (unhexF s.data.toList).1).toArray) (.agg (bvs (unhexF s.data.toList).1).toArray)).run Try.prog W = .ok (.bool true) W := fun W => by
    rw [eqD hul hul]; simp
  have hbs : Hid ((bvs xs).length = 32) := by show _ = _; rw [bvs_len, hx]
  have hD : Hid ((Try.prog.info? 24).map (·.size) = some (bvs xs).length) := by show _ = _; rw [hbs.out]; exact sizeD
  unfold HErr at hun hun2
  generalize unhexF s.data.toList = F at *
  obtain ⟨ys, er⟩ := F
  simp only at hun hun2 hul heq
  have HY := Lib.hid (bvs_one ys)
  have hysl : Hid ((bvs ys).length = 32) := by show _ = _; rw [bvs_len, hul]
  have hDy : Hid ((Try.prog.info? 24).map (·.size) = some (bvs ys).length) := by show _ = _; rw [hysl.out]; exact sizeD
  have K1 := Lib.hid hhex
  have K2 := Lib.hid hhex2
  have K3 := Lib.hid hun
  have K4 := Lib.hid hun2
  clear hhex hhex2 hun hun2 hx hul
  generalize hT : bstr (hexL xs) = T at *
  clear hT
  go_enter Try.func5, Try.ntmps5
  go_upto_region 3 with (first
    | ((with_reducible show wpList _ _ _ (⟨some 2, .box _ _, _, _, _, _⟩ :: _) _ _); refine wl_box rfl 24 _ rfl (bvs xs) rfl ?_; intro w1 hA1 hb1 hs1)
    | (go_at_call 17; refine (K3.out _).mono ?_; rintro e w2 ⟨rfl, hb2⟩)
    | (go_at_call 18; refine (K4.out _).mono ?_; rintro e w5 ⟨rfl, hb5⟩)
    | ((with_reducible show wpList _ _ _ (⟨some 5, .alloc _, _, _, _, _⟩ :: _) _ _); refine wl_alloc rfl 24 rfl (bvs (Z8 32)) 32 infoD ?_; intro w3 hA3 hb3 hs3)
    | ((with_reducible show wpList _ _ _ (⟨some 7, .alloc _, _, _, _, _⟩ :: _) _ _); refine wl_alloc rfl 24 rfl (bvs (Z8 32)) 32 infoD ?_; intro w6 hA6 hb6 hs6)
    | ((with_reducible show wpList _ _ _ (⟨none, .store _ (.tmp 5) _, _, _, _, _⟩ :: _) _ _); refine wl_store rfl 24 _ _ rfl w2.heap.size 0 rfl (bvs ys) rfl 24 _ hA3 hDy.out (by rw [hysl.out]; exact (by decide : 0 + 32 ≤ (bvs (Z8 32)).length)) HY.out ?_; intro w4 hA4 hg4 hs4)
    | ((with_reducible show wpList _ _ _ (⟨none, .store _ (.tmp 7) _, _, _, _, _⟩ :: _) _ _); refine wl_store rfl 24 _ _ rfl w5.heap.size 0 rfl (bvs ys) rfl 24 _ hA6 hDy.out (by rw [hysl.out]; exact (by decide : 0 + 32 ≤ (bvs (Z8 32)).length)) HY.out ?_; intro w7 hA7 hg7 hs7))
  rw [whole_store _ _ (by rw [hysl.out]; rfl)] at hA4
  rw [whole_store _ _ (by rw [hysl.out]; rfl)] at hA7
  generalize hg2 : w.heap.size = g2 at *
  generalize hg5 : w2.heap.size = g5 at *
  generalize hg7 : w5.heap.size = g7 at *
  have HG := Lib.hid hg2
  clear hg2
  have y1 := hA1.lt
  have y2 := hb2.size
  have y4 := hA4.lt
  have y5 := hb5.size
  have hX : Arr w7 g2 24 (bvs xs) := (((((hA1.kept hb2).to hb3 (by omega)).grown hg4 (by intro e; injection e with e; omega)).kept hb5).to hb6 (by omega)).grown hg7 (by intro e; injection e with e; omega)
  have hY5 : Arr w7 g5 24 (bvs ys) := ((hA4.kept hb5).to hb6 (by omega)).grown hg7 (by intro e; injection e with e; omega)
  have hB7 : Below g2 w w7 := ((((((hb1.trans (hb2.mono (by omega))).trans (hb3.mono (by omega))).grown hg4 (by omega) (by intro k e; injection e with e; omega)).trans (hb5.mono (by omega))).trans (hb6.mono (by omega))).grown hg7 (by omega) (by intro k e; injection e with e; omega))
  have hY7 := hA7
  clear hA1 hb1 hA3 hb2 hb3 hg4 hb5 hb6 hg7 hA4 hA6 hA7
  refine wp_region_steps [[], [0], [], [2], [1, 3], [4], [5], [5], [6, 7, 5], [5, 8], [9], [10], [10], [11, 12, 10], [10, 13], [14], [15], [15, 16], [17]] (by kernel_rfl) (by kernel_rfl) (fun L a wx => ∃ v19 v20 v21 v22 v23 v24 v25 v26 v27 v28 v29 v30 v31 v32 v33 v34 v35 v36 v4, a = ⟨#[.agg (bvs xs).toArray, .string s, .pointer (some ⟨g2, 0, none⟩), undef, v4, .pointer (some ⟨g5, 0, none⟩), .int .i64 er, .pointer (some ⟨g7, 0, none⟩), .int .i64 er, .tuple #[.agg (bvs ys).toArray, .int .i64 er], .string s, .tuple #[.agg (bvs ys).toArray, .int .i64 er], .agg (bvs ys).toArray, .int .i64 er, .tuple #[.agg (bvs ys).toArray, .int .i64 er], .string s, .tuple #[.agg (bvs ys).toArray, .int .i64 er], .agg (bvs ys).toArray, .int .i64 er, v19, v20, v21, v22, v23, v24, v25, v26, v27, v28, v29, v30, v31, v32, v33, v34, v35, v36], []⟩ ∧ InvT xs ys T er g2 g5 g7 w L v19 v20 v21 v22 v23 v24 v25 v26 v27 v28 v29 v30 v31 v32 v33 v34 v35 v36 v4 wx) ?_ ⟨?_, ?_, ?_, ?_, ?_, ?_, ?_, ?_, ?_, ?_, ?_, ?_, ?_, ?_, ?_, ?_, ?_, ?_, ?_, trivial⟩ ?_
  · refine ⟨_, _, _, _, _, _, _, _, _, _, _, _, _, _, _, _, _, _, _, rfl, ⟨?_, ?_, ?_, ?_, ?_, ?_, ?_, ?_, ?_, ?_, ?_, ?_, ?_, ?_, ?_, ?_, ?_, ?_, ?_, hX.drew, hY5.drew, hY7.drew, hB7.drew⟩⟩ <;> (intro h; exact absurd h (by decide))
  · rintro L a wx ⟨v19, v20, v21, v22, v23, v24, v25, v26, v27, v28, v29, v30, v31, v32, v33, v34, v35, v36, v4, rfl, hI⟩ hL hdep hcl K hK
    exact ow_load 24 _ rfl g2 0 rfl 24 (bvs xs) (bvs xs) hI.a2 (fun j v h => by rw [Nat.zero_add]; exact h) (.array 32 5) Try.underlying24 rfl hD.out (hK _ _ ⟨_, v20, v21, v22, v23, v24, v25, v26, v27, v28, v29, v30, v31, v32, v33, v34, v35, v36, v4, rfl, ⟨fun _ => rfl, hI.t1, hI.t2, hI.t3, hI.t4, hI.t5, hI.t6, hI.t7, hI.t8, hI.t9, hI.t10, hI.t11, hI.t12, hI.t13, hI.t14, hI.t15, hI.t16, hI.t17, hI.t18, hI.a2, hI.a5, hI.a7, hI.bl⟩⟩)
  · rintro L a wx ⟨v19, v20, v21, v22, v23, v24, v25, v26, v27, v28, v29, v30, v31, v32, v33, v34, v35, v36, v4, rfl, hI⟩ hL hdep hcl K hK
    obtain rfl := hI.t0 (hdep 0 (by decide))
    go_simp
    refine (K1.out _).mono ?_
    rintro e w' ⟨rfl, hb⟩
    exact hK _ _ ⟨_, _, v21, v22, v23, v24, v25, v26, v27, v28, v29, v30, v31, v32, v33, v34, v35, v36, v4, rfl, ⟨hI.t0, fun _ => rfl, hI.t2, hI.t3, hI.t4, hI.t5, hI.t6, hI.t7, hI.t8, hI.t9, hI.t10, hI.t11, hI.t12, hI.t13, hI.t14, hI.t15, hI.t16, hI.t17, hI.t18, hI.a2.kept hb, hI.a5.kept hb, hI.a7.kept hb, hI.bl.trans (hb.mono (Nat.le_of_lt hI.a2.lt))⟩⟩
  · rintro L a wx ⟨v19, v20, v21, v22, v23, v24, v25, v26, v27, v28, v29, v30, v31, v32, v33, v34, v35, v36, v4, rfl, hI⟩ hL hdep hcl K hK
    exact ow_load 24 _ rfl g2 0 rfl 24 (bvs xs) (bvs xs) hI.a2 (fun j v h => by rw [Nat.zero_add]; exact h) (.array 32 5) Try.underlying24 rfl hD.out (hK _ _ ⟨v19, v20, _, v22, v23, v24, v25, v26, v27, v28, v29, v30, v31, v32, v33, v34, v35, v36, v4, rfl, ⟨hI.t0, hI.t1, fun _ => rfl, hI.t3, hI.t4, hI.t5, hI.t6, hI.t7, hI.t8, hI.t9, hI.t10, hI.t11, hI.t12, hI.t13, hI.t14, hI.t15, hI.t16, hI.t17, hI.t18, hI.a2, hI.a5, hI.a7, hI.bl⟩⟩)
  · rintro L a wx ⟨v19, v20, v21, v22, v23, v24, v25, v26, v27, v28, v29, v30, v31, v32, v33, v34, v35, v36, v4, rfl, hI⟩ hL hdep hcl K hK
    obtain rfl := hI.t2 (hdep 2 (by decide))
    go_simp
    refine (K2.out _).mono ?_
    rintro e w' ⟨rfl, hb⟩
    exact hK _ _ ⟨v19, v20, _, _, v23, v24, v25, v26, v27, v28, v29, v30, v31, v32, v33, v34, v35, v36, v4, rfl, ⟨hI.t0, hI.t1, hI.t2, fun _ => rfl, hI.t4, hI.t5, hI.t6, hI.t7, hI.t8, hI.t9, hI.t10, hI.t11, hI.t12, hI.t13, hI.t14, hI.t15, hI.t16, hI.t17, hI.t18, hI.a2.kept hb, hI.a5.kept hb, hI.a7.kept hb, hI.bl.trans (hb.mono (Nat.le_of_lt hI.a2.lt))⟩⟩
  · rintro L a wx ⟨v19, v20, v21, v22, v23, v24, v25, v26, v27, v28, v29, v30, v31, v32, v33, v34, v35, v36, v4, rfl, hI⟩ hL hdep hcl K hK
    obtain rfl := hI.t1 (hdep 1 (by decide))
    obtain rfl := hI.t3 (hdep 3 (by decide))
    go_simp
    exact hK _ _ ⟨v19, _, v21, _, _, v24, v25, v26, v27, v28, v29, v30, v31, v32, v33, v34, v35, v36, v4, rfl, ⟨hI.t0, hI.t1, hI.t2, hI.t3, fun _ => rfl, hI.t5, hI.t6, hI.t7, hI.t8, hI.t9, hI.t10, hI.t11, hI.t12, hI.t13, hI.t14, hI.t15, hI.t16, hI.t17, hI.t18, hI.a2, hI.a5, hI.a7, hI.bl⟩⟩
  · rintro L a wx ⟨v19, v20, v21, v22, v23, v24, v25, v26, v27, v28, v29, v30, v31, v32, v33, v34, v35, v36, v4, rfl, hI⟩ hL hdep hcl K hK
    obtain rfl := hI.t4 (hdep 4 (by decide))
    go_simp
    exact hK _ _ ⟨v19, v20, v21, v22, _, _, v25, v26, v27, v28, v29, v30, v31, v32, v33, v34, v35, v36, v4, rfl, ⟨hI.t0, hI.t1, hI.t2, hI.t3, hI.t4, fun _ => rfl, hI.t6, hI.t7, hI.t8, hI.t9, hI.t10, hI.t11, hI.t12, hI.t13, hI.t14, hI.t15, hI.t16, hI.t17, hI.t18, hI.a2, hI.a5, hI.a7, hI.bl⟩⟩
  · rintro L a wx ⟨v19, v20, v21, v22, v23, v24, v25, v26, v27, v28, v29, v30, v31, v32, v33, v34, v35, v36, v4, rfl, hI⟩ hL hdep hcl K hK
    obtain rfl := hI.t5 (hdep 5 (by decide))
    refine (if_pos rfl).mpr ?_
    exact ow_load 24 _ rfl g5 0 rfl 24 (bvs ys) (bvs ys) hI.a5 (fun j v h => by rw [Nat.zero_add]; exact h) (.array 32 5) Try.underlying24 rfl hDy.out (hK _ _ ⟨v19, v20, v21, v22, v23, _, _, v26, v27, v28, v29, v30, v31, v32, v33, v34, v35, v36, v4, rfl, ⟨hI.t0, hI.t1, hI.t2, hI.t3, hI.t4, hI.t5, fun _ => rfl, hI.t7, hI.t8, hI.t9, hI.t10, hI.t11, hI.t12, hI.t13, hI.t14, hI.t15, hI.t16, hI.t17, hI.t18, hI.a2, hI.a5, hI.a7, hI.bl⟩⟩)
  · rintro L a wx ⟨v19, v20, v21, v22, v23, v24, v25, v26, v27, v28, v29, v30, v31, v32, v33, v34, v35, v36, v4, rfl, hI⟩ hL hdep hcl K hK
    obtain rfl := hI.t5 (hdep 5 (by decide))
    refine (if_pos rfl).mpr ?_
    exact ow_load 24 _ rfl g7 0 rfl 24 (bvs ys) (bvs ys) hI.a7 (fun j v h => by rw [Nat.zero_add]; exact h) (.array 32 5) Try.underlying24 rfl hDy.out (hK _ _ ⟨v19, v20, v21, v22, v23, _, v25, _, v27, v28, v29, v30, v31, v32, v33, v34, v35, v36, v4, rfl, ⟨hI.t0, hI.t1, hI.t2, hI.t3, hI.t4, hI.t5, hI.t6, fun _ => rfl, hI.t8, hI.t9, hI.t10, hI.t11, hI.t12, hI.t13, hI.t14, hI.t15, hI.t16, hI.t17, hI.t18, hI.a2, hI.a5, hI.a7, hI.bl⟩⟩)
  · rintro L a wx ⟨v19, v20, v21, v22, v23, v24, v25, v26, v27, v28, v29, v30, v31, v32, v33, v34, v35, v36, v4, rfl, hI⟩ hL hdep hcl K hK
    obtain rfl := hI.t6 (hdep 6 (by decide))
    obtain rfl := hI.t7 (hdep 7 (by decide))
    obtain rfl := hI.t5 (hdep 5 (by decide))
    refine (if_pos rfl).mpr ?_
    go_simp
    exact hK _ _ ⟨v19, v20, v21, v22, v23, _, _, _, _, v28, v29, v30, v31, v32, v33, v34, v35, v36, v4, rfl, ⟨hI.t0, hI.t1, hI.t2, hI.t3, hI.t4, hI.t5, hI.t6, hI.t7, fun _ => rfl, hI.t9, hI.t10, hI.t11, hI.t12, hI.t13, hI.t14, hI.t15, hI.t16, hI.t17, hI.t18, hI.a2, hI.a5, hI.a7, hI.bl⟩⟩
  · rintro L a wx ⟨v19, v20, v21, v22, v23, v24, v25, v26, v27, v28, v29, v30, v31, v32, v33, v34, v35, v36, v4, rfl, hI⟩ hL hdep hcl K hK
    obtain rfl := hI.t5 (hdep 5 (by decide))
    obtain rfl := hI.t8 (hdep 8 (by decide))
    go_simp
    exact hK _ _ ⟨v19, v20, v21, v22, v23, _, v25, v26, _, _, v29, v30, v31, v32, v33, v34, v35, v36, v4, rfl, ⟨hI.t0, hI.t1, hI.t2, hI.t3, hI.t4, hI.t5, hI.t6, hI.t7, hI.t8, fun _ => rfl, hI.t10, hI.t11, hI.t12, hI.t13, hI.t14, hI.t15, hI.t16, hI.t17, hI.t18, hI.a2, hI.a5, hI.a7, hI.bl⟩⟩
  · rintro L a wx ⟨v19, v20, v21, v22, v23, v24, v25, v26, v27, v28, v29, v30, v31, v32, v33, v34, v35, v36, v4, rfl, hI⟩ hL hdep hcl K hK
    obtain rfl := hI.t9 (hdep 9 (by decide))
    go_simp
    exact hK _ _ ⟨v19, v20, v21, v22, v23, v24, v25, v26, v27, _, _, v30, v31, v32, v33, v34, v35, v36, v4, rfl, ⟨hI.t0, hI.t1, hI.t2, hI.t3, hI.t4, hI.t5, hI.t6, hI.t7, hI.t8, hI.t9, fun _ => rfl, hI.t11, hI.t12, hI.t13, hI.t14, hI.t15, hI.t16, hI.t17, hI.t18, hI.a2, hI.a5, hI.a7, hI.bl⟩⟩
  · rintro L a wx ⟨v19, v20, v21, v22, v23, v24, v25, v26, v27, v28, v29, v30, v31, v32, v33, v34, v35, v36, v4, rfl, hI⟩ hL hdep hcl K hK
    obtain rfl := hI.t10 (hdep 10 (by decide))
    refine (if_pos rfl).mpr ?_
    go_simp
    exact hK _ _ ⟨v19, v20, v21, v22, v23, v24, v25, v26, v27, v28, _, _, v31, v32, v33, v34, v35, v36, v4, rfl, ⟨hI.t0, hI.t1, hI.t2, hI.t3, hI.t4, hI.t5, hI.t6, hI.t7, hI.t8, hI.t9, hI.t10, fun _ => rfl, hI.t12, hI.t13, hI.t14, hI.t15, hI.t16, hI.t17, hI.t18, hI.a2, hI.a5, hI.a7, hI.bl⟩⟩
  · rintro L a wx ⟨v19, v20, v21, v22, v23, v24, v25, v26, v27, v28, v29, v30, v31, v32, v33, v34, v35, v36, v4, rfl, hI⟩ hL hdep hcl K hK
    obtain rfl := hI.t10 (hdep 10 (by decide))
    refine (if_pos rfl).mpr ?_
    go_simp
    exact hK _ _ ⟨v19, v20, v21, v22, v23, v24, v25, v26, v27, v28, _, v30, _, v32, v33, v34, v35, v36, v4, rfl, ⟨hI.t0, hI.t1, hI.t2, hI.t3, hI.t4, hI.t5, hI.t6, hI.t7, hI.t8, hI.t9, hI.t10, hI.t11, fun _ => rfl, hI.t13, hI.t14, hI.t15, hI.t16, hI.t17, hI.t18, hI.a2, hI.a5, hI.a7, hI.bl⟩⟩
  · rintro L a wx ⟨v19, v20, v21, v22, v23, v24, v25, v26, v27, v28, v29, v30, v31, v32, v33, v34, v35, v36, v4, rfl, hI⟩ hL hdep hcl K hK
    obtain rfl := hI.t11 (hdep 11 (by decide))
    obtain rfl := hI.t12 (hdep 12 (by decide))
    obtain rfl := hI.t10 (hdep 10 (by decide))
    refine (if_pos rfl).mpr ?_
    go_simp
    exact hK _ _ ⟨v19, v20, v21, v22, v23, v24, v25, v26, v27, v28, _, _, _, _, v33, v34, v35, v36, v4, rfl, ⟨hI.t0, hI.t1, hI.t2, hI.t3, hI.t4, hI.t5, hI.t6, hI.t7, hI.t8, hI.t9, hI.t10, hI.t11, hI.t12, fun _ => rfl, hI.t14, hI.t15, hI.t16, hI.t17, hI.t18, hI.a2, hI.a5, hI.a7, hI.bl⟩⟩
  · rintro L a wx ⟨v19, v20, v21, v22, v23, v24, v25, v26, v27, v28, v29, v30, v31, v32, v33, v34, v35, v36, v4, rfl, hI⟩ hL hdep hcl K hK
    obtain rfl := hI.t10 (hdep 10 (by decide))
    obtain rfl := hI.t13 (hdep 13 (by decide))
    go_simp
    exact hK _ _ ⟨v19, v20, v21, v22, v23, v24, v25, v26, v27, v28, _, v30, v31, _, _, v34, v35, v36, v4, rfl, ⟨hI.t0, hI.t1, hI.t2, hI.t3, hI.t4, hI.t5, hI.t6, hI.t7, hI.t8, hI.t9, hI.t10, hI.t11, hI.t12, hI.t13, fun _ => rfl, hI.t15, hI.t16, hI.t17, hI.t18, hI.a2, hI.a5, hI.a7, hI.bl⟩⟩
  · rintro L a wx ⟨v19, v20, v21, v22, v23, v24, v25, v26, v27, v28, v29, v30, v31, v32, v33, v34, v35, v36, v4, rfl, hI⟩ hL hdep hcl K hK
    obtain rfl := hI.t14 (hdep 14 (by decide))
    go_simp
    exact hK _ _ ⟨v19, v20, v21, v22, v23, v24, v25, v26, v27, v28, v29, v30, v31, v32, _, _, v35, v36, v4, rfl, ⟨hI.t0, hI.t1, hI.t2, hI.t3, hI.t4, hI.t5, hI.t6, hI.t7, hI.t8, hI.t9, hI.t10, hI.t11, hI.t12, hI.t13, hI.t14, fun _ => rfl, hI.t16, hI.t17, hI.t18, hI.a2, hI.a5, hI.a7, hI.bl⟩⟩
  · rintro L a wx ⟨v19, v20, v21, v22, v23, v24, v25, v26, v27, v28, v29, v30, v31, v32, v33, v34, v35, v36, v4, rfl, hI⟩ hL hdep hcl K hK
    obtain rfl := hI.t15 (hdep 15 (by decide))
    refine (if_pos rfl).mpr ?_
    go_simp
    refine (wakes_any _).mono ?_
    rintro e w' ⟨rfl, hb⟩
    exact hK _ _ ⟨v19, v20, v21, v22, v23, v24, v25, v26, v27, v28, v29, v30, v31, v32, v33, _, _, v36, v4, rfl, ⟨hI.t0, hI.t1, hI.t2, hI.t3, hI.t4, hI.t5, hI.t6, hI.t7, hI.t8, hI.t9, hI.t10, hI.t11, hI.t12, hI.t13, hI.t14, hI.t15, fun _ => rfl, hI.t17, hI.t18, hI.a2.kept hb, hI.a5.kept hb, hI.a7.kept hb, hI.bl.trans (hb.mono (Nat.le_of_lt hI.a2.lt))⟩⟩
  · rintro L a wx ⟨v19, v20, v21, v22, v23, v24, v25, v26, v27, v28, v29, v30, v31, v32, v33, v34, v35, v36, v4, rfl, hI⟩ hL hdep hcl K hK
    obtain rfl := hI.t15 (hdep 15 (by decide))
    obtain rfl := hI.t16 (hdep 16 (by decide))
    go_simp
    exact hK _ _ ⟨v19, v20, v21, v22, v23, v24, v25, v26, v27, v28, v29, v30, v31, v32, v33, _, _, _, v4, rfl, ⟨hI.t0, hI.t1, hI.t2, hI.t3, hI.t4, hI.t5, hI.t6, hI.t7, hI.t8, hI.t9, hI.t10, hI.t11, hI.t12, hI.t13, hI.t14, hI.t15, hI.t16, fun _ => rfl, hI.t18, hI.a2, hI.a5, hI.a7, hI.bl⟩⟩
  · rintro L a wx ⟨v19, v20, v21, v22, v23, v24, v25, v26, v27, v28, v29, v30, v31, v32, v33, v34, v35, v36, v4, rfl, hI⟩ hL hdep hcl K hK
    obtain rfl := hI.t17 (hdep 17 (by decide))
    go_simp
    exact hK _ _ ⟨v19, v20, v21, v22, v23, v24, v25, v26, v27, v28, v29, v30, v31, v32, v33, v34, v35, _, _, rfl, ⟨hI.t0, hI.t1, hI.t2, hI.t3, hI.t4, hI.t5, hI.t6, hI.t7, hI.t8, hI.t9, hI.t10, hI.t11, hI.t12, hI.t13, hI.t14, hI.t15, hI.t16, hI.t17, fun _ => rfl, hI.a2, hI.a5, hI.a7, hI.bl⟩⟩
  · rintro a wx ⟨v19, v20, v21, v22, v23, v24, v25, v26, v27, v28, v29, v30, v31, v32, v33, v34, v35, v36, v4, rfl, hI⟩
    obtain rfl := hI.t18 rfl
    have hB := hI.bl
    clear hI hX hY5 hY7 hB7 heq
    go_wp2
    go_ret
    exact ⟨rfl, HG.out ▸ hB⟩

set_option maxRecDepth 100000 in
theorem shaTexts_lifted (os : Os) (started : os.Started) (H : Type) (enc : TypeId × Value → H) :
    ReturnsInHanded {} Try.checked os 5 .any (Rows.shaTextsSpec.pre6 enc Try.prog Try.f5 Rows.shaTextsRow.domain false) (Rows.shaTextsSpec.post enc Try.prog Try.f5 false true false false) := by
  refine returnsInHanded_of_change (C := Try.checked) ownKnobs started (by kernel_rfl) Try.func5
    (ChangeSpec.witness6 (enc := enc) (C := Try.checked) false ⟨#[], #[.agg (bvs (Z8 32)).toArray, .string ⟨#[]⟩], []⟩ 8 (by kernel_rfl) (by kernel_rfl) (by kernel_rfl) (by kernel_rfl)) ?_
  intro W base args ds gs before hval hW _ _
  have hW' := hW
  obtain ⟨p, q, hA0, hV, rfl, _, _⟩ := hW
  have hA : DataW.TrodAll enc Try.prog W 0 (fun _ => true) true Try.f5.params.toList args.toList ds p := hA0
  have hval' := hval
  rw [Try.params5] at hA hval'
  obtain ⟨v0, v1, d0, d1, p0, p1, hargs, rfl, rfl, h0, h1⟩ := trodAll_two hA
  obtain rfl : args = #[v0, v1] := by cases args; simp_all
  obtain ⟨rfl, rfl⟩ := trodVars_none hV
  obtain ⟨xs, hx, rfl⟩ := digest_of_trod (hval' 0 24 v0 rfl rfl) h0
  obtain ⟨s, rfl, rfl, rfl, hs⟩ := Go.ChangeMaps.open_string Try.underlying9 (hval' 1 9 v1 rfl rfl) h1
  refine (Texts_any xs s hx W).mono fun e W' ⟨he, hw⟩ => ?_
  subst he
  exact ⟨_, rfl, law_post laidOuts (by kernel_rfl) rfl Try.underlying4 rfl hW' hw rfl⟩

theorem shaTexts_proved : Rows.ShaTextsSaid :=
  OpenClaim.holds_of_wide 5 Try.f5 rfl rfl rfl rfl rfl rfl rfl ⟨rfl, rfl, rfl, rfl, rfl⟩ rfl rfl rfl rfl rfl (by kernel_rfl) Try.func5 (by kernel_rfl)
    (of_decide_eq_true (by kernel_rfl)) (by unfold Func.isWrapper; first | (rw [if_pos (by decide +kernel)]; kernel_rfl) | (rw [if_neg (by decide +kernel)]; exact ⟨rfl, rfl⟩))
    (fun os started H enc _ => shaTexts_lifted os started H enc)
end Go.Proofs.Ytgippimoklefnaa
