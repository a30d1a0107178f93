/-
  Layer 8: the program's hashes of a leaf, of a node. Layer 8: the program's head of two hashes or more, out of both halves'. Layer 8: the program's Root, Sub. Conditions: those in each statement.
-/
import Derived.Test.YtfidajbenmgflaaDoorMgA
import Derived.Test.YtfidajbenmgflaaDoorArr2
import Derived.Test.YtfidajbenmgflaaDoorShelf
import Derived.Test.YtfidajbenmgflaaDoorMgB
namespace Go.Proofs.YtfidajbenmgflaaDoor
open Go.RowKit

theorem infoN65 : (Tryd.prog.info? 91).map (fun i => (i.zero, i.size)) = some (some (.agg (bvs (Z8 65)).toArray), 65) := by kernel_rfl
theorem sizeN65 : (Tryd.prog.info? 91).map (·.size) = some 65 := by kernel_rfl
theorem built65 : Tryd.prog.built 91 [(0, .int .u8 1)] = some (bvs (1 :: Z8 64)).toArray := by kernel_rfl
theorem bvs_app (x y : List UInt8) : bvs (x ++ y) = bvs x ++ bvs y := by simp [bvs]

set_option maxRecDepth 100000 in
set_option maxHeartbeats 1600000 in
theorem Node_any (x y : List UInt8) (w : World) (hx : x.length = 32) (hy : y.length = 32) :
    Calls Tryd.prog 31 #[.agg (bvs x).toArray, .agg (bvs y).toArray] w fun e w' => e = .returned (.agg (bvs (nodeH x y)).toArray) ∧ Below w.heap.size w w' := by
  have hdl := bvs_len (nodeH x y)
  rw [show (nodeH x y).length = 32 from shaL_len _] at hdl
  have h32 : Hid ((Tryd.prog.info? 48).map (·.size) = some (bvs (nodeH x y)).length) := by show _ = _; rw [hdl]; exact sizeD
  have H1 := Lib.hid (bvs_one (nodeH x y))
  have HDL := Lib.hid hdl
  have hS : Hid (∀ w g, Arr w g 91 (bvs (1 :: (x ++ y))) → Calls Tryd.prog 29 #[.slice (some ⟨g, 0, none⟩) 65 65] w (fun e w' => e = .returned (.agg (bvs (nodeH x y)).toArray) ∧ Below w.heap.size w w')) := fun w g h => by
    have h1 := rd_arr h
    have e : (1 :: (x ++ y)).length = 65 := by simp [hx, hy]
    rw [e] at h1
    exact shaSum_any (1 :: (x ++ y)) _ 65 65 w (by rw [e]; omega) h1
  have ex : Hid ((bvs x).length = 32) := by show _ = _; rw [bvs_len]; exact hx
  have ey : Hid ((bvs y).length = 32) := by show _ = _; rw [bvs_len]; exact hy
  have q1 : Hid ((bvs (1 :: Z8 64)).take 1 ++ (bvs x ++ (bvs (1 :: Z8 64)).drop (1 + (bvs x).length)) = bvs (1 :: (x ++ Z8 32))) := by
    show _ = _
    rw [ex.out]
    simp [bvs, Z8]
  have q2 : Hid ((bvs (1 :: (x ++ Z8 32))).take 33 ++ (bvs y ++ (bvs (1 :: (x ++ Z8 32))).drop (33 + (bvs y).length)) = bvs (1 :: (x ++ y))) := by
    show _ = _
    rw [ey.out]
    have e33 : (bvs (1 :: (x ++ Z8 32))).take 33 = bvs (1 :: x) := by
      simp [bvs, hx]
    rw [e33, List.drop_of_length_le (by rw [bvs_len]; simp [hx, Z8])]
    simp [bvs]
  have l65 : Hid ((bvs (1 :: (x ++ Z8 32))).length = 65) := by show _ = _; rw [bvs_len]; simp [hx, Z8]
  clear hdl hx hy
  generalize nodeH x y = D at *
  go_enter Tryd.func31, Tryd.ntmps31
  go_upto_region 2 with (first
    | ((with_reducible show wpList _ _ _ (⟨some 2, .box _ _, _, _, _, _⟩ :: _) _ _); refine wl_box rfl 48 _ rfl (bvs x) rfl ?_; intro w1 hA1 hb1 hs1)
    | ((with_reducible show wpList _ _ _ (⟨some 3, .box _ _, _, _, _, _⟩ :: _) _ _); refine wl_box rfl 48 _ rfl (bvs y) rfl ?_; intro w2 hA2 hb2 hs2)
    | ((with_reducible show wpList _ _ _ (⟨some 4, .alloc _, _, _, _, _⟩ :: _) _ _); refine wl_alloc rfl 48 rfl (bvs (Z8 32)) 32 infoD ?_; intro w3 hA3 hb3 hs3)
    | ((with_reducible show wpList _ _ _ (⟨some 6, .build _ _, _, _, _, _⟩ :: _) _ _); refine wpList_buildTo rfl 91 _ rfl (some 6) rfl (bvs (1 :: Z8 64)).toArray (by simpa [Act.eval] using built65) ?_)
    | ((with_reducible show wpList _ _ _ (⟨some 5, .alloc _, _, _, _, _⟩ :: _) _ _); refine wl_alloc rfl 91 rfl (bvs (Z8 65)) 65 infoN65 ?_; intro w4 hA4 hb4 hs4)
    | ((with_reducible show wpList _ _ _ (⟨none, .store _ _ _, _, _, _, _⟩ :: _) _ _); refine wl_store rfl 91 _ _ rfl w3.heap.size 0 rfl (bvs (1 :: Z8 64)) rfl 91 _ hA4 sizeN65 (by decide) (bvs_one _) ?_; intro w5 hA5 hg5 hs5))
  rw [whole_store _ _ (by decide)] at hA5
  have B3 : Below w.heap.size w w3 := hb1.trans ((hb2.mono (by omega)).trans (hb3.mono (by omega)))
  have B5 : Below w3.heap.size w3 w5 := hb4.grown hg5 (by omega) (by intro k e; injection e with e; omega)
  have X5 := ((hA1.kept hb2).kept hb3).kept B5
  have Y5 := (hA2.kept hb3).kept B5
  have R5 := hA3.kept B5
  have W5 : Below w.heap.size w w5 := B3.trans (B5.mono (by omega))
  obtain ⟨gx, hgx⟩ : ∃ g, w.heap.size = g := ⟨_, rfl⟩
  obtain ⟨gy, hgy⟩ : ∃ g, w1.heap.size = g := ⟨_, rfl⟩
  obtain ⟨gr, hgr⟩ : ∃ g, w2.heap.size = g := ⟨_, rfl⟩
  obtain ⟨gt, hgt⟩ : ∃ g, w3.heap.size = g := ⟨_, rfl⟩
  rw [hgx] at hs1 X5 W5 ⊢
  rw [hgy] at hs1 hs2 Y5 ⊢
  rw [hgr] at hs2 hs3 R5 ⊢
  rw [hgt] at hs3 hA5 ⊢
  have W5s := W5.size
  rw [hgx] at W5s
  have HGX := Lib.hid hgx
  clear hA1 hA2 hA3 hA4 hb1 hb2 hb3 hb4 hg5 hs4 hs5 B3 B5 hgx hgy hgr hgt
  refine wp_region_still_tail 2 (by kernel_rfl) (by kernel_rfl) ?_
  simp only [List.take_succ_cons, List.take_zero, List.drop_succ_cons, List.drop_zero]
  repeat still_step
  refine wpStill_nil ?_
  change wpList _ _ _ _ _ w5.drew
  replace X5 := X5.drew
  replace Y5 := Y5.drew
  replace R5 := R5.drew
  replace hA5 := hA5.drew
  replace W5 := W5.drew
  have W5s : gx ≤ w5.drew.heap.size := W5s
  generalize w5.drew = w6 at *
  refine wl_copyV rfl _ _ 38 38 rfl 5 Tryd.underlying38 (by kernel_rfl) gt 1 64 64 _ 32 32 rfl rfl 91 _ hA5 (bvs x) (by rw [ex.out]; rfl) (fun _ => ⟨_, rfl, fun j v h => by rw [Addr.add_lit, X5.cell]; simpa using h⟩) (by rw [ex.out]; decide) (bvs_one _) ?_
  intro w7 hA7 hg7 hs7
  rw [q1.out] at hA7
  replace Y5 := Y5.grown hg7 (by intro e; injection e with e; omega)
  replace R5 := R5.grown hg7 (by intro e; injection e with e; omega)
  replace W5 := W5.grown hg7 W5s (by intro k e; injection e with e; omega)
  replace W5s := Nat.le_trans W5s hs7
  clear hA5 X5 hg7 hs7
  rw [ex.out]
  go_upto_region 3 with fail
  refine wp_region_still_tail 2 (by kernel_rfl) (by kernel_rfl) ?_
  simp only [List.take_succ_cons, List.take_zero, List.drop_succ_cons, List.drop_zero]
  repeat still_step
  refine wpStill_nil ?_
  change wpList _ _ _ _ _ w7.drew
  replace Y5 := Y5.drew
  replace R5 := R5.drew
  replace hA7 := hA7.drew
  replace W5 := W5.drew
  have W5s : gx ≤ w7.drew.heap.size := W5s
  generalize w7.drew = w8 at *
  refine wl_copyV rfl _ _ 38 38 rfl 5 Tryd.underlying38 (by kernel_rfl) gt 33 32 32 _ 32 32 rfl rfl 91 _ hA7 (bvs y) (by rw [ey.out]; rfl) (fun _ => ⟨_, rfl, fun j v h => by rw [Addr.add_lit, Y5.cell]; simpa using h⟩) (by rw [ey.out, l65.out]; omega) (bvs_one _) ?_
  intro w9 hA9 hg9 hs9
  rw [q2.out] at hA9
  replace R5 := R5.grown hg9 (by intro e; injection e with e; omega)
  replace W5 := W5.grown hg9 W5s (by intro k e; injection e with e; omega)
  replace W5s := Nat.le_trans W5s hs9
  clear hA7 Y5 hg9 hs9
  rw [ey.out]
  go_wp2_with (first
    | (go_at_call 29; refine (hS.out _ _ hA9).mono ?_; rintro e w10 ⟨rfl, hb10⟩)
    | ((with_reducible show wpList _ _ _ (⟨none, .store _ _ _, _, _, _, _⟩ :: _) _ _); refine wl_store rfl 48 _ _ rfl gr 0 rfl (bvs D) rfl 48 _ (R5.kept hb10) h32.out (by rw [HDL.out]; exact (by decide : 0 + 32 ≤ (bvs (Z8 32)).length)) H1.out ?_; intro w11 hA11 hg11 hs11))
  rw [whole_store _ _ (by rw [HDL.out]; rfl)] at hA11
  refine end_cell rfl gr 48 (bvs D) (.array 32 5) rfl hA11 Tryd.underlying48 rfl h32.out rfl ⟨rfl, ?_⟩
  have z := hb10.size
  rw [HGX.out]
  exact (W5.trans (hb10.mono W5s)).grown hg11 (by omega) (by intro k e; injection e with e; omega)
end Go.Proofs.YtfidajbenmgflaaDoor

namespace Go.Proofs.YtfidajbenmgflaaDoor
open Go.RowKit

theorem RdD.cap {w : World} {b off n c c' : Nat} {L : List (List UInt8)} (h : RdD w (some ⟨b, off, none⟩) n c L) (hc : n ≤ c') : RdD w (some ⟨b, off, none⟩) n c' L :=
  ⟨h.len, hc, h.all, (by intro e; cases e), h.mem⟩
theorem bitLenAux_log (f : Nat) : ∀ x, x ≠ 0 → x < 2 ^ f → Lib.bitLenAux f x = x.log2 + 1 := by
  induction f with
  | zero => intro x h0 h1; omega
  | succ f ih =>
    intro x h0 h1
    have h2 : x / 2 < 2 ^ f := by rw [Nat.pow_succ] at h1; omega
    simp only [Lib.bitLenAux, if_neg h0]
    by_cases h : x < 2
    · have : x = 1 := by omega
      subst this
      cases f <;> simp [Lib.bitLenAux] <;> decide
    · rw [ih (x / 2) (by omega) h2, Nat.log2_def x, if_pos (by omega)]
      omega
theorem bitLen_log (x : Nat) (h0 : x ≠ 0) (h : x < 2 ^ 64) : Lib.bitLen x = x.log2 + 1 := bitLenAux_log 64 x h0 h

set_option maxRecDepth 100000 in
set_option maxHeartbeats 1600000 in
theorem split_any (n : Nat) (w : World) (h2 : 2 ≤ n) (h : n ≤ 2 ^ 50) : Calls Tryd.prog 30 #[.int .i64 (n : Int)] w fun e w' => e = .returned (.int .i64 (splK n : Int)) ∧ w' = w := by
  obtain ⟨N, hN⟩ : ∃ N, N = n - 1 := ⟨_, rfl⟩
  have hs : splK n = 2 ^ N.log2 := by rw [hN]; rfl
  have hb : Lib.bitLen N = N.log2 + 1 := bitLen_log N (by omega) (by omega)
  have hE0 : N.log2 < 51 := by rw [Nat.log2_lt (by omega)]; omega
  obtain ⟨E, hE⟩ : ∃ E, E = N.log2 := ⟨_, rfl⟩
  rw [← hE] at hb hs hE0
  rw [hs]
  have hc := fun w => Tryd.bits_Len (N : Int) w (by omega) (by omega)
  rw [Int.toNat_natCast, hb] at hc
  have hk : Hid (wrap64 (2 ^ E) = ((2 ^ E : Nat) : Int)) := by
    show _ = _
    have h1 : 2 ^ E ≤ 2 ^ 50 := Nat.pow_le_pow_right (by omega) (by omega)
    rw [show ((2 : Int) ^ E) = ((2 ^ E : Nat) : Int) by push_cast; rfl]
    unfold wrap64
    generalize 2 ^ E = x at *
    omega
  have hn : (n : Int) - 1 = (N : Int) := by omega
  have hw1 : wrap64 (N : Int) = (N : Int) := by unfold wrap64; omega
  have hw2 : IntKind.u64.wrap (N : Int) = (N : Int) := by rw [IntKind.wrap_u64]; omega
  clear hb hE hs h2 h hN
  go_enter Tryd.func30, Tryd.ntmps30
  go_wp2_with (go_at_call 43; refine (hc _).mono ?_; rintro _ _ ⟨rfl, rfl⟩)
  rw [hk.out]
  go_ret
  exact ⟨rfl, rfl⟩

structure InvRootP (L : List (List UInt8)) (X b off n cap g : Nat) (B : Nat) (wb : World) (L_ : Nat → Bool) (v18 v19 v20 v21 v22 v23 v24 v25 v26 v27 v28 v29 : Value) (wx : World) : Prop where
  t0 : L_ 0 = true → v18 = .slice (some ⟨b, off, none⟩) n cap
  t1 : L_ 1 = true → v19 = .int .i64 (X : Int)
  t2 : L_ 2 = true → v20 = .int .i64 (X : Int)
  t3 : L_ 3 = true → v21 = .slice (some ⟨b, off, none⟩) X X
  t4 : L_ 4 = true → v22 = .agg (bvs (rootF (L.take X))).toArray
  t5 : L_ 5 = true → v23 = .slice (some ⟨b, off, none⟩) n cap
  t6 : L_ 6 = true → v24 = .int .i64 (X : Int)
  t7 : L_ 7 = true → v25 = .int .i64 (n : Int)
  t8 : L_ 8 = true → v26 = .int .i64 (n : Int)
  t9 : L_ 9 = true → v27 = .slice (some ⟨b, off + X * 32, none⟩) (n - X) (n - X)
  t10 : L_ 10 = true → v28 = .agg (bvs (rootF (L.drop X))).toArray
  t11 : L_ 11 = true → v29 = .agg (bvs (nodeH (rootF (L.take X)) (rootF (L.drop X)))).toArray
  a2 : Arr wx g 48 (if L_ 12 then bvs (nodeH (rootF (L.take X)) (rootF (L.drop X))) else bvs (Z8 32))
  bw : Below B wb wx
  le : B ≤ wb.heap.size


set_option maxRecDepth 100000 in
set_option maxHeartbeats 3200000 in
theorem Root_more (L : List (List UInt8)) (n : Nat) (hn2 : 2 ≤ n) (cap b off : Nat) (w : World) (hn : n ≤ 2 ^ 50) (hcap : n ≤ cap) (hr : RdD w (some ⟨b, off, none⟩) n cap L)
    (ih1 : ∀ w', Below w.heap.size w w' → Calls Tryd.prog 23 #[.slice (some ⟨b, off, none⟩) (splK n) (splK n)] w' fun e w'' => e = .returned (.agg (bvs (rootF (L.take (splK n)))).toArray) ∧ Below w'.heap.size w' w'')
    (ih2 : ∀ w', Below w.heap.size w w' → Calls Tryd.prog 23 #[.slice (some ⟨b, off + splK n * 32, none⟩) (n - splK n) (n - splK n)] w' fun e w'' => e = .returned (.agg (bvs (rootF (L.drop (splK n)))).toArray) ∧ Below w'.heap.size w' w'') :
    Calls Tryd.prog 23 #[.slice (some ⟨b, off, none⟩) n cap] w fun e w' => e = .returned (.agg (bvs (rootF L)).toArray) ∧ Below w.heap.size w w' := by
  have hl := hr.len
  have hroot := rootF_more (L := L) (by omega)
  have hA1 := rootF_len (hr.all.take (splK n))
  have hA2 := rootF_len (hr.all.drop (splK n))
  rw [hl] at hroot
  have HC3' := fun w' => Node_any (rootF (L.take (splK n))) (rootF (L.drop (splK n))) w' hA1 hA2
  have HSP' := fun w' => split_any n w' hn2 hn
  obtain ⟨b1, b2, b3⟩ := splK_bounds (n := n) hn2
  obtain ⟨X, hk⟩ : ∃ k, k = splK n := ⟨_, rfl⟩
  rw [← hk] at b1 b2 b3 ih1 ih2 hroot HC3' HSP'
  have hnl := shaL_len (1 :: (rootF (L.take X) ++ rootF (L.drop X)))
  have H32 : Hid ((Tryd.prog.info? 48).map (·.size) = some (bvs (nodeH (rootF (L.take X)) (rootF (L.drop X)))).length) := by show _ = _; rw [bvs_len]; unfold nodeH; rw [hnl]; exact sizeD
  have L32 : Hid ((bvs (nodeH (rootF (L.take X)) (rootF (L.drop X)))).length = 32) := by show _ = _; rw [bvs_len]; unfold nodeH; rw [hnl]
  have HROOT := Lib.hid hroot
  have HC1 := Lib.hid ih1
  have HC2 := Lib.hid ih2
  have HC3 := Lib.hid HC3'
  have HSP := Lib.hid HSP'
  have e3 : ((n : Int) == 0) = false := by simp only [beq_eq_false_iff_ne]; omega
  have e4 : ((n : Int) == 1) = false := by simp only [beq_eq_false_iff_ne]; omega
  clear HC3' HSP' hr hl hroot hA1 hA2 hk ih1 ih2 hnl
  have c1 : (0 : Int) ≤ (X : Int) := by omega
  have c2 : (X : Int) ≤ (n : Int) := by omega
  have c3 : (X : Int) ≤ (cap : Int) := by omega
  have c4 : (n : Int) ≤ (cap : Int) := by omega
  have HCX : Hid (¬ (n = X)) := by show ¬ _; omega
  go_enter Tryd.func23, Tryd.ntmps23
  go_upto_region 8 with (first
    | ((with_reducible show wpList _ _ _ (⟨some 2, .alloc _, _, _, _, _⟩ :: _) _ _); refine wl_alloc rfl 48 rfl (bvs (Z8 32)) 32 infoD ?_; intro w1 hA hB hs1)
    | (go_at_call 30; refine (HSP.out _).mono ?_; rintro e wr ⟨rfl, rfl⟩))
  obtain ⟨g, hg⟩ : ∃ g, g = w.heap.size := ⟨_, rfl⟩
  rw [← hg] at hA ⊢
  have HG := Lib.hid hg
  clear hg hs1
  refine wp_region_steps [[], [], [], [0, 1, 2], [3], [], [], [], [], [5, 6, 7, 8], [9, 4], [4, 10], [11, 0, 1, 2, 3, 4, 5, 6, 7, 8, 9, 10]] (by kernel_rfl) (by kernel_rfl) (fun L_ a wx => ∃ v18 v19 v20 v21 v22 v23 v24 v25 v26 v27 v28 v29, a = ⟨#[.slice (some ⟨b, off, none⟩) n cap, undef, .pointer (some ⟨g, 0, none⟩), .int .i64 ↑n, .int .i64 ↑X, .slice (some ⟨b, off, none⟩) n cap, .int .i64 ↑n, .int .i64 ↑n, .bool false, .bool false, undef, .bool false, .bool false, undef, undef, undef, .int .i64 ↑n, .int .i64 ↑X, v18, v19, v20, v21, v22, v23, v24, v25, v26, v27, v28, v29], []⟩ ∧ InvRootP L X b off n cap g w.heap.size  wr L_ v18 v19 v20 v21 v22 v23 v24 v25 v26 v27 v28 v29 wx) ?_ ⟨?_, ?_, ?_, ?_, ?_, ?_, ?_, ?_, ?_, ?_, ?_, ?_, ?_, trivial⟩ ?_
  · refine ⟨_, _, _, _, _, _, _, _, _, _, _, _, rfl, ⟨?_, ?_, ?_, ?_, ?_, ?_, ?_, ?_, ?_, ?_, ?_, ?_, hA.drew, (Below.refl _ _).drew, hB.size⟩⟩ <;> (intro h; exact absurd h (by decide))
  · rintro L_ a wx ⟨v18, v19, v20, v21, v22, v23, v24, v25, v26, v27, v28, v29, rfl, hI⟩ hL hdep hcl K hK
    go_simp
    exact hK _ _ ⟨_, v19, v20, v21, v22, v23, v24, v25, v26, v27, v28, v29, rfl, ⟨fun _ => rfl, hI.t1, hI.t2, hI.t3, hI.t4, hI.t5, hI.t6, hI.t7, hI.t8, hI.t9, hI.t10, hI.t11, hI.a2, hI.bw, hI.le⟩⟩
  · rintro L_ a wx ⟨v18, v19, v20, v21, v22, v23, v24, v25, v26, v27, v28, v29, rfl, hI⟩ hL hdep hcl K hK
    go_simp
    exact hK _ _ ⟨v18, _, v20, v21, v22, v23, v24, v25, v26, v27, v28, v29, rfl, ⟨hI.t0, fun _ => rfl, hI.t2, hI.t3, hI.t4, hI.t5, hI.t6, hI.t7, hI.t8, hI.t9, hI.t10, hI.t11, hI.a2, hI.bw, hI.le⟩⟩
  · rintro L_ a wx ⟨v18, v19, v20, v21, v22, v23, v24, v25, v26, v27, v28, v29, rfl, hI⟩ hL hdep hcl K hK
    go_simp
    exact hK _ _ ⟨v18, v19, _, v21, v22, v23, v24, v25, v26, v27, v28, v29, rfl, ⟨hI.t0, hI.t1, fun _ => rfl, hI.t3, hI.t4, hI.t5, hI.t6, hI.t7, hI.t8, hI.t9, hI.t10, hI.t11, hI.a2, hI.bw, hI.le⟩⟩
  · rintro L_ a wx ⟨v18, v19, v20, v21, v22, v23, v24, v25, v26, v27, v28, v29, rfl, hI⟩ hL hdep hcl K hK
    obtain rfl := hI.t0 (hdep 0 (by decide))
    obtain rfl := hI.t1 (hdep 1 (by decide))
    obtain rfl := hI.t2 (hdep 2 (by decide))
    go_simp
    exact hK _ _ ⟨_, _, _, _, v22, v23, v24, v25, v26, v27, v28, v29, rfl, ⟨hI.t0, hI.t1, hI.t2, fun _ => rfl, hI.t4, hI.t5, hI.t6, hI.t7, hI.t8, hI.t9, hI.t10, hI.t11, hI.a2, hI.bw, hI.le⟩⟩
  · rintro L_ a wx ⟨v18, v19, v20, v21, v22, v23, v24, v25, v26, v27, v28, v29, rfl, hI⟩ hL hdep hcl K hK
    obtain rfl := hI.t3 (hdep 3 (by decide))
    have HC := HC1.out wx (hB.trans hI.bw)
    go_simp
    refine HC.mono ?_
    rintro e w' ⟨rfl, hb⟩
    exact hK _ _ ⟨v18, v19, v20, _, _, v23, v24, v25, v26, v27, v28, v29, rfl, ⟨hI.t0, hI.t1, hI.t2, hI.t3, fun _ => rfl, hI.t5, hI.t6, hI.t7, hI.t8, hI.t9, hI.t10, hI.t11, (hI.a2).kept hb, (hI.bw).trans (hb.mono (Nat.le_trans hI.le (hI.bw).size)), hI.le⟩⟩
  · rintro L_ a wx ⟨v18, v19, v20, v21, v22, v23, v24, v25, v26, v27, v28, v29, rfl, hI⟩ hL hdep hcl K hK
    go_simp
    exact hK _ _ ⟨v18, v19, v20, v21, v22, _, v24, v25, v26, v27, v28, v29, rfl, ⟨hI.t0, hI.t1, hI.t2, hI.t3, hI.t4, fun _ => rfl, hI.t6, hI.t7, hI.t8, hI.t9, hI.t10, hI.t11, hI.a2, hI.bw, hI.le⟩⟩
  · rintro L_ a wx ⟨v18, v19, v20, v21, v22, v23, v24, v25, v26, v27, v28, v29, rfl, hI⟩ hL hdep hcl K hK
    go_simp
    exact hK _ _ ⟨v18, v19, v20, v21, v22, v23, _, v25, v26, v27, v28, v29, rfl, ⟨hI.t0, hI.t1, hI.t2, hI.t3, hI.t4, hI.t5, fun _ => rfl, hI.t7, hI.t8, hI.t9, hI.t10, hI.t11, hI.a2, hI.bw, hI.le⟩⟩
  · rintro L_ a wx ⟨v18, v19, v20, v21, v22, v23, v24, v25, v26, v27, v28, v29, rfl, hI⟩ hL hdep hcl K hK
    go_simp
    exact hK _ _ ⟨v18, v19, v20, v21, v22, v23, v24, _, v26, v27, v28, v29, rfl, ⟨hI.t0, hI.t1, hI.t2, hI.t3, hI.t4, hI.t5, hI.t6, fun _ => rfl, hI.t8, hI.t9, hI.t10, hI.t11, hI.a2, hI.bw, hI.le⟩⟩
  · rintro L_ a wx ⟨v18, v19, v20, v21, v22, v23, v24, v25, v26, v27, v28, v29, rfl, hI⟩ hL hdep hcl K hK
    go_simp
    exact hK _ _ ⟨v18, v19, v20, v21, v22, v23, v24, v25, _, v27, v28, v29, rfl, ⟨hI.t0, hI.t1, hI.t2, hI.t3, hI.t4, hI.t5, hI.t6, hI.t7, fun _ => rfl, hI.t9, hI.t10, hI.t11, hI.a2, hI.bw, hI.le⟩⟩
  · rintro L_ a wx ⟨v18, v19, v20, v21, v22, v23, v24, v25, v26, v27, v28, v29, rfl, hI⟩ hL hdep hcl K hK
    obtain rfl := hI.t5 (hdep 5 (by decide))
    obtain rfl := hI.t6 (hdep 6 (by decide))
    obtain rfl := hI.t7 (hdep 7 (by decide))
    obtain rfl := hI.t8 (hdep 8 (by decide))
    have hcx : ¬ (n = X) := HCX.out
    go_simp
    exact hK _ _ ⟨v18, v19, v20, v21, v22, _, _, _, _, _, v28, v29, rfl, ⟨hI.t0, hI.t1, hI.t2, hI.t3, hI.t4, hI.t5, hI.t6, hI.t7, hI.t8, fun _ => rfl, hI.t10, hI.t11, hI.a2, hI.bw, hI.le⟩⟩
  · rintro L_ a wx ⟨v18, v19, v20, v21, v22, v23, v24, v25, v26, v27, v28, v29, rfl, hI⟩ hL hdep hcl K hK
    obtain rfl := hI.t9 (hdep 9 (by decide))
    obtain rfl := hI.t4 (hdep 4 (by decide))
    have HC := HC2.out wx (hB.trans hI.bw)
    go_simp
    refine HC.mono ?_
    rintro e w' ⟨rfl, hb⟩
    exact hK _ _ ⟨v18, v19, v20, v21, _, v23, v24, v25, v26, _, _, v29, rfl, ⟨hI.t0, hI.t1, hI.t2, hI.t3, hI.t4, hI.t5, hI.t6, hI.t7, hI.t8, hI.t9, fun _ => rfl, hI.t11, (hI.a2).kept hb, (hI.bw).trans (hb.mono (Nat.le_trans hI.le (hI.bw).size)), hI.le⟩⟩
  · rintro L_ a wx ⟨v18, v19, v20, v21, v22, v23, v24, v25, v26, v27, v28, v29, rfl, hI⟩ hL hdep hcl K hK
    obtain rfl := hI.t4 (hdep 4 (by decide))
    obtain rfl := hI.t10 (hdep 10 (by decide))
    have HC := HC3.out wx
    go_simp
    refine HC.mono ?_
    rintro e w' ⟨rfl, hb⟩
    exact hK _ _ ⟨v18, v19, v20, v21, _, v23, v24, v25, v26, v27, _, _, rfl, ⟨hI.t0, hI.t1, hI.t2, hI.t3, hI.t4, hI.t5, hI.t6, hI.t7, hI.t8, hI.t9, hI.t10, fun _ => rfl, (hI.a2).kept hb, (hI.bw).trans (hb.mono (Nat.le_trans hI.le (hI.bw).size)), hI.le⟩⟩
  · rintro L_ a wx ⟨v18, v19, v20, v21, v22, v23, v24, v25, v26, v27, v28, v29, rfl, hI⟩ hL hdep hcl K hK
    obtain rfl := hI.t11 (hdep 11 (by decide))
    obtain rfl := hI.t0 (hdep 0 (by decide))
    obtain rfl := hI.t1 (hdep 1 (by decide))
    obtain rfl := hI.t2 (hdep 2 (by decide))
    obtain rfl := hI.t3 (hdep 3 (by decide))
    obtain rfl := hI.t4 (hdep 4 (by decide))
    obtain rfl := hI.t5 (hdep 5 (by decide))
    obtain rfl := hI.t6 (hdep 6 (by decide))
    obtain rfl := hI.t7 (hdep 7 (by decide))
    obtain rfl := hI.t8 (hdep 8 (by decide))
    obtain rfl := hI.t9 (hdep 9 (by decide))
    obtain rfl := hI.t10 (hdep 10 (by decide))
    have hA0 : Arr wx g 48 (bvs (Z8 32)) := by
      have := hI.a2
      rw [hL] at this
      exact this
    refine ow_store 48 _ _ rfl g 0 rfl (bvs (nodeH (rootF (L.take X)) (rootF (L.drop X)))) rfl 48 _ hA0 H32.out (by rw [L32.out]; exact (by decide : 0 + 32 ≤ (bvs (Z8 32)).length)) (bvs_one _) ?_
    intro w' hA' hg hs
    rw [whole_store _ _ (by rw [L32.out]; rfl)] at hA'
    exact hK _ _ ⟨_, _, _, _, _, _, _, _, _, _, _, _, rfl, ⟨hI.t0, hI.t1, hI.t2, hI.t3, hI.t4, hI.t5, hI.t6, hI.t7, hI.t8, hI.t9, hI.t10, hI.t11, hA', hI.bw.grown hg (Nat.le_trans hI.le hI.bw.size) (by intro k e; injection e with e; have := HG.out; omega), hI.le⟩⟩
  · rintro a wx ⟨v18, v19, v20, v21, v22, v23, v24, v25, v26, v27, v28, v29, rfl, hI⟩
    have hS3 := hI.a2
    have hbw := hI.bw
    clear hI
    go_wp2
    refine end_cell rfl g 48 (bvs (nodeH (rootF (L.take X)) (rootF (L.drop X)))) (.array 32 5) rfl hS3 Tryd.underlying48 rfl H32.out rfl ⟨HROOT.out ▸ rfl, ?_⟩
    exact hB.trans hbw
end Go.Proofs.YtfidajbenmgflaaDoor

namespace Go.Proofs.YtfidajbenmgflaaDoor
open Go.RowKit

set_option maxRecDepth 100000 in
set_option maxHeartbeats 3200000 in
theorem Root_any : ∀ (N : Nat) (L : List (List UInt8)), L.length ≤ N → ∀ (a : Option Addr) (n cap : Nat) (w : World), n ≤ 2 ^ 50 → RdD w a n cap L →
    Calls Tryd.prog 23 #[.slice a n cap] w fun e w' => e = .returned (.agg (bvs (rootF L)).toArray) ∧ Below w.heap.size w w' := by
  intro N
  induction N using Nat.strongRecOn with
  | _ N ih =>
    intro L hN a n cap w hn hr
    have hl := hr.len
    by_cases h0 : n = 0
    · subst h0
      have hL : L = [] := List.eq_nil_of_length_eq_zero hl
      subst hL
      have hlen := shaL_len []
      have h32 : Hid ((Tryd.prog.info? 48).map (·.size) = some (bvs (rootF [])).length) := by show _ = _; rw [bvs_len, rootF_nil, hlen]; exact sizeD
      have L32 : Hid ((bvs (rootF [])).length = 32) := by show _ = _; rw [bvs_len, rootF_nil, hlen]
      have hS : Hid (∀ w, Calls Tryd.prog 29 #[.slice none 0 0] w (fun e w' => e = .returned (.agg (bvs (rootF [])).toArray) ∧ Below w.heap.size w w')) := fun w => shaSum_any [] none 0 0 w (by simp) (Rd.none w)
      clear hr hl hlen ih hN
      generalize rootF [] = S at *
      go_enter Tryd.func23, Tryd.ntmps23
      go_wp2_with (first
        | ((with_reducible show wpList _ _ _ (⟨some 2, .alloc _, _, _, _, _⟩ :: _) _ _); refine wl_alloc rfl 48 rfl (bvs (Z8 32)) 32 infoD ?_; intro w1 hA1 hb1 hs1)
        | (go_at_call 29; refine (hS.out _).mono ?_; rintro e w5 ⟨rfl, hb5⟩)
        | ((with_reducible show wpList _ _ _ (⟨none, .store _ _ _, _, _, _, _⟩ :: _) _ _); refine wl_store rfl 48 _ _ rfl w.heap.size 0 rfl (bvs S) rfl 48 _ (hA1.kept hb5) h32.out (by rw [L32.out]; exact (by decide : 0 + 32 ≤ (bvs (Z8 32)).length)) (bvs_one _) ?_; intro w15 hR15 hg15 hs15))
      rw [whole_store _ _ (by rw [L32.out]; rfl)] at hR15
      refine end_cell rfl w.heap.size 48 (bvs S) (.array 32 5) rfl hR15 Tryd.underlying48 rfl h32.out rfl ⟨rfl, ?_⟩
      have hb' := hb1.trans (hb5.mono (by omega))
      exact hb'.grown hg15 hb'.size (by intro k e; injection e with e; omega)
    · by_cases h1 : n = 1
      · subst h1
        have hroot : rootF L = L.getD 0 [] := by
          match L, hl with
          | [x], _ => rfl
        have hlen := hr.all 0 (by omega)
        obtain ⟨b, off, rfl, hbl, -⟩ := hr.mem (by omega)
        have hrange := hr.range 0 (by omega)
        rw [Nat.zero_mul, Nat.add_zero] at hrange
        rw [hroot]
        have h32 : Hid ((Tryd.prog.info? 48).map (·.size) = some (bvs (L.getD 0 [])).length) := by show _ = _; rw [bvs_len, hlen]; exact sizeD
        have L32 : Hid ((bvs (L.getD 0 [])).length = 32) := by show _ = _; rw [bvs_len, hlen]
        clear hroot hlen ih hr hl hN h0
        generalize L.getD 0 [] = S at *
        go_enter Tryd.func23, Tryd.ntmps23
        go_wp2_with (first
          | ((with_reducible show wpList _ _ _ (⟨some 2, .alloc _, _, _, _, _⟩ :: _) _ _); refine wl_alloc rfl 48 rfl (bvs (Z8 32)) 32 infoD ?_; intro w1 hA1 hb1 hs1; have hrg : w1.rangeAt b off (bvs S) := fun j v hv => (hb1.cell (p := ⟨b, off + j, none⟩) hbl).trans (hrange j v hv))
          | ((with_reducible show wpList _ _ _ (⟨some 15, .load _ _, _, _, _, _⟩ :: _) _ _); refine wpList_load_mid rfl 48 _ rfl b off rfl (bvs S) (.array 32 5) hrg Tryd.underlying48 rfl h32.out ?_)
          | ((with_reducible show wpList _ _ _ (⟨none, .store _ _ _, _, _, _, _⟩ :: _) _ _); refine wl_store rfl 48 _ _ rfl w.heap.size 0 rfl (bvs S) rfl 48 _ hA1 h32.out (by rw [L32.out]; exact (by decide : 0 + 32 ≤ (bvs (Z8 32)).length)) (bvs_one _) ?_; intro w15 hR15 hg15 hs15))
        rw [whole_store _ _ (by rw [L32.out]; rfl)] at hR15
        refine end_cell rfl w.heap.size 48 (bvs S) (.array 32 5) rfl hR15 Tryd.underlying48 rfl h32.out rfl ⟨rfl, ?_⟩
        exact hb1.grown hg15 hb1.size (by intro k e; injection e with e; omega)
      · have hn2 : 2 ≤ n := by omega
        obtain ⟨b1, b2, b3⟩ := splK_bounds (n := n) hn2
        obtain ⟨b, off, rfl, hbl, -⟩ := hr.mem (by omega)
        refine Root_more L n hn2 cap b off w hn hr.le hr (fun w' hb => ?_) (fun w' hb => ?_)
        · exact ih (splK n) (by omega) (L.take (splK n)) (by simp; omega) _ _ _ w' (by omega) (((hr.to hb).take _ (by omega)).cap (Nat.le_refl _))
        · exact ih (n - splK n) (by omega) (L.drop (splK n)) (by simp; omega) _ _ _ w' (by omega) (((hr.to hb).drop _ b2).cap (Nat.le_refl _))

theorem builtD0 : Tryd.prog.built 48 [] = some (bvs (Z8 32)).toArray := by kernel_rfl

end Go.Proofs.YtfidajbenmgflaaDoor
