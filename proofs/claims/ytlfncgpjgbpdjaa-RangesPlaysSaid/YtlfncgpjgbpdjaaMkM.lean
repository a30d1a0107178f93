/-
  Layer 8: the program's hashes of a leaf, of a node. Conditions: those in each statement.
-/
import Derived.Test.YtlfncgpjgbpdjaaMkC
import Derived.Test.YtlfncgpjgbpdjaaArr2
namespace Go.Proofs.Ytlfncgpjgbpdjaa
open Go.RowKit

set_option maxHeartbeats 1600000 in
theorem Leaf_any (xs : List UInt8) (a : Option Addr) (n c : Nat) (w : World) (hn : n ≤ 140737488355328) (hr : Rd w a n c xs) :
    Calls Try.prog 19 #[.slice a n c] w fun e w' => e = .returned (.agg (bvs (leafH xs)).toArray) ∧ Below w.heap.size w w' := by
  have hl := hr.len
  have hdl := bvs_len (leafH xs)
  rw [show (leafH xs).length = 32 from shaL_len _] at hdl
  have h32 : Hid ((Try.prog.info? 29).map (·.size) = some (bvs (leafH xs)).length) := by show _ = _; rw [hdl]; exact sizeD
  have H1 := Lib.hid (bvs_one (leafH xs))
  have HDL := Lib.hid hdl
  have hS : Hid (∀ r w, St w r ([] ++ [0] ++ xs) → Calls Try.prog 32 #[.pointer (some ⟨r, 0, none⟩)] w (fun e w' => e = .returned (.agg (bvs (leafH xs)).toArray) ∧ Below w.heap.size w w')) := fun r w h => Sum_any r (0 :: xs) w (by simp only [List.length_cons]; omega) h
  have hblk : Hid (∀ ad, a = some ad → 0 < c → ad.block < w.heap.size) := fun ad e h0 => by
    obtain ⟨b, off, e2, h2, _⟩ := hr.mem h0
    rw [e] at e2
    cases e2
    exact h2
  clear hdl
  generalize leafH xs = D at *
  go_enter Try.func19, Try.ntmps19
  go_upto_region 3 with (first
    | ((with_reducible show wpList _ _ _ (⟨some 2, .alloc _, _, _, _, _⟩ :: _) _ _); refine wl_alloc rfl 29 rfl (bvs (Z8 32)) 32 infoD ?_; intro w1 hA1 hb1 hs1)
    | (go_at_call 30; refine (New_any _).mono ?_; rintro e w2 ⟨r, rfl, hS2, hr2, hb2⟩)
    | (go_at_call 31; go_loud (refine (Write_any r [] [0] _ 1 1 _ (by simp) (rd_lit _ [0] _) (fun ad e h0 => (by obtain rfl := (Option.some.inj e).symm; have := hS2.lt; simp; omega)) (hS2.kept ((Below.refl _ _).alloc (Nat.le_refl _) _))).mono ?_); rintro e w3 ⟨rfl, hS3, hg3⟩))
  have x1 := hb1.size
  have x2 := hb2.size
  have x3 := hg3.size
  rw [World.size_alloc] at x3
  have hB3 : Below w.heap.size w w3 := ((hb1.trans (hb2.mono (by omega))).alloc (by omega) _).grown hg3 (by rw [World.size_alloc]; omega) (by intro k e; injection e with e; omega)
  have hA3 : Arr w3 w.heap.size 29 (bvs (Z8 32)) := ((hA1.kept hb2).kept ((Below.refl _ _).alloc (Nat.le_refl _) _)).grown hg3 (by intro e; injection e with e; omega)
  have hr3 := hr.to hB3
  have hr1 : w.heap.size < r := by omega
  clear hA1 hb1 hb2 hg3 hS2 x1 x2 x3 hr2 hs1 hr
  go_wp2_with (first
    | (go_at_call 31; refine (Write_any r ([] ++ [0]) xs a n c _ (by simp; omega) hr3 (fun ad e h0 => (by have := hblk.out ad e h0; omega)) hS3).mono ?_; rintro e w4 ⟨rfl, hS4, hg4⟩)
    | (go_at_call 32; refine (hS.out r _ hS4).mono ?_; rintro e w5 ⟨rfl, hb5⟩)
    | ((with_reducible show wpList _ _ _ (⟨none, .store _ _ _, _, _, _, _⟩ :: _) _ _); refine wl_store rfl 29 _ _ rfl w.heap.size 0 rfl (bvs D) rfl 29 _ ((hA3.grown hg4 (by intro e; injection e with e; omega)).kept hb5) h32.out (by rw [HDL.out]; exact (by decide : 0 + 32 ≤ (bvs (Z8 32)).length)) H1.out ?_; intro w6 hA6 hg6 hs6))
  rw [whole_store _ _ (by rw [HDL.out]; rfl)] at hA6
  refine end_cell rfl w.heap.size 29 (bvs D) (.array 32 5) rfl hA6 Try.underlying29 rfl h32.out rfl ⟨rfl, ?_⟩
  have z3 := hA3.lt
  have z4 := hg4.size
  have z5 := hb5.size
  exact ((hB3.grown hg4 (by omega) (by intro k e; injection e with e; omega)).trans (hb5.mono (by omega))).grown hg6 (by omega) (by intro k e; injection e with e; omega)

theorem infoN65 : (Try.prog.info? 69).map (fun i => (i.zero, i.size)) = some (some (.agg (bvs (Z8 65)).toArray), 65) := by kernel_rfl
theorem sizeN65 : (Try.prog.info? 69).map (·.size) = some 65 := by kernel_rfl
theorem built65 : Try.prog.built 69 [(0, .int .u8 1)] = some (bvs (1 :: Z8 64)).toArray := by kernel_rfl
theorem bvs_app (x y : List UInt8) : bvs (x ++ y) = bvs x ++ bvs y := by simp [bvs]

set_option maxHeartbeats 1600000 in
theorem Node_any (x y : List UInt8) (w : World) (hx : x.length = 32) (hy : y.length = 32) :
    Calls Try.prog 20 #[.agg (bvs x).toArray, .agg (bvs y).toArray] w fun e w' => e = .returned (.agg (bvs (nodeH x y)).toArray) ∧ Below w.heap.size w w' := by
  have hdl := bvs_len (nodeH x y)
  rw [show (nodeH x y).length = 32 from shaL_len _] at hdl
  have h32 : Hid ((Try.prog.info? 29).map (·.size) = some (bvs (nodeH x y)).length) := by show _ = _; rw [hdl]; exact sizeD
  have H1 := Lib.hid (bvs_one (nodeH x y))
  have HDL := Lib.hid hdl
  have hS : Hid (∀ w g, Arr w g 69 (bvs (1 :: (x ++ y))) → Calls Try.prog 28 #[.slice (some ⟨g, 0, none⟩) 65 65] w (fun e w' => e = .returned (.agg (bvs (nodeH x y)).toArray) ∧ Below w.heap.size w w')) := fun w g h => by
    have h1 := rd_arr h
    have e : (1 :: (x ++ y)).length = 65 := by simp [hx, hy]
    rw [e] at h1
    exact shaSum_any (1 :: (x ++ y)) _ 65 65 w (by rw [e]; omega) h1
  have ex : Hid ((bvs x).length = 32) := by show _ = _; rw [bvs_len]; exact hx
  have ey : Hid ((bvs y).length = 32) := by show _ = _; rw [bvs_len]; exact hy
  have q1 : Hid ((bvs (1 :: Z8 64)).take 1 ++ (bvs x ++ (bvs (1 :: Z8 64)).drop (1 + (bvs x).length)) = bvs (1 :: (x ++ Z8 32))) := by
    show _ = _
    rw [ex.out]
    simp [bvs, Z8]
  have q2 : Hid ((bvs (1 :: (x ++ Z8 32))).take 33 ++ (bvs y ++ (bvs (1 :: (x ++ Z8 32))).drop (33 + (bvs y).length)) = bvs (1 :: (x ++ y))) := by
    show _ = _
    rw [ey.out]
    have e33 : (bvs (1 :: (x ++ Z8 32))).take 33 = bvs (1 :: x) := by
      simp [bvs, hx]
    rw [e33, List.drop_of_length_le (by rw [bvs_len]; simp [hx, Z8])]
    simp [bvs]
  have l65 : Hid ((bvs (1 :: (x ++ Z8 32))).length = 65) := by show _ = _; rw [bvs_len]; simp [hx, Z8]
  clear hdl hx hy
  generalize nodeH x y = D at *
  go_enter Try.func20, Try.ntmps20
  go_upto_region 2 with (first
    | ((with_reducible show wpList _ _ _ (⟨some 2, .box _ _, _, _, _, _⟩ :: _) _ _); refine wl_box rfl 29 _ rfl (bvs x) rfl ?_; intro w1 hA1 hb1 hs1)
    | ((with_reducible show wpList _ _ _ (⟨some 3, .box _ _, _, _, _, _⟩ :: _) _ _); refine wl_box rfl 29 _ rfl (bvs y) rfl ?_; intro w2 hA2 hb2 hs2)
    | ((with_reducible show wpList _ _ _ (⟨some 4, .alloc _, _, _, _, _⟩ :: _) _ _); refine wl_alloc rfl 29 rfl (bvs (Z8 32)) 32 infoD ?_; intro w3 hA3 hb3 hs3)
    | ((with_reducible show wpList _ _ _ (⟨some 6, .build _ _, _, _, _, _⟩ :: _) _ _); refine wpList_buildTo rfl 69 _ rfl (some 6) rfl (bvs (1 :: Z8 64)).toArray (by simpa [Act.eval] using built65) ?_)
    | ((with_reducible show wpList _ _ _ (⟨some 5, .alloc _, _, _, _, _⟩ :: _) _ _); refine wl_alloc rfl 69 rfl (bvs (Z8 65)) 65 infoN65 ?_; intro w4 hA4 hb4 hs4)
    | ((with_reducible show wpList _ _ _ (⟨none, .store _ _ _, _, _, _, _⟩ :: _) _ _); refine wl_store rfl 69 _ _ rfl w3.heap.size 0 rfl (bvs (1 :: Z8 64)) rfl 69 _ hA4 sizeN65 (by decide) (bvs_one _) ?_; intro w5 hA5 hg5 hs5))
  rw [whole_store _ _ (by decide)] at hA5
  have B3 : Below w.heap.size w w3 := hb1.trans ((hb2.mono (by omega)).trans (hb3.mono (by omega)))
  have B5 : Below w3.heap.size w3 w5 := hb4.grown hg5 (by omega) (by intro k e; injection e with e; omega)
  have X5 := ((hA1.kept hb2).kept hb3).kept B5
  have Y5 := (hA2.kept hb3).kept B5
  have R5 := hA3.kept B5
  have W5 : Below w.heap.size w w5 := B3.trans (B5.mono (by omega))
  obtain ⟨gx, hgx⟩ : ∃ g, w.heap.size = g := ⟨_, rfl⟩
  obtain ⟨gy, hgy⟩ : ∃ g, w1.heap.size = g := ⟨_, rfl⟩
  obtain ⟨gr, hgr⟩ : ∃ g, w2.heap.size = g := ⟨_, rfl⟩
  obtain ⟨gt, hgt⟩ : ∃ g, w3.heap.size = g := ⟨_, rfl⟩
  rw [hgx] at hs1 X5 W5 ⊢
  rw [hgy] at hs1 hs2 Y5 ⊢
  rw [hgr] at hs2 hs3 R5 ⊢
  rw [hgt] at hs3 hA5 ⊢
  have W5s := W5.size
  rw [hgx] at W5s
  have HGX := Lib.hid hgx
  clear hA1 hA2 hA3 hA4 hb1 hb2 hb3 hb4 hg5 hs4 hs5 B3 B5 hgx hgy hgr hgt
  refine wp_region_still_tail 2 (by kernel_rfl) (by kernel_rfl) ?_
  simp only [List.take_succ_cons, List.take_zero, List.drop_succ_cons, List.drop_zero]
  repeat still_step
  refine wpStill_nil ?_
  change wpList _ _ _ _ _ w5.drew
  replace X5 := X5.drew
  replace Y5 := Y5.drew
  replace R5 := R5.drew
  replace hA5 := hA5.drew
  replace W5 := W5.drew
  have W5s : gx ≤ w5.drew.heap.size := W5s
  generalize w5.drew = w6 at *
  refine wl_copyV rfl _ _ 56 56 rfl 5 Try.underlying56 (by kernel_rfl) gt 1 64 64 _ 32 32 rfl rfl 69 _ hA5 (bvs x) (by rw [ex.out]; rfl) (fun _ => ⟨_, rfl, fun j v h => by rw [Addr.add_lit, X5.cell]; simpa using h⟩) (by rw [ex.out]; decide) (bvs_one _) ?_
  intro w7 hA7 hg7 hs7
  rw [q1.out] at hA7
  replace Y5 := Y5.grown hg7 (by intro e; injection e with e; omega)
  replace R5 := R5.grown hg7 (by intro e; injection e with e; omega)
  replace W5 := W5.grown hg7 W5s (by intro k e; injection e with e; omega)
  replace W5s := Nat.le_trans W5s hs7
  clear hA5 X5 hg7 hs7
  rw [ex.out]
  go_upto_region 3 with fail
  refine wp_region_still_tail 2 (by kernel_rfl) (by kernel_rfl) ?_
  simp only [List.take_succ_cons, List.take_zero, List.drop_succ_cons, List.drop_zero]
  repeat still_step
  refine wpStill_nil ?_
  change wpList _ _ _ _ _ w7.drew
  replace Y5 := Y5.drew
  replace R5 := R5.drew
  replace hA7 := hA7.drew
  replace W5 := W5.drew
  have W5s : gx ≤ w7.drew.heap.size := W5s
  generalize w7.drew = w8 at *
  refine wl_copyV rfl _ _ 56 56 rfl 5 Try.underlying56 (by kernel_rfl) gt 33 32 32 _ 32 32 rfl rfl 69 _ hA7 (bvs y) (by rw [ey.out]; rfl) (fun _ => ⟨_, rfl, fun j v h => by rw [Addr.add_lit, Y5.cell]; simpa using h⟩) (by rw [ey.out, l65.out]; omega) (bvs_one _) ?_
  intro w9 hA9 hg9 hs9
  rw [q2.out] at hA9
  replace R5 := R5.grown hg9 (by intro e; injection e with e; omega)
  replace W5 := W5.grown hg9 W5s (by intro k e; injection e with e; omega)
  replace W5s := Nat.le_trans W5s hs9
  clear hA7 Y5 hg9 hs9
  rw [ey.out]
  go_wp2_with (first
    | (go_at_call 28; refine (hS.out _ _ hA9).mono ?_; rintro e w10 ⟨rfl, hb10⟩)
    | ((with_reducible show wpList _ _ _ (⟨none, .store _ _ _, _, _, _, _⟩ :: _) _ _); refine wl_store rfl 29 _ _ rfl gr 0 rfl (bvs D) rfl 29 _ (R5.kept hb10) h32.out (by rw [HDL.out]; exact (by decide : 0 + 32 ≤ (bvs (Z8 32)).length)) H1.out ?_; intro w11 hA11 hg11 hs11))
  rw [whole_store _ _ (by rw [HDL.out]; rfl)] at hA11
  refine end_cell rfl gr 29 (bvs D) (.array 32 5) rfl hA11 Try.underlying29 rfl h32.out rfl ⟨rfl, ?_⟩
  have z := hb10.size
  rw [HGX.out]
  exact (W5.trans (hb10.mono W5s)).grown hg11 (by omega) (by intro k e; injection e with e; omega)
end Go.Proofs.Ytlfncgpjgbpdjaa
