/-
  ConsistTells as a call. Conditions: those in each statement.
-/
import Derived.Test.YtcnnblhjgligbaaCnW
import Derived.Test.YtcnnblhjgligbaaCpP
namespace Go.Proofs.Ytcnnblhjgligbaa
open Go.RowKit

/-- the parts of what was told, where it lies -/
structure TldAt (w : World) (g : Nat) (x : ToldC) : Prop where
  cm : w.cell? ⟨g, 0, none⟩ = some (.int .u64 (x.m : Int))
  cn : w.cell? ⟨g, 1, none⟩ = some (.int .u64 (x.n : Int))
  rd : w.rangeAt g 2 (bvs x.d)
  rr : w.rangeAt g 34 (bvs x.r)
  cl : w.cell? ⟨g, 66, none⟩ = some (.slice x.a x.L.length x.c)
theorem encC_len {x : ToldC} (hd : x.d.length = 32) (hr : x.r.length = 32) : (encC x).length = 67 := by simp [encC, bvs_len, hd, hr]
theorem tld_at {w : World} {g : Nat} {x : ToldC} (h : Arr w g 43 (encC x)) (hd : x.d.length = 32) (hr : x.r.length = 32) : TldAt w g x := by
  have hb : (bvs x.d).length = 32 := by rw [bvs_len]; exact hd
  have hc : (bvs x.r).length = 32 := by rw [bvs_len]; exact hr
  have e : ∀ j, (encC x)[2 + j]? = (bvs x.d ++ (bvs x.r ++ [.slice x.a x.L.length x.c]))[j]? := fun j => by
    unfold encC
    rw [List.getElem?_append_right (by simp)]
    congr 1
    simp
  refine ⟨?_, ?_, fun j v hj => ?_, fun j v hj => ?_, ?_⟩
  · rw [h.cell]; rfl
  · rw [h.cell]; rfl
  · rw [h.cell, e, List.getElem?_append_left (List.getElem?_eq_some_iff.1 hj).1]
    exact hj
  · rw [h.cell, show 34 + j = 2 + (32 + j) by omega, e, List.getElem?_append_right (by omega), hb, Nat.add_sub_cancel_left, List.getElem?_append_left (List.getElem?_eq_some_iff.1 hj).1]
    exact hj
  · rw [h.cell, show 66 = 2 + (32 + (32 + 0)) by rfl, e, List.getElem?_append_right (by omega), hb, Nat.add_sub_cancel_left, List.getElem?_append_right (by omega), hc, Nat.add_sub_cancel_left]
    rfl
structure InvTellsC (d r X Y : List UInt8) (V : Bool) (E : Int) (m s n c c2 g1 g4 g5 g7 g8 : Nat) (a a2 : Option Addr) (W0 : World) (L : Nat → Bool) (v : Nat → Value) (wx : World) : Prop where
  t0 : L 0 = true → (v 39) = .bool true
  t1 : L 1 = true → (v 40) = .bool true
  t2 : L 2 = true → (v 41) = .int .i64 E
  t3 : L 3 = true → (v 42) = .int .i64 E
  t4 : L 4 = true → (v 43) = .bool true
  t5 : L 5 = true → (v 44) = .bool true
  t6 : L 6 = true → (v 45) = .bool true
  t7 : L 7 = true → (v 46) = .agg (bvs X).toArray
  t8 : L 8 = true → (v 47) = .agg (bvs X).toArray
  t9 : L 9 = true → (v 48) = .bool true
  t10 : L 10 = true → (v 49) = .bool true
  t11 : L 11 = true → (v 50) = .bool true
  t12 : L 12 = true → (v 51) = .agg (bvs Y).toArray
  t13 : L 13 = true → (v 52) = .agg (bvs Y).toArray
  t14 : L 14 = true → (v 53) = .bool true
  t15 : L 15 = true → (v 54) = .bool true
  t16 : L 16 = true → (v 55) = .bool true
  t17 : L 17 = true → (v 56) = .pointer (some ⟨g1, 0, none⟩)
  t18 : L 18 = true → (v 57) = .int .u64 (m : Int)
  t19 : L 19 = true → (v 58) = .pointer (some ⟨g1, 1, none⟩)
  t20 : L 20 = true → (v 59) = .int .u64 (s : Int)
  t21 : L 21 = true → (v 60) = .pointer (some ⟨g1, 2, none⟩)
  t22 : L 22 = true → (v 61) = .agg (bvs d).toArray
  t23 : L 23 = true → (v 62) = .pointer (some ⟨g1, 34, none⟩)
  t24 : L 24 = true → (v 63) = .agg (bvs r).toArray
  t25 : L 25 = true → (v 64) = .slice a2 n c2
  t26 : L 26 = true → (v 65) = .bool V
  t27 : L 27 = true → (v 66) = .pointer (some ⟨g1, 0, none⟩)
  t28 : L 28 = true → (v 67) = .int .u64 (m : Int)
  t29 : L 29 = true → (v 68) = .pointer (some ⟨g1, 1, none⟩)
  t30 : L 30 = true → (v 69) = .int .u64 (s : Int)
  t31 : L 31 = true → (v 70) = .pointer (some ⟨g1, 2, none⟩)
  t32 : L 32 = true → (v 71) = .agg (bvs d).toArray
  t33 : L 33 = true → (v 72) = .pointer (some ⟨g1, 34, none⟩)
  t34 : L 34 = true → (v 73) = .agg (bvs r).toArray
  t35 : L 35 = true → (v 74) = .pointer (some ⟨g1, 66, none⟩)
  t36 : L 36 = true → (v 75) = .slice a n c
  t37 : L 37 = true → (v 76) = .bool V
  t38 : L 38 = true → (v 77) = .bool true
  t39 : L 39 = true → (v 78) = .bool true
  t40 : L 40 = true → (v 79) = .bool true
  t41 : L 41 = true → (v 80) = .slice a2 n c2
  t42 : L 42 = true → (v 81) = .pointer (some ⟨g1, 66, none⟩)
  t43 : L 43 = true → (v 82) = .slice a n c
  t44 : L 44 = true → (v 83) = .bool true
  t45 : L 45 = true → (v 84) = .bool true
  t46 : L 46 = true → (v 2) = .bool true
  bw : Below W0.heap.size W0 wx
set_option maxRecDepth 100000 in
set_option maxHeartbeats 6400000 in
theorem LTells_any (x : ToldC) (w : World) (ht : x.d.length = 32 ∧ x.r.length = 32 ∧ RdD w x.a x.L.length x.c x.L ∧ x.L.length ≤ 2 ^ 42) :
    Calls Try.prog 5 #[.agg (encC x).toArray] w fun e w' => e = .returned (.bool true) ∧ Below w.heap.size w w' := by
  obtain ⟨hd, hrl, hL, hn⟩ := ht
  have HW := Lib.hid (fun w => awakeC_any w)
  have HTA := Lib.hid (fun (wx : World) (g : Nat) (h : Arr wx g 43 (encC x)) => tld_at h hd hrl)
  obtain ⟨m, s, d, r, a, c, L⟩ := x
  simp only at hd hrl hL hn
  obtain ⟨n, hnl⟩ : ∃ n, n = L.length := ⟨_, rfl⟩
  have hH := Lib.hid (fun wx a c (h : RdD wx a n c L) => HeadsC_any m s d a n c L wx hd h (by omega))
  have hRH := Lib.hid (fun wx a c (h : RdD wx a n c L) => rHeadsC_any m s d a n c L wx hd h (by omega))
  have hV := Lib.hid (fun wx a c (h : RdD wx a n c L) => VerifyC_any m s d r a n c L wx hd hrl h (by omega))
  have hRV := Lib.hid (fun wx a c (h : RdD wx a n c L) => rVerifyC_any m s d r a n c L wx hd hrl h (by omega))
  have HSL := Lib.hid (fun wx a a' uc vc (hu : RdD wx a n uc L) (hv : RdD wx a' n vc L) => rSame_any L L a a' n n uc vc wx hu hv (by omega) (by omega))
  rw [decide_eq_true rfl] at HSL
  obtain ⟨hXl, hYl⟩ := tdV_len hd m s hL.all
  obtain ⟨X, hX⟩ : ∃ X, X = (tdV m s d L).1 := ⟨_, rfl⟩
  obtain ⟨Y, hY⟩ : ∃ Y, Y = (tdV m s d L).2 := ⟨_, rfl⟩
  obtain ⟨E, hE⟩ : ∃ E, E = tdE m s n := ⟨_, rfl⟩
  obtain ⟨V, hVv⟩ : ∃ V, V = vrC m s d r L := ⟨_, rfl⟩
  rw [← hX] at hXl
  rw [← hY] at hYl
  rw [← hX, ← hY, ← hE] at hH hRH
  rw [← hVv] at hV hRV
  rw [← hnl] at hL hn
  have HLN : Hid (L.length = n) := hnl.symm
  have HEN : Hid (∀ g (wx : World), Arr wx g 43 (encC ⟨m, s, d, r, a, c, L⟩) → wx.cell? ⟨g, 0, none⟩ = some (.int .u64 (m : Int)) ∧ wx.cell? ⟨g, 1, none⟩ = some (.int .u64 (s : Int)) ∧ wx.cell? ⟨g, 66, none⟩ = some (.slice a n c) ∧ wx.rangeAt g 2 (bvs d) ∧ wx.rangeAt g 34 (bvs r)) := fun g wx h => by
    have h := HTA.out wx g h
    exact ⟨h.cm, h.cn, by rw [hnl]; exact h.cl, h.rd, h.rr⟩
  have HR : Hid (∀ wx, Below w.heap.size w wx → RdD wx a n c L) := fun wx hb => hL.to hb
  have h32d : Hid ((Try.prog.info? 41).map (·.size) = some (bvs d).length) := by show _ = _; rw [bvs_len, hd]; exact sizeD
  have h32r : Hid ((Try.prog.info? 41).map (·.size) = some (bvs r).length) := by show _ = _; rw [bvs_len, hrl]; exact sizeD
  have h32X : Hid ((Try.prog.info? 41).map (·.size) = some (bvs X).length) := by show _ = _; rw [bvs_len, hXl]; exact sizeD
  have hX32 : Hid ((bvs X).length = 32) := by show _ = _; rw [bvs_len]; exact hXl
  have h32Y : Hid ((Try.prog.info? 41).map (·.size) = some (bvs Y).length) := by show _ = _; rw [bvs_len, hYl]; exact sizeD
  have hY32 : Hid ((bvs Y).length = 32) := by show _ = _; rw [bvs_len]; exact hYl
  have HXL := Lib.hid hXl
  have HYL := Lib.hid hYl
  clear hX hY hE hVv HTA hnl hd hrl hXl hYl hL
  generalize encC ⟨m, s, d, r, a, c, L⟩ = TV at *
  go_enter Try.func5, Try.ntmps5
  go_upto_region 3 with (first
    | ((with_reducible show wpList _ _ _ (⟨some 1, .box _ _, _, _, _, _⟩ :: _) _ _); refine wl_box rfl 43 _ rfl TV rfl ?_; intro w1 hA1 hb1 hs1; obtain ⟨k11, k12, k13, k14, k15⟩ := HEN.out _ _ hA1)
    | ((with_reducible show wpList _ _ _ (⟨some 13, _, _, _, _, _⟩ :: _) _ _); refine wl_rowD rfl (.tmp 10) (.tmp 12) rfl w1.heap.size _ [] rfl (own_lit0 w1) a n c L rfl ((HR.out w1 hb1).to ((Below.refl _ _).alloc (Nat.le_refl _) _)) (by simp; omega) (by simp) ?_; intro v2 w2 ho2 hb2; rw [List.nil_append] at ho2; obtain ⟨a2, c2, rfl, hr2⟩ := ho2.rd; have hl2 := hr2.len; have b2 : Below w1.heap.size w1 w2 := ((Below.refl _ _).alloc (Nat.le_refl _) _).trans hb2; have A2 := hA1.kept b2; obtain ⟨k21, k22, k23, k24, k25⟩ := HEN.out _ _ A2; rw [HLN.out] at hr2 ⊢)
    | ((with_reducible show wpList _ _ _ (⟨some 20, .load _ _, _, _, _, _⟩ :: _) _ _); refine wpList_load_mid rfl 41 _ rfl w.heap.size 2 rfl (bvs d) (.array 32 5) k24 Try.underlying41 rfl h32d.out ?_)
    | (go_at_call 17; refine (hH.out _ _ _ hr2).mono ?_; rintro e w3 ⟨rfl, hb3⟩)
    | ((with_reducible show wpList _ _ _ (⟨some 4, .alloc _, _, _, _, _⟩ :: _) _ _); refine wl_alloc rfl 41 rfl (bvs (Z8 32)) 32 infoD ?_; intro w4 hA4 hb4 hs4)
    | ((with_reducible show wpList _ _ _ (⟨some 5, .alloc _, _, _, _, _⟩ :: _) _ _); refine wl_alloc rfl 41 rfl (bvs (Z8 32)) 32 infoD ?_; intro w5 hA5 hb5 hs5)
    | ((with_reducible show wpList _ _ _ (⟨none, .store _ (.tmp 4) _, _, _, _, _⟩ :: _) _ _); refine wl_store rfl 41 _ _ rfl w3.heap.size 0 rfl (bvs X) rfl 41 _ (hA4.kept hb5) h32X.out (by rw [hX32.out]; exact (by decide : 0 + 32 ≤ (bvs (Z8 32)).length)) (bvs_one _) ?_; intro w6 hA6 hg6 hs6; rw [whole_store _ _ (by rw [hX32.out]; rfl)] at hA6)
    | ((with_reducible show wpList _ _ _ (⟨none, .store _ (.tmp 5) _, _, _, _, _⟩ :: _) _ _); refine wl_store rfl 41 _ _ rfl w4.heap.size 0 rfl (bvs Y) rfl 41 _ (hA5.grown hg6 (by intro e; injection e with e; have := hA4.lt; omega)) h32Y.out (by rw [hY32.out]; exact (by decide : 0 + 32 ≤ (bvs (Z8 32)).length)) (bvs_one _) ?_; intro w7 hA7 hg7 hs7; rw [whole_store _ _ (by rw [hY32.out]; rfl)] at hA7))
  have z3 := hb3.size
  have z4 := hb4.size
  have z5 := hb5.size
  have b27 : Below w2.heap.size w2 w7 := (((hb3.trans (hb4.mono z3)).trans (hb5.mono (by omega))).grown hg6 (by omega) (by intro k e; injection e with e; omega)).grown hg7 (by omega) (by intro k e; injection e with e; omega)
  have b07 : Below w.heap.size w w7 := (hb1.trans (b2.mono hb1.size)).trans (b27.mono (by have := hb1.size; have := b2.size; omega))
  have A4 := hA6.grown hg7 (by intro e; injection e with e; have := hA4.lt; omega)
  have A1 := A2.kept b27
  have R2 := hr2.to b27
  have r07 := HR.out w7 b07
  obtain ⟨g1, hg1⟩ : ∃ g, g = w.heap.size := ⟨_, rfl⟩
  obtain ⟨g4, hg4⟩ : ∃ g, g = w3.heap.size := ⟨_, rfl⟩
  obtain ⟨g5, hg5'⟩ : ∃ g, g = w4.heap.size := ⟨_, rfl⟩
  go_simp
  rw [← hg1, ← hg4, ← hg5']
  rw [← hg1] at A1
  rw [← hg4] at A4
  rw [← hg5'] at hA7
  obtain ⟨k51, k52, k53, k54, k55⟩ := HEN.out _ _ A1
  have B07 := Lib.hid b07
  clear hA1 hb1 hs1 k11 k12 k13 k14 k15 ho2 hb2 hr2 b2 A2 k21 k22 k23 k24 k25 hb3 hA4 hb4 hs4 hA5 hb5 hs5 hA6 hg6 hs6 hg7 hs7 b27 b07 z3 z4 z5 hg1 hg4 hg5' hl2
  go_upto_region 4 with (first
    | ((with_reducible show wpList _ _ _ (⟨some 32, .load _ _, _, _, _, _⟩ :: _) _ _); refine wpList_load_mid rfl 41 _ rfl g1 2 rfl (bvs d) (.array 32 5) k54 Try.underlying41 rfl h32d.out ?_)
    | (go_at_call 18; refine (hRH.out _ _ _ r07).mono ?_; rintro e w8 ⟨rfl, hb8⟩)
    | ((with_reducible show wpList _ _ _ (⟨some 7, .alloc _, _, _, _, _⟩ :: _) _ _); refine wl_alloc rfl 41 rfl (bvs (Z8 32)) 32 infoD ?_; intro w9 hA9 hb9 hs9)
    | ((with_reducible show wpList _ _ _ (⟨some 8, .alloc _, _, _, _, _⟩ :: _) _ _); refine wl_alloc rfl 41 rfl (bvs (Z8 32)) 32 infoD ?_; intro w10 hA10 hb10 hs10)
    | ((with_reducible show wpList _ _ _ (⟨none, .store _ (.tmp 7) _, _, _, _, _⟩ :: _) _ _); refine wl_store rfl 41 _ _ rfl w8.heap.size 0 rfl (bvs X) rfl 41 _ (hA9.kept hb10) h32X.out (by rw [hX32.out]; exact (by decide : 0 + 32 ≤ (bvs (Z8 32)).length)) (bvs_one _) ?_; intro w11 hA11 hg11 hs11; rw [whole_store _ _ (by rw [hX32.out]; rfl)] at hA11)
    | ((with_reducible show wpList _ _ _ (⟨none, .store _ (.tmp 8) _, _, _, _, _⟩ :: _) _ _); refine wl_store rfl 41 _ _ rfl w9.heap.size 0 rfl (bvs Y) rfl 41 _ (hA10.grown hg11 (by intro e; injection e with e; have := hA9.lt; omega)) h32Y.out (by rw [hY32.out]; exact (by decide : 0 + 32 ≤ (bvs (Z8 32)).length)) (bvs_one _) ?_; intro w12 hA12 hg12 hs12; rw [whole_store _ _ (by rw [hY32.out]; rfl)] at hA12))
  have z8 := hb8.size
  have z9 := hb9.size
  have z10 := hb10.size
  have b712 : Below w7.heap.size w7 w12 := (((hb8.trans (hb9.mono z8)).trans (hb10.mono (by omega))).grown hg11 (by omega) (by intro k e; injection e with e; omega)).grown hg12 (by omega) (by intro k e; injection e with e; omega)
  have A7 := hA11.grown hg12 (by intro e; injection e with e; have := hA9.lt; omega)
  have b012 : Below w.heap.size w w12 := B07.out.trans (b712.mono B07.out.size)
  have A1' := A1.kept b712
  have A4' := A4.kept b712
  have A5' := hA7.kept b712
  have R2' := R2.to b712
  obtain ⟨g7, hg7⟩ : ∃ g, g = w8.heap.size := ⟨_, rfl⟩
  obtain ⟨g8, hg8⟩ : ∃ g, g = w9.heap.size := ⟨_, rfl⟩
  go_simp
  rw [← hg7, ← hg8]
  rw [← hg7] at A7
  rw [← hg8] at hA12
  have B012 := Lib.hid b012
  have HC : Hid (∀ wx, Below w12.heap.size w12 wx → wx.cell? ⟨g1, 0, none⟩ = some (.int .u64 (m : Int)) ∧ wx.cell? ⟨g1, 1, none⟩ = some (.int .u64 (s : Int)) ∧ wx.cell? ⟨g1, 66, none⟩ = some (.slice a n c) ∧ wx.rangeAt g1 2 (bvs d) ∧ wx.rangeAt g1 34 (bvs r)) := fun wx hb => HEN.out _ _ (A1'.kept hb)
  have HA4 : Hid (∀ wx, Below w12.heap.size w12 wx → Arr wx g4 41 (bvs X)) := fun wx hb => A4'.kept hb
  have HA5 : Hid (∀ wx, Below w12.heap.size w12 wx → Arr wx g5 41 (bvs Y)) := fun wx hb => A5'.kept hb
  have HA7 : Hid (∀ wx, Below w12.heap.size w12 wx → Arr wx g7 41 (bvs X)) := fun wx hb => A7.kept hb
  have HA8 : Hid (∀ wx, Below w12.heap.size w12 wx → Arr wx g8 41 (bvs Y)) := fun wx hb => hA12.kept hb
  have HO : Hid (∀ wx, Below w12.heap.size w12 wx → RdD wx a2 n c2 L) := fun wx hb => R2'.to hb
  have HP : Hid (∀ wx, Below w12.heap.size w12 wx → RdD wx a n c L) := fun wx hb => HR.out wx (b012.trans (hb.mono b012.size))
  clear hA7 hA9 hA10 hA11 hA12 hb8 hb9 hb10 hs9 hs10 hg11 hs11 hg12 hs12 b712 A7 b012 A1 A4 A1' A4' A5' R2 R2' r07 z8 z9 z10 hg7 hg8 k51 k52 k53 k54 k55
  refine wp_region_steps [[], [0], [1], [1], [2, 3, 1], [1, 4], [5], [6], [6], [7, 8, 6], [6, 9], [10], [11], [11], [12, 13, 11], [11, 14], [15], [16], [17, 16], [16], [19, 16], [16], [21, 16], [16], [23, 16], [16], [18, 20, 22, 24, 25, 16], [16], [27, 16], [16], [29, 16], [16], [31, 16], [16], [33, 16], [16], [35, 16], [28, 30, 32, 34, 36, 16], [26, 37, 16], [16, 38], [39], [40], [40], [42, 40], [41, 43, 40], [40, 44], [45]] (by kernel_rfl) (by kernel_rfl) (fun LF aF wx => ∃ v : Nat → Value, aF = ⟨#[.agg TV.toArray, .pointer (some ⟨g1, 0, none⟩), v 2, .slice a2 n c2, .pointer (some ⟨g4, 0, none⟩), .pointer (some ⟨g5, 0, none⟩), .int .i64 E, .pointer (some ⟨g7, 0, none⟩), .pointer (some ⟨g8, 0, none⟩), .int .i64 E, .slice (some ⟨w1.heap.size, 0, none⟩) 0 0, .pointer (some ⟨g1, 66, none⟩), .slice a n c, .slice a2 n c2, .tuple #[.agg (bvs X).toArray, .agg (bvs Y).toArray, .int .i64 E], .pointer (some ⟨g1, 0, none⟩), .int .u64 ↑m, .pointer (some ⟨g1, 1, none⟩), .int .u64 ↑s, .pointer (some ⟨g1, 2, none⟩), .agg (bvs d).toArray, .slice a2 n c2, .tuple #[.agg (bvs X).toArray, .agg (bvs Y).toArray, .int .i64 E], .agg (bvs X).toArray, .agg (bvs Y).toArray, .int .i64 E, .tuple #[.agg (bvs X).toArray, .agg (bvs Y).toArray, .int .i64 E], .pointer (some ⟨g1, 0, none⟩), .int .u64 ↑m, .pointer (some ⟨g1, 1, none⟩), .int .u64 ↑s, .pointer (some ⟨g1, 2, none⟩), .agg (bvs d).toArray, .pointer (some ⟨g1, 66, none⟩), .slice a n c, .tuple #[.agg (bvs X).toArray, .agg (bvs Y).toArray, .int .i64 E], .agg (bvs X).toArray, .agg (bvs Y).toArray, .int .i64 E, v 39, v 40, v 41, v 42, v 43, v 44, v 45, v 46, v 47, v 48, v 49, v 50, v 51, v 52, v 53, v 54, v 55, v 56, v 57, v 58, v 59, v 60, v 61, v 62, v 63, v 64, v 65, v 66, v 67, v 68, v 69, v 70, v 71, v 72, v 73, v 74, v 75, v 76, v 77, v 78, v 79, v 80, v 81, v 82, v 83, v 84], []⟩ ∧ InvTellsC d r X Y V E m s n c c2 g1 g4 g5 g7 g8 a a2 w12 LF v wx) ?_ ⟨?_, ?_, ?_, ?_, ?_, ?_, ?_, ?_, ?_, ?_, ?_, ?_, ?_, ?_, ?_, ?_, ?_, ?_, ?_, ?_, ?_, ?_, ?_, ?_, ?_, ?_, ?_, ?_, ?_, ?_, ?_, ?_, ?_, ?_, ?_, ?_, ?_, ?_, ?_, ?_, ?_, ?_, ?_, ?_, ?_, ?_, ?_, trivial⟩ ?_
  · refine ⟨upd (fun _ => undef) 2 (.bool false), rfl, ⟨?_, ?_, ?_, ?_, ?_, ?_, ?_, ?_, ?_, ?_, ?_, ?_, ?_, ?_, ?_, ?_, ?_, ?_, ?_, ?_, ?_, ?_, ?_, ?_, ?_, ?_, ?_, ?_, ?_, ?_, ?_, ?_, ?_, ?_, ?_, ?_, ?_, ?_, ?_, ?_, ?_, ?_, ?_, ?_, ?_, ?_, ?_, (Below.refl _ _).drew⟩⟩ <;> (intro h; exact absurd h (by decide))
  · rintro LF aF wx ⟨v, rfl, hI⟩ hL hdep hcl K hK
    have HCC := HW.out wx
    go_simp
    refine HCC.mono ?_
    rintro e w' ⟨rfl, hb⟩
    exact hK _ _ ⟨(upd v 39 (.bool true)), rfl, ⟨fun _ => rfl, hI.t1, hI.t2, hI.t3, hI.t4, hI.t5, hI.t6, hI.t7, hI.t8, hI.t9, hI.t10, hI.t11, hI.t12, hI.t13, hI.t14, hI.t15, hI.t16, hI.t17, hI.t18, hI.t19, hI.t20, hI.t21, hI.t22, hI.t23, hI.t24, hI.t25, hI.t26, hI.t27, hI.t28, hI.t29, hI.t30, hI.t31, hI.t32, hI.t33, hI.t34, hI.t35, hI.t36, hI.t37, hI.t38, hI.t39, hI.t40, hI.t41, hI.t42, hI.t43, hI.t44, hI.t45, hI.t46, (hI.bw).trans (hb.mono (hI.bw).size)⟩⟩
  · rintro LF aF wx ⟨v, rfl, hI⟩ hL hdep hcl K hK
    have e0 := hI.t0 (hdep 0 (by decide))
    rw [e0]
    go_simp
    exact hK _ _ ⟨(upd (upd v 39 (.bool true)) 40 (.bool true)), rfl, ⟨fun _ => rfl, fun _ => rfl, hI.t2, hI.t3, hI.t4, hI.t5, hI.t6, hI.t7, hI.t8, hI.t9, hI.t10, hI.t11, hI.t12, hI.t13, hI.t14, hI.t15, hI.t16, hI.t17, hI.t18, hI.t19, hI.t20, hI.t21, hI.t22, hI.t23, hI.t24, hI.t25, hI.t26, hI.t27, hI.t28, hI.t29, hI.t30, hI.t31, hI.t32, hI.t33, hI.t34, hI.t35, hI.t36, hI.t37, hI.t38, hI.t39, hI.t40, hI.t41, hI.t42, hI.t43, hI.t44, hI.t45, hI.t46, hI.bw⟩⟩
  · rintro LF aF wx ⟨v, rfl, hI⟩ hL hdep hcl K hK
    have e1 := hI.t1 (hdep 1 (by decide))
    rw [e1]
    refine (if_pos rfl).mpr ?_
    go_simp
    exact hK _ _ ⟨(upd (upd v 40 (.bool true)) 41 (.int .i64 E)), rfl, ⟨hI.t0, fun _ => rfl, fun _ => rfl, hI.t3, hI.t4, hI.t5, hI.t6, hI.t7, hI.t8, hI.t9, hI.t10, hI.t11, hI.t12, hI.t13, hI.t14, hI.t15, hI.t16, hI.t17, hI.t18, hI.t19, hI.t20, hI.t21, hI.t22, hI.t23, hI.t24, hI.t25, hI.t26, hI.t27, hI.t28, hI.t29, hI.t30, hI.t31, hI.t32, hI.t33, hI.t34, hI.t35, hI.t36, hI.t37, hI.t38, hI.t39, hI.t40, hI.t41, hI.t42, hI.t43, hI.t44, hI.t45, hI.t46, hI.bw⟩⟩
  · rintro LF aF wx ⟨v, rfl, hI⟩ hL hdep hcl K hK
    have e1 := hI.t1 (hdep 1 (by decide))
    rw [e1]
    refine (if_pos rfl).mpr ?_
    go_simp
    exact hK _ _ ⟨(upd (upd v 40 (.bool true)) 42 (.int .i64 E)), rfl, ⟨hI.t0, fun _ => rfl, hI.t2, fun _ => rfl, hI.t4, hI.t5, hI.t6, hI.t7, hI.t8, hI.t9, hI.t10, hI.t11, hI.t12, hI.t13, hI.t14, hI.t15, hI.t16, hI.t17, hI.t18, hI.t19, hI.t20, hI.t21, hI.t22, hI.t23, hI.t24, hI.t25, hI.t26, hI.t27, hI.t28, hI.t29, hI.t30, hI.t31, hI.t32, hI.t33, hI.t34, hI.t35, hI.t36, hI.t37, hI.t38, hI.t39, hI.t40, hI.t41, hI.t42, hI.t43, hI.t44, hI.t45, hI.t46, hI.bw⟩⟩
  · rintro LF aF wx ⟨v, rfl, hI⟩ hL hdep hcl K hK
    have e2 := hI.t2 (hdep 2 (by decide))
    have e3 := hI.t3 (hdep 3 (by decide))
    have e1 := hI.t1 (hdep 1 (by decide))
    rw [e2, e3, e1]
    refine (if_pos rfl).mpr ?_
    go_simp
    exact hK _ _ ⟨(upd (upd (upd (upd v 41 (.int .i64 E)) 42 (.int .i64 E)) 40 (.bool true)) 43 (.bool true)), rfl, ⟨hI.t0, fun _ => rfl, fun _ => rfl, fun _ => rfl, fun _ => rfl, hI.t5, hI.t6, hI.t7, hI.t8, hI.t9, hI.t10, hI.t11, hI.t12, hI.t13, hI.t14, hI.t15, hI.t16, hI.t17, hI.t18, hI.t19, hI.t20, hI.t21, hI.t22, hI.t23, hI.t24, hI.t25, hI.t26, hI.t27, hI.t28, hI.t29, hI.t30, hI.t31, hI.t32, hI.t33, hI.t34, hI.t35, hI.t36, hI.t37, hI.t38, hI.t39, hI.t40, hI.t41, hI.t42, hI.t43, hI.t44, hI.t45, hI.t46, hI.bw⟩⟩
  · rintro LF aF wx ⟨v, rfl, hI⟩ hL hdep hcl K hK
    have e1 := hI.t1 (hdep 1 (by decide))
    have e4 := hI.t4 (hdep 4 (by decide))
    rw [e1, e4]
    go_simp
    exact hK _ _ ⟨(upd (upd (upd v 40 (.bool true)) 43 (.bool true)) 44 (.bool true)), rfl, ⟨hI.t0, fun _ => rfl, hI.t2, hI.t3, fun _ => rfl, fun _ => rfl, hI.t6, hI.t7, hI.t8, hI.t9, hI.t10, hI.t11, hI.t12, hI.t13, hI.t14, hI.t15, hI.t16, hI.t17, hI.t18, hI.t19, hI.t20, hI.t21, hI.t22, hI.t23, hI.t24, hI.t25, hI.t26, hI.t27, hI.t28, hI.t29, hI.t30, hI.t31, hI.t32, hI.t33, hI.t34, hI.t35, hI.t36, hI.t37, hI.t38, hI.t39, hI.t40, hI.t41, hI.t42, hI.t43, hI.t44, hI.t45, hI.t46, hI.bw⟩⟩
  · rintro LF aF wx ⟨v, rfl, hI⟩ hL hdep hcl K hK
    have e5 := hI.t5 (hdep 5 (by decide))
    rw [e5]
    go_simp
    exact hK _ _ ⟨(upd (upd v 44 (.bool true)) 45 (.bool true)), rfl, ⟨hI.t0, hI.t1, hI.t2, hI.t3, hI.t4, fun _ => rfl, fun _ => rfl, hI.t7, hI.t8, hI.t9, hI.t10, hI.t11, hI.t12, hI.t13, hI.t14, hI.t15, hI.t16, hI.t17, hI.t18, hI.t19, hI.t20, hI.t21, hI.t22, hI.t23, hI.t24, hI.t25, hI.t26, hI.t27, hI.t28, hI.t29, hI.t30, hI.t31, hI.t32, hI.t33, hI.t34, hI.t35, hI.t36, hI.t37, hI.t38, hI.t39, hI.t40, hI.t41, hI.t42, hI.t43, hI.t44, hI.t45, hI.t46, hI.bw⟩⟩
  · rintro LF aF wx ⟨v, rfl, hI⟩ hL hdep hcl K hK
    have e6 := hI.t6 (hdep 6 (by decide))
    rw [e6]
    refine (if_pos rfl).mpr ?_
    refine ow_load 41 _ rfl g4 0 rfl 41 (bvs X) (bvs X) (HA4.out wx hI.bw) (fun j v h => by rw [Nat.zero_add]; exact h) (.array 32 5) Try.underlying41 rfl h32X.out ?_
    exact hK _ _ ⟨(upd (upd v 45 (.bool true)) 46 (.agg (bvs X).toArray)), rfl, ⟨hI.t0, hI.t1, hI.t2, hI.t3, hI.t4, hI.t5, fun _ => rfl, fun _ => rfl, hI.t8, hI.t9, hI.t10, hI.t11, hI.t12, hI.t13, hI.t14, hI.t15, hI.t16, hI.t17, hI.t18, hI.t19, hI.t20, hI.t21, hI.t22, hI.t23, hI.t24, hI.t25, hI.t26, hI.t27, hI.t28, hI.t29, hI.t30, hI.t31, hI.t32, hI.t33, hI.t34, hI.t35, hI.t36, hI.t37, hI.t38, hI.t39, hI.t40, hI.t41, hI.t42, hI.t43, hI.t44, hI.t45, hI.t46, hI.bw⟩⟩
  · rintro LF aF wx ⟨v, rfl, hI⟩ hL hdep hcl K hK
    have e6 := hI.t6 (hdep 6 (by decide))
    rw [e6]
    refine (if_pos rfl).mpr ?_
    refine ow_load 41 _ rfl g7 0 rfl 41 (bvs X) (bvs X) (HA7.out wx hI.bw) (fun j v h => by rw [Nat.zero_add]; exact h) (.array 32 5) Try.underlying41 rfl h32X.out ?_
    exact hK _ _ ⟨(upd (upd v 45 (.bool true)) 47 (.agg (bvs X).toArray)), rfl, ⟨hI.t0, hI.t1, hI.t2, hI.t3, hI.t4, hI.t5, fun _ => rfl, hI.t7, fun _ => rfl, hI.t9, hI.t10, hI.t11, hI.t12, hI.t13, hI.t14, hI.t15, hI.t16, hI.t17, hI.t18, hI.t19, hI.t20, hI.t21, hI.t22, hI.t23, hI.t24, hI.t25, hI.t26, hI.t27, hI.t28, hI.t29, hI.t30, hI.t31, hI.t32, hI.t33, hI.t34, hI.t35, hI.t36, hI.t37, hI.t38, hI.t39, hI.t40, hI.t41, hI.t42, hI.t43, hI.t44, hI.t45, hI.t46, hI.bw⟩⟩
  · rintro LF aF wx ⟨v, rfl, hI⟩ hL hdep hcl K hK
    have e7 := hI.t7 (hdep 7 (by decide))
    have e8 := hI.t8 (hdep 8 (by decide))
    have e6 := hI.t6 (hdep 6 (by decide))
    rw [e7, e8, e6]
    refine (if_pos rfl).mpr ?_
    refine ow_eqD _ _ _ rfl X X HXL.out HXL.out rfl rfl ?_
    rw [decide_eq_true rfl]
    exact hK _ _ ⟨(upd (upd (upd (upd v 46 (.agg (bvs X).toArray)) 47 (.agg (bvs X).toArray)) 45 (.bool true)) 48 (.bool true)), rfl, ⟨hI.t0, hI.t1, hI.t2, hI.t3, hI.t4, hI.t5, fun _ => rfl, fun _ => rfl, fun _ => rfl, fun _ => rfl, hI.t10, hI.t11, hI.t12, hI.t13, hI.t14, hI.t15, hI.t16, hI.t17, hI.t18, hI.t19, hI.t20, hI.t21, hI.t22, hI.t23, hI.t24, hI.t25, hI.t26, hI.t27, hI.t28, hI.t29, hI.t30, hI.t31, hI.t32, hI.t33, hI.t34, hI.t35, hI.t36, hI.t37, hI.t38, hI.t39, hI.t40, hI.t41, hI.t42, hI.t43, hI.t44, hI.t45, hI.t46, hI.bw⟩⟩
  · rintro LF aF wx ⟨v, rfl, hI⟩ hL hdep hcl K hK
    have e6 := hI.t6 (hdep 6 (by decide))
    have e9 := hI.t9 (hdep 9 (by decide))
    rw [e6, e9]
    go_simp
    exact hK _ _ ⟨(upd (upd (upd v 45 (.bool true)) 48 (.bool true)) 49 (.bool true)), rfl, ⟨hI.t0, hI.t1, hI.t2, hI.t3, hI.t4, hI.t5, fun _ => rfl, hI.t7, hI.t8, fun _ => rfl, fun _ => rfl, hI.t11, hI.t12, hI.t13, hI.t14, hI.t15, hI.t16, hI.t17, hI.t18, hI.t19, hI.t20, hI.t21, hI.t22, hI.t23, hI.t24, hI.t25, hI.t26, hI.t27, hI.t28, hI.t29, hI.t30, hI.t31, hI.t32, hI.t33, hI.t34, hI.t35, hI.t36, hI.t37, hI.t38, hI.t39, hI.t40, hI.t41, hI.t42, hI.t43, hI.t44, hI.t45, hI.t46, hI.bw⟩⟩
  · rintro LF aF wx ⟨v, rfl, hI⟩ hL hdep hcl K hK
    have e10 := hI.t10 (hdep 10 (by decide))
    rw [e10]
    go_simp
    exact hK _ _ ⟨(upd (upd v 49 (.bool true)) 50 (.bool true)), rfl, ⟨hI.t0, hI.t1, hI.t2, hI.t3, hI.t4, hI.t5, hI.t6, hI.t7, hI.t8, hI.t9, fun _ => rfl, fun _ => rfl, hI.t12, hI.t13, hI.t14, hI.t15, hI.t16, hI.t17, hI.t18, hI.t19, hI.t20, hI.t21, hI.t22, hI.t23, hI.t24, hI.t25, hI.t26, hI.t27, hI.t28, hI.t29, hI.t30, hI.t31, hI.t32, hI.t33, hI.t34, hI.t35, hI.t36, hI.t37, hI.t38, hI.t39, hI.t40, hI.t41, hI.t42, hI.t43, hI.t44, hI.t45, hI.t46, hI.bw⟩⟩
  · rintro LF aF wx ⟨v, rfl, hI⟩ hL hdep hcl K hK
    have e11 := hI.t11 (hdep 11 (by decide))
    rw [e11]
    refine (if_pos rfl).mpr ?_
    refine ow_load 41 _ rfl g5 0 rfl 41 (bvs Y) (bvs Y) (HA5.out wx hI.bw) (fun j v h => by rw [Nat.zero_add]; exact h) (.array 32 5) Try.underlying41 rfl h32Y.out ?_
    exact hK _ _ ⟨(upd (upd v 50 (.bool true)) 51 (.agg (bvs Y).toArray)), rfl, ⟨hI.t0, hI.t1, hI.t2, hI.t3, hI.t4, hI.t5, hI.t6, hI.t7, hI.t8, hI.t9, hI.t10, fun _ => rfl, fun _ => rfl, hI.t13, hI.t14, hI.t15, hI.t16, hI.t17, hI.t18, hI.t19, hI.t20, hI.t21, hI.t22, hI.t23, hI.t24, hI.t25, hI.t26, hI.t27, hI.t28, hI.t29, hI.t30, hI.t31, hI.t32, hI.t33, hI.t34, hI.t35, hI.t36, hI.t37, hI.t38, hI.t39, hI.t40, hI.t41, hI.t42, hI.t43, hI.t44, hI.t45, hI.t46, hI.bw⟩⟩
  · rintro LF aF wx ⟨v, rfl, hI⟩ hL hdep hcl K hK
    have e11 := hI.t11 (hdep 11 (by decide))
    rw [e11]
    refine (if_pos rfl).mpr ?_
    refine ow_load 41 _ rfl g8 0 rfl 41 (bvs Y) (bvs Y) (HA8.out wx hI.bw) (fun j v h => by rw [Nat.zero_add]; exact h) (.array 32 5) Try.underlying41 rfl h32Y.out ?_
    exact hK _ _ ⟨(upd (upd v 50 (.bool true)) 52 (.agg (bvs Y).toArray)), rfl, ⟨hI.t0, hI.t1, hI.t2, hI.t3, hI.t4, hI.t5, hI.t6, hI.t7, hI.t8, hI.t9, hI.t10, fun _ => rfl, hI.t12, fun _ => rfl, hI.t14, hI.t15, hI.t16, hI.t17, hI.t18, hI.t19, hI.t20, hI.t21, hI.t22, hI.t23, hI.t24, hI.t25, hI.t26, hI.t27, hI.t28, hI.t29, hI.t30, hI.t31, hI.t32, hI.t33, hI.t34, hI.t35, hI.t36, hI.t37, hI.t38, hI.t39, hI.t40, hI.t41, hI.t42, hI.t43, hI.t44, hI.t45, hI.t46, hI.bw⟩⟩
  · rintro LF aF wx ⟨v, rfl, hI⟩ hL hdep hcl K hK
    have e12 := hI.t12 (hdep 12 (by decide))
    have e13 := hI.t13 (hdep 13 (by decide))
    have e11 := hI.t11 (hdep 11 (by decide))
    rw [e12, e13, e11]
    refine (if_pos rfl).mpr ?_
    refine ow_eqD _ _ _ rfl Y Y HYL.out HYL.out rfl rfl ?_
    rw [decide_eq_true rfl]
    exact hK _ _ ⟨(upd (upd (upd (upd v 51 (.agg (bvs Y).toArray)) 52 (.agg (bvs Y).toArray)) 50 (.bool true)) 53 (.bool true)), rfl, ⟨hI.t0, hI.t1, hI.t2, hI.t3, hI.t4, hI.t5, hI.t6, hI.t7, hI.t8, hI.t9, hI.t10, fun _ => rfl, fun _ => rfl, fun _ => rfl, fun _ => rfl, hI.t15, hI.t16, hI.t17, hI.t18, hI.t19, hI.t20, hI.t21, hI.t22, hI.t23, hI.t24, hI.t25, hI.t26, hI.t27, hI.t28, hI.t29, hI.t30, hI.t31, hI.t32, hI.t33, hI.t34, hI.t35, hI.t36, hI.t37, hI.t38, hI.t39, hI.t40, hI.t41, hI.t42, hI.t43, hI.t44, hI.t45, hI.t46, hI.bw⟩⟩
  · rintro LF aF wx ⟨v, rfl, hI⟩ hL hdep hcl K hK
    have e11 := hI.t11 (hdep 11 (by decide))
    have e14 := hI.t14 (hdep 14 (by decide))
    rw [e11, e14]
    go_simp
    exact hK _ _ ⟨(upd (upd (upd v 50 (.bool true)) 53 (.bool true)) 54 (.bool true)), rfl, ⟨hI.t0, hI.t1, hI.t2, hI.t3, hI.t4, hI.t5, hI.t6, hI.t7, hI.t8, hI.t9, hI.t10, fun _ => rfl, hI.t12, hI.t13, fun _ => rfl, fun _ => rfl, hI.t16, hI.t17, hI.t18, hI.t19, hI.t20, hI.t21, hI.t22, hI.t23, hI.t24, hI.t25, hI.t26, hI.t27, hI.t28, hI.t29, hI.t30, hI.t31, hI.t32, hI.t33, hI.t34, hI.t35, hI.t36, hI.t37, hI.t38, hI.t39, hI.t40, hI.t41, hI.t42, hI.t43, hI.t44, hI.t45, hI.t46, hI.bw⟩⟩
  · rintro LF aF wx ⟨v, rfl, hI⟩ hL hdep hcl K hK
    have e15 := hI.t15 (hdep 15 (by decide))
    rw [e15]
    go_simp
    exact hK _ _ ⟨(upd (upd v 54 (.bool true)) 55 (.bool true)), rfl, ⟨hI.t0, hI.t1, hI.t2, hI.t3, hI.t4, hI.t5, hI.t6, hI.t7, hI.t8, hI.t9, hI.t10, hI.t11, hI.t12, hI.t13, hI.t14, fun _ => rfl, fun _ => rfl, hI.t17, hI.t18, hI.t19, hI.t20, hI.t21, hI.t22, hI.t23, hI.t24, hI.t25, hI.t26, hI.t27, hI.t28, hI.t29, hI.t30, hI.t31, hI.t32, hI.t33, hI.t34, hI.t35, hI.t36, hI.t37, hI.t38, hI.t39, hI.t40, hI.t41, hI.t42, hI.t43, hI.t44, hI.t45, hI.t46, hI.bw⟩⟩
  · rintro LF aF wx ⟨v, rfl, hI⟩ hL hdep hcl K hK
    have e16 := hI.t16 (hdep 16 (by decide))
    rw [e16]
    refine (if_pos rfl).mpr ?_
    go_simp
    exact hK _ _ ⟨(upd (upd v 55 (.bool true)) 56 (.pointer (some ⟨g1, 0, none⟩))), rfl, ⟨hI.t0, hI.t1, hI.t2, hI.t3, hI.t4, hI.t5, hI.t6, hI.t7, hI.t8, hI.t9, hI.t10, hI.t11, hI.t12, hI.t13, hI.t14, hI.t15, fun _ => rfl, fun _ => rfl, hI.t18, hI.t19, hI.t20, hI.t21, hI.t22, hI.t23, hI.t24, hI.t25, hI.t26, hI.t27, hI.t28, hI.t29, hI.t30, hI.t31, hI.t32, hI.t33, hI.t34, hI.t35, hI.t36, hI.t37, hI.t38, hI.t39, hI.t40, hI.t41, hI.t42, hI.t43, hI.t44, hI.t45, hI.t46, hI.bw⟩⟩
  · rintro LF aF wx ⟨v, rfl, hI⟩ hL hdep hcl K hK
    have e17 := hI.t17 (hdep 17 (by decide))
    have e16 := hI.t16 (hdep 16 (by decide))
    rw [e17, e16]
    refine (if_pos rfl).mpr ?_
    obtain ⟨k1, k2, k3, -, -⟩ := HC.out wx hI.bw
    go_simp
    exact hK _ _ ⟨(upd (upd (upd v 56 (.pointer (some ⟨g1, 0, none⟩))) 55 (.bool true)) 57 (.int .u64 (m : Int))), rfl, ⟨hI.t0, hI.t1, hI.t2, hI.t3, hI.t4, hI.t5, hI.t6, hI.t7, hI.t8, hI.t9, hI.t10, hI.t11, hI.t12, hI.t13, hI.t14, hI.t15, fun _ => rfl, fun _ => rfl, fun _ => rfl, hI.t19, hI.t20, hI.t21, hI.t22, hI.t23, hI.t24, hI.t25, hI.t26, hI.t27, hI.t28, hI.t29, hI.t30, hI.t31, hI.t32, hI.t33, hI.t34, hI.t35, hI.t36, hI.t37, hI.t38, hI.t39, hI.t40, hI.t41, hI.t42, hI.t43, hI.t44, hI.t45, hI.t46, hI.bw⟩⟩
  · rintro LF aF wx ⟨v, rfl, hI⟩ hL hdep hcl K hK
    have e16 := hI.t16 (hdep 16 (by decide))
    rw [e16]
    refine (if_pos rfl).mpr ?_
    go_simp
    exact hK _ _ ⟨(upd (upd v 55 (.bool true)) 58 (.pointer (some ⟨g1, 1, none⟩))), rfl, ⟨hI.t0, hI.t1, hI.t2, hI.t3, hI.t4, hI.t5, hI.t6, hI.t7, hI.t8, hI.t9, hI.t10, hI.t11, hI.t12, hI.t13, hI.t14, hI.t15, fun _ => rfl, hI.t17, hI.t18, fun _ => rfl, hI.t20, hI.t21, hI.t22, hI.t23, hI.t24, hI.t25, hI.t26, hI.t27, hI.t28, hI.t29, hI.t30, hI.t31, hI.t32, hI.t33, hI.t34, hI.t35, hI.t36, hI.t37, hI.t38, hI.t39, hI.t40, hI.t41, hI.t42, hI.t43, hI.t44, hI.t45, hI.t46, hI.bw⟩⟩
  · rintro LF aF wx ⟨v, rfl, hI⟩ hL hdep hcl K hK
    have e19 := hI.t19 (hdep 19 (by decide))
    have e16 := hI.t16 (hdep 16 (by decide))
    rw [e19, e16]
    refine (if_pos rfl).mpr ?_
    obtain ⟨k1, k2, k3, -, -⟩ := HC.out wx hI.bw
    go_simp
    exact hK _ _ ⟨(upd (upd (upd v 58 (.pointer (some ⟨g1, 1, none⟩))) 55 (.bool true)) 59 (.int .u64 (s : Int))), rfl, ⟨hI.t0, hI.t1, hI.t2, hI.t3, hI.t4, hI.t5, hI.t6, hI.t7, hI.t8, hI.t9, hI.t10, hI.t11, hI.t12, hI.t13, hI.t14, hI.t15, fun _ => rfl, hI.t17, hI.t18, fun _ => rfl, fun _ => rfl, hI.t21, hI.t22, hI.t23, hI.t24, hI.t25, hI.t26, hI.t27, hI.t28, hI.t29, hI.t30, hI.t31, hI.t32, hI.t33, hI.t34, hI.t35, hI.t36, hI.t37, hI.t38, hI.t39, hI.t40, hI.t41, hI.t42, hI.t43, hI.t44, hI.t45, hI.t46, hI.bw⟩⟩
  · rintro LF aF wx ⟨v, rfl, hI⟩ hL hdep hcl K hK
    have e16 := hI.t16 (hdep 16 (by decide))
    rw [e16]
    refine (if_pos rfl).mpr ?_
    go_simp
    exact hK _ _ ⟨(upd (upd v 55 (.bool true)) 60 (.pointer (some ⟨g1, 2, none⟩))), rfl, ⟨hI.t0, hI.t1, hI.t2, hI.t3, hI.t4, hI.t5, hI.t6, hI.t7, hI.t8, hI.t9, hI.t10, hI.t11, hI.t12, hI.t13, hI.t14, hI.t15, fun _ => rfl, hI.t17, hI.t18, hI.t19, hI.t20, fun _ => rfl, hI.t22, hI.t23, hI.t24, hI.t25, hI.t26, hI.t27, hI.t28, hI.t29, hI.t30, hI.t31, hI.t32, hI.t33, hI.t34, hI.t35, hI.t36, hI.t37, hI.t38, hI.t39, hI.t40, hI.t41, hI.t42, hI.t43, hI.t44, hI.t45, hI.t46, hI.bw⟩⟩
  · rintro LF aF wx ⟨v, rfl, hI⟩ hL hdep hcl K hK
    have e21 := hI.t21 (hdep 21 (by decide))
    have e16 := hI.t16 (hdep 16 (by decide))
    rw [e21, e16]
    refine (if_pos rfl).mpr ?_
    refine wp_load_mid 41 _ rfl g1 2 rfl (bvs d) (.array 32 5) (HC.out wx hI.bw).2.2.2.1 Try.underlying41 rfl h32d.out ?_
    exact hK _ _ ⟨(upd (upd (upd v 60 (.pointer (some ⟨g1, 2, none⟩))) 55 (.bool true)) 61 (.agg (bvs d).toArray)), rfl, ⟨hI.t0, hI.t1, hI.t2, hI.t3, hI.t4, hI.t5, hI.t6, hI.t7, hI.t8, hI.t9, hI.t10, hI.t11, hI.t12, hI.t13, hI.t14, hI.t15, fun _ => rfl, hI.t17, hI.t18, hI.t19, hI.t20, fun _ => rfl, fun _ => rfl, hI.t23, hI.t24, hI.t25, hI.t26, hI.t27, hI.t28, hI.t29, hI.t30, hI.t31, hI.t32, hI.t33, hI.t34, hI.t35, hI.t36, hI.t37, hI.t38, hI.t39, hI.t40, hI.t41, hI.t42, hI.t43, hI.t44, hI.t45, hI.t46, hI.bw⟩⟩
  · rintro LF aF wx ⟨v, rfl, hI⟩ hL hdep hcl K hK
    have e16 := hI.t16 (hdep 16 (by decide))
    rw [e16]
    refine (if_pos rfl).mpr ?_
    go_simp
    exact hK _ _ ⟨(upd (upd v 55 (.bool true)) 62 (.pointer (some ⟨g1, 34, none⟩))), rfl, ⟨hI.t0, hI.t1, hI.t2, hI.t3, hI.t4, hI.t5, hI.t6, hI.t7, hI.t8, hI.t9, hI.t10, hI.t11, hI.t12, hI.t13, hI.t14, hI.t15, fun _ => rfl, hI.t17, hI.t18, hI.t19, hI.t20, hI.t21, hI.t22, fun _ => rfl, hI.t24, hI.t25, hI.t26, hI.t27, hI.t28, hI.t29, hI.t30, hI.t31, hI.t32, hI.t33, hI.t34, hI.t35, hI.t36, hI.t37, hI.t38, hI.t39, hI.t40, hI.t41, hI.t42, hI.t43, hI.t44, hI.t45, hI.t46, hI.bw⟩⟩
  · rintro LF aF wx ⟨v, rfl, hI⟩ hL hdep hcl K hK
    have e23 := hI.t23 (hdep 23 (by decide))
    have e16 := hI.t16 (hdep 16 (by decide))
    rw [e23, e16]
    refine (if_pos rfl).mpr ?_
    refine wp_load_mid 41 _ rfl g1 34 rfl (bvs r) (.array 32 5) (HC.out wx hI.bw).2.2.2.2 Try.underlying41 rfl h32r.out ?_
    exact hK _ _ ⟨(upd (upd (upd v 62 (.pointer (some ⟨g1, 34, none⟩))) 55 (.bool true)) 63 (.agg (bvs r).toArray)), rfl, ⟨hI.t0, hI.t1, hI.t2, hI.t3, hI.t4, hI.t5, hI.t6, hI.t7, hI.t8, hI.t9, hI.t10, hI.t11, hI.t12, hI.t13, hI.t14, hI.t15, fun _ => rfl, hI.t17, hI.t18, hI.t19, hI.t20, hI.t21, hI.t22, fun _ => rfl, fun _ => rfl, hI.t25, hI.t26, hI.t27, hI.t28, hI.t29, hI.t30, hI.t31, hI.t32, hI.t33, hI.t34, hI.t35, hI.t36, hI.t37, hI.t38, hI.t39, hI.t40, hI.t41, hI.t42, hI.t43, hI.t44, hI.t45, hI.t46, hI.bw⟩⟩
  · rintro LF aF wx ⟨v, rfl, hI⟩ hL hdep hcl K hK
    have e16 := hI.t16 (hdep 16 (by decide))
    rw [e16]
    refine (if_pos rfl).mpr ?_
    go_simp
    exact hK _ _ ⟨(upd (upd v 55 (.bool true)) 64 (.slice a2 n c2)), rfl, ⟨hI.t0, hI.t1, hI.t2, hI.t3, hI.t4, hI.t5, hI.t6, hI.t7, hI.t8, hI.t9, hI.t10, hI.t11, hI.t12, hI.t13, hI.t14, hI.t15, fun _ => rfl, hI.t17, hI.t18, hI.t19, hI.t20, hI.t21, hI.t22, hI.t23, hI.t24, fun _ => rfl, hI.t26, hI.t27, hI.t28, hI.t29, hI.t30, hI.t31, hI.t32, hI.t33, hI.t34, hI.t35, hI.t36, hI.t37, hI.t38, hI.t39, hI.t40, hI.t41, hI.t42, hI.t43, hI.t44, hI.t45, hI.t46, hI.bw⟩⟩
  · rintro LF aF wx ⟨v, rfl, hI⟩ hL hdep hcl K hK
    have e18 := hI.t18 (hdep 18 (by decide))
    have e20 := hI.t20 (hdep 20 (by decide))
    have e22 := hI.t22 (hdep 22 (by decide))
    have e24 := hI.t24 (hdep 24 (by decide))
    have e25 := hI.t25 (hdep 25 (by decide))
    have e16 := hI.t16 (hdep 16 (by decide))
    rw [e18, e20, e22, e24, e25, e16]
    refine (if_pos rfl).mpr ?_
    have HCC := hV.out wx _ _ (HO.out wx hI.bw)
    go_simp
    refine HCC.mono ?_
    rintro e w' ⟨rfl, hb⟩
    exact hK _ _ ⟨(upd (upd (upd (upd (upd (upd (upd v 57 (.int .u64 (m : Int))) 59 (.int .u64 (s : Int))) 61 (.agg (bvs d).toArray)) 63 (.agg (bvs r).toArray)) 64 (.slice a2 n c2)) 55 (.bool true)) 65 (.bool V)), rfl, ⟨hI.t0, hI.t1, hI.t2, hI.t3, hI.t4, hI.t5, hI.t6, hI.t7, hI.t8, hI.t9, hI.t10, hI.t11, hI.t12, hI.t13, hI.t14, hI.t15, fun _ => rfl, hI.t17, fun _ => rfl, hI.t19, fun _ => rfl, hI.t21, fun _ => rfl, hI.t23, fun _ => rfl, fun _ => rfl, fun _ => rfl, hI.t27, hI.t28, hI.t29, hI.t30, hI.t31, hI.t32, hI.t33, hI.t34, hI.t35, hI.t36, hI.t37, hI.t38, hI.t39, hI.t40, hI.t41, hI.t42, hI.t43, hI.t44, hI.t45, hI.t46, (hI.bw).trans (hb.mono (hI.bw).size)⟩⟩
  · rintro LF aF wx ⟨v, rfl, hI⟩ hL hdep hcl K hK
    have e16 := hI.t16 (hdep 16 (by decide))
    rw [e16]
    refine (if_pos rfl).mpr ?_
    go_simp
    exact hK _ _ ⟨(upd (upd v 55 (.bool true)) 66 (.pointer (some ⟨g1, 0, none⟩))), rfl, ⟨hI.t0, hI.t1, hI.t2, hI.t3, hI.t4, hI.t5, hI.t6, hI.t7, hI.t8, hI.t9, hI.t10, hI.t11, hI.t12, hI.t13, hI.t14, hI.t15, fun _ => rfl, hI.t17, hI.t18, hI.t19, hI.t20, hI.t21, hI.t22, hI.t23, hI.t24, hI.t25, hI.t26, fun _ => rfl, hI.t28, hI.t29, hI.t30, hI.t31, hI.t32, hI.t33, hI.t34, hI.t35, hI.t36, hI.t37, hI.t38, hI.t39, hI.t40, hI.t41, hI.t42, hI.t43, hI.t44, hI.t45, hI.t46, hI.bw⟩⟩
  · rintro LF aF wx ⟨v, rfl, hI⟩ hL hdep hcl K hK
    have e27 := hI.t27 (hdep 27 (by decide))
    have e16 := hI.t16 (hdep 16 (by decide))
    rw [e27, e16]
    refine (if_pos rfl).mpr ?_
    obtain ⟨k1, k2, k3, -, -⟩ := HC.out wx hI.bw
    go_simp
    exact hK _ _ ⟨(upd (upd (upd v 66 (.pointer (some ⟨g1, 0, none⟩))) 55 (.bool true)) 67 (.int .u64 (m : Int))), rfl, ⟨hI.t0, hI.t1, hI.t2, hI.t3, hI.t4, hI.t5, hI.t6, hI.t7, hI.t8, hI.t9, hI.t10, hI.t11, hI.t12, hI.t13, hI.t14, hI.t15, fun _ => rfl, hI.t17, hI.t18, hI.t19, hI.t20, hI.t21, hI.t22, hI.t23, hI.t24, hI.t25, hI.t26, fun _ => rfl, fun _ => rfl, hI.t29, hI.t30, hI.t31, hI.t32, hI.t33, hI.t34, hI.t35, hI.t36, hI.t37, hI.t38, hI.t39, hI.t40, hI.t41, hI.t42, hI.t43, hI.t44, hI.t45, hI.t46, hI.bw⟩⟩
  · rintro LF aF wx ⟨v, rfl, hI⟩ hL hdep hcl K hK
    have e16 := hI.t16 (hdep 16 (by decide))
    rw [e16]
    refine (if_pos rfl).mpr ?_
    go_simp
    exact hK _ _ ⟨(upd (upd v 55 (.bool true)) 68 (.pointer (some ⟨g1, 1, none⟩))), rfl, ⟨hI.t0, hI.t1, hI.t2, hI.t3, hI.t4, hI.t5, hI.t6, hI.t7, hI.t8, hI.t9, hI.t10, hI.t11, hI.t12, hI.t13, hI.t14, hI.t15, fun _ => rfl, hI.t17, hI.t18, hI.t19, hI.t20, hI.t21, hI.t22, hI.t23, hI.t24, hI.t25, hI.t26, hI.t27, hI.t28, fun _ => rfl, hI.t30, hI.t31, hI.t32, hI.t33, hI.t34, hI.t35, hI.t36, hI.t37, hI.t38, hI.t39, hI.t40, hI.t41, hI.t42, hI.t43, hI.t44, hI.t45, hI.t46, hI.bw⟩⟩
  · rintro LF aF wx ⟨v, rfl, hI⟩ hL hdep hcl K hK
    have e29 := hI.t29 (hdep 29 (by decide))
    have e16 := hI.t16 (hdep 16 (by decide))
    rw [e29, e16]
    refine (if_pos rfl).mpr ?_
    obtain ⟨k1, k2, k3, -, -⟩ := HC.out wx hI.bw
    go_simp
    exact hK _ _ ⟨(upd (upd (upd v 68 (.pointer (some ⟨g1, 1, none⟩))) 55 (.bool true)) 69 (.int .u64 (s : Int))), rfl, ⟨hI.t0, hI.t1, hI.t2, hI.t3, hI.t4, hI.t5, hI.t6, hI.t7, hI.t8, hI.t9, hI.t10, hI.t11, hI.t12, hI.t13, hI.t14, hI.t15, fun _ => rfl, hI.t17, hI.t18, hI.t19, hI.t20, hI.t21, hI.t22, hI.t23, hI.t24, hI.t25, hI.t26, hI.t27, hI.t28, fun _ => rfl, fun _ => rfl, hI.t31, hI.t32, hI.t33, hI.t34, hI.t35, hI.t36, hI.t37, hI.t38, hI.t39, hI.t40, hI.t41, hI.t42, hI.t43, hI.t44, hI.t45, hI.t46, hI.bw⟩⟩
  · rintro LF aF wx ⟨v, rfl, hI⟩ hL hdep hcl K hK
    have e16 := hI.t16 (hdep 16 (by decide))
    rw [e16]
    refine (if_pos rfl).mpr ?_
    go_simp
    exact hK _ _ ⟨(upd (upd v 55 (.bool true)) 70 (.pointer (some ⟨g1, 2, none⟩))), rfl, ⟨hI.t0, hI.t1, hI.t2, hI.t3, hI.t4, hI.t5, hI.t6, hI.t7, hI.t8, hI.t9, hI.t10, hI.t11, hI.t12, hI.t13, hI.t14, hI.t15, fun _ => rfl, hI.t17, hI.t18, hI.t19, hI.t20, hI.t21, hI.t22, hI.t23, hI.t24, hI.t25, hI.t26, hI.t27, hI.t28, hI.t29, hI.t30, fun _ => rfl, hI.t32, hI.t33, hI.t34, hI.t35, hI.t36, hI.t37, hI.t38, hI.t39, hI.t40, hI.t41, hI.t42, hI.t43, hI.t44, hI.t45, hI.t46, hI.bw⟩⟩
  · rintro LF aF wx ⟨v, rfl, hI⟩ hL hdep hcl K hK
    have e31 := hI.t31 (hdep 31 (by decide))
    have e16 := hI.t16 (hdep 16 (by decide))
    rw [e31, e16]
    refine (if_pos rfl).mpr ?_
    refine wp_load_mid 41 _ rfl g1 2 rfl (bvs d) (.array 32 5) (HC.out wx hI.bw).2.2.2.1 Try.underlying41 rfl h32d.out ?_
    exact hK _ _ ⟨(upd (upd (upd v 70 (.pointer (some ⟨g1, 2, none⟩))) 55 (.bool true)) 71 (.agg (bvs d).toArray)), rfl, ⟨hI.t0, hI.t1, hI.t2, hI.t3, hI.t4, hI.t5, hI.t6, hI.t7, hI.t8, hI.t9, hI.t10, hI.t11, hI.t12, hI.t13, hI.t14, hI.t15, fun _ => rfl, hI.t17, hI.t18, hI.t19, hI.t20, hI.t21, hI.t22, hI.t23, hI.t24, hI.t25, hI.t26, hI.t27, hI.t28, hI.t29, hI.t30, fun _ => rfl, fun _ => rfl, hI.t33, hI.t34, hI.t35, hI.t36, hI.t37, hI.t38, hI.t39, hI.t40, hI.t41, hI.t42, hI.t43, hI.t44, hI.t45, hI.t46, hI.bw⟩⟩
  · rintro LF aF wx ⟨v, rfl, hI⟩ hL hdep hcl K hK
    have e16 := hI.t16 (hdep 16 (by decide))
    rw [e16]
    refine (if_pos rfl).mpr ?_
    go_simp
    exact hK _ _ ⟨(upd (upd v 55 (.bool true)) 72 (.pointer (some ⟨g1, 34, none⟩))), rfl, ⟨hI.t0, hI.t1, hI.t2, hI.t3, hI.t4, hI.t5, hI.t6, hI.t7, hI.t8, hI.t9, hI.t10, hI.t11, hI.t12, hI.t13, hI.t14, hI.t15, fun _ => rfl, hI.t17, hI.t18, hI.t19, hI.t20, hI.t21, hI.t22, hI.t23, hI.t24, hI.t25, hI.t26, hI.t27, hI.t28, hI.t29, hI.t30, hI.t31, hI.t32, fun _ => rfl, hI.t34, hI.t35, hI.t36, hI.t37, hI.t38, hI.t39, hI.t40, hI.t41, hI.t42, hI.t43, hI.t44, hI.t45, hI.t46, hI.bw⟩⟩
  · rintro LF aF wx ⟨v, rfl, hI⟩ hL hdep hcl K hK
    have e33 := hI.t33 (hdep 33 (by decide))
    have e16 := hI.t16 (hdep 16 (by decide))
    rw [e33, e16]
    refine (if_pos rfl).mpr ?_
    refine wp_load_mid 41 _ rfl g1 34 rfl (bvs r) (.array 32 5) (HC.out wx hI.bw).2.2.2.2 Try.underlying41 rfl h32r.out ?_
    exact hK _ _ ⟨(upd (upd (upd v 72 (.pointer (some ⟨g1, 34, none⟩))) 55 (.bool true)) 73 (.agg (bvs r).toArray)), rfl, ⟨hI.t0, hI.t1, hI.t2, hI.t3, hI.t4, hI.t5, hI.t6, hI.t7, hI.t8, hI.t9, hI.t10, hI.t11, hI.t12, hI.t13, hI.t14, hI.t15, fun _ => rfl, hI.t17, hI.t18, hI.t19, hI.t20, hI.t21, hI.t22, hI.t23, hI.t24, hI.t25, hI.t26, hI.t27, hI.t28, hI.t29, hI.t30, hI.t31, hI.t32, fun _ => rfl, fun _ => rfl, hI.t35, hI.t36, hI.t37, hI.t38, hI.t39, hI.t40, hI.t41, hI.t42, hI.t43, hI.t44, hI.t45, hI.t46, hI.bw⟩⟩
  · rintro LF aF wx ⟨v, rfl, hI⟩ hL hdep hcl K hK
    have e16 := hI.t16 (hdep 16 (by decide))
    rw [e16]
    refine (if_pos rfl).mpr ?_
    go_simp
    exact hK _ _ ⟨(upd (upd v 55 (.bool true)) 74 (.pointer (some ⟨g1, 66, none⟩))), rfl, ⟨hI.t0, hI.t1, hI.t2, hI.t3, hI.t4, hI.t5, hI.t6, hI.t7, hI.t8, hI.t9, hI.t10, hI.t11, hI.t12, hI.t13, hI.t14, hI.t15, fun _ => rfl, hI.t17, hI.t18, hI.t19, hI.t20, hI.t21, hI.t22, hI.t23, hI.t24, hI.t25, hI.t26, hI.t27, hI.t28, hI.t29, hI.t30, hI.t31, hI.t32, hI.t33, hI.t34, fun _ => rfl, hI.t36, hI.t37, hI.t38, hI.t39, hI.t40, hI.t41, hI.t42, hI.t43, hI.t44, hI.t45, hI.t46, hI.bw⟩⟩
  · rintro LF aF wx ⟨v, rfl, hI⟩ hL hdep hcl K hK
    have e35 := hI.t35 (hdep 35 (by decide))
    have e16 := hI.t16 (hdep 16 (by decide))
    rw [e35, e16]
    refine (if_pos rfl).mpr ?_
    obtain ⟨k1, k2, k3, -, -⟩ := HC.out wx hI.bw
    go_simp
    exact hK _ _ ⟨(upd (upd (upd v 74 (.pointer (some ⟨g1, 66, none⟩))) 55 (.bool true)) 75 (.slice a n c)), rfl, ⟨hI.t0, hI.t1, hI.t2, hI.t3, hI.t4, hI.t5, hI.t6, hI.t7, hI.t8, hI.t9, hI.t10, hI.t11, hI.t12, hI.t13, hI.t14, hI.t15, fun _ => rfl, hI.t17, hI.t18, hI.t19, hI.t20, hI.t21, hI.t22, hI.t23, hI.t24, hI.t25, hI.t26, hI.t27, hI.t28, hI.t29, hI.t30, hI.t31, hI.t32, hI.t33, hI.t34, fun _ => rfl, fun _ => rfl, hI.t37, hI.t38, hI.t39, hI.t40, hI.t41, hI.t42, hI.t43, hI.t44, hI.t45, hI.t46, hI.bw⟩⟩
  · rintro LF aF wx ⟨v, rfl, hI⟩ hL hdep hcl K hK
    have e28 := hI.t28 (hdep 28 (by decide))
    have e30 := hI.t30 (hdep 30 (by decide))
    have e32 := hI.t32 (hdep 32 (by decide))
    have e34 := hI.t34 (hdep 34 (by decide))
    have e36 := hI.t36 (hdep 36 (by decide))
    have e16 := hI.t16 (hdep 16 (by decide))
    rw [e28, e30, e32, e34, e36, e16]
    refine (if_pos rfl).mpr ?_
    have HCC := hRV.out wx _ _ (HP.out wx hI.bw)
    go_simp
    refine HCC.mono ?_
    rintro e w' ⟨rfl, hb⟩
    exact hK _ _ ⟨(upd (upd (upd (upd (upd (upd (upd v 67 (.int .u64 (m : Int))) 69 (.int .u64 (s : Int))) 71 (.agg (bvs d).toArray)) 73 (.agg (bvs r).toArray)) 75 (.slice a n c)) 55 (.bool true)) 76 (.bool V)), rfl, ⟨hI.t0, hI.t1, hI.t2, hI.t3, hI.t4, hI.t5, hI.t6, hI.t7, hI.t8, hI.t9, hI.t10, hI.t11, hI.t12, hI.t13, hI.t14, hI.t15, fun _ => rfl, hI.t17, hI.t18, hI.t19, hI.t20, hI.t21, hI.t22, hI.t23, hI.t24, hI.t25, hI.t26, hI.t27, fun _ => rfl, hI.t29, fun _ => rfl, hI.t31, fun _ => rfl, hI.t33, fun _ => rfl, hI.t35, fun _ => rfl, fun _ => rfl, hI.t38, hI.t39, hI.t40, hI.t41, hI.t42, hI.t43, hI.t44, hI.t45, hI.t46, (hI.bw).trans (hb.mono (hI.bw).size)⟩⟩
  · rintro LF aF wx ⟨v, rfl, hI⟩ hL hdep hcl K hK
    have e26 := hI.t26 (hdep 26 (by decide))
    have e37 := hI.t37 (hdep 37 (by decide))
    have e16 := hI.t16 (hdep 16 (by decide))
    rw [e26, e37, e16]
    refine (if_pos rfl).mpr ?_
    go_simp
    exact hK _ _ ⟨(upd (upd (upd (upd v 65 (.bool V)) 76 (.bool V)) 55 (.bool true)) 77 (.bool true)), rfl, ⟨hI.t0, hI.t1, hI.t2, hI.t3, hI.t4, hI.t5, hI.t6, hI.t7, hI.t8, hI.t9, hI.t10, hI.t11, hI.t12, hI.t13, hI.t14, hI.t15, fun _ => rfl, hI.t17, hI.t18, hI.t19, hI.t20, hI.t21, hI.t22, hI.t23, hI.t24, hI.t25, fun _ => rfl, hI.t27, hI.t28, hI.t29, hI.t30, hI.t31, hI.t32, hI.t33, hI.t34, hI.t35, hI.t36, fun _ => rfl, fun _ => rfl, hI.t39, hI.t40, hI.t41, hI.t42, hI.t43, hI.t44, hI.t45, hI.t46, hI.bw⟩⟩
  · rintro LF aF wx ⟨v, rfl, hI⟩ hL hdep hcl K hK
    have e16 := hI.t16 (hdep 16 (by decide))
    have e38 := hI.t38 (hdep 38 (by decide))
    rw [e16, e38]
    go_simp
    exact hK _ _ ⟨(upd (upd (upd v 55 (.bool true)) 77 (.bool true)) 78 (.bool true)), rfl, ⟨hI.t0, hI.t1, hI.t2, hI.t3, hI.t4, hI.t5, hI.t6, hI.t7, hI.t8, hI.t9, hI.t10, hI.t11, hI.t12, hI.t13, hI.t14, hI.t15, fun _ => rfl, hI.t17, hI.t18, hI.t19, hI.t20, hI.t21, hI.t22, hI.t23, hI.t24, hI.t25, hI.t26, hI.t27, hI.t28, hI.t29, hI.t30, hI.t31, hI.t32, hI.t33, hI.t34, hI.t35, hI.t36, hI.t37, fun _ => rfl, fun _ => rfl, hI.t40, hI.t41, hI.t42, hI.t43, hI.t44, hI.t45, hI.t46, hI.bw⟩⟩
  · rintro LF aF wx ⟨v, rfl, hI⟩ hL hdep hcl K hK
    have e39 := hI.t39 (hdep 39 (by decide))
    rw [e39]
    go_simp
    exact hK _ _ ⟨(upd (upd v 78 (.bool true)) 79 (.bool true)), rfl, ⟨hI.t0, hI.t1, hI.t2, hI.t3, hI.t4, hI.t5, hI.t6, hI.t7, hI.t8, hI.t9, hI.t10, hI.t11, hI.t12, hI.t13, hI.t14, hI.t15, hI.t16, hI.t17, hI.t18, hI.t19, hI.t20, hI.t21, hI.t22, hI.t23, hI.t24, hI.t25, hI.t26, hI.t27, hI.t28, hI.t29, hI.t30, hI.t31, hI.t32, hI.t33, hI.t34, hI.t35, hI.t36, hI.t37, hI.t38, fun _ => rfl, fun _ => rfl, hI.t41, hI.t42, hI.t43, hI.t44, hI.t45, hI.t46, hI.bw⟩⟩
  · rintro LF aF wx ⟨v, rfl, hI⟩ hL hdep hcl K hK
    have e40 := hI.t40 (hdep 40 (by decide))
    rw [e40]
    refine (if_pos rfl).mpr ?_
    go_simp
    exact hK _ _ ⟨(upd (upd v 79 (.bool true)) 80 (.slice a2 n c2)), rfl, ⟨hI.t0, hI.t1, hI.t2, hI.t3, hI.t4, hI.t5, hI.t6, hI.t7, hI.t8, hI.t9, hI.t10, hI.t11, hI.t12, hI.t13, hI.t14, hI.t15, hI.t16, hI.t17, hI.t18, hI.t19, hI.t20, hI.t21, hI.t22, hI.t23, hI.t24, hI.t25, hI.t26, hI.t27, hI.t28, hI.t29, hI.t30, hI.t31, hI.t32, hI.t33, hI.t34, hI.t35, hI.t36, hI.t37, hI.t38, hI.t39, fun _ => rfl, fun _ => rfl, hI.t42, hI.t43, hI.t44, hI.t45, hI.t46, hI.bw⟩⟩
  · rintro LF aF wx ⟨v, rfl, hI⟩ hL hdep hcl K hK
    have e40 := hI.t40 (hdep 40 (by decide))
    rw [e40]
    refine (if_pos rfl).mpr ?_
    go_simp
    exact hK _ _ ⟨(upd (upd v 79 (.bool true)) 81 (.pointer (some ⟨g1, 66, none⟩))), rfl, ⟨hI.t0, hI.t1, hI.t2, hI.t3, hI.t4, hI.t5, hI.t6, hI.t7, hI.t8, hI.t9, hI.t10, hI.t11, hI.t12, hI.t13, hI.t14, hI.t15, hI.t16, hI.t17, hI.t18, hI.t19, hI.t20, hI.t21, hI.t22, hI.t23, hI.t24, hI.t25, hI.t26, hI.t27, hI.t28, hI.t29, hI.t30, hI.t31, hI.t32, hI.t33, hI.t34, hI.t35, hI.t36, hI.t37, hI.t38, hI.t39, fun _ => rfl, hI.t41, fun _ => rfl, hI.t43, hI.t44, hI.t45, hI.t46, hI.bw⟩⟩
  · rintro LF aF wx ⟨v, rfl, hI⟩ hL hdep hcl K hK
    have e42 := hI.t42 (hdep 42 (by decide))
    have e40 := hI.t40 (hdep 40 (by decide))
    rw [e42, e40]
    refine (if_pos rfl).mpr ?_
    obtain ⟨k1, k2, k3, -, -⟩ := HC.out wx hI.bw
    go_simp
    exact hK _ _ ⟨(upd (upd (upd v 81 (.pointer (some ⟨g1, 66, none⟩))) 79 (.bool true)) 82 (.slice a n c)), rfl, ⟨hI.t0, hI.t1, hI.t2, hI.t3, hI.t4, hI.t5, hI.t6, hI.t7, hI.t8, hI.t9, hI.t10, hI.t11, hI.t12, hI.t13, hI.t14, hI.t15, hI.t16, hI.t17, hI.t18, hI.t19, hI.t20, hI.t21, hI.t22, hI.t23, hI.t24, hI.t25, hI.t26, hI.t27, hI.t28, hI.t29, hI.t30, hI.t31, hI.t32, hI.t33, hI.t34, hI.t35, hI.t36, hI.t37, hI.t38, hI.t39, fun _ => rfl, hI.t41, fun _ => rfl, fun _ => rfl, hI.t44, hI.t45, hI.t46, hI.bw⟩⟩
  · rintro LF aF wx ⟨v, rfl, hI⟩ hL hdep hcl K hK
    have e41 := hI.t41 (hdep 41 (by decide))
    have e43 := hI.t43 (hdep 43 (by decide))
    have e40 := hI.t40 (hdep 40 (by decide))
    rw [e41, e43, e40]
    refine (if_pos rfl).mpr ?_
    have HCC := HSL.out wx _ _ _ _ (HO.out wx hI.bw) (HP.out wx hI.bw)
    go_simp
    refine HCC.mono ?_
    rintro e w' ⟨rfl, hb⟩
    exact hK _ _ ⟨(upd (upd (upd (upd v 80 (.slice a2 n c2)) 82 (.slice a n c)) 79 (.bool true)) 83 (.bool true)), rfl, ⟨hI.t0, hI.t1, hI.t2, hI.t3, hI.t4, hI.t5, hI.t6, hI.t7, hI.t8, hI.t9, hI.t10, hI.t11, hI.t12, hI.t13, hI.t14, hI.t15, hI.t16, hI.t17, hI.t18, hI.t19, hI.t20, hI.t21, hI.t22, hI.t23, hI.t24, hI.t25, hI.t26, hI.t27, hI.t28, hI.t29, hI.t30, hI.t31, hI.t32, hI.t33, hI.t34, hI.t35, hI.t36, hI.t37, hI.t38, hI.t39, fun _ => rfl, fun _ => rfl, hI.t42, fun _ => rfl, fun _ => rfl, hI.t45, hI.t46, (hI.bw).trans (hb.mono (hI.bw).size)⟩⟩
  · rintro LF aF wx ⟨v, rfl, hI⟩ hL hdep hcl K hK
    have e40 := hI.t40 (hdep 40 (by decide))
    have e44 := hI.t44 (hdep 44 (by decide))
    rw [e40, e44]
    go_simp
    exact hK _ _ ⟨(upd (upd (upd v 79 (.bool true)) 83 (.bool true)) 84 (.bool true)), rfl, ⟨hI.t0, hI.t1, hI.t2, hI.t3, hI.t4, hI.t5, hI.t6, hI.t7, hI.t8, hI.t9, hI.t10, hI.t11, hI.t12, hI.t13, hI.t14, hI.t15, hI.t16, hI.t17, hI.t18, hI.t19, hI.t20, hI.t21, hI.t22, hI.t23, hI.t24, hI.t25, hI.t26, hI.t27, hI.t28, hI.t29, hI.t30, hI.t31, hI.t32, hI.t33, hI.t34, hI.t35, hI.t36, hI.t37, hI.t38, hI.t39, fun _ => rfl, hI.t41, hI.t42, hI.t43, fun _ => rfl, fun _ => rfl, hI.t46, hI.bw⟩⟩
  · rintro LF aF wx ⟨v, rfl, hI⟩ hL hdep hcl K hK
    have e45 := hI.t45 (hdep 45 (by decide))
    rw [e45]
    go_simp
    exact hK _ _ ⟨(upd (upd v 84 (.bool true)) 2 (.bool true)), rfl, ⟨hI.t0, hI.t1, hI.t2, hI.t3, hI.t4, hI.t5, hI.t6, hI.t7, hI.t8, hI.t9, hI.t10, hI.t11, hI.t12, hI.t13, hI.t14, hI.t15, hI.t16, hI.t17, hI.t18, hI.t19, hI.t20, hI.t21, hI.t22, hI.t23, hI.t24, hI.t25, hI.t26, hI.t27, hI.t28, hI.t29, hI.t30, hI.t31, hI.t32, hI.t33, hI.t34, hI.t35, hI.t36, hI.t37, hI.t38, hI.t39, hI.t40, hI.t41, hI.t42, hI.t43, hI.t44, fun _ => rfl, fun _ => rfl, hI.bw⟩⟩
  · rintro aF wx ⟨vF, rfl, hI⟩
    have e := hI.t46 rfl
    have hbw := hI.bw
    clear hI
    rw [e]
    go_wp2_with fail
    go_ret
    exact ⟨rfl, B012.out.trans (hbw.mono B012.out.size)⟩
end Go.Proofs.Ytcnnblhjgligbaa
