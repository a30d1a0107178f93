/-
  InclTells as a call. Conditions: those in each statement.
-/
import Derived.Test.YtbmhobbeimhodaaInW
import Derived.Test.YtbmhobbeimhodaaIpP
namespace Go.Proofs.Ytbmhobbeimhodaa
open Go.RowKit

/-- the parts of what was told, where it lies -/
structure TldAt (w : World) (g : Nat) (x : ToldR) : Prop where
  ci : w.cell? ⟨g, 32, none⟩ = some (.int .u64 (x.i : Int))
  cs : w.cell? ⟨g, 33, none⟩ = some (.int .u64 (x.s : Int))
  cl : w.cell? ⟨g, 34, none⟩ = some (.slice x.a x.L.length x.c)
  rd : w.rangeAt g 0 (bvs x.d)
  rr : w.rangeAt g 35 (bvs x.r)
theorem encT_len {x : ToldR} (hd : x.d.length = 32) (hr : x.r.length = 32) : (encT x).length = 67 := by simp [encT, bvs_len, hd, hr]
theorem tld_at {w : World} {g : Nat} {x : ToldR} (h : Arr w g 43 (encT x)) (hd : x.d.length = 32) : TldAt w g x := by
  have hb : (bvs x.d).length = 32 := by rw [bvs_len]; exact hd
  have e : ∀ j, 32 ≤ j → (encT x)[j]? = ([.int .u64 (x.i : Int), .int .u64 (x.s : Int), .slice x.a x.L.length x.c] ++ bvs x.r)[j - 32]? := fun j hj => by
    unfold encT
    rw [List.getElem?_append_right (by omega), hb]
  refine ⟨?_, ?_, ?_, fun j v hj => ?_, fun j v hj => ?_⟩
  · rw [h.cell, e 32 (by omega)]; rfl
  · rw [h.cell, e 33 (by omega)]; rfl
  · rw [h.cell, e 34 (by omega)]; rfl
  · rw [h.cell, Nat.zero_add]
    unfold encT
    rw [List.getElem?_append_left (List.getElem?_eq_some_iff.1 hj).1]
    exact hj
  · rw [h.cell, e (35 + j) (by omega), show 35 + j - 32 = j + 3 by omega]
    simpa using hj
structure InvTells (d r S : List UInt8) (V : Bool) (E : Int) (i s n c c2 g1 g4 g6 : Nat) (a a2 : Option Addr) (W0 : World) (L : Nat → Bool) (v : Nat → Value) (wx : World) : Prop where
  t0 : L 0 = true → (v 35) = .bool true
  t1 : L 1 = true → (v 36) = .bool true
  t2 : L 2 = true → (v 37) = .int .i64 E
  t3 : L 3 = true → (v 38) = .int .i64 E
  t4 : L 4 = true → (v 39) = .bool true
  t5 : L 5 = true → (v 40) = .bool true
  t6 : L 6 = true → (v 41) = .bool true
  t7 : L 7 = true → (v 42) = .agg (bvs S).toArray
  t8 : L 8 = true → (v 43) = .agg (bvs S).toArray
  t9 : L 9 = true → (v 44) = .bool true
  t10 : L 10 = true → (v 45) = .bool true
  t11 : L 11 = true → (v 46) = .bool true
  t12 : L 12 = true → (v 47) = .pointer (some ⟨g1, 0, none⟩)
  t13 : L 13 = true → (v 48) = .agg (bvs d).toArray
  t14 : L 14 = true → (v 49) = .pointer (some ⟨g1, 32, none⟩)
  t15 : L 15 = true → (v 50) = .int .u64 (i : Int)
  t16 : L 16 = true → (v 51) = .pointer (some ⟨g1, 33, none⟩)
  t17 : L 17 = true → (v 52) = .int .u64 (s : Int)
  t18 : L 18 = true → (v 53) = .slice a2 n c2
  t19 : L 19 = true → (v 54) = .pointer (some ⟨g1, 35, none⟩)
  t20 : L 20 = true → (v 55) = .agg (bvs r).toArray
  t21 : L 21 = true → (v 56) = .bool V
  t22 : L 22 = true → (v 57) = .pointer (some ⟨g1, 0, none⟩)
  t23 : L 23 = true → (v 58) = .agg (bvs d).toArray
  t24 : L 24 = true → (v 59) = .pointer (some ⟨g1, 32, none⟩)
  t25 : L 25 = true → (v 60) = .int .u64 (i : Int)
  t26 : L 26 = true → (v 61) = .pointer (some ⟨g1, 33, none⟩)
  t27 : L 27 = true → (v 62) = .int .u64 (s : Int)
  t28 : L 28 = true → (v 63) = .pointer (some ⟨g1, 34, none⟩)
  t29 : L 29 = true → (v 64) = .slice a n c
  t30 : L 30 = true → (v 65) = .pointer (some ⟨g1, 35, none⟩)
  t31 : L 31 = true → (v 66) = .agg (bvs r).toArray
  t32 : L 32 = true → (v 67) = .bool V
  t33 : L 33 = true → (v 68) = .bool true
  t34 : L 34 = true → (v 69) = .bool true
  t35 : L 35 = true → (v 70) = .bool true
  t36 : L 36 = true → (v 71) = .slice a2 n c2
  t37 : L 37 = true → (v 72) = .pointer (some ⟨g1, 34, none⟩)
  t38 : L 38 = true → (v 73) = .slice a n c
  t39 : L 39 = true → (v 74) = .bool true
  t40 : L 40 = true → (v 75) = .bool true
  t41 : L 41 = true → (v 2) = .bool true
  bw : Below W0.heap.size W0 wx
set_option maxRecDepth 100000 in
set_option maxHeartbeats 6400000 in
theorem LTells_any (x : ToldR) (w : World) (ht : x.d.length = 32 ∧ x.r.length = 32 ∧ RdD w x.a x.L.length x.c x.L ∧ x.L.length ≤ 2 ^ 42) :
    Calls Try.prog 5 #[.agg (encT x).toArray] w fun e w' => e = .returned (.bool true) ∧ Below w.heap.size w w' := by
  obtain ⟨hd, hrl, hL, hn⟩ := ht
  have HW := Lib.hid (fun w => awake_any w)
  have HTA := Lib.hid (fun (wx : World) (g : Nat) (h : Arr wx g 43 (encT x)) => tld_at h hd)
  obtain ⟨d, i, s, a, c, L, r⟩ := x
  simp only at hd hrl hL hn
  obtain ⟨n, hnl⟩ : ∃ n, n = L.length := ⟨_, rfl⟩
  have hH := Lib.hid (fun wx a c (h : RdD wx a n c L) => Head_any d i s a n c L wx hd h (by omega))
  have hRH := Lib.hid (fun wx a c (h : RdD wx a n c L) => rHead_any d i s a n c L wx hd h (by omega))
  have hV := Lib.hid (fun wx a c (h : RdD wx a n c L) => Verify_any d r i s a n c L wx hd hrl h (by omega))
  have hRV := Lib.hid (fun wx a c (h : RdD wx a n c L) => rVerify_any d r i s a n c L wx hd hrl h (by omega))
  have HSL := Lib.hid (fun wx a a' uc vc (hu : RdD wx a n uc L) (hv : RdD wx a' n vc L) => rSame_any L L a a' n n uc vc wx hu hv (by omega) (by omega))
  rw [decide_eq_true rfl] at HSL
  have hSl := hdV_len hd i s L
  obtain ⟨S, hS⟩ : ∃ S, S = hdV d i s L := ⟨_, rfl⟩
  obtain ⟨E, hE⟩ : ∃ E, E = hdE i s n := ⟨_, rfl⟩
  obtain ⟨V, hVv⟩ : ∃ V, V = verB d i s L r := ⟨_, rfl⟩
  rw [← hS] at hH hRH hSl
  rw [← hE] at hH hRH
  rw [← hVv] at hV hRV
  rw [← hnl] at hL hn
  have hencl : (encT ⟨d, i, s, a, c, L, r⟩).length = 67 := encT_len hd hrl
  have HLN : Hid (L.length = n) := hnl.symm
  have HEN : Hid (∀ g (wx : World), Arr wx g 43 (encT ⟨d, i, s, a, c, L, r⟩) → wx.cell? ⟨g, 32, none⟩ = some (.int .u64 (i : Int)) ∧ wx.cell? ⟨g, 33, none⟩ = some (.int .u64 (s : Int)) ∧ wx.cell? ⟨g, 34, none⟩ = some (.slice a n c) ∧ wx.rangeAt g 0 (bvs d) ∧ wx.rangeAt g 35 (bvs r)) := fun g wx h => by
    have h := HTA.out wx g h
    exact ⟨h.ci, h.cs, by rw [hnl]; exact h.cl, h.rd, h.rr⟩
  have HR : Hid (∀ wx, Below w.heap.size w wx → RdD wx a n c L) := fun wx hb => hL.to hb
  have h32d : Hid ((Try.prog.info? 41).map (·.size) = some (bvs d).length) := by show _ = _; rw [bvs_len, hd]; exact sizeD
  have h32r : Hid ((Try.prog.info? 41).map (·.size) = some (bvs r).length) := by show _ = _; rw [bvs_len, hrl]; exact sizeD
  have h32S : Hid ((Try.prog.info? 41).map (·.size) = some (bvs S).length) := by show _ = _; rw [bvs_len, hSl]; exact sizeD
  have hS32 : Hid ((bvs S).length = 32) := by show _ = _; rw [bvs_len]; exact hSl
  have HSL2 := Lib.hid hSl
  clear hS hE hVv HTA hnl hencl hd hrl hSl hL
  generalize encT ⟨d, i, s, a, c, L, r⟩ = X at *
  go_enter Try.func5, Try.ntmps5
  go_upto_region 4 with (first
    | ((with_reducible show wpList _ _ _ (⟨some 1, .box _ _, _, _, _, _⟩ :: _) _ _); refine wl_box rfl 43 _ rfl X rfl ?_; intro w1 hA1 hb1 hs1; obtain ⟨k11, k12, k13, k14, k15⟩ := HEN.out _ _ hA1)
    | ((with_reducible show wpList _ _ _ (⟨some 11, _, _, _, _, _⟩ :: _) _ _); refine wl_rowD rfl (.tmp 8) (.tmp 10) rfl w1.heap.size _ [] rfl (own_lit0 w1) a n c L rfl ((HR.out w1 hb1).to ((Below.refl _ _).alloc (Nat.le_refl _) _)) (by simp; omega) (by simp) ?_; intro v2 w2 ho2 hb2; rw [List.nil_append] at ho2; obtain ⟨a2, c2, rfl, hr2⟩ := ho2.rd; have hl2 := hr2.len; have b2 : Below w1.heap.size w1 w2 := ((Below.refl _ _).alloc (Nat.le_refl _) _).trans hb2; have A2 := hA1.kept b2; obtain ⟨k21, k22, k23, k24, k25⟩ := HEN.out _ _ A2; rw [HLN.out] at hr2 ⊢)
    | ((with_reducible show wpList _ _ _ (⟨some 14, .load _ _, _, _, _, _⟩ :: _) _ _); refine wpList_load_mid rfl 41 _ rfl w.heap.size 0 rfl (bvs d) (.array 32 5) k24 Try.underlying41 rfl h32d.out ?_)
    | (go_at_call 17; refine (hH.out _ _ _ hr2).mono ?_; rintro e w3 ⟨rfl, hb3⟩)
    | ((with_reducible show wpList _ _ _ (⟨some 4, .alloc _, _, _, _, _⟩ :: _) _ _); refine wl_alloc rfl 41 rfl (bvs (Z8 32)) 32 infoD ?_; intro w4 hA4 hb4 hs4)
    | ((with_reducible show wpList _ _ _ (⟨none, .store _ (.tmp 4) _, _, _, _, _⟩ :: _) _ _); refine wl_store rfl 41 _ _ rfl w3.heap.size 0 rfl (bvs S) rfl 41 _ hA4 h32S.out (by rw [hS32.out]; exact (by decide : 0 + 32 ≤ (bvs (Z8 32)).length)) (bvs_one _) ?_; intro w5 hA5 hg5 hs5; rw [whole_store _ _ (by rw [hS32.out]; rfl)] at hA5; have b25 : Below w2.heap.size w2 w5 := (hb3.trans (hb4.mono hb3.size)).grown hg5 (by have := hb3.size; have := hb4.size; omega) (by intro k e; injection e with e; have := hb3.size; omega); have A5 := A2.kept b25; obtain ⟨k51, k52, k53, k54, k55⟩ := HEN.out _ _ A5; have b05 : Below w.heap.size w w5 := (hb1.trans (b2.mono hb1.size)).trans (b25.mono (by have := hb1.size; have := b2.size; omega)))
    | ((with_reducible show wpList _ _ _ (⟨some 25, .load _ _, _, _, _, _⟩ :: _) _ _); refine wpList_load_mid rfl 41 _ rfl w.heap.size 0 rfl (bvs d) (.array 32 5) k54 Try.underlying41 rfl h32d.out ?_)
    | (go_at_call 18; refine (hRH.out _ _ _ (HR.out w5 b05)).mono ?_; rintro e w6 ⟨rfl, hb6⟩)
    | ((with_reducible show wpList _ _ _ (⟨some 6, .alloc _, _, _, _, _⟩ :: _) _ _); refine wl_alloc rfl 41 rfl (bvs (Z8 32)) 32 infoD ?_; intro w7 hA7 hb7 hs7)
    | ((with_reducible show wpList _ _ _ (⟨none, .store _ (.tmp 6) _, _, _, _, _⟩ :: _) _ _); refine wl_store rfl 41 _ _ rfl w6.heap.size 0 rfl (bvs S) rfl 41 _ hA7 h32S.out (by rw [hS32.out]; exact (by decide : 0 + 32 ≤ (bvs (Z8 32)).length)) (bvs_one _) ?_; intro w8 hA8 hg8 hs8; rw [whole_store _ _ (by rw [hS32.out]; rfl)] at hA8; have b58 : Below w5.heap.size w5 w8 := (hb6.trans (hb7.mono hb6.size)).grown hg8 (by have := hb6.size; have := hb7.size; omega) (by intro k e; injection e with e; have := hb6.size; omega)))
  have b08 : Below w.heap.size w w8 := b05.trans (b58.mono b05.size)
  have A1 := A5.kept b58
  have A4 := hA5.kept b58
  have R2 := (hr2.to b25).to b58
  obtain ⟨g1, hg1⟩ : ∃ g, g = w.heap.size := ⟨_, rfl⟩
  obtain ⟨g4, hg4⟩ : ∃ g, g = w3.heap.size := ⟨_, rfl⟩
  obtain ⟨g6, hg6⟩ : ∃ g, g = w6.heap.size := ⟨_, rfl⟩
  go_simp
  rw [← hg1, ← hg4, ← hg6]
  rw [← hg1] at A1
  rw [← hg4] at A4
  rw [← hg6] at hA8
  have B08 := Lib.hid b08
  have HC : Hid (∀ wx, Below w8.heap.size w8 wx → wx.cell? ⟨g1, 32, none⟩ = some (.int .u64 (i : Int)) ∧ wx.cell? ⟨g1, 33, none⟩ = some (.int .u64 (s : Int)) ∧ wx.cell? ⟨g1, 34, none⟩ = some (.slice a n c) ∧ wx.rangeAt g1 0 (bvs d) ∧ wx.rangeAt g1 35 (bvs r)) := fun wx hb => HEN.out _ _ (A1.kept hb)
  have HA4 : Hid (∀ wx, Below w8.heap.size w8 wx → Arr wx g4 41 (bvs S)) := fun wx hb => A4.kept hb
  have HA6 : Hid (∀ wx, Below w8.heap.size w8 wx → Arr wx g6 41 (bvs S)) := fun wx hb => hA8.kept hb
  have HO : Hid (∀ wx, Below w8.heap.size w8 wx → RdD wx a2 n c2 L) := fun wx hb => R2.to hb
  have HP : Hid (∀ wx, Below w8.heap.size w8 wx → RdD wx a n c L) := fun wx hb => HR.out wx (b08.trans (hb.mono b08.size))
  clear hA1 hb1 hs1 k11 k12 k13 k14 k15 ho2 hb2 hr2 b2 A2 k21 k22 k23 k24 k25 hb3 hA4 hb4 hs4 hA5 hg5 hs5 b25 A5 k51 k52 k53 k54 k55 b05 hb6 hA7 hb7 hs7 hA8 hg8 hs8 b58 b08 A1 A4 R2 hg1 hg4 hg6 hl2
  refine wp_region_steps [[], [0], [1], [1], [2, 3, 1], [1, 4], [5], [6], [6], [7, 8, 6], [6, 9], [10], [11], [12, 11], [11], [14, 11], [11], [16, 11], [11], [11], [19, 11], [13, 15, 17, 18, 20, 11], [11], [22, 11], [11], [24, 11], [11], [26, 11], [11], [28, 11], [11], [30, 11], [23, 25, 27, 29, 31, 11], [21, 32, 11], [11, 33], [34], [35], [35], [37, 35], [36, 38, 35], [35, 39], [40]] (by kernel_rfl) (by kernel_rfl) (fun LF aF wx => ∃ v : Nat → Value, aF = ⟨#[.agg X.toArray, .pointer (some ⟨g1, 0, none⟩), v 2, .slice a2 n c2, .pointer (some ⟨g4, 0, none⟩), .int .i64 E, .pointer (some ⟨g6, 0, none⟩), .int .i64 E, .slice (some ⟨w1.heap.size, 0, none⟩) 0 0, .pointer (some ⟨g1, 34, none⟩), .slice a n c, .slice a2 n c2, .tuple #[.agg (bvs S).toArray, .int .i64 E], .pointer (some ⟨g1, 0, none⟩), .agg (bvs d).toArray, .pointer (some ⟨g1, 32, none⟩), .int .u64 ↑i, .pointer (some ⟨g1, 33, none⟩), .int .u64 ↑s, .slice a2 n c2, .tuple #[.agg (bvs S).toArray, .int .i64 E], .agg (bvs S).toArray, .int .i64 E, .tuple #[.agg (bvs S).toArray, .int .i64 E], .pointer (some ⟨g1, 0, none⟩), .agg (bvs d).toArray, .pointer (some ⟨g1, 32, none⟩), .int .u64 ↑i, .pointer (some ⟨g1, 33, none⟩), .int .u64 ↑s, .pointer (some ⟨g1, 34, none⟩), .slice a n c, .tuple #[.agg (bvs S).toArray, .int .i64 E], .agg (bvs S).toArray, .int .i64 E, v 35, v 36, v 37, v 38, v 39, v 40, v 41, v 42, v 43, v 44, v 45, v 46, v 47, v 48, v 49, v 50, v 51, v 52, v 53, v 54, v 55, v 56, v 57, v 58, v 59, v 60, v 61, v 62, v 63, v 64, v 65, v 66, v 67, v 68, v 69, v 70, v 71, v 72, v 73, v 74, v 75], []⟩ ∧ InvTells d r S V E i s n c c2 g1 g4 g6 a a2 w8 LF v wx) ?_ ⟨?_, ?_, ?_, ?_, ?_, ?_, ?_, ?_, ?_, ?_, ?_, ?_, ?_, ?_, ?_, ?_, ?_, ?_, ?_, ?_, ?_, ?_, ?_, ?_, ?_, ?_, ?_, ?_, ?_, ?_, ?_, ?_, ?_, ?_, ?_, ?_, ?_, ?_, ?_, ?_, ?_, ?_, trivial⟩ ?_
  · refine ⟨upd (fun _ => undef) 2 (.bool false), rfl, ⟨?_, ?_, ?_, ?_, ?_, ?_, ?_, ?_, ?_, ?_, ?_, ?_, ?_, ?_, ?_, ?_, ?_, ?_, ?_, ?_, ?_, ?_, ?_, ?_, ?_, ?_, ?_, ?_, ?_, ?_, ?_, ?_, ?_, ?_, ?_, ?_, ?_, ?_, ?_, ?_, ?_, ?_, (Below.refl _ _).drew⟩⟩ <;> (intro h; exact absurd h (by decide))
  · rintro LF aF wx ⟨v, rfl, hI⟩ hL hdep hcl K hK
    have HCC := HW.out wx
    go_simp
    refine HCC.mono ?_
    rintro e w' ⟨rfl, hb⟩
    exact hK _ _ ⟨(upd v 35 (.bool true)), rfl, ⟨fun _ => rfl, hI.t1, hI.t2, hI.t3, hI.t4, hI.t5, hI.t6, hI.t7, hI.t8, hI.t9, hI.t10, hI.t11, hI.t12, hI.t13, hI.t14, hI.t15, hI.t16, hI.t17, hI.t18, hI.t19, hI.t20, hI.t21, hI.t22, hI.t23, hI.t24, hI.t25, hI.t26, hI.t27, hI.t28, hI.t29, hI.t30, hI.t31, hI.t32, hI.t33, hI.t34, hI.t35, hI.t36, hI.t37, hI.t38, hI.t39, hI.t40, hI.t41, (hI.bw).trans (hb.mono (hI.bw).size)⟩⟩
  · rintro LF aF wx ⟨v, rfl, hI⟩ hL hdep hcl K hK
    have e0 := hI.t0 (hdep 0 (by decide))
    rw [e0]
    go_simp
    exact hK _ _ ⟨(upd (upd v 35 (.bool true)) 36 (.bool true)), rfl, ⟨fun _ => rfl, fun _ => rfl, hI.t2, hI.t3, hI.t4, hI.t5, hI.t6, hI.t7, hI.t8, hI.t9, hI.t10, hI.t11, hI.t12, hI.t13, hI.t14, hI.t15, hI.t16, hI.t17, hI.t18, hI.t19, hI.t20, hI.t21, hI.t22, hI.t23, hI.t24, hI.t25, hI.t26, hI.t27, hI.t28, hI.t29, hI.t30, hI.t31, hI.t32, hI.t33, hI.t34, hI.t35, hI.t36, hI.t37, hI.t38, hI.t39, hI.t40, hI.t41, hI.bw⟩⟩
  · rintro LF aF wx ⟨v, rfl, hI⟩ hL hdep hcl K hK
    have e1 := hI.t1 (hdep 1 (by decide))
    rw [e1]
    refine (if_pos rfl).mpr ?_
    go_simp
    exact hK _ _ ⟨(upd (upd v 36 (.bool true)) 37 (.int .i64 E)), rfl, ⟨hI.t0, fun _ => rfl, fun _ => rfl, hI.t3, hI.t4, hI.t5, hI.t6, hI.t7, hI.t8, hI.t9, hI.t10, hI.t11, hI.t12, hI.t13, hI.t14, hI.t15, hI.t16, hI.t17, hI.t18, hI.t19, hI.t20, hI.t21, hI.t22, hI.t23, hI.t24, hI.t25, hI.t26, hI.t27, hI.t28, hI.t29, hI.t30, hI.t31, hI.t32, hI.t33, hI.t34, hI.t35, hI.t36, hI.t37, hI.t38, hI.t39, hI.t40, hI.t41, hI.bw⟩⟩
  · rintro LF aF wx ⟨v, rfl, hI⟩ hL hdep hcl K hK
    have e1 := hI.t1 (hdep 1 (by decide))
    rw [e1]
    refine (if_pos rfl).mpr ?_
    go_simp
    exact hK _ _ ⟨(upd (upd v 36 (.bool true)) 38 (.int .i64 E)), rfl, ⟨hI.t0, fun _ => rfl, hI.t2, fun _ => rfl, hI.t4, hI.t5, hI.t6, hI.t7, hI.t8, hI.t9, hI.t10, hI.t11, hI.t12, hI.t13, hI.t14, hI.t15, hI.t16, hI.t17, hI.t18, hI.t19, hI.t20, hI.t21, hI.t22, hI.t23, hI.t24, hI.t25, hI.t26, hI.t27, hI.t28, hI.t29, hI.t30, hI.t31, hI.t32, hI.t33, hI.t34, hI.t35, hI.t36, hI.t37, hI.t38, hI.t39, hI.t40, hI.t41, hI.bw⟩⟩
  · rintro LF aF wx ⟨v, rfl, hI⟩ hL hdep hcl K hK
    have e2 := hI.t2 (hdep 2 (by decide))
    have e3 := hI.t3 (hdep 3 (by decide))
    have e1 := hI.t1 (hdep 1 (by decide))
    rw [e2, e3, e1]
    refine (if_pos rfl).mpr ?_
    go_simp
    exact hK _ _ ⟨(upd (upd (upd (upd v 37 (.int .i64 E)) 38 (.int .i64 E)) 36 (.bool true)) 39 (.bool true)), rfl, ⟨hI.t0, fun _ => rfl, fun _ => rfl, fun _ => rfl, fun _ => rfl, hI.t5, hI.t6, hI.t7, hI.t8, hI.t9, hI.t10, hI.t11, hI.t12, hI.t13, hI.t14, hI.t15, hI.t16, hI.t17, hI.t18, hI.t19, hI.t20, hI.t21, hI.t22, hI.t23, hI.t24, hI.t25, hI.t26, hI.t27, hI.t28, hI.t29, hI.t30, hI.t31, hI.t32, hI.t33, hI.t34, hI.t35, hI.t36, hI.t37, hI.t38, hI.t39, hI.t40, hI.t41, hI.bw⟩⟩
  · rintro LF aF wx ⟨v, rfl, hI⟩ hL hdep hcl K hK
    have e1 := hI.t1 (hdep 1 (by decide))
    have e4 := hI.t4 (hdep 4 (by decide))
    rw [e1, e4]
    go_simp
    exact hK _ _ ⟨(upd (upd (upd v 36 (.bool true)) 39 (.bool true)) 40 (.bool true)), rfl, ⟨hI.t0, fun _ => rfl, hI.t2, hI.t3, fun _ => rfl, fun _ => rfl, hI.t6, hI.t7, hI.t8, hI.t9, hI.t10, hI.t11, hI.t12, hI.t13, hI.t14, hI.t15, hI.t16, hI.t17, hI.t18, hI.t19, hI.t20, hI.t21, hI.t22, hI.t23, hI.t24, hI.t25, hI.t26, hI.t27, hI.t28, hI.t29, hI.t30, hI.t31, hI.t32, hI.t33, hI.t34, hI.t35, hI.t36, hI.t37, hI.t38, hI.t39, hI.t40, hI.t41, hI.bw⟩⟩
  · rintro LF aF wx ⟨v, rfl, hI⟩ hL hdep hcl K hK
    have e5 := hI.t5 (hdep 5 (by decide))
    rw [e5]
    go_simp
    exact hK _ _ ⟨(upd (upd v 40 (.bool true)) 41 (.bool true)), rfl, ⟨hI.t0, hI.t1, hI.t2, hI.t3, hI.t4, fun _ => rfl, fun _ => rfl, hI.t7, hI.t8, hI.t9, hI.t10, hI.t11, hI.t12, hI.t13, hI.t14, hI.t15, hI.t16, hI.t17, hI.t18, hI.t19, hI.t20, hI.t21, hI.t22, hI.t23, hI.t24, hI.t25, hI.t26, hI.t27, hI.t28, hI.t29, hI.t30, hI.t31, hI.t32, hI.t33, hI.t34, hI.t35, hI.t36, hI.t37, hI.t38, hI.t39, hI.t40, hI.t41, hI.bw⟩⟩
  · rintro LF aF wx ⟨v, rfl, hI⟩ hL hdep hcl K hK
    have e6 := hI.t6 (hdep 6 (by decide))
    rw [e6]
    refine (if_pos rfl).mpr ?_
    refine ow_load 41 _ rfl g4 0 rfl 41 (bvs S) (bvs S) (HA4.out wx hI.bw) (fun j v h => by rw [Nat.zero_add]; exact h) (.array 32 5) Try.underlying41 rfl h32S.out ?_
    exact hK _ _ ⟨(upd (upd v 41 (.bool true)) 42 (.agg (bvs S).toArray)), rfl, ⟨hI.t0, hI.t1, hI.t2, hI.t3, hI.t4, hI.t5, fun _ => rfl, fun _ => rfl, hI.t8, hI.t9, hI.t10, hI.t11, hI.t12, hI.t13, hI.t14, hI.t15, hI.t16, hI.t17, hI.t18, hI.t19, hI.t20, hI.t21, hI.t22, hI.t23, hI.t24, hI.t25, hI.t26, hI.t27, hI.t28, hI.t29, hI.t30, hI.t31, hI.t32, hI.t33, hI.t34, hI.t35, hI.t36, hI.t37, hI.t38, hI.t39, hI.t40, hI.t41, hI.bw⟩⟩
  · rintro LF aF wx ⟨v, rfl, hI⟩ hL hdep hcl K hK
    have e6 := hI.t6 (hdep 6 (by decide))
    rw [e6]
    refine (if_pos rfl).mpr ?_
    refine ow_load 41 _ rfl g6 0 rfl 41 (bvs S) (bvs S) (HA6.out wx hI.bw) (fun j v h => by rw [Nat.zero_add]; exact h) (.array 32 5) Try.underlying41 rfl h32S.out ?_
    exact hK _ _ ⟨(upd (upd v 41 (.bool true)) 43 (.agg (bvs S).toArray)), rfl, ⟨hI.t0, hI.t1, hI.t2, hI.t3, hI.t4, hI.t5, fun _ => rfl, hI.t7, fun _ => rfl, hI.t9, hI.t10, hI.t11, hI.t12, hI.t13, hI.t14, hI.t15, hI.t16, hI.t17, hI.t18, hI.t19, hI.t20, hI.t21, hI.t22, hI.t23, hI.t24, hI.t25, hI.t26, hI.t27, hI.t28, hI.t29, hI.t30, hI.t31, hI.t32, hI.t33, hI.t34, hI.t35, hI.t36, hI.t37, hI.t38, hI.t39, hI.t40, hI.t41, hI.bw⟩⟩
  · rintro LF aF wx ⟨v, rfl, hI⟩ hL hdep hcl K hK
    have e7 := hI.t7 (hdep 7 (by decide))
    have e8 := hI.t8 (hdep 8 (by decide))
    have e6 := hI.t6 (hdep 6 (by decide))
    rw [e7, e8, e6]
    refine (if_pos rfl).mpr ?_
    refine ow_eqD _ _ _ rfl S S HSL2.out HSL2.out rfl rfl ?_
    rw [decide_eq_true rfl]
    exact hK _ _ ⟨(upd (upd (upd (upd v 42 (.agg (bvs S).toArray)) 43 (.agg (bvs S).toArray)) 41 (.bool true)) 44 (.bool true)), rfl, ⟨hI.t0, hI.t1, hI.t2, hI.t3, hI.t4, hI.t5, fun _ => rfl, fun _ => rfl, fun _ => rfl, fun _ => rfl, hI.t10, hI.t11, hI.t12, hI.t13, hI.t14, hI.t15, hI.t16, hI.t17, hI.t18, hI.t19, hI.t20, hI.t21, hI.t22, hI.t23, hI.t24, hI.t25, hI.t26, hI.t27, hI.t28, hI.t29, hI.t30, hI.t31, hI.t32, hI.t33, hI.t34, hI.t35, hI.t36, hI.t37, hI.t38, hI.t39, hI.t40, hI.t41, hI.bw⟩⟩
  · rintro LF aF wx ⟨v, rfl, hI⟩ hL hdep hcl K hK
    have e6 := hI.t6 (hdep 6 (by decide))
    have e9 := hI.t9 (hdep 9 (by decide))
    rw [e6, e9]
    go_simp
    exact hK _ _ ⟨(upd (upd (upd v 41 (.bool true)) 44 (.bool true)) 45 (.bool true)), rfl, ⟨hI.t0, hI.t1, hI.t2, hI.t3, hI.t4, hI.t5, fun _ => rfl, hI.t7, hI.t8, fun _ => rfl, fun _ => rfl, hI.t11, hI.t12, hI.t13, hI.t14, hI.t15, hI.t16, hI.t17, hI.t18, hI.t19, hI.t20, hI.t21, hI.t22, hI.t23, hI.t24, hI.t25, hI.t26, hI.t27, hI.t28, hI.t29, hI.t30, hI.t31, hI.t32, hI.t33, hI.t34, hI.t35, hI.t36, hI.t37, hI.t38, hI.t39, hI.t40, hI.t41, hI.bw⟩⟩
  · rintro LF aF wx ⟨v, rfl, hI⟩ hL hdep hcl K hK
    have e10 := hI.t10 (hdep 10 (by decide))
    rw [e10]
    go_simp
    exact hK _ _ ⟨(upd (upd v 45 (.bool true)) 46 (.bool true)), rfl, ⟨hI.t0, hI.t1, hI.t2, hI.t3, hI.t4, hI.t5, hI.t6, hI.t7, hI.t8, hI.t9, fun _ => rfl, fun _ => rfl, hI.t12, hI.t13, hI.t14, hI.t15, hI.t16, hI.t17, hI.t18, hI.t19, hI.t20, hI.t21, hI.t22, hI.t23, hI.t24, hI.t25, hI.t26, hI.t27, hI.t28, hI.t29, hI.t30, hI.t31, hI.t32, hI.t33, hI.t34, hI.t35, hI.t36, hI.t37, hI.t38, hI.t39, hI.t40, hI.t41, hI.bw⟩⟩
  · rintro LF aF wx ⟨v, rfl, hI⟩ hL hdep hcl K hK
    have e11 := hI.t11 (hdep 11 (by decide))
    rw [e11]
    refine (if_pos rfl).mpr ?_
    go_simp
    exact hK _ _ ⟨(upd (upd v 46 (.bool true)) 47 (.pointer (some ⟨g1, 0, none⟩))), rfl, ⟨hI.t0, hI.t1, hI.t2, hI.t3, hI.t4, hI.t5, hI.t6, hI.t7, hI.t8, hI.t9, hI.t10, fun _ => rfl, fun _ => rfl, hI.t13, hI.t14, hI.t15, hI.t16, hI.t17, hI.t18, hI.t19, hI.t20, hI.t21, hI.t22, hI.t23, hI.t24, hI.t25, hI.t26, hI.t27, hI.t28, hI.t29, hI.t30, hI.t31, hI.t32, hI.t33, hI.t34, hI.t35, hI.t36, hI.t37, hI.t38, hI.t39, hI.t40, hI.t41, hI.bw⟩⟩
  · rintro LF aF wx ⟨v, rfl, hI⟩ hL hdep hcl K hK
    have e12 := hI.t12 (hdep 12 (by decide))
    have e11 := hI.t11 (hdep 11 (by decide))
    rw [e12, e11]
    refine (if_pos rfl).mpr ?_
    refine wp_load_mid 41 _ rfl g1 0 rfl (bvs d) (.array 32 5) (HC.out wx hI.bw).2.2.2.1 Try.underlying41 rfl h32d.out ?_
    exact hK _ _ ⟨(upd (upd (upd v 47 (.pointer (some ⟨g1, 0, none⟩))) 46 (.bool true)) 48 (.agg (bvs d).toArray)), rfl, ⟨hI.t0, hI.t1, hI.t2, hI.t3, hI.t4, hI.t5, hI.t6, hI.t7, hI.t8, hI.t9, hI.t10, fun _ => rfl, fun _ => rfl, fun _ => rfl, hI.t14, hI.t15, hI.t16, hI.t17, hI.t18, hI.t19, hI.t20, hI.t21, hI.t22, hI.t23, hI.t24, hI.t25, hI.t26, hI.t27, hI.t28, hI.t29, hI.t30, hI.t31, hI.t32, hI.t33, hI.t34, hI.t35, hI.t36, hI.t37, hI.t38, hI.t39, hI.t40, hI.t41, hI.bw⟩⟩
  · rintro LF aF wx ⟨v, rfl, hI⟩ hL hdep hcl K hK
    have e11 := hI.t11 (hdep 11 (by decide))
    rw [e11]
    refine (if_pos rfl).mpr ?_
    go_simp
    exact hK _ _ ⟨(upd (upd v 46 (.bool true)) 49 (.pointer (some ⟨g1, 32, none⟩))), rfl, ⟨hI.t0, hI.t1, hI.t2, hI.t3, hI.t4, hI.t5, hI.t6, hI.t7, hI.t8, hI.t9, hI.t10, fun _ => rfl, hI.t12, hI.t13, fun _ => rfl, hI.t15, hI.t16, hI.t17, hI.t18, hI.t19, hI.t20, hI.t21, hI.t22, hI.t23, hI.t24, hI.t25, hI.t26, hI.t27, hI.t28, hI.t29, hI.t30, hI.t31, hI.t32, hI.t33, hI.t34, hI.t35, hI.t36, hI.t37, hI.t38, hI.t39, hI.t40, hI.t41, hI.bw⟩⟩
  · rintro LF aF wx ⟨v, rfl, hI⟩ hL hdep hcl K hK
    have e14 := hI.t14 (hdep 14 (by decide))
    have e11 := hI.t11 (hdep 11 (by decide))
    rw [e14, e11]
    refine (if_pos rfl).mpr ?_
    obtain ⟨k1, k2, k3, -, -⟩ := HC.out wx hI.bw
    go_simp
    exact hK _ _ ⟨(upd (upd (upd v 49 (.pointer (some ⟨g1, 32, none⟩))) 46 (.bool true)) 50 (.int .u64 (i : Int))), rfl, ⟨hI.t0, hI.t1, hI.t2, hI.t3, hI.t4, hI.t5, hI.t6, hI.t7, hI.t8, hI.t9, hI.t10, fun _ => rfl, hI.t12, hI.t13, fun _ => rfl, fun _ => rfl, hI.t16, hI.t17, hI.t18, hI.t19, hI.t20, hI.t21, hI.t22, hI.t23, hI.t24, hI.t25, hI.t26, hI.t27, hI.t28, hI.t29, hI.t30, hI.t31, hI.t32, hI.t33, hI.t34, hI.t35, hI.t36, hI.t37, hI.t38, hI.t39, hI.t40, hI.t41, hI.bw⟩⟩
  · rintro LF aF wx ⟨v, rfl, hI⟩ hL hdep hcl K hK
    have e11 := hI.t11 (hdep 11 (by decide))
    rw [e11]
    refine (if_pos rfl).mpr ?_
    go_simp
    exact hK _ _ ⟨(upd (upd v 46 (.bool true)) 51 (.pointer (some ⟨g1, 33, none⟩))), rfl, ⟨hI.t0, hI.t1, hI.t2, hI.t3, hI.t4, hI.t5, hI.t6, hI.t7, hI.t8, hI.t9, hI.t10, fun _ => rfl, hI.t12, hI.t13, hI.t14, hI.t15, fun _ => rfl, hI.t17, hI.t18, hI.t19, hI.t20, hI.t21, hI.t22, hI.t23, hI.t24, hI.t25, hI.t26, hI.t27, hI.t28, hI.t29, hI.t30, hI.t31, hI.t32, hI.t33, hI.t34, hI.t35, hI.t36, hI.t37, hI.t38, hI.t39, hI.t40, hI.t41, hI.bw⟩⟩
  · rintro LF aF wx ⟨v, rfl, hI⟩ hL hdep hcl K hK
    have e16 := hI.t16 (hdep 16 (by decide))
    have e11 := hI.t11 (hdep 11 (by decide))
    rw [e16, e11]
    refine (if_pos rfl).mpr ?_
    obtain ⟨k1, k2, k3, -, -⟩ := HC.out wx hI.bw
    go_simp
    exact hK _ _ ⟨(upd (upd (upd v 51 (.pointer (some ⟨g1, 33, none⟩))) 46 (.bool true)) 52 (.int .u64 (s : Int))), rfl, ⟨hI.t0, hI.t1, hI.t2, hI.t3, hI.t4, hI.t5, hI.t6, hI.t7, hI.t8, hI.t9, hI.t10, fun _ => rfl, hI.t12, hI.t13, hI.t14, hI.t15, fun _ => rfl, fun _ => rfl, hI.t18, hI.t19, hI.t20, hI.t21, hI.t22, hI.t23, hI.t24, hI.t25, hI.t26, hI.t27, hI.t28, hI.t29, hI.t30, hI.t31, hI.t32, hI.t33, hI.t34, hI.t35, hI.t36, hI.t37, hI.t38, hI.t39, hI.t40, hI.t41, hI.bw⟩⟩
  · rintro LF aF wx ⟨v, rfl, hI⟩ hL hdep hcl K hK
    have e11 := hI.t11 (hdep 11 (by decide))
    rw [e11]
    refine (if_pos rfl).mpr ?_
    go_simp
    exact hK _ _ ⟨(upd (upd v 46 (.bool true)) 53 (.slice a2 n c2)), rfl, ⟨hI.t0, hI.t1, hI.t2, hI.t3, hI.t4, hI.t5, hI.t6, hI.t7, hI.t8, hI.t9, hI.t10, fun _ => rfl, hI.t12, hI.t13, hI.t14, hI.t15, hI.t16, hI.t17, fun _ => rfl, hI.t19, hI.t20, hI.t21, hI.t22, hI.t23, hI.t24, hI.t25, hI.t26, hI.t27, hI.t28, hI.t29, hI.t30, hI.t31, hI.t32, hI.t33, hI.t34, hI.t35, hI.t36, hI.t37, hI.t38, hI.t39, hI.t40, hI.t41, hI.bw⟩⟩
  · rintro LF aF wx ⟨v, rfl, hI⟩ hL hdep hcl K hK
    have e11 := hI.t11 (hdep 11 (by decide))
    rw [e11]
    refine (if_pos rfl).mpr ?_
    go_simp
    exact hK _ _ ⟨(upd (upd v 46 (.bool true)) 54 (.pointer (some ⟨g1, 35, none⟩))), rfl, ⟨hI.t0, hI.t1, hI.t2, hI.t3, hI.t4, hI.t5, hI.t6, hI.t7, hI.t8, hI.t9, hI.t10, fun _ => rfl, hI.t12, hI.t13, hI.t14, hI.t15, hI.t16, hI.t17, hI.t18, fun _ => rfl, hI.t20, hI.t21, hI.t22, hI.t23, hI.t24, hI.t25, hI.t26, hI.t27, hI.t28, hI.t29, hI.t30, hI.t31, hI.t32, hI.t33, hI.t34, hI.t35, hI.t36, hI.t37, hI.t38, hI.t39, hI.t40, hI.t41, hI.bw⟩⟩
  · rintro LF aF wx ⟨v, rfl, hI⟩ hL hdep hcl K hK
    have e19 := hI.t19 (hdep 19 (by decide))
    have e11 := hI.t11 (hdep 11 (by decide))
    rw [e19, e11]
    refine (if_pos rfl).mpr ?_
    refine wp_load_mid 41 _ rfl g1 35 rfl (bvs r) (.array 32 5) (HC.out wx hI.bw).2.2.2.2 Try.underlying41 rfl h32r.out ?_
    exact hK _ _ ⟨(upd (upd (upd v 54 (.pointer (some ⟨g1, 35, none⟩))) 46 (.bool true)) 55 (.agg (bvs r).toArray)), rfl, ⟨hI.t0, hI.t1, hI.t2, hI.t3, hI.t4, hI.t5, hI.t6, hI.t7, hI.t8, hI.t9, hI.t10, fun _ => rfl, hI.t12, hI.t13, hI.t14, hI.t15, hI.t16, hI.t17, hI.t18, fun _ => rfl, fun _ => rfl, hI.t21, hI.t22, hI.t23, hI.t24, hI.t25, hI.t26, hI.t27, hI.t28, hI.t29, hI.t30, hI.t31, hI.t32, hI.t33, hI.t34, hI.t35, hI.t36, hI.t37, hI.t38, hI.t39, hI.t40, hI.t41, hI.bw⟩⟩
  · rintro LF aF wx ⟨v, rfl, hI⟩ hL hdep hcl K hK
    have e13 := hI.t13 (hdep 13 (by decide))
    have e15 := hI.t15 (hdep 15 (by decide))
    have e17 := hI.t17 (hdep 17 (by decide))
    have e18 := hI.t18 (hdep 18 (by decide))
    have e20 := hI.t20 (hdep 20 (by decide))
    have e11 := hI.t11 (hdep 11 (by decide))
    rw [e13, e15, e17, e18, e20, e11]
    refine (if_pos rfl).mpr ?_
    have HCC := hV.out wx _ _ (HO.out wx hI.bw)
    go_simp
    refine HCC.mono ?_
    rintro e w' ⟨rfl, hb⟩
    exact hK _ _ ⟨(upd (upd (upd (upd (upd (upd (upd v 48 (.agg (bvs d).toArray)) 50 (.int .u64 (i : Int))) 52 (.int .u64 (s : Int))) 53 (.slice a2 n c2)) 55 (.agg (bvs r).toArray)) 46 (.bool true)) 56 (.bool V)), rfl, ⟨hI.t0, hI.t1, hI.t2, hI.t3, hI.t4, hI.t5, hI.t6, hI.t7, hI.t8, hI.t9, hI.t10, fun _ => rfl, hI.t12, fun _ => rfl, hI.t14, fun _ => rfl, hI.t16, fun _ => rfl, fun _ => rfl, hI.t19, fun _ => rfl, fun _ => rfl, hI.t22, hI.t23, hI.t24, hI.t25, hI.t26, hI.t27, hI.t28, hI.t29, hI.t30, hI.t31, hI.t32, hI.t33, hI.t34, hI.t35, hI.t36, hI.t37, hI.t38, hI.t39, hI.t40, hI.t41, (hI.bw).trans (hb.mono (hI.bw).size)⟩⟩
  · rintro LF aF wx ⟨v, rfl, hI⟩ hL hdep hcl K hK
    have e11 := hI.t11 (hdep 11 (by decide))
    rw [e11]
    refine (if_pos rfl).mpr ?_
    go_simp
    exact hK _ _ ⟨(upd (upd v 46 (.bool true)) 57 (.pointer (some ⟨g1, 0, none⟩))), rfl, ⟨hI.t0, hI.t1, hI.t2, hI.t3, hI.t4, hI.t5, hI.t6, hI.t7, hI.t8, hI.t9, hI.t10, fun _ => rfl, hI.t12, hI.t13, hI.t14, hI.t15, hI.t16, hI.t17, hI.t18, hI.t19, hI.t20, hI.t21, fun _ => rfl, hI.t23, hI.t24, hI.t25, hI.t26, hI.t27, hI.t28, hI.t29, hI.t30, hI.t31, hI.t32, hI.t33, hI.t34, hI.t35, hI.t36, hI.t37, hI.t38, hI.t39, hI.t40, hI.t41, hI.bw⟩⟩
  · rintro LF aF wx ⟨v, rfl, hI⟩ hL hdep hcl K hK
    have e22 := hI.t22 (hdep 22 (by decide))
    have e11 := hI.t11 (hdep 11 (by decide))
    rw [e22, e11]
    refine (if_pos rfl).mpr ?_
    refine wp_load_mid 41 _ rfl g1 0 rfl (bvs d) (.array 32 5) (HC.out wx hI.bw).2.2.2.1 Try.underlying41 rfl h32d.out ?_
    exact hK _ _ ⟨(upd (upd (upd v 57 (.pointer (some ⟨g1, 0, none⟩))) 46 (.bool true)) 58 (.agg (bvs d).toArray)), rfl, ⟨hI.t0, hI.t1, hI.t2, hI.t3, hI.t4, hI.t5, hI.t6, hI.t7, hI.t8, hI.t9, hI.t10, fun _ => rfl, hI.t12, hI.t13, hI.t14, hI.t15, hI.t16, hI.t17, hI.t18, hI.t19, hI.t20, hI.t21, fun _ => rfl, fun _ => rfl, hI.t24, hI.t25, hI.t26, hI.t27, hI.t28, hI.t29, hI.t30, hI.t31, hI.t32, hI.t33, hI.t34, hI.t35, hI.t36, hI.t37, hI.t38, hI.t39, hI.t40, hI.t41, hI.bw⟩⟩
  · rintro LF aF wx ⟨v, rfl, hI⟩ hL hdep hcl K hK
    have e11 := hI.t11 (hdep 11 (by decide))
    rw [e11]
    refine (if_pos rfl).mpr ?_
    go_simp
    exact hK _ _ ⟨(upd (upd v 46 (.bool true)) 59 (.pointer (some ⟨g1, 32, none⟩))), rfl, ⟨hI.t0, hI.t1, hI.t2, hI.t3, hI.t4, hI.t5, hI.t6, hI.t7, hI.t8, hI.t9, hI.t10, fun _ => rfl, hI.t12, hI.t13, hI.t14, hI.t15, hI.t16, hI.t17, hI.t18, hI.t19, hI.t20, hI.t21, hI.t22, hI.t23, fun _ => rfl, hI.t25, hI.t26, hI.t27, hI.t28, hI.t29, hI.t30, hI.t31, hI.t32, hI.t33, hI.t34, hI.t35, hI.t36, hI.t37, hI.t38, hI.t39, hI.t40, hI.t41, hI.bw⟩⟩
  · rintro LF aF wx ⟨v, rfl, hI⟩ hL hdep hcl K hK
    have e24 := hI.t24 (hdep 24 (by decide))
    have e11 := hI.t11 (hdep 11 (by decide))
    rw [e24, e11]
    refine (if_pos rfl).mpr ?_
    obtain ⟨k1, k2, k3, -, -⟩ := HC.out wx hI.bw
    go_simp
    exact hK _ _ ⟨(upd (upd (upd v 59 (.pointer (some ⟨g1, 32, none⟩))) 46 (.bool true)) 60 (.int .u64 (i : Int))), rfl, ⟨hI.t0, hI.t1, hI.t2, hI.t3, hI.t4, hI.t5, hI.t6, hI.t7, hI.t8, hI.t9, hI.t10, fun _ => rfl, hI.t12, hI.t13, hI.t14, hI.t15, hI.t16, hI.t17, hI.t18, hI.t19, hI.t20, hI.t21, hI.t22, hI.t23, fun _ => rfl, fun _ => rfl, hI.t26, hI.t27, hI.t28, hI.t29, hI.t30, hI.t31, hI.t32, hI.t33, hI.t34, hI.t35, hI.t36, hI.t37, hI.t38, hI.t39, hI.t40, hI.t41, hI.bw⟩⟩
  · rintro LF aF wx ⟨v, rfl, hI⟩ hL hdep hcl K hK
    have e11 := hI.t11 (hdep 11 (by decide))
    rw [e11]
    refine (if_pos rfl).mpr ?_
    go_simp
    exact hK _ _ ⟨(upd (upd v 46 (.bool true)) 61 (.pointer (some ⟨g1, 33, none⟩))), rfl, ⟨hI.t0, hI.t1, hI.t2, hI.t3, hI.t4, hI.t5, hI.t6, hI.t7, hI.t8, hI.t9, hI.t10, fun _ => rfl, hI.t12, hI.t13, hI.t14, hI.t15, hI.t16, hI.t17, hI.t18, hI.t19, hI.t20, hI.t21, hI.t22, hI.t23, hI.t24, hI.t25, fun _ => rfl, hI.t27, hI.t28, hI.t29, hI.t30, hI.t31, hI.t32, hI.t33, hI.t34, hI.t35, hI.t36, hI.t37, hI.t38, hI.t39, hI.t40, hI.t41, hI.bw⟩⟩
  · rintro LF aF wx ⟨v, rfl, hI⟩ hL hdep hcl K hK
    have e26 := hI.t26 (hdep 26 (by decide))
    have e11 := hI.t11 (hdep 11 (by decide))
    rw [e26, e11]
    refine (if_pos rfl).mpr ?_
    obtain ⟨k1, k2, k3, -, -⟩ := HC.out wx hI.bw
    go_simp
    exact hK _ _ ⟨(upd (upd (upd v 61 (.pointer (some ⟨g1, 33, none⟩))) 46 (.bool true)) 62 (.int .u64 (s : Int))), rfl, ⟨hI.t0, hI.t1, hI.t2, hI.t3, hI.t4, hI.t5, hI.t6, hI.t7, hI.t8, hI.t9, hI.t10, fun _ => rfl, hI.t12, hI.t13, hI.t14, hI.t15, hI.t16, hI.t17, hI.t18, hI.t19, hI.t20, hI.t21, hI.t22, hI.t23, hI.t24, hI.t25, fun _ => rfl, fun _ => rfl, hI.t28, hI.t29, hI.t30, hI.t31, hI.t32, hI.t33, hI.t34, hI.t35, hI.t36, hI.t37, hI.t38, hI.t39, hI.t40, hI.t41, hI.bw⟩⟩
  · rintro LF aF wx ⟨v, rfl, hI⟩ hL hdep hcl K hK
    have e11 := hI.t11 (hdep 11 (by decide))
    rw [e11]
    refine (if_pos rfl).mpr ?_
    go_simp
    exact hK _ _ ⟨(upd (upd v 46 (.bool true)) 63 (.pointer (some ⟨g1, 34, none⟩))), rfl, ⟨hI.t0, hI.t1, hI.t2, hI.t3, hI.t4, hI.t5, hI.t6, hI.t7, hI.t8, hI.t9, hI.t10, fun _ => rfl, hI.t12, hI.t13, hI.t14, hI.t15, hI.t16, hI.t17, hI.t18, hI.t19, hI.t20, hI.t21, hI.t22, hI.t23, hI.t24, hI.t25, hI.t26, hI.t27, fun _ => rfl, hI.t29, hI.t30, hI.t31, hI.t32, hI.t33, hI.t34, hI.t35, hI.t36, hI.t37, hI.t38, hI.t39, hI.t40, hI.t41, hI.bw⟩⟩
  · rintro LF aF wx ⟨v, rfl, hI⟩ hL hdep hcl K hK
    have e28 := hI.t28 (hdep 28 (by decide))
    have e11 := hI.t11 (hdep 11 (by decide))
    rw [e28, e11]
    refine (if_pos rfl).mpr ?_
    obtain ⟨k1, k2, k3, -, -⟩ := HC.out wx hI.bw
    go_simp
    exact hK _ _ ⟨(upd (upd (upd v 63 (.pointer (some ⟨g1, 34, none⟩))) 46 (.bool true)) 64 (.slice a n c)), rfl, ⟨hI.t0, hI.t1, hI.t2, hI.t3, hI.t4, hI.t5, hI.t6, hI.t7, hI.t8, hI.t9, hI.t10, fun _ => rfl, hI.t12, hI.t13, hI.t14, hI.t15, hI.t16, hI.t17, hI.t18, hI.t19, hI.t20, hI.t21, hI.t22, hI.t23, hI.t24, hI.t25, hI.t26, hI.t27, fun _ => rfl, fun _ => rfl, hI.t30, hI.t31, hI.t32, hI.t33, hI.t34, hI.t35, hI.t36, hI.t37, hI.t38, hI.t39, hI.t40, hI.t41, hI.bw⟩⟩
  · rintro LF aF wx ⟨v, rfl, hI⟩ hL hdep hcl K hK
    have e11 := hI.t11 (hdep 11 (by decide))
    rw [e11]
    refine (if_pos rfl).mpr ?_
    go_simp
    exact hK _ _ ⟨(upd (upd v 46 (.bool true)) 65 (.pointer (some ⟨g1, 35, none⟩))), rfl, ⟨hI.t0, hI.t1, hI.t2, hI.t3, hI.t4, hI.t5, hI.t6, hI.t7, hI.t8, hI.t9, hI.t10, fun _ => rfl, hI.t12, hI.t13, hI.t14, hI.t15, hI.t16, hI.t17, hI.t18, hI.t19, hI.t20, hI.t21, hI.t22, hI.t23, hI.t24, hI.t25, hI.t26, hI.t27, hI.t28, hI.t29, fun _ => rfl, hI.t31, hI.t32, hI.t33, hI.t34, hI.t35, hI.t36, hI.t37, hI.t38, hI.t39, hI.t40, hI.t41, hI.bw⟩⟩
  · rintro LF aF wx ⟨v, rfl, hI⟩ hL hdep hcl K hK
    have e30 := hI.t30 (hdep 30 (by decide))
    have e11 := hI.t11 (hdep 11 (by decide))
    rw [e30, e11]
    refine (if_pos rfl).mpr ?_
    refine wp_load_mid 41 _ rfl g1 35 rfl (bvs r) (.array 32 5) (HC.out wx hI.bw).2.2.2.2 Try.underlying41 rfl h32r.out ?_
    exact hK _ _ ⟨(upd (upd (upd v 65 (.pointer (some ⟨g1, 35, none⟩))) 46 (.bool true)) 66 (.agg (bvs r).toArray)), rfl, ⟨hI.t0, hI.t1, hI.t2, hI.t3, hI.t4, hI.t5, hI.t6, hI.t7, hI.t8, hI.t9, hI.t10, fun _ => rfl, hI.t12, hI.t13, hI.t14, hI.t15, hI.t16, hI.t17, hI.t18, hI.t19, hI.t20, hI.t21, hI.t22, hI.t23, hI.t24, hI.t25, hI.t26, hI.t27, hI.t28, hI.t29, fun _ => rfl, fun _ => rfl, hI.t32, hI.t33, hI.t34, hI.t35, hI.t36, hI.t37, hI.t38, hI.t39, hI.t40, hI.t41, hI.bw⟩⟩
  · rintro LF aF wx ⟨v, rfl, hI⟩ hL hdep hcl K hK
    have e23 := hI.t23 (hdep 23 (by decide))
    have e25 := hI.t25 (hdep 25 (by decide))
    have e27 := hI.t27 (hdep 27 (by decide))
    have e29 := hI.t29 (hdep 29 (by decide))
    have e31 := hI.t31 (hdep 31 (by decide))
    have e11 := hI.t11 (hdep 11 (by decide))
    rw [e23, e25, e27, e29, e31, e11]
    refine (if_pos rfl).mpr ?_
    have HCC := hRV.out wx _ _ (HP.out wx hI.bw)
    go_simp
    refine HCC.mono ?_
    rintro e w' ⟨rfl, hb⟩
    exact hK _ _ ⟨(upd (upd (upd (upd (upd (upd (upd v 58 (.agg (bvs d).toArray)) 60 (.int .u64 (i : Int))) 62 (.int .u64 (s : Int))) 64 (.slice a n c)) 66 (.agg (bvs r).toArray)) 46 (.bool true)) 67 (.bool V)), rfl, ⟨hI.t0, hI.t1, hI.t2, hI.t3, hI.t4, hI.t5, hI.t6, hI.t7, hI.t8, hI.t9, hI.t10, fun _ => rfl, hI.t12, hI.t13, hI.t14, hI.t15, hI.t16, hI.t17, hI.t18, hI.t19, hI.t20, hI.t21, hI.t22, fun _ => rfl, hI.t24, fun _ => rfl, hI.t26, fun _ => rfl, hI.t28, fun _ => rfl, hI.t30, fun _ => rfl, fun _ => rfl, hI.t33, hI.t34, hI.t35, hI.t36, hI.t37, hI.t38, hI.t39, hI.t40, hI.t41, (hI.bw).trans (hb.mono (hI.bw).size)⟩⟩
  · rintro LF aF wx ⟨v, rfl, hI⟩ hL hdep hcl K hK
    have e21 := hI.t21 (hdep 21 (by decide))
    have e32 := hI.t32 (hdep 32 (by decide))
    have e11 := hI.t11 (hdep 11 (by decide))
    rw [e21, e32, e11]
    refine (if_pos rfl).mpr ?_
    go_simp
    exact hK _ _ ⟨(upd (upd (upd (upd v 56 (.bool V)) 67 (.bool V)) 46 (.bool true)) 68 (.bool true)), rfl, ⟨hI.t0, hI.t1, hI.t2, hI.t3, hI.t4, hI.t5, hI.t6, hI.t7, hI.t8, hI.t9, hI.t10, fun _ => rfl, hI.t12, hI.t13, hI.t14, hI.t15, hI.t16, hI.t17, hI.t18, hI.t19, hI.t20, fun _ => rfl, hI.t22, hI.t23, hI.t24, hI.t25, hI.t26, hI.t27, hI.t28, hI.t29, hI.t30, hI.t31, fun _ => rfl, fun _ => rfl, hI.t34, hI.t35, hI.t36, hI.t37, hI.t38, hI.t39, hI.t40, hI.t41, hI.bw⟩⟩
  · rintro LF aF wx ⟨v, rfl, hI⟩ hL hdep hcl K hK
    have e11 := hI.t11 (hdep 11 (by decide))
    have e33 := hI.t33 (hdep 33 (by decide))
    rw [e11, e33]
    go_simp
    exact hK _ _ ⟨(upd (upd (upd v 46 (.bool true)) 68 (.bool true)) 69 (.bool true)), rfl, ⟨hI.t0, hI.t1, hI.t2, hI.t3, hI.t4, hI.t5, hI.t6, hI.t7, hI.t8, hI.t9, hI.t10, fun _ => rfl, hI.t12, hI.t13, hI.t14, hI.t15, hI.t16, hI.t17, hI.t18, hI.t19, hI.t20, hI.t21, hI.t22, hI.t23, hI.t24, hI.t25, hI.t26, hI.t27, hI.t28, hI.t29, hI.t30, hI.t31, hI.t32, fun _ => rfl, fun _ => rfl, hI.t35, hI.t36, hI.t37, hI.t38, hI.t39, hI.t40, hI.t41, hI.bw⟩⟩
  · rintro LF aF wx ⟨v, rfl, hI⟩ hL hdep hcl K hK
    have e34 := hI.t34 (hdep 34 (by decide))
    rw [e34]
    go_simp
    exact hK _ _ ⟨(upd (upd v 69 (.bool true)) 70 (.bool true)), rfl, ⟨hI.t0, hI.t1, hI.t2, hI.t3, hI.t4, hI.t5, hI.t6, hI.t7, hI.t8, hI.t9, hI.t10, hI.t11, hI.t12, hI.t13, hI.t14, hI.t15, hI.t16, hI.t17, hI.t18, hI.t19, hI.t20, hI.t21, hI.t22, hI.t23, hI.t24, hI.t25, hI.t26, hI.t27, hI.t28, hI.t29, hI.t30, hI.t31, hI.t32, hI.t33, fun _ => rfl, fun _ => rfl, hI.t36, hI.t37, hI.t38, hI.t39, hI.t40, hI.t41, hI.bw⟩⟩
  · rintro LF aF wx ⟨v, rfl, hI⟩ hL hdep hcl K hK
    have e35 := hI.t35 (hdep 35 (by decide))
    rw [e35]
    refine (if_pos rfl).mpr ?_
    go_simp
    exact hK _ _ ⟨(upd (upd v 70 (.bool true)) 71 (.slice a2 n c2)), rfl, ⟨hI.t0, hI.t1, hI.t2, hI.t3, hI.t4, hI.t5, hI.t6, hI.t7, hI.t8, hI.t9, hI.t10, hI.t11, hI.t12, hI.t13, hI.t14, hI.t15, hI.t16, hI.t17, hI.t18, hI.t19, hI.t20, hI.t21, hI.t22, hI.t23, hI.t24, hI.t25, hI.t26, hI.t27, hI.t28, hI.t29, hI.t30, hI.t31, hI.t32, hI.t33, hI.t34, fun _ => rfl, fun _ => rfl, hI.t37, hI.t38, hI.t39, hI.t40, hI.t41, hI.bw⟩⟩
  · rintro LF aF wx ⟨v, rfl, hI⟩ hL hdep hcl K hK
    have e35 := hI.t35 (hdep 35 (by decide))
    rw [e35]
    refine (if_pos rfl).mpr ?_
    go_simp
    exact hK _ _ ⟨(upd (upd v 70 (.bool true)) 72 (.pointer (some ⟨g1, 34, none⟩))), rfl, ⟨hI.t0, hI.t1, hI.t2, hI.t3, hI.t4, hI.t5, hI.t6, hI.t7, hI.t8, hI.t9, hI.t10, hI.t11, hI.t12, hI.t13, hI.t14, hI.t15, hI.t16, hI.t17, hI.t18, hI.t19, hI.t20, hI.t21, hI.t22, hI.t23, hI.t24, hI.t25, hI.t26, hI.t27, hI.t28, hI.t29, hI.t30, hI.t31, hI.t32, hI.t33, hI.t34, fun _ => rfl, hI.t36, fun _ => rfl, hI.t38, hI.t39, hI.t40, hI.t41, hI.bw⟩⟩
  · rintro LF aF wx ⟨v, rfl, hI⟩ hL hdep hcl K hK
    have e37 := hI.t37 (hdep 37 (by decide))
    have e35 := hI.t35 (hdep 35 (by decide))
    rw [e37, e35]
    refine (if_pos rfl).mpr ?_
    obtain ⟨k1, k2, k3, -, -⟩ := HC.out wx hI.bw
    go_simp
    exact hK _ _ ⟨(upd (upd (upd v 72 (.pointer (some ⟨g1, 34, none⟩))) 70 (.bool true)) 73 (.slice a n c)), rfl, ⟨hI.t0, hI.t1, hI.t2, hI.t3, hI.t4, hI.t5, hI.t6, hI.t7, hI.t8, hI.t9, hI.t10, hI.t11, hI.t12, hI.t13, hI.t14, hI.t15, hI.t16, hI.t17, hI.t18, hI.t19, hI.t20, hI.t21, hI.t22, hI.t23, hI.t24, hI.t25, hI.t26, hI.t27, hI.t28, hI.t29, hI.t30, hI.t31, hI.t32, hI.t33, hI.t34, fun _ => rfl, hI.t36, fun _ => rfl, fun _ => rfl, hI.t39, hI.t40, hI.t41, hI.bw⟩⟩
  · rintro LF aF wx ⟨v, rfl, hI⟩ hL hdep hcl K hK
    have e36 := hI.t36 (hdep 36 (by decide))
    have e38 := hI.t38 (hdep 38 (by decide))
    have e35 := hI.t35 (hdep 35 (by decide))
    rw [e36, e38, e35]
    refine (if_pos rfl).mpr ?_
    have HCC := HSL.out wx _ _ _ _ (HO.out wx hI.bw) (HP.out wx hI.bw)
    go_simp
    refine HCC.mono ?_
    rintro e w' ⟨rfl, hb⟩
    exact hK _ _ ⟨(upd (upd (upd (upd v 71 (.slice a2 n c2)) 73 (.slice a n c)) 70 (.bool true)) 74 (.bool true)), rfl, ⟨hI.t0, hI.t1, hI.t2, hI.t3, hI.t4, hI.t5, hI.t6, hI.t7, hI.t8, hI.t9, hI.t10, hI.t11, hI.t12, hI.t13, hI.t14, hI.t15, hI.t16, hI.t17, hI.t18, hI.t19, hI.t20, hI.t21, hI.t22, hI.t23, hI.t24, hI.t25, hI.t26, hI.t27, hI.t28, hI.t29, hI.t30, hI.t31, hI.t32, hI.t33, hI.t34, fun _ => rfl, fun _ => rfl, hI.t37, fun _ => rfl, fun _ => rfl, hI.t40, hI.t41, (hI.bw).trans (hb.mono (hI.bw).size)⟩⟩
  · rintro LF aF wx ⟨v, rfl, hI⟩ hL hdep hcl K hK
    have e35 := hI.t35 (hdep 35 (by decide))
    have e39 := hI.t39 (hdep 39 (by decide))
    rw [e35, e39]
    go_simp
    exact hK _ _ ⟨(upd (upd (upd v 70 (.bool true)) 74 (.bool true)) 75 (.bool true)), rfl, ⟨hI.t0, hI.t1, hI.t2, hI.t3, hI.t4, hI.t5, hI.t6, hI.t7, hI.t8, hI.t9, hI.t10, hI.t11, hI.t12, hI.t13, hI.t14, hI.t15, hI.t16, hI.t17, hI.t18, hI.t19, hI.t20, hI.t21, hI.t22, hI.t23, hI.t24, hI.t25, hI.t26, hI.t27, hI.t28, hI.t29, hI.t30, hI.t31, hI.t32, hI.t33, hI.t34, fun _ => rfl, hI.t36, hI.t37, hI.t38, fun _ => rfl, fun _ => rfl, hI.t41, hI.bw⟩⟩
  · rintro LF aF wx ⟨v, rfl, hI⟩ hL hdep hcl K hK
    have e40 := hI.t40 (hdep 40 (by decide))
    rw [e40]
    go_simp
    exact hK _ _ ⟨(upd (upd v 75 (.bool true)) 2 (.bool true)), rfl, ⟨hI.t0, hI.t1, hI.t2, hI.t3, hI.t4, hI.t5, hI.t6, hI.t7, hI.t8, hI.t9, hI.t10, hI.t11, hI.t12, hI.t13, hI.t14, hI.t15, hI.t16, hI.t17, hI.t18, hI.t19, hI.t20, hI.t21, hI.t22, hI.t23, hI.t24, hI.t25, hI.t26, hI.t27, hI.t28, hI.t29, hI.t30, hI.t31, hI.t32, hI.t33, hI.t34, hI.t35, hI.t36, hI.t37, hI.t38, hI.t39, fun _ => rfl, fun _ => rfl, hI.bw⟩⟩
  · rintro aF wx ⟨vF, rfl, hI⟩
    have e := hI.t41 rfl
    have hbw := hI.bw
    clear hI
    rw [e]
    go_wp2_with fail
    go_ret
    exact ⟨rfl, B08.out.trans (hbw.mono B08.out.size)⟩
end Go.Proofs.Ytbmhobbeimhodaa
