/-
  ConsistChains as a call. Conditions: those in each statement.
-/
import Derived.Test.YtcnnblhjgligbaaCpU
namespace Go.Proofs.Ytcnnblhjgligbaa
open Go.RowKit

structure InvChains (X Y Z : List UInt8) (x y n c c2 c3 c4 p1 p2 p3 : Nat) (ad a2 a3 a4 : Option Addr) (W0 : World) (L : Nat → Bool) (v53 v54 v55 v56 v57 v58 v59 v60 v61 v62 v14 v15 v16 : Value) (wx : World) : Prop where
  t0 : L 0 = true → v53 = .slice ad n c
  t1 : L 1 = true → v54 = .int .u64 ↑x
  t2 : L 2 = true → v55 = .slice ad x c
  t3 : L 3 = true → v56 = .agg (bvs X).toArray
  t4 : L 4 = true → v57 = .slice ad n c
  t5 : L 5 = true → v58 = .int .u64 ↑y
  t6 : L 6 = true → v59 = .slice ad y c
  t7 : L 7 = true → v60 = .agg (bvs Y).toArray
  t8 : L 8 = true → v61 = .slice ad n c
  t9 : L 9 = true → v62 = .agg (bvs Z).toArray
  t10 : L 10 = true → True
  t11 : L 11 = true → True
  t12 : L 12 = true → True
  bw : Below W0.heap.size W0 wx
  p0 : L 10 = true → L 13 = false → PtrIs W0 wx v14 (Z8 32)
  q0 : L 13 = true → PtrIs W0 wx v14 X
  m0 : L 10 = true → LtIs wx v14
  p1 : L 11 = true → L 14 = false → PtrIs W0 wx v15 (Z8 32)
  q1 : L 14 = true → PtrIs W0 wx v15 Y
  m1 : L 11 = true → LtIs wx v15
  p2 : L 12 = true → L 15 = false → PtrIs W0 wx v16 (Z8 32)
  q2 : L 15 = true → PtrIs W0 wx v16 Z
  m2 : L 12 = true → LtIs wx v16
  d01 : L 10 = true → L 11 = true → v14 ≠ v15
  d02 : L 10 = true → L 12 = true → v14 ≠ v16
  d12 : L 11 = true → L 12 = true → v15 ≠ v16
set_option maxRecDepth 100000 in
set_option maxHeartbeats 6400000 in
theorem LChains_any (L : List (List UInt8)) (ad : Option Addr) (n c i i2 : Nat) (w : World) (hr : RdD w ad n c L) :
    Calls Try.prog 8 #[.slice ad n c, .int .u64 (i : Int), .int .u64 (i2 : Int)] w fun e w' => e = .returned (.bool true) ∧ Below w.heap.size w w' := by
  have HW := Lib.hid (fun w => awakeC_any w)
  by_cases h3 : 200 < n
  · have hn3 : (200 : Int) < (n : Int) := by omega
    go_enter Try.func8, Try.ntmps8
    go_wp2_with (go_at_call 12; refine (HW.out _).mono ?_; rintro e w1 ⟨rfl, hb1⟩)
    go_ret
    exact ⟨rfl, hb1⟩
  · have hn4 : (n : Int) ≤ 200 := by omega
    have hz3 : decide ((200 : Int) < (n : Int)) = false := decide_eq_false (by omega)
    have hl := hr.len
    obtain ⟨y, hy⟩ : ∃ y, y = i2 % (n + 1) := ⟨_, rfl⟩
    have hyn : y ≤ n := by have := Nat.mod_lt i2 (show 0 < n + 1 by omega); omega
    obtain ⟨x, hx⟩ : ∃ x, x = i % (y + 1) := ⟨_, rfl⟩
    have hxy : x ≤ y := by have := Nat.mod_lt i (show 0 < y + 1 by omega); omega
    have hyi : Hid ((i2 : Int) % ((n : Int) + 1) = (y : Int)) := by show _ = _; rw [hy]; push_cast; rfl
    have hxi : Hid ((i : Int) % ((y : Int) + 1) = (x : Int)) := by show _ = _; rw [hx]; push_cast; rfl
    have hall := hr.all
    have hle := hr.le
    have hnil := hr.nil
    have lT : (L.take y).length = y := by rw [List.length_take]; omega
    have hX : (rootF (L.take x)).length = 32 := rootF_len (hall.take _)
    have hY : (rootF (L.take y)).length = 32 := rootF_len (hall.take _)
    have hZ : (rootF L).length = 32 := rootF_len hall
    have v1 : vrC x y (rootF (L.take x)) (rootF (L.take y)) (qL (L.take y) x) = true := by
      have := vrC_own (L := L.take y) (m := x) (by omega) (by omega)
      rwa [lT, List.take_take, Nat.min_eq_left hxy] at this
    have v2 : vrC y n (rootF (L.take y)) (rootF L) (qL L y) = true := by
      have := vrC_own (L := L) (m := y) (by omega) (by omega)
      rwa [hl] at this
    have v3 : vrC x n (rootF (L.take x)) (rootF L) (qL L x) = true := by
      have := vrC_own (L := L) (m := x) (by omega) (by omega)
      rwa [hl] at this
    have HRX := Lib.hid (fun wx (hb : Below w.heap.size w wx) => Root_any x (L.take x) (by simp; omega) _ x c wx (by omega) ((hr.to hb).take x (by omega)))
    have HRY := Lib.hid (fun wx (hb : Below w.heap.size w wx) => Root_any y (L.take y) (by simp; omega) _ y c wx (by omega) ((hr.to hb).take y hyn))
    have HRZ := Lib.hid (fun wx (hb : Below w.heap.size w wx) => Root_any n L (by omega) _ n c wx (by omega) (hr.to hb))
    have HP := Lib.hid (fun wx (hb : Below w.heap.size w wx) => ProofC_any (L.take y) x _ y c wx ((hr.to hb).take y hyn) (by omega))
    have HQ := Lib.hid (fun wx (hb : Below w.heap.size w wx) => ProofC_any L y _ n c wx (hr.to hb) (by omega))
    have HR := Lib.hid (fun wx (hb : Below w.heap.size w wx) => ProofC_any L x _ n c wx (hr.to hb) (by omega))
    rw [cE_own (by omega) hxy] at HP
    rw [cE_own (by omega) hyn] at HQ
    rw [cE_own (by omega) (by omega : x ≤ n)] at HR
    have hpl : (qL (L.take y) x).length ≤ 21 := by rw [qL_len]; exact cL_few _ _
    have hql : (qL L y).length ≤ 21 := by rw [qL_len]; exact cL_few _ _
    have hrl : (qL L x).length ≤ 21 := by rw [qL_len]; exact cL_few _ _
    have HV1 := Lib.hid (fun wx a c (h : RdD wx a (qL (L.take y) x).length c (qL (L.take y) x)) => VerifyC_any x y (rootF (L.take x)) (rootF (L.take y)) a _ c (qL (L.take y) x) wx hX hY h (by omega))
    have HV2 := Lib.hid (fun wx a c (h : RdD wx a (qL L y).length c (qL L y)) => VerifyC_any y n (rootF (L.take y)) (rootF L) a _ c (qL L y) wx hY hZ h (by omega))
    have HV3 := Lib.hid (fun wx a c (h : RdD wx a (qL L x).length c (qL L x)) => VerifyC_any x n (rootF (L.take x)) (rootF L) a _ c (qL L x) wx hX hZ h (by omega))
    rw [v1] at HV1
    rw [v2] at HV2
    rw [v3] at HV3
    generalize rootF (L.take x) = X at *
    generalize rootF (L.take y) = Y at *
    generalize rootF L = Z at *
    generalize qL (L.take y) x = P1 at *
    generalize qL L y = P2 at *
    generalize qL L x = P3 at *
    have h32X : Hid ((Try.prog.info? 41).map (·.size) = some (bvs X).length) := by show _ = _; rw [bvs_len, hX]; exact sizeD
    have h32Y : Hid ((Try.prog.info? 41).map (·.size) = some (bvs Y).length) := by show _ = _; rw [bvs_len, hY]; exact sizeD
    have h32Z : Hid ((Try.prog.info? 41).map (·.size) = some (bvs Z).length) := by show _ = _; rw [bvs_len, hZ]; exact sizeD
    have hX32 : Hid ((bvs X).length = 32) := by show _ = _; rw [bvs_len]; exact hX
    have hY32 : Hid ((bvs Y).length = 32) := by show _ = _; rw [bvs_len]; exact hY
    have hZ32 : Hid ((bvs Z).length = 32) := by show _ = _; rw [bvs_len]; exact hZ
    have hy0 : (0 : Int) ≤ (y : Int) := by omega
    have hx0 : (0 : Int) ≤ (x : Int) := by omega
    have hy1 : (y : Int) ≤ 200 := by omega
    have HYN := Lib.hid hyn
    have HXN : Hid (x ≤ n) := by show _ ≤ _; omega
    have HLE := Lib.hid hle
    have HNIL := Lib.hid hnil
    clear v1 v2 v3 hX hY hZ hall hl h3 hle hnil hr lT hpl hql hrl hx hy hxy hyn
    go_enter Try.func8, Try.ntmps8
    go_upto_region 7 with (go_at_call 12; refine (HW.out _).mono ?_; rintro e w1 ⟨rfl, hb1⟩)
    go_simp
    rw [hyi.out]
    go_upto_region 8 with fail
    go_simp
    rw [hxi.out]
    go_upto_region 11 with (first
      | ((with_reducible show wpList _ _ _ (⟨some 36, .slice _ _ _ _ _, _, _, _, _⟩ :: _) _ _); refine wl_takeD rfl ad n c y HYN.out HLE.out HNIL.out _ _ rfl rfl rfl ?_)
      | (go_at_call 14; with_reducible refine (HP.out _ hb1).mono ?_; rintro e w2 ⟨v2, rfl, hO2, hb2⟩; obtain ⟨a2, c2, rfl, hr2⟩ := hO2.rd; have b02 : Below w.heap.size w w2 := hb1.trans (hb2.mono hb1.size))
      | (go_at_call 14; with_reducible refine (HQ.out _ b02).mono ?_; rintro e w3 ⟨v3, rfl, hO3, hb3⟩; obtain ⟨a3, c3, rfl, hr3⟩ := hO3.rd; have b03 : Below w.heap.size w w3 := b02.trans (hb3.mono b02.size))
      | (go_at_call 14; with_reducible refine (HR.out _ b03).mono ?_; rintro e w4 ⟨v4, rfl, hO4, hb4⟩; obtain ⟨a4, c4, rfl, hr4⟩ := hO4.rd; have b04 : Below w.heap.size w w4 := b03.trans (hb4.mono b03.size)))
    have r2 := (hr2.to hb3).to hb4
    have r3 := hr3.to hb4
    have HR1 : Hid (∀ wx, Below w4.heap.size w4 wx → RdD wx a2 P1.length c2 P1) := fun wx hb => r2.to hb
    have HR2 : Hid (∀ wx, Below w4.heap.size w4 wx → RdD wx a3 P2.length c3 P2) := fun wx hb => r3.to hb
    have HR3 : Hid (∀ wx, Below w4.heap.size w4 wx → RdD wx a4 P3.length c4 P3) := fun wx hb => hr4.to hb
    have B04 := Lib.hid b04
    generalize P1.length = p1 at *
    generalize P2.length = p2 at *
    generalize P3.length = p3 at *
    clear hb1 hO2 hr2 hb2 hO3 hr3 hb3 hO4 hr4 hb4 b02 b03 b04 r2 r3 hyi hxi HP HQ HR
    go_simp
    refine wp_region_steps [[], [], [0, 1], [2], [], [], [4, 5], [6], [], [8], [], [], [], [10, 3], [11, 7], [12, 9]] (by kernel_rfl) (by kernel_rfl) (fun L a wx => ∃ v53 v54 v55 v56 v57 v58 v59 v60 v61 v62 v14 v15 v16, a = ⟨#[.slice ad n c, .int .u64 ↑x, .int .u64 ↑y, undef, undef, undef, .bool false, .int .u64 ↑n, .slice a2 p1 c2, .int .i64 0, .slice a3 p2 c3, .int .i64 0, .slice a4 p3 c4, .int .i64 0, v14, v15, v16, .bool true, .bool false, .slice ad n c, .int .i64 ↑n, .bool false, .slice ad n c, .int .i64 ↑n, .int .u64 ↑n, .int .u64 ↑i2, .int .u64 ↑n, .int .u64 (↑n + 1), .int .u64 ↑y, .int .u64 ↑i, .int .u64 ↑y, .int .u64 (↑y + 1), .int .u64 ↑x, .tuple #[.slice a2 p1 c2, .int .i64 0], .slice ad n c, .int .u64 ↑y, .slice ad y c, .int .u64 ↑x, .tuple #[.slice a2 p1 c2, .int .i64 0], .slice a2 p1 c2, .int .i64 0, .tuple #[.slice a3 p2 c3, .int .i64 0], .slice ad n c, .int .u64 ↑y, .tuple #[.slice a3 p2 c3, .int .i64 0], .slice a3 p2 c3, .int .i64 0, .tuple #[.slice a4 p3 c4, .int .i64 0], .slice ad n c, .int .u64 ↑x, .tuple #[.slice a4 p3 c4, .int .i64 0], .slice a4 p3 c4, .int .i64 0, v53, v54, v55, v56, v57, v58, v59, v60, v61, v62, undef, undef, undef, undef, undef, undef, undef, undef, undef, undef, undef, undef, undef, undef, undef, undef, undef, undef, undef, undef, undef, undef, undef, undef, undef, undef, undef, undef, undef, undef, undef, undef, undef, undef], []⟩ ∧ InvChains X Y Z x y n c c2 c3 c4 p1 p2 p3 ad a2 a3 a4 w4 L v53 v54 v55 v56 v57 v58 v59 v60 v61 v62 v14 v15 v16 wx) ?_ ⟨?_, ?_, ?_, ?_, ?_, ?_, ?_, ?_, ?_, ?_, ?_, ?_, ?_, ?_, ?_, ?_, trivial⟩ ?_
    · refine ⟨_, _, _, _, _, _, _, _, _, _, _, _, _, rfl, ⟨?_, ?_, ?_, ?_, ?_, ?_, ?_, ?_, ?_, ?_, ?_, ?_, ?_, (Below.refl _ _).drew, fun h => absurd h (by decide), fun h => absurd h (by decide), fun h => absurd h (by decide), fun h => absurd h (by decide), fun h => absurd h (by decide), fun h => absurd h (by decide), fun h => absurd h (by decide), fun h => absurd h (by decide), fun h => absurd h (by decide), fun h => absurd h (by decide), fun h => absurd h (by decide), fun h => absurd h (by decide)⟩⟩ <;> (intro h; exact absurd h (by decide))
    · rintro L a wx ⟨v53, v54, v55, v56, v57, v58, v59, v60, v61, v62, v14, v15, v16, rfl, hI⟩ hL hdep hcl K hK
      go_simp
      exact hK _ _ ⟨_, v54, v55, v56, v57, v58, v59, v60, v61, v62, v14, v15, v16, rfl, ⟨fun _ => rfl, hI.t1, hI.t2, hI.t3, hI.t4, hI.t5, hI.t6, hI.t7, hI.t8, hI.t9, hI.t10, hI.t11, hI.t12, hI.bw, hI.p0, hI.q0, hI.m0, hI.p1, hI.q1, hI.m1, hI.p2, hI.q2, hI.m2, hI.d01, hI.d02, hI.d12⟩⟩
    · rintro L a wx ⟨v53, v54, v55, v56, v57, v58, v59, v60, v61, v62, v14, v15, v16, rfl, hI⟩ hL hdep hcl K hK
      go_simp
      exact hK _ _ ⟨v53, _, v55, v56, v57, v58, v59, v60, v61, v62, v14, v15, v16, rfl, ⟨hI.t0, fun _ => rfl, hI.t2, hI.t3, hI.t4, hI.t5, hI.t6, hI.t7, hI.t8, hI.t9, hI.t10, hI.t11, hI.t12, hI.bw, hI.p0, hI.q0, hI.m0, hI.p1, hI.q1, hI.m1, hI.p2, hI.q2, hI.m2, hI.d01, hI.d02, hI.d12⟩⟩
    · rintro L a wx ⟨v53, v54, v55, v56, v57, v58, v59, v60, v61, v62, v14, v15, v16, rfl, hI⟩ hL hdep hcl K hK
      obtain rfl := hI.t0 (hdep 0 (by decide))
      obtain rfl := hI.t1 (hdep 1 (by decide))
      refine ow_takeD ad n c x HXN.out HLE.out HNIL.out _ _ rfl rfl rfl ?_
      exact hK _ _ ⟨_, _, _, v56, v57, v58, v59, v60, v61, v62, v14, v15, v16, rfl, ⟨hI.t0, hI.t1, fun _ => rfl, hI.t3, hI.t4, hI.t5, hI.t6, hI.t7, hI.t8, hI.t9, hI.t10, hI.t11, hI.t12, hI.bw, hI.p0, hI.q0, hI.m0, hI.p1, hI.q1, hI.m1, hI.p2, hI.q2, hI.m2, hI.d01, hI.d02, hI.d12⟩⟩
    · rintro L a wx ⟨v53, v54, v55, v56, v57, v58, v59, v60, v61, v62, v14, v15, v16, rfl, hI⟩ hL hdep hcl K hK
      obtain rfl := hI.t2 (hdep 2 (by decide))
      have HCC := HRX.out wx (B04.out.trans (hI.bw.mono B04.out.size))
      go_simp
      refine HCC.mono ?_
      rintro e w' ⟨rfl, hb⟩
      exact hK _ _ ⟨v53, v54, _, _, v57, v58, v59, v60, v61, v62, v14, v15, v16, rfl, ⟨hI.t0, hI.t1, hI.t2, fun _ => rfl, hI.t4, hI.t5, hI.t6, hI.t7, hI.t8, hI.t9, hI.t10, hI.t11, hI.t12, (hI.bw).trans (hb.mono (hI.bw).size), fun h h2 => ((hI.p0) h h2).to hb, fun h => ((hI.q0) h).to hb, fun h => ((hI.m0) h).to hb.size, fun h h2 => ((hI.p1) h h2).to hb, fun h => ((hI.q1) h).to hb, fun h => ((hI.m1) h).to hb.size, fun h h2 => ((hI.p2) h h2).to hb, fun h => ((hI.q2) h).to hb, fun h => ((hI.m2) h).to hb.size, hI.d01, hI.d02, hI.d12⟩⟩
    · rintro L a wx ⟨v53, v54, v55, v56, v57, v58, v59, v60, v61, v62, v14, v15, v16, rfl, hI⟩ hL hdep hcl K hK
      go_simp
      exact hK _ _ ⟨v53, v54, v55, v56, _, v58, v59, v60, v61, v62, v14, v15, v16, rfl, ⟨hI.t0, hI.t1, hI.t2, hI.t3, fun _ => rfl, hI.t5, hI.t6, hI.t7, hI.t8, hI.t9, hI.t10, hI.t11, hI.t12, hI.bw, hI.p0, hI.q0, hI.m0, hI.p1, hI.q1, hI.m1, hI.p2, hI.q2, hI.m2, hI.d01, hI.d02, hI.d12⟩⟩
    · rintro L a wx ⟨v53, v54, v55, v56, v57, v58, v59, v60, v61, v62, v14, v15, v16, rfl, hI⟩ hL hdep hcl K hK
      go_simp
      exact hK _ _ ⟨v53, v54, v55, v56, v57, _, v59, v60, v61, v62, v14, v15, v16, rfl, ⟨hI.t0, hI.t1, hI.t2, hI.t3, hI.t4, fun _ => rfl, hI.t6, hI.t7, hI.t8, hI.t9, hI.t10, hI.t11, hI.t12, hI.bw, hI.p0, hI.q0, hI.m0, hI.p1, hI.q1, hI.m1, hI.p2, hI.q2, hI.m2, hI.d01, hI.d02, hI.d12⟩⟩
    · rintro L a wx ⟨v53, v54, v55, v56, v57, v58, v59, v60, v61, v62, v14, v15, v16, rfl, hI⟩ hL hdep hcl K hK
      obtain rfl := hI.t4 (hdep 4 (by decide))
      obtain rfl := hI.t5 (hdep 5 (by decide))
      refine ow_takeD ad n c y HYN.out HLE.out HNIL.out _ _ rfl rfl rfl ?_
      exact hK _ _ ⟨v53, v54, v55, v56, _, _, _, v60, v61, v62, v14, v15, v16, rfl, ⟨hI.t0, hI.t1, hI.t2, hI.t3, hI.t4, hI.t5, fun _ => rfl, hI.t7, hI.t8, hI.t9, hI.t10, hI.t11, hI.t12, hI.bw, hI.p0, hI.q0, hI.m0, hI.p1, hI.q1, hI.m1, hI.p2, hI.q2, hI.m2, hI.d01, hI.d02, hI.d12⟩⟩
    · rintro L a wx ⟨v53, v54, v55, v56, v57, v58, v59, v60, v61, v62, v14, v15, v16, rfl, hI⟩ hL hdep hcl K hK
      obtain rfl := hI.t6 (hdep 6 (by decide))
      have HCC := HRY.out wx (B04.out.trans (hI.bw.mono B04.out.size))
      go_simp
      refine HCC.mono ?_
      rintro e w' ⟨rfl, hb⟩
      exact hK _ _ ⟨v53, v54, v55, v56, v57, v58, _, _, v61, v62, v14, v15, v16, rfl, ⟨hI.t0, hI.t1, hI.t2, hI.t3, hI.t4, hI.t5, hI.t6, fun _ => rfl, hI.t8, hI.t9, hI.t10, hI.t11, hI.t12, (hI.bw).trans (hb.mono (hI.bw).size), fun h h2 => ((hI.p0) h h2).to hb, fun h => ((hI.q0) h).to hb, fun h => ((hI.m0) h).to hb.size, fun h h2 => ((hI.p1) h h2).to hb, fun h => ((hI.q1) h).to hb, fun h => ((hI.m1) h).to hb.size, fun h h2 => ((hI.p2) h h2).to hb, fun h => ((hI.q2) h).to hb, fun h => ((hI.m2) h).to hb.size, hI.d01, hI.d02, hI.d12⟩⟩
    · rintro L a wx ⟨v53, v54, v55, v56, v57, v58, v59, v60, v61, v62, v14, v15, v16, rfl, hI⟩ hL hdep hcl K hK
      go_simp
      exact hK _ _ ⟨v53, v54, v55, v56, v57, v58, v59, v60, _, v62, v14, v15, v16, rfl, ⟨hI.t0, hI.t1, hI.t2, hI.t3, hI.t4, hI.t5, hI.t6, hI.t7, fun _ => rfl, hI.t9, hI.t10, hI.t11, hI.t12, hI.bw, hI.p0, hI.q0, hI.m0, hI.p1, hI.q1, hI.m1, hI.p2, hI.q2, hI.m2, hI.d01, hI.d02, hI.d12⟩⟩
    · rintro L a wx ⟨v53, v54, v55, v56, v57, v58, v59, v60, v61, v62, v14, v15, v16, rfl, hI⟩ hL hdep hcl K hK
      obtain rfl := hI.t8 (hdep 8 (by decide))
      have HCC := HRZ.out wx (B04.out.trans (hI.bw.mono B04.out.size))
      go_simp
      refine HCC.mono ?_
      rintro e w' ⟨rfl, hb⟩
      exact hK _ _ ⟨v53, v54, v55, v56, v57, v58, v59, v60, _, _, v14, v15, v16, rfl, ⟨hI.t0, hI.t1, hI.t2, hI.t3, hI.t4, hI.t5, hI.t6, hI.t7, hI.t8, fun _ => rfl, hI.t10, hI.t11, hI.t12, (hI.bw).trans (hb.mono (hI.bw).size), fun h h2 => ((hI.p0) h h2).to hb, fun h => ((hI.q0) h).to hb, fun h => ((hI.m0) h).to hb.size, fun h h2 => ((hI.p1) h h2).to hb, fun h => ((hI.q1) h).to hb, fun h => ((hI.m1) h).to hb.size, fun h h2 => ((hI.p2) h h2).to hb, fun h => ((hI.q2) h).to hb, fun h => ((hI.m2) h).to hb.size, hI.d01, hI.d02, hI.d12⟩⟩
    · rintro L a wx ⟨v53, v54, v55, v56, v57, v58, v59, v60, v61, v62, v14, v15, v16, rfl, hI⟩ hL hdep hcl K hK
      refine ow_alloc 41 rfl (bvs (Z8 32)) 32 infoD ?_
      intro w' hA' hb hs'
      exact hK _ _ ⟨v53, v54, v55, v56, v57, v58, v59, v60, v61, v62, _, v15, v16, rfl, ⟨hI.t0, hI.t1, hI.t2, hI.t3, hI.t4, hI.t5, hI.t6, hI.t7, hI.t8, hI.t9, fun _ => trivial, hI.t11, hI.t12, (hI.bw).trans (hb.mono (hI.bw).size), fun _ _ => ⟨_, rfl, hI.bw.size, hA'⟩, fun h => (by have h4 := hcl 13 (by decide) h 10 (by decide); rw [hL] at h4; cases h4), fun _ => ⟨_, rfl, hs'⟩, fun h h2 => ((hI.p1) h h2).to hb, fun h => ((hI.q1) h).to hb, fun h => ((hI.m1) h).to hb.size, fun h h2 => ((hI.p2) h h2).to hb, fun h => ((hI.q2) h).to hb, fun h => ((hI.m2) h).to hb.size, fun _ h => (hI.m1 h).ne, fun _ h => (hI.m2 h).ne, hI.d12⟩⟩
    · rintro L a wx ⟨v53, v54, v55, v56, v57, v58, v59, v60, v61, v62, v14, v15, v16, rfl, hI⟩ hL hdep hcl K hK
      refine ow_alloc 41 rfl (bvs (Z8 32)) 32 infoD ?_
      intro w' hA' hb hs'
      exact hK _ _ ⟨v53, v54, v55, v56, v57, v58, v59, v60, v61, v62, v14, _, v16, rfl, ⟨hI.t0, hI.t1, hI.t2, hI.t3, hI.t4, hI.t5, hI.t6, hI.t7, hI.t8, hI.t9, hI.t10, fun _ => trivial, hI.t12, (hI.bw).trans (hb.mono (hI.bw).size), fun h h2 => ((hI.p0) h h2).to hb, fun h => ((hI.q0) h).to hb, fun h => ((hI.m0) h).to hb.size, fun _ _ => ⟨_, rfl, hI.bw.size, hA'⟩, fun h => (by have h4 := hcl 14 (by decide) h 11 (by decide); rw [hL] at h4; cases h4), fun _ => ⟨_, rfl, hs'⟩, fun h h2 => ((hI.p2) h h2).to hb, fun h => ((hI.q2) h).to hb, fun h => ((hI.m2) h).to hb.size, fun h _ => (hI.m0 h).ne.symm, hI.d02, fun _ h => (hI.m2 h).ne⟩⟩
    · rintro L a wx ⟨v53, v54, v55, v56, v57, v58, v59, v60, v61, v62, v14, v15, v16, rfl, hI⟩ hL hdep hcl K hK
      refine ow_alloc 41 rfl (bvs (Z8 32)) 32 infoD ?_
      intro w' hA' hb hs'
      exact hK _ _ ⟨v53, v54, v55, v56, v57, v58, v59, v60, v61, v62, v14, v15, _, rfl, ⟨hI.t0, hI.t1, hI.t2, hI.t3, hI.t4, hI.t5, hI.t6, hI.t7, hI.t8, hI.t9, hI.t10, hI.t11, fun _ => trivial, (hI.bw).trans (hb.mono (hI.bw).size), fun h h2 => ((hI.p0) h h2).to hb, fun h => ((hI.q0) h).to hb, fun h => ((hI.m0) h).to hb.size, fun h h2 => ((hI.p1) h h2).to hb, fun h => ((hI.q1) h).to hb, fun h => ((hI.m1) h).to hb.size, fun _ _ => ⟨_, rfl, hI.bw.size, hA'⟩, fun h => (by have h4 := hcl 15 (by decide) h 12 (by decide); rw [hL] at h4; cases h4), fun _ => ⟨_, rfl, hs'⟩, hI.d01, fun h _ => (hI.m0 h).ne.symm, fun h _ => (hI.m1 h).ne.symm⟩⟩
    · rintro L a wx ⟨v53, v54, v55, v56, v57, v58, v59, v60, v61, v62, v14, v15, v16, rfl, hI⟩ hL hdep hcl K hK
      obtain rfl := hI.t3 (hdep 3 (by decide))
      obtain ⟨g, rfl, hge, hA⟩ := hI.p0 (hdep 10 (by decide)) hL
      refine ow_store 41 _ _ rfl g 0 rfl (bvs X) rfl 41 _ hA h32X.out (by rw [hX32.out]; exact (by decide : 0 + 32 ≤ (bvs (Z8 32)).length)) (bvs_one _) ?_
      intro w' hA' hg' hs'
      rw [whole_store _ _ (by rw [hX32.out]; rfl)] at hA'
      exact hK _ _ ⟨v53, v54, v55, _, v57, v58, v59, v60, v61, v62, _, v15, v16, rfl, ⟨hI.t0, hI.t1, hI.t2, hI.t3, hI.t4, hI.t5, hI.t6, hI.t7, hI.t8, hI.t9, hI.t10, hI.t11, hI.t12, hI.bw.grown hg' hI.bw.size (by intro k e; injection e with e; omega), fun _ h => (nomatch (show true = false from h)), fun _ => ⟨_, rfl, hge, hA'⟩, fun h => (hI.m0 h).to hg'.size, fun h h2 => (hI.p1 h h2).grown hg' (fun e => hI.d01 (hdep 10 (by decide)) h e.symm), fun h => (hI.q1 h).grown hg' (fun e => hI.d01 (hdep 10 (by decide)) (hcl 14 (by decide) h 11 (by decide)) e.symm), fun h => (hI.m1 h).to hg'.size, fun h h2 => (hI.p2 h h2).grown hg' (fun e => hI.d02 (hdep 10 (by decide)) h e.symm), fun h => (hI.q2 h).grown hg' (fun e => hI.d02 (hdep 10 (by decide)) (hcl 15 (by decide) h 12 (by decide)) e.symm), fun h => (hI.m2 h).to hg'.size, hI.d01, hI.d02, hI.d12⟩⟩
    · rintro L a wx ⟨v53, v54, v55, v56, v57, v58, v59, v60, v61, v62, v14, v15, v16, rfl, hI⟩ hL hdep hcl K hK
      obtain rfl := hI.t7 (hdep 7 (by decide))
      obtain ⟨g, rfl, hge, hA⟩ := hI.p1 (hdep 11 (by decide)) hL
      refine ow_store 41 _ _ rfl g 0 rfl (bvs Y) rfl 41 _ hA h32Y.out (by rw [hY32.out]; exact (by decide : 0 + 32 ≤ (bvs (Z8 32)).length)) (bvs_one _) ?_
      intro w' hA' hg' hs'
      rw [whole_store _ _ (by rw [hY32.out]; rfl)] at hA'
      exact hK _ _ ⟨v53, v54, v55, v56, v57, v58, v59, _, v61, v62, v14, _, v16, rfl, ⟨hI.t0, hI.t1, hI.t2, hI.t3, hI.t4, hI.t5, hI.t6, hI.t7, hI.t8, hI.t9, hI.t10, hI.t11, hI.t12, hI.bw.grown hg' hI.bw.size (by intro k e; injection e with e; omega), fun h h2 => (hI.p0 h h2).grown hg' (hI.d01 h (hdep 11 (by decide))), fun h => (hI.q0 h).grown hg' (hI.d01 (hcl 13 (by decide) h 10 (by decide)) (hdep 11 (by decide))), fun h => (hI.m0 h).to hg'.size, fun _ h => (nomatch (show true = false from h)), fun _ => ⟨_, rfl, hge, hA'⟩, fun h => (hI.m1 h).to hg'.size, fun h h2 => (hI.p2 h h2).grown hg' (fun e => hI.d12 (hdep 11 (by decide)) h e.symm), fun h => (hI.q2 h).grown hg' (fun e => hI.d12 (hdep 11 (by decide)) (hcl 15 (by decide) h 12 (by decide)) e.symm), fun h => (hI.m2 h).to hg'.size, hI.d01, hI.d02, hI.d12⟩⟩
    · rintro L a wx ⟨v53, v54, v55, v56, v57, v58, v59, v60, v61, v62, v14, v15, v16, rfl, hI⟩ hL hdep hcl K hK
      obtain rfl := hI.t9 (hdep 9 (by decide))
      obtain ⟨g, rfl, hge, hA⟩ := hI.p2 (hdep 12 (by decide)) hL
      refine ow_store 41 _ _ rfl g 0 rfl (bvs Z) rfl 41 _ hA h32Z.out (by rw [hZ32.out]; exact (by decide : 0 + 32 ≤ (bvs (Z8 32)).length)) (bvs_one _) ?_
      intro w' hA' hg' hs'
      rw [whole_store _ _ (by rw [hZ32.out]; rfl)] at hA'
      exact hK _ _ ⟨v53, v54, v55, v56, v57, v58, v59, v60, v61, _, v14, v15, _, rfl, ⟨hI.t0, hI.t1, hI.t2, hI.t3, hI.t4, hI.t5, hI.t6, hI.t7, hI.t8, hI.t9, hI.t10, hI.t11, hI.t12, hI.bw.grown hg' hI.bw.size (by intro k e; injection e with e; omega), fun h h2 => (hI.p0 h h2).grown hg' (hI.d02 h (hdep 12 (by decide))), fun h => (hI.q0 h).grown hg' (hI.d02 (hcl 13 (by decide) h 10 (by decide)) (hdep 12 (by decide))), fun h => (hI.m0 h).to hg'.size, fun h h2 => (hI.p1 h h2).grown hg' (hI.d12 h (hdep 12 (by decide))), fun h => (hI.q1 h).grown hg' (hI.d12 (hcl 14 (by decide) h 11 (by decide)) (hdep 12 (by decide))), fun h => (hI.m1 h).to hg'.size, fun _ h => (nomatch (show true = false from h)), fun _ => ⟨_, rfl, hge, hA'⟩, fun h => (hI.m2 h).to hg'.size, hI.d01, hI.d02, hI.d12⟩⟩
    · rintro a wx ⟨v53, v54, v55, v56, v57, v58, v59, v60, v61, v62, v14, v15, v16, rfl, hI⟩
      obtain ⟨g14, rfl, -, A14⟩ := hI.q0 rfl
      obtain ⟨g15, rfl, -, A15⟩ := hI.q1 rfl
      obtain ⟨g16, rfl, -, A16⟩ := hI.q2 rfl
      have hbw := hI.bw
      clear hI
      rename World => w9
      have B09 := Lib.hid (B04.out.trans (hbw.mono B04.out.size))
      have r1 := HR1.out w9 hbw
      have r2 := HR2.out w9 hbw
      have r3 := HR3.out w9 hbw
      go_wp2_with (first
        | ((with_reducible show wpList _ _ _ (⟨some 76, .load _ _, _, _, _, _⟩ :: _) _ _); refine wl_loadG rfl 41 _ rfl g14 0 rfl 41 (bvs X) (bvs X) A14 (fun j v h => (by rw [Nat.zero_add]; exact h)) (.array 32 5) Try.underlying41 rfl h32X.out ?_)
        | ((with_reducible show wpList _ _ _ (⟨some 77, .load _ _, _, _, _, _⟩ :: _) _ _); refine wl_loadG rfl 41 _ rfl g15 0 rfl 41 (bvs Y) (bvs Y) A15 (fun j v h => (by rw [Nat.zero_add]; exact h)) (.array 32 5) Try.underlying41 rfl h32Y.out ?_)
        | ((with_reducible show wpList _ _ _ (⟨some 84, .load _ _, _, _, _, _⟩ :: _) _ _); refine wl_loadG rfl 41 _ rfl g15 0 rfl 41 (bvs Y) (bvs Y) A15b (fun j v h => (by rw [Nat.zero_add]; exact h)) (.array 32 5) Try.underlying41 rfl h32Y.out ?_)
        | ((with_reducible show wpList _ _ _ (⟨some 85, .load _ _, _, _, _, _⟩ :: _) _ _); refine wl_loadG rfl 41 _ rfl g16 0 rfl 41 (bvs Z) (bvs Z) A16b (fun j v h => (by rw [Nat.zero_add]; exact h)) (.array 32 5) Try.underlying41 rfl h32Z.out ?_)
        | ((with_reducible show wpList _ _ _ (⟨some 92, .load _ _, _, _, _, _⟩ :: _) _ _); refine wl_loadG rfl 41 _ rfl g14 0 rfl 41 (bvs X) (bvs X) A14c (fun j v h => (by rw [Nat.zero_add]; exact h)) (.array 32 5) Try.underlying41 rfl h32X.out ?_)
        | ((with_reducible show wpList _ _ _ (⟨some 93, .load _ _, _, _, _, _⟩ :: _) _ _); refine wl_loadG rfl 41 _ rfl g16 0 rfl 41 (bvs Z) (bvs Z) A16c (fun j v h => (by rw [Nat.zero_add]; exact h)) (.array 32 5) Try.underlying41 rfl h32Z.out ?_)
        | (go_at_call 19; with_reducible refine (HV1.out _ _ _ r1).mono ?_; rintro e w10 ⟨rfl, hb10⟩; have A15b := A15.kept hb10; have A16b := A16.kept hb10; have A14b := A14.kept hb10; have r2b := r2.to hb10; have r3b := r3.to hb10)
        | (go_at_call 19; with_reducible refine (HV2.out _ _ _ r2b).mono ?_; rintro e w11 ⟨rfl, hb11⟩; have A16c := A16b.kept hb11; have A14c := A14b.kept hb11; have r3c := r3b.to hb11)
        | (go_at_call 19; with_reducible refine (HV3.out _ _ _ r3c).mono ?_; rintro e w12 ⟨rfl, hb12⟩))
      go_ret
      have k0 := B09.out
      have z9 := k0.size
      have z10 := hb10.size
      have z11 := hb11.size
      exact ⟨rfl, k0.trans ((hb10.mono z9).trans ((hb11.mono (by omega)).trans (hb12.mono (by omega))))⟩
end Go.Proofs.Ytcnnblhjgligbaa
