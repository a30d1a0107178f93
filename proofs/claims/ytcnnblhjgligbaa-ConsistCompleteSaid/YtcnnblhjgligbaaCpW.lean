/-
  ConsistComplete as a call. Conditions: those in each statement.
-/
import Derived.Test.YtcnnblhjgligbaaCpU
namespace Go.Proofs.Ytcnnblhjgligbaa
open Go.RowKit

structure InvComp12Z (O A : List UInt8) (j n q c c8 c12 g6 g7 pb po : Nat) (a8 a12 ad : Option Addr) (W0 : World) (L : Nat → Bool) (v : Nat → Value) (wx : World) : Prop where
  t0 : L 0 = true → (v 60) = .int .u64 ↑j
  t1 : L 1 = true → (v 61) = .int .u64 ↑n
  t2 : L 2 = true → (v 62) = .agg (bvs O).toArray
  t3 : L 3 = true → (v 63) = .agg (bvs A).toArray
  t4 : L 4 = true → (v 64) = .slice a12 (q + 1) c12
  t5 : L 5 = true → (v 65) = .bool false
  t6 : L 6 = true → (v 66) = .bool false
  t7 : L 7 = true → (v 67) = .slice a8 q c8
  t8 : L 8 = true → (v 68) = .int .i64 (q : Int)
  t9 : L 9 = true → (v 69) = .bool false
  t10 : L 10 = true → (v 70) = .bool false
  t11 : L 11 = true → (v 71) = (v 71)
  t12 : L 12 = true → (v 72) = (v 72)
  t13 : L 13 = true → (v 73) = (v 73)
  t14 : L 14 = true → (v 74) = (v 74)
  t15 : L 15 = true → (v 75) = (v 75)
  t16 : L 16 = true → (v 76) = (v 76)
  t17 : L 17 = true → (v 77) = (v 77)
  t18 : L 18 = true → (v 78) = .bool false
  t19 : L 19 = true → (v 79) = .bool false
  bw : Below W0.heap.size W0 wx
structure InvComp12P (O A : List UInt8) (j n q c c8 c12 g6 g7 pb po : Nat) (a8 a12 ad : Option Addr) (W0 : World) (L : Nat → Bool) (v : Nat → Value) (wx : World) : Prop where
  t0 : L 0 = true → (v 60) = .int .u64 ↑j
  t1 : L 1 = true → (v 61) = .int .u64 ↑n
  t2 : L 2 = true → (v 62) = .agg (bvs O).toArray
  t3 : L 3 = true → (v 63) = .agg (bvs A).toArray
  t4 : L 4 = true → (v 64) = .slice a12 (q + 1) c12
  t5 : L 5 = true → (v 65) = .bool false
  t6 : L 6 = true → (v 66) = .bool false
  t7 : L 7 = true → (v 67) = .slice (some ⟨pb, po, none⟩) q c8
  t8 : L 8 = true → (v 68) = .int .i64 (q : Int)
  t9 : L 9 = true → (v 69) = .bool true
  t10 : L 10 = true → (v 70) = .bool true
  t11 : L 11 = true → (v 71) = .int .u64 ↑j
  t12 : L 12 = true → (v 72) = .int .u64 ↑n
  t13 : L 13 = true → (v 73) = .agg (bvs O).toArray
  t14 : L 14 = true → (v 74) = .agg (bvs A).toArray
  t15 : L 15 = true → (v 75) = .slice (some ⟨pb, po, none⟩) q c8
  t16 : L 16 = true → (v 76) = .slice (some ⟨pb, if c8 = 1 then po else po + 32, none⟩) (q - 1) (c8 - 1)
  t17 : L 17 = true → (v 77) = .bool false
  t18 : L 18 = true → (v 78) = .bool false
  t19 : L 19 = true → (v 79) = .bool false
  bw : Below W0.heap.size W0 wx
set_option maxRecDepth 100000 in
set_option maxHeartbeats 6400000 in
theorem LComplete_any (L : List (List UInt8)) (ad : Option Addr) (n c i : Nat) (w : World) (hr : RdD w ad n c L) :
    Calls Try.prog 6 #[.slice ad n c, .int .u64 (i : Int)] w fun e w' => e = .returned (.bool true) ∧ Below w.heap.size w w' := by
  have HW := Lib.hid (fun w => awakeC_any w)
  by_cases h3 : 300 < n
  · have hn3 : (300 : Int) < (n : Int) := by omega
    go_enter Try.func6, Try.ntmps6
    go_wp2_with (go_at_call 12; refine (HW.out _).mono ?_; rintro e w1 ⟨rfl, hb1⟩)
    go_ret
    exact ⟨rfl, hb1⟩
  · have hn4 : (n : Int) ≤ 300 := by omega
    have hz3 : decide ((300 : Int) < (n : Int)) = false := decide_eq_false (by omega)
    have hl := hr.len
    obtain ⟨j, hj⟩ : ∃ j, j = i % (n + 1) := ⟨_, rfl⟩
    have hjn : j ≤ n := by have := Nat.mod_lt i (show 0 < n + 1 by omega); omega
    have hji : Hid ((i : Int) % ((n : Int) + 1) = (j : Int)) := by show _ = _; rw [hj]; push_cast; rfl
    have hall := hr.all
    have hle := hr.le
    have hnil := hr.nil
    have lA : (rootF L).length = 32 := rootF_len hall
    have lO : (rootF (L.take j)).length = 32 := rootF_len (hall.take _)
    have hpa := qL_all hall j
    have hq21 : (qL L j).length ≤ 21 := by rw [qL_len]; exact cL_few _ _
    have hcl : (qL L j).length = (cL j n).length := by rw [qL_len, hl]
    have v1 : vrC j n (rootF (L.take j)) (rootF L) (qL L j) = true := by
      have := vrC_own (L := L) (m := j) (by omega) (by omega)
      rwa [hl] at this
    have v2 : vrC j n (rootF (L.take j)) (rootF L) (qL L j ++ [Z8 32]) = false := vrC_no (by rw [List.length_append, hcl]; simp)
    have v3 : 1 ≤ (qL L j).length → vrC j n (rootF (L.take j)) (rootF L) ((qL L j).drop 1) = false := fun h1 => vrC_no (by rw [List.length_drop]; omega)
    have e1 : cE j n = 0 := cE_own (by omega) hjn
    have e2 : 1 ≤ j → tdE j n (qL L j).length = 0 := fun h1 => by
      have := tdE_own (L := L) (m := j) (by omega) h1 (by omega)
      rwa [hl] at this
    have e3 : 1 ≤ j → tdV j n (rootF (L.take j)) (qL L j) = (rootF (L.take j), rootF L) := fun h1 => by
      have := tdV_own (L := L) (m := j) (by omega) h1 (by omega)
      rwa [hl] at this
    have e4 : j = 0 → (qL L j).length = 0 := fun h => by rw [hcl, h, cL_zero]; rfl
    have HRT := Lib.hid (fun wx (hb : Below w.heap.size w wx) => Root_any n L (by omega) _ n c wx (by omega) (hr.to hb))
    have HRO := Lib.hid (fun wx (hb : Below w.heap.size w wx) => Root_any j (L.take j) (by simp; omega) _ j c wx (by omega) ((hr.to hb).take j hjn))
    have HPA := Lib.hid (fun wx (hb : Below w.heap.size w wx) => ProofC_any L j _ n c wx (hr.to hb) (by omega))
    obtain ⟨q, hq⟩ : ∃ q, q = (qL L j).length := ⟨_, rfl⟩
    rw [← hq] at hq21 v3 e2 e4
    have HHD := Lib.hid (fun (h1 : 1 ≤ j) wx a c (h : RdD wx a q c (qL L j)) => by
      have h2 := HeadsC_any j n (rootF (L.take j)) a q c (qL L j) wx lO h (by omega)
      rwa [e3 h1, e2 h1] at h2)
    have HV1 := Lib.hid (fun wx a c (h : RdD wx a q c (qL L j)) => VerifyC_any j n (rootF (L.take j)) (rootF L) a q c (qL L j) wx lO lA h (by omega))
    have HV2 := Lib.hid (fun wx a c (h : RdD wx a (q + 1) c (qL L j ++ [Z8 32])) => VerifyC_any j n (rootF (L.take j)) (rootF L) a (q + 1) c (qL L j ++ [Z8 32]) wx lO lA h (by omega))
    have HV3 := Lib.hid (fun (h1 : 1 ≤ q) wx a c (h : RdD wx a (q - 1) c ((qL L j).drop 1)) => by
      have h2 := VerifyC_any j n (rootF (L.take j)) (rootF L) a (q - 1) c ((qL L j).drop 1) wx lO lA h (by omega)
      rwa [v3 h1] at h2)
    rw [v1] at HV1
    rw [v2] at HV2
    rw [e1] at HPA
    generalize rootF (L.take j) = O at *
    generalize rootF L = A at *
    generalize qL L j = P at *
    have HQ := Lib.hid hq
    have LA := Lib.hid lA
    have LO := Lib.hid lO
    have IA : Hid ((Try.prog.info? 41).map (·.size) = some (bvs A).length) := by show _ = _; rw [bvs_len, lA]; exact sizeD
    have IO : Hid ((Try.prog.info? 41).map (·.size) = some (bvs O).length) := by show _ = _; rw [bvs_len, lO]; exact sizeD
    have A32 : Hid ((bvs A).length = 32) := by show _ = _; rw [bvs_len]; exact lA
    have O32 : Hid ((bvs O).length = 32) := by show _ = _; rw [bvs_len]; exact lO
    have Z32 : Hid ((Z8 32).length = 32) := by show _ = _; simp [Z8]
    have hq2 : (q : Int) ≤ 21 := by omega
    have hqn : decide ((21 : Int) < (q : Int)) = false := decide_eq_false (by omega)
    have hj0 : (0 : Int) ≤ (j : Int) := by omega
    have hj1 : (j : Int) ≤ (n : Int) := by omega
    have HQ21 := Lib.hid hq21
    have HJN := Lib.hid hjn
    have HLE := Lib.hid hle
    have HNIL := Lib.hid hnil
    have HE4 := Lib.hid e4
    clear v1 v2 v3 e1 e2 e3 e4 lA lO hq hpa hcl hall hj hjn hl h3 hq21 hle hnil hr
    go_enter Try.func6, Try.ntmps6
    go_upto_region 7 with (go_at_call 12; refine (HW.out _).mono ?_; rintro e w1 ⟨rfl, hb1⟩)
    go_simp
    rw [hji.out]
    go_upto_region 9 with (first
      | ((with_reducible show wpList _ _ _ (⟨some 28, .slice _ _ _ _ _, _, _, _, _⟩ :: _) _ _); refine wl_takeD rfl ad n c j HJN.out HLE.out HNIL.out _ _ rfl rfl rfl ?_)
      | (go_at_call 21; with_reducible refine (HRO.out _ hb1).mono ?_; rintro e w2 ⟨rfl, hb2⟩; have b02 : Below w.heap.size w w2 := hb1.trans (hb2.mono hb1.size))
      | (go_at_call 21; with_reducible refine (HRT.out _ b02).mono ?_; rintro e w3 ⟨rfl, hb3⟩)
      | ((with_reducible show wpList _ _ _ (⟨some 6, .alloc _, _, _, _, _⟩ :: _) _ _); refine wl_alloc rfl 41 rfl (bvs (Z8 32)) 32 infoD ?_; intro w4 hA4 hb4 hs4)
      | ((with_reducible show wpList _ _ _ (⟨some 7, .alloc _, _, _, _, _⟩ :: _) _ _); refine wl_alloc rfl 41 rfl (bvs (Z8 32)) 32 infoD ?_; intro w5 hA5 hb5 hs5)
      | ((with_reducible show wpList _ _ _ (⟨none, .store _ (.tmp 6) _, _, _, _, _⟩ :: _) _ _); refine wl_store rfl 41 _ _ rfl w3.heap.size 0 rfl (bvs O) rfl 41 _ (hA4.kept hb5) IO.out (by rw [O32.out]; exact (by decide : 0 + 32 ≤ (bvs (Z8 32)).length)) (bvs_one _) ?_; intro w6 hA6 hg6 hs6; rw [whole_store _ _ (by rw [O32.out]; rfl)] at hA6)
      | ((with_reducible show wpList _ _ _ (⟨none, .store _ (.tmp 7) _, _, _, _, _⟩ :: _) _ _); refine wl_store rfl 41 _ _ rfl w4.heap.size 0 rfl (bvs A) rfl 41 _ (hA5.grown hg6 (by intro e; injection e with e; have := hA4.lt; omega)) IA.out (by rw [A32.out]; exact (by decide : 0 + 32 ≤ (bvs (Z8 32)).length)) (bvs_one _) ?_; intro w7 hA7 hg7 hs7; rw [whole_store _ _ (by rw [A32.out]; rfl)] at hA7; have b37 : Below w3.heap.size w3 w7 := ((hb4.trans (hb5.mono hb4.size)).grown hg6 (by have := hb4.size; have := hb5.size; omega) (by intro k e; injection e with e; omega)).grown hg7 (by have := hb4.size; have := hb5.size; omega) (by intro k e; injection e with e; have := hb4.size; omega); have b07 : Below w.heap.size w w7 := (b02.trans (hb3.mono b02.size)).trans (b37.mono (by have := b02.size; have := hb3.size; omega)))
      | (go_at_call 14; refine (HPA.out _ b07).mono ?_; rintro e w8 ⟨v8, rfl, hO8, hb8⟩; obtain ⟨a8, c8, rfl, hr8⟩ := hO8.rd; rw [← HQ.out] at hr8 ⊢))
    have A6 := (hA6.grown hg7 (by intro e; injection e with e; have := hA4.lt; omega)).kept hb8
    have A7 := hA7.kept hb8
    have b08 : Below w.heap.size w w8 := b07.trans (hb8.mono b07.size)
    obtain ⟨g6, hg6'⟩ : ∃ g, g = w3.heap.size := ⟨_, rfl⟩
    obtain ⟨g7, hg7'⟩ : ∃ g, g = w4.heap.size := ⟨_, rfl⟩
    go_simp
    rw [← hg6', ← hg7']
    rw [← hg6'] at A6
    rw [← hg7'] at A7
    have B08 := Lib.hid b08
    have HG6 : Hid (∀ wx, Below w8.heap.size w8 wx → Arr wx g6 41 (bvs O)) := fun wx hb => A6.kept hb
    have HG7 : Hid (∀ wx, Below w8.heap.size w8 wx → Arr wx g7 41 (bvs A)) := fun wx hb => A7.kept hb
    have HRP : Hid (∀ wx, Below w8.heap.size w8 wx → RdD wx a8 q c8 P) := fun wx hb => hr8.to hb
    clear hb1 hb2 hb3 b02 hA4 hb4 hs4 hA5 hb5 hs5 hA6 hg6 hs6 hA7 hg7 hs7 b37 b07 hO8 hb8 b08 hg6' hg7' hji HRT HRO HPA
    go_upto_region 11 with (first
      | ((with_reducible show wpList _ _ _ (⟨some 48, .load _ _, _, _, _, _⟩ :: _) _ _); refine wl_loadG rfl 41 _ rfl g6 0 rfl 41 (bvs O) (bvs O) A6 (fun j v h => (by rw [Nat.zero_add]; exact h)) (.array 32 5) Try.underlying41 rfl IO.out ?_)
      | ((with_reducible show wpList _ _ _ (⟨some 49, .load _ _, _, _, _, _⟩ :: _) _ _); refine wl_loadG rfl 41 _ rfl g7 0 rfl 41 (bvs A) (bvs A) A7 (fun j v h => (by rw [Nat.zero_add]; exact h)) (.array 32 5) Try.underlying41 rfl IA.out ?_)
      | (go_at_call 19; refine (HV1.out _ _ _ hr8).mono ?_; rintro e w9 ⟨rfl, hb9⟩))
    go_upto_region 12 with (first
      | ((with_reducible show wpList _ _ _ (⟨some 56, _, _, _, _, _⟩ :: _) _ _); refine wl_rowD rfl (.tmp 54) (.tmp 55) rfl w9.heap.size _ [] rfl (own_lit0 w9) a8 q c8 P rfl ((HRP.out w9 hb9).to ((Below.refl _ _).alloc (Nat.le_refl _) _)) (by have := HQ21.out; simp; omega) (by simp) ?_; intro v10 w10 ho10 hb10; rw [List.nil_append] at ho10)
      | ((with_reducible show wpList _ _ _ (⟨some 57, .build _ _, _, _, _, _⟩ :: _) _ _); refine wpList_buildTo rfl 41 _ rfl (some 57) rfl (bvs (Z8 32)).toArray builtD0 ?_)
      | ((with_reducible show wpList _ _ _ (⟨some 58, .buildSlice _ _ _, _, _, _, _⟩ :: _) _ _); refine wl_litD rfl 57 rfl (Z8 32) Z32.out rfl ?_; intro w11 hA11 hb11)
      | ((with_reducible show wpList _ _ _ (⟨some 59, _, _, _, _, _⟩ :: _) _ _); refine wl_appendD rfl (.tmp 56) (.tmp 58) rfl w9.heap.size _ P rfl (ho10.to hb11) w10.heap.size (Z8 32) rfl hA11 Z32.out (by have := HQ21.out; have := HQ.out; omega) (by have := hb10.size; have := hb11.size; simp at *; omega) ?_; intro v12 w12 ho12 hb12; obtain ⟨a12, c12, rfl, hr12⟩ := ho12.rd; rw [List.length_append, ← HQ.out, List.length_singleton] at hr12 ⊢))
    have b912 : Below w9.heap.size w9 w12 := by
      have k1 : Below w9.heap.size w9 w10 := ((Below.refl _ _).alloc (Nat.le_refl _) _).trans hb10
      exact (k1.trans (hb11.mono k1.size)).trans hb12
    have b812 : Below w8.heap.size w8 w12 := hb9.trans (b912.mono hb9.size)
    have B012 := Lib.hid (B08.out.trans (b812.mono B08.out.size))
    have HG6 : Hid (∀ wx, Below w12.heap.size w12 wx → Arr wx g6 41 (bvs O)) := fun wx hb => HG6.out _ (b812.trans (hb.mono b812.size))
    have HG7 : Hid (∀ wx, Below w12.heap.size w12 wx → Arr wx g7 41 (bvs A)) := fun wx hb => HG7.out _ (b812.trans (hb.mono b812.size))
    have HRP : Hid (∀ wx, Below w12.heap.size w12 wx → RdD wx a8 q c8 P) := fun wx hb => HRP.out _ (b812.trans (hb.mono b812.size))
    have W1 : Hid (∀ wx, Below w12.heap.size w12 wx → Calls Try.prog 19 #[.int .u64 (j : Int), .int .u64 (n : Int), .agg (bvs O).toArray, .agg (bvs A).toArray, .slice a12 (q + 1) c12] wx fun e w' => e = .returned (.bool false) ∧ Below wx.heap.size wx w') := fun wx hb => HV2.out wx _ _ (hr12.to hb)
    go_simp
    clear ho10 hb10 hA11 hb11 ho12 hb12 b912 b812 hb9 A6 A7 hr8 HV1 HV2
    by_cases hq0 : q = 0
    · have hqz : decide ((0 : Int) < (q : Int)) = false := decide_eq_false (by omega)
      have hqz' : decide (0 < q) = false := decide_eq_false (by omega)
      have HQ0 := Lib.hid hq0
      clear hq0
      refine wp_region_steps [[], [], [], [], [], [0, 1, 2, 3, 4], [5], [6], [7, 6], [8, 6], [9, 6], [10], [10], [10], [10], [10], [10], [10], [10, 17, 6], [6, 18]] (by kernel_rfl) (by kernel_rfl) (fun LF aF wx => ∃ v : Nat → Value, aF = ⟨#[.slice ad n c, .int .u64 ↑j, undef, undef, .bool false, .int .u64 ↑n, .pointer (some ⟨g6, 0, none⟩), .pointer (some ⟨g7, 0, none⟩), .slice a8 q c8, .int .i64 0, .slice a12 (q + 1) c12, undef, undef, undef, .bool true, .bool false, .slice ad n c, .int .i64 ↑n, .bool false, .slice ad n c, .int .i64 ↑n, .int .u64 ↑n, .int .u64 ↑i, .int .u64 ↑n, .int .u64 (↑n + 1), .int .u64 ↑j, .slice ad n c, .int .u64 ↑j, .slice ad j c, .agg (bvs O).toArray, .slice ad n c, .agg (bvs A).toArray, .tuple #[.slice a8 q c8, .int .i64 0], .slice ad n c, .int .u64 ↑j, .tuple #[.slice a8 q c8, .int .i64 0], .slice a8 q c8, .int .i64 0, .int .i64 0, .bool false, .bool false, .slice a8 q c8, .int .i64 ↑q, .bool false, .bool false, .bool false, .int .u64 ↑j, .int .u64 ↑n, .agg (bvs O).toArray, .agg (bvs A).toArray, .slice a8 q c8, .bool true, .bool false, .bool false, .slice (some ⟨w9.heap.size, 0, none⟩) 0 0, .slice a8 q c8, v10, .agg #[.int .u8 0, .int .u8 0, .int .u8 0, .int .u8 0, .int .u8 0, .int .u8 0, .int .u8 0, .int .u8 0, .int .u8 0, .int .u8 0, .int .u8 0, .int .u8 0, .int .u8 0, .int .u8 0, .int .u8 0, .int .u8 0, .int .u8 0, .int .u8 0, .int .u8 0, .int .u8 0, .int .u8 0, .int .u8 0, .int .u8 0, .int .u8 0, .int .u8 0, .int .u8 0, .int .u8 0, .int .u8 0, .int .u8 0, .int .u8 0, .int .u8 0, .int .u8 0], .slice (some ⟨w10.heap.size, 0, none⟩) 1 1, .slice a12 (q + 1) c12, v 60, v 61, v 62, v 63, v 64, v 65, v 66, v 67, v 68, v 69, v 70, v 71, v 72, v 73, v 74, v 75, v 76, v 77, v 78, v 79, undef, undef, undef, undef, undef, undef, undef, undef, undef, undef, undef, undef, undef, undef, undef, undef, undef, undef, undef, undef, undef, undef, undef, undef, undef, undef], []⟩ ∧ InvComp12Z O A j n q c c8 c12 g6 g7 0 0 a8 a12 ad w12 LF v wx) ?_ ⟨?_, ?_, ?_, ?_, ?_, ?_, ?_, ?_, ?_, ?_, ?_, ?_, ?_, ?_, ?_, ?_, ?_, ?_, ?_, ?_, trivial⟩ ?_
      · refine ⟨fun _ => undef, rfl, ⟨?_, ?_, ?_, ?_, ?_, ?_, ?_, ?_, ?_, ?_, ?_, ?_, ?_, ?_, ?_, ?_, ?_, ?_, ?_, ?_, (Below.refl _ _).drew⟩⟩ <;> (intro h; exact absurd h (by decide))
      · rintro LF aF wx ⟨v, rfl, hI⟩ hL hdep hcl K hK
        go_simp
        exact hK _ _ ⟨(upd v 60 (.int .u64 ↑j)), rfl, ⟨fun _ => rfl, hI.t1, hI.t2, hI.t3, hI.t4, hI.t5, hI.t6, hI.t7, hI.t8, hI.t9, hI.t10, hI.t11, hI.t12, hI.t13, hI.t14, hI.t15, hI.t16, hI.t17, hI.t18, hI.t19, hI.bw⟩⟩
      · rintro LF aF wx ⟨v, rfl, hI⟩ hL hdep hcl K hK
        go_simp
        exact hK _ _ ⟨(upd v 61 (.int .u64 ↑n)), rfl, ⟨hI.t0, fun _ => rfl, hI.t2, hI.t3, hI.t4, hI.t5, hI.t6, hI.t7, hI.t8, hI.t9, hI.t10, hI.t11, hI.t12, hI.t13, hI.t14, hI.t15, hI.t16, hI.t17, hI.t18, hI.t19, hI.bw⟩⟩
      · rintro LF aF wx ⟨v, rfl, hI⟩ hL hdep hcl K hK
        refine ow_load 41 _ rfl g6 0 rfl 41 (bvs O) (bvs O) (HG6.out wx hI.bw) (fun j v h => by rw [Nat.zero_add]; exact h) (.array 32 5) Try.underlying41 rfl IO.out ?_
        exact hK _ _ ⟨(upd v 62 (.agg (bvs O).toArray)), rfl, ⟨hI.t0, hI.t1, fun _ => rfl, hI.t3, hI.t4, hI.t5, hI.t6, hI.t7, hI.t8, hI.t9, hI.t10, hI.t11, hI.t12, hI.t13, hI.t14, hI.t15, hI.t16, hI.t17, hI.t18, hI.t19, hI.bw⟩⟩
      · rintro LF aF wx ⟨v, rfl, hI⟩ hL hdep hcl K hK
        refine ow_load 41 _ rfl g7 0 rfl 41 (bvs A) (bvs A) (HG7.out wx hI.bw) (fun j v h => by rw [Nat.zero_add]; exact h) (.array 32 5) Try.underlying41 rfl IA.out ?_
        exact hK _ _ ⟨(upd v 63 (.agg (bvs A).toArray)), rfl, ⟨hI.t0, hI.t1, hI.t2, fun _ => rfl, hI.t4, hI.t5, hI.t6, hI.t7, hI.t8, hI.t9, hI.t10, hI.t11, hI.t12, hI.t13, hI.t14, hI.t15, hI.t16, hI.t17, hI.t18, hI.t19, hI.bw⟩⟩
      · rintro LF aF wx ⟨v, rfl, hI⟩ hL hdep hcl K hK
        go_simp
        exact hK _ _ ⟨(upd v 64 (.slice a12 (q + 1) c12)), rfl, ⟨hI.t0, hI.t1, hI.t2, hI.t3, fun _ => rfl, hI.t5, hI.t6, hI.t7, hI.t8, hI.t9, hI.t10, hI.t11, hI.t12, hI.t13, hI.t14, hI.t15, hI.t16, hI.t17, hI.t18, hI.t19, hI.bw⟩⟩
      · rintro LF aF wx ⟨v, rfl, hI⟩ hL hdep hcl K hK
        have e0 := hI.t0 (hdep 0 (by decide))
        have e1 := hI.t1 (hdep 1 (by decide))
        have e2 := hI.t2 (hdep 2 (by decide))
        have e3 := hI.t3 (hdep 3 (by decide))
        have e4 := hI.t4 (hdep 4 (by decide))
        rw [e0, e1, e2, e3, e4]
        have HCC := W1.out wx hI.bw
        go_simp
        refine HCC.mono ?_
        rintro e w' ⟨rfl, hb⟩
        exact hK _ _ ⟨(upd (upd (upd (upd (upd (upd v 60 (.int .u64 ↑j)) 61 (.int .u64 ↑n)) 62 (.agg (bvs O).toArray)) 63 (.agg (bvs A).toArray)) 64 (.slice a12 (q + 1) c12)) 65 (.bool false)), rfl, ⟨fun _ => rfl, fun _ => rfl, fun _ => rfl, fun _ => rfl, fun _ => rfl, fun _ => rfl, hI.t6, hI.t7, hI.t8, hI.t9, hI.t10, hI.t11, hI.t12, hI.t13, hI.t14, hI.t15, hI.t16, hI.t17, hI.t18, hI.t19, (hI.bw).trans (hb.mono (hI.bw).size)⟩⟩
      · rintro LF aF wx ⟨v, rfl, hI⟩ hL hdep hcl K hK
        have e5 := hI.t5 (hdep 5 (by decide))
        rw [e5]
        go_simp
        exact hK _ _ ⟨(upd (upd v 65 (.bool false)) 66 (.bool false)), rfl, ⟨hI.t0, hI.t1, hI.t2, hI.t3, hI.t4, fun _ => rfl, fun _ => rfl, hI.t7, hI.t8, hI.t9, hI.t10, hI.t11, hI.t12, hI.t13, hI.t14, hI.t15, hI.t16, hI.t17, hI.t18, hI.t19, hI.bw⟩⟩
      · rintro LF aF wx ⟨v, rfl, hI⟩ hL hdep hcl K hK
        have e6 := hI.t6 (hdep 6 (by decide))
        rw [e6]
        refine (if_pos rfl).mpr ?_
        go_simp
        exact hK _ _ ⟨(upd (upd v 66 (.bool false)) 67 (.slice a8 q c8)), rfl, ⟨hI.t0, hI.t1, hI.t2, hI.t3, hI.t4, hI.t5, fun _ => rfl, fun _ => rfl, hI.t8, hI.t9, hI.t10, hI.t11, hI.t12, hI.t13, hI.t14, hI.t15, hI.t16, hI.t17, hI.t18, hI.t19, hI.bw⟩⟩
      · rintro LF aF wx ⟨v, rfl, hI⟩ hL hdep hcl K hK
        have e7 := hI.t7 (hdep 7 (by decide))
        have e6 := hI.t6 (hdep 6 (by decide))
        rw [e7, e6]
        refine (if_pos rfl).mpr ?_
        go_simp
        exact hK _ _ ⟨(upd (upd (upd v 67 (.slice a8 q c8)) 66 (.bool false)) 68 (.int .i64 (q : Int))), rfl, ⟨hI.t0, hI.t1, hI.t2, hI.t3, hI.t4, hI.t5, fun _ => rfl, fun _ => rfl, fun _ => rfl, hI.t9, hI.t10, hI.t11, hI.t12, hI.t13, hI.t14, hI.t15, hI.t16, hI.t17, hI.t18, hI.t19, hI.bw⟩⟩
      · rintro LF aF wx ⟨v, rfl, hI⟩ hL hdep hcl K hK
        have e8 := hI.t8 (hdep 8 (by decide))
        have e6 := hI.t6 (hdep 6 (by decide))
        rw [e8, e6]
        refine (if_pos rfl).mpr ?_
        go_simp
        exact hK _ _ ⟨(upd (upd (upd v 68 (.int .i64 (q : Int))) 66 (.bool false)) 69 (.bool false)), rfl, ⟨hI.t0, hI.t1, hI.t2, hI.t3, hI.t4, hI.t5, fun _ => rfl, hI.t7, fun _ => rfl, fun _ => rfl, hI.t10, hI.t11, hI.t12, hI.t13, hI.t14, hI.t15, hI.t16, hI.t17, hI.t18, hI.t19, hI.bw⟩⟩
      · rintro LF aF wx ⟨v, rfl, hI⟩ hL hdep hcl K hK
        have e9 := hI.t9 (hdep 9 (by decide))
        have e6 := hI.t6 (hdep 6 (by decide))
        rw [e9, e6]
        refine (if_pos rfl).mpr ?_
        go_simp
        exact hK _ _ ⟨(upd (upd (upd v 69 (.bool false)) 66 (.bool false)) 70 (.bool false)), rfl, ⟨hI.t0, hI.t1, hI.t2, hI.t3, hI.t4, hI.t5, fun _ => rfl, hI.t7, hI.t8, fun _ => rfl, fun _ => rfl, hI.t11, hI.t12, hI.t13, hI.t14, hI.t15, hI.t16, hI.t17, hI.t18, hI.t19, hI.bw⟩⟩
      · rintro LF aF wx ⟨v, rfl, hI⟩ hL hdep hcl K hK
        have e10 := hI.t10 (hdep 10 (by decide))
        rw [e10]
        refine (if_neg (by exact fun h => Bool.noConfusion (show false = true from h))).mpr ?_
        exact hK _ _ ⟨(upd (upd v 70 (.bool false)) 71 (_)), rfl, ⟨hI.t0, hI.t1, hI.t2, hI.t3, hI.t4, hI.t5, hI.t6, hI.t7, hI.t8, hI.t9, fun _ => rfl, fun _ => rfl, hI.t12, hI.t13, hI.t14, hI.t15, hI.t16, hI.t17, hI.t18, hI.t19, hI.bw⟩⟩
      · rintro LF aF wx ⟨v, rfl, hI⟩ hL hdep hcl K hK
        have e10 := hI.t10 (hdep 10 (by decide))
        rw [e10]
        refine (if_neg (by exact fun h => Bool.noConfusion (show false = true from h))).mpr ?_
        exact hK _ _ ⟨(upd (upd v 70 (.bool false)) 72 (_)), rfl, ⟨hI.t0, hI.t1, hI.t2, hI.t3, hI.t4, hI.t5, hI.t6, hI.t7, hI.t8, hI.t9, fun _ => rfl, hI.t11, fun _ => rfl, hI.t13, hI.t14, hI.t15, hI.t16, hI.t17, hI.t18, hI.t19, hI.bw⟩⟩
      · rintro LF aF wx ⟨v, rfl, hI⟩ hL hdep hcl K hK
        have e10 := hI.t10 (hdep 10 (by decide))
        rw [e10]
        refine (if_neg (by exact fun h => Bool.noConfusion (show false = true from h))).mpr ?_
        exact hK _ _ ⟨(upd (upd v 70 (.bool false)) 73 (_)), rfl, ⟨hI.t0, hI.t1, hI.t2, hI.t3, hI.t4, hI.t5, hI.t6, hI.t7, hI.t8, hI.t9, fun _ => rfl, hI.t11, hI.t12, fun _ => rfl, hI.t14, hI.t15, hI.t16, hI.t17, hI.t18, hI.t19, hI.bw⟩⟩
      · rintro LF aF wx ⟨v, rfl, hI⟩ hL hdep hcl K hK
        have e10 := hI.t10 (hdep 10 (by decide))
        rw [e10]
        refine (if_neg (by exact fun h => Bool.noConfusion (show false = true from h))).mpr ?_
        exact hK _ _ ⟨(upd (upd v 70 (.bool false)) 74 (_)), rfl, ⟨hI.t0, hI.t1, hI.t2, hI.t3, hI.t4, hI.t5, hI.t6, hI.t7, hI.t8, hI.t9, fun _ => rfl, hI.t11, hI.t12, hI.t13, fun _ => rfl, hI.t15, hI.t16, hI.t17, hI.t18, hI.t19, hI.bw⟩⟩
      · rintro LF aF wx ⟨v, rfl, hI⟩ hL hdep hcl K hK
        have e10 := hI.t10 (hdep 10 (by decide))
        rw [e10]
        refine (if_neg (by exact fun h => Bool.noConfusion (show false = true from h))).mpr ?_
        exact hK _ _ ⟨(upd (upd v 70 (.bool false)) 75 (_)), rfl, ⟨hI.t0, hI.t1, hI.t2, hI.t3, hI.t4, hI.t5, hI.t6, hI.t7, hI.t8, hI.t9, fun _ => rfl, hI.t11, hI.t12, hI.t13, hI.t14, fun _ => rfl, hI.t16, hI.t17, hI.t18, hI.t19, hI.bw⟩⟩
      · rintro LF aF wx ⟨v, rfl, hI⟩ hL hdep hcl K hK
        have e10 := hI.t10 (hdep 10 (by decide))
        rw [e10]
        refine (if_neg (by exact fun h => Bool.noConfusion (show false = true from h))).mpr ?_
        exact hK _ _ ⟨(upd (upd v 70 (.bool false)) 76 (_)), rfl, ⟨hI.t0, hI.t1, hI.t2, hI.t3, hI.t4, hI.t5, hI.t6, hI.t7, hI.t8, hI.t9, fun _ => rfl, hI.t11, hI.t12, hI.t13, hI.t14, hI.t15, fun _ => rfl, hI.t17, hI.t18, hI.t19, hI.bw⟩⟩
      · rintro LF aF wx ⟨v, rfl, hI⟩ hL hdep hcl K hK
        have e10 := hI.t10 (hdep 10 (by decide))
        rw [e10]
        refine (if_neg (by exact fun h => Bool.noConfusion (show false = true from h))).mpr ?_
        exact hK _ _ ⟨(upd (upd v 70 (.bool false)) 77 (_)), rfl, ⟨hI.t0, hI.t1, hI.t2, hI.t3, hI.t4, hI.t5, hI.t6, hI.t7, hI.t8, hI.t9, fun _ => rfl, hI.t11, hI.t12, hI.t13, hI.t14, hI.t15, hI.t16, fun _ => rfl, hI.t18, hI.t19, hI.bw⟩⟩
      · rintro LF aF wx ⟨v, rfl, hI⟩ hL hdep hcl K hK
        have e10 := hI.t10 (hdep 10 (by decide))
        have e6 := hI.t6 (hdep 6 (by decide))
        rw [e10, e6]
        refine (if_pos rfl).mpr ?_
        go_simp
        exact hK _ _ ⟨(upd (upd (upd v 70 (.bool false)) 66 (.bool false)) 78 (.bool false)), rfl, ⟨hI.t0, hI.t1, hI.t2, hI.t3, hI.t4, hI.t5, fun _ => rfl, hI.t7, hI.t8, hI.t9, fun _ => rfl, hI.t11, hI.t12, hI.t13, hI.t14, hI.t15, hI.t16, hI.t17, fun _ => rfl, hI.t19, hI.bw⟩⟩
      · rintro LF aF wx ⟨v, rfl, hI⟩ hL hdep hcl K hK
        have e6 := hI.t6 (hdep 6 (by decide))
        have e18 := hI.t18 (hdep 18 (by decide))
        rw [e6, e18]
        go_simp
        exact hK _ _ ⟨(upd (upd (upd v 66 (.bool false)) 78 (.bool false)) 79 (.bool false)), rfl, ⟨hI.t0, hI.t1, hI.t2, hI.t3, hI.t4, hI.t5, fun _ => rfl, hI.t7, hI.t8, hI.t9, hI.t10, hI.t11, hI.t12, hI.t13, hI.t14, hI.t15, hI.t16, hI.t17, fun _ => rfl, fun _ => rfl, hI.bw⟩⟩
      · rintro aF wx ⟨vF, rfl, hI⟩
        have e := hI.t19 rfl
        have hbw := hI.bw
        clear hI
        rw [e]
        rename World => wT
        by_cases hjz : j = 0
        · subst hjz
          obtain rfl : q = 0 := HQ0.out
          go_wp2_with fail
          go_ret
          exact ⟨rfl, B012.out.trans (hbw.mono B012.out.size)⟩
        · have hjj : 1 ≤ j := by omega
          have hje : ((j : Int) == 0) = false := by simp; omega
          go_wp2_with (first
            | ((with_reducible show wpList _ _ _ (⟨some 88, .load _ _, _, _, _, _⟩ :: _) _ _); refine wl_load rfl 41 _ rfl g6 0 rfl 41 (bvs O) (bvs O) (HG6.out _ hbw) (fun j v h => (by rw [Nat.zero_add]; exact h)) (.array 32 5) Try.underlying41 rfl IO.out ?_)
            | (go_at_call 17; refine (HHD.out hjj _ _ _ (HRP.out _ hbw)).mono ?_; rintro e w13 ⟨rfl, hb13⟩)
            | ((with_reducible show wpList _ _ _ (⟨some 11, .alloc _, _, _, _, _⟩ :: _) _ _); refine wl_alloc rfl 41 rfl (bvs (Z8 32)) 32 infoD ?_; intro w14 hA14 hb14 hs14)
            | ((with_reducible show wpList _ _ _ (⟨some 12, .alloc _, _, _, _, _⟩ :: _) _ _); refine wl_alloc rfl 41 rfl (bvs (Z8 32)) 32 infoD ?_; intro w15 hA15 hb15 hs15)
            | ((with_reducible show wpList _ _ _ (⟨none, .store _ (.tmp 11) _, _, _, _, _⟩ :: _) _ _); refine wl_store rfl 41 _ _ rfl w13.heap.size 0 rfl (bvs O) rfl 41 _ (hA14.kept hb15) IO.out (by rw [O32.out]; exact (by decide : 0 + 32 ≤ (bvs (Z8 32)).length)) (bvs_one _) ?_; intro w16 hA16 hg16 hs16; rw [whole_store _ _ (by rw [O32.out]; rfl)] at hA16)
            | ((with_reducible show wpList _ _ _ (⟨none, .store _ (.tmp 12) _, _, _, _, _⟩ :: _) _ _); refine wl_store rfl 41 _ _ rfl w14.heap.size 0 rfl (bvs A) rfl 41 _ (hA15.grown hg16 (by intro e; injection e with e; have := hA14.lt; omega)) IA.out (by rw [A32.out]; exact (by decide : 0 + 32 ≤ (bvs (Z8 32)).length)) (bvs_one _) ?_; intro w17 hA17 hg17 hs17; rw [whole_store _ _ (by rw [A32.out]; rfl)] at hA17; have A11 := hA16.grown hg17 (by intro e; injection e with e; have := hA14.lt; omega); have b1317 : Below wT.heap.size wT w17 := (((hb13.trans (hb14.mono hb13.size)).trans (hb15.mono (by have := hb13.size; have := hb14.size; omega))).grown hg16 (by have := hb13.size; have := hb14.size; have := hb15.size; omega) (by intro k e; injection e with e; have := hb13.size; omega)).grown hg17 (by have := hb13.size; have := hb14.size; have := hb15.size; omega) (by intro k e; injection e with e; have := hb13.size; have := hb14.size; omega); have G6 := HG6.out _ (hbw.trans (b1317.mono hbw.size)); have G7 := HG7.out _ (hbw.trans (b1317.mono hbw.size)))
            | ((with_reducible show wpList _ _ _ (⟨some 97, .load _ _, _, _, _, _⟩ :: _) _ _); refine wl_loadG rfl 41 _ rfl w13.heap.size 0 rfl 41 (bvs O) (bvs O) A11 (fun j v h => (by rw [Nat.zero_add]; exact h)) (.array 32 5) Try.underlying41 rfl IO.out ?_)
            | ((with_reducible show wpList _ _ _ (⟨some 98, .load _ _, _, _, _, _⟩ :: _) _ _); refine wl_loadG rfl 41 _ rfl g6 0 rfl 41 (bvs O) (bvs O) G6 (fun j v h => (by rw [Nat.zero_add]; exact h)) (.array 32 5) Try.underlying41 rfl IO.out ?_)
            | ((with_reducible show wpList _ _ _ (⟨some 99, .binOp _ _ _ _ _, _, _, _, _⟩ :: _) _ _); refine wl_eqV rfl _ _ _ rfl O O true (decide_eq_true rfl) LO.out LO.out rfl rfl ?_)
            | ((with_reducible show wpList _ _ _ (⟨some 102, .load _ _, _, _, _, _⟩ :: _) _ _); refine wl_loadG rfl 41 _ rfl w14.heap.size 0 rfl 41 (bvs A) (bvs A) hA17 (fun j v h => (by rw [Nat.zero_add]; exact h)) (.array 32 5) Try.underlying41 rfl IA.out ?_)
            | ((with_reducible show wpList _ _ _ (⟨some 103, .load _ _, _, _, _, _⟩ :: _) _ _); refine wl_loadG rfl 41 _ rfl g7 0 rfl 41 (bvs A) (bvs A) G7 (fun j v h => (by rw [Nat.zero_add]; exact h)) (.array 32 5) Try.underlying41 rfl IA.out ?_)
            | ((with_reducible show wpList _ _ _ (⟨some 104, .binOp _ _ _ _ _, _, _, _, _⟩ :: _) _ _); refine wl_eqV rfl _ _ _ rfl A A true (decide_eq_true rfl) LA.out LA.out rfl rfl ?_))
          go_ret
          exact ⟨rfl, B012.out.trans ((hbw.mono B012.out.size).trans (b1317.mono (by have := B012.out.size; have := hbw.size; omega)))⟩
    · have hqz : decide ((0 : Int) < (q : Int)) = true := decide_eq_true (by omega)
      have hqz' : decide (0 < q) = true := decide_eq_true (by omega)
      have hjj : 1 ≤ j := by
        cases Nat.eq_zero_or_pos j with
        | inl h => exact absurd (HE4.out h) hq0
        | inr h => exact h
      have r8 := HRP.out w12 (Below.refl _ _)
      obtain ⟨pb, po, rfl, -, -⟩ := r8.mem (by omega)
      have hq1 : 1 ≤ q := by omega
      have HQC := Lib.hid r8.le
      have HQ1 := Lib.hid hq1
      have W3 : Hid (∀ wx, Below w12.heap.size w12 wx → Calls Try.prog 19 #[.int .u64 (j : Int), .int .u64 (n : Int), .agg (bvs O).toArray, .agg (bvs A).toArray, .slice (some ⟨pb, if c8 = 1 then po else po + 32, none⟩) (q - 1) (c8 - 1)] wx fun e w' => e = .returned (.bool false) ∧ Below wx.heap.size wx w') := fun wx hb => HV3.out hq1 wx _ _ (rd_cut1 (HRP.out wx hb) hq1)
      clear r8 hq1 hq0
      refine wp_region_steps [[], [], [], [], [], [0, 1, 2, 3, 4], [5], [6], [7, 6], [8, 6], [9, 6], [10], [10], [10], [10], [10], [15, 10], [11, 12, 13, 14, 16, 10], [10, 17, 6], [6, 18]] (by kernel_rfl) (by kernel_rfl) (fun LF aF wx => ∃ v : Nat → Value, aF = ⟨#[.slice ad n c, .int .u64 ↑j, undef, undef, .bool false, .int .u64 ↑n, .pointer (some ⟨g6, 0, none⟩), .pointer (some ⟨g7, 0, none⟩), .slice (some ⟨pb, po, none⟩) q c8, .int .i64 0, .slice a12 (q + 1) c12, undef, undef, undef, .bool true, .bool false, .slice ad n c, .int .i64 ↑n, .bool false, .slice ad n c, .int .i64 ↑n, .int .u64 ↑n, .int .u64 ↑i, .int .u64 ↑n, .int .u64 (↑n + 1), .int .u64 ↑j, .slice ad n c, .int .u64 ↑j, .slice ad j c, .agg (bvs O).toArray, .slice ad n c, .agg (bvs A).toArray, .tuple #[.slice (some ⟨pb, po, none⟩) q c8, .int .i64 0], .slice ad n c, .int .u64 ↑j, .tuple #[.slice (some ⟨pb, po, none⟩) q c8, .int .i64 0], .slice (some ⟨pb, po, none⟩) q c8, .int .i64 0, .int .i64 0, .bool false, .bool false, .slice (some ⟨pb, po, none⟩) q c8, .int .i64 ↑q, .bool false, .bool false, .bool false, .int .u64 ↑j, .int .u64 ↑n, .agg (bvs O).toArray, .agg (bvs A).toArray, .slice (some ⟨pb, po, none⟩) q c8, .bool true, .bool false, .bool false, .slice (some ⟨w9.heap.size, 0, none⟩) 0 0, .slice (some ⟨pb, po, none⟩) q c8, v10, .agg #[.int .u8 0, .int .u8 0, .int .u8 0, .int .u8 0, .int .u8 0, .int .u8 0, .int .u8 0, .int .u8 0, .int .u8 0, .int .u8 0, .int .u8 0, .int .u8 0, .int .u8 0, .int .u8 0, .int .u8 0, .int .u8 0, .int .u8 0, .int .u8 0, .int .u8 0, .int .u8 0, .int .u8 0, .int .u8 0, .int .u8 0, .int .u8 0, .int .u8 0, .int .u8 0, .int .u8 0, .int .u8 0, .int .u8 0, .int .u8 0, .int .u8 0, .int .u8 0], .slice (some ⟨w10.heap.size, 0, none⟩) 1 1, .slice a12 (q + 1) c12, v 60, v 61, v 62, v 63, v 64, v 65, v 66, v 67, v 68, v 69, v 70, v 71, v 72, v 73, v 74, v 75, v 76, v 77, v 78, v 79, undef, undef, undef, undef, undef, undef, undef, undef, undef, undef, undef, undef, undef, undef, undef, undef, undef, undef, undef, undef, undef, undef, undef, undef, undef, undef], []⟩ ∧ InvComp12P O A j n q c c8 c12 g6 g7 pb po none a12 ad w12 LF v wx) ?_ ⟨?_, ?_, ?_, ?_, ?_, ?_, ?_, ?_, ?_, ?_, ?_, ?_, ?_, ?_, ?_, ?_, ?_, ?_, ?_, ?_, trivial⟩ ?_
      · refine ⟨fun _ => undef, rfl, ⟨?_, ?_, ?_, ?_, ?_, ?_, ?_, ?_, ?_, ?_, ?_, ?_, ?_, ?_, ?_, ?_, ?_, ?_, ?_, ?_, (Below.refl _ _).drew⟩⟩ <;> (intro h; exact absurd h (by decide))
      · rintro LF aF wx ⟨v, rfl, hI⟩ hL hdep hcl K hK
        go_simp
        exact hK _ _ ⟨(upd v 60 (.int .u64 ↑j)), rfl, ⟨fun _ => rfl, hI.t1, hI.t2, hI.t3, hI.t4, hI.t5, hI.t6, hI.t7, hI.t8, hI.t9, hI.t10, hI.t11, hI.t12, hI.t13, hI.t14, hI.t15, hI.t16, hI.t17, hI.t18, hI.t19, hI.bw⟩⟩
      · rintro LF aF wx ⟨v, rfl, hI⟩ hL hdep hcl K hK
        go_simp
        exact hK _ _ ⟨(upd v 61 (.int .u64 ↑n)), rfl, ⟨hI.t0, fun _ => rfl, hI.t2, hI.t3, hI.t4, hI.t5, hI.t6, hI.t7, hI.t8, hI.t9, hI.t10, hI.t11, hI.t12, hI.t13, hI.t14, hI.t15, hI.t16, hI.t17, hI.t18, hI.t19, hI.bw⟩⟩
      · rintro LF aF wx ⟨v, rfl, hI⟩ hL hdep hcl K hK
        refine ow_load 41 _ rfl g6 0 rfl 41 (bvs O) (bvs O) (HG6.out wx hI.bw) (fun j v h => by rw [Nat.zero_add]; exact h) (.array 32 5) Try.underlying41 rfl IO.out ?_
        exact hK _ _ ⟨(upd v 62 (.agg (bvs O).toArray)), rfl, ⟨hI.t0, hI.t1, fun _ => rfl, hI.t3, hI.t4, hI.t5, hI.t6, hI.t7, hI.t8, hI.t9, hI.t10, hI.t11, hI.t12, hI.t13, hI.t14, hI.t15, hI.t16, hI.t17, hI.t18, hI.t19, hI.bw⟩⟩
      · rintro LF aF wx ⟨v, rfl, hI⟩ hL hdep hcl K hK
        refine ow_load 41 _ rfl g7 0 rfl 41 (bvs A) (bvs A) (HG7.out wx hI.bw) (fun j v h => by rw [Nat.zero_add]; exact h) (.array 32 5) Try.underlying41 rfl IA.out ?_
        exact hK _ _ ⟨(upd v 63 (.agg (bvs A).toArray)), rfl, ⟨hI.t0, hI.t1, hI.t2, fun _ => rfl, hI.t4, hI.t5, hI.t6, hI.t7, hI.t8, hI.t9, hI.t10, hI.t11, hI.t12, hI.t13, hI.t14, hI.t15, hI.t16, hI.t17, hI.t18, hI.t19, hI.bw⟩⟩
      · rintro LF aF wx ⟨v, rfl, hI⟩ hL hdep hcl K hK
        go_simp
        exact hK _ _ ⟨(upd v 64 (.slice a12 (q + 1) c12)), rfl, ⟨hI.t0, hI.t1, hI.t2, hI.t3, fun _ => rfl, hI.t5, hI.t6, hI.t7, hI.t8, hI.t9, hI.t10, hI.t11, hI.t12, hI.t13, hI.t14, hI.t15, hI.t16, hI.t17, hI.t18, hI.t19, hI.bw⟩⟩
      · rintro LF aF wx ⟨v, rfl, hI⟩ hL hdep hcl K hK
        have e0 := hI.t0 (hdep 0 (by decide))
        have e1 := hI.t1 (hdep 1 (by decide))
        have e2 := hI.t2 (hdep 2 (by decide))
        have e3 := hI.t3 (hdep 3 (by decide))
        have e4 := hI.t4 (hdep 4 (by decide))
        rw [e0, e1, e2, e3, e4]
        have HCC := W1.out wx hI.bw
        go_simp
        refine HCC.mono ?_
        rintro e w' ⟨rfl, hb⟩
        exact hK _ _ ⟨(upd (upd (upd (upd (upd (upd v 60 (.int .u64 ↑j)) 61 (.int .u64 ↑n)) 62 (.agg (bvs O).toArray)) 63 (.agg (bvs A).toArray)) 64 (.slice a12 (q + 1) c12)) 65 (.bool false)), rfl, ⟨fun _ => rfl, fun _ => rfl, fun _ => rfl, fun _ => rfl, fun _ => rfl, fun _ => rfl, hI.t6, hI.t7, hI.t8, hI.t9, hI.t10, hI.t11, hI.t12, hI.t13, hI.t14, hI.t15, hI.t16, hI.t17, hI.t18, hI.t19, (hI.bw).trans (hb.mono (hI.bw).size)⟩⟩
      · rintro LF aF wx ⟨v, rfl, hI⟩ hL hdep hcl K hK
        have e5 := hI.t5 (hdep 5 (by decide))
        rw [e5]
        go_simp
        exact hK _ _ ⟨(upd (upd v 65 (.bool false)) 66 (.bool false)), rfl, ⟨hI.t0, hI.t1, hI.t2, hI.t3, hI.t4, fun _ => rfl, fun _ => rfl, hI.t7, hI.t8, hI.t9, hI.t10, hI.t11, hI.t12, hI.t13, hI.t14, hI.t15, hI.t16, hI.t17, hI.t18, hI.t19, hI.bw⟩⟩
      · rintro LF aF wx ⟨v, rfl, hI⟩ hL hdep hcl K hK
        have e6 := hI.t6 (hdep 6 (by decide))
        rw [e6]
        refine (if_pos rfl).mpr ?_
        go_simp
        exact hK _ _ ⟨(upd (upd v 66 (.bool false)) 67 (.slice (some ⟨pb, po, none⟩) q c8)), rfl, ⟨hI.t0, hI.t1, hI.t2, hI.t3, hI.t4, hI.t5, fun _ => rfl, fun _ => rfl, hI.t8, hI.t9, hI.t10, hI.t11, hI.t12, hI.t13, hI.t14, hI.t15, hI.t16, hI.t17, hI.t18, hI.t19, hI.bw⟩⟩
      · rintro LF aF wx ⟨v, rfl, hI⟩ hL hdep hcl K hK
        have e7 := hI.t7 (hdep 7 (by decide))
        have e6 := hI.t6 (hdep 6 (by decide))
        rw [e7, e6]
        refine (if_pos rfl).mpr ?_
        go_simp
        exact hK _ _ ⟨(upd (upd (upd v 67 (.slice (some ⟨pb, po, none⟩) q c8)) 66 (.bool false)) 68 (.int .i64 (q : Int))), rfl, ⟨hI.t0, hI.t1, hI.t2, hI.t3, hI.t4, hI.t5, fun _ => rfl, fun _ => rfl, fun _ => rfl, hI.t9, hI.t10, hI.t11, hI.t12, hI.t13, hI.t14, hI.t15, hI.t16, hI.t17, hI.t18, hI.t19, hI.bw⟩⟩
      · rintro LF aF wx ⟨v, rfl, hI⟩ hL hdep hcl K hK
        have e8 := hI.t8 (hdep 8 (by decide))
        have e6 := hI.t6 (hdep 6 (by decide))
        rw [e8, e6]
        refine (if_pos rfl).mpr ?_
        go_simp
        exact hK _ _ ⟨(upd (upd (upd v 68 (.int .i64 (q : Int))) 66 (.bool false)) 69 (.bool true)), rfl, ⟨hI.t0, hI.t1, hI.t2, hI.t3, hI.t4, hI.t5, fun _ => rfl, hI.t7, fun _ => rfl, fun _ => rfl, hI.t10, hI.t11, hI.t12, hI.t13, hI.t14, hI.t15, hI.t16, hI.t17, hI.t18, hI.t19, hI.bw⟩⟩
      · rintro LF aF wx ⟨v, rfl, hI⟩ hL hdep hcl K hK
        have e9 := hI.t9 (hdep 9 (by decide))
        have e6 := hI.t6 (hdep 6 (by decide))
        rw [e9, e6]
        refine (if_pos rfl).mpr ?_
        go_simp
        exact hK _ _ ⟨(upd (upd (upd v 69 (.bool true)) 66 (.bool false)) 70 (.bool true)), rfl, ⟨hI.t0, hI.t1, hI.t2, hI.t3, hI.t4, hI.t5, fun _ => rfl, hI.t7, hI.t8, fun _ => rfl, fun _ => rfl, hI.t11, hI.t12, hI.t13, hI.t14, hI.t15, hI.t16, hI.t17, hI.t18, hI.t19, hI.bw⟩⟩
      · rintro LF aF wx ⟨v, rfl, hI⟩ hL hdep hcl K hK
        have e10 := hI.t10 (hdep 10 (by decide))
        rw [e10]
        refine (if_pos rfl).mpr ?_
        go_simp
        exact hK _ _ ⟨(upd (upd v 70 (.bool true)) 71 (.int .u64 ↑j)), rfl, ⟨hI.t0, hI.t1, hI.t2, hI.t3, hI.t4, hI.t5, hI.t6, hI.t7, hI.t8, hI.t9, fun _ => rfl, fun _ => rfl, hI.t12, hI.t13, hI.t14, hI.t15, hI.t16, hI.t17, hI.t18, hI.t19, hI.bw⟩⟩
      · rintro LF aF wx ⟨v, rfl, hI⟩ hL hdep hcl K hK
        have e10 := hI.t10 (hdep 10 (by decide))
        rw [e10]
        refine (if_pos rfl).mpr ?_
        go_simp
        exact hK _ _ ⟨(upd (upd v 70 (.bool true)) 72 (.int .u64 ↑n)), rfl, ⟨hI.t0, hI.t1, hI.t2, hI.t3, hI.t4, hI.t5, hI.t6, hI.t7, hI.t8, hI.t9, fun _ => rfl, hI.t11, fun _ => rfl, hI.t13, hI.t14, hI.t15, hI.t16, hI.t17, hI.t18, hI.t19, hI.bw⟩⟩
      · rintro LF aF wx ⟨v, rfl, hI⟩ hL hdep hcl K hK
        have e10 := hI.t10 (hdep 10 (by decide))
        rw [e10]
        refine (if_pos rfl).mpr ?_
        refine ow_load 41 _ rfl g6 0 rfl 41 (bvs O) (bvs O) (HG6.out wx hI.bw) (fun j v h => by rw [Nat.zero_add]; exact h) (.array 32 5) Try.underlying41 rfl IO.out ?_
        exact hK _ _ ⟨(upd (upd v 70 (.bool true)) 73 (.agg (bvs O).toArray)), rfl, ⟨hI.t0, hI.t1, hI.t2, hI.t3, hI.t4, hI.t5, hI.t6, hI.t7, hI.t8, hI.t9, fun _ => rfl, hI.t11, hI.t12, fun _ => rfl, hI.t14, hI.t15, hI.t16, hI.t17, hI.t18, hI.t19, hI.bw⟩⟩
      · rintro LF aF wx ⟨v, rfl, hI⟩ hL hdep hcl K hK
        have e10 := hI.t10 (hdep 10 (by decide))
        rw [e10]
        refine (if_pos rfl).mpr ?_
        refine ow_load 41 _ rfl g7 0 rfl 41 (bvs A) (bvs A) (HG7.out wx hI.bw) (fun j v h => by rw [Nat.zero_add]; exact h) (.array 32 5) Try.underlying41 rfl IA.out ?_
        exact hK _ _ ⟨(upd (upd v 70 (.bool true)) 74 (.agg (bvs A).toArray)), rfl, ⟨hI.t0, hI.t1, hI.t2, hI.t3, hI.t4, hI.t5, hI.t6, hI.t7, hI.t8, hI.t9, fun _ => rfl, hI.t11, hI.t12, hI.t13, fun _ => rfl, hI.t15, hI.t16, hI.t17, hI.t18, hI.t19, hI.bw⟩⟩
      · rintro LF aF wx ⟨v, rfl, hI⟩ hL hdep hcl K hK
        have e10 := hI.t10 (hdep 10 (by decide))
        rw [e10]
        refine (if_pos rfl).mpr ?_
        go_simp
        exact hK _ _ ⟨(upd (upd v 70 (.bool true)) 75 (.slice (some ⟨pb, po, none⟩) q c8)), rfl, ⟨hI.t0, hI.t1, hI.t2, hI.t3, hI.t4, hI.t5, hI.t6, hI.t7, hI.t8, hI.t9, fun _ => rfl, hI.t11, hI.t12, hI.t13, hI.t14, fun _ => rfl, hI.t16, hI.t17, hI.t18, hI.t19, hI.bw⟩⟩
      · rintro LF aF wx ⟨v, rfl, hI⟩ hL hdep hcl K hK
        have e15 := hI.t15 (hdep 15 (by decide))
        have e10 := hI.t10 (hdep 10 (by decide))
        rw [e15, e10]
        refine (if_pos rfl).mpr ?_
        refine ow_cut1 pb po q c8 HQ1.out HQC.out _ _ rfl rfl rfl ?_
        exact hK _ _ ⟨(upd (upd (upd v 75 (.slice (some ⟨pb, po, none⟩) q c8)) 70 (.bool true)) 76 (.slice (some ⟨pb, if c8 = 1 then po else po + 32, none⟩) (q - 1) (c8 - 1))), rfl, ⟨hI.t0, hI.t1, hI.t2, hI.t3, hI.t4, hI.t5, hI.t6, hI.t7, hI.t8, hI.t9, fun _ => rfl, hI.t11, hI.t12, hI.t13, hI.t14, fun _ => rfl, fun _ => rfl, hI.t17, hI.t18, hI.t19, hI.bw⟩⟩
      · rintro LF aF wx ⟨v, rfl, hI⟩ hL hdep hcl K hK
        have e11 := hI.t11 (hdep 11 (by decide))
        have e12 := hI.t12 (hdep 12 (by decide))
        have e13 := hI.t13 (hdep 13 (by decide))
        have e14 := hI.t14 (hdep 14 (by decide))
        have e16 := hI.t16 (hdep 16 (by decide))
        have e10 := hI.t10 (hdep 10 (by decide))
        rw [e11, e12, e13, e14, e16, e10]
        refine (if_pos rfl).mpr ?_
        have HCC := W3.out wx hI.bw
        go_simp
        refine HCC.mono ?_
        rintro e w' ⟨rfl, hb⟩
        exact hK _ _ ⟨(upd (upd (upd (upd (upd (upd (upd v 71 (.int .u64 ↑j)) 72 (.int .u64 ↑n)) 73 (.agg (bvs O).toArray)) 74 (.agg (bvs A).toArray)) 76 (.slice (some ⟨pb, if c8 = 1 then po else po + 32, none⟩) (q - 1) (c8 - 1))) 70 (.bool true)) 77 (.bool false)), rfl, ⟨hI.t0, hI.t1, hI.t2, hI.t3, hI.t4, hI.t5, hI.t6, hI.t7, hI.t8, hI.t9, fun _ => rfl, fun _ => rfl, fun _ => rfl, fun _ => rfl, fun _ => rfl, hI.t15, fun _ => rfl, fun _ => rfl, hI.t18, hI.t19, (hI.bw).trans (hb.mono (hI.bw).size)⟩⟩
      · rintro LF aF wx ⟨v, rfl, hI⟩ hL hdep hcl K hK
        have e10 := hI.t10 (hdep 10 (by decide))
        have e17 := hI.t17 (hdep 17 (by decide))
        have e6 := hI.t6 (hdep 6 (by decide))
        rw [e10, e17, e6]
        refine (if_pos rfl).mpr ?_
        go_simp
        exact hK _ _ ⟨(upd (upd (upd (upd v 70 (.bool true)) 77 (.bool false)) 66 (.bool false)) 78 (.bool false)), rfl, ⟨hI.t0, hI.t1, hI.t2, hI.t3, hI.t4, hI.t5, fun _ => rfl, hI.t7, hI.t8, hI.t9, fun _ => rfl, hI.t11, hI.t12, hI.t13, hI.t14, hI.t15, hI.t16, fun _ => rfl, fun _ => rfl, hI.t19, hI.bw⟩⟩
      · rintro LF aF wx ⟨v, rfl, hI⟩ hL hdep hcl K hK
        have e6 := hI.t6 (hdep 6 (by decide))
        have e18 := hI.t18 (hdep 18 (by decide))
        rw [e6, e18]
        go_simp
        exact hK _ _ ⟨(upd (upd (upd v 66 (.bool false)) 78 (.bool false)) 79 (.bool false)), rfl, ⟨hI.t0, hI.t1, hI.t2, hI.t3, hI.t4, hI.t5, fun _ => rfl, hI.t7, hI.t8, hI.t9, hI.t10, hI.t11, hI.t12, hI.t13, hI.t14, hI.t15, hI.t16, hI.t17, fun _ => rfl, fun _ => rfl, hI.bw⟩⟩
      · rintro aF wx ⟨vF, rfl, hI⟩
        have e := hI.t19 rfl
        have hbw := hI.bw
        clear hI
        rw [e]
        rename World => wT
        have hje : ((j : Int) == 0) = false := by simp; omega
        go_wp2_with (first
          | ((with_reducible show wpList _ _ _ (⟨some 88, .load _ _, _, _, _, _⟩ :: _) _ _); refine wl_load rfl 41 _ rfl g6 0 rfl 41 (bvs O) (bvs O) (HG6.out _ hbw) (fun j v h => (by rw [Nat.zero_add]; exact h)) (.array 32 5) Try.underlying41 rfl IO.out ?_)
          | (go_at_call 17; refine (HHD.out hjj _ _ _ (HRP.out _ hbw)).mono ?_; rintro e w13 ⟨rfl, hb13⟩)
          | ((with_reducible show wpList _ _ _ (⟨some 11, .alloc _, _, _, _, _⟩ :: _) _ _); refine wl_alloc rfl 41 rfl (bvs (Z8 32)) 32 infoD ?_; intro w14 hA14 hb14 hs14)
          | ((with_reducible show wpList _ _ _ (⟨some 12, .alloc _, _, _, _, _⟩ :: _) _ _); refine wl_alloc rfl 41 rfl (bvs (Z8 32)) 32 infoD ?_; intro w15 hA15 hb15 hs15)
          | ((with_reducible show wpList _ _ _ (⟨none, .store _ (.tmp 11) _, _, _, _, _⟩ :: _) _ _); refine wl_store rfl 41 _ _ rfl w13.heap.size 0 rfl (bvs O) rfl 41 _ (hA14.kept hb15) IO.out (by rw [O32.out]; exact (by decide : 0 + 32 ≤ (bvs (Z8 32)).length)) (bvs_one _) ?_; intro w16 hA16 hg16 hs16; rw [whole_store _ _ (by rw [O32.out]; rfl)] at hA16)
          | ((with_reducible show wpList _ _ _ (⟨none, .store _ (.tmp 12) _, _, _, _, _⟩ :: _) _ _); refine wl_store rfl 41 _ _ rfl w14.heap.size 0 rfl (bvs A) rfl 41 _ (hA15.grown hg16 (by intro e; injection e with e; have := hA14.lt; omega)) IA.out (by rw [A32.out]; exact (by decide : 0 + 32 ≤ (bvs (Z8 32)).length)) (bvs_one _) ?_; intro w17 hA17 hg17 hs17; rw [whole_store _ _ (by rw [A32.out]; rfl)] at hA17; have A11 := hA16.grown hg17 (by intro e; injection e with e; have := hA14.lt; omega); have b1317 : Below wT.heap.size wT w17 := (((hb13.trans (hb14.mono hb13.size)).trans (hb15.mono (by have := hb13.size; have := hb14.size; omega))).grown hg16 (by have := hb13.size; have := hb14.size; have := hb15.size; omega) (by intro k e; injection e with e; have := hb13.size; omega)).grown hg17 (by have := hb13.size; have := hb14.size; have := hb15.size; omega) (by intro k e; injection e with e; have := hb13.size; have := hb14.size; omega); have G6 := HG6.out _ (hbw.trans (b1317.mono hbw.size)); have G7 := HG7.out _ (hbw.trans (b1317.mono hbw.size)))
          | ((with_reducible show wpList _ _ _ (⟨some 97, .load _ _, _, _, _, _⟩ :: _) _ _); refine wl_loadG rfl 41 _ rfl w13.heap.size 0 rfl 41 (bvs O) (bvs O) A11 (fun j v h => (by rw [Nat.zero_add]; exact h)) (.array 32 5) Try.underlying41 rfl IO.out ?_)
          | ((with_reducible show wpList _ _ _ (⟨some 98, .load _ _, _, _, _, _⟩ :: _) _ _); refine wl_loadG rfl 41 _ rfl g6 0 rfl 41 (bvs O) (bvs O) G6 (fun j v h => (by rw [Nat.zero_add]; exact h)) (.array 32 5) Try.underlying41 rfl IO.out ?_)
          | ((with_reducible show wpList _ _ _ (⟨some 99, .binOp _ _ _ _ _, _, _, _, _⟩ :: _) _ _); refine wl_eqV rfl _ _ _ rfl O O true (decide_eq_true rfl) LO.out LO.out rfl rfl ?_)
          | ((with_reducible show wpList _ _ _ (⟨some 102, .load _ _, _, _, _, _⟩ :: _) _ _); refine wl_loadG rfl 41 _ rfl w14.heap.size 0 rfl 41 (bvs A) (bvs A) hA17 (fun j v h => (by rw [Nat.zero_add]; exact h)) (.array 32 5) Try.underlying41 rfl IA.out ?_)
          | ((with_reducible show wpList _ _ _ (⟨some 103, .load _ _, _, _, _, _⟩ :: _) _ _); refine wl_loadG rfl 41 _ rfl g7 0 rfl 41 (bvs A) (bvs A) G7 (fun j v h => (by rw [Nat.zero_add]; exact h)) (.array 32 5) Try.underlying41 rfl IA.out ?_)
          | ((with_reducible show wpList _ _ _ (⟨some 104, .binOp _ _ _ _ _, _, _, _, _⟩ :: _) _ _); refine wl_eqV rfl _ _ _ rfl A A true (decide_eq_true rfl) LA.out LA.out rfl rfl ?_))
        go_ret
        exact ⟨rfl, B012.out.trans ((hbw.mono B012.out.size).trans (b1317.mono (by have := B012.out.size; have := hbw.size; omega)))⟩
end Go.Proofs.Ytcnnblhjgligbaa
