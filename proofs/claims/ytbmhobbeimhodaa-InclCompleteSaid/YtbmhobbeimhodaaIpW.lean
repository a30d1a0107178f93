/-
  InclComplete as a call. Conditions: those in each statement.
-/
import Derived.Test.YtbmhobbeimhodaaIpP
namespace Go.Proofs.Ytbmhobbeimhodaa
open Go.RowKit

theorem run_guardNe (x y : Operand) (A B : Array Value) (w : World) : (eqGuard .neq 41 x y (.agg A) (.agg B)).run Try.prog w = .ok () w := by
  unfold eqGuard
  simp
theorem run_cut1 (b off q c : Nat) (hq : 1 ≤ q) (hc : q ≤ c) (w : World) :
    (Instr.sliceAt 33 (.slice (some ⟨b, off, none⟩) q c) (some (.int .i64 1)) none none).run Try.prog w = .ok (.slice (some ⟨b, if c = 1 then off else off + 32, none⟩) (q - 1) (c - 1)) w := by
  have c1 : (1 : Int) ≤ (q : Int) := by omega
  have c2 : (q : Int) ≤ (c : Int) := by omega
  by_cases h : c = 1
  · subst h
    obtain rfl : q = 1 := by omega
    go_simp
  · have c3 : ¬ (c = 1) := h
    have c4 : ¬ (c - 1 = 0) := by omega
    rw [if_neg h]
    go_simp
section
variable {o : Oper} {a : Act} {K : Act → World → Prop} {Q : Exit → Act → World → Prop} {w : World}
theorem ow_neSame (x y : Operand) (r : TypeId) (ho : o.op = .binOp .neq 41 x y r) (xs : List UInt8) (hl : xs.length = 32) (hx : a.eval x = .agg (bvs xs).toArray) (hy : a.eval y = .agg (bvs xs).toArray)
    (hK : K (a.put o.dst (.bool false)) w) : o.wp Try.prog a w K Q := by
  have h := neD hl hl w
  rw [decide_eq_true rfl] at h
  unfold Oper.wp execOp
  simp only [ho, hx, hy, Sem.run_bind, Sem.run_pure, run_guardNe, h, Result.andThen_ok]
  exact hK
theorem ow_cut1 (b off q c : Nat) (hq : 1 ≤ q) (hc : q ≤ c) (x y : Operand) (ho : o.op = .slice 33 x (some y) none none) (hx : a.eval x = .slice (some ⟨b, off, none⟩) q c) (hy : a.eval y = .int .i64 1)
    (hK : K (a.put o.dst (.slice (some ⟨b, if c = 1 then off else off + 32, none⟩) (q - 1) (c - 1))) w) : o.wp Try.prog a w K Q := by
  have h := run_cut1 b off q c hq hc w
  unfold Oper.wp execOp
  simp only [ho, hx, hy, Option.map_some, Option.map_none, Sem.run_bind, h, Sem.run_pure, Result.andThen_ok]
  exact hK
end
theorem rd_cut1 {w : World} {b off q c : Nat} {L : List (List UInt8)} (h : RdD w (some ⟨b, off, none⟩) q c L) (hq : 1 ≤ q) : RdD w (some ⟨b, if c = 1 then off else off + 32, none⟩) (q - 1) (c - 1) (L.drop 1) := by
  have hl := h.len
  have hle := h.le
  by_cases hc : c = 1
  · refine ⟨by simp; omega, by omega, h.all.drop 1, (by intro e; cases e), fun h0 => by omega⟩
  · rw [if_neg hc]
    by_cases h1 : q = 1
    · exact ⟨by simp; omega, by omega, h.all.drop 1, (by intro e; cases e), fun h0 => by omega⟩
    · exact h.drop 1 (by omega)
theorem ver_no {d r : List UInt8} {i s : Nat} {P : List (List UInt8)} (h : okH i s P.length = false) : verB d i s P r = false := by
  unfold verB
  rw [h]
  rfl
structure InvCompA (y RT : List UInt8) (j n q b off c c5 g6 g9 : Nat) (a5 : Option Addr) (W0 : World) (L : Nat → Bool) (v : Nat → Value) (wx : World) : Prop where
  t0 : L 0 = true → (v 47) = .int .i64 0
  t1 : L 1 = true → (v 48) = .bool false
  t2 : L 2 = true → (v 49) = .bool false
  t3 : L 3 = true → (v 50) = .int .i64 0
  t4 : L 4 = true → (v 51) = .bool false
  t5 : L 5 = true → (v 52) = .bool false
  t6 : L 6 = true → (v 53) = .bool false
  t7 : L 7 = true → (v 54) = .agg (bvs RT).toArray
  t8 : L 8 = true → (v 55) = .agg (bvs RT).toArray
  t9 : L 9 = true → (v 56) = .bool false
  t10 : L 10 = true → (v 57) = .bool false
  t11 : L 11 = true → (v 58) = .bool false
  t12 : L 12 = true → (v 59) = .slice (some ⟨b, off, none⟩) n c
  t13 : L 13 = true → (v 60) = .int .u64 ↑j
  t14 : L 14 = true → (v 61) = .pointer (some ⟨b, off + j * 32, none⟩)
  t15 : L 15 = true → (v 62) = .agg (bvs y).toArray
  t16 : L 16 = true → (v 63) = .int .u64 ↑j
  t17 : L 17 = true → (v 64) = .int .u64 ↑n
  t18 : L 18 = true → (v 65) = .slice a5 q c5
  t19 : L 19 = true → (v 66) = .agg (bvs RT).toArray
  t20 : L 20 = true → (v 67) = .bool true
  t21 : L 21 = true → (v 68) = .bool false
  t22 : L 22 = true → (v 69) = .bool false
  t23 : L 23 = true → (v 70) = .bool false
  t24 : L 24 = true → (v 71) = .slice a5 q c5
  t25 : L 25 = true → (v 72) = .int .i64 (q : Int)
  t26 : L 26 = true → (v 73) = .bool false
  t27 : L 27 = true → (v 74) = .bool false
  bw : Below W0.heap.size W0 wx
structure InvComp13A (y RT : List UInt8) (j n b off c c5 c12 g6 : Nat) (a5 a12 : Option Addr) (W0 : World) (L : Nat → Bool) (v : Nat → Value) (wx : World) : Prop where
  t0 : L 0 = true → (v 81) = .slice (some ⟨b, off, none⟩) n c
  t1 : L 1 = true → (v 82) = .int .u64 ↑j
  t2 : L 2 = true → (v 83) = .pointer (some ⟨b, off + j * 32, none⟩)
  t3 : L 3 = true → (v 84) = .agg (bvs y).toArray
  t4 : L 4 = true → (v 85) = .int .u64 ↑j
  t5 : L 5 = true → (v 86) = .int .u64 ↑n
  t6 : L 6 = true → (v 87) = .slice a12 (0 + 1) c12
  t7 : L 7 = true → (v 88) = .agg (bvs RT).toArray
  t8 : L 8 = true → (v 89) = .bool false
  t9 : L 9 = true → (v 90) = .bool true
  t10 : L 10 = true → (v 91) = .bool true
  t11 : L 11 = true → (v 92) = .slice a5 0 c5
  t12 : L 12 = true → (v 93) = .int .i64 (0 : Int)
  t13 : L 13 = true → (v 94) = .bool true
  t14 : L 14 = true → (v 95) = .bool true
  t15 : L 15 = true → (v 96) = (v 96)
  t16 : L 16 = true → (v 97) = (v 97)
  t17 : L 17 = true → (v 98) = (v 98)
  t18 : L 18 = true → (v 99) = (v 99)
  t19 : L 19 = true → (v 100) = (v 100)
  t20 : L 20 = true → (v 101) = (v 101)
  t21 : L 21 = true → (v 102) = (v 102)
  t22 : L 22 = true → (v 103) = (v 103)
  t23 : L 23 = true → (v 104) = (v 104)
  t24 : L 24 = true → (v 105) = (v 105)
  t25 : L 25 = true → (v 106) = (v 106)
  t26 : L 26 = true → (v 107) = .bool true
  t27 : L 27 = true → (v 108) = .bool true
  t28 : L 28 = true → (v 109) = .bool true
  t29 : L 29 = true → (v 110) = .slice (some ⟨b, off, none⟩) n c
  t30 : L 30 = true → (v 111) = .int .u64 ↑j
  t31 : L 31 = true → (v 112) = .pointer (some ⟨b, off + j * 32, none⟩)
  t32 : L 32 = true → (v 113) = .agg (bvs y).toArray
  t33 : L 33 = true → (v 114) = .int .u64 ↑n
  t34 : L 34 = true → (v 115) = .int .u64 ↑n
  t35 : L 35 = true → (v 116) = .slice a5 0 c5
  t36 : L 36 = true → (v 117) = .agg (bvs RT).toArray
  t37 : L 37 = true → (v 118) = .bool false
  t38 : L 38 = true → (v 119) = .bool true
  t39 : L 39 = true → (v 120) = .bool true
  t40 : L 40 = true → (v 4) = .bool true
  bw : Below W0.heap.size W0 wx
structure InvComp13B (y RT : List UInt8) (j n q pb po b off c c5 c12 g6 : Nat) (a12 : Option Addr) (W0 : World) (L : Nat → Bool) (v : Nat → Value) (wx : World) : Prop where
  t0 : L 0 = true → (v 81) = .slice (some ⟨b, off, none⟩) n c
  t1 : L 1 = true → (v 82) = .int .u64 ↑j
  t2 : L 2 = true → (v 83) = .pointer (some ⟨b, off + j * 32, none⟩)
  t3 : L 3 = true → (v 84) = .agg (bvs y).toArray
  t4 : L 4 = true → (v 85) = .int .u64 ↑j
  t5 : L 5 = true → (v 86) = .int .u64 ↑n
  t6 : L 6 = true → (v 87) = .slice a12 (q + 1) c12
  t7 : L 7 = true → (v 88) = .agg (bvs RT).toArray
  t8 : L 8 = true → (v 89) = .bool false
  t9 : L 9 = true → (v 90) = .bool true
  t10 : L 10 = true → (v 91) = .bool true
  t11 : L 11 = true → (v 92) = .slice (some ⟨pb, po, none⟩) q c5
  t12 : L 12 = true → (v 93) = .int .i64 (q : Int)
  t13 : L 13 = true → (v 94) = .bool false
  t14 : L 14 = true → (v 95) = .bool false
  t15 : L 15 = true → (v 96) = .slice (some ⟨b, off, none⟩) n c
  t16 : L 16 = true → (v 97) = .int .u64 ↑j
  t17 : L 17 = true → (v 98) = .pointer (some ⟨b, off + j * 32, none⟩)
  t18 : L 18 = true → (v 99) = .agg (bvs y).toArray
  t19 : L 19 = true → (v 100) = .int .u64 ↑j
  t20 : L 20 = true → (v 101) = .int .u64 ↑n
  t21 : L 21 = true → (v 102) = .slice (some ⟨pb, po, none⟩) q c5
  t22 : L 22 = true → (v 103) = .slice (some ⟨pb, if c5 = 1 then po else po + 32, none⟩) (q - 1) (c5 - 1)
  t23 : L 23 = true → (v 104) = .agg (bvs RT).toArray
  t24 : L 24 = true → (v 105) = .bool false
  t25 : L 25 = true → (v 106) = .bool true
  t26 : L 26 = true → (v 107) = .bool true
  t27 : L 27 = true → (v 108) = .bool true
  t28 : L 28 = true → (v 109) = .bool true
  t29 : L 29 = true → (v 110) = .slice (some ⟨b, off, none⟩) n c
  t30 : L 30 = true → (v 111) = .int .u64 ↑j
  t31 : L 31 = true → (v 112) = .pointer (some ⟨b, off + j * 32, none⟩)
  t32 : L 32 = true → (v 113) = .agg (bvs y).toArray
  t33 : L 33 = true → (v 114) = .int .u64 ↑n
  t34 : L 34 = true → (v 115) = .int .u64 ↑n
  t35 : L 35 = true → (v 116) = .slice (some ⟨pb, po, none⟩) q c5
  t36 : L 36 = true → (v 117) = .agg (bvs RT).toArray
  t37 : L 37 = true → (v 118) = .bool false
  t38 : L 38 = true → (v 119) = .bool true
  t39 : L 39 = true → (v 120) = .bool true
  t40 : L 40 = true → (v 4) = .bool true
  bw : Below W0.heap.size W0 wx
set_option maxRecDepth 100000 in
set_option maxHeartbeats 6400000 in
theorem LComplete_any (L : List (List UInt8)) (a : Option Addr) (n c i : Nat) (w : World) (hr : RdD w a n c L) :
    Calls Try.prog 6 #[.slice a n c, .int .u64 (i : Int)] w fun e w' => e = .returned (.bool true) ∧ Below w.heap.size w w' := by
  have HW := Lib.hid (fun w => awake_any w)
  by_cases h0 : n = 0
  · subst h0
    go_enter Try.func6, Try.ntmps6
    go_wp2_with (go_at_call 12; refine (HW.out _).mono ?_; rintro e w1 ⟨rfl, hb1⟩)
    go_ret
    exact ⟨rfl, hb1⟩
  · have hn0 : ¬ ((n : Int) = 0) := by omega
    by_cases h3 : 300 < n
    · have hn3 : (300 : Int) < (n : Int) := by omega
      go_enter Try.func6, Try.ntmps6
      go_wp2_with (go_at_call 12; refine (HW.out _).mono ?_; rintro e w1 ⟨rfl, hb1⟩)
      go_ret
      exact ⟨rfl, hb1⟩
    · have hn3 : ¬ ((300 : Int) < (n : Int)) := by omega
      have hn4 : (n : Int) ≤ 300 := by omega
      have hz0 : ((n : Int) == 0) = false := by simp; omega
      have hz3 : decide ((300 : Int) < (n : Int)) = false := decide_eq_false hn3
      have hl := hr.len
      obtain ⟨j, hj⟩ : ∃ j, j = i % n := ⟨_, rfl⟩
      have hjn : j < n := by rw [hj]; exact Nat.mod_lt _ (by omega)
      have hji : Hid ((i : Int) % (n : Int) = (j : Int)) := by show _ = _; rw [hj]; rfl
      have okj : okR j n = true := by simp [okR]; omega
      have hpL : pL L j = pathF L j := by unfold pL; rw [hl, okj, if_pos rfl]
      have hpl : (pL L j).length = (rgF j n 0).length := by rw [pL_len, hl]; unfold rL; rw [okj, if_pos rfl]
      have hq20 : (pL L j).length ≤ 20 := by rw [hpl]; exact rg_few j n 0 (by omega)
      have hok : okH j n (pL L j).length = true := by unfold okH; rw [okj, hpl]; unfold rL; rw [okj, if_pos rfl]; simp
      have hhd : hdV (L.getD j []) j n (pL L j) = rootF L := by
        unfold hdV
        rw [hok, if_pos rfl, hpL]
        have := head_path n L j (by omega) (by omega)
        rwa [hl] at this
      have hall := hr.all
      have lr : (rootF L).length = 32 := rootF_len hall
      have ly : (L.getD j []).length = 32 := hall j (by omega)
      have hpa := pL_all hall j
      have v1 : verB (L.getD j []) j n (pL L j) (rootF L) = true := by unfold verB; rw [hok, hhd]; simp
      have hrl : (rL j n).length = (pL L j).length := by rw [pL_len, hl]
      have v2 : verB (L.getD j []) j n (pL L j ++ [Z8 32]) (rootF L) = false := ver_no (by unfold okH; rw [hrl, List.length_append]; simp)
      have v3 : 1 ≤ (pL L j).length → verB (L.getD j []) j n ((pL L j).drop 1) (rootF L) = false := fun h1 => ver_no (by unfold okH; rw [hrl, List.length_drop, Bool.and_eq_false_iff]; right; simp; omega)
      have v4 : verB (L.getD j []) n n (pL L j) (rootF L) = false := ver_no (by unfold okH okR; simp)
      have e0 : hdE j n (pL L j).length = 0 := by unfold hdE; rw [hok]; rfl
      have e1 : rE j n = 0 := by unfold rE; rw [okj]; rfl
      obtain ⟨b, off, rfl, hbl, -⟩ := hr.mem (by omega)
      have hyr := hr.range j hjn
      have HRT := Lib.hid (fun wx (hb : Below w.heap.size w wx) => Root_any n L (by omega) _ n c wx (by omega) (hr.to hb))
      have HPA := Lib.hid (fun wx (hb : Below w.heap.size w wx) => Path_any L j _ n c wx (hr.to hb) (by omega))
      obtain ⟨q, hq⟩ : ∃ q, q = (pL L j).length := ⟨_, rfl⟩
      rw [← hq] at e0 hq20 v3
      obtain ⟨y, hy⟩ : ∃ y, y = L.getD j [] := ⟨_, rfl⟩
      rw [← hy] at hhd ly v1 v2 v3 v4 hyr
      have HHD := Lib.hid (fun wx a c (h : RdD wx a q c (pL L j)) => Head_any y j n a q c (pL L j) wx ly h (by omega))
      have HV1 := Lib.hid (fun wx a c (h : RdD wx a q c (pL L j)) => Verify_any y (rootF L) j n a q c (pL L j) wx ly lr h (by omega))
      have HV2 := Lib.hid (fun wx a c (h : RdD wx a (q + 1) c (pL L j ++ [Z8 32])) => Verify_any y (rootF L) j n a (q + 1) c (pL L j ++ [Z8 32]) wx ly lr h (by omega))
      have HV3 := Lib.hid (fun (h1 : 1 ≤ q) wx a c (h : RdD wx a (q - 1) c ((pL L j).drop 1)) => by
        have h2 := Verify_any y (rootF L) j n a (q - 1) c ((pL L j).drop 1) wx ly lr h (by omega)
        rwa [v3 h1] at h2)
      have HV4 := Lib.hid (fun wx a c (h : RdD wx a q c (pL L j)) => Verify_any y (rootF L) n n a q c (pL L j) wx ly lr h (by omega))
      rw [hhd, e0] at HHD
      rw [v1] at HV1
      rw [v2] at HV2
      rw [v4] at HV4
      rw [e1] at HPA
      generalize rootF L = RT at *
      generalize pL L j = P at *
      have HQ := Lib.hid hq
      have LR := Lib.hid lr
      have LY := Lib.hid ly
      have IR : Hid ((Try.prog.info? 41).map (·.size) = some (bvs RT).length) := by show _ = _; rw [bvs_len, lr]; exact sizeD
      have IY : Hid ((Try.prog.info? 41).map (·.size) = some (bvs y).length) := by show _ = _; rw [bvs_len, ly]; exact sizeD
      have R32 : Hid ((bvs RT).length = 32) := by show _ = _; rw [bvs_len]; exact lr
      have HYR := Lib.hid hyr
      have HBL := Lib.hid hbl
      have hq2 : (q : Int) ≤ 20 := by omega
      have hqn : decide ((20 : Int) < (q : Int)) = false := decide_eq_false (by omega)
      have hj0 : (0 : Int) ≤ (j : Int) := by omega
      have hj1 : (j : Int) < (n : Int) := by omega
      have HPALL := Lib.hid hpa
      have HQ20 := Lib.hid hq20
      clear v1 v2 v3 v4 hhd ly lr e0 e1 hpL hpl hq hy hyr hall hrl hok okj hj hjn hl h0 h3 hbl hpa hq20 hr
      go_enter Try.func6, Try.ntmps6
      go_upto_region 7 with (go_at_call 12; refine (HW.out _).mono ?_; rintro e w1 ⟨rfl, hb1⟩)
      go_simp
      rw [hji.out]
      go_upto_region 10 with (first
        | (go_at_call 21; refine (HRT.out _ hb1).mono ?_; rintro e w2 ⟨rfl, hb2⟩)
        | ((with_reducible show wpList _ _ _ (⟨some 6, .alloc _, _, _, _, _⟩ :: _) _ _); refine wl_alloc rfl 41 rfl (bvs (Z8 32)) 32 infoD ?_; intro w3 hA3 hb3 hs3)
        | ((with_reducible show wpList _ _ _ (⟨none, .store _ (.tmp 6) _, _, _, _, _⟩ :: _) _ _); refine wl_store rfl 41 _ _ rfl w2.heap.size 0 rfl (bvs RT) rfl 41 _ hA3 IR.out (by rw [R32.out]; exact (by decide : 0 + 32 ≤ (bvs (Z8 32)).length)) (bvs_one _) ?_; intro w4 hA4 hg4 hs4; rw [whole_store _ _ (by rw [R32.out]; rfl)] at hA4; have b14 : Below w1.heap.size w1 w4 := (hb2.trans (hb3.mono hb2.size)).grown hg4 (by have := hb2.size; have := hb3.size; omega) (by intro k e; injection e with e; have := hb2.size; omega); have b04 : Below w.heap.size w w4 := hb1.trans (b14.mono hb1.size))
        | (go_at_call 14; refine (HPA.out _ b04).mono ?_; rintro e w5 ⟨v5, rfl, hO5, hb5⟩; obtain ⟨a5, c5, rfl, hr5⟩ := hO5.rd; rw [← HQ.out] at hr5 ⊢; have b05 : Below w.heap.size w w5 := b04.trans (hb5.mono b04.size))
        | ((with_reducible show wpList _ _ _ (⟨some 40, .load _ _, _, _, _, _⟩ :: _) _ _); refine wpList_load_mid rfl 41 _ rfl b (off + j * 32) rfl (bvs y) (.array 32 5) (fun p v hp => (b05.cell (p := ⟨b, off + j * 32 + p, none⟩) HBL.out).trans (HYR.out p v hp)) Try.underlying41 rfl IY.out ?_)
        | (go_at_call 17; refine (HHD.out _ _ _ hr5).mono ?_; rintro e w6 ⟨rfl, hb6⟩)
        | ((with_reducible show wpList _ _ _ (⟨some 9, .alloc _, _, _, _, _⟩ :: _) _ _); refine wl_alloc rfl 41 rfl (bvs (Z8 32)) 32 infoD ?_; intro w7 hA7 hb7 hs7)
        | ((with_reducible show wpList _ _ _ (⟨none, .store _ (.tmp 9) _, _, _, _, _⟩ :: _) _ _); refine wl_store rfl 41 _ _ rfl w6.heap.size 0 rfl (bvs RT) rfl 41 _ hA7 IR.out (by rw [R32.out]; exact (by decide : 0 + 32 ≤ (bvs (Z8 32)).length)) (bvs_one _) ?_; intro w8 hA8 hg8 hs8; rw [whole_store _ _ (by rw [R32.out]; rfl)] at hA8; have b58 : Below w5.heap.size w5 w8 := (hb6.trans (hb7.mono hb6.size)).grown hg8 (by have := hb6.size; have := hb7.size; omega) (by intro k e; injection e with e; have := hb6.size; omega)))
      have b08 : Below w.heap.size w w8 := b05.trans (b58.mono b05.size)
      have A6 : Arr w8 w2.heap.size 41 (bvs RT) := (hA4.kept hb5).kept b58
      have R5 := hr5.to b58
      obtain ⟨g6, hg6⟩ : ∃ g, g = w2.heap.size := ⟨_, rfl⟩
      obtain ⟨g9, hg9⟩ : ∃ g, g = w6.heap.size := ⟨_, rfl⟩
      go_simp
      rw [← hg6, ← hg9]
      rw [← hg6] at A6
      rw [← hg9] at hA8
      have B08 := Lib.hid b08
      have HG6 : Hid (∀ wx, Below w8.heap.size w8 wx → Arr wx g6 41 (bvs RT)) := fun wx hb => A6.kept hb
      have HG9 : Hid (∀ wx, Below w8.heap.size w8 wx → Arr wx g9 41 (bvs RT)) := fun wx hb => hA8.kept hb
      have HRP : Hid (∀ wx, Below w8.heap.size w8 wx → RdD wx a5 q c5 P) := fun wx hb => R5.to hb
      have HRY : Hid (∀ wx, Below w8.heap.size w8 wx → wx.rangeAt b (off + j * 32) (bvs y)) := fun wx hb p v hp => ((b08.trans (hb.mono b08.size)).cell (p := ⟨b, off + j * 32 + p, none⟩) HBL.out).trans (HYR.out p v hp)
      clear hb1 hb2 hA3 hb3 hs3 hA4 hg4 hs4 b14 b04 hO5 hb5 hr5 b05 hb6 hA7 hb7 hs7 hA8 hg8 hs8 b58 b08 A6 R5 hg6 hg9 hji HRT HPA HHD HBL HYR
      refine wp_region_steps [[], [0], [1], [2], [3, 2], [2, 4], [5], [6], [6], [7, 8, 6], [6, 9], [10], [11], [11], [12, 13, 11], [14, 11], [11], [11], [11], [11], [15, 16, 17, 18, 19, 11], [20, 11], [11, 21], [22], [23], [24, 23], [25, 23], [23, 26]] (by kernel_rfl) (by kernel_rfl) (fun LF aF wx => ∃ v : Nat → Value, aF = ⟨#[.slice (some ⟨b, off, none⟩) n c, .int .u64 ↑j, undef, undef, .bool false, .int .u64 ↑n, .pointer (some ⟨g6, 0, none⟩), .slice a5 q c5, .int .i64 0, .pointer (some ⟨g9, 0, none⟩), .int .i64 0, undef, .bool true, .bool false, .slice (some ⟨b, off, none⟩) n c, .int .i64 ↑n, .bool false, .bool false, .slice (some ⟨b, off, none⟩) n c, .int .i64 ↑n, .bool false, .bool false, .slice (some ⟨b, off, none⟩) n c, .int .i64 ↑n, .int .u64 ↑n, .int .u64 ↑i, .int .u64 ↑n, .int .u64 ↑j, .slice (some ⟨b, off, none⟩) n c, .agg (bvs RT).toArray, .tuple #[.slice a5 q c5, .int .i64 0], .slice (some ⟨b, off, none⟩) n c, .int .u64 ↑j, .tuple #[.slice a5 q c5, .int .i64 0], .slice a5 q c5, .int .i64 0, .tuple #[.agg (bvs RT).toArray, .int .i64 0], .slice (some ⟨b, off, none⟩) n c, .int .u64 ↑j, .pointer (some ⟨b, off + j * 32, none⟩), .agg (bvs y).toArray, .int .u64 ↑j, .int .u64 ↑n, .slice a5 q c5, .tuple #[.agg (bvs RT).toArray, .int .i64 0], .agg (bvs RT).toArray, .int .i64 0, v 47, v 48, v 49, v 50, v 51, v 52, v 53, v 54, v 55, v 56, v 57, v 58, v 59, v 60, v 61, v 62, v 63, v 64, v 65, v 66, v 67, v 68, v 69, v 70, v 71, v 72, v 73, v 74, undef, undef, undef, undef, undef, undef, undef, undef, undef, undef, undef, undef, undef, undef, undef, undef, undef, undef, undef, undef, undef, undef, undef, undef, undef, undef, undef, undef, undef, undef, undef, undef, undef, undef, undef, undef, undef, undef, undef, undef, undef, undef, undef, undef, undef, undef], []⟩ ∧ InvCompA y RT j n q b off c c5 g6 g9 a5 w8 LF v wx) ?_ ⟨?_, ?_, ?_, ?_, ?_, ?_, ?_, ?_, ?_, ?_, ?_, ?_, ?_, ?_, ?_, ?_, ?_, ?_, ?_, ?_, ?_, ?_, ?_, ?_, ?_, ?_, ?_, ?_, trivial⟩ ?_
      · refine ⟨fun _ => undef, rfl, ⟨?_, ?_, ?_, ?_, ?_, ?_, ?_, ?_, ?_, ?_, ?_, ?_, ?_, ?_, ?_, ?_, ?_, ?_, ?_, ?_, ?_, ?_, ?_, ?_, ?_, ?_, ?_, ?_, (Below.refl _ _).drew⟩⟩ <;> (intro h; exact absurd h (by decide))
      · rintro LF aF wx ⟨v, rfl, hI⟩ hL hdep hcl K hK
        go_simp
        exact hK _ _ ⟨(upd v 47 (.int .i64 0)), rfl, ⟨fun _ => rfl, hI.t1, hI.t2, hI.t3, hI.t4, hI.t5, hI.t6, hI.t7, hI.t8, hI.t9, hI.t10, hI.t11, hI.t12, hI.t13, hI.t14, hI.t15, hI.t16, hI.t17, hI.t18, hI.t19, hI.t20, hI.t21, hI.t22, hI.t23, hI.t24, hI.t25, hI.t26, hI.t27, hI.bw⟩⟩
      · rintro LF aF wx ⟨v, rfl, hI⟩ hL hdep hcl K hK
        have e0 := hI.t0 (hdep 0 (by decide))
        rw [e0]
        go_simp
        exact hK _ _ ⟨(upd (upd v 47 (.int .i64 0)) 48 (.bool false)), rfl, ⟨fun _ => rfl, fun _ => rfl, hI.t2, hI.t3, hI.t4, hI.t5, hI.t6, hI.t7, hI.t8, hI.t9, hI.t10, hI.t11, hI.t12, hI.t13, hI.t14, hI.t15, hI.t16, hI.t17, hI.t18, hI.t19, hI.t20, hI.t21, hI.t22, hI.t23, hI.t24, hI.t25, hI.t26, hI.t27, hI.bw⟩⟩
      · rintro LF aF wx ⟨v, rfl, hI⟩ hL hdep hcl K hK
        have e1 := hI.t1 (hdep 1 (by decide))
        rw [e1]
        go_simp
        exact hK _ _ ⟨(upd (upd v 48 (.bool false)) 49 (.bool false)), rfl, ⟨hI.t0, fun _ => rfl, fun _ => rfl, hI.t3, hI.t4, hI.t5, hI.t6, hI.t7, hI.t8, hI.t9, hI.t10, hI.t11, hI.t12, hI.t13, hI.t14, hI.t15, hI.t16, hI.t17, hI.t18, hI.t19, hI.t20, hI.t21, hI.t22, hI.t23, hI.t24, hI.t25, hI.t26, hI.t27, hI.bw⟩⟩
      · rintro LF aF wx ⟨v, rfl, hI⟩ hL hdep hcl K hK
        have e2 := hI.t2 (hdep 2 (by decide))
        rw [e2]
        refine (if_pos rfl).mpr ?_
        go_simp
        exact hK _ _ ⟨(upd (upd v 49 (.bool false)) 50 (.int .i64 0)), rfl, ⟨hI.t0, hI.t1, fun _ => rfl, fun _ => rfl, hI.t4, hI.t5, hI.t6, hI.t7, hI.t8, hI.t9, hI.t10, hI.t11, hI.t12, hI.t13, hI.t14, hI.t15, hI.t16, hI.t17, hI.t18, hI.t19, hI.t20, hI.t21, hI.t22, hI.t23, hI.t24, hI.t25, hI.t26, hI.t27, hI.bw⟩⟩
      · rintro LF aF wx ⟨v, rfl, hI⟩ hL hdep hcl K hK
        have e3 := hI.t3 (hdep 3 (by decide))
        have e2 := hI.t2 (hdep 2 (by decide))
        rw [e3, e2]
        refine (if_pos rfl).mpr ?_
        go_simp
        exact hK _ _ ⟨(upd (upd (upd v 50 (.int .i64 0)) 49 (.bool false)) 51 (.bool false)), rfl, ⟨hI.t0, hI.t1, fun _ => rfl, fun _ => rfl, fun _ => rfl, hI.t5, hI.t6, hI.t7, hI.t8, hI.t9, hI.t10, hI.t11, hI.t12, hI.t13, hI.t14, hI.t15, hI.t16, hI.t17, hI.t18, hI.t19, hI.t20, hI.t21, hI.t22, hI.t23, hI.t24, hI.t25, hI.t26, hI.t27, hI.bw⟩⟩
      · rintro LF aF wx ⟨v, rfl, hI⟩ hL hdep hcl K hK
        have e2 := hI.t2 (hdep 2 (by decide))
        have e4 := hI.t4 (hdep 4 (by decide))
        rw [e2, e4]
        go_simp
        exact hK _ _ ⟨(upd (upd (upd v 49 (.bool false)) 51 (.bool false)) 52 (.bool false)), rfl, ⟨hI.t0, hI.t1, fun _ => rfl, hI.t3, fun _ => rfl, fun _ => rfl, hI.t6, hI.t7, hI.t8, hI.t9, hI.t10, hI.t11, hI.t12, hI.t13, hI.t14, hI.t15, hI.t16, hI.t17, hI.t18, hI.t19, hI.t20, hI.t21, hI.t22, hI.t23, hI.t24, hI.t25, hI.t26, hI.t27, hI.bw⟩⟩
      · rintro LF aF wx ⟨v, rfl, hI⟩ hL hdep hcl K hK
        have e5 := hI.t5 (hdep 5 (by decide))
        rw [e5]
        go_simp
        exact hK _ _ ⟨(upd (upd v 52 (.bool false)) 53 (.bool false)), rfl, ⟨hI.t0, hI.t1, hI.t2, hI.t3, hI.t4, fun _ => rfl, fun _ => rfl, hI.t7, hI.t8, hI.t9, hI.t10, hI.t11, hI.t12, hI.t13, hI.t14, hI.t15, hI.t16, hI.t17, hI.t18, hI.t19, hI.t20, hI.t21, hI.t22, hI.t23, hI.t24, hI.t25, hI.t26, hI.t27, hI.bw⟩⟩
      · rintro LF aF wx ⟨v, rfl, hI⟩ hL hdep hcl K hK
        have e6 := hI.t6 (hdep 6 (by decide))
        rw [e6]
        refine (if_pos rfl).mpr ?_
        refine ow_load 41 _ rfl g9 0 rfl 41 (bvs RT) (bvs RT) (HG9.out wx hI.bw) (fun j v h => by rw [Nat.zero_add]; exact h) (.array 32 5) Try.underlying41 rfl IR.out ?_
        exact hK _ _ ⟨(upd (upd v 53 (.bool false)) 54 (.agg (bvs RT).toArray)), rfl, ⟨hI.t0, hI.t1, hI.t2, hI.t3, hI.t4, hI.t5, fun _ => rfl, fun _ => rfl, hI.t8, hI.t9, hI.t10, hI.t11, hI.t12, hI.t13, hI.t14, hI.t15, hI.t16, hI.t17, hI.t18, hI.t19, hI.t20, hI.t21, hI.t22, hI.t23, hI.t24, hI.t25, hI.t26, hI.t27, hI.bw⟩⟩
      · rintro LF aF wx ⟨v, rfl, hI⟩ hL hdep hcl K hK
        have e6 := hI.t6 (hdep 6 (by decide))
        rw [e6]
        refine (if_pos rfl).mpr ?_
        refine ow_load 41 _ rfl g6 0 rfl 41 (bvs RT) (bvs RT) (HG6.out wx hI.bw) (fun j v h => by rw [Nat.zero_add]; exact h) (.array 32 5) Try.underlying41 rfl IR.out ?_
        exact hK _ _ ⟨(upd (upd v 53 (.bool false)) 55 (.agg (bvs RT).toArray)), rfl, ⟨hI.t0, hI.t1, hI.t2, hI.t3, hI.t4, hI.t5, fun _ => rfl, hI.t7, fun _ => rfl, hI.t9, hI.t10, hI.t11, hI.t12, hI.t13, hI.t14, hI.t15, hI.t16, hI.t17, hI.t18, hI.t19, hI.t20, hI.t21, hI.t22, hI.t23, hI.t24, hI.t25, hI.t26, hI.t27, hI.bw⟩⟩
      · rintro LF aF wx ⟨v, rfl, hI⟩ hL hdep hcl K hK
        have e7 := hI.t7 (hdep 7 (by decide))
        have e8 := hI.t8 (hdep 8 (by decide))
        have e6 := hI.t6 (hdep 6 (by decide))
        rw [e7, e8, e6]
        refine (if_pos rfl).mpr ?_
        refine ow_neSame _ _ _ rfl RT LR.out rfl rfl ?_
        exact hK _ _ ⟨(upd (upd (upd (upd v 54 (.agg (bvs RT).toArray)) 55 (.agg (bvs RT).toArray)) 53 (.bool false)) 56 (.bool false)), rfl, ⟨hI.t0, hI.t1, hI.t2, hI.t3, hI.t4, hI.t5, fun _ => rfl, fun _ => rfl, fun _ => rfl, fun _ => rfl, hI.t10, hI.t11, hI.t12, hI.t13, hI.t14, hI.t15, hI.t16, hI.t17, hI.t18, hI.t19, hI.t20, hI.t21, hI.t22, hI.t23, hI.t24, hI.t25, hI.t26, hI.t27, hI.bw⟩⟩
      · rintro LF aF wx ⟨v, rfl, hI⟩ hL hdep hcl K hK
        have e6 := hI.t6 (hdep 6 (by decide))
        have e9 := hI.t9 (hdep 9 (by decide))
        rw [e6, e9]
        go_simp
        exact hK _ _ ⟨(upd (upd (upd v 53 (.bool false)) 56 (.bool false)) 57 (.bool false)), rfl, ⟨hI.t0, hI.t1, hI.t2, hI.t3, hI.t4, hI.t5, fun _ => rfl, hI.t7, hI.t8, fun _ => rfl, fun _ => rfl, hI.t11, hI.t12, hI.t13, hI.t14, hI.t15, hI.t16, hI.t17, hI.t18, hI.t19, hI.t20, hI.t21, hI.t22, hI.t23, hI.t24, hI.t25, hI.t26, hI.t27, hI.bw⟩⟩
      · rintro LF aF wx ⟨v, rfl, hI⟩ hL hdep hcl K hK
        have e10 := hI.t10 (hdep 10 (by decide))
        rw [e10]
        go_simp
        exact hK _ _ ⟨(upd (upd v 57 (.bool false)) 58 (.bool false)), rfl, ⟨hI.t0, hI.t1, hI.t2, hI.t3, hI.t4, hI.t5, hI.t6, hI.t7, hI.t8, hI.t9, fun _ => rfl, fun _ => rfl, hI.t12, hI.t13, hI.t14, hI.t15, hI.t16, hI.t17, hI.t18, hI.t19, hI.t20, hI.t21, hI.t22, hI.t23, hI.t24, hI.t25, hI.t26, hI.t27, hI.bw⟩⟩
      · rintro LF aF wx ⟨v, rfl, hI⟩ hL hdep hcl K hK
        have e11 := hI.t11 (hdep 11 (by decide))
        rw [e11]
        refine (if_pos rfl).mpr ?_
        go_simp
        exact hK _ _ ⟨(upd (upd v 58 (.bool false)) 59 (.slice (some ⟨b, off, none⟩) n c)), rfl, ⟨hI.t0, hI.t1, hI.t2, hI.t3, hI.t4, hI.t5, hI.t6, hI.t7, hI.t8, hI.t9, hI.t10, fun _ => rfl, fun _ => rfl, hI.t13, hI.t14, hI.t15, hI.t16, hI.t17, hI.t18, hI.t19, hI.t20, hI.t21, hI.t22, hI.t23, hI.t24, hI.t25, hI.t26, hI.t27, hI.bw⟩⟩
      · rintro LF aF wx ⟨v, rfl, hI⟩ hL hdep hcl K hK
        have e11 := hI.t11 (hdep 11 (by decide))
        rw [e11]
        refine (if_pos rfl).mpr ?_
        go_simp
        exact hK _ _ ⟨(upd (upd v 58 (.bool false)) 60 (.int .u64 ↑j)), rfl, ⟨hI.t0, hI.t1, hI.t2, hI.t3, hI.t4, hI.t5, hI.t6, hI.t7, hI.t8, hI.t9, hI.t10, fun _ => rfl, hI.t12, fun _ => rfl, hI.t14, hI.t15, hI.t16, hI.t17, hI.t18, hI.t19, hI.t20, hI.t21, hI.t22, hI.t23, hI.t24, hI.t25, hI.t26, hI.t27, hI.bw⟩⟩
      · rintro LF aF wx ⟨v, rfl, hI⟩ hL hdep hcl K hK
        have e12 := hI.t12 (hdep 12 (by decide))
        have e13 := hI.t13 (hdep 13 (by decide))
        have e11 := hI.t11 (hdep 11 (by decide))
        rw [e12, e13, e11]
        refine (if_pos rfl).mpr ?_
        go_simp
        exact hK _ _ ⟨(upd (upd (upd (upd v 59 (.slice (some ⟨b, off, none⟩) n c)) 60 (.int .u64 ↑j)) 58 (.bool false)) 61 (.pointer (some ⟨b, off + j * 32, none⟩))), rfl, ⟨hI.t0, hI.t1, hI.t2, hI.t3, hI.t4, hI.t5, hI.t6, hI.t7, hI.t8, hI.t9, hI.t10, fun _ => rfl, fun _ => rfl, fun _ => rfl, fun _ => rfl, hI.t15, hI.t16, hI.t17, hI.t18, hI.t19, hI.t20, hI.t21, hI.t22, hI.t23, hI.t24, hI.t25, hI.t26, hI.t27, hI.bw⟩⟩
      · rintro LF aF wx ⟨v, rfl, hI⟩ hL hdep hcl K hK
        have e14 := hI.t14 (hdep 14 (by decide))
        have e11 := hI.t11 (hdep 11 (by decide))
        rw [e14, e11]
        refine (if_pos rfl).mpr ?_
        refine wp_load_mid 41 _ rfl b (off + j * 32) rfl (bvs y) (.array 32 5) (HRY.out wx hI.bw) Try.underlying41 rfl IY.out ?_
        exact hK _ _ ⟨(upd (upd (upd v 61 (.pointer (some ⟨b, off + j * 32, none⟩))) 58 (.bool false)) 62 (.agg (bvs y).toArray)), rfl, ⟨hI.t0, hI.t1, hI.t2, hI.t3, hI.t4, hI.t5, hI.t6, hI.t7, hI.t8, hI.t9, hI.t10, fun _ => rfl, hI.t12, hI.t13, fun _ => rfl, fun _ => rfl, hI.t16, hI.t17, hI.t18, hI.t19, hI.t20, hI.t21, hI.t22, hI.t23, hI.t24, hI.t25, hI.t26, hI.t27, hI.bw⟩⟩
      · rintro LF aF wx ⟨v, rfl, hI⟩ hL hdep hcl K hK
        have e11 := hI.t11 (hdep 11 (by decide))
        rw [e11]
        refine (if_pos rfl).mpr ?_
        go_simp
        exact hK _ _ ⟨(upd (upd v 58 (.bool false)) 63 (.int .u64 ↑j)), rfl, ⟨hI.t0, hI.t1, hI.t2, hI.t3, hI.t4, hI.t5, hI.t6, hI.t7, hI.t8, hI.t9, hI.t10, fun _ => rfl, hI.t12, hI.t13, hI.t14, hI.t15, fun _ => rfl, hI.t17, hI.t18, hI.t19, hI.t20, hI.t21, hI.t22, hI.t23, hI.t24, hI.t25, hI.t26, hI.t27, hI.bw⟩⟩
      · rintro LF aF wx ⟨v, rfl, hI⟩ hL hdep hcl K hK
        have e11 := hI.t11 (hdep 11 (by decide))
        rw [e11]
        refine (if_pos rfl).mpr ?_
        go_simp
        exact hK _ _ ⟨(upd (upd v 58 (.bool false)) 64 (.int .u64 ↑n)), rfl, ⟨hI.t0, hI.t1, hI.t2, hI.t3, hI.t4, hI.t5, hI.t6, hI.t7, hI.t8, hI.t9, hI.t10, fun _ => rfl, hI.t12, hI.t13, hI.t14, hI.t15, hI.t16, fun _ => rfl, hI.t18, hI.t19, hI.t20, hI.t21, hI.t22, hI.t23, hI.t24, hI.t25, hI.t26, hI.t27, hI.bw⟩⟩
      · rintro LF aF wx ⟨v, rfl, hI⟩ hL hdep hcl K hK
        have e11 := hI.t11 (hdep 11 (by decide))
        rw [e11]
        refine (if_pos rfl).mpr ?_
        go_simp
        exact hK _ _ ⟨(upd (upd v 58 (.bool false)) 65 (.slice a5 q c5)), rfl, ⟨hI.t0, hI.t1, hI.t2, hI.t3, hI.t4, hI.t5, hI.t6, hI.t7, hI.t8, hI.t9, hI.t10, fun _ => rfl, hI.t12, hI.t13, hI.t14, hI.t15, hI.t16, hI.t17, fun _ => rfl, hI.t19, hI.t20, hI.t21, hI.t22, hI.t23, hI.t24, hI.t25, hI.t26, hI.t27, hI.bw⟩⟩
      · rintro LF aF wx ⟨v, rfl, hI⟩ hL hdep hcl K hK
        have e11 := hI.t11 (hdep 11 (by decide))
        rw [e11]
        refine (if_pos rfl).mpr ?_
        refine ow_load 41 _ rfl g6 0 rfl 41 (bvs RT) (bvs RT) (HG6.out wx hI.bw) (fun j v h => by rw [Nat.zero_add]; exact h) (.array 32 5) Try.underlying41 rfl IR.out ?_
        exact hK _ _ ⟨(upd (upd v 58 (.bool false)) 66 (.agg (bvs RT).toArray)), rfl, ⟨hI.t0, hI.t1, hI.t2, hI.t3, hI.t4, hI.t5, hI.t6, hI.t7, hI.t8, hI.t9, hI.t10, fun _ => rfl, hI.t12, hI.t13, hI.t14, hI.t15, hI.t16, hI.t17, hI.t18, fun _ => rfl, hI.t20, hI.t21, hI.t22, hI.t23, hI.t24, hI.t25, hI.t26, hI.t27, hI.bw⟩⟩
      · rintro LF aF wx ⟨v, rfl, hI⟩ hL hdep hcl K hK
        have e15 := hI.t15 (hdep 15 (by decide))
        have e16 := hI.t16 (hdep 16 (by decide))
        have e17 := hI.t17 (hdep 17 (by decide))
        have e18 := hI.t18 (hdep 18 (by decide))
        have e19 := hI.t19 (hdep 19 (by decide))
        have e11 := hI.t11 (hdep 11 (by decide))
        rw [e15, e16, e17, e18, e19, e11]
        refine (if_pos rfl).mpr ?_
        have HCC := HV1.out wx _ _ (HRP.out wx hI.bw)
        go_simp
        refine HCC.mono ?_
        rintro e w' ⟨rfl, hb⟩
        exact hK _ _ ⟨(upd (upd (upd (upd (upd (upd (upd v 62 (.agg (bvs y).toArray)) 63 (.int .u64 ↑j)) 64 (.int .u64 ↑n)) 65 (.slice a5 q c5)) 66 (.agg (bvs RT).toArray)) 58 (.bool false)) 67 (.bool true)), rfl, ⟨hI.t0, hI.t1, hI.t2, hI.t3, hI.t4, hI.t5, hI.t6, hI.t7, hI.t8, hI.t9, hI.t10, fun _ => rfl, hI.t12, hI.t13, hI.t14, fun _ => rfl, fun _ => rfl, fun _ => rfl, fun _ => rfl, fun _ => rfl, fun _ => rfl, hI.t21, hI.t22, hI.t23, hI.t24, hI.t25, hI.t26, hI.t27, (hI.bw).trans (hb.mono (hI.bw).size)⟩⟩
      · rintro LF aF wx ⟨v, rfl, hI⟩ hL hdep hcl K hK
        have e20 := hI.t20 (hdep 20 (by decide))
        have e11 := hI.t11 (hdep 11 (by decide))
        rw [e20, e11]
        refine (if_pos rfl).mpr ?_
        go_simp
        exact hK _ _ ⟨(upd (upd (upd v 67 (.bool true)) 58 (.bool false)) 68 (.bool false)), rfl, ⟨hI.t0, hI.t1, hI.t2, hI.t3, hI.t4, hI.t5, hI.t6, hI.t7, hI.t8, hI.t9, hI.t10, fun _ => rfl, hI.t12, hI.t13, hI.t14, hI.t15, hI.t16, hI.t17, hI.t18, hI.t19, fun _ => rfl, fun _ => rfl, hI.t22, hI.t23, hI.t24, hI.t25, hI.t26, hI.t27, hI.bw⟩⟩
      · rintro LF aF wx ⟨v, rfl, hI⟩ hL hdep hcl K hK
        have e11 := hI.t11 (hdep 11 (by decide))
        have e21 := hI.t21 (hdep 21 (by decide))
        rw [e11, e21]
        go_simp
        exact hK _ _ ⟨(upd (upd (upd v 58 (.bool false)) 68 (.bool false)) 69 (.bool false)), rfl, ⟨hI.t0, hI.t1, hI.t2, hI.t3, hI.t4, hI.t5, hI.t6, hI.t7, hI.t8, hI.t9, hI.t10, fun _ => rfl, hI.t12, hI.t13, hI.t14, hI.t15, hI.t16, hI.t17, hI.t18, hI.t19, hI.t20, fun _ => rfl, fun _ => rfl, hI.t23, hI.t24, hI.t25, hI.t26, hI.t27, hI.bw⟩⟩
      · rintro LF aF wx ⟨v, rfl, hI⟩ hL hdep hcl K hK
        have e22 := hI.t22 (hdep 22 (by decide))
        rw [e22]
        go_simp
        exact hK _ _ ⟨(upd (upd v 69 (.bool false)) 70 (.bool false)), rfl, ⟨hI.t0, hI.t1, hI.t2, hI.t3, hI.t4, hI.t5, hI.t6, hI.t7, hI.t8, hI.t9, hI.t10, hI.t11, hI.t12, hI.t13, hI.t14, hI.t15, hI.t16, hI.t17, hI.t18, hI.t19, hI.t20, hI.t21, fun _ => rfl, fun _ => rfl, hI.t24, hI.t25, hI.t26, hI.t27, hI.bw⟩⟩
      · rintro LF aF wx ⟨v, rfl, hI⟩ hL hdep hcl K hK
        have e23 := hI.t23 (hdep 23 (by decide))
        rw [e23]
        refine (if_pos rfl).mpr ?_
        go_simp
        exact hK _ _ ⟨(upd (upd v 70 (.bool false)) 71 (.slice a5 q c5)), rfl, ⟨hI.t0, hI.t1, hI.t2, hI.t3, hI.t4, hI.t5, hI.t6, hI.t7, hI.t8, hI.t9, hI.t10, hI.t11, hI.t12, hI.t13, hI.t14, hI.t15, hI.t16, hI.t17, hI.t18, hI.t19, hI.t20, hI.t21, hI.t22, fun _ => rfl, fun _ => rfl, hI.t25, hI.t26, hI.t27, hI.bw⟩⟩
      · rintro LF aF wx ⟨v, rfl, hI⟩ hL hdep hcl K hK
        have e24 := hI.t24 (hdep 24 (by decide))
        have e23 := hI.t23 (hdep 23 (by decide))
        rw [e24, e23]
        refine (if_pos rfl).mpr ?_
        go_simp
        exact hK _ _ ⟨(upd (upd (upd v 71 (.slice a5 q c5)) 70 (.bool false)) 72 (.int .i64 (q : Int))), rfl, ⟨hI.t0, hI.t1, hI.t2, hI.t3, hI.t4, hI.t5, hI.t6, hI.t7, hI.t8, hI.t9, hI.t10, hI.t11, hI.t12, hI.t13, hI.t14, hI.t15, hI.t16, hI.t17, hI.t18, hI.t19, hI.t20, hI.t21, hI.t22, fun _ => rfl, fun _ => rfl, fun _ => rfl, hI.t26, hI.t27, hI.bw⟩⟩
      · rintro LF aF wx ⟨v, rfl, hI⟩ hL hdep hcl K hK
        have e25 := hI.t25 (hdep 25 (by decide))
        have e23 := hI.t23 (hdep 23 (by decide))
        rw [e25, e23]
        refine (if_pos rfl).mpr ?_
        go_simp
        exact hK _ _ ⟨(upd (upd (upd v 72 (.int .i64 (q : Int))) 70 (.bool false)) 73 (.bool false)), rfl, ⟨hI.t0, hI.t1, hI.t2, hI.t3, hI.t4, hI.t5, hI.t6, hI.t7, hI.t8, hI.t9, hI.t10, hI.t11, hI.t12, hI.t13, hI.t14, hI.t15, hI.t16, hI.t17, hI.t18, hI.t19, hI.t20, hI.t21, hI.t22, fun _ => rfl, hI.t24, fun _ => rfl, fun _ => rfl, hI.t27, hI.bw⟩⟩
      · rintro LF aF wx ⟨v, rfl, hI⟩ hL hdep hcl K hK
        have e23 := hI.t23 (hdep 23 (by decide))
        have e26 := hI.t26 (hdep 26 (by decide))
        rw [e23, e26]
        go_simp
        exact hK _ _ ⟨(upd (upd (upd v 70 (.bool false)) 73 (.bool false)) 74 (.bool false)), rfl, ⟨hI.t0, hI.t1, hI.t2, hI.t3, hI.t4, hI.t5, hI.t6, hI.t7, hI.t8, hI.t9, hI.t10, hI.t11, hI.t12, hI.t13, hI.t14, hI.t15, hI.t16, hI.t17, hI.t18, hI.t19, hI.t20, hI.t21, hI.t22, fun _ => rfl, hI.t24, hI.t25, fun _ => rfl, fun _ => rfl, hI.bw⟩⟩
      · rintro aF wx ⟨vF, rfl, hI⟩
        have e := hI.t27 rfl
        have hbw := hI.bw
        clear hI
        rw [e]
        obtain ⟨w9, hw9⟩ : ∃ W, W = wx := ⟨_, rfl⟩
        rw [← hw9] at hbw ⊢
        clear hw9
        have hb9 := hbw
        clear hbw
        have Z32 : Hid ((Z8 32).length = 32) := by show _ = _; simp [Z8]
        go_upto_region 13 with (first
          | ((with_reducible show wpList _ _ _ (⟨some 77, _, _, _, _, _⟩ :: _) _ _); refine wl_rowD rfl (.tmp 75) (.tmp 76) rfl w9.heap.size _ [] rfl (own_lit0 w9) a5 q c5 P rfl ((HRP.out w9 hb9).to ((Below.refl _ _).alloc (Nat.le_refl _) _)) (by have := HQ20.out; simp; omega) (by simp) ?_; intro v10 w10 ho10 hb10; rw [List.nil_append] at ho10)
          | ((with_reducible show wpList _ _ _ (⟨some 78, .build _ _, _, _, _, _⟩ :: _) _ _); refine wpList_buildTo rfl 41 _ rfl (some 78) rfl (bvs (Z8 32)).toArray builtD0 ?_)
          | ((with_reducible show wpList _ _ _ (⟨some 79, .buildSlice _ _ _, _, _, _, _⟩ :: _) _ _); refine wl_litD rfl 78 rfl (Z8 32) Z32.out rfl ?_; intro w11 hA11 hb11)
          | ((with_reducible show wpList _ _ _ (⟨some 80, _, _, _, _, _⟩ :: _) _ _); refine wl_appendD rfl (.tmp 77) (.tmp 79) rfl w9.heap.size _ P rfl (ho10.to hb11) w10.heap.size (Z8 32) rfl hA11 Z32.out (by have := HQ20.out; have := HQ.out; omega) (by have := hb10.size; have := hb11.size; simp at *; omega) ?_; intro v12 w12 ho12 hb12; obtain ⟨a12, c12, rfl, hr12⟩ := ho12.rd; rw [List.length_append, ← HQ.out, List.length_singleton] at hr12 ⊢))
        have b912 : Below w9.heap.size w9 w12 := by
          have k1 : Below w9.heap.size w9 w10 := ((Below.refl _ _).alloc (Nat.le_refl _) _).trans hb10
          exact (k1.trans (hb11.mono k1.size)).trans hb12
        have b812 : Below w8.heap.size w8 w12 := hb9.trans (b912.mono hb9.size)
        have B012 := Lib.hid (B08.out.trans (b812.mono B08.out.size))
        have HG6 : Hid (∀ wx, Below w12.heap.size w12 wx → Arr wx g6 41 (bvs RT)) := fun wx hb => HG6.out _ (b812.trans (hb.mono b812.size))
        have HRP : Hid (∀ wx, Below w12.heap.size w12 wx → RdD wx a5 q c5 P) := fun wx hb => HRP.out _ (b812.trans (hb.mono b812.size))
        have HRY : Hid (∀ wx, Below w12.heap.size w12 wx → wx.rangeAt b (off + j * 32) (bvs y)) := fun wx hb => HRY.out _ (b812.trans (hb.mono b812.size))
        have HRM : Hid (∀ wx, Below w12.heap.size w12 wx → RdD wx a12 (q + 1) c12 (P ++ [Z8 32])) := fun wx hb => hr12.to hb
        have W1 : Hid (∀ wx, Below w12.heap.size w12 wx → Calls Try.prog 19 #[.agg (bvs y).toArray, .int .u64 (j : Int), .int .u64 (n : Int), .slice a12 (q + 1) c12, .agg (bvs RT).toArray] wx fun e w' => e = .returned (.bool false) ∧ Below wx.heap.size wx w') := fun wx hb => HV2.out wx _ _ (HRM.out wx hb)
        have W3 : Hid (∀ wx, Below w12.heap.size w12 wx → Calls Try.prog 19 #[.agg (bvs y).toArray, .int .u64 (n : Int), .int .u64 (n : Int), .slice a5 q c5, .agg (bvs RT).toArray] wx fun e w' => e = .returned (.bool false) ∧ Below wx.heap.size wx w') := fun wx hb => HV4.out wx _ _ (HRP.out wx hb)
        go_simp
        clear ho10 hb10 hA11 hb11 ho12 hb12 hr12 b912 b812 hb9
        by_cases hq0 : q = 0
        · subst hq0
          refine wp_region_steps [[], [], [0, 1], [2], [], [], [], [], [3, 4, 5, 6, 7], [8], [9], [10], [11, 10], [12, 10], [13, 10], [14], [14], [14], [14], [14], [14], [14], [14], [14], [14], [14], [14, 25, 10], [10, 26], [27], [28], [28], [29, 30, 28], [31, 28], [28], [28], [28], [28], [32, 33, 34, 35, 36, 28], [37, 28], [28, 38], [39]] (by kernel_rfl) (by kernel_rfl) (fun LF aF wx => ∃ v : Nat → Value, aF = ⟨#[.slice (some ⟨b, off, none⟩) n c, .int .u64 ↑j, undef, undef, v 4, .int .u64 ↑n, .pointer (some ⟨g6, 0, none⟩), .slice a5 0 c5, .int .i64 0, .pointer (some ⟨g9, 0, none⟩), .int .i64 0, .slice a12 (0 + 1) c12, .bool true, .bool false, .slice (some ⟨b, off, none⟩) n c, .int .i64 ↑n, .bool false, .bool false, .slice (some ⟨b, off, none⟩) n c, .int .i64 ↑n, .bool false, .bool false, .slice (some ⟨b, off, none⟩) n c, .int .i64 ↑n, .int .u64 ↑n, .int .u64 ↑i, .int .u64 ↑n, .int .u64 ↑j, .slice (some ⟨b, off, none⟩) n c, .agg (bvs RT).toArray, .tuple #[.slice a5 0 c5, .int .i64 0], .slice (some ⟨b, off, none⟩) n c, .int .u64 ↑j, .tuple #[.slice a5 0 c5, .int .i64 0], .slice a5 0 c5, .int .i64 0, .tuple #[.agg (bvs RT).toArray, .int .i64 0], .slice (some ⟨b, off, none⟩) n c, .int .u64 ↑j, .pointer (some ⟨b, off + j * 32, none⟩), .agg (bvs y).toArray, .int .u64 ↑j, .int .u64 ↑n, .slice a5 0 c5, .tuple #[.agg (bvs RT).toArray, .int .i64 0], .agg (bvs RT).toArray, .int .i64 0, vF 47, vF 48, vF 49, vF 50, vF 51, vF 52, vF 53, vF 54, vF 55, vF 56, vF 57, vF 58, vF 59, vF 60, vF 61, vF 62, vF 63, vF 64, vF 65, vF 66, vF 67, vF 68, vF 69, vF 70, vF 71, vF 72, vF 73, .bool false, .slice (some ⟨w9.heap.size, 0, none⟩) 0 0, .slice a5 0 c5, v10, .agg #[.int .u8 0, .int .u8 0, .int .u8 0, .int .u8 0, .int .u8 0, .int .u8 0, .int .u8 0, .int .u8 0, .int .u8 0, .int .u8 0, .int .u8 0, .int .u8 0, .int .u8 0, .int .u8 0, .int .u8 0, .int .u8 0, .int .u8 0, .int .u8 0, .int .u8 0, .int .u8 0, .int .u8 0, .int .u8 0, .int .u8 0, .int .u8 0, .int .u8 0, .int .u8 0, .int .u8 0, .int .u8 0, .int .u8 0, .int .u8 0, .int .u8 0, .int .u8 0], .slice (some ⟨w10.heap.size, 0, none⟩) 1 1, .slice a12 (0 + 1) c12, v 81, v 82, v 83, v 84, v 85, v 86, v 87, v 88, v 89, v 90, v 91, v 92, v 93, v 94, v 95, v 96, v 97, v 98, v 99, v 100, v 101, v 102, v 103, v 104, v 105, v 106, v 107, v 108, v 109, v 110, v 111, v 112, v 113, v 114, v 115, v 116, v 117, v 118, v 119, v 120], []⟩ ∧ InvComp13A y RT j n b off c c5 c12 g6 a5 a12 w12 LF v wx) ?_ ⟨?_, ?_, ?_, ?_, ?_, ?_, ?_, ?_, ?_, ?_, ?_, ?_, ?_, ?_, ?_, ?_, ?_, ?_, ?_, ?_, ?_, ?_, ?_, ?_, ?_, ?_, ?_, ?_, ?_, ?_, ?_, ?_, ?_, ?_, ?_, ?_, ?_, ?_, ?_, ?_, ?_, trivial⟩ ?_
          · refine ⟨upd (fun _ => undef) 4 (.bool false), rfl, ⟨?_, ?_, ?_, ?_, ?_, ?_, ?_, ?_, ?_, ?_, ?_, ?_, ?_, ?_, ?_, ?_, ?_, ?_, ?_, ?_, ?_, ?_, ?_, ?_, ?_, ?_, ?_, ?_, ?_, ?_, ?_, ?_, ?_, ?_, ?_, ?_, ?_, ?_, ?_, ?_, ?_, (Below.refl _ _).drew⟩⟩ <;> (intro h; exact absurd h (by decide))
          · rintro LF aF wx ⟨v, rfl, hI⟩ hL hdep hcl K hK
            go_simp
            exact hK _ _ ⟨(upd v 81 (.slice (some ⟨b, off, none⟩) n c)), rfl, ⟨fun _ => rfl, hI.t1, hI.t2, hI.t3, hI.t4, hI.t5, hI.t6, hI.t7, hI.t8, hI.t9, hI.t10, hI.t11, hI.t12, hI.t13, hI.t14, hI.t15, hI.t16, hI.t17, hI.t18, hI.t19, hI.t20, hI.t21, hI.t22, hI.t23, hI.t24, hI.t25, hI.t26, hI.t27, hI.t28, hI.t29, hI.t30, hI.t31, hI.t32, hI.t33, hI.t34, hI.t35, hI.t36, hI.t37, hI.t38, hI.t39, hI.t40, hI.bw⟩⟩
          · rintro LF aF wx ⟨v, rfl, hI⟩ hL hdep hcl K hK
            go_simp
            exact hK _ _ ⟨(upd v 82 (.int .u64 ↑j)), rfl, ⟨hI.t0, fun _ => rfl, hI.t2, hI.t3, hI.t4, hI.t5, hI.t6, hI.t7, hI.t8, hI.t9, hI.t10, hI.t11, hI.t12, hI.t13, hI.t14, hI.t15, hI.t16, hI.t17, hI.t18, hI.t19, hI.t20, hI.t21, hI.t22, hI.t23, hI.t24, hI.t25, hI.t26, hI.t27, hI.t28, hI.t29, hI.t30, hI.t31, hI.t32, hI.t33, hI.t34, hI.t35, hI.t36, hI.t37, hI.t38, hI.t39, hI.t40, hI.bw⟩⟩
          · rintro LF aF wx ⟨v, rfl, hI⟩ hL hdep hcl K hK
            have e0 := hI.t0 (hdep 0 (by decide))
            have e1 := hI.t1 (hdep 1 (by decide))
            rw [e0, e1]
            go_simp
            exact hK _ _ ⟨(upd (upd (upd v 81 (.slice (some ⟨b, off, none⟩) n c)) 82 (.int .u64 ↑j)) 83 (.pointer (some ⟨b, off + j * 32, none⟩))), rfl, ⟨fun _ => rfl, fun _ => rfl, fun _ => rfl, hI.t3, hI.t4, hI.t5, hI.t6, hI.t7, hI.t8, hI.t9, hI.t10, hI.t11, hI.t12, hI.t13, hI.t14, hI.t15, hI.t16, hI.t17, hI.t18, hI.t19, hI.t20, hI.t21, hI.t22, hI.t23, hI.t24, hI.t25, hI.t26, hI.t27, hI.t28, hI.t29, hI.t30, hI.t31, hI.t32, hI.t33, hI.t34, hI.t35, hI.t36, hI.t37, hI.t38, hI.t39, hI.t40, hI.bw⟩⟩
          · rintro LF aF wx ⟨v, rfl, hI⟩ hL hdep hcl K hK
            have e2 := hI.t2 (hdep 2 (by decide))
            rw [e2]
            refine wp_load_mid 41 _ rfl b (off + j * 32) rfl (bvs y) (.array 32 5) (HRY.out wx hI.bw) Try.underlying41 rfl IY.out ?_
            exact hK _ _ ⟨(upd (upd v 83 (.pointer (some ⟨b, off + j * 32, none⟩))) 84 (.agg (bvs y).toArray)), rfl, ⟨hI.t0, hI.t1, fun _ => rfl, fun _ => rfl, hI.t4, hI.t5, hI.t6, hI.t7, hI.t8, hI.t9, hI.t10, hI.t11, hI.t12, hI.t13, hI.t14, hI.t15, hI.t16, hI.t17, hI.t18, hI.t19, hI.t20, hI.t21, hI.t22, hI.t23, hI.t24, hI.t25, hI.t26, hI.t27, hI.t28, hI.t29, hI.t30, hI.t31, hI.t32, hI.t33, hI.t34, hI.t35, hI.t36, hI.t37, hI.t38, hI.t39, hI.t40, hI.bw⟩⟩
          · rintro LF aF wx ⟨v, rfl, hI⟩ hL hdep hcl K hK
            go_simp
            exact hK _ _ ⟨(upd v 85 (.int .u64 ↑j)), rfl, ⟨hI.t0, hI.t1, hI.t2, hI.t3, fun _ => rfl, hI.t5, hI.t6, hI.t7, hI.t8, hI.t9, hI.t10, hI.t11, hI.t12, hI.t13, hI.t14, hI.t15, hI.t16, hI.t17, hI.t18, hI.t19, hI.t20, hI.t21, hI.t22, hI.t23, hI.t24, hI.t25, hI.t26, hI.t27, hI.t28, hI.t29, hI.t30, hI.t31, hI.t32, hI.t33, hI.t34, hI.t35, hI.t36, hI.t37, hI.t38, hI.t39, hI.t40, hI.bw⟩⟩
          · rintro LF aF wx ⟨v, rfl, hI⟩ hL hdep hcl K hK
            go_simp
            exact hK _ _ ⟨(upd v 86 (.int .u64 ↑n)), rfl, ⟨hI.t0, hI.t1, hI.t2, hI.t3, hI.t4, fun _ => rfl, hI.t6, hI.t7, hI.t8, hI.t9, hI.t10, hI.t11, hI.t12, hI.t13, hI.t14, hI.t15, hI.t16, hI.t17, hI.t18, hI.t19, hI.t20, hI.t21, hI.t22, hI.t23, hI.t24, hI.t25, hI.t26, hI.t27, hI.t28, hI.t29, hI.t30, hI.t31, hI.t32, hI.t33, hI.t34, hI.t35, hI.t36, hI.t37, hI.t38, hI.t39, hI.t40, hI.bw⟩⟩
          · rintro LF aF wx ⟨v, rfl, hI⟩ hL hdep hcl K hK
            go_simp
            exact hK _ _ ⟨(upd v 87 (.slice a12 (0 + 1) c12)), rfl, ⟨hI.t0, hI.t1, hI.t2, hI.t3, hI.t4, hI.t5, fun _ => rfl, hI.t7, hI.t8, hI.t9, hI.t10, hI.t11, hI.t12, hI.t13, hI.t14, hI.t15, hI.t16, hI.t17, hI.t18, hI.t19, hI.t20, hI.t21, hI.t22, hI.t23, hI.t24, hI.t25, hI.t26, hI.t27, hI.t28, hI.t29, hI.t30, hI.t31, hI.t32, hI.t33, hI.t34, hI.t35, hI.t36, hI.t37, hI.t38, hI.t39, hI.t40, hI.bw⟩⟩
          · rintro LF aF wx ⟨v, rfl, hI⟩ hL hdep hcl K hK
            refine ow_load 41 _ rfl g6 0 rfl 41 (bvs RT) (bvs RT) (HG6.out wx hI.bw) (fun j v h => by rw [Nat.zero_add]; exact h) (.array 32 5) Try.underlying41 rfl IR.out ?_
            exact hK _ _ ⟨(upd v 88 (.agg (bvs RT).toArray)), rfl, ⟨hI.t0, hI.t1, hI.t2, hI.t3, hI.t4, hI.t5, hI.t6, fun _ => rfl, hI.t8, hI.t9, hI.t10, hI.t11, hI.t12, hI.t13, hI.t14, hI.t15, hI.t16, hI.t17, hI.t18, hI.t19, hI.t20, hI.t21, hI.t22, hI.t23, hI.t24, hI.t25, hI.t26, hI.t27, hI.t28, hI.t29, hI.t30, hI.t31, hI.t32, hI.t33, hI.t34, hI.t35, hI.t36, hI.t37, hI.t38, hI.t39, hI.t40, hI.bw⟩⟩
          · rintro LF aF wx ⟨v, rfl, hI⟩ hL hdep hcl K hK
            have e3 := hI.t3 (hdep 3 (by decide))
            have e4 := hI.t4 (hdep 4 (by decide))
            have e5 := hI.t5 (hdep 5 (by decide))
            have e6 := hI.t6 (hdep 6 (by decide))
            have e7 := hI.t7 (hdep 7 (by decide))
            rw [e3, e4, e5, e6, e7]
            have HCC := W1.out wx hI.bw
            go_simp
            refine HCC.mono ?_
            rintro e w' ⟨rfl, hb⟩
            exact hK _ _ ⟨(upd (upd (upd (upd (upd (upd v 84 (.agg (bvs y).toArray)) 85 (.int .u64 ↑j)) 86 (.int .u64 ↑n)) 87 (.slice a12 (0 + 1) c12)) 88 (.agg (bvs RT).toArray)) 89 (.bool false)), rfl, ⟨hI.t0, hI.t1, hI.t2, fun _ => rfl, fun _ => rfl, fun _ => rfl, fun _ => rfl, fun _ => rfl, fun _ => rfl, hI.t9, hI.t10, hI.t11, hI.t12, hI.t13, hI.t14, hI.t15, hI.t16, hI.t17, hI.t18, hI.t19, hI.t20, hI.t21, hI.t22, hI.t23, hI.t24, hI.t25, hI.t26, hI.t27, hI.t28, hI.t29, hI.t30, hI.t31, hI.t32, hI.t33, hI.t34, hI.t35, hI.t36, hI.t37, hI.t38, hI.t39, hI.t40, (hI.bw).trans (hb.mono (hI.bw).size)⟩⟩
          · rintro LF aF wx ⟨v, rfl, hI⟩ hL hdep hcl K hK
            have e8 := hI.t8 (hdep 8 (by decide))
            rw [e8]
            go_simp
            exact hK _ _ ⟨(upd (upd v 89 (.bool false)) 90 (.bool true)), rfl, ⟨hI.t0, hI.t1, hI.t2, hI.t3, hI.t4, hI.t5, hI.t6, hI.t7, fun _ => rfl, fun _ => rfl, hI.t10, hI.t11, hI.t12, hI.t13, hI.t14, hI.t15, hI.t16, hI.t17, hI.t18, hI.t19, hI.t20, hI.t21, hI.t22, hI.t23, hI.t24, hI.t25, hI.t26, hI.t27, hI.t28, hI.t29, hI.t30, hI.t31, hI.t32, hI.t33, hI.t34, hI.t35, hI.t36, hI.t37, hI.t38, hI.t39, hI.t40, hI.bw⟩⟩
          · rintro LF aF wx ⟨v, rfl, hI⟩ hL hdep hcl K hK
            have e9 := hI.t9 (hdep 9 (by decide))
            rw [e9]
            go_simp
            exact hK _ _ ⟨(upd (upd v 90 (.bool true)) 91 (.bool true)), rfl, ⟨hI.t0, hI.t1, hI.t2, hI.t3, hI.t4, hI.t5, hI.t6, hI.t7, hI.t8, fun _ => rfl, fun _ => rfl, hI.t11, hI.t12, hI.t13, hI.t14, hI.t15, hI.t16, hI.t17, hI.t18, hI.t19, hI.t20, hI.t21, hI.t22, hI.t23, hI.t24, hI.t25, hI.t26, hI.t27, hI.t28, hI.t29, hI.t30, hI.t31, hI.t32, hI.t33, hI.t34, hI.t35, hI.t36, hI.t37, hI.t38, hI.t39, hI.t40, hI.bw⟩⟩
          · rintro LF aF wx ⟨v, rfl, hI⟩ hL hdep hcl K hK
            have e10 := hI.t10 (hdep 10 (by decide))
            rw [e10]
            refine (if_pos rfl).mpr ?_
            go_simp
            exact hK _ _ ⟨(upd (upd v 91 (.bool true)) 92 (.slice a5 0 c5)), rfl, ⟨hI.t0, hI.t1, hI.t2, hI.t3, hI.t4, hI.t5, hI.t6, hI.t7, hI.t8, hI.t9, fun _ => rfl, fun _ => rfl, hI.t12, hI.t13, hI.t14, hI.t15, hI.t16, hI.t17, hI.t18, hI.t19, hI.t20, hI.t21, hI.t22, hI.t23, hI.t24, hI.t25, hI.t26, hI.t27, hI.t28, hI.t29, hI.t30, hI.t31, hI.t32, hI.t33, hI.t34, hI.t35, hI.t36, hI.t37, hI.t38, hI.t39, hI.t40, hI.bw⟩⟩
          · rintro LF aF wx ⟨v, rfl, hI⟩ hL hdep hcl K hK
            have e11 := hI.t11 (hdep 11 (by decide))
            have e10 := hI.t10 (hdep 10 (by decide))
            rw [e11, e10]
            refine (if_pos rfl).mpr ?_
            go_simp
            exact hK _ _ ⟨(upd (upd (upd v 92 (.slice a5 0 c5)) 91 (.bool true)) 93 (.int .i64 (0 : Int))), rfl, ⟨hI.t0, hI.t1, hI.t2, hI.t3, hI.t4, hI.t5, hI.t6, hI.t7, hI.t8, hI.t9, fun _ => rfl, fun _ => rfl, fun _ => rfl, hI.t13, hI.t14, hI.t15, hI.t16, hI.t17, hI.t18, hI.t19, hI.t20, hI.t21, hI.t22, hI.t23, hI.t24, hI.t25, hI.t26, hI.t27, hI.t28, hI.t29, hI.t30, hI.t31, hI.t32, hI.t33, hI.t34, hI.t35, hI.t36, hI.t37, hI.t38, hI.t39, hI.t40, hI.bw⟩⟩
          · rintro LF aF wx ⟨v, rfl, hI⟩ hL hdep hcl K hK
            have e12 := hI.t12 (hdep 12 (by decide))
            have e10 := hI.t10 (hdep 10 (by decide))
            rw [e12, e10]
            refine (if_pos rfl).mpr ?_
            go_simp
            exact hK _ _ ⟨(upd (upd (upd v 93 (.int .i64 (0 : Int))) 91 (.bool true)) 94 (.bool true)), rfl, ⟨hI.t0, hI.t1, hI.t2, hI.t3, hI.t4, hI.t5, hI.t6, hI.t7, hI.t8, hI.t9, fun _ => rfl, hI.t11, fun _ => rfl, fun _ => rfl, hI.t14, hI.t15, hI.t16, hI.t17, hI.t18, hI.t19, hI.t20, hI.t21, hI.t22, hI.t23, hI.t24, hI.t25, hI.t26, hI.t27, hI.t28, hI.t29, hI.t30, hI.t31, hI.t32, hI.t33, hI.t34, hI.t35, hI.t36, hI.t37, hI.t38, hI.t39, hI.t40, hI.bw⟩⟩
          · rintro LF aF wx ⟨v, rfl, hI⟩ hL hdep hcl K hK
            have e13 := hI.t13 (hdep 13 (by decide))
            have e10 := hI.t10 (hdep 10 (by decide))
            rw [e13, e10]
            refine (if_pos rfl).mpr ?_
            go_simp
            exact hK _ _ ⟨(upd (upd (upd v 94 (.bool true)) 91 (.bool true)) 95 (.bool true)), rfl, ⟨hI.t0, hI.t1, hI.t2, hI.t3, hI.t4, hI.t5, hI.t6, hI.t7, hI.t8, hI.t9, fun _ => rfl, hI.t11, hI.t12, fun _ => rfl, fun _ => rfl, hI.t15, hI.t16, hI.t17, hI.t18, hI.t19, hI.t20, hI.t21, hI.t22, hI.t23, hI.t24, hI.t25, hI.t26, hI.t27, hI.t28, hI.t29, hI.t30, hI.t31, hI.t32, hI.t33, hI.t34, hI.t35, hI.t36, hI.t37, hI.t38, hI.t39, hI.t40, hI.bw⟩⟩
          · rintro LF aF wx ⟨v, rfl, hI⟩ hL hdep hcl K hK
            have e14 := hI.t14 (hdep 14 (by decide))
            rw [e14]
            refine (if_neg (by exact fun h => Bool.noConfusion (show false = true from h))).mpr ?_
            exact hK _ _ ⟨(upd (upd v 95 (.bool true)) 96 (_)), rfl, ⟨hI.t0, hI.t1, hI.t2, hI.t3, hI.t4, hI.t5, hI.t6, hI.t7, hI.t8, hI.t9, hI.t10, hI.t11, hI.t12, hI.t13, fun _ => rfl, fun _ => rfl, hI.t16, hI.t17, hI.t18, hI.t19, hI.t20, hI.t21, hI.t22, hI.t23, hI.t24, hI.t25, hI.t26, hI.t27, hI.t28, hI.t29, hI.t30, hI.t31, hI.t32, hI.t33, hI.t34, hI.t35, hI.t36, hI.t37, hI.t38, hI.t39, hI.t40, hI.bw⟩⟩
          · rintro LF aF wx ⟨v, rfl, hI⟩ hL hdep hcl K hK
            have e14 := hI.t14 (hdep 14 (by decide))
            rw [e14]
            refine (if_neg (by exact fun h => Bool.noConfusion (show false = true from h))).mpr ?_
            exact hK _ _ ⟨(upd (upd v 95 (.bool true)) 97 (_)), rfl, ⟨hI.t0, hI.t1, hI.t2, hI.t3, hI.t4, hI.t5, hI.t6, hI.t7, hI.t8, hI.t9, hI.t10, hI.t11, hI.t12, hI.t13, fun _ => rfl, hI.t15, fun _ => rfl, hI.t17, hI.t18, hI.t19, hI.t20, hI.t21, hI.t22, hI.t23, hI.t24, hI.t25, hI.t26, hI.t27, hI.t28, hI.t29, hI.t30, hI.t31, hI.t32, hI.t33, hI.t34, hI.t35, hI.t36, hI.t37, hI.t38, hI.t39, hI.t40, hI.bw⟩⟩
          · rintro LF aF wx ⟨v, rfl, hI⟩ hL hdep hcl K hK
            have e14 := hI.t14 (hdep 14 (by decide))
            rw [e14]
            refine (if_neg (by exact fun h => Bool.noConfusion (show false = true from h))).mpr ?_
            exact hK _ _ ⟨(upd (upd v 95 (.bool true)) 98 (_)), rfl, ⟨hI.t0, hI.t1, hI.t2, hI.t3, hI.t4, hI.t5, hI.t6, hI.t7, hI.t8, hI.t9, hI.t10, hI.t11, hI.t12, hI.t13, fun _ => rfl, hI.t15, hI.t16, fun _ => rfl, hI.t18, hI.t19, hI.t20, hI.t21, hI.t22, hI.t23, hI.t24, hI.t25, hI.t26, hI.t27, hI.t28, hI.t29, hI.t30, hI.t31, hI.t32, hI.t33, hI.t34, hI.t35, hI.t36, hI.t37, hI.t38, hI.t39, hI.t40, hI.bw⟩⟩
          · rintro LF aF wx ⟨v, rfl, hI⟩ hL hdep hcl K hK
            have e14 := hI.t14 (hdep 14 (by decide))
            rw [e14]
            refine (if_neg (by exact fun h => Bool.noConfusion (show false = true from h))).mpr ?_
            exact hK _ _ ⟨(upd (upd v 95 (.bool true)) 99 (_)), rfl, ⟨hI.t0, hI.t1, hI.t2, hI.t3, hI.t4, hI.t5, hI.t6, hI.t7, hI.t8, hI.t9, hI.t10, hI.t11, hI.t12, hI.t13, fun _ => rfl, hI.t15, hI.t16, hI.t17, fun _ => rfl, hI.t19, hI.t20, hI.t21, hI.t22, hI.t23, hI.t24, hI.t25, hI.t26, hI.t27, hI.t28, hI.t29, hI.t30, hI.t31, hI.t32, hI.t33, hI.t34, hI.t35, hI.t36, hI.t37, hI.t38, hI.t39, hI.t40, hI.bw⟩⟩
          · rintro LF aF wx ⟨v, rfl, hI⟩ hL hdep hcl K hK
            have e14 := hI.t14 (hdep 14 (by decide))
            rw [e14]
            refine (if_neg (by exact fun h => Bool.noConfusion (show false = true from h))).mpr ?_
            exact hK _ _ ⟨(upd (upd v 95 (.bool true)) 100 (_)), rfl, ⟨hI.t0, hI.t1, hI.t2, hI.t3, hI.t4, hI.t5, hI.t6, hI.t7, hI.t8, hI.t9, hI.t10, hI.t11, hI.t12, hI.t13, fun _ => rfl, hI.t15, hI.t16, hI.t17, hI.t18, fun _ => rfl, hI.t20, hI.t21, hI.t22, hI.t23, hI.t24, hI.t25, hI.t26, hI.t27, hI.t28, hI.t29, hI.t30, hI.t31, hI.t32, hI.t33, hI.t34, hI.t35, hI.t36, hI.t37, hI.t38, hI.t39, hI.t40, hI.bw⟩⟩
          · rintro LF aF wx ⟨v, rfl, hI⟩ hL hdep hcl K hK
            have e14 := hI.t14 (hdep 14 (by decide))
            rw [e14]
            refine (if_neg (by exact fun h => Bool.noConfusion (show false = true from h))).mpr ?_
            exact hK _ _ ⟨(upd (upd v 95 (.bool true)) 101 (_)), rfl, ⟨hI.t0, hI.t1, hI.t2, hI.t3, hI.t4, hI.t5, hI.t6, hI.t7, hI.t8, hI.t9, hI.t10, hI.t11, hI.t12, hI.t13, fun _ => rfl, hI.t15, hI.t16, hI.t17, hI.t18, hI.t19, fun _ => rfl, hI.t21, hI.t22, hI.t23, hI.t24, hI.t25, hI.t26, hI.t27, hI.t28, hI.t29, hI.t30, hI.t31, hI.t32, hI.t33, hI.t34, hI.t35, hI.t36, hI.t37, hI.t38, hI.t39, hI.t40, hI.bw⟩⟩
          · rintro LF aF wx ⟨v, rfl, hI⟩ hL hdep hcl K hK
            have e14 := hI.t14 (hdep 14 (by decide))
            rw [e14]
            refine (if_neg (by exact fun h => Bool.noConfusion (show false = true from h))).mpr ?_
            exact hK _ _ ⟨(upd (upd v 95 (.bool true)) 102 (_)), rfl, ⟨hI.t0, hI.t1, hI.t2, hI.t3, hI.t4, hI.t5, hI.t6, hI.t7, hI.t8, hI.t9, hI.t10, hI.t11, hI.t12, hI.t13, fun _ => rfl, hI.t15, hI.t16, hI.t17, hI.t18, hI.t19, hI.t20, fun _ => rfl, hI.t22, hI.t23, hI.t24, hI.t25, hI.t26, hI.t27, hI.t28, hI.t29, hI.t30, hI.t31, hI.t32, hI.t33, hI.t34, hI.t35, hI.t36, hI.t37, hI.t38, hI.t39, hI.t40, hI.bw⟩⟩
          · rintro LF aF wx ⟨v, rfl, hI⟩ hL hdep hcl K hK
            have e14 := hI.t14 (hdep 14 (by decide))
            rw [e14]
            refine (if_neg (by exact fun h => Bool.noConfusion (show false = true from h))).mpr ?_
            exact hK _ _ ⟨(upd (upd v 95 (.bool true)) 103 (_)), rfl, ⟨hI.t0, hI.t1, hI.t2, hI.t3, hI.t4, hI.t5, hI.t6, hI.t7, hI.t8, hI.t9, hI.t10, hI.t11, hI.t12, hI.t13, fun _ => rfl, hI.t15, hI.t16, hI.t17, hI.t18, hI.t19, hI.t20, hI.t21, fun _ => rfl, hI.t23, hI.t24, hI.t25, hI.t26, hI.t27, hI.t28, hI.t29, hI.t30, hI.t31, hI.t32, hI.t33, hI.t34, hI.t35, hI.t36, hI.t37, hI.t38, hI.t39, hI.t40, hI.bw⟩⟩
          · rintro LF aF wx ⟨v, rfl, hI⟩ hL hdep hcl K hK
            have e14 := hI.t14 (hdep 14 (by decide))
            rw [e14]
            refine (if_neg (by exact fun h => Bool.noConfusion (show false = true from h))).mpr ?_
            exact hK _ _ ⟨(upd (upd v 95 (.bool true)) 104 (_)), rfl, ⟨hI.t0, hI.t1, hI.t2, hI.t3, hI.t4, hI.t5, hI.t6, hI.t7, hI.t8, hI.t9, hI.t10, hI.t11, hI.t12, hI.t13, fun _ => rfl, hI.t15, hI.t16, hI.t17, hI.t18, hI.t19, hI.t20, hI.t21, hI.t22, fun _ => rfl, hI.t24, hI.t25, hI.t26, hI.t27, hI.t28, hI.t29, hI.t30, hI.t31, hI.t32, hI.t33, hI.t34, hI.t35, hI.t36, hI.t37, hI.t38, hI.t39, hI.t40, hI.bw⟩⟩
          · rintro LF aF wx ⟨v, rfl, hI⟩ hL hdep hcl K hK
            have e14 := hI.t14 (hdep 14 (by decide))
            rw [e14]
            refine (if_neg (by exact fun h => Bool.noConfusion (show false = true from h))).mpr ?_
            exact hK _ _ ⟨(upd (upd v 95 (.bool true)) 105 (_)), rfl, ⟨hI.t0, hI.t1, hI.t2, hI.t3, hI.t4, hI.t5, hI.t6, hI.t7, hI.t8, hI.t9, hI.t10, hI.t11, hI.t12, hI.t13, fun _ => rfl, hI.t15, hI.t16, hI.t17, hI.t18, hI.t19, hI.t20, hI.t21, hI.t22, hI.t23, fun _ => rfl, hI.t25, hI.t26, hI.t27, hI.t28, hI.t29, hI.t30, hI.t31, hI.t32, hI.t33, hI.t34, hI.t35, hI.t36, hI.t37, hI.t38, hI.t39, hI.t40, hI.bw⟩⟩
          · rintro LF aF wx ⟨v, rfl, hI⟩ hL hdep hcl K hK
            have e14 := hI.t14 (hdep 14 (by decide))
            rw [e14]
            refine (if_neg (by exact fun h => Bool.noConfusion (show false = true from h))).mpr ?_
            exact hK _ _ ⟨(upd (upd v 95 (.bool true)) 106 (_)), rfl, ⟨hI.t0, hI.t1, hI.t2, hI.t3, hI.t4, hI.t5, hI.t6, hI.t7, hI.t8, hI.t9, hI.t10, hI.t11, hI.t12, hI.t13, fun _ => rfl, hI.t15, hI.t16, hI.t17, hI.t18, hI.t19, hI.t20, hI.t21, hI.t22, hI.t23, hI.t24, fun _ => rfl, hI.t26, hI.t27, hI.t28, hI.t29, hI.t30, hI.t31, hI.t32, hI.t33, hI.t34, hI.t35, hI.t36, hI.t37, hI.t38, hI.t39, hI.t40, hI.bw⟩⟩
          · rintro LF aF wx ⟨v, rfl, hI⟩ hL hdep hcl K hK
            have e14 := hI.t14 (hdep 14 (by decide))
            have e10 := hI.t10 (hdep 10 (by decide))
            rw [e14, e10]
            refine (if_pos rfl).mpr ?_
            go_simp
            exact hK _ _ ⟨(upd (upd (upd v 95 (.bool true)) 91 (.bool true)) 107 (.bool true)), rfl, ⟨hI.t0, hI.t1, hI.t2, hI.t3, hI.t4, hI.t5, hI.t6, hI.t7, hI.t8, hI.t9, fun _ => rfl, hI.t11, hI.t12, hI.t13, fun _ => rfl, hI.t15, hI.t16, hI.t17, hI.t18, hI.t19, hI.t20, hI.t21, hI.t22, hI.t23, hI.t24, hI.t25, fun _ => rfl, hI.t27, hI.t28, hI.t29, hI.t30, hI.t31, hI.t32, hI.t33, hI.t34, hI.t35, hI.t36, hI.t37, hI.t38, hI.t39, hI.t40, hI.bw⟩⟩
          · rintro LF aF wx ⟨v, rfl, hI⟩ hL hdep hcl K hK
            have e10 := hI.t10 (hdep 10 (by decide))
            have e26 := hI.t26 (hdep 26 (by decide))
            rw [e10, e26]
            go_simp
            exact hK _ _ ⟨(upd (upd (upd v 91 (.bool true)) 107 (.bool true)) 108 (.bool true)), rfl, ⟨hI.t0, hI.t1, hI.t2, hI.t3, hI.t4, hI.t5, hI.t6, hI.t7, hI.t8, hI.t9, fun _ => rfl, hI.t11, hI.t12, hI.t13, hI.t14, hI.t15, hI.t16, hI.t17, hI.t18, hI.t19, hI.t20, hI.t21, hI.t22, hI.t23, hI.t24, hI.t25, fun _ => rfl, fun _ => rfl, hI.t28, hI.t29, hI.t30, hI.t31, hI.t32, hI.t33, hI.t34, hI.t35, hI.t36, hI.t37, hI.t38, hI.t39, hI.t40, hI.bw⟩⟩
          · rintro LF aF wx ⟨v, rfl, hI⟩ hL hdep hcl K hK
            have e27 := hI.t27 (hdep 27 (by decide))
            rw [e27]
            go_simp
            exact hK _ _ ⟨(upd (upd v 108 (.bool true)) 109 (.bool true)), rfl, ⟨hI.t0, hI.t1, hI.t2, hI.t3, hI.t4, hI.t5, hI.t6, hI.t7, hI.t8, hI.t9, hI.t10, hI.t11, hI.t12, hI.t13, hI.t14, hI.t15, hI.t16, hI.t17, hI.t18, hI.t19, hI.t20, hI.t21, hI.t22, hI.t23, hI.t24, hI.t25, hI.t26, fun _ => rfl, fun _ => rfl, hI.t29, hI.t30, hI.t31, hI.t32, hI.t33, hI.t34, hI.t35, hI.t36, hI.t37, hI.t38, hI.t39, hI.t40, hI.bw⟩⟩
          · rintro LF aF wx ⟨v, rfl, hI⟩ hL hdep hcl K hK
            have e28 := hI.t28 (hdep 28 (by decide))
            rw [e28]
            refine (if_pos rfl).mpr ?_
            go_simp
            exact hK _ _ ⟨(upd (upd v 109 (.bool true)) 110 (.slice (some ⟨b, off, none⟩) n c)), rfl, ⟨hI.t0, hI.t1, hI.t2, hI.t3, hI.t4, hI.t5, hI.t6, hI.t7, hI.t8, hI.t9, hI.t10, hI.t11, hI.t12, hI.t13, hI.t14, hI.t15, hI.t16, hI.t17, hI.t18, hI.t19, hI.t20, hI.t21, hI.t22, hI.t23, hI.t24, hI.t25, hI.t26, hI.t27, fun _ => rfl, fun _ => rfl, hI.t30, hI.t31, hI.t32, hI.t33, hI.t34, hI.t35, hI.t36, hI.t37, hI.t38, hI.t39, hI.t40, hI.bw⟩⟩
          · rintro LF aF wx ⟨v, rfl, hI⟩ hL hdep hcl K hK
            have e28 := hI.t28 (hdep 28 (by decide))
            rw [e28]
            refine (if_pos rfl).mpr ?_
            go_simp
            exact hK _ _ ⟨(upd (upd v 109 (.bool true)) 111 (.int .u64 ↑j)), rfl, ⟨hI.t0, hI.t1, hI.t2, hI.t3, hI.t4, hI.t5, hI.t6, hI.t7, hI.t8, hI.t9, hI.t10, hI.t11, hI.t12, hI.t13, hI.t14, hI.t15, hI.t16, hI.t17, hI.t18, hI.t19, hI.t20, hI.t21, hI.t22, hI.t23, hI.t24, hI.t25, hI.t26, hI.t27, fun _ => rfl, hI.t29, fun _ => rfl, hI.t31, hI.t32, hI.t33, hI.t34, hI.t35, hI.t36, hI.t37, hI.t38, hI.t39, hI.t40, hI.bw⟩⟩
          · rintro LF aF wx ⟨v, rfl, hI⟩ hL hdep hcl K hK
            have e29 := hI.t29 (hdep 29 (by decide))
            have e30 := hI.t30 (hdep 30 (by decide))
            have e28 := hI.t28 (hdep 28 (by decide))
            rw [e29, e30, e28]
            refine (if_pos rfl).mpr ?_
            go_simp
            exact hK _ _ ⟨(upd (upd (upd (upd v 110 (.slice (some ⟨b, off, none⟩) n c)) 111 (.int .u64 ↑j)) 109 (.bool true)) 112 (.pointer (some ⟨b, off + j * 32, none⟩))), rfl, ⟨hI.t0, hI.t1, hI.t2, hI.t3, hI.t4, hI.t5, hI.t6, hI.t7, hI.t8, hI.t9, hI.t10, hI.t11, hI.t12, hI.t13, hI.t14, hI.t15, hI.t16, hI.t17, hI.t18, hI.t19, hI.t20, hI.t21, hI.t22, hI.t23, hI.t24, hI.t25, hI.t26, hI.t27, fun _ => rfl, fun _ => rfl, fun _ => rfl, fun _ => rfl, hI.t32, hI.t33, hI.t34, hI.t35, hI.t36, hI.t37, hI.t38, hI.t39, hI.t40, hI.bw⟩⟩
          · rintro LF aF wx ⟨v, rfl, hI⟩ hL hdep hcl K hK
            have e31 := hI.t31 (hdep 31 (by decide))
            have e28 := hI.t28 (hdep 28 (by decide))
            rw [e31, e28]
            refine (if_pos rfl).mpr ?_
            refine wp_load_mid 41 _ rfl b (off + j * 32) rfl (bvs y) (.array 32 5) (HRY.out wx hI.bw) Try.underlying41 rfl IY.out ?_
            exact hK _ _ ⟨(upd (upd (upd v 112 (.pointer (some ⟨b, off + j * 32, none⟩))) 109 (.bool true)) 113 (.agg (bvs y).toArray)), rfl, ⟨hI.t0, hI.t1, hI.t2, hI.t3, hI.t4, hI.t5, hI.t6, hI.t7, hI.t8, hI.t9, hI.t10, hI.t11, hI.t12, hI.t13, hI.t14, hI.t15, hI.t16, hI.t17, hI.t18, hI.t19, hI.t20, hI.t21, hI.t22, hI.t23, hI.t24, hI.t25, hI.t26, hI.t27, fun _ => rfl, hI.t29, hI.t30, fun _ => rfl, fun _ => rfl, hI.t33, hI.t34, hI.t35, hI.t36, hI.t37, hI.t38, hI.t39, hI.t40, hI.bw⟩⟩
          · rintro LF aF wx ⟨v, rfl, hI⟩ hL hdep hcl K hK
            have e28 := hI.t28 (hdep 28 (by decide))
            rw [e28]
            refine (if_pos rfl).mpr ?_
            go_simp
            exact hK _ _ ⟨(upd (upd v 109 (.bool true)) 114 (.int .u64 ↑n)), rfl, ⟨hI.t0, hI.t1, hI.t2, hI.t3, hI.t4, hI.t5, hI.t6, hI.t7, hI.t8, hI.t9, hI.t10, hI.t11, hI.t12, hI.t13, hI.t14, hI.t15, hI.t16, hI.t17, hI.t18, hI.t19, hI.t20, hI.t21, hI.t22, hI.t23, hI.t24, hI.t25, hI.t26, hI.t27, fun _ => rfl, hI.t29, hI.t30, hI.t31, hI.t32, fun _ => rfl, hI.t34, hI.t35, hI.t36, hI.t37, hI.t38, hI.t39, hI.t40, hI.bw⟩⟩
          · rintro LF aF wx ⟨v, rfl, hI⟩ hL hdep hcl K hK
            have e28 := hI.t28 (hdep 28 (by decide))
            rw [e28]
            refine (if_pos rfl).mpr ?_
            go_simp
            exact hK _ _ ⟨(upd (upd v 109 (.bool true)) 115 (.int .u64 ↑n)), rfl, ⟨hI.t0, hI.t1, hI.t2, hI.t3, hI.t4, hI.t5, hI.t6, hI.t7, hI.t8, hI.t9, hI.t10, hI.t11, hI.t12, hI.t13, hI.t14, hI.t15, hI.t16, hI.t17, hI.t18, hI.t19, hI.t20, hI.t21, hI.t22, hI.t23, hI.t24, hI.t25, hI.t26, hI.t27, fun _ => rfl, hI.t29, hI.t30, hI.t31, hI.t32, hI.t33, fun _ => rfl, hI.t35, hI.t36, hI.t37, hI.t38, hI.t39, hI.t40, hI.bw⟩⟩
          · rintro LF aF wx ⟨v, rfl, hI⟩ hL hdep hcl K hK
            have e28 := hI.t28 (hdep 28 (by decide))
            rw [e28]
            refine (if_pos rfl).mpr ?_
            go_simp
            exact hK _ _ ⟨(upd (upd v 109 (.bool true)) 116 (.slice a5 0 c5)), rfl, ⟨hI.t0, hI.t1, hI.t2, hI.t3, hI.t4, hI.t5, hI.t6, hI.t7, hI.t8, hI.t9, hI.t10, hI.t11, hI.t12, hI.t13, hI.t14, hI.t15, hI.t16, hI.t17, hI.t18, hI.t19, hI.t20, hI.t21, hI.t22, hI.t23, hI.t24, hI.t25, hI.t26, hI.t27, fun _ => rfl, hI.t29, hI.t30, hI.t31, hI.t32, hI.t33, hI.t34, fun _ => rfl, hI.t36, hI.t37, hI.t38, hI.t39, hI.t40, hI.bw⟩⟩
          · rintro LF aF wx ⟨v, rfl, hI⟩ hL hdep hcl K hK
            have e28 := hI.t28 (hdep 28 (by decide))
            rw [e28]
            refine (if_pos rfl).mpr ?_
            refine ow_load 41 _ rfl g6 0 rfl 41 (bvs RT) (bvs RT) (HG6.out wx hI.bw) (fun j v h => by rw [Nat.zero_add]; exact h) (.array 32 5) Try.underlying41 rfl IR.out ?_
            exact hK _ _ ⟨(upd (upd v 109 (.bool true)) 117 (.agg (bvs RT).toArray)), rfl, ⟨hI.t0, hI.t1, hI.t2, hI.t3, hI.t4, hI.t5, hI.t6, hI.t7, hI.t8, hI.t9, hI.t10, hI.t11, hI.t12, hI.t13, hI.t14, hI.t15, hI.t16, hI.t17, hI.t18, hI.t19, hI.t20, hI.t21, hI.t22, hI.t23, hI.t24, hI.t25, hI.t26, hI.t27, fun _ => rfl, hI.t29, hI.t30, hI.t31, hI.t32, hI.t33, hI.t34, hI.t35, fun _ => rfl, hI.t37, hI.t38, hI.t39, hI.t40, hI.bw⟩⟩
          · rintro LF aF wx ⟨v, rfl, hI⟩ hL hdep hcl K hK
            have e32 := hI.t32 (hdep 32 (by decide))
            have e33 := hI.t33 (hdep 33 (by decide))
            have e34 := hI.t34 (hdep 34 (by decide))
            have e35 := hI.t35 (hdep 35 (by decide))
            have e36 := hI.t36 (hdep 36 (by decide))
            have e28 := hI.t28 (hdep 28 (by decide))
            rw [e32, e33, e34, e35, e36, e28]
            refine (if_pos rfl).mpr ?_
            have HCC := W3.out wx hI.bw
            go_simp
            refine HCC.mono ?_
            rintro e w' ⟨rfl, hb⟩
            exact hK _ _ ⟨(upd (upd (upd (upd (upd (upd (upd v 113 (.agg (bvs y).toArray)) 114 (.int .u64 ↑n)) 115 (.int .u64 ↑n)) 116 (.slice a5 0 c5)) 117 (.agg (bvs RT).toArray)) 109 (.bool true)) 118 (.bool false)), rfl, ⟨hI.t0, hI.t1, hI.t2, hI.t3, hI.t4, hI.t5, hI.t6, hI.t7, hI.t8, hI.t9, hI.t10, hI.t11, hI.t12, hI.t13, hI.t14, hI.t15, hI.t16, hI.t17, hI.t18, hI.t19, hI.t20, hI.t21, hI.t22, hI.t23, hI.t24, hI.t25, hI.t26, hI.t27, fun _ => rfl, hI.t29, hI.t30, hI.t31, fun _ => rfl, fun _ => rfl, fun _ => rfl, fun _ => rfl, fun _ => rfl, fun _ => rfl, hI.t38, hI.t39, hI.t40, (hI.bw).trans (hb.mono (hI.bw).size)⟩⟩
          · rintro LF aF wx ⟨v, rfl, hI⟩ hL hdep hcl K hK
            have e37 := hI.t37 (hdep 37 (by decide))
            have e28 := hI.t28 (hdep 28 (by decide))
            rw [e37, e28]
            refine (if_pos rfl).mpr ?_
            go_simp
            exact hK _ _ ⟨(upd (upd (upd v 118 (.bool false)) 109 (.bool true)) 119 (.bool true)), rfl, ⟨hI.t0, hI.t1, hI.t2, hI.t3, hI.t4, hI.t5, hI.t6, hI.t7, hI.t8, hI.t9, hI.t10, hI.t11, hI.t12, hI.t13, hI.t14, hI.t15, hI.t16, hI.t17, hI.t18, hI.t19, hI.t20, hI.t21, hI.t22, hI.t23, hI.t24, hI.t25, hI.t26, hI.t27, fun _ => rfl, hI.t29, hI.t30, hI.t31, hI.t32, hI.t33, hI.t34, hI.t35, hI.t36, fun _ => rfl, fun _ => rfl, hI.t39, hI.t40, hI.bw⟩⟩
          · rintro LF aF wx ⟨v, rfl, hI⟩ hL hdep hcl K hK
            have e28 := hI.t28 (hdep 28 (by decide))
            have e38 := hI.t38 (hdep 38 (by decide))
            rw [e28, e38]
            go_simp
            exact hK _ _ ⟨(upd (upd (upd v 109 (.bool true)) 119 (.bool true)) 120 (.bool true)), rfl, ⟨hI.t0, hI.t1, hI.t2, hI.t3, hI.t4, hI.t5, hI.t6, hI.t7, hI.t8, hI.t9, hI.t10, hI.t11, hI.t12, hI.t13, hI.t14, hI.t15, hI.t16, hI.t17, hI.t18, hI.t19, hI.t20, hI.t21, hI.t22, hI.t23, hI.t24, hI.t25, hI.t26, hI.t27, fun _ => rfl, hI.t29, hI.t30, hI.t31, hI.t32, hI.t33, hI.t34, hI.t35, hI.t36, hI.t37, fun _ => rfl, fun _ => rfl, hI.t40, hI.bw⟩⟩
          · rintro LF aF wx ⟨v, rfl, hI⟩ hL hdep hcl K hK
            have e39 := hI.t39 (hdep 39 (by decide))
            rw [e39]
            go_simp
            exact hK _ _ ⟨(upd (upd v 120 (.bool true)) 4 (.bool true)), rfl, ⟨hI.t0, hI.t1, hI.t2, hI.t3, hI.t4, hI.t5, hI.t6, hI.t7, hI.t8, hI.t9, hI.t10, hI.t11, hI.t12, hI.t13, hI.t14, hI.t15, hI.t16, hI.t17, hI.t18, hI.t19, hI.t20, hI.t21, hI.t22, hI.t23, hI.t24, hI.t25, hI.t26, hI.t27, hI.t28, hI.t29, hI.t30, hI.t31, hI.t32, hI.t33, hI.t34, hI.t35, hI.t36, hI.t37, hI.t38, fun _ => rfl, fun _ => rfl, hI.bw⟩⟩
          · rintro aF wx ⟨vF, rfl, hI⟩
            have e := hI.t40 rfl
            have hbw := hI.bw
            clear hI
            rw [e]
            go_wp2_with fail
            go_ret
            exact ⟨rfl, B012.out.trans (hbw.mono B012.out.size)⟩
        · have hq1 : 1 ≤ q := by omega
          obtain ⟨pb, po, rfl, -, -⟩ := (HRP.out w12 (Below.refl _ _)).mem (by omega)
          have hqc := (HRP.out w12 (Below.refl _ _)).le
          have hqi : ((q : Int) == 0) = false := by simp; omega
          have HQC := Lib.hid hqc
          have HQ1 := Lib.hid hq1
          have W2 : Hid (∀ wx, Below w12.heap.size w12 wx → Calls Try.prog 19 #[.agg (bvs y).toArray, .int .u64 (j : Int), .int .u64 (n : Int), .slice (some ⟨pb, if c5 = 1 then po else po + 32, none⟩) (q - 1) (c5 - 1), .agg (bvs RT).toArray] wx fun e w' => e = .returned (.bool false) ∧ Below wx.heap.size wx w') := fun wx hb => HV3.out HQ1.out wx _ _ (rd_cut1 (HRP.out wx hb) HQ1.out)
          clear hq1 hqc hq0
          refine wp_region_steps [[], [], [0, 1], [2], [], [], [], [], [3, 4, 5, 6, 7], [8], [9], [10], [11, 10], [12, 10], [13, 10], [14], [14], [15, 16, 14], [17, 14], [14], [14], [14], [21, 14], [14], [18, 19, 20, 22, 23, 14], [24, 14], [14, 25, 10], [10, 26], [27], [28], [28], [29, 30, 28], [31, 28], [28], [28], [28], [28], [32, 33, 34, 35, 36, 28], [37, 28], [28, 38], [39]] (by kernel_rfl) (by kernel_rfl) (fun LF aF wx => ∃ v : Nat → Value, aF = ⟨#[.slice (some ⟨b, off, none⟩) n c, .int .u64 ↑j, undef, undef, v 4, .int .u64 ↑n, .pointer (some ⟨g6, 0, none⟩), .slice (some ⟨pb, po, none⟩) q c5, .int .i64 0, .pointer (some ⟨g9, 0, none⟩), .int .i64 0, .slice a12 (q + 1) c12, .bool true, .bool false, .slice (some ⟨b, off, none⟩) n c, .int .i64 ↑n, .bool false, .bool false, .slice (some ⟨b, off, none⟩) n c, .int .i64 ↑n, .bool false, .bool false, .slice (some ⟨b, off, none⟩) n c, .int .i64 ↑n, .int .u64 ↑n, .int .u64 ↑i, .int .u64 ↑n, .int .u64 ↑j, .slice (some ⟨b, off, none⟩) n c, .agg (bvs RT).toArray, .tuple #[.slice (some ⟨pb, po, none⟩) q c5, .int .i64 0], .slice (some ⟨b, off, none⟩) n c, .int .u64 ↑j, .tuple #[.slice (some ⟨pb, po, none⟩) q c5, .int .i64 0], .slice (some ⟨pb, po, none⟩) q c5, .int .i64 0, .tuple #[.agg (bvs RT).toArray, .int .i64 0], .slice (some ⟨b, off, none⟩) n c, .int .u64 ↑j, .pointer (some ⟨b, off + j * 32, none⟩), .agg (bvs y).toArray, .int .u64 ↑j, .int .u64 ↑n, .slice (some ⟨pb, po, none⟩) q c5, .tuple #[.agg (bvs RT).toArray, .int .i64 0], .agg (bvs RT).toArray, .int .i64 0, vF 47, vF 48, vF 49, vF 50, vF 51, vF 52, vF 53, vF 54, vF 55, vF 56, vF 57, vF 58, vF 59, vF 60, vF 61, vF 62, vF 63, vF 64, vF 65, vF 66, vF 67, vF 68, vF 69, vF 70, vF 71, vF 72, vF 73, .bool false, .slice (some ⟨w9.heap.size, 0, none⟩) 0 0, .slice (some ⟨pb, po, none⟩) q c5, v10, .agg #[.int .u8 0, .int .u8 0, .int .u8 0, .int .u8 0, .int .u8 0, .int .u8 0, .int .u8 0, .int .u8 0, .int .u8 0, .int .u8 0, .int .u8 0, .int .u8 0, .int .u8 0, .int .u8 0, .int .u8 0, .int .u8 0, .int .u8 0, .int .u8 0, .int .u8 0, .int .u8 0, .int .u8 0, .int .u8 0, .int .u8 0, .int .u8 0, .int .u8 0, .int .u8 0, .int .u8 0, .int .u8 0, .int .u8 0, .int .u8 0, .int .u8 0, .int .u8 0], .slice (some ⟨w10.heap.size, 0, none⟩) 1 1, .slice a12 (q + 1) c12, v 81, v 82, v 83, v 84, v 85, v 86, v 87, v 88, v 89, v 90, v 91, v 92, v 93, v 94, v 95, v 96, v 97, v 98, v 99, v 100, v 101, v 102, v 103, v 104, v 105, v 106, v 107, v 108, v 109, v 110, v 111, v 112, v 113, v 114, v 115, v 116, v 117, v 118, v 119, v 120], []⟩ ∧ InvComp13B y RT j n q pb po b off c c5 c12 g6 a12 w12 LF v wx) ?_ ⟨?_, ?_, ?_, ?_, ?_, ?_, ?_, ?_, ?_, ?_, ?_, ?_, ?_, ?_, ?_, ?_, ?_, ?_, ?_, ?_, ?_, ?_, ?_, ?_, ?_, ?_, ?_, ?_, ?_, ?_, ?_, ?_, ?_, ?_, ?_, ?_, ?_, ?_, ?_, ?_, ?_, trivial⟩ ?_
          · refine ⟨upd (fun _ => undef) 4 (.bool false), rfl, ⟨?_, ?_, ?_, ?_, ?_, ?_, ?_, ?_, ?_, ?_, ?_, ?_, ?_, ?_, ?_, ?_, ?_, ?_, ?_, ?_, ?_, ?_, ?_, ?_, ?_, ?_, ?_, ?_, ?_, ?_, ?_, ?_, ?_, ?_, ?_, ?_, ?_, ?_, ?_, ?_, ?_, (Below.refl _ _).drew⟩⟩ <;> (intro h; exact absurd h (by decide))
          · rintro LF aF wx ⟨v, rfl, hI⟩ hL hdep hcl K hK
            go_simp
            exact hK _ _ ⟨(upd v 81 (.slice (some ⟨b, off, none⟩) n c)), rfl, ⟨fun _ => rfl, hI.t1, hI.t2, hI.t3, hI.t4, hI.t5, hI.t6, hI.t7, hI.t8, hI.t9, hI.t10, hI.t11, hI.t12, hI.t13, hI.t14, hI.t15, hI.t16, hI.t17, hI.t18, hI.t19, hI.t20, hI.t21, hI.t22, hI.t23, hI.t24, hI.t25, hI.t26, hI.t27, hI.t28, hI.t29, hI.t30, hI.t31, hI.t32, hI.t33, hI.t34, hI.t35, hI.t36, hI.t37, hI.t38, hI.t39, hI.t40, hI.bw⟩⟩
          · rintro LF aF wx ⟨v, rfl, hI⟩ hL hdep hcl K hK
            go_simp
            exact hK _ _ ⟨(upd v 82 (.int .u64 ↑j)), rfl, ⟨hI.t0, fun _ => rfl, hI.t2, hI.t3, hI.t4, hI.t5, hI.t6, hI.t7, hI.t8, hI.t9, hI.t10, hI.t11, hI.t12, hI.t13, hI.t14, hI.t15, hI.t16, hI.t17, hI.t18, hI.t19, hI.t20, hI.t21, hI.t22, hI.t23, hI.t24, hI.t25, hI.t26, hI.t27, hI.t28, hI.t29, hI.t30, hI.t31, hI.t32, hI.t33, hI.t34, hI.t35, hI.t36, hI.t37, hI.t38, hI.t39, hI.t40, hI.bw⟩⟩
          · rintro LF aF wx ⟨v, rfl, hI⟩ hL hdep hcl K hK
            have e0 := hI.t0 (hdep 0 (by decide))
            have e1 := hI.t1 (hdep 1 (by decide))
            rw [e0, e1]
            go_simp
            exact hK _ _ ⟨(upd (upd (upd v 81 (.slice (some ⟨b, off, none⟩) n c)) 82 (.int .u64 ↑j)) 83 (.pointer (some ⟨b, off + j * 32, none⟩))), rfl, ⟨fun _ => rfl, fun _ => rfl, fun _ => rfl, hI.t3, hI.t4, hI.t5, hI.t6, hI.t7, hI.t8, hI.t9, hI.t10, hI.t11, hI.t12, hI.t13, hI.t14, hI.t15, hI.t16, hI.t17, hI.t18, hI.t19, hI.t20, hI.t21, hI.t22, hI.t23, hI.t24, hI.t25, hI.t26, hI.t27, hI.t28, hI.t29, hI.t30, hI.t31, hI.t32, hI.t33, hI.t34, hI.t35, hI.t36, hI.t37, hI.t38, hI.t39, hI.t40, hI.bw⟩⟩
          · rintro LF aF wx ⟨v, rfl, hI⟩ hL hdep hcl K hK
            have e2 := hI.t2 (hdep 2 (by decide))
            rw [e2]
            refine wp_load_mid 41 _ rfl b (off + j * 32) rfl (bvs y) (.array 32 5) (HRY.out wx hI.bw) Try.underlying41 rfl IY.out ?_
            exact hK _ _ ⟨(upd (upd v 83 (.pointer (some ⟨b, off + j * 32, none⟩))) 84 (.agg (bvs y).toArray)), rfl, ⟨hI.t0, hI.t1, fun _ => rfl, fun _ => rfl, hI.t4, hI.t5, hI.t6, hI.t7, hI.t8, hI.t9, hI.t10, hI.t11, hI.t12, hI.t13, hI.t14, hI.t15, hI.t16, hI.t17, hI.t18, hI.t19, hI.t20, hI.t21, hI.t22, hI.t23, hI.t24, hI.t25, hI.t26, hI.t27, hI.t28, hI.t29, hI.t30, hI.t31, hI.t32, hI.t33, hI.t34, hI.t35, hI.t36, hI.t37, hI.t38, hI.t39, hI.t40, hI.bw⟩⟩
          · rintro LF aF wx ⟨v, rfl, hI⟩ hL hdep hcl K hK
            go_simp
            exact hK _ _ ⟨(upd v 85 (.int .u64 ↑j)), rfl, ⟨hI.t0, hI.t1, hI.t2, hI.t3, fun _ => rfl, hI.t5, hI.t6, hI.t7, hI.t8, hI.t9, hI.t10, hI.t11, hI.t12, hI.t13, hI.t14, hI.t15, hI.t16, hI.t17, hI.t18, hI.t19, hI.t20, hI.t21, hI.t22, hI.t23, hI.t24, hI.t25, hI.t26, hI.t27, hI.t28, hI.t29, hI.t30, hI.t31, hI.t32, hI.t33, hI.t34, hI.t35, hI.t36, hI.t37, hI.t38, hI.t39, hI.t40, hI.bw⟩⟩
          · rintro LF aF wx ⟨v, rfl, hI⟩ hL hdep hcl K hK
            go_simp
            exact hK _ _ ⟨(upd v 86 (.int .u64 ↑n)), rfl, ⟨hI.t0, hI.t1, hI.t2, hI.t3, hI.t4, fun _ => rfl, hI.t6, hI.t7, hI.t8, hI.t9, hI.t10, hI.t11, hI.t12, hI.t13, hI.t14, hI.t15, hI.t16, hI.t17, hI.t18, hI.t19, hI.t20, hI.t21, hI.t22, hI.t23, hI.t24, hI.t25, hI.t26, hI.t27, hI.t28, hI.t29, hI.t30, hI.t31, hI.t32, hI.t33, hI.t34, hI.t35, hI.t36, hI.t37, hI.t38, hI.t39, hI.t40, hI.bw⟩⟩
          · rintro LF aF wx ⟨v, rfl, hI⟩ hL hdep hcl K hK
            go_simp
            exact hK _ _ ⟨(upd v 87 (.slice a12 (q + 1) c12)), rfl, ⟨hI.t0, hI.t1, hI.t2, hI.t3, hI.t4, hI.t5, fun _ => rfl, hI.t7, hI.t8, hI.t9, hI.t10, hI.t11, hI.t12, hI.t13, hI.t14, hI.t15, hI.t16, hI.t17, hI.t18, hI.t19, hI.t20, hI.t21, hI.t22, hI.t23, hI.t24, hI.t25, hI.t26, hI.t27, hI.t28, hI.t29, hI.t30, hI.t31, hI.t32, hI.t33, hI.t34, hI.t35, hI.t36, hI.t37, hI.t38, hI.t39, hI.t40, hI.bw⟩⟩
          · rintro LF aF wx ⟨v, rfl, hI⟩ hL hdep hcl K hK
            refine ow_load 41 _ rfl g6 0 rfl 41 (bvs RT) (bvs RT) (HG6.out wx hI.bw) (fun j v h => by rw [Nat.zero_add]; exact h) (.array 32 5) Try.underlying41 rfl IR.out ?_
            exact hK _ _ ⟨(upd v 88 (.agg (bvs RT).toArray)), rfl, ⟨hI.t0, hI.t1, hI.t2, hI.t3, hI.t4, hI.t5, hI.t6, fun _ => rfl, hI.t8, hI.t9, hI.t10, hI.t11, hI.t12, hI.t13, hI.t14, hI.t15, hI.t16, hI.t17, hI.t18, hI.t19, hI.t20, hI.t21, hI.t22, hI.t23, hI.t24, hI.t25, hI.t26, hI.t27, hI.t28, hI.t29, hI.t30, hI.t31, hI.t32, hI.t33, hI.t34, hI.t35, hI.t36, hI.t37, hI.t38, hI.t39, hI.t40, hI.bw⟩⟩
          · rintro LF aF wx ⟨v, rfl, hI⟩ hL hdep hcl K hK
            have e3 := hI.t3 (hdep 3 (by decide))
            have e4 := hI.t4 (hdep 4 (by decide))
            have e5 := hI.t5 (hdep 5 (by decide))
            have e6 := hI.t6 (hdep 6 (by decide))
            have e7 := hI.t7 (hdep 7 (by decide))
            rw [e3, e4, e5, e6, e7]
            have HCC := W1.out wx hI.bw
            go_simp
            refine HCC.mono ?_
            rintro e w' ⟨rfl, hb⟩
            exact hK _ _ ⟨(upd (upd (upd (upd (upd (upd v 84 (.agg (bvs y).toArray)) 85 (.int .u64 ↑j)) 86 (.int .u64 ↑n)) 87 (.slice a12 (q + 1) c12)) 88 (.agg (bvs RT).toArray)) 89 (.bool false)), rfl, ⟨hI.t0, hI.t1, hI.t2, fun _ => rfl, fun _ => rfl, fun _ => rfl, fun _ => rfl, fun _ => rfl, fun _ => rfl, hI.t9, hI.t10, hI.t11, hI.t12, hI.t13, hI.t14, hI.t15, hI.t16, hI.t17, hI.t18, hI.t19, hI.t20, hI.t21, hI.t22, hI.t23, hI.t24, hI.t25, hI.t26, hI.t27, hI.t28, hI.t29, hI.t30, hI.t31, hI.t32, hI.t33, hI.t34, hI.t35, hI.t36, hI.t37, hI.t38, hI.t39, hI.t40, (hI.bw).trans (hb.mono (hI.bw).size)⟩⟩
          · rintro LF aF wx ⟨v, rfl, hI⟩ hL hdep hcl K hK
            have e8 := hI.t8 (hdep 8 (by decide))
            rw [e8]
            go_simp
            exact hK _ _ ⟨(upd (upd v 89 (.bool false)) 90 (.bool true)), rfl, ⟨hI.t0, hI.t1, hI.t2, hI.t3, hI.t4, hI.t5, hI.t6, hI.t7, fun _ => rfl, fun _ => rfl, hI.t10, hI.t11, hI.t12, hI.t13, hI.t14, hI.t15, hI.t16, hI.t17, hI.t18, hI.t19, hI.t20, hI.t21, hI.t22, hI.t23, hI.t24, hI.t25, hI.t26, hI.t27, hI.t28, hI.t29, hI.t30, hI.t31, hI.t32, hI.t33, hI.t34, hI.t35, hI.t36, hI.t37, hI.t38, hI.t39, hI.t40, hI.bw⟩⟩
          · rintro LF aF wx ⟨v, rfl, hI⟩ hL hdep hcl K hK
            have e9 := hI.t9 (hdep 9 (by decide))
            rw [e9]
            go_simp
            exact hK _ _ ⟨(upd (upd v 90 (.bool true)) 91 (.bool true)), rfl, ⟨hI.t0, hI.t1, hI.t2, hI.t3, hI.t4, hI.t5, hI.t6, hI.t7, hI.t8, fun _ => rfl, fun _ => rfl, hI.t11, hI.t12, hI.t13, hI.t14, hI.t15, hI.t16, hI.t17, hI.t18, hI.t19, hI.t20, hI.t21, hI.t22, hI.t23, hI.t24, hI.t25, hI.t26, hI.t27, hI.t28, hI.t29, hI.t30, hI.t31, hI.t32, hI.t33, hI.t34, hI.t35, hI.t36, hI.t37, hI.t38, hI.t39, hI.t40, hI.bw⟩⟩
          · rintro LF aF wx ⟨v, rfl, hI⟩ hL hdep hcl K hK
            have e10 := hI.t10 (hdep 10 (by decide))
            rw [e10]
            refine (if_pos rfl).mpr ?_
            go_simp
            exact hK _ _ ⟨(upd (upd v 91 (.bool true)) 92 (.slice (some ⟨pb, po, none⟩) q c5)), rfl, ⟨hI.t0, hI.t1, hI.t2, hI.t3, hI.t4, hI.t5, hI.t6, hI.t7, hI.t8, hI.t9, fun _ => rfl, fun _ => rfl, hI.t12, hI.t13, hI.t14, hI.t15, hI.t16, hI.t17, hI.t18, hI.t19, hI.t20, hI.t21, hI.t22, hI.t23, hI.t24, hI.t25, hI.t26, hI.t27, hI.t28, hI.t29, hI.t30, hI.t31, hI.t32, hI.t33, hI.t34, hI.t35, hI.t36, hI.t37, hI.t38, hI.t39, hI.t40, hI.bw⟩⟩
          · rintro LF aF wx ⟨v, rfl, hI⟩ hL hdep hcl K hK
            have e11 := hI.t11 (hdep 11 (by decide))
            have e10 := hI.t10 (hdep 10 (by decide))
            rw [e11, e10]
            refine (if_pos rfl).mpr ?_
            go_simp
            exact hK _ _ ⟨(upd (upd (upd v 92 (.slice (some ⟨pb, po, none⟩) q c5)) 91 (.bool true)) 93 (.int .i64 (q : Int))), rfl, ⟨hI.t0, hI.t1, hI.t2, hI.t3, hI.t4, hI.t5, hI.t6, hI.t7, hI.t8, hI.t9, fun _ => rfl, fun _ => rfl, fun _ => rfl, hI.t13, hI.t14, hI.t15, hI.t16, hI.t17, hI.t18, hI.t19, hI.t20, hI.t21, hI.t22, hI.t23, hI.t24, hI.t25, hI.t26, hI.t27, hI.t28, hI.t29, hI.t30, hI.t31, hI.t32, hI.t33, hI.t34, hI.t35, hI.t36, hI.t37, hI.t38, hI.t39, hI.t40, hI.bw⟩⟩
          · rintro LF aF wx ⟨v, rfl, hI⟩ hL hdep hcl K hK
            have e12 := hI.t12 (hdep 12 (by decide))
            have e10 := hI.t10 (hdep 10 (by decide))
            rw [e12, e10]
            refine (if_pos rfl).mpr ?_
            go_simp
            exact hK _ _ ⟨(upd (upd (upd v 93 (.int .i64 (q : Int))) 91 (.bool true)) 94 (.bool false)), rfl, ⟨hI.t0, hI.t1, hI.t2, hI.t3, hI.t4, hI.t5, hI.t6, hI.t7, hI.t8, hI.t9, fun _ => rfl, hI.t11, fun _ => rfl, fun _ => rfl, hI.t14, hI.t15, hI.t16, hI.t17, hI.t18, hI.t19, hI.t20, hI.t21, hI.t22, hI.t23, hI.t24, hI.t25, hI.t26, hI.t27, hI.t28, hI.t29, hI.t30, hI.t31, hI.t32, hI.t33, hI.t34, hI.t35, hI.t36, hI.t37, hI.t38, hI.t39, hI.t40, hI.bw⟩⟩
          · rintro LF aF wx ⟨v, rfl, hI⟩ hL hdep hcl K hK
            have e13 := hI.t13 (hdep 13 (by decide))
            have e10 := hI.t10 (hdep 10 (by decide))
            rw [e13, e10]
            refine (if_pos rfl).mpr ?_
            go_simp
            exact hK _ _ ⟨(upd (upd (upd v 94 (.bool false)) 91 (.bool true)) 95 (.bool false)), rfl, ⟨hI.t0, hI.t1, hI.t2, hI.t3, hI.t4, hI.t5, hI.t6, hI.t7, hI.t8, hI.t9, fun _ => rfl, hI.t11, hI.t12, fun _ => rfl, fun _ => rfl, hI.t15, hI.t16, hI.t17, hI.t18, hI.t19, hI.t20, hI.t21, hI.t22, hI.t23, hI.t24, hI.t25, hI.t26, hI.t27, hI.t28, hI.t29, hI.t30, hI.t31, hI.t32, hI.t33, hI.t34, hI.t35, hI.t36, hI.t37, hI.t38, hI.t39, hI.t40, hI.bw⟩⟩
          · rintro LF aF wx ⟨v, rfl, hI⟩ hL hdep hcl K hK
            have e14 := hI.t14 (hdep 14 (by decide))
            rw [e14]
            refine (if_pos rfl).mpr ?_
            go_simp
            exact hK _ _ ⟨(upd (upd v 95 (.bool false)) 96 (.slice (some ⟨b, off, none⟩) n c)), rfl, ⟨hI.t0, hI.t1, hI.t2, hI.t3, hI.t4, hI.t5, hI.t6, hI.t7, hI.t8, hI.t9, hI.t10, hI.t11, hI.t12, hI.t13, fun _ => rfl, fun _ => rfl, hI.t16, hI.t17, hI.t18, hI.t19, hI.t20, hI.t21, hI.t22, hI.t23, hI.t24, hI.t25, hI.t26, hI.t27, hI.t28, hI.t29, hI.t30, hI.t31, hI.t32, hI.t33, hI.t34, hI.t35, hI.t36, hI.t37, hI.t38, hI.t39, hI.t40, hI.bw⟩⟩
          · rintro LF aF wx ⟨v, rfl, hI⟩ hL hdep hcl K hK
            have e14 := hI.t14 (hdep 14 (by decide))
            rw [e14]
            refine (if_pos rfl).mpr ?_
            go_simp
            exact hK _ _ ⟨(upd (upd v 95 (.bool false)) 97 (.int .u64 ↑j)), rfl, ⟨hI.t0, hI.t1, hI.t2, hI.t3, hI.t4, hI.t5, hI.t6, hI.t7, hI.t8, hI.t9, hI.t10, hI.t11, hI.t12, hI.t13, fun _ => rfl, hI.t15, fun _ => rfl, hI.t17, hI.t18, hI.t19, hI.t20, hI.t21, hI.t22, hI.t23, hI.t24, hI.t25, hI.t26, hI.t27, hI.t28, hI.t29, hI.t30, hI.t31, hI.t32, hI.t33, hI.t34, hI.t35, hI.t36, hI.t37, hI.t38, hI.t39, hI.t40, hI.bw⟩⟩
          · rintro LF aF wx ⟨v, rfl, hI⟩ hL hdep hcl K hK
            have e15 := hI.t15 (hdep 15 (by decide))
            have e16 := hI.t16 (hdep 16 (by decide))
            have e14 := hI.t14 (hdep 14 (by decide))
            rw [e15, e16, e14]
            refine (if_pos rfl).mpr ?_
            go_simp
            exact hK _ _ ⟨(upd (upd (upd (upd v 96 (.slice (some ⟨b, off, none⟩) n c)) 97 (.int .u64 ↑j)) 95 (.bool false)) 98 (.pointer (some ⟨b, off + j * 32, none⟩))), rfl, ⟨hI.t0, hI.t1, hI.t2, hI.t3, hI.t4, hI.t5, hI.t6, hI.t7, hI.t8, hI.t9, hI.t10, hI.t11, hI.t12, hI.t13, fun _ => rfl, fun _ => rfl, fun _ => rfl, fun _ => rfl, hI.t18, hI.t19, hI.t20, hI.t21, hI.t22, hI.t23, hI.t24, hI.t25, hI.t26, hI.t27, hI.t28, hI.t29, hI.t30, hI.t31, hI.t32, hI.t33, hI.t34, hI.t35, hI.t36, hI.t37, hI.t38, hI.t39, hI.t40, hI.bw⟩⟩
          · rintro LF aF wx ⟨v, rfl, hI⟩ hL hdep hcl K hK
            have e17 := hI.t17 (hdep 17 (by decide))
            have e14 := hI.t14 (hdep 14 (by decide))
            rw [e17, e14]
            refine (if_pos rfl).mpr ?_
            refine wp_load_mid 41 _ rfl b (off + j * 32) rfl (bvs y) (.array 32 5) (HRY.out wx hI.bw) Try.underlying41 rfl IY.out ?_
            exact hK _ _ ⟨(upd (upd (upd v 98 (.pointer (some ⟨b, off + j * 32, none⟩))) 95 (.bool false)) 99 (.agg (bvs y).toArray)), rfl, ⟨hI.t0, hI.t1, hI.t2, hI.t3, hI.t4, hI.t5, hI.t6, hI.t7, hI.t8, hI.t9, hI.t10, hI.t11, hI.t12, hI.t13, fun _ => rfl, hI.t15, hI.t16, fun _ => rfl, fun _ => rfl, hI.t19, hI.t20, hI.t21, hI.t22, hI.t23, hI.t24, hI.t25, hI.t26, hI.t27, hI.t28, hI.t29, hI.t30, hI.t31, hI.t32, hI.t33, hI.t34, hI.t35, hI.t36, hI.t37, hI.t38, hI.t39, hI.t40, hI.bw⟩⟩
          · rintro LF aF wx ⟨v, rfl, hI⟩ hL hdep hcl K hK
            have e14 := hI.t14 (hdep 14 (by decide))
            rw [e14]
            refine (if_pos rfl).mpr ?_
            go_simp
            exact hK _ _ ⟨(upd (upd v 95 (.bool false)) 100 (.int .u64 ↑j)), rfl, ⟨hI.t0, hI.t1, hI.t2, hI.t3, hI.t4, hI.t5, hI.t6, hI.t7, hI.t8, hI.t9, hI.t10, hI.t11, hI.t12, hI.t13, fun _ => rfl, hI.t15, hI.t16, hI.t17, hI.t18, fun _ => rfl, hI.t20, hI.t21, hI.t22, hI.t23, hI.t24, hI.t25, hI.t26, hI.t27, hI.t28, hI.t29, hI.t30, hI.t31, hI.t32, hI.t33, hI.t34, hI.t35, hI.t36, hI.t37, hI.t38, hI.t39, hI.t40, hI.bw⟩⟩
          · rintro LF aF wx ⟨v, rfl, hI⟩ hL hdep hcl K hK
            have e14 := hI.t14 (hdep 14 (by decide))
            rw [e14]
            refine (if_pos rfl).mpr ?_
            go_simp
            exact hK _ _ ⟨(upd (upd v 95 (.bool false)) 101 (.int .u64 ↑n)), rfl, ⟨hI.t0, hI.t1, hI.t2, hI.t3, hI.t4, hI.t5, hI.t6, hI.t7, hI.t8, hI.t9, hI.t10, hI.t11, hI.t12, hI.t13, fun _ => rfl, hI.t15, hI.t16, hI.t17, hI.t18, hI.t19, fun _ => rfl, hI.t21, hI.t22, hI.t23, hI.t24, hI.t25, hI.t26, hI.t27, hI.t28, hI.t29, hI.t30, hI.t31, hI.t32, hI.t33, hI.t34, hI.t35, hI.t36, hI.t37, hI.t38, hI.t39, hI.t40, hI.bw⟩⟩
          · rintro LF aF wx ⟨v, rfl, hI⟩ hL hdep hcl K hK
            have e14 := hI.t14 (hdep 14 (by decide))
            rw [e14]
            refine (if_pos rfl).mpr ?_
            go_simp
            exact hK _ _ ⟨(upd (upd v 95 (.bool false)) 102 (.slice (some ⟨pb, po, none⟩) q c5)), rfl, ⟨hI.t0, hI.t1, hI.t2, hI.t3, hI.t4, hI.t5, hI.t6, hI.t7, hI.t8, hI.t9, hI.t10, hI.t11, hI.t12, hI.t13, fun _ => rfl, hI.t15, hI.t16, hI.t17, hI.t18, hI.t19, hI.t20, fun _ => rfl, hI.t22, hI.t23, hI.t24, hI.t25, hI.t26, hI.t27, hI.t28, hI.t29, hI.t30, hI.t31, hI.t32, hI.t33, hI.t34, hI.t35, hI.t36, hI.t37, hI.t38, hI.t39, hI.t40, hI.bw⟩⟩
          · rintro LF aF wx ⟨v, rfl, hI⟩ hL hdep hcl K hK
            have e21 := hI.t21 (hdep 21 (by decide))
            have e14 := hI.t14 (hdep 14 (by decide))
            rw [e21, e14]
            refine (if_pos rfl).mpr ?_
            refine ow_cut1 pb po q c5 HQ1.out HQC.out _ _ rfl rfl rfl ?_
            exact hK _ _ ⟨(upd (upd (upd v 102 (.slice (some ⟨pb, po, none⟩) q c5)) 95 (.bool false)) 103 (.slice (some ⟨pb, if c5 = 1 then po else po + 32, none⟩) (q - 1) (c5 - 1))), rfl, ⟨hI.t0, hI.t1, hI.t2, hI.t3, hI.t4, hI.t5, hI.t6, hI.t7, hI.t8, hI.t9, hI.t10, hI.t11, hI.t12, hI.t13, fun _ => rfl, hI.t15, hI.t16, hI.t17, hI.t18, hI.t19, hI.t20, fun _ => rfl, fun _ => rfl, hI.t23, hI.t24, hI.t25, hI.t26, hI.t27, hI.t28, hI.t29, hI.t30, hI.t31, hI.t32, hI.t33, hI.t34, hI.t35, hI.t36, hI.t37, hI.t38, hI.t39, hI.t40, hI.bw⟩⟩
          · rintro LF aF wx ⟨v, rfl, hI⟩ hL hdep hcl K hK
            have e14 := hI.t14 (hdep 14 (by decide))
            rw [e14]
            refine (if_pos rfl).mpr ?_
            refine ow_load 41 _ rfl g6 0 rfl 41 (bvs RT) (bvs RT) (HG6.out wx hI.bw) (fun j v h => by rw [Nat.zero_add]; exact h) (.array 32 5) Try.underlying41 rfl IR.out ?_
            exact hK _ _ ⟨(upd (upd v 95 (.bool false)) 104 (.agg (bvs RT).toArray)), rfl, ⟨hI.t0, hI.t1, hI.t2, hI.t3, hI.t4, hI.t5, hI.t6, hI.t7, hI.t8, hI.t9, hI.t10, hI.t11, hI.t12, hI.t13, fun _ => rfl, hI.t15, hI.t16, hI.t17, hI.t18, hI.t19, hI.t20, hI.t21, hI.t22, fun _ => rfl, hI.t24, hI.t25, hI.t26, hI.t27, hI.t28, hI.t29, hI.t30, hI.t31, hI.t32, hI.t33, hI.t34, hI.t35, hI.t36, hI.t37, hI.t38, hI.t39, hI.t40, hI.bw⟩⟩
          · rintro LF aF wx ⟨v, rfl, hI⟩ hL hdep hcl K hK
            have e18 := hI.t18 (hdep 18 (by decide))
            have e19 := hI.t19 (hdep 19 (by decide))
            have e20 := hI.t20 (hdep 20 (by decide))
            have e22 := hI.t22 (hdep 22 (by decide))
            have e23 := hI.t23 (hdep 23 (by decide))
            have e14 := hI.t14 (hdep 14 (by decide))
            rw [e18, e19, e20, e22, e23, e14]
            refine (if_pos rfl).mpr ?_
            have HCC := W2.out wx hI.bw
            go_simp
            refine HCC.mono ?_
            rintro e w' ⟨rfl, hb⟩
            exact hK _ _ ⟨(upd (upd (upd (upd (upd (upd (upd v 99 (.agg (bvs y).toArray)) 100 (.int .u64 ↑j)) 101 (.int .u64 ↑n)) 103 (.slice (some ⟨pb, if c5 = 1 then po else po + 32, none⟩) (q - 1) (c5 - 1))) 104 (.agg (bvs RT).toArray)) 95 (.bool false)) 105 (.bool false)), rfl, ⟨hI.t0, hI.t1, hI.t2, hI.t3, hI.t4, hI.t5, hI.t6, hI.t7, hI.t8, hI.t9, hI.t10, hI.t11, hI.t12, hI.t13, fun _ => rfl, hI.t15, hI.t16, hI.t17, fun _ => rfl, fun _ => rfl, fun _ => rfl, hI.t21, fun _ => rfl, fun _ => rfl, fun _ => rfl, hI.t25, hI.t26, hI.t27, hI.t28, hI.t29, hI.t30, hI.t31, hI.t32, hI.t33, hI.t34, hI.t35, hI.t36, hI.t37, hI.t38, hI.t39, hI.t40, (hI.bw).trans (hb.mono (hI.bw).size)⟩⟩
          · rintro LF aF wx ⟨v, rfl, hI⟩ hL hdep hcl K hK
            have e24 := hI.t24 (hdep 24 (by decide))
            have e14 := hI.t14 (hdep 14 (by decide))
            rw [e24, e14]
            refine (if_pos rfl).mpr ?_
            go_simp
            exact hK _ _ ⟨(upd (upd (upd v 105 (.bool false)) 95 (.bool false)) 106 (.bool true)), rfl, ⟨hI.t0, hI.t1, hI.t2, hI.t3, hI.t4, hI.t5, hI.t6, hI.t7, hI.t8, hI.t9, hI.t10, hI.t11, hI.t12, hI.t13, fun _ => rfl, hI.t15, hI.t16, hI.t17, hI.t18, hI.t19, hI.t20, hI.t21, hI.t22, hI.t23, fun _ => rfl, fun _ => rfl, hI.t26, hI.t27, hI.t28, hI.t29, hI.t30, hI.t31, hI.t32, hI.t33, hI.t34, hI.t35, hI.t36, hI.t37, hI.t38, hI.t39, hI.t40, hI.bw⟩⟩
          · rintro LF aF wx ⟨v, rfl, hI⟩ hL hdep hcl K hK
            have e14 := hI.t14 (hdep 14 (by decide))
            have e25 := hI.t25 (hdep 25 (by decide))
            have e10 := hI.t10 (hdep 10 (by decide))
            rw [e14, e25, e10]
            refine (if_pos rfl).mpr ?_
            go_simp
            exact hK _ _ ⟨(upd (upd (upd (upd v 95 (.bool false)) 106 (.bool true)) 91 (.bool true)) 107 (.bool true)), rfl, ⟨hI.t0, hI.t1, hI.t2, hI.t3, hI.t4, hI.t5, hI.t6, hI.t7, hI.t8, hI.t9, fun _ => rfl, hI.t11, hI.t12, hI.t13, fun _ => rfl, hI.t15, hI.t16, hI.t17, hI.t18, hI.t19, hI.t20, hI.t21, hI.t22, hI.t23, hI.t24, fun _ => rfl, fun _ => rfl, hI.t27, hI.t28, hI.t29, hI.t30, hI.t31, hI.t32, hI.t33, hI.t34, hI.t35, hI.t36, hI.t37, hI.t38, hI.t39, hI.t40, hI.bw⟩⟩
          · rintro LF aF wx ⟨v, rfl, hI⟩ hL hdep hcl K hK
            have e10 := hI.t10 (hdep 10 (by decide))
            have e26 := hI.t26 (hdep 26 (by decide))
            rw [e10, e26]
            go_simp
            exact hK _ _ ⟨(upd (upd (upd v 91 (.bool true)) 107 (.bool true)) 108 (.bool true)), rfl, ⟨hI.t0, hI.t1, hI.t2, hI.t3, hI.t4, hI.t5, hI.t6, hI.t7, hI.t8, hI.t9, fun _ => rfl, hI.t11, hI.t12, hI.t13, hI.t14, hI.t15, hI.t16, hI.t17, hI.t18, hI.t19, hI.t20, hI.t21, hI.t22, hI.t23, hI.t24, hI.t25, fun _ => rfl, fun _ => rfl, hI.t28, hI.t29, hI.t30, hI.t31, hI.t32, hI.t33, hI.t34, hI.t35, hI.t36, hI.t37, hI.t38, hI.t39, hI.t40, hI.bw⟩⟩
          · rintro LF aF wx ⟨v, rfl, hI⟩ hL hdep hcl K hK
            have e27 := hI.t27 (hdep 27 (by decide))
            rw [e27]
            go_simp
            exact hK _ _ ⟨(upd (upd v 108 (.bool true)) 109 (.bool true)), rfl, ⟨hI.t0, hI.t1, hI.t2, hI.t3, hI.t4, hI.t5, hI.t6, hI.t7, hI.t8, hI.t9, hI.t10, hI.t11, hI.t12, hI.t13, hI.t14, hI.t15, hI.t16, hI.t17, hI.t18, hI.t19, hI.t20, hI.t21, hI.t22, hI.t23, hI.t24, hI.t25, hI.t26, fun _ => rfl, fun _ => rfl, hI.t29, hI.t30, hI.t31, hI.t32, hI.t33, hI.t34, hI.t35, hI.t36, hI.t37, hI.t38, hI.t39, hI.t40, hI.bw⟩⟩
          · rintro LF aF wx ⟨v, rfl, hI⟩ hL hdep hcl K hK
            have e28 := hI.t28 (hdep 28 (by decide))
            rw [e28]
            refine (if_pos rfl).mpr ?_
            go_simp
            exact hK _ _ ⟨(upd (upd v 109 (.bool true)) 110 (.slice (some ⟨b, off, none⟩) n c)), rfl, ⟨hI.t0, hI.t1, hI.t2, hI.t3, hI.t4, hI.t5, hI.t6, hI.t7, hI.t8, hI.t9, hI.t10, hI.t11, hI.t12, hI.t13, hI.t14, hI.t15, hI.t16, hI.t17, hI.t18, hI.t19, hI.t20, hI.t21, hI.t22, hI.t23, hI.t24, hI.t25, hI.t26, hI.t27, fun _ => rfl, fun _ => rfl, hI.t30, hI.t31, hI.t32, hI.t33, hI.t34, hI.t35, hI.t36, hI.t37, hI.t38, hI.t39, hI.t40, hI.bw⟩⟩
          · rintro LF aF wx ⟨v, rfl, hI⟩ hL hdep hcl K hK
            have e28 := hI.t28 (hdep 28 (by decide))
            rw [e28]
            refine (if_pos rfl).mpr ?_
            go_simp
            exact hK _ _ ⟨(upd (upd v 109 (.bool true)) 111 (.int .u64 ↑j)), rfl, ⟨hI.t0, hI.t1, hI.t2, hI.t3, hI.t4, hI.t5, hI.t6, hI.t7, hI.t8, hI.t9, hI.t10, hI.t11, hI.t12, hI.t13, hI.t14, hI.t15, hI.t16, hI.t17, hI.t18, hI.t19, hI.t20, hI.t21, hI.t22, hI.t23, hI.t24, hI.t25, hI.t26, hI.t27, fun _ => rfl, hI.t29, fun _ => rfl, hI.t31, hI.t32, hI.t33, hI.t34, hI.t35, hI.t36, hI.t37, hI.t38, hI.t39, hI.t40, hI.bw⟩⟩
          · rintro LF aF wx ⟨v, rfl, hI⟩ hL hdep hcl K hK
            have e29 := hI.t29 (hdep 29 (by decide))
            have e30 := hI.t30 (hdep 30 (by decide))
            have e28 := hI.t28 (hdep 28 (by decide))
            rw [e29, e30, e28]
            refine (if_pos rfl).mpr ?_
            go_simp
            exact hK _ _ ⟨(upd (upd (upd (upd v 110 (.slice (some ⟨b, off, none⟩) n c)) 111 (.int .u64 ↑j)) 109 (.bool true)) 112 (.pointer (some ⟨b, off + j * 32, none⟩))), rfl, ⟨hI.t0, hI.t1, hI.t2, hI.t3, hI.t4, hI.t5, hI.t6, hI.t7, hI.t8, hI.t9, hI.t10, hI.t11, hI.t12, hI.t13, hI.t14, hI.t15, hI.t16, hI.t17, hI.t18, hI.t19, hI.t20, hI.t21, hI.t22, hI.t23, hI.t24, hI.t25, hI.t26, hI.t27, fun _ => rfl, fun _ => rfl, fun _ => rfl, fun _ => rfl, hI.t32, hI.t33, hI.t34, hI.t35, hI.t36, hI.t37, hI.t38, hI.t39, hI.t40, hI.bw⟩⟩
          · rintro LF aF wx ⟨v, rfl, hI⟩ hL hdep hcl K hK
            have e31 := hI.t31 (hdep 31 (by decide))
            have e28 := hI.t28 (hdep 28 (by decide))
            rw [e31, e28]
            refine (if_pos rfl).mpr ?_
            refine wp_load_mid 41 _ rfl b (off + j * 32) rfl (bvs y) (.array 32 5) (HRY.out wx hI.bw) Try.underlying41 rfl IY.out ?_
            exact hK _ _ ⟨(upd (upd (upd v 112 (.pointer (some ⟨b, off + j * 32, none⟩))) 109 (.bool true)) 113 (.agg (bvs y).toArray)), rfl, ⟨hI.t0, hI.t1, hI.t2, hI.t3, hI.t4, hI.t5, hI.t6, hI.t7, hI.t8, hI.t9, hI.t10, hI.t11, hI.t12, hI.t13, hI.t14, hI.t15, hI.t16, hI.t17, hI.t18, hI.t19, hI.t20, hI.t21, hI.t22, hI.t23, hI.t24, hI.t25, hI.t26, hI.t27, fun _ => rfl, hI.t29, hI.t30, fun _ => rfl, fun _ => rfl, hI.t33, hI.t34, hI.t35, hI.t36, hI.t37, hI.t38, hI.t39, hI.t40, hI.bw⟩⟩
          · rintro LF aF wx ⟨v, rfl, hI⟩ hL hdep hcl K hK
            have e28 := hI.t28 (hdep 28 (by decide))
            rw [e28]
            refine (if_pos rfl).mpr ?_
            go_simp
            exact hK _ _ ⟨(upd (upd v 109 (.bool true)) 114 (.int .u64 ↑n)), rfl, ⟨hI.t0, hI.t1, hI.t2, hI.t3, hI.t4, hI.t5, hI.t6, hI.t7, hI.t8, hI.t9, hI.t10, hI.t11, hI.t12, hI.t13, hI.t14, hI.t15, hI.t16, hI.t17, hI.t18, hI.t19, hI.t20, hI.t21, hI.t22, hI.t23, hI.t24, hI.t25, hI.t26, hI.t27, fun _ => rfl, hI.t29, hI.t30, hI.t31, hI.t32, fun _ => rfl, hI.t34, hI.t35, hI.t36, hI.t37, hI.t38, hI.t39, hI.t40, hI.bw⟩⟩
          · rintro LF aF wx ⟨v, rfl, hI⟩ hL hdep hcl K hK
            have e28 := hI.t28 (hdep 28 (by decide))
            rw [e28]
            refine (if_pos rfl).mpr ?_
            go_simp
            exact hK _ _ ⟨(upd (upd v 109 (.bool true)) 115 (.int .u64 ↑n)), rfl, ⟨hI.t0, hI.t1, hI.t2, hI.t3, hI.t4, hI.t5, hI.t6, hI.t7, hI.t8, hI.t9, hI.t10, hI.t11, hI.t12, hI.t13, hI.t14, hI.t15, hI.t16, hI.t17, hI.t18, hI.t19, hI.t20, hI.t21, hI.t22, hI.t23, hI.t24, hI.t25, hI.t26, hI.t27, fun _ => rfl, hI.t29, hI.t30, hI.t31, hI.t32, hI.t33, fun _ => rfl, hI.t35, hI.t36, hI.t37, hI.t38, hI.t39, hI.t40, hI.bw⟩⟩
          · rintro LF aF wx ⟨v, rfl, hI⟩ hL hdep hcl K hK
            have e28 := hI.t28 (hdep 28 (by decide))
            rw [e28]
            refine (if_pos rfl).mpr ?_
            go_simp
            exact hK _ _ ⟨(upd (upd v 109 (.bool true)) 116 (.slice (some ⟨pb, po, none⟩) q c5)), rfl, ⟨hI.t0, hI.t1, hI.t2, hI.t3, hI.t4, hI.t5, hI.t6, hI.t7, hI.t8, hI.t9, hI.t10, hI.t11, hI.t12, hI.t13, hI.t14, hI.t15, hI.t16, hI.t17, hI.t18, hI.t19, hI.t20, hI.t21, hI.t22, hI.t23, hI.t24, hI.t25, hI.t26, hI.t27, fun _ => rfl, hI.t29, hI.t30, hI.t31, hI.t32, hI.t33, hI.t34, fun _ => rfl, hI.t36, hI.t37, hI.t38, hI.t39, hI.t40, hI.bw⟩⟩
          · rintro LF aF wx ⟨v, rfl, hI⟩ hL hdep hcl K hK
            have e28 := hI.t28 (hdep 28 (by decide))
            rw [e28]
            refine (if_pos rfl).mpr ?_
            refine ow_load 41 _ rfl g6 0 rfl 41 (bvs RT) (bvs RT) (HG6.out wx hI.bw) (fun j v h => by rw [Nat.zero_add]; exact h) (.array 32 5) Try.underlying41 rfl IR.out ?_
            exact hK _ _ ⟨(upd (upd v 109 (.bool true)) 117 (.agg (bvs RT).toArray)), rfl, ⟨hI.t0, hI.t1, hI.t2, hI.t3, hI.t4, hI.t5, hI.t6, hI.t7, hI.t8, hI.t9, hI.t10, hI.t11, hI.t12, hI.t13, hI.t14, hI.t15, hI.t16, hI.t17, hI.t18, hI.t19, hI.t20, hI.t21, hI.t22, hI.t23, hI.t24, hI.t25, hI.t26, hI.t27, fun _ => rfl, hI.t29, hI.t30, hI.t31, hI.t32, hI.t33, hI.t34, hI.t35, fun _ => rfl, hI.t37, hI.t38, hI.t39, hI.t40, hI.bw⟩⟩
          · rintro LF aF wx ⟨v, rfl, hI⟩ hL hdep hcl K hK
            have e32 := hI.t32 (hdep 32 (by decide))
            have e33 := hI.t33 (hdep 33 (by decide))
            have e34 := hI.t34 (hdep 34 (by decide))
            have e35 := hI.t35 (hdep 35 (by decide))
            have e36 := hI.t36 (hdep 36 (by decide))
            have e28 := hI.t28 (hdep 28 (by decide))
            rw [e32, e33, e34, e35, e36, e28]
            refine (if_pos rfl).mpr ?_
            have HCC := W3.out wx hI.bw
            go_simp
            refine HCC.mono ?_
            rintro e w' ⟨rfl, hb⟩
            exact hK _ _ ⟨(upd (upd (upd (upd (upd (upd (upd v 113 (.agg (bvs y).toArray)) 114 (.int .u64 ↑n)) 115 (.int .u64 ↑n)) 116 (.slice (some ⟨pb, po, none⟩) q c5)) 117 (.agg (bvs RT).toArray)) 109 (.bool true)) 118 (.bool false)), rfl, ⟨hI.t0, hI.t1, hI.t2, hI.t3, hI.t4, hI.t5, hI.t6, hI.t7, hI.t8, hI.t9, hI.t10, hI.t11, hI.t12, hI.t13, hI.t14, hI.t15, hI.t16, hI.t17, hI.t18, hI.t19, hI.t20, hI.t21, hI.t22, hI.t23, hI.t24, hI.t25, hI.t26, hI.t27, fun _ => rfl, hI.t29, hI.t30, hI.t31, fun _ => rfl, fun _ => rfl, fun _ => rfl, fun _ => rfl, fun _ => rfl, fun _ => rfl, hI.t38, hI.t39, hI.t40, (hI.bw).trans (hb.mono (hI.bw).size)⟩⟩
          · rintro LF aF wx ⟨v, rfl, hI⟩ hL hdep hcl K hK
            have e37 := hI.t37 (hdep 37 (by decide))
            have e28 := hI.t28 (hdep 28 (by decide))
            rw [e37, e28]
            refine (if_pos rfl).mpr ?_
            go_simp
            exact hK _ _ ⟨(upd (upd (upd v 118 (.bool false)) 109 (.bool true)) 119 (.bool true)), rfl, ⟨hI.t0, hI.t1, hI.t2, hI.t3, hI.t4, hI.t5, hI.t6, hI.t7, hI.t8, hI.t9, hI.t10, hI.t11, hI.t12, hI.t13, hI.t14, hI.t15, hI.t16, hI.t17, hI.t18, hI.t19, hI.t20, hI.t21, hI.t22, hI.t23, hI.t24, hI.t25, hI.t26, hI.t27, fun _ => rfl, hI.t29, hI.t30, hI.t31, hI.t32, hI.t33, hI.t34, hI.t35, hI.t36, fun _ => rfl, fun _ => rfl, hI.t39, hI.t40, hI.bw⟩⟩
          · rintro LF aF wx ⟨v, rfl, hI⟩ hL hdep hcl K hK
            have e28 := hI.t28 (hdep 28 (by decide))
            have e38 := hI.t38 (hdep 38 (by decide))
            rw [e28, e38]
            go_simp
            exact hK _ _ ⟨(upd (upd (upd v 109 (.bool true)) 119 (.bool true)) 120 (.bool true)), rfl, ⟨hI.t0, hI.t1, hI.t2, hI.t3, hI.t4, hI.t5, hI.t6, hI.t7, hI.t8, hI.t9, hI.t10, hI.t11, hI.t12, hI.t13, hI.t14, hI.t15, hI.t16, hI.t17, hI.t18, hI.t19, hI.t20, hI.t21, hI.t22, hI.t23, hI.t24, hI.t25, hI.t26, hI.t27, fun _ => rfl, hI.t29, hI.t30, hI.t31, hI.t32, hI.t33, hI.t34, hI.t35, hI.t36, hI.t37, fun _ => rfl, fun _ => rfl, hI.t40, hI.bw⟩⟩
          · rintro LF aF wx ⟨v, rfl, hI⟩ hL hdep hcl K hK
            have e39 := hI.t39 (hdep 39 (by decide))
            rw [e39]
            go_simp
            exact hK _ _ ⟨(upd (upd v 120 (.bool true)) 4 (.bool true)), rfl, ⟨hI.t0, hI.t1, hI.t2, hI.t3, hI.t4, hI.t5, hI.t6, hI.t7, hI.t8, hI.t9, hI.t10, hI.t11, hI.t12, hI.t13, hI.t14, hI.t15, hI.t16, hI.t17, hI.t18, hI.t19, hI.t20, hI.t21, hI.t22, hI.t23, hI.t24, hI.t25, hI.t26, hI.t27, hI.t28, hI.t29, hI.t30, hI.t31, hI.t32, hI.t33, hI.t34, hI.t35, hI.t36, hI.t37, hI.t38, fun _ => rfl, fun _ => rfl, hI.bw⟩⟩
          · rintro aF wx ⟨vF, rfl, hI⟩
            have e := hI.t40 rfl
            have hbw := hI.bw
            clear hI
            rw [e]
            go_wp2_with fail
            go_ret
            exact ⟨rfl, B012.out.trans (hbw.mono B012.out.size)⟩
end Go.Proofs.Ytbmhobbeimhodaa
