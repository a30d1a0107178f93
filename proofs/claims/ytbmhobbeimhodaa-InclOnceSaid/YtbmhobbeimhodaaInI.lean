/-
  Layer 10: the document's Head; Verify of both. Conditions: those in each statement.
-/
import Derived.Test.YtbmhobbeimhodaaInH
namespace Go.Proofs.Ytbmhobbeimhodaa
open Go.RowKit

theorem run_guardEq (x y : Operand) (A B : Array Value) (w : World) : (eqGuard .eql 41 x y (.agg A) (.agg B)).run Try.prog w = .ok () w := by
  unfold eqGuard
  simp
section
variable {o : Oper} {a : Act} {K : Act → World → Prop} {Q : Exit → Act → World → Prop} {w : World} {ops : Array Oper} {rest : List Oper}
theorem ow_eqD (x y : Operand) (r : TypeId) (ho : o.op = .binOp .eql 41 x y r) (xs ys : List UInt8) (hl : xs.length = 32) (hm : ys.length = 32) (hx : a.eval x = .agg (bvs xs).toArray) (hy : a.eval y = .agg (bvs ys).toArray)
    (hK : K (a.put o.dst (.bool (decide (xs = ys)))) w) : o.wp Try.prog a w K Q := by
  have h := eqD hl hm w
  unfold Oper.wp execOp
  simp only [ho, hx, hy, Sem.run_bind, Sem.run_pure, run_guardEq, h, Result.andThen_ok]
  exact hK
theorem wl_eqD (hw : Region.wanted o (yielded ops a.tmps) = true) (x y : Operand) (r : TypeId) (ho : o.op = .binOp .eql 41 x y r) (xs ys : List UInt8) (hl : xs.length = 32) (hm : ys.length = 32) (hx : a.eval x = .agg (bvs xs).toArray) (hy : a.eval y = .agg (bvs ys).toArray)
    (hK : wpList Try.prog ops Q rest (a.put o.dst (.bool (decide (xs = ys)))) w) : wpList Try.prog ops Q (o :: rest) a w :=
  wpList_step fun _ hK' => by
    rw [if_pos hw]
    exact ow_eqD x y r ho xs ys hl hm hx hy (hK' _ _ hK)
end
/-- whether a path is verified -/
def verB (d : List UInt8) (i s : Nat) (P : List (List UInt8)) (r : List UInt8) : Bool := okH i s P.length && decide (hdV d i s P = r)

set_option maxRecDepth 100000 in
set_option maxHeartbeats 1600000 in
theorem rHead_any (d : List UInt8) (i s : Nat) (a : Option Addr) (n c : Nat) (P : List (List UInt8)) (w : World) (hd : d.length = 32) (hP : RdD w a n c P) (_ : n ≤ 2 ^ 50) :
    Calls Try.prog 18 #[.agg (bvs d).toArray, .int .u64 (i : Int), .int .u64 (s : Int), .slice a n c] w fun e w' => e = .returned (.tuple #[.agg (bvs (hdV d i s P)).toArray, .int .i64 (hdE i s n)]) ∧ Below w.heap.size w w' := by
  have hl := hP.len
  have hR := fun w => rRanges_any i s w
  have h32d : Hid ((Try.prog.info? 41).map (·.size) = some (bvs d).length) := by show _ = _; rw [bvs_len, hd]; exact sizeD
  have h32z : Hid ((Try.prog.info? 41).map (·.size) = some (bvs (Z8 32)).length) := sizeD
  have hlen := rL_few i s
  cases hok : okH i s n with
  | false =>
    have e1 : hdV d i s P = Z8 32 := by unfold hdV; rw [hl, hok]; rfl
    have e2 : hdE i s n = 1 := by unfold hdE; rw [hok]; rfl
    rw [e1, e2]
    clear e1 e2
    obtain ⟨er, her⟩ : ∃ er, er = rE i s := ⟨_, rfl⟩
    obtain ⟨m, hm⟩ : ∃ m, m = (rL i s).length := ⟨_, rfl⟩
    have hcase : er = 1 ∨ (er = 0 ∧ ¬ ((m : Int) = (n : Int))) := by
      cases hr : okR i s with
      | false => left; rw [her]; simp only [rE, hr]; rfl
      | true =>
        right
        refine ⟨by rw [her]; simp only [rE, hr]; rfl, fun e => ?_⟩
        unfold okH at hok
        rw [hr, ← hm] at hok
        simp at hok
        omega
    rw [← her] at hR
    rw [← hm] at hlen
    have HR := Lib.hid hR
    have HM := Lib.hid hm
    clear hR hok hP hl her hm
    rcases hcase with rfl | ⟨rfl, hne⟩
    all_goals
      go_enter Try.func18, Try.ntmps18
      go_wp2_with (first
        | ((with_reducible show wpList _ _ _ (⟨some 4, .box _ _, _, _, _, _⟩ :: _) _ _); refine wl_box rfl 41 _ rfl (bvs d) rfl ?_; intro w1 hA1 hb1 hs1)
        | ((with_reducible show wpList _ _ _ (⟨some 8, .alloc _, _, _, _, _⟩ :: _) _ _); refine wl_alloc rfl 41 rfl (bvs (Z8 32)) 32 infoD ?_; intro w2 hA2 hb2 hs2)
        | (go_at_call 11; refine (HR.out w2).mono ?_; rintro e w3 ⟨v, rfl, hO3, hb3⟩; obtain ⟨ra, rc, rfl, hRd, hrb⟩ := hO3.rd (by omega); rw [← HM.out])
        | ((with_reducible show wpList _ _ _ (⟨some 27, .build _ _, _, _, _, _⟩ :: _) _ _); refine wpList_buildTo rfl 41 _ rfl (some 27) rfl (bvs (Z8 32)).toArray builtD0 ?_)
        | ((with_reducible show wpList _ _ _ (⟨none, .store _ _ _, _, _, _, _⟩ :: _) _ _); refine wl_store rfl 41 _ _ rfl w1.heap.size 0 rfl (bvs (Z8 32)) rfl 41 _ (hA2.kept hb3) h32z.out (by decide) (bvs_one _) ?_; intro w4 hA4 hg4 hs4))
      rw [whole_store _ _ (by rfl)] at hA4
      refine end_cell2 rfl w1.heap.size 41 (bvs (Z8 32)) (.array 32 5) (.int .i64 1) rfl hA4 Try.underlying41 rfl h32z.out rfl rfl ⟨rfl, ?_⟩
      have z1 := hb1.size
      have z2 := hb2.size
      have z3 := hb3.size
      exact ((hb1.trans (hb2.mono z1)).trans (hb3.mono (by omega))).grown hg4 (by omega) (by intro k e; injection e with e; omega)
  | true =>
    obtain ⟨hr, hrn, hrl⟩ := okH_yes hok
    obtain ⟨hs20, his⟩ := okR_yes hr
    have e1 : hdV d i s P = headF d i s P := by unfold hdV; rw [hl, hok]; rfl
    have e2 : hdE i s n = 0 := by unfold hdE; rw [hok]; rfl
    have e3 : rE i s = 0 := by simp only [rE, hr]; rfl
    rw [e1, e2]
    rw [e3, hrl] at hR
    rw [hrl] at hlen
    have hSl : (headF d i s P).length = 32 := head_len s d i s P (Nat.le_refl _) hd
    have HH := Lib.hid (fun w' (hb : Below w.heap.size w w') => rhead_any d hd s s i (Nat.le_refl _) (by omega) his hs20 a n c P w' (hP.to hb) hrn.symm)
    clear hok hr e1 e2 e3 hrl hs20 his hP hl
    obtain ⟨S, hS⟩ : ∃ S, S = headF d i s P := ⟨_, rfl⟩
    rw [← hS] at hSl HH ⊢
    clear hS
    generalize rgF i s 0 = L at *
    have HR := Lib.hid hR
    have HRN := Lib.hid hrn
    clear hR hrn
    have h32S : Hid ((Try.prog.info? 41).map (·.size) = some (bvs S).length) := by show _ = _; rw [bvs_len, hSl]; exact sizeD
    have hS32 : Hid ((bvs S).length = 32) := by show _ = _; rw [bvs_len]; exact hSl
    clear hSl
    go_enter Try.func18, Try.ntmps18
    go_wp2_with (first
      | ((with_reducible show wpList _ _ _ (⟨some 4, .box _ _, _, _, _, _⟩ :: _) _ _); refine wl_box rfl 41 _ rfl (bvs d) rfl ?_; intro w1 hA1 hb1 hs1)
      | ((with_reducible show wpList _ _ _ (⟨some 8, .alloc _, _, _, _, _⟩ :: _) _ _); refine wl_alloc rfl 41 rfl (bvs (Z8 32)) 32 infoD ?_; intro w2 hA2 hb2 hs2)
      | (go_at_call 11; refine (HR.out w2).mono ?_; rintro e w3 ⟨v, rfl, hO3, hb3⟩; obtain ⟨ra, rc, rfl, hRd, hrb⟩ := hO3.rd (by omega); rw [HRN.out]; have b03 : Below w.heap.size w w3 := (hb1.trans (hb2.mono hb1.size)).trans (hb3.mono (by have := hb1.size; have := hb2.size; omega)))
      | ((with_reducible show wpList _ _ _ (⟨some 28, .load _ _, _, _, _, _⟩ :: _) _ _); refine wl_load rfl 41 _ rfl w.heap.size 0 rfl 41 (bvs d) (bvs d) ((hA1.kept hb2).kept hb3) (fun j v h => (by rw [Nat.zero_add]; exact h)) (.array 32 5) Try.underlying41 rfl h32d.out ?_)
      | (go_at_call 28; refine (HH.out w3 b03).mono ?_; rintro e w4 ⟨rfl, hb4⟩)
      | ((with_reducible show wpList _ _ _ (⟨none, .store _ _ _, _, _, _, _⟩ :: _) _ _); refine wl_store rfl 41 _ _ rfl w1.heap.size 0 rfl (bvs S) rfl 41 _ ((hA2.kept hb3).kept hb4) h32S.out (by rw [hS32.out]; exact (by decide : 0 + 32 ≤ (bvs (Z8 32)).length)) (bvs_one _) ?_; intro w5 hA5 hg5 hs5))
    rw [whole_store _ _ (by rw [hS32.out]; rfl)] at hA5
    refine end_cell2 rfl w1.heap.size 41 (bvs S) (.array 32 5) (.int .i64 0) rfl hA5 Try.underlying41 rfl h32S.out rfl rfl ⟨rfl, ?_⟩
    have z1 := hb1.size
    have z3 := b03.size
    have z4 := hb4.size
    exact (b03.trans (hb4.mono z3)).grown hg5 (by omega) (by intro k e; injection e with e; omega)
set_option maxRecDepth 100000 in
set_option maxHeartbeats 1600000 in
theorem Verify_any (d r : List UInt8) (i s : Nat) (a : Option Addr) (n c : Nat) (P : List (List UInt8)) (w : World) (hd : d.length = 32) (hr : r.length = 32) (hP : RdD w a n c P) (hn50 : n ≤ 2 ^ 50) :
    Calls Try.prog 19 #[.agg (bvs d).toArray, .int .u64 (i : Int), .int .u64 (s : Int), .slice a n c, .agg (bvs r).toArray] w fun e w' => e = .returned (.bool (verB d i s P r)) ∧ Below w.heap.size w w' := by
  have hl := hP.len
  have h32d : Hid ((Try.prog.info? 41).map (·.size) = some (bvs d).length) := by show _ = _; rw [bvs_len, hd]; exact sizeD
  have h32r : Hid ((Try.prog.info? 41).map (·.size) = some (bvs r).length) := by show _ = _; rw [bvs_len, hr]; exact sizeD
  have HH := Lib.hid (fun w' (hb : Below w.heap.size w w') => Head_any d i s a n c P w' hd (hP.to hb) hn50)
  have hSl := hdV_len hd i s P
  have hver : verB d i s P r = (okH i s n && decide (hdV d i s P = r)) := by unfold verB; rw [hl]
  rw [hver]
  clear hver
  obtain ⟨S, hS⟩ : ∃ S, S = hdV d i s P := ⟨_, rfl⟩
  rw [← hS] at hSl HH ⊢
  obtain ⟨er, her⟩ : ∃ er, er = hdE i s n := ⟨_, rfl⟩
  rw [← her] at HH
  have h32S : Hid ((Try.prog.info? 41).map (·.size) = some (bvs S).length) := by show _ = _; rw [bvs_len, hSl]; exact sizeD
  have hS32 : Hid ((bvs S).length = 32) := by show _ = _; rw [bvs_len]; exact hSl
  have HSl := Lib.hid hSl
  have Hr := Lib.hid hr
  have HE : Hid (okH i s n = decide (er = 0)) := by show _ = _; rw [her]; unfold hdE; cases okH i s n <;> rfl
  have hcase : er = 0 ∨ er = 1 := by rw [her]; unfold hdE; cases okH i s n <;> simp
  clear hS hSl her hP hl hd hr
  rcases hcase with rfl | rfl
  · rw [HE.out, decide_eq_true rfl, Bool.true_and]
    clear HE
    go_enter Try.func19, Try.ntmps19
    go_wp2_with (first
      | ((with_reducible show wpList _ _ _ (⟨some 5, .box _ _, _, _, _, _⟩ :: _) _ _); refine wl_box rfl 41 _ rfl (bvs d) rfl ?_; intro w1 hA1 hb1 hs1)
      | ((with_reducible show wpList _ _ _ (⟨some 9, .box _ _, _, _, _, _⟩ :: _) _ _); refine wl_box rfl 41 _ rfl (bvs r) rfl ?_; intro w2 hA2 hb2 hs2; have b02 : Below w.heap.size w w2 := hb1.trans (hb2.mono hb1.size))
      | ((with_reducible show wpList _ _ _ (⟨some 14, .load _ _, _, _, _, _⟩ :: _) _ _); refine wl_load rfl 41 _ rfl w.heap.size 0 rfl 41 (bvs d) (bvs d) (hA1.kept hb2) (fun j v h => (by rw [Nat.zero_add]; exact h)) (.array 32 5) Try.underlying41 rfl h32d.out ?_)
      | (go_at_call 17; refine (HH.out w2 b02).mono ?_; rintro e w3 ⟨rfl, hb3⟩)
      | ((with_reducible show wpList _ _ _ (⟨some 11, .alloc _, _, _, _, _⟩ :: _) _ _); refine wl_alloc rfl 41 rfl (bvs (Z8 32)) 32 infoD ?_; intro w4 hA4 hb4 hs4)
      | ((with_reducible show wpList _ _ _ (⟨none, .store _ _ _, _, _, _, _⟩ :: _) _ _); refine wl_store rfl 41 _ _ rfl w3.heap.size 0 rfl (bvs S) rfl 41 _ hA4 h32S.out (by rw [hS32.out]; exact (by decide : 0 + 32 ≤ (bvs (Z8 32)).length)) (bvs_one _) ?_; intro w5 hA5 hg5 hs5; rw [whole_store _ _ (by rw [hS32.out]; rfl)] at hA5; have A2 := ((hA2.kept hb3).kept hb4).grown hg5 (by intro e; injection e with e; have := hA2.lt; have := hb3.size; omega))
      | ((with_reducible show wpList _ _ _ (⟨some 24, .load _ _, _, _, _, _⟩ :: _) _ _); refine wl_loadG rfl 41 _ rfl w3.heap.size 0 rfl 41 (bvs S) (bvs S) hA5 (fun j v h => (by rw [Nat.zero_add]; exact h)) (.array 32 5) Try.underlying41 rfl h32S.out ?_)
      | ((with_reducible show wpList _ _ _ (⟨some 25, .load _ _, _, _, _, _⟩ :: _) _ _); refine wl_loadG rfl 41 _ rfl w1.heap.size 0 rfl 41 (bvs r) (bvs r) A2 (fun j v h => (by rw [Nat.zero_add]; exact h)) (.array 32 5) Try.underlying41 rfl h32r.out ?_)
      | ((with_reducible show wpList _ _ _ (⟨some 26, .binOp _ _ _ _ _, _, _, _, _⟩ :: _) _ _); refine wl_eqD rfl _ _ _ rfl S r HSl.out Hr.out rfl rfl ?_))
    go_ret
    refine ⟨rfl, ?_⟩
    have z1 := b02.size
    have z3 := hb3.size
    have z4 := hb4.size
    exact ((b02.trans (hb3.mono z1)).trans (hb4.mono (by omega))).grown hg5 (by omega) (by intro k e; injection e with e; omega)
  · rw [HE.out, decide_eq_false (by decide), Bool.false_and]
    clear HE
    go_enter Try.func19, Try.ntmps19
    go_wp2_with (first
      | ((with_reducible show wpList _ _ _ (⟨some 5, .box _ _, _, _, _, _⟩ :: _) _ _); refine wl_box rfl 41 _ rfl (bvs d) rfl ?_; intro w1 hA1 hb1 hs1)
      | ((with_reducible show wpList _ _ _ (⟨some 9, .box _ _, _, _, _, _⟩ :: _) _ _); refine wl_box rfl 41 _ rfl (bvs r) rfl ?_; intro w2 hA2 hb2 hs2; have b02 : Below w.heap.size w w2 := hb1.trans (hb2.mono hb1.size))
      | ((with_reducible show wpList _ _ _ (⟨some 14, .load _ _, _, _, _, _⟩ :: _) _ _); refine wl_load rfl 41 _ rfl w.heap.size 0 rfl 41 (bvs d) (bvs d) (hA1.kept hb2) (fun j v h => (by rw [Nat.zero_add]; exact h)) (.array 32 5) Try.underlying41 rfl h32d.out ?_)
      | (go_at_call 17; refine (HH.out w2 b02).mono ?_; rintro e w3 ⟨rfl, hb3⟩)
      | ((with_reducible show wpList _ _ _ (⟨some 11, .alloc _, _, _, _, _⟩ :: _) _ _); refine wl_alloc rfl 41 rfl (bvs (Z8 32)) 32 infoD ?_; intro w4 hA4 hb4 hs4)
      | ((with_reducible show wpList _ _ _ (⟨none, .store _ _ _, _, _, _, _⟩ :: _) _ _); refine wl_store rfl 41 _ _ rfl w3.heap.size 0 rfl (bvs S) rfl 41 _ hA4 h32S.out (by rw [hS32.out]; exact (by decide : 0 + 32 ≤ (bvs (Z8 32)).length)) (bvs_one _) ?_; intro w5 hA5 hg5 hs5))
    go_ret
    refine ⟨rfl, ?_⟩
    have z1 := b02.size
    have z3 := hb3.size
    have z4 := hb4.size
    exact ((b02.trans (hb3.mono z1)).trans (hb4.mono (by omega))).grown hg5 (by omega) (by intro k e; injection e with e; omega)
set_option maxRecDepth 100000 in
set_option maxHeartbeats 1600000 in
theorem rVerify_any (d r : List UInt8) (i s : Nat) (a : Option Addr) (n c : Nat) (P : List (List UInt8)) (w : World) (hd : d.length = 32) (hr : r.length = 32) (hP : RdD w a n c P) (hn50 : n ≤ 2 ^ 50) :
    Calls Try.prog 20 #[.agg (bvs d).toArray, .int .u64 (i : Int), .int .u64 (s : Int), .slice a n c, .agg (bvs r).toArray] w fun e w' => e = .returned (.bool (verB d i s P r)) ∧ Below w.heap.size w w' := by
  have hl := hP.len
  have h32d : Hid ((Try.prog.info? 41).map (·.size) = some (bvs d).length) := by show _ = _; rw [bvs_len, hd]; exact sizeD
  have h32r : Hid ((Try.prog.info? 41).map (·.size) = some (bvs r).length) := by show _ = _; rw [bvs_len, hr]; exact sizeD
  have HH := Lib.hid (fun w' (hb : Below w.heap.size w w') => rHead_any d i s a n c P w' hd (hP.to hb) hn50)
  have hSl := hdV_len hd i s P
  have hver : verB d i s P r = (okH i s n && decide (hdV d i s P = r)) := by unfold verB; rw [hl]
  rw [hver]
  clear hver
  obtain ⟨S, hS⟩ : ∃ S, S = hdV d i s P := ⟨_, rfl⟩
  rw [← hS] at hSl HH ⊢
  obtain ⟨er, her⟩ : ∃ er, er = hdE i s n := ⟨_, rfl⟩
  rw [← her] at HH
  have h32S : Hid ((Try.prog.info? 41).map (·.size) = some (bvs S).length) := by show _ = _; rw [bvs_len, hSl]; exact sizeD
  have hS32 : Hid ((bvs S).length = 32) := by show _ = _; rw [bvs_len]; exact hSl
  have HSl := Lib.hid hSl
  have Hr := Lib.hid hr
  have HE : Hid (okH i s n = decide (er = 0)) := by show _ = _; rw [her]; unfold hdE; cases okH i s n <;> rfl
  have hcase : er = 0 ∨ er = 1 := by rw [her]; unfold hdE; cases okH i s n <;> simp
  clear hS hSl her hP hl hd hr
  rcases hcase with rfl | rfl
  · rw [HE.out, decide_eq_true rfl, Bool.true_and]
    clear HE
    go_enter Try.func20, Try.ntmps20
    go_wp2_with (first
      | ((with_reducible show wpList _ _ _ (⟨some 5, .box _ _, _, _, _, _⟩ :: _) _ _); refine wl_box rfl 41 _ rfl (bvs d) rfl ?_; intro w1 hA1 hb1 hs1)
      | ((with_reducible show wpList _ _ _ (⟨some 9, .box _ _, _, _, _, _⟩ :: _) _ _); refine wl_box rfl 41 _ rfl (bvs r) rfl ?_; intro w2 hA2 hb2 hs2; have b02 : Below w.heap.size w w2 := hb1.trans (hb2.mono hb1.size))
      | ((with_reducible show wpList _ _ _ (⟨some 14, .load _ _, _, _, _, _⟩ :: _) _ _); refine wl_load rfl 41 _ rfl w.heap.size 0 rfl 41 (bvs d) (bvs d) (hA1.kept hb2) (fun j v h => (by rw [Nat.zero_add]; exact h)) (.array 32 5) Try.underlying41 rfl h32d.out ?_)
      | (go_at_call 18; refine (HH.out w2 b02).mono ?_; rintro e w3 ⟨rfl, hb3⟩)
      | ((with_reducible show wpList _ _ _ (⟨some 11, .alloc _, _, _, _, _⟩ :: _) _ _); refine wl_alloc rfl 41 rfl (bvs (Z8 32)) 32 infoD ?_; intro w4 hA4 hb4 hs4)
      | ((with_reducible show wpList _ _ _ (⟨none, .store _ _ _, _, _, _, _⟩ :: _) _ _); refine wl_store rfl 41 _ _ rfl w3.heap.size 0 rfl (bvs S) rfl 41 _ hA4 h32S.out (by rw [hS32.out]; exact (by decide : 0 + 32 ≤ (bvs (Z8 32)).length)) (bvs_one _) ?_; intro w5 hA5 hg5 hs5; rw [whole_store _ _ (by rw [hS32.out]; rfl)] at hA5; have A2 := ((hA2.kept hb3).kept hb4).grown hg5 (by intro e; injection e with e; have := hA2.lt; have := hb3.size; omega))
      | ((with_reducible show wpList _ _ _ (⟨some 24, .load _ _, _, _, _, _⟩ :: _) _ _); refine wl_loadG rfl 41 _ rfl w3.heap.size 0 rfl 41 (bvs S) (bvs S) hA5 (fun j v h => (by rw [Nat.zero_add]; exact h)) (.array 32 5) Try.underlying41 rfl h32S.out ?_)
      | ((with_reducible show wpList _ _ _ (⟨some 25, .load _ _, _, _, _, _⟩ :: _) _ _); refine wl_loadG rfl 41 _ rfl w1.heap.size 0 rfl 41 (bvs r) (bvs r) A2 (fun j v h => (by rw [Nat.zero_add]; exact h)) (.array 32 5) Try.underlying41 rfl h32r.out ?_)
      | ((with_reducible show wpList _ _ _ (⟨some 26, .binOp _ _ _ _ _, _, _, _, _⟩ :: _) _ _); refine wl_eqD rfl _ _ _ rfl S r HSl.out Hr.out rfl rfl ?_))
    go_ret
    refine ⟨rfl, ?_⟩
    have z1 := b02.size
    have z3 := hb3.size
    have z4 := hb4.size
    exact ((b02.trans (hb3.mono z1)).trans (hb4.mono (by omega))).grown hg5 (by omega) (by intro k e; injection e with e; omega)
  · rw [HE.out, decide_eq_false (by decide), Bool.false_and]
    clear HE
    go_enter Try.func20, Try.ntmps20
    go_wp2_with (first
      | ((with_reducible show wpList _ _ _ (⟨some 5, .box _ _, _, _, _, _⟩ :: _) _ _); refine wl_box rfl 41 _ rfl (bvs d) rfl ?_; intro w1 hA1 hb1 hs1)
      | ((with_reducible show wpList _ _ _ (⟨some 9, .box _ _, _, _, _, _⟩ :: _) _ _); refine wl_box rfl 41 _ rfl (bvs r) rfl ?_; intro w2 hA2 hb2 hs2; have b02 : Below w.heap.size w w2 := hb1.trans (hb2.mono hb1.size))
      | ((with_reducible show wpList _ _ _ (⟨some 14, .load _ _, _, _, _, _⟩ :: _) _ _); refine wl_load rfl 41 _ rfl w.heap.size 0 rfl 41 (bvs d) (bvs d) (hA1.kept hb2) (fun j v h => (by rw [Nat.zero_add]; exact h)) (.array 32 5) Try.underlying41 rfl h32d.out ?_)
      | (go_at_call 18; refine (HH.out w2 b02).mono ?_; rintro e w3 ⟨rfl, hb3⟩)
      | ((with_reducible show wpList _ _ _ (⟨some 11, .alloc _, _, _, _, _⟩ :: _) _ _); refine wl_alloc rfl 41 rfl (bvs (Z8 32)) 32 infoD ?_; intro w4 hA4 hb4 hs4)
      | ((with_reducible show wpList _ _ _ (⟨none, .store _ _ _, _, _, _, _⟩ :: _) _ _); refine wl_store rfl 41 _ _ rfl w3.heap.size 0 rfl (bvs S) rfl 41 _ hA4 h32S.out (by rw [hS32.out]; exact (by decide : 0 + 32 ≤ (bvs (Z8 32)).length)) (bvs_one _) ?_; intro w5 hA5 hg5 hs5))
    go_ret
    refine ⟨rfl, ?_⟩
    have z1 := b02.size
    have z3 := hb3.size
    have z4 := hb4.size
    exact ((b02.trans (hb3.mono z1)).trans (hb4.mono (by omega))).grown hg5 (by omega) (by intro k e; injection e with e; omega)
end Go.Proofs.Ytbmhobbeimhodaa
