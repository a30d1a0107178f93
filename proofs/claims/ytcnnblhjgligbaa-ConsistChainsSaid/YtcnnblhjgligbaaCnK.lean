/-
  Layer 11: the document's Heads and Verify. Conditions: those in each statement.
-/
import Derived.Test.YtcnnblhjgligbaaCnJ
import Derived.Test.YtcnnblhjgligbaaCnC
namespace Go.Proofs.Ytcnnblhjgligbaa
open Go.RowKit

theorem run_guardNe (x y : Operand) (A B : Array Value) (w : World) : (eqGuard .neq 41 x y (.agg A) (.agg B)).run Try.prog w = .ok () w := by
  unfold eqGuard
  simp
section
variable {o : Oper} {a : Act} {K : Act → World → Prop} {Q : Exit → Act → World → Prop} {w : World} {ops : Array Oper} {rest : List Oper}
theorem wl_eqV (hw : Region.wanted o (yielded ops a.tmps) = true) (x y : Operand) (r : TypeId) (ho : o.op = .binOp .eql 41 x y r) (xs ys : List UInt8) (b : Bool) (hb : decide (xs = ys) = b) (hl : xs.length = 32) (hm : ys.length = 32) (hx : a.eval x = .agg (bvs xs).toArray) (hy : a.eval y = .agg (bvs ys).toArray)
    (hK : wpList Try.prog ops Q rest (a.put o.dst (.bool b)) w) : wpList Try.prog ops Q (o :: rest) a w :=
  wl_eqD hw x y r ho xs ys hl hm hx hy (by rw [hb]; exact hK)
theorem wl_neV (hw : Region.wanted o (yielded ops a.tmps) = true) (x y : Operand) (r : TypeId) (ho : o.op = .binOp .neq 41 x y r) (xs ys : List UInt8) (b : Bool) (hb : (!decide (xs = ys)) = b) (hl : xs.length = 32) (hm : ys.length = 32) (hx : a.eval x = .agg (bvs xs).toArray) (hy : a.eval y = .agg (bvs ys).toArray)
    (hK : wpList Try.prog ops Q rest (a.put o.dst (.bool b)) w) : wpList Try.prog ops Q (o :: rest) a w :=
  wpList_step fun _ hK' => by
    rw [if_pos hw]
    have h := neD hl hm w
    rw [hb] at h
    unfold Oper.wp execOp
    simp only [ho, hx, hy, Sem.run_bind, Sem.run_pure, run_guardNe, h, Result.andThen_ok]
    exact hK' _ _ hK
end
structure InvRHeads5 (d X Y : List UInt8) (m n q c : Nat) (ad : Option Addr) (g6 g8 g9 g13 g14 : Nat) (W0 : World) (L : Nat → Bool) (v44 v45 v10 : Value) (wx : World) : Prop where
  t0 : L 0 = true → v44 = .agg (bvs X).toArray
  t1 : L 1 = true → v45 = .agg (bvs Y).toArray
  t4 : L 4 = true → v10 = .int .i64 0
  kb : KB (fun k => k = g8 ∨ k = g9) W0 wx
  ap0 : L 2 = false → Arr wx g8 41 (bvs (Z8 32))
  ap1 : L 2 = true → Arr wx g8 41 (bvs X)
  aq0 : L 3 = false → Arr wx g9 41 (bvs (Z8 32))
  aq1 : L 3 = true → Arr wx g9 41 (bvs Y)
structure InvRVerC (d r S : List UInt8) (n q c : Nat) (ad : Option Addr) (g7 g8 : Nat) (W0 : World) (L : Nat → Bool) (v16 v17 v18 v19 v20 v21 v22 v23 v24 v25 v26 v27 v10 : Value) (wx : World) : Prop where
  t0 : L 0 = true → v16 = .int .u64 ↑n
  t1 : L 1 = true → v17 = .bool true
  t2 : L 2 = true → v18 = .bool true
  t3 : L 3 = true → v19 = .slice ad 0 c
  t4 : L 4 = true → v20 = .int .i64 (0 : Int)
  t5 : L 5 = true → v21 = .bool true
  t6 : L 6 = true → v22 = .bool true
  t7 : L 7 = true → v23 = .bool true
  t8 : L 8 = true → v24 = .agg (bvs d).toArray
  t9 : L 9 = true → v25 = .agg (bvs S).toArray
  t10 : L 10 = true → v26 = .bool (decide (d = S))
  t11 : L 11 = true → v27 = .bool (decide (d = S))
  t12 : L 12 = true → v10 = .bool (decide (d = S))
  bw : Below W0.heap.size W0 wx
structure InvRVerB (d r S : List UInt8) (n q c : Nat) (ad : Option Addr) (g7 g8 : Nat) (W0 : World) (L : Nat → Bool) (v16 v17 v18 v19 v20 v21 v22 v23 v24 v25 v26 v27 v10 : Value) (wx : World) : Prop where
  t0 : L 0 = true → v16 = .int .u64 ↑n
  t1 : L 1 = true → v17 = .bool true
  t2 : L 2 = true → v18 = .bool true
  t3 : L 3 = true → v19 = .slice ad q c
  t4 : L 4 = true → v20 = .int .i64 (q : Int)
  t5 : L 5 = true → v21 = .bool false
  t6 : L 6 = true → v22 = .bool false
  t7 : L 7 = true → v23 = .bool false
  t8 : L 8 = true → v24 = v24
  t9 : L 9 = true → v25 = v25
  t10 : L 10 = true → v26 = v26
  t11 : L 11 = true → v27 = .bool false
  t12 : L 12 = true → v10 = .bool false
  bw : Below W0.heap.size W0 wx
structure InvRVerA (d r S : List UInt8) (n q c : Nat) (ad : Option Addr) (g7 g8 : Nat) (W0 : World) (L : Nat → Bool) (v16 v17 v18 v19 v20 v21 v22 v23 v24 v25 v26 v27 v10 : Value) (wx : World) : Prop where
  t0 : L 0 = true → v16 = .int .u64 ↑n
  t1 : L 1 = true → v17 = .bool false
  t2 : L 2 = true → v18 = .bool false
  t3 : L 3 = true → v19 = v19
  t4 : L 4 = true → v20 = v20
  t5 : L 5 = true → v21 = v21
  t6 : L 6 = true → v22 = .bool false
  t7 : L 7 = true → v23 = .bool false
  t8 : L 8 = true → v24 = v24
  t9 : L 9 = true → v25 = v25
  t10 : L 10 = true → v26 = v26
  t11 : L 11 = true → v27 = .bool false
  t12 : L 12 = true → v10 = .bool false
  bw : Below W0.heap.size W0 wx
set_option maxRecDepth 100000 in
set_option maxHeartbeats 3200000 in
theorem rHeadsC_any (m n : Nat) (d : List UInt8) (ad : Option Addr) (q c : Nat) (P : List (List UInt8)) (w : World) (hd : d.length = 32) (hP : RdD w ad q c P) (_ : q ≤ 2 ^ 50) :
    Calls Try.prog 18 #[.int .u64 (m : Int), .int .u64 (n : Int), .agg (bvs d).toArray, .slice ad q c] w fun e w' => e = .returned (.tuple #[.agg (bvs (tdV m n d P).1).toArray, .agg (bvs (tdV m n d P).2).toArray, .int .i64 (tdE m n q)]) ∧ Below w.heap.size w w' := by
  have hl := hP.len
  have hR := fun w => rRangesC_any m n w
  have h32d : Hid ((Try.prog.info? 41).map (·.size) = some (bvs d).length) := by show _ = _; rw [bvs_len, hd]; exact sizeD
  have h32z : Hid ((Try.prog.info? 41).map (·.size) = some (bvs (Z8 32)).length) := sizeD
  obtain ⟨hx, hy⟩ := tdV_len hd m n hP.all
  cases hok : okT m n q with
  | false =>
    have e1 : tdV m n d P = (Z8 32, Z8 32) := by unfold tdV; rw [hl, hok]; rfl
    have e2 : tdE m n q = 1 := by unfold tdE; rw [hok]; rfl
    rw [e1, e2]
    clear e1 e2 hx hy
    cases hr : okC m n with
    | false =>
      have e3 : cE m n = 1 := by simp only [cE, hr]; rfl
      rw [e3] at hR
      have HR := Lib.hid hR
      clear hR hok hr hP hl hd
      go_enter Try.func18, Try.ntmps18
      go_wp2_with (first
        | ((with_reducible show wpList _ _ _ (⟨some 6, .box _ _, _, _, _, _⟩ :: _) _ _); refine wl_box rfl 41 _ rfl (bvs d) rfl ?_; intro w1 hA1 hb1 hs1)
        | ((with_reducible show wpList _ _ _ (⟨some 8, .alloc _, _, _, _, _⟩ :: _) _ _); refine wl_alloc rfl 41 rfl (bvs (Z8 32)) 32 infoD ?_; intro w2 hA2 hb2 hs2)
        | ((with_reducible show wpList _ _ _ (⟨some 9, .alloc _, _, _, _, _⟩ :: _) _ _); refine wl_alloc rfl 41 rfl (bvs (Z8 32)) 32 infoD ?_; intro w3 hA3 hb3 hs3; have b03 : Below w.heap.size w w3 := (hb1.trans (hb2.mono hb1.size)).trans (hb3.mono (by have := hb1.size; have := hb2.size; omega)))
        | (go_at_call 11; refine (HR.out w3).mono ?_; rintro e w4 ⟨v, rfl, hO4, hb4⟩)
        | ((with_reducible show wpList _ _ _ (⟨some 34, .build _ _, _, _, _, _⟩ :: _) _ _); refine wpList_buildTo rfl 41 _ rfl (some 34) rfl (bvs (Z8 32)).toArray builtD0 ?_)
        | ((with_reducible show wpList _ _ _ (⟨some 35, .build _ _, _, _, _, _⟩ :: _) _ _); refine wpList_buildTo rfl 41 _ rfl (some 35) rfl (bvs (Z8 32)).toArray builtD0 ?_)
        | ((with_reducible show wpList _ _ _ (⟨none, .store _ (.tmp 8) _, _, _, _, _⟩ :: _) _ _); refine wl_store rfl 41 _ _ rfl w1.heap.size 0 rfl (bvs (Z8 32)) rfl 41 _ ((hA2.kept hb3).kept hb4) h32z.out (by decide) (bvs_one _) ?_; intro w5 hA5 hg5 hs5)
        | ((with_reducible show wpList _ _ _ (⟨none, .store _ (.tmp 9) _, _, _, _, _⟩ :: _) _ _); refine wl_store rfl 41 _ _ rfl w2.heap.size 0 rfl (bvs (Z8 32)) rfl 41 _ ((hA3.kept hb4).grown hg5 (by intro e; injection e with e; have := hA2.lt; omega)) h32z.out (by decide) (bvs_one _) ?_; intro w6 hA6 hg6 hs6))
      rw [whole_store _ _ (by rfl)] at hA5 hA6
      have A5 := hA5.grown hg6 (by intro e; injection e with e; have := hA2.lt; omega)
      refine end_cell3 rfl w1.heap.size w2.heap.size 41 (bvs (Z8 32)) (bvs (Z8 32)) (.array 32 5) (.int .i64 1) rfl A5 rfl hA6 Try.underlying41 rfl h32z.out h32z.out rfl rfl ⟨rfl, ?_⟩
      have z1 := hb1.size
      have z2 := hb2.size
      have z3 := b03.size
      have z4 := hb4.size
      exact ((b03.trans (hb4.mono (by omega))).grown hg5 (by omega) (by intro k e; injection e with e; omega)).grown hg6 (by omega) (by intro k e; injection e with e; omega)
    | true =>
      have e3 : cE m n = 0 := by simp only [cE, hr]; rfl
      rw [e3] at hR
      have hlen := cL_few m n
      obtain ⟨p, hp⟩ : ∃ p, p = (cL m n).length := ⟨_, rfl⟩
      have HM := Lib.hid hp
      have HR := Lib.hid hR
      rw [← hp] at hlen
      by_cases h0 : m = 0
      · subst h0
        clear hR hok hr hP hl hp hd
        go_enter Try.func18, Try.ntmps18
        go_wp2_with (first
          | ((with_reducible show wpList _ _ _ (⟨some 6, .box _ _, _, _, _, _⟩ :: _) _ _); refine wl_box rfl 41 _ rfl (bvs d) rfl ?_; intro w1 hA1 hb1 hs1)
          | ((with_reducible show wpList _ _ _ (⟨some 8, .alloc _, _, _, _, _⟩ :: _) _ _); refine wl_alloc rfl 41 rfl (bvs (Z8 32)) 32 infoD ?_; intro w2 hA2 hb2 hs2)
          | ((with_reducible show wpList _ _ _ (⟨some 9, .alloc _, _, _, _, _⟩ :: _) _ _); refine wl_alloc rfl 41 rfl (bvs (Z8 32)) 32 infoD ?_; intro w3 hA3 hb3 hs3; have b03 : Below w.heap.size w w3 := (hb1.trans (hb2.mono hb1.size)).trans (hb3.mono (by have := hb1.size; have := hb2.size; omega)))
          | (go_at_call 11; refine (HR.out w3).mono ?_; rintro e w4 ⟨v, rfl, hO4, hb4⟩; obtain ⟨ra, rc, rfl, hRd, hrb⟩ := hO4.rd (by omega); rw [← HM.out])
          | ((with_reducible show wpList _ _ _ (⟨some 34, .build _ _, _, _, _, _⟩ :: _) _ _); refine wpList_buildTo rfl 41 _ rfl (some 34) rfl (bvs (Z8 32)).toArray builtD0 ?_)
          | ((with_reducible show wpList _ _ _ (⟨some 35, .build _ _, _, _, _, _⟩ :: _) _ _); refine wpList_buildTo rfl 41 _ rfl (some 35) rfl (bvs (Z8 32)).toArray builtD0 ?_)
          | ((with_reducible show wpList _ _ _ (⟨none, .store _ (.tmp 8) _, _, _, _, _⟩ :: _) _ _); refine wl_store rfl 41 _ _ rfl w1.heap.size 0 rfl (bvs (Z8 32)) rfl 41 _ ((hA2.kept hb3).kept hb4) h32z.out (by decide) (bvs_one _) ?_; intro w5 hA5 hg5 hs5)
          | ((with_reducible show wpList _ _ _ (⟨none, .store _ (.tmp 9) _, _, _, _, _⟩ :: _) _ _); refine wl_store rfl 41 _ _ rfl w2.heap.size 0 rfl (bvs (Z8 32)) rfl 41 _ ((hA3.kept hb4).grown hg5 (by intro e; injection e with e; have := hA2.lt; omega)) h32z.out (by decide) (bvs_one _) ?_; intro w6 hA6 hg6 hs6))
        rw [whole_store _ _ (by rfl)] at hA5 hA6
        have A5 := hA5.grown hg6 (by intro e; injection e with e; have := hA2.lt; omega)
        refine end_cell3 rfl w1.heap.size w2.heap.size 41 (bvs (Z8 32)) (bvs (Z8 32)) (.array 32 5) (.int .i64 1) rfl A5 rfl hA6 Try.underlying41 rfl h32z.out h32z.out rfl rfl ⟨rfl, ?_⟩
        have z1 := hb1.size
        have z2 := hb2.size
        have z3 := b03.size
        have z4 := hb4.size
        exact ((b03.trans (hb4.mono (by omega))).grown hg5 (by omega) (by intro k e; injection e with e; omega)).grown hg6 (by omega) (by intro k e; injection e with e; omega)
      · have hne : ¬ (p = q) := by
          unfold okT at hok
          rw [hr, ← hp] at hok
          simpa [h0] using hok
        have c0 : ((m : Int) == 0) = false := by simp; omega
        have hcc : ¬ ((p : Int) = (q : Int)) := by omega
        clear hR hok hr hP hl hp hne h0 hd
        go_enter Try.func18, Try.ntmps18
        go_wp2_with (first
          | ((with_reducible show wpList _ _ _ (⟨some 6, .box _ _, _, _, _, _⟩ :: _) _ _); refine wl_box rfl 41 _ rfl (bvs d) rfl ?_; intro w1 hA1 hb1 hs1)
          | ((with_reducible show wpList _ _ _ (⟨some 8, .alloc _, _, _, _, _⟩ :: _) _ _); refine wl_alloc rfl 41 rfl (bvs (Z8 32)) 32 infoD ?_; intro w2 hA2 hb2 hs2)
          | ((with_reducible show wpList _ _ _ (⟨some 9, .alloc _, _, _, _, _⟩ :: _) _ _); refine wl_alloc rfl 41 rfl (bvs (Z8 32)) 32 infoD ?_; intro w3 hA3 hb3 hs3; have b03 : Below w.heap.size w w3 := (hb1.trans (hb2.mono hb1.size)).trans (hb3.mono (by have := hb1.size; have := hb2.size; omega)))
          | (go_at_call 11; refine (HR.out w3).mono ?_; rintro e w4 ⟨v, rfl, hO4, hb4⟩; obtain ⟨ra, rc, rfl, hRd, hrb⟩ := hO4.rd (by omega); rw [← HM.out])
          | ((with_reducible show wpList _ _ _ (⟨some 34, .build _ _, _, _, _, _⟩ :: _) _ _); refine wpList_buildTo rfl 41 _ rfl (some 34) rfl (bvs (Z8 32)).toArray builtD0 ?_)
          | ((with_reducible show wpList _ _ _ (⟨some 35, .build _ _, _, _, _, _⟩ :: _) _ _); refine wpList_buildTo rfl 41 _ rfl (some 35) rfl (bvs (Z8 32)).toArray builtD0 ?_)
          | ((with_reducible show wpList _ _ _ (⟨none, .store _ (.tmp 8) _, _, _, _, _⟩ :: _) _ _); refine wl_store rfl 41 _ _ rfl w1.heap.size 0 rfl (bvs (Z8 32)) rfl 41 _ ((hA2.kept hb3).kept hb4) h32z.out (by decide) (bvs_one _) ?_; intro w5 hA5 hg5 hs5)
          | ((with_reducible show wpList _ _ _ (⟨none, .store _ (.tmp 9) _, _, _, _, _⟩ :: _) _ _); refine wl_store rfl 41 _ _ rfl w2.heap.size 0 rfl (bvs (Z8 32)) rfl 41 _ ((hA3.kept hb4).grown hg5 (by intro e; injection e with e; have := hA2.lt; omega)) h32z.out (by decide) (bvs_one _) ?_; intro w6 hA6 hg6 hs6))
        rw [whole_store _ _ (by rfl)] at hA5 hA6
        have A5 := hA5.grown hg6 (by intro e; injection e with e; have := hA2.lt; omega)
        refine end_cell3 rfl w1.heap.size w2.heap.size 41 (bvs (Z8 32)) (bvs (Z8 32)) (.array 32 5) (.int .i64 1) rfl A5 rfl hA6 Try.underlying41 rfl h32z.out h32z.out rfl rfl ⟨rfl, ?_⟩
        have z1 := hb1.size
        have z2 := hb2.size
        have z3 := b03.size
        have z4 := hb4.size
        exact ((b03.trans (hb4.mono (by omega))).grown hg5 (by omega) (by intro k e; injection e with e; omega)).grown hg6 (by omega) (by intro k e; injection e with e; omega)
  | true =>
    obtain ⟨hr, h1, hrn, hrl⟩ := okT_yes hok
    obtain ⟨hn20, hmn⟩ := okC_yes hr
    have e1 : tdV m n d P = hdF m n d P true := by unfold tdV; rw [hl, hok]; rfl
    have e2 : tdE m n q = 0 := by unfold tdE; rw [hok]; rfl
    have e3 : cE m n = 0 := by simp only [cE, hr]; rfl
    have c0 : ((m : Int) == 0) = false := by simp; omega
    rw [e1] at hx hy
    rw [e1, e2]
    rw [e3, hrl] at hR
    have hlen := wt_few m n 0 true h1 hmn hn20
    have HT := Lib.hid (fun w' (hb : Below w.heap.size w w') => rheads_any d hd n m n true (Nat.le_refl _) h1 hmn hn20 ad q c P w' (hP.to hb) hrn.symm)
    clear hok hr e1 e2 e3 hrl h1 hmn hn20
    generalize wtF m n 0 true = L at *
    have HR := Lib.hid hR
    have HRN := Lib.hid hrn
    obtain ⟨X, hX⟩ : ∃ X, X = (hdF m n d P true).1 := ⟨_, rfl⟩
    obtain ⟨Y, hY⟩ : ∃ Y, Y = (hdF m n d P true).2 := ⟨_, rfl⟩
    rw [← hX, ← hY] at HT ⊢
    rw [← hX] at hx
    rw [← hY] at hy
    have h32X : Hid ((Try.prog.info? 41).map (·.size) = some (bvs X).length) := by show _ = _; rw [bvs_len, hx]; exact sizeD
    have hX32 : Hid ((bvs X).length = 32) := by show _ = _; rw [bvs_len]; exact hx
    have h32Y : Hid ((Try.prog.info? 41).map (·.size) = some (bvs Y).length) := by show _ = _; rw [bvs_len, hy]; exact sizeD
    have hY32 : Hid ((bvs Y).length = 32) := by show _ = _; rw [bvs_len]; exact hy
    clear hR hrn hX hY hx hy hP hl hd
    go_enter Try.func18, Try.ntmps18
    go_upto_region 5 with (first
      | ((with_reducible show wpList _ _ _ (⟨some 6, .box _ _, _, _, _, _⟩ :: _) _ _); refine wl_box rfl 41 _ rfl (bvs d) rfl ?_; intro w1 hA1 hb1 hs1)
      | ((with_reducible show wpList _ _ _ (⟨some 8, .alloc _, _, _, _, _⟩ :: _) _ _); refine wl_alloc rfl 41 rfl (bvs (Z8 32)) 32 infoD ?_; intro w2 hA2 hb2 hs2)
      | ((with_reducible show wpList _ _ _ (⟨some 9, .alloc _, _, _, _, _⟩ :: _) _ _); refine wl_alloc rfl 41 rfl (bvs (Z8 32)) 32 infoD ?_; intro w3 hA3 hb3 hs3; have b03 : Below w.heap.size w w3 := (hb1.trans (hb2.mono hb1.size)).trans (hb3.mono (by have := hb1.size; have := hb2.size; omega)))
      | (go_at_call 11; refine (HR.out w3).mono ?_; rintro e w4 ⟨v, rfl, hO4, hb4⟩; obtain ⟨ra, rc, rfl, hRd, hrb⟩ := hO4.rd (by omega); rw [HRN.out]; have b04 : Below w.heap.size w w4 := b03.trans (hb4.mono b03.size))
      | ((with_reducible show wpList _ _ _ (⟨some 39, .load _ _, _, _, _, _⟩ :: _) _ _); refine wl_load rfl 41 _ rfl w.heap.size 0 rfl 41 (bvs d) (bvs d) (((hA1.kept hb2).kept hb3).kept hb4) (fun j v h => (by rw [Nat.zero_add]; exact h)) (.array 32 5) Try.underlying41 rfl h32d.out ?_)
      | (go_at_call 28; refine (HT.out w4 b04).mono ?_; rintro e w5 ⟨rfl, hb5⟩)
      | ((with_reducible show wpList _ _ _ (⟨some 13, .alloc _, _, _, _, _⟩ :: _) _ _); refine wl_alloc rfl 41 rfl (bvs (Z8 32)) 32 infoD ?_; intro w6 hA6 hb6 hs6)
      | ((with_reducible show wpList _ _ _ (⟨some 14, .alloc _, _, _, _, _⟩ :: _) _ _); refine wl_alloc rfl 41 rfl (bvs (Z8 32)) 32 infoD ?_; intro w7 hA7 hb7 hs7)
      | ((with_reducible show wpList _ _ _ (⟨none, .store _ (.tmp 13) _, _, _, _, _⟩ :: _) _ _); refine wl_store rfl 41 _ _ rfl w5.heap.size 0 rfl (bvs X) rfl 41 _ (hA6.kept hb7) h32X.out (by rw [hX32.out]; exact (by decide : 0 + 32 ≤ (bvs (Z8 32)).length)) (bvs_one _) ?_; intro w8 hA8 hg8 hs8)
      | ((with_reducible show wpList _ _ _ (⟨none, .store _ (.tmp 14) _, _, _, _, _⟩ :: _) _ _); refine wl_store rfl 41 _ _ rfl w6.heap.size 0 rfl (bvs Y) rfl 41 _ (hA7.grown hg8 (by intro e; injection e with e; have := hA6.lt; omega)) h32Y.out (by rw [hY32.out]; exact (by decide : 0 + 32 ≤ (bvs (Z8 32)).length)) (bvs_one _) ?_; intro w9 hA9 hg9 hs9))
    rw [whole_store _ _ (by rw [hX32.out]; rfl)] at hA8
    rw [whole_store _ _ (by rw [hY32.out]; rfl)] at hA9
    have A13 := hA8.grown hg9 (by intro e; injection e with e; have := hA6.lt; omega)
    have z1 := hb1.size
    have z2 := hb2.size
    have z3 := hb3.size
    have z4 := hb4.size
    have z5 := hb5.size
    have z6 := hb6.size
    have b59 : Below w5.heap.size w5 w9 := ((hb6.trans (hb7.mono z6)).grown hg8 (by have := hb7.size; omega) (by intro k e; injection e with e; omega)).grown hg9 (by have := hb7.size; omega) (by intro k e; injection e with e; omega)
    have hAP := (((hA2.kept hb3).kept hb4).kept hb5).kept b59
    have hAQ := ((hA3.kept hb4).kept hb5).kept b59
    have b09 : Below w.heap.size w w9 := (b04.trans (hb5.mono b04.size)).trans (b59.mono (by omega))
    have hz := b09.size
    have l13 := A13.lt
    have l14 := hA9.lt
    obtain ⟨g8, hg8'⟩ : ∃ g, g = w1.heap.size := ⟨_, rfl⟩
    obtain ⟨g9, hg9'⟩ : ∃ g, g = w2.heap.size := ⟨_, rfl⟩
    obtain ⟨g13, hg13⟩ : ∃ g, g = w5.heap.size := ⟨_, rfl⟩
    obtain ⟨g14, hg14⟩ : ∃ g, g = w6.heap.size := ⟨_, rfl⟩
    obtain ⟨g6, hg6'⟩ : ∃ g, g = w.heap.size := ⟨_, rfl⟩
    have n13 : ¬ (g13 = g8 ∨ g13 = g9) := by omega
    have n14 : ¬ (g14 = g8 ∨ g14 = g9) := by omega
    have n2 : g8 ≠ g9 := by omega
    have n3 : w.heap.size ≤ g8 ∧ w.heap.size ≤ g9 := by omega
    go_simp
    rw [← hg8', ← hg9', ← hg13, ← hg14, ← hg6']
    rw [← hg8'] at hAP
    rw [← hg9'] at hAQ
    rw [← hg13] at A13 l13
    rw [← hg14] at hA9 l14
    have HPQ := Lib.hid n2
    have N13 := Lib.hid n13
    have N14 := Lib.hid n14
    have L13 := Lib.hid l13
    have L14 := Lib.hid l14
    have H13 := Lib.hid A13
    have H14 := Lib.hid hA9
    have HB := Lib.hid b09
    have HN := Lib.hid n3
    have HZ := Lib.hid hz
    clear hA1 hA2 hA3 hA6 hA7 hA8 hb1 hb2 hb3 hb4 hb5 hb6 hb7 hs1 hs2 hs3 hs6 hs7 hs8 hs9 hg8 hg9 b03 b04 b59 z1 z2 z3 z4 z5 z6 hg8' hg9' hg13 hg14 hg6' A13 hA9 l13 l14 n13 n14 n2 n3 b09 hz HT hO4 hRd hrb
    refine wp_region_steps [[], [], [0], [1], []] (by kernel_rfl) (by kernel_rfl) (fun L a wx => ∃ v44 v45 v10, a = ⟨#[.int .u64 ↑m, .int .u64 ↑n, .agg (bvs d).toArray, .slice ad q c, undef, undef, .pointer (some ⟨g6, 0, none⟩), undef, .pointer (some ⟨g8, 0, none⟩), .pointer (some ⟨g9, 0, none⟩), v10, .slice ra q rc, .int .i64 0, .pointer (some ⟨g13, 0, none⟩), .pointer (some ⟨g14, 0, none⟩), .tuple #[.slice ra q rc, .int .i64 0], .int .u64 ↑m, .int .u64 ↑n, .tuple #[.slice ra q rc, .int .i64 0], .slice ra q rc, .int .i64 0, .int .i64 0, .bool false, .bool false, .int .u64 ↑m, .bool false, .bool false, .bool false, .slice ra q rc, .int .i64 ↑q, .slice ad q c, .int .i64 ↑q, .bool false, .bool false, undef, undef, .tuple #[.agg (bvs X).toArray, .agg (bvs Y).toArray], .int .u64 ↑m, .int .u64 ↑n, .agg (bvs d).toArray, .slice ad q c, .tuple #[.agg (bvs X).toArray, .agg (bvs Y).toArray], .agg (bvs X).toArray, .agg (bvs Y).toArray, v44, v45], []⟩ ∧ InvRHeads5 d X Y m n q c ad g6 g8 g9 g13 g14 w9 L v44 v45 v10 wx) ?_ ⟨?_, ?_, ?_, ?_, ?_, trivial⟩ ?_
    · refine ⟨_, _, _, rfl, ⟨?_, ?_, ?_, (KB.refl _ _).below (Below.refl _ _).drew, fun _ => hAP.drew, fun h => absurd h (by decide), fun _ => hAQ.drew, fun h => absurd h (by decide)⟩⟩ <;> (intro h; exact absurd h (by decide))
    · rintro L a wx ⟨v44, v45, v10, rfl, hI⟩ hL hdep hcl K hK
      refine ow_load 41 _ rfl g13 0 rfl 41 (bvs X) (bvs X) ((hI.kb.block g13 L13.out N13.out).trans H13.out) (fun j v h => by rw [Nat.zero_add]; exact h) (.array 32 5) Try.underlying41 rfl h32X.out ?_
      exact hK _ _ ⟨_, v45, v10, rfl, ⟨fun _ => rfl, hI.t1, hI.t4, hI.kb, hI.ap0, hI.ap1, hI.aq0, hI.aq1⟩⟩
    · rintro L a wx ⟨v44, v45, v10, rfl, hI⟩ hL hdep hcl K hK
      refine ow_load 41 _ rfl g14 0 rfl 41 (bvs Y) (bvs Y) ((hI.kb.block g14 L14.out N14.out).trans H14.out) (fun j v h => by rw [Nat.zero_add]; exact h) (.array 32 5) Try.underlying41 rfl h32Y.out ?_
      exact hK _ _ ⟨v44, _, v10, rfl, ⟨hI.t0, fun _ => rfl, hI.t4, hI.kb, hI.ap0, hI.ap1, hI.aq0, hI.aq1⟩⟩
    · rintro L a wx ⟨v44, v45, v10, rfl, hI⟩ hL hdep hcl K hK
      obtain rfl := hI.t0 (hdep 0 (by decide))
      refine ow_store 41 _ _ rfl g8 0 rfl (bvs X) rfl 41 _ (hI.ap0 hL) h32X.out (by rw [hX32.out]; exact (by decide : 0 + 32 ≤ (bvs (Z8 32)).length)) (bvs_one _) ?_
      intro w' hA' hg' hs'
      rw [whole_store _ _ (by rw [hX32.out]; rfl)] at hA'
      exact hK _ _ ⟨_, v45, v10, rfl, ⟨hI.t0, hI.t1, hI.t4, hI.kb.grown hg' (.inl rfl), fun h => (nomatch (show true = false from h)), fun _ => hA', fun h => (hI.aq0 h).grown hg' (by intro e; injection e with e; exact HPQ.out e.symm), fun h => (hI.aq1 h).grown hg' (by intro e; injection e with e; exact HPQ.out e.symm)⟩⟩
    · rintro L a wx ⟨v44, v45, v10, rfl, hI⟩ hL hdep hcl K hK
      obtain rfl := hI.t1 (hdep 1 (by decide))
      refine ow_store 41 _ _ rfl g9 0 rfl (bvs Y) rfl 41 _ (hI.aq0 hL) h32Y.out (by rw [hY32.out]; exact (by decide : 0 + 32 ≤ (bvs (Z8 32)).length)) (bvs_one _) ?_
      intro w' hA' hg' hs'
      rw [whole_store _ _ (by rw [hY32.out]; rfl)] at hA'
      exact hK _ _ ⟨v44, _, v10, rfl, ⟨hI.t0, hI.t1, hI.t4, hI.kb.grown hg' (.inr rfl), fun h => (hI.ap0 h).grown hg' (by intro e; injection e with e; exact HPQ.out e), fun h => (hI.ap1 h).grown hg' (by intro e; injection e with e; exact HPQ.out e), fun h => (nomatch (show true = false from h)), fun _ => hA'⟩⟩
    · rintro L a wx ⟨v44, v45, v10, rfl, hI⟩ hL hdep hcl K hK
      go_simp
      exact hK _ _ ⟨v44, v45, _, rfl, ⟨hI.t0, hI.t1, fun _ => rfl, hI.kb, hI.ap0, hI.ap1, hI.aq0, hI.aq1⟩⟩
    · rintro a wx ⟨v44, v45, v10, rfl, hI⟩
      have e10 := hI.t4 rfl
      have hP1 := hI.ap1 rfl
      have hQ1 := hI.aq1 rfl
      have hkb := hI.kb
      clear hI
      obtain rfl := e10
      go_wp2_with fail
      refine end_cell3 rfl g8 g9 41 (bvs X) (bvs Y) (.array 32 5) (.int .i64 0) rfl hP1 rfl hQ1 Try.underlying41 rfl h32X.out h32Y.out rfl rfl ⟨rfl, ?_⟩
      have n3 := HN.out
      exact HB.out.trans (hkb.under (fun k h => by rcases h with h | h <;> omega) HZ.out)
set_option maxRecDepth 100000 in
set_option maxHeartbeats 3200000 in
theorem rVerifyC_any (m n : Nat) (d r : List UInt8) (ad : Option Addr) (q c : Nat) (P : List (List UInt8)) (w : World) (hd : d.length = 32) (hr : r.length = 32) (hP : RdD w ad q c P) (hq50 : q ≤ 2 ^ 50) :
    Calls Try.prog 20 #[.int .u64 (m : Int), .int .u64 (n : Int), .agg (bvs d).toArray, .agg (bvs r).toArray, .slice ad q c] w fun e w' => e = .returned (.bool (vrC m n d r P)) ∧ Below w.heap.size w w' := by
  have hl := hP.len
  have h32d : Hid ((Try.prog.info? 41).map (·.size) = some (bvs d).length) := by show _ = _; rw [bvs_len, hd]; exact sizeD
  have h32r : Hid ((Try.prog.info? 41).map (·.size) = some (bvs r).length) := by show _ = _; rw [bvs_len, hr]; exact sizeD
  by_cases h0 : m = 0
  · subst h0
    have hv : vrC 0 n d r P = (decide (n ≤ 1048576) && (decide (q = 0) && decide (d = rootF []))) := by unfold vrC; rw [if_pos rfl, hl]
    rw [hv]
    clear hv
    have HRt := Lib.hid (fun w' => rRoot_any 0 [] (Nat.le_refl _) none 0 0 w' (by omega) ⟨rfl, Nat.le_refl _, All32.of (by simp), fun _ => rfl, fun h => by omega⟩)
    have hSl : (rootF []).length = 32 := rootF_len (All32.of (by simp))
    generalize rootF [] = S at *
    by_cases hn : n ≤ 1048576
    · rw [decide_eq_true hn, Bool.true_and]
      have c1 : decide ((n : Int) ≤ 1048576) = true := by simp; omega
      by_cases hq : q = 0
      · subst hq
        rw [decide_eq_true rfl, Bool.true_and]
        go_enter Try.func20, Try.ntmps20
        go_upto_region 2 with (first
          | ((with_reducible show wpList _ _ _ (⟨some 7, .box _ _, _, _, _, _⟩ :: _) _ _); refine wl_box rfl 41 _ rfl (bvs d) rfl ?_; intro w1 hA1 hb1 hs1)
          | ((with_reducible show wpList _ _ _ (⟨some 8, .box _ _, _, _, _, _⟩ :: _) _ _); refine wl_box rfl 41 _ rfl (bvs r) rfl ?_; intro w2 hA2 hb2 hs2; have b02 : Below w.heap.size w w2 := hb1.trans (hb2.mono hb1.size)))
        go_simp
        obtain ⟨g7, hg7⟩ : ∃ g, g = w.heap.size := ⟨_, rfl⟩
        obtain ⟨g8, hg8⟩ : ∃ g, g = w1.heap.size := ⟨_, rfl⟩
        rw [← hg7, ← hg8]
        have A7 := hA1.kept hb2
        rw [← hg7] at A7
        have HA7 : Hid (∀ wx, Below w2.heap.size w2 wx → Arr wx g7 41 (bvs d)) := fun wx hb => A7.kept hb
        have HB := Lib.hid b02
        have Hd := Lib.hid hd
        have HSl := Lib.hid hSl
        clear hA1 hA2 hb1 hb2 hs1 hs2 b02 hg7 hg8 A7 hP hl hd hr hSl
        refine wp_region_steps [[], [0], [1], [2], [3, 2], [4, 2], [2, 5], [6], [7], [7], [8, 9, 7], [7, 10], [11]] (by kernel_rfl) (by kernel_rfl) (fun L a wx => ∃ v16 v17 v18 v19 v20 v21 v22 v23 v24 v25 v26 v27 v10, a = ⟨#[.int .u64 0, .int .u64 ↑n, .agg (bvs d).toArray, .agg (bvs r).toArray, .slice ad 0 c, undef, undef, .pointer (some ⟨g7, 0, none⟩), .pointer (some ⟨g8, 0, none⟩), undef, v10, undef, undef, undef, .int .u64 0, .bool true, v16, v17, v18, v19, v20, v21, v22, v23, v24, v25, v26, v27, undef, undef, undef, undef, undef, undef, undef, undef, undef, undef, undef, undef, undef, undef, undef, undef, undef, undef, undef, undef, undef], []⟩ ∧ InvRVerC d r S n 0 c ad g7 g8 w2 L v16 v17 v18 v19 v20 v21 v22 v23 v24 v25 v26 v27 v10 wx) ?_ ⟨?_, ?_, ?_, ?_, ?_, ?_, ?_, ?_, ?_, ?_, ?_, ?_, ?_, trivial⟩ ?_
        · refine ⟨_, _, _, _, _, _, _, _, _, _, _, _, _, rfl, ⟨?_, ?_, ?_, ?_, ?_, ?_, ?_, ?_, ?_, ?_, ?_, ?_, ?_, (Below.refl _ _).drew⟩⟩ <;> (intro h; exact absurd h (by decide))
        · rintro L a wx ⟨v16, v17, v18, v19, v20, v21, v22, v23, v24, v25, v26, v27, v10, rfl, hI⟩ hL hdep hcl K hK
          go_simp
          exact hK _ _ ⟨_, v17, v18, v19, v20, v21, v22, v23, v24, v25, v26, v27, v10, rfl, ⟨fun _ => rfl, hI.t1, hI.t2, hI.t3, hI.t4, hI.t5, hI.t6, hI.t7, hI.t8, hI.t9, hI.t10, hI.t11, hI.t12, hI.bw⟩⟩
        · rintro L a wx ⟨v16, v17, v18, v19, v20, v21, v22, v23, v24, v25, v26, v27, v10, rfl, hI⟩ hL hdep hcl K hK
          obtain rfl := hI.t0 (hdep 0 (by decide))
          go_simp
          exact hK _ _ ⟨_, _, v18, v19, v20, v21, v22, v23, v24, v25, v26, v27, v10, rfl, ⟨hI.t0, fun _ => rfl, hI.t2, hI.t3, hI.t4, hI.t5, hI.t6, hI.t7, hI.t8, hI.t9, hI.t10, hI.t11, hI.t12, hI.bw⟩⟩
        · rintro L a wx ⟨v16, v17, v18, v19, v20, v21, v22, v23, v24, v25, v26, v27, v10, rfl, hI⟩ hL hdep hcl K hK
          obtain rfl := hI.t1 (hdep 1 (by decide))
          go_simp
          exact hK _ _ ⟨v16, _, _, v19, v20, v21, v22, v23, v24, v25, v26, v27, v10, rfl, ⟨hI.t0, hI.t1, fun _ => rfl, hI.t3, hI.t4, hI.t5, hI.t6, hI.t7, hI.t8, hI.t9, hI.t10, hI.t11, hI.t12, hI.bw⟩⟩
        · rintro L a wx ⟨v16, v17, v18, v19, v20, v21, v22, v23, v24, v25, v26, v27, v10, rfl, hI⟩ hL hdep hcl K hK
          obtain rfl := hI.t2 (hdep 2 (by decide))
          refine (if_pos rfl).mpr ?_
          go_simp
          exact hK _ _ ⟨v16, v17, _, _, v20, v21, v22, v23, v24, v25, v26, v27, v10, rfl, ⟨hI.t0, hI.t1, hI.t2, fun _ => rfl, hI.t4, hI.t5, hI.t6, hI.t7, hI.t8, hI.t9, hI.t10, hI.t11, hI.t12, hI.bw⟩⟩
        · rintro L a wx ⟨v16, v17, v18, v19, v20, v21, v22, v23, v24, v25, v26, v27, v10, rfl, hI⟩ hL hdep hcl K hK
          obtain rfl := hI.t3 (hdep 3 (by decide))
          obtain rfl := hI.t2 (hdep 2 (by decide))
          refine (if_pos rfl).mpr ?_
          go_simp
          exact hK _ _ ⟨v16, v17, _, _, _, v21, v22, v23, v24, v25, v26, v27, v10, rfl, ⟨hI.t0, hI.t1, hI.t2, hI.t3, fun _ => rfl, hI.t5, hI.t6, hI.t7, hI.t8, hI.t9, hI.t10, hI.t11, hI.t12, hI.bw⟩⟩
        · rintro L a wx ⟨v16, v17, v18, v19, v20, v21, v22, v23, v24, v25, v26, v27, v10, rfl, hI⟩ hL hdep hcl K hK
          obtain rfl := hI.t4 (hdep 4 (by decide))
          obtain rfl := hI.t2 (hdep 2 (by decide))
          refine (if_pos rfl).mpr ?_
          go_simp
          exact hK _ _ ⟨v16, v17, _, v19, _, _, v22, v23, v24, v25, v26, v27, v10, rfl, ⟨hI.t0, hI.t1, hI.t2, hI.t3, hI.t4, fun _ => rfl, hI.t6, hI.t7, hI.t8, hI.t9, hI.t10, hI.t11, hI.t12, hI.bw⟩⟩
        · rintro L a wx ⟨v16, v17, v18, v19, v20, v21, v22, v23, v24, v25, v26, v27, v10, rfl, hI⟩ hL hdep hcl K hK
          obtain rfl := hI.t2 (hdep 2 (by decide))
          obtain rfl := hI.t5 (hdep 5 (by decide))
          go_simp
          exact hK _ _ ⟨v16, v17, _, v19, v20, _, _, v23, v24, v25, v26, v27, v10, rfl, ⟨hI.t0, hI.t1, hI.t2, hI.t3, hI.t4, hI.t5, fun _ => rfl, hI.t7, hI.t8, hI.t9, hI.t10, hI.t11, hI.t12, hI.bw⟩⟩
        · rintro L a wx ⟨v16, v17, v18, v19, v20, v21, v22, v23, v24, v25, v26, v27, v10, rfl, hI⟩ hL hdep hcl K hK
          obtain rfl := hI.t6 (hdep 6 (by decide))
          go_simp
          exact hK _ _ ⟨v16, v17, v18, v19, v20, v21, _, _, v24, v25, v26, v27, v10, rfl, ⟨hI.t0, hI.t1, hI.t2, hI.t3, hI.t4, hI.t5, hI.t6, fun _ => rfl, hI.t8, hI.t9, hI.t10, hI.t11, hI.t12, hI.bw⟩⟩
        · rintro L a wx ⟨v16, v17, v18, v19, v20, v21, v22, v23, v24, v25, v26, v27, v10, rfl, hI⟩ hL hdep hcl K hK
          obtain rfl := hI.t7 (hdep 7 (by decide))
          refine (if_pos rfl).mpr ?_
          refine ow_load 41 _ rfl g7 0 rfl 41 (bvs d) (bvs d) (HA7.out wx hI.bw) (fun j v h => by rw [Nat.zero_add]; exact h) (.array 32 5) Try.underlying41 rfl h32d.out ?_
          exact hK _ _ ⟨v16, v17, v18, v19, v20, v21, v22, _, _, v25, v26, v27, v10, rfl, ⟨hI.t0, hI.t1, hI.t2, hI.t3, hI.t4, hI.t5, hI.t6, hI.t7, fun _ => rfl, hI.t9, hI.t10, hI.t11, hI.t12, hI.bw⟩⟩
        · rintro L a wx ⟨v16, v17, v18, v19, v20, v21, v22, v23, v24, v25, v26, v27, v10, rfl, hI⟩ hL hdep hcl K hK
          obtain rfl := hI.t7 (hdep 7 (by decide))
          refine (if_pos rfl).mpr ?_
          have HC := HRt.out wx
          go_simp
          refine HC.mono ?_
          rintro e w' ⟨rfl, hb⟩
          exact hK _ _ ⟨v16, v17, v18, v19, v20, v21, v22, _, v24, _, v26, v27, v10, rfl, ⟨hI.t0, hI.t1, hI.t2, hI.t3, hI.t4, hI.t5, hI.t6, hI.t7, hI.t8, fun _ => rfl, hI.t10, hI.t11, hI.t12, (hI.bw).trans (hb.mono (hI.bw).size)⟩⟩
        · rintro L a wx ⟨v16, v17, v18, v19, v20, v21, v22, v23, v24, v25, v26, v27, v10, rfl, hI⟩ hL hdep hcl K hK
          obtain rfl := hI.t8 (hdep 8 (by decide))
          obtain rfl := hI.t9 (hdep 9 (by decide))
          obtain rfl := hI.t7 (hdep 7 (by decide))
          refine (if_pos rfl).mpr ?_
          refine ow_eqD _ _ _ rfl d S Hd.out HSl.out rfl rfl ?_
          exact hK _ _ ⟨v16, v17, v18, v19, v20, v21, v22, _, _, _, _, v27, v10, rfl, ⟨hI.t0, hI.t1, hI.t2, hI.t3, hI.t4, hI.t5, hI.t6, hI.t7, hI.t8, hI.t9, fun _ => rfl, hI.t11, hI.t12, hI.bw⟩⟩
        · rintro L a wx ⟨v16, v17, v18, v19, v20, v21, v22, v23, v24, v25, v26, v27, v10, rfl, hI⟩ hL hdep hcl K hK
          obtain rfl := hI.t7 (hdep 7 (by decide))
          obtain rfl := hI.t10 (hdep 10 (by decide))
          go_simp
          exact hK _ _ ⟨v16, v17, v18, v19, v20, v21, v22, _, v24, v25, _, _, v10, rfl, ⟨hI.t0, hI.t1, hI.t2, hI.t3, hI.t4, hI.t5, hI.t6, hI.t7, hI.t8, hI.t9, hI.t10, fun _ => rfl, hI.t12, hI.bw⟩⟩
        · rintro L a wx ⟨v16, v17, v18, v19, v20, v21, v22, v23, v24, v25, v26, v27, v10, rfl, hI⟩ hL hdep hcl K hK
          obtain rfl := hI.t11 (hdep 11 (by decide))
          go_simp
          exact hK _ _ ⟨v16, v17, v18, v19, v20, v21, v22, v23, v24, v25, v26, _, _, rfl, ⟨hI.t0, hI.t1, hI.t2, hI.t3, hI.t4, hI.t5, hI.t6, hI.t7, hI.t8, hI.t9, hI.t10, hI.t11, fun _ => rfl, hI.bw⟩⟩
        · rintro a wx ⟨v16, v17, v18, v19, v20, v21, v22, v23, v24, v25, v26, v27, v10, rfl, hI⟩
          have hbw := hI.bw
          obtain rfl := hI.t12 rfl
          clear hI
          go_wp2_with fail
          go_ret
          exact ⟨rfl, HB.out.trans (hbw.mono HB.out.size)⟩
      · rw [decide_eq_false hq, Bool.false_and]
        have c2 : ((q : Int) == 0) = false := by simp; omega
        go_enter Try.func20, Try.ntmps20
        go_upto_region 2 with (first
          | ((with_reducible show wpList _ _ _ (⟨some 7, .box _ _, _, _, _, _⟩ :: _) _ _); refine wl_box rfl 41 _ rfl (bvs d) rfl ?_; intro w1 hA1 hb1 hs1)
          | ((with_reducible show wpList _ _ _ (⟨some 8, .box _ _, _, _, _, _⟩ :: _) _ _); refine wl_box rfl 41 _ rfl (bvs r) rfl ?_; intro w2 hA2 hb2 hs2; have b02 : Below w.heap.size w w2 := hb1.trans (hb2.mono hb1.size)))
        go_simp
        obtain ⟨g7, hg7⟩ : ∃ g, g = w.heap.size := ⟨_, rfl⟩
        obtain ⟨g8, hg8⟩ : ∃ g, g = w1.heap.size := ⟨_, rfl⟩
        rw [← hg7, ← hg8]
        have A7 := hA1.kept hb2
        rw [← hg7] at A7
        have HA7 : Hid (∀ wx, Below w2.heap.size w2 wx → Arr wx g7 41 (bvs d)) := fun wx hb => A7.kept hb
        have HB := Lib.hid b02
        have Hd := Lib.hid hd
        have HSl := Lib.hid hSl
        clear hA1 hA2 hb1 hb2 hs1 hs2 b02 hg7 hg8 A7 hP hl hd hr hSl
        refine wp_region_steps [[], [0], [1], [2], [3, 2], [4, 2], [2, 5], [6], [7], [7], [7], [7, 10], [11]] (by kernel_rfl) (by kernel_rfl) (fun L a wx => ∃ v16 v17 v18 v19 v20 v21 v22 v23 v24 v25 v26 v27 v10, a = ⟨#[.int .u64 0, .int .u64 ↑n, .agg (bvs d).toArray, .agg (bvs r).toArray, .slice ad q c, undef, undef, .pointer (some ⟨g7, 0, none⟩), .pointer (some ⟨g8, 0, none⟩), undef, v10, undef, undef, undef, .int .u64 0, .bool true, v16, v17, v18, v19, v20, v21, v22, v23, v24, v25, v26, v27, undef, undef, undef, undef, undef, undef, undef, undef, undef, undef, undef, undef, undef, undef, undef, undef, undef, undef, undef, undef, undef], []⟩ ∧ InvRVerB d r S n q c ad g7 g8 w2 L v16 v17 v18 v19 v20 v21 v22 v23 v24 v25 v26 v27 v10 wx) ?_ ⟨?_, ?_, ?_, ?_, ?_, ?_, ?_, ?_, ?_, ?_, ?_, ?_, ?_, trivial⟩ ?_
        · refine ⟨_, _, _, _, _, _, _, _, _, _, _, _, _, rfl, ⟨?_, ?_, ?_, ?_, ?_, ?_, ?_, ?_, ?_, ?_, ?_, ?_, ?_, (Below.refl _ _).drew⟩⟩ <;> (intro h; exact absurd h (by decide))
        · rintro L a wx ⟨v16, v17, v18, v19, v20, v21, v22, v23, v24, v25, v26, v27, v10, rfl, hI⟩ hL hdep hcl K hK
          go_simp
          exact hK _ _ ⟨_, v17, v18, v19, v20, v21, v22, v23, v24, v25, v26, v27, v10, rfl, ⟨fun _ => rfl, hI.t1, hI.t2, hI.t3, hI.t4, hI.t5, hI.t6, hI.t7, hI.t8, hI.t9, hI.t10, hI.t11, hI.t12, hI.bw⟩⟩
        · rintro L a wx ⟨v16, v17, v18, v19, v20, v21, v22, v23, v24, v25, v26, v27, v10, rfl, hI⟩ hL hdep hcl K hK
          obtain rfl := hI.t0 (hdep 0 (by decide))
          go_simp
          exact hK _ _ ⟨_, _, v18, v19, v20, v21, v22, v23, v24, v25, v26, v27, v10, rfl, ⟨hI.t0, fun _ => rfl, hI.t2, hI.t3, hI.t4, hI.t5, hI.t6, hI.t7, hI.t8, hI.t9, hI.t10, hI.t11, hI.t12, hI.bw⟩⟩
        · rintro L a wx ⟨v16, v17, v18, v19, v20, v21, v22, v23, v24, v25, v26, v27, v10, rfl, hI⟩ hL hdep hcl K hK
          obtain rfl := hI.t1 (hdep 1 (by decide))
          go_simp
          exact hK _ _ ⟨v16, _, _, v19, v20, v21, v22, v23, v24, v25, v26, v27, v10, rfl, ⟨hI.t0, hI.t1, fun _ => rfl, hI.t3, hI.t4, hI.t5, hI.t6, hI.t7, hI.t8, hI.t9, hI.t10, hI.t11, hI.t12, hI.bw⟩⟩
        · rintro L a wx ⟨v16, v17, v18, v19, v20, v21, v22, v23, v24, v25, v26, v27, v10, rfl, hI⟩ hL hdep hcl K hK
          obtain rfl := hI.t2 (hdep 2 (by decide))
          refine (if_pos rfl).mpr ?_
          go_simp
          exact hK _ _ ⟨v16, v17, _, _, v20, v21, v22, v23, v24, v25, v26, v27, v10, rfl, ⟨hI.t0, hI.t1, hI.t2, fun _ => rfl, hI.t4, hI.t5, hI.t6, hI.t7, hI.t8, hI.t9, hI.t10, hI.t11, hI.t12, hI.bw⟩⟩
        · rintro L a wx ⟨v16, v17, v18, v19, v20, v21, v22, v23, v24, v25, v26, v27, v10, rfl, hI⟩ hL hdep hcl K hK
          obtain rfl := hI.t3 (hdep 3 (by decide))
          obtain rfl := hI.t2 (hdep 2 (by decide))
          refine (if_pos rfl).mpr ?_
          go_simp
          exact hK _ _ ⟨v16, v17, _, _, _, v21, v22, v23, v24, v25, v26, v27, v10, rfl, ⟨hI.t0, hI.t1, hI.t2, hI.t3, fun _ => rfl, hI.t5, hI.t6, hI.t7, hI.t8, hI.t9, hI.t10, hI.t11, hI.t12, hI.bw⟩⟩
        · rintro L a wx ⟨v16, v17, v18, v19, v20, v21, v22, v23, v24, v25, v26, v27, v10, rfl, hI⟩ hL hdep hcl K hK
          obtain rfl := hI.t4 (hdep 4 (by decide))
          obtain rfl := hI.t2 (hdep 2 (by decide))
          refine (if_pos rfl).mpr ?_
          go_simp
          exact hK _ _ ⟨v16, v17, _, v19, _, _, v22, v23, v24, v25, v26, v27, v10, rfl, ⟨hI.t0, hI.t1, hI.t2, hI.t3, hI.t4, fun _ => rfl, hI.t6, hI.t7, hI.t8, hI.t9, hI.t10, hI.t11, hI.t12, hI.bw⟩⟩
        · rintro L a wx ⟨v16, v17, v18, v19, v20, v21, v22, v23, v24, v25, v26, v27, v10, rfl, hI⟩ hL hdep hcl K hK
          obtain rfl := hI.t2 (hdep 2 (by decide))
          obtain rfl := hI.t5 (hdep 5 (by decide))
          go_simp
          exact hK _ _ ⟨v16, v17, _, v19, v20, _, _, v23, v24, v25, v26, v27, v10, rfl, ⟨hI.t0, hI.t1, hI.t2, hI.t3, hI.t4, hI.t5, fun _ => rfl, hI.t7, hI.t8, hI.t9, hI.t10, hI.t11, hI.t12, hI.bw⟩⟩
        · rintro L a wx ⟨v16, v17, v18, v19, v20, v21, v22, v23, v24, v25, v26, v27, v10, rfl, hI⟩ hL hdep hcl K hK
          obtain rfl := hI.t6 (hdep 6 (by decide))
          go_simp
          exact hK _ _ ⟨v16, v17, v18, v19, v20, v21, _, _, v24, v25, v26, v27, v10, rfl, ⟨hI.t0, hI.t1, hI.t2, hI.t3, hI.t4, hI.t5, hI.t6, fun _ => rfl, hI.t8, hI.t9, hI.t10, hI.t11, hI.t12, hI.bw⟩⟩
        · rintro L a wx ⟨v16, v17, v18, v19, v20, v21, v22, v23, v24, v25, v26, v27, v10, rfl, hI⟩ hL hdep hcl K hK
          obtain rfl := hI.t7 (hdep 7 (by decide))
          refine (if_neg (by exact fun h => Bool.noConfusion (show false = true from h))).mpr ?_
          exact hK _ _ ⟨v16, v17, v18, v19, v20, v21, v22, _, _, v25, v26, v27, v10, rfl, ⟨hI.t0, hI.t1, hI.t2, hI.t3, hI.t4, hI.t5, hI.t6, hI.t7, fun _ => rfl, hI.t9, hI.t10, hI.t11, hI.t12, hI.bw⟩⟩
        · rintro L a wx ⟨v16, v17, v18, v19, v20, v21, v22, v23, v24, v25, v26, v27, v10, rfl, hI⟩ hL hdep hcl K hK
          obtain rfl := hI.t7 (hdep 7 (by decide))
          refine (if_neg (by exact fun h => Bool.noConfusion (show false = true from h))).mpr ?_
          exact hK _ _ ⟨v16, v17, v18, v19, v20, v21, v22, _, v24, _, v26, v27, v10, rfl, ⟨hI.t0, hI.t1, hI.t2, hI.t3, hI.t4, hI.t5, hI.t6, hI.t7, hI.t8, fun _ => rfl, hI.t10, hI.t11, hI.t12, hI.bw⟩⟩
        · rintro L a wx ⟨v16, v17, v18, v19, v20, v21, v22, v23, v24, v25, v26, v27, v10, rfl, hI⟩ hL hdep hcl K hK
          obtain rfl := hI.t7 (hdep 7 (by decide))
          refine (if_neg (by exact fun h => Bool.noConfusion (show false = true from h))).mpr ?_
          exact hK _ _ ⟨v16, v17, v18, v19, v20, v21, v22, _, v24, v25, _, v27, v10, rfl, ⟨hI.t0, hI.t1, hI.t2, hI.t3, hI.t4, hI.t5, hI.t6, hI.t7, hI.t8, hI.t9, fun _ => rfl, hI.t11, hI.t12, hI.bw⟩⟩
        · rintro L a wx ⟨v16, v17, v18, v19, v20, v21, v22, v23, v24, v25, v26, v27, v10, rfl, hI⟩ hL hdep hcl K hK
          obtain rfl := hI.t7 (hdep 7 (by decide))
          go_simp
          exact hK _ _ ⟨v16, v17, v18, v19, v20, v21, v22, _, v24, v25, v26, _, v10, rfl, ⟨hI.t0, hI.t1, hI.t2, hI.t3, hI.t4, hI.t5, hI.t6, hI.t7, hI.t8, hI.t9, hI.t10, fun _ => rfl, hI.t12, hI.bw⟩⟩
        · rintro L a wx ⟨v16, v17, v18, v19, v20, v21, v22, v23, v24, v25, v26, v27, v10, rfl, hI⟩ hL hdep hcl K hK
          obtain rfl := hI.t11 (hdep 11 (by decide))
          go_simp
          exact hK _ _ ⟨v16, v17, v18, v19, v20, v21, v22, v23, v24, v25, v26, _, _, rfl, ⟨hI.t0, hI.t1, hI.t2, hI.t3, hI.t4, hI.t5, hI.t6, hI.t7, hI.t8, hI.t9, hI.t10, hI.t11, fun _ => rfl, hI.bw⟩⟩
        · rintro a wx ⟨v16, v17, v18, v19, v20, v21, v22, v23, v24, v25, v26, v27, v10, rfl, hI⟩
          have hbw := hI.bw
          obtain rfl := hI.t12 rfl
          clear hI
          go_wp2_with fail
          go_ret
          exact ⟨rfl, HB.out.trans (hbw.mono HB.out.size)⟩
    · rw [decide_eq_false hn, Bool.false_and]
      have c1 : decide ((n : Int) ≤ 1048576) = false := by simp; omega
      go_enter Try.func20, Try.ntmps20
      go_upto_region 2 with (first
        | ((with_reducible show wpList _ _ _ (⟨some 7, .box _ _, _, _, _, _⟩ :: _) _ _); refine wl_box rfl 41 _ rfl (bvs d) rfl ?_; intro w1 hA1 hb1 hs1)
        | ((with_reducible show wpList _ _ _ (⟨some 8, .box _ _, _, _, _, _⟩ :: _) _ _); refine wl_box rfl 41 _ rfl (bvs r) rfl ?_; intro w2 hA2 hb2 hs2; have b02 : Below w.heap.size w w2 := hb1.trans (hb2.mono hb1.size)))
      go_simp
      obtain ⟨g7, hg7⟩ : ∃ g, g = w.heap.size := ⟨_, rfl⟩
      obtain ⟨g8, hg8⟩ : ∃ g, g = w1.heap.size := ⟨_, rfl⟩
      rw [← hg7, ← hg8]
      have A7 := hA1.kept hb2
      rw [← hg7] at A7
      have HA7 : Hid (∀ wx, Below w2.heap.size w2 wx → Arr wx g7 41 (bvs d)) := fun wx hb => A7.kept hb
      have HB := Lib.hid b02
      have Hd := Lib.hid hd
      have HSl := Lib.hid hSl
      clear hA1 hA2 hb1 hb2 hs1 hs2 b02 hg7 hg8 A7 hP hl hd hr hSl
      refine wp_region_steps [[], [0], [1], [2], [2], [2], [2, 5], [6], [7], [7], [7], [7, 10], [11]] (by kernel_rfl) (by kernel_rfl) (fun L a wx => ∃ v16 v17 v18 v19 v20 v21 v22 v23 v24 v25 v26 v27 v10, a = ⟨#[.int .u64 0, .int .u64 ↑n, .agg (bvs d).toArray, .agg (bvs r).toArray, .slice ad q c, undef, undef, .pointer (some ⟨g7, 0, none⟩), .pointer (some ⟨g8, 0, none⟩), undef, v10, undef, undef, undef, .int .u64 0, .bool true, v16, v17, v18, v19, v20, v21, v22, v23, v24, v25, v26, v27, undef, undef, undef, undef, undef, undef, undef, undef, undef, undef, undef, undef, undef, undef, undef, undef, undef, undef, undef, undef, undef], []⟩ ∧ InvRVerA d r S n q c ad g7 g8 w2 L v16 v17 v18 v19 v20 v21 v22 v23 v24 v25 v26 v27 v10 wx) ?_ ⟨?_, ?_, ?_, ?_, ?_, ?_, ?_, ?_, ?_, ?_, ?_, ?_, ?_, trivial⟩ ?_
      · refine ⟨_, _, _, _, _, _, _, _, _, _, _, _, _, rfl, ⟨?_, ?_, ?_, ?_, ?_, ?_, ?_, ?_, ?_, ?_, ?_, ?_, ?_, (Below.refl _ _).drew⟩⟩ <;> (intro h; exact absurd h (by decide))
      · rintro L a wx ⟨v16, v17, v18, v19, v20, v21, v22, v23, v24, v25, v26, v27, v10, rfl, hI⟩ hL hdep hcl K hK
        go_simp
        exact hK _ _ ⟨_, v17, v18, v19, v20, v21, v22, v23, v24, v25, v26, v27, v10, rfl, ⟨fun _ => rfl, hI.t1, hI.t2, hI.t3, hI.t4, hI.t5, hI.t6, hI.t7, hI.t8, hI.t9, hI.t10, hI.t11, hI.t12, hI.bw⟩⟩
      · rintro L a wx ⟨v16, v17, v18, v19, v20, v21, v22, v23, v24, v25, v26, v27, v10, rfl, hI⟩ hL hdep hcl K hK
        obtain rfl := hI.t0 (hdep 0 (by decide))
        go_simp
        exact hK _ _ ⟨_, _, v18, v19, v20, v21, v22, v23, v24, v25, v26, v27, v10, rfl, ⟨hI.t0, fun _ => rfl, hI.t2, hI.t3, hI.t4, hI.t5, hI.t6, hI.t7, hI.t8, hI.t9, hI.t10, hI.t11, hI.t12, hI.bw⟩⟩
      · rintro L a wx ⟨v16, v17, v18, v19, v20, v21, v22, v23, v24, v25, v26, v27, v10, rfl, hI⟩ hL hdep hcl K hK
        obtain rfl := hI.t1 (hdep 1 (by decide))
        go_simp
        exact hK _ _ ⟨v16, _, _, v19, v20, v21, v22, v23, v24, v25, v26, v27, v10, rfl, ⟨hI.t0, hI.t1, fun _ => rfl, hI.t3, hI.t4, hI.t5, hI.t6, hI.t7, hI.t8, hI.t9, hI.t10, hI.t11, hI.t12, hI.bw⟩⟩
      · rintro L a wx ⟨v16, v17, v18, v19, v20, v21, v22, v23, v24, v25, v26, v27, v10, rfl, hI⟩ hL hdep hcl K hK
        obtain rfl := hI.t2 (hdep 2 (by decide))
        refine (if_neg (by exact fun h => Bool.noConfusion (show false = true from h))).mpr ?_
        exact hK _ _ ⟨v16, v17, _, _, v20, v21, v22, v23, v24, v25, v26, v27, v10, rfl, ⟨hI.t0, hI.t1, hI.t2, fun _ => rfl, hI.t4, hI.t5, hI.t6, hI.t7, hI.t8, hI.t9, hI.t10, hI.t11, hI.t12, hI.bw⟩⟩
      · rintro L a wx ⟨v16, v17, v18, v19, v20, v21, v22, v23, v24, v25, v26, v27, v10, rfl, hI⟩ hL hdep hcl K hK
        obtain rfl := hI.t2 (hdep 2 (by decide))
        refine (if_neg (by exact fun h => Bool.noConfusion (show false = true from h))).mpr ?_
        exact hK _ _ ⟨v16, v17, _, v19, _, v21, v22, v23, v24, v25, v26, v27, v10, rfl, ⟨hI.t0, hI.t1, hI.t2, hI.t3, fun _ => rfl, hI.t5, hI.t6, hI.t7, hI.t8, hI.t9, hI.t10, hI.t11, hI.t12, hI.bw⟩⟩
      · rintro L a wx ⟨v16, v17, v18, v19, v20, v21, v22, v23, v24, v25, v26, v27, v10, rfl, hI⟩ hL hdep hcl K hK
        obtain rfl := hI.t2 (hdep 2 (by decide))
        refine (if_neg (by exact fun h => Bool.noConfusion (show false = true from h))).mpr ?_
        exact hK _ _ ⟨v16, v17, _, v19, v20, _, v22, v23, v24, v25, v26, v27, v10, rfl, ⟨hI.t0, hI.t1, hI.t2, hI.t3, hI.t4, fun _ => rfl, hI.t6, hI.t7, hI.t8, hI.t9, hI.t10, hI.t11, hI.t12, hI.bw⟩⟩
      · rintro L a wx ⟨v16, v17, v18, v19, v20, v21, v22, v23, v24, v25, v26, v27, v10, rfl, hI⟩ hL hdep hcl K hK
        obtain rfl := hI.t2 (hdep 2 (by decide))
        go_simp
        exact hK _ _ ⟨v16, v17, _, v19, v20, v21, _, v23, v24, v25, v26, v27, v10, rfl, ⟨hI.t0, hI.t1, hI.t2, hI.t3, hI.t4, hI.t5, fun _ => rfl, hI.t7, hI.t8, hI.t9, hI.t10, hI.t11, hI.t12, hI.bw⟩⟩
      · rintro L a wx ⟨v16, v17, v18, v19, v20, v21, v22, v23, v24, v25, v26, v27, v10, rfl, hI⟩ hL hdep hcl K hK
        obtain rfl := hI.t6 (hdep 6 (by decide))
        go_simp
        exact hK _ _ ⟨v16, v17, v18, v19, v20, v21, _, _, v24, v25, v26, v27, v10, rfl, ⟨hI.t0, hI.t1, hI.t2, hI.t3, hI.t4, hI.t5, hI.t6, fun _ => rfl, hI.t8, hI.t9, hI.t10, hI.t11, hI.t12, hI.bw⟩⟩
      · rintro L a wx ⟨v16, v17, v18, v19, v20, v21, v22, v23, v24, v25, v26, v27, v10, rfl, hI⟩ hL hdep hcl K hK
        obtain rfl := hI.t7 (hdep 7 (by decide))
        refine (if_neg (by exact fun h => Bool.noConfusion (show false = true from h))).mpr ?_
        exact hK _ _ ⟨v16, v17, v18, v19, v20, v21, v22, _, _, v25, v26, v27, v10, rfl, ⟨hI.t0, hI.t1, hI.t2, hI.t3, hI.t4, hI.t5, hI.t6, hI.t7, fun _ => rfl, hI.t9, hI.t10, hI.t11, hI.t12, hI.bw⟩⟩
      · rintro L a wx ⟨v16, v17, v18, v19, v20, v21, v22, v23, v24, v25, v26, v27, v10, rfl, hI⟩ hL hdep hcl K hK
        obtain rfl := hI.t7 (hdep 7 (by decide))
        refine (if_neg (by exact fun h => Bool.noConfusion (show false = true from h))).mpr ?_
        exact hK _ _ ⟨v16, v17, v18, v19, v20, v21, v22, _, v24, _, v26, v27, v10, rfl, ⟨hI.t0, hI.t1, hI.t2, hI.t3, hI.t4, hI.t5, hI.t6, hI.t7, hI.t8, fun _ => rfl, hI.t10, hI.t11, hI.t12, hI.bw⟩⟩
      · rintro L a wx ⟨v16, v17, v18, v19, v20, v21, v22, v23, v24, v25, v26, v27, v10, rfl, hI⟩ hL hdep hcl K hK
        obtain rfl := hI.t7 (hdep 7 (by decide))
        refine (if_neg (by exact fun h => Bool.noConfusion (show false = true from h))).mpr ?_
        exact hK _ _ ⟨v16, v17, v18, v19, v20, v21, v22, _, v24, v25, _, v27, v10, rfl, ⟨hI.t0, hI.t1, hI.t2, hI.t3, hI.t4, hI.t5, hI.t6, hI.t7, hI.t8, hI.t9, fun _ => rfl, hI.t11, hI.t12, hI.bw⟩⟩
      · rintro L a wx ⟨v16, v17, v18, v19, v20, v21, v22, v23, v24, v25, v26, v27, v10, rfl, hI⟩ hL hdep hcl K hK
        obtain rfl := hI.t7 (hdep 7 (by decide))
        go_simp
        exact hK _ _ ⟨v16, v17, v18, v19, v20, v21, v22, _, v24, v25, v26, _, v10, rfl, ⟨hI.t0, hI.t1, hI.t2, hI.t3, hI.t4, hI.t5, hI.t6, hI.t7, hI.t8, hI.t9, hI.t10, fun _ => rfl, hI.t12, hI.bw⟩⟩
      · rintro L a wx ⟨v16, v17, v18, v19, v20, v21, v22, v23, v24, v25, v26, v27, v10, rfl, hI⟩ hL hdep hcl K hK
        obtain rfl := hI.t11 (hdep 11 (by decide))
        go_simp
        exact hK _ _ ⟨v16, v17, v18, v19, v20, v21, v22, v23, v24, v25, v26, _, _, rfl, ⟨hI.t0, hI.t1, hI.t2, hI.t3, hI.t4, hI.t5, hI.t6, hI.t7, hI.t8, hI.t9, hI.t10, hI.t11, fun _ => rfl, hI.bw⟩⟩
      · rintro a wx ⟨v16, v17, v18, v19, v20, v21, v22, v23, v24, v25, v26, v27, v10, rfl, hI⟩
        have hbw := hI.bw
        obtain rfl := hI.t12 rfl
        clear hI
        go_wp2_with fail
        go_ret
        exact ⟨rfl, HB.out.trans (hbw.mono HB.out.size)⟩
  · have hv : vrC m n d r P = (okT m n q && (decide ((tdV m n d P).1 = d) && decide ((tdV m n d P).2 = r))) := by unfold vrC; rw [if_neg h0, hl]
    have c0 : ((m : Int) == 0) = false := by simp; omega
    rw [hv]
    clear hv h0
    have HT := Lib.hid (fun w' (hb : Below w.heap.size w w') => rHeadsC_any m n d ad q c P w' hd (hP.to hb) hq50)
    obtain ⟨hx, hy⟩ := tdV_len hd m n hP.all
    obtain ⟨X, hX⟩ : ∃ X, X = (tdV m n d P).1 := ⟨_, rfl⟩
    obtain ⟨Y, hY⟩ : ∃ Y, Y = (tdV m n d P).2 := ⟨_, rfl⟩
    obtain ⟨E, hE⟩ : ∃ E, E = tdE m n q := ⟨_, rfl⟩
    rw [← hX, ← hY] at HT ⊢
    rw [← hE] at HT
    rw [← hX] at hx
    rw [← hY] at hy
    have h32X : Hid ((Try.prog.info? 41).map (·.size) = some (bvs X).length) := by show _ = _; rw [bvs_len, hx]; exact sizeD
    have hX32 : Hid ((bvs X).length = 32) := by show _ = _; rw [bvs_len]; exact hx
    have h32Y : Hid ((Try.prog.info? 41).map (·.size) = some (bvs Y).length) := by show _ = _; rw [bvs_len, hy]; exact sizeD
    have hY32 : Hid ((bvs Y).length = 32) := by show _ = _; rw [bvs_len]; exact hy
    have HE : Hid (okT m n q = decide (E = 0)) := by show _ = _; rw [hE]; unfold tdE; cases okT m n q <;> rfl
    have hcase : E = 0 ∨ E = 1 := by rw [hE]; unfold tdE; cases okT m n q <;> simp
    have HX := Lib.hid hx
    have HY := Lib.hid hy
    have Hd := Lib.hid hd
    have Hr := Lib.hid hr
    clear hX hY hE hx hy hP hd hr hl
    rcases hcase with rfl | rfl
    · rw [HE.out, decide_eq_true rfl, Bool.true_and]
      clear HE
      by_cases hXd : X = d
      · rw [decide_eq_true hXd, Bool.true_and]
        have HXD := Lib.hid (decide_eq_true hXd : decide (X = d) = true)
        clear hXd
        go_enter Try.func20, Try.ntmps20
        go_wp2_with (first
          | ((with_reducible show wpList _ _ _ (⟨some 7, .box _ _, _, _, _, _⟩ :: _) _ _); refine wl_box rfl 41 _ rfl (bvs d) rfl ?_; intro w1 hA1 hb1 hs1)
          | ((with_reducible show wpList _ _ _ (⟨some 8, .box _ _, _, _, _, _⟩ :: _) _ _); refine wl_box rfl 41 _ rfl (bvs r) rfl ?_; intro w2 hA2 hb2 hs2; have b02 : Below w.heap.size w w2 := hb1.trans (hb2.mono hb1.size))
          | ((with_reducible show wpList _ _ _ (⟨some 31, .load _ _, _, _, _, _⟩ :: _) _ _); refine wl_load rfl 41 _ rfl w.heap.size 0 rfl 41 (bvs d) (bvs d) (hA1.kept hb2) (fun j v h => (by rw [Nat.zero_add]; exact h)) (.array 32 5) Try.underlying41 rfl h32d.out ?_)
          | (go_at_call 18; refine (HT.out w2 b02).mono ?_; rintro e w3 ⟨rfl, hb3⟩)
          | ((with_reducible show wpList _ _ _ (⟨some 11, .alloc _, _, _, _, _⟩ :: _) _ _); refine wl_alloc rfl 41 rfl (bvs (Z8 32)) 32 infoD ?_; intro w4 hA4 hb4 hs4)
          | ((with_reducible show wpList _ _ _ (⟨some 12, .alloc _, _, _, _, _⟩ :: _) _ _); refine wl_alloc rfl 41 rfl (bvs (Z8 32)) 32 infoD ?_; intro w5 hA5 hb5 hs5)
          | ((with_reducible show wpList _ _ _ (⟨none, .store _ (.tmp 11) _, _, _, _, _⟩ :: _) _ _); refine wl_store rfl 41 _ _ rfl w3.heap.size 0 rfl (bvs X) rfl 41 _ (hA4.kept hb5) h32X.out (by rw [hX32.out]; exact (by decide : 0 + 32 ≤ (bvs (Z8 32)).length)) (bvs_one _) ?_; intro w6 hA6 hg6 hs6; rw [whole_store _ _ (by rw [hX32.out]; rfl)] at hA6)
          | ((with_reducible show wpList _ _ _ (⟨none, .store _ (.tmp 12) _, _, _, _, _⟩ :: _) _ _); refine wl_store rfl 41 _ _ rfl w4.heap.size 0 rfl (bvs Y) rfl 41 _ (hA5.grown hg6 (by intro e; injection e with e; have := hA4.lt; omega)) h32Y.out (by rw [hY32.out]; exact (by decide : 0 + 32 ≤ (bvs (Z8 32)).length)) (bvs_one _) ?_; intro w7 hA7 hg7 hs7; rw [whole_store _ _ (by rw [hY32.out]; rfl)] at hA7; have A11 := hA6.grown hg7 (by intro e; injection e with e; have := hA4.lt; omega); have A7 := ((((hA1.kept hb2).kept hb3).kept hb4).kept hb5).grown hg6 (by intro e; injection e with e; have := hA1.lt; have := hb2.size; have := hb3.size; omega); have A7 := A7.grown hg7 (by intro e; injection e with e; have := hA1.lt; have := hb2.size; have := hb3.size; have := hb4.size; omega); have A8 := (((hA2.kept hb3).kept hb4).kept hb5).grown hg6 (by intro e; injection e with e; have := hA2.lt; have := hb3.size; omega); have A8 := A8.grown hg7 (by intro e; injection e with e; have := hA2.lt; have := hb3.size; have := hb4.size; omega))
          | ((with_reducible show wpList _ _ _ (⟨some 40, .load _ _, _, _, _, _⟩ :: _) _ _); refine wl_loadG rfl 41 _ rfl w3.heap.size 0 rfl 41 (bvs X) (bvs X) A11 (fun j v h => (by rw [Nat.zero_add]; exact h)) (.array 32 5) Try.underlying41 rfl h32X.out ?_)
          | ((with_reducible show wpList _ _ _ (⟨some 41, .load _ _, _, _, _, _⟩ :: _) _ _); refine wl_loadG rfl 41 _ rfl w.heap.size 0 rfl 41 (bvs d) (bvs d) A7 (fun j v h => (by rw [Nat.zero_add]; exact h)) (.array 32 5) Try.underlying41 rfl h32d.out ?_)
          | ((with_reducible show wpList _ _ _ (⟨some 42, .binOp _ _ _ _ _, _, _, _, _⟩ :: _) _ _); refine wl_eqV rfl _ _ _ rfl X d true HXD.out HX.out Hd.out rfl rfl ?_)
          | ((with_reducible show wpList _ _ _ (⟨some 45, .load _ _, _, _, _, _⟩ :: _) _ _); refine wl_loadG rfl 41 _ rfl w4.heap.size 0 rfl 41 (bvs Y) (bvs Y) hA7 (fun j v h => (by rw [Nat.zero_add]; exact h)) (.array 32 5) Try.underlying41 rfl h32Y.out ?_)
          | ((with_reducible show wpList _ _ _ (⟨some 46, .load _ _, _, _, _, _⟩ :: _) _ _); refine wl_loadG rfl 41 _ rfl w1.heap.size 0 rfl 41 (bvs r) (bvs r) A8 (fun j v h => (by rw [Nat.zero_add]; exact h)) (.array 32 5) Try.underlying41 rfl h32r.out ?_)
          | ((with_reducible show wpList _ _ _ (⟨some 47, .binOp _ _ _ _ _, _, _, _, _⟩ :: _) _ _); refine wl_eqV rfl _ _ _ rfl Y r (decide (Y = r)) rfl HY.out Hr.out rfl rfl ?_))
        go_ret
        refine ⟨rfl, ?_⟩
        have z1 := b02.size
        have z3 := hb3.size
        have z4 := hb4.size
        have z5 := hb5.size
        exact ((((b02.trans (hb3.mono z1)).trans (hb4.mono (by omega))).trans (hb5.mono (by omega))).grown hg6 (by omega) (by intro k e; injection e with e; omega)).grown hg7 (by omega) (by intro k e; injection e with e; omega)
      · rw [decide_eq_false hXd, Bool.false_and]
        have HXD := Lib.hid (decide_eq_false hXd : decide (X = d) = false)
        clear hXd
        go_enter Try.func20, Try.ntmps20
        go_wp2_with (first
          | ((with_reducible show wpList _ _ _ (⟨some 7, .box _ _, _, _, _, _⟩ :: _) _ _); refine wl_box rfl 41 _ rfl (bvs d) rfl ?_; intro w1 hA1 hb1 hs1)
          | ((with_reducible show wpList _ _ _ (⟨some 8, .box _ _, _, _, _, _⟩ :: _) _ _); refine wl_box rfl 41 _ rfl (bvs r) rfl ?_; intro w2 hA2 hb2 hs2; have b02 : Below w.heap.size w w2 := hb1.trans (hb2.mono hb1.size))
          | ((with_reducible show wpList _ _ _ (⟨some 31, .load _ _, _, _, _, _⟩ :: _) _ _); refine wl_load rfl 41 _ rfl w.heap.size 0 rfl 41 (bvs d) (bvs d) (hA1.kept hb2) (fun j v h => (by rw [Nat.zero_add]; exact h)) (.array 32 5) Try.underlying41 rfl h32d.out ?_)
          | (go_at_call 18; refine (HT.out w2 b02).mono ?_; rintro e w3 ⟨rfl, hb3⟩)
          | ((with_reducible show wpList _ _ _ (⟨some 11, .alloc _, _, _, _, _⟩ :: _) _ _); refine wl_alloc rfl 41 rfl (bvs (Z8 32)) 32 infoD ?_; intro w4 hA4 hb4 hs4)
          | ((with_reducible show wpList _ _ _ (⟨some 12, .alloc _, _, _, _, _⟩ :: _) _ _); refine wl_alloc rfl 41 rfl (bvs (Z8 32)) 32 infoD ?_; intro w5 hA5 hb5 hs5)
          | ((with_reducible show wpList _ _ _ (⟨none, .store _ (.tmp 11) _, _, _, _, _⟩ :: _) _ _); refine wl_store rfl 41 _ _ rfl w3.heap.size 0 rfl (bvs X) rfl 41 _ (hA4.kept hb5) h32X.out (by rw [hX32.out]; exact (by decide : 0 + 32 ≤ (bvs (Z8 32)).length)) (bvs_one _) ?_; intro w6 hA6 hg6 hs6; rw [whole_store _ _ (by rw [hX32.out]; rfl)] at hA6)
          | ((with_reducible show wpList _ _ _ (⟨none, .store _ (.tmp 12) _, _, _, _, _⟩ :: _) _ _); refine wl_store rfl 41 _ _ rfl w4.heap.size 0 rfl (bvs Y) rfl 41 _ (hA5.grown hg6 (by intro e; injection e with e; have := hA4.lt; omega)) h32Y.out (by rw [hY32.out]; exact (by decide : 0 + 32 ≤ (bvs (Z8 32)).length)) (bvs_one _) ?_; intro w7 hA7 hg7 hs7; rw [whole_store _ _ (by rw [hY32.out]; rfl)] at hA7; have A11 := hA6.grown hg7 (by intro e; injection e with e; have := hA4.lt; omega); have A7 := ((((hA1.kept hb2).kept hb3).kept hb4).kept hb5).grown hg6 (by intro e; injection e with e; have := hA1.lt; have := hb2.size; have := hb3.size; omega); have A7 := A7.grown hg7 (by intro e; injection e with e; have := hA1.lt; have := hb2.size; have := hb3.size; have := hb4.size; omega); have A8 := (((hA2.kept hb3).kept hb4).kept hb5).grown hg6 (by intro e; injection e with e; have := hA2.lt; have := hb3.size; omega); have A8 := A8.grown hg7 (by intro e; injection e with e; have := hA2.lt; have := hb3.size; have := hb4.size; omega))
          | ((with_reducible show wpList _ _ _ (⟨some 40, .load _ _, _, _, _, _⟩ :: _) _ _); refine wl_loadG rfl 41 _ rfl w3.heap.size 0 rfl 41 (bvs X) (bvs X) A11 (fun j v h => (by rw [Nat.zero_add]; exact h)) (.array 32 5) Try.underlying41 rfl h32X.out ?_)
          | ((with_reducible show wpList _ _ _ (⟨some 41, .load _ _, _, _, _, _⟩ :: _) _ _); refine wl_loadG rfl 41 _ rfl w.heap.size 0 rfl 41 (bvs d) (bvs d) A7 (fun j v h => (by rw [Nat.zero_add]; exact h)) (.array 32 5) Try.underlying41 rfl h32d.out ?_)
          | ((with_reducible show wpList _ _ _ (⟨some 42, .binOp _ _ _ _ _, _, _, _, _⟩ :: _) _ _); refine wl_eqV rfl _ _ _ rfl X d false HXD.out HX.out Hd.out rfl rfl ?_))
        go_ret
        refine ⟨rfl, ?_⟩
        have z1 := b02.size
        have z3 := hb3.size
        have z4 := hb4.size
        have z5 := hb5.size
        exact ((((b02.trans (hb3.mono z1)).trans (hb4.mono (by omega))).trans (hb5.mono (by omega))).grown hg6 (by omega) (by intro k e; injection e with e; omega)).grown hg7 (by omega) (by intro k e; injection e with e; omega)
    · rw [HE.out, decide_eq_false (by decide), Bool.false_and]
      clear HE
      go_enter Try.func20, Try.ntmps20
      go_wp2_with (first
        | ((with_reducible show wpList _ _ _ (⟨some 7, .box _ _, _, _, _, _⟩ :: _) _ _); refine wl_box rfl 41 _ rfl (bvs d) rfl ?_; intro w1 hA1 hb1 hs1)
        | ((with_reducible show wpList _ _ _ (⟨some 8, .box _ _, _, _, _, _⟩ :: _) _ _); refine wl_box rfl 41 _ rfl (bvs r) rfl ?_; intro w2 hA2 hb2 hs2; have b02 : Below w.heap.size w w2 := hb1.trans (hb2.mono hb1.size))
        | ((with_reducible show wpList _ _ _ (⟨some 31, .load _ _, _, _, _, _⟩ :: _) _ _); refine wl_load rfl 41 _ rfl w.heap.size 0 rfl 41 (bvs d) (bvs d) (hA1.kept hb2) (fun j v h => (by rw [Nat.zero_add]; exact h)) (.array 32 5) Try.underlying41 rfl h32d.out ?_)
        | (go_at_call 18; refine (HT.out w2 b02).mono ?_; rintro e w3 ⟨rfl, hb3⟩)
        | ((with_reducible show wpList _ _ _ (⟨some 11, .alloc _, _, _, _, _⟩ :: _) _ _); refine wl_alloc rfl 41 rfl (bvs (Z8 32)) 32 infoD ?_; intro w4 hA4 hb4 hs4)
        | ((with_reducible show wpList _ _ _ (⟨some 12, .alloc _, _, _, _, _⟩ :: _) _ _); refine wl_alloc rfl 41 rfl (bvs (Z8 32)) 32 infoD ?_; intro w5 hA5 hb5 hs5)
        | ((with_reducible show wpList _ _ _ (⟨none, .store _ (.tmp 11) _, _, _, _, _⟩ :: _) _ _); refine wl_store rfl 41 _ _ rfl w3.heap.size 0 rfl (bvs X) rfl 41 _ (hA4.kept hb5) h32X.out (by rw [hX32.out]; exact (by decide : 0 + 32 ≤ (bvs (Z8 32)).length)) (bvs_one _) ?_; intro w6 hA6 hg6 hs6; rw [whole_store _ _ (by rw [hX32.out]; rfl)] at hA6)
        | ((with_reducible show wpList _ _ _ (⟨none, .store _ (.tmp 12) _, _, _, _, _⟩ :: _) _ _); refine wl_store rfl 41 _ _ rfl w4.heap.size 0 rfl (bvs Y) rfl 41 _ (hA5.grown hg6 (by intro e; injection e with e; have := hA4.lt; omega)) h32Y.out (by rw [hY32.out]; exact (by decide : 0 + 32 ≤ (bvs (Z8 32)).length)) (bvs_one _) ?_; intro w7 hA7 hg7 hs7; rw [whole_store _ _ (by rw [hY32.out]; rfl)] at hA7; have A11 := hA6.grown hg7 (by intro e; injection e with e; have := hA4.lt; omega); have A7 := ((((hA1.kept hb2).kept hb3).kept hb4).kept hb5).grown hg6 (by intro e; injection e with e; have := hA1.lt; have := hb2.size; have := hb3.size; omega); have A7 := A7.grown hg7 (by intro e; injection e with e; have := hA1.lt; have := hb2.size; have := hb3.size; have := hb4.size; omega); have A8 := (((hA2.kept hb3).kept hb4).kept hb5).grown hg6 (by intro e; injection e with e; have := hA2.lt; have := hb3.size; omega); have A8 := A8.grown hg7 (by intro e; injection e with e; have := hA2.lt; have := hb3.size; have := hb4.size; omega)))
      go_ret
      refine ⟨rfl, ?_⟩
      have z1 := b02.size
      have z3 := hb3.size
      have z4 := hb4.size
      have z5 := hb5.size
      exact ((((b02.trans (hb3.mono z1)).trans (hb4.mono (by omega))).trans (hb5.mono (by omega))).grown hg6 (by omega) (by intro k e; injection e with e; omega)).grown hg7 (by omega) (by intro k e; injection e with e; omega)
end Go.Proofs.Ytcnnblhjgligbaa
