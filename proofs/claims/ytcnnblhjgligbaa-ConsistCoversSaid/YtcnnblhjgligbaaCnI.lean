/-
  Layer 11: the program's Heads and Verify. Conditions: those in each statement.
-/
import Derived.Test.YtcnnblhjgligbaaCnH
namespace Go.Proofs.Ytcnnblhjgligbaa
open Go.RowKit

/-- the end: two results that lie in blocks, another value -/
theorem end_cell3 {P : Program} {fn : Func} {R : Ending → World → Prop} {a : Act} {w : World} {p p2 qq : Tmp} {ty : TypeId} (h : fn.results = #[.cell p ty, .cell p2 ty, .tmp qq]) (g g2 : Nat) (T : TypeId) (xs ys : List Value) (d : TypeDesc) (v : Value)
    (hp : a.tmps.getD p undef = .pointer (some ⟨g, 0, none⟩)) (hA : Arr w g T xs) (hp2 : a.tmps.getD p2 undef = .pointer (some ⟨g2, 0, none⟩)) (hA2 : Arr w g2 T ys) (hu : P.underlying ty = some d) (hd : (match d with | .struct _ | .array _ _ => true | _ => false) = true) (hi : (P.info? ty).map (·.size) = some xs.length) (hi2 : (P.info? ty).map (·.size) = some ys.length)
    (hq : a.tmps.getD qq undef = v) (hdf : a.defers = []) (hR : R (.returned (.tuple #[.agg xs.toArray, .agg ys.toArray, v])) w) : bodyPost P fn R .ret a w := by
  have hr : (results fn a.tmps).run P w = .ok (.tuple #[.agg xs.toArray, .agg ys.toArray, v]) w := by
    have hp' : a.tmps[p]?.getD undef = .pointer (some ⟨g, 0, none⟩) := by simpa using hp
    have hp2' : a.tmps[p2]?.getD undef = .pointer (some ⟨g2, 0, none⟩) := by simpa using hp2
    have hq' : a.tmps[qq]?.getD undef = v := by simpa using hq
    have hl := run_loadVar_row (P := P) w g T ty xs.toArray (0, 0) d hA hu hd (by simpa using hi)
    have hl2 := run_loadVar_row (P := P) w g2 T ty ys.toArray (0, 0) d hA2 hu hd (by simpa using hi2)
    simp [results, h, hp', hp2', hq', asAddr, hl, hl2]
  exact bodyPost_ret hr hdf hR
structure InvHeads2 (d X Y : List UInt8) (E : Int) (m n q c : Nat) (ad : Option Addr) (g6 g8 g9 g11 : Nat) (W0 : World) (L : Nat → Bool) (v21 v22 v23 v24 v25 v10 : Value) (wx : World) : Prop where
  t0 : L 0 = true → v21 = .pointer (some ⟨g11, 0, none⟩)
  t1 : L 1 = true → v22 = .agg (bvs X).toArray
  t2 : L 2 = true → v23 = .pointer (some ⟨g11, 32, none⟩)
  t3 : L 3 = true → v24 = .agg (bvs Y).toArray
  t4 : L 4 = true → v25 = .int .i64 E
  t7 : L 7 = true → v10 = .int .i64 E
  kb : KB (fun k => k = g8 ∨ k = g9) W0 wx
  ap0 : L 5 = false → Arr wx g8 41 (bvs (Z8 32))
  ap1 : L 5 = true → Arr wx g8 41 (bvs X)
  aq0 : L 6 = false → Arr wx g9 41 (bvs (Z8 32))
  aq1 : L 6 = true → Arr wx g9 41 (bvs Y)
structure InvVerC (d r S : List UInt8) (n q c : Nat) (ad : Option Addr) (g7 g8 : Nat) (W0 : World) (L : Nat → Bool) (v15 v16 v17 v18 v19 v20 v21 v22 v23 v24 v25 v26 v10 : Value) (wx : World) : Prop where
  t0 : L 0 = true → v15 = .int .u64 ↑n
  t1 : L 1 = true → v16 = .bool true
  t2 : L 2 = true → v17 = .bool true
  t3 : L 3 = true → v18 = .slice ad 0 c
  t4 : L 4 = true → v19 = .int .i64 (0 : Int)
  t5 : L 5 = true → v20 = .bool true
  t6 : L 6 = true → v21 = .bool true
  t7 : L 7 = true → v22 = .bool true
  t8 : L 8 = true → v23 = .agg (bvs d).toArray
  t9 : L 9 = true → v24 = .agg (bvs S).toArray
  t10 : L 10 = true → v25 = .bool (decide (d = S))
  t11 : L 11 = true → v26 = .bool (decide (d = S))
  t12 : L 12 = true → v10 = .bool (decide (d = S))
  bw : Below W0.heap.size W0 wx
structure InvVerB (d r S : List UInt8) (n q c : Nat) (ad : Option Addr) (g7 g8 : Nat) (W0 : World) (L : Nat → Bool) (v15 v16 v17 v18 v19 v20 v21 v22 v23 v24 v25 v26 v10 : Value) (wx : World) : Prop where
  t0 : L 0 = true → v15 = .int .u64 ↑n
  t1 : L 1 = true → v16 = .bool true
  t2 : L 2 = true → v17 = .bool true
  t3 : L 3 = true → v18 = .slice ad q c
  t4 : L 4 = true → v19 = .int .i64 (q : Int)
  t5 : L 5 = true → v20 = .bool false
  t6 : L 6 = true → v21 = .bool false
  t7 : L 7 = true → v22 = .bool false
  t8 : L 8 = true → v23 = v23
  t9 : L 9 = true → v24 = v24
  t10 : L 10 = true → v25 = v25
  t11 : L 11 = true → v26 = .bool false
  t12 : L 12 = true → v10 = .bool false
  bw : Below W0.heap.size W0 wx
structure InvVerA (d r S : List UInt8) (n q c : Nat) (ad : Option Addr) (g7 g8 : Nat) (W0 : World) (L : Nat → Bool) (v15 v16 v17 v18 v19 v20 v21 v22 v23 v24 v25 v26 v10 : Value) (wx : World) : Prop where
  t0 : L 0 = true → v15 = .int .u64 ↑n
  t1 : L 1 = true → v16 = .bool false
  t2 : L 2 = true → v17 = .bool false
  t3 : L 3 = true → v18 = v18
  t4 : L 4 = true → v19 = v19
  t5 : L 5 = true → v20 = v20
  t6 : L 6 = true → v21 = .bool false
  t7 : L 7 = true → v22 = .bool false
  t8 : L 8 = true → v23 = v23
  t9 : L 9 = true → v24 = v24
  t10 : L 10 = true → v25 = v25
  t11 : L 11 = true → v26 = .bool false
  t12 : L 12 = true → v10 = .bool false
  bw : Below W0.heap.size W0 wx
set_option maxRecDepth 100000 in
set_option maxHeartbeats 3200000 in
theorem HeadsC_any (m n : Nat) (d : List UInt8) (ad : Option Addr) (q c : Nat) (P : List (List UInt8)) (w : World) (hd : d.length = 32) (hP : RdD w ad q c P) (hq50 : q ≤ 2 ^ 50) :
    Calls Try.prog 17 #[.int .u64 (m : Int), .int .u64 (n : Int), .agg (bvs d).toArray, .slice ad q c] w fun e w' => e = .returned (.tuple #[.agg (bvs (tdV m n d P).1).toArray, .agg (bvs (tdV m n d P).2).toArray, .int .i64 (tdE m n q)]) ∧ Below w.heap.size w w' := by
  have h32d : Hid ((Try.prog.info? 41).map (·.size) = some (bvs d).length) := by show _ = _; rw [bvs_len, hd]; exact sizeD
  have HT := Lib.hid (fun w' (hb : Below w.heap.size w w') => told_any m n d ad q c P w' hd (hP.to hb) hq50)
  obtain ⟨hx, hy⟩ := tdV_len hd m n hP.all
  obtain ⟨X, hX⟩ : ∃ X, X = (tdV m n d P).1 := ⟨_, rfl⟩
  obtain ⟨Y, hY⟩ : ∃ Y, Y = (tdV m n d P).2 := ⟨_, rfl⟩
  obtain ⟨E, hE⟩ : ∃ E, E = tdE m n q := ⟨_, rfl⟩
  rw [← hX, ← hY, ← hE] at HT ⊢
  rw [← hX] at hx
  rw [← hY] at hy
  have h32X : Hid ((Try.prog.info? 41).map (·.size) = some (bvs X).length) := by show _ = _; rw [bvs_len, hx]; exact sizeD
  have hX32 : Hid ((bvs X).length = 32) := by show _ = _; rw [bvs_len]; exact hx
  have h32Y : Hid ((Try.prog.info? 41).map (·.size) = some (bvs Y).length) := by show _ = _; rw [bvs_len, hy]; exact sizeD
  have hY32 : Hid ((bvs Y).length = 32) := by show _ = _; rw [bvs_len]; exact hy
  have h64 : Hid ((b2 X Y).length = 64) := b2_len hx hy
  have h64s : Hid ((Try.prog.info? 62).map (·.size) = some (b2 X Y).length) := by show _ = _; rw [h64.out]; exact sizeB
  have HX := Lib.hid hx
  clear hX hY hE hx hy hP hd
  go_enter Try.func17, Try.ntmps17
  go_upto_region 2 with (first
  | ((with_reducible show wpList _ _ _ (⟨some 6, .box _ _, _, _, _, _⟩ :: _) _ _); refine wl_box rfl 41 _ rfl (bvs d) rfl ?_; intro w1 hA1 hb1 hs1)
  | ((with_reducible show wpList _ _ _ (⟨some 8, .alloc _, _, _, _, _⟩ :: _) _ _); refine wl_alloc rfl 41 rfl (bvs (Z8 32)) 32 infoD ?_; intro w2 hA2 hb2 hs2)
  | ((with_reducible show wpList _ _ _ (⟨some 9, .alloc _, _, _, _, _⟩ :: _) _ _); refine wl_alloc rfl 41 rfl (bvs (Z8 32)) 32 infoD ?_; intro w3 hA3 hb3 hs3; have b03 : Below w.heap.size w w3 := (hb1.trans (hb2.mono hb1.size)).trans (hb3.mono (by have := hb1.size; have := hb2.size; omega)))
    | ((with_reducible show wpList _ _ _ (⟨some 16, .load _ _, _, _, _, _⟩ :: _) _ _); refine wl_load rfl 41 _ rfl w.heap.size 0 rfl 41 (bvs d) (bvs d) ((hA1.kept hb2).kept hb3) (fun j v h => (by rw [Nat.zero_add]; exact h)) (.array 32 5) Try.underlying41 rfl h32d.out ?_)
    | (go_at_call 27; refine (HT.out w3 b03).mono ?_; rintro e w4 ⟨rfl, hb4⟩)
    | ((with_reducible show wpList _ _ _ (⟨some 11, .alloc _, _, _, _, _⟩ :: _) _ _); refine wl_alloc rfl 62 rfl (b2 (Z8 32) (Z8 32)) 64 infoB ?_; intro w5 hA5 hb5 hs5)
    | ((with_reducible show wpList _ _ _ (⟨none, .store _ _ _, _, _, _, _⟩ :: _) _ _); refine wl_store rfl 62 _ _ rfl w4.heap.size 0 rfl (b2 X Y) rfl 62 _ hA5 h64s.out (by rw [h64.out]; exact (by decide : 0 + 64 ≤ (b2 (Z8 32) (Z8 32)).length)) (b2_one _ _) ?_; intro w6 hA6 hg6 hs6))
  rw [whole_store _ _ (by rw [h64.out]; rfl)] at hA6
  have b46 : Below w4.heap.size w4 w6 := hb5.grown hg6 hb5.size (by intro k e; injection e with e; omega)
  have z1 := hb1.size
  have z2 := hb2.size
  have z3 := hb3.size
  have z4 := hb4.size
  have hAP := ((hA2.kept hb3).kept hb4).kept b46
  have hAQ := (hA3.kept hb4).kept b46
  have b06 : Below w.heap.size w w6 := (b03.trans (hb4.mono b03.size)).trans (b46.mono (by omega))
  have h16 := b06.size
  have l11 := hA6.lt
  have n1 : ¬ (w4.heap.size = w1.heap.size ∨ w4.heap.size = w2.heap.size) := by omega
  have n2 : w1.heap.size ≠ w2.heap.size := by omega
  have n3 : w.heap.size ≤ w1.heap.size ∧ w.heap.size ≤ w2.heap.size := by omega
  go_simp
  obtain ⟨g8, hg8⟩ : ∃ g, g = w1.heap.size := ⟨_, rfl⟩
  obtain ⟨g9, hg9⟩ : ∃ g, g = w2.heap.size := ⟨_, rfl⟩
  obtain ⟨g11, hg11⟩ : ∃ g, g = w4.heap.size := ⟨_, rfl⟩
  obtain ⟨g6, hg6'⟩ : ∃ g, g = w.heap.size := ⟨_, rfl⟩
  rw [← hg8, ← hg9, ← hg11, ← hg6']
  rw [← hg8] at hAP n1 n2 n3
  rw [← hg9] at hAQ n1 n2 n3
  rw [← hg11] at hA6 n1 l11
  have HPQ := Lib.hid n2
  have HNE := Lib.hid n1
  have HLT := Lib.hid l11
  have HA := Lib.hid hA6
  have HB := Lib.hid b06
  have HN := Lib.hid n3
  have HZ := Lib.hid h16
  clear hA1 hA2 hA3 hA5 hb1 hb2 hb3 hb4 hb5 hs1 hs2 hs3 hs5 hg6 hs6 b03 b46 z1 z2 z3 z4 hg8 hg9 hg11 hg6' hA6 l11 n1 n2 n3 b06 h16 HT
  refine wp_region_steps [[], [0], [], [2], [], [1], [3], [4]] (by kernel_rfl) (by kernel_rfl) (fun L a wx => ∃ v21 v22 v23 v24 v25 v10, a = ⟨#[.int .u64 ↑m, .int .u64 ↑n, .agg (bvs d).toArray, .slice ad q c, undef, undef, .pointer (some ⟨g6, 0, none⟩), undef, .pointer (some ⟨g8, 0, none⟩), .pointer (some ⟨g9, 0, none⟩), v10, .pointer (some ⟨g11, 0, none⟩), .int .i64 E, .tuple #[.agg (b2 X Y).toArray, .int .i64 E], .int .u64 ↑m, .int .u64 ↑n, .agg (bvs d).toArray, .slice ad q c, .tuple #[.agg (b2 X Y).toArray, .int .i64 E], .agg (b2 X Y).toArray, .int .i64 E, v21, v22, v23, v24, v25], []⟩ ∧ InvHeads2 d X Y E m n q c ad g6 g8 g9 g11 w6 L v21 v22 v23 v24 v25 v10 wx) ?_ ⟨?_, ?_, ?_, ?_, ?_, ?_, ?_, ?_, trivial⟩ ?_
  · refine ⟨_, _, _, _, _, _, rfl, ⟨?_, ?_, ?_, ?_, ?_, ?_, (KB.refl _ _).below (Below.refl _ _).drew, fun _ => hAP.drew, fun h => absurd h (by decide), fun _ => hAQ.drew, fun h => absurd h (by decide)⟩⟩ <;> (intro h; exact absurd h (by decide))
  · rintro L a wx ⟨v21, v22, v23, v24, v25, v10, rfl, hI⟩ hL hdep hcl K hK
    go_simp
    exact hK _ _ ⟨_, v22, v23, v24, v25, v10, rfl, ⟨fun _ => rfl, hI.t1, hI.t2, hI.t3, hI.t4, hI.t7, hI.kb, hI.ap0, hI.ap1, hI.aq0, hI.aq1⟩⟩
  · rintro L a wx ⟨v21, v22, v23, v24, v25, v10, rfl, hI⟩ hL hdep hcl K hK
    obtain rfl := hI.t0 (hdep 0 (by decide))
    refine ow_load 41 _ rfl g11 0 rfl 62 (b2 X Y) (bvs X) ((hI.kb.block g11 HLT.out HNE.out).trans HA.out) (b2_lo) (.array 32 5) Try.underlying41 rfl h32X.out ?_
    exact hK _ _ ⟨_, _, v23, v24, v25, v10, rfl, ⟨hI.t0, fun _ => rfl, hI.t2, hI.t3, hI.t4, hI.t7, hI.kb, hI.ap0, hI.ap1, hI.aq0, hI.aq1⟩⟩
  · rintro L a wx ⟨v21, v22, v23, v24, v25, v10, rfl, hI⟩ hL hdep hcl K hK
    go_simp
    exact hK _ _ ⟨v21, v22, _, v24, v25, v10, rfl, ⟨hI.t0, hI.t1, fun _ => rfl, hI.t3, hI.t4, hI.t7, hI.kb, hI.ap0, hI.ap1, hI.aq0, hI.aq1⟩⟩
  · rintro L a wx ⟨v21, v22, v23, v24, v25, v10, rfl, hI⟩ hL hdep hcl K hK
    obtain rfl := hI.t2 (hdep 2 (by decide))
    refine ow_load 41 _ rfl g11 32 rfl 62 (b2 X Y) (bvs Y) ((hI.kb.block g11 HLT.out HNE.out).trans HA.out) (b2_hi HX.out) (.array 32 5) Try.underlying41 rfl h32Y.out ?_
    exact hK _ _ ⟨v21, v22, _, _, v25, v10, rfl, ⟨hI.t0, hI.t1, hI.t2, fun _ => rfl, hI.t4, hI.t7, hI.kb, hI.ap0, hI.ap1, hI.aq0, hI.aq1⟩⟩
  · rintro L a wx ⟨v21, v22, v23, v24, v25, v10, rfl, hI⟩ hL hdep hcl K hK
    go_simp
    exact hK _ _ ⟨v21, v22, v23, v24, _, v10, rfl, ⟨hI.t0, hI.t1, hI.t2, hI.t3, fun _ => rfl, hI.t7, hI.kb, hI.ap0, hI.ap1, hI.aq0, hI.aq1⟩⟩
  · rintro L a wx ⟨v21, v22, v23, v24, v25, v10, rfl, hI⟩ hL hdep hcl K hK
    obtain rfl := hI.t1 (hdep 1 (by decide))
    refine ow_store 41 _ _ rfl g8 0 rfl (bvs X) rfl 41 _ (hI.ap0 hL) h32X.out (by rw [hX32.out]; exact (by decide : 0 + 32 ≤ (bvs (Z8 32)).length)) (bvs_one _) ?_
    intro w' hA' hg' hs'
    rw [whole_store _ _ (by rw [hX32.out]; rfl)] at hA'
    exact hK _ _ ⟨v21, _, v23, v24, v25, v10, rfl, ⟨hI.t0, hI.t1, hI.t2, hI.t3, hI.t4, hI.t7, hI.kb.grown hg' (.inl rfl), fun h => (nomatch (show true = false from h)), fun _ => hA', fun h => (hI.aq0 h).grown hg' (by intro e; injection e with e; exact HPQ.out e.symm), fun h => (hI.aq1 h).grown hg' (by intro e; injection e with e; exact HPQ.out e.symm)⟩⟩
  · rintro L a wx ⟨v21, v22, v23, v24, v25, v10, rfl, hI⟩ hL hdep hcl K hK
    obtain rfl := hI.t3 (hdep 3 (by decide))
    refine ow_store 41 _ _ rfl g9 0 rfl (bvs Y) rfl 41 _ (hI.aq0 hL) h32Y.out (by rw [hY32.out]; exact (by decide : 0 + 32 ≤ (bvs (Z8 32)).length)) (bvs_one _) ?_
    intro w' hA' hg' hs'
    rw [whole_store _ _ (by rw [hY32.out]; rfl)] at hA'
    exact hK _ _ ⟨v21, v22, v23, _, v25, v10, rfl, ⟨hI.t0, hI.t1, hI.t2, hI.t3, hI.t4, hI.t7, hI.kb.grown hg' (.inr rfl), fun h => (hI.ap0 h).grown hg' (by intro e; injection e with e; exact HPQ.out e), fun h => (hI.ap1 h).grown hg' (by intro e; injection e with e; exact HPQ.out e), fun h => (nomatch (show true = false from h)), fun _ => hA'⟩⟩
  · rintro L a wx ⟨v21, v22, v23, v24, v25, v10, rfl, hI⟩ hL hdep hcl K hK
    obtain rfl := hI.t4 (hdep 4 (by decide))
    go_simp
    exact hK _ _ ⟨v21, v22, v23, v24, _, _, rfl, ⟨hI.t0, hI.t1, hI.t2, hI.t3, hI.t4, fun _ => rfl, hI.kb, hI.ap0, hI.ap1, hI.aq0, hI.aq1⟩⟩
  · rintro a wx ⟨v21, v22, v23, v24, v25, v10, rfl, hI⟩
    have e10 := hI.t7 rfl
    have hP1 := hI.ap1 rfl
    have hQ1 := hI.aq1 rfl
    have hkb := hI.kb
    clear hI
    obtain rfl := e10
    go_wp2_with fail
    refine end_cell3 rfl g8 g9 41 (bvs X) (bvs Y) (.array 32 5) (.int .i64 E) rfl hP1 rfl hQ1 Try.underlying41 rfl h32X.out h32Y.out rfl rfl ⟨rfl, ?_⟩
    have n3 := HN.out
    exact HB.out.trans (hkb.under (fun k h => by rcases h with h | h <;> omega) HZ.out)
/-- whether a proof is verified -/
def vrC (m n : Nat) (d r : List UInt8) (P : List (List UInt8)) : Bool :=
  if m = 0 then decide (n ≤ 1048576) && (decide (P.length = 0) && decide (d = rootF [])) else okT m n P.length && (decide ((tdV m n d P).1 = d) && decide ((tdV m n d P).2 = r))
set_option maxRecDepth 100000 in
set_option maxHeartbeats 3200000 in
theorem VerifyC_any (m n : Nat) (d r : List UInt8) (ad : Option Addr) (q c : Nat) (P : List (List UInt8)) (w : World) (hd : d.length = 32) (hr : r.length = 32) (hP : RdD w ad q c P) (hq50 : q ≤ 2 ^ 50) :
    Calls Try.prog 19 #[.int .u64 (m : Int), .int .u64 (n : Int), .agg (bvs d).toArray, .agg (bvs r).toArray, .slice ad q c] w fun e w' => e = .returned (.bool (vrC m n d r P)) ∧ Below w.heap.size w w' := by
  have hl := hP.len
  have h32d : Hid ((Try.prog.info? 41).map (·.size) = some (bvs d).length) := by show _ = _; rw [bvs_len, hd]; exact sizeD
  have h32r : Hid ((Try.prog.info? 41).map (·.size) = some (bvs r).length) := by show _ = _; rw [bvs_len, hr]; exact sizeD
  by_cases h0 : m = 0
  · subst h0
    have hv : vrC 0 n d r P = (decide (n ≤ 1048576) && (decide (q = 0) && decide (d = rootF []))) := by unfold vrC; rw [if_pos rfl, hl]
    rw [hv]
    clear hv
    have HRt := Lib.hid (fun w' => Root_any 0 [] (Nat.le_refl _) none 0 0 w' (by omega) ⟨rfl, Nat.le_refl _, All32.of (by simp), fun _ => rfl, fun h => by omega⟩)
    have hSl : (rootF []).length = 32 := rootF_len (All32.of (by simp))
    generalize rootF [] = S at *
    by_cases hn : n ≤ 1048576
    · rw [decide_eq_true hn, Bool.true_and]
      have c1 : decide ((n : Int) ≤ 1048576) = true := by simp; omega
      by_cases hq : q = 0
      · subst hq
        rw [decide_eq_true rfl, Bool.true_and]
        go_enter Try.func19, Try.ntmps19
        go_upto_region 2 with (first
          | ((with_reducible show wpList _ _ _ (⟨some 7, .box _ _, _, _, _, _⟩ :: _) _ _); refine wl_box rfl 41 _ rfl (bvs d) rfl ?_; intro w1 hA1 hb1 hs1)
          | ((with_reducible show wpList _ _ _ (⟨some 8, .box _ _, _, _, _, _⟩ :: _) _ _); refine wl_box rfl 41 _ rfl (bvs r) rfl ?_; intro w2 hA2 hb2 hs2; have b02 : Below w.heap.size w w2 := hb1.trans (hb2.mono hb1.size)))
        go_simp
        obtain ⟨g7, hg7⟩ : ∃ g, g = w.heap.size := ⟨_, rfl⟩
        obtain ⟨g8, hg8⟩ : ∃ g, g = w1.heap.size := ⟨_, rfl⟩
        rw [← hg7, ← hg8]
        have A7 := hA1.kept hb2
        rw [← hg7] at A7
        have HA7 : Hid (∀ wx, Below w2.heap.size w2 wx → Arr wx g7 41 (bvs d)) := fun wx hb => A7.kept hb
        have HB := Lib.hid b02
        have Hd := Lib.hid hd
        have HSl := Lib.hid hSl
        clear hA1 hA2 hb1 hb2 hs1 hs2 b02 hg7 hg8 A7 hP hl hd hr hSl
        refine wp_region_steps [[], [0], [1], [2], [3, 2], [4, 2], [2, 5], [6], [7], [7], [8, 9, 7], [7, 10], [11]] (by kernel_rfl) (by kernel_rfl) (fun L a wx => ∃ v15 v16 v17 v18 v19 v20 v21 v22 v23 v24 v25 v26 v10, a = ⟨#[.int .u64 0, .int .u64 ↑n, .agg (bvs d).toArray, .agg (bvs r).toArray, .slice ad 0 c, undef, undef, .pointer (some ⟨g7, 0, none⟩), .pointer (some ⟨g8, 0, none⟩), undef, v10, undef, undef, .int .u64 0, .bool true, v15, v16, v17, v18, v19, v20, v21, v22, v23, v24, v25, v26, undef, undef, undef, undef, undef, undef, undef, undef, undef, undef, undef, undef, undef, undef, undef, undef, undef], []⟩ ∧ InvVerC d r S n 0 c ad g7 g8 w2 L v15 v16 v17 v18 v19 v20 v21 v22 v23 v24 v25 v26 v10 wx) ?_ ⟨?_, ?_, ?_, ?_, ?_, ?_, ?_, ?_, ?_, ?_, ?_, ?_, ?_, trivial⟩ ?_
        · refine ⟨_, _, _, _, _, _, _, _, _, _, _, _, _, rfl, ⟨?_, ?_, ?_, ?_, ?_, ?_, ?_, ?_, ?_, ?_, ?_, ?_, ?_, (Below.refl _ _).drew⟩⟩ <;> (intro h; exact absurd h (by decide))
        · rintro L a wx ⟨v15, v16, v17, v18, v19, v20, v21, v22, v23, v24, v25, v26, v10, rfl, hI⟩ hL hdep hcl K hK
          go_simp
          exact hK _ _ ⟨_, v16, v17, v18, v19, v20, v21, v22, v23, v24, v25, v26, v10, rfl, ⟨fun _ => rfl, hI.t1, hI.t2, hI.t3, hI.t4, hI.t5, hI.t6, hI.t7, hI.t8, hI.t9, hI.t10, hI.t11, hI.t12, hI.bw⟩⟩
        · rintro L a wx ⟨v15, v16, v17, v18, v19, v20, v21, v22, v23, v24, v25, v26, v10, rfl, hI⟩ hL hdep hcl K hK
          obtain rfl := hI.t0 (hdep 0 (by decide))
          go_simp
          exact hK _ _ ⟨_, _, v17, v18, v19, v20, v21, v22, v23, v24, v25, v26, v10, rfl, ⟨hI.t0, fun _ => rfl, hI.t2, hI.t3, hI.t4, hI.t5, hI.t6, hI.t7, hI.t8, hI.t9, hI.t10, hI.t11, hI.t12, hI.bw⟩⟩
        · rintro L a wx ⟨v15, v16, v17, v18, v19, v20, v21, v22, v23, v24, v25, v26, v10, rfl, hI⟩ hL hdep hcl K hK
          obtain rfl := hI.t1 (hdep 1 (by decide))
          go_simp
          exact hK _ _ ⟨v15, _, _, v18, v19, v20, v21, v22, v23, v24, v25, v26, v10, rfl, ⟨hI.t0, hI.t1, fun _ => rfl, hI.t3, hI.t4, hI.t5, hI.t6, hI.t7, hI.t8, hI.t9, hI.t10, hI.t11, hI.t12, hI.bw⟩⟩
        · rintro L a wx ⟨v15, v16, v17, v18, v19, v20, v21, v22, v23, v24, v25, v26, v10, rfl, hI⟩ hL hdep hcl K hK
          obtain rfl := hI.t2 (hdep 2 (by decide))
          refine (if_pos rfl).mpr ?_
          go_simp
          exact hK _ _ ⟨v15, v16, _, _, v19, v20, v21, v22, v23, v24, v25, v26, v10, rfl, ⟨hI.t0, hI.t1, hI.t2, fun _ => rfl, hI.t4, hI.t5, hI.t6, hI.t7, hI.t8, hI.t9, hI.t10, hI.t11, hI.t12, hI.bw⟩⟩
        · rintro L a wx ⟨v15, v16, v17, v18, v19, v20, v21, v22, v23, v24, v25, v26, v10, rfl, hI⟩ hL hdep hcl K hK
          obtain rfl := hI.t3 (hdep 3 (by decide))
          obtain rfl := hI.t2 (hdep 2 (by decide))
          refine (if_pos rfl).mpr ?_
          go_simp
          exact hK _ _ ⟨v15, v16, _, _, _, v20, v21, v22, v23, v24, v25, v26, v10, rfl, ⟨hI.t0, hI.t1, hI.t2, hI.t3, fun _ => rfl, hI.t5, hI.t6, hI.t7, hI.t8, hI.t9, hI.t10, hI.t11, hI.t12, hI.bw⟩⟩
        · rintro L a wx ⟨v15, v16, v17, v18, v19, v20, v21, v22, v23, v24, v25, v26, v10, rfl, hI⟩ hL hdep hcl K hK
          obtain rfl := hI.t4 (hdep 4 (by decide))
          obtain rfl := hI.t2 (hdep 2 (by decide))
          refine (if_pos rfl).mpr ?_
          go_simp
          exact hK _ _ ⟨v15, v16, _, v18, _, _, v21, v22, v23, v24, v25, v26, v10, rfl, ⟨hI.t0, hI.t1, hI.t2, hI.t3, hI.t4, fun _ => rfl, hI.t6, hI.t7, hI.t8, hI.t9, hI.t10, hI.t11, hI.t12, hI.bw⟩⟩
        · rintro L a wx ⟨v15, v16, v17, v18, v19, v20, v21, v22, v23, v24, v25, v26, v10, rfl, hI⟩ hL hdep hcl K hK
          obtain rfl := hI.t2 (hdep 2 (by decide))
          obtain rfl := hI.t5 (hdep 5 (by decide))
          go_simp
          exact hK _ _ ⟨v15, v16, _, v18, v19, _, _, v22, v23, v24, v25, v26, v10, rfl, ⟨hI.t0, hI.t1, hI.t2, hI.t3, hI.t4, hI.t5, fun _ => rfl, hI.t7, hI.t8, hI.t9, hI.t10, hI.t11, hI.t12, hI.bw⟩⟩
        · rintro L a wx ⟨v15, v16, v17, v18, v19, v20, v21, v22, v23, v24, v25, v26, v10, rfl, hI⟩ hL hdep hcl K hK
          obtain rfl := hI.t6 (hdep 6 (by decide))
          go_simp
          exact hK _ _ ⟨v15, v16, v17, v18, v19, v20, _, _, v23, v24, v25, v26, v10, rfl, ⟨hI.t0, hI.t1, hI.t2, hI.t3, hI.t4, hI.t5, hI.t6, fun _ => rfl, hI.t8, hI.t9, hI.t10, hI.t11, hI.t12, hI.bw⟩⟩
        · rintro L a wx ⟨v15, v16, v17, v18, v19, v20, v21, v22, v23, v24, v25, v26, v10, rfl, hI⟩ hL hdep hcl K hK
          obtain rfl := hI.t7 (hdep 7 (by decide))
          refine (if_pos rfl).mpr ?_
          refine ow_load 41 _ rfl g7 0 rfl 41 (bvs d) (bvs d) (HA7.out wx hI.bw) (fun j v h => by rw [Nat.zero_add]; exact h) (.array 32 5) Try.underlying41 rfl h32d.out ?_
          exact hK _ _ ⟨v15, v16, v17, v18, v19, v20, v21, _, _, v24, v25, v26, v10, rfl, ⟨hI.t0, hI.t1, hI.t2, hI.t3, hI.t4, hI.t5, hI.t6, hI.t7, fun _ => rfl, hI.t9, hI.t10, hI.t11, hI.t12, hI.bw⟩⟩
        · rintro L a wx ⟨v15, v16, v17, v18, v19, v20, v21, v22, v23, v24, v25, v26, v10, rfl, hI⟩ hL hdep hcl K hK
          obtain rfl := hI.t7 (hdep 7 (by decide))
          refine (if_pos rfl).mpr ?_
          have HC := HRt.out wx
          go_simp
          refine HC.mono ?_
          rintro e w' ⟨rfl, hb⟩
          exact hK _ _ ⟨v15, v16, v17, v18, v19, v20, v21, _, v23, _, v25, v26, v10, rfl, ⟨hI.t0, hI.t1, hI.t2, hI.t3, hI.t4, hI.t5, hI.t6, hI.t7, hI.t8, fun _ => rfl, hI.t10, hI.t11, hI.t12, (hI.bw).trans (hb.mono (hI.bw).size)⟩⟩
        · rintro L a wx ⟨v15, v16, v17, v18, v19, v20, v21, v22, v23, v24, v25, v26, v10, rfl, hI⟩ hL hdep hcl K hK
          obtain rfl := hI.t8 (hdep 8 (by decide))
          obtain rfl := hI.t9 (hdep 9 (by decide))
          obtain rfl := hI.t7 (hdep 7 (by decide))
          refine (if_pos rfl).mpr ?_
          refine ow_eqD _ _ _ rfl d S Hd.out HSl.out rfl rfl ?_
          exact hK _ _ ⟨v15, v16, v17, v18, v19, v20, v21, _, _, _, _, v26, v10, rfl, ⟨hI.t0, hI.t1, hI.t2, hI.t3, hI.t4, hI.t5, hI.t6, hI.t7, hI.t8, hI.t9, fun _ => rfl, hI.t11, hI.t12, hI.bw⟩⟩
        · rintro L a wx ⟨v15, v16, v17, v18, v19, v20, v21, v22, v23, v24, v25, v26, v10, rfl, hI⟩ hL hdep hcl K hK
          obtain rfl := hI.t7 (hdep 7 (by decide))
          obtain rfl := hI.t10 (hdep 10 (by decide))
          go_simp
          exact hK _ _ ⟨v15, v16, v17, v18, v19, v20, v21, _, v23, v24, _, _, v10, rfl, ⟨hI.t0, hI.t1, hI.t2, hI.t3, hI.t4, hI.t5, hI.t6, hI.t7, hI.t8, hI.t9, hI.t10, fun _ => rfl, hI.t12, hI.bw⟩⟩
        · rintro L a wx ⟨v15, v16, v17, v18, v19, v20, v21, v22, v23, v24, v25, v26, v10, rfl, hI⟩ hL hdep hcl K hK
          obtain rfl := hI.t11 (hdep 11 (by decide))
          go_simp
          exact hK _ _ ⟨v15, v16, v17, v18, v19, v20, v21, v22, v23, v24, v25, _, _, rfl, ⟨hI.t0, hI.t1, hI.t2, hI.t3, hI.t4, hI.t5, hI.t6, hI.t7, hI.t8, hI.t9, hI.t10, hI.t11, fun _ => rfl, hI.bw⟩⟩
        · rintro a wx ⟨v15, v16, v17, v18, v19, v20, v21, v22, v23, v24, v25, v26, v10, rfl, hI⟩
          have hbw := hI.bw
          obtain rfl := hI.t12 rfl
          clear hI
          go_wp2_with fail
          go_ret
          exact ⟨rfl, HB.out.trans (hbw.mono HB.out.size)⟩
      · rw [decide_eq_false hq, Bool.false_and]
        have c2 : ((q : Int) == 0) = false := by simp; omega
        go_enter Try.func19, Try.ntmps19
        go_upto_region 2 with (first
          | ((with_reducible show wpList _ _ _ (⟨some 7, .box _ _, _, _, _, _⟩ :: _) _ _); refine wl_box rfl 41 _ rfl (bvs d) rfl ?_; intro w1 hA1 hb1 hs1)
          | ((with_reducible show wpList _ _ _ (⟨some 8, .box _ _, _, _, _, _⟩ :: _) _ _); refine wl_box rfl 41 _ rfl (bvs r) rfl ?_; intro w2 hA2 hb2 hs2; have b02 : Below w.heap.size w w2 := hb1.trans (hb2.mono hb1.size)))
        go_simp
        obtain ⟨g7, hg7⟩ : ∃ g, g = w.heap.size := ⟨_, rfl⟩
        obtain ⟨g8, hg8⟩ : ∃ g, g = w1.heap.size := ⟨_, rfl⟩
        rw [← hg7, ← hg8]
        have A7 := hA1.kept hb2
        rw [← hg7] at A7
        have HA7 : Hid (∀ wx, Below w2.heap.size w2 wx → Arr wx g7 41 (bvs d)) := fun wx hb => A7.kept hb
        have HB := Lib.hid b02
        have Hd := Lib.hid hd
        have HSl := Lib.hid hSl
        clear hA1 hA2 hb1 hb2 hs1 hs2 b02 hg7 hg8 A7 hP hl hd hr hSl
        refine wp_region_steps [[], [0], [1], [2], [3, 2], [4, 2], [2, 5], [6], [7], [7], [7], [7, 10], [11]] (by kernel_rfl) (by kernel_rfl) (fun L a wx => ∃ v15 v16 v17 v18 v19 v20 v21 v22 v23 v24 v25 v26 v10, a = ⟨#[.int .u64 0, .int .u64 ↑n, .agg (bvs d).toArray, .agg (bvs r).toArray, .slice ad q c, undef, undef, .pointer (some ⟨g7, 0, none⟩), .pointer (some ⟨g8, 0, none⟩), undef, v10, undef, undef, .int .u64 0, .bool true, v15, v16, v17, v18, v19, v20, v21, v22, v23, v24, v25, v26, undef, undef, undef, undef, undef, undef, undef, undef, undef, undef, undef, undef, undef, undef, undef, undef, undef], []⟩ ∧ InvVerB d r S n q c ad g7 g8 w2 L v15 v16 v17 v18 v19 v20 v21 v22 v23 v24 v25 v26 v10 wx) ?_ ⟨?_, ?_, ?_, ?_, ?_, ?_, ?_, ?_, ?_, ?_, ?_, ?_, ?_, trivial⟩ ?_
        · refine ⟨_, _, _, _, _, _, _, _, _, _, _, _, _, rfl, ⟨?_, ?_, ?_, ?_, ?_, ?_, ?_, ?_, ?_, ?_, ?_, ?_, ?_, (Below.refl _ _).drew⟩⟩ <;> (intro h; exact absurd h (by decide))
        · rintro L a wx ⟨v15, v16, v17, v18, v19, v20, v21, v22, v23, v24, v25, v26, v10, rfl, hI⟩ hL hdep hcl K hK
          go_simp
          exact hK _ _ ⟨_, v16, v17, v18, v19, v20, v21, v22, v23, v24, v25, v26, v10, rfl, ⟨fun _ => rfl, hI.t1, hI.t2, hI.t3, hI.t4, hI.t5, hI.t6, hI.t7, hI.t8, hI.t9, hI.t10, hI.t11, hI.t12, hI.bw⟩⟩
        · rintro L a wx ⟨v15, v16, v17, v18, v19, v20, v21, v22, v23, v24, v25, v26, v10, rfl, hI⟩ hL hdep hcl K hK
          obtain rfl := hI.t0 (hdep 0 (by decide))
          go_simp
          exact hK _ _ ⟨_, _, v17, v18, v19, v20, v21, v22, v23, v24, v25, v26, v10, rfl, ⟨hI.t0, fun _ => rfl, hI.t2, hI.t3, hI.t4, hI.t5, hI.t6, hI.t7, hI.t8, hI.t9, hI.t10, hI.t11, hI.t12, hI.bw⟩⟩
        · rintro L a wx ⟨v15, v16, v17, v18, v19, v20, v21, v22, v23, v24, v25, v26, v10, rfl, hI⟩ hL hdep hcl K hK
          obtain rfl := hI.t1 (hdep 1 (by decide))
          go_simp
          exact hK _ _ ⟨v15, _, _, v18, v19, v20, v21, v22, v23, v24, v25, v26, v10, rfl, ⟨hI.t0, hI.t1, fun _ => rfl, hI.t3, hI.t4, hI.t5, hI.t6, hI.t7, hI.t8, hI.t9, hI.t10, hI.t11, hI.t12, hI.bw⟩⟩
        · rintro L a wx ⟨v15, v16, v17, v18, v19, v20, v21, v22, v23, v24, v25, v26, v10, rfl, hI⟩ hL hdep hcl K hK
          obtain rfl := hI.t2 (hdep 2 (by decide))
          refine (if_pos rfl).mpr ?_
          go_simp
          exact hK _ _ ⟨v15, v16, _, _, v19, v20, v21, v22, v23, v24, v25, v26, v10, rfl, ⟨hI.t0, hI.t1, hI.t2, fun _ => rfl, hI.t4, hI.t5, hI.t6, hI.t7, hI.t8, hI.t9, hI.t10, hI.t11, hI.t12, hI.bw⟩⟩
        · rintro L a wx ⟨v15, v16, v17, v18, v19, v20, v21, v22, v23, v24, v25, v26, v10, rfl, hI⟩ hL hdep hcl K hK
          obtain rfl := hI.t3 (hdep 3 (by decide))
          obtain rfl := hI.t2 (hdep 2 (by decide))
          refine (if_pos rfl).mpr ?_
          go_simp
          exact hK _ _ ⟨v15, v16, _, _, _, v20, v21, v22, v23, v24, v25, v26, v10, rfl, ⟨hI.t0, hI.t1, hI.t2, hI.t3, fun _ => rfl, hI.t5, hI.t6, hI.t7, hI.t8, hI.t9, hI.t10, hI.t11, hI.t12, hI.bw⟩⟩
        · rintro L a wx ⟨v15, v16, v17, v18, v19, v20, v21, v22, v23, v24, v25, v26, v10, rfl, hI⟩ hL hdep hcl K hK
          obtain rfl := hI.t4 (hdep 4 (by decide))
          obtain rfl := hI.t2 (hdep 2 (by decide))
          refine (if_pos rfl).mpr ?_
          go_simp
          exact hK _ _ ⟨v15, v16, _, v18, _, _, v21, v22, v23, v24, v25, v26, v10, rfl, ⟨hI.t0, hI.t1, hI.t2, hI.t3, hI.t4, fun _ => rfl, hI.t6, hI.t7, hI.t8, hI.t9, hI.t10, hI.t11, hI.t12, hI.bw⟩⟩
        · rintro L a wx ⟨v15, v16, v17, v18, v19, v20, v21, v22, v23, v24, v25, v26, v10, rfl, hI⟩ hL hdep hcl K hK
          obtain rfl := hI.t2 (hdep 2 (by decide))
          obtain rfl := hI.t5 (hdep 5 (by decide))
          go_simp
          exact hK _ _ ⟨v15, v16, _, v18, v19, _, _, v22, v23, v24, v25, v26, v10, rfl, ⟨hI.t0, hI.t1, hI.t2, hI.t3, hI.t4, hI.t5, fun _ => rfl, hI.t7, hI.t8, hI.t9, hI.t10, hI.t11, hI.t12, hI.bw⟩⟩
        · rintro L a wx ⟨v15, v16, v17, v18, v19, v20, v21, v22, v23, v24, v25, v26, v10, rfl, hI⟩ hL hdep hcl K hK
          obtain rfl := hI.t6 (hdep 6 (by decide))
          go_simp
          exact hK _ _ ⟨v15, v16, v17, v18, v19, v20, _, _, v23, v24, v25, v26, v10, rfl, ⟨hI.t0, hI.t1, hI.t2, hI.t3, hI.t4, hI.t5, hI.t6, fun _ => rfl, hI.t8, hI.t9, hI.t10, hI.t11, hI.t12, hI.bw⟩⟩
        · rintro L a wx ⟨v15, v16, v17, v18, v19, v20, v21, v22, v23, v24, v25, v26, v10, rfl, hI⟩ hL hdep hcl K hK
          obtain rfl := hI.t7 (hdep 7 (by decide))
          refine (if_neg (by exact fun h => Bool.noConfusion (show false = true from h))).mpr ?_
          exact hK _ _ ⟨v15, v16, v17, v18, v19, v20, v21, _, _, v24, v25, v26, v10, rfl, ⟨hI.t0, hI.t1, hI.t2, hI.t3, hI.t4, hI.t5, hI.t6, hI.t7, fun _ => rfl, hI.t9, hI.t10, hI.t11, hI.t12, hI.bw⟩⟩
        · rintro L a wx ⟨v15, v16, v17, v18, v19, v20, v21, v22, v23, v24, v25, v26, v10, rfl, hI⟩ hL hdep hcl K hK
          obtain rfl := hI.t7 (hdep 7 (by decide))
          refine (if_neg (by exact fun h => Bool.noConfusion (show false = true from h))).mpr ?_
          exact hK _ _ ⟨v15, v16, v17, v18, v19, v20, v21, _, v23, _, v25, v26, v10, rfl, ⟨hI.t0, hI.t1, hI.t2, hI.t3, hI.t4, hI.t5, hI.t6, hI.t7, hI.t8, fun _ => rfl, hI.t10, hI.t11, hI.t12, hI.bw⟩⟩
        · rintro L a wx ⟨v15, v16, v17, v18, v19, v20, v21, v22, v23, v24, v25, v26, v10, rfl, hI⟩ hL hdep hcl K hK
          obtain rfl := hI.t7 (hdep 7 (by decide))
          refine (if_neg (by exact fun h => Bool.noConfusion (show false = true from h))).mpr ?_
          exact hK _ _ ⟨v15, v16, v17, v18, v19, v20, v21, _, v23, v24, _, v26, v10, rfl, ⟨hI.t0, hI.t1, hI.t2, hI.t3, hI.t4, hI.t5, hI.t6, hI.t7, hI.t8, hI.t9, fun _ => rfl, hI.t11, hI.t12, hI.bw⟩⟩
        · rintro L a wx ⟨v15, v16, v17, v18, v19, v20, v21, v22, v23, v24, v25, v26, v10, rfl, hI⟩ hL hdep hcl K hK
          obtain rfl := hI.t7 (hdep 7 (by decide))
          go_simp
          exact hK _ _ ⟨v15, v16, v17, v18, v19, v20, v21, _, v23, v24, v25, _, v10, rfl, ⟨hI.t0, hI.t1, hI.t2, hI.t3, hI.t4, hI.t5, hI.t6, hI.t7, hI.t8, hI.t9, hI.t10, fun _ => rfl, hI.t12, hI.bw⟩⟩
        · rintro L a wx ⟨v15, v16, v17, v18, v19, v20, v21, v22, v23, v24, v25, v26, v10, rfl, hI⟩ hL hdep hcl K hK
          obtain rfl := hI.t11 (hdep 11 (by decide))
          go_simp
          exact hK _ _ ⟨v15, v16, v17, v18, v19, v20, v21, v22, v23, v24, v25, _, _, rfl, ⟨hI.t0, hI.t1, hI.t2, hI.t3, hI.t4, hI.t5, hI.t6, hI.t7, hI.t8, hI.t9, hI.t10, hI.t11, fun _ => rfl, hI.bw⟩⟩
        · rintro a wx ⟨v15, v16, v17, v18, v19, v20, v21, v22, v23, v24, v25, v26, v10, rfl, hI⟩
          have hbw := hI.bw
          obtain rfl := hI.t12 rfl
          clear hI
          go_wp2_with fail
          go_ret
          exact ⟨rfl, HB.out.trans (hbw.mono HB.out.size)⟩
    · rw [decide_eq_false hn, Bool.false_and]
      have c1 : decide ((n : Int) ≤ 1048576) = false := by simp; omega
      go_enter Try.func19, Try.ntmps19
      go_upto_region 2 with (first
        | ((with_reducible show wpList _ _ _ (⟨some 7, .box _ _, _, _, _, _⟩ :: _) _ _); refine wl_box rfl 41 _ rfl (bvs d) rfl ?_; intro w1 hA1 hb1 hs1)
        | ((with_reducible show wpList _ _ _ (⟨some 8, .box _ _, _, _, _, _⟩ :: _) _ _); refine wl_box rfl 41 _ rfl (bvs r) rfl ?_; intro w2 hA2 hb2 hs2; have b02 : Below w.heap.size w w2 := hb1.trans (hb2.mono hb1.size)))
      go_simp
      obtain ⟨g7, hg7⟩ : ∃ g, g = w.heap.size := ⟨_, rfl⟩
      obtain ⟨g8, hg8⟩ : ∃ g, g = w1.heap.size := ⟨_, rfl⟩
      rw [← hg7, ← hg8]
      have A7 := hA1.kept hb2
      rw [← hg7] at A7
      have HA7 : Hid (∀ wx, Below w2.heap.size w2 wx → Arr wx g7 41 (bvs d)) := fun wx hb => A7.kept hb
      have HB := Lib.hid b02
      have Hd := Lib.hid hd
      have HSl := Lib.hid hSl
      clear hA1 hA2 hb1 hb2 hs1 hs2 b02 hg7 hg8 A7 hP hl hd hr hSl
      refine wp_region_steps [[], [0], [1], [2], [2], [2], [2, 5], [6], [7], [7], [7], [7, 10], [11]] (by kernel_rfl) (by kernel_rfl) (fun L a wx => ∃ v15 v16 v17 v18 v19 v20 v21 v22 v23 v24 v25 v26 v10, a = ⟨#[.int .u64 0, .int .u64 ↑n, .agg (bvs d).toArray, .agg (bvs r).toArray, .slice ad q c, undef, undef, .pointer (some ⟨g7, 0, none⟩), .pointer (some ⟨g8, 0, none⟩), undef, v10, undef, undef, .int .u64 0, .bool true, v15, v16, v17, v18, v19, v20, v21, v22, v23, v24, v25, v26, undef, undef, undef, undef, undef, undef, undef, undef, undef, undef, undef, undef, undef, undef, undef, undef, undef], []⟩ ∧ InvVerA d r S n q c ad g7 g8 w2 L v15 v16 v17 v18 v19 v20 v21 v22 v23 v24 v25 v26 v10 wx) ?_ ⟨?_, ?_, ?_, ?_, ?_, ?_, ?_, ?_, ?_, ?_, ?_, ?_, ?_, trivial⟩ ?_
      · refine ⟨_, _, _, _, _, _, _, _, _, _, _, _, _, rfl, ⟨?_, ?_, ?_, ?_, ?_, ?_, ?_, ?_, ?_, ?_, ?_, ?_, ?_, (Below.refl _ _).drew⟩⟩ <;> (intro h; exact absurd h (by decide))
      · rintro L a wx ⟨v15, v16, v17, v18, v19, v20, v21, v22, v23, v24, v25, v26, v10, rfl, hI⟩ hL hdep hcl K hK
        go_simp
        exact hK _ _ ⟨_, v16, v17, v18, v19, v20, v21, v22, v23, v24, v25, v26, v10, rfl, ⟨fun _ => rfl, hI.t1, hI.t2, hI.t3, hI.t4, hI.t5, hI.t6, hI.t7, hI.t8, hI.t9, hI.t10, hI.t11, hI.t12, hI.bw⟩⟩
      · rintro L a wx ⟨v15, v16, v17, v18, v19, v20, v21, v22, v23, v24, v25, v26, v10, rfl, hI⟩ hL hdep hcl K hK
        obtain rfl := hI.t0 (hdep 0 (by decide))
        go_simp
        exact hK _ _ ⟨_, _, v17, v18, v19, v20, v21, v22, v23, v24, v25, v26, v10, rfl, ⟨hI.t0, fun _ => rfl, hI.t2, hI.t3, hI.t4, hI.t5, hI.t6, hI.t7, hI.t8, hI.t9, hI.t10, hI.t11, hI.t12, hI.bw⟩⟩
      · rintro L a wx ⟨v15, v16, v17, v18, v19, v20, v21, v22, v23, v24, v25, v26, v10, rfl, hI⟩ hL hdep hcl K hK
        obtain rfl := hI.t1 (hdep 1 (by decide))
        go_simp
        exact hK _ _ ⟨v15, _, _, v18, v19, v20, v21, v22, v23, v24, v25, v26, v10, rfl, ⟨hI.t0, hI.t1, fun _ => rfl, hI.t3, hI.t4, hI.t5, hI.t6, hI.t7, hI.t8, hI.t9, hI.t10, hI.t11, hI.t12, hI.bw⟩⟩
      · rintro L a wx ⟨v15, v16, v17, v18, v19, v20, v21, v22, v23, v24, v25, v26, v10, rfl, hI⟩ hL hdep hcl K hK
        obtain rfl := hI.t2 (hdep 2 (by decide))
        refine (if_neg (by exact fun h => Bool.noConfusion (show false = true from h))).mpr ?_
        exact hK _ _ ⟨v15, v16, _, _, v19, v20, v21, v22, v23, v24, v25, v26, v10, rfl, ⟨hI.t0, hI.t1, hI.t2, fun _ => rfl, hI.t4, hI.t5, hI.t6, hI.t7, hI.t8, hI.t9, hI.t10, hI.t11, hI.t12, hI.bw⟩⟩
      · rintro L a wx ⟨v15, v16, v17, v18, v19, v20, v21, v22, v23, v24, v25, v26, v10, rfl, hI⟩ hL hdep hcl K hK
        obtain rfl := hI.t2 (hdep 2 (by decide))
        refine (if_neg (by exact fun h => Bool.noConfusion (show false = true from h))).mpr ?_
        exact hK _ _ ⟨v15, v16, _, v18, _, v20, v21, v22, v23, v24, v25, v26, v10, rfl, ⟨hI.t0, hI.t1, hI.t2, hI.t3, fun _ => rfl, hI.t5, hI.t6, hI.t7, hI.t8, hI.t9, hI.t10, hI.t11, hI.t12, hI.bw⟩⟩
      · rintro L a wx ⟨v15, v16, v17, v18, v19, v20, v21, v22, v23, v24, v25, v26, v10, rfl, hI⟩ hL hdep hcl K hK
        obtain rfl := hI.t2 (hdep 2 (by decide))
        refine (if_neg (by exact fun h => Bool.noConfusion (show false = true from h))).mpr ?_
        exact hK _ _ ⟨v15, v16, _, v18, v19, _, v21, v22, v23, v24, v25, v26, v10, rfl, ⟨hI.t0, hI.t1, hI.t2, hI.t3, hI.t4, fun _ => rfl, hI.t6, hI.t7, hI.t8, hI.t9, hI.t10, hI.t11, hI.t12, hI.bw⟩⟩
      · rintro L a wx ⟨v15, v16, v17, v18, v19, v20, v21, v22, v23, v24, v25, v26, v10, rfl, hI⟩ hL hdep hcl K hK
        obtain rfl := hI.t2 (hdep 2 (by decide))
        go_simp
        exact hK _ _ ⟨v15, v16, _, v18, v19, v20, _, v22, v23, v24, v25, v26, v10, rfl, ⟨hI.t0, hI.t1, hI.t2, hI.t3, hI.t4, hI.t5, fun _ => rfl, hI.t7, hI.t8, hI.t9, hI.t10, hI.t11, hI.t12, hI.bw⟩⟩
      · rintro L a wx ⟨v15, v16, v17, v18, v19, v20, v21, v22, v23, v24, v25, v26, v10, rfl, hI⟩ hL hdep hcl K hK
        obtain rfl := hI.t6 (hdep 6 (by decide))
        go_simp
        exact hK _ _ ⟨v15, v16, v17, v18, v19, v20, _, _, v23, v24, v25, v26, v10, rfl, ⟨hI.t0, hI.t1, hI.t2, hI.t3, hI.t4, hI.t5, hI.t6, fun _ => rfl, hI.t8, hI.t9, hI.t10, hI.t11, hI.t12, hI.bw⟩⟩
      · rintro L a wx ⟨v15, v16, v17, v18, v19, v20, v21, v22, v23, v24, v25, v26, v10, rfl, hI⟩ hL hdep hcl K hK
        obtain rfl := hI.t7 (hdep 7 (by decide))
        refine (if_neg (by exact fun h => Bool.noConfusion (show false = true from h))).mpr ?_
        exact hK _ _ ⟨v15, v16, v17, v18, v19, v20, v21, _, _, v24, v25, v26, v10, rfl, ⟨hI.t0, hI.t1, hI.t2, hI.t3, hI.t4, hI.t5, hI.t6, hI.t7, fun _ => rfl, hI.t9, hI.t10, hI.t11, hI.t12, hI.bw⟩⟩
      · rintro L a wx ⟨v15, v16, v17, v18, v19, v20, v21, v22, v23, v24, v25, v26, v10, rfl, hI⟩ hL hdep hcl K hK
        obtain rfl := hI.t7 (hdep 7 (by decide))
        refine (if_neg (by exact fun h => Bool.noConfusion (show false = true from h))).mpr ?_
        exact hK _ _ ⟨v15, v16, v17, v18, v19, v20, v21, _, v23, _, v25, v26, v10, rfl, ⟨hI.t0, hI.t1, hI.t2, hI.t3, hI.t4, hI.t5, hI.t6, hI.t7, hI.t8, fun _ => rfl, hI.t10, hI.t11, hI.t12, hI.bw⟩⟩
      · rintro L a wx ⟨v15, v16, v17, v18, v19, v20, v21, v22, v23, v24, v25, v26, v10, rfl, hI⟩ hL hdep hcl K hK
        obtain rfl := hI.t7 (hdep 7 (by decide))
        refine (if_neg (by exact fun h => Bool.noConfusion (show false = true from h))).mpr ?_
        exact hK _ _ ⟨v15, v16, v17, v18, v19, v20, v21, _, v23, v24, _, v26, v10, rfl, ⟨hI.t0, hI.t1, hI.t2, hI.t3, hI.t4, hI.t5, hI.t6, hI.t7, hI.t8, hI.t9, fun _ => rfl, hI.t11, hI.t12, hI.bw⟩⟩
      · rintro L a wx ⟨v15, v16, v17, v18, v19, v20, v21, v22, v23, v24, v25, v26, v10, rfl, hI⟩ hL hdep hcl K hK
        obtain rfl := hI.t7 (hdep 7 (by decide))
        go_simp
        exact hK _ _ ⟨v15, v16, v17, v18, v19, v20, v21, _, v23, v24, v25, _, v10, rfl, ⟨hI.t0, hI.t1, hI.t2, hI.t3, hI.t4, hI.t5, hI.t6, hI.t7, hI.t8, hI.t9, hI.t10, fun _ => rfl, hI.t12, hI.bw⟩⟩
      · rintro L a wx ⟨v15, v16, v17, v18, v19, v20, v21, v22, v23, v24, v25, v26, v10, rfl, hI⟩ hL hdep hcl K hK
        obtain rfl := hI.t11 (hdep 11 (by decide))
        go_simp
        exact hK _ _ ⟨v15, v16, v17, v18, v19, v20, v21, v22, v23, v24, v25, _, _, rfl, ⟨hI.t0, hI.t1, hI.t2, hI.t3, hI.t4, hI.t5, hI.t6, hI.t7, hI.t8, hI.t9, hI.t10, hI.t11, fun _ => rfl, hI.bw⟩⟩
      · rintro a wx ⟨v15, v16, v17, v18, v19, v20, v21, v22, v23, v24, v25, v26, v10, rfl, hI⟩
        have hbw := hI.bw
        obtain rfl := hI.t12 rfl
        clear hI
        go_wp2_with fail
        go_ret
        exact ⟨rfl, HB.out.trans (hbw.mono HB.out.size)⟩
  · have hv : vrC m n d r P = (okT m n q && (decide ((tdV m n d P).1 = d) && decide ((tdV m n d P).2 = r))) := by unfold vrC; rw [if_neg h0, hl]
    have c0 : ((m : Int) == 0) = false := by simp; omega
    rw [hv]
    clear hv h0
    have HT := Lib.hid (fun w' (hb : Below w.heap.size w w') => told_any m n d ad q c P w' hd (hP.to hb) hq50)
    obtain ⟨hx, hy⟩ := tdV_len hd m n hP.all
    obtain ⟨X, hX⟩ : ∃ X, X = (tdV m n d P).1 := ⟨_, rfl⟩
    obtain ⟨Y, hY⟩ : ∃ Y, Y = (tdV m n d P).2 := ⟨_, rfl⟩
    obtain ⟨E, hE⟩ : ∃ E, E = tdE m n q := ⟨_, rfl⟩
    rw [← hX, ← hY] at HT ⊢
    rw [← hE] at HT
    rw [← hX] at hx
    rw [← hY] at hy
    have h64 : Hid ((b2 X Y).length = 64) := b2_len hx hy
    have h64s : Hid ((Try.prog.info? 62).map (·.size) = some (b2 X Y).length) := by show _ = _; rw [h64.out]; exact sizeB
    have HE : Hid (okT m n q = decide (E = 0)) := by show _ = _; rw [hE]; unfold tdE; cases okT m n q <;> rfl
    have hcase : E = 0 ∨ E = 1 := by rw [hE]; unfold tdE; cases okT m n q <;> simp
    have HX := Lib.hid hx
    have HY := Lib.hid hy
    have Hd := Lib.hid hd
    have Hr := Lib.hid hr
    clear hX hY hE hx hy hP hd hr hl
    rcases hcase with rfl | rfl
    · rw [HE.out, decide_eq_true rfl, Bool.true_and]
      clear HE
      go_enter Try.func19, Try.ntmps19
      go_wp2_with (first
        | ((with_reducible show wpList _ _ _ (⟨some 7, .box _ _, _, _, _, _⟩ :: _) _ _); refine wl_box rfl 41 _ rfl (bvs d) rfl ?_; intro w1 hA1 hb1 hs1)
        | ((with_reducible show wpList _ _ _ (⟨some 8, .box _ _, _, _, _, _⟩ :: _) _ _); refine wl_box rfl 41 _ rfl (bvs r) rfl ?_; intro w2 hA2 hb2 hs2; have b02 : Below w.heap.size w w2 := hb1.trans (hb2.mono hb1.size))
        | ((with_reducible show wpList _ _ _ (⟨some 30, .load _ _, _, _, _, _⟩ :: _) _ _); refine wl_load rfl 41 _ rfl w.heap.size 0 rfl 41 (bvs d) (bvs d) (hA1.kept hb2) (fun j v h => (by rw [Nat.zero_add]; exact h)) (.array 32 5) Try.underlying41 rfl h32d.out ?_)
        | (go_at_call 27; refine (HT.out w2 b02).mono ?_; rintro e w3 ⟨rfl, hb3⟩)
        | ((with_reducible show wpList _ _ _ (⟨some 11, .alloc _, _, _, _, _⟩ :: _) _ _); refine wl_alloc rfl 62 rfl (b2 (Z8 32) (Z8 32)) 64 infoB ?_; intro w4 hA4 hb4 hs4)
        | ((with_reducible show wpList _ _ _ (⟨none, .store _ _ _, _, _, _, _⟩ :: _) _ _); refine wl_store rfl 62 _ _ rfl w3.heap.size 0 rfl (b2 X Y) rfl 62 _ hA4 h64s.out (by rw [h64.out]; exact (by decide : 0 + 64 ≤ (b2 (Z8 32) (Z8 32)).length)) (b2_one _ _) ?_; intro w5 hA5 hg5 hs5; rw [whole_store _ _ (by rw [h64.out]; rfl)] at hA5; have A8 := ((hA2.kept hb3).kept hb4).grown hg5 (by intro e; injection e with e; have := hA2.lt; have := hb3.size; omega); have A7 := (((hA1.kept hb2).kept hb3).kept hb4).grown hg5 (by intro e; injection e with e; have := hA1.lt; have := hb2.size; have := hb3.size; omega))
        | ((with_reducible show wpList _ _ _ (⟨some 38, .load _ _, _, _, _, _⟩ :: _) _ _); refine wl_loadG rfl 62 _ rfl w3.heap.size 0 rfl 62 (b2 X Y) (b2 X Y) hA5 (fun j v h => (by rw [Nat.zero_add]; exact h)) (.array 2 41) Try.underlying62 rfl h64s.out ?_)
        | ((with_reducible show wpList _ _ _ (⟨some 39, .load _ _, _, _, _, _⟩ :: _) _ _); refine wl_loadG rfl 41 _ rfl w.heap.size 0 rfl 41 (bvs d) (bvs d) A7 (fun j v h => (by rw [Nat.zero_add]; exact h)) (.array 32 5) Try.underlying41 rfl h32d.out ?_)
        | ((with_reducible show wpList _ _ _ (⟨some 40, .load _ _, _, _, _, _⟩ :: _) _ _); refine wl_loadG rfl 41 _ rfl w1.heap.size 0 rfl 41 (bvs r) (bvs r) A8 (fun j v h => (by rw [Nat.zero_add]; exact h)) (.array 32 5) Try.underlying41 rfl h32r.out ?_)
        | ((with_reducible show wpList _ _ _ (⟨some 41, .build _ _, _, _, _, _⟩ :: _) _ _); refine wl_buildBG rfl 39 40 rfl d r rfl rfl Hd.out Hr.out ?_)
        | ((with_reducible show wpList _ _ _ (⟨some 42, .binOp _ _ _ _ _, _, _, _, _⟩ :: _) _ _); refine wl_eqB rfl _ _ _ rfl X Y d r HX.out HY.out Hd.out Hr.out rfl rfl ?_))
      go_ret
      refine ⟨rfl, ?_⟩
      have z1 := b02.size
      have z3 := hb3.size
      have z4 := hb4.size
      exact ((b02.trans (hb3.mono z1)).trans (hb4.mono (by omega))).grown hg5 (by omega) (by intro k e; injection e with e; omega)
    · rw [HE.out, decide_eq_false (by decide), Bool.false_and]
      clear HE
      go_enter Try.func19, Try.ntmps19
      go_wp2_with (first
        | ((with_reducible show wpList _ _ _ (⟨some 7, .box _ _, _, _, _, _⟩ :: _) _ _); refine wl_box rfl 41 _ rfl (bvs d) rfl ?_; intro w1 hA1 hb1 hs1)
        | ((with_reducible show wpList _ _ _ (⟨some 8, .box _ _, _, _, _, _⟩ :: _) _ _); refine wl_box rfl 41 _ rfl (bvs r) rfl ?_; intro w2 hA2 hb2 hs2; have b02 : Below w.heap.size w w2 := hb1.trans (hb2.mono hb1.size))
        | ((with_reducible show wpList _ _ _ (⟨some 30, .load _ _, _, _, _, _⟩ :: _) _ _); refine wl_load rfl 41 _ rfl w.heap.size 0 rfl 41 (bvs d) (bvs d) (hA1.kept hb2) (fun j v h => (by rw [Nat.zero_add]; exact h)) (.array 32 5) Try.underlying41 rfl h32d.out ?_)
        | (go_at_call 27; refine (HT.out w2 b02).mono ?_; rintro e w3 ⟨rfl, hb3⟩)
        | ((with_reducible show wpList _ _ _ (⟨some 11, .alloc _, _, _, _, _⟩ :: _) _ _); refine wl_alloc rfl 62 rfl (b2 (Z8 32) (Z8 32)) 64 infoB ?_; intro w4 hA4 hb4 hs4)
        | ((with_reducible show wpList _ _ _ (⟨none, .store _ _ _, _, _, _, _⟩ :: _) _ _); refine wl_store rfl 62 _ _ rfl w3.heap.size 0 rfl (b2 X Y) rfl 62 _ hA4 h64s.out (by rw [h64.out]; exact (by decide : 0 + 64 ≤ (b2 (Z8 32) (Z8 32)).length)) (b2_one _ _) ?_; intro w5 hA5 hg5 hs5; rw [whole_store _ _ (by rw [h64.out]; rfl)] at hA5; have A8 := ((hA2.kept hb3).kept hb4).grown hg5 (by intro e; injection e with e; have := hA2.lt; have := hb3.size; omega); have A7 := (((hA1.kept hb2).kept hb3).kept hb4).grown hg5 (by intro e; injection e with e; have := hA1.lt; have := hb2.size; have := hb3.size; omega)))
      go_ret
      refine ⟨rfl, ?_⟩
      have z1 := b02.size
      have z3 := hb3.size
      have z4 := hb4.size
      exact ((b02.trans (hb3.mono z1)).trans (hb4.mono (by omega))).grown hg5 (by omega) (by intro k e; injection e with e; omega)
end Go.Proofs.Ytcnnblhjgligbaa
