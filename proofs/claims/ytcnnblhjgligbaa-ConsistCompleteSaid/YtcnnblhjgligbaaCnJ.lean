/-
  Layer 11: what the document's proofs tell. Conditions: those in each statement.
-/
import Derived.Test.YtcnnblhjgligbaaCnI
namespace Go.Proofs.Ytcnnblhjgligbaa
open Go.RowKit

theorem wt_len_s : ∀ (N m n s t : Nat) (b : Bool), n ≤ N → 1 ≤ m → m ≤ n → (wtF m n s b).length = (wtF m n t b).length := by
  intro N
  induction N using Nat.strongRecOn with
  | _ N ih =>
    intro m n s t b hN h1 h2
    by_cases h : m = n
    · subst h
      rw [wtF_all _ _ _ h1, wtF_all _ _ _ h1]
      cases b <;> rfl
    · obtain ⟨b1, b2, b3⟩ := splK_bounds (n := n) (by omega)
      by_cases hk : m ≤ splK n
      · rw [wtF_low _ _ _ _ h1 (by omega) hk, wtF_low _ _ _ _ h1 (by omega) hk, List.length_append, List.length_append, ih (splK n) (by omega) m (splK n) s t b (Nat.le_refl _) h1 hk]
        rfl
      · rw [wtF_high _ _ _ _ (by omega) hk, wtF_high _ _ _ _ (by omega) hk, List.length_append, List.length_append, ih (n - splK n) (by omega) (m - splK n) (n - splK n) (s + splK n) (t + splK n) false (Nat.le_refl _) (by omega) (by omega)]
        rfl
/-- the end: two results that lie in blocks -/
theorem end_cells {P : Program} {fn : Func} {R : Ending → World → Prop} {a : Act} {w : World} {p p2 : Tmp} {ty : TypeId} (h : fn.results = #[.cell p ty, .cell p2 ty]) (g g2 : Nat) (T : TypeId) (xs ys : List Value) (d : TypeDesc)
    (hp : a.tmps.getD p undef = .pointer (some ⟨g, 0, none⟩)) (hA : Arr w g T xs) (hp2 : a.tmps.getD p2 undef = .pointer (some ⟨g2, 0, none⟩)) (hA2 : Arr w g2 T ys) (hu : P.underlying ty = some d) (hd : (match d with | .struct _ | .array _ _ => true | _ => false) = true) (hi : (P.info? ty).map (·.size) = some xs.length) (hi2 : (P.info? ty).map (·.size) = some ys.length)
    (hdf : a.defers = []) (hR : R (.returned (.tuple #[.agg xs.toArray, .agg ys.toArray])) w) : bodyPost P fn R .ret a w := by
  have hr : (results fn a.tmps).run P w = .ok (.tuple #[.agg xs.toArray, .agg ys.toArray]) w := by
    have hp' : a.tmps[p]?.getD undef = .pointer (some ⟨g, 0, none⟩) := by simpa using hp
    have hp2' : a.tmps[p2]?.getD undef = .pointer (some ⟨g2, 0, none⟩) := by simpa using hp2
    have hl := run_loadVar_row (P := P) w g T ty xs.toArray (0, 0) d hA hu hd (by simpa using hi)
    have hl2 := run_loadVar_row (P := P) w g2 T ty ys.toArray (0, 0) d hA2 hu hd (by simpa using hi2)
    simp [results, h, hp', hp2', asAddr, hl, hl2]
  exact bodyPost_ret hr hdf hR
/-- a new block that holds a hash, at a place that a slot holds -/
def PtrIs (W0 wx : World) (v : Value) (xs : List UInt8) : Prop := ∃ g, v = .pointer (some ⟨g, 0, none⟩) ∧ W0.heap.size ≤ g ∧ Arr wx g 41 (bvs xs)
theorem PtrIs.to {W0 wx w' : World} {v : Value} {xs : List UInt8} (h : PtrIs W0 wx v xs) (hb : Below wx.heap.size wx w') : PtrIs W0 w' v xs := by
  obtain ⟨g, e, h1, h2⟩ := h
  exact ⟨g, e, h1, h2.kept hb⟩
theorem PtrIs.grown {W0 wx w' : World} {v : Value} {xs : List UInt8} {g : Nat} (h : PtrIs W0 wx v xs) (hg : wx.grownBy w' (some g)) (hne : v ≠ .pointer (some ⟨g, 0, none⟩)) : PtrIs W0 w' v xs := by
  obtain ⟨q, e, h1, h2⟩ := h
  refine ⟨q, e, h1, h2.grown hg fun h => ?_⟩
  injection h with h
  exact hne (by rw [e, h])
def LtIs (wx : World) (v : Value) : Prop := ∃ g, v = .pointer (some ⟨g, 0, none⟩) ∧ g < wx.heap.size
theorem LtIs.to {wx w' : World} {v : Value} (h : LtIs wx v) (hs : wx.heap.size ≤ w'.heap.size) : LtIs w' v := by
  obtain ⟨g, e, h1⟩ := h
  exact ⟨g, e, Nat.lt_of_lt_of_le h1 hs⟩
theorem LtIs.ne {wx : World} {v : Value} (h : LtIs wx v) : Value.pointer (some ⟨wx.heap.size, 0, none⟩) ≠ v := by
  obtain ⟨g, e, h1⟩ := h
  rw [e]
  intro h
  injection h with h
  injection h with h
  injection h with h
  omega
section
variable {P : Program} {o : Oper} {a : Act} {K : Act → World → Prop} {Q : Exit → Act → World → Prop} {w : World}
theorem ow_load_mid (ty : TypeId) (x : Operand) (ho : o.op = .load ty x) (b off : Nat) (hx : a.eval x = .pointer (some ⟨b, off, none⟩)) (ys : List Value) (d : TypeDesc) (hr : w.rangeAt b off ys) (hu : P.underlying ty = some d) (hd : d.isRow = true) (hi : (P.info? ty).map (·.size) = some ys.length)
    (hK : K (a.put o.dst (.agg ys.toArray)) w) : o.wp P a w K Q :=
  wp_load_mid ty x ho b off hx ys d hr hu hd hi hK
end
structure InvHd3 (d : List UInt8) (m c qq : Nat) (ad : Option Addr) (g7 g10 g11 : Nat) (W0 : World) (L : Nat → Bool) (v23 v24 : Value) (wx : World) : Prop where
  t0 : L 0 = true → v23 = .agg (bvs d).toArray
  t1 : L 1 = true → v24 = .agg (bvs d).toArray
  kb : KB (fun k => k = g10 ∨ k = g11) W0 wx
  ap0 : L 2 = false → Arr wx g10 41 (bvs (Z8 32))
  ap1 : L 2 = true → Arr wx g10 41 (bvs d)
  aq0 : L 3 = false → Arr wx g11 41 (bvs (Z8 32))
  aq1 : L 3 = true → Arr wx g11 41 (bvs d)
structure InvHd4 (d y : List UInt8) (m c : Nat) (pb po : Nat) (g7 g10 g11 : Nat) (W0 : World) (L : Nat → Bool) (v25 v26 v27 v28 v29 v30 : Value) (wx : World) : Prop where
  t0 : L 0 = true → v25 = .slice (some ⟨pb, po, none⟩) 1 c
  t1 : L 1 = true → v26 = .pointer (some ⟨pb, po, none⟩)
  t2 : L 2 = true → v27 = .agg (bvs y).toArray
  t3 : L 3 = true → v28 = .slice (some ⟨pb, po, none⟩) 1 c
  t4 : L 4 = true → v29 = .pointer (some ⟨pb, po, none⟩)
  t5 : L 5 = true → v30 = .agg (bvs y).toArray
  kb : KB (fun k => k = g10 ∨ k = g11) W0 wx
  ap0 : L 6 = false → Arr wx g10 41 (bvs (Z8 32))
  ap1 : L 6 = true → Arr wx g10 41 (bvs y)
  aq0 : L 7 = false → Arr wx g11 41 (bvs (Z8 32))
  aq1 : L 7 = true → Arr wx g11 41 (bvs y)
structure InvHd9 (d y X0 X1 S0 S1 : List UInt8) (b : Bool) (m n k q c pb po : Nat) (g7 g10 g11 g14 g15 g16 : Nat) (W0 : World) (L : Nat → Bool) (v58 v59 v60 v61 : Value) (wx : World) : Prop where
  t0 : L 0 = true → v58 = .agg (bvs X0).toArray
  t1 : L 1 = true → v59 = .agg (bvs X1).toArray
  t2 : L 2 = true → v60 = .agg (bvs y).toArray
  t3 : L 3 = true → v61 = .agg (bvs S1).toArray
  kb : KB (fun k => k = g10 ∨ k = g11) W0 wx
  ap0 : L 4 = false → Arr wx g10 41 (bvs (Z8 32))
  ap1 : L 4 = true → Arr wx g10 41 (bvs X0)
  aq0 : L 5 = false → Arr wx g11 41 (bvs (Z8 32))
  aq1 : L 5 = true → Arr wx g11 41 (bvs S1)
structure InvHd8 (d y X0 X1 : List UInt8) (b : Bool) (m n k q c pb po : Nat) (g7 g10 g11 g14 : Nat) (W0 : World) (L : Nat → Bool) (v46 v47 v48 v49 v50 v51 v52 v53 v54 v55 v45 v56 v57 v15 v16 : Value) (wx : World) : Prop where
  t0 : L 0 = true → v46 = .int .u64 ↑m
  t1 : L 1 = true → v47 = .int .u64 ↑k
  t2 : L 2 = true → v48 = .agg (bvs d).toArray
  t3 : L 3 = true → v49 = .slice (some ⟨pb, po, none⟩) (q + 1) c
  t4 : L 4 = true → v50 = .slice (some ⟨pb, po, none⟩) (q + 1) c
  t5 : L 5 = true → v51 = .int .i64 ((q : Int) + 1)
  t6 : L 6 = true → v52 = .int .i64 (q : Int)
  t7 : L 7 = true → v53 = .slice (some ⟨pb, po, none⟩) q c
  t8 : L 8 = true → v54 = .bool b
  t9 : L 9 = true → v55 = .tuple #[.agg (bvs X0).toArray, .agg (bvs X1).toArray]
  t10 : L 10 = true → v45 = .tuple #[.agg (bvs X0).toArray, .agg (bvs X1).toArray]
  t11 : L 11 = true → v56 = .agg (bvs X0).toArray
  t12 : L 12 = true → v57 = .agg (bvs X1).toArray
  t13 : L 13 = true → True
  t14 : L 14 = true → True
  bw : Below W0.heap.size W0 wx
  p0 : L 13 = true → L 15 = false → PtrIs W0 wx v15 (Z8 32)
  q0 : L 15 = true → PtrIs W0 wx v15 X0
  p1 : L 14 = true → L 16 = false → PtrIs W0 wx v16 (Z8 32)
  q1 : L 16 = true → PtrIs W0 wx v16 X1
  m0 : L 13 = true → LtIs wx v15
  m1 : L 14 = true → LtIs wx v16
  df : L 13 = true → L 14 = true → v15 ≠ v16
structure InvHd11 (d y X0 X1 S0 S1 : List UInt8) (b : Bool) (m n k q c pb po : Nat) (g7 g10 g11 g14 g15 g16 : Nat) (W0 : World) (L : Nat → Bool) (v78 v79 v80 v81 v82 v83 : Value) (wx : World) : Prop where
  t0 : L 0 = true → v78 = .agg (bvs y).toArray
  t1 : L 1 = true → v79 = .agg (bvs X0).toArray
  t2 : L 2 = true → v80 = .agg (bvs S0).toArray
  t3 : L 3 = true → v81 = .agg (bvs y).toArray
  t4 : L 4 = true → v82 = .agg (bvs X1).toArray
  t5 : L 5 = true → v83 = .agg (bvs S1).toArray
  kb : KB (fun k => k = g10 ∨ k = g11) W0 wx
  ap0 : L 6 = false → Arr wx g10 41 (bvs (Z8 32))
  ap1 : L 6 = true → Arr wx g10 41 (bvs S0)
  aq0 : L 7 = false → Arr wx g11 41 (bvs (Z8 32))
  aq1 : L 7 = true → Arr wx g11 41 (bvs S1)
structure InvHd10 (d y X0 X1 : List UInt8) (b : Bool) (m n k q c pb po : Nat) (g7 g10 g11 g14 : Nat) (W0 : World) (L : Nat → Bool) (v63 v64 v65 v66 v67 v68 v69 v70 v71 v72 v73 v74 v75 v62 v76 v77 v17 v18 : Value) (wx : World) : Prop where
  t0 : L 0 = true → v63 = .int .u64 ↑m
  t1 : L 1 = true → v64 = .int .u64 ↑k
  t2 : L 2 = true → v65 = .int .u64 ((m : Int) - (k : Int))
  t3 : L 3 = true → v66 = .int .u64 ↑n
  t4 : L 4 = true → v67 = .int .u64 ↑k
  t5 : L 5 = true → v68 = .int .u64 ((n : Int) - (k : Int))
  t6 : L 6 = true → v69 = .agg (bvs d).toArray
  t7 : L 7 = true → v70 = .slice (some ⟨pb, po, none⟩) (q + 1) c
  t8 : L 8 = true → v71 = .slice (some ⟨pb, po, none⟩) (q + 1) c
  t9 : L 9 = true → v72 = .int .i64 ((q : Int) + 1)
  t10 : L 10 = true → v73 = .int .i64 (q : Int)
  t11 : L 11 = true → v74 = .slice (some ⟨pb, po, none⟩) q c
  t12 : L 12 = true → v75 = .tuple #[.agg (bvs X0).toArray, .agg (bvs X1).toArray]
  t13 : L 13 = true → v62 = .tuple #[.agg (bvs X0).toArray, .agg (bvs X1).toArray]
  t14 : L 14 = true → v76 = .agg (bvs X0).toArray
  t15 : L 15 = true → v77 = .agg (bvs X1).toArray
  t16 : L 16 = true → True
  t17 : L 17 = true → True
  bw : Below W0.heap.size W0 wx
  p0 : L 16 = true → L 18 = false → PtrIs W0 wx v17 (Z8 32)
  q0 : L 18 = true → PtrIs W0 wx v17 X0
  p1 : L 17 = true → L 19 = false → PtrIs W0 wx v18 (Z8 32)
  q1 : L 19 = true → PtrIs W0 wx v18 X1
  m0 : L 16 = true → LtIs wx v17
  m1 : L 17 = true → LtIs wx v18
  df : L 16 = true → L 17 = true → v17 ≠ v18
set_option maxRecDepth 100000 in
set_option maxHeartbeats 12800000 in
theorem rheads_any (d : List UInt8) (hd : d.length = 32) : ∀ (N m n : Nat) (b : Bool), n ≤ N → 1 ≤ m → m ≤ n → n ≤ 1048576 → ∀ (ad : Option Addr) (qq c : Nat) (P : List (List UInt8)) (w : World), RdD w ad qq c P → qq = (wtF m n 0 b).length →
    Calls Try.prog 28 #[.int .u64 (m : Int), .int .u64 (n : Int), .agg (bvs d).toArray, .slice ad qq c, .bool b] w fun e w' => e = .returned (.tuple #[.agg (bvs (hdF m n d P b).1).toArray, .agg (bvs (hdF m n d P b).2).toArray]) ∧ Below w.heap.size w w' := by
  have h32d : Hid ((Try.prog.info? 41).map (·.size) = some (bvs d).length) := by show _ = _; rw [bvs_len, hd]; exact sizeD
  have hd32 : Hid ((bvs d).length = 32) := by show _ = _; rw [bvs_len]; exact hd
  intro N
  induction N using Nat.strongRecOn with
  | _ N ih =>
    intro m n b hN h1 hmn h20 ad qq c P w hP hqq
    have hlP := hP.len
    by_cases hmn2 : m = n
    · subst hmn2
      rw [hdF_all _ _ _ _ h1]
      rw [wtF_all _ _ _ h1] at hqq
      cases b with
      | true =>
        simp only [if_true]
        clear ih hN hP hqq hlP h20 h1 hmn
        go_enter Try.func28, Try.ntmps28
        go_upto_region 3 with (first
          | ((with_reducible show wpList _ _ _ (⟨some 7, .box _ _, _, _, _, _⟩ :: _) _ _); refine wl_box rfl 41 _ rfl (bvs d) rfl ?_; intro w1 hA1 hb1 hs1)
          | ((with_reducible show wpList _ _ _ (⟨some 10, .alloc _, _, _, _, _⟩ :: _) _ _); refine wl_alloc rfl 41 rfl (bvs (Z8 32)) 32 infoD ?_; intro w2 hA2 hb2 hs2)
          | ((with_reducible show wpList _ _ _ (⟨some 11, .alloc _, _, _, _, _⟩ :: _) _ _); refine wl_alloc rfl 41 rfl (bvs (Z8 32)) 32 infoD ?_; intro w3 hA3 hb3 hs3; have b03 : Below w.heap.size w w3 := (hb1.trans (hb2.mono hb1.size)).trans (hb3.mono (by have := hb1.size; have := hb2.size; omega))))
        have z1 := hb1.size
        have z2 := hb2.size
        have z3 := hb3.size
        have HA := (hA1.kept hb2).kept hb3
        have hAP := hA2.kept hb3
        have hAQ := hA3
        have l1 := HA.lt
        have n1 : ¬ (w.heap.size = w1.heap.size ∨ w.heap.size = w2.heap.size) := by omega
        have n2 : w1.heap.size ≠ w2.heap.size := by omega
        have n3 : w.heap.size ≤ w1.heap.size ∧ w.heap.size ≤ w2.heap.size := by omega
        have hz := b03.size
        go_simp
        obtain ⟨g10, hg10⟩ : ∃ g, g = w1.heap.size := ⟨_, rfl⟩
        obtain ⟨g11, hg11⟩ : ∃ g, g = w2.heap.size := ⟨_, rfl⟩
        obtain ⟨g7, hg7⟩ : ∃ g, g = w.heap.size := ⟨_, rfl⟩
        rw [← hg10, ← hg11, ← hg7]
        rw [← hg7] at HA l1 n1
        rw [← hg10] at hAP n1 n2 n3
        rw [← hg11] at hAQ n1 n2 n3
        have HPQ := Lib.hid n2
        have HNE := Lib.hid n1
        have HLT := Lib.hid l1
        have HA' := Lib.hid HA
        have HB := Lib.hid b03
        have HN := Lib.hid n3
        have HZ := Lib.hid hz
        clear hA1 hA2 hA3 hb1 hb2 hb3 hs1 hs2 hs3 b03 z1 z2 z3 hg7 hg10 hg11 l1 n1 n2 n3 hz HA
        refine wp_region_steps [[], [], [0], [1]] (by kernel_rfl) (by kernel_rfl) (fun L a wx => ∃ v23 v24, a = ⟨#[.int .u64 ↑m, .int .u64 ↑m, .agg (bvs d).toArray, .slice ad qq c, .bool true, undef, undef, .pointer (some ⟨g7, 0, none⟩), undef, undef, .pointer (some ⟨g10, 0, none⟩), .pointer (some ⟨g11, 0, none⟩), undef, undef, undef, undef, undef, undef, undef, .int .u64 ↑m, .int .u64 ↑m, .bool true, .bool true, v23, v24, undef, undef, undef, undef, undef, undef, undef, undef, undef, undef, undef, undef, undef, undef, undef, undef, undef, undef, undef, undef, undef, undef, undef, undef, undef, undef, undef, undef, undef, undef, undef, undef, undef, undef, undef, undef, undef, undef, undef, undef, undef, undef, undef, undef, undef, undef, undef, undef, undef, undef, undef, undef, undef, undef, undef, undef, undef, undef, undef], []⟩ ∧ InvHd3 d m c qq ad g7 g10 g11 w3 L v23 v24 wx) ?_ ⟨?_, ?_, ?_, ?_, trivial⟩ ?_
        · refine ⟨_, _, rfl, ⟨?_, ?_, (KB.refl _ _).below (Below.refl _ _).drew, fun _ => hAP.drew, fun h => absurd h (by decide), fun _ => hAQ.drew, fun h => absurd h (by decide)⟩⟩ <;> (intro h; exact absurd h (by decide))
        · rintro L a wx ⟨v23, v24, rfl, hI⟩ hL hdep hcl K hK
          refine ow_load 41 _ rfl g7 0 rfl 41 (bvs d) (bvs d) ((hI.kb.block g7 HLT.out HNE.out).trans HA'.out) (fun j v h => by rw [Nat.zero_add]; exact h) (.array 32 5) Try.underlying41 rfl h32d.out ?_
          exact hK _ _ ⟨_, v24, rfl, ⟨fun _ => rfl, hI.t1, hI.kb, hI.ap0, hI.ap1, hI.aq0, hI.aq1⟩⟩
        · rintro L a wx ⟨v23, v24, rfl, hI⟩ hL hdep hcl K hK
          refine ow_load 41 _ rfl g7 0 rfl 41 (bvs d) (bvs d) ((hI.kb.block g7 HLT.out HNE.out).trans HA'.out) (fun j v h => by rw [Nat.zero_add]; exact h) (.array 32 5) Try.underlying41 rfl h32d.out ?_
          exact hK _ _ ⟨v23, _, rfl, ⟨hI.t0, fun _ => rfl, hI.kb, hI.ap0, hI.ap1, hI.aq0, hI.aq1⟩⟩
        · rintro L a wx ⟨v23, v24, rfl, hI⟩ hL hdep hcl K hK
          obtain rfl := hI.t0 (hdep 0 (by decide))
          refine ow_store 41 _ _ rfl g10 0 rfl (bvs d) rfl 41 _ (hI.ap0 hL) h32d.out (by rw [hd32.out]; exact (by decide : 0 + 32 ≤ (bvs (Z8 32)).length)) (bvs_one _) ?_
          intro w' hA' hg' hs'
          rw [whole_store _ _ (by rw [hd32.out]; rfl)] at hA'
          exact hK _ _ ⟨_, v24, rfl, ⟨hI.t0, hI.t1, hI.kb.grown hg' (.inl rfl), fun h => (nomatch (show true = false from h)), fun _ => hA', fun h => (hI.aq0 h).grown hg' (by intro e; injection e with e; exact HPQ.out e.symm), fun h => (hI.aq1 h).grown hg' (by intro e; injection e with e; exact HPQ.out e.symm)⟩⟩
        · rintro L a wx ⟨v23, v24, rfl, hI⟩ hL hdep hcl K hK
          obtain rfl := hI.t1 (hdep 1 (by decide))
          refine ow_store 41 _ _ rfl g11 0 rfl (bvs d) rfl 41 _ (hI.aq0 hL) h32d.out (by rw [hd32.out]; exact (by decide : 0 + 32 ≤ (bvs (Z8 32)).length)) (bvs_one _) ?_
          intro w' hA' hg' hs'
          rw [whole_store _ _ (by rw [hd32.out]; rfl)] at hA'
          exact hK _ _ ⟨v23, _, rfl, ⟨hI.t0, hI.t1, hI.kb.grown hg' (.inr rfl), fun h => (hI.ap0 h).grown hg' (by intro e; injection e with e; exact HPQ.out e), fun h => (hI.ap1 h).grown hg' (by intro e; injection e with e; exact HPQ.out e), fun h => (nomatch (show true = false from h)), fun _ => hA'⟩⟩
        · rintro a wx ⟨v23, v24, rfl, hI⟩
          have hP1 := hI.ap1 rfl
          have hQ1 := hI.aq1 rfl
          have hkb := hI.kb
          clear hI
          go_wp2_with fail
          refine end_cells rfl g10 g11 41 (bvs d) (bvs d) (.array 32 5) rfl hP1 rfl hQ1 Try.underlying41 rfl h32d.out h32d.out rfl ⟨rfl, ?_⟩
          have n3 := HN.out
          exact HB.out.trans (hkb.under (fun k h => by rcases h with h | h <;> omega) HZ.out)
      | false =>
        rw [if_neg (by decide)]
        obtain rfl : qq = 1 := by simpa using hqq
        obtain ⟨pb, po, rfl, hpbl, -⟩ := hP.mem (by omega)
        have hPr := hP.range 0 (by omega)
        have hyl := hP.all 0 (by omega)
        rw [Nat.zero_mul, Nat.add_zero] at hPr
        have hle := hP.le
        have hc1 : (1 : Int) ≤ (c : Int) := by omega
        generalize P.getD 0 [] = y at *
        have h32y : Hid ((Try.prog.info? 41).map (·.size) = some (bvs y).length) := by show _ = _; rw [bvs_len, hyl]; exact sizeD
        have hy32 : Hid ((bvs y).length = 32) := by show _ = _; rw [bvs_len]; exact hyl
        clear ih hN hP hqq hlP h20 h1 hyl hmn
        go_enter Try.func28, Try.ntmps28
        go_upto_region 4 with (first
          | ((with_reducible show wpList _ _ _ (⟨some 7, .box _ _, _, _, _, _⟩ :: _) _ _); refine wl_box rfl 41 _ rfl (bvs d) rfl ?_; intro w1 hA1 hb1 hs1)
          | ((with_reducible show wpList _ _ _ (⟨some 10, .alloc _, _, _, _, _⟩ :: _) _ _); refine wl_alloc rfl 41 rfl (bvs (Z8 32)) 32 infoD ?_; intro w2 hA2 hb2 hs2)
          | ((with_reducible show wpList _ _ _ (⟨some 11, .alloc _, _, _, _, _⟩ :: _) _ _); refine wl_alloc rfl 41 rfl (bvs (Z8 32)) 32 infoD ?_; intro w3 hA3 hb3 hs3; have b03 : Below w.heap.size w w3 := (hb1.trans (hb2.mono hb1.size)).trans (hb3.mono (by have := hb1.size; have := hb2.size; omega))))
        have z1 := hb1.size
        have z2 := hb2.size
        have z3 := hb3.size
        have HA := (hA1.kept hb2).kept hb3
        have hAP := hA2.kept hb3
        have hAQ := hA3
        have l1 := HA.lt
        have n1 : ¬ (w.heap.size = w1.heap.size ∨ w.heap.size = w2.heap.size) := by omega
        have n2 : w1.heap.size ≠ w2.heap.size := by omega
        have n3 : w.heap.size ≤ w1.heap.size ∧ w.heap.size ≤ w2.heap.size := by omega
        have hz := b03.size
        have PR : w3.rangeAt pb po (bvs y) := fun j v hj => (b03.cell (p := ⟨pb, po + j, none⟩) hpbl).trans (hPr j v hj)
        have l4 : pb < w3.heap.size := Nat.lt_of_lt_of_le hpbl hz
        have n4 : ¬ (pb = w1.heap.size ∨ pb = w2.heap.size) := by omega
        clear hPr hpbl
        go_simp
        obtain ⟨g10, hg10⟩ : ∃ g, g = w1.heap.size := ⟨_, rfl⟩
        obtain ⟨g11, hg11⟩ : ∃ g, g = w2.heap.size := ⟨_, rfl⟩
        obtain ⟨g7, hg7⟩ : ∃ g, g = w.heap.size := ⟨_, rfl⟩
        rw [← hg10, ← hg11, ← hg7]
        rw [← hg7] at HA l1 n1
        rw [← hg10] at hAP n1 n2 n3 n4
        rw [← hg11] at hAQ n1 n2 n3 n4
        have HPQ := Lib.hid n2
        have HNE := Lib.hid n1
        have HLT := Lib.hid l1
        have HA' := Lib.hid HA
        have HB := Lib.hid b03
        have HN := Lib.hid n3
        have HZ := Lib.hid hz
        have HPR := Lib.hid PR
        have HL4 := Lib.hid l4
        have HN4 := Lib.hid n4
        clear hA1 hA2 hA3 hb1 hb2 hb3 hs1 hs2 hs3 b03 z1 z2 z3 hg7 hg10 hg11 l1 n1 n2 n3 hz HA PR l4 n4
        refine wp_region_steps [[], [0], [1], [], [3], [4], [2], [5]] (by kernel_rfl) (by kernel_rfl) (fun L a wx => ∃ v25 v26 v27 v28 v29 v30, a = ⟨#[.int .u64 ↑m, .int .u64 ↑m, .agg (bvs d).toArray, .slice (some ⟨pb, po, none⟩) 1 c, .bool false, undef, undef, .pointer (some ⟨g7, 0, none⟩), undef, undef, .pointer (some ⟨g10, 0, none⟩), .pointer (some ⟨g11, 0, none⟩), undef, undef, undef, undef, undef, undef, undef, .int .u64 ↑m, .int .u64 ↑m, .bool true, .bool false, undef, undef, v25, v26, v27, v28, v29, v30, undef, undef, undef, undef, undef, undef, undef, undef, undef, undef, undef, undef, undef, undef, undef, undef, undef, undef, undef, undef, undef, undef, undef, undef, undef, undef, undef, undef, undef, undef, undef, undef, undef, undef, undef, undef, undef, undef, undef, undef, undef, undef, undef, undef, undef, undef, undef, undef, undef, undef, undef, undef, undef], []⟩ ∧ InvHd4 d y m c pb po g7 g10 g11 w3 L v25 v26 v27 v28 v29 v30 wx) ?_ ⟨?_, ?_, ?_, ?_, ?_, ?_, ?_, ?_, trivial⟩ ?_
        · refine ⟨_, _, _, _, _, _, rfl, ⟨?_, ?_, ?_, ?_, ?_, ?_, (KB.refl _ _).below (Below.refl _ _).drew, fun _ => hAP.drew, fun h => absurd h (by decide), fun _ => hAQ.drew, fun h => absurd h (by decide)⟩⟩ <;> (intro h; exact absurd h (by decide))
        · rintro L a wx ⟨v25, v26, v27, v28, v29, v30, rfl, hI⟩ hL hdep hcl K hK
          go_simp
          exact hK _ _ ⟨_, v26, v27, v28, v29, v30, rfl, ⟨fun _ => rfl, hI.t1, hI.t2, hI.t3, hI.t4, hI.t5, hI.kb, hI.ap0, hI.ap1, hI.aq0, hI.aq1⟩⟩
        · rintro L a wx ⟨v25, v26, v27, v28, v29, v30, rfl, hI⟩ hL hdep hcl K hK
          obtain rfl := hI.t0 (hdep 0 (by decide))
          go_simp
          exact hK _ _ ⟨_, _, v27, v28, v29, v30, rfl, ⟨hI.t0, fun _ => rfl, hI.t2, hI.t3, hI.t4, hI.t5, hI.kb, hI.ap0, hI.ap1, hI.aq0, hI.aq1⟩⟩
        · rintro L a wx ⟨v25, v26, v27, v28, v29, v30, rfl, hI⟩ hL hdep hcl K hK
          obtain rfl := hI.t1 (hdep 1 (by decide))
          refine ow_load_mid 41 _ rfl pb po rfl (bvs y) (.array 32 5) (fun j v hj => (hI.kb.cell (p := ⟨pb, po + j, none⟩) HL4.out HN4.out).trans (HPR.out j v hj)) Try.underlying41 rfl h32y.out ?_
          exact hK _ _ ⟨v25, _, _, v28, v29, v30, rfl, ⟨hI.t0, hI.t1, fun _ => rfl, hI.t3, hI.t4, hI.t5, hI.kb, hI.ap0, hI.ap1, hI.aq0, hI.aq1⟩⟩
        · rintro L a wx ⟨v25, v26, v27, v28, v29, v30, rfl, hI⟩ hL hdep hcl K hK
          go_simp
          exact hK _ _ ⟨v25, v26, v27, _, v29, v30, rfl, ⟨hI.t0, hI.t1, hI.t2, fun _ => rfl, hI.t4, hI.t5, hI.kb, hI.ap0, hI.ap1, hI.aq0, hI.aq1⟩⟩
        · rintro L a wx ⟨v25, v26, v27, v28, v29, v30, rfl, hI⟩ hL hdep hcl K hK
          obtain rfl := hI.t3 (hdep 3 (by decide))
          go_simp
          exact hK _ _ ⟨v25, v26, v27, _, _, v30, rfl, ⟨hI.t0, hI.t1, hI.t2, hI.t3, fun _ => rfl, hI.t5, hI.kb, hI.ap0, hI.ap1, hI.aq0, hI.aq1⟩⟩
        · rintro L a wx ⟨v25, v26, v27, v28, v29, v30, rfl, hI⟩ hL hdep hcl K hK
          obtain rfl := hI.t4 (hdep 4 (by decide))
          refine ow_load_mid 41 _ rfl pb po rfl (bvs y) (.array 32 5) (fun j v hj => (hI.kb.cell (p := ⟨pb, po + j, none⟩) HL4.out HN4.out).trans (HPR.out j v hj)) Try.underlying41 rfl h32y.out ?_
          exact hK _ _ ⟨v25, v26, v27, v28, _, _, rfl, ⟨hI.t0, hI.t1, hI.t2, hI.t3, hI.t4, fun _ => rfl, hI.kb, hI.ap0, hI.ap1, hI.aq0, hI.aq1⟩⟩
        · rintro L a wx ⟨v25, v26, v27, v28, v29, v30, rfl, hI⟩ hL hdep hcl K hK
          obtain rfl := hI.t2 (hdep 2 (by decide))
          refine ow_store 41 _ _ rfl g10 0 rfl (bvs y) rfl 41 _ (hI.ap0 hL) h32y.out (by rw [hy32.out]; exact (by decide : 0 + 32 ≤ (bvs (Z8 32)).length)) (bvs_one _) ?_
          intro w' hA' hg' hs'
          rw [whole_store _ _ (by rw [hy32.out]; rfl)] at hA'
          exact hK _ _ ⟨v25, v26, _, v28, v29, v30, rfl, ⟨hI.t0, hI.t1, hI.t2, hI.t3, hI.t4, hI.t5, hI.kb.grown hg' (.inl rfl), fun h => (nomatch (show true = false from h)), fun _ => hA', fun h => (hI.aq0 h).grown hg' (by intro e; injection e with e; exact HPQ.out e.symm), fun h => (hI.aq1 h).grown hg' (by intro e; injection e with e; exact HPQ.out e.symm)⟩⟩
        · rintro L a wx ⟨v25, v26, v27, v28, v29, v30, rfl, hI⟩ hL hdep hcl K hK
          obtain rfl := hI.t5 (hdep 5 (by decide))
          refine ow_store 41 _ _ rfl g11 0 rfl (bvs y) rfl 41 _ (hI.aq0 hL) h32y.out (by rw [hy32.out]; exact (by decide : 0 + 32 ≤ (bvs (Z8 32)).length)) (bvs_one _) ?_
          intro w' hA' hg' hs'
          rw [whole_store _ _ (by rw [hy32.out]; rfl)] at hA'
          exact hK _ _ ⟨v25, v26, v27, v28, v29, _, rfl, ⟨hI.t0, hI.t1, hI.t2, hI.t3, hI.t4, hI.t5, hI.kb.grown hg' (.inr rfl), fun h => (hI.ap0 h).grown hg' (by intro e; injection e with e; exact HPQ.out e), fun h => (hI.ap1 h).grown hg' (by intro e; injection e with e; exact HPQ.out e), fun h => (nomatch (show true = false from h)), fun _ => hA'⟩⟩
        · rintro a wx ⟨v25, v26, v27, v28, v29, v30, rfl, hI⟩
          have hP1 := hI.ap1 rfl
          have hQ1 := hI.aq1 rfl
          have hkb := hI.kb
          clear hI
          go_wp2_with fail
          refine end_cells rfl g10 g11 41 (bvs y) (bvs y) (.array 32 5) rfl hP1 rfl hQ1 Try.underlying41 rfl h32y.out h32y.out rfl ⟨rfl, ?_⟩
          have n3 := HN.out
          exact HB.out.trans (hkb.under (fun k h => by rcases h with h | h <;> omega) HZ.out)
    · obtain ⟨b1, b2, b3⟩ := splK_bounds (n := n) (by omega)
      have HS := Lib.hid (fun w => rSplit_nat n w (by omega) (by omega))
      have hc1 : ¬ ((m : Int) = (n : Int)) := by omega
      obtain ⟨k, hk⟩ : ∃ k, k = splK n := ⟨_, rfl⟩
      have hm20 : qq ≤ 21 := by rw [hqq]; exact wt_few m n 0 b h1 hmn h20
      have hq1 : 1 ≤ qq := by
        rw [hqq]
        by_cases h : m ≤ splK n
        · rw [wtF_low _ _ _ _ h1 (by omega) h, List.length_append]; simp
        · rw [wtF_high _ _ _ _ (by omega) h, List.length_append]; simp
      obtain ⟨q, rfl⟩ : ∃ q, qq = q + 1 := ⟨qq - 1, by omega⟩
      obtain ⟨pb, po, rfl, hpbl, -⟩ := hP.mem (by omega)
      have hPd : RdD w (some ⟨pb, po, none⟩) q c P.dropLast := by
        have := hP.take q (by omega)
        rwa [show P.take q = P.dropLast by rw [List.dropLast_eq_take, hlP]; rfl] at this
      have hPr := hP.range q (by omega)
      have hyl := hP.all q (by omega)
      have hq0 : (0 : Int) ≤ (q : Int) := by omega
      have hq2 : (q : Int) ≤ 21 := by omega
      have hqc : (q : Int) ≤ (c : Int) := by have := hP.le; omega
      have hqc1 : (q : Int) < (c : Int) := by have := hP.le; omega
      have hyq : P.getD (P.length - 1) [] = P.getD q [] := by rw [hlP]; rfl
      obtain ⟨y, hy⟩ : ∃ y, y = P.getD q [] := ⟨_, rfl⟩
      rw [← hy] at hPr hyl hyq
      have h32y : Hid ((Try.prog.info? 41).map (·.size) = some (bvs y).length) := by show _ = _; rw [bvs_len, hyl]; exact sizeD
      have hy32 : Hid ((bvs y).length = 32) := by show _ = _; rw [bvs_len]; exact hyl
      have HWQ : Hid (IntKind.i64.wrap (q : Int) = (q : Int)) := by show _ = _; exact IntWalk.i64_in _ (by omega)
      have hAd : All32 P.dropLast := hPd.all
      by_cases hlt : m ≤ k
      · have hlq : q = (wtF m k 0 b).length := by
          rw [wtF_low m n 0 b h1 (by omega) (by omega), List.length_append, ← hk] at hqq
          simpa using hqq
        have hIH := fun w' (hb : Below w.heap.size w w') => ih k (by omega) m k b (Nat.le_refl _) h1 hlt (by omega) (some ⟨pb, po, none⟩) q c P.dropLast w' (hPd.to hb) hlq
        rw [hdF_low m n d P b h1 (by omega) (by omega), hyq, ← hk]
        rw [← hk] at HS
        obtain ⟨hXl, hYl⟩ := hdF_len k m k d P.dropLast b 0 (Nat.le_refl _) h1 hlt hd hAd (by rw [hPd.len]; exact hlq)
        have HX := Lib.hid hIH
        obtain ⟨X0, hX0⟩ : ∃ X, X = (hdF m k d P.dropLast b).1 := ⟨_, rfl⟩
        obtain ⟨X1, hX1⟩ : ∃ X, X = (hdF m k d P.dropLast b).2 := ⟨_, rfl⟩
        rw [← hX0] at HX hXl ⊢
        rw [← hX1] at HX hYl ⊢
        have HN1 := Lib.hid (fun w => rNode_any X1 y w hYl hyl)
        have hSl : (nodeH X1 y).length = 32 := shaL_len _
        obtain ⟨S1, hS1⟩ : ∃ S, S = nodeH X1 y := ⟨_, rfl⟩
        rw [← hS1] at HN1 hSl ⊢
        have hc : (m : Int) ≤ (k : Int) := by omega
        clear hX0 hX1 hS1
        have h32S1 : Hid ((Try.prog.info? 41).map (·.size) = some (bvs S1).length) := by show _ = _; rw [bvs_len, hSl]; exact sizeD
        have hS132 : Hid ((bvs S1).length = 32) := by show _ = _; rw [bvs_len]; exact hSl
        have h32X0 : Hid ((Try.prog.info? 41).map (·.size) = some (bvs X0).length) := by show _ = _; rw [bvs_len, hXl]; exact sizeD
        have hX032 : Hid ((bvs X0).length = 32) := by show _ = _; rw [bvs_len]; exact hXl
        have h32X1 : Hid ((Try.prog.info? 41).map (·.size) = some (bvs X1).length) := by show _ = _; rw [bvs_len, hYl]; exact sizeD
        have hX132 : Hid ((bvs X1).length = 32) := by show _ = _; rw [bvs_len]; exact hYl
        clear ih hN hIH hXl hYl hSl hyl hyq hy hPd hAd hlq hqq hm20 hq1 hlP hP hk b1 b2 b3 hlt hmn2 h1 hmn h20
        go_enter Try.func28, Try.ntmps28
        go_upto_region 8 with (first
          | ((with_reducible show wpList _ _ _ (⟨some 7, .box _ _, _, _, _, _⟩ :: _) _ _); refine wl_box rfl 41 _ rfl (bvs d) rfl ?_; intro w1 hA1 hb1 hs1)
          | ((with_reducible show wpList _ _ _ (⟨some 10, .alloc _, _, _, _, _⟩ :: _) _ _); refine wl_alloc rfl 41 rfl (bvs (Z8 32)) 32 infoD ?_; intro w2 hA2 hb2 hs2)
          | ((with_reducible show wpList _ _ _ (⟨some 11, .alloc _, _, _, _, _⟩ :: _) _ _); refine wl_alloc rfl 41 rfl (bvs (Z8 32)) 32 infoD ?_; intro w3 hA3 hb3 hs3; have b03 : Below w.heap.size w w3 := (hb1.trans (hb2.mono hb1.size)).trans (hb3.mono (by have := hb1.size; have := hb2.size; omega)))
          | (go_at_call 34; refine (HS.out _).mono ?_; rintro e w4 ⟨rfl, hw4⟩; obtain rfl := hw4.symm)
          | ((with_reducible show wpList _ _ _ (⟨some 41, .load _ _, _, _, _, _⟩ :: _) _ _); refine wpList_load_mid rfl 41 _ rfl pb (po + q * 32) rfl (bvs y) (.array 32 5) (fun j v hj => (b03.cell (p := ⟨pb, po + q * 32 + j, none⟩) hpbl).trans (hPr j v hj)) Try.underlying41 rfl h32y.out ?_)
          | ((with_reducible show wpList _ _ _ (⟨some 14, .alloc _, _, _, _, _⟩ :: _) _ _); refine wl_alloc rfl 41 rfl (bvs (Z8 32)) 32 infoD ?_; intro w5 hA5 hb5 hs5)
          | ((with_reducible show wpList _ _ _ (⟨none, .store _ _ _, _, _, _, _⟩ :: _) _ _); refine wl_store rfl 41 _ _ rfl w3.heap.size 0 rfl (bvs y) rfl 41 _ hA5 h32y.out (by rw [hy32.out]; exact (by decide : 0 + 32 ≤ (bvs (Z8 32)).length)) (bvs_one _) ?_; intro w6 hA6 hg6 hs6))
        rw [whole_store _ _ (by rw [hy32.out]; rfl)] at hA6
        have z1 := hb1.size
        have z2 := hb2.size
        have z3 := hb3.size
        have z5 := hb5.size
        have b36 : Below w3.heap.size w3 w6 := hb5.grown hg6 z5 (by intro k e; injection e with e; omega)
        have b06 : Below w.heap.size w w6 := b03.trans (b36.mono (by omega))
        have A7 : Arr w6 w.heap.size 41 (bvs d) := ((hA1.kept hb2).kept hb3).kept b36
        have A10 : Arr w6 w1.heap.size 41 (bvs (Z8 32)) := (hA2.kept hb3).kept b36
        have A11 : Arr w6 w2.heap.size 41 (bvs (Z8 32)) := hA3.kept b36
        have z6 := b06.size
        obtain ⟨g7, hg7⟩ : ∃ g, g = w.heap.size := ⟨_, rfl⟩
        obtain ⟨g10, hg10⟩ : ∃ g, g = w1.heap.size := ⟨_, rfl⟩
        obtain ⟨g11, hg11⟩ : ∃ g, g = w2.heap.size := ⟨_, rfl⟩
        obtain ⟨g14, hg14⟩ : ∃ g, g = w3.heap.size := ⟨_, rfl⟩
        have n2 : g10 ≠ g11 := by omega
        have n14 : ¬ (g14 = g10 ∨ g14 = g11) := by omega
        have n3 : w.heap.size ≤ g10 ∧ w.heap.size ≤ g11 := by omega
        have n6 : g10 < w6.heap.size ∧ g11 < w6.heap.size := by rw [hg10, hg11]; exact ⟨A10.lt, A11.lt⟩
        go_simp
        rw [← hg7, ← hg10, ← hg11, ← hg14]
        rw [← hg7] at A7
        rw [← hg10] at A10
        rw [← hg11] at A11
        rw [← hg14] at hA6
        have HB := Lib.hid b06
        have HPQ := Lib.hid n2
        have HN := Lib.hid n3
        have H14 := Lib.hid n14
        have H6 := Lib.hid n6
        have Z6 := Lib.hid z6
        have HA7 : Hid (∀ wx, Below w6.heap.size w6 wx → Arr wx g7 41 (bvs d)) := fun wx hb => A7.kept hb
        have HA14 : Hid (∀ wx, Below w6.heap.size w6 wx → Arr wx g14 41 (bvs y)) := fun wx hb => hA6.kept hb
        have HA10 : Hid (∀ wx, Below w6.heap.size w6 wx → Arr wx g10 41 (bvs (Z8 32))) := fun wx hb => A10.kept hb
        have HA11 : Hid (∀ wx, Below w6.heap.size w6 wx → Arr wx g11 41 (bvs (Z8 32))) := fun wx hb => A11.kept hb
        clear hA1 hA2 hA3 hA5 hA6 hb1 hb2 hb3 hb5 hs1 hs2 hs3 hs5 hs6 hg6 b03 b36 b06 A7 A10 A11 z1 z2 z3 z5 z6 hg7 hg10 hg11 hg14 n2 n14 n3 n6 hPr hpbl
        refine wp_region_steps [[], [], [], [], [], [4], [5], [3, 6], [], [0, 1, 2, 7, 8], [9], [10], [10], [], [], [13, 11], [14, 12]] (by kernel_rfl) (by kernel_rfl) (fun L a wx => ∃ v46 v47 v48 v49 v50 v51 v52 v53 v54 v55 v45 v56 v57 v15 v16, a = ⟨#[.int .u64 ↑m, .int .u64 ↑n, .agg (bvs d).toArray, .slice (some ⟨pb, po, none⟩) (q + 1) c, .bool b, undef, undef, .pointer (some ⟨g7, 0, none⟩), undef, undef, .pointer (some ⟨g10, 0, none⟩), .pointer (some ⟨g11, 0, none⟩), .int .u64 ↑k, .int .i64 0, .pointer (some ⟨g14, 0, none⟩), v15, v16, undef, undef, .int .u64 ↑m, .int .u64 ↑n, .bool false, undef, undef, undef, undef, undef, undef, undef, undef, undef, .tuple #[.int .u64 ↑k, .int .i64 0], .int .u64 ↑n, .tuple #[.int .u64 ↑k, .int .i64 0], .int .u64 ↑k, .int .i64 0, .slice (some ⟨pb, po, none⟩) (q + 1) c, .slice (some ⟨pb, po, none⟩) (q + 1) c, .int .i64 (↑q + 1), .int .i64 ↑q, .pointer (some ⟨pb, po + q * 32, none⟩), .agg (bvs y).toArray, .int .u64 ↑m, .int .u64 ↑k, .bool true, v45, v46, v47, v48, v49, v50, v51, v52, v53, v54, v55, v56, v57, undef, undef, undef, undef, undef, undef, undef, undef, undef, undef, undef, undef, undef, undef, undef, undef, undef, undef, undef, undef, undef, undef, undef, undef, undef, undef], []⟩ ∧ InvHd8 d y X0 X1 b m n k q c pb po g7 g10 g11 g14 w6 L v46 v47 v48 v49 v50 v51 v52 v53 v54 v55 v45 v56 v57 v15 v16 wx) ?_ ⟨?_, ?_, ?_, ?_, ?_, ?_, ?_, ?_, ?_, ?_, ?_, ?_, ?_, ?_, ?_, ?_, ?_, trivial⟩ ?_
        · refine ⟨_, _, _, _, _, _, _, _, _, _, _, _, _, _, _, rfl, ⟨?_, ?_, ?_, ?_, ?_, ?_, ?_, ?_, ?_, ?_, ?_, ?_, ?_, ?_, ?_, (Below.refl _ _).drew, fun h => absurd h (by decide), fun h => absurd h (by decide), fun h => absurd h (by decide), fun h => absurd h (by decide), fun h => absurd h (by decide), fun h => absurd h (by decide), fun h => absurd h (by decide)⟩⟩ <;> (intro h; exact absurd h (by decide))
        · rintro L a wx ⟨v46, v47, v48, v49, v50, v51, v52, v53, v54, v55, v45, v56, v57, v15, v16, rfl, hI⟩ hL hdep hcl K hK
          go_simp
          exact hK _ _ ⟨_, v47, v48, v49, v50, v51, v52, v53, v54, v55, v45, v56, v57, v15, v16, rfl, ⟨fun _ => rfl, hI.t1, hI.t2, hI.t3, hI.t4, hI.t5, hI.t6, hI.t7, hI.t8, hI.t9, hI.t10, hI.t11, hI.t12, hI.t13, hI.t14, hI.bw, hI.p0, hI.q0, hI.p1, hI.q1, hI.m0, hI.m1, hI.df⟩⟩
        · rintro L a wx ⟨v46, v47, v48, v49, v50, v51, v52, v53, v54, v55, v45, v56, v57, v15, v16, rfl, hI⟩ hL hdep hcl K hK
          go_simp
          exact hK _ _ ⟨v46, _, v48, v49, v50, v51, v52, v53, v54, v55, v45, v56, v57, v15, v16, rfl, ⟨hI.t0, fun _ => rfl, hI.t2, hI.t3, hI.t4, hI.t5, hI.t6, hI.t7, hI.t8, hI.t9, hI.t10, hI.t11, hI.t12, hI.t13, hI.t14, hI.bw, hI.p0, hI.q0, hI.p1, hI.q1, hI.m0, hI.m1, hI.df⟩⟩
        · rintro L a wx ⟨v46, v47, v48, v49, v50, v51, v52, v53, v54, v55, v45, v56, v57, v15, v16, rfl, hI⟩ hL hdep hcl K hK
          refine ow_load 41 _ rfl g7 0 rfl 41 (bvs d) (bvs d) (HA7.out wx hI.bw) (fun j v h => by rw [Nat.zero_add]; exact h) (.array 32 5) Try.underlying41 rfl h32d.out ?_
          exact hK _ _ ⟨v46, v47, _, v49, v50, v51, v52, v53, v54, v55, v45, v56, v57, v15, v16, rfl, ⟨hI.t0, hI.t1, fun _ => rfl, hI.t3, hI.t4, hI.t5, hI.t6, hI.t7, hI.t8, hI.t9, hI.t10, hI.t11, hI.t12, hI.t13, hI.t14, hI.bw, hI.p0, hI.q0, hI.p1, hI.q1, hI.m0, hI.m1, hI.df⟩⟩
        · rintro L a wx ⟨v46, v47, v48, v49, v50, v51, v52, v53, v54, v55, v45, v56, v57, v15, v16, rfl, hI⟩ hL hdep hcl K hK
          go_simp
          exact hK _ _ ⟨v46, v47, v48, _, v50, v51, v52, v53, v54, v55, v45, v56, v57, v15, v16, rfl, ⟨hI.t0, hI.t1, hI.t2, fun _ => rfl, hI.t4, hI.t5, hI.t6, hI.t7, hI.t8, hI.t9, hI.t10, hI.t11, hI.t12, hI.t13, hI.t14, hI.bw, hI.p0, hI.q0, hI.p1, hI.q1, hI.m0, hI.m1, hI.df⟩⟩
        · rintro L a wx ⟨v46, v47, v48, v49, v50, v51, v52, v53, v54, v55, v45, v56, v57, v15, v16, rfl, hI⟩ hL hdep hcl K hK
          go_simp
          exact hK _ _ ⟨v46, v47, v48, v49, _, v51, v52, v53, v54, v55, v45, v56, v57, v15, v16, rfl, ⟨hI.t0, hI.t1, hI.t2, hI.t3, fun _ => rfl, hI.t5, hI.t6, hI.t7, hI.t8, hI.t9, hI.t10, hI.t11, hI.t12, hI.t13, hI.t14, hI.bw, hI.p0, hI.q0, hI.p1, hI.q1, hI.m0, hI.m1, hI.df⟩⟩
        · rintro L a wx ⟨v46, v47, v48, v49, v50, v51, v52, v53, v54, v55, v45, v56, v57, v15, v16, rfl, hI⟩ hL hdep hcl K hK
          obtain rfl := hI.t4 (hdep 4 (by decide))
          go_simp
          exact hK _ _ ⟨v46, v47, v48, v49, _, _, v52, v53, v54, v55, v45, v56, v57, v15, v16, rfl, ⟨hI.t0, hI.t1, hI.t2, hI.t3, hI.t4, fun _ => rfl, hI.t6, hI.t7, hI.t8, hI.t9, hI.t10, hI.t11, hI.t12, hI.t13, hI.t14, hI.bw, hI.p0, hI.q0, hI.p1, hI.q1, hI.m0, hI.m1, hI.df⟩⟩
        · rintro L a wx ⟨v46, v47, v48, v49, v50, v51, v52, v53, v54, v55, v45, v56, v57, v15, v16, rfl, hI⟩ hL hdep hcl K hK
          obtain rfl := hI.t5 (hdep 5 (by decide))
          go_simp
          rw [HWQ.out]
          exact hK _ _ ⟨v46, v47, v48, v49, v50, _, _, v53, v54, v55, v45, v56, v57, v15, v16, rfl, ⟨hI.t0, hI.t1, hI.t2, hI.t3, hI.t4, hI.t5, fun _ => rfl, hI.t7, hI.t8, hI.t9, hI.t10, hI.t11, hI.t12, hI.t13, hI.t14, hI.bw, hI.p0, hI.q0, hI.p1, hI.q1, hI.m0, hI.m1, hI.df⟩⟩
        · rintro L a wx ⟨v46, v47, v48, v49, v50, v51, v52, v53, v54, v55, v45, v56, v57, v15, v16, rfl, hI⟩ hL hdep hcl K hK
          obtain rfl := hI.t3 (hdep 3 (by decide))
          obtain rfl := hI.t6 (hdep 6 (by decide))
          go_simp
          exact hK _ _ ⟨v46, v47, v48, _, v50, v51, _, _, v54, v55, v45, v56, v57, v15, v16, rfl, ⟨hI.t0, hI.t1, hI.t2, hI.t3, hI.t4, hI.t5, hI.t6, fun _ => rfl, hI.t8, hI.t9, hI.t10, hI.t11, hI.t12, hI.t13, hI.t14, hI.bw, hI.p0, hI.q0, hI.p1, hI.q1, hI.m0, hI.m1, hI.df⟩⟩
        · rintro L a wx ⟨v46, v47, v48, v49, v50, v51, v52, v53, v54, v55, v45, v56, v57, v15, v16, rfl, hI⟩ hL hdep hcl K hK
          go_simp
          exact hK _ _ ⟨v46, v47, v48, v49, v50, v51, v52, v53, _, v55, v45, v56, v57, v15, v16, rfl, ⟨hI.t0, hI.t1, hI.t2, hI.t3, hI.t4, hI.t5, hI.t6, hI.t7, fun _ => rfl, hI.t9, hI.t10, hI.t11, hI.t12, hI.t13, hI.t14, hI.bw, hI.p0, hI.q0, hI.p1, hI.q1, hI.m0, hI.m1, hI.df⟩⟩
        · rintro L a wx ⟨v46, v47, v48, v49, v50, v51, v52, v53, v54, v55, v45, v56, v57, v15, v16, rfl, hI⟩ hL hdep hcl K hK
          obtain rfl := hI.t0 (hdep 0 (by decide))
          obtain rfl := hI.t1 (hdep 1 (by decide))
          obtain rfl := hI.t2 (hdep 2 (by decide))
          obtain rfl := hI.t7 (hdep 7 (by decide))
          obtain rfl := hI.t8 (hdep 8 (by decide))
          have HC := HX.out wx (HB.out.trans (hI.bw.mono Z6.out))
          go_simp
          refine HC.mono ?_
          rintro e w' ⟨rfl, hb⟩
          exact hK _ _ ⟨_, _, _, v49, v50, v51, v52, _, _, _, v45, v56, v57, v15, v16, rfl, ⟨hI.t0, hI.t1, hI.t2, hI.t3, hI.t4, hI.t5, hI.t6, hI.t7, hI.t8, fun _ => rfl, hI.t10, hI.t11, hI.t12, hI.t13, hI.t14, (hI.bw).trans (hb.mono (hI.bw).size), fun h h2 => ((hI.p0) h h2).to hb, fun h => ((hI.q0) h).to hb, fun h h2 => ((hI.p1) h h2).to hb, fun h => ((hI.q1) h).to hb, fun h => ((hI.m0) h).to hb.size, fun h => ((hI.m1) h).to hb.size, hI.df⟩⟩
        · rintro L a wx ⟨v46, v47, v48, v49, v50, v51, v52, v53, v54, v55, v45, v56, v57, v15, v16, rfl, hI⟩ hL hdep hcl K hK
          obtain rfl := hI.t9 (hdep 9 (by decide))
          go_simp
          exact hK _ _ ⟨v46, v47, v48, v49, v50, v51, v52, v53, v54, _, _, v56, v57, v15, v16, rfl, ⟨hI.t0, hI.t1, hI.t2, hI.t3, hI.t4, hI.t5, hI.t6, hI.t7, hI.t8, hI.t9, fun _ => rfl, hI.t11, hI.t12, hI.t13, hI.t14, hI.bw, hI.p0, hI.q0, hI.p1, hI.q1, hI.m0, hI.m1, hI.df⟩⟩
        · rintro L a wx ⟨v46, v47, v48, v49, v50, v51, v52, v53, v54, v55, v45, v56, v57, v15, v16, rfl, hI⟩ hL hdep hcl K hK
          obtain rfl := hI.t10 (hdep 10 (by decide))
          go_simp
          exact hK _ _ ⟨v46, v47, v48, v49, v50, v51, v52, v53, v54, v55, _, _, v57, v15, v16, rfl, ⟨hI.t0, hI.t1, hI.t2, hI.t3, hI.t4, hI.t5, hI.t6, hI.t7, hI.t8, hI.t9, hI.t10, fun _ => rfl, hI.t12, hI.t13, hI.t14, hI.bw, hI.p0, hI.q0, hI.p1, hI.q1, hI.m0, hI.m1, hI.df⟩⟩
        · rintro L a wx ⟨v46, v47, v48, v49, v50, v51, v52, v53, v54, v55, v45, v56, v57, v15, v16, rfl, hI⟩ hL hdep hcl K hK
          obtain rfl := hI.t10 (hdep 10 (by decide))
          go_simp
          exact hK _ _ ⟨v46, v47, v48, v49, v50, v51, v52, v53, v54, v55, _, v56, _, v15, v16, rfl, ⟨hI.t0, hI.t1, hI.t2, hI.t3, hI.t4, hI.t5, hI.t6, hI.t7, hI.t8, hI.t9, hI.t10, hI.t11, fun _ => rfl, hI.t13, hI.t14, hI.bw, hI.p0, hI.q0, hI.p1, hI.q1, hI.m0, hI.m1, hI.df⟩⟩
        · rintro L a wx ⟨v46, v47, v48, v49, v50, v51, v52, v53, v54, v55, v45, v56, v57, v15, v16, rfl, hI⟩ hL hdep hcl K hK
          refine ow_alloc 41 rfl (bvs (Z8 32)) 32 infoD ?_
          intro w' hA' hb hs'
          exact hK _ _ ⟨v46, v47, v48, v49, v50, v51, v52, v53, v54, v55, v45, v56, v57, _, v16, rfl, ⟨hI.t0, hI.t1, hI.t2, hI.t3, hI.t4, hI.t5, hI.t6, hI.t7, hI.t8, hI.t9, hI.t10, hI.t11, hI.t12, fun _ => trivial, hI.t14, (hI.bw).trans (hb.mono (hI.bw).size), fun _ _ => ⟨_, rfl, hI.bw.size, hA'⟩, fun h => (by have h4 := hcl 15 (by decide) h 13 (by decide); rw [hL] at h4; cases h4), fun h h2 => ((hI.p1) h h2).to hb, fun h => ((hI.q1) h).to hb, fun _ => ⟨_, rfl, hs'⟩, fun h => ((hI.m1) h).to hb.size, fun _ h => (hI.m1 h).ne⟩⟩
        · rintro L a wx ⟨v46, v47, v48, v49, v50, v51, v52, v53, v54, v55, v45, v56, v57, v15, v16, rfl, hI⟩ hL hdep hcl K hK
          refine ow_alloc 41 rfl (bvs (Z8 32)) 32 infoD ?_
          intro w' hA' hb hs'
          exact hK _ _ ⟨v46, v47, v48, v49, v50, v51, v52, v53, v54, v55, v45, v56, v57, v15, _, rfl, ⟨hI.t0, hI.t1, hI.t2, hI.t3, hI.t4, hI.t5, hI.t6, hI.t7, hI.t8, hI.t9, hI.t10, hI.t11, hI.t12, hI.t13, fun _ => trivial, (hI.bw).trans (hb.mono (hI.bw).size), fun h h2 => ((hI.p0) h h2).to hb, fun h => ((hI.q0) h).to hb, fun _ _ => ⟨_, rfl, hI.bw.size, hA'⟩, fun h => (by have h4 := hcl 16 (by decide) h 14 (by decide); rw [hL] at h4; cases h4), fun h => ((hI.m0) h).to hb.size, fun _ => ⟨_, rfl, hs'⟩, fun h _ => (hI.m0 h).ne.symm⟩⟩
        · rintro L a wx ⟨v46, v47, v48, v49, v50, v51, v52, v53, v54, v55, v45, v56, v57, v15, v16, rfl, hI⟩ hL hdep hcl K hK
          obtain rfl := hI.t11 (hdep 11 (by decide))
          obtain ⟨g, rfl, hge, hA⟩ := hI.p0 (hdep 13 (by decide)) hL
          refine ow_store 41 _ _ rfl g 0 rfl (bvs X0) rfl 41 _ hA h32X0.out (by rw [hX032.out]; exact (by decide : 0 + 32 ≤ (bvs (Z8 32)).length)) (bvs_one _) ?_
          intro w' hA' hg' hs'
          rw [whole_store _ _ (by rw [hX032.out]; rfl)] at hA'
          exact hK _ _ ⟨v46, v47, v48, v49, v50, v51, v52, v53, v54, v55, v45, _, v57, _, v16, rfl, ⟨hI.t0, hI.t1, hI.t2, hI.t3, hI.t4, hI.t5, hI.t6, hI.t7, hI.t8, hI.t9, hI.t10, hI.t11, hI.t12, hI.t13, hI.t14, hI.bw.grown hg' hI.bw.size (by intro k e; injection e with e; omega), fun _ h => (nomatch (show true = false from h)), fun _ => ⟨_, rfl, hge, hA'⟩, fun h h2 => (hI.p1 h h2).grown hg' (fun e => hI.df (hdep 13 (by decide)) h e.symm), fun h => (hI.q1 h).grown hg' (fun e => hI.df (hdep 13 (by decide)) (hcl 16 (by decide) h 14 (by decide)) e.symm), fun h => (hI.m0 h).to hg'.size, fun h => (hI.m1 h).to hg'.size, hI.df⟩⟩
        · rintro L a wx ⟨v46, v47, v48, v49, v50, v51, v52, v53, v54, v55, v45, v56, v57, v15, v16, rfl, hI⟩ hL hdep hcl K hK
          obtain rfl := hI.t12 (hdep 12 (by decide))
          obtain ⟨g, rfl, hge, hA⟩ := hI.p1 (hdep 14 (by decide)) hL
          refine ow_store 41 _ _ rfl g 0 rfl (bvs X1) rfl 41 _ hA h32X1.out (by rw [hX132.out]; exact (by decide : 0 + 32 ≤ (bvs (Z8 32)).length)) (bvs_one _) ?_
          intro w' hA' hg' hs'
          rw [whole_store _ _ (by rw [hX132.out]; rfl)] at hA'
          exact hK _ _ ⟨v46, v47, v48, v49, v50, v51, v52, v53, v54, v55, v45, v56, _, v15, _, rfl, ⟨hI.t0, hI.t1, hI.t2, hI.t3, hI.t4, hI.t5, hI.t6, hI.t7, hI.t8, hI.t9, hI.t10, hI.t11, hI.t12, hI.t13, hI.t14, hI.bw.grown hg' hI.bw.size (by intro k e; injection e with e; omega), fun h h2 => (hI.p0 h h2).grown hg' (hI.df h (hdep 14 (by decide))), fun h => (hI.q0 h).grown hg' (hI.df (hcl 15 (by decide) h 13 (by decide)) (hdep 14 (by decide))), fun _ h => (nomatch (show true = false from h)), fun _ => ⟨_, rfl, hge, hA'⟩, fun h => (hI.m0 h).to hg'.size, fun h => (hI.m1 h).to hg'.size, hI.df⟩⟩
        · rintro a wx ⟨v46, v47, v48, v49, v50, v51, v52, v53, v54, v55, v45, v56, v57, v15, v16, rfl, hI⟩
          obtain ⟨g15, rfl, hge15, A15⟩ := hI.q0 rfl
          obtain ⟨g16, rfl, hge16, A16⟩ := hI.q1 rfl
          have hbw := hI.bw
          clear hI
          have hAP := HA10.out wx hbw
          have hAQ := HA11.out wx hbw
          have HA14' := Lib.hid (HA14.out wx hbw)
          have l14 := Lib.hid (HA14.out wx hbw).lt
          have l15 := Lib.hid A15.lt
          have l16 := Lib.hid A16.lt
          have n15 : Hid (¬ (g15 = g10 ∨ g15 = g11)) := by show ¬ _; have := H6.out; omega
          have n16 : Hid (¬ (g16 = g10 ∨ g16 = g11)) := by show ¬ _; have := H6.out; omega
          have HB2 := Lib.hid (HB.out.trans (hbw.mono Z6.out))
          have HZ2 := Lib.hid HB2.out.size
          have HA15 := Lib.hid A15
          have HA16 := Lib.hid A16
          clear A15 A16 hbw hge15 hge16
          rename World => w9
          go_upto_region 9 with fail
          refine wp_region_steps [[], [], [], [1, 2], [0], [3]] (by kernel_rfl) (by kernel_rfl) (fun L a wx => ∃ v58 v59 v60 v61, a = ⟨#[.int .u64 ↑m, .int .u64 ↑n, .agg (bvs d).toArray, .slice (some ⟨pb, po, none⟩) (q + 1) c, .bool b, undef, undef, .pointer (some ⟨g7, 0, none⟩), undef, undef, .pointer (some ⟨g10, 0, none⟩), .pointer (some ⟨g11, 0, none⟩), .int .u64 ↑k, .int .i64 0, .pointer (some ⟨g14, 0, none⟩), .pointer (some ⟨g15, 0, none⟩), .pointer (some ⟨g16, 0, none⟩), undef, undef, .int .u64 ↑m, .int .u64 ↑n, .bool false, undef, undef, undef, undef, undef, undef, undef, undef, undef, .tuple #[.int .u64 ↑k, .int .i64 0], .int .u64 ↑n, .tuple #[.int .u64 ↑k, .int .i64 0], .int .u64 ↑k, .int .i64 0, .slice (some ⟨pb, po, none⟩) (q + 1) c, .slice (some ⟨pb, po, none⟩) (q + 1) c, .int .i64 (↑q + 1), .int .i64 ↑q, .pointer (some ⟨pb, po + q * 32, none⟩), .agg (bvs y).toArray, .int .u64 ↑m, .int .u64 ↑k, .bool true, v45, v46, v47, v48, v49, v50, v51, v52, v53, v54, v55, v56, v57, v58, v59, v60, v61, undef, undef, undef, undef, undef, undef, undef, undef, undef, undef, undef, undef, undef, undef, undef, undef, undef, undef, undef, undef, undef, undef], []⟩ ∧ InvHd9 d y X0 X1 X0 S1 b m n k q c pb po g7 g10 g11 g14 g15 g16 w9 L v58 v59 v60 v61 wx) ?_ ⟨?_, ?_, ?_, ?_, ?_, ?_, trivial⟩ ?_
          · refine ⟨_, _, _, _, rfl, ⟨?_, ?_, ?_, ?_, (KB.refl _ _).below (Below.refl _ _).drew, fun _ => hAP.drew, fun h => absurd h (by decide), fun _ => hAQ.drew, fun h => absurd h (by decide)⟩⟩ <;> (intro h; exact absurd h (by decide))
          · rintro L a wx ⟨v58, v59, v60, v61, rfl, hI⟩ hL hdep hcl K hK
            refine ow_load 41 _ rfl g15 0 rfl 41 (bvs X0) (bvs X0) ((hI.kb.block g15 l15.out n15.out).trans HA15.out) (fun j v h => by rw [Nat.zero_add]; exact h) (.array 32 5) Try.underlying41 rfl h32X0.out ?_
            exact hK _ _ ⟨_, v59, v60, v61, rfl, ⟨fun _ => rfl, hI.t1, hI.t2, hI.t3, hI.kb, hI.ap0, hI.ap1, hI.aq0, hI.aq1⟩⟩
          · rintro L a wx ⟨v58, v59, v60, v61, rfl, hI⟩ hL hdep hcl K hK
            refine ow_load 41 _ rfl g16 0 rfl 41 (bvs X1) (bvs X1) ((hI.kb.block g16 l16.out n16.out).trans HA16.out) (fun j v h => by rw [Nat.zero_add]; exact h) (.array 32 5) Try.underlying41 rfl h32X1.out ?_
            exact hK _ _ ⟨v58, _, v60, v61, rfl, ⟨hI.t0, fun _ => rfl, hI.t2, hI.t3, hI.kb, hI.ap0, hI.ap1, hI.aq0, hI.aq1⟩⟩
          · rintro L a wx ⟨v58, v59, v60, v61, rfl, hI⟩ hL hdep hcl K hK
            refine ow_load 41 _ rfl g14 0 rfl 41 (bvs y) (bvs y) ((hI.kb.block g14 l14.out H14.out).trans HA14'.out) (fun j v h => by rw [Nat.zero_add]; exact h) (.array 32 5) Try.underlying41 rfl h32y.out ?_
            exact hK _ _ ⟨v58, v59, _, v61, rfl, ⟨hI.t0, hI.t1, fun _ => rfl, hI.t3, hI.kb, hI.ap0, hI.ap1, hI.aq0, hI.aq1⟩⟩
          · rintro L a wx ⟨v58, v59, v60, v61, rfl, hI⟩ hL hdep hcl K hK
            obtain rfl := hI.t1 (hdep 1 (by decide))
            obtain rfl := hI.t2 (hdep 2 (by decide))
            have HC := HN1.out wx
            go_simp
            refine HC.mono ?_
            rintro e w' ⟨rfl, hb⟩
            exact hK _ _ ⟨v58, _, _, _, rfl, ⟨hI.t0, hI.t1, hI.t2, fun _ => rfl, (hI.kb).below hb, fun h => ((hI.ap0) h).kept hb, fun h => ((hI.ap1) h).kept hb, fun h => ((hI.aq0) h).kept hb, fun h => ((hI.aq1) h).kept hb⟩⟩
          · rintro L a wx ⟨v58, v59, v60, v61, rfl, hI⟩ hL hdep hcl K hK
            obtain rfl := hI.t0 (hdep 0 (by decide))
            refine ow_store 41 _ _ rfl g10 0 rfl (bvs X0) rfl 41 _ (hI.ap0 hL) h32X0.out (by rw [hX032.out]; exact (by decide : 0 + 32 ≤ (bvs (Z8 32)).length)) (bvs_one _) ?_
            intro w' hA' hg' hs'
            rw [whole_store _ _ (by rw [hX032.out]; rfl)] at hA'
            exact hK _ _ ⟨_, v59, v60, v61, rfl, ⟨hI.t0, hI.t1, hI.t2, hI.t3, hI.kb.grown hg' (.inl rfl), fun h => (nomatch (show true = false from h)), fun _ => hA', fun h => (hI.aq0 h).grown hg' (by intro e; injection e with e; exact HPQ.out e.symm), fun h => (hI.aq1 h).grown hg' (by intro e; injection e with e; exact HPQ.out e.symm)⟩⟩
          · rintro L a wx ⟨v58, v59, v60, v61, rfl, hI⟩ hL hdep hcl K hK
            obtain rfl := hI.t3 (hdep 3 (by decide))
            refine ow_store 41 _ _ rfl g11 0 rfl (bvs S1) rfl 41 _ (hI.aq0 hL) h32S1.out (by rw [hS132.out]; exact (by decide : 0 + 32 ≤ (bvs (Z8 32)).length)) (bvs_one _) ?_
            intro w' hA' hg' hs'
            rw [whole_store _ _ (by rw [hS132.out]; rfl)] at hA'
            exact hK _ _ ⟨v58, v59, v60, _, rfl, ⟨hI.t0, hI.t1, hI.t2, hI.t3, hI.kb.grown hg' (.inr rfl), fun h => (hI.ap0 h).grown hg' (by intro e; injection e with e; exact HPQ.out e), fun h => (hI.ap1 h).grown hg' (by intro e; injection e with e; exact HPQ.out e), fun h => (nomatch (show true = false from h)), fun _ => hA'⟩⟩
          · rintro a wx ⟨v58, v59, v60, v61, rfl, hI⟩
            have hP1 := hI.ap1 rfl
            have hQ1 := hI.aq1 rfl
            have hkb := hI.kb
            clear hI
            go_wp2_with fail
            refine end_cells rfl g10 g11 41 (bvs X0) (bvs S1) (.array 32 5) rfl hP1 rfl hQ1 Try.underlying41 rfl h32X0.out h32S1.out rfl ⟨rfl, ?_⟩
            have n3 := HN.out
            exact HB2.out.trans (hkb.under (fun k h => by rcases h with h | h <;> omega) HZ2.out)
      · have hlq : q = (wtF (m - k) (n - k) 0 false).length := by
          rw [wtF_high m n 0 b (by omega) (by omega), List.length_append, ← hk, wt_len_s (n - k) (m - k) (n - k) (0 + k) 0 false (Nat.le_refl _) (by omega) (by omega)] at hqq
          simpa using hqq
        have hIH := fun w' (hb : Below w.heap.size w w') => ih (n - k) (by omega) (m - k) (n - k) false (Nat.le_refl _) (by omega) (by omega) (by omega) (some ⟨pb, po, none⟩) q c P.dropLast w' (hPd.to hb) hlq
        rw [hdF_high m n d P b (by omega) (by omega), hyq, ← hk]
        rw [← hk] at HS
        rw [show ((m - k : Nat) : Int) = (m : Int) - (k : Int) by omega, show ((n - k : Nat) : Int) = (n : Int) - (k : Int) by omega] at hIH
        obtain ⟨hXl, hYl⟩ := hdF_len (n - k) (m - k) (n - k) d P.dropLast false 0 (Nat.le_refl _) (by omega) (by omega) hd hAd (by rw [hPd.len]; exact hlq)
        have HX := Lib.hid hIH
        obtain ⟨X0, hX0⟩ : ∃ X, X = (hdF (m - k) (n - k) d P.dropLast false).1 := ⟨_, rfl⟩
        obtain ⟨X1, hX1⟩ : ∃ X, X = (hdF (m - k) (n - k) d P.dropLast false).2 := ⟨_, rfl⟩
        rw [← hX0] at HX hXl ⊢
        rw [← hX1] at HX hYl ⊢
        have HN0 := Lib.hid (fun w => rNode_any y X0 w hyl hXl)
        have HN1 := Lib.hid (fun w => rNode_any y X1 w hyl hYl)
        have hS0l : (nodeH y X0).length = 32 := shaL_len _
        have hSl : (nodeH y X1).length = 32 := shaL_len _
        obtain ⟨S0, hS0⟩ : ∃ S, S = nodeH y X0 := ⟨_, rfl⟩
        obtain ⟨S1, hS1⟩ : ∃ S, S = nodeH y X1 := ⟨_, rfl⟩
        rw [← hS0] at HN0 hS0l ⊢
        rw [← hS1] at HN1 hSl ⊢
        have hc : ¬ ((m : Int) ≤ (k : Int)) := by omega
        have hkm : (k : Int) ≤ (m : Int) := by omega
        have hkn : (k : Int) ≤ (n : Int) := by omega
        have HWI : Hid (IntKind.u64.wrap ((m : Int) - (k : Int)) = (m : Int) - (k : Int)) := by show _ = _; rw [IntKind.wrap_u64]; omega
        have HWN : Hid (IntKind.u64.wrap ((n : Int) - (k : Int)) = (n : Int) - (k : Int)) := by show _ = _; rw [IntKind.wrap_u64]; omega
        have h32S0 : Hid ((Try.prog.info? 41).map (·.size) = some (bvs S0).length) := by show _ = _; rw [bvs_len, hS0l]; exact sizeD
        have hS032 : Hid ((bvs S0).length = 32) := by show _ = _; rw [bvs_len]; exact hS0l
        clear hX0 hX1 hS0 hS1 hS0l
        have h32S1 : Hid ((Try.prog.info? 41).map (·.size) = some (bvs S1).length) := by show _ = _; rw [bvs_len, hSl]; exact sizeD
        have hS132 : Hid ((bvs S1).length = 32) := by show _ = _; rw [bvs_len]; exact hSl
        have h32X0 : Hid ((Try.prog.info? 41).map (·.size) = some (bvs X0).length) := by show _ = _; rw [bvs_len, hXl]; exact sizeD
        have hX032 : Hid ((bvs X0).length = 32) := by show _ = _; rw [bvs_len]; exact hXl
        have h32X1 : Hid ((Try.prog.info? 41).map (·.size) = some (bvs X1).length) := by show _ = _; rw [bvs_len, hYl]; exact sizeD
        have hX132 : Hid ((bvs X1).length = 32) := by show _ = _; rw [bvs_len]; exact hYl
        clear ih hN hIH hXl hYl hSl hyl hyq hy hPd hAd hlq hqq hm20 hq1 hlP hP hk b1 b2 b3 hlt hmn2 h1 hmn h20
        go_enter Try.func28, Try.ntmps28
        go_upto_region 10 with (first
          | ((with_reducible show wpList _ _ _ (⟨some 7, .box _ _, _, _, _, _⟩ :: _) _ _); refine wl_box rfl 41 _ rfl (bvs d) rfl ?_; intro w1 hA1 hb1 hs1)
          | ((with_reducible show wpList _ _ _ (⟨some 10, .alloc _, _, _, _, _⟩ :: _) _ _); refine wl_alloc rfl 41 rfl (bvs (Z8 32)) 32 infoD ?_; intro w2 hA2 hb2 hs2)
          | ((with_reducible show wpList _ _ _ (⟨some 11, .alloc _, _, _, _, _⟩ :: _) _ _); refine wl_alloc rfl 41 rfl (bvs (Z8 32)) 32 infoD ?_; intro w3 hA3 hb3 hs3; have b03 : Below w.heap.size w w3 := (hb1.trans (hb2.mono hb1.size)).trans (hb3.mono (by have := hb1.size; have := hb2.size; omega)))
          | (go_at_call 34; refine (HS.out _).mono ?_; rintro e w4 ⟨rfl, hw4⟩; obtain rfl := hw4.symm)
          | ((with_reducible show wpList _ _ _ (⟨some 41, .load _ _, _, _, _, _⟩ :: _) _ _); refine wpList_load_mid rfl 41 _ rfl pb (po + q * 32) rfl (bvs y) (.array 32 5) (fun j v hj => (b03.cell (p := ⟨pb, po + q * 32 + j, none⟩) hpbl).trans (hPr j v hj)) Try.underlying41 rfl h32y.out ?_)
          | ((with_reducible show wpList _ _ _ (⟨some 14, .alloc _, _, _, _, _⟩ :: _) _ _); refine wl_alloc rfl 41 rfl (bvs (Z8 32)) 32 infoD ?_; intro w5 hA5 hb5 hs5)
          | ((with_reducible show wpList _ _ _ (⟨none, .store _ _ _, _, _, _, _⟩ :: _) _ _); refine wl_store rfl 41 _ _ rfl w3.heap.size 0 rfl (bvs y) rfl 41 _ hA5 h32y.out (by rw [hy32.out]; exact (by decide : 0 + 32 ≤ (bvs (Z8 32)).length)) (bvs_one _) ?_; intro w6 hA6 hg6 hs6))
        rw [whole_store _ _ (by rw [hy32.out]; rfl)] at hA6
        have z1 := hb1.size
        have z2 := hb2.size
        have z3 := hb3.size
        have z5 := hb5.size
        have b36 : Below w3.heap.size w3 w6 := hb5.grown hg6 z5 (by intro k e; injection e with e; omega)
        have b06 : Below w.heap.size w w6 := b03.trans (b36.mono (by omega))
        have A7 : Arr w6 w.heap.size 41 (bvs d) := ((hA1.kept hb2).kept hb3).kept b36
        have A10 : Arr w6 w1.heap.size 41 (bvs (Z8 32)) := (hA2.kept hb3).kept b36
        have A11 : Arr w6 w2.heap.size 41 (bvs (Z8 32)) := hA3.kept b36
        have z6 := b06.size
        obtain ⟨g7, hg7⟩ : ∃ g, g = w.heap.size := ⟨_, rfl⟩
        obtain ⟨g10, hg10⟩ : ∃ g, g = w1.heap.size := ⟨_, rfl⟩
        obtain ⟨g11, hg11⟩ : ∃ g, g = w2.heap.size := ⟨_, rfl⟩
        obtain ⟨g14, hg14⟩ : ∃ g, g = w3.heap.size := ⟨_, rfl⟩
        have n2 : g10 ≠ g11 := by omega
        have n14 : ¬ (g14 = g10 ∨ g14 = g11) := by omega
        have n3 : w.heap.size ≤ g10 ∧ w.heap.size ≤ g11 := by omega
        have n6 : g10 < w6.heap.size ∧ g11 < w6.heap.size := by rw [hg10, hg11]; exact ⟨A10.lt, A11.lt⟩
        go_simp
        rw [← hg7, ← hg10, ← hg11, ← hg14]
        rw [← hg7] at A7
        rw [← hg10] at A10
        rw [← hg11] at A11
        rw [← hg14] at hA6
        have HB := Lib.hid b06
        have HPQ := Lib.hid n2
        have HN := Lib.hid n3
        have H14 := Lib.hid n14
        have H6 := Lib.hid n6
        have Z6 := Lib.hid z6
        have HA7 : Hid (∀ wx, Below w6.heap.size w6 wx → Arr wx g7 41 (bvs d)) := fun wx hb => A7.kept hb
        have HA14 : Hid (∀ wx, Below w6.heap.size w6 wx → Arr wx g14 41 (bvs y)) := fun wx hb => hA6.kept hb
        have HA10 : Hid (∀ wx, Below w6.heap.size w6 wx → Arr wx g10 41 (bvs (Z8 32))) := fun wx hb => A10.kept hb
        have HA11 : Hid (∀ wx, Below w6.heap.size w6 wx → Arr wx g11 41 (bvs (Z8 32))) := fun wx hb => A11.kept hb
        clear hA1 hA2 hA3 hA5 hA6 hb1 hb2 hb3 hb5 hs1 hs2 hs3 hs5 hs6 hg6 b03 b36 b06 A7 A10 A11 z1 z2 z3 z5 z6 hg7 hg10 hg11 hg14 n2 n14 n3 n6 hPr hpbl
        refine wp_region_steps [[], [], [0, 1], [], [], [3, 4], [], [], [], [8], [9], [7, 10], [2, 5, 6, 11], [12], [13], [13], [], [], [16, 14], [17, 15]] (by kernel_rfl) (by kernel_rfl) (fun L a wx => ∃ v63 v64 v65 v66 v67 v68 v69 v70 v71 v72 v73 v74 v75 v62 v76 v77 v17 v18, a = ⟨#[.int .u64 ↑m, .int .u64 ↑n, .agg (bvs d).toArray, .slice (some ⟨pb, po, none⟩) (q + 1) c, .bool b, undef, undef, .pointer (some ⟨g7, 0, none⟩), undef, undef, .pointer (some ⟨g10, 0, none⟩), .pointer (some ⟨g11, 0, none⟩), .int .u64 ↑k, .int .i64 0, .pointer (some ⟨g14, 0, none⟩), undef, undef, v17, v18, .int .u64 ↑m, .int .u64 ↑n, .bool false, undef, undef, undef, undef, undef, undef, undef, undef, undef, .tuple #[.int .u64 ↑k, .int .i64 0], .int .u64 ↑n, .tuple #[.int .u64 ↑k, .int .i64 0], .int .u64 ↑k, .int .i64 0, .slice (some ⟨pb, po, none⟩) (q + 1) c, .slice (some ⟨pb, po, none⟩) (q + 1) c, .int .i64 (↑q + 1), .int .i64 ↑q, .pointer (some ⟨pb, po + q * 32, none⟩), .agg (bvs y).toArray, .int .u64 ↑m, .int .u64 ↑k, .bool false, undef, undef, undef, undef, undef, undef, undef, undef, undef, undef, undef, undef, undef, undef, undef, undef, undef, v62, v63, v64, v65, v66, v67, v68, v69, v70, v71, v72, v73, v74, v75, v76, v77, undef, undef, undef, undef, undef, undef], []⟩ ∧ InvHd10 d y X0 X1 b m n k q c pb po g7 g10 g11 g14 w6 L v63 v64 v65 v66 v67 v68 v69 v70 v71 v72 v73 v74 v75 v62 v76 v77 v17 v18 wx) ?_ ⟨?_, ?_, ?_, ?_, ?_, ?_, ?_, ?_, ?_, ?_, ?_, ?_, ?_, ?_, ?_, ?_, ?_, ?_, ?_, ?_, trivial⟩ ?_
        · refine ⟨_, _, _, _, _, _, _, _, _, _, _, _, _, _, _, _, _, _, rfl, ⟨?_, ?_, ?_, ?_, ?_, ?_, ?_, ?_, ?_, ?_, ?_, ?_, ?_, ?_, ?_, ?_, ?_, ?_, (Below.refl _ _).drew, fun h => absurd h (by decide), fun h => absurd h (by decide), fun h => absurd h (by decide), fun h => absurd h (by decide), fun h => absurd h (by decide), fun h => absurd h (by decide), fun h => absurd h (by decide)⟩⟩ <;> (intro h; exact absurd h (by decide))
        · rintro L a wx ⟨v63, v64, v65, v66, v67, v68, v69, v70, v71, v72, v73, v74, v75, v62, v76, v77, v17, v18, rfl, hI⟩ hL hdep hcl K hK
          go_simp
          exact hK _ _ ⟨_, v64, v65, v66, v67, v68, v69, v70, v71, v72, v73, v74, v75, v62, v76, v77, v17, v18, rfl, ⟨fun _ => rfl, hI.t1, hI.t2, hI.t3, hI.t4, hI.t5, hI.t6, hI.t7, hI.t8, hI.t9, hI.t10, hI.t11, hI.t12, hI.t13, hI.t14, hI.t15, hI.t16, hI.t17, hI.bw, hI.p0, hI.q0, hI.p1, hI.q1, hI.m0, hI.m1, hI.df⟩⟩
        · rintro L a wx ⟨v63, v64, v65, v66, v67, v68, v69, v70, v71, v72, v73, v74, v75, v62, v76, v77, v17, v18, rfl, hI⟩ hL hdep hcl K hK
          go_simp
          exact hK _ _ ⟨v63, _, v65, v66, v67, v68, v69, v70, v71, v72, v73, v74, v75, v62, v76, v77, v17, v18, rfl, ⟨hI.t0, fun _ => rfl, hI.t2, hI.t3, hI.t4, hI.t5, hI.t6, hI.t7, hI.t8, hI.t9, hI.t10, hI.t11, hI.t12, hI.t13, hI.t14, hI.t15, hI.t16, hI.t17, hI.bw, hI.p0, hI.q0, hI.p1, hI.q1, hI.m0, hI.m1, hI.df⟩⟩
        · rintro L a wx ⟨v63, v64, v65, v66, v67, v68, v69, v70, v71, v72, v73, v74, v75, v62, v76, v77, v17, v18, rfl, hI⟩ hL hdep hcl K hK
          obtain rfl := hI.t0 (hdep 0 (by decide))
          obtain rfl := hI.t1 (hdep 1 (by decide))
          go_simp
          rw [HWI.out]
          exact hK _ _ ⟨_, _, _, v66, v67, v68, v69, v70, v71, v72, v73, v74, v75, v62, v76, v77, v17, v18, rfl, ⟨hI.t0, hI.t1, fun _ => rfl, hI.t3, hI.t4, hI.t5, hI.t6, hI.t7, hI.t8, hI.t9, hI.t10, hI.t11, hI.t12, hI.t13, hI.t14, hI.t15, hI.t16, hI.t17, hI.bw, hI.p0, hI.q0, hI.p1, hI.q1, hI.m0, hI.m1, hI.df⟩⟩
        · rintro L a wx ⟨v63, v64, v65, v66, v67, v68, v69, v70, v71, v72, v73, v74, v75, v62, v76, v77, v17, v18, rfl, hI⟩ hL hdep hcl K hK
          go_simp
          exact hK _ _ ⟨v63, v64, v65, _, v67, v68, v69, v70, v71, v72, v73, v74, v75, v62, v76, v77, v17, v18, rfl, ⟨hI.t0, hI.t1, hI.t2, fun _ => rfl, hI.t4, hI.t5, hI.t6, hI.t7, hI.t8, hI.t9, hI.t10, hI.t11, hI.t12, hI.t13, hI.t14, hI.t15, hI.t16, hI.t17, hI.bw, hI.p0, hI.q0, hI.p1, hI.q1, hI.m0, hI.m1, hI.df⟩⟩
        · rintro L a wx ⟨v63, v64, v65, v66, v67, v68, v69, v70, v71, v72, v73, v74, v75, v62, v76, v77, v17, v18, rfl, hI⟩ hL hdep hcl K hK
          go_simp
          exact hK _ _ ⟨v63, v64, v65, v66, _, v68, v69, v70, v71, v72, v73, v74, v75, v62, v76, v77, v17, v18, rfl, ⟨hI.t0, hI.t1, hI.t2, hI.t3, fun _ => rfl, hI.t5, hI.t6, hI.t7, hI.t8, hI.t9, hI.t10, hI.t11, hI.t12, hI.t13, hI.t14, hI.t15, hI.t16, hI.t17, hI.bw, hI.p0, hI.q0, hI.p1, hI.q1, hI.m0, hI.m1, hI.df⟩⟩
        · rintro L a wx ⟨v63, v64, v65, v66, v67, v68, v69, v70, v71, v72, v73, v74, v75, v62, v76, v77, v17, v18, rfl, hI⟩ hL hdep hcl K hK
          obtain rfl := hI.t3 (hdep 3 (by decide))
          obtain rfl := hI.t4 (hdep 4 (by decide))
          go_simp
          rw [HWN.out]
          exact hK _ _ ⟨v63, v64, v65, _, _, _, v69, v70, v71, v72, v73, v74, v75, v62, v76, v77, v17, v18, rfl, ⟨hI.t0, hI.t1, hI.t2, hI.t3, hI.t4, fun _ => rfl, hI.t6, hI.t7, hI.t8, hI.t9, hI.t10, hI.t11, hI.t12, hI.t13, hI.t14, hI.t15, hI.t16, hI.t17, hI.bw, hI.p0, hI.q0, hI.p1, hI.q1, hI.m0, hI.m1, hI.df⟩⟩
        · rintro L a wx ⟨v63, v64, v65, v66, v67, v68, v69, v70, v71, v72, v73, v74, v75, v62, v76, v77, v17, v18, rfl, hI⟩ hL hdep hcl K hK
          refine ow_load 41 _ rfl g7 0 rfl 41 (bvs d) (bvs d) (HA7.out wx hI.bw) (fun j v h => by rw [Nat.zero_add]; exact h) (.array 32 5) Try.underlying41 rfl h32d.out ?_
          exact hK _ _ ⟨v63, v64, v65, v66, v67, v68, _, v70, v71, v72, v73, v74, v75, v62, v76, v77, v17, v18, rfl, ⟨hI.t0, hI.t1, hI.t2, hI.t3, hI.t4, hI.t5, fun _ => rfl, hI.t7, hI.t8, hI.t9, hI.t10, hI.t11, hI.t12, hI.t13, hI.t14, hI.t15, hI.t16, hI.t17, hI.bw, hI.p0, hI.q0, hI.p1, hI.q1, hI.m0, hI.m1, hI.df⟩⟩
        · rintro L a wx ⟨v63, v64, v65, v66, v67, v68, v69, v70, v71, v72, v73, v74, v75, v62, v76, v77, v17, v18, rfl, hI⟩ hL hdep hcl K hK
          go_simp
          exact hK _ _ ⟨v63, v64, v65, v66, v67, v68, v69, _, v71, v72, v73, v74, v75, v62, v76, v77, v17, v18, rfl, ⟨hI.t0, hI.t1, hI.t2, hI.t3, hI.t4, hI.t5, hI.t6, fun _ => rfl, hI.t8, hI.t9, hI.t10, hI.t11, hI.t12, hI.t13, hI.t14, hI.t15, hI.t16, hI.t17, hI.bw, hI.p0, hI.q0, hI.p1, hI.q1, hI.m0, hI.m1, hI.df⟩⟩
        · rintro L a wx ⟨v63, v64, v65, v66, v67, v68, v69, v70, v71, v72, v73, v74, v75, v62, v76, v77, v17, v18, rfl, hI⟩ hL hdep hcl K hK
          go_simp
          exact hK _ _ ⟨v63, v64, v65, v66, v67, v68, v69, v70, _, v72, v73, v74, v75, v62, v76, v77, v17, v18, rfl, ⟨hI.t0, hI.t1, hI.t2, hI.t3, hI.t4, hI.t5, hI.t6, hI.t7, fun _ => rfl, hI.t9, hI.t10, hI.t11, hI.t12, hI.t13, hI.t14, hI.t15, hI.t16, hI.t17, hI.bw, hI.p0, hI.q0, hI.p1, hI.q1, hI.m0, hI.m1, hI.df⟩⟩
        · rintro L a wx ⟨v63, v64, v65, v66, v67, v68, v69, v70, v71, v72, v73, v74, v75, v62, v76, v77, v17, v18, rfl, hI⟩ hL hdep hcl K hK
          obtain rfl := hI.t8 (hdep 8 (by decide))
          go_simp
          exact hK _ _ ⟨v63, v64, v65, v66, v67, v68, v69, v70, _, _, v73, v74, v75, v62, v76, v77, v17, v18, rfl, ⟨hI.t0, hI.t1, hI.t2, hI.t3, hI.t4, hI.t5, hI.t6, hI.t7, hI.t8, fun _ => rfl, hI.t10, hI.t11, hI.t12, hI.t13, hI.t14, hI.t15, hI.t16, hI.t17, hI.bw, hI.p0, hI.q0, hI.p1, hI.q1, hI.m0, hI.m1, hI.df⟩⟩
        · rintro L a wx ⟨v63, v64, v65, v66, v67, v68, v69, v70, v71, v72, v73, v74, v75, v62, v76, v77, v17, v18, rfl, hI⟩ hL hdep hcl K hK
          obtain rfl := hI.t9 (hdep 9 (by decide))
          go_simp
          rw [HWQ.out]
          exact hK _ _ ⟨v63, v64, v65, v66, v67, v68, v69, v70, v71, _, _, v74, v75, v62, v76, v77, v17, v18, rfl, ⟨hI.t0, hI.t1, hI.t2, hI.t3, hI.t4, hI.t5, hI.t6, hI.t7, hI.t8, hI.t9, fun _ => rfl, hI.t11, hI.t12, hI.t13, hI.t14, hI.t15, hI.t16, hI.t17, hI.bw, hI.p0, hI.q0, hI.p1, hI.q1, hI.m0, hI.m1, hI.df⟩⟩
        · rintro L a wx ⟨v63, v64, v65, v66, v67, v68, v69, v70, v71, v72, v73, v74, v75, v62, v76, v77, v17, v18, rfl, hI⟩ hL hdep hcl K hK
          obtain rfl := hI.t7 (hdep 7 (by decide))
          obtain rfl := hI.t10 (hdep 10 (by decide))
          go_simp
          exact hK _ _ ⟨v63, v64, v65, v66, v67, v68, v69, _, v71, v72, _, _, v75, v62, v76, v77, v17, v18, rfl, ⟨hI.t0, hI.t1, hI.t2, hI.t3, hI.t4, hI.t5, hI.t6, hI.t7, hI.t8, hI.t9, hI.t10, fun _ => rfl, hI.t12, hI.t13, hI.t14, hI.t15, hI.t16, hI.t17, hI.bw, hI.p0, hI.q0, hI.p1, hI.q1, hI.m0, hI.m1, hI.df⟩⟩
        · rintro L a wx ⟨v63, v64, v65, v66, v67, v68, v69, v70, v71, v72, v73, v74, v75, v62, v76, v77, v17, v18, rfl, hI⟩ hL hdep hcl K hK
          obtain rfl := hI.t2 (hdep 2 (by decide))
          obtain rfl := hI.t5 (hdep 5 (by decide))
          obtain rfl := hI.t6 (hdep 6 (by decide))
          obtain rfl := hI.t11 (hdep 11 (by decide))
          have HC := HX.out wx (HB.out.trans (hI.bw.mono Z6.out))
          go_simp
          refine HC.mono ?_
          rintro e w' ⟨rfl, hb⟩
          exact hK _ _ ⟨v63, v64, _, v66, v67, _, _, v70, v71, v72, v73, _, _, v62, v76, v77, v17, v18, rfl, ⟨hI.t0, hI.t1, hI.t2, hI.t3, hI.t4, hI.t5, hI.t6, hI.t7, hI.t8, hI.t9, hI.t10, hI.t11, fun _ => rfl, hI.t13, hI.t14, hI.t15, hI.t16, hI.t17, (hI.bw).trans (hb.mono (hI.bw).size), fun h h2 => ((hI.p0) h h2).to hb, fun h => ((hI.q0) h).to hb, fun h h2 => ((hI.p1) h h2).to hb, fun h => ((hI.q1) h).to hb, fun h => ((hI.m0) h).to hb.size, fun h => ((hI.m1) h).to hb.size, hI.df⟩⟩
        · rintro L a wx ⟨v63, v64, v65, v66, v67, v68, v69, v70, v71, v72, v73, v74, v75, v62, v76, v77, v17, v18, rfl, hI⟩ hL hdep hcl K hK
          obtain rfl := hI.t12 (hdep 12 (by decide))
          go_simp
          exact hK _ _ ⟨v63, v64, v65, v66, v67, v68, v69, v70, v71, v72, v73, v74, _, _, v76, v77, v17, v18, rfl, ⟨hI.t0, hI.t1, hI.t2, hI.t3, hI.t4, hI.t5, hI.t6, hI.t7, hI.t8, hI.t9, hI.t10, hI.t11, hI.t12, fun _ => rfl, hI.t14, hI.t15, hI.t16, hI.t17, hI.bw, hI.p0, hI.q0, hI.p1, hI.q1, hI.m0, hI.m1, hI.df⟩⟩
        · rintro L a wx ⟨v63, v64, v65, v66, v67, v68, v69, v70, v71, v72, v73, v74, v75, v62, v76, v77, v17, v18, rfl, hI⟩ hL hdep hcl K hK
          obtain rfl := hI.t13 (hdep 13 (by decide))
          go_simp
          exact hK _ _ ⟨v63, v64, v65, v66, v67, v68, v69, v70, v71, v72, v73, v74, v75, _, _, v77, v17, v18, rfl, ⟨hI.t0, hI.t1, hI.t2, hI.t3, hI.t4, hI.t5, hI.t6, hI.t7, hI.t8, hI.t9, hI.t10, hI.t11, hI.t12, hI.t13, fun _ => rfl, hI.t15, hI.t16, hI.t17, hI.bw, hI.p0, hI.q0, hI.p1, hI.q1, hI.m0, hI.m1, hI.df⟩⟩
        · rintro L a wx ⟨v63, v64, v65, v66, v67, v68, v69, v70, v71, v72, v73, v74, v75, v62, v76, v77, v17, v18, rfl, hI⟩ hL hdep hcl K hK
          obtain rfl := hI.t13 (hdep 13 (by decide))
          go_simp
          exact hK _ _ ⟨v63, v64, v65, v66, v67, v68, v69, v70, v71, v72, v73, v74, v75, _, v76, _, v17, v18, rfl, ⟨hI.t0, hI.t1, hI.t2, hI.t3, hI.t4, hI.t5, hI.t6, hI.t7, hI.t8, hI.t9, hI.t10, hI.t11, hI.t12, hI.t13, hI.t14, fun _ => rfl, hI.t16, hI.t17, hI.bw, hI.p0, hI.q0, hI.p1, hI.q1, hI.m0, hI.m1, hI.df⟩⟩
        · rintro L a wx ⟨v63, v64, v65, v66, v67, v68, v69, v70, v71, v72, v73, v74, v75, v62, v76, v77, v17, v18, rfl, hI⟩ hL hdep hcl K hK
          refine ow_alloc 41 rfl (bvs (Z8 32)) 32 infoD ?_
          intro w' hA' hb hs'
          exact hK _ _ ⟨v63, v64, v65, v66, v67, v68, v69, v70, v71, v72, v73, v74, v75, v62, v76, v77, _, v18, rfl, ⟨hI.t0, hI.t1, hI.t2, hI.t3, hI.t4, hI.t5, hI.t6, hI.t7, hI.t8, hI.t9, hI.t10, hI.t11, hI.t12, hI.t13, hI.t14, hI.t15, fun _ => trivial, hI.t17, (hI.bw).trans (hb.mono (hI.bw).size), fun _ _ => ⟨_, rfl, hI.bw.size, hA'⟩, fun h => (by have h4 := hcl 18 (by decide) h 16 (by decide); rw [hL] at h4; cases h4), fun h h2 => ((hI.p1) h h2).to hb, fun h => ((hI.q1) h).to hb, fun _ => ⟨_, rfl, hs'⟩, fun h => ((hI.m1) h).to hb.size, fun _ h => (hI.m1 h).ne⟩⟩
        · rintro L a wx ⟨v63, v64, v65, v66, v67, v68, v69, v70, v71, v72, v73, v74, v75, v62, v76, v77, v17, v18, rfl, hI⟩ hL hdep hcl K hK
          refine ow_alloc 41 rfl (bvs (Z8 32)) 32 infoD ?_
          intro w' hA' hb hs'
          exact hK _ _ ⟨v63, v64, v65, v66, v67, v68, v69, v70, v71, v72, v73, v74, v75, v62, v76, v77, v17, _, rfl, ⟨hI.t0, hI.t1, hI.t2, hI.t3, hI.t4, hI.t5, hI.t6, hI.t7, hI.t8, hI.t9, hI.t10, hI.t11, hI.t12, hI.t13, hI.t14, hI.t15, hI.t16, fun _ => trivial, (hI.bw).trans (hb.mono (hI.bw).size), fun h h2 => ((hI.p0) h h2).to hb, fun h => ((hI.q0) h).to hb, fun _ _ => ⟨_, rfl, hI.bw.size, hA'⟩, fun h => (by have h4 := hcl 19 (by decide) h 17 (by decide); rw [hL] at h4; cases h4), fun h => ((hI.m0) h).to hb.size, fun _ => ⟨_, rfl, hs'⟩, fun h _ => (hI.m0 h).ne.symm⟩⟩
        · rintro L a wx ⟨v63, v64, v65, v66, v67, v68, v69, v70, v71, v72, v73, v74, v75, v62, v76, v77, v17, v18, rfl, hI⟩ hL hdep hcl K hK
          obtain rfl := hI.t14 (hdep 14 (by decide))
          obtain ⟨g, rfl, hge, hA⟩ := hI.p0 (hdep 16 (by decide)) hL
          refine ow_store 41 _ _ rfl g 0 rfl (bvs X0) rfl 41 _ hA h32X0.out (by rw [hX032.out]; exact (by decide : 0 + 32 ≤ (bvs (Z8 32)).length)) (bvs_one _) ?_
          intro w' hA' hg' hs'
          rw [whole_store _ _ (by rw [hX032.out]; rfl)] at hA'
          exact hK _ _ ⟨v63, v64, v65, v66, v67, v68, v69, v70, v71, v72, v73, v74, v75, v62, _, v77, _, v18, rfl, ⟨hI.t0, hI.t1, hI.t2, hI.t3, hI.t4, hI.t5, hI.t6, hI.t7, hI.t8, hI.t9, hI.t10, hI.t11, hI.t12, hI.t13, hI.t14, hI.t15, hI.t16, hI.t17, hI.bw.grown hg' hI.bw.size (by intro k e; injection e with e; omega), fun _ h => (nomatch (show true = false from h)), fun _ => ⟨_, rfl, hge, hA'⟩, fun h h2 => (hI.p1 h h2).grown hg' (fun e => hI.df (hdep 16 (by decide)) h e.symm), fun h => (hI.q1 h).grown hg' (fun e => hI.df (hdep 16 (by decide)) (hcl 19 (by decide) h 17 (by decide)) e.symm), fun h => (hI.m0 h).to hg'.size, fun h => (hI.m1 h).to hg'.size, hI.df⟩⟩
        · rintro L a wx ⟨v63, v64, v65, v66, v67, v68, v69, v70, v71, v72, v73, v74, v75, v62, v76, v77, v17, v18, rfl, hI⟩ hL hdep hcl K hK
          obtain rfl := hI.t15 (hdep 15 (by decide))
          obtain ⟨g, rfl, hge, hA⟩ := hI.p1 (hdep 17 (by decide)) hL
          refine ow_store 41 _ _ rfl g 0 rfl (bvs X1) rfl 41 _ hA h32X1.out (by rw [hX132.out]; exact (by decide : 0 + 32 ≤ (bvs (Z8 32)).length)) (bvs_one _) ?_
          intro w' hA' hg' hs'
          rw [whole_store _ _ (by rw [hX132.out]; rfl)] at hA'
          exact hK _ _ ⟨v63, v64, v65, v66, v67, v68, v69, v70, v71, v72, v73, v74, v75, v62, v76, _, v17, _, rfl, ⟨hI.t0, hI.t1, hI.t2, hI.t3, hI.t4, hI.t5, hI.t6, hI.t7, hI.t8, hI.t9, hI.t10, hI.t11, hI.t12, hI.t13, hI.t14, hI.t15, hI.t16, hI.t17, hI.bw.grown hg' hI.bw.size (by intro k e; injection e with e; omega), fun h h2 => (hI.p0 h h2).grown hg' (hI.df h (hdep 17 (by decide))), fun h => (hI.q0 h).grown hg' (hI.df (hcl 18 (by decide) h 16 (by decide)) (hdep 17 (by decide))), fun _ h => (nomatch (show true = false from h)), fun _ => ⟨_, rfl, hge, hA'⟩, fun h => (hI.m0 h).to hg'.size, fun h => (hI.m1 h).to hg'.size, hI.df⟩⟩
        · rintro a wx ⟨v63, v64, v65, v66, v67, v68, v69, v70, v71, v72, v73, v74, v75, v62, v76, v77, v17, v18, rfl, hI⟩
          obtain ⟨g15, rfl, hge15, A15⟩ := hI.q0 rfl
          obtain ⟨g16, rfl, hge16, A16⟩ := hI.q1 rfl
          have hbw := hI.bw
          clear hI
          have hAP := HA10.out wx hbw
          have hAQ := HA11.out wx hbw
          have HA14' := Lib.hid (HA14.out wx hbw)
          have l14 := Lib.hid (HA14.out wx hbw).lt
          have l15 := Lib.hid A15.lt
          have l16 := Lib.hid A16.lt
          have n15 : Hid (¬ (g15 = g10 ∨ g15 = g11)) := by show ¬ _; have := H6.out; omega
          have n16 : Hid (¬ (g16 = g10 ∨ g16 = g11)) := by show ¬ _; have := H6.out; omega
          have HB2 := Lib.hid (HB.out.trans (hbw.mono Z6.out))
          have HZ2 := Lib.hid HB2.out.size
          have HA15 := Lib.hid A15
          have HA16 := Lib.hid A16
          clear A15 A16 hbw hge15 hge16
          rename World => w9
          go_upto_region 11 with fail
          refine wp_region_steps [[], [], [0, 1], [], [], [3, 4], [2], [5]] (by kernel_rfl) (by kernel_rfl) (fun L a wx => ∃ v78 v79 v80 v81 v82 v83, a = ⟨#[.int .u64 ↑m, .int .u64 ↑n, .agg (bvs d).toArray, .slice (some ⟨pb, po, none⟩) (q + 1) c, .bool b, undef, undef, .pointer (some ⟨g7, 0, none⟩), undef, undef, .pointer (some ⟨g10, 0, none⟩), .pointer (some ⟨g11, 0, none⟩), .int .u64 ↑k, .int .i64 0, .pointer (some ⟨g14, 0, none⟩), undef, undef, .pointer (some ⟨g15, 0, none⟩), .pointer (some ⟨g16, 0, none⟩), .int .u64 ↑m, .int .u64 ↑n, .bool false, undef, undef, undef, undef, undef, undef, undef, undef, undef, .tuple #[.int .u64 ↑k, .int .i64 0], .int .u64 ↑n, .tuple #[.int .u64 ↑k, .int .i64 0], .int .u64 ↑k, .int .i64 0, .slice (some ⟨pb, po, none⟩) (q + 1) c, .slice (some ⟨pb, po, none⟩) (q + 1) c, .int .i64 (↑q + 1), .int .i64 ↑q, .pointer (some ⟨pb, po + q * 32, none⟩), .agg (bvs y).toArray, .int .u64 ↑m, .int .u64 ↑k, .bool false, undef, undef, undef, undef, undef, undef, undef, undef, undef, undef, undef, undef, undef, undef, undef, undef, undef, v62, v63, v64, v65, v66, v67, v68, v69, v70, v71, v72, v73, v74, v75, v76, v77, v78, v79, v80, v81, v82, v83], []⟩ ∧ InvHd11 d y X0 X1 S0 S1 b m n k q c pb po g7 g10 g11 g14 g15 g16 w9 L v78 v79 v80 v81 v82 v83 wx) ?_ ⟨?_, ?_, ?_, ?_, ?_, ?_, ?_, ?_, trivial⟩ ?_
          · refine ⟨_, _, _, _, _, _, rfl, ⟨?_, ?_, ?_, ?_, ?_, ?_, (KB.refl _ _).below (Below.refl _ _).drew, fun _ => hAP.drew, fun h => absurd h (by decide), fun _ => hAQ.drew, fun h => absurd h (by decide)⟩⟩ <;> (intro h; exact absurd h (by decide))
          · rintro L a wx ⟨v78, v79, v80, v81, v82, v83, rfl, hI⟩ hL hdep hcl K hK
            refine ow_load 41 _ rfl g14 0 rfl 41 (bvs y) (bvs y) ((hI.kb.block g14 l14.out H14.out).trans HA14'.out) (fun j v h => by rw [Nat.zero_add]; exact h) (.array 32 5) Try.underlying41 rfl h32y.out ?_
            exact hK _ _ ⟨_, v79, v80, v81, v82, v83, rfl, ⟨fun _ => rfl, hI.t1, hI.t2, hI.t3, hI.t4, hI.t5, hI.kb, hI.ap0, hI.ap1, hI.aq0, hI.aq1⟩⟩
          · rintro L a wx ⟨v78, v79, v80, v81, v82, v83, rfl, hI⟩ hL hdep hcl K hK
            refine ow_load 41 _ rfl g15 0 rfl 41 (bvs X0) (bvs X0) ((hI.kb.block g15 l15.out n15.out).trans HA15.out) (fun j v h => by rw [Nat.zero_add]; exact h) (.array 32 5) Try.underlying41 rfl h32X0.out ?_
            exact hK _ _ ⟨v78, _, v80, v81, v82, v83, rfl, ⟨hI.t0, fun _ => rfl, hI.t2, hI.t3, hI.t4, hI.t5, hI.kb, hI.ap0, hI.ap1, hI.aq0, hI.aq1⟩⟩
          · rintro L a wx ⟨v78, v79, v80, v81, v82, v83, rfl, hI⟩ hL hdep hcl K hK
            obtain rfl := hI.t0 (hdep 0 (by decide))
            obtain rfl := hI.t1 (hdep 1 (by decide))
            have HC := HN0.out wx
            go_simp
            refine HC.mono ?_
            rintro e w' ⟨rfl, hb⟩
            exact hK _ _ ⟨_, _, _, v81, v82, v83, rfl, ⟨hI.t0, hI.t1, fun _ => rfl, hI.t3, hI.t4, hI.t5, (hI.kb).below hb, fun h => ((hI.ap0) h).kept hb, fun h => ((hI.ap1) h).kept hb, fun h => ((hI.aq0) h).kept hb, fun h => ((hI.aq1) h).kept hb⟩⟩
          · rintro L a wx ⟨v78, v79, v80, v81, v82, v83, rfl, hI⟩ hL hdep hcl K hK
            refine ow_load 41 _ rfl g14 0 rfl 41 (bvs y) (bvs y) ((hI.kb.block g14 l14.out H14.out).trans HA14'.out) (fun j v h => by rw [Nat.zero_add]; exact h) (.array 32 5) Try.underlying41 rfl h32y.out ?_
            exact hK _ _ ⟨v78, v79, v80, _, v82, v83, rfl, ⟨hI.t0, hI.t1, hI.t2, fun _ => rfl, hI.t4, hI.t5, hI.kb, hI.ap0, hI.ap1, hI.aq0, hI.aq1⟩⟩
          · rintro L a wx ⟨v78, v79, v80, v81, v82, v83, rfl, hI⟩ hL hdep hcl K hK
            refine ow_load 41 _ rfl g16 0 rfl 41 (bvs X1) (bvs X1) ((hI.kb.block g16 l16.out n16.out).trans HA16.out) (fun j v h => by rw [Nat.zero_add]; exact h) (.array 32 5) Try.underlying41 rfl h32X1.out ?_
            exact hK _ _ ⟨v78, v79, v80, v81, _, v83, rfl, ⟨hI.t0, hI.t1, hI.t2, hI.t3, fun _ => rfl, hI.t5, hI.kb, hI.ap0, hI.ap1, hI.aq0, hI.aq1⟩⟩
          · rintro L a wx ⟨v78, v79, v80, v81, v82, v83, rfl, hI⟩ hL hdep hcl K hK
            obtain rfl := hI.t3 (hdep 3 (by decide))
            obtain rfl := hI.t4 (hdep 4 (by decide))
            have HC := HN1.out wx
            go_simp
            refine HC.mono ?_
            rintro e w' ⟨rfl, hb⟩
            exact hK _ _ ⟨v78, v79, v80, _, _, _, rfl, ⟨hI.t0, hI.t1, hI.t2, hI.t3, hI.t4, fun _ => rfl, (hI.kb).below hb, fun h => ((hI.ap0) h).kept hb, fun h => ((hI.ap1) h).kept hb, fun h => ((hI.aq0) h).kept hb, fun h => ((hI.aq1) h).kept hb⟩⟩
          · rintro L a wx ⟨v78, v79, v80, v81, v82, v83, rfl, hI⟩ hL hdep hcl K hK
            obtain rfl := hI.t2 (hdep 2 (by decide))
            refine ow_store 41 _ _ rfl g10 0 rfl (bvs S0) rfl 41 _ (hI.ap0 hL) h32S0.out (by rw [hS032.out]; exact (by decide : 0 + 32 ≤ (bvs (Z8 32)).length)) (bvs_one _) ?_
            intro w' hA' hg' hs'
            rw [whole_store _ _ (by rw [hS032.out]; rfl)] at hA'
            exact hK _ _ ⟨v78, v79, _, v81, v82, v83, rfl, ⟨hI.t0, hI.t1, hI.t2, hI.t3, hI.t4, hI.t5, hI.kb.grown hg' (.inl rfl), fun h => (nomatch (show true = false from h)), fun _ => hA', fun h => (hI.aq0 h).grown hg' (by intro e; injection e with e; exact HPQ.out e.symm), fun h => (hI.aq1 h).grown hg' (by intro e; injection e with e; exact HPQ.out e.symm)⟩⟩
          · rintro L a wx ⟨v78, v79, v80, v81, v82, v83, rfl, hI⟩ hL hdep hcl K hK
            obtain rfl := hI.t5 (hdep 5 (by decide))
            refine ow_store 41 _ _ rfl g11 0 rfl (bvs S1) rfl 41 _ (hI.aq0 hL) h32S1.out (by rw [hS132.out]; exact (by decide : 0 + 32 ≤ (bvs (Z8 32)).length)) (bvs_one _) ?_
            intro w' hA' hg' hs'
            rw [whole_store _ _ (by rw [hS132.out]; rfl)] at hA'
            exact hK _ _ ⟨v78, v79, v80, v81, v82, _, rfl, ⟨hI.t0, hI.t1, hI.t2, hI.t3, hI.t4, hI.t5, hI.kb.grown hg' (.inr rfl), fun h => (hI.ap0 h).grown hg' (by intro e; injection e with e; exact HPQ.out e), fun h => (hI.ap1 h).grown hg' (by intro e; injection e with e; exact HPQ.out e), fun h => (nomatch (show true = false from h)), fun _ => hA'⟩⟩
          · rintro a wx ⟨v78, v79, v80, v81, v82, v83, rfl, hI⟩
            have hP1 := hI.ap1 rfl
            have hQ1 := hI.aq1 rfl
            have hkb := hI.kb
            clear hI
            go_wp2_with fail
            refine end_cells rfl g10 g11 41 (bvs S0) (bvs S1) (.array 32 5) rfl hP1 rfl hQ1 Try.underlying41 rfl h32S0.out h32S1.out rfl ⟨rfl, ?_⟩
            have n3 := HN.out
            exact HB2.out.trans (hkb.under (fun k h => by rcases h with h | h <;> omega) HZ2.out)
end Go.Proofs.Ytcnnblhjgligbaa
