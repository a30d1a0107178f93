/-
  SignMarks: any signature's mark, any bytes as a mark, are the document's. Conditions: those in each statement.
-/
import Derived.Test.YtebegdifnkifgaaSgK
namespace Go.Proofs.Ytebegdifnkifgaa
open Go.RowKit

structure InvMks (S : List Value) (sig : List UInt8) (E : Int) (g2 g5 g7 n c : Nat) (pa : Option Addr) (w5 : World) (L : Nat → Bool) (v19 v20 v21 v22 v23 v24 v25 v26 v27 v28 v29 v30 v31 v32 v33 v34 v35 v36 v37 v38 v4 : Value) (wx : World) : Prop where
  t0 : L 0 = true → v19 = .agg (bvs sig).toArray
  t1 : L 1 = true → Own wx w5.heap.size 5 v20 (mhead ++ sig)
  t2 : L 2 = true → v21 = .string (bstr (mhead ++ sig))
  t3 : L 3 = true → v22 = .agg (bvs sig).toArray
  t4 : L 4 = true → Own wx w5.heap.size 5 v23 (mhead ++ sig)
  t5 : L 5 = true → v24 = .string (bstr (mhead ++ sig))
  t6 : L 6 = true → v25 = .bool true
  t7 : L 7 = true → v26 = .bool true
  t8 : L 8 = true → v27 = .agg S.toArray
  t9 : L 9 = true → v28 = .agg S.toArray
  t10 : L 10 = true → v29 = .bool true
  t11 : L 11 = true → v30 = .bool true
  t12 : L 12 = true → v31 = .bool true
  t13 : L 13 = true → v32 = .int .i64 E
  t14 : L 14 = true → v33 = .int .i64 E
  t15 : L 15 = true → v34 = .bool true
  t16 : L 16 = true → v35 = .bool true
  t17 : L 17 = true → v36 = .bool true
  t18 : L 18 = true → v37 = .bool true
  t19 : L 19 = true → v38 = .bool true
  t20 : L 20 = true → v4 = .bool true
  ax : Arr wx g2 23 (bvs sig)
  ap : Arr wx g5 23 S
  aq : Arr wx g7 23 S
  bw : Below w5.heap.size w5 wx

set_option maxRecDepth 100000 in
set_option maxHeartbeats 3200000 in
theorem Marks_law (sig b : List UInt8) (pa : Option Addr) (n c : Nat) (w : World) (hg : sig.length = 64) (hr : Rd w pa n c b) :
    Calls Try.prog 4 #[.agg (bvs sig).toArray, .slice pa n c] w fun e w' => e = .returned (.bool true) ∧ Below w.heap.size w w' := by
  have hMk := Lib.hid (fun W => Mark_any sig W hg)
  have hRk := Lib.hid (fun W => rMark_any sig W hg)
  have h64 : Hid ((Try.prog.info? 23).map (·.size) = some (bvs sig).length) := by show _ = _; rw [bvs_len, hg]; exact sizeSig
  have hU := Lib.hid (fun W (h : Below w.heap.size w W) => Unmark_any b pa n c W (hr.to h))
  have hV := Lib.hid (fun W (h : Below w.heap.size w W) => rUnmark_any b pa n c W (hr.to h))
  have hFl := unmF_len b
  have hF64 : Hid ((Try.prog.info? 23).map (·.size) = some (bvs (unmF b)).length) := by show _ = _; rw [bvs_len, hFl]; exact sizeSig
  have LF64 : Hid ((bvs (unmF b)).length = 64) := by show _ = _; rw [bvs_len, hFl]
  have heq : ∀ W, (binOp .eql 23 (.agg (bvs (unmF b)).toArray) (.agg (bvs (unmF b)).toArray)).run Try.prog W = .ok (.bool true) W := fun W => by rw [eqSig hFl hFl, decide_eq_true rfl]
  have hon : Hid (∀ v ∈ bvs (unmF b), v.oneCell' = true) := bvs_one _
  generalize bvs (unmF b) = S at *
  generalize unmE b = E at *
  clear hFl hr hg
  have HEQ := Lib.hid heq
  clear heq
  go_enter Try.func4, Try.ntmps4
  go_upto_region 1 with (((with_reducible show wpList _ _ _ (⟨some 2, .box _ _, _, _, _, _⟩ :: _) _ _); refine wl_box rfl 23 _ rfl (bvs sig) rfl ?_; intro w1 hA1 hb1 hs1))
  go_upto_region 2 with (first
    | (go_at_call 16; go_loud (refine (hU.out _ hb1).mono ?_); rintro e w2 ⟨rfl, hb2⟩)
    | ((with_reducible show wpList _ _ _ (⟨some 5, .alloc _, _, _, _, _⟩ :: _) _ _); refine wl_alloc rfl 23 rfl (bvs (Z8 64)) 64 infoSig ?_; intro w3 hA3 hb3 hs3)
    | ((with_reducible show wpList _ _ _ (⟨none, .store _ _ _, _, _, _, _⟩ :: _) _ _); go_loud (refine wl_store rfl 23 _ _ rfl w2.heap.size 0 rfl S rfl 23 _ hA3 hF64.out (by rw [LF64.out]; exact (by decide : 0 + 64 ≤ (bvs (Z8 64)).length)) hon.out ?_); intro w4 hA4 hg4 hs4))
  rw [whole_store _ _ (by rw [LF64.out]; rfl)] at hA4
  have hb4' : Below w1.heap.size w1 w4 := (hb2.trans (hb3.mono hb2.size)).grown hg4 (by have := hb2.size; have := hb3.size; omega) (by intro k e; injection e with e; have := hb2.size; omega)
  have hX4 := hA1.kept hb4'
  have hb4 := hb1.trans (hb4'.mono hb1.size)
  obtain ⟨g5, hg5⟩ : ∃ g5, w2.heap.size = g5 := ⟨_, rfl⟩
  rw [hg5] at hA4 ⊢
  clear hb2 hb3 hA3 hs3 hg4 hs4 hb4' hb1 hA1 hg5 hs1
  go_upto_region 3 with (first
    | (go_at_call 17; go_loud (refine (hV.out _ hb4).mono ?_); rintro e w2 ⟨rfl, hb2⟩)
    | ((with_reducible show wpList _ _ _ (⟨some 7, .alloc _, _, _, _, _⟩ :: _) _ _); refine wl_alloc rfl 23 rfl (bvs (Z8 64)) 64 infoSig ?_; intro w3 hA3 hb3 hs3)
    | ((with_reducible show wpList _ _ _ (⟨none, .store _ _ _, _, _, _, _⟩ :: _) _ _); go_loud (refine wl_store rfl 23 _ _ rfl w2.heap.size 0 rfl S rfl 23 _ hA3 hF64.out (by rw [LF64.out]; exact (by decide : 0 + 64 ≤ (bvs (Z8 64)).length)) hon.out ?_); intro w5 hA5 hg5 hs5))
  rw [whole_store _ _ (by rw [LF64.out]; rfl)] at hA5
  have hb5' : Below w4.heap.size w4 w5 := (hb2.trans (hb3.mono hb2.size)).grown hg5 (by have := hb2.size; have := hb3.size; omega) (by intro k e; injection e with e; have := hb2.size; omega)
  have hX5 := hX4.kept hb5'
  have hP5 := hA4.kept hb5'
  have hb5 := hb4.trans (hb5'.mono hb4.size)
  have hwg : w.heap.size ≤ w5.heap.size := hb5.size
  obtain ⟨g7, hg7⟩ : ∃ g7, w2.heap.size = g7 := ⟨_, rfl⟩
  obtain ⟨g2, hg2⟩ : ∃ g2, w.heap.size = g2 := ⟨_, rfl⟩
  have HG2 := Lib.hid hg2
  rw [hg7] at hA5 ⊢
  rw [hg2] at hX5 hb5 hwg ⊢
  clear hb2 hb3 hA3 hs3 hg5 hs5 hb5' hA4 hX4 hg7 hg2
  refine wp_region_steps [[], [0], [1], [], [3], [4], [2, 5], [6], [7], [7], [8, 9, 7], [7, 10], [11], [12], [12], [13, 14, 12], [12, 15], [16], [17], [17, 18], [19]] (by kernel_rfl) (by kernel_rfl) (fun L a wx => ∃ v19 v20 v21 v22 v23 v24 v25 v26 v27 v28 v29 v30 v31 v32 v33 v34 v35 v36 v37 v38 v4, a = ⟨#[.agg (bvs sig).toArray, .slice pa n c, .pointer (some ⟨g2, 0, none⟩), undef, v4, .pointer (some ⟨g5, 0, none⟩), .int .i64 E, .pointer (some ⟨g7, 0, none⟩), .int .i64 E, .tuple #[.agg S.toArray, .int .i64 E], .slice pa n c, .tuple #[.agg S.toArray, .int .i64 E], .agg S.toArray, .int .i64 E, .tuple #[.agg S.toArray, .int .i64 E], .slice pa n c, .tuple #[.agg S.toArray, .int .i64 E], .agg S.toArray, .int .i64 E, v19, v20, v21, v22, v23, v24, v25, v26, v27, v28, v29, v30, v31, v32, v33, v34, v35, v36, v37, v38], []⟩ ∧ InvMks S sig E g2 g5 g7 n c pa w5 L v19 v20 v21 v22 v23 v24 v25 v26 v27 v28 v29 v30 v31 v32 v33 v34 v35 v36 v37 v38 v4 wx) ?_ ⟨?_, ?_, ?_, ?_, ?_, ?_, ?_, ?_, ?_, ?_, ?_, ?_, ?_, ?_, ?_, ?_, ?_, ?_, ?_, ?_, ?_, trivial⟩ ?_
  · refine ⟨_, _, _, _, _, _, _, _, _, _, _, _, _, _, _, _, _, _, _, _, _, rfl, ⟨?_, ?_, ?_, ?_, ?_, ?_, ?_, ?_, ?_, ?_, ?_, ?_, ?_, ?_, ?_, ?_, ?_, ?_, ?_, ?_, ?_, hX5.drew, hP5.drew, hA5.drew, (Below.refl _ _).drew⟩⟩ <;> (intro h; exact absurd h (by decide))
  · rintro L a wx ⟨v19, v20, v21, v22, v23, v24, v25, v26, v27, v28, v29, v30, v31, v32, v33, v34, v35, v36, v37, v38, v4, rfl, hI⟩ hL hdep hcl K hK
    refine ow_load 23 _ rfl g2 0 rfl 23 (bvs sig) (bvs sig) hI.ax (fun j v h => by rw [Nat.zero_add]; exact h) (.array 64 5) Try.underlying23 rfl h64.out ?_
    exact hK _ _ ⟨_, v20, v21, v22, v23, v24, v25, v26, v27, v28, v29, v30, v31, v32, v33, v34, v35, v36, v37, v38, v4, rfl, ⟨fun _ => rfl, hI.t1, hI.t2, hI.t3, hI.t4, hI.t5, hI.t6, hI.t7, hI.t8, hI.t9, hI.t10, hI.t11, hI.t12, hI.t13, hI.t14, hI.t15, hI.t16, hI.t17, hI.t18, hI.t19, hI.t20, hI.ax, hI.ap, hI.aq, hI.bw⟩⟩
  · rintro L a wx ⟨v19, v20, v21, v22, v23, v24, v25, v26, v27, v28, v29, v30, v31, v32, v33, v34, v35, v36, v37, v38, v4, rfl, hI⟩ hL hdep hcl K hK
    obtain rfl := hI.t0 (hdep 0 (by decide))
    go_simp
    refine (hMk.out wx).mono ?_
    rintro e w' ⟨v, rfl, ho, hb⟩
    exact hK _ _ ⟨_, _, v21, v22, v23, v24, v25, v26, v27, v28, v29, v30, v31, v32, v33, v34, v35, v36, v37, v38, v4, rfl, ⟨hI.t0, fun _ => ho.mono hI.bw.size, hI.t2, hI.t3, fun h => (hI.t4 h).to hb, hI.t5, hI.t6, hI.t7, hI.t8, hI.t9, hI.t10, hI.t11, hI.t12, hI.t13, hI.t14, hI.t15, hI.t16, hI.t17, hI.t18, hI.t19, hI.t20, (hI.ax).kept hb, (hI.ap).kept hb, (hI.aq).kept hb, (hI.bw).trans (hb.mono (hI.bw).size)⟩⟩
  · rintro L a wx ⟨v19, v20, v21, v22, v23, v24, v25, v26, v27, v28, v29, v30, v31, v32, v33, v34, v35, v36, v37, v38, v4, rfl, hI⟩ hL hdep hcl K hK
    obtain ⟨a1, n1, c1, rfl, hr1⟩ := (hI.t1 (hdep 1 (by decide))).reads
    have hst := run_bstr bt Try.underlying9 hr1.toRd
    go_simp
    exact hK _ _ ⟨v19, _, _, v22, v23, v24, v25, v26, v27, v28, v29, v30, v31, v32, v33, v34, v35, v36, v37, v38, v4, rfl, ⟨hI.t0, hI.t1, fun _ => rfl, hI.t3, hI.t4, hI.t5, hI.t6, hI.t7, hI.t8, hI.t9, hI.t10, hI.t11, hI.t12, hI.t13, hI.t14, hI.t15, hI.t16, hI.t17, hI.t18, hI.t19, hI.t20, hI.ax, hI.ap, hI.aq, hI.bw⟩⟩
  · rintro L a wx ⟨v19, v20, v21, v22, v23, v24, v25, v26, v27, v28, v29, v30, v31, v32, v33, v34, v35, v36, v37, v38, v4, rfl, hI⟩ hL hdep hcl K hK
    refine ow_load 23 _ rfl g2 0 rfl 23 (bvs sig) (bvs sig) hI.ax (fun j v h => by rw [Nat.zero_add]; exact h) (.array 64 5) Try.underlying23 rfl h64.out ?_
    exact hK _ _ ⟨v19, v20, v21, _, v23, v24, v25, v26, v27, v28, v29, v30, v31, v32, v33, v34, v35, v36, v37, v38, v4, rfl, ⟨hI.t0, hI.t1, hI.t2, fun _ => rfl, hI.t4, hI.t5, hI.t6, hI.t7, hI.t8, hI.t9, hI.t10, hI.t11, hI.t12, hI.t13, hI.t14, hI.t15, hI.t16, hI.t17, hI.t18, hI.t19, hI.t20, hI.ax, hI.ap, hI.aq, hI.bw⟩⟩
  · rintro L a wx ⟨v19, v20, v21, v22, v23, v24, v25, v26, v27, v28, v29, v30, v31, v32, v33, v34, v35, v36, v37, v38, v4, rfl, hI⟩ hL hdep hcl K hK
    obtain rfl := hI.t3 (hdep 3 (by decide))
    go_simp
    refine (hRk.out wx).mono ?_
    rintro e w' ⟨v, rfl, ho, hb⟩
    exact hK _ _ ⟨v19, v20, v21, _, _, v24, v25, v26, v27, v28, v29, v30, v31, v32, v33, v34, v35, v36, v37, v38, v4, rfl, ⟨hI.t0, fun h => (hI.t1 h).to hb, hI.t2, hI.t3, fun _ => ho.mono hI.bw.size, hI.t5, hI.t6, hI.t7, hI.t8, hI.t9, hI.t10, hI.t11, hI.t12, hI.t13, hI.t14, hI.t15, hI.t16, hI.t17, hI.t18, hI.t19, hI.t20, (hI.ax).kept hb, (hI.ap).kept hb, (hI.aq).kept hb, (hI.bw).trans (hb.mono (hI.bw).size)⟩⟩
  · rintro L a wx ⟨v19, v20, v21, v22, v23, v24, v25, v26, v27, v28, v29, v30, v31, v32, v33, v34, v35, v36, v37, v38, v4, rfl, hI⟩ hL hdep hcl K hK
    obtain ⟨a1, n1, c1, rfl, hr1⟩ := (hI.t4 (hdep 4 (by decide))).reads
    have hst := run_bstr bt Try.underlying9 hr1.toRd
    go_simp
    exact hK _ _ ⟨v19, v20, v21, v22, _, _, v25, v26, v27, v28, v29, v30, v31, v32, v33, v34, v35, v36, v37, v38, v4, rfl, ⟨hI.t0, hI.t1, hI.t2, hI.t3, hI.t4, fun _ => rfl, hI.t6, hI.t7, hI.t8, hI.t9, hI.t10, hI.t11, hI.t12, hI.t13, hI.t14, hI.t15, hI.t16, hI.t17, hI.t18, hI.t19, hI.t20, hI.ax, hI.ap, hI.aq, hI.bw⟩⟩
  · rintro L a wx ⟨v19, v20, v21, v22, v23, v24, v25, v26, v27, v28, v29, v30, v31, v32, v33, v34, v35, v36, v37, v38, v4, rfl, hI⟩ hL hdep hcl K hK
    obtain rfl := hI.t2 (hdep 2 (by decide))
    obtain rfl := hI.t5 (hdep 5 (by decide))
    go_simp
    exact hK _ _ ⟨v19, v20, _, v22, v23, _, _, v26, v27, v28, v29, v30, v31, v32, v33, v34, v35, v36, v37, v38, v4, rfl, ⟨hI.t0, hI.t1, hI.t2, hI.t3, hI.t4, hI.t5, fun _ => rfl, hI.t7, hI.t8, hI.t9, hI.t10, hI.t11, hI.t12, hI.t13, hI.t14, hI.t15, hI.t16, hI.t17, hI.t18, hI.t19, hI.t20, hI.ax, hI.ap, hI.aq, hI.bw⟩⟩
  · rintro L a wx ⟨v19, v20, v21, v22, v23, v24, v25, v26, v27, v28, v29, v30, v31, v32, v33, v34, v35, v36, v37, v38, v4, rfl, hI⟩ hL hdep hcl K hK
    obtain rfl := hI.t6 (hdep 6 (by decide))
    go_simp
    exact hK _ _ ⟨v19, v20, v21, v22, v23, v24, _, _, v27, v28, v29, v30, v31, v32, v33, v34, v35, v36, v37, v38, v4, rfl, ⟨hI.t0, hI.t1, hI.t2, hI.t3, hI.t4, hI.t5, hI.t6, fun _ => rfl, hI.t8, hI.t9, hI.t10, hI.t11, hI.t12, hI.t13, hI.t14, hI.t15, hI.t16, hI.t17, hI.t18, hI.t19, hI.t20, hI.ax, hI.ap, hI.aq, hI.bw⟩⟩
  · rintro L a wx ⟨v19, v20, v21, v22, v23, v24, v25, v26, v27, v28, v29, v30, v31, v32, v33, v34, v35, v36, v37, v38, v4, rfl, hI⟩ hL hdep hcl K hK
    obtain rfl := hI.t7 (hdep 7 (by decide))
    refine (if_pos rfl).mpr ?_
    refine ow_load 23 _ rfl g5 0 rfl 23 S S hI.ap (fun j v h => by rw [Nat.zero_add]; exact h) (.array 64 5) Try.underlying23 rfl hF64.out ?_
    exact hK _ _ ⟨v19, v20, v21, v22, v23, v24, v25, _, _, v28, v29, v30, v31, v32, v33, v34, v35, v36, v37, v38, v4, rfl, ⟨hI.t0, hI.t1, hI.t2, hI.t3, hI.t4, hI.t5, hI.t6, hI.t7, fun _ => rfl, hI.t9, hI.t10, hI.t11, hI.t12, hI.t13, hI.t14, hI.t15, hI.t16, hI.t17, hI.t18, hI.t19, hI.t20, hI.ax, hI.ap, hI.aq, hI.bw⟩⟩
  · rintro L a wx ⟨v19, v20, v21, v22, v23, v24, v25, v26, v27, v28, v29, v30, v31, v32, v33, v34, v35, v36, v37, v38, v4, rfl, hI⟩ hL hdep hcl K hK
    obtain rfl := hI.t7 (hdep 7 (by decide))
    refine (if_pos rfl).mpr ?_
    refine ow_load 23 _ rfl g7 0 rfl 23 S S hI.aq (fun j v h => by rw [Nat.zero_add]; exact h) (.array 64 5) Try.underlying23 rfl hF64.out ?_
    exact hK _ _ ⟨v19, v20, v21, v22, v23, v24, v25, _, v27, _, v29, v30, v31, v32, v33, v34, v35, v36, v37, v38, v4, rfl, ⟨hI.t0, hI.t1, hI.t2, hI.t3, hI.t4, hI.t5, hI.t6, hI.t7, hI.t8, fun _ => rfl, hI.t10, hI.t11, hI.t12, hI.t13, hI.t14, hI.t15, hI.t16, hI.t17, hI.t18, hI.t19, hI.t20, hI.ax, hI.ap, hI.aq, hI.bw⟩⟩
  · rintro L a wx ⟨v19, v20, v21, v22, v23, v24, v25, v26, v27, v28, v29, v30, v31, v32, v33, v34, v35, v36, v37, v38, v4, rfl, hI⟩ hL hdep hcl K hK
    obtain rfl := hI.t8 (hdep 8 (by decide))
    obtain rfl := hI.t9 (hdep 9 (by decide))
    obtain rfl := hI.t7 (hdep 7 (by decide))
    refine (if_pos rfl).mpr ?_
    have heq := HEQ.out
    go_simp
    exact hK _ _ ⟨v19, v20, v21, v22, v23, v24, v25, _, _, _, _, v30, v31, v32, v33, v34, v35, v36, v37, v38, v4, rfl, ⟨hI.t0, hI.t1, hI.t2, hI.t3, hI.t4, hI.t5, hI.t6, hI.t7, hI.t8, hI.t9, fun _ => rfl, hI.t11, hI.t12, hI.t13, hI.t14, hI.t15, hI.t16, hI.t17, hI.t18, hI.t19, hI.t20, hI.ax, hI.ap, hI.aq, hI.bw⟩⟩
  · rintro L a wx ⟨v19, v20, v21, v22, v23, v24, v25, v26, v27, v28, v29, v30, v31, v32, v33, v34, v35, v36, v37, v38, v4, rfl, hI⟩ hL hdep hcl K hK
    obtain rfl := hI.t7 (hdep 7 (by decide))
    obtain rfl := hI.t10 (hdep 10 (by decide))
    go_simp
    exact hK _ _ ⟨v19, v20, v21, v22, v23, v24, v25, _, v27, v28, _, _, v31, v32, v33, v34, v35, v36, v37, v38, v4, rfl, ⟨hI.t0, hI.t1, hI.t2, hI.t3, hI.t4, hI.t5, hI.t6, hI.t7, hI.t8, hI.t9, hI.t10, fun _ => rfl, hI.t12, hI.t13, hI.t14, hI.t15, hI.t16, hI.t17, hI.t18, hI.t19, hI.t20, hI.ax, hI.ap, hI.aq, hI.bw⟩⟩
  · rintro L a wx ⟨v19, v20, v21, v22, v23, v24, v25, v26, v27, v28, v29, v30, v31, v32, v33, v34, v35, v36, v37, v38, v4, rfl, hI⟩ hL hdep hcl K hK
    obtain rfl := hI.t11 (hdep 11 (by decide))
    go_simp
    exact hK _ _ ⟨v19, v20, v21, v22, v23, v24, v25, v26, v27, v28, v29, _, _, v32, v33, v34, v35, v36, v37, v38, v4, rfl, ⟨hI.t0, hI.t1, hI.t2, hI.t3, hI.t4, hI.t5, hI.t6, hI.t7, hI.t8, hI.t9, hI.t10, hI.t11, fun _ => rfl, hI.t13, hI.t14, hI.t15, hI.t16, hI.t17, hI.t18, hI.t19, hI.t20, hI.ax, hI.ap, hI.aq, hI.bw⟩⟩
  · rintro L a wx ⟨v19, v20, v21, v22, v23, v24, v25, v26, v27, v28, v29, v30, v31, v32, v33, v34, v35, v36, v37, v38, v4, rfl, hI⟩ hL hdep hcl K hK
    obtain rfl := hI.t12 (hdep 12 (by decide))
    refine (if_pos rfl).mpr ?_
    go_simp
    exact hK _ _ ⟨v19, v20, v21, v22, v23, v24, v25, v26, v27, v28, v29, v30, _, _, v33, v34, v35, v36, v37, v38, v4, rfl, ⟨hI.t0, hI.t1, hI.t2, hI.t3, hI.t4, hI.t5, hI.t6, hI.t7, hI.t8, hI.t9, hI.t10, hI.t11, hI.t12, fun _ => rfl, hI.t14, hI.t15, hI.t16, hI.t17, hI.t18, hI.t19, hI.t20, hI.ax, hI.ap, hI.aq, hI.bw⟩⟩
  · rintro L a wx ⟨v19, v20, v21, v22, v23, v24, v25, v26, v27, v28, v29, v30, v31, v32, v33, v34, v35, v36, v37, v38, v4, rfl, hI⟩ hL hdep hcl K hK
    obtain rfl := hI.t12 (hdep 12 (by decide))
    refine (if_pos rfl).mpr ?_
    go_simp
    exact hK _ _ ⟨v19, v20, v21, v22, v23, v24, v25, v26, v27, v28, v29, v30, _, v32, _, v34, v35, v36, v37, v38, v4, rfl, ⟨hI.t0, hI.t1, hI.t2, hI.t3, hI.t4, hI.t5, hI.t6, hI.t7, hI.t8, hI.t9, hI.t10, hI.t11, hI.t12, hI.t13, fun _ => rfl, hI.t15, hI.t16, hI.t17, hI.t18, hI.t19, hI.t20, hI.ax, hI.ap, hI.aq, hI.bw⟩⟩
  · rintro L a wx ⟨v19, v20, v21, v22, v23, v24, v25, v26, v27, v28, v29, v30, v31, v32, v33, v34, v35, v36, v37, v38, v4, rfl, hI⟩ hL hdep hcl K hK
    obtain rfl := hI.t13 (hdep 13 (by decide))
    obtain rfl := hI.t14 (hdep 14 (by decide))
    obtain rfl := hI.t12 (hdep 12 (by decide))
    refine (if_pos rfl).mpr ?_
    go_simp
    exact hK _ _ ⟨v19, v20, v21, v22, v23, v24, v25, v26, v27, v28, v29, v30, _, _, _, _, v35, v36, v37, v38, v4, rfl, ⟨hI.t0, hI.t1, hI.t2, hI.t3, hI.t4, hI.t5, hI.t6, hI.t7, hI.t8, hI.t9, hI.t10, hI.t11, hI.t12, hI.t13, hI.t14, fun _ => rfl, hI.t16, hI.t17, hI.t18, hI.t19, hI.t20, hI.ax, hI.ap, hI.aq, hI.bw⟩⟩
  · rintro L a wx ⟨v19, v20, v21, v22, v23, v24, v25, v26, v27, v28, v29, v30, v31, v32, v33, v34, v35, v36, v37, v38, v4, rfl, hI⟩ hL hdep hcl K hK
    obtain rfl := hI.t12 (hdep 12 (by decide))
    obtain rfl := hI.t15 (hdep 15 (by decide))
    go_simp
    exact hK _ _ ⟨v19, v20, v21, v22, v23, v24, v25, v26, v27, v28, v29, v30, _, v32, v33, _, _, v36, v37, v38, v4, rfl, ⟨hI.t0, hI.t1, hI.t2, hI.t3, hI.t4, hI.t5, hI.t6, hI.t7, hI.t8, hI.t9, hI.t10, hI.t11, hI.t12, hI.t13, hI.t14, hI.t15, fun _ => rfl, hI.t17, hI.t18, hI.t19, hI.t20, hI.ax, hI.ap, hI.aq, hI.bw⟩⟩
  · rintro L a wx ⟨v19, v20, v21, v22, v23, v24, v25, v26, v27, v28, v29, v30, v31, v32, v33, v34, v35, v36, v37, v38, v4, rfl, hI⟩ hL hdep hcl K hK
    obtain rfl := hI.t16 (hdep 16 (by decide))
    go_simp
    exact hK _ _ ⟨v19, v20, v21, v22, v23, v24, v25, v26, v27, v28, v29, v30, v31, v32, v33, v34, _, _, v37, v38, v4, rfl, ⟨hI.t0, hI.t1, hI.t2, hI.t3, hI.t4, hI.t5, hI.t6, hI.t7, hI.t8, hI.t9, hI.t10, hI.t11, hI.t12, hI.t13, hI.t14, hI.t15, hI.t16, fun _ => rfl, hI.t18, hI.t19, hI.t20, hI.ax, hI.ap, hI.aq, hI.bw⟩⟩
  · rintro L a wx ⟨v19, v20, v21, v22, v23, v24, v25, v26, v27, v28, v29, v30, v31, v32, v33, v34, v35, v36, v37, v38, v4, rfl, hI⟩ hL hdep hcl K hK
    obtain rfl := hI.t17 (hdep 17 (by decide))
    refine (if_pos rfl).mpr ?_
    go_simp
    refine (wakes_any wx).mono ?_
    rintro e w' ⟨rfl, hb⟩
    exact hK _ _ ⟨v19, v20, v21, v22, v23, v24, v25, v26, v27, v28, v29, v30, v31, v32, v33, v34, v35, _, _, v38, v4, rfl, ⟨hI.t0, fun h => (hI.t1 h).to hb, hI.t2, hI.t3, fun h => (hI.t4 h).to hb, hI.t5, hI.t6, hI.t7, hI.t8, hI.t9, hI.t10, hI.t11, hI.t12, hI.t13, hI.t14, hI.t15, hI.t16, hI.t17, fun _ => rfl, hI.t19, hI.t20, (hI.ax).kept hb, (hI.ap).kept hb, (hI.aq).kept hb, (hI.bw).trans (hb.mono (hI.bw).size)⟩⟩
  · rintro L a wx ⟨v19, v20, v21, v22, v23, v24, v25, v26, v27, v28, v29, v30, v31, v32, v33, v34, v35, v36, v37, v38, v4, rfl, hI⟩ hL hdep hcl K hK
    obtain rfl := hI.t17 (hdep 17 (by decide))
    obtain rfl := hI.t18 (hdep 18 (by decide))
    go_simp
    exact hK _ _ ⟨v19, v20, v21, v22, v23, v24, v25, v26, v27, v28, v29, v30, v31, v32, v33, v34, v35, _, _, _, v4, rfl, ⟨hI.t0, hI.t1, hI.t2, hI.t3, hI.t4, hI.t5, hI.t6, hI.t7, hI.t8, hI.t9, hI.t10, hI.t11, hI.t12, hI.t13, hI.t14, hI.t15, hI.t16, hI.t17, hI.t18, fun _ => rfl, hI.t20, hI.ax, hI.ap, hI.aq, hI.bw⟩⟩
  · rintro L a wx ⟨v19, v20, v21, v22, v23, v24, v25, v26, v27, v28, v29, v30, v31, v32, v33, v34, v35, v36, v37, v38, v4, rfl, hI⟩ hL hdep hcl K hK
    obtain rfl := hI.t19 (hdep 19 (by decide))
    go_simp
    exact hK _ _ ⟨v19, v20, v21, v22, v23, v24, v25, v26, v27, v28, v29, v30, v31, v32, v33, v34, v35, v36, v37, _, _, rfl, ⟨hI.t0, hI.t1, hI.t2, hI.t3, hI.t4, hI.t5, hI.t6, hI.t7, hI.t8, hI.t9, hI.t10, hI.t11, hI.t12, hI.t13, hI.t14, hI.t15, hI.t16, hI.t17, hI.t18, hI.t19, fun _ => rfl, hI.ax, hI.ap, hI.aq, hI.bw⟩⟩
  · rintro a wx ⟨v19, v20, v21, v22, v23, v24, v25, v26, v27, v28, v29, v30, v31, v32, v33, v34, v35, v36, v37, v38, v4, rfl, hI⟩
    obtain rfl := hI.t20 rfl
    have hbz := hI.bw
    clear hI
    go_wp2
    go_ret
    rw [HG2.out]
    exact ⟨rfl, hb5.trans (hbz.mono hwg)⟩
end Go.Proofs.Ytebegdifnkifgaa
