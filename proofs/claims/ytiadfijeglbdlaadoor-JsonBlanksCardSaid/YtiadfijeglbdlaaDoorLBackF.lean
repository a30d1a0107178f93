/-
  JsonBack holds, whatever came in. Conditions: those in each statement.
-/
import Derived.Test.YtiadfijeglbdlaaDoorJzW
import Derived.Deep.Cut
import Derived.Test.YtiadfijeglbdlaaDoorJzC
namespace Go.Proofs.YtiadfijeglbdlaaDoor
open Go.RowKit

mutual
theorem rv_wf {w : World} : ∀ (v : JV) (cs : List Value), RV w v cs → wfF v = true
  | .mk k s n l ks, cs, h => by
    unfold RV at h
    obtain ⟨a, c, a', c', -, hk, -, -, -, h3⟩ := h
    unfold wfF
    rw [Bool.and_eq_true]
    refine ⟨decide_eq_true hk.2.2, ?_⟩
    by_cases h0 : 0 < l.length
    · obtain ⟨b, off, -, -, hl⟩ := h3 h0
      exact rl_wf l b off hl
    · rw [show l = [] from List.eq_nil_of_length_eq_zero (by omega)]
      unfold wfL
      rfl
theorem rl_wf {w : World} : ∀ (l : List JV) (b off : Nat), RL w l b off → wfL l = true
  | [], _, _, _ => by unfold wfL; rfl
  | v :: r, b, off, h => by
    unfold RL at h
    obtain ⟨⟨cs, -, -, h1⟩, h2⟩ := h
    unfold wfL
    rw [rv_wf v cs h1, rl_wf r b (off + 5) h2]
    rfl
end
theorem Own.cap {w : World} {B : Nat} {E : TypeId} {a : Option Addr} {n cap : Nat} {xs : List UInt8} (h : Own w B E (.slice a n cap) xs) : cap ≤ 9223372036854775807 := by
  obtain ⟨h1, ⟨e, hn⟩ | ⟨g, c, cur, e, hb, hg, hn, hc, r⟩⟩ := h
  · cases e
    omega
  · cases e
    unfold maxLen at hc
    omega
/-- what Text answers of a value, and what Parse makes of it -/
theorem text_cases (v : JV) (hw : wfF v = true) : (textE v = 0 ∧ mayF v 8 = true ∧ (textB v).length ≤ 1048576 ∧ textB v = plainF v ∧ parseE (textB v) = (v, 0)) ∨ (textE v = 1 ∧ mayF v 8 = false ∧ textB v = []) ∨ (textE v = 3 ∧ mayF v 8 = true ∧ textB v = []) := by
  unfold textE textB
  cases hm : mayF v 8 with
  | false => exact .inr (.inl ⟨by simp, rfl, by simp⟩)
  | true =>
    by_cases hl : (plainF v).length ≤ 1048576
    · refine .inl ⟨by simp [hl], rfl, by simp [hl], by simp [hl], ?_⟩
      rw [if_pos ⟨rfl, hl⟩]
      unfold parseE
      rw [if_neg (by omega), parse_plain v hm hw]
    · exact .inr (.inr ⟨by simp [hl], rfl, by simp [hl]⟩)
/-- what Parse answers of bytes -/
theorem parse_cases (b : List UInt8) : (parseE b = (JV.zero, 3) ∧ 1048576 < b.length) ∨ (parseE b = (JV.zero, 5) ∧ b.length ≤ 1048576) ∨ (∃ x, parseE b = (x, 0) ∧ b.length ≤ 1048576 ∧ mayF x 8 = true ∧ wfF x = true ∧ totV x ≤ b.length) := by
  unfold parseE
  by_cases hl : 1048576 < b.length
  · exact .inl ⟨if_pos hl, hl⟩
  · rw [if_neg hl]
    cases hp : parseF b with
    | none => exact .inr (.inl ⟨rfl, by omega⟩)
    | some x => exact .inr (.inr ⟨x, rfl, by omega, (parse_some hp).1, (parse_some hp).2, parse_size b hp⟩)
structure InvBack5 (w w4 : World) (BY : Nat) (xk : Int) (xs : ByteArray) (xn : Int) (xa : Option Addr) (xl xc : Nat) (xb : Option Addr) (xm xd : Nat) (pk : Int) (ps : ByteArray) (pn : Int) (pa : Option Addr) (pl pc : Nat) (pb : Option Addr) (pm pd : Nat) (ok : Int) (os : ByteArray) (on : Int) (oa : Option Addr) (ol oc : Nat) (ob : Option Addr) (om od : Nat) (yk : Int) (ys : ByteArray) (yn : Int) (ya : Option Addr) (yl yc : Nat) (yb : Option Addr) (ym yd : Nat) (a0 fa : Option Addr) (n0 c0 fn fc : Nat) (va : JV) (L : Nat → Bool) (v30 v31 v32 v33 v34 v35 v36 v37 v38 v39 v40 v41 v42 v43 v44 v45 v46 v47 v48 v49 : Value) (wx : World) : Prop where
  t0 : L 0 = true → v30 = .int .i64 0
  t1 : L 1 = true → v31 = .bool false
  t2 : L 2 = true → v32 = .bool false
  t3 : L 3 = true → v33 = .agg #[.int .i64 yk, .string ys, .int .u64 yn, .slice ya yl yc, .slice yb ym yd]
  t4 : L 4 = true → ∃ cs, v34 = .agg (List.toArray cs) ∧ RV wx va cs
  t5 : L 5 = true → v35 = .agg #[.int .i64 pk, .string ps, .int .u64 pn, .slice pa pl pc, .slice pb pm pd]
  t6 : L 6 = true → v36 = .bool true
  t7 : L 7 = true → v37 = .bool false
  t8 : L 8 = true → v38 = .bool false
  t9 : L 9 = true → v39 = .bool false
  t10 : L 10 = true → v40 = .slice fa fn fc
  t11 : L 11 = true → v41 = .int .i64 (fn : Int)
  t12 : L 12 = true → v42 = .bool false
  t13 : L 13 = true → v43 = .bool false
  t14 : L 14 = true → v44 = .bool false
  t15 : L 15 = true → v45 = .agg #[.int .i64 pk, .string ps, .int .u64 pn, .slice pa pl pc, .slice pb pm pd]
  t16 : L 16 = true → ∃ cs, v46 = .agg (List.toArray cs) ∧ PV wx va cs
  t17 : L 17 = true → v47 = .bool true
  t18 : L 18 = true → v48 = .bool false
  t19 : L 19 = true → v49 = .bool false
  aA : Arr wx w.heap.size 26 [.int .i64 pk, .string ps, .int .u64 pn, .slice pa pl pc, .slice pb pm pd]
  aY : Arr wx BY 30 [.int .i64 yk, .string ys, .int .u64 yn, .slice ya yl yc, .slice yb ym yd]
  bl : Below w4.heap.size w4 wx

set_option maxRecDepth 100000 in
set_option maxHeartbeats 6400000 in
theorem JsonBack_any (va0 : JV) (ca : List Value) (a0 : Option Addr) (n0 c0 : Nat) (bs : List UInt8) (w : World) (hx : RV w va0 ca) (hs0 : smallV va0 9223372036854775000) (hf0 : roomV va0) (hr : Rd w a0 n0 c0 bs) (hcap : c0 ≤ 9223372036854775807) (hT : Tabs w) :
    Calls Tryd.prog 6 #[.agg ca.toArray, .slice a0 n0 c0] w fun e w' => e = .returned (.bool true) ∧ Below w.heap.size w w' := by
  have hsm0 := small_cut va0 100 _ hs0
  have hrm0 := room_cut va0 100 hf0
  have hcA0 : Hid (∀ W, Below w.heap.size w W → Calls Tryd.prog 9 #[.agg ca.toArray, .int .i64 100] W fun e w' => ∃ cs', e = .returned (.agg (List.toArray cs')) ∧ SV (fun x => x < w.heap.size ∨ W.heap.size ≤ x) w' (cutF va0 100) cs' ∧ Below W.heap.size W w') := fun W hW => cut_room va0 ca w W 100 hx hW hf0 (by omega)
  obtain ⟨xk, xs, xn, xa, xl, xc, xb, xm, xd, rfl⟩ := rv_shape hx
  generalize cutF va0 100 = va at *
  have HSM := Lib.hid hsm0
  have HFA := Lib.hid hrm0
  have hcA : Hid (∀ W, Below w.heap.size w W → Calls Tryd.prog 9 #[.agg #[.int .i64 xk, .string xs, .int .u64 xn, .slice xa xl xc, .slice xb xm xd], .int .i64 100] W fun e w' => ∃ cs', e = .returned (.agg (List.toArray cs')) ∧ SV (fun x => x < w.heap.size ∨ W.heap.size ≤ x) w' va cs' ∧ Below W.heap.size W w') := hcA0.out
  have HT := Lib.hid hT
  have hn0 := hr.len
  have hwk : Hid (∀ W, Below w.heap.size w W → Calls Tryd.prog 19 #[] W fun e w' => e = .returned (.bool true) ∧ Below W.heap.size W w') := fun W hW => wakes_any W (HT.out.to hW)
  have hPb : Hid (∀ W, Below w.heap.size w W → Calls Tryd.prog 20 #[.slice a0 n0 c0] W fun e w' => ∃ cs, e = .returned (.tuple #[.agg (List.toArray cs), .int .i64 ((parseE bs).2 : Int)]) ∧ PV w' (parseE bs).1 cs ∧ Below W.heap.size W w') := fun W hW => (Parse_any a0 n0 c0 bs W (hr.to hW) hcap (HT.out.to hW)).mono fun e w' ⟨cs, h1, h2, h3⟩ => ⟨cs, h1, sv_pv _ _ h2, h3⟩
  have hA0 : Arr (w.alloc (.cells #[.int .i64 xk, .string xs, .int .u64 xn, .slice xa xl xc, .slice xb xm xd] 26)) w.heap.size 26 [.int .i64 xk, .string xs, .int .u64 xn, .slice xa xl xc, .slice xb xm xd] := Arr.new w 26 [.int .i64 xk, .string xs, .int .u64 xn, .slice xa xl xc, .slice xb xm xd]
  have hW1 : Below w.heap.size w (w.alloc (.cells #[.int .i64 xk, .string xs, .int .u64 xn, .slice xa xl xc, .slice xb xm xd] 26)) := (Below.refl _ _).alloc (Nat.le_refl _) _
  have hz1 : (w.alloc (.cells #[.int .i64 xk, .string xs, .int .u64 xn, .slice xa xl xc, .slice xb xm xd] 26)).heap.size = w.heap.size + 1 := by simp
  have HZ1 := Lib.hid hz1
  clear hT hx hs0 hf0 hsm0 hrm0 hcA0 hr hcap hz1
  have k0 := (hA0.cell 0).trans (show _ = some (Value.int .i64 xk) from rfl)
  have k1 := (hA0.cell 1).trans (show _ = some (Value.string xs) from rfl)
  have k2 := (hA0.cell 2).trans (show _ = some (Value.int .u64 xn) from rfl)
  have k3 := (hA0.cell 3).trans (show _ = some (Value.slice xa xl xc) from rfl)
  have k4 := (hA0.cell 4).trans (show _ = some (Value.slice xb xm xd) from rfl)
  go_enter Tryd.func6, Tryd.ntmps6
  go_upto_region 2 with (first
    | (go_at_call 9; go_loud (refine (hcA.out _ hW1).mono ?_); rintro e w1' ⟨cs', rfl, hsv1, hb1⟩; obtain ⟨pk, ps, pn, pa, pl, pc, pb, pm, pd, rfl⟩ := five_of hsv1; have hA1 := hA0.kept hb1)
    | ((with_reducible show wpList _ _ _ (⟨none, _, _, _, _, _⟩ :: _) _ _); go_loud (refine wl_store rfl 26 _ _ rfl w.heap.size 0 rfl [.int .i64 pk, .string ps, .int .u64 pn, .slice pa pl pc, .slice pb pm pd] rfl 26 [.int .i64 xk, .string xs, .int .u64 xn, .slice xa xl xc, .slice xb xm xd] hA1 (by kernel_rfl) (by simp) (by simp [Value.oneCell']) ?_); intro w1 hA2 hg1 hs1))
  rw [whole_store [.int .i64 xk, .string xs, .int .u64 xn, .slice xa xl xc, .slice xb xm xd] [.int .i64 pk, .string ps, .int .u64 pn, .slice pa pl pc, .slice pb pm pd] rfl] at hA2
  have HB1 : Hid (Below w.heap.size w w1) := (hW1.trans (hb1.mono hW1.size)).grown hg1 (hW1.trans (hb1.mono hW1.size)).size (fun k hk => by cases hk; exact Nat.le_refl _)
  have HRV : Hid (RV w1 va [.int .i64 pk, .string ps, .int .u64 pn, .slice pa pl pc, .slice pb pm pd]) := pv_rv _ _ (sv_pv _ _ (sv_to (fun _ h _ => h) (Stay.of_grown hg1 (fun k hk => by cases hk; have := HZ1.out; omega)) _ _ hsv1))
  clear hA0 hA1 k0 k1 k2 k3 k4 hsv1 hb1 hg1 hs1 hcA hW1
  have HWF := Lib.hid (rv_wf _ _ HRV.out)
  have hou0 : Hid (∀ W, Below w1.heap.size w1 W → Calls Tryd.prog 10 #[.agg #[.int .i64 pk, .string ps, .int .u64 pn, .slice pa pl pc, .slice pb pm pd]] W fun e w' => ∃ cs', e = .returned (.agg (List.toArray cs')) ∧ PV w' va cs' ∧ Below W.heap.size W w') := fun W hW => (ours_room va _ w1 W HRV.out hW HFA.out).mono fun e w' ⟨cs', h1, h2, h3⟩ => ⟨cs', h1, sv_pv _ _ h2, h3⟩
  have hTx : Hid (∀ W cs, PV W va cs → Below w1.heap.size w1 W → Calls Tryd.prog 11 #[.agg (List.toArray cs)] W fun e w' => ∃ vb, e = .returned (.tuple #[vb, .int .i64 (textE va)]) ∧ Own w' W.heap.size 5 vb (textB va) ∧ Below W.heap.size W w') := fun W cs h hW => Text_any va cs W h HSM.out (HT.out.to (HB1.out.trans (hW.mono HB1.out.size)))
  have b0 := (hA2.cell 0).trans (show _ = some (Value.int .i64 pk) from rfl)
  have b1 := (hA2.cell 1).trans (show _ = some (Value.string ps) from rfl)
  have b2 := (hA2.cell 2).trans (show _ = some (Value.int .u64 pn) from rfl)
  have b3 := (hA2.cell 3).trans (show _ = some (Value.slice pa pl pc) from rfl)
  have b4 := (hA2.cell 4).trans (show _ = some (Value.slice pb pm pd) from rfl)
  go_upto_region 3 with (first
    | (go_at_call 10; go_loud (refine (hou0.out _ (Below.refl _ _)).mono ?_); rintro e w2 ⟨cs', rfl, hp2, hb2⟩; obtain ⟨ok, os, on, oa, ol, oc, ob, om, od, rfl⟩ := pv_shape hp2)
    | (go_at_call 11; go_loud (refine (hTx.out _ _ hp2 hb2).mono ?_); rintro e w3 ⟨vb, rfl, ho3, hb3⟩; obtain ⟨fa, fc, rfl, -⟩ := ho3.shape))
  have HB13 : Hid (Below w1.heap.size w1 w3) := hb2.trans (hb3.mono hb2.size)
  have HB3 : Hid (Below w.heap.size w w3) := HB1.out.trans (HB13.out.mono HB1.out.size)
  have hA3 := hA2.kept HB13.out
  have HA3 := Lib.hid hA3
  have HO3 := Lib.hid ho3
  clear b0 b1 b2 b3 b4 hA2 hp2 hb2 hb3 ho3 hTx
  obtain ⟨fn, hfn⟩ : ∃ fn, fn = (textB va).length := ⟨_, rfl⟩
  have HFN := Lib.hid hfn
  rw [← hfn]
  clear hfn
  have htc := Lib.hid (text_cases va HWF.out)
  obtain ⟨E, hE⟩ : ∃ E, E = textE va := ⟨_, rfl⟩
  rw [← hE] at htc
  rw [← hE]
  clear hE
  go_upto_if 24 with fail
  go_cut [] from 15 (fun wx => Below w3.heap.size w3 wx)
  case first =>
    rcases htc.out with ⟨rfl, hm, hl, htb, hpe⟩ | ⟨rfl, hm, htb⟩ | ⟨rfl, hm, htb⟩
    · have hPa : Hid (Calls Tryd.prog 20 #[.slice fa fn fc] w3 fun e w' => ∃ cs, e = .returned (.tuple #[.agg (List.toArray cs), .int .i64 0]) ∧ PV w' va cs ∧ Below w3.heap.size w3 w') := by
        have := Parse_any fa (textB va).length fc (textB va) w3 HO3.out.rd.toRd HO3.out.cap (HT.out.to HB3.out)
        rw [hpe, ← HFN.out] at this
        exact this.mono fun e w' ⟨cs, h1, h2, h3⟩ => ⟨cs, h1, sv_pv _ _ h2, h3⟩
      have hNB : Hid (¬ (1048576 : Int) < (fn : Int)) := by show ¬ _; have := HFN.out; omega
      have HM := Lib.hid hm
      clear hm hl htb hpe
      go_upto_region 5 with (first
        | (go_at_call 20; go_loud (refine hPa.out.mono ?_); rintro e w4' ⟨cs4, rfl, hp4, hb4⟩; obtain ⟨yk, ys, yn, ya, yl, yc, yb, ym, yd, rfl⟩ := pv_shape hp4; have hY0 := Arr.new w4' 30 zC)
        | ((with_reducible show wpList _ _ _ (⟨none, _, _, _, _, _⟩ :: _) _ _); go_loud (refine wl_store rfl 30 _ _ rfl w4'.heap.size 0 rfl [.int .i64 yk, .string ys, .int .u64 yn, .slice ya yl yc, .slice yb ym yd] rfl 30 zC hY0 (by kernel_rfl) (by simp [zC]) (by simp [Value.oneCell']) ?_); intro w4 hY hg4 hs4))
      rw [whole_store zC [.int .i64 yk, .string ys, .int .u64 yn, .slice ya yl yc, .slice yb ym yd] rfl] at hY
      have HB34 : Hid (Below w3.heap.size w3 w4) := (hb4.alloc hb4.size _).grown hg4 (by have := hb4.size; simp; omega) (by intro q hq; cases hq; exact hb4.size)
      have HP4 : Hid (PV w4 va [.int .i64 yk, .string ys, .int .u64 yn, .slice ya yl yc, .slice yb ym yd]) := pv_keep (CellsKept.of_below (((Below.refl _ _).alloc (Nat.le_refl _) _).grown hg4 (by simp) (by intro q hq; cases hq; exact Nat.le_refl _))) _ _ hp4
      have hA4 := hA3.kept HB34.out
      have HB14 : Hid (Below w1.heap.size w1 w4) := HB13.out.trans (HB34.out.mono HB13.out.size)
      have HB4 : Hid (Below w.heap.size w w4) := HB3.out.trans (HB34.out.mono HB3.out.size)
      clear hp4 hb4 hY0 hg4 hs4 hPa hA3
      have hth : Hid (∀ W, Below w4.heap.size w4 W → Calls Tryd.prog 18 #[.agg #[.int .i64 yk, .string ys, .int .u64 yn, .slice ya yl yc, .slice yb ym yd]] W fun e w' => ∃ cs', e = .returned (.agg (List.toArray cs')) ∧ RV w' va cs' ∧ Below W.heap.size W w') := fun W hW => (theirs_room va _ w4 W (pv_rv _ _ HP4.out) hW HFA.out).mono fun e w' ⟨cs', h1, h2, h3⟩ => ⟨cs', h1, pv_rv _ _ (sv_pv _ _ h2), h3⟩
      have hrs : Hid (∀ W cs, RV W va cs → Below w4.heap.size w4 W → Calls Tryd.prog 17 #[.agg (List.toArray cs), .agg #[.int .i64 pk, .string ps, .int .u64 pn, .slice pa pl pc, .slice pb pm pd]] W fun e w' => e = .returned (.bool true) ∧ Below W.heap.size W w') := fun W cs h hW => by
        have := rSame_any va va cs _ W h (rv_to (HB14.out.trans (hW.mono HB14.out.size)) _ _ HRV.out)
        rw [(same_eq va va).2 rfl] at this
        exact this
      have hou : Hid (∀ W, Below w4.heap.size w4 W → Calls Tryd.prog 10 #[.agg #[.int .i64 pk, .string ps, .int .u64 pn, .slice pa pl pc, .slice pb pm pd]] W fun e w' => ∃ cs', e = .returned (.agg (List.toArray cs')) ∧ PV w' va cs' ∧ Below W.heap.size W w') := fun W hW => hou0.out W (HB14.out.trans (hW.mono HB14.out.size))
      have hmy : Hid (∀ W cs, PV W va cs → Below w4.heap.size w4 W → Calls Tryd.prog 15 #[.agg (List.toArray cs)] W fun e w' => e = .returned (.bool true) ∧ Below W.heap.size W w') := fun W cs h hW => by
        have := May_any va cs W h HSM.out (HT.out.to (HB4.out.trans (hW.mono HB4.out.size)))
        rw [HM.out] at this
        exact this
      generalize w4'.heap.size = BY at *
      refine wp_region_steps [[], [0], [1], [2], [3, 2], [2], [4, 5, 2], [6, 2], [2, 7], [8, 6], [9], [10, 9], [11, 9], [9, 12], [13, 9], [14], [15, 14], [16, 14], [17, 14], [14, 18]] (by kernel_rfl) (by kernel_rfl) (fun L a wx => ∃ v30 v31 v32 v33 v34 v35 v36 v37 v38 v39 v40 v41 v42 v43 v44 v45 v46 v47 v48 v49, a = ⟨#[.agg #[.int .i64 xk, .string xs, .int .u64 xn, .slice xa xl xc, .slice xb xm xd], .slice a0 n0 c0, .pointer (some ⟨w.heap.size, 0, none⟩), undef, .bool false, .slice fa fn fc, .int .i64 0, .pointer (some ⟨BY, 0, none⟩), .int .i64 0, undef, undef, undef, undef, undef, undef, .agg #[.int .i64 xk, .string xs, .int .u64 xn, .slice xa xl xc, .slice xb xm xd], .agg #[.int .i64 pk, .string ps, .int .u64 pn, .slice pa pl pc, .slice pb pm pd], .tuple #[.slice fa fn fc, .int .i64 0], .agg #[.int .i64 pk, .string ps, .int .u64 pn, .slice pa pl pc, .slice pb pm pd], .agg #[.int .i64 ok, .string os, .int .u64 on, .slice oa ol oc, .slice ob om od], .tuple #[.slice fa fn fc, .int .i64 0], .slice fa fn fc, .int .i64 0, .int .i64 0, .bool true, .tuple #[.agg #[.int .i64 yk, .string ys, .int .u64 yn, .slice ya yl yc, .slice yb ym yd], .int .i64 0], .slice fa fn fc, .tuple #[.agg #[.int .i64 yk, .string ys, .int .u64 yn, .slice ya yl yc, .slice yb ym yd], .int .i64 0], .agg #[.int .i64 yk, .string ys, .int .u64 yn, .slice ya yl yc, .slice yb ym yd], .int .i64 0, v30, v31, v32, v33, v34, v35, v36, v37, v38, v39, v40, v41, v42, v43, v44, v45, v46, v47, v48, v49, undef, undef, undef, undef, undef, undef, undef, undef, undef, undef, undef, undef, undef, undef, undef, undef, undef, undef, undef, undef, undef, undef, undef, undef, undef, undef, undef, undef, undef, undef, undef, undef, undef, undef, undef, undef, undef, undef, undef, undef, undef, undef, undef, undef, undef, undef, undef, undef, undef, undef, undef, undef, undef, undef, undef, undef, undef, undef, undef, undef, undef, undef, undef, undef, undef, undef, undef, undef, undef, undef, undef, undef, undef, undef, undef, undef, undef, undef, undef], []⟩ ∧ InvBack5 w w4 BY xk xs xn xa xl xc xb xm xd pk ps pn pa pl pc pb pm pd ok os on oa ol oc ob om od yk ys yn ya yl yc yb ym yd a0 fa n0 c0 fn fc va L v30 v31 v32 v33 v34 v35 v36 v37 v38 v39 v40 v41 v42 v43 v44 v45 v46 v47 v48 v49 wx) ?_ ⟨?_, ?_, ?_, ?_, ?_, ?_, ?_, ?_, ?_, ?_, ?_, ?_, ?_, ?_, ?_, ?_, ?_, ?_, ?_, ?_, trivial⟩ ?_
      · refine ⟨_, _, _, _, _, _, _, _, _, _, _, _, _, _, _, _, _, _, _, _, rfl, ⟨?_, ?_, ?_, ?_, ?_, ?_, ?_, ?_, ?_, ?_, ?_, ?_, ?_, ?_, ?_, ?_, ?_, ?_, ?_, ?_, hA4.drew, hY.drew, (Below.refl _ _).drew⟩⟩ <;> (intro h; exact absurd h (by decide))
      · rintro L a wx ⟨v30, v31, v32, v33, v34, v35, v36, v37, v38, v39, v40, v41, v42, v43, v44, v45, v46, v47, v48, v49, rfl, hI⟩ hL hdep hcl K hK
        go_simp
        exact hK _ _ ⟨_, v31, v32, v33, v34, v35, v36, v37, v38, v39, v40, v41, v42, v43, v44, v45, v46, v47, v48, v49, rfl, ⟨fun _ => rfl, hI.t1, hI.t2, hI.t3, hI.t4, hI.t5, hI.t6, hI.t7, hI.t8, hI.t9, hI.t10, hI.t11, hI.t12, hI.t13, hI.t14, hI.t15, hI.t16, hI.t17, hI.t18, hI.t19, hI.aA, hI.aY, hI.bl⟩⟩
      · rintro L a wx ⟨v30, v31, v32, v33, v34, v35, v36, v37, v38, v39, v40, v41, v42, v43, v44, v45, v46, v47, v48, v49, rfl, hI⟩ hL hdep hcl K hK
        obtain rfl := hI.t0 (hdep 0 (by decide))
        go_simp
        exact hK _ _ ⟨_, _, v32, v33, v34, v35, v36, v37, v38, v39, v40, v41, v42, v43, v44, v45, v46, v47, v48, v49, rfl, ⟨hI.t0, fun _ => rfl, hI.t2, hI.t3, hI.t4, hI.t5, hI.t6, hI.t7, hI.t8, hI.t9, hI.t10, hI.t11, hI.t12, hI.t13, hI.t14, hI.t15, hI.t16, hI.t17, hI.t18, hI.t19, hI.aA, hI.aY, hI.bl⟩⟩
      · rintro L a wx ⟨v30, v31, v32, v33, v34, v35, v36, v37, v38, v39, v40, v41, v42, v43, v44, v45, v46, v47, v48, v49, rfl, hI⟩ hL hdep hcl K hK
        obtain rfl := hI.t1 (hdep 1 (by decide))
        go_simp
        exact hK _ _ ⟨v30, _, _, v33, v34, v35, v36, v37, v38, v39, v40, v41, v42, v43, v44, v45, v46, v47, v48, v49, rfl, ⟨hI.t0, hI.t1, fun _ => rfl, hI.t3, hI.t4, hI.t5, hI.t6, hI.t7, hI.t8, hI.t9, hI.t10, hI.t11, hI.t12, hI.t13, hI.t14, hI.t15, hI.t16, hI.t17, hI.t18, hI.t19, hI.aA, hI.aY, hI.bl⟩⟩
      · rintro L a wx ⟨v30, v31, v32, v33, v34, v35, v36, v37, v38, v39, v40, v41, v42, v43, v44, v45, v46, v47, v48, v49, rfl, hI⟩ hL hdep hcl K hK
        obtain rfl := hI.t2 (hdep 2 (by decide))
        refine (if_pos rfl).mpr ?_
        refine wp_load_mid 30 _ rfl BY 0 rfl _ _ (hI.aY.range 0 _ (fun j v h => by rw [Nat.zero_add]; exact h)) Tryd.underlying30 rfl (by kernel_rfl) ?_
        exact hK _ _ ⟨v30, v31, _, _, v34, v35, v36, v37, v38, v39, v40, v41, v42, v43, v44, v45, v46, v47, v48, v49, rfl, ⟨hI.t0, hI.t1, hI.t2, fun _ => rfl, hI.t4, hI.t5, hI.t6, hI.t7, hI.t8, hI.t9, hI.t10, hI.t11, hI.t12, hI.t13, hI.t14, hI.t15, hI.t16, hI.t17, hI.t18, hI.t19, hI.aA, hI.aY, hI.bl⟩⟩
      · rintro L a wx ⟨v30, v31, v32, v33, v34, v35, v36, v37, v38, v39, v40, v41, v42, v43, v44, v45, v46, v47, v48, v49, rfl, hI⟩ hL hdep hcl K hK
        obtain rfl := hI.t3 (hdep 3 (by decide))
        obtain rfl := hI.t2 (hdep 2 (by decide))
        refine (if_pos rfl).mpr ?_
        go_simp
        refine (hth.out _ hI.bl).mono ?_
        rintro e w' ⟨cs', rfl, hp, hb⟩
        exact hK _ _ ⟨v30, v31, _, _, _, v35, v36, v37, v38, v39, v40, v41, v42, v43, v44, v45, v46, v47, v48, v49, rfl, ⟨hI.t0, hI.t1, hI.t2, hI.t3, fun _ => ⟨cs', rfl, hp⟩, hI.t5, hI.t6, hI.t7, hI.t8, hI.t9, hI.t10, hI.t11, hI.t12, hI.t13, hI.t14, hI.t15, fun h => (by obtain ⟨cs, e1, e2⟩ := hI.t16 h; exact ⟨cs, e1, pv_keep (CellsKept.of_below hb) _ _ e2⟩), hI.t17, hI.t18, hI.t19, hI.aA.kept hb, hI.aY.kept hb, hI.bl.trans (hb.mono hI.bl.size)⟩⟩
      · rintro L a wx ⟨v30, v31, v32, v33, v34, v35, v36, v37, v38, v39, v40, v41, v42, v43, v44, v45, v46, v47, v48, v49, rfl, hI⟩ hL hdep hcl K hK
        obtain rfl := hI.t2 (hdep 2 (by decide))
        refine (if_pos rfl).mpr ?_
        refine wp_load_mid 26 _ rfl w.heap.size 0 rfl _ _ (hI.aA.range 0 _ (fun j v h => by rw [Nat.zero_add]; exact h)) Tryd.underlying26 rfl (by kernel_rfl) ?_
        exact hK _ _ ⟨v30, v31, _, v33, v34, _, v36, v37, v38, v39, v40, v41, v42, v43, v44, v45, v46, v47, v48, v49, rfl, ⟨hI.t0, hI.t1, hI.t2, hI.t3, hI.t4, fun _ => rfl, hI.t6, hI.t7, hI.t8, hI.t9, hI.t10, hI.t11, hI.t12, hI.t13, hI.t14, hI.t15, hI.t16, hI.t17, hI.t18, hI.t19, hI.aA, hI.aY, hI.bl⟩⟩
      · rintro L a wx ⟨v30, v31, v32, v33, v34, v35, v36, v37, v38, v39, v40, v41, v42, v43, v44, v45, v46, v47, v48, v49, rfl, hI⟩ hL hdep hcl K hK
        obtain rfl := hI.t5 (hdep 5 (by decide))
        obtain rfl := hI.t2 (hdep 2 (by decide))
        refine (if_pos rfl).mpr ?_
        obtain ⟨cs1, rfl, hp1⟩ := hI.t4 (hdep 4 (by decide))
        go_simp
        refine (hrs.out _ _ hp1 hI.bl).mono ?_
        rintro e w' ⟨rfl, hb⟩
        exact hK _ _ ⟨v30, v31, _, v33, _, _, _, v37, v38, v39, v40, v41, v42, v43, v44, v45, v46, v47, v48, v49, rfl, ⟨hI.t0, hI.t1, hI.t2, hI.t3, fun h => (by obtain ⟨cs, e1, e2⟩ := hI.t4 h; exact ⟨cs, e1, rv_to hb _ _ e2⟩), hI.t5, fun _ => rfl, hI.t7, hI.t8, hI.t9, hI.t10, hI.t11, hI.t12, hI.t13, hI.t14, hI.t15, fun h => (by obtain ⟨cs, e1, e2⟩ := hI.t16 h; exact ⟨cs, e1, pv_keep (CellsKept.of_below hb) _ _ e2⟩), hI.t17, hI.t18, hI.t19, hI.aA.kept hb, hI.aY.kept hb, hI.bl.trans (hb.mono hI.bl.size)⟩⟩
      · rintro L a wx ⟨v30, v31, v32, v33, v34, v35, v36, v37, v38, v39, v40, v41, v42, v43, v44, v45, v46, v47, v48, v49, rfl, hI⟩ hL hdep hcl K hK
        obtain rfl := hI.t6 (hdep 6 (by decide))
        obtain rfl := hI.t2 (hdep 2 (by decide))
        refine (if_pos rfl).mpr ?_
        go_simp
        exact hK _ _ ⟨v30, v31, _, v33, v34, v35, _, _, v38, v39, v40, v41, v42, v43, v44, v45, v46, v47, v48, v49, rfl, ⟨hI.t0, hI.t1, hI.t2, hI.t3, hI.t4, hI.t5, hI.t6, fun _ => rfl, hI.t8, hI.t9, hI.t10, hI.t11, hI.t12, hI.t13, hI.t14, hI.t15, hI.t16, hI.t17, hI.t18, hI.t19, hI.aA, hI.aY, hI.bl⟩⟩
      · rintro L a wx ⟨v30, v31, v32, v33, v34, v35, v36, v37, v38, v39, v40, v41, v42, v43, v44, v45, v46, v47, v48, v49, rfl, hI⟩ hL hdep hcl K hK
        obtain rfl := hI.t2 (hdep 2 (by decide))
        obtain rfl := hI.t7 (hdep 7 (by decide))
        go_simp
        exact hK _ _ ⟨v30, v31, _, v33, v34, v35, v36, _, _, v39, v40, v41, v42, v43, v44, v45, v46, v47, v48, v49, rfl, ⟨hI.t0, hI.t1, hI.t2, hI.t3, hI.t4, hI.t5, hI.t6, hI.t7, fun _ => rfl, hI.t9, hI.t10, hI.t11, hI.t12, hI.t13, hI.t14, hI.t15, hI.t16, hI.t17, hI.t18, hI.t19, hI.aA, hI.aY, hI.bl⟩⟩
      · rintro L a wx ⟨v30, v31, v32, v33, v34, v35, v36, v37, v38, v39, v40, v41, v42, v43, v44, v45, v46, v47, v48, v49, rfl, hI⟩ hL hdep hcl K hK
        obtain rfl := hI.t8 (hdep 8 (by decide))
        obtain rfl := hI.t6 (hdep 6 (by decide))
        go_simp
        exact hK _ _ ⟨v30, v31, v32, v33, v34, v35, _, v37, _, _, v40, v41, v42, v43, v44, v45, v46, v47, v48, v49, rfl, ⟨hI.t0, hI.t1, hI.t2, hI.t3, hI.t4, hI.t5, hI.t6, hI.t7, hI.t8, fun _ => rfl, hI.t10, hI.t11, hI.t12, hI.t13, hI.t14, hI.t15, hI.t16, hI.t17, hI.t18, hI.t19, hI.aA, hI.aY, hI.bl⟩⟩
      · rintro L a wx ⟨v30, v31, v32, v33, v34, v35, v36, v37, v38, v39, v40, v41, v42, v43, v44, v45, v46, v47, v48, v49, rfl, hI⟩ hL hdep hcl K hK
        obtain rfl := hI.t9 (hdep 9 (by decide))
        refine (if_pos rfl).mpr ?_
        go_simp
        exact hK _ _ ⟨v30, v31, v32, v33, v34, v35, v36, v37, v38, _, _, v41, v42, v43, v44, v45, v46, v47, v48, v49, rfl, ⟨hI.t0, hI.t1, hI.t2, hI.t3, hI.t4, hI.t5, hI.t6, hI.t7, hI.t8, hI.t9, fun _ => rfl, hI.t11, hI.t12, hI.t13, hI.t14, hI.t15, hI.t16, hI.t17, hI.t18, hI.t19, hI.aA, hI.aY, hI.bl⟩⟩
      · rintro L a wx ⟨v30, v31, v32, v33, v34, v35, v36, v37, v38, v39, v40, v41, v42, v43, v44, v45, v46, v47, v48, v49, rfl, hI⟩ hL hdep hcl K hK
        obtain rfl := hI.t10 (hdep 10 (by decide))
        obtain rfl := hI.t9 (hdep 9 (by decide))
        refine (if_pos rfl).mpr ?_
        go_simp
        exact hK _ _ ⟨v30, v31, v32, v33, v34, v35, v36, v37, v38, _, _, _, v42, v43, v44, v45, v46, v47, v48, v49, rfl, ⟨hI.t0, hI.t1, hI.t2, hI.t3, hI.t4, hI.t5, hI.t6, hI.t7, hI.t8, hI.t9, hI.t10, fun _ => rfl, hI.t12, hI.t13, hI.t14, hI.t15, hI.t16, hI.t17, hI.t18, hI.t19, hI.aA, hI.aY, hI.bl⟩⟩
      · rintro L a wx ⟨v30, v31, v32, v33, v34, v35, v36, v37, v38, v39, v40, v41, v42, v43, v44, v45, v46, v47, v48, v49, rfl, hI⟩ hL hdep hcl K hK
        obtain rfl := hI.t11 (hdep 11 (by decide))
        obtain rfl := hI.t9 (hdep 9 (by decide))
        refine (if_pos rfl).mpr ?_
        have hn1 : decide ((1048576 : Int) < (fn : Int)) = false := decide_eq_false (by have := hNB.out; omega)
        go_simp
        exact hK _ _ ⟨v30, v31, v32, v33, v34, v35, v36, v37, v38, _, v40, _, _, v43, v44, v45, v46, v47, v48, v49, rfl, ⟨hI.t0, hI.t1, hI.t2, hI.t3, hI.t4, hI.t5, hI.t6, hI.t7, hI.t8, hI.t9, hI.t10, hI.t11, fun _ => rfl, hI.t13, hI.t14, hI.t15, hI.t16, hI.t17, hI.t18, hI.t19, hI.aA, hI.aY, hI.bl⟩⟩
      · rintro L a wx ⟨v30, v31, v32, v33, v34, v35, v36, v37, v38, v39, v40, v41, v42, v43, v44, v45, v46, v47, v48, v49, rfl, hI⟩ hL hdep hcl K hK
        obtain rfl := hI.t9 (hdep 9 (by decide))
        obtain rfl := hI.t12 (hdep 12 (by decide))
        go_simp
        exact hK _ _ ⟨v30, v31, v32, v33, v34, v35, v36, v37, v38, _, v40, v41, _, _, v44, v45, v46, v47, v48, v49, rfl, ⟨hI.t0, hI.t1, hI.t2, hI.t3, hI.t4, hI.t5, hI.t6, hI.t7, hI.t8, hI.t9, hI.t10, hI.t11, hI.t12, fun _ => rfl, hI.t14, hI.t15, hI.t16, hI.t17, hI.t18, hI.t19, hI.aA, hI.aY, hI.bl⟩⟩
      · rintro L a wx ⟨v30, v31, v32, v33, v34, v35, v36, v37, v38, v39, v40, v41, v42, v43, v44, v45, v46, v47, v48, v49, rfl, hI⟩ hL hdep hcl K hK
        obtain rfl := hI.t13 (hdep 13 (by decide))
        obtain rfl := hI.t9 (hdep 9 (by decide))
        go_simp
        exact hK _ _ ⟨v30, v31, v32, v33, v34, v35, v36, v37, v38, _, v40, v41, v42, _, _, v45, v46, v47, v48, v49, rfl, ⟨hI.t0, hI.t1, hI.t2, hI.t3, hI.t4, hI.t5, hI.t6, hI.t7, hI.t8, hI.t9, hI.t10, hI.t11, hI.t12, hI.t13, fun _ => rfl, hI.t15, hI.t16, hI.t17, hI.t18, hI.t19, hI.aA, hI.aY, hI.bl⟩⟩
      · rintro L a wx ⟨v30, v31, v32, v33, v34, v35, v36, v37, v38, v39, v40, v41, v42, v43, v44, v45, v46, v47, v48, v49, rfl, hI⟩ hL hdep hcl K hK
        obtain rfl := hI.t14 (hdep 14 (by decide))
        refine (if_pos rfl).mpr ?_
        refine wp_load_mid 26 _ rfl w.heap.size 0 rfl _ _ (hI.aA.range 0 _ (fun j v h => by rw [Nat.zero_add]; exact h)) Tryd.underlying26 rfl (by kernel_rfl) ?_
        exact hK _ _ ⟨v30, v31, v32, v33, v34, v35, v36, v37, v38, v39, v40, v41, v42, v43, _, _, v46, v47, v48, v49, rfl, ⟨hI.t0, hI.t1, hI.t2, hI.t3, hI.t4, hI.t5, hI.t6, hI.t7, hI.t8, hI.t9, hI.t10, hI.t11, hI.t12, hI.t13, hI.t14, fun _ => rfl, hI.t16, hI.t17, hI.t18, hI.t19, hI.aA, hI.aY, hI.bl⟩⟩
      · rintro L a wx ⟨v30, v31, v32, v33, v34, v35, v36, v37, v38, v39, v40, v41, v42, v43, v44, v45, v46, v47, v48, v49, rfl, hI⟩ hL hdep hcl K hK
        obtain rfl := hI.t15 (hdep 15 (by decide))
        obtain rfl := hI.t14 (hdep 14 (by decide))
        refine (if_pos rfl).mpr ?_
        go_simp
        refine (hou.out _ hI.bl).mono ?_
        rintro e w' ⟨cs', rfl, hp, hb⟩
        exact hK _ _ ⟨v30, v31, v32, v33, v34, v35, v36, v37, v38, v39, v40, v41, v42, v43, _, _, _, v47, v48, v49, rfl, ⟨hI.t0, hI.t1, hI.t2, hI.t3, fun h => (by obtain ⟨cs, e1, e2⟩ := hI.t4 h; exact ⟨cs, e1, rv_to hb _ _ e2⟩), hI.t5, hI.t6, hI.t7, hI.t8, hI.t9, hI.t10, hI.t11, hI.t12, hI.t13, hI.t14, hI.t15, fun _ => ⟨cs', rfl, hp⟩, hI.t17, hI.t18, hI.t19, hI.aA.kept hb, hI.aY.kept hb, hI.bl.trans (hb.mono hI.bl.size)⟩⟩
      · rintro L a wx ⟨v30, v31, v32, v33, v34, v35, v36, v37, v38, v39, v40, v41, v42, v43, v44, v45, v46, v47, v48, v49, rfl, hI⟩ hL hdep hcl K hK
        obtain rfl := hI.t14 (hdep 14 (by decide))
        refine (if_pos rfl).mpr ?_
        obtain ⟨cs1, rfl, hp1⟩ := hI.t16 (hdep 16 (by decide))
        go_simp
        refine (hmy.out _ _ hp1 hI.bl).mono ?_
        rintro e w' ⟨rfl, hb⟩
        exact hK _ _ ⟨v30, v31, v32, v33, v34, v35, v36, v37, v38, v39, v40, v41, v42, v43, _, v45, _, _, v48, v49, rfl, ⟨hI.t0, hI.t1, hI.t2, hI.t3, fun h => (by obtain ⟨cs, e1, e2⟩ := hI.t4 h; exact ⟨cs, e1, rv_to hb _ _ e2⟩), hI.t5, hI.t6, hI.t7, hI.t8, hI.t9, hI.t10, hI.t11, hI.t12, hI.t13, hI.t14, hI.t15, fun h => (by obtain ⟨cs, e1, e2⟩ := hI.t16 h; exact ⟨cs, e1, pv_keep (CellsKept.of_below hb) _ _ e2⟩), fun _ => rfl, hI.t18, hI.t19, hI.aA.kept hb, hI.aY.kept hb, hI.bl.trans (hb.mono hI.bl.size)⟩⟩
      · rintro L a wx ⟨v30, v31, v32, v33, v34, v35, v36, v37, v38, v39, v40, v41, v42, v43, v44, v45, v46, v47, v48, v49, rfl, hI⟩ hL hdep hcl K hK
        obtain rfl := hI.t17 (hdep 17 (by decide))
        obtain rfl := hI.t14 (hdep 14 (by decide))
        refine (if_pos rfl).mpr ?_
        go_simp
        exact hK _ _ ⟨v30, v31, v32, v33, v34, v35, v36, v37, v38, v39, v40, v41, v42, v43, _, v45, v46, _, _, v49, rfl, ⟨hI.t0, hI.t1, hI.t2, hI.t3, hI.t4, hI.t5, hI.t6, hI.t7, hI.t8, hI.t9, hI.t10, hI.t11, hI.t12, hI.t13, hI.t14, hI.t15, hI.t16, hI.t17, fun _ => rfl, hI.t19, hI.aA, hI.aY, hI.bl⟩⟩
      · rintro L a wx ⟨v30, v31, v32, v33, v34, v35, v36, v37, v38, v39, v40, v41, v42, v43, v44, v45, v46, v47, v48, v49, rfl, hI⟩ hL hdep hcl K hK
        obtain rfl := hI.t14 (hdep 14 (by decide))
        obtain rfl := hI.t18 (hdep 18 (by decide))
        go_simp
        exact hK _ _ ⟨v30, v31, v32, v33, v34, v35, v36, v37, v38, v39, v40, v41, v42, v43, _, v45, v46, v47, _, _, rfl, ⟨hI.t0, hI.t1, hI.t2, hI.t3, hI.t4, hI.t5, hI.t6, hI.t7, hI.t8, hI.t9, hI.t10, hI.t11, hI.t12, hI.t13, hI.t14, hI.t15, hI.t16, hI.t17, hI.t18, fun _ => rfl, hI.aA, hI.aY, hI.bl⟩⟩
      · rintro a wx ⟨v30, v31, v32, v33, v34, v35, v36, v37, v38, v39, v40, v41, v42, v43, v44, v45, v46, v47, v48, v49, rfl, hI⟩
        obtain rfl := hI.t19 rfl
        have hbl := hI.bl
        clear hI
        go_wp2
        go_meet
        exact HB34.out.trans (hbl.mono HB34.out.size)
    · have hmy : Hid (∀ W cs, PV W va cs → Below w3.heap.size w3 W → Calls Tryd.prog 15 #[.agg (List.toArray cs)] W fun e w' => e = .returned (.bool false) ∧ Below W.heap.size W w') := fun W cs h hW => by
        have := May_any va cs W h HSM.out (HT.out.to (HB3.out.trans (hW.mono HB3.out.size)))
        rw [hm] at this
        exact this
      obtain rfl : fn = 0 := by have := HFN.out; rw [htb] at this; exact this
      have d0 := (hA3.cell 0).trans (show _ = some (Value.int .i64 pk) from rfl)
      have d1 := (hA3.cell 1).trans (show _ = some (Value.string ps) from rfl)
      have d2 := (hA3.cell 2).trans (show _ = some (Value.int .u64 pn) from rfl)
      have d3 := (hA3.cell 3).trans (show _ = some (Value.slice pa pl pc) from rfl)
      have d4 := (hA3.cell 4).trans (show _ = some (Value.slice pb pm pd) from rfl)
      go_wp2_with (first
        | (go_at_call 10; go_loud (refine (hou0.out _ HB13.out).mono ?_); rintro e w4 ⟨cs', rfl, hp4, hb4⟩; obtain ⟨yk, ys, yn, ya, yl, yc, yb, ym, yd, rfl⟩ := pv_shape hp4)
        | (go_at_call 15; go_loud (refine (hmy.out _ _ hp4 hb4).mono ?_); rintro e w5 ⟨rfl, hb5⟩))
      go_meet
      exact hb4.trans (hb5.mono hb4.size)
    · have hmy : Hid (∀ W cs, PV W va cs → Below w3.heap.size w3 W → Calls Tryd.prog 15 #[.agg (List.toArray cs)] W fun e w' => e = .returned (.bool true) ∧ Below W.heap.size W w') := fun W cs h hW => by
        have := May_any va cs W h HSM.out (HT.out.to (HB3.out.trans (hW.mono HB3.out.size)))
        rw [hm] at this
        exact this
      obtain rfl : fn = 0 := by have := HFN.out; rw [htb] at this; exact this
      have d0 := (hA3.cell 0).trans (show _ = some (Value.int .i64 pk) from rfl)
      have d1 := (hA3.cell 1).trans (show _ = some (Value.string ps) from rfl)
      have d2 := (hA3.cell 2).trans (show _ = some (Value.int .u64 pn) from rfl)
      have d3 := (hA3.cell 3).trans (show _ = some (Value.slice pa pl pc) from rfl)
      have d4 := (hA3.cell 4).trans (show _ = some (Value.slice pb pm pd) from rfl)
      go_wp2_with (first
        | (go_at_call 10; go_loud (refine (hou0.out _ HB13.out).mono ?_); rintro e w4 ⟨cs', rfl, hp4, hb4⟩; obtain ⟨yk, ys, yn, ya, yl, yc, yb, ym, yd, rfl⟩ := pv_shape hp4)
        | (go_at_call 15; go_loud (refine (hmy.out _ _ hp4 hb4).mono ?_); rintro e w5 ⟨rfl, hb5⟩))
      go_meet
      exact hb4.trans (hb5.mono hb4.size)
  case rest =>
    have HBC : Hid (Below w.heap.size w wc) := HB3.out.trans (hcut.mono HB3.out.size)
    clear hcut htc hou0 HA3 hA3 HO3 HRV HB13 HB3 HB1
    rcases parse_cases bs with ⟨hp, hl⟩ | ⟨hp, hl⟩ | ⟨x, hp, hl, hmx, hwx, htx⟩
    · rw [hp] at hPb
      have hn1 : (1048576 : Int) < (n0 : Int) := by omega
      go_upto_region 10 with (first
        | (go_at_call 20; go_loud (refine (hPb.out _ HBC.out).mono ?_); rintro e w5' ⟨cs5, rfl, hp5, hb5⟩; obtain ⟨zk, zs, zn, za, zl, zc, zb, zm, zd, rfl⟩ := pv_shape hp5; have hZ0 := Arr.new w5' 30 zC)
        | ((with_reducible show wpList _ _ _ (⟨none, _, _, _, _, _⟩ :: _) _ _); go_loud (refine wl_store rfl 30 _ _ rfl w5'.heap.size 0 rfl [.int .i64 zk, .string zs, .int .u64 zn, .slice za zl zc, .slice zb zm zd] rfl 30 zC hZ0 (by kernel_rfl) (by simp [zC]) (by simp [Value.oneCell']) ?_); intro w5 hZ hg5 hs5))
      rw [whole_store zC [.int .i64 zk, .string zs, .int .u64 zn, .slice za zl zc, .slice zb zm zd] rfl] at hZ
      have HBC5 : Hid (Below wc.heap.size wc w5) := (hb5.alloc hb5.size _).grown hg5 (by have := hb5.size; simp; omega) (by intro q hq; cases hq; exact hb5.size)
      have HP5 : Hid (PV w5 JV.zero [.int .i64 zk, .string zs, .int .u64 zn, .slice za zl zc, .slice zb zm zd]) := pv_keep (CellsKept.of_below (((Below.refl _ _).alloc (Nat.le_refl _) _).grown hg5 (by simp) (by intro q hq; cases hq; exact Nat.le_refl _))) _ _ hp5
      have HB5 : Hid (Below w.heap.size w w5) := HBC.out.trans (HBC5.out.mono HBC.out.size)
      clear hp5 hb5 hZ0 hg5 hs5 hPb
      have z0 := (hZ.cell 0).trans (show _ = some (Value.int .i64 zk) from rfl)
      have z1 := (hZ.cell 1).trans (show _ = some (Value.string zs) from rfl)
      have z2 := (hZ.cell 2).trans (show _ = some (Value.int .u64 zn) from rfl)
      have z3 := (hZ.cell 3).trans (show _ = some (Value.slice za zl zc) from rfl)
      have z4 := (hZ.cell 4).trans (show _ = some (Value.slice zb zm zd) from rfl)
      have hsm : Hid (Calls Tryd.prog 22 #[.agg #[.int .i64 zk, .string zs, .int .u64 zn, .slice za zl zc, .slice zb zm zd], .agg #[.int .i64 0, .string ⟨#[]⟩, .int .u64 0, .slice none 0 0, .slice none 0 0]] w5 fun e w' => e = .returned (.bool true) ∧ Below w5.heap.size w5 w') := by
        have := Same_any JV.zero JV.zero [.int .i64 zk, .string zs, .int .u64 zn, .slice za zl zc, .slice zb zm zd] zC w5 HP5.out (sv_pv _ _ (zero_sv (fun _ => True) w5)) (by decide)
        rw [(same_eq JV.zero JV.zero).2 rfl] at this
        exact this
      go_wp2_with (first
        | (go_at_call 22; go_loud (refine hsm.out.mono ?_); rintro e w6 ⟨rfl, hb6⟩; have HB6 : Hid (Below w.heap.size w w6) := HB5.out.trans (hb6.mono HB5.out.size))
        | (go_at_call 19; go_loud (refine (hwk.out _ HB6.out).mono ?_); rintro e w7 ⟨rfl, hb7⟩))
      go_ret
      exact ⟨rfl, HB6.out.trans (hb7.mono HB6.out.size)⟩
    · rw [hp] at hPb
      have hn1 : decide ((1048576 : Int) < (n0 : Int)) = false := decide_eq_false (by omega)
      go_upto_region 10 with (first
        | (go_at_call 20; go_loud (refine (hPb.out _ HBC.out).mono ?_); rintro e w5' ⟨cs5, rfl, hp5, hb5⟩; obtain ⟨zk, zs, zn, za, zl, zc, zb, zm, zd, rfl⟩ := pv_shape hp5; have hZ0 := Arr.new w5' 30 zC)
        | ((with_reducible show wpList _ _ _ (⟨none, _, _, _, _, _⟩ :: _) _ _); go_loud (refine wl_store rfl 30 _ _ rfl w5'.heap.size 0 rfl [.int .i64 zk, .string zs, .int .u64 zn, .slice za zl zc, .slice zb zm zd] rfl 30 zC hZ0 (by kernel_rfl) (by simp [zC]) (by simp [Value.oneCell']) ?_); intro w5 hZ hg5 hs5))
      rw [whole_store zC [.int .i64 zk, .string zs, .int .u64 zn, .slice za zl zc, .slice zb zm zd] rfl] at hZ
      have HBC5 : Hid (Below wc.heap.size wc w5) := (hb5.alloc hb5.size _).grown hg5 (by have := hb5.size; simp; omega) (by intro q hq; cases hq; exact hb5.size)
      have HP5 : Hid (PV w5 JV.zero [.int .i64 zk, .string zs, .int .u64 zn, .slice za zl zc, .slice zb zm zd]) := pv_keep (CellsKept.of_below (((Below.refl _ _).alloc (Nat.le_refl _) _).grown hg5 (by simp) (by intro q hq; cases hq; exact Nat.le_refl _))) _ _ hp5
      have HB5 : Hid (Below w.heap.size w w5) := HBC.out.trans (HBC5.out.mono HBC.out.size)
      clear hp5 hb5 hZ0 hg5 hs5 hPb
      have z0 := (hZ.cell 0).trans (show _ = some (Value.int .i64 zk) from rfl)
      have z1 := (hZ.cell 1).trans (show _ = some (Value.string zs) from rfl)
      have z2 := (hZ.cell 2).trans (show _ = some (Value.int .u64 zn) from rfl)
      have z3 := (hZ.cell 3).trans (show _ = some (Value.slice za zl zc) from rfl)
      have z4 := (hZ.cell 4).trans (show _ = some (Value.slice zb zm zd) from rfl)
      have hsm : Hid (Calls Tryd.prog 22 #[.agg #[.int .i64 zk, .string zs, .int .u64 zn, .slice za zl zc, .slice zb zm zd], .agg #[.int .i64 0, .string ⟨#[]⟩, .int .u64 0, .slice none 0 0, .slice none 0 0]] w5 fun e w' => e = .returned (.bool true) ∧ Below w5.heap.size w5 w') := by
        have := Same_any JV.zero JV.zero [.int .i64 zk, .string zs, .int .u64 zn, .slice za zl zc, .slice zb zm zd] zC w5 HP5.out (sv_pv _ _ (zero_sv (fun _ => True) w5)) (by decide)
        rw [(same_eq JV.zero JV.zero).2 rfl] at this
        exact this
      go_wp2_with (first
        | (go_at_call 22; go_loud (refine hsm.out.mono ?_); rintro e w6 ⟨rfl, hb6⟩; have HB6 : Hid (Below w.heap.size w w6) := HB5.out.trans (hb6.mono HB5.out.size))
        | (go_at_call 19; go_loud (refine (hwk.out _ HB6.out).mono ?_); rintro e w7 ⟨rfl, hb7⟩))
      go_ret
      exact ⟨rfl, HB6.out.trans (hb7.mono HB6.out.size)⟩
    · rw [hp] at hPb
      have hts := tot_small x 1073741823 (by omega)
      have HSX := Lib.hid (tot_small x 9223372036854775000 (by omega)).1
      have HWX : Hid (wtV x ≤ 1073741824) := by show _ ≤ _; omega
      have HMX := Lib.hid hmx
      have htc := Lib.hid (text_cases x hwx)
      clear hts htx hmx hwx
      go_upto_region 10 with (first
        | (go_at_call 20; go_loud (refine (hPb.out _ HBC.out).mono ?_); rintro e w5' ⟨cs5, rfl, hp5, hb5⟩; obtain ⟨zk, zs, zn, za, zl, zc, zb, zm, zd, rfl⟩ := pv_shape hp5; have hZ0 := Arr.new w5' 30 zC)
        | ((with_reducible show wpList _ _ _ (⟨none, _, _, _, _, _⟩ :: _) _ _); go_loud (refine wl_store rfl 30 _ _ rfl w5'.heap.size 0 rfl [.int .i64 zk, .string zs, .int .u64 zn, .slice za zl zc, .slice zb zm zd] rfl 30 zC hZ0 (by kernel_rfl) (by simp [zC]) (by simp [Value.oneCell']) ?_); intro w5 hZ hg5 hs5))
      rw [whole_store zC [.int .i64 zk, .string zs, .int .u64 zn, .slice za zl zc, .slice zb zm zd] rfl] at hZ
      have HBC5 : Hid (Below wc.heap.size wc w5) := (hb5.alloc hb5.size _).grown hg5 (by have := hb5.size; simp; omega) (by intro q hq; cases hq; exact hb5.size)
      have HP5 : Hid (PV w5 x [.int .i64 zk, .string zs, .int .u64 zn, .slice za zl zc, .slice zb zm zd]) := pv_keep (CellsKept.of_below (((Below.refl _ _).alloc (Nat.le_refl _) _).grown hg5 (by simp) (by intro q hq; cases hq; exact Nat.le_refl _))) _ _ hp5
      have HB5 : Hid (Below w.heap.size w w5) := HBC.out.trans (HBC5.out.mono HBC.out.size)
      clear hp5 hb5 hZ0 hg5 hs5 hPb
      have z0 := (hZ.cell 0).trans (show _ = some (Value.int .i64 zk) from rfl)
      have z1 := (hZ.cell 1).trans (show _ = some (Value.string zs) from rfl)
      have z2 := (hZ.cell 2).trans (show _ = some (Value.int .u64 zn) from rfl)
      have z3 := (hZ.cell 3).trans (show _ = some (Value.slice za zl zc) from rfl)
      have z4 := (hZ.cell 4).trans (show _ = some (Value.slice zb zm zd) from rfl)
      have hmy : Hid (Calls Tryd.prog 15 #[.agg #[.int .i64 zk, .string zs, .int .u64 zn, .slice za zl zc, .slice zb zm zd]] w5 fun e w' => e = .returned (.bool true) ∧ Below w5.heap.size w5 w') := by
        have := May_any x _ w5 HP5.out HSX.out (HT.out.to HB5.out)
        rw [HMX.out] at this
        exact this
      have hTx : Hid (∀ W, Below w5.heap.size w5 W → Calls Tryd.prog 11 #[.agg #[.int .i64 zk, .string zs, .int .u64 zn, .slice za zl zc, .slice zb zm zd]] W fun e w' => ∃ vb, e = .returned (.tuple #[vb, .int .i64 (textE x)]) ∧ Own w' W.heap.size 5 vb (textB x) ∧ Below W.heap.size W w') := fun W hW => Text_any x _ W (pv_keep (CellsKept.of_below hW) _ _ HP5.out) HSX.out (HT.out.to (HB5.out.trans (hW.mono HB5.out.size)))
      go_upto_region 15 with (first
        | (go_at_call 15; go_loud (refine hmy.out.mono ?_); rintro e w6 ⟨rfl, hb6⟩; have hZ6 := hZ.kept hb6; have y0 := (hZ6.cell 0).trans (show _ = some (Value.int .i64 zk) from rfl); have y1 := (hZ6.cell 1).trans (show _ = some (Value.string zs) from rfl); have y2 := (hZ6.cell 2).trans (show _ = some (Value.int .u64 zn) from rfl); have y3 := (hZ6.cell 3).trans (show _ = some (Value.slice za zl zc) from rfl); have y4 := (hZ6.cell 4).trans (show _ = some (Value.slice zb zm zd) from rfl))
        | (go_at_call 11; go_loud (refine (hTx.out _ hb6).mono ?_); rintro e w7 ⟨vb, rfl, ho7, hb7⟩; obtain ⟨ga, gc, rfl, -⟩ := ho7.shape))
      have HB57 : Hid (Below w5.heap.size w5 w7) := hb6.trans (hb7.mono hb6.size)
      have HB7 : Hid (Below w.heap.size w w7) := HB5.out.trans (HB57.out.mono HB5.out.size)
      have hZ7 := hZ6.kept hb7
      have HO7 := Lib.hid ho7
      clear y0 y1 y2 y3 y4 z0 z1 z2 z3 z4 hZ6 hZ hb6 hb7 ho7 hTx hmy
      obtain ⟨gn, hgn⟩ : ∃ gn, gn = (textB x).length := ⟨_, rfl⟩
      have HGN := Lib.hid hgn
      rw [← hgn]
      clear hgn
      obtain ⟨G, hG⟩ : ∃ G, G = textE x := ⟨_, rfl⟩
      rw [← hG] at htc
      rw [← hG]
      clear hG
      rcases htc.out with ⟨rfl, hm, hl2, htb, hpe⟩ | ⟨rfl, hm, htb⟩ | ⟨rfl, hm, htb⟩
      · have hPc : Hid (Calls Tryd.prog 20 #[.slice ga gn gc] w7 fun e w' => ∃ cs, e = .returned (.tuple #[.agg (List.toArray cs), .int .i64 0]) ∧ PV w' x cs ∧ Below w7.heap.size w7 w') := by
          have := Parse_any ga (textB x).length gc (textB x) w7 HO7.out.rd.toRd HO7.out.cap (HT.out.to HB7.out)
          rw [hpe, ← HGN.out] at this
          exact this.mono fun e w' ⟨cs, h1, h2, h3⟩ => ⟨cs, h1, sv_pv _ _ h2, h3⟩
        clear hm hl2 htb hpe
        go_upto_region 18 with (first
          | (go_at_call 20; go_loud (refine hPc.out.mono ?_); rintro e w8' ⟨cs8, rfl, hp8, hb8⟩; obtain ⟨qk, qs, qn, qa, ql, qc, qb, qm, qd, rfl⟩ := pv_shape hp8; have hQ0 := Arr.new w8' 30 zC)
          | ((with_reducible show wpList _ _ _ (⟨none, _, _, _, _, _⟩ :: _) _ _); go_loud (refine wl_store rfl 30 _ _ rfl w8'.heap.size 0 rfl [.int .i64 qk, .string qs, .int .u64 qn, .slice qa ql qc, .slice qb qm qd] rfl 30 zC hQ0 (by kernel_rfl) (by simp [zC]) (by simp [Value.oneCell']) ?_); intro w8 hQ hg8 hs8))
        rw [whole_store zC [.int .i64 qk, .string qs, .int .u64 qn, .slice qa ql qc, .slice qb qm qd] rfl] at hQ
        have HB78 : Hid (Below w7.heap.size w7 w8) := (hb8.alloc hb8.size _).grown hg8 (by have := hb8.size; simp; omega) (by intro q hq; cases hq; exact hb8.size)
        have HP8 : Hid (PV w8 x [.int .i64 qk, .string qs, .int .u64 qn, .slice qa ql qc, .slice qb qm qd]) := pv_keep (CellsKept.of_below (((Below.refl _ _).alloc (Nat.le_refl _) _).grown hg8 (by simp) (by intro q hq; cases hq; exact Nat.le_refl _))) _ _ hp8
        have hZ8 := hZ7.kept HB78.out
        have HB8 : Hid (Below w.heap.size w w8) := HB7.out.trans (HB78.out.mono HB7.out.size)
        have hsm : Hid (Calls Tryd.prog 22 #[.agg #[.int .i64 zk, .string zs, .int .u64 zn, .slice za zl zc, .slice zb zm zd], .agg #[.int .i64 qk, .string qs, .int .u64 qn, .slice qa ql qc, .slice qb qm qd]] w8 fun e w' => e = .returned (.bool true) ∧ Below w8.heap.size w8 w') := by
          have := Same_any x x [.int .i64 zk, .string zs, .int .u64 zn, .slice za zl zc, .slice zb zm zd] [.int .i64 qk, .string qs, .int .u64 qn, .slice qa ql qc, .slice qb qm qd] w8 (pv_keep (CellsKept.of_below (HB57.out.trans (HB78.out.mono HB57.out.size))) _ _ HP5.out) HP8.out HWX.out
          rw [(same_eq x x).2 rfl] at this
          exact this
        clear hp8 hb8 hQ0 hg8 hs8 hPc hZ7
        have z0 := (hZ8.cell 0).trans (show _ = some (Value.int .i64 zk) from rfl)
        have z1 := (hZ8.cell 1).trans (show _ = some (Value.string zs) from rfl)
        have z2 := (hZ8.cell 2).trans (show _ = some (Value.int .u64 zn) from rfl)
        have z3 := (hZ8.cell 3).trans (show _ = some (Value.slice za zl zc) from rfl)
        have z4 := (hZ8.cell 4).trans (show _ = some (Value.slice zb zm zd) from rfl)
        have q0 := (hQ.cell 0).trans (show _ = some (Value.int .i64 qk) from rfl)
        have q1 := (hQ.cell 1).trans (show _ = some (Value.string qs) from rfl)
        have q2 := (hQ.cell 2).trans (show _ = some (Value.int .u64 qn) from rfl)
        have q3 := (hQ.cell 3).trans (show _ = some (Value.slice qa ql qc) from rfl)
        have q4 := (hQ.cell 4).trans (show _ = some (Value.slice qb qm qd) from rfl)
        go_wp2_with (first
          | (go_at_call 22; go_loud (refine hsm.out.mono ?_); rintro e w9 ⟨rfl, hb9⟩; have HB9 : Hid (Below w.heap.size w w9) := HB8.out.trans (hb9.mono HB8.out.size))
          | (go_at_call 19; go_loud (refine (hwk.out _ HB9.out).mono ?_); rintro e w10 ⟨rfl, hb10⟩))
        go_ret
        exact ⟨rfl, HB9.out.trans (hb10.mono HB9.out.size)⟩
      · rw [HMX.out] at hm
        cases hm
      · go_wp2_with (go_at_call 19; go_loud (refine (hwk.out _ HB7.out).mono ?_); rintro e w8 ⟨rfl, hb8⟩)
        go_ret
        exact ⟨rfl, HB7.out.trans (hb8.mono HB7.out.size)⟩
end Go.Proofs.YtiadfijeglbdlaaDoor

namespace Go.Proofs.YtiadfijeglbdlaaDoor
open Go.ChangeShapes Go.WideShapes Go.ChangeAt Go.RowKit
set_option maxRecDepth 100000

theorem cells1 : Tryd.prog.cellsOf 5 = 1 := by kernel_rfl
/-- the bytes that came in, with the bound of what they may hold -/
theorem rd_of_trod_c {H : Type} {enc : TypeId × Value → H} {P : Program} {T E : TypeId} (bt : BT P T E) (hc : P.cellsOf E = 1) {W : World} {v : Value} {d : DataW H} {p : List MemPlace} {b0 : Nat} {sp : Nat → Bool}
    (hval : Value.okWide P W .any b0 T v) (h0 : DataW.Trod enc P W 0 sp true T v d p) (hsp : ∀ n, sp n = true) :
    ∃ a n cap xs, v = .slice a n cap ∧ Rd W a n cap xs ∧ n ≤ Rows.uptoBulk d ∧ cap ≤ 9223372036854775807 := by
  obtain ⟨a, n, cap, xs, rfl, h1, h2⟩ := rd_of_trod bt hc hval h0 hsp
  refine ⟨a, n, cap, xs, rfl, h1, h2, ?_⟩
  obtain ⟨fuel, hf⟩ := h0
  rcases open_ints bt.sl bt.el hc hf with ⟨hcs, _⟩ | ⟨a, len', cap', zs, hcs, _, hl, hm, _⟩
  · cases hcs
    omega
  · cases hcs
    unfold maxLen at hm
    omega

theorem jsonBack_contract (H : Type) (enc : TypeId × Value → H) (W : World) (base : Nat) (args : Array Value) (ds gs : List (DataW H)) (before : List MemPlace)
    (hval : ∀ (j : Nat) t v, Tryd.f6.params[j]? = some t → args[j]? = some v → Value.okWide Tryd.prog W .any base t v)
    (hW : DataW.Whole enc Tryd.prog Tryd.f6.params.toList Rows.jsonBackSpec.vars false W args.toList ds gs before) (hZ : (DataW.weightsEach Tryd.prog (Tryd.f6.params.toList ++ (OpenSpec.ofChange Rows.jsonBackSpec).bare.plain.varTypes Tryd.prog) (ds ++ gs)).all (· ≤ reachBytes) = true) (hT : Tabs W) :
    Calls Tryd.prog 6 args W fun e W' => ∃ v, e = .returned v ∧ Rows.jsonBackSpec.post enc Tryd.prog Tryd.f6 false true false false W args v W' := by
  have hW' := hW
  obtain ⟨p, q, hA0, hV, rfl, _, _⟩ := hW
  have hA : DataW.TrodAll enc Tryd.prog W 0 (fun _ => true) true Tryd.f6.params.toList args.toList ds p := hA0
  have hval' := hval
  rw [Tryd.params6] at hA hval'
  obtain ⟨v0, v1, d0, d1, p0, p1, hargs, rfl, rfl, h0, h1⟩ := trodAll_two hA
  obtain rfl : args = #[v0, v1] := by cases args; simp_all
  obtain ⟨rfl, rfl⟩ := trodVars_none hV
  have wk0 := wok_top hZ (j := 0) (t := 26) (d := d0) rfl rfl
  obtain ⟨c0, x0, rfl, hx0, hs0, hf0⟩ := value_of_trod_w (hval' 0 26 v0 rfl rfl) h0 wk0
  obtain ⟨a1, n1, c1, xs, rfl, hr1, hb1, hc1⟩ := rd_of_trod_c bt cells1 (hval' 1 32 v1 rfl rfl) h1 (fun _ => rfl)
  refine (JsonBack_any x0 c0 a1 n1 c1 xs W hx0 hs0 hf0 hr1 hc1 hT).mono fun e W' ⟨he, hw⟩ => ?_
  subst he
  exact ⟨_, rfl, law_post laidOuts (by kernel_rfl) rfl Tryd.underlying4 rfl hW' hw rfl⟩

set_option maxRecDepth 100000 in
theorem jsonBack_lifted (os : Os) (started : os.Started) (H : Type) (enc : TypeId × Value → H) (F : Stop.Interp) :
    ReturnsInHanded {} Tryd.checked os 6 .any ((OpenSpec.ofChange Rows.jsonBackSpec).preRow enc Tryd.prog Tryd.f6 Rows.jsonBackRow.domain false Rows.jsonBackRow.laid) (((OpenSpec.ofChange Rows.jsonBackSpec).at F).post enc Tryd.prog Tryd.f6 false true false false) := by
  refine returnsInHanded_of_row (C := Tryd.checked) (s := OpenSpec.ofChange Rows.jsonBackSpec) ownKnobs started (by kernel_rfl) Tryd.func6
    (witness_laid (enc := enc) (os := os) false #[Value.agg #[.int .i64 0, .string ⟨#[]⟩, .int .u64 0, .slice none 0 0, .slice none 0 0], .slice none 0 0] (by kernel_rfl)
      (OpenSpec.preRow_of_cond 8 (x := ([.agg [.lit (.int .i64 0), .lit (.string []), .lit (.int .u64 0), .nil, .nil], .nil], [], [])) (by kernel_rfl) (by kernel_rfl) (fun k hk => by cases hk) (by kernel_rfl) (laid_any os #[Value.agg #[.int .i64 0, .string ⟨#[]⟩, .int .u64 0, .slice none 0 0, .slice none 0 0], .slice none 0 0]))) ?_
  intro W base args ds gs before hval hW _ _ hZ hL _ _
  exact jsonBack_contract H enc W base args ds gs before hval hW hZ (tabs_of_laid hL)

theorem jsonBack_said : Rows.JsonBackSaid :=
  OpenClaim.holds_of_cond 6 Tryd.f6 rfl rfl rfl rfl rfl rfl rfl ⟨rfl, rfl, rfl, rfl, rfl⟩ rfl rfl rfl rfl rfl (by kernel_rfl) Tryd.func6 (by kernel_rfl)
    (of_decide_eq_true (by kernel_rfl)) (by unfold Func.isWrapper; first | (rw [if_pos (by decide +kernel)]; kernel_rfl) | (rw [if_neg (by decide +kernel)]; exact ⟨rfl, rfl⟩))
    (fun os started H enc _ F => by rw [OpenClaim.pre_eq_preRow]; exact jsonBack_lifted os started H enc F)

theorem jsonBack_plain (f : FuncId) (fn : Func) (hf : Tryd.pinned.checked.prog.funcNamed "escritoire/escritoirelaw04.JsonBack" = some f) (hfn : Tryd.pinned.checked.prog.funcs[f]? = some fn) :
    true = Tryd.pinned.checked.prog.looks [] ∧ ∀ (j : Nat) t, fn.params[j]? = some t → Tryd.pinned.checked.prog.wantsStandIn t = false := by
  obtain rfl : f = 6 := Option.some.inj ((show Tryd.prog.funcNamed "escritoire/escritoirelaw04.JsonBack" = some 6 by kernel_rfl).symm.trans hf) |>.symm
  obtain rfl : fn = Tryd.f6 := (Option.some.inj (Tryd.func6.symm.trans hfn)).symm
  refine ⟨by kernel_rfl, fun j t ht => ?_⟩
  have hm : t ∈ Tryd.f6.params.toList := by simpa using Array.mem_of_getElem? ht
  have hall : (Tryd.f6.params.toList.all fun u => !Tryd.prog.wantsStandIn u) = true := by kernel_rfl
  exact (show Tryd.prog.wantsStandIn t = false by simpa using List.all_eq_true.1 hall t hm)

theorem jsonBack_proved : Rows.JsonBackCardSaid :=
  Claim7.holds_tied_plain_at .later [] _ _ _ _ jsonBack_said (fun _ h => by cases h) (by kernel_rfl) (fun _ h => by cases h) jsonBack_row_tie rfl ⟨rfl, rfl⟩ (by kernel_rfl) rfl jsonBack_plain (by kernel_rfl)
end Go.Proofs.YtiadfijeglbdlaaDoor
