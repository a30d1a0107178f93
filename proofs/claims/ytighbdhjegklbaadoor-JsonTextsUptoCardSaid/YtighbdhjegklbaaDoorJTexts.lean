/-
  JsonTexts: its contract. Conditions: those in each statement.
-/
import Derived.Test.YtighbdhjegklbaaDoorLSame
import Derived.Test.YtighbdhjegklbaaDoorRdA
import Derived.Test.YtighbdhjegklbaaDoorRdB
import Derived.Test.YtighbdhjegklbaaDoorRdD
import Derived.Test.YtighbdhjegklbaaDoorRdE
import Derived.Deep.Cut
namespace Go.Proofs.YtighbdhjegklbaaDoor
open Go.RowKit

structure InvTexts (w w6 : World) (BM BG BH : Nat) (xk : Int) (xs : ByteArray) (xn : Int) (xa : Option Addr) (xl xc : Nat) (xb : Option Addr) (xm xd : Nat) (pk : Int) (ps : ByteArray) (pn : Int) (pa : Option Addr) (pl pc : Nat) (pb : Option Addr) (pm pd : Nat) (ok : Int) (os : ByteArray) (on : Int) (oa : Option Addr) (ol oc : Nat) (ob : Option Addr) (om od : Nat) (gk : Int) (gs : ByteArray) (gn : Int) (ga : Option Addr) (gl gc : Nat) (gb : Option Addr) (gm gd : Nat) (hk : Int) (hs : ByteArray) (hn : Int) (ha : Option Addr) (hl hc : Nat) (hb : Option Addr) (hm hd : Nat) (key B : List UInt8) (fa ta : Option Addr) (fn fc tn tc : Nat) (va X : JV) (E : Int) (M S : Bool) (L : Nat → Bool) (v : Nat → Value) (wx : World) : Prop where
  t0 : L 0 = true → (v 40) = .slice fa fn fc
  t1 : L 1 = true → (v 41) = .string (bstr B)
  t2 : L 2 = true → (v 42) = .slice ta tn tc
  t3 : L 3 = true → (v 43) = .string (bstr B)
  t4 : L 4 = true → (v 44) = .bool true
  t5 : L 5 = true → (v 45) = .bool true
  t6 : L 6 = true → (v 46) = .int .i64 E
  t7 : L 7 = true → (v 47) = .int .i64 E
  t8 : L 8 = true → (v 48) = .bool true
  t9 : L 9 = true → (v 49) = .bool true
  t10 : L 10 = true → (v 50) = .bool true
  t11 : L 11 = true → (v 51) = .agg #[.int .i64 ok, .string os, .int .u64 on, .slice oa ol oc, .slice ob om od]
  t12 : L 12 = true → (v 52) = .bool M
  t13 : L 13 = true → (v 53) = .agg #[.int .i64 pk, .string ps, .int .u64 pn, .slice pa pl pc, .slice pb pm pd]
  t14 : L 14 = true → (v 54) = .bool M
  t15 : L 15 = true → (v 55) = .bool true
  t16 : L 16 = true → (v 56) = .bool true
  t17 : L 17 = true → (v 57) = .bool true
  t18 : L 18 = true → (v 58) = .agg #[.int .i64 gk, .string gs, .int .u64 gn, .slice ga gl gc, .slice gb gm gd]
  t19 : L 19 = true → ∃ cs, (v 59) = .agg (List.toArray cs) ∧ RV wx X cs
  t20 : L 20 = true → (v 60) = .agg #[.int .i64 hk, .string hs, .int .u64 hn, .slice ha hl hc, .slice hb hm hd]
  t21 : L 21 = true → (v 61) = .bool true
  t22 : L 22 = true → (v 62) = .bool true
  t23 : L 23 = true → (v 63) = .bool true
  t24 : L 24 = true → (v 64) = .bool S
  t25 : L 25 = true → (v 65) = .bool S
  t26 : L 26 = true → (v 66) = .bool true
  t27 : L 27 = true → (v 67) = .bool true
  t28 : L 28 = true → (v 68) = .bool true
  t29 : L 29 = true → (v 69) = .agg #[.int .i64 ok, .string os, .int .u64 on, .slice oa ol oc, .slice ob om od]
  t30 : L 30 = true → ∃ cs, (v 70) = .agg (List.toArray cs) ∧ RV wx va cs
  t31 : L 31 = true → (v 71) = .agg #[.int .i64 pk, .string ps, .int .u64 pn, .slice pa pl pc, .slice pb pm pd]
  t32 : L 32 = true → (v 72) = .bool true
  t33 : L 33 = true → (v 73) = .bool true
  t34 : L 34 = true → (v 74) = .bool true
  t35 : L 35 = true → (v 75) = .bool true
  t36 : L 36 = true → (v 76) = .bool true
  t37 : L 37 = true → (v 4) = .bool true
  aA : Arr wx w.heap.size 26 [.int .i64 pk, .string ps, .int .u64 pn, .slice pa pl pc, .slice pb pm pd]
  aM : Arr wx BM 30 [.int .i64 ok, .string os, .int .u64 on, .slice oa ol oc, .slice ob om od]
  aG : Arr wx BG 30 [.int .i64 gk, .string gs, .int .u64 gn, .slice ga gl gc, .slice gb gm gd]
  aH : Arr wx BH 26 [.int .i64 hk, .string hs, .int .u64 hn, .slice ha hl hc, .slice hb hm hd]
  bl : Below w6.heap.size w6 wx

set_option maxRecDepth 100000 in
set_option maxHeartbeats 20000000 in
theorem JsonTexts_any (va0 : JV) (ca : List Value) (key : List UInt8) (w : World) (hx : RV w va0 ca) (ha : totV va0 ≤ 1048576) (hT : Tabs w) :
    Calls Tryd.prog 3 #[.agg ca.toArray, .string (bstr key)] w fun e w' => e = .returned (.bool true) ∧ Below w.heap.size w w' := by
  have hac := cut_tot va0 100
  have hcA0 : Hid (∀ W, Below w.heap.size w W → Calls Tryd.prog 9 #[.agg ca.toArray, .int .i64 100] W fun e w' => ∃ cs', e = .returned (.agg (List.toArray cs')) ∧ SV (fun x => x < w.heap.size ∨ W.heap.size ≤ x) w' (cutF va0 100) cs' ∧ Below W.heap.size W w') := fun W hW => cut_any va0 ca w W 100 hx hW (tot_small va0 _ (by omega)).2.1 (by omega)
  obtain ⟨xk, xs, xn, xa, xl, xc, xb, xm, xd, rfl⟩ := rv_shape hx
  generalize cutF va0 100 = va at *
  have HTOT : Hid (totV va ≤ 1048576) := by show _ ≤ _; omega
  have HSM := Lib.hid (tot_small va 9223372036854775000 (by omega)).1
  have HFA := Lib.hid (tot_small va 1073741823 (by omega)).2.1
  have HFG := Lib.hid (tot_small va 1099511627776 (by omega)).2.1
  have hcA : Hid (∀ W, Below w.heap.size w W → Calls Tryd.prog 9 #[.agg #[.int .i64 xk, .string xs, .int .u64 xn, .slice xa xl xc, .slice xb xm xd], .int .i64 100] W fun e w' => ∃ cs', e = .returned (.agg (List.toArray cs')) ∧ SV (fun x => x < w.heap.size ∨ W.heap.size ≤ x) w' va cs' ∧ Below W.heap.size W w') := hcA0.out
  have HT := Lib.hid hT
  have hwk : Hid (∀ W, Below w.heap.size w W → Calls Tryd.prog 19 #[] W fun e w' => e = .returned (.bool true) ∧ Below W.heap.size W w') := fun W hW => wakes_any W (HT.out.to hW)
  have hA0 : Arr (w.alloc (.cells #[.int .i64 xk, .string xs, .int .u64 xn, .slice xa xl xc, .slice xb xm xd] 26)) w.heap.size 26 [.int .i64 xk, .string xs, .int .u64 xn, .slice xa xl xc, .slice xb xm xd] := Arr.new w 26 [.int .i64 xk, .string xs, .int .u64 xn, .slice xa xl xc, .slice xb xm xd]
  have hW1 : Below w.heap.size w (w.alloc (.cells #[.int .i64 xk, .string xs, .int .u64 xn, .slice xa xl xc, .slice xb xm xd] 26)) := (Below.refl _ _).alloc (Nat.le_refl _) _
  have hz1 : (w.alloc (.cells #[.int .i64 xk, .string xs, .int .u64 xn, .slice xa xl xc, .slice xb xm xd] 26)).heap.size = w.heap.size + 1 := by simp
  have HZ1 := Lib.hid hz1
  clear hT hx ha hac hcA0 hz1
  have k0 := (hA0.cell 0).trans (show _ = some (Value.int .i64 xk) from rfl)
  have k1 := (hA0.cell 1).trans (show _ = some (Value.string xs) from rfl)
  have k2 := (hA0.cell 2).trans (show _ = some (Value.int .u64 xn) from rfl)
  have k3 := (hA0.cell 3).trans (show _ = some (Value.slice xa xl xc) from rfl)
  have k4 := (hA0.cell 4).trans (show _ = some (Value.slice xb xm xd) from rfl)
  go_enter Tryd.func3, Tryd.ntmps3
  go_upto_region 2 with (first
    | (go_at_call 9; go_loud (refine (hcA.out _ hW1).mono ?_); rintro e w1' ⟨cs', rfl, hsv1, hb1⟩; obtain ⟨pk, ps, pn, pa, pl, pc, pb, pm, pd, rfl⟩ := five_of hsv1; have hA1 := hA0.kept hb1)
    | ((with_reducible show wpList _ _ _ (⟨none, _, _, _, _, _⟩ :: _) _ _); go_loud (refine wl_store rfl 26 _ _ rfl w.heap.size 0 rfl [.int .i64 pk, .string ps, .int .u64 pn, .slice pa pl pc, .slice pb pm pd] rfl 26 [.int .i64 xk, .string xs, .int .u64 xn, .slice xa xl xc, .slice xb xm xd] hA1 (by kernel_rfl) (by simp) (by simp [Value.oneCell']) ?_); intro w1 hA2 hg1 hs1))
  rw [whole_store [.int .i64 xk, .string xs, .int .u64 xn, .slice xa xl xc, .slice xb xm xd] [.int .i64 pk, .string ps, .int .u64 pn, .slice pa pl pc, .slice pb pm pd] rfl] at hA2
  have HB1 : Hid (Below w.heap.size w w1) := (hW1.trans (hb1.mono hW1.size)).grown hg1 (hW1.trans (hb1.mono hW1.size)).size (fun k hk => by cases hk; exact Nat.le_refl _)
  have HRV : Hid (RV w1 va [.int .i64 pk, .string ps, .int .u64 pn, .slice pa pl pc, .slice pb pm pd]) := pv_rv _ _ (sv_pv _ _ (sv_to (fun _ h _ => h) (Stay.of_grown hg1 (fun k hk => by cases hk; have := HZ1.out; omega)) _ _ hsv1))
  clear hA0 hA1 k0 k1 k2 k3 k4 hsv1 hb1 hg1 hs1 hcA hW1
  have HWF := Lib.hid (rvw_ok _ _ HRV.out)
  have hou0 : Hid (Calls Tryd.prog 10 #[.agg #[.int .i64 pk, .string ps, .int .u64 pn, .slice pa pl pc, .slice pb pm pd]] w1 fun e w' => ∃ cs', e = .returned (.agg (List.toArray cs')) ∧ PV w' va cs' ∧ Below w1.heap.size w1 w') := (ours_any va _ w1 w1 HRV.out (Below.refl _ _) HFA.out).mono fun e w' ⟨cs', h1, h2, h3⟩ => ⟨cs', h1, sv_pv _ _ h2, h3⟩
  have b0 := (hA2.cell 0).trans (show _ = some (Value.int .i64 pk) from rfl)
  have b1 := (hA2.cell 1).trans (show _ = some (Value.string ps) from rfl)
  have b2 := (hA2.cell 2).trans (show _ = some (Value.int .u64 pn) from rfl)
  have b3 := (hA2.cell 3).trans (show _ = some (Value.slice pa pl pc) from rfl)
  have b4 := (hA2.cell 4).trans (show _ = some (Value.slice pb pm pd) from rfl)
  go_upto_region 3 with (first
    | (go_at_call 10; go_loud (refine hou0.out.mono ?_); rintro e w2' ⟨cs', rfl, hp2, hb2⟩; obtain ⟨ok, os, on, oa, ol, oc, ob, om, od, rfl⟩ := pv_shape hp2; have hM0 := Arr.new w2' 30 zC)
    | ((with_reducible show wpList _ _ _ (⟨none, _, _, _, _, _⟩ :: _) _ _); go_loud (refine wl_store rfl 30 _ _ rfl w2'.heap.size 0 rfl [.int .i64 ok, .string os, .int .u64 on, .slice oa ol oc, .slice ob om od] rfl 30 zC hM0 (by kernel_rfl) (by simp [zC]) (by simp [Value.oneCell']) ?_); intro w2 hM hg2 hs2))
  rw [whole_store zC [.int .i64 ok, .string os, .int .u64 on, .slice oa ol oc, .slice ob om od] rfl] at hM
  have HB12 : Hid (Below w1.heap.size w1 w2) := (hb2.alloc hb2.size _).grown hg2 (by have := hb2.size; simp; omega) (by intro q hq; cases hq; exact hb2.size)
  have HP2 : Hid (PV w2 va [.int .i64 ok, .string os, .int .u64 on, .slice oa ol oc, .slice ob om od]) := pv_keep (CellsKept.of_below (((Below.refl _ _).alloc (Nat.le_refl _) _).grown hg2 (by simp) (by intro q hq; cases hq; exact Nat.le_refl _))) _ _ hp2
  have HB2 : Hid (Below w.heap.size w w2) := HB1.out.trans (HB12.out.mono HB1.out.size)
  have hA := hA2.kept HB12.out
  generalize w2'.heap.size = BM at *
  clear hA2 b0 b1 b2 b3 b4 hp2 hb2 hM0 hg2 hs2 hou0
  have hTx : Hid (Calls Tryd.prog 11 #[.agg #[.int .i64 ok, .string os, .int .u64 on, .slice oa ol oc, .slice ob om od]] w2 fun e w' => ∃ vb, e = .returned (.tuple #[vb, .int .i64 (textE va)]) ∧ Own w' w2.heap.size 5 vb (textB va) ∧ Below w2.heap.size w2 w') := Text_any va _ w2 HP2.out HSM.out (HT.out.to HB2.out)
  have b0 := (hM.cell 0).trans (show _ = some (Value.int .i64 ok) from rfl)
  have b1 := (hM.cell 1).trans (show _ = some (Value.string os) from rfl)
  have b2 := (hM.cell 2).trans (show _ = some (Value.int .u64 on) from rfl)
  have b3 := (hM.cell 3).trans (show _ = some (Value.slice oa ol oc) from rfl)
  have b4 := (hM.cell 4).trans (show _ = some (Value.slice ob om od) from rfl)
  go_upto_region 4 with (go_at_call 11; go_loud (refine hTx.out.mono ?_); rintro e w3 ⟨vb, rfl, ho3, hb3⟩; obtain ⟨fa, fc, rfl, -⟩ := ho3.shape)
  have HB23 : Hid (Below w2.heap.size w2 w3) := hb3
  have HB3 : Hid (Below w.heap.size w w3) := HB2.out.trans (hb3.mono HB2.out.size)
  have HR3 := Lib.hid ho3.rd.toRd
  replace hA := hA.kept hb3
  replace hM := hM.kept hb3
  clear b0 b1 b2 b3 b4 ho3 hb3 hTx
  obtain ⟨fn, hfn⟩ : ∃ fn, fn = (textB va).length := ⟨_, rfl⟩
  rw [← hfn] at HR3 ⊢
  clear hfn
  have hrT : Hid (Calls Tryd.prog 12 #[.agg #[.int .i64 pk, .string ps, .int .u64 pn, .slice pa pl pc, .slice pb pm pd]] w3 fun e w' => ∃ a n c, e = .returned (.tuple #[.slice a n c, .int .i64 (textE va)]) ∧ Rd w' a n c (textB va) ∧ Below w3.heap.size w3 w') := rText_any va _ w3 (rv_to (HB12.out.trans (HB23.out.mono HB12.out.size)) _ _ HRV.out) HSM.out (fun _ => by have h1 := plain_tot va HWF.out; have h2 := HTOT.out; omega)
  have b0 := (hA.cell 0).trans (show _ = some (Value.int .i64 pk) from rfl)
  have b1 := (hA.cell 1).trans (show _ = some (Value.string ps) from rfl)
  have b2 := (hA.cell 2).trans (show _ = some (Value.int .u64 pn) from rfl)
  have b3 := (hA.cell 3).trans (show _ = some (Value.slice pa pl pc) from rfl)
  have b4 := (hA.cell 4).trans (show _ = some (Value.slice pb pm pd) from rfl)
  go_upto_region 5 with (go_at_call 12; go_loud (refine hrT.out.mono ?_); rintro e w4 ⟨ta, tn, tc, rfl, hr4, hb4⟩)
  have HB24 : Hid (Below w2.heap.size w2 w4) := HB23.out.trans (hb4.mono HB23.out.size)
  have HB4 : Hid (Below w.heap.size w w4) := HB3.out.trans (hb4.mono HB3.out.size)
  have HR34 := Lib.hid (HR3.out.to hb4)
  have HR4 := Lib.hid hr4
  replace hA := hA.kept hb4
  replace hM := hM.kept hb4
  clear b0 b1 b2 b3 b4 hr4 hb4 hrT HR3
  obtain ⟨B, hB⟩ : ∃ B, B = textB va := ⟨_, rfl⟩
  rw [← hB] at HR34 HR4
  obtain ⟨E, hE⟩ : ∃ E, E = textE va := ⟨_, rfl⟩
  rw [← hE]
  clear hB hE
  obtain ⟨X, hX⟩ : ∃ X, X = (getF va key).getD JV.zero := ⟨_, rfl⟩
  obtain ⟨S, hS⟩ : ∃ S, S = (getF va key).isSome := ⟨_, rfl⟩
  have HXT : Hid (totV X ≤ 1048576) := by show _ ≤ _; rw [hX]; exact get_tot va key _ HTOT.out (by omega)
  have hGt : Hid (Calls Tryd.prog 13 #[.agg #[.int .i64 ok, .string os, .int .u64 on, .slice oa ol oc, .slice ob om od], .string (bstr key)] w4 fun e w' => ∃ cx, e = .returned (.tuple #[.agg (List.toArray cx), .bool S]) ∧ PV w' X cx ∧ Below w4.heap.size w4 w') := by
    have := Get_any va _ key w4 (pv_keep (CellsKept.of_below HB24.out) _ _ HP2.out) HFG.out
    rw [← hX, ← hS] at this
    exact this.mono fun e w' ⟨cx, h1, h2, h3⟩ => ⟨cx, h1, sv_pv _ _ h2, h3⟩
  have hRG : Hid (∀ W, Below w1.heap.size w1 W → Calls Tryd.prog 14 #[.agg #[.int .i64 pk, .string ps, .int .u64 pn, .slice pa pl pc, .slice pb pm pd], .string (bstr key)] W fun e w' => ∃ cx, e = .returned (.tuple #[.agg (List.toArray cx), .bool S]) ∧ RV w' X cx ∧ Below W.heap.size W w') := fun W hW => by
    have := rGet_any va _ key W (rv_to hW _ _ HRV.out)
    rw [← hX, ← hS] at this
    exact this
  clear hX hS
  have b0 := (hM.cell 0).trans (show _ = some (Value.int .i64 ok) from rfl)
  have b1 := (hM.cell 1).trans (show _ = some (Value.string os) from rfl)
  have b2 := (hM.cell 2).trans (show _ = some (Value.int .u64 on) from rfl)
  have b3 := (hM.cell 3).trans (show _ = some (Value.slice oa ol oc) from rfl)
  have b4 := (hM.cell 4).trans (show _ = some (Value.slice ob om od) from rfl)
  go_upto_region 6 with (first
    | (go_at_call 13; go_loud (refine hGt.out.mono ?_); rintro e w5' ⟨cs', rfl, hp5, hb5⟩; obtain ⟨gk, gs, gn, ga, gl, gc, gb, gm, gd, rfl⟩ := pv_shape hp5; have hG0 := Arr.new w5' 30 zC)
    | ((with_reducible show wpList _ _ _ (⟨none, _, _, _, _, _⟩ :: _) _ _); go_loud (refine wl_store rfl 30 _ _ rfl w5'.heap.size 0 rfl [.int .i64 gk, .string gs, .int .u64 gn, .slice ga gl gc, .slice gb gm gd] rfl 30 zC hG0 (by kernel_rfl) (by simp [zC]) (by simp [Value.oneCell']) ?_); intro w5 hG hg5 hs5))
  rw [whole_store zC [.int .i64 gk, .string gs, .int .u64 gn, .slice ga gl gc, .slice gb gm gd] rfl] at hG
  have HB45 : Hid (Below w4.heap.size w4 w5) := (hb5.alloc hb5.size _).grown hg5 (by have := hb5.size; simp; omega) (by intro q hq; cases hq; exact hb5.size)
  have HP5 : Hid (PV w5 X [.int .i64 gk, .string gs, .int .u64 gn, .slice ga gl gc, .slice gb gm gd]) := pv_keep (CellsKept.of_below (((Below.refl _ _).alloc (Nat.le_refl _) _).grown hg5 (by simp) (by intro q hq; cases hq; exact Nat.le_refl _))) _ _ hp5
  have HB25 : Hid (Below w2.heap.size w2 w5) := HB24.out.trans (HB45.out.mono HB24.out.size)
  have HB5 : Hid (Below w.heap.size w w5) := HB4.out.trans (HB45.out.mono HB4.out.size)
  have HR35 := Lib.hid (HR34.out.to HB45.out)
  have HR45 := Lib.hid (HR4.out.to HB45.out)
  replace hA := hA.kept HB45.out
  replace hM := hM.kept HB45.out
  generalize w5'.heap.size = BG at *
  clear b0 b1 b2 b3 b4 hp5 hb5 hG0 hg5 hs5 hGt HR34 HR4
  have b0 := (hA.cell 0).trans (show _ = some (Value.int .i64 pk) from rfl)
  have b1 := (hA.cell 1).trans (show _ = some (Value.string ps) from rfl)
  have b2 := (hA.cell 2).trans (show _ = some (Value.int .u64 pn) from rfl)
  have b3 := (hA.cell 3).trans (show _ = some (Value.slice pa pl pc) from rfl)
  have b4 := (hA.cell 4).trans (show _ = some (Value.slice pb pm pd) from rfl)
  go_upto_region 7 with (first
    | (go_at_call 14; go_loud (refine (hRG.out _ (HB12.out.trans (HB25.out.mono HB12.out.size))).mono ?_); rintro e w6' ⟨cs', rfl, hr6, hb6⟩; obtain ⟨hk, hs, hn, ha, hl, hc, hb, hm, hd, rfl⟩ := rv_shape hr6; have hH0 := Arr.new w6' 26 zC)
    | ((with_reducible show wpList _ _ _ (⟨none, _, _, _, _, _⟩ :: _) _ _); go_loud (refine wl_store rfl 26 _ _ rfl w6'.heap.size 0 rfl [.int .i64 hk, .string hs, .int .u64 hn, .slice ha hl hc, .slice hb hm hd] rfl 26 zC hH0 (by kernel_rfl) (by simp [zC]) (by simp [Value.oneCell']) ?_); intro w6 hH hg6 hs6))
  rw [whole_store zC [.int .i64 hk, .string hs, .int .u64 hn, .slice ha hl hc, .slice hb hm hd] rfl] at hH
  have HB56 : Hid (Below w5.heap.size w5 w6) := (hb6.alloc hb6.size _).grown hg6 (by have := hb6.size; simp; omega) (by intro q hq; cases hq; exact hb6.size)
  have HRH : Hid (RV w6 X [.int .i64 hk, .string hs, .int .u64 hn, .slice ha hl hc, .slice hb hm hd]) := rv_to (((Below.refl _ _).alloc (Nat.le_refl _) _).grown hg6 (by simp) (by intro q hq; cases hq; exact Nat.le_refl _)) _ _ hr6
  have HB26 : Hid (Below w2.heap.size w2 w6) := HB25.out.trans (HB56.out.mono HB25.out.size)
  have HB16 : Hid (Below w1.heap.size w1 w6) := HB12.out.trans (HB26.out.mono HB12.out.size)
  have HB6 : Hid (Below w.heap.size w w6) := HB5.out.trans (HB56.out.mono HB5.out.size)
  have HR36 := Lib.hid (HR35.out.to HB56.out)
  have HR46 := Lib.hid (HR45.out.to HB56.out)
  replace hA := hA.kept HB56.out
  replace hM := hM.kept HB56.out
  replace hG := hG.kept HB56.out
  generalize w6'.heap.size = BH at *
  clear b0 b1 b2 b3 b4 hr6 hb6 hH0 hg6 hs6 hRG HR35 HR45
  have HPG : Hid (PV w6 X [.int .i64 gk, .string gs, .int .u64 gn, .slice ga gl gc, .slice gb gm gd]) := pv_keep (CellsKept.of_below HB56.out) _ _ HP5.out
  have HPO : Hid (PV w6 va [.int .i64 ok, .string os, .int .u64 on, .slice oa ol oc, .slice ob om od]) := pv_keep (CellsKept.of_below HB26.out) _ _ HP2.out
  have HRP : Hid (RV w6 va [.int .i64 pk, .string ps, .int .u64 pn, .slice pa pl pc, .slice pb pm pd]) := rv_to HB16.out _ _ HRV.out
  have HFX := Lib.hid (tot_small X 1073741823 (by have := HXT.out; omega)).2.1
  have hcv1 : Hid (∀ W, Below w6.heap.size w6 W → (convert 32 9 (.slice fa fn fc)).run Tryd.prog W = .ok (.string (bstr B)) W) := fun W hW => run_bstr bt Tryd.underlying9 (HR36.out.to hW)
  have hcv2 : Hid (∀ W, Below w6.heap.size w6 W → (convert 32 9 (.slice ta tn tc)).run Tryd.prog W = .ok (.string (bstr B)) W) := fun W hW => run_bstr bt Tryd.underlying9 (HR46.out.to hW)
  obtain ⟨M, hM1⟩ : ∃ M, M = mayF va 8 := ⟨_, rfl⟩
  have hmy : Hid (∀ W, Below w6.heap.size w6 W → Calls Tryd.prog 15 #[.agg #[.int .i64 ok, .string os, .int .u64 on, .slice oa ol oc, .slice ob om od]] W fun e w' => e = .returned (.bool M) ∧ Below W.heap.size W w') := fun W hW => by
    rw [hM1]
    exact May_any va _ W (pv_keep (CellsKept.of_below hW) _ _ HPO.out) HSM.out (HT.out.to (HB6.out.trans (hW.mono HB6.out.size)))
  have hrm : Hid (∀ W, Below w6.heap.size w6 W → Calls Tryd.prog 16 #[.agg #[.int .i64 pk, .string ps, .int .u64 pn, .slice pa pl pc, .slice pb pm pd]] W fun e w' => e = .returned (.bool M) ∧ Below W.heap.size W w') := fun W hW => by
    rw [hM1]
    exact rMay_any va _ W (rv_to hW _ _ HRP.out) HSM.out
  have hthx : Hid (∀ W, Below w6.heap.size w6 W → Calls Tryd.prog 18 #[.agg #[.int .i64 gk, .string gs, .int .u64 gn, .slice ga gl gc, .slice gb gm gd]] W fun e w' => ∃ cs', e = .returned (.agg (List.toArray cs')) ∧ RV w' X cs' ∧ Below W.heap.size W w') := fun W hW => (theirs_any X _ w6 W (pv_rv _ _ HPG.out) hW HFX.out).mono fun e w' ⟨cs', h1, h2, h3⟩ => ⟨cs', h1, pv_rv _ _ (sv_pv _ _ h2), h3⟩
  have hthm : Hid (∀ W, Below w6.heap.size w6 W → Calls Tryd.prog 18 #[.agg #[.int .i64 ok, .string os, .int .u64 on, .slice oa ol oc, .slice ob om od]] W fun e w' => ∃ cs', e = .returned (.agg (List.toArray cs')) ∧ RV w' va cs' ∧ Below W.heap.size W w') := fun W hW => (theirs_any va _ w6 W (pv_rv _ _ HPO.out) hW HFA.out).mono fun e w' ⟨cs', h1, h2, h3⟩ => ⟨cs', h1, pv_rv _ _ (sv_pv _ _ h2), h3⟩
  have hrsx : Hid (∀ W cs, RV W X cs → Below w6.heap.size w6 W → Calls Tryd.prog 17 #[.agg (List.toArray cs), .agg #[.int .i64 hk, .string hs, .int .u64 hn, .slice ha hl hc, .slice hb hm hd]] W fun e w' => e = .returned (.bool true) ∧ Below W.heap.size W w') := fun W cs h hW => by
    have := rSame_any X X cs _ W h (rv_to hW _ _ HRH.out)
    rw [(same_eq X X).2 rfl] at this
    exact this
  have hrsm : Hid (∀ W cs, RV W va cs → Below w6.heap.size w6 W → Calls Tryd.prog 17 #[.agg (List.toArray cs), .agg #[.int .i64 pk, .string ps, .int .u64 pn, .slice pa pl pc, .slice pb pm pd]] W fun e w' => e = .returned (.bool true) ∧ Below W.heap.size W w') := fun W cs h hW => by
    have := rSame_any va va cs _ W h (rv_to hW _ _ HRP.out)
    rw [(same_eq va va).2 rfl] at this
    exact this
  have hwk6 : Hid (∀ W, Below w6.heap.size w6 W → Calls Tryd.prog 19 #[] W fun e w' => e = .returned (.bool true) ∧ Below W.heap.size W w') := fun W hW => hwk.out W (HB6.out.trans (hW.mono HB6.out.size))
  clear hM1 hwk HT HTOT HSM HFA HFG HFX HXT HWF HRV HB1 HB12 HB2 HB23 HB24 HB25 HB26 HB16 HB3 HB4 HB5 HB45 HB56 HP2 HP5 HPG HPO HRP HRH HR36 HR46 HZ1
  refine wp_region_steps [[], [0], [], [2], [1, 3], [4], [5], [5], [6, 7, 5], [5, 8], [9, 5], [10], [11, 10], [10], [13, 12, 10], [12, 14, 10], [10, 15], [16, 14], [17], [18, 17], [17], [19, 20, 17], [17, 21], [22, 21], [23], [23], [24, 25, 23], [23, 26], [27, 23], [28], [29, 28], [28], [30, 31, 28], [28, 32], [33, 32], [34], [34, 35], [36, 35]] (by kernel_rfl) (by kernel_rfl) (fun L a wx => ∃ v : Nat → Value, a = ⟨#[.agg #[.int .i64 xk, .string xs, .int .u64 xn, .slice xa xl xc, .slice xb xm xd], .string (bstr key), .pointer (some ⟨w.heap.size, 0, none⟩), undef, v 4, .pointer (some ⟨BM, 0, none⟩), .slice fa fn fc, .int .i64 E, .slice ta tn tc, .int .i64 E, .pointer (some ⟨BG, 0, none⟩), .bool S, .pointer (some ⟨BH, 0, none⟩), .bool S, .agg #[.int .i64 xk, .string xs, .int .u64 xn, .slice xa xl xc, .slice xb xm xd], .agg #[.int .i64 pk, .string ps, .int .u64 pn, .slice pa pl pc, .slice pb pm pd], .agg #[.int .i64 pk, .string ps, .int .u64 pn, .slice pa pl pc, .slice pb pm pd], .agg #[.int .i64 ok, .string os, .int .u64 on, .slice oa ol oc, .slice ob om od], .tuple #[.slice fa fn fc, .int .i64 E], .agg #[.int .i64 ok, .string os, .int .u64 on, .slice oa ol oc, .slice ob om od], .tuple #[.slice fa fn fc, .int .i64 E], .slice fa fn fc, .int .i64 E, .tuple #[.slice ta tn tc, .int .i64 E], .agg #[.int .i64 pk, .string ps, .int .u64 pn, .slice pa pl pc, .slice pb pm pd], .tuple #[.slice ta tn tc, .int .i64 E], .slice ta tn tc, .int .i64 E, .tuple #[.agg #[.int .i64 gk, .string gs, .int .u64 gn, .slice ga gl gc, .slice gb gm gd], .bool S], .agg #[.int .i64 ok, .string os, .int .u64 on, .slice oa ol oc, .slice ob om od], .string (bstr key), .tuple #[.agg #[.int .i64 gk, .string gs, .int .u64 gn, .slice ga gl gc, .slice gb gm gd], .bool S], .agg #[.int .i64 gk, .string gs, .int .u64 gn, .slice ga gl gc, .slice gb gm gd], .bool S, .tuple #[.agg #[.int .i64 hk, .string hs, .int .u64 hn, .slice ha hl hc, .slice hb hm hd], .bool S], .agg #[.int .i64 pk, .string ps, .int .u64 pn, .slice pa pl pc, .slice pb pm pd], .string (bstr key), .tuple #[.agg #[.int .i64 hk, .string hs, .int .u64 hn, .slice ha hl hc, .slice hb hm hd], .bool S], .agg #[.int .i64 hk, .string hs, .int .u64 hn, .slice ha hl hc, .slice hb hm hd], .bool S, v 40, v 41, v 42, v 43, v 44, v 45, v 46, v 47, v 48, v 49, v 50, v 51, v 52, v 53, v 54, v 55, v 56, v 57, v 58, v 59, v 60, v 61, v 62, v 63, v 64, v 65, v 66, v 67, v 68, v 69, v 70, v 71, v 72, v 73, v 74, v 75, v 76], []⟩ ∧ InvTexts w w6 BM BG BH xk xs xn xa xl xc xb xm xd pk ps pn pa pl pc pb pm pd ok os on oa ol oc ob om od gk gs gn ga gl gc gb gm gd hk hs hn ha hl hc hb hm hd key B fa ta fn fc tn tc va X E M S L v wx) ?_ ⟨?_, ?_, ?_, ?_, ?_, ?_, ?_, ?_, ?_, ?_, ?_, ?_, ?_, ?_, ?_, ?_, ?_, ?_, ?_, ?_, ?_, ?_, ?_, ?_, ?_, ?_, ?_, ?_, ?_, ?_, ?_, ?_, ?_, ?_, ?_, ?_, ?_, ?_, trivial⟩ ?_
  · refine ⟨upd (fun _ => undef) 4 (.bool false), rfl, ⟨?_, ?_, ?_, ?_, ?_, ?_, ?_, ?_, ?_, ?_, ?_, ?_, ?_, ?_, ?_, ?_, ?_, ?_, ?_, ?_, ?_, ?_, ?_, ?_, ?_, ?_, ?_, ?_, ?_, ?_, ?_, ?_, ?_, ?_, ?_, ?_, ?_, ?_, hA.drew, hM.drew, hG.drew, hH.drew, (Below.refl _ _).drew⟩⟩ <;> (intro h; exact absurd h (by decide))
  · rintro L a wx ⟨v, rfl, hI⟩ hL hdep hcl K hK
    go_simp
    exact hK _ _ ⟨(upd v 40 (.slice fa fn fc)), rfl, ⟨fun _ => rfl, hI.t1, hI.t2, hI.t3, hI.t4, hI.t5, hI.t6, hI.t7, hI.t8, hI.t9, hI.t10, hI.t11, hI.t12, hI.t13, hI.t14, hI.t15, hI.t16, hI.t17, hI.t18, hI.t19, hI.t20, hI.t21, hI.t22, hI.t23, hI.t24, hI.t25, hI.t26, hI.t27, hI.t28, hI.t29, hI.t30, hI.t31, hI.t32, hI.t33, hI.t34, hI.t35, hI.t36, hI.t37, hI.aA, hI.aM, hI.aG, hI.aH, hI.bl⟩⟩
  · rintro L a wx ⟨v, rfl, hI⟩ hL hdep hcl K hK
    have e0 := hI.t0 (hdep 0 (by decide))
    rw [e0]
    have hcv := hcv1.out wx hI.bl
    go_simp
    exact hK _ _ ⟨(upd (upd v 40 (.slice fa fn fc)) 41 (.string (bstr B))), rfl, ⟨fun _ => rfl, fun _ => rfl, hI.t2, hI.t3, hI.t4, hI.t5, hI.t6, hI.t7, hI.t8, hI.t9, hI.t10, hI.t11, hI.t12, hI.t13, hI.t14, hI.t15, hI.t16, hI.t17, hI.t18, hI.t19, hI.t20, hI.t21, hI.t22, hI.t23, hI.t24, hI.t25, hI.t26, hI.t27, hI.t28, hI.t29, hI.t30, hI.t31, hI.t32, hI.t33, hI.t34, hI.t35, hI.t36, hI.t37, hI.aA, hI.aM, hI.aG, hI.aH, hI.bl⟩⟩
  · rintro L a wx ⟨v, rfl, hI⟩ hL hdep hcl K hK
    go_simp
    exact hK _ _ ⟨(upd v 42 (.slice ta tn tc)), rfl, ⟨hI.t0, hI.t1, fun _ => rfl, hI.t3, hI.t4, hI.t5, hI.t6, hI.t7, hI.t8, hI.t9, hI.t10, hI.t11, hI.t12, hI.t13, hI.t14, hI.t15, hI.t16, hI.t17, hI.t18, hI.t19, hI.t20, hI.t21, hI.t22, hI.t23, hI.t24, hI.t25, hI.t26, hI.t27, hI.t28, hI.t29, hI.t30, hI.t31, hI.t32, hI.t33, hI.t34, hI.t35, hI.t36, hI.t37, hI.aA, hI.aM, hI.aG, hI.aH, hI.bl⟩⟩
  · rintro L a wx ⟨v, rfl, hI⟩ hL hdep hcl K hK
    have e2 := hI.t2 (hdep 2 (by decide))
    rw [e2]
    have hcv := hcv2.out wx hI.bl
    go_simp
    exact hK _ _ ⟨(upd (upd v 42 (.slice ta tn tc)) 43 (.string (bstr B))), rfl, ⟨hI.t0, hI.t1, fun _ => rfl, fun _ => rfl, hI.t4, hI.t5, hI.t6, hI.t7, hI.t8, hI.t9, hI.t10, hI.t11, hI.t12, hI.t13, hI.t14, hI.t15, hI.t16, hI.t17, hI.t18, hI.t19, hI.t20, hI.t21, hI.t22, hI.t23, hI.t24, hI.t25, hI.t26, hI.t27, hI.t28, hI.t29, hI.t30, hI.t31, hI.t32, hI.t33, hI.t34, hI.t35, hI.t36, hI.t37, hI.aA, hI.aM, hI.aG, hI.aH, hI.bl⟩⟩
  · rintro L a wx ⟨v, rfl, hI⟩ hL hdep hcl K hK
    have e1 := hI.t1 (hdep 1 (by decide))
    have e3 := hI.t3 (hdep 3 (by decide))
    rw [e1, e3]
    go_simp
    exact hK _ _ ⟨(upd (upd (upd v 41 (.string (bstr B))) 43 (.string (bstr B))) 44 (.bool true)), rfl, ⟨hI.t0, fun _ => rfl, hI.t2, fun _ => rfl, fun _ => rfl, hI.t5, hI.t6, hI.t7, hI.t8, hI.t9, hI.t10, hI.t11, hI.t12, hI.t13, hI.t14, hI.t15, hI.t16, hI.t17, hI.t18, hI.t19, hI.t20, hI.t21, hI.t22, hI.t23, hI.t24, hI.t25, hI.t26, hI.t27, hI.t28, hI.t29, hI.t30, hI.t31, hI.t32, hI.t33, hI.t34, hI.t35, hI.t36, hI.t37, hI.aA, hI.aM, hI.aG, hI.aH, hI.bl⟩⟩
  · rintro L a wx ⟨v, rfl, hI⟩ hL hdep hcl K hK
    have e4 := hI.t4 (hdep 4 (by decide))
    rw [e4]
    go_simp
    exact hK _ _ ⟨(upd (upd v 44 (.bool true)) 45 (.bool true)), rfl, ⟨hI.t0, hI.t1, hI.t2, hI.t3, fun _ => rfl, fun _ => rfl, hI.t6, hI.t7, hI.t8, hI.t9, hI.t10, hI.t11, hI.t12, hI.t13, hI.t14, hI.t15, hI.t16, hI.t17, hI.t18, hI.t19, hI.t20, hI.t21, hI.t22, hI.t23, hI.t24, hI.t25, hI.t26, hI.t27, hI.t28, hI.t29, hI.t30, hI.t31, hI.t32, hI.t33, hI.t34, hI.t35, hI.t36, hI.t37, hI.aA, hI.aM, hI.aG, hI.aH, hI.bl⟩⟩
  · rintro L a wx ⟨v, rfl, hI⟩ hL hdep hcl K hK
    have e5 := hI.t5 (hdep 5 (by decide))
    rw [e5]
    refine (if_pos rfl).mpr ?_
    go_simp
    exact hK _ _ ⟨(upd (upd v 45 (.bool true)) 46 (.int .i64 E)), rfl, ⟨hI.t0, hI.t1, hI.t2, hI.t3, hI.t4, fun _ => rfl, fun _ => rfl, hI.t7, hI.t8, hI.t9, hI.t10, hI.t11, hI.t12, hI.t13, hI.t14, hI.t15, hI.t16, hI.t17, hI.t18, hI.t19, hI.t20, hI.t21, hI.t22, hI.t23, hI.t24, hI.t25, hI.t26, hI.t27, hI.t28, hI.t29, hI.t30, hI.t31, hI.t32, hI.t33, hI.t34, hI.t35, hI.t36, hI.t37, hI.aA, hI.aM, hI.aG, hI.aH, hI.bl⟩⟩
  · rintro L a wx ⟨v, rfl, hI⟩ hL hdep hcl K hK
    have e5 := hI.t5 (hdep 5 (by decide))
    rw [e5]
    refine (if_pos rfl).mpr ?_
    go_simp
    exact hK _ _ ⟨(upd (upd v 45 (.bool true)) 47 (.int .i64 E)), rfl, ⟨hI.t0, hI.t1, hI.t2, hI.t3, hI.t4, fun _ => rfl, hI.t6, fun _ => rfl, hI.t8, hI.t9, hI.t10, hI.t11, hI.t12, hI.t13, hI.t14, hI.t15, hI.t16, hI.t17, hI.t18, hI.t19, hI.t20, hI.t21, hI.t22, hI.t23, hI.t24, hI.t25, hI.t26, hI.t27, hI.t28, hI.t29, hI.t30, hI.t31, hI.t32, hI.t33, hI.t34, hI.t35, hI.t36, hI.t37, hI.aA, hI.aM, hI.aG, hI.aH, hI.bl⟩⟩
  · rintro L a wx ⟨v, rfl, hI⟩ hL hdep hcl K hK
    have e6 := hI.t6 (hdep 6 (by decide))
    have e7 := hI.t7 (hdep 7 (by decide))
    have e5 := hI.t5 (hdep 5 (by decide))
    rw [e6, e7, e5]
    refine (if_pos rfl).mpr ?_
    go_simp
    exact hK _ _ ⟨(upd (upd (upd (upd v 46 (.int .i64 E)) 47 (.int .i64 E)) 45 (.bool true)) 48 (.bool true)), rfl, ⟨hI.t0, hI.t1, hI.t2, hI.t3, hI.t4, fun _ => rfl, fun _ => rfl, fun _ => rfl, fun _ => rfl, hI.t9, hI.t10, hI.t11, hI.t12, hI.t13, hI.t14, hI.t15, hI.t16, hI.t17, hI.t18, hI.t19, hI.t20, hI.t21, hI.t22, hI.t23, hI.t24, hI.t25, hI.t26, hI.t27, hI.t28, hI.t29, hI.t30, hI.t31, hI.t32, hI.t33, hI.t34, hI.t35, hI.t36, hI.t37, hI.aA, hI.aM, hI.aG, hI.aH, hI.bl⟩⟩
  · rintro L a wx ⟨v, rfl, hI⟩ hL hdep hcl K hK
    have e5 := hI.t5 (hdep 5 (by decide))
    have e8 := hI.t8 (hdep 8 (by decide))
    rw [e5, e8]
    go_simp
    exact hK _ _ ⟨(upd (upd (upd v 45 (.bool true)) 48 (.bool true)) 49 (.bool true)), rfl, ⟨hI.t0, hI.t1, hI.t2, hI.t3, hI.t4, fun _ => rfl, hI.t6, hI.t7, fun _ => rfl, fun _ => rfl, hI.t10, hI.t11, hI.t12, hI.t13, hI.t14, hI.t15, hI.t16, hI.t17, hI.t18, hI.t19, hI.t20, hI.t21, hI.t22, hI.t23, hI.t24, hI.t25, hI.t26, hI.t27, hI.t28, hI.t29, hI.t30, hI.t31, hI.t32, hI.t33, hI.t34, hI.t35, hI.t36, hI.t37, hI.aA, hI.aM, hI.aG, hI.aH, hI.bl⟩⟩
  · rintro L a wx ⟨v, rfl, hI⟩ hL hdep hcl K hK
    have e9 := hI.t9 (hdep 9 (by decide))
    have e5 := hI.t5 (hdep 5 (by decide))
    rw [e9, e5]
    go_simp
    exact hK _ _ ⟨(upd (upd (upd v 49 (.bool true)) 45 (.bool true)) 50 (.bool true)), rfl, ⟨hI.t0, hI.t1, hI.t2, hI.t3, hI.t4, fun _ => rfl, hI.t6, hI.t7, hI.t8, fun _ => rfl, fun _ => rfl, hI.t11, hI.t12, hI.t13, hI.t14, hI.t15, hI.t16, hI.t17, hI.t18, hI.t19, hI.t20, hI.t21, hI.t22, hI.t23, hI.t24, hI.t25, hI.t26, hI.t27, hI.t28, hI.t29, hI.t30, hI.t31, hI.t32, hI.t33, hI.t34, hI.t35, hI.t36, hI.t37, hI.aA, hI.aM, hI.aG, hI.aH, hI.bl⟩⟩
  · rintro L a wx ⟨v, rfl, hI⟩ hL hdep hcl K hK
    have e10 := hI.t10 (hdep 10 (by decide))
    rw [e10]
    refine (if_pos rfl).mpr ?_
    refine wp_load_mid 30 _ rfl BM 0 rfl _ _ (hI.aM.range 0 _ (fun j v h => by rw [Nat.zero_add]; exact h)) Tryd.underlying30 rfl (by kernel_rfl) ?_
    exact hK _ _ ⟨(upd (upd v 50 (.bool true)) 51 (.agg #[.int .i64 ok, .string os, .int .u64 on, .slice oa ol oc, .slice ob om od])), rfl, ⟨hI.t0, hI.t1, hI.t2, hI.t3, hI.t4, hI.t5, hI.t6, hI.t7, hI.t8, hI.t9, fun _ => rfl, fun _ => rfl, hI.t12, hI.t13, hI.t14, hI.t15, hI.t16, hI.t17, hI.t18, hI.t19, hI.t20, hI.t21, hI.t22, hI.t23, hI.t24, hI.t25, hI.t26, hI.t27, hI.t28, hI.t29, hI.t30, hI.t31, hI.t32, hI.t33, hI.t34, hI.t35, hI.t36, hI.t37, hI.aA, hI.aM, hI.aG, hI.aH, hI.bl⟩⟩
  · rintro L a wx ⟨v, rfl, hI⟩ hL hdep hcl K hK
    have e11 := hI.t11 (hdep 11 (by decide))
    have e10 := hI.t10 (hdep 10 (by decide))
    rw [e11, e10]
    refine (if_pos rfl).mpr ?_
    go_simp
    refine (hmy.out _ hI.bl).mono ?_
    rintro e w' ⟨rfl, hbw⟩
    exact hK _ _ ⟨(upd (upd (upd v 51 (.agg #[.int .i64 ok, .string os, .int .u64 on, .slice oa ol oc, .slice ob om od])) 50 (.bool true)) 52 (.bool M)), rfl, ⟨hI.t0, hI.t1, hI.t2, hI.t3, hI.t4, hI.t5, hI.t6, hI.t7, hI.t8, hI.t9, fun _ => rfl, fun _ => rfl, fun _ => rfl, hI.t13, hI.t14, hI.t15, hI.t16, hI.t17, hI.t18, fun h => (by obtain ⟨cs, e1, e2⟩ := hI.t19 h; exact ⟨cs, e1, rv_to hbw _ _ e2⟩), hI.t20, hI.t21, hI.t22, hI.t23, hI.t24, hI.t25, hI.t26, hI.t27, hI.t28, hI.t29, fun h => (by obtain ⟨cs, e1, e2⟩ := hI.t30 h; exact ⟨cs, e1, rv_to hbw _ _ e2⟩), hI.t31, hI.t32, hI.t33, hI.t34, hI.t35, hI.t36, hI.t37, hI.aA.kept hbw, hI.aM.kept hbw, hI.aG.kept hbw, hI.aH.kept hbw, (hI.bl).trans (hbw.mono (hI.bl).size)⟩⟩
  · rintro L a wx ⟨v, rfl, hI⟩ hL hdep hcl K hK
    have e10 := hI.t10 (hdep 10 (by decide))
    rw [e10]
    refine (if_pos rfl).mpr ?_
    refine wp_load_mid 26 _ rfl w.heap.size 0 rfl _ _ (hI.aA.range 0 _ (fun j v h => by rw [Nat.zero_add]; exact h)) Tryd.underlying26 rfl (by kernel_rfl) ?_
    exact hK _ _ ⟨(upd (upd v 50 (.bool true)) 53 (.agg #[.int .i64 pk, .string ps, .int .u64 pn, .slice pa pl pc, .slice pb pm pd])), rfl, ⟨hI.t0, hI.t1, hI.t2, hI.t3, hI.t4, hI.t5, hI.t6, hI.t7, hI.t8, hI.t9, fun _ => rfl, hI.t11, hI.t12, fun _ => rfl, hI.t14, hI.t15, hI.t16, hI.t17, hI.t18, hI.t19, hI.t20, hI.t21, hI.t22, hI.t23, hI.t24, hI.t25, hI.t26, hI.t27, hI.t28, hI.t29, hI.t30, hI.t31, hI.t32, hI.t33, hI.t34, hI.t35, hI.t36, hI.t37, hI.aA, hI.aM, hI.aG, hI.aH, hI.bl⟩⟩
  · rintro L a wx ⟨v, rfl, hI⟩ hL hdep hcl K hK
    have e13 := hI.t13 (hdep 13 (by decide))
    have e12 := hI.t12 (hdep 12 (by decide))
    have e10 := hI.t10 (hdep 10 (by decide))
    rw [e13, e12, e10]
    refine (if_pos rfl).mpr ?_
    go_simp
    refine (hrm.out _ hI.bl).mono ?_
    rintro e w' ⟨rfl, hbw⟩
    exact hK _ _ ⟨(upd (upd (upd (upd v 53 (.agg #[.int .i64 pk, .string ps, .int .u64 pn, .slice pa pl pc, .slice pb pm pd])) 52 (.bool M)) 50 (.bool true)) 54 (.bool M)), rfl, ⟨hI.t0, hI.t1, hI.t2, hI.t3, hI.t4, hI.t5, hI.t6, hI.t7, hI.t8, hI.t9, fun _ => rfl, hI.t11, fun _ => rfl, fun _ => rfl, fun _ => rfl, hI.t15, hI.t16, hI.t17, hI.t18, fun h => (by obtain ⟨cs, e1, e2⟩ := hI.t19 h; exact ⟨cs, e1, rv_to hbw _ _ e2⟩), hI.t20, hI.t21, hI.t22, hI.t23, hI.t24, hI.t25, hI.t26, hI.t27, hI.t28, hI.t29, fun h => (by obtain ⟨cs, e1, e2⟩ := hI.t30 h; exact ⟨cs, e1, rv_to hbw _ _ e2⟩), hI.t31, hI.t32, hI.t33, hI.t34, hI.t35, hI.t36, hI.t37, hI.aA.kept hbw, hI.aM.kept hbw, hI.aG.kept hbw, hI.aH.kept hbw, (hI.bl).trans (hbw.mono (hI.bl).size)⟩⟩
  · rintro L a wx ⟨v, rfl, hI⟩ hL hdep hcl K hK
    have e12 := hI.t12 (hdep 12 (by decide))
    have e14 := hI.t14 (hdep 14 (by decide))
    have e10 := hI.t10 (hdep 10 (by decide))
    rw [e12, e14, e10]
    refine (if_pos rfl).mpr ?_
    go_simp
    exact hK _ _ ⟨(upd (upd (upd (upd v 52 (.bool M)) 54 (.bool M)) 50 (.bool true)) 55 (.bool true)), rfl, ⟨hI.t0, hI.t1, hI.t2, hI.t3, hI.t4, hI.t5, hI.t6, hI.t7, hI.t8, hI.t9, fun _ => rfl, hI.t11, fun _ => rfl, hI.t13, fun _ => rfl, fun _ => rfl, hI.t16, hI.t17, hI.t18, hI.t19, hI.t20, hI.t21, hI.t22, hI.t23, hI.t24, hI.t25, hI.t26, hI.t27, hI.t28, hI.t29, hI.t30, hI.t31, hI.t32, hI.t33, hI.t34, hI.t35, hI.t36, hI.t37, hI.aA, hI.aM, hI.aG, hI.aH, hI.bl⟩⟩
  · rintro L a wx ⟨v, rfl, hI⟩ hL hdep hcl K hK
    have e10 := hI.t10 (hdep 10 (by decide))
    have e15 := hI.t15 (hdep 15 (by decide))
    rw [e10, e15]
    go_simp
    exact hK _ _ ⟨(upd (upd (upd v 50 (.bool true)) 55 (.bool true)) 56 (.bool true)), rfl, ⟨hI.t0, hI.t1, hI.t2, hI.t3, hI.t4, hI.t5, hI.t6, hI.t7, hI.t8, hI.t9, fun _ => rfl, hI.t11, hI.t12, hI.t13, hI.t14, fun _ => rfl, fun _ => rfl, hI.t17, hI.t18, hI.t19, hI.t20, hI.t21, hI.t22, hI.t23, hI.t24, hI.t25, hI.t26, hI.t27, hI.t28, hI.t29, hI.t30, hI.t31, hI.t32, hI.t33, hI.t34, hI.t35, hI.t36, hI.t37, hI.aA, hI.aM, hI.aG, hI.aH, hI.bl⟩⟩
  · rintro L a wx ⟨v, rfl, hI⟩ hL hdep hcl K hK
    have e16 := hI.t16 (hdep 16 (by decide))
    have e14 := hI.t14 (hdep 14 (by decide))
    rw [e16, e14]
    go_simp
    exact hK _ _ ⟨(upd (upd (upd v 56 (.bool true)) 54 (.bool M)) 57 (.bool true)), rfl, ⟨hI.t0, hI.t1, hI.t2, hI.t3, hI.t4, hI.t5, hI.t6, hI.t7, hI.t8, hI.t9, hI.t10, hI.t11, hI.t12, hI.t13, fun _ => rfl, hI.t15, fun _ => rfl, fun _ => rfl, hI.t18, hI.t19, hI.t20, hI.t21, hI.t22, hI.t23, hI.t24, hI.t25, hI.t26, hI.t27, hI.t28, hI.t29, hI.t30, hI.t31, hI.t32, hI.t33, hI.t34, hI.t35, hI.t36, hI.t37, hI.aA, hI.aM, hI.aG, hI.aH, hI.bl⟩⟩
  · rintro L a wx ⟨v, rfl, hI⟩ hL hdep hcl K hK
    have e17 := hI.t17 (hdep 17 (by decide))
    rw [e17]
    refine (if_pos rfl).mpr ?_
    refine wp_load_mid 30 _ rfl BG 0 rfl _ _ (hI.aG.range 0 _ (fun j v h => by rw [Nat.zero_add]; exact h)) Tryd.underlying30 rfl (by kernel_rfl) ?_
    exact hK _ _ ⟨(upd (upd v 57 (.bool true)) 58 (.agg #[.int .i64 gk, .string gs, .int .u64 gn, .slice ga gl gc, .slice gb gm gd])), rfl, ⟨hI.t0, hI.t1, hI.t2, hI.t3, hI.t4, hI.t5, hI.t6, hI.t7, hI.t8, hI.t9, hI.t10, hI.t11, hI.t12, hI.t13, hI.t14, hI.t15, hI.t16, fun _ => rfl, fun _ => rfl, hI.t19, hI.t20, hI.t21, hI.t22, hI.t23, hI.t24, hI.t25, hI.t26, hI.t27, hI.t28, hI.t29, hI.t30, hI.t31, hI.t32, hI.t33, hI.t34, hI.t35, hI.t36, hI.t37, hI.aA, hI.aM, hI.aG, hI.aH, hI.bl⟩⟩
  · rintro L a wx ⟨v, rfl, hI⟩ hL hdep hcl K hK
    have e18 := hI.t18 (hdep 18 (by decide))
    have e17 := hI.t17 (hdep 17 (by decide))
    rw [e18, e17]
    refine (if_pos rfl).mpr ?_
    go_simp
    refine (hthx.out _ hI.bl).mono ?_
    rintro e w' ⟨cs', rfl, hp, hbw⟩
    exact hK _ _ ⟨(upd (upd (upd v 58 (.agg #[.int .i64 gk, .string gs, .int .u64 gn, .slice ga gl gc, .slice gb gm gd])) 57 (.bool true)) 59 (_)), rfl, ⟨hI.t0, hI.t1, hI.t2, hI.t3, hI.t4, hI.t5, hI.t6, hI.t7, hI.t8, hI.t9, hI.t10, hI.t11, hI.t12, hI.t13, hI.t14, hI.t15, hI.t16, fun _ => rfl, fun _ => rfl, fun _ => ⟨cs', rfl, hp⟩, hI.t20, hI.t21, hI.t22, hI.t23, hI.t24, hI.t25, hI.t26, hI.t27, hI.t28, hI.t29, fun h => (by obtain ⟨cs, e1, e2⟩ := hI.t30 h; exact ⟨cs, e1, rv_to hbw _ _ e2⟩), hI.t31, hI.t32, hI.t33, hI.t34, hI.t35, hI.t36, hI.t37, hI.aA.kept hbw, hI.aM.kept hbw, hI.aG.kept hbw, hI.aH.kept hbw, (hI.bl).trans (hbw.mono (hI.bl).size)⟩⟩
  · rintro L a wx ⟨v, rfl, hI⟩ hL hdep hcl K hK
    have e17 := hI.t17 (hdep 17 (by decide))
    rw [e17]
    refine (if_pos rfl).mpr ?_
    refine wp_load_mid 26 _ rfl BH 0 rfl _ _ (hI.aH.range 0 _ (fun j v h => by rw [Nat.zero_add]; exact h)) Tryd.underlying26 rfl (by kernel_rfl) ?_
    exact hK _ _ ⟨(upd (upd v 57 (.bool true)) 60 (.agg #[.int .i64 hk, .string hs, .int .u64 hn, .slice ha hl hc, .slice hb hm hd])), rfl, ⟨hI.t0, hI.t1, hI.t2, hI.t3, hI.t4, hI.t5, hI.t6, hI.t7, hI.t8, hI.t9, hI.t10, hI.t11, hI.t12, hI.t13, hI.t14, hI.t15, hI.t16, fun _ => rfl, hI.t18, hI.t19, fun _ => rfl, hI.t21, hI.t22, hI.t23, hI.t24, hI.t25, hI.t26, hI.t27, hI.t28, hI.t29, hI.t30, hI.t31, hI.t32, hI.t33, hI.t34, hI.t35, hI.t36, hI.t37, hI.aA, hI.aM, hI.aG, hI.aH, hI.bl⟩⟩
  · rintro L a wx ⟨v, rfl, hI⟩ hL hdep hcl K hK
    have e20 := hI.t20 (hdep 20 (by decide))
    have e17 := hI.t17 (hdep 17 (by decide))
    rw [e20, e17]
    refine (if_pos rfl).mpr ?_
    have hcl1 : Calls Tryd.prog 17 #[v 59, .agg #[.int .i64 hk, .string hs, .int .u64 hn, .slice ha hl hc, .slice hb hm hd]] wx fun e w' => e = .returned (.bool true) ∧ Below wx.heap.size wx w' := by obtain ⟨cs1, e1, hp1⟩ := hI.t19 (hdep 19 (by decide)); rw [e1]; exact hrsx.out _ _ hp1 hI.bl
    go_simp
    refine hcl1.mono ?_
    rintro e w' ⟨rfl, hbw⟩
    exact hK _ _ ⟨(upd (upd (upd v 60 (.agg #[.int .i64 hk, .string hs, .int .u64 hn, .slice ha hl hc, .slice hb hm hd])) 57 (.bool true)) 61 (.bool true)), rfl, ⟨hI.t0, hI.t1, hI.t2, hI.t3, hI.t4, hI.t5, hI.t6, hI.t7, hI.t8, hI.t9, hI.t10, hI.t11, hI.t12, hI.t13, hI.t14, hI.t15, hI.t16, fun _ => rfl, hI.t18, fun h => (by obtain ⟨cs, e1, e2⟩ := hI.t19 h; exact ⟨cs, e1, rv_to hbw _ _ e2⟩), fun _ => rfl, fun _ => rfl, hI.t22, hI.t23, hI.t24, hI.t25, hI.t26, hI.t27, hI.t28, hI.t29, fun h => (by obtain ⟨cs, e1, e2⟩ := hI.t30 h; exact ⟨cs, e1, rv_to hbw _ _ e2⟩), hI.t31, hI.t32, hI.t33, hI.t34, hI.t35, hI.t36, hI.t37, hI.aA.kept hbw, hI.aM.kept hbw, hI.aG.kept hbw, hI.aH.kept hbw, (hI.bl).trans (hbw.mono (hI.bl).size)⟩⟩
  · rintro L a wx ⟨v, rfl, hI⟩ hL hdep hcl K hK
    have e17 := hI.t17 (hdep 17 (by decide))
    have e21 := hI.t21 (hdep 21 (by decide))
    rw [e17, e21]
    go_simp
    exact hK _ _ ⟨(upd (upd (upd v 57 (.bool true)) 61 (.bool true)) 62 (.bool true)), rfl, ⟨hI.t0, hI.t1, hI.t2, hI.t3, hI.t4, hI.t5, hI.t6, hI.t7, hI.t8, hI.t9, hI.t10, hI.t11, hI.t12, hI.t13, hI.t14, hI.t15, hI.t16, fun _ => rfl, hI.t18, hI.t19, hI.t20, fun _ => rfl, fun _ => rfl, hI.t23, hI.t24, hI.t25, hI.t26, hI.t27, hI.t28, hI.t29, hI.t30, hI.t31, hI.t32, hI.t33, hI.t34, hI.t35, hI.t36, hI.t37, hI.aA, hI.aM, hI.aG, hI.aH, hI.bl⟩⟩
  · rintro L a wx ⟨v, rfl, hI⟩ hL hdep hcl K hK
    have e22 := hI.t22 (hdep 22 (by decide))
    have e21 := hI.t21 (hdep 21 (by decide))
    rw [e22, e21]
    go_simp
    exact hK _ _ ⟨(upd (upd (upd v 62 (.bool true)) 61 (.bool true)) 63 (.bool true)), rfl, ⟨hI.t0, hI.t1, hI.t2, hI.t3, hI.t4, hI.t5, hI.t6, hI.t7, hI.t8, hI.t9, hI.t10, hI.t11, hI.t12, hI.t13, hI.t14, hI.t15, hI.t16, hI.t17, hI.t18, hI.t19, hI.t20, fun _ => rfl, fun _ => rfl, fun _ => rfl, hI.t24, hI.t25, hI.t26, hI.t27, hI.t28, hI.t29, hI.t30, hI.t31, hI.t32, hI.t33, hI.t34, hI.t35, hI.t36, hI.t37, hI.aA, hI.aM, hI.aG, hI.aH, hI.bl⟩⟩
  · rintro L a wx ⟨v, rfl, hI⟩ hL hdep hcl K hK
    have e23 := hI.t23 (hdep 23 (by decide))
    rw [e23]
    refine (if_pos rfl).mpr ?_
    go_simp
    exact hK _ _ ⟨(upd (upd v 63 (.bool true)) 64 (.bool S)), rfl, ⟨hI.t0, hI.t1, hI.t2, hI.t3, hI.t4, hI.t5, hI.t6, hI.t7, hI.t8, hI.t9, hI.t10, hI.t11, hI.t12, hI.t13, hI.t14, hI.t15, hI.t16, hI.t17, hI.t18, hI.t19, hI.t20, hI.t21, hI.t22, fun _ => rfl, fun _ => rfl, hI.t25, hI.t26, hI.t27, hI.t28, hI.t29, hI.t30, hI.t31, hI.t32, hI.t33, hI.t34, hI.t35, hI.t36, hI.t37, hI.aA, hI.aM, hI.aG, hI.aH, hI.bl⟩⟩
  · rintro L a wx ⟨v, rfl, hI⟩ hL hdep hcl K hK
    have e23 := hI.t23 (hdep 23 (by decide))
    rw [e23]
    refine (if_pos rfl).mpr ?_
    go_simp
    exact hK _ _ ⟨(upd (upd v 63 (.bool true)) 65 (.bool S)), rfl, ⟨hI.t0, hI.t1, hI.t2, hI.t3, hI.t4, hI.t5, hI.t6, hI.t7, hI.t8, hI.t9, hI.t10, hI.t11, hI.t12, hI.t13, hI.t14, hI.t15, hI.t16, hI.t17, hI.t18, hI.t19, hI.t20, hI.t21, hI.t22, fun _ => rfl, hI.t24, fun _ => rfl, hI.t26, hI.t27, hI.t28, hI.t29, hI.t30, hI.t31, hI.t32, hI.t33, hI.t34, hI.t35, hI.t36, hI.t37, hI.aA, hI.aM, hI.aG, hI.aH, hI.bl⟩⟩
  · rintro L a wx ⟨v, rfl, hI⟩ hL hdep hcl K hK
    have e24 := hI.t24 (hdep 24 (by decide))
    have e25 := hI.t25 (hdep 25 (by decide))
    have e23 := hI.t23 (hdep 23 (by decide))
    rw [e24, e25, e23]
    refine (if_pos rfl).mpr ?_
    go_simp
    exact hK _ _ ⟨(upd (upd (upd (upd v 64 (.bool S)) 65 (.bool S)) 63 (.bool true)) 66 (.bool true)), rfl, ⟨hI.t0, hI.t1, hI.t2, hI.t3, hI.t4, hI.t5, hI.t6, hI.t7, hI.t8, hI.t9, hI.t10, hI.t11, hI.t12, hI.t13, hI.t14, hI.t15, hI.t16, hI.t17, hI.t18, hI.t19, hI.t20, hI.t21, hI.t22, fun _ => rfl, fun _ => rfl, fun _ => rfl, fun _ => rfl, hI.t27, hI.t28, hI.t29, hI.t30, hI.t31, hI.t32, hI.t33, hI.t34, hI.t35, hI.t36, hI.t37, hI.aA, hI.aM, hI.aG, hI.aH, hI.bl⟩⟩
  · rintro L a wx ⟨v, rfl, hI⟩ hL hdep hcl K hK
    have e23 := hI.t23 (hdep 23 (by decide))
    have e26 := hI.t26 (hdep 26 (by decide))
    rw [e23, e26]
    go_simp
    exact hK _ _ ⟨(upd (upd (upd v 63 (.bool true)) 66 (.bool true)) 67 (.bool true)), rfl, ⟨hI.t0, hI.t1, hI.t2, hI.t3, hI.t4, hI.t5, hI.t6, hI.t7, hI.t8, hI.t9, hI.t10, hI.t11, hI.t12, hI.t13, hI.t14, hI.t15, hI.t16, hI.t17, hI.t18, hI.t19, hI.t20, hI.t21, hI.t22, fun _ => rfl, hI.t24, hI.t25, fun _ => rfl, fun _ => rfl, hI.t28, hI.t29, hI.t30, hI.t31, hI.t32, hI.t33, hI.t34, hI.t35, hI.t36, hI.t37, hI.aA, hI.aM, hI.aG, hI.aH, hI.bl⟩⟩
  · rintro L a wx ⟨v, rfl, hI⟩ hL hdep hcl K hK
    have e27 := hI.t27 (hdep 27 (by decide))
    have e23 := hI.t23 (hdep 23 (by decide))
    rw [e27, e23]
    go_simp
    exact hK _ _ ⟨(upd (upd (upd v 67 (.bool true)) 63 (.bool true)) 68 (.bool true)), rfl, ⟨hI.t0, hI.t1, hI.t2, hI.t3, hI.t4, hI.t5, hI.t6, hI.t7, hI.t8, hI.t9, hI.t10, hI.t11, hI.t12, hI.t13, hI.t14, hI.t15, hI.t16, hI.t17, hI.t18, hI.t19, hI.t20, hI.t21, hI.t22, fun _ => rfl, hI.t24, hI.t25, hI.t26, fun _ => rfl, fun _ => rfl, hI.t29, hI.t30, hI.t31, hI.t32, hI.t33, hI.t34, hI.t35, hI.t36, hI.t37, hI.aA, hI.aM, hI.aG, hI.aH, hI.bl⟩⟩
  · rintro L a wx ⟨v, rfl, hI⟩ hL hdep hcl K hK
    have e28 := hI.t28 (hdep 28 (by decide))
    rw [e28]
    refine (if_pos rfl).mpr ?_
    refine wp_load_mid 30 _ rfl BM 0 rfl _ _ (hI.aM.range 0 _ (fun j v h => by rw [Nat.zero_add]; exact h)) Tryd.underlying30 rfl (by kernel_rfl) ?_
    exact hK _ _ ⟨(upd (upd v 68 (.bool true)) 69 (.agg #[.int .i64 ok, .string os, .int .u64 on, .slice oa ol oc, .slice ob om od])), rfl, ⟨hI.t0, hI.t1, hI.t2, hI.t3, hI.t4, hI.t5, hI.t6, hI.t7, hI.t8, hI.t9, hI.t10, hI.t11, hI.t12, hI.t13, hI.t14, hI.t15, hI.t16, hI.t17, hI.t18, hI.t19, hI.t20, hI.t21, hI.t22, hI.t23, hI.t24, hI.t25, hI.t26, hI.t27, fun _ => rfl, fun _ => rfl, hI.t30, hI.t31, hI.t32, hI.t33, hI.t34, hI.t35, hI.t36, hI.t37, hI.aA, hI.aM, hI.aG, hI.aH, hI.bl⟩⟩
  · rintro L a wx ⟨v, rfl, hI⟩ hL hdep hcl K hK
    have e29 := hI.t29 (hdep 29 (by decide))
    have e28 := hI.t28 (hdep 28 (by decide))
    rw [e29, e28]
    refine (if_pos rfl).mpr ?_
    go_simp
    refine (hthm.out _ hI.bl).mono ?_
    rintro e w' ⟨cs', rfl, hp, hbw⟩
    exact hK _ _ ⟨(upd (upd (upd v 69 (.agg #[.int .i64 ok, .string os, .int .u64 on, .slice oa ol oc, .slice ob om od])) 68 (.bool true)) 70 (_)), rfl, ⟨hI.t0, hI.t1, hI.t2, hI.t3, hI.t4, hI.t5, hI.t6, hI.t7, hI.t8, hI.t9, hI.t10, hI.t11, hI.t12, hI.t13, hI.t14, hI.t15, hI.t16, hI.t17, hI.t18, fun h => (by obtain ⟨cs, e1, e2⟩ := hI.t19 h; exact ⟨cs, e1, rv_to hbw _ _ e2⟩), hI.t20, hI.t21, hI.t22, hI.t23, hI.t24, hI.t25, hI.t26, hI.t27, fun _ => rfl, fun _ => rfl, fun _ => ⟨cs', rfl, hp⟩, hI.t31, hI.t32, hI.t33, hI.t34, hI.t35, hI.t36, hI.t37, hI.aA.kept hbw, hI.aM.kept hbw, hI.aG.kept hbw, hI.aH.kept hbw, (hI.bl).trans (hbw.mono (hI.bl).size)⟩⟩
  · rintro L a wx ⟨v, rfl, hI⟩ hL hdep hcl K hK
    have e28 := hI.t28 (hdep 28 (by decide))
    rw [e28]
    refine (if_pos rfl).mpr ?_
    refine wp_load_mid 26 _ rfl w.heap.size 0 rfl _ _ (hI.aA.range 0 _ (fun j v h => by rw [Nat.zero_add]; exact h)) Tryd.underlying26 rfl (by kernel_rfl) ?_
    exact hK _ _ ⟨(upd (upd v 68 (.bool true)) 71 (.agg #[.int .i64 pk, .string ps, .int .u64 pn, .slice pa pl pc, .slice pb pm pd])), rfl, ⟨hI.t0, hI.t1, hI.t2, hI.t3, hI.t4, hI.t5, hI.t6, hI.t7, hI.t8, hI.t9, hI.t10, hI.t11, hI.t12, hI.t13, hI.t14, hI.t15, hI.t16, hI.t17, hI.t18, hI.t19, hI.t20, hI.t21, hI.t22, hI.t23, hI.t24, hI.t25, hI.t26, hI.t27, fun _ => rfl, hI.t29, hI.t30, fun _ => rfl, hI.t32, hI.t33, hI.t34, hI.t35, hI.t36, hI.t37, hI.aA, hI.aM, hI.aG, hI.aH, hI.bl⟩⟩
  · rintro L a wx ⟨v, rfl, hI⟩ hL hdep hcl K hK
    have e31 := hI.t31 (hdep 31 (by decide))
    have e28 := hI.t28 (hdep 28 (by decide))
    rw [e31, e28]
    refine (if_pos rfl).mpr ?_
    have hcl1 : Calls Tryd.prog 17 #[v 70, .agg #[.int .i64 pk, .string ps, .int .u64 pn, .slice pa pl pc, .slice pb pm pd]] wx fun e w' => e = .returned (.bool true) ∧ Below wx.heap.size wx w' := by obtain ⟨cs1, e1, hp1⟩ := hI.t30 (hdep 30 (by decide)); rw [e1]; exact hrsm.out _ _ hp1 hI.bl
    go_simp
    refine hcl1.mono ?_
    rintro e w' ⟨rfl, hbw⟩
    exact hK _ _ ⟨(upd (upd (upd v 71 (.agg #[.int .i64 pk, .string ps, .int .u64 pn, .slice pa pl pc, .slice pb pm pd])) 68 (.bool true)) 72 (.bool true)), rfl, ⟨hI.t0, hI.t1, hI.t2, hI.t3, hI.t4, hI.t5, hI.t6, hI.t7, hI.t8, hI.t9, hI.t10, hI.t11, hI.t12, hI.t13, hI.t14, hI.t15, hI.t16, hI.t17, hI.t18, fun h => (by obtain ⟨cs, e1, e2⟩ := hI.t19 h; exact ⟨cs, e1, rv_to hbw _ _ e2⟩), hI.t20, hI.t21, hI.t22, hI.t23, hI.t24, hI.t25, hI.t26, hI.t27, fun _ => rfl, hI.t29, fun h => (by obtain ⟨cs, e1, e2⟩ := hI.t30 h; exact ⟨cs, e1, rv_to hbw _ _ e2⟩), fun _ => rfl, fun _ => rfl, hI.t33, hI.t34, hI.t35, hI.t36, hI.t37, hI.aA.kept hbw, hI.aM.kept hbw, hI.aG.kept hbw, hI.aH.kept hbw, (hI.bl).trans (hbw.mono (hI.bl).size)⟩⟩
  · rintro L a wx ⟨v, rfl, hI⟩ hL hdep hcl K hK
    have e28 := hI.t28 (hdep 28 (by decide))
    have e32 := hI.t32 (hdep 32 (by decide))
    rw [e28, e32]
    go_simp
    exact hK _ _ ⟨(upd (upd (upd v 68 (.bool true)) 72 (.bool true)) 73 (.bool true)), rfl, ⟨hI.t0, hI.t1, hI.t2, hI.t3, hI.t4, hI.t5, hI.t6, hI.t7, hI.t8, hI.t9, hI.t10, hI.t11, hI.t12, hI.t13, hI.t14, hI.t15, hI.t16, hI.t17, hI.t18, hI.t19, hI.t20, hI.t21, hI.t22, hI.t23, hI.t24, hI.t25, hI.t26, hI.t27, fun _ => rfl, hI.t29, hI.t30, hI.t31, fun _ => rfl, fun _ => rfl, hI.t34, hI.t35, hI.t36, hI.t37, hI.aA, hI.aM, hI.aG, hI.aH, hI.bl⟩⟩
  · rintro L a wx ⟨v, rfl, hI⟩ hL hdep hcl K hK
    have e33 := hI.t33 (hdep 33 (by decide))
    have e32 := hI.t32 (hdep 32 (by decide))
    rw [e33, e32]
    go_simp
    exact hK _ _ ⟨(upd (upd (upd v 73 (.bool true)) 72 (.bool true)) 74 (.bool true)), rfl, ⟨hI.t0, hI.t1, hI.t2, hI.t3, hI.t4, hI.t5, hI.t6, hI.t7, hI.t8, hI.t9, hI.t10, hI.t11, hI.t12, hI.t13, hI.t14, hI.t15, hI.t16, hI.t17, hI.t18, hI.t19, hI.t20, hI.t21, hI.t22, hI.t23, hI.t24, hI.t25, hI.t26, hI.t27, hI.t28, hI.t29, hI.t30, hI.t31, fun _ => rfl, fun _ => rfl, fun _ => rfl, hI.t35, hI.t36, hI.t37, hI.aA, hI.aM, hI.aG, hI.aH, hI.bl⟩⟩
  · rintro L a wx ⟨v, rfl, hI⟩ hL hdep hcl K hK
    have e34 := hI.t34 (hdep 34 (by decide))
    rw [e34]
    refine (if_pos rfl).mpr ?_
    go_simp
    refine (hwk6.out _ hI.bl).mono ?_
    rintro e w' ⟨rfl, hbw⟩
    exact hK _ _ ⟨(upd (upd v 74 (.bool true)) 75 (.bool true)), rfl, ⟨hI.t0, hI.t1, hI.t2, hI.t3, hI.t4, hI.t5, hI.t6, hI.t7, hI.t8, hI.t9, hI.t10, hI.t11, hI.t12, hI.t13, hI.t14, hI.t15, hI.t16, hI.t17, hI.t18, fun h => (by obtain ⟨cs, e1, e2⟩ := hI.t19 h; exact ⟨cs, e1, rv_to hbw _ _ e2⟩), hI.t20, hI.t21, hI.t22, hI.t23, hI.t24, hI.t25, hI.t26, hI.t27, hI.t28, hI.t29, fun h => (by obtain ⟨cs, e1, e2⟩ := hI.t30 h; exact ⟨cs, e1, rv_to hbw _ _ e2⟩), hI.t31, hI.t32, hI.t33, fun _ => rfl, fun _ => rfl, hI.t36, hI.t37, hI.aA.kept hbw, hI.aM.kept hbw, hI.aG.kept hbw, hI.aH.kept hbw, (hI.bl).trans (hbw.mono (hI.bl).size)⟩⟩
  · rintro L a wx ⟨v, rfl, hI⟩ hL hdep hcl K hK
    have e34 := hI.t34 (hdep 34 (by decide))
    have e35 := hI.t35 (hdep 35 (by decide))
    rw [e34, e35]
    go_simp
    exact hK _ _ ⟨(upd (upd (upd v 74 (.bool true)) 75 (.bool true)) 76 (.bool true)), rfl, ⟨hI.t0, hI.t1, hI.t2, hI.t3, hI.t4, hI.t5, hI.t6, hI.t7, hI.t8, hI.t9, hI.t10, hI.t11, hI.t12, hI.t13, hI.t14, hI.t15, hI.t16, hI.t17, hI.t18, hI.t19, hI.t20, hI.t21, hI.t22, hI.t23, hI.t24, hI.t25, hI.t26, hI.t27, hI.t28, hI.t29, hI.t30, hI.t31, hI.t32, hI.t33, fun _ => rfl, fun _ => rfl, fun _ => rfl, hI.t37, hI.aA, hI.aM, hI.aG, hI.aH, hI.bl⟩⟩
  · rintro L a wx ⟨v, rfl, hI⟩ hL hdep hcl K hK
    have e36 := hI.t36 (hdep 36 (by decide))
    have e35 := hI.t35 (hdep 35 (by decide))
    rw [e36, e35]
    go_simp
    exact hK _ _ ⟨(upd (upd (upd v 76 (.bool true)) 75 (.bool true)) 4 (.bool true)), rfl, ⟨hI.t0, hI.t1, hI.t2, hI.t3, hI.t4, hI.t5, hI.t6, hI.t7, hI.t8, hI.t9, hI.t10, hI.t11, hI.t12, hI.t13, hI.t14, hI.t15, hI.t16, hI.t17, hI.t18, hI.t19, hI.t20, hI.t21, hI.t22, hI.t23, hI.t24, hI.t25, hI.t26, hI.t27, hI.t28, hI.t29, hI.t30, hI.t31, hI.t32, hI.t33, hI.t34, fun _ => rfl, fun _ => rfl, fun _ => rfl, hI.aA, hI.aM, hI.aG, hI.aH, hI.bl⟩⟩
  · rintro a wx ⟨v, rfl, hI⟩
    have e37 := hI.t37 rfl
    have hbl := hI.bl
    clear hI
    go_wp2_with fail
    go_ret
    exact ⟨by rw [e37]; rfl, HB6.out.trans (hbl.mono HB6.out.size)⟩
end Go.Proofs.YtighbdhjegklbaaDoor
