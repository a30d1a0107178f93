/-
  JsonParses: its contract. Conditions: those in each statement.
-/
import Derived.Test.YtbondnljoalajaaDoorRdP
import Derived.Test.YtbondnljoalajaaDoorRdQ
import Derived.Deep.Cut
namespace Go.Proofs.YtbondnljoalajaaDoor
open Go.RowKit

theorem own_cap {w : World} {B : Nat} {E : TypeId} {a : Option Addr} {n cap : Nat} {xs : List UInt8} (h : Own w B E (.slice a n cap) xs) : cap ≤ 9223372036854775807 := by
  obtain ⟨h1, ⟨e, hn⟩ | ⟨g, c, cur, e, hb, hg, hn, hc, r⟩⟩ := h
  · cases e
    omega
  · cases e
    unfold maxLen at hc
    omega
theorem parse_tot (b : List UInt8) : totV (parseE b).1 ≤ 1048576 := by
  unfold parseE
  by_cases h : 1048576 < b.length
  · rw [if_pos h]
    decide
  rw [if_neg h]
  cases hp : parseF b with
  | none => decide
  | some x => exact Nat.le_trans (parse_size b hp) (Nat.le_of_not_lt h)
structure InvParses (w w3 : World) (BM BY : Nat) (xk : Int) (xs : ByteArray) (xn : Int) (xa : Option Addr) (xl xc : Nat) (xb : Option Addr) (xm xd : Nat) (yk : Int) (ys : ByteArray) (yn : Int) (ya : Option Addr) (yl yc : Nat) (yb : Option Addr) (ym yd : Nat) (B : List UInt8) (ba fa : Option Addr) (n c fc : Nat) (X : JV) (E : Int) (L : Nat → Bool) (v : Nat → Value) (wx : World) : Prop where
  t0 : L 0 = true → (v 20) = .agg #[.int .i64 xk, .string xs, .int .u64 xn, .slice xa xl xc, .slice xb xm xd]
  t1 : L 1 = true → ∃ cs, (v 21) = .agg (List.toArray cs) ∧ RV wx X cs
  t2 : L 2 = true → (v 22) = .agg #[.int .i64 yk, .string ys, .int .u64 yn, .slice ya yl yc, .slice yb ym yd]
  t3 : L 3 = true → (v 23) = .bool true
  t4 : L 4 = true → (v 24) = .bool true
  t5 : L 5 = true → (v 25) = .int .i64 E
  t6 : L 6 = true → (v 26) = .int .i64 E
  t7 : L 7 = true → (v 27) = .bool true
  t8 : L 8 = true → (v 28) = .bool true
  t9 : L 9 = true → (v 29) = .bool true
  t10 : L 10 = true → (v 30) = .slice fa n fc
  t11 : L 11 = true → (v 31) = .string (bstr B)
  t12 : L 12 = true → (v 32) = .slice ba n c
  t13 : L 13 = true → (v 33) = .string (bstr B)
  t14 : L 14 = true → (v 34) = .bool true
  t15 : L 15 = true → (v 35) = .bool true
  t16 : L 16 = true → (v 36) = .bool true
  t17 : L 17 = true → (v 37) = .bool true
  t18 : L 18 = true → (v 38) = .bool true
  t19 : L 19 = true → (v 2) = .bool true
  aM : Arr wx BM 30 [.int .i64 xk, .string xs, .int .u64 xn, .slice xa xl xc, .slice xb xm xd]
  aY : Arr wx BY 26 [.int .i64 yk, .string ys, .int .u64 yn, .slice ya yl yc, .slice yb ym yd]
  bl : Below w3.heap.size w3 wx

set_option maxRecDepth 100000 in
set_option maxHeartbeats 20000000 in
theorem JsonParses_any (ba : Option Addr) (n c : Nat) (bs : List UInt8) (w : World) (h : Rd w ba n c bs) (hbig : c ≤ 9223372036854775807) (hlim : n ≤ 140737488355328) (hT : Tabs w) :
    Calls Tryd.prog 4 #[.slice ba n c] w fun e w' => e = .returned (.bool true) ∧ Below w.heap.size w w' := by
  have hn := h.len
  have HT := Lib.hid hT
  have HR := Lib.hid h
  have HLIM := Lib.hid hlim
  have HN := Lib.hid hn
  clear h hT hlim hn
  go_enter Tryd.func4, Tryd.ntmps4
  go_upto_region 2 with (at_builtin; go_loud (refine wl_append bt rfl (.const (.slice none 0 0)) (.tmp 8) rfl w.heap.size _ [] (Own.nil _ _ _) rfl ba n c bs rfl HR.out (by have := HLIM.out; simp only [List.length_nil]; omega) (Nat.le_refl _) ?_); intro v1 w1 ho1 hb1; have ho1 : Own w1 w.heap.size 5 v1 bs := ho1; obtain ⟨fa, fc, rfl, -⟩ := ho1.shape)
  have HO1 : Hid (Own w1 w.heap.size 5 (.slice fa n fc) bs) := by have := ho1; rw [HN.out] at this; exact this
  rw [HN.out]
  have HB1 := Lib.hid hb1
  clear ho1 hb1
  obtain ⟨X, hX⟩ : ∃ X, X = (parseE bs).1 := ⟨_, rfl⟩
  obtain ⟨E, hE⟩ : ∃ E : Int, E = ((parseE bs).2 : Int) := ⟨_, rfl⟩
  have HTOT : Hid (totV X ≤ 1048576) := by
    show _ ≤ _
    rw [hX]
    exact parse_tot bs
  have HFX := Lib.hid (tot_small X 1073741823 (by have := HTOT.out; omega)).2.1
  have hPJ : Hid (Calls Tryd.prog 20 #[.slice fa n fc] w1 fun e w' => ∃ cs, e = .returned (.tuple #[.agg (List.toArray cs), .int .i64 E]) ∧ PV w' X cs ∧ Below w1.heap.size w1 w') := by
    have := Parse_any fa n fc bs w1 HO1.out.rd.toRd (own_cap HO1.out) (HT.out.to HB1.out)
    rw [← hX, ← hE] at this
    exact this.mono fun e w' ⟨cs, h1, h2, h3⟩ => ⟨cs, h1, sv_pv _ _ h2, h3⟩
  have hPR : Hid (∀ W, Below w.heap.size w W → Calls Tryd.prog 21 #[.slice ba n c] W fun e w' => ∃ cs, e = .returned (.tuple #[.agg (List.toArray cs), .int .i64 E]) ∧ RV w' X cs ∧ Below W.heap.size W w') := fun W hW => by
    have := rParse_any ba n c bs W (HR.out.to hW) hbig
    rw [← hX, ← hE] at this
    exact this
  clear hX hE
  go_upto_region 3 with (first
    | (go_at_call 20; go_loud (refine hPJ.out.mono ?_); rintro e w2' ⟨cs', rfl, hp2, hb2⟩; obtain ⟨xk, xs, xn, xa, xl, xc, xb, xm, xd, rfl⟩ := pv_shape hp2; have hM0 := Arr.new w2' 30 zC)
    | ((with_reducible show wpList _ _ _ (⟨none, _, _, _, _, _⟩ :: _) _ _); go_loud (refine wl_store rfl 30 _ _ rfl w2'.heap.size 0 rfl [.int .i64 xk, .string xs, .int .u64 xn, .slice xa xl xc, .slice xb xm xd] rfl 30 zC hM0 (by kernel_rfl) (by simp [zC]) (by simp [Value.oneCell']) ?_); intro w2 hM hg2 hs2))
  rw [whole_store zC [.int .i64 xk, .string xs, .int .u64 xn, .slice xa xl xc, .slice xb xm xd] rfl] at hM
  have HB12 : Hid (Below w1.heap.size w1 w2) := (hb2.alloc hb2.size _).grown hg2 (by have := hb2.size; simp; omega) (by intro q hq; cases hq; exact hb2.size)
  have HP2 : Hid (PV w2 X [.int .i64 xk, .string xs, .int .u64 xn, .slice xa xl xc, .slice xb xm xd]) := pv_keep (CellsKept.of_below (((Below.refl _ _).alloc (Nat.le_refl _) _).grown hg2 (by simp) (by intro q hq; cases hq; exact Nat.le_refl _))) _ _ hp2
  have HB2 : Hid (Below w.heap.size w w2) := HB1.out.trans (HB12.out.mono HB1.out.size)
  generalize w2'.heap.size = BM at *
  clear hp2 hb2 hM0 hg2 hs2 hPJ
  go_upto_region 4 with (first
    | (go_at_call 21; go_loud (refine (hPR.out _ HB2.out).mono ?_); rintro e w3' ⟨cs', rfl, hr3, hb3⟩; obtain ⟨yk, ys, yn, ya, yl, yc, yb, ym, yd, rfl⟩ := rv_shape hr3; have hY0 := Arr.new w3' 26 zC)
    | ((with_reducible show wpList _ _ _ (⟨none, _, _, _, _, _⟩ :: _) _ _); go_loud (refine wl_store rfl 26 _ _ rfl w3'.heap.size 0 rfl [.int .i64 yk, .string ys, .int .u64 yn, .slice ya yl yc, .slice yb ym yd] rfl 26 zC hY0 (by kernel_rfl) (by simp [zC]) (by simp [Value.oneCell']) ?_); intro w3 hY hg3 hs3))
  rw [whole_store zC [.int .i64 yk, .string ys, .int .u64 yn, .slice ya yl yc, .slice yb ym yd] rfl] at hY
  have HB23 : Hid (Below w2.heap.size w2 w3) := (hb3.alloc hb3.size _).grown hg3 (by have := hb3.size; simp; omega) (by intro q hq; cases hq; exact hb3.size)
  have HRY : Hid (RV w3 X [.int .i64 yk, .string ys, .int .u64 yn, .slice ya yl yc, .slice yb ym yd]) := rv_to (((Below.refl _ _).alloc (Nat.le_refl _) _).grown hg3 (by simp) (by intro q hq; cases hq; exact Nat.le_refl _)) _ _ hr3
  have HB3 : Hid (Below w.heap.size w w3) := HB2.out.trans (HB23.out.mono HB2.out.size)
  have HB13 : Hid (Below w1.heap.size w1 w3) := HB12.out.trans (HB23.out.mono HB12.out.size)
  replace hM := hM.kept HB23.out
  generalize w3'.heap.size = BY at *
  clear hr3 hb3 hY0 hg3 hs3 hPR
  have HPX : Hid (PV w3 X [.int .i64 xk, .string xs, .int .u64 xn, .slice xa xl xc, .slice xb xm xd]) := pv_keep (CellsKept.of_below HB23.out) _ _ HP2.out
  have HRO := Lib.hid (HO1.out.rd.toRd.to HB13.out)
  have HRB := Lib.hid (HR.out.to HB3.out)
  have hcv1 : Hid (∀ W, Below w3.heap.size w3 W → (convert 32 9 (.slice fa n fc)).run Tryd.prog W = .ok (.string (bstr bs)) W) := fun W hW => run_bstr bt Tryd.underlying9 (HRO.out.to hW)
  have hcv2 : Hid (∀ W, Below w3.heap.size w3 W → (convert 32 9 (.slice ba n c)).run Tryd.prog W = .ok (.string (bstr bs)) W) := fun W hW => run_bstr bt Tryd.underlying9 (HRB.out.to hW)
  have hth : Hid (∀ W, Below w3.heap.size w3 W → Calls Tryd.prog 18 #[.agg #[.int .i64 xk, .string xs, .int .u64 xn, .slice xa xl xc, .slice xb xm xd]] W fun e w' => ∃ cs', e = .returned (.agg (List.toArray cs')) ∧ RV w' X cs' ∧ Below W.heap.size W w') := fun W hW => (theirs_any X _ w3 W (pv_rv _ _ HPX.out) hW HFX.out).mono fun e w' ⟨cs', h1, h2, h3⟩ => ⟨cs', h1, pv_rv _ _ (sv_pv _ _ h2), h3⟩
  have hrs : Hid (∀ W cs, RV W X cs → Below w3.heap.size w3 W → Calls Tryd.prog 17 #[.agg (List.toArray cs), .agg #[.int .i64 yk, .string ys, .int .u64 yn, .slice ya yl yc, .slice yb ym yd]] W fun e w' => e = .returned (.bool true) ∧ Below W.heap.size W w') := fun W cs h hW => by
    have := rSame_any X X cs _ W h (rv_to hW _ _ HRY.out)
    rw [(same_eq X X).2 rfl] at this
    exact this
  have hwk : Hid (∀ W, Below w3.heap.size w3 W → Calls Tryd.prog 19 #[] W fun e w' => e = .returned (.bool true) ∧ Below W.heap.size W w') := fun W hW => wakes_any W (HT.out.to (HB3.out.trans (hW.mono HB3.out.size)))
  clear HT HR HLIM HN HTOT HFX HB1 HB12 HP2 HB2 HB23 HB13 HPX HRO HRB HRY HO1 hbig
  refine wp_region_steps [[], [0], [], [1, 2], [3], [4], [4], [5, 6, 4], [4, 7], [8, 4], [9], [10, 9], [9], [12, 9], [11, 13, 9], [9, 14], [15, 9], [16], [16, 17], [18, 17]] (by kernel_rfl) (by kernel_rfl) (fun L a wx => ∃ v : Nat → Value, a = ⟨#[.slice ba n c, undef, v 2, .slice fa n fc, .pointer (some ⟨BM, 0, none⟩), .int .i64 E, .pointer (some ⟨BY, 0, none⟩), .int .i64 E, .slice ba n c, .slice fa n fc, .tuple #[.agg #[.int .i64 xk, .string xs, .int .u64 xn, .slice xa xl xc, .slice xb xm xd], .int .i64 E], .slice fa n fc, .tuple #[.agg #[.int .i64 xk, .string xs, .int .u64 xn, .slice xa xl xc, .slice xb xm xd], .int .i64 E], .agg #[.int .i64 xk, .string xs, .int .u64 xn, .slice xa xl xc, .slice xb xm xd], .int .i64 E, .tuple #[.agg #[.int .i64 yk, .string ys, .int .u64 yn, .slice ya yl yc, .slice yb ym yd], .int .i64 E], .slice ba n c, .tuple #[.agg #[.int .i64 yk, .string ys, .int .u64 yn, .slice ya yl yc, .slice yb ym yd], .int .i64 E], .agg #[.int .i64 yk, .string ys, .int .u64 yn, .slice ya yl yc, .slice yb ym yd], .int .i64 E, v 20, v 21, v 22, v 23, v 24, v 25, v 26, v 27, v 28, v 29, v 30, v 31, v 32, v 33, v 34, v 35, v 36, v 37, v 38], []⟩ ∧ InvParses w w3 BM BY xk xs xn xa xl xc xb xm xd yk ys yn ya yl yc yb ym yd bs ba fa n c fc X E L v wx) ?_ ⟨?_, ?_, ?_, ?_, ?_, ?_, ?_, ?_, ?_, ?_, ?_, ?_, ?_, ?_, ?_, ?_, ?_, ?_, ?_, ?_, trivial⟩ ?_
  · refine ⟨upd (fun _ => undef) 2 (.bool false), rfl, ⟨?_, ?_, ?_, ?_, ?_, ?_, ?_, ?_, ?_, ?_, ?_, ?_, ?_, ?_, ?_, ?_, ?_, ?_, ?_, ?_, hM.drew, hY.drew, (Below.refl _ _).drew⟩⟩ <;> (intro h; exact absurd h (by decide))
  · rintro L a wx ⟨v, rfl, hI⟩ hL hdep hcl K hK
    refine wp_load_mid 30 _ rfl BM 0 rfl _ _ (hI.aM.range 0 _ (fun j v h => by rw [Nat.zero_add]; exact h)) Tryd.underlying30 rfl (by kernel_rfl) ?_
    exact hK _ _ ⟨(upd v 20 (.agg #[.int .i64 xk, .string xs, .int .u64 xn, .slice xa xl xc, .slice xb xm xd])), rfl, ⟨fun _ => rfl, hI.t1, hI.t2, hI.t3, hI.t4, hI.t5, hI.t6, hI.t7, hI.t8, hI.t9, hI.t10, hI.t11, hI.t12, hI.t13, hI.t14, hI.t15, hI.t16, hI.t17, hI.t18, hI.t19, hI.aM, hI.aY, hI.bl⟩⟩
  · rintro L a wx ⟨v, rfl, hI⟩ hL hdep hcl K hK
    have e0 := hI.t0 (hdep 0 (by decide))
    rw [e0]
    go_simp
    refine (hth.out _ hI.bl).mono ?_
    rintro e w' ⟨cs', rfl, hp, hbw⟩
    exact hK _ _ ⟨(upd (upd v 20 (.agg #[.int .i64 xk, .string xs, .int .u64 xn, .slice xa xl xc, .slice xb xm xd])) 21 (_)), rfl, ⟨fun _ => rfl, fun _ => ⟨cs', rfl, hp⟩, hI.t2, hI.t3, hI.t4, hI.t5, hI.t6, hI.t7, hI.t8, hI.t9, hI.t10, hI.t11, hI.t12, hI.t13, hI.t14, hI.t15, hI.t16, hI.t17, hI.t18, hI.t19, hI.aM.kept hbw, hI.aY.kept hbw, (hI.bl).trans (hbw.mono (hI.bl).size)⟩⟩
  · rintro L a wx ⟨v, rfl, hI⟩ hL hdep hcl K hK
    refine wp_load_mid 26 _ rfl BY 0 rfl _ _ (hI.aY.range 0 _ (fun j v h => by rw [Nat.zero_add]; exact h)) Tryd.underlying26 rfl (by kernel_rfl) ?_
    exact hK _ _ ⟨(upd v 22 (.agg #[.int .i64 yk, .string ys, .int .u64 yn, .slice ya yl yc, .slice yb ym yd])), rfl, ⟨hI.t0, hI.t1, fun _ => rfl, hI.t3, hI.t4, hI.t5, hI.t6, hI.t7, hI.t8, hI.t9, hI.t10, hI.t11, hI.t12, hI.t13, hI.t14, hI.t15, hI.t16, hI.t17, hI.t18, hI.t19, hI.aM, hI.aY, hI.bl⟩⟩
  · rintro L a wx ⟨v, rfl, hI⟩ hL hdep hcl K hK
    have e2 := hI.t2 (hdep 2 (by decide))
    rw [e2]
    have hcl1 : Calls Tryd.prog 17 #[v 21, .agg #[.int .i64 yk, .string ys, .int .u64 yn, .slice ya yl yc, .slice yb ym yd]] wx fun e w' => e = .returned (.bool true) ∧ Below wx.heap.size wx w' := by obtain ⟨cs1, e1, hp1⟩ := hI.t1 (hdep 1 (by decide)); rw [e1]; exact hrs.out _ _ hp1 hI.bl
    go_simp
    refine hcl1.mono ?_
    rintro e w' ⟨rfl, hbw⟩
    exact hK _ _ ⟨(upd (upd v 22 (.agg #[.int .i64 yk, .string ys, .int .u64 yn, .slice ya yl yc, .slice yb ym yd])) 23 (.bool true)), rfl, ⟨hI.t0, fun h => (by obtain ⟨cs, e1, e2⟩ := hI.t1 h; exact ⟨cs, e1, rv_to hbw _ _ e2⟩), fun _ => rfl, fun _ => rfl, hI.t4, hI.t5, hI.t6, hI.t7, hI.t8, hI.t9, hI.t10, hI.t11, hI.t12, hI.t13, hI.t14, hI.t15, hI.t16, hI.t17, hI.t18, hI.t19, hI.aM.kept hbw, hI.aY.kept hbw, (hI.bl).trans (hbw.mono (hI.bl).size)⟩⟩
  · rintro L a wx ⟨v, rfl, hI⟩ hL hdep hcl K hK
    have e3 := hI.t3 (hdep 3 (by decide))
    rw [e3]
    go_simp
    exact hK _ _ ⟨(upd (upd v 23 (.bool true)) 24 (.bool true)), rfl, ⟨hI.t0, hI.t1, hI.t2, fun _ => rfl, fun _ => rfl, hI.t5, hI.t6, hI.t7, hI.t8, hI.t9, hI.t10, hI.t11, hI.t12, hI.t13, hI.t14, hI.t15, hI.t16, hI.t17, hI.t18, hI.t19, hI.aM, hI.aY, hI.bl⟩⟩
  · rintro L a wx ⟨v, rfl, hI⟩ hL hdep hcl K hK
    have e4 := hI.t4 (hdep 4 (by decide))
    rw [e4]
    refine (if_pos rfl).mpr ?_
    go_simp
    exact hK _ _ ⟨(upd (upd v 24 (.bool true)) 25 (.int .i64 E)), rfl, ⟨hI.t0, hI.t1, hI.t2, hI.t3, fun _ => rfl, fun _ => rfl, hI.t6, hI.t7, hI.t8, hI.t9, hI.t10, hI.t11, hI.t12, hI.t13, hI.t14, hI.t15, hI.t16, hI.t17, hI.t18, hI.t19, hI.aM, hI.aY, hI.bl⟩⟩
  · rintro L a wx ⟨v, rfl, hI⟩ hL hdep hcl K hK
    have e4 := hI.t4 (hdep 4 (by decide))
    rw [e4]
    refine (if_pos rfl).mpr ?_
    go_simp
    exact hK _ _ ⟨(upd (upd v 24 (.bool true)) 26 (.int .i64 E)), rfl, ⟨hI.t0, hI.t1, hI.t2, hI.t3, fun _ => rfl, hI.t5, fun _ => rfl, hI.t7, hI.t8, hI.t9, hI.t10, hI.t11, hI.t12, hI.t13, hI.t14, hI.t15, hI.t16, hI.t17, hI.t18, hI.t19, hI.aM, hI.aY, hI.bl⟩⟩
  · rintro L a wx ⟨v, rfl, hI⟩ hL hdep hcl K hK
    have e5 := hI.t5 (hdep 5 (by decide))
    have e6 := hI.t6 (hdep 6 (by decide))
    have e4 := hI.t4 (hdep 4 (by decide))
    rw [e5, e6, e4]
    refine (if_pos rfl).mpr ?_
    go_simp
    exact hK _ _ ⟨(upd (upd (upd (upd v 25 (.int .i64 E)) 26 (.int .i64 E)) 24 (.bool true)) 27 (.bool true)), rfl, ⟨hI.t0, hI.t1, hI.t2, hI.t3, fun _ => rfl, fun _ => rfl, fun _ => rfl, fun _ => rfl, hI.t8, hI.t9, hI.t10, hI.t11, hI.t12, hI.t13, hI.t14, hI.t15, hI.t16, hI.t17, hI.t18, hI.t19, hI.aM, hI.aY, hI.bl⟩⟩
  · rintro L a wx ⟨v, rfl, hI⟩ hL hdep hcl K hK
    have e4 := hI.t4 (hdep 4 (by decide))
    have e7 := hI.t7 (hdep 7 (by decide))
    rw [e4, e7]
    go_simp
    exact hK _ _ ⟨(upd (upd (upd v 24 (.bool true)) 27 (.bool true)) 28 (.bool true)), rfl, ⟨hI.t0, hI.t1, hI.t2, hI.t3, fun _ => rfl, hI.t5, hI.t6, fun _ => rfl, fun _ => rfl, hI.t9, hI.t10, hI.t11, hI.t12, hI.t13, hI.t14, hI.t15, hI.t16, hI.t17, hI.t18, hI.t19, hI.aM, hI.aY, hI.bl⟩⟩
  · rintro L a wx ⟨v, rfl, hI⟩ hL hdep hcl K hK
    have e8 := hI.t8 (hdep 8 (by decide))
    have e4 := hI.t4 (hdep 4 (by decide))
    rw [e8, e4]
    go_simp
    exact hK _ _ ⟨(upd (upd (upd v 28 (.bool true)) 24 (.bool true)) 29 (.bool true)), rfl, ⟨hI.t0, hI.t1, hI.t2, hI.t3, fun _ => rfl, hI.t5, hI.t6, hI.t7, fun _ => rfl, fun _ => rfl, hI.t10, hI.t11, hI.t12, hI.t13, hI.t14, hI.t15, hI.t16, hI.t17, hI.t18, hI.t19, hI.aM, hI.aY, hI.bl⟩⟩
  · rintro L a wx ⟨v, rfl, hI⟩ hL hdep hcl K hK
    have e9 := hI.t9 (hdep 9 (by decide))
    rw [e9]
    refine (if_pos rfl).mpr ?_
    go_simp
    exact hK _ _ ⟨(upd (upd v 29 (.bool true)) 30 (.slice fa n fc)), rfl, ⟨hI.t0, hI.t1, hI.t2, hI.t3, hI.t4, hI.t5, hI.t6, hI.t7, hI.t8, fun _ => rfl, fun _ => rfl, hI.t11, hI.t12, hI.t13, hI.t14, hI.t15, hI.t16, hI.t17, hI.t18, hI.t19, hI.aM, hI.aY, hI.bl⟩⟩
  · rintro L a wx ⟨v, rfl, hI⟩ hL hdep hcl K hK
    have e10 := hI.t10 (hdep 10 (by decide))
    have e9 := hI.t9 (hdep 9 (by decide))
    rw [e10, e9]
    refine (if_pos rfl).mpr ?_
    have hcv := hcv1.out wx hI.bl
    go_simp
    exact hK _ _ ⟨(upd (upd (upd v 30 (.slice fa n fc)) 29 (.bool true)) 31 (.string (bstr bs))), rfl, ⟨hI.t0, hI.t1, hI.t2, hI.t3, hI.t4, hI.t5, hI.t6, hI.t7, hI.t8, fun _ => rfl, fun _ => rfl, fun _ => rfl, hI.t12, hI.t13, hI.t14, hI.t15, hI.t16, hI.t17, hI.t18, hI.t19, hI.aM, hI.aY, hI.bl⟩⟩
  · rintro L a wx ⟨v, rfl, hI⟩ hL hdep hcl K hK
    have e9 := hI.t9 (hdep 9 (by decide))
    rw [e9]
    refine (if_pos rfl).mpr ?_
    go_simp
    exact hK _ _ ⟨(upd (upd v 29 (.bool true)) 32 (.slice ba n c)), rfl, ⟨hI.t0, hI.t1, hI.t2, hI.t3, hI.t4, hI.t5, hI.t6, hI.t7, hI.t8, fun _ => rfl, hI.t10, hI.t11, fun _ => rfl, hI.t13, hI.t14, hI.t15, hI.t16, hI.t17, hI.t18, hI.t19, hI.aM, hI.aY, hI.bl⟩⟩
  · rintro L a wx ⟨v, rfl, hI⟩ hL hdep hcl K hK
    have e12 := hI.t12 (hdep 12 (by decide))
    have e9 := hI.t9 (hdep 9 (by decide))
    rw [e12, e9]
    refine (if_pos rfl).mpr ?_
    have hcv := hcv2.out wx hI.bl
    go_simp
    exact hK _ _ ⟨(upd (upd (upd v 32 (.slice ba n c)) 29 (.bool true)) 33 (.string (bstr bs))), rfl, ⟨hI.t0, hI.t1, hI.t2, hI.t3, hI.t4, hI.t5, hI.t6, hI.t7, hI.t8, fun _ => rfl, hI.t10, hI.t11, fun _ => rfl, fun _ => rfl, hI.t14, hI.t15, hI.t16, hI.t17, hI.t18, hI.t19, hI.aM, hI.aY, hI.bl⟩⟩
  · rintro L a wx ⟨v, rfl, hI⟩ hL hdep hcl K hK
    have e11 := hI.t11 (hdep 11 (by decide))
    have e13 := hI.t13 (hdep 13 (by decide))
    have e9 := hI.t9 (hdep 9 (by decide))
    rw [e11, e13, e9]
    refine (if_pos rfl).mpr ?_
    go_simp
    exact hK _ _ ⟨(upd (upd (upd (upd v 31 (.string (bstr bs))) 33 (.string (bstr bs))) 29 (.bool true)) 34 (.bool true)), rfl, ⟨hI.t0, hI.t1, hI.t2, hI.t3, hI.t4, hI.t5, hI.t6, hI.t7, hI.t8, fun _ => rfl, hI.t10, fun _ => rfl, hI.t12, fun _ => rfl, fun _ => rfl, hI.t15, hI.t16, hI.t17, hI.t18, hI.t19, hI.aM, hI.aY, hI.bl⟩⟩
  · rintro L a wx ⟨v, rfl, hI⟩ hL hdep hcl K hK
    have e9 := hI.t9 (hdep 9 (by decide))
    have e14 := hI.t14 (hdep 14 (by decide))
    rw [e9, e14]
    go_simp
    exact hK _ _ ⟨(upd (upd (upd v 29 (.bool true)) 34 (.bool true)) 35 (.bool true)), rfl, ⟨hI.t0, hI.t1, hI.t2, hI.t3, hI.t4, hI.t5, hI.t6, hI.t7, hI.t8, fun _ => rfl, hI.t10, hI.t11, hI.t12, hI.t13, fun _ => rfl, fun _ => rfl, hI.t16, hI.t17, hI.t18, hI.t19, hI.aM, hI.aY, hI.bl⟩⟩
  · rintro L a wx ⟨v, rfl, hI⟩ hL hdep hcl K hK
    have e15 := hI.t15 (hdep 15 (by decide))
    have e9 := hI.t9 (hdep 9 (by decide))
    rw [e15, e9]
    go_simp
    exact hK _ _ ⟨(upd (upd (upd v 35 (.bool true)) 29 (.bool true)) 36 (.bool true)), rfl, ⟨hI.t0, hI.t1, hI.t2, hI.t3, hI.t4, hI.t5, hI.t6, hI.t7, hI.t8, fun _ => rfl, hI.t10, hI.t11, hI.t12, hI.t13, hI.t14, fun _ => rfl, fun _ => rfl, hI.t17, hI.t18, hI.t19, hI.aM, hI.aY, hI.bl⟩⟩
  · rintro L a wx ⟨v, rfl, hI⟩ hL hdep hcl K hK
    have e16 := hI.t16 (hdep 16 (by decide))
    rw [e16]
    refine (if_pos rfl).mpr ?_
    go_simp
    refine (hwk.out _ hI.bl).mono ?_
    rintro e w' ⟨rfl, hbw⟩
    exact hK _ _ ⟨(upd (upd v 36 (.bool true)) 37 (.bool true)), rfl, ⟨hI.t0, fun h => (by obtain ⟨cs, e1, e2⟩ := hI.t1 h; exact ⟨cs, e1, rv_to hbw _ _ e2⟩), hI.t2, hI.t3, hI.t4, hI.t5, hI.t6, hI.t7, hI.t8, hI.t9, hI.t10, hI.t11, hI.t12, hI.t13, hI.t14, hI.t15, fun _ => rfl, fun _ => rfl, hI.t18, hI.t19, hI.aM.kept hbw, hI.aY.kept hbw, (hI.bl).trans (hbw.mono (hI.bl).size)⟩⟩
  · rintro L a wx ⟨v, rfl, hI⟩ hL hdep hcl K hK
    have e16 := hI.t16 (hdep 16 (by decide))
    have e17 := hI.t17 (hdep 17 (by decide))
    rw [e16, e17]
    go_simp
    exact hK _ _ ⟨(upd (upd (upd v 36 (.bool true)) 37 (.bool true)) 38 (.bool true)), rfl, ⟨hI.t0, hI.t1, hI.t2, hI.t3, hI.t4, hI.t5, hI.t6, hI.t7, hI.t8, hI.t9, hI.t10, hI.t11, hI.t12, hI.t13, hI.t14, hI.t15, fun _ => rfl, fun _ => rfl, fun _ => rfl, hI.t19, hI.aM, hI.aY, hI.bl⟩⟩
  · rintro L a wx ⟨v, rfl, hI⟩ hL hdep hcl K hK
    have e18 := hI.t18 (hdep 18 (by decide))
    have e17 := hI.t17 (hdep 17 (by decide))
    rw [e18, e17]
    go_simp
    exact hK _ _ ⟨(upd (upd (upd v 38 (.bool true)) 37 (.bool true)) 2 (.bool true)), rfl, ⟨hI.t0, hI.t1, hI.t2, hI.t3, hI.t4, hI.t5, hI.t6, hI.t7, hI.t8, hI.t9, hI.t10, hI.t11, hI.t12, hI.t13, hI.t14, hI.t15, hI.t16, fun _ => rfl, fun _ => rfl, fun _ => rfl, hI.aM, hI.aY, hI.bl⟩⟩
  · rintro a wx ⟨v, rfl, hI⟩
    have e2 := hI.t19 rfl
    have hbl := hI.bl
    clear hI
    go_wp2_with fail
    go_ret
    exact ⟨by rw [e2]; rfl, HB3.out.trans (hbl.mono HB3.out.size)⟩
end Go.Proofs.YtbondnljoalajaaDoor
