/-
  JsonBlanks holds, whatever came in. Conditions: those in each statement.
-/
import Derived.Test.YtiadfijeglbdlaaDoorLBackF
import Derived.Deep.CutRange
import Derived.Deep.CutBlock
import Derived.Test.YtiadfijeglbdlaaDoorJzC
namespace Go.Proofs.YtiadfijeglbdlaaDoor
open Go.RowKit

theorem blank_pick (c : UInt8) : ∃ (q : Int) (z : UInt8), ((c.toNat : Nat) : Int).tmod 4 = q ∧ (∀ W, (Instr.index 9 (.string ⟨#[32, 9, 10, 13]⟩) (.int .u8 q)).run Tryd.prog W = .ok (.int .u8 (z.toNat : Int)) W) ∧ isBlank z = true := by
  have e : ((c.toNat : Nat) : Int).tmod 4 = ((c.toNat % 4 : Nat) : Int) := rfl
  have h : c.toNat % 4 = 0 ∨ c.toNat % 4 = 1 ∨ c.toNat % 4 = 2 ∨ c.toNat % 4 = 3 := by omega
  rw [e]
  rcases h with h | h | h | h <;> rw [h]
  · exact ⟨_, 32, rfl, fun W => by kernel_rfl, rfl⟩
  · exact ⟨_, 9, rfl, fun W => by kernel_rfl, rfl⟩
  · exact ⟨_, 10, rfl, fun W => by kernel_rfl, rfl⟩
  · exact ⟨_, 13, rfl, fun W => by kernel_rfl, rfl⟩
theorem plain_pos (v : JV) : 0 < (plainF v).length := by
  obtain ⟨c, r, e, -⟩ := plain_cons v
  rw [e]
  simp
structure InvBl11s (w w5 : World) (BY : Nat) (pk : Int) (ps : ByteArray) (pn : Int) (pa : Option Addr) (pl pc : Nat) (pb : Option Addr) (pm pd : Nat) (yk : Int) (ys : ByteArray) (yn : Int) (ya : Option Addr) (yl yc : Nat) (yb : Option Addr) (ym yd : Nat) (fa ga : Option Addr) (fn gn fc gc : Nat) (va : JV) (L : Nat → Bool) (v58 v59 v60 v61 v62 v63 v64 v65 v66 v67 v68 v69 v70 v71 v72 v73 v74 v75 : Value) (wx : World) : Prop where
  t0 : L 0 = true → v58 = .slice fa fn fc
  t1 : L 1 = true → v59 = .int .i64 (fn : Int)
  t2 : L 2 = true → v60 = .slice ga gn gc
  t3 : L 3 = true → v61 = .int .i64 (gn : Int)
  t4 : L 4 = true → v62 = .int .i64 (2 * (gn : Int))
  t5 : L 5 = true → v63 = .int .i64 ((fn : Int) + 2 * (gn : Int))
  t6 : L 6 = true → v64 = .bool true
  t7 : L 7 = true → v65 = .bool true
  t8 : L 8 = true → v66 = .int .i64 0
  t9 : L 9 = true → v67 = .bool false
  t10 : L 10 = true → v68 = .bool false
  t11 : L 11 = true → v69 = .agg #[.int .i64 yk, .string ys, .int .u64 yn, .slice ya yl yc, .slice yb ym yd]
  t12 : L 12 = true → ∃ cs, v70 = .agg (List.toArray cs) ∧ RV wx va cs
  t13 : L 13 = true → v71 = .agg #[.int .i64 pk, .string ps, .int .u64 pn, .slice pa pl pc, .slice pb pm pd]
  t14 : L 14 = true → v72 = .bool true
  t15 : L 15 = true → v73 = .bool false
  t16 : L 16 = true → v74 = .bool false
  t17 : L 17 = true → v75 = .bool false
  aA : Arr wx w.heap.size 26 [.int .i64 pk, .string ps, .int .u64 pn, .slice pa pl pc, .slice pb pm pd]
  aY : Arr wx BY 30 [.int .i64 yk, .string ys, .int .u64 yn, .slice ya yl yc, .slice yb ym yd]
  bl : Below w5.heap.size w5 wx
structure InvBl11b (w w5 : World) (BY : Nat) (pk : Int) (ps : ByteArray) (pn : Int) (pa : Option Addr) (pl pc : Nat) (pb : Option Addr) (pm pd : Nat) (yk : Int) (ys : ByteArray) (yn : Int) (ya : Option Addr) (yl yc : Nat) (yb : Option Addr) (ym yd : Nat) (fa ga : Option Addr) (fn gn fc gc : Nat) (va : JV) (F : Nat) (L : Nat → Bool) (v58 v59 v60 v61 v62 v63 v64 v65 v66 v67 v68 v69 v70 v71 v72 v73 v74 v75 : Value) (wx : World) : Prop where
  t0 : L 0 = true → v58 = .slice fa fn fc
  t1 : L 1 = true → v59 = .int .i64 (fn : Int)
  t2 : L 2 = true → v60 = .slice ga gn gc
  t3 : L 3 = true → v61 = .int .i64 (gn : Int)
  t4 : L 4 = true → v62 = .int .i64 (2 * (gn : Int))
  t5 : L 5 = true → v63 = .int .i64 ((fn : Int) + 2 * (gn : Int))
  t6 : L 6 = true → v64 = .bool false
  t7 : L 7 = true → v65 = .bool false
  t8 : L 8 = true → v66 = undef
  t9 : L 9 = true → v67 = undef
  t10 : L 10 = true → v68 = undef
  t11 : L 11 = true → v69 = undef
  t12 : L 12 = true → v70 = undef
  t13 : L 13 = true → v71 = undef
  t14 : L 14 = true → v72 = undef
  t15 : L 15 = true → v73 = undef
  t16 : L 16 = true → v74 = undef
  t17 : L 17 = true → v75 = .bool false
  aA : Arr wx w.heap.size 26 [.int .i64 pk, .string ps, .int .u64 pn, .slice pa pl pc, .slice pb pm pd]
  aY : Arr wx BY 30 [.int .i64 yk, .string ys, .int .u64 yn, .slice ya yl yc, .slice yb ym yd]
  bl : Below w5.heap.size w5 wx

set_option maxRecDepth 100000 in
set_option maxHeartbeats 1600000 in
theorem JsonBlanks_any (va0 : JV) (ca : List Value) (a0 : Option Addr) (n0 c0 : Nat) (bs : List UInt8) (at0 : Int) (w : World) (hx : RV w va0 ca) (hs0 : smallV va0 9223372036854775000) (hf0 : roomV va0) (hr : Rd w a0 n0 c0 bs) (hat : 0 ≤ at0 ∧ at0 ≤ 65535) (hT : Tabs w) :
    Calls Tryd.prog 7 #[.agg ca.toArray, .slice a0 n0 c0, .int .u16 at0] w fun e w' => e = .returned (.bool true) ∧ Below w.heap.size w w' := by
  have hsm0 := small_cut va0 100 _ hs0
  have hrm0 := room_cut va0 100 hf0
  have hcA0 : Hid (∀ W, Below w.heap.size w W → Calls Tryd.prog 9 #[.agg ca.toArray, .int .i64 100] W fun e w' => ∃ cs', e = .returned (.agg (List.toArray cs')) ∧ SV (fun x => x < w.heap.size ∨ W.heap.size ≤ x) w' (cutF va0 100) cs' ∧ Below W.heap.size W w') := fun W hW => cut_room va0 ca w W 100 hx hW hf0 (by omega)
  obtain ⟨xk, xs, xn, xa, xl, xc, xb, xm, xd, rfl⟩ := rv_shape hx
  generalize cutF va0 100 = va at *
  have HSM := Lib.hid hsm0
  have HFA := Lib.hid hrm0
  have hcA : Hid (∀ W, Below w.heap.size w W → Calls Tryd.prog 9 #[.agg #[.int .i64 xk, .string xs, .int .u64 xn, .slice xa xl xc, .slice xb xm xd], .int .i64 100] W fun e w' => ∃ cs', e = .returned (.agg (List.toArray cs')) ∧ SV (fun x => x < w.heap.size ∨ W.heap.size ≤ x) w' va cs' ∧ Below W.heap.size W w') := hcA0.out
  have HT := Lib.hid hT
  have hn0 := hr.len
  have HR0 := Lib.hid hr
  have HAT := Lib.hid hat
  have hwk : Hid (∀ W, Below w.heap.size w W → Calls Tryd.prog 19 #[] W fun e w' => e = .returned (.bool true) ∧ Below W.heap.size W w') := fun W hW => wakes_any W (HT.out.to hW)
  have hA0 : Arr (w.alloc (.cells #[.int .i64 xk, .string xs, .int .u64 xn, .slice xa xl xc, .slice xb xm xd] 26)) w.heap.size 26 [.int .i64 xk, .string xs, .int .u64 xn, .slice xa xl xc, .slice xb xm xd] := Arr.new w 26 [.int .i64 xk, .string xs, .int .u64 xn, .slice xa xl xc, .slice xb xm xd]
  have hW1 : Below w.heap.size w (w.alloc (.cells #[.int .i64 xk, .string xs, .int .u64 xn, .slice xa xl xc, .slice xb xm xd] 26)) := (Below.refl _ _).alloc (Nat.le_refl _) _
  have hz1 : (w.alloc (.cells #[.int .i64 xk, .string xs, .int .u64 xn, .slice xa xl xc, .slice xb xm xd] 26)).heap.size = w.heap.size + 1 := by simp
  have HZ1 := Lib.hid hz1
  clear hT hx hs0 hf0 hsm0 hrm0 hcA0 hr hz1 hat
  have k0 := (hA0.cell 0).trans (show _ = some (Value.int .i64 xk) from rfl)
  have k1 := (hA0.cell 1).trans (show _ = some (Value.string xs) from rfl)
  have k2 := (hA0.cell 2).trans (show _ = some (Value.int .u64 xn) from rfl)
  have k3 := (hA0.cell 3).trans (show _ = some (Value.slice xa xl xc) from rfl)
  have k4 := (hA0.cell 4).trans (show _ = some (Value.slice xb xm xd) from rfl)
  go_enter Tryd.func7, Tryd.ntmps7
  go_upto_region 2 with (first
    | (go_at_call 9; go_loud (refine (hcA.out _ hW1).mono ?_); rintro e w1' ⟨cs', rfl, hsv1, hb1⟩; obtain ⟨pk, ps, pn, pa, pl, pc, pb, pm, pd, rfl⟩ := five_of hsv1; have hA1 := hA0.kept hb1)
    | ((with_reducible show wpList _ _ _ (⟨none, _, _, _, _, _⟩ :: _) _ _); go_loud (refine wl_store rfl 26 _ _ rfl w.heap.size 0 rfl [.int .i64 pk, .string ps, .int .u64 pn, .slice pa pl pc, .slice pb pm pd] rfl 26 [.int .i64 xk, .string xs, .int .u64 xn, .slice xa xl xc, .slice xb xm xd] hA1 (by kernel_rfl) (by simp) (by simp [Value.oneCell']) ?_); intro w1 hA2 hg1 hs1))
  rw [whole_store [.int .i64 xk, .string xs, .int .u64 xn, .slice xa xl xc, .slice xb xm xd] [.int .i64 pk, .string ps, .int .u64 pn, .slice pa pl pc, .slice pb pm pd] rfl] at hA2
  have HB1 : Hid (Below w.heap.size w w1) := (hW1.trans (hb1.mono hW1.size)).grown hg1 (hW1.trans (hb1.mono hW1.size)).size (fun k hk => by cases hk; exact Nat.le_refl _)
  have HRV : Hid (RV w1 va [.int .i64 pk, .string ps, .int .u64 pn, .slice pa pl pc, .slice pb pm pd]) := pv_rv _ _ (sv_pv _ _ (sv_to (fun _ h _ => h) (Stay.of_grown hg1 (fun k hk => by cases hk; have := HZ1.out; omega)) _ _ hsv1))
  have HKD : Hid (pk = va.kind) := by
    obtain ⟨k, s, n, l, ks⟩ := va
    have := HRV.out
    unfold RV at this
    obtain ⟨_, _, _, _, e, -⟩ := this
    have e := List.cons.inj e
    have e := Value.int.inj e.1
    exact e.2
  clear hA0 hA1 k0 k1 k2 k3 k4 hsv1 hb1 hg1 hs1 hcA hW1
  have HWF := Lib.hid (rv_wf _ _ HRV.out)
  have hou0 : Hid (∀ W, Below w1.heap.size w1 W → Calls Tryd.prog 10 #[.agg #[.int .i64 pk, .string ps, .int .u64 pn, .slice pa pl pc, .slice pb pm pd]] W fun e w' => ∃ cs', e = .returned (.agg (List.toArray cs')) ∧ PV w' va cs' ∧ Below W.heap.size W w') := fun W hW => (ours_room va _ w1 W HRV.out hW HFA.out).mono fun e w' ⟨cs', h1, h2, h3⟩ => ⟨cs', h1, sv_pv _ _ h2, h3⟩
  have hTx : Hid (∀ W cs, PV W va cs → Below w1.heap.size w1 W → Calls Tryd.prog 11 #[.agg (List.toArray cs)] W fun e w' => ∃ vb, e = .returned (.tuple #[vb, .int .i64 (textE va)]) ∧ Own w' W.heap.size 5 vb (textB va) ∧ Below W.heap.size W w') := fun W cs h hW => Text_any va cs W h HSM.out (HT.out.to (HB1.out.trans (hW.mono HB1.out.size)))
  have b0 := (hA2.cell 0).trans (show _ = some (Value.int .i64 pk) from rfl)
  have b1 := (hA2.cell 1).trans (show _ = some (Value.string ps) from rfl)
  have b2 := (hA2.cell 2).trans (show _ = some (Value.int .u64 pn) from rfl)
  have b3 := (hA2.cell 3).trans (show _ = some (Value.slice pa pl pc) from rfl)
  have b4 := (hA2.cell 4).trans (show _ = some (Value.slice pb pm pd) from rfl)
  go_upto_region 3 with (first
    | (go_at_call 10; go_loud (refine (hou0.out _ (Below.refl _ _)).mono ?_); rintro e w2 ⟨cs', rfl, hp2, hb2⟩; obtain ⟨ok, os, on, oa, ol, oc, ob, om, od, rfl⟩ := pv_shape hp2)
    | (go_at_call 11; go_loud (refine (hTx.out _ _ hp2 hb2).mono ?_); rintro e w3 ⟨vb, rfl, ho3, hb3⟩; obtain ⟨fa, fc, rfl, -⟩ := ho3.shape))
  have HB13 : Hid (Below w1.heap.size w1 w3) := hb2.trans (hb3.mono hb2.size)
  have HB3 : Hid (Below w.heap.size w w3) := HB1.out.trans (HB13.out.mono HB1.out.size)
  have HA3 : Hid (Arr w3 w.heap.size 26 [.int .i64 pk, .string ps, .int .u64 pn, .slice pa pl pc, .slice pb pm pd]) := hA2.kept HB13.out
  have htc0 := text_cases va HWF.out
  obtain ⟨B, hB⟩ : ∃ B, B = textB va := ⟨_, rfl⟩
  rw [← hB] at htc0 ho3 ⊢
  have HO3 := Lib.hid ho3
  have htc := Lib.hid htc0
  clear b0 b1 b2 b3 b4 hA2 hp2 hb2 hb3 ho3 hTx hB htc0
  obtain ⟨fn, hfn⟩ : ∃ fn, fn = B.length := ⟨_, rfl⟩
  have HFN := Lib.hid hfn
  rw [← hfn]
  clear hfn
  obtain ⟨E, hE⟩ : ∃ E, E = textE va := ⟨_, rfl⟩
  rw [← hE] at htc
  rw [← hE]
  clear hE
  have bad : Hid (∀ W, Below w3.heap.size w3 W → Calls Tryd.prog 19 #[] W fun e w' => e = .returned (.bool true) ∧ Below W.heap.size W w') := fun W hW => hwk.out W (HB3.out.trans (hW.mono HB3.out.size))
  rcases htc.out with ⟨rfl, hm, hl, htb, -⟩ | ⟨rfl, hm, htb⟩ | ⟨rfl, hm, htb⟩
  case inr.inl => 
    go_wp2_with (go_at_call 19; go_loud (refine (bad.out _ (Below.refl _ _)).mono ?_); rintro e w4 ⟨rfl, hb4⟩)
    go_ret
    exact ⟨rfl, HB3.out.trans (hb4.mono HB3.out.size)⟩
  case inr.inr => 
    go_wp2_with (go_at_call 19; go_loud (refine (bad.out _ (Below.refl _ _)).mono ?_); rintro e w4 ⟨rfl, hb4⟩)
    go_ret
    exact ⟨rfl, HB3.out.trans (hb4.mono HB3.out.size)⟩
  case inl =>
    have HM := Lib.hid hm
    have HL := Lib.hid hl
    have HTB := Lib.hid htb
    have HPOS : Hid (0 < fn) := by show _ < _; rw [HFN.out, htb]; exact plain_pos va
    have HFL : Hid (fn ≤ 1048576) := by show _ ≤ _; rw [HFN.out]; exact hl
    clear bad htc hm hl htb
    go_wp2_with fail
    go_loopw [9, 10] (fun g i wr => ∃ (m : Nat) (gl : List UInt8), m ≤ 50 ∧ m ≤ n0 ∧ i = .int .i64 m ∧ gl.length = m ∧ (∀ c ∈ gl, isBlank c = true) ∧ Own wr w3.heap.size 5 g gl ∧ Below w3.heap.size w3 wr) (fun _ i _ => 50 - (intOf i).toNat)
    case atStart => exact ⟨0, [], by omega, by omega, rfl, rfl, by simp, Own.nil _ _ _, Below.refl _ _⟩
    case round =>
      obtain ⟨m, gl, hm50, hmn, rfl, hgl, hbl, hgo, hgb⟩ := hrel
      obtain ⟨ga, gc, rfl, -⟩ := hgo.shape
      rw [hgl] at hgo ⊢
      have HGO := Lib.hid hgo
      have HGB := Lib.hid hgb
      have HBL := Lib.hid hbl
      have HGL := Lib.hid hgl
      have HM50 := Lib.hid hm50
      have HMN := Lib.hid hmn
      clear hgo hgb hbl hgl
      go_upto_region 7 with fail
      go_cut [36] from 29 to 47 (fun c wx => wx = wr ∧ c = .bool (decide (m < n0 ∧ m < 50)))
      case first =>
        by_cases h1 : m < n0
        · have i1 : (m : Int) < (n0 : Int) := by omega
          by_cases h2 : m < 50
          · have i2 : (m : Int) < 50 := by omega
            go_wp2_with fail
            go_meet
            exact ⟨rfl, by rw [decide_eq_true (p := m < n0 ∧ m < 50) ⟨h1, h2⟩]⟩
          · have i2 : ¬ (m : Int) < 50 := by omega
            have i3 : decide ((m : Int) < 50) = false := decide_eq_false i2
            go_wp2_with fail
            go_meet
            exact ⟨rfl, by rw [decide_eq_false (p := m < n0 ∧ m < 50) (by omega)]⟩
        · have i1 : ¬ (m : Int) < (n0 : Int) := by omega
          have i3 : decide ((m : Int) < (n0 : Int)) = false := decide_eq_false i1
          go_wp2_with fail
          go_meet
          exact ⟨rfl, by rw [decide_eq_false (p := m < n0 ∧ m < 50) (by omega)]⟩
      case rest =>
        obtain ⟨hwc, rfl⟩ := hcut
        obtain rfl := hwc.symm
        clear hwc
        by_cases hb : m < n0 ∧ m < 50
        · rw [decide_eq_true hb]
          obtain ⟨h1, h2⟩ := hb
          obtain ⟨b, off, rfl, hbw, hce⟩ := HR0.out.mem (by have := HR0.out.le; omega)
          have hBr : Below w.heap.size w wr := HB3.out.trans (HGB.out.mono HB3.out.size)
          have hcell : wr.cell? ⟨b, off + m, none⟩ = some (.int .u8 ((bs.getD m 0).toNat : Int)) := (hBr.cell (p := ⟨b, off + m, none⟩) hbw).trans (hce m h1)
          obtain ⟨q, z, hq, hix, hz⟩ := blank_pick (bs.getD m 0)
          generalize (bs.getD m 0).toNat = y at *
          have i1 : (m : Int) < (n0 : Int) := by omega
          clear hce hBr
          go_wp2_with (at_builtin; go_loud (refine wl_append bt rfl (.tmp 39) (.tmp 46) rfl w3.heap.size _ gl (HGO.out.to ((Below.refl _ _).alloc (Nat.le_refl _) _)) rfl _ 1 1 [z] rfl (rd_lit _ [z] _ _) (by rw [HGL.out]; omega) (by have := HGB.out.size; simp; omega) ?_); intro v' w' ho' hb')
          go_roundw
          case rel => exact ⟨m + 1, gl ++ [z], by omega, by omega, by go_num, by rw [List.length_append, HGL.out]; rfl, (fun c hc => by rcases List.mem_append.1 hc with h | h; exact HBL.out c h; rw [List.mem_singleton.1 h]; exact hz), ho', (HGB.out.alloc HGB.out.size _).trans hb'⟩
          case measure => simp [intOf]; omega
        · rw [decide_eq_false hb]
          have hBr : Hid (Below w.heap.size w wr) := HB3.out.trans (HGB.out.mono HB3.out.size)
          have hO3 : Hid (Own w3 w2.heap.size 5 (.slice fa fn fc) B) := by
            show Own _ _ _ _ _
            rw [HFN.out]
            exact HO3.out
          obtain ⟨R, hR⟩ : ∃ R, R = parseE (([] ++ gl ++ B) ++ gl) := ⟨_, rfl⟩
          have hPX : Hid (∀ W a n c, Rd W a n c (([] ++ gl ++ B) ++ gl) → c ≤ 9223372036854775807 → Below w.heap.size w W → Calls Tryd.prog 20 #[.slice a n c] W fun e w' => ∃ cs, e = .returned (.tuple #[.agg (List.toArray cs), .int .i64 (R.2 : Int)]) ∧ PV w' R.1 cs ∧ Below W.heap.size W w') := fun W a n c h hc hW => by
            rw [hR]
            exact (Parse_any a n c _ W h hc (HT.out.to hW)).mono fun e w' ⟨cs, h1, h2, h3⟩ => ⟨cs, h1, sv_pv _ _ h2, h3⟩
          have hsmall : Hid (fn + 2 * m ≤ 1048576 → R = (va, 0)) := fun h => by
            rw [hR]
            unfold parseE
            rw [if_neg (by simp only [List.length_append, List.length_nil, HGL.out]; rw [← HFN.out]; omega), HTB.out, show [] ++ gl ++ plainF va ++ gl = gl ++ plainF va ++ gl by simp, parse_gaps va HM.out HWF.out gl gl HBL.out HBL.out]
          obtain ⟨X, hX⟩ : ∃ X, X = [] ++ gl ++ B ++ gl := ⟨_, rfl⟩
          have HXX : Hid ([] ++ gl ++ B ++ gl = X) := hX.symm
          rw [← hX] at hPX
          clear hR hb hX
          go_upto_region 10 with fail
          go_cut [11, 12] from 18 (fun bx f wx => ∃ (BY : Nat) (yk : Int) (ys : ByteArray) (yn : Int) (ya : Option Addr) (yl yc : Nat) (yb : Option Addr) (ym yd : Nat), bx = .pointer (some ⟨BY, 0, none⟩) ∧ f = .int .i64 (R.2 : Int) ∧ Arr wx BY 30 [.int .i64 yk, .string ys, .int .u64 yn, .slice ya yl yc, .slice yb ym yd] ∧ PV wx R.1 [.int .i64 yk, .string ys, .int .u64 yn, .slice ya yl yc, .slice yb ym yd] ∧ Below w3.heap.size w3 wx)
          case first =>
            have hRG : Hid (Rd wr ga m gc gl) := HGO.out.rd.toRd
            have hRA : Hid (Rd wr fa fn fc B) := hO3.out.rd.toRd.to HGB.out
            go_wp2_with (first
              | (at_builtin; refine wl_append bt rfl (.const (.slice none 0 0)) (.tmp 49) rfl wr.heap.size _ [] (Own.nil _ _ _) rfl ga m gc gl rfl hRG.out (by simp; omega) (Nat.le_refl _) ?_; intro v1 w4a ho4a hb4a)
              | (at_builtin; refine wl_append bt rfl (.tmp 50) (.tmp 51) rfl wr.heap.size _ _ ho4a rfl fa fn fc B rfl (hRA.out.to hb4a) (by simp only [List.length_append, List.length_nil, HGL.out]; have := HFL.out; omega) hb4a.size ?_; intro v2 w4b ho4b hb4b)
              | (at_builtin; refine wl_append bt rfl (.tmp 52) (.tmp 53) rfl wr.heap.size _ _ ho4b rfl ga m gc gl rfl (hRG.out.to (hb4a.trans hb4b)) (by simp only [List.length_append, List.length_nil, HGL.out]; rw [← HFN.out]; have := HFL.out; omega) (hb4a.trans hb4b).size ?_; intro v3 w4 ho4 hb4; rw [HXX.out] at ho4; obtain ⟨a4, c4, rfl, -⟩ := ho4.shape; have HB4 : Hid (Below wr.heap.size wr w4) := (hb4a.trans hb4b).trans hb4)
              | (go_at_call 20; go_loud (refine (hPX.out _ _ _ _ ho4.rd.toRd ho4.cap (hBr.out.trans (HB4.out.mono hBr.out.size))).mono ?_); rintro e w5' ⟨cs5, rfl, hp5, hb5⟩; obtain ⟨yk, ys, yn, ya, yl, yc, yb, ym, yd, rfl⟩ := pv_shape hp5; have hY0 := Arr.new w5' 30 zC)
              | ((with_reducible show wpList _ _ _ (⟨none, _, _, _, _, _⟩ :: _) _ _); go_loud (refine wl_store rfl 30 _ _ rfl w5'.heap.size 0 rfl [.int .i64 yk, .string ys, .int .u64 yn, .slice ya yl yc, .slice yb ym yd] rfl 30 zC hY0 (by kernel_rfl) (by simp [zC]) (by simp [Value.oneCell']) ?_); intro w5 hY hg5 hs5))
            go_meet
            rw [whole_store zC [.int .i64 yk, .string ys, .int .u64 yn, .slice ya yl yc, .slice yb ym yd] rfl] at hY
            have h45 : Below w4.heap.size w4 w5 := (hb5.alloc hb5.size _).grown hg5 (by have := hb5.size; simp; omega) (by intro q hq; cases hq; exact hb5.size)
            have h35 : Below w3.heap.size w3 w4 := HGB.out.trans (HB4.out.mono HGB.out.size)
            exact ⟨_, yk, ys, yn, ya, yl, yc, yb, ym, yd, rfl, rfl, hY, pv_keep (CellsKept.of_below (((Below.refl _ _).alloc (Nat.le_refl _) _).grown hg5 (by simp) (by intro q hq; cases hq; exact Nat.le_refl _))) _ _ hp5, h35.trans (h45.mono h35.size)⟩
          case rest =>
            obtain ⟨BY, yk, ys, yn, ya, yl, yc, yb, ym, yd, rfl, rfl, hY, hp5, hb35⟩ := hcut
            rename World => w5
            have HBX5 := Lib.hid hb35
            have HP5 := Lib.hid hp5
            have hA5 := HA3.out.kept hb35
            have HB5 : Hid (Below w.heap.size w w5) := HB3.out.trans (HBX5.out.mono HB3.out.size)
            have HB15 : Hid (Below w1.heap.size w1 w5) := HB13.out.trans (HBX5.out.mono HB13.out.size)
            clear hp5 hb35 hPX
            go_upto_region 11 with fail
            go_cut [75] from 18 (fun c wx => c = .bool false ∧ Below w3.heap.size w3 wx)
            case first =>
              have hWR1 : Hid (IntKind.i64.wrap (2 * (m : Int)) = 2 * (m : Int)) := by show _ = _; rw [IntKind.wrap_i64]; omega
              have hWR2 : Hid (IntKind.i64.wrap ((fn : Int) + 2 * (m : Int)) = (fn : Int) + 2 * (m : Int)) := by show _ = _; have := HFL.out; rw [IntKind.wrap_i64]; omega
              by_cases hsz : fn + 2 * m ≤ 1048576
              · have hR := hsmall.out hsz
                subst hR
                have hth : Hid (∀ W, Below w5.heap.size w5 W → Calls Tryd.prog 18 #[.agg #[.int .i64 yk, .string ys, .int .u64 yn, .slice ya yl yc, .slice yb ym yd]] W fun e w' => ∃ cs', e = .returned (.agg (List.toArray cs')) ∧ RV w' va cs' ∧ Below W.heap.size W w') := fun W hW => (theirs_room va _ w5 W (pv_rv _ _ HP5.out) hW HFA.out).mono fun e w' ⟨cs', h1, h2, h3⟩ => ⟨cs', h1, pv_rv _ _ (sv_pv _ _ h2), h3⟩
                have hrs : Hid (∀ W cs, RV W va cs → Below w5.heap.size w5 W → Calls Tryd.prog 17 #[.agg (List.toArray cs), .agg #[.int .i64 pk, .string ps, .int .u64 pn, .slice pa pl pc, .slice pb pm pd]] W fun e w' => e = .returned (.bool true) ∧ Below W.heap.size W w') := fun W cs h hW => by
                  have := rSame_any va va cs _ W h (rv_to (HB15.out.trans (hW.mono HB15.out.size)) _ _ HRV.out)
                  rw [(same_eq va va).2 rfl] at this
                  exact this
                have hLE : Hid (decide ((fn : Int) + 2 * (m : Int) ≤ 1048576) = true) := decide_eq_true (by omega)
                clear hsmall hsz
                refine wp_region_steps [[], [0], [], [2], [3], [1, 4], [5], [6], [7], [8, 7], [9, 7], [10], [11, 10], [10], [12, 13, 10], [14, 10], [10, 15, 7], [7, 16]] (by kernel_rfl) (by kernel_rfl) (fun L a wx => ∃ v58 v59 v60 v61 v62 v63 v64 v65 v66 v67 v68 v69 v70 v71 v72 v73 v74 v75, a = ⟨#[.agg #[.int .i64 xk, .string xs, .int .u64 xn, .slice xa xl xc, .slice xb xm xd], .slice a0 n0 c0, .int .u16 at0, .pointer (some ⟨w.heap.size, 0, none⟩), undef, undef, .bool false, .slice fa fn fc, .int .i64 0, .slice ga m gc, .int .i64 (m : Int), .pointer (some ⟨BY, 0, none⟩), .int .i64 0, undef, undef, undef, undef, undef, u18, u19, u20, u21, u22, u23, u24, u25, u26, u27, u28, u29, u30, u31, u32, u33, u34, u35, u36, u37, u38, u39, u40, u41, u42, u43, u44, u45, u46, u47, u48, u49, u50, u51, u52, u53, u54, u55, u56, u57, v58, v59, v60, v61, v62, v63, v64, v65, v66, v67, v68, v69, v70, v71, v72, v73, v74, v75, u76, u77, u78, u79, u80, u81, u82, u83, u84, u85, u86, u87, u88, u89, u90, u91, u92, u93, u94, u95, u96, u97, u98, u99, u100, u101, u102, u103, u104, u105, u106, u107, u108, u109], []⟩ ∧ InvBl11s w w5 BY pk ps pn pa pl pc pb pm pd yk ys yn ya yl yc yb ym yd fa ga fn m fc gc va L v58 v59 v60 v61 v62 v63 v64 v65 v66 v67 v68 v69 v70 v71 v72 v73 v74 v75 wx) ?_ ⟨?_, ?_, ?_, ?_, ?_, ?_, ?_, ?_, ?_, ?_, ?_, ?_, ?_, ?_, ?_, ?_, ?_, ?_, trivial⟩ ?_
                · refine ⟨_, _, _, _, _, _, _, _, _, _, _, _, _, _, _, _, _, _, rfl, ⟨?_, ?_, ?_, ?_, ?_, ?_, ?_, ?_, ?_, ?_, ?_, ?_, ?_, ?_, ?_, ?_, ?_, ?_, hA5.drew, hY.drew, (Below.refl _ _).drew⟩⟩ <;> (intro h; exact absurd h (by decide))
                · rintro L a wx ⟨v58, v59, v60, v61, v62, v63, v64, v65, v66, v67, v68, v69, v70, v71, v72, v73, v74, v75, rfl, hI⟩ hL hdep hcl K hK
                  go_simp
                  exact hK _ _ ⟨_, v59, v60, v61, v62, v63, v64, v65, v66, v67, v68, v69, v70, v71, v72, v73, v74, v75, rfl, ⟨fun _ => rfl, hI.t1, hI.t2, hI.t3, hI.t4, hI.t5, hI.t6, hI.t7, hI.t8, hI.t9, hI.t10, hI.t11, hI.t12, hI.t13, hI.t14, hI.t15, hI.t16, hI.t17, hI.aA, hI.aY, hI.bl⟩⟩
                · rintro L a wx ⟨v58, v59, v60, v61, v62, v63, v64, v65, v66, v67, v68, v69, v70, v71, v72, v73, v74, v75, rfl, hI⟩ hL hdep hcl K hK
                  obtain rfl := hI.t0 (hdep 0 (by decide))
                  go_simp
                  exact hK _ _ ⟨_, _, v60, v61, v62, v63, v64, v65, v66, v67, v68, v69, v70, v71, v72, v73, v74, v75, rfl, ⟨hI.t0, fun _ => rfl, hI.t2, hI.t3, hI.t4, hI.t5, hI.t6, hI.t7, hI.t8, hI.t9, hI.t10, hI.t11, hI.t12, hI.t13, hI.t14, hI.t15, hI.t16, hI.t17, hI.aA, hI.aY, hI.bl⟩⟩
                · rintro L a wx ⟨v58, v59, v60, v61, v62, v63, v64, v65, v66, v67, v68, v69, v70, v71, v72, v73, v74, v75, rfl, hI⟩ hL hdep hcl K hK
                  go_simp
                  exact hK _ _ ⟨v58, v59, _, v61, v62, v63, v64, v65, v66, v67, v68, v69, v70, v71, v72, v73, v74, v75, rfl, ⟨hI.t0, hI.t1, fun _ => rfl, hI.t3, hI.t4, hI.t5, hI.t6, hI.t7, hI.t8, hI.t9, hI.t10, hI.t11, hI.t12, hI.t13, hI.t14, hI.t15, hI.t16, hI.t17, hI.aA, hI.aY, hI.bl⟩⟩
                · rintro L a wx ⟨v58, v59, v60, v61, v62, v63, v64, v65, v66, v67, v68, v69, v70, v71, v72, v73, v74, v75, rfl, hI⟩ hL hdep hcl K hK
                  obtain rfl := hI.t2 (hdep 2 (by decide))
                  go_simp
                  exact hK _ _ ⟨v58, v59, _, _, v62, v63, v64, v65, v66, v67, v68, v69, v70, v71, v72, v73, v74, v75, rfl, ⟨hI.t0, hI.t1, hI.t2, fun _ => rfl, hI.t4, hI.t5, hI.t6, hI.t7, hI.t8, hI.t9, hI.t10, hI.t11, hI.t12, hI.t13, hI.t14, hI.t15, hI.t16, hI.t17, hI.aA, hI.aY, hI.bl⟩⟩
                · rintro L a wx ⟨v58, v59, v60, v61, v62, v63, v64, v65, v66, v67, v68, v69, v70, v71, v72, v73, v74, v75, rfl, hI⟩ hL hdep hcl K hK
                  obtain rfl := hI.t3 (hdep 3 (by decide))
                  have hw1 := hWR1.out
                  go_simp
                  exact hK _ _ ⟨v58, v59, v60, _, _, v63, v64, v65, v66, v67, v68, v69, v70, v71, v72, v73, v74, v75, rfl, ⟨hI.t0, hI.t1, hI.t2, hI.t3, fun _ => rfl, hI.t5, hI.t6, hI.t7, hI.t8, hI.t9, hI.t10, hI.t11, hI.t12, hI.t13, hI.t14, hI.t15, hI.t16, hI.t17, hI.aA, hI.aY, hI.bl⟩⟩
                · rintro L a wx ⟨v58, v59, v60, v61, v62, v63, v64, v65, v66, v67, v68, v69, v70, v71, v72, v73, v74, v75, rfl, hI⟩ hL hdep hcl K hK
                  obtain rfl := hI.t1 (hdep 1 (by decide))
                  obtain rfl := hI.t4 (hdep 4 (by decide))
                  have hw1 := hWR2.out
                  go_simp
                  exact hK _ _ ⟨v58, _, v60, v61, _, _, v64, v65, v66, v67, v68, v69, v70, v71, v72, v73, v74, v75, rfl, ⟨hI.t0, hI.t1, hI.t2, hI.t3, hI.t4, fun _ => rfl, hI.t6, hI.t7, hI.t8, hI.t9, hI.t10, hI.t11, hI.t12, hI.t13, hI.t14, hI.t15, hI.t16, hI.t17, hI.aA, hI.aY, hI.bl⟩⟩
                · rintro L a wx ⟨v58, v59, v60, v61, v62, v63, v64, v65, v66, v67, v68, v69, v70, v71, v72, v73, v74, v75, rfl, hI⟩ hL hdep hcl K hK
                  obtain rfl := hI.t5 (hdep 5 (by decide))
                  have hn1 := hLE.out
                  go_simp
                  exact hK _ _ ⟨v58, v59, v60, v61, v62, _, _, v65, v66, v67, v68, v69, v70, v71, v72, v73, v74, v75, rfl, ⟨hI.t0, hI.t1, hI.t2, hI.t3, hI.t4, hI.t5, fun _ => rfl, hI.t7, hI.t8, hI.t9, hI.t10, hI.t11, hI.t12, hI.t13, hI.t14, hI.t15, hI.t16, hI.t17, hI.aA, hI.aY, hI.bl⟩⟩
                · rintro L a wx ⟨v58, v59, v60, v61, v62, v63, v64, v65, v66, v67, v68, v69, v70, v71, v72, v73, v74, v75, rfl, hI⟩ hL hdep hcl K hK
                  obtain rfl := hI.t6 (hdep 6 (by decide))
                  go_simp
                  exact hK _ _ ⟨v58, v59, v60, v61, v62, v63, _, _, v66, v67, v68, v69, v70, v71, v72, v73, v74, v75, rfl, ⟨hI.t0, hI.t1, hI.t2, hI.t3, hI.t4, hI.t5, hI.t6, fun _ => rfl, hI.t8, hI.t9, hI.t10, hI.t11, hI.t12, hI.t13, hI.t14, hI.t15, hI.t16, hI.t17, hI.aA, hI.aY, hI.bl⟩⟩
                · rintro L a wx ⟨v58, v59, v60, v61, v62, v63, v64, v65, v66, v67, v68, v69, v70, v71, v72, v73, v74, v75, rfl, hI⟩ hL hdep hcl K hK
                  obtain rfl := hI.t7 (hdep 7 (by decide))
                  refine (if_pos rfl).mpr ?_
                  go_simp
                  exact hK _ _ ⟨v58, v59, v60, v61, v62, v63, v64, _, _, v67, v68, v69, v70, v71, v72, v73, v74, v75, rfl, ⟨hI.t0, hI.t1, hI.t2, hI.t3, hI.t4, hI.t5, hI.t6, hI.t7, fun _ => rfl, hI.t9, hI.t10, hI.t11, hI.t12, hI.t13, hI.t14, hI.t15, hI.t16, hI.t17, hI.aA, hI.aY, hI.bl⟩⟩
                · rintro L a wx ⟨v58, v59, v60, v61, v62, v63, v64, v65, v66, v67, v68, v69, v70, v71, v72, v73, v74, v75, rfl, hI⟩ hL hdep hcl K hK
                  obtain rfl := hI.t8 (hdep 8 (by decide))
                  obtain rfl := hI.t7 (hdep 7 (by decide))
                  refine (if_pos rfl).mpr ?_
                  go_simp
                  exact hK _ _ ⟨v58, v59, v60, v61, v62, v63, v64, _, _, _, v68, v69, v70, v71, v72, v73, v74, v75, rfl, ⟨hI.t0, hI.t1, hI.t2, hI.t3, hI.t4, hI.t5, hI.t6, hI.t7, hI.t8, fun _ => rfl, hI.t10, hI.t11, hI.t12, hI.t13, hI.t14, hI.t15, hI.t16, hI.t17, hI.aA, hI.aY, hI.bl⟩⟩
                · rintro L a wx ⟨v58, v59, v60, v61, v62, v63, v64, v65, v66, v67, v68, v69, v70, v71, v72, v73, v74, v75, rfl, hI⟩ hL hdep hcl K hK
                  obtain rfl := hI.t9 (hdep 9 (by decide))
                  obtain rfl := hI.t7 (hdep 7 (by decide))
                  refine (if_pos rfl).mpr ?_
                  go_simp
                  exact hK _ _ ⟨v58, v59, v60, v61, v62, v63, v64, _, v66, _, _, v69, v70, v71, v72, v73, v74, v75, rfl, ⟨hI.t0, hI.t1, hI.t2, hI.t3, hI.t4, hI.t5, hI.t6, hI.t7, hI.t8, hI.t9, fun _ => rfl, hI.t11, hI.t12, hI.t13, hI.t14, hI.t15, hI.t16, hI.t17, hI.aA, hI.aY, hI.bl⟩⟩
                · rintro L a wx ⟨v58, v59, v60, v61, v62, v63, v64, v65, v66, v67, v68, v69, v70, v71, v72, v73, v74, v75, rfl, hI⟩ hL hdep hcl K hK
                  obtain rfl := hI.t10 (hdep 10 (by decide))
                  refine (if_pos rfl).mpr ?_
                  refine wp_load_mid 30 _ rfl BY 0 rfl _ _ (hI.aY.range 0 _ (fun j v h => by rw [Nat.zero_add]; exact h)) Tryd.underlying30 rfl (by kernel_rfl) ?_
                  exact hK _ _ ⟨v58, v59, v60, v61, v62, v63, v64, v65, v66, v67, _, _, v70, v71, v72, v73, v74, v75, rfl, ⟨hI.t0, hI.t1, hI.t2, hI.t3, hI.t4, hI.t5, hI.t6, hI.t7, hI.t8, hI.t9, hI.t10, fun _ => rfl, hI.t12, hI.t13, hI.t14, hI.t15, hI.t16, hI.t17, hI.aA, hI.aY, hI.bl⟩⟩
                · rintro L a wx ⟨v58, v59, v60, v61, v62, v63, v64, v65, v66, v67, v68, v69, v70, v71, v72, v73, v74, v75, rfl, hI⟩ hL hdep hcl K hK
                  obtain rfl := hI.t11 (hdep 11 (by decide))
                  obtain rfl := hI.t10 (hdep 10 (by decide))
                  refine (if_pos rfl).mpr ?_
                  go_simp
                  refine (hth.out _ hI.bl).mono ?_
                  rintro e w' ⟨cs', rfl, hp, hb⟩
                  exact hK _ _ ⟨v58, v59, v60, v61, v62, v63, v64, v65, v66, v67, _, _, _, v71, v72, v73, v74, v75, rfl, ⟨hI.t0, hI.t1, hI.t2, hI.t3, hI.t4, hI.t5, hI.t6, hI.t7, hI.t8, hI.t9, hI.t10, hI.t11, fun _ => ⟨cs', rfl, hp⟩, hI.t13, hI.t14, hI.t15, hI.t16, hI.t17, hI.aA.kept hb, hI.aY.kept hb, hI.bl.trans (hb.mono hI.bl.size)⟩⟩
                · rintro L a wx ⟨v58, v59, v60, v61, v62, v63, v64, v65, v66, v67, v68, v69, v70, v71, v72, v73, v74, v75, rfl, hI⟩ hL hdep hcl K hK
                  obtain rfl := hI.t10 (hdep 10 (by decide))
                  refine (if_pos rfl).mpr ?_
                  refine wp_load_mid 26 _ rfl w.heap.size 0 rfl _ _ (hI.aA.range 0 _ (fun j v h => by rw [Nat.zero_add]; exact h)) Tryd.underlying26 rfl (by kernel_rfl) ?_
                  exact hK _ _ ⟨v58, v59, v60, v61, v62, v63, v64, v65, v66, v67, _, v69, v70, _, v72, v73, v74, v75, rfl, ⟨hI.t0, hI.t1, hI.t2, hI.t3, hI.t4, hI.t5, hI.t6, hI.t7, hI.t8, hI.t9, hI.t10, hI.t11, hI.t12, fun _ => rfl, hI.t14, hI.t15, hI.t16, hI.t17, hI.aA, hI.aY, hI.bl⟩⟩
                · rintro L a wx ⟨v58, v59, v60, v61, v62, v63, v64, v65, v66, v67, v68, v69, v70, v71, v72, v73, v74, v75, rfl, hI⟩ hL hdep hcl K hK
                  obtain rfl := hI.t13 (hdep 13 (by decide))
                  obtain rfl := hI.t10 (hdep 10 (by decide))
                  refine (if_pos rfl).mpr ?_
                  obtain ⟨cs1, rfl, hp1⟩ := hI.t12 (hdep 12 (by decide))
                  go_simp
                  refine (hrs.out _ _ hp1 hI.bl).mono ?_
                  rintro e w' ⟨rfl, hb⟩
                  exact hK _ _ ⟨v58, v59, v60, v61, v62, v63, v64, v65, v66, v67, _, v69, _, _, _, v73, v74, v75, rfl, ⟨hI.t0, hI.t1, hI.t2, hI.t3, hI.t4, hI.t5, hI.t6, hI.t7, hI.t8, hI.t9, hI.t10, hI.t11, fun h => (by obtain ⟨cs, e1, e2⟩ := hI.t12 h; exact ⟨cs, e1, rv_to hb _ _ e2⟩), hI.t13, fun _ => rfl, hI.t15, hI.t16, hI.t17, hI.aA.kept hb, hI.aY.kept hb, hI.bl.trans (hb.mono hI.bl.size)⟩⟩
                · rintro L a wx ⟨v58, v59, v60, v61, v62, v63, v64, v65, v66, v67, v68, v69, v70, v71, v72, v73, v74, v75, rfl, hI⟩ hL hdep hcl K hK
                  obtain rfl := hI.t14 (hdep 14 (by decide))
                  obtain rfl := hI.t10 (hdep 10 (by decide))
                  refine (if_pos rfl).mpr ?_
                  go_simp
                  exact hK _ _ ⟨v58, v59, v60, v61, v62, v63, v64, v65, v66, v67, _, v69, v70, v71, _, _, v74, v75, rfl, ⟨hI.t0, hI.t1, hI.t2, hI.t3, hI.t4, hI.t5, hI.t6, hI.t7, hI.t8, hI.t9, hI.t10, hI.t11, hI.t12, hI.t13, hI.t14, fun _ => rfl, hI.t16, hI.t17, hI.aA, hI.aY, hI.bl⟩⟩
                · rintro L a wx ⟨v58, v59, v60, v61, v62, v63, v64, v65, v66, v67, v68, v69, v70, v71, v72, v73, v74, v75, rfl, hI⟩ hL hdep hcl K hK
                  obtain rfl := hI.t10 (hdep 10 (by decide))
                  obtain rfl := hI.t15 (hdep 15 (by decide))
                  obtain rfl := hI.t7 (hdep 7 (by decide))
                  refine (if_pos rfl).mpr ?_
                  go_simp
                  exact hK _ _ ⟨v58, v59, v60, v61, v62, v63, v64, _, v66, v67, _, v69, v70, v71, v72, _, _, v75, rfl, ⟨hI.t0, hI.t1, hI.t2, hI.t3, hI.t4, hI.t5, hI.t6, hI.t7, hI.t8, hI.t9, hI.t10, hI.t11, hI.t12, hI.t13, hI.t14, hI.t15, fun _ => rfl, hI.t17, hI.aA, hI.aY, hI.bl⟩⟩
                · rintro L a wx ⟨v58, v59, v60, v61, v62, v63, v64, v65, v66, v67, v68, v69, v70, v71, v72, v73, v74, v75, rfl, hI⟩ hL hdep hcl K hK
                  obtain rfl := hI.t7 (hdep 7 (by decide))
                  obtain rfl := hI.t16 (hdep 16 (by decide))
                  go_simp
                  exact hK _ _ ⟨v58, v59, v60, v61, v62, v63, v64, _, v66, v67, v68, v69, v70, v71, v72, v73, _, _, rfl, ⟨hI.t0, hI.t1, hI.t2, hI.t3, hI.t4, hI.t5, hI.t6, hI.t7, hI.t8, hI.t9, hI.t10, hI.t11, hI.t12, hI.t13, hI.t14, hI.t15, hI.t16, fun _ => rfl, hI.aA, hI.aY, hI.bl⟩⟩
                · rintro a wx ⟨v58, v59, v60, v61, v62, v63, v64, v65, v66, v67, v68, v69, v70, v71, v72, v73, v74, v75, rfl, hI⟩
                  obtain rfl := hI.t17 rfl
                  have hbl := hI.bl
                  clear hI
                  go_wp2
                  go_meet
                  exact ⟨rfl, HBX5.out.trans (hbl.mono HBX5.out.size)⟩
              · have hLE : Hid (decide ((fn : Int) + 2 * (m : Int) ≤ 1048576) = false) := decide_eq_false (by omega)
                clear hsmall hsz
                refine wp_region_steps [[], [0], [], [2], [3], [1, 4], [5], [6], [7], [8, 7], [9, 7], [10], [11, 10], [10], [12, 13, 10], [14, 10], [10, 15, 7], [7, 16]] (by kernel_rfl) (by kernel_rfl) (fun L a wx => ∃ v58 v59 v60 v61 v62 v63 v64 v65 v66 v67 v68 v69 v70 v71 v72 v73 v74 v75, a = ⟨#[.agg #[.int .i64 xk, .string xs, .int .u64 xn, .slice xa xl xc, .slice xb xm xd], .slice a0 n0 c0, .int .u16 at0, .pointer (some ⟨w.heap.size, 0, none⟩), undef, undef, .bool false, .slice fa fn fc, .int .i64 0, .slice ga m gc, .int .i64 (m : Int), .pointer (some ⟨BY, 0, none⟩), .int .i64 (R.2 : Int), undef, undef, undef, undef, undef, u18, u19, u20, u21, u22, u23, u24, u25, u26, u27, u28, u29, u30, u31, u32, u33, u34, u35, u36, u37, u38, u39, u40, u41, u42, u43, u44, u45, u46, u47, u48, u49, u50, u51, u52, u53, u54, u55, u56, u57, v58, v59, v60, v61, v62, v63, v64, v65, v66, v67, v68, v69, v70, v71, v72, v73, v74, v75, u76, u77, u78, u79, u80, u81, u82, u83, u84, u85, u86, u87, u88, u89, u90, u91, u92, u93, u94, u95, u96, u97, u98, u99, u100, u101, u102, u103, u104, u105, u106, u107, u108, u109], []⟩ ∧ InvBl11b w w5 BY pk ps pn pa pl pc pb pm pd yk ys yn ya yl yc yb ym yd fa ga fn m fc gc va R.2 L v58 v59 v60 v61 v62 v63 v64 v65 v66 v67 v68 v69 v70 v71 v72 v73 v74 v75 wx) ?_ ⟨?_, ?_, ?_, ?_, ?_, ?_, ?_, ?_, ?_, ?_, ?_, ?_, ?_, ?_, ?_, ?_, ?_, ?_, trivial⟩ ?_
                · refine ⟨_, _, _, _, _, _, _, _, _, _, _, _, _, _, _, _, _, _, rfl, ⟨?_, ?_, ?_, ?_, ?_, ?_, ?_, ?_, ?_, ?_, ?_, ?_, ?_, ?_, ?_, ?_, ?_, ?_, hA5.drew, hY.drew, (Below.refl _ _).drew⟩⟩ <;> (intro h; exact absurd h (by decide))
                · rintro L a wx ⟨v58, v59, v60, v61, v62, v63, v64, v65, v66, v67, v68, v69, v70, v71, v72, v73, v74, v75, rfl, hI⟩ hL hdep hcl K hK
                  go_simp
                  exact hK _ _ ⟨_, v59, v60, v61, v62, v63, v64, v65, v66, v67, v68, v69, v70, v71, v72, v73, v74, v75, rfl, ⟨fun _ => rfl, hI.t1, hI.t2, hI.t3, hI.t4, hI.t5, hI.t6, hI.t7, hI.t8, hI.t9, hI.t10, hI.t11, hI.t12, hI.t13, hI.t14, hI.t15, hI.t16, hI.t17, hI.aA, hI.aY, hI.bl⟩⟩
                · rintro L a wx ⟨v58, v59, v60, v61, v62, v63, v64, v65, v66, v67, v68, v69, v70, v71, v72, v73, v74, v75, rfl, hI⟩ hL hdep hcl K hK
                  obtain rfl := hI.t0 (hdep 0 (by decide))
                  go_simp
                  exact hK _ _ ⟨_, _, v60, v61, v62, v63, v64, v65, v66, v67, v68, v69, v70, v71, v72, v73, v74, v75, rfl, ⟨hI.t0, fun _ => rfl, hI.t2, hI.t3, hI.t4, hI.t5, hI.t6, hI.t7, hI.t8, hI.t9, hI.t10, hI.t11, hI.t12, hI.t13, hI.t14, hI.t15, hI.t16, hI.t17, hI.aA, hI.aY, hI.bl⟩⟩
                · rintro L a wx ⟨v58, v59, v60, v61, v62, v63, v64, v65, v66, v67, v68, v69, v70, v71, v72, v73, v74, v75, rfl, hI⟩ hL hdep hcl K hK
                  go_simp
                  exact hK _ _ ⟨v58, v59, _, v61, v62, v63, v64, v65, v66, v67, v68, v69, v70, v71, v72, v73, v74, v75, rfl, ⟨hI.t0, hI.t1, fun _ => rfl, hI.t3, hI.t4, hI.t5, hI.t6, hI.t7, hI.t8, hI.t9, hI.t10, hI.t11, hI.t12, hI.t13, hI.t14, hI.t15, hI.t16, hI.t17, hI.aA, hI.aY, hI.bl⟩⟩
                · rintro L a wx ⟨v58, v59, v60, v61, v62, v63, v64, v65, v66, v67, v68, v69, v70, v71, v72, v73, v74, v75, rfl, hI⟩ hL hdep hcl K hK
                  obtain rfl := hI.t2 (hdep 2 (by decide))
                  go_simp
                  exact hK _ _ ⟨v58, v59, _, _, v62, v63, v64, v65, v66, v67, v68, v69, v70, v71, v72, v73, v74, v75, rfl, ⟨hI.t0, hI.t1, hI.t2, fun _ => rfl, hI.t4, hI.t5, hI.t6, hI.t7, hI.t8, hI.t9, hI.t10, hI.t11, hI.t12, hI.t13, hI.t14, hI.t15, hI.t16, hI.t17, hI.aA, hI.aY, hI.bl⟩⟩
                · rintro L a wx ⟨v58, v59, v60, v61, v62, v63, v64, v65, v66, v67, v68, v69, v70, v71, v72, v73, v74, v75, rfl, hI⟩ hL hdep hcl K hK
                  obtain rfl := hI.t3 (hdep 3 (by decide))
                  have hw1 := hWR1.out
                  go_simp
                  exact hK _ _ ⟨v58, v59, v60, _, _, v63, v64, v65, v66, v67, v68, v69, v70, v71, v72, v73, v74, v75, rfl, ⟨hI.t0, hI.t1, hI.t2, hI.t3, fun _ => rfl, hI.t5, hI.t6, hI.t7, hI.t8, hI.t9, hI.t10, hI.t11, hI.t12, hI.t13, hI.t14, hI.t15, hI.t16, hI.t17, hI.aA, hI.aY, hI.bl⟩⟩
                · rintro L a wx ⟨v58, v59, v60, v61, v62, v63, v64, v65, v66, v67, v68, v69, v70, v71, v72, v73, v74, v75, rfl, hI⟩ hL hdep hcl K hK
                  obtain rfl := hI.t1 (hdep 1 (by decide))
                  obtain rfl := hI.t4 (hdep 4 (by decide))
                  have hw1 := hWR2.out
                  go_simp
                  exact hK _ _ ⟨v58, _, v60, v61, _, _, v64, v65, v66, v67, v68, v69, v70, v71, v72, v73, v74, v75, rfl, ⟨hI.t0, hI.t1, hI.t2, hI.t3, hI.t4, fun _ => rfl, hI.t6, hI.t7, hI.t8, hI.t9, hI.t10, hI.t11, hI.t12, hI.t13, hI.t14, hI.t15, hI.t16, hI.t17, hI.aA, hI.aY, hI.bl⟩⟩
                · rintro L a wx ⟨v58, v59, v60, v61, v62, v63, v64, v65, v66, v67, v68, v69, v70, v71, v72, v73, v74, v75, rfl, hI⟩ hL hdep hcl K hK
                  obtain rfl := hI.t5 (hdep 5 (by decide))
                  have hn1 := hLE.out
                  go_simp
                  exact hK _ _ ⟨v58, v59, v60, v61, v62, _, _, v65, v66, v67, v68, v69, v70, v71, v72, v73, v74, v75, rfl, ⟨hI.t0, hI.t1, hI.t2, hI.t3, hI.t4, hI.t5, fun _ => rfl, hI.t7, hI.t8, hI.t9, hI.t10, hI.t11, hI.t12, hI.t13, hI.t14, hI.t15, hI.t16, hI.t17, hI.aA, hI.aY, hI.bl⟩⟩
                · rintro L a wx ⟨v58, v59, v60, v61, v62, v63, v64, v65, v66, v67, v68, v69, v70, v71, v72, v73, v74, v75, rfl, hI⟩ hL hdep hcl K hK
                  obtain rfl := hI.t6 (hdep 6 (by decide))
                  go_simp
                  exact hK _ _ ⟨v58, v59, v60, v61, v62, v63, _, _, v66, v67, v68, v69, v70, v71, v72, v73, v74, v75, rfl, ⟨hI.t0, hI.t1, hI.t2, hI.t3, hI.t4, hI.t5, hI.t6, fun _ => rfl, hI.t8, hI.t9, hI.t10, hI.t11, hI.t12, hI.t13, hI.t14, hI.t15, hI.t16, hI.t17, hI.aA, hI.aY, hI.bl⟩⟩
                · rintro L a wx ⟨v58, v59, v60, v61, v62, v63, v64, v65, v66, v67, v68, v69, v70, v71, v72, v73, v74, v75, rfl, hI⟩ hL hdep hcl K hK
                  obtain rfl := hI.t7 (hdep 7 (by decide))
                  refine (if_neg (by exact fun h => Bool.noConfusion (show false = true from h))).mpr ?_
                  exact hK _ _ ⟨v58, v59, v60, v61, v62, v63, v64, _, _, v67, v68, v69, v70, v71, v72, v73, v74, v75, rfl, ⟨hI.t0, hI.t1, hI.t2, hI.t3, hI.t4, hI.t5, hI.t6, hI.t7, fun _ => rfl, hI.t9, hI.t10, hI.t11, hI.t12, hI.t13, hI.t14, hI.t15, hI.t16, hI.t17, hI.aA, hI.aY, hI.bl⟩⟩
                · rintro L a wx ⟨v58, v59, v60, v61, v62, v63, v64, v65, v66, v67, v68, v69, v70, v71, v72, v73, v74, v75, rfl, hI⟩ hL hdep hcl K hK
                  obtain rfl := hI.t8 (hdep 8 (by decide))
                  obtain rfl := hI.t7 (hdep 7 (by decide))
                  refine (if_neg (by exact fun h => Bool.noConfusion (show false = true from h))).mpr ?_
                  exact hK _ _ ⟨v58, v59, v60, v61, v62, v63, v64, _, _, _, v68, v69, v70, v71, v72, v73, v74, v75, rfl, ⟨hI.t0, hI.t1, hI.t2, hI.t3, hI.t4, hI.t5, hI.t6, hI.t7, hI.t8, fun _ => rfl, hI.t10, hI.t11, hI.t12, hI.t13, hI.t14, hI.t15, hI.t16, hI.t17, hI.aA, hI.aY, hI.bl⟩⟩
                · rintro L a wx ⟨v58, v59, v60, v61, v62, v63, v64, v65, v66, v67, v68, v69, v70, v71, v72, v73, v74, v75, rfl, hI⟩ hL hdep hcl K hK
                  obtain rfl := hI.t9 (hdep 9 (by decide))
                  obtain rfl := hI.t7 (hdep 7 (by decide))
                  refine (if_neg (by exact fun h => Bool.noConfusion (show false = true from h))).mpr ?_
                  exact hK _ _ ⟨v58, v59, v60, v61, v62, v63, v64, _, v66, _, _, v69, v70, v71, v72, v73, v74, v75, rfl, ⟨hI.t0, hI.t1, hI.t2, hI.t3, hI.t4, hI.t5, hI.t6, hI.t7, hI.t8, hI.t9, fun _ => rfl, hI.t11, hI.t12, hI.t13, hI.t14, hI.t15, hI.t16, hI.t17, hI.aA, hI.aY, hI.bl⟩⟩
                · rintro L a wx ⟨v58, v59, v60, v61, v62, v63, v64, v65, v66, v67, v68, v69, v70, v71, v72, v73, v74, v75, rfl, hI⟩ hL hdep hcl K hK
                  obtain rfl := hI.t10 (hdep 10 (by decide))
                  refine (if_neg (by exact fun h => Bool.noConfusion (show false = true from h))).mpr ?_
                  exact hK _ _ ⟨v58, v59, v60, v61, v62, v63, v64, v65, v66, v67, _, _, v70, v71, v72, v73, v74, v75, rfl, ⟨hI.t0, hI.t1, hI.t2, hI.t3, hI.t4, hI.t5, hI.t6, hI.t7, hI.t8, hI.t9, hI.t10, fun _ => rfl, hI.t12, hI.t13, hI.t14, hI.t15, hI.t16, hI.t17, hI.aA, hI.aY, hI.bl⟩⟩
                · rintro L a wx ⟨v58, v59, v60, v61, v62, v63, v64, v65, v66, v67, v68, v69, v70, v71, v72, v73, v74, v75, rfl, hI⟩ hL hdep hcl K hK
                  obtain rfl := hI.t11 (hdep 11 (by decide))
                  obtain rfl := hI.t10 (hdep 10 (by decide))
                  refine (if_neg (by exact fun h => Bool.noConfusion (show false = true from h))).mpr ?_
                  exact hK _ _ ⟨v58, v59, v60, v61, v62, v63, v64, v65, v66, v67, _, _, _, v71, v72, v73, v74, v75, rfl, ⟨hI.t0, hI.t1, hI.t2, hI.t3, hI.t4, hI.t5, hI.t6, hI.t7, hI.t8, hI.t9, hI.t10, hI.t11, fun _ => rfl, hI.t13, hI.t14, hI.t15, hI.t16, hI.t17, hI.aA, hI.aY, hI.bl⟩⟩
                · rintro L a wx ⟨v58, v59, v60, v61, v62, v63, v64, v65, v66, v67, v68, v69, v70, v71, v72, v73, v74, v75, rfl, hI⟩ hL hdep hcl K hK
                  obtain rfl := hI.t10 (hdep 10 (by decide))
                  refine (if_neg (by exact fun h => Bool.noConfusion (show false = true from h))).mpr ?_
                  exact hK _ _ ⟨v58, v59, v60, v61, v62, v63, v64, v65, v66, v67, _, v69, v70, _, v72, v73, v74, v75, rfl, ⟨hI.t0, hI.t1, hI.t2, hI.t3, hI.t4, hI.t5, hI.t6, hI.t7, hI.t8, hI.t9, hI.t10, hI.t11, hI.t12, fun _ => rfl, hI.t14, hI.t15, hI.t16, hI.t17, hI.aA, hI.aY, hI.bl⟩⟩
                · rintro L a wx ⟨v58, v59, v60, v61, v62, v63, v64, v65, v66, v67, v68, v69, v70, v71, v72, v73, v74, v75, rfl, hI⟩ hL hdep hcl K hK
                  obtain rfl := hI.t12 (hdep 12 (by decide))
                  obtain rfl := hI.t13 (hdep 13 (by decide))
                  obtain rfl := hI.t10 (hdep 10 (by decide))
                  refine (if_neg (by exact fun h => Bool.noConfusion (show false = true from h))).mpr ?_
                  exact hK _ _ ⟨v58, v59, v60, v61, v62, v63, v64, v65, v66, v67, _, v69, _, _, _, v73, v74, v75, rfl, ⟨hI.t0, hI.t1, hI.t2, hI.t3, hI.t4, hI.t5, hI.t6, hI.t7, hI.t8, hI.t9, hI.t10, hI.t11, hI.t12, hI.t13, fun _ => rfl, hI.t15, hI.t16, hI.t17, hI.aA, hI.aY, hI.bl⟩⟩
                · rintro L a wx ⟨v58, v59, v60, v61, v62, v63, v64, v65, v66, v67, v68, v69, v70, v71, v72, v73, v74, v75, rfl, hI⟩ hL hdep hcl K hK
                  obtain rfl := hI.t14 (hdep 14 (by decide))
                  obtain rfl := hI.t10 (hdep 10 (by decide))
                  refine (if_neg (by exact fun h => Bool.noConfusion (show false = true from h))).mpr ?_
                  exact hK _ _ ⟨v58, v59, v60, v61, v62, v63, v64, v65, v66, v67, _, v69, v70, v71, _, _, v74, v75, rfl, ⟨hI.t0, hI.t1, hI.t2, hI.t3, hI.t4, hI.t5, hI.t6, hI.t7, hI.t8, hI.t9, hI.t10, hI.t11, hI.t12, hI.t13, hI.t14, fun _ => rfl, hI.t16, hI.t17, hI.aA, hI.aY, hI.bl⟩⟩
                · rintro L a wx ⟨v58, v59, v60, v61, v62, v63, v64, v65, v66, v67, v68, v69, v70, v71, v72, v73, v74, v75, rfl, hI⟩ hL hdep hcl K hK
                  obtain rfl := hI.t10 (hdep 10 (by decide))
                  obtain rfl := hI.t15 (hdep 15 (by decide))
                  obtain rfl := hI.t7 (hdep 7 (by decide))
                  refine (if_neg (by exact fun h => Bool.noConfusion (show false = true from h))).mpr ?_
                  exact hK _ _ ⟨v58, v59, v60, v61, v62, v63, v64, _, v66, v67, _, v69, v70, v71, v72, _, _, v75, rfl, ⟨hI.t0, hI.t1, hI.t2, hI.t3, hI.t4, hI.t5, hI.t6, hI.t7, hI.t8, hI.t9, hI.t10, hI.t11, hI.t12, hI.t13, hI.t14, hI.t15, fun _ => rfl, hI.t17, hI.aA, hI.aY, hI.bl⟩⟩
                · rintro L a wx ⟨v58, v59, v60, v61, v62, v63, v64, v65, v66, v67, v68, v69, v70, v71, v72, v73, v74, v75, rfl, hI⟩ hL hdep hcl K hK
                  obtain rfl := hI.t7 (hdep 7 (by decide))
                  obtain rfl := hI.t16 (hdep 16 (by decide))
                  go_simp
                  exact hK _ _ ⟨v58, v59, v60, v61, v62, v63, v64, _, v66, v67, v68, v69, v70, v71, v72, v73, _, _, rfl, ⟨hI.t0, hI.t1, hI.t2, hI.t3, hI.t4, hI.t5, hI.t6, hI.t7, hI.t8, hI.t9, hI.t10, hI.t11, hI.t12, hI.t13, hI.t14, hI.t15, hI.t16, fun _ => rfl, hI.aA, hI.aY, hI.bl⟩⟩
                · rintro a wx ⟨v58, v59, v60, v61, v62, v63, v64, v65, v66, v67, v68, v69, v70, v71, v72, v73, v74, v75, rfl, hI⟩
                  obtain rfl := hI.t17 rfl
                  have hbl := hI.bl
                  clear hI
                  go_wp2
                  go_meet
                  exact ⟨rfl, HBX5.out.trans (hbl.mono HBX5.out.size)⟩
            case rest =>
              obtain ⟨rfl, hb36⟩ := hcut
              clear hY hA5 HBX5 HP5 HB5 HB15 hsmall
              rename World => w6
              have HB36 := Lib.hid hb36
              clear hb36
              go_upto_region 13 with fail
              go_cut [78] from 18 (fun c wx => wx = w6 ∧ c = .bool (decide (fn < 1048576)))
              case first =>
                by_cases hf : fn < 1048576
                · have i1 : (fn : Int) < 1048576 := by omega
                  have e := Lib.hid (decide_eq_true hf)
                  clear hf
                  go_wp2_with fail
                  go_meet
                  exact ⟨rfl, by rw [e.out]⟩
                · have i1 : decide ((fn : Int) < 1048576) = false := decide_eq_false (by omega)
                  have e := Lib.hid (decide_eq_false hf)
                  clear hf
                  go_wp2_with fail
                  go_meet
                  exact ⟨rfl, by rw [e.out]⟩
              case rest =>
              obtain ⟨hwc, rfl⟩ := hcut
              obtain rfl := hwc.symm
              clear hwc
              obtain ⟨D, hD⟩ : ∃ D, D = decide (fn < 1048576) := ⟨_, rfl⟩
              rw [← hD]
              have HD := Lib.hid hD
              clear hD
              go_upto_if 78 with fail
              go_cut [] from 18 (fun wx => Below w3.heap.size w3 wx)
              case first =>
                cases D with
                | true =>
                  have hf : fn < 1048576 := of_decide_eq_true HD.out.symm
                  have hRA : Hid (Rd w6 fa fn fc B) := hO3.out.rd.toRd.to HB36.out
                  have hPC : Hid (∀ W a n c, Rd W a n c (([] ++ B) ++ [44]) → c ≤ 9223372036854775807 → Below w.heap.size w W → Calls Tryd.prog 20 #[.slice a n c] W fun e w' => ∃ cs, e = .returned (.tuple #[.agg (List.toArray cs), .int .i64 5]) ∧ PV w' JV.zero cs ∧ Below W.heap.size W w') := fun W a n c h hc hW => by
                    have hp : parseE (([] ++ B) ++ [44]) = (JV.zero, 5) := by
                      unfold parseE
                      rw [if_neg (by simp only [List.length_append, List.length_nil, List.length_singleton]; rw [← HFN.out]; omega), HTB.out, List.nil_append, parse_comma va HM.out HWF.out]
                    have := Parse_any a n c _ W h hc (HT.out.to hW)
                    rw [hp] at this
                    exact this.mono fun e w' ⟨cs, h1, h2, h3⟩ => ⟨cs, h1, sv_pv _ _ h2, h3⟩
                  obtain ⟨X, hX⟩ : ∃ X, X = [] ++ B ++ [44] := ⟨_, rfl⟩
                  have HXX2 : Hid ([] ++ B ++ [44] = X) := hX.symm
                  rw [← hX] at hPC
                  clear hX
                  clear hf
                  have HB6 : Hid (Below w.heap.size w w6) := HB3.out.trans (HB36.out.mono HB3.out.size)
                  go_wp2_with (first
                    | (at_builtin; refine wl_append bt rfl (.const (.slice none 0 0)) (.tmp 80) rfl w6.heap.size _ [] (Own.nil _ _ _) rfl fa fn fc B rfl hRA.out (by have := HFL.out; simp only [List.length_nil]; omega) (Nat.le_refl _) ?_; intro v1 w7a ho7a hb7a)
                    | (at_builtin; refine wl_append bt rfl (.tmp 81) (.tmp 82) rfl w6.heap.size _ _ (ho7a.to ((Below.refl _ _).alloc (Nat.le_refl _) _)) rfl _ 1 1 [44] rfl (rd_lit _ [44] _ _) (by have := HFL.out; simp only [List.length_append, List.length_nil]; rw [← HFN.out]; omega) (by have := hb7a.size; simp; omega) ?_; intro v2 w7 ho7 hb7; rw [HXX2.out] at ho7; obtain ⟨a7, c7, rfl, -⟩ := ho7.shape; have HB7 : Hid (Below w6.heap.size w6 w7) := (hb7a.alloc hb7a.size _).trans hb7)
                    | (go_at_call 20; go_loud (refine (hPC.out _ _ _ _ ho7.rd.toRd ho7.cap (HB6.out.trans (HB7.out.mono HB6.out.size))).mono ?_); rintro e w8' ⟨cs8, rfl, hp8, hb8⟩; obtain ⟨qk, qs, qn, qa, ql, qc, qb, qm, qd, rfl⟩ := pv_shape hp8; have hQ0 := Arr.new w8' 30 zC)
                    | ((with_reducible show wpList _ _ _ (⟨none, _, _, _, _, _⟩ :: _) _ _); go_loud (refine wl_store rfl 30 _ _ rfl w8'.heap.size 0 rfl [.int .i64 qk, .string qs, .int .u64 qn, .slice qa ql qc, .slice qb qm qd] rfl 30 zC hQ0 (by kernel_rfl) (by simp [zC]) (by simp [Value.oneCell']) ?_); intro w8 hQ hg8 hs8))
                  go_meet
                  have h78 : Below w7.heap.size w7 w8 := (hb8.alloc hb8.size _).grown hg8 (by have := hb8.size; simp; omega) (by intro q hq; cases hq; exact hb8.size)
                  have h37 : Below w3.heap.size w3 w7 := HB36.out.trans (HB7.out.mono HB36.out.size)
                  exact h37.trans (h78.mono h37.size)
                | false =>
                  go_wp2_with fail
                  go_meet
                  exact HB36.out
              case rest =>
                rename World => w7
                have HB37 := Lib.hid hcut
                have HB7 : Hid (Below w.heap.size w w7) := HB3.out.trans (HB37.out.mono HB3.out.size)
                have hA7 := HA3.out.kept hcut
                have c0 := (hA7.cell 0).trans (show _ = some (Value.int .i64 pk) from rfl)
                clear hcut
                have hwk7 : Hid (∀ W, Below w7.heap.size w7 W → Calls Tryd.prog 19 #[] W fun e w' => e = .returned (.bool true) ∧ Below W.heap.size W w') := fun W hW => hwk.out W (HB7.out.trans (hW.mono HB7.out.size))
                by_cases hk3 : pk = 3
                · go_wp2_with (go_at_call 19; go_loud (refine (hwk7.out _ (Below.refl _ _)).mono ?_); rintro e w8 ⟨rfl, hb8⟩)
                  go_ret
                  exact ⟨rfl, HB7.out.trans (hb8.mono HB7.out.size)⟩
                · obtain ⟨t, ht, ht2⟩ : ∃ t : Nat, at0 = (t : Int) ∧ t ≤ 65535 := ⟨at0.toNat, by have := HAT.out; omega, by have := HAT.out; omega⟩
                  subst ht
                  have hcv : Hid (IntKind.i64.wrap (t : Int) = (t : Int)) := by show _ = _; rw [IntKind.wrap_i64]; omega
                  have hrm : Hid ((t : Int).tmod (fn : Int) = ((t % fn : Nat) : Int)) := by show _ = _; rfl
                  have hkl : t % fn < fn := Nat.mod_lt _ HPOS.out
                  have hfc : Hid (fn ≤ fc) := hO3.out.rd.le
                  have hPK : Hid (∀ W, Rd W fa (t % fn) fc (B.take (t % fn)) → Below w.heap.size w W → Calls Tryd.prog 20 #[.slice fa ((t % fn : Nat)) fc] W fun e w' => ∃ cs, e = .returned (.tuple #[.agg (List.toArray cs), .int .i64 5]) ∧ PV w' JV.zero cs ∧ Below W.heap.size W w') := fun W h hW => by
                    have hp : parseE (B.take (t % fn)) = (JV.zero, 5) := by
                      unfold parseE
                      rw [if_neg (by rw [List.length_take]; have := HFL.out; omega), HTB.out, parse_cut va HM.out HWF.out (by rw [← HKD.out]; exact hk3) (t % fn) (by rw [← HTB.out, ← HFN.out]; exact hkl)]
                    have := Parse_any fa (t % fn) fc _ W h hO3.out.cap (HT.out.to hW)
                    rw [hp] at this
                    exact this.mono fun e w' ⟨cs, h1, h2, h3⟩ => ⟨cs, h1, sv_pv _ _ h2, h3⟩
                  have hRK : Hid (Rd w7 fa (t % fn) fc (B.take (t % fn))) := (hO3.out.rd.toRd.to HB37.out).take _ (by omega)
                  generalize t % fn = kk at *
                  have hn0' : ¬ (fn : Int) = 0 := by have := HPOS.out; omega
                  have hkc : kk ≤ fc := by have := hfc.out; omega
                  have hcv2 := hcv.out
                  have hrm2 := hrm.out
                  go_upto_region 21 with (first
                    | (go_at_call 20; go_loud (refine (hPK.out _ hRK.out HB7.out).mono ?_); rintro e w8' ⟨cs8, rfl, hp8, hb8⟩; obtain ⟨qk, qs, qn, qa, ql, qc, qb, qm, qd, rfl⟩ := pv_shape hp8; have hQ0 := Arr.new w8' 30 zC)
                    | ((with_reducible show wpList _ _ _ (⟨none, _, _, _, _, _⟩ :: _) _ _); go_loud (refine wl_store rfl 30 _ _ rfl w8'.heap.size 0 rfl [.int .i64 qk, .string qs, .int .u64 qn, .slice qa ql qc, .slice qb qm qd] rfl 30 zC hQ0 (by kernel_rfl) (by simp [zC]) (by simp [Value.oneCell']) ?_); intro w8 hQ hg8 hs8))
                  have h78 : Hid (Below w7.heap.size w7 w8) := (hb8.alloc hb8.size _).grown hg8 (by have := hb8.size; simp; omega) (by intro q hq; cases hq; exact hb8.size)
                  clear hQ hQ0 hg8 hs8 hp8 hb8
                  go_wp2_with (go_at_call 19; go_loud (refine (hwk7.out _ h78.out).mono ?_); rintro e w9 ⟨rfl, hb9⟩)
                  go_ret
                  have h79 := h78.out.trans (hb9.mono h78.out.size)
                  exact ⟨rfl, HB7.out.trans (h79.mono HB7.out.size)⟩
end Go.Proofs.YtiadfijeglbdlaaDoor

namespace Go.Proofs.YtiadfijeglbdlaaDoor
open Go.ChangeShapes Go.WideShapes Go.ChangeAt Go.RowKit
set_option maxRecDepth 100000

theorem jsonBlanks_contract (H : Type) (enc : TypeId × Value → H) (W : World) (base : Nat) (args : Array Value) (ds gs : List (DataW H)) (before : List MemPlace)
    (hval : ∀ (j : Nat) t v, Tryd.f7.params[j]? = some t → args[j]? = some v → Value.okWide Tryd.prog W .any base t v)
    (hW : DataW.Whole enc Tryd.prog Tryd.f7.params.toList Rows.jsonBlanksSpec.vars false W args.toList ds gs before) (hZ : (DataW.weightsEach Tryd.prog (Tryd.f7.params.toList ++ (OpenSpec.ofChange Rows.jsonBlanksSpec).bare.plain.varTypes Tryd.prog) (ds ++ gs)).all (· ≤ reachBytes) = true) (hT : Tabs W) :
    Calls Tryd.prog 7 args W fun e W' => ∃ v, e = .returned v ∧ Rows.jsonBlanksSpec.post enc Tryd.prog Tryd.f7 false true false false W args v W' := by
  have hW' := hW
  obtain ⟨p, q, hA0, hV, rfl, _, _⟩ := hW
  have hA : DataW.TrodAll enc Tryd.prog W 0 (fun _ => true) true Tryd.f7.params.toList args.toList ds p := hA0
  have hval' := hval
  rw [Tryd.params7] at hA hval'
  obtain ⟨v0, vs0, d0, ds0, p0, q0, hargs, rfl, rfl, h0, r0⟩ := trodAll_cons hA
  obtain ⟨v1, vs1, d1, ds1, p1, q1, rfl, rfl, rfl, h1, r1⟩ := trodAll_cons r0
  obtain ⟨v2, vs2, d2, ds2, p2, q2, rfl, rfl, rfl, h2, r2⟩ := trodAll_cons r1
  obtain ⟨rfl, rfl, rfl⟩ := trodAll_nil r2
  obtain rfl : args = #[v0, v1, v2] := by cases args; simp_all
  obtain ⟨rfl, rfl⟩ := trodVars_none hV
  have wk0 := wok_top hZ (j := 0) (t := 26) (d := d0) rfl rfl
  obtain ⟨c0, x0, rfl, hx0, hs0, hf0⟩ := value_of_trod_w (hval' 0 26 v0 rfl rfl) h0 wk0
  obtain ⟨a1, n1, c1, xs, rfl, hr1, hb1, hc1⟩ := rd_of_trod_c bt cells1 (hval' 1 32 v1 rfl rfl) h1 (fun _ => rfl)
  obtain ⟨t2, rfl, rfl, rfl, wt2⟩ := open_int Tryd.underlying55 (hval' 2 55 v2 rfl rfl) h2
  have ht2 : 0 ≤ t2 ∧ t2 ≤ 65535 := by simpa [Lit.wf, IntKind.min, IntKind.max, IntKind.signed, IntKind.bits] using wt2
  refine (JsonBlanks_any x0 c0 a1 n1 c1 xs t2 W hx0 hs0 hf0 hr1 ht2 hT).mono fun e W' ⟨he, hw⟩ => ?_
  subst he
  exact ⟨_, rfl, law_post laidOuts (by kernel_rfl) rfl Tryd.underlying4 rfl hW' hw rfl⟩

set_option maxRecDepth 100000 in
theorem jsonBlanks_lifted (os : Os) (started : os.Started) (H : Type) (enc : TypeId × Value → H) (F : Stop.Interp) :
    ReturnsInHanded {} Tryd.checked os 7 .any ((OpenSpec.ofChange Rows.jsonBlanksSpec).preRow enc Tryd.prog Tryd.f7 Rows.jsonBlanksRow.domain false Rows.jsonBlanksRow.laid) (((OpenSpec.ofChange Rows.jsonBlanksSpec).at F).post enc Tryd.prog Tryd.f7 false true false false) := by
  refine returnsInHanded_of_row (C := Tryd.checked) (s := OpenSpec.ofChange Rows.jsonBlanksSpec) ownKnobs started (by kernel_rfl) Tryd.func7
    (witness_laid (enc := enc) (os := os) false #[Value.agg #[.int .i64 0, .string ⟨#[]⟩, .int .u64 0, .slice none 0 0, .slice none 0 0], .slice none 0 0, .int .u16 0] (by kernel_rfl)
      (OpenSpec.preRow_of_cond 8 (x := ([.agg [.lit (.int .i64 0), .lit (.string []), .lit (.int .u64 0), .nil, .nil], .nil, .lit (.int .u16 0)], [], [])) (by kernel_rfl) (by kernel_rfl) (fun k hk => by cases hk) (by kernel_rfl) (laid_any os #[Value.agg #[.int .i64 0, .string ⟨#[]⟩, .int .u64 0, .slice none 0 0, .slice none 0 0], .slice none 0 0, .int .u16 0]))) ?_
  intro W base args ds gs before hval hW _ _ hZ hL _ _
  exact jsonBlanks_contract H enc W base args ds gs before hval hW hZ (tabs_of_laid hL)

theorem jsonBlanks_said : Rows.JsonBlanksSaid :=
  OpenClaim.holds_of_cond 7 Tryd.f7 rfl rfl rfl rfl rfl rfl rfl ⟨rfl, rfl, rfl, rfl, rfl⟩ rfl rfl rfl rfl rfl (by kernel_rfl) Tryd.func7 (by kernel_rfl)
    (of_decide_eq_true (by kernel_rfl)) (by unfold Func.isWrapper; first | (rw [if_pos (by decide +kernel)]; kernel_rfl) | (rw [if_neg (by decide +kernel)]; exact ⟨rfl, rfl⟩))
    (fun os started H enc _ F => by rw [OpenClaim.pre_eq_preRow]; exact jsonBlanks_lifted os started H enc F)

theorem jsonBlanks_plain (f : FuncId) (fn : Func) (hf : Tryd.pinned.checked.prog.funcNamed "escritoire/escritoirelaw04.JsonBlanks" = some f) (hfn : Tryd.pinned.checked.prog.funcs[f]? = some fn) :
    true = Tryd.pinned.checked.prog.looks [] ∧ ∀ (j : Nat) t, fn.params[j]? = some t → Tryd.pinned.checked.prog.wantsStandIn t = false := by
  obtain rfl : f = 7 := Option.some.inj ((show Tryd.prog.funcNamed "escritoire/escritoirelaw04.JsonBlanks" = some 7 by kernel_rfl).symm.trans hf) |>.symm
  obtain rfl : fn = Tryd.f7 := (Option.some.inj (Tryd.func7.symm.trans hfn)).symm
  refine ⟨by kernel_rfl, fun j t ht => ?_⟩
  have hm : t ∈ Tryd.f7.params.toList := by simpa using Array.mem_of_getElem? ht
  have hall : (Tryd.f7.params.toList.all fun u => !Tryd.prog.wantsStandIn u) = true := by kernel_rfl
  exact (show Tryd.prog.wantsStandIn t = false by simpa using List.all_eq_true.1 hall t hm)

theorem jsonBlanks_proved : Rows.JsonBlanksCardSaid :=
  Claim7.holds_tied_plain_at .later [] _ _ _ _ jsonBlanks_said (fun _ h => by cases h) (by kernel_rfl) (fun _ h => by cases h) jsonBlanks_row_tie rfl ⟨rfl, rfl⟩ (by kernel_rfl) rfl jsonBlanks_plain (by kernel_rfl)
end Go.Proofs.YtiadfijeglbdlaaDoor
