/-
  Package sha: Write. Conditions: those in each statement.
-/
import Derived.Test.YtlfncgpjgbpdjaaShaG
import Derived.Test.YtlfncgpjgbpdjaaReg
namespace Go.Proofs.Ytlfncgpjgbpdjaa
open Go.RowKit

def slen : Value → Nat
  | .slice _ n _ => n
  | _ => 0
theorem rd_grown {w w' : World} {a : Option Addr} {n cap : Nat} {xs : List UInt8} {r : Option Nat} (h : Rd w a n cap xs) (hb : w.grownBy w' r) (hr : ∀ ad, a = some ad → 0 < cap → some ad.block ≠ r) : Rd w' a n cap xs := by
  refine ⟨h.len, h.le, h.nil, fun hc => ?_⟩
  obtain ⟨b, off, e, h2, h3⟩ := h.mem hc
  exact ⟨b, off, e, Nat.lt_of_lt_of_le h2 hb.size, fun j hj => hb.cell (h3 j hj) (hr ⟨b, off, none⟩ e hc)⟩
theorem grown_trans' {a b c : World} {r : Option Nat} (h : a.grownBy b r) (k : b.grownBy c r) : a.grownBy c r :=
  ⟨k.os.trans h.os, k.tape.trans h.tape, k.output.trans h.output, Nat.le_trans h.size k.size, fun i hi hn => (k.block i (Nat.lt_of_lt_of_le hi h.size) hn).trans (h.block i hi hn)⟩
theorem grown_drew {a w : World} {r : Option Nat} (h : a.grownBy w r) : a.grownBy w.drew r := ⟨h.os, h.tape, h.output, h.size, h.block⟩
theorem grown_below {a w w' : World} {r : Option Nat} (h : a.grownBy w r) (hb : Below w.heap.size w w') : a.grownBy w' r :=
  ⟨hb.os.trans h.os, hb.tape.trans h.tape, hb.output.trans h.output, Nat.le_trans h.size hb.size, fun i hi hn => (hb.block i (Nat.lt_of_lt_of_le hi h.size)).trans (h.block i hi hn)⟩
theorem grown_setCell {a w : World} {g : Nat} (h : a.grownBy w (some g)) (j : Nat) (v : Value) : a.grownBy (w.setCell ⟨g, j, none⟩ v) (some g) :=
  ⟨h.os, h.tape, h.output, by simpa using h.size, fun k hk hne => (heap_setCell_other w ⟨g, j, none⟩ k v (fun e => hne (by rw [e]))).trans (h.block k hk hne)⟩

theorem rd_drew {w : World} {a : Option Addr} {n cap : Nat} {xs : List UInt8} (h : Rd w a n cap xs) : Rd w.drew a n cap xs := ⟨h.len, h.le, h.nil, h.mem⟩
theorem rd_drop {w : World} {b off n cap : Nat} {xs : List UInt8} (h : Rd w (some ⟨b, off, none⟩) n cap xs) (m : Nat) (hm : m ≤ n) (hc : m < cap) : Rd w (some ⟨b, off + m, none⟩) (n - m) (cap - m) (xs.drop m) := by
  have hl := h.len
  obtain ⟨b', off', e, h2, h3⟩ := h.mem (by omega)
  cases e
  refine ⟨by simp; omega, by have := h.le; omega, (by intro e; cases e), fun _ => ⟨b, off + m, rfl, h2, fun j hj => ?_⟩⟩
  have := h3 (m + j) (by omega)
  simp only [Nat.add_assoc] at this ⊢
  rw [this]
  simp [List.getD]
/-- an operation of a still walk: cells of a block loaded by value -/
theorem still_load {P : Program} {o : Oper} {a : Act} {w : World} {K : Act → Prop} (ty : TypeId) (x : Operand) (ho : o.op = .load ty x) (g off : Nat) (hx : a.eval x = .pointer (some ⟨g, off, none⟩))
    (T : TypeId) (xs ys : List Value) (hA : Arr w g T xs) (hy : ∀ j v, ys[j]? = some v → xs[off + j]? = some v) (d : TypeDesc) (hu : P.underlying ty = some d) (hd : d.isRow = true) (hi : (P.info? ty).map (·.size) = some ys.length)
    (hK : K (a.put o.dst (.agg ys.toArray))) : o.still P a w K := by
  unfold Oper.still execOp
  simp only [ho, hx, Instr.loadAt, Instr.sureAddr, Sem.run_bind, Sem.run_pure, Result.andThen_ok, run_loadVar_mid w g off ty ys d (hA.range off ys hy) hu hd hi]
  rw [Oper.stillUpon_value]
  exact hK

structure Inv7 (r : Nat) (s : R8) (mo : List UInt8) (V : List Value) (n : Nat) (w3 : World) (L : Nat → Bool) (v41 v42 v43 v44 v45 v46 v47 v48 v49 v50 v51 v52 : Value) (wx : World) : Prop where
  t0 : L 0 = true → v41 = .pointer (some ⟨r, 0, none⟩)
  t1 : L 1 = true → v42 = .pointer (some ⟨r, 0, none⟩)
  t2 : L 2 = true → v43 = .pointer (some ⟨r, 0, none⟩)
  t3 : L 3 = true → v44 = .pointer (some ⟨r, 1, none⟩)
  t4 : L 4 = true → v45 = .agg (qs s.list).toArray
  t5 : L 5 = true → v46 = .pointer (some ⟨r, 0, none⟩)
  t6 : L 6 = true → v47 = .pointer (some ⟨r, 0, none⟩)
  t7 : L 7 = true → v48 = .pointer (some ⟨r, 9, none⟩)
  t8 : L 8 = true → v49 = .agg (bvs mo).toArray
  t9 : L 9 = true → v50 = .agg V.toArray
  t10 : L 10 = true → v51 = .pointer (some ⟨r, 0, none⟩)
  t11 : L 11 = true → v52 = .pointer (some ⟨r, 1, none⟩)
  ar : L 12 = false → Arr wx r 78 (stC s mo n)
  fin : L 12 = true → Arr wx r 78 ((stC s mo n).take 1 ++ V ++ (stC s mo n).drop (1 + V.length))
  gr : w3.grownBy wx (some r)
  ls : r < wx.heap.size

theorem not_yet {b : Bool} (h : ¬ b = true) : b = false := by cases b <;> simp_all
theorem wpStill_plain {P : Program} {ops : Array Oper} {w : World} {Q : Act → Prop} {a : Act} {o : Oper} {rest : List Oper} (hg : o.guard = none)
    (h : ∀ K : Act → Prop, (∀ a, wpStill P ops w Q rest a → K a) → o.still P a w K) : wpStill P ops w Q (o :: rest) a :=
  wpStill_step fun K hK => by
    rw [if_pos (by simp [Region.wanted, hg])]
    exact h K hK

set_option maxHeartbeats 1600000 in
theorem Write_any (r : Nat) (xs ys : List UInt8) (a : Option Addr) (n cap : Nat) (w : World) (hm : xs.length + ys.length ≤ 1152921504606846976) (hr : Rd w a n cap ys) (hne : ∀ ad, a = some ad → 0 < cap → ad.block ≠ r) (h : St w r xs) :
    Calls Try.prog 31 #[.pointer (some ⟨r, 0, none⟩), .slice a n cap] w fun e w' => e = .returned (.tuple #[]) ∧ St w' r (xs ++ ys) ∧ w.grownBy w' (some r) := by
  have c0 := h.cells.1
  have HM := Lib.hid hm
  clear hm
  go_enter Try.func31, Try.ntmps31
  go_wp2_with (go_at_call 38; refine (is_any _ _ c0).mono ?_; rintro e w1 ⟨rfl, rfl⟩)
  go_loopw [1] (fun b wr => ∃ (zs ts : List UInt8) (p : Option Addr) (m c : Nat), b = .slice p m c ∧ Rd wr p m c ts ∧ (∀ ad, p = some ad → 0 < c → ad.block ≠ r) ∧ St wr r zs ∧ Hid (zs ++ ts = xs ++ ys) ∧ w.grownBy wr (some r)) (fun b _ => slen b)
  case atStart => exact ⟨xs, ys, a, n, cap, rfl, hr, hne, h, rfl, World.grownBy.refl _ _⟩
  case round =>
    obtain ⟨zs, ts, p, m, c, rfl, hr, hne, hS, HE, hg⟩ := hrel
    by_cases hm0 : 0 < m
    · have hc : ((m : Int) > 0) := by omega
      have hlen := hr.len
      have hcap := hr.le
      have htot : zs.length + ts.length ≤ 1152921504606846976 := by
        have := congrArg List.length HE.out
        simp only [List.length_append] at this
        have := HM.out
        omega
      obtain ⟨bb, off, rfl, hbb, hcx⟩ := hr.mem (by omega)
      obtain ⟨rest, hro, hA⟩ := hS
      have HRO := Lib.hid hro
      have hrl := hro.1
      have HRL := Lib.hid hrl
      have c73 := (hA.cell 73).trans (stC_get_num _ _ _ hrl)
      have HCX := Lib.hid hcx
      have HL := Lib.hid hlen
      clear hro hrl hcx hlen
      obtain ⟨u, hu⟩ : ∃ u, u = zs.length % 64 := ⟨_, rfl⟩
      have hu64 : u < 64 := by omega
      have eu : Hid ((zs.length : Int) % 64 = (u : Int)) := by show _ = _; omega
      have HU := Lib.hid hu
      clear hu
      go_upto_region 3 with fail
      rw [eu.out]
      obtain ⟨mm, hmm⟩ : ∃ mm, mm = Nat.min m (64 - u) := ⟨_, rfl⟩
      have hmm1 : 1 ≤ mm ∧ mm ≤ m ∧ mm ≤ 64 - u ∧ (mm = m ∨ mm = 64 - u) := by
        have e : Nat.min m (64 - u) = min m (64 - u) := rfl
        rw [e] at hmm
        omega
      have hl2 : Hid ((ts.take mm).length = mm) := by show _ = _; rw [List.length_take, HL.out]; omega
      have hsrc : Hid (∀ j v, (bvs (ts.take mm))[j]? = some v → wr.cell? ((⟨bb, off, none⟩ : Addr).add j) = some v) := fun j v hv => by
        have hj : j < mm := by have := (List.getElem?_eq_some_iff.1 hv).1; rw [bvs_len, hl2.out] at this; exact this
        rw [Addr.add_mid, HCX.out j (by omega), ← hv, bvs_get _ _ (by rw [hl2.out]; exact hj)]
        simp [List.getD, hj]
      have HMM := Lib.hid hmm
      have HA := Lib.hid hA
      clear hmm hA
      have hui : (u : Int) ≤ 64 := by omega
      go_upto_region 4 with ((with_reducible show wpList _ _ _ (⟨some 24, _, _, _, _, _⟩ :: _) _ _); go_loud (refine wl_copyV rfl _ _ 56 56 rfl 5 Try.underlying56 (by kernel_rfl) r (9 + u) (64 - u) (64 - u) _ m c rfl rfl 78 _ HA.out (bvs (ts.take mm)) (by rw [bvs_len, hl2.out, HMM.out]) (fun _ => ⟨_, rfl, hsrc.out⟩) (by rw [stC_len _ _ _ HRL.out, bvs_len, hl2.out]; omega) (bvs_one _) ?_); intro w1 hA1 hg1 hs1)
      rw [bvs_len, hl2.out]
      have hst := stC_rest (bl zs (zs.length / 64)) rest zs.length u (ts.take mm) HRL.out (by rw [hl2.out]; omega)
      rw [bvs_len] at hA1
      rw [hst] at hA1
      have hmr : Hid (rest.take u ++ (ts.take mm ++ rest.drop (u + (ts.take mm).length)) = more zs rest (ts.take mm)) := by
        show _ = _
        unfold more
        rw [← HU.out]
      rw [hmr.out] at hA1
      have hr1 : Rd w1 (some ⟨bb, off, none⟩) m c ts := rd_grown hr hg1 (fun ad e h0 => by intro e2; injection e2 with e2; exact hne ad e h0 e2)
      have hg1' := grown_trans' hg hg1
      have hnb : bb ≠ r := hne _ rfl (by omega)
      clear hst hg1 hg hr c73
      go_cut [1] (fun v wx => wx = w1 ∧ ∃ p', v = .slice p' (m - mm) (c - mm) ∧ Rd w1 p' (m - mm) (c - mm) (ts.drop mm) ∧ ∀ ad, p' = some ad → 0 < c - mm → ad.block ≠ r)
      case first =>
        by_cases hcm : c = mm
        · go_wp2
          go_meet
          have hl := hr1.len
          exact ⟨rfl, _, by rw [hcm, Nat.sub_self], ⟨by simp; omega, by omega, (by intro e; cases e), fun h0 => by omega⟩, fun ad e h0 => by omega⟩
        · go_wp2
          go_meet
          exact ⟨rfl, _, rfl, rd_drop hr1 mm (by omega) (by omega), fun ad e h0 => by cases e; exact hnb⟩
      case rest =>
        obtain ⟨rfl, p', rfl, hrp, hnp⟩ := hcut
        have c73 := (hA1.cell 73).trans (stC_get_num _ _ _ (more_len _ _ _ HRO.out (by rw [hl2.out, ← HU.out]; omega)))
        have f73 := hA1.frozen 73
        have hA2 := hA1.store 73 (.int .u64 ((zs.length + mm : Nat) : Int))
        rw [stC_num _ _ _ _ (more_len _ _ _ HRO.out (by rw [hl2.out, ← HU.out]; omega))] at hA2
        have hg2 := grown_setCell hg1' 73 (.int .u64 ((zs.length + mm : Nat) : Int))
        have hrp2 := rd_grown (w' := World.setCell _ ⟨r, 73, none⟩ (.int .u64 ((zs.length + mm : Nat) : Int))) hrp (grown_setCell (World.grownBy.refl _ (some r)) 73 _) (fun ad e h0 => by intro e2; injection e2 with e2; exact hnp ad e h0 e2)
        push_cast at hA2 hg2 hrp2
        by_cases hfull : u + mm = 64
        · have ht : ((u : Int) + (mm : Int) == 64) = true := by rw [beq_iff_eq]; omega
          go_upto_region 7 with fail
          clear hrp hA1 hg1' hr1 c73 f73 HA
          generalize World.setCell _ _ _ = w2 at *
          have hQ : (Try.prog.info? 74).map (·.size) = some (qs (bl zs (zs.length / 64)).list).length := by rw [qs_len]; exact size8
          have hml := more_len zs rest (ts.take mm) HRO.out (by rw [hl2.out, ← HU.out]; omega)
          have hB : (Try.prog.info? 76).map (·.size) = some (bvs (more zs rest (ts.take mm))).length := by rw [bvs_len, hml]; exact size64b
          have HMF := Lib.hid (more_full zs rest (ts.take mm) HRO.out (by rw [hl2.out, ← HU.out]; exact hfull))
          generalize hbl : bl zs (zs.length / 64) = s at *
          generalize hmo : more zs rest (ts.take mm) = mo at *
          have HQ := Lib.hid hQ
          have HB := Lib.hid hB
          have HML := Lib.hid hml
          have HBL := Lib.hid hbl
          have HMO := Lib.hid hmo
          clear hQ hB hml hbl hmo
          have h8 : Hid ((qs (blk s mo).list).length = 8) := by show _ = _; rw [qs_len]; rfl
          have h74 : Hid ((stC s mo (zs.length + mm)).length = 74) := stC_len _ _ _ HML.out
          have hHQ : Hid ((Try.prog.info? 74).map (·.size) = some (qs (blk s mo).list).length) := by show _ = _; rw [h8.out]; exact size8
          have hgo := goIn_any s mo HML.out
          have HGO := Lib.hid hgo
          have hone := qs_one (blk s mo).list
          have HONE := Lib.hid hone
          clear hgo hone
          obtain ⟨V, hV⟩ : ∃ V, V = qs (blk s mo).list := ⟨_, rfl⟩
          unfold Tab at HGO
          rw [← hV] at HGO h8 hHQ HONE
          have HV := Lib.hid hV
          clear hV
          refine wp_region_steps [[], [], [1], [2], [3], [], [5], [6], [7], [4, 8], [0], [10], [11, 9]] (by kernel_rfl) (by kernel_rfl) (fun L a wx => ∃ v41 v42 v43 v44 v45 v46 v47 v48 v49 v50 v51 v52, a = ⟨#[.pointer (some ⟨r, 0, none⟩), .slice p' (m - mm) (c - mm), undef, undef, .int .i64 (u : Int), .int .i64 (mm : Int), .pointer (some ⟨r, 0, none⟩), .bool true, .bool false, u9, u10, u11, u12, u13, u14, u15, u16, u17, u18, u19, u20, u21, u22, u23, u24, u25, u26, u27, .pointer (some ⟨r, 0, none⟩), .pointer (some ⟨r, 0, none⟩), .pointer (some ⟨r, 73, none⟩), .int .u64 (zs.length : Int), .int .i64 (mm : Int), .int .u64 (mm : Int), .int .u64 ((zs.length : Int) + (mm : Int)), .pointer (some ⟨r, 0, none⟩), .pointer (some ⟨r, 73, none⟩), .int .i64 (u : Int), .int .i64 (mm : Int), .int .i64 ((u : Int) + (mm : Int)), .bool true, v41, v42, v43, v44, v45, v46, v47, v48, v49, v50, v51, v52], []⟩ ∧ Inv7 r s mo V (zs.length + mm) w2 L v41 v42 v43 v44 v45 v46 v47 v48 v49 v50 v51 v52 wx) ?_ ⟨?_, ?_, ?_, ?_, ?_, ?_, ?_, ?_, ?_, ?_, ?_, ?_, ?_, trivial⟩ ?_
          · refine ⟨_, _, _, _, _, _, _, _, _, _, _, _, rfl, ⟨?_, ?_, ?_, ?_, ?_, ?_, ?_, ?_, ?_, ?_, ?_, ?_, fun _ => hA2.drew, fun h => absurd h (by decide), grown_drew (World.grownBy.refl _ _), hA2.lt⟩⟩ <;> (intro h; exact absurd h (by decide))
          · rintro L a wx ⟨v41, v42, v43, v44, v45, v46, v47, v48, v49, v50, v51, v52, rfl, hI⟩ hL hdep hcl K hK
            go_simp
            exact hK _ _ ⟨_, v42, v43, v44, v45, v46, v47, v48, v49, v50, v51, v52, rfl, ⟨fun _ => rfl, hI.t1, hI.t2, hI.t3, hI.t4, hI.t5, hI.t6, hI.t7, hI.t8, hI.t9, hI.t10, hI.t11, hI.ar, hI.fin, hI.gr, hI.ls⟩⟩
          · rintro L a wx ⟨v41, v42, v43, v44, v45, v46, v47, v48, v49, v50, v51, v52, rfl, hI⟩ hL hdep hcl K hK
            go_simp
            exact hK _ _ ⟨v41, _, v43, v44, v45, v46, v47, v48, v49, v50, v51, v52, rfl, ⟨hI.t0, fun _ => rfl, hI.t2, hI.t3, hI.t4, hI.t5, hI.t6, hI.t7, hI.t8, hI.t9, hI.t10, hI.t11, hI.ar, hI.fin, hI.gr, hI.ls⟩⟩
          · rintro L a wx ⟨v41, v42, v43, v44, v45, v46, v47, v48, v49, v50, v51, v52, rfl, hI⟩ hL hdep hcl K hK
            obtain rfl := hI.t1 (hdep 1 (by decide))
            go_simp
            exact hK _ _ ⟨v41, _, _, v44, v45, v46, v47, v48, v49, v50, v51, v52, rfl, ⟨hI.t0, hI.t1, fun _ => rfl, hI.t3, hI.t4, hI.t5, hI.t6, hI.t7, hI.t8, hI.t9, hI.t10, hI.t11, hI.ar, hI.fin, hI.gr, hI.ls⟩⟩
          · rintro L a wx ⟨v41, v42, v43, v44, v45, v46, v47, v48, v49, v50, v51, v52, rfl, hI⟩ hL hdep hcl K hK
            obtain rfl := hI.t2 (hdep 2 (by decide))
            go_simp
            exact hK _ _ ⟨v41, v42, _, _, v45, v46, v47, v48, v49, v50, v51, v52, rfl, ⟨hI.t0, hI.t1, hI.t2, fun _ => rfl, hI.t4, hI.t5, hI.t6, hI.t7, hI.t8, hI.t9, hI.t10, hI.t11, hI.ar, hI.fin, hI.gr, hI.ls⟩⟩
          · rintro L a wx ⟨v41, v42, v43, v44, v45, v46, v47, v48, v49, v50, v51, v52, rfl, hI⟩ hL hdep hcl K hK
            obtain rfl := hI.t3 (hdep 3 (by decide))
            have hA := hI.ar (not_yet fun h => by
              have h9 := hcl 12 (by decide) h 9 (by decide)
              have h4 := hcl 9 (by decide) h9 4 (by decide)
              exact absurd (h4.symm.trans hL) (by decide))
            exact ow_load 74 _ rfl r 1 rfl 78 _ (qs s.list) hA (fun j v h => stC_get_now _ _ _ _ _ h) (.array 8 73) Try.underlying74 rfl HQ.out (hK _ _ ⟨v41, v42, v43, _, _, v46, v47, v48, v49, v50, v51, v52, rfl, ⟨hI.t0, hI.t1, hI.t2, hI.t3, fun _ => rfl, hI.t5, hI.t6, hI.t7, hI.t8, hI.t9, hI.t10, hI.t11, hI.ar, hI.fin, hI.gr, hI.ls⟩⟩)
          · rintro L a wx ⟨v41, v42, v43, v44, v45, v46, v47, v48, v49, v50, v51, v52, rfl, hI⟩ hL hdep hcl K hK
            go_simp
            exact hK _ _ ⟨v41, v42, v43, v44, v45, _, v47, v48, v49, v50, v51, v52, rfl, ⟨hI.t0, hI.t1, hI.t2, hI.t3, hI.t4, fun _ => rfl, hI.t6, hI.t7, hI.t8, hI.t9, hI.t10, hI.t11, hI.ar, hI.fin, hI.gr, hI.ls⟩⟩
          · rintro L a wx ⟨v41, v42, v43, v44, v45, v46, v47, v48, v49, v50, v51, v52, rfl, hI⟩ hL hdep hcl K hK
            obtain rfl := hI.t5 (hdep 5 (by decide))
            go_simp
            exact hK _ _ ⟨v41, v42, v43, v44, v45, _, _, v48, v49, v50, v51, v52, rfl, ⟨hI.t0, hI.t1, hI.t2, hI.t3, hI.t4, hI.t5, fun _ => rfl, hI.t7, hI.t8, hI.t9, hI.t10, hI.t11, hI.ar, hI.fin, hI.gr, hI.ls⟩⟩
          · rintro L a wx ⟨v41, v42, v43, v44, v45, v46, v47, v48, v49, v50, v51, v52, rfl, hI⟩ hL hdep hcl K hK
            obtain rfl := hI.t6 (hdep 6 (by decide))
            go_simp
            exact hK _ _ ⟨v41, v42, v43, v44, v45, v46, _, _, v49, v50, v51, v52, rfl, ⟨hI.t0, hI.t1, hI.t2, hI.t3, hI.t4, hI.t5, hI.t6, fun _ => rfl, hI.t8, hI.t9, hI.t10, hI.t11, hI.ar, hI.fin, hI.gr, hI.ls⟩⟩
          · rintro L a wx ⟨v41, v42, v43, v44, v45, v46, v47, v48, v49, v50, v51, v52, rfl, hI⟩ hL hdep hcl K hK
            obtain rfl := hI.t7 (hdep 7 (by decide))
            have hA := hI.ar (not_yet fun h => by
              have h9 := hcl 12 (by decide) h 9 (by decide)
              have h8 := hcl 9 (by decide) h9 8 (by decide)
              exact absurd (h8.symm.trans hL) (by decide))
            exact ow_load 76 _ rfl r 9 rfl 78 _ (bvs mo) hA (fun j v h => stC_get_rest _ _ _ _ _ h) (.array 64 5) Try.underlying76 rfl HB.out (hK _ _ ⟨v41, v42, v43, v44, v45, v46, v47, _, _, v50, v51, v52, rfl, ⟨hI.t0, hI.t1, hI.t2, hI.t3, hI.t4, hI.t5, hI.t6, hI.t7, fun _ => rfl, hI.t9, hI.t10, hI.t11, hI.ar, hI.fin, hI.gr, hI.ls⟩⟩)
          · rintro L a wx ⟨v41, v42, v43, v44, v45, v46, v47, v48, v49, v50, v51, v52, rfl, hI⟩ hL hdep hcl K hK
            obtain rfl := hI.t4 (hdep 4 (by decide))
            obtain rfl := hI.t8 (hdep 8 (by decide))
            go_simp
            refine (HGO.out _).mono ?_
            rintro e w4 ⟨rfl, hb4⟩
            exact hK _ _ ⟨v41, v42, v43, v44, _, v46, v47, v48, _, _, v51, v52, rfl, ⟨hI.t0, hI.t1, hI.t2, hI.t3, hI.t4, hI.t5, hI.t6, hI.t7, hI.t8, fun _ => rfl, hI.t10, hI.t11, (fun h => (hI.ar h).kept hb4), (fun h => (hI.fin h).kept hb4), (grown_below hI.gr hb4), (Nat.lt_of_lt_of_le hI.ls hb4.size)⟩⟩
          · rintro L a wx ⟨v41, v42, v43, v44, v45, v46, v47, v48, v49, v50, v51, v52, rfl, hI⟩ hL hdep hcl K hK
            obtain rfl := hI.t0 (hdep 0 (by decide))
            go_simp
            exact hK _ _ ⟨_, v42, v43, v44, v45, v46, v47, v48, v49, v50, _, v52, rfl, ⟨hI.t0, hI.t1, hI.t2, hI.t3, hI.t4, hI.t5, hI.t6, hI.t7, hI.t8, hI.t9, fun _ => rfl, hI.t11, hI.ar, hI.fin, hI.gr, hI.ls⟩⟩
          · rintro L a wx ⟨v41, v42, v43, v44, v45, v46, v47, v48, v49, v50, v51, v52, rfl, hI⟩ hL hdep hcl K hK
            obtain rfl := hI.t10 (hdep 10 (by decide))
            go_simp
            exact hK _ _ ⟨v41, v42, v43, v44, v45, v46, v47, v48, v49, v50, _, _, rfl, ⟨hI.t0, hI.t1, hI.t2, hI.t3, hI.t4, hI.t5, hI.t6, hI.t7, hI.t8, hI.t9, hI.t10, fun _ => rfl, hI.ar, hI.fin, hI.gr, hI.ls⟩⟩
          · rintro L a wx ⟨v41, v42, v43, v44, v45, v46, v47, v48, v49, v50, v51, v52, rfl, hI⟩ hL hdep hcl K hK
            obtain rfl := hI.t11 (hdep 11 (by decide))
            obtain rfl := hI.t9 (hdep 9 (by decide))
            have hA := hI.ar hL
            refine ow_store 74 _ _ rfl r 1 rfl V rfl 78 _ hA hHQ.out (by rw [h8.out, h74.out]; exact (by decide : 1 + 8 ≤ 74)) HONE.out ?_
            intro w5 hA5 hg5 hs5
            exact hK _ _ ⟨v41, v42, v43, v44, v45, v46, v47, v48, v49, _, v51, _, rfl, ⟨hI.t0, hI.t1, hI.t2, hI.t3, hI.t4, hI.t5, hI.t6, hI.t7, hI.t8, hI.t9, hI.t10, hI.t11, (fun h => by cases h), (fun _ => hA5), (grown_trans' hI.gr hg5), (by rw [hs5]; exact hI.ls)⟩⟩
          · rintro a wx ⟨v41, v42, v43, v44, v45, v46, v47, v48, v49, v50, v51, v52, rfl, hI⟩
            have hA5 := hI.fin rfl
            have hg5 := hI.gr
            clear hI hA2
            go_wp2_with fail
            go_roundw
            case rel =>
              have hlen : (zs ++ ts.take mm).length = zs.length + mm := by rw [List.length_append, hl2.out]
              have hmf := HMF.out
              have hg4 := grown_trans' hg2 hg5
              refine ⟨zs ++ ts.take mm, ts.drop mm, p', m - mm, c - mm, rfl, rd_grown hrp2 hg5 (fun ad e h0 => by intro e2; injection e2 with e2; exact hnp ad e h0 e2), hnp, ⟨mo, hmf.1, ?_⟩, ?_, hg4⟩
              · rw [hmf.2, hlen]
                rw [HV.out, stC_now] at hA5
                exact hA5
              · show _ = _
                rw [List.append_assoc, List.take_append_drop]; exact HE.out
            case measure =>
              simp only [slen]
              omega
        · have ht : ((u : Int) + (mm : Int) == 64) = false := by rw [beq_eq_false_iff_ne]; omega
          go_wp2
          go_roundw
          case rel =>
            have hmp := more_part zs rest (ts.take mm) HRO.out (by rw [hl2.out, ← HU.out]; omega)
            have hlen : (zs ++ ts.take mm).length = zs.length + mm := by rw [List.length_append, hl2.out]
            refine ⟨zs ++ ts.take mm, ts.drop mm, p', m - mm, c - mm, rfl, hrp2, hnp, ⟨more zs rest (ts.take mm), hmp.1, ?_⟩, ?_, hg2⟩
            · rw [hmp.2, hlen]; exact hA2
            · show _ = _
              rw [List.append_assoc, List.take_append_drop]; exact HE.out
          case measure =>
            simp only [slen]
            omega
    · have hc : ¬ ((m : Int) > 0) := by omega
      have hlen := hr.len
      have hts : ts = [] := List.eq_nil_of_length_eq_zero (by omega)
      have HF : Hid (zs = xs ++ ys) := by
        show _ = _
        have := HE.out
        rw [hts, List.append_nil] at this
        exact this
      clear hlen hts hr
      go_wp2
      go_end0
      exact ⟨rfl, by rw [← HF.out]; exact hS, hg⟩
end Go.Proofs.Ytlfncgpjgbpdjaa
