/-
  JsonSame holds, wherever what came in is of bulk 1048576 at most. Conditions: those in each statement.
-/
import Derived.Test.YtighbdhjegklbaaDoorJzB
import Derived.Test.YtighbdhjegklbaaDoorJzC
import Derived.Test.YtighbdhjegklbaaDoorJyB
namespace Go.Proofs.YtighbdhjegklbaaDoor
open Go.RowKit

mutual
theorem cut_tot : ∀ (v : JV) (d : Nat), totV (cutF v d) ≤ totV v
  | .mk k s n l ks, d => by
    have := cut_totL l (d - 1)
    unfold cutF totV
    by_cases h : d = 0
    · rw [if_pos h, if_pos h]
      unfold totK totL
      omega
    · rw [if_neg h, if_neg h]
      omega
theorem cut_totL : ∀ (l : List JV) (d : Nat), totL (cutL l d) ≤ totL l
  | [], _ => by unfold cutL; exact Nat.le_refl _
  | v :: r, d => by
    have h1 := cut_tot v d
    have h2 := cut_totL r d
    unfold cutL totL
    omega
end
structure InvSameA (w : World) (xk : Int) (xs : ByteArray) (xn : Int) (xa : Option Addr) (xl xc : Nat) (xb : Option Addr) (xm xd : Nat) (yk : Int) (ys : ByteArray) (yn : Int) (ya : Option Addr) (yl yc : Nat) (yb : Option Addr) (ym yd : Nat) (va vb : JV) (L : Nat → Bool) (v5 v6 v7 v8 : Value) (wx : World) : Prop where
  t0 : L 0 = true → v5 = .agg #[.int .i64 xk, .string xs, .int .u64 xn, .slice xa xl xc, .slice xb xm xd]
  t1 : L 1 = true → ∃ cs, v6 = .agg (List.toArray cs) ∧ SV (fun x => x < w.heap.size ∨ w.heap.size + 2 ≤ x) wx va cs
  t2 : L 2 = true → v7 = .agg #[.int .i64 yk, .string ys, .int .u64 yn, .slice ya yl yc, .slice yb ym yd]
  t3 : L 3 = true → ∃ cs, v8 = .agg (List.toArray cs) ∧ SV (fun x => x < w.heap.size ∨ w.heap.size + 2 ≤ x) wx vb cs
  aA : ∃ cur, Arr wx w.heap.size 26 cur ∧ cur.length = 5 ∧ (L 4 = false → cur = [.int .i64 xk, .string xs, .int .u64 xn, .slice xa xl xc, .slice xb xm xd]) ∧ (L 4 = true → v6 = .agg (List.toArray cur))
  aB : ∃ cur, Arr wx (w.heap.size + 1) 26 cur ∧ cur.length = 5 ∧ (L 5 = false → cur = [.int .i64 yk, .string ys, .int .u64 yn, .slice ya yl yc, .slice yb ym yd]) ∧ (L 5 = true → v8 = .agg (List.toArray cur))
  bl : Below w.heap.size w wx
  sz : w.heap.size + 2 ≤ wx.heap.size
structure InvSameB (w w1 : World) (xk : Int) (xs : ByteArray) (xn : Int) (xa : Option Addr) (xl xc : Nat) (xb : Option Addr) (xm xd : Nat) (yk : Int) (ys : ByteArray) (yn : Int) (ya : Option Addr) (yl yc : Nat) (yb : Option Addr) (ym yd : Nat) (pk : Int) (ps : ByteArray) (pn : Int) (pa : Option Addr) (pl pc : Nat) (pb : Option Addr) (pm pd : Nat) (qk : Int) (qs : ByteArray) (qn : Int) (qa : Option Addr) (ql qc : Nat) (qb : Option Addr) (qm qd : Nat) (va vb : JV) (R : Bool) (L : Nat → Bool) (v9 v10 v11 v12 v13 v14 v15 v16 v17 v18 v19 v20 v21 v22 v23 v24 v25 v26 v27 v4 : Value) (wx : World) : Prop where
  t0 : L 0 = true → v9 = .agg #[.int .i64 pk, .string ps, .int .u64 pn, .slice pa pl pc, .slice pb pm pd]
  t1 : L 1 = true → ∃ cs, v10 = .agg (List.toArray cs) ∧ PV wx va cs
  t2 : L 2 = true → v11 = .agg #[.int .i64 qk, .string qs, .int .u64 qn, .slice qa ql qc, .slice qb qm qd]
  t3 : L 3 = true → ∃ cs, v12 = .agg (List.toArray cs) ∧ PV wx vb cs
  t4 : L 4 = true → v13 = .bool R
  t5 : L 5 = true → v14 = .agg #[.int .i64 pk, .string ps, .int .u64 pn, .slice pa pl pc, .slice pb pm pd]
  t6 : L 6 = true → v15 = .agg #[.int .i64 qk, .string qs, .int .u64 qn, .slice qa ql qc, .slice qb qm qd]
  t7 : L 7 = true → v16 = .bool R
  t8 : L 8 = true → v17 = .bool true
  t9 : L 9 = true → v18 = .bool true
  t10 : L 10 = true → v19 = .agg #[.int .i64 pk, .string ps, .int .u64 pn, .slice pa pl pc, .slice pb pm pd]
  t11 : L 11 = true → ∃ cs, v20 = .agg (List.toArray cs) ∧ PV wx va cs
  t12 : L 12 = true → v21 = .agg #[.int .i64 pk, .string ps, .int .u64 pn, .slice pa pl pc, .slice pb pm pd]
  t13 : L 13 = true → ∃ cs, v22 = .agg (List.toArray cs) ∧ PV wx va cs
  t14 : L 14 = true → v23 = .bool true
  t15 : L 15 = true → v24 = .bool true
  t16 : L 16 = true → v25 = .bool true
  t17 : L 17 = true → v26 = .bool true
  t18 : L 18 = true → v27 = .bool true
  t19 : L 19 = true → v4 = .bool true
  aA : Arr wx w.heap.size 26 [.int .i64 pk, .string ps, .int .u64 pn, .slice pa pl pc, .slice pb pm pd]
  aB : Arr wx (w.heap.size + 1) 26 [.int .i64 qk, .string qs, .int .u64 qn, .slice qa ql qc, .slice qb qm qd]
  bl : Below w1.heap.size w1 wx

set_option maxRecDepth 100000 in
set_option maxHeartbeats 6400000 in
theorem JsonSame_any (va0 vb0 : JV) (ca cb : List Value) (w : World) (hx : RV w va0 ca) (hy : RV w vb0 cb) (ha : totV va0 ≤ 1048576) (hb : totV vb0 ≤ 1048576) (hT : Tabs w) :
    Calls Tryd.prog 5 #[.agg ca.toArray, .agg cb.toArray] w fun e w' => e = .returned (.bool true) ∧ Below w.heap.size w w' := by
  have hac := cut_tot va0 100
  have hbc := cut_tot vb0 100
  have hcA0 : Hid (∀ W, Below w.heap.size w W → Calls Tryd.prog 9 #[.agg ca.toArray, .int .i64 100] W fun e w' => ∃ cs', e = .returned (.agg (List.toArray cs')) ∧ SV (fun x => x < w.heap.size ∨ W.heap.size ≤ x) w' (cutF va0 100) cs' ∧ Below W.heap.size W w') := fun W hW => cut_any va0 ca w W 100 hx hW (tot_small va0 _ (by omega)).2.1 (by omega)
  have hcB0 : Hid (∀ W, Below w.heap.size w W → Calls Tryd.prog 9 #[.agg cb.toArray, .int .i64 100] W fun e w' => ∃ cs', e = .returned (.agg (List.toArray cs')) ∧ SV (fun x => x < w.heap.size ∨ W.heap.size ≤ x) w' (cutF vb0 100) cs' ∧ Below W.heap.size W w') := fun W hW => cut_any vb0 cb w W 100 hy hW (tot_small vb0 _ (by omega)).2.1 (by omega)
  obtain ⟨xk, xs, xn, xa, xl, xc, xb, xm, xd, rfl⟩ := rv_shape hx
  obtain ⟨yk, ys, yn, ya, yl, yc, yb, ym, yd, rfl⟩ := rv_shape hy
  generalize cutF va0 100 = va at *
  generalize cutF vb0 100 = vb at *
  have HFA := Lib.hid (tot_small va 1073741823 (by omega)).2.1
  have HFB := Lib.hid (tot_small vb 1073741823 (by omega)).2.1
  have HWA : Hid (wtV va ≤ 1073741824) := by
    have := (tot_small va 1073741823 (by omega)).2.2
    show _ ≤ _
    omega
  have hcA : Hid (∀ W, Below w.heap.size w W → Calls Tryd.prog 9 #[.agg #[.int .i64 xk, .string xs, .int .u64 xn, .slice xa xl xc, .slice xb xm xd], .int .i64 100] W fun e w' => ∃ cs', e = .returned (.agg (List.toArray cs')) ∧ SV (fun x => x < w.heap.size ∨ W.heap.size ≤ x) w' va cs' ∧ Below W.heap.size W w') := hcA0.out
  have hcB : Hid (∀ W, Below w.heap.size w W → Calls Tryd.prog 9 #[.agg #[.int .i64 yk, .string ys, .int .u64 yn, .slice ya yl yc, .slice yb ym yd], .int .i64 100] W fun e w' => ∃ cs', e = .returned (.agg (List.toArray cs')) ∧ SV (fun x => x < w.heap.size ∨ W.heap.size ≤ x) w' vb cs' ∧ Below W.heap.size W w') := hcB0.out
  have HT := Lib.hid hT
  have hA0 : Arr ((w.alloc (.cells #[.int .i64 xk, .string xs, .int .u64 xn, .slice xa xl xc, .slice xb xm xd] 26)).alloc (.cells #[.int .i64 yk, .string ys, .int .u64 yn, .slice ya yl yc, .slice yb ym yd] 26)) w.heap.size 26 [.int .i64 xk, .string xs, .int .u64 xn, .slice xa xl xc, .slice xb xm xd] := (Arr.new w 26 [.int .i64 xk, .string xs, .int .u64 xn, .slice xa xl xc, .slice xb xm xd]).kept ((Below.refl _ _).alloc (Nat.le_refl _) (.cells #[.int .i64 yk, .string ys, .int .u64 yn, .slice ya yl yc, .slice yb ym yd] 26))
  have hB0 : Arr ((w.alloc (.cells #[.int .i64 xk, .string xs, .int .u64 xn, .slice xa xl xc, .slice xb xm xd] 26)).alloc (.cells #[.int .i64 yk, .string ys, .int .u64 yn, .slice ya yl yc, .slice yb ym yd] 26)) (w.heap.size + 1) 26 [.int .i64 yk, .string ys, .int .u64 yn, .slice ya yl yc, .slice yb ym yd] := by
    have := Arr.new (w.alloc (.cells #[.int .i64 xk, .string xs, .int .u64 xn, .slice xa xl xc, .slice xb xm xd] 26)) 26 [.int .i64 yk, .string ys, .int .u64 yn, .slice ya yl yc, .slice yb ym yd]
    rw [World.size_alloc] at this
    exact this
  have hW2 : Below w.heap.size w ((w.alloc (.cells #[.int .i64 xk, .string xs, .int .u64 xn, .slice xa xl xc, .slice xb xm xd] 26)).alloc (.cells #[.int .i64 yk, .string ys, .int .u64 yn, .slice ya yl yc, .slice yb ym yd] 26)) := ((Below.refl _ _).alloc (Nat.le_refl _) _).alloc (by simp) _
  have hz2 : w.heap.size + 2 ≤ ((w.alloc (.cells #[.int .i64 xk, .string xs, .int .u64 xn, .slice xa xl xc, .slice xb xm xd] 26)).alloc (.cells #[.int .i64 yk, .string ys, .int .u64 yn, .slice ya yl yc, .slice yb ym yd] 26)).heap.size := by simp
  clear hT hx hy ha hb hac hbc hcA0 hcB0
  go_enter Tryd.func5, Tryd.ntmps5
  go_upto_region 1 with fail
  refine wp_region_steps [[], [0], [], [2, 1], [1, 3, 0], [3, 4, 0, 1, 2]] (by kernel_rfl) (by kernel_rfl) (fun L a wx => ∃ v5 v6 v7 v8, a = ⟨#[.agg #[.int .i64 xk, .string xs, .int .u64 xn, .slice xa xl xc, .slice xb xm xd], .agg #[.int .i64 yk, .string ys, .int .u64 yn, .slice ya yl yc, .slice yb ym yd], .pointer (some ⟨w.heap.size, 0, none⟩), .pointer (some ⟨w.heap.size + 1, 0, none⟩), .bool false, v5, v6, v7, v8, undef, undef, undef, undef, undef, undef, undef, undef, undef, undef, undef, undef, undef, undef, undef, undef, undef, undef, undef], []⟩ ∧ InvSameA w xk xs xn xa xl xc xb xm xd yk ys yn ya yl yc yb ym yd va vb L v5 v6 v7 v8 wx) ?_ ⟨?_, ?_, ?_, ?_, ?_, ?_, trivial⟩ ?_
  · refine ⟨_, _, _, _, rfl, ⟨?_, ?_, ?_, ?_, ⟨_, hA0.drew, rfl, fun _ => rfl, fun h => absurd h (by decide)⟩, ⟨_, hB0.drew, rfl, fun _ => rfl, fun h => absurd h (by decide)⟩, hW2.drew, hz2⟩⟩ <;> (intro h; exact absurd h (by decide))
  · rintro L a wx ⟨v5, v6, v7, v8, rfl, hI⟩ hL hdep hcl K hK
    have hk : L 4 = false := by cases h : L 4 with | false => rfl | true => exact absurd (hcl 4 (by decide) h 0 (by decide)) (by rw [hL]; decide)
    obtain ⟨cur, o1, o2, o3, o4⟩ := hI.aA
    obtain rfl := o3 hk
    refine wp_load_mid 26 _ rfl w.heap.size 0 rfl _ _ (o1.range 0 _ (fun j v h => by rw [Nat.zero_add]; exact h)) Tryd.underlying26 rfl (by kernel_rfl) ?_
    exact hK _ _ ⟨_, v6, v7, v8, rfl, ⟨fun _ => rfl, hI.t1, hI.t2, hI.t3, ⟨_, o1, o2, fun _ => rfl, o4⟩, hI.aB, hI.bl, hI.sz⟩⟩
  · rintro L a wx ⟨v5, v6, v7, v8, rfl, hI⟩ hL hdep hcl K hK
    obtain rfl := hI.t0 (hdep 0 (by decide))
    go_simp
    refine (hcA.out _ hI.bl).mono ?_
    rintro e w' ⟨cs', rfl, hsv, hb⟩
    exact hK _ _ ⟨_, _, v7, v8, rfl, ⟨hI.t0, fun _ => ⟨cs', rfl, sv_to (fun x hx _ => hx.imp id (fun h => Nat.le_trans hI.sz h)) (fun _ _ _ => rfl) _ _ hsv⟩, hI.t2, fun h => (by obtain ⟨cs, e1, e2⟩ := hI.t3 h; exact ⟨cs, e1, sv_to (fun _ h _ => h) (Stay.of_below hb) _ _ e2⟩), (by obtain ⟨cur, o1, o2, o3, o4⟩ := hI.aA; exact ⟨cur, o1.kept hb, o2, o3, fun h => absurd (hcl 4 (by decide) (show L 4 = true from h) 1 (by decide)) (by rw [hL]; decide)⟩), (by obtain ⟨cur, o1, o2, o3, o4⟩ := hI.aB; exact ⟨cur, o1.kept hb, o2, o3, o4⟩), hI.bl.trans (hb.mono hI.bl.size), Nat.le_trans hI.sz hb.size⟩⟩
  · rintro L a wx ⟨v5, v6, v7, v8, rfl, hI⟩ hL hdep hcl K hK
    have hk : L 5 = false := by cases h : L 5 with | false => rfl | true => exact absurd (hcl 5 (by decide) h 2 (by decide)) (by rw [hL]; decide)
    obtain ⟨cur, o1, o2, o3, o4⟩ := hI.aB
    obtain rfl := o3 hk
    refine wp_load_mid 26 _ rfl (w.heap.size + 1) 0 rfl _ _ (o1.range 0 _ (fun j v h => by rw [Nat.zero_add]; exact h)) Tryd.underlying26 rfl (by kernel_rfl) ?_
    exact hK _ _ ⟨v5, v6, _, v8, rfl, ⟨hI.t0, hI.t1, fun _ => rfl, hI.t3, hI.aA, ⟨_, o1, o2, fun _ => rfl, o4⟩, hI.bl, hI.sz⟩⟩
  · rintro L a wx ⟨v5, v6, v7, v8, rfl, hI⟩ hL hdep hcl K hK
    obtain rfl := hI.t2 (hdep 2 (by decide))
    go_simp
    refine (hcB.out _ hI.bl).mono ?_
    rintro e w' ⟨cs', rfl, hsv, hb⟩
    exact hK _ _ ⟨v5, v6, _, _, rfl, ⟨hI.t0, fun h => (by obtain ⟨cs, e1, e2⟩ := hI.t1 h; exact ⟨cs, e1, sv_to (fun _ h _ => h) (Stay.of_below hb) _ _ e2⟩), hI.t2, fun _ => ⟨cs', rfl, sv_to (fun x hx _ => hx.imp id (fun h => Nat.le_trans hI.sz h)) (fun _ _ _ => rfl) _ _ hsv⟩, (by obtain ⟨cur, o1, o2, o3, o4⟩ := hI.aA; exact ⟨cur, o1.kept hb, o2, o3, o4⟩), (by obtain ⟨cur, o1, o2, o3, o4⟩ := hI.aB; exact ⟨cur, o1.kept hb, o2, o3, fun h => absurd (hcl 5 (by decide) (show L 5 = true from h) 3 (by decide)) (by rw [hL]; decide)⟩), hI.bl.trans (hb.mono hI.bl.size), Nat.le_trans hI.sz hb.size⟩⟩
  · rintro L a wx ⟨v5, v6, v7, v8, rfl, hI⟩ hL hdep hcl K hK
    obtain ⟨cs, rfl, hsv⟩ := hI.t1 (hdep 1 (by decide))
    obtain ⟨k1, s1, n1, a1, l1, c1, b1, m1, d1, rfl⟩ := pv_shape (sv_pv _ _ hsv)
    obtain ⟨cur, o1, o2, o3, o4⟩ := hI.aA
    refine ow_store 26 _ _ rfl w.heap.size 0 rfl [.int .i64 k1, .string s1, .int .u64 n1, .slice a1 l1 c1, .slice b1 m1 d1] rfl 26 cur o1 (by kernel_rfl) (by simp [o2]) (by simp [Value.oneCell']) ?_
    intro w' hA hg hs
    rw [whole_store _ _ (by rw [o2]; rfl)] at hA
    have hst : Stay (fun x => x < w.heap.size ∨ w.heap.size + 2 ≤ x) wx w' := Stay.of_grown hg (fun k hk => by cases hk; omega)
    have hszx := hI.sz
    exact hK _ _ ⟨v5, _, v7, v8, rfl, ⟨hI.t0, fun _ => ⟨_, rfl, sv_to (fun _ h _ => h) hst _ _ hsv⟩, hI.t2, fun h => (by obtain ⟨cs, e1, e2⟩ := hI.t3 h; exact ⟨cs, e1, sv_to (fun _ h _ => h) hst _ _ e2⟩), ⟨_, hA, rfl, (fun h => Bool.noConfusion (show true = false from h)), fun _ => rfl⟩, (by obtain ⟨cur2, q1, q2, q3, q4⟩ := hI.aB; exact ⟨cur2, q1.grown hg (by intro e; have := Option.some.inj e; omega), q2, q3, q4⟩), hI.bl.grown hg hI.bl.size (fun k hk => by cases hk; omega), by rw [hs]; exact hI.sz⟩⟩
  · rintro L a wx ⟨v5, v6, v7, v8, rfl, hI⟩ hL hdep hcl K hK
    obtain ⟨cs, rfl, hsv⟩ := hI.t3 (hdep 3 (by decide))
    obtain ⟨k1, s1, n1, a1, l1, c1, b1, m1, d1, rfl⟩ := pv_shape (sv_pv _ _ hsv)
    obtain ⟨cur, o1, o2, o3, o4⟩ := hI.aB
    refine ow_store 26 _ _ rfl (w.heap.size + 1) 0 rfl [.int .i64 k1, .string s1, .int .u64 n1, .slice a1 l1 c1, .slice b1 m1 d1] rfl 26 cur o1 (by kernel_rfl) (by simp [o2]) (by simp [Value.oneCell']) ?_
    intro w' hA hg hs
    rw [whole_store _ _ (by rw [o2]; rfl)] at hA
    have hst : Stay (fun x => x < w.heap.size ∨ w.heap.size + 2 ≤ x) wx w' := Stay.of_grown hg (fun k hk => by cases hk; omega)
    have hszx := hI.sz
    exact hK _ _ ⟨v5, v6, v7, _, rfl, ⟨hI.t0, fun h => (by obtain ⟨cs, e1, e2⟩ := hI.t1 h; exact ⟨cs, e1, sv_to (fun _ h _ => h) hst _ _ e2⟩), hI.t2, fun _ => ⟨_, rfl, sv_to (fun _ h _ => h) hst _ _ hsv⟩, (by obtain ⟨cur2, q1, q2, q3, q4⟩ := hI.aA; exact ⟨cur2, q1.grown hg (by intro e; have := Option.some.inj e; omega), q2, q3, q4⟩), ⟨_, hA, rfl, (fun h => Bool.noConfusion (show true = false from h)), fun _ => rfl⟩, hI.bl.grown hg hI.bl.size (fun k hk => by cases hk; omega), by rw [hs]; exact hI.sz⟩⟩
  · rintro a wx ⟨v5, v6, v7, v8, rfl, hI⟩
    obtain rfl := hI.t0 rfl
    obtain rfl := hI.t2 rfl
    obtain ⟨cs6, rfl, hv6⟩ := hI.t1 rfl
    obtain ⟨cs8, rfl, hv8⟩ := hI.t3 rfl
    obtain ⟨pk, ps, pn, pa, pl, pc, pb, pm, pd, rfl⟩ := pv_shape (sv_pv _ _ hv6)
    obtain ⟨qk, qs, qn, qa, ql, qc, qb, qm, qd, rfl⟩ := pv_shape (sv_pv _ _ hv8)
    obtain ⟨cur6, hX, -, -, e6⟩ := hI.aA
    obtain ⟨cur8, hY, -, -, e8⟩ := hI.aB
    obtain rfl : cur6 = [.int .i64 pk, .string ps, .int .u64 pn, .slice pa pl pc, .slice pb pm pd] := by have := Value.agg.inj (e6 rfl); exact (by simpa using congrArg Array.toList this.symm)
    obtain rfl : cur8 = [.int .i64 qk, .string qs, .int .u64 qn, .slice qa ql qc, .slice qb qm qd] := by have := Value.agg.inj (e8 rfl); exact (by simpa using congrArg Array.toList this.symm)
    have HB1 := Lib.hid hI.bl
    have hr6 := pv_rv _ _ (sv_pv _ _ hv6)
    have hr8 := pv_rv _ _ (sv_pv _ _ hv8)
    clear hI e6 e8 hv6 hv8
    rename World => w1
    have hoA : Hid (∀ W, Below w1.heap.size w1 W → Calls Tryd.prog 10 #[.agg #[.int .i64 pk, .string ps, .int .u64 pn, .slice pa pl pc, .slice pb pm pd]] W fun e w' => ∃ cs', e = .returned (.agg (List.toArray cs')) ∧ PV w' va cs' ∧ Below W.heap.size W w') := fun W hW => (ours_any va _ w1 W hr6 hW HFA.out).mono fun e w' ⟨cs', h1, h2, h3⟩ => ⟨cs', h1, sv_pv _ _ h2, h3⟩
    have hoB : Hid (∀ W, Below w1.heap.size w1 W → Calls Tryd.prog 10 #[.agg #[.int .i64 qk, .string qs, .int .u64 qn, .slice qa ql qc, .slice qb qm qd]] W fun e w' => ∃ cs', e = .returned (.agg (List.toArray cs')) ∧ PV w' vb cs' ∧ Below W.heap.size W w') := fun W hW => (ours_any vb _ w1 W hr8 hW HFB.out).mono fun e w' ⟨cs', h1, h2, h3⟩ => ⟨cs', h1, sv_pv _ _ h2, h3⟩
    obtain ⟨R, hR⟩ : ∃ R, R = sameF va vb := ⟨_, rfl⟩
    have hs1 : Hid (∀ W cs cs', PV W va cs → PV W vb cs' → Calls Tryd.prog 22 #[.agg (List.toArray cs), .agg (List.toArray cs')] W fun e w' => e = .returned (.bool R) ∧ Below W.heap.size W w') := fun W cs cs' h h' => by rw [hR]; exact Same_any va vb cs cs' W h h' HWA.out
    have hs2 : Hid (∀ W cs cs', PV W va cs → PV W va cs' → Calls Tryd.prog 22 #[.agg (List.toArray cs), .agg (List.toArray cs')] W fun e w' => e = .returned (.bool true) ∧ Below W.heap.size W w') := fun W cs cs' h h' => by
      have := Same_any va va cs cs' W h h' HWA.out
      rw [(same_eq va va).2 rfl] at this
      exact this
    have hr : Hid (∀ W, Below w1.heap.size w1 W → Calls Tryd.prog 17 #[.agg #[.int .i64 pk, .string ps, .int .u64 pn, .slice pa pl pc, .slice pb pm pd], .agg #[.int .i64 qk, .string qs, .int .u64 qn, .slice qa ql qc, .slice qb qm qd]] W fun e w' => e = .returned (.bool R) ∧ Below W.heap.size W w') := fun W hW => by rw [hR]; exact rSame_any va vb _ _ W (rv_to hW _ _ hr6) (rv_to hW _ _ hr8)
    have hwk : Hid (∀ W, Below w1.heap.size w1 W → Calls Tryd.prog 19 #[] W fun e w' => e = .returned (.bool true) ∧ Below W.heap.size W w') := fun W hW => wakes_any W (HT.out.to (HB1.out.trans (hW.mono HB1.out.size)))
    clear hR hr6 hr8
    go_upto_region 2 with fail
    refine wp_region_steps [[], [0], [], [2, 1], [1, 3], [], [], [5, 6, 4], [4, 7], [8, 7], [9], [10, 9], [9], [12, 11, 9], [11, 13, 9], [9, 14], [15, 14], [16], [16, 17], [18, 17]] (by kernel_rfl) (by kernel_rfl) (fun L a wx => ∃ v9 v10 v11 v12 v13 v14 v15 v16 v17 v18 v19 v20 v21 v22 v23 v24 v25 v26 v27 v4, a = ⟨#[.agg #[.int .i64 xk, .string xs, .int .u64 xn, .slice xa xl xc, .slice xb xm xd], .agg #[.int .i64 yk, .string ys, .int .u64 yn, .slice ya yl yc, .slice yb ym yd], .pointer (some ⟨w.heap.size, 0, none⟩), .pointer (some ⟨w.heap.size + 1, 0, none⟩), v4, .agg #[.int .i64 xk, .string xs, .int .u64 xn, .slice xa xl xc, .slice xb xm xd], .agg #[.int .i64 pk, .string ps, .int .u64 pn, .slice pa pl pc, .slice pb pm pd], .agg #[.int .i64 yk, .string ys, .int .u64 yn, .slice ya yl yc, .slice yb ym yd], .agg #[.int .i64 qk, .string qs, .int .u64 qn, .slice qa ql qc, .slice qb qm qd], v9, v10, v11, v12, v13, v14, v15, v16, v17, v18, v19, v20, v21, v22, v23, v24, v25, v26, v27], []⟩ ∧ InvSameB w w1 xk xs xn xa xl xc xb xm xd yk ys yn ya yl yc yb ym yd pk ps pn pa pl pc pb pm pd qk qs qn qa ql qc qb qm qd va vb R L v9 v10 v11 v12 v13 v14 v15 v16 v17 v18 v19 v20 v21 v22 v23 v24 v25 v26 v27 v4 wx) ?_ ⟨?_, ?_, ?_, ?_, ?_, ?_, ?_, ?_, ?_, ?_, ?_, ?_, ?_, ?_, ?_, ?_, ?_, ?_, ?_, ?_, trivial⟩ ?_
    · refine ⟨_, _, _, _, _, _, _, _, _, _, _, _, _, _, _, _, _, _, _, _, rfl, ⟨?_, ?_, ?_, ?_, ?_, ?_, ?_, ?_, ?_, ?_, ?_, ?_, ?_, ?_, ?_, ?_, ?_, ?_, ?_, ?_, hX.drew, hY.drew, (Below.refl _ _).drew⟩⟩ <;> (intro h; exact absurd h (by decide))
    · rintro L a wx ⟨v9, v10, v11, v12, v13, v14, v15, v16, v17, v18, v19, v20, v21, v22, v23, v24, v25, v26, v27, v4, rfl, hI⟩ hL hdep hcl K hK
      refine wp_load_mid 26 _ rfl w.heap.size 0 rfl _ _ (hI.aA.range 0 _ (fun j v h => by rw [Nat.zero_add]; exact h)) Tryd.underlying26 rfl (by kernel_rfl) ?_
      exact hK _ _ ⟨_, v10, v11, v12, v13, v14, v15, v16, v17, v18, v19, v20, v21, v22, v23, v24, v25, v26, v27, v4, rfl, ⟨fun _ => rfl, hI.t1, hI.t2, hI.t3, hI.t4, hI.t5, hI.t6, hI.t7, hI.t8, hI.t9, hI.t10, hI.t11, hI.t12, hI.t13, hI.t14, hI.t15, hI.t16, hI.t17, hI.t18, hI.t19, hI.aA, hI.aB, hI.bl⟩⟩
    · rintro L a wx ⟨v9, v10, v11, v12, v13, v14, v15, v16, v17, v18, v19, v20, v21, v22, v23, v24, v25, v26, v27, v4, rfl, hI⟩ hL hdep hcl K hK
      obtain rfl := hI.t0 (hdep 0 (by decide))
      go_simp
      refine (hoA.out _ hI.bl).mono ?_
      rintro e w' ⟨cs', rfl, hp, hb⟩
      exact hK _ _ ⟨_, _, v11, v12, v13, v14, v15, v16, v17, v18, v19, v20, v21, v22, v23, v24, v25, v26, v27, v4, rfl, ⟨hI.t0, fun _ => ⟨cs', rfl, hp⟩, hI.t2, fun h => (by obtain ⟨cs, e1, e2⟩ := hI.t3 h; exact ⟨cs, e1, pv_keep (CellsKept.of_below hb) _ _ e2⟩), hI.t4, hI.t5, hI.t6, hI.t7, hI.t8, hI.t9, hI.t10, fun h => (by obtain ⟨cs, e1, e2⟩ := hI.t11 h; exact ⟨cs, e1, pv_keep (CellsKept.of_below hb) _ _ e2⟩), hI.t12, fun h => (by obtain ⟨cs, e1, e2⟩ := hI.t13 h; exact ⟨cs, e1, pv_keep (CellsKept.of_below hb) _ _ e2⟩), hI.t14, hI.t15, hI.t16, hI.t17, hI.t18, hI.t19, hI.aA.kept hb, hI.aB.kept hb, hI.bl.trans (hb.mono hI.bl.size)⟩⟩
    · rintro L a wx ⟨v9, v10, v11, v12, v13, v14, v15, v16, v17, v18, v19, v20, v21, v22, v23, v24, v25, v26, v27, v4, rfl, hI⟩ hL hdep hcl K hK
      refine wp_load_mid 26 _ rfl (w.heap.size + 1) 0 rfl _ _ (hI.aB.range 0 _ (fun j v h => by rw [Nat.zero_add]; exact h)) Tryd.underlying26 rfl (by kernel_rfl) ?_
      exact hK _ _ ⟨v9, v10, _, v12, v13, v14, v15, v16, v17, v18, v19, v20, v21, v22, v23, v24, v25, v26, v27, v4, rfl, ⟨hI.t0, hI.t1, fun _ => rfl, hI.t3, hI.t4, hI.t5, hI.t6, hI.t7, hI.t8, hI.t9, hI.t10, hI.t11, hI.t12, hI.t13, hI.t14, hI.t15, hI.t16, hI.t17, hI.t18, hI.t19, hI.aA, hI.aB, hI.bl⟩⟩
    · rintro L a wx ⟨v9, v10, v11, v12, v13, v14, v15, v16, v17, v18, v19, v20, v21, v22, v23, v24, v25, v26, v27, v4, rfl, hI⟩ hL hdep hcl K hK
      obtain rfl := hI.t2 (hdep 2 (by decide))
      go_simp
      refine (hoB.out _ hI.bl).mono ?_
      rintro e w' ⟨cs', rfl, hp, hb⟩
      exact hK _ _ ⟨v9, v10, _, _, v13, v14, v15, v16, v17, v18, v19, v20, v21, v22, v23, v24, v25, v26, v27, v4, rfl, ⟨hI.t0, fun h => (by obtain ⟨cs, e1, e2⟩ := hI.t1 h; exact ⟨cs, e1, pv_keep (CellsKept.of_below hb) _ _ e2⟩), hI.t2, fun _ => ⟨cs', rfl, hp⟩, hI.t4, hI.t5, hI.t6, hI.t7, hI.t8, hI.t9, hI.t10, fun h => (by obtain ⟨cs, e1, e2⟩ := hI.t11 h; exact ⟨cs, e1, pv_keep (CellsKept.of_below hb) _ _ e2⟩), hI.t12, fun h => (by obtain ⟨cs, e1, e2⟩ := hI.t13 h; exact ⟨cs, e1, pv_keep (CellsKept.of_below hb) _ _ e2⟩), hI.t14, hI.t15, hI.t16, hI.t17, hI.t18, hI.t19, hI.aA.kept hb, hI.aB.kept hb, hI.bl.trans (hb.mono hI.bl.size)⟩⟩
    · rintro L a wx ⟨v9, v10, v11, v12, v13, v14, v15, v16, v17, v18, v19, v20, v21, v22, v23, v24, v25, v26, v27, v4, rfl, hI⟩ hL hdep hcl K hK
      obtain ⟨cs1, rfl, hp1⟩ := hI.t1 (hdep 1 (by decide))
      obtain ⟨cs2, rfl, hp2⟩ := hI.t3 (hdep 3 (by decide))
      go_simp
      refine (hs1.out _ _ _ hp1 hp2).mono ?_
      rintro e w' ⟨rfl, hb⟩
      exact hK _ _ ⟨v9, _, v11, _, _, v14, v15, v16, v17, v18, v19, v20, v21, v22, v23, v24, v25, v26, v27, v4, rfl, ⟨hI.t0, fun h => (by obtain ⟨cs, e1, e2⟩ := hI.t1 h; exact ⟨cs, e1, pv_keep (CellsKept.of_below hb) _ _ e2⟩), hI.t2, fun h => (by obtain ⟨cs, e1, e2⟩ := hI.t3 h; exact ⟨cs, e1, pv_keep (CellsKept.of_below hb) _ _ e2⟩), fun _ => rfl, hI.t5, hI.t6, hI.t7, hI.t8, hI.t9, hI.t10, fun h => (by obtain ⟨cs, e1, e2⟩ := hI.t11 h; exact ⟨cs, e1, pv_keep (CellsKept.of_below hb) _ _ e2⟩), hI.t12, fun h => (by obtain ⟨cs, e1, e2⟩ := hI.t13 h; exact ⟨cs, e1, pv_keep (CellsKept.of_below hb) _ _ e2⟩), hI.t14, hI.t15, hI.t16, hI.t17, hI.t18, hI.t19, hI.aA.kept hb, hI.aB.kept hb, hI.bl.trans (hb.mono hI.bl.size)⟩⟩
    · rintro L a wx ⟨v9, v10, v11, v12, v13, v14, v15, v16, v17, v18, v19, v20, v21, v22, v23, v24, v25, v26, v27, v4, rfl, hI⟩ hL hdep hcl K hK
      refine wp_load_mid 26 _ rfl w.heap.size 0 rfl _ _ (hI.aA.range 0 _ (fun j v h => by rw [Nat.zero_add]; exact h)) Tryd.underlying26 rfl (by kernel_rfl) ?_
      exact hK _ _ ⟨v9, v10, v11, v12, v13, _, v15, v16, v17, v18, v19, v20, v21, v22, v23, v24, v25, v26, v27, v4, rfl, ⟨hI.t0, hI.t1, hI.t2, hI.t3, hI.t4, fun _ => rfl, hI.t6, hI.t7, hI.t8, hI.t9, hI.t10, hI.t11, hI.t12, hI.t13, hI.t14, hI.t15, hI.t16, hI.t17, hI.t18, hI.t19, hI.aA, hI.aB, hI.bl⟩⟩
    · rintro L a wx ⟨v9, v10, v11, v12, v13, v14, v15, v16, v17, v18, v19, v20, v21, v22, v23, v24, v25, v26, v27, v4, rfl, hI⟩ hL hdep hcl K hK
      refine wp_load_mid 26 _ rfl (w.heap.size + 1) 0 rfl _ _ (hI.aB.range 0 _ (fun j v h => by rw [Nat.zero_add]; exact h)) Tryd.underlying26 rfl (by kernel_rfl) ?_
      exact hK _ _ ⟨v9, v10, v11, v12, v13, v14, _, v16, v17, v18, v19, v20, v21, v22, v23, v24, v25, v26, v27, v4, rfl, ⟨hI.t0, hI.t1, hI.t2, hI.t3, hI.t4, hI.t5, fun _ => rfl, hI.t7, hI.t8, hI.t9, hI.t10, hI.t11, hI.t12, hI.t13, hI.t14, hI.t15, hI.t16, hI.t17, hI.t18, hI.t19, hI.aA, hI.aB, hI.bl⟩⟩
    · rintro L a wx ⟨v9, v10, v11, v12, v13, v14, v15, v16, v17, v18, v19, v20, v21, v22, v23, v24, v25, v26, v27, v4, rfl, hI⟩ hL hdep hcl K hK
      obtain rfl := hI.t5 (hdep 5 (by decide))
      obtain rfl := hI.t6 (hdep 6 (by decide))
      obtain rfl := hI.t4 (hdep 4 (by decide))
      go_simp
      refine (hr.out _ hI.bl).mono ?_
      rintro e w' ⟨rfl, hb⟩
      exact hK _ _ ⟨v9, v10, v11, v12, _, _, _, _, v17, v18, v19, v20, v21, v22, v23, v24, v25, v26, v27, v4, rfl, ⟨hI.t0, fun h => (by obtain ⟨cs, e1, e2⟩ := hI.t1 h; exact ⟨cs, e1, pv_keep (CellsKept.of_below hb) _ _ e2⟩), hI.t2, fun h => (by obtain ⟨cs, e1, e2⟩ := hI.t3 h; exact ⟨cs, e1, pv_keep (CellsKept.of_below hb) _ _ e2⟩), hI.t4, hI.t5, hI.t6, fun _ => rfl, hI.t8, hI.t9, hI.t10, fun h => (by obtain ⟨cs, e1, e2⟩ := hI.t11 h; exact ⟨cs, e1, pv_keep (CellsKept.of_below hb) _ _ e2⟩), hI.t12, fun h => (by obtain ⟨cs, e1, e2⟩ := hI.t13 h; exact ⟨cs, e1, pv_keep (CellsKept.of_below hb) _ _ e2⟩), hI.t14, hI.t15, hI.t16, hI.t17, hI.t18, hI.t19, hI.aA.kept hb, hI.aB.kept hb, hI.bl.trans (hb.mono hI.bl.size)⟩⟩
    · rintro L a wx ⟨v9, v10, v11, v12, v13, v14, v15, v16, v17, v18, v19, v20, v21, v22, v23, v24, v25, v26, v27, v4, rfl, hI⟩ hL hdep hcl K hK
      obtain rfl := hI.t4 (hdep 4 (by decide))
      obtain rfl := hI.t7 (hdep 7 (by decide))
      go_simp
      exact hK _ _ ⟨v9, v10, v11, v12, _, v14, v15, _, _, v18, v19, v20, v21, v22, v23, v24, v25, v26, v27, v4, rfl, ⟨hI.t0, hI.t1, hI.t2, hI.t3, hI.t4, hI.t5, hI.t6, hI.t7, fun _ => rfl, hI.t9, hI.t10, hI.t11, hI.t12, hI.t13, hI.t14, hI.t15, hI.t16, hI.t17, hI.t18, hI.t19, hI.aA, hI.aB, hI.bl⟩⟩
    · rintro L a wx ⟨v9, v10, v11, v12, v13, v14, v15, v16, v17, v18, v19, v20, v21, v22, v23, v24, v25, v26, v27, v4, rfl, hI⟩ hL hdep hcl K hK
      obtain rfl := hI.t8 (hdep 8 (by decide))
      obtain rfl := hI.t7 (hdep 7 (by decide))
      go_simp
      exact hK _ _ ⟨v9, v10, v11, v12, v13, v14, v15, _, _, _, v19, v20, v21, v22, v23, v24, v25, v26, v27, v4, rfl, ⟨hI.t0, hI.t1, hI.t2, hI.t3, hI.t4, hI.t5, hI.t6, hI.t7, hI.t8, fun _ => rfl, hI.t10, hI.t11, hI.t12, hI.t13, hI.t14, hI.t15, hI.t16, hI.t17, hI.t18, hI.t19, hI.aA, hI.aB, hI.bl⟩⟩
    · rintro L a wx ⟨v9, v10, v11, v12, v13, v14, v15, v16, v17, v18, v19, v20, v21, v22, v23, v24, v25, v26, v27, v4, rfl, hI⟩ hL hdep hcl K hK
      obtain rfl := hI.t9 (hdep 9 (by decide))
      refine (if_pos rfl).mpr ?_
      refine wp_load_mid 26 _ rfl w.heap.size 0 rfl _ _ (hI.aA.range 0 _ (fun j v h => by rw [Nat.zero_add]; exact h)) Tryd.underlying26 rfl (by kernel_rfl) ?_
      exact hK _ _ ⟨v9, v10, v11, v12, v13, v14, v15, v16, v17, _, _, v20, v21, v22, v23, v24, v25, v26, v27, v4, rfl, ⟨hI.t0, hI.t1, hI.t2, hI.t3, hI.t4, hI.t5, hI.t6, hI.t7, hI.t8, hI.t9, fun _ => rfl, hI.t11, hI.t12, hI.t13, hI.t14, hI.t15, hI.t16, hI.t17, hI.t18, hI.t19, hI.aA, hI.aB, hI.bl⟩⟩
    · rintro L a wx ⟨v9, v10, v11, v12, v13, v14, v15, v16, v17, v18, v19, v20, v21, v22, v23, v24, v25, v26, v27, v4, rfl, hI⟩ hL hdep hcl K hK
      obtain rfl := hI.t10 (hdep 10 (by decide))
      obtain rfl := hI.t9 (hdep 9 (by decide))
      refine (if_pos rfl).mpr ?_
      go_simp
      refine (hoA.out _ hI.bl).mono ?_
      rintro e w' ⟨cs', rfl, hp, hb⟩
      exact hK _ _ ⟨v9, v10, v11, v12, v13, v14, v15, v16, v17, _, _, _, v21, v22, v23, v24, v25, v26, v27, v4, rfl, ⟨hI.t0, fun h => (by obtain ⟨cs, e1, e2⟩ := hI.t1 h; exact ⟨cs, e1, pv_keep (CellsKept.of_below hb) _ _ e2⟩), hI.t2, fun h => (by obtain ⟨cs, e1, e2⟩ := hI.t3 h; exact ⟨cs, e1, pv_keep (CellsKept.of_below hb) _ _ e2⟩), hI.t4, hI.t5, hI.t6, hI.t7, hI.t8, hI.t9, hI.t10, fun _ => ⟨cs', rfl, hp⟩, hI.t12, fun h => (by obtain ⟨cs, e1, e2⟩ := hI.t13 h; exact ⟨cs, e1, pv_keep (CellsKept.of_below hb) _ _ e2⟩), hI.t14, hI.t15, hI.t16, hI.t17, hI.t18, hI.t19, hI.aA.kept hb, hI.aB.kept hb, hI.bl.trans (hb.mono hI.bl.size)⟩⟩
    · rintro L a wx ⟨v9, v10, v11, v12, v13, v14, v15, v16, v17, v18, v19, v20, v21, v22, v23, v24, v25, v26, v27, v4, rfl, hI⟩ hL hdep hcl K hK
      obtain rfl := hI.t9 (hdep 9 (by decide))
      refine (if_pos rfl).mpr ?_
      refine wp_load_mid 26 _ rfl w.heap.size 0 rfl _ _ (hI.aA.range 0 _ (fun j v h => by rw [Nat.zero_add]; exact h)) Tryd.underlying26 rfl (by kernel_rfl) ?_
      exact hK _ _ ⟨v9, v10, v11, v12, v13, v14, v15, v16, v17, _, v19, v20, _, v22, v23, v24, v25, v26, v27, v4, rfl, ⟨hI.t0, hI.t1, hI.t2, hI.t3, hI.t4, hI.t5, hI.t6, hI.t7, hI.t8, hI.t9, hI.t10, hI.t11, fun _ => rfl, hI.t13, hI.t14, hI.t15, hI.t16, hI.t17, hI.t18, hI.t19, hI.aA, hI.aB, hI.bl⟩⟩
    · rintro L a wx ⟨v9, v10, v11, v12, v13, v14, v15, v16, v17, v18, v19, v20, v21, v22, v23, v24, v25, v26, v27, v4, rfl, hI⟩ hL hdep hcl K hK
      obtain rfl := hI.t12 (hdep 12 (by decide))
      obtain rfl := hI.t9 (hdep 9 (by decide))
      refine (if_pos rfl).mpr ?_
      go_simp
      refine (hoA.out _ hI.bl).mono ?_
      rintro e w' ⟨cs', rfl, hp, hb⟩
      exact hK _ _ ⟨v9, v10, v11, v12, v13, v14, v15, v16, v17, _, v19, v20, _, _, v23, v24, v25, v26, v27, v4, rfl, ⟨hI.t0, fun h => (by obtain ⟨cs, e1, e2⟩ := hI.t1 h; exact ⟨cs, e1, pv_keep (CellsKept.of_below hb) _ _ e2⟩), hI.t2, fun h => (by obtain ⟨cs, e1, e2⟩ := hI.t3 h; exact ⟨cs, e1, pv_keep (CellsKept.of_below hb) _ _ e2⟩), hI.t4, hI.t5, hI.t6, hI.t7, hI.t8, hI.t9, hI.t10, fun h => (by obtain ⟨cs, e1, e2⟩ := hI.t11 h; exact ⟨cs, e1, pv_keep (CellsKept.of_below hb) _ _ e2⟩), hI.t12, fun _ => ⟨cs', rfl, hp⟩, hI.t14, hI.t15, hI.t16, hI.t17, hI.t18, hI.t19, hI.aA.kept hb, hI.aB.kept hb, hI.bl.trans (hb.mono hI.bl.size)⟩⟩
    · rintro L a wx ⟨v9, v10, v11, v12, v13, v14, v15, v16, v17, v18, v19, v20, v21, v22, v23, v24, v25, v26, v27, v4, rfl, hI⟩ hL hdep hcl K hK
      obtain rfl := hI.t9 (hdep 9 (by decide))
      refine (if_pos rfl).mpr ?_
      obtain ⟨cs1, rfl, hp1⟩ := hI.t11 (hdep 11 (by decide))
      obtain ⟨cs2, rfl, hp2⟩ := hI.t13 (hdep 13 (by decide))
      go_simp
      refine (hs2.out _ _ _ hp1 hp2).mono ?_
      rintro e w' ⟨rfl, hb⟩
      exact hK _ _ ⟨v9, v10, v11, v12, v13, v14, v15, v16, v17, _, v19, _, v21, _, _, v24, v25, v26, v27, v4, rfl, ⟨hI.t0, fun h => (by obtain ⟨cs, e1, e2⟩ := hI.t1 h; exact ⟨cs, e1, pv_keep (CellsKept.of_below hb) _ _ e2⟩), hI.t2, fun h => (by obtain ⟨cs, e1, e2⟩ := hI.t3 h; exact ⟨cs, e1, pv_keep (CellsKept.of_below hb) _ _ e2⟩), hI.t4, hI.t5, hI.t6, hI.t7, hI.t8, hI.t9, hI.t10, fun h => (by obtain ⟨cs, e1, e2⟩ := hI.t11 h; exact ⟨cs, e1, pv_keep (CellsKept.of_below hb) _ _ e2⟩), hI.t12, fun h => (by obtain ⟨cs, e1, e2⟩ := hI.t13 h; exact ⟨cs, e1, pv_keep (CellsKept.of_below hb) _ _ e2⟩), fun _ => rfl, hI.t15, hI.t16, hI.t17, hI.t18, hI.t19, hI.aA.kept hb, hI.aB.kept hb, hI.bl.trans (hb.mono hI.bl.size)⟩⟩
    · rintro L a wx ⟨v9, v10, v11, v12, v13, v14, v15, v16, v17, v18, v19, v20, v21, v22, v23, v24, v25, v26, v27, v4, rfl, hI⟩ hL hdep hcl K hK
      obtain rfl := hI.t9 (hdep 9 (by decide))
      obtain rfl := hI.t14 (hdep 14 (by decide))
      go_simp
      exact hK _ _ ⟨v9, v10, v11, v12, v13, v14, v15, v16, v17, _, v19, v20, v21, v22, _, _, v25, v26, v27, v4, rfl, ⟨hI.t0, hI.t1, hI.t2, hI.t3, hI.t4, hI.t5, hI.t6, hI.t7, hI.t8, hI.t9, hI.t10, hI.t11, hI.t12, hI.t13, hI.t14, fun _ => rfl, hI.t16, hI.t17, hI.t18, hI.t19, hI.aA, hI.aB, hI.bl⟩⟩
    · rintro L a wx ⟨v9, v10, v11, v12, v13, v14, v15, v16, v17, v18, v19, v20, v21, v22, v23, v24, v25, v26, v27, v4, rfl, hI⟩ hL hdep hcl K hK
      obtain rfl := hI.t15 (hdep 15 (by decide))
      obtain rfl := hI.t14 (hdep 14 (by decide))
      go_simp
      exact hK _ _ ⟨v9, v10, v11, v12, v13, v14, v15, v16, v17, v18, v19, v20, v21, v22, _, _, _, v26, v27, v4, rfl, ⟨hI.t0, hI.t1, hI.t2, hI.t3, hI.t4, hI.t5, hI.t6, hI.t7, hI.t8, hI.t9, hI.t10, hI.t11, hI.t12, hI.t13, hI.t14, hI.t15, fun _ => rfl, hI.t17, hI.t18, hI.t19, hI.aA, hI.aB, hI.bl⟩⟩
    · rintro L a wx ⟨v9, v10, v11, v12, v13, v14, v15, v16, v17, v18, v19, v20, v21, v22, v23, v24, v25, v26, v27, v4, rfl, hI⟩ hL hdep hcl K hK
      obtain rfl := hI.t16 (hdep 16 (by decide))
      refine (if_pos rfl).mpr ?_
      go_simp
      refine (hwk.out _ hI.bl).mono ?_
      rintro e w' ⟨rfl, hb⟩
      exact hK _ _ ⟨v9, v10, v11, v12, v13, v14, v15, v16, v17, v18, v19, v20, v21, v22, v23, v24, _, _, v27, v4, rfl, ⟨hI.t0, fun h => (by obtain ⟨cs, e1, e2⟩ := hI.t1 h; exact ⟨cs, e1, pv_keep (CellsKept.of_below hb) _ _ e2⟩), hI.t2, fun h => (by obtain ⟨cs, e1, e2⟩ := hI.t3 h; exact ⟨cs, e1, pv_keep (CellsKept.of_below hb) _ _ e2⟩), hI.t4, hI.t5, hI.t6, hI.t7, hI.t8, hI.t9, hI.t10, fun h => (by obtain ⟨cs, e1, e2⟩ := hI.t11 h; exact ⟨cs, e1, pv_keep (CellsKept.of_below hb) _ _ e2⟩), hI.t12, fun h => (by obtain ⟨cs, e1, e2⟩ := hI.t13 h; exact ⟨cs, e1, pv_keep (CellsKept.of_below hb) _ _ e2⟩), hI.t14, hI.t15, hI.t16, fun _ => rfl, hI.t18, hI.t19, hI.aA.kept hb, hI.aB.kept hb, hI.bl.trans (hb.mono hI.bl.size)⟩⟩
    · rintro L a wx ⟨v9, v10, v11, v12, v13, v14, v15, v16, v17, v18, v19, v20, v21, v22, v23, v24, v25, v26, v27, v4, rfl, hI⟩ hL hdep hcl K hK
      obtain rfl := hI.t16 (hdep 16 (by decide))
      obtain rfl := hI.t17 (hdep 17 (by decide))
      go_simp
      exact hK _ _ ⟨v9, v10, v11, v12, v13, v14, v15, v16, v17, v18, v19, v20, v21, v22, v23, v24, _, _, _, v4, rfl, ⟨hI.t0, hI.t1, hI.t2, hI.t3, hI.t4, hI.t5, hI.t6, hI.t7, hI.t8, hI.t9, hI.t10, hI.t11, hI.t12, hI.t13, hI.t14, hI.t15, hI.t16, hI.t17, fun _ => rfl, hI.t19, hI.aA, hI.aB, hI.bl⟩⟩
    · rintro L a wx ⟨v9, v10, v11, v12, v13, v14, v15, v16, v17, v18, v19, v20, v21, v22, v23, v24, v25, v26, v27, v4, rfl, hI⟩ hL hdep hcl K hK
      obtain rfl := hI.t18 (hdep 18 (by decide))
      obtain rfl := hI.t17 (hdep 17 (by decide))
      go_simp
      exact hK _ _ ⟨v9, v10, v11, v12, v13, v14, v15, v16, v17, v18, v19, v20, v21, v22, v23, v24, v25, _, _, _, rfl, ⟨hI.t0, hI.t1, hI.t2, hI.t3, hI.t4, hI.t5, hI.t6, hI.t7, hI.t8, hI.t9, hI.t10, hI.t11, hI.t12, hI.t13, hI.t14, hI.t15, hI.t16, hI.t17, hI.t18, fun _ => rfl, hI.aA, hI.aB, hI.bl⟩⟩
    · rintro a wx ⟨v9, v10, v11, v12, v13, v14, v15, v16, v17, v18, v19, v20, v21, v22, v23, v24, v25, v26, v27, v4, rfl, hI⟩
      obtain rfl := hI.t19 rfl
      have hbl := hI.bl
      clear hI
      go_wp2
      go_ret
      exact ⟨rfl, HB1.out.trans (hbl.mono HB1.out.size)⟩
end Go.Proofs.YtighbdhjegklbaaDoor

namespace Go.Proofs.YtighbdhjegklbaaDoor
open Go.ChangeShapes Go.WideShapes Go.ChangeAt Go.RowKit
set_option maxRecDepth 100000

/-- the value that came in -/
theorem rv_of_any {H : Type} {enc : TypeId × Value → H} {W : World} {sp : Nat → Bool} {fuel : Nat} {cs : List Value} {y : DataW H × List MemPlace} (h : DataW.trod enc Tryd.prog W 0 sp true fuel 26 cs = some y) : ∃ v, RV W v cs ∧ totV v ≤ Rows.uptoBulk y.1 :=
  rv_of_trod_b Tryd.underlying26 rfl rfl rfl rfl rfl (by kernel_rfl) (by kernel_rfl) Tryd.underlying3 Tryd.underlying9 Tryd.underlying22 Tryd.underlying23 Tryd.underlying24 (by kernel_rfl) _ fuel cs y (Nat.le_refl _) h
theorem value_of_trod {H : Type} {enc : TypeId × Value → H} {W : World} {v : Value} {d : DataW H} {p : List MemPlace} {b0 : Nat} {sp : Nat → Bool} (hval : Value.okWide Tryd.prog W .any b0 26 v) (h0 : DataW.Trod enc Tryd.prog W 0 sp true 26 v d p) :
    ∃ cs x, v = .agg (List.toArray cs) ∧ RV W x cs ∧ totV x ≤ Rows.uptoBulk d := by
  obtain ⟨⟨cs⟩, rfl, -⟩ := okWide_struct Tryd.underlying26 hval
  obtain ⟨fuel, hf⟩ := h0
  obtain ⟨x, h1, h2⟩ := rv_of_any (y := (d, p)) hf
  exact ⟨_, x, rfl, h1, h2⟩

theorem jsonSame_contract (H : Type) (enc : TypeId × Value → H) (W : World) (base : Nat) (args : Array Value) (ds gs : List (DataW H)) (before : List MemPlace)
    (hval : ∀ (j : Nat) t v, Tryd.f5.params[j]? = some t → args[j]? = some v → Value.okWide Tryd.prog W .any base t v)
    (hW : DataW.Whole enc Tryd.prog Tryd.f5.params.toList Rows.jsonSameSpec.vars false W args.toList ds gs before) (hk : Rows.uptoSmall H (ds ++ gs) = true) (hT : Tabs W) :
    Calls Tryd.prog 5 args W fun e W' => ∃ v, e = .returned v ∧ Rows.jsonSameSpec.post enc Tryd.prog Tryd.f5 false true false false W args v W' := by
  have hW' := hW
  obtain ⟨p, q, hA0, hV, rfl, _, _⟩ := hW
  have hA : DataW.TrodAll enc Tryd.prog W 0 (fun _ => true) true Tryd.f5.params.toList args.toList ds p := hA0
  have hval' := hval
  rw [Tryd.params5] at hA hval'
  obtain ⟨v0, v1, d0, d1, p0, p1, hargs, rfl, rfl, h0, h1⟩ := trodAll_two hA
  obtain rfl : args = #[v0, v1] := by cases args; simp_all
  obtain ⟨rfl, rfl⟩ := trodVars_none hV
  have hb := bulk_bound hk
  simp only [Rows.uptoBulkAll, List.append_nil] at hb
  obtain ⟨c0, x0, rfl, hx0, hb0⟩ := value_of_trod (hval' 0 26 v0 rfl rfl) h0
  obtain ⟨c1, x1, rfl, hx1, hb1⟩ := value_of_trod (hval' 1 26 v1 rfl rfl) h1
  refine (JsonSame_any x0 x1 c0 c1 W hx0 hx1 (by omega) (by omega) hT).mono fun e W' ⟨he, hw⟩ => ?_
  subst he
  exact ⟨_, rfl, law_post laidOuts (by kernel_rfl) rfl Tryd.underlying4 rfl hW' hw rfl⟩

set_option maxRecDepth 100000 in
theorem jsonSame_lifted (os : Os) (started : os.Started) (H : Type) (enc : TypeId × Value → H) (F : Stop.Interp) :
    ReturnsInHanded {} Tryd.checked os 5 .any ((Rows.OpenSpec.upto Rows.jsonSameSpec).preRow enc Tryd.prog Tryd.f5 Rows.jsonSameUptoRow.domain false Rows.jsonSameUptoRow.laid) (((Rows.OpenSpec.upto Rows.jsonSameSpec).at F).post enc Tryd.prog Tryd.f5 false true false false) := by
  refine returnsInHanded_of_row (C := Tryd.checked) (s := Rows.OpenSpec.upto Rows.jsonSameSpec) ownKnobs started (by kernel_rfl) Tryd.func5
    (witness_laid (enc := enc) (os := os) false #[Value.agg #[.int .i64 0, .string ⟨#[]⟩, .int .u64 0, .slice none 0 0, .slice none 0 0], Value.agg #[.int .i64 0, .string ⟨#[]⟩, .int .u64 0, .slice none 0 0, .slice none 0 0]] (by kernel_rfl)
      (OpenSpec.preRow_of_cond 8 (x := ([.agg [.lit (.int .i64 0), .lit (.string []), .lit (.int .u64 0), .nil, .nil], .agg [.lit (.int .i64 0), .lit (.string []), .lit (.int .u64 0), .nil, .nil]], [], [])) (by kernel_rfl) (by kernel_rfl) (fun k hk => by cases hk; kernel_rfl) (by kernel_rfl) (laid_any os #[Value.agg #[.int .i64 0, .string ⟨#[]⟩, .int .u64 0, .slice none 0 0, .slice none 0 0], Value.agg #[.int .i64 0, .string ⟨#[]⟩, .int .u64 0, .slice none 0 0, .slice none 0 0]]))) ?_
  intro W base args ds gs before hval hW _ hk _ hL _ _
  exact jsonSame_contract H enc W base args ds gs before hval hW (hk _ rfl) (tabs_of_laid hL)

theorem jsonSame_said : Rows.JsonSameUptoSaid :=
  OpenClaim.holds_of_cond 5 Tryd.f5 rfl rfl rfl rfl rfl rfl rfl ⟨rfl, rfl, rfl, rfl, rfl⟩ rfl rfl rfl rfl rfl (by kernel_rfl) Tryd.func5 (by kernel_rfl)
    (of_decide_eq_true (by kernel_rfl)) (by unfold Func.isWrapper; first | (rw [if_pos (by decide +kernel)]; kernel_rfl) | (rw [if_neg (by decide +kernel)]; exact ⟨rfl, rfl⟩))
    (fun os started H enc _ F => by rw [OpenClaim.pre_eq_preRow]; exact jsonSame_lifted os started H enc F)

theorem jsonSame_plain (f : FuncId) (fn : Func) (hf : Tryd.pinned.checked.prog.funcNamed "escritoire/escritoirelaw04.JsonSame" = some f) (hfn : Tryd.pinned.checked.prog.funcs[f]? = some fn) :
    true = Tryd.pinned.checked.prog.looks [] ∧ ∀ (j : Nat) t, fn.params[j]? = some t → Tryd.pinned.checked.prog.wantsStandIn t = false := by
  obtain rfl : f = 5 := Option.some.inj ((show Tryd.prog.funcNamed "escritoire/escritoirelaw04.JsonSame" = some 5 by kernel_rfl).symm.trans hf) |>.symm
  obtain rfl : fn = Tryd.f5 := (Option.some.inj (Tryd.func5.symm.trans hfn)).symm
  refine ⟨by kernel_rfl, fun j t ht => ?_⟩
  have hm : t ∈ Tryd.f5.params.toList := by simpa using Array.mem_of_getElem? ht
  have hall : (Tryd.f5.params.toList.all fun u => !Tryd.prog.wantsStandIn u) = true := by kernel_rfl
  exact (show Tryd.prog.wantsStandIn t = false by simpa using List.all_eq_true.1 hall t hm)

theorem jsonSame_proved : Rows.JsonSameUptoCardSaid :=
  Claim7.holds_tied_plain_at .later [] _ _ _ _ jsonSame_said (fun _ h => by cases h) (by kernel_rfl) (fun _ h => by cases h) jsonSameUpto_row_tie rfl ⟨rfl, rfl⟩ (by kernel_rfl) rfl jsonSame_plain (by kernel_rfl)
end Go.Proofs.YtighbdhjegklbaaDoor
