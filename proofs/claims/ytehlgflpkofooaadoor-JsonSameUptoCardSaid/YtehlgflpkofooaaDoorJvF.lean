/-
  The program's Same: whether two values are the same. Conditions: those in each statement.
-/
import Derived.Test.YtehlgflpkofooaaDoorJvE
import Derived.Deep.LoopGhost
import Derived.Test.YtehlgflpkofooaaDoorReg
namespace Go.Proofs.YtehlgflpkofooaaDoor
open Go.RowKit

structure InvSame (xk1 : Int) (xs1 : List UInt8) (xn1 : Nat) (xa1 : Option Addr) (xl1 : List JV) (xc1 : Nat) (xb1 : Option Addr) (xks1 : List (List UInt8)) (xd1 : Nat) (yk1 : Int) (ys1 : List UInt8) (yn1 : Nat) (ya1 : Option Addr) (yl1 : List JV) (yc1 : Nat) (yb1 : Option Addr) (yks1 : List (List UInt8)) (yd1 : Nat) (xp yp : Option Addr) (NX NY : Nat) (w11 : World) (L : Nat → Bool) (v52 v53 v54 v55 v56 v57 v58 v11 : Value) (wx : World) : Prop where
  t0 : L 0 = true → v52 = .pointer (some ⟨NX, 3, none⟩)
  t1 : L 1 = true → v53 = .slice xa1 xl1.length xc1
  t2 : L 2 = true → v54 = .agg #[.pointer xp, .int .i64 (xl1.length : Int)]
  t3 : L 3 = true → v55 = .pointer (some ⟨NY, 3, none⟩)
  t4 : L 4 = true → v56 = .slice ya1 yl1.length yc1
  t5 : L 5 = true → v57 = .agg #[.pointer yp, .int .i64 (yl1.length : Int)]
  t6 : L 6 = true → v58 = .agg #[.pointer xp, .int .i64 (xl1.length : Int), .pointer yp, .int .i64 (yl1.length : Int)]
  t7 : L 7 = true → ∃ G zs, v11 = .pointer (some ⟨G, 0, none⟩) ∧ w11.heap.size ≤ G ∧ Arr wx G 82 zs ∧ zs.length = 4 ∧ (L 8 = true → zs = [.pointer xp, .int .i64 (xl1.length : Int), .pointer yp, .int .i64 (yl1.length : Int)])
  aX : Arr wx NX 30 [Value.int .i64 xk1, .string (bstr xs1), .int .u64 (xn1 : Int), .slice xa1 xl1.length xc1, .slice xb1 xks1.length xd1]
  aY : Arr wx NY 30 [Value.int .i64 yk1, .string (bstr ys1), .int .u64 (yn1 : Int), .slice ya1 yl1.length yc1, .slice yb1 yks1.length yd1]
  bl : Below w11.heap.size w11 wx

set_option maxRecDepth 100000 in
set_option maxHeartbeats 4000000 in
theorem Same_any (v v' : JV) (cs cs' : List Value) (w : World) (h : PV w v cs) (h' : PV w v' cs') (hwt : wtV v ≤ 1073741824) :
    Calls Tryd.prog 22 #[.agg cs.toArray, .agg cs'.toArray] w fun e w' => e = .returned (.bool (sameF v v')) ∧ Below w.heap.size w w' := by
  have hmm : ∀ (w : World), (Instr.makeMap 75 none).run Tryd.prog w = .ok (.map (some w.heap.size)) (w.alloc (.map #[] 0)) := fun w => by
    simp [Instr.makeMap, Result.andThen]
  have h0 := Lib.hid h
  have h0' := Lib.hid h'
  obtain ⟨xk, xs, xn, xa, xl, xc, xb, xm, xd, rfl⟩ := pv_shape h
  obtain ⟨yk, ys, yn, ya, yl, yc, yb, ym, yd, rfl⟩ := pv_shape h'
  clear h h'
  obtain ⟨R, hR⟩ : ∃ R, R = sameF v v' := ⟨_, rfl⟩
  rw [← hR]
  have HR := Lib.hid hR
  clear hR
  go_enter Tryd.func22, Tryd.ntmps22
  go_upto_region 3 with fail
  obtain ⟨W3, hW3⟩ : ∃ W3, W3 = ((w.alloc (.cells #[.int .i64 xk, .string xs, .int .u64 xn, .slice xa xl xc, .slice xb xm xd] 30)).alloc (.cells #[.int .i64 yk, .string ys, .int .u64 yn, .slice ya yl yc, .slice yb ym yd] 30)).alloc (.map #[] 0) := ⟨_, rfl⟩
  rw [← hW3]
  obtain ⟨g, hg⟩ : ∃ g, g = w.heap.size := ⟨_, rfl⟩
  have z3 : W3.heap.size = g + 3 := by rw [hW3, hg]; simp
  have hB3 : Below w.heap.size w W3 := by rw [hW3]; exact (((Below.refl _ _).alloc (Nat.le_refl _) _).alloc (by simp) _).alloc (by simp; omega) _
  have hM3 : MapR GBoth W3 (g + 2) [] := by
    have := MapR.new (G := GBoth) ((w.alloc (.cells #[.int .i64 xk, .string xs, .int .u64 xn, .slice xa xl xc, .slice xb xm xd] 30)).alloc (.cells #[.int .i64 yk, .string ys, .int .u64 yn, .slice ya yl yc, .slice yb ym yd] 30))
    rw [← hW3] at this
    rw [hg]
    simpa using this
  obtain ⟨W6, hW6⟩ : ∃ W6, W6 = ((W3.alloc (.cells #[.int .i64 xk, .string xs, .int .u64 xn, .slice xa xl xc, .slice xb xm xd] 30)).alloc (.cells #[.int .i64 yk, .string ys, .int .u64 yn, .slice ya yl yc, .slice yb ym yd] 30)).alloc (.cells #[.slice (some ⟨g + 3, 0, none⟩) 1 1, .slice (some ⟨g + 4, 0, none⟩) 1 1] 76) := ⟨_, rfl⟩
  have hP4 := Arr.new W3 30 [.int .i64 xk, .string xs, .int .u64 xn, .slice xa xl xc, .slice xb xm xd]
  have hQ5 := Arr.new (W3.alloc (.cells #[.int .i64 xk, .string xs, .int .u64 xn, .slice xa xl xc, .slice xb xm xd] 30)) 30 [.int .i64 yk, .string ys, .int .u64 yn, .slice ya yl yc, .slice yb ym yd]
  have hS6 := Arr.new ((W3.alloc (.cells #[.int .i64 xk, .string xs, .int .u64 xn, .slice xa xl xc, .slice xb xm xd] 30)).alloc (.cells #[.int .i64 yk, .string ys, .int .u64 yn, .slice ya yl yc, .slice yb ym yd] 30)) 76 [.slice (some ⟨g + 3, 0, none⟩) 1 1, .slice (some ⟨g + 4, 0, none⟩) 1 1]
  have hP6 : Arr W6 (g + 3) 30 [.int .i64 xk, .string xs, .int .u64 xn, .slice xa xl xc, .slice xb xm xd] := by
    rw [hW6, ← z3]
    exact (hP4.kept ((Below.refl _ _).alloc (Nat.le_refl _) _)).kept ((Below.refl _ _).alloc (Nat.le_refl _) _)
  have hQ6 : Arr W6 (g + 4) 30 [.int .i64 yk, .string ys, .int .u64 yn, .slice ya yl yc, .slice yb ym yd] := by
    have := hQ5.kept ((Below.refl _ _).alloc (Nat.le_refl _) (.cells #[.slice (some ⟨g + 3, 0, none⟩) 1 1, .slice (some ⟨g + 4, 0, none⟩) 1 1] 76))
    rw [World.size_alloc, z3] at this
    rw [hW6]
    exact this
  have hR6 : Arr W6 (g + 5) 76 [.slice (some ⟨g + 3, 0, none⟩) 1 1, .slice (some ⟨g + 4, 0, none⟩) 1 1] := by
    rw [World.size_alloc, World.size_alloc, z3] at hS6
    rw [hW6]
    exact hS6
  have hB36 : Below W3.heap.size W3 W6 := by rw [hW6]; exact (((Below.refl _ _).alloc (Nat.le_refl _) _).alloc (by simp) _).alloc (by simp; omega) _
  have hB6 : Below w.heap.size w W6 := hB3.trans (hB36.mono (by omega))
  have hM6 : MapR GBoth W6 (g + 2) [] := hM3.below both_ok hB36
  obtain ⟨S, hS⟩ : ∃ S : Nat → Prop, S = fun x => x < g + 5 ∧ x ≠ g + 2 := ⟨_, rfl⟩
  have hsv : SV S W6 v [.int .i64 xk, .string xs, .int .u64 xn, .slice xa xl xc, .slice xb xm xd] := sv_to (fun b hb _ => by rw [hS]; exact ⟨by omega, by omega⟩) (Stay.of_below hB6) _ _ (hg ▸ pv_sv v _ h0.out)
  have hsv' : SV S W6 v' [.int .i64 yk, .string ys, .int .u64 yn, .slice ya yl yc, .slice yb ym yd] := sv_to (fun b hb _ => by rw [hS]; exact ⟨by omega, by omega⟩) (Stay.of_below hB6) _ _ (hg ▸ pv_sv v' _ h0'.out)
  have hO6 : OpenR S (g + 5) W6 (.slice (some ⟨g + 5, 0, none⟩) 1 1) [([v], [v'])] := by
    refine ⟨[.slice (some ⟨g + 3, 0, none⟩) 1 1, .slice (some ⟨g + 4, 0, none⟩) 1 1], ⟨rfl, .inr ⟨g + 5, 1, _, rfl, Nat.le_refl _, hR6, Nat.le_refl _, by unfold maxLen; omega, rfl, rfl⟩⟩, fun j p hj => ?_⟩
    match j, hj with
    | 0, hj =>
      cases hj
      refine ⟨_, _, rfl, rfl, some ⟨g + 3, 0, none⟩, 1, some ⟨g + 4, 0, none⟩, 1, rfl, rfl, ⟨⟨by simp, by omega⟩, (by intro e; cases e), fun _ => ⟨g + 3, 0, rfl, by rw [hS]; exact ⟨by omega, by omega⟩, ⟨_, _, hP6⟩, ?_⟩⟩, ⟨⟨by simp, by omega⟩, (by intro e; cases e), fun _ => ⟨g + 4, 0, rfl, by rw [hS]; exact ⟨by omega, by omega⟩, ⟨_, _, hQ6⟩, ?_⟩⟩⟩
      · unfold SL
        exact ⟨⟨_, rfl, fun j hj => by rw [hP6.cell, Nat.zero_add], hsv⟩, by unfold SL; trivial⟩
      · unfold SL
        exact ⟨⟨_, rfl, fun j hj => by rw [hQ6.cell, Nat.zero_add], hsv'⟩, by unfold SL; trivial⟩
  have hlt6 : Hid (g + 5 < W6.heap.size) := hR6.lt
  rw [← hg, show g + 1 + 1 = g + 2 by omega, show g + 2 + 1 = g + 3 by omega, show g + 3 + 1 = g + 4 by omega, show g + 4 + 1 = g + 5 by omega, ← hW6]
  have HG := Lib.hid hg
  have HS := Lib.hid hS
  have HWT := Lib.hid hwt
  clear hW3 hg z3 hB3 hM3 hW6 hP4 hQ5 hS6 hP6 hQ6 hR6 hB36 hS hsv hsv' hwt
  go_loopg [6] (wtV v + 2) (fun gk vo wr => ∃ (st ms : List LP) (ps : List (Value × Value)), OpenR S (g + 5) wr vo st ∧ MapR GBoth wr (g + 2) ps ∧ Hid (MetP S wr ps ms) ∧ Hid (Below w.heap.size w wr) ∧ Hid (g + 5 < wr.heap.size) ∧ wtP st < gk ∧ Hid (wtP st ≤ 1073741825) ∧ Hid (v = v' → ∀ p ∈ st, p.1 = p.2) ∧ Hid (∀ p ∈ st, p.1.length = p.2.length) ∧ Hid (∀ p, p ∈ ms ∨ p = ([v], [v']) → p ∈ st ∨ DoneP p ms))
  case atStart =>
    have hw1 : wtP [([v], [v'])] = wtV v + 1 := by simp [wtP, wtS]; omega
    exact ⟨[([v], [v'])], [], [], hO6, hM6, ⟨fun q hq => (by cases hq), fun q hq => (by cases hq), fun p hp => (by cases hp)⟩, hB6, hlt6, by omega, (by show _ ≤ _; have := HWT.out; omega), fun e p hp => by
      obtain rfl := List.mem_singleton.1 hp
      rw [e], fun p hp => by
      obtain rfl := List.mem_singleton.1 hp
      rfl, fun p hp => by
      rcases hp with hp | hp
      · cases hp
      · exact .inl (by rw [hp]; simp)⟩
  case round =>
    clear hO6 hM6 hB6 hlt6
    obtain ⟨st, ms, ps, hO, hM, hMet, hB, hgl, hgk, hwb, hI1, hI2, hI3⟩ := hrel
    rcases List.eq_nil_or_concat st with rfl | ⟨st0, pr, rfl⟩
    · have HF : Hid (R = true) := by
        show _ = _
        rw [HR.out, same_eq]
        have hd := done_same (ms := ms) ([v], [v']) ((hI3.out _ (.inr rfl)).resolve_left (by simp)) (fun p hp => (hI3.out p (.inl hp)).resolve_left (by simp))
        simpa using hd
      obtain ⟨xs6, ⟨-, hv | ⟨g6, c6, cur, rfl, -⟩⟩, -⟩ := hO
      · obtain ⟨rfl, -⟩ := hv
        go_wp2
        go_ret
        exact ⟨by rw [HF.out]; rfl, hB.out⟩
      · go_wp2
        go_ret
        exact ⟨by rw [HF.out]; rfl, hB.out⟩
    · obtain ⟨la, lb⟩ := pr
      rw [List.concat_eq_append] at *
      obtain ⟨xs6, ⟨hx1, hv | ⟨g6, c6, cur, rfl, hg6, hc6, hn6, hm6, hcs, hct⟩⟩, hps⟩ := hO
      · exact absurd hv.2 (by simp)
      obtain ⟨X, Y, hX, hY, a, c, b, d, rfl, rfl, hla, hlb⟩ := hps st0.length (la, lb) (by simp)
      rw [List.length_append, List.length_singleton] at *
      have HCT := Lib.hid hct
      have HC6 := Lib.hid hc6
      have q0 : wr.cell? ⟨g6, st0.length * 2, none⟩ = some (.slice a la.length c) := by
        rw [cell_of_row _ g6 _ _ 76 (0, 0) hc6]
        rw [← hct, List.getElem?_take_of_lt (by omega)] at hX
        rw [← Array.getElem?_toList, Nat.mul_comm]
        exact hX
      have q1 : wr.cell? ⟨g6, st0.length * 2 + 1, none⟩ = some (.slice b lb.length d) := by
        rw [cell_of_row _ g6 _ _ 76 (0, 0) hc6]
        rw [← hct, List.getElem?_take_of_lt (by omega)] at hY
        rw [← Array.getElem?_toList, Nat.mul_comm]
        exact hY
      have hnb : Hid (st0.length + 1 ≤ 1073741825) := by show _ ≤ _; have := wtP_len (st0 ++ [(la, lb)]); have := hwb.out; simp at *; omega
      have hs1 : st0.length ≤ 9223372036854775806 := by have := hnb.out; omega
      have hs2 : st0.length < c6 := by omega
      clear hct hx1
      go_upto_region 6 with fail
      have hv7 : Hid (∀ k, (Value.slice (some ⟨g6, 0, none⟩) st0.length c6).ownBlock = some k → k ≠ wr.heap.size) := fun k hk => by
        cases hk
        have := (Array.getElem?_eq_some_iff.1 hc6).1
        show g6 ≠ _
        omega
      have hl2 : Hid (la.length = lb.length) := hI2.out (la, lb) (by simp)
      have hN7 := Arr.new wr 76 [.slice a la.length c, .slice b lb.length d]
      have hb7 : Below wr.heap.size wr (wr.alloc (.cells [.slice a la.length c, .slice b lb.length d].toArray 76)) := (Below.refl _ _).alloc (Nat.le_refl _) _
      have hO7 : OpenR S (g + 5) (wr.alloc (.cells [.slice a la.length c, .slice b lb.length d].toArray 76)) (.slice (some ⟨g6, 0, none⟩) st0.length c6) st0 := by
        refine OpenR.to' ⟨xs6.take (st0.length * 2), ⟨?_, .inr ⟨g6, c6, cur, rfl, hg6, HC6.out, by omega, hm6, hcs, ?_⟩⟩, fun j p hj => ?_⟩ (fun k hk => hb7.block k ?_) (Stay.of_below hb7)
        · have hcl : cur.toList.length = c6 * 2 := by rw [Array.length_toList]; exact hcs
          rw [← HCT.out, List.take_take, List.length_take, hcl]
          omega
        · rw [← HCT.out, List.take_take]
          congr 1
          omega
        · have hjl := (List.getElem?_eq_some_iff.1 hj).1
          obtain ⟨x, y, e1, e2, e3⟩ := hps j p (by rw [List.getElem?_append_left hjl]; exact hj)
          exact ⟨x, y, by rw [List.getElem?_take_of_lt (by omega)]; exact e1, by rw [List.getElem?_take_of_lt (by omega)]; exact e2, e3⟩
        · cases hk
          exact (Array.getElem?_eq_some_iff.1 HC6.out).1
      have hM7 := hM.below both_ok hb7
      have hMet7 := hMet.out.to' (Stay.of_below (S := S) hb7)
      have hB7 := hB.out.trans (hb7.mono hB.out.size)
      have hgl7 : Hid (g + 5 < (wr.alloc (.cells [.slice a la.length c, .slice b lb.length d].toArray 76)).heap.size) := Nat.lt_of_lt_of_le hgl.out hb7.size
      have hla7 := hla.to' (S' := S) (fun _ h _ => h) (Stay.of_below hb7)
      have hlb7 := hlb.to' (S' := S) (fun _ h _ => h) (Stay.of_below hb7)
      have hN0 : Hid (g + 5 < wr.heap.size) := hgl
      have hwt7 : wtP st0 + wtS la + 1 < gk := by have := hgk; rw [wtP_snoc] at this; simp at this; omega
      have hwb7 : Hid (wtP st0 + wtS la + 1 ≤ 1073741825) := by show _ ≤ _; have := hwb.out; rw [wtP_snoc] at this; simp at this; omega
      have hJ1 : Hid (v = v' → la = lb) := fun e => hI1.out e (la, lb) (by simp)
      have hK1 : Hid (v = v' → ∀ p ∈ st0, p.1 = p.2) := fun e p hp => hI1.out e p (by simp [hp])
      have hK2 : Hid (∀ p ∈ st0, p.1.length = p.2.length) := fun p hp => hI2.out p (by simp [hp])
      have hK3 : Hid (∀ p, p ∈ ms ∨ p = ([v], [v']) → p ∈ st0 ∨ DoneP p ms ∨ p = (la, lb)) := fun p hp => by
        rcases hI3.out p hp with h | h
        · rcases List.mem_append.1 h with h | h
          · exact .inl h
          · exact .inr (.inr (List.mem_singleton.1 h))
        · exact .inr (.inl h)
      have u0 := (hN7.cell 0).trans (show _ = some (Value.slice a la.length c) from rfl)
      generalize wr.alloc (.cells [.slice a la.length c, .slice b lb.length d].toArray 76) = W7 at *
      generalize hNN : wr.heap.size = N at *
      have hcl : la.length ≤ 9223372036854775807 := Nat.le_trans hla.1.1 hla.1.2
      have hdl : lb.length ≤ 9223372036854775807 := Nat.le_trans hlb.1.1 hlb.1.2
      have hlac : Hid (la.length ≤ c) := hla.1.1
      have hlbd : Hid (lb.length ≤ d) := hlb.1.1
      clear hM hMet hB hgl hgk hwb hI1 hI2 hI3 hX hY hps hla hlb q0 q1 hb7 hnb hNN HCT HC6 hg6 hn6 hm6 hcs hs1 hs2 hc6
      go_upto_region 7 with fail
      clear u0
      go_loopw [6, 38] (fun vo i wr => ∃ (m : Nat) (st ms : List LP) (ps : List (Value × Value)), m ≤ la.length ∧ i = .int .i64 m ∧ OpenR S (g + 5) wr vo st ∧ MapR GBoth wr (g + 2) ps ∧ Hid (MetP S wr ps ms) ∧ Hid (Below w.heap.size w wr) ∧ Hid (g + 5 < wr.heap.size) ∧ Arr wr N 76 [.slice a la.length c, .slice b lb.length d] ∧ Hid (SLi S wr la a c) ∧ Hid (SLi S wr lb b d) ∧
        wtP st + wtS (la.drop m) + 1 < gk ∧ Hid (wtP st + wtS (la.drop m) + 1 ≤ 1073741825) ∧ Hid (v = v' → ∀ p ∈ st, p.1 = p.2) ∧ Hid (∀ p ∈ st, p.1.length = p.2.length) ∧ Hid (∀ p, p ∈ ms ∨ p = ([v], [v']) → p ∈ st ∨ DoneP p ms ∨ p = (la, lb)) ∧ Hid (∀ j x y, j < m → la[j]? = some x → lb[j]? = some y → alikeF x y = true ∧ (x.list, y.list) ∈ ms) ∧ Hid (∀ k, vo.ownBlock = some k → k ≠ N)) (fun _ i _ => la.length - (intOf i).toNat)
      case atStart => exact ⟨0, st0, ms, ps, by omega, rfl, hO7, hM7, hMet7, hB7, hgl7, hN7, hla7, hlb7, hwt7, hwb7, hK1, hK2, hK3, fun j x y hj => by omega, hv7⟩
      case round =>
        clear hO7 hM7 hMet7 hB7 hgl7 hN7 hla7 hlb7 hwt7 hwb7 hK1 hK2 hK3 hv7
        obtain ⟨m, st, ms, ps, hm, rfl, hO, hM, hMet, hB, hgl, hN, hla, hlb, hgk, hwb, hI1, hI2, hI3, hE, hvN⟩ := hrel
        by_cases hlt : m < la.length
        · have hc : (m : Int) < (la.length : Int) := by omega
          obtain ⟨ab, ao, rfl, hab, hap, hal⟩ := hla.out.2.2 (by omega)
          obtain ⟨bb, bo, rfl, hbb, hbp, hbl⟩ := hlb.out.2.2 (by have := hl2.out; omega)
          obtain ⟨x, hx⟩ : ∃ x, la[m]? = some x := ⟨_, List.getElem?_eq_getElem hlt⟩
          obtain ⟨y, hy⟩ : ∃ y, lb[m]? = some y := ⟨_, List.getElem?_eq_getElem (by have := hl2.out; omega)⟩
          obtain ⟨cx, hcx, hcx2, hsx⟩ := sl_at la ab ao m x hal hx
          obtain ⟨cy, hcy, hcy2, hsy⟩ := sl_at lb bb bo m y hbl hy
          have hsx2 := hsx
          have hsy2 := hsy
          obtain ⟨xk1, xs1, xn1, xl1, xks1⟩ := x
          obtain ⟨yk1, ys1, yn1, yl1, yks1⟩ := y
          unfold SV at hsx2 hsy2
          obtain ⟨xa1, xc1, xb1, xd1, rfl, -, -, hxl⟩ := hsx2
          obtain ⟨ya1, yc1, yb1, yd1, rfl, -, -, hyl⟩ := hsy2
          have HXL : Hid (SLi S wr xl1 xa1 xc1) := hxl
          have HYL : Hid (SLi S wr yl1 ya1 yc1) := hyl
          have hmc : m < c := by have := hlac.out; omega
          have hmd : m < d := by have := hlbd.out; have := hl2.out; omega
          have hmlb : (m : Int) < (lb.length : Int) := by have := hl2.out; omega
          have z := fun (j : Nat) (v : Value) (h : [Value.int .i64 xk1, .string (bstr xs1), .int .u64 (xn1 : Int), .slice xa1 xl1.length xc1, .slice xb1 xks1.length xd1][j]? = some v) (hj : j < 5) => (hcx2 j hj).trans h
          have z' := fun (j : Nat) (v : Value) (h : [Value.int .i64 yk1, .string (bstr ys1), .int .u64 (yn1 : Int), .slice ya1 yl1.length yc1, .slice yb1 yks1.length yd1][j]? = some v) (hj : j < 5) => (hcy2 j hj).trans h
          have xc0 : wr.cell? ⟨ab, ao + m * 5, none⟩ = some (.int .i64 xk1) := by rw [show ao + m * 5 = ao + (5 * m + 0) by omega]; exact z 0 _ rfl (by omega)
          have xc1' : wr.cell? ⟨ab, ao + m * 5 + 1, none⟩ = some (.string (bstr xs1)) := by rw [show ao + m * 5 + 1 = ao + (5 * m + 1) by omega]; exact z 1 _ rfl (by omega)
          have xc2 : wr.cell? ⟨ab, ao + m * 5 + 2, none⟩ = some (.int .u64 (xn1 : Int)) := by rw [show ao + m * 5 + 2 = ao + (5 * m + 2) by omega]; exact z 2 _ rfl (by omega)
          have xc3 : wr.cell? ⟨ab, ao + m * 5 + 3, none⟩ = some (.slice xa1 xl1.length xc1) := by rw [show ao + m * 5 + 3 = ao + (5 * m + 3) by omega]; exact z 3 _ rfl (by omega)
          have xc4 : wr.cell? ⟨ab, ao + m * 5 + 4, none⟩ = some (.slice xb1 xks1.length xd1) := by rw [show ao + m * 5 + 4 = ao + (5 * m + 4) by omega]; exact z 4 _ rfl (by omega)
          go_upto_region 9 with fail
          have hAX := Arr.new wr 30 [Value.int .i64 xk1, .string (bstr xs1), .int .u64 (xn1 : Int), .slice xa1 xl1.length xc1, .slice xb1 xks1.length xd1]
          have hbX : Below wr.heap.size wr (wr.alloc (.cells [Value.int .i64 xk1, .string (bstr xs1), .int .u64 (xn1 : Int), .slice xa1 xl1.length xc1, .slice xb1 xks1.length xd1].toArray 30)) := (Below.refl _ _).alloc (Nat.le_refl _) _
          have hNX := hN.kept hbX
          have hck := CellsKept.of_below hbX
          have yc0 : (wr.alloc (.cells [Value.int .i64 xk1, .string (bstr xs1), .int .u64 (xn1 : Int), .slice xa1 xl1.length xc1, .slice xb1 xks1.length xd1].toArray 30)).cell? ⟨bb, bo + m * 5, none⟩ = some (.int .i64 yk1) := by rw [show bo + m * 5 = bo + (5 * m + 0) by omega]; exact hck.cell (z' 0 _ rfl (by omega))
          have yc1' : (wr.alloc (.cells [Value.int .i64 xk1, .string (bstr xs1), .int .u64 (xn1 : Int), .slice xa1 xl1.length xc1, .slice xb1 xks1.length xd1].toArray 30)).cell? ⟨bb, bo + m * 5 + 1, none⟩ = some (.string (bstr ys1)) := by rw [show bo + m * 5 + 1 = bo + (5 * m + 1) by omega]; exact hck.cell (z' 1 _ rfl (by omega))
          have yc2 : (wr.alloc (.cells [Value.int .i64 xk1, .string (bstr xs1), .int .u64 (xn1 : Int), .slice xa1 xl1.length xc1, .slice xb1 xks1.length xd1].toArray 30)).cell? ⟨bb, bo + m * 5 + 2, none⟩ = some (.int .u64 (yn1 : Int)) := by rw [show bo + m * 5 + 2 = bo + (5 * m + 2) by omega]; exact hck.cell (z' 2 _ rfl (by omega))
          have yc3 : (wr.alloc (.cells [Value.int .i64 xk1, .string (bstr xs1), .int .u64 (xn1 : Int), .slice xa1 xl1.length xc1, .slice xb1 xks1.length xd1].toArray 30)).cell? ⟨bb, bo + m * 5 + 3, none⟩ = some (.slice ya1 yl1.length yc1) := by rw [show bo + m * 5 + 3 = bo + (5 * m + 3) by omega]; exact hck.cell (z' 3 _ rfl (by omega))
          have yc4 : (wr.alloc (.cells [Value.int .i64 xk1, .string (bstr xs1), .int .u64 (xn1 : Int), .slice xa1 xl1.length xc1, .slice xb1 xks1.length xd1].toArray 30)).cell? ⟨bb, bo + m * 5 + 4, none⟩ = some (.slice yb1 yks1.length yd1) := by rw [show bo + m * 5 + 4 = bo + (5 * m + 4) by omega]; exact hck.cell (z' 4 _ rfl (by omega))
          have n1 := (hNX.cell 1).trans (show _ = some (Value.slice (some ⟨bb, bo, none⟩) lb.length d) from rfl)
          generalize wr.alloc (.cells [Value.int .i64 xk1, .string (bstr xs1), .int .u64 (xn1 : Int), .slice xa1 xl1.length xc1, .slice xb1 xks1.length xd1].toArray 30) = WX at *
          clear z z' xc0 xc1' xc2 xc3 xc4 hcx hcy hcx2 hcy2 hck
          go_upto_region 10 with fail
          have hAY := Arr.new WX 30 [Value.int .i64 yk1, .string (bstr ys1), .int .u64 (yn1 : Int), .slice ya1 yl1.length yc1, .slice yb1 yks1.length yd1]
          have hbY : Below WX.heap.size WX (WX.alloc (.cells [Value.int .i64 yk1, .string (bstr ys1), .int .u64 (yn1 : Int), .slice ya1 yl1.length yc1, .slice yb1 yks1.length yd1].toArray 30)) := (Below.refl _ _).alloc (Nat.le_refl _) _
          have hAX2 := hAX.kept hbY
          have hNY := hNX.kept hbY
          have hbXY : Below wr.heap.size wr (WX.alloc (.cells [Value.int .i64 yk1, .string (bstr ys1), .int .u64 (yn1 : Int), .slice ya1 yl1.length yc1, .slice yb1 yks1.length yd1].toArray 30)) := hbX.trans (hbY.mono hbX.size)
          generalize WX.alloc (.cells [Value.int .i64 yk1, .string (bstr ys1), .int .u64 (yn1 : Int), .slice ya1 yl1.length yc1, .slice yb1 yks1.length yd1].toArray 30) = WY at *
          generalize hNXe : wr.heap.size = NX at *
          generalize hNYe : WX.heap.size = NY at *
          clear yc0 yc1' yc2 yc3 yc4 n1 hAX hNX
          have HNX := Lib.hid hNXe
          have hal : Hid (Calls Tryd.prog 32 #[.agg #[Value.int .i64 xk1, .string (bstr xs1), .int .u64 (xn1 : Int), .slice xa1 xl1.length xc1, .slice xb1 xks1.length xd1], .agg #[Value.int .i64 yk1, .string (bstr ys1), .int .u64 (yn1 : Int), .slice ya1 yl1.length yc1, .slice yb1 yks1.length yd1]] WY fun e w' => e = .returned (.bool (alikeF (.mk xk1 xs1 xn1 xl1 xks1) (.mk yk1 ys1 yn1 yl1 yks1))) ∧ Below WY.heap.size WY w') := by
            subst hNXe
            exact alike_any _ _ _ _ WY (rv_to hbXY _ _ (pv_rv _ _ (sv_pv _ _ hsx))) (rv_to hbXY _ _ (pv_rv _ _ (sv_pv _ _ hsy)))
          have x0 := (hAX2.cell 0).trans (show _ = some (Value.int .i64 xk1) from rfl)
          have x1 := (hAX2.cell 1).trans (show _ = some (Value.string (bstr xs1)) from rfl)
          have x2 := (hAX2.cell 2).trans (show _ = some (Value.int .u64 (xn1 : Int)) from rfl)
          have x3 := (hAX2.cell 3).trans (show _ = some (Value.slice xa1 xl1.length xc1) from rfl)
          have x4 := (hAX2.cell 4).trans (show _ = some (Value.slice xb1 xks1.length xd1) from rfl)
          have y0 := (hAY.cell 0).trans (show _ = some (Value.int .i64 yk1) from rfl)
          have y1 := (hAY.cell 1).trans (show _ = some (Value.string (bstr ys1)) from rfl)
          have y2 := (hAY.cell 2).trans (show _ = some (Value.int .u64 (yn1 : Int)) from rfl)
          have y3 := (hAY.cell 3).trans (show _ = some (Value.slice ya1 yl1.length yc1) from rfl)
          have y4 := (hAY.cell 4).trans (show _ = some (Value.slice yb1 yks1.length yd1) from rfl)
          have HX := Lib.hid hx
          have HY := Lib.hid hy
          have hgX : Hid (g + 5 < NX) := HNX.out ▸ hgl.out
          have hgY : Hid (g + 5 < NY) := by show _ < _; have h1 := hgX.out; have h2 := hbX.size; omega
          have hBXY : Hid (Below w.heap.size w WY) := hB.out.trans (hbXY.mono (by have := HNX.out; have := hB.out.size; omega))
          clear hNXe hNYe hx hy hsx hsy hxl hyl
          cases hav : alikeF (.mk xk1 xs1 xn1 xl1 xks1) (.mk yk1 ys1 yn1 yl1 yks1) with
          | false =>
            have HF : Hid (R = false) := by
              show _ = _
              rw [HR.out]
              cases hs : sameF v v' with
              | false => rfl
              | true =>
                have e := hJ1.out ((same_eq v v').1 hs)
                have h1 := HX.out
                have h2 := HY.out
                rw [e] at h1
                rw [h1] at h2
                cases h2
                rw [(alike_iff _ _).2 ⟨rfl, rfl, rfl, rfl, rfl⟩] at hav
                cases hav
            rw [hav] at hal
            clear hav
            go_wp2_with (go_at_call 32; refine hal.out.mono ?_; rintro e w11 ⟨rfl, hb11⟩)
            go_ret
            exact ⟨by rw [HF.out]; rfl, hBXY.out.trans (hb11.mono hBXY.out.size)⟩
          | true =>
            have HAL := Lib.hid hav
            rw [hav] at hal
            clear hav
            go_upto_region 12 with (go_at_call 32; refine hal.out.mono ?_; rintro e w11 ⟨rfl, hb11⟩)
            have hA11 := hAX2.kept hb11
            have hY11 := hAY.kept hb11
            have hN11 := hNY.kept hb11
            have hB11 := hBXY.out.trans (hb11.mono hBXY.out.size)
            have hbX11 : Hid (Below NX wr w11) := by have h1 := HNX.out; show Below NX wr w11; exact hbXY.trans (hb11.mono (by rw [← h1]; exact Nat.le_trans (Nat.le_refl _) (hbXY.size)))
            clear x0 x1 x2 x3 x4 y0 y1 y2 y3 y4 hal hb11 hAX2 hAY hNY hbXY hbX hbY
            have x3 := (hA11.cell 3).trans (show _ = some (Value.slice xa1 xl1.length xc1) from rfl)
            have y3 := (hY11.cell 3).trans (show _ = some (Value.slice ya1 yl1.length yc1) from rfl)
            obtain ⟨xp, hxp, hxpl⟩ : ∃ xp, placeV xa1 xl1.length = .agg #[.pointer xp, .int .i64 (xl1.length : Int)] ∧ PlW S wr xl1 xp (xl1.length : Int) := by
              unfold placeV
              by_cases e0 : xl1.length = 0
              · exact ⟨none, by rw [if_pos e0, e0]; rfl, rfl, .inl ⟨List.eq_nil_of_length_eq_zero e0, rfl⟩⟩
              · obtain ⟨b1, o1, e1, e2, e3, e4⟩ := HXL.out.2.2 (by omega)
                exact ⟨xa1, by rw [if_neg e0], rfl, .inr ⟨b1, o1, e1, e2, e3, e4⟩⟩
            obtain ⟨yp, hyp, hypl⟩ : ∃ yp, placeV ya1 yl1.length = .agg #[.pointer yp, .int .i64 (yl1.length : Int)] ∧ PlW S wr yl1 yp (yl1.length : Int) := by
              unfold placeV
              by_cases e0 : yl1.length = 0
              · exact ⟨none, by rw [if_pos e0, e0]; rfl, rfl, .inl ⟨List.eq_nil_of_length_eq_zero e0, rfl⟩⟩
              · obtain ⟨b1, o1, e1, e2, e3, e4⟩ := HYL.out.2.2 (by omega)
                exact ⟨ya1, by rw [if_neg e0], rfl, .inr ⟨b1, o1, e1, e2, e3, e4⟩⟩
            have hpx : Hid (∀ W, Calls Tryd.prog 33 #[.slice xa1 xl1.length xc1] W fun e w' => e = .returned (.agg #[.pointer xp, .int .i64 (xl1.length : Int)]) ∧ Below W.heap.size W w') := fun W => by
              rw [← hxp]
              exact placeOf_any xa1 xl1.length xc1 W (Nat.le_trans HXL.out.1.1 HXL.out.1.2) (fun h => by obtain ⟨b1, o1, e1, -⟩ := HXL.out.2.2 h; exact ⟨b1, o1, e1⟩)
            have hpy : Hid (∀ W, Calls Tryd.prog 33 #[.slice ya1 yl1.length yc1] W fun e w' => e = .returned (.agg #[.pointer yp, .int .i64 (yl1.length : Int)]) ∧ Below W.heap.size W w') := fun W => by
              rw [← hyp]
              exact placeOf_any ya1 yl1.length yc1 W (Nat.le_trans HYL.out.1.1 HYL.out.1.2) (fun h => by obtain ⟨b1, o1, e1, -⟩ := HYL.out.2.2 h; exact ⟨b1, o1, e1⟩)
            have HXP := Lib.hid hxpl
            have HYP := Lib.hid hypl
            clear hxp hyp hxpl hypl
            have ltX : Hid (NX < w11.heap.size) := hA11.lt
            have ltY : Hid (NY < w11.heap.size) := hY11.lt
            have lX := ltX.out
            have lY := ltY.out
            refine wp_region_steps [[], [0], [1], [], [3], [4, 2], [2, 5], [], [7, 6]] (by kernel_rfl) (by kernel_rfl) (fun L a wx => ∃ v52 v53 v54 v55 v56 v57 v58 v11, a = ⟨#[Value.agg #[Value.int IntKind.i64 xk, Value.string xs, Value.int IntKind.u64 xn, Value.slice xa xl xc, Value.slice xb xm xd], Value.agg #[Value.int IntKind.i64 yk, Value.string ys, Value.int IntKind.u64 yn, Value.slice ya yl yc, Value.slice yb ym yd], Value.pointer (some ⟨g, 0, none⟩), Value.pointer (some ⟨g + 1, 0, none⟩), u4, Value.map (some (g + 2)), u6, Value.pointer (some ⟨N, 0, none⟩), Value.int IntKind.i64 (m : Int), Value.pointer (some ⟨NX, 0, none⟩), Value.pointer (some ⟨NY, 0, none⟩), v11, u12, u13, Value.map (some (g + 2)), Value.agg #[Value.int IntKind.i64 xk, Value.string xs, Value.int IntKind.u64 xn, Value.slice xa xl xc, Value.slice xb xm xd], Value.slice (some ⟨g + 3, 0, none⟩) 1 1, Value.agg #[Value.int IntKind.i64 yk, Value.string ys, Value.int IntKind.u64 yn, Value.slice ya yl yc, Value.slice yb ym yd], Value.slice (some ⟨g + 4, 0, none⟩) 1 1, Value.agg #[Value.slice (some ⟨g + 3, 0, none⟩) 1 1, Value.slice (some ⟨g + 4, 0, none⟩) 1 1], Value.slice (some ⟨g + 5, 0, none⟩) 1 1, Value.slice (some ⟨g6, 0, none⟩) (st0.length + 1) c6, Value.int IntKind.i64 ((st0.length : Int) + 1), Value.bool true, Value.slice (some ⟨g6, 0, none⟩) (st0.length + 1) c6, Value.slice (some ⟨g6, 0, none⟩) (st0.length + 1) c6, Value.int IntKind.i64 ((st0.length : Int) + 1), Value.int IntKind.i64 (st0.length : Int), Value.pointer (some ⟨g6, st0.length * 2, none⟩), Value.agg #[Value.slice (some ⟨ab, ao, none⟩) la.length c, Value.slice (some ⟨bb, bo, none⟩) lb.length d], Value.slice (some ⟨g6, 0, none⟩) (st0.length + 1) c6, Value.slice (some ⟨g6, 0, none⟩) (st0.length + 1) c6, Value.int IntKind.i64 ((st0.length : Int) + 1), Value.int IntKind.i64 (st0.length : Int), Value.slice (some ⟨g6, 0, none⟩) st0.length c6, Value.pointer (some ⟨N, 0, none⟩), Value.slice (some ⟨ab, ao, none⟩) la.length c, Value.int IntKind.i64 (la.length : Int), Value.int IntKind.i64 (m : Int), Value.bool true, Value.int IntKind.i64 (m : Int), Value.pointer (some ⟨ab, ao + m * 5, none⟩), Value.agg #[Value.int IntKind.i64 xk1, Value.string (bstr xs1), Value.int IntKind.u64 (xn1 : Int), Value.slice xa1 xl1.length xc1, Value.slice xb1 xks1.length xd1], Value.pointer (some ⟨N, 1, none⟩), Value.slice (some ⟨bb, bo, none⟩) lb.length d, Value.int IntKind.i64 (m : Int), Value.pointer (some ⟨bb, bo + m * 5, none⟩), Value.agg #[Value.int IntKind.i64 yk1, Value.string (bstr ys1), Value.int IntKind.u64 (yn1 : Int), Value.slice ya1 yl1.length yc1, Value.slice yb1 yks1.length yd1], Value.agg #[Value.int IntKind.i64 xk1, Value.string (bstr xs1), Value.int IntKind.u64 (xn1 : Int), Value.slice xa1 xl1.length xc1, Value.slice xb1 xks1.length xd1], Value.agg #[Value.int IntKind.i64 yk1, Value.string (bstr ys1), Value.int IntKind.u64 (yn1 : Int), Value.slice ya1 yl1.length yc1, Value.slice yb1 yks1.length yd1], Value.bool true, Value.bool false, v52, v53, v54, v55, v56, v57, v58, u59, u60, u61, u62, u63, u64, u65, u66, u67, u68, u69, u70, u71, u72, u73, u74, u75, u76, u77, u78], []⟩ ∧ InvSame xk1 xs1 xn1 xa1 xl1 xc1 xb1 xks1 xd1 yk1 ys1 yn1 ya1 yl1 yc1 yb1 yks1 yd1 xp yp NX NY w11 L v52 v53 v54 v55 v56 v57 v58 v11 wx) ?_ ⟨?_, ?_, ?_, ?_, ?_, ?_, ?_, ?_, ?_, trivial⟩ ?_
            · refine ⟨_, _, _, _, _, _, _, _, rfl, ⟨?_, ?_, ?_, ?_, ?_, ?_, ?_, ?_, hA11.drew, hY11.drew, (Below.refl _ _).drew⟩⟩ <;> (intro h; exact absurd h (by decide))
            · rintro L a wx ⟨v52, v53, v54, v55, v56, v57, v58, v11, rfl, hI⟩ hL hdep hcl K hK
              go_simp
              exact hK _ _ ⟨_, v53, v54, v55, v56, v57, v58, v11, rfl, ⟨fun _ => rfl, hI.t1, hI.t2, hI.t3, hI.t4, hI.t5, hI.t6, hI.t7, hI.aX, hI.aY, hI.bl⟩⟩
            · rintro L a wx ⟨v52, v53, v54, v55, v56, v57, v58, v11, rfl, hI⟩ hL hdep hcl K hK
              obtain rfl := hI.t0 (hdep 0 (by decide))
              have c3 := (hI.aX.cell 3).trans (show _ = some (Value.slice xa1 xl1.length xc1) from rfl)
              go_simp
              exact hK _ _ ⟨_, _, v54, v55, v56, v57, v58, v11, rfl, ⟨hI.t0, fun _ => rfl, hI.t2, hI.t3, hI.t4, hI.t5, hI.t6, hI.t7, hI.aX, hI.aY, hI.bl⟩⟩
            · rintro L a wx ⟨v52, v53, v54, v55, v56, v57, v58, v11, rfl, hI⟩ hL hdep hcl K hK
              obtain rfl := hI.t1 (hdep 1 (by decide))
              go_simp
              refine (hpx.out _).mono ?_
              rintro e w' ⟨rfl, hb⟩
              exact hK _ _ ⟨v52, _, _, v55, v56, v57, v58, v11, rfl, ⟨hI.t0, hI.t1, fun _ => rfl, hI.t3, hI.t4, hI.t5, hI.t6, fun h => (by obtain ⟨G, zs, e1, e2, e3, e4, e5⟩ := hI.t7 h; exact ⟨G, zs, e1, e2, e3.kept hb, e4, e5⟩), hI.aX.kept hb, hI.aY.kept hb, hI.bl.trans (hb.mono hI.bl.size)⟩⟩
            · rintro L a wx ⟨v52, v53, v54, v55, v56, v57, v58, v11, rfl, hI⟩ hL hdep hcl K hK
              go_simp
              exact hK _ _ ⟨v52, v53, v54, _, v56, v57, v58, v11, rfl, ⟨hI.t0, hI.t1, hI.t2, fun _ => rfl, hI.t4, hI.t5, hI.t6, hI.t7, hI.aX, hI.aY, hI.bl⟩⟩
            · rintro L a wx ⟨v52, v53, v54, v55, v56, v57, v58, v11, rfl, hI⟩ hL hdep hcl K hK
              obtain rfl := hI.t3 (hdep 3 (by decide))
              have c3 := (hI.aY.cell 3).trans (show _ = some (Value.slice ya1 yl1.length yc1) from rfl)
              go_simp
              exact hK _ _ ⟨v52, v53, v54, _, _, v57, v58, v11, rfl, ⟨hI.t0, hI.t1, hI.t2, hI.t3, fun _ => rfl, hI.t5, hI.t6, hI.t7, hI.aX, hI.aY, hI.bl⟩⟩
            · rintro L a wx ⟨v52, v53, v54, v55, v56, v57, v58, v11, rfl, hI⟩ hL hdep hcl K hK
              obtain rfl := hI.t4 (hdep 4 (by decide))
              obtain rfl := hI.t2 (hdep 2 (by decide))
              go_simp
              refine (hpy.out _).mono ?_
              rintro e w' ⟨rfl, hb⟩
              exact hK _ _ ⟨v52, v53, _, v55, _, _, v58, v11, rfl, ⟨hI.t0, hI.t1, hI.t2, hI.t3, hI.t4, fun _ => rfl, hI.t6, fun h => (by obtain ⟨G, zs, e1, e2, e3, e4, e5⟩ := hI.t7 h; exact ⟨G, zs, e1, e2, e3.kept hb, e4, e5⟩), hI.aX.kept hb, hI.aY.kept hb, hI.bl.trans (hb.mono hI.bl.size)⟩⟩
            · rintro L a wx ⟨v52, v53, v54, v55, v56, v57, v58, v11, rfl, hI⟩ hL hdep hcl K hK
              obtain rfl := hI.t2 (hdep 2 (by decide))
              obtain rfl := hI.t5 (hdep 5 (by decide))
              go_simp
              exact hK _ _ ⟨v52, v53, _, v55, v56, _, _, v11, rfl, ⟨hI.t0, hI.t1, hI.t2, hI.t3, hI.t4, hI.t5, fun _ => rfl, hI.t7, hI.aX, hI.aY, hI.bl⟩⟩
            · rintro L a wx ⟨v52, v53, v54, v55, v56, v57, v58, v11, rfl, hI⟩ hL hdep hcl K hK
              refine ow_alloc 82 rfl [.pointer none, .int .i64 0, .pointer none, .int .i64 0] 4 (by kernel_rfl) ?_
              intro w' hA hb hs
              exact hK _ _ ⟨v52, v53, v54, v55, v56, v57, v58, _, rfl, ⟨hI.t0, hI.t1, hI.t2, hI.t3, hI.t4, hI.t5, hI.t6, fun _ => ⟨_, _, rfl, hI.bl.size, hA, rfl, fun h => absurd (hcl 8 (by decide) h 7 (by decide)) (by rw [hL]; decide)⟩, hI.aX.kept hb, hI.aY.kept hb, hI.bl.trans (hb.mono hI.bl.size)⟩⟩
            · rintro L a wx ⟨v52, v53, v54, v55, v56, v57, v58, v11, rfl, hI⟩ hL hdep hcl K hK
              obtain rfl := hI.t6 (hdep 6 (by decide))
              obtain ⟨G, zs, rfl, e2, e3, e4, -⟩ := hI.t7 (hdep 7 (by decide))
              refine ow_store 82 _ _ rfl G 0 rfl [.pointer xp, .int .i64 (xl1.length : Int), .pointer yp, .int .i64 (yl1.length : Int)] rfl 82 zs e3 (by kernel_rfl) (by simp [e4]) (by simp [Value.oneCell']) ?_
              intro w' hA hg hs
              rw [whole_store _ _ (by rw [e4]; rfl)] at hA
              exact hK _ _ ⟨v52, v53, v54, v55, v56, v57, _, _, rfl, ⟨hI.t0, hI.t1, hI.t2, hI.t3, hI.t4, hI.t5, hI.t6, fun _ => ⟨G, _, rfl, e2, hA, rfl, fun _ => rfl⟩, hI.aX.grown hg (by intro e; cases e; omega), hI.aY.grown hg (by intro e; cases e; omega), hI.bl.grown hg hI.bl.size (fun k hk => by cases hk; exact e2)⟩⟩
            · rintro a wx ⟨v52, v53, v54, v55, v56, v57, v58, v11, rfl, hI⟩
              obtain rfl := hI.t6 rfl
              obtain rfl := hI.t5 rfl
              obtain rfl := hI.t4 rfl
              obtain rfl := hI.t3 rfl
              obtain rfl := hI.t2 rfl
              obtain rfl := hI.t1 rfl
              obtain rfl := hI.t0 rfl
              obtain ⟨G, zs, rfl, hG1, hG2, -, hG3⟩ := hI.t7 rfl
              obtain rfl := hG3 rfl
              have hAX := hI.aX
              have hAY := hI.aY
              have hbl := hI.bl
              clear hI hA11 hY11 x3 y3
              have hbw : Below wr.heap.size wr wx := by
                have h1 := HNX.out
                rw [h1]
                exact hbX11.out.trans (hbl.mono (Nat.le_of_lt lX))
              have hS : Hid (Stay S wr wx) := Stay.of_below hbw
              have hO2 := hO.below hbw
              have hM2 := hM.below both_ok hbw
              have hMet2 := hMet.out.to' hS.out
              have hKx : Hid (KeyP S wx (.agg #[.pointer xp, .int .i64 (xl1.length : Int), .pointer yp, .int .i64 (yl1.length : Int)]) (xl1, yl1)) := ⟨_, _, _, _, rfl, HXP.out.to' hS.out, HYP.out.to' hS.out⟩
              have hkG := hKx.out.both
              have hN2 := hN11.kept hbl
              have hB2 := hB11.trans (hbl.mono hB11.size)
              have hla2 := hla.out.to' (S' := S) (fun _ h _ => h) hS.out
              have hlb2 := hlb.out.to' (S' := S) (fun _ h _ => h) hS.out
              have hXL2 := HXL.out.to' (S' := S) (fun _ h _ => h) hS.out
              have hYL2 := HYL.out.to' (S' := S) (fun _ h _ => h) hS.out
              have hgl2 : Hid (g + 5 < wx.heap.size) := by show _ < _; have h1 := hgX.out; have h2 := hbw.size; have h3 := HNX.out; omega
              have hwd := wtS_drop la m _ HX.out
              rw [wtV_list] at hwd
              have hwd : wtS (la.drop m) = (1 + wtS xl1) + wtS (la.drop (m + 1)) := hwd
              have hgk2 : wtP st + (1 + wtS xl1) + wtS (la.drop (m + 1)) + 1 < gk := by show _ < _; omega
              have hwb2 : Hid (wtP st + (1 + wtS xl1) + wtS (la.drop (m + 1)) + 1 ≤ 1073741825) := by show _ ≤ _; have h2 := hwb.out; omega
              have HU : Hid (∀ q ∈ ps, q.2 = .agg #[]) := hMet.out.unit
              have HLE : Hid (m + 1 ≤ la.length) := hlt
              have q0 := (hG2.cell 0).trans (show _ = some (Value.pointer xp) from rfl)
              have q1 := (hG2.cell 1).trans (show _ = some (Value.int .i64 (xl1.length : Int)) from rfl)
              have q2 := (hG2.cell 2).trans (show _ = some (Value.pointer yp) from rfl)
              have q3 := (hG2.cell 3).trans (show _ = some (Value.int .i64 (yl1.length : Int)) from rfl)
              have hb13 : Below wx.heap.size wx (wx.alloc (.cells #[] 83)) := (Below.refl _ _).alloc (Nat.le_refl _) _
              have HE2 : Hid (∀ ms' : List LP, (∀ q ∈ ms, q ∈ ms') → (xl1, yl1) ∈ ms' → ∀ j x y, j < m + 1 → la[j]? = some x → lb[j]? = some y → alikeF x y = true ∧ (x.list, y.list) ∈ ms') := fun ms' hms hin j x y hj hx hy => by
                by_cases hjm : j = m
                · subst hjm
                  rw [HX.out] at hx
                  rw [HY.out] at hy
                  cases hx
                  cases hy
                  exact ⟨HAL.out, hin⟩
                · obtain ⟨e1, e2⟩ := hE.out j x y (by omega) hx hy
                  exact ⟨e1, hms _ e2⟩
              have hI1x : Hid (v = v' → xl1 = yl1) := fun e => by
                have e1 := hJ1.out e
                have h1 := HX.out
                have h2 := HY.out
                rw [e1, h2] at h1
                cases h1
                rfl
              clear hbw hO hM hMet hgl hN11 hB11 hla hlb hgk hwb hS hwd hlt hm hab hap hal hbb hbp hbl hE
              by_cases hin : ∃ q ∈ ps, q.1 = .agg #[.pointer xp, .int .i64 (xl1.length : Int), .pointer yp, .int .i64 (yl1.length : Int)]
              · have hmem : Hid ((xl1, yl1) ∈ ms) := by
                  obtain ⟨q, hq, e⟩ := hin
                  obtain ⟨p, hp, hk⟩ := hMet2.key q hq
                  rw [e] at hk
                  rw [hKx.out.one hk]
                  exact hp
                have HIN := Lib.hid hin
                clear hin
                go_wp2_with (at_lookup; refine wl_look_yes both_ok Tryd.underlying75 rfl _ _ rfl (g + 2) ps rfl hM2 _ _ (.agg #[]) rfl hkG (zero_unit _) HIN.out HU.out ?_)
                go_roundw
                case rel => exact ⟨m + 1, st, ms, ps, HLE.out, by go_num, hO2.below hb13, hM2.below both_ok hb13, hMet2.to' (Stay.of_below hb13), hB2.trans (hb13.mono hB2.size), Nat.lt_of_lt_of_le hgl2.out hb13.size, hN2.kept hb13, hla2.to' (fun _ h _ => h) (Stay.of_below hb13), hlb2.to' (fun _ h _ => h) (Stay.of_below hb13), by omega, (by show _ ≤ _; have := hwb2.out; omega), hI1, hI2, hI3, HE2.out ms (fun _ h => h) hmem.out, hvN⟩
                case measure => have := HLE.out; simp [intOf]; omega
              · have HIN : Hid (∀ q ∈ ps, q.1 ≠ .agg #[.pointer xp, .int .i64 (xl1.length : Int), .pointer yp, .int .i64 (yl1.length : Int)]) := fun q hq e => hin ⟨q, hq, e⟩
                clear hin
                go_upto_region 15 with (at_lookup; refine wl_look_no both_ok Tryd.underlying75 rfl _ _ rfl (g + 2) ps rfl hM2 _ _ rfl hkG (zero_unit _) HIN.out ?_)
                have hG13 := hG2.kept hb13
                have hAX13 := (hAX.kept hb13)
                have hAY13 := (hAY.kept hb13)
                have r0 := (hG13.cell 0).trans (show _ = some (Value.pointer xp) from rfl)
                have r1 := (hG13.cell 1).trans (show _ = some (Value.int .i64 (xl1.length : Int)) from rfl)
                have r2 := (hG13.cell 2).trans (show _ = some (Value.pointer yp) from rfl)
                have r3 := (hG13.cell 3).trans (show _ = some (Value.int .i64 (yl1.length : Int)) from rfl)
                have hM13 := hM2.below both_ok hb13
                have hO13 := hO2.below hb13
                have hMet13 := hMet2.to' (Stay.of_below (S := S) hb13)
                have hK13 : Hid (KeyP S (wx.alloc (.cells #[] 83)) _ (xl1, yl1)) := hKx.out.to' (Stay.of_below hb13)
                have hkG13 := hK13.out.both
                have hN13 := hN2.kept hb13
                have hB13 := hB2.trans (hb13.mono hB2.size)
                have hla13 := hla2.to' (S' := S) (fun _ h _ => h) (Stay.of_below hb13)
                have hlb13 := hlb2.to' (S' := S) (fun _ h _ => h) (Stay.of_below hb13)
                have hXL13 := hXL2.to' (S' := S) (fun _ h _ => h) (Stay.of_below hb13)
                have hYL13 := hYL2.to' (S' := S) (fun _ h _ => h) (Stay.of_below hb13)
                have hgl13 : Hid (g + 5 < (wx.alloc (.cells #[] 83)).heap.size) := Nat.lt_of_lt_of_le hgl2.out hb13.size
                generalize wx.alloc (.cells #[] 83) = w13 at *
                clear hG2 hAX hAY q0 q1 q2 q3 hM2 hO2 hMet2 hkG hN2 hB2 hla2 hlb2 hXL2 hYL2 hb13 hbl
                go_upto_region 16 with (at_mapUpdate; refine wl_put_new both_ok Tryd.underlying75 rfl _ _ _ rfl (g + 2) ps rfl hM13 _ (.agg #[]) rfl rfl hkG13 HIN.out ?_; intro w15 hM15 hg15 hs15)
                have hgB := HS.out
                have hs5 : Hid (Stay S w13 w15) := Stay.of_grown hg15 (fun k hk h => by cases hk; rw [hgB] at h; exact h.2 rfl)
                have hO15 := hO13.to' (fun k hk => hg15.block k (hO13.lo k hk).2 (fun e => by cases e; have := (hO13.lo _ hk).1; omega)) hs5.out
                have hMet15 := (hMet13.to' hs5.out).snoc (hK13.out.to' hs5.out)
                have hNg : Hid (g + 5 < N) := hN0
                have hN15 := hN13.grown hg15 (by have := hNg.out; intro e; cases e; omega)
                have hAX15 := hAX13.grown hg15 (by have := hgX.out; intro e; cases e; omega)
                have hAY15 := hAY13.grown hg15 (by have := hgY.out; intro e; cases e; omega)
                have hB15 := hB13.grown hg15 (by have := hB13.size; exact this) (fun k hk => by cases hk; have := HG.out; omega)
                have hla15 := hla13.to' (S' := S) (fun _ h _ => h) hs5.out
                have hlb15 := hlb13.to' (S' := S) (fun _ h _ => h) hs5.out
                have hXL15 := hXL13.to' (S' := S) (fun _ h _ => h) hs5.out
                have hYL15 := hYL13.to' (S' := S) (fun _ h _ => h) hs5.out
                have hgl15 : Hid (g + 5 < w15.heap.size) := by show _ < _; rw [hs15]; exact hgl13.out
                have x3 := (hAX15.cell 3).trans (show _ = some (Value.slice xa1 xl1.length xc1) from rfl)
                have y3 := (hAY15.cell 3).trans (show _ = some (Value.slice ya1 yl1.length yc1) from rfl)
                clear hG13 hAX13 hAY13 r0 r1 r2 r3 hM13 hO13 hMet13 hkG13 hN13 hB13 hla13 hlb13 hXL13 hYL13 hgl13 hg15 hs15 hgB
                have hb16 : Below w15.heap.size w15 (w15.alloc (.cells #[.slice xa1 xl1.length xc1, .slice ya1 yl1.length yc1] 76)) := (Below.refl _ _).alloc (Nat.le_refl _) _
                have hA16 : Arr (w15.alloc (.cells #[.slice xa1 xl1.length xc1, .slice ya1 yl1.length yc1] 76)) w15.heap.size 76 [.slice xa1 xl1.length xc1, .slice ya1 yl1.length yc1] := Arr.new w15 _ _
                have hc16 : Hid (∀ j u, [Value.slice xa1 xl1.length xc1, .slice ya1 yl1.length yc1][j]? = some u → (w15.alloc (.cells #[.slice xa1 xl1.length xc1, .slice ya1 yl1.length yc1] 76)).cell? ((⟨w15.heap.size, 0, none⟩ : Addr).add j) = some u) := fun j u h => by
                  rw [Addr.add_lit, Nat.zero_add, hA16.cell]
                  exact h
                have hs6 : Stay S w15 (w15.alloc (.cells #[.slice xa1 xl1.length xc1, .slice ya1 yl1.length yc1] 76)) := Stay.of_below hb16
                have hp16 : Hid (PairC S (w15.alloc (.cells #[.slice xa1 xl1.length xc1, .slice ya1 yl1.length yc1] 76)) (xl1, yl1) (.slice xa1 xl1.length xc1) (.slice ya1 yl1.length yc1)) := ⟨xa1, xc1, ya1, yc1, rfl, rfl, hXL15.to' (fun _ h _ => h) hs6, hYL15.to' (fun _ h _ => h) hs6⟩
                have hO16 := Lib.hid (hO15.below hb16)
                have hN16 := Lib.hid (hN15.kept hb16)
                have hM16 := Lib.hid (hM15.below both_ok hb16)
                have hMet16 := Lib.hid (hMet15.to' hs6)
                have hB16 := Lib.hid (hB15.trans (hb16.mono hB15.size))
                have hla16 := Lib.hid (hla15.to' (S' := S) (fun _ h _ => h) hs6)
                have hlb16 := Lib.hid (hlb15.to' (S' := S) (fun _ h _ => h) hs6)
                have hgl16 : Hid (g + 5 < (w15.alloc (.cells #[.slice xa1 xl1.length xc1, .slice ya1 yl1.length yc1] 76)).heap.size) := Nat.lt_of_lt_of_le hgl15.out hb16.size
                have hlen16 : Hid (st.length + 1 ≤ 2147483648) := by show _ ≤ _; have h1 := wtP_len st; have h2 := hwb2.out; omega
                have hSG : Hid (∀ k, S k → k < g + 5) := fun k hk => by rw [HS.out] at hk; exact hk.1
                have hxA : Hid (Value.slice xa1 xl1.length xc1 ≠ .slice (some ⟨ab, ao, none⟩) la.length c) := fun e => by
                  simp only [Value.slice.injEq] at e
                  obtain ⟨e1, e2, -⟩ := e
                  have hl0 := HLE.out
                  obtain ⟨b1, o1, e3, -, -, h3⟩ := hXL15.2.2 (by omega)
                  obtain ⟨b2, o2, e4, -, -, h4⟩ := hla15.2.2 (by omega)
                  rw [e1] at e3
                  rw [e3] at e4
                  cases e4
                  have e5 := pl_one xl1 la b1 o1 (sl_pl _ _ _ h3) (sl_pl _ _ _ h4) e2
                  have h5 := List.sizeOf_lt_of_mem (List.mem_of_getElem? HX.out)
                  simp only [JV.mk.sizeOf_spec] at h5
                  rw [e5] at h5
                  omega
                clear hO15 hN15 hM15 hMet15 hB15 hla15 hlb15 hXL15 hYL15 hA16 hs6
                go_wp2_with ((with_reducible show wpList _ _ _ (⟨some 77, _, _, _, _, _⟩ :: _) _ _); go_loud (refine wl_append_o rfl (.tmp 70) (.tmp 76) rfl S (g + 5) u6 st hO16.out rfl ⟨w15.heap.size, 0, none⟩ (xl1, yl1) (.slice xa1 xl1.length xc1) (.slice ya1 yl1.length yc1) rfl hc16.out hp16.out hlen16.out hSG.out (Nat.le_of_lt hgl16.out) N _ _ hN16.out hvN.out hxA.out ?_); intro v17 w17 hO17 hg17 hs17 hv17)
                have hlo := hO16.out.lo
                have hwt9 := wtP_snoc st (xl1, yl1)
                have HW9 : wtP (st ++ [(xl1, yl1)]) = wtP st + (1 + wtS xl1) := hwt9
                go_roundw
                case rel => exact ⟨m + 1, st ++ [(xl1, yl1)], ms ++ [(xl1, yl1)], _, HLE.out, by go_num, hO17, mapr_met hM16.out hMet16.out hs17 (hg17.block (g + 2) (by have := hgl16.out; omega) (fun e => by have := (hlo _ e.symm).1; omega)), hMet16.out.to' hs17, hB16.out.grown hg17 hB16.out.size (fun k hk => by have := (hlo k hk).1; have := HG.out; omega), Nat.lt_of_lt_of_le hgl16.out hg17.size, hN16.out.grown hg17 (fun e => hvN.out N e.symm rfl), hla16.out.to' (fun _ h _ => h) hs17, hlb16.out.to' (fun _ h _ => h) hs17, by omega, (by show _ ≤ _; have := hwb2.out; omega), fun e p hp => by
                  rcases List.mem_append.1 hp with hp | hp
                  · exact hI1.out e p hp
                  · rw [List.mem_singleton.1 hp]
                    exact hI1x.out e, fun p hp => by
                  rcases List.mem_append.1 hp with hp | hp
                  · exact hI2.out p hp
                  · rw [List.mem_singleton.1 hp]
                    exact ((alike_iff _ _).1 HAL.out).2.2.2.2, fun p hp => by
                  have key : p ∈ ms ∨ p = ([v], [v']) ∨ p = (xl1, yl1) := by
                    rcases hp with hp | hp
                    · rcases List.mem_append.1 hp with hp | hp
                      · exact .inl hp
                      · exact .inr (.inr (List.mem_singleton.1 hp))
                    · exact .inr (.inl hp)
                  have step : ∀ q, (q ∈ st ∨ DoneP q ms ∨ q = (la, lb)) → (q ∈ st ++ [(xl1, yl1)] ∨ DoneP q (ms ++ [(xl1, yl1)]) ∨ q = (la, lb)) := fun q h => by
                    rcases h with h | h | h
                    · exact .inl (List.mem_append_left _ h)
                    · exact .inr (.inl (h.mono (fun _ h => List.mem_append_left _ h)))
                    · exact .inr (.inr h)
                  rcases key with h | h | h
                  · exact step p (hI3.out p (.inl h))
                  · exact step p (hI3.out p (.inr h))
                  · exact .inl (by rw [h]; simp), HE2.out _ (fun _ h => List.mem_append_left _ h) (by simp), hv17⟩
                case measure => have := HLE.out; simp [intOf]; omega
        · have hc : ¬ (m : Int) < (la.length : Int) := by omega
          have hml : m = la.length := by omega
          have HD : Hid (DoneP (la, lb) ms) := ⟨hl2.out, fun i x y hx hy => hE.out i x y (by have : i < la.length := (List.getElem?_eq_some_iff.1 hx).1; omega) hx hy⟩
          have hgk2 : wtP st + 1 < gk := by omega
          have hwb2 : Hid (wtP st ≤ 1073741825) := by show _ ≤ _; have := hwb.out; omega
          clear hml hm hlt
          go_wp2_with fail
          go_roundg (wtP st + 1)
          case measure => omega
          case rel => exact ⟨st, ms, ps, hO, hM, hMet, hB, hgl, by omega, hwb2, hI1, hI2, fun p hp => by
            rcases hI3.out p hp with h | h | h
            · exact .inl h
            · exact .inr h
            · exact .inr (h ▸ HD.out)⟩
end Go.Proofs.YtehlgflpkofooaaDoor
