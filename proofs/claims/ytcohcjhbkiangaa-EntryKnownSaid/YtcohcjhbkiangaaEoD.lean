/-
  What EntryKnown leans on: plain facts; make, append and long chains as laws. Conditions: those in each statement.
-/
import Derived.Test.YtcohcjhbkiangaaEBack
import Derived.Test.YtcohcjhbkiangaaEoC
import Derived.Test.YtcohcjhbkiangaaRegF
namespace Go.Proofs.Ytcohcjhbkiangaa
open Go.RowKit

theorem take_nil : takeRecR [] = ((0, []), 5) := by
  refine takeRec_no [] ?_
  rintro ⟨t, l, -, -, e⟩
  have := congrArg List.length e
  rw [recF, List.length_append, digits_len] at this
  simp at this
  omega
theorem take_more (t : Nat) (l : List (List UInt8)) (ht : t ≤ 18446744073709551615) (hm : mayB l = true) (x : UInt8) : takeRecR (recF t l ++ [x]) = ((0, []), 5) := by
  refine takeRec_no _ ?_
  rintro ⟨u, m, hu, hm', e⟩
  have k1 := rec_read u m hu hm'
  obtain ⟨-, h4, hx⟩ := mayB_parts hm
  have k2 : rnumF (recF t l ++ [x]) 8 = (t, 0, listF l ++ [x]) := by
    rw [recF, List.append_assoc]
    exact rnum_of t 8 (listF l ++ [x]) (by decide) (Nat.lt_of_le_of_lt ht (by decide))
  rw [e, k1.1] at k2
  injection k2 with _ k2
  injection k2 with _ k2
  have k3 := takeList_of l [x] h4 (fun x h => (hx x h).2)
  rw [← k2, k1.2] at k3
  injection k3 with _ k3
  injection k3 with _ k3
  cases k3
theorem take_turned (t : Nat) (c xs : List UInt8) : takeItemR ((stampF t c).set 11 1) xs = ((0, []), 5) := by
  refine takeItem_no _ _ ?_
  rintro ⟨u, m, -, -, e, -⟩
  have key : ∀ (t : Nat) (c : List UInt8), (stampF t c)[11]? = some 0 := by
    intro t c
    rw [stampF_eq]
    have hd := digits_len t 8
    have e : [0, 0] ++ digits t 8 ++ [0, 0] ++ vec3 c ++ [0, 0] = ([0, 0] ++ digits t 8 ++ [0]) ++ (0 :: (vec3 c ++ [0, 0])) := by simp [List.append_assoc]
    rw [e, List.getElem?_append_right (by simp [hd])]
    simp [hd]
  have h1 := key u (m.getD 0 [])
  rw [← e, List.getElem?_set_self (by rw [stamp_len]; omega)] at h1
  exact absurd h1 (by decide)

theorem May_long (t : Nat) (a : Option Addr) (n cap : Nat) (w : World) (h4 : 4 < n) (hn : n ≤ 70368744177664) :
    Calls Try.prog 21 #[entV t a n cap] w fun e w' => e = .returned (.bool false) ∧ Below w.heap.size w w' := by
  go_enter Try.func21, Try.ntmps21
  go_wp2
  go_ret
  exact ⟨rfl, hal _ _⟩
section
variable {ops : Array Oper} {rest : List Oper} {o : Oper} {a : Act} {K : Act → World → Prop} {Q : Exit → Act → World → Prop} {w : World}
theorem ow_make (l c : Operand) (hop : o.op = Op.makeSlice 27 l c) (n : Nat) (Z : List UInt8) (hZ : List.replicate n 0 = Z) (hl : a.eval l = .int .i64 n) (hc : a.eval c = .int .i64 n) (hn : n ≤ 281474976710656)
    (hK : ∀ w', Own w' w.heap.size 5 (.slice (some ⟨w.heap.size, 0, none⟩) n n) Z → Below w.heap.size w w' → K (a.put o.dst (.slice (some ⟨w.heap.size, 0, none⟩) n n)) w') : Oper.wp Try.prog o a w K Q := by
  obtain ⟨i0, hi, hz0, hz1, hz2⟩ := info_parts bt.info
  have hrun := run_make (P := Try.prog) w 27 5 i0 (.int .u8 0) bt.sl hi hz0 .i64 .i64 n n (by omega) (by omega) (by rw [hz2]; omega) (by omega)
  unfold Oper.wp
  simp [execOp, hop, hl, hc, hrun, Result.andThen]
  refine hK _ ?_ ((Below.refl _ _).alloc (Nat.le_refl _) _)
  have := World.ownsRow_lit (base := w.heap.size) (e := 5) (size := 1) w (madeCells #[.int .u8 0] n) n (Nat.le_refl _) (by unfold maxLen; omega) (by simp [madeCells])
  simp only [hz1, Value.cells, Nat.mul_one]
  unfold Own
  have e : (List.map bv (List.replicate n 0)) = (madeCells #[.int .u8 0] n).toList := by rw [toList_madeCells_one]; simp [bv]
  rw [← hZ, e]
  simpa using this
theorem wl_makeZ (hgd : o.guard = none) (l c : Operand) (hop : o.op = Op.makeSlice 27 l c) (n : Nat) (Z : List UInt8) (hZ : List.replicate n 0 = Z) (hl : a.eval l = .int .i64 n) (hc : a.eval c = .int .i64 n) (hn : n ≤ 281474976710656)
    (hK : ∀ w', Own w' w.heap.size 5 (.slice (some ⟨w.heap.size, 0, none⟩) n n) Z → Below w.heap.size w w' → wpList Try.prog ops Q rest (a.put o.dst (.slice (some ⟨w.heap.size, 0, none⟩) n n)) w') : wpList Try.prog ops Q (o :: rest) a w :=
  wpList_plain hgd fun _ hK' => ow_make l c hop n Z hZ hl hc hn fun w' h1 h2 => hK' _ _ (hK w' h1 h2)
/-- append onto the call's own bytes, with the row that it may write -/
theorem wl_appendR (hgd : o.guard = none) (d s : Operand) (ho : o.op = .call { callee := .builtin .append, args := #[d, s], argTypes := #[27, 27] })
    (B : Nat) (v : Value) (ys : List UInt8) (hown : Own w B 5 v ys) (hd : a.eval d = v) (ad : Addr) (sLen sCap : Nat) (xs : List UInt8)
    (hs : a.eval s = .slice (some ad) sLen sCap) (hrd : Rd w (some ad) sLen sCap xs) (hb : ys.length + sLen ≤ 140737488355328) (hB : B ≤ w.heap.size)
    (hK : ∀ v' w', Own w' B 5 v' (ys ++ xs) → w.grownBy w' v.ownBlock → wpList Try.prog ops Q rest (a.put o.dst v') w') :
    wpList Try.prog ops Q (o :: rest) a w := by
  obtain ⟨i0, hi, hz0, hz1, hz2⟩ := info_parts bt.info
  refine wpList_append_own w hgd d s 27 ho B 5 i0 (.int .u8 0) 1 1 bt.sl hi hz0 hz1 hz2 rfl (by decide) v _ _ hd hown ad sLen sCap (xs.map bv) hs (by simp [hrd.len]) hrd.cells bv_oneCell (by unfold maxLen; omega) (by omega) hB ?_
  intro v' w' h1 h2 _
  refine hK v' w' ?_ h2
  unfold Own
  rw [List.length_append, List.map_append, hrd.len]
  exact h1
end
theorem ownC_two {w : World} {B : Nat} {x y : Value} {X Y : List UInt8} (hB : B ≤ w.heap.size) (hx : Own w B 5 x X) (hy : Own w B 5 y Y) : OwnC (w.alloc (.cells #[x, y] 27)) B (.slice (some ⟨w.heap.size, 0, none⟩) 2 2) [X, Y] := by
  refine ⟨[x, y], ?_, rfl, fun j hj => ?_⟩
  · exact World.ownsRow_lit (base := B) (e := 27) (size := 1) w #[x, y] 2 hB (by decide) (by simp)
  · have : j < 2 := hj
    have : j = 0 ∨ j = 1 := by omega
    rcases this with rfl | rfl
    · exact hx.to (hal w _)
    · exact hy.to (hal w _)
theorem ownC_four {w : World} {B : Nat} {x1 x2 x3 x4 : Value} {X1 X2 X3 X4 : List UInt8} (hB : B ≤ w.heap.size) (h1 : Own w B 5 x1 X1) (h2 : Own w B 5 x2 X2) (h3 : Own w B 5 x3 X3) (h4 : Own w B 5 x4 X4) :
    OwnC (w.alloc (.cells #[x1, x2, x3, x4] 27)) B (.slice (some ⟨w.heap.size, 0, none⟩) 4 4) [X1, X2, X3, X4] := by
  refine ⟨[x1, x2, x3, x4], ?_, rfl, fun j hj => ?_⟩
  · exact World.ownsRow_lit (base := B) (e := 27) (size := 1) w #[x1, x2, x3, x4] 4 hB (by decide) (by simp)
  · have hb := hal w (.cells #[x1, x2, x3, x4] 27)
    have : j < 4 := hj
    have : j = 0 ∨ j = 1 ∨ j = 2 ∨ j = 3 := by omega
    rcases this with rfl | rfl | rfl | rfl
    · exact h1.to hb
    · exact h2.to hb
    · exact h3.to hb
    · exact h4.to hb
theorem may_big {Z : List UInt8} (h : Z.length = 512) : mayB [Z, Z, Z, Z] = true := by
  simp [mayB, certB, h]
theorem may_over {Z : List UInt8} (h : Z.length = 513) : mayB [Z] = false := by
  simp [mayB, certB, h]
theorem may_none : mayB [[1], []] = false := by decide
theorem may_nine : mayB [[9]] = true := by decide
end Go.Proofs.Ytcohcjhbkiangaa
