/-
  Hashes as digits. Conditions: those in each statement.
-/
import Derived.Test.YtgippimoklefnaaShaJ
import Derived.Deep.RegionLaw
import Derived.Lib.SlBytesConst
namespace Go.Proofs.Ytgippimoklefnaa
open Go.RowKit

section
variable {P : Program} {T E : TypeId} (bt : BT P T E)
include bt
/-- append(dst, src...) in a region that draws -/
theorem step_append_b {ops : Array Oper} {o : Oper} {a : Act} {w : World} {K : Act → World → Prop} {Q : Exit → Act → World → Prop} {X : Prop} (hgd : o.guard = none)
    (d s : Operand) (ho : o.op = .call { callee := .builtin .append, args := #[d, s], argTypes := #[T, T] })
    (B : Nat) (v : Value) (ys : List UInt8) (hown : Own w B E v ys) (hd : a.eval d = v) (ad : Addr) (sLen sCap : Nat) (xs : List UInt8)
    (hs : a.eval s = .slice (some ad) sLen sCap) (hrd : Rd w (some ad) sLen sCap xs) (hb : ys.length + sLen ≤ 140737488355328) (hB : B ≤ w.heap.size)
    (hK : ∀ v' w', Own w' B E v' (ys ++ xs) → Below B w w' → K (a.put o.dst v') w') :
    if Region.wanted o (yielded ops a.tmps) = true then Oper.wp P o a w K Q else X := by
  rw [if_pos (by simp [Region.wanted, hgd])]
  obtain ⟨i0, hi, hz0, hz1, hz2⟩ := info_parts bt.info
  refine wp_append_own w d s T ho B E i0 (.int .u8 0) 1 1 bt.sl hi hz0 hz1 hz2 rfl (by decide) v _ _ hd hown ad sLen sCap (xs.map bv) hs (by simp [hrd.len]) hrd.cells bv_oneCell (by unfold maxLen; omega) (by omega) hB ?_
  intro v' w' h1 h2 _
  refine hK v' w' ?_ ((Below.refl _ _).grown h2 hB fun k hk => (World.ownsRow.lt hown k hk).1)
  unfold Own
  rw [List.length_append, List.map_append, hrd.len]
  exact h1
/-- make([]byte, 0, n) -/
theorem wl_make0 {ops : Array Oper} {rest : List Oper} {o : Oper} {a : Act} {Q : Exit → Act → World → Prop} {w : World} (hg : o.guard = none) (l c : Operand) (hop : o.op = Op.makeSlice T l c) (B : Nat) (n : Nat) (hl : a.eval l = .int .i64 0) (hc : a.eval c = .int .i64 n)
    (hn : n ≤ 281474976710656) (hB : B ≤ w.heap.size)
    (hK : ∀ w', Own w' B E (.slice (some ⟨w.heap.size, 0, none⟩) 0 n) [] → Below w.heap.size w w' → w.heap.size < w'.heap.size → wpList P ops Q rest (a.put o.dst (.slice (some ⟨w.heap.size, 0, none⟩) 0 n)) w') :
    wpList P ops Q (o :: rest) a w := by
  obtain ⟨i0, hi, hz0, hz1, hz2⟩ := info_parts bt.info
  refine wpList_plain hg fun K hK' => ?_
  have hrun := run_make (P := P) w T E i0 (.int .u8 0) bt.sl hi hz0 .i64 .i64 0 n (by omega) (by omega) (by rw [hz2]; omega) (by omega)
  unfold Oper.wp
  simp [execOp, hop, hl, hc, hrun, Result.andThen]
  refine hK' _ _ (hK _ ?_ ?_ ?_)
  · exact World.ownsRow_made w _ n hB (by unfold maxLen; omega) (by rw [hz1]; simp [madeCells, Value.cells])
  · exact (Below.refl _ _).alloc (Nat.le_refl _) _
  · simp
end

def dg (n : Nat) : UInt8 := [48, 49, 50, 51, 52, 53, 54, 55, 56, 57, 97, 98, 99, 100, 101, 102].getD n 0
def hexL (xs : List UInt8) : List UInt8 := (xs.map fun x => [dg (x.toNat / 16), dg (x.toNat % 16)]).flatten
theorem hexL_len (xs : List UInt8) : (hexL xs).length = 2 * xs.length := by
  induction xs with
  | nil => rfl
  | cons x r ih => simp only [hexL, List.map_cons, List.flatten_cons, List.length_append, List.length_cons, List.length_nil] at *; omega
theorem hexL_snoc (xs : List UInt8) (x : UInt8) : hexL (xs ++ [x]) = hexL xs ++ [dg (x.toNat / 16), dg (x.toNat % 16)] := by simp [hexL]
theorem dg_index (n : Nat) (h : n < 16) (w : World) : (Instr.index 9 (.string ⟨#[48, 49, 50, 51, 52, 53, 54, 55, 56, 57, 97, 98, 99, 100, 101, 102]⟩) (.int .u8 (n : Int))).run Try.prog w = .ok (.int .u8 ((dg n).toNat : Int)) w := by
  have : n = 0 ∨ n = 1 ∨ n = 2 ∨ n = 3 ∨ n = 4 ∨ n = 5 ∨ n = 6 ∨ n = 7 ∨ n = 8 ∨ n = 9 ∨ n = 10 ∨ n = 11 ∨ n = 12 ∨ n = 13 ∨ n = 14 ∨ n = 15 := by omega
  rw [run_index_string _ _ _ _ _ Try.underlying9]
  rcases this with rfl | rfl | rfl | rfl | rfl | rfl | rfl | rfl | rfl | rfl | rfl | rfl | rfl | rfl | rfl | rfl <;> rfl

set_option maxHeartbeats 800000 in
theorem Hex_any (xs : List UInt8) (hx : xs.length = 32) (w : World) :
    Calls Try.prog 19 #[.agg (bvs xs).toArray] w fun e w' => e = .returned (.string (bstr (hexL xs))) ∧ Below w.heap.size w w' := by
  have HX := Lib.hid hx
  clear hx
  have hsz : Hid ((Try.prog.info? 24).map (·.size) = some (bvs xs).length) := by show _ = _; rw [bvs_len, HX.out]; exact sizeD
  go_enter Try.func19, Try.ntmps19
  go_wp2_with (first
    | ((with_reducible show wpList _ _ _ (⟨some 1, .box _ _, _, _, _, _⟩ :: _) _ _); refine wl_box rfl 24 _ rfl (bvs xs) rfl ?_; intro w1 hA1 hb1 hs1)
    | (at_make; go_loud (refine wl_make0 bt rfl _ _ rfl w1.heap.size 64 rfl rfl (by omega) (Nat.le_refl _) ?_); intro w2 ho2 hb2 hs2)
    | ((with_reducible show wpList _ _ _ (⟨some 7, .load _ _, _, _, _, _⟩ :: _) _ _); refine wl_load rfl 24 _ rfl w.heap.size 0 rfl 24 (bvs xs) (bvs xs) (hA1.kept hb2) (fun j v h => by rw [Nat.zero_add]; exact h) (.array 32 5) Try.underlying24 rfl hsz.out ?_))
  have hB2 := hb1.trans (hb2.mono (Nat.le_of_lt hs1))
  generalize hg : w.heap.size = g at *
  generalize hB : w1.heap.size = B at *
  have HG := Lib.hid hg
  clear hg hB hA1 hb1 hb2
  go_loopw [3, 8] (fun v i wr => ∃ (k : Nat) (p : Option Addr) (c : Nat), k ≤ 32 ∧ i = .int .i64 k ∧ v = .slice p (2 * k) c ∧ Own wr B 5 v (hexL (xs.take k)) ∧ Below g w wr ∧ B ≤ wr.heap.size) (fun _ i _ => 32 - (intOf i).toNat)
  case atStart => exact ⟨0, _, _, by omega, rfl, rfl, ho2, hB2, Nat.le_of_lt hs2⟩
  case round =>
    obtain ⟨k, p, c, hk, rfl, rfl, ho, hb, hs⟩ := hrel
    by_cases hlt : k < 32
    · have hc : (k : Int) < 32 := by omega
      have hx := HX.out
      have hix : ∀ W, (Instr.index 24 (.agg (bvs xs).toArray) (.int .i64 (k : Int))).run Try.prog W = .ok (.int .u8 ((xs.getD k 0).toNat : Int)) W := fun W =>
        run_index_arr k Try.underlying24 Try.underlying5 (by kernel_rfl) hlt (bvs_get _ _ (by omega))
      have hsn : Hid (hexL (xs.take (k + 1)) = hexL (xs.take k) ++ [dg ((xs.getD k 0).toNat / 16), dg ((xs.getD k 0).toNat % 16)]) := by
        show _ = _
        rw [List.take_succ_eq_append_getElem (by omega), hexL_snoc]
        have e : xs.getD k 0 = xs[k]'(by omega) := by simp [List.getD, show k < xs.length by omega]
        rw [e]
      have hbx := (xs.getD k 0).toNat_lt
      have hl4 : Hid ((hexL (xs.take k) ++ [dg ((xs.getD k 0).toNat / 16), dg ((xs.getD k 0).toNat % 16)]).length = 2 * (k + 1)) := by
        show _ = _
        simp only [List.length_append, hexL_len, List.length_take, List.length_cons, List.length_nil]
        omega
      generalize hy : (xs.getD k 0).toNat = y at *
      clear hy hx
      have d1 := dg_index (y / 16) (by omega)
      have d2 := dg_index (y % 16) (by omega)
      push_cast at d1 d2
      have ha : bits BinOp.and IntKind.u8 (y : Int) 15 = (y : Int) % 16 := bits_mask .u8 8 (by decide) (fun n h0 h1 => wraps_u8 n h0 h1) 4 (by omega) _ (by omega) (by omega)
      go_upto_region 5 with fail
      clear hix
      have hw0 : ∀ o, Below wr.heap.size wr (wr.alloc o).drew := fun o => ((Below.refl _ _).alloc (Nat.le_refl _) _).drew
      go_region_law (go_loud (refine step_append_b bt rfl _ _ rfl B _ _ (ho.to (hw0 _)) rfl _ 2 2 [dg (y / 16), dg (y % 16)] rfl (rd_drew (rd_lit _ [dg (y / 16), dg (y % 16)] _)) (by simp [hexL_len]; omega) (by simp; omega) ?_); intro v4 w4 ho4 hb4)
      all_goals
        obtain ⟨a4, c4, rfl, -⟩ := ho4.shape
        simp only [hl4.out] at ho4 ⊢
        go_wp2
        go_roundw
        case rel =>
          refine ⟨k + 1, a4, c4, by omega, by go_num, rfl, ?_, (hb.trans ((hw0 _).mono (by omega))).trans (hb4.mono (by omega)), by have := hb4.size; have := (hw0 (.cells #[] 5)).size; simp at *; omega⟩
          rw [hsn.out]
          exact ho4
        case measure => simp [intOf]; omega
    · have hk32 : k = 32 := by omega
      have hc : ¬ (k : Int) < 32 := by omega
      have HF : Hid (hexL (xs.take k) = hexL xs) := by
        show _ = _
        rw [List.take_of_length_le (by have := HX.out; omega)]
      rw [HF.out] at ho
      have hst := run_bstr bt Try.underlying9 ho.rd.toRd
      clear hk32
      go_wp2
      go_ret
      exact ⟨rfl, by rw [HG.out]; exact hb⟩

set_option maxHeartbeats 1600000 in
theorem rHex_any (xs : List UInt8) (hx : xs.length = 32) (w : World) :
    Calls Try.prog 20 #[.agg (bvs xs).toArray] w fun e w' => e = .returned (.string (bstr (hexL xs))) ∧ Below w.heap.size w w' := by
  have HX := Lib.hid hx
  clear hx
  go_enter Try.func20, Try.ntmps20
  go_wp2_with (first
    | ((with_reducible show wpList _ _ _ (⟨some 1, .box _ _, _, _, _, _⟩ :: _) _ _); refine wl_box rfl 24 _ rfl (bvs xs) rfl ?_; intro w1 hA1 hb1 hs1))
  have ho2 := Own.nil w1 w1.heap.size 5
  have hb11 : Below w1.heap.size w1 w1 := Below.refl _ _
  generalize hg : w.heap.size = g at *
  generalize hB : w1.heap.size = B at *
  have HG := Lib.hid hg
  have HB := Lib.hid hB
  clear hg hB
  go_loopw [4, 5] (fun v i wr => ∃ (k : Nat) (p : Option Addr) (c : Nat), k ≤ 32 ∧ i = .int .i64 k ∧ v = .slice p (2 * k) c ∧ Own wr B 5 v (hexL (xs.take k)) ∧ Below B w1 wr) (fun _ i _ => 32 - (intOf i).toNat)
  case atStart => exact ⟨0, _, _, by omega, rfl, rfl, ho2, hb11⟩
  case round =>
    obtain ⟨k, p, c, hk, rfl, rfl, ho, hb⟩ := hrel
    have hs : B ≤ wr.heap.size := by have := hb.size; have := HB.out; omega
    by_cases hlt : k < 32
    · have hc : (k : Int) < 32 := by omega
      have hx := HX.out
      have ck := ((hA1.to hb hs1).cell k).trans (bvs_get xs k (by omega))
      have hsn : Hid (hexL (xs.take (k + 1)) = hexL (xs.take k) ++ [dg ((xs.getD k 0).toNat / 16), dg ((xs.getD k 0).toNat % 16)]) := by
        show _ = _
        rw [List.take_succ_eq_append_getElem (by omega), hexL_snoc]
        have e : xs.getD k 0 = xs[k]'(by omega) := by simp [List.getD, show k < xs.length by omega]
        rw [e]
      have hbx := (xs.getD k 0).toNat_lt
      have hl4 : Hid ((hexL (xs.take k) ++ [dg ((xs.getD k 0).toNat / 16), dg ((xs.getD k 0).toNat % 16)]).length = 2 * (k + 1)) := by
        show _ = _
        simp only [List.length_append, hexL_len, List.length_take, List.length_cons, List.length_nil]
        omega
      generalize hy : (xs.getD k 0).toNat = y at *
      clear hy hx
      have d1 := dg_index (y / 16) (by omega)
      have d2 := dg_index (y % 16) (by omega)
      push_cast at d1 d2
      have hw16 : IntKind.u8.wrap ((y : Int) / 16) = (y : Int) / 16 := IntWalk.u8_in _ (by omega)
      have hr16 : (y : Int).tmod 16 = (y : Int) % 16 := IntWalk.rem_in _ _ (by omega)
      go_upto_region 6 with fail
      have hw0 : ∀ o, Below wr.heap.size wr (wr.alloc o).drew := fun o => ((Below.refl _ _).alloc (Nat.le_refl _) _).drew
      go_region_law (go_loud (refine step_append_b bt rfl _ _ rfl B _ _ (ho.to (hw0 _)) rfl _ 2 2 [dg (y / 16), dg (y % 16)] rfl (rd_drew (rd_lit _ [dg (y / 16), dg (y % 16)] _)) (by simp [hexL_len]; omega) (by simp; omega) ?_); intro v4 w4 ho4 hb4)
      all_goals
        obtain ⟨a4, c4, rfl, -⟩ := ho4.shape
        simp only [hl4.out] at ho4 ⊢
        clear ck
        go_wp2
        go_roundw
        case rel =>
          refine ⟨k + 1, a4, c4, by omega, by go_num, rfl, ?_, (hb.trans ((hw0 _).mono (by omega))).trans (hb4.mono (by omega))⟩
          rw [hsn.out]
          exact ho4
        case measure => simp [intOf]; omega
    · have hk32 : k = 32 := by omega
      have hc : ¬ (k : Int) < 32 := by omega
      have HF : Hid (hexL (xs.take k) = hexL xs) := by
        show _ = _
        rw [List.take_of_length_le (by have := HX.out; omega)]
      rw [HF.out] at ho
      have hst := run_bstr bt Try.underlying9 ho.rd.toRd
      have hbw := hb1.trans (hb.mono (Nat.le_of_lt hs1))
      clear hk32
      go_wp2
      go_ret
      exact ⟨rfl, by rw [HG.out]; exact hbw⟩
end Go.Proofs.Ytgippimoklefnaa
