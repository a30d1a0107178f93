/-
  Package sha: states: is, New, Len, Copy. Package sha: the padding, a state as bytes. Package sha: Write. Package sha: Sum of a state, of bytes. Conditions: those in each statement.
-/
import Derived.Test.YtfidajbenmgflaaDoorShaM
import Derived.Test.YtfidajbenmgflaaDoorArr2
import Derived.StillTailTactics
import Derived.Deep.DeepCutAuto
import Derived.Deep.CutBlock
import Derived.Test.YtfidajbenmgflaaDoorShaE
import Derived.Test.YtfidajbenmgflaaDoorReg
namespace Go.Proofs.YtfidajbenmgflaaDoor
open Go.RowKit

theorem ret_bool {a b : Bool} (h : a = b) : Ending.returned (.bool a) = .returned (.bool b) := by rw [h]

/-- block r is a state to which xs was written -/
def St (w : World) (r : Nat) (xs : List UInt8) : Prop := ∃ rest, RestOk xs rest ∧ Arr w r 110 (stC (bl xs (xs.length / 64)) rest xs.length)
theorem St.lt {w : World} {r : Nat} {xs : List UInt8} (h : St w r xs) : r < w.heap.size := by obtain ⟨_, _, h⟩ := h; exact h.lt
theorem St.kept {w w' : World} {r : Nat} {xs : List UInt8} (h : St w r xs) (hb : Below w.heap.size w w') : St w' r xs := by
  obtain ⟨x, h1, h⟩ := h; exact ⟨x, h1, h.kept hb⟩
theorem St.to {w w' : World} {B r : Nat} {xs : List UInt8} (h : St w r xs) (hb : Below B w w') (hr : r < B) : St w' r xs := by
  obtain ⟨x, h1, h⟩ := h; exact ⟨x, h1, h.to hb hr⟩
theorem St.grown {w w' : World} {r : Nat} {xs : List UInt8} {g : Option Nat} (h : St w r xs) (hb : w.grownBy w' g) (hr : some r ≠ g) : St w' r xs := by
  obtain ⟨x, h1, h⟩ := h; exact ⟨x, h1, h.grown hb hr⟩
theorem St.cells {w : World} {r : Nat} {xs : List UInt8} (h : St w r xs) : w.cell? ⟨r, 0, none⟩ = some (.bool true) ∧ w.cell? ⟨r, 73, none⟩ = some (.int .u64 (xs.length : Int)) ∧ ∀ j, w.frozen? ⟨r, j, none⟩ = false := by
  obtain ⟨x, h1, h⟩ := h
  exact ⟨h.cell 0, (h.cell 73).trans (stC_get_num _ _ _ h1.1), h.frozen⟩

theorem is_any (r : Nat) (w : World) (hc : w.cell? ⟨r, 0, none⟩ = some (.bool true)) :
    Calls Tryd.prog 57 #[.pointer (some ⟨r, 0, none⟩)] w fun e w' => e = .returned (.bool true) ∧ w = w' := by
  go_enter Tryd.func57, Tryd.ntmps57
  go_wp2
  go_ret
  exact ⟨rfl, rfl⟩
theorem is_zero (r : Nat) (w : World) (hc : w.cell? ⟨r, 0, none⟩ = some (.bool false)) :
    Calls Tryd.prog 57 #[.pointer (some ⟨r, 0, none⟩)] w fun e w' => e = .returned (.bool false) ∧ w = w' := by
  go_enter Tryd.func57, Tryd.ntmps57
  go_wp2
  go_ret
  exact ⟨rfl, rfl⟩
theorem is_nil (w : World) :
    Calls Tryd.prog 57 #[.pointer none] w fun e w' => e = .returned (.bool false) ∧ w = w' := by
  go_enter Tryd.func57, Tryd.ntmps57
  go_wp2
  go_ret
  exact ⟨rfl, rfl⟩

theorem size74 : (Tryd.prog.info? 110).map (·.size) = some 74 := by kernel_rfl
def Z8 (n : Nat) : List UInt8 := List.replicate n 0
theorem built_new : Tryd.prog.built 110 [(0, .bool true), (1, .agg (qs H0).toArray)] = some (stC IV (Z8 64) 0).toArray := by kernel_rfl
theorem built_copy (n : Nat) : Tryd.prog.built 110 [(0, .bool true), (3, .int .u64 (n : Int))] = some (stC ⟨0, 0, 0, 0, 0, 0, 0, 0⟩ (Z8 64) n).toArray := by kernel_rfl

theorem New_any (w : World) : Calls Tryd.prog 40 #[] w fun e w' => ∃ r, e = .returned (.pointer (some ⟨r, 0, none⟩)) ∧ St w' r [] ∧ w.heap.size ≤ r ∧ Below w.heap.size w w' := by
  go_enter Tryd.func40, Tryd.ntmps40
  go_wp2_with (first
    | (go_at_call 56; refine (first_any _).mono ?_; rintro e w1 ⟨rfl, hb1⟩)
    | ((with_reducible show wpList _ _ _ (⟨some 2, .build _ _, _, _, _, _⟩ :: _) _ _); refine wpList_buildTo rfl 110 _ rfl (some 2) rfl (stC IV (Z8 64) 0).toArray (by simpa [Act.eval] using built_new) ?_)
    | ((with_reducible show wpList _ _ _ (⟨some 3, .box _ _, _, _, _, _⟩ :: _) _ _); refine wl_box rfl 110 _ rfl (stC IV (Z8 64) 0) rfl ?_; intro w2 hA2 hb2 hs2))
  go_ret
  exact ⟨_, rfl, ⟨Z8 64, rest_nil _ (by simp [Z8]), hA2⟩, hb1.size, hb1.trans (hb2.mono hb1.size)⟩

set_option maxRecDepth 100000 in
set_option maxHeartbeats 800000 in
theorem Copy_any (r : Nat) (xs : List UInt8) (w : World) (h : St w r xs) :
    Calls Tryd.prog 59 #[.pointer (some ⟨r, 0, none⟩)] w fun e w' => ∃ r', e = .returned (.pointer (some ⟨r', 0, none⟩)) ∧ St w' r' xs ∧ w.heap.size ≤ r' ∧ Below w.heap.size w w' := by
  obtain ⟨c0, c73, -⟩ := h.cells
  obtain ⟨rest, hro, hA⟩ := h
  have hrl := hro.1
  have HRO := Lib.hid hro
  have HRL := Lib.hid hrl
  clear hro hrl
  generalize hbs : bl xs (xs.length / 64) = s at *
  have HS := Lib.hid hbs
  clear hbs
  obtain ⟨n, hn⟩ : ∃ n, n = xs.length := ⟨_, rfl⟩
  rw [← hn] at hA c73
  have HN := Lib.hid hn
  clear hn
  go_enter Tryd.func59, Tryd.ntmps59
  go_upto_region 4 with (first
    | (go_at_call 57; refine (is_any _ _ c0).mono ?_; rintro e w1 ⟨rfl, rfl⟩)
    | ((with_reducible show wpList _ _ _ (⟨some 11, .build _ _, _, _, _, _⟩ :: _) _ _); refine wpList_buildTo rfl 110 _ rfl (some 11) rfl (stC ⟨0, 0, 0, 0, 0, 0, 0, 0⟩ (Z8 64) n).toArray (by simpa [Act.eval] using built_copy n) ?_)
    | ((with_reducible show wpList _ _ _ (⟨some 12, .box _ _, _, _, _, _⟩ :: _) _ _); refine wl_box rfl 110 _ rfl (stC ⟨0, 0, 0, 0, 0, 0, 0, 0⟩ (Z8 64) n) rfl ?_; intro w2 hA2 hb2 hs2))
  generalize hg : w.heap.size = g at *
  have HG := Lib.hid hg
  clear hg
  have hrg : r < g := by have := hA.lt; have := HG.out; omega
  have hA' : Arr w2 r 110 (stC s rest n) := hA.to hb2 hrg
  have hnow : Hid (∀ w', Arr w' r 110 (stC s rest n) → ∀ j v, (qs s.list)[j]? = some v → w'.cell? ((⟨r, 1, none⟩ : Addr).add j) = some v) := fun w' h j v hv => by
    rw [Addr.add_mid, h.cell]; exact stC_get_now _ _ _ _ _ hv
  have hrst : Hid (∀ w', Arr w' r 110 (stC s rest n) → ∀ j v, (bvs rest)[j]? = some v → w'.cell? ((⟨r, 9, none⟩ : Addr).add j) = some v) := fun w' h j v hv => by
    rw [Addr.add_mid, h.cell]; exact stC_get_rest _ _ _ _ _ hv
  clear hA c0 c73
  refine wp_region_still_tail 8 (by kernel_rfl) (by kernel_rfl) ?_
  simp only [List.take_succ_cons, List.take_zero, List.drop_succ_cons, List.drop_zero]
  repeat still_step
  refine wpStill_nil ?_
  change wpList _ _ _ _ _ w2.drew
  replace hA' := hA'.drew
  replace hA2 := hA2.drew
  replace hb2 := hb2.drew
  generalize w2.drew = w3 at *
  go_upto_region 5 with ((with_reducible show wpList _ _ _ (⟨some 21, _, _, _, _, _⟩ :: _) _ _); refine wl_copyV rfl _ _ 137 137 rfl 104 Tryd.underlying137 (by kernel_rfl) g 1 8 8 _ 8 8 rfl rfl 110 _ hA2 (qs s.list) rfl (fun _ => ⟨_, rfl, hnow.out _ hA'⟩) (by rw [stC_len _ _ _ (by simp [Z8])]; exact (by decide : 1 + 8 ≤ 74)) (qs_one _) ?_; intro w4 hA4 hg4 hs4)
  have hl0 : (stC ⟨0, 0, 0, 0, 0, 0, 0, 0⟩ (Z8 64) n).length = 74 := stC_len _ _ _ (by simp [Z8])
  rw [show List.take 1 (stC ⟨0, 0, 0, 0, 0, 0, 0, 0⟩ (Z8 64) n) ++ (qs s.list ++ List.drop (1 + (qs s.list).length) (stC ⟨0, 0, 0, 0, 0, 0, 0, 0⟩ (Z8 64) n)) = stC s (Z8 64) n by
    rw [← List.append_assoc]; exact stC_now _ _ _ _] at hA4
  replace hA' := hA'.grown hg4 (by intro e; injection e with e; omega)
  have hb4 := hb2.grown hg4 (by have := hA2.lt; omega) (by intro k e; injection e with e; omega)
  clear hA2 hb2 hg4 hl0
  refine wp_region_still_tail 8 (by kernel_rfl) (by kernel_rfl) ?_
  simp only [List.take_succ_cons, List.take_zero, List.drop_succ_cons, List.drop_zero]
  repeat still_step
  refine wpStill_nil ?_
  change wpList _ _ _ _ _ w4.drew
  replace hA' := hA'.drew
  replace hA4 := hA4.drew
  replace hb4 := hb4.drew
  generalize w4.drew = w5 at *
  go_wp2_with ((with_reducible show wpList _ _ _ (⟨some 30, _, _, _, _, _⟩ :: _) _ _); refine wl_copyV rfl _ _ 38 38 rfl 5 Tryd.underlying38 (by kernel_rfl) g 9 64 64 _ 64 64 rfl rfl 110 _ hA4 (bvs rest) (by rw [bvs_len, HRL.out]; rfl) (fun _ => ⟨_, rfl, hrst.out _ hA'⟩) (by rw [stC_len _ _ _ (by simp [Z8]), bvs_len, HRL.out]; exact (by decide : 9 + 64 ≤ 74)) (bvs_one _) ?_; intro w6 hA6 hg6 hs6)
  go_ret
  have hfin : (stC s (Z8 64) n).take 9 ++ (bvs rest ++ (stC s (Z8 64) n).drop (9 + (bvs rest).length)) = stC s rest n := by
    have := stC_rest s (Z8 64) n 0 rest (by simp [Z8]) (by rw [HRL.out]; decide)
    rw [bvs_len]
    simp only [Nat.add_zero, List.take_zero, List.nil_append, Nat.zero_add] at this
    rw [show List.drop rest.length (Z8 64) = [] from List.drop_of_length_le (by rw [HRL.out]; simp [Z8]), List.append_nil] at this
    exact this
  refine ⟨_, rfl, ⟨rest, HRO.out, ?_⟩, by rw [HG.out]; exact Nat.le_refl _, by rw [HG.out]; exact hb4.grown hg6 (by have := hA4.lt; omega) (by intro k e; injection e with e; omega)⟩
  rw [HS.out, ← HN.out, ← hfin]
  exact hA6
end Go.Proofs.YtfidajbenmgflaaDoor

namespace Go.Proofs.YtfidajbenmgflaaDoor
open Go.RowKit

theorem bt : BT Tryd.prog 38 5 := ⟨Tryd.underlying38, Tryd.underlying5, by kernel_rfl⟩

section
variable {P : Program} {T E : TypeId} (bt : BT P T E) {ops : Array Oper} {rest : List Oper} {o : Oper} {a : Act} {Q : Exit → Act → World → Prop} {w : World}
include bt
/-- make([]byte, n), n of whatever kind -/
theorem wl_makeK (hg : o.guard = none) (l c : Operand) (hop : o.op = Op.makeSlice T l c) (B : Nat) (n : Nat) (k : IntKind) (hl : a.eval l = .int k n) (hc : a.eval c = .int k n)
    (hn : n ≤ 281474976710656) (hB : B ≤ w.heap.size)
    (hK : ∀ w', Own w' B E (.slice (some ⟨w.heap.size, 0, none⟩) n n) (List.replicate n 0) → Below w.heap.size w w' → w.heap.size < w'.heap.size → wpList P ops Q rest (a.put o.dst (.slice (some ⟨w.heap.size, 0, none⟩) n n)) w') :
    wpList P ops Q (o :: rest) a w := by
  obtain ⟨i0, hi, hz0, hz1, hz2⟩ := info_parts bt.info
  refine wpList_plain hg fun K hK' => ?_
  have hrun := run_make (P := P) w T E i0 (.int .u8 0) bt.sl hi hz0 k k n n (by omega) (by omega) (by rw [hz2]; omega) (by omega)
  unfold Oper.wp
  simp [execOp, hop, hl, hc, hrun, Result.andThen]
  refine hK' _ _ (hK _ ?_ ?_ ?_)
  · have := World.ownsRow_lit (base := B) (e := E) (size := 1) w (madeCells #[.int .u8 0] n) n hB (by unfold maxLen; omega) (by simp [madeCells])
    simp only [hz1, Value.cells, Nat.mul_one]
    unfold Own
    have e : (List.map bv (List.replicate n 0)) = (madeCells #[.int .u8 0] n).toList := by rw [toList_madeCells_one]; simp [bv]
    rw [e]
    simpa using this
  · exact (Below.refl _ _).alloc (Nat.le_refl _) _
  · simp
end

/-- what lies there behind k rounds -/
def padK (n k : Nat) : List UInt8 := 128 :: (List.replicate (nz n) 0 ++ (List.replicate (8 - k) 0 ++ (digits (8 * n) 8).drop (8 - k)))
theorem padK_len (n k : Nat) (h : k ≤ 8) : (padK n k).length = nz n + 9 := by
  simp only [padK, List.length_cons, List.length_append, List.length_replicate, List.length_drop, digits_len]
  omega
theorem padK_step (n k : Nat) (h : k < 8) : (padK n k).set (nz n + 8 - k) (digit (8 * n) 8 (7 - k)) = padK n (k + 1) := by
  unfold padK
  rw [show nz n + 8 - k = (nz n + (7 - k)) + 1 by omega, List.set_cons_succ, List.set_append_right _ _ (by simp), List.length_replicate, show nz n + (7 - k) - nz n = 8 - 1 - k by omega, ← down_step (8 * n) 8 k h]
theorem padK_zero (n : Nat) : (List.replicate (nz n + 9) (0 : UInt8)).set 0 128 = padK n 0 := by
  unfold padK
  rw [show nz n + 9 = (nz n + 8) + 1 by omega, List.replicate_succ]
  rw [List.set_cons_zero, Nat.sub_zero, List.drop_of_length_le (by rw [digits_len]; exact Nat.le_refl _), List.append_nil, List.replicate_append_replicate]
theorem padK_end (n : Nat) : padK n 8 = padB n := by simp [padK, padB]
theorem digit_raw (n k : Nat) (h : k < 8) : (((digit (8 * n) 8 (7 - k)).toNat : Nat) : Int) = ((n : Int) * 8 / 2 ^ (8 * k)) % 256 := by
  have e : (256 : Nat) ^ k = 2 ^ (8 * k) := by rw [Nat.pow_mul]
  simp only [digit, show 8 - 1 - (7 - k) = k by omega, e]
  simp
  rw [Int.mul_comm]

theorem padding_any (n : Nat) (w : World) (hn : n ≤ 1152921504606846976) :
    Calls Tryd.prog 60 #[.int .u64 (n : Int)] w fun e w' => ∃ v, e = .returned v ∧ Own w' w.heap.size 5 v (padB n) ∧ Below w.heap.size w w' := by
  have hz := nz_lt n
  have hnz : Hid ((((64 : Int) - ((n : Int) + 1 + 8) % 64) % 64) = (nz n : Int)) := by
    show _ = _
    unfold nz
    omega
  go_enter Tryd.func60, Tryd.ntmps60
  go_upto_region 3 with fail
  rw [hnz.out]
  have e1 : Hid ((1 : Int) + (nz n : Int) + 8 = ((nz n + 9 : Nat) : Int)) := by show _ = _; omega
  go_upto_region 4 with (at_make; refine wl_makeK bt rfl _ _ rfl w.heap.size (nz n + 9) .u64 (congrArg (Value.int .u64) e1.out) (congrArg (Value.int .u64) e1.out) (by omega) (Nat.le_refl _) ?_; intro w1 ho1 hb1 hs1)
  generalize hB : w.heap.size = B at *
  have HB := Lib.hid hB
  clear hB
  have hc0 := Own.cellAt ho1 0 (by omega)
  have hf0 := Own.frozenAt ho1 0
  have hst0 := Own.stored ho1 0 128
  rw [padK_zero] at hst0
  have hb2 := hb1.setCell (p := ⟨B, 0, none⟩) (Nat.le_refl _) (.int .u8 ((128 : UInt8).toNat : Int))
  clear ho1 hb1
  go_wp2_with fail
  rw [show (((128 : UInt8).toNat : Nat) : Int) = 128 from rfl] at hst0 hb2
  generalize w1.setCell ⟨B, 0, none⟩ (.int .u8 128) = w2 at *
  clear hc0 hf0
  go_loopw [20] (fun i wr => ∃ k : Nat, k ≤ 8 ∧ i = .int .i64 k ∧ Own wr B 5 (.slice (some ⟨B, 0, none⟩) (nz n + 9) (nz n + 9)) (padK n k) ∧ Below B w wr) (fun i _ => 8 - (intOf i).toNat)
  case atStart => exact ⟨0, by omega, rfl, hst0, hb2⟩
  case round =>
    obtain ⟨k, hk, rfl, ho, hb⟩ := hrel
    by_cases hlt : k < 8
    · have hc : (k : Int) < 8 := by omega
      have hcl := Own.cellAt ho (nz n + 8 - k) (by omega)
      have hfr := Own.frozenAt ho (nz n + 8 - k)
      have hst := Own.stored ho (nz n + 8 - k) (digit (8 * n) 8 (7 - k))
      rw [padK_step n k hlt, digit_raw n k hlt] at hst
      have hb' := hb.setCell (p := ⟨B, nz n + 8 - k, none⟩) (Nat.le_refl _) (.int .u8 ((n : Int) * 8 / 2 ^ (8 * k) % 256))
      have ei : ((nz n : Int) + 9 - 1 - (k : Int)).toNat = nz n + 8 - k := by omega
      have f1 : 0 ≤ (nz n : Int) + 9 - 1 - (k : Int) := by omega
      have f2 : (nz n : Int) + 9 - 1 - (k : Int) < (nz n : Int) + 9 := by omega
      clear ho hb
      go_wp2
      go_roundw
      case rel => exact ⟨k + 1, by omega, by go_num, hst, hb'⟩
      case measure => simp [intOf]; omega
    · have hk8 : k = 8 := by omega
      have hc : ¬ (k : Int) < 8 := by omega
      rw [hk8, padK_end] at ho
      go_wp2
      go_ret
      exact ⟨_, rfl, by rw [HB.out]; exact ho, by rw [HB.out]; exact hb⟩

/-- an array's element, by value -/
theorem run_index_arr {P : Program} {w : World} {t e : TypeId} {n : Nat} {k0 : IntKind} {cs : List Value} {v : Value} (i : Nat) (hu : P.underlying t = some (.array n e)) (he : P.underlying e = some (.int k0))
    (hs : (P.info? e).map (·.size) = some 1) (hi : i < n) (hc : cs[i]? = some v) : (Instr.index t (.agg cs.toArray) (.int .i64 (i : Int))).run P w = .ok v w := by
  cases hq : P.info? e with
  | none => simp [hq] at hs
  | some inf =>
    have h1 : inf.size = 1 := by simpa [hq] using hs
    have hp : (part e cs.toArray i).run P w = .ok v w := by
      have ha : (isAgg e).run P w = .ok false w := by
        unfold isAgg
        rw [Sem.run_bind, run_underlying he w]
        rfl
      unfold part
      simp [Sem.run_bind, ha, hc]
    simp [Instr.index, asIntOf, run_underlying hu, hi, Sem.run_bind, sizeOf, typeInfo, hq, h1, hp]

/-- bytes laid so far -/
def digI (s : R8) (i : Nat) : List UInt8 := (dig s).take i ++ Z8 (32 - i)
theorem digI_len (s : R8) (i : Nat) (h : i ≤ 32) : (digI s i).length = 32 := by
  simp only [digI, List.length_append, List.length_take, dig_len, Z8, List.length_replicate]
  omega
theorem digI_step (s : R8) (i : Nat) (h : i < 32) : (digI s i).set i (digB s i) = digI s (i + 1) := by
  have hd : (dig s)[i]'(by rw [dig_len]; exact h) = digB s i := by simp [dig]
  unfold digI Z8
  rw [List.set_append_right _ _ (by simp [dig_len]; omega), show i - ((dig s).take i).length = 0 by simp [dig_len]; omega, show 32 - i = (32 - (i + 1)) + 1 by omega, List.replicate_succ, List.set_cons_zero,
    List.take_succ_eq_append_getElem (by rw [dig_len]; exact h), hd, List.append_assoc]
  rfl
theorem digI_end (s : R8) : digI s 32 = dig s := by
  unfold digI
  rw [List.take_of_length_le (by rw [dig_len]; exact Nat.le_refl _)]
  simp [Z8]
theorem digB_at (s : R8) (k j : Nat) (hj : j < 4) : (((digB s (4 * k + j)).toNat : Nat) : Int) = ((s.list.getD k 0).toNat : Int) / ((2 ^ (24 - 8 * j) : Nat) : Int) % 256 := by
  unfold digB
  rw [show (4 * k + j) / 4 = k by omega, show (4 * k + j) % 4 = j by omega]
  simp
theorem infoD : (Tryd.prog.info? 48).map (fun i => (i.zero, i.size)) = some (some (.agg (bvs (Z8 32)).toArray), 32) := by kernel_rfl
theorem sizeD : (Tryd.prog.info? 48).map (·.size) = some 32 := by kernel_rfl
theorem bvs_set (xs : List UInt8) (j : Nat) (x : UInt8) : (bvs xs).set j (.int .u8 (x.toNat : Int)) = bvs (xs.set j x) := by
  simp [bvs, List.map_set]; rfl

set_option maxRecDepth 100000 in
set_option maxHeartbeats 800000 in
theorem digest_any (s : R8) (w : World) :
    Calls Tryd.prog 61 #[.agg (qs s.list).toArray] w fun e w' => e = .returned (.agg (bvs (dig s)).toArray) ∧ Below w.heap.size w w' := by
  have hl8 : s.list.length = 8 := rfl
  have HL := Lib.hid hl8
  clear hl8
  have hql : Hid ((Tryd.prog.info? 105).map (·.size) = some (qs s.list).length) := by show _ = _; rw [qs_len, HL.out]; exact size8
  go_enter Tryd.func61, Tryd.ntmps61
  go_wp2_with (first
    | ((with_reducible show wpList _ _ _ (⟨some 1, .box _ _, _, _, _, _⟩ :: _) _ _); refine wl_box rfl 105 _ rfl (qs s.list) rfl ?_; intro w1 hA1 hb1 hs1)
    | ((with_reducible show wpList _ _ _ (⟨some 2, .alloc _, _, _, _, _⟩ :: _) _ _); refine wl_alloc rfl 48 rfl (bvs (Z8 32)) 32 infoD ?_; intro w2 hA2 hb2 hs2)
    | ((with_reducible show wpList _ _ _ (⟨some 3, .alloc _, _, _, _, _⟩ :: _) _ _); refine wl_alloc rfl 48 rfl (bvs (Z8 32)) 32 infoD ?_; intro w3 hA3 hb3 hs3)
    | ((with_reducible show wpList _ _ _ (⟨some 6, .load _ _, _, _, _, _⟩ :: _) _ _); refine wl_load rfl 105 _ rfl w.heap.size 0 rfl 105 (qs s.list) (qs s.list) ((hA1.to hb2 hs1).to hb3 (by omega)) (fun j v h => by rw [Nat.zero_add]; exact h) (.array 8 104) Tryd.underlying105 rfl hql.out ?_))
  generalize h1 : w.heap.size = g1 at *
  generalize h2 : w1.heap.size = g2 at *
  generalize h3 : w2.heap.size = g3 at *
  have G1 := Lib.hid h1
  have G2 := Lib.hid h2
  have G3 := Lib.hid h3
  clear h1 h2 h3
  have hB3 : Below g1 w w3 := hb1.trans ((hb2.mono (Nat.le_of_lt hs1)).trans (hb3.mono (by omega)))
  have hR3 : Arr w3 g2 48 (bvs (Z8 32)) := hA2.to hb3 hs2
  have hD3 : Arr w3 g3 48 (bvs (digI s 0)) := hA3
  clear hA1 hA2 hA3 hb1 hb2 hb3
  go_loopw [7] (fun i wr => ∃ k : Nat, k ≤ 8 ∧ i = .int .i64 k ∧ Arr wr g2 48 (bvs (Z8 32)) ∧ Arr wr g3 48 (bvs (digI s (4 * k))) ∧ Below g1 w wr) (fun i _ => 8 - (intOf i).toNat)
  case atStart => exact ⟨0, by omega, rfl, hR3, hD3, hB3⟩
  case round =>
    obtain ⟨k, hk, rfl, hR, hD, hB⟩ := hrel
    by_cases hlt : k < 8
    · have hc : (k : Int) < 8 := by omega
      have hix : ∀ W, (Instr.index 105 (.agg (qs s.list).toArray) (.int .i64 (k : Int))).run Tryd.prog W = .ok (.int .u32 ((s.list.getD k 0).toNat : Int)) W := fun W =>
        run_index_arr k Tryd.underlying105 Tryd.underlying104 (by kernel_rfl) hlt (qs_get _ _ (by rw [HL.out]; exact hlt))
      have hdl := digI_len s (4 * k) (by omega)
      have cell : ∀ j, j < 32 → wr.cell? ⟨g3, j, none⟩ = some (.int .u8 (((digI s (4 * k)).getD j 0).toNat : Int)) := fun j hj => (hD.cell j).trans (bvs_get _ _ (by rw [hdl]; exact hj))
      have c0 := cell (4 * k) (by omega)
      have c1 := cell (4 * k + 1) (by omega)
      have c2 := cell (4 * k + 2) (by omega)
      have c3 := cell (4 * k + 3) (by omega)
      have f0 := hD.frozen (4 * k)
      have f1 := hD.frozen (4 * k + 1)
      have f2 := hD.frozen (4 * k + 2)
      have f3 := hD.frozen (4 * k + 3)
      have hst := (((hD.store (4 * k) (.int .u8 ((digB s (4 * k)).toNat : Int))).store (4 * k + 1) (.int .u8 ((digB s (4 * k + 1)).toNat : Int))).store (4 * k + 2) (.int .u8 ((digB s (4 * k + 2)).toNat : Int))).store (4 * k + 3) (.int .u8 ((digB s (4 * k + 3)).toNat : Int))
      rw [bvs_set, digI_step s (4 * k) (by omega), bvs_set, digI_step s (4 * k + 1) (by omega), bvs_set, digI_step s (4 * k + 2) (by omega), bvs_set, digI_step s (4 * k + 3) (by omega)] at hst
      have hx := u32_lt (s.list.getD k 0)
      have v0 : (((digB s (4 * k)).toNat : Nat) : Int) = ((s.list.getD k 0).toNat : Int) / 16777216 := by
        have := digB_at s k 0 (by omega)
        simp only [Nat.add_zero] at this
        omega
      have v1 : (((digB s (4 * k + 1)).toNat : Nat) : Int) = ((s.list.getD k 0).toNat : Int) / 65536 % 256 := digB_at s k 1 (by omega)
      have v2 : (((digB s (4 * k + 2)).toNat : Nat) : Int) = ((s.list.getD k 0).toNat : Int) / 256 % 256 := digB_at s k 2 (by omega)
      have v3 : (((digB s (4 * k + 3)).toNat : Nat) : Int) = ((s.list.getD k 0).toNat : Int) % 256 := by
        have := digB_at s k 3 (by omega)
        omega
      rw [v0, v1, v2, v3] at hst
      generalize (s.list.getD k 0) = x at *
      have HST := Lib.hid hst
      have HR := Lib.hid hR
      have HB := Lib.hid hB
      clear hst cell v0 v1 v2 v3 hR hB hD hdl
      go_wp2
      go_roundw
      case rel =>
        exact ⟨k + 1, by omega, by go_num, (((HR.out.other _ (by simp; omega) _).other _ (by simp; omega) _).other _ (by simp; omega) _).other _ (by simp; omega) _, by rw [show 4 * (k + 1) = 4 * k + 3 + 1 by omega]; exact HST.out,
          (((HB.out.setCell (by simp; omega) _).setCell (by simp; omega) _).setCell (by simp; omega) _).setCell (by simp; omega) _⟩
      case measure => simp [intOf]; omega
    · have hk8 : k = 8 := by omega
      have hc : ¬ (k : Int) < 8 := by omega
      rw [hk8, show 4 * 8 = 32 from rfl, digI_end] at hD
      have hdl := dig_len s
      have HDL : Hid ((Tryd.prog.info? 48).map (·.size) = some (bvs (dig s)).length) := by show _ = _; rw [bvs_len, hdl]; exact sizeD
      have HDL2 : Hid ((bvs (dig s)).length = 32) := by show _ = _; rw [bvs_len, hdl]
      clear hdl hk8
      have h1 := bvs_one (dig s)
      go_wp2_with (first
        | ((with_reducible show wpList _ _ _ (⟨some 38, .load _ _, _, _, _, _⟩ :: _) _ _); refine wl_load rfl 48 _ rfl g3 0 rfl 48 (bvs (dig s)) (bvs (dig s)) hD (fun j v h => by rw [Nat.zero_add]; exact h) (.array 32 5) Tryd.underlying48 rfl HDL.out ?_)
        | ((with_reducible show wpList _ _ _ (⟨none, .store _ _ _, _, _, _, _⟩ :: _) _ _); refine wl_store rfl 48 _ _ rfl g2 0 rfl (bvs (dig s)) rfl 48 _ hR HDL.out (by rw [HDL2.out]; exact (by decide : 0 + 32 ≤ (bvs (Z8 32)).length)) h1 ?_; intro w5 hA5 hg5 hs5))
      rw [whole_store _ _ (by rw [HDL2.out]; rfl)] at hA5
      exact end_cell rfl g2 48 (bvs (dig s)) (.array 32 5) rfl hA5 Tryd.underlying48 rfl HDL.out rfl ⟨rfl, G1.out ▸ hB.grown hg5 (Nat.le_trans (by omega) (Nat.le_of_lt hR.lt)) (by intro k e; cases e; omega)⟩
end Go.Proofs.YtfidajbenmgflaaDoor

namespace Go.Proofs.YtfidajbenmgflaaDoor
open Go.RowKit

def slen : Value → Nat
  | .slice _ n _ => n
  | _ => 0
theorem rd_grown {w w' : World} {a : Option Addr} {n cap : Nat} {xs : List UInt8} {r : Option Nat} (h : Rd w a n cap xs) (hb : w.grownBy w' r) (hr : ∀ ad, a = some ad → 0 < cap → some ad.block ≠ r) : Rd w' a n cap xs := by
  refine ⟨h.len, h.le, h.nil, fun hc => ?_⟩
  obtain ⟨b, off, e, h2, h3⟩ := h.mem hc
  exact ⟨b, off, e, Nat.lt_of_lt_of_le h2 hb.size, fun j hj => hb.cell (h3 j hj) (hr ⟨b, off, none⟩ e hc)⟩
theorem grown_trans' {a b c : World} {r : Option Nat} (h : a.grownBy b r) (k : b.grownBy c r) : a.grownBy c r :=
  ⟨k.os.trans h.os, k.tape.trans h.tape, k.output.trans h.output, Nat.le_trans h.size k.size, fun i hi hn => (k.block i (Nat.lt_of_lt_of_le hi h.size) hn).trans (h.block i hi hn)⟩
theorem grown_drew {a w : World} {r : Option Nat} (h : a.grownBy w r) : a.grownBy w.drew r := ⟨h.os, h.tape, h.output, h.size, h.block⟩
theorem grown_below {a w w' : World} {r : Option Nat} (h : a.grownBy w r) (hb : Below w.heap.size w w') : a.grownBy w' r :=
  ⟨hb.os.trans h.os, hb.tape.trans h.tape, hb.output.trans h.output, Nat.le_trans h.size hb.size, fun i hi hn => (hb.block i (Nat.lt_of_lt_of_le hi h.size)).trans (h.block i hi hn)⟩
theorem grown_setCell {a w : World} {g : Nat} (h : a.grownBy w (some g)) (j : Nat) (v : Value) : a.grownBy (w.setCell ⟨g, j, none⟩ v) (some g) :=
  ⟨h.os, h.tape, h.output, by simpa using h.size, fun k hk hne => (heap_setCell_other w ⟨g, j, none⟩ k v (fun e => hne (by rw [e]))).trans (h.block k hk hne)⟩

theorem rd_drew {w : World} {a : Option Addr} {n cap : Nat} {xs : List UInt8} (h : Rd w a n cap xs) : Rd w.drew a n cap xs := ⟨h.len, h.le, h.nil, h.mem⟩
theorem rd_drop {w : World} {b off n cap : Nat} {xs : List UInt8} (h : Rd w (some ⟨b, off, none⟩) n cap xs) (m : Nat) (hm : m ≤ n) (hc : m < cap) : Rd w (some ⟨b, off + m, none⟩) (n - m) (cap - m) (xs.drop m) := by
  have hl := h.len
  obtain ⟨b', off', e, h2, h3⟩ := h.mem (by omega)
  cases e
  refine ⟨by simp; omega, by have := h.le; omega, (by intro e; cases e), fun _ => ⟨b, off + m, rfl, h2, fun j hj => ?_⟩⟩
  have := h3 (m + j) (by omega)
  simp only [Nat.add_assoc] at this ⊢
  rw [this]
  simp [List.getD]
/-- an operation of a still walk: cells of a block loaded by value -/
theorem still_load {P : Program} {o : Oper} {a : Act} {w : World} {K : Act → Prop} (ty : TypeId) (x : Operand) (ho : o.op = .load ty x) (g off : Nat) (hx : a.eval x = .pointer (some ⟨g, off, none⟩))
    (T : TypeId) (xs ys : List Value) (hA : Arr w g T xs) (hy : ∀ j v, ys[j]? = some v → xs[off + j]? = some v) (d : TypeDesc) (hu : P.underlying ty = some d) (hd : d.isRow = true) (hi : (P.info? ty).map (·.size) = some ys.length)
    (hK : K (a.put o.dst (.agg ys.toArray))) : o.still P a w K := by
  unfold Oper.still execOp
  simp only [ho, hx, Instr.loadAt, Instr.sureAddr, Sem.run_bind, Sem.run_pure, Result.andThen_ok, run_loadVar_mid w g off ty ys d (hA.range off ys hy) hu hd hi]
  rw [Oper.stillUpon_value]
  exact hK

structure Inv7 (r : Nat) (s : R8) (mo : List UInt8) (V : List Value) (n : Nat) (w3 : World) (L : Nat → Bool) (v41 v42 v43 v44 v45 v46 v47 v48 v49 v50 v51 v52 : Value) (wx : World) : Prop where
  t0 : L 0 = true → v41 = .pointer (some ⟨r, 0, none⟩)
  t1 : L 1 = true → v42 = .pointer (some ⟨r, 0, none⟩)
  t2 : L 2 = true → v43 = .pointer (some ⟨r, 0, none⟩)
  t3 : L 3 = true → v44 = .pointer (some ⟨r, 1, none⟩)
  t4 : L 4 = true → v45 = .agg (qs s.list).toArray
  t5 : L 5 = true → v46 = .pointer (some ⟨r, 0, none⟩)
  t6 : L 6 = true → v47 = .pointer (some ⟨r, 0, none⟩)
  t7 : L 7 = true → v48 = .pointer (some ⟨r, 9, none⟩)
  t8 : L 8 = true → v49 = .agg (bvs mo).toArray
  t9 : L 9 = true → v50 = .agg V.toArray
  t10 : L 10 = true → v51 = .pointer (some ⟨r, 0, none⟩)
  t11 : L 11 = true → v52 = .pointer (some ⟨r, 1, none⟩)
  ar : L 12 = false → Arr wx r 110 (stC s mo n)
  fin : L 12 = true → Arr wx r 110 ((stC s mo n).take 1 ++ V ++ (stC s mo n).drop (1 + V.length))
  gr : w3.grownBy wx (some r)
  ls : r < wx.heap.size

theorem not_yet {b : Bool} (h : ¬ b = true) : b = false := by cases b <;> simp_all
theorem wpStill_plain {P : Program} {ops : Array Oper} {w : World} {Q : Act → Prop} {a : Act} {o : Oper} {rest : List Oper} (hg : o.guard = none)
    (h : ∀ K : Act → Prop, (∀ a, wpStill P ops w Q rest a → K a) → o.still P a w K) : wpStill P ops w Q (o :: rest) a :=
  wpStill_step fun K hK => by
    rw [if_pos (by simp [Region.wanted, hg])]
    exact h K hK

set_option maxRecDepth 100000 in
set_option maxHeartbeats 1600000 in
theorem Write_any (r : Nat) (xs ys : List UInt8) (a : Option Addr) (n cap : Nat) (w : World) (hm : xs.length + ys.length ≤ 1152921504606846976) (hr : Rd w a n cap ys) (hne : ∀ ad, a = some ad → 0 < cap → ad.block ≠ r) (h : St w r xs) :
    Calls Tryd.prog 41 #[.pointer (some ⟨r, 0, none⟩), .slice a n cap] w fun e w' => e = .returned (.tuple #[]) ∧ St w' r (xs ++ ys) ∧ w.grownBy w' (some r) := by
  have c0 := h.cells.1
  have HM := Lib.hid hm
  clear hm
  go_enter Tryd.func41, Tryd.ntmps41
  go_wp2_with (go_at_call 57; refine (is_any _ _ c0).mono ?_; rintro e w1 ⟨rfl, rfl⟩)
  go_loopw [1] (fun b wr => ∃ (zs ts : List UInt8) (p : Option Addr) (m c : Nat), b = .slice p m c ∧ Rd wr p m c ts ∧ (∀ ad, p = some ad → 0 < c → ad.block ≠ r) ∧ St wr r zs ∧ Hid (zs ++ ts = xs ++ ys) ∧ w.grownBy wr (some r)) (fun b _ => slen b)
  case atStart => exact ⟨xs, ys, a, n, cap, rfl, hr, hne, h, rfl, World.grownBy.refl _ _⟩
  case round =>
    obtain ⟨zs, ts, p, m, c, rfl, hr, hne, hS, HE, hg⟩ := hrel
    by_cases hm0 : 0 < m
    · have hc : ((m : Int) > 0) := by omega
      have hlen := hr.len
      have hcap := hr.le
      have htot : zs.length + ts.length ≤ 1152921504606846976 := by
        have := congrArg List.length HE.out
        simp only [List.length_append] at this
        have := HM.out
        omega
      obtain ⟨bb, off, rfl, hbb, hcx⟩ := hr.mem (by omega)
      obtain ⟨rest, hro, hA⟩ := hS
      have HRO := Lib.hid hro
      have hrl := hro.1
      have HRL := Lib.hid hrl
      have c73 := (hA.cell 73).trans (stC_get_num _ _ _ hrl)
      have HCX := Lib.hid hcx
      have HL := Lib.hid hlen
      clear hro hrl hcx hlen
      obtain ⟨u, hu⟩ : ∃ u, u = zs.length % 64 := ⟨_, rfl⟩
      have hu64 : u < 64 := by omega
      have eu : Hid ((zs.length : Int) % 64 = (u : Int)) := by show _ = _; omega
      have HU := Lib.hid hu
      clear hu
      go_upto_region 3 with fail
      rw [eu.out]
      obtain ⟨mm, hmm⟩ : ∃ mm, mm = Nat.min m (64 - u) := ⟨_, rfl⟩
      have hmm1 : 1 ≤ mm ∧ mm ≤ m ∧ mm ≤ 64 - u ∧ (mm = m ∨ mm = 64 - u) := by
        have e : Nat.min m (64 - u) = min m (64 - u) := rfl
        rw [e] at hmm
        omega
      have hl2 : Hid ((ts.take mm).length = mm) := by show _ = _; rw [List.length_take, HL.out]; omega
      have hsrc : Hid (∀ j v, (bvs (ts.take mm))[j]? = some v → wr.cell? ((⟨bb, off, none⟩ : Addr).add j) = some v) := fun j v hv => by
        have hj : j < mm := by have := (List.getElem?_eq_some_iff.1 hv).1; rw [bvs_len, hl2.out] at this; exact this
        rw [Addr.add_mid, HCX.out j (by omega), ← hv, bvs_get _ _ (by rw [hl2.out]; exact hj)]
        simp [List.getD, hj]
      have HMM := Lib.hid hmm
      have HA := Lib.hid hA
      clear hmm hA
      have hui : (u : Int) ≤ 64 := by omega
      go_upto_region 4 with ((with_reducible show wpList _ _ _ (⟨some 24, _, _, _, _, _⟩ :: _) _ _); go_loud (refine wl_copyV rfl _ _ 38 38 rfl 5 Tryd.underlying38 (by kernel_rfl) r (9 + u) (64 - u) (64 - u) _ m c rfl rfl 110 _ HA.out (bvs (ts.take mm)) (by rw [bvs_len, hl2.out, HMM.out]) (fun _ => ⟨_, rfl, hsrc.out⟩) (by rw [stC_len _ _ _ HRL.out, bvs_len, hl2.out]; omega) (bvs_one _) ?_); intro w1 hA1 hg1 hs1)
      rw [bvs_len, hl2.out]
      have hst := stC_rest (bl zs (zs.length / 64)) rest zs.length u (ts.take mm) HRL.out (by rw [hl2.out]; omega)
      rw [bvs_len] at hA1
      rw [hst] at hA1
      have hmr : Hid (rest.take u ++ (ts.take mm ++ rest.drop (u + (ts.take mm).length)) = more zs rest (ts.take mm)) := by
        show _ = _
        unfold more
        rw [← HU.out]
      rw [hmr.out] at hA1
      have hr1 : Rd w1 (some ⟨bb, off, none⟩) m c ts := rd_grown hr hg1 (fun ad e h0 => by intro e2; injection e2 with e2; exact hne ad e h0 e2)
      have hg1' := grown_trans' hg hg1
      have hnb : bb ≠ r := hne _ rfl (by omega)
      clear hst hg1 hg hr c73
      go_cut [1] (fun v wx => wx = w1 ∧ ∃ p', v = .slice p' (m - mm) (c - mm) ∧ Rd w1 p' (m - mm) (c - mm) (ts.drop mm) ∧ ∀ ad, p' = some ad → 0 < c - mm → ad.block ≠ r)
      case first =>
        by_cases hcm : c = mm
        · go_wp2
          go_meet
          have hl := hr1.len
          exact ⟨rfl, _, by rw [hcm, Nat.sub_self], ⟨by simp; omega, by omega, (by intro e; cases e), fun h0 => by omega⟩, fun ad e h0 => by omega⟩
        · go_wp2
          go_meet
          exact ⟨rfl, _, rfl, rd_drop hr1 mm (by omega) (by omega), fun ad e h0 => by cases e; exact hnb⟩
      case rest =>
        obtain ⟨rfl, p', rfl, hrp, hnp⟩ := hcut
        have c73 := (hA1.cell 73).trans (stC_get_num _ _ _ (more_len _ _ _ HRO.out (by rw [hl2.out, ← HU.out]; omega)))
        have f73 := hA1.frozen 73
        have hA2 := hA1.store 73 (.int .u64 ((zs.length + mm : Nat) : Int))
        rw [stC_num _ _ _ _ (more_len _ _ _ HRO.out (by rw [hl2.out, ← HU.out]; omega))] at hA2
        have hg2 := grown_setCell hg1' 73 (.int .u64 ((zs.length + mm : Nat) : Int))
        have hrp2 := rd_grown (w' := World.setCell _ ⟨r, 73, none⟩ (.int .u64 ((zs.length + mm : Nat) : Int))) hrp (grown_setCell (World.grownBy.refl _ (some r)) 73 _) (fun ad e h0 => by intro e2; injection e2 with e2; exact hnp ad e h0 e2)
        push_cast at hA2 hg2 hrp2
        by_cases hfull : u + mm = 64
        · have ht : ((u : Int) + (mm : Int) == 64) = true := by rw [beq_iff_eq]; omega
          go_upto_region 7 with fail
          clear hrp hA1 hg1' hr1 c73 f73 HA
          generalize World.setCell _ _ _ = w2 at *
          have hQ : (Tryd.prog.info? 105).map (·.size) = some (qs (bl zs (zs.length / 64)).list).length := by rw [qs_len]; exact size8
          have hml := more_len zs rest (ts.take mm) HRO.out (by rw [hl2.out, ← HU.out]; omega)
          have hB : (Tryd.prog.info? 108).map (·.size) = some (bvs (more zs rest (ts.take mm))).length := by rw [bvs_len, hml]; exact size64b
          have HMF := Lib.hid (more_full zs rest (ts.take mm) HRO.out (by rw [hl2.out, ← HU.out]; exact hfull))
          generalize hbl : bl zs (zs.length / 64) = s at *
          generalize hmo : more zs rest (ts.take mm) = mo at *
          have HQ := Lib.hid hQ
          have HB := Lib.hid hB
          have HML := Lib.hid hml
          have HBL := Lib.hid hbl
          have HMO := Lib.hid hmo
          clear hQ hB hml hbl hmo
          have h8 : Hid ((qs (blk s mo).list).length = 8) := by show _ = _; rw [qs_len]; rfl
          have h74 : Hid ((stC s mo (zs.length + mm)).length = 74) := stC_len _ _ _ HML.out
          have hHQ : Hid ((Tryd.prog.info? 105).map (·.size) = some (qs (blk s mo).list).length) := by show _ = _; rw [h8.out]; exact size8
          have hgo := goIn_any s mo HML.out
          have HGO := Lib.hid hgo
          have hone := qs_one (blk s mo).list
          have HONE := Lib.hid hone
          clear hgo hone
          obtain ⟨V, hV⟩ : ∃ V, V = qs (blk s mo).list := ⟨_, rfl⟩
          unfold Tab at HGO
          rw [← hV] at HGO h8 hHQ HONE
          have HV := Lib.hid hV
          clear hV
          refine wp_region_steps [[], [], [1], [2], [3], [], [5], [6], [7], [4, 8], [0], [10], [11, 9]] (by kernel_rfl) (by kernel_rfl) (fun L a wx => ∃ v41 v42 v43 v44 v45 v46 v47 v48 v49 v50 v51 v52, a = ⟨#[.pointer (some ⟨r, 0, none⟩), .slice p' (m - mm) (c - mm), undef, undef, .int .i64 (u : Int), .int .i64 (mm : Int), .pointer (some ⟨r, 0, none⟩), .bool true, .bool false, u9, u10, u11, u12, u13, u14, u15, u16, u17, u18, u19, u20, u21, u22, u23, u24, u25, u26, u27, .pointer (some ⟨r, 0, none⟩), .pointer (some ⟨r, 0, none⟩), .pointer (some ⟨r, 73, none⟩), .int .u64 (zs.length : Int), .int .i64 (mm : Int), .int .u64 (mm : Int), .int .u64 ((zs.length : Int) + (mm : Int)), .pointer (some ⟨r, 0, none⟩), .pointer (some ⟨r, 73, none⟩), .int .i64 (u : Int), .int .i64 (mm : Int), .int .i64 ((u : Int) + (mm : Int)), .bool true, v41, v42, v43, v44, v45, v46, v47, v48, v49, v50, v51, v52], []⟩ ∧ Inv7 r s mo V (zs.length + mm) w2 L v41 v42 v43 v44 v45 v46 v47 v48 v49 v50 v51 v52 wx) ?_ ⟨?_, ?_, ?_, ?_, ?_, ?_, ?_, ?_, ?_, ?_, ?_, ?_, ?_, trivial⟩ ?_
          · refine ⟨_, _, _, _, _, _, _, _, _, _, _, _, rfl, ⟨?_, ?_, ?_, ?_, ?_, ?_, ?_, ?_, ?_, ?_, ?_, ?_, fun _ => hA2.drew, fun h => absurd h (by decide), grown_drew (World.grownBy.refl _ _), hA2.lt⟩⟩ <;> (intro h; exact absurd h (by decide))
          · rintro L a wx ⟨v41, v42, v43, v44, v45, v46, v47, v48, v49, v50, v51, v52, rfl, hI⟩ hL hdep hcl K hK
            go_simp
            exact hK _ _ ⟨_, v42, v43, v44, v45, v46, v47, v48, v49, v50, v51, v52, rfl, ⟨fun _ => rfl, hI.t1, hI.t2, hI.t3, hI.t4, hI.t5, hI.t6, hI.t7, hI.t8, hI.t9, hI.t10, hI.t11, hI.ar, hI.fin, hI.gr, hI.ls⟩⟩
          · rintro L a wx ⟨v41, v42, v43, v44, v45, v46, v47, v48, v49, v50, v51, v52, rfl, hI⟩ hL hdep hcl K hK
            go_simp
            exact hK _ _ ⟨v41, _, v43, v44, v45, v46, v47, v48, v49, v50, v51, v52, rfl, ⟨hI.t0, fun _ => rfl, hI.t2, hI.t3, hI.t4, hI.t5, hI.t6, hI.t7, hI.t8, hI.t9, hI.t10, hI.t11, hI.ar, hI.fin, hI.gr, hI.ls⟩⟩
          · rintro L a wx ⟨v41, v42, v43, v44, v45, v46, v47, v48, v49, v50, v51, v52, rfl, hI⟩ hL hdep hcl K hK
            obtain rfl := hI.t1 (hdep 1 (by decide))
            go_simp
            exact hK _ _ ⟨v41, _, _, v44, v45, v46, v47, v48, v49, v50, v51, v52, rfl, ⟨hI.t0, hI.t1, fun _ => rfl, hI.t3, hI.t4, hI.t5, hI.t6, hI.t7, hI.t8, hI.t9, hI.t10, hI.t11, hI.ar, hI.fin, hI.gr, hI.ls⟩⟩
          · rintro L a wx ⟨v41, v42, v43, v44, v45, v46, v47, v48, v49, v50, v51, v52, rfl, hI⟩ hL hdep hcl K hK
            obtain rfl := hI.t2 (hdep 2 (by decide))
            go_simp
            exact hK _ _ ⟨v41, v42, _, _, v45, v46, v47, v48, v49, v50, v51, v52, rfl, ⟨hI.t0, hI.t1, hI.t2, fun _ => rfl, hI.t4, hI.t5, hI.t6, hI.t7, hI.t8, hI.t9, hI.t10, hI.t11, hI.ar, hI.fin, hI.gr, hI.ls⟩⟩
          · rintro L a wx ⟨v41, v42, v43, v44, v45, v46, v47, v48, v49, v50, v51, v52, rfl, hI⟩ hL hdep hcl K hK
            obtain rfl := hI.t3 (hdep 3 (by decide))
            have hA := hI.ar (not_yet fun h => by
              have h9 := hcl 12 (by decide) h 9 (by decide)
              have h4 := hcl 9 (by decide) h9 4 (by decide)
              exact absurd (h4.symm.trans hL) (by decide))
            exact ow_load 105 _ rfl r 1 rfl 110 _ (qs s.list) hA (fun j v h => stC_get_now _ _ _ _ _ h) (.array 8 104) Tryd.underlying105 rfl HQ.out (hK _ _ ⟨v41, v42, v43, _, _, v46, v47, v48, v49, v50, v51, v52, rfl, ⟨hI.t0, hI.t1, hI.t2, hI.t3, fun _ => rfl, hI.t5, hI.t6, hI.t7, hI.t8, hI.t9, hI.t10, hI.t11, hI.ar, hI.fin, hI.gr, hI.ls⟩⟩)
          · rintro L a wx ⟨v41, v42, v43, v44, v45, v46, v47, v48, v49, v50, v51, v52, rfl, hI⟩ hL hdep hcl K hK
            go_simp
            exact hK _ _ ⟨v41, v42, v43, v44, v45, _, v47, v48, v49, v50, v51, v52, rfl, ⟨hI.t0, hI.t1, hI.t2, hI.t3, hI.t4, fun _ => rfl, hI.t6, hI.t7, hI.t8, hI.t9, hI.t10, hI.t11, hI.ar, hI.fin, hI.gr, hI.ls⟩⟩
          · rintro L a wx ⟨v41, v42, v43, v44, v45, v46, v47, v48, v49, v50, v51, v52, rfl, hI⟩ hL hdep hcl K hK
            obtain rfl := hI.t5 (hdep 5 (by decide))
            go_simp
            exact hK _ _ ⟨v41, v42, v43, v44, v45, _, _, v48, v49, v50, v51, v52, rfl, ⟨hI.t0, hI.t1, hI.t2, hI.t3, hI.t4, hI.t5, fun _ => rfl, hI.t7, hI.t8, hI.t9, hI.t10, hI.t11, hI.ar, hI.fin, hI.gr, hI.ls⟩⟩
          · rintro L a wx ⟨v41, v42, v43, v44, v45, v46, v47, v48, v49, v50, v51, v52, rfl, hI⟩ hL hdep hcl K hK
            obtain rfl := hI.t6 (hdep 6 (by decide))
            go_simp
            exact hK _ _ ⟨v41, v42, v43, v44, v45, v46, _, _, v49, v50, v51, v52, rfl, ⟨hI.t0, hI.t1, hI.t2, hI.t3, hI.t4, hI.t5, hI.t6, fun _ => rfl, hI.t8, hI.t9, hI.t10, hI.t11, hI.ar, hI.fin, hI.gr, hI.ls⟩⟩
          · rintro L a wx ⟨v41, v42, v43, v44, v45, v46, v47, v48, v49, v50, v51, v52, rfl, hI⟩ hL hdep hcl K hK
            obtain rfl := hI.t7 (hdep 7 (by decide))
            have hA := hI.ar (not_yet fun h => by
              have h9 := hcl 12 (by decide) h 9 (by decide)
              have h8 := hcl 9 (by decide) h9 8 (by decide)
              exact absurd (h8.symm.trans hL) (by decide))
            exact ow_load 108 _ rfl r 9 rfl 110 _ (bvs mo) hA (fun j v h => stC_get_rest _ _ _ _ _ h) (.array 64 5) Tryd.underlying108 rfl HB.out (hK _ _ ⟨v41, v42, v43, v44, v45, v46, v47, _, _, v50, v51, v52, rfl, ⟨hI.t0, hI.t1, hI.t2, hI.t3, hI.t4, hI.t5, hI.t6, hI.t7, fun _ => rfl, hI.t9, hI.t10, hI.t11, hI.ar, hI.fin, hI.gr, hI.ls⟩⟩)
          · rintro L a wx ⟨v41, v42, v43, v44, v45, v46, v47, v48, v49, v50, v51, v52, rfl, hI⟩ hL hdep hcl K hK
            obtain rfl := hI.t4 (hdep 4 (by decide))
            obtain rfl := hI.t8 (hdep 8 (by decide))
            go_simp
            refine (HGO.out _).mono ?_
            rintro e w4 ⟨rfl, hb4⟩
            exact hK _ _ ⟨v41, v42, v43, v44, _, v46, v47, v48, _, _, v51, v52, rfl, ⟨hI.t0, hI.t1, hI.t2, hI.t3, hI.t4, hI.t5, hI.t6, hI.t7, hI.t8, fun _ => rfl, hI.t10, hI.t11, (fun h => (hI.ar h).kept hb4), (fun h => (hI.fin h).kept hb4), (grown_below hI.gr hb4), (Nat.lt_of_lt_of_le hI.ls hb4.size)⟩⟩
          · rintro L a wx ⟨v41, v42, v43, v44, v45, v46, v47, v48, v49, v50, v51, v52, rfl, hI⟩ hL hdep hcl K hK
            obtain rfl := hI.t0 (hdep 0 (by decide))
            go_simp
            exact hK _ _ ⟨_, v42, v43, v44, v45, v46, v47, v48, v49, v50, _, v52, rfl, ⟨hI.t0, hI.t1, hI.t2, hI.t3, hI.t4, hI.t5, hI.t6, hI.t7, hI.t8, hI.t9, fun _ => rfl, hI.t11, hI.ar, hI.fin, hI.gr, hI.ls⟩⟩
          · rintro L a wx ⟨v41, v42, v43, v44, v45, v46, v47, v48, v49, v50, v51, v52, rfl, hI⟩ hL hdep hcl K hK
            obtain rfl := hI.t10 (hdep 10 (by decide))
            go_simp
            exact hK _ _ ⟨v41, v42, v43, v44, v45, v46, v47, v48, v49, v50, _, _, rfl, ⟨hI.t0, hI.t1, hI.t2, hI.t3, hI.t4, hI.t5, hI.t6, hI.t7, hI.t8, hI.t9, hI.t10, fun _ => rfl, hI.ar, hI.fin, hI.gr, hI.ls⟩⟩
          · rintro L a wx ⟨v41, v42, v43, v44, v45, v46, v47, v48, v49, v50, v51, v52, rfl, hI⟩ hL hdep hcl K hK
            obtain rfl := hI.t11 (hdep 11 (by decide))
            obtain rfl := hI.t9 (hdep 9 (by decide))
            have hA := hI.ar hL
            refine ow_store 105 _ _ rfl r 1 rfl V rfl 110 _ hA hHQ.out (by rw [h8.out, h74.out]; exact (by decide : 1 + 8 ≤ 74)) HONE.out ?_
            intro w5 hA5 hg5 hs5
            exact hK _ _ ⟨v41, v42, v43, v44, v45, v46, v47, v48, v49, _, v51, _, rfl, ⟨hI.t0, hI.t1, hI.t2, hI.t3, hI.t4, hI.t5, hI.t6, hI.t7, hI.t8, hI.t9, hI.t10, hI.t11, (fun h => by cases h), (fun _ => hA5), (grown_trans' hI.gr hg5), (by rw [hs5]; exact hI.ls)⟩⟩
          · rintro a wx ⟨v41, v42, v43, v44, v45, v46, v47, v48, v49, v50, v51, v52, rfl, hI⟩
            have hA5 := hI.fin rfl
            have hg5 := hI.gr
            clear hI hA2
            go_wp2_with fail
            go_roundw
            case rel =>
              have hlen : (zs ++ ts.take mm).length = zs.length + mm := by rw [List.length_append, hl2.out]
              have hmf := HMF.out
              have hg4 := grown_trans' hg2 hg5
              refine ⟨zs ++ ts.take mm, ts.drop mm, p', m - mm, c - mm, rfl, rd_grown hrp2 hg5 (fun ad e h0 => by intro e2; injection e2 with e2; exact hnp ad e h0 e2), hnp, ⟨mo, hmf.1, ?_⟩, ?_, hg4⟩
              · rw [hmf.2, hlen]
                rw [HV.out, stC_now] at hA5
                exact hA5
              · show _ = _
                rw [List.append_assoc, List.take_append_drop]; exact HE.out
            case measure =>
              simp only [slen]
              omega
        · have ht : ((u : Int) + (mm : Int) == 64) = false := by rw [beq_eq_false_iff_ne]; omega
          go_wp2
          go_roundw
          case rel =>
            have hmp := more_part zs rest (ts.take mm) HRO.out (by rw [hl2.out, ← HU.out]; omega)
            have hlen : (zs ++ ts.take mm).length = zs.length + mm := by rw [List.length_append, hl2.out]
            refine ⟨zs ++ ts.take mm, ts.drop mm, p', m - mm, c - mm, rfl, hrp2, hnp, ⟨more zs rest (ts.take mm), hmp.1, ?_⟩, ?_, hg2⟩
            · rw [hmp.2, hlen]; exact hA2
            · show _ = _
              rw [List.append_assoc, List.take_append_drop]; exact HE.out
          case measure =>
            simp only [slen]
            omega
    · have hc : ¬ ((m : Int) > 0) := by omega
      have hlen := hr.len
      have hts : ts = [] := List.eq_nil_of_length_eq_zero (by omega)
      have HF : Hid (zs = xs ++ ys) := by
        show _ = _
        have := HE.out
        rw [hts, List.append_nil] at this
        exact this
      clear hlen hts hr
      go_wp2
      go_end0
      exact ⟨rfl, by rw [← HF.out]; exact hS, hg⟩
end Go.Proofs.YtfidajbenmgflaaDoor

namespace Go.Proofs.YtfidajbenmgflaaDoor
open Go.RowKit

theorem Copy_nil (w : World) : Calls Tryd.prog 59 #[.pointer none] w fun e w' => e = .returned (.pointer none) ∧ w = w' := by
  go_enter Tryd.func59, Tryd.ntmps59
  go_wp2_with (go_at_call 57; refine (is_nil _).mono ?_; rintro e w1 ⟨rfl, rfl⟩)
  go_ret
  exact ⟨rfl, rfl⟩
theorem Copy_zero (r : Nat) (w : World) (hc : w.cell? ⟨r, 0, none⟩ = some (.bool false)) : Calls Tryd.prog 59 #[.pointer (some ⟨r, 0, none⟩)] w fun e w' => e = .returned (.pointer none) ∧ w = w' := by
  go_enter Tryd.func59, Tryd.ntmps59
  go_wp2_with (go_at_call 57; refine (is_zero _ _ hc).mono ?_; rintro e w1 ⟨rfl, rfl⟩)
  go_ret
  exact ⟨rfl, rfl⟩

/-- a call that hands a hash back -/
def Hash (xs : List UInt8) (w : World) (e : Ending) (w' : World) : Prop := e = .returned (.agg (bvs (shaL xs)).toArray) ∧ Below w.heap.size w w'

theorem St.now {w : World} {r : Nat} {xs : List UInt8} (h : St w r (padM xs)) : ∃ rest, Arr w r 110 (stC (shaR xs) rest (padM xs).length) := by
  obtain ⟨rest, _, h⟩ := h
  exact ⟨rest, h⟩

set_option maxRecDepth 100000 in
set_option maxHeartbeats 800000 in
theorem Sum_any (r : Nat) (xs : List UInt8) (w : World) (hx : xs.length ≤ 576460752303423488) (h : St w r xs) :
    Calls Tryd.prog 42 #[.pointer (some ⟨r, 0, none⟩)] w (Hash xs w) := by
  have hpl := padB_len xs.length
  have hz := nz_lt xs.length
  have h8 : Hid ((Tryd.prog.info? 105).map (·.size) = some (qs (shaR xs).list).length) := by show _ = _; rw [qs_len]; exact size8
  have hd := digest_any (shaR xs)
  have hdl := bvs_len (shaL xs)
  rw [shaL_len] at hdl
  have h32 : Hid ((Tryd.prog.info? 48).map (·.size) = some (bvs (shaL xs)).length) := by show _ = _; rw [hdl]; exact sizeD
  have H1 := Lib.hid (bvs_one (shaL xs))
  have HD := Lib.hid hd
  have HDL := Lib.hid hdl
  have hpm : Hid (∀ w4 r2, St w4 r2 (xs ++ padB xs.length) → ∃ rest, Arr w4 r2 110 (stC (shaR xs) rest (padM xs).length)) := fun w4 r2 h => St.now h
  clear hd hdl
  have hsl : shaL xs = dig (shaR xs) := rfl
  have HSL := Lib.hid hsl
  clear hsl
  unfold Hash
  rw [← HSL.out] at HD
  generalize shaL xs = D at *
  generalize shaR xs = S at *
  have hm : xs.length + (padB xs.length).length ≤ 1152921504606846976 := by rw [hpl]; omega
  have HM := Lib.hid hm
  have HPL := Lib.hid hpl
  have hpad : Hid (∀ w, Calls Tryd.prog 60 #[.int .u64 (xs.length : Int)] w fun e w' => ∃ v, e = .returned v ∧ Own w' w.heap.size 5 v (padB xs.length) ∧ Below w.heap.size w w') := fun w => padding_any xs.length w (by omega)
  clear hm hpl
  have hwr : Hid (∀ r2 a cap (w : World), Rd w a (padB xs.length).length cap (padB xs.length) → (∀ ad, a = some ad → 0 < cap → ad.block ≠ r2) → St w r2 xs → Calls Tryd.prog 41 #[.pointer (some ⟨r2, 0, none⟩), .slice a (padB xs.length).length cap] w fun e w' => e = .returned (.tuple #[]) ∧ St w' r2 (xs ++ padB xs.length) ∧ w.grownBy w' (some r2)) :=
    fun r2 a cap w h1 h2 h3 => Write_any r2 xs (padB xs.length) a _ cap w HM.out h1 h2 h3
  generalize padB xs.length = pb at *
  go_enter Tryd.func42, Tryd.ntmps42
  go_upto_region 4 with (first
    | ((with_reducible show wpList _ _ _ (⟨some 2, .alloc _, _, _, _, _⟩ :: _) _ _); refine wl_alloc rfl 48 rfl (bvs (Z8 32)) 32 infoD ?_; intro w1 hA1 hb1 hs1)
    | (go_at_call 59; refine (Copy_any r xs _ (h.kept hb1)).mono ?_; rintro e w2 ⟨r2, rfl, hS2, hr2, hb2⟩))
  generalize hg : w.heap.size = g at *
  have HG := Lib.hid hg
  clear hg
  have hr2' : g < r2 := by have := hA1.lt; omega
  have hA2 := hA1.kept hb2
  have hB2 := hb1.trans (hb2.mono (Nat.le_of_lt hs1))
  clear hA1 hb1 hb2
  have c73 := hS2.cells.2.1
  go_wp2_with (first
    | (go_at_call 60; refine (hpad.out _).mono ?_; rintro e w3 ⟨v3, rfl, ho3, hb3⟩; obtain ⟨a3, c3, rfl, hsh3⟩ := ho3.shape)
    | (go_at_call 41; refine (hwr.out r2 a3 c3 _ ho3.rd.toRd (fun ad e h0 => by have := (hsh3 ad e).1; have := hS2.lt; omega) (hS2.kept hb3)).mono ?_; rintro e w4 ⟨rfl, hS4, hg4⟩; obtain ⟨rest4, hA4⟩ := hpm.out _ _ hS4)
    | ((with_reducible show wpList _ _ _ (⟨some 19, .load _ _, _, _, _, _⟩ :: _) _ _); refine wl_load rfl 105 _ rfl r2 1 rfl 110 _ (qs S.list) hA4 (fun j v h => stC_get_now _ _ _ _ _ h) (.array 8 104) Tryd.underlying105 rfl h8.out ?_)
    | (go_at_call 61; refine (HD.out _).mono ?_; rintro e w5 ⟨rfl, hb5⟩)
    | ((with_reducible show wpList _ _ _ (⟨none, .store _ _ _, _, _, _, _⟩ :: _) _ _); refine wl_store rfl 48 _ _ rfl g 0 rfl (bvs D) rfl 48 _ (((hA2.kept hb3).grown hg4 (by intro e; injection e with e; omega)).kept hb5) h32.out (by rw [HDL.out]; exact (by decide : 0 + 32 ≤ (bvs (Z8 32)).length)) H1.out ?_; intro w6 hA6 hg6 hs6))
  rw [whole_store _ _ (by rw [HDL.out]; rfl)] at hA6
  refine end_cell rfl g 48 (bvs D) (.array 32 5) rfl hA6 Tryd.underlying48 rfl h32.out rfl ⟨rfl, ?_⟩
  rw [HG.out]
  have x1 := hA2.lt
  have x2 := hb3.size
  have x3 := hg4.size
  have x4 := hb5.size
  exact (((hB2.trans (hb3.mono (by omega))).grown hg4 (by omega) (by intro k e; injection e with e; omega)).trans (hb5.mono (by omega))).grown hg6 (by omega) (by intro k e; injection e with e; omega)

set_option maxRecDepth 100000 in
set_option maxHeartbeats 800000 in
theorem Sum_nil  (w : World)  :
    Calls Tryd.prog 42 #[.pointer none] w (Hash ([] : List UInt8) w) := by
  have hpl := padB_len ([] : List UInt8).length
  have hz := nz_lt ([] : List UInt8).length
  have h8 : Hid ((Tryd.prog.info? 105).map (·.size) = some (qs (shaR ([] : List UInt8)).list).length) := by show _ = _; rw [qs_len]; exact size8
  have hd := digest_any (shaR ([] : List UInt8))
  have hdl := bvs_len (shaL ([] : List UInt8))
  rw [shaL_len] at hdl
  have h32 : Hid ((Tryd.prog.info? 48).map (·.size) = some (bvs (shaL ([] : List UInt8))).length) := by show _ = _; rw [hdl]; exact sizeD
  have H1 := Lib.hid (bvs_one (shaL ([] : List UInt8)))
  have HD := Lib.hid hd
  have HDL := Lib.hid hdl
  have hpm : Hid (∀ w4 r2, St w4 r2 (([] : List UInt8) ++ padB ([] : List UInt8).length) → ∃ rest, Arr w4 r2 110 (stC (shaR ([] : List UInt8)) rest (padM ([] : List UInt8)).length)) := fun w4 r2 h => St.now h
  clear hd hdl
  have hsl : shaL ([] : List UInt8) = dig (shaR ([] : List UInt8)) := rfl
  have HSL := Lib.hid hsl
  clear hsl
  unfold Hash
  rw [← HSL.out] at HD
  generalize shaL ([] : List UInt8) = D at *
  generalize shaR ([] : List UInt8) = S at *
  have hm : ([] : List UInt8).length + (padB ([] : List UInt8).length).length ≤ 1152921504606846976 := by rw [hpl]; simp at *; omega
  have HM := Lib.hid hm
  have HPL := Lib.hid hpl
  have hpad : Hid (∀ w, Calls Tryd.prog 60 #[.int .u64 (([] : List UInt8).length : Int)] w fun e w' => ∃ v, e = .returned v ∧ Own w' w.heap.size 5 v (padB ([] : List UInt8).length) ∧ Below w.heap.size w w') := fun w => padding_any ([] : List UInt8).length w (by simp)
  clear hm hpl
  have hwr : Hid (∀ r2 a cap (w : World), Rd w a (padB ([] : List UInt8).length).length cap (padB ([] : List UInt8).length) → (∀ ad, a = some ad → 0 < cap → ad.block ≠ r2) → St w r2 ([] : List UInt8) → Calls Tryd.prog 41 #[.pointer (some ⟨r2, 0, none⟩), .slice a (padB ([] : List UInt8).length).length cap] w fun e w' => e = .returned (.tuple #[]) ∧ St w' r2 (([] : List UInt8) ++ padB ([] : List UInt8).length) ∧ w.grownBy w' (some r2)) :=
    fun r2 a cap w h1 h2 h3 => Write_any r2 ([] : List UInt8) (padB ([] : List UInt8).length) a _ cap w HM.out h1 h2 h3
  generalize padB ([] : List UInt8).length = pb at *
  go_enter Tryd.func42, Tryd.ntmps42
  go_upto_region 4 with (first
    | ((with_reducible show wpList _ _ _ (⟨some 2, .alloc _, _, _, _, _⟩ :: _) _ _); refine wl_alloc rfl 48 rfl (bvs (Z8 32)) 32 infoD ?_; intro w1 hA1 hb1 hs1)
    | (go_at_call 59; refine (Copy_nil _).mono ?_; rintro e w2 ⟨rfl, rfl⟩)
    | (go_at_call 40; refine (New_any _).mono ?_; rintro e w2 ⟨r2, rfl, hS2, hr2, hb2⟩))
  generalize hg : w.heap.size = g at *
  have HG := Lib.hid hg
  clear hg
  have hr2' : g < r2 := by have := hA1.lt; omega
  have hA2 := hA1.kept hb2
  have hB2 := hb1.trans (hb2.mono (Nat.le_of_lt hs1))
  clear hA1 hb1 hb2
  have c73 := hS2.cells.2.1
  go_wp2_with (first
    | (go_at_call 60; refine (hpad.out _).mono ?_; rintro e w3 ⟨v3, rfl, ho3, hb3⟩; obtain ⟨a3, c3, rfl, hsh3⟩ := ho3.shape)
    | (go_at_call 41; refine (hwr.out r2 a3 c3 _ ho3.rd.toRd (fun ad e h0 => by have := (hsh3 ad e).1; have := hS2.lt; omega) (hS2.kept hb3)).mono ?_; rintro e w4 ⟨rfl, hS4, hg4⟩; obtain ⟨rest4, hA4⟩ := hpm.out _ _ hS4)
    | ((with_reducible show wpList _ _ _ (⟨some 19, .load _ _, _, _, _, _⟩ :: _) _ _); refine wl_load rfl 105 _ rfl r2 1 rfl 110 _ (qs S.list) hA4 (fun j v h => stC_get_now _ _ _ _ _ h) (.array 8 104) Tryd.underlying105 rfl h8.out ?_)
    | (go_at_call 61; refine (HD.out _).mono ?_; rintro e w5 ⟨rfl, hb5⟩)
    | ((with_reducible show wpList _ _ _ (⟨none, .store _ _ _, _, _, _, _⟩ :: _) _ _); refine wl_store rfl 48 _ _ rfl g 0 rfl (bvs D) rfl 48 _ (((hA2.kept hb3).grown hg4 (by intro e; injection e with e; omega)).kept hb5) h32.out (by rw [HDL.out]; exact (by decide : 0 + 32 ≤ (bvs (Z8 32)).length)) H1.out ?_; intro w6 hA6 hg6 hs6))
  rw [whole_store _ _ (by rw [HDL.out]; rfl)] at hA6
  refine end_cell rfl g 48 (bvs D) (.array 32 5) rfl hA6 Tryd.underlying48 rfl h32.out rfl ⟨rfl, ?_⟩
  rw [HG.out]
  have x1 := hA2.lt
  have x2 := hb3.size
  have x3 := hg4.size
  have x4 := hb5.size
  exact (((hB2.trans (hb3.mono (by omega))).grown hg4 (by omega) (by intro k e; injection e with e; omega)).trans (hb5.mono (by omega))).grown hg6 (by omega) (by intro k e; injection e with e; omega)

set_option maxRecDepth 100000 in
set_option maxHeartbeats 800000 in
theorem Sum_zero (r : Nat) (w : World) (hlt : r < w.heap.size) (hc : w.cell? ⟨r, 0, none⟩ = some (.bool false)) :
    Calls Tryd.prog 42 #[.pointer (some ⟨r, 0, none⟩)] w (Hash ([] : List UInt8) w) := by
  have hpl := padB_len ([] : List UInt8).length
  have hz := nz_lt ([] : List UInt8).length
  have h8 : Hid ((Tryd.prog.info? 105).map (·.size) = some (qs (shaR ([] : List UInt8)).list).length) := by show _ = _; rw [qs_len]; exact size8
  have hd := digest_any (shaR ([] : List UInt8))
  have hdl := bvs_len (shaL ([] : List UInt8))
  rw [shaL_len] at hdl
  have h32 : Hid ((Tryd.prog.info? 48).map (·.size) = some (bvs (shaL ([] : List UInt8))).length) := by show _ = _; rw [hdl]; exact sizeD
  have H1 := Lib.hid (bvs_one (shaL ([] : List UInt8)))
  have HD := Lib.hid hd
  have HDL := Lib.hid hdl
  have hpm : Hid (∀ w4 r2, St w4 r2 (([] : List UInt8) ++ padB ([] : List UInt8).length) → ∃ rest, Arr w4 r2 110 (stC (shaR ([] : List UInt8)) rest (padM ([] : List UInt8)).length)) := fun w4 r2 h => St.now h
  clear hd hdl
  have hsl : shaL ([] : List UInt8) = dig (shaR ([] : List UInt8)) := rfl
  have HSL := Lib.hid hsl
  clear hsl
  unfold Hash
  rw [← HSL.out] at HD
  generalize shaL ([] : List UInt8) = D at *
  generalize shaR ([] : List UInt8) = S at *
  have hm : ([] : List UInt8).length + (padB ([] : List UInt8).length).length ≤ 1152921504606846976 := by rw [hpl]; simp at *; omega
  have HM := Lib.hid hm
  have HPL := Lib.hid hpl
  have hpad : Hid (∀ w, Calls Tryd.prog 60 #[.int .u64 (([] : List UInt8).length : Int)] w fun e w' => ∃ v, e = .returned v ∧ Own w' w.heap.size 5 v (padB ([] : List UInt8).length) ∧ Below w.heap.size w w') := fun w => padding_any ([] : List UInt8).length w (by simp)
  clear hm hpl
  have hwr : Hid (∀ r2 a cap (w : World), Rd w a (padB ([] : List UInt8).length).length cap (padB ([] : List UInt8).length) → (∀ ad, a = some ad → 0 < cap → ad.block ≠ r2) → St w r2 ([] : List UInt8) → Calls Tryd.prog 41 #[.pointer (some ⟨r2, 0, none⟩), .slice a (padB ([] : List UInt8).length).length cap] w fun e w' => e = .returned (.tuple #[]) ∧ St w' r2 (([] : List UInt8) ++ padB ([] : List UInt8).length) ∧ w.grownBy w' (some r2)) :=
    fun r2 a cap w h1 h2 h3 => Write_any r2 ([] : List UInt8) (padB ([] : List UInt8).length) a _ cap w HM.out h1 h2 h3
  generalize padB ([] : List UInt8).length = pb at *
  go_enter Tryd.func42, Tryd.ntmps42
  go_upto_region 4 with (first
    | ((with_reducible show wpList _ _ _ (⟨some 2, .alloc _, _, _, _, _⟩ :: _) _ _); refine wl_alloc rfl 48 rfl (bvs (Z8 32)) 32 infoD ?_; intro w1 hA1 hb1 hs1)
    | (go_at_call 59; refine (Copy_zero r _ ((hb1.cell (p := ⟨r, 0, none⟩) hlt).trans hc)).mono ?_; rintro e w2 ⟨rfl, rfl⟩)
    | (go_at_call 40; refine (New_any _).mono ?_; rintro e w2 ⟨r2, rfl, hS2, hr2, hb2⟩))
  generalize hg : w.heap.size = g at *
  have HG := Lib.hid hg
  clear hg
  have hr2' : g < r2 := by have := hA1.lt; omega
  have hA2 := hA1.kept hb2
  have hB2 := hb1.trans (hb2.mono (Nat.le_of_lt hs1))
  clear hA1 hb1 hb2
  have c73 := hS2.cells.2.1
  go_wp2_with (first
    | (go_at_call 60; refine (hpad.out _).mono ?_; rintro e w3 ⟨v3, rfl, ho3, hb3⟩; obtain ⟨a3, c3, rfl, hsh3⟩ := ho3.shape)
    | (go_at_call 41; refine (hwr.out r2 a3 c3 _ ho3.rd.toRd (fun ad e h0 => by have := (hsh3 ad e).1; have := hS2.lt; omega) (hS2.kept hb3)).mono ?_; rintro e w4 ⟨rfl, hS4, hg4⟩; obtain ⟨rest4, hA4⟩ := hpm.out _ _ hS4)
    | ((with_reducible show wpList _ _ _ (⟨some 19, .load _ _, _, _, _, _⟩ :: _) _ _); refine wl_load rfl 105 _ rfl r2 1 rfl 110 _ (qs S.list) hA4 (fun j v h => stC_get_now _ _ _ _ _ h) (.array 8 104) Tryd.underlying105 rfl h8.out ?_)
    | (go_at_call 61; refine (HD.out _).mono ?_; rintro e w5 ⟨rfl, hb5⟩)
    | ((with_reducible show wpList _ _ _ (⟨none, .store _ _ _, _, _, _, _⟩ :: _) _ _); refine wl_store rfl 48 _ _ rfl g 0 rfl (bvs D) rfl 48 _ (((hA2.kept hb3).grown hg4 (by intro e; injection e with e; omega)).kept hb5) h32.out (by rw [HDL.out]; exact (by decide : 0 + 32 ≤ (bvs (Z8 32)).length)) H1.out ?_; intro w6 hA6 hg6 hs6))
  rw [whole_store _ _ (by rw [HDL.out]; rfl)] at hA6
  refine end_cell rfl g 48 (bvs D) (.array 32 5) rfl hA6 Tryd.underlying48 rfl h32.out rfl ⟨rfl, ?_⟩
  rw [HG.out]
  have x1 := hA2.lt
  have x2 := hb3.size
  have x3 := hg4.size
  have x4 := hb5.size
  exact (((hB2.trans (hb3.mono (by omega))).grown hg4 (by omega) (by intro k e; injection e with e; omega)).trans (hb5.mono (by omega))).grown hg6 (by omega) (by intro k e; injection e with e; omega)


theorem shaSum_any (xs : List UInt8) (a : Option Addr) (n cap : Nat) (w : World) (hx : xs.length ≤ 576460752303423488) (hr : Rd w a n cap xs) :
    Calls Tryd.prog 29 #[.slice a n cap] w (Hash xs w) := by
  have hdl := bvs_len (shaL xs)
  rw [shaL_len] at hdl
  have h32 : Hid ((Tryd.prog.info? 48).map (·.size) = some (bvs (shaL xs)).length) := by show _ = _; rw [hdl]; exact sizeD
  have H1 := Lib.hid (bvs_one (shaL xs))
  have HDL := Lib.hid hdl
  have hS : Hid (∀ r w, St w r xs → Calls Tryd.prog 42 #[.pointer (some ⟨r, 0, none⟩)] w (Hash xs w)) := fun r w h => Sum_any r xs w hx h
  have hblk : Hid (∀ ad, a = some ad → 0 < cap → ad.block < w.heap.size) := fun ad e h0 => by
    obtain ⟨b, off, e2, h2, _⟩ := hr.mem h0
    rw [e] at e2
    cases e2
    exact h2
  clear hdl
  unfold Hash at hS ⊢
  generalize shaL xs = D at *
  go_enter Tryd.func29, Tryd.ntmps29
  go_wp2_with (first
    | ((with_reducible show wpList _ _ _ (⟨some 2, .alloc _, _, _, _, _⟩ :: _) _ _); refine wl_alloc rfl 48 rfl (bvs (Z8 32)) 32 infoD ?_; intro w1 hA1 hb1 hs1)
    | (go_at_call 40; refine (New_any _).mono ?_; rintro e w2 ⟨r, rfl, hS2, hr2, hb2⟩)
    | (go_at_call 41; refine (Write_any r [] xs a n cap _ (by simp; omega) ((hr.to hb1).to hb2) (fun ad e h0 => by have := hblk.out ad e h0; have := hb1.size; omega) hS2).mono ?_; rintro e w3 ⟨rfl, hS3, hg3⟩)
    | (go_at_call 42; refine (hS.out r _ hS3).mono ?_; rintro e w4 ⟨rfl, hb4⟩)
    | ((with_reducible show wpList _ _ _ (⟨none, .store _ _ _, _, _, _, _⟩ :: _) _ _); refine wl_store rfl 48 _ _ rfl w.heap.size 0 rfl (bvs D) rfl 48 _ (((hA1.kept hb2).grown hg3 (by intro e; injection e with e; omega)).kept hb4) h32.out (by rw [HDL.out]; exact (by decide : 0 + 32 ≤ (bvs (Z8 32)).length)) H1.out ?_; intro w6 hA6 hg6 hs6))
  rw [whole_store _ _ (by rw [HDL.out]; rfl)] at hA6
  refine end_cell rfl w.heap.size 48 (bvs D) (.array 32 5) rfl hA6 Tryd.underlying48 rfl h32.out rfl ⟨rfl, ?_⟩
  have x2 := hb2.size
  have x3 := hg3.size
  have x4 := hb4.size
  exact (((hb1.trans (hb2.mono (by omega))).grown hg3 (by omega) (by intro k e; injection e with e; omega)).trans (hb4.mono (by omega))).grown hg6 (by omega) (by intro k e; injection e with e; omega)
end Go.Proofs.YtfidajbenmgflaaDoor
