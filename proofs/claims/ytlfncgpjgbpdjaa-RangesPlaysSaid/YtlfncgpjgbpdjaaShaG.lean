/-
  Package sha: the padding, a state as bytes. Conditions: those in each statement.
-/
import Derived.Test.YtlfncgpjgbpdjaaShaF
import Derived.Test.YtlfncgpjgbpdjaaShaE
namespace Go.Proofs.Ytlfncgpjgbpdjaa
open Go.RowKit

theorem bt : BT Try.prog 56 5 := ⟨Try.underlying56, Try.underlying5, by kernel_rfl⟩

section
variable {P : Program} {T E : TypeId} (bt : BT P T E) {ops : Array Oper} {rest : List Oper} {o : Oper} {a : Act} {Q : Exit → Act → World → Prop} {w : World}
include bt
/-- make([]byte, n), n of whatever kind -/
theorem wl_makeK (hg : o.guard = none) (l c : Operand) (hop : o.op = Op.makeSlice T l c) (B : Nat) (n : Nat) (k : IntKind) (hl : a.eval l = .int k n) (hc : a.eval c = .int k n)
    (hn : n ≤ 281474976710656) (hB : B ≤ w.heap.size)
    (hK : ∀ w', Own w' B E (.slice (some ⟨w.heap.size, 0, none⟩) n n) (List.replicate n 0) → Below w.heap.size w w' → w.heap.size < w'.heap.size → wpList P ops Q rest (a.put o.dst (.slice (some ⟨w.heap.size, 0, none⟩) n n)) w') :
    wpList P ops Q (o :: rest) a w := by
  obtain ⟨i0, hi, hz0, hz1, hz2⟩ := info_parts bt.info
  refine wpList_plain hg fun K hK' => ?_
  have hrun := run_make (P := P) w T E i0 (.int .u8 0) bt.sl hi hz0 k k n n (by omega) (by omega) (by rw [hz2]; omega) (by omega)
  unfold Oper.wp
  simp [execOp, hop, hl, hc, hrun, Result.andThen]
  refine hK' _ _ (hK _ ?_ ?_ ?_)
  · have := World.ownsRow_lit (base := B) (e := E) (size := 1) w (madeCells #[.int .u8 0] n) n hB (by unfold maxLen; omega) (by simp [madeCells])
    simp only [hz1, Value.cells, Nat.mul_one]
    unfold Own
    have e : (List.map bv (List.replicate n 0)) = (madeCells #[.int .u8 0] n).toList := by rw [toList_madeCells_one]; simp [bv]
    rw [e]
    simpa using this
  · exact (Below.refl _ _).alloc (Nat.le_refl _) _
  · simp
end

/-- what lies there behind k rounds -/
def padK (n k : Nat) : List UInt8 := 128 :: (List.replicate (nz n) 0 ++ (List.replicate (8 - k) 0 ++ (digits (8 * n) 8).drop (8 - k)))
theorem padK_len (n k : Nat) (h : k ≤ 8) : (padK n k).length = nz n + 9 := by
  simp only [padK, List.length_cons, List.length_append, List.length_replicate, List.length_drop, digits_len]
  omega
theorem padK_step (n k : Nat) (h : k < 8) : (padK n k).set (nz n + 8 - k) (digit (8 * n) 8 (7 - k)) = padK n (k + 1) := by
  unfold padK
  rw [show nz n + 8 - k = (nz n + (7 - k)) + 1 by omega, List.set_cons_succ, List.set_append_right _ _ (by simp), List.length_replicate, show nz n + (7 - k) - nz n = 8 - 1 - k by omega, ← down_step (8 * n) 8 k h]
theorem padK_zero (n : Nat) : (List.replicate (nz n + 9) (0 : UInt8)).set 0 128 = padK n 0 := by
  unfold padK
  rw [show nz n + 9 = (nz n + 8) + 1 by omega, List.replicate_succ]
  rw [List.set_cons_zero, Nat.sub_zero, List.drop_of_length_le (by rw [digits_len]; exact Nat.le_refl _), List.append_nil, List.replicate_append_replicate]
theorem padK_end (n : Nat) : padK n 8 = padB n := by simp [padK, padB]
theorem digit_raw (n k : Nat) (h : k < 8) : (((digit (8 * n) 8 (7 - k)).toNat : Nat) : Int) = ((n : Int) * 8 / 2 ^ (8 * k)) % 256 := by
  have e : (256 : Nat) ^ k = 2 ^ (8 * k) := by rw [Nat.pow_mul]
  simp only [digit, show 8 - 1 - (7 - k) = k by omega, e]
  simp
  rw [Int.mul_comm]

theorem padding_any (n : Nat) (w : World) (hn : n ≤ 1152921504606846976) :
    Calls Try.prog 41 #[.int .u64 (n : Int)] w fun e w' => ∃ v, e = .returned v ∧ Own w' w.heap.size 5 v (padB n) ∧ Below w.heap.size w w' := by
  have hz := nz_lt n
  have hnz : Hid ((((64 : Int) - ((n : Int) + 1 + 8) % 64) % 64) = (nz n : Int)) := by
    show _ = _
    unfold nz
    omega
  go_enter Try.func41, Try.ntmps41
  go_upto_region 3 with fail
  rw [hnz.out]
  have e1 : Hid ((1 : Int) + (nz n : Int) + 8 = ((nz n + 9 : Nat) : Int)) := by show _ = _; omega
  go_upto_region 4 with (at_make; refine wl_makeK bt rfl _ _ rfl w.heap.size (nz n + 9) .u64 (congrArg (Value.int .u64) e1.out) (congrArg (Value.int .u64) e1.out) (by omega) (Nat.le_refl _) ?_; intro w1 ho1 hb1 hs1)
  generalize hB : w.heap.size = B at *
  have HB := Lib.hid hB
  clear hB
  have hc0 := Own.cellAt ho1 0 (by omega)
  have hf0 := Own.frozenAt ho1 0
  have hst0 := Own.stored ho1 0 128
  rw [padK_zero] at hst0
  have hb2 := hb1.setCell (p := ⟨B, 0, none⟩) (Nat.le_refl _) (.int .u8 ((128 : UInt8).toNat : Int))
  clear ho1 hb1
  go_wp2_with fail
  rw [show (((128 : UInt8).toNat : Nat) : Int) = 128 from rfl] at hst0 hb2
  generalize w1.setCell ⟨B, 0, none⟩ (.int .u8 128) = w2 at *
  clear hc0 hf0
  go_loopw [20] (fun i wr => ∃ k : Nat, k ≤ 8 ∧ i = .int .i64 k ∧ Own wr B 5 (.slice (some ⟨B, 0, none⟩) (nz n + 9) (nz n + 9)) (padK n k) ∧ Below B w wr) (fun i _ => 8 - (intOf i).toNat)
  case atStart => exact ⟨0, by omega, rfl, hst0, hb2⟩
  case round =>
    obtain ⟨k, hk, rfl, ho, hb⟩ := hrel
    by_cases hlt : k < 8
    · have hc : (k : Int) < 8 := by omega
      have hcl := Own.cellAt ho (nz n + 8 - k) (by omega)
      have hfr := Own.frozenAt ho (nz n + 8 - k)
      have hst := Own.stored ho (nz n + 8 - k) (digit (8 * n) 8 (7 - k))
      rw [padK_step n k hlt, digit_raw n k hlt] at hst
      have hb' := hb.setCell (p := ⟨B, nz n + 8 - k, none⟩) (Nat.le_refl _) (.int .u8 ((n : Int) * 8 / 2 ^ (8 * k) % 256))
      have ei : ((nz n : Int) + 9 - 1 - (k : Int)).toNat = nz n + 8 - k := by omega
      have f1 : 0 ≤ (nz n : Int) + 9 - 1 - (k : Int) := by omega
      have f2 : (nz n : Int) + 9 - 1 - (k : Int) < (nz n : Int) + 9 := by omega
      clear ho hb
      go_wp2
      go_roundw
      case rel => exact ⟨k + 1, by omega, by go_num, hst, hb'⟩
      case measure => simp [intOf]; omega
    · have hk8 : k = 8 := by omega
      have hc : ¬ (k : Int) < 8 := by omega
      rw [hk8, padK_end] at ho
      go_wp2
      go_ret
      exact ⟨_, rfl, by rw [HB.out]; exact ho, by rw [HB.out]; exact hb⟩

/-- an array's element, by value -/
theorem run_index_arr {P : Program} {w : World} {t e : TypeId} {n : Nat} {k0 : IntKind} {cs : List Value} {v : Value} (i : Nat) (hu : P.underlying t = some (.array n e)) (he : P.underlying e = some (.int k0))
    (hs : (P.info? e).map (·.size) = some 1) (hi : i < n) (hc : cs[i]? = some v) : (Instr.index t (.agg cs.toArray) (.int .i64 (i : Int))).run P w = .ok v w := by
  cases hq : P.info? e with
  | none => simp [hq] at hs
  | some inf =>
    have h1 : inf.size = 1 := by simpa [hq] using hs
    have hp : (part e cs.toArray i).run P w = .ok v w := by
      have ha : (isAgg e).run P w = .ok false w := by
        unfold isAgg
        rw [Sem.run_bind, run_underlying he w]
        rfl
      unfold part
      simp [Sem.run_bind, ha, hc]
    simp [Instr.index, asIntOf, run_underlying hu, hi, Sem.run_bind, sizeOf, typeInfo, hq, h1, hp]

/-- bytes laid so far -/
def digI (s : R8) (i : Nat) : List UInt8 := (dig s).take i ++ Z8 (32 - i)
theorem digI_len (s : R8) (i : Nat) (h : i ≤ 32) : (digI s i).length = 32 := by
  simp only [digI, List.length_append, List.length_take, dig_len, Z8, List.length_replicate]
  omega
theorem digI_step (s : R8) (i : Nat) (h : i < 32) : (digI s i).set i (digB s i) = digI s (i + 1) := by
  have hd : (dig s)[i]'(by rw [dig_len]; exact h) = digB s i := by simp [dig]
  unfold digI Z8
  rw [List.set_append_right _ _ (by simp [dig_len]; omega), show i - ((dig s).take i).length = 0 by simp [dig_len]; omega, show 32 - i = (32 - (i + 1)) + 1 by omega, List.replicate_succ, List.set_cons_zero,
    List.take_succ_eq_append_getElem (by rw [dig_len]; exact h), hd, List.append_assoc]
  rfl
theorem digI_end (s : R8) : digI s 32 = dig s := by
  unfold digI
  rw [List.take_of_length_le (by rw [dig_len]; exact Nat.le_refl _)]
  simp [Z8]
theorem digB_at (s : R8) (k j : Nat) (hj : j < 4) : (((digB s (4 * k + j)).toNat : Nat) : Int) = ((s.list.getD k 0).toNat : Int) / ((2 ^ (24 - 8 * j) : Nat) : Int) % 256 := by
  unfold digB
  rw [show (4 * k + j) / 4 = k by omega, show (4 * k + j) % 4 = j by omega]
  simp
theorem infoD : (Try.prog.info? 29).map (fun i => (i.zero, i.size)) = some (some (.agg (bvs (Z8 32)).toArray), 32) := by kernel_rfl
theorem sizeD : (Try.prog.info? 29).map (·.size) = some 32 := by kernel_rfl
theorem bvs_set (xs : List UInt8) (j : Nat) (x : UInt8) : (bvs xs).set j (.int .u8 (x.toNat : Int)) = bvs (xs.set j x) := by
  simp [bvs, List.map_set]; rfl

set_option maxHeartbeats 800000 in
theorem digest_any (s : R8) (w : World) :
    Calls Try.prog 42 #[.agg (qs s.list).toArray] w fun e w' => e = .returned (.agg (bvs (dig s)).toArray) ∧ Below w.heap.size w w' := by
  have hl8 : s.list.length = 8 := rfl
  have HL := Lib.hid hl8
  clear hl8
  have hql : Hid ((Try.prog.info? 74).map (·.size) = some (qs s.list).length) := by show _ = _; rw [qs_len, HL.out]; exact size8
  go_enter Try.func42, Try.ntmps42
  go_wp2_with (first
    | ((with_reducible show wpList _ _ _ (⟨some 1, .box _ _, _, _, _, _⟩ :: _) _ _); refine wl_box rfl 74 _ rfl (qs s.list) rfl ?_; intro w1 hA1 hb1 hs1)
    | ((with_reducible show wpList _ _ _ (⟨some 2, .alloc _, _, _, _, _⟩ :: _) _ _); refine wl_alloc rfl 29 rfl (bvs (Z8 32)) 32 infoD ?_; intro w2 hA2 hb2 hs2)
    | ((with_reducible show wpList _ _ _ (⟨some 3, .alloc _, _, _, _, _⟩ :: _) _ _); refine wl_alloc rfl 29 rfl (bvs (Z8 32)) 32 infoD ?_; intro w3 hA3 hb3 hs3)
    | ((with_reducible show wpList _ _ _ (⟨some 6, .load _ _, _, _, _, _⟩ :: _) _ _); refine wl_load rfl 74 _ rfl w.heap.size 0 rfl 74 (qs s.list) (qs s.list) ((hA1.to hb2 hs1).to hb3 (by omega)) (fun j v h => by rw [Nat.zero_add]; exact h) (.array 8 73) Try.underlying74 rfl hql.out ?_))
  generalize h1 : w.heap.size = g1 at *
  generalize h2 : w1.heap.size = g2 at *
  generalize h3 : w2.heap.size = g3 at *
  have G1 := Lib.hid h1
  have G2 := Lib.hid h2
  have G3 := Lib.hid h3
  clear h1 h2 h3
  have hB3 : Below g1 w w3 := hb1.trans ((hb2.mono (Nat.le_of_lt hs1)).trans (hb3.mono (by omega)))
  have hR3 : Arr w3 g2 29 (bvs (Z8 32)) := hA2.to hb3 hs2
  have hD3 : Arr w3 g3 29 (bvs (digI s 0)) := hA3
  clear hA1 hA2 hA3 hb1 hb2 hb3
  go_loopw [7] (fun i wr => ∃ k : Nat, k ≤ 8 ∧ i = .int .i64 k ∧ Arr wr g2 29 (bvs (Z8 32)) ∧ Arr wr g3 29 (bvs (digI s (4 * k))) ∧ Below g1 w wr) (fun i _ => 8 - (intOf i).toNat)
  case atStart => exact ⟨0, by omega, rfl, hR3, hD3, hB3⟩
  case round =>
    obtain ⟨k, hk, rfl, hR, hD, hB⟩ := hrel
    by_cases hlt : k < 8
    · have hc : (k : Int) < 8 := by omega
      have hix : ∀ W, (Instr.index 74 (.agg (qs s.list).toArray) (.int .i64 (k : Int))).run Try.prog W = .ok (.int .u32 ((s.list.getD k 0).toNat : Int)) W := fun W =>
        run_index_arr k Try.underlying74 Try.underlying73 (by kernel_rfl) hlt (qs_get _ _ (by rw [HL.out]; exact hlt))
      have hdl := digI_len s (4 * k) (by omega)
      have cell : ∀ j, j < 32 → wr.cell? ⟨g3, j, none⟩ = some (.int .u8 (((digI s (4 * k)).getD j 0).toNat : Int)) := fun j hj => (hD.cell j).trans (bvs_get _ _ (by rw [hdl]; exact hj))
      have c0 := cell (4 * k) (by omega)
      have c1 := cell (4 * k + 1) (by omega)
      have c2 := cell (4 * k + 2) (by omega)
      have c3 := cell (4 * k + 3) (by omega)
      have f0 := hD.frozen (4 * k)
      have f1 := hD.frozen (4 * k + 1)
      have f2 := hD.frozen (4 * k + 2)
      have f3 := hD.frozen (4 * k + 3)
      have hst := (((hD.store (4 * k) (.int .u8 ((digB s (4 * k)).toNat : Int))).store (4 * k + 1) (.int .u8 ((digB s (4 * k + 1)).toNat : Int))).store (4 * k + 2) (.int .u8 ((digB s (4 * k + 2)).toNat : Int))).store (4 * k + 3) (.int .u8 ((digB s (4 * k + 3)).toNat : Int))
      rw [bvs_set, digI_step s (4 * k) (by omega), bvs_set, digI_step s (4 * k + 1) (by omega), bvs_set, digI_step s (4 * k + 2) (by omega), bvs_set, digI_step s (4 * k + 3) (by omega)] at hst
      have hx := u32_lt (s.list.getD k 0)
      have v0 : (((digB s (4 * k)).toNat : Nat) : Int) = ((s.list.getD k 0).toNat : Int) / 16777216 := by
        have := digB_at s k 0 (by omega)
        simp only [Nat.add_zero] at this
        omega
      have v1 : (((digB s (4 * k + 1)).toNat : Nat) : Int) = ((s.list.getD k 0).toNat : Int) / 65536 % 256 := digB_at s k 1 (by omega)
      have v2 : (((digB s (4 * k + 2)).toNat : Nat) : Int) = ((s.list.getD k 0).toNat : Int) / 256 % 256 := digB_at s k 2 (by omega)
      have v3 : (((digB s (4 * k + 3)).toNat : Nat) : Int) = ((s.list.getD k 0).toNat : Int) % 256 := by
        have := digB_at s k 3 (by omega)
        omega
      rw [v0, v1, v2, v3] at hst
      generalize (s.list.getD k 0) = x at *
      have HST := Lib.hid hst
      have HR := Lib.hid hR
      have HB := Lib.hid hB
      clear hst cell v0 v1 v2 v3 hR hB hD hdl
      go_wp2
      go_roundw
      case rel =>
        exact ⟨k + 1, by omega, by go_num, (((HR.out.other _ (by simp; omega) _).other _ (by simp; omega) _).other _ (by simp; omega) _).other _ (by simp; omega) _, by rw [show 4 * (k + 1) = 4 * k + 3 + 1 by omega]; exact HST.out,
          (((HB.out.setCell (by simp; omega) _).setCell (by simp; omega) _).setCell (by simp; omega) _).setCell (by simp; omega) _⟩
      case measure => simp [intOf]; omega
    · have hk8 : k = 8 := by omega
      have hc : ¬ (k : Int) < 8 := by omega
      rw [hk8, show 4 * 8 = 32 from rfl, digI_end] at hD
      have hdl := dig_len s
      have HDL : Hid ((Try.prog.info? 29).map (·.size) = some (bvs (dig s)).length) := by show _ = _; rw [bvs_len, hdl]; exact sizeD
      have HDL2 : Hid ((bvs (dig s)).length = 32) := by show _ = _; rw [bvs_len, hdl]
      clear hdl hk8
      have h1 := bvs_one (dig s)
      go_wp2_with (first
        | ((with_reducible show wpList _ _ _ (⟨some 38, .load _ _, _, _, _, _⟩ :: _) _ _); refine wl_load rfl 29 _ rfl g3 0 rfl 29 (bvs (dig s)) (bvs (dig s)) hD (fun j v h => by rw [Nat.zero_add]; exact h) (.array 32 5) Try.underlying29 rfl HDL.out ?_)
        | ((with_reducible show wpList _ _ _ (⟨none, .store _ _ _, _, _, _, _⟩ :: _) _ _); refine wl_store rfl 29 _ _ rfl g2 0 rfl (bvs (dig s)) rfl 29 _ hR HDL.out (by rw [HDL2.out]; exact (by decide : 0 + 32 ≤ (bvs (Z8 32)).length)) h1 ?_; intro w5 hA5 hg5 hs5))
      rw [whole_store _ _ (by rw [HDL2.out]; rfl)] at hA5
      exact end_cell rfl g2 29 (bvs (dig s)) (.array 32 5) rfl hA5 Try.underlying29 rfl HDL.out rfl ⟨rfl, G1.out ▸ hB.grown hg5 (Nat.le_trans (by omega) (Nat.le_of_lt hR.lt)) (by intro k e; cases e; omega)⟩
end Go.Proofs.Ytlfncgpjgbpdjaa
