/-
  Layer 9: the peaks from the last one on: what the program's iterator hands to a loop. Conditions: those in each statement.
-/
import Derived.Test.YtlfncgpjgbpdjaaRgI
import Derived.Test.YtlfncgpjgbpdjaaRnDc
namespace Go.Proofs.Ytlfncgpjgbpdjaa
open Go.RowKit Go.Shelf
attribute [local go_sem] Oper.semAt_some

/-- the place of a peak, from the last one on -/
abbrev PkAt (m : Nat) := { k : Nat // k < m }
def lowAt (n k : Nat) : Nat := (lowP 1 n).getD k 0
def pkV (P : List (List UInt8)) (n m : Nat) (x : PkAt m) : Array Value := #[.int .u64 (lowAt n x.1 : Int), .agg (bvs (P.getD (m - 1 - x.1) [])).toArray]
/-- a round keeps the box, and all below n₀ -/
def KeptR (n₀ x : Nat) (W W' : World) : Prop := Below n₀ W W' ∧ W'.heap[x]? = W.heap[x]?
theorem KeptR.trans {n₀ x : Nat} {A B C : World} (h : KeptR n₀ x A B) (k : KeptR n₀ x B C) : KeptR n₀ x A C := ⟨h.1.trans k.1, k.2.trans h.2⟩

theorem lowP_rest {n m k : Nat} (h : lowP 1 m = (lowP 1 n).drop k) (hk : k < (lowP 1 n).length) : 0 < m ∧ lowB m = lowAt n k ∧ lowP 1 (m - lowB m) = (lowP 1 n).drop (k + 1) := by
  have hm : 0 < m := by
    rcases Nat.eq_zero_or_pos m with h0 | h0
    · subst h0
      rw [lowP_zero] at h
      have := congrArg List.length h
      rw [List.length_drop] at this
      simp at this
      omega
    · exact h0
  obtain ⟨r, h1, h2⟩ := lowP_low m 1 hm
  have e : (lowP 1 n).drop k = lowAt n k :: (lowP 1 n).drop (k + 1) := by
    rw [List.drop_eq_getElem_cons hk]
    unfold lowAt
    simp [List.getD, hk]
  rw [h1, e, Nat.one_mul] at h
  injection h with a b
  exact ⟨hm, a, by rw [h2, b]⟩
theorem lowP_sum_le : ∀ (n s : Nat), ∀ a ∈ lowP s n, a ≤ s * n := by
  intro n
  induction n using Nat.strongRecOn with
  | _ n ih =>
    intro s a ha
    by_cases h0 : n = 0
    · subst h0; rw [lowP_zero] at ha; cases ha
    · by_cases h : n % 2 = 1
      · rw [lowP_odd s n h] at ha
        rcases List.mem_cons.1 ha with rfl | ha
        · exact Nat.le_mul_of_pos_right _ (by omega)
        · have := ih (n / 2) (by omega) (2 * s) a ha
          refine Nat.le_trans this ?_
          rw [Nat.mul_comm 2 s, Nat.mul_assoc]
          exact Nat.mul_le_mul_left _ (by omega)
      · rw [lowP_even s n (by omega)] at ha
        have := ih (n / 2) (by omega) (2 * s) a ha
        refine Nat.le_trans this ?_
        rw [Nat.mul_comm 2 s, Nat.mul_assoc]
        exact Nat.mul_le_mul_left _ (by omega)
theorem lowAt_bounds {n k : Nat} (hk : k < (lowP 1 n).length) : 1 ≤ lowAt n k ∧ lowAt n k ≤ n := by
  have hm : lowAt n k ∈ lowP 1 n := by
    unfold lowAt
    simp [List.getD, hk]
  have h1 := lowP_ge n 1 _ hm
  have h2 := lowP_sum_le n 1 _ hm
  rw [Nat.one_mul] at h2
  exact ⟨h1, h2⟩
theorem low_bits (m : Nat) (h0 : 0 < m) (h : m < 2 ^ 63) : bits .and .u64 (m : Int) (IntKind.u64.wrap (-(m : Int))) = ((lowB m : Nat) : Int) := by
  have e : IntKind.u64.wrap (-(m : Int)) = ((2 ^ 64 - m : Nat) : Int) := by
    rw [IntKind.wrap_u64]
    omega
  rw [e, and64 m (2 ^ 64 - m) (by omega) (by omega), low_and 64 m (by omega) h0]

theorem fromLast_any (p : Option Addr) (w : World) :
    Calls Try.prog 23 #[.pointer p] w fun e w' => e = .returned (.func (.func 33) #[] #[.pointer (some ⟨w.heap.size, 0, none⟩)]) ∧ w' = w.alloc (.cells #[.pointer p] 23) := by
  go_enter Try.func23, Try.ntmps23
  go_wp2
  go_ret
  exact ⟨rfl, rfl⟩

set_option maxRecDepth 100000 in
set_option maxHeartbeats 2000000 in
theorem fromLast1_in (N : Nat) (hN : 1 ≤ N) (l x p n m c n₀ : Nat) (P : List (List UInt8)) (a : Option Addr) (hn : n ≤ 1048576) (hm : m = (lowP 1 n).length) (hp : p < n₀) (ha : ∀ ad, a = some ad → ad.block < n₀) (J Jx : List (PkAt m) → World → Prop)
    (hY : ∀ pre ch W, J pre W → pre.length < m → YieldAt Fence.wide (N - 1) Try.prog l (pkV P n m ch) W fun e W' =>
      (e = .returned (.bool true) ∧ J (pre ++ [ch]) W' ∧ KeptR n₀ x W W') ∨ (e = .returned (.bool false) ∧ Jx (pre ++ [ch]) W'))
    (W : World) (hB : Boxed W x 23 (.pointer (some ⟨p, 0, none⟩))) (hA : Arr W p 49 [.bool true, .int .u64 (n : Int), .slice a m c]) (hr : RdD W a m c P) (h0 : J [] W) :
    CallsIn Fence.wide N Try.prog 33 #[.func (.yield l) #[] #[], .pointer (some ⟨x, 0, none⟩)] W fun e W' => (∃ v, e = .returned v) ∧
      ((∃ ys : List (PkAt m), ys.map (·.1) = List.range m ∧ J ys W') ∨ (∃ pre : List (PkAt m), pre.map (·.1) = List.range pre.length ∧ Jx pre W')) := by
  have hml : m ≤ 21 := by rw [hm]; exact lowP_len_lt 21 n 1 (by omega)
  have hll := hr.len
  have hall := hr.all
  refine callsIn_of_wp Try.func33 rfl trivial ?_ rfl
  simp only [Try.ntmps33, List.size_toArray, List.length_cons, List.length_nil, Nat.reduceAdd, Nat.reduceSub, Array.replicate_succ, Array.replicate_zero, List.push_toArray, List.append_toArray, List.nil_append, List.cons_append]
  have hcell := hB.cell
  have c1 := hA.cell 1
  have c2 := hA.cell 2
  simp only [List.getElem?_cons_succ, List.getElem?_cons_zero] at c1 c2
  have HM := Lib.hid hm
  have HA := Lib.hid hA
  have HR := Lib.hid hr
  have HBX := Lib.hid hB
  have HLL := Lib.hid hll
  have HALL := Lib.hid hall
  have HAB := Lib.hid ha
  have HYY := Lib.hid hY
  clear hm hA hr hll hall ha hY hB
  gi_wp2
  gi_loopw [3, 4] (fun lf i wr => ∃ (ys : List (PkAt m)) (r : Nat), lf = .int .u64 (r : Int) ∧ i = .int .i64 ((m : Int) - 1 - (ys.length : Int)) ∧ ys.map (·.1) = List.range ys.length ∧ ys.length ≤ m ∧ r ≤ n ∧ lowP 1 r = (lowP 1 n).drop ys.length ∧ J ys wr ∧ KeptR n₀ x W wr) (fun _ i _ => (intOf i + 1).toNat)
  case atStart => exact ⟨[], n, rfl, (by simp), rfl, Nat.zero_le _, Nat.le_refl _, rfl, h0, Below.refl _ _, rfl⟩
  case round =>
    clear hcell c1 c2
    obtain ⟨ys, r, rfl, rfl, hys, hlen, hrn, hlow, hJ, hK⟩ := hrel
    have hbx : Boxed wr x 23 (.pointer (some ⟨p, 0, none⟩)) := hK.2.trans HBX.out
    have hA : Arr wr p 49 [.bool true, .int .u64 (n : Int), .slice a m c] := (hK.1.block p hp).trans HA.out
    have hcell := hbx.cell
    have c2 := hA.cell 2
    simp only [List.getElem?_cons_succ, List.getElem?_cons_zero] at c2
    obtain ⟨k, hk⟩ : ∃ k, k = ys.length := ⟨_, rfl⟩
    rw [← hk] at hys hlen hlow ⊢
    by_cases hlt : k < m
    · obtain ⟨ch, hch⟩ : ∃ ch : PkAt m, ch.1 = k := ⟨⟨k, hlt⟩, rfl⟩
      obtain ⟨b1, b2, b3⟩ := lowP_rest hlow (by rw [← HM.out]; exact hlt)
      obtain ⟨b4, b5⟩ := lowAt_bounds (n := n) (k := k) (by rw [← HM.out]; exact hlt)
      obtain ⟨fn, tmps, assign, body, hy, hR⟩ := HYY.out ys ch wr hJ (by omega)
      dsimp only [pkV] at hy
      rw [hch] at hy
      have hbits := low_bits r b1 (by omega)
      rw [b2] at hbits b3
      obtain ⟨q, hq⟩ : ∃ q, q = m - 1 - k := ⟨_, rfl⟩
      rw [← hq] at hy
      have hqi : (m : Int) - 1 - (k : Int) = (q : Int) := by omega
      rw [hqi]
      have hqm : q < m := by omega
      obtain ⟨b, off, rfl, hbl, -⟩ := HR.out.mem (by omega)
      have hb0 : b < n₀ := HAB.out _ rfl
      have hrg : wr.rangeAt b (off + q * 32) (bvs (P.getD q [])) := fun j v hv => (hK.1.cell (p := ⟨b, off + q * 32 + j, none⟩) hb0).trans (HR.out.range q hqm j v hv)
      have hxl : (P.getD q []).length = 32 := HALL.out q (by rw [HLL.out]; exact hqm)
      have h32 : Hid ((Try.prog.info? 29).map (·.size) = some (bvs (P.getD q [])).length) := by show _ = _; rw [bvs_len, hxl]; exact sizeD
      have g1 : (0 : Int) ≤ (q : Int) := by omega
      have g2 : (q : Int) < (m : Int) := by omega
      have hw : Hid (IntKind.u64.wrap ((r : Int) - (lowAt n k : Int)) = ((r - lowAt n k : Nat) : Int)) := by
        show _ = _
        have := lowB_le r
        rw [b2] at this
        rw [IntKind.wrap_u64]
        omega
      obtain ⟨X, hX⟩ : ∃ X, X = P.getD q [] := ⟨_, rfl⟩
      rw [← hX] at hy hrg h32
      obtain ⟨A, hAA⟩ : ∃ A, A = lowAt n k := ⟨_, rfl⟩
      rw [← hAA] at hy hbits b3 hw
      rw [← hbits] at hy
      have hw' : Hid (IntKind.u64.wrap ((r : Int) - bits .and .u64 (r : Int) (IntKind.u64.wrap (-(r : Int)))) = ((r - A : Nat) : Int)) := by
        show _ = _
        rw [hbits]
        exact hw.out
      have HK := Lib.hid hk
      have HYS := Lib.hid hys
      have HKK := Lib.hid hK
      have HCH := Lib.hid hch
      have HB3 := Lib.hid b3
      have HQ := Lib.hid hq
      clear hq hk hys hch hK HBX HA hX hAA b1 b2 b3 b4 b5 hlow hxl hqi hbits hJ hw
      gi_wp2_with ((with_reducible show wpListIn _ _ _ _ _ (⟨some 32, .load _ _, _, _, _, _⟩ :: _) _ _); refine wlIn_op .wide rfl rfl ?_; intro K hKK; refine wp_load_mid 29 _ rfl b (off + q * 32) rfl (bvs X) (.array 32 5) hrg Try.underlying29 rfl h32.out ?_; refine hKK _ _ ?_; clear hKK K)
      refine hR.mono ?_
      rintro e W3 (⟨rfl, hJ3, hk3⟩ | ⟨rfl, hJx3⟩)
      · gi_wp2
        rw [hw'.out]
        go_roundw
        case rel =>
          have z1 := HK.out
          have z2 := HQ.out
          refine ⟨ys ++ [ch], r - A, rfl, ?_, ?_, ?_, by omega, ?_, hJ3, HKK.out.trans hk3⟩
          · rw [List.length_append, List.length_singleton, ← z1]
            show Value.int _ _ = Value.int _ _
            congr 1
            omega
          · rw [List.map_append, HYS.out, List.length_append, List.length_singleton, ← z1, List.range_succ]
            simp [HCH.out]
          · rw [List.length_append, List.length_singleton]
            omega
          · rw [List.length_append, List.length_singleton, ← z1]
            exact HB3.out
        case measure => simp [intOf]
      · gi_wp2
        refine bodyPost_ret (results_none rfl _ _ _) rfl ?_
        refine ⟨⟨_, rfl⟩, .inr ⟨ys ++ [ch], ?_, hJx3⟩⟩
        have z1 := HK.out
        rw [List.map_append, HYS.out, List.length_append, List.length_singleton, ← z1, List.range_succ]
        simp [HCH.out]
    · have hkm : k = m := by omega
      subst hkm
      have hc : (k : Int) - 1 - (k : Int) = -1 := by omega
      rw [hc]
      clear hk
      gi_wp2
      go_end0
      exact ⟨⟨_, rfl⟩, .inl ⟨ys, hys, hJ⟩⟩

/-- what fromLast tells stops as it should -/
theorem fromLast_stops (N : Nat) (hN : 1 ≤ N) (x p n m c n₀ : Nat) (P : List (List UInt8)) (a : Option Addr) (hn : n ≤ 1048576) (hm : m = (lowP 1 n).length) (hp : p < n₀) (ha : ∀ ad, a = some ad → ad.block < n₀) (w : World)
    (hB : Boxed w x 23 (.pointer (some ⟨p, 0, none⟩))) (hA : Arr w p 49 [.bool true, .int .u64 (n : Int), .slice a m c]) (hr : RdD w a m c P) :
    SeqStopsK Fence.wide N Try.prog 33 #[.pointer (some ⟨x, 0, none⟩)] (pkV P n m) (KeptR n₀ x) (fun ys => ys.map (·.1) = List.range m) (fun pre => pre.map (·.1) = List.range pre.length) m w := fun l J Jx W hW _ _ hY h0 =>
  fromLast1_in N hN l x p n m c n₀ P a hn hm hp ha J Jx hY W ((hW.block x hB.lt).trans hB) (hA.kept hW) (hr.to hW) h0
end Go.Proofs.Ytlfncgpjgbpdjaa
