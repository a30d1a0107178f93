/-
  The document's power of a number, in digits. Conditions: those in each statement.
-/
import Derived.Test.YtgippimoklefnaaPowA
import Derived.Test.YtgippimoklefnaaShaB
import Derived.BigRegion
import Derived.Deep.DeepCutAuto
import Derived.Deep.CutBlock
namespace Go.Proofs.Ytgippimoklefnaa
open Go.RowKit

def nv (x : Nat) : Value := .int .u64 (x : Int)
def nvs (l : List Nat) : List Value := l.map nv
theorem nvs_one (l : List Nat) : ∀ v ∈ nvs l, v.oneCell' = true := by
  intro v hv
  obtain ⟨x, _, rfl⟩ := List.mem_map.1 hv
  rfl
theorem nvs_len (l : List Nat) : (nvs l).length = l.length := by simp [nvs]
theorem nvs_get (l : List Nat) (i : Nat) (h : i < l.length) : (nvs l)[i]? = some (.int .u64 ((l.getD i 0 : Nat) : Int)) := by
  simp [nvs, nv, List.getD, h]
theorem nvs_set (l : List Nat) (i x : Nat) : (nvs l).set i (.int .u64 (x : Int)) = nvs (l.set i x) := by
  simp [nvs, nv, List.map_set]
def Z12 : List Nat := List.replicate 12 0
theorem info12 : (Try.prog.info? 65).map (fun i => (i.zero, i.size)) = some (some (.agg (nvs Z12).toArray), 12) := by kernel_rfl
theorem size12 : (Try.prog.info? 65).map (·.size) = some 12 := by kernel_rfl

set_option maxRecDepth 100000 in
set_option maxHeartbeats 1600000 in
theorem power_any (x n : Nat) (w : World) (hx : x ≤ 18446744073709551615) (hn : n ≤ 3) (hp : ∀ k, k < n → x ^ k * x < 65536 ^ 11) :
    Calls Try.prog 33 #[.int .u64 (x : Int), .int .i64 (n : Int)] w fun e w' => (∃ l, e = .returned (.agg (nvs l).toArray) ∧ Digs l (x ^ n)) ∧ Below w.heap.size w w' := by
  have HP := Lib.hid hp
  clear hp
  go_enter Try.func33, Try.ntmps33
  go_wp2_with (first
    | ((with_reducible show wpList _ _ _ (⟨some 4, .alloc _, _, _, _, _⟩ :: _) _ _); refine wl_alloc rfl 65 rfl (nvs Z12) 12 info12 ?_; intro w1 hA1 hb1 hs1)
    | ((with_reducible show wpList _ _ _ (⟨some 5, .alloc _, _, _, _, _⟩ :: _) _ _); refine wl_alloc rfl 65 rfl (nvs Z12) 12 info12 ?_; intro w2 hA2 hb2 hs2; have cc := (hA2.cell 0).trans (show (nvs Z12)[0]? = some (.int .u64 0) from rfl); have cf := hA2.frozen 0))
  generalize h1 : w.heap.size = g4 at *
  generalize h2 : w1.heap.size = g5 at *
  have G4 := Lib.hid h1
  have G5 := Lib.hid h2
  clear h1 h2 cc cf
  have hB2 : Below g4 w w2 := hb1.trans (hb2.mono (by omega))
  have hX2 : Arr w2 g4 65 (nvs Z12) := hA1.to hb2 hs1
  have hst : Arr (w2.setCell ⟨g5, 0, none⟩ (.int .u64 1)) g5 65 (nvs (Z12.set 0 1)) := by
    have := hA2.store 0 (.int .u64 ((1 : Nat) : Int))
    rw [nvs_set] at this
    exact this
  have hX3 := hX2.other ⟨g5, 0, none⟩ (by simp; omega) (.int .u64 1)
  have hB3 := hB2.setCell (p := ⟨g5, 0, none⟩) (by simp; omega) (.int .u64 1)
  have hD0 : Digs (Z12.set 0 1) (x ^ 0) := Digs.place 0 1 (by omega) (by omega)
  clear hA1 hA2 hb1 hb2 hX2 hB2
  go_loopw [6] (fun i wr => ∃ (k : Nat) (p : List Nat), k ≤ n ∧ i = .int .i64 k ∧ Digs p (x ^ k) ∧ Arr wr g4 65 (nvs Z12) ∧ Arr wr g5 65 (nvs p) ∧ Below g4 w wr) (fun i _ => n - (intOf i).toNat)
  case atStart => exact ⟨0, _, Nat.zero_le _, rfl, hD0, hX3, hst, hB3⟩
  case round =>
    clear hX3 hst hB3 hD0
    obtain ⟨k, p, hk, rfl, hD, hX, hP, hB⟩ := hrel
    by_cases hlt : k < n
    · have hc : (k : Int) < (n : Int) := by omega
      have hpow := HP.out k hlt
      go_wp2_with ((with_reducible show wpList _ _ _ (⟨some 7, .alloc _, _, _, _, _⟩ :: _) _ _); refine wl_alloc rfl 65 rfl (nvs Z12) 12 info12 ?_; intro w3 hA3 hb3 hs3)
      have hX4 := hX.kept hb3
      have hP4 := hP.kept hb3
      have hl5 := hP.lt
      have hB4 := hB.trans (hb3.mono (by omega))
      generalize h7 : wr.heap.size = g7 at *
      have G7 := Lib.hid h7
      clear h7 hX hP hB hb3
      have HPW := Lib.hid hpow
      clear hpow
      have hQ0 : Digs Z12 (val (p.take 0) * x) := by
        rw [List.take_zero, show val [] = 0 from rfl, Nat.zero_mul]
        exact Digs.zero
      go_loopw [8] (fun i wr => ∃ (a : Nat) (Q : List Nat), a ≤ 12 ∧ i = .int .i64 a ∧ Digs Q (val (p.take a) * x) ∧ Arr wr g4 65 (nvs Z12) ∧ Arr wr g5 65 (nvs p) ∧ Arr wr g7 65 (nvs Q) ∧ Below g4 w wr) (fun i _ => 12 - (intOf i).toNat)
      case atStart => exact ⟨0, Z12, by omega, rfl, hQ0, hX4, hP4, hA3, hB4⟩
      case round =>
        clear hX4 hP4 hA3 hB4 hQ0
        obtain ⟨a, Q, ha, rfl, hQ, hX, hP, hA, hB⟩ := hrel
        by_cases hla : a < 12
        · have hca : (a : Int) < 12 := by omega
          have hpa := hD.bd a
          have cp := (hP.cell a).trans (nvs_get p a (by rw [hD.len]; omega))
          go_wp2_with fail
          obtain ⟨wo, rfl⟩ : ∃ wo : World, wo = wr := ⟨_, rfl⟩
          go_loopw [9, 10] (fun y i wr => ∃ (j : Nat) (q : List Nat), a + j ≤ 12 ∧ i = .int .i64 j ∧ y = .int .u64 ((x / 65536 ^ j : Nat) : Int) ∧ MulI Q q (p.getD a 0) x a j ∧ Arr wr g4 65 (nvs Z12) ∧ Arr wr g5 65 (nvs p) ∧ Arr wr g7 65 (nvs q) ∧ Below g4 w wr) (fun _ i _ => 12 - (intOf i).toNat)
          case atStart => exact ⟨0, Q, by omega, rfl, by simp, hQ.start, hX, hP, hA, hB⟩
          case round =>
            clear hX hP hA hB cp
            obtain ⟨j, q, haj, rfl, rfl, hM, hX, hP, hA, hB⟩ := hrel
            by_cases hlj : a + j < 12
            · have hcj : (a : Int) + (j : Int) < 12 := by omega
              have cp := (hP.cell a).trans (nvs_get p a (by rw [hD.len]; omega))
              have cq := (hA.cell (a + j)).trans (nvs_get q (a + j) (by rw [hM.len]; omega))
              have fq := hA.frozen (a + j)
              obtain ⟨hbd, hM'⟩ := hM.step hpa hlj
              have hyl : x / 65536 ^ j ≤ 18446744073709551615 := Nat.le_trans (Nat.div_le_self _ _) hx
              have hyd : x / 65536 ^ j / 65536 = x / 65536 ^ (j + 1) := by rw [Nat.div_div_eq_div_mul, Nat.pow_succ]
              have hst := hA.store (a + j) (.int .u64 ((q.getD (a + j) 0 + p.getD a 0 * (x / 65536 ^ j % 65536) : Nat) : Int))
              rw [nvs_set] at hst
              have hX' := hX.other ⟨g7, a + j, none⟩ (by simp; omega) (.int .u64 ((q.getD (a + j) 0 + p.getD a 0 * (x / 65536 ^ j % 65536) : Nat) : Int))
              have hP' := hP.other ⟨g7, a + j, none⟩ (by simp; omega) (.int .u64 ((q.getD (a + j) 0 + p.getD a 0 * (x / 65536 ^ j % 65536) : Nat) : Int))
              have hB' := hB.setCell (p := ⟨g7, a + j, none⟩) (by simp; omega) (.int .u64 ((q.getD (a + j) 0 + p.getD a 0 * (x / 65536 ^ j % 65536) : Nat) : Int))
              have h1 : p.getD a 0 * (x / 65536 ^ j % 65536) < 4294967296 := by omega
              obtain ⟨y, hy⟩ : ∃ y, y = x / 65536 ^ j := ⟨_, rfl⟩
              rw [← hy] at hyl hyd hst hX' hP' hB' hbd hM' h1 ⊢
              obtain ⟨z, hz⟩ : ∃ z, z = p.getD a 0 * (y % 65536) := ⟨_, rfl⟩
              obtain ⟨u, hu⟩ : ∃ u, u = q.getD (a + j) 0 := ⟨_, rfl⟩
              obtain ⟨pa, hpa'⟩ : ∃ pa, pa = p.getD a 0 := ⟨_, rfl⟩
              rw [← hz, ← hu] at hst hX' hP' hB' hbd hM'
              rw [← hz] at h1
              rw [← hu] at cq
              rw [← hpa'] at cp hz
              have hraw : Hid (IntKind.u64.wrap ((u : Int) + IntKind.u64.wrap ((pa : Int) * ((y : Int) % 65536))) = ((u + z : Nat) : Int)) := by
                have e0 : ((y % 65536 : Nat) : Int) = (y : Int) % 65536 := by omega
                have e : (pa : Int) * ((y : Int) % 65536) = (z : Int) := by rw [hz, Int.natCast_mul, e0]
                show _ = _
                rw [e, IntKind.wrap_u64, IntKind.wrap_u64]
                omega
              obtain ⟨v, hv⟩ : ∃ v, v = u + z := ⟨_, rfl⟩
              rw [← hv] at hraw hst hX' hP' hB' hM'
              have HV := Lib.hid hv
              clear hv
              have HM := Lib.hid hM'
              have HY := Lib.hid hyd
              have HZ := Lib.hid hz
              clear hM hM' hyd hz hX hP hA hB hy hu hpa'
              go_upto_region 14 with fail
              go_region
              rw [hraw.out]
              go_wp2_with fail
              go_roundw
              case rel => exact ⟨j + 1, _, by omega, by go_num, by rw [← HY.out]; show Value.int _ _ = Value.int _ _; congr 1, HM.out, hX'.drew, hP'.drew, hst.drew, hB'.drew⟩
              case measure => simp [intOf]; omega
            · have hj12 : j = 12 - a := by omega
              have hcj : ¬ (a : Int) + (j : Int) < 12 := by omega
              rw [hj12] at hM
              obtain ⟨hv1, hv2⟩ := row_end hD hQ hla HPW.out hM
              have hC := hM.car
              rw [hv1] at hC
              clear hM hv1 hj12
              go_wp2_with fail
              obtain ⟨wo2, rfl⟩ : ∃ wo : World, wo = wr := ⟨_, rfl⟩
              obtain ⟨V, hV⟩ : ∃ V, V = val (p.take (a + 1)) * x := ⟨_, rfl⟩
              rw [← hV] at hC hv2
              have HVV := Lib.hid hV
              clear hV
              go_loopw [11] (fun i wr => ∃ (b : Nat) (q1 : List Nat), b ≤ 11 ∧ i = .int .i64 b ∧ CarI V q1 b ∧ Arr wr g4 65 (nvs Z12) ∧ Arr wr g5 65 (nvs p) ∧ Arr wr g7 65 (nvs q1) ∧ Below g4 w wr) (fun i _ => 11 - (intOf i).toNat)
              case atStart => exact ⟨0, q, by omega, rfl, hC, hX, hP, hA, hB⟩
              case round =>
                clear hX hP hA hB hC
                obtain ⟨b, q1, hb, rfl, hC, hX, hP, hA, hB⟩ := hrel
                by_cases hlb : b < 11
                · have hcb : (b : Int) < 11 := by omega
                  have c1 := (hA.cell (b + 1)).trans (nvs_get q1 (b + 1) (by rw [hC.len]; omega))
                  have c0 := (hA.cell b).trans (nvs_get q1 b (by rw [hC.len]; omega))
                  have f1 := hA.frozen (b + 1)
                  obtain ⟨hbd, hC'⟩ := hC.step hlb
                  have hat := hC.at_
                  obtain ⟨s, hs⟩ : ∃ s, s = q1.getD (b + 1) 0 + q1.getD b 0 / 65536 := ⟨_, rfl⟩
                  rw [← hs] at hbd hC'
                  obtain ⟨u, hu⟩ : ∃ u, u = q1.getD (b + 1) 0 := ⟨_, rfl⟩
                  obtain ⟨v, hv⟩ : ∃ v, v = q1.getD b 0 := ⟨_, rfl⟩
                  rw [← hu] at c1 hs
                  rw [← hv] at c0 hs hC' hat
                  have hraw : Hid (IntKind.u64.wrap ((u : Int) + IntKind.u64.wrap ((v : Int) / 65536)) = (s : Int)) := by
                    show _ = _
                    rw [IntKind.wrap_u64, IntKind.wrap_u64]
                    omega
                  have hA1 := hA.store (b + 1) (.int .u64 (s : Int))
                  rw [nvs_set] at hA1
                  have hX1 := hX.other ⟨g7, b + 1, none⟩ (by simp; omega) (.int .u64 (s : Int))
                  have hP1 := hP.other ⟨g7, b + 1, none⟩ (by simp; omega) (.int .u64 (s : Int))
                  have hB1 := hB.setCell (p := ⟨g7, b + 1, none⟩) (by simp; omega) (.int .u64 (s : Int))
                  obtain ⟨r, hr⟩ : ∃ r, r = v % 65536 := ⟨_, rfl⟩
                  rw [← hr] at hC'
                  have hraw2 : Hid ((v : Int) % 65536 = (r : Int)) := by show _ = _; omega
                  have HC := Lib.hid hC'
                  have c0' := (hA1.drew.cell b).trans (nvs_get (q1.set (b + 1) s) b (by rw [List.length_set, hC.len]; omega))
                  rw [getD_set _ _ _ _ (by rw [hC.len]; omega), if_neg (by omega), ← hv] at c0'
                  have f0' := hA1.drew.frozen b
                  have hA2 := hA1.drew.store b (.int .u64 (r : Int))
                  rw [nvs_set] at hA2
                  have hX2 := hX1.drew.other ⟨g7, b, none⟩ (by simp; omega) (.int .u64 (r : Int))
                  have hP2 := hP1.drew.other ⟨g7, b, none⟩ (by simp; omega) (.int .u64 (r : Int))
                  have hB2 := hB1.drew.setCell (p := ⟨g7, b, none⟩) (by simp; omega) (.int .u64 (r : Int))
                  clear hC hC' hs hu hv hr hX hP hA hB hA1 hX1 hP1 hB1 hat hbd
                  go_upto_region 19 with fail
                  go_region
                  rw [hraw.out]
                  go_upto_region 18 with fail
                  rw [hraw2.out]
                  go_wp2_with fail
                  go_roundw
                  case rel => exact ⟨b + 1, _, by omega, by go_num, HC.out, hX2, hP2, hA2, hB2⟩
                  case measure => simp [intOf]; omega
                · have hcb : ¬ (b : Int) < 11 := by omega
                  obtain rfl : b = 11 := by omega
                  have hQ' := hC.digs hv2
                  rw [HVV.out] at hQ'
                  clear hC
                  go_wp2_with fail
                  go_roundw
                  case rel => exact ⟨a + 1, q1, by omega, by go_num, hQ', hX, hP, hA, hB⟩
                  case measure => simp [intOf]; omega
        · have hca : ¬ (a : Int) < 12 := by omega
          obtain rfl : a = 12 := by omega
          rw [List.take_of_length_le (by rw [hD.len]; omega), hD.v, ← Nat.pow_succ] at hQ
          have hql : (nvs Q).length = 12 := by rw [nvs_len, hQ.len]
          have hpl : (nvs p).length = 12 := by rw [nvs_len, hD.len]
          have HQL := Lib.hid hql
          have HPL := Lib.hid hpl
          clear hql hpl
          go_wp2_with (first
            | ((with_reducible show wpList _ _ _ (⟨some 64, .load _ _, _, _, _, _⟩ :: _) _ _); refine wl_load rfl 65 _ rfl g7 0 rfl 65 (nvs Q) (nvs Q) hA (fun j v h => by rw [Nat.zero_add]; exact h) (.array 12 34) Try.underlying65 rfl (by rw [size12, HQL.out]) ?_)
            | ((with_reducible show wpList _ _ _ (⟨none, .store _ _ _, _, _, _, _⟩ :: _) _ _); refine wl_store rfl 65 _ _ rfl g5 0 rfl (nvs Q) rfl 65 _ hP (by rw [size12, HQL.out]) (by rw [HPL.out, HQL.out]; omega) (nvs_one _) ?_; intro w5 hA5 hg5 hs5))
          rw [whole_store _ _ (by rw [HPL.out, HQL.out])] at hA5
          go_roundw
          case rel => exact ⟨k + 1, Q, by omega, by go_num, hQ, hX.grown hg5 (by intro e; injection e with e; omega), hA5, hB.grown hg5 (by have := hP.lt; omega) (by intro i e; injection e with e; omega)⟩
          case measure => simp [intOf]; omega
    · have hc : ¬ (k : Int) < (n : Int) := by omega
      obtain rfl : k = n := by omega
      have hpl : (nvs p).length = 12 := by rw [nvs_len, hD.len]
      have HPL := Lib.hid hpl
      clear hpl
      go_wp2_with (first
        | ((with_reducible show wpList _ _ _ (⟨some 65, .load _ _, _, _, _, _⟩ :: _) _ _); refine wl_load rfl 65 _ rfl g5 0 rfl 65 (nvs p) (nvs p) hP (fun j v h => by rw [Nat.zero_add]; exact h) (.array 12 34) Try.underlying65 rfl (by rw [size12, HPL.out]) ?_)
        | ((with_reducible show wpList _ _ _ (⟨none, .store _ _ _, _, _, _, _⟩ :: _) _ _); refine wl_store rfl 65 _ _ rfl g4 0 rfl (nvs p) rfl 65 _ hX (by rw [size12, HPL.out]) (by rw [HPL.out]; exact Nat.le_refl 12) (nvs_one _) ?_; intro w5 hA5 hg5 hs5))
      refine end_cell rfl g4 65 (nvs p) (.array 12 34) rfl ?_ Try.underlying65 rfl (by rw [size12, HPL.out]) rfl ⟨⟨p, rfl, hD⟩, G4.out ▸ hB.grown hg5 (by have := hX.lt; omega) (by intro k e; injection e with e; omega)⟩
      rw [whole_store _ _ (by rw [HPL.out]; rfl)] at hA5
      exact hA5
end Go.Proofs.Ytgippimoklefnaa
