/-
  The answers' Same: whether two values are the same. Conditions: those in each statement.
-/
import Derived.Test.YtehlgflpkofooaaDoorJsonM
import Derived.Test.YtehlgflpkofooaaDoorJsonT
import Derived.Test.YtehlgflpkofooaaDoorArr
import Derived.WalkKit
import Derived.Lib.Hide
import Derived.Deep.DeepCutAuto
import Derived.Deep.CutBlock
import Derived.RegionTactic
import Derived.Deep.RegionHeld3
namespace Go.Proofs.YtehlgflpkofooaaDoor
open Go.RowKit

theorem bstr_beq (s t : List UInt8) : (bstr s == bstr t) = decide (s = t) := by
  show (s.toArray == t.toArray) = _
  rw [Bool.eq_iff_iff, beq_iff_eq, decide_eq_true_eq]
  constructor
  · intro h
    simpa using congrArg Array.toList h
  · rintro rfl
    rfl

theorem five (l : List Value) (h : l.length = 5) : ∃ a b c d e, l = [a, b, c, d, e] := by
  match l, h with
  | [a, b, c, d, e], _ => exact ⟨a, b, c, d, e, rfl⟩
set_option maxRecDepth 100000 in
set_option maxHeartbeats 1600000 in
theorem rSame_all : ∀ (N : Nat) (v v' : JV) (cs cs' : List Value) (w : World), SizeOf.sizeOf v ≤ N → RV w v cs → RV w v' cs' →
    Calls Tryd.prog 17 #[.agg cs.toArray, .agg cs'.toArray] w fun e w' => e = .returned (.bool (sameF v v')) ∧ Below w.heap.size w w' := by
  intro N
  induction N with
  | zero => intro v; intros; cases v; simp at *
  | succ N ih =>
    rintro ⟨k, s, n, l, ks⟩ ⟨k', s', n', l', ks'⟩ cs cs' w hN hv hv'
    unfold RV at hv hv'
    obtain ⟨a, c, b, d, rfl, ⟨hk0, hk1, hn⟩, hks, ⟨hlc, hcb⟩, hac, hl⟩ := hv
    obtain ⟨a', c', b', d', rfl, ⟨hk0', hk1', hn'⟩, hks', ⟨hlc', hcb'⟩, hac', hl'⟩ := hv'
    have hBB : ∀ A B : Array Value, Below w.heap.size w ((w.alloc (.cells A 26)).alloc (.cells B 26)) := fun A B => ((Below.refl _ w).alloc (Nat.le_refl _) _).alloc (by rw [World.size_alloc]; omega) _
    by_cases e1 : k = k'
    · subst e1
      by_cases e2 : s = s'
      · subst e2
        by_cases e3 : n = n'
        · subst e3
          by_cases e4 : l.length = l'.length
          · by_cases e5 : ks.length = ks'.length
            · have hsm : Hid (sameF (.mk k s n l ks) (.mk k s n l' ks') = (decide (ks = ks') && sameL l l')) := by show _ = _; unfold sameF; simp
              rw [hsm.out]
              obtain ⟨R, hR⟩ : ∃ R, R = (decide (ks = ks') && sameL l l') := ⟨_, rfl⟩
              rw [← hR]
              have HR := Lib.hid hR
              have hLb : l'.length ≤ 9223372036854775807 := by omega
              have hMb : ks'.length ≤ 9223372036854775807 := by have h1 := hks'.le; have h2 := hks'.big; omega
              have HLC := Lib.hid hlc
              have HLC' := Lib.hid hlc'
              clear hR hcb hcb'
              have e4i : (l.length : Int) = (l'.length : Int) := by omega
              have e5i : (ks.length : Int) = (ks'.length : Int) := by omega
              go_enter Tryd.func17, Tryd.ntmps17
              go_wp2_with fail
              obtain ⟨W0, hW0⟩ : ∃ W0, W0 = (w.alloc (.cells #[.int .i64 k, .string (bstr s), .int .u64 (n : Int), .slice a l'.length c, .slice b ks'.length d] 26)).alloc (.cells #[.int .i64 k, .string (bstr s), .int .u64 (n : Int), .slice a' l'.length c', .slice b' ks'.length d'] 26) := ⟨_, rfl⟩
              rw [← hW0]
              have hA0 : Arr W0 w.heap.size 26 [.int .i64 k, .string (bstr s), .int .u64 (n : Int), .slice a l'.length c, .slice b ks'.length d] := by
                rw [hW0]
                exact (Arr.new w _ _).kept ((Below.refl _ _).alloc (Nat.le_refl _) _)
              have hA1 : Arr W0 (w.heap.size + 1) 26 [.int .i64 k, .string (bstr s), .int .u64 (n : Int), .slice a' l'.length c', .slice b' ks'.length d'] := by
                have := Arr.new (w.alloc (.cells #[.int .i64 k, .string (bstr s), .int .u64 (n : Int), .slice a l'.length c, .slice b ks'.length d] 26)) 26 [.int .i64 k, .string (bstr s), .int .u64 (n : Int), .slice a' l'.length c', .slice b' ks'.length d']
                rw [World.size_alloc] at this
                rw [hW0]
                exact this
              have hB0 : Below w.heap.size w W0 := by rw [hW0]; exact hBB _ _
              have HKS : Hid (∀ W, Below w.heap.size w W → RStr W ks b d) := fun W h => hks.to h
              have HKS' : Hid (∀ W, Below w.heap.size w W → RStr W ks' b' d') := fun W h => hks'.to h
              have HL : Hid (0 < l.length → ∃ b off, a = some ⟨b, off, none⟩ ∧ b < w.heap.size ∧ RL w l b off) := hl
              have HL' : Hid (0 < l'.length → ∃ b off, a' = some ⟨b, off, none⟩ ∧ b < w.heap.size ∧ RL w l' b off) := hl'
              obtain ⟨g, hg⟩ : ∃ g, g = w.heap.size := ⟨_, rfl⟩
              rw [← hg] at hA0 hA1 hB0 HKS HKS' ⊢
              have HG := Lib.hid hg
              have IH := Lib.hid ih
              have HBE := Lib.hid e5i
              have HLE := Lib.hid e4i
              have HN := Lib.hid hN
              clear hg hW0 hks hks' hl hl' hBB ih hlc hlc' hac hac' e4 e4i e5i hsm hN
              have e5' : Hid (ks.length = ks'.length) := e5
              clear e5
              go_loopw [5] (fun i wr => ∃ m : Nat, m ≤ ks'.length ∧ i = .int .i64 m ∧ Arr wr g 26 [.int .i64 k, .string (bstr s), .int .u64 (n : Int), .slice a l'.length c, .slice b ks'.length d] ∧ Arr wr (g + 1) 26 [.int .i64 k, .string (bstr s), .int .u64 (n : Int), .slice a' l'.length c', .slice b' ks'.length d'] ∧ Below g w wr ∧ Hid (∀ j, j < m → ks.getD j [] = ks'.getD j [])) (fun i _ => ks'.length - (intOf i).toNat)
              case atStart => exact ⟨0, by omega, rfl, hA0, hA1, hB0, fun j hj => by omega⟩
              case round =>
                clear hA0 hA1 hB0
                obtain ⟨m, hm, rfl, hA0, hA1, hB, HE⟩ := hrel
                have c4 := (hA0.cell 4).trans (show _ = some (Value.slice b ks'.length d) from rfl)
                have c4' := (hA1.cell 4).trans (show _ = some (Value.slice b' ks'.length d') from rfl)
                by_cases hlt : m < ks'.length
                · have hc : (m : Int) < (ks'.length : Int) := by omega
                  obtain ⟨bb, off, rfl, hbb, hcb⟩ := (HKS.out wr hB).mem (by rw [e5'.out]; omega)
                  obtain ⟨bb', off', rfl, hbb', hcb'⟩ := (HKS'.out wr hB).mem (by omega)
                  have cx := hcb m (by rw [e5'.out]; exact hlt)
                  have cy := hcb' m hlt
                  have hmd : m < d := by have := (HKS.out wr hB).le; rw [e5'.out] at this; omega
                  have hmd' : m < d' := by have := (HKS'.out wr hB).le; omega
                  clear hcb hcb'
                  by_cases hxy : ks.getD m [] = ks'.getD m []
                  · have HXY := Lib.hid hxy
                    rw [hxy] at cx
                    clear hxy
                    generalize ks'.getD m [] = y at cx cy
                    go_upto_region 6 with fail
                    go_region
                    all_goals
                      go_wp2_with fail
                      go_roundw
                      case rel => exact ⟨m + 1, by omega, by go_num, hA0.drew, hA1.drew, hB.drew, fun j hj => by
                        by_cases hjm : j = m
                        · subst hjm; exact HXY.out
                        · exact HE.out j (by omega)⟩
                      case measure => simp [intOf] <;> omega
                  · have hf : Hid ((decide (ks = ks') && sameL l l') = false) := by show _ = _; rw [decide_eq_false (fun h => hxy (by rw [h])), Bool.false_and]
                    have hxl : ((bstr (ks.getD m [])).toList == (bstr (ks'.getD m [])).toList) = false := by rw [bstr_toList, bstr_toList]; exact beq_eq_false_iff_ne.2 hxy
                    clear hxy
                    generalize ks.getD m [] = x at cx hxl
                    generalize ks'.getD m [] = y at cy hxl
                    go_upto_region 6 with fail
                    go_region
                    all_goals
                      go_wp2_with fail
                      go_ret
                      exact ⟨by rw [show R = false from HR.out.trans hf.out]; rfl, HG.out ▸ hB.drew⟩
                · have hc : ¬ (m : Int) < (ks'.length : Int) := by omega
                  have hkk : ks = ks' := by
                    apply List.ext_getElem e5'.out
                    intro i h1 h2
                    have := HE.out i (by omega)
                    rw [List.getD_eq_getElem?_getD, List.getD_eq_getElem?_getD, List.getElem?_eq_getElem h1, List.getElem?_eq_getElem h2] at this
                    simpa using this
                  have HR2 : Hid (R = sameL l l') := by show _ = _; rw [HR.out, decide_eq_true hkk, Bool.true_and]
                  clear hkk HE hlt hm
                  go_wp2_with fail
                  clear c4 c4'
                  go_loopw [6] (fun i wr => ∃ m : Nat, m ≤ l'.length ∧ i = .int .i64 m ∧ Arr wr g 26 [.int .i64 k, .string (bstr s), .int .u64 (n : Int), .slice a l'.length c, .slice b ks'.length d] ∧ Arr wr (g + 1) 26 [.int .i64 k, .string (bstr s), .int .u64 (n : Int), .slice a' l'.length c', .slice b' ks'.length d'] ∧ Below g w wr ∧ Hid (∀ j x y, j < m → l[j]? = some x → l'[j]? = some y → x = y)) (fun i _ => l'.length - (intOf i).toNat)
                  case atStart => exact ⟨0, by omega, rfl, hA0, hA1, hB, fun j x y hj => by omega⟩
                  case round =>
                    clear hA0 hA1 hB
                    obtain ⟨m, hm, rfl, hA0, hA1, hB, HE⟩ := hrel
                    have c3 := (hA0.cell 3).trans (show _ = some (Value.slice a l'.length c) from rfl)
                    have c3' := (hA1.cell 3).trans (show _ = some (Value.slice a' l'.length c') from rfl)
                    by_cases hlt : m < l'.length
                    · have hc : (m : Int) < (l'.length : Int) := by omega
                      have hll : l.length = l'.length := by have := HLE.out; omega
                      have hwr : Below w.heap.size w wr := HG.out ▸ hB
                      obtain ⟨ab, ao, rfl, hab, hrl⟩ := HL.out (by omega)
                      obtain ⟨ab', ao', rfl, hab', hrl'⟩ := HL'.out (by omega)
                      obtain ⟨x, hx⟩ : ∃ x, l[m]? = some x := ⟨_, List.getElem?_eq_getElem (by omega)⟩
                      obtain ⟨y, hy⟩ : ∃ y, l'[m]? = some y := ⟨_, List.getElem?_eq_getElem hlt⟩
                      obtain ⟨cx, hcx, hcx2, hrx⟩ := rl_at l ab ao m x hrl hx
                      obtain ⟨cy, hcy, hcy2, hry⟩ := rl_at l' ab' ao' m y hrl' hy
                      obtain ⟨q0, q1, q2, q3, q4, rfl⟩ := five cx hcx
                      obtain ⟨r0, r1, r2, r3, r4, rfl⟩ := five cy hcy
                      have hIH : Hid (∀ W, Below g w W → Calls Tryd.prog 17 #[.agg #[q0, q1, q2, q3, q4], .agg #[r0, r1, r2, r3, r4]] W fun e w' => e = .returned (.bool (sameF x y)) ∧ Below W.heap.size W w') := fun W hW => IH.out x y [q0, q1, q2, q3, q4] [r0, r1, r2, r3, r4] W (by have := jv_mem (k := k) (s := s) (n := n) (ks := ks) (List.mem_of_getElem? hx); have := HN.out; omega) (rv_to (HG.out ▸ hW) _ _ hrx) (rv_to (HG.out ▸ hW) _ _ hry)
                      have hmc : m < c := by have := HLC.out; omega
                      have hmc' : m < c' := by have := HLC'.out; omega
                      have z := fun (j : Nat) (v : Value) (h : [q0, q1, q2, q3, q4][j]? = some v) (hj : j < 5) => (hwr.cell (p := ⟨ab, ao + (5 * m + j), none⟩) hab).trans ((hcx2 j hj).trans h)
                      have z' := fun (j : Nat) (v : Value) (h : [r0, r1, r2, r3, r4][j]? = some v) (hj : j < 5) => (hwr.cell (p := ⟨ab', ao' + (5 * m + j), none⟩) hab').trans ((hcy2 j hj).trans h)
                      have Z := Lib.hid z
                      have Z' := Lib.hid z'
                      have HXL := Lib.hid hx
                      have HYL := Lib.hid hy
                      clear z z' hcx hcx2 hcy hcy2 hrx hry hrl hrl' hll hx hy
                      have qc0 : wr.cell? ⟨ab, ao + m * 5, none⟩ = some q0 := by rw [show ao + m * 5 = ao + (5 * m + 0) by omega]; exact Z.out 0 _ rfl (by omega)
                      have qc1 : wr.cell? ⟨ab, ao + m * 5 + 1, none⟩ = some q1 := by rw [show ao + m * 5 + 1 = ao + (5 * m + 1) by omega]; exact Z.out 1 _ rfl (by omega)
                      have qc2 : wr.cell? ⟨ab, ao + m * 5 + 2, none⟩ = some q2 := by rw [show ao + m * 5 + 2 = ao + (5 * m + 2) by omega]; exact Z.out 2 _ rfl (by omega)
                      have qc3 : wr.cell? ⟨ab, ao + m * 5 + 3, none⟩ = some q3 := by rw [show ao + m * 5 + 3 = ao + (5 * m + 3) by omega]; exact Z.out 3 _ rfl (by omega)
                      have qc4 : wr.cell? ⟨ab, ao + m * 5 + 4, none⟩ = some q4 := by rw [show ao + m * 5 + 4 = ao + (5 * m + 4) by omega]; exact Z.out 4 _ rfl (by omega)
                      have rc0 : wr.cell? ⟨ab', ao' + m * 5, none⟩ = some r0 := by rw [show ao' + m * 5 = ao' + (5 * m + 0) by omega]; exact Z'.out 0 _ rfl (by omega)
                      have rc1 : wr.cell? ⟨ab', ao' + m * 5 + 1, none⟩ = some r1 := by rw [show ao' + m * 5 + 1 = ao' + (5 * m + 1) by omega]; exact Z'.out 1 _ rfl (by omega)
                      have rc2 : wr.cell? ⟨ab', ao' + m * 5 + 2, none⟩ = some r2 := by rw [show ao' + m * 5 + 2 = ao' + (5 * m + 2) by omega]; exact Z'.out 2 _ rfl (by omega)
                      have rc3 : wr.cell? ⟨ab', ao' + m * 5 + 3, none⟩ = some r3 := by rw [show ao' + m * 5 + 3 = ao' + (5 * m + 3) by omega]; exact Z'.out 3 _ rfl (by omega)
                      have rc4 : wr.cell? ⟨ab', ao' + m * 5 + 4, none⟩ = some r4 := by rw [show ao' + m * 5 + 4 = ao' + (5 * m + 4) by omega]; exact Z'.out 4 _ rfl (by omega)
                      have HLT0 : Hid (g < wr.heap.size) := hA0.lt
                      have HLT1 : Hid (g + 1 < wr.heap.size) := hA1.lt
                      have HLTA : Hid (ab < wr.heap.size) := Nat.lt_of_lt_of_le hab hwr.size
                      have HLTB : Hid (ab' < wr.heap.size) := Nat.lt_of_lt_of_le hab' hwr.size
                      go_upto_region 11 with fail
                      go_region_held3 (fun w' => w'.cell? ⟨g, 3, none⟩ = some (.slice (some ⟨ab, ao, none⟩) l'.length c) ∧ w'.cell? ⟨g + 1, 3, none⟩ = some (.slice (some ⟨ab', ao', none⟩) l'.length c') ∧ w'.cell? ⟨ab, ao + m * 5, none⟩ = some q0 ∧ w'.cell? ⟨ab, ao + m * 5 + 1, none⟩ = some q1 ∧ w'.cell? ⟨ab, ao + m * 5 + 2, none⟩ = some q2 ∧ w'.cell? ⟨ab, ao + m * 5 + 3, none⟩ = some q3 ∧ w'.cell? ⟨ab, ao + m * 5 + 4, none⟩ = some q4 ∧ w'.cell? ⟨ab', ao' + m * 5, none⟩ = some r0 ∧ w'.cell? ⟨ab', ao' + m * 5 + 1, none⟩ = some r1 ∧ w'.cell? ⟨ab', ao' + m * 5 + 2, none⟩ = some r2 ∧ w'.cell? ⟨ab', ao' + m * 5 + 3, none⟩ = some r3 ∧ w'.cell? ⟨ab', ao' + m * 5 + 4, none⟩ = some r4) (first | exact ⟨(hb3.cell (p := ⟨g, 3, none⟩) HLT0.out).trans c3, (hb3.cell (p := ⟨g + 1, 3, none⟩) HLT1.out).trans c3', (hb3.cell (p := ⟨ab, ao + m * 5, none⟩) HLTA.out).trans qc0, (hb3.cell (p := ⟨ab, ao + m * 5 + 1, none⟩) HLTA.out).trans qc1, (hb3.cell (p := ⟨ab, ao + m * 5 + 2, none⟩) HLTA.out).trans qc2, (hb3.cell (p := ⟨ab, ao + m * 5 + 3, none⟩) HLTA.out).trans qc3, (hb3.cell (p := ⟨ab, ao + m * 5 + 4, none⟩) HLTA.out).trans qc4, (hb3.cell (p := ⟨ab', ao' + m * 5, none⟩) HLTB.out).trans rc0, (hb3.cell (p := ⟨ab', ao' + m * 5 + 1, none⟩) HLTB.out).trans rc1, (hb3.cell (p := ⟨ab', ao' + m * 5 + 2, none⟩) HLTB.out).trans rc2, (hb3.cell (p := ⟨ab', ao' + m * 5 + 3, none⟩) HLTB.out).trans rc3, (hb3.cell (p := ⟨ab', ao' + m * 5 + 4, none⟩) HLTB.out).trans rc4⟩ | go_keep) (first | (go_at_call 17; refine (hIH.out _ ?_).mono ?_; (exact hB.drew); rintro e w3 ⟨rfl, hb3⟩))
                      have hA3 : Arr w3 g 26 [.int .i64 k, .string (bstr s), .int .u64 (n : Int), .slice (some ⟨ab, ao, none⟩) l'.length c, .slice b ks'.length d] := hA0.drew.kept hb3
                      have hA3' : Arr w3 (g + 1) 26 [.int .i64 k, .string (bstr s), .int .u64 (n : Int), .slice (some ⟨ab', ao', none⟩) l'.length c', .slice b' ks'.length d'] := hA1.drew.kept hb3
                      have hB3 : Below g w w3 := hB.drew.trans (hb3.mono (Nat.le_of_lt HLT0.out))
                      clear hb3 c3 c3' hA0 hA1 hB Z Z' qc0 qc1 qc2 qc3 qc4 rc0 rc1 rc2 rc3 rc4
                      cases hxy : sameF x y with
                      | true =>
                        have HXY : Hid (x = y) := (same_eq x y).1 hxy
                        clear hxy
                        go_wp2_with fail
                        go_roundw
                        case rel => exact ⟨m + 1, by omega, by go_num, hA3, hA3', hB3, fun j x' y' hj hx' hy' => by
                          by_cases hjm : j = m
                          · subst hjm
                            rw [HXL.out] at hx'
                            rw [HYL.out] at hy'
                            cases hx'
                            cases hy'
                            exact HXY.out
                          · exact HE.out j x' y' (by omega) hx' hy'⟩
                        case measure => simp [intOf] <;> omega
                      | false =>
                        have HF : Hid (R = false) := by
                          show _ = _
                          rw [HR2.out]
                          cases hsl : sameL l l' with
                          | false => rfl
                          | true =>
                            have e := (sameL_eq l l').1 hsl
                            have h1 := HXL.out
                            have h2 := HYL.out
                            rw [e] at h1
                            rw [h1] at h2
                            cases h2
                            rw [(same_eq x x).2 rfl] at hxy
                            cases hxy
                        clear hxy
                        go_wp2_with fail
                        go_ret
                        exact ⟨by rw [HF.out]; rfl, HG.out ▸ hB3⟩
                    · have hc : ¬ (m : Int) < (l'.length : Int) := by omega
                      have HT : Hid (R = true) := by
                        show _ = _
                        rw [HR2.out, sameL_eq]
                        have hll : l.length = l'.length := by have := HLE.out; omega
                        apply List.ext_getElem hll
                        intro i h1 h2
                        exact HE.out i _ _ (by omega) (List.getElem?_eq_getElem h1) (List.getElem?_eq_getElem h2)
                      clear hlt hm
                      go_wp2_with fail
                      go_ret
                      exact ⟨by rw [HT.out]; rfl, HG.out ▸ hB⟩
            · have hs : Hid (sameF (.mk k s n l ks) (.mk k s n l' ks') = false) := by show _ = _; unfold sameF; rw [decide_eq_false (fun h : ks = ks' => e5 (by rw [h]))]; simp
              have e4i : (l.length : Int) = (l'.length : Int) := by omega
              have e5i : ¬ (ks.length : Int) = (ks'.length : Int) := by omega
              rw [hs.out]
              clear ih hl hl' hks hks'
              go_enter Tryd.func17, Tryd.ntmps17
              go_wp2_with fail
              go_ret
              exact ⟨rfl, hBB _ _⟩
          · have hs : Hid (sameF (.mk k s n l ks) (.mk k s n l' ks') = false) := by
              show _ = _
              cases h : sameF (.mk k s n l ks) (.mk k s n l' ks') with
              | false => rfl
              | true =>
                have := (same_eq _ _).1 h
                cases this
                exact absurd rfl e4
            have e4i : ¬ (l.length : Int) = (l'.length : Int) := by omega
            rw [hs.out]
            clear ih hl hl' hks hks'
            go_enter Tryd.func17, Tryd.ntmps17
            go_wp2_with fail
            go_ret
            exact ⟨rfl, hBB _ _⟩
        · have hs : Hid (sameF (.mk k s n l ks) (.mk k s n' l' ks') = false) := by show _ = _; unfold sameF; rw [decide_eq_false e3]; simp
          have e3i : ¬ (n : Int) = (n' : Int) := by omega
          rw [hs.out]
          clear ih hl hl' hks hks'
          go_enter Tryd.func17, Tryd.ntmps17
          go_wp2_with fail
          go_ret
          exact ⟨rfl, hBB _ _⟩
      · have hs : Hid (sameF (.mk k s n l ks) (.mk k s' n' l' ks') = false) := by show _ = _; unfold sameF; rw [decide_eq_false e2]; simp
        have e2b : ¬ (bstr s).toList = (bstr s').toList := by rw [bstr_toList, bstr_toList]; exact e2
        rw [hs.out]
        clear ih hl hl' hks hks'
        go_enter Tryd.func17, Tryd.ntmps17
        go_wp2_with fail
        go_ret
        exact ⟨rfl, hBB _ _⟩
    · have hs : Hid (sameF (.mk k s n l ks) (.mk k' s' n' l' ks') = false) := by show _ = _; unfold sameF; rw [decide_eq_false e1]; rfl
      rw [hs.out]
      clear ih hl hl' hks hks'
      go_enter Tryd.func17, Tryd.ntmps17
      go_wp2_with fail
      go_ret
      exact ⟨rfl, hBB _ _⟩

theorem rSame_any (v v' : JV) (cs cs' : List Value) (w : World) (h : RV w v cs) (h' : RV w v' cs') :
    Calls Tryd.prog 17 #[.agg cs.toArray, .agg cs'.toArray] w fun e w' => e = .returned (.bool (sameF v v')) ∧ Below w.heap.size w w' :=
  rSame_all (SizeOf.sizeOf v) v v' cs cs' w (Nat.le_refl _) h h'
end Go.Proofs.YtehlgflpkofooaaDoor
