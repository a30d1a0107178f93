/-
  Layer 4: a value's member, as the document has it. Conditions: those in each statement.
-/
import Derived.Test.YtighbdhjegklbaaDoorJyE
import Derived.Deep.CutBlock
import Derived.Deep.CutRange
import Derived.Deep.DeepCutAuto
namespace Go.Proofs.YtighbdhjegklbaaDoor
open Go.RowKit

theorem rv_zero (w : World) : RV w JV.zero [.int .i64 0, .string ⟨#[]⟩, .int .u64 0, .slice none 0 0, .slice none 0 0] := by
  unfold JV.zero RV
  exact ⟨none, 0, none, 0, rfl, by omega, ⟨by simp, by omega, fun _ => rfl, fun h => by simp at h⟩, ⟨by simp, by omega⟩, fun _ => rfl, fun h => by simp at h⟩
theorem idx_some : ∀ (ks : List (List UInt8)) (x : List UInt8) (q : Nat), q < ks.length → (∀ i, i < q → ks.getD i [] ≠ x) → ks.getD q [] = x → idxF ks x = some q
  | [], _, _, h, _, _ => by simp at h
  | k :: r, x, 0, _, _, e => by
    have e' : k = x := e
    unfold idxF
    rw [if_pos e']
  | k :: r, x, q + 1, h, hn, e => by
    have h0 : ¬ k = x := hn 0 (by omega)
    have ih := idx_some r x q (by simpa using h) (fun i hi => hn (i + 1) (by omega)) e
    unfold idxF
    rw [if_neg h0, ih]
    rfl
theorem idx_none : ∀ (ks : List (List UInt8)) (x : List UInt8), (∀ i, i < ks.length → ks.getD i [] ≠ x) → idxF ks x = none
  | [], _, _ => rfl
  | k :: r, x, hn => by
    have h0 : ¬ k = x := hn 0 (by simp)
    have ih := idx_none r x (fun i hi => hn (i + 1) (by simp; omega))
    unfold idxF
    rw [if_neg h0, ih]
    rfl

def ZR : List Value := [.int .i64 0, .string ⟨#[]⟩, .int .u64 0, .slice none 0 0, .slice none 0 0]
theorem built_ZR : Tryd.prog.built 26 [] = some ZR.toArray := by kernel_rfl

set_option maxRecDepth 100000 in
set_option maxHeartbeats 1600000 in
theorem rGet_any (v : JV) (cs : List Value) (key : List UInt8) (w : World) (hv : RV w v cs) :
    Calls Tryd.prog 14 #[.agg cs.toArray, .string (bstr key)] w fun e w' => ∃ cx, e = .returned (.tuple #[.agg cx.toArray, .bool (getF v key).isSome]) ∧ RV w' ((getF v key).getD JV.zero) cx ∧ Below w.heap.size w w' := by
  obtain ⟨k, s, n, l, ks⟩ := v
  unfold RV at hv
  obtain ⟨a, c, b, d, rfl, ⟨hk0, hk1, hn⟩, hks, ⟨hlc, hcb⟩, hac, hl⟩ := hv
  obtain ⟨RES, hRES⟩ : ∃ RES, RES = getF (.mk k s n l ks) key := ⟨_, rfl⟩
  rw [← hRES]
  have HRES := Lib.hid hRES
  clear hRES
  have hz : RES = none → ∀ W, RV W (RES.getD JV.zero) ZR := fun e W => by rw [e]; exact rv_zero W
  have HZ := Lib.hid hz
  clear hz
  go_enter Tryd.func14, Tryd.ntmps14
  go_upto_region 1 with fail
  obtain ⟨W0, hW0⟩ : ∃ W0, W0 = (w.alloc (.cells #[.int .i64 k, .string (bstr s), .int .u64 (n : Int), .slice a l.length c, .slice b ks.length d] 26)).alloc (.cells #[.int .i64 0, .string ⟨#[]⟩, .int .u64 0, .slice none 0 0, .slice none 0 0] 26) := ⟨_, rfl⟩
  rw [← hW0]
  have hR0 : Arr W0 (w.heap.size + 1) 26 [.int .i64 0, .string ⟨#[]⟩, .int .u64 0, .slice none 0 0, .slice none 0 0] := by
    rw [hW0]
    have := Arr.new (w.alloc (.cells #[.int .i64 k, .string (bstr s), .int .u64 (n : Int), .slice a l.length c, .slice b ks.length d] 26)) 26 [.int .i64 0, .string ⟨#[]⟩, .int .u64 0, .slice none 0 0, .slice none 0 0]
    rw [World.size_alloc] at this
    exact this
  have hA0 : Arr W0 w.heap.size 26 [.int .i64 k, .string (bstr s), .int .u64 (n : Int), .slice a l.length c, .slice b ks.length d] := by
    rw [hW0]
    exact (Arr.new w _ _).kept ((Below.refl _ _).alloc (Nat.le_refl _) _)
  have hB0 : Below w.heap.size w W0 := by rw [hW0]; exact ((Below.refl _ w).alloc (Nat.le_refl _) _).alloc (by simp) _
  have hS0 : W0.heap.size = w.heap.size + 2 := by rw [hW0]; simp
  generalize Value.agg #[.int .i64 k, .string (bstr s), .int .u64 (n : Int), .slice a l.length c, .slice b ks.length d] = V0
  obtain ⟨g, hg⟩ : ∃ g, g = w.heap.size := ⟨_, rfl⟩
  rw [← hg] at hA0 hB0 hR0 hS0 ⊢
  have HG := Lib.hid hg
  have HS0 := Lib.hid hS0
  have HLC := Lib.hid hlc
  have HLB : l.length ≤ 9223372036854775807 := by omega
  have HKB : ks.length ≤ 9223372036854775807 := by have h1 := hks.le; have h2 := hks.big; omega
  have HKD := Lib.hid hks.le
  have HKS : Hid (RStr W0 ks b d) := hks.to (hg ▸ hB0)
  have HL : Hid (0 < l.length → ∃ b off, a = some ⟨b, off, none⟩ ∧ b < w.heap.size ∧ RL w l b off) := hl
  clear hg hW0 hks hl hlc hcb hac hS0
  have c0 := (hA0.cell 0).trans (show _ = some (Value.int .i64 k) from rfl)
  have c3 := (hA0.cell 3).trans (show _ = some (Value.slice a l.length c) from rfl)
  have c4 := (hA0.cell 4).trans (show _ = some (Value.slice b ks.length d) from rfl)
  generalize hln : l.length = LN at *
  generalize hkn : ks.length = KN at *
  have HLN := Lib.hid hln
  have HKN := Lib.hid hkn
  clear hln hkn
  by_cases h6 : k = 6
  · subst h6
    by_cases hll : KN = LN
    · subst hll
      have hget : Hid (RES = (idxF ks key).bind fun i => l[i]?) := by show _ = _; rw [HRES.out, getF_eq, if_pos ⟨rfl, by rw [HKN.out, HLN.out]⟩]
      clear HRES
      go_wp2_with fail
      go_loopw [6] (fun i wr => ∃ q : Nat, q ≤ KN ∧ i = .int .i64 (q : Int) ∧ wr = W0 ∧ Hid (∀ i, i < q → ks.getD i [] ≠ key)) (fun i _ => KN - (intOf i).toNat)
      case atStart => exact ⟨0, Nat.zero_le _, rfl, rfl, fun i hi => by omega⟩
      case round =>
        obtain ⟨q, hq, rfl, hwr, HE⟩ := hrel
        obtain rfl := hwr
        by_cases hlt : q < KN
        · have hc : (q : Int) < (KN : Int) := by omega
          have hq0 : (0 : Int) ≤ (q : Int) := by omega
          obtain ⟨bb, bo, rfl, hbb, hcb⟩ := HKS.out.mem (by rw [HKN.out]; omega)
          have cq := hcb q (by rw [HKN.out]; exact hlt)
          obtain ⟨y, hy⟩ : ∃ y, y = ks.getD q [] := ⟨_, rfl⟩
          rw [← hy] at cq
          have HY := Lib.hid hy
          have HLT := Lib.hid hlt
          have HQC : q < d := by have := HKD.out; have := HKN.out; omega
          clear hcb hbb hy hlt
          by_cases hxy : y = key
          · have hix : idxF ks key = some q := idx_some ks key q (by rw [HKN.out]; exact HLT.out) HE.out (by rw [← HY.out]; exact hxy)
            obtain ⟨x, hx⟩ : ∃ x, l[q]? = some x := ⟨_, List.getElem?_eq_getElem (by rw [HLN.out]; exact HLT.out)⟩
            have hres : RES = some x := by rw [hget.out, hix]; exact hx
            obtain ⟨ab, ao, rfl, hab, hrl⟩ := HL.out (by omega)
            obtain ⟨cx, hcx, hcx2, hrx⟩ := rl_at l ab ao q x hrl hx
            have HRX := Lib.hid hrx
            have HCX := Lib.hid hcx
            have hone : ∀ v ∈ cx, v.oneCell' = true := by
              obtain ⟨xk, xs, xn, xl, xks⟩ := x
              unfold RV at hrx
              obtain ⟨xa, xc, xb, xd, e, -⟩ := hrx
              rw [e]
              simp [Value.oneCell']
            have HONE := Lib.hid hone
            have HRNG : Hid (wr.rangeAt ab (ao + q * 5) cx) := fun j v hv => by
              have hj : j < 5 := by rw [← hcx]; exact (List.getElem?_eq_some_iff.1 hv).1
              rw [show ao + q * 5 + j = ao + (5 * q + j) by omega]
              exact ((HG.out ▸ hB0).cell (p := ⟨ab, ao + (5 * q + j), none⟩) hab).trans ((hcx2 j hj).trans hv)
            have hmc : q < c := by have := HLC.out; have := HLT.out; omega
            have hsome : Hid (RES.isSome = true) := by show _ = _; rw [hres]; rfl
            have hval : Hid (RES.getD JV.zero = x) := by show _ = _; rw [hres]; rfl
            subst hxy
            clear hix hx hres hrl hcx hcx2 hrx hone hab
            go_wp2_with (first
              | ((with_reducible show wpList _ _ _ (⟨some 37, _, _, _, _, _⟩ :: _) _ _); refine wpList_load_mid rfl 26 _ rfl ab (ao + q * 5) rfl cx _ HRNG.out Tryd.underlying26 rfl (by rw [HCX.out]; kernel_rfl) ?_)
              | ((with_reducible show wpList _ _ _ (⟨none, _, _, _, _, _⟩ :: _) _ _); refine wl_store rfl 26 _ _ rfl (g + 1) 0 rfl cx rfl 26 _ hR0 (by rw [HCX.out]; kernel_rfl) (by rw [HCX.out]; decide) HONE.out ?_; intro W1 hR1 hg1 hs1))
            rw [whole_store _ _ (by rw [HCX.out]; rfl)] at hR1
            have hb0 := HG.out ▸ hB0
            have hb1 : Below w.heap.size w W1 := hb0.grown hg1 hb0.size (fun k hk => by cases hk; have := HG.out; omega)
            exact end_cell2 rfl (g + 1) 26 _ _ _ rfl hR1 Tryd.underlying26 rfl (by rw [HCX.out]; kernel_rfl) rfl rfl ⟨cx, by rw [hsome.out]; rfl, by rw [hval.out]; exact rv_to hb1 _ _ HRX.out, hb1⟩
          · have hxl : ((bstr y).toList == (bstr key).toList) = false := by rw [bstr_toList, bstr_toList]; exact beq_eq_false_iff_ne.2 hxy
            have HXY := Lib.hid hxy
            clear hxy
            go_wp2_with fail
            go_roundw
            case rel => exact ⟨q + 1, HLT.out, by go_num, trivial, fun i hi => by
              by_cases hiq : i = q
              · subst hiq; rw [← HY.out]; exact HXY.out
              · exact HE.out i (by omega)⟩
            case measure => simp [intOf]; have := HLT.out; omega
        · have hc : ¬ (q : Int) < (KN : Int) := by omega
          obtain rfl : q = KN := by omega
          have hres : RES = none := by rw [hget.out, idx_none ks key (fun i hi => HE.out i (by rw [HKN.out] at hi; exact hi))]; rfl
          have hsome : Hid (RES.isSome = false) := by show _ = _; rw [hres]; rfl
          have hrv := HZ.out hres
          clear hlt hc hres
          go_wp2_with (first
            | ((with_reducible show wpList _ _ _ (⟨some 38, .build _ _, _, _, _, _⟩ :: _) _ _); refine wpList_buildTo rfl 26 _ rfl (some 38) rfl ZR.toArray (by simpa [Act.eval] using built_ZR) ?_)
            | ((with_reducible show wpList _ _ _ (⟨none, _, _, _, _, _⟩ :: _) _ _); refine wl_store rfl 26 _ _ rfl (g + 1) 0 rfl ZR rfl 26 _ hR0 (by kernel_rfl) (by decide) (by decide) ?_; intro W1 hR1 hg1 hs1))
          have hR1 : Arr W1 (g + 1) 26 ZR := hR1
          have hb0 := HG.out ▸ hB0
          have hb1 : Below w.heap.size w W1 := hb0.grown hg1 hb0.size (fun k hk => by cases hk; have := HG.out; omega)
          exact end_cell2 rfl (g + 1) 26 _ _ _ rfl hR1 Tryd.underlying26 rfl (by kernel_rfl) rfl rfl ⟨ZR, by rw [hsome.out]; rfl, hrv _, hb1⟩
    · have hres : RES = none := by rw [HRES.out, getF_eq, if_neg (fun h => hll (by rw [← HKN.out, ← HLN.out]; exact h.2))]
      have hsome : Hid (RES.isSome = false) := by show _ = _; rw [hres]; rfl
      have hrv := HZ.out hres
      have hne : ((KN : Int) == (LN : Int)) = false := beq_eq_false_iff_ne.2 (by omega)
      clear hll hres
      go_wp2_with (first
        | ((with_reducible show wpList _ _ _ (⟨some 38, .build _ _, _, _, _, _⟩ :: _) _ _); refine wpList_buildTo rfl 26 _ rfl (some 38) rfl ZR.toArray (by simpa [Act.eval] using built_ZR) ?_)
        | ((with_reducible show wpList _ _ _ (⟨none, _, _, _, _, _⟩ :: _) _ _); refine wl_store rfl 26 _ _ rfl (g + 1) 0 rfl ZR rfl 26 _ hR0 (by kernel_rfl) (by decide) (by decide) ?_; intro W1 hR1 hg1 hs1))
      have hR1 : Arr W1 (g + 1) 26 ZR := hR1
      have hb0 := HG.out ▸ hB0
      have hb1 : Below w.heap.size w W1 := hb0.grown hg1 hb0.size (fun k hk => by cases hk; have := HG.out; omega)
      exact end_cell2 rfl (g + 1) 26 _ _ _ rfl hR1 Tryd.underlying26 rfl (by kernel_rfl) rfl rfl ⟨ZR, by rw [hsome.out]; rfl, hrv _, hb1⟩
  · have hres : RES = none := by rw [HRES.out, getF_eq, if_neg (fun h => h6 h.1)]
    have hsome : Hid (RES.isSome = false) := by show _ = _; rw [hres]; rfl
    have hrv := HZ.out hres
    have hne : (k == 6) = false := beq_eq_false_iff_ne.2 h6
    clear h6 hres
    go_wp2_with (first
      | ((with_reducible show wpList _ _ _ (⟨some 38, .build _ _, _, _, _, _⟩ :: _) _ _); refine wpList_buildTo rfl 26 _ rfl (some 38) rfl ZR.toArray (by simpa [Act.eval] using built_ZR) ?_)
      | ((with_reducible show wpList _ _ _ (⟨none, _, _, _, _, _⟩ :: _) _ _); refine wl_store rfl 26 _ _ rfl (g + 1) 0 rfl ZR rfl 26 _ hR0 (by kernel_rfl) (by decide) (by decide) ?_; intro W1 hR1 hg1 hs1))
    have hR1 : Arr W1 (g + 1) 26 ZR := hR1
    have hb0 := HG.out ▸ hB0
    have hb1 : Below w.heap.size w W1 := hb0.grown hg1 hb0.size (fun k hk => by cases hk; have := HG.out; omega)
    exact end_cell2 rfl (g + 1) 26 _ _ _ rfl hR1 Tryd.underlying26 rfl (by kernel_rfl) rfl rfl ⟨ZR, by rw [hsome.out]; rfl, hrv _, hb1⟩
end Go.Proofs.YtighbdhjegklbaaDoor
