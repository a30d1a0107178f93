/-
  The program's may: whether a value may be. Conditions: those in each statement.
-/
import Derived.Test.YtehlgflpkofooaaDoorJsonO
namespace Go.Proofs.YtehlgflpkofooaaDoor
open Go.RowKit

theorem may_f {w w' : World} {B around : Nat} {ps : List (Value × Value)} {R : Bool} (hR : R = false) (hb : Below w.heap.size w w') : MayPost w B around ps R (.returned (.bool false)) w' :=
  ⟨by rw [hR], gb hb _, fun h => by rw [hR] at h; cases h⟩
theorem may_t {w w' : World} {B around : Nat} {ps : List (Value × Value)} {R : Bool} (hR : R = true) (hM : MapR GDeep w B ps) (hG : GoodM w around ps) (hb : Below w.heap.size w w') : MayPost w B around ps R (.returned (.bool true)) w' :=
  post_same (by rw [hR]) hM hG hb

theorem mayL_iff : ∀ (l : List JV) (m : Nat), mayL l m = true ↔ ∀ (j : Nat) (u : JV), l[j]? = some u → mayF u m = true
  | [], m => by unfold mayL; simp
  | v :: r, m => by
    unfold mayL
    rw [Bool.and_eq_true, mayL_iff r m]
    constructor
    · rintro ⟨h1, h2⟩ j u hj
      cases j with
      | zero => cases hj; exact h1
      | succ j => exact h2 j u (by simpa using hj)
    · exact fun h => ⟨h 0 v rfl, fun j u hj => h (j + 1) u (by simpa using hj)⟩
theorem pv_shape {w : World} {v : JV} {cs : List Value} (h : PV w v cs) : ∃ (k : Int) (s : ByteArray) (n : Int) (a : Option Addr) (l c : Nat) (b : Option Addr) (m d : Nat), cs = [.int .i64 k, .string s, .int .u64 n, .slice a l c, .slice b m d] := by
  obtain ⟨k, s, n, l, ks⟩ := v
  unfold PV at h
  obtain ⟨a, c, a', c', rfl, -⟩ := h
  exact ⟨_, _, _, _, _, _, _, _, _, rfl⟩
theorem gb_trans {a b c : World} {r : Option Nat} (h : a.grownBy b r) (k : b.grownBy c r) : a.grownBy c r :=
  ⟨k.os.trans h.os, k.tape.trans h.tape, k.output.trans h.output, Nat.le_trans h.size k.size, fun i hi hr => (k.block i (Nat.lt_of_lt_of_le hi h.size) hr).trans (h.block i hi hr)⟩
theorem ck_gb {G : World → Value → Prop} {w w' : World} {B : Nat} {ps : List (Value × Value)} (h : MapR G w B ps) (hg : w.grownBy w' (some B)) : CellsKept w w' := by
  obtain ⟨es, cl, hb, -⟩ := h
  exact CellsKept.of_grown hg hb

set_option maxRecDepth 100000 in
set_option maxHeartbeats 4000000 in
theorem may_all : ∀ (N : Nat) (v : JV) (cs : List Value) (w : World) (B around : Nat) (ps : List (Value × Value)), SizeOf.sizeOf v ≤ N → PV w v cs → smallV v 9223372036854775000 → around ≤ 8 → Tabs w → MapR GDeep w B ps → GoodM w around ps →
    Calls Tryd.prog 27 #[.agg cs.toArray, .int .i64 (around : Int), .map (some B)] w (MayPost w B around ps (mayF v (8 - around))) := by
  intro N
  induction N with
  | zero => intro v; intros; cases v; simp at *
  | succ N ih =>
    rintro ⟨k, s, n, l, ks⟩ cs w B around ps hN hv hsm har hT hM hG
    unfold PV at hv
    obtain ⟨a, c, b, d, rfl, ⟨hk0, hk1, hn⟩, hks, ⟨hlc, hcb⟩, hac, hl⟩ := hv
    unfold smallV at hsm
    obtain ⟨hss, hsk, hsl⟩ := hsm
    rw [may_split]
    obtain ⟨R, hR⟩ : ∃ R, R = (fitsB k n s.length l.length ks.length && utf8F s && ((!(decide (k = 5) || decide (k = 6))) || (decide (0 < 8 - around) && ((!decide (k = 6)) || (decide (ks.length = l.length) && ks.all utf8F && apartF ks)) && mayL l (8 - around - 1)))) := ⟨_, rfl⟩
    rw [← hR]
    have HR := Lib.hid hR
    have HKS : Hid (∀ W, Below w.heap.size w W → RStr W ks b d) := fun W h => hks.to h
    have HL : Hid (0 < l.length → ∃ b off, a = some ⟨b, off, none⟩ ∧ PlainB w b ∧ PL w l b off) := hl
    have HT : Hid (∀ W, Below w.heap.size w W → Tabs W) := fun W h => hT.to h
    have HM := Lib.hid hM
    have HG := Lib.hid hG
    have IH := Lib.hid ih
    have HSL := Lib.hid hsl
    have HSK := Lib.hid hsk
    have HN := Lib.hid hN
    clear hR hks hl hT hM hG ih hsl hsk hN
    have hfits : Hid (∀ W, Calls Tryd.prog 42 #[.agg #[.int .i64 k, .string (bstr s), .int .u64 (n : Int), .slice a l.length c, .slice b ks.length d]] W fun e w' => e = .returned (.bool (fitsB k n s.length l.length ks.length)) ∧ Below W.heap.size W w') := fun W => fitsKind_any k s n l.length c ks.length d a b W
    have hval : Hid (∀ W, Below w.heap.size w W → Calls Tryd.prog 43 #[.string (bstr s)] W fun e w' => e = .returned (.bool (utf8F s)) ∧ Below W.heap.size W w') := fun W hW => validString_any s W (by omega) (HT.out W hW)
    have HFB : Hid (fitsB k n s.length l.length ks.length = true → (l.length = 0 ∨ k = 5 ∨ k = 6) ∧ (ks.length = 0 ∨ k = 6)) := by
      show _ → _
      unfold fitsB
      simp only [Bool.and_eq_true, Bool.or_eq_true, decide_eq_true_eq]
      rintro ⟨⟨⟨⟨⟨h1, h2⟩, h3⟩, h4⟩, h5⟩, h6⟩
      exact ⟨h5, h6⟩
    obtain ⟨F, hF⟩ : ∃ F, F = fitsB k n s.length l.length ks.length := ⟨_, rfl⟩
    rw [← hF] at hfits HR HFB
    clear hF
    obtain ⟨U, hU⟩ : ∃ U, U = utf8F s := ⟨_, rfl⟩
    rw [← hU] at hval HR
    clear hU
    cases F with
    | false =>
      have HF : Hid (R = false) := by show _ = _; rw [HR.out]; simp
      go_enter Tryd.func27, Tryd.ntmps27
      go_wp2_with (go_at_call 42; refine (hfits.out _).mono ?_; rintro e w1 ⟨rfl, hb1⟩)
      go_ret
      exact may_f HF.out (((Below.refl _ _).alloc (Nat.le_refl _) _).trans (hb1.mono (by simp)))
    | true =>
      obtain ⟨W0, hW0⟩ : ∃ W0, W0 = w.alloc (.cells #[.int .i64 k, .string (bstr s), .int .u64 (n : Int), .slice a l.length c, .slice b ks.length d] 30) := ⟨_, rfl⟩
      obtain ⟨g, hg⟩ : ∃ g, g = w.heap.size := ⟨_, rfl⟩
      have hA0 : Arr W0 g 30 [.int .i64 k, .string (bstr s), .int .u64 (n : Int), .slice a l.length c, .slice b ks.length d] := by
        rw [hW0, hg]
        exact Arr.new w _ _
      have hB0 : Below w.heap.size w W0 := by rw [hW0]; exact (Below.refl _ _).alloc (Nat.le_refl _) _
      cases U with
      | false =>
        have HF : Hid (R = false) := by show _ = _; rw [HR.out]; simp
        go_enter Tryd.func27, Tryd.ntmps27
        go_wp2_with fail
        rw [← hW0, ← hg]
        have HGE := Lib.hid hg
        clear hW0 hg
        go_wp2_with (first
          | (go_at_call 42; refine (hfits.out _).mono ?_; rintro e w1 ⟨rfl, hb1⟩; have hA1 := hA0.kept hb1; have c1 := (hA1.cell 1).trans (show _ = some (Value.string (bstr s)) from rfl); have hB1 := hB0.trans (hb1.mono hB0.size))
          | (go_at_call 43; refine (hval.out _ hB1).mono ?_; rintro e w2 ⟨rfl, hb2⟩))
        go_ret
        exact may_f HF.out (hB1.trans (hb2.mono hB1.size))
      | true =>
        by_cases h56 : k = 5 ∨ k = 6
        · have hho : Hid (∀ W, Calls Tryd.prog 44 #[.int .i64 k] W fun e w' => e = .returned (.bool true) ∧ w' = W) := fun W => by
            have := holdsOthers_any k W
            rw [show (decide (k = 5) || decide (k = 6)) = true by simpa using h56] at this
            exact this
          by_cases ha : around = 8
          · have HF : Hid (R = false) := by show _ = _; rw [HR.out, ha]; have : (decide (k = 5) || decide (k = 6)) = true := by simpa using h56
                                            rw [this]; simp
            have h8 : (around : Int) = 8 := by omega
            clear ha h56
            go_enter Tryd.func27, Tryd.ntmps27
            go_wp2_with fail
            rw [← hW0, ← hg]
            have HGE := Lib.hid hg
            clear hW0 hg
            go_wp2_with (first
              | (go_at_call 42; refine (hfits.out _).mono ?_; rintro e w1 ⟨rfl, hb1⟩; have hA1 := hA0.kept hb1; have c1 := (hA1.cell 1).trans (show _ = some (Value.string (bstr s)) from rfl); have hB1 := hB0.trans (hb1.mono hB0.size))
              | (go_at_call 43; refine (hval.out _ hB1).mono ?_; rintro e w2 ⟨rfl, hb2⟩; have hA2 := hA1.kept hb2; have c2 := (hA2.cell 0).trans (show _ = some (Value.int .i64 k) from rfl); have hB2 := hB1.trans (hb2.mono hB1.size))
              | (go_at_call 44; refine (hho.out _).mono ?_; rintro e w3 ⟨rfl, rfl⟩))
            go_ret
            exact may_f HF.out hB2
          · have h8 : ((around : Int) == 8) = false := beq_eq_false_iff_ne.2 (by omega)
            have HA : Hid (around < 8) := by show _ < _; omega
            obtain ⟨NT, hNT⟩ : ∃ NT, NT = (decide (ks.length = l.length) && ks.all utf8F && apartF ks) := ⟨_, rfl⟩
            have hnm : Hid (∀ W, Below w.heap.size w W → Calls Tryd.prog 45 #[.slice b ks.length d, .int .i64 (l.length : Int)] W fun e w' => e = .returned (.bool NT) ∧ Below W.heap.size W w') := fun W hW => by
              rw [hNT]
              exact mayName_any ks b d l.length W (HKS.out W hW) (by omega) (fun x hx => by have := HSK.out x hx; omega) (HT.out W hW)
            have hRR : Hid (R = (((!decide (k = 6)) || NT) && mayL l (8 - around - 1))) := by
              show _ = _
              rw [HR.out, hNT]
              have : (decide (k = 5) || decide (k = 6)) = true := by simpa using h56
              rw [this, decide_eq_true (show 0 < 8 - around by omega)]
              simp
            clear hNT HR
            by_cases hbad : k = 6 ∧ NT = false
            · obtain ⟨rfl, rfl⟩ := hbad
              have HF : Hid (R = false) := by show _ = _; rw [hRR.out]; simp
              clear ha h56 hRR
              go_enter Tryd.func27, Tryd.ntmps27
              go_wp2_with fail
              rw [← hW0, ← hg]
              have HGE := Lib.hid hg
              clear hW0 hg
              go_wp2_with (first
                | (go_at_call 42; refine (hfits.out _).mono ?_; rintro e w1 ⟨rfl, hb1⟩; have hA1 := hA0.kept hb1; have c1 := (hA1.cell 1).trans (show _ = some (Value.string (bstr s)) from rfl); have hB1 := hB0.trans (hb1.mono hB0.size))
                | (go_at_call 43; refine (hval.out _ hB1).mono ?_; rintro e w2 ⟨rfl, hb2⟩; have hA2 := hA1.kept hb2; have c2 := (hA2.cell 0).trans (show _ = some (Value.int .i64 6) from rfl); have c3 := (hA2.cell 3).trans (show _ = some (Value.slice a l.length c) from rfl); have c4 := (hA2.cell 4).trans (show _ = some (Value.slice b ks.length d) from rfl); have hB2 := hB1.trans (hb2.mono hB1.size))
                | (go_at_call 44; refine (hho.out _).mono ?_; rintro e w3 ⟨rfl, rfl⟩)
                | (go_at_call 45; refine (hnm.out _ hB2).mono ?_; rintro e w4 ⟨rfl, hb4⟩))
              go_ret
              exact may_f HF.out (hB2.trans (hb4.mono hB2.size))
            · have HRL : Hid (R = mayL l (8 - around - 1)) := by
                show _ = _
                rw [hRR.out]
                by_cases h6 : k = 6
                · cases NT with
                  | true => simp
                  | false => exact absurd ⟨h6, rfl⟩ hbad
                · simp [h6]
              clear hRR
              rcases h56 with rfl | rfl
              case' inr =>
                obtain rfl : NT = true := by cases NT with
                  | true => rfl
                  | false => exact absurd ⟨rfl, rfl⟩ hbad
              all_goals
                clear ha hbad
                go_enter Tryd.func27, Tryd.ntmps27
                go_wp2_with fail
                rw [← hW0, ← hg]
                have HGE := Lib.hid hg
                clear hW0 hg
                go_upto_region 7 with (first
                  | (go_at_call 42; refine (hfits.out _).mono ?_; rintro e w1 ⟨rfl, hb1⟩; have hA1 := hA0.kept hb1; have c1 := (hA1.cell 1).trans (show _ = some (Value.string (bstr s)) from rfl); have hB1 := hB0.trans (hb1.mono hB0.size))
                  | (go_at_call 43; refine (hval.out _ hB1).mono ?_; rintro e w2 ⟨rfl, hb2⟩; have hA2 := hA1.kept hb2; have c2 := hA2.cell 0; have c3 := (hA2.cell 3).trans (show _ = some (Value.slice a l.length c) from rfl); have c4 := (hA2.cell 4).trans (show _ = some (Value.slice b ks.length d) from rfl); have hB2 := hB1.trans (hb2.mono hB1.size))
                  | (go_at_call 44; refine (hho.out _).mono ?_; rintro e w3 ⟨rfl, rfl⟩)
                  | (go_at_call 45; refine (hnm.out _ hB2).mono ?_; rintro e w4 ⟨rfl, hb4⟩))
                first
                  | (have hA4 := hA2.kept hb4; have hB4 := hB2.trans (hb4.mono hB2.size); clear hA2 hB2 hb4)
                  | (have hA4 := hA2; have hB4 := hB2; obtain ⟨w4, rfl⟩ : ∃ x, x = w3 := ⟨_, rfl⟩)
                have q3 := (hA4.cell 3).trans (show _ = some (Value.slice a l.length c) from rfl)
                obtain ⟨p, hp, hp0, hp1⟩ : ∃ p, placeV a l.length = .agg #[.pointer p, .int .i64 (l.length : Int)] ∧ (l.length = 0 → p = none) ∧ (0 < l.length → p = a) := by
                  unfold placeV
                  by_cases h0 : l.length = 0
                  · exact ⟨none, by rw [if_pos h0, h0]; rfl, fun _ => rfl, fun h => by omega⟩
                  · exact ⟨a, by rw [if_neg h0], fun h => absurd h h0, fun _ => rfl⟩
                have hpo : Hid (∀ W, Calls Tryd.prog 33 #[.slice a l.length c] W fun e w' => e = .returned (.agg #[.pointer p, .int .i64 (l.length : Int)]) ∧ Below W.heap.size W w') := fun W => by
                  rw [← hp]
                  exact placeOf_any a l.length c W (by omega) (fun h => by obtain ⟨bb, off, e, -⟩ := HL.out h; exact ⟨bb, off, e⟩)
                have HP0 := Lib.hid hp0
                have HP1 := Lib.hid hp1
                clear hp hp0 hp1
                go_upto_region 8 with (first
                  | (go_at_call 33; refine (hpo.out _).mono ?_; rintro e w5 ⟨rfl, hb5⟩))
                have hA5 := hA4.kept hb5
                have hB5 := hB4.trans (hb5.mono hB4.size)
                obtain ⟨W6, hW6⟩ : ∃ W6, W6 = w5.alloc (.cells #[.pointer p, .int .i64 (l.length : Int), .int .i64 ((around : Int) + 1)] 98) := ⟨_, rfl⟩
                obtain ⟨h, hh⟩ : ∃ h, h = w5.heap.size := ⟨_, rfl⟩
                have hb56 : Below w5.heap.size w5 W6 := by rw [hW6]; exact (Below.refl _ _).alloc (Nat.le_refl _) _
                have hA6 := hA5.kept hb56
                have hH6 : Arr W6 h 98 [.pointer p, .int .i64 (l.length : Int), .int .i64 ((around : Int) + 1)] := by rw [hW6, hh]; exact Arr.new w5 _ _
                have hB6 : Below w.heap.size w W6 := by rw [hW6]; exact hB5.alloc hB5.size _
                have hkey : GDeep W6 (.agg #[.pointer p, .int .i64 (l.length : Int), .int .i64 ((around : Int) + 1)]) := by
                  refine ⟨p, _, _, rfl, ?_⟩
                  by_cases h0 : 0 < l.length
                  · rw [HP1.out h0]
                    obtain ⟨bb, off, e, hpl, -⟩ := HL.out h0
                    exact .inr ⟨bb, off, e, (CellsKept.of_below hB6).plain bb hpl⟩
                  · exact .inl (HP0.out (by omega))
                rw [← hW6, ← hh]
                have HHE := Lib.hid hh
                clear hW6 hh hb56 hA5 hb5 hA4 hB4 q3 hA0 hB0 hB5
                have q0 := (hH6.cell 0).trans (show _ = some (Value.pointer p) from rfl)
                have q1 := (hH6.cell 1).trans (show _ = some (Value.int .i64 (l.length : Int)) from rfl)
                have q2 := (hH6.cell 2).trans (show _ = some (Value.int .i64 ((around : Int) + 1)) from rfl)
                have q3 := (hA6.cell 3).trans (show _ = some (Value.slice a l.length c) from rfl)
                have hM6 : MapR GDeep W6 B ps := HM.out.below deep_ok hB6
                have HU : Hid (∀ q ∈ ps, q.2 = .agg #[]) := fun q hq => (HG.out q hq).1
                have hl6 : Hid (h < W6.heap.size) := hH6.lt
                by_cases hin : ∃ q ∈ ps, q.1 = .agg #[.pointer p, .int .i64 (l.length : Int), .int .i64 ((around : Int) + 1)]
                · have HF : Hid (R = true) := by
                    show _ = _
                    rw [HRL.out]
                    by_cases h0 : 0 < l.length
                    · obtain ⟨q, hq, e⟩ := hin
                      obtain ⟨bb, off, ea, hpl, hl⟩ := HL.out h0
                      rw [HP1.out h0, ea] at e
                      obtain ⟨l', h1, h2, h3⟩ := (HG.out q hq).2 bb off _ _ e (by omega)
                      rw [pl_one l l' bb off hl h1 (by omega), show 8 - around - 1 = 8 - ((around : Int) + 1).toNat by omega]
                      exact h3
                    · rw [List.eq_nil_of_length_eq_zero (l := l) (by omega)]
                      unfold mayL
                      rfl
                  have HIN := Lib.hid hin
                  clear hin
                  go_wp2_with (at_lookup; go_loud (refine wl_look_yes deep_ok Tryd.underlying66 rfl _ _ rfl B ps rfl hM6 _ _ (.agg #[]) rfl hkey (zero_unit _) HIN.out HU.out ?_))
                  go_ret
                  exact may_t HF.out HM.out HG.out (hB6.alloc hB6.size _)
                · have HIN : Hid (∀ q ∈ ps, q.1 ≠ .agg #[.pointer p, .int .i64 (l.length : Int), .int .i64 ((around : Int) + 1)]) := fun q hq e => hin ⟨q, hq, e⟩
                  clear hin
                  have hb67 : Below W6.heap.size W6 (W6.alloc (.cells #[] 83)) := (Below.refl _ _).alloc (Nat.le_refl _) _
                  have hA7 := hA6.kept hb67
                  have hH7 := hH6.kept hb67
                  have u3 := (hA7.cell 3).trans (show _ = some (Value.slice a l.length c) from rfl)
                  by_cases h0 : l.length = 0
                  · have HF : Hid (R = true) := by
                      show _ = _
                      rw [HRL.out, List.eq_nil_of_length_eq_zero h0]
                      unfold mayL
                      rfl
                    have h0i : ((l.length : Int) == 0) = true := beq_iff_eq.2 (by omega)
                    have H0 := Lib.hid h0
                    clear h0
                    go_wp2_with (at_lookup; go_loud (refine wl_look_no deep_ok Tryd.underlying66 rfl _ _ rfl B ps rfl hM6 _ _ rfl hkey (zero_unit _) HIN.out ?_))
                    go_ret
                    exact may_t HF.out HM.out HG.out (hB6.alloc hB6.size _)
                  · have h0i : ((l.length : Int) == 0) = false := beq_eq_false_iff_ne.2 (by omega)
                    go_upto_region 11 with (first
                      | (at_lookup; go_loud (refine wl_look_no deep_ok Tryd.underlying66 rfl _ _ rfl B ps rfl hM6 _ _ rfl hkey (zero_unit _) HIN.out ?_)))
                    generalize hW7 : W6.alloc (.cells #[] 83) = W7 at *
                    have hM7 : MapR GDeep W7 B ps := hM6.below deep_ok hb67
                    have hB7 : Below w.heap.size w W7 := hB6.trans (hb67.mono hB6.size)
                    have hkey7 : GDeep W7 (.agg #[.pointer p, .int .i64 (l.length : Int), .int .i64 ((around : Int) + 1)]) := deep_ok.kept _ _ _ (fun b' hb' => (CellsKept.of_below hb67).plain b' hb') hkey
                    have v0 := (hH7.cell 0).trans (show _ = some (Value.pointer p) from rfl)
                    have v1 := (hH7.cell 1).trans (show _ = some (Value.int .i64 (l.length : Int)) from rfl)
                    have v2 := (hH7.cell 2).trans (show _ = some (Value.int .i64 ((around : Int) + 1)) from rfl)
                    have hBm : Hid (B < w.heap.size) := HM.out.lt
                    clear hW7 hkey hM6 hB6 hA6 hH6 q0 q1 q2 q3 hl6 hb67
                    go_upto_region 12 with (at_mapUpdate; go_loud (refine wl_put_new deep_ok Tryd.underlying66 rfl _ _ _ rfl B ps rfl hM7 _ (.agg #[]) rfl rfl hkey7 HIN.out ?_); intro w8 hM8 hg8 hs8)
                    have hK : Hid (w.grownBy w8 (some B)) := gb_trans (gb hB7 _) hg8
                    have ho8 := (ck_gb hM7 hg8).cell ((hA7.cell 3).trans (show _ = some (Value.slice a l.length c) from rfl))
                    have hG8 : Hid (GoodM w8 (around + 1) (ps ++ [(.agg #[.pointer p, .int .i64 (l.length : Int), .int .i64 ((around : Int) + 1)], .agg #[])])) := by
                      intro q hq
                      rcases List.mem_append.1 hq with hq | hq
                      · exact (HG.out.mono (Nat.le_succ around)).keep (ck_gb HM.out hK.out) q hq
                      · obtain rfl := List.mem_singleton.1 hq
                        refine ⟨rfl, fun b off n d e hlt => ?_⟩
                        simp only [Value.agg.injEq] at e
                        have e2 := congrArg (fun (x : Array Value) => x[2]?) e
                        simp at e2
                        omega
                    obtain ⟨KEY, hKEY⟩ : ∃ KEY : Value, KEY = .agg #[.pointer p, .int .i64 (l.length : Int), .int .i64 ((around : Int) + 1)] := ⟨_, rfl⟩
                    rw [← hKEY] at hM8 hG8
                    have HKEY := Lib.hid hKEY
                    have hcl : l.length ≤ 9223372036854775807 := by omega
                    clear hKEY hM7 hg8 hs8 hA7 hH7 hB7 hkey7 u3 v0 v1 v2 HIN
                    go_upto_region 13 with fail
                    go_loopw [66] (fun i wr => ∃ (m : Nat) (pm : List (Value × Value)), m ≤ l.length ∧ i = .int .i64 m ∧ MapR GDeep wr B pm ∧ Hid (GoodM wr (around + 1) pm) ∧ Hid (w.grownBy wr (some B)) ∧ Hid (∀ q ∈ pm, q ∈ ps ∨ q.1 = KEY ∨ ((around + 1 : Nat) : Int) < deepOf q.1) ∧ Hid (∀ j u, j < m → l[j]? = some u → mayF u (8 - around - 1) = true)) (fun i _ => l.length - (intOf i).toNat)
                    case atStart => exact ⟨0, _, by omega, rfl, hM8, hG8, hK, fun q hq => by
                      rcases List.mem_append.1 hq with hq | hq
                      · exact .inl hq
                      · obtain rfl := List.mem_singleton.1 hq
                        exact .inr (.inl rfl), fun j u hj => by omega⟩
                    case round =>
                      clear hM8 hG8 hK
                      obtain ⟨m, pm, hm, rfl, hMm, hGm, hKm, hPm, hE⟩ := hrel
                      have hck : Hid (CellsKept w wr) := ck_gb HM.out hKm.out
                      by_cases hlt : m < l.length
                      · have hc : (m : Int) < (l.length : Int) := by omega
                        obtain ⟨ab, ao, rfl, hab, hpl⟩ := HL.out (by omega)
                        obtain ⟨x, hx⟩ : ∃ x, l[m]? = some x := ⟨_, List.getElem?_eq_getElem hlt⟩
                        obtain ⟨cx, hcx, hcx2, hpx⟩ := pl_at l ab ao m x hpl hx
                        obtain ⟨xk, xs, xn, xa, xl, xc, xb, xm, xd, rfl⟩ := pv_shape hpx
                        have hmc : m < c := by omega
                        have z := fun (j : Nat) (v : Value) (h : [.int .i64 xk, .string xs, .int .u64 xn, .slice xa xl xc, .slice xb xm xd][j]? = some v) (hj : j < 5) => hck.out.cell ((hcx2 j hj).trans h)
                        have qc0 : wr.cell? ⟨ab, ao + m * 5, none⟩ = some (.int .i64 xk) := by rw [show ao + m * 5 = ao + (5 * m + 0) by omega]; exact z 0 _ rfl (by omega)
                        have qc1 : wr.cell? ⟨ab, ao + m * 5 + 1, none⟩ = some (.string xs) := by rw [show ao + m * 5 + 1 = ao + (5 * m + 1) by omega]; exact z 1 _ rfl (by omega)
                        have qc2 : wr.cell? ⟨ab, ao + m * 5 + 2, none⟩ = some (.int .u64 xn) := by rw [show ao + m * 5 + 2 = ao + (5 * m + 2) by omega]; exact z 2 _ rfl (by omega)
                        have qc3 : wr.cell? ⟨ab, ao + m * 5 + 3, none⟩ = some (.slice xa xl xc) := by rw [show ao + m * 5 + 3 = ao + (5 * m + 3) by omega]; exact z 3 _ rfl (by omega)
                        have qc4 : wr.cell? ⟨ab, ao + m * 5 + 4, none⟩ = some (.slice xb xm xd) := by rw [show ao + m * 5 + 4 = ao + (5 * m + 4) by omega]; exact z 4 _ rfl (by omega)
                        have hIH : Hid (∀ W, Below wr.heap.size wr W → Calls Tryd.prog 27 #[.agg #[.int .i64 xk, .string xs, .int .u64 xn, .slice xa xl xc, .slice xb xm xd], .int .i64 ((around : Int) + 1), .map (some B)] W (MayPost W B (around + 1) pm (mayF x (8 - around - 1)))) := fun W hW => by
                          have hsz := List.sizeOf_lt_of_mem (List.mem_of_getElem? hx)
                          have hN := HN.out
                          simp only [JV.mk.sizeOf_spec] at hN
                          exact IH.out x [.int .i64 xk, .string xs, .int .u64 xn, .slice xa xl xc, .slice xb xm xd] W B (around + 1) pm (by omega) (pv_keep (hck.out.trans (CellsKept.of_below hW)) _ _ hpx) (small_at l _ m x HSL.out hx) (by have := HA.out; omega) ((HT.out w (Below.refl _ _)).keep (hck.out.trans (CellsKept.of_below hW))) (hMm.below deep_ok hW) (hGm.out.keep (CellsKept.of_below hW))
                        have HX := Lib.hid hx
                        have hwa : Hid (∀ o, Below wr.heap.size wr (wr.alloc o)) := fun o => (Below.refl _ _).alloc (Nat.le_refl _) _
                        clear z hcx hcx2 hpx hpl hab hx
                        cases hv : mayF x (8 - around - 1) with
                        | false =>
                          have HF : Hid (R = false) := by
                            show _ = _
                            rw [HRL.out]
                            cases hh : mayL l (8 - around - 1) with
                            | false => rfl
                            | true => rw [(mayL_iff l _).1 hh m x HX.out] at hv; cases hv
                          rw [hv] at hIH
                          clear hv
                          go_wp2_with (go_at_call 27; go_loud (refine (hIH.out _ (hwa.out _)).mono ?_); rintro e w9 ⟨rfl, hg9, -⟩)
                          go_ret
                          exact ⟨by rw [HF.out]; rfl, gb_trans hKm.out (gb_trans (gb (hwa.out _) _) hg9), fun hh => by rw [HF.out] at hh; cases hh⟩
                        | true =>
                          have HV := Lib.hid hv
                          rw [hv] at hIH
                          clear hv
                          go_wp2_with (go_at_call 27; go_loud (refine (hIH.out _ (hwa.out _)).mono ?_); rintro e w9 ⟨rfl, hg9, hp9⟩)
                          obtain ⟨p9, hM9, hG9, hq9⟩ := hp9 trivial
                          go_roundw
                          case rel => exact ⟨m + 1, p9, by omega, by go_num, hM9, hG9, gb_trans hKm.out (gb_trans (gb (hwa.out _) _) hg9), fun q hq => by
                            rcases hq9 q hq with h | h
                            · exact hPm.out q h
                            · exact .inr (.inr h), fun j u hj hu => by
                            by_cases hjm : j = m
                            · subst hjm
                              rw [HX.out] at hu
                              cases hu
                              exact HV.out
                            · exact hE.out j u (by omega) hu⟩
                          case measure => simp [intOf]; omega
                      · have hc : ¬ (m : Int) < (l.length : Int) := by omega
                        have HF : Hid (R = true) := by
                          show _ = _
                          rw [HRL.out, mayL_iff]
                          intro j u hu
                          have := (List.getElem?_eq_some_iff.1 hu).1
                          exact hE.out j u (by omega) hu
                        clear hlt hm
                        go_wp2_with fail
                        go_ret
                        refine ⟨by rw [HF.out]; rfl, hKm.out, fun _ => ⟨pm, hMm, fun q hq => ⟨(hGm.out q hq).1, fun b' off n' d' e hlt => ?_⟩, fun q hq => ?_⟩⟩
                        · rcases hPm.out q hq with h | h | h
                          · obtain ⟨l', h1, h2, h3⟩ := (HG.out q h).2 b' off n' d' e hlt
                            exact ⟨l', pl_keep hck.out l' b' off h1, h2, h3⟩
                          · rw [h, HKEY.out] at e
                            simp only [Value.agg.injEq, Array.mk.injEq, List.cons.injEq, Value.pointer.injEq, Value.int.injEq, true_and, and_true] at e
                            obtain ⟨e1, e2, e3⟩ := e
                            have h0 : 0 < l.length := by
                              rcases Nat.eq_zero_or_pos l.length with h0 | h0
                              · rw [HP0.out h0] at e1
                                cases e1
                              · exact h0
                            obtain ⟨ab, ao, ea, hab, hpl⟩ := HL.out h0
                            rw [HP1.out h0, ea] at e1
                            cases e1
                            refine ⟨l, pl_keep hck.out l _ _ hpl, e2, ?_⟩
                            rw [show 8 - d'.toNat = 8 - around - 1 by omega, ← HRL.out]
                            exact HF.out
                          · rw [e] at h
                            have hd : ((around + 1 : Nat) : Int) < d' := h
                            exact (hGm.out q hq).2 b' off n' d' e hd
                        · rcases hPm.out q hq with h | h | h
                          · exact .inl h
                          · refine .inr ?_
                            rw [h, HKEY.out]
                            show (around : Int) < (around : Int) + 1
                            omega
                          · refine .inr ?_
                            have : ((around + 1 : Nat) : Int) < deepOf q.1 := h
                            omega
        · have HF : Hid (R = true) := by
            show _ = _
            rw [HR.out]
            have h5 : k ≠ 5 := fun h => h56 (.inl h)
            have h6 : k ≠ 6 := fun h => h56 (.inr h)
            simp [h5, h6]
          have hho : Hid (∀ W, Calls Tryd.prog 44 #[.int .i64 k] W fun e w' => e = .returned (.bool false) ∧ w' = W) := fun W => by
            have := holdsOthers_any k W
            rw [decide_eq_false (fun h => h56 (.inl h)), decide_eq_false (fun h => h56 (.inr h))] at this
            exact this
          clear h56
          go_enter Tryd.func27, Tryd.ntmps27
          go_wp2_with fail
          rw [← hW0, ← hg]
          have HGE := Lib.hid hg
          clear hW0 hg
          go_wp2_with (first
            | (go_at_call 42; refine (hfits.out _).mono ?_; rintro e w1 ⟨rfl, hb1⟩; have hA1 := hA0.kept hb1; have c1 := (hA1.cell 1).trans (show _ = some (Value.string (bstr s)) from rfl); have hB1 := hB0.trans (hb1.mono hB0.size))
            | (go_at_call 43; refine (hval.out _ hB1).mono ?_; rintro e w2 ⟨rfl, hb2⟩; have hA2 := hA1.kept hb2; have c2 := (hA2.cell 0).trans (show _ = some (Value.int .i64 k) from rfl); have hB2 := hB1.trans (hb2.mono hB1.size))
            | (go_at_call 44; refine (hho.out _).mono ?_; rintro e w3 ⟨rfl, rfl⟩))
          go_ret
          exact may_t HF.out HM.out HG.out hB2
end Go.Proofs.YtehlgflpkofooaaDoor
