/-
  Layer 4: whether a value may be, as the document has it. Conditions: those in each statement.
-/
import Derived.Test.YtbondnljoalajaaDoorJyD
import Derived.Deep.CutBlock
import Derived.Deep.CutRange
import Derived.Deep.DeepCutAuto
namespace Go.Proofs.YtbondnljoalajaaDoor
open Go.RowKit

set_option maxRecDepth 100000 in
set_option maxHeartbeats 1600000 in
theorem rDeep_all : ∀ (N : Nat) (v : JV) (cs : List Value) (w : World) (most : Nat), SizeOf.sizeOf v ≤ N → RV w v cs → smallV v 9223372036854775000 → most ≤ 1000 →
    Calls Tryd.prog 28 #[.agg cs.toArray, .int .i64 (most : Int)] w fun e w' => e = .returned (.bool (mayF v most)) ∧ Below w.heap.size w w' := by
  intro N
  induction N with
  | zero => intro v; intros; cases v; simp at *
  | succ N ih =>
    rintro ⟨k, s, n, l, ks⟩ cs w most hN hv hsm hmost
    unfold RV at hv
    unfold smallV at hsm
    obtain ⟨a, c, b, d, rfl, ⟨hk0, hk1, hn⟩, hks, ⟨hlc, hcb⟩, hac, hl⟩ := hv
    go_enter Tryd.func28, Tryd.ntmps28
    go_upto_region 1 with fail
    obtain ⟨W0, hW0⟩ : ∃ W0, W0 = w.alloc (.cells #[.int .i64 k, .string (bstr s), .int .u64 (n : Int), .slice a l.length c, .slice b ks.length d] 26) := ⟨_, rfl⟩
    rw [← hW0]
    have hA0 : Arr W0 w.heap.size 26 [.int .i64 k, .string (bstr s), .int .u64 (n : Int), .slice a l.length c, .slice b ks.length d] := by
      rw [hW0]
      exact Arr.new w _ _
    have hB0 : Below w.heap.size w W0 := by rw [hW0]; exact (Below.refl _ w).alloc (Nat.le_refl _) _
    generalize Value.agg #[.int .i64 k, .string (bstr s), .int .u64 (n : Int), .slice a l.length c, .slice b ks.length d] = V0
    obtain ⟨g, hg⟩ : ∃ g, g = w.heap.size := ⟨_, rfl⟩
    rw [← hg] at hA0 hB0 ⊢
    have HG := Lib.hid hg
    have HKS : Hid (∀ W, Below w.heap.size w W → RStr W ks b d) := fun W h => hks.to h
    have HL : Hid (0 < l.length → ∃ b off, a = some ⟨b, off, none⟩ ∧ b < w.heap.size ∧ RL w l b off) := hl
    have IH := Lib.hid ih
    have HN := Lib.hid hN
    have HSM := Lib.hid hsm
    have HLB : l.length ≤ 9223372036854775807 := by omega
    have HKB : ks.length ≤ 9223372036854775807 := by have h1 := hks.le; have h2 := hks.big; omega
    have HLC := Lib.hid hlc
    clear hg hW0 hks hl ih hN hsm hlc hcb hac
    have c0 := (hA0.cell 0).trans (show _ = some (Value.int .i64 k) from rfl)
    have c1 := (hA0.cell 1).trans (show _ = some (Value.string (bstr s)) from rfl)
    have c2 := (hA0.cell 2).trans (show _ = some (Value.int .u64 (n : Int)) from rfl)
    have c3 := (hA0.cell 3).trans (show _ = some (Value.slice a l.length c) from rfl)
    have c4 := (hA0.cell 4).trans (show _ = some (Value.slice b ks.length d) from rfl)
    generalize hln : l.length = LN at *
    generalize hkn : ks.length = KN at *
    have HLN := Lib.hid hln
    have HKN := Lib.hid hkn
    clear hln hkn
    obtain ⟨B1, hB1⟩ : ∃ B : Bool, B = true ↔ bad1 k s n l ks := by
      by_cases h : bad1 k s n l ks
      · exact ⟨true, by simp [h]⟩
      · exact ⟨false, by simp [h]⟩
    have HB1 := Lib.hid hB1
    clear hB1
    go_cut [57] from 8 to 56 (fun x wx => wx = W0 ∧ x = .bool B1)
    case first =>
      have hE : (bstr s).toList.isEmpty = decide (s.length = 0) := by rw [bstr_toList]; cases s <;> simp
      have hkk : k < 0 ∨ 6 < k ∨ (0 ≤ k ∧ k < 3) ∨ k = 3 ∨ k = 4 ∨ k = 5 ∨ k = 6 := by omega
      obtain ⟨E, hEE⟩ : ∃ E : Bool, E = decide (s.length = 0) := ⟨_, rfl⟩
      rw [← hEE] at hE
      have HS0 : Hid (E = true ↔ s.length = 0) := by show _ ↔ _; rw [hEE, decide_eq_true_eq]
      clear hEE
      cases E
      · rcases hkk with hx | hx | ⟨hx, hy⟩ | rfl | rfl | rfl | rfl
        · have h1 : k < 0 := hx
          go_wp2_with fail
          all_goals
            go_meet
            refine ⟨rfl, ?_⟩
            have hb := HB1.out
            have hs0 := HS0.out
            simp only [Bool.false_eq_true, false_iff] at hs0
            unfold bad1 at hb
            rw [HLN.out, HKN.out] at hb
            first
              | exact congrArg Value.bool (hb.2 (by omega)).symm
              | exact congrArg Value.bool (Bool.eq_false_iff.2 (fun h => by have := hb.1 h; omega)).symm
              | (by_cases hl0 : 0 < LN <;> simp only [hl0, decide_true, decide_false] <;> first | exact congrArg Value.bool (hb.2 (by omega)).symm | exact congrArg Value.bool (Bool.eq_false_iff.2 (fun h => by have := hb.1 h; omega)).symm)
        · have h1 : ¬ k < 0 := by omega
          have h2 : k > 6 := hx
          go_wp2_with fail
          all_goals
            go_meet
            refine ⟨rfl, ?_⟩
            have hb := HB1.out
            have hs0 := HS0.out
            simp only [Bool.false_eq_true, false_iff] at hs0
            unfold bad1 at hb
            rw [HLN.out, HKN.out] at hb
            first
              | exact congrArg Value.bool (hb.2 (by omega)).symm
              | exact congrArg Value.bool (Bool.eq_false_iff.2 (fun h => by have := hb.1 h; omega)).symm
              | (by_cases hl0 : 0 < LN <;> simp only [hl0, decide_true, decide_false] <;> first | exact congrArg Value.bool (hb.2 (by omega)).symm | exact congrArg Value.bool (Bool.eq_false_iff.2 (fun h => by have := hb.1 h; omega)).symm)
        · have h1 : ¬ k < 0 := by omega
          have h2 : ¬ k > 6 := by omega
          have h3 : (k != 3) = true := by simp; omega
          have h4 : (k != 4) = true := by simp; omega
          have h6 : (k != 6) = true := by simp; omega
          have h5 : k < 5 := by omega
          go_wp2_with fail
          all_goals
            go_meet
            refine ⟨rfl, ?_⟩
            have hb := HB1.out
            have hs0 := HS0.out
            simp only [Bool.false_eq_true, false_iff] at hs0
            unfold bad1 at hb
            rw [HLN.out, HKN.out] at hb
            first
              | exact congrArg Value.bool (hb.2 (by omega)).symm
              | exact congrArg Value.bool (Bool.eq_false_iff.2 (fun h => by have := hb.1 h; omega)).symm
              | (by_cases hl0 : 0 < LN <;> simp only [hl0, decide_true, decide_false] <;> first | exact congrArg Value.bool (hb.2 (by omega)).symm | exact congrArg Value.bool (Bool.eq_false_iff.2 (fun h => by have := hb.1 h; omega)).symm)
        · go_wp2_with fail
          all_goals
            go_meet
            refine ⟨rfl, ?_⟩
            have hb := HB1.out
            have hs0 := HS0.out
            simp only [Bool.false_eq_true, false_iff] at hs0
            unfold bad1 at hb
            rw [HLN.out, HKN.out] at hb
            first
              | exact congrArg Value.bool (hb.2 (by omega)).symm
              | exact congrArg Value.bool (Bool.eq_false_iff.2 (fun h => by have := hb.1 h; omega)).symm
              | (by_cases hl0 : 0 < LN <;> simp only [hl0, decide_true, decide_false] <;> first | exact congrArg Value.bool (hb.2 (by omega)).symm | exact congrArg Value.bool (Bool.eq_false_iff.2 (fun h => by have := hb.1 h; omega)).symm)
        · go_wp2_with fail
          all_goals
            go_meet
            refine ⟨rfl, ?_⟩
            have hb := HB1.out
            have hs0 := HS0.out
            simp only [Bool.false_eq_true, false_iff] at hs0
            unfold bad1 at hb
            rw [HLN.out, HKN.out] at hb
            first
              | exact congrArg Value.bool (hb.2 (by omega)).symm
              | exact congrArg Value.bool (Bool.eq_false_iff.2 (fun h => by have := hb.1 h; omega)).symm
              | (by_cases hl0 : 0 < LN <;> simp only [hl0, decide_true, decide_false] <;> first | exact congrArg Value.bool (hb.2 (by omega)).symm | exact congrArg Value.bool (Bool.eq_false_iff.2 (fun h => by have := hb.1 h; omega)).symm)
        · go_wp2_with fail
          all_goals
            go_meet
            refine ⟨rfl, ?_⟩
            have hb := HB1.out
            have hs0 := HS0.out
            simp only [Bool.false_eq_true, false_iff] at hs0
            unfold bad1 at hb
            rw [HLN.out, HKN.out] at hb
            first
              | exact congrArg Value.bool (hb.2 (by omega)).symm
              | exact congrArg Value.bool (Bool.eq_false_iff.2 (fun h => by have := hb.1 h; omega)).symm
              | (by_cases hl0 : 0 < LN <;> simp only [hl0, decide_true, decide_false] <;> first | exact congrArg Value.bool (hb.2 (by omega)).symm | exact congrArg Value.bool (Bool.eq_false_iff.2 (fun h => by have := hb.1 h; omega)).symm)
        · go_wp2_with fail
          all_goals
            go_meet
            refine ⟨rfl, ?_⟩
            have hb := HB1.out
            have hs0 := HS0.out
            simp only [Bool.false_eq_true, false_iff] at hs0
            unfold bad1 at hb
            rw [HLN.out, HKN.out] at hb
            first
              | exact congrArg Value.bool (hb.2 (by omega)).symm
              | exact congrArg Value.bool (Bool.eq_false_iff.2 (fun h => by have := hb.1 h; omega)).symm
              | (by_cases hl0 : 0 < LN <;> simp only [hl0, decide_true, decide_false] <;> first | exact congrArg Value.bool (hb.2 (by omega)).symm | exact congrArg Value.bool (Bool.eq_false_iff.2 (fun h => by have := hb.1 h; omega)).symm)
      · rcases hkk with hx | hx | ⟨hx, hy⟩ | rfl | rfl | rfl | rfl
        · have h1 : k < 0 := hx
          go_wp2_with fail
          all_goals
            go_meet
            refine ⟨rfl, ?_⟩
            have hb := HB1.out
            have hs0 := HS0.out
            simp only [true_iff] at hs0
            unfold bad1 at hb
            rw [HLN.out, HKN.out] at hb
            first
              | exact congrArg Value.bool (hb.2 (by omega)).symm
              | exact congrArg Value.bool (Bool.eq_false_iff.2 (fun h => by have := hb.1 h; omega)).symm
              | (by_cases hl0 : 0 < LN <;> simp only [hl0, decide_true, decide_false] <;> first | exact congrArg Value.bool (hb.2 (by omega)).symm | exact congrArg Value.bool (Bool.eq_false_iff.2 (fun h => by have := hb.1 h; omega)).symm)
        · have h1 : ¬ k < 0 := by omega
          have h2 : k > 6 := hx
          go_wp2_with fail
          all_goals
            go_meet
            refine ⟨rfl, ?_⟩
            have hb := HB1.out
            have hs0 := HS0.out
            simp only [true_iff] at hs0
            unfold bad1 at hb
            rw [HLN.out, HKN.out] at hb
            first
              | exact congrArg Value.bool (hb.2 (by omega)).symm
              | exact congrArg Value.bool (Bool.eq_false_iff.2 (fun h => by have := hb.1 h; omega)).symm
              | (by_cases hl0 : 0 < LN <;> simp only [hl0, decide_true, decide_false] <;> first | exact congrArg Value.bool (hb.2 (by omega)).symm | exact congrArg Value.bool (Bool.eq_false_iff.2 (fun h => by have := hb.1 h; omega)).symm)
        · have h1 : ¬ k < 0 := by omega
          have h2 : ¬ k > 6 := by omega
          have h3 : (k != 3) = true := by simp; omega
          have h4 : (k != 4) = true := by simp; omega
          have h6 : (k != 6) = true := by simp; omega
          have h5 : k < 5 := by omega
          go_wp2_with fail
          all_goals
            go_meet
            refine ⟨rfl, ?_⟩
            have hb := HB1.out
            have hs0 := HS0.out
            simp only [true_iff] at hs0
            unfold bad1 at hb
            rw [HLN.out, HKN.out] at hb
            first
              | exact congrArg Value.bool (hb.2 (by omega)).symm
              | exact congrArg Value.bool (Bool.eq_false_iff.2 (fun h => by have := hb.1 h; omega)).symm
              | (by_cases hl0 : 0 < LN <;> simp only [hl0, decide_true, decide_false] <;> first | exact congrArg Value.bool (hb.2 (by omega)).symm | exact congrArg Value.bool (Bool.eq_false_iff.2 (fun h => by have := hb.1 h; omega)).symm)
        · go_wp2_with fail
          all_goals
            go_meet
            refine ⟨rfl, ?_⟩
            have hb := HB1.out
            have hs0 := HS0.out
            simp only [true_iff] at hs0
            unfold bad1 at hb
            rw [HLN.out, HKN.out] at hb
            first
              | exact congrArg Value.bool (hb.2 (by omega)).symm
              | exact congrArg Value.bool (Bool.eq_false_iff.2 (fun h => by have := hb.1 h; omega)).symm
              | (by_cases hl0 : 0 < LN <;> simp only [hl0, decide_true, decide_false] <;> first | exact congrArg Value.bool (hb.2 (by omega)).symm | exact congrArg Value.bool (Bool.eq_false_iff.2 (fun h => by have := hb.1 h; omega)).symm)
        · go_wp2_with fail
          all_goals
            go_meet
            refine ⟨rfl, ?_⟩
            have hb := HB1.out
            have hs0 := HS0.out
            simp only [true_iff] at hs0
            unfold bad1 at hb
            rw [HLN.out, HKN.out] at hb
            first
              | exact congrArg Value.bool (hb.2 (by omega)).symm
              | exact congrArg Value.bool (Bool.eq_false_iff.2 (fun h => by have := hb.1 h; omega)).symm
              | (by_cases hl0 : 0 < LN <;> simp only [hl0, decide_true, decide_false] <;> first | exact congrArg Value.bool (hb.2 (by omega)).symm | exact congrArg Value.bool (Bool.eq_false_iff.2 (fun h => by have := hb.1 h; omega)).symm)
        · go_wp2_with fail
          all_goals
            go_meet
            refine ⟨rfl, ?_⟩
            have hb := HB1.out
            have hs0 := HS0.out
            simp only [true_iff] at hs0
            unfold bad1 at hb
            rw [HLN.out, HKN.out] at hb
            first
              | exact congrArg Value.bool (hb.2 (by omega)).symm
              | exact congrArg Value.bool (Bool.eq_false_iff.2 (fun h => by have := hb.1 h; omega)).symm
              | (by_cases hl0 : 0 < LN <;> simp only [hl0, decide_true, decide_false] <;> first | exact congrArg Value.bool (hb.2 (by omega)).symm | exact congrArg Value.bool (Bool.eq_false_iff.2 (fun h => by have := hb.1 h; omega)).symm)
        · go_wp2_with fail
          all_goals
            go_meet
            refine ⟨rfl, ?_⟩
            have hb := HB1.out
            have hs0 := HS0.out
            simp only [true_iff] at hs0
            unfold bad1 at hb
            rw [HLN.out, HKN.out] at hb
            first
              | exact congrArg Value.bool (hb.2 (by omega)).symm
              | exact congrArg Value.bool (Bool.eq_false_iff.2 (fun h => by have := hb.1 h; omega)).symm
              | (by_cases hl0 : 0 < LN <;> simp only [hl0, decide_true, decide_false] <;> first | exact congrArg Value.bool (hb.2 (by omega)).symm | exact congrArg Value.bool (Bool.eq_false_iff.2 (fun h => by have := hb.1 h; omega)).symm)
    case rest =>
      obtain ⟨hw, rfl⟩ := hcut
      obtain rfl := hw.symm
      clear hw
      have hmay : Hid (mayF (.mk k s n l ks) most = (headF k s n l ks most && mayL l (most - 1))) := by show _ = _; conv => lhs; unfold mayF
      cases B1 with
      | true =>
        have hF : Hid (mayF (.mk k s n l ks) most = false) := by
          show _ = _
          rw [hmay.out]
          have hh : headF k s n l ks most = false := Bool.eq_false_iff.2 fun h => ((head_split k s n l ks most).1 h).1 (HB1.out.1 rfl)
          rw [hh, Bool.false_and]
        clear hmay c0 c1 c2 c3 c4 hA0
        go_wp2_with fail
        go_ret
        exact ⟨by rw [hF.out]; rfl, HG.out ▸ hB0⟩
      | false =>
        go_upto_region 3 with fail
        have hnb1 : ¬ bad1 k s n l ks := fun h => by have := HB1.out.2 h; cases this
        have hk6 : 0 ≤ k ∧ k ≤ 6 := by unfold bad1 at hnb1; omega
        obtain ⟨B2, hB2⟩ : ∃ B : Bool, B = true ↔ bad2 k s l ks most := by
          by_cases h : bad2 k s l ks most
          · exact ⟨true, by simp [h]⟩
          · exact ⟨false, by simp [h]⟩
        have HB2 := Lib.hid hB2
        have HNB1 := Lib.hid hnb1
        have HK6 := Lib.hid hk6
        clear hB2 hnb1 hk6
        have hsl : s.length ≤ 9223372036854775000 := HSM.out.1
        obtain ⟨U, hU⟩ : ∃ U, U = utf8F s := ⟨_, rfl⟩
        have HU8 := Lib.hid (fun w => rUtf8_any s w hsl)
        rw [← hU] at HU8
        have HUU := Lib.hid hU
        clear hU hsl
        have hlnb : (LN : Int) ≤ 9223372036854775807 := by omega
        have hknb : (KN : Int) ≤ 9223372036854775807 := by omega
        go_cut [84] from 58 to 83 (fun x wx => wx = W0 ∧ x = .bool B2)
        case first =>
          have fin : ∀ (T : Prop) [Decidable T], T → Value.bool true = .bool true := fun _ _ _ => rfl
          clear fin
          have yes : bad2 k s l ks most → B2 = true := fun h => HB2.out.2 h
          have no : ¬ bad2 k s l ks most → B2 = false := fun h => Bool.eq_false_iff.2 fun e => h (HB2.out.1 e)
          have YES := Lib.hid yes
          have NO := Lib.hid no
          clear yes no
          by_cases h5 : 5 ≤ k
          · by_cases m0 : most = 0
            · subst m0
              have hb : Hid (B2 = true) := YES.out (.inl ⟨h5, rfl⟩)
              go_wp2_with fail
              go_meet
              exact ⟨rfl, by rw [hb.out]⟩
            · have m1 : ((most : Int) == 0) = false := by simp; omega
              cases U with
              | false =>
                have hb : Hid (B2 = true) := YES.out (.inr (.inl HUU.out.symm))
                clear m0
                go_wp2_with (go_at_call 46; refine (HU8.out _).mono ?_; rintro e w1 ⟨rfl, hw1⟩; obtain rfl := hw1)
                go_meet
                exact ⟨rfl, by rw [hb.out]⟩
              | true =>
                by_cases h6 : k = 6
                · subst h6
                  by_cases hkl : KN = LN
                  · have hb : Hid (B2 = false) := NO.out (by
                      rintro (⟨_, h⟩ | h | ⟨_, h⟩)
                      · exact m0 h
                      · rw [← HUU.out] at h; cases h
                      · exact h (by rw [HKN.out, HLN.out, hkl]))
                    have hkl2 : ((KN : Int) != (LN : Int)) = false := by simp; omega
                    clear m0 hkl
                    go_wp2_with (go_at_call 46; refine (HU8.out _).mono ?_; rintro e w1 ⟨rfl, hw1⟩; obtain rfl := hw1)
                    go_meet
                    exact ⟨rfl, by rw [hb.out]⟩
                  · have hb : Hid (B2 = true) := YES.out (.inr (.inr ⟨rfl, by rw [HKN.out, HLN.out]; exact hkl⟩))
                    have hkl2 : ((KN : Int) != (LN : Int)) = true := by simp; omega
                    clear m0 hkl
                    go_wp2_with (go_at_call 46; refine (HU8.out _).mono ?_; rintro e w1 ⟨rfl, hw1⟩; obtain rfl := hw1)
                    go_meet
                    exact ⟨rfl, by rw [hb.out]⟩
                · have hb : Hid (B2 = false) := NO.out (by
                    rintro (⟨_, h⟩ | h | ⟨h, _⟩)
                    · exact m0 h
                    · rw [← HUU.out] at h; cases h
                    · exact h6 h)
                  have h62 : (k == 6) = false := by simpa using h6
                  clear m0 h6
                  go_wp2_with (go_at_call 46; refine (HU8.out _).mono ?_; rintro e w1 ⟨rfl, hw1⟩; obtain rfl := hw1)
                  go_meet
                  exact ⟨rfl, by rw [hb.out]⟩
          · have h52 : decide (5 ≤ k) = false := decide_eq_false h5
            have h62 : (k == 6) = false := by simp; omega
            cases U with
            | false =>
              have hb : Hid (B2 = true) := YES.out (.inr (.inl HUU.out.symm))
              clear h5
              go_wp2_with (go_at_call 46; refine (HU8.out _).mono ?_; rintro e w1 ⟨rfl, hw1⟩; obtain rfl := hw1)
              go_meet
              exact ⟨rfl, by rw [hb.out]⟩
            | true =>
              have hb : Hid (B2 = false) := NO.out (by
                rintro (⟨h, _⟩ | h | ⟨h, _⟩)
                · exact h5 h
                · rw [← HUU.out] at h; cases h
                · omega)
              clear h5
              go_wp2_with (go_at_call 46; refine (HU8.out _).mono ?_; rintro e w1 ⟨rfl, hw1⟩; obtain rfl := hw1)
              go_meet
              exact ⟨rfl, by rw [hb.out]⟩
        case rest =>
          obtain ⟨hw, rfl⟩ := hcut
          obtain rfl := hw.symm
          clear hw
          cases B2 with
          | true =>
            have hF : Hid (mayF (.mk k s n l ks) most = false) := by
              show _ = _
              rw [hmay.out]
              have hh : headF k s n l ks most = false := Bool.eq_false_iff.2 fun h => ((head_split k s n l ks most).1 h).2.1 (HB2.out.1 rfl)
              rw [hh, Bool.false_and]
            clear hmay c0 c1 c2 c3 c4 hA0
            go_wp2_with fail
            go_ret
            exact ⟨by rw [hF.out]; rfl, HG.out ▸ hB0⟩
          | false =>
            have hnb2 : ¬ bad2 k s l ks most := fun h => by have := HB2.out.2 h; cases this
            have hHD : Hid (headF k s n l ks most = (ks.all utf8F && apartF ks)) := by
              show _ = _
              rw [Bool.eq_iff_iff, head_split, Bool.and_eq_true]
              exact ⟨fun h => h.2.2, fun h => ⟨HNB1.out, hnb2, h⟩⟩
            have hMP : Hid (0 < l.length → 1 ≤ most) := fun h => by
              have h1 := HNB1.out
              unfold bad1 at h1
              unfold bad2 at hnb2
              omega
            obtain ⟨R, hR⟩ : ∃ R, R = mayF (.mk k s n l ks) most := ⟨_, rfl⟩
            have HR : Hid (R = (ks.all utf8F && apartF ks && mayL l (most - 1))) := by show _ = _; rw [hR, hmay.out, hHD.out]
            have HRE := Lib.hid hR
            clear hR hmay hHD hnb2 HB2 HNB1 HK6
            go_wp2_with fail
            have HA0 := Lib.hid hA0
            have HB0 := Lib.hid hB0
            go_loopw [5] (fun i wr => ∃ m : Nat, m ≤ KN ∧ i = .int .i64 (m : Int) ∧ Below W0.heap.size W0 wr ∧ Hid (∀ j, j < m → utf8F (ks.getD j []) = true ∧ ∀ i, i < j → ks.getD i [] ≠ ks.getD j [])) (fun i _ => KN - (intOf i).toNat)
            case atStart => exact ⟨0, Nat.zero_le _, rfl, Below.refl _ _, fun j hj => by omega⟩
            case round =>
              obtain ⟨m, hm, rfl, hB, HE⟩ := hrel
              have hA := HA0.out.kept hB
              have c1 := (hA.cell 1).trans (show _ = some (Value.string (bstr s)) from rfl)
              have c3 := (hA.cell 3).trans (show _ = some (Value.slice a LN c) from rfl)
              have c4 := (hA.cell 4).trans (show _ = some (Value.slice b KN d) from rfl)
              by_cases hlt : m < KN
              · have hc : (m : Int) < (KN : Int) := by omega
                have hm0 : (0 : Int) ≤ (m : Int) := by omega
                have hww : Below w.heap.size w wr := (HG.out ▸ HB0.out : Below w.heap.size w W0).trans (hB.mono (HG.out ▸ HB0.out : Below w.heap.size w W0).size)
                obtain ⟨bb, bo, rfl, hbb, hcb⟩ := (HKS.out wr hww).mem (by rw [HKN.out]; omega)
                have cm := hcb m (by rw [HKN.out]; exact hlt)
                have hys : (ks.getD m []).length ≤ 9223372036854775000 := HSM.out.2.1 _ (by
                  rw [List.getD, List.getElem?_eq_getElem (by rw [HKN.out]; exact hlt)]
                  exact List.getElem_mem _)
                have hmd : m < d := by have := (HKS.out wr hww).le; rw [HKN.out] at this; omega
                obtain ⟨b2, o2, e2, hb2, hcb2⟩ := (HKS.out w (Below.refl _ _)).mem (by rw [HKN.out]; omega)
                injection e2 with e2
                injection e2 with e3 e4
                subst e3 e4
                have HCB : Hid (∀ W, Below W0.heap.size W0 W → ∀ i, i < KN → W.cell? ⟨bb, bo + i, none⟩ = some (.string (bstr (ks.getD i [])))) := fun W hb i hi => by
                  have h0 := (HG.out ▸ HB0.out : Below w.heap.size w W0)
                  exact ((h0.trans (hb.mono h0.size)).cell (p := ⟨bb, bo + i, none⟩) hb2).trans (hcb2 i (by rw [HKN.out]; exact hi))
                clear hb2 hcb2
                have HLT := Lib.hid hlt
                obtain ⟨y, hy⟩ : ∃ y, y = ks.getD m [] := ⟨_, rfl⟩
                rw [← hy] at cm hys
                have HY := Lib.hid hy
                have HUY := Lib.hid (fun w => rUtf8_any y w hys)
                clear hcb hlt hww hbb hy hys
                cases hu : utf8F y with
                | false =>
                  have hF : Hid (R = false) := by
                    show _ = _
                    rw [HR.out]
                    have : ks.all utf8F = false := by
                      rw [List.all_eq_false]
                      refine ⟨ks.getD m [], ?_, by rw [← HY.out, hu]; decide⟩
                      rw [List.getD, List.getElem?_eq_getElem (by rw [HKN.out]; exact HLT.out)]
                      exact List.getElem_mem _
                    rw [this]
                    rfl
                  rw [hu] at HUY
                  clear hu
                  go_wp2_with (go_at_call 46; refine (HUY.out _).mono ?_; rintro e w1 ⟨rfl, hw1⟩; obtain rfl := hw1)
                  go_ret
                  have hb := (HG.out ▸ HB0.out : Below w.heap.size w W0)
                  exact ⟨by rw [← HRE.out, hF.out]; rfl, hb.trans (hB.mono hb.size)⟩
                | true =>
                  have HU1 := Lib.hid hu
                  rw [hu] at HUY
                  clear hu
                  go_wp2_with (go_at_call 46; refine (HUY.out _).mono ?_; rintro e w1 ⟨rfl, hw1⟩; obtain rfl := hw1)
                  clear c1 c3 c4 hA cm hc
                  go_loopw [6] (fun i wr => ∃ q : Nat, q ≤ m ∧ i = .int .i64 (q : Int) ∧ Below W0.heap.size W0 wr ∧ Hid (∀ i, i < q → ks.getD i [] ≠ y)) (fun i _ => m - (intOf i).toNat)
                  case atStart => exact ⟨0, Nat.zero_le _, rfl, hB, fun i hi => by omega⟩
                  case round =>
                    clear hB
                    obtain ⟨q, hq, rfl, hB, HEQ⟩ := hrel
                    have hA := HA0.out.kept hB
                    have c4 := (hA.cell 4).trans (show _ = some (Value.slice (some ⟨bb, bo, none⟩) KN d) from rfl)
                    by_cases hqm : q < m
                    · have hcq : (q : Int) < (m : Int) := by omega
                      have hq0 : (0 : Int) ≤ (q : Int) := by omega
                      have hqk : (q : Int) < (KN : Int) := by have := HLT.out; omega
                      have hmk : (m : Int) < (KN : Int) := by have := HLT.out; omega
                      have cq := HCB.out wr hB q (by have := HLT.out; omega)
                      have cm := HCB.out wr hB m HLT.out
                      rw [← HY.out] at cm
                      obtain ⟨x, hx⟩ : ∃ x, x = ks.getD q [] := ⟨_, rfl⟩
                      rw [← hx] at cq
                      have HX := Lib.hid hx
                      have HQM := Lib.hid hqm
                      clear hx hqm
                      by_cases hxy : x = y
                      · have hF : Hid (R = false) := by
                          show _ = _
                          rw [HR.out]
                          have : apartF ks = false := Bool.eq_false_iff.2 fun h => by
                            rw [apart_nodup] at h
                            have h1 := HQM.out
                            have h2 := HLT.out
                            have h3 : ks[q]'(by rw [HKN.out]; omega) = ks[m]'(by rw [HKN.out]; omega) := by
                              have e1 := HX.out
                              have e2 := HY.out
                              rw [List.getD, List.getElem?_eq_getElem (by rw [HKN.out]; omega)] at e1 e2
                              simp only [Option.getD_some] at e1 e2
                              rw [← e1, ← e2, hxy]
                            have := (List.getElem_inj h).1 h3
                            omega
                          rw [this, Bool.and_false, Bool.false_and]
                        subst hxy
                        go_upto_region 13 with fail
                        go_region
                        all_goals
                          go_wp2_with fail
                          go_ret
                          have hb := (HG.out ▸ HB0.out : Below w.heap.size w W0)
                          exact ⟨by rw [← HRE.out, hF.out]; rfl, hb.trans (hB.drew.mono hb.size)⟩
                      · have hxl : ((bstr x).toList == (bstr y).toList) = false := by rw [bstr_toList, bstr_toList]; exact beq_eq_false_iff_ne.2 hxy
                        have HXY := Lib.hid hxy
                        clear hxy
                        go_upto_region 13 with fail
                        go_region
                        all_goals
                          go_wp2_with fail
                          go_roundw
                          case rel => exact ⟨q + 1, HQM.out, by go_num, hB.drew, fun i hi => by
                            by_cases hiq : i = q
                            · subst hiq; rw [← HX.out]; exact HXY.out
                            · exact HEQ.out i (by omega)⟩
                          case measure => simp [intOf]; have := HQM.out; omega
                    · have hcq : ¬ (q : Int) < (m : Int) := by omega
                      obtain rfl : q = m := by omega
                      have hqk : (q : Int) < (KN : Int) := by have := HLT.out; omega
                      clear c4 hA
                      go_wp2_with fail
                      go_roundw
                      case rel => exact ⟨q + 1, HLT.out, by go_num, hB, fun j hj => by
                        by_cases hjm : j = q
                        · subst hjm
                          exact ⟨by rw [← HY.out]; exact HU1.out, fun i hi => by rw [← HY.out]; exact HEQ.out i hi⟩
                        · exact HE.out j (by omega)⟩
                      case measure => simp [intOf]; have := HLT.out; omega
              · have hc : ¬ (m : Int) < (KN : Int) := by omega
                have hTR : Hid (R = mayL l (most - 1)) := by
                  show _ = _
                  have h1 : ks.all utf8F = true := List.all_eq_true.2 fun z hz => by
                    obtain ⟨j, hj, rfl⟩ := List.getElem_of_mem hz
                    have := (HE.out j (by rw [HKN.out] at hj; omega)).1
                    rwa [List.getD, List.getElem?_eq_getElem hj] at this
                  have h2 : apartF ks = true := by
                    rw [apart_nodup, List.nodup_iff_pairwise_ne, List.pairwise_iff_getElem]
                    intro i j hi hj hij e
                    have := (HE.out j (by rw [HKN.out] at hj; omega)).2 i hij
                    rw [List.getD, List.getElem?_eq_getElem hi, List.getD, List.getElem?_eq_getElem hj] at this
                    exact this e
                  rw [HR.out, h1, h2, Bool.true_and, Bool.true_and]
                clear HE
                go_wp2_with fail
                clear c1 c3 c4 hA hc hm
                go_loopw [7] (fun i wr => ∃ q : Nat, q ≤ LN ∧ i = .int .i64 (q : Int) ∧ Below W0.heap.size W0 wr ∧ Hid (∀ j u, j < q → l[j]? = some u → mayF u (most - 1) = true)) (fun i _ => LN - (intOf i).toNat)
                case atStart => exact ⟨0, Nat.zero_le _, rfl, hB, fun j u hj => by omega⟩
                case round =>
                  clear hB
                  obtain ⟨q, hq, rfl, hB, HE⟩ := hrel
                  have hA := HA0.out.kept hB
                  have c3 := (hA.cell 3).trans (show _ = some (Value.slice a LN c) from rfl)
                  have hb0 := (HG.out ▸ HB0.out : Below w.heap.size w W0)
                  have hww : Below w.heap.size w wr := hb0.trans (hB.mono hb0.size)
                  have HB := Lib.hid hww
                  by_cases hlt : q < LN
                  · have hc : (q : Int) < (LN : Int) := by omega
                    have hq0 : (0 : Int) ≤ (q : Int) := by omega
                    have hql : q < l.length := by rw [HLN.out]; exact hlt
                    obtain ⟨ab, ao, rfl, hab, hrl⟩ := HL.out (by omega)
                    obtain ⟨x, hx⟩ : ∃ x, l[q]? = some x := ⟨_, List.getElem?_eq_getElem hql⟩
                    obtain ⟨cx, hcx, hcx2, hrx⟩ := rl_at l ab ao q x hrl hx
                    obtain ⟨q0, q1, q2, q3, q4, rfl⟩ := five cx hcx
                    obtain ⟨mo, hmo⟩ : ∃ mo, most = mo + 1 := ⟨most - 1, by have := hMP.out (by rw [HLN.out]; omega); omega⟩
                    have hIH : Hid (∀ W, Below w.heap.size w W → Calls Tryd.prog 28 #[.agg #[q0, q1, q2, q3, q4], .int .i64 ((most : Int) - 1)] W fun e w' => e = .returned (.bool (mayF x (most - 1))) ∧ Below W.heap.size W w') := fun W hW => by
                      have hxm : SizeOf.sizeOf x < SizeOf.sizeOf (JV.mk k s n l ks) := jv_mem (List.mem_of_getElem? hx)
                      have h1 := IH.out x [q0, q1, q2, q3, q4] W mo (by have := HN.out; omega) (rv_to hW x _ hrx) (small_at l _ q x HSM.out.2.2 hx) (by omega)
                      have e1 : (mo : Int) = (most : Int) - 1 := by omega
                      have e2 : mo = most - 1 := by omega
                      rw [e1, e2] at h1
                      exact h1
                    have hmc : q < c := by have := HLC.out; omega
                    have z := fun (j : Nat) (v : Value) (h : [q0, q1, q2, q3, q4][j]? = some v) (hj : j < 5) => (hww.cell (p := ⟨ab, ao + (5 * q + j), none⟩) hab).trans ((hcx2 j hj).trans h)
                    have qc0 : wr.cell? ⟨ab, ao + q * 5, none⟩ = some q0 := by rw [show ao + q * 5 = ao + (5 * q + 0) by omega]; exact z 0 _ rfl (by omega)
                    have qc1 : wr.cell? ⟨ab, ao + q * 5 + 1, none⟩ = some q1 := by rw [show ao + q * 5 + 1 = ao + (5 * q + 1) by omega]; exact z 1 _ rfl (by omega)
                    have qc2 : wr.cell? ⟨ab, ao + q * 5 + 2, none⟩ = some q2 := by rw [show ao + q * 5 + 2 = ao + (5 * q + 2) by omega]; exact z 2 _ rfl (by omega)
                    have qc3 : wr.cell? ⟨ab, ao + q * 5 + 3, none⟩ = some q3 := by rw [show ao + q * 5 + 3 = ao + (5 * q + 3) by omega]; exact z 3 _ rfl (by omega)
                    have qc4 : wr.cell? ⟨ab, ao + q * 5 + 4, none⟩ = some q4 := by rw [show ao + q * 5 + 4 = ao + (5 * q + 4) by omega]; exact z 4 _ rfl (by omega)
                    have hm1 : (1 : Int) ≤ (most : Int) := by omega
                    have hm2 : (most : Int) ≤ 1000 := by omega
                    have HXL := Lib.hid hx
                    have HLT := Lib.hid hlt
                    clear z hcx hcx2 hrx hrl hx hlt hql hww hab hmo
                    cases hxy : mayF x (most - 1) with
                    | true =>
                      rw [hxy] at hIH
                      have HXY := Lib.hid hxy
                      clear hxy
                      go_wp2_with (go_at_call 28; refine (hIH.out _ HB.out).mono ?_; rintro e w1 ⟨rfl, hb1⟩)
                      go_roundw
                      case rel => exact ⟨q + 1, HLT.out, by go_num, hB.trans (hb1.mono hB.size), fun j u hj hu => by
                        by_cases hjq : j = q
                        · subst hjq
                          rw [HXL.out] at hu
                          cases hu
                          exact HXY.out
                        · exact HE.out j u (by omega) hu⟩
                      case measure => simp [intOf]; have := HLT.out; omega
                    | false =>
                      rw [hxy] at hIH
                      have hF : Hid (R = false) := by
                        show _ = _
                        rw [hTR.out]
                        exact Bool.eq_false_iff.2 fun h => by
                          have := (mayL_iff l (most - 1)).1 h q x HXL.out
                          rw [hxy] at this
                          cases this
                      clear hxy
                      go_wp2_with (go_at_call 28; refine (hIH.out _ HB.out).mono ?_; rintro e w1 ⟨rfl, hb1⟩)
                      go_ret
                      exact ⟨by rw [← HRE.out, hF.out]; rfl, HB.out.trans (hb1.mono HB.out.size)⟩
                  · have hc : ¬ (q : Int) < (LN : Int) := by omega
                    have hT : Hid (R = true) := by
                      show _ = _
                      rw [hTR.out, mayL_iff]
                      intro j u hu
                      exact HE.out j u (by have := (List.getElem?_eq_some_iff.1 hu).1; have := HLN.out; omega) hu
                    clear hww
                    go_wp2_with fail
                    go_ret
                    exact ⟨by rw [← HRE.out, hT.out]; rfl, HB.out⟩
theorem rMay_any (v : JV) (cs : List Value) (w : World) (h : RV w v cs) (hs : smallV v 9223372036854775000) :
    Calls Tryd.prog 16 #[.agg cs.toArray] w fun e w' => e = .returned (.bool (mayF v 8)) ∧ Below w.heap.size w w' := by
  obtain ⟨q0, q1, q2, q3, q4, rfl⟩ := five cs (rv_len h)
  have HD := Lib.hid (fun W (hb : Below w.heap.size w W) => rDeep_all (SizeOf.sizeOf v) v _ W 8 (Nat.le_refl _) (rv_to hb v _ h) hs (by omega))
  clear h
  go_enter Tryd.func16, Tryd.ntmps16
  have hb0 : ∀ A : Array Value, Below w.heap.size w (w.alloc (.cells A 26)) := fun A => (Below.refl _ w).alloc (Nat.le_refl _) _
  go_wp2_with (go_at_call 28; refine (HD.out _ (hb0 _)).mono ?_; rintro e w1 ⟨rfl, hb1⟩)
  go_ret
  exact ⟨rfl, (hb0 _).trans (hb1.mono (by simp))⟩
end Go.Proofs.YtbondnljoalajaaDoor
