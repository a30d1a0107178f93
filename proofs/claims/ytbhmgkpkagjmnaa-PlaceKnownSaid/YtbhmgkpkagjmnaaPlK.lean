/-
  Layer 7: the document's Cover. Conditions: those in each statement.
-/
import Derived.Test.YtbhmgkpkagjmnaaPlJ
namespace Go.Proofs.Ytbhmgkpkagjmnaa
open Go.RowKit

set_option maxHeartbeats 3200000 in
theorem rCover_any (f t : Int) (w : World) (h0 : 0 ≤ f) :
    Calls Try.prog 25 #[.int .u64 f, .int .u64 t] w fun e w' => ∃ v, e = .returned (.tuple #[v, .int .i64 (ceV f t)]) ∧ OwnN w' w.heap.size 24 v (covF f t) ∧ Below w.heap.size w w' := by
  cases hm : okC f t with
  | false =>
    have e1 : covF f t = [] := by simp [covF, hm]
    have e2 : ceV f t = 1 := by simp [ceV, hm]
    rw [e1, e2]
    rcases okC_no hm with h | ⟨h, h'⟩
    · have c : ¬ (f ≤ t) := by omega
      clear hm e1 e2 h
      go_enter Try.func25, Try.ntmps25
      go_wp2
      exact bodyPost_ret (results_tmp2 rfl _ _ _) rfl ⟨_, rfl, OwnN.nil _ _ _, Below.refl _ _⟩
    · have c2 : ¬ (t ≤ 1048576) := by omega
      clear hm e1 e2 h'
      go_enter Try.func25, Try.ntmps25
      go_wp2
      exact bodyPost_ret (results_tmp2 rfl _ _ _) rfl ⟨_, rfl, OwnN.nil _ _ _, Below.refl _ _⟩
  | true =>
    have e2 : ceV f t = 0 := by simp [ceV, hm]
    obtain ⟨a, b, rfl, rfl, hab, hb, hc⟩ := okC_yes h0 hm
    rw [hc, e2]
    have d1 : decide (b < a) = false := decide_eq_false (by omega)
    have d2 : decide ((1048576 : Int) < (b : Int)) = false := decide_eq_false (by omega)
    clear hm e2 hc
    go_enter Try.func25, Try.ntmps25
    go_wp2
    go_loopw [0, 6] (fun fr out wr => ∃ (c n : Nat) (acc : List (Nat × Nat)), fr = .int .u64 (c : Int) ∧ acc ++ covGo b n c = covGo b (b - a) a ∧ b - c ≤ n ∧ c ≤ b ∧ acc.length ≤ c ∧ OwnN wr w.heap.size 24 out acc ∧ Below w.heap.size w wr) (fun fr _ _ => b - (intOf fr).toNat)
    case atStart => exact ⟨a, b - a, [], rfl, rfl, Nat.le_refl _, hab, Nat.zero_le _, OwnN.nil _ _ _, Below.refl _ _⟩
    case round =>
      obtain ⟨c, n, acc, rfl, hacc, hn, hcb, hal, hown, hB⟩ := hrel
      by_cases hlt : c < b
      · have hci : (c : Int) < (b : Int) := by omega
        obtain ⟨m, rfl, hm1, hm2⟩ := covGo_more hlt hn
        rw [hm2] at hacc
        have HACC := Lib.hid hacc
        have HM1 := Lib.hid hm1
        clear hm2 hacc hm1 hn
        go_wp2_with fail
        go_loopw [7] (fun lv wq => ∃ l : Nat, lv = .int .i64 (l : Int) ∧ On c b l ∧ OwnN wq w.heap.size 24 u6 acc ∧ Below w.heap.size w wq) (fun lv _ => 20 - (intOf lv).toNat)
        case atStart => exact ⟨0, rfl, On.start hlt, hown, hB⟩
        case round =>
          clear hown hB
          obtain ⟨l, rfl, ho, hown, hB⟩ := hrel
          have hl := ho.1
          by_cases h20 : l < 20
          · have c20 : (l : Int) < 20 := by omega
            have hwd := fun w => wide_any (l + 1) w (by omega)
            have hpp := Nat.two_pow_pos (l + 1)
            have hpl := pow_le20 (k := l + 1) (by omega)
            have hst : stepB c b l = (decide (c % 2 ^ (l + 1) = 0) && decide (c + 2 ^ (l + 1) ≤ b)) := rfl
            obtain ⟨p, hp⟩ : ∃ p, p = 2 ^ (l + 1) := ⟨_, rfl⟩
            rw [← hp] at hwd hpp hpl hst
            have hpi : ¬ ((p : Int) = 0) := by omega
            clear hp
            by_cases q1 : c % p = 0
            · by_cases q2 : c + p ≤ b
              · have ho2 := ho.step hb (by rw [hst]; simp [q1, q2])
                have q1' : (c : Int) % (p : Int) = 0 := by omega
                have q2' : (c : Int) + (p : Int) ≤ (b : Int) := by omega
                clear hst q1 q2
                go_wp2_with (go_at_call 31; refine (hwd _).mono ?_; rintro _ _ ⟨rfl, rfl⟩)
                go_roundw
                case rel => exact ⟨l + 1, by go_num, ho2, hown, hB⟩
                case measure => simp [intOf]; omega
              · have hs := ho.stop (by rw [hst]; simp [q2])
                have q1' : (c : Int) % (p : Int) = 0 := by omega
                have q2' : ¬ ((c : Int) + (p : Int) ≤ (b : Int)) := by omega
                clear hst q1 q2
                obtain ⟨o1, -, o3, o4⟩ := ho
                have hwl := fun w => wide_any l w o1
                have hp0 := Nat.two_pow_pos l
                obtain ⟨I, hI⟩ : ∃ I, I = c / 2 ^ l := ⟨_, rfl⟩
                obtain ⟨D, hD⟩ : ∃ D, D = c + 2 ^ l := ⟨_, rfl⟩
                have hacc := HACC.out
                have hm1 := HM1.out
                rw [hs, ← hI, ← hD] at hacc
                rw [hs, ← hD] at hm1
                have HA2 := Lib.hid hacc
                have HM2 := Lib.hid hm1
                have hII : (c : Int) / ((2 ^ l : Nat) : Int) = (I : Int) := by rw [hI]; push_cast; rfl
                have hDD : (c : Int) + ((2 ^ l : Nat) : Int) = (D : Int) := by omega
                have hwI : IntKind.u64.wrap (I : Int) = (I : Int) := by
                  have := Nat.div_le_self c (2 ^ l)
                  rw [IntKind.wrap_u64]
                  omega
                have hcD : c + 1 ≤ D := by omega
                have hDb : D ≤ b := by omega
                obtain ⟨pl, hpl⟩ : ∃ pl, pl = 2 ^ l := ⟨_, rfl⟩
                rw [← hpl] at hwl hp0 hII hDD
                have hpi0 : ¬ ((pl : Int) = 0) := by omega
                clear hs hacc hm1 hI hD hpl o3 o4 HACC HM1
                go_wp2_with (first
                  | (go_at_call 31; first | (with_reducible refine (hwl _).mono ?_; rintro _ _ ⟨rfl, rfl⟩) | (refine (hwd _).mono ?_; rintro _ _ ⟨rfl, rfl⟩))
                  | (at_builtin; refine wl_appendN rfl (.tmp 39) (.tmp 46) 49 24 rfl Try.underlying49 _ infoN2 rfl w.heap.size u6 acc rfl (hown.to ((Below.refl _ _).alloc (Nat.le_refl _) _)) _ l I rfl (Arr.new _ _ _) (by omega) (by simp; have := hB.size; omega) ?_; intro v3 w3 ho3 hb3))
                go_roundw
                case rel =>
                  have hb4 := (hB.alloc hB.size _).trans hb3
                  exact ⟨D, m, acc ++ [(l, I)], rfl, by rw [List.append_assoc]; exact HA2.out, HM2.out, hDb, by simp; omega, ho3, hb4⟩
                case measure => simp [intOf]; omega
            · have hs := ho.stop (by rw [hst]; simp [q1])
              have q1' : ¬ ((c : Int) % (p : Int) = 0) := by omega
              clear hst q1
              obtain ⟨o1, -, o3, o4⟩ := ho
              have hwl := fun w => wide_any l w o1
              have hp0 := Nat.two_pow_pos l
              obtain ⟨I, hI⟩ : ∃ I, I = c / 2 ^ l := ⟨_, rfl⟩
              obtain ⟨D, hD⟩ : ∃ D, D = c + 2 ^ l := ⟨_, rfl⟩
              have hacc := HACC.out
              have hm1 := HM1.out
              rw [hs, ← hI, ← hD] at hacc
              rw [hs, ← hD] at hm1
              have HA2 := Lib.hid hacc
              have HM2 := Lib.hid hm1
              have hII : (c : Int) / ((2 ^ l : Nat) : Int) = (I : Int) := by rw [hI]; push_cast; rfl
              have hDD : (c : Int) + ((2 ^ l : Nat) : Int) = (D : Int) := by omega
              have hwI : IntKind.u64.wrap (I : Int) = (I : Int) := by
                have := Nat.div_le_self c (2 ^ l)
                rw [IntKind.wrap_u64]
                omega
              have hcD : c + 1 ≤ D := by omega
              have hDb : D ≤ b := by omega
              obtain ⟨pl, hpl⟩ : ∃ pl, pl = 2 ^ l := ⟨_, rfl⟩
              rw [← hpl] at hwl hp0 hII hDD
              have hpi0 : ¬ ((pl : Int) = 0) := by omega
              clear hs hacc hm1 hI hD hpl o3 o4 HACC HM1
              go_wp2_with (first
                | (go_at_call 31; first | (with_reducible refine (hwl _).mono ?_; rintro _ _ ⟨rfl, rfl⟩) | (refine (hwd _).mono ?_; rintro _ _ ⟨rfl, rfl⟩))
                | (at_builtin; refine wl_appendN rfl (.tmp 39) (.tmp 46) 49 24 rfl Try.underlying49 _ infoN2 rfl w.heap.size u6 acc rfl (hown.to ((Below.refl _ _).alloc (Nat.le_refl _) _)) _ l I rfl (Arr.new _ _ _) (by omega) (by simp; have := hB.size; omega) ?_; intro v3 w3 ho3 hb3))
              go_roundw
              case rel =>
                have hb4 := (hB.alloc hB.size _).trans hb3
                exact ⟨D, m, acc ++ [(l, I)], rfl, by rw [List.append_assoc]; exact HA2.out, HM2.out, hDb, by simp; omega, ho3, hb4⟩
              case measure => simp [intOf]; omega
          · have hs : lvl c b = l := by
              cases h : stepB c b l with
              | true => have := On.lt hb h; omega
              | false => exact ho.stop h
            have c20 : ¬ ((l : Int) < 20) := by omega
            clear h20
            obtain ⟨o1, -, o3, o4⟩ := ho
            have hwl := fun w => wide_any l w o1
            have hp0 := Nat.two_pow_pos l
            obtain ⟨I, hI⟩ : ∃ I, I = c / 2 ^ l := ⟨_, rfl⟩
            obtain ⟨D, hD⟩ : ∃ D, D = c + 2 ^ l := ⟨_, rfl⟩
            have hacc := HACC.out
            have hm1 := HM1.out
            rw [hs, ← hI, ← hD] at hacc
            rw [hs, ← hD] at hm1
            have HA2 := Lib.hid hacc
            have HM2 := Lib.hid hm1
            have hII : (c : Int) / ((2 ^ l : Nat) : Int) = (I : Int) := by rw [hI]; push_cast; rfl
            have hDD : (c : Int) + ((2 ^ l : Nat) : Int) = (D : Int) := by omega
            have hwI : IntKind.u64.wrap (I : Int) = (I : Int) := by
              have := Nat.div_le_self c (2 ^ l)
              rw [IntKind.wrap_u64]
              omega
            have hcD : c + 1 ≤ D := by omega
            have hDb : D ≤ b := by omega
            obtain ⟨pl, hpl⟩ : ∃ pl, pl = 2 ^ l := ⟨_, rfl⟩
            rw [← hpl] at hwl hp0 hII hDD
            have hpi0 : ¬ ((pl : Int) = 0) := by omega
            clear hs hacc hm1 hI hD hpl o3 o4 HACC HM1
            go_wp2_with (first
              | (go_at_call 31; refine (hwl _).mono ?_; rintro _ _ ⟨rfl, rfl⟩)
              | (at_builtin; refine wl_appendN rfl (.tmp 39) (.tmp 46) 49 24 rfl Try.underlying49 _ infoN2 rfl w.heap.size u6 acc rfl (hown.to ((Below.refl _ _).alloc (Nat.le_refl _) _)) _ l I rfl (Arr.new _ _ _) (by omega) (by simp; have := hB.size; omega) ?_; intro v3 w3 ho3 hb3))
            go_roundw
            case rel =>
              have hb4 := (hB.alloc hB.size _).trans hb3
              exact ⟨D, m, acc ++ [(l, I)], rfl, by rw [List.append_assoc]; exact HA2.out, HM2.out, hDb, by simp; omega, ho3, hb4⟩
            case measure => simp [intOf]; omega
      · have hci : ¬ ((c : Int) < (b : Int)) := by omega
        rw [covGo_end (by omega), List.append_nil] at hacc
        have HACC := Lib.hid hacc
        clear hacc
        go_wp2
        exact bodyPost_ret (results_tmp2 rfl _ _ _) rfl ⟨_, rfl, by rw [← HACC.out]; exact hown, hB⟩
end Go.Proofs.Ytbhmgkpkagjmnaa
