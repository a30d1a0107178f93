/-
  Layer 7: the program's spots: a node as a complex number, and back; up, down, next, leaves. Conditions: those in each statement.
-/
import Derived.Test.YtbhmgkpkagjmnaaArr
import Derived.Test.YtbhmgkpkagjmnaaPlA
import Derived.ProofKit
import Derived.Outline
import Derived.StillTailTactics
import Derived.Deep.DeepCutAuto
import Derived.Deep.CutBlock
import Derived.Deep.RegionHeld3
import Derived.Lib.Hide
namespace Go.Proofs.Ytbhmgkpkagjmnaa
open Go.RowKit

/-- a spot -/
def sp (l i : Nat) : Value := .complex .f64 (F i) (F l)

theorem min_i64 : IntKind.i64.min = -9223372036854775808 := by decide
theorem max_i64 : IntKind.i64.max = 9223372036854775807 := by decide
theorem min_u64 : IntKind.u64.min = 0 := by decide
theorem max_u64 : IntKind.u64.max = 18446744073709551615 := by decide

theorem spotOf_any (l i : Nat) (w : World) (hl : l < 2 ^ 40) (hi : i < 2 ^ 40) :
    Calls Try.prog 29 #[.agg #[.int .i64 l, .int .u64 i]] w fun e w' => e = .returned (sp l i) ∧ Below w.heap.size w w' := by
  have f1 : floatOfInt .f64 (l : Int) = F l := F_of_int l (by omega)
  have f2 : floatOfInt .f64 (i : Int) = F i := F_of_int i (by omega)
  unfold sp
  go_enter Try.func29, Try.ntmps29
  go_wp2
  go_ret
  exact ⟨rfl, (Below.refl _ _).alloc (Nat.le_refl _) _⟩

theorem node_any (l i : Nat) (w : World) (hl : l < 2 ^ 40) (hi : i < 2 ^ 40) :
    Calls Try.prog 33 #[sp l i] w fun e w' => e = .returned (.agg #[.int .i64 l, .int .u64 i]) ∧ Below w.heap.size w w' := by
  have f1 : floatToIntVal .f64 (F l) .i64 = some (l : Int) := int_F _ _ (by omega) (by rw [min_i64]; omega) (by rw [max_i64]; omega)
  have f2 : floatToIntVal .f64 (F i) .u64 = some (i : Int) := int_F _ _ (by omega) (by rw [min_u64]; omega) (by rw [max_u64]; omega)
  have g1 : ∀ w, (convert 71 3 (.float .f64 (F l))).run Try.prog w = .ok (.int .i64 l) w := fun w => run_convert_float_int w _ _ _ _ _ _ (by kernel_rfl) Try.underlying3 f1
  have g2 : ∀ w, (convert 71 22 (.float .f64 (F i))).run Try.prog w = .ok (.int .u64 i) w := fun w => run_convert_float_int w _ _ _ _ _ _ (by kernel_rfl) Try.underlying22 f2
  clear f1 f2
  unfold sp
  go_enter Try.func33, Try.ntmps33
  go_wp2
  exact end_cell rfl w.heap.size 25 [.int .i64 l, .int .u64 i] _ rfl (Arr.new _ _ _) Try.underlying25 rfl (by kernel_rfl) rfl ⟨rfl, (Below.refl _ _).alloc (Nat.le_refl _) _⟩

theorem floorE (nm : String) (x : Nat) (s : Bool) (m : Nat) (p : Int) (h : FloatKind.f64.decode x = .number s m p) :
    Extern.MathFloor.toIntegral nm .down #[.float .f64 x] = pure (.float .f64 (FloatKind.f64.encode ((Ieee.Datum.number s m p).integral .down))) := by
  delta Extern.MathFloor.toIntegral
  conv => lhs; whnf
  rw [h]
theorem floor_call (a : Nat) (ha : a < 2 ^ 52) (w : World) : (callFunc 39 #[.float .f64 (fw a (-1))]).run Try.prog w = .ok (.value (.float .f64 (F (a / 2)))) w := by
  rw [run_callFunc_extern Try.func39 (by decide) (by kernel_rfl) (by kernel_rfl) (e := Extern.MathFloor.toIntegral "math.archFloor" .down) (by kernel_rfl)]
  have h := floor_half a ha
  have e : (Extern.MathFloor.toIntegral "math.archFloor" .down #[.float .f64 (fw a (-1))]).run Try.prog w = .ok (.float .f64 (F (a / 2))) w := by
    cases hd : FloatKind.f64.decode (fw a (-1)) with
    | nan s t => simp [hd, Ieee.Datum.integral] at h
    | infinity s => simp [hd, Ieee.Datum.integral] at h
    | number s m p =>
      rw [floorE _ _ s m p hd, ← hd, h, encode_F (a / 2) (by omega)]
      rfl
  rw [e]
  rfl

theorem floor_any (a : Nat) (ha : a < 2 ^ 52) (w : World) :
    Calls Try.prog 38 #[.float .f64 (fw a (-1))] w fun e w' => e = .returned (.float .f64 (F (a / 2))) ∧ w' = w := by
  have h : ∀ w, (callFunc 39 #[.float .f64 (fw a (-1))]).run Try.prog w = .ok (.value (.float .f64 (F (a / 2)))) w := floor_call a ha
  go_enter Try.func38, Try.ntmps38
  go_wp2
  go_ret
  exact ⟨rfl, rfl⟩

theorem next_any (l i : Nat) (w : World) (hl : l < 2 ^ 40) (hi : i < 2 ^ 40) :
    Calls Try.prog 35 #[sp l i] w fun e w' => e = .returned (sp l (i + 1)) ∧ w' = w := by
  have g1 : ∀ w, (binOp .add 63 (.complex .f64 (F i) (F l)) (.complex .f64 4607182418800017408 0)).run Try.prog w = .ok (.complex .f64 (F (i + 1)) (F l)) w := fun w => run_complex_sum w _ (.inl rfl) _ _ _ _ _ _ _ _ (by
    have h1 := add_F i 1 (by omega) (by omega)
    have h2 := add_F l 0 (by omega) (by omega)
    rw [F1] at h1
    rw [F0] at h2
    simp [cSumBits, h1, h2])
  unfold sp
  go_enter Try.func35, Try.ntmps35
  go_wp2
  go_ret
  exact ⟨rfl, rfl⟩

theorem up_any (l i : Nat) (w : World) (hl : l < 2 ^ 40) (hi : i < 2 ^ 40) :
    Calls Try.prog 32 #[sp l i] w fun e w' => e = .returned (sp (l + 1) (i / 2)) ∧ w' = w := by
  have g1 : ∀ w, (binOp .add 63 (.complex .f64 (F (i / 2)) (F l)) (.complex .f64 0 4607182418800017408)).run Try.prog w = .ok (.complex .f64 (F (i / 2)) (F (l + 1))) w := fun w => run_complex_sum w _ (.inl rfl) _ _ _ _ _ _ _ _ (by
    have h1 := add_F (i / 2) 0 (by omega) (by omega)
    have h2 := add_F l 1 (by omega) (by omega)
    rw [F0] at h1
    rw [F1] at h2
    simp [cSumBits, h1, h2])
  have g2 : ∀ w, (binOp .quo 71 (.float .f64 (F i)) (.float .f64 4611686018427387904)).run Try.prog w = .ok (.float .f64 (fw i (-1))) w := fun w => run_float_arith w _ _ _ _ _ _ (by
    have := half_F i (by omega)
    rwa [F2] at this)
  unfold sp
  go_enter Try.func32, Try.ntmps32
  go_wp2_with (refine (floor_any i (by omega) _).mono ?_; rintro _ _ ⟨rfl, rfl⟩)
  go_ret
  exact ⟨rfl, rfl⟩

theorem down_any (l i : Nat) (w : World) (hl : l < 2 ^ 40) (hi : i < 2 ^ 40) (h1 : 1 ≤ l) :
    Calls Try.prog 34 #[sp l i] w fun e w' => e = .returned (sp (l - 1) (2 * i)) ∧ w' = w := by
  have g1 : ∀ w, (binOp .sub 63 (.complex .f64 (F (2 * i)) (F l)) (.complex .f64 0 4607182418800017408)).run Try.prog w = .ok (.complex .f64 (F (2 * i)) (F (l - 1))) w := fun w => run_complex_sum w _ (.inr rfl) _ _ _ _ _ _ _ _ (by
    have h1 := sub_F (2 * i) 0 (by omega) (by omega)
    have h2 := sub_F l 1 (by omega) (by omega)
    rw [F0] at h1
    rw [F1] at h2
    simp [cSumBits, h1, h2])
  have g2 : ∀ w, (binOp .mul 71 (.float .f64 (F i)) (.float .f64 4611686018427387904)).run Try.prog w = .ok (.float .f64 (F (2 * i))) w := fun w => run_float_arith w _ _ _ _ _ _ (by
    have := mul_F i (by omega)
    rwa [F2] at this)
  unfold sp
  go_enter Try.func34, Try.ntmps34
  go_wp2
  go_ret
  exact ⟨rfl, rfl⟩

theorem wrap_shl (x l : Nat) (h : x * 2 ^ l < 2 ^ 64) : IntKind.u64.wrap ((x : Int) * 2 ^ l) = ((x * 2 ^ l : Nat) : Int) := by
  have e : ((x : Int) * 2 ^ l) = ((x * 2 ^ l : Nat) : Int) := by push_cast; rfl
  rw [IntKind.wrap_u64, e]
  generalize x * 2 ^ l = n at *
  omega
theorem wrap_shl1 (x l : Nat) (h : (x + 1) * 2 ^ l < 2 ^ 64) : IntKind.u64.wrap (((x : Int) + 1) * 2 ^ l) = (((x + 1) * 2 ^ l : Nat) : Int) := by
  have := wrap_shl (x + 1) l h
  rwa [show ((x + 1 : Nat) : Int) = (x : Int) + 1 by omega] at this

set_option maxRecDepth 100000 in
set_option maxHeartbeats 1600000 in
theorem leaves_any (l i : Nat) (w : World) (hl : l ≤ 40) (hi : i < 2 ^ 22) (hb : (i + 1) * 2 ^ l < 2 ^ 40) :
    Calls Try.prog 30 #[sp l i] w fun e w' => e = .returned (.tuple #[.int .u64 ((i * 2 ^ l : Nat) : Int), .int .u64 (((i + 1) * 2 ^ l : Nat) : Int)]) ∧ Below w.heap.size w w' := by
  have hi2 : i * 2 ^ l < 2 ^ 40 := Nat.lt_of_le_of_lt (Nat.mul_le_mul_right _ (Nat.le_succ i)) hb
  have k1 := Lib.hid (wrap_shl i l (by omega))
  have k2 := Lib.hid (wrap_shl1 i l (by omega))
  clear hb hi2
  go_enter Try.func30, Try.ntmps30
  go_upto_region 2 with (refine (node_any l i _ (by omega) (by omega)).mono ?_; rintro _ w1 ⟨rfl, h1⟩)
  go_region
  rw [k1.out, k2.out]
  go_wp2
  exact bodyPost_ret (results_tmp2 rfl _ _ _) rfl ⟨rfl, (h1.alloc h1.size _).drew⟩

/-- whether a node may be -/
def mayB (l i : Int) : Bool := decide (0 ≤ l) && decide (l ≤ 20) && decide (i < 2 ^ (20 - l.toNat))
theorem mayB_nat (l i : Nat) : mayB l i = (decide (l ≤ 20) && decide (i < 2 ^ (20 - l))) := by
  have e : ((2 : Int) ^ (20 - l)) = ((2 ^ (20 - l) : Nat) : Int) := by push_cast; rfl
  have h2 : decide ((l : Int) ≤ 20) = decide (l ≤ 20) := by simp only [decide_eq_decide]; omega
  have h3 : decide ((i : Int) < ((2 ^ (20 - l) : Nat) : Int)) = decide (i < 2 ^ (20 - l)) := by simp only [decide_eq_decide]; omega
  have h0 : decide ((0 : Int) ≤ (l : Int)) = true := decide_eq_true (by omega)
  simp only [mayB, Int.toNat_natCast, e, h0, h2, h3, Bool.true_and]
theorem mayB_cases (l i : Int) (hi : 0 ≤ i) (h : mayB l i = true) : ∃ L I : Nat, l = L ∧ i = I ∧ L ≤ 20 ∧ I < 2 ^ (20 - L) ∧ (I + 1) * 2 ^ L ≤ 2 ^ 20 ∧ I < 2 ^ 20 := by
  have h0 : 0 ≤ l := by
    simp [mayB] at h
    omega
  obtain ⟨L, rfl⟩ := Int.eq_ofNat_of_zero_le h0
  obtain ⟨I, rfl⟩ := Int.eq_ofNat_of_zero_le hi
  have h' := mayB_nat L I
  rw [h'] at h
  simp at h
  have h5 := Nat.mul_le_mul_right (2 ^ L) (show I + 1 ≤ 2 ^ (20 - L) by omega)
  rw [← Nat.pow_add, show 20 - L + L = 20 by omega] at h5
  have h6 : 2 ^ (20 - L) ≤ 2 ^ 20 := Nat.pow_le_pow_right (by omega) (by omega)
  exact ⟨L, I, rfl, rfl, h.1, h.2, h5, by omega⟩

theorem shr_20 (l : Nat) (h : l ≤ 20) : (1048576 : Int) / 2 ^ l = 2 ^ (20 - l) := by
  have : ∀ l, l < 21 → (1048576 : Int) / 2 ^ l = 2 ^ (20 - l) := by decide
  exact this l (by omega)

set_option maxHeartbeats 1600000 in
theorem May_any (l i : Int) (w : World) :
    Calls Try.prog 19 #[.agg #[.int .i64 l, .int .u64 i]] w fun e w' => e = .returned (.bool (mayB l i)) ∧ Below w.heap.size w w' := by
  by_cases h0 : 0 ≤ l
  · by_cases h1 : l ≤ 20
    · obtain ⟨L, rfl⟩ := Int.eq_ofNat_of_zero_le h0
      have hm : mayB L i = decide (i < 2 ^ (20 - L)) := by simp [mayB, h1]
      have hk := Lib.hid hm
      have h2 := shr_20 L (by omega)
      clear hm
      go_enter Try.func19, Try.ntmps19
      go_upto_region 1 with fail
      go_region
      go_wp2
      go_ret
      exact ⟨by rw [hk.out]; rfl, ((Below.refl _ _).alloc (Nat.le_refl _) _).drew⟩
    · have hm : mayB l i = false := by simp [mayB, h1]
      rw [hm]
      clear hm
      go_enter Try.func19, Try.ntmps19
      go_upto_region 1 with fail
      go_region
      go_wp2
      go_ret
      exact ⟨rfl, ((Below.refl _ _).alloc (Nat.le_refl _) _).drew⟩
  · have hm : mayB l i = false := by simp [mayB, h0]
    rw [hm]
    clear hm
    go_enter Try.func19, Try.ntmps19
    go_upto_region 1 with fail
    go_region
    go_wp2
    go_ret
    exact ⟨rfl, ((Below.refl _ _).alloc (Nat.le_refl _) _).drew⟩
end Go.Proofs.Ytbhmgkpkagjmnaa
