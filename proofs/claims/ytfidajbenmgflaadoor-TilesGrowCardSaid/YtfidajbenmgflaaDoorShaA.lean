/-
  Package sha: numbers of 32 bits, turned. Conditions: those in each statement.
-/
import Derived.Test.YtfidajbenmgflaaDoorRows
import Derived.WalkKit
import Derived.Lib.Hide
import Derived.ProofKit
import Derived.Outline
namespace Go.Proofs.YtfidajbenmgflaaDoor
open Go.RowKit

theorem ret_val {a b : Value} (h : a = b) : Ending.returned a = .returned b := by rw [h]
/-- a number of 32 bits as a value -/
def q (x : UInt32) : Value := .int .u32 (x.toNat : Int)
/-- turned to the right -/
def rot (x : UInt32) (k : Nat) : UInt32 := UInt32.ofNat ((x.toNat / 2 ^ k) ||| (x.toNat * 2 ^ (32 - k) % 4294967296))

theorem u32_lt (x : UInt32) : x.toNat < 4294967296 := x.toNat_lt
theorem bits_u32_or (a b : Nat) (ha : a < 4294967296) (hb : b < 4294967296) : bits .or .u32 (a : Int) (b : Int) = ((a ||| b : Nat) : Int) :=
  (bits_nat .u32 32 (by decide) (fun n h0 h1 => by rw [IntKind.wrap_u32]; omega) a b (by simpa using ha) (by simpa using hb)).2
theorem bits_u32_and (a b : Nat) (ha : a < 4294967296) (hb : b < 4294967296) : bits .and .u32 (a : Int) (b : Int) = ((a &&& b : Nat) : Int) :=
  (bits_nat .u32 32 (by decide) (fun n h0 h1 => by rw [IntKind.wrap_u32]; omega) a b (by simpa using ha) (by simpa using hb)).1
theorem bits_u32_xor (a b : Nat) (ha : a < 4294967296) (hb : b < 4294967296) : bits .xor .u32 (a : Int) (b : Int) = ((a ^^^ b : Nat) : Int) := by
  have e1 : a % 2 ^ 32 = a := Nat.mod_eq_of_lt (by simpa using ha)
  have e2 : b % 2 ^ 32 = b := Nat.mod_eq_of_lt (by simpa using hb)
  have hlt : a ^^^ b < 2 ^ 32 := Nat.xor_lt_two_pow (by simpa using ha) (by simpa using hb)
  have hw : IntKind.u32.bits = 32 := rfl
  simp only [bits, hw, BitVec.ofInt_natCast, BitVec.toNat_xor, BitVec.toNat_ofNat, e1, e2]
  rw [IntKind.wrap_u32]
  omega
theorem q_or (x y : UInt32) : bits .or .u32 (x.toNat : Int) (y.toNat : Int) = ((x ||| y).toNat : Int) := by rw [bits_u32_or _ _ (u32_lt x) (u32_lt y), UInt32.toNat_or]
theorem q_and (x y : UInt32) : bits .and .u32 (x.toNat : Int) (y.toNat : Int) = ((x &&& y).toNat : Int) := by rw [bits_u32_and _ _ (u32_lt x) (u32_lt y), UInt32.toNat_and]
theorem q_xor (x y : UInt32) : bits .xor .u32 (x.toNat : Int) (y.toNat : Int) = ((x ^^^ y).toNat : Int) := by rw [bits_u32_xor _ _ (u32_lt x) (u32_lt y), UInt32.toNat_xor]
theorem q_add (x y : UInt32) : ((x.toNat : Int) + (y.toNat : Int)) % 4294967296 = ((x + y).toNat : Int) := by rw [UInt32.toNat_add]; simp
theorem q_not (x : UInt32) : bits .xor .u32 (if IntKind.u32.signed = true then -1 else IntKind.u32.max) (x.toNat : Int) = ((~~~x).toNat : Int) := by
  have h : (if IntKind.u32.signed = true then -1 else IntKind.u32.max) = (((4294967295 : UInt32).toNat : Nat) : Int) := by decide
  have e : (4294967295 : UInt32) ^^^ x = ~~~x := by
    apply UInt32.toBitVec_inj.1
    simp
    exact BitVec.allOnes_xor
  rw [h, q_xor, e]
theorem rot_toNat (x : UInt32) (k : Nat) : (rot x k).toNat = (x.toNat / 2 ^ k) ||| (x.toNat * 2 ^ (32 - k) % 4294967296) := by
  unfold rot
  rw [UInt32.toNat_ofNat']
  refine Nat.mod_eq_of_lt ?_
  have h1 : x.toNat / 2 ^ k < 2 ^ 32 := Nat.lt_of_le_of_lt (Nat.div_le_self _ _) (by simpa using u32_lt x)
  exact Nat.or_lt_two_pow h1 (Nat.mod_lt _ (by decide))
theorem rot_bits (x : UInt32) (k : Nat) : bits .or .u32 ((x.toNat : Int) / 2 ^ k) ((x.toNat : Int) * 2 ^ (32 - k) % 4294967296) = ((rot x k).toNat : Int) := by
  have e1 : (x.toNat : Int) / 2 ^ k = ((x.toNat / 2 ^ k : Nat) : Int) := by simp
  have e2 : (x.toNat : Int) * 2 ^ (32 - k) % 4294967296 = ((x.toNat * 2 ^ (32 - k) % 4294967296 : Nat) : Int) := by simp
  have h1 : x.toNat / 2 ^ k < 4294967296 := Nat.lt_of_le_of_lt (Nat.div_le_self _ _) (u32_lt x)
  rw [e1, e2, bits_u32_or _ _ h1 (Nat.mod_lt _ (by decide)), rot_toNat]
theorem rot_bits' (x : UInt32) (k : Nat) : bits .or .u32 ((x.toNat : Int) * 2 ^ (32 - k) % 4294967296) ((x.toNat : Int) / 2 ^ k) = ((rot x k).toNat : Int) := by
  have e1 : (x.toNat : Int) / 2 ^ k = ((x.toNat / 2 ^ k : Nat) : Int) := by simp
  have e2 : (x.toNat : Int) * 2 ^ (32 - k) % 4294967296 = ((x.toNat * 2 ^ (32 - k) % 4294967296 : Nat) : Int) := by simp
  have h1 : x.toNat / 2 ^ k < 4294967296 := Nat.lt_of_le_of_lt (Nat.div_le_self _ _) (u32_lt x)
  rw [e1, e2, bits_u32_or _ _ (Nat.mod_lt _ (by decide)) h1, rot_toNat, Nat.or_comm]

/-- how far a block turns -/
def turns (k : Nat) : Prop := k = 2 ∨ k = 6 ∨ k = 7 ∨ k = 11 ∨ k = 13 ∨ k = 17 ∨ k = 18 ∨ k = 19 ∨ k = 22 ∨ k = 25

theorem rturn_any (x : UInt32) (k : Int) (hk : turns k.toNat) (h0 : 0 ≤ k) (w : World) :
    Calls Tryd.prog 79 #[.int .u32 (x.toNat : Int), .int .u64 k] w fun e w' => e = .returned (.int .u32 ((rot x k.toNat).toNat : Int)) ∧ w = w' := by
  obtain ⟨k, rfl⟩ := Int.eq_ofNat_of_zero_le h0
  rw [Int.toNat_natCast] at *
  have hx := u32_lt x
  have h32 : k < 32 := by unfold turns at hk; omega
  have e := rot_bits x k
  go_enter Tryd.func79, Tryd.ntmps79
  go_wp2
  go_ret
  exact ⟨ret_val rfl, rfl⟩
theorem masks : bits .and .u64 (IntKind.u64.wrap (-2)) 31 = 30 ∧ bits .and .u64 (IntKind.u64.wrap (-6)) 31 = 26 ∧ bits .and .u64 (IntKind.u64.wrap (-7)) 31 = 25 ∧ bits .and .u64 (IntKind.u64.wrap (-11)) 31 = 21 ∧ bits .and .u64 (IntKind.u64.wrap (-13)) 31 = 19 ∧ bits .and .u64 (IntKind.u64.wrap (-17)) 31 = 15 ∧ bits .and .u64 (IntKind.u64.wrap (-18)) 31 = 14 ∧ bits .and .u64 (IntKind.u64.wrap (-19)) 31 = 13 ∧ bits .and .u64 (IntKind.u64.wrap (-22)) 31 = 10 ∧ bits .and .u64 (IntKind.u64.wrap (-25)) 31 = 7 := by decide +kernel
theorem turn_any (x : UInt32) (k : Int) (hk : turns k.toNat) (h0 : 0 ≤ k) (w : World) :
    Calls Tryd.prog 83 #[.int .u32 (x.toNat : Int), .int .i64 k] w fun e w' => e = .returned (.int .u32 ((rot x k.toNat).toNat : Int)) ∧ w = w' := by
  obtain ⟨k, rfl⟩ := Int.eq_ofNat_of_zero_le h0
  rw [Int.toNat_natCast] at *
  have hx := u32_lt x
  have e := rot_bits' x k
  have hf : ∀ s : Int, s = 32 - k → bits .or .u32 ((x.toNat : Int) * 2 ^ s.toNat % 4294967296) ((x.toNat : Int) / 2 ^ (32 - s).toNat) = ((rot x k).toNat : Int) := by
    rintro s rfl
    unfold turns at hk
    rw [show ((32 : Int) - k).toNat = 32 - k by omega, show ((32 : Int) - (32 - k)).toNat = k by omega]
    exact e
  unfold turns at hk
  have H := Lib.hid hf
  clear hf e h0
  obtain ⟨m2, m6, m7, m11, m13, m17, m18, m19, m22, m25⟩ := masks
  rcases hk with rfl | rfl | rfl | rfl | rfl | rfl | rfl | rfl | rfl | rfl
  all_goals
    go_enter Tryd.func83, Tryd.ntmps83
    go_wp2
    go_ret
    exact ⟨ret_val (congrArg _ (H.out _ rfl)), rfl⟩
end Go.Proofs.YtfidajbenmgflaaDoor
