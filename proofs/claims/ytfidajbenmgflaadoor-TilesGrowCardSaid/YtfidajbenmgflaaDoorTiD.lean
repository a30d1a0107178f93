/-
  Package tiles: a name cut into numbers, plainly; texts cut. Conditions: those in each statement.
-/
import Derived.Test.YtfidajbenmgflaaDoorTiC
namespace Go.Proofs.YtfidajbenmgflaaDoor
open Go.RowKit

def tDig (c : UInt8) : Bool := decide (48 ≤ c.toNat) && decide (c.toNat ≤ 57)
def tDec (acc : Nat) (l : List UInt8) : Nat := l.foldl (fun n c => n * 10 + (c.toNat - 48)) acc
/-- the number that these digits are, if they are digits -/
def numT (l : List UInt8) : Option Nat := if l.all tDig then some (tDec 0 l) else none
theorem parse_go : ∀ (l : List UInt8) (acc : Nat), (acc + 1) * 10 ^ l.length ≤ 100000000 → Lib.parseUint10 acc l = if l.all tDig then .ok (tDec acc l) else Lib.NumEnd.syntax
  | [], acc, _ => rfl
  | c :: r, acc, h => by
    have hp : 0 < 10 ^ r.length := Nat.pow_pos (by omega)
    have h2 : (acc + 1) * 10 * 10 ^ r.length ≤ 100000000 := by rw [List.length_cons, Nat.pow_succ] at h; rw [Nat.mul_assoc, Nat.mul_comm 10]; exact h
    have h3 : (acc + 1) * 10 ≤ 100000000 := Nat.le_trans (Nat.le_mul_of_pos_right _ hp) h2
    unfold Lib.parseUint10
    by_cases hc : 48 ≤ c.toNat ∧ c.toNat ≤ 57
    · have hd : tDig c = true := by simp [tDig, hc]
      have ih := parse_go r (acc * 10 + (c.toNat - 48)) (by
        refine Nat.le_trans (Nat.mul_le_mul_right _ ?_) h2
        omega)
      rw [if_pos hc, if_neg (by omega), if_neg (by omega), ih, List.all_cons, hd, Bool.true_and]
      rfl
    · have hd : tDig c = false := by
        simp only [tDig, Bool.and_eq_false_iff, decide_eq_false_iff_not]
        omega
      rw [if_neg hc, List.all_cons, hd, Bool.false_and]
      rfl
theorem parse_num (l : List UInt8) (h0 : l ≠ []) (h : l.length ≤ 7) : Lib.parseUintB 64 l = (numT l).elim Lib.NumEnd.syntax .ok := by
  have hp : 10 ^ l.length ≤ 10 ^ 7 := Nat.pow_le_pow_right (by omega) h
  rw [Lib.parseUintB_64, Lib.parseMag, if_neg h0, parse_go l 0 (by omega)]
  unfold numT
  cases l.all tDig <;> rfl
/-- one field is cut off: the number, what is left -/
def cutP (k : Nat) (s : List UInt8) : Option (Nat × List UInt8) :=
  if Lib.hasPrefix s (ahd k) = true ∧ dgt k ≤ (s.drop 1).length then
    match numT ((s.drop 1).take (dgt k)) with
    | some n => if lst k ≤ n ∧ n ≤ mst k then some (n, (s.drop 1).drop (dgt k)) else none
    | none => none
  else none
def restTo (s : List UInt8) : Nat → Option (List UInt8)
  | 0 => some s
  | k + 1 => (restTo s k).bind fun r => (cutP k r).map (·.2)
def numAt (s : List UInt8) (k : Nat) : Nat := ((restTo s k).bind (cutP k)).elim 0 (·.1)
def okN (s : List UInt8) : Bool := decide (restTo s 3 = some [])
theorem rest_none {s : List UInt8} {k m : Nat} (h : k ≤ m) (hn : restTo s k = none) : restTo s m = none := by
  induction m with
  | zero => rw [Nat.le_zero.1 h] at hn; exact hn
  | succ m ih =>
    rcases Nat.lt_or_ge k (m + 1) with h1 | h1
    · rw [restTo, ih (by omega)]; rfl
    · rw [show m + 1 = k by omega]; exact hn
theorem okN_no {s r : List UInt8} {k : Nat} (hk : k < 3) (hr : restTo s k = some r) (hn : cutP k r = none) : okN s = false := by
  have h1 : restTo s (k + 1) = none := by rw [restTo, hr]; simp [hn]
  have h2 := rest_none (show k + 1 ≤ 3 by omega) h1
  unfold okN
  rw [h2]
  rfl
section
variable (W : World) (s : List UInt8) (j : Nat)
theorem slice_take (hj : j ≤ s.length) : (Instr.sliceAt 9 (txt s) none (some (.int .i64 (j : Int))) none).run Tryd.prog W = .ok (txt (s.take j)) W := by
  have hsz : (⟨s.toArray⟩ : ByteArray).size = s.length := by simp [ByteArray.size]
  have hx : (⟨s.toArray⟩ : ByteArray).extract 0 j = ⟨(s.take j).toArray⟩ := by
    apply ByteArray.ext
    simp [ByteArray.data_extract]
  rw [run_sliceAt_string _ _ _ _ _ _ Tryd.underlying9]
  simp [Instr.slice, Instr.sliceBounds, Instr.sliceBound, asIntOf, run_underlying Tryd.underlying9, hx]
  intro h
  rw [hsz] at h
  omega
theorem slice_drop (hj : j ≤ s.length) : (Instr.sliceAt 9 (txt s) (some (.int .i64 (j : Int))) none none).run Tryd.prog W = .ok (txt (s.drop j)) W := by
  have hsz : (⟨s.toArray⟩ : ByteArray).size = s.length := by simp [ByteArray.size]
  have hx : (⟨s.toArray⟩ : ByteArray).extract j s.length = ⟨(s.drop j).toArray⟩ := by
    apply ByteArray.ext
    simp [ByteArray.data_extract]
    exact List.take_of_length_le (by simp)
  rw [run_sliceAt_string _ _ _ _ _ _ Tryd.underlying9]
  simp [Instr.slice, Instr.sliceBounds, Instr.sliceBound, asIntOf, run_underlying Tryd.underlying9, hx, hsz]
  intro h
  omega
end
end Go.Proofs.YtfidajbenmgflaaDoor
