/-
  Layer 8: the program's above: the nodes of each two of a level. Conditions: those in each statement.
-/
import Derived.Test.YtlfncgpjgbpdjaaMkP
namespace Go.Proofs.Ytlfncgpjgbpdjaa
open Go.RowKit

theorem dcs_append (L M : List (List UInt8)) : dcs (L ++ M) = dcs L ++ dcs M := by simp [dcs]
theorem dcs_set {M : List (List UInt8)} (h : All32 M) {x : List UInt8} (hx : x.length = 32) (k : Nat) (hk : k < M.length) :
    (dcs M).take (k * 32) ++ bvs x ++ (dcs M).drop (k * 32 + (bvs x).length) = dcs (M.set k x) := by
  have e0 : M = M.take k ++ M[k] :: M.drop (k + 1) := by simp
  have l1 : (dcs (M.take k)).length = k * 32 := by rw [dcs_len (h.take k), List.length_take]; congr 1; omega
  have l2 : (bvs M[k]).length = 32 := by rw [bvs_len]; exact h.mem (List.getElem_mem hk)
  have e1 : dcs M = dcs (M.take k) ++ (bvs M[k] ++ dcs (M.drop (k + 1))) := by
    conv => lhs; rw [e0]
    rw [dcs_append]
    exact congrArg _ (List.flatMap_cons ..)
  have e2 : M.set k x = M.take k ++ x :: M.drop (k + 1) := List.set_eq_take_append_cons_drop.trans (by rw [if_pos hk])
  rw [e2, dcs_append, show dcs (x :: M.drop (k + 1)) = bvs x ++ dcs (M.drop (k + 1)) by simp [dcs], e1]
  rw [List.take_left' l1, List.drop_append, List.drop_of_length_le (by rw [l1]; omega), l1, show k * 32 + (bvs x).length - k * 32 = 32 by rw [bvs_len, hx]; omega, List.drop_left' l2]
  simp
/-- a level half done -/
def halfL (P : List (List UInt8)) (k : Nat) : List (List UInt8) := P.take k ++ List.replicate (P.length - k) (Z8 32)
theorem halfL_len (P : List (List UInt8)) (k : Nat) (h : k ≤ P.length) : (halfL P k).length = P.length := by simp [halfL]; omega
theorem halfL_zero (P : List (List UInt8)) : halfL P 0 = List.replicate P.length (Z8 32) := by simp [halfL]
theorem halfL_end (P : List (List UInt8)) : halfL P P.length = P := by simp [halfL]
theorem halfL_all {P : List (List UInt8)} (h : All32 P) (k : Nat) : All32 (halfL P k) := All32.of fun x hx => by
  rcases List.mem_append.1 hx with hx | hx
  · exact (h.take k).mem hx
  · rw [(List.mem_replicate.1 hx).2]; simp [Z8]
theorem halfL_set (P : List (List UInt8)) (k : Nat) (h : k < P.length) : (halfL P k).set k (P.getD k []) = halfL P (k + 1) := by
  unfold halfL
  have e2 : P.take (k + 1) = P.take k ++ [P.getD k []] := by
    rw [List.take_succ_eq_append_getElem h]
    simp [List.getD, h]
  rw [List.set_append_right _ _ (by rw [List.length_take]; omega)]
  have e1 : k - (P.take k).length = 0 := by rw [List.length_take]; omega
  rw [e1, e2, show P.length - k = (P.length - (k + 1)) + 1 by omega, List.replicate_succ, List.set_cons_zero, List.append_assoc]
  rfl
theorem pairs_all (L : List (List UInt8)) : All32 (pairs L) := fun k hk => by
  rw [pairs_len _ L (Nat.le_refl _)] at hk
  rw [pairs_get _ L k (Nat.le_refl _) (by omega)]
  exact shaL_len _

structure InvAbove (S S1 S2 : List UInt8) (PP : List (List UInt8)) (b off n c g k m j0 j1 B : Nat) (u14 u15 u16 u17 u18 u19 u20 u21 u22 u23 u24 u25 u26 u27 u28 u29 : Value) (w0 : World) (L : Nat → Bool) (v14 v15 v16 v17 v18 v19 v20 v21 v22 v23 v24 v25 v26 v27 v28 : Value) (wx : World) : Prop where
  t0 : L 0 = true → v14 = .slice (some ⟨g, 0, none⟩) m m
  t1 : L 1 = true → v15 = .int .i64 (k : Int)
  t2 : L 2 = true → v16 = .slice (some ⟨b, off, none⟩) n c
  t3 : L 3 = true → v17 = .int .i64 (k : Int)
  t4 : L 4 = true → v18 = .int .i64 (j0 : Int)
  t5 : L 5 = true → v19 = .pointer (some ⟨b, off + j0 * 32, none⟩)
  t6 : L 6 = true → v20 = .agg (bvs S1).toArray
  t7 : L 7 = true → v21 = .slice (some ⟨b, off, none⟩) n c
  t8 : L 8 = true → v22 = .int .i64 (k : Int)
  t9 : L 9 = true → v23 = .int .i64 (j0 : Int)
  t10 : L 10 = true → v24 = .int .i64 (j1 : Int)
  t11 : L 11 = true → v25 = .pointer (some ⟨b, off + j1 * 32, none⟩)
  t12 : L 12 = true → v26 = .agg (bvs S2).toArray
  t13 : L 13 = true → v27 = .agg (bvs S).toArray
  t14 : L 14 = true → v28 = .pointer (some ⟨g, k * 32, none⟩)
  a2 : Arr wx g 29 (dcs (halfL PP (if L 15 then k + 1 else k)))
  bw : Below B w0 wx
  le : B ≤ w0.heap.size


end Go.Proofs.Ytlfncgpjgbpdjaa
