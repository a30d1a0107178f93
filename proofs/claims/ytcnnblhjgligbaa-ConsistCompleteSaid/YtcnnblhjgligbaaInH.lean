/-
  Layer 10: the document's head. Conditions: those in each statement.
-/
import Derived.Test.YtcnnblhjgligbaaInG
namespace Go.Proofs.Ytcnnblhjgligbaa
open Go.RowKit

theorem rg_len_s : ∀ (N n i s t : Nat), n ≤ N → (rgF i n s).length = (rgF i n t).length := by
  intro N
  induction N using Nat.strongRecOn with
  | _ N ih =>
    intro n i s t hN
    by_cases h1 : n ≤ 1
    · rw [rgF_one _ _ _ h1, rgF_one _ _ _ h1]
    · obtain ⟨b1, b2, b3⟩ := splK_bounds (n := n) (by omega)
      by_cases h : i < splK n
      · rw [rgF_low _ _ _ (by omega) h, rgF_low _ _ _ (by omega) h, List.length_append, List.length_append, ih (splK n) (by omega) (splK n) i s t (Nat.le_refl _)]
        rfl
      · rw [rgF_high _ _ _ (by omega) h, rgF_high _ _ _ (by omega) h, List.length_append, List.length_append, ih (n - splK n) (by omega) (n - splK n) (i - splK n) (s + splK n) (t + splK n) (Nat.le_refl _)]
        rfl
structure InvHead6 (d X y S : List UInt8) (i n k q pb po c g4 g8 g11 : Nat) (W0 : World) (L : Nat → Bool) (v29 v30 v31 v32 v33 v34 v35 v36 v37 v38 v39 : Value) (wx : World) : Prop where
  t0 : L 0 = true → v29 = .agg (bvs d).toArray
  t1 : L 1 = true → v30 = .int .u64 ↑i
  t2 : L 2 = true → v31 = .int .u64 ↑k
  t3 : L 3 = true → v32 = .slice (some ⟨pb, po, none⟩) (q + 1) c
  t4 : L 4 = true → v33 = .slice (some ⟨pb, po, none⟩) (q + 1) c
  t5 : L 5 = true → v34 = .int .i64 ((q : Int) + 1)
  t6 : L 6 = true → v35 = .int .i64 (q : Int)
  t7 : L 7 = true → v36 = .slice (some ⟨pb, po, none⟩) q c
  t8 : L 8 = true → v37 = .agg (bvs X).toArray
  t9 : L 9 = true → v38 = .agg (bvs y).toArray
  t10 : L 10 = true → v39 = .agg (bvs S).toArray
  bw : L 11 = false → Below W0.heap.size W0 wx
  fin : L 11 = true → ∃ wy, Below W0.heap.size W0 wy ∧ Arr wx g8 41 (bvs S) ∧ wy.grownBy wx (some g8)
structure InvHead7 (d X y S : List UInt8) (i n k q pb po c g4 g8 g11 : Nat) (W0 : World) (L : Nat → Bool) (v40 v41 v42 v43 v44 v45 v46 v47 v48 v49 v50 v51 v52 v53 v54 : Value) (wx : World) : Prop where
  t0 : L 0 = true → v40 = .agg (bvs y).toArray
  t1 : L 1 = true → v41 = .agg (bvs d).toArray
  t2 : L 2 = true → v42 = .int .u64 ↑i
  t3 : L 3 = true → v43 = .int .u64 ↑k
  t4 : L 4 = true → v44 = .int .u64 ((i : Int) - (k : Int))
  t5 : L 5 = true → v45 = .int .u64 ↑n
  t6 : L 6 = true → v46 = .int .u64 ↑k
  t7 : L 7 = true → v47 = .int .u64 ((n : Int) - (k : Int))
  t8 : L 8 = true → v48 = .slice (some ⟨pb, po, none⟩) (q + 1) c
  t9 : L 9 = true → v49 = .slice (some ⟨pb, po, none⟩) (q + 1) c
  t10 : L 10 = true → v50 = .int .i64 ((q : Int) + 1)
  t11 : L 11 = true → v51 = .int .i64 (q : Int)
  t12 : L 12 = true → v52 = .slice (some ⟨pb, po, none⟩) q c
  t13 : L 13 = true → v53 = .agg (bvs X).toArray
  t14 : L 14 = true → v54 = .agg (bvs S).toArray
  bw : L 15 = false → Below W0.heap.size W0 wx
  fin : L 15 = true → ∃ wy, Below W0.heap.size W0 wy ∧ Arr wx g8 41 (bvs S) ∧ wy.grownBy wx (some g8)
end Go.Proofs.Ytcnnblhjgligbaa
