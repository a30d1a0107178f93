/-
  Layer 10: the document's Path. Conditions: those in each statement.
-/
import Derived.Test.YtcnnblhjgligbaaInJ
namespace Go.Proofs.Ytcnnblhjgligbaa
open Go.RowKit

section
variable {P : Program} {ops : Array Oper} {rest : List Oper} {o : Oper} {a : Act} {K : Act → World → Prop} {Q : Exit → Act → World → Prop} {w : World}
/-- what is known of an operation as a list's last one is known of it alone -/
theorem ow_of_wl (hg : o.guard = none) (h : wpList P #[o] (fun e a w => match e with | .normal => K a w | _ => False) [o] a w) : o.wp P a w K Q := by
  unfold wpList at h
  rw [if_pos (by simp [Region.wanted, hg])] at h
  rcases h with h | ⟨-, hx⟩
  · unfold Oper.wp at h ⊢
    generalize (execOp a.eval o).run P w = r at *
    cases r with
    | ok x w' =>
      cases x with
      | value v => exact h
      | skip => exact h
      | defer d => exact h
      | enter f args =>
        refine Calls.mono h fun e w'' he => ?_
        cases e with
        | returned v => exact he
        | panicked c => exact he.elim
        | outgrown => obtain ⟨_, _, he⟩ := he; exact he.elim
      | row rw args => exact h
      | _ => exact h.elim
    | halt x w' =>
      cases x with
      | panic v => exact h.elim
      | _ => exact h.elim
  · obtain ⟨_, _, e⟩ := hx
    exact e.elim
end
section
variable {ops : Array Oper} {rest : List Oper} {o : Oper} {a : Act} {K : Act → World → Prop} {Q : Exit → Act → World → Prop} {w : World}
end
structure InvPath6 (S : List UInt8) (M : List (List UInt8)) (i n k b off c : Nat) (W0 : World) (L : Nat → Bool) (v21 v22 v23 v24 v25 v26 v27 v28 v29 v30 v31 v4 : Value) (wx : World) : Prop where
  t0 : L 0 = true → v21 = .slice (some ⟨b, off, none⟩) n c
  t1 : L 1 = true → v22 = .int .u64 ↑k
  t2 : L 2 = true → v23 = .slice (some ⟨b, off, none⟩) k c
  t3 : L 3 = true → v24 = .int .u64 ↑i
  t4 : L 4 = true → L 10 = false → OwnD wx W0.heap.size v25 M
  t5 : L 5 = true → v26 = .slice (some ⟨b, off, none⟩) n c
  t6 : L 6 = true → v27 = .int .u64 ↑k
  t7 : L 7 = true → v28 = .slice (some ⟨b, off + k * 32, none⟩) (n - k) (c - k)
  t8 : L 8 = true → v29 = .agg (bvs S).toArray
  t9 : L 9 = true → L 10 = false → ∃ g, v30 = .slice (some ⟨g, 0, none⟩) 1 1 ∧ Arr wx g 41 (bvs S)
  t10 : L 10 = true → OwnD wx W0.heap.size v31 (M ++ [S])
  t11 : L 11 = true → OwnD wx W0.heap.size v4 (M ++ [S])
  bw : Below W0.heap.size W0 wx
structure InvPath7 (S : List UInt8) (M : List (List UInt8)) (i n k b off c : Nat) (W0 : World) (L : Nat → Bool) (v32 v33 v34 v35 v36 v37 v38 v39 v40 v41 v42 v43 v44 v4 : Value) (wx : World) : Prop where
  t0 : L 0 = true → v32 = .slice (some ⟨b, off, none⟩) n c
  t1 : L 1 = true → v33 = .int .u64 ↑k
  t2 : L 2 = true → v34 = .slice (some ⟨b, off + k * 32, none⟩) (n - k) (c - k)
  t3 : L 3 = true → v35 = .int .u64 ↑i
  t4 : L 4 = true → v36 = .int .u64 ↑k
  t5 : L 5 = true → v37 = .int .u64 ((i : Int) - (k : Int))
  t6 : L 6 = true → L 12 = false → OwnD wx W0.heap.size v38 M
  t7 : L 7 = true → v39 = .slice (some ⟨b, off, none⟩) n c
  t8 : L 8 = true → v40 = .int .u64 ↑k
  t9 : L 9 = true → v41 = .slice (some ⟨b, off, none⟩) k c
  t10 : L 10 = true → v42 = .agg (bvs S).toArray
  t11 : L 11 = true → L 12 = false → ∃ g, v43 = .slice (some ⟨g, 0, none⟩) 1 1 ∧ Arr wx g 41 (bvs S)
  t12 : L 12 = true → OwnD wx W0.heap.size v44 (M ++ [S])
  t13 : L 13 = true → OwnD wx W0.heap.size v4 (M ++ [S])
  bw : Below W0.heap.size W0 wx
end Go.Proofs.Ytcnnblhjgligbaa
