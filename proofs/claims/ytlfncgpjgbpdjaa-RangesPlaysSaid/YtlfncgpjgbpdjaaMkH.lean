/-
  Layer 8: rows of byte slices in memory; the document's Leaves. Conditions: those in each statement.
-/
import Derived.Test.YtlfncgpjgbpdjaaMkG
import Derived.Great.CaseRows
namespace Go.Proofs.Ytlfncgpjgbpdjaa
open Go.RowKit

/-- the slice of n byte slices at a reads as B -/
structure RdR (w : World) (a : Option Addr) (n cap : Nat) (B : List (List UInt8)) : Prop where
  len : B.length = n
  le : n ≤ cap
  nil : a = none → cap = 0
  mem : 0 < n → ∃ b off, a = some ⟨b, off, none⟩ ∧ b < w.heap.size ∧ ∀ k, k < n → ∃ ak nk ck, w.cell? ⟨b, off + k, none⟩ = some (.slice ak nk ck) ∧ nk ≤ 140737488352000 ∧ Rd w ak nk ck (B.getD k [])
theorem RdR.to {w w' : World} {a : Option Addr} {n cap : Nat} {B : List (List UInt8)} (h : RdR w a n cap B) (hb : Below w.heap.size w w') : RdR w' a n cap B := by
  refine ⟨h.len, h.le, h.nil, fun h0 => ?_⟩
  obtain ⟨b, off, e, hlt, hc⟩ := h.mem h0
  refine ⟨b, off, e, Nat.lt_of_lt_of_le hlt hb.size, fun k hk => ?_⟩
  obtain ⟨ak, nk, ck, h1, h2, h3⟩ := hc k hk
  exact ⟨ak, nk, ck, (hb.cell (p := ⟨b, off + k, none⟩) hlt).trans h1, h2, h3.to hb⟩

section
variable {ops : Array Oper} {rest : List Oper} {o : Oper} {a : Act} {Q : Exit → Act → World → Prop} {w : World}
/-- a row of one hash, written out -/
theorem wl_litD (hg : o.guard = none) (i : Nat) (ho : o.op = .buildSlice 30 1 #[(0, .tmp i)]) (x : List UInt8) (hx : x.length = 32) (hev : a.eval (.tmp i) = .agg (bvs x).toArray)
    (hK : ∀ w', Arr w' w.heap.size 29 (bvs x) → Below w.heap.size w w' → wpList Try.prog ops Q rest (a.put o.dst (.slice (some ⟨w.heap.size, 0, none⟩) 1 1)) w') : wpList Try.prog ops Q (o :: rest) a w := by
  refine Great.wpList_buildRows hg 30 29 #[(0, .tmp i)] 32 [.agg (bvs x).toArray] ho (fun _ => i) _ rfl _ rfl Try.underlying30 sizeD (by kernel_rfl) (by decide) (by simp) (by simp) rfl ?_ ?_ ?_
  · intro v hv
    simp only [List.mem_singleton] at hv
    subst hv
    simp [Value.cells, bvs_len, hx]
  · intro j hj
    have : j = 0 := by simpa using hj
    subst this
    exact hev
  · refine hK _ ?_ ((Below.refl _ _).alloc (Nat.le_refl _) _)
    have e : ((([.agg (bvs x).toArray] : List Value).flatMap fun v => v.cells.toList).toArray) = (bvs x).toArray := by simp [Value.cells]
    rw [e]
    exact Arr.new _ _ _
end

end Go.Proofs.Ytlfncgpjgbpdjaa
