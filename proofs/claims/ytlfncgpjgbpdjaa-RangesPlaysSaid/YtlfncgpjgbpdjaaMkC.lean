/-
  Layer 8: lists of hashes in memory; the document's head. Conditions: those in each statement.
-/
import Derived.Test.YtlfncgpjgbpdjaaMkB
namespace Go.Proofs.Ytlfncgpjgbpdjaa
open Go.RowKit

/-- the slice of n hashes at a reads as L -/
structure RdD (w : World) (a : Option Addr) (n cap : Nat) (L : List (List UInt8)) : Prop where
  len : L.length = n
  le : n ≤ cap
  all : All32 L
  nil : a = none → cap = 0
  mem : 0 < n → ∃ b off, a = some ⟨b, off, none⟩ ∧ b < w.heap.size ∧ ∀ k, k < n → ∀ j, j < 32 → w.cell? ⟨b, off + k * 32 + j, none⟩ = some (.int .u8 (((L.getD k []).getD j 0).toNat : Int))
theorem RdD.to {w w' : World} {a : Option Addr} {n cap : Nat} {L : List (List UInt8)} (h : RdD w a n cap L) (hb : Below w.heap.size w w') : RdD w' a n cap L := by
  refine ⟨h.len, h.le, h.all, h.nil, fun h0 => ?_⟩
  obtain ⟨b, off, e, hlt, hc⟩ := h.mem h0
  exact ⟨b, off, e, Nat.lt_of_lt_of_le hlt hb.size, fun k hk j hj => (hb.cell (p := ⟨b, off + k * 32 + j, none⟩) hlt).trans (hc k hk j hj)⟩
theorem RdD.take {w : World} {a : Option Addr} {n cap : Nat} {L : List (List UInt8)} (h : RdD w a n cap L) (m : Nat) (hm : m ≤ n) : RdD w a m cap (L.take m) := by
  have hl := h.len
  refine ⟨by simp; omega, by have := h.le; omega, h.all.take m, h.nil, fun h0 => ?_⟩
  obtain ⟨b, off, e, hlt, hc⟩ := h.mem (by omega)
  refine ⟨b, off, e, hlt, fun k hk j hj => ?_⟩
  have e1 : (L.take m).getD k [] = L.getD k [] := by simp [List.getD, hk]
  rw [e1]
  exact hc k (by omega) j hj
theorem RdD.drop {w : World} {b off n cap : Nat} {L : List (List UInt8)} (h : RdD w (some ⟨b, off, none⟩) n cap L) (m : Nat) (hm : m < n) : RdD w (some ⟨b, off + m * 32, none⟩) (n - m) (cap - m) (L.drop m) := by
  have hl := h.len
  refine ⟨by simp; omega, by have := h.le; omega, h.all.drop m, (by intro e; cases e), fun h0 => ?_⟩
  obtain ⟨b', off', e, hlt, hc⟩ := h.mem (by omega)
  injection e with e
  injection e with e1 e2
  subst e1 e2
  refine ⟨_, _, rfl, hlt, fun k hk j hj => ?_⟩
  have e1 : (L.drop m).getD k [] = L.getD (m + k) [] := by simp [List.getD]
  rw [e1, show off + m * 32 + k * 32 + j = off + (m + k) * 32 + j by omega]
  exact hc (m + k) (by omega) j hj
/-- one of them, as a row of cells -/
theorem RdD.range {w : World} {b off n cap : Nat} {L : List (List UInt8)} (h : RdD w (some ⟨b, off, none⟩) n cap L) (k : Nat) (hk : k < n) : w.rangeAt b (off + k * 32) (bvs (L.getD k [])) := by
  intro j v hv
  have hl := h.len
  have h32 := h.all k (by omega)
  have hj : j < 32 := by
    have := (List.getElem?_eq_some_iff.1 hv).1
    rw [bvs_len, h32] at this
    exact this
  obtain ⟨b', off', e, hlt, hc⟩ := h.mem (by omega)
  injection e with e
  injection e with e1 e2
  subst e1 e2
  rw [hc k hk j hj]
  rw [bvs_get _ _ (by omega)] at hv
  exact hv
end Go.Proofs.Ytlfncgpjgbpdjaa
