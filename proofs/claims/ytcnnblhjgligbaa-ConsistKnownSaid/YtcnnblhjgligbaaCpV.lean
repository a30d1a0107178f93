/-
  A slice without its first element. Conditions: those in each statement.
-/
import Derived.Test.YtcnnblhjgligbaaCnN
namespace Go.Proofs.Ytcnnblhjgligbaa
open Go.RowKit

theorem run_cut1 (b off q c : Nat) (hq : 1 ≤ q) (hc : q ≤ c) (w : World) :
    (Instr.sliceAt 33 (.slice (some ⟨b, off, none⟩) q c) (some (.int .i64 1)) none none).run Try.prog w = .ok (.slice (some ⟨b, if c = 1 then off else off + 32, none⟩) (q - 1) (c - 1)) w := by
  have c1 : (1 : Int) ≤ (q : Int) := by omega
  have c2 : (q : Int) ≤ (c : Int) := by omega
  by_cases h : c = 1
  · subst h
    obtain rfl : q = 1 := by omega
    go_simp
  · have c3 : ¬ (c = 1) := h
    have c4 : ¬ (c - 1 = 0) := by omega
    rw [if_neg h]
    go_simp
section
variable {o : Oper} {a : Act} {K : Act → World → Prop} {Q : Exit → Act → World → Prop} {w : World}
theorem ow_cut1 (b off q c : Nat) (hq : 1 ≤ q) (hc : q ≤ c) (x y : Operand) (ho : o.op = .slice 33 x (some y) none none) (hx : a.eval x = .slice (some ⟨b, off, none⟩) q c) (hy : a.eval y = .int .i64 1)
    (hK : K (a.put o.dst (.slice (some ⟨b, if c = 1 then off else off + 32, none⟩) (q - 1) (c - 1))) w) : o.wp Try.prog a w K Q := by
  have h := run_cut1 b off q c hq hc w
  unfold Oper.wp execOp
  simp only [ho, hx, hy, Option.map_some, Option.map_none, Sem.run_bind, h, Sem.run_pure, Result.andThen_ok]
  exact hK
end
theorem rd_cut1 {w : World} {b off q c : Nat} {L : List (List UInt8)} (h : RdD w (some ⟨b, off, none⟩) q c L) (hq : 1 ≤ q) : RdD w (some ⟨b, if c = 1 then off else off + 32, none⟩) (q - 1) (c - 1) (L.drop 1) := by
  have hl := h.len
  have hle := h.le
  by_cases hc : c = 1
  · refine ⟨by simp; omega, by omega, h.all.drop 1, (by intro e; cases e), fun h0 => by omega⟩
  · rw [if_neg hc]
    by_cases h1 : q = 1
    · exact ⟨by simp; omega, by omega, h.all.drop 1, (by intro e; cases e), fun h0 => by omega⟩
    · exact h.drop 1 (by omega)
theorem run_cutR (b off q c : Nat) (hq : 1 ≤ q) (hc : q ≤ c) (w : World) :
    (Instr.sliceAt 23 (.slice (some ⟨b, off, none⟩) q c) (some (.int .i64 1)) none none).run Try.prog w = .ok (.slice (some ⟨b, if c = 1 then off else off + 2, none⟩) (q - 1) (c - 1)) w := by
  have c1 : (1 : Int) ≤ (q : Int) := by omega
  have c2 : (q : Int) ≤ (c : Int) := by omega
  by_cases h : c = 1
  · subst h
    obtain rfl : q = 1 := by omega
    go_simp
  · have c3 : ¬ (c = 1) := h
    have c4 : ¬ (c - 1 = 0) := by omega
    rw [if_neg h]
    go_simp
section
variable {o : Oper} {a : Act} {K : Act → World → Prop} {Q : Exit → Act → World → Prop} {w : World}
theorem ow_cutR (b off q c : Nat) (hq : 1 ≤ q) (hc : q ≤ c) (x y : Operand) (ho : o.op = .slice 23 x (some y) none none) (hx : a.eval x = .slice (some ⟨b, off, none⟩) q c) (hy : a.eval y = .int .i64 1)
    (hK : K (a.put o.dst (.slice (some ⟨b, if c = 1 then off else off + 2, none⟩) (q - 1) (c - 1))) w) : o.wp Try.prog a w K Q := by
  have h := run_cutR b off q c hq hc w
  unfold Oper.wp execOp
  simp only [ho, hx, hy, Option.map_some, Option.map_none, Sem.run_bind, h, Sem.run_pure, Result.andThen_ok]
  exact hK
end
theorem rd_cutR {w : World} {b off q c : Nat} {L : List (Nat × Nat)} (h : RdG 2 encR w (some ⟨b, off, none⟩) q c L) (hq : 1 ≤ q) : RdG 2 encR w (some ⟨b, if c = 1 then off else off + 2, none⟩) (q - 1) (c - 1) (L.drop 1) := by
  have hl := h.len
  have hle := h.le
  by_cases hc : c = 1
  · refine ⟨by simp; omega, by omega, h.all.drop 1, (by intro e; cases e), fun h0 => by omega⟩
  · rw [if_neg hc]
    by_cases h1 : q = 1
    · exact ⟨by simp; omega, by omega, h.all.drop 1, (by intro e; cases e), fun h0 => by omega⟩
    · exact h.drop 1 (by omega)
/-- where a row of ranges lies without its first one -/
def cutP (b off c : Nat) : Option Addr := some ⟨b, if c = 1 then off else off + 2, none⟩
section
variable {o : Oper} {a : Act} {K : Act → World → Prop} {Q : Exit → Act → World → Prop} {w : World}
theorem ow_cutP (b off q c : Nat) (hc : q + 1 ≤ c) (x y : Operand) (ho : o.op = .slice 23 x (some y) none none) (hx : a.eval x = .slice (some ⟨b, off, none⟩) (q + 1) c) (hy : a.eval y = .int .i64 1)
    (hK : K (a.put o.dst (.slice (cutP b off c) q (c - 1))) w) : o.wp Try.prog a w K Q :=
  ow_cutR b off (q + 1) c (by omega) hc x y ho hx hy hK
end
theorem rd_cutP {w : World} {b off q c : Nat} {x : Nat × Nat} {L : List (Nat × Nat)} (h : RdG 2 encR w (some ⟨b, off, none⟩) (q + 1) c (x :: L)) : RdG 2 encR w (cutP b off c) q (c - 1) L := rd_cutR h (by omega)
end Go.Proofs.Ytcnnblhjgligbaa
