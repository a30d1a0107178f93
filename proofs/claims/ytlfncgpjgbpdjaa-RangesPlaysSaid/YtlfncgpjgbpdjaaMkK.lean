/-
  Layer 8: a list of hashes put behind a row; the law's own. Conditions: those in each statement.
-/
import Derived.Test.YtlfncgpjgbpdjaaMkJ
namespace Go.Proofs.Ytlfncgpjgbpdjaa
open Go.RowKit

section
variable {ops : Array Oper} {rest : List Oper} {o : Oper} {a : Act} {Q : Exit → Act → World → Prop} {w : World}
theorem RdD.cells {ad : Addr} {n cap : Nat} {L : List (List UInt8)} (h : RdD w (some ad) n cap L) : ∀ j u, (dcs L)[j]? = some u → w.cell? (ad.add j) = some u := by
  intro j u hu
  have hl := h.len
  have hj : j < L.length * 32 := by
    have := (List.getElem?_eq_some_iff.1 hu).1
    rw [dcs_len h.all] at this
    exact this
  obtain ⟨b, off, e, -, hc⟩ := h.mem (by omega)
  injection e with e
  subst e
  have hj2 : j / 32 * 32 + j % 32 = j := by omega
  have hc2 := hc (j / 32) (by omega) (j % 32) (Nat.mod_lt _ (by omega))
  rw [Nat.add_assoc, hj2] at hc2
  have h3 := dcs_get h.all (j / 32) (j % 32) (by omega) (Nat.mod_lt _ (by omega))
  rw [hj2, hu] at h3
  rw [Addr.add_lit, hc2, h3]
/-- append(hashes, hashes...) -/
theorem wl_rowD (hgd : o.guard = none) (d s : Operand) (ho : o.op = .call { callee := .builtin .append, args := #[d, s], argTypes := #[30, 30] })
    (B : Nat) (v : Value) (M : List (List UInt8)) (hd : a.eval d = v) (hown : OwnD w B v M) (sp : Option Addr) (sLen sCap : Nat) (L : List (List UInt8)) (hs : a.eval s = .slice sp sLen sCap)
    (hrd : RdD w sp sLen sCap L) (hlen : M.length + sLen ≤ 2 ^ 42) (hB : B ≤ w.heap.size)
    (hK : ∀ v' w', OwnD w' B v' (M ++ L) → Below B w w' → wpList Try.prog ops Q rest (a.put o.dst v') w') : wpList Try.prog ops Q (o :: rest) a w := by
  obtain ⟨i0, hi, hz0, hz1, hz2⟩ := info_parts infoDg
  have hl := hrd.len
  cases sp with
  | none =>
    have h0 : sCap = 0 := hrd.nil rfl
    have h1 : sLen = 0 := by have := hrd.le; omega
    subst h0 h1
    have hx : L = [] := List.eq_nil_of_length_eq_zero hl
    subst hx
    refine wpList_append_own_none hgd d s 30 ho B 29 i0 32 Try.underlying30 hi v _ _ hd hown.row hs ?_
    exact hK v w (by simpa using hown) (Below.refl _ _)
  | some ad =>
    refine wpList_append_own w hgd d s 30 ho B 29 i0 _ 32 32 Try.underlying30 hi hz0 hz1 hz2 (by simp [Value.cells, bvs_len, Z8]) (by decide) v _ _ hd hown.row ad sLen sCap (dcs L) hs (by rw [dcs_len hrd.all, hl])
      hrd.cells (fun u hu => ?_) (by unfold maxLen; omega) (by omega) hB ?_
    · simp only [dcs, List.mem_flatMap] at hu
      obtain ⟨x, -, hu⟩ := hu
      exact bvs_one x u hu
    intro v' w' h1 h2 _
    refine hK v' w' ⟨?_, All32.of fun y hy => ?_⟩ ((Below.refl _ _).grown h2 hB fun k hk => (World.ownsRow.lt hown.row k hk).1)
    · rw [show dcs (M ++ L) = dcs M ++ dcs L by simp [dcs], List.length_append, hl]
      exact h1
    · rcases List.mem_append.1 hy with h | h
      · exact hown.all.mem h
      · exact hrd.all.mem h
end
end Go.Proofs.Ytlfncgpjgbpdjaa
