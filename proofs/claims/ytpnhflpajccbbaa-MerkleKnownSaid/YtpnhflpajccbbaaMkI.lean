/-
  Layer 8: rows of rows of hashes of a call's own. Conditions: those in each statement.
-/
import Derived.Test.YtpnhflpajccbbaaMkH
namespace Go.Proofs.Ytpnhflpajccbbaa
open Go.RowKit

theorem OwnD.base {w : World} {B B' : Nat} {v : Value} {L : List (List UInt8)} (h : OwnD w B v L) (hb : B' ≤ B) : OwnD w B' v L := by
  refine ⟨?_, h.all⟩
  obtain ⟨h1, h2 | ⟨g, cap, cur, rfl, hbb, r⟩⟩ := h.row
  · exact ⟨h1, .inl h2⟩
  · exact ⟨h1, .inr ⟨g, cap, cur, rfl, by omega, r⟩⟩
/-- two own rows of different elements lie in different blocks -/
theorem rows_apart {w : World} {B B' : Nat} {e e' : TypeId} {s s' n n' : Nat} {v v' : Value} {xs xs' : List Value} (h : w.ownsRow B e s v n xs) (h' : w.ownsRow B' e' s' v' n' xs') (he : e ≠ e') : v.ownBlock = none ∨ v.ownBlock ≠ v'.ownBlock := by
  obtain ⟨-, ⟨rfl, -⟩ | ⟨g, cap, cur, rfl, -, hg, -⟩⟩ := h
  · exact .inl rfl
  · right
    obtain ⟨-, ⟨rfl, -⟩ | ⟨g', cap', cur', rfl, -, hg', -⟩⟩ := h'
    · intro e; cases e
    · intro e
      have e : some g = some g' := e
      injection e with e
      subst e
      rw [hg] at hg'
      injection hg' with hg'
      injection hg' with _ h2
      exact he h2
theorem OwnD.by {w w' : World} {B : Nat} {v : Value} {L : List (List UInt8)} {row : Option Nat} (h : OwnD w B v L) (hg : w.grownBy w' row) (hne : v.ownBlock = none ∨ v.ownBlock ≠ row) : OwnD w' B v L := ⟨h.row.kept hg hne, h.all⟩
/-- a call's own row of its own rows of hashes -/
def OwnR (w : World) (B : Nat) (v : Value) (LL : List (List (List UInt8))) : Prop :=
  ∃ vs, w.ownsRow B 22 1 v LL.length vs ∧ ∀ k, k < LL.length → ∃ u, vs[k]? = some u ∧ OwnD w B u (LL.getD k [])
theorem OwnR.nil (w : World) (B : Nat) : OwnR w B (.slice none 0 0) [] := ⟨[], World.ownsRow_nil w B 22 1, fun k hk => by simp at hk⟩
theorem OwnR.to {w w' : World} {B : Nat} {v : Value} {LL : List (List (List UInt8))} (h : OwnR w B v LL) (hb : Below w.heap.size w w') : OwnR w' B v LL := by
  obtain ⟨vs, h1, h2⟩ := h
  have hlt := World.ownsRow.lt h1
  refine ⟨vs, ?_, fun k hk => ?_⟩
  · obtain ⟨h1, ⟨rfl, hn⟩ | ⟨g, cap, cur, rfl, hbb, hg, r⟩⟩ := h1
    · exact ⟨h1, .inl ⟨rfl, hn⟩⟩
    · exact ⟨h1, .inr ⟨g, cap, cur, rfl, hbb, by rw [hb.block g (hlt g rfl).2]; exact hg, r⟩⟩
  · obtain ⟨u, e, h⟩ := h2 k hk
    exact ⟨u, e, h.to hb⟩
section
variable {ops : Array Oper} {rest : List Oper} {o : Oper} {a : Act} {Q : Exit → Act → World → Prop} {w : World}
theorem infoDr : (Try.prog.info? 22).map (fun i => (i.zero, i.size, i.bytes)) = some (some (.slice none 0 0), 1, 24) := by kernel_rfl
/-- a row of one row, written out -/
theorem wl_litR (hg : o.guard = none) (i : Nat) (ho : o.op = .buildSlice 32 1 #[(0, .tmp i)]) (u : Value) (hu : u.cells = #[u]) (hev : a.eval (.tmp i) = u)
    (hK : ∀ w', Arr w' w.heap.size 22 [u] → Below w.heap.size w w' → wpList Try.prog ops Q rest (a.put o.dst (.slice (some ⟨w.heap.size, 0, none⟩) 1 1)) w') : wpList Try.prog ops Q (o :: rest) a w := by
  refine Great.wpList_buildRows hg 32 22 #[(0, .tmp i)] 1 [u] ho (fun _ => i) _ rfl _ rfl Try.underlying32 (by kernel_rfl) (by kernel_rfl) (by decide) (by simp) (by simp) rfl ?_ ?_ ?_
  · intro v hv
    simp only [List.mem_singleton] at hv
    subst hv
    rw [hu]; rfl
  · intro j hj
    have : j = 0 := by simpa using hj
    subst this
    exact hev
  · refine hK _ ?_ ((Below.refl _ _).alloc (Nat.le_refl _) _)
    have e : ((([u] : List Value).flatMap fun v => v.cells.toList).toArray) = [u].toArray := by simp [hu]
    rw [e]
    exact Arr.new _ _ _
/-- append(rows, row) -/
theorem wl_appendR (hgd : o.guard = none) (d s : Operand) (ho : o.op = .call { callee := .builtin .append, args := #[d, s], argTypes := #[32, 32] })
    (B : Nat) (v : Value) (LL : List (List (List UInt8))) (hd : a.eval d = v) (hown : OwnR w B v LL) (g : Nat) (u : Value) (L : List (List UInt8)) (hs : a.eval s = .slice (some ⟨g, 0, none⟩) 1 1)
    (hA : Arr w g 22 [u]) (hu : OwnD w B u L) (h1 : u.oneCell' = true) (hlen : LL.length + 1 ≤ 2 ^ 42) (hB : B ≤ w.heap.size)
    (hK : ∀ v' w', OwnR w' B v' (LL ++ [L]) → Below B w w' → wpList Try.prog ops Q rest (a.put o.dst v') w') : wpList Try.prog ops Q (o :: rest) a w := by
  obtain ⟨i0, hi, hz0, hz1, hz2⟩ := info_parts infoDr
  obtain ⟨vs, hrow, hel⟩ := hown
  have hvl : vs.length = LL.length := by have := hrow.1; omega
  refine wpList_append_own w hgd d s 32 ho B 22 i0 _ 1 24 Try.underlying32 hi hz0 hz1 hz2 rfl (by decide) v _ _ hd hrow ⟨g, 0, none⟩ 1 1 [u] hs rfl
    (fun j x hx => by rw [Addr.add_lit, Nat.zero_add, hA.cell]; exact hx) (by intro x hx; simp only [List.mem_singleton] at hx; rw [hx]; exact h1) (by unfold maxLen; omega) (by omega) hB ?_
  intro v' w' h1 h2 _
  refine hK v' w' ⟨vs ++ [u], by rw [List.length_append]; exact h1, fun k hk => ?_⟩ ((Below.refl _ _).grown h2 hB fun k hk => (World.ownsRow.lt hrow k hk).1)
  rw [List.length_append] at hk
  by_cases hlt : k < LL.length
  · obtain ⟨x, e, h⟩ := hel k hlt
    refine ⟨x, by rw [List.getElem?_append_left (by omega)]; exact e, ?_⟩
    have e2 : (LL ++ [L]).getD k [] = LL.getD k [] := by simp [List.getD, List.getElem?_append_left hlt]
    rw [e2]
    exact h.by h2 (rows_apart h.row hrow (by decide))
  · obtain rfl : k = LL.length := by simp at hk; omega
    refine ⟨u, by rw [List.getElem?_append_right (by omega), hvl, Nat.sub_self]; rfl, ?_⟩
    have e2 : (LL ++ [L]).getD LL.length [] = L := by simp [List.getD]
    rw [e2]
    exact hu.by h2 (rows_apart hu.row hrow (by decide))
end
end Go.Proofs.Ytpnhflpajccbbaa
