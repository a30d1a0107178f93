/-
  Chains that a call made itself: what is owned, append. Conditions: those in each statement.
-/
import Derived.Test.YtcohcjhbkiangaaEnJ
import Derived.Laws.AppendOwnNone
namespace Go.Proofs.Ytcohcjhbkiangaa
open Go.RowKit

theorem btC_sl : Try.prog.underlying 23 = some (.slice 27) := Try.underlying23
theorem btC_info : (Try.prog.info? 27).map (fun i => (i.zero, i.size, i.bytes)) = some (some (.slice none 0 0), 1, 24) := by kernel_rfl

/-- v is a chain of the call's own, its certificates too -/
def OwnC (w : World) (B : Nat) (v : Value) (xss : List (List UInt8)) : Prop :=
  ∃ vs : List Value, w.ownsRow B 27 1 v vs.length vs ∧ vs.length = xss.length ∧ ∀ j, j < xss.length → Own w B 5 (vs.getD j undef) (xss.getD j [])

theorem OwnC.nil (w : World) (B : Nat) : OwnC w B (.slice none 0 0) [] := ⟨[], World.ownsRow_nil w B _ 1, rfl, fun j hj => by simp at hj⟩
theorem row_to {w w' : World} {B : Nat} {E : TypeId} {v : Value} {n : Nat} {xs : List Value} (h : w.ownsRow B E 1 v n xs) (hb : Below w.heap.size w w') : w'.ownsRow B E 1 v n xs := by
  have hlt := World.ownsRow.lt h
  obtain ⟨h1, h2 | ⟨g, cap, cur, rfl, hbb, hg, r⟩⟩ := h
  · exact ⟨h1, .inl h2⟩
  · exact ⟨h1, .inr ⟨g, cap, cur, rfl, hbb, by rw [hb.block g (hlt g rfl).2]; exact hg, r⟩⟩
theorem row_mono {w : World} {B B' : Nat} {E : TypeId} {v : Value} {n : Nat} {xs : List Value} (h : w.ownsRow B E 1 v n xs) (hB : B' ≤ B) : w.ownsRow B' E 1 v n xs := by
  obtain ⟨h1, h2⟩ := h
  refine ⟨h1, h2.imp id ?_⟩
  rintro ⟨g, cap, cur, e, hb, r⟩
  exact ⟨g, cap, cur, e, Nat.le_trans hB hb, r⟩
theorem OwnC.to {w w' : World} {B : Nat} {v : Value} {xss : List (List UInt8)} (h : OwnC w B v xss) (hb : Below w.heap.size w w') : OwnC w' B v xss := by
  obtain ⟨vs, h1, h2, h3⟩ := h
  exact ⟨vs, row_to h1 hb, h2, fun j hj => (h3 j hj).to hb⟩
theorem OwnC.mono {w : World} {B B' : Nat} {v : Value} {xss : List (List UInt8)} (h : OwnC w B v xss) (hB : B' ≤ B) : OwnC w B' v xss := by
  obtain ⟨vs, h1, h2, h3⟩ := h
  exact ⟨vs, row_mono h1 hB, h2, fun j hj => (h3 j hj).mono hB⟩
theorem OwnC.chn {w : World} {B : Nat} {v : Value} {xss : List (List UInt8)} (h : OwnC w B v xss) : ∃ a n cap, v = .slice a n cap ∧ Chn w a n cap xss := by
  obtain ⟨vs, h1, h2, h3⟩ := h
  have h1' := h1
  obtain ⟨hl, ⟨rfl, hn⟩ | ⟨g, cap, cur, rfl, hbb, hg, hn, hc, hs, ht⟩⟩ := h1
  · have e : xss = [] := List.eq_nil_of_length_eq_zero (by omega)
    subst e
    exact ⟨_, _, _, rfl, chn_none w⟩
  · refine ⟨_, _, _, rfl, h2.symm, hn, by (intro e; cases e), fun h0 => ⟨g, 0, rfl, (World.ownsRow.lt h1' g rfl).2, fun j hj => ?_⟩⟩
    have hr := h3 j (by omega)
    obtain ⟨aj, nj, cj, e, hrd⟩ := hr.reads
    refine ⟨aj, nj, cj, ?_, hrd.toRd⟩
    have := World.ownsRow.cellAt h1' j (by omega)
    rw [Nat.zero_add, this, ← e]
    simp [List.getD, hj]
theorem OwnC.len {w : World} {B : Nat} {a : Option Addr} {n cap : Nat} {xss : List (List UInt8)} (h : OwnC w B (.slice a n cap) xss) : xss.length = n := by
  obtain ⟨a', n', cap', e, hc⟩ := h.chn
  injection e with _ e _
  subst e
  exact hc.len
/-- the row of a chain is another than a certificate's -/
theorem rowC_ne {w : World} {B B' : Nat} {u v : Value} {n : Nat} {vs : List Value} {xs : List UInt8} (hu : Own w B' 5 u xs) (hv : w.ownsRow B 27 1 v n vs) : u.ownBlock = none ∨ u.ownBlock ≠ v.ownBlock := by
  obtain ⟨_, ⟨rfl, _⟩ | ⟨g, cap, cur, rfl, hbb, hg, -⟩⟩ := hu
  · exact .inl rfl
  · right
    obtain ⟨_, ⟨rfl, _⟩ | ⟨g', cap', cur', rfl, hbb', hg', -⟩⟩ := hv
    · simp [Value.ownBlock]
    · intro e
      have e' : g = g' := by simpa [Value.ownBlock] using e
      subst e'
      rw [hg] at hg'
      injection hg' with hg'
      injection hg' with _ e2 _
      exact absurd e2 (by decide)
theorem ownC_lit {w : World} {B : Nat} {x : Value} {X : List UInt8} (hB : B ≤ w.heap.size) (hx : Own w B 5 x X) : OwnC (w.alloc (.cells #[x] 27)) B (.slice (some ⟨w.heap.size, 0, none⟩) 1 1) [X] := by
  refine ⟨[x], ?_, rfl, fun j hj => ?_⟩
  · exact World.ownsRow_lit (base := B) (e := 27) (size := 1) w #[x] 1 hB (by decide) (by simp)
  · obtain rfl : j = 0 := by simpa using hj
    exact hx.to (hal w _)

/-- what append of chains leaves -/
theorem appC_post {w w' : World} {B : Nat} {v v' : Value} {xss yss : List (List UInt8)} {vs us : List Value} (h1 : w.ownsRow B 27 1 v vs.length vs) (hl1 : vs.length = xss.length) (ho1 : ∀ j, j < xss.length → Own w B 5 (vs.getD j undef) (xss.getD j []))
    (hl2 : us.length = yss.length) (ho2 : ∀ j, j < yss.length → Own w B 5 (us.getD j undef) (yss.getD j [])) (r : w'.ownsRow B 27 1 v' (vs.length + us.length) (vs ++ us)) (hg : w.grownBy w' v.ownBlock) : OwnC w' B v' (xss ++ yss) := by
  have keep : ∀ {x X}, Own w B 5 x X → Own w' B 5 x X := fun h => World.ownsRow.kept h hg (rowC_ne h h1)
  refine ⟨vs ++ us, by simpa using r, by simp [hl1, hl2], fun j hj => ?_⟩
  by_cases hjx : j < xss.length
  · have := keep (ho1 j hjx)
    simpa [List.getD, List.getElem?_append_left, hjx, hl1] using this
  · have := keep (ho2 (j - xss.length) (by simp at hj; omega))
    have e1 : (vs ++ us).getD j undef = us.getD (j - xss.length) undef := by
      simp only [List.getD]; rw [List.getElem?_append_right (by omega), hl1]
    have e2 : (xss ++ yss).getD j [] = yss.getD (j - xss.length) [] := by
      simp only [List.getD]; rw [List.getElem?_append_right (by omega)]
    rw [e1, e2]
    exact this

theorem Own.grownLow {w w' : World} {B r : Nat} {E : TypeId} {v : Value} {xs : List UInt8} (h : Own w B E v xs) (hg : w.grownBy w' (some r)) (hr : r < B) : Own w' B E v xs := by
  refine World.ownsRow.kept h hg ?_
  have hlt := World.ownsRow.lt h
  cases hv : v.ownBlock with
  | none => exact .inl rfl
  | some k => right; intro e; cases e; have := (hlt r hv).1; omega
section
variable {ops : Array Oper} {rest : List Oper} {o : Oper} {a : Act} {K : Act → World → Prop} {Q : Exit → Act → World → Prop} {w : World}
theorem ow_appendC (d s : Operand) (ho : o.op = .call { callee := .builtin .append, args := #[d, s], argTypes := #[23, 23] })
    (B : Nat) (v : Value) (xss : List (List UInt8)) (hv : OwnC w B v xss) (hd : a.eval d = v) (u : Value) (yss : List (List UInt8)) (hu : OwnC w B u yss) (hs : a.eval s = u) (hb : xss.length + yss.length ≤ 5000000000000) (hB : B ≤ w.heap.size)
    (hK : ∀ v' w', OwnC w' B v' (xss ++ yss) → Below B w w' → K (a.put o.dst v') w') : Oper.wp Try.prog o a w K Q := by
  obtain ⟨i0, hi, hz0, hz1, hz2⟩ := info_parts btC_info
  have hv' := hv
  obtain ⟨vs, h1, h2, h3⟩ := hv
  obtain ⟨us, k1, k2, k3⟩ := hu
  have k1' := k1
  obtain ⟨hl, ⟨rfl, hn⟩ | ⟨g, cap, cur, rfl, hbb, hg, hn, hc, hss, ht⟩⟩ := k1
  · have e : yss = [] := List.eq_nil_of_length_eq_zero (by omega)
    subst e
    have hrun := run_append_owned_none (P := Try.prog) (w := w) B 23 o.type 27 i0 1 btC_sl hi v _ _ h1
    unfold Oper.wp
    simp [execOp, ho, resolve, invoke, builtin, hs, hd, hrun, Result.andThen]
    exact hK _ _ (by simpa using hv') (Below.refl _ _)
  · refine wp_append_own w d s 23 ho B 27 i0 (.slice none 0 0) 1 24 btC_sl hi hz0 hz1 hz2 rfl (by decide) v _ _ hd h1 ⟨g, 0, none⟩ us.length cap us hs (by simp) (World.ownsRow.cells k1' rfl) ?_ (by unfold maxLen; omega) (by omega) hB ?_
    · intro x hx
      obtain ⟨j, hj, rfl⟩ := List.mem_iff_getElem.1 hx
      have := k3 j (by omega)
      obtain ⟨aj, nj, cj, e, -⟩ := this.reads
      have e2 : us[j] = .slice aj nj cj := by rw [← e]; simp [List.getD, hj]
      rw [e2]
      rfl
    · intro v' w' r hg _
      exact hK v' w' (appC_post h1 h2 h3 k2 k3 r hg) ((Below.refl _ _).grown hg hB fun k hk => (World.ownsRow.lt h1 k hk).1)
theorem wl_appendC (hgd : o.guard = none) (d s : Operand) (ho : o.op = .call { callee := .builtin .append, args := #[d, s], argTypes := #[23, 23] })
    (B : Nat) (v : Value) (xss : List (List UInt8)) (hv : OwnC w B v xss) (hd : a.eval d = v) (u : Value) (yss : List (List UInt8)) (hu : OwnC w B u yss) (hs : a.eval s = u) (hb : xss.length + yss.length ≤ 5000000000000) (hB : B ≤ w.heap.size)
    (hK : ∀ v' w', OwnC w' B v' (xss ++ yss) → Below B w w' → wpList Try.prog ops Q rest (a.put o.dst v') w') : wpList Try.prog ops Q (o :: rest) a w :=
  wpList_plain hgd fun _ hK' => ow_appendC d s ho B v xss hv hd u yss hu hs hb hB fun v' w' h1 h2 => hK' _ _ (hK v' w' h1 h2)
end
end Go.Proofs.Ytcohcjhbkiangaa
