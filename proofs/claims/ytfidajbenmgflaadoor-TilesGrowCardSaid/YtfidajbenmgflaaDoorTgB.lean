/-
  A row of six rows of hashes, each the call's own, no two in one block. Conditions: those in each statement.
-/
import Derived.Test.YtfidajbenmgflaaDoorTgA
import Derived.Test.YtfidajbenmgflaaDoorTkY
import Derived.Maps.AppendAt
namespace Go.Proofs.YtfidajbenmgflaaDoor
open Go.RowKit

theorem KB.ownDv {S : Nat → Prop} {w w' : World} {B : Nat} {v : Value} {L : List (List UInt8)} (h : KB S w w') (ho : OwnD w B v L) (hs : ∀ k, v.ownBlock = some k → ¬ S k) : OwnD w' B v L := by
  refine ⟨?_, ho.all⟩
  have hlt := World.ownsRow.lt ho.row
  obtain ⟨h1, ⟨rfl, hn⟩ | ⟨g, cap, cur, rfl, hbb, hg, r⟩⟩ := ho.row
  · exact ⟨h1, .inl ⟨rfl, hn⟩⟩
  · exact ⟨h1, .inr ⟨g, cap, cur, rfl, hbb, by rw [h.block g (hlt g rfl).2 (hs g rfl)]; exact hg, r⟩⟩
section
variable {ops : Array Oper} {rest : List Oper} {o : Oper} {a : Act} {Q : Exit → Act → World → Prop} {w : World}
/-- append(hashes, hash), and where the new row lies -/
theorem wl_appendAt (hgd : o.guard = none) (d s : Operand) (ho : o.op = .call { callee := .builtin .append, args := #[d, s], argTypes := #[37, 37] })
    (B : Nat) (v : Value) (L : List (List UInt8)) (hd : a.eval d = v) (hown : OwnD w B v L) (g : Nat) (x : List UInt8) (hs : a.eval s = .slice (some ⟨g, 0, none⟩) 1 1)
    (hA : Arr w g 48 (bvs x)) (hx : x.length = 32) (hlen : L.length + 1 ≤ 2 ^ 42) (hB : B ≤ w.heap.size)
    (hK : ∀ v' w', OwnD w' B v' (L ++ [x]) → w.grownBy w' v.ownBlock → (v'.ownBlock = v.ownBlock ∨ v'.ownBlock = some w.heap.size) → wpList Tryd.prog ops Q rest (a.put o.dst v') w') : wpList Tryd.prog ops Q (o :: rest) a w := by
  obtain ⟨i0, hi, hz0, hz1, hz2⟩ := info_parts infoDg
  refine wpList_append_own_at w hgd d s 37 ho B 48 i0 _ 32 32 Tryd.underlying37 hi hz0 hz1 hz2 (by simp [Value.cells, bvs_len, Z8]) (by decide) v _ _ hd hown.row ⟨g, 0, none⟩ 1 1 (bvs x) hs (by rw [bvs_len, hx])
    (fun j u hu => by rw [Addr.add_lit, Nat.zero_add, hA.cell]; exact hu) (bvs_one x) (by unfold maxLen; omega) (by omega) hB ?_
  intro v' w' h1 h2 _ h4
  refine hK v' w' ⟨?_, All32.of fun y hy => ?_⟩ h2 h4
  · rw [dcs_app, List.length_append]
    exact h1
  · rcases List.mem_append.1 hy with h | h
    · exact hown.all.mem h
    · simp only [List.mem_singleton] at h
      rw [h]; exact hx
end
theorem set_at {vs : List Value} {k : Nat} (v : Value) (hk : k < vs.length) (j : Nat) : (vs.set k v).getD j undef = if j = k then v else vs.getD j undef := by
  rw [List.getD, List.getElem?_set]
  by_cases e : j = k
  · subst e; rw [if_pos rfl, if_pos rfl, if_pos hk]; rfl
  · rw [if_neg (fun e2 => e e2.symm), if_neg e]; rfl
/-- six rows of hashes in one array -/
structure RowsI (w : World) (B g3 : Nat) (vs : List Value) (R : Nat → List (List UInt8)) : Prop where
  len : vs.length = 6
  arr : Arr w g3 56 vs
  own : ∀ j, j < 6 → OwnD w B (vs.getD j undef) (R j)
  apart : ∀ i j, i < 6 → j < 6 → i ≠ j → ∀ k, (vs.getD i undef).ownBlock = some k → ¬ (vs.getD j undef).ownBlock = some k
  low : g3 < B
theorem RowsI.to {w w' : World} {B g3 : Nat} {vs : List Value} {R : Nat → List (List UInt8)} (h : RowsI w B g3 vs R) (hb : Below w.heap.size w w') : RowsI w' B g3 vs R :=
  ⟨h.len, h.arr.kept hb, fun j hj => (h.own j hj).to hb, h.apart, h.low⟩
theorem RowsI.of {w : World} {B g3 : Nat} {vs : List Value} {R R' : Nat → List (List UInt8)} (h : RowsI w B g3 vs R) (e : ∀ j, j < 6 → R j = R' j) : RowsI w B g3 vs R' :=
  ⟨h.len, h.arr, fun j hj => e j hj ▸ h.own j hj, h.apart, h.low⟩
theorem RowsI.cell {w : World} {B g3 : Nat} {vs : List Value} {R : Nat → List (List UInt8)} (h : RowsI w B g3 vs R) (k : Nat) (hk : k < 6) :
    ∃ a cap, vs.getD k undef = .slice a (R k).length cap ∧ w.cell? ⟨g3, k, none⟩ = some (.slice a (R k).length cap) ∧ RdD w a (R k).length cap (R k) := by
  obtain ⟨a, cap, e, hr⟩ := (h.own k hk).rd
  refine ⟨a, cap, e, ?_, hr⟩
  rw [h.arr.cell, ← e, List.getD, List.getElem?_eq_getElem (by rw [h.len]; exact hk)]
  rfl
theorem RowsI.kb {S : Nat → Prop} {w w' : World} {B g3 : Nat} {vs : List Value} {R : Nat → List (List UInt8)} (h : RowsI w B g3 vs R) (hkb : KB S w w') (h3 : ¬ S g3) (hs : ∀ j, j < 6 → ∀ z, (vs.getD j undef).ownBlock = some z → ¬ S z) : RowsI w' B g3 vs R :=
  ⟨h.len, (hkb.block g3 h.arr.lt h3).trans h.arr, fun j hj => hkb.ownDv (h.own j hj) (hs j hj), h.apart, h.low⟩
theorem RowsI.got {w : World} {B g3 : Nat} {vs : List Value} {R : Nat → List (List UInt8)} (h : RowsI w B g3 vs R) (k : Nat) (hk : k < 6) : vs[k]? = some (vs.getD k undef) := by
  rw [List.getD, List.getElem?_eq_getElem (by rw [h.len]; exact hk)]
  rfl
theorem RowsI.put {w w' : World} {B g3 : Nat} {vs : List Value} {R : Nat → List (List UInt8)} (h : RowsI w B g3 vs R) (k : Nat) (hk : k < 6) (v : Value) (M : List (List UInt8))
    (hkb : KB (fun q => q = g3 ∨ (vs.getD k undef).ownBlock = some q) w w') (hA : Arr w' g3 56 (vs.set k v)) (ho : OwnD w' B v M)
    (hat : ∀ q, v.ownBlock = some q → (vs.getD k undef).ownBlock = some q ∨ w.heap.size ≤ q) : RowsI w' B g3 (vs.set k v) (fun j => if j = k then M else R j) := by
  have hl := h.len
  have hg : ∀ j, j < 6 → (vs.set k v).getD j undef = if j = k then v else vs.getD j undef := fun j hj => by
    rw [List.getD, List.getElem?_set]
    by_cases e : j = k
    · subst e; rw [if_pos rfl, if_pos rfl, if_pos (by omega)]; rfl
    · rw [if_neg (fun e2 => e e2.symm), if_neg e]; rfl
  have hlt : ∀ j, j < 6 → ∀ q, (vs.getD j undef).ownBlock = some q → B ≤ q ∧ q < w.heap.size := fun j hj q hq => World.ownsRow.lt (h.own j hj).row q hq
  refine ⟨by rw [List.length_set]; exact hl, hA, fun j hj => ?_, fun i j hi hj hij q => ?_, h.low⟩
  · rw [hg j hj]
    by_cases e : j = k
    · rw [if_pos e]; show OwnD w' B v (if j = k then M else R j); rw [if_pos e]; exact ho
    · rw [if_neg e]; show OwnD w' B _ (if j = k then M else R j); rw [if_neg e]
      refine hkb.ownDv (h.own j hj) fun q hq => ?_
      rintro (e2 | e2)
      · have := (hlt j hj q hq).1; have := h.low; omega
      · exact h.apart j k hj hk e q hq e2
  · rw [hg i hi, hg j hj]
    by_cases e1 : i = k
    · by_cases e2 : j = k
      · omega
      · rw [if_pos e1, if_neg e2]
        intro hq hq2
        rcases hat q hq with h3 | h3
        · exact h.apart k j hk hj (fun e => e2 e.symm) q h3 hq2
        · have := (hlt j hj q hq2).2; omega
    · by_cases e2 : j = k
      · rw [if_neg e1, if_pos e2]
        intro hq hq2
        rcases hat q hq2 with h3 | h3
        · exact h.apart i k hi hk e1 q hq h3
        · have := (hlt i hi q hq).2; omega
      · rw [if_neg e1, if_neg e2]; exact h.apart i j hi hj hij q
/-- six empty rows -/
def six0 : List Value := [.slice none 0 0, .slice none 0 0, .slice none 0 0, .slice none 0 0, .slice none 0 0, .slice none 0 0]
theorem info6 : (Tryd.prog.info? 56).map (fun i => (i.zero, i.size)) = some (some (.agg six0.toArray), 6) := by kernel_rfl
theorem six0_at (j : Nat) (hj : j < 6) : six0.getD j undef = .slice none 0 0 := by
  match j, hj with
  | 0, _ => rfl
  | 1, _ => rfl
  | 2, _ => rfl
  | 3, _ => rfl
  | 4, _ => rfl
  | 5, _ => rfl
theorem RowsI.zero {w : World} {B g3 : Nat} (hA : Arr w g3 56 six0) (hB : g3 < B) (L : List (List UInt8)) : RowsI w B g3 six0 (fun j => chunks (L.take 0) (4 * j)) := by
  refine ⟨rfl, hA, fun j hj => ?_, fun i j hi hj _ k hk => ?_, hB⟩
  · rw [six0_at j hj]
    have e : chunks (L.take 0) (4 * j) = [] := by simp [chunks]
    rw [e]
    exact OwnD.nil _ _
  · rw [six0_at i hi] at hk
    cases hk
end Go.Proofs.YtfidajbenmgflaaDoor
