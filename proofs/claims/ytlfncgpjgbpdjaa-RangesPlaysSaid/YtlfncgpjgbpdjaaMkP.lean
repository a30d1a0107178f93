/-
  Layer 8: rows of hashes made with room; slices.Clone, the program's Leaves. Conditions: those in each statement.
-/
import Derived.Test.YtlfncgpjgbpdjaaMkM
import Derived.Test.YtlfncgpjgbpdjaaMkK
import Derived.Laws.OwnMore
import Derived.Lib.LazyBuf
namespace Go.Proofs.Ytlfncgpjgbpdjaa
open Go.RowKit

theorem dcs_zero (n : Nat) : dcs (List.replicate n (Z8 32)) = List.replicate (n * 32) (.int .u8 0) := by
  induction n with
  | zero => simp [dcs]
  | succ n ih =>
    rw [List.replicate_succ, show dcs (Z8 32 :: List.replicate n (Z8 32)) = bvs (Z8 32) ++ dcs (List.replicate n (Z8 32)) by simp [dcs], ih, show (n + 1) * 32 = 32 + n * 32 by omega, ← List.replicate_append_replicate]
    rfl
theorem made_dcs (n : Nat) : madeCells (bvs (Z8 32)).toArray (n * 32) = (dcs (List.replicate n (Z8 32))).toArray := by
  rw [dcs_zero]
  apply Array.ext
  · simp [madeCells]
  · intro i h1 h2
    have e : ∀ j, j < 32 → (bvs (Z8 32)).toArray[j]! = .int .u8 0 := by
      intro j hj
      have h1 : bvs (Z8 32) = List.replicate 32 (.int .u8 0) := rfl
      rw [h1]
      generalize 32 = q at *
      simp [hj]
    simp only [madeCells, Array.getElem_map, Array.getElem_range, List.getElem_toArray, List.getElem_replicate]
    exact e _ (Nat.mod_lt _ (by decide))

section
variable {ops : Array Oper} {rest : List Oper} {o : Oper} {a : Act} {Q : Exit → Act → World → Prop} {w : World}
/-- make([]Digest, m, cap) -/
theorem wl_makeD (hg : o.guard = none) (l c : Operand) (ho : o.op = .makeSlice 30 l c) (m cap : Nat) (hl : a.eval l = .int .i64 (m : Int)) (hc : a.eval c = .int .i64 (cap : Int)) (hm : m ≤ cap) (hcap : cap ≤ 2 ^ 43)
    (hK : ∀ w', Arr w' w.heap.size 29 (dcs (List.replicate cap (Z8 32))) → Below w.heap.size w w' → w'.heap.size = w.heap.size + 1 → wpList Try.prog ops Q rest (a.put o.dst (.slice (some ⟨w.heap.size, 0, none⟩) m cap)) w') :
    wpList Try.prog ops Q (o :: rest) a w := by
  obtain ⟨i0, hi, hz0, hz1, hz2⟩ := info_parts infoDg
  refine wpList_plain hg fun K hK' => ?_
  have hrun := run_make (P := Try.prog) (w := w) 30 29 i0 _ Try.underlying30 hi hz0 .i64 .i64 m cap (by omega) (by omega) (by rw [hz2]; omega) (by omega)
  rw [Int.toNat_natCast, Int.toNat_natCast, hz1, show (Value.agg (bvs (Z8 32)).toArray).cells = (bvs (Z8 32)).toArray from rfl, made_dcs] at hrun
  unfold Oper.wp execOp
  simp only [ho, hl, hc, Sem.run_bind, Sem.run_pure, hrun, Result.andThen_ok]
  exact hK' _ _ (hK _ (Arr.new _ _ _) ((Below.refl _ _).alloc (Nat.le_refl _) _) (by simp))
/-- append(row, hash) where there is room -/
theorem wl_fitD (hgd : o.guard = none) (d s : Operand) (ho : o.op = .call { callee := .builtin .append, args := #[d, s], argTypes := #[30, 30] })
    (B g cap k : Nat) (L : List (List UInt8)) (hd : a.eval d = .slice (some ⟨g, 0, none⟩) k cap) (hown : OwnD w B (.slice (some ⟨g, 0, none⟩) k cap) L) (hL : L.length = k) (h : Nat) (x : List UInt8) (hs : a.eval s = .slice (some ⟨h, 0, none⟩) 1 1)
    (hA : Arr w h 29 (bvs x)) (hx : x.length = 32) (hroom : k + 1 ≤ cap) (hB : B ≤ w.heap.size)
    (hK : ∀ w', OwnD w' B (.slice (some ⟨g, 0, none⟩) (k + 1) cap) (L ++ [x]) → Below B w w' → wpList Try.prog ops Q rest (a.put o.dst (.slice (some ⟨g, 0, none⟩) (k + 1) cap)) w') : wpList Try.prog ops Q (o :: rest) a w := by
  obtain ⟨i0, hi, hz0, hz1, hz2⟩ := info_parts infoDg
  have hrow := hown.row
  rw [hL] at hrow
  refine wpList_plain hgd fun K hK' => ?_
  obtain ⟨w', hr, h1, h2⟩ := run_append_fits (P := Try.prog) (w := w) B 30 o.type 29 i0 32 Try.underlying30 hi hz1 g k cap (dcs L) hrow ⟨h, 0, none⟩ 1 1 (bvs x) (by rw [bvs_len, hx])
    (fun j u hu => by rw [Addr.add_lit, Nat.zero_add, hA.cell]; exact hu) (bvs_one x) hroom
  unfold Oper.wp execOp
  simp only [ho, resolve, invoke, builtin, Sem.run_bind, Sem.run_pure, Result.andThen_ok, List.map_toArray, List.map_cons, List.map_nil, hd, hs, hr]
  refine hK' _ _ (hK w' ⟨?_, All32.of fun y hy => ?_⟩ ((Below.refl _ _).grown h2 hB fun q hq => (World.ownsRow.lt hown.row q hq).1))
  · rw [dcs_app, List.length_append, hL]
    exact h1
  · rcases List.mem_append.1 hy with h | h
    · exact hown.all.mem h
    · simp only [List.mem_singleton] at h
      rw [h]; exact hx
end
theorem OwnD.made {w : World} {B g cap : Nat} {L : List (List UInt8)} (h : Arr w g 29 (dcs L)) (hL : L.length = cap) (ha : All32 L) (hB : B ≤ g) (hc : cap ≤ maxLen) : OwnD w B (.slice (some ⟨g, 0, none⟩) cap cap) L := by
  refine ⟨⟨dcs_len ha, .inr ⟨g, cap, _, by rw [hL], hB, h, by omega, hc, by simp [dcs_len ha, hL], ?_⟩⟩, ha⟩
  rw [List.take_of_length_le (by simp [dcs_len ha])]
theorem OwnD.room {w : World} {B g cap : Nat} {M : List (List UInt8)} (h : Arr w g 29 (dcs M)) (hL : M.length = cap) (ha : All32 M) (hB : B ≤ g) (hc : cap ≤ maxLen) : OwnD w B (.slice (some ⟨g, 0, none⟩) 0 cap) [] := by
  refine ⟨⟨rfl, .inr ⟨g, cap, _, rfl, hB, h, Nat.zero_le _, hc, by simp [dcs_len ha, hL], by simp [dcs]⟩⟩, fun k hk => by simp at hk⟩
theorem zero32 (n : Nat) : All32 (List.replicate n (Z8 32)) := All32.of fun x hx => by rw [(List.mem_replicate.1 hx).2]; simp [Z8]

end Go.Proofs.Ytlfncgpjgbpdjaa
