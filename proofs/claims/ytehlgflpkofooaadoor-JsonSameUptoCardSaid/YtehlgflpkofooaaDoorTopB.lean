/-
  What came in as a slice of structs: every element's every field, with its bulk. Conditions: those in each statement.
-/
import Derived.Test.YtehlgflpkofooaaDoorTop
namespace Go.Proofs.YtehlgflpkofooaaDoor
open Go.ChangeShapes Go.WideShapes Go.ChangeAt Go.RowKit

theorem bulk_mem {H : Type} {d : DataW H} {l : List (DataW H)} (h : d ∈ l) : Rows.uptoBulk d ≤ Rows.uptoBulkAll l := by
  induction l with
  | nil => cases h
  | cons x r ih =>
    simp only [Rows.uptoBulkAll]
    rcases List.mem_cons.1 h with rfl | h
    · omega
    · have := ih h; omega

/-- the slice of structs (of fields of one cell) that came in: every element's every field, of no more bulk than the whole -/
theorem structs_of_cells_b {H : Type} {enc : TypeId × Value → H} {P : Program} {T e : TypeId} {fs : Array Field} (ht : P.underlying T = some (.slice e)) (he : P.underlying e = some (.struct fs)) (hone : Deep.oneCellFields P fs = true) (hC : P.cellsOf e = fs.size) (hpos : 0 < fs.size)
    {W : World} {v : Value} {y : DataW H × List MemPlace} {fuel : Nat} {sp : Nat → Bool} (hf : DataW.trod enc P W 0 sp true fuel T [v] = some y) :
    ∃ a n cap, v = .slice a n cap ∧ n ≤ cap ∧ (a = none → cap = 0) ∧ n ≤ Rows.uptoBulk y.1 ∧
      (0 < n → ∃ b off, a = some ⟨b, off, none⟩ ∧ b < W.heap.size ∧ ∀ i, i < n → ∀ (j : Nat) (f : Field), fs[j]? = some f → ∃ (u : Value) (z : DataW H × List MemPlace) (m : Nat), W.cell? ⟨b, off + (i * fs.size + j), none⟩ = some u ∧ DataW.trod enc P W 0 sp true m f.type [u] = some z ∧ Rows.uptoBulk z.1 ≤ Rows.uptoBulk y.1) := by
  rcases Deep.open_slice ht hf with ⟨hcs, rfl⟩ | ⟨a, len, cap, m, n, D, Pl, hcs, _, hl, _, hmm, rfl, hi⟩
  · obtain rfl : v = .slice none 0 0 := by simpa using hcs
    exact ⟨_, _, _, rfl, Nat.le_refl _, fun _ => rfl, Nat.zero_le _, fun h => by omega⟩
  · obtain rfl : v = .slice (some a) len cap := by simpa using hcs
    have hml : len ≤ m := by rw [hmm]; split <;> omega
    have bulk : len ≤ Rows.uptoBulk (DataW.slice ((List.range len).map D) ((List.range (m - len)).map fun j => D (len + j))) := by
      have := bulk_len ((List.range len).map D)
      simp only [Rows.uptoBulk, List.length_map, List.length_range] at this ⊢
      omega
    have bulkD : ∀ i, i < len → Rows.uptoBulk (D i) ≤ Rows.uptoBulk (DataW.slice ((List.range len).map D) ((List.range (m - len)).map fun j => D (len + j))) := fun i hil => by
      have := bulk_mem (d := D i) (l := (List.range len).map D) (List.mem_map.2 ⟨i, List.mem_range.2 hil, rfl⟩)
      simp only [Rows.uptoBulk]
      omega
    refine ⟨_, _, _, rfl, hl, by (intro e; cases e), bulk, fun h0 => ?_⟩
    have cell : ∀ i, i < len → ∃ cs', (∀ j, j < fs.size → W.cell? ((a.add (i * fs.size)).add j) = cs'[j]?) ∧ cs'.length = fs.size ∧ DataW.trod enc P W 0 sp true n e cs' = some (D i, Pl i) := by
      intro i hil
      obtain ⟨cs', hc, ht'⟩ := hi i (by omega)
      rw [hC] at hc
      obtain ⟨_, hcl, hat⟩ := World.cells?_some hc
      exact ⟨cs', hat, hcl, ht'⟩
    obtain ⟨c0, h00, hl0, _⟩ := cell 0 h0
    have hc0 := h00 0 hpos
    rw [Nat.zero_mul, List.getElem?_eq_getElem (by omega)] at hc0
    have hspot := spot_none hc0
    obtain ⟨b, off, spt⟩ := a
    have e0 : ((⟨b, off, spt⟩ : Addr).add 0).add 0 = ⟨b, off, spt⟩ := rfl
    rw [e0] at hspot hc0
    simp only at hspot
    subst hspot
    refine ⟨b, off, rfl, World.block_lt_of_cell? W _ hc0, fun i hil j f hj => ?_⟩
    obtain ⟨cs', hat, hcl, ht'⟩ := cell i hil
    obtain ⟨ys, n', _, hD, hlen, hyl, hfl⟩ := DataW.trod_struct he ht'
    obtain ⟨ho, hk⟩ := Deep.hone_of hone j f hj
    have hjl : j < fs.size := (Array.getElem?_eq_some_iff.1 hj).1
    have h1 := hfl j f hj
    rw [ho, hk] at h1
    have hcs : (cs'.drop j).take 1 = [cs'[j]'(by omega)] := by
      rw [List.drop_eq_getElem_cons (by omega)]
      rfl
    have hjy : j < ys.length := by omega
    rw [hcs, List.getElem?_eq_getElem hjy] at h1
    have hcell := hat j hjl
    rw [List.getElem?_eq_getElem (by omega), Addr.add_lit, Addr.add_lit, Nat.add_assoc] at hcell
    refine ⟨_, _, n', hcell, h1, Nat.le_trans ?_ (bulkD i hil)⟩
    have hD1 : D i = .agg (ys.map (·.1)) := congrArg Prod.fst hD
    rw [hD1]
    have := bulk_mem (d := ys[j].1) (l := ys.map (·.1)) (List.mem_map.2 ⟨ys[j], List.getElem_mem hjy, rfl⟩)
    simp only [Rows.uptoBulk]
    omega
end Go.Proofs.YtehlgflpkofooaaDoor
