/-
  Values in memory: what reads as a value; what came in. Conditions: those in each statement.
-/
import Derived.Test.YtehlgflpkofooaaDoorJsonP
import Derived.Test.YtehlgflpkofooaaDoorTopB
import Derived.SliceStrings
namespace Go.Proofs.YtehlgflpkofooaaDoor
open Go.ChangeShapes Go.WideShapes Go.ChangeAt Go.RowKit

/-- a slice of texts -/
structure RStr (w : World) (ks : List (List UInt8)) (a : Option Addr) (c : Nat) : Prop where
  le : ks.length ≤ c
  big : c ≤ 9223372036854775807
  nil : a = none → c = 0
  mem : 0 < ks.length → ∃ b off, a = some ⟨b, off, none⟩ ∧ b < w.heap.size ∧ ∀ i, i < ks.length → w.cell? ⟨b, off + i, none⟩ = some (.string (bstr (ks.getD i [])))
mutual
/-- five cells read as a value -/
def RV (w : World) : JV → List Value → Prop
  | .mk k s n l ks, cs => ∃ a c a' c', cs = [.int .i64 k, .string (bstr s), .int .u64 (n : Int), .slice a l.length c, .slice a' ks.length c'] ∧ (-9223372036854775808 ≤ k ∧ k ≤ 9223372036854775807 ∧ n < 18446744073709551616) ∧ RStr w ks a' c' ∧
      (l.length ≤ c ∧ c ≤ 9223372036854775807) ∧ (a = none → c = 0) ∧ (0 < l.length → ∃ b off, a = some ⟨b, off, none⟩ ∧ b < w.heap.size ∧ RL w l b off)
/-- the cells from an address on read as values, five cells each -/
def RL (w : World) : List JV → Nat → Nat → Prop
  | [], _, _ => True
  | v :: r, b, off => (∃ cs, cs.length = 5 ∧ (∀ j, j < 5 → w.cell? ⟨b, off + j, none⟩ = cs[j]?) ∧ RV w v cs) ∧ RL w r b (off + 5)
end
theorem RStr.to {w w' : World} {ks : List (List UInt8)} {a : Option Addr} {c : Nat} (h : RStr w ks a c) (hb : Below w.heap.size w w') : RStr w' ks a c := by
  refine ⟨h.le, h.big, h.nil, fun h0 => ?_⟩
  obtain ⟨b, off, e, h1, h2⟩ := h.mem h0
  exact ⟨b, off, e, Nat.lt_of_lt_of_le h1 hb.size, fun i hi => (hb.cell (p := ⟨b, off + i, none⟩) h1).trans (h2 i hi)⟩
mutual
theorem rv_to {w w' : World} (hb : Below w.heap.size w w') : ∀ (v : JV) (cs : List Value), RV w v cs → RV w' v cs
  | .mk k s n l ks, cs, h => by
    unfold RV at h ⊢
    obtain ⟨a, c, a', c', e, hk, hs, h1, h2, h3⟩ := h
    refine ⟨a, c, a', c', e, hk, hs.to hb, h1, h2, fun h0 => ?_⟩
    obtain ⟨b, off, e1, e2, e3⟩ := h3 h0
    exact ⟨b, off, e1, Nat.lt_of_lt_of_le e2 hb.size, rl_to hb l b off e2 e3⟩
theorem rl_to {w w' : World} (hb : Below w.heap.size w w') : ∀ (l : List JV) (b off : Nat), b < w.heap.size → RL w l b off → RL w' l b off
  | [], _, _, _, _ => by unfold RL; trivial
  | v :: r, b, off, hlt, h => by
    unfold RL at h ⊢
    obtain ⟨⟨cs, h1, h2, h3⟩, h4⟩ := h
    exact ⟨⟨cs, h1, fun j hj => (hb.cell (p := ⟨b, off + j, none⟩) hlt).trans (h2 j hj), rv_to hb v cs h3⟩, rl_to hb r b (off + 5) hlt h4⟩
end
theorem rl_at {w : World} : ∀ (l : List JV) (b off i : Nat) (v : JV), RL w l b off → l[i]? = some v → ∃ cs, cs.length = 5 ∧ (∀ j, j < 5 → w.cell? ⟨b, off + (5 * i + j), none⟩ = cs[j]?) ∧ RV w v cs
  | [], _, _, _, _, _, h => by simp at h
  | u :: r, b, off, 0, v, h, hi => by
    unfold RL at h
    obtain ⟨⟨cs, h1, h2, h3⟩, _⟩ := h
    cases hi
    exact ⟨cs, h1, fun j hj => by rw [Nat.mul_zero, Nat.zero_add]; exact h2 j hj, h3⟩
  | u :: r, b, off, i + 1, v, h, hi => by
    unfold RL at h
    obtain ⟨cs, h1, h2, h3⟩ := rl_at r b (off + 5) i v h.2 (by simpa using hi)
    exact ⟨cs, h1, fun j hj => by rw [show off + (5 * (i + 1) + j) = off + 5 + (5 * i + j) by omega]; exact h2 j hj, h3⟩
theorem rl_mk {w : World} (b : Nat) : ∀ (l : List JV) (off : Nat), (∀ i v, l[i]? = some v → ∃ cs, cs.length = 5 ∧ (∀ j, j < 5 → w.cell? ⟨b, off + (5 * i + j), none⟩ = cs[j]?) ∧ RV w v cs) → RL w l b off
  | [], _, _ => by unfold RL; trivial
  | v :: r, off, h => by
    unfold RL
    refine ⟨?_, rl_mk b r (off + 5) fun i u hi => ?_⟩
    · obtain ⟨cs, h1, h2, h3⟩ := h 0 v rfl
      exact ⟨cs, h1, fun j hj => by have := h2 j hj; rwa [Nat.mul_zero, Nat.zero_add] at this, h3⟩
    · obtain ⟨cs, h1, h2, h3⟩ := h (i + 1) u (by simpa using hi)
      exact ⟨cs, h1, fun j hj => by have := h2 j hj; rwa [show off + (5 * (i + 1) + j) = off + 5 + (5 * i + j) by omega] at this, h3⟩
theorem rv_len {w : World} {v : JV} {cs : List Value} (h : RV w v cs) : cs.length = 5 := by
  obtain ⟨k, s, n, l, ks⟩ := v
  unfold RV at h
  obtain ⟨a, c, a', c', rfl, -⟩ := h
  rfl
/-- what is in a list is smaller -/
theorem jv_mem {k : Int} {s : List UInt8} {n : Nat} {l : List JV} {ks : List (List UInt8)} {u : JV} (h : u ∈ l) : SizeOf.sizeOf u < SizeOf.sizeOf (JV.mk k s n l ks) := by
  have := List.sizeOf_lt_of_mem h
  simp only [JV.mk.sizeOf_spec]
  omega
theorem choose_list {α : Type} (n : Nat) (p : Nat → α → Prop) (h : ∀ i, i < n → ∃ v, p i v) : ∃ l : List α, l.length = n ∧ ∀ i v, l[i]? = some v → p i v := by
  induction n with
  | zero => exact ⟨[], rfl, fun i v h => by simp at h⟩
  | succ n ih =>
    obtain ⟨l, h1, h2⟩ := ih fun i hi => h i (by omega)
    obtain ⟨v, hv⟩ := h n (by omega)
    refine ⟨l ++ [v], by simp [h1], fun i u hi => ?_⟩
    by_cases hin : i < l.length
    · rw [List.getElem?_append_left hin] at hi
      exact h2 i u hi
    · rw [List.getElem?_append_right (by omega)] at hi
      have : i - l.length = 0 := by
        rcases Nat.eq_zero_or_pos (i - l.length) with h0 | h0
        · exact h0
        · rw [List.getElem?_eq_none (by simp; omega)] at hi
          cases hi
      rw [this] at hi
      cases hi
      have : i = n := by omega
      rw [this]
      exact hv
/-- the slice of texts that came in -/
theorem rstr_of_trod {H : Type} {enc : TypeId × Value → H} {P : Program} {T E : TypeId} (ht : P.underlying T = some (.slice E)) (he : P.underlying E = some .string) (hc : P.cellsOf E = 1) {W : World} {v : Value} {y : DataW H × List MemPlace} {fuel : Nat} {sp : Nat → Bool}
    (hf : DataW.trod enc P W 0 sp true fuel T [v] = some y) : ∃ a c ks, v = .slice a ks.length c ∧ RStr W ks a c := by
  rcases open_strings ht he hc hf with ⟨hcs, _⟩ | ⟨a, len, cap, ss, hcs, _, hl, hbig, hlen, _, hcell, _⟩
  · obtain rfl : v = .slice none 0 0 := by simpa using hcs
    exact ⟨none, 0, [], rfl, ⟨Nat.le_refl _, by omega, fun _ => rfl, fun h => absurd h (Nat.lt_irrefl _)⟩⟩
  · obtain rfl : v = .slice (some a) len cap := by simpa using hcs
    have hls : len ≤ ss.length := by rw [hlen]; split <;> omega
    have hkl : ((ss.take len).map fun s => s.data.toList).length = len := by rw [List.length_map, List.length_take]; omega
    refine ⟨some a, cap, (ss.take len).map fun s => s.data.toList, by rw [hkl], ⟨by rw [hkl]; exact hl, hbig, (by intro e; cases e), fun h0 => ?_⟩⟩
    rw [hkl] at h0
    have h00 := hcell 0 (by omega)
    have e0 : a.add 0 = a := rfl
    rw [e0] at h00
    have hspot := spot_none h00
    obtain ⟨b, off, spt⟩ := a
    simp only at hspot
    subst hspot
    refine ⟨b, off, rfl, World.block_lt_of_cell? W _ h00, fun i hi => ?_⟩
    rw [hkl] at hi
    have := hcell i (by omega)
    rw [Addr.add_lit] at this
    rw [this]
    have hin : i < ss.length := by omega
    simp [List.getD, hin, hi, bstr]

/-- the value that came in -/
theorem rv_of_trod {H : Type} {enc : TypeId × Value → H} {P : Program} {T TL TK TI TS TU : TypeId} {f0 f1 f2 f3 f4 : Field}
    (hT : P.underlying T = some (.struct #[f0, f1, f2, f3, f4])) (h0 : f0.type = TI) (h1 : f1.type = TS) (h2 : f2.type = TU) (h3 : f3.type = TL) (h4 : f4.type = TK) (hone : Deep.oneCellFields P #[f0, f1, f2, f3, f4] = true) (hC : P.cellsOf T = 5)
    (hI : P.underlying TI = some (.int .i64)) (hS : P.underlying TS = some .string) (hU : P.underlying TU = some (.int .u64)) (hL : P.underlying TL = some (.slice T)) (hK : P.underlying TK = some (.slice TS)) (hKc : P.cellsOf TS = 1) {W : World} {sp : Nat → Bool} :
    ∀ (N : Nat) (fuel : Nat) (cs : List Value) (y : DataW H × List MemPlace), Rows.uptoBulk y.1 ≤ N → DataW.trod enc P W 0 sp true fuel T cs = some y → ∃ v, RV W v cs := by
  intro N
  induction N with
  | zero => intro fuel cs y hN; have := bulk_one y.1; omega
  | succ N ih =>
    intro fuel cs y hN hf
    obtain ⟨ys, n, _, hy, hlen, hyl, hfl⟩ := DataW.trod_struct hT hf
    rw [hC] at hlen
    match cs, hlen with
    | [c0, c1, c2, c3, c4], _ =>
    have fld : ∀ (j : Nat) (f : Field) (c : Value), #[f0, f1, f2, f3, f4][j]? = some f → [c0, c1, c2, c3, c4][j]? = some c → ∃ z : DataW H × List MemPlace, ys[j]? = some z ∧ DataW.trod enc P W 0 sp true n f.type [c] = some z := fun j f c hj hcj => by
      obtain ⟨ho, hk⟩ := Deep.hone_of hone j f hj
      have hjl : j < 5 := (Array.getElem?_eq_some_iff.1 hj).1
      have hy5 : ys.length = 5 := hyl
      have h := hfl j f hj
      rw [ho, hk] at h
      have hcs : ([c0, c1, c2, c3, c4].drop j).take 1 = [c] := by
        obtain ⟨hjl2, e⟩ := List.getElem?_eq_some_iff.1 hcj
        rw [List.drop_eq_getElem_cons hjl2, e]
        rfl
      rw [hcs, List.getElem?_eq_getElem (by omega)] at h
      exact ⟨_, List.getElem?_eq_getElem (by omega), h⟩
    have sub : ∀ (j : Nat) (z : DataW H × List MemPlace), ys[j]? = some z → Rows.uptoBulk z.1 ≤ N := fun j z hz => by
      have hD1 : y.1 = .agg (ys.map (·.1)) := congrArg Prod.fst hy
      rw [hD1] at hN
      have := bulk_mem (d := z.1) (l := ys.map (·.1)) (List.mem_map.2 ⟨z, List.mem_of_getElem? hz, rfl⟩)
      simp only [Rows.uptoBulk] at hN
      omega
    obtain ⟨z0, _, t0⟩ := fld 0 f0 c0 rfl rfl
    obtain ⟨z1, _, t1⟩ := fld 1 f1 c1 rfl rfl
    obtain ⟨z2, _, t2⟩ := fld 2 f2 c2 rfl rfl
    obtain ⟨z3, e3, t3⟩ := fld 3 f3 c3 rfl rfl
    obtain ⟨z4, _, t4⟩ := fld 4 f4 c4 rfl rfl
    rw [h0] at t0
    rw [h1] at t1
    rw [h2] at t2
    rw [h3] at t3
    rw [h4] at t4
    obtain ⟨k, rfl, hk⟩ := int_of_cells hI t0
    obtain ⟨s, hs, _⟩ := DataW.trod_string hS t1
    obtain rfl : c1 = .string s := by simpa using hs
    obtain ⟨m, rfl, hm⟩ := int_of_cells hU t2
    obtain ⟨mn, rfl, hmn⟩ := wf_u64 hm
    obtain ⟨a', c', ks, rfl, hks⟩ := rstr_of_trod hK hS hKc t4
    have hk1 : -9223372036854775808 ≤ k ∧ k ≤ 9223372036854775807 := by
      have h1 : IntKind.i64.min = -9223372036854775808 := rfl
      have h2 : IntKind.i64.max = 9223372036854775807 := rfl
      simp only [Lit.wf, Bool.and_eq_true, decide_eq_true_eq] at hk
      omega
    have hb3 := sub 3 z3 e3
    rcases Deep.open_slice hL t3 with ⟨hcs, _⟩ | ⟨a, len, cap, mm, n', D, Pl, hcs, _, hl, hbig, hmm, hz3, hi⟩
    · obtain rfl : c3 = .slice none 0 0 := by simpa using hcs
      refine ⟨.mk k s.data.toList mn [] ks, ?_⟩
      unfold RV
      exact ⟨none, 0, a', c', rfl, ⟨hk1.1, hk1.2, by omega⟩, hks, ⟨Nat.le_refl _, by omega⟩, fun _ => rfl, fun h => absurd h (Nat.lt_irrefl _)⟩
    · obtain rfl : c3 = .slice (some a) len cap := by simpa using hcs
      have hml : len ≤ mm := by rw [hmm]; split <;> omega
      rw [hz3] at hb3
      have bulkD : ∀ i, i < len → Rows.uptoBulk (D i) ≤ N := fun i hil => by
        have := bulk_mem (d := D i) (l := (List.range len).map D) (List.mem_map.2 ⟨i, List.mem_range.2 hil, rfl⟩)
        simp only [Rows.uptoBulk] at hb3
        omega
      have cell : ∀ i, i < len → ∃ cs', (∀ j, j < 5 → W.cell? ((a.add (i * 5)).add j) = cs'[j]?) ∧ cs'.length = 5 ∧ ∃ v, RV W v cs' := by
        intro i hil
        obtain ⟨cs', hc, ht'⟩ := hi i (by omega)
        rw [hC] at hc
        obtain ⟨_, hcl, hat⟩ := World.cells?_some hc
        exact ⟨cs', hat, hcl, ih n' cs' (D i, Pl i) (bulkD i hil) ht'⟩
      obtain ⟨l, hll, hlv⟩ := choose_list len (fun i v => ∃ cs', (∀ j, j < 5 → W.cell? ((a.add (i * 5)).add j) = cs'[j]?) ∧ cs'.length = 5 ∧ RV W v cs') (fun i hil => by
        obtain ⟨cs', h1, h2, v, h3⟩ := cell i hil
        exact ⟨v, cs', h1, h2, h3⟩)
      refine ⟨.mk k s.data.toList mn l ks, ?_⟩
      unfold RV
      refine ⟨some a, cap, a', c', by rw [hll]; rfl, ⟨hk1.1, hk1.2, by omega⟩, hks, ⟨by rw [hll]; exact hl, hbig⟩, (by intro e; cases e), fun h0 => ?_⟩
      obtain ⟨cs', g1, g2, v0, g3⟩ := cell 0 (by omega)
      have hc0 := g1 0 (by omega)
      rw [Nat.zero_mul, List.getElem?_eq_getElem (by omega)] at hc0
      have hspot := spot_none hc0
      obtain ⟨b, off, spt⟩ := a
      have e0 : ((⟨b, off, spt⟩ : Addr).add 0).add 0 = ⟨b, off, spt⟩ := rfl
      rw [e0] at hspot hc0
      simp only at hspot
      subst hspot
      refine ⟨b, off, rfl, World.block_lt_of_cell? W _ hc0, rl_mk b l off fun i v hiv => ?_⟩
      obtain ⟨cs2, q1, q2, q3⟩ := hlv i v hiv
      refine ⟨cs2, q2, fun j hj => ?_, q3⟩
      have := q1 j hj
      rw [Addr.add_lit, Addr.add_lit, Nat.add_assoc, Nat.mul_comm i 5] at this
      exact this
end Go.Proofs.YtehlgflpkofooaaDoor
