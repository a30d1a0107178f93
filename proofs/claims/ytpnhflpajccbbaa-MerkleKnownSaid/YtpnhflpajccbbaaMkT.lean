/-
  From a law's contract to its statement: hashes, lists of hashes, lists of byte slices that came in. Conditions: those in each statement.
-/
import Derived.Test.YtpnhflpajccbbaaMkH
import Derived.Test.YtpnhflpajccbbaaSized
import Derived.ChangeMaps5
namespace Go.Proofs.Ytpnhflpajccbbaa
open Go.ChangeShapes Go.WideShapes Go.ChangeAt Go.RowKit

section
variable {H : Type} {enc : TypeId × Value → H} {W : World}
theorem cellsDg : Try.prog.cellsOf 25 = 32 := by kernel_rfl
/-- the cells of a hash that came in -/
theorem dig_cells {cs : List Value} {y : DataW H × List MemPlace} {fuel : Nat} {sp : Nat → Bool} (hf : DataW.trod enc Try.prog W 0 sp true fuel 25 cs = some y) : ∃ xs : List UInt8, xs.length = 32 ∧ cs = bvs xs := by
  obtain ⟨ys, m, rfl, hx, hlen, hyl, hel⟩ := DataW.trod_array Try.underlying25 hf
  have hc : cs.length = 32 := hlen.trans (by kernel_rfl)
  have cell : ∀ i, i < 32 → ∃ n, cs[i]? = some (.int .u8 n) ∧ (Lit.int .u8 n).wf = true := by
    intro i hi
    have h1 := hel i hi
    rw [cells1, Nat.mul_one, List.getElem?_eq_getElem (by omega)] at h1
    have e : (cs.drop i).take 1 = [cs[i]'(by omega)] := by
      rw [List.drop_eq_getElem_cons (by omega)]
      rfl
    have h2 : DataW.trod enc Try.prog W 0 sp true m 5 [cs[i]'(by omega)] = some (ys[i]'(by omega)) := by
      rw [← e]; exact h1
    obtain ⟨n, hn, hw⟩ := int_of_cells Try.underlying5 h2
    exact ⟨n, by rw [List.getElem?_eq_getElem (by omega), hn], hw⟩
  refine ⟨cs.map fun v => match v with | .int _ n => UInt8.ofNat n.toNat | _ => 0, by simpa using hc, ?_⟩
  apply List.ext_getElem?
  intro i
  by_cases hi : i < 32
  · obtain ⟨n, h1, h2⟩ := cell i hi
    have hb := byte_of_wf h2
    simp only [bvs, List.map_map, List.getElem?_map, h1, Option.map_some, Function.comp]
    congr 2
    rw [UInt8.toNat_ofNat']
    omega
  · rw [List.getElem?_eq_none (by omega), List.getElem?_eq_none (by simp [bvs]; omega)]
/-- the hash that came in by value -/
theorem dig_of_trod {v : Value} {d : DataW H} {p : List MemPlace} {b0 : Nat} {sp : Nat → Bool} (hval : Value.okWide Try.prog W .any b0 25 v) (h0 : DataW.Trod enc Try.prog W 0 sp true 25 v d p) :
    ∃ xs : List UInt8, xs.length = 32 ∧ v = .agg (bvs xs).toArray := by
  simp only [Value.okWide, Try.underlying25] at hval
  obtain ⟨cs, rfl, hsz, -⟩ := hval
  obtain ⟨fuel, hf⟩ := h0
  obtain ⟨xs, h1, h2⟩ := dig_cells hf
  exact ⟨xs, h1, by congr 1; apply Array.toList_inj.1; exact h2⟩
theorem listOf {α : Type} (P : Nat → α → Prop) : ∀ n, (∀ i, i < n → ∃ x, P i x) → ∃ L : List α, L.length = n ∧ ∀ i (h : i < L.length), P i L[i] := by
  intro n
  induction n with
  | zero => intro _; exact ⟨[], rfl, fun i h => by simp at h⟩
  | succ n ih =>
    intro h
    obtain ⟨L, hl, hL⟩ := ih fun i hi => h i (by omega)
    obtain ⟨x, hx⟩ := h n (by omega)
    refine ⟨L ++ [x], by simp [hl], fun i hi => ?_⟩
    by_cases hlt : i < L.length
    · rw [List.getElem_append_left hlt]; exact hL i hlt
    · have e : i = L.length := by simp at hi; omega
      subst e
      rw [List.getElem_append_right (Nat.le_refl _)]
      simpa [hl] using hx
theorem bulk_mem : ∀ {l : List (DataW H)} {x : DataW H}, x ∈ l → Rows.uptoBulk x ≤ Rows.uptoBulkAll l := by
  intro l
  induction l with
  | nil => intro x h; cases h
  | cons y r ih =>
    intro x h
    simp only [Rows.uptoBulkAll]
    rcases List.mem_cons.1 h with rfl | h
    · omega
    · have := ih h; omega
/-- the slice of hashes that came in -/
theorem rdD_of_trod {v : Value} {d : DataW H} {p : List MemPlace} {b0 : Nat} {sp : Nat → Bool} (hval : Value.okWide Try.prog W .any b0 22 v) (h0 : DataW.Trod enc Try.prog W 0 sp true 22 v d p) :
    ∃ a n cap L, v = .slice a n cap ∧ RdD W a n cap L ∧ n ≤ Rows.uptoBulk d := by
  obtain ⟨a0, len0, cap0, rfl⟩ := okWide_slice Try.underlying22 hval
  obtain ⟨fuel, hf⟩ := h0
  rcases Deep.open_slice Try.underlying22 hf with ⟨hcs, he⟩ | ⟨a, len, cap, m, n, D, Pl, hcs, _, hl, _, hmm, he, hi⟩
  · injection hcs with hcs
    rw [hcs]
    exact ⟨_, _, _, [], rfl, ⟨rfl, Nat.le_refl _, fun k hk => by simp at hk, fun _ => rfl, fun h => by omega⟩, Nat.zero_le _⟩
  · injection hcs with hcs
    rw [hcs]
    have hml : len ≤ m := by rw [hmm]; split <;> omega
    have cell : ∀ i, i < len → ∃ xs : List UInt8, xs.length = 32 ∧ ∀ j, j < 32 → W.cell? ((a.add (i * 32)).add j) = (bvs xs)[j]? := by
      intro i hil
      obtain ⟨cs', hc, ht'⟩ := hi i (by omega)
      rw [cellsDg] at hc
      obtain ⟨_, hcl, hat⟩ := World.cells?_some hc
      obtain ⟨xs, h1, rfl⟩ := dig_cells ht'
      exact ⟨xs, h1, hat⟩
    obtain ⟨L, hL, hall⟩ := listOf _ len cell
    have hA32 : All32 L := fun k hk => by
      have := (hall k hk).1
      simpa [List.getD, hk] using this
    refine ⟨_, _, _, L, rfl, ⟨hL, hl, hA32, (by intro e; cases e), fun h0 => ?_⟩, ?_⟩
    · have c0 := (hall 0 (by omega)).2 0 (by omega)
      rw [bvs_get _ _ (by have := (hall 0 (by omega)).1; omega)] at c0
      have hspot := spot_none c0
      obtain ⟨b, off, spt⟩ := a
      have e0 : ((⟨b, off, spt⟩ : Addr).add (0 * 32)).add 0 = ⟨b, off, spt⟩ := rfl
      rw [e0] at hspot c0
      simp only at hspot
      subst hspot
      refine ⟨b, off, rfl, World.block_lt_of_cell? W _ c0, fun k hk j hj => ?_⟩
      have h1 := hall k (by omega)
      have h2 := h1.2 j hj
      rw [bvs_get _ _ (by have := h1.1; omega), Addr.add_lit, Addr.add_lit] at h2
      rw [h2]
      simp [List.getD, show k < L.length by omega]
    · have h1 : d = DataW.slice ((List.range len).map D) ((List.range (m - len)).map fun j => D (len + j)) := by injection he
      rw [h1]
      have := bulk_len ((List.range len).map D)
      simp only [Rows.uptoBulk, List.length_map, List.length_range] at this ⊢
      omega
/-- the slice of byte slices that came in -/
theorem rdR_of_trod {v : Value} {d : DataW H} {p : List MemPlace} {b0 : Nat} {sp : Nat → Bool} (hval : Value.okWide Try.prog W .any b0 38 v) (h0 : DataW.Trod enc Try.prog W 0 sp true 38 v d p) (hsp : ∀ n, sp n = true) (hk : ∀ l r, d = .slice l r → ∀ x ∈ l, dlen x ≤ 140737488352000) :
    ∃ a n cap B, v = .slice a n cap ∧ RdR W a n cap B ∧ n ≤ dlen d := by
  obtain ⟨a0, len0, cap0, rfl⟩ := okWide_slice Try.underlying38 hval
  obtain ⟨fuel, hf⟩ := h0
  rcases Deep.open_slice Try.underlying38 hf with ⟨hcs, he⟩ | ⟨a, len, cap, m, n, D, Pl, hcs, _, hl, _, hmm, he, hi⟩
  · injection hcs with hcs
    rw [hcs]
    exact ⟨_, _, _, [], rfl, ⟨rfl, Nat.le_refl _, fun _ => rfl, fun h => by omega⟩, Nat.zero_le _⟩
  · injection hcs with hcs
    rw [hcs]
    have hml : len ≤ m := by rw [hmm]; split <;> omega
    have h1 : d = DataW.slice ((List.range len).map D) ((List.range (m - len)).map fun j => D (len + j)) := by injection he
    have cellsR : Try.prog.cellsOf 37 = 1 := by kernel_rfl
    have cell : ∀ i, i < len → ∃ xs : List UInt8, ∃ ak nk ck, W.cell? (a.add i) = some (.slice ak nk ck) ∧ nk ≤ 140737488352000 ∧ Rd W ak nk ck xs := by
      intro i hil
      obtain ⟨cs', hc, ht'⟩ := hi i (by omega)
      rw [cellsR, Nat.mul_one] at hc
      obtain ⟨_, hcl, hat⟩ := World.cells?_some hc
      match cs', hcl, ht', hat with
      | [u], _, ht', hat =>
        obtain ⟨ak, nk, ck, xs, rfl, hr, hn⟩ := rd_of_cells_d bt cells1 ht' hsp
        have hb := hk _ _ h1 (D i) (by simp; exact ⟨i, hil, rfl⟩)
        simp only at hn
        exact ⟨xs, ak, nk, ck, hat 0 (by omega), by omega, hr⟩
    obtain ⟨L, hL, hall⟩ := listOf _ len cell
    refine ⟨_, _, _, L, rfl, ⟨hL, hl, (by intro e; cases e), fun h0 => ?_⟩, ?_⟩
    · obtain ⟨_, _, _, c0, -⟩ := hall 0 (by omega)
      have hspot := spot_none c0
      obtain ⟨b, off, spt⟩ := a
      have e0 : ((⟨b, off, spt⟩ : Addr).add 0) = ⟨b, off, spt⟩ := rfl
      rw [e0] at hspot c0
      simp only at hspot
      subst hspot
      refine ⟨b, off, rfl, World.block_lt_of_cell? W _ c0, fun k hk => ?_⟩
      obtain ⟨ak, nk, ck, c, h2, h3⟩ := hall k (by omega)
      rw [Addr.add_lit] at c
      refine ⟨ak, nk, ck, c, h2, ?_⟩
      have e2 : L.getD k [] = L[k]'(by omega) := by simp [List.getD, show k < L.length by omega]
      rw [e2]
      exact h3
    · rw [h1]
      simp only [dlen, List.length_map, List.length_range]
      omega
end
end Go.Proofs.Ytpnhflpajccbbaa
