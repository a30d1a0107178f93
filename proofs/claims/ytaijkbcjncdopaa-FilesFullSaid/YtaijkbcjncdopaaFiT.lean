/-
  A slice of slices of bytes that came in: how it reads, how many bytes it may have. Conditions: those in each statement.
-/
import Derived.Test.YtaijkbcjncdopaaFiS
import Derived.Test.YtaijkbcjncdopaaSized
import Derived.ChangeMaps5
namespace Go.Proofs.Ytaijkbcjncdopaa
open Go.ChangeShapes Go.WideShapes Go.ChangeAt Go.RowKit

theorem dlen_size {H : Type} {P : Program} {ts : List TypeId} {ds : List (DataW H)} (h : (DataW.weightsEach P ts ds).all (· ≤ reachBytes) = true) {j : Nat} {t e : TypeId} {d : DataW H} (ht : ts[j]? = some t) (hd : ds[j]? = some d) (hu : P.underlying t = some (.slice e)) : dlen d * P.bytesOf e ≤ reachBytes := by
  cases d with
  | slice elems spare => exact sized_slice h ht hd hu
  | _ => simp [dlen]
theorem bytesRw : Try.prog.bytesOf 31 = 24 := by kernel_rfl
theorem bytesU8 : Try.prog.bytesOf 5 = 1 := by kernel_rfl
theorem weightsAll_mem {H : Type} {P : Program} {e : TypeId} {d : DataW H} : ∀ {l : List (DataW H)}, d ∈ l → ∀ n ∈ d.weights P e, n ∈ DataW.weightsAll P e l
  | [], h, _, _ => by simp at h
  | y :: r, h, n, hn => by
    simp only [DataW.weightsAll, List.mem_append]
    rcases List.mem_cons.1 h with rfl | h
    · exact .inl hn
    · exact .inr (weightsAll_mem h n hn)
theorem dlen_inner {H : Type} {P : Program} {ts : List TypeId} {ds : List (DataW H)} (h : (DataW.weightsEach P ts ds).all (· ≤ reachBytes) = true) {j : Nat} {t e e2 : TypeId} {l r : List (DataW H)} {x : DataW H} (ht : ts[j]? = some t) (hd : ds[j]? = some (.slice l r)) (hu : P.underlying t = some (.slice e))
    (he : P.underlying e = some (.slice e2)) (hx : x ∈ l) : dlen x * P.bytesOf e2 ≤ reachBytes := by
  cases x with
  | slice elems spare =>
    have := List.all_eq_true.1 h _ (DataW.weights_mem_each ht hd ((elems.length + spare.length) * P.bytesOf e2) (by
      simp only [DataW.weights, hu, List.mem_cons, List.mem_append]
      exact .inr (.inl (weightsAll_mem hx _ (by simp [DataW.weights, he])))))
    simpa [dlen] using this
  | _ => simp [dlen]
theorem wf_n16 {n : Int} (h : (Lit.int .u16 n).wf = true) : ∃ m : Nat, n = m ∧ m ≤ 65535 := by
  simp [Lit.wf, IntKind.min, IntKind.max, IntKind.signed, IntKind.bits] at h
  exact ⟨n.toNat, by omega, by omega⟩
section
variable {H : Type} {enc : TypeId × Value → H} {W : World}
theorem listOf {α : Type} (P : Nat → α → Prop) : ∀ n, (∀ i, i < n → ∃ x, P i x) → ∃ L : List α, L.length = n ∧ ∀ i (h : i < L.length), P i L[i] := by
  intro n
  induction n with
  | zero => intro _; exact ⟨[], rfl, fun i h => by simp at h⟩
  | succ n ih =>
    intro h
    obtain ⟨L, hl, hL⟩ := ih fun i hi => h i (by omega)
    obtain ⟨x, hx⟩ := h n (by omega)
    refine ⟨L ++ [x], by simp [hl], fun i hi => ?_⟩
    by_cases hlt : i < L.length
    · rw [List.getElem_append_left hlt]; exact hL i hlt
    · have e : i = L.length := by simp at hi; omega
      subst e
      rw [List.getElem_append_right (Nat.le_refl _)]
      simpa [hl] using hx
set_option maxRecDepth 100000 in
/-- the slice of byte slices that came in -/
theorem rdR_of_trod {v : Value} {d : DataW H} {p : List MemPlace} {b0 : Nat} {sp : Nat → Bool} (hval : Value.okWide Try.prog W .any b0 56 v) (h0 : DataW.Trod enc Try.prog W 0 sp true 56 v d p) (hsp : ∀ n, sp n = true) (hk : ∀ l r, d = .slice l r → ∀ x ∈ l, dlen x ≤ 140737488352000) :
    ∃ a n cap B, v = .slice a n cap ∧ RdR W a n cap B ∧ n ≤ dlen d := by
  obtain ⟨a0, len0, cap0, rfl⟩ := okWide_slice Try.underlying56 hval
  obtain ⟨fuel, hf⟩ := h0
  rcases Deep.open_slice Try.underlying56 hf with ⟨hcs, he⟩ | ⟨a, len, cap, m, n, D, Pl, hcs, _, hl, _, hmm, he, hi⟩
  · injection hcs with hcs
    rw [hcs]
    exact ⟨_, _, _, [], rfl, ⟨rfl, Nat.le_refl _, fun _ => rfl, fun h => by omega⟩, Nat.zero_le _⟩
  · injection hcs with hcs
    rw [hcs]
    have hml : len ≤ m := by rw [hmm]; split <;> omega
    have h1 : d = DataW.slice ((List.range len).map D) ((List.range (m - len)).map fun j => D (len + j)) := by injection he
    have cellsR : Try.prog.cellsOf 31 = 1 := by kernel_rfl
    have cell : ∀ i, i < len → ∃ xs : List UInt8, ∃ ak nk ck, W.cell? (a.add i) = some (.slice ak nk ck) ∧ nk ≤ 140737488352000 ∧ Rd W ak nk ck xs := by
      intro i hil
      obtain ⟨cs', hc, ht'⟩ := hi i (by omega)
      rw [cellsR, Nat.mul_one] at hc
      obtain ⟨_, hcl, hat⟩ := World.cells?_some hc
      match cs', hcl, ht', hat with
      | [u], _, ht', hat =>
        obtain ⟨ak, nk, ck, xs, rfl, hr, hn⟩ := rd_of_cells_d bt cells1 ht' hsp
        have hb := hk _ _ h1 (D i) (by simp; exact ⟨i, hil, rfl⟩)
        simp only at hn
        exact ⟨xs, ak, nk, ck, hat 0 (by omega), by omega, hr⟩
    obtain ⟨L, hL, hall⟩ := listOf _ len cell
    refine ⟨_, _, _, L, rfl, ⟨hL, hl, (by intro e; cases e), fun h0 => ?_⟩, ?_⟩
    · obtain ⟨_, _, _, c0, -⟩ := hall 0 (by omega)
      have hspot := spot_none c0
      obtain ⟨b, off, spt⟩ := a
      have e0 : ((⟨b, off, spt⟩ : Addr).add 0) = ⟨b, off, spt⟩ := rfl
      rw [e0] at hspot c0
      simp only at hspot
      subst hspot
      refine ⟨b, off, rfl, World.block_lt_of_cell? W _ c0, fun k hk => ?_⟩
      obtain ⟨ak, nk, ck, c, h2, h3⟩ := hall k (by omega)
      rw [Addr.add_lit] at c
      refine ⟨ak, nk, ck, c, h2, ?_⟩
      have e2 : L.getD k [] = L[k]'(by omega) := by simp [List.getD, show k < L.length by omega]
      rw [e2]
      exact h3
    · rw [h1]
      simp only [dlen, List.length_map, List.length_range]
      omega
end
end Go.Proofs.Ytaijkbcjncdopaa
