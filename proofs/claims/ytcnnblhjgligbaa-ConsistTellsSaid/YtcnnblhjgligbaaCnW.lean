/-
  What came in: two sizes, two heads and a proof by value. Conditions: those in each statement.
-/
import Derived.Test.YtcnnblhjgligbaaMgT
namespace Go.Proofs.Ytcnnblhjgligbaa
open Go.ChangeShapes Go.WideShapes Go.ChangeAt Go.RowKit

def WOK {H : Type} (P : Program) (t : TypeId) (d : DataW H) : Prop := (d.weights P t).all (· ≤ reachBytes) = true
theorem wok_all {H : Type} {P : Program} {e : TypeId} : ∀ {l : List (DataW H)} {d : DataW H}, d ∈ l → ∀ n ∈ d.weights P e, n ∈ DataW.weightsAll P e l
  | x :: r, d, h, n, hn => by
    simp only [DataW.weightsAll, List.mem_append]
    rcases List.mem_cons.1 h with rfl | h
    · exact .inl hn
    · exact .inr (wok_all h n hn)
theorem wok_slice {H : Type} {P : Program} {t e : TypeId} {elems spare : List (DataW H)} (hu : P.underlying t = some (.slice e)) (h : WOK P t (.slice elems spare)) : (elems.length + spare.length) * P.bytesOf e ≤ reachBytes ∧ ∀ d ∈ elems, WOK P e d := by
  unfold WOK at h
  refine ⟨by simpa using List.all_eq_true.1 h ((elems.length + spare.length) * P.bytesOf e) (by simp [DataW.weights, hu]), fun d hd => ?_⟩
  unfold WOK
  rw [List.all_eq_true]
  intro n hn
  exact List.all_eq_true.1 h n (by
    simp only [DataW.weights, hu, List.mem_cons, List.mem_append]
    exact .inr (.inl (wok_all hd n hn)))
theorem wok_struct {H : Type} {P : Program} {t : TypeId} {fs : Array Field} {parts : List (DataW H)} (hu : P.underlying t = some (.struct fs)) (h : WOK P t (.agg parts)) {i : Nat} {f : Field} {d : DataW H} (hf : fs[i]? = some f) (hd : parts[i]? = some d) : WOK P f.type d := by
  unfold WOK at *
  rw [List.all_eq_true]
  intro n hn
  refine List.all_eq_true.1 h n ?_
  simp only [DataW.weights, hu]
  exact DataW.weights_mem_each (j := i) (by simp [hf]) hd n hn
theorem wok_top {H : Type} {P : Program} {ts : List TypeId} {ds : List (DataW H)} (h : (DataW.weightsEach P ts ds).all (· ≤ reachBytes) = true) {j : Nat} {t : TypeId} {d : DataW H} (ht : ts[j]? = some t) (hd : ds[j]? = some d) : WOK P t d := by
  unfold WOK
  rw [List.all_eq_true]
  intro n hn
  exact List.all_eq_true.1 h n (DataW.weights_mem_each ht hd n hn)
theorem wok_dlen {H : Type} {P : Program} {t e : TypeId} {d : DataW H} (hu : P.underlying t = some (.slice e)) (h : WOK P t d) : dlen d * P.bytesOf e ≤ reachBytes := by
  cases d with
  | slice elems spare => exact (wok_slice hu h).1
  | _ => simp [dlen]
theorem two {α : Type} {l : List α} (h : l.length = 2) : ∃ a b, l = [a, b] := by
  cases l with
  | nil => cases h
  | cons a l => cases l with
    | nil => cases h
    | cons b l => cases l with
      | nil => exact ⟨a, b, rfl⟩
      | cons c l => simp at h
theorem four {α : Type} {l : List α} (h : l.length = 4) : ∃ a b c d, l = [a, b, c, d] := by
  cases l with
  | nil => cases h
  | cons a l => cases l with
    | nil => cases h
    | cons b l =>
      obtain ⟨c, d, rfl⟩ := two (l := l) (by simpa using h)
      exact ⟨a, b, c, d, rfl⟩
section
variable {H : Type} {enc : TypeId × Value → H} {W : World} {sp : Nat → Bool} {fuel : Nat}
/-- the cell of a slice of hashes that came in -/
theorem rdD_of_cells {v : Value} {y : DataW H × List MemPlace} (hf : DataW.trod enc Try.prog W 0 sp true fuel 33 [v] = some y) :
    ∃ a n cap L, v = .slice a n cap ∧ RdD W a n cap L ∧ n ≤ dlen y.1 := by
  rcases Deep.open_slice Try.underlying33 hf with ⟨hcs, he⟩ | ⟨a, len, cap, m, n, D, Pl, hcs, _, hl, _, hmm, he, hi⟩
  · obtain rfl : v = .slice none 0 0 := by simpa using hcs
    exact ⟨_, _, _, [], rfl, ⟨rfl, Nat.le_refl _, fun k hk => by simp at hk, fun _ => rfl, fun h => by omega⟩, Nat.zero_le _⟩
  · obtain rfl : v = .slice (some a) len cap := by simpa using hcs
    have hsl := slice_len_d Try.underlying33 hf
    have hml : len ≤ m := by rw [hmm]; split <;> omega
    have cell : ∀ i, i < len → ∃ xs : List UInt8, xs.length = 32 ∧ ∀ j, j < 32 → W.cell? ((a.add (i * 32)).add j) = (bvs xs)[j]? := by
      intro i hil
      obtain ⟨cs', hc, ht'⟩ := hi i (by omega)
      rw [cellsDg] at hc
      obtain ⟨_, hcl, hat⟩ := World.cells?_some hc
      obtain ⟨xs, h1, rfl⟩ := dig_cells ht'
      exact ⟨xs, h1, hat⟩
    obtain ⟨L, hL, hall⟩ := listOf _ len cell
    have hA32 : All32 L := fun k hk => by
      have := (hall k hk).1
      simpa [List.getD, hk] using this
    refine ⟨_, _, _, L, rfl, ⟨hL, hl, hA32, (by intro e; cases e), fun h0 => ?_⟩, hsl⟩
    have c0 := (hall 0 (by omega)).2 0 (by omega)
    rw [bvs_get _ _ (by have := (hall 0 (by omega)).1; omega)] at c0
    have hspot := spot_none c0
    obtain ⟨b, off, spt⟩ := a
    have e0 : ((⟨b, off, spt⟩ : Addr).add (0 * 32)).add 0 = ⟨b, off, spt⟩ := rfl
    rw [e0] at hspot c0
    simp only at hspot
    subst hspot
    refine ⟨b, off, rfl, World.block_lt_of_cell? W _ c0, fun k hk j hj => ?_⟩
    have h1 := hall k (by omega)
    have h2 := h1.2 j hj
    rw [bvs_get _ _ (by have := h1.1; omega), Addr.add_lit, Addr.add_lit] at h2
    rw [h2]
    simp [List.getD, show k < L.length by omega]
/-- two sizes, two heads, a proof -/
structure ToldC where
  m : Nat
  n : Nat
  d : List UInt8
  r : List UInt8
  a : Option Addr
  c : Nat
  L : List (List UInt8)
def encC (x : ToldC) : List Value := [.int .u64 (x.m : Int), .int .u64 (x.n : Int)] ++ (bvs x.d ++ (bvs x.r ++ [.slice x.a x.L.length x.c]))
theorem cellsTd : Try.prog.cellsOf 43 = 67 := by kernel_rfl
theorem cellsU : Try.prog.cellsOf 22 = 1 := by kernel_rfl
theorem cellsDs : Try.prog.cellsOf 33 = 1 := by kernel_rfl
theorem fieldsTd : ∃ f0 f1 f2 f3 f4 : Field, Try.prog.underlying 43 = some (.struct #[f0, f1, f2, f3, f4]) ∧ f0.type = 22 ∧ f0.offset = 0 ∧ f1.type = 22 ∧ f1.offset = 1 ∧ f2.type = 41 ∧ f2.offset = 2 ∧ f3.type = 41 ∧ f3.offset = 34 ∧ f4.type = 33 ∧ f4.offset = 66 := ⟨_, _, _, _, _, Try.underlying43, rfl, rfl, rfl, rfl, rfl, rfl, rfl, rfl, rfl, rfl⟩
theorem five {α : Type} {l : List α} (h : l.length = 5) : ∃ a b c d e, l = [a, b, c, d, e] := by
  cases l with
  | nil => cases h
  | cons a l =>
    obtain ⟨b, c, d, e, rfl⟩ := four (l := l) (by simpa using h)
    exact ⟨a, b, c, d, e, rfl⟩
theorem told_of_cells {cs : List Value} {y : DataW H × List MemPlace} (hf : DataW.trod enc Try.prog W 0 sp true fuel 43 cs = some y) (hw : WOK Try.prog 43 y.1) :
    ∃ x : ToldC, encC x = cs ∧ x.d.length = 32 ∧ x.r.length = 32 ∧ RdD W x.a x.L.length x.c x.L ∧ x.L.length ≤ 2 ^ 42 := by
  obtain ⟨f0, f1, f2, f3, f4, hu, t0, o0, t1, o1, t2, o2, t3, o3, t4, o4⟩ := fieldsTd
  obtain ⟨ys, m, _, rfl, hlen, hyl, hfl⟩ := DataW.trod_struct hu hf
  rw [cellsTd] at hlen
  obtain ⟨y0, y1, y2, y3, y4, rfl⟩ := five (show ys.length = 5 from hyl)
  have h0 := hfl 0 f0 rfl
  have h1 := hfl 1 f1 rfl
  have h2 := hfl 2 f2 rfl
  have h3 := hfl 3 f3 rfl
  have h4 := hfl 4 f4 rfl
  rw [t0, o0, cellsU] at h0
  rw [t1, o1, cellsU] at h1
  rw [t2, o2, cellsDg] at h2
  rw [t3, o3, cellsDg] at h3
  rw [t4, o4, cellsDs] at h4
  have e0 : cs.drop 0 = cs[0]'(by omega) :: cs.drop 1 := List.drop_eq_getElem_cons (by omega)
  have e1 : cs.drop 1 = cs[1]'(by omega) :: cs.drop 2 := List.drop_eq_getElem_cons (by omega)
  have e66 : cs.drop 66 = cs[66]'(by omega) :: cs.drop 67 := List.drop_eq_getElem_cons (by omega)
  rw [e0] at h0
  rw [e1] at h1
  rw [e66] at h4
  simp only [List.take_succ_cons, List.take_zero] at h0 h1 h4
  obtain ⟨z1, hz1, w1⟩ := int_of_cells (y := y0) Try.underlying22 h0
  obtain ⟨z2, hz2, w2⟩ := int_of_cells (y := y1) Try.underlying22 h1
  obtain ⟨xs, hxl, ex⟩ := dig_cells (y := y2) h2
  obtain ⟨rs, hrl, er⟩ := dig_cells (y := y3) h3
  obtain ⟨a, n, cap, L, hv, hr, hn⟩ := rdD_of_cells (y := y4) h4
  obtain ⟨s1, rfl⟩ := wf_n64 w1
  obtain ⟨s2, rfl⟩ := wf_n64 w2
  have hl := hr.len
  subst hl
  refine ⟨⟨s1, s2, xs, rs, a, cap, L⟩, ?_, hxl, hrl, hr, ?_⟩
  · show [_, _] ++ (bvs xs ++ (bvs rs ++ [_])) = cs
    have d67 : cs.drop 67 = [] := List.drop_of_length_le (by omega)
    have k34 : cs.drop 34 = (cs.drop 34).take 32 ++ cs.drop 66 := by
      conv => lhs; rw [← List.take_append_drop 32 (cs.drop 34), List.drop_drop]
    have k2 : cs.drop 2 = (cs.drop 2).take 32 ++ cs.drop 34 := by
      conv => lhs; rw [← List.take_append_drop 32 (cs.drop 2), List.drop_drop]
    have k0 : cs = cs[0]'(by omega) :: cs[1]'(by omega) :: cs.drop 2 := by
      conv => lhs; rw [← List.drop_zero (l := cs), e0, e1]
    conv => rhs; rw [k0, k2, k34, e66, d67]
    rw [← ex, ← er, ← hz1, ← hz2, ← hv]
    rfl
  · have hw2 := wok_struct hu hw (i := 4) (f := f4) (d := y4.1) rfl rfl
    rw [t4] at hw2
    have h5 := wok_dlen Try.underlying33 hw2
    rw [bytesDg] at h5
    simp only [reachBytes] at h5
    show L.length ≤ _
    omega
theorem told_of_trod {v : Value} {d : DataW H} {p : List MemPlace} {b0 : Nat} (hval : Value.okWide Try.prog W .any b0 43 v) (h0 : DataW.Trod enc Try.prog W 0 sp true 43 v d p) (hw : WOK Try.prog 43 d) :
    ∃ x : ToldC, v = .agg (encC x).toArray ∧ x.d.length = 32 ∧ x.r.length = 32 ∧ RdD W x.a x.L.length x.c x.L ∧ x.L.length ≤ 2 ^ 42 := by
  simp only [Value.okWide, Try.underlying43] at hval
  obtain ⟨cs, rfl, hsz, -⟩ := hval
  obtain ⟨fuel, hf⟩ := h0
  obtain ⟨x, h1, h2⟩ := told_of_cells hf hw
  exact ⟨x, by congr 1; apply Array.toList_inj.1; exact h1.symm, h2⟩
end
end Go.Proofs.Ytcnnblhjgligbaa
