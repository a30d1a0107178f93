/-
  What came in: a value with the weights of its parts; what is cut off it has no more. Conditions: those in each statement.
-/
import Derived.Test.YtiadfijeglbdlaaDoorJzC
import Derived.SizedLaws
namespace Go.Proofs.YtiadfijeglbdlaaDoor
open Go.ChangeShapes Go.WideShapes Go.ChangeAt Go.RowKit
set_option maxRecDepth 100000

/-- the weights of a part of what came in are within the reach -/
def WOK {H : Type} (P : Program) (t : TypeId) (d : DataW H) : Prop := (d.weights P t).all (· ≤ reachBytes) = true
theorem wok_all {H : Type} {P : Program} {e : TypeId} : ∀ {l : List (DataW H)} {d : DataW H}, d ∈ l → ∀ n ∈ d.weights P e, n ∈ DataW.weightsAll P e l
  | x :: r, d, h, n, hn => by
    simp only [DataW.weightsAll, List.mem_append]
    rcases List.mem_cons.1 h with rfl | h
    · exact .inl hn
    · exact .inr (wok_all h n hn)
theorem wok_slice {H : Type} {P : Program} {t e : TypeId} {elems spare : List (DataW H)} (hu : P.underlying t = some (.slice e)) (h : WOK P t (.slice elems spare)) : (elems.length + spare.length) * P.bytesOf e ≤ reachBytes ∧ ∀ d ∈ elems, WOK P e d := by
  unfold WOK at h
  refine ⟨by simpa using List.all_eq_true.1 h ((elems.length + spare.length) * P.bytesOf e) (by simp [DataW.weights, hu]), fun d hd => ?_⟩
  unfold WOK
  rw [List.all_eq_true]
  intro n hn
  exact List.all_eq_true.1 h n (by
    simp only [DataW.weights, hu, List.mem_cons, List.mem_append]
    exact .inr (.inl (wok_all hd n hn)))
theorem wok_struct {H : Type} {P : Program} {t : TypeId} {fs : Array Field} {parts : List (DataW H)} (hu : P.underlying t = some (.struct fs)) (h : WOK P t (.agg parts)) {i : Nat} {f : Field} {d : DataW H} (hf : fs[i]? = some f) (hd : parts[i]? = some d) : WOK P f.type d := by
  unfold WOK at *
  rw [List.all_eq_true]
  intro n hn
  refine List.all_eq_true.1 h n ?_
  simp only [DataW.weights, hu]
  exact DataW.weights_mem_each (j := i) (by simp [hf]) hd n hn
theorem wok_top {H : Type} {P : Program} {ts : List TypeId} {ds : List (DataW H)} (h : (DataW.weightsEach P ts ds).all (· ≤ reachBytes) = true) {j : Nat} {t : TypeId} {d : DataW H} (ht : ts[j]? = some t) (hd : ds[j]? = some d) : WOK P t d := by
  unfold WOK
  rw [List.all_eq_true]
  intro n hn
  exact List.all_eq_true.1 h n (DataW.weights_mem_each ht hd n hn)
theorem wok_string {H : Type} {P : Program} {t : TypeId} {b : List UInt8} (h : WOK P t (.lit (.string b) : DataW H)) : b.length ≤ reachBytes := by
  have := List.all_eq_true.1 h b.length (by simp [DataW.weights])
  exact of_decide_eq_true this

mutual
theorem small_cut : ∀ (v : JV) (d m : Nat), smallV v m → smallV (cutF v d) m
  | .mk k s n l ks, d, m, h => by
    unfold smallV at h
    unfold cutF smallV
    by_cases hd : d = 0
    · rw [if_pos hd, if_pos hd]
      unfold smallL
      exact ⟨h.1, by simp, trivial⟩
    · rw [if_neg hd, if_neg hd]
      exact ⟨h.1, h.2.1, small_cutL l (d - 1) m h.2.2⟩
theorem small_cutL : ∀ (l : List JV) (d m : Nat), smallL l m → smallL (cutL l d) m
  | [], _, _, _ => by unfold cutL smallL; trivial
  | v :: r, d, m, h => by
    unfold smallL at h
    unfold cutL smallL
    exact ⟨small_cut v d m h.1, small_cutL r d m h.2⟩
end
mutual
theorem room_cut : ∀ (v : JV) (d : Nat), roomV v → roomV (cutF v d)
  | .mk k s n l ks, d, h => by
    unfold roomV at h
    unfold cutF roomV
    by_cases hd : d = 0
    · rw [if_pos hd, if_pos hd]
      unfold roomL
      exact ⟨by simp, by simp, trivial⟩
    · rw [if_neg hd, if_neg hd]
      exact ⟨by rw [cutL_len]; exact h.1, h.2.1, room_cutL l (d - 1) h.2.2⟩
theorem room_cutL : ∀ (l : List JV) (d : Nat), roomL l → roomL (cutL l d)
  | [], _, _ => by unfold cutL roomL; trivial
  | v :: r, d, h => by
    unfold roomL at h
    unfold cutL roomL
    exact ⟨room_cut v d h.1, room_cutL r d h.2⟩
end
theorem small_mk {m : Nat} : ∀ (l : List JV), (∀ (i : Nat) (v : JV), l[i]? = some v → smallV v m) → smallL l m
  | [], _ => by unfold smallL; trivial
  | v :: r, h => by
    unfold smallL
    exact ⟨h 0 v rfl, small_mk r fun i u hi => h (i + 1) u (by simpa using hi)⟩
theorem room_mk : ∀ (l : List JV), (∀ (i : Nat) (v : JV), l[i]? = some v → roomV v) → roomL l
  | [], _ => by unfold roomL; trivial
  | v :: r, h => by
    unfold roomL
    exact ⟨h 0 v rfl, room_mk r fun i u hi => h (i + 1) u (by simpa using hi)⟩

/-- the slice of texts that came in -/
theorem rstr_of_trod_w {H : Type} {enc : TypeId × Value → H} {P : Program} {T E : TypeId} (ht : P.underlying T = some (.slice E)) (he : P.underlying E = some .string) (hc : P.cellsOf E = 1) {W : World} {v : Value} {y : DataW H × List MemPlace} {fuel : Nat} {sp : Nat → Bool}
    (hf : DataW.trod enc P W 0 sp true fuel T [v] = some y) (hby : P.bytesOf E = 16) (hw : WOK P T y.1) : ∃ a c ks, v = .slice a ks.length c ∧ RStr W ks a c ∧ ks.length ≤ 8796093022208 ∧ ∀ k ∈ ks, k.length ≤ 9223372036854775000 := by
  rcases open_strings ht he hc hf with ⟨hcs, _⟩ | ⟨a, len, cap, ss, hcs, _, hl, hbig, hlen, hy, hcell, _⟩
  · obtain rfl : v = .slice none 0 0 := by simpa using hcs
    exact ⟨none, 0, [], rfl, ⟨Nat.le_refl _, by omega, fun _ => rfl, fun h => absurd h (Nat.lt_irrefl _)⟩, by simp, by simp⟩
  · obtain rfl : v = .slice (some a) len cap := by simpa using hcs
    have hls : len ≤ ss.length := by rw [hlen]; split <;> omega
    have hkl : ((ss.take len).map fun s => s.data.toList).length = len := by rw [List.length_map, List.length_take]; omega
    rw [hy] at hw
    obtain ⟨w1, w2⟩ := wok_slice ht hw
    rw [hby] at w1
    simp only [strs, List.length_map, List.length_take, List.length_drop, reachBytes] at w1
    refine ⟨some a, cap, (ss.take len).map fun s => s.data.toList, by rw [hkl], ⟨by rw [hkl]; exact hl, hbig, (by intro e; cases e), fun h0 => ?_⟩, by rw [hkl]; omega, fun k hk => ?_⟩
    · rw [hkl] at h0
      have h00 := hcell 0 (by omega)
      have e0 : a.add 0 = a := rfl
      rw [e0] at h00
      have hspot := spot_none h00
      obtain ⟨b, off, spt⟩ := a
      simp only at hspot
      subst hspot
      refine ⟨b, off, rfl, World.block_lt_of_cell? W _ h00, fun i hi => ?_⟩
      rw [hkl] at hi
      have := hcell i (by omega)
      rw [Addr.add_lit] at this
      rw [this]
      have hin : i < ss.length := by omega
      simp [List.getD, hin, hi, bstr]
    · obtain ⟨s, hs, rfl⟩ := List.mem_map.1 hk
      have := wok_string (w2 _ (List.mem_map.2 ⟨s, hs, rfl⟩))
      simp only [reachBytes] at this
      omega

/-- the value that came in -/
theorem rv_of_trod_w {H : Type} {enc : TypeId × Value → H} {P : Program} {T TL TK TI TS TU : TypeId} {f0 f1 f2 f3 f4 : Field}
    (hT : P.underlying T = some (.struct #[f0, f1, f2, f3, f4])) (h0 : f0.type = TI) (h1 : f1.type = TS) (h2 : f2.type = TU) (h3 : f3.type = TL) (h4 : f4.type = TK) (hone : Deep.oneCellFields P #[f0, f1, f2, f3, f4] = true) (hC : P.cellsOf T = 5)
    (hI : P.underlying TI = some (.int .i64)) (hS : P.underlying TS = some .string) (hU : P.underlying TU = some (.int .u64)) (hL : P.underlying TL = some (.slice T)) (hK : P.underlying TK = some (.slice TS)) (hKc : P.cellsOf TS = 1) (hbT : P.bytesOf T = 80) (hbS : P.bytesOf TS = 16) {W : World} {sp : Nat → Bool} :
    ∀ (N : Nat) (fuel : Nat) (cs : List Value) (y : DataW H × List MemPlace), Rows.uptoBulk y.1 ≤ N → DataW.trod enc P W 0 sp true fuel T cs = some y → WOK P T y.1 → ∃ v, RV W v cs ∧ smallV v 9223372036854775000 ∧ roomV v := by
  intro N
  induction N with
  | zero => intro fuel cs y hN; have := bulk_one y.1; omega
  | succ N ih =>
    intro fuel cs y hN hf hw
    obtain ⟨ys, n, _, hy, hlen, hyl, hfl⟩ := DataW.trod_struct hT hf
    rw [hC] at hlen
    match cs, hlen with
    | [c0, c1, c2, c3, c4], _ =>
    have fld : ∀ (j : Nat) (f : Field) (c : Value), #[f0, f1, f2, f3, f4][j]? = some f → [c0, c1, c2, c3, c4][j]? = some c → ∃ z : DataW H × List MemPlace, ys[j]? = some z ∧ DataW.trod enc P W 0 sp true n f.type [c] = some z := fun j f c hj hcj => by
      obtain ⟨ho, hk⟩ := Deep.hone_of hone j f hj
      have hjl : j < 5 := (Array.getElem?_eq_some_iff.1 hj).1
      have hy5 : ys.length = 5 := hyl
      have h := hfl j f hj
      rw [ho, hk] at h
      have hcs : ([c0, c1, c2, c3, c4].drop j).take 1 = [c] := by
        obtain ⟨hjl2, e⟩ := List.getElem?_eq_some_iff.1 hcj
        rw [List.drop_eq_getElem_cons hjl2, e]
        rfl
      rw [hcs, List.getElem?_eq_getElem (by omega)] at h
      exact ⟨_, List.getElem?_eq_getElem (by omega), h⟩
    have sub : ∀ (j : Nat) (z : DataW H × List MemPlace), ys[j]? = some z → Rows.uptoBulk z.1 ≤ N := fun j z hz => by
      have hD1 : y.1 = .agg (ys.map (·.1)) := congrArg Prod.fst hy
      rw [hD1] at hN
      have := bulk_mem (d := z.1) (l := ys.map (·.1)) (List.mem_map.2 ⟨z, List.mem_of_getElem? hz, rfl⟩)
      simp only [Rows.uptoBulk] at hN
      omega
    obtain ⟨z0, e0, t0⟩ := fld 0 f0 c0 rfl rfl
    obtain ⟨z1, e1, t1⟩ := fld 1 f1 c1 rfl rfl
    obtain ⟨z2, e2, t2⟩ := fld 2 f2 c2 rfl rfl
    obtain ⟨z3, e3, t3⟩ := fld 3 f3 c3 rfl rfl
    obtain ⟨z4, e4, t4⟩ := fld 4 f4 c4 rfl rfl
    have wk : ∀ (j : Nat) (f : Field) (z : DataW H × List MemPlace), #[f0, f1, f2, f3, f4][j]? = some f → ys[j]? = some z → WOK P f.type z.1 := fun j f z hj hz => by
      have hD1 : y.1 = .agg (ys.map (·.1)) := congrArg Prod.fst hy
      rw [hD1] at hw
      exact wok_struct hT hw hj (by rw [List.getElem?_map, hz]; rfl)
    have w1 := wk 1 f1 z1 rfl e1
    have w3 := wk 3 f3 z3 rfl e3
    have w4 := wk 4 f4 z4 rfl e4
    rw [h1] at w1
    rw [h3] at w3
    rw [h4] at w4
    rw [h0] at t0
    rw [h1] at t1
    rw [h2] at t2
    rw [h3] at t3
    rw [h4] at t4
    obtain ⟨k, rfl, hk⟩ := int_of_cells hI t0
    obtain ⟨s, hs, hz1, _⟩ := DataW.trod_string hS t1
    obtain rfl : c1 = .string s := by simpa using hs
    rw [hz1] at w1
    have hb1 := wok_string w1
    simp only [reachBytes] at hb1
    obtain ⟨m, rfl, hm⟩ := int_of_cells hU t2
    obtain ⟨mn, rfl, hmn⟩ := wf_u64 hm
    obtain ⟨a', c', ks, rfl, hks, hkb, hkl⟩ := rstr_of_trod_w hK hS hKc t4 hbS w4
    have hk1 : -9223372036854775808 ≤ k ∧ k ≤ 9223372036854775807 := by
      have h1 : IntKind.i64.min = -9223372036854775808 := rfl
      have h2 : IntKind.i64.max = 9223372036854775807 := rfl
      simp only [Lit.wf, Bool.and_eq_true, decide_eq_true_eq] at hk
      omega
    have hb3 := sub 3 z3 e3
    rcases Deep.open_slice hL t3 with ⟨hcs, _⟩ | ⟨a, len, cap, mm, n', D, Pl, hcs, _, hl, hbig, hmm, hz3, hi⟩
    · obtain rfl : c3 = .slice none 0 0 := by simpa using hcs
      refine ⟨.mk k s.data.toList mn [] ks, ?_, by unfold smallV smallL; exact ⟨by omega, hkl, trivial⟩, by unfold roomV roomL; exact ⟨by simp, hkb, trivial⟩⟩
      unfold RV
      exact ⟨none, 0, a', c', rfl, ⟨hk1.1, hk1.2, by omega⟩, hks, ⟨Nat.le_refl _, by omega⟩, fun _ => rfl, fun h => absurd h (Nat.lt_irrefl _)⟩
    · obtain rfl : c3 = .slice (some a) len cap := by simpa using hcs
      have hml : len ≤ mm := by rw [hmm]; split <;> omega
      rw [hz3] at hb3 w3
      obtain ⟨wl, we⟩ := wok_slice hL w3
      rw [hbT] at wl
      simp only [List.length_map, List.length_range, reachBytes] at wl
      have bulkD : ∀ i, i < len → Rows.uptoBulk (D i) ≤ N := fun i hil => by
        have := bulk_mem (d := D i) (l := (List.range len).map D) (List.mem_map.2 ⟨i, List.mem_range.2 hil, rfl⟩)
        simp only [Rows.uptoBulk] at hb3
        omega
      have cell : ∀ i, i < len → ∃ cs', (∀ j, j < 5 → W.cell? ((a.add (i * 5)).add j) = cs'[j]?) ∧ cs'.length = 5 ∧ ∃ v, RV W v cs' ∧ smallV v 9223372036854775000 ∧ roomV v := by
        intro i hil
        obtain ⟨cs', hc, ht'⟩ := hi i (by omega)
        rw [hC] at hc
        obtain ⟨_, hcl, hat⟩ := World.cells?_some hc
        exact ⟨cs', hat, hcl, ih n' cs' (D i, Pl i) (bulkD i hil) ht' (we _ (List.mem_map.2 ⟨i, List.mem_range.2 hil, rfl⟩))⟩
      obtain ⟨l, hll, hlv⟩ := choose_list len (fun i v => ∃ cs', (∀ j, j < 5 → W.cell? ((a.add (i * 5)).add j) = cs'[j]?) ∧ cs'.length = 5 ∧ RV W v cs' ∧ smallV v 9223372036854775000 ∧ roomV v) (fun i hil => by
        obtain ⟨cs', h1, h2, v, h3⟩ := cell i hil
        exact ⟨v, cs', h1, h2, h3⟩)
      refine ⟨.mk k s.data.toList mn l ks, ?_, by unfold smallV; exact ⟨by omega, hkl, small_mk l fun i v hi => by obtain ⟨_, _, _, _, h, _⟩ := hlv i v hi; exact h⟩, by unfold roomV; exact ⟨by omega, hkb, room_mk l fun i v hi => by obtain ⟨_, _, _, _, _, h⟩ := hlv i v hi; exact h⟩⟩
      unfold RV
      refine ⟨some a, cap, a', c', by rw [hll]; rfl, ⟨hk1.1, hk1.2, by omega⟩, hks, ⟨by rw [hll]; exact hl, hbig⟩, (by intro e; cases e), fun h0 => ?_⟩
      obtain ⟨cs', g1, g2, v0, g3⟩ := cell 0 (by omega)
      have hc0 := g1 0 (by omega)
      rw [Nat.zero_mul, List.getElem?_eq_getElem (by omega)] at hc0
      have hspot := spot_none hc0
      obtain ⟨b, off, spt⟩ := a
      have e0 : ((⟨b, off, spt⟩ : Addr).add 0).add 0 = ⟨b, off, spt⟩ := rfl
      rw [e0] at hspot hc0
      simp only at hspot
      subst hspot
      refine ⟨b, off, rfl, World.block_lt_of_cell? W _ hc0, rl_mk b l off fun i v hiv => ?_⟩
      obtain ⟨cs2, q1, q2, q3, -, -⟩ := hlv i v hiv
      refine ⟨cs2, q2, fun j hj => ?_, q3⟩
      have := q1 j hj
      rw [Addr.add_lit, Addr.add_lit, Nat.add_assoc, Nat.mul_comm i 5] at this
      exact this

/-- the value that came in, with the bounds of what it may hold -/
theorem value_of_trod_w {H : Type} {enc : TypeId × Value → H} {W : World} {v : Value} {d : DataW H} {p : List MemPlace} {b0 : Nat} {sp : Nat → Bool} (hval : Value.okWide Tryd.prog W .any b0 26 v) (h0 : DataW.Trod enc Tryd.prog W 0 sp true 26 v d p) (hw : WOK Tryd.prog 26 d) :
    ∃ cs x, v = .agg (List.toArray cs) ∧ RV W x cs ∧ smallV x 9223372036854775000 ∧ roomV x := by
  obtain ⟨⟨cs⟩, rfl, -⟩ := okWide_struct Tryd.underlying26 hval
  obtain ⟨fuel, hf⟩ := h0
  obtain ⟨x, h1, h2, h3⟩ := rv_of_trod_w Tryd.underlying26 rfl rfl rfl rfl rfl (by kernel_rfl) (by kernel_rfl) Tryd.underlying3 Tryd.underlying9 Tryd.underlying22 Tryd.underlying23 Tryd.underlying24 (by kernel_rfl) (by kernel_rfl) (by kernel_rfl) _ fuel cs (d, p) (Nat.le_refl _) hf hw
  exact ⟨_, x, rfl, h1, h2, h3⟩
end Go.Proofs.YtiadfijeglbdlaaDoor
