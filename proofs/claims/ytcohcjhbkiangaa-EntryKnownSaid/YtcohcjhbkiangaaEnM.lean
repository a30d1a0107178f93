/-
  What came in as an entry, a chain, a head, read as such, with the bounds that the reach gives. Conditions: those in each statement.
-/
import Derived.Test.YtcohcjhbkiangaaEnL
import Derived.Test.YtcohcjhbkiangaaSized
namespace Go.Proofs.Ytcohcjhbkiangaa
open Go.ChangeShapes Go.WideShapes Go.ChangeAt Go.RowKit

def WOK {H : Type} (P : Program) (t : TypeId) (d : DataW H) : Prop := (d.weights P t).all (· ≤ reachBytes) = true

theorem len2 {α : Type} {l : List α} (h : l.length = 2) : ∃ a b, l = [a, b] := by
  cases l with
  | nil => cases h
  | cons a l => cases l with
    | nil => cases h
    | cons b l => cases l with
      | nil => exact ⟨a, b, rfl⟩
      | cons c l => simp at h
theorem len4 {α : Type} {l : List α} (h : l.length = 4) : ∃ a b c d, l = [a, b, c, d] := by
  cases l with
  | nil => cases h
  | cons a l => cases l with
    | nil => cases h
    | cons b l =>
      obtain ⟨c, d, rfl⟩ := len2 (l := l) (by simpa using h)
      exact ⟨a, b, c, d, rfl⟩
theorem len2up {α : Type} {l : List α} {n : Nat} (h : l.length = n + 2) : ∃ a b r, l = a :: b :: r ∧ r.length = n := by
  cases l with
  | nil => simp at h
  | cons a l => cases l with
    | nil => simp at h
    | cons b l => exact ⟨a, b, l, rfl, by simpa using h⟩
theorem wok_all {H : Type} {P : Program} {e : TypeId} : ∀ {l : List (DataW H)} {d : DataW H}, d ∈ l → ∀ n ∈ d.weights P e, n ∈ DataW.weightsAll P e l
  | x :: r, d, h, n, hn => by
    simp only [DataW.weightsAll, List.mem_append]
    rcases List.mem_cons.1 h with rfl | h
    · exact .inl hn
    · exact .inr (wok_all h n hn)
theorem wok_slice {H : Type} {P : Program} {t e : TypeId} {elems spare : List (DataW H)} (hu : P.underlying t = some (.slice e)) (h : WOK P t (.slice elems spare)) : (elems.length + spare.length) * P.bytesOf e ≤ reachBytes ∧ ∀ d ∈ elems, WOK P e d := by
  unfold WOK at h
  refine ⟨by simpa using List.all_eq_true.1 h ((elems.length + spare.length) * P.bytesOf e) (by simp [DataW.weights, hu]), fun d hd => ?_⟩
  unfold WOK
  rw [List.all_eq_true]
  intro n hn
  exact List.all_eq_true.1 h n (by
    simp only [DataW.weights, hu, List.mem_cons, List.mem_append]
    exact .inr (.inl (wok_all hd n hn)))
theorem wok_struct {H : Type} {P : Program} {t : TypeId} {fs : Array Field} {parts : List (DataW H)} (hu : P.underlying t = some (.struct fs)) (h : WOK P t (.agg parts)) {i : Nat} {f : Field} {d : DataW H} (hf : fs[i]? = some f) (hd : parts[i]? = some d) : WOK P f.type d := by
  unfold WOK at *
  rw [List.all_eq_true]
  intro n hn
  refine List.all_eq_true.1 h n ?_
  simp only [DataW.weights, hu]
  exact DataW.weights_mem_each (j := i) (by simp [hf]) hd n hn
theorem wok_top {H : Type} {P : Program} {ts : List TypeId} {ds : List (DataW H)} (h : (DataW.weightsEach P ts ds).all (· ≤ reachBytes) = true) {j : Nat} {t : TypeId} {d : DataW H} (ht : ts[j]? = some t) (hd : ds[j]? = some d) : WOK P t d := by
  unfold WOK
  rw [List.all_eq_true]
  intro n hn
  exact List.all_eq_true.1 h n (DataW.weights_mem_each ht hd n hn)

section
variable {H : Type} {enc : TypeId × Value → H} {W : World} {sp : Nat → Bool} {fuel : Nat}

theorem cells1 : Try.prog.cellsOf 5 = 1 := by kernel_rfl
theorem cellsC : Try.prog.cellsOf 27 = 1 := by kernel_rfl
theorem bytes1 : 1 ≤ Try.prog.bytesOf 5 := of_decide_eq_true (by kernel_rfl)
theorem bytesC : Try.prog.bytesOf 27 = 24 := by kernel_rfl

/-- bytes that came in, with what the reach says of their number -/
theorem rd_of_wok {v : Value} {y : DataW H × List MemPlace} (hf : DataW.trod enc Try.prog W 0 sp true fuel 27 [v] = some y) (hsp : ∀ n, sp n = true) (hw : WOK Try.prog 27 y.1) :
    ∃ a n cap xs, v = .slice a n cap ∧ Rd W a n cap xs ∧ n ≤ 140737488351232 := by
  obtain ⟨a, n, cap, xs, rfl, hr, hn⟩ := rd_of_cells_d bt cells1 hf hsp
  refine ⟨a, n, cap, xs, rfl, hr, Nat.le_trans hn ?_⟩
  obtain ⟨d, pl⟩ := y
  cases d with
  | slice elems spare =>
    have h1 := (wok_slice (e := 5) Try.underlying27 hw).1
    have h2 : elems.length + spare.length ≤ (elems.length + spare.length) * Try.prog.bytesOf 5 := Nat.le_mul_of_pos_right _ bytes1
    simp only [reachBytes] at h1
    simp only [dlen]
    omega
  | _ => exact Nat.zero_le _

/-- a chain that came in -/
theorem chn_of_wok {v : Value} {y : DataW H × List MemPlace} (hf : DataW.trod enc Try.prog W 0 sp true fuel 23 [v] = some y) (hsp : ∀ n, sp n = true) (hw : WOK Try.prog 23 y.1) :
    ∃ a n cap xss, v = .slice a n cap ∧ Chn W a n cap xss ∧ n ≤ 5864062014634 ∧ ∀ x ∈ xss, x.length ≤ 140737488351232 := by
  rcases Deep.open_slice1 Try.underlying23 cellsC hf with ⟨hcs, rfl⟩ | ⟨a, len, cap, m, n, V, D, Pl, hcs, _, hl, _, hmm, rfl, hi⟩
  · obtain rfl : v = .slice none 0 0 := by simpa using hcs
    exact ⟨_, _, _, [], rfl, chn_none W, by omega, fun x hx => by simp at hx⟩
  · obtain rfl : v = .slice (some a) len cap := by simpa using hcs
    rw [hsp, if_pos rfl] at hmm
    subst hmm
    obtain ⟨w1, w2⟩ := wok_slice (e := 27) Try.underlying23 hw
    rw [bytesC] at w1
    simp only [reachBytes, List.length_map, List.length_range] at w1
    have each : ∀ i, i < len → ∃ aj nj cj xs, W.cell? (a.add i) = some (.slice aj nj cj) ∧ Rd W aj nj cj xs ∧ xs.length ≤ 140737488351232 := by
      intro i hil
      obtain ⟨hc, ht⟩ := hi i (by omega)
      obtain ⟨aj, nj, cj, xs, e, hr, hn⟩ := rd_of_wok ht hsp (w2 _ (List.mem_map.2 ⟨i, List.mem_range.2 hil, rfl⟩))
      exact ⟨aj, nj, cj, xs, by rw [hc, e], hr, by rw [hr.len]; exact hn⟩
    have key : ∃ X : Nat → List UInt8, ∀ i, i < len → ∃ aj nj cj, W.cell? (a.add i) = some (.slice aj nj cj) ∧ Rd W aj nj cj (X i) ∧ (X i).length ≤ 140737488351232 := by
      refine ⟨fun i => if h : i < len then (each i h).choose_spec.choose_spec.choose_spec.choose else [], fun i hil => ?_⟩
      obtain ⟨h1, h2, h3⟩ := (each i hil).choose_spec.choose_spec.choose_spec.choose_spec
      refine ⟨_, _, _, h1, ?_, ?_⟩
      · simpa only [hil, dif_pos] using h2
      · simpa only [hil, dif_pos] using h3
    obtain ⟨X, hX⟩ := key
    refine ⟨_, _, _, (List.range len).map X, rfl, ⟨by simp, hl, by (intro e; cases e), fun h0 => ?_⟩, by omega, ?_⟩
    · obtain ⟨_, _, _, h00, -⟩ := hX 0 h0
      have hspot : a.spot = none := spot_none (a := a.add 0) h00
      obtain ⟨b, off, spt⟩ := a
      simp only at hspot
      subst hspot
      refine ⟨b, off, rfl, World.block_lt_of_cell? W _ h00, fun j hj => ?_⟩
      obtain ⟨aj, nj, cj, h1, h2, _⟩ := hX j hj
      rw [Addr.add_lit] at h1
      refine ⟨aj, nj, cj, h1, ?_⟩
      simpa [List.getD, hj] using h2
    · intro x hx
      obtain ⟨i, hi', rfl⟩ := List.mem_map.1 hx
      exact (hX i (List.mem_range.1 hi')).choose_spec.choose_spec.choose_spec.2.2

theorem fieldsE : ∃ f0 f1 : Field, Try.prog.underlying 25 = some (.struct #[f0, f1]) ∧ f0.type = 22 ∧ f0.offset = 0 ∧ f1.type = 23 ∧ f1.offset = 1 := ⟨_, _, Try.underlying25, rfl, rfl, rfl, rfl⟩
theorem cellsE : Try.prog.cellsOf 25 = 2 := by kernel_rfl
theorem cellsU : Try.prog.cellsOf 22 = 1 := by kernel_rfl
theorem cellsCC : Try.prog.cellsOf 23 = 1 := by kernel_rfl

/-- an entry that came in -/
theorem entry_of_wok {cs : List Value} {y : DataW H × List MemPlace} (hf : DataW.trod enc Try.prog W 0 sp true fuel 25 cs = some y) (hsp : ∀ n, sp n = true) (hw : WOK Try.prog 25 y.1) :
    ∃ t a n cap xss, cs = [.int .u64 ((t : Nat) : Int), .slice a n cap] ∧ t ≤ 18446744073709551615 ∧ Chn W a n cap xss ∧ n ≤ 5864062014634 ∧ ∀ x ∈ xss, x.length ≤ 140737488351232 := by
  obtain ⟨f0, f1, hu, t0, o0, t1, o1⟩ := fieldsE
  obtain ⟨ys, m, _, rfl, hlen, hyl, hfl⟩ := DataW.trod_struct hu hf
  rw [cellsE] at hlen
  obtain ⟨c0, c1, rfl⟩ := len2 hlen
  obtain ⟨y0, y1, rfl⟩ := len2 (show ys.length = 2 from hyl)
  have h0 := hfl 0 f0 rfl
  have h1 := hfl 1 f1 rfl
  rw [t0, o0, cellsU] at h0
  rw [t1, o1, cellsCC] at h1
  obtain ⟨t, rfl, ht⟩ := int_of_cells (y := y0) Try.underlying22 h0
  obtain ⟨m', rfl, hm'⟩ := wf_u64 ht
  have hw1 := wok_struct hu hw (i := 1) (f := f1) (d := y1.1) rfl rfl
  rw [t1] at hw1
  obtain ⟨a, n, cap, xss, rfl, hc, hn, hx⟩ := chn_of_wok (y := y1) h1 hsp hw1
  exact ⟨m', a, n, cap, xss, rfl, hm', hc, hn, hx⟩

/-- an array of bytes that came in -/
theorem bytes_of_array {T n : Nat} (hu : Try.prog.underlying T = some (.array n 5)) (hc : Try.prog.cellsOf T = n) {cs : List Value} {y : DataW H × List MemPlace} (hf : DataW.trod enc Try.prog W 0 sp true fuel T cs = some y) :
    ∃ xs : List UInt8, xs.length = n ∧ cs = xs.map bv := by
  obtain ⟨ys, m, rfl, hx, hlen, hyl, hel⟩ := DataW.trod_array hu hf
  rw [hc] at hlen
  have cell : ∀ i, i < n → ∃ z, cs[i]? = some (.int .u8 z) ∧ (Lit.int .u8 z).wf = true := by
    intro i hi
    have h1 := hel i hi
    rw [cells1, Nat.mul_one, List.getElem?_eq_getElem (by omega)] at h1
    have e : (cs.drop i).take 1 = [cs[i]'(by omega)] := by
      rw [List.drop_eq_getElem_cons (by omega)]
      rfl
    have h2 : DataW.trod enc Try.prog W 0 sp true m 5 [cs[i]'(by omega)] = some (ys[i]'(by omega)) := by
      rw [← e]; exact h1
    obtain ⟨z, hz, hw⟩ := int_of_cells Try.underlying5 h2
    exact ⟨z, by rw [List.getElem?_eq_getElem (by omega), hz], hw⟩
  refine ⟨cs.map fun v => match v with | .int _ z => UInt8.ofNat z.toNat | _ => 0, by simpa using hlen, ?_⟩
  apply List.ext_getElem?
  intro i
  by_cases hi : i < n
  · obtain ⟨z, h1, h2⟩ := cell i hi
    have hb := byte_of_wf h2
    simp only [List.map_map, List.getElem?_map, h1, Option.map_some, Function.comp, bv]
    refine congrArg (fun z => some (Value.int .u8 z)) ?_
    rw [UInt8.toNat_ofNat']
    omega
  · rw [List.getElem?_eq_none (by omega), List.getElem?_eq_none (by simp; omega)]

theorem fieldsH : ∃ f0 f1 f2 f3 : Field, Try.prog.underlying 55 = some (.struct #[f0, f1, f2, f3]) ∧ f0.type = 22 ∧ f0.offset = 0 ∧ f1.type = 22 ∧ f1.offset = 1 ∧ f2.type = 52 ∧ f2.offset = 2 ∧ f3.type = 53 ∧ f3.offset = 34 := ⟨_, _, _, _, Try.underlying55, rfl, rfl, rfl, rfl, rfl, rfl, rfl, rfl⟩
theorem cellsH : Try.prog.cellsOf 55 = 98 := by kernel_rfl
theorem cellsD : Try.prog.cellsOf 52 = 32 := by kernel_rfl
theorem cellsS : Try.prog.cellsOf 53 = 64 := by kernel_rfl

/-- a head that came in -/
theorem head_of_cells {cs : List Value} {y : DataW H × List MemPlace} (hf : DataW.trod enc Try.prog W 0 sp true fuel 55 cs = some y) :
    ∃ sz tm root sig, cs = hdL sz tm root sig ∧ sz ≤ 18446744073709551615 ∧ tm ≤ 18446744073709551615 ∧ root.length = 32 ∧ sig.length = 64 := by
  obtain ⟨f0, f1, f2, f3, hu, t0, o0, t1, o1, t2, o2, t3, o3⟩ := fieldsH
  obtain ⟨ys, m, _, rfl, hlen, hyl, hfl⟩ := DataW.trod_struct hu hf
  rw [cellsH] at hlen
  obtain ⟨y0, y1, y2, y3, rfl⟩ := len4 (show ys.length = 4 from hyl)
  have h0 := hfl 0 f0 rfl
  have h1 := hfl 1 f1 rfl
  have h2 := hfl 2 f2 rfl
  have h3 := hfl 3 f3 rfl
  rw [t0, o0, cellsU] at h0
  rw [t1, o1, cellsU] at h1
  rw [t2, o2, cellsD] at h2
  rw [t3, o3, cellsS] at h3
  obtain ⟨c0, c1, r, rfl, hr⟩ := len2up (n := 96) hlen
  obtain ⟨sz, rfl, w0⟩ := int_of_cells (y := y0) Try.underlying22 h0
  obtain ⟨tm, rfl, w1⟩ := int_of_cells (y := y1) Try.underlying22 h1
  obtain ⟨sz, rfl, hsz⟩ := wf_u64 w0
  obtain ⟨tm, rfl, htm⟩ := wf_u64 w1
  obtain ⟨root, hl2, e2⟩ := bytes_of_array (y := y2) Try.underlying52 cellsD h2
  obtain ⟨sig, hl3, e3⟩ := bytes_of_array (y := y3) Try.underlying53 cellsS h3
  refine ⟨sz, tm, root, sig, ?_, hsz, htm, hl2, hl3⟩
  unfold hdL
  rw [← e2, ← e3]
  refine congrArg (fun l => Value.int .u64 (sz : Int) :: Value.int .u64 (tm : Int) :: l) ?_
  simp only [List.drop_succ_cons, List.drop_zero]
  have : (List.drop 32 r).take 64 = List.drop 32 r := List.take_of_length_le (by simp; omega)
  rw [this, List.take_append_drop]
end
end Go.Proofs.Ytcohcjhbkiangaa
