/-
  From a law's contract (it returns true, and turns nothing of an older block) to what its statement says. How long what came in may be: a slice's datum and the reach of an argument. From a law's contract to its statement: hashes, lists of hashes, lists of byte slices that came in. How many bytes a slice that came in may have. What came in as a slice of elements of a fixed number of cells. What came in: numbers of 64 bits, hashes, a leaf with its path by value. Conditions: those in each statement.
-/
import Derived.Test.YtfidajbenmgflaaDoorBytes
import Derived.ProofKit
import Derived.OpenShut
import Derived.JoinedCond
import Derived.Carry
import Derived.Lib.SlBytesRowKit
import Derived.Deep.Slices
import Derived.Deep.Fields
import Derived.SizedLaws
import Derived.Test.YtfidajbenmgflaaDoorMgB
import Derived.ChangeMaps5
import Derived.Test.YtfidajbenmgflaaDoorMgD
namespace Go.Proofs.YtfidajbenmgflaaDoor
open Go.ChangeShapes Go.WideShapes Go.ChangeAt Go.RowKit

set_option maxRecDepth 100000
theorem ownKnobs : ownKnob Tryd.prog.godebug = none := by kernel_rfl
theorem laidOuts : laidOutB Tryd.prog = true := by kernel_rfl

theorem trodAll_below {H : Type} {enc : TypeId × Value → H} {P : Program} (hl : laidOutB P = true) {W W' : World} (hb : Below W.heap.size W W') :
    ∀ (ts : List TypeId) (vs : List Value) (ds : List (DataW H)) (ps : List MemPlace), (∀ t ∈ ts, P.readableRec t = true ∧ t < P.types.size) →
      DataW.TrodAll enc P W 0 (fun _ => true) true ts vs ds ps → (∀ x ∈ ps, x.block < W.heap.size) → DataW.TrodAll enc P W' 0 (fun b => decide (b < W.heap.size)) true ts vs ds ps := by
  intro ts
  induction ts with
  | nil => intro vs ds ps _ h _; obtain ⟨rfl, rfl, rfl⟩ := trodAll_nil h; exact trodAll_mk0
  | cons t ts ih =>
    intro vs ds ps hr h hlt
    obtain ⟨v, vs', d, ds', p, q, rfl, rfl, rfl, h0, h1⟩ := trodAll_cons h
    obtain ⟨r1, r2⟩ := hr t (List.mem_cons_self ..)
    exact trodAll_cons_mk (Below.trod hl r1 r2 h0 hb fun x hx => hlt x (List.mem_append.2 (.inl hx))) (ih _ _ _ (fun t ht => hr t (List.mem_cons_of_mem _ ht)) h1 fun x hx => hlt x (List.mem_append.2 (.inr hx)))

/-- what a law's statement asks behind its call -/
theorem law_post {H : Type} {enc : TypeId × Value → H} {P : Program} {fn : Func} {s : ChangeSpec} {W W' : World} {args : Array Value} {ds gs : List (DataW H)} {before : List MemPlace} {tb : TypeId}
    (hl : laidOutB P = true) (hpar : fn.params.toList.all (fun t => P.readableRec t && decide (t < P.types.size)) = true) (hres : fn.resultTypes = #[tb]) (htb : P.underlying tb = some .bool) (hvars : s.vars = [])
    (hW : DataW.Whole enc P fn.params.toList s.vars false W args.toList ds gs before) (hb : Below W.heap.size W W')
    (hs : s.fn H (ds ++ gs) = { results := [.lit (.bool true)], args := ds }) : s.post enc P fn false true false false W args (.bool true) W' := by
  have hW' := hW
  obtain ⟨p, q, hA, hV, rfl, _, _⟩ := hW
  rw [hvars] at hV
  obtain ⟨rfl, rfl⟩ := trodVars_none hV
  simp only [List.append_nil] at hW'
  have hlt : ∀ x ∈ p, x.block < W.heap.size := fun x hx => by simpa using hW'.lt x hx
  have hp : ∀ t ∈ fn.params.toList, P.readableRec t = true ∧ t < P.types.size := fun t ht => by simpa using List.all_eq_true.1 hpar t ht
  have hA' := trodAll_below hl hb _ _ _ _ hp hA hlt
  refine ⟨ds, [], p, [], p, [], hW', ?_, ?_, ?_, hb.frame _, fun h => by cases h⟩
  · rw [hs, hres]
    exact trodAll_mk1 (shut_bool htb _)
  · rw [hs]; exact hA'
  · rw [hs, hvars]; rfl

theorem bulk_one {H : Type} (d : DataW H) : 1 ≤ Rows.uptoBulk d := by
  cases d with
  | lit l => cases l <;> simp [Rows.uptoBulk]
  | nil => simp [Rows.uptoBulk]
  | ptr d => simp [Rows.uptoBulk]
  | slice elems spare => simp [Rows.uptoBulk]
  | agg parts => simp [Rows.uptoBulk]
  | iface t d => simp [Rows.uptoBulk]
  | map entries => simp [Rows.uptoBulk]
  | held h => simp [Rows.uptoBulk]
theorem bulk_len {H : Type} (l : List (DataW H)) : l.length ≤ Rows.uptoBulkAll l := by
  induction l with
  | nil => simp [Rows.uptoBulkAll]
  | cons x r ih => have := bulk_one x; simp only [Rows.uptoBulkAll, List.length_cons]; omega
theorem bulk_bound {H : Type} {l : List (DataW H)} (hk : Rows.uptoSmall H l = true) : Rows.uptoBulkAll l ≤ 1048576 := of_decide_eq_true hk

/-- the slice of bytes that came in, as what reads as bytes; its bulk is at least its length -/
theorem rd_of_cells {H : Type} {enc : TypeId × Value → H} {P : Program} {T E : TypeId} (bt : BT P T E) (hc : P.cellsOf E = 1) {W : World} {v : Value} {y : DataW H × List MemPlace} {fuel : Nat} {sp : Nat → Bool}
    (hf : DataW.trod enc P W 0 sp true fuel T [v] = some y) (hsp : ∀ n, sp n = true) :
    ∃ a n cap xs, v = .slice a n cap ∧ Rd W a n cap xs ∧ n ≤ Rows.uptoBulk y.1 := by
  rcases open_ints bt.sl bt.el hc hf with ⟨hcs, rfl⟩ | ⟨a, len', cap', zs, hcs, _, hl, hm, hz, rfl, hcell, hwz⟩
  · obtain rfl : v = .slice none 0 0 := by simpa using hcs
    exact ⟨_, _, _, [], rfl, Rd.none W, Nat.zero_le _⟩
  · obtain rfl : v = .slice (some a) len' cap' := by simpa using hcs
    simp only [hsp, if_true] at hz
    refine ⟨_, _, _, (zs.take len').map fun x => UInt8.ofNat x.toNat, rfl, ⟨by simp; omega, hl, by (intro e; cases e), fun hc0 => ?_⟩, ?_⟩
    · have h00 := hcell 0 (by omega)
      have hspot : a.spot = none := by
        cases hs : a.spot with
        | none => rfl
        | some z =>
          have e : a.add 0 = a := rfl
          rw [e] at h00
          unfold World.cell? at h00
          split at h00
          · simp [hs] at h00
          · cases h00
      obtain ⟨b, off, spt⟩ := a
      simp only at hspot
      subst hspot
      refine ⟨b, off, rfl, World.block_lt_of_cell? W _ h00, fun j hj => ?_⟩
      have := hcell j (by omega)
      rw [Addr.add_lit] at this
      rw [this]
      have hjz : j < zs.length := by omega
      have hb := byte_of_wf (hwz zs[j] (List.getElem_mem hjz))
      simp [List.getD, hjz, hj]
      omega
    · have := bulk_len (H := H) (lits .u8 (zs.take len'))
      simp only [Rows.uptoBulk]
      simp [lits] at this ⊢
      omega
theorem rd_of_trod {H : Type} {enc : TypeId × Value → H} {P : Program} {T E : TypeId} (bt : BT P T E) (hc : P.cellsOf E = 1) {W : World} {v : Value} {d : DataW H} {p : List MemPlace} {b0 : Nat} {sp : Nat → Bool}
    (hval : Value.okWide P W .any b0 T v) (h0 : DataW.Trod enc P W 0 sp true T v d p) (hsp : ∀ n, sp n = true) :
    ∃ a n cap xs, v = .slice a n cap ∧ Rd W a n cap xs ∧ n ≤ Rows.uptoBulk d := by
  obtain ⟨a0, len, cap, rfl⟩ := okWide_slice bt.sl hval
  obtain ⟨fuel, hf⟩ := h0
  exact rd_of_cells (y := (d, p)) bt hc hf hsp
theorem int_of_cells {H : Type} {enc : TypeId × Value → H} {P : Program} {t : TypeId} {k : IntKind} (ht : P.underlying t = some (.int k)) {W : World} {v : Value} {y : DataW H × List MemPlace} {fuel : Nat} {sp : Nat → Bool}
    (hf : DataW.trod enc P W 0 sp true fuel t [v] = some y) : ∃ n, v = .int k n ∧ (Lit.int k n).wf = true := by
  cases fuel with
  | zero => simp [DataW.trod] at hf
  | succ fuel =>
    unfold DataW.trod at hf
    rw [ht] at hf
    cases v <;> simp at hf
    obtain ⟨⟨rfl, h⟩, _⟩ := hf
    exact ⟨_, rfl, h⟩
theorem spot_none {W : World} {a : Addr} {v : Value} (h : W.cell? a = some v) : a.spot = none := by
  cases hs : a.spot with
  | none => rfl
  | some z =>
    unfold World.cell? at h
    split at h
    · simp [hs] at h
    · cases h

/-- the slice of structs (of fields of one cell) that came in: every element's every field -/
theorem structs_of_cells {H : Type} {enc : TypeId × Value → H} {P : Program} {T e : TypeId} {fs : Array Field} (ht : P.underlying T = some (.slice e)) (he : P.underlying e = some (.struct fs)) (hone : Deep.oneCellFields P fs = true) (hC : P.cellsOf e = fs.size) (hpos : 0 < fs.size)
    {W : World} {v : Value} {y : DataW H × List MemPlace} {fuel : Nat} {sp : Nat → Bool} (hf : DataW.trod enc P W 0 sp true fuel T [v] = some y) :
    ∃ a n cap, v = .slice a n cap ∧ n ≤ cap ∧ (a = none → cap = 0) ∧ n ≤ Rows.uptoBulk y.1 ∧
      (0 < n → ∃ b off, a = some ⟨b, off, none⟩ ∧ b < W.heap.size ∧ ∀ i, i < n → ∀ (j : Nat) (f : Field), fs[j]? = some f → ∃ (u : Value) (z : DataW H × List MemPlace) (m : Nat), W.cell? ⟨b, off + (i * fs.size + j), none⟩ = some u ∧ DataW.trod enc P W 0 sp true m f.type [u] = some z) := by
  rcases Deep.open_slice ht hf with ⟨hcs, rfl⟩ | ⟨a, len, cap, m, n, D, Pl, hcs, _, hl, _, hmm, rfl, hi⟩
  · obtain rfl : v = .slice none 0 0 := by simpa using hcs
    exact ⟨_, _, _, rfl, Nat.le_refl _, fun _ => rfl, Nat.zero_le _, fun h => by omega⟩
  · obtain rfl : v = .slice (some a) len cap := by simpa using hcs
    have hml : len ≤ m := by rw [hmm]; split <;> omega
    have bulk : len ≤ Rows.uptoBulk (DataW.slice ((List.range len).map D) ((List.range (m - len)).map fun j => D (len + j))) := by
      have := bulk_len ((List.range len).map D)
      simp only [Rows.uptoBulk, List.length_map, List.length_range] at this ⊢
      omega
    refine ⟨_, _, _, rfl, hl, by (intro e; cases e), bulk, fun h0 => ?_⟩
    have cell : ∀ i, i < len → ∃ cs', (∀ j, j < fs.size → W.cell? ((a.add (i * fs.size)).add j) = cs'[j]?) ∧ cs'.length = fs.size ∧ DataW.trod enc P W 0 sp true n e cs' = some (D i, Pl i) := by
      intro i hil
      obtain ⟨cs', hc, ht'⟩ := hi i (by omega)
      rw [hC] at hc
      obtain ⟨_, hcl, hat⟩ := World.cells?_some hc
      exact ⟨cs', hat, hcl, ht'⟩
    obtain ⟨c0, h00, hl0, _⟩ := cell 0 h0
    have hc0 := h00 0 hpos
    rw [Nat.zero_mul, List.getElem?_eq_getElem (by omega)] at hc0
    have hspot := spot_none hc0
    obtain ⟨b, off, spt⟩ := a
    have e0 : ((⟨b, off, spt⟩ : Addr).add 0).add 0 = ⟨b, off, spt⟩ := rfl
    rw [e0] at hspot hc0
    simp only at hspot
    subst hspot
    refine ⟨b, off, rfl, World.block_lt_of_cell? W _ hc0, fun i hil j f hj => ?_⟩
    obtain ⟨cs', hat, hcl, ht'⟩ := cell i hil
    obtain ⟨ys, n', _, _, hlen, hyl, hfl⟩ := DataW.trod_struct he ht'
    obtain ⟨ho, hk⟩ := Deep.hone_of hone j f hj
    have hjl : j < fs.size := (Array.getElem?_eq_some_iff.1 hj).1
    have h1 := hfl j f hj
    rw [ho, hk] at h1
    have hcs : (cs'.drop j).take 1 = [cs'[j]'(by omega)] := by
      rw [List.drop_eq_getElem_cons (by omega)]
      rfl
    rw [hcs, List.getElem?_eq_getElem (show j < ys.length by omega)] at h1
    have hcell := hat j hjl
    rw [List.getElem?_eq_getElem (by omega), Addr.add_lit, Addr.add_lit, Nat.add_assoc] at hcell
    exact ⟨_, _, n', hcell, h1⟩

theorem wf_u64 {n : Int} (h : (Lit.int .u64 n).wf = true) : ∃ m : Nat, n = m ∧ m ≤ 18446744073709551615 := by
  have h1 : IntKind.u64.min = 0 := rfl
  have h2 : IntKind.u64.max = 18446744073709551615 := rfl
  simp only [Lit.wf, Bool.and_eq_true, decide_eq_true_eq] at h
  exact ⟨n.toNat, by omega, by omega⟩
end Go.Proofs.YtfidajbenmgflaaDoor

namespace Go.Proofs.YtfidajbenmgflaaDoor
open Go.ChangeShapes Go.WideShapes Go.ChangeAt Go.RowKit

set_option maxRecDepth 100000
/-- how many elements a slice's datum holds, spare ones too -/
def dlen {H : Type} : DataW H → Nat
  | .slice e s => e.length + s.length
  | _ => 0
theorem rd_of_cells_d {H : Type} {enc : TypeId × Value → H} {P : Program} {T E : TypeId} (bt : BT P T E) (hc : P.cellsOf E = 1) {W : World} {v : Value} {y : DataW H × List MemPlace} {fuel : Nat} {sp : Nat → Bool}
    (hf : DataW.trod enc P W 0 sp true fuel T [v] = some y) (hsp : ∀ n, sp n = true) :
    ∃ a n cap xs, v = .slice a n cap ∧ Rd W a n cap xs ∧ n ≤ dlen y.1 := by
  obtain ⟨a, n, cap, xs, rfl, hr, -⟩ := rd_of_cells bt hc hf hsp
  refine ⟨a, n, cap, xs, rfl, hr, ?_⟩
  rcases open_ints bt.sl bt.el hc hf with ⟨hcs, rfl⟩ | ⟨a', len', cap', zs, hcs, _, hl, hm, hz, rfl, _⟩
  · have : Value.slice a n cap = .slice none 0 0 := by simpa using hcs
    injection this with h1 h2 h3
    omega
  · have : Value.slice a n cap = .slice (some a') len' cap' := by simpa using hcs
    injection this with h1 h2 h3
    simp only [hsp, if_true] at hz
    simp [dlen, lits]
    omega
theorem slice_len_d {H : Type} {enc : TypeId × Value → H} {P : Program} {T e : TypeId} (ht : P.underlying T = some (.slice e)) {W : World} {a : Option Addr} {n cap : Nat} {y : DataW H × List MemPlace} {fuel : Nat} {sp : Nat → Bool}
    (hf : DataW.trod enc P W 0 sp true fuel T [.slice a n cap] = some y) : n ≤ dlen y.1 := by
  rcases Deep.open_slice ht hf with ⟨hcs, rfl⟩ | ⟨a', len, cap', m, n', D, Pl, hcs, _, hl, _, hmm, rfl, hi⟩
  · have : Value.slice a n cap = .slice none 0 0 := by simpa using hcs
    injection this with h1 h2 h3
    omega
  · have : Value.slice a n cap = .slice (some a') len cap' := by simpa using hcs
    injection this with h1 h2 h3
    simp [dlen]
    omega
theorem dlen_reach {H : Type} {P : Program} {ts : List TypeId} {ds : List (DataW H)} (h : (DataW.weightsEach P ts ds).all (· ≤ reachBytes) = true) {j : Nat} {t e : TypeId} {d : DataW H} (ht : ts[j]? = some t) (hd : ds[j]? = some d) (hu : P.underlying t = some (.slice e)) (hb : 1 ≤ P.bytesOf e) : dlen d ≤ reachBytes := by
  cases d with
  | slice elems spare =>
    have := sized_slice h ht hd hu
    exact Nat.le_trans (Nat.le_mul_of_pos_right _ hb) this
  | _ => exact Nat.zero_le _
end Go.Proofs.YtfidajbenmgflaaDoor

namespace Go.Proofs.YtfidajbenmgflaaDoor
open Go.ChangeShapes Go.WideShapes Go.ChangeAt Go.RowKit

set_option maxRecDepth 100000
section
variable {H : Type} {enc : TypeId × Value → H} {W : World}
theorem cellsDg : Tryd.prog.cellsOf 48 = 32 := by kernel_rfl
/-- the cells of a hash that came in -/
theorem dig_cells {cs : List Value} {y : DataW H × List MemPlace} {fuel : Nat} {sp : Nat → Bool} (hf : DataW.trod enc Tryd.prog W 0 sp true fuel 48 cs = some y) : ∃ xs : List UInt8, xs.length = 32 ∧ cs = bvs xs := by
  obtain ⟨ys, m, rfl, hx, hlen, hyl, hel⟩ := DataW.trod_array Tryd.underlying48 hf
  have hc : cs.length = 32 := hlen.trans (by kernel_rfl)
  have cell : ∀ i, i < 32 → ∃ n, cs[i]? = some (.int .u8 n) ∧ (Lit.int .u8 n).wf = true := by
    intro i hi
    have h1 := hel i hi
    rw [cells1, Nat.mul_one, List.getElem?_eq_getElem (by omega)] at h1
    have e : (cs.drop i).take 1 = [cs[i]'(by omega)] := by
      rw [List.drop_eq_getElem_cons (by omega)]
      rfl
    have h2 : DataW.trod enc Tryd.prog W 0 sp true m 5 [cs[i]'(by omega)] = some (ys[i]'(by omega)) := by
      rw [← e]; exact h1
    obtain ⟨n, hn, hw⟩ := int_of_cells Tryd.underlying5 h2
    exact ⟨n, by rw [List.getElem?_eq_getElem (by omega), hn], hw⟩
  refine ⟨cs.map fun v => match v with | .int _ n => UInt8.ofNat n.toNat | _ => 0, by simpa using hc, ?_⟩
  apply List.ext_getElem?
  intro i
  by_cases hi : i < 32
  · obtain ⟨n, h1, h2⟩ := cell i hi
    have hb := byte_of_wf h2
    simp only [bvs, List.map_map, List.getElem?_map, h1, Option.map_some, Function.comp]
    congr 2
    rw [UInt8.toNat_ofNat']
    omega
  · rw [List.getElem?_eq_none (by omega), List.getElem?_eq_none (by simp [bvs]; omega)]
/-- the hash that came in by value -/
theorem dig_of_trod {v : Value} {d : DataW H} {p : List MemPlace} {b0 : Nat} {sp : Nat → Bool} (hval : Value.okWide Tryd.prog W .any b0 48 v) (h0 : DataW.Trod enc Tryd.prog W 0 sp true 48 v d p) :
    ∃ xs : List UInt8, xs.length = 32 ∧ v = .agg (bvs xs).toArray := by
  simp only [Value.okWide, Tryd.underlying48] at hval
  obtain ⟨cs, rfl, hsz, -⟩ := hval
  obtain ⟨fuel, hf⟩ := h0
  obtain ⟨xs, h1, h2⟩ := dig_cells hf
  exact ⟨xs, h1, by congr 1; apply Array.toList_inj.1; exact h2⟩
theorem listOf {α : Type} (P : Nat → α → Prop) : ∀ n, (∀ i, i < n → ∃ x, P i x) → ∃ L : List α, L.length = n ∧ ∀ i (h : i < L.length), P i L[i] := by
  intro n
  induction n with
  | zero => intro _; exact ⟨[], rfl, fun i h => by simp at h⟩
  | succ n ih =>
    intro h
    obtain ⟨L, hl, hL⟩ := ih fun i hi => h i (by omega)
    obtain ⟨x, hx⟩ := h n (by omega)
    refine ⟨L ++ [x], by simp [hl], fun i hi => ?_⟩
    by_cases hlt : i < L.length
    · rw [List.getElem_append_left hlt]; exact hL i hlt
    · have e : i = L.length := by simp at hi; omega
      subst e
      rw [List.getElem_append_right (Nat.le_refl _)]
      simpa [hl] using hx
theorem bulk_mem : ∀ {l : List (DataW H)} {x : DataW H}, x ∈ l → Rows.uptoBulk x ≤ Rows.uptoBulkAll l := by
  intro l
  induction l with
  | nil => intro x h; cases h
  | cons y r ih =>
    intro x h
    simp only [Rows.uptoBulkAll]
    rcases List.mem_cons.1 h with rfl | h
    · omega
    · have := ih h; omega
/-- the slice of hashes that came in -/
theorem rdD_of_trod {v : Value} {d : DataW H} {p : List MemPlace} {b0 : Nat} {sp : Nat → Bool} (hval : Value.okWide Tryd.prog W .any b0 37 v) (h0 : DataW.Trod enc Tryd.prog W 0 sp true 37 v d p) :
    ∃ a n cap L, v = .slice a n cap ∧ RdD W a n cap L ∧ n ≤ Rows.uptoBulk d := by
  obtain ⟨a0, len0, cap0, rfl⟩ := okWide_slice Tryd.underlying37 hval
  obtain ⟨fuel, hf⟩ := h0
  rcases Deep.open_slice Tryd.underlying37 hf with ⟨hcs, he⟩ | ⟨a, len, cap, m, n, D, Pl, hcs, _, hl, _, hmm, he, hi⟩
  · injection hcs with hcs
    rw [hcs]
    exact ⟨_, _, _, [], rfl, ⟨rfl, Nat.le_refl _, fun k hk => by simp at hk, fun _ => rfl, fun h => by omega⟩, Nat.zero_le _⟩
  · injection hcs with hcs
    rw [hcs]
    have hml : len ≤ m := by rw [hmm]; split <;> omega
    have cell : ∀ i, i < len → ∃ xs : List UInt8, xs.length = 32 ∧ ∀ j, j < 32 → W.cell? ((a.add (i * 32)).add j) = (bvs xs)[j]? := by
      intro i hil
      obtain ⟨cs', hc, ht'⟩ := hi i (by omega)
      rw [cellsDg] at hc
      obtain ⟨_, hcl, hat⟩ := World.cells?_some hc
      obtain ⟨xs, h1, rfl⟩ := dig_cells ht'
      exact ⟨xs, h1, hat⟩
    obtain ⟨L, hL, hall⟩ := listOf _ len cell
    have hA32 : All32 L := fun k hk => by
      have := (hall k hk).1
      simpa [List.getD, hk] using this
    refine ⟨_, _, _, L, rfl, ⟨hL, hl, hA32, (by intro e; cases e), fun h0 => ?_⟩, ?_⟩
    · have c0 := (hall 0 (by omega)).2 0 (by omega)
      rw [bvs_get _ _ (by have := (hall 0 (by omega)).1; omega)] at c0
      have hspot := spot_none c0
      obtain ⟨b, off, spt⟩ := a
      have e0 : ((⟨b, off, spt⟩ : Addr).add (0 * 32)).add 0 = ⟨b, off, spt⟩ := rfl
      rw [e0] at hspot c0
      simp only at hspot
      subst hspot
      refine ⟨b, off, rfl, World.block_lt_of_cell? W _ c0, fun k hk j hj => ?_⟩
      have h1 := hall k (by omega)
      have h2 := h1.2 j hj
      rw [bvs_get _ _ (by have := h1.1; omega), Addr.add_lit, Addr.add_lit] at h2
      rw [h2]
      simp [List.getD, show k < L.length by omega]
    · have h1 : d = DataW.slice ((List.range len).map D) ((List.range (m - len)).map fun j => D (len + j)) := by injection he
      rw [h1]
      have := bulk_len ((List.range len).map D)
      simp only [Rows.uptoBulk, List.length_map, List.length_range] at this ⊢
      omega
end
end Go.Proofs.YtfidajbenmgflaaDoor

namespace Go.Proofs.YtfidajbenmgflaaDoor
open Go.ChangeShapes Go.WideShapes Go.ChangeAt Go.RowKit

set_option maxRecDepth 100000
theorem bytesDg : Tryd.prog.bytesOf 48 = 32 := by kernel_rfl
theorem dlen_size {H : Type} {P : Program} {ts : List TypeId} {ds : List (DataW H)} (h : (DataW.weightsEach P ts ds).all (· ≤ reachBytes) = true) {j : Nat} {t e : TypeId} {d : DataW H} (ht : ts[j]? = some t) (hd : ds[j]? = some d) (hu : P.underlying t = some (.slice e)) : dlen d * P.bytesOf e ≤ reachBytes := by
  cases d with
  | slice elems spare => exact sized_slice h ht hd hu
  | _ => simp [dlen]
theorem bytesRw : Tryd.prog.bytesOf 38 = 24 := by kernel_rfl
theorem bytesU8 : Tryd.prog.bytesOf 5 = 1 := by kernel_rfl
theorem weightsAll_mem {H : Type} {P : Program} {e : TypeId} {d : DataW H} : ∀ {l : List (DataW H)}, d ∈ l → ∀ n ∈ d.weights P e, n ∈ DataW.weightsAll P e l
  | [], h, _, _ => by simp at h
  | y :: r, h, n, hn => by
    simp only [DataW.weightsAll, List.mem_append]
    rcases List.mem_cons.1 h with rfl | h
    · exact .inl hn
    · exact .inr (weightsAll_mem h n hn)
theorem dlen_inner {H : Type} {P : Program} {ts : List TypeId} {ds : List (DataW H)} (h : (DataW.weightsEach P ts ds).all (· ≤ reachBytes) = true) {j : Nat} {t e e2 : TypeId} {l r : List (DataW H)} {x : DataW H} (ht : ts[j]? = some t) (hd : ds[j]? = some (.slice l r)) (hu : P.underlying t = some (.slice e))
    (he : P.underlying e = some (.slice e2)) (hx : x ∈ l) : dlen x * P.bytesOf e2 ≤ reachBytes := by
  cases x with
  | slice elems spare =>
    have := List.all_eq_true.1 h _ (DataW.weights_mem_each ht hd ((elems.length + spare.length) * P.bytesOf e2) (by
      simp only [DataW.weights, hu, List.mem_cons, List.mem_append]
      exact .inr (.inl (weightsAll_mem hx _ (by simp [DataW.weights, he])))))
    simpa [dlen] using this
  | _ => simp [dlen]
theorem wf_u8 {n : Int} (h : (Lit.int .u8 n).wf = true) : ∃ m : Nat, n = m ∧ m ≤ 255 := by
  simp [Lit.wf, IntKind.min, IntKind.max, IntKind.signed, IntKind.bits] at h
  exact ⟨n.toNat, by omega, by omega⟩
end Go.Proofs.YtfidajbenmgflaaDoor

namespace Go.Proofs.YtfidajbenmgflaaDoor
open Go.ChangeShapes Go.WideShapes Go.ChangeAt Go.RowKit

set_option maxRecDepth 100000
section
variable {H : Type} {henc : TypeId × Value → H} {W : World} {α : Type} {S : Nat} {enc : α → List Value} {SL T : TypeId}
/-- the slice of elements that came in: each has what the one-element fact says of it and of its datum -/
theorem rdG_of_trod (hu : Tryd.prog.underlying SL = some (.slice T)) (hC : Tryd.prog.cellsOf T = S) (hS : 0 < S) (R : α → DataW H → Prop) {v : Value} {d : DataW H} {p : List MemPlace} {b0 : Nat} {sp : Nat → Bool}
    (elem : ∀ (fuel : Nat) (cs : List Value) (y : DataW H × List MemPlace), cs.length = S → DataW.trod henc Tryd.prog W 0 sp true fuel T cs = some y → ∃ x : α, enc x = cs ∧ R x y.1)
    (hval : Value.okWide Tryd.prog W .any b0 SL v) (h0 : DataW.Trod henc Tryd.prog W 0 sp true SL v d p) :
    ∃ a n cap L, v = .slice a n cap ∧ RdG S enc W a n cap L ∧ n ≤ dlen d ∧ ∀ x ∈ L, ∃ l r e, d = .slice l r ∧ e ∈ l ∧ R x e := by
  obtain ⟨a0, len0, cap0, rfl⟩ := okWide_slice hu hval
  obtain ⟨fuel, hf⟩ := h0
  rcases Deep.open_slice hu hf with ⟨hcs, he⟩ | ⟨a, len, cap, m, n, D, Pl, hcs, _, hl, _, hmm, he, hi⟩
  · injection hcs with hcs
    rw [hcs]
    exact ⟨_, _, _, [], rfl, RdG.void W, Nat.zero_le _, fun x hx => by cases hx⟩
  · injection hcs with hcs
    rw [hcs]
    have hml : len ≤ m := by rw [hmm]; split <;> omega
    have h1 : d = DataW.slice ((List.range len).map D) ((List.range (m - len)).map fun j => D (len + j)) := by injection he
    have cell : ∀ i, i < len → ∃ x : α, (enc x).length = S ∧ R x (D i) ∧ ∀ j, j < S → W.cell? ((a.add (i * S)).add j) = (enc x)[j]? := by
      intro i hil
      obtain ⟨cs', hc, ht'⟩ := hi i (by omega)
      rw [hC] at hc
      obtain ⟨_, hcl, hat⟩ := World.cells?_some hc
      obtain ⟨x, rfl, hR⟩ := elem _ cs' _ hcl ht'
      exact ⟨x, hcl, hR, hat⟩
    obtain ⟨L, hL, hall⟩ := listOf _ len cell
    refine ⟨_, _, _, L, rfl, ⟨hL, hl, fun x hx => ?_, (by intro e; cases e), fun hpos => ?_⟩, ?_, fun x hx => ?_⟩
    · obtain ⟨i, hi', rfl⟩ := List.mem_iff_getElem.1 hx
      exact (hall i hi').1
    · have c0 := (hall 0 (by omega)).2.2 0 hS
      have hlt : 0 < (enc (L[0]'(by omega))).length := by rw [(hall 0 (by omega)).1]; exact hS
      rw [List.getElem?_eq_getElem hlt] at c0
      have hspot := spot_none c0
      obtain ⟨b, off, spt⟩ := a
      have e0 : ((⟨b, off, spt⟩ : Addr).add (0 * S)).add 0 = ⟨b, off, spt⟩ := by simp [Addr.add]
      rw [e0] at hspot c0
      simp only at hspot
      subst hspot
      refine ⟨b, off, rfl, World.block_lt_of_cell? W _ c0, fun k hk j u hu => ?_⟩
      have h2 := hall k hk
      have hj : j < S := by
        have := (List.getElem?_eq_some_iff.1 hu).1
        rw [h2.1] at this
        exact this
      have h3 := h2.2.2 j hj
      rw [Addr.add_lit, Addr.add_lit] at h3
      rw [h3]
      exact hu
    · rw [h1]
      simp only [dlen, List.length_map, List.length_range]
      omega
    · obtain ⟨i, hi', rfl⟩ := List.mem_iff_getElem.1 hx
      exact ⟨_, _, D i, h1, by simp; exact ⟨i, by omega, rfl⟩, (hall i hi').2.1⟩
end
end Go.Proofs.YtfidajbenmgflaaDoor

namespace Go.Proofs.YtfidajbenmgflaaDoor
open Go.ChangeShapes Go.WideShapes Go.ChangeAt Go.RowKit

set_option maxRecDepth 100000
theorem wf_n64 {n : Int} (h : (Lit.int .u64 n).wf = true) : ∃ m : Nat, n = m := by
  simp [Lit.wf, IntKind.min, IntKind.max, IntKind.signed, IntKind.bits] at h
  exact ⟨n.toNat, by omega⟩
end Go.Proofs.YtfidajbenmgflaaDoor
