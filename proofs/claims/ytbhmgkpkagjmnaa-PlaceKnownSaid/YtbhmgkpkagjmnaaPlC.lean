/-
  Layer 7: what is said of nodes, plainly; the program's Leaves, Parent, Sibling, Children, Beneath. Conditions: those in each statement.
-/
import Derived.Test.YtbhmgkpkagjmnaaPlB
namespace Go.Proofs.Ytbhmgkpkagjmnaa
open Go.RowKit

/-- its leaves: the first, the one behind the last; the error -/
def lfF (l i : Int) : Int := if mayB l i then i * 2 ^ l.toNat else 0
def lbF (l i : Int) : Int := if mayB l i then (i + 1) * 2 ^ l.toNat else 0
def leF (l i : Int) : Int := if mayB l i then 0 else 1
/-- whether it has a parent, and so on -/
def pB (l i : Int) : Bool := mayB l i && decide (l ≠ 20)
def plF (l i : Int) : Int := if pB l i then l + 1 else 0
def piF (l i : Int) : Int := if pB l i then i / 2 else 0
def peF (l i : Int) : Int := if pB l i then 0 else 1
def slF (l i : Int) : Int := if pB l i then l else 0
def siF (l i : Int) : Int := if pB l i then (if i % 2 = 0 then i + 1 else i - 1) else 0
def cB (l i : Int) : Bool := mayB l i && decide (l ≠ 0)
def clF (l i : Int) : Int := if cB l i then l - 1 else 0
def caF (l i : Int) : Int := if cB l i then 2 * i else 0
def cbF (l i : Int) : Int := if cB l i then 2 * i + 1 else 0
def ceF (l i : Int) : Int := if cB l i then 0 else 1
def benB (l i m j : Int) : Bool := mayB l i && mayB m j && decide (l < m) && decide (i / 2 ^ (m - l).toNat = j)

/-- a struct of two that was boxed, behind a call -/
theorem box2 {w w1 : World} {a b : Value} {T : TypeId} (h : Below (w.alloc (.cells #[a, b] T)).heap.size (w.alloc (.cells #[a, b] T)) w1) :
    w1.cell? ⟨w.heap.size, 0, none⟩ = some a ∧ w1.cell? ⟨w.heap.size, 1, none⟩ = some b ∧ Below w.heap.size w w1 := by
  have hA : Arr w1 w.heap.size T [a, b] := (Arr.new w T [a, b]).kept h
  refine ⟨hA.cell 0, hA.cell 1, ?_⟩
  exact ((Below.refl _ _).alloc (Nat.le_refl _) _).trans (h.mono (by simp))

set_option maxHeartbeats 1600000 in
theorem Leaves_any (l i : Int) (w : World) (hi : 0 ≤ i) :
    Calls Try.prog 10 #[.agg #[.int .i64 l, .int .u64 i]] w fun e w' => e = .returned (.tuple #[.int .u64 (lfF l i), .int .u64 (lbF l i), .int .i64 (leF l i)]) ∧ Below w.heap.size w w' := by
  cases hm : mayB l i with
  | false =>
    have e1 : lfF l i = 0 := by simp [lfF, hm]
    have e2 : lbF l i = 0 := by simp [lbF, hm]
    have e3 : leF l i = 1 := by simp [leF, hm]
    rw [e1, e2, e3]
    clear e1 e2 e3
    go_enter Try.func10, Try.ntmps10
    go_wp2_with (refine (May_any l i _).mono ?_; rintro _ w1 ⟨rfl, h1⟩; obtain ⟨c0, c1, h1⟩ := box2 h1)
    exact bodyPost_ret (results_tmp3 rfl _ _ _) rfl ⟨rfl, h1⟩
  | true =>
    obtain ⟨L, I, rfl, rfl, hL, hI, hb, hI2⟩ := mayB_cases l i hi hm
    have e1 : lfF L I = ((I * 2 ^ L : Nat) : Int) := by simp [lfF, hm]
    have e2 : lbF L I = (((I + 1) * 2 ^ L : Nat) : Int) := by simp [lbF, hm]
    have e3 : leF L I = 0 := by simp [leF, hm]
    rw [e1, e2, e3]
    clear e1 e2 e3
    have HB := Lib.hid hb
    clear hb
    go_enter Try.func10, Try.ntmps10
    go_wp2_with (first
      | (refine (May_any _ _ _).mono ?_; rintro _ w1 ⟨rfl, h1⟩; obtain ⟨c0, c1, h1⟩ := box2 h1)
      | (refine (spotOf_any L I _ (by omega) (by omega)).mono ?_; rintro _ w2 ⟨rfl, h2⟩)
      | (refine (leaves_any L I _ (by omega) (by omega) (by have := HB.out; omega)).mono ?_; rintro _ w3 ⟨rfl, h3⟩))
    exact bodyPost_ret (results_tmp3 rfl _ _ _) rfl ⟨rfl, h1.trans ((h2.mono h1.size).trans (h3.mono (by have := h2.size; have := h1.size; omega)))⟩

/-- .. and a new one of two beside it -/
theorem box3 {w w1 : World} {a b c d : Value} {T : TypeId} (h : Below ((w.alloc (.cells #[a, b] T)).alloc (.cells #[c, d] T)).heap.size ((w.alloc (.cells #[a, b] T)).alloc (.cells #[c, d] T)) w1) :
    w1.cell? ⟨w.heap.size, 0, none⟩ = some a ∧ w1.cell? ⟨w.heap.size, 1, none⟩ = some b ∧ Arr w1 (w.heap.size + 1) T [c, d] ∧ Below w.heap.size w w1 := by
  have hz : (w.alloc (.cells #[a, b] T)).heap.size = w.heap.size + 1 := by simp
  have hA0 : Arr (w.alloc (.cells #[a, b] T)) w.heap.size T [a, b] := Arr.new w T [a, b]
  have hb0 : Below (w.alloc (.cells #[a, b] T)).heap.size (w.alloc (.cells #[a, b] T)) ((w.alloc (.cells #[a, b] T)).alloc (.cells #[c, d] T)) := (Below.refl _ _).alloc (Nat.le_refl _) _
  have hA1 : Arr ((w.alloc (.cells #[a, b] T)).alloc (.cells #[c, d] T)) (w.heap.size + 1) T [c, d] := hz ▸ Arr.new (w.alloc (.cells #[a, b] T)) T [c, d]
  have hA : Arr w1 w.heap.size T [a, b] := (hA0.kept hb0).kept h
  refine ⟨hA.cell 0, hA.cell 1, hA1.kept h, ?_⟩
  exact ((Below.refl _ _).alloc (Nat.le_refl _) _).trans ((hb0.mono (by simp)).trans (h.mono (by simp; omega)))
theorem box4 {w w1 : World} {a b c d e f : Value} {T : TypeId} (h : Below (((w.alloc (.cells #[a, b] T)).alloc (.cells #[c, d] T)).alloc (.cells #[e, f] T)).heap.size (((w.alloc (.cells #[a, b] T)).alloc (.cells #[c, d] T)).alloc (.cells #[e, f] T)) w1) :
    w1.cell? ⟨w.heap.size, 0, none⟩ = some a ∧ w1.cell? ⟨w.heap.size, 1, none⟩ = some b ∧ Arr w1 (w.heap.size + 1) T [c, d] ∧ Arr w1 (w.heap.size + 1 + 1) T [e, f] ∧ Below w.heap.size w w1 := by
  have hz : ((w.alloc (.cells #[a, b] T)).alloc (.cells #[c, d] T)).heap.size = w.heap.size + 1 + 1 := by simp
  have hb0 : Below ((w.alloc (.cells #[a, b] T)).alloc (.cells #[c, d] T)).heap.size ((w.alloc (.cells #[a, b] T)).alloc (.cells #[c, d] T)) (((w.alloc (.cells #[a, b] T)).alloc (.cells #[c, d] T)).alloc (.cells #[e, f] T)) := (Below.refl _ _).alloc (Nat.le_refl _) _
  have hA2 : Arr (((w.alloc (.cells #[a, b] T)).alloc (.cells #[c, d] T)).alloc (.cells #[e, f] T)) (w.heap.size + 1 + 1) T [e, f] := hz ▸ Arr.new ((w.alloc (.cells #[a, b] T)).alloc (.cells #[c, d] T)) T [e, f]
  obtain ⟨c0, c1, hR, hB⟩ := box3 (hb0.trans (h.mono (by simp)))
  exact ⟨c0, c1, hR, hA2.kept h, hB⟩

theorem down'_any (l i : Nat) (w : World) (hl : l < 2 ^ 30) (hi : i < 2 ^ 40) :
    Calls Try.prog 34 #[sp (l + 1) i] w fun e w' => e = .returned (sp l (2 * i)) ∧ w' = w := down_any (l + 1) i w (by omega) hi (by omega)
theorem up_even (l k : Nat) (w : World) (hl : l < 2 ^ 30) (hi : 2 * k < 2 ^ 40) :
    Calls Try.prog 32 #[sp l (2 * k)] w fun e w' => e = .returned (sp (l + 1) k) ∧ w' = w := by
  have := up_any l (2 * k) w (by omega) hi
  rwa [show 2 * k / 2 = k by omega] at this
theorem up_odd (l k : Nat) (w : World) (hl : l < 2 ^ 30) (hi : 2 * k + 1 < 2 ^ 40) :
    Calls Try.prog 32 #[sp l (2 * k + 1)] w fun e w' => e = .returned (sp (l + 1) k) ∧ w' = w := by
  have := up_any l (2 * k + 1) w (by omega) hi
  rwa [show (2 * k + 1) / 2 = k by omega] at this

theorem infoNode : (Try.prog.info? 25).map (·.size) = some 2 := by kernel_rfl
/-- the end: a result that lies in a block, another value -/
theorem end_cell2 {P : Program} {fn : Func} {R : Ending → World → Prop} {a : Act} {w : World} {p qq : Tmp} {ty : TypeId} (h : fn.results = #[.cell p ty, .tmp qq]) (g : Nat) (T : TypeId) (xs : List Value) (d : TypeDesc) (v : Value)
    (hp : a.tmps.getD p undef = .pointer (some ⟨g, 0, none⟩)) (hA : Arr w g T xs) (hu : P.underlying ty = some d) (hd : (match d with | .struct _ | .array _ _ => true | _ => false) = true) (hi : (P.info? ty).map (·.size) = some xs.length)
    (hq : a.tmps.getD qq undef = v) (hdf : a.defers = []) (hR : R (.returned (.tuple #[.agg xs.toArray, v])) w) : bodyPost P fn R .ret a w := by
  have hr : (results fn a.tmps).run P w = .ok (.tuple #[.agg xs.toArray, v]) w := by
    have hp' : a.tmps[p]?.getD undef = .pointer (some ⟨g, 0, none⟩) := by simpa using hp
    have hq' : a.tmps[qq]?.getD undef = v := by simpa using hq
    have hl := run_loadVar_row (P := P) w g T ty xs.toArray (0, 0) d hA hu hd (by simpa using hi)
    simp [results, h, hp', hq', asAddr, hl]
  exact bodyPost_ret hr hdf hR
/-- the end: two results that lie in blocks, another value -/
theorem end_cell3 {P : Program} {fn : Func} {R : Ending → World → Prop} {a : Act} {w : World} {p p2 qq : Tmp} {ty : TypeId} (h : fn.results = #[.cell p ty, .cell p2 ty, .tmp qq]) (g g2 : Nat) (T : TypeId) (xs ys : List Value) (d : TypeDesc) (v : Value)
    (hp : a.tmps.getD p undef = .pointer (some ⟨g, 0, none⟩)) (hA : Arr w g T xs) (hp2 : a.tmps.getD p2 undef = .pointer (some ⟨g2, 0, none⟩)) (hA2 : Arr w g2 T ys) (hu : P.underlying ty = some d) (hd : (match d with | .struct _ | .array _ _ => true | _ => false) = true) (hi : (P.info? ty).map (·.size) = some xs.length) (hi2 : (P.info? ty).map (·.size) = some ys.length)
    (hq : a.tmps.getD qq undef = v) (hdf : a.defers = []) (hR : R (.returned (.tuple #[.agg xs.toArray, .agg ys.toArray, v])) w) : bodyPost P fn R .ret a w := by
  have hr : (results fn a.tmps).run P w = .ok (.tuple #[.agg xs.toArray, .agg ys.toArray, v]) w := by
    have hp' : a.tmps[p]?.getD undef = .pointer (some ⟨g, 0, none⟩) := by simpa using hp
    have hp2' : a.tmps[p2]?.getD undef = .pointer (some ⟨g2, 0, none⟩) := by simpa using hp2
    have hq' : a.tmps[qq]?.getD undef = v := by simpa using hq
    have hl := run_loadVar_row (P := P) w g T ty xs.toArray (0, 0) d hA hu hd (by simpa using hi)
    have hl2 := run_loadVar_row (P := P) w g2 T ty ys.toArray (0, 0) d hA2 hu hd (by simpa using hi2)
    simp [results, h, hp', hp2', hq', asAddr, hl, hl2]
  exact bodyPost_ret hr hdf hR
theorem two_store (a b c d : Value) : List.take 0 [a, b] ++ [c, d] ++ List.drop (0 + [c, d].length) [a, b] = [c, d] := rfl
theorem two_one {a b : Value} (h1 : a.oneCell' = true) (h2 : b.oneCell' = true) : ∀ v ∈ [a, b], v.oneCell' = true := by
  intro v hv
  simp only [List.mem_cons, List.not_mem_nil, or_false] at hv
  rcases hv with rfl | rfl <;> assumption

set_option maxHeartbeats 1600000 in
theorem Parent_any (l i : Int) (w : World) (hi : 0 ≤ i) :
    Calls Try.prog 12 #[.agg #[.int .i64 l, .int .u64 i]] w fun e w' => e = .returned (.tuple #[.agg #[.int .i64 (plF l i), .int .u64 (piF l i)], .int .i64 (peF l i)]) ∧ Below w.heap.size w w' := by
  cases hm : pB l i with
  | false =>
    have e1 : plF l i = 0 := by simp [plF, hm]
    have e2 : piF l i = 0 := by simp [piF, hm]
    have e3 : peF l i = 1 := by simp [peF, hm]
    rw [e1, e2, e3]
    clear e1 e2 e3
    cases hm2 : mayB l i with
    | false =>
      clear hm
      go_enter Try.func12, Try.ntmps12
      go_wp2_with (first
        | (refine (May_any _ _ _).mono ?_; rintro _ w1 ⟨rfl, h1⟩; obtain ⟨c0, c1, hR, hB⟩ := box3 h1)
        | ((with_reducible show wpList _ _ _ (⟨none, .store _ _ _, _, _, _, _⟩ :: _) _ _); refine wl_store rfl 25 _ _ rfl (w.heap.size + 1) 0 rfl [.int .i64 0, .int .u64 0] rfl 25 _ hR infoNode (Nat.le_refl _) (two_one rfl rfl) ?_; intro w2 hR2 hg2 hs2; rw [two_store] at hR2))
      refine end_cell2 rfl (w.heap.size + 1) 25 [.int .i64 0, .int .u64 0] _ (.int .i64 1) rfl hR2 Try.underlying25 rfl infoNode rfl rfl ⟨rfl, ?_⟩
      exact (hB).grown hg2 hB.size (by intro k e; injection e with e; omega)

    | true =>
      obtain rfl : l = 20 := by
        simp [pB, hm2] at hm
        exact hm
      clear hm
      go_enter Try.func12, Try.ntmps12
      go_wp2_with (first
        | (refine (May_any _ _ _).mono ?_; rintro _ w1 ⟨rfl, h1⟩; obtain ⟨c0, c1, hR, hB⟩ := box3 h1)
        | ((with_reducible show wpList _ _ _ (⟨none, .store _ _ _, _, _, _, _⟩ :: _) _ _); refine wl_store rfl 25 _ _ rfl (w.heap.size + 1) 0 rfl [.int .i64 0, .int .u64 0] rfl 25 _ hR infoNode (Nat.le_refl _) (two_one rfl rfl) ?_; intro w2 hR2 hg2 hs2; rw [two_store] at hR2))
      refine end_cell2 rfl (w.heap.size + 1) 25 [.int .i64 0, .int .u64 0] _ (.int .i64 1) rfl hR2 Try.underlying25 rfl infoNode rfl rfl ⟨rfl, ?_⟩
      exact (hB).grown hg2 hB.size (by intro k e; injection e with e; omega)

  | true =>
    have hm2 : mayB l i = true := by
      simp [pB] at hm
      exact hm.1
    have hne : l ≠ 20 := by
      simp [pB] at hm
      exact hm.2
    obtain ⟨L, I, rfl, rfl, hL, hI, hb, hI2⟩ := mayB_cases l i hi hm2
    have e1 : plF L I = ((L : Int) + 1) := by simp [plF, hm]
    have e2 : piF L I = ((I : Int) / 2) := by simp [piF, hm]
    have e3 : peF L I = 0 := by simp [peF, hm]
    rw [e1, e2, e3]
    clear e1 e2 e3 hm
    have hne' : ¬ ((L : Int) = 20) := hne
    clear hb hne
    go_enter Try.func12, Try.ntmps12
    go_wp2_with (first
      | (refine (May_any _ _ _).mono ?_; rintro _ w1 ⟨rfl, h1⟩; obtain ⟨c0, c1, hR, hB⟩ := box3 h1)
      | (refine (spotOf_any L I _ (by omega) (by omega)).mono ?_; rintro _ w2 ⟨rfl, h2⟩)
      | (refine (up_any L I _ (by omega) (by omega)).mono ?_; rintro _ _ ⟨rfl, rfl⟩)
      | (refine (node_any (L + 1) (I / 2) _ (by omega) (by omega)).mono ?_; rintro _ w3 ⟨rfl, h3⟩; have hR3 := (hR.kept h2).kept h3)
      | ((with_reducible show wpList _ _ _ (⟨none, .store _ _ _, _, _, _, _⟩ :: _) _ _); refine wl_store rfl 25 _ _ rfl (w.heap.size + 1) 0 rfl [.int .i64 ((L : Int) + 1), .int .u64 ((I : Int) / 2)] rfl 25 _ hR3 infoNode (Nat.le_refl _) (two_one rfl rfl) ?_; intro w4 hR4 hg4 hs4; rw [two_store] at hR4))
    have z1 := h2.size
    have z2 := hB.size
    have z3 := h3.size
    have z4 := hR3.lt
    refine end_cell2 rfl (w.heap.size + 1) 25 [.int .i64 ((L : Int) + 1), .int .u64 ((I : Int) / 2)] _ (.int .i64 0) rfl hR4 Try.underlying25 rfl infoNode rfl rfl ⟨rfl, ?_⟩
    exact (hB.trans ((h2.mono z2).trans (h3.mono (by omega)))).grown hg4 (by omega) (by intro k e; injection e with e; omega)

end Go.Proofs.Ytbhmgkpkagjmnaa
