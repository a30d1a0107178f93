/-
  Frames of several rows; the program's steps that keep the first error, over readers: a contract for each. Conditions: those in each statement.
-/
import Derived.Test.YtcohcjhbkiangaaEnP
import Derived.Test.YtcohcjhbkiangaaEnI
namespace Go.Proofs.Ytcohcjhbkiangaa
open Go.RowKit

/-- w' is w, but for the blocks rs and what is new -/
structure Fr (rs : List Nat) (w w' : World) : Prop where
  os : w'.os = w.os
  tape : w'.tape = w.tape
  output : w'.output = w.output
  size : w.heap.size ≤ w'.heap.size
  block : ∀ k, k < w.heap.size → k ∉ rs → w'.heap[k]? = w.heap[k]?

theorem Fr.refl (rs : List Nat) (w : World) : Fr rs w w := ⟨rfl, rfl, rfl, Nat.le_refl _, fun _ _ _ => rfl⟩
theorem Fr.trans {rs : List Nat} {a b c : World} (h : Fr rs a b) (k : Fr rs b c) : Fr rs a c :=
  ⟨k.os.trans h.os, k.tape.trans h.tape, k.output.trans h.output, Nat.le_trans h.size k.size, fun i hi hn => (k.block i (Nat.lt_of_lt_of_le hi h.size) hn).trans (h.block i hi hn)⟩
theorem Fr.of_below {rs : List Nat} {w w' : World} (h : Below w.heap.size w w') : Fr rs w w' := ⟨h.os, h.tape, h.output, h.size, fun k hk _ => h.block k hk⟩
theorem Fr.of_grown {rs : List Nat} {w w' : World} {r : Nat} (h : w.grownBy w' (some r)) (hr : r ∈ rs) : Fr rs w w' := ⟨h.os, h.tape, h.output, h.size, fun k hk hn => h.block k hk (by intro e; injection e with e; exact hn (e ▸ hr))⟩
theorem Fr.drew {rs : List Nat} {w w' : World} (h : Fr rs w w') : Fr rs w w'.drew := ⟨h.os, h.tape, h.output, h.size, h.block⟩
theorem Fr.undrew {rs : List Nat} {w w' : World} (h : Fr rs w.drew w') : Fr rs w w' := ⟨h.os, h.tape, h.output, h.size, h.block⟩
theorem Fr.set {rs : List Nat} {w w' : World} (h : Fr rs w w') {a : Addr} (ha : a.block ∈ rs) (v : Value) : Fr rs w (w'.setCell a v) :=
  ⟨h.os, h.tape, h.output, by simpa using h.size, fun k hk hn => (heap_setCell_other w' a k v (by intro e; exact hn (e ▸ ha))).trans (h.block k hk hn)⟩
theorem Fr.more {rs qs : List Nat} {w w' : World} (h : Fr rs w w') (hs : ∀ r ∈ rs, r ∈ qs) : Fr qs w w' := ⟨h.os, h.tape, h.output, h.size, fun k hk hn => h.block k hk (fun hr => hn (hs k hr))⟩
theorem Fr.below {rs : List Nat} {w w' : World} {B : Nat} (h : Fr rs w w') (hB : B ≤ w.heap.size) (hr : ∀ r ∈ rs, B ≤ r) : Below B w w' :=
  ⟨h.os, h.tape, h.output, h.size, fun k hk => h.block k (Nat.lt_of_lt_of_le hk hB) (fun hm => by have := hr k hm; omega)⟩
theorem Fr.cell {rs : List Nat} {w w' : World} (h : Fr rs w w') {a : Addr} {v : Value} (hc : w.cell? a = some v) (hl : a.block < w.heap.size) (hn : a.block ∉ rs) : w'.cell? a = some v :=
  (World.cell?_of_block (h.block a.block hl hn)).trans hc
theorem Fr.boxed {rs : List Nat} {w w' : World} (h : Fr rs w w') {b : Nat} {T : TypeId} {v : Value} (hb : Boxed w b T v) (hn : b ∉ rs) : Boxed w' b T v := (h.block b hb.lt hn).trans hb
theorem Fr.arr {rs : List Nat} {w w' : World} (h : Fr rs w w') {g : Nat} {T : TypeId} {xs : List Value} (ha : Arr w g T xs) (hn : g ∉ rs) : Arr w' g T xs := (h.block g ha.lt hn).trans ha
theorem Fr.rdr {rs : List Nat} {w w' : World} (h : Fr rs w w') {T : TypeId} {hd : List Value} {q : Option Nat} {r : Nat} {xs : List UInt8} (hr : Rdr w T hd q r xs) (hn : r ∉ rs) (hq : ∀ k, q = some k → k < w.heap.size ∧ k ∉ rs) : Rdr w' T hd q r xs :=
  hr.kept h.size (fun k e => h.block k (hq k e).1 (hq k e).2) (h.block r hr.lt hn)
theorem Fr.own {rs : List Nat} {w w' : World} (h : Fr rs w w') {B : Nat} {E : TypeId} {v : Value} {xs : List UInt8} (ho : Own w B E v xs) (hn : ∀ r ∈ rs, r < B) : Own w' B E v xs := by
  obtain ⟨h1, h2 | ⟨g, cap, cur, rfl, hbb, hg, r2⟩⟩ := ho
  · exact ⟨h1, .inl h2⟩
  · exact ⟨h1, .inr ⟨g, cap, cur, rfl, hbb, by rw [h.block g (Array.getElem?_eq_some_iff.1 hg).1 (fun hm => by have := hn g hm; omega)]; exact hg, r2⟩⟩

theorem Rdr.c0 {w : World} {q : Option Nat} {r : Nat} {xs : List UInt8} (h : Rdr w 102 [.bool true] q r xs) : w.cell? ⟨r, 0, none⟩ = some (.bool true) := by
  obtain ⟨_, _, a, n, cap, hg, _⟩ := h
  rw [cell_of_row w r _ _ 102 (0, 0) hg]; simp

theorem Rdr.drew {w : World} {T : TypeId} {hd : List Value} {q : Option Nat} {r : Nat} {xs : List UInt8} (h : Rdr w T hd q r xs) : Rdr w.drew T hd q r xs := h.kept (Nat.le_refl _) (fun _ _ => rfl) rfl
theorem undrewG {w w' : World} {r : Option Nat} (h : w.drew.grownBy w' r) : w.grownBy w' r := ⟨h.os, h.tape, h.output, h.size, h.block⟩

/-- what a kept step tells, by the error that there was -/
def keptT {α : Type} (e0 : Int) (z : α) (xs : List UInt8) (f : α × Int × List UInt8) : α × Int × List UInt8 := if e0 = 0 then f else (z, e0, xs)

theorem kept_iu (fn : Fn) (bs caps : Array Value) (g : Option Addr) (w : World) : Calls Try.prog 43 #[.func fn bs caps, .pointer g] w (Made2 w 62 (.pointer g) (.func fn bs caps)) := by
  have hb := (hal w (.cells #[.func fn bs caps] 79)).alloc (by simp) (.cells #[.pointer g] 73)
  go_enter Try.func43, Try.ntmps43
  go_wp2
  go_ret
  exact ⟨_, _, rfl, by simp, by simp, by (simp; try omega), by (simp; try omega), hb⟩
theorem kept_ib (fn : Fn) (bs caps : Array Value) (g : Option Addr) (w : World) : Calls Try.prog 50 #[.func fn bs caps, .pointer g] w (Made2 w 71 (.pointer g) (.func fn bs caps)) := by
  have hb := (hal w (.cells #[.func fn bs caps] 91)).alloc (by simp) (.cells #[.pointer g] 73)
  go_enter Try.func50, Try.ntmps50
  go_wp2
  go_ret
  exact ⟨_, _, rfl, by simp, by simp, by (simp; try omega), by (simp; try omega), hb⟩
theorem kept_rl (fn : Fn) (bs caps : Array Value) (g : Option Addr) (w : World) : Calls Try.prog 45 #[.func fn bs caps, .pointer g] w (Made2 w 66 (.pointer g) (.func fn bs caps)) := by
  have hb := (hal w (.cells #[.func fn bs caps] 82)).alloc (by simp) (.cells #[.pointer g] 73)
  go_enter Try.func45, Try.ntmps45
  go_wp2
  go_ret
  exact ⟨_, _, rfl, by simp, by simp, by (simp; try omega), by (simp; try omega), hb⟩

def KNum (w : World) (q : Option Nat) (r fb : Nat) (f : Nat × Int × List UInt8) (e : Ending) (w' : World) : Prop :=
  e = .returned (.int .u64 (f.1 : Int)) ∧ Boxed w' fb 28 (.int .i64 f.2.1) ∧ Rdr w' 102 [.bool true] q r f.2.2 ∧ Fr [r, fb] w w'

theorem keptNum_any (e0 size : Int) (q : Option Nat) (r : Nat) (xs : List UInt8) (p pq fb : Nat) (w : World) (hm : xs.length ≤ 140737488355328)
    (c1 : w.cell? ⟨p, 0, none⟩ = some (.pointer (some ⟨fb, 0, none⟩))) (c2 : w.cell? ⟨pq, 0, none⟩ = some (.func (.func 44) #[.pointer (some ⟨r, 0, none⟩)] #[]))
    (hbx : Boxed w fb 28 (.int .i64 e0)) (hr : Rdr w 102 [.bool true] q r xs) (hqf : q ≠ some fb) :
    Calls Try.prog 62 #[.int .i64 size, .pointer (some ⟨p, 0, none⟩), .pointer (some ⟨pq, 0, none⟩)] w (KNum w q r fb (keptT e0 0 xs (rnumF xs size))) := by
  have hc := hbx.cell
  have hfz := hbx.frozen
  have r0 := hr.c0
  have np : p ≠ r := by rintro rfl; rw [r0] at c1; cases c1
  have nq : pq ≠ r := by rintro rfl; rw [r0] at c2; cases c2
  have nf : fb ≠ r := by rintro rfl; rw [r0] at hc; cases hc
  have np2 : p ≠ fb := by rintro rfl; rw [hc] at c1; cases c1
  have nq2 : pq ≠ fb := by rintro rfl; rw [hc] at c2; cases c2
  by_cases h0 : e0 = 0
  · subst h0
    have e1 : keptT 0 0 xs (rnumF xs size) = rnumF xs size := rfl
    rw [e1]
    have H := fun W (hW : Rdr W 102 [.bool true] q r xs) => RNum_any q r xs size W hm hW
    go_enter Try.func62, Try.ntmps62
    go_wp2_with fail
    go_region_held3 (fun w' => w'.cell? ⟨p, 0, none⟩ = some (.pointer (some ⟨fb, 0, none⟩)) ∧ w'.cell? ⟨pq, 0, none⟩ = some (.func (.func 44) #[.pointer (some ⟨r, 0, none⟩)] #[]))
      (first
        | exact ⟨c1, c2⟩
        | exact ⟨hg1.cell c1 (by simpa using np), hg1.cell c2 (by simpa using nq)⟩
        | exact ⟨cell_setOther np2 (hg1.cell c1 (by simpa using np)), cell_setOther nq2 (hg1.cell c2 (by simpa using nq))⟩
        | go_keep)
      (first
        | (go_at_call 44; refine (H _ hr.drew).mono ?_; rintro e w1 ⟨rfl, hr1, hg0⟩; have hg1 := undrewG hg0; clear hg0; have hx1 : Boxed w1 fb 28 (.int .i64 0) := Boxed.kept hbx hg1 (by simpa using nf); have hc1 := hx1.cell; have hfz1 := hx1.frozen))
    go_wp2
    go_ret
    refine ⟨rfl, hx1.set _, ?_, ?_⟩
    · exact hr1.kept (by simp) (fun k hk => heap_setCell_other w1 ⟨fb, 0, none⟩ k _ (by rintro rfl; exact hqf hk)) (heap_setCell_other w1 ⟨fb, 0, none⟩ r _ (by simpa using Ne.symm nf))
    · exact (Fr.of_grown hg1 (by simp)).set (by simp) _
  · have e1 : keptT e0 0 xs (rnumF xs size) = (0, e0, xs) := by simp [keptT, h0]
    rw [e1]
    have hq : (e0 == 0) = false := by simpa using h0
    go_enter Try.func62, Try.ntmps62
    go_wp2
    go_ret
    exact ⟨rfl, hbx, hr, Fr.refl _ _⟩
def KVec (w : World) (q : Option Nat) (r fb : Nat) (f : List UInt8 × Int × List UInt8) (e : Ending) (w' : World) : Prop :=
  ∃ v, e = .returned v ∧ Own w' w.heap.size 5 v f.1 ∧ Boxed w' fb 28 (.int .i64 f.2.1) ∧ Rdr w' 102 [.bool true] q r f.2.2 ∧ Fr [r, fb] w w'

theorem keptVec_any (e0 size : Int) (q : Option Nat) (r : Nat) (xs : List UInt8) (p pq fb : Nat) (w : World) (hm : xs.length ≤ 140737488355328)
    (c1 : w.cell? ⟨p, 0, none⟩ = some (.pointer (some ⟨fb, 0, none⟩))) (c2 : w.cell? ⟨pq, 0, none⟩ = some (.func (.func 51) #[.pointer (some ⟨r, 0, none⟩)] #[]))
    (hbx : Boxed w fb 28 (.int .i64 e0)) (hr : Rdr w 102 [.bool true] q r xs) (hqf : q ≠ some fb) :
    Calls Try.prog 71 #[.int .i64 size, .pointer (some ⟨p, 0, none⟩), .pointer (some ⟨pq, 0, none⟩)] w (KVec w q r fb (keptT e0 [] xs (rvecF xs size))) := by
  have hc := hbx.cell
  have hfz := hbx.frozen
  have lf := hbx.lt
  have r0 := hr.c0
  have np : p ≠ r := by rintro rfl; rw [r0] at c1; cases c1
  have nq : pq ≠ r := by rintro rfl; rw [r0] at c2; cases c2
  have nf : fb ≠ r := by rintro rfl; rw [r0] at hc; cases hc
  have np2 : p ≠ fb := by rintro rfl; rw [hc] at c1; cases c1
  have nq2 : pq ≠ fb := by rintro rfl; rw [hc] at c2; cases c2
  by_cases h0 : e0 = 0
  · subst h0
    have e1 : keptT 0 [] xs (rvecF xs size) = rvecF xs size := rfl
    rw [e1]
    have H := fun W (hW : Rdr W 102 [.bool true] q r xs) => RVec_any q r xs size W hm hW
    go_enter Try.func71, Try.ntmps71
    go_wp2_with fail
    go_region_held3 (fun w' => w'.cell? ⟨p, 0, none⟩ = some (.pointer (some ⟨fb, 0, none⟩)) ∧ w'.cell? ⟨pq, 0, none⟩ = some (.func (.func 51) #[.pointer (some ⟨r, 0, none⟩)] #[]))
      (first
        | exact ⟨c1, c2⟩
        | exact ⟨hg1.cell c1 (by simpa using np), hg1.cell c2 (by simpa using nq)⟩
        | exact ⟨cell_setOther np2 (hg1.cell c1 (by simpa using np)), cell_setOther nq2 (hg1.cell c2 (by simpa using nq))⟩
        | go_keep)
      (first
        | (go_at_call 51; refine (H _ hr.drew).mono ?_; rintro e w1 ⟨v, rfl, ho, hr1, hg0⟩; have hg1 := undrewG hg0; clear hg0; have hx1 : Boxed w1 fb 28 (.int .i64 0) := Boxed.kept hbx hg1 (by simpa using nf); have hc1 := hx1.cell; have hfz1 := hx1.frozen))
    go_wp2
    go_ret
    refine ⟨_, rfl, ho.store_old lf, hx1.set _, ?_, ?_⟩
    · exact hr1.kept (by simp) (fun k hk => heap_setCell_other w1 ⟨fb, 0, none⟩ k _ (by rintro rfl; exact hqf hk)) (heap_setCell_other w1 ⟨fb, 0, none⟩ r _ (by simpa using Ne.symm nf))
    · exact (Fr.of_grown hg1 (by simp)).set (by simp) _
  · have e1 : keptT e0 [] xs (rvecF xs size) = ([], e0, xs) := by simp [keptT, h0]
    rw [e1]
    have hq : (e0 == 0) = false := by simpa using h0
    go_enter Try.func71, Try.ntmps71
    go_wp2
    go_ret
    exact ⟨_, rfl, Own.nil _ _ _, hbx, hr, Fr.refl _ _⟩

/-- the row of a block of another type is none of a chain's -/
def Apart (w : World) (B : Nat) (r : Nat) : Prop := r < B ∨ ∃ T cs, w.heap[r]? = some (.cells cs T (0, 0)) ∧ T ≠ 5 ∧ T ≠ 27
theorem row_fr {rs : List Nat} {w w' : World} {B : Nat} {E : TypeId} {v : Value} {n : Nat} {xs : List Value} (h : Fr rs w w') (ho : w.ownsRow B E 1 v n xs) (hE : E = 5 ∨ E = 27) (hn : ∀ r ∈ rs, Apart w B r) : w'.ownsRow B E 1 v n xs := by
  obtain ⟨h1, h2 | ⟨g, cap, cur, rfl, hbb, hg, r2⟩⟩ := ho
  · exact ⟨h1, .inl h2⟩
  · refine ⟨h1, .inr ⟨g, cap, cur, rfl, hbb, ?_, r2⟩⟩
    rw [h.block g (Array.getElem?_eq_some_iff.1 hg).1 (fun hm => ?_)]
    · exact hg
    · rcases hn g hm with h3 | ⟨T, cs, h3, h4, h5⟩
      · omega
      · rw [h3] at hg
        injection hg with hg
        injection hg with _ e2 _
        rcases hE with rfl | rfl
        · exact h4 e2
        · exact h5 e2
theorem Own.fr {rs : List Nat} {w w' : World} {B : Nat} {v : Value} {xs : List UInt8} (ho : Own w B 5 v xs) (h : Fr rs w w') (hn : ∀ r ∈ rs, Apart w B r) : Own w' B 5 v xs := row_fr h ho (.inl rfl) hn
theorem OwnC.fr {rs : List Nat} {w w' : World} {B : Nat} {v : Value} {xss : List (List UInt8)} (ho : OwnC w B v xss) (h : Fr rs w w') (hn : ∀ r ∈ rs, Apart w B r) : OwnC w' B v xss := by
  obtain ⟨vs, h1, h2, h3⟩ := ho
  exact ⟨vs, row_fr h h1 (.inr rfl) hn, h2, fun j hj => (h3 j hj).fr h hn⟩
theorem Rdr.apart {w : World} {q : Option Nat} {r : Nat} {xs : List UInt8} (h : Rdr w 102 [.bool true] q r xs) (B : Nat) : Apart w B r := by
  obtain ⟨_, _, a, n, cap, hg, _⟩ := h
  exact .inr ⟨_, _, hg, by decide, by decide⟩
theorem Rdr.apart2 {w : World} {q : Option Nat} {r : Nat} {xs : List UInt8} (h : Rdr w 109 [] q r xs) (B : Nat) : Apart w B r := by
  obtain ⟨_, _, a, n, cap, hg, _⟩ := h
  exact .inr ⟨_, _, hg, by decide, by decide⟩
theorem Boxed.apart {w : World} {b : Nat} {v : Value} (h : Boxed w b 28 v) (B : Nat) : Apart w B b := .inr ⟨_, _, h, by decide, by decide⟩
/-- a further frame of blocks that are new -/
theorem Fr.then {rs qs : List Nat} {a b c : World} (h : Fr rs a b) (k : Fr qs b c) (hq : ∀ x ∈ qs, a.heap.size ≤ x ∨ x ∈ rs) : Fr rs a c :=
  ⟨k.os.trans h.os, k.tape.trans h.tape, k.output.trans h.output, Nat.le_trans h.size k.size, fun i hi hn => (k.block i (Nat.lt_of_lt_of_le hi h.size) (fun hm => (hq i hm).elim (fun h => by omega) hn)).trans (h.block i hi hn)⟩
end Go.Proofs.Ytcohcjhbkiangaa
