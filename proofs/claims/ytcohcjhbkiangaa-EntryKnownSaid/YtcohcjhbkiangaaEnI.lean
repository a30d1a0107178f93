/-
  The program's steps that keep the first error, over entries: a contract for each. Conditions: those in each statement.
-/
import Derived.Test.YtcohcjhbkiangaaEnK
namespace Go.Proofs.Ytcohcjhbkiangaa
open Go.RowKit

/-- the end: two results, the first of which lies in a block -/
theorem end_cell2 {P : Program} {fn : Func} {R : Ending → World → Prop} {a : Act} {w : World} {p qq : Tmp} {ty : TypeId} (h : fn.results = #[.cell p ty, .tmp qq]) (g : Nat) (T : TypeId) (xs : List Value) (d : TypeDesc) (v : Value)
    (hp : a.tmps.getD p undef = .pointer (some ⟨g, 0, none⟩)) (hA : Arr w g T xs) (hu : P.underlying ty = some d) (hd : (match d with | .struct _ | .array _ _ => true | _ => false) = true) (hi : (P.info? ty).map (·.size) = some xs.length)
    (hq : a.tmps.getD qq undef = v) (hdf : a.defers = []) (hR : R (.returned (.tuple #[.agg xs.toArray, v])) w) : bodyPost P fn R .ret a w := by
  have hr : (results fn a.tmps).run P w = .ok (.tuple #[.agg xs.toArray, v]) w := by
    have hp' : a.tmps[p]?.getD undef = .pointer (some ⟨g, 0, none⟩) := by simpa using hp
    have hq' : a.tmps[qq]?.getD undef = v := by simpa using hq
    have hl := run_loadVar_row (P := P) w g T ty xs.toArray (0, 0) d hA hu hd (by simpa using hi)
    simp [results, h, hp', hq', asAddr, hl]
  exact bodyPost_ret hr hdf hR

/-- two boxes, at or behind b -/
structure Two (w : World) (b p q : Nat) (u v : Value) : Prop where
  cp : w.cell? ⟨p, 0, none⟩ = some u
  cq : w.cell? ⟨q, 0, none⟩ = some v
  lp : p < w.heap.size
  lq : q < w.heap.size
  bp : b ≤ p
  bq : b ≤ q
theorem Two.base {w : World} {b b' p q : Nat} {u v : Value} (h : Two w b p q u v) (hb : b' ≤ b) : Two w b' p q u v := ⟨h.cp, h.cq, h.lp, h.lq, Nat.le_trans hb h.bp, Nat.le_trans hb h.bq⟩
theorem Two.up {w w' : World} {b p q r : Nat} {u v : Value} (h : Two w b p q u v) (hg : w.grownBy w' (some r)) (hr : r < b) : Two w' b p q u v :=
  ⟨hg.cell h.cp (by have := h.bp; simp; omega), hg.cell h.cq (by have := h.bq; simp; omega), Nat.lt_of_lt_of_le h.lp hg.size, Nat.lt_of_lt_of_le h.lq hg.size, h.bp, h.bq⟩
theorem grown_of {w w' : World} (h : Below w.heap.size w w') (r : Option Nat) : w.grownBy w' r := ⟨h.os, h.tape, h.output, h.size, fun k hk _ => h.block k hk⟩
theorem grown_trans {a b c : World} {row : Option Nat} (h : a.grownBy b row) (k : b.grownBy c row) : a.grownBy c row :=
  ⟨k.os.trans h.os, k.tape.trans h.tape, k.output.trans h.output, Nat.le_trans h.size k.size, fun i hi hne => (k.block i (Nat.lt_of_lt_of_le hi h.size) hne).trans (h.block i hi hne)⟩
theorem grown_drew (w : World) (r : Option Nat) : w.grownBy w.drew r := ⟨rfl, rfl, rfl, Nat.le_refl _, fun _ _ _ => rfl⟩

theorem kept_eb (fn : Fn) (g : Option Addr) (w : World) : Calls Try.prog 40 #[.func fn #[] #[], .pointer g] w fun e w' =>
    ∃ p q, e = .returned (.func (.func 60) #[] #[.pointer (some ⟨p, 0, none⟩), .pointer (some ⟨q, 0, none⟩)]) ∧ Two w' w.heap.size p q (.pointer g) (.func fn #[] #[]) ∧ Below w.heap.size w w' := by
  have hb := (hal w (.cells #[.func fn #[] #[]] 30)).alloc (by simp) (.cells #[.pointer g] 73)
  go_enter Try.func40, Try.ntmps40
  go_wp2
  go_ret
  exact ⟨_, _, rfl, ⟨by simp, by simp, by (simp; try omega), by (simp; try omega), by omega, by omega⟩, hb⟩

/-- what a kept step tells, by the error that there was -/
def keptR (e0 : Int) (r : List UInt8 × Int) : List UInt8 × Int := if e0 = 0 then r else ([], e0)
def KRes (w : World) (fb : Nat) (r : List UInt8 × Int) (e : Ending) (w' : World) : Prop :=
  ∃ v, e = .returned v ∧ Own w' w.heap.size 5 v r.1 ∧ Boxed w' fb 28 (.int .i64 r.2) ∧ w.grownBy w' (some fb)

theorem cell_setOther {w : World} {p fb : Nat} {o : Nat} {u v : Value} (hne : p ≠ fb) (h : w.cell? ⟨p, o, none⟩ = some v) : (w.setCell ⟨fb, 0, none⟩ u).cell? ⟨p, o, none⟩ = some v :=
  (World.cell?_of_block (w := w) (a := ⟨p, o, none⟩) (heap_setCell_other w ⟨fb, 0, none⟩ p _ (by simpa using hne))).trans h

theorem keptEB_any (k : Nat) (he : Enters Try.prog k) (e0 : Int) (r : List UInt8 × Int) (t : Nat) (a : Option Addr) (n cap : Nat) (p q fb : Nat) (w : World)
    (c1 : w.cell? ⟨p, 0, none⟩ = some (.pointer (some ⟨fb, 0, none⟩))) (c2 : w.cell? ⟨q, 0, none⟩ = some (.func (.func k) #[] #[])) (hbx : Boxed w fb 28 (.int .i64 e0)) (lp : p < w.heap.size) (lq : q < w.heap.size)
    (hs : e0 = 0 → ∀ W, Below w.heap.size w W → Calls Try.prog k #[entV t a n cap] W (BRes W r)) :
    Calls Try.prog 60 #[entV t a n cap, .pointer (some ⟨p, 0, none⟩), .pointer (some ⟨q, 0, none⟩)] w (KRes w fb (keptR e0 r)) := by
  have hc := hbx.cell
  have hfz := hbx.frozen
  have lf := hbx.lt
  have np : p ≠ fb := by rintro rfl; rw [hc] at c1; cases c1
  have nq : q ≠ fb := by rintro rfl; rw [hc] at c2; cases c2
  have hb0 := hal w (.cells #[.int .u64 (t : Int), .slice a n cap] 25)
  by_cases h0 : e0 = 0
  · subst h0
    have e1 : keptR 0 r = r := rfl
    rw [e1]
    have hsx := hs rfl
    clear hs
    go_enter Try.func60, Try.ntmps60
    go_wp2_with fail
    have hx0 : Boxed (w.alloc (.cells #[.int .u64 (t : Int), .slice a n cap] 25)) fb 28 (.int .i64 0) := (hb0.block fb lf).trans hbx
    have k1 := (hb0.cell (p := ⟨p, 0, none⟩) lp).trans c1
    have k2 := (hb0.cell (p := ⟨q, 0, none⟩) lq).trans c2
    have k3 : (w.alloc (.cells #[.int .u64 (t : Int), .slice a n cap] 25)).cell? ⟨w.heap.size, 0, none⟩ = some (.int .u64 (t : Int)) := by simp
    have k4 : (w.alloc (.cells #[.int .u64 (t : Int), .slice a n cap] 25)).cell? ⟨w.heap.size, 1, none⟩ = some (.slice a n cap) := by simp
    have lB : w.heap.size < (w.alloc (.cells #[.int .u64 (t : Int), .slice a n cap] 25)).heap.size := by simp
    have hs0 := hb0.size
    have lp0 := Nat.lt_of_lt_of_le lp hs0
    have lq0 := Nat.lt_of_lt_of_le lq hs0
    have lf0 := Nat.lt_of_lt_of_le lf hs0
    have nB : w.heap.size ≠ fb := by omega
    have HW := fun W (hW : Below (w.alloc (.cells #[.int .u64 (t : Int), .slice a n cap] 25)).heap.size (w.alloc (.cells #[.int .u64 (t : Int), .slice a n cap] 25)) W) => hsx W (hb0.trans (hW.mono hs0))
    have HB0 := Lib.hid hb0
    clear hb0 c1 c2 hc hfz hbx hsx
    generalize hw0 : w.alloc (.cells #[.int .u64 (t : Int), .slice a n cap] 25) = w0 at *
    have HW0 := Lib.hid hw0
    clear hw0
    go_region_held3 (fun w' => w'.cell? ⟨p, 0, none⟩ = some (.pointer (some ⟨fb, 0, none⟩)) ∧ w'.cell? ⟨q, 0, none⟩ = some (.func (.func k) #[] #[]) ∧ w'.cell? ⟨w.heap.size, 0, none⟩ = some (.int .u64 (t : Int)) ∧ w'.cell? ⟨w.heap.size, 1, none⟩ = some (.slice a n cap))
      (first
        | exact ⟨k1, k2, k3, k4⟩
        | exact ⟨(hb1.cell (p := ⟨p, 0, none⟩) lp0).trans k1, (hb1.cell (p := ⟨q, 0, none⟩) lq0).trans k2, (hb1.cell (p := ⟨w.heap.size, 0, none⟩) lB).trans k3, (hb1.cell (p := ⟨w.heap.size, 1, none⟩) lB).trans k4⟩
        | exact ⟨cell_setOther np ((hb1.cell (p := ⟨p, 0, none⟩) lp0).trans k1), cell_setOther nq ((hb1.cell (p := ⟨q, 0, none⟩) lq0).trans k2), cell_setOther nB ((hb1.cell (p := ⟨w.heap.size, 0, none⟩) lB).trans k3), cell_setOther nB ((hb1.cell (p := ⟨w.heap.size, 1, none⟩) lB).trans k4)⟩
        | go_keep)
      (first
        | (simp only [he _ _]; go_simp; go_at_fn k; refine (HW _ (below_drew (Below.refl _ _))).mono ?_; rintro e w1 ⟨v, rfl, ho, hb1⟩; have hx1 : Boxed w1 fb 28 (.int .i64 0) := (hb1.block fb lf0).trans hx0; have hc1 := hx1.cell; have hfz1 := hx1.frozen))
    go_wp2
    go_ret
    refine ⟨_, rfl, (ho.store_old (r := fb) lf0).mono hs0, hx1.set _, ?_⟩
    have hg := grown_set (w := w0) (fb := fb) (u := .int .i64 r.2) (undrewB (B := w0.heap.size) (w := w0) hb1)
    exact ⟨hg.os.trans HB0.out.os, hg.tape.trans HB0.out.tape, hg.output.trans HB0.out.output, Nat.le_trans HB0.out.size hg.size, fun i hi hne => (hg.block i (Nat.lt_of_lt_of_le hi HB0.out.size) hne).trans (HB0.out.block i hi)⟩
  · have e1 : keptR e0 r = ([], e0) := by simp [keptR, h0]
    rw [e1]
    have hq : (e0 == 0) = false := by simpa using h0
    have k1 := (hb0.cell (p := ⟨p, 0, none⟩) lp).trans c1
    have k2 := (hb0.cell (p := ⟨fb, 0, none⟩) lf).trans hc
    go_enter Try.func60, Try.ntmps60
    go_wp2
    go_ret
    exact ⟨_, rfl, Own.nil _ _ _, (hb0.block fb lf).trans hbx, World.grownBy_alloc w _ _⟩
end Go.Proofs.Ytcohcjhbkiangaa
