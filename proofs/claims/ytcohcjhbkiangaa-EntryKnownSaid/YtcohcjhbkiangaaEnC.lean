/-
  The program's parts, and its steps that keep the first error: a contract for each. Conditions: those in each statement.
-/
import Derived.Test.YtcohcjhbkiangaaEnB
import Derived.RangeFuncBox
import Derived.Shelf.Abstract
import Derived.Deep.RegionHeld3
namespace Go.Proofs.Ytcohcjhbkiangaa
open Go.RowKit

/-- f, called in any world later than w, lays d down behind what it is handed -/
def PartD (w : World) (f : Value) (d : List UInt8) : Prop :=
  ∃ k caps, f = .func (.func k) #[] caps ∧ Enters Try.prog k ∧ ∀ W, Below w.heap.size w W → ∀ a n cap xs, Rd W a n cap xs → n ≤ 1048576 →
    Calls Try.prog k (#[.slice a n cap] ++ caps) W (BRes W (xs ++ d, 0))

theorem PartD.to {w w' : World} {f : Value} {d : List UInt8} (h : PartD w f d) (hb : Below w.heap.size w w') : PartD w' f d := by
  obtain ⟨k, caps, e, he, h⟩ := h
  exact ⟨k, caps, e, he, fun W hW => h W (hb.trans (hW.mono hb.size))⟩

/-- what a maker of closures over two boxes leaves -/
def Made2 (w : World) (k : Nat) (u v : Value) (e : Ending) (w' : World) : Prop :=
  ∃ p q, e = .returned (.func (.func k) #[] #[.pointer (some ⟨p, 0, none⟩), .pointer (some ⟨q, 0, none⟩)]) ∧ w'.cell? ⟨p, 0, none⟩ = some u ∧ w'.cell? ⟨q, 0, none⟩ = some v ∧ p < w'.heap.size ∧ q < w'.heap.size ∧ Below w.heap.size w w'

theorem kept_bb (fn : Fn) (caps : Array Value) (g : Option Addr) (w : World) : Calls Try.prog 56 #[.func fn #[] caps, .pointer g] w (Made2 w 76 (.pointer g) (.func fn #[] caps)) := by
  have hb := (hal w (.cells #[.func fn #[] caps] 66)).alloc (by simp) (.cells #[.pointer g] 73)
  go_enter Try.func56, Try.ntmps56
  go_wp2
  go_ret
  exact ⟨_, _, rfl, by simp, by simp, by (simp; try omega), by (simp; try omega), hb⟩

theorem number_mk (n : Nat) (m : Int) (w : World) : Calls Try.prog 39 #[.int .u64 n, .int .i64 m] w (Made2 w 58 (.int .u64 n) (.int .i64 m)) := by
  have hb := (hal w (.cells #[.int .u64 n] 22)).alloc (by simp) (.cells #[.int .i64 m] 3)
  go_enter Try.func39, Try.ntmps39
  go_wp2
  go_ret
  exact ⟨_, _, rfl, by simp, by simp, by (simp; try omega), by (simp; try omega), hb⟩

theorem vector_mk (a : Option Addr) (n cap : Nat) (m : Int) (w : World) : Calls Try.prog 53 #[.slice a n cap, .int .i64 m] w (Made2 w 74 (.slice a n cap) (.int .i64 m)) := by
  have hb := (hal w (.cells #[.slice a n cap] 27)).alloc (by simp) (.cells #[.int .i64 m] 3)
  go_enter Try.func53, Try.ntmps53
  go_wp2
  go_ret
  exact ⟨_, _, rfl, by simp, by simp, by (simp; try omega), by (simp; try omega), hb⟩

theorem number_part (n m : Nat) (hn : n ≤ 18446744073709551615) (hm : sizeB m = true) (hfit : n < 256 ^ m) {w : World} {e : Ending} {w' : World} (h : Made2 w 58 (.int .u64 n) (.int .i64 m) e w') :
    ∃ f, e = .returned f ∧ PartD w' f (digits n m) ∧ Below w.heap.size w w' := by
  obtain ⟨p, q, rfl, hp, hq, lp, lq, hb⟩ := h
  refine ⟨_, rfl, ⟨_, _, rfl, enters_of Try.func58 (by kernel_rfl) rfl, fun W hW a l cap xs hr hl => ?_⟩, hb⟩
  have hp' := (hW.cell (p := ⟨p, 0, none⟩) lp).trans hp
  have hq' := (hW.cell (p := ⟨q, 0, none⟩) lq).trans hq
  have H := Num_any a l cap n m xs W (by omega) hn hr
  have e0 : numF xs n m = (xs ++ digits n m, 0) := by simp [numF, hm, hfit]
  rw [e0] at H
  clear hr hp hq hb hW e0 hfit
  go_enter Try.func58, Try.ntmps58
  go_wp2_with (go_at_call 59; refine H.mono ?_; rintro e w1 ⟨v, rfl, ho, hb1⟩)
  go_ret2
  exact ⟨_, rfl, ho, hb1⟩

theorem vector_part (v : Value) (m : Nat) (hm : vecB m = true) {w : World} {e : Ending} {w' : World} (ys : List UInt8) (hv : ∃ a n cap, v = .slice a n cap ∧ Rd w a n cap ys) (hfit : ys.length < 256 ^ m) (hl : ys.length ≤ 1048576) (h : Made2 w 74 v (.int .i64 m) e w') :
    ∃ f, e = .returned f ∧ PartD w' f (digits ys.length m ++ ys) ∧ Below w.heap.size w w' := by
  obtain ⟨p, q, rfl, hp, hq, lp, lq, hb⟩ := h
  obtain ⟨a', n', cap', rfl, hr'⟩ := hv
  refine ⟨_, rfl, ⟨_, _, rfl, enters_of Try.func74 (by kernel_rfl) rfl, fun W hW a l cap xs hr hl => ?_⟩, hb⟩
  have hp' := (hW.cell (p := ⟨p, 0, none⟩) lp).trans hp
  have hq' := (hW.cell (p := ⟨q, 0, none⟩) lq).trans hq
  have hr2 := (hr'.to hb).to hW
  have H := Vec_any a a' l cap n' cap' m xs ys W (by omega) (by have := hr'.len; omega) hr hr2
  have e0 : vecF xs ys m = (xs ++ digits ys.length m ++ ys, 0) := by simp [vecF, hm, hfit]
  rw [e0] at H
  clear hr hr2 hr' hp hq hb hW e0 hfit
  go_enter Try.func74, Try.ntmps74
  go_wp2_with (go_at_call 75; refine H.mono ?_; rintro e w1 ⟨v, rfl, ho, hb1⟩)
  go_ret2
  exact ⟨_, rfl, by simpa using ho, hb1⟩

theorem undrewB {B : Nat} {w w1 : World} (h : Below B w.drew w1) : Below B w w1 := ⟨h.os, h.tape, h.output, h.size, h.block⟩
theorem grown_set {w w1 : World} {fb : Nat} {u : Value} (hb : Below w.heap.size w w1) : w.grownBy (w1.setCell ⟨fb, 0, none⟩ u) (some fb) :=
  ⟨hb.os, hb.tape, hb.output, by simpa using hb.size, fun k hk hkr => (heap_setCell_other w1 ⟨fb, 0, none⟩ k u (by intro e; exact hkr (congrArg some e))).trans (hb.block k hk)⟩

theorem keptBB_any (k : Nat) (caps : Array Value) (he : Enters Try.prog k) (a : Option Addr) (n cap : Nat) (out : List UInt8) (p q fb : Nat) (w : World)
    (c1 : w.cell? ⟨p, 0, none⟩ = some (.pointer (some ⟨fb, 0, none⟩))) (c2 : w.cell? ⟨q, 0, none⟩ = some (.func (.func k) #[] caps)) (hbx : Boxed w fb 28 (.int .i64 0)) (lp : p < w.heap.size) (lq : q < w.heap.size) (lf : fb < w.heap.size)
    (hs : ∀ W, Below w.heap.size w W → Calls Try.prog k (#[.slice a n cap] ++ caps) W (BRes W (out, 0))) :
    Calls Try.prog 76 #[.slice a n cap, .pointer (some ⟨p, 0, none⟩), .pointer (some ⟨q, 0, none⟩)] w fun e w' =>
      ∃ v, e = .returned v ∧ Own w' w.heap.size 5 v out ∧ Boxed w' fb 28 (.int .i64 0) ∧ w.grownBy w' (some fb) := by
  have hc := hbx.cell
  have hfz := hbx.frozen
  have np : p ≠ fb := by rintro rfl; rw [hc] at c1; cases c1
  have nq : q ≠ fb := by rintro rfl; rw [hc] at c2; cases c2
  go_enter Try.func76, Try.ntmps76
  go_wp2_with fail
  go_region_held3 (fun w' => w'.cell? ⟨p, 0, none⟩ = some (.pointer (some ⟨fb, 0, none⟩)) ∧ w'.cell? ⟨q, 0, none⟩ = some (.func (.func k) #[] caps))
    (first
      | exact ⟨c1, c2⟩
      | exact ⟨(hb1.cell (p := ⟨p, 0, none⟩) lp).trans c1, (hb1.cell (p := ⟨q, 0, none⟩) lq).trans c2⟩
      | exact ⟨(World.cell?_of_block (w := w1) (a := ⟨p, 0, none⟩) (heap_setCell_other w1 ⟨fb, 0, none⟩ p _ (by simpa using np))).trans ((hb1.cell (p := ⟨p, 0, none⟩) lp).trans c1), (World.cell?_of_block (w := w1) (a := ⟨q, 0, none⟩) (heap_setCell_other w1 ⟨fb, 0, none⟩ q _ (by simpa using nq))).trans ((hb1.cell (p := ⟨q, 0, none⟩) lq).trans c2)⟩
      | go_keep)
    (first
      | (simp only [he _ _]; go_simp; go_at_fn k; refine (hs _ (below_drew (Below.refl _ _))).mono ?_; rintro e w1 ⟨v, rfl, ho, hb1⟩; have hx1 : Boxed w1 fb 28 (.int .i64 0) := (hb1.block fb lf).trans hbx; have hc1 := hx1.cell; have hfz1 := hx1.frozen))
  go_wp2
  go_ret
  exact ⟨_, rfl, ho.store_old lf, hx1.set _, grown_set (undrewB hb1)⟩

/-- a slice of parts that lay ds down -/
structure Parts (w : World) (a : Option Addr) (n cap : Nat) (ds : List (List UInt8)) : Prop where
  len : ds.length = n
  le : n ≤ cap
  mem : ∃ b off, a = some ⟨b, off, none⟩ ∧ b < w.heap.size ∧ ∀ j, j < n → ∃ f, w.cell? ⟨b, off + j, none⟩ = some f ∧ PartD w f (ds.getD j [])

theorem flat_step {ds : List (List UInt8)} {k : Nat} (hk : k < ds.length) : (ds.take (k + 1)).flatten = (ds.take k).flatten ++ ds.getD k [] := by
  rw [List.take_succ_eq_append_getElem hk, List.flatten_append]
  simp [List.getD, hk]
theorem flat_le (ds : List (List UInt8)) (k : Nat) : (ds.take k).flatten.length ≤ ds.flatten.length := by
  conv => rhs; rw [← List.take_append_drop k ds, List.flatten_append, List.length_append]
  omega

theorem lay_all (a : Option Addr) (n cap : Nat) (ds : List (List UInt8)) (w : World) (hn : n ≤ 1000) (hlen : ds.flatten.length ≤ 1048576) (h : Parts w a n cap ds) :
    Calls Try.prog 36 #[.slice a n cap] w (BRes w (ds.flatten, 0)) := by
  obtain ⟨hl, hcap, b, off, rfl, hb, hc⟩ := h
  have HL := Lib.hid hl
  clear hl
  have hb0 := hal w (.cells #[.int .i64 0] 28)
  have hx0 : Boxed (w.alloc (.cells #[.int .i64 0] 28)) w.heap.size 28 (.int .i64 0) := Boxed.new _ _ _
  go_enter Try.func36, Try.ntmps36
  go_wp2
  generalize hB : w.heap.size = B at *
  have HB := Lib.hid hB
  clear hB
  go_loopw [4, 10] (fun v i wr => ∃ (k : Nat) (av : Option Addr) (nv cv : Nat), k ≤ n ∧ i = .int .i64 k ∧ v = .slice av nv cv ∧ Own wr (B + 1) 5 (.slice av nv cv) (ds.take k).flatten ∧ Boxed wr B 28 (.int .i64 0) ∧ Below B w wr) (fun _ i _ => n - (intOf i).toNat)
  case atStart => exact ⟨0, none, 0, 0, Nat.zero_le _, rfl, rfl, Own.nil _ _ _, by simpa using hx0, by simpa using hb0⟩
  case round =>
    obtain ⟨k, av, nv, cv, hk, rfl, rfl, ho, hx, hbr⟩ := hrel
    by_cases hlt : k < n
    · obtain ⟨f, hcl, k', caps, rfl, he, hpart⟩ := hc k hlt
      have hcl' := (hbr.cell (p := ⟨b, off + k, none⟩) hb).trans hcl
      have hle := flat_le ds k
      have hst : Hid ((ds.take (k + 1)).flatten = (ds.take k).flatten ++ ds.getD k []) := flat_step (by rw [HL.out]; exact hlt)
      have hol := ho.rd.len
      have hnv : nv ≤ 1048576 := by omega
      have HOL := Lib.hid hol
      clear hcl hle hol
      go_wp2_with fail
      refine (kept_bb _ _ _ _).mono ?_
      rintro e w1 ⟨p, q, rfl, hp, hq, lp, lq, hb1⟩
      have hx1 : Boxed w1 B 28 (.int .i64 0) := (hb1.block B hx.lt).trans hx
      have hBs : B ≤ wr.heap.size := by have := hbr.size; rw [HB.out] at this; exact this
      have hpt : ∀ W, Below w1.heap.size w1 W → Calls Try.prog k' (#[.slice av nv cv] ++ caps) W (BRes W ((ds.take k).flatten ++ ds.getD k [], 0)) := fun W hW =>
        hpart W (by rw [HB.out]; exact hbr.trans ((hb1.trans (hW.mono hb1.size)).mono hBs)) av nv cv _ ((ho.to (hb1.trans (hW.mono hb1.size))).rd.toRd) hnv
      go_wp2_with fail
      refine (keptBB_any k' caps he av nv cv ((ds.take k).flatten ++ ds.getD k []) p q B w1 hp hq hx1 lp lq hx1.lt hpt).mono ?_
      rintro e w2 ⟨v2, rfl, ho2, hx2, hg2⟩
      obtain ⟨a2, n2, c2, rfl, -⟩ := ho2.reads
      go_wp2
      go_roundw
      case rel =>
        refine ⟨k + 1, a2, n2, c2, by omega, by go_num, rfl, ?_, hx2, ?_⟩
        · rw [hst.out]
          exact ho2.mono (Nat.le_trans hx.lt hb1.size)
        · exact hbr.trans ((hb1.mono hBs).grown hg2 (Nat.le_trans hBs hb1.size) (fun k hk => by cases hk; exact Nat.le_refl _))
      case measure => simp [intOf]; omega
    · obtain rfl : k = n := by omega
      have hst : Hid ((ds.take k).flatten = ds.flatten) := by show _ = _; rw [List.take_of_length_le (by rw [HL.out]; exact Nat.le_refl _)]
      have hcf := hx.cell
      go_wp2_with fail
      go_region
      go_wp2
      go_ret2
      refine ⟨_, rfl, ?_, ?_⟩
      · rw [HB.out]
        have := ho.to (below_drew (Below.refl _ wr))
        rw [hst.out] at this
        exact this.mono (by omega)
      · rw [HB.out]; exact below_drew hbr
end Go.Proofs.Ytcohcjhbkiangaa
