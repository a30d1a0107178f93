/-
  Readers: the program's and the document's: a contract for each call. Conditions: those in each statement.
-/
import Derived.Test.YtmhcmhhedmokjaaWireB
import Derived.Laws.NewBlocks
namespace Go.Proofs.Ytmhcmhhedmokjaa
open Go.RowKit

set_option maxHeartbeats 400000 in
theorem refVec_any (a a' : Option Addr) (n cap n' cap' : Nat) (size : Int) (xs ys : List UInt8) (w : World) (hm : n ≤ 140737488351232) (hm' : n' ≤ 140737488351232) (hr : Rd w a n cap xs) (hr' : Rd w a' n' cap' ys) :
    Calls Try.prog 8 #[.slice a n cap, .slice a' n' cap', .int .i64 size] w (BRes w (vecF xs ys size)) := by
  have hl := hr.len
  have hl' := hr'.len
  cases hs : vecB size with
  | false =>
    have e0 : vecF xs ys size = ([], 1) := by simp [vecF, hs]
    rw [e0]
    clear e0
    have h1 : (size != 1) = true := by simp [vecB] at hs; simp; omega
    have h2 : (size != 2) = true := by simp [vecB] at hs; simp; omega
    have h3 : (size != 3) = true := by simp [vecB] at hs; simp; omega
    clear hs
    go_enter Try.func8, Try.ntmps8
    go_wp2
    go_ret2
    exact ⟨_, rfl, Own.nil _ _ _, Below.refl _ _⟩
  | true =>
    have hz := vec_size size hs
    have H := refNum_any a n cap n' size xs w (by omega) (by omega) hr
    have hc : (size = 1 ∨ size = 2 ∨ size = 3) := by simp [vecB] at hs; omega
    by_cases hb : n' < 256 ^ size.toNat
    · have hn3 : n' ≤ 16777216 := by
        rcases hc with rfl | rfl | rfl <;> simp at hb <;> omega
      have e0 : vecF xs ys size = (xs ++ digits n' size.toNat ++ ys, 0) := by simp [vecF, hs, hl', hb]
      have e1 : numF xs n' size = (xs ++ digits n' size.toNat, 0) := by simp [numF, hz, hb]
      rw [e0]
      rw [e1] at H
      have hd := digits_len n' size.toNat
      have hk : size.toNat ≤ 3 := by omega
      clear e0 e1 hs hz hb
      generalize digits n' size.toNat = ds at *
      rcases hc with rfl | rfl | rfl
      all_goals
        go_enter Try.func8, Try.ntmps8
        go_wp2_with (first
          | (go_at_call 6; refine H.mono ?_; rintro e w1 ⟨v1, rfl, ho1, hb1⟩)
          | (at_builtin; go_loud (refine wl_append_wide bt rfl (.tmp 32) (.tmp 33) rfl w.heap.size v1 (xs ++ ds) ho1 rfl _ _ _ ys rfl (hr'.to hb1) (by simp; omega) hb1.size ?_); intro v3 w3 ho3 hb3))
        go_ret2
        exact ⟨_, rfl, ho3, hb1.trans hb3⟩
    · have e0 : vecF xs ys size = ([], 3) := by simp [vecF, hs, hl', hb]
      have e1 : numF xs n' size = ([], 3) := by simp [numF, hz, hb]
      rw [e0]
      rw [e1] at H
      clear e0 e1 hs hz hb
      rcases hc with rfl | rfl | rfl
      all_goals
        go_enter Try.func8, Try.ntmps8
        go_wp2_with (go_at_call 6; refine H.mono ?_; rintro e w1 ⟨v1, rfl, ho1, hb1⟩)
        go_ret2
        exact ⟨_, rfl, Own.nil _ _ _, hb1⟩

/-- a reader: block r bears hd and a slice that reads as xs, in block q -/
structure Rdr (w : World) (T : TypeId) (hd : List Value) (q : Option Nat) (r : Nat) (xs : List UInt8) : Prop where
  ne : q ≠ some r
  lt : r < w.heap.size
  ex : ∃ a n cap, w.heap[r]? = some (.cells (hd ++ [Value.slice a n cap]).toArray T (0, 0)) ∧ RdS w a n cap xs ∧ ∀ ad, a = some ad → q = some ad.block

theorem Rdr.kept {w w' : World} {T : TypeId} {hd : List Value} {q : Option Nat} {r : Nat} {xs : List UInt8} (h : Rdr w T hd q r xs) (hs : w.heap.size ≤ w'.heap.size) (hq : ∀ k, q = some k → w'.heap[k]? = w.heap[k]?) (hr : w'.heap[r]? = w.heap[r]?) : Rdr w' T hd q r xs := by
  obtain ⟨hne, hlt, a, n, cap, hg, hrd, hb⟩ := h
  refine ⟨hne, by omega, a, n, cap, by rw [hr]; exact hg, RdS.mk' hrd.len hrd.le hrd.nil fun ad e => ?_, hb⟩
  obtain ⟨h1, h2, h3⟩ := hrd.adr ad e
  refine ⟨h1, by omega, fun j hj => ?_⟩
  exact (World.cell?_of_block (w := w) (a := ⟨ad.block, ad.off + j, none⟩) (hq _ (hb ad e))).trans (h3 j hj)

/-- what a new reader is -/
def NewRdr (w : World) (T : TypeId) (hd : List Value) (xs : List UInt8) (e : Ending) (w' : World) : Prop :=
  ∃ q r, e = .returned (.pointer (some ⟨r, 0, none⟩)) ∧ Rdr w' T hd q r xs ∧ (∀ k, q = some k → w.heap.size ≤ k ∧ k < w'.heap.size) ∧ w.heap.size ≤ r ∧ Below w.heap.size w w'

theorem newRdr {w w1 : World} {T E : TypeId} {hd : List Value} {a : Option Addr} {n cap : Nat} {xs : List UInt8} (hb : Below w.heap.size w w1) (ho : Own w1 w.heap.size E (.slice a n cap) xs) :
    NewRdr w T hd xs (.returned (.pointer (some ⟨w1.heap.size, 0, none⟩))) (w1.alloc (.cells (hd ++ [Value.slice a n cap]).toArray T)) := by
  have hsz := hb.size
  have hrd := ho.rd
  obtain ⟨a2, c2, e, hlt⟩ := ho.shape
  injection e with e1 e2 e3
  subst e1
  have hbw : Below w1.heap.size w1 (w1.alloc (.cells (hd ++ [Value.slice a n cap]).toArray T)) := (Below.refl _ _).alloc (Nat.le_refl _) _
  refine ⟨a.map Addr.block, w1.heap.size, rfl, ⟨?_, by simp, a, n, cap, heap_alloc_new w1 _, hrd.to hbw, fun ad e => by rw [e]; rfl⟩, ?_, hsz, hb.alloc hsz _⟩
  · intro h
    obtain ⟨ad, e, e'⟩ := Option.map_eq_some_iff.1 h
    have := (hlt ad e).2
    omega
  · intro k h
    obtain ⟨ad, e, e'⟩ := Option.map_eq_some_iff.1 h
    have := hlt ad e
    simp
    omega

theorem New_any (a : Option Addr) (n cap : Nat) (xs : List UInt8) (w : World) (hm : n ≤ 140737488355328) (hr : Rd w a n cap xs) :
    Calls Try.prog 11 #[.slice a n cap] w (NewRdr w 58 [.bool true] xs) := by
  have H := fresh_any a n cap xs w hm hr
  go_enter Try.func11, Try.ntmps11
  go_wp2_with (go_at_call 26; refine H.mono ?_; rintro e w1 ⟨v, rfl, ho, hv, hb⟩; clear hv; obtain ⟨a2, c2, rfl, _⟩ := ho.shape)
  go_ret
  exact newRdr (hd := [.bool true]) hb ho

theorem refNew_any (a : Option Addr) (n cap : Nat) (xs : List UInt8) (w : World) (hm : n ≤ 140737488355328) (hr : Rd w a n cap xs) :
    Calls Try.prog 12 #[.slice a n cap] w (NewRdr w 51 [] xs) := by
  have H := own_any a n cap xs w hm hr
  go_enter Try.func12, Try.ntmps12
  go_wp2_with (go_at_call 24; refine H.mono ?_; rintro e w1 ⟨v, rfl, ho, hb⟩; obtain ⟨a2, c2, rfl, _⟩ := ho.shape)
  go_ret
  exact newRdr (hd := []) hb ho

theorem is_any (r : Nat) (w : World) (hc : w.cell? ⟨r, 0, none⟩ = some (.bool true)) :
    Calls Try.prog 27 #[.pointer (some ⟨r, 0, none⟩)] w fun e w' => e = .returned (.bool true) ∧ w = w' := by
  go_enter Try.func27, Try.ntmps27
  go_wp2
  go_ret
  exact ⟨rfl, rfl⟩
theorem is_nil (w : World) :
    Calls Try.prog 27 #[.pointer none] w fun e w' => e = .returned (.bool false) ∧ w = w' := by
  go_enter Try.func27, Try.ntmps27
  go_wp2
  go_ret
  exact ⟨rfl, rfl⟩

theorem Rdr.cell {w : World} {T : TypeId} {r : Nat} {hd : List Value} {v : Value} (h : w.heap[r]? = some (.cells (hd ++ [v]).toArray T (0, 0))) : w.cell? ⟨r, hd.length, none⟩ = some v := by
  rw [cell_of_row w r _ _ T (0, 0) h]; simp

theorem Left_any (q : Option Nat) (r : Nat) (xs : List UInt8) (w : World) (h : Rdr w 58 [.bool true] q r xs) :
    Calls Try.prog 19 #[.pointer (some ⟨r, 0, none⟩)] w fun e w' => e = .returned (.int .i64 xs.length) ∧ w = w' := by
  obtain ⟨hne, hlt, a, n, cap, hg, hrd, hb⟩ := h
  have c0 : w.cell? ⟨r, 0, none⟩ = some (.bool true) := by rw [cell_of_row w r _ _ 58 (0, 0) hg]; simp
  have c1 : w.cell? ⟨r, 1, none⟩ = some (.slice a n cap) := Rdr.cell hg
  have H := is_any r w c0
  have hl := hrd.len
  subst hl
  clear hrd hg hb
  go_enter Try.func19, Try.ntmps19
  go_wp2_with (go_at_call 27; refine H.mono ?_; rintro e w1 ⟨rfl, rfl⟩)
  go_ret
  exact ⟨rfl, rfl⟩
theorem Left_nil (w : World) :
    Calls Try.prog 19 #[.pointer none] w fun e w' => e = .returned (.int .i64 0) ∧ w = w' := by
  go_enter Try.func19, Try.ntmps19
  go_wp2_with (go_at_call 27; refine (is_nil _).mono ?_; rintro e w1 ⟨rfl, rfl⟩)
  go_ret
  exact ⟨rfl, rfl⟩

theorem Rdr.store {w w1 : World} {T : TypeId} {hd : List Value} {q : Option Nat} {r : Nat} {v0 : Value} {a' : Option Addr} {n' cap' : Nat} {ys : List UInt8} (hb : Below w.heap.size w w1)
    (hg : w.heap[r]? = some (.cells (hd ++ [v0]).toArray T (0, 0))) (hlt : r < w.heap.size) (hne : q ≠ some r) (hrd : RdS w a' n' cap' ys) (ha : ∀ ad, a' = some ad → q = some ad.block) :
    Rdr (w1.setCell ⟨r, hd.length, none⟩ (.slice a' n' cap')) T hd q r ys ∧ w.grownBy (w1.setCell ⟨r, hd.length, none⟩ (.slice a' n' cap')) (some r) := by
  have hs := hb.size
  have hg1 : w1.heap[r]? = some (.cells (hd ++ [v0]).toArray T (0, 0)) := by rw [hb.block r hlt]; exact hg
  have ho : ∀ k, k ≠ r → (w1.setCell ⟨r, hd.length, none⟩ (.slice a' n' cap')).heap[k]? = w1.heap[k]? := fun k hk => heap_setCell_other w1 ⟨r, hd.length, none⟩ k _ (by simpa using hk)
  refine ⟨⟨hne, by simp; omega, a', n', cap', ?_, RdS.mk' hrd.len hrd.le hrd.nil fun ad e => ?_, ha⟩, ⟨hb.os, hb.tape, hb.output, by simpa using hs, fun k hk hkr => ?_⟩⟩
  · rw [heap_setCell_same w1 r hd.length _ T _ hg1]
    congr 1
    simp [List.set_append_right]
  · obtain ⟨h1, h2, h3⟩ := hrd.adr ad e
    refine ⟨h1, by simp; omega, fun j hj => ?_⟩
    have hk : ad.block ≠ r := by intro e'; exact hne (by rw [ha ad e, e'])
    rw [← h3 j hj]
    exact World.cell?_of_block (w := w) (a := ⟨ad.block, ad.off + j, none⟩) ((ho _ hk).trans (hb.block _ h2))
  · exact (ho k (by intro e; exact hkr (by rw [e]))).trans (hb.block k hk)

theorem Own.store_old {w1 : World} {B : Nat} {E : TypeId} {v u : Value} {zs : List UInt8} {r o : Nat} (h : Own w1 B E v zs) (hr : r < B) : Own (w1.setCell ⟨r, o, none⟩ u) B E v zs := by
  obtain ⟨h1, h2 | ⟨g, cap, cur, rfl, hbb, hg, r2⟩⟩ := h
  · exact ⟨h1, .inl h2⟩
  · exact ⟨h1, .inr ⟨g, cap, cur, rfl, hbb, by rw [heap_setCell_other w1 ⟨r, o, none⟩ g u (by simp; omega)]; exact hg, r2⟩⟩

/-- a list, an error's number, and what is left -/
def takeF (xs : List UInt8) (k : Int) : List UInt8 × Int × List UInt8 :=
  if k < 0 then ([], 1, xs) else if (xs.length : Int) < k then ([], 4, xs) else (xs.take k.toNat, 0, xs.drop k.toNat)
def RRes (w : World) (T : TypeId) (hd : List Value) (q : Option Nat) (r : Nat) (f : List UInt8 × Int × List UInt8) (e : Ending) (w' : World) : Prop :=
  ∃ v, e = .returned (.tuple #[v, .int .i64 f.2.1]) ∧ Own w' w.heap.size 5 v f.1 ∧ Rdr w' T hd q r f.2.2 ∧ w.grownBy w' (some r)

theorem Take_any (q : Option Nat) (r : Nat) (xs : List UInt8) (k : Int) (w : World) (hm : xs.length ≤ 140737488355328) (h : Rdr w 58 [.bool true] q r xs) :
    Calls Try.prog 17 #[.pointer (some ⟨r, 0, none⟩), .int .i64 k] w (RRes w 58 [.bool true] q r (takeF xs k)) := by
  have hrdr := h
  obtain ⟨hne, hlt, a, n, cap, hg, hrd, hb⟩ := h
  have c0 : w.cell? ⟨r, 0, none⟩ = some (.bool true) := by rw [cell_of_row w r _ _ 58 (0, 0) hg]; simp
  have c1 : w.cell? ⟨r, 1, none⟩ = some (.slice a n cap) := Rdr.cell hg
  have H := is_any r w c0
  have hl := hrd.len
  subst hl
  by_cases hk : k < 0
  · have e0 : takeF xs k = ([], 1, xs) := by simp [takeF, hk]
    rw [e0]
    clear e0
    go_enter Try.func17, Try.ntmps17
    go_wp2_with (go_at_call 27; refine H.mono ?_; rintro e w1 ⟨rfl, rfl⟩)
    go_ret2
    exact ⟨_, rfl, Own.nil _ _ _, hrdr, World.grownBy.refl _ _⟩
  · by_cases hk2 : (xs.length : Int) < k
    · have e0 : takeF xs k = ([], 4, xs) := by simp [takeF, hk, hk2]
      rw [e0]
      clear e0
      go_enter Try.func17, Try.ntmps17
      go_wp2_with (go_at_call 27; refine H.mono ?_; rintro e w1 ⟨rfl, rfl⟩)
      go_ret2
      exact ⟨_, rfl, Own.nil _ _ _, hrdr, World.grownBy.refl _ _⟩
    · obtain ⟨m, rfl⟩ := Int.eq_ofNat_of_zero_le (show 0 ≤ k by omega)
      have e0 : takeF xs m = (xs.take m, 0, xs.drop m) := by simp [takeF, hk2]
      have H0 := Lib.hid e0
      clear e0
      have hcap := hrd.le
      have hmx : m ≤ xs.length := by omega
      go_enter Try.func17, Try.ntmps17
      go_wp2_with (go_at_call 27; refine H.mono ?_; rintro e w1 ⟨rfl, rfl⟩)
      refine (fresh_any a m cap (xs.take m) w (by omega) (hrd.take m (by omega)).toRd).mono ?_
      rintro e w1 ⟨v, rfl, ho, hv, hb1⟩
      have c1' := (hb1.cell (p := ⟨r, 1, none⟩) hlt).trans c1
      have hf1 : w1.frozen? ⟨r, 1, none⟩ = false := frozen_of_row w1 r 1 _ _ ((hb1.block r hlt).trans hg)
      have HB := Lib.hid hb
      clear hb hrdr hv
      cases a with
      | none =>
        have := hrd.nil rfl
        have hm0 : m = 0 := by omega
        subst hm0
        have hx : xs = [] := List.eq_nil_of_length_eq_zero (by omega)
        subst hx
        subst this
        have fin := Rdr.store (T := 58) (hd := [.bool true]) hb1 hg hlt hne hrd HB.out
        go_wp2
        go_ret2
        rw [H0.out]
        exact ⟨_, rfl, ho.store_old hlt, fin.1, fin.2⟩
      | some ad =>
        obtain ⟨b, off, sp⟩ := ad
        obtain ⟨hsp, -⟩ := hrd.adr _ rfl
        simp only at hsp
        subst hsp
        have HQ : Hid (q = some b) := HB.out _ rfl
        by_cases hcm : cap = m
        · have hxm : xs.length = m := by omega
          have hrd2 : RdS w (some ⟨b, off, none⟩) 0 0 (xs.drop m) := by
            have h := hrd
            rw [hxm, hcm] at h
            exact h.last
          have fin := Rdr.store (T := 58) (hd := [.bool true]) hb1 hg hlt hne hrd2 (by intro ad e; cases e; exact HQ.out)
          go_wp2
          go_ret2
          rw [H0.out]
          exact ⟨_, rfl, ho.store_old hlt, fin.1, fin.2⟩
        · have fin := Rdr.store (T := 58) (hd := [.bool true]) hb1 hg hlt hne (hrd.drop m hmx) (by intro ad e; cases e; exact HQ.out)
          go_wp2
          go_ret2
          rw [H0.out]
          exact ⟨_, rfl, ho.store_old hlt, fin.1, fin.2⟩

theorem refTake_any (q : Option Nat) (r : Nat) (xs : List UInt8) (k : Int) (w : World) (hm : xs.length ≤ 140737488355328) (h : Rdr w 51 [] q r xs) :
    Calls Try.prog 18 #[.pointer (some ⟨r, 0, none⟩), .int .i64 k] w (RRes w 51 [] q r (takeF xs k)) := by
  have hrdr := h
  obtain ⟨hne, hlt, a, n, cap, hg, hrd, hb⟩ := h
  have c1 : w.cell? ⟨r, 0, none⟩ = some (.slice a n cap) := Rdr.cell hg
  have hl := hrd.len
  subst hl
  by_cases hk : k < 0
  · have e0 : takeF xs k = ([], 1, xs) := by simp [takeF, hk]
    rw [e0]
    clear e0
    go_enter Try.func18, Try.ntmps18
    go_wp2
    go_ret2
    exact ⟨_, rfl, Own.nil _ _ _, hrdr, World.grownBy.refl _ _⟩
  · by_cases hk2 : (xs.length : Int) < k
    · have e0 : takeF xs k = ([], 4, xs) := by simp [takeF, hk, hk2]
      rw [e0]
      clear e0
      go_enter Try.func18, Try.ntmps18
      go_wp2
      go_ret2
      exact ⟨_, rfl, Own.nil _ _ _, hrdr, World.grownBy.refl _ _⟩
    · obtain ⟨m, rfl⟩ := Int.eq_ofNat_of_zero_le (show 0 ≤ k by omega)
      have e0 : takeF xs m = (xs.take m, 0, xs.drop m) := by simp [takeF, hk2]
      have H0 := Lib.hid e0
      clear e0
      have hcap := hrd.le
      have hmx : m ≤ xs.length := by omega
      go_enter Try.func18, Try.ntmps18
      go_wp2_with fail
      refine (own_any a m cap (xs.take m) w (by omega) (hrd.take m (by omega)).toRd).mono ?_
      rintro e w1 ⟨v, rfl, ho, hb1⟩
      have c1' := (hb1.cell (p := ⟨r, 0, none⟩) hlt).trans c1
      have hf1 : w1.frozen? ⟨r, 0, none⟩ = false := frozen_of_row w1 r 0 _ _ ((hb1.block r hlt).trans hg)
      have HB := Lib.hid hb
      clear hb hrdr
      cases a with
      | none =>
        have := hrd.nil rfl
        have hx : xs = [] := List.eq_nil_of_length_eq_zero (by omega)
        subst hx
        have hm0 : m = 0 := by simp at hmx; omega
        subst hm0
        subst this
        have fin := Rdr.store (T := 51) (hd := []) hb1 hg hlt hne hrd HB.out
        go_wp2
        go_ret2
        rw [H0.out]
        exact ⟨_, rfl, ho.store_old hlt, fin.1, fin.2⟩
      | some ad =>
        obtain ⟨b, off, sp⟩ := ad
        obtain ⟨hsp, -⟩ := hrd.adr _ rfl
        simp only at hsp
        subst hsp
        have HQ : Hid (q = some b) := HB.out _ rfl
        by_cases hcm : cap = m
        · have hxm : xs.length = m := by omega
          have hrd2 : RdS w (some ⟨b, off, none⟩) 0 0 (xs.drop m) := by
            have h := hrd
            rw [hxm, hcm] at h
            exact h.last
          have fin := Rdr.store (T := 51) (hd := []) hb1 hg hlt hne hrd2 (by intro ad e; cases e; exact HQ.out)
          go_wp2
          go_ret2
          rw [H0.out]
          exact ⟨_, rfl, ho.store_old hlt, fin.1, fin.2⟩
        · have fin := Rdr.store (T := 51) (hd := []) hb1 hg hlt hne (hrd.drop m hmx) (by intro ad e; cases e; exact HQ.out)
          go_wp2
          go_ret2
          rw [H0.out]
          exact ⟨_, rfl, ho.store_old hlt, fin.1, fin.2⟩

/-- a number, an error's number, and what is left -/
def rnumF (xs : List UInt8) (size : Int) : Nat × Int × List UInt8 :=
  if sizeB size = true then (if (xs.length : Int) < size then (0, 4, xs) else (beNat (xs.take size.toNat), 0, xs.drop size.toNat)) else (0, 1, xs)
def NRes (w : World) (T : TypeId) (hd : List Value) (q : Option Nat) (r : Nat) (f : Nat × Int × List UInt8) (e : Ending) (w' : World) : Prop :=
  e = .returned (.tuple #[.int .u64 (f.1 : Int), .int .i64 f.2.1]) ∧ Rdr w' T hd q r f.2.2 ∧ w.grownBy w' (some r)

theorem RNum_any (q : Option Nat) (r : Nat) (xs : List UInt8) (size : Int) (w : World) (hm : xs.length ≤ 140737488355328) (h : Rdr w 58 [.bool true] q r xs) :
    Calls Try.prog 13 #[.pointer (some ⟨r, 0, none⟩), .int .i64 size] w (NRes w 58 [.bool true] q r (rnumF xs size)) := by
  have hrdr := h
  obtain ⟨hne, hlt, a, n, cap, hg, hrd, hb⟩ := h
  have c0 : w.cell? ⟨r, 0, none⟩ = some (.bool true) := by rw [cell_of_row w r _ _ 58 (0, 0) hg]; simp
  have c1 : w.cell? ⟨r, 1, none⟩ = some (.slice a n cap) := Rdr.cell hg
  have H := is_any r w c0
  have hl := hrd.len
  subst hl
  cases hs : sizeB size with
  | false =>
    have e0 : rnumF xs size = (0, 1, xs) := by simp [rnumF, hs]
    rw [e0]
    clear e0
    have H2 := isSize_any size w
    rw [hs] at H2
    go_enter Try.func13, Try.ntmps13
    go_wp2_with (first | (go_at_call 27; refine H.mono ?_; rintro e w1 ⟨rfl, rfl⟩) | (go_at_call 20; refine H2.mono ?_; rintro e w1 ⟨rfl, rfl⟩))
    go_ret2
    exact ⟨rfl, hrdr, World.grownBy.refl _ _⟩
  | true =>
    obtain ⟨m, rfl, hk1, hk8⟩ := size_of size hs
    have H2 := isSize_any m w
    rw [hs] at H2
    by_cases hk2 : xs.length < m
    · have e0 : rnumF xs m = (0, 4, xs) := by simp [rnumF, hs, hk2]
      rw [e0]
      clear e0
      go_enter Try.func13, Try.ntmps13
      go_wp2_with (first | (go_at_call 27; refine H.mono ?_; rintro e w1 ⟨rfl, rfl⟩) | (go_at_call 20; refine H2.mono ?_; rintro e w1 ⟨rfl, rfl⟩))
      go_ret2
      exact ⟨rfl, hrdr, World.grownBy.refl _ _⟩
    · have e0 : rnumF xs m = (beNat (xs.take m), 0, xs.drop m) := by simp [rnumF, hs, hk2]
      have H0 := Lib.hid e0
      clear e0
      have hcap := hrd.le
      have hmx : m ≤ xs.length := by omega
      have H3 := number_any a xs.length cap m xs w hk8 hmx (by omega) hrd
      have hf1 : w.frozen? ⟨r, 1, none⟩ = false := frozen_of_row w r 1 _ _ hg
      have hb1 : Below w.heap.size w w := Below.refl _ _
      go_enter Try.func13, Try.ntmps13
      go_wp2_with (first | (go_at_call 27; refine H.mono ?_; rintro e w1 ⟨rfl, rfl⟩) | (go_at_call 20; refine H2.mono ?_; rintro e w1 ⟨rfl, rfl⟩))
      refine H3.mono ?_
      rintro e w1 ⟨rfl, rfl⟩
      have HB := Lib.hid hb
      clear hb hrdr
      cases a with
      | none =>
        have := hrd.nil rfl
        omega
      | some ad =>
        obtain ⟨b, off, sp⟩ := ad
        obtain ⟨hsp, -⟩ := hrd.adr _ rfl
        simp only at hsp
        subst hsp
        have HQ : Hid (q = some b) := HB.out _ rfl
        by_cases hcm : cap = m
        · have hxm : xs.length = m := by omega
          have hrd2 : RdS w (some ⟨b, off, none⟩) 0 0 (xs.drop m) := by
            have h := hrd
            rw [hxm, hcm] at h
            exact h.last
          have fin := Rdr.store (T := 58) (hd := [.bool true]) hb1 hg hlt hne hrd2 (by intro ad e; cases e; exact HQ.out)
          go_wp2
          go_ret2
          rw [H0.out]
          exact ⟨rfl, fin.1, fin.2⟩
        · have fin := Rdr.store (T := 58) (hd := [.bool true]) hb1 hg hlt hne (hrd.drop m hmx) (by intro ad e; cases e; exact HQ.out)
          go_wp2
          go_ret2
          rw [H0.out]
          exact ⟨rfl, fin.1, fin.2⟩
end Go.Proofs.Ytmhcmhhedmokjaa
