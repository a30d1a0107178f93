/-
  A disk with one file: the calls on it. Conditions: those in each statement.
-/
import Derived.Test.YtcnkgenhbnafjaaFiO
namespace Go.Proofs.Ytcnkgenhbnafjaa
open Go.RowKit

theorem rd_lit (w : World) (cs : List UInt8) (E : TypeId) (fr : Nat × Nat := (0, 0)) : Rd (w.alloc (.cells (cs.map bv).toArray E fr)) (some ⟨w.heap.size, 0, none⟩) cs.length cs.length cs := by
  refine ⟨rfl, Nat.le_refl _, by (intro e; cases e), fun _ => ⟨w.heap.size, 0, rfl, by simp, fun j hj => ?_⟩⟩
  rw [cell_of_row _ w.heap.size _ _ E fr (heap_alloc_new w _)]
  simp [bv, List.getD, hj]
/-- a disk with one file -/
def One (w : World) (B r m : Nat) (s : ByteArray) (d : List UInt8) (k q u : Nat) : Prop := ∃ fb dv, IsD w B r m [⟨s, fb, dv, d, k⟩] d.length q u false
theorem tot1 (s : ByteArray) (fb : Nat) (dv : Value) (d : List UInt8) (k : Nat) : total [⟨s, fb, dv, d, k⟩] = d.length := by simp [total]
theorem at1 (s : ByteArray) (fb : Nat) (dv : Value) (d : List UInt8) (k : Nat) : atF [⟨s, fb, dv, d, k⟩] s = some ⟨s, fb, dv, d, k⟩ := by simp [atF]
theorem upd_1 {s : ByteArray} {fb fb' : Nat} {dv dv' : Value} {d d' : List UInt8} {k k' : Nat} : upd1 [⟨s, fb, dv, d, k⟩] ⟨s, fb', dv', d', k'⟩ = [⟨s, fb', dv', d', k'⟩] := by simp [upd1]
theorem One.to {w w' : World} {B r m : Nat} {s : ByteArray} {d : List UInt8} {k q u : Nat} (h : One w B r m s d k q u) (hb : Below w.heap.size w w') : One w' B r m s d k q u := by
  obtain ⟨fb, dv, h⟩ := h
  exact ⟨fb, dv, h.to hb⟩
theorem One.base {w : World} {B r m : Nat} {s : ByteArray} {d : List UInt8} {k q u : Nat} (h : One w B r m s d k q u) : B ≤ w.heap.size := by
  obtain ⟨fb, dv, h⟩ := h
  have := h.base.1; have := h.arr.lt; omega
theorem disk_base {w : World} {B r m : Nat} {fs : List FS} {t q u : Nat} {o : Bool} (h : IsD w B r m fs t q u o) : B ≤ w.heap.size := by
  have := h.base.1; have := h.arr.lt; omega
theorem below_foot {w w' : World} {B r m : Nat} {fs : List FS} {t q u : Nat} {o : Bool} (h : IsD w B r m fs t q u o) (hk : KB (foot r m fs) w w') : Below B w w' :=
  hk.under (fun _ e => (h.lt e).2) (disk_base h)
theorem create1 (w : World) (B r m q : Nat) (h : IsD w B r m [] 0 q 0 false) (s : ByteArray) (hs : nameB s = true) :
    Calls Try.prog 9 #[.pointer (some ⟨r, 0, none⟩), .string s] w fun e w' => e = .returned (.int .i64 0) ∧ One w' B r m s [] 0 q 0 ∧ Below B w w' := by
  refine (Create_ok w B r m [] 0 q 0 h s hs (Nat.le_refl _) (by omega) (by omega) (.inr (by simp)) (by omega)).mono ?_
  rintro e w' ⟨e1, fb, -, hd, hk⟩
  exact ⟨e1, ⟨fb, _, hd⟩, hk.under (fun _ e => by have := h.base; omega) (disk_base h)⟩
theorem append1 (W w : World) (B r m q : Nat) (s : ByteArray) (d : List UInt8) (k : Nat) (h : One W B r m s d k q 0) (hs : nameB s = true) (p : Option Addr) (n cap : Nat) (xs : List UInt8) (hr : Rd w p n cap xs) (hb : Below W.heap.size W w)
    (hra : ∀ ad, p = some ad → 0 < n → W.heap.size ≤ ad.block) (hq : q ≤ 140737488355328) (hfit : d.length + n ≤ q) :
    Calls Try.prog 11 #[.pointer (some ⟨r, 0, none⟩), .string s, .slice p n cap] w fun e w' => e = .returned (.int .i64 0) ∧ One w' B r m s (d ++ xs) k q 0 ∧ Below B w w' := by
  obtain ⟨fb, dv, h⟩ := h
  have hl := hr.len
  have h' := h.to hb
  refine (Append_ok w B r m _ d.length q 0 h' s hs _ (at1 s fb dv d k) p n cap xs hr (fun ad e h0 hf => ?_) (by omega) (by omega) (by omega) (by omega) (.inr hfit) (by show d.length + n ≤ _; omega)).mono ?_
  · have h1 := (h.lt hf).1
    have h2 := hra ad e h0
    omega
  · rintro e w' ⟨e1, v, hd, hk, -⟩
    simp only [longer, upd_1] at hd
    refine ⟨e1, ⟨fb, v, by rw [List.length_append]; exact hd⟩, below_foot h' (hk.mono ?_)⟩
    rintro j (e | e)
    · exact .inl e
    · exact .inr (.inr ⟨_, List.mem_singleton.2 rfl, e⟩)
theorem appfull1 (W w : World) (B r m q : Nat) (s : ByteArray) (d : List UInt8) (k : Nat) (h : One W B r m s d k q 0) (hs : nameB s = true) (p : Option Addr) (n cap : Nat) (xs : List UInt8) (hr : Rd w p n cap xs) (hb : Below W.heap.size W w)
    (hra : ∀ ad, p = some ad → 0 < n → W.heap.size ≤ ad.block) (hq : q ≤ 140737488355328) (hd : d.length ≤ q) (h0 : 0 < n) (hn : n ≤ 140737488355328) (hfull : q < d.length + n) :
    Calls Try.prog 11 #[.pointer (some ⟨r, 0, none⟩), .string s, .slice p n cap] w fun e w' => e = .returned (.int .i64 7) ∧ One w' B r m s d k q 0 ∧ Below B w w' := by
  obtain ⟨fb, dv, h⟩ := h
  have h' := h.to hb
  refine (Append_full w B r m _ d.length q 0 h' s hs _ (at1 s fb dv d k) p n cap xs hr (fun ad e h0 hf => ?_) (by omega) (by omega) h0 hfull hn).mono ?_
  · have h1 := (h.lt hf).1
    have h2 := hra ad e h0
    omega
  · rintro e w' ⟨e1, hb2⟩
    exact ⟨e1, ⟨fb, dv, h'.to hb2⟩, hb2.mono (disk_base h')⟩
theorem sync1 (w : World) (B r m q : Nat) (s : ByteArray) (d : List UInt8) (k : Nat) (h : One w B r m s d k q 0) (hs : nameB s = true) :
    Calls Try.prog 13 #[.pointer (some ⟨r, 0, none⟩), .string s] w fun e w' => e = .returned (.int .i64 0) ∧ One w' B r m s d d.length q 0 ∧ Below B w w' := by
  obtain ⟨fb, dv, h⟩ := h
  refine (Sync_ok w B r m _ d.length q 0 h s hs _ (at1 s fb dv d k) (by omega) (by omega)).mono ?_
  rintro e w' ⟨e1, hd, hk⟩
  simp only [synced, upd_1] at hd
  refine ⟨e1, ⟨fb, dv, hd⟩, below_foot h (hk.mono ?_)⟩
  rintro j (e | e)
  · exact .inl e
  · exact .inr (.inr ⟨_, List.mem_singleton.2 rfl, e⟩)
theorem read1 (w : World) (B r m q : Nat) (s : ByteArray) (d : List UInt8) (k : Nat) (h : One w B r m s d k q 0) (hs : nameB s = true) (hd : d.length ≤ 140737488355328) :
    Calls Try.prog 19 #[.pointer (some ⟨r, 0, none⟩), .string s] w fun e w' => ∃ v, e = .returned (.tuple #[v, .int .i64 0]) ∧ Own w' w.heap.size 5 v d ∧ Below w.heap.size w w' := by
  obtain ⟨fb, dv, h⟩ := h
  exact Read_ok w B r m _ d.length q 0 h s hs _ (at1 s fb dv d k) hd
theorem used1 (w : World) (B r m q : Nat) (s : ByteArray) (d : List UInt8) (k : Nat) (h : One w B r m s d k q 0) : Calls Try.prog 32 #[.pointer (some ⟨r, 0, none⟩)] w fun e w' => e = .returned (.int .i64 (d.length : Int)) ∧ w = w' := by
  obtain ⟨fb, dv, h⟩ := h
  exact Used_any w B r m _ d.length q 0 false h
theorem sort_one (s : ByteArray) : sortS [s] = [s] := by
  have : (asL [s]).mergeSort leB = asL [s] := by simp [asL]
  unfold sortS
  rw [this]
  simp [asL]
theorem crash1 (W w : World) (B r m q : Nat) (s : ByteArray) (d : List UInt8) (k : Nat) (h : One W B r m s d k q 0) (hb : Below W.heap.size W w) (p : Option Addr) (n c : Nat) (ps : List Nat) (hr : RdU w p n c ps) (hps : ∀ x ∈ ps, x < 65536)
    (hra : ∀ ad, p = some ad → 0 < n → W.heap.size ≤ ad.block) (hd : d.length ≤ 140737488355328) (hn : n ≤ 140737488355328) (hk : k < d.length) :
    Calls Try.prog 28 #[.pointer (some ⟨r, 0, none⟩), .slice p n c] w fun e w' => e = .returned (.tuple #[]) ∧ One w' B r m s (d.take (k + ps.headD 0 % (d.length - k + 1))) (k + ps.headD 0 % (d.length - k + 1)) q 0 ∧ Below B w w' := by
  obtain ⟨fb, dv, h⟩ := h
  have h' := h.to hb
  have ht := tot1 s fb dv d k
  refine (Crash_any w B r m _ q 0 false (by rw [ht]; exact h') p n c ps hr hps (fun ad e h0 hf => ?_) (by simp) (by rw [ht]; omega) (by simpa using hd) hn).mono ?_
  · have h1 := (h.lt hf).1
    have h2 := hra ad e h0
    omega
  · rintro e w' ⟨e1, hd1, hk1⟩
    have hns : namesF [⟨s, fb, dv, d, k⟩] = [s] := sort_one s
    have hkp : keptF ⟨s, fb, dv, d, k⟩ ps = ps.headD 0 % (d.length - k + 1) := by
      cases ps with
      | nil => simp [keptF]
      | cons y ys => rfl
    have hl : lse ⟨s, fb, dv, d, k⟩ ≠ 0 := by show d.length - k ≠ 0; omega
    rw [hns, crashG, at1] at hd1
    simp only at hd1
    rw [if_neg hl, crashG, hkp] at hd1
    simp only [cutF, upd_1] at hd1
    rw [tot1] at hd1
    exact ⟨e1, ⟨fb, _, hd1⟩, below_foot h' hk1⟩
end Go.Proofs.Ytcnkgenhbnafjaa
