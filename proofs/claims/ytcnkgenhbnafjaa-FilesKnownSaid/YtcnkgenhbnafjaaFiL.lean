/-
  Package files: Names. Conditions: those in each statement.
-/
import Derived.Test.YtcnkgenhbnafjaaFiK
import Derived.Sort.OwnSorted
import Derived.Sort.KeysCollected
namespace Go.Proofs.Ytcnkgenhbnafjaa
open Go.RowKit Go.Shelf Go.ChangeMaps

theorem Keys_any (m : Nat) (w : World) : Calls Try.prog 53 #[.map (some m)] w fun e w' => e = .returned (.func (.func 58) #[] #[.pointer (some ⟨w.heap.size, 0, none⟩)]) ∧ w' = w.alloc (.cells #[.map (some m)] 61) := by
  go_enter Try.func53, Try.ntmps53
  go_wp2
  go_ret
  exact ⟨rfl, rfl⟩
/-- texts as lists of bytes -/
def asL (ys : List ByteArray) : List (List UInt8) := ys.map fun s => s.data.toList
theorem dcg_enc (ys : List ByteArray) : dcg encS ys = (asL ys).map Go.Proofs.encStr := by
  unfold asL dcg
  rw [List.map_map]
  induction ys with
  | nil => rfl
  | cons y ys ih => rw [List.flatMap_cons, ih]; rfl
theorem dcg_back (l : List (List UInt8)) : dcg encS (l.map fun x => (⟨x.toArray⟩ : ByteArray)) = l.map Go.Proofs.encStr := by
  unfold dcg
  induction l with
  | nil => rfl
  | cons y ys ih => rw [List.map_cons, List.flatMap_cons, ih]; rfl
/-- texts, rising byte by byte -/
def sortS (ys : List ByteArray) : List ByteArray := ((asL ys).mergeSort leB).map fun x => ⟨x.toArray⟩
theorem sortS_len (ys : List ByteArray) : (sortS ys).length = ys.length := by simp [sortS, asL]
theorem sortS_perm {ys zs : List ByteArray} (h : ys.Perm zs) : sortS ys = sortS zs := by
  unfold sortS
  have e : (asL ys).mergeSort leB = (asL zs).mergeSort leB := mergeSort_of_perm (List.Perm.map _ h)
  rw [e]
theorem sortS_mem {ys : List ByteArray} {s : ByteArray} : s ∈ sortS ys ↔ s ∈ ys := by
  unfold sortS
  rw [List.mem_map]
  constructor
  · rintro ⟨l, hl, rfl⟩
    rw [(List.mergeSort_perm (asL ys) leB).mem_iff] at hl
    obtain ⟨s, hs, rfl⟩ := List.mem_map.1 hl
    exact hs
  · intro h
    exact ⟨s.data.toList, (List.mergeSort_perm (asL ys) leB).mem_iff.2 (List.mem_map.2 ⟨s, h, rfl⟩), rfl⟩
theorem Sort_own (v : Value) (B : Nat) (ys : List ByteArray) (w : World) (h : OwnS w B v ys) (hl : ys.length ≤ 1048576) : Calls Try.prog 57 #[v] w fun e w' => e = .returned (.tuple #[]) ∧ OwnS w' B v (sortS ys) ∧ KB (fun k => v.ownBlock = some k) w w' := by
  by_cases h0 : ys.length = 0
  · obtain rfl := List.eq_nil_of_length_eq_zero h0
    obtain ⟨a, c, rfl, -⟩ := h.rd (by omega)
    refine (Try.slices_Sort_string_none a c w).mono ?_
    rintro e w' ⟨rfl, rfl⟩
    have e0 : sortS [] = [] := List.eq_nil_of_length_eq_zero (sortS_len [])
    rw [e0]
    exact ⟨rfl, h, KB.refl _ _⟩
  · obtain ⟨h1, ⟨rfl, hn⟩ | ⟨g, cap, cur, rfl, hbb, hg, hle, hcm, hcs, ht⟩⟩ := h.row
    · omega
    · have hal : (asL ys).length = ys.length := by simp [asL]
      have hH : Go.Sort.Holds Go.Proofs.encStr w g 0 (asL ys).toArray := holds_of_block hg (by rw [hal, ← dcg_enc]; simpa using ht)
      have H := Try.slices_Sort_string g 0 cap (asL ys) w hH (Array.getElem?_eq_some_iff.1 hg).1 (by rw [hal]; omega)
      rw [hal] at H
      refine H.mono ?_
      rintro e w' ⟨rfl, n, os, rfl⟩
      have hs := ownsRow_sorted (w := w) (base := B) (n := n) (os := os) (ss := asL ys) (ts := (asL ys).mergeSort fun x y => decide (x ≤ y)) (by simp) hbb hg (by rw [hal]; exact hle) hcm hcs
      rw [hal] at hs
      refine ⟨rfl, ⟨?_, fun x _ => rfl⟩, (KB.refl _ w).grown (grownBy_sorted _) rfl⟩
      rw [sortS_len]
      unfold sortS
      rw [dcg_back]
      exact hs
set_option maxRecDepth 100000 in
theorem Sorted_any (x m : Nat) (es : Array MapEntry) (clock : Nat) (hbo : Born es clock) (hstr : ∀ e ∈ es.toList, e.key = .string (keyS e.key)) (hsz : es.size ≤ 1048576) (w : World) (hB : Boxed w x 61 (.map (some m))) (hm : w.heap[m]? = some (.map es clock)) :
    Calls Try.prog 52 #[.func (.func 58) #[] #[.pointer (some ⟨x, 0, none⟩)]] w fun e w' =>
      ∃ v, e = .returned v ∧ OwnS w' w.heap.size v (sortS (es.toList.map fun e => keyS e.key)) ∧ Below w.heap.size w w' := by
  have H := AppendSeq_any x m es clock hbo hstr hsz w hB hm
  go_enter Try.func52, Try.ntmps52
  go_wp2_with (first
    | (go_at_call 61; go_loud (refine H.mono ?_); rintro e w1 ⟨ys, v1, rfl, hp1, ho1, hb1⟩)
    | (go_at_call 57; go_loud (refine (Sort_own v1 w.heap.size ys w1 ho1 (by have := hp1.length_eq; simp at this; omega)).mono ?_); rintro e w2 ⟨rfl, ho2, hk2⟩)
    | go_in)
  go_ret
  rw [sortS_perm hp1] at ho2
  exact ⟨v1, rfl, ho2, hb1.trans (hk2.under (fun k hk => (ownS_lt ho1 hk).1) hb1.size)⟩
/-- the names of files, rising -/
def namesF (fs : List FS) : List ByteArray := sortS (fs.map FS.name)
set_option maxRecDepth 100000 in
theorem Names_any (w : World) (B r m : Nat) (fs : List FS) (t q u : Nat) (o : Bool) (h : IsD w B r m fs t q u o) (hl : fs.length ≤ 1048576) :
    Calls Try.prog 33 #[.pointer (some ⟨r, 0, none⟩)] w fun e w' => ∃ v, e = .returned v ∧ OwnS w' w.heap.size v (namesF fs) ∧ Below w.heap.size w w' := by
  have H := is_any w B r m fs t q u o h
  have c0 := h.cells.1
  obtain ⟨es, clock, hb, he, hg, hbo⟩ := h.map
  have hkeys : es.toList.map (fun e => keyS e.key) = fs.map FS.name := by
    have := congrArg (List.map fun p : Value × Value => keyS p.1) he
    rw [List.map_map, List.map_map] at this
    exact this
  have hstr : ∀ e ∈ es.toList, e.key = .string (keyS e.key) := fun e hm => by
    obtain ⟨s, hs⟩ := hg (e.key, e.val) (by rw [← he]; exact List.mem_map.2 ⟨e, hm, rfl⟩)
    simp only at hs
    rw [hs]
    rfl
  have hsz : es.size ≤ 1048576 := by
    have := congrArg List.length he
    simp at this
    omega
  have hbw : Below w.heap.size w (w.alloc (.cells #[.map (some m)] 61)) := (Below.refl _ _).alloc (Nat.le_refl _) _
  have HS := Sorted_any w.heap.size m es clock hbo hstr hsz _ (Boxed.new w 61 (.map (some m))) ((hbw.block m (Array.getElem?_eq_some_iff.1 hb).1).trans hb)
  rw [hkeys] at HS
  clear hkeys hstr hsz hb he hg hbo h
  go_enter Try.func33, Try.ntmps33
  go_wp2_with (first
    | (go_at_call 50; refine H.mono ?_; rintro e w' ⟨rfl, rfl⟩)
    | (go_at_call 53; go_loud (refine (Keys_any m w).mono ?_); rintro e w1 ⟨rfl, rfl⟩)
    | (go_at_call 52; go_loud (refine HS.mono ?_); rintro e w2 ⟨v2, rfl, ho2, hb2⟩))
  go_ret
  exact ⟨v2, rfl, OwnG.base ho2 hbw.size, hbw.trans (hb2.mono hbw.size)⟩
end Go.Proofs.Ytcnkgenhbnafjaa
