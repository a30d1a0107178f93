/-
  maps.Keys over a map of texts: what its iterator hands to a loop, whatever the order. Conditions: those in each statement.
-/
import Derived.RangeFuncNested
import Derived.RangeFuncBound
import Derived.RangeFuncCalls
import Derived.RangeFuncLeaves
import Derived.Shelf.Abstract
import Derived.Shelf.RegionOpen
import Derived.WalkKit
import Derived.OwnWalkIn
import Derived.TacticsInMore
import Derived.LoopNIn
import Derived.LoopIn
import Derived.Maps.RangeRun
import Derived.Maps.Range
import Derived.Test.YtcnkgenhbnafjaaFiI
namespace Go.Proofs.Ytcnkgenhbnafjaa
open Go.RowKit Go.Shelf Go.ChangeMaps
attribute [local go_sem] Oper.semAt_some

/-- a key as a text -/
def keyS : Value → ByteArray
  | .string s => s
  | _ => ⟨#[]⟩
theorem pw_inj {α β : Type} {p : α → β} {l : List α} (h : (l.map p).Nodup) {x y : α} (hx : x ∈ l) (hy : y ∈ l) (e : p x = p y) : x = y := by
  apply Classical.byContradiction
  intro hne
  exact pw_all (fun a b hab e => hab e.symm) (List.pairwise_map.1 h) hx hy hne e
/-- what has come of a map, in whatever order -/
structure Came (es : Array MapEntry) (seen : Array Nat) (ys : List ByteArray) (xs : List MapEntry) : Prop where
  keys : ys = xs.map fun e => keyS e.key
  seen : seen.toList = xs.map (·.born)
  mem : ∀ e ∈ xs, e ∈ es.toList
  once : (xs.map (·.born)).Nodup
theorem Came.step {es : Array MapEntry} {seen : Array Nat} {ys : List ByteArray} {xs : List MapEntry} (h : Came es seen ys xs) {e : MapEntry} (he : e ∈ (leftOf es seen).toList) : Came es (seen.push e.born) (ys ++ [keyS e.key]) (xs ++ [e]) := by
  obtain ⟨h1, h2⟩ := mem_left he
  refine ⟨by rw [h.keys, List.map_append]; rfl, by rw [Array.toList_push, h.seen, List.map_append]; rfl, fun x hx => ?_, ?_⟩
  · rcases List.mem_append.1 hx with hx | hx
    · exact h.mem x hx
    · rw [List.mem_singleton.1 hx]; exact h1
  · rw [List.map_append, List.nodup_append]
    refine ⟨h.once, by simp, fun x hx y hy e2 => ?_⟩
    rw [List.map_singleton, List.mem_singleton] at hy
    rw [← h.seen, e2, hy] at hx
    have : seen.contains e.born = true := by simpa using hx
    rw [this] at h2
    cases h2
theorem Came.all {es : Array MapEntry} {seen : Array Nat} {ys : List ByteArray} {xs : List MapEntry} (h : Came es seen ys xs) {clock : Nat} (hb : Born es clock) (h0 : (leftOf es seen).size = 0) : ys.Perm (es.toList.map fun e => keyS e.key) := by
  rw [h.keys]
  refine List.Perm.map _ ?_
  have nx : xs.Nodup := (List.pairwise_map.1 h.once).imp fun hab e => hab (by rw [e])
  have ne : es.toList.Nodup := (List.pairwise_map.1 hb.2).imp fun hab e => hab (by rw [e])
  refine (List.perm_ext_iff_of_nodup nx ne).2 fun e => ⟨h.mem e, fun he => ?_⟩
  have h1 := all_seen es seen h0 e he
  have h2 : e.born ∈ seen.toList := by simpa using h1
  rw [h.seen] at h2
  obtain ⟨x, hx, ex⟩ := List.mem_map.1 h2
  have : x = e := pw_inj hb.2 (h.mem x hx) he ex
  rw [← this]
  exact hx
theorem Came.few {es : Array MapEntry} {seen : Array Nat} {ys : List ByteArray} {xs : List MapEntry} (h : Came es seen ys xs) {e : MapEntry} (he : e ∈ (leftOf es seen).toList) : ys.length < es.size := by
  have hs := h.step he
  have nx : (xs ++ [e]).Nodup := (List.pairwise_map.1 hs.once).imp fun hab e => hab (by rw [e])
  have := List.Nodup.length_le_of_subset nx (fun x hx => hs.mem x hx)
  rw [h.keys, List.length_map]
  simp at this
  omega
set_option maxRecDepth 100000 in
set_option maxHeartbeats 2000000 in
theorem keys1_in (N : Nat) (hN : 1 ≤ N) (l x m : Nat) (es : Array MapEntry) (clock : Nat) (hbo : Born es clock) (hstr : ∀ e ∈ es.toList, e.key = .string (keyS e.key)) (J Jx : List ByteArray → World → Prop)
    (hY : ∀ pre s W, J pre W → pre.length < es.size → YieldAt Fence.wide (N - 1) Try.prog l #[.string s] W fun e W' =>
      (e = .returned (.bool true) ∧ J (pre ++ [s]) W' ∧ KeepsWalks W W') ∨ (e = .returned (.bool false) ∧ Jx (pre ++ [s]) W'))
    (W : World) (hJ : AbidesFrom W.heap.size J) (hB : Boxed W x 61 (.map (some m))) (hm : W.heap[m]? = some (.map es clock)) (h0 : J [] W) :
    CallsIn Fence.wide N Try.prog 58 #[.func (.yield l) #[] #[], .pointer (some ⟨x, 0, none⟩)] W fun e W' => (∃ v, e = .returned v) ∧
      ((∃ ys : List ByteArray, ys.Perm (es.toList.map fun e => keyS e.key) ∧ J ys W') ∨ (∃ pre : List ByteArray, True ∧ Jx pre W')) := by
  have hc := hB.cell
  have hrng := run_range_map (P := Try.prog) W _ _ _ m es clock Try.underlying61 hm
  have hJ1 : J [] (W.alloc (.mapIter (some m) clock #[] clock)) := hJ _ _ _ none h0 (World.grownBy_alloc W _ none) (fun r e => by cases e)
  have hm1 : (W.alloc (.mapIter (some m) clock #[] clock)).heap[m]? = some (.map es clock) := (Below.heap_alloc _ _ _ (Array.getElem?_eq_some_iff.1 hm).1).trans hm
  have hi1 : (W.alloc (.mapIter (some m) clock #[] clock)).heap[W.heap.size]? = some (.mapIter (some m) clock #[] clock) := Go.heap_alloc_new _ _
  have hmW : m ≠ W.heap.size := by have := (Array.getElem?_eq_some_iff.1 hm).1; omega
  refine callsIn_of_wp Try.func58 rfl trivial ?_ rfl
  simp only [Try.ntmps58, List.size_toArray, List.length_cons, List.length_nil, Nat.reduceAdd, Nat.reduceSub, Array.replicate_succ, Array.replicate_zero, List.push_toArray, List.append_toArray, List.nil_append, List.cons_append]
  gi_wp2
  clear hrng hc hB
  generalize hW1 : W.alloc (.mapIter (some m) clock #[] clock) = W1 at *
  have hszW : W.heap.size ≤ W1.heap.size := by rw [← hW1]; simp
  clear hW1
  obtain ⟨r, hr⟩ : ∃ r, r = W.heap.size := ⟨_, rfl⟩
  rw [← hr] at hi1 hmW hJ ⊢
  have hmr : m ≠ r := hmW
  clear hmW hm h0 hr hszW
  gi_loopw [7] (fun _ wr => ∃ seen ys xs c0, wr.heap[r]? = some (.mapIter (some m) clock seen c0) ∧ clock ≤ c0 ∧ wr.heap[m]? = some (.map es clock) ∧ Came es seen ys xs ∧ J ys wr) (fun _ wr => wr.rangeLeft m r)
  case atStart => exact ⟨#[], [], [], clock, hi1, Nat.le_refl _, hm1, ⟨rfl, rfl, by simp, by simp⟩, hJ1⟩
  case round =>
    obtain ⟨seen, ys, xs, c0, hi, hcc, hmm, hcame, hJw⟩ := hrel
    rcases run_next_at (P := Try.prog) wr 0 r m clock c0 seen es clock hi hmm hbo.1 hcc with ⟨hz, hrun⟩ | ⟨e, he, w1, hal, hrun⟩
    · have hall := hcame.all hbo hz
      have HALL := Lib.hid hall
      have HJ := Lib.hid hJw
      clear hY hJ hJ1 hm1 hi1 hi hmm hcame hall hJw hz
      gi_wp2
      go_end0
      exact ⟨⟨_, rfl⟩, .inl ⟨ys, HALL.out, HJ.out⟩⟩
    · have hi1' : w1.heap[r]? = some (.mapIter (some m) clock seen c0) := by rcases hal with rfl | rfl <;> exact hi
      have hm1' : w1.heap[m]? = some (.map es clock) := by rcases hal with rfl | rfl <;> exact hmm
      have hset := MapKept.heap_set (o' := .mapIter (some m) clock (seen.push e.born) clock) hi1'
      have hm2 : (setBlock w1 r (.mapIter (some m) clock (seen.push e.born) clock)).heap[m]? = some (.map es clock) := (hset.2 m hmr).trans hm1'
      have hent := run_entry_at (P := Try.prog) _ r m clock seen es clock e hset.1 hm2 (mem_left he).1 hbo.2
      have hg : wr.grownBy (setBlock w1 r (.mapIter (some m) clock (seen.push e.born) clock)) (some r) := by
        rcases hal with rfl | rfl <;> exact ⟨rfl, rfl, rfl, by simp [setBlock], fun i _ hi => hset.2 i (fun e1 => hi (by rw [e1]))⟩
      have hJ2 := hJ _ _ _ (some r) hJw hg (fun k ek => by cases ek; exact ⟨Nat.le_refl _, _, hi, rfl⟩)
      have hstep := hcame.step he
      have hfew := hcame.few he
      have hlt := left_shrinks es seen e he
      rw [hstr e (mem_left he).1] at hrun hent
      generalize hs : keyS e.key = s at *
      have hi2 : (setBlock w1 r (.mapIter (some m) clock (seen.push e.born) clock)).heap[r]? = some (.mapIter (some m) clock (seen.push e.born) clock) := hset.1
      generalize setBlock w1 r (.mapIter (some m) clock (seen.push e.born) clock) = w2 at *
      obtain ⟨fn, tmps, assign, body, hy, hR⟩ := hY ys s w2 hJ2 hfew
      have HI2 := Lib.hid hi2
      have HM2 := Lib.hid hm2
      have HST := Lib.hid hstep
      have HLT := Lib.hid hlt
      have HI := Lib.hid hi
      have HMM := Lib.hid hmm
      clear hi2 hm2 hstep hlt hi hmm hY hJ hset hi1' hm1' hJ2 hg hcame hfew hJw hJ1 hm1 hi1 hs
      gi_wp2
      refine hR.mono ?_
      rintro e3 W3 (⟨rfl, hJ3, hk3⟩ | ⟨rfl, hJx3⟩)
      · have hi3 := hk3.same r _ HI2.out rfl
        have hm3 := hk3.same m _ HM2.out rfl
        have HI3 := Lib.hid hi3
        have HM3 := Lib.hid hm3
        clear hi3 hm3
        gi_wp2
        go_roundw
        case rel => exact ⟨seen.push e.born, ys ++ [s], xs ++ [e], clock, HI3.out, Nat.le_refl _, HM3.out, HST.out, hJ3⟩
        case measure =>
          unfold World.rangeLeft
          rw [HM3.out, HI3.out, HMM.out, HI.out]
          exact HLT.out
      · gi_wp2
        refine bodyPost_ret (results_none rfl _ _ _) rfl ?_
        exact ⟨⟨_, rfl⟩, .inr ⟨_, trivial, hJx3⟩⟩
end Go.Proofs.Ytcnkgenhbnafjaa
