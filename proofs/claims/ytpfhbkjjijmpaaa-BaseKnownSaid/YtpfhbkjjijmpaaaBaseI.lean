/-
  The parts of three bytes, one after the other: what the program's iterator hands to a loop. Conditions: those in each statement.
-/
import Derived.RangeFuncNested
import Derived.RangeFuncBound
import Derived.RangeFuncCalls
import Derived.RangeFuncLeaves
import Derived.Shelf.Abstract
import Derived.Shelf.RegionOpen
import Derived.WalkKit
import Derived.OwnWalkIn
import Derived.TacticsInMore
import Derived.LoopNIn
import Derived.LoopIn
import Derived.Test.YtpfhbkjjijmpaaaBaseT
namespace Go.Proofs.Ytpfhbkjjijmpaaa
open Go.RowKit Go.Shelf
attribute [local go_sem] Oper.semAt_some

/-- the number of a part -/
abbrev Chunk (n : Nat) := { k : Nat // 3 * k < n }
/-- what the loop is handed of a part -/
def partV (b off n cap : Nat) (x : Chunk n) : Array Value := #[.slice (some ⟨b, off + 3 * x.1, none⟩) (min 3 (n - 3 * x.1)) (cap - 3 * x.1)]
/-- a round keeps the box -/
def KeptBox (x : Nat) (W W' : World) : Prop := W'.heap[x]? = W.heap[x]?

theorem parts_any (a : Option Addr) (n cap : Nat) (w : World) :
    Calls Try.prog 17 #[.slice a n cap] w fun e w' => e = .returned (.func (.func 26) #[] #[.pointer (some ⟨w.heap.size, 0, none⟩)]) ∧ w' = w.alloc (.cells #[.slice a n cap] 22) := by
  go_enter Try.func17, Try.ntmps17
  go_wp2
  go_ret
  exact ⟨rfl, rfl⟩

set_option maxRecDepth 100000 in
set_option maxHeartbeats 2000000 in
theorem parts1_in (N : Nat) (hN : 1 ≤ N) (l x b off n cap : Nat) (a : Option Addr) (ha : 0 < n → a = some ⟨b, off, none⟩) (hcap : n ≤ cap) (hbig : n ≤ 281474976710656) (J Jx : List (Chunk n) → World → Prop)
    (hY : ∀ pre c W, J pre W → pre.length < (n + 2) / 3 → YieldAt Fence.wide (N - 1) Try.prog l (partV b off n cap c) W fun e W' =>
      (e = .returned (.bool true) ∧ J (pre ++ [c]) W' ∧ KeptBox x W W') ∨ (e = .returned (.bool false) ∧ Jx (pre ++ [c]) W'))
    (W : World) (hB : Boxed W x 22 (.slice a n cap)) (h0 : J [] W) :
    CallsIn Fence.wide N Try.prog 26 #[.func (.yield l) #[] #[], .pointer (some ⟨x, 0, none⟩)] W fun e W' => (∃ v, e = .returned v) ∧
      ((∃ ys : List (Chunk n), ys.map (·.1) = List.range ((n + 2) / 3) ∧ J ys W') ∨ (∃ pre : List (Chunk n), True ∧ Jx pre W')) := by
  refine callsIn_of_wp Try.func26 rfl trivial ?_ rfl
  simp only [Try.ntmps26, List.size_toArray, List.length_cons, List.length_nil, Nat.reduceAdd, Nat.reduceSub, Array.replicate_succ, Array.replicate_zero, List.push_toArray, List.append_toArray, List.nil_append, List.cons_append]
  gi_wp2
  gi_loopw [3] (fun i wr => ∃ ys : List (Chunk n), i = .int .i64 ((3 * ys.length : Nat) : Int) ∧ ys.map (·.1) = List.range ys.length ∧ ys.length ≤ (n + 2) / 3 ∧ J ys wr ∧ Boxed wr x 22 (.slice a n cap)) (fun i _ => n + 3 - (intOf i).toNat)
  case atStart => exact ⟨[], rfl, rfl, Nat.zero_le _, h0, hB⟩
  case round =>
    obtain ⟨ys, rfl, hys, hlen, hJ, hbx⟩ := hrel
    have hcell := hbx.cell
    obtain ⟨k, hk⟩ : ∃ k, k = ys.length := ⟨_, rfl⟩
    rw [← hk] at hys hlen ⊢
    obtain ⟨q, hq⟩ : ∃ q, q = 3 * k := ⟨_, rfl⟩
    rw [← hq]
    by_cases hlt : q < n
    · have hc : (q : Int) < (n : Int) := by omega
      have hqc : q < cap := by omega
      obtain ⟨ch, hch⟩ : ∃ ch : Chunk n, ch.1 = k := ⟨⟨k, by omega⟩, rfl⟩
      obtain ⟨fn, tmps, assign, body, hy, hR⟩ := hY ys ch wr hJ (by omega)
      dsimp only [partV] at hy
      rw [hch, ← hq] at hy
      obtain ⟨m, hm⟩ : ∃ m, m = min 3 (n - q) := ⟨_, rfl⟩
      rw [← hm] at hy
      have em : min ((q : Int) + 3) (n : Int) = ((q + m : Nat) : Int) := by omega
      have hqm : q + m ≤ n := by omega
      obtain rfl := ha (by omega)
      have HQ := Lib.hid hq
      have HM := Lib.hid hm
      have HK := Lib.hid hk
      have HYS := Lib.hid hys
      have HB := Lib.hid hbx
      have HCH := Lib.hid hch
      clear hq hm hk hys hbx ha hY hB hch
      gi_wp2
      refine hR.mono ?_
      rintro e W3 (⟨rfl, hJ3, hk3⟩ | ⟨rfl, hJx3⟩)
      · gi_wp2
        go_roundw
        case rel =>
          refine ⟨ys ++ [ch], ?_, ?_, ?_, hJ3, hk3.trans HB.out⟩
          · have := HK.out
            have := HQ.out
            rw [List.length_append, List.length_singleton, ← HK.out, HQ.out]
            show Value.int _ _ = Value.int _ _
            congr 1
          · rw [List.map_append, HYS.out, List.length_append, List.length_singleton, ← HK.out, List.range_succ]
            simp [HCH.out]
          · have := HQ.out
            have := HK.out
            rw [List.length_append, List.length_singleton]
            omega
        case measure => simp [intOf]; omega
      · gi_wp2
        refine bodyPost_ret (results_none rfl _ _ _) rfl ?_
        exact ⟨⟨_, rfl⟩, .inr ⟨_, trivial, hJx3⟩⟩
    · have hc : ¬ (q : Int) < (n : Int) := by omega
      have hkn : k = (n + 2) / 3 := by omega
      rw [hkn] at hys
      clear hq hk hkn
      gi_wp2
      go_end0
      exact ⟨⟨_, rfl⟩, .inl ⟨ys, hys, hJ⟩⟩

/-- what parts tells stops as it should -/
theorem parts_stops (N : Nat) (hN : 1 ≤ N) (x b off n cap : Nat) (a : Option Addr) (ha : 0 < n → a = some ⟨b, off, none⟩) (hcap : n ≤ cap) (hbig : n ≤ 281474976710656) (w : World) (hB : Boxed w x 22 (.slice a n cap)) :
    SeqStopsK Fence.wide N Try.prog 26 #[.pointer (some ⟨x, 0, none⟩)] (partV b off n cap) (KeptBox x) (fun ys => ys.map (·.1) = List.range ((n + 2) / 3)) (fun _ => True) ((n + 2) / 3) w := fun l J Jx W hW _ _ hY h0 =>
  parts1_in N hN l x b off n cap a ha hcap hbig J Jx hY W ((hW.block x hB.lt).trans hB) h0
end Go.Proofs.Ytpfhbkjjijmpaaa
