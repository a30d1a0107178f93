/-
  Package tiles: the parts as long as a hash, one after the other: what the iterator hands to a loop. Conditions: those in each statement.
-/
import Derived.RangeFuncNested
import Derived.RangeFuncBound
import Derived.RangeFuncCalls
import Derived.RangeFuncLeaves
import Derived.Shelf.Abstract
import Derived.Shelf.RegionOpen
import Derived.WalkKit
import Derived.OwnWalkIn
import Derived.TacticsInMore
import Derived.LoopNIn
import Derived.LoopIn
import Derived.Test.YtfidajbenmgflaaDoorTiS
import Derived.Test.YtfidajbenmgflaaDoorRgI
namespace Go.Proofs.YtfidajbenmgflaaDoor
open Go.RowKit Go.Shelf
attribute [local go_sem] Oper.semAt_some

/-- the number of a part -/
abbrev Chunk (n : Nat) := { k : Nat // 32 * k < n }
/-- what the loop is handed of a part -/
def partV (b off n cap : Nat) (x : Chunk n) : Array Value := #[.slice (some ⟨b, off + 32 * x.1, none⟩) (min 32 (n - 32 * x.1)) (cap - 32 * x.1)]
/-- a round keeps the box -/
def KeptBox (x : Nat) (W W' : World) : Prop := W'.heap[x]? = W.heap[x]?

theorem parts_any (a : Option Addr) (n cap : Nat) (w : World) :
    Calls Tryd.prog 27 #[.slice a n cap] w fun e w' => e = .returned (.func (.func 37) #[] #[.pointer (some ⟨w.heap.size, 0, none⟩)]) ∧ w' = w.alloc (.cells #[.slice a n cap] 38) := by
  go_enter Tryd.func27, Tryd.ntmps27
  go_wp2
  go_ret
  exact ⟨rfl, rfl⟩

set_option maxRecDepth 100000 in
set_option maxHeartbeats 2000000 in
theorem parts1_in (N : Nat) (hN : 1 ≤ N) (l x b off n cap : Nat) (a : Option Addr) (ha : 0 < n → a = some ⟨b, off, none⟩) (hcap : n ≤ cap) (hbig : n ≤ 281474976710656) (J Jx : List (Chunk n) → World → Prop)
    (hY : ∀ pre c W, J pre W → pre.length < (n + 31) / 32 → YieldAt Fence.wide (N - 1) Tryd.prog l (partV b off n cap c) W fun e W' =>
      (e = .returned (.bool true) ∧ J (pre ++ [c]) W' ∧ KeptBox x W W') ∨ (e = .returned (.bool false) ∧ Jx (pre ++ [c]) W'))
    (W : World) (hB : Boxed W x 38 (.slice a n cap)) (h0 : J [] W) :
    CallsIn Fence.wide N Tryd.prog 37 #[.func (.yield l) #[] #[], .pointer (some ⟨x, 0, none⟩)] W fun e W' => (∃ v, e = .returned v) ∧
      ((∃ ys : List (Chunk n), ys.map (·.1) = List.range ((n + 31) / 32) ∧ J ys W') ∨ (∃ pre : List (Chunk n), pre.map (·.1) = List.range pre.length ∧ Jx pre W')) := by
  refine callsIn_of_wp Tryd.func37 rfl trivial ?_ rfl
  simp only [Tryd.ntmps37, List.size_toArray, List.length_cons, List.length_nil, Nat.reduceAdd, Nat.reduceSub, Array.replicate_succ, Array.replicate_zero, List.push_toArray, List.append_toArray, List.nil_append, List.cons_append]
  gi_wp2
  gi_loopw [3] (fun i wr => ∃ ys : List (Chunk n), i = .int .i64 ((32 * ys.length : Nat) : Int) ∧ ys.map (·.1) = List.range ys.length ∧ ys.length ≤ (n + 31) / 32 ∧ J ys wr ∧ Boxed wr x 38 (.slice a n cap)) (fun i _ => n + 32 - (intOf i).toNat)
  case atStart => exact ⟨[], rfl, rfl, Nat.zero_le _, h0, hB⟩
  case round =>
    obtain ⟨ys, rfl, hys, hlen, hJ, hbx⟩ := hrel
    have hcell := hbx.cell
    obtain ⟨k, hk⟩ : ∃ k, k = ys.length := ⟨_, rfl⟩
    rw [← hk] at hys hlen ⊢
    obtain ⟨q, hq⟩ : ∃ q, q = 32 * k := ⟨_, rfl⟩
    rw [← hq]
    by_cases hlt : q < n
    · have hc : (q : Int) < (n : Int) := by omega
      have hqc : q < cap := by omega
      obtain ⟨ch, hch⟩ : ∃ ch : Chunk n, ch.1 = k := ⟨⟨k, by omega⟩, rfl⟩
      obtain ⟨fn, tmps, assign, body, hy, hR⟩ := hY ys ch wr hJ (by omega)
      dsimp only [partV] at hy
      rw [hch, ← hq] at hy
      obtain ⟨m, hm⟩ : ∃ m, m = min 32 (n - q) := ⟨_, rfl⟩
      rw [← hm] at hy
      have em : min ((q : Int) + 32) (n : Int) = ((q + m : Nat) : Int) := by omega
      have hqm : q + m ≤ n := by omega
      obtain rfl := ha (by omega)
      have HQ := Lib.hid hq
      have HM := Lib.hid hm
      have HK := Lib.hid hk
      have HYS := Lib.hid hys
      have HB := Lib.hid hbx
      have HCH := Lib.hid hch
      clear hq hm hk hys hbx ha hY hB hch
      gi_wp2
      refine hR.mono ?_
      rintro e W3 (⟨rfl, hJ3, hk3⟩ | ⟨rfl, hJx3⟩)
      · gi_wp2
        go_roundw
        case rel =>
          refine ⟨ys ++ [ch], ?_, ?_, ?_, hJ3, hk3.trans HB.out⟩
          · have := HK.out
            have := HQ.out
            rw [List.length_append, List.length_singleton, ← HK.out, HQ.out]
            show Value.int _ _ = Value.int _ _
            congr 1
          · rw [List.map_append, HYS.out, List.length_append, List.length_singleton, ← HK.out, List.range_succ]
            simp [HCH.out]
          · have := HQ.out
            have := HK.out
            rw [List.length_append, List.length_singleton]
            omega
        case measure => simp [intOf]; omega
      · gi_wp2
        refine bodyPost_ret (results_none rfl _ _ _) rfl ?_
        refine ⟨⟨_, rfl⟩, .inr ⟨ys ++ [ch], ?_, hJx3⟩⟩
        rw [List.map_append, HYS.out, List.length_append, List.length_singleton, ← HK.out, List.range_succ]
        simp [HCH.out]
    · have hc : ¬ (q : Int) < (n : Int) := by omega
      have hkn : k = (n + 31) / 32 := by omega
      rw [hkn] at hys
      clear hq hk hkn
      gi_wp2
      go_end0
      exact ⟨⟨_, rfl⟩, .inl ⟨ys, hys, hJ⟩⟩

/-- what parts tells stops as it should -/
theorem parts_stops (N : Nat) (hN : 1 ≤ N) (x b off n cap : Nat) (a : Option Addr) (ha : 0 < n → a = some ⟨b, off, none⟩) (hcap : n ≤ cap) (hbig : n ≤ 281474976710656) (w : World) (hB : Boxed w x 38 (.slice a n cap)) :
    SeqStopsK Fence.wide N Tryd.prog 37 #[.pointer (some ⟨x, 0, none⟩)] (partV b off n cap) (KeptBox x) (fun ys => ys.map (·.1) = List.range ((n + 31) / 32)) (fun pre => pre.map (·.1) = List.range pre.length) ((n + 31) / 32) w := fun l J Jx W hW _ _ hY h0 =>
  parts1_in N hN l x b off n cap a ha hcap hbig J Jx hY W ((hW.block x hB.lt).trans hB) h0
end Go.Proofs.YtfidajbenmgflaaDoor
