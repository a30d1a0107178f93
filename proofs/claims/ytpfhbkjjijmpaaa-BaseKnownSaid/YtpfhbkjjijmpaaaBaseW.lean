/-
  A strings.Builder that has room, written. Conditions: those in each statement.
-/
import Derived.Test.YtpfhbkjjijmpaaaBaseL
import Derived.Test.YtpfhbkjjijmpaaaBaseB
import Derived.OwnWalk
import Derived.Lib.Builder
namespace Go.Proofs.Ytpfhbkjjijmpaaa
open Go.RowKit

theorem cc_used (b : Nat) (v : Value) (w : World) (hb : w.heap[b]? = some (.cells #[.pointer (some ⟨b, 0, none⟩), v] 46 (0, 0))) :
    Calls Try.prog 24 #[.pointer (some ⟨b, 0, none⟩)] w fun e w' => e = .returned (.tuple #[]) ∧ w' = w := by
  have c0 : w.cell? ⟨b, 0, none⟩ = some (.pointer (some ⟨b, 0, none⟩)) := by rw [Lib.cell_of_heap hb]; rfl
  have hne : ∀ W, (binOp .neq 44 (.pointer (some ⟨b, 0, none⟩)) (.pointer (some ⟨b, 0, none⟩))).run Try.prog W = .ok (.bool false) W := fun W => by
    obtain ⟨j, hj⟩ : ∃ j, Try.prog.info? 46 = some j := Option.isSome_iff_exists.1 (by kernel_rfl)
    exact Lib.run_neq_ptr_same W _ Try.underlying44 hj
  go_enter Try.func24, Try.ntmps24
  go_wp2
  go_end0
  exact ⟨rfl, rfl⟩

/-- block b is a builder that was used, whose buffer, in block g, has room for cap bytes and holds ys -/
structure Bu (w : World) (b g cap : Nat) (ys : List UInt8) : Prop where
  blk : w.heap[b]? = some (.cells #[.pointer (some ⟨b, 0, none⟩), .slice (some ⟨g, 0, none⟩) ys.length cap] 46 (0, 0))
  own : Own w b 5 (.slice (some ⟨g, 0, none⟩) ys.length cap) ys
  ne : g ≠ b

theorem Write_any (b g cap : Nat) (ys p : List UInt8) (ad : Addr) (n c : Nat) (w : World) (h : Bu w b g cap ys) (hr : Rd w (some ad) n c p) (hn : ys.length + n ≤ cap) :
    Calls Try.prog 19 #[.pointer (some ⟨b, 0, none⟩), .slice (some ad) n c] w fun e w' => e = .returned (.tuple #[.int .i64 n, .nilIface]) ∧ Bu w' b g cap (ys ++ p) ∧ ∃ w1, w.grownBy w1 (some g) ∧ w1.grownBy w' (some b) := by
  obtain ⟨i0, hi, hz0, hz1, hz2⟩ := info_parts bt.info
  have hb := h.blk
  have ho := h.own
  have hne := h.ne
  have c0 : w.cell? ⟨b, 0, none⟩ = some (.pointer (some ⟨b, 0, none⟩)) := by rw [Lib.cell_of_heap hb]; rfl
  have c1 : w.cell? ⟨b, 1, none⟩ = some (.slice (some ⟨g, 0, none⟩) ys.length cap) := by rw [Lib.cell_of_heap hb]; rfl
  have hbl : b < w.heap.size := lt_of_block hb
  go_enter Try.func19, Try.ntmps19
  go_wp2_with (first
    | (go_at_call 24; refine (cc_used b _ _ hb).mono ?_; rintro e w1 ⟨rfl, hw⟩; obtain rfl := hw.symm)
    | (at_builtin; refine wpList_append_fits _ rfl (.tmp 12) (.tmp 13) 22 rfl b 5 i0 1 Try.underlying22 hi hz1 g ys.length cap (ys.map bv) rfl ho ad n c (p.map bv) rfl (by simp [hr.len]) hr.cells bv_oneCell hn ?_; intro w1 ho1 hg1; have HB1 : Hid (w1.heap[b]? = some (.cells #[.pointer (some ⟨b, 0, none⟩), .slice (some ⟨g, 0, none⟩) ys.length cap] 46 (0, 0))) := ((hg1.block b hbl (by intro e; injection e with e; omega)).trans hb); have d1 : w1.cell? ⟨b, 1, none⟩ = some (.slice (some ⟨g, 0, none⟩) ys.length cap) := (by rw [Lib.cell_of_heap HB1.out]; rfl); have f1 : w1.frozen? ⟨b, 1, none⟩ = false := Lib.frozen_of_heap HB1.out 1; clear hb c0 c1))
  go_ret2
  have hl : (ys ++ p).length = ys.length + n := by rw [List.length_append, hr.len]
  have hgs : w1.grownBy (w1.setCell ⟨b, 1, none⟩ (.slice (some ⟨g, 0, none⟩) (ys.length + n) cap)) (some b) :=
    ⟨rfl, rfl, rfl, by simp, fun k _ hk => Below.heap_setCell _ _ _ k (fun e => hk (by rw [e]))⟩
  refine ⟨rfl, ⟨?_, ?_, hne⟩, w1, hg1, hgs⟩
  · rw [hl, heap_setCell_same w1 b 1 _ _ _ HB1.out]
    rfl
  · have ho2 : Own w1 b 5 (.slice (some ⟨g, 0, none⟩) (ys.length + n) cap) (ys ++ p) := by
      unfold Own
      rw [hl, List.map_append]
      exact ho1
    rw [hl]
    refine World.ownsRow.kept ho2 hgs (.inr ?_)
    intro e
    simp only [Value.ownBlock] at e
    injection e with e
    omega
end Go.Proofs.Ytpfhbkjjijmpaaa
