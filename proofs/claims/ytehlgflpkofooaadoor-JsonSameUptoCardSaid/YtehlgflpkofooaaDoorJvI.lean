/-
  The program's reader: what begins, numbers. Conditions: those in each statement.
-/
import Derived.Test.YtehlgflpkofooaaDoorJvH
namespace Go.Proofs.YtehlgflpkofooaaDoor
open Go.RowKit

/-- five cells of a value that has no others in it -/
def flatC (k : Int) (s : List UInt8) (n : Nat) : List Value := [.int .i64 k, .string (bstr s), .int .u64 (n : Int), .slice none 0 0, .slice none 0 0]
/-- what begins: its kind, 0 where none does -/
def openF (xs : List UInt8) : Nat × List UInt8 := if (takeF 91 xs).1 then (5, (takeF 91 xs).2) else if (takeF 123 (takeF 91 xs).2).1 then (6, (takeF 123 (takeF 91 xs).2).2) else (0, (takeF 123 (takeF 91 xs).2).2)

theorem gb_new_row {w w2 w3 : World} {R : Nat} {x : Obj} (h2 : (w.alloc x).grownBy w2 (some R)) (h3 : w2.grownBy w3 (some w.heap.size)) : w.grownBy w3 (some R) := by
  have hb : Below w.heap.size w (w.alloc x) := (Below.refl w.heap.size w).alloc (Nat.le_refl _) x
  have h1 := gb hb (some R)
  have h2' := gb_trans h1 h2
  exact ⟨h3.os.trans h2'.os, h3.tape.trans h2'.tape, h3.output.trans h2'.output, Nat.le_trans h2'.size h3.size, fun i hi hr => (h3.block i (Nat.lt_of_lt_of_le hi h2'.size) (by intro e; cases e; omega)).trans (h2'.block i hi hr)⟩
theorem flat_store (old : List Value) (ho : old.length = 5) (k : Int) (s : List UInt8) (n : Nat) : old.take 0 ++ flatC k s n ++ old.drop (0 + (flatC k s n).length) = flatC k s n := whole_store _ _ (by rw [ho]; rfl)

set_option maxRecDepth 100000 in
set_option maxHeartbeats 3200000 in
theorem opening_any (R : Nat) (xs : List UInt8) (w : World) (h : RdAt w R xs) :
    Calls Tryd.prog 47 #[.pointer (some ⟨R, 0, none⟩)] w fun e w' => e = .returned (.tuple #[.agg (flatC (openF xs).1 [] 0).toArray, .bool ((openF xs).1 != 0)]) ∧ RdAt w' R (openF xs).2 ∧ w.grownBy w' (some R) := by
  have hRw := h.lt
  have h0 := h.kept (gb ((Below.refl w.heap.size w).alloc (Nat.le_refl _) (.cells #[.int .i64 0, .string ⟨#[]⟩, .int .u64 0, .slice none 0 0, .slice none 0 0] 30)) none) (by simp)
  have ht1 := Lib.hid (take_any R 91 xs _ h0)
  have ht2 := Lib.hid (fun ys => take_any R 123 ys)
  have hR0 := Arr.new w 30 [.int .i64 0, .string ⟨#[]⟩, .int .u64 0, .slice none 0 0, .slice none 0 0]
  generalize he1 : takeF 91 xs = p1 at ht1
  obtain ⟨b1, y1⟩ := p1
  cases b1 with
  | true =>
    have hF : openF xs = (5, y1) := by unfold openF; rw [he1]; rfl
    rw [hF]
    clear he1 hF h h0
    go_enter Tryd.func47, Tryd.ntmps47
    go_wp2_with (first
      | (go_at_call 49; refine ht1.out.mono ?_; rintro e w2 ⟨rfl, hr2, hg2⟩; have hR2 := hR0.grown hg2 (by intro e; cases e; omega))
      | ((with_reducible show wpList _ _ _ (⟨none, _, _, _, _, _⟩ :: _) _ _); refine wl_store rfl 30 _ _ rfl w.heap.size 0 rfl (flatC 5 [] 0) rfl 30 _ hR2 (by kernel_rfl) (by simp [flatC]) (by simp [flatC, Value.oneCell']) ?_; intro w3 hR3 hg3 hs3))
    rw [flat_store _ rfl] at hR3
    exact end_cell2 rfl w.heap.size 30 _ _ _ rfl hR3 Tryd.underlying30 rfl (by kernel_rfl) rfl rfl ⟨rfl, hr2.kept hg3 (by intro k hk; cases hk; exact hRw), gb_new_row hg2 hg3⟩
  | false =>
    generalize he2 : takeF 123 y1 = p2
    obtain ⟨b2, y2⟩ := p2
    cases b2 with
    | true =>
      have hF : openF xs = (6, y2) := by unfold openF; rw [he1]; simp [he2]
      rw [hF]
      have HE2 := Lib.hid he2
      clear he1 hF h h0 he2
      go_enter Tryd.func47, Tryd.ntmps47
      go_wp2_with (first
        | (go_at_call 49; refine ht1.out.mono ?_; rintro e w2 ⟨rfl, hr2, hg2⟩; have hT2 := Lib.hid (ht2.out _ _ hr2); rw [HE2.out] at hT2; have HR2 := Lib.hid (hR0.grown hg2 (by intro e; cases e; omega)); have HG2 := Lib.hid hg2; clear ht1 hR0)
        | (go_at_call 49; refine hT2.out.mono ?_; rintro e w3 ⟨rfl, hr3, hg3⟩; have hR3 := HR2.out.grown hg3 (by intro e; cases e; omega))
        | ((with_reducible show wpList _ _ _ (⟨none, _, _, _, _, _⟩ :: _) _ _); refine wl_store rfl 30 _ _ rfl w.heap.size 0 rfl (flatC 6 [] 0) rfl 30 _ hR3 (by kernel_rfl) (by simp [flatC]) (by simp [flatC, Value.oneCell']) ?_; intro w4 hR4 hg4 hs4))
      rw [flat_store _ rfl] at hR4
      exact end_cell2 rfl w.heap.size 30 _ _ _ rfl hR4 Tryd.underlying30 rfl (by kernel_rfl) rfl rfl ⟨rfl, hr3.kept hg4 (by intro k hk; cases hk; exact hRw), gb_new_row (gb_trans HG2.out hg3) hg4⟩
    | false =>
      have hF : openF xs = (0, y2) := by unfold openF; rw [he1]; simp [he2]
      rw [hF]
      have HE2 := Lib.hid he2
      clear he1 hF h h0 he2
      go_enter Tryd.func47, Tryd.ntmps47
      go_wp2_with (first
        | (go_at_call 49; refine ht1.out.mono ?_; rintro e w2 ⟨rfl, hr2, hg2⟩; have hT2 := Lib.hid (ht2.out _ _ hr2); rw [HE2.out] at hT2; have HR2 := Lib.hid (hR0.grown hg2 (by intro e; cases e; omega)); have HG2 := Lib.hid hg2; clear ht1 hR0)
        | (go_at_call 49; refine hT2.out.mono ?_; rintro e w3 ⟨rfl, hr3, hg3⟩; have hR3 := HR2.out.grown hg3 (by intro e; cases e; omega))
        | ((with_reducible show wpList _ _ _ (⟨none, _, _, _, _, _⟩ :: _) _ _); refine wl_store rfl 30 _ _ rfl w.heap.size 0 rfl (flatC 0 [] 0) rfl 30 _ hR3 (by kernel_rfl) (by simp [flatC]) (by simp [flatC, Value.oneCell']) ?_; intro w4 hR4 hg4 hs4))
      rw [flat_store _ rfl] at hR4
      exact end_cell2 rfl w.heap.size 30 _ _ _ rfl hR4 Tryd.underlying30 rfl (by kernel_rfl) rfl rfl ⟨rfl, hr3.kept hg4 (by intro k hk; cases hk; exact hRw), gb_new_row (gb_trans HG2.out hg3) hg4⟩
end Go.Proofs.YtehlgflpkofooaaDoor
