/-
  Worlds that are kept but for some blocks. Conditions: those in each statement.
-/
import Derived.Test.YtcnkgenhbnafjaaMap
namespace Go.Proofs.Ytcnkgenhbnafjaa
open Go.RowKit

/-- all of w is kept but for the blocks of S -/
structure KB (S : Nat → Prop) (w w' : World) : Prop where
  os : w'.os = w.os
  tape : w'.tape = w.tape
  output : w'.output = w.output
  size : w.heap.size ≤ w'.heap.size
  block : ∀ k, k < w.heap.size → ¬ S k → w'.heap[k]? = w.heap[k]?
theorem KB.refl (S : Nat → Prop) (w : World) : KB S w w := ⟨rfl, rfl, rfl, Nat.le_refl _, fun _ _ _ => rfl⟩
theorem KB.mono {S S' : Nat → Prop} {w w' : World} (h : KB S w w') (hs : ∀ k, S k → S' k) : KB S' w w' := ⟨h.os, h.tape, h.output, h.size, fun k hk hn => h.block k hk fun e => hn (hs k e)⟩
theorem KB.below {S : Nat → Prop} {w w' w'' : World} (h : KB S w w') (hb : Below w'.heap.size w' w'') : KB S w w'' :=
  ⟨hb.os.trans h.os, hb.tape.trans h.tape, hb.output.trans h.output, Nat.le_trans h.size hb.size, fun k hk hn => (hb.block k (Nat.lt_of_lt_of_le hk h.size)).trans (h.block k hk hn)⟩
theorem KB.grown {S : Nat → Prop} {w w' w'' : World} {g : Nat} (h : KB S w w') (hg : w'.grownBy w'' (some g)) (hs : S g) : KB S w w'' :=
  ⟨hg.os.trans h.os, hg.tape.trans h.tape, hg.output.trans h.output, Nat.le_trans h.size hg.size, fun k hk hn => (hg.block k (Nat.lt_of_lt_of_le hk h.size) (by intro e; injection e with e; rw [e] at hn; exact hn hs)).trans (h.block k hk hn)⟩
theorem KB.drew {S : Nat → Prop} {w w' : World} (h : KB S w w') : KB S w w'.drew := ⟨h.os, h.tape, h.output, h.size, h.block⟩
theorem KB.cell {S : Nat → Prop} {w w' : World} {p : Addr} (h : KB S w w') (hp : p.block < w.heap.size) (hs : ¬ S p.block) : w'.cell? p = w.cell? p := World.cell?_of_block (h.block p.block hp hs)
theorem KB.under {S : Nat → Prop} {w w' : World} {B : Nat} (h : KB S w w') (hs : ∀ k, S k → B ≤ k) (hB : B ≤ w.heap.size) : Below B w w' :=
  ⟨h.os, h.tape, h.output, h.size, fun k hk => h.block k (by omega) fun e => by have := hs k e; omega⟩
theorem KB.trans {S : Nat → Prop} {w w' w'' : World} (h : KB S w w') (k : KB S w' w'') : KB S w w'' :=
  ⟨k.os.trans h.os, k.tape.trans h.tape, k.output.trans h.output, Nat.le_trans h.size k.size, fun j hj hn => (k.block j (Nat.lt_of_lt_of_le hj h.size) hn).trans (h.block j hj hn)⟩
theorem KB.grownN {S : Nat → Prop} {w w' w'' : World} (h : KB S w w') (hg : w'.grownBy w'' none) : KB S w w'' :=
  ⟨hg.os.trans h.os, hg.tape.trans h.tape, hg.output.trans h.output, Nat.le_trans h.size hg.size, fun k hk hn => (hg.block k (Nat.lt_of_lt_of_le hk h.size) (by intro e; cases e)).trans (h.block k hk hn)⟩
theorem KB.fresh {S : Nat → Prop} {w w' w'' : World} {g : Nat} (h : KB S w w') (hg : w'.grownBy w'' (some g)) (hn : w.heap.size ≤ g) : KB S w w'' :=
  ⟨hg.os.trans h.os, hg.tape.trans h.tape, hg.output.trans h.output, Nat.le_trans h.size hg.size, fun k hk hz => (hg.block k (Nat.lt_of_lt_of_le hk h.size) (by intro e; injection e with e; omega)).trans (h.block k hk hz)⟩
theorem KB.low {S : Nat → Prop} {w a b : World} (h : KB S w a) (hb : Below w.heap.size a b) : KB S w b :=
  ⟨hb.os.trans h.os, hb.tape.trans h.tape, hb.output.trans h.output, Nat.le_trans h.size hb.size, fun k hk hn => (hb.block k hk).trans (h.block k hk hn)⟩
end Go.Proofs.Ytcnkgenhbnafjaa
