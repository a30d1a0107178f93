/-
  Layer 4: the document's reader: strings, plainly. Conditions: those in each statement.
-/
import Derived.Test.YtbondnljoalajaaDoorRdS
import Derived.Test.YtbondnljoalajaaDoorRdT
import Derived.Test.YtbondnljoalajaaDoorRdU
import Derived.Test.YtbondnljoalajaaDoorRdW
import Derived.Test.YtbondnljoalajaaDoorJyG
import Derived.Test.YtbondnljoalajaaDoorJyD
namespace Go.Proofs.YtbondnljoalajaaDoor
open Go.RowKit

/-- what is so behind a string -/
def StrP (R : Nat) (bs : List UInt8) (a : Option Addr) (c k : Nat) (w : World) (e : Ending) (w' : World) : Prop :=
  w.grownBy w' (some R) ∧ ∃ s k' bad', e = .returned (.string (bstr s)) ∧ k ≤ k' ∧ RefAt w' R bs a c k' bad' ∧ s.length ≤ 5000000 ∧ (∀ s0 r, stringF (bs.drop k) = some (s0, r) → s = s0 ∧ bad' = false ∧ bs.drop k' = r) ∧ (stringF (bs.drop k) = none → bad' = true)
/-- what is behind the first sign, UTF-8 or not -/
def strR (b : List UInt8) : Option (List UInt8 × List UInt8) := match mustF [34] b with | none => none | some r => strF (r.length + 1) r
theorem string_of (b : List UInt8) : stringF b = match strR b with | none => none | some (s, q) => if utf8F s then some (s, q) else none := by
  unfold stringF strR
  cases mustF [34] b <;> rfl
theorem string_bad {b : List UInt8} (h : strR b = none) : stringF b = none := by rw [string_of, h]
theorem string_no {b acc r : List UInt8} (h : strR b = some (acc, r)) (hu : utf8F acc = false) : stringF b = none := by rw [string_of, h]; simp [hu]
theorem string_ok {b acc r : List UInt8} (h : strR b = some (acc, r)) (hu : utf8F acc = true) : stringF b = some (acc, r) := by rw [string_of, h]; simp [hu]
theorem own_conv {W : World} {B : Nat} {va : Option Addr} {n vc : Nat} {acc : List UInt8} (h : Own W B 5 (.slice va n vc) acc) : (convert 32 9 (.slice va n vc)).run Tryd.prog W = .ok (.string (bstr acc)) W := run_bstr bt Tryd.underlying9 h.rd.toRd
theorem own_past {w w' : World} {B R : Nat} {v : Value} {xs : List UInt8} (h : Own w B 5 v xs) (hg : w.grownBy w' (some R)) (hR : R < B) : Own w' B 5 v xs := by
  refine World.ownsRow.kept h hg ?_
  by_cases hv : v.ownBlock = none
  · exact .inl hv
  · right
    intro e
    have := (World.ownsRow.lt h R e).1
    omega
theorem gb_belowR {w w2 w5 : World} {R : Nat} (h : w.grownBy w2 (some R)) (hb : Below w.heap.size w2 w5) : w.grownBy w5 (some R) :=
  ⟨hb.os.trans h.os, hb.tape.trans h.tape, hb.output.trans h.output, Nat.le_trans h.size hb.size, fun i hi hr => (hb.block i hi).trans (h.block i hi hr)⟩
theorem RefAt.below {w w' : World} {R B : Nat} {bs : List UInt8} {a : Option Addr} {c k : Nat} {bad : Bool} (h : RefAt w R bs a c k bad) (hb : Below B w w') (hR : R < B) : RefAt w' R bs a c k bad := by
  refine ⟨h.arr.to hb hR, ⟨h.text.le, h.text.big, fun h0 => ?_⟩, h.at_⟩
  obtain ⟨b, off, e, k1, k2, k3⟩ := h.text.mem h0
  exact ⟨b, off, e, k1, Nat.lt_of_lt_of_le k2 hb.size, fun j hj => (hb.cell (p := ⟨b, off + j, none⟩) (show b < B by omega)).trans (k3 j hj)⟩
theorem esc_kinds (y : UInt8) : y = 34 ∨ y = 92 ∨ y = 47 ∨ y = 98 ∨ y = 102 ∨ y = 110 ∨ y = 114 ∨ y = 116 ∨ y = 117 ∨ (y ≠ 34 ∧ y ≠ 92 ∧ y ≠ 47 ∧ y ≠ 98 ∧ y ≠ 102 ∧ y ≠ 110 ∧ y ≠ 114 ∧ y ≠ 116 ∧ y ≠ 117) := by
  by_cases h1 : y = 34
  · exact .inl h1
  by_cases h2 : y = 92
  · exact .inr (.inl h2)
  by_cases h3 : y = 47
  · exact .inr (.inr (.inl h3))
  by_cases h4 : y = 98
  · exact .inr (.inr (.inr (.inl h4)))
  by_cases h5 : y = 102
  · exact .inr (.inr (.inr (.inr (.inl h5))))
  by_cases h6 : y = 110
  · exact .inr (.inr (.inr (.inr (.inr (.inl h6)))))
  by_cases h7 : y = 114
  · exact .inr (.inr (.inr (.inr (.inr (.inr (.inl h7))))))
  by_cases h8 : y = 116
  · exact .inr (.inr (.inr (.inr (.inr (.inr (.inr (.inl h8)))))))
  by_cases h9 : y = 117
  · exact .inr (.inr (.inr (.inr (.inr (.inr (.inr (.inr (.inl h9))))))))
  exact .inr (.inr (.inr (.inr (.inr (.inr (.inr (.inr (.inr ⟨h1, h2, h3, h4, h5, h6, h7, h8, h9⟩))))))))
section
variable {P : Program} {ops : Array Oper} {rest : List Oper} {o : Oper} {a : Act} {Q : Exit → Act → World → Prop} {w : World}
theorem wl_append_str (hgd : o.guard = none) (d s : Operand) (ho : o.op = .call { callee := .builtin .append, args := #[d, s], argTypes := #[32, 9] })
    (B : Nat) (v : Value) (ys : List UInt8) (hown : Own w B 5 v ys) (hd : a.eval d = v) (xs : List UInt8)
    (hs : a.eval s = .string (bstr xs)) (hb : ys.length + xs.length ≤ 140737488355328) (hB : B ≤ w.heap.size)
    (hK : ∀ v' w', Own w' B 5 v' (ys ++ xs) → Below B w w' → wpList Tryd.prog ops Q rest (a.put o.dst v') w') : wpList Tryd.prog ops Q (o :: rest) a w :=
  wpList_step fun _ hK' => step_append_s bt Tryd.underlying9 hgd d s ho B v ys hown hd xs hs hb hB fun v' w' h1 h2 => hK' _ _ (hK v' w' h1 h2.1)
end
/-- when the loop is left -/
structure StrE (bs : List UInt8) (a : Option Addr) (c k R : Nat) (w : World) (acc : List UInt8) (q : Nat) (bad : Bool) (v : Value) (wr : World) : Prop where
  own : Own wr w.heap.size 5 v acc
  ref : RefAt wr R bs a c q bad
  gb : w.grownBy wr (some R)
  le : k ≤ q
  len : acc.length ≤ 5000000
  res : (bad = true ∧ strR (bs.drop k) = none) ∨ (bad = false ∧ strR (bs.drop k) = some (acc, bs.drop q))
theorem StrE.fin {bs : List UInt8} {a : Option Addr} {c k R : Nat} {w : World} {acc : List UInt8} {q : Nat} {bad : Bool} {v : Value} {wr : World} (h : StrE bs a c k R w acc q bad v wr) (hu : utf8F acc = true) : StrP R bs a c k w (.returned (.string (bstr acc))) wr := by
  refine ⟨h.gb, acc, q, bad, rfl, h.le, h.ref, h.len, fun s0 r hs => ?_, fun hn => ?_⟩
  · rcases h.res with ⟨_, h2⟩ | ⟨h1, h2⟩
    · rw [string_bad h2] at hs; cases hs
    · rw [string_ok h2 hu] at hs; cases hs; exact ⟨rfl, h1, rfl⟩
  · rcases h.res with ⟨h1, _⟩ | ⟨h1, h2⟩
    · exact h1
    · rw [string_ok h2 hu] at hn; cases hn
theorem StrE.fail {bs : List UInt8} {a : Option Addr} {c k R : Nat} {w : World} {acc : List UInt8} {q : Nat} {bad : Bool} {v : Value} {wr : World} (h : StrE bs a c k R w acc q bad v wr) (hu : utf8F acc = false) : StrP R bs a c k w (.returned (.string (bstr acc))) (wr.setCell ⟨R, 2, none⟩ (.bool true)) := by
  have hn : stringF (bs.drop k) = none := by
    rcases h.res with ⟨_, h2⟩ | ⟨h1, h2⟩
    · exact string_bad h2
    · exact string_no h2 hu
  exact ⟨gb_trans h.gb (gb_cellAt _ _ _ _), acc, q, true, rfl, h.le, h.ref.bad true, h.len, (fun s0 r hs => by rw [hn] at hs; cases hs), fun _ => rfl⟩
/-- while a string is read -/
structure StrAt (bs : List UInt8) (a : Option Addr) (c k R : Nat) (w : World) (acc : List UInt8) (q : Nat) (bad : Bool) (v : Value) (wr : World) : Prop where
  own : Own wr w.heap.size 5 v acc
  ref : RefAt wr R bs a c q bad
  gb : w.grownBy wr (some R)
  le : k ≤ q
  len : acc.length ≤ 4 * q
  res : (bad = false ∧ ∃ f, bs.length - q < f ∧ strR (bs.drop k) = aheadF acc (strF f (bs.drop q))) ∨ (bad = true ∧ strR (bs.drop k) = none)

end Go.Proofs.YtbondnljoalajaaDoor
