/-
  Layer 4: the document's reader: its small functions. Conditions: those in each statement.
-/
import Derived.Test.YtbondnljoalajaaDoorJyF
import Derived.Deep.CutBlock
import Derived.Deep.CutRange
import Derived.Deep.DeepCutAuto
namespace Go.Proofs.YtbondnljoalajaaDoor
open Go.RowKit

/-- the document's reader: its text, how much was read, whether it is none -/
structure RefAt (w : World) (R : Nat) (bs : List UInt8) (a : Option Addr) (c k : Nat) (bad : Bool) : Prop where
  arr : Arr w R 73 [.slice a bs.length c, .int .i64 (k : Int), .bool bad]
  text : TextAt w R a c bs
  at_ : k ≤ bs.length
theorem gb_drew {w w' : World} {r : Option Nat} (h : w.grownBy w' r) : w.grownBy w'.drew r := ⟨h.os, h.tape, h.output, h.size, h.block⟩
theorem gb_cellAt (w : World) (R o : Nat) (v : Value) : w.grownBy (w.setCell ⟨R, o, none⟩ v) (some R) := ⟨rfl, rfl, rfl, by rw [World.size_setCell]; exact Nat.le_refl _, fun i _ hr => Below.heap_setCell _ _ _ _ (fun e => hr (by rw [e]))⟩
theorem RefAt.drew {w : World} {R : Nat} {bs : List UInt8} {a : Option Addr} {c k : Nat} {bad : Bool} (h : RefAt w R bs a c k bad) : RefAt w.drew R bs a c k bad := ⟨h.arr.drew, h.text.kept (gb_drew (World.grownBy.refl w (some R))) (fun k hk => by cases hk; exact Nat.le_refl _), h.at_⟩
theorem RefAt.move {w : World} {R : Nat} {bs : List UInt8} {a : Option Addr} {c k : Nat} {bad : Bool} (h : RefAt w R bs a c k bad) (k' : Nat) (hk : k' ≤ bs.length) : RefAt (w.setCell ⟨R, 1, none⟩ (.int .i64 (k' : Int))) R bs a c k' bad :=
  ⟨h.arr.store 1 _, h.text.kept (gb_cellAt w R 1 _) (fun k hk => by cases hk; exact Nat.le_refl _), hk⟩
theorem RefAt.bad {w : World} {R : Nat} {bs : List UInt8} {a : Option Addr} {c k : Nat} {bad : Bool} (h : RefAt w R bs a c k bad) (b : Bool) : RefAt (w.setCell ⟨R, 2, none⟩ (.bool b)) R bs a c k b :=
  ⟨h.arr.store 2 _, h.text.kept (gb_cellAt w R 2 _) (fun k hk => by cases hk; exact Nat.le_refl _), h.at_⟩
theorem drop_cons {xs : List UInt8} {k : Nat} (h : k < xs.length) : xs.drop k = xs.getD k 0 :: xs.drop (k + 1) := by
  rw [List.drop_eq_getElem_cons h, List.getD, List.getElem?_eq_getElem h]
  rfl

set_option maxHeartbeats 1600000 in
theorem rIs_any (R : Nat) (s : UInt8) (bs : List UInt8) (a : Option Addr) (c k : Nat) (bad : Bool) (w : World) (h : RefAt w R bs a c k bad) :
    Calls Tryd.prog 55 #[.pointer (some ⟨R, 0, none⟩), .int .u8 (s.toNat : Int)] w fun e w' => w.grownBy w' (some R) ∧ ((e = .returned (.bool true) ∧ k < bs.length ∧ bs.getD k 0 = s ∧ RefAt w' R bs a c (k + 1) bad) ∨ (e = .returned (.bool false) ∧ (k < bs.length → bs.getD k 0 ≠ s) ∧ RefAt w' R bs a c k bad)) := by
  have HR := Lib.hid h
  have c0 := (h.arr.cell 0).trans (show _ = some (Value.slice a bs.length c) from rfl)
  have c1 := (h.arr.cell 1).trans (show _ = some (Value.int .i64 (k : Int)) from rfl)
  have hle := h.text.le
  have hbig := h.text.big
  have hat := h.at_
  have hk0 : (0 : Int) ≤ (k : Int) := by omega
  have hbl : bs.length ≤ 9223372036854775807 := by omega
  have hmem := Lib.hid h.text.mem
  clear h
  by_cases hlt : k < bs.length
  · have hc : (k : Int) < (bs.length : Int) := by omega
    obtain ⟨b, off, rfl, hbR, hbw, hcell⟩ := hmem.out (by omega)
    have ck := hcell k hlt
    have hkc : k < c := by omega
    obtain ⟨x, hx⟩ : ∃ x, x = bs.getD k 0 := ⟨_, rfl⟩
    rw [← hx] at ck ⊢
    clear hcell hmem
    generalize hN : bs.length = N at *
    have HN := Lib.hid hN
    have HLT := Lib.hid hlt
    clear hN hlt
    by_cases hxs : x = s
    · subst hxs
      have hxe : ((x.toNat : Int) == (x.toNat : Int)) = true := beq_self_eq_true _
      clear hx
      go_enter Tryd.func55, Tryd.ntmps55
      go_upto_region 1 with fail
      go_region
      all_goals
        have HD := Lib.hid HR.out.drew
        have f1 := HD.out.arr.frozen 1
        have d1 := (HD.out.arr.cell 1).trans (show _ = some (Value.int .i64 (k : Int)) from rfl)
        have hk1 : (k : Int) + 1 ≤ 9223372036854775807 := by omega
        clear c0 c1 ck
        go_wp2_with fail
        go_ret
        exact ⟨gb_drew (gb_cellAt _ _ _ _), .inl ⟨rfl, HLT.out, trivial, by have := (HR.out.move (k + 1) (by rw [HN.out]; exact HLT.out)).drew; simpa using this⟩⟩
    · have hxe : ((x.toNat : Int) == (s.toNat : Int)) = false := beq_eq_false_iff_ne.2 (fun e => hxs ((u8_eq x s).1 e))
      have HXS := Lib.hid hxs
      clear hx hxs
      go_enter Tryd.func55, Tryd.ntmps55
      go_upto_region 1 with fail
      go_region
      all_goals
        have HD := Lib.hid HR.out.drew
        clear c0 c1 ck
        go_wp2_with fail
        go_ret
        exact ⟨gb_drew (World.grownBy.refl w _), .inr ⟨rfl, fun _ => HXS.out, HD.out⟩⟩
  · have hc : ¬ (k : Int) < (bs.length : Int) := by omega
    have HLT := Lib.hid hlt
    clear hlt hmem
    go_enter Tryd.func55, Tryd.ntmps55
    go_upto_region 1 with fail
    go_region
    all_goals
      have HD := Lib.hid HR.out.drew
      clear c0 c1
      go_wp2_with fail
      go_ret
      exact ⟨gb_drew (World.grownBy.refl w _), .inr ⟨rfl, fun h => absurd h HLT.out, HD.out⟩⟩
end Go.Proofs.YtbondnljoalajaaDoor
