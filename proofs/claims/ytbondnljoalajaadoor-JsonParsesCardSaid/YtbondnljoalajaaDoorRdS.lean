/-
  Layer 4: the document's reader: blanks. Conditions: those in each statement.
-/
import Derived.Test.YtbondnljoalajaaDoorRdR
namespace Go.Proofs.YtbondnljoalajaaDoor
open Go.RowKit

def notB (x : UInt8) : Prop := x ≠ 32 ∧ x ≠ 9 ∧ x ≠ 10 ∧ x ≠ 13
theorem blank_or (x : UInt8) : x = 32 ∨ x = 9 ∨ x = 10 ∨ x = 13 ∨ notB x := by
  by_cases h1 : x = 32
  · exact .inl h1
  · by_cases h2 : x = 9
    · exact .inr (.inl h2)
    · by_cases h3 : x = 10
      · exact .inr (.inr (.inl h3))
      · by_cases h4 : x = 13
        · exact .inr (.inr (.inr (.inl h4)))
        · exact .inr (.inr (.inr (.inr ⟨h1, h2, h3, h4⟩)))
theorem blank_no (x : UInt8) (r : List UInt8) (h : notB x) : blanksF (x :: r) = x :: r := by
  obtain ⟨h1, h2, h3, h4⟩ := h
  unfold blanksF isBlank
  simp [h1, h2, h3, h4]
theorem u8_ne (x : UInt8) (y : UInt8) (h : x ≠ y) : ((x.toNat : Int) == (y.toNat : Int)) = false := beq_eq_false_iff_ne.2 (fun e => h ((u8_eq x y).1 e))

set_option maxRecDepth 100000 in
set_option maxHeartbeats 3200000 in
theorem rBlanks_any (R : Nat) (bs : List UInt8) (a : Option Addr) (c k : Nat) (bad : Bool) (w : World) (h : RefAt w R bs a c k bad) :
    Calls Tryd.prog 31 #[.pointer (some ⟨R, 0, none⟩)] w fun e w' => e = .returned (.tuple #[]) ∧ w.grownBy w' (some R) ∧ ∃ k', k ≤ k' ∧ RefAt w' R bs a c k' bad ∧ bs.drop k' = blanksF (bs.drop k) := by
  have hle := h.text.le
  have hbig := h.text.big
  have hbl : bs.length ≤ 9223372036854775807 := by omega
  have HLE := Lib.hid hle
  clear hle hbig
  go_enter Tryd.func31, Tryd.ntmps31
  go_wp2_with fail
  go_loopw [] (fun wr => ∃ q : Nat, k ≤ q ∧ RefAt wr R bs a c q bad ∧ w.grownBy wr (some R) ∧ Hid (blanksF (bs.drop q) = blanksF (bs.drop k))) (fun wr => bs.length - (intOf ((wr.cell? ⟨R, 1, none⟩).getD undef)).toNat)
  case atStart => exact ⟨k, Nat.le_refl _, h, World.grownBy.refl w _, rfl⟩
  case round =>
    clear h
    obtain ⟨q, hkq, hR, hg, HE⟩ := hrel
    have HR := Lib.hid hR
    have HG := Lib.hid hg
    have HKQ := Lib.hid hkq
    have c0 := (hR.arr.cell 0).trans (show _ = some (Value.slice a bs.length c) from rfl)
    have c1 := (hR.arr.cell 1).trans (show _ = some (Value.int .i64 (q : Int)) from rfl)
    have hat := hR.at_
    have hq0 : (0 : Int) ≤ (q : Int) := by omega
    have hmem := Lib.hid hR.text.mem
    clear hR hg hkq
    by_cases hlt : q < bs.length
    · have hc : (q : Int) < (bs.length : Int) := by omega
      obtain ⟨b, off, rfl, hbR, hbw, hcell⟩ := hmem.out (by omega)
      have ck := hcell q hlt
      have hkc : q < c := by have := HLE.out; omega
      have hdr := drop_cons hlt
      obtain ⟨x, hx⟩ : ∃ x, x = bs.getD q 0 := ⟨_, rfl⟩
      rw [← hx] at ck hdr
      have HDR := Lib.hid hdr
      clear hcell hmem hdr hx
      generalize hN : bs.length = N at *
      have HN := Lib.hid hN
      have HLT := Lib.hid hlt
      clear hN hlt
      have hxs := blank_or x
      rcases hxs with rfl | rfl | rfl | rfl | hxs
      · have hE2 : Hid (blanksF (bs.drop (q + 1)) = blanksF (bs.drop k)) := by
          show _ = _
          rw [← HE.out, HDR.out]
          conv => rhs; unfold blanksF
          rw [if_pos (by decide)]
        have ck : wr.cell? ⟨b, off + q, none⟩ = some (.int .u8 32) := ck
        clear HDR
        go_upto_region 0 with fail
        go_region
        all_goals
          have HD := Lib.hid HR.out.drew
          have f1 := HR.out.arr.frozen 1
          have hk1 : (q : Int) + 1 ≤ 9223372036854775807 := by omega
          go_wp2_with fail
          go_roundw
          case rel => exact ⟨q + 1, by have := HKQ.out; omega, by have := (HR.out.move (q + 1) (by rw [HN.out]; exact HLT.out)).drew; simpa using this, gb_drew (gb_trans HG.out (gb_cellAt _ _ _ _)), hE2⟩
          case measure =>
            have m1 : (wr.setCell ⟨R, 1, none⟩ (.int .i64 ((q : Int) + 1))).drew.cell? ⟨R, 1, none⟩ = some (.int .i64 ((q : Int) + 1)) := by
              have := ((HR.out.move (q + 1) (by rw [HN.out]; exact HLT.out)).drew.arr.cell 1).trans (show _ = some (Value.int .i64 ((q + 1 : Nat) : Int)) from rfl)
              simpa using this
            have m2 := (HR.out.arr.cell 1).trans (show _ = some (Value.int .i64 (q : Int)) from rfl)
            have hq2 := HLT.out
            simp only [m1, m2, Option.getD_some, intOf]
            omega
      · have hE2 : Hid (blanksF (bs.drop (q + 1)) = blanksF (bs.drop k)) := by
          show _ = _
          rw [← HE.out, HDR.out]
          conv => rhs; unfold blanksF
          rw [if_pos (by decide)]
        have ck : wr.cell? ⟨b, off + q, none⟩ = some (.int .u8 9) := ck
        clear HDR
        go_upto_region 0 with fail
        go_region
        all_goals
          have HD := Lib.hid HR.out.drew
          have f1 := HR.out.arr.frozen 1
          have hk1 : (q : Int) + 1 ≤ 9223372036854775807 := by omega
          go_wp2_with fail
          go_roundw
          case rel => exact ⟨q + 1, by have := HKQ.out; omega, by have := (HR.out.move (q + 1) (by rw [HN.out]; exact HLT.out)).drew; simpa using this, gb_drew (gb_trans HG.out (gb_cellAt _ _ _ _)), hE2⟩
          case measure =>
            have m1 : (wr.setCell ⟨R, 1, none⟩ (.int .i64 ((q : Int) + 1))).drew.cell? ⟨R, 1, none⟩ = some (.int .i64 ((q : Int) + 1)) := by
              have := ((HR.out.move (q + 1) (by rw [HN.out]; exact HLT.out)).drew.arr.cell 1).trans (show _ = some (Value.int .i64 ((q + 1 : Nat) : Int)) from rfl)
              simpa using this
            have m2 := (HR.out.arr.cell 1).trans (show _ = some (Value.int .i64 (q : Int)) from rfl)
            have hq2 := HLT.out
            simp only [m1, m2, Option.getD_some, intOf]
            omega
      · have hE2 : Hid (blanksF (bs.drop (q + 1)) = blanksF (bs.drop k)) := by
          show _ = _
          rw [← HE.out, HDR.out]
          conv => rhs; unfold blanksF
          rw [if_pos (by decide)]
        have ck : wr.cell? ⟨b, off + q, none⟩ = some (.int .u8 10) := ck
        clear HDR
        go_upto_region 0 with fail
        go_region
        all_goals
          have HD := Lib.hid HR.out.drew
          have f1 := HR.out.arr.frozen 1
          have hk1 : (q : Int) + 1 ≤ 9223372036854775807 := by omega
          go_wp2_with fail
          go_roundw
          case rel => exact ⟨q + 1, by have := HKQ.out; omega, by have := (HR.out.move (q + 1) (by rw [HN.out]; exact HLT.out)).drew; simpa using this, gb_drew (gb_trans HG.out (gb_cellAt _ _ _ _)), hE2⟩
          case measure =>
            have m1 : (wr.setCell ⟨R, 1, none⟩ (.int .i64 ((q : Int) + 1))).drew.cell? ⟨R, 1, none⟩ = some (.int .i64 ((q : Int) + 1)) := by
              have := ((HR.out.move (q + 1) (by rw [HN.out]; exact HLT.out)).drew.arr.cell 1).trans (show _ = some (Value.int .i64 ((q + 1 : Nat) : Int)) from rfl)
              simpa using this
            have m2 := (HR.out.arr.cell 1).trans (show _ = some (Value.int .i64 (q : Int)) from rfl)
            have hq2 := HLT.out
            simp only [m1, m2, Option.getD_some, intOf]
            omega
      · have hE2 : Hid (blanksF (bs.drop (q + 1)) = blanksF (bs.drop k)) := by
          show _ = _
          rw [← HE.out, HDR.out]
          conv => rhs; unfold blanksF
          rw [if_pos (by decide)]
        have ck : wr.cell? ⟨b, off + q, none⟩ = some (.int .u8 13) := ck
        clear HDR
        go_upto_region 0 with fail
        go_region
        all_goals
          have HD := Lib.hid HR.out.drew
          have f1 := HR.out.arr.frozen 1
          have hk1 : (q : Int) + 1 ≤ 9223372036854775807 := by omega
          go_wp2_with fail
          go_roundw
          case rel => exact ⟨q + 1, by have := HKQ.out; omega, by have := (HR.out.move (q + 1) (by rw [HN.out]; exact HLT.out)).drew; simpa using this, gb_drew (gb_trans HG.out (gb_cellAt _ _ _ _)), hE2⟩
          case measure =>
            have m1 : (wr.setCell ⟨R, 1, none⟩ (.int .i64 ((q : Int) + 1))).drew.cell? ⟨R, 1, none⟩ = some (.int .i64 ((q : Int) + 1)) := by
              have := ((HR.out.move (q + 1) (by rw [HN.out]; exact HLT.out)).drew.arr.cell 1).trans (show _ = some (Value.int .i64 ((q + 1 : Nat) : Int)) from rfl)
              simpa using this
            have m2 := (HR.out.arr.cell 1).trans (show _ = some (Value.int .i64 (q : Int)) from rfl)
            have hq2 := HLT.out
            simp only [m1, m2, Option.getD_some, intOf]
            omega
      · have e1 := u8_ne x 32 hxs.1
        have e2 := u8_ne x 9 hxs.2.1
        have e3 := u8_ne x 10 hxs.2.2.1
        have e4 := u8_ne x 13 hxs.2.2.2
        have e1 : ((x.toNat : Int) == 32) = false := e1
        have e2 : ((x.toNat : Int) == 9) = false := e2
        have e3 : ((x.toNat : Int) == 10) = false := e3
        have e4 : ((x.toNat : Int) == 13) = false := e4
        have hE2 : Hid (bs.drop q = blanksF (bs.drop k)) := by
          show _ = _
          rw [← HE.out, HDR.out, blank_no x _ hxs]
        clear hxs HDR
        go_upto_region 0 with fail
        go_region
        all_goals
          have HD := Lib.hid HR.out.drew
          clear c0 c1 ck
          go_wp2_with fail
          exact bodyPost_end (results_none rfl _ _ _) rfl ⟨rfl, gb_drew HG.out, q, HKQ.out, HD.out, hE2.out⟩
    · have hc : ¬ (q : Int) < (bs.length : Int) := by omega
      have hE2 : Hid (bs.drop q = blanksF (bs.drop k)) := by
        show _ = _
        rw [← HE.out, List.drop_of_length_le (by omega)]
        rfl
      clear hmem hlt
      go_upto_region 0 with fail
      go_region
      all_goals
        have HD := Lib.hid HR.out.drew
        clear c0 c1
        go_wp2_with fail
        exact bodyPost_end (results_none rfl _ _ _) rfl ⟨rfl, gb_drew HG.out, q, HKQ.out, HD.out, hE2.out⟩
    end Go.Proofs.YtbondnljoalajaaDoor
