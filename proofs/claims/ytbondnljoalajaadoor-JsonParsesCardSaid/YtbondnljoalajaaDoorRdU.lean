/-
  Layer 4: the document's reader: four digits. Conditions: those in each statement.
-/
import Derived.Test.YtbondnljoalajaaDoorRdR
namespace Go.Proofs.YtbondnljoalajaaDoor
open Go.RowKit

/-- what is so behind four digits -/
def FourP (R : Nat) (bs : List UInt8) (a : Option Addr) (c k : Nat) (bad : Bool) (w : World) (e : Ending) (w' : World) : Prop :=
  w.grownBy w' (some R) ∧ ∃ n k' bad', e = .returned (.int .i64 ((n : Nat) : Int)) ∧ k ≤ k' ∧ RefAt w' R bs a c k' bad' ∧ n < 65536 ∧ (∀ m r, fourF (bs.drop k) = some (m, r) → n = m ∧ bad' = bad ∧ bs.drop k' = r) ∧ (fourF (bs.drop k) = none → bad' = true ∧ n = 0)
theorem hex_kind (x : UInt8) : (48 ≤ x.toNat ∧ x.toNat ≤ 57 ∧ hexV x = some (x.toNat - 48)) ∨ (97 ≤ x.toNat ∧ x.toNat ≤ 102 ∧ hexV x = some (x.toNat - 87)) ∨ (65 ≤ x.toNat ∧ x.toNat ≤ 70 ∧ hexV x = some (x.toNat - 55)) ∨ (hexV x = none ∧ ¬ (48 ≤ x.toNat ∧ x.toNat ≤ 57) ∧ ¬ (97 ≤ x.toNat ∧ x.toNat ≤ 102) ∧ ¬ (65 ≤ x.toNat ∧ x.toNat ≤ 70)) := by
  unfold hexV
  by_cases h1 : 48 ≤ x.toNat ∧ x.toNat ≤ 57
  · exact .inl ⟨h1.1, h1.2, if_pos h1⟩
  · by_cases h2 : 97 ≤ x.toNat ∧ x.toNat ≤ 102
    · exact .inr (.inl ⟨h2.1, h2.2, by rw [if_neg h1, if_pos h2]⟩)
    · by_cases h3 : 65 ≤ x.toNat ∧ x.toNat ≤ 70
      · exact .inr (.inr (.inl ⟨h3.1, h3.2, by rw [if_neg h1, if_neg h2, if_pos h3]⟩))
      · exact .inr (.inr (.inr ⟨by rw [if_neg h1, if_neg h2, if_neg h3], h1, h2, h3⟩))

set_option maxRecDepth 100000 in
set_option maxHeartbeats 3200000 in
theorem rFour_any (R : Nat) (bs : List UInt8) (a : Option Addr) (c k : Nat) (bad : Bool) (w : World) (h : RefAt w R bs a c k bad) :
    Calls Tryd.prog 64 #[.pointer (some ⟨R, 0, none⟩)] w (FourP R bs a c k bad w) := by
  have hle := h.text.le
  have hbig := h.text.big
  have hbl : bs.length ≤ 9223372036854775807 := by omega
  have HLE := Lib.hid hle
  clear hle hbig
  go_enter Tryd.func64, Tryd.ntmps64
  go_wp2_with fail
  go_loopw [3, 4] (fun n i wr => ∃ (q m : Nat), q ≤ 4 ∧ i = .int .i64 (q : Int) ∧ n = .int .i64 (m : Int) ∧ m < 16 ^ q ∧ RefAt wr R bs a c (k + q) bad ∧ w.grownBy wr (some R) ∧ Hid (fourF (bs.drop k) = codeF (4 - q) m (bs.drop (k + q)))) (fun _ i _ => 4 - (intOf i).toNat)
  case atStart => exact ⟨0, 0, by omega, rfl, rfl, by decide, h, World.grownBy.refl w _, four_code _⟩
  case round =>
    clear h
    obtain ⟨q, m, hq, rfl, rfl, hm, hR, hg, HE⟩ := hrel
    have HG := Lib.hid hg
    have HR := Lib.hid hR
    by_cases hq4 : q < 4
    · have hc4 : (q : Int) < 4 := by omega
      have hm4 : m < 4096 := by
        have : 16 ^ q ≤ 16 ^ 3 := Nat.pow_le_pow_right (by decide) (by omega)
        omega
      have HM := Lib.hid hm
      have c0 := (hR.arr.cell 0).trans (show _ = some (Value.slice a bs.length c) from rfl)
      have c1 := (hR.arr.cell 1).trans (show _ = some (Value.int .i64 ((k + q : Nat) : Int)) from rfl)
      have f1 := hR.arr.frozen 1
      have f2 := hR.arr.frozen 2
      have c2 := (hR.arr.cell 2).trans (show _ = some (Value.bool bad) from rfl)
      have hat := hR.at_
      have hmem := Lib.hid hR.text.mem
      have HQ4 := Lib.hid hq4
      obtain ⟨K, hK⟩ : ∃ K, K = k + q := ⟨_, rfl⟩
      rw [← hK] at c1 hat HE
      have HK := Lib.hid hK
      clear hR hg hm hq4 hq hK
      have hK0 : (0 : Int) ≤ (K : Int) := by omega
      by_cases hlt : K < bs.length
      · have hc : ¬ (K : Int) ≥ (bs.length : Int) := by omega
        obtain ⟨b, off, rfl, hbR, hbw, hcell⟩ := hmem.out (by omega)
        have ck := hcell K hlt
        have hkc : K < c := by have := HLE.out; omega
        have hKN : (K : Int) < (bs.length : Int) := by omega
        have hdr := drop_cons hlt
        obtain ⟨x, hx⟩ : ∃ x, x = bs.getD K 0 := ⟨_, rfl⟩
        rw [← hx] at ck hdr
        have HDR := Lib.hid hdr
        clear hcell hmem hdr hx
        generalize hN : bs.length = N at *
        have HN := Lib.hid hN
        have HLT := Lib.hid hlt
        clear hN hlt
        go_upto_region 5 with fail
        go_region
        all_goals
          have c0 : wr.drew.cell? ⟨R, 0, none⟩ = some (Value.slice (some ⟨b, off, none⟩) N c) := c0
          have c1 : wr.drew.cell? ⟨R, 1, none⟩ = some (Value.int .i64 (K : Int)) := c1
          have ck : wr.drew.cell? ⟨b, off + K, none⟩ = some (.int .u8 (x.toNat : Int)) := ck
          go_upto_region 8 with fail
          go_region
          all_goals
            have hxl := x.toNat_lt
            rw [IntWalk.wrap64_in (x.toNat : Int) (by omega)]
            have HDD := Lib.hid HR.out.drew.drew
            have c1 : wr.drew.drew.cell? ⟨R, 1, none⟩ = some (Value.int .i64 (K : Int)) := c1
            have f1 : wr.drew.drew.frozen? ⟨R, 1, none⟩ = false := f1
            have c2 : wr.drew.drew.cell? ⟨R, 2, none⟩ = some (Value.bool bad) := c2
            have f2 : wr.drew.drew.frozen? ⟨R, 2, none⟩ = false := f2
            generalize hV : wr.drew.drew = V at *
            have hgV : Hid (w.grownBy V (some R)) := by show _; rw [← hV]; exact gb_drew (gb_drew HG.out)
            clear c0 ck hV
            obtain ⟨y, hy⟩ : ∃ y, y = x.toNat := ⟨_, rfl⟩
            have hkind := hex_kind x
            rw [← hy] at hkind hxl ⊢
            have HY := Lib.hid hy
            clear hy
            have hk1 : (K : Int) + 1 ≤ 9223372036854775807 := by omega
            have hMV : Hid (RefAt (V.setCell ⟨R, 1, none⟩ (.int .i64 ((K : Int) + 1))) R bs (some ⟨b, off, none⟩) c (k + (q + 1)) bad) := by
              have := HDD.out.move (K + 1) (by rw [HN.out]; exact HLT.out)
              have e : ((K + 1 : Nat) : Int) = (K : Int) + 1 := by omega
              rw [e, show K + 1 = k + (q + 1) by have := HK.out; omega] at this
              exact this
            rcases hkind with ⟨h1, h2, hv⟩ | ⟨h1, h2, hv⟩ | ⟨h1, h2, hv⟩ | ⟨hv, h1, h2, h3⟩
            · have hcode : Hid (fourF (bs.drop k) = codeF (4 - (q + 1)) (m * 16 + (y - 48)) (bs.drop (K + 1))) := by
                show _ = _
                rw [HE.out, HDR.out, show 4 - q = (4 - (q + 1)) + 1 by have := HQ4.out; omega, codeF, hv]
              have hmm : Hid (m * 16 + (y - 48) < 16 ^ (q + 1)) := by show _ < _; rw [Nat.pow_succ]; have := HM.out; omega
              have hval : Hid ((16 * (m : Int) + (y : Int) - 48) = ((m * 16 + (y - 48) : Nat) : Int)) := by show _ = _; omega
              have hi1 : (48 : Int) ≤ (y : Int) := by omega
              have hi2 : (y : Int) ≤ 57 := by omega
              clear HDR hv HM
              go_wp2_with fail
              go_roundw
              case rel => exact ⟨q + 1, m * 16 + (y - 48), by have := HQ4.out; omega, by go_num, by rw [← hval.out]; try rfl, hmm.out, hMV.out, gb_trans hgV.out (gb_cellAt _ _ _ _), by rw [HK.out] at hcode; exact hcode.out⟩
              case measure => simp [intOf]; have := HQ4.out; omega
            · have hcode : Hid (fourF (bs.drop k) = codeF (4 - (q + 1)) (m * 16 + (y - 87)) (bs.drop (K + 1))) := by
                show _ = _
                rw [HE.out, HDR.out, show 4 - q = (4 - (q + 1)) + 1 by have := HQ4.out; omega, codeF, hv]
              have hmm : Hid (m * 16 + (y - 87) < 16 ^ (q + 1)) := by show _ < _; rw [Nat.pow_succ]; have := HM.out; omega
              have hval : Hid ((16 * (m : Int) + (y : Int) - 97 + 10) = ((m * 16 + (y - 87) : Nat) : Int)) := by show _ = _; omega
              have hi1 : (48 : Int) ≤ (y : Int) := by omega
              have hi2 : ¬ (y : Int) ≤ 57 := by omega
              have hi3 : (97 : Int) ≤ (y : Int) := by omega
              have hi4 : (y : Int) ≤ 102 := by omega
              clear HDR hv HM
              go_wp2_with fail
              go_roundw
              case rel => exact ⟨q + 1, m * 16 + (y - 87), by have := HQ4.out; omega, by go_num, by rw [← hval.out]; try rfl, hmm.out, hMV.out, gb_trans hgV.out (gb_cellAt _ _ _ _), by rw [HK.out] at hcode; exact hcode.out⟩
              case measure => simp [intOf]; have := HQ4.out; omega
            · have hcode : Hid (fourF (bs.drop k) = codeF (4 - (q + 1)) (m * 16 + (y - 55)) (bs.drop (K + 1))) := by
                show _ = _
                rw [HE.out, HDR.out, show 4 - q = (4 - (q + 1)) + 1 by have := HQ4.out; omega, codeF, hv]
              have hmm : Hid (m * 16 + (y - 55) < 16 ^ (q + 1)) := by show _ < _; rw [Nat.pow_succ]; have := HM.out; omega
              have hval : Hid ((16 * (m : Int) + (y : Int) - 65 + 10) = ((m * 16 + (y - 55) : Nat) : Int)) := by show _ = _; omega
              have hi1 : (48 : Int) ≤ (y : Int) := by omega
              have hi2 : ¬ (y : Int) ≤ 57 := by omega
              have hi3 : ¬ (97 : Int) ≤ (y : Int) := by omega
              have hi4 : (65 : Int) ≤ (y : Int) := by omega
              have hi5 : (y : Int) ≤ 70 := by omega
              clear HDR hv HM
              go_wp2_with fail
              go_roundw
              case rel => exact ⟨q + 1, m * 16 + (y - 55), by have := HQ4.out; omega, by go_num, by rw [← hval.out]; try rfl, hmm.out, hMV.out, gb_trans hgV.out (gb_cellAt _ _ _ _), by rw [HK.out] at hcode; exact hcode.out⟩
              case measure => simp [intOf]; have := HQ4.out; omega
            · have hno : Hid (fourF (bs.drop k) = none) := by
                show _ = _
                rw [HE.out, HDR.out, show 4 - q = (4 - (q + 1)) + 1 by have := HQ4.out; omega, codeF, hv]
              have fin : Hid (FourP R bs (some ⟨b, off, none⟩) c k bad w (.returned (.int .i64 0)) (V.setCell ⟨R, 2, none⟩ (.bool true))) :=
                ⟨gb_trans hgV.out (gb_cellAt _ _ _ _), 0, K, true, rfl, by rw [HK.out]; omega, by rw [HK.out]; exact HDD.out.bad true, by decide, (fun m r hr => by rw [hno.out] at hr; cases hr), fun _ => ⟨rfl, rfl⟩⟩
              clear HDR hv HM
              have hcs : (y < 48) ∨ (57 < y ∧ y < 65) ∨ (70 < y ∧ y < 97) ∨ 102 < y := by omega
              clear h1 h2 h3
              rcases hcs with h1 | ⟨h1, h2⟩ | ⟨h1, h2⟩ | h1
              · have i1 : ¬ (48 : Int) ≤ (y : Int) := by omega
                have i2 : ¬ (97 : Int) ≤ (y : Int) := by omega
                have i3 : ¬ (65 : Int) ≤ (y : Int) := by omega
                go_wp2_with fail
                go_ret
                exact fin.out
              · have i1 : (48 : Int) ≤ (y : Int) := by omega
                have i1b : ¬ (y : Int) ≤ 57 := by omega
                have i2 : ¬ (97 : Int) ≤ (y : Int) := by omega
                have i3 : ¬ (65 : Int) ≤ (y : Int) := by omega
                go_wp2_with fail
                go_ret
                exact fin.out
              · have i1 : (48 : Int) ≤ (y : Int) := by omega
                have i1b : ¬ (y : Int) ≤ 57 := by omega
                have i2 : ¬ (97 : Int) ≤ (y : Int) := by omega
                have i3 : (65 : Int) ≤ (y : Int) := by omega
                have i3b : ¬ (y : Int) ≤ 70 := by omega
                go_wp2_with fail
                go_ret
                exact fin.out
              · have i1 : (48 : Int) ≤ (y : Int) := by omega
                have i1b : ¬ (y : Int) ≤ 57 := by omega
                have i2 : (97 : Int) ≤ (y : Int) := by omega
                have i2b : ¬ (y : Int) ≤ 102 := by omega
                have i3 : (65 : Int) ≤ (y : Int) := by omega
                have i3b : ¬ (y : Int) ≤ 70 := by omega
                go_wp2_with fail
                go_ret
                exact fin.out
      · have hc : (K : Int) ≥ (bs.length : Int) := by omega
        have hno : Hid (fourF (bs.drop k) = none) := by
          show _ = _
          rw [HE.out, List.drop_of_length_le (show bs.length ≤ K by omega), show 4 - q = (4 - (q + 1)) + 1 by have := HQ4.out; omega, codeF]
        have fin : Hid (FourP R bs a c k bad w (.returned (.int .i64 0)) (wr.drew.setCell ⟨R, 2, none⟩ (.bool true))) :=
          ⟨gb_trans (gb_drew HG.out) (gb_cellAt _ _ _ _), 0, K, true, rfl, by rw [HK.out]; omega, by rw [HK.out]; exact HR.out.drew.bad true, by decide, (fun m r hr => by rw [hno.out] at hr; cases hr), fun _ => ⟨rfl, rfl⟩⟩
        clear hmem hlt
        go_upto_region 5 with fail
        go_region
        all_goals
          have c2 : wr.drew.cell? ⟨R, 2, none⟩ = some (Value.bool bad) := c2
          have f2 : wr.drew.frozen? ⟨R, 2, none⟩ = false := f2
          go_wp2_with fail
          go_ret
          exact fin.out
    · have hc4 : ¬ (q : Int) < 4 := by omega
      obtain rfl : q = 4 := by omega
      have hm6 : m < 65536 := hm
      have fin : Hid (FourP R bs a c k bad w (.returned (.int .i64 (m : Int))) wr) :=
        ⟨HG.out, m, k + 4, bad, rfl, by omega, HR.out, hm6, (fun m' r hr => by
          rw [HE.out] at hr
          unfold codeF at hr
          cases hr
          exact ⟨rfl, rfl, rfl⟩), fun hn => by rw [HE.out] at hn; cases hn⟩
      clear hR hg hm
      go_wp2_with fail
      go_ret
      exact fin.out
end Go.Proofs.YtbondnljoalajaaDoor
