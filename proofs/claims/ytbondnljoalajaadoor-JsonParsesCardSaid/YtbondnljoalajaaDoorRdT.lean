/-
  Layer 4: the document's reader: signs that must be next. Conditions: those in each statement.
-/
import Derived.Test.YtbondnljoalajaaDoorRdR
namespace Go.Proofs.YtbondnljoalajaaDoor
open Go.RowKit

/-- what is so behind signs that must be next -/
def MustP (R : Nat) (s bs : List UInt8) (a : Option Addr) (c k : Nat) (bad : Bool) (w w' : World) : Prop :=
  w.grownBy w' (some R) ∧ ∃ k' bad', k ≤ k' ∧ RefAt w' R bs a c k' bad' ∧ (∀ r, mustF s (bs.drop k) = some r → bad' = bad ∧ bs.drop k' = r) ∧ (mustF s (bs.drop k) = none → bad' = true)
set_option maxRecDepth 100000 in
set_option maxHeartbeats 1600000 in
theorem rMust_any (R : Nat) (s bs : List UInt8) (a : Option Addr) (c k : Nat) (bad : Bool) (w : World) (h : RefAt w R bs a c k bad) (hs : s.length ≤ 1000) :
    Calls Tryd.prog 53 #[.pointer (some ⟨R, 0, none⟩), .string (bstr s)] w fun e w' => e = .returned (.tuple #[]) ∧ MustP R s bs a c k bad w w' := by
  have hsz : (bstr s).size = s.length := by show s.toArray.size = _; simp
  go_enter Tryd.func53, Tryd.ntmps53
  go_wp2_with fail
  go_loopw [4] (fun i wr => ∃ q : Nat, q ≤ s.length ∧ i = .int .i64 (q : Int) ∧ RefAt wr R bs a c (k + q) bad ∧ w.grownBy wr (some R) ∧ Hid (mustF s (bs.drop k) = mustF (s.drop q) (bs.drop (k + q)))) (fun i _ => s.length - (intOf i).toNat)
  case atStart => exact ⟨0, Nat.zero_le _, rfl, h, World.grownBy.refl w _, rfl⟩
  case round =>
    clear h
    obtain ⟨q, hq, rfl, hR, hg, HE⟩ := hrel
    have HG := Lib.hid hg
    by_cases hlt : q < s.length
    · have hc : (q : Int) < (s.length : Int) := by omega
      have hix := bstr_index s q hlt
      have hsd := drop_cons hlt
      obtain ⟨x, hx⟩ : ∃ x, x = s.getD q 0 := ⟨_, rfl⟩
      rw [← hx] at hsd hix
      have HSD := Lib.hid hsd
      have hcall := Lib.hid (rIs_any R x bs a c (k + q) bad wr hR)
      have HLT := Lib.hid hlt
      clear hx hsd hR hg hlt
      go_upto_region 4 with (go_at_call 55; refine hcall.out.mono ?_; rintro e w1 ⟨hg1, ⟨rfl, h1, h2, hR1⟩ | ⟨rfl, h2, hR1⟩⟩)
      · have HR1 := Lib.hid hR1
        have HG1 := Lib.hid hg1
        clear hR1 hg1
        go_wp2_with fail
        go_roundw
        case rel => exact ⟨q + 1, HLT.out, by go_num, by have := HR1.out; rwa [show k + q + 1 = k + (q + 1) by omega] at this, gb_trans HG.out HG1.out, by
          show _ = _
          rw [HE.out, HSD.out, drop_cons h1, h2, mustF, if_pos rfl, show k + q + 1 = k + (q + 1) by omega]⟩
        case measure => simp [intOf]; have := HLT.out; omega
      · have HR1 := Lib.hid hR1
        have HG1 := Lib.hid hg1
        have f2 := hR1.arr.frozen 2
        have c2 := (hR1.arr.cell 2).trans (show _ = some (Value.bool bad) from rfl)
        have H2 := Lib.hid h2
        clear hR1 hg1 h2
        go_wp2_with fail
        have hno : mustF s (bs.drop k) = none := by
          rw [HE.out, HSD.out]
          by_cases hk : k + q < bs.length
          · rw [drop_cons hk, mustF, if_neg (fun e => H2.out hk e.symm)]
          · rw [List.drop_of_length_le (show bs.length ≤ k + q by omega)]
            rfl
        exact bodyPost_ret (results_none rfl _ _ _) rfl ⟨rfl, gb_trans HG.out (gb_trans HG1.out (gb_cellAt _ _ _ _)), k + q, true, by omega, HR1.out.bad true, (fun r hr => by rw [hno] at hr; cases hr), fun _ => rfl⟩
    · have hc : ¬ (q : Int) < (s.length : Int) := by omega
      obtain rfl : q = s.length := by omega
      have HR := Lib.hid hR
      clear hR hg
      go_wp2_with fail
      exact bodyPost_end (results_none rfl _ _ _) rfl ⟨rfl, HG.out, k + s.length, bad, Nat.le_add_right _ _, HR.out, (fun r hr => by
        rw [HE.out, List.drop_length] at hr
        unfold mustF at hr
        exact ⟨rfl, Option.some.inj hr⟩), fun hn => by
        rw [HE.out, List.drop_length] at hn
        unfold mustF at hn
        cases hn⟩
end Go.Proofs.YtbondnljoalajaaDoor
