/-
  ConsistProofs as a call. Conditions: those in each statement.
-/
import Derived.Test.YtcnnblhjgligbaaCnN
namespace Go.Proofs.Ytcnnblhjgligbaa
open Go.RowKit

theorem own_lit0 (w : World) : OwnD (w.alloc (.cells #[] 41)) w.heap.size (.slice (some ⟨w.heap.size, 0, none⟩) 0 0) [] :=
  OwnD.made (L := []) (Arr.new w 41 []) rfl (All32.of (by simp)) (Nat.le_refl _) (by decide)
set_option maxRecDepth 100000 in
set_option maxHeartbeats 1600000 in
theorem LPaths_any (L : List (List UInt8)) (a : Option Addr) (n c i : Nat) (w : World) (hr : RdD w a n c L) :
    Calls Try.prog 4 #[.slice a n c, .int .u64 (i : Int)] w fun e w' => e = .returned (.bool true) ∧ Below w.heap.size w w' := by
  have HW := Lib.hid (fun w => awakeC_any w)
  by_cases hn : n ≤ 2000
  · have HA := Lib.hid (fun wx a c (h : RdD wx a n c L) => ProofC_any L i a n c wx h (by omega))
    have HB := Lib.hid (fun wx a c (h : RdD wx a n c L) => rProofC_any L i a n c wx h (by omega))
    have HSL := Lib.hid (fun wx a a' uc vc (hu : RdD wx a n uc L) (hv : RdD wx a' n vc L) => rSame_any L L a a' n n uc vc wx hu hv (by omega) (by omega))
    rw [decide_eq_true rfl] at HSL
    have hpl : (qL L i).length ≤ 21 := by rw [qL_len]; exact cL_few _ _
    have HSP := Lib.hid (fun wx a a' uc vc (hu : RdD wx a (qL L i).length uc (qL L i)) (hv : RdD wx a' (qL L i).length vc (qL L i)) => rSame_any (qL L i) (qL L i) a a' _ _ uc vc wx hu hv (by omega) (by omega))
    rw [decide_eq_true rfl] at HSP
    obtain ⟨E, hE⟩ : ∃ E, E = cE i n := ⟨_, rfl⟩
    rw [← hE] at HA HB
    have hl := Lib.hid hr.len
    generalize qL L i = P at *
    have hcn : ¬ ((2000 : Int) < (n : Int)) := by omega
    have HPL := Lib.hid hpl
    clear hpl hE
    go_enter Try.func4, Try.ntmps4
    go_wp2_with (first
      | (go_at_call 12; refine (HW.out _).mono ?_; rintro e w1 ⟨rfl, hb1⟩)
      | ((with_reducible show wpList _ _ _ (⟨some 17, _, _, _, _, _⟩ :: _) _ _); refine wl_rowD rfl (.tmp 15) (.tmp 16) rfl w1.heap.size _ [] rfl (own_lit0 w1) a n c L rfl ((hr.to hb1).to ((Below.refl _ _).alloc (Nat.le_refl _) _)) (by simp; omega) (by simp) ?_; intro v2 w2 ho2 hb2; rw [List.nil_append] at ho2; obtain ⟨a2, c2, rfl, hr2⟩ := ho2.rd; rw [hl.out] at hr2 ⊢; have b2 : Below w1.heap.size w1 w2 := ((Below.refl _ _).alloc (Nat.le_refl _) _).trans hb2)
      | (go_at_call 14; refine (HA.out _ _ _ hr2).mono ?_; rintro e w3 ⟨v3, rfl, hO3, hb3⟩; obtain ⟨a3, c3, rfl, hr3⟩ := hO3.rd)
      | (go_at_call 15; refine (HB.out _ _ _ (((hr.to hb1).to b2).to hb3)).mono ?_; rintro e w4 ⟨v4, rfl, hO4, hb4⟩; obtain ⟨a4, c4, rfl, hr4⟩ := hO4.rd)
      | (go_at_call 16; with_reducible refine (HSP.out _ _ _ _ _ (hr3.to hb4) hr4).mono ?_; rintro e w5 ⟨rfl, hb5⟩)
      | (go_at_call 16; with_reducible refine (HSL.out _ _ _ _ _ (((hr2.to hb3).to hb4).to hb5) (((((hr.to hb1).to b2).to hb3).to hb4).to hb5)).mono ?_; rintro e w6 ⟨rfl, hb6⟩))
    go_ret
    have z1 := hb1.size
    have z2 := b2.size
    have z3 := hb3.size
    have z4 := hb4.size
    have z5 := hb5.size
    exact ⟨rfl, ((((hb1.trans (b2.mono z1)).trans (hb3.mono (by omega))).trans (hb4.mono (by omega))).trans (hb5.mono (by omega))).trans (hb6.mono (by omega))⟩
  · have hcn : (2000 : Int) < (n : Int) := by omega
    go_enter Try.func4, Try.ntmps4
    go_wp2_with (go_at_call 12; refine (HW.out _).mono ?_; rintro e w1 ⟨rfl, hb1⟩)
    go_ret
    exact ⟨rfl, hb1⟩
end Go.Proofs.Ytcnnblhjgligbaa
