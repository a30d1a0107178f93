/-
  CrcBack, as a call. Conditions: those in each statement.
-/
import Derived.Test.YtocehaflgpljfaaCrI
import Derived.Test.YtocehaflgpljfaaRegF
namespace Go.Proofs.Ytocehaflgpljfaa
open Go.RowKit

structure InvBk (ys : List UInt8) (n3 : Nat) (p a1 a2 a3 p' : Option Addr) (n n2 cap cap' c1 c2 c3 : Nat) (xs : List UInt8) (W0 : World) (L : Nat → Bool) (v36 v37 v38 v39 v40 v41 v42 v43 v44 v4 : Value) (wx : World) : Prop where
  t0 : L 0 = true → v36 = .slice a3 n3 c3
  t1 : L 1 = true → ∃ g c, v37 = .slice g (n3 + 4) c ∧ Rd wx g (n3 + 4) c ys
  t2 : L 2 = true → v38 = .string (bstr ys)
  t3 : L 3 = true → v39 = .slice p' (n3 + 4) cap'
  t4 : L 4 = true → v40 = .string (bstr ys)
  t5 : L 5 = true → v41 = .bool true
  t6 : L 6 = true → v42 = .bool true
  t7 : L 7 = true → v43 = .bool true
  t8 : L 8 = true → v44 = .bool true
  t9 : L 9 = true → v4 = .bool true
  bw : Below W0.heap.size W0 wx
set_option maxHeartbeats 1600000 in
set_option maxRecDepth 100000 in
theorem Back_any (p : Option Addr) (n cap : Nat) (xs : List UInt8) (p' : Option Addr) (n' cap' : Nat) (ys : List UInt8) (w : World) (hn : n ≤ 140737488351232) (hn' : n' ≤ 140737488351232) (hr : Rd w p n cap xs) (hr' : Rd w p' n' cap' ys) :
    Calls Try.prog 6 #[.slice p n cap, .slice p' n' cap'] w fun e w' => e = .returned (.bool true) ∧ Below w.heap.size w w' := by
  go_enter Try.func6, Try.ntmps6
  have H1 := Put_any p n cap xs w (by omega) hr
  have hl' := hr'.len
  have HR := Lib.hid hr
  have HR' := Lib.hid hr'
  clear hr hr'
  go_wp2_with fail
  refine H1.mono ?_
  clear H1
  rintro e w1 ⟨a1, c1, rfl, hr1, hb1⟩
  have HT := Take_any _ _ _ _ w1 (by omega) hr1
  rw [takeF_put] at HT
  go_wp2_with fail
  refine HT.mono ?_
  clear HT
  rintro e w2 ⟨a2, n2, c2, rfl, hr2, hb2⟩
  have hb02 := hb1.trans (hb2.mono hb1.size)
  have hst1 := run_bstr bt Try.underlying9 (show Rd w2 a2 n2 c2 xs from hr2)
  have hst2 := run_bstr bt Try.underlying9 (HR.out.to hb02)
  have HR2 := Lib.hid (HR'.out.to hb02)
  clear hb1 hb2 hr1 hr2
  go_wp2_with fail
  clear hst1 hst2
  have HT := Take_any _ _ _ _ w2 (by omega) HR2.out
  refine HT.mono ?_
  clear HT
  rintro e w3 ⟨a3, n3, c3, rfl, hr3, hb3⟩
  have hb03 := hb02.trans (hb3.mono hb02.size)
  have HR3 := Lib.hid (HR2.out.to hb3)
  clear hb02 hb3 HR2
  cases hT : takeF ys with
  | none =>
    rw [hT] at hr3
    obtain rfl : n3 = 0 := by have := hr3.len; simpa using this.symm
    clear hr3
    go_wp2_with fail
    refine (wakes_any _).mono ?_
    rintro e w4 ⟨rfl, hb4⟩
    go_wp2_with fail
    go_ret
    exact ⟨rfl, hb03.trans (hb4.mono hb03.size)⟩
  | some zs =>
    rw [hT] at hr3
    have hz := takeF_some hT
    have hzl : n3 + 4 = n' := by
      have h1 := hr3.len
      have h2 := putF_len zs
      rw [hz] at h2
      simp only [Option.getD_some] at h1
      omega
    obtain rfl := hzl
    have HP : Hid (∀ wx, Below w3.heap.size w3 wx → Calls Try.prog 13 #[.slice a3 n3 c3] wx fun e w' => ∃ ao c, e = .returned (.slice ao (n3 + 4) c) ∧ Rd w' ao (n3 + 4) c ys ∧ Below wx.heap.size wx w') := fun wx hb => by
      have HP := Put_any _ _ _ _ wx (by omega) ((show Rd w3 a3 n3 c3 zs from hr3).to hb)
      unfold PutRes at HP
      rw [hz] at HP
      exact HP
    clear hr3 hz hT
    go_upto_region 7 with fail
    refine wp_region_steps [[], [0], [1], [], [3], [2, 4], [5], [6], [6, 7], [8]] (by kernel_rfl) (by kernel_rfl) (fun L a wx => ∃ v36 v37 v38 v39 v40 v41 v42 v43 v44 v4, a = ⟨#[.slice p n cap, .slice p' (n3 + 4) cap', undef, undef, v4, .slice a2 n2 c2, .bool true, .slice a3 n3 c3, .tuple #[.slice a2 n2 c2, .bool true], .slice p n cap, .slice a1 (n + 4) c1, .tuple #[.slice a2 n2 c2, .bool true], .slice a2 n2 c2, .bool true, .bool true, .bool false, .bool false, .slice a2 n2 c2, .string (bstr xs), .slice p n cap, .string (bstr xs), .bool false, .bool false, .tuple #[.slice a3 n3 c3, .bool true], .slice p' (n3 + 4) cap', .tuple #[.slice a3 n3 c3, .bool true], .slice a3 n3 c3, .bool true, .bool true, .bool false, undef, undef, undef, undef, undef, undef, v36, v37, v38, v39, v40, v41, v42, v43, v44], []⟩ ∧ InvBk ys n3 p a1 a2 a3 p' n n2 cap cap' c1 c2 c3 xs w3 L v36 v37 v38 v39 v40 v41 v42 v43 v44 v4 wx) ?_ ⟨?_, ?_, ?_, ?_, ?_, ?_, ?_, ?_, ?_, ?_, trivial⟩ ?_
    · refine ⟨_, _, _, _, _, _, _, _, _, _, rfl, ⟨?_, ?_, ?_, ?_, ?_, ?_, ?_, ?_, ?_, ?_, (Below.refl _ _).drew⟩⟩ <;> (intro h; exact absurd h (by decide))
    · rintro L a wx ⟨v36, v37, v38, v39, v40, v41, v42, v43, v44, v4, rfl, hI⟩ hL hdep hcl K hK
      go_simp
      exact hK _ _ ⟨_, v37, v38, v39, v40, v41, v42, v43, v44, v4, rfl, ⟨fun _ => rfl, hI.t1, hI.t2, hI.t3, hI.t4, hI.t5, hI.t6, hI.t7, hI.t8, hI.t9, hI.bw⟩⟩
    · rintro L a wx ⟨v36, v37, v38, v39, v40, v41, v42, v43, v44, v4, rfl, hI⟩ hL hdep hcl K hK
      obtain rfl := hI.t0 (hdep 0 (by decide))
      have HC := HP.out wx hI.bw
      go_simp
      refine HC.mono ?_
      rintro e w' ⟨g, c, rfl, hr, hb⟩
      exact hK _ _ ⟨_, _, v38, v39, v40, v41, v42, v43, v44, v4, rfl, ⟨hI.t0, fun _ => ⟨_, _, rfl, hr⟩, hI.t2, hI.t3, hI.t4, hI.t5, hI.t6, hI.t7, hI.t8, hI.t9, (hI.bw).trans (hb.mono (hI.bw).size)⟩⟩
    · rintro L a wx ⟨v36, v37, v38, v39, v40, v41, v42, v43, v44, v4, rfl, hI⟩ hL hdep hcl K hK
      obtain ⟨g, c, rfl, h16⟩ := hI.t1 (hdep 1 (by decide))
      have hs := run_bstr bt Try.underlying9 h16
      go_simp
      exact hK _ _ ⟨v36, _, _, v39, v40, v41, v42, v43, v44, v4, rfl, ⟨hI.t0, hI.t1, fun _ => rfl, hI.t3, hI.t4, hI.t5, hI.t6, hI.t7, hI.t8, hI.t9, hI.bw⟩⟩
    · rintro L a wx ⟨v36, v37, v38, v39, v40, v41, v42, v43, v44, v4, rfl, hI⟩ hL hdep hcl K hK
      go_simp
      exact hK _ _ ⟨v36, v37, v38, _, v40, v41, v42, v43, v44, v4, rfl, ⟨hI.t0, hI.t1, hI.t2, fun _ => rfl, hI.t4, hI.t5, hI.t6, hI.t7, hI.t8, hI.t9, hI.bw⟩⟩
    · rintro L a wx ⟨v36, v37, v38, v39, v40, v41, v42, v43, v44, v4, rfl, hI⟩ hL hdep hcl K hK
      obtain rfl := hI.t3 (hdep 3 (by decide))
      have hs := run_bstr bt Try.underlying9 (HR3.out.to hI.bw)
      go_simp
      exact hK _ _ ⟨v36, v37, v38, _, _, v41, v42, v43, v44, v4, rfl, ⟨hI.t0, hI.t1, hI.t2, hI.t3, fun _ => rfl, hI.t5, hI.t6, hI.t7, hI.t8, hI.t9, hI.bw⟩⟩
    · rintro L a wx ⟨v36, v37, v38, v39, v40, v41, v42, v43, v44, v4, rfl, hI⟩ hL hdep hcl K hK
      obtain rfl := hI.t2 (hdep 2 (by decide))
      obtain rfl := hI.t4 (hdep 4 (by decide))
      go_simp
      exact hK _ _ ⟨v36, v37, _, v39, _, _, v42, v43, v44, v4, rfl, ⟨hI.t0, hI.t1, hI.t2, hI.t3, hI.t4, fun _ => rfl, hI.t6, hI.t7, hI.t8, hI.t9, hI.bw⟩⟩
    · rintro L a wx ⟨v36, v37, v38, v39, v40, v41, v42, v43, v44, v4, rfl, hI⟩ hL hdep hcl K hK
      obtain rfl := hI.t5 (hdep 5 (by decide))
      go_simp
      exact hK _ _ ⟨v36, v37, v38, v39, v40, _, _, v43, v44, v4, rfl, ⟨hI.t0, hI.t1, hI.t2, hI.t3, hI.t4, hI.t5, fun _ => rfl, hI.t7, hI.t8, hI.t9, hI.bw⟩⟩
    · rintro L a wx ⟨v36, v37, v38, v39, v40, v41, v42, v43, v44, v4, rfl, hI⟩ hL hdep hcl K hK
      obtain rfl := hI.t6 (hdep 6 (by decide))
      refine (if_pos rfl).mpr ?_
      have HC := wakes_any wx
      go_simp
      refine HC.mono ?_
      rintro e w' ⟨rfl, hb⟩
      exact hK _ _ ⟨v36, v37, v38, v39, v40, v41, _, _, v44, v4, rfl, ⟨hI.t0, fun h => by obtain ⟨g, c, e, h⟩ := hI.t1 h; exact ⟨g, c, e, h.to hb⟩, hI.t2, hI.t3, hI.t4, hI.t5, hI.t6, fun _ => rfl, hI.t8, hI.t9, (hI.bw).trans (hb.mono (hI.bw).size)⟩⟩
    · rintro L a wx ⟨v36, v37, v38, v39, v40, v41, v42, v43, v44, v4, rfl, hI⟩ hL hdep hcl K hK
      obtain rfl := hI.t6 (hdep 6 (by decide))
      obtain rfl := hI.t7 (hdep 7 (by decide))
      go_simp
      exact hK _ _ ⟨v36, v37, v38, v39, v40, v41, _, _, _, v4, rfl, ⟨hI.t0, hI.t1, hI.t2, hI.t3, hI.t4, hI.t5, hI.t6, hI.t7, fun _ => rfl, hI.t9, hI.bw⟩⟩
    · rintro L a wx ⟨v36, v37, v38, v39, v40, v41, v42, v43, v44, v4, rfl, hI⟩ hL hdep hcl K hK
      obtain rfl := hI.t8 (hdep 8 (by decide))
      go_simp
      exact hK _ _ ⟨v36, v37, v38, v39, v40, v41, v42, v43, _, _, rfl, ⟨hI.t0, hI.t1, hI.t2, hI.t3, hI.t4, hI.t5, hI.t6, hI.t7, hI.t8, fun _ => rfl, hI.bw⟩⟩
    · rintro a wx ⟨v36, v37, v38, v39, v40, v41, v42, v43, v44, v4, rfl, hI⟩
      have e := hI.t9 rfl
      have hbw := hI.bw
      clear hI
      rw [e]
      go_wp2_with fail
      go_ret
      exact ⟨rfl, hb03.trans (hbw.mono hb03.size)⟩
end Go.Proofs.Ytocehaflgpljfaa
