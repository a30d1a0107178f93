/-
  ShaSums holds: the hash of any bytes is the document's; they stay.
-/
import Derived.Test.YtgippimoklefnaaShaO
import Derived.Test.YtgippimoklefnaaDig
import Derived.Test.YtgippimoklefnaaSized
namespace Go.Proofs.Ytgippimoklefnaa
open Go.ChangeShapes Go.WideShapes Go.ChangeAt Go.RowKit

set_option maxHeartbeats 800000 in
theorem Sums_any (a : Option Addr) (n cap : Nat) (xs : List UInt8) (w : World) (hm : n ≤ 140737488351232) (hr : Rd w a n cap xs) :
    Calls Try.prog 3 #[.slice a n cap] w fun e w' => e = .returned (.bool true) ∧ Below w.heap.size w w' := by
  have hl := hr.len
  subst hl
  have hs : Hid (∀ p m c (w : World), Rd w p m c xs → Calls Try.prog 9 #[.slice p m c] w (Hash xs w)) := fun p m c w h => shaSum_any xs p m c w (by omega) h
  have ht : Hid (∀ p m c (w : World), Rd w p m c xs → Calls Try.prog 10 #[.slice p m c] w (Hash xs w)) := fun p m c w h => rSum_any xs p m c w (by omega) h
  have hd := shaL_len xs
  unfold Hash at hs ht
  generalize shaL xs = D at *
  have heq : ∀ W, (binOp .eql 24 (.agg (bvs D).toArray) (.agg (bvs D).toArray)).run Try.prog W = .ok (.bool true) W := fun W => by
    rw [eqD hd hd]; simp
  clear hd
  go_enter Try.func3, Try.ntmps3
  go_wp2_with (at_builtin; refine wl_append bt rfl _ _ rfl w.heap.size _ [] (Own.nil _ _ _) rfl a xs.length cap xs rfl hr (by simp; omega) (Nat.le_refl _) ?_; intro v1 w1 ho1 hb1; rw [List.nil_append] at ho1; obtain ⟨a1, c1, rfl, -⟩ := ho1.shape)
  refine (hs.out _ _ _ _ ho1.rd.toRd).mono ?_
  rintro e w2 ⟨rfl, hb2⟩
  have hb12 := hb1.trans (hb2.mono hb1.size)
  have hr2 := hr.to hb12
  have ho2 := ho1.to hb2
  clear hb1 hb2 ho1
  have HO := Lib.hid ho2
  have HR := Lib.hid hr2
  clear ho2 hr2
  go_wp2_with fail
  refine (ht.out _ _ _ _ HR.out).mono ?_
  rintro e w3 ⟨rfl, hb3⟩
  have hst1 := run_bstr bt Try.underlying9 (HO.out.to hb3).rd.toRd
  have hst2 := run_bstr bt Try.underlying9 (HR.out.to hb3)
  go_wp2_with fail
  refine (wakes_any _).mono ?_
  rintro e w4 ⟨rfl, hb4⟩
  go_wp2_with fail
  go_ret
  have x1 := hb12.size
  have x3 := hb3.size
  exact ⟨rfl, (hb12.trans (hb3.mono x1)).trans (hb4.mono (by omega))⟩

theorem bytes1F : 1 ≤ Try.prog.bytesOf 5 := of_decide_eq_true (by kernel_rfl)

theorem shaSums_full_lifted (os : Os) (started : os.Started) (H : Type) (enc : TypeId × Value → H) :
    ReturnsInHanded {} Try.checked os 3 .any (Rows.shaSumsSpec.pre6 enc Try.prog Try.f3 Rows.shaSumsRow.domain false) (Rows.shaSumsSpec.post enc Try.prog Try.f3 false true false false) := by
  refine returnsInHanded_of_change_sized (C := Try.checked) ownKnobs started (by kernel_rfl) Try.func3
    (ChangeSpec.witness6 (enc := enc) (C := Try.checked) false ⟨#[], #[.slice none 0 0], []⟩ 8 (by kernel_rfl) (by kernel_rfl) (by kernel_rfl) (by kernel_rfl)) ?_
  intro W base args ds gs before hval hW hcond hsz _
  have hW' := hW
  obtain ⟨p, q, hA0, hV, rfl, _, _⟩ := hW
  have hA : DataW.TrodAll enc Try.prog W 0 (fun _ => true) true Try.f3.params.toList args.toList ds p := hA0
  have hval' := hval
  rw [Try.params3] at hA hval' hsz
  obtain ⟨v0, d0, rfl, rfl, h0⟩ := trodAll_one hA
  obtain ⟨rfl, rfl⟩ := trodVars_none hV
  obtain ⟨a0, l0, c0, rfl⟩ := okWide_slice Try.underlying22 (hval' 0 22 v0 rfl rfl)
  obtain ⟨f0, hf0⟩ := h0
  obtain ⟨a, n, cap, xs, e0, hr, hn⟩ := rd_of_cells_d bt cells1 hf0 (fun _ => rfl)
  cases e0
  have b0 := dlen_reach hsz (j := 0) (t := 22) (e := 5) rfl rfl Try.underlying22 bytes1F
  simp only [reachBytes] at b0
  simp only at hn
  refine (Sums_any _ _ _ xs W (by omega) hr).mono fun e W' ⟨he, hw⟩ => ?_
  subst he
  exact ⟨_, rfl, law_post laidOuts (by kernel_rfl) rfl Try.underlying4 rfl hW' hw rfl⟩

theorem shaSums_full : Rows.ShaSumsSaid :=
  OpenClaim.holds_of_wide 3 Try.f3 rfl rfl rfl rfl rfl rfl rfl ⟨rfl, rfl, rfl, rfl, rfl⟩ rfl rfl rfl rfl rfl (by kernel_rfl) Try.func3 (by kernel_rfl)
    (of_decide_eq_true (by kernel_rfl)) (by unfold Func.isWrapper; first | (rw [if_pos (by decide +kernel)]; kernel_rfl) | (rw [if_neg (by decide +kernel)]; exact ⟨rfl, rfl⟩))
    (fun os started H enc _ => shaSums_full_lifted os started H enc)
end Go.Proofs.Ytgippimoklefnaa
