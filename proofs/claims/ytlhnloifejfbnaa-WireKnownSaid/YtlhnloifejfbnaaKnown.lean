/-
  WireKnown holds: the document's examples, ends and wrong inputs. No conditions.
-/
import Derived.Test.YtlhnloifejfbnaaWireF
import Derived.Test.YtlhnloifejfbnaaTop
namespace Go.Proofs.Ytlhnloifejfbnaa
open Go.ChangeShapes Go.WideShapes Go.ChangeAt Go.RowKit

theorem RNum_nil (size : Int) (w : World) :
    Calls Try.prog 16 #[.pointer none, .int .i64 size] w fun e w' => e = .returned (.tuple #[.int .u64 0, .int .i64 2]) ∧ w = w' := by
  go_enter Try.func16, Try.ntmps16
  go_wp2_with (go_at_call 31; refine (is_nil _).mono ?_; rintro e w1 ⟨rfl, rfl⟩)
  go_ret2
  exact ⟨rfl, rfl⟩
theorem RVec_nil (size : Int) (w : World) :
    Calls Try.prog 18 #[.pointer none, .int .i64 size] w fun e w' => e = .returned (.tuple #[.slice none 0 0, .int .i64 2]) ∧ w = w' := by
  go_enter Try.func18, Try.ntmps18
  go_wp2_with (go_at_call 31; refine (is_nil _).mono ?_; rintro e w1 ⟨rfl, rfl⟩)
  go_ret2
  exact ⟨rfl, rfl⟩
theorem Take_nil (size : Int) (w : World) :
    Calls Try.prog 20 #[.pointer none, .int .i64 size] w fun e w' => e = .returned (.tuple #[.slice none 0 0, .int .i64 2]) ∧ w = w' := by
  go_enter Try.func20, Try.ntmps20
  go_wp2_with (go_at_call 31; refine (is_nil _).mono ?_; rintro e w1 ⟨rfl, rfl⟩)
  go_ret2
  exact ⟨rfl, rfl⟩

set_option maxHeartbeats 1600000 in
set_option maxRecDepth 100000 in
theorem Known_any (w : World) : Calls Try.prog 7 #[] w fun e w' => e = .returned (.bool true) ∧ Below w.heap.size w w' := by
  go_enter Try.func7, Try.ntmps7
  go_wp2_with fail
  refine (Num_at none 0 0 256 256 1 [] _ (by decide) (by omega) (by omega) (Rd.none _)).mono ?_
  rintro e w1 ⟨v1, rfl, ho1, hb1⟩
  rw [show numF [] 256 1 = ([], 3) from by decide] at ho1 ⊢
  obtain ⟨a1, c1, rfl, -⟩ := ho1.shape
  clear ho1
  go_wp2_with fail
  refine (Num_at none 0 0 0 0 5 [] _ (by decide) (by omega) (by omega) (Rd.none _)).mono ?_
  rintro e w2 ⟨v2, rfl, ho2, hb2⟩
  rw [show numF [] 0 5 = ([], 1) from by decide] at ho2 ⊢
  obtain ⟨a2, c2, rfl, -⟩ := ho2.shape
  clear ho2
  replace hb2 := hb1.trans (hb2.mono hb1.size)
  go_wp2_with (at_make; refine wl_make bt rfl _ _ rfl w.heap.size 256 rfl rfl (by omega) hb2.size ?_; intro w3 ho3 hb3 hs3)
  have hr3 := ho3.rd.toRd
  replace hb3 := hb2.trans (hb3.mono hb2.size)
  refine (Vec_any none _ 0 0 256 256 1 [] (List.replicate 256 0) _ (by omega) (by omega) (Rd.none _) hr3).mono ?_
  rintro e w4 ⟨v4, rfl, ho4, hb4⟩
  have e4 : vecF [] (List.replicate 256 0) 1 = ([], 3) := by unfold vecF; rw [List.length_replicate]; decide
  rw [e4] at ho4 ⊢
  obtain ⟨a4, c4, rfl, -⟩ := ho4.shape
  replace hb4 := hb3.trans (hb4.mono hb3.size)
  clear ho4 ho3 hr3 e4 hb3 hs3
  go_wp2_with fail
  refine (Vec_any none none 0 0 0 0 4 [] [] _ (by omega) (by omega) (Rd.none _) (Rd.none _)).mono ?_
  rintro e w5 ⟨v5, rfl, ho5, hb5⟩
  rw [show vecF [] [] 4 = ([], 1) from by decide] at ho5 ⊢
  obtain ⟨a5, c5, rfl, -⟩ := ho5.shape
  replace hb5 := hb4.trans (hb5.mono hb4.size)
  clear ho5
  go_wp2_with fail
  have hb5' : Below w.heap.size w (w5.alloc (.cells #[.int .u8 0, .int .u8 2, .int .u8 97] 5)) := hb5.alloc hb5.size _
  refine (New_any _ _ _ [0, 2, 97] _ (by decide) (rd_lit w5 [0, 2, 97] 5)).mono ?_
  rintro e w6 ⟨q, r, rfl, hr6, hq, hrs, hb6⟩
  have hrw : w.heap.size ≤ r := Nat.le_trans hb5'.size hrs
  replace hb6 := hb5'.trans (hb6.mono hb5'.size)
  clear hb5' hrs hb1 hb2 hb4 hb5
  go_wp2_with fail
  refine (RVec_any q r _ 2 _ (by decide) hr6).mono ?_
  rintro e w7 ⟨v7, rfl, ho7, hr7, hg7⟩
  rw [show rvecF [0, 2, 97] 2 = ([], 4, [0, 2, 97]) from by decide] at ho7 hr7 ⊢
  obtain ⟨a7, c7, rfl, -⟩ := ho7.shape
  have hb7 := hb6.grown hg7 hb6.size (by intro k e; cases e; exact hrw)
  clear ho7 hr6 hg7 hb6
  go_wp2_with fail
  refine (Left_any q r _ _ hr7).mono ?_
  rintro e w8 ⟨rfl, rfl⟩
  go_wp2_with fail
  refine (RNum_any q r _ 1 _ (by decide) hr7).mono ?_
  rintro e w8 ⟨rfl, hr8, hg8⟩
  rw [show rnumF [0, 2, 97] 1 = (0, 0, [2, 97]) from by decide] at hr8 ⊢
  have hb8 := hb7.grown hg8 hb7.size (by intro k e; cases e; exact hrw)
  clear hr7 hg8 hb7
  go_wp2_with fail
  refine (Take_any q r _ 3 _ (by decide) hr8).mono ?_
  rintro e w9 ⟨v9, rfl, ho9, hr9, hg9⟩
  rw [show takeF [2, 97] 3 = ([], 4, [2, 97]) from by decide] at ho9 hr9 ⊢
  obtain ⟨a9, c9, rfl, -⟩ := ho9.shape
  have hb9 := hb8.grown hg9 hb8.size (by intro k e; cases e; exact hrw)
  clear ho9 hr8 hg9 hb8
  go_wp2_with fail
  refine (Take_any q r _ (-1) _ (by decide) hr9).mono ?_
  rintro e w10 ⟨v10, rfl, ho10, hr10, hg10⟩
  rw [show takeF [2, 97] (-1) = ([], 1, [2, 97]) from by decide] at ho10 hr10 ⊢
  obtain ⟨a10, c10, rfl, -⟩ := ho10.shape
  have hb10 := hb9.grown hg10 hb9.size (by intro k e; cases e; exact hrw)
  clear ho10 hr9 hg10 hb9
  go_wp2_with fail
  refine (RNum_any q r _ 0 _ (by decide) hr10).mono ?_
  rintro e w11 ⟨rfl, hr11, hg11⟩
  rw [show rnumF [2, 97] 0 = (0, 1, [2, 97]) from by decide] at hr11 ⊢
  have hb11 := hb10.grown hg11 hb10.size (by intro k e; cases e; exact hrw)
  clear hr10 hg11 hb10
  go_wp2_with fail
  refine (RVec_any q r _ 8 _ (by decide) hr11).mono ?_
  rintro e w12 ⟨v12, rfl, ho12, hr12, hg12⟩
  rw [show rvecF [2, 97] 8 = ([], 1, [2, 97]) from by decide] at ho12 hr12 ⊢
  obtain ⟨a12, c12, rfl, -⟩ := ho12.shape
  have hb12 := hb11.grown hg12 hb11.size (by intro k e; cases e; exact hrw)
  clear ho12 hr11 hg12 hb11
  go_wp2_with fail
  refine (Take_any q r _ 0 _ (by decide) hr12).mono ?_
  rintro e w13 ⟨v13, rfl, ho13, hr13, hg13⟩
  rw [show takeF [2, 97] 0 = ([], 0, [2, 97]) from by decide] at ho13 hr13 ⊢
  obtain ⟨a13, c13, rfl, -⟩ := ho13.shape
  have hb13 := hb12.grown hg13 hb12.size (by intro k e; cases e; exact hrw)
  clear ho13 hr12 hg13 hb12
  go_wp2_with fail
  refine (Num_at none 0 0 18446744073709551615 18446744073709551615 8 [] _ (by decide) (by omega) (by omega) (Rd.none _)).mono ?_
  rintro e w14 ⟨v14, rfl, ho14, hb14⟩
  rw [show numF [] 18446744073709551615 8 = ([255, 255, 255, 255, 255, 255, 255, 255], 0) from by decide] at ho14 ⊢
  obtain ⟨a14, c14, rfl, -⟩ := ho14.shape
  replace hb14 := hb13.trans (hb14.mono hb13.size)
  clear ho14 hb13
  go_wp2_with (first | (go_at_call 16; refine (RNum_nil _ _).mono ?_; rintro e w1 ⟨rfl, rfl⟩) | (go_at_call 18; refine (RVec_nil _ _).mono ?_; rintro e w1 ⟨rfl, rfl⟩) | (go_at_call 20; refine (Take_nil _ _).mono ?_; rintro e w1 ⟨rfl, rfl⟩))
  refine (Num_at none 0 0 16777216 16777216 3 [] _ (by decide) (by omega) (by omega) (Rd.none _)).mono ?_
  rintro e w15 ⟨v15, rfl, ho15, hb15⟩
  rw [show numF [] 16777216 3 = ([], 3) from by decide] at ho15 ⊢
  obtain ⟨a15, c15, rfl, -⟩ := ho15.shape
  replace hb15 := hb14.trans (hb15.mono hb14.size)
  clear ho15 hb14
  go_wp2_with fail
  refine (awake_any _).mono ?_
  rintro e w16 ⟨rfl, hb16⟩
  replace hb16 := hb15.trans (hb16.mono hb15.size)
  clear hb15
  go_wp2_with (go_at_call 22; refine (Left_nil _).mono ?_; rintro e w1 ⟨rfl, rfl⟩)
  go_ret
  exact ⟨rfl, hb16⟩

set_option maxRecDepth 100000 in
theorem wireKnown_lifted (os : Os) (started : os.Started) (H : Type) (enc : TypeId × Value → H) :
    ReturnsInHanded {} Try.checked os 7 .any (Rows.wireKnownSpec.pre6 enc Try.prog Try.f7 Rows.wireKnownRow.domain false) (Rows.wireKnownSpec.post enc Try.prog Try.f7 false true false false) := by
  refine returnsInHanded_of_change (C := Try.checked) ownKnobs started (by kernel_rfl) Try.func7
    (ChangeSpec.witness6 (enc := enc) (C := Try.checked) false ⟨#[], #[], []⟩ 8 (by kernel_rfl) (by kernel_rfl) (by kernel_rfl) (by kernel_rfl)) ?_
  intro W base args ds gs before hval0 hW _ _
  have hW' := hW
  obtain ⟨p, q, hA0, hV, rfl, _, _⟩ := hW
  have hA : DataW.TrodAll enc Try.prog W 0 (fun _ => true) true Try.f7.params.toList args.toList ds p := hA0
  rw [Try.params7] at hA
  obtain ⟨hargs, rfl, rfl⟩ := trodAll_nil hA
  obtain rfl : args = #[] := by cases args; simp_all
  obtain ⟨rfl, rfl⟩ := trodVars_none hV
  refine (Known_any W).mono fun e W' ⟨he, hw⟩ => ?_
  subst he
  exact ⟨_, rfl, law_post laidOuts (by kernel_rfl) rfl Try.underlying4 rfl hW' hw rfl⟩

theorem wireKnown_proved : Rows.WireKnownSaid :=
  OpenClaim.holds_of_wide 7 Try.f7 rfl rfl rfl rfl rfl rfl rfl ⟨rfl, rfl, rfl, rfl, rfl⟩ rfl rfl rfl rfl rfl (by kernel_rfl) Try.func7 (by kernel_rfl)
    (of_decide_eq_true (by kernel_rfl)) (by unfold Func.isWrapper; first | (rw [if_pos (by decide +kernel)]; kernel_rfl) | (rw [if_neg (by decide +kernel)]; exact ⟨rfl, rfl⟩))
    (fun os started H enc _ => wireKnown_lifted os started H enc)
end Go.Proofs.Ytlhnloifejfbnaa
