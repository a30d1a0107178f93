/-
  The statement's side: the document's examples; errors in their order; none. Conditions: those in each statement.
-/
import Derived.Test.YtcnkgenhbnafjaaFiY
namespace Go.Proofs.Ytcnkgenhbnafjaa
open Go.RowKit

abbrev n32 : ByteArray := ⟨#[48, 49, 50, 51, 52, 53, 54, 55, 56, 57, 97, 98, 99, 100, 101, 102, 103, 104, 105, 106, 107, 108, 109, 110, 111, 112, 113, 114, 115, 116, 117, 118]⟩
abbrev n33 : ByteArray := ⟨#[48, 49, 50, 51, 52, 53, 54, 55, 56, 57, 97, 98, 99, 100, 101, 102, 103, 104, 105, 106, 107, 108, 109, 110, 111, 112, 113, 114, 115, 116, 117, 118, 119]⟩
theorem not_in {s : ByteArray} {ns : List ByteArray} (h : ns.all (fun x => decide (x ≠ s)) = true) : s ∉ ns := fun e => by
  have := List.all_eq_true.1 h s e
  simp at this
theorem is_in {s : ByteArray} {ns : List ByteArray} (h : ns.any (fun x => decide (x = s)) = true) : s ∈ ns := by
  obtain ⟨x, hx, e⟩ := List.any_eq_true.1 h
  have : x = s := by simpa using e
  exact this ▸ hx
theorem n32_name : nameB n32 = true := by decide
theorem n33_name : nameB n33 = false := by decide
set_option maxRecDepth 100000 in
set_option maxHeartbeats 8000000 in
theorem Known_any (w : World) : Calls Try.prog 5 #[] w fun e w' => e = .returned (.bool true) ∧ Below w.heap.size w w' := by
  have HN := e_new 9 (by omega) w
  go_enter Try.func5, Try.ntmps5
  go_upto_region 4 with (first
    | (go_at_call 7; refine HN.mono ?_; rintro e w1 ⟨r, m, rfl, hd1, hb1⟩)
    | (go_at_call 6; refine (awake_any _).mono ?_; rintro e w2 ⟨rfl, hb2⟩; (have hd2 := hd1.to hb2))
    | (go_at_call 9; go_loud (refine (e_create hd2 nA nA_name (by simp) (by simp) (by omega) (by omega) (by intro k e; cases e)).mono ?_); rintro e w3 ⟨rfl, hd3, hf3⟩; (have hd3 : Emp w3 _ r m 9 [nA] 0 false none := hd3)))
  have hB1 := hb1.size
  have F1 := (KB.low0 (S := fun k => w.heap.size ≤ k ∧ (none : Option Nat) ≠ some k) hb1).trans ((Fr.of hb2).trans hf3)
  clear hd1 hd2 hb2 hf3
  have HF1 := Lib.hid F1
  clear F1
  go_upto_region 6 with (first
    | (go_at_call 19; go_loud (refine (e_read6 hd4 nA nA_name (not_in (by decide))).mono ?_); rintro e w5 ⟨rfl, hb5⟩; (have hd5 := hd4.to hb5))
    | (go_at_call 15; go_loud (refine (e_rename hd3 nA nB nA_name (nm_name true) (by simp) (by omega) (by omega)).mono ?_); rintro e w4 ⟨rfl, hd4, hf4⟩; (have hd4 : Emp w4 _ r m 9 [nB] 0 false none := hd4.cast (by decide))))
  have F5 := (HF1.out.trans hf4).trans (Fr.of hb5)
  clear HF1 hd3 hd4 hf4 hb5
  have H5 := Lib.hid F5
  clear F5
  go_upto_region 7 with (go_at_call 33; go_loud (refine (e_name1 hd5).mono ?_); rintro e w6 ⟨g, cg, rfl, hg1, hg2, hg3, hgc, hb6⟩; (have hd6 := (hd5.see hg1).to hb6))
  have F6 : Fr w.heap.size none w w6 := H5.out.trans (Fr.of hb6)
  clear H5 hd5 hb6
  have h56 : w.heap.size ≤ w6.heap.size := F6.size
  have H6 := Lib.hid F6
  have HG := Lib.hid hgc
  clear F6 hgc hg1
  go_upto_region 8 with (first
    | (go_at_call 9; (have _g := hd7); go_loud (refine (e_create_bad hd7 ⟨#[]⟩ (by decide) (by decide)).mono ?_); rintro e w8 ⟨rfl, hb8⟩; (have hd8 := hd7.to hb8))
    | (go_at_call 9; go_loud (refine (e_create_bad hd6 ⟨#[65]⟩ (by decide) (by decide)).mono ?_); rintro e w7 ⟨rfl, hb7⟩; (have hd7 := hd6.to hb7)))
  have F8 : Fr w.heap.size (some g) w6 w8 := (Fr.of hb7).trans (Fr.of hb8)
  clear hd6 hd7 hb7 hb8
  have hg8 : g < w8.heap.size := Nat.lt_of_lt_of_le hg2 F8.size
  have H8 := Lib.hid F8
  clear F8
  go_upto_region 9 with (first
    | (go_at_call 9; (have _g := hd9); go_loud (refine (e_create_bad hd9 n33 (by decide) n33_name).mono ?_); rintro e w10 ⟨rfl, hb10⟩; (have hd10 := hd9.to hb10))
    | (go_at_call 9; go_loud (refine (e_create hd8 n32 n32_name (not_in (by decide)) (by simp) (by omega) (by omega) (by intro k e; injection e with e; omega)).mono ?_); rintro e w9 ⟨rfl, hd9, hf9⟩; (have hd9 : Emp w9 _ r m 9 [nB, n32] 0 false (some g) := hd9)))
  have F10 : Fr w.heap.size (some g) w6 w10 := (H8.out.trans hf9).trans (Fr.of hb10)
  clear H8 hd8 hd9 hf9 hb10 hg8
  have hg10 : g < w10.heap.size := Nat.lt_of_lt_of_le hg2 F10.size
  have H10 := Lib.hid F10
  clear F10
  go_upto_region 10 with (first
    | ((with_reducible show wpList _ _ _ (⟨some 63, _, _, _, _, _⟩ :: _) _ _); refine wl_make bt rfl _ _ rfl w10.heap.size 99 rfl rfl (by omega) (Nat.le_refl _) ?_; intro w11 ho11 hb11 hs11; (have hd11 := hd10.to hb11))
    | (go_at_call 11; (have _g := hd12); go_loud (refine (e_append0 hd12 nB (nm_name true) (is_in (by decide)) (by omega) (by omega) (by omega) (by intro k e; injection e with e; omega)).mono ?_); rintro e w13 ⟨rfl, hd13, hf13⟩; (have hd13 : Emp w13 _ r m 9 [nB, n32] 0 false (some g) := hd13))
    | (go_at_call 11; go_loud (refine (e_append6 hd11 ⟨#[113]⟩ (by decide) (not_in (by decide)) _).mono ?_); rintro e w12 ⟨rfl, hb12⟩; (have hd12 := hd11.to hb12); (have hg12 : g < w12.heap.size := by have := hb12.size; omega)))
  have F13 : Fr w.heap.size (some g) w6 w13 := ((H10.out.trans (Fr.of hb11)).trans (Fr.of hb12)).trans hf13
  clear H10 hd10 hd11 hd12 hb11 hb12 hf13 hg10 hg12 ho11
  have H13 := Lib.hid F13
  clear F13
  go_upto_region 11 with (first
    | (go_at_call 15; (have _g := hd14); go_loud (refine (e_rename6 hd14 ⟨#[113]⟩ ⟨#[114]⟩ (by decide) (by decide) (not_in (by decide))).mono ?_); rintro e w15 ⟨rfl, hb15⟩; (have hd15 := hd14.to hb15))
    | (go_at_call 15; go_loud (refine (e_rename1 hd13 ⟨#[113]⟩ ⟨#[66]⟩ (by decide) (by decide) (by decide)).mono ?_); rintro e w14 ⟨rfl, hb14⟩; (have hd14 := hd13.to hb14)))
  have F15 : Fr w.heap.size (some g) w6 w15 := (H13.out.trans (Fr.of hb14)).trans (Fr.of hb15)
  clear H13 hd13 hd14 hb14 hb15
  have hg15 : g < w15.heap.size := Nat.lt_of_lt_of_le hg2 F15.size
  have H15 := Lib.hid F15
  clear F15
  go_upto_region 13 with (first
    | (go_at_call 26; go_loud (refine (e_fuse hd16 2).mono ?_); rintro e w17 ⟨rfl, hd17, hf17⟩)
    | (go_at_call 15; go_loud (refine (e_rename hd15 nB nB (nm_name true) (nm_name true) (is_in (by decide)) (by omega) (by omega)).mono ?_); rintro e w16 ⟨rfl, hd16, hf16⟩; (have hd16 : Emp w16 _ r m 9 [n32, nB] 0 false (some g) := hd16.cast (by decide))))
  have F17 : Fr w.heap.size (some g) w6 w17 := (H15.out.trans hf16).trans hf17
  clear H15 hd15 hd16 hf16 hf17 hg15
  have hg17 : g < w17.heap.size := Nat.lt_of_lt_of_le hg2 F17.size
  have H17 := Lib.hid F17
  clear F17
  go_upto_region 14 with (first
    | (go_at_call 9; (have _g := hd18); go_loud (refine (e_create_off hd18 ⟨#[100]⟩ (by decide) (by simp)).mono ?_); rintro e w19 ⟨rfl, hd19, hf19⟩)
    | (go_at_call 9; go_loud (refine (e_create hd17 ⟨#[99]⟩ (by decide) (not_in (by decide)) (by simp) (by omega) (by omega) (by intro k e; injection e with e; omega)).mono ?_); rintro e w18 ⟨rfl, hd18, hf18⟩; (have hd18 : Emp w18 _ r m 9 [n32, nB, ⟨#[99]⟩] 1 false (some g) := hd18)))
  have F19 : Fr w.heap.size (some g) w6 w19 := (H17.out.trans hf18).trans hf19
  clear H17 hd17 hd18 hf18 hf19 hg17
  have H19 := Lib.hid F19
  clear F19
  go_upto_region 17 with (first
    | (go_at_call 34; go_loud (refine (e_off hd19).mono ?_); rintro e w20 ⟨rfl, rfl⟩)
    | (go_at_call 19; go_loud (refine (e_read8 hd19 ⟨#[90]⟩ (by decide)).mono ?_); rintro e w21 ⟨rfl, hb21⟩; (have hd21 := hd19.to hb21))
    | (go_at_call 28; go_loud (refine (e_crash0 hd21 (by simp)).mono ?_); rintro e w22 ⟨rfl, hd22, hf22⟩))
  have F22 : Fr w.heap.size (some g) w6 w22 := (H19.out.trans (Fr.of hb21)).trans hf22
  clear H19 hd19 hd21 hb21 hf22
  have H22 := Lib.hid F22
  clear F22
  go_upto_region 24 with (first
    | (go_at_call 7; refine (New_bad (-1) (by omega) _).mono ?_; rintro e w23 ⟨rfl, rfl⟩)
    | (go_at_call 19; go_loud (refine (Read_nil _ _).mono ?_); rintro e w24 ⟨rfl, hb24⟩)
    | (go_at_call 22; go_loud (refine (Loose_nil _ _).mono ?_); rintro e w25 ⟨rfl, hb25⟩)
    | (go_at_call 28; go_loud (refine (Crash_nil _ _).mono ?_); rintro e w26 ⟨rfl, rfl⟩)
    | (go_at_call 26; go_loud (refine (Fuse_nil _ _).mono ?_); rintro e w27 ⟨rfl, rfl⟩)
    | (go_at_call 24; go_loud (refine (Quota_nil _ _).mono ?_); rintro e w28 ⟨rfl, rfl⟩))
  have F25 : Fr w.heap.size (some g) w6 w25 := (H22.out.trans (Fr.of hb24)).trans (Fr.of hb25)
  have hd25 := (hd22.to hb24).to hb25
  have c25 : w25.cell? ⟨g, 0, none⟩ = some (.string nB) := (F25.cell hg2 (fun e => e.2 rfl)).trans HG.out
  have h25 : w.heap.size ≤ w25.heap.size := Nat.le_trans h56 F25.size
  have B25 : Below w.heap.size w w25 := (H6.out.low (Nat.le_refl _)).trans (F25.low h56)
  have HB25 := Lib.hid B25
  clear H22 hd22 hb24 hb25 F25 HG B25 H6
  go_wp2_with (first
    | (go_at_call 34; (have _g := hd25); go_loud (refine (e_off hd25).mono ?_); rintro e w26 ⟨rfl, rfl⟩)
    | (go_at_call 34; go_loud (refine (Off_nil _).mono ?_); rintro e w36 ⟨rfl, rfl⟩)
    | (go_at_call 33; (have _g := hd25); go_loud (refine (e_names hd25 (by simp)).mono ?_); rintro e w27 ⟨a27, c27, rfl, hr27, hb27⟩; clear hr27 hd25)
    | (go_at_call 33; go_loud (refine (Names_nil _).mono ?_); rintro e w34 ⟨rfl, rfl⟩)
    | (go_at_call 9; go_loud (refine (Create_nil _ _).mono ?_); rintro e w29 ⟨rfl, hb29⟩)
    | (go_at_call 11; go_loud (refine (Append_nil _ _ _).mono ?_); rintro e w30 ⟨rfl, hb30⟩)
    | (go_at_call 13; go_loud (refine (Sync_nil _ _).mono ?_); rintro e w31 ⟨rfl, hb31⟩)
    | (go_at_call 15; go_loud (refine (Rename_nil _ _ _).mono ?_); rintro e w32 ⟨rfl, hb32⟩)
    | (go_at_call 17; go_loud (refine (Remove_nil _ _).mono ?_); rintro e w33 ⟨rfl, hb33⟩)
    | (go_at_call 32; go_loud (refine (Used_nil _).mono ?_); rintro e w35 ⟨rfl, rfl⟩)
    | (go_at_call 30; go_loud (refine (Copy_nil _).mono ?_); rintro e w37 ⟨rfl, rfl⟩))
  go_ret
  have b27 := HB25.out.trans (hb27.mono h25)
  have b29 := b27.trans (hb29.mono b27.size)
  have b30 := b29.trans (hb30.mono b29.size)
  have b31 := b30.trans (hb31.mono b30.size)
  have b32 := b31.trans (hb32.mono b31.size)
  have b33 := b32.trans (hb33.mono b32.size)
  exact ⟨rfl, b33⟩
end Go.Proofs.Ytcnkgenhbnafjaa
