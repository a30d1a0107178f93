/-
  For every head, what the program says is signed for it is what the document says. Conditions: none.
-/
import Derived.Test.YtcohcjhbkiangaaEnM
namespace Go.Proofs.Ytcohcjhbkiangaa
open Go.ChangeShapes Go.WideShapes Go.ChangeAt Go.RowKit

theorem sizeHd : (Try.prog.info? 55).map (·.size) = some 98 := by kernel_rfl
structure InvHeads (sz tm B : Nat) (root : List UInt8) (hd : List Value) (w1 : World) (L : Nat → Bool) (v3 v4 v5 v6 v7 v8 v9 v10 v2 : Value) (wx : World) : Prop where
  t0 : L 0 = true → v3 = .bool true
  t1 : L 1 = true → v4 = .bool true
  t2 : L 2 = true → v5 = .agg hd.toArray
  t3 : L 3 = true → ∃ a n c, v6 = .slice a n c ∧ Rd wx a n c (headF sz tm root)
  t4 : L 4 = true → v7 = .agg hd.toArray
  t5 : L 5 = true → ∃ a n c, v8 = .slice a n c ∧ Rd wx a n c (headF sz tm root)
  t6 : L 6 = true → v9 = .bool true
  t7 : L 7 = true → v10 = .bool true
  t8 : L 8 = true → v2 = .bool true
  bw : Below w1.heap.size w1 wx

set_option maxRecDepth 100000 in
set_option maxHeartbeats 1000000 in
theorem Heads_any (sz tm : Nat) (root sig : List UInt8) (w : World) (hsz : sz ≤ 18446744073709551615) (htm : tm ≤ 18446744073709551615) (hroot : root.length = 32) (hsig : sig.length = 64) :
    Calls Try.prog 5 #[.agg (hdL sz tm root sig).toArray] w fun e w' => e = .returned (.bool true) ∧ Below w.heap.size w w' := by
  have hS1 := Lib.hid (fun w => SignedHead_any sz tm root sig w hsz htm hroot)
  have hS2 := Lib.hid (fun w => refSignedHead_any sz tm root sig w hsz htm hroot)
  have hsz0 : Hid ((Try.prog.info? 55).map (·.size) = some (hdL sz tm root sig).length) := by
    show _ = _
    have e : (hdL sz tm root sig).length = 98 := by simp [hdL, hroot, hsig]
    rw [e]
    exact sizeHd
  generalize hdL sz tm root sig = hd at *
  go_enter Try.func5, Try.ntmps5
  go_wp2_with (((with_reducible show wpList _ _ _ (⟨some 1, .box _ _, _, _, _, _⟩ :: _) _ _); refine wl_box rfl 55 _ rfl hd rfl ?_; intro w1 hA1 hb1 lB))
  have HB1 := Lib.hid hb1
  clear hb1
  generalize hB : w.heap.size = B at lB hA1 ⊢
  have HB := Lib.hid hB
  clear hB
  refine wp_region_steps [[], [0], [1], [2, 1], [1], [4, 3, 1], [3, 5, 1], [1, 6], [7]] (by kernel_rfl) (by kernel_rfl) (fun L a wx => ∃ v3 v4 v5 v6 v7 v8 v9 v10 v2, a = ⟨#[.agg hd.toArray, .pointer (some ⟨B, 0, none⟩), v2, v3, v4, v5, v6, v7, v8, v9, v10], []⟩ ∧ InvHeads sz tm B root hd w1 L v3 v4 v5 v6 v7 v8 v9 v10 v2 wx) ?_ ⟨?_, ?_, ?_, ?_, ?_, ?_, ?_, ?_, ?_, trivial⟩ ?_
  · refine ⟨_, _, _, _, _, _, _, _, _, rfl, ⟨?_, ?_, ?_, ?_, ?_, ?_, ?_, ?_, ?_, below_drew (Below.refl _ _)⟩⟩ <;> (intro h; exact absurd h (by decide))
  · rintro L a wx ⟨v3, v4, v5, v6, v7, v8, v9, v10, v2, rfl, hI⟩ hL hdep hcl K hK
    go_simp
    refine (awake_any wx).mono ?_
    rintro e w' ⟨rfl, hb⟩
    exact hK _ _ ⟨_, v4, v5, v6, v7, v8, v9, v10, v2, rfl, ⟨fun _ => rfl, hI.t1, hI.t2, fun h => let ⟨a, n, c, e, h⟩ := hI.t3 h; ⟨a, n, c, e, h.to hb⟩, hI.t4, fun h => let ⟨a, n, c, e, h⟩ := hI.t5 h; ⟨a, n, c, e, h.to hb⟩, hI.t6, hI.t7, hI.t8, (hI.bw).trans (hb.mono hI.bw.size)⟩⟩
  · rintro L a wx ⟨v3, v4, v5, v6, v7, v8, v9, v10, v2, rfl, hI⟩ hL hdep hcl K hK
    obtain rfl := hI.t0 (hdep 0 (by decide))
    go_simp
    exact hK _ _ ⟨_, _, v5, v6, v7, v8, v9, v10, v2, rfl, ⟨hI.t0, fun _ => rfl, hI.t2, hI.t3, hI.t4, hI.t5, hI.t6, hI.t7, hI.t8, hI.bw⟩⟩
  · rintro L a wx ⟨v3, v4, v5, v6, v7, v8, v9, v10, v2, rfl, hI⟩ hL hdep hcl K hK
    obtain rfl := hI.t1 (hdep 1 (by decide))
    refine (if_pos rfl).mpr ?_
    refine ow_load 55 _ rfl B 0 rfl 55 hd hd (hA1.to hI.bw lB) (fun j v h => by rw [Nat.zero_add]; exact h) _ Try.underlying55 rfl hsz0.out ?_
    exact hK _ _ ⟨v3, _, _, v6, v7, v8, v9, v10, v2, rfl, ⟨hI.t0, hI.t1, fun _ => rfl, hI.t3, hI.t4, hI.t5, hI.t6, hI.t7, hI.t8, hI.bw⟩⟩
  · rintro L a wx ⟨v3, v4, v5, v6, v7, v8, v9, v10, v2, rfl, hI⟩ hL hdep hcl K hK
    obtain rfl := hI.t2 (hdep 2 (by decide))
    obtain rfl := hI.t1 (hdep 1 (by decide))
    refine (if_pos rfl).mpr ?_
    go_simp
    refine (hS1.out wx).mono ?_
    rintro e w' ⟨v, rfl, ho, hb⟩
    obtain ⟨a, n, c, rfl, hr⟩ := ho.reads
    exact hK _ _ ⟨v3, _, _, _, v7, v8, v9, v10, v2, rfl, ⟨hI.t0, hI.t1, hI.t2, fun _ => ⟨a, n, c, rfl, hr.toRd⟩, hI.t4, fun h => let ⟨a, n, c, e, h⟩ := hI.t5 h; ⟨a, n, c, e, h.to hb⟩, hI.t6, hI.t7, hI.t8, (hI.bw).trans (hb.mono hI.bw.size)⟩⟩
  · rintro L a wx ⟨v3, v4, v5, v6, v7, v8, v9, v10, v2, rfl, hI⟩ hL hdep hcl K hK
    obtain rfl := hI.t1 (hdep 1 (by decide))
    refine (if_pos rfl).mpr ?_
    refine ow_load 55 _ rfl B 0 rfl 55 hd hd (hA1.to hI.bw lB) (fun j v h => by rw [Nat.zero_add]; exact h) _ Try.underlying55 rfl hsz0.out ?_
    exact hK _ _ ⟨v3, _, v5, v6, _, v8, v9, v10, v2, rfl, ⟨hI.t0, hI.t1, hI.t2, hI.t3, fun _ => rfl, hI.t5, hI.t6, hI.t7, hI.t8, hI.bw⟩⟩
  · rintro L a wx ⟨v3, v4, v5, v6, v7, v8, v9, v10, v2, rfl, hI⟩ hL hdep hcl K hK
    obtain rfl := hI.t4 (hdep 4 (by decide))
    obtain rfl := hI.t1 (hdep 1 (by decide))
    refine (if_pos rfl).mpr ?_
    go_simp
    refine (hS2.out wx).mono ?_
    rintro e w' ⟨v, rfl, ho, hb⟩
    obtain ⟨a, n, c, rfl, hr⟩ := ho.reads
    exact hK _ _ ⟨v3, _, v5, v6, _, _, v9, v10, v2, rfl, ⟨hI.t0, hI.t1, hI.t2, fun h => let ⟨a, n, c, e, h⟩ := hI.t3 h; ⟨a, n, c, e, h.to hb⟩, hI.t4, fun _ => ⟨a, n, c, rfl, hr.toRd⟩, hI.t6, hI.t7, hI.t8, (hI.bw).trans (hb.mono hI.bw.size)⟩⟩
  · rintro L a wx ⟨v3, v4, v5, v6, v7, v8, v9, v10, v2, rfl, hI⟩ hL hdep hcl K hK
    obtain rfl := hI.t1 (hdep 1 (by decide))
    refine (if_pos rfl).mpr ?_
    obtain ⟨a1, n1, c1, rfl, hr1⟩ := hI.t3 (hdep 3 (by decide))
    obtain ⟨a2, n2, c2, rfl, hr2⟩ := hI.t5 (hdep 5 (by decide))
    go_simp
    refine (Equal_any _ _ _ _ _ _ _ _ wx hr1 hr2).mono ?_
    rintro e w' ⟨rfl, rfl⟩
    exact hK _ _ ⟨v3, _, v5, _, v7, _, _, v10, v2, rfl, ⟨hI.t0, hI.t1, hI.t2, fun _ => ⟨a1, n1, c1, rfl, hr1⟩, hI.t4, fun _ => ⟨a2, n2, c2, rfl, hr2⟩, fun _ => by simp, hI.t7, hI.t8, hI.bw⟩⟩
  · rintro L a wx ⟨v3, v4, v5, v6, v7, v8, v9, v10, v2, rfl, hI⟩ hL hdep hcl K hK
    obtain rfl := hI.t1 (hdep 1 (by decide))
    obtain rfl := hI.t6 (hdep 6 (by decide))
    go_simp
    exact hK _ _ ⟨v3, _, v5, v6, v7, v8, _, _, v2, rfl, ⟨hI.t0, hI.t1, hI.t2, hI.t3, hI.t4, hI.t5, hI.t6, fun _ => rfl, hI.t8, hI.bw⟩⟩
  · rintro L a wx ⟨v3, v4, v5, v6, v7, v8, v9, v10, v2, rfl, hI⟩ hL hdep hcl K hK
    obtain rfl := hI.t7 (hdep 7 (by decide))
    go_simp
    exact hK _ _ ⟨v3, v4, v5, v6, v7, v8, v9, _, _, rfl, ⟨hI.t0, hI.t1, hI.t2, hI.t3, hI.t4, hI.t5, hI.t6, hI.t7, fun _ => rfl, hI.bw⟩⟩
  · rintro a wx ⟨v3, v4, v5, v6, v7, v8, v9, v10, v2, rfl, hI⟩
    obtain rfl := hI.t8 rfl
    have hbw := hI.bw
    go_wp2
    go_ret
    have hb1 := HB1.out
    exact ⟨rfl, hb1.trans (hbw.mono hb1.size)⟩

set_option maxRecDepth 100000 in
theorem entryHeads_lifted (os : Os) (started : os.Started) (H : Type) (enc : TypeId × Value → H) :
    ReturnsInHanded {} Try.checked os 5 .any (Rows.entryHeadsSpec.pre6 enc Try.prog Try.f5 Rows.entryHeadsRow.domain false) (Rows.entryHeadsSpec.post enc Try.prog Try.f5 false true false false) := by
  refine returnsInHanded_of_change_sized (C := Try.checked) ownKnobs started (by kernel_rfl) Try.func5
    (ChangeSpec.witness6 (enc := enc) (C := Try.checked) false ⟨#[], #[.agg (hdL 0 0 (List.replicate 32 0) (List.replicate 64 0)).toArray], []⟩ 8 (by kernel_rfl) (by kernel_rfl) (by kernel_rfl) (by kernel_rfl)) ?_
  intro W base args ds gs before hval hW hcond hsz _
  have hW' := hW
  obtain ⟨p, q, hA0, hV, rfl, _, _⟩ := hW
  have hA : DataW.TrodAll enc Try.prog W 0 (fun _ => true) true Try.f5.params.toList args.toList ds p := hA0
  have hval' := hval
  rw [Try.params5] at hA hval'
  obtain ⟨v0, d0, rfl, rfl, h0⟩ := trodAll_one hA
  obtain ⟨rfl, rfl⟩ := trodVars_none hV
  have hv0 := hval' 0 55 v0 rfl rfl
  simp only [Value.okWide] at hv0
  obtain ⟨cs, rfl, -, -⟩ := hv0
  obtain ⟨f0, hf0⟩ := h0
  obtain ⟨sz, tm, root, sig, e0, h1, h2, h3, h4⟩ := head_of_cells hf0
  obtain rfl : cs = (hdL sz tm root sig).toArray := by
    apply Array.toList_inj.1
    rw [List.toList_toArray]
    exact e0
  refine (Heads_any sz tm root sig W h1 h2 h3 h4).mono fun e W' ⟨he, hw⟩ => ?_
  subst he
  exact ⟨_, rfl, law_post laidOuts (by kernel_rfl) rfl Try.underlying4 rfl hW' hw rfl⟩

theorem entryHeads_proved : Rows.EntryHeadsSaid :=
  OpenClaim.holds_of_wide 5 Try.f5 rfl rfl rfl rfl rfl rfl rfl ⟨rfl, rfl, rfl, rfl, rfl⟩ rfl rfl rfl rfl rfl (by kernel_rfl) Try.func5 (by kernel_rfl)
    (of_decide_eq_true (by kernel_rfl)) (by unfold Func.isWrapper; first | (rw [if_pos (by decide +kernel)]; kernel_rfl) | (rw [if_neg (by decide +kernel)]; exact ⟨rfl, rfl⟩))
    (fun os started H enc _ => entryHeads_lifted os started H enc)
end Go.Proofs.Ytcohcjhbkiangaa
