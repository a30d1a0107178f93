/-
  EntryOwn holds: two entries have one leaf just if they have one Time and one certificate; nothing is signed both for an entry and for a head; what is signed for a head is its own. Conditions: none.
-/
import Derived.Test.YtcohcjhbkiangaaEOwn
namespace Go.Proofs.Ytcohcjhbkiangaa
open Go.ChangeShapes Go.WideShapes Go.ChangeAt Go.RowKit


theorem fieldsO : ∃ f0 f1 f2 f3 : Field, Try.prog.underlying 60 = some (.struct #[f0, f1, f2, f3]) ∧ f0.type = 25 ∧ f0.offset = 0 ∧ f1.type = 25 ∧ f1.offset = 2 ∧ f2.type = 55 ∧ f2.offset = 4 ∧ f3.type = 55 ∧ f3.offset = 102 := ⟨_, _, _, _, Try.underlying60, rfl, rfl, rfl, rfl, rfl, rfl, rfl, rfl⟩
theorem cellsO : Try.prog.cellsOf 60 = 200 := by kernel_rfl
theorem cut4 (cs : List Value) (h : cs.length = 200) : (cs.drop 0).take 2 ++ (cs.drop 2).take 2 ++ (cs.drop 4).take 98 ++ (cs.drop 102).take 98 = cs := by
  have e1 : (cs.drop 102).take 98 = cs.drop 102 := List.take_of_length_le (by simp; omega)
  have e2 : (cs.drop 4).take 98 ++ cs.drop 102 = cs.drop 4 := by
    have : cs.drop 102 = (cs.drop 4).drop 98 := by rw [List.drop_drop]
    rw [this, List.take_append_drop]
  have e3 : (cs.drop 2).take 2 ++ cs.drop 4 = cs.drop 2 := by
    have : cs.drop 4 = (cs.drop 2).drop 2 := by rw [List.drop_drop]
    rw [this, List.take_append_drop]
  rw [e1, List.append_assoc, e2, List.append_assoc, e3, List.drop_zero, List.take_append_drop]
/-- two entries and two heads that came in -/
theorem own_of_wok {H : Type} {enc : TypeId × Value → H} {W : World} {sp : Nat → Bool} {fuel : Nat} {cs : List Value} {y : DataW H × List MemPlace} (hf : DataW.trod enc Try.prog W 0 sp true fuel 60 cs = some y) (hsp : ∀ n, sp n = true) (hw : WOK Try.prog 60 y.1) :
    ∃ ta aa na ca A tb ab nb cb Bc sz tm root sig sz' tm' root' sig', cs = ownL ta aa na ca tb ab nb cb (hdL sz tm root sig) (hdL sz' tm' root' sig') ∧
      ta ≤ 18446744073709551615 ∧ tb ≤ 18446744073709551615 ∧ na ≤ 5864062014634 ∧ nb ≤ 5864062014634 ∧ Chn W aa na ca A ∧ Chn W ab nb cb Bc ∧
      sz ≤ 18446744073709551615 ∧ tm ≤ 18446744073709551615 ∧ root.length = 32 ∧ sig.length = 64 ∧ sz' ≤ 18446744073709551615 ∧ tm' ≤ 18446744073709551615 ∧ root'.length = 32 ∧ sig'.length = 64 := by
  obtain ⟨f0, f1, f2, f3, hu, t0, o0, t1, o1, t2, o2, t3, o3⟩ := fieldsO
  obtain ⟨ys, m, _, rfl, hlen, hyl, hfl⟩ := DataW.trod_struct hu hf
  rw [cellsO] at hlen
  obtain ⟨y0, y1, y2, y3, rfl⟩ := len4 (show ys.length = 4 from hyl)
  have h0 := hfl 0 f0 rfl
  have h1 := hfl 1 f1 rfl
  have h2 := hfl 2 f2 rfl
  have h3 := hfl 3 f3 rfl
  rw [t0, o0, cellsE] at h0
  rw [t1, o1, cellsE] at h1
  rw [t2, o2, cellsH] at h2
  rw [t3, o3, cellsH] at h3
  have w0 := wok_struct hu hw (i := 0) (f := f0) (d := y0.1) rfl rfl
  have w1 := wok_struct hu hw (i := 1) (f := f1) (d := y1.1) rfl rfl
  rw [t0] at w0
  rw [t1] at w1
  obtain ⟨ta, aa, na, ca, A, e0, hta, hA, hna, -⟩ := entry_of_wok (y := y0) h0 hsp w0
  obtain ⟨tb, ab, nb, cb, Bc, e1, htb, hB, hnb, -⟩ := entry_of_wok (y := y1) h1 hsp w1
  obtain ⟨sz, tm, root, sig, e2, k1, k2, k3, k4⟩ := head_of_cells (y := y2) h2
  obtain ⟨sz', tm', root', sig', e3, k5, k6, k7, k8⟩ := head_of_cells (y := y3) h3
  refine ⟨ta, aa, na, ca, A, tb, ab, nb, cb, Bc, sz, tm, root, sig, sz', tm', root', sig', ?_, hta, htb, hna, hnb, hA, hB, k1, k2, k3, k4, k5, k6, k7, k8⟩
  unfold ownL
  rw [← e0, ← e1, ← e2, ← e3]
  exact (cut4 cs hlen).symm

set_option maxRecDepth 100000 in
set_option maxHeartbeats 2000000 in
theorem entryOwn_lifted (os : Os) (started : os.Started) (H : Type) (enc : TypeId × Value → H) :
    ReturnsInHanded {} Try.checked os 7 .any (Rows.entryOwnSpec.pre6 enc Try.prog Try.f7 Rows.entryOwnRow.domain false) (Rows.entryOwnSpec.post enc Try.prog Try.f7 false true false false) := by
  refine returnsInHanded_of_change_sized (C := Try.checked) ownKnobs started (by kernel_rfl) Try.func7
    (ChangeSpec.witness6 (enc := enc) (C := Try.checked) false ⟨#[], #[.agg (ownL 0 none 0 0 0 none 0 0 (hdL 0 0 (List.replicate 32 0) (List.replicate 64 0)) (hdL 0 0 (List.replicate 32 0) (List.replicate 64 0))).toArray], []⟩ 8 (by kernel_rfl) (by kernel_rfl) (by kernel_rfl) (by kernel_rfl)) ?_
  intro W base args ds gs before hval hW hcond hsz _
  have hW' := hW
  obtain ⟨p, q, hA0, hV, rfl, _, _⟩ := hW
  have hA : DataW.TrodAll enc Try.prog W 0 (fun _ => true) true Try.f7.params.toList args.toList ds p := hA0
  have hval' := hval
  rw [Try.params7] at hA hval'
  obtain ⟨v0, d0, rfl, rfl, h0⟩ := trodAll_one hA
  obtain ⟨rfl, rfl⟩ := trodVars_none hV
  have hv0 := hval' 0 60 v0 rfl rfl
  simp only [Value.okWide] at hv0
  obtain ⟨cs0, rfl, -, -⟩ := hv0
  obtain ⟨p0, hf0⟩ := h0
  have w0 : WOK Try.prog 60 d0 := wok_top hsz (j := 0) rfl rfl
  obtain ⟨ta, aa, na, ca, A, tb, ab, nb, cb, Bc, sz, tm, root, sig, sz', tm', root', sig', e0, hta, htb, hna, hnb, hA', hB', k1, k2, k3, k4, k5, k6, k7, k8⟩ := own_of_wok (y := (d0, _)) hf0 (fun _ => rfl) w0
  obtain rfl : cs0 = (ownL ta aa na ca tb ab nb cb (hdL sz tm root sig) (hdL sz' tm' root' sig')).toArray := by
    apply Array.toList_inj.1
    rw [List.toList_toArray]
    exact e0
  refine (Own_law ta aa na ca A tb ab nb cb Bc sz tm root sig sz' tm' root' sig' W hta htb (by omega) (by omega) hA' hB' k1 k2 k3 k4 k5 k6 k7 k8).mono fun e W' ⟨he, hw⟩ => ?_
  subst he
  exact ⟨_, rfl, law_post laidOuts (by kernel_rfl) rfl Try.underlying4 rfl hW' hw rfl⟩

theorem entryOwn_proved : Rows.EntryOwnSaid :=
  OpenClaim.holds_of_wide 7 Try.f7 rfl rfl rfl rfl rfl rfl rfl ⟨rfl, rfl, rfl, rfl, rfl⟩ rfl rfl rfl rfl rfl (by kernel_rfl) Try.func7 (by kernel_rfl)
    (of_decide_eq_true (by kernel_rfl)) (by unfold Func.isWrapper; first | (rw [if_pos (by decide +kernel)]; kernel_rfl) | (rw [if_neg (by decide +kernel)]; exact ⟨rfl, rfl⟩))
    (fun os started H enc _ => entryOwn_lifted os started H enc)
end Go.Proofs.Ytcohcjhbkiangaa
