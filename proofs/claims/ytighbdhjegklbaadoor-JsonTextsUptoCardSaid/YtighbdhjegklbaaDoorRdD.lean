/-
  Layer 4: a value's text, as the document has it. Conditions: those in each statement.
-/
import Derived.Test.YtighbdhjegklbaaDoorRdA
import Derived.Test.YtighbdhjegklbaaDoorRdC
namespace Go.Proofs.YtighbdhjegklbaaDoor
open Go.RowKit

theorem rd_none (w : World) : Rd w none 0 0 [] := ⟨rfl, Nat.le_refl _, fun _ => rfl, fun h => by simp at h⟩
set_option maxRecDepth 100000 in
set_option maxHeartbeats 1600000 in
theorem rText_any (v : JV) (cs : List Value) (w : World) (h : RV w v cs) (hs : smallV v 9223372036854775000) (hlen : mayF v 8 = true → (plainF v).length ≤ 23456248059000) :
    Calls Tryd.prog 12 #[.agg cs.toArray] w fun e w' => ∃ a n c, e = .returned (.tuple #[.slice a n c, .int .i64 (textE v)]) ∧ Rd w' a n c (textB v) ∧ Below w.heap.size w w' := by
  obtain ⟨q0, q1, q2, q3, q4, rfl⟩ := five cs (rv_len h)
  have HM := Lib.hid (fun W (hb : Below w.heap.size w W) => rMay_any v _ W (rv_to hb v _ h) hs)
  have HP := Lib.hid (fun W (hb : Below w.heap.size w W) (hm : mayF v 8 = true) => rPlain_all (SizeOf.sizeOf v) v _ W 8 (Nat.le_refl _) (rv_to hb v _ h) hm (hlen hm))
  have HLEN := Lib.hid hlen
  clear h hlen hs
  have HE : Hid (textE v = if mayF v 8 = true then (if (plainF v).length ≤ 1048576 then 0 else 3) else 1) := rfl
  have HT : Hid (textB v = if mayF v 8 = true ∧ (plainF v).length ≤ 1048576 then plainF v else []) := rfl
  go_enter Tryd.func12, Tryd.ntmps12
  go_upto_region 1 with fail
  obtain ⟨W0, hW0⟩ : ∃ W0, W0 = w.alloc (.cells #[q0, q1, q2, q3, q4] 26) := ⟨_, rfl⟩
  rw [← hW0]
  have hA0 : Arr W0 w.heap.size 26 [q0, q1, q2, q3, q4] := by
    rw [hW0]
    exact Arr.new w _ _
  have hB0 : Below w.heap.size w W0 := by rw [hW0]; exact (Below.refl _ w).alloc (Nat.le_refl _) _
  have hB00 := Lib.hid hB0
  obtain ⟨g, hg⟩ : ∃ g, g = w.heap.size := ⟨_, rfl⟩
  rw [← hg] at hA0 ⊢
  have HA0 := Lib.hid hA0
  clear hg hW0 hB0
  have c0 := (hA0.cell 0).trans (show _ = some q0 from rfl)
  have c1 := (hA0.cell 1).trans (show _ = some q1 from rfl)
  have c2 := (hA0.cell 2).trans (show _ = some q2 from rfl)
  have c3 := (hA0.cell 3).trans (show _ = some q3 from rfl)
  have c4 := (hA0.cell 4).trans (show _ = some q4 from rfl)
  cases hm : mayF v 8 with
  | false =>
    rw [hm] at HM
    have HM0 := Lib.hid hm
    clear hm
    go_wp2_with (go_at_call 16; refine (HM.out _ hB00.out).mono ?_; rintro e w1 ⟨rfl, hb1⟩)
    go_ret2
    refine ⟨none, 0, 0, ?_, ?_, hB00.out.trans (hb1.mono hB00.out.size)⟩
    · rw [HE.out, HM0.out]; rfl
    · rw [HT.out, HM0.out]; exact rd_none _
  | true =>
    rw [hm] at HM
    have HM0 := Lib.hid hm
    clear hm
    go_upto_region 3 with (go_at_call 16; refine (HM.out _ hB00.out).mono ?_; rintro e w1 ⟨rfl, hb1⟩)
    have HB1 := Lib.hid (hB00.out.trans (hb1.mono hB00.out.size))
    have hA1 := HA0.out.kept hb1
    clear c0 c1 c2 c3 c4 hb1 hA0
    have c0 := (hA1.cell 0).trans (show _ = some q0 from rfl)
    have c1 := (hA1.cell 1).trans (show _ = some q1 from rfl)
    have c2 := (hA1.cell 2).trans (show _ = some q2 from rfl)
    have c3 := (hA1.cell 3).trans (show _ = some q3 from rfl)
    have c4 := (hA1.cell 4).trans (show _ = some q4 from rfl)
    clear hA1
    go_upto_region 4 with (go_at_call 24; refine (HP.out _ HB1.out HM0.out).mono ?_; rintro e w2 ⟨a2, n2, k2, rfl, hr2, hb2⟩)
    have HB2 := Lib.hid (HB1.out.trans (hb2.mono HB1.out.size))
    have HN := Lib.hid hr2.len
    have HR := Lib.hid hr2
    clear c0 c1 c2 c3 c4 hb2 hr2
    by_cases hle : n2 ≤ 1048576
    · have hli : ¬ (n2 : Int) > 1048576 := by omega
      have HLE := Lib.hid hle
      clear hle
      go_wp2_with fail
      go_ret2
      refine ⟨a2, n2, k2, ?_, ?_, HB2.out⟩
      · rw [HE.out, if_pos HM0.out, if_pos (by rw [HN.out]; exact HLE.out)]; rfl
      · rw [HT.out, if_pos ⟨HM0.out, by rw [HN.out]; exact HLE.out⟩]; exact HR.out
    · have hli : (n2 : Int) > 1048576 := by omega
      have HLE := Lib.hid hle
      clear hle
      go_wp2_with fail
      go_ret2
      refine ⟨none, 0, 0, ?_, ?_, HB2.out⟩
      · rw [HE.out, if_pos HM0.out, if_neg (by rw [HN.out]; exact HLE.out)]; rfl
      · rw [HT.out, if_neg (fun h => HLE.out (by rw [← HN.out]; exact h.2))]; exact rd_none _
end Go.Proofs.YtighbdhjegklbaaDoor
