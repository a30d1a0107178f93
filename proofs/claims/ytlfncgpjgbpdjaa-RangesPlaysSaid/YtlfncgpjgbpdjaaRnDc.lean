/-
  Layer 9: Copy. Conditions: those in each statement.
-/
import Derived.Test.YtlfncgpjgbpdjaaRnD
namespace Go.Proofs.Ytlfncgpjgbpdjaa
open Go.RowKit

structure InvRCopy (p n m : Nat) (al : Option Addr) (c : Nat) (P : List (List UInt8)) (wb : World) (L : Nat → Bool) (v6 v7 v8 v9 v10 v11 v12 v13 v14 v15 v16 v2 : Value) (wx : World) : Prop where
  t0 : L 0 = true → v6 = .pointer (some ⟨p, 0, none⟩)
  t1 : L 1 = true → v7 = .pointer (some ⟨p, 0, none⟩)
  t2 : L 2 = true → v8 = .pointer (some ⟨p, 1, none⟩)
  t3 : L 3 = true → v9 = .int .u64 (n : Int)
  t4 : L 4 = true → v10 = .pointer (some ⟨p, 0, none⟩)
  t5 : L 5 = true → v11 = .pointer (some ⟨p, 0, none⟩)
  t6 : L 6 = true → v12 = .pointer (some ⟨p, 2, none⟩)
  t7 : L 7 = true → v13 = .slice al m c
  t8 : L 8 = true → ∃ g, v14 = .slice (some ⟨g, 0, none⟩) m m ∧ Arr wx g 29 (dcs P) ∧ wb.heap.size ≤ g
  t9 : L 9 = true → ∃ g, v15 = .agg #[.bool true, .int .u64 (n : Int), .slice (some ⟨g, 0, none⟩) m m] ∧ Arr wx g 29 (dcs P) ∧ wb.heap.size ≤ g
  t10 : L 10 = true → ∃ p' g, v16 = .pointer (some ⟨p', 0, none⟩) ∧ Arr wx g 29 (dcs P) ∧ Arr wx p' 49 [.bool true, .int .u64 (n : Int), .slice (some ⟨g, 0, none⟩) m m] ∧ wb.heap.size ≤ g ∧ wb.heap.size ≤ p'
  t11 : L 11 = true → ∃ p' g, v2 = .pointer (some ⟨p', 0, none⟩) ∧ Arr wx g 29 (dcs P) ∧ Arr wx p' 49 [.bool true, .int .u64 (n : Int), .slice (some ⟨g, 0, none⟩) m m] ∧ wb.heap.size ≤ g ∧ wb.heap.size ≤ p'
  ar : Arr wx p 49 [.bool true, .int .u64 (n : Int), .slice al m c]
  bw : Below wb.heap.size wb wx

set_option maxRecDepth 100000 in
set_option maxHeartbeats 1600000 in
theorem Copy_r {q : Nat → Prop} (p n : Nat) (P : List (List UInt8)) (w : World) (h : IsR q w p n P) :
    Calls Try.prog 8 #[.pointer (some ⟨p, 0, none⟩)] w fun e w' => ∃ p', e = .returned (.pointer (some ⟨p', 0, none⟩)) ∧ IsR (fun b => w.heap.size ≤ b) w' p' n P ∧ w.heap.size ≤ p' ∧ Below w.heap.size w w' := by
  have hfew := h.few
  have hcnt := h.cnt
  have hle := h.le
  obtain ⟨al, c, hA, hr, -⟩ := h.ex
  have hall := hr.all
  obtain ⟨m, hm⟩ : ∃ m, m = P.length := ⟨_, rfl⟩
  rw [← hm] at hA hr hfew
  have HM := Lib.hid hm
  have HI := Lib.hid (isR_any _ _ p true w hA)
  have HF : Hid (∀ wx, Below w.heap.size w wx → _) := fun wx hb => fresh_any P al m c wx (by omega) (hr.to hb)
  clear hm h hr hfew
  go_enter Try.func8, Try.ntmps8
  go_upto_region 3 with (go_at_call 21; refine (HI.out).mono ?_; rintro e w1 ⟨rfl, rfl⟩)
  refine wp_region_steps [[], [0], [1], [2], [], [4], [5], [6], [7], [3, 8], [9], [10]] (by kernel_rfl) (by kernel_rfl) (fun L a wx => ∃ v6 v7 v8 v9 v10 v11 v12 v13 v14 v15 v16 v2, a = ⟨#[.pointer (some ⟨p, 0, none⟩), undef, v2, .pointer (some ⟨p, 0, none⟩), .bool true, .bool false, v6, v7, v8, v9, v10, v11, v12, v13, v14, v15, v16], []⟩ ∧ InvRCopy p n m al c P  w L v6 v7 v8 v9 v10 v11 v12 v13 v14 v15 v16 v2 wx) ?_ ⟨?_, ?_, ?_, ?_, ?_, ?_, ?_, ?_, ?_, ?_, ?_, ?_, trivial⟩ ?_
  · refine ⟨_, _, _, _, _, _, _, _, _, _, _, _, rfl, ⟨?_, ?_, ?_, ?_, ?_, ?_, ?_, ?_, ?_, ?_, ?_, ?_, hA.drew, (Below.refl _ _).drew⟩⟩ <;> (intro h; exact absurd h (by decide))
  · rintro L a wx ⟨v6, v7, v8, v9, v10, v11, v12, v13, v14, v15, v16, v2, rfl, hI⟩ hL hdep hcl K hK
    go_simp
    exact hK _ _ ⟨_, v7, v8, v9, v10, v11, v12, v13, v14, v15, v16, v2, rfl, ⟨fun _ => rfl, hI.t1, hI.t2, hI.t3, hI.t4, hI.t5, hI.t6, hI.t7, hI.t8, hI.t9, hI.t10, hI.t11, hI.ar, hI.bw⟩⟩
  · rintro L a wx ⟨v6, v7, v8, v9, v10, v11, v12, v13, v14, v15, v16, v2, rfl, hI⟩ hL hdep hcl K hK
    obtain rfl := hI.t0 (hdep 0 (by decide))
    go_simp
    exact hK _ _ ⟨_, _, v8, v9, v10, v11, v12, v13, v14, v15, v16, v2, rfl, ⟨hI.t0, fun _ => rfl, hI.t2, hI.t3, hI.t4, hI.t5, hI.t6, hI.t7, hI.t8, hI.t9, hI.t10, hI.t11, hI.ar, hI.bw⟩⟩
  · rintro L a wx ⟨v6, v7, v8, v9, v10, v11, v12, v13, v14, v15, v16, v2, rfl, hI⟩ hL hdep hcl K hK
    obtain rfl := hI.t1 (hdep 1 (by decide))
    go_simp
    exact hK _ _ ⟨v6, _, _, v9, v10, v11, v12, v13, v14, v15, v16, v2, rfl, ⟨hI.t0, hI.t1, fun _ => rfl, hI.t3, hI.t4, hI.t5, hI.t6, hI.t7, hI.t8, hI.t9, hI.t10, hI.t11, hI.ar, hI.bw⟩⟩
  · rintro L a wx ⟨v6, v7, v8, v9, v10, v11, v12, v13, v14, v15, v16, v2, rfl, hI⟩ hL hdep hcl K hK
    obtain rfl := hI.t2 (hdep 2 (by decide))
    have c1 := hI.ar.cell 1
    simp only [List.getElem?_cons_succ, List.getElem?_cons_zero] at c1
    go_simp
    exact hK _ _ ⟨v6, v7, _, _, v10, v11, v12, v13, v14, v15, v16, v2, rfl, ⟨hI.t0, hI.t1, hI.t2, fun _ => rfl, hI.t4, hI.t5, hI.t6, hI.t7, hI.t8, hI.t9, hI.t10, hI.t11, hI.ar, hI.bw⟩⟩
  · rintro L a wx ⟨v6, v7, v8, v9, v10, v11, v12, v13, v14, v15, v16, v2, rfl, hI⟩ hL hdep hcl K hK
    go_simp
    exact hK _ _ ⟨v6, v7, v8, v9, _, v11, v12, v13, v14, v15, v16, v2, rfl, ⟨hI.t0, hI.t1, hI.t2, hI.t3, fun _ => rfl, hI.t5, hI.t6, hI.t7, hI.t8, hI.t9, hI.t10, hI.t11, hI.ar, hI.bw⟩⟩
  · rintro L a wx ⟨v6, v7, v8, v9, v10, v11, v12, v13, v14, v15, v16, v2, rfl, hI⟩ hL hdep hcl K hK
    obtain rfl := hI.t4 (hdep 4 (by decide))
    go_simp
    exact hK _ _ ⟨v6, v7, v8, v9, _, _, v12, v13, v14, v15, v16, v2, rfl, ⟨hI.t0, hI.t1, hI.t2, hI.t3, hI.t4, fun _ => rfl, hI.t6, hI.t7, hI.t8, hI.t9, hI.t10, hI.t11, hI.ar, hI.bw⟩⟩
  · rintro L a wx ⟨v6, v7, v8, v9, v10, v11, v12, v13, v14, v15, v16, v2, rfl, hI⟩ hL hdep hcl K hK
    obtain rfl := hI.t5 (hdep 5 (by decide))
    go_simp
    exact hK _ _ ⟨v6, v7, v8, v9, v10, _, _, v13, v14, v15, v16, v2, rfl, ⟨hI.t0, hI.t1, hI.t2, hI.t3, hI.t4, hI.t5, fun _ => rfl, hI.t7, hI.t8, hI.t9, hI.t10, hI.t11, hI.ar, hI.bw⟩⟩
  · rintro L a wx ⟨v6, v7, v8, v9, v10, v11, v12, v13, v14, v15, v16, v2, rfl, hI⟩ hL hdep hcl K hK
    obtain rfl := hI.t6 (hdep 6 (by decide))
    have c2 := hI.ar.cell 2
    simp only [List.getElem?_cons_succ, List.getElem?_cons_zero] at c2
    go_simp
    exact hK _ _ ⟨v6, v7, v8, v9, v10, v11, _, _, v14, v15, v16, v2, rfl, ⟨hI.t0, hI.t1, hI.t2, hI.t3, hI.t4, hI.t5, hI.t6, fun _ => rfl, hI.t8, hI.t9, hI.t10, hI.t11, hI.ar, hI.bw⟩⟩
  · rintro L a wx ⟨v6, v7, v8, v9, v10, v11, v12, v13, v14, v15, v16, v2, rfl, hI⟩ hL hdep hcl K hK
    obtain rfl := hI.t7 (hdep 7 (by decide))
    have HC := HF.out wx hI.bw
    go_simp
    refine HC.mono ?_
    rintro e w' ⟨rfl, hA1, hb⟩
    exact hK _ _ ⟨v6, v7, v8, v9, v10, v11, v12, _, _, v15, v16, v2, rfl, ⟨hI.t0, hI.t1, hI.t2, hI.t3, hI.t4, hI.t5, hI.t6, hI.t7, fun _ => ⟨_, rfl, hA1, hI.bw.size⟩, fun h => by obtain ⟨g, e, h1, h2⟩ := hI.t9 h; exact ⟨g, e, h1.kept hb, h2⟩, fun h => by obtain ⟨p', g, e, h1, h2, h3⟩ := hI.t10 h; exact ⟨p', g, e, h1.kept hb, h2.kept hb, h3⟩, fun h => by obtain ⟨p', g, e, h1, h2, h3⟩ := hI.t11 h; exact ⟨p', g, e, h1.kept hb, h2.kept hb, h3⟩, (hI.ar).kept hb, (hI.bw).trans (hb.mono (hI.bw).size)⟩⟩
  · rintro L a wx ⟨v6, v7, v8, v9, v10, v11, v12, v13, v14, v15, v16, v2, rfl, hI⟩ hL hdep hcl K hK
    obtain rfl := hI.t3 (hdep 3 (by decide))
    obtain ⟨g, rfl, hA1, hg⟩ := hI.t8 (hdep 8 (by decide))
    refine ow_build 49 _ rfl #[.bool true, .int .u64 (n : Int), .slice (some ⟨g, 0, none⟩) m m] (by simpa [Act.eval] using built_rof n _ _) ?_
    exact hK _ _ ⟨v6, v7, v8, _, v10, v11, v12, v13, _, _, v16, v2, rfl, ⟨hI.t0, hI.t1, hI.t2, hI.t3, hI.t4, hI.t5, hI.t6, hI.t7, hI.t8, fun _ => ⟨_, rfl, hA1, hg⟩, hI.t10, hI.t11, hI.ar, hI.bw⟩⟩
  · rintro L a wx ⟨v6, v7, v8, v9, v10, v11, v12, v13, v14, v15, v16, v2, rfl, hI⟩ hL hdep hcl K hK
    obtain ⟨g, rfl, hA1, hg⟩ := hI.t9 (hdep 9 (by decide))
    refine ow_box 49 _ rfl [.bool true, .int .u64 (n : Int), .slice (some ⟨g, 0, none⟩) m m] rfl ?_
    intro w' hA2 hb hs
    exact hK _ _ ⟨v6, v7, v8, v9, v10, v11, v12, v13, v14, _, _, v2, rfl, ⟨hI.t0, hI.t1, hI.t2, hI.t3, hI.t4, hI.t5, hI.t6, hI.t7, fun h => by obtain ⟨g, e, h1, h2⟩ := hI.t8 h; exact ⟨g, e, h1.kept hb, h2⟩, fun h => by obtain ⟨g, e, h1, h2⟩ := hI.t9 h; exact ⟨g, e, h1.kept hb, h2⟩, fun _ => ⟨_, _, rfl, hA1.kept hb, hA2, hg, hI.bw.size⟩, fun h => by obtain ⟨p', g, e, h1, h2, h3⟩ := hI.t11 h; exact ⟨p', g, e, h1.kept hb, h2.kept hb, h3⟩, (hI.ar).kept hb, (hI.bw).trans (hb.mono (hI.bw).size)⟩⟩
  · rintro L a wx ⟨v6, v7, v8, v9, v10, v11, v12, v13, v14, v15, v16, v2, rfl, hI⟩ hL hdep hcl K hK
    obtain ⟨p', g, rfl, h1, h2, h3⟩ := hI.t10 (hdep 10 (by decide))
    go_simp
    exact hK _ _ ⟨v6, v7, v8, v9, v10, v11, v12, v13, v14, v15, _, _, rfl, ⟨hI.t0, hI.t1, hI.t2, hI.t3, hI.t4, hI.t5, hI.t6, hI.t7, hI.t8, hI.t9, hI.t10, fun _ => ⟨_, _, rfl, h1, h2, h3⟩, hI.ar, hI.bw⟩⟩
  · rintro a wx ⟨v6, v7, v8, v9, v10, v11, v12, v13, v14, v15, v16, v2, rfl, hI⟩
    obtain ⟨p', g, e, h1, h2, h3, h4⟩ := hI.t11 rfl
    have hbw := hI.bw
    clear hI
    subst e
    go_wp2
    go_ret
    obtain rfl := HM.out
    exact ⟨_, rfl, ⟨⟨_, _, h2, rdd_arr' h1 hall rfl, fun ad e => by injection e with e; rw [← e]; exact ⟨h3, h1.lt, _, h1⟩⟩, hcnt, hle⟩, h4, hbw⟩
end Go.Proofs.Ytlfncgpjgbpdjaa
