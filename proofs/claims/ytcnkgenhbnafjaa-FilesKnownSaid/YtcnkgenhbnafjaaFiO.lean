/-
  Package files: Append of what does not fit; a file's loose bytes. Conditions: those in each statement.
-/
import Derived.Test.YtcnkgenhbnafjaaFiN
namespace Go.Proofs.Ytcnkgenhbnafjaa
open Go.RowKit

structure InvAq (f : FS) (s : ByteArray) (p : Option Addr) (r t q n cap : Nat) (W0 W : World) (L : Nat → Bool) (v : Nat → Value) (wx : World) : Prop where
  t0 : L 0 = true → (v 19) = .slice p n cap
  t1 : L 1 = true → (v 20) = .int .i64 (n : Int)
  t2 : L 2 = true → (v 21) = .bool true
  t3 : L 3 = true → (v 22) = .bool true
  t4 : L 4 = true → (v 23) = .slice p n cap
  t5 : L 5 = true → (v 24) = .int .i64 (n : Int)
  t6 : L 6 = true → (v 25) = .pointer (some ⟨r, 0, none⟩)
  t7 : L 7 = true → (v 26) = .pointer (some ⟨r, 0, none⟩)
  t8 : L 8 = true → (v 27) = .pointer (some ⟨r, 2, none⟩)
  t9 : L 9 = true → (v 28) = .int .i64 (q : Int)
  t10 : L 10 = true → (v 29) = .pointer (some ⟨r, 0, none⟩)
  t11 : L 11 = true → (v 30) = .pointer (some ⟨r, 0, none⟩)
  t12 : L 12 = true → (v 31) = .pointer (some ⟨r, 1, none⟩)
  t13 : L 13 = true → (v 32) = .int .i64 (t : Int)
  t14 : L 14 = true → (v 33) = .int .i64 ((q : Int) - (t : Int))
  t15 : L 15 = true → (v 34) = .bool true
  t16 : L 16 = true → (v 35) = .bool true
  bw : wx.heap = W0.heap
  bb : Below W0.heap.size W0 wx
set_option maxRecDepth 100000 in
set_option maxHeartbeats 3200000 in
theorem Append_full (w : World) (B r m : Nat) (fs : List FS) (t q u : Nat) (h : IsD w B r m fs t q u false) (s : ByteArray) (hs : nameB s = true) (f : FS) (hf : atF fs s = some f) (p : Option Addr) (n cap : Nat) (xs : List UInt8) (hr : Rd w p n cap xs)
    (hra : ∀ ad, p = some ad → 0 < n → ¬ foot r m fs ad.block) (ht2 : t ≤ 9223372036854775807) (hq : q ≤ 9223372036854775807) (h0 : 0 < n) (hfull : q < t + n) (hlen : n ≤ 140737488355328) :
    Calls Try.prog 11 #[.pointer (some ⟨r, 0, none⟩), .string s, .slice p n cap] w fun e w' => e = .returned (.int .i64 7) ∧ Below w.heap.size w w' := by
  have hs2 := name_size hs
  have H := find_ok w B r m fs t q u h s hs f hf
  have hxl := hr.len
  have HXL := Lib.hid hxl
  have HR := Lib.hid hr
  have HH := Lib.hid h
  have HF := Lib.hid hf
  have HRA := Lib.hid hra
  clear h hr hf hra hs
  go_enter Try.func11, Try.ntmps11
  go_wp2_with fail
  refine H.mono ?_
  clear H
  rintro e w1 ⟨rfl, hb1⟩
  have hD1 := HH.out.to hb1
  obtain ⟨c0, c1, c2, c3, c4⟩ := hD1.cells
  have HD1 := Lib.hid hD1
  have HB1 := Lib.hid hb1
  clear hD1 hb1 c0 c3 c4
  go_upto_region 4 with fail
  have hg : (0 : Int) < (n : Int) := by omega
  have HG1 : Hid (decide (0 < n) = true) := decide_eq_true (by omega)
  have HW : Hid (IntKind.i64.wrap ((q : Int) - (t : Int)) = (q : Int) - (t : Int)) := IntWalk.i64_in _ (by omega)
  have hg2 : decide ((q : Int) - (t : Int) < (n : Int)) = true := decide_eq_true (by omega)
  refine wp_region_steps [[], [0], [1], [2], [3], [4, 3], [3], [6, 3], [7, 3], [8, 3], [3], [10, 3], [11, 3], [12, 3], [9, 13, 3], [5, 14, 3], [3, 15]] (by kernel_rfl) (by kernel_rfl) (fun L a wx => ∃ v : Nat → Value, a = ⟨#[.pointer (some ⟨r, 0, none⟩), .string s, .slice p n cap, undef, undef, undef, .int .i64 0, .pointer (some ⟨f.fb, 0, none⟩), .int .i64 0, .tuple #[.pointer (some ⟨f.fb, 0, none⟩), .int .i64 0], .pointer (some ⟨r, 0, none⟩), .string s, .slice (some ⟨w.heap.size, 0, none⟩) 1 1, .tuple #[.pointer (some ⟨f.fb, 0, none⟩), .int .i64 0], .pointer (some ⟨f.fb, 0, none⟩), .int .i64 0, .int .i64 0, .bool false, undef, v 19, v 20, v 21, v 22, v 23, v 24, v 25, v 26, v 27, v 28, v 29, v 30, v 31, v 32, v 33, v 34, v 35, undef, undef, undef, undef, undef, undef, undef, undef, undef, undef, undef, undef, undef, undef, undef, undef, undef, undef, undef, undef, undef], []⟩ ∧ InvAq f s p r t q n cap w1 w L v wx) ?_ ⟨?_, ?_, ?_, ?_, ?_, ?_, ?_, ?_, ?_, ?_, ?_, ?_, ?_, ?_, ?_, ?_, ?_, trivial⟩ ?_
  · refine ⟨fun _ => undef, rfl, ⟨?_, ?_, ?_, ?_, ?_, ?_, ?_, ?_, ?_, ?_, ?_, ?_, ?_, ?_, ?_, ?_, ?_, rfl, (Below.refl _ _).drew⟩⟩ <;> (intro h; exact absurd h (by decide))
  · rintro L a wx ⟨v, rfl, hI⟩ hL hdep hcl K hK
    go_simp
    exact hK _ _ ⟨(upd v 19 (.slice p n cap)), rfl, ⟨fun _ => rfl, hI.t1, hI.t2, hI.t3, hI.t4, hI.t5, hI.t6, hI.t7, hI.t8, hI.t9, hI.t10, hI.t11, hI.t12, hI.t13, hI.t14, hI.t15, hI.t16, hI.bw, hI.bb⟩⟩
  · rintro L a wx ⟨v, rfl, hI⟩ hL hdep hcl K hK
    have e0 := hI.t0 (hdep 0 (by decide))
    rw [e0]
    go_simp
    exact hK _ _ ⟨(upd (upd v 19 (.slice p n cap)) 20 (.int .i64 (n : Int))), rfl, ⟨fun _ => rfl, fun _ => rfl, hI.t2, hI.t3, hI.t4, hI.t5, hI.t6, hI.t7, hI.t8, hI.t9, hI.t10, hI.t11, hI.t12, hI.t13, hI.t14, hI.t15, hI.t16, hI.bw, hI.bb⟩⟩
  · rintro L a wx ⟨v, rfl, hI⟩ hL hdep hcl K hK
    have e1 := hI.t1 (hdep 1 (by decide))
    rw [e1]
    go_simp
    exact hK _ _ ⟨(upd (upd v 20 (.int .i64 (n : Int))) 21 (.bool true)), rfl, ⟨hI.t0, fun _ => rfl, fun _ => rfl, hI.t3, hI.t4, hI.t5, hI.t6, hI.t7, hI.t8, hI.t9, hI.t10, hI.t11, hI.t12, hI.t13, hI.t14, hI.t15, hI.t16, hI.bw, hI.bb⟩⟩
  · rintro L a wx ⟨v, rfl, hI⟩ hL hdep hcl K hK
    have e2 := hI.t2 (hdep 2 (by decide))
    rw [e2]
    go_simp
    exact hK _ _ ⟨(upd (upd v 21 (.bool true)) 22 (.bool true)), rfl, ⟨hI.t0, hI.t1, fun _ => rfl, fun _ => rfl, hI.t4, hI.t5, hI.t6, hI.t7, hI.t8, hI.t9, hI.t10, hI.t11, hI.t12, hI.t13, hI.t14, hI.t15, hI.t16, hI.bw, hI.bb⟩⟩
  · rintro L a wx ⟨v, rfl, hI⟩ hL hdep hcl K hK
    have e3 := hI.t3 (hdep 3 (by decide))
    rw [e3]
    refine (if_pos rfl).mpr ?_
    go_simp
    exact hK _ _ ⟨(upd (upd v 22 (.bool true)) 23 (.slice p n cap)), rfl, ⟨hI.t0, hI.t1, hI.t2, fun _ => rfl, fun _ => rfl, hI.t5, hI.t6, hI.t7, hI.t8, hI.t9, hI.t10, hI.t11, hI.t12, hI.t13, hI.t14, hI.t15, hI.t16, hI.bw, hI.bb⟩⟩
  · rintro L a wx ⟨v, rfl, hI⟩ hL hdep hcl K hK
    have e4 := hI.t4 (hdep 4 (by decide))
    have e3 := hI.t3 (hdep 3 (by decide))
    rw [e4, e3]
    refine (if_pos rfl).mpr ?_
    go_simp
    exact hK _ _ ⟨(upd (upd (upd v 23 (.slice p n cap)) 22 (.bool true)) 24 (.int .i64 (n : Int))), rfl, ⟨hI.t0, hI.t1, hI.t2, fun _ => rfl, fun _ => rfl, fun _ => rfl, hI.t6, hI.t7, hI.t8, hI.t9, hI.t10, hI.t11, hI.t12, hI.t13, hI.t14, hI.t15, hI.t16, hI.bw, hI.bb⟩⟩
  · rintro L a wx ⟨v, rfl, hI⟩ hL hdep hcl K hK
    have e3 := hI.t3 (hdep 3 (by decide))
    rw [e3]
    refine (if_pos rfl).mpr ?_
    go_simp
    exact hK _ _ ⟨(upd (upd v 22 (.bool true)) 25 (.pointer (some ⟨r, 0, none⟩))), rfl, ⟨hI.t0, hI.t1, hI.t2, fun _ => rfl, hI.t4, hI.t5, fun _ => rfl, hI.t7, hI.t8, hI.t9, hI.t10, hI.t11, hI.t12, hI.t13, hI.t14, hI.t15, hI.t16, hI.bw, hI.bb⟩⟩
  · rintro L a wx ⟨v, rfl, hI⟩ hL hdep hcl K hK
    have e6 := hI.t6 (hdep 6 (by decide))
    have e3 := hI.t3 (hdep 3 (by decide))
    rw [e6, e3]
    refine (if_pos rfl).mpr ?_
    go_simp
    exact hK _ _ ⟨(upd (upd (upd v 25 (.pointer (some ⟨r, 0, none⟩))) 22 (.bool true)) 26 (.pointer (some ⟨r, 0, none⟩))), rfl, ⟨hI.t0, hI.t1, hI.t2, fun _ => rfl, hI.t4, hI.t5, fun _ => rfl, fun _ => rfl, hI.t8, hI.t9, hI.t10, hI.t11, hI.t12, hI.t13, hI.t14, hI.t15, hI.t16, hI.bw, hI.bb⟩⟩
  · rintro L a wx ⟨v, rfl, hI⟩ hL hdep hcl K hK
    have e7 := hI.t7 (hdep 7 (by decide))
    have e3 := hI.t3 (hdep 3 (by decide))
    rw [e7, e3]
    refine (if_pos rfl).mpr ?_
    go_simp
    exact hK _ _ ⟨(upd (upd (upd v 26 (.pointer (some ⟨r, 0, none⟩))) 22 (.bool true)) 27 (.pointer (some ⟨r, 2, none⟩))), rfl, ⟨hI.t0, hI.t1, hI.t2, fun _ => rfl, hI.t4, hI.t5, hI.t6, fun _ => rfl, fun _ => rfl, hI.t9, hI.t10, hI.t11, hI.t12, hI.t13, hI.t14, hI.t15, hI.t16, hI.bw, hI.bb⟩⟩
  · rintro L a wx ⟨v, rfl, hI⟩ hL hdep hcl K hK
    have e8 := hI.t8 (hdep 8 (by decide))
    have e3 := hI.t3 (hdep 3 (by decide))
    rw [e8, e3]
    refine (if_pos rfl).mpr ?_
    have c := (show wx.cell? ⟨r, 2, none⟩ = w1.cell? ⟨r, 2, none⟩ from World.cell?_of_block (by rw [hI.bw])).trans c2
    go_simp
    exact hK _ _ ⟨(upd (upd (upd v 27 (.pointer (some ⟨r, 2, none⟩))) 22 (.bool true)) 28 (.int .i64 (q : Int))), rfl, ⟨hI.t0, hI.t1, hI.t2, fun _ => rfl, hI.t4, hI.t5, hI.t6, hI.t7, fun _ => rfl, fun _ => rfl, hI.t10, hI.t11, hI.t12, hI.t13, hI.t14, hI.t15, hI.t16, hI.bw, hI.bb⟩⟩
  · rintro L a wx ⟨v, rfl, hI⟩ hL hdep hcl K hK
    have e3 := hI.t3 (hdep 3 (by decide))
    rw [e3]
    refine (if_pos rfl).mpr ?_
    go_simp
    exact hK _ _ ⟨(upd (upd v 22 (.bool true)) 29 (.pointer (some ⟨r, 0, none⟩))), rfl, ⟨hI.t0, hI.t1, hI.t2, fun _ => rfl, hI.t4, hI.t5, hI.t6, hI.t7, hI.t8, hI.t9, fun _ => rfl, hI.t11, hI.t12, hI.t13, hI.t14, hI.t15, hI.t16, hI.bw, hI.bb⟩⟩
  · rintro L a wx ⟨v, rfl, hI⟩ hL hdep hcl K hK
    have e10 := hI.t10 (hdep 10 (by decide))
    have e3 := hI.t3 (hdep 3 (by decide))
    rw [e10, e3]
    refine (if_pos rfl).mpr ?_
    go_simp
    exact hK _ _ ⟨(upd (upd (upd v 29 (.pointer (some ⟨r, 0, none⟩))) 22 (.bool true)) 30 (.pointer (some ⟨r, 0, none⟩))), rfl, ⟨hI.t0, hI.t1, hI.t2, fun _ => rfl, hI.t4, hI.t5, hI.t6, hI.t7, hI.t8, hI.t9, fun _ => rfl, fun _ => rfl, hI.t12, hI.t13, hI.t14, hI.t15, hI.t16, hI.bw, hI.bb⟩⟩
  · rintro L a wx ⟨v, rfl, hI⟩ hL hdep hcl K hK
    have e11 := hI.t11 (hdep 11 (by decide))
    have e3 := hI.t3 (hdep 3 (by decide))
    rw [e11, e3]
    refine (if_pos rfl).mpr ?_
    go_simp
    exact hK _ _ ⟨(upd (upd (upd v 30 (.pointer (some ⟨r, 0, none⟩))) 22 (.bool true)) 31 (.pointer (some ⟨r, 1, none⟩))), rfl, ⟨hI.t0, hI.t1, hI.t2, fun _ => rfl, hI.t4, hI.t5, hI.t6, hI.t7, hI.t8, hI.t9, hI.t10, fun _ => rfl, fun _ => rfl, hI.t13, hI.t14, hI.t15, hI.t16, hI.bw, hI.bb⟩⟩
  · rintro L a wx ⟨v, rfl, hI⟩ hL hdep hcl K hK
    have e12 := hI.t12 (hdep 12 (by decide))
    have e3 := hI.t3 (hdep 3 (by decide))
    rw [e12, e3]
    refine (if_pos rfl).mpr ?_
    have c := (show wx.cell? ⟨r, 1, none⟩ = w1.cell? ⟨r, 1, none⟩ from World.cell?_of_block (by rw [hI.bw])).trans c1
    go_simp
    exact hK _ _ ⟨(upd (upd (upd v 31 (.pointer (some ⟨r, 1, none⟩))) 22 (.bool true)) 32 (.int .i64 (t : Int))), rfl, ⟨hI.t0, hI.t1, hI.t2, fun _ => rfl, hI.t4, hI.t5, hI.t6, hI.t7, hI.t8, hI.t9, hI.t10, hI.t11, fun _ => rfl, fun _ => rfl, hI.t14, hI.t15, hI.t16, hI.bw, hI.bb⟩⟩
  · rintro L a wx ⟨v, rfl, hI⟩ hL hdep hcl K hK
    have e9 := hI.t9 (hdep 9 (by decide))
    have e13 := hI.t13 (hdep 13 (by decide))
    have e3 := hI.t3 (hdep 3 (by decide))
    rw [e9, e13, e3]
    refine (if_pos rfl).mpr ?_
    go_simp
    rw [HW.out]
    exact hK _ _ ⟨(upd (upd (upd (upd v 28 (.int .i64 (q : Int))) 32 (.int .i64 (t : Int))) 22 (.bool true)) 33 (.int .i64 ((q : Int) - (t : Int)))), rfl, ⟨hI.t0, hI.t1, hI.t2, fun _ => rfl, hI.t4, hI.t5, hI.t6, hI.t7, hI.t8, fun _ => rfl, hI.t10, hI.t11, hI.t12, fun _ => rfl, fun _ => rfl, hI.t15, hI.t16, hI.bw, hI.bb⟩⟩
  · rintro L a wx ⟨v, rfl, hI⟩ hL hdep hcl K hK
    have e5 := hI.t5 (hdep 5 (by decide))
    have e14 := hI.t14 (hdep 14 (by decide))
    have e3 := hI.t3 (hdep 3 (by decide))
    rw [e5, e14, e3]
    refine (if_pos rfl).mpr ?_
    go_simp
    exact hK _ _ ⟨(upd (upd (upd (upd v 24 (.int .i64 (n : Int))) 33 (.int .i64 ((q : Int) - (t : Int)))) 22 (.bool true)) 34 (.bool true)), rfl, ⟨hI.t0, hI.t1, hI.t2, fun _ => rfl, hI.t4, fun _ => rfl, hI.t6, hI.t7, hI.t8, hI.t9, hI.t10, hI.t11, hI.t12, hI.t13, fun _ => rfl, fun _ => rfl, hI.t16, hI.bw, hI.bb⟩⟩
  · rintro L a wx ⟨v, rfl, hI⟩ hL hdep hcl K hK
    have e3 := hI.t3 (hdep 3 (by decide))
    have e15 := hI.t15 (hdep 15 (by decide))
    rw [e3, e15]
    go_simp
    exact hK _ _ ⟨(upd (upd (upd v 22 (.bool true)) 34 (.bool true)) 35 (.bool true)), rfl, ⟨hI.t0, hI.t1, hI.t2, fun _ => rfl, hI.t4, hI.t5, hI.t6, hI.t7, hI.t8, hI.t9, hI.t10, hI.t11, hI.t12, hI.t13, hI.t14, fun _ => rfl, fun _ => rfl, hI.bw, hI.bb⟩⟩
  · rintro a wx ⟨v, rfl, hI⟩
    have e := hI.t16 rfl
    have hbw := hI.bw
    have hbb := hI.bb
    clear hI
    rw [e]
    clear e
    go_wp2
    go_ret
    exact ⟨rfl, HB1.out.trans (hbb.mono HB1.out.size)⟩
end Go.Proofs.Ytcnkgenhbnafjaa
