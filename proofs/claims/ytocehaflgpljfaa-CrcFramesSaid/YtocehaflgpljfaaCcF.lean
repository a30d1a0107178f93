/-
  CrcFrames, as a call. Conditions: those in each statement.
-/
import Derived.Test.YtocehaflgpljfaaCrI
import Derived.Test.YtocehaflgpljfaaCrH
namespace Go.Proofs.Ytocehaflgpljfaa
open Go.RowKit

structure InvF5 (PX TX xs ys : List UInt8) (IS : Bool) (p p' p3 p4 p5 : Option Addr) (u1 : Value) (gl m cap cap' g c c3 n4 c4 n5 c5 : Nat) (W0 : World) (L : Nat → Bool) (v : Nat → Value) (wx : World) : Prop where
  t0 : L 0 = true → (v 31) = .slice p3 (xs.length + 4) c3
  t1 : L 1 = true → (v 32) = .string (bstr PX)
  t2 : L 2 = true → (v 33) = .slice p xs.length cap
  t3 : L 3 = true → ∃ g n c, v 34 = .slice g n c ∧ Rd wx g n c PX
  t4 : L 4 = true → (v 35) = .string (bstr PX)
  t5 : L 5 = true → (v 36) = .bool true
  t6 : L 6 = true → (v 37) = .bool true
  t7 : L 7 = true → (v 38) = .slice p4 n4 c4
  t8 : L 8 = true → (v 39) = .string (bstr TX)
  t9 : L 9 = true → (v 40) = .slice p5 n5 c5
  t10 : L 10 = true → (v 41) = .string (bstr TX)
  t11 : L 11 = true → (v 42) = .bool true
  t12 : L 12 = true → (v 43) = .bool true
  t13 : L 13 = true → (v 44) = .bool true
  t14 : L 14 = true → (v 45) = .bool IS
  t15 : L 15 = true → (v 46) = .bool IS
  t16 : L 16 = true → (v 47) = .bool true
  t17 : L 17 = true → (v 48) = .bool true
  t18 : L 18 = true → (v 11) = .bool true
  bw : Below W0.heap.size W0 wx
structure InvF6 (vF : Nat → Value) (PX TX xs ys : List UInt8) (IS : Bool) (p p' p3 p4 p5 : Option Addr) (u1 : Value) (gl m cap cap' g c c3 n4 c4 n5 c5 : Nat) (W0 : World) (L : Nat → Bool) (v : Nat → Value) (wx : World) : Prop where
  t0 : L 0 = true → (v 49) = .bool true
  t1 : L 1 = true → (v 50) = .bool true
  t2 : L 2 = true → (v 51) = .slice (some ⟨g, 0, none⟩) (xs.length + 5) c
  t3 : L 3 = true → (v 52) = .slice p xs.length cap
  t4 : L 4 = true → (v 53) = .int .i64 (xs.length : Int)
  t5 : L 5 = true → (v 54) = .slice (some ⟨g, 0, none⟩) xs.length c
  t6 : L 6 = true → (v 55) = .string (bstr xs)
  t7 : L 7 = true → (v 56) = .slice p xs.length cap
  t8 : L 8 = true → (v 57) = .string (bstr xs)
  t9 : L 9 = true → (v 58) = .bool true
  t10 : L 10 = true → (v 59) = .bool true
  t11 : L 11 = true → (v 60) = .bool true
  t12 : L 12 = true → (v 61) = .slice (some ⟨g, 0, none⟩) (xs.length + 5) c
  t13 : L 13 = true → (v 62) = .slice p xs.length cap
  t14 : L 14 = true → (v 63) = .int .i64 (xs.length : Int)
  t15 : L 15 = true → (v 64) = .slice (some ⟨g, xs.length, none⟩) 5 (c - xs.length)
  t16 : L 16 = true → (v 65) = .string (bstr [1, 2, 3, 4, 5])
  t17 : L 17 = true → (v 66) = .bool true
  t18 : L 18 = true → (v 67) = .bool true
  t19 : L 19 = true → (v 68) = .bool true
  t20 : L 20 = true → (v 69) = .bool true
  t21 : L 21 = true → (v 70) = .bool true
  t22 : L 22 = true → (v 4) = .bool true
  bw : Below W0.heap.size W0 wx
set_option maxHeartbeats 1600000 in
set_option maxRecDepth 100000 in
theorem Frames_any (p : Option Addr) (n cap : Nat) (xs : List UInt8) (p' : Option Addr) (m cap' : Nat) (ys : List UInt8) (w : World) (hn : n ≤ 140737488351232) (hm : m ≤ 140737488351232) (hr : Rd w p n cap xs) (hr' : Rd w p' m cap' ys) :
    Calls Try.prog 4 #[.slice p n cap, .slice p' m cap'] w fun e w' => e = .returned (.bool true) ∧ Below w.heap.size w w' := by
  have hl := hr.len
  subst hl
  have HR := Lib.hid hr
  have HR' := Lib.hid hr'
  have hlit : Hid ((([1, 2, 3, 4, 5] : List UInt8).map bv).toArray = #[.int .u8 1, .int .u8 2, .int .u8 3, .int .u8 4, .int .u8 5]) := rfl
  have hal : Hid (∀ (w : World) x, Below w.heap.size w (w.alloc x)) := fun w x => (Below.refl _ _).alloc (Nat.le_refl _) _
  clear hr hr'
  go_enter Try.func4, Try.ntmps4
  go_upto_region 2 with (first
    | ((with_reducible show wpList _ _ _ (⟨some 13, _, _, _, _, _⟩ :: _) _ _); go_loud (refine wl_append bt rfl _ _ rfl w.heap.size _ [] (Own.nil _ _ _) rfl p _ cap xs rfl HR.out (by simp; omega) (Nat.le_refl _) ?_); intro u1 w1 ho1 hb1; rw [List.nil_append] at ho1)
    | ((with_reducible show wpList _ _ _ (⟨some 15, _, _, _, _, _⟩ :: _) _ _); go_loud (rw [← hlit.out]); go_loud (refine wl_append bt rfl _ _ rfl w.heap.size _ xs (ho1.to (hal.out _ _)) rfl _ 5 5 [1, 2, 3, 4, 5] rfl (rd_lit w1 [1, 2, 3, 4, 5] 5) (by simp; omega) (Nat.le_trans hb1.size (by simp)) ?_); intro v2 w2 ho2 hb2))
  have b02 : Below w.heap.size w w2 := (hb1.trans ((hal.out w1 _).mono hb1.size)).trans hb2
  obtain ⟨g, c, rfl, hg1, hg2, hgc⟩ := ho2.solid (by simp)
  have hL : (xs ++ [1, 2, 3, 4, 5]).length = xs.length + 5 := by simp
  rw [hL] at ho2 hgc ⊢
  have r2 := ho2.rd
  have r3 : Rd w2 (some ⟨g, 0, none⟩) xs.length c xs := by
    have h := (r2.take xs.length (by omega)).toRd
    rw [List.take_left] at h
    exact h
  have r5 : Rd w2 (some ⟨g, xs.length, none⟩) 5 (c - xs.length) [1, 2, 3, 4, 5] := by
    have h := (r2.drop xs.length (by omega)).toRd
    rw [List.drop_left, Nat.zero_add, Nat.add_sub_cancel_left] at h
    exact h
  have HP := Put_any _ _ _ _ w2 (by omega) r3
  have HT := fun wx (hb : Below w2.heap.size w2 wx) => Take_any _ _ _ _ wx (by omega) (HR'.out.to (b02.trans (hb.mono b02.size)))
  have HT2 := fun wx (hb : Below w2.heap.size w2 wx) => rTake_any _ _ _ _ wx (by omega) (HR'.out.to (b02.trans (hb.mono b02.size)))
  have R3 := Lib.hid r3
  have R5 := Lib.hid r5
  have B02 := Lib.hid b02
  obtain ⟨O, hO⟩ : ∃ O, O = takeF ys := ⟨_, rfl⟩
  rw [← hO] at HT HT2
  clear ho1 hb1 ho2 hb2 r2 r3 r5 b02 hL hO hlit hal hg1 hg2
  go_wp2_with fail
  refine HP.mono ?_
  clear HP
  rintro e w3 ⟨p3, c3, rfl, hr3, hb3⟩
  have HT := HT w3 hb3
  go_wp2_with fail
  refine HT.mono ?_
  clear HT
  rintro e w4 ⟨p4, n4, c4, rfl, hr4, hb4⟩
  have b24 := hb3.trans (hb4.mono hb3.size)
  have HT := HT2 w4 b24
  clear HT2
  go_wp2_with fail
  refine HT.mono ?_
  clear HT
  rintro e w5 ⟨p5, n5, c5, rfl, hr5, hb5⟩
  have b25 := b24.trans (hb5.mono b24.size)
  have R0 : Hid (∀ wx, Below w5.heap.size w5 wx → Rd wx p xs.length cap xs) := fun wx hb => HR.out.to (B02.out.trans ((b25.trans (hb.mono b25.size)).mono B02.out.size))
  have R3' : Hid (∀ wx, Below w5.heap.size w5 wx → Rd wx (some ⟨g, 0, none⟩) xs.length c xs) := fun wx hb => R3.out.to (b25.trans (hb.mono b25.size))
  have R5' : Hid (∀ wx, Below w5.heap.size w5 wx → Rd wx (some ⟨g, xs.length, none⟩) 5 (c - xs.length) [1, 2, 3, 4, 5]) := fun wx hb => R5.out.to (b25.trans (hb.mono b25.size))
  have RP : Hid (∀ wx, Below w5.heap.size w5 wx → Rd wx p3 (xs.length + 4) c3 (putF xs)) := fun wx hb => (hr3.to (hb4.trans (hb5.mono hb4.size))).to hb
  have RX : Hid (∀ wx, Below w5.heap.size w5 wx → Rd wx p4 n4 c4 (O.getD [])) := fun wx hb => (hr4.to hb5).to hb
  have RY : Hid (∀ wx, Below w5.heap.size w5 wx → Rd wx p5 n5 c5 (O.getD [])) := fun wx hb => hr5.to hb
  have HQ : Hid (∀ wx, Below w5.heap.size w5 wx → Calls Try.prog 16 #[.slice p xs.length cap] wx fun e w' => ∃ g n c, e = .returned (.slice g n c) ∧ Rd w' g n c (putF xs) ∧ Below wx.heap.size wx w') := fun wx hb => (rPut_any p _ cap xs wx (by omega) (R0.out wx hb)).mono fun e w' h => by
    obtain ⟨v, rfl, ho, hb'⟩ := h
    obtain ⟨g, n', c, rfl, hr⟩ := ho.reads
    exact ⟨g, n', c, rfl, hr.toRd, hb'⟩
  have B05 := Lib.hid (B02.out.trans (b25.mono B02.out.size))
  have hbl := bstr_toList [1, 2, 3, 4, 5]
  clear B02 b24 b25 hr3 hr4 hr5 hb3 hb4 hb5 HR HR' R3 R5
  generalize putF xs = PX at *
  obtain ⟨TX, hTX⟩ : ∃ TX, TX = O.getD [] := ⟨_, rfl⟩
  rw [← hTX] at RX RY
  clear hTX
  generalize O.isSome = IS
  generalize w1.heap.size = gl
  go_upto_region 5 with fail
  refine wp_region_steps [[], [0], [], [2], [3], [1, 4], [5], [6], [7, 6], [6], [9, 6], [8, 10, 6], [6, 11], [12], [13], [13], [14, 15, 13], [13, 16], [17]] (by kernel_rfl) (by kernel_rfl) (fun L a wx => ∃ v : Nat → Value, a = ⟨#[.slice p xs.length cap, .slice p' m cap', undef, undef, .bool false, .slice (some ⟨g, 0, none⟩) (xs.length + 5) c, .slice p3 (xs.length + 4) c3, .slice p4 n4 c4, .bool IS, .slice p5 n5 c5, .bool IS, v 11, .slice p xs.length cap, u1, .slice (some ⟨gl, 0, none⟩) 5 5, .slice (some ⟨g, 0, none⟩) (xs.length + 5) c, .slice (some ⟨g, 0, none⟩) (xs.length + 5) c, .slice p xs.length cap, .int .i64 ↑xs.length, .slice (some ⟨g, 0, none⟩) xs.length c, .slice p3 (xs.length + 4) c3, .tuple #[.slice p4 n4 c4, .bool IS], .slice p' m cap', .tuple #[.slice p4 n4 c4, .bool IS], .slice p4 n4 c4, .bool IS, .tuple #[.slice p5 n5 c5, .bool IS], .slice p' m cap', .tuple #[.slice p5 n5 c5, .bool IS], .slice p5 n5 c5, .bool IS, v 31, v 32, v 33, v 34, v 35, v 36, v 37, v 38, v 39, v 40, v 41, v 42, v 43, v 44, v 45, v 46, v 47, v 48, undef, undef, undef, undef, undef, undef, undef, undef, undef, undef, undef, undef, undef, undef, undef, undef, undef, undef, undef, undef, undef, undef], []⟩ ∧ InvF5 PX TX xs ys IS p p' p3 p4 p5 u1 gl m cap cap' g c c3 n4 c4 n5 c5 w5 L v wx) ?_ ⟨?_, ?_, ?_, ?_, ?_, ?_, ?_, ?_, ?_, ?_, ?_, ?_, ?_, ?_, ?_, ?_, ?_, ?_, ?_, trivial⟩ ?_
  · refine ⟨fun _ => undef, rfl, ⟨?_, ?_, ?_, ?_, ?_, ?_, ?_, ?_, ?_, ?_, ?_, ?_, ?_, ?_, ?_, ?_, ?_, ?_, ?_, (Below.refl _ _).drew⟩⟩ <;> (intro h; exact absurd h (by decide))
  · rintro L a wx ⟨v, rfl, hI⟩ hL hdep hcl K hK
    go_simp
    exact hK _ _ ⟨(upd v 31 (.slice p3 (xs.length + 4) c3)), rfl, ⟨fun _ => rfl, hI.t1, hI.t2, hI.t3, hI.t4, hI.t5, hI.t6, hI.t7, hI.t8, hI.t9, hI.t10, hI.t11, hI.t12, hI.t13, hI.t14, hI.t15, hI.t16, hI.t17, hI.t18, hI.bw⟩⟩
  · rintro L a wx ⟨v, rfl, hI⟩ hL hdep hcl K hK
    have e0 := hI.t0 (hdep 0 (by decide))
    rw [e0]
    have hs := run_bstr bt Try.underlying9 (RP.out wx hI.bw)
    go_simp
    exact hK _ _ ⟨(upd (upd v 31 (.slice p3 (xs.length + 4) c3)) 32 (.string (bstr PX))), rfl, ⟨fun _ => rfl, fun _ => rfl, hI.t2, hI.t3, hI.t4, hI.t5, hI.t6, hI.t7, hI.t8, hI.t9, hI.t10, hI.t11, hI.t12, hI.t13, hI.t14, hI.t15, hI.t16, hI.t17, hI.t18, hI.bw⟩⟩
  · rintro L a wx ⟨v, rfl, hI⟩ hL hdep hcl K hK
    go_simp
    exact hK _ _ ⟨(upd v 33 (.slice p xs.length cap)), rfl, ⟨hI.t0, hI.t1, fun _ => rfl, hI.t3, hI.t4, hI.t5, hI.t6, hI.t7, hI.t8, hI.t9, hI.t10, hI.t11, hI.t12, hI.t13, hI.t14, hI.t15, hI.t16, hI.t17, hI.t18, hI.bw⟩⟩
  · rintro L a wx ⟨v, rfl, hI⟩ hL hdep hcl K hK
    have e2 := hI.t2 (hdep 2 (by decide))
    rw [e2]
    have HC := HQ.out wx hI.bw
    go_simp
    refine HC.mono ?_
    rintro e w' ⟨g, n, c, rfl, hr, hb⟩
    exact hK _ _ ⟨(upd (upd v 33 (.slice p xs.length cap)) 34 (_)), rfl, ⟨hI.t0, hI.t1, fun _ => rfl, fun _ => ⟨_, _, _, rfl, hr⟩, hI.t4, hI.t5, hI.t6, hI.t7, hI.t8, hI.t9, hI.t10, hI.t11, hI.t12, hI.t13, hI.t14, hI.t15, hI.t16, hI.t17, hI.t18, (hI.bw).trans (hb.mono (hI.bw).size)⟩⟩
  · rintro L a wx ⟨v, rfl, hI⟩ hL hdep hcl K hK
    have hs : (convert 22 9 (v 34)).run Try.prog wx = .ok (.string (bstr PX)) wx := by
      obtain ⟨g, n, c, e34, h16⟩ := hI.t3 (hdep 3 (by decide))
      rw [e34]
      exact run_bstr bt Try.underlying9 h16
    go_simp
    exact hK _ _ ⟨(upd v 35 (.string (bstr PX))), rfl, ⟨hI.t0, hI.t1, hI.t2, hI.t3, fun _ => rfl, hI.t5, hI.t6, hI.t7, hI.t8, hI.t9, hI.t10, hI.t11, hI.t12, hI.t13, hI.t14, hI.t15, hI.t16, hI.t17, hI.t18, hI.bw⟩⟩
  · rintro L a wx ⟨v, rfl, hI⟩ hL hdep hcl K hK
    have e1 := hI.t1 (hdep 1 (by decide))
    have e4 := hI.t4 (hdep 4 (by decide))
    rw [e1, e4]
    go_simp
    exact hK _ _ ⟨(upd (upd (upd v 32 (.string (bstr PX))) 35 (.string (bstr PX))) 36 (.bool true)), rfl, ⟨hI.t0, fun _ => rfl, hI.t2, hI.t3, fun _ => rfl, fun _ => rfl, hI.t6, hI.t7, hI.t8, hI.t9, hI.t10, hI.t11, hI.t12, hI.t13, hI.t14, hI.t15, hI.t16, hI.t17, hI.t18, hI.bw⟩⟩
  · rintro L a wx ⟨v, rfl, hI⟩ hL hdep hcl K hK
    have e5 := hI.t5 (hdep 5 (by decide))
    rw [e5]
    go_simp
    exact hK _ _ ⟨(upd (upd v 36 (.bool true)) 37 (.bool true)), rfl, ⟨hI.t0, hI.t1, hI.t2, hI.t3, hI.t4, fun _ => rfl, fun _ => rfl, hI.t7, hI.t8, hI.t9, hI.t10, hI.t11, hI.t12, hI.t13, hI.t14, hI.t15, hI.t16, hI.t17, hI.t18, hI.bw⟩⟩
  · rintro L a wx ⟨v, rfl, hI⟩ hL hdep hcl K hK
    have e6 := hI.t6 (hdep 6 (by decide))
    rw [e6]
    refine (if_pos rfl).mpr ?_
    go_simp
    exact hK _ _ ⟨(upd (upd v 37 (.bool true)) 38 (.slice p4 n4 c4)), rfl, ⟨hI.t0, hI.t1, hI.t2, hI.t3, hI.t4, hI.t5, fun _ => rfl, fun _ => rfl, hI.t8, hI.t9, hI.t10, hI.t11, hI.t12, hI.t13, hI.t14, hI.t15, hI.t16, hI.t17, hI.t18, hI.bw⟩⟩
  · rintro L a wx ⟨v, rfl, hI⟩ hL hdep hcl K hK
    have e7 := hI.t7 (hdep 7 (by decide))
    have e6 := hI.t6 (hdep 6 (by decide))
    rw [e7, e6]
    refine (if_pos rfl).mpr ?_
    have hs := run_bstr bt Try.underlying9 (RX.out wx hI.bw)
    go_simp
    exact hK _ _ ⟨(upd (upd (upd v 38 (.slice p4 n4 c4)) 37 (.bool true)) 39 (.string (bstr TX))), rfl, ⟨hI.t0, hI.t1, hI.t2, hI.t3, hI.t4, hI.t5, fun _ => rfl, fun _ => rfl, fun _ => rfl, hI.t9, hI.t10, hI.t11, hI.t12, hI.t13, hI.t14, hI.t15, hI.t16, hI.t17, hI.t18, hI.bw⟩⟩
  · rintro L a wx ⟨v, rfl, hI⟩ hL hdep hcl K hK
    have e6 := hI.t6 (hdep 6 (by decide))
    rw [e6]
    refine (if_pos rfl).mpr ?_
    go_simp
    exact hK _ _ ⟨(upd (upd v 37 (.bool true)) 40 (.slice p5 n5 c5)), rfl, ⟨hI.t0, hI.t1, hI.t2, hI.t3, hI.t4, hI.t5, fun _ => rfl, hI.t7, hI.t8, fun _ => rfl, hI.t10, hI.t11, hI.t12, hI.t13, hI.t14, hI.t15, hI.t16, hI.t17, hI.t18, hI.bw⟩⟩
  · rintro L a wx ⟨v, rfl, hI⟩ hL hdep hcl K hK
    have e9 := hI.t9 (hdep 9 (by decide))
    have e6 := hI.t6 (hdep 6 (by decide))
    rw [e9, e6]
    refine (if_pos rfl).mpr ?_
    have hs := run_bstr bt Try.underlying9 (RY.out wx hI.bw)
    go_simp
    exact hK _ _ ⟨(upd (upd (upd v 40 (.slice p5 n5 c5)) 37 (.bool true)) 41 (.string (bstr TX))), rfl, ⟨hI.t0, hI.t1, hI.t2, hI.t3, hI.t4, hI.t5, fun _ => rfl, hI.t7, hI.t8, fun _ => rfl, fun _ => rfl, hI.t11, hI.t12, hI.t13, hI.t14, hI.t15, hI.t16, hI.t17, hI.t18, hI.bw⟩⟩
  · rintro L a wx ⟨v, rfl, hI⟩ hL hdep hcl K hK
    have e8 := hI.t8 (hdep 8 (by decide))
    have e10 := hI.t10 (hdep 10 (by decide))
    have e6 := hI.t6 (hdep 6 (by decide))
    rw [e8, e10, e6]
    refine (if_pos rfl).mpr ?_
    go_simp
    exact hK _ _ ⟨(upd (upd (upd (upd v 39 (.string (bstr TX))) 41 (.string (bstr TX))) 37 (.bool true)) 42 (.bool true)), rfl, ⟨hI.t0, hI.t1, hI.t2, hI.t3, hI.t4, hI.t5, fun _ => rfl, hI.t7, fun _ => rfl, hI.t9, fun _ => rfl, fun _ => rfl, hI.t12, hI.t13, hI.t14, hI.t15, hI.t16, hI.t17, hI.t18, hI.bw⟩⟩
  · rintro L a wx ⟨v, rfl, hI⟩ hL hdep hcl K hK
    have e6 := hI.t6 (hdep 6 (by decide))
    have e11 := hI.t11 (hdep 11 (by decide))
    rw [e6, e11]
    go_simp
    exact hK _ _ ⟨(upd (upd (upd v 37 (.bool true)) 42 (.bool true)) 43 (.bool true)), rfl, ⟨hI.t0, hI.t1, hI.t2, hI.t3, hI.t4, hI.t5, fun _ => rfl, hI.t7, hI.t8, hI.t9, hI.t10, fun _ => rfl, fun _ => rfl, hI.t13, hI.t14, hI.t15, hI.t16, hI.t17, hI.t18, hI.bw⟩⟩
  · rintro L a wx ⟨v, rfl, hI⟩ hL hdep hcl K hK
    have e12 := hI.t12 (hdep 12 (by decide))
    rw [e12]
    go_simp
    exact hK _ _ ⟨(upd (upd v 43 (.bool true)) 44 (.bool true)), rfl, ⟨hI.t0, hI.t1, hI.t2, hI.t3, hI.t4, hI.t5, hI.t6, hI.t7, hI.t8, hI.t9, hI.t10, hI.t11, fun _ => rfl, fun _ => rfl, hI.t14, hI.t15, hI.t16, hI.t17, hI.t18, hI.bw⟩⟩
  · rintro L a wx ⟨v, rfl, hI⟩ hL hdep hcl K hK
    have e13 := hI.t13 (hdep 13 (by decide))
    rw [e13]
    refine (if_pos rfl).mpr ?_
    go_simp
    exact hK _ _ ⟨(upd (upd v 44 (.bool true)) 45 (.bool IS)), rfl, ⟨hI.t0, hI.t1, hI.t2, hI.t3, hI.t4, hI.t5, hI.t6, hI.t7, hI.t8, hI.t9, hI.t10, hI.t11, hI.t12, fun _ => rfl, fun _ => rfl, hI.t15, hI.t16, hI.t17, hI.t18, hI.bw⟩⟩
  · rintro L a wx ⟨v, rfl, hI⟩ hL hdep hcl K hK
    have e13 := hI.t13 (hdep 13 (by decide))
    rw [e13]
    refine (if_pos rfl).mpr ?_
    go_simp
    exact hK _ _ ⟨(upd (upd v 44 (.bool true)) 46 (.bool IS)), rfl, ⟨hI.t0, hI.t1, hI.t2, hI.t3, hI.t4, hI.t5, hI.t6, hI.t7, hI.t8, hI.t9, hI.t10, hI.t11, hI.t12, fun _ => rfl, hI.t14, fun _ => rfl, hI.t16, hI.t17, hI.t18, hI.bw⟩⟩
  · rintro L a wx ⟨v, rfl, hI⟩ hL hdep hcl K hK
    have e14 := hI.t14 (hdep 14 (by decide))
    have e15 := hI.t15 (hdep 15 (by decide))
    have e13 := hI.t13 (hdep 13 (by decide))
    rw [e14, e15, e13]
    refine (if_pos rfl).mpr ?_
    go_simp
    exact hK _ _ ⟨(upd (upd (upd (upd v 45 (.bool IS)) 46 (.bool IS)) 44 (.bool true)) 47 (.bool true)), rfl, ⟨hI.t0, hI.t1, hI.t2, hI.t3, hI.t4, hI.t5, hI.t6, hI.t7, hI.t8, hI.t9, hI.t10, hI.t11, hI.t12, fun _ => rfl, fun _ => rfl, fun _ => rfl, fun _ => rfl, hI.t17, hI.t18, hI.bw⟩⟩
  · rintro L a wx ⟨v, rfl, hI⟩ hL hdep hcl K hK
    have e13 := hI.t13 (hdep 13 (by decide))
    have e16 := hI.t16 (hdep 16 (by decide))
    rw [e13, e16]
    go_simp
    exact hK _ _ ⟨(upd (upd (upd v 44 (.bool true)) 47 (.bool true)) 48 (.bool true)), rfl, ⟨hI.t0, hI.t1, hI.t2, hI.t3, hI.t4, hI.t5, hI.t6, hI.t7, hI.t8, hI.t9, hI.t10, hI.t11, hI.t12, fun _ => rfl, hI.t14, hI.t15, fun _ => rfl, fun _ => rfl, hI.t18, hI.bw⟩⟩
  · rintro L a wx ⟨v, rfl, hI⟩ hL hdep hcl K hK
    have e17 := hI.t17 (hdep 17 (by decide))
    rw [e17]
    go_simp
    exact hK _ _ ⟨(upd (upd v 48 (.bool true)) 11 (.bool true)), rfl, ⟨hI.t0, hI.t1, hI.t2, hI.t3, hI.t4, hI.t5, hI.t6, hI.t7, hI.t8, hI.t9, hI.t10, hI.t11, hI.t12, hI.t13, hI.t14, hI.t15, hI.t16, fun _ => rfl, fun _ => rfl, hI.bw⟩⟩
  · rintro a wy ⟨vF, rfl, hI⟩
    have e := hI.t18 rfl
    have hbw := hI.bw
    clear hI
    rw [e]
    clear e
    go_upto_region 6 with fail
    have hb5 := Lib.hid hbw
    have B05w := Lib.hid (B05.out.trans (hbw.mono B05.out.size))
    replace B05 := B05w
    clear hbw B05w
    refine wp_region_steps [[], [0], [1], [1], [3, 1], [2, 4, 1], [5, 1], [1], [7, 1], [6, 8, 1], [1, 9], [10], [11], [11], [13, 11], [12, 14, 11], [15, 11], [16, 11], [11, 17], [18], [19], [19, 20], [21]] (by kernel_rfl) (by kernel_rfl) (fun L a wx => ∃ v : Nat → Value, a = ⟨#[.slice p xs.length cap, .slice p' m cap', undef, undef, v 4, .slice (some ⟨g, 0, none⟩) (xs.length + 5) c, .slice p3 (xs.length + 4) c3, .slice p4 n4 c4, .bool IS, .slice p5 n5 c5, .bool IS, .bool true, .slice p xs.length cap, u1, .slice (some ⟨gl, 0, none⟩) 5 5, .slice (some ⟨g, 0, none⟩) (xs.length + 5) c, .slice (some ⟨g, 0, none⟩) (xs.length + 5) c, .slice p xs.length cap, .int .i64 ↑xs.length, .slice (some ⟨g, 0, none⟩) xs.length c, .slice p3 (xs.length + 4) c3, .tuple #[.slice p4 n4 c4, .bool IS], .slice p' m cap', .tuple #[.slice p4 n4 c4, .bool IS], .slice p4 n4 c4, .bool IS, .tuple #[.slice p5 n5 c5, .bool IS], .slice p' m cap', .tuple #[.slice p5 n5 c5, .bool IS], .slice p5 n5 c5, .bool IS, vF 31, vF 32, vF 33, vF 34, vF 35, vF 36, vF 37, vF 38, vF 39, vF 40, vF 41, vF 42, vF 43, vF 44, vF 45, vF 46, vF 47, vF 48, v 49, v 50, v 51, v 52, v 53, v 54, v 55, v 56, v 57, v 58, v 59, v 60, v 61, v 62, v 63, v 64, v 65, v 66, v 67, v 68, v 69, v 70], []⟩ ∧ InvF6 vF PX TX xs ys IS p p' p3 p4 p5 u1 gl m cap cap' g c c3 n4 c4 n5 c5 wy L v wx) ?_ ⟨?_, ?_, ?_, ?_, ?_, ?_, ?_, ?_, ?_, ?_, ?_, ?_, ?_, ?_, ?_, ?_, ?_, ?_, ?_, ?_, ?_, ?_, ?_, trivial⟩ ?_
    · refine ⟨upd (fun _ => undef) 4 (.bool false), rfl, ⟨?_, ?_, ?_, ?_, ?_, ?_, ?_, ?_, ?_, ?_, ?_, ?_, ?_, ?_, ?_, ?_, ?_, ?_, ?_, ?_, ?_, ?_, ?_, (Below.refl _ _).drew⟩⟩ <;> (intro h; exact absurd h (by decide))
    · rintro L a wx ⟨v, rfl, hI⟩ hL hdep hcl K hK
      go_simp
      exact hK _ _ ⟨(upd v 49 (.bool true)), rfl, ⟨fun _ => rfl, hI.t1, hI.t2, hI.t3, hI.t4, hI.t5, hI.t6, hI.t7, hI.t8, hI.t9, hI.t10, hI.t11, hI.t12, hI.t13, hI.t14, hI.t15, hI.t16, hI.t17, hI.t18, hI.t19, hI.t20, hI.t21, hI.t22, hI.bw⟩⟩
    · rintro L a wx ⟨v, rfl, hI⟩ hL hdep hcl K hK
      have e0 := hI.t0 (hdep 0 (by decide))
      rw [e0]
      go_simp
      exact hK _ _ ⟨(upd (upd v 49 (.bool true)) 50 (.bool true)), rfl, ⟨fun _ => rfl, fun _ => rfl, hI.t2, hI.t3, hI.t4, hI.t5, hI.t6, hI.t7, hI.t8, hI.t9, hI.t10, hI.t11, hI.t12, hI.t13, hI.t14, hI.t15, hI.t16, hI.t17, hI.t18, hI.t19, hI.t20, hI.t21, hI.t22, hI.bw⟩⟩
    · rintro L a wx ⟨v, rfl, hI⟩ hL hdep hcl K hK
      have e1 := hI.t1 (hdep 1 (by decide))
      rw [e1]
      refine (if_pos rfl).mpr ?_
      go_simp
      exact hK _ _ ⟨(upd (upd v 50 (.bool true)) 51 (.slice (some ⟨g, 0, none⟩) (xs.length + 5) c)), rfl, ⟨hI.t0, fun _ => rfl, fun _ => rfl, hI.t3, hI.t4, hI.t5, hI.t6, hI.t7, hI.t8, hI.t9, hI.t10, hI.t11, hI.t12, hI.t13, hI.t14, hI.t15, hI.t16, hI.t17, hI.t18, hI.t19, hI.t20, hI.t21, hI.t22, hI.bw⟩⟩
    · rintro L a wx ⟨v, rfl, hI⟩ hL hdep hcl K hK
      have e1 := hI.t1 (hdep 1 (by decide))
      rw [e1]
      refine (if_pos rfl).mpr ?_
      go_simp
      exact hK _ _ ⟨(upd (upd v 50 (.bool true)) 52 (.slice p xs.length cap)), rfl, ⟨hI.t0, fun _ => rfl, hI.t2, fun _ => rfl, hI.t4, hI.t5, hI.t6, hI.t7, hI.t8, hI.t9, hI.t10, hI.t11, hI.t12, hI.t13, hI.t14, hI.t15, hI.t16, hI.t17, hI.t18, hI.t19, hI.t20, hI.t21, hI.t22, hI.bw⟩⟩
    · rintro L a wx ⟨v, rfl, hI⟩ hL hdep hcl K hK
      have e3 := hI.t3 (hdep 3 (by decide))
      have e1 := hI.t1 (hdep 1 (by decide))
      rw [e3, e1]
      refine (if_pos rfl).mpr ?_
      go_simp
      exact hK _ _ ⟨(upd (upd (upd v 52 (.slice p xs.length cap)) 50 (.bool true)) 53 (.int .i64 (xs.length : Int))), rfl, ⟨hI.t0, fun _ => rfl, hI.t2, fun _ => rfl, fun _ => rfl, hI.t5, hI.t6, hI.t7, hI.t8, hI.t9, hI.t10, hI.t11, hI.t12, hI.t13, hI.t14, hI.t15, hI.t16, hI.t17, hI.t18, hI.t19, hI.t20, hI.t21, hI.t22, hI.bw⟩⟩
    · rintro L a wx ⟨v, rfl, hI⟩ hL hdep hcl K hK
      have e2 := hI.t2 (hdep 2 (by decide))
      have e4 := hI.t4 (hdep 4 (by decide))
      have e1 := hI.t1 (hdep 1 (by decide))
      rw [e2, e4, e1]
      refine (if_pos rfl).mpr ?_
      go_simp
      rw [if_pos (show xs.length ≤ c by omega)]
      exact hK _ _ ⟨(upd (upd (upd (upd v 51 (.slice (some ⟨g, 0, none⟩) (xs.length + 5) c)) 53 (.int .i64 (xs.length : Int))) 50 (.bool true)) 54 (.slice (some ⟨g, 0, none⟩) xs.length c)), rfl, ⟨hI.t0, fun _ => rfl, fun _ => rfl, hI.t3, fun _ => rfl, fun _ => rfl, hI.t6, hI.t7, hI.t8, hI.t9, hI.t10, hI.t11, hI.t12, hI.t13, hI.t14, hI.t15, hI.t16, hI.t17, hI.t18, hI.t19, hI.t20, hI.t21, hI.t22, hI.bw⟩⟩
    · rintro L a wx ⟨v, rfl, hI⟩ hL hdep hcl K hK
      have e5 := hI.t5 (hdep 5 (by decide))
      have e1 := hI.t1 (hdep 1 (by decide))
      rw [e5, e1]
      refine (if_pos rfl).mpr ?_
      have hs := run_bstr bt Try.underlying9 (R3'.out wx (hb5.out.trans (hI.bw.mono hb5.out.size)))
      go_simp
      exact hK _ _ ⟨(upd (upd (upd v 54 (.slice (some ⟨g, 0, none⟩) xs.length c)) 50 (.bool true)) 55 (.string (bstr xs))), rfl, ⟨hI.t0, fun _ => rfl, hI.t2, hI.t3, hI.t4, fun _ => rfl, fun _ => rfl, hI.t7, hI.t8, hI.t9, hI.t10, hI.t11, hI.t12, hI.t13, hI.t14, hI.t15, hI.t16, hI.t17, hI.t18, hI.t19, hI.t20, hI.t21, hI.t22, hI.bw⟩⟩
    · rintro L a wx ⟨v, rfl, hI⟩ hL hdep hcl K hK
      have e1 := hI.t1 (hdep 1 (by decide))
      rw [e1]
      refine (if_pos rfl).mpr ?_
      go_simp
      exact hK _ _ ⟨(upd (upd v 50 (.bool true)) 56 (.slice p xs.length cap)), rfl, ⟨hI.t0, fun _ => rfl, hI.t2, hI.t3, hI.t4, hI.t5, hI.t6, fun _ => rfl, hI.t8, hI.t9, hI.t10, hI.t11, hI.t12, hI.t13, hI.t14, hI.t15, hI.t16, hI.t17, hI.t18, hI.t19, hI.t20, hI.t21, hI.t22, hI.bw⟩⟩
    · rintro L a wx ⟨v, rfl, hI⟩ hL hdep hcl K hK
      have e7 := hI.t7 (hdep 7 (by decide))
      have e1 := hI.t1 (hdep 1 (by decide))
      rw [e7, e1]
      refine (if_pos rfl).mpr ?_
      have hs := run_bstr bt Try.underlying9 (R0.out wx (hb5.out.trans (hI.bw.mono hb5.out.size)))
      go_simp
      exact hK _ _ ⟨(upd (upd (upd v 56 (.slice p xs.length cap)) 50 (.bool true)) 57 (.string (bstr xs))), rfl, ⟨hI.t0, fun _ => rfl, hI.t2, hI.t3, hI.t4, hI.t5, hI.t6, fun _ => rfl, fun _ => rfl, hI.t9, hI.t10, hI.t11, hI.t12, hI.t13, hI.t14, hI.t15, hI.t16, hI.t17, hI.t18, hI.t19, hI.t20, hI.t21, hI.t22, hI.bw⟩⟩
    · rintro L a wx ⟨v, rfl, hI⟩ hL hdep hcl K hK
      have e6 := hI.t6 (hdep 6 (by decide))
      have e8 := hI.t8 (hdep 8 (by decide))
      have e1 := hI.t1 (hdep 1 (by decide))
      rw [e6, e8, e1]
      refine (if_pos rfl).mpr ?_
      go_simp
      exact hK _ _ ⟨(upd (upd (upd (upd v 55 (.string (bstr xs))) 57 (.string (bstr xs))) 50 (.bool true)) 58 (.bool true)), rfl, ⟨hI.t0, fun _ => rfl, hI.t2, hI.t3, hI.t4, hI.t5, fun _ => rfl, hI.t7, fun _ => rfl, fun _ => rfl, hI.t10, hI.t11, hI.t12, hI.t13, hI.t14, hI.t15, hI.t16, hI.t17, hI.t18, hI.t19, hI.t20, hI.t21, hI.t22, hI.bw⟩⟩
    · rintro L a wx ⟨v, rfl, hI⟩ hL hdep hcl K hK
      have e1 := hI.t1 (hdep 1 (by decide))
      have e9 := hI.t9 (hdep 9 (by decide))
      rw [e1, e9]
      go_simp
      exact hK _ _ ⟨(upd (upd (upd v 50 (.bool true)) 58 (.bool true)) 59 (.bool true)), rfl, ⟨hI.t0, fun _ => rfl, hI.t2, hI.t3, hI.t4, hI.t5, hI.t6, hI.t7, hI.t8, fun _ => rfl, fun _ => rfl, hI.t11, hI.t12, hI.t13, hI.t14, hI.t15, hI.t16, hI.t17, hI.t18, hI.t19, hI.t20, hI.t21, hI.t22, hI.bw⟩⟩
    · rintro L a wx ⟨v, rfl, hI⟩ hL hdep hcl K hK
      have e10 := hI.t10 (hdep 10 (by decide))
      rw [e10]
      go_simp
      exact hK _ _ ⟨(upd (upd v 59 (.bool true)) 60 (.bool true)), rfl, ⟨hI.t0, hI.t1, hI.t2, hI.t3, hI.t4, hI.t5, hI.t6, hI.t7, hI.t8, hI.t9, fun _ => rfl, fun _ => rfl, hI.t12, hI.t13, hI.t14, hI.t15, hI.t16, hI.t17, hI.t18, hI.t19, hI.t20, hI.t21, hI.t22, hI.bw⟩⟩
    · rintro L a wx ⟨v, rfl, hI⟩ hL hdep hcl K hK
      have e11 := hI.t11 (hdep 11 (by decide))
      rw [e11]
      refine (if_pos rfl).mpr ?_
      go_simp
      exact hK _ _ ⟨(upd (upd v 60 (.bool true)) 61 (.slice (some ⟨g, 0, none⟩) (xs.length + 5) c)), rfl, ⟨hI.t0, hI.t1, hI.t2, hI.t3, hI.t4, hI.t5, hI.t6, hI.t7, hI.t8, hI.t9, hI.t10, fun _ => rfl, fun _ => rfl, hI.t13, hI.t14, hI.t15, hI.t16, hI.t17, hI.t18, hI.t19, hI.t20, hI.t21, hI.t22, hI.bw⟩⟩
    · rintro L a wx ⟨v, rfl, hI⟩ hL hdep hcl K hK
      have e11 := hI.t11 (hdep 11 (by decide))
      rw [e11]
      refine (if_pos rfl).mpr ?_
      go_simp
      exact hK _ _ ⟨(upd (upd v 60 (.bool true)) 62 (.slice p xs.length cap)), rfl, ⟨hI.t0, hI.t1, hI.t2, hI.t3, hI.t4, hI.t5, hI.t6, hI.t7, hI.t8, hI.t9, hI.t10, fun _ => rfl, hI.t12, fun _ => rfl, hI.t14, hI.t15, hI.t16, hI.t17, hI.t18, hI.t19, hI.t20, hI.t21, hI.t22, hI.bw⟩⟩
    · rintro L a wx ⟨v, rfl, hI⟩ hL hdep hcl K hK
      have e13 := hI.t13 (hdep 13 (by decide))
      have e11 := hI.t11 (hdep 11 (by decide))
      rw [e13, e11]
      refine (if_pos rfl).mpr ?_
      go_simp
      exact hK _ _ ⟨(upd (upd (upd v 62 (.slice p xs.length cap)) 60 (.bool true)) 63 (.int .i64 (xs.length : Int))), rfl, ⟨hI.t0, hI.t1, hI.t2, hI.t3, hI.t4, hI.t5, hI.t6, hI.t7, hI.t8, hI.t9, hI.t10, fun _ => rfl, hI.t12, fun _ => rfl, fun _ => rfl, hI.t15, hI.t16, hI.t17, hI.t18, hI.t19, hI.t20, hI.t21, hI.t22, hI.bw⟩⟩
    · rintro L a wx ⟨v, rfl, hI⟩ hL hdep hcl K hK
      have e12 := hI.t12 (hdep 12 (by decide))
      have e14 := hI.t14 (hdep 14 (by decide))
      have e11 := hI.t11 (hdep 11 (by decide))
      rw [e12, e14, e11]
      refine (if_pos rfl).mpr ?_
      go_simp
      rw [if_pos (show (xs.length : Int) ≤ (xs.length : Int) + 5 by omega), if_neg (show ¬ c = xs.length by omega)]
      exact hK _ _ ⟨(upd (upd (upd (upd v 61 (.slice (some ⟨g, 0, none⟩) (xs.length + 5) c)) 63 (.int .i64 (xs.length : Int))) 60 (.bool true)) 64 (.slice (some ⟨g, xs.length, none⟩) 5 (c - xs.length))), rfl, ⟨hI.t0, hI.t1, hI.t2, hI.t3, hI.t4, hI.t5, hI.t6, hI.t7, hI.t8, hI.t9, hI.t10, fun _ => rfl, fun _ => rfl, hI.t13, fun _ => rfl, fun _ => rfl, hI.t16, hI.t17, hI.t18, hI.t19, hI.t20, hI.t21, hI.t22, hI.bw⟩⟩
    · rintro L a wx ⟨v, rfl, hI⟩ hL hdep hcl K hK
      have e15 := hI.t15 (hdep 15 (by decide))
      have e11 := hI.t11 (hdep 11 (by decide))
      rw [e15, e11]
      refine (if_pos rfl).mpr ?_
      have hs := run_bstr bt Try.underlying9 (R5'.out wx (hb5.out.trans (hI.bw.mono hb5.out.size)))
      go_simp
      exact hK _ _ ⟨(upd (upd (upd v 64 (.slice (some ⟨g, xs.length, none⟩) 5 (c - xs.length))) 60 (.bool true)) 65 (.string (bstr [1, 2, 3, 4, 5]))), rfl, ⟨hI.t0, hI.t1, hI.t2, hI.t3, hI.t4, hI.t5, hI.t6, hI.t7, hI.t8, hI.t9, hI.t10, fun _ => rfl, hI.t12, hI.t13, hI.t14, fun _ => rfl, fun _ => rfl, hI.t17, hI.t18, hI.t19, hI.t20, hI.t21, hI.t22, hI.bw⟩⟩
    · rintro L a wx ⟨v, rfl, hI⟩ hL hdep hcl K hK
      have e16 := hI.t16 (hdep 16 (by decide))
      have e11 := hI.t11 (hdep 11 (by decide))
      rw [e16, e11]
      refine (if_pos rfl).mpr ?_
      go_simp
      exact hK _ _ ⟨(upd (upd (upd v 65 (.string (bstr [1, 2, 3, 4, 5]))) 60 (.bool true)) 66 (.bool true)), rfl, ⟨hI.t0, hI.t1, hI.t2, hI.t3, hI.t4, hI.t5, hI.t6, hI.t7, hI.t8, hI.t9, hI.t10, fun _ => rfl, hI.t12, hI.t13, hI.t14, hI.t15, fun _ => rfl, fun _ => rfl, hI.t18, hI.t19, hI.t20, hI.t21, hI.t22, hI.bw⟩⟩
    · rintro L a wx ⟨v, rfl, hI⟩ hL hdep hcl K hK
      have e11 := hI.t11 (hdep 11 (by decide))
      have e17 := hI.t17 (hdep 17 (by decide))
      rw [e11, e17]
      go_simp
      exact hK _ _ ⟨(upd (upd (upd v 60 (.bool true)) 66 (.bool true)) 67 (.bool true)), rfl, ⟨hI.t0, hI.t1, hI.t2, hI.t3, hI.t4, hI.t5, hI.t6, hI.t7, hI.t8, hI.t9, hI.t10, fun _ => rfl, hI.t12, hI.t13, hI.t14, hI.t15, hI.t16, fun _ => rfl, fun _ => rfl, hI.t19, hI.t20, hI.t21, hI.t22, hI.bw⟩⟩
    · rintro L a wx ⟨v, rfl, hI⟩ hL hdep hcl K hK
      have e18 := hI.t18 (hdep 18 (by decide))
      rw [e18]
      go_simp
      exact hK _ _ ⟨(upd (upd v 67 (.bool true)) 68 (.bool true)), rfl, ⟨hI.t0, hI.t1, hI.t2, hI.t3, hI.t4, hI.t5, hI.t6, hI.t7, hI.t8, hI.t9, hI.t10, hI.t11, hI.t12, hI.t13, hI.t14, hI.t15, hI.t16, hI.t17, fun _ => rfl, fun _ => rfl, hI.t20, hI.t21, hI.t22, hI.bw⟩⟩
    · rintro L a wx ⟨v, rfl, hI⟩ hL hdep hcl K hK
      have e19 := hI.t19 (hdep 19 (by decide))
      rw [e19]
      refine (if_pos rfl).mpr ?_
      have HC := wakes_any wx
      go_simp
      refine HC.mono ?_
      rintro e w' ⟨rfl, hb⟩
      exact hK _ _ ⟨(upd (upd v 68 (.bool true)) 69 (.bool true)), rfl, ⟨hI.t0, hI.t1, hI.t2, hI.t3, hI.t4, hI.t5, hI.t6, hI.t7, hI.t8, hI.t9, hI.t10, hI.t11, hI.t12, hI.t13, hI.t14, hI.t15, hI.t16, hI.t17, hI.t18, fun _ => rfl, fun _ => rfl, hI.t21, hI.t22, (hI.bw).trans (hb.mono (hI.bw).size)⟩⟩
    · rintro L a wx ⟨v, rfl, hI⟩ hL hdep hcl K hK
      have e19 := hI.t19 (hdep 19 (by decide))
      have e20 := hI.t20 (hdep 20 (by decide))
      rw [e19, e20]
      go_simp
      exact hK _ _ ⟨(upd (upd (upd v 68 (.bool true)) 69 (.bool true)) 70 (.bool true)), rfl, ⟨hI.t0, hI.t1, hI.t2, hI.t3, hI.t4, hI.t5, hI.t6, hI.t7, hI.t8, hI.t9, hI.t10, hI.t11, hI.t12, hI.t13, hI.t14, hI.t15, hI.t16, hI.t17, hI.t18, fun _ => rfl, fun _ => rfl, fun _ => rfl, hI.t22, hI.bw⟩⟩
    · rintro L a wx ⟨v, rfl, hI⟩ hL hdep hcl K hK
      have e21 := hI.t21 (hdep 21 (by decide))
      rw [e21]
      go_simp
      exact hK _ _ ⟨(upd (upd v 70 (.bool true)) 4 (.bool true)), rfl, ⟨hI.t0, hI.t1, hI.t2, hI.t3, hI.t4, hI.t5, hI.t6, hI.t7, hI.t8, hI.t9, hI.t10, hI.t11, hI.t12, hI.t13, hI.t14, hI.t15, hI.t16, hI.t17, hI.t18, hI.t19, hI.t20, fun _ => rfl, fun _ => rfl, hI.bw⟩⟩
    · rintro a wx ⟨v, rfl, hI⟩
      have e := hI.t22 rfl
      have hbw := hI.bw
      clear hI
      rw [e]
      go_wp2_with fail
      go_ret
      exact ⟨rfl, B05.out.trans (hbw.mono B05.out.size)⟩
end Go.Proofs.Ytocehaflgpljfaa
