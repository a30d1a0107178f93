/-
  The document's Put and Take. Conditions: those in each statement.
-/
import Derived.Test.YtocehaflgpljfaaCrG
import Derived.Test.YtocehaflgpljfaaRegF
namespace Go.Proofs.Ytocehaflgpljfaa
open Go.RowKit

theorem be4_vals (x : BitVec 32) : ((be4 x).map bv).toArray = #[.int .u8 ((x.toNat : Int) / 16777216), .int .u8 ((x.toNat : Int) / 65536 % 256), .int .u8 ((x.toNat : Int) / 256 % 256), .int .u8 ((x.toNat : Int) % 256)] := by
  have hx := x.isLt
  have e1 : (((UInt8.ofNat (x.toNat / 16777216)).toNat : Nat) : Int) = (x.toNat : Int) / 16777216 := by rw [UInt8.toNat_ofNat']; omega
  have e2 : (((UInt8.ofNat (x.toNat / 65536 % 256)).toNat : Nat) : Int) = (x.toNat : Int) / 65536 % 256 := by rw [UInt8.toNat_ofNat']; omega
  have e3 : (((UInt8.ofNat (x.toNat / 256 % 256)).toNat : Nat) : Int) = (x.toNat : Int) / 256 % 256 := by rw [UInt8.toNat_ofNat']; omega
  have e4 : (((UInt8.ofNat (x.toNat % 256)).toNat : Nat) : Int) = (x.toNat : Int) % 256 := by rw [UInt8.toNat_ofNat']; omega
  simp only [be4, List.map_cons, List.map_nil, bv, e1, e2, e3, e4]
def OwnRes (w : World) (xs : List UInt8) (e : Ending) (w' : World) : Prop := ∃ v, e = .returned v ∧ Own w' w.heap.size 5 v xs ∧ Below w.heap.size w w'
set_option maxHeartbeats 1600000 in
set_option maxRecDepth 100000 in
theorem rPut_any (a : Option Addr) (n cap : Nat) (xs : List UInt8) (w : World) (hn : n ≤ 140737488355300) (hr : Rd w a n cap xs) : Calls Try.prog 16 #[.slice a n cap] w (OwnRes w (putF xs)) := by
  have H := rSum_any a n cap xs w (by omega) hr
  have hl := hr.len
  have HR := Lib.hid hr
  clear hr
  obtain ⟨x, hx⟩ : ∃ x, x = sumF xs := ⟨_, rfl⟩
  rw [← hx] at H
  have hxl := x.isLt
  have hbe : Hid (((be4 x).map bv).toArray = #[.int .u8 ((x.toNat : Int) / 16777216), .int .u8 ((x.toNat : Int) / 65536 % 256), .int .u8 ((x.toNat : Int) / 256 % 256), .int .u8 ((x.toNat : Int) % 256)]) := be4_vals x
  have HX := Lib.hid hx
  clear hx
  go_enter Try.func16, Try.ntmps16
  go_wp2_with (first
    | (go_at_call 10; refine H.mono ?_; rintro e w' ⟨rfl, rfl⟩)
    | ((with_reducible show wpList _ _ _ (⟨some 9, _, _, _, _, _⟩ :: _) _ _); go_loud (refine wl_append bt rfl _ _ rfl w.heap.size _ _ (Own.nil w w.heap.size 5) rfl a n cap xs rfl HR.out (by simp; omega) (Nat.le_refl _) ?_); intro v1 w1 ho1 hb1)
    | ((with_reducible show wpList _ _ _ (⟨some 26, _, _, _, _, _⟩ :: _) _ _); go_loud (rw [← hbe.out]); go_loud (refine wl_append bt rfl _ _ rfl w.heap.size _ xs (ho1.to ((Below.refl _ _).alloc (Nat.le_refl _) _)) rfl _ 4 4 (be4 x) rfl (rd_lit w1 (be4 x) 5) (by simp; omega) (Nat.le_trans hb1.size (by simp)) ?_); intro v2 w2 ho2 hb2))
  go_ret
  exact ⟨_, rfl, by rw [putF, ← HX.out]; exact ho2, (hb1.alloc hb1.size _).trans hb2⟩
structure InvRT (Y xs : List UInt8) (B : Bool) (b off m cap : Nat) (a1 : Option Addr) (c1 : Nat) (W0 : World) (L : Nat → Bool) (v15 v16 v17 v18 v19 v20 : Value) (wx : World) : Prop where
  t0 : L 0 = true → v15 = .slice a1 m c1
  t1 : L 1 = true → ∃ g c, v16 = .slice g (m + 4) c ∧ Rd wx g (m + 4) c Y
  t2 : L 2 = true → v17 = .string (bstr Y)
  t3 : L 3 = true → v18 = .slice (some ⟨b, off, none⟩) (m + 4) cap
  t4 : L 4 = true → v19 = .string (bstr xs)
  t5 : L 5 = true → v20 = .bool B
  bw : Below W0.heap.size W0 wx
set_option maxHeartbeats 1600000 in
set_option maxRecDepth 100000 in
theorem rTake_any (a : Option Addr) (n cap : Nat) (xs : List UInt8) (w : World) (hn : n ≤ 140737488355300) (hr : Rd w a n cap xs) : Calls Try.prog 15 #[.slice a n cap] w (TakeRes w (takeF xs)) := by
  have hl := hr.len
  have hle := hr.le
  have HR := Lib.hid hr
  by_cases h4 : n < 4
  · have hT : takeF xs = none := by
      unfold takeF
      rw [if_neg (by omega)]
    rw [hT]
    clear hr
    go_enter Try.func15, Try.ntmps15
    go_wp2_with fail
    go_ret2
    exact ⟨none, 0, 0, rfl, Rd.none _, Below.refl _ _⟩
  · have hc : 0 < cap := by omega
    obtain ⟨b, off, rfl, hb, -⟩ := hr.mem hc
    clear hr
    obtain ⟨m, rfl⟩ : ∃ m, n = m + 4 := ⟨n - 4, by omega⟩
    have hT : takeF xs = if putF (xs.take m) = xs then some (xs.take m) else none := by
      unfold takeF
      rw [hl, Nat.add_sub_cancel]
      by_cases e : putF (xs.take m) = xs
      · rw [if_pos ⟨by omega, e⟩, if_pos e]
      · rw [if_neg (fun h => e h.2), if_neg e]
    obtain ⟨O, hO⟩ : ∃ O, O = takeF xs := ⟨_, rfl⟩
    rw [← hO]
    rw [hT] at hO
    have HO : Hid ((putF (xs.take m) = xs → O = some (xs.take m)) ∧ (¬ putF (xs.take m) = xs → O = none)) := by
      rw [hO]
      constructor <;> (intro h; simp [h])
    clear hO
    have HML : Hid ((xs.take m).length = m) := by
      show (xs.take m).length = m
      rw [List.length_take]; omega
    clear hT h4
    go_enter Try.func15, Try.ntmps15
    go_upto_region 5 with ((with_reducible show wpList _ _ _ (⟨some 14, _, _, _, _, _⟩ :: _) _ _); go_loud (refine wl_append bt rfl _ _ rfl w.heap.size _ _ (Own.nil w w.heap.size 5) rfl _ m cap (xs.take m) rfl (HR.out.take m (by omega)) (by simp; omega) (Nat.le_refl _) ?_); intro v1 w1 ho1 hb1; obtain ⟨a1, c1, rfl, hs1⟩ := ho1.shape; go_loud (rw [List.nil_append] at ho1 ⊢); go_loud (rw [HML.out] at ho1 ⊢))
    have HP0 := fun wx (hb : Below w1.heap.size w1 wx) => rPut_any a1 m c1 (xs.take m) wx (by omega) (ho1.rd.toRd.to hb)
    obtain ⟨Y, hY⟩ : ∃ Y, Y = putF (xs.take m) := ⟨_, rfl⟩
    have hYl : Y.length = m + 4 := by rw [hY, putF_len, HML.out]
    rw [← hY] at HP0
    have HO2 : Hid ((Y = xs → O = some (xs.take m)) ∧ (¬ Y = xs → O = none)) := by rw [hY]; exact HO
    clear HO
    have HP : Hid (∀ wx, Below w1.heap.size w1 wx → Calls Try.prog 16 #[.slice a1 m c1] wx fun e w' => ∃ g c, e = .returned (.slice g (m + 4) c) ∧ Rd w' g (m + 4) c Y ∧ Below wx.heap.size wx w') := fun wx hb => (HP0 wx hb).mono fun e w' h => by
      obtain ⟨v, rfl, ho, hb'⟩ := h
      obtain ⟨g, n', c, rfl, hr⟩ := ho.reads
      have hl := hr.len
      rw [hYl] at hl
      subst hl
      exact ⟨g, c, rfl, hr.toRd, hb'⟩
    have HX : Hid (∀ wx, Below w1.heap.size w1 wx → Rd wx (some ⟨b, off, none⟩) (m + 4) cap xs) := fun wx hb => HR.out.to (hb1.trans (hb.mono hb1.size))
    obtain ⟨B, hB0⟩ : ∃ B : Bool, B = !decide (Y = xs) := ⟨_, rfl⟩
    have HB : Hid ((B = false → Y = xs) ∧ (B = true → ¬ Y = xs)) := by
      rw [hB0]
      constructor <;> simp
    have HN : Hid ((!(bstr Y).toList == (bstr xs).toList) = B) := by
      show (!(bstr Y).toList == (bstr xs).toList) = B
      rw [hB0, bstr_toList, bstr_toList]
      by_cases e : Y = xs <;> simp [e]
    clear HP0 hY hYl hB0
    refine wp_region_steps [[], [0], [1], [], [3], [2, 4]] (by kernel_rfl) (by kernel_rfl) (fun L a wx => ∃ v15 v16 v17 v18 v19 v20, a = ⟨#[.slice (some ⟨b, off, none⟩) (m + 4) cap, undef, .slice none 0 0, .bool false, .slice a1 m c1, .slice (some ⟨b, off, none⟩) (m + 4) cap, .int .i64 (↑m + 4), .bool (decide (↑m + 4 < 4)), .slice none 0 0, .slice (some ⟨b, off, none⟩) (m + 4) cap, .slice (some ⟨b, off, none⟩) (m + 4) cap, .int .i64 (↑m + 4), .int .i64 ↑m, .slice (some ⟨b, off, none⟩) m cap, .slice a1 m c1, v15, v16, v17, v18, v19, v20, undef], []⟩ ∧ InvRT Y xs B b off m cap a1 c1 w1 L v15 v16 v17 v18 v19 v20 wx) ?_ ⟨?_, ?_, ?_, ?_, ?_, ?_, trivial⟩ ?_
    · refine ⟨_, _, _, _, _, _, rfl, ⟨?_, ?_, ?_, ?_, ?_, ?_, (Below.refl _ _).drew⟩⟩ <;> (intro h; exact absurd h (by decide))
    · rintro L a wx ⟨v15, v16, v17, v18, v19, v20, rfl, hI⟩ hL hdep hcl K hK
      go_simp
      exact hK _ _ ⟨_, v16, v17, v18, v19, v20, rfl, ⟨fun _ => rfl, hI.t1, hI.t2, hI.t3, hI.t4, hI.t5, hI.bw⟩⟩
    · rintro L a wx ⟨v15, v16, v17, v18, v19, v20, rfl, hI⟩ hL hdep hcl K hK
      obtain rfl := hI.t0 (hdep 0 (by decide))
      have HC := HP.out wx hI.bw
      go_simp
      refine HC.mono ?_
      rintro e w' ⟨g, c, rfl, hr, hb⟩
      exact hK _ _ ⟨_, _, v17, v18, v19, v20, rfl, ⟨hI.t0, fun _ => ⟨_, _, rfl, hr⟩, hI.t2, hI.t3, hI.t4, hI.t5, (hI.bw).trans (hb.mono (hI.bw).size)⟩⟩
    · rintro L a wx ⟨v15, v16, v17, v18, v19, v20, rfl, hI⟩ hL hdep hcl K hK
      obtain ⟨g, c, rfl, h16⟩ := hI.t1 (hdep 1 (by decide))
      have hs := run_bstr bt Try.underlying9 h16
      go_simp
      exact hK _ _ ⟨v15, _, _, v18, v19, v20, rfl, ⟨hI.t0, hI.t1, fun _ => rfl, hI.t3, hI.t4, hI.t5, hI.bw⟩⟩
    · rintro L a wx ⟨v15, v16, v17, v18, v19, v20, rfl, hI⟩ hL hdep hcl K hK
      go_simp
      exact hK _ _ ⟨v15, v16, v17, _, v19, v20, rfl, ⟨hI.t0, hI.t1, hI.t2, fun _ => rfl, hI.t4, hI.t5, hI.bw⟩⟩
    · rintro L a wx ⟨v15, v16, v17, v18, v19, v20, rfl, hI⟩ hL hdep hcl K hK
      obtain rfl := hI.t3 (hdep 3 (by decide))
      have hs := run_bstr bt Try.underlying9 (HX.out wx hI.bw)
      go_simp
      exact hK _ _ ⟨v15, v16, v17, _, _, v20, rfl, ⟨hI.t0, hI.t1, hI.t2, hI.t3, fun _ => rfl, hI.t5, hI.bw⟩⟩
    · rintro L a wx ⟨v15, v16, v17, v18, v19, v20, rfl, hI⟩ hL hdep hcl K hK
      obtain rfl := hI.t2 (hdep 2 (by decide))
      obtain rfl := hI.t4 (hdep 4 (by decide))
      go_simp
      rw [HN.out]
      exact hK _ _ ⟨v15, v16, _, v18, _, _, rfl, ⟨hI.t0, hI.t1, hI.t2, hI.t3, hI.t4, fun _ => rfl, hI.bw⟩⟩
    · rintro a wx ⟨v15, v16, v17, v18, v19, v20, rfl, hI⟩
      have e := hI.t5 rfl
      have hbw := hI.bw
      clear hI
      rw [e]
      have HBW := Lib.hid hbw
      clear hbw e
      cases hB : B
      · obtain rfl := HO2.out.1 (HB.out.1 hB)
        go_wp2_with fail
        go_ret2
        exact ⟨_, _, _, rfl, ho1.rd.toRd.to HBW.out, hb1.trans (HBW.out.mono hb1.size)⟩
      · obtain rfl := HO2.out.2 (HB.out.2 hB)
        go_wp2_with fail
        go_ret2
        exact ⟨none, 0, 0, rfl, Rd.none _, hb1.trans (HBW.out.mono hb1.size)⟩
end Go.Proofs.Ytocehaflgpljfaa
