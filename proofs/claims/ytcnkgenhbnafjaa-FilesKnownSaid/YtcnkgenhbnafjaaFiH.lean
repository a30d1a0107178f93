/-
  Package files: Append. Conditions: those in each statement.
-/
import Derived.Test.YtcnkgenhbnafjaaFiG
namespace Go.Proofs.Ytcnkgenhbnafjaa
open Go.RowKit

theorem Rd.kept {w w' : World} {a : Option Addr} {n cap : Nat} {xs : List UInt8} (h : Rd w a n cap xs) (hs : w.heap.size ≤ w'.heap.size) (hb : ∀ ad, a = some ad → 0 < n → w'.heap[ad.block]? = w.heap[ad.block]?) : Rd w' a n cap xs := by
  refine ⟨h.len, h.le, h.nil, fun hc => ?_⟩
  obtain ⟨b, off, e, h2, h3⟩ := h.mem hc
  exact ⟨b, off, e, Nat.lt_of_lt_of_le h2 hs, fun j hj => (World.cell?_of_block (w := w) (a := ⟨b, off + j, Option.none⟩) (hb ⟨b, off, Option.none⟩ e (by omega))).trans (h3 j hj)⟩
theorem KB.by' {S : Nat → Prop} {w w' : World} {r : Option Nat} (hg : w.grownBy w' r) (hs : ∀ g, r = some g → S g) : KB S w w' := by
  cases r with
  | none => exact (KB.refl S w).grownN hg
  | some q => exact (KB.refl S w).grown hg (hs q rfl)
theorem name_size {s : ByteArray} (hs : nameB s = true) : s.size ≤ 32 := by
  unfold nameB at hs
  simp only [Bool.and_eq_true, decide_eq_true_eq] at hs
  exact hs.1.2
/-- find, as a call with one name meets it -/
theorem find_one (w : World) (B r m : Nat) (fs : List FS) (t q u : Nat) (o : Bool) (h : IsD w B r m fs t q u o) (s : ByteArray) (hs : s.size ≤ 140737488355328) :
    Calls Try.prog 42 #[.pointer (some ⟨r, 0, none⟩), .slice (some ⟨w.heap.size, 0, none⟩) 1 1] (w.alloc (.cells #[.string s] 9)) fun e w' => e = .returned (.tuple #[pF (fnd o [s] fs).1, .int .i64 (fnd o [s] fs).2]) ∧ Below w.heap.size w w' := by
  have hb : Below w.heap.size w (w.alloc (.cells #[.string s] 9)) := (Below.refl _ _).alloc (Nat.le_refl _) _
  refine (find_any _ B r m fs t q u o (h.to hb) _ _ _ _ [s] (rds_lit w [s]) (by simp) (by simp) (by simpa using hs)).mono fun e w' ⟨h1, h2⟩ => ⟨h1, hb.trans (h2.mono (by simp))⟩
theorem fnd_one {s : ByteArray} {fs : List FS} {f : FS} (hs : nameB s = true) (hf : atF fs s = some f) : fnd false [s] fs = (some f, 0) := by
  unfold fnd
  rw [if_pos (by simp [chk, hs])]
  simp only [List.getD_cons_zero]
  rw [hf]
theorem find_ok (w : World) (B r m : Nat) (fs : List FS) (t q u : Nat) (h : IsD w B r m fs t q u false) (s : ByteArray) (hs : nameB s = true) (f : FS) (hf : atF fs s = some f) :
    Calls Try.prog 42 #[.pointer (some ⟨r, 0, none⟩), .slice (some ⟨w.heap.size, 0, none⟩) 1 1] (w.alloc (.cells #[.string s] 9)) fun e w' => e = .returned (.tuple #[.pointer (some ⟨f.fb, 0, none⟩), .int .i64 0]) ∧ Below w.heap.size w w' := by
  have H := find_one w B r m fs t q u false h s (by have := name_size hs; omega)
  rw [fnd_one hs hf] at H
  exact H
/-- a file with more bytes -/
abbrev longer (f : FS) (v : Value) (xs : List UInt8) : FS := { f with dv := v, data := f.data ++ xs }
def AppRes (w : World) (B r m : Nat) (fs : List FS) (t q u : Nat) (f : FS) (xs : List UInt8) (e : Ending) (w' : World) : Prop :=
  e = .returned (.int .i64 0) ∧ ∃ v, IsD w' B r m (upd1 fs (longer f v xs)) (t + xs.length) q (u - 1) false ∧ KB (fun k => k = r ∨ k = f.fb ∨ f.dv.ownBlock = some k) w w' ∧ (∀ k, v.ownBlock = some k → f.dv.ownBlock = some k ∨ w.heap.size ≤ k)
theorem infoSl : (Try.prog.info? 31).map (·.size) = some 1 := by kernel_rfl
theorem own_one {w : World} {B : Nat} {v : Value} {xs : List UInt8} (h : Own w B 5 v xs) : v.oneCell' = true ∧ v.cells = #[v] := by
  obtain ⟨a, c, rfl⟩ := own_slice h
  exact ⟨rfl, rfl⟩
structure InvAp (f : FS) (s : ByteArray) (p : Option Addr) (r t q n cap : Nat) (W0 W : World) (L : Nat → Bool) (v : Nat → Value) (wx : World) : Prop where
  t0 : L 0 = true → (v 19) = .slice p n cap
  t1 : L 1 = true → (v 20) = .int .i64 (n : Int)
  t2 : L 2 = true → (v 21) = .bool true
  t3 : L 3 = true → (v 22) = .bool true
  t4 : L 4 = true → (v 23) = .slice p n cap
  t5 : L 5 = true → (v 24) = .int .i64 (n : Int)
  t6 : L 6 = true → (v 25) = .pointer (some ⟨r, 0, none⟩)
  t7 : L 7 = true → (v 26) = .pointer (some ⟨r, 0, none⟩)
  t8 : L 8 = true → (v 27) = .pointer (some ⟨r, 2, none⟩)
  t9 : L 9 = true → (v 28) = .int .i64 (q : Int)
  t10 : L 10 = true → (v 29) = .pointer (some ⟨r, 0, none⟩)
  t11 : L 11 = true → (v 30) = .pointer (some ⟨r, 0, none⟩)
  t12 : L 12 = true → (v 31) = .pointer (some ⟨r, 1, none⟩)
  t13 : L 13 = true → (v 32) = .int .i64 (t : Int)
  t14 : L 14 = true → (v 33) = .int .i64 ((q : Int) - (t : Int))
  t15 : L 15 = true → (v 34) = .bool false
  t16 : L 16 = true → (v 35) = .bool false
  bw : wx.heap = W0.heap
  bb : Below W0.heap.size W0 wx
set_option maxRecDepth 100000 in
set_option maxHeartbeats 3200000 in
theorem Append_ok (w : World) (B r m : Nat) (fs : List FS) (t q u : Nat) (h : IsD w B r m fs t q u false) (s : ByteArray) (hs : nameB s = true) (f : FS) (hf : atF fs s = some f) (p : Option Addr) (n cap : Nat) (xs : List UInt8) (hr : Rd w p n cap xs)
    (hra : ∀ ad, p = some ad → 0 < n → ¬ foot r m fs ad.block) (ht2 : t + n ≤ 9223372036854775807) (hq : q ≤ 9223372036854775807) (hu : u ≤ 9223372036854775807) (hu1 : u ≠ 1) (hfit : n = 0 ∨ t + n ≤ q) (hlen : f.data.length + n ≤ 140737488355328) :
    Calls Try.prog 11 #[.pointer (some ⟨r, 0, none⟩), .string s, .slice p n cap] w (AppRes w B r m fs t q u f xs) := by
  have hs2 := name_size hs
  have H := find_ok w B r m fs t q u h s hs f hf
  have hxl := hr.len
  have HXL := Lib.hid hxl
  have HR := Lib.hid hr
  have HH := Lib.hid h
  have HF := Lib.hid hf
  have HRA := Lib.hid hra
  clear h hr hf hra hs
  go_enter Try.func11, Try.ntmps11
  go_wp2_with fail
  refine H.mono ?_
  clear H
  rintro e w1 ⟨rfl, hb1⟩
  have hD1 := HH.out.to hb1
  obtain ⟨c0, c1, c2, c3, c4⟩ := hD1.cells
  have HD1 := Lib.hid hD1
  have HB1 := Lib.hid hb1
  clear hD1 hb1 c0 c3 c4
  go_upto_region 4 with fail
  by_cases h0 : n = 0
  · subst h0
    go_region
    go_upto_region 6 with fail
    have HS := spend_any w1.drew B r m fs t q u (HD1.out.kept fun k _ => rfl) hu
    have e1 : decide (u ≠ 1) = true := by simpa using hu1
    have e2 : decide (u = 1) = false := by simpa using hu1
    unfold SpRes at HS
    rw [e1, e2] at HS
    clear e1 e2
    go_upto_region 8 with (go_at_call 36; go_loud (refine HS.mono ?_); rintro e w2 ⟨rfl, hD2, hk2⟩)
    have hF := hD2.file f (atF_mem HF.out).1
    have cf := hF.arr.cell 0
    have HArr := hF.arr
    have HRow := hF.row
    have hle := hF.le
    have hfb := hF.base
    have hBs : B ≤ w2.heap.size := by have := hD2.base.1; have := hD2.arr.lt; omega
    simp only [List.getElem?_cons_zero] at cf
    have hR2 : Rd w2 p 0 cap xs := by
      have hsame : w1.drew.heap = w1.heap := (rfl : w1.drew.heap = w1.heap)
      have hsz : w1.drew.heap.size = w1.heap.size := congrArg Array.size hsame
      refine HR.out.kept (Nat.le_trans HB1.out.size (by rw [← hsz]; exact hk2.size)) fun ad e hn => ?_
      have hlt : ad.block < w.heap.size := by
        obtain ⟨b, off, e2, h2, -⟩ := HR.out.mem (by have := HR.out.le; omega)
        rw [e] at e2; cases e2; exact h2
      rw [hk2.block ad.block (by rw [hsz]; exact Nat.lt_of_lt_of_le hlt HB1.out.size) (fun er => HRA.out ad e hn (.inl er)), hsame, HB1.out.block ad.block hlt]
    obtain ⟨hv1, hv2⟩ := own_one HRow
    have HD2 := Lib.hid hD2
    clear hD2 HS
    go_upto_region 9 with (first
      | ((with_reducible show wpList _ _ _ (⟨some 45, _, _, _, _, _⟩ :: _) _ _); go_loud (refine wl_app bt rfl _ _ rfl B f.dv f.data HRow rfl p _ cap xs rfl hR2 hlen hBs ?_); intro v3 w3 ho3 hg3 hk3; obtain ⟨hv3, hv4⟩ := own_one ho3; (have hA3 := HArr.grown hg3 (fun e => (HD2.out.apart.2 f (atF_mem HF.out).1).2.2 f.fb (by rw [← e]) |>.2.2 f (atF_mem HF.out).1 rfl)))
      | ((with_reducible show wpList _ _ _ (⟨none, .store _ _ _, _, _, _, _⟩ :: _) _ _); go_loud (refine wl_store1 rfl 31 _ _ rfl f.fb 0 rfl v3 rfl hv4 hv3 71 _ hA3 infoSl (by simp) ?_); intro w4 hA4 hg4 hs4))
    have hap := HD2.out.apart
    obtain ⟨hf1, hf2, hf3⟩ := hap.2 f (atF_mem HF.out).1
    have hAr4 := (HD2.out.arr.grown hg3 (fun e => (hf3 r e.symm).1 rfl)).grown hg4 (by intro e; injection e with e; exact hf1 e.symm)
    have k1 := hAr4.cell 1
    simp only [List.getElem?_cons_succ, List.getElem?_cons_zero] at k1
    have ET : Hid ((t : Int) + (0 : Int) = ((t + 0 : Nat) : Int)) := by show (_ : Int) = _; omega
    have HA4 := Lib.hid hA4
    clear hA4 cf HArr hA3
    go_wp2_with ((with_reducible show wpList _ _ _ (⟨none, .store _ _ _, _, _, _, _⟩ :: _) _ _); go_loud (refine wl_store1 rfl 3 _ _ rfl r 1 rfl (.int .i64 ((t + 0 : Nat) : Int)) rfl rfl rfl 63 _ hAr4 infoD1 (by simp) ?_); intro w5 hA5 hg5 hs5)
    go_ret
    simp only [List.set_cons_succ, List.set_cons_zero] at hA5
    have hkb : KB (fun k => k = r ∨ k = f.fb ∨ f.dv.ownBlock = some k) w2 w5 := ((KB.by' hg3 (fun k e => .inr (.inr e))).grown hg4 (.inr (.inl rfl))).grown hg5 (.inl rfl)
    have hv3k : ∀ k, v3.ownBlock = some k → k ≠ r ∧ k ≠ f.fb := fun k hk => by
      rcases hk3 k hk with e | e
      · exact ⟨(hf3 k e).1, (hf3 k e).2.2 f (atF_mem HF.out).1⟩
      · have h1 := HD2.out.arr.lt
        have h2 := (HD2.out.file f (atF_mem HF.out).1).arr.lt
        exact ⟨by omega, by omega⟩
    have hG : IsF w5 B (longer f v3 xs) := by
      refine ⟨HA4.out.grown hg5 (by intro e; injection e with e; exact hf1 e), ?_, by show f.lasts ≤ (f.data ++ xs).length; rw [List.length_append]; omega, hfb⟩
      refine ho3.by' fun k hk => ?_
      obtain ⟨e1, e2⟩ := hv3k k hk
      have hlt := (own_lt ho3 hk).2
      rw [hg5.block k (by have := hg4.size; omega) (by intro e; injection e with e; exact e1 e), hg4.block k hlt (by intro e; injection e with e; exact e2 e)]
    have hD5 := HD2.out.upd (g := longer f v3 xs) (atF_mem HF.out).1 rfl rfl hkb hA5 hG hk3
    have hkW : KB (fun k => k = r ∨ k = f.fb ∨ f.dv.ownBlock = some k) w w2 := ((KB.low0 HB1.out).below (Below.refl _ _).drew).trans (hk2.mono fun k e => .inl e)
    refine ⟨rfl, v3, by rw [HXL.out]; exact hD5, hkW.trans hkb, fun k hk => ?_⟩
    rcases hk3 k hk with e | e
    · exact .inl e
    · exact .inr (Nat.le_trans hkW.size e)
  · have hg : (0 : Int) < (n : Int) := by omega
    have HG1 : Hid (decide (0 < n) = true) := decide_eq_true (by omega)
    have HW : Hid (IntKind.i64.wrap ((q : Int) - (t : Int)) = (q : Int) - (t : Int)) := IntWalk.i64_in _ (by omega)
    have hg2 : decide ((q : Int) - (t : Int) < (n : Int)) = false := decide_eq_false (by omega)
    refine wp_region_steps [[], [0], [1], [2], [3], [4, 3], [3], [6, 3], [7, 3], [8, 3], [3], [10, 3], [11, 3], [12, 3], [9, 13, 3], [5, 14, 3], [3, 15]] (by kernel_rfl) (by kernel_rfl) (fun L a wx => ∃ v : Nat → Value, a = ⟨#[.pointer (some ⟨r, 0, none⟩), .string s, .slice p n cap, undef, undef, undef, .int .i64 0, .pointer (some ⟨f.fb, 0, none⟩), .int .i64 0, .tuple #[.pointer (some ⟨f.fb, 0, none⟩), .int .i64 0], .pointer (some ⟨r, 0, none⟩), .string s, .slice (some ⟨w.heap.size, 0, none⟩) 1 1, .tuple #[.pointer (some ⟨f.fb, 0, none⟩), .int .i64 0], .pointer (some ⟨f.fb, 0, none⟩), .int .i64 0, .int .i64 0, .bool false, undef, v 19, v 20, v 21, v 22, v 23, v 24, v 25, v 26, v 27, v 28, v 29, v 30, v 31, v 32, v 33, v 34, v 35, undef, undef, undef, undef, undef, undef, undef, undef, undef, undef, undef, undef, undef, undef, undef, undef, undef, undef, undef, undef, undef], []⟩ ∧ InvAp f s p r t q n cap w1 w L v wx) ?_ ⟨?_, ?_, ?_, ?_, ?_, ?_, ?_, ?_, ?_, ?_, ?_, ?_, ?_, ?_, ?_, ?_, ?_, trivial⟩ ?_
    · refine ⟨fun _ => undef, rfl, ⟨?_, ?_, ?_, ?_, ?_, ?_, ?_, ?_, ?_, ?_, ?_, ?_, ?_, ?_, ?_, ?_, ?_, rfl, (Below.refl _ _).drew⟩⟩ <;> (intro h; exact absurd h (by decide))
    · rintro L a wx ⟨v, rfl, hI⟩ hL hdep hcl K hK
      go_simp
      exact hK _ _ ⟨(upd v 19 (.slice p n cap)), rfl, ⟨fun _ => rfl, hI.t1, hI.t2, hI.t3, hI.t4, hI.t5, hI.t6, hI.t7, hI.t8, hI.t9, hI.t10, hI.t11, hI.t12, hI.t13, hI.t14, hI.t15, hI.t16, hI.bw, hI.bb⟩⟩
    · rintro L a wx ⟨v, rfl, hI⟩ hL hdep hcl K hK
      have e0 := hI.t0 (hdep 0 (by decide))
      rw [e0]
      go_simp
      exact hK _ _ ⟨(upd (upd v 19 (.slice p n cap)) 20 (.int .i64 (n : Int))), rfl, ⟨fun _ => rfl, fun _ => rfl, hI.t2, hI.t3, hI.t4, hI.t5, hI.t6, hI.t7, hI.t8, hI.t9, hI.t10, hI.t11, hI.t12, hI.t13, hI.t14, hI.t15, hI.t16, hI.bw, hI.bb⟩⟩
    · rintro L a wx ⟨v, rfl, hI⟩ hL hdep hcl K hK
      have e1 := hI.t1 (hdep 1 (by decide))
      rw [e1]
      go_simp
      rw [HG1.out]
      exact hK _ _ ⟨(upd (upd v 20 (.int .i64 (n : Int))) 21 (.bool true)), rfl, ⟨hI.t0, fun _ => rfl, fun _ => rfl, hI.t3, hI.t4, hI.t5, hI.t6, hI.t7, hI.t8, hI.t9, hI.t10, hI.t11, hI.t12, hI.t13, hI.t14, hI.t15, hI.t16, hI.bw, hI.bb⟩⟩
    · rintro L a wx ⟨v, rfl, hI⟩ hL hdep hcl K hK
      have e2 := hI.t2 (hdep 2 (by decide))
      rw [e2]
      go_simp
      exact hK _ _ ⟨(upd (upd v 21 (.bool true)) 22 (.bool true)), rfl, ⟨hI.t0, hI.t1, fun _ => rfl, fun _ => rfl, hI.t4, hI.t5, hI.t6, hI.t7, hI.t8, hI.t9, hI.t10, hI.t11, hI.t12, hI.t13, hI.t14, hI.t15, hI.t16, hI.bw, hI.bb⟩⟩
    · rintro L a wx ⟨v, rfl, hI⟩ hL hdep hcl K hK
      have e3 := hI.t3 (hdep 3 (by decide))
      rw [e3]
      refine (if_pos rfl).mpr ?_
      go_simp
      exact hK _ _ ⟨(upd (upd v 22 (.bool true)) 23 (.slice p n cap)), rfl, ⟨hI.t0, hI.t1, hI.t2, fun _ => rfl, fun _ => rfl, hI.t5, hI.t6, hI.t7, hI.t8, hI.t9, hI.t10, hI.t11, hI.t12, hI.t13, hI.t14, hI.t15, hI.t16, hI.bw, hI.bb⟩⟩
    · rintro L a wx ⟨v, rfl, hI⟩ hL hdep hcl K hK
      have e4 := hI.t4 (hdep 4 (by decide))
      have e3 := hI.t3 (hdep 3 (by decide))
      rw [e4, e3]
      refine (if_pos rfl).mpr ?_
      go_simp
      exact hK _ _ ⟨(upd (upd (upd v 23 (.slice p n cap)) 22 (.bool true)) 24 (.int .i64 (n : Int))), rfl, ⟨hI.t0, hI.t1, hI.t2, fun _ => rfl, fun _ => rfl, fun _ => rfl, hI.t6, hI.t7, hI.t8, hI.t9, hI.t10, hI.t11, hI.t12, hI.t13, hI.t14, hI.t15, hI.t16, hI.bw, hI.bb⟩⟩
    · rintro L a wx ⟨v, rfl, hI⟩ hL hdep hcl K hK
      have e3 := hI.t3 (hdep 3 (by decide))
      rw [e3]
      refine (if_pos rfl).mpr ?_
      go_simp
      exact hK _ _ ⟨(upd (upd v 22 (.bool true)) 25 (.pointer (some ⟨r, 0, none⟩))), rfl, ⟨hI.t0, hI.t1, hI.t2, fun _ => rfl, hI.t4, hI.t5, fun _ => rfl, hI.t7, hI.t8, hI.t9, hI.t10, hI.t11, hI.t12, hI.t13, hI.t14, hI.t15, hI.t16, hI.bw, hI.bb⟩⟩
    · rintro L a wx ⟨v, rfl, hI⟩ hL hdep hcl K hK
      have e6 := hI.t6 (hdep 6 (by decide))
      have e3 := hI.t3 (hdep 3 (by decide))
      rw [e6, e3]
      refine (if_pos rfl).mpr ?_
      go_simp
      exact hK _ _ ⟨(upd (upd (upd v 25 (.pointer (some ⟨r, 0, none⟩))) 22 (.bool true)) 26 (.pointer (some ⟨r, 0, none⟩))), rfl, ⟨hI.t0, hI.t1, hI.t2, fun _ => rfl, hI.t4, hI.t5, fun _ => rfl, fun _ => rfl, hI.t8, hI.t9, hI.t10, hI.t11, hI.t12, hI.t13, hI.t14, hI.t15, hI.t16, hI.bw, hI.bb⟩⟩
    · rintro L a wx ⟨v, rfl, hI⟩ hL hdep hcl K hK
      have e7 := hI.t7 (hdep 7 (by decide))
      have e3 := hI.t3 (hdep 3 (by decide))
      rw [e7, e3]
      refine (if_pos rfl).mpr ?_
      go_simp
      exact hK _ _ ⟨(upd (upd (upd v 26 (.pointer (some ⟨r, 0, none⟩))) 22 (.bool true)) 27 (.pointer (some ⟨r, 2, none⟩))), rfl, ⟨hI.t0, hI.t1, hI.t2, fun _ => rfl, hI.t4, hI.t5, hI.t6, fun _ => rfl, fun _ => rfl, hI.t9, hI.t10, hI.t11, hI.t12, hI.t13, hI.t14, hI.t15, hI.t16, hI.bw, hI.bb⟩⟩
    · rintro L a wx ⟨v, rfl, hI⟩ hL hdep hcl K hK
      have e8 := hI.t8 (hdep 8 (by decide))
      have e3 := hI.t3 (hdep 3 (by decide))
      rw [e8, e3]
      refine (if_pos rfl).mpr ?_
      have c := (show wx.cell? ⟨r, 2, none⟩ = w1.cell? ⟨r, 2, none⟩ from World.cell?_of_block (by rw [hI.bw])).trans c2
      go_simp
      exact hK _ _ ⟨(upd (upd (upd v 27 (.pointer (some ⟨r, 2, none⟩))) 22 (.bool true)) 28 (.int .i64 (q : Int))), rfl, ⟨hI.t0, hI.t1, hI.t2, fun _ => rfl, hI.t4, hI.t5, hI.t6, hI.t7, fun _ => rfl, fun _ => rfl, hI.t10, hI.t11, hI.t12, hI.t13, hI.t14, hI.t15, hI.t16, hI.bw, hI.bb⟩⟩
    · rintro L a wx ⟨v, rfl, hI⟩ hL hdep hcl K hK
      have e3 := hI.t3 (hdep 3 (by decide))
      rw [e3]
      refine (if_pos rfl).mpr ?_
      go_simp
      exact hK _ _ ⟨(upd (upd v 22 (.bool true)) 29 (.pointer (some ⟨r, 0, none⟩))), rfl, ⟨hI.t0, hI.t1, hI.t2, fun _ => rfl, hI.t4, hI.t5, hI.t6, hI.t7, hI.t8, hI.t9, fun _ => rfl, hI.t11, hI.t12, hI.t13, hI.t14, hI.t15, hI.t16, hI.bw, hI.bb⟩⟩
    · rintro L a wx ⟨v, rfl, hI⟩ hL hdep hcl K hK
      have e10 := hI.t10 (hdep 10 (by decide))
      have e3 := hI.t3 (hdep 3 (by decide))
      rw [e10, e3]
      refine (if_pos rfl).mpr ?_
      go_simp
      exact hK _ _ ⟨(upd (upd (upd v 29 (.pointer (some ⟨r, 0, none⟩))) 22 (.bool true)) 30 (.pointer (some ⟨r, 0, none⟩))), rfl, ⟨hI.t0, hI.t1, hI.t2, fun _ => rfl, hI.t4, hI.t5, hI.t6, hI.t7, hI.t8, hI.t9, fun _ => rfl, fun _ => rfl, hI.t12, hI.t13, hI.t14, hI.t15, hI.t16, hI.bw, hI.bb⟩⟩
    · rintro L a wx ⟨v, rfl, hI⟩ hL hdep hcl K hK
      have e11 := hI.t11 (hdep 11 (by decide))
      have e3 := hI.t3 (hdep 3 (by decide))
      rw [e11, e3]
      refine (if_pos rfl).mpr ?_
      go_simp
      exact hK _ _ ⟨(upd (upd (upd v 30 (.pointer (some ⟨r, 0, none⟩))) 22 (.bool true)) 31 (.pointer (some ⟨r, 1, none⟩))), rfl, ⟨hI.t0, hI.t1, hI.t2, fun _ => rfl, hI.t4, hI.t5, hI.t6, hI.t7, hI.t8, hI.t9, hI.t10, fun _ => rfl, fun _ => rfl, hI.t13, hI.t14, hI.t15, hI.t16, hI.bw, hI.bb⟩⟩
    · rintro L a wx ⟨v, rfl, hI⟩ hL hdep hcl K hK
      have e12 := hI.t12 (hdep 12 (by decide))
      have e3 := hI.t3 (hdep 3 (by decide))
      rw [e12, e3]
      refine (if_pos rfl).mpr ?_
      have c := (show wx.cell? ⟨r, 1, none⟩ = w1.cell? ⟨r, 1, none⟩ from World.cell?_of_block (by rw [hI.bw])).trans c1
      go_simp
      exact hK _ _ ⟨(upd (upd (upd v 31 (.pointer (some ⟨r, 1, none⟩))) 22 (.bool true)) 32 (.int .i64 (t : Int))), rfl, ⟨hI.t0, hI.t1, hI.t2, fun _ => rfl, hI.t4, hI.t5, hI.t6, hI.t7, hI.t8, hI.t9, hI.t10, hI.t11, fun _ => rfl, fun _ => rfl, hI.t14, hI.t15, hI.t16, hI.bw, hI.bb⟩⟩
    · rintro L a wx ⟨v, rfl, hI⟩ hL hdep hcl K hK
      have e9 := hI.t9 (hdep 9 (by decide))
      have e13 := hI.t13 (hdep 13 (by decide))
      have e3 := hI.t3 (hdep 3 (by decide))
      rw [e9, e13, e3]
      refine (if_pos rfl).mpr ?_
      go_simp
      rw [HW.out]
      exact hK _ _ ⟨(upd (upd (upd (upd v 28 (.int .i64 (q : Int))) 32 (.int .i64 (t : Int))) 22 (.bool true)) 33 (.int .i64 ((q : Int) - (t : Int)))), rfl, ⟨hI.t0, hI.t1, hI.t2, fun _ => rfl, hI.t4, hI.t5, hI.t6, hI.t7, hI.t8, fun _ => rfl, hI.t10, hI.t11, hI.t12, fun _ => rfl, fun _ => rfl, hI.t15, hI.t16, hI.bw, hI.bb⟩⟩
    · rintro L a wx ⟨v, rfl, hI⟩ hL hdep hcl K hK
      have e5 := hI.t5 (hdep 5 (by decide))
      have e14 := hI.t14 (hdep 14 (by decide))
      have e3 := hI.t3 (hdep 3 (by decide))
      rw [e5, e14, e3]
      refine (if_pos rfl).mpr ?_
      go_simp
      exact hK _ _ ⟨(upd (upd (upd (upd v 24 (.int .i64 (n : Int))) 33 (.int .i64 ((q : Int) - (t : Int)))) 22 (.bool true)) 34 (.bool false)), rfl, ⟨hI.t0, hI.t1, hI.t2, fun _ => rfl, hI.t4, fun _ => rfl, hI.t6, hI.t7, hI.t8, hI.t9, hI.t10, hI.t11, hI.t12, hI.t13, fun _ => rfl, fun _ => rfl, hI.t16, hI.bw, hI.bb⟩⟩
    · rintro L a wx ⟨v, rfl, hI⟩ hL hdep hcl K hK
      have e3 := hI.t3 (hdep 3 (by decide))
      have e15 := hI.t15 (hdep 15 (by decide))
      rw [e3, e15]
      go_simp
      exact hK _ _ ⟨(upd (upd (upd v 22 (.bool true)) 34 (.bool false)) 35 (.bool false)), rfl, ⟨hI.t0, hI.t1, hI.t2, fun _ => rfl, hI.t4, hI.t5, hI.t6, hI.t7, hI.t8, hI.t9, hI.t10, hI.t11, hI.t12, hI.t13, hI.t14, fun _ => rfl, fun _ => rfl, hI.bw, hI.bb⟩⟩
    · rintro a wx ⟨v, rfl, hI⟩
      have e := hI.t16 rfl
      have hbw := hI.bw
      have hbb := hI.bb
      clear hI
      rw [e]
      clear e
      go_upto_region 6 with fail
      have HS := spend_any wx B r m fs t q u (HD1.out.kept fun k _ => by rw [hbw]) hu
      have e1 : decide (u ≠ 1) = true := by simpa using hu1
      have e2 : decide (u = 1) = false := by simpa using hu1
      unfold SpRes at HS
      rw [e1, e2] at HS
      clear e1 e2
      go_upto_region 8 with (go_at_call 36; go_loud (refine HS.mono ?_); rintro e w2 ⟨rfl, hD2, hk2⟩)
      have hF := hD2.file f (atF_mem HF.out).1
      have cf := hF.arr.cell 0
      have HArr := hF.arr
      have HRow := hF.row
      have hle := hF.le
      have hfb := hF.base
      have hBs : B ≤ w2.heap.size := by have := hD2.base.1; have := hD2.arr.lt; omega
      simp only [List.getElem?_cons_zero] at cf
      have hR2 : Rd w2 p n cap xs := by
        have hsame : wx.heap = w1.heap := hbw
        have hsz : wx.heap.size = w1.heap.size := congrArg Array.size hsame
        refine HR.out.kept (Nat.le_trans HB1.out.size (by rw [← hsz]; exact hk2.size)) fun ad e hn => ?_
        have hlt : ad.block < w.heap.size := by
          obtain ⟨b, off, e2, h2, -⟩ := HR.out.mem (by have := HR.out.le; omega)
          rw [e] at e2; cases e2; exact h2
        rw [hk2.block ad.block (by rw [hsz]; exact Nat.lt_of_lt_of_le hlt HB1.out.size) (fun er => HRA.out ad e hn (.inl er)), hsame, HB1.out.block ad.block hlt]
      obtain ⟨hv1, hv2⟩ := own_one HRow
      have HD2 := Lib.hid hD2
      clear hD2 HS
      go_upto_region 9 with (first
        | ((with_reducible show wpList _ _ _ (⟨some 45, _, _, _, _, _⟩ :: _) _ _); go_loud (refine wl_app bt rfl _ _ rfl B f.dv f.data HRow rfl p _ cap xs rfl hR2 hlen hBs ?_); intro v3 w3 ho3 hg3 hk3; obtain ⟨hv3, hv4⟩ := own_one ho3; (have hA3 := HArr.grown hg3 (fun e => (HD2.out.apart.2 f (atF_mem HF.out).1).2.2 f.fb (by rw [← e]) |>.2.2 f (atF_mem HF.out).1 rfl)))
        | ((with_reducible show wpList _ _ _ (⟨none, .store _ _ _, _, _, _, _⟩ :: _) _ _); go_loud (refine wl_store1 rfl 31 _ _ rfl f.fb 0 rfl v3 rfl hv4 hv3 71 _ hA3 infoSl (by simp) ?_); intro w4 hA4 hg4 hs4))
      have hap := HD2.out.apart
      obtain ⟨hf1, hf2, hf3⟩ := hap.2 f (atF_mem HF.out).1
      have hAr4 := (HD2.out.arr.grown hg3 (fun e => (hf3 r e.symm).1 rfl)).grown hg4 (by intro e; injection e with e; exact hf1 e.symm)
      have k1 := hAr4.cell 1
      simp only [List.getElem?_cons_succ, List.getElem?_cons_zero] at k1
      have ET : Hid ((t : Int) + (n : Int) = ((t + n : Nat) : Int)) := by show (_ : Int) = _; omega
      have HA4 := Lib.hid hA4
      clear hA4 cf HArr hA3
      go_wp2_with ((with_reducible show wpList _ _ _ (⟨none, .store _ _ _, _, _, _, _⟩ :: _) _ _); go_loud (refine wl_store1 rfl 3 _ _ rfl r 1 rfl (.int .i64 ((t + n : Nat) : Int)) (by rw [← ET.out]; rfl) rfl rfl 63 _ hAr4 infoD1 (by simp) ?_); intro w5 hA5 hg5 hs5)
      go_ret
      simp only [List.set_cons_succ, List.set_cons_zero] at hA5
      have hkb : KB (fun k => k = r ∨ k = f.fb ∨ f.dv.ownBlock = some k) w2 w5 := ((KB.by' hg3 (fun k e => .inr (.inr e))).grown hg4 (.inr (.inl rfl))).grown hg5 (.inl rfl)
      have hv3k : ∀ k, v3.ownBlock = some k → k ≠ r ∧ k ≠ f.fb := fun k hk => by
        rcases hk3 k hk with e | e
        · exact ⟨(hf3 k e).1, (hf3 k e).2.2 f (atF_mem HF.out).1⟩
        · have h1 := HD2.out.arr.lt
          have h2 := (HD2.out.file f (atF_mem HF.out).1).arr.lt
          exact ⟨by omega, by omega⟩
      have hG : IsF w5 B (longer f v3 xs) := by
        refine ⟨HA4.out.grown hg5 (by intro e; injection e with e; exact hf1 e), ?_, by show f.lasts ≤ (f.data ++ xs).length; rw [List.length_append]; omega, hfb⟩
        refine ho3.by' fun k hk => ?_
        obtain ⟨e1, e2⟩ := hv3k k hk
        have hlt := (own_lt ho3 hk).2
        rw [hg5.block k (by have := hg4.size; omega) (by intro e; injection e with e; exact e1 e), hg4.block k hlt (by intro e; injection e with e; exact e2 e)]
      have hD5 := HD2.out.upd (g := longer f v3 xs) (atF_mem HF.out).1 rfl rfl hkb hA5 hG hk3
      have hkW : KB (fun k => k = r ∨ k = f.fb ∨ f.dv.ownBlock = some k) w w2 := ((KB.low0 HB1.out).below hbb).trans (hk2.mono fun k e => .inl e)
      refine ⟨rfl, v3, by rw [HXL.out]; exact hD5, hkW.trans hkb, fun k hk => ?_⟩
      rcases hk3 k hk with e | e
      · exact .inl e
      · exact .inr (Nat.le_trans hkW.size e)

end Go.Proofs.Ytcnkgenhbnafjaa
