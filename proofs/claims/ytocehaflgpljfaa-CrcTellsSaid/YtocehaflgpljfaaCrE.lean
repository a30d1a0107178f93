/-
  Package crc: Sum, Put, Take, bytes.Equal. Conditions: those in each statement.
-/
import Derived.Test.YtocehaflgpljfaaCrD
import Derived.ArgAppend
import Derived.BigQuiet
import Derived.Deep.QuietTactic
namespace Go.Proofs.Ytocehaflgpljfaa
open Go.RowKit

theorem bt : BT Try.prog 22 5 := ⟨by kernel_rfl, by kernel_rfl, by kernel_rfl⟩
theorem ret_bool {a b : Bool} (h : a = b) : Ending.returned (.bool a) = .returned (.bool b) := by rw [h]
theorem rd_lit (w : World) (cs : List UInt8) (E : TypeId) (fr : Nat × Nat := (0, 0)) : Rd (w.alloc (.cells (cs.map bv).toArray E fr)) (some ⟨w.heap.size, 0, none⟩) cs.length cs.length cs := by
  refine ⟨rfl, Nat.le_refl _, by (intro e; cases e), fun _ => ⟨w.heap.size, 0, rfl, by simp, fun j hj => ?_⟩⟩
  rw [cell_of_row _ w.heap.size _ _ E fr (heap_alloc_new w _)]
  simp [bv, List.getD, hj]
theorem Equal_any (a a' : Option Addr) (n cap n' cap' : Nat) (xs ys : List UInt8) (w : World) (hr : Rd w a n cap xs) (hr' : Rd w a' n' cap' ys) :
    Calls Try.prog 19 #[.slice a n cap, .slice a' n' cap'] w fun e w' => e = .returned (.bool (decide (xs = ys))) ∧ w = w' := by
  have h1 := run_bstr bt Try.underlying9 hr
  have h2 := run_bstr bt Try.underlying9 hr'
  go_enter Try.func19, Try.ntmps19
  go_wp2
  go_ret
  refine ⟨ret_bool ?_, rfl⟩
  rw [Bool.eq_iff_iff]
  simp [bstr_toList]
theorem Sum_any (a : Option Addr) (n cap : Nat) (xs : List UInt8) (w : World) (hn : n ≤ 1125899906842624) (hr : Rd w a n cap xs) : Calls Try.prog 9 #[.slice a n cap] w fun e w' => e = .returned (.int .u32 ((sumF xs).toNat : Int)) ∧ w = w' := by
  have H := More_any 0#32 a n cap xs w hn hr
  go_enter Try.func9, Try.ntmps9
  go_wp2_with (go_at_call 11; refine H.mono ?_; rintro e w' ⟨rfl, rfl⟩)
  go_ret
  exact ⟨rfl, rfl⟩
/-- a sum's bytes, the highest first -/
def be4 (x : BitVec 32) : List UInt8 := [UInt8.ofNat (x.toNat / 16777216), UInt8.ofNat (x.toNat / 65536 % 256), UInt8.ofNat (x.toNat / 256 % 256), UInt8.ofNat (x.toNat % 256)]
def putF (xs : List UInt8) : List UInt8 := xs ++ be4 (sumF xs)
theorem putF_len (xs : List UInt8) : (putF xs).length = xs.length + 4 := by simp [putF, be4]
theorem be4_inj {x y : BitVec 32} (h : be4 x = be4 y) : x = y := by
  have hx := x.isLt
  have hy := y.isLt
  simp only [be4, List.cons.injEq, and_true] at h
  obtain ⟨h1, h2, h3, h4⟩ := h
  have k1 := congrArg UInt8.toNat h1
  have k2 := congrArg UInt8.toNat h2
  have k3 := congrArg UInt8.toNat h3
  have k4 := congrArg UInt8.toNat h4
  simp only [UInt8.toNat_ofNat'] at k1 k2 k3 k4
  apply BitVec.eq_of_toNat_eq
  omega
/-- the bytes of which xs is a frame -/
def takeF (xs : List UInt8) : Option (List UInt8) := if 4 ≤ xs.length ∧ putF (xs.take (xs.length - 4)) = xs then some (xs.take (xs.length - 4)) else none
theorem takeF_put (xs : List UInt8) : takeF (putF xs) = some xs := by
  have h := putF_len xs
  have e : (putF xs).take ((putF xs).length - 4) = xs := by
    rw [h, Nat.add_sub_cancel]
    simp [putF]
  unfold takeF
  rw [e, if_pos ⟨by omega, rfl⟩]
theorem takeF_some {xs ys : List UInt8} (h : takeF xs = some ys) : putF ys = xs := by
  unfold takeF at h
  split at h
  · rename_i hc
    rw [← Option.some.inj h]
    exact hc.2
  · cases h
theorem byte_div (n k : Nat) : IntKind.u8.wrap (((n / k : Nat) : Int)) = (((UInt8.ofNat (n / k)).toNat : Nat) : Int) := by
  rw [UInt8.toNat_ofNat', IntKind.wrap_u8]
  omega

theorem Rd.cut {w : World} {a : Option Addr} {n cap : Nat} {xs : List UInt8} (h : Rd w a n cap xs) : Rd w a n n xs :=
  ⟨h.len, Nat.le_refl _, fun e => by have := h.nil e; have := h.le; omega, fun hc => h.mem (by have := h.le; omega)⟩
section
variable {P : Program} {T E : TypeId} (bt : BT P T E) {ops : Array Oper} {rest : List Oper} {o : Oper} {a : Act} {Q : Exit → Act → World → Prop} {w : World}
include bt
/-- append(s[:len(s):len(s)], src...): new memory -/
theorem wl_append_new (hgd : o.guard = none) (d s : Operand) (ho : o.op = .call { callee := .builtin .append, args := #[d, s], argTypes := #[T, T] })
    (ao : Option Addr) (n : Nat) (xs : List UInt8) (hd : a.eval d = .slice ao n n) (hr : Rd w ao n n xs) (sp : Addr) (m c : Nat) (ys : List UInt8)
    (hs : a.eval s = .slice (some sp) m c) (hrs : Rd w (some sp) m c ys) (hm : 0 < m) (hb : n + m ≤ 140737488355328)
    (hK : ∀ v' w', Own w' w.heap.size E v' (xs ++ ys) → Below w.heap.size w w' → wpList P ops Q rest (a.put o.dst v') w') :
    wpList P ops Q (o :: rest) a w := by
  obtain ⟨i0, hi, hz0, hz1, hz2⟩ := info_parts bt.info
  have hl := hr.len
  have hl2 := hrs.len
  refine wpList_append_grows w hgd d s T ho E i0 (.int .u8 0) 1 1 bt.sl hi hz0 hz1 hz2 rfl (by decide) ao n n (xs.map bv) hd (fun e => by have := hr.nil e; exact ⟨by omega, by omega⟩) (by simp [hl]) (fun b e j u hj => ?_) sp m c (ys.map bv) hs (by simp [hl2]) hrs.cells bv_oneCell (by omega) (by unfold maxLen; omega) (by omega) ?_
  · subst e
    exact hr.cells j u hj
  · intro v' w' h1 h2
    refine hK v' w' ?_ ((Below.refl _ _).grown h2 (Nat.le_refl _) fun k hk => by cases hk)
    unfold Own
    rw [List.length_append, List.map_append, hl, hl2]
    exact h1
end
def PutRes (w : World) (n : Nat) (xs : List UInt8) (e : Ending) (w' : World) : Prop := ∃ ao c, e = .returned (.slice ao (n + 4) c) ∧ Rd w' ao (n + 4) c (putF xs) ∧ Below w.heap.size w w'
set_option maxHeartbeats 1600000 in
set_option maxRecDepth 100000 in
theorem Put_any (a : Option Addr) (n cap : Nat) (xs : List UInt8) (w : World) (hn : n ≤ 140737488355300) (hr : Rd w a n cap xs) : Calls Try.prog 13 #[.slice a n cap] w (PutRes w n xs) := by
  have H := Sum_any a n cap xs w (by omega) hr
  have hl := hr.len
  have hle := hr.le
  have HR := Lib.hid hr
  clear hr
  obtain ⟨x, hx⟩ : ∃ x, x = sumF xs := ⟨_, rfl⟩
  rw [← hx] at H
  have hxl := x.isLt
  have hbe : Hid (((be4 x).map bv).toArray = #[.int .u8 ((x.toNat : Int) / 16777216), .int .u8 ((x.toNat : Int) / 65536 % 256), .int .u8 ((x.toNat : Int) / 256 % 256), .int .u8 ((x.toNat : Int) % 256)]) := by
    show ((be4 x).map bv).toArray = _
    have e1 : (((UInt8.ofNat (x.toNat / 16777216)).toNat : Nat) : Int) = (x.toNat : Int) / 16777216 := by rw [UInt8.toNat_ofNat']; omega
    have e2 : (((UInt8.ofNat (x.toNat / 65536 % 256)).toNat : Nat) : Int) = (x.toNat : Int) / 65536 % 256 := by rw [UInt8.toNat_ofNat']; omega
    have e3 : (((UInt8.ofNat (x.toNat / 256 % 256)).toNat : Nat) : Int) = (x.toNat : Int) / 256 % 256 := by rw [UInt8.toNat_ofNat']; omega
    have e4 : (((UInt8.ofNat (x.toNat % 256)).toNat : Nat) : Int) = (x.toNat : Int) % 256 := by rw [UInt8.toNat_ofNat']; omega
    simp only [be4, List.map_cons, List.map_nil, bv, e1, e2, e3, e4]
  have HL : Hid ((xs ++ be4 x).length = n + 4) := by
    show (xs ++ be4 x).length = n + 4
    simp [be4, hl]
  have HX := Lib.hid hx
  clear hx
  have hnil : Hid (a = none → n = 0 ∧ cap = 0) := fun e => by
    have h1 := HR.out.nil e
    exact ⟨by omega, h1⟩
  cases a with
  | none =>
    obtain ⟨rfl, rfl⟩ := hnil.out rfl
    clear hnil
    go_enter Try.func13, Try.ntmps13
    go_wp2_with (first | (go_at_call 9; refine H.mono ?_; rintro e w' ⟨rfl, rfl⟩) | ((with_reducible show wpList _ _ _ (⟨some 25, _, _, _, _, _⟩ :: _) _ _); go_loud (rw [← hbe.out]); go_loud (refine wl_append_new bt rfl _ _ rfl none 0 xs rfl (HR.out.to ((Below.refl _ _).alloc (Nat.le_refl _) _)) ⟨w.heap.size, 0, none⟩ 4 4 (be4 x) rfl (rd_lit w (be4 x) 5) (by decide) (by omega) ?_); intro v1 w1 ho1 hb1; go_loud (obtain ⟨g1, c1, rfl, hg1, hs1, hc1⟩ := ho1.solid (by simp [be4])); go_loud (rw [HL.out] at ho1 hc1 ⊢)))
    go_ret
    exact ⟨_, _, rfl, by rw [putF, ← HX.out]; exact ho1.rd.toRd.cut, ((Below.refl _ _).alloc (Nat.le_refl _) _).trans (hb1.mono (by simp))⟩
  | some ad =>
    obtain ⟨b, off, p⟩ := ad
    clear hnil
    go_enter Try.func13, Try.ntmps13
    go_wp2_with (first | (go_at_call 9; refine H.mono ?_; rintro e w' ⟨rfl, rfl⟩) | ((with_reducible show wpList _ _ _ (⟨some 25, _, _, _, _, _⟩ :: _) _ _); go_loud (rw [← hbe.out]); go_loud (refine wl_append_new bt rfl _ _ rfl (some ⟨b, off, p⟩) n xs rfl (HR.out.cut.to ((Below.refl _ _).alloc (Nat.le_refl _) _)) ⟨w.heap.size, 0, none⟩ 4 4 (be4 x) rfl (rd_lit w (be4 x) 5) (by decide) (by omega) ?_); intro v1 w1 ho1 hb1; go_loud (obtain ⟨g1, c1, rfl, hg1, hs1, hc1⟩ := ho1.solid (by simp [be4])); go_loud (rw [HL.out] at ho1 hc1 ⊢)))
    go_ret
    exact ⟨_, _, rfl, by rw [putF, ← HX.out]; exact ho1.rd.toRd.cut, ((Below.refl _ _).alloc (Nat.le_refl _) _).trans (hb1.mono (by simp))⟩
end Go.Proofs.Ytocehaflgpljfaa
