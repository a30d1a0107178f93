/-
  BaseKnown holds: the RFC's rows, what is none, limits. (A closed statement: no conditions.)
-/
import Derived.Test.YtpfhbkjjijmpaaaTakes3
import Derived.Test.YtpfhbkjjijmpaaaReg
import Derived.Lib.ConvBytes
namespace Go.Proofs.Ytpfhbkjjijmpaaa
open Go.ChangeShapes Go.WideShapes Go.ChangeAt Go.RowKit

def tX : List (List UInt8) := [[], [102], [102, 111], [102, 111, 111], [102, 111, 111, 98], [102, 111, 111, 98, 97], [102, 111, 111, 98, 97, 114]]
def wX : List (List UInt8) := [[], [90, 103, 61, 61], [90, 109, 56, 61], [90, 109, 57, 118], [90, 109, 57, 118, 89, 103, 61, 61], [90, 109, 57, 118, 89, 109, 69, 61], [90, 109, 57, 118, 89, 109, 70, 121]]
def bX : List (List UInt8) := [[61], [61, 61, 61, 61], [90], [90, 103], [90, 103, 61], [90, 103, 61, 61, 61], [90, 61, 61, 61], [90, 109, 57, 61], [90, 109, 57, 118, 10], [32, 90, 109, 57, 118], [90, 109, 56, 61, 90, 109, 56, 61], [90, 109, 45, 95]]
def strs (l : List (List UInt8)) : List Value := l.map fun x => .string (bstr x)
theorem strs_get (l : List (List UInt8)) (k : Nat) (h : k < l.length) : (strs l)[k]? = some (.string (bstr (l.getD k []))) := by
  simp [strs, List.getD, h]
theorem rows_ok : ∀ k : Fin 7, takeB (wX.getD k []) = some (tX.getD k []) ∧ putF (tX.getD k []) = wX.getD k [] ∧ (wX.getD k []).length ≤ 100 ∧ (tX.getD k []).length ≤ 100 := by decide +kernel
theorem rows_bad : ∀ k : Fin 12, takeB (bX.getD k []) = none ∧ (bX.getD k []).length ≤ 100 := by decide +kernel
theorem row_limit : bstr (putF [251, 255]) = ⟨#[43, 47, 56, 61]⟩ := by
  have : putF [251, 255] = [43, 47, 56, 61] := by decide +kernel
  rw [this]
  rfl

/-- []byte(s) of a string that is no constant -/
theorem conv_bytes (s : ByteArray) (w : World) : ∃ p c w', (convert 9 22 (.string s)).run Try.prog w = .ok (.slice p s.size c) w' ∧ Rd w' p s.size c s.data.toList ∧ Below w.heap.size w w' := by
  refine ⟨_, _, _, Lib.run_convert_string_bytes w 9 22 5 s Try.underlying9 Try.underlying22 Try.underlying5, ?_, ?_⟩
  · refine ⟨by simp, grownCap_ge _ _ _ _, (by intro e; cases e), fun _ => ⟨w.heap.size, 0, rfl, by rw [Lib.bytesWorld_size]; omega, fun j hj => ?_⟩⟩
    rw [Nat.zero_add]
    exact Lib.bytesWorld_cell w 5 s j hj
  · exact ⟨rfl, rfl, rfl, by rw [Lib.bytesWorld_size]; omega, fun k hk => Lib.bytesWorld_at_old w 5 s k hk⟩

structure InvN (t : List UInt8) (u : List UInt8) (k g cv : Nat) (pv : Option Addr) (w : World) (L : Nat → Bool) (v23 v24 v25 v26 v27 v28 v29 v30 v31 v32 v33 v34 v35 v36 v37 v38 v39 v40 v41 v42 v43 : Value) (wx : World) : Prop where
  t0 : L 0 = true → v23 = .int .i64 (k : Int)
  t1 : L 1 = true → v24 = .pointer (some ⟨g, k, none⟩)
  t2 : L 2 = true → v25 = .string (bstr t)
  t3 : L 3 = true → ∃ p c, v26 = .slice p t.length c ∧ Rd wx p t.length c t
  t4 : L 4 = true → v27 = .string (bstr u)
  t5 : L 5 = true → v28 = .int .i64 (k : Int)
  t6 : L 6 = true → v29 = .pointer (some ⟨g + 1, k, none⟩)
  t7 : L 7 = true → v30 = .string (bstr u)
  t8 : L 8 = true → v31 = .bool false
  t9 : L 9 = true → v32 = .bool false
  t10 : L 10 = true → v33 = .int .i64 0
  t11 : L 11 = true → v34 = .bool false
  t12 : L 12 = true → v35 = .bool false
  t13 : L 13 = true → v36 = .bool false
  t14 : L 14 = true → v37 = .slice pv t.length cv
  t15 : L 15 = true → v38 = .string (bstr t)
  t16 : L 16 = true → v39 = .int .i64 (k : Int)
  t17 : L 17 = true → v40 = .pointer (some ⟨g, k, none⟩)
  t18 : L 18 = true → v41 = .string (bstr t)
  t19 : L 19 = true → v42 = .bool false
  t20 : L 20 = true → v43 = .bool false
  ar : Arr wx g 34 (strs tX)
  wa : Arr wx (g + 1) 34 (strs wX)
  rb : Rd wx pv t.length cv t
  bl : Below g w wx

theorem rd_drew {w : World} {a : Option Addr} {n cap : Nat} {xs : List UInt8} (h : Rd w a n cap xs) : Rd w.drew a n cap xs := ⟨h.len, h.le, h.nil, h.mem⟩

set_option maxRecDepth 100000 in
set_option maxHeartbeats 1600000 in
theorem Known_any (w : World) : Calls Try.prog 6 #[] w fun e w' => e = .returned (.bool true) ∧ Below w.heap.size w w' := by
  go_enter Try.func6, Try.ntmps6
  go_wp2_with fail
  obtain ⟨w2, hw2⟩ : ∃ w2, w2 = (w.alloc (.cells (strs tX).toArray 34)).alloc (.cells (strs wX).toArray 34) := ⟨_, rfl⟩
  have hA : Arr w2 w.heap.size 34 (strs tX) := by
    rw [hw2]
    exact (Arr.new w _ _).kept ((Below.refl _ _).alloc (Nat.le_refl _) _)
  have hW : Arr w2 (w.heap.size + 1) 34 (strs wX) := by
    have := Arr.new (w.alloc (.cells (strs tX).toArray 34)) 34 (strs wX)
    rw [World.size_alloc] at this
    rw [hw2]
    exact this
  have hB : Below w.heap.size w w2 := by
    rw [hw2]
    exact ((Below.refl _ _).alloc (Nat.le_refl _) _).alloc (by rw [World.size_alloc]; omega) _
  have HW2 := Lib.hid hw2
  rw [show (w.alloc (.cells #[.string ⟨#[]⟩, .string ⟨#[102]⟩, .string ⟨#[102, 111]⟩, .string ⟨#[102, 111, 111]⟩, .string ⟨#[102, 111, 111, 98]⟩, .string ⟨#[102, 111, 111, 98, 97]⟩, .string ⟨#[102, 111, 111, 98, 97, 114]⟩] 34)).alloc (.cells #[.string ⟨#[]⟩, .string ⟨#[90, 103, 61, 61]⟩, .string ⟨#[90, 109, 56, 61]⟩, .string ⟨#[90, 109, 57, 118]⟩, .string ⟨#[90, 109, 57, 118, 89, 103, 61, 61]⟩, .string ⟨#[90, 109, 57, 118, 89, 109, 69, 61]⟩, .string ⟨#[90, 109, 57, 118, 89, 109, 70, 121]⟩] 34) = w2 from hw2.symm]
  clear hw2
  generalize hg : w.heap.size = g at *
  have HG := Lib.hid hg
  clear hg
  go_loopw [3] (fun i wr => ∃ k : Nat, k ≤ 7 ∧ i = .int .i64 k ∧ Arr wr g 34 (strs tX) ∧ Arr wr (g + 1) 34 (strs wX) ∧ Below g w wr) (fun i _ => 7 - (intOf i).toNat)
  case atStart => exact ⟨0, by omega, rfl, hA, hW, hB⟩
  case round =>
    clear hA hW hB
    obtain ⟨k, hk, rfl, hA, hW, hB⟩ := hrel
    by_cases hlt : k < 7
    · have hc : (k : Int) < 7 := by omega
      obtain ⟨hr1, hr2, hr3, hr4⟩ := rows_ok ⟨k, hlt⟩
      simp only at hr1 hr2 hr3 hr4
      have ct0 := strs_get tX k hlt
      have cu0 := strs_get wX k hlt
      have ct := (hA.cell k).trans ct0
      have cu := (hW.cell k).trans cu0
      generalize tX.getD k [] = t at *
      generalize wX.getD k [] = u at *
      have KT : Hid (∀ w, Calls Try.prog 7 #[.string (bstr u)] w fun e w' => ∃ v, e = .returned (.tuple #[v, .int .i64 0]) ∧ Own w' w.heap.size 5 v t ∧ Below w.heap.size w w') := fun w => by
        have h := Take_any (bstr u) w (by rw [bstr_size]; omega)
        rw [bstr_data, hr1] at h
        exact h
      have KP : Hid (∀ w p c, Rd w p t.length c t → Calls Try.prog 10 #[.slice p t.length c] w fun e w' => e = .returned (.string (bstr u)) ∧ Below w.heap.size w w') := fun w p c h => by
        have := Put_any p t.length c t w (by omega) h
        rw [hr2] at this
        exact this
      clear hr1 hr2 hr3 hr4
      go_upto_region 7 with (go_at_call 7; refine (KT.out _).mono ?_; rintro e w3 ⟨v, rfl, ho, hb3⟩; obtain ⟨pv, cv, rfl, -⟩ := ho.shape)
      have hA3 := hA.kept hb3
      have hW3 := hW.kept hb3
      have hB3 := hB.trans (hb3.mono (Nat.le_of_lt hA.lt))
      have hr3 := ho.rd.toRd
      have CT := Lib.hid ct0
      have CU := Lib.hid cu0
      clear hA hW hB ho hb3 ct cu ct0 cu0
      refine wp_region_steps [[], [0], [1], [2], [3], [], [5], [6], [4, 7], [8], [9], [10, 9], [9, 11], [12], [13], [14, 13], [13], [16, 13], [17, 13], [15, 18, 13], [13, 19]] (by kernel_rfl) (by kernel_rfl) (fun L a wx => ∃ v23 v24 v25 v26 v27 v28 v29 v30 v31 v32 v33 v34 v35 v36 v37 v38 v39 v40 v41 v42 v43, a = ⟨#[u0, .pointer (some ⟨g, 0, none⟩), .pointer (some ⟨g + 1, 0, none⟩), .int .i64 (k : Int), .slice pv t.length cv, .int .i64 0, undef, undef, undef, undef, .agg #[.string ⟨#[]⟩, .string ⟨#[102]⟩, .string ⟨#[102, 111]⟩, .string ⟨#[102, 111, 111]⟩, .string ⟨#[102, 111, 111, 98]⟩, .string ⟨#[102, 111, 111, 98, 97]⟩, .string ⟨#[102, 111, 111, 98, 97, 114]⟩], .agg #[.string ⟨#[]⟩, .string ⟨#[90, 103, 61, 61]⟩, .string ⟨#[90, 109, 56, 61]⟩, .string ⟨#[90, 109, 57, 118]⟩, .string ⟨#[90, 109, 57, 118, 89, 103, 61, 61]⟩, .string ⟨#[90, 109, 57, 118, 89, 109, 69, 61]⟩, .string ⟨#[90, 109, 57, 118, 89, 109, 70, 121]⟩], .int .i64 (k : Int), .bool true, u14, u15, .tuple #[.slice pv t.length cv, .int .i64 0], .int .i64 (k : Int), .pointer (some ⟨g + 1, k, none⟩), .string (bstr u), .tuple #[.slice pv t.length cv, .int .i64 0], .slice pv t.length cv, .int .i64 0, v23, v24, v25, v26, v27, v28, v29, v30, v31, v32, v33, v34, v35, v36, v37, v38, v39, v40, v41, v42, v43, undef, undef, undef, undef, undef, undef, undef, undef, undef, undef, undef, undef, undef, undef, undef, undef, undef, undef, undef, undef, undef, undef, undef, undef, undef, undef, undef, undef, undef, undef, undef, undef], []⟩ ∧ InvN t u k g cv pv w L v23 v24 v25 v26 v27 v28 v29 v30 v31 v32 v33 v34 v35 v36 v37 v38 v39 v40 v41 v42 v43 wx) ?_ ⟨?_, ?_, ?_, ?_, ?_, ?_, ?_, ?_, ?_, ?_, ?_, ?_, ?_, ?_, ?_, ?_, ?_, ?_, ?_, ?_, ?_, trivial⟩ ?_
      · refine ⟨_, _, _, _, _, _, _, _, _, _, _, _, _, _, _, _, _, _, _, _, _, rfl, ⟨?_, ?_, ?_, ?_, ?_, ?_, ?_, ?_, ?_, ?_, ?_, ?_, ?_, ?_, ?_, ?_, ?_, ?_, ?_, ?_, ?_, hA3.drew, hW3.drew, rd_drew hr3, hB3.drew⟩⟩ <;> (intro h; exact absurd h (by decide))
      · rintro L a wx ⟨v23, v24, v25, v26, v27, v28, v29, v30, v31, v32, v33, v34, v35, v36, v37, v38, v39, v40, v41, v42, v43, rfl, hI⟩ hL hdep hcl K hK
        go_simp
        exact hK _ _ ⟨_, v24, v25, v26, v27, v28, v29, v30, v31, v32, v33, v34, v35, v36, v37, v38, v39, v40, v41, v42, v43, rfl, ⟨fun _ => rfl, hI.t1, hI.t2, hI.t3, hI.t4, hI.t5, hI.t6, hI.t7, hI.t8, hI.t9, hI.t10, hI.t11, hI.t12, hI.t13, hI.t14, hI.t15, hI.t16, hI.t17, hI.t18, hI.t19, hI.t20, hI.ar, hI.wa, hI.rb, hI.bl⟩⟩
      · rintro L a wx ⟨v23, v24, v25, v26, v27, v28, v29, v30, v31, v32, v33, v34, v35, v36, v37, v38, v39, v40, v41, v42, v43, rfl, hI⟩ hL hdep hcl K hK
        obtain rfl := hI.t0 (hdep 0 (by decide))
        go_simp
        exact hK _ _ ⟨_, _, v25, v26, v27, v28, v29, v30, v31, v32, v33, v34, v35, v36, v37, v38, v39, v40, v41, v42, v43, rfl, ⟨hI.t0, fun _ => rfl, hI.t2, hI.t3, hI.t4, hI.t5, hI.t6, hI.t7, hI.t8, hI.t9, hI.t10, hI.t11, hI.t12, hI.t13, hI.t14, hI.t15, hI.t16, hI.t17, hI.t18, hI.t19, hI.t20, hI.ar, hI.wa, hI.rb, hI.bl⟩⟩
      · rintro L a wx ⟨v23, v24, v25, v26, v27, v28, v29, v30, v31, v32, v33, v34, v35, v36, v37, v38, v39, v40, v41, v42, v43, rfl, hI⟩ hL hdep hcl K hK
        obtain rfl := hI.t1 (hdep 1 (by decide))
        have ct := (hI.ar.cell k).trans CT.out
        go_simp
        exact hK _ _ ⟨v23, _, _, v26, v27, v28, v29, v30, v31, v32, v33, v34, v35, v36, v37, v38, v39, v40, v41, v42, v43, rfl, ⟨hI.t0, hI.t1, fun _ => rfl, hI.t3, hI.t4, hI.t5, hI.t6, hI.t7, hI.t8, hI.t9, hI.t10, hI.t11, hI.t12, hI.t13, hI.t14, hI.t15, hI.t16, hI.t17, hI.t18, hI.t19, hI.t20, hI.ar, hI.wa, hI.rb, hI.bl⟩⟩
      · rintro L a wx ⟨v23, v24, v25, v26, v27, v28, v29, v30, v31, v32, v33, v34, v35, v36, v37, v38, v39, v40, v41, v42, v43, rfl, hI⟩ hL hdep hcl K hK
        obtain rfl := hI.t2 (hdep 2 (by decide))
        obtain ⟨p, c, w', hrun, hrd, hb⟩ := conv_bytes (bstr t) wx
        rw [bstr_size] at hrun hrd
        go_simp
        exact hK _ _ ⟨v23, v24, _, _, v27, v28, v29, v30, v31, v32, v33, v34, v35, v36, v37, v38, v39, v40, v41, v42, v43, rfl, ⟨hI.t0, hI.t1, hI.t2, fun _ => ⟨p, c, rfl, hrd⟩, hI.t4, hI.t5, hI.t6, hI.t7, hI.t8, hI.t9, hI.t10, hI.t11, hI.t12, hI.t13, hI.t14, hI.t15, hI.t16, hI.t17, hI.t18, hI.t19, hI.t20, hI.ar.kept hb, hI.wa.kept hb, hI.rb.to hb, hI.bl.trans (hb.mono (Nat.le_of_lt hI.ar.lt))⟩⟩
      · rintro L a wx ⟨v23, v24, v25, v26, v27, v28, v29, v30, v31, v32, v33, v34, v35, v36, v37, v38, v39, v40, v41, v42, v43, rfl, hI⟩ hL hdep hcl K hK
        obtain ⟨p, c, rfl, hrd⟩ := hI.t3 (hdep 3 (by decide))
        go_simp
        refine (KP.out _ _ _ hrd).mono ?_
        rintro e w' ⟨rfl, hb⟩
        exact hK _ _ ⟨v23, v24, v25, _, _, v28, v29, v30, v31, v32, v33, v34, v35, v36, v37, v38, v39, v40, v41, v42, v43, rfl, ⟨hI.t0, hI.t1, hI.t2, fun _ => ⟨p, c, rfl, hrd.to hb⟩, fun _ => rfl, hI.t5, hI.t6, hI.t7, hI.t8, hI.t9, hI.t10, hI.t11, hI.t12, hI.t13, hI.t14, hI.t15, hI.t16, hI.t17, hI.t18, hI.t19, hI.t20, hI.ar.kept hb, hI.wa.kept hb, hI.rb.to hb, hI.bl.trans (hb.mono (Nat.le_of_lt hI.ar.lt))⟩⟩
      · rintro L a wx ⟨v23, v24, v25, v26, v27, v28, v29, v30, v31, v32, v33, v34, v35, v36, v37, v38, v39, v40, v41, v42, v43, rfl, hI⟩ hL hdep hcl K hK
        go_simp
        exact hK _ _ ⟨v23, v24, v25, v26, v27, _, v29, v30, v31, v32, v33, v34, v35, v36, v37, v38, v39, v40, v41, v42, v43, rfl, ⟨hI.t0, hI.t1, hI.t2, hI.t3, hI.t4, fun _ => rfl, hI.t6, hI.t7, hI.t8, hI.t9, hI.t10, hI.t11, hI.t12, hI.t13, hI.t14, hI.t15, hI.t16, hI.t17, hI.t18, hI.t19, hI.t20, hI.ar, hI.wa, hI.rb, hI.bl⟩⟩
      · rintro L a wx ⟨v23, v24, v25, v26, v27, v28, v29, v30, v31, v32, v33, v34, v35, v36, v37, v38, v39, v40, v41, v42, v43, rfl, hI⟩ hL hdep hcl K hK
        obtain rfl := hI.t5 (hdep 5 (by decide))
        go_simp
        exact hK _ _ ⟨v23, v24, v25, v26, v27, _, _, v30, v31, v32, v33, v34, v35, v36, v37, v38, v39, v40, v41, v42, v43, rfl, ⟨hI.t0, hI.t1, hI.t2, hI.t3, hI.t4, hI.t5, fun _ => rfl, hI.t7, hI.t8, hI.t9, hI.t10, hI.t11, hI.t12, hI.t13, hI.t14, hI.t15, hI.t16, hI.t17, hI.t18, hI.t19, hI.t20, hI.ar, hI.wa, hI.rb, hI.bl⟩⟩
      · rintro L a wx ⟨v23, v24, v25, v26, v27, v28, v29, v30, v31, v32, v33, v34, v35, v36, v37, v38, v39, v40, v41, v42, v43, rfl, hI⟩ hL hdep hcl K hK
        obtain rfl := hI.t6 (hdep 6 (by decide))
        have cu := (hI.wa.cell k).trans CU.out
        go_simp
        exact hK _ _ ⟨v23, v24, v25, v26, v27, v28, _, _, v31, v32, v33, v34, v35, v36, v37, v38, v39, v40, v41, v42, v43, rfl, ⟨hI.t0, hI.t1, hI.t2, hI.t3, hI.t4, hI.t5, hI.t6, fun _ => rfl, hI.t8, hI.t9, hI.t10, hI.t11, hI.t12, hI.t13, hI.t14, hI.t15, hI.t16, hI.t17, hI.t18, hI.t19, hI.t20, hI.ar, hI.wa, hI.rb, hI.bl⟩⟩
      · rintro L a wx ⟨v23, v24, v25, v26, v27, v28, v29, v30, v31, v32, v33, v34, v35, v36, v37, v38, v39, v40, v41, v42, v43, rfl, hI⟩ hL hdep hcl K hK
        obtain rfl := hI.t4 (hdep 4 (by decide))
        obtain rfl := hI.t7 (hdep 7 (by decide))
        go_simp
        exact hK _ _ ⟨v23, v24, v25, v26, _, v28, v29, _, _, v32, v33, v34, v35, v36, v37, v38, v39, v40, v41, v42, v43, rfl, ⟨hI.t0, hI.t1, hI.t2, hI.t3, hI.t4, hI.t5, hI.t6, hI.t7, fun _ => rfl, hI.t9, hI.t10, hI.t11, hI.t12, hI.t13, hI.t14, hI.t15, hI.t16, hI.t17, hI.t18, hI.t19, hI.t20, hI.ar, hI.wa, hI.rb, hI.bl⟩⟩
      · rintro L a wx ⟨v23, v24, v25, v26, v27, v28, v29, v30, v31, v32, v33, v34, v35, v36, v37, v38, v39, v40, v41, v42, v43, rfl, hI⟩ hL hdep hcl K hK
        obtain rfl := hI.t8 (hdep 8 (by decide))
        go_simp
        exact hK _ _ ⟨v23, v24, v25, v26, v27, v28, v29, v30, _, _, v33, v34, v35, v36, v37, v38, v39, v40, v41, v42, v43, rfl, ⟨hI.t0, hI.t1, hI.t2, hI.t3, hI.t4, hI.t5, hI.t6, hI.t7, hI.t8, fun _ => rfl, hI.t10, hI.t11, hI.t12, hI.t13, hI.t14, hI.t15, hI.t16, hI.t17, hI.t18, hI.t19, hI.t20, hI.ar, hI.wa, hI.rb, hI.bl⟩⟩
      · rintro L a wx ⟨v23, v24, v25, v26, v27, v28, v29, v30, v31, v32, v33, v34, v35, v36, v37, v38, v39, v40, v41, v42, v43, rfl, hI⟩ hL hdep hcl K hK
        obtain rfl := hI.t9 (hdep 9 (by decide))
        refine (if_pos rfl).mpr ?_
        go_simp
        exact hK _ _ ⟨v23, v24, v25, v26, v27, v28, v29, v30, v31, _, _, v34, v35, v36, v37, v38, v39, v40, v41, v42, v43, rfl, ⟨hI.t0, hI.t1, hI.t2, hI.t3, hI.t4, hI.t5, hI.t6, hI.t7, hI.t8, hI.t9, fun _ => rfl, hI.t11, hI.t12, hI.t13, hI.t14, hI.t15, hI.t16, hI.t17, hI.t18, hI.t19, hI.t20, hI.ar, hI.wa, hI.rb, hI.bl⟩⟩
      · rintro L a wx ⟨v23, v24, v25, v26, v27, v28, v29, v30, v31, v32, v33, v34, v35, v36, v37, v38, v39, v40, v41, v42, v43, rfl, hI⟩ hL hdep hcl K hK
        obtain rfl := hI.t10 (hdep 10 (by decide))
        obtain rfl := hI.t9 (hdep 9 (by decide))
        refine (if_pos rfl).mpr ?_
        go_simp
        exact hK _ _ ⟨v23, v24, v25, v26, v27, v28, v29, v30, v31, _, _, _, v35, v36, v37, v38, v39, v40, v41, v42, v43, rfl, ⟨hI.t0, hI.t1, hI.t2, hI.t3, hI.t4, hI.t5, hI.t6, hI.t7, hI.t8, hI.t9, hI.t10, fun _ => rfl, hI.t12, hI.t13, hI.t14, hI.t15, hI.t16, hI.t17, hI.t18, hI.t19, hI.t20, hI.ar, hI.wa, hI.rb, hI.bl⟩⟩
      · rintro L a wx ⟨v23, v24, v25, v26, v27, v28, v29, v30, v31, v32, v33, v34, v35, v36, v37, v38, v39, v40, v41, v42, v43, rfl, hI⟩ hL hdep hcl K hK
        obtain rfl := hI.t9 (hdep 9 (by decide))
        obtain rfl := hI.t11 (hdep 11 (by decide))
        go_simp
        exact hK _ _ ⟨v23, v24, v25, v26, v27, v28, v29, v30, v31, _, v33, _, _, v36, v37, v38, v39, v40, v41, v42, v43, rfl, ⟨hI.t0, hI.t1, hI.t2, hI.t3, hI.t4, hI.t5, hI.t6, hI.t7, hI.t8, hI.t9, hI.t10, hI.t11, fun _ => rfl, hI.t13, hI.t14, hI.t15, hI.t16, hI.t17, hI.t18, hI.t19, hI.t20, hI.ar, hI.wa, hI.rb, hI.bl⟩⟩
      · rintro L a wx ⟨v23, v24, v25, v26, v27, v28, v29, v30, v31, v32, v33, v34, v35, v36, v37, v38, v39, v40, v41, v42, v43, rfl, hI⟩ hL hdep hcl K hK
        obtain rfl := hI.t12 (hdep 12 (by decide))
        go_simp
        exact hK _ _ ⟨v23, v24, v25, v26, v27, v28, v29, v30, v31, v32, v33, v34, _, _, v37, v38, v39, v40, v41, v42, v43, rfl, ⟨hI.t0, hI.t1, hI.t2, hI.t3, hI.t4, hI.t5, hI.t6, hI.t7, hI.t8, hI.t9, hI.t10, hI.t11, hI.t12, fun _ => rfl, hI.t14, hI.t15, hI.t16, hI.t17, hI.t18, hI.t19, hI.t20, hI.ar, hI.wa, hI.rb, hI.bl⟩⟩
      · rintro L a wx ⟨v23, v24, v25, v26, v27, v28, v29, v30, v31, v32, v33, v34, v35, v36, v37, v38, v39, v40, v41, v42, v43, rfl, hI⟩ hL hdep hcl K hK
        obtain rfl := hI.t13 (hdep 13 (by decide))
        refine (if_pos rfl).mpr ?_
        go_simp
        exact hK _ _ ⟨v23, v24, v25, v26, v27, v28, v29, v30, v31, v32, v33, v34, v35, _, _, v38, v39, v40, v41, v42, v43, rfl, ⟨hI.t0, hI.t1, hI.t2, hI.t3, hI.t4, hI.t5, hI.t6, hI.t7, hI.t8, hI.t9, hI.t10, hI.t11, hI.t12, hI.t13, fun _ => rfl, hI.t15, hI.t16, hI.t17, hI.t18, hI.t19, hI.t20, hI.ar, hI.wa, hI.rb, hI.bl⟩⟩
      · rintro L a wx ⟨v23, v24, v25, v26, v27, v28, v29, v30, v31, v32, v33, v34, v35, v36, v37, v38, v39, v40, v41, v42, v43, rfl, hI⟩ hL hdep hcl K hK
        obtain rfl := hI.t14 (hdep 14 (by decide))
        obtain rfl := hI.t13 (hdep 13 (by decide))
        refine (if_pos rfl).mpr ?_
        have hst := run_bstr bt Try.underlying9 hI.rb
        go_simp
        exact hK _ _ ⟨v23, v24, v25, v26, v27, v28, v29, v30, v31, v32, v33, v34, v35, _, _, _, v39, v40, v41, v42, v43, rfl, ⟨hI.t0, hI.t1, hI.t2, hI.t3, hI.t4, hI.t5, hI.t6, hI.t7, hI.t8, hI.t9, hI.t10, hI.t11, hI.t12, hI.t13, hI.t14, fun _ => rfl, hI.t16, hI.t17, hI.t18, hI.t19, hI.t20, hI.ar, hI.wa, hI.rb, hI.bl⟩⟩
      · rintro L a wx ⟨v23, v24, v25, v26, v27, v28, v29, v30, v31, v32, v33, v34, v35, v36, v37, v38, v39, v40, v41, v42, v43, rfl, hI⟩ hL hdep hcl K hK
        obtain rfl := hI.t13 (hdep 13 (by decide))
        refine (if_pos rfl).mpr ?_
        go_simp
        exact hK _ _ ⟨v23, v24, v25, v26, v27, v28, v29, v30, v31, v32, v33, v34, v35, _, v37, v38, _, v40, v41, v42, v43, rfl, ⟨hI.t0, hI.t1, hI.t2, hI.t3, hI.t4, hI.t5, hI.t6, hI.t7, hI.t8, hI.t9, hI.t10, hI.t11, hI.t12, hI.t13, hI.t14, hI.t15, fun _ => rfl, hI.t17, hI.t18, hI.t19, hI.t20, hI.ar, hI.wa, hI.rb, hI.bl⟩⟩
      · rintro L a wx ⟨v23, v24, v25, v26, v27, v28, v29, v30, v31, v32, v33, v34, v35, v36, v37, v38, v39, v40, v41, v42, v43, rfl, hI⟩ hL hdep hcl K hK
        obtain rfl := hI.t16 (hdep 16 (by decide))
        obtain rfl := hI.t13 (hdep 13 (by decide))
        refine (if_pos rfl).mpr ?_
        go_simp
        exact hK _ _ ⟨v23, v24, v25, v26, v27, v28, v29, v30, v31, v32, v33, v34, v35, _, v37, v38, _, _, v41, v42, v43, rfl, ⟨hI.t0, hI.t1, hI.t2, hI.t3, hI.t4, hI.t5, hI.t6, hI.t7, hI.t8, hI.t9, hI.t10, hI.t11, hI.t12, hI.t13, hI.t14, hI.t15, hI.t16, fun _ => rfl, hI.t18, hI.t19, hI.t20, hI.ar, hI.wa, hI.rb, hI.bl⟩⟩
      · rintro L a wx ⟨v23, v24, v25, v26, v27, v28, v29, v30, v31, v32, v33, v34, v35, v36, v37, v38, v39, v40, v41, v42, v43, rfl, hI⟩ hL hdep hcl K hK
        obtain rfl := hI.t17 (hdep 17 (by decide))
        obtain rfl := hI.t13 (hdep 13 (by decide))
        refine (if_pos rfl).mpr ?_
        have ct := (hI.ar.cell k).trans CT.out
        go_simp
        exact hK _ _ ⟨v23, v24, v25, v26, v27, v28, v29, v30, v31, v32, v33, v34, v35, _, v37, v38, v39, _, _, v42, v43, rfl, ⟨hI.t0, hI.t1, hI.t2, hI.t3, hI.t4, hI.t5, hI.t6, hI.t7, hI.t8, hI.t9, hI.t10, hI.t11, hI.t12, hI.t13, hI.t14, hI.t15, hI.t16, hI.t17, fun _ => rfl, hI.t19, hI.t20, hI.ar, hI.wa, hI.rb, hI.bl⟩⟩
      · rintro L a wx ⟨v23, v24, v25, v26, v27, v28, v29, v30, v31, v32, v33, v34, v35, v36, v37, v38, v39, v40, v41, v42, v43, rfl, hI⟩ hL hdep hcl K hK
        obtain rfl := hI.t15 (hdep 15 (by decide))
        obtain rfl := hI.t18 (hdep 18 (by decide))
        obtain rfl := hI.t13 (hdep 13 (by decide))
        refine (if_pos rfl).mpr ?_
        go_simp
        exact hK _ _ ⟨v23, v24, v25, v26, v27, v28, v29, v30, v31, v32, v33, v34, v35, _, v37, _, v39, v40, _, _, v43, rfl, ⟨hI.t0, hI.t1, hI.t2, hI.t3, hI.t4, hI.t5, hI.t6, hI.t7, hI.t8, hI.t9, hI.t10, hI.t11, hI.t12, hI.t13, hI.t14, hI.t15, hI.t16, hI.t17, hI.t18, fun _ => rfl, hI.t20, hI.ar, hI.wa, hI.rb, hI.bl⟩⟩
      · rintro L a wx ⟨v23, v24, v25, v26, v27, v28, v29, v30, v31, v32, v33, v34, v35, v36, v37, v38, v39, v40, v41, v42, v43, rfl, hI⟩ hL hdep hcl K hK
        obtain rfl := hI.t13 (hdep 13 (by decide))
        obtain rfl := hI.t19 (hdep 19 (by decide))
        go_simp
        exact hK _ _ ⟨v23, v24, v25, v26, v27, v28, v29, v30, v31, v32, v33, v34, v35, _, v37, v38, v39, v40, v41, _, _, rfl, ⟨hI.t0, hI.t1, hI.t2, hI.t3, hI.t4, hI.t5, hI.t6, hI.t7, hI.t8, hI.t9, hI.t10, hI.t11, hI.t12, hI.t13, hI.t14, hI.t15, hI.t16, hI.t17, hI.t18, hI.t19, fun _ => rfl, hI.ar, hI.wa, hI.rb, hI.bl⟩⟩
      · rintro a wx ⟨v23, v24, v25, v26, v27, v28, v29, v30, v31, v32, v33, v34, v35, v36, v37, v38, v39, v40, v41, v42, v43, rfl, hI⟩
        obtain rfl := hI.t20 rfl
        have hA4 := hI.ar
        have hW4 := hI.wa
        have hB4 := hI.bl
        clear hI hA3 hW3 hB3 hr3
        go_wp2_with fail
        go_roundw
        case rel => exact ⟨k + 1, by omega, by go_num, hA4, hW4, hB4⟩
        case measure => simp [intOf] <;> omega
    · have hc : ¬ (k : Int) < 7 := by omega
      clear hlt hk
      go_wp2_with fail
      obtain ⟨w4, hw4⟩ : ∃ w4, w4 = wr.alloc (.cells (strs bX).toArray 35) := ⟨_, rfl⟩
      have hX : Arr w4 wr.heap.size 35 (strs bX) := by rw [hw4]; exact Arr.new wr _ _
      have hB4 : Below g w w4 := by rw [hw4]; exact hB.alloc (Nat.le_of_lt hA.lt) _
      rw [show wr.alloc (.cells #[.string ⟨#[61]⟩, .string ⟨#[61, 61, 61, 61]⟩, .string ⟨#[90]⟩, .string ⟨#[90, 103]⟩, .string ⟨#[90, 103, 61]⟩, .string ⟨#[90, 103, 61, 61, 61]⟩, .string ⟨#[90, 61, 61, 61]⟩, .string ⟨#[90, 109, 57, 61]⟩, .string ⟨#[90, 109, 57, 118, 10]⟩, .string ⟨#[32, 90, 109, 57, 118]⟩, .string ⟨#[90, 109, 56, 61, 90, 109, 56, 61]⟩, .string ⟨#[90, 109, 45, 95]⟩] 35) = w4 from hw4.symm]
      have hgr : g ≤ wr.heap.size := Nat.le_of_lt hA.lt
      clear hw4 hA hW hB
      generalize hg3 : wr.heap.size = g3 at *
      clear hg3
      go_loopw [7] (fun i wr => ∃ k : Nat, k ≤ 12 ∧ i = .int .i64 k ∧ Arr wr g3 35 (strs bX) ∧ Below g w wr) (fun i _ => 12 - (intOf i).toNat)
      case atStart => exact ⟨0, by omega, rfl, hX, hB4⟩
      case round =>
        clear hX hB4
        obtain ⟨k, hk, rfl, hX, hB⟩ := hrel
        have hgs : g ≤ wr.heap.size := Nat.le_trans hgr (Nat.le_of_lt hX.lt)
        by_cases hlt : k < 12
        · have hc : (k : Int) < 12 := by omega
          obtain ⟨hr1, hr2⟩ := rows_bad ⟨k, hlt⟩
          simp only at hr1 hr2
          have ct := (hX.cell k).trans (strs_get bX k hlt)
          generalize bX.getD k [] = t at *
          have KT : Hid (∀ w, Calls Try.prog 7 #[.string (bstr t)] w fun e w' => ∃ v, e = .returned (.tuple #[v, .int .i64 5]) ∧ Own w' w.heap.size 5 v [] ∧ Below w.heap.size w w') := fun w => by
            have h := Take_any (bstr t) w (by rw [bstr_size]; omega)
            rw [bstr_data, hr1] at h
            exact h
          clear hr1 hr2
          go_wp2_with (go_at_call 7; refine (KT.out _).mono ?_; rintro e w3 ⟨v, rfl, ho, hb3⟩)
          have hX3 := hX.kept hb3
          have hB3 := hB.trans (hb3.mono hgs)
          go_roundw
          case rel => exact ⟨k + 1, by omega, by go_num, hX3, hB3⟩
          case measure => simp [intOf] <;> omega
        · have hc : ¬ (k : Int) < 12 := by omega
          clear hlt hk
          have s0 : Hid (∀ w, Calls Try.prog 11 #[.int .i64 0] w fun e w' => e = .returned (.int .i64 0) ∧ w' = w) := fun w => Size_any 0 w (by omega) (by omega)
          have s1 : Hid (∀ w, Calls Try.prog 11 #[.int .i64 (-5)] w fun e w' => e = .returned (.int .i64 0) ∧ w' = w) := fun w => Size_any (-5) w (by omega) (by omega)
          have s3 : Hid (∀ w, Calls Try.prog 11 #[.int .i64 3] w fun e w' => e = .returned (.int .i64 4) ∧ w' = w) := fun w => Size_any 3 w (by omega) (by omega)
          have KL : Hid (∀ w p c, Rd w p 2 c [251, 255] → Calls Try.prog 10 #[.slice p 2 c] w fun e w' => e = .returned (.string ⟨#[43, 47, 56, 61]⟩) ∧ Below w.heap.size w w') := fun w p c h => by
            have := Put_any p 2 c _ w (by omega) h
            rw [row_limit] at this
            exact this
          go_wp2_with fail
          refine (s0.out _).mono ?_
          rintro e w5 ⟨rfl, hw5⟩
          obtain rfl := hw5.symm
          go_wp2_with fail
          refine (s1.out _).mono ?_
          rintro e w6 ⟨rfl, hw6⟩
          obtain rfl := hw6.symm
          go_wp2_with fail
          refine (s3.out _).mono ?_
          rintro e w7 ⟨rfl, hw7⟩
          obtain rfl := hw7.symm
          go_wp2_with fail
          refine (KL.out _ _ _ (rd_lit _ [251, 255] _)).mono ?_
          rintro e w8 ⟨rfl, hb8⟩
          have hs8 := hb8.size
          rw [World.size_alloc] at hs8
          have hB8 := Lib.hid ((hB.alloc hgs _).trans (hb8.mono (by rw [World.size_alloc]; omega)))
          clear hb8 hB hX
          go_wp2_with fail
          refine (wakes_any _).mono ?_
          rintro e w9 ⟨rfl, hb9⟩
          go_wp2_with fail
          go_ret
          exact ⟨rfl, HG.out.symm ▸ hB8.out.trans (hb9.mono (by have := hB8.out.size; omega))⟩

theorem baseKnown_lifted (os : Os) (started : os.Started) (H : Type) (enc : TypeId × Value → H) :
    ReturnsInHanded {} Try.checked os 6 .any (Rows.baseKnownSpec.pre6 enc Try.prog Try.f6 Rows.baseKnownRow.domain false) (Rows.baseKnownSpec.post enc Try.prog Try.f6 false true false false) := by
  refine returnsInHanded_of_change (C := Try.checked) ownKnobs started (by kernel_rfl) Try.func6
    (ChangeSpec.witness6 (enc := enc) (C := Try.checked) false ⟨#[], #[], []⟩ 8 (by kernel_rfl) (by kernel_rfl) (by kernel_rfl) (by kernel_rfl)) ?_
  intro W base args ds gs before hval0 hW _ _
  have hW' := hW
  obtain ⟨p, q, hA0, hV, rfl, _, _⟩ := hW
  have hA : DataW.TrodAll enc Try.prog W 0 (fun _ => true) true Try.f6.params.toList args.toList ds p := hA0
  rw [Try.params6] at hA
  obtain ⟨hargs, rfl, rfl⟩ := trodAll_nil hA
  obtain rfl : args = #[] := by cases args; simp_all
  obtain ⟨rfl, rfl⟩ := trodVars_none hV
  refine (Known_any W).mono fun e W' ⟨he, hw⟩ => ?_
  subst he
  exact ⟨_, rfl, law_post laidOuts (by kernel_rfl) rfl Try.underlying4 rfl hW' hw rfl⟩

theorem baseKnown_proved : Rows.BaseKnownSaid :=
  OpenClaim.holds_of_wide 6 Try.f6 rfl rfl rfl rfl rfl rfl rfl ⟨rfl, rfl, rfl, rfl, rfl⟩ rfl rfl rfl rfl rfl (by kernel_rfl) Try.func6 (by kernel_rfl)
    (of_decide_eq_true (by kernel_rfl)) (by unfold Func.isWrapper; first | (rw [if_pos (by decide +kernel)]; kernel_rfl) | (rw [if_neg (by decide +kernel)]; exact ⟨rfl, rfl⟩))
    (fun os started H enc _ => baseKnown_lifted os started H enc)
end Go.Proofs.Ytpfhbkjjijmpaaa
