/-
  BaseBack holds: bytes go as text and come back, whatever they are; any text that is some bytes' is theirs; the arguments read as they did.
-/
import Derived.Test.YtpfhbkjjijmpaaaTakes3
import Derived.Test.YtpfhbkjjijmpaaaSized
namespace Go.Proofs.Ytpfhbkjjijmpaaa
open Go.ChangeShapes Go.WideShapes Go.ChangeAt Go.RowKit

theorem bstr_self (s : ByteArray) : bstr s.data.toList = s := rfl

set_option maxRecDepth 100000 in
set_option maxHeartbeats 800000 in
theorem Back_any (a : Option Addr) (n cap : Nat) (xs : List UInt8) (s : ByteArray) (w : World) (hm : n ≤ 140737488351232) (hs : s.size ≤ 140737488351232) (hr : Rd w a n cap xs) :
    Calls Try.prog 4 #[.slice a n cap, .string s] w fun e w' => e = .returned (.bool true) ∧ Below w.heap.size w w' := by
  have hn := hr.len
  have hpl := put_len xs
  rw [hn] at hpl
  have kp : Hid (∀ w, Rd w a n cap xs → Calls Try.prog 10 #[.slice a n cap] w fun e w' => e = .returned (.string (bstr (putF xs))) ∧ Below w.heap.size w w') := fun w h => Put_any a n cap xs w hm h
  have kt : Hid (∀ w, Calls Try.prog 7 #[.string (bstr (putF xs))] w fun e w' => ∃ v, e = .returned (.tuple #[v, .int .i64 0]) ∧ Own w' w.heap.size 5 v xs ∧ Below w.heap.size w w') := fun w => by
    have h := Take_any (bstr (putF xs)) w (by rw [bstr_size]; omega)
    rw [bstr_data, takeB_eq, take_put] at h
    exact h
  have ks := Lib.hid (fun w => Size_any (n : Int) w (by omega) (by omega))
  rw [sizeF_nat n hm, ← hpl] at ks
  obtain ⟨T, hT⟩ : ∃ T, T = bstr (putF xs) := ⟨_, rfl⟩
  have hTs : (T.size : Int) = ((putF xs).length : Int) := by rw [hT, bstr_size]
  rw [← hT] at kp kt
  rw [← hTs] at ks
  clear hT hTs hpl
  have k2 := Lib.hid (fun w => Take_any s w (by omega))
  have hH := Lib.hid hr
  have hM := Lib.hid hm
  go_enter Try.func4, Try.ntmps4
  go_wp2_with fail
  refine (kp.out _ hr).mono ?_
  rintro e w1 ⟨rfl, hb1⟩
  go_wp2_with fail
  refine (kt.out _).mono ?_
  rintro e w2 ⟨v2, rfl, ho2, hb2⟩
  obtain ⟨a2, c2, rfl, -⟩ := ho2.shape
  have hB2 := hb1.trans (hb2.mono hb1.size)
  have hst1 := run_bstr bt Try.underlying9 ho2.rd.toRd
  have hst2 := run_bstr bt Try.underlying9 (hH.out.to hB2)
  rw [hn] at hst1
  have HR2 := Lib.hid (hH.out.to hB2)
  have HB2 := Lib.hid hB2
  clear hr hm hb1 hb2 hB2 ho2
  go_wp2_with fail
  refine (kp.out _ HR2.out).mono ?_
  rintro e w3 ⟨rfl, hb3⟩
  have HB3 := Lib.hid (HB2.out.trans (hb3.mono HB2.out.size))
  clear hst1 hst2 hb3
  go_wp2_with fail
  refine (ks.out _).mono ?_
  rintro e w4 ⟨rfl, hw⟩
  obtain rfl := hw.symm
  go_wp2_with fail
  refine (k2.out _).mono ?_
  cases hres : takeB s.data.toList with
  | none =>
    rintro e w5 ⟨v5, rfl, ho5, hb5⟩
    rw [show bytesOf none = [] from rfl] at ho5
    rw [show errOf none = 5 from rfl]
    obtain ⟨a5, c5, rfl, -⟩ := ho5.shape
    have HB5 := Lib.hid (HB3.out.trans (hb5.mono HB3.out.size))
    clear ho5 hb5 hres k2
    go_wp2_with fail
    refine (wakes_any _).mono ?_
    rintro e w6 ⟨rfl, hb6⟩
    go_wp2_with fail
    go_ret
    exact ⟨rfl, HB5.out.trans (hb6.mono HB5.out.size)⟩
  | some y =>
    rintro e w5 ⟨v5, rfl, ho5, hb5⟩
    rw [show bytesOf (some y) = y from rfl] at ho5
    rw [show errOf (some y) = 0 from rfl]
    obtain ⟨a5, c5, rfl, -⟩ := ho5.shape
    rw [takeB_eq] at hres
    have hpy := put_take _ _ hres
    have hyl := put_len y
    rw [hpy] at hyl
    have hsl : s.data.toList.length = s.size := by simp
    have kq : Hid (∀ w, Rd w a5 y.length c5 y → Calls Try.prog 10 #[.slice a5 y.length c5] w fun e w' => e = .returned (.string s) ∧ Below w.heap.size w w') := fun w h => by
      have := Put_any a5 y.length c5 y w (by omega) h
      rw [hpy, bstr_self] at this
      exact this
    have HB5 := Lib.hid (HB3.out.trans (hb5.mono HB3.out.size))
    have HR5 := Lib.hid ho5.rd.toRd
    clear ho5 hb5 hres k2 hpy hyl hsl
    go_wp2_with fail
    refine (kq.out _ HR5.out).mono ?_
    rintro e w6 ⟨rfl, hb6⟩
    have HB6 := Lib.hid (HB5.out.trans (hb6.mono HB5.out.size))
    clear hb6
    go_wp2_with fail
    refine (wakes_any _).mono ?_
    rintro e w7 ⟨rfl, hb7⟩
    go_wp2_with fail
    go_ret
    exact ⟨rfl, HB6.out.trans (hb7.mono HB6.out.size)⟩

theorem bytes1F : 1 ≤ Try.prog.bytesOf 5 := of_decide_eq_true (by kernel_rfl)

theorem baseBack_lifted (os : Os) (started : os.Started) (H : Type) (enc : TypeId × Value → H) :
    ReturnsInHanded {} Try.checked os 4 .any (Rows.baseBackSpec.pre6 enc Try.prog Try.f4 Rows.baseBackRow.domain false) (Rows.baseBackSpec.post enc Try.prog Try.f4 false true false false) := by
  refine returnsInHanded_of_change_sized (C := Try.checked) ownKnobs started (by kernel_rfl) Try.func4
    (ChangeSpec.witness6 (enc := enc) (C := Try.checked) false ⟨#[], #[.slice none 0 0, .string ⟨#[]⟩], []⟩ 8 (by kernel_rfl) (by kernel_rfl) (by kernel_rfl) (by kernel_rfl)) ?_
  intro W base args ds gs before hval hW hcond hsz _
  have hW' := hW
  obtain ⟨p, q, hA0, hV, rfl, _, _⟩ := hW
  have hA : DataW.TrodAll enc Try.prog W 0 (fun _ => true) true Try.f4.params.toList args.toList ds p := hA0
  have hval' := hval
  rw [Try.params4] at hA hval' hsz
  obtain ⟨v0, v1, d0, d1, p0, p1, hargs, rfl, rfl, h0, h1⟩ := trodAll_two hA
  obtain rfl : args = #[v0, v1] := by cases args; simp_all
  obtain ⟨rfl, rfl⟩ := trodVars_none hV
  obtain ⟨a0, l0, c0, rfl⟩ := okWide_slice Try.underlying22 (hval' 0 22 v0 rfl rfl)
  obtain ⟨f0, hf0⟩ := h0
  obtain ⟨a, n, cap, xs, e0, hr, hn⟩ := rd_of_cells_d bt cells1 hf0 (fun _ => rfl)
  cases e0
  have b0 := dlen_reach hsz (j := 0) (t := 22) (e := 5) rfl rfl Try.underlying22 bytes1F
  simp only [reachBytes] at b0
  simp only at hn
  obtain ⟨s, rfl, rfl, rfl, hs⟩ := Go.ChangeMaps.open_string Try.underlying9 (hval' 1 9 v1 rfl rfl) h1
  have b1 : s.size ≤ reachBytes := by
    have := sized_string hsz (j := 1) (t := 9) (bytes := s.data.toList) rfl rfl
    simpa using this
  simp only [reachBytes] at b1
  refine (Back_any _ _ _ _ s W (by omega) (by omega) hr).mono fun e W' ⟨he, hw⟩ => ?_
  subst he
  exact ⟨_, rfl, law_post laidOuts (by kernel_rfl) rfl Try.underlying4 rfl hW' hw rfl⟩

theorem baseBack_proved : Rows.BaseBackSaid :=
  OpenClaim.holds_of_wide 4 Try.f4 rfl rfl rfl rfl rfl rfl rfl ⟨rfl, rfl, rfl, rfl, rfl⟩ rfl rfl rfl rfl rfl (by kernel_rfl) Try.func4 (by kernel_rfl)
    (of_decide_eq_true (by kernel_rfl)) (by unfold Func.isWrapper; first | (rw [if_pos (by decide +kernel)]; kernel_rfl) | (rw [if_neg (by decide +kernel)]; exact ⟨rfl, rfl⟩))
    (fun os started H enc _ => baseBack_lifted os started H enc)
end Go.Proofs.Ytpfhbkjjijmpaaa
