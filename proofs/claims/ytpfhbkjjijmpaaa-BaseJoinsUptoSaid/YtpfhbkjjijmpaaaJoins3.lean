/-
  BaseJoins holds (for what is of bulk at most 1048576): the text of some times three bytes and others is both texts, one behind the other; letters, then padding at the end alone; the arguments read as they did.
-/
import Derived.Test.YtpfhbkjjijmpaaaTakes3
namespace Go.Proofs.Ytpfhbkjjijmpaaa
open Go.ChangeShapes Go.WideShapes Go.ChangeAt Go.RowKit

theorem bstr_append (x y : List UInt8) : bstr x ++ bstr y = bstr (x ++ y) := by
  apply ByteArray.ext
  simp [bstr]

set_option maxRecDepth 100000 in
set_option maxHeartbeats 1600000 in
theorem Joins_any (a a' : Option Addr) (n cap n' cap' : Nat) (xs ys : List UInt8) (w : World) (hm : n + n' ≤ 1048576) (hr : Rd w a n cap xs) (hr' : Rd w a' n' cap' ys) :
    Calls Try.prog 5 #[.slice a n cap, .slice a' n' cap'] w fun e w' => e = .returned (.bool true) ∧ Below w.heap.size w w' := by
  have hn := hr.len
  have hn' := hr'.len
  obtain ⟨m, hmd⟩ : ∃ m, m = n / 3 * 3 := ⟨_, rfl⟩
  have em : (n : Int) / 3 * 3 = (m : Int) := by omega
  have hmn : m ≤ n := by omega
  have hmc : m ≤ cap := by have := hr.le; omega
  have hrm := hr.take m hmn
  obtain ⟨zs, hz⟩ : ∃ zs, zs = xs.take m := ⟨_, rfl⟩
  rw [← hz] at hrm
  have hzl : zs.length = m := hrm.len
  have hz3 : zs.length % 3 = 0 := by omega
  clear hz hr hn hmd
  subst hzl hn'
  have happ := put_append zs ys hz3
  have k1 : Hid (∀ w b c, Rd w b (zs.length + ys.length) c (zs ++ ys) → Calls Try.prog 10 #[.slice b (zs.length + ys.length) c] w fun e w' => e = .returned (.string (bstr (putF (zs ++ ys)))) ∧ Below w.heap.size w w') := fun w b c h => Put_any b _ c _ w (by omega) h
  have k2 : Hid (∀ w, Rd w a zs.length cap zs → Calls Try.prog 10 #[.slice a zs.length cap] w fun e w' => e = .returned (.string (bstr (putF zs))) ∧ Below w.heap.size w w') := fun w h => Put_any a zs.length cap zs w (by omega) h
  have k3 : Hid (∀ w, Rd w a' ys.length cap' ys → Calls Try.prog 10 #[.slice a' ys.length cap'] w fun e w' => e = .returned (.string (bstr (putF ys))) ∧ Below w.heap.size w w') := fun w h => Put_any a' ys.length cap' ys w (by omega) h
  have hjoin : bstr (putF zs) ++ bstr (putF ys) = bstr (putF (zs ++ ys)) := by rw [bstr_append, happ]
  obtain ⟨L, j, hf, hL, hj⟩ := put_form (zs ++ ys)
  have hLj : L.length + j ≤ 2000000 := by
    have h1 := put_len (zs ++ ys)
    rw [hf, List.length_append, List.length_append, List.length_replicate] at h1
    omega
  rw [hf] at k1 hjoin
  obtain ⟨S, hS⟩ : ∃ S, S = bstr (L ++ List.replicate j 61) := ⟨_, rfl⟩
  have hSl : S.data.toList = L ++ List.replicate j 61 := by rw [hS]; rfl
  have hSs : (S.size : Int) = ((L.length + j : Nat) : Int) := by rw [hS, bstr_size, List.length_append, List.length_replicate]
  rw [← hS] at k1 hjoin
  obtain ⟨S1, hS1⟩ : ∃ S, S = bstr (putF zs) := ⟨_, rfl⟩
  obtain ⟨S2, hS2⟩ : ∃ S, S = bstr (putF ys) := ⟨_, rfl⟩
  have hss : ¬ 9223372036854775807 < S1.size + S2.size := by
    rw [hS1, hS2, bstr_size, bstr_size, put_len, put_len]
    omega
  rw [← hS1] at k2 hjoin
  rw [← hS2] at k3 hjoin
  have hj2 : (3 - (ys.length : Int) % 3) % 3 = (j : Int) := by
    rw [List.length_append] at hj
    omega
  have HSL := Lib.hid hSl
  have HL := Lib.hid hL
  have HR := Lib.hid hrm
  have HR' := Lib.hid hr'
  clear hS hS1 hS2 hf hL hj happ hSl hz3
  go_enter Try.func5, Try.ntmps5
  go_wp2_with (first
    | ((with_reducible show wpList _ _ _ (⟨some 17, _, _, _, _, _⟩ :: _) _ _); go_loud (refine wl_append bt rfl _ _ rfl w.heap.size _ [] (Own.nil _ _ _) rfl a zs.length cap zs rfl HR.out (by simp; omega) (Nat.le_refl _) ?_); intro v1 w1 ho1 hb1; rw [List.nil_append] at ho1; obtain ⟨a1, c1, rfl, -⟩ := ho1.shape; have hs1 := hb1.size)
    | ((with_reducible show wpList _ _ _ (⟨some 19, _, _, _, _, _⟩ :: _) _ _); go_loud (refine wl_append bt rfl _ _ rfl w.heap.size _ zs ho1 rfl a' ys.length cap' ys rfl (HR'.out.to hb1) (by omega) hs1 ?_); intro v2 w2 ho2 hb2; obtain ⟨a2, c2, rfl, -⟩ := ho2.shape; rw [List.length_append] at ho2; rw [List.length_append]))
  refine (k1.out _ _ _ ho2.rd.toRd).mono ?_
  rintro e w3 ⟨rfl, hb3⟩
  have x2 := hb2.size
  have HB3 := Lib.hid ((hb1.trans hb2).trans (hb3.mono (by omega)))
  clear hrm hr' ho1 ho2 hb1 hb2 hb3
  go_wp2_with fail
  refine (k2.out _ (HR.out.to HB3.out)).mono ?_
  rintro e w4 ⟨rfl, hb4⟩
  have HB4 := Lib.hid (HB3.out.trans (hb4.mono HB3.out.size))
  clear hb4
  go_wp2_with fail
  refine (k3.out _ (HR'.out.to HB4.out)).mono ?_
  rintro e w5 ⟨rfl, hb5⟩
  have HB5 := Lib.hid (HB4.out.trans (hb5.mono HB4.out.size))
  clear hb5
  have hSn : S.size = L.length + j := by omega
  have HIX := Lib.hid fun (i : Nat) (h : i < S.size) (W : World) => str_index (P := Try.prog) Try.underlying9 S i h W
  rw [HSL.out, hSn] at HIX
  clear hSn
  go_wp2_with fail
  go_loopw [6, 7] (fun p i wr => ∃ k : Nat, k ≤ L.length + j ∧ i = .int .i64 k ∧ p = .int .i64 ((k - L.length : Nat) : Int) ∧ wr = w5) (fun _ i _ => L.length + j - (intOf i).toNat)
  case atStart => exact ⟨0, by omega, rfl, by rw [Nat.zero_sub]; rfl, rfl⟩
  case round =>
    obtain ⟨k, hk, rfl, rfl, rfl⟩ := hrel
    by_cases hlt : k < L.length + j
    · have hc : (k : Int) < ((L.length + j : Nat) : Int) := by omega
      have hix := HIX.out k hlt
      have hkb : k ≤ 2000000 := by omega
      by_cases hkL : k < L.length
      · have hp0 : k - L.length = 0 := by omega
        rw [hp0]
        have hp1 : k + 1 - L.length = 0 := by omega
        have HP1 := Lib.hid hp1
        obtain ⟨c, hcd⟩ : ∃ c, c = (L ++ List.replicate j 61).getD k 0 := ⟨_, rfl⟩
        rw [← hcd] at hix
        have hcL : isL c = true := HL.out c (by
          rw [hcd, List.getD_eq_getElem?_getD, List.getElem?_append_left hkL, List.getElem?_eq_getElem hkL]
          exact List.getElem_mem hkL)
        have hcls : (65 ≤ c.toNat ∧ c.toNat ≤ 90) ∨ (97 ≤ c.toNat ∧ c.toNat ≤ 122) ∨ (48 ≤ c.toNat ∧ c.toNat ≤ 57) ∨ c.toNat = 43 ∨ c.toNat = 47 := by
          simpa [isL, or_assoc] using hcL
        obtain ⟨x, hx⟩ : ∃ x, x = c.toNat := ⟨_, rfl⟩
        rw [← hx] at hix hcls
        clear hcd hcL hx hp0 hp1
        rcases hcls with ⟨h1, h2⟩ | ⟨h1, h2⟩ | ⟨h1, h2⟩ | h1 | h1
        · have f0 : (65 : Int) ≤ (x : Int) := by omega
          have f1 : (x : Int) ≤ 90 := by omega
          have g1 : ¬ (x : Int) = 61 := by omega
          clear h1 h2
          go_wp2_with fail
          go_roundw
          case rel => exact ⟨k + 1, by omega, by go_num, by show Value.int _ _ = Value.int _ _; congr 1; omega, trivial⟩
          case measure => simp [intOf] <;> omega
        · have f0 : (65 : Int) ≤ (x : Int) := by omega
          have f1 : ¬ (x : Int) ≤ 90 := by omega
          have f2 : (97 : Int) ≤ (x : Int) := by omega
          have f3 : (x : Int) ≤ 122 := by omega
          have g1 : ¬ (x : Int) = 61 := by omega
          clear h1 h2
          go_wp2_with fail
          go_roundw
          case rel => exact ⟨k + 1, by omega, by go_num, by show Value.int _ _ = Value.int _ _; congr 1; omega, trivial⟩
          case measure => simp [intOf] <;> omega
        · have f0 : ¬ (65 : Int) ≤ (x : Int) := by omega
          have f1 : ¬ (97 : Int) ≤ (x : Int) := by omega
          have f2 : (48 : Int) ≤ (x : Int) := by omega
          have f3 : (x : Int) ≤ 57 := by omega
          have g1 : ¬ (x : Int) = 61 := by omega
          clear h1 h2
          go_wp2_with fail
          go_roundw
          case rel => exact ⟨k + 1, by omega, by go_num, by show Value.int _ _ = Value.int _ _; congr 1; omega, trivial⟩
          case measure => simp [intOf] <;> omega
        · subst h1
          go_wp2_with fail
          go_roundw
          case rel => exact ⟨k + 1, by omega, by go_num, by show Value.int _ _ = Value.int _ _; congr 1; omega, trivial⟩
          case measure => simp [intOf] <;> omega
        · subst h1
          go_wp2_with fail
          go_roundw
          case rel => exact ⟨k + 1, by omega, by go_num, by show Value.int _ _ = Value.int _ _; congr 1; omega, trivial⟩
          case measure => simp [intOf] <;> omega
      · have hcd : (L ++ List.replicate j (61 : UInt8)).getD k 0 = 61 := by
          rw [List.getD_eq_getElem?_getD, List.getElem?_append_right (by omega), List.getElem?_replicate, if_pos (by omega)]
          rfl
        rw [hcd] at hix
        obtain ⟨q, hq⟩ : ∃ q, q = k - L.length := ⟨_, rfl⟩
        rw [← hq]
        have HQ := Lib.hid hq
        have hqb : q ≤ 2000000 := by omega
        clear hcd hq
        have hix2 : ∀ W, (Instr.index 9 (.string S) (.int .i64 (k : Int))).run Try.prog W = .ok (.int .u8 61) W := hix
        clear hix
        go_wp2_with fail
        go_roundw
        case rel => exact ⟨k + 1, by omega, by go_num, by have := HQ.out; show Value.int _ _ = Value.int _ _; congr 1; omega, trivial⟩
        case measure => simp [intOf] <;> omega
    · have hc : ¬ (k : Int) < ((L.length + j : Nat) : Int) := by omega
      have hq : k - L.length = j := by omega
      rw [hq]
      clear hq
      go_wp2_with fail
      refine (wakes_any _).mono ?_
      rintro e w6 ⟨rfl, hb6⟩
      go_wp2_with fail
      go_ret
      exact ⟨rfl, HB5.out.trans (hb6.mono HB5.out.size)⟩
theorem baseJoins_contract (H : Type) (enc : TypeId × Value → H) (W : World) (base : Nat) (args : Array Value) (ds gs : List (DataW H)) (before : List MemPlace)
    (hval : ∀ (j : Nat) t v, Try.f5.params[j]? = some t → args[j]? = some v → Value.okWide Try.prog W .any base t v)
    (hW : DataW.Whole enc Try.prog Try.f5.params.toList Rows.baseJoinsSpec.vars false W args.toList ds gs before) (hk : Rows.uptoSmall H (ds ++ gs) = true) :
    Calls Try.prog 5 args W fun e W' => ∃ v, e = .returned v ∧ Rows.baseJoinsSpec.post enc Try.prog Try.f5 false true false false W args v W' := by
  have hW' := hW
  obtain ⟨p, q, hA0, hV, rfl, _, _⟩ := hW
  have hA : DataW.TrodAll enc Try.prog W 0 (fun _ => true) true Try.f5.params.toList args.toList ds p := hA0
  have hval' := hval
  rw [Try.params5] at hA hval'
  obtain ⟨v0, v1, d0, d1, p0, p1, hargs, rfl, rfl, h0, h1⟩ := trodAll_two hA
  obtain rfl : args = #[v0, v1] := by cases args; simp_all
  obtain ⟨rfl, rfl⟩ := trodVars_none hV
  obtain ⟨a, n, cap, xs, rfl, hr, hn⟩ := rd_of_trod bt cells1 (hval' 0 22 v0 rfl rfl) h0 (fun _ => rfl)
  obtain ⟨a', n', cap', ys, rfl, hr', hn'⟩ := rd_of_trod bt cells1 (hval' 1 22 v1 rfl rfl) h1 (fun _ => rfl)
  have hb := bulk_bound hk
  simp only [List.append_nil, Rows.uptoBulkAll] at hb
  refine (Joins_any a a' n cap n' cap' xs ys W (by omega) hr hr').mono fun e W' ⟨he, hw⟩ => ?_
  subst he
  exact ⟨_, rfl, law_post laidOuts (by kernel_rfl) rfl Try.underlying4 rfl hW' hw rfl⟩

set_option maxRecDepth 100000 in
theorem baseJoins_lifted (os : Os) (started : os.Started) (H : Type) (enc : TypeId × Value → H) (F : Stop.Interp) :
    ReturnsInHanded {} Try.checked os 5 .any ((Rows.OpenSpec.upto Rows.baseJoinsSpec).pre6 enc Try.prog Try.f5 Rows.baseJoinsUptoRow.domain false) (((Rows.OpenSpec.upto Rows.baseJoinsSpec).at F).post enc Try.prog Try.f5 false true false false) := by
  refine returnsInHanded_of_cond (C := Try.checked) (s := Rows.OpenSpec.upto Rows.baseJoinsSpec) (k := Rows.uptoSmall) rfl ownKnobs started (by kernel_rfl) Try.func5
    (OpenSpec.witness (enc := enc) (C := Try.checked) (s := Rows.OpenSpec.upto Rows.baseJoinsSpec) (k := Rows.uptoSmall) rfl false ⟨#[], #[.slice none 0 0, .slice none 0 0], []⟩ 8 (by kernel_rfl) (by kernel_rfl) (by kernel_rfl)
      (x := ([.nil, .nil], [], [])) (by kernel_rfl) rfl (by kernel_rfl)) ?_
  intro W base args ds gs before hval hW _ hk _
  exact baseJoins_contract H enc W base args ds gs before hval hW hk

theorem baseJoins_proved : Rows.BaseJoinsUptoSaid :=
  OpenClaim.holds_of_cond 5 Try.f5 rfl rfl rfl rfl rfl rfl rfl ⟨rfl, rfl, rfl, rfl, rfl⟩ rfl rfl rfl rfl rfl (by kernel_rfl) Try.func5 (by kernel_rfl)
    (of_decide_eq_true (by kernel_rfl)) (by unfold Func.isWrapper; first | (rw [if_pos (by decide +kernel)]; kernel_rfl) | (rw [if_neg (by decide +kernel)]; exact ⟨rfl, rfl⟩))
    (fun os started H enc _ F => baseJoins_lifted os started H enc F)
end Go.Proofs.Ytpfhbkjjijmpaaa
