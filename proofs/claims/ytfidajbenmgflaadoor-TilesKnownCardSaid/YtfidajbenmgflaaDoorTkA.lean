/-
  The statement's side: the chapter's rows, what is no name, limits. Conditions: those in each statement.
-/
import Derived.Test.YtfidajbenmgflaaDoorTiJ
import Derived.Test.YtfidajbenmgflaaDoorTiI
namespace Go.Proofs.YtfidajbenmgflaaDoor
open Go.RowKit

def bads : List (List UInt8) := [[], [116, 48, 45, 48, 48, 48, 48, 48, 51, 45, 49], [116, 48, 45, 48, 48, 48, 48, 48, 51, 45, 48, 49, 55], [116, 48, 45, 48, 48, 48, 48, 48, 51, 45, 49, 55], [116, 54, 45, 48, 48, 48, 48, 48, 51, 45, 48, 49], [116, 48, 45, 51, 45, 49, 54], [116, 48, 45, 48, 48, 48, 48, 51, 45, 49, 54], [116, 48, 45, 48, 48, 48, 48, 48, 48, 51, 45, 49, 54], [84, 48, 45, 48, 48, 48, 48, 48, 51, 45, 49, 54], [116, 48, 95, 48, 48, 48, 48, 48, 51, 95, 49, 54], [116, 45, 48, 48, 48, 48, 48, 51, 45, 49, 54], [116, 48, 48, 45, 48, 48, 48, 48, 48, 51, 45, 49, 54], [116, 48, 45, 43, 48, 48, 48, 48, 51, 45, 49, 54], [116, 48, 45, 48, 48, 48, 48, 48, 51, 45, 49, 54, 120]]
theorem bads_no : ∀ i : Fin 14, prsE (bads.getD i.val []) = 5 ∧ (bads.getD i.val []).length ≤ 100 := by decide +kernel
theorem badsV : bads.map txt = [.string ⟨#[]⟩, .string ⟨#[116, 48, 45, 48, 48, 48, 48, 48, 51, 45, 49]⟩, .string ⟨#[116, 48, 45, 48, 48, 48, 48, 48, 51, 45, 48, 49, 55]⟩, .string ⟨#[116, 48, 45, 48, 48, 48, 48, 48, 51, 45, 49, 55]⟩, .string ⟨#[116, 54, 45, 48, 48, 48, 48, 48, 51, 45, 48, 49]⟩, .string ⟨#[116, 48, 45, 51, 45, 49, 54]⟩, .string ⟨#[116, 48, 45, 48, 48, 48, 48, 51, 45, 49, 54]⟩, .string ⟨#[116, 48, 45, 48, 48, 48, 48, 48, 48, 51, 45, 49, 54]⟩, .string ⟨#[84, 48, 45, 48, 48, 48, 48, 48, 51, 45, 49, 54]⟩, .string ⟨#[116, 48, 95, 48, 48, 48, 48, 48, 51, 95, 49, 54]⟩, .string ⟨#[116, 45, 48, 48, 48, 48, 48, 51, 45, 49, 54]⟩, .string ⟨#[116, 48, 48, 45, 48, 48, 48, 48, 48, 51, 45, 49, 54]⟩, .string ⟨#[116, 48, 45, 43, 48, 48, 48, 48, 51, 45, 49, 54]⟩, .string ⟨#[116, 48, 45, 48, 48, 48, 48, 48, 51, 45, 49, 54, 120]⟩] := rfl
theorem nameC : nameE (rowF 0 1000000 1) = 1 := by decide +kernel
theorem nameD : nameE (rowF 0 0 17) = 1 := by decide +kernel
theorem nameE' : nameE (rowF (-1) 0 1) = 1 := by decide +kernel
theorem nameF : nameE (rowF 0 0 0) = 1 := by decide +kernel
theorem tkE_not {xs : List UInt8} {n : Nat} (hl : xs.length = n) (h : ¬ (n % 32 = 0 ∧ 1 ≤ n / 32 ∧ n / 32 ≤ 16)) : tkE xs = 5 := by
  unfold tkE
  rw [if_neg (by rw [hl]; exact h)]
theorem cntB : cntF 18446744073709551615 5 = 17592186044415 := by decide +kernel
theorem cntC : cntF 99 6 = 0 := by decide +kernel
theorem cntD : cntF 99 (-1) = 0 := by decide +kernel
set_option maxRecDepth 100000 in
set_option maxHeartbeats 6400000 in
theorem Known_any (w : World) (hT : Tabs w) : Calls Tryd.prog 7 #[] w fun e w' => e = .returned (.bool true) ∧ Below w.heap.size w w' := by
  have HT := Lib.hid hT
  have HNm : Hid (∀ (l : Int) (n : Nat) (v : Int) W, n < 18446744073709551616 → Below w.heap.size w W → nameE (rowF l n v) = 1 → Calls Tryd.prog 8 #[.int .i64 l, .int .u64 (n : Int), .int .i64 v] W fun e w' => (∃ t, e = .returned (.tuple #[txt t, .int .i64 1])) ∧ Below W.heap.size W w') := fun l n v W hn hb h1 => by
    have h := Name_any l n v hn W (hT.to hb)
    rw [h1] at h
    exact h.mono fun e w' ⟨a, b⟩ => ⟨⟨_, a⟩, b⟩
  have HPr : Hid (∀ (i : Nat) W, i < 14 → Below w.heap.size w W → Calls Tryd.prog 10 #[txt (bads.getD i [])] W fun e w' => (∃ a b c : Nat, e = .returned (.tuple #[.int .i64 (a : Int), .int .u64 (b : Int), .int .i64 (c : Int), .int .i64 5])) ∧ Below W.heap.size W w') := fun i W hi hb => by
    obtain ⟨h1, h2⟩ := bads_no ⟨i, hi⟩
    have h := Parse_any (bads.getD i []) (by simp only at h2; omega) W (hT.to hb)
    unfold prsT at h
    rw [h1] at h
    exact h.mono fun e w' ⟨a, b⟩ => ⟨⟨_, _, _, a⟩, b⟩
  have HPut : Hid (∀ (L : List (List UInt8)) (ad : Option Addr) (n cap : Nat) W, n ≤ 100 → RdD W ad n cap L → ¬ (1 ≤ n ∧ n ≤ 16) → Calls Tryd.prog 16 #[.slice ad n cap] W fun e w' => (∃ v, e = .returned (.tuple #[v, .int .i64 1])) ∧ Below W.heap.size W w') := fun L ad n cap W hn hr hno => by
    refine (Put_any L ad n cap W (by omega) hr).mono ?_
    rintro e w' ⟨v, h1, -, h3⟩
    have e1 : putE L = 1 := by unfold putE; rw [if_neg (by rw [hr.len]; exact hno)]
    rw [e1] at h1
    exact ⟨⟨v, h1⟩, h3⟩
  have HTk : Hid (∀ (xs : List UInt8) (p : Option Addr) (n cap : Nat) W, n ≤ 1000 → Rd W p n cap xs → ¬ (n % 32 = 0 ∧ 1 ≤ n / 32 ∧ n / 32 ≤ 16) → Calls Tryd.prog 18 #[.slice p n cap] W fun e w' => (∃ v, e = .returned (.tuple #[v, .int .i64 5])) ∧ Below W.heap.size W w') := fun xs p n cap W hn hr hno => by
    refine (Take_any xs p n cap (by omega) W hr).mono ?_
    rintro e w' ⟨v, h1, -, h3⟩
    rw [tkE_not hr.len hno] at h1
    exact ⟨⟨v, h1⟩, h3⟩
  have HHd : Hid (∀ (L : List (List UInt8)) (ad : Option Addr) (n cap : Nat) W, n ≤ 100 → RdD W ad n cap L → n ≠ 16 → Calls Tryd.prog 20 #[.slice ad n cap] W fun e w' => e = .returned (.tuple #[.agg (bvs (Z8 32)).toArray, .int .i64 1]) ∧ Below W.heap.size W w') := fun L ad n cap W hn hr hno => by
    have h := Head_any L ad n cap W (by omega) hr
    have e1 : hdTE L = 1 := by unfold hdTE; rw [if_neg (by rw [hr.len]; exact hno)]
    have e2 : hdT L = Z8 32 := by unfold hdT; rw [if_neg (by rw [hr.len]; exact hno)]
    rwa [e1, e2] at h
  have HC1 : Hid (∀ W, Calls Tryd.prog 14 #[.int .u64 18446744073709551615, .int .i64 5] W fun e w' => e = .returned (.int .u64 17592186044415) ∧ W = w') := fun W => by
    have h := Count_any 18446744073709551615 5 (by omega) W
    rw [cntB] at h
    exact h
  have HC2 : Hid (∀ W, Calls Tryd.prog 14 #[.int .u64 99, .int .i64 6] W fun e w' => e = .returned (.int .u64 0) ∧ W = w') := fun W => by
    have h := Count_any 99 6 (by omega) W
    rw [cntC] at h
    exact h
  have HC3 : Hid (∀ W, Calls Tryd.prog 14 #[.int .u64 99, .int .i64 (-1)] W fun e w' => e = .returned (.int .u64 0) ∧ W = w') := fun W => by
    have h := Count_any 99 (-1) (by omega) W
    rw [cntD] at h
    exact h
  have HW : Hid (∀ W, Below w.heap.size w W → Calls Tryd.prog 15 #[] W fun e w' => e = .returned (.bool true) ∧ Below W.heap.size W w') := fun W hb => wakes_any W (hT.to hb)
  clear hT
  go_enter Tryd.func7, Tryd.ntmps7
  go_upto_region 3 with (first
    | ((with_reducible show wpList _ _ _ (⟨some 1, .alloc _, _, _, _, _⟩ :: _) _ _); go_loud (refine wl_alloc rfl 60 rfl (List.replicate 14 (.string ⟨#[]⟩)) 14 (by kernel_rfl) ?_); intro w1 hA1 hb1 hs1)
    | ((with_reducible show wpList _ _ _ (⟨none, .store _ _ _, _, _, _, _⟩ :: _) _ _); go_loud (refine wl_store rfl 60 _ _ rfl w.heap.size 0 rfl (bads.map txt) rfl 60 _ hA1 (by kernel_rfl) (by decide) (by intro v hv; obtain ⟨s, -, rfl⟩ := List.mem_map.1 hv; rfl) ?_); intro w2 hA2 hg2 hs2))
  rw [whole_store _ _ (by decide)] at hA2
  obtain ⟨g1, hg1⟩ : ∃ g, g = w.heap.size := ⟨_, rfl⟩
  have hB2 : Below w.heap.size w w2 := hb1.grown hg2 hb1.size (fun k hk => by injection hk with hk; omega)
  rw [← hg1] at hA2 ⊢
  have HG1 := Lib.hid hg1
  have HA2 := Lib.hid hA2
  have HB2 := Lib.hid hB2
  clear hA1 hb1 hs1 hA2 hg2 hs2 hB2 hg1
  go_loopw [2] (fun ix wr => ∃ k : Nat, k ≤ 14 ∧ ix = .int .i64 (k : Int) ∧ Arr wr g1 60 (bads.map txt) ∧ Below w.heap.size w wr) (fun ix _ => 14 - (intOf ix).toNat)
  case atStart => exact ⟨0, by omega, rfl, HA2.out, HB2.out⟩
  case round =>
    obtain ⟨k, hk, rfl, hA, hbr⟩ := hrel
    have HBR := Lib.hid hbr
    have HA := Lib.hid hA
    clear hA hbr
    by_cases hlt : k < 14
    · have hlti : (k : Int) < 14 := by omega
      have ck : wr.cell? ⟨g1, k, none⟩ = some (txt (bads.getD k [])) := by
        rw [HA.out.cell, List.getElem?_map, List.getElem?_eq_getElem (show k < bads.length from hlt)]
        simp only [Option.map_some, List.getD, List.getElem?_eq_getElem (show k < bads.length from hlt), Option.getD_some]
      obtain ⟨s, hs⟩ : ∃ s, s = bads.getD k [] := ⟨_, rfl⟩
      have HP := HPr.out k wr hlt HBR.out
      rw [← hs] at ck HP
      clear hs
      go_wp2_with (go_at_call 10; go_loud (refine HP.mono ?_); rintro e w5 ⟨⟨a5, b5, c5, rfl⟩, hb5⟩)
      go_roundw
      case rel => exact ⟨k + 1, by omega, by go_num, HA.out.kept hb5, HBR.out.trans (hb5.mono HBR.out.size)⟩
      case measure => simp [intOf]; omega
    · have e : k = 14 := by omega
      subst e
      clear HPr HA2 HB2 HA
      go_upto_region 12 with (first
        | (go_at_call 8; (have _g := K3); go_loud (refine (HNm.out 0 0 0 _ (by omega) K3.out nameF).mono ?_); rintro e x4 ⟨⟨t4, rfl⟩, y4⟩; (have k4 := K3.out.trans (y4.mono K3.out.size)); (have K4 := Lib.hid k4); clear y4 k4)
        | (go_at_call 8; (have _g := K2); go_loud (refine (HNm.out (-1) 0 1 _ (by omega) K2.out nameE').mono ?_); rintro e x3 ⟨⟨t3, rfl⟩, y3⟩; (have k3 := K2.out.trans (y3.mono K2.out.size)); (have K3 := Lib.hid k3); clear y3 k3)
        | (go_at_call 8; (have _g := K1); go_loud (refine (HNm.out 0 0 17 _ (by omega) K1.out nameD).mono ?_); rintro e x2 ⟨⟨t2, rfl⟩, y2⟩; (have k2 := K1.out.trans (y2.mono K1.out.size)); (have K2 := Lib.hid k2); clear y2 k2)
        | (go_at_call 8; go_loud (refine (HNm.out 0 1000000 1 _ (by omega) HBR.out nameC).mono ?_); rintro e x1 ⟨⟨t1, rfl⟩, y1⟩; (have k1 := HBR.out.trans (y1.mono HBR.out.size)); (have K1 := Lib.hid k1); clear y1 k1))
      go_upto_region 14 with (first
        | ((with_reducible show wpList _ _ _ (⟨some 62, .makeSlice _ _ _, _, _, _, _⟩ :: _) _ _); go_loud (refine wl_makeD rfl _ _ rfl 17 17 rfl rfl (Nat.le_refl _) (by omega) ?_); intro x6 z6 y6 s6; (have k6 := K5.out.trans (y6.mono K5.out.size)); (have K6 := Lib.hid k6); (have r6 := Lib.hid (rdd_arr z6 (All32.of fun x hx => by rw [List.eq_of_mem_replicate hx]; rfl))); clear z6 y6 k6 s6)
        | (go_at_call 16; (have _g := K6); go_loud (refine (HPut.out _ _ 17 17 _ (by omega) r6.out (by omega)).mono ?_); rintro e x7 ⟨⟨v7, rfl⟩, y7⟩; (have k7 := K6.out.trans (y7.mono K6.out.size)); (have K7 := Lib.hid k7); clear y7 k7)
        | (go_at_call 16; go_loud (refine (HPut.out [] none 0 0 _ (by omega) ⟨rfl, Nat.le_refl _, All32.of (fun x hx => by cases hx), fun _ => rfl, fun h => by omega⟩ (by omega)).mono ?_); rintro e x5 ⟨⟨v5, rfl⟩, y5⟩; (have k5 := K4.out.trans (y5.mono K4.out.size)); (have K5 := Lib.hid k5); clear y5 k5))
      go_upto_region 16 with (first
        | ((with_reducible show wpList _ _ _ (⟨some 67, .makeSlice _ _ _, _, _, _, _⟩ :: _) _ _); go_loud (refine wl_make bt rfl _ _ rfl x7.heap.size 544 rfl rfl (by omega) (Nat.le_refl _) ?_); intro x8 o8 y8 s8; (have k8 := K7.out.trans (y8.mono K7.out.size)); (have K8 := Lib.hid k8); (have r8 := Lib.hid o8.rd.toRd); clear o8 y8 k8 s8)
        | ((with_reducible show wpList _ _ _ (⟨some 72, .makeSlice _ _ _, _, _, _, _⟩ :: _) _ _); go_loud (refine wl_make bt rfl _ _ rfl x9.heap.size 33 rfl rfl (by omega) (Nat.le_refl _) ?_); intro x10 o10 y10 s10; (have k10 := K9.out.trans (y10.mono K9.out.size)); (have K10 := Lib.hid k10); (have r10 := Lib.hid o10.rd.toRd); clear o10 y10 k10 s10)
        | (go_at_call 18; (have _g := K10); go_loud (refine (HTk.out _ _ 33 33 _ (by omega) r10.out (by omega)).mono ?_); rintro e x11 ⟨⟨v11, rfl⟩, y11⟩; (have k11 := K10.out.trans (y11.mono K10.out.size)); (have K11 := Lib.hid k11); clear y11 k11)
        | (go_at_call 18; go_loud (refine (HTk.out _ _ 544 544 _ (by omega) r8.out (by omega)).mono ?_); rintro e x9 ⟨⟨v9, rfl⟩, y9⟩; (have k9 := K8.out.trans (y9.mono K8.out.size)); (have K9 := Lib.hid k9); clear y9 k9))
      go_upto_region 17 with (first
        | ((with_reducible show wpList _ _ _ (⟨some 77, .makeSlice _ _ _, _, _, _, _⟩ :: _) _ _); go_loud (refine wl_makeD rfl _ _ rfl 15 15 rfl rfl (Nat.le_refl _) (by omega) ?_); intro x12 z12 y12 s12; (have k12 := K11.out.trans (y12.mono K11.out.size)); (have K12 := Lib.hid k12); (have r12 := Lib.hid (rdd_arr z12 (All32.of fun x hx => by rw [List.eq_of_mem_replicate hx]; rfl))); clear z12 y12 k12 s12)
        | (go_at_call 20; go_loud (refine (HHd.out _ _ 15 15 _ (by omega) r12.out (by omega)).mono ?_); rintro e x13 ⟨rfl, y13⟩; (have k13 := K12.out.trans (y13.mono K12.out.size)); (have K13 := Lib.hid k13); clear y13 k13)
        | ((with_reducible show wpList _ _ _ (⟨some 23, .alloc _, _, _, _, _⟩ :: _) _ _); go_loud (refine wl_alloc rfl 48 rfl (bvs (Z8 32)) 32 infoD1 ?_); intro x14 z14 y14 s14; (have k14 := K13.out.trans (y14.mono K13.out.size)))
        | ((with_reducible show wpList _ _ _ (⟨none, .store _ _ _, _, _, _, _⟩ :: _) _ _); go_loud (refine wl_store rfl 48 _ _ rfl x13.heap.size 0 rfl (bvs (Z8 32)) rfl 48 _ z14 (by kernel_rfl) (by decide) (bvs_one _) ?_); intro x15 z15 y15 s15))
      have k15 : Below w.heap.size w x15 := k14.grown y15 k14.size (fun k hk => by injection hk with hk; have := K13.out.size; omega)
      have K15 := Lib.hid k15
      clear z14 z15 y14 y15 s14 s15 k14 k15
      go_wp2_with (first
        | (go_at_call 14; (have _g := HC1); go_loud (refine (HC1.out _).mono ?_); rintro e x16 ⟨rfl, rfl⟩; clear HC1)
        | (go_at_call 14; (have _g := HC2); go_loud (refine (HC2.out _).mono ?_); rintro e x17 ⟨rfl, rfl⟩; clear HC2)
        | (go_at_call 14; go_loud (refine (HC3.out _).mono ?_); rintro e x18 ⟨rfl, rfl⟩)
        | (go_at_call 15; go_loud (refine (HW.out _ K15.out).mono ?_); rintro e x19 ⟨rfl, y19⟩))
      go_ret
      exact ⟨rfl, K15.out.trans (y19.mono K15.out.size)⟩
end Go.Proofs.YtfidajbenmgflaaDoor
