/-
  The statement's side: names and tiles, hashes and bytes, there and back. Conditions: those in each statement.
-/
import Derived.Test.YtfidajbenmgflaaDoorTiJ
import Derived.Test.YtfidajbenmgflaaDoorTiP
import Derived.Deep.CutRange
import Derived.Deep.CutBlock
namespace Go.Proofs.YtfidajbenmgflaaDoor
open Go.RowKit

theorem piece_at {f g : Nat → Nat} {k : Nat} (h : f k = g k) : piece f k = piece g k := by unfold piece; rw [h]
theorem same_name {f g : Nat → Nat} (h : ∀ k, k < 3 → f k = g k) : okTo f 3 = okTo g 3 ∧ nameTo f 3 = nameTo g 3 := by
  have h0 := h 0 (by omega)
  have h1 := h 1 (by omega)
  have h2 := h 2 (by omega)
  constructor
  · simp only [okTo, okF, h0, h1, h2]
  · simp only [nameTo, piece_at h0, piece_at h1, piece_at h2]
theorem wrap_small {l : Int} (h : -9223372036854775808 ≤ l) (h2 : l ≤ 9223372036854775807) {m : Nat} (hm : m ≤ 100) (hw : (IntKind.u64.wrap l).toNat ≤ m) : ((IntKind.u64.wrap l).toNat : Int) = l := by
  rw [IntKind.wrap_u64] at hw ⊢
  omega
theorem wrap_nat2 (n : Nat) (h : n ≤ 100) : (IntKind.u64.wrap (n : Int)).toNat = n := by
  rw [IntKind.wrap_u64]; omega
/-- what a name that may be is parsed into -/
theorem prs_name {l : Int} {n : Nat} {v : Int} (h1 : -9223372036854775808 ≤ l) (h2 : l ≤ 9223372036854775807) (h3 : -9223372036854775808 ≤ v) (h4 : v ≤ 9223372036854775807) (ho : okTo (rowF l n v) 3 = true) :
    prsT (nameTo (rowF l n v) 3) = .tuple #[.int .i64 l, .int .u64 (n : Int), .int .i64 v, .int .i64 0] := by
  obtain ⟨k1, k2⟩ := name_back ho
  have e0 := (ok_at ho (k := 0) (by omega)).2
  have e2 := (ok_at ho (k := 2) (by omega)).2
  have m0 : mst 0 = 5 := rfl
  have m2 : mst 2 = 16 := rfl
  have w0 := wrap_small h1 h2 (m := 5) (by omega) (by rw [m0] at e0; exact e0)
  have w2 := wrap_small h3 h4 (m := 16) (by omega) (by rw [m2] at e2; exact e2)
  have p0 : ((prsV (nameTo (rowF l n v) 3) 0 : Nat) : Int) = l := by unfold prsV; rw [if_pos k1, k2 0 (by omega)]; exact w0
  have p1 : ((prsV (nameTo (rowF l n v) 3) 1 : Nat) : Int) = (n : Int) := by unfold prsV; rw [if_pos k1, k2 1 (by omega)]; rfl
  have p2 : ((prsV (nameTo (rowF l n v) 3) 2 : Nat) : Int) = v := by unfold prsV; rw [if_pos k1, k2 2 (by omega)]; exact w2
  have pe : prsE (nameTo (rowF l n v) 3) = 0 := if_pos k1
  unfold prsT
  rw [p0, p1, p2, pe]
/-- the name of what a name is parsed into -/
theorem name_prs {s : List UInt8} (h : okN s = true) : layT (rowF (prsV s 0 : Int) (prsV s 1) (prsV s 2 : Int)) = s ∧ nameE (rowF (prsV s 0 : Int) (prsV s 1) (prsV s 2 : Int)) = 0 := by
  obtain ⟨k1, k2⟩ := cut_back h
  have hv : ∀ k, prsV s k = numAt s k := fun k => if_pos h
  have e0 := (num_le h (k := 0) (by omega)).2
  have e2 := (num_le h (k := 2) (by omega)).2
  have m0 : mst 0 = 5 := rfl
  have m2 : mst 2 = 16 := rfl
  have hf : ∀ k, k < 3 → rowF (prsV s 0 : Int) (prsV s 1) (prsV s 2 : Int) k = numAt s k := fun k hk => by
    have hc : k = 0 ∨ k = 1 ∨ k = 2 := by omega
    rw [hv, hv, hv]
    rcases hc with rfl | rfl | rfl
    · exact wrap_nat2 _ (by omega)
    · rfl
    · exact wrap_nat2 _ (by omega)
  obtain ⟨q1, q2⟩ := same_name hf
  unfold layT nameE
  rw [q1, k1, if_pos rfl, if_pos rfl, q2, k2]
  exact ⟨rfl, rfl⟩
set_option maxRecDepth 100000 in
set_option maxHeartbeats 6400000 in
theorem Back_any (l : Int) (n : Nat) (v : Int) (s : List UInt8) (L : List (List UInt8)) (b : List UInt8) (pl : Option Addr) (nl cl : Nat) (pb : Option Addr) (nb cb : Nat) (w : World) (hT : Tabs w)
    (h1 : -9223372036854775808 ≤ l) (h2 : l ≤ 9223372036854775807) (h3 : -9223372036854775808 ≤ v) (h4 : v ≤ 9223372036854775807) (hn : n < 18446744073709551616) (hs : s.length ≤ 140737488355328) (hnl : nl ≤ 2 ^ 50) (hnb : nb ≤ 140737488355328)
    (hr : RdD w pl nl cl L) (hrb : Rd w pb nb cb b) :
    Calls Tryd.prog 5 #[.int .i64 l, .int .u64 (n : Int), .int .i64 v, txt s, .slice pl nl cl, .slice pb nb cb] w fun e w' => e = .returned (.bool true) ∧ Below w.heap.size w w' := by
  have HRB := Lib.hid hrb
  have HRL := Lib.hid hr
  have HNL := Lib.hid hnl
  have HW : Hid (∀ W, Below w.heap.size w W → Calls Tryd.prog 15 #[] W fun e w' => e = .returned (.bool true) ∧ Below W.heap.size W w') := fun W hb => wakes_any W (hT.to hb)
  have HTB : Hid (∀ W, Below w.heap.size w W → Calls Tryd.prog 18 #[.slice pb nb cb] W fun e w' => ∃ v, e = .returned (.tuple #[v, .int .i64 (tkE b)]) ∧ OwnD w' W.heap.size v (tkL b) ∧ Below W.heap.size W w') := fun W hb => Take_any b pb nb cb hnb W (hrb.to hb)
  have HPN : Hid (∀ W, Below w.heap.size w W → Calls Tryd.prog 10 #[txt s] W fun e w' => e = .returned (prsT s) ∧ Below W.heap.size W w') := fun W hb => Parse_any s hs W (hT.to hb)
  have HN1 := Lib.hid (Name_any l n v hn w hT)
  have HPT : Hid (∀ W, Below w.heap.size w W → okTo (rowF l n v) 3 = true → Calls Tryd.prog 10 #[txt (nameTo (rowF l n v) 3)] W fun e w' => e = .returned (.tuple #[.int .i64 l, .int .u64 (n : Int), .int .i64 v, .int .i64 0]) ∧ Below W.heap.size W w') := fun W hb ho => by
    have h := Parse_any (nameTo (rowF l n v) 3) (by rw [name_long ho]; omega) W (hT.to hb)
    rw [prs_name h1 h2 h3 h4 ho] at h
    exact h
  have HNN : Hid (∀ W, Below w.heap.size w W → okN s = true → Calls Tryd.prog 8 #[.int .i64 (prsV s 0 : Int), .int .u64 (prsV s 1 : Int), .int .i64 (prsV s 2 : Int)] W fun e w' => e = .returned (.tuple #[txt s, .int .i64 0]) ∧ Below W.heap.size W w') := fun W hb ho => by
    have hv : prsV s 1 ≤ 999999 := by have := (num_le ho (k := 1) (by omega)).2; unfold prsV; rw [if_pos ho]; exact this
    have h := Name_any (prsV s 0 : Int) (prsV s 1) (prsV s 2 : Int) (by omega) W (hT.to hb)
    rw [(name_prs ho).1, (name_prs ho).2] at h
    exact h
  have HPL : Hid (∀ W, Below w.heap.size w W → Calls Tryd.prog 16 #[.slice pl nl cl] W fun e w' => ∃ v, e = .returned (.tuple #[v, .int .i64 (putE L)]) ∧ Own w' W.heap.size 5 v (putT L) ∧ Below W.heap.size W w') := fun W hb => Put_any L pl nl cl W hnl (hr.to hb)
  have HLL := Lib.hid hr.len
  clear hT hr hrb hs hnl hnb hn h1 h2 h3 h4
  go_enter Tryd.func5, Tryd.ntmps5
  obtain ⟨E1, hE1⟩ : ∃ E, E = nameE (rowF l n v) := ⟨_, rfl⟩
  obtain ⟨T1, hT1⟩ : ∃ T, T = layT (rowF l n v) := ⟨_, rfl⟩
  rw [← hE1, ← hT1] at HN1
  have HE1 := Lib.hid hE1
  have HT1 := Lib.hid hT1
  clear hE1 hT1
  go_upto_if 41 with (go_at_call 8; go_loud (refine HN1.out.mono ?_); rintro e w1 ⟨rfl, hb1⟩)
  have HB1 := Lib.hid hb1
  clear hb1
  go_cut [] from 13 (fun wx => Below w.heap.size w wx)
  case first =>
    cases ho : okTo (rowF l n v) 3 with
    | true =>
      have e1 : E1 = 0 := by rw [HE1.out]; unfold nameE; rw [ho]; rfl
      have t1 : T1 = nameTo (rowF l n v) 3 := by rw [HT1.out]; unfold layT; rw [ho]; rfl
      have HPT' := HPT.out w1 HB1.out ho
      have HL12 := name_long ho
      clear HT1 HE1 HN1
      subst e1
      rw [← t1] at HPT' HL12
      clear t1 ho
      go_wp2_with (go_at_call 10; go_loud (refine HPT'.mono ?_); rintro e w2 ⟨rfl, hb2⟩)
      go_meet
      case rel => exact HB1.out.trans (hb2.mono HB1.out.size)
    | false =>
      have e1 : E1 = 1 := by rw [HE1.out]; unfold nameE; rw [ho]; rfl
      have t1 : T1 = [] := by rw [HT1.out]; unfold layT; rw [ho]; rfl
      clear HT1 HE1 HN1
      subst e1 t1
      clear ho
      go_wp2_with fail
      go_meet
      case rel => exact HB1.out
  case rest =>
    have HBc := Lib.hid hcut
    clear hcut HB1 HPT HN1 HE1 HT1
    obtain ⟨A0, hA0⟩ : ∃ A, A = (prsV s 0 : Int) := ⟨_, rfl⟩
    obtain ⟨A1, hA1⟩ : ∃ A, A = (prsV s 1 : Int) := ⟨_, rfl⟩
    obtain ⟨A2, hA2⟩ : ∃ A, A = (prsV s 2 : Int) := ⟨_, rfl⟩
    obtain ⟨E2, hE2⟩ : ∃ E, E = prsE s := ⟨_, rfl⟩
    unfold prsT at HPN
    rw [← hA0, ← hA1, ← hA2, ← hE2] at HPN
    rw [← hA0, ← hA1, ← hA2] at HNN
    have HA := Lib.hid (And.intro hA0 (And.intro hA1 (And.intro hA2 hE2)))
    clear hA0 hA1 hA2 hE2
    go_upto_if 85 with (go_at_call 10; go_loud (refine (HPN.out _ HBc.out).mono ?_); rintro e w3 ⟨rfl, hb3⟩)
    have hb4 := HBc.out.trans (hb3.mono HBc.out.size)
    have HB4 := Lib.hid hb4
    clear hb3 hb4 HBc HPN
    go_cut [] from 13 (fun wx => Below w.heap.size w wx)
    case first =>
      cases ho : okN s with
      | true =>
        have e2 : E2 = 0 := by rw [HA.out.2.2.2]; exact if_pos ho
        have HNN' := HNN.out w3 HB4.out ho
        clear HA HNN ho
        subst e2
        go_wp2_with (go_at_call 8; go_loud (refine HNN'.mono ?_); rintro e w4 ⟨rfl, hb5⟩)
        go_meet
        case rel => exact HB4.out.trans (hb5.mono HB4.out.size)
      | false =>
        have e2 : E2 = 5 := by rw [HA.out.2.2.2]; unfold prsE; rw [ho]; rfl
        have p0 : A0 = 0 := by rw [HA.out.1]; unfold prsV; rw [ho]; rfl
        have p1 : A1 = 0 := by rw [HA.out.2.1]; unfold prsV; rw [ho]; rfl
        have p2 : A2 = 0 := by rw [HA.out.2.2.1]; unfold prsV; rw [ho]; rfl
        clear HA HNN ho
        subst e2 p0 p1 p2
        go_wp2_with fail
        go_meet
        case rel => exact HB4.out
    case rest =>
      have HBd := Lib.hid hcut
      clear hcut HB4 HA HNN
      go_upto_region 16 with (go_at_call 16; go_loud (refine (HPL.out _ HBd.out).mono ?_); rintro e w5 ⟨v5, rfl, ho5, hb5⟩)
      have hb6 := HBd.out.trans (hb5.mono HBd.out.size)
      have HB6 := Lib.hid hb6
      clear hb5 hb6 HBd HPL
      by_cases hok : 1 ≤ nl ∧ nl ≤ 16
      · have e3 : putE L = 0 := by unfold putE; rw [HLL.out, if_pos hok]
        have t3 : putT L = L.flatten := by unfold putT; rw [HLL.out, if_pos hok]
        obtain ⟨q1, q2⟩ := take_put HRL.out.all (by rw [HLL.out]; exact hok.1) (by rw [HLL.out]; exact hok.2)
        have g1 : (1 : Int) ≤ (nl : Int) := by omega
        have g2 : (nl : Int) ≤ 16 := by omega
        rw [t3] at ho5
        have hfl : L.flatten.length ≤ 1000 := by rw [flat_len HRL.out.all, HLL.out]; omega
        have HTL : Hid (∀ W, Below w5.heap.size w5 W → Calls Tryd.prog 18 #[v5] W fun e w' => ∃ q c, e = .returned (.tuple #[.slice q nl c, .int .i64 0]) ∧ RdD w' q nl c L ∧ Below W.heap.size W w') := fun W hW => by
          obtain ⟨a, cap, rfl, -⟩ := ho5.shape
          refine (Take_any L.flatten a _ cap (by omega) W (ho5.rd.toRd.to hW)).mono ?_
          rintro e w' ⟨v, rfl, ho, hb⟩
          rw [q1] at ho
          rw [q2]
          obtain ⟨q, c, rfl, hrd⟩ := ho.rd
          rw [HLL.out] at hrd ⊢
          exact ⟨q, c, rfl, hrd, hb⟩
        rw [e3]
        clear hok e3 t3 q1 q2 ho5 hfl
        go_upto_region 20 with (go_at_call 18; go_loud (refine (HTL.out _ (Below.refl _ _)).mono ?_); rintro e w6 ⟨q6, c6, rfl, hr6, hb6⟩)
        have hb7 := HB6.out.trans (hb6.mono HB6.out.size)
        have HSM : Hid (Calls Tryd.prog 22 #[.slice q6 nl c6, .slice pl nl cl] w6 fun e w' => e = .returned (.bool true) ∧ Below w6.heap.size w6 w') := by
          have h := rSame_any L L q6 pl nl nl c6 cl w6 hr6 (HRL.out.to hb7) HNL.out HNL.out
          rw [decide_eq_true rfl] at h
          exact h
        have HB7 := Lib.hid hb7
        clear hb6 hb7 hr6 HB6 HTL g1 g2
        go_upto_region 22 with (go_at_call 22; go_loud (refine HSM.out.mono ?_); rintro e w7 ⟨rfl, hb8⟩)
        have hb9 := HB7.out.trans (hb8.mono HB7.out.size)
        have HB9 := Lib.hid hb9
        clear hb8 hb9 HB7 HSM
        go_upto_region 23 with (go_at_call 18; go_loud (refine (HTB.out _ HB9.out).mono ?_); rintro e y1 ⟨yv, rfl, yo, yb⟩)
        have k1 := HB9.out.trans (yb.mono HB9.out.size)
        have K1 := Lib.hid k1
        clear k1 yb
        by_cases ht : tkE b = 0
        · obtain ⟨pt, pe⟩ := put_take ht
          have HPB : Hid (∀ W, Below y1.heap.size y1 W → Calls Tryd.prog 16 #[yv] W fun e w' => ∃ q c, e = .returned (.tuple #[.slice q b.length c, .int .i64 0]) ∧ Rd w' q b.length c b ∧ Below W.heap.size W w') := fun W hW => by
            obtain ⟨a, cap, rfl, hrd⟩ := yo.rd
            refine (Put_any (tkL b) a _ cap W (by have : (tkL b).length ≤ 16 := (by unfold tkL; split <;> simp <;> omega); omega) (hrd.to hW)).mono ?_
            rintro e w' ⟨v, rfl, ho, hb⟩
            rw [pt] at ho
            rw [pe]
            obtain ⟨q, c, rfl, -⟩ := ho.shape
            exact ⟨q, c, rfl, ho.rd.toRd, hb⟩
          rw [ht]
          clear ht pt pe yo
          go_upto_region 26 with (go_at_call 16; go_loud (refine (HPB.out _ (Below.refl _ _)).mono ?_); rintro e y2 ⟨q, c, rfl, yr, yb2⟩)
          have k2 := K1.out.trans (yb2.mono K1.out.size)
          have K2 := Lib.hid k2
          have c1 : (convert 38 9 (.slice q b.length c)).run Tryd.prog y2 = .ok (.string (bstr b)) y2 := run_bstr bt Tryd.underlying9 yr
          have c2 : (convert 38 9 (.slice pb nb cb)).run Tryd.prog y2 = .ok (.string (bstr b)) y2 := run_bstr bt Tryd.underlying9 (HRB.out.to k2)
          clear yb2 k2 yr
          go_wp2_with (go_at_call 15; go_loud (refine (HW.out _ K2.out).mono ?_); rintro e y3 ⟨rfl, yb3⟩)
          go_ret
          exact ⟨rfl, K2.out.trans (yb3.mono K2.out.size)⟩
        · have h5 : tkE b = 5 := by unfold tkE at ht ⊢; split at ht <;> first | (exact absurd rfl ht) | (rw [if_neg (by assumption)])
          have h6 : tkL b = [] := by unfold tkE at ht; unfold tkL; split at ht <;> first | (exact absurd rfl ht) | (rw [if_neg (by assumption)])
          rw [h6] at yo
          obtain ⟨a, cap, rfl, -⟩ := yo.rd
          rw [h5]
          clear ht h5 h6 yo
          go_wp2_with (go_at_call 15; go_loud (refine (HW.out _ K1.out).mono ?_); rintro e y3 ⟨rfl, yb3⟩)
          go_ret
          exact ⟨rfl, K1.out.trans (yb3.mono K1.out.size)⟩
      · have e3 : putE L = 1 := by unfold putE; rw [HLL.out, if_neg hok]
        rw [e3]
        clear ho5 e3
        rcases Nat.lt_or_ge nl 1 with g | g
        · have g1 : ¬ (1 : Int) ≤ (nl : Int) := by omega
          clear hok g
          go_upto_region 22 with fail
          go_upto_region 23 with (go_at_call 18; go_loud (refine (HTB.out _ HB6.out).mono ?_); rintro e y1 ⟨yv, rfl, yo, yb⟩)
          have k1 := HB6.out.trans (yb.mono HB6.out.size)
          have K1 := Lib.hid k1
          clear k1 yb
          by_cases ht : tkE b = 0
          · obtain ⟨pt, pe⟩ := put_take ht
            have HPB : Hid (∀ W, Below y1.heap.size y1 W → Calls Tryd.prog 16 #[yv] W fun e w' => ∃ q c, e = .returned (.tuple #[.slice q b.length c, .int .i64 0]) ∧ Rd w' q b.length c b ∧ Below W.heap.size W w') := fun W hW => by
              obtain ⟨a, cap, rfl, hrd⟩ := yo.rd
              refine (Put_any (tkL b) a _ cap W (by have : (tkL b).length ≤ 16 := (by unfold tkL; split <;> simp <;> omega); omega) (hrd.to hW)).mono ?_
              rintro e w' ⟨v, rfl, ho, hb⟩
              rw [pt] at ho
              rw [pe]
              obtain ⟨q, c, rfl, -⟩ := ho.shape
              exact ⟨q, c, rfl, ho.rd.toRd, hb⟩
            rw [ht]
            clear ht pt pe yo
            go_upto_region 26 with (go_at_call 16; go_loud (refine (HPB.out _ (Below.refl _ _)).mono ?_); rintro e y2 ⟨q, c, rfl, yr, yb2⟩)
            have k2 := K1.out.trans (yb2.mono K1.out.size)
            have K2 := Lib.hid k2
            have c1 : (convert 38 9 (.slice q b.length c)).run Tryd.prog y2 = .ok (.string (bstr b)) y2 := run_bstr bt Tryd.underlying9 yr
            have c2 : (convert 38 9 (.slice pb nb cb)).run Tryd.prog y2 = .ok (.string (bstr b)) y2 := run_bstr bt Tryd.underlying9 (HRB.out.to k2)
            clear yb2 k2 yr
            go_wp2_with (go_at_call 15; go_loud (refine (HW.out _ K2.out).mono ?_); rintro e y3 ⟨rfl, yb3⟩)
            go_ret
            exact ⟨rfl, K2.out.trans (yb3.mono K2.out.size)⟩
          · have h5 : tkE b = 5 := by unfold tkE at ht ⊢; split at ht <;> first | (exact absurd rfl ht) | (rw [if_neg (by assumption)])
            have h6 : tkL b = [] := by unfold tkE at ht; unfold tkL; split at ht <;> first | (exact absurd rfl ht) | (rw [if_neg (by assumption)])
            rw [h6] at yo
            obtain ⟨a, cap, rfl, -⟩ := yo.rd
            rw [h5]
            clear ht h5 h6 yo
            go_wp2_with (go_at_call 15; go_loud (refine (HW.out _ K1.out).mono ?_); rintro e y3 ⟨rfl, yb3⟩)
            go_ret
            exact ⟨rfl, K1.out.trans (yb3.mono K1.out.size)⟩
        · have g1 : (1 : Int) ≤ (nl : Int) := by omega
          have g2 : ¬ (nl : Int) ≤ 16 := by omega
          clear hok g
          go_upto_region 22 with fail
          go_upto_region 23 with (go_at_call 18; go_loud (refine (HTB.out _ HB6.out).mono ?_); rintro e y1 ⟨yv, rfl, yo, yb⟩)
          have k1 := HB6.out.trans (yb.mono HB6.out.size)
          have K1 := Lib.hid k1
          clear k1 yb
          by_cases ht : tkE b = 0
          · obtain ⟨pt, pe⟩ := put_take ht
            have HPB : Hid (∀ W, Below y1.heap.size y1 W → Calls Tryd.prog 16 #[yv] W fun e w' => ∃ q c, e = .returned (.tuple #[.slice q b.length c, .int .i64 0]) ∧ Rd w' q b.length c b ∧ Below W.heap.size W w') := fun W hW => by
              obtain ⟨a, cap, rfl, hrd⟩ := yo.rd
              refine (Put_any (tkL b) a _ cap W (by have : (tkL b).length ≤ 16 := (by unfold tkL; split <;> simp <;> omega); omega) (hrd.to hW)).mono ?_
              rintro e w' ⟨v, rfl, ho, hb⟩
              rw [pt] at ho
              rw [pe]
              obtain ⟨q, c, rfl, -⟩ := ho.shape
              exact ⟨q, c, rfl, ho.rd.toRd, hb⟩
            rw [ht]
            clear ht pt pe yo
            go_upto_region 26 with (go_at_call 16; go_loud (refine (HPB.out _ (Below.refl _ _)).mono ?_); rintro e y2 ⟨q, c, rfl, yr, yb2⟩)
            have k2 := K1.out.trans (yb2.mono K1.out.size)
            have K2 := Lib.hid k2
            have c1 : (convert 38 9 (.slice q b.length c)).run Tryd.prog y2 = .ok (.string (bstr b)) y2 := run_bstr bt Tryd.underlying9 yr
            have c2 : (convert 38 9 (.slice pb nb cb)).run Tryd.prog y2 = .ok (.string (bstr b)) y2 := run_bstr bt Tryd.underlying9 (HRB.out.to k2)
            clear yb2 k2 yr
            go_wp2_with (go_at_call 15; go_loud (refine (HW.out _ K2.out).mono ?_); rintro e y3 ⟨rfl, yb3⟩)
            go_ret
            exact ⟨rfl, K2.out.trans (yb3.mono K2.out.size)⟩
          · have h5 : tkE b = 5 := by unfold tkE at ht ⊢; split at ht <;> first | (exact absurd rfl ht) | (rw [if_neg (by assumption)])
            have h6 : tkL b = [] := by unfold tkE at ht; unfold tkL; split at ht <;> first | (exact absurd rfl ht) | (rw [if_neg (by assumption)])
            rw [h6] at yo
            obtain ⟨a, cap, rfl, -⟩ := yo.rd
            rw [h5]
            clear ht h5 h6 yo
            go_wp2_with (go_at_call 15; go_loud (refine (HW.out _ K1.out).mono ?_); rintro e y3 ⟨rfl, yb3⟩)
            go_ret
            exact ⟨rfl, K1.out.trans (yb3.mono K1.out.size)⟩
end Go.Proofs.YtfidajbenmgflaaDoor
