/-
  Layer 4: the document's reader: numbers. Conditions: those in each statement.
-/
import Derived.Test.YtbondnljoalajaaDoorRdR
namespace Go.Proofs.YtbondnljoalajaaDoor
open Go.RowKit

/-- what is so behind a number -/
def NumP (R : Nat) (bs : List UInt8) (a : Option Addr) (c k : Nat) (bad : Bool) (w : World) (e : Ending) (w' : World) : Prop :=
  w.grownBy w' (some R) ∧ ∃ n k' bad', e = .returned (.int .u64 ((n : Nat) : Int)) ∧ n < 18446744073709551616 ∧ k ≤ k' ∧ RefAt w' R bs a c k' bad' ∧ (∀ m r, numF (bs.drop k) = some (m, r) → n = m ∧ bad' = bad ∧ bs.drop k' = r) ∧ (numF (bs.drop k) = none → bad' = true)
theorem span_take : ∀ (xs : List UInt8) (q : Nat), q ≤ xs.length → (∀ i, i < q → isDigit (xs.getD i 0) = true) → (q < xs.length → isDigit (xs.getD q 0) = false) → spanD xs = (xs.take q, xs.drop q)
  | [], q, h, _, _ => by
    have : q = 0 := by simpa using h
    subst this
    rfl
  | c :: r, 0, _, _, h => by
    have h0 : isDigit c = false := h (by simp)
    unfold spanD
    rw [h0]
    rfl
  | c :: r, q + 1, h1, h2, h3 => by
    have h0 : isDigit c = true := h2 0 (by omega)
    have ih := span_take r q (by simpa using h1) (fun i hi => h2 (i + 1) (by omega)) (fun hq => h3 (by simpa using hq))
    unfold spanD
    rw [h0, if_pos rfl, ih]
    rfl
theorem take_snoc (xs : List UInt8) (q : Nat) (h : q < xs.length) : xs.take (q + 1) = xs.take q ++ [xs.getD q 0] := by
  rw [List.take_add_one, List.getD, List.getElem?_eq_getElem h]
  rfl
theorem drop_get (bs : List UInt8) (k q : Nat) : (bs.drop k).getD q 0 = bs.getD (k + q) 0 := by
  rw [List.getD, List.getD, List.getElem?_drop]
/-- a number so far -/
structure NumAt (bs : List UInt8) (k q : Nat) (bad bad' : Bool) (m : Nat) : Prop where
  le : k + q ≤ bs.length
  dig : ∀ i, i < q → isDigit ((bs.drop k).getD i 0) = true
  lt : m < 18446744073709551616
  val : (bad' = bad ∧ m = valD ((bs.drop k).take q)) ∨ (bad' = true ∧ 18446744073709551616 ≤ valD ((bs.drop k).take q))
theorem NumAt.step {bs : List UInt8} {k q : Nat} {bad bad' : Bool} {m : Nat} (h : NumAt bs k q bad bad' m) (hlt : k + q < bs.length) (hd : isDigit (bs.getD (k + q) 0) = true) (d m2 : Nat) (hdd : d = (bs.getD (k + q) 0).toNat - 48) (hm2 : m2 = (10 * m + d) % 18446744073709551616) (bad2 : Bool)
    (hb : bad2 = if (18446744073709551615 - d) / 10 < m then true else bad') : NumAt bs k (q + 1) bad bad2 m2 := by
  have hq : q < (bs.drop k).length := by rw [List.length_drop]; omega
  have hv : valD ((bs.drop k).take (q + 1)) = 10 * valD ((bs.drop k).take q) + d := by
    rw [take_snoc _ _ hq, valD_snoc, drop_get, hdd]
  have hdb : d ≤ 9 := by
    unfold isDigit at hd
    simp only [Bool.and_eq_true, decide_eq_true_eq] at hd
    omega
  refine ⟨by omega, fun i hi => ?_, by omega, ?_⟩
  · by_cases hiq : i = q
    · subst hiq
      rw [drop_get]
      exact hd
    · exact h.dig i (by omega)
  · have hlt := h.lt
    rcases h.val with ⟨h1, h2⟩ | ⟨h1, h2⟩
    · by_cases ho : (18446744073709551615 - d) / 10 < m
      · rw [if_pos ho] at hb
        exact .inr ⟨hb, by rw [hv, ← h2]; omega⟩
      · rw [if_neg ho] at hb
        exact .inl ⟨by rw [hb, h1], by rw [hv, ← h2, hm2]; omega⟩
    · refine .inr ⟨?_, by rw [hv]; omega⟩
      rw [hb, h1]
      split <;> rfl
theorem NumAt.ends {bs : List UInt8} {k q : Nat} {bad bad' : Bool} {m : Nat} (h : NumAt bs k q bad bad' m) (he : k + q < bs.length → isDigit (bs.getD (k + q) 0) = false) : spanD (bs.drop k) = ((bs.drop k).take q, bs.drop (k + q)) := by
  have := span_take (bs.drop k) q (by rw [List.length_drop]; have := h.le; omega) h.dig (fun hq => by rw [drop_get]; exact he (by rw [List.length_drop] at hq; omega))
  rw [this, List.drop_drop]
theorem num_none {bs : List UInt8} {k q : Nat} {bad bad' : Bool} {m : Nat} (h : NumAt bs k q bad bad' m) (he : k + q < bs.length → isDigit (bs.getD (k + q) 0) = false) (hz : q = 0 ∨ (bs.getD k 0 = 48 ∧ 1 < q)) : numF (bs.drop k) = none := by
  have hs := h.ends he
  have hl : ((bs.drop k).take q).length = q := by rw [List.length_take, List.length_drop]; have := h.le; omega
  unfold numF
  rw [hs]
  by_cases h0 : q = 0
  · subst h0
    rw [if_pos (by simp)]
  · rw [if_neg (fun e => h0 (by rw [← hl]; simp only at e; rw [e]; rfl))]
    rw [if_pos]
    obtain ⟨h1, h2⟩ := hz.resolve_left h0
    refine ⟨?_, by simp only; omega⟩
    show ((bs.drop k).take q).headD 0 = 48
    have e : (bs.drop k).take q = bs.getD k 0 :: ((bs.drop (k + 1)).take (q - 1)) := by
      rw [drop_cons (by have := h.le; omega), show q = (q - 1) + 1 by omega, List.take_succ_cons]
      rfl
    rw [e, h1]
    rfl
theorem num_some {bs : List UInt8} {k q : Nat} {bad bad' : Bool} {m : Nat} (h : NumAt bs k q bad bad' m) (he : k + q < bs.length → isDigit (bs.getD (k + q) 0) = false) (hz : ¬ (q = 0 ∨ (bs.getD k 0 = 48 ∧ 1 < q))) :
    (∀ n r, numF (bs.drop k) = some (n, r) → m = n ∧ bad' = bad ∧ bs.drop (k + q) = r) ∧ (numF (bs.drop k) = none → bad' = true) := by
  have hs := h.ends he
  have hl : ((bs.drop k).take q).length = q := by rw [List.length_take, List.length_drop]; have := h.le; omega
  have h0 : ¬ q = 0 := fun e => hz (.inl e)
  have e : (bs.drop k).take q = bs.getD k 0 :: ((bs.drop (k + 1)).take (q - 1)) := by
    rw [drop_cons (by have := h.le; omega), show q = (q - 1) + 1 by omega, List.take_succ_cons]
    rfl
  have hh : ((bs.drop k).take q).headD 0 = bs.getD k 0 := by rw [e]; rfl
  have hn : numF (bs.drop k) = if valD ((bs.drop k).take q) < 18446744073709551616 then some (valD ((bs.drop k).take q), bs.drop (k + q)) else none := by
    unfold numF
    rw [hs]
    rw [if_neg (fun e => h0 (by rw [← hl]; simp only at e; rw [e]; rfl)), if_neg (fun e => hz (.inr (by simp only [hh, hl] at e; exact e)))]
  rw [hn]
  rcases h.val with ⟨h1, h2⟩ | ⟨h1, h2⟩
  · have hlt := h.lt
    rw [if_pos (by omega)]
    refine ⟨fun n r hr => ?_, fun hr => by cases hr⟩
    cases hr
    exact ⟨h2, h1, rfl⟩
  · rw [if_neg (by omega)]
    exact ⟨(fun n r hr => by cases hr), fun _ => h1⟩
theorem u8_ne48 (x : UInt8) (h : x ≠ 48) : ((x.toNat : Int) == 48) = false := beq_eq_false_iff_ne.2 (fun e => h ((u8_eq x 48).1 e))
set_option maxRecDepth 100000 in
set_option maxHeartbeats 3200000 in
theorem rNum_any (R : Nat) (bs : List UInt8) (a : Option Addr) (c k : Nat) (bad : Bool) (w : World) (h : RefAt w R bs a c k bad) :
    Calls Tryd.prog 56 #[.pointer (some ⟨R, 0, none⟩)] w (NumP R bs a c k bad w) := by
  have hle := h.text.le
  have hbig := h.text.big
  have hbl : bs.length ≤ 9223372036854775807 := by omega
  have HLE := Lib.hid hle
  have hat0 := h.at_
  have HBE := Lib.hid hbl
  have c1 := (h.arr.cell 1).trans (show _ = some (Value.int .i64 (k : Int)) from rfl)
  clear hle hbig
  go_enter Tryd.func56, Tryd.ntmps56
  go_wp2_with fail
  clear c1
  go_loopw [4] (fun n wr => ∃ (q m : Nat) (bad' : Bool), n = .int .u64 (m : Int) ∧ NumAt bs k q bad bad' m ∧ RefAt wr R bs a c (k + q) bad' ∧ w.grownBy wr (some R)) (fun _ wr => bs.length - (intOf ((wr.cell? ⟨R, 1, none⟩).getD undef)).toNat)
  case atStart => exact ⟨0, 0, bad, rfl, ⟨hat0, fun i hi => by omega, by decide, .inl ⟨rfl, rfl⟩⟩, h, World.grownBy.refl w _⟩
  case round =>
    clear h
    obtain ⟨q, m, bad', rfl, hNA, hR, hg⟩ := hrel
    have HG := Lib.hid hg
    have HR := Lib.hid hR
    have HNA := Lib.hid hNA
    have hmlt := hNA.lt
    have c0 := (hR.arr.cell 0).trans (show _ = some (Value.slice a bs.length c) from rfl)
    have c1 := (hR.arr.cell 1).trans (show _ = some (Value.int .i64 ((k + q : Nat) : Int)) from rfl)
    have f1 := hR.arr.frozen 1
    have f2 := hR.arr.frozen 2
    have c2 := (hR.arr.cell 2).trans (show _ = some (Value.bool bad') from rfl)
    have hat := hR.at_
    have hmem := Lib.hid hR.text.mem
    obtain ⟨K, hK⟩ : ∃ K, K = k + q := ⟨_, rfl⟩
    rw [← hK] at c1 hat
    have HK := Lib.hid hK
    clear hR hg hK hNA
    have hK0 : (0 : Int) ≤ (K : Int) := by omega
    by_cases hlt : K < bs.length
    · have hc : (K : Int) < (bs.length : Int) := by omega
      obtain ⟨b, off, rfl, hbR, hbw, hcell⟩ := hmem.out (by omega)
      have ck := hcell K hlt
      have hkc : K < c := by have := HLE.out; omega
      obtain ⟨x, hx⟩ : ∃ x, x = bs.getD K 0 := ⟨_, rfl⟩
      rw [← hx] at ck
      have HX := Lib.hid hx
      have HLT := Lib.hid hlt
      clear hcell hmem hx
      have hxl := x.toNat_lt
      obtain ⟨y, hy⟩ : ∃ y, y = x.toNat := ⟨_, rfl⟩
      rw [← hy] at ck hxl
      have HY := Lib.hid hy
      clear hy
      by_cases hdig : 48 ≤ y ∧ y ≤ 57
      · have i1 : (48 : Int) ≤ (y : Int) := by omega
        have i2 : (y : Int) ≤ 57 := by omega
        have hID : Hid (isDigit (bs.getD (k + q) 0) = true) := by
          show _ = _
          rw [← HK.out, ← HX.out]
          unfold isDigit
          rw [← HY.out]
          simp only [Bool.and_eq_true, decide_eq_true_eq]
          exact hdig
        have HDG := Lib.hid hdig
        clear hdig hlt
        go_upto_region 3 with fail
        go_region
        all_goals
          have c0 : wr.drew.cell? ⟨R, 0, none⟩ = some (Value.slice (some ⟨b, off, none⟩) bs.length c) := c0
          have c1 : wr.drew.cell? ⟨R, 1, none⟩ = some (Value.int .i64 (K : Int)) := c1
          have ck : wr.drew.cell? ⟨b, off + K, none⟩ = some (.int .u8 (y : Int)) := ck
          go_upto_region 4 with fail
          go_region
          all_goals
            obtain ⟨d, hd⟩ : ∃ d : Nat, d = y - 48 := ⟨_, rfl⟩
            rw [show (y : Int) - 48 = (d : Int) by have := HDG.out; omega]
            have hd9 : (d : Int) ≤ 9 := by have := HDG.out; omega
            have HD := Lib.hid hd
            have HDD := Lib.hid HR.out.drew.drew
            have c1 : wr.drew.drew.cell? ⟨R, 1, none⟩ = some (Value.int .i64 (K : Int)) := c1
            have f1 : wr.drew.drew.frozen? ⟨R, 1, none⟩ = false := f1
            have c2 : wr.drew.drew.cell? ⟨R, 2, none⟩ = some (Value.bool bad') := c2
            have f2 : wr.drew.drew.frozen? ⟨R, 2, none⟩ = false := f2
            generalize hV : wr.drew.drew = V at *
            have hgV : Hid (w.grownBy V (some R)) := by show _; rw [← hV]; exact gb_drew (gb_drew HG.out)
            clear c0 ck hV hd
            have hk1 : (K : Int) + 1 ≤ 9223372036854775807 := by omega
            obtain ⟨m2, hm2⟩ : ∃ m2, m2 = (10 * m + d) % 18446744073709551616 := ⟨_, rfl⟩
            have HM2 := Lib.hid hm2
            clear hm2
            by_cases ho : (18446744073709551615 - d) / 10 < m
            · have hoi : (18446744073709551615 - (d : Int)) / 10 < (m : Int) := by omega
              have HST : Hid (NumAt bs k (q + 1) bad true m2) := HNA.out.step (by rw [← HK.out]; exact HLT.out) hID.out d m2 (by rw [HD.out, HY.out, HX.out, HK.out]) HM2.out true (by rw [if_pos ho])
              clear ho
              go_upto_region 7 with fail
              have hbd := HDD.out.bad true
              generalize hV2 : V.setCell ⟨R, 2, none⟩ (.bool true) = V2 at *
              have hgV2 : Hid (w.grownBy V2 (some R)) := by show _; rw [← hV2]; exact gb_trans hgV.out (gb_cellAt _ _ _ _)
              have HD2 := Lib.hid hbd
              clear hV2 hbd c1 f1 c2 f2 hoi
              have c1 := (HD2.out.arr.cell 1).trans (show _ = some (Value.int .i64 ((k + q : Nat) : Int)) from rfl)
              rw [← HK.out] at c1
              have f1 := HD2.out.arr.frozen 1
              have hval : Hid (IntKind.u64.wrap (IntKind.u64.wrap (10 * (m : Int)) + (d : Int)) = (m2 : Int)) := by show _ = _; rw [IntKind.wrap_u64, IntKind.wrap_u64, HM2.out]; omega
              have hMV : Hid (RefAt (V2.setCell ⟨R, 1, none⟩ (.int .i64 ((K : Int) + 1))) R bs (some ⟨b, off, none⟩) c (k + (q + 1)) true) := by
                have := HD2.out.move (K + 1) HLT.out
                have e : ((K + 1 : Nat) : Int) = (K : Int) + 1 := by omega
                rw [e, show K + 1 = k + (q + 1) by have := HK.out; omega] at this
                exact this
              clear hID
              go_wp2_with fail
              go_roundw
              case rel => exact ⟨q + 1, m2, true, by rw [hval.out], HST.out, hMV.out, gb_trans hgV2.out (gb_cellAt _ _ _ _)⟩
              case measure =>
                have m1 : (V2.setCell ⟨R, 1, none⟩ (.int .i64 ((K : Int) + 1))).cell? ⟨R, 1, none⟩ = some (.int .i64 ((K : Int) + 1)) := by
                  have := (hMV.out.arr.cell 1).trans (show _ = some (Value.int .i64 ((k + (q + 1) : Nat) : Int)) from rfl)
                  rw [this, show ((k + (q + 1) : Nat) : Int) = (K : Int) + 1 by have := HK.out; omega]
                have m2 := (HR.out.arr.cell 1).trans (show _ = some (Value.int .i64 ((k + q : Nat) : Int)) from rfl)
                rw [← HK.out] at m2
                have hq2 := HLT.out
                simp only [m1, m2, Option.getD_some, intOf]
                omega
            · have hoi : ¬ (18446744073709551615 - (d : Int)) / 10 < (m : Int) := by omega
              have HST : Hid (NumAt bs k (q + 1) bad bad' m2) := HNA.out.step (by rw [← HK.out]; exact HLT.out) hID.out d m2 (by rw [HD.out, HY.out, HX.out, HK.out]) HM2.out bad' (by rw [if_neg ho])
              have HO := Lib.hid ho
              clear ho
              have hval : Hid (10 * (m : Int) + (d : Int) = (m2 : Int)) := by show _ = _; rw [HM2.out]; have := HO.out; omega
              have hMV : Hid (RefAt (V.setCell ⟨R, 1, none⟩ (.int .i64 ((K : Int) + 1))) R bs (some ⟨b, off, none⟩) c (k + (q + 1)) bad') := by
                have := HDD.out.move (K + 1) HLT.out
                have e : ((K + 1 : Nat) : Int) = (K : Int) + 1 := by omega
                rw [e, show K + 1 = k + (q + 1) by have := HK.out; omega] at this
                exact this
              clear hID
              go_upto_region 7 with fail
              go_wp2_with fail
              go_roundw
              case rel => exact ⟨q + 1, m2, bad', by rw [hval.out], HST.out, hMV.out, gb_trans hgV.out (gb_cellAt _ _ _ _)⟩
              case measure =>
                have m1 : (V.setCell ⟨R, 1, none⟩ (.int .i64 ((K : Int) + 1))).cell? ⟨R, 1, none⟩ = some (.int .i64 ((K : Int) + 1)) := by
                  have := (hMV.out.arr.cell 1).trans (show _ = some (Value.int .i64 ((k + (q + 1) : Nat) : Int)) from rfl)
                  rw [this, show ((k + (q + 1) : Nat) : Int) = (K : Int) + 1 by have := HK.out; omega]
                have m2 := (HR.out.arr.cell 1).trans (show _ = some (Value.int .i64 ((k + q : Nat) : Int)) from rfl)
                rw [← HK.out] at m2
                have hq2 := HLT.out
                simp only [m1, m2, Option.getD_some, intOf]
                omega
      · have hE : Hid (k + q < bs.length → isDigit (bs.getD (k + q) 0) = false) := fun _ => by
          rw [← HK.out, ← HX.out]
          unfold isDigit
          rw [← HY.out]
          simp only [Bool.and_eq_false_iff, decide_eq_false_iff_not]
          omega
        by_cases hlo : 48 ≤ y
        · have i1 : (48 : Int) ≤ (y : Int) := by omega
          have i2 : ¬ (y : Int) ≤ 57 := by omega
          clear hdig hlt hlo
          go_upto_region 3 with fail
          go_region
          all_goals
            have HD := Lib.hid HR.out.drew
            have hgV : Hid (w.grownBy wr.drew (some R)) := gb_drew HG.out
            generalize wr.drew = V at HD hgV ⊢
            clear c0 c1 f1 c2 f2 ck
            have c0 := (HD.out.arr.cell 0).trans (show _ = some (Value.slice (some ⟨b, off, none⟩) bs.length c) from rfl)
            have c1 := (HD.out.arr.cell 1).trans (show _ = some (Value.int .i64 ((k + q : Nat) : Int)) from rfl)
            rw [← HK.out] at c1
            have c2 := (HD.out.arr.cell 2).trans (show _ = some (Value.bool bad') from rfl)
            have f2 := HD.out.arr.frozen 2
            have hk0 : (0 : Int) ≤ (k : Int) := by omega
            by_cases hq0 : q = 0
            · have hz := num_none HNA.out hE.out (.inl hq0)
              have heq : ((K : Int) == (k : Int)) = true := by have := HK.out; simp only [beq_iff_eq]; omega
              have fin : Hid (NumP R bs (some ⟨b, off, none⟩) c k bad w (.returned (.int .u64 (m : Int))) (V.setCell ⟨R, 2, none⟩ (.bool true))) :=
                ⟨gb_trans hgV.out (gb_cellAt _ _ _ _), m, k + q, true, rfl, hmlt, by omega, HD.out.bad true, (fun m' r hr => by rw [hz] at hr; cases hr), fun _ => rfl⟩
              clear hz hq0
              go_wp2_with fail
              go_ret
              exact fin.out
            · have hne : ((K : Int) == (k : Int)) = false := by have := HK.out; simp only [beq_eq_false_iff_ne]; omega
              have hkm : (k : Int) + 1 ≤ 9223372036854775807 := by have := HNA.out.le; have := HBE.out; omega
              obtain ⟨b', off', e', hbR', hbw', hcell'⟩ := HD.out.text.mem (by have := HNA.out.le; omega)
              cases e'
              have ck0 := hcell' k (by have := HNA.out.le; omega)
              have hkl : (k : Int) < (bs.length : Int) := by have := HNA.out.le; omega
              have hkc0 : k < c := by have := HNA.out.le; have := HLE.out; omega
              obtain ⟨z, hz⟩ : ∃ z, z = bs.getD k 0 := ⟨_, rfl⟩
              rw [← hz] at ck0
              have HZ := Lib.hid hz
              clear hz hcell'
              by_cases h48 : z = 48
              · rw [h48] at ck0
                have ck0 := ck0.trans (show some (Value.int .u8 ((48 : UInt8).toNat : Int)) = some (.int .u8 48) from rfl)
                by_cases hq1 : 1 < q
                · have hz := num_none HNA.out hE.out (.inr ⟨by rw [← HZ.out, h48], hq1⟩)
                  have hgt : (k : Int) + 1 < (K : Int) := by have := HK.out; omega
                  have fin : Hid (NumP R bs _ c k bad w (.returned (.int .u64 (m : Int))) (V.setCell ⟨R, 2, none⟩ (.bool true))) :=
                    ⟨gb_trans hgV.out (gb_cellAt _ _ _ _), m, k + q, true, rfl, hmlt, by omega, HD.out.bad true, (fun m' r hr => by rw [hz] at hr; cases hr), fun _ => rfl⟩
                  clear hz hq0 hq1 h48
                  go_wp2_with fail
                  go_ret
                  exact fin.out
                · have hng : ¬ (k : Int) + 1 < (K : Int) := by have := HK.out; omega
                  have hz := num_some HNA.out hE.out (fun h => h.elim hq0 fun h => hq1 h.2)
                  have fin : Hid (NumP R bs _ c k bad w (.returned (.int .u64 (m : Int))) V) := ⟨hgV.out, m, k + q, bad', rfl, hmlt, by omega, HD.out, hz.1, hz.2⟩
                  clear hz hq0 hq1 h48
                  go_wp2_with fail
                  go_ret
                  exact fin.out
              · have z48 := u8_ne48 z h48
                have hz := num_some HNA.out hE.out (fun h => h.elim hq0 fun h => h48 (by rw [HZ.out]; exact h.1))
                have fin : Hid (NumP R bs _ c k bad w (.returned (.int .u64 (m : Int))) V) := ⟨hgV.out, m, k + q, bad', rfl, hmlt, by omega, HD.out, hz.1, hz.2⟩
                clear hz hq0 h48
                go_wp2_with fail
                go_ret
                exact fin.out
        · have i1 : ¬ (48 : Int) ≤ (y : Int) := by omega
          clear hdig hlt hlo
          go_upto_region 3 with fail
          go_region
          all_goals
            have HD := Lib.hid HR.out.drew
            have hgV : Hid (w.grownBy wr.drew (some R)) := gb_drew HG.out
            generalize wr.drew = V at HD hgV ⊢
            clear c0 c1 f1 c2 f2 ck
            have c0 := (HD.out.arr.cell 0).trans (show _ = some (Value.slice (some ⟨b, off, none⟩) bs.length c) from rfl)
            have c1 := (HD.out.arr.cell 1).trans (show _ = some (Value.int .i64 ((k + q : Nat) : Int)) from rfl)
            rw [← HK.out] at c1
            have c2 := (HD.out.arr.cell 2).trans (show _ = some (Value.bool bad') from rfl)
            have f2 := HD.out.arr.frozen 2
            have hk0 : (0 : Int) ≤ (k : Int) := by omega
            by_cases hq0 : q = 0
            · have hz := num_none HNA.out hE.out (.inl hq0)
              have heq : ((K : Int) == (k : Int)) = true := by have := HK.out; simp only [beq_iff_eq]; omega
              have fin : Hid (NumP R bs (some ⟨b, off, none⟩) c k bad w (.returned (.int .u64 (m : Int))) (V.setCell ⟨R, 2, none⟩ (.bool true))) :=
                ⟨gb_trans hgV.out (gb_cellAt _ _ _ _), m, k + q, true, rfl, hmlt, by omega, HD.out.bad true, (fun m' r hr => by rw [hz] at hr; cases hr), fun _ => rfl⟩
              clear hz hq0
              go_wp2_with fail
              go_ret
              exact fin.out
            · have hne : ((K : Int) == (k : Int)) = false := by have := HK.out; simp only [beq_eq_false_iff_ne]; omega
              have hkm : (k : Int) + 1 ≤ 9223372036854775807 := by have := HNA.out.le; have := HBE.out; omega
              obtain ⟨b', off', e', hbR', hbw', hcell'⟩ := HD.out.text.mem (by have := HNA.out.le; omega)
              cases e'
              have ck0 := hcell' k (by have := HNA.out.le; omega)
              have hkl : (k : Int) < (bs.length : Int) := by have := HNA.out.le; omega
              have hkc0 : k < c := by have := HNA.out.le; have := HLE.out; omega
              obtain ⟨z, hz⟩ : ∃ z, z = bs.getD k 0 := ⟨_, rfl⟩
              rw [← hz] at ck0
              have HZ := Lib.hid hz
              clear hz hcell'
              by_cases h48 : z = 48
              · rw [h48] at ck0
                have ck0 := ck0.trans (show some (Value.int .u8 ((48 : UInt8).toNat : Int)) = some (.int .u8 48) from rfl)
                by_cases hq1 : 1 < q
                · have hz := num_none HNA.out hE.out (.inr ⟨by rw [← HZ.out, h48], hq1⟩)
                  have hgt : (k : Int) + 1 < (K : Int) := by have := HK.out; omega
                  have fin : Hid (NumP R bs _ c k bad w (.returned (.int .u64 (m : Int))) (V.setCell ⟨R, 2, none⟩ (.bool true))) :=
                    ⟨gb_trans hgV.out (gb_cellAt _ _ _ _), m, k + q, true, rfl, hmlt, by omega, HD.out.bad true, (fun m' r hr => by rw [hz] at hr; cases hr), fun _ => rfl⟩
                  clear hz hq0 hq1 h48
                  go_wp2_with fail
                  go_ret
                  exact fin.out
                · have hng : ¬ (k : Int) + 1 < (K : Int) := by have := HK.out; omega
                  have hz := num_some HNA.out hE.out (fun h => h.elim hq0 fun h => hq1 h.2)
                  have fin : Hid (NumP R bs _ c k bad w (.returned (.int .u64 (m : Int))) V) := ⟨hgV.out, m, k + q, bad', rfl, hmlt, by omega, HD.out, hz.1, hz.2⟩
                  clear hz hq0 hq1 h48
                  go_wp2_with fail
                  go_ret
                  exact fin.out
              · have z48 := u8_ne48 z h48
                have hz := num_some HNA.out hE.out (fun h => h.elim hq0 fun h => h48 (by rw [HZ.out]; exact h.1))
                have fin : Hid (NumP R bs _ c k bad w (.returned (.int .u64 (m : Int))) V) := ⟨hgV.out, m, k + q, bad', rfl, hmlt, by omega, HD.out, hz.1, hz.2⟩
                clear hz hq0 h48
                go_wp2_with fail
                go_ret
                exact fin.out
    · have hc : ¬ (K : Int) < (bs.length : Int) := by omega
      have hE : Hid (k + q < bs.length → isDigit (bs.getD (k + q) 0) = false) := fun h => absurd h (by rw [← HK.out]; exact hlt)
      clear hlt hmem
      go_upto_region 3 with fail
      go_region
      all_goals
        have HD := Lib.hid HR.out.drew
        have hgV : Hid (w.grownBy wr.drew (some R)) := gb_drew HG.out
        generalize wr.drew = V at HD hgV ⊢
        clear c0 c1 f1 c2 f2
        have c0 := (HD.out.arr.cell 0).trans (show _ = some (Value.slice a bs.length c) from rfl)
        have c1 := (HD.out.arr.cell 1).trans (show _ = some (Value.int .i64 ((k + q : Nat) : Int)) from rfl)
        rw [← HK.out] at c1
        have c2 := (HD.out.arr.cell 2).trans (show _ = some (Value.bool bad') from rfl)
        have f2 := HD.out.arr.frozen 2
        have hk0 : (0 : Int) ≤ (k : Int) := by omega
        by_cases hq0 : q = 0
        · have hz := num_none HNA.out hE.out (.inl hq0)
          have heq : ((K : Int) == (k : Int)) = true := by have := HK.out; simp only [beq_iff_eq]; omega
          have fin : Hid (NumP R bs a c k bad w (.returned (.int .u64 (m : Int))) (V.setCell ⟨R, 2, none⟩ (.bool true))) :=
            ⟨gb_trans hgV.out (gb_cellAt _ _ _ _), m, k + q, true, rfl, hmlt, by omega, HD.out.bad true, (fun m' r hr => by rw [hz] at hr; cases hr), fun _ => rfl⟩
          clear hz hq0
          go_wp2_with fail
          go_ret
          exact fin.out
        · have hne : ((K : Int) == (k : Int)) = false := by have := HK.out; simp only [beq_eq_false_iff_ne]; omega
          have hkm : (k : Int) + 1 ≤ 9223372036854775807 := by have := HNA.out.le; have := HBE.out; omega
          obtain ⟨b', off', e', hbR', hbw', hcell'⟩ := HD.out.text.mem (by have := HNA.out.le; omega)
          cases e'
          have ck0 := hcell' k (by have := HNA.out.le; omega)
          have hkl : (k : Int) < (bs.length : Int) := by have := HNA.out.le; omega
          have hkc0 : k < c := by have := HNA.out.le; have := HLE.out; omega
          obtain ⟨z, hz⟩ : ∃ z, z = bs.getD k 0 := ⟨_, rfl⟩
          rw [← hz] at ck0
          have HZ := Lib.hid hz
          clear hz hcell'
          by_cases h48 : z = 48
          · rw [h48] at ck0
            have ck0 := ck0.trans (show some (Value.int .u8 ((48 : UInt8).toNat : Int)) = some (.int .u8 48) from rfl)
            by_cases hq1 : 1 < q
            · have hz := num_none HNA.out hE.out (.inr ⟨by rw [← HZ.out, h48], hq1⟩)
              have hgt : (k : Int) + 1 < (K : Int) := by have := HK.out; omega
              have fin : Hid (NumP R bs _ c k bad w (.returned (.int .u64 (m : Int))) (V.setCell ⟨R, 2, none⟩ (.bool true))) :=
                ⟨gb_trans hgV.out (gb_cellAt _ _ _ _), m, k + q, true, rfl, hmlt, by omega, HD.out.bad true, (fun m' r hr => by rw [hz] at hr; cases hr), fun _ => rfl⟩
              clear hz hq0 hq1 h48
              go_wp2_with fail
              go_ret
              exact fin.out
            · have hng : ¬ (k : Int) + 1 < (K : Int) := by have := HK.out; omega
              have hz := num_some HNA.out hE.out (fun h => h.elim hq0 fun h => hq1 h.2)
              have fin : Hid (NumP R bs _ c k bad w (.returned (.int .u64 (m : Int))) V) := ⟨hgV.out, m, k + q, bad', rfl, hmlt, by omega, HD.out, hz.1, hz.2⟩
              clear hz hq0 hq1 h48
              go_wp2_with fail
              go_ret
              exact fin.out
          · have z48 := u8_ne48 z h48
            have hz := num_some HNA.out hE.out (fun h => h.elim hq0 fun h => h48 (by rw [HZ.out]; exact h.1))
            have fin : Hid (NumP R bs _ c k bad w (.returned (.int .u64 (m : Int))) V) := ⟨hgV.out, m, k + q, bad', rfl, hmlt, by omega, HD.out, hz.1, hz.2⟩
            clear hz hq0 h48
            go_wp2_with fail
            go_ret
            exact fin.out
end Go.Proofs.YtbondnljoalajaaDoor
