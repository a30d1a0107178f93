/-
  CrcParts, as a call. Conditions: those in each statement.
-/
import Derived.Test.YtocehaflgpljfaaCrI
namespace Go.Proofs.Ytocehaflgpljfaa
open Go.RowKit

theorem take_drop_add (xs : List UInt8) (k r : Nat) : xs.take k ++ (xs.drop k).take r = xs.take (k + r) := by
  rw [List.take_add]
set_option maxHeartbeats 1600000 in
set_option maxRecDepth 100000 in
theorem Parts_any (p : Option Addr) (n cap : Nat) (xs : List UInt8) (p' : Option Addr) (m cap' : Nat) (ks : List UInt8) (w : World) (hn : n ≤ 140737488351232) (hm : m ≤ 140737488351232) (hr : Rd w p n cap xs) (hr' : Rd w p' m cap' ks) :
    Calls Try.prog 7 #[.slice p n cap, .slice p' m cap'] w fun e w' => e = .returned (.bool true) ∧ Below w.heap.size w w' := by
  have HS := Sum_any none 0 0 [] w (by omega) (Rd.none w)
  have hs0 : sumF [] = 0#32 := moreF_nil _
  rw [hs0] at HS
  clear hs0
  have hl := hr.len
  have hle := hr.le
  have hle' := hr'.le
  have HR := Lib.hid hr
  have HR' := Lib.hid hr'
  clear hr hr'
  go_enter Try.func7, Try.ntmps7
  go_wp2_with fail
  refine HS.mono ?_
  rintro e w1 ⟨rfl, rfl⟩
  go_wp2_with fail
  go_loop [5, 6, 7] (fun s at_ i => ∃ (k j : Nat), k ≤ n ∧ j ≤ m ∧ s = .int .u32 ((sumF (xs.take k)).toNat : Int) ∧ at_ = .int .i64 k ∧ i = .int .i64 j) (fun _ _ i => m - (intOf i).toNat)
  case atStart => exact ⟨0, 0, by omega, by omega, by rw [List.take_zero, show sumF [] = 0#32 from moreF_nil _]; rfl, rfl, rfl⟩
  case round =>
    obtain ⟨k, j, hk, hj, rfl, rfl, rfl⟩ := hrel
    by_cases hjm : j < m
    · by_cases hkn : k < n
      · obtain ⟨b, off, rfl, hb, -⟩ := HR.out.mem (by omega)
        obtain ⟨b', off', rfl, hb', hc'⟩ := HR'.out.mem (by omega)
        have c := hc' j hjm
        obtain ⟨q, hq⟩ : ∃ q, q = (ks.getD j 0).toNat := ⟨_, rfl⟩
        have hql : q < 256 := by rw [hq]; exact (ks.getD j 0).toNat_lt
        rw [← hq] at c
        clear hc' hq
        have hmin : ∃ r : Nat, (if (n : Int) - (k : Int) < (q : Int) then (n : Int) - (k : Int) else (q : Int)) = (r : Int) ∧ k + r ≤ n := by
          by_cases h : (n : Int) - (k : Int) < (q : Int)
          · exact ⟨n - k, by rw [if_pos h]; omega, by omega⟩
          · exact ⟨q, by rw [if_neg h], by omega⟩
        obtain ⟨r, hr1, hr2⟩ := hmin
        have HM := Lib.hid hr1
        clear hr1
        go_upto_region 6 with fail
        rw [HM.out]
        have HC := More_any (sumF (xs.take k)) (some ⟨b, off + k, none⟩) r (cap - k) ((xs.drop k).take r) w (by omega) (((RdS.drop ⟨HR.out, fun ad e => by cases e; exact ⟨rfl, hb⟩⟩ k (by omega)).take r (by omega)).toRd)
        rw [moreF_sum, take_drop_add] at HC
        go_upto_region 7 with (go_at_call 11; go_loud (refine HC.mono ?_); rintro e w' ⟨rfl, rfl⟩)
        go_wp2_with fail
        go_roundw
        case rel => exact ⟨k + r, j + 1, by omega, by omega, rfl, by go_num, by go_num⟩
        case measure => simp [intOf]; omega
      · obtain rfl : k = n := by omega
        have HS1 := Sum_any p k cap xs w (by omega) HR.out
        have HW := wakes_any w
        by_cases hc : k < cap
        · obtain ⟨b, off, rfl, hb, -⟩ := HR.out.mem (by omega)
          have HC := More_any (sumF (xs.take k)) (some ⟨b, off + k, none⟩) 0 (cap - k) [] w (by omega) ⟨rfl, Nat.zero_le _, (by intro h; cases h), fun _ => ⟨b, off + k, rfl, hb, fun j hj => by omega⟩⟩
          rw [moreF_nil, List.take_of_length_le (by omega)] at HC
          rw [List.take_of_length_le (by omega)]
          generalize sumF xs = X at *
          go_wp2_with fail
          refine HC.mono ?_
          clear HC
          rintro e w' ⟨rfl, rfl⟩
          go_wp2_with fail
          refine HS1.mono ?_
          clear HS1
          rintro e w' ⟨rfl, rfl⟩
          go_wp2_with fail
          refine HS.mono ?_
          clear HS
          rintro e w' ⟨rfl, rfl⟩
          go_wp2_with fail
          refine HW.mono ?_
          clear HW
          rintro e w9 ⟨rfl, hb9⟩
          go_wp2_with fail
          go_ret
          exact ⟨rfl, hb9⟩
        · obtain rfl : cap = k := by omega
          have HC := fun ao => More_any (sumF xs) ao 0 0 [] w (by omega) ⟨rfl, Nat.le_refl _, fun _ => rfl, fun h => by omega⟩
          rw [moreF_nil] at HC
          rw [List.take_of_length_le (by omega)]
          generalize sumF xs = X at *
          cases p with
          | none =>
            replace HC := HC none
            go_wp2_with fail
            refine HC.mono ?_
            clear HC
            rintro e w' ⟨rfl, rfl⟩
            go_wp2_with fail
            refine HS1.mono ?_
            clear HS1
            rintro e w' ⟨rfl, rfl⟩
            go_wp2_with fail
            refine HS.mono ?_
            clear HS
            rintro e w' ⟨rfl, rfl⟩
            go_wp2_with fail
            refine HW.mono ?_
            clear HW
            rintro e w9 ⟨rfl, hb9⟩
            go_wp2_with fail
            go_ret
            exact ⟨rfl, hb9⟩
          | some ad =>
            replace HC := HC (some ad)
            go_wp2_with fail
            refine HC.mono ?_
            clear HC
            rintro e w' ⟨rfl, rfl⟩
            go_wp2_with fail
            refine HS1.mono ?_
            clear HS1
            rintro e w' ⟨rfl, rfl⟩
            go_wp2_with fail
            refine HS.mono ?_
            clear HS
            rintro e w' ⟨rfl, rfl⟩
            go_wp2_with fail
            refine HW.mono ?_
            clear HW
            rintro e w9 ⟨rfl, hb9⟩
            go_wp2_with fail
            go_ret
            exact ⟨rfl, hb9⟩
    · obtain rfl : j = m := by omega
      have HS1 := Sum_any p n cap xs w (by omega) HR.out
      have HW := wakes_any w
      by_cases hc : k < cap
      · obtain ⟨b, off, rfl, hb, -⟩ := HR.out.mem (by omega)
        have HC := More_any (sumF (xs.take k)) (some ⟨b, off + k, none⟩) (n - k) (cap - k) (xs.drop k) w (by omega) (RdS.drop ⟨HR.out, fun ad e => by cases e; exact ⟨rfl, hb⟩⟩ k (by omega)).toRd
        rw [moreF_sum, List.take_append_drop] at HC
        generalize sumF xs = X at *
        go_wp2_with fail
        refine HC.mono ?_
        clear HC
        rintro e w' ⟨rfl, rfl⟩
        go_wp2_with fail
        refine HS1.mono ?_
        clear HS1
        rintro e w' ⟨rfl, rfl⟩
        go_wp2_with fail
        refine HS.mono ?_
        clear HS
        rintro e w' ⟨rfl, rfl⟩
        go_wp2_with fail
        refine HW.mono ?_
        clear HW
        rintro e w9 ⟨rfl, hb9⟩
        go_wp2_with fail
        go_ret
        exact ⟨rfl, hb9⟩
      · obtain rfl : cap = k := by omega
        obtain rfl : n = cap := by omega
        have HC := fun ao => More_any (sumF xs) ao 0 0 [] w (by omega) ⟨rfl, Nat.le_refl _, fun _ => rfl, fun h => by omega⟩
        rw [moreF_nil] at HC
        rw [List.take_of_length_le (by omega)]
        generalize sumF xs = X at *
        cases p with
        | none =>
          replace HC := HC none
          go_wp2_with fail
          refine HC.mono ?_
          clear HC
          rintro e w' ⟨rfl, rfl⟩
          go_wp2_with fail
          refine HS1.mono ?_
          clear HS1
          rintro e w' ⟨rfl, rfl⟩
          go_wp2_with fail
          refine HS.mono ?_
          clear HS
          rintro e w' ⟨rfl, rfl⟩
          go_wp2_with fail
          refine HW.mono ?_
          clear HW
          rintro e w9 ⟨rfl, hb9⟩
          go_wp2_with fail
          go_ret
          exact ⟨rfl, hb9⟩
        | some ad =>
          replace HC := HC (some ad)
          go_wp2_with fail
          refine HC.mono ?_
          clear HC
          rintro e w' ⟨rfl, rfl⟩
          go_wp2_with fail
          refine HS1.mono ?_
          clear HS1
          rintro e w' ⟨rfl, rfl⟩
          go_wp2_with fail
          refine HS.mono ?_
          clear HS
          rintro e w' ⟨rfl, rfl⟩
          go_wp2_with fail
          refine HW.mono ?_
          clear HW
          rintro e w9 ⟨rfl, hb9⟩
          go_wp2_with fail
          go_ret
          exact ⟨rfl, hb9⟩
end Go.Proofs.Ytocehaflgpljfaa
