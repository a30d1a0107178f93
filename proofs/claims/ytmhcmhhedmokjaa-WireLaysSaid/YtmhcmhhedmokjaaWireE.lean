/-
  Readers: the document's Vec: its contract. Conditions: those in the statement.
-/
import Derived.Test.YtmhcmhhedmokjaaWireD
namespace Go.Proofs.Ytmhcmhhedmokjaa
open Go.RowKit

set_option maxHeartbeats 1600000 in
theorem refRVec_any (q : Option Nat) (r : Nat) (xs : List UInt8) (size : Int) (w : World) (hm : xs.length ≤ 140737488355328) (h : Rdr w 51 [] q r xs) :
    Calls Try.prog 16 #[.pointer (some ⟨r, 0, none⟩), .int .i64 size] w (RRes w 51 [] q r (rvecF xs size)) := by
  have hrdr := h
  obtain ⟨hne, hlt, a, n, cap, hg, hrd, hb⟩ := h
  have c1 : w.cell? ⟨r, 0, none⟩ = some (.slice a n cap) := Rdr.cell hg
  have hl := hrd.len
  subst hl
  cases hs : vecB size with
  | false =>
    have e0 : rvecF xs size = ([], 1, xs) := by simp [rvecF, hs]
    rw [e0]
    clear e0
    have h1 : (size != 1) = true := by simp [vecB] at hs; simp; omega
    have h2 : (size != 2) = true := by simp [vecB] at hs; simp; omega
    have h3 : (size != 3) = true := by simp [vecB] at hs; simp; omega
    have HR := Lib.hid hrdr
    clear hs hrd hrdr hg hb
    go_enter Try.func16, Try.ntmps16
    go_wp2
    go_ret2
    exact ⟨_, rfl, Own.nil _ _ _, HR.out, World.grownBy.refl _ _⟩
  | true =>
    obtain ⟨m, rfl, hk1, hk8⟩ := vec_of size hs
    have HM : Hid (((m : Int) != 1) = false ∨ (((m : Int) != 1) = true ∧ ((m : Int) != 2) = false) ∨ (((m : Int) != 1) = true ∧ ((m : Int) != 2) = true ∧ ((m : Int) != 3) = false)) := by
      show _ ∨ _
      have : m = 1 ∨ m = 2 ∨ m = 3 := by omega
      rcases this with rfl | rfl | rfl <;> decide
    by_cases hk2 : xs.length < m
    · have e0 : rvecF xs m = ([], 4, xs) := by simp [rvecF, hs, hk2]
      rw [e0]
      clear e0
      have HR := Lib.hid hrdr
      clear hs hrd hrdr hg hb
      rcases HM.out with h1 | ⟨h1, h2⟩ | ⟨h1, h2, h3⟩
      all_goals
        go_enter Try.func16, Try.ntmps16
        go_wp2
        go_ret2
        exact ⟨_, rfl, Own.nil _ _ _, HR.out, World.grownBy.refl _ _⟩
    · have hcap := hrd.le
      have hmx : m ≤ xs.length := by omega
      have hbn := be_vec xs m hk8
      have HE : Hid (rvecF xs m = if xs.length < m + beNat (xs.take m) then ([], 4, xs) else ((xs.drop m).take (beNat (xs.take m)), 0, xs.drop (m + beNat (xs.take m)))) := by
        show _ = _
        simp [rvecF, hs, hk2]
      have hf1 : w.frozen? ⟨r, 0, none⟩ = false := frozen_of_row w r 0 _ _ hg
      cases a with
      | none =>
        have := hrd.nil rfl
        omega
      | some ad =>
        obtain ⟨b, off, sp⟩ := ad
        obtain ⟨hsp, hbl, hcc⟩ := hrd.adr _ rfl
        simp only at hsp hbl hcc
        subst hsp
        have HC := Lib.hid hcc
        have HQ : Hid (q = some b) := hb _ rfl
        obtain ⟨nb, HN⟩ : ∃ nb, Hid (beNat (xs.take m) = nb) := ⟨_, rfl⟩
        rw [HN.out] at hbn HE
        clear hb hcc hs
        by_cases hk3 : xs.length < m + nb
        · have H0 : Hid (rvecF xs m = ([], 4, xs)) := by show _ = _; rw [HE.out, if_pos hk3]
          have HR := Lib.hid hrdr
          clear HE hrd hrdr
          rcases HM.out with h1 | ⟨h1, h2⟩ | ⟨h1, h2, h3⟩
          all_goals
            clear HM
            go_enter Try.func16, Try.ntmps16
            go_wp2
            go_loop [6, 7] (fun t i => ∃ k : Nat, k ≤ m ∧ i = .int .i64 k ∧ t = .int .i64 (beNat (xs.take k))) (fun _ i => m - (intOf i).toNat)
            case atStart => exact ⟨0, Nat.zero_le _, rfl, rfl⟩
            case round =>
              obtain ⟨k, hk, rfl, rfl⟩ := hrel
              by_cases hlt2 : k < m
              · have hcell := HC.out k (by omega)
                have Hs := be_step xs k (by omega)
                have hbe := be_vec xs k (by omega)
                have hx : xs.getD k 0 = xs[k]'(by omega) := by simp [List.getD]; rw [List.getElem?_eq_getElem (by omega)]; rfl
                rw [hx] at hcell
                have hb8 := (xs[k]'(by omega)).toNat_lt
                clear hx
                generalize (xs[k]'(by omega)).toNat = y at *
                go_wp2
                go_round
                case rel => exact ⟨k + 1, by omega, by go_num, by rw [Hs.out]; go_num⟩
                case measure => simp [intOf]; omega
              · obtain rfl : k = m := by omega
                clear hlt2
                rw [HN.out]
                go_wp2
                go_ret2
                rw [H0.out]
                exact ⟨_, rfl, Own.nil _ _ _, HR.out, World.grownBy.refl _ _⟩
        · have H0 : Hid (rvecF xs m = ((xs.drop m).take nb, 0, xs.drop (m + nb))) := by show _ = _; rw [HE.out, if_neg hk3]
          have HG := Lib.hid hg
          clear HE hrdr hg
          by_cases hcm : cap = m
          · obtain rfl : nb = 0 := by omega
            subst hcm
            have hxm : xs.length = cap := by omega
            have hrd2 : RdS w (some ⟨b, off, none⟩) 0 0 (xs.drop (cap + 0)) := by
              have h := hrd
              rw [hxm] at h
              exact h.last
            have H4 := own_any (some ⟨b, off, none⟩) 0 0 ((xs.drop cap).take 0) w (by omega) (RdS.toRd (by simpa using hrd2.take 0 (Nat.le_refl _)))
            have HD := Lib.hid hrd2
            have HX := Lib.hid hxm
            clear hrd hrd2 hxm
            rcases HM.out with h1 | ⟨h1, h2⟩ | ⟨h1, h2, h3⟩
            all_goals
              clear HM
              go_enter Try.func16, Try.ntmps16
              go_wp2
              go_loop [6, 7] (fun t i => ∃ k : Nat, k ≤ cap ∧ i = .int .i64 k ∧ t = .int .i64 (beNat (xs.take k))) (fun _ i => cap - (intOf i).toNat)
              case atStart => exact ⟨0, Nat.zero_le _, rfl, rfl⟩
              case round =>
                obtain ⟨k, hk, rfl, rfl⟩ := hrel
                by_cases hlt2 : k < cap
                · have hcell := HC.out k (by omega)
                  have Hs := be_step xs k (by omega)
                  have hbe := be_vec xs k (by omega)
                  have hx : xs.getD k 0 = xs[k]'(by omega) := by simp [List.getD]; rw [List.getElem?_eq_getElem (by omega)]; rfl
                  rw [hx] at hcell
                  have hb8 := (xs[k]'(by omega)).toNat_lt
                  clear hx
                  generalize (xs[k]'(by omega)).toNat = y at *
                  go_wp2
                  go_round
                  case rel => exact ⟨k + 1, by omega, by go_num, by rw [Hs.out]; go_num⟩
                  case measure => simp [intOf]; omega
                · obtain rfl : k = cap := by omega
                  clear hlt2
                  rw [HN.out]
                  go_wp2_with fail
                  refine H4.mono ?_
                  rintro e w1 ⟨v, rfl, ho, hb1⟩
                  have c1' := (hb1.cell (p := ⟨r, 0, none⟩) hlt).trans c1
                  have hf1' : w1.frozen? ⟨r, 0, none⟩ = false := frozen_of_row w1 r 0 _ _ ((hb1.block r hlt).trans HG.out)
                  have fin := Rdr.store (T := 51) (hd := []) hb1 HG.out hlt hne HD.out (by intro ad e; cases e; exact HQ.out)
                  have HF := Lib.hid fin
                  clear fin
                  go_wp2
                  go_ret2
                  rw [H0.out]
                  exact ⟨_, rfl, ho.store_old hlt, HF.out.1, HF.out.2⟩
          · have hdr := hrd.drop m hmx
            have hfr := hdr.take nb (by omega)
            have H4 := own_any (some ⟨b, off + m, none⟩) nb (cap - m) ((xs.drop m).take nb) w (by omega) hfr.toRd
            by_cases hcm2 : cap = m + nb
            · have hxm : xs.length = m + nb := by omega
              have hrd2 : RdS w (some ⟨b, off, none⟩) 0 0 (xs.drop (m + nb)) := by
                have h := hrd
                rw [hxm, hcm2] at h
                exact h.last
              have HD := Lib.hid hrd2
              have HX := Lib.hid hxm
              clear hrd hrd2 hxm hdr hfr
              subst hcm2
              rw [Nat.add_sub_cancel_left] at H4
              rcases HM.out with h1 | ⟨h1, h2⟩ | ⟨h1, h2, h3⟩
              all_goals
                clear HM
                go_enter Try.func16, Try.ntmps16
                go_wp2
                go_loop [6, 7] (fun t i => ∃ k : Nat, k ≤ m ∧ i = .int .i64 k ∧ t = .int .i64 (beNat (xs.take k))) (fun _ i => m - (intOf i).toNat)
                case atStart => exact ⟨0, Nat.zero_le _, rfl, rfl⟩
                case round =>
                  obtain ⟨k, hk, rfl, rfl⟩ := hrel
                  by_cases hlt2 : k < m
                  · have hcell := HC.out k (by omega)
                    have Hs := be_step xs k (by omega)
                    have hbe := be_vec xs k (by omega)
                    have hx : xs.getD k 0 = xs[k]'(by omega) := by simp [List.getD]; rw [List.getElem?_eq_getElem (by omega)]; rfl
                    rw [hx] at hcell
                    have hb8 := (xs[k]'(by omega)).toNat_lt
                    clear hx
                    generalize (xs[k]'(by omega)).toNat = y at *
                    go_wp2
                    go_round
                    case rel => exact ⟨k + 1, by omega, by go_num, by rw [Hs.out]; go_num⟩
                    case measure => simp [intOf]; omega
                  · obtain rfl : k = m := by omega
                    clear hlt2
                    rw [HN.out]
                    go_wp2_with fail
                    refine H4.mono ?_
                    rintro e w1 ⟨v, rfl, ho, hb1⟩
                    have c1' := (hb1.cell (p := ⟨r, 0, none⟩) hlt).trans c1
                    have hf1' : w1.frozen? ⟨r, 0, none⟩ = false := frozen_of_row w1 r 0 _ _ ((hb1.block r hlt).trans HG.out)
                    have fin := Rdr.store (T := 51) (hd := []) hb1 HG.out hlt hne HD.out (by intro ad e; cases e; exact HQ.out)
                    have HF := Lib.hid fin
                    clear fin
                    go_wp2
                    go_ret2
                    rw [H0.out]
                    exact ⟨_, rfl, ho.store_old hlt, HF.out.1, HF.out.2⟩
            · have hrd2 := hrd.drop (m + nb) (by omega)
              have HD := Lib.hid hrd2
              clear hrd hrd2 hdr hfr
              rcases HM.out with h1 | ⟨h1, h2⟩ | ⟨h1, h2, h3⟩
              all_goals
                clear HM
                go_enter Try.func16, Try.ntmps16
                go_wp2
                go_loop [6, 7] (fun t i => ∃ k : Nat, k ≤ m ∧ i = .int .i64 k ∧ t = .int .i64 (beNat (xs.take k))) (fun _ i => m - (intOf i).toNat)
                case atStart => exact ⟨0, Nat.zero_le _, rfl, rfl⟩
                case round =>
                  obtain ⟨k, hk, rfl, rfl⟩ := hrel
                  by_cases hlt2 : k < m
                  · have hcell := HC.out k (by omega)
                    have Hs := be_step xs k (by omega)
                    have hbe := be_vec xs k (by omega)
                    have hx : xs.getD k 0 = xs[k]'(by omega) := by simp [List.getD]; rw [List.getElem?_eq_getElem (by omega)]; rfl
                    rw [hx] at hcell
                    have hb8 := (xs[k]'(by omega)).toNat_lt
                    clear hx
                    generalize (xs[k]'(by omega)).toNat = y at *
                    go_wp2
                    go_round
                    case rel => exact ⟨k + 1, by omega, by go_num, by rw [Hs.out]; go_num⟩
                    case measure => simp [intOf]; omega
                  · obtain rfl : k = m := by omega
                    clear hlt2
                    rw [HN.out]
                    go_wp2_with fail
                    refine H4.mono ?_
                    rintro e w1 ⟨v, rfl, ho, hb1⟩
                    have c1' := (hb1.cell (p := ⟨r, 0, none⟩) hlt).trans c1
                    have hf1' : w1.frozen? ⟨r, 0, none⟩ = false := frozen_of_row w1 r 0 _ _ ((hb1.block r hlt).trans HG.out)
                    have fin := Rdr.store (T := 51) (hd := []) hb1 HG.out hlt hne HD.out (by intro ad e; cases e; exact HQ.out)
                    have HF := Lib.hid fin
                    clear fin
                    go_wp2
                    go_ret2
                    rw [H0.out]
                    exact ⟨_, rfl, ho.store_old hlt, HF.out.1, HF.out.2⟩
end Go.Proofs.Ytmhcmhhedmokjaa
