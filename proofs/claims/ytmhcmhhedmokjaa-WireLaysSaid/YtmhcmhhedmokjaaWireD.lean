/-
  Readers: the document's Num, both Vec: contracts. Conditions: those in each statement.
-/
import Derived.Test.YtmhcmhhedmokjaaWireC
namespace Go.Proofs.Ytmhcmhhedmokjaa
open Go.RowKit

theorem be_step (xs : List UInt8) (k : Nat) (h : k < xs.length) : Hid (beNat (xs.take (k + 1)) = 256 * beNat (xs.take k) + (xs[k]).toNat) := by
  show _ = _
  rw [take_succ_getD xs k h]
  exact beNat_snoc _ _
theorem be_bound (xs : List UInt8) (k : Nat) (h : k ≤ 7) : beNat (xs.take k) ≤ 72057594037927935 := by
  have hbe := beNat_lt (xs.take k)
  have hp : 256 ^ (xs.take k).length ≤ 256 ^ 7 := Nat.pow_le_pow_right (by omega) (by simp; omega)
  omega

theorem refRNum_any (q : Option Nat) (r : Nat) (xs : List UInt8) (size : Int) (w : World) (h : Rdr w 51 [] q r xs) :
    Calls Try.prog 14 #[.pointer (some ⟨r, 0, none⟩), .int .i64 size] w (NRes w 51 [] q r (rnumF xs size)) := by
  have hrdr := h
  obtain ⟨hne, hlt, a, n, cap, hg, hrd, hb⟩ := h
  have c1 : w.cell? ⟨r, 0, none⟩ = some (.slice a n cap) := Rdr.cell hg
  have hl := hrd.len
  subst hl
  cases hs : sizeB size with
  | false =>
    have e0 : rnumF xs size = (0, 1, xs) := by simp [rnumF, hs]
    rw [e0]
    clear e0
    have H2 := sized_any size w
    rw [hs] at H2
    go_enter Try.func14, Try.ntmps14
    go_wp2_with (go_at_call 23; refine H2.mono ?_; rintro e w1 ⟨rfl, rfl⟩)
    go_ret2
    exact ⟨rfl, hrdr, World.grownBy.refl _ _⟩
  | true =>
    obtain ⟨m, rfl, hk1, hk8⟩ := size_of size hs
    have H2 := sized_any m w
    rw [hs] at H2
    by_cases hk2 : xs.length < m
    · have e0 : rnumF xs m = (0, 4, xs) := by simp [rnumF, hs, hk2]
      rw [e0]
      clear e0
      go_enter Try.func14, Try.ntmps14
      go_wp2_with (go_at_call 23; refine H2.mono ?_; rintro e w1 ⟨rfl, rfl⟩)
      go_ret2
      exact ⟨rfl, hrdr, World.grownBy.refl _ _⟩
    · have e0 : rnumF xs m = (beNat (xs.take m), 0, xs.drop m) := by simp [rnumF, hs, hk2]
      have H0 := Lib.hid e0
      clear e0
      have hcap := hrd.le
      have hmx : m ≤ xs.length := by omega
      have hf1 : w.frozen? ⟨r, 0, none⟩ = false := frozen_of_row w r 0 _ _ hg
      have hb1 : Below w.heap.size w w := Below.refl _ _
      have HB := Lib.hid hb
      clear hb hrdr
      cases a with
      | none =>
        have := hrd.nil rfl
        omega
      | some ad =>
        obtain ⟨b, off, sp⟩ := ad
        obtain ⟨hsp, -⟩ := hrd.adr _ rfl
        simp only at hsp
        subst hsp
        have HQ : Hid (q = some b) := HB.out _ rfl
        by_cases hcm : cap = m
        · have hxm : xs.length = m := by omega
          have hrd2 : RdS w (some ⟨b, off, none⟩) 0 0 (xs.drop m) := by
            have h := hrd
            rw [hxm, hcm] at h
            exact h.last
          have fin := fun (w1 : World) (hb1 : Below w.heap.size w w1) => Rdr.store (T := 51) (hd := []) hb1 hg hlt hne hrd2 (by intro ad e; cases e; exact HQ.out)
          have hcc := (hrd.adr _ rfl).2.2
          go_enter Try.func14, Try.ntmps14
          go_wp2_with (go_at_call 23; refine H2.mono ?_; rintro e w1 ⟨rfl, rfl⟩)
          go_loop [6, 7] (fun t i => ∃ k : Nat, k ≤ m ∧ i = .int .i64 k ∧ t = .int .u64 (beNat (xs.take k))) (fun _ i => m - (intOf i).toNat)
          case atStart => exact ⟨0, Nat.zero_le _, rfl, rfl⟩
          case round =>
            obtain ⟨k, hk, rfl, rfl⟩ := hrel
            by_cases hlt2 : k < m
            · have hcell := hcc k (by omega)
              have Hs := be_step xs k (by omega)
              have hbe := be_bound xs k (by omega)
              have hx : xs.getD k 0 = xs[k]'(by omega) := by simp [List.getD]; rw [List.getElem?_eq_getElem (by omega)]; rfl
              rw [hx] at hcell
              have hb8 := (xs[k]'(by omega)).toNat_lt
              clear hx fin hcc
              generalize (xs[k]'(by omega)).toNat = y at *
              go_wp2
              go_round
              case rel => exact ⟨k + 1, by omega, by go_num, by rw [Hs.out]; go_num⟩
              case measure => simp [intOf]; omega
            · obtain rfl : k = m := by omega
              clear hlt2
              have fin1 := fin w hb1
              clear fin
              go_wp2
              go_ret2
              rw [H0.out]
              exact ⟨rfl, fin1.1, fin1.2⟩
        · have fin := fun (w1 : World) (hb1 : Below w.heap.size w w1) => Rdr.store (T := 51) (hd := []) hb1 hg hlt hne (hrd.drop m hmx) (by intro ad e; cases e; exact HQ.out)
          have hcc := (hrd.adr _ rfl).2.2
          go_enter Try.func14, Try.ntmps14
          go_wp2_with (go_at_call 23; refine H2.mono ?_; rintro e w1 ⟨rfl, rfl⟩)
          go_loop [6, 7] (fun t i => ∃ k : Nat, k ≤ m ∧ i = .int .i64 k ∧ t = .int .u64 (beNat (xs.take k))) (fun _ i => m - (intOf i).toNat)
          case atStart => exact ⟨0, Nat.zero_le _, rfl, rfl⟩
          case round =>
            obtain ⟨k, hk, rfl, rfl⟩ := hrel
            by_cases hlt2 : k < m
            · have hcell := hcc k (by omega)
              have Hs := be_step xs k (by omega)
              have hbe := be_bound xs k (by omega)
              have hx : xs.getD k 0 = xs[k]'(by omega) := by simp [List.getD]; rw [List.getElem?_eq_getElem (by omega)]; rfl
              rw [hx] at hcell
              have hb8 := (xs[k]'(by omega)).toNat_lt
              clear hx fin hcc
              generalize (xs[k]'(by omega)).toNat = y at *
              go_wp2
              go_round
              case rel => exact ⟨k + 1, by omega, by go_num, by rw [Hs.out]; go_num⟩
              case measure => simp [intOf]; omega
            · obtain rfl : k = m := by omega
              clear hlt2
              have fin1 := fin w hb1
              clear fin
              go_wp2
              go_ret2
              rw [H0.out]
              exact ⟨rfl, fin1.1, fin1.2⟩

/-- a vector's bytes, an error's number, and what is left -/
def rvecF (xs : List UInt8) (size : Int) : List UInt8 × Int × List UInt8 :=
  if vecB size = true then (if (xs.length : Int) < size then ([], 4, xs) else
    if xs.length < size.toNat + beNat (xs.take size.toNat) then ([], 4, xs) else ((xs.drop size.toNat).take (beNat (xs.take size.toNat)), 0, xs.drop (size.toNat + beNat (xs.take size.toNat)))) else ([], 1, xs)

theorem vec_of (size : Int) (h : vecB size = true) : ∃ k : Nat, size = k ∧ 1 ≤ k ∧ k ≤ 3 := by
  simp [vecB] at h
  exact ⟨size.toNat, by omega, by omega, by omega⟩
theorem be_vec (xs : List UInt8) (k : Nat) (h : k ≤ 3) : beNat (xs.take k) ≤ 16777215 := by
  have hbe := beNat_lt (xs.take k)
  have hp : 256 ^ (xs.take k).length ≤ 256 ^ 3 := Nat.pow_le_pow_right (by omega) (by simp; omega)
  omega

theorem RdS.grown {w w' : World} {a : Option Addr} {n cap : Nat} {xs : List UInt8} {r : Nat} (h : RdS w a n cap xs) (hb : w.grownBy w' (some r)) (hr : ∀ ad, a = some ad → ad.block ≠ r) : RdS w' a n cap xs := by
  refine RdS.mk' h.len h.le h.nil fun ad e => ?_
  obtain ⟨h1, h2, h3⟩ := h.adr ad e
  exact ⟨h1, Nat.lt_of_lt_of_le h2 hb.size, fun j hj => hb.cell (h3 j hj) (by simpa using hr ad e)⟩
theorem grown_then {w w' w'' : World} {row : Option Nat} (h : w.grownBy w' row) (hb : Below w'.heap.size w' w'') : w.grownBy w'' row :=
  ⟨hb.os.trans h.os, hb.tape.trans h.tape, hb.output.trans h.output, Nat.le_trans h.size hb.size, fun k hk hkr => (hb.block k (Nat.lt_of_lt_of_le hk h.size)).trans (h.block k hk hkr)⟩

set_option maxHeartbeats 800000 in
theorem RVec_any (q : Option Nat) (r : Nat) (xs : List UInt8) (size : Int) (w : World) (hm : xs.length ≤ 140737488355328) (h : Rdr w 58 [.bool true] q r xs) :
    Calls Try.prog 15 #[.pointer (some ⟨r, 0, none⟩), .int .i64 size] w (RRes w 58 [.bool true] q r (rvecF xs size)) := by
  have hrdr := h
  obtain ⟨hne, hlt, a, n, cap, hg, hrd, hb⟩ := h
  have c0 : w.cell? ⟨r, 0, none⟩ = some (.bool true) := by rw [cell_of_row w r _ _ 58 (0, 0) hg]; simp
  have c1 : w.cell? ⟨r, 1, none⟩ = some (.slice a n cap) := Rdr.cell hg
  have H := is_any r w c0
  have hl := hrd.len
  subst hl
  cases hs : vecB size with
  | false =>
    have e0 : rvecF xs size = ([], 1, xs) := by simp [rvecF, hs]
    rw [e0]
    clear e0
    have H2 := isVec_any size w
    rw [hs] at H2
    go_enter Try.func15, Try.ntmps15
    go_wp2_with (first | (go_at_call 27; refine H.mono ?_; rintro e w1 ⟨rfl, rfl⟩) | (go_at_call 25; refine H2.mono ?_; rintro e w1 ⟨rfl, rfl⟩))
    go_ret2
    exact ⟨_, rfl, Own.nil _ _ _, hrdr, World.grownBy.refl _ _⟩
  | true =>
    obtain ⟨m, rfl, hk1, hk8⟩ := vec_of size hs
    have H2 := isVec_any m w
    rw [hs] at H2
    by_cases hk2 : xs.length < m
    · have e0 : rvecF xs m = ([], 4, xs) := by simp [rvecF, hs, hk2]
      rw [e0]
      clear e0
      go_enter Try.func15, Try.ntmps15
      go_wp2_with (first | (go_at_call 27; refine H.mono ?_; rintro e w1 ⟨rfl, rfl⟩) | (go_at_call 25; refine H2.mono ?_; rintro e w1 ⟨rfl, rfl⟩))
      go_ret2
      exact ⟨_, rfl, Own.nil _ _ _, hrdr, World.grownBy.refl _ _⟩
    · have hcap := hrd.le
      have hmx : m ≤ xs.length := by omega
      have H3 := number_any a xs.length cap m xs w (by omega) hmx (by omega) hrd
      have hbn := be_vec xs m hk8
      have HE : Hid (rvecF xs m = if xs.length < m + beNat (xs.take m) then ([], 4, xs) else ((xs.drop m).take (beNat (xs.take m)), 0, xs.drop (m + beNat (xs.take m)))) := by
        show _ = _
        simp [rvecF, hs, hk2]
      have hf1 : w.frozen? ⟨r, 1, none⟩ = false := frozen_of_row w r 1 _ _ hg
      generalize beNat (xs.take m) = nb at *
      cases a with
      | none =>
        have := hrd.nil rfl
        omega
      | some ad =>
        obtain ⟨b, off, sp⟩ := ad
        obtain ⟨hsp, -⟩ := hrd.adr _ rfl
        simp only at hsp
        subst hsp
        have HQ : Hid (q = some b) := hb _ rfl
        clear hb
        by_cases hk3 : xs.length < m + nb
        · have H0 : Hid (rvecF xs m = ([], 4, xs)) := by show _ = _; rw [HE.out, if_pos hk3]
          clear HE
          have HR := Lib.hid hrdr
          clear hrd hrdr
          rcases Decidable.em (cap = m) with rfl | hcm
          all_goals
            go_enter Try.func15, Try.ntmps15
            go_wp2_with fail
            refine H.mono ?_; rintro e w1 ⟨rfl, rfl⟩
            go_wp2_with fail
            refine H2.mono ?_; rintro e w1 ⟨rfl, rfl⟩
            go_wp2_with fail
            refine H3.mono ?_; rintro e w1 ⟨rfl, rfl⟩
            go_wp2_with fail
            go_ret2
            rw [H0.out]
            exact ⟨_, rfl, Own.nil _ _ _, HR.out, World.grownBy.refl _ _⟩
        · have H0 : Hid (rvecF xs m = ((xs.drop m).take nb, 0, xs.drop (m + nb))) := by show _ = _; rw [HE.out, if_neg hk3]
          clear HE hrdr
          by_cases hcm : cap = m
          · have hxm : xs.length = m := by omega
            have hn0 : nb = 0 := by omega
            subst hn0
            have hrd2 : RdS w (some ⟨b, off, none⟩) 0 0 (xs.drop m) := by
              have h := hrd
              rw [hxm, hcm] at h
              exact h.last
            have HL : Hid (∀ k, q = some k → k < w.heap.size) := by
              intro k hk
              rw [HQ.out] at hk
              cases hk
              exact (hrd.adr _ rfl).2.1
            have H4 := fun w' (hb : w.grownBy w' (some r)) => fresh_any (some ⟨b, off, none⟩) 0 0 ((xs.drop m).take 0) w' (by omega) ((by simpa using hrd2.take 0 (Nat.le_refl _) : RdS w (some ⟨b, off, none⟩) 0 0 ((xs.drop m).take 0)).grown hb (by intro ad e; cases e; intro e; exact hne (by rw [HQ.out]; exact congrArg some e))).toRd
            have fin := Rdr.store (T := 58) (hd := [.bool true]) (Below.refl _ _) hg hlt hne hrd2 (by intro ad e; cases e; exact HQ.out)
            have HF := Lib.hid fin
            clear hrd hrd2 fin
            have HX := Lib.hid hxm
            clear hxm
            subst hcm
            go_enter Try.func15, Try.ntmps15
            go_wp2_with fail
            refine H.mono ?_; rintro e w1 ⟨rfl, rfl⟩
            go_wp2_with fail
            refine H2.mono ?_; rintro e w1 ⟨rfl, rfl⟩
            go_wp2_with fail
            refine H3.mono ?_; rintro e w1 ⟨rfl, rfl⟩
            go_wp2_with fail
            refine (H4 _ HF.out.2).mono ?_
            rintro e w1 ⟨v, rfl, ho, hv, hb1⟩
            clear hv
            go_wp2
            go_ret2
            rw [H0.out]
            exact ⟨_, rfl, ho.mono (Nat.le_of_eq (by simp)), HF.out.1.kept hb1.size (fun k hk => hb1.block k (by simp; exact HL.out k hk)) (hb1.block r (by simpa using hlt)), grown_then HF.out.2 hb1⟩
          · have hdr := hrd.drop m hmx
            have HL : Hid (∀ k, q = some k → k < w.heap.size) := by
              intro k hk
              rw [HQ.out] at hk
              cases hk
              exact (hrd.adr _ rfl).2.1
            have hfr := hdr.take nb (by omega)
            have H4 := fun w' (hb : w.grownBy w' (some r)) => fresh_any (some ⟨b, off + m, none⟩) nb (cap - m) ((xs.drop m).take nb) w' (by omega) (hfr.grown hb (by intro ad e; cases e; intro e; exact hne (by rw [HQ.out]; exact congrArg some e))).toRd
            by_cases hcm2 : cap = m + nb
            · have hxm : xs.length = m + nb := by omega
              have hrd2 : RdS w (some ⟨b, off + m, none⟩) (xs.length - m - nb) 0 (xs.drop (m + nb)) := by
                have h := hdr
                rw [hxm, hcm2, Nat.add_sub_cancel_left] at h
                rw [← List.drop_drop, show xs.length - m - nb = 0 from by omega]
                exact h.last
              have fin := Rdr.store (T := 58) (hd := [.bool true]) (Below.refl _ _) hg hlt hne hrd2 (by intro ad e; cases e; exact HQ.out)
              have HF := Lib.hid fin
              have HX := Lib.hid hxm
              clear hrd hdr hrd2 hfr fin hxm
              subst hcm2
              rw [Nat.add_sub_cancel_left] at H4
              go_enter Try.func15, Try.ntmps15
              go_wp2_with fail
              refine H.mono ?_; rintro e w1 ⟨rfl, rfl⟩
              go_wp2_with fail
              refine H2.mono ?_; rintro e w1 ⟨rfl, rfl⟩
              go_wp2_with fail
              refine H3.mono ?_; rintro e w1 ⟨rfl, rfl⟩
              go_wp2_with fail
              refine (H4 _ HF.out.2).mono ?_
              rintro e w1 ⟨v, rfl, ho, hv, hb1⟩
              clear hv
              go_wp2
              go_ret2
              rw [H0.out]
              exact ⟨_, rfl, ho.mono (Nat.le_of_eq (by simp)), HF.out.1.kept hb1.size (fun k hk => hb1.block k (by simp; exact HL.out k hk)) (hb1.block r (by simpa using hlt)), grown_then HF.out.2 hb1⟩
            · have hrd2 := hdr.drop nb (by omega)
              rw [List.drop_drop] at hrd2
              have fin := Rdr.store (T := 58) (hd := [.bool true]) (Below.refl _ _) hg hlt hne hrd2 (by intro ad e; cases e; exact HQ.out)
              have HF := Lib.hid fin
              clear hrd hdr hrd2 hfr fin
              go_enter Try.func15, Try.ntmps15
              go_wp2_with fail
              refine H.mono ?_; rintro e w1 ⟨rfl, rfl⟩
              go_wp2_with fail
              refine H2.mono ?_; rintro e w1 ⟨rfl, rfl⟩
              go_wp2_with fail
              refine H3.mono ?_; rintro e w1 ⟨rfl, rfl⟩
              go_wp2_with fail
              refine (H4 _ HF.out.2).mono ?_
              rintro e w1 ⟨v, rfl, ho, hv, hb1⟩
              clear hv
              go_wp2
              go_ret2
              rw [H0.out]
              exact ⟨_, rfl, ho.mono (Nat.le_of_eq (by simp)), HF.out.1.kept hb1.size (fun k hk => hb1.block k (by simp; exact HL.out k hk)) (hb1.block r (by simpa using hlt)), grown_then HF.out.2 hb1⟩
end Go.Proofs.Ytmhcmhhedmokjaa
