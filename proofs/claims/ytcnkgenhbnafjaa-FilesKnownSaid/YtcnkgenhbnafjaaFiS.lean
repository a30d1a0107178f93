/-
  The statement that what does not fit is not appended. Conditions: those in each statement.
-/
import Derived.Test.YtcnkgenhbnafjaaFiR
namespace Go.Proofs.Ytcnkgenhbnafjaa
open Go.RowKit

/-- the slice of n byte slices at a reads as B -/
structure RdR (w : World) (a : Option Addr) (n cap : Nat) (B : List (List UInt8)) : Prop where
  len : B.length = n
  le : n ≤ cap
  nil : a = none → cap = 0
  mem : 0 < n → ∃ b off, a = some ⟨b, off, none⟩ ∧ b < w.heap.size ∧ ∀ k, k < n → ∃ ak nk ck, w.cell? ⟨b, off + k, none⟩ = some (.slice ak nk ck) ∧ nk ≤ 140737488352000 ∧ Rd w ak nk ck (B.getD k [])
theorem RdR.to {w w' : World} {a : Option Addr} {n cap : Nat} {B : List (List UInt8)} (h : RdR w a n cap B) (hb : Below w.heap.size w w') : RdR w' a n cap B := by
  refine ⟨h.len, h.le, h.nil, fun h0 => ?_⟩
  obtain ⟨b, off, e, hlt, hc⟩ := h.mem h0
  refine ⟨b, off, e, Nat.lt_of_lt_of_le hlt hb.size, fun k hk => ?_⟩
  obtain ⟨ak, nk, ck, h1, h2, h3⟩ := hc k hk
  exact ⟨ak, nk, ck, (hb.cell (p := ⟨b, off + k, none⟩) hlt).trans h1, h2, h3.to hb⟩
theorem ret_bool {a b : Bool} (h : a = b) : Ending.returned (.bool a) = .returned (.bool b) := by rw [h]
theorem Equal_any (a a' : Option Addr) (n cap n' cap' : Nat) (xs ys : List UInt8) (w : World) (hr : Rd w a n cap xs) (hr' : Rd w a' n' cap' ys) :
    Calls Try.prog 21 #[.slice a n cap, .slice a' n' cap'] w fun e w' => e = .returned (.bool (decide (xs = ys))) ∧ w = w' := by
  have h1 := run_bstr bt Try.underlying9 hr
  have h2 := run_bstr bt Try.underlying9 hr'
  go_enter Try.func21, Try.ntmps21
  go_wp2
  go_ret
  refine ⟨ret_bool ?_, rfl⟩
  rw [Bool.eq_iff_iff]
  simp [bstr_toList]
theorem wl_unguard {P : Program} {ops : Array Oper} {rest : List Oper} {o : Oper} {a : Act} {Q : Exit → Act → World → Prop} {w : World} (hw : Region.wanted o (yielded ops a.tmps) = true)
    (h : wpList P ops Q ({ o with guard := none } :: rest) a w) : wpList P ops Q (o :: rest) a w := by
  unfold wpList at h ⊢
  rw [if_pos hw]
  rw [if_pos (show Region.wanted { o with guard := none } (yielded ops a.tmps) = true from rfl)] at h
  exact h
theorem two_cell (W : World) (b : Bool) (kb : Nat) (h : kb = cond b 1 0) : (W.alloc (.cells #[.string nA, .string nB] 9)).cell? ⟨W.heap.size, kb, none⟩ = some (.string (nm b)) := by
  rw [cell_of_row _ W.heap.size kb _ 9 (0, 0) (heap_alloc_new W _)]
  subst h
  cases b <;> rfl
set_option maxRecDepth 100000 in
set_option maxHeartbeats 800000 in
theorem Full_any (w : World) (qv : Nat) (hqv : qv < 65536) (a3 : Option Addr) (n3 c3 : Nat) (L3 : List (List UInt8)) (hr : RdR w a3 n3 c3 L3) (hn : n3 ≤ 5900000000000) :
    Calls Try.prog 4 #[.int .u16 (qv : Int), .slice a3 n3 c3] w fun e w' => e = .returned (.bool true) ∧ Below w.heap.size w w' := by
  obtain ⟨q, hq⟩ : ∃ q, q = qv % 301 := ⟨_, rfl⟩
  have hq3 : q ≤ 300 := by omega
  have HQ : Hid ((qv : Int) % 301 = (q : Int)) := by show _ = _; rw [hq]; push_cast; rfl
  have HN := New_any q (by omega) w
  have HR := Lib.hid hr
  clear hq hr
  go_enter Try.func4, Try.ntmps4
  go_upto_region 2 with fail
  rw [HQ.out]
  go_upto_region 6 with (first
    | (go_at_call 7; go_loud (refine HN.mono ?_); rintro e w1 ⟨r, m, rfl, hd1, hb1⟩)
    | (go_at_call 6; go_loud (refine (awake_any w1).mono ?_); rintro e w2 ⟨rfl, hb2⟩)
    | (go_at_call 9; (have _g := hd3); go_loud (refine (create2 _ _ r m q hd3).mono ?_); rintro e w4 ⟨rfl, hd4, hb4⟩)
    | (go_at_call 9; go_loud (refine (create1 w2 _ r m q (hd1.to hb2) nA nA_name).mono ?_); rintro e w3 ⟨rfl, hd3, hb3⟩))
  go_upto_region 7 with fail
  have hbase : w.heap.size ≤ w1.heap.size := hb1.size
  have hstart : Two w4 w.heap.size r m (fun _ => []) q := hd4
  have hbw : Below w.heap.size w w4 := ((hb1.trans (hb2.mono hbase)).trans hb3).trans hb4
  have HST := Lib.hid hstart
  have HBW := Lib.hid hbw
  clear HN hd1 hd3 hd4 hb1 hb2 hb3 hb4 hbase hstart hbw HQ
  go_loopw [8, 43] (fun uv i wr => ∃ (k : Nat) (d : Bool → List UInt8) (us : Nat), k ≤ n3 ∧ k ≤ 30 ∧ i = .int .i64 k ∧ uv = .int .i64 (us : Int) ∧ us = (d false).length + (d true).length ∧ us ≤ q ∧ Two wr w.heap.size r m d q ∧ Below w.heap.size w wr) (fun _ i _ => n3 - (intOf i).toNat)
  case atStart => exact ⟨0, fun _ => [], 0, Nat.zero_le _, by omega, rfl, rfl, rfl, Nat.zero_le _, HST.out, HBW.out⟩
  case round =>
    obtain ⟨k, d, us, hk, hk30, rfl, rfl, hus, husq, hT, hB⟩ := hrel
    have HU := Lib.hid hus
    have HT := Lib.hid hT
    have HB := Lib.hid hB
    clear hus hT hB HST HBW
    by_cases hlt : k < n3
    · obtain ⟨b1, o1, rfl, hb1, -⟩ := HR.out.mem (by omega)
      have hRW : RdR wr (some ⟨b1, o1, none⟩) n3 c3 L3 := HR.out.to HB.out
      have hle1 := HR.out.le
      obtain ⟨_, _, e1, -, hc⟩ := hRW.mem (by omega)
      cases e1
      obtain ⟨ak, nk, ck, cs, hnk, hrd⟩ := hc k hlt
      have hcell : ∀ ad, ak = some ad → 0 < nk → ad.block < w.heap.size := fun ad e h0 => by
        obtain ⟨_, _, e1, -, hc⟩ := HR.out.mem (by omega)
        cases e1
        obtain ⟨ak', nk', ck', cs', -, hrd'⟩ := hc k hlt
        have h1 : wr.cell? ⟨b1, o1 + k, none⟩ = w.cell? ⟨b1, o1 + k, none⟩ := HB.out.cell (p := ⟨b1, o1 + k, none⟩) hb1
        rw [cs, cs'] at h1
        injection h1 with h1
        injection h1 with h1 h2 h3
        subst h1 h2 h3
        obtain ⟨b2, o2, e2, hlt2, -⟩ := hrd'.mem (by have := hrd'.le; omega)
        rw [e] at e2
        cases e2
        exact hlt2
      have HC := Lib.hid hcell
      have HRD := Lib.hid hrd
      clear hRW hc hcell hrd
      by_cases h30 : k = 30
      · subst h30
        go_wp2
        go_ret
        exact ⟨rfl, HB.out⟩
      · have h30i : ((k : Int) == 30) = false := by simp; omega
        obtain ⟨b, kb, hkb, hmod⟩ : ∃ (b : Bool) (kb : Nat), kb = cond b 1 0 ∧ k % 2 = kb := by
          by_cases h : k % 2 = 0
          · exact ⟨false, 0, rfl, h⟩
          · exact ⟨true, 1, rfl, by omega⟩
        have hm : (k : Int) % 2 = (kb : Int) := by rw [← hmod]; push_cast; rfl
        have hk2 : kb < 2 := by omega
        have htc := two_cell wr b kb hkb
        clear hmod hkb
        go_upto_region 11 with fail
        have hTa := HT.out.to (below_new wr (.cells #[.string nA, .string nB] 9))
        have hBa : Below w.heap.size w (wr.alloc (.cells #[.string nA, .string nB] 9)) := HB.out.trans ((below_new wr _).mono HB.out.size)
        have hRa := HRD.out.to (below_new wr (.cells #[.string nA, .string nB] 9))
        obtain ⟨wa, hwa⟩ : ∃ wa, wa = wr.alloc (.cells #[.string nA, .string nB] 9) := ⟨_, rfl⟩
        rw [← hwa] at hTa hBa hRa ⊢
        obtain ⟨xs, hxs⟩ : ∃ xs, xs = L3.getD k [] := ⟨_, rfl⟩
        rw [← hxs] at hRa
        clear hwa hxs htc hm cs
        have htot : (d false).length + (d true).length ≤ q := by have := HU.out; omega
        have HTOT := Lib.hid htot
        have hdb : (d b).length ≤ 300 := by cases b <;> omega
        have HDB := Lib.hid hdb
        clear htot hdb
        go_upto_region 12 with (go_at_call 19; go_loud (refine (read2 wa _ r m q b d hTa (by have := HTOT.out; omega)).mono ?_); rintro e w5 ⟨v, rfl, hv5, hb5⟩)
        have HTA := Lib.hid hTa
        have HBA := Lib.hid hb5
        have HWA := Lib.hid hBa
        have hR5 := hRa.to hb5
        have hB5 := hBa.trans (hb5.mono hBa.size)
        have hapart : ∀ ad, ak = some ad → 0 < nk → ∀ j, w.heap.size ≤ j → j < wa.heap.size → ad.block ≠ j := fun ad e h0 j h1 _ => by have := HC.out ad e h0; omega
        have hxl := hR5.len
        have HV5 := Lib.hid hv5
        have HB5 := Lib.hid hB5
        have HR5 := Lib.hid hR5
        have HXL := Lib.hid hxl
        clear hTa hRa hBa hb5 hv5 hB5 hxl
        by_cases hfit : us + nk ≤ q
        · have ha := append2 wa w5 w.heap.size r m q b d HTA.out ak nk ck xs hR5 HBA.out hapart (by omega) (.inr (by have := HU.out; omega)) HTOT.out
          clear hR5 hapart
          go_upto_region 13 with (go_at_call 11; go_loud (refine ha.mono ?_); rintro e w6 ⟨rfl, hT6, hb6, hf6, hw6⟩)
          have hV6 := HV5.out.by' (fun k hk => hf6 k (own_lt HV5.out hk).1 (own_lt HV5.out hk).2)
          have HV6 := Lib.hid hV6
          have HR6 : Hid (Rd w6 ak nk ck xs) := HR5.out.kept hb6.size (fun ad e h0 => hb6.block ad.block (HC.out ad e h0))
          have HB6 := Lib.hid (HB5.out.trans hb6)
          have HW6 := Lib.hid hw6
          have HS6 := Lib.hid hb6.size
          have hpl := put2_len b d xs
          have hpq : (put2 b d xs false).length + (put2 b d xs true).length ≤ q := by have := HU.out; have := HXL.out; omega
          have HPQ := Lib.hid hpq
          clear ha hb6 hf6 hw6 hV6 hpl hpq
          go_upto_region 14 with (go_at_call 19; go_loud (refine (read2 w6 _ r m q b _ hT6 (by have := HPQ.out; omega)).mono ?_); rintro e w7 ⟨v7, rfl, hv7, hb7⟩)
          have c1 : decide ((q : Int) < (us : Int) + (nk : Int)) = false := decide_eq_false (by omega)
          have HV7 := Lib.hid hv7
          have HB7 := Lib.hid hb7
          clear hv7 hb7 hT6
          go_upto_region 20 with fail
          have hx7 : Rd w7 ak nk ck xs := HR6.out.to HB7.out
          have hv8 := HV6.out.to HB7.out
          have hlt8 : ∀ k, v.ownBlock = some k → wa.heap.size ≤ k ∧ k < w5.heap.size := fun k hk => ⟨(own_lt HV5.out hk).1, (own_lt HV5.out hk).2⟩
          have HL8 := Lib.hid hlt8
          have hlen : (d b).length + nk ≤ 140737488355328 := by have := HDB.out; omega
          have hB7 : wa.heap.size ≤ w7.heap.size := by have := HB7.out.size; have := HS6.out; have := HBA.out.size; omega
          have HV8 := Lib.hid hv8
          have HX7 := Lib.hid hx7
          have HLEN := Lib.hid hlen
          have HB7S := Lib.hid hB7
          clear hx7 hv8 hlt8 hlen hB7
          have heq : put2 b d xs b = d b ++ xs := by simp [put2]
          have HEQ := Lib.hid heq
          obtain ⟨x2, y2, e2⟩ := own_slice HV7.out
          obtain ⟨l2, hl2⟩ : ∃ l, l = (put2 b d xs b).length := ⟨_, rfl⟩
          rw [← hl2] at e2
          subst e2
          clear hl2
          have hul : (put2 b d xs false).length + (put2 b d xs true).length = us + nk := by have h1 := put2_len b d xs; have h2 := HU.out; have h3 := HXL.out; omega
          have HUL := Lib.hid hul
          clear heq hul
          go_wp2_with (first
            | ((with_reducible show wpList _ _ _ (⟨some 101, _, _, _, _, _⟩ :: _) _ _); go_loud (refine wl_unguard (by rfl) (wl_app bt rfl _ _ rfl wa.heap.size _ (d b) HV8.out rfl ak nk ck xs rfl HX7.out HLEN.out HB7S.out ?_)); intro v9 w9 ho9 hg9 hk9; obtain ⟨x9, y9, e9⟩ := own_slice ho9; obtain ⟨l9, hl9⟩ : ∃ l, l = (d b ++ xs).length := ⟨_, rfl⟩; rw [← hl9] at e9; subst e9; clear hl9)
            | (go_at_call 21; (have h79 := HV7.out.by' (w' := w9) (fun k hk => hg9.block k (own_lt HV7.out hk).2 (fun e => by have h1 := HL8.out k (by first | exact e | exact e.symm); have h2 := (own_lt HV7.out hk).1; have := HS6.out; omega))); (have he := Equal_any _ _ _ _ _ _ _ _ w9 h79.rd.toRd ho9.rd.toRd); (rw [show decide (put2 b d xs b = d b ++ xs) = true from by simp [put2]] at he); go_loud (refine he.mono ?_); rintro e w10 ⟨rfl, rfl⟩)
            | (go_at_call 32; (have hT9 : Two w9 w.heap.size r m (put2 b d xs) q := HW6.out w9 (fun j hj hor => by rw [hg9.block j (Nat.lt_of_lt_of_le hj HB7.out.size) (fun e => by have h1 := HL8.out j (by first | exact e | exact e.symm); omega), HB7.out.block j hj])); (have hu9 := used2 w9 _ r m q _ hT9); (rw [HUL.out] at hu9); (push_cast at hu9); go_loud (refine hu9.mono ?_); rintro e w11 ⟨rfl, rfl⟩))
          go_roundw
          case rel =>
            refine ⟨k + 1, put2 b d xs, us + nk, by omega, by omega, by go_num, by push_cast; rfl, HUL.out.symm, hfit, hT9, ?_⟩
            exact (HB6.out.trans (HB7.out.mono HB6.out.size)).grown hg9 (Nat.le_trans HB6.out.size HB7.out.size) (fun k hk => by have h1 := HL8.out k hk; have h2 := HWA.out.size; omega)
          case measure => simp [intOf]; omega
        · have hnk0 : 0 < nk := by omega
          have ha := appfull2 wa w5 w.heap.size r m q b d HTA.out ak nk ck xs hR5 HBA.out hapart (by omega) HTOT.out hnk0 (by omega) (by have := HU.out; omega)
          clear hR5 hapart
          go_upto_region 13 with (go_at_call 11; go_loud (refine ha.mono ?_); rintro e w6 ⟨rfl, hT6, hb6⟩)
          have HB6 := Lib.hid (HB5.out.trans (hb6.mono HB5.out.size))
          have HC6 := Lib.hid hb6
          have HT6 := Lib.hid hT6
          clear ha hb6
          go_upto_region 14 with (go_at_call 19; go_loud (refine (read2 w6 _ r m q b d hT6 (by have := HTOT.out; omega)).mono ?_); rintro e w7 ⟨v7, rfl, hv7, hb7⟩)
          have c1 : (q : Int) < (us : Int) + (nk : Int) := by omega
          have c2 : (0 : Int) < (nk : Int) := by omega
          have hs5 : Own w7 wa.heap.size 5 v (d b) := (HV5.out.to HC6.out).to hb7
          have HT7 := Lib.hid (HT6.out.to hb7)
          have HB7 := Lib.hid (HB6.out.trans (hb7.mono HB6.out.size))
          obtain ⟨x1, y1, rfl⟩ := own_slice hs5
          obtain ⟨x2, y2, rfl⟩ := own_slice hv7
          have he := Equal_any _ _ _ _ _ _ _ _ w7 hs5.rd.toRd hv7.rd.toRd
          rw [show decide (d b = d b) = true from by simp] at he
          have HS5 := Lib.hid hs5
          clear hs5 hv7 hb7 hT6
          go_wp2_with (go_at_call 21; go_loud (refine he.mono ?_); rintro e w8 ⟨rfl, rfl⟩)
          go_roundw
          case rel =>
            exact ⟨k + 1, d, us, by omega, by omega, by go_num, rfl, HU.out, husq, HT7.out, HB7.out⟩
          case measure => simp [intOf]; omega
    · have hkn : k = n3 := by omega
      subst hkn
      go_wp2
      go_ret
      exact ⟨rfl, HB.out⟩
end Go.Proofs.Ytcnkgenhbnafjaa
