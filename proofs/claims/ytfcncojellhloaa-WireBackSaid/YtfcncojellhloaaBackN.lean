/-
  The walk through WireBack, from memory that holds things: it returns true. Conditions: those in the statement.
-/
import Derived.Test.YtfcncojellhloaaBackQ
namespace Go.Proofs.Ytfcncojellhloaa
open Go.ChangeShapes Go.WideShapes Go.ChangeAt Go.RowKit

set_option maxHeartbeats 8000000 in
set_option maxRecDepth 100000 in
theorem Back_any (a : Option Addr) (m cap : Nat) (cut : Nat) (ts : List KT) (w : World) (hcut : cut ≤ 65535) (hm : m ≤ 140737488351232) (_ : m ≤ cap) (hl : ts.length = m)
    (hts : 0 < m → ∃ b off, a = some ⟨b, off, none⟩ ∧ b < w.heap.size ∧ ∀ i (h : i < ts.length), Rd w ts[i].a ts[i].bs.length ts[i].cap ts[i].bs ∧ ts[i].num ≤ 18446744073709551615 ∧
      w.cell? ⟨b, off + i * 4, none⟩ = some (.bool ts[i].vec) ∧ w.cell? ⟨b, off + i * 4 + 1, none⟩ = some (.int .i64 ts[i].size) ∧ w.cell? ⟨b, off + i * 4 + 2, none⟩ = some (.int .u64 (ts[i].num : Int)) ∧ w.cell? ⟨b, off + i * 4 + 3, none⟩ = some (.slice ts[i].a ts[i].bs.length ts[i].cap)) :
    Calls Try.prog 5 #[.slice a m cap, .int .u16 (cut : Int)] w fun e w' => e = .returned (.bool true) ∧ Below w.heap.size w w' := by
  have HL := Lib.hid hl
  have HT := Lib.hid hts
  clear hl hts
  go_enter Try.func5, Try.ntmps5
  obtain ⟨g, hg⟩ : ∃ g, g = w.heap.size := ⟨_, rfl⟩
  have HG := Lib.hid hg
  clear hg
  have hM0 : KMem g w w (.slice none 0 0) (.slice none 0 0) (.slice none 0 0) [] [] := ⟨Own.nil _ _ _, World.ownsRow_nil .., World.ownsRow_nil .., by rw [HG.out]; exact Below.refl _ _⟩
  go_upto_region 3 with fail
  go_step
  go_step
  go_step
  go_step
  go_step
  go_step
  go_step
  go_step
  go_cut [5, 6, 7] (fun all kept ends wr => ∃ (ks : List KT) (es : List Nat), ks.length ≤ 40 ∧ Kept w ks es ∧ KMem g w wr all kept ends ks es)
  case rest =>
    obtain ⟨ks, es, hks, hK, hM⟩ := hcut
    obtain ⟨aa, ca, rfl, -⟩ := hM.all.shape
    have hN := hK.small
    have hgw : g ≤ wc.heap.size := by rw [HG.out]; have := hM.below.size; exact this
    obtain ⟨N, HN⟩ : ∃ N, Hid ((encL ks).length = N) := ⟨_, rfl⟩
    have hNb : N ≤ 12320 := by have := HN.out; omega
    simp only [HN.out] at hM hN ⊢
    obtain ⟨c, HC⟩ : ∃ c, Hid (c = cut % (N + 1)) := ⟨_, rfl⟩
    have hcN : c ≤ N := by have := HC.out; have := Nat.mod_lt cut (show 0 < N + 1 by omega); omega
    clear hM0
    go_upto_if 81 with fail
    obtain ⟨w0, hw0⟩ : ∃ w0, w0 = wc := ⟨_, rfl⟩
    rw [← hw0] at hM hgw ⊢
    have HW0 := Lib.hid hw0
    clear hw0
    go_cut [12] (fun v wx => wx = w0 ∧ v = .int .i64 (c : Int))
    case first =>
      by_cases h0 : N = 0
      · have hd : decide ((N : Int) > 0) = false := by simp; omega
        go_wp2_with fail
        go_meet
        have := HC.out
        exact ⟨rfl, by rw [this, h0]; simp⟩
      · have h1 : (cut : Int).tmod ((N : Int) + 1) = (c : Int) := by rw [HC.out, Int.tmod_eq_emod_of_nonneg (by omega)]; push_cast; rfl
        go_wp2_with fail
        go_meet
        exact ⟨rfl, rfl⟩
    obtain ⟨rfl, rfl⟩ := hcut
    go_upto_region 22 with fail
    have HR1 : Hid (∀ W, Below wc.heap.size wc W → Rd W aa N ca (encL ks)) := fun W h => by
      have := (hM.all.rd.toRd.to h)
      exact this
    have HR2 : Hid (∀ W, Below wc.heap.size wc W → Rd W aa c ca ((encL ks).take c)) := fun W h => (HR1.out W h).take c hcN
    have hcaN := hM.all.rd.le
    have hb0 : (0 : Int) ≤ (c : Int) := by omega
    have hb3 : (c : Int) ≤ (ca : Int) := by omega
    have hb4 : c ≤ ca := by omega
    go_region_held3 (fun w' => Below wc.heap.size wc w')
      (first
        | exact (Below.refl _ _).drew
        | exact hc1
        | exact hc2
        | go_keep)
      (first
        | (go_at_call 14; have hc1' := hc1; refine (New_any aa c ca _ _ (by omega) (HR2.out _ hc1)).mono ?_; rintro e wy ⟨q2, r2, rfl, hr2, hq2, hl2, hb2⟩; have hc2 : Below wc.heap.size wc wy := hc1.trans (hb2.mono hc1.size))
        | (go_at_call 14; refine (New_any aa N ca _ _ (by omega) (HR1.out _ (Below.refl _ _).drew)).mono ?_; rintro e wx ⟨q1, r1, rfl, hr1, hq1, hl1, hb1⟩; have hc1 : Below wc.heap.size wc wx := undrew hb1))
    have hTw : Two wc.heap.size wc wy q1 r1 (encL ks) q2 r2 ((encL ks).take c) := Two.start hr1 hq1 hl1 hc1 hr2 hq2 hl2 hb2
    obtain ⟨pk, ck, rfl, hck⟩ := row_shape hM.kept
    obtain ⟨pe, ce, rfl, hce⟩ := row_shape hM.ends
    have hcc : wc.heap.size ≤ wc.heap.size := Nat.le_refl _
    have HNN : Hid ((encL ks).length ≤ 12320) := by show _ ≤ _; have := HN.out; omega
    clear HR1 HR2 hb1 hb2 hr1 hr2 hq1 hq2 hl1 hl2 hc1 hc2 hcaN hb0 hb3 hb4 hc1'
    go_wp2_with fail
    go_loopw [14, 15, 95] (fun s sh i wr => ∃ (j : Nat) (q3 : Option Nat) (r3 : Nat) (x3 : List UInt8) (b : Bool), j ≤ ks.length ∧ s = .pointer (some ⟨r3, 0, none⟩) ∧ sh = .bool b ∧ i = .int .i64 j ∧ SState ks c j b x3 ∧ Two wc.heap.size wc wr q1 r1 (encL (ks.drop j)) q3 r3 x3) (fun _ _ i _ => ks.length - (intOf i).toNat)
    case atStart => exact ⟨0, q2, r2, (encL ks).take c, false, Nat.zero_le _, rfl, rfl, rfl, .inl ⟨rfl, by simp [encL], by simp [encL]⟩, by rw [List.drop_zero]; exact hTw⟩
    case round =>
      clear hTw
      obtain ⟨j, q3, r3, x3, b, hj, rfl, rfl, rfl, hS, hT⟩ := hrel
      by_cases hlt : j < ks.length
      · have hlt' : (j : Int) < (ks.length : Int) := by omega
        obtain ⟨t, R, htm, htj, hE, hR, hL⟩ := ks_at hlt
        obtain ⟨hrt, hnum, hbl, hok⟩ := hK.each t htm
        obtain ⟨gk, rfl, hgk, k0, k1, k2, k3⟩ := hM.keptAt rfl htj
        obtain ⟨ge, rfl, hge, e0⟩ := hM.endsAt rfl hK.len hlt
        rw [hK.ends j hlt] at e0
        replace k0 := (hT.bl.cell (p := ⟨gk, j * 4, none⟩) hgk).trans k0
        replace k1 := (hT.bl.cell (p := ⟨gk, j * 4 + 1, none⟩) hgk).trans k1
        replace k2 := (hT.bl.cell (p := ⟨gk, j * 4 + 2, none⟩) hgk).trans k2
        replace k3 := (hT.bl.cell (p := ⟨gk, j * 4 + 3, none⟩) hgk).trans k3
        replace e0 := (hT.bl.cell (p := ⟨ge, j, none⟩) hge).trans e0
        have HRT : Hid (∀ W, Below wc.heap.size wc W → Rd W t.a t.bs.length t.cap t.bs) := fun W h => hrt.to (by rw [← HG.out]; exact hM.below.trans (h.mono hgw))
        have hlen1 : (encT t ++ R).length ≤ 12320 := by
          have e : encL ks = encL (ks.take j) ++ encL (ks.drop j) := by rw [← encL_append, List.take_append_drop]
          have h2 := HNN.out
          rw [e, hE, List.length_append] at h2
          omega
        have h3 : (b = false ∧ (encL (ks.take (j + 1))).length ≤ c ∧ x3 = encT t ++ R.take (c - (encL (ks.take (j + 1))).length)) ∨ ((b = true ∨ ¬ (encL (ks.take (j + 1))).length ≤ c) ∧ ∃ l, l < (encT t).length ∧ x3 = (encT t).take l ∧ c < (encL (ks.take (j + 1))).length) := by
          have h1 := (encT_len t).1
          rcases hS with ⟨hb, hc, hx⟩ | ⟨hb, hc, hx⟩
          · by_cases hc2 : (encL (ks.take (j + 1))).length ≤ c
            · refine .inl ⟨hb, hc2, ?_⟩
              rw [hx, hE, take_take_app _ _ _ (by omega)]
              congr 2
              omega
            · refine .inr ⟨.inr hc2, c - (encL (ks.take j)).length, by omega, ?_, by omega⟩
              rw [hx, hE, take_short _ _ _ (by omega)]
          · exact .inr ⟨.inl hb, 0, by omega, by rw [hx]; rfl, by omega⟩
        rw [hE] at hT
        clear hS hrt htm htj hE hK hj
        obtain ⟨L1, HL1⟩ : ∃ L1, Hid ((encL (ks.take (j + 1))).length = L1) := ⟨_, rfl⟩
        rw [HL1.out] at e0
        simp only [HL1.out] at h3
        have HR := Lib.hid hR
        clear hR hL
        have hr1p := hT.d1.lt
        have hr3p := hT.d2.lt
        have hgep : ge < wr.heap.size := by have := hT.bl.size; omega
        obtain ⟨v, sz, nm, bs, ta, tc⟩ := t
        simp only at hnum hbl k0 k1 k2 k3
        have hRT : Hid (∀ W, Below wc.heap.size wc W → Rd W ta bs.length tc bs) := HRT
        clear HRT
        have hrwr := hRT.out _ hT.bl
        have hletc := hrwr.le
        clear hrwr
        rcases h3 with ⟨rfl, hLc, rfl⟩ | ⟨hbL, l, hl, rfl, hcL⟩
        · have hgt : ¬ ((L1 : Int) > (c : Int)) := by omega
          cases v with
          | true =>
            have HF1 : Hid (rvecF (encT ⟨true, sz, nm, bs, ta, tc⟩ ++ R) (tsz true sz) = (bs, 0, R)) := vec_take ⟨true, sz, nm, bs, ta, tc⟩ rfl hok R
            obtain ⟨x4, hx4⟩ : ∃ x4, x4 = R.take (c - L1) := ⟨_, rfl⟩
            rw [← hx4] at hT
            have HX4 := Lib.hid hx4
            have hlen3 : (encT ⟨true, sz, nm, bs, ta, tc⟩ ++ x4).length ≤ 12320 := by rw [hx4]; simp only [List.length_append, List.length_take] at hlen1 ⊢; omega
            clear hx4
            have HF2 : Hid (rvecF (encT ⟨true, sz, nm, bs, ta, tc⟩ ++ x4) (tsz true sz) = (bs, 0, x4)) := vec_take ⟨true, sz, nm, bs, ta, tc⟩ rfl hok x4
            generalize encT ⟨true, sz, nm, bs, ta, tc⟩ ++ x4 = x3 at *
            generalize encT ⟨true, sz, nm, bs, ta, tc⟩ ++ R = x1 at *
            go_upto_region 27 with fail
            clear k0 k1 k2 k3
            have hWb : Below wr.heap.size wr (wr.alloc (.cells #[.bool true, .int .i64 sz, .int .u64 (nm : Int), .slice ta bs.length tc] 57)) := (Below.refl _ _).alloc (Nat.le_refl _) _
            have hg0 : (wr.alloc (.cells #[.bool true, .int .i64 sz, .int .u64 (nm : Int), .slice ta bs.length tc] 57)).heap[wr.heap.size]? = some (.cells #[.bool true, .int .i64 sz, .int .u64 (nm : Int), .slice ta bs.length tc] 57 (0, 0)) := heap_alloc_new _ _
            have hT1 := hT.to hWb hcc
            have e1 := (hWb.cell (p := ⟨ge, j, none⟩) hgep).trans e0
            clear hT e0
            generalize hp : wr.heap.size = p at *
            generalize wr.alloc (.cells #[.bool true, .int .i64 sz, .int .u64 (nm : Int), .slice ta bs.length tc] 57) = W0 at *
            have d0 : W0.cell? ⟨p, 0, none⟩ = some (.bool true) := by rw [cell_of_row _ p _ _ _ (0, 0) hg0]; rfl
            have d1 : W0.cell? ⟨p, 1, none⟩ = some (.int .i64 sz) := by rw [cell_of_row _ p _ _ _ (0, 0) hg0]; rfl
            have d2 : W0.cell? ⟨p, 2, none⟩ = some (.int .u64 (nm : Int)) := by rw [cell_of_row _ p _ _ _ (0, 0) hg0]; rfl
            have d3 : W0.cell? ⟨p, 3, none⟩ = some (.slice ta bs.length tc) := by rw [cell_of_row _ p _ _ _ (0, 0) hg0]; rfl
            have hpl : p < W0.heap.size := lt_of_block hg0
            clear hp hWb hg0
            go_upto_region 29 with fail
            clear e1
            go_upto_region 30 with (first
              | (go_at_call 23; refine (tsize_any true sz nm _ _ ⟨_, _, _, rfl⟩).mono ?_; rintro e w1 ⟨rfl, hb1⟩)
              | (go_at_call 18; refine (RVec_any q1 r1 x1 _ _ (by omega) (hT1.to hb1 hcc).d1).mono ?_; rintro e w2 ⟨vx, rfl, hx, hd1, hg2⟩; rw [HF1.out] at hx hd1 ⊢; obtain ⟨ax, cx, rfl, -⟩ := hx.shape))
            have hT2 := (hT1.to hb1 hcc).first hd1 hg2 hcc
            have y0 := hg2.cell ((hb1.cell (p := ⟨p, 0, none⟩) hpl).trans d0) (by intro e; injection e with e; simp only at e; omega)
            have y1 := hg2.cell ((hb1.cell (p := ⟨p, 1, none⟩) hpl).trans d1) (by intro e; injection e with e; simp only at e; omega)
            have y2 := hg2.cell ((hb1.cell (p := ⟨p, 2, none⟩) hpl).trans d2) (by intro e; injection e with e; simp only at e; omega)
            have y3 := hg2.cell ((hb1.cell (p := ⟨p, 3, none⟩) hpl).trans d3) (by intro e; injection e with e; simp only at e; omega)
            have z1 := hb1.size
            have z2 := hg2.size
            clear d0 d1 d2 d3 hT1 hd1 hg2 hb1
            go_upto_region 31 with (first
              | (go_at_call 23; refine (tsize_any true sz nm _ _ ⟨_, _, _, rfl⟩).mono ?_; rintro e w3 ⟨rfl, hb3⟩)
              | (go_at_call 18; refine (RVec_any q3 r3 x3 _ _ (by omega) (hT2.to hb3 hcc).d2).mono ?_; rintro e w4 ⟨vy, rfl, hy, hd2, hg4⟩; rw [HF2.out] at hy hd2 ⊢; obtain ⟨ay, cy, rfl, -⟩ := hy.shape))
            have hT4 := (hT2.to hb3 hcc).second hd2 hg4 hcc
            have hpl2 : p < w2.heap.size := by omega
            have d0 := hg4.cell ((hb3.cell (p := ⟨p, 0, none⟩) hpl2).trans y0) (by intro e; injection e with e; simp only at e; omega)
            have d1 := hg4.cell ((hb3.cell (p := ⟨p, 1, none⟩) hpl2).trans y1) (by intro e; injection e with e; simp only at e; omega)
            have d2 := hg4.cell ((hb3.cell (p := ⟨p, 2, none⟩) hpl2).trans y2) (by intro e; injection e with e; simp only at e; omega)
            have d3 := hg4.cell ((hb3.cell (p := ⟨p, 3, none⟩) hpl2).trans y3) (by intro e; injection e with e; simp only at e; omega)
            have z3 := hb3.size
            have z4 := hg4.size
            have hx4 := own_grown (hx.to hb3) hg4 (fun k hk => by have := (World.ownsRow.lt hx k hk).1; intro e; injection e with e; omega)
            have hrd4 := hRT.out _ hT4.bl
            have HEQ : Hid (∀ a n c', Rd w4 a n c' bs → Calls Try.prog 12 #[.slice a n c', .slice ta bs.length tc] w4 fun e w' => e = .returned (.bool true) ∧ w4 = w') := fun a n c' h => by
              have := Equal_any a ta n c' bs.length tc bs bs w4 h hrd4
              simpa using this
            have hxr := hx4.rd.toRd
            have hyr := hy.rd.toRd
            clear y0 y1 y2 y3 hT2 hd2 hg4 hb3 hx hx4 hy hrd4
            go_wp2_with (go_at_call 12; refine (HEQ.out _ _ _ (by first | exact hxr | exact hyr)).mono ?_; rintro e w5 ⟨rfl, rfl⟩)
            go_roundw
            case rel =>
              exact ⟨j + 1, q3, r3, x4, false, by omega, rfl, rfl, by go_num, .inl ⟨rfl, by rw [HL1.out]; exact hLc, by rw [HL1.out, ← HR.out]; exact HX4.out⟩, by rw [← HR.out]; exact hT4⟩
            case measure => simp [intOf]; omega
          | false =>
            have HF1 : Hid (rnumF (encT ⟨false, sz, nm, bs, ta, tc⟩ ++ R) (tsz false sz) = (nm, 0, R)) := num_take ⟨false, sz, nm, bs, ta, tc⟩ rfl hok R
            obtain ⟨x4, hx4⟩ : ∃ x4, x4 = R.take (c - L1) := ⟨_, rfl⟩
            rw [← hx4] at hT
            have HX4 := Lib.hid hx4
            have hlen3 : (encT ⟨false, sz, nm, bs, ta, tc⟩ ++ x4).length ≤ 12320 := by rw [hx4]; simp only [List.length_append, List.length_take] at hlen1 ⊢; omega
            clear hx4
            have HF2 : Hid (rnumF (encT ⟨false, sz, nm, bs, ta, tc⟩ ++ x4) (tsz false sz) = (nm, 0, x4)) := num_take ⟨false, sz, nm, bs, ta, tc⟩ rfl hok x4
            generalize encT ⟨false, sz, nm, bs, ta, tc⟩ ++ x4 = x3 at *
            generalize encT ⟨false, sz, nm, bs, ta, tc⟩ ++ R = x1 at *
            go_upto_region 27 with fail
            clear k0 k1 k2 k3
            have hWb : Below wr.heap.size wr (wr.alloc (.cells #[.bool false, .int .i64 sz, .int .u64 (nm : Int), .slice ta bs.length tc] 57)) := (Below.refl _ _).alloc (Nat.le_refl _) _
            have hg0 : (wr.alloc (.cells #[.bool false, .int .i64 sz, .int .u64 (nm : Int), .slice ta bs.length tc] 57)).heap[wr.heap.size]? = some (.cells #[.bool false, .int .i64 sz, .int .u64 (nm : Int), .slice ta bs.length tc] 57 (0, 0)) := heap_alloc_new _ _
            have hT1 := hT.to hWb hcc
            have e1 := (hWb.cell (p := ⟨ge, j, none⟩) hgep).trans e0
            clear hT e0
            generalize hp : wr.heap.size = p at *
            generalize wr.alloc (.cells #[.bool false, .int .i64 sz, .int .u64 (nm : Int), .slice ta bs.length tc] 57) = W0 at *
            have d0 : W0.cell? ⟨p, 0, none⟩ = some (.bool false) := by rw [cell_of_row _ p _ _ _ (0, 0) hg0]; rfl
            have d1 : W0.cell? ⟨p, 1, none⟩ = some (.int .i64 sz) := by rw [cell_of_row _ p _ _ _ (0, 0) hg0]; rfl
            have d2 : W0.cell? ⟨p, 2, none⟩ = some (.int .u64 (nm : Int)) := by rw [cell_of_row _ p _ _ _ (0, 0) hg0]; rfl
            have d3 : W0.cell? ⟨p, 3, none⟩ = some (.slice ta bs.length tc) := by rw [cell_of_row _ p _ _ _ (0, 0) hg0]; rfl
            have hpl : p < W0.heap.size := lt_of_block hg0
            clear hp hWb hg0
            go_upto_region 33 with fail
            clear e1
            go_upto_region 34 with (first
              | (go_at_call 23; refine (tsize_any false sz nm _ _ ⟨_, _, _, rfl⟩).mono ?_; rintro e w1 ⟨rfl, hb1⟩)
              | (go_at_call 16; refine (RNum_any q1 r1 x1 _ _ (by omega) (hT1.to hb1 hcc).d1).mono ?_; rintro e w2 ⟨rfl, hd1, hg2⟩; rw [HF1.out] at hd1 ⊢))
            have hT2 := (hT1.to hb1 hcc).first hd1 hg2 hcc
            have y0 := hg2.cell ((hb1.cell (p := ⟨p, 0, none⟩) hpl).trans d0) (by intro e; injection e with e; simp only at e; omega)
            have y1 := hg2.cell ((hb1.cell (p := ⟨p, 1, none⟩) hpl).trans d1) (by intro e; injection e with e; simp only at e; omega)
            have y2 := hg2.cell ((hb1.cell (p := ⟨p, 2, none⟩) hpl).trans d2) (by intro e; injection e with e; simp only at e; omega)
            have y3 := hg2.cell ((hb1.cell (p := ⟨p, 3, none⟩) hpl).trans d3) (by intro e; injection e with e; simp only at e; omega)
            have z1 := hb1.size
            have z2 := hg2.size
            clear d0 d1 d2 d3 hT1 hd1 hg2 hb1
            go_upto_region 35 with (first
              | (go_at_call 23; refine (tsize_any false sz nm _ _ ⟨_, _, _, rfl⟩).mono ?_; rintro e w3 ⟨rfl, hb3⟩)
              | (go_at_call 16; refine (RNum_any q3 r3 x3 _ _ (by omega) (hT2.to hb3 hcc).d2).mono ?_; rintro e w4 ⟨rfl, hd2, hg4⟩; rw [HF2.out] at hd2 ⊢))
            have hT4 := (hT2.to hb3 hcc).second hd2 hg4 hcc
            have hpl2 : p < w2.heap.size := by omega
            have d0 := hg4.cell ((hb3.cell (p := ⟨p, 0, none⟩) hpl2).trans y0) (by intro e; injection e with e; simp only at e; omega)
            have d1 := hg4.cell ((hb3.cell (p := ⟨p, 1, none⟩) hpl2).trans y1) (by intro e; injection e with e; simp only at e; omega)
            have d2 := hg4.cell ((hb3.cell (p := ⟨p, 2, none⟩) hpl2).trans y2) (by intro e; injection e with e; simp only at e; omega)
            have d3 := hg4.cell ((hb3.cell (p := ⟨p, 3, none⟩) hpl2).trans y3) (by intro e; injection e with e; simp only at e; omega)
            have z3 := hb3.size
            have z4 := hg4.size
            clear y0 y1 y2 y3 hT2 hd2 hg4 hb3
            go_wp2_with fail
            go_roundw
            case rel =>
              exact ⟨j + 1, q3, r3, x4, false, by omega, rfl, rfl, by go_num, .inl ⟨rfl, by rw [HL1.out]; exact hLc, by rw [HL1.out, ← HR.out]; exact HX4.out⟩, by rw [← HR.out]; exact hT4⟩
            case measure => simp [intOf]; omega
        · cases v with
          | true =>
            have HF1 : Hid (rvecF (encT ⟨true, sz, nm, bs, ta, tc⟩ ++ R) (tsz true sz) = (bs, 0, R)) := vec_take ⟨true, sz, nm, bs, ta, tc⟩ rfl hok R
            have hlen3 : ((encT ⟨true, sz, nm, bs, ta, tc⟩).take l).length ≤ 12320 := by simp only [List.length_append, List.length_take] at hlen1 ⊢; omega
            obtain ⟨x4, HF2⟩ : ∃ x4, Hid (rvecF ((encT ⟨true, sz, nm, bs, ta, tc⟩).take l) (tsz true sz) = ([], 4, x4)) := by
              obtain ⟨h1, h2⟩ := vec_short ⟨true, sz, nm, bs, ta, tc⟩ rfl hok l hl
              refine ⟨(rvecF ((encT ⟨true, sz, nm, bs, ta, tc⟩).take l) (tsz true sz)).2.2, ?_⟩
              show _ = _
              rw [← h1, ← h2]
            generalize (encT ⟨true, sz, nm, bs, ta, tc⟩).take l = x3 at *
            generalize encT ⟨true, sz, nm, bs, ta, tc⟩ ++ R = x1 at *
            cases b
            case false =>
              have hgt : ((L1 : Int) > (c : Int)) := by omega
              go_upto_region 27 with fail
              clear k0 k1 k2 k3
              have hWb : Below wr.heap.size wr (wr.alloc (.cells #[.bool true, .int .i64 sz, .int .u64 (nm : Int), .slice ta bs.length tc] 57)) := (Below.refl _ _).alloc (Nat.le_refl _) _
              have hg0 : (wr.alloc (.cells #[.bool true, .int .i64 sz, .int .u64 (nm : Int), .slice ta bs.length tc] 57)).heap[wr.heap.size]? = some (.cells #[.bool true, .int .i64 sz, .int .u64 (nm : Int), .slice ta bs.length tc] 57 (0, 0)) := heap_alloc_new _ _
              have hT1 := hT.to hWb hcc
              have e1 := (hWb.cell (p := ⟨ge, j, none⟩) hgep).trans e0
              clear hT e0
              generalize hp : wr.heap.size = p at *
              generalize wr.alloc (.cells #[.bool true, .int .i64 sz, .int .u64 (nm : Int), .slice ta bs.length tc] 57) = W0 at *
              have d0 : W0.cell? ⟨p, 0, none⟩ = some (.bool true) := by rw [cell_of_row _ p _ _ _ (0, 0) hg0]; rfl
              have d1 : W0.cell? ⟨p, 1, none⟩ = some (.int .i64 sz) := by rw [cell_of_row _ p _ _ _ (0, 0) hg0]; rfl
              have d2 : W0.cell? ⟨p, 2, none⟩ = some (.int .u64 (nm : Int)) := by rw [cell_of_row _ p _ _ _ (0, 0) hg0]; rfl
              have d3 : W0.cell? ⟨p, 3, none⟩ = some (.slice ta bs.length tc) := by rw [cell_of_row _ p _ _ _ (0, 0) hg0]; rfl
              have hpl : p < W0.heap.size := lt_of_block hg0
              clear hp hWb hg0
              go_upto_region 29 with fail
              clear e1
              go_upto_region 30 with (first
                | (go_at_call 23; refine (tsize_any true sz nm _ _ ⟨_, _, _, rfl⟩).mono ?_; rintro e w1 ⟨rfl, hb1⟩)
                | (go_at_call 18; refine (RVec_any q1 r1 x1 _ _ (by omega) (hT1.to hb1 hcc).d1).mono ?_; rintro e w2 ⟨vx, rfl, hx, hd1, hg2⟩; rw [HF1.out] at hx hd1 ⊢; obtain ⟨ax, cx, rfl, -⟩ := hx.shape))
              have hT2 := (hT1.to hb1 hcc).first hd1 hg2 hcc
              have y0 := hg2.cell ((hb1.cell (p := ⟨p, 0, none⟩) hpl).trans d0) (by intro e; injection e with e; simp only at e; omega)
              have y1 := hg2.cell ((hb1.cell (p := ⟨p, 1, none⟩) hpl).trans d1) (by intro e; injection e with e; simp only at e; omega)
              have y2 := hg2.cell ((hb1.cell (p := ⟨p, 2, none⟩) hpl).trans d2) (by intro e; injection e with e; simp only at e; omega)
              have y3 := hg2.cell ((hb1.cell (p := ⟨p, 3, none⟩) hpl).trans d3) (by intro e; injection e with e; simp only at e; omega)
              have z1 := hb1.size
              have z2 := hg2.size
              clear d0 d1 d2 d3 hT1 hd1 hg2 hb1
              go_upto_region 31 with (first
                | (go_at_call 23; refine (tsize_any true sz nm _ _ ⟨_, _, _, rfl⟩).mono ?_; rintro e w3 ⟨rfl, hb3⟩)
                | (go_at_call 18; refine (RVec_any q3 r3 x3 _ _ (by omega) (hT2.to hb3 hcc).d2).mono ?_; rintro e w4 ⟨vy, rfl, hy, hd2, hg4⟩; rw [HF2.out] at hy hd2 ⊢; obtain ⟨ay, cy, rfl, -⟩ := hy.shape))
              have hT4 := (hT2.to hb3 hcc).second hd2 hg4 hcc
              have hpl2 : p < w2.heap.size := by omega
              have d0 := hg4.cell ((hb3.cell (p := ⟨p, 0, none⟩) hpl2).trans y0) (by intro e; injection e with e; simp only at e; omega)
              have d1 := hg4.cell ((hb3.cell (p := ⟨p, 1, none⟩) hpl2).trans y1) (by intro e; injection e with e; simp only at e; omega)
              have d2 := hg4.cell ((hb3.cell (p := ⟨p, 2, none⟩) hpl2).trans y2) (by intro e; injection e with e; simp only at e; omega)
              have d3 := hg4.cell ((hb3.cell (p := ⟨p, 3, none⟩) hpl2).trans y3) (by intro e; injection e with e; simp only at e; omega)
              have z3 := hb3.size
              have z4 := hg4.size
              have hx4 := own_grown (hx.to hb3) hg4 (fun k hk => by have := (World.ownsRow.lt hx k hk).1; intro e; injection e with e; omega)
              have hrd4 := hRT.out _ hT4.bl
              have HEQ : Hid (∀ a n c', Rd w4 a n c' bs → Calls Try.prog 12 #[.slice a n c', .slice ta bs.length tc] w4 fun e w' => e = .returned (.bool true) ∧ w4 = w') := fun a n c' h => by
                have := Equal_any a ta n c' bs.length tc bs bs w4 h hrd4
                simpa using this
              have hxr := hx4.rd.toRd
              clear y0 y1 y2 y3 hT2 hd2 hg4 hb3 hx hx4 hy hrd4
              go_wp2_with (first
                | (go_at_call 12; refine (HEQ.out _ _ _ (by first | exact hxr)).mono ?_; rintro e w5 ⟨rfl, rfl⟩)
                | (go_at_call 14; refine (New_any none 0 0 [] _ (by omega) (Rd.none _)).mono ?_; rintro e w6 ⟨q5, r5, rfl, hr5, hq5, hl5, hb5⟩))
              have hT6 := hT4.fresh hr5 hq5 hl5 hb5 hcc
              clear hT4 hr5 hq5 hl5 hb5
              go_roundw
              case rel =>
                exact ⟨j + 1, q5, r5, [], true, by omega, rfl, rfl, by go_num, .inr ⟨rfl, by rw [HL1.out]; exact hcL, rfl⟩, by rw [← HR.out]; exact hT6⟩
              case measure => simp [intOf]; omega
            case true =>
              go_upto_region 27 with fail
              clear k0 k1 k2 k3
              have hWb : Below wr.heap.size wr (wr.alloc (.cells #[.bool true, .int .i64 sz, .int .u64 (nm : Int), .slice ta bs.length tc] 57)) := (Below.refl _ _).alloc (Nat.le_refl _) _
              have hg0 : (wr.alloc (.cells #[.bool true, .int .i64 sz, .int .u64 (nm : Int), .slice ta bs.length tc] 57)).heap[wr.heap.size]? = some (.cells #[.bool true, .int .i64 sz, .int .u64 (nm : Int), .slice ta bs.length tc] 57 (0, 0)) := heap_alloc_new _ _
              have hT1 := hT.to hWb hcc
              have e1 := (hWb.cell (p := ⟨ge, j, none⟩) hgep).trans e0
              clear hT e0
              generalize hp : wr.heap.size = p at *
              generalize wr.alloc (.cells #[.bool true, .int .i64 sz, .int .u64 (nm : Int), .slice ta bs.length tc] 57) = W0 at *
              have d0 : W0.cell? ⟨p, 0, none⟩ = some (.bool true) := by rw [cell_of_row _ p _ _ _ (0, 0) hg0]; rfl
              have d1 : W0.cell? ⟨p, 1, none⟩ = some (.int .i64 sz) := by rw [cell_of_row _ p _ _ _ (0, 0) hg0]; rfl
              have d2 : W0.cell? ⟨p, 2, none⟩ = some (.int .u64 (nm : Int)) := by rw [cell_of_row _ p _ _ _ (0, 0) hg0]; rfl
              have d3 : W0.cell? ⟨p, 3, none⟩ = some (.slice ta bs.length tc) := by rw [cell_of_row _ p _ _ _ (0, 0) hg0]; rfl
              have hpl : p < W0.heap.size := lt_of_block hg0
              clear hp hWb hg0
              go_upto_region 29 with fail
              clear e1
              go_upto_region 30 with (first
                | (go_at_call 23; refine (tsize_any true sz nm _ _ ⟨_, _, _, rfl⟩).mono ?_; rintro e w1 ⟨rfl, hb1⟩)
                | (go_at_call 18; refine (RVec_any q1 r1 x1 _ _ (by omega) (hT1.to hb1 hcc).d1).mono ?_; rintro e w2 ⟨vx, rfl, hx, hd1, hg2⟩; rw [HF1.out] at hx hd1 ⊢; obtain ⟨ax, cx, rfl, -⟩ := hx.shape))
              have hT2 := (hT1.to hb1 hcc).first hd1 hg2 hcc
              have y0 := hg2.cell ((hb1.cell (p := ⟨p, 0, none⟩) hpl).trans d0) (by intro e; injection e with e; simp only at e; omega)
              have y1 := hg2.cell ((hb1.cell (p := ⟨p, 1, none⟩) hpl).trans d1) (by intro e; injection e with e; simp only at e; omega)
              have y2 := hg2.cell ((hb1.cell (p := ⟨p, 2, none⟩) hpl).trans d2) (by intro e; injection e with e; simp only at e; omega)
              have y3 := hg2.cell ((hb1.cell (p := ⟨p, 3, none⟩) hpl).trans d3) (by intro e; injection e with e; simp only at e; omega)
              have z1 := hb1.size
              have z2 := hg2.size
              clear d0 d1 d2 d3 hT1 hd1 hg2 hb1
              go_upto_region 31 with (first
                | (go_at_call 23; refine (tsize_any true sz nm _ _ ⟨_, _, _, rfl⟩).mono ?_; rintro e w3 ⟨rfl, hb3⟩)
                | (go_at_call 18; refine (RVec_any q3 r3 x3 _ _ (by omega) (hT2.to hb3 hcc).d2).mono ?_; rintro e w4 ⟨vy, rfl, hy, hd2, hg4⟩; rw [HF2.out] at hy hd2 ⊢; obtain ⟨ay, cy, rfl, -⟩ := hy.shape))
              have hT4 := (hT2.to hb3 hcc).second hd2 hg4 hcc
              have hpl2 : p < w2.heap.size := by omega
              have d0 := hg4.cell ((hb3.cell (p := ⟨p, 0, none⟩) hpl2).trans y0) (by intro e; injection e with e; simp only at e; omega)
              have d1 := hg4.cell ((hb3.cell (p := ⟨p, 1, none⟩) hpl2).trans y1) (by intro e; injection e with e; simp only at e; omega)
              have d2 := hg4.cell ((hb3.cell (p := ⟨p, 2, none⟩) hpl2).trans y2) (by intro e; injection e with e; simp only at e; omega)
              have d3 := hg4.cell ((hb3.cell (p := ⟨p, 3, none⟩) hpl2).trans y3) (by intro e; injection e with e; simp only at e; omega)
              have z3 := hb3.size
              have z4 := hg4.size
              have hx4 := own_grown (hx.to hb3) hg4 (fun k hk => by have := (World.ownsRow.lt hx k hk).1; intro e; injection e with e; omega)
              have hrd4 := hRT.out _ hT4.bl
              have HEQ : Hid (∀ a n c', Rd w4 a n c' bs → Calls Try.prog 12 #[.slice a n c', .slice ta bs.length tc] w4 fun e w' => e = .returned (.bool true) ∧ w4 = w') := fun a n c' h => by
                have := Equal_any a ta n c' bs.length tc bs bs w4 h hrd4
                simpa using this
              have hxr := hx4.rd.toRd
              clear y0 y1 y2 y3 hT2 hd2 hg4 hb3 hx hx4 hy hrd4
              go_wp2_with (first
                | (go_at_call 12; refine (HEQ.out _ _ _ (by first | exact hxr)).mono ?_; rintro e w5 ⟨rfl, rfl⟩)
                | (go_at_call 14; refine (New_any none 0 0 [] _ (by omega) (Rd.none _)).mono ?_; rintro e w6 ⟨q5, r5, rfl, hr5, hq5, hl5, hb5⟩))
              have hT6 := hT4.fresh hr5 hq5 hl5 hb5 hcc
              clear hT4 hr5 hq5 hl5 hb5
              go_roundw
              case rel =>
                exact ⟨j + 1, q5, r5, [], true, by omega, rfl, rfl, by go_num, .inr ⟨rfl, by rw [HL1.out]; exact hcL, rfl⟩, by rw [← HR.out]; exact hT6⟩
              case measure => simp [intOf]; omega
          | false =>
            have HF1 : Hid (rnumF (encT ⟨false, sz, nm, bs, ta, tc⟩ ++ R) (tsz false sz) = (nm, 0, R)) := num_take ⟨false, sz, nm, bs, ta, tc⟩ rfl hok R
            have hlen3 : ((encT ⟨false, sz, nm, bs, ta, tc⟩).take l).length ≤ 12320 := by simp only [List.length_append, List.length_take] at hlen1 ⊢; omega
            obtain ⟨x4, HF2⟩ : ∃ x4, Hid (rnumF ((encT ⟨false, sz, nm, bs, ta, tc⟩).take l) (tsz false sz) = (0, 4, x4)) := by
              obtain ⟨h1, h2⟩ := num_short ⟨false, sz, nm, bs, ta, tc⟩ rfl l hl
              refine ⟨(rnumF ((encT ⟨false, sz, nm, bs, ta, tc⟩).take l) (tsz false sz)).2.2, ?_⟩
              show _ = _
              rw [← h1, ← h2]
            generalize (encT ⟨false, sz, nm, bs, ta, tc⟩).take l = x3 at *
            generalize encT ⟨false, sz, nm, bs, ta, tc⟩ ++ R = x1 at *
            cases b
            case false =>
              have hgt : ((L1 : Int) > (c : Int)) := by omega
              go_upto_region 27 with fail
              clear k0 k1 k2 k3
              have hWb : Below wr.heap.size wr (wr.alloc (.cells #[.bool false, .int .i64 sz, .int .u64 (nm : Int), .slice ta bs.length tc] 57)) := (Below.refl _ _).alloc (Nat.le_refl _) _
              have hg0 : (wr.alloc (.cells #[.bool false, .int .i64 sz, .int .u64 (nm : Int), .slice ta bs.length tc] 57)).heap[wr.heap.size]? = some (.cells #[.bool false, .int .i64 sz, .int .u64 (nm : Int), .slice ta bs.length tc] 57 (0, 0)) := heap_alloc_new _ _
              have hT1 := hT.to hWb hcc
              have e1 := (hWb.cell (p := ⟨ge, j, none⟩) hgep).trans e0
              clear hT e0
              generalize hp : wr.heap.size = p at *
              generalize wr.alloc (.cells #[.bool false, .int .i64 sz, .int .u64 (nm : Int), .slice ta bs.length tc] 57) = W0 at *
              have d0 : W0.cell? ⟨p, 0, none⟩ = some (.bool false) := by rw [cell_of_row _ p _ _ _ (0, 0) hg0]; rfl
              have d1 : W0.cell? ⟨p, 1, none⟩ = some (.int .i64 sz) := by rw [cell_of_row _ p _ _ _ (0, 0) hg0]; rfl
              have d2 : W0.cell? ⟨p, 2, none⟩ = some (.int .u64 (nm : Int)) := by rw [cell_of_row _ p _ _ _ (0, 0) hg0]; rfl
              have d3 : W0.cell? ⟨p, 3, none⟩ = some (.slice ta bs.length tc) := by rw [cell_of_row _ p _ _ _ (0, 0) hg0]; rfl
              have hpl : p < W0.heap.size := lt_of_block hg0
              clear hp hWb hg0
              go_upto_region 33 with fail
              clear e1
              go_upto_region 34 with (first
                | (go_at_call 23; refine (tsize_any false sz nm _ _ ⟨_, _, _, rfl⟩).mono ?_; rintro e w1 ⟨rfl, hb1⟩)
                | (go_at_call 16; refine (RNum_any q1 r1 x1 _ _ (by omega) (hT1.to hb1 hcc).d1).mono ?_; rintro e w2 ⟨rfl, hd1, hg2⟩; rw [HF1.out] at hd1 ⊢))
              have hT2 := (hT1.to hb1 hcc).first hd1 hg2 hcc
              have y0 := hg2.cell ((hb1.cell (p := ⟨p, 0, none⟩) hpl).trans d0) (by intro e; injection e with e; simp only at e; omega)
              have y1 := hg2.cell ((hb1.cell (p := ⟨p, 1, none⟩) hpl).trans d1) (by intro e; injection e with e; simp only at e; omega)
              have y2 := hg2.cell ((hb1.cell (p := ⟨p, 2, none⟩) hpl).trans d2) (by intro e; injection e with e; simp only at e; omega)
              have y3 := hg2.cell ((hb1.cell (p := ⟨p, 3, none⟩) hpl).trans d3) (by intro e; injection e with e; simp only at e; omega)
              have z1 := hb1.size
              have z2 := hg2.size
              clear d0 d1 d2 d3 hT1 hd1 hg2 hb1
              go_upto_region 35 with (first
                | (go_at_call 23; refine (tsize_any false sz nm _ _ ⟨_, _, _, rfl⟩).mono ?_; rintro e w3 ⟨rfl, hb3⟩)
                | (go_at_call 16; refine (RNum_any q3 r3 x3 _ _ (by omega) (hT2.to hb3 hcc).d2).mono ?_; rintro e w4 ⟨rfl, hd2, hg4⟩; rw [HF2.out] at hd2 ⊢))
              have hT4 := (hT2.to hb3 hcc).second hd2 hg4 hcc
              have hpl2 : p < w2.heap.size := by omega
              have d0 := hg4.cell ((hb3.cell (p := ⟨p, 0, none⟩) hpl2).trans y0) (by intro e; injection e with e; simp only at e; omega)
              have d1 := hg4.cell ((hb3.cell (p := ⟨p, 1, none⟩) hpl2).trans y1) (by intro e; injection e with e; simp only at e; omega)
              have d2 := hg4.cell ((hb3.cell (p := ⟨p, 2, none⟩) hpl2).trans y2) (by intro e; injection e with e; simp only at e; omega)
              have d3 := hg4.cell ((hb3.cell (p := ⟨p, 3, none⟩) hpl2).trans y3) (by intro e; injection e with e; simp only at e; omega)
              have z3 := hb3.size
              have z4 := hg4.size
              clear y0 y1 y2 y3 hT2 hd2 hg4 hb3
              go_wp2_with (first
                | fail
                | (go_at_call 14; refine (New_any none 0 0 [] _ (by omega) (Rd.none _)).mono ?_; rintro e w6 ⟨q5, r5, rfl, hr5, hq5, hl5, hb5⟩))
              have hT6 := hT4.fresh hr5 hq5 hl5 hb5 hcc
              clear hT4 hr5 hq5 hl5 hb5
              go_roundw
              case rel =>
                exact ⟨j + 1, q5, r5, [], true, by omega, rfl, rfl, by go_num, .inr ⟨rfl, by rw [HL1.out]; exact hcL, rfl⟩, by rw [← HR.out]; exact hT6⟩
              case measure => simp [intOf]; omega
            case true =>
              go_upto_region 27 with fail
              clear k0 k1 k2 k3
              have hWb : Below wr.heap.size wr (wr.alloc (.cells #[.bool false, .int .i64 sz, .int .u64 (nm : Int), .slice ta bs.length tc] 57)) := (Below.refl _ _).alloc (Nat.le_refl _) _
              have hg0 : (wr.alloc (.cells #[.bool false, .int .i64 sz, .int .u64 (nm : Int), .slice ta bs.length tc] 57)).heap[wr.heap.size]? = some (.cells #[.bool false, .int .i64 sz, .int .u64 (nm : Int), .slice ta bs.length tc] 57 (0, 0)) := heap_alloc_new _ _
              have hT1 := hT.to hWb hcc
              have e1 := (hWb.cell (p := ⟨ge, j, none⟩) hgep).trans e0
              clear hT e0
              generalize hp : wr.heap.size = p at *
              generalize wr.alloc (.cells #[.bool false, .int .i64 sz, .int .u64 (nm : Int), .slice ta bs.length tc] 57) = W0 at *
              have d0 : W0.cell? ⟨p, 0, none⟩ = some (.bool false) := by rw [cell_of_row _ p _ _ _ (0, 0) hg0]; rfl
              have d1 : W0.cell? ⟨p, 1, none⟩ = some (.int .i64 sz) := by rw [cell_of_row _ p _ _ _ (0, 0) hg0]; rfl
              have d2 : W0.cell? ⟨p, 2, none⟩ = some (.int .u64 (nm : Int)) := by rw [cell_of_row _ p _ _ _ (0, 0) hg0]; rfl
              have d3 : W0.cell? ⟨p, 3, none⟩ = some (.slice ta bs.length tc) := by rw [cell_of_row _ p _ _ _ (0, 0) hg0]; rfl
              have hpl : p < W0.heap.size := lt_of_block hg0
              clear hp hWb hg0
              go_upto_region 33 with fail
              clear e1
              go_upto_region 34 with (first
                | (go_at_call 23; refine (tsize_any false sz nm _ _ ⟨_, _, _, rfl⟩).mono ?_; rintro e w1 ⟨rfl, hb1⟩)
                | (go_at_call 16; refine (RNum_any q1 r1 x1 _ _ (by omega) (hT1.to hb1 hcc).d1).mono ?_; rintro e w2 ⟨rfl, hd1, hg2⟩; rw [HF1.out] at hd1 ⊢))
              have hT2 := (hT1.to hb1 hcc).first hd1 hg2 hcc
              have y0 := hg2.cell ((hb1.cell (p := ⟨p, 0, none⟩) hpl).trans d0) (by intro e; injection e with e; simp only at e; omega)
              have y1 := hg2.cell ((hb1.cell (p := ⟨p, 1, none⟩) hpl).trans d1) (by intro e; injection e with e; simp only at e; omega)
              have y2 := hg2.cell ((hb1.cell (p := ⟨p, 2, none⟩) hpl).trans d2) (by intro e; injection e with e; simp only at e; omega)
              have y3 := hg2.cell ((hb1.cell (p := ⟨p, 3, none⟩) hpl).trans d3) (by intro e; injection e with e; simp only at e; omega)
              have z1 := hb1.size
              have z2 := hg2.size
              clear d0 d1 d2 d3 hT1 hd1 hg2 hb1
              go_upto_region 35 with (first
                | (go_at_call 23; refine (tsize_any false sz nm _ _ ⟨_, _, _, rfl⟩).mono ?_; rintro e w3 ⟨rfl, hb3⟩)
                | (go_at_call 16; refine (RNum_any q3 r3 x3 _ _ (by omega) (hT2.to hb3 hcc).d2).mono ?_; rintro e w4 ⟨rfl, hd2, hg4⟩; rw [HF2.out] at hd2 ⊢))
              have hT4 := (hT2.to hb3 hcc).second hd2 hg4 hcc
              have hpl2 : p < w2.heap.size := by omega
              have d0 := hg4.cell ((hb3.cell (p := ⟨p, 0, none⟩) hpl2).trans y0) (by intro e; injection e with e; simp only at e; omega)
              have d1 := hg4.cell ((hb3.cell (p := ⟨p, 1, none⟩) hpl2).trans y1) (by intro e; injection e with e; simp only at e; omega)
              have d2 := hg4.cell ((hb3.cell (p := ⟨p, 2, none⟩) hpl2).trans y2) (by intro e; injection e with e; simp only at e; omega)
              have d3 := hg4.cell ((hb3.cell (p := ⟨p, 3, none⟩) hpl2).trans y3) (by intro e; injection e with e; simp only at e; omega)
              have z3 := hb3.size
              have z4 := hg4.size
              clear y0 y1 y2 y3 hT2 hd2 hg4 hb3
              go_wp2_with (first
                | fail
                | (go_at_call 14; refine (New_any none 0 0 [] _ (by omega) (Rd.none _)).mono ?_; rintro e w6 ⟨q5, r5, rfl, hr5, hq5, hl5, hb5⟩))
              have hT6 := hT4.fresh hr5 hq5 hl5 hb5 hcc
              clear hT4 hr5 hq5 hl5 hb5
              go_roundw
              case rel =>
                exact ⟨j + 1, q5, r5, [], true, by omega, rfl, rfl, by go_num, .inr ⟨rfl, by rw [HL1.out]; exact hcL, rfl⟩, by rw [← HR.out]; exact hT6⟩
              case measure => simp [intOf]; omega
      · have hlt' : ¬ (j : Int) < (ks.length : Int) := by omega
        have e0 : encL (ks.drop j) = [] := by rw [List.drop_of_length_le (by omega)]; rfl
        rw [e0] at hT
        go_wp2_with (first
          | (go_at_call 13; refine (awake_any _).mono ?_; rintro e w7 ⟨rfl, hb7⟩; have hT7 := hT.to hb7 hcc)
          | (go_at_call 22; refine (Left_any q1 r1 [] _ hT7.d1).mono ?_; rintro e w8 ⟨rfl, rfl⟩))
        go_ret
        exact ⟨rfl, by rw [← HG.out]; exact hM.below.trans (hT7.bl.mono hgw)⟩
  go_wp2_with fail
  go_loopw [5, 6, 7, 28] (fun all kept ends i wr => ∃ (k : Nat) (ks : List KT) (es : List Nat), k ≤ m ∧ k ≤ 40 ∧ i = .int .i64 k ∧ ks.length ≤ k ∧ Kept w ks es ∧ KMem g w wr all kept ends ks es) (fun all kept ends i _ => m - (intOf i).toNat)
  case atStart => exact ⟨0, [], [], Nat.zero_le _, by omega, rfl, Nat.le_refl _, Kept.nil w, hM0⟩
  case round =>
    clear hM0
    obtain ⟨k, ks, es, hk, hk40, rfl, hks, hK, hM⟩ := hrel
    have hlen := hK.small
    obtain ⟨aa, ca, rfl, -⟩ := hM.all.shape
    have hsz : g ≤ wr.heap.size := by rw [HG.out]; have := hM.below.size; exact this
    by_cases hlt : k < m
    · by_cases h40 : k = 40
      · subst h40
        obtain ⟨b2, off2, rfl, hb2, hcells⟩ := HT.out (by omega)
        obtain ⟨hrt, hnum, c0, c1, c2, c3⟩ := hcells 40 (by rw [HL.out]; exact hlt)
        have hb2' : b2 < g := by rw [HG.out]; exact hb2
        replace c0 := (hM.below.cell (p := ⟨b2, off2 + 40 * 4, none⟩) hb2').trans c0
        replace c1 := (hM.below.cell (p := ⟨b2, off2 + 40 * 4 + 1, none⟩) hb2').trans c1
        replace c2 := (hM.below.cell (p := ⟨b2, off2 + 40 * 4 + 2, none⟩) hb2').trans c2
        replace c3 := (hM.below.cell (p := ⟨b2, off2 + 40 * 4 + 3, none⟩) hb2').trans c3
        have hlt' : (40 : Int) < (m : Int) := by omega
        clear hcells
        go_wp2_with fail
        go_meet
        exact ⟨ks, es, hks, hK, hM.to ((Below.refl _ _).alloc (Nat.le_refl _) _) hsz⟩
      · have hk41 : k < 40 := by omega
        clear hk40
        have hne40 : ((k : Int) == 40) = false := by simpa using (by omega : ¬ (k : Int) = 40)
        obtain ⟨b2, off2, rfl, hb2, hcells⟩ := HT.out (by omega)
        obtain ⟨hrt, hnum, c0, c1, c2, c3⟩ := hcells k (by rw [HL.out]; exact hlt)
        have hb2' : b2 < g := by rw [HG.out]; exact hb2
        replace c0 := (hM.below.cell (p := ⟨b2, off2 + k * 4, none⟩) hb2').trans c0
        replace c1 := (hM.below.cell (p := ⟨b2, off2 + k * 4 + 1, none⟩) hb2').trans c1
        replace c2 := (hM.below.cell (p := ⟨b2, off2 + k * 4 + 2, none⟩) hb2').trans c2
        replace c3 := (hM.below.cell (p := ⟨b2, off2 + k * 4 + 3, none⟩) hb2').trans c3
        clear hcells
        generalize ts[k]'(by rw [HL.out]; exact hlt) = t at *
        obtain ⟨v, sz, nm, bs, ta, tc⟩ := t
        simp only at hrt hnum c0 c1 c2 c3
        have hle := hrt.le
        obtain ⟨bs', hmin, hrt', hbs'⟩ : ∃ bs' : List UInt8, min (bs.length : Int) 300 = (bs'.length : Int) ∧ Rd w ta bs'.length tc bs' ∧ bs'.length ≤ 300 := by
          refine ⟨bs.take 300, by simp; omega, ?_, by simp; omega⟩
          have h := hrt.take (min 300 bs.length) (by omega)
          rw [List.take_eq_take_min, List.length_take, Nat.min_assoc, Nat.min_self]
          exact h
        have hle' := hrt'.le
        have HR := Lib.hid hrt'
        clear hrt hrt'
        cases v with
        | true =>
          go_wp2_with fail
          clear c0 c1 c2 c3 hmin
          have hWb : Below wr.heap.size wr (wr.alloc (.cells #[.bool true, .int .i64 sz, .int .u64 (nm : Int), .slice ta bs'.length tc] 57)) := (Below.refl _ _).alloc (Nat.le_refl _) _
          have hg0 : (wr.alloc (.cells #[.bool true, .int .i64 sz, .int .u64 (nm : Int), .slice ta bs'.length tc] 57)).heap[wr.heap.size]? = some (.cells #[.bool true, .int .i64 sz, .int .u64 (nm : Int), .slice ta bs'.length tc] 57 (0, 0)) := heap_alloc_new _ _
          have hM1 := hM.to hWb hsz
          have hsz1 := Nat.le_trans hsz hWb.size
          clear hM
          generalize hp : wr.heap.size = p at *
          generalize wr.alloc (.cells #[.bool true, .int .i64 sz, .int .u64 (nm : Int), .slice ta bs'.length tc] 57) = W0 at *
          have d0 : W0.cell? ⟨p, 0, none⟩ = some (.bool true) := by rw [cell_of_row _ p _ _ _ (0, 0) hg0]; rfl
          have d1 : W0.cell? ⟨p, 1, none⟩ = some (.int .i64 sz) := by rw [cell_of_row _ p _ _ _ (0, 0) hg0]; rfl
          have d2 : W0.cell? ⟨p, 2, none⟩ = some (.int .u64 (nm : Int)) := by rw [cell_of_row _ p _ _ _ (0, 0) hg0]; rfl
          have d3 : W0.cell? ⟨p, 3, none⟩ = some (.slice ta bs'.length tc) := by rw [cell_of_row _ p _ _ _ (0, 0) hg0]; rfl
          have hpl : p < W0.heap.size := lt_of_block hg0
          have HP := Lib.hid hp
          clear hp hWb hg0
          have hRall : ∀ W, Below W0.heap.size W0 W → Rd W aa (encL ks).length ca (encL ks) := fun W h => hM1.all.rd.toRd.to h
          have hRb : ∀ W, Below W0.heap.size W0 W → Rd W ta bs'.length tc bs' := fun W h => (HR.out.to (by have := hM1.below; rw [HG.out] at this; exact this)).to h
          have HRall := Lib.hid hRall
          have HRb := Lib.hid hRb
          clear hRall hRb
          by_cases hok2 : okT ⟨true, sz, nm, bs', ta, tc⟩
          · obtain ⟨n2, HN2⟩ : ∃ n2, Hid ((encL ks ++ encT ⟨true, sz, nm, bs', ta, tc⟩).length = n2) := ⟨_, rfl⟩
            have HF : Hid (vecF (encL ks) bs' (tsz true sz) = (encL ks ++ encT ⟨true, sz, nm, bs', ta, tc⟩, 0)) := vec_put ⟨true, sz, nm, bs', ta, tc⟩ rfl hok2 (encL ks)
            go_region_held3 (fun w' => w'.cell? ⟨p, 0, none⟩ = some (.bool true) ∧ w'.cell? ⟨p, 1, none⟩ = some (.int .i64 sz) ∧ w'.cell? ⟨p, 2, none⟩ = some (.int .u64 (nm : Int)) ∧ w'.cell? ⟨p, 3, none⟩ = some (.slice ta bs'.length tc))
              (first
                | exact ⟨d0, d1, d2, d3⟩
                | exact ⟨(hbz.cell (p := ⟨p, 0, none⟩) hpl).trans d0, (hbz.cell (p := ⟨p, 1, none⟩) hpl).trans d1, (hbz.cell (p := ⟨p, 2, none⟩) hpl).trans d2, (hbz.cell (p := ⟨p, 3, none⟩) hpl).trans d3⟩
                | exact ⟨(hbv.cell (p := ⟨p, 0, none⟩) (Nat.lt_of_lt_of_le hpl hbz.size)).trans ((hbz.cell (p := ⟨p, 0, none⟩) hpl).trans d0), (hbv.cell (p := ⟨p, 1, none⟩) (Nat.lt_of_lt_of_le hpl hbz.size)).trans ((hbz.cell (p := ⟨p, 1, none⟩) hpl).trans d1), (hbv.cell (p := ⟨p, 2, none⟩) (Nat.lt_of_lt_of_le hpl hbz.size)).trans ((hbz.cell (p := ⟨p, 2, none⟩) hpl).trans d2), (hbv.cell (p := ⟨p, 3, none⟩) (Nat.lt_of_lt_of_le hpl hbz.size)).trans ((hbz.cell (p := ⟨p, 3, none⟩) hpl).trans d3)⟩
                | go_keep)
              (first
                | (go_at_call 23; refine (tsize_any true sz nm _ _ ⟨_, _, _, rfl⟩).mono ?_; rintro e wz ⟨rfl, hbz0⟩; have hbz : Below W0.heap.size W0 wz := undrew hbz0; clear hbz0)
                | (go_at_call 10; refine (Vec_any _ _ _ _ _ _ _ (encL ks) bs' _ (by omega) (by omega) (HRall.out _ hbz) (HRb.out _ hbz)).mono ?_; rintro e wv ⟨vv, rfl, hov, hbv⟩; rw [HF.out] at hov ⊢; obtain ⟨av, cv, rfl, -⟩ := hov.shape; simp only [HN2.out] at hov ⊢))
            have hpz := hbz.size
            have hpz2 := hbv.size
            have e0 : Below W0.heap.size W0 wv := hbz.trans (hbv.mono hpz)
            have hM2 := hM1.to e0 hsz1
            have x0 := (e0.cell (p := ⟨p, 0, none⟩) hpl).trans d0
            have x1 := (e0.cell (p := ⟨p, 1, none⟩) hpl).trans d1
            have x2 := (e0.cell (p := ⟨p, 2, none⟩) hpl).trans d2
            have x3 := (e0.cell (p := ⟨p, 3, none⟩) hpl).trans d3
            have hov2 : Own wv g 5 (.slice av n2 cv) (encL ks ++ encT ⟨true, sz, nm, bs', ta, tc⟩) := hov.mono (by omega)
            clear d0 d1 d2 d3 hbz hbv e0 hM1 hov
            have hkept := hM2.kept
            have hends := hM2.ends
            obtain ⟨iT, hiT, zT0, zT1, zT2⟩ := info_parts infoT
            obtain ⟨iI, hiI, zI0, zI1, zI2⟩ := info_parts infoI
            go_wp2_with (at_builtin; refine stand ?_)
            unfold Stand
            refine wpList_append_own _ rfl (.tmp 66) (.tmp 68) 53 rfl g 57 iT _ 4 48 Try.underlying53 hiT zT0 zT1 zT2 rfl (by decide) u6 ks.length _ rfl (World.ownsRow.alloc hkept _) ⟨wv.heap.size, 0, none⟩ 1 1 (cellsT ⟨true, sz, nm, bs', ta, tc⟩) rfl rfl (World.news_of_block (cs := (cellsT ⟨true, sz, nm, bs', ta, tc⟩).toArray) (heap_alloc_new wv _)) (by intro u hu; simp [cellsT] at hu; rcases hu with rfl | rfl | rfl | rfl <;> rfl) (by unfold maxLen; omega) (by omega) (by simp; omega) ?_
            intro kept' w5 hk5 hg5 _
            have hs5 : g ≤ w5.heap.size := (by have h := hg5.size; rw [World.size_alloc] at h; omega)
            have he5 := World.ownsRow.kept (World.ownsRow.alloc hends _) hg5 (row_ne hends hkept (show (3 : Nat) ≠ 57 by decide))
            have ha5 := World.ownsRow.kept (World.ownsRow.alloc hov2 _) hg5 (row_ne hov2 hkept (show (5 : Nat) ≠ 57 by decide))
            have hb5 := (hM2.below.alloc (by omega) _).grown hg5 (by rw [World.size_alloc]; omega) (fun q e => (World.ownsRow.lt hkept q e).1)
            clear hov2 hM2 hkept hends x0 x1 x2 x3 hg5
            go_wp2_with (at_builtin; refine stand ?_)
            unfold Stand
            refine wpList_append_own _ rfl (.tmp 70) (.tmp 73) 55 rfl g 3 iI _ 1 8 Try.underlying55 hiI zI0 zI1 zI2 rfl (by decide) u7 ks.length _ rfl (World.ownsRow.alloc he5 _) ⟨w5.heap.size, 0, none⟩ 1 1 [Value.int .i64 (n2 : Int)] rfl rfl (World.news_of_block (cs := #[Value.int .i64 (n2 : Int)]) (heap_alloc_new w5 _)) (by intro u hu; simp at hu; subst hu; rfl) (by unfold maxLen; omega) (by omega) (by rw [World.size_alloc]; omega) ?_
            intro ends' w6 he6 hg6 _
            have hk6 := World.ownsRow.kept (World.ownsRow.alloc hk5 _) hg6 (row_ne hk5 he5 (show (57 : Nat) ≠ 3 by decide))
            have ha6 := World.ownsRow.kept (World.ownsRow.alloc ha5 _) hg6 (row_ne ha5 he5 (show (5 : Nat) ≠ 3 by decide))
            have hb6 := (hb5.alloc (by omega) _).grown hg6 (by rw [World.size_alloc]; omega) (fun q e => (World.ownsRow.lt he5 q e).1)
            clear he5 hk5 ha5 hb5 hg6
            go_wp2_with fail
            go_roundw
            case rel =>
              refine ⟨k + 1, ks ++ [⟨true, sz, nm, bs', ta, tc⟩], es ++ [(encL (ks ++ [⟨true, sz, nm, bs', ta, tc⟩])).length], by omega, by omega, by go_num, by simp; omega, hK.add ⟨true, sz, nm, bs', ta, tc⟩ ⟨HR.out, hnum, hbs', hok2⟩, ?_⟩
              have ee : encL (ks ++ [⟨true, sz, nm, bs', ta, tc⟩]) = encL ks ++ encT ⟨true, sz, nm, bs', ta, tc⟩ := by simp [encL]
              have hn2 := HN2.out
              refine ⟨?_, ?_, ?_, hb6⟩
              · rw [ee]
                unfold Own at ha6 ⊢
                exact ha6
              · simpa using hk6
              · rw [ee, hn2]
                simpa [endV] using he6
            case measure => simp [intOf]; omega
          · have HF : Hid (vecF (encL ks) bs' (tsz true sz) = ([], 3)) := vec_no ⟨true, sz, nm, bs', ta, tc⟩ rfl hok2 (encL ks)
            go_region_held3 (fun w' => w'.cell? ⟨p, 0, none⟩ = some (.bool true) ∧ w'.cell? ⟨p, 1, none⟩ = some (.int .i64 sz) ∧ w'.cell? ⟨p, 2, none⟩ = some (.int .u64 (nm : Int)) ∧ w'.cell? ⟨p, 3, none⟩ = some (.slice ta bs'.length tc))
              (first
                | exact ⟨d0, d1, d2, d3⟩
                | exact ⟨(hbz.cell (p := ⟨p, 0, none⟩) hpl).trans d0, (hbz.cell (p := ⟨p, 1, none⟩) hpl).trans d1, (hbz.cell (p := ⟨p, 2, none⟩) hpl).trans d2, (hbz.cell (p := ⟨p, 3, none⟩) hpl).trans d3⟩
                | exact ⟨(hbv.cell (p := ⟨p, 0, none⟩) (Nat.lt_of_lt_of_le hpl hbz.size)).trans ((hbz.cell (p := ⟨p, 0, none⟩) hpl).trans d0), (hbv.cell (p := ⟨p, 1, none⟩) (Nat.lt_of_lt_of_le hpl hbz.size)).trans ((hbz.cell (p := ⟨p, 1, none⟩) hpl).trans d1), (hbv.cell (p := ⟨p, 2, none⟩) (Nat.lt_of_lt_of_le hpl hbz.size)).trans ((hbz.cell (p := ⟨p, 2, none⟩) hpl).trans d2), (hbv.cell (p := ⟨p, 3, none⟩) (Nat.lt_of_lt_of_le hpl hbz.size)).trans ((hbz.cell (p := ⟨p, 3, none⟩) hpl).trans d3)⟩
                | go_keep)
              (first
                | (go_at_call 23; refine (tsize_any true sz nm _ _ ⟨_, _, _, rfl⟩).mono ?_; rintro e wz ⟨rfl, hbz0⟩; have hbz : Below W0.heap.size W0 wz := undrew hbz0; clear hbz0)
                | (go_at_call 10; refine (Vec_any _ _ _ _ _ _ _ (encL ks) bs' _ (by omega) (by omega) (HRall.out _ hbz) (HRb.out _ hbz)).mono ?_; rintro e wv ⟨vv, rfl, hov, hbv⟩; rw [HF.out] at hov ⊢; obtain ⟨av, cv, rfl, -⟩ := hov.shape))
            have hpz := hbz.size
            have hpz2 := hbv.size
            have e0 : Below W0.heap.size W0 wv := hbz.trans (hbv.mono hpz)
            have hM2 := hM1.to e0 hsz1
            clear d0 d1 d2 d3 hbz hbv hov e0 hM1
            go_wp2_with fail
            go_roundw
            case rel => exact ⟨k + 1, ks, es, by omega, by omega, by go_num, by omega, hK, hM2⟩
            case measure => simp [intOf]; omega
        | false =>
          go_wp2_with fail
          clear c0 c1 c2 c3 hmin
          have hWb : Below wr.heap.size wr (wr.alloc (.cells #[.bool false, .int .i64 sz, .int .u64 (nm : Int), .slice ta bs'.length tc] 57)) := (Below.refl _ _).alloc (Nat.le_refl _) _
          have hg0 : (wr.alloc (.cells #[.bool false, .int .i64 sz, .int .u64 (nm : Int), .slice ta bs'.length tc] 57)).heap[wr.heap.size]? = some (.cells #[.bool false, .int .i64 sz, .int .u64 (nm : Int), .slice ta bs'.length tc] 57 (0, 0)) := heap_alloc_new _ _
          have hM1 := hM.to hWb hsz
          have hsz1 := Nat.le_trans hsz hWb.size
          clear hM
          generalize hp : wr.heap.size = p at *
          generalize wr.alloc (.cells #[.bool false, .int .i64 sz, .int .u64 (nm : Int), .slice ta bs'.length tc] 57) = W0 at *
          have d0 : W0.cell? ⟨p, 0, none⟩ = some (.bool false) := by rw [cell_of_row _ p _ _ _ (0, 0) hg0]; rfl
          have d1 : W0.cell? ⟨p, 1, none⟩ = some (.int .i64 sz) := by rw [cell_of_row _ p _ _ _ (0, 0) hg0]; rfl
          have d2 : W0.cell? ⟨p, 2, none⟩ = some (.int .u64 (nm : Int)) := by rw [cell_of_row _ p _ _ _ (0, 0) hg0]; rfl
          have d3 : W0.cell? ⟨p, 3, none⟩ = some (.slice ta bs'.length tc) := by rw [cell_of_row _ p _ _ _ (0, 0) hg0]; rfl
          have hpl : p < W0.heap.size := lt_of_block hg0
          have HP := Lib.hid hp
          clear hp hWb hg0
          have hRall : ∀ W, Below W0.heap.size W0 W → Rd W aa (encL ks).length ca (encL ks) := fun W h => hM1.all.rd.toRd.to h
          have hRb : ∀ W, Below W0.heap.size W0 W → Rd W ta bs'.length tc bs' := fun W h => (HR.out.to (by have := hM1.below; rw [HG.out] at this; exact this)).to h
          have HRall := Lib.hid hRall
          have HRb := Lib.hid hRb
          clear hRall hRb
          by_cases hok2 : okT ⟨false, sz, nm, bs', ta, tc⟩
          · obtain ⟨n2, HN2⟩ : ∃ n2, Hid ((encL ks ++ encT ⟨false, sz, nm, bs', ta, tc⟩).length = n2) := ⟨_, rfl⟩
            have HF : Hid (numF (encL ks) nm (tsz false sz) = (encL ks ++ encT ⟨false, sz, nm, bs', ta, tc⟩, 0)) := num_put ⟨false, sz, nm, bs', ta, tc⟩ rfl hok2 (encL ks)
            go_region_held3 (fun w' => w'.cell? ⟨p, 0, none⟩ = some (.bool false) ∧ w'.cell? ⟨p, 1, none⟩ = some (.int .i64 sz) ∧ w'.cell? ⟨p, 2, none⟩ = some (.int .u64 (nm : Int)) ∧ w'.cell? ⟨p, 3, none⟩ = some (.slice ta bs'.length tc))
              (first
                | exact ⟨d0, d1, d2, d3⟩
                | exact ⟨(hbz.cell (p := ⟨p, 0, none⟩) hpl).trans d0, (hbz.cell (p := ⟨p, 1, none⟩) hpl).trans d1, (hbz.cell (p := ⟨p, 2, none⟩) hpl).trans d2, (hbz.cell (p := ⟨p, 3, none⟩) hpl).trans d3⟩
                | exact ⟨(hbv.cell (p := ⟨p, 0, none⟩) (Nat.lt_of_lt_of_le hpl hbz.size)).trans ((hbz.cell (p := ⟨p, 0, none⟩) hpl).trans d0), (hbv.cell (p := ⟨p, 1, none⟩) (Nat.lt_of_lt_of_le hpl hbz.size)).trans ((hbz.cell (p := ⟨p, 1, none⟩) hpl).trans d1), (hbv.cell (p := ⟨p, 2, none⟩) (Nat.lt_of_lt_of_le hpl hbz.size)).trans ((hbz.cell (p := ⟨p, 2, none⟩) hpl).trans d2), (hbv.cell (p := ⟨p, 3, none⟩) (Nat.lt_of_lt_of_le hpl hbz.size)).trans ((hbz.cell (p := ⟨p, 3, none⟩) hpl).trans d3)⟩
                | go_keep)
              (first
                | (go_at_call 23; refine (tsize_any false sz nm _ _ ⟨_, _, _, rfl⟩).mono ?_; rintro e wz ⟨rfl, hbz0⟩; have hbz : Below W0.heap.size W0 wz := undrew hbz0; clear hbz0)
                | (go_at_call 8; refine (Num_any _ _ _ _ _ (encL ks) _ (by omega) (by omega) (HRall.out _ hbz)).mono ?_; rintro e wv ⟨vv, rfl, hov, hbv⟩; rw [HF.out] at hov ⊢; obtain ⟨av, cv, rfl, -⟩ := hov.shape; simp only [HN2.out] at hov ⊢))
            have hpz := hbz.size
            have hpz2 := hbv.size
            have e0 : Below W0.heap.size W0 wv := hbz.trans (hbv.mono hpz)
            have hM2 := hM1.to e0 hsz1
            have x0 := (e0.cell (p := ⟨p, 0, none⟩) hpl).trans d0
            have x1 := (e0.cell (p := ⟨p, 1, none⟩) hpl).trans d1
            have x2 := (e0.cell (p := ⟨p, 2, none⟩) hpl).trans d2
            have x3 := (e0.cell (p := ⟨p, 3, none⟩) hpl).trans d3
            have hov2 : Own wv g 5 (.slice av n2 cv) (encL ks ++ encT ⟨false, sz, nm, bs', ta, tc⟩) := hov.mono (by omega)
            clear d0 d1 d2 d3 hbz hbv e0 hM1 hov
            have hkept := hM2.kept
            have hends := hM2.ends
            obtain ⟨iT, hiT, zT0, zT1, zT2⟩ := info_parts infoT
            obtain ⟨iI, hiI, zI0, zI1, zI2⟩ := info_parts infoI
            go_wp2_with (at_builtin; refine stand ?_)
            unfold Stand
            refine wpList_append_own _ rfl (.tmp 66) (.tmp 68) 53 rfl g 57 iT _ 4 48 Try.underlying53 hiT zT0 zT1 zT2 rfl (by decide) u6 ks.length _ rfl (World.ownsRow.alloc hkept _) ⟨wv.heap.size, 0, none⟩ 1 1 (cellsT ⟨false, sz, nm, bs', ta, tc⟩) rfl rfl (World.news_of_block (cs := (cellsT ⟨false, sz, nm, bs', ta, tc⟩).toArray) (heap_alloc_new wv _)) (by intro u hu; simp [cellsT] at hu; rcases hu with rfl | rfl | rfl | rfl <;> rfl) (by unfold maxLen; omega) (by omega) (by simp; omega) ?_
            intro kept' w5 hk5 hg5 _
            have hs5 : g ≤ w5.heap.size := (by have h := hg5.size; rw [World.size_alloc] at h; omega)
            have he5 := World.ownsRow.kept (World.ownsRow.alloc hends _) hg5 (row_ne hends hkept (show (3 : Nat) ≠ 57 by decide))
            have ha5 := World.ownsRow.kept (World.ownsRow.alloc hov2 _) hg5 (row_ne hov2 hkept (show (5 : Nat) ≠ 57 by decide))
            have hb5 := (hM2.below.alloc (by omega) _).grown hg5 (by rw [World.size_alloc]; omega) (fun q e => (World.ownsRow.lt hkept q e).1)
            clear hov2 hM2 hkept hends x0 x1 x2 x3 hg5
            go_wp2_with (at_builtin; refine stand ?_)
            unfold Stand
            refine wpList_append_own _ rfl (.tmp 70) (.tmp 73) 55 rfl g 3 iI _ 1 8 Try.underlying55 hiI zI0 zI1 zI2 rfl (by decide) u7 ks.length _ rfl (World.ownsRow.alloc he5 _) ⟨w5.heap.size, 0, none⟩ 1 1 [Value.int .i64 (n2 : Int)] rfl rfl (World.news_of_block (cs := #[Value.int .i64 (n2 : Int)]) (heap_alloc_new w5 _)) (by intro u hu; simp at hu; subst hu; rfl) (by unfold maxLen; omega) (by omega) (by rw [World.size_alloc]; omega) ?_
            intro ends' w6 he6 hg6 _
            have hk6 := World.ownsRow.kept (World.ownsRow.alloc hk5 _) hg6 (row_ne hk5 he5 (show (57 : Nat) ≠ 3 by decide))
            have ha6 := World.ownsRow.kept (World.ownsRow.alloc ha5 _) hg6 (row_ne ha5 he5 (show (5 : Nat) ≠ 3 by decide))
            have hb6 := (hb5.alloc (by omega) _).grown hg6 (by rw [World.size_alloc]; omega) (fun q e => (World.ownsRow.lt he5 q e).1)
            clear he5 hk5 ha5 hb5 hg6
            go_wp2_with fail
            go_roundw
            case rel =>
              refine ⟨k + 1, ks ++ [⟨false, sz, nm, bs', ta, tc⟩], es ++ [(encL (ks ++ [⟨false, sz, nm, bs', ta, tc⟩])).length], by omega, by omega, by go_num, by simp; omega, hK.add ⟨false, sz, nm, bs', ta, tc⟩ ⟨HR.out, hnum, hbs', hok2⟩, ?_⟩
              have ee : encL (ks ++ [⟨false, sz, nm, bs', ta, tc⟩]) = encL ks ++ encT ⟨false, sz, nm, bs', ta, tc⟩ := by simp [encL]
              have hn2 := HN2.out
              refine ⟨?_, ?_, ?_, hb6⟩
              · rw [ee]
                unfold Own at ha6 ⊢
                exact ha6
              · simpa using hk6
              · rw [ee, hn2]
                simpa [endV] using he6
            case measure => simp [intOf]; omega
          · have HF : Hid (numF (encL ks) nm (tsz false sz) = ([], 3)) := num_no ⟨false, sz, nm, bs', ta, tc⟩ rfl hok2 (encL ks)
            go_region_held3 (fun w' => w'.cell? ⟨p, 0, none⟩ = some (.bool false) ∧ w'.cell? ⟨p, 1, none⟩ = some (.int .i64 sz) ∧ w'.cell? ⟨p, 2, none⟩ = some (.int .u64 (nm : Int)) ∧ w'.cell? ⟨p, 3, none⟩ = some (.slice ta bs'.length tc))
              (first
                | exact ⟨d0, d1, d2, d3⟩
                | exact ⟨(hbz.cell (p := ⟨p, 0, none⟩) hpl).trans d0, (hbz.cell (p := ⟨p, 1, none⟩) hpl).trans d1, (hbz.cell (p := ⟨p, 2, none⟩) hpl).trans d2, (hbz.cell (p := ⟨p, 3, none⟩) hpl).trans d3⟩
                | exact ⟨(hbv.cell (p := ⟨p, 0, none⟩) (Nat.lt_of_lt_of_le hpl hbz.size)).trans ((hbz.cell (p := ⟨p, 0, none⟩) hpl).trans d0), (hbv.cell (p := ⟨p, 1, none⟩) (Nat.lt_of_lt_of_le hpl hbz.size)).trans ((hbz.cell (p := ⟨p, 1, none⟩) hpl).trans d1), (hbv.cell (p := ⟨p, 2, none⟩) (Nat.lt_of_lt_of_le hpl hbz.size)).trans ((hbz.cell (p := ⟨p, 2, none⟩) hpl).trans d2), (hbv.cell (p := ⟨p, 3, none⟩) (Nat.lt_of_lt_of_le hpl hbz.size)).trans ((hbz.cell (p := ⟨p, 3, none⟩) hpl).trans d3)⟩
                | go_keep)
              (first
                | (go_at_call 23; refine (tsize_any false sz nm _ _ ⟨_, _, _, rfl⟩).mono ?_; rintro e wz ⟨rfl, hbz0⟩; have hbz : Below W0.heap.size W0 wz := undrew hbz0; clear hbz0)
                | (go_at_call 8; refine (Num_any _ _ _ _ _ (encL ks) _ (by omega) (by omega) (HRall.out _ hbz)).mono ?_; rintro e wv ⟨vv, rfl, hov, hbv⟩; rw [HF.out] at hov ⊢; obtain ⟨av, cv, rfl, -⟩ := hov.shape))
            have hpz := hbz.size
            have hpz2 := hbv.size
            have e0 : Below W0.heap.size W0 wv := hbz.trans (hbv.mono hpz)
            have hM2 := hM1.to e0 hsz1
            clear d0 d1 d2 d3 hbz hbv hov e0 hM1
            go_wp2_with fail
            go_roundw
            case rel => exact ⟨k + 1, ks, es, by omega, by omega, by go_num, by omega, hK, hM2⟩
            case measure => simp [intOf]; omega
    · have hlt' : ¬ (k : Int) < (m : Int) := by omega
      go_wp2_with fail
      go_meet
      exact ⟨ks, es, by omega, hK, hM⟩
end Go.Proofs.Ytfcncojellhloaa
