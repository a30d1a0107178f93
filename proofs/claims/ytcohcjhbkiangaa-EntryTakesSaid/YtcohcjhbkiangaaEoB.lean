/-
  The document's TakeItem: its contract. Conditions: those in each statement.
-/
import Derived.Test.YtcohcjhbkiangaaEoA
import Derived.Deep.CutBlock
namespace Go.Proofs.Ytcohcjhbkiangaa
open Go.RowKit

set_option maxRecDepth 100000 in
set_option maxHeartbeats 4000000 in
theorem refTakeItem_any (la : Option Addr) (ln lc : Nat) (xa : Option Addr) (xn xc : Nat) (ls xs : List UInt8) (w : World) (hml : ln ≤ 140737488355328) (hmx : xn ≤ 140737488355328) (hrl : Rd w la ln lc ls) (hrx : Rd w xa xn xc xs) :
    Calls Try.prog 30 #[.agg #[.slice la ln lc, .slice xa xn xc]] w (TRes w (takeItemR ls xs)) := by
  have hlnl := hrl.len
  have hb0 : Below w.heap.size w ((w.alloc (.cells #[.slice la ln lc, .slice xa xn xc] 34)).alloc (.cells #[.int .u64 0, .slice none 0 0] 25)) := (hal w _).alloc (by simp) _
  have hI0 : Arr ((w.alloc (.cells #[.slice la ln lc, .slice xa xn xc] 34)).alloc (.cells #[.int .u64 0, .slice none 0 0] 25)) w.heap.size 34 [.slice la ln lc, .slice xa xn xc] := (Arr.new w _ _).kept (hal _ _)
  have hE0 : Arr ((w.alloc (.cells #[.slice la ln lc, .slice xa xn xc] 34)).alloc (.cells #[.int .u64 0, .slice none 0 0] 25)) (w.heap.size + 1) 25 [.int .u64 0, .slice none 0 0] := by
    have := Arr.new (w.alloc (.cells #[.slice la ln lc, .slice xa xn xc] 34)) 25 [.int .u64 0, .slice none 0 0]
    simpa using this
  have hs0 : ((w.alloc (.cells #[.slice la ln lc, .slice xa xn xc] 34)).alloc (.cells #[.int .u64 0, .slice none 0 0] 25)).heap.size = w.heap.size + 2 := by simp
  obtain ⟨TR, hTR⟩ : ∃ TR, TR = takeItemR ls xs := ⟨_, rfl⟩
  have HTR := Lib.hid hTR
  rw [← hTR]
  clear hTR
  have hend : Hid (TR = ((0, []), 5) → ∀ W, Arr W (w.heap.size + 1) 25 [.int .u64 0, .slice none 0 0] → Below w.heap.size w W → TRes w TR (.returned (.tuple #[.agg #[.int .u64 0, .slice none 0 0], .int .i64 5])) W) := by
    show _ → _
    rintro rfl W hW hb
    exact ⟨none, 0, 0, rfl, OwnC.nil _ _, hb⟩
  by_cases h17 : ln < 17
  · have hT : Hid (TR = ((0, []), 5)) := by rw [HTR.out]; exact refItem_none ls xs (.inl (by omega))
    have i0 := hI0.cell 0
    have i1 := hI0.cell 1
    have y0 := hE0.cell 0
    have y1 := hE0.cell 1
    have z0 := hE0.frozen 0
    have z1 := hE0.frozen 1
    simp only [List.getElem?_cons_zero, List.getElem?_cons_succ] at y0 y1 i0 i1
    clear hrl hrx hlnl hs0
    have HE := Lib.hid hE0
    have HB := Lib.hid hb0
    clear hE0 hb0 hI0
    go_enter Try.func30, Try.ntmps30
    go_wp2_with fail
    refine end_cell2 rfl (w.heap.size + 1) 25 [.int .u64 0, .slice none 0 0] _ _ rfl HE.out Try.underlying25 rfl sizeE rfl rfl ?_
    exact hend.out hT.out _ HE.out HB.out
  · have hlc := hrl.le
    obtain ⟨b, off, rfl, hbl, -⟩ := hrl.mem (by omega)
    have HRX := Lib.hid hrx
    have HRL := Lib.hid hrl
    have r8 : Rd w (some ⟨b, off + 2, none⟩) 8 (lc - 2) ((ls.drop 2).take 8) := rd_sub hrl 2 10 (by omega) (by omega) (by omega)
    have r15 : Rd w (some ⟨b, off + 15, none⟩) (ln - 2 - 15) (lc - 15) (rC ls) := by
      have := rd_sub hrl 15 (ln - 2) (by omega) (by omega) (by omega)
      unfold rC
      rwa [show ls.length - 17 = ln - 2 - 15 by omega]
    have HN := Lib.hid (refNew_any _ 8 (lc - 2) ((ls.drop 2).take 8) _ (by omega) (r8.to hb0))
    have R15 := Lib.hid r15
    have hcl := Lib.hid (rT_le ls)
    have hlen2 : ((ls.drop 2).take 8).length ≤ 8 := by simp; omega
    have i0 := hI0.cell 0
    have i1 := hI0.cell 1
    simp only [List.getElem?_cons_zero, List.getElem?_cons_succ] at i0 i1
    clear hrl hrx r8 r15
    go_enter Try.func30, Try.ntmps30
    go_wp2_with fail
    refine HN.out.mono ?_
    rintro e w1 ⟨q, r, rfl, hr1, hq1, lr1, hb1⟩
    generalize World.alloc (World.alloc w _) _ = w0 at *
    have hI1 := hI0.kept hb1
    have hE1 := hE0.kept hb1
    have hb01 := hb0.trans (hb1.mono hb0.size)
    have hs1 := hb1.size
    obtain ⟨B, hB⟩ : ∃ B, B = w.heap.size := ⟨_, rfl⟩
    rw [← hB] at hI1 hE1 hs0 ⊢
    have HB := Lib.hid hB
    have hs0' : B + 2 ≤ w0.heap.size := by omega
    clear hB hs0 hI0 hE0 hb0 hb1 hq1 i0 i1 HN
    go_wp2_with fail
    refine (refRNum_any q r _ 8 w1 hr1).mono ?_
    rintro e w2 ⟨rfl, -, hg2⟩
    rw [show (rnumF ((ls.drop 2).take 8) 8).1 = rT ls from rfl]
    have hf2 : Fr [r] w1 w2 := Fr.of_grown hg2 (by simp)
    have hI2 := hf2.arr hI1 (by simp; omega)
    have hE2 := hf2.arr hE1 (by simp; omega)
    have HF2 := Lib.hid ((Fr.of_below (rs := []) hb01).then hf2 (by intro x hx; simp at hx; have := HB.out; subst hx; left; omega))
    have hs2 := hf2.size
    have ht := hcl.out
    obtain ⟨t, htq⟩ : ∃ t, t = rT ls := ⟨_, rfl⟩
    rw [← htq] at ht ⊢
    have HTQ := Lib.hid htq
    have i0 := hI2.cell 0
    have i1 := hI2.cell 1
    simp only [List.getElem?_cons_zero, List.getElem?_cons_succ] at i0 i1
    clear htq hcl hI1 hE1 hr1 hg2 hf2 hb01
    have hrlow : Rd w2 (some ⟨b, off + 15, none⟩) (ln - 2 - 15) (lc - 15) (rC ls) := R15.out.to (HF2.out.below (Nat.le_refl _) (by simp))
    have hcert : Cert w2 (B + 2) (.slice (some ⟨b, off + 15, none⟩) (ln - 2 - 15) (lc - 15)) (rC ls) := .inr ⟨_, _, _, rfl, hrlow, fun ad e _ => by cases e; have := HB.out; show b < B + 2; omega⟩
    have hU := Lib.hid (chnG_lit (B := B + 2) (w := w2) (by omega) hcert)
    have hb3 := hal w2 (.cells #[.slice (some ⟨b, off + 15, none⟩) (ln - 2 - 15) (lc - 15)] 27)
    have hB3 : B + 2 ≤ (w2.alloc (.cells #[.slice (some ⟨b, off + 15, none⟩) (ln - 2 - 15) (lc - 15)] 27)).heap.size := Nat.le_trans (by omega) hb3.size
    have HB3 := Lib.hid hb3
    clear hrlow hcert hb3
    go_wp2_with (at_builtin; go_loud (refine wl_appendM rfl (.tmp 27) (.tmp 35) rfl (B + 2) (.slice none 0 0) [] (ChnG.of (OwnC.nil _ _)) rfl _ [rC ls] hU.out rfl (by simp) hB3 ?_); intro v4 w4 hG4 hb4 hs4; obtain ⟨a4, n4, c4, rfl, -⟩ := hG4.chn; go_loud (have HG4 := Lib.hid hG4); have hbt : Below (B + 2) w2 w4 := (HB3.out.mono (by omega)).trans hb4; have hI4 := hI2.to hbt (by omega); have hE4 := hE2.to hbt (by omega); have i0 := hI4.cell 0; have i1 := hI4.cell 1; simp only [List.getElem?_cons_zero, List.getElem?_cons_succ] at i0 i1)
    have HF4 := Lib.hid ((HF2.out.below (B := w.heap.size) (Nat.le_refl _) (by simp)).trans (hbt.mono (by have := HB.out; omega)))
    have hsz4 := HF4.out.size
    have hs4' : B + 2 ≤ w4.heap.size := by have := hbt.size; omega
    clear hI2 hE2 hbt hb4
    refine (refCerts_any xa xn xc xs w4 hmx (HRX.out.to HF4.out)).mono ?_
    rintro e w5 ⟨hb5, hres⟩
    have hI5 := hI4.kept hb5
    have hE5 := hE4.kept hb5
    have HF5 := Lib.hid (HF4.out.trans (hb5.mono hsz4))
    have hs5 := hb5.size
    have HG5 := Lib.hid (HG4.out.to hb5)
    rcases hres with ⟨l, v, hl, rfl, hO⟩ | ⟨hno, rfl⟩
    · have hO5 := Lib.hid (ChnG.of (hO.mono hs4'))
      obtain ⟨al, nl, cl, rfl, -⟩ := hO.chn
      have hll : Hid (l.length ≤ 5592405) := by
        show _ ≤ _
        have h1 := cat_count l
        have h2 := hl.1
        omega
      have HL := Lib.hid hl
      have hB5 : B + 2 ≤ w5.heap.size := by omega
      clear hO hl hb5 hI4 hE4 i0 i1
      go_wp2_with (at_builtin; go_loud (refine wl_appendM rfl (.tmp 47) (.tmp 48) rfl (B + 2) (.slice a4 n4 c4) [rC ls] HG5.out rfl (.slice al nl cl) l hO5.out rfl (by have := hll.out; simp; omega) hB5 ?_); intro v6 w6 hG6 hb6 hs6; obtain ⟨a6, n6, c6, rfl, hch6⟩ := hG6.chn)
      have hlens : Hid (∀ x ∈ [rC ls] ++ l, x.length ≤ 140737488355328) := by
        intro x hx
        rcases List.mem_append.1 hx with h | h
        · rw [List.mem_singleton.1 h]
          unfold rC
          rw [List.length_take, List.length_drop]
          omega
        · have h1 := cat_len_mem h
          have h2 := HL.out.1
          omega
      have hcs : Hid ((itemE t ([rC ls] ++ l) = 0 ∧ itemL t ([rC ls] ++ l) = ls ∧ itemX ([rC ls] ++ l) = xs ∧ TR = ((t, [rC ls] ++ l), 0)) ∨
          ((itemE t ([rC ls] ++ l) ≠ 0 ∨ itemL t ([rC ls] ++ l) ≠ ls ∨ itemX ([rC ls] ++ l) ≠ xs) ∧ TR = ((0, []), 5))) := by
        have := refItem_case ls xs l HL.out
        rwa [← HTQ.out, ← HTR.out] at this
      have hn6 : n6 ≤ 6000000 := by
        have h1 := hch6.len
        have h2 := hll.out
        simp only [List.length_append, List.length_cons, List.length_nil] at h1
        omega
      generalize [rC ls] ++ l = ch at *
      have hI6 := hI5.to hb6 (by omega)
      have hE6 := hE5.to hb6 (by omega)
      have HF6 := Lib.hid (HF5.out.trans (hb6.mono (by have := HB.out; omega)))
      have hX7 : Arr (w6.alloc (.cells #[.int .u64 (t : Int), .slice a6 n6 c6] 25)) w6.heap.size 25 [.int .u64 (t : Int), .slice a6 n6 c6] := Arr.new w6 _ _
      have hb7 := hal w6 (.cells #[.int .u64 (t : Int), .slice a6 n6 c6] 25)
      have hI7 := hI6.kept hb7
      have hE7 := hE6.kept hb7
      have HCH7 := Lib.hid (hch6.to hb7)
      have HF7 := Lib.hid (HF6.out.trans (hb7.mono HF6.out.size))
      refine (refItem_any t a6 n6 c6 ch _ (by omega) ht HCH7.out).mono ?_
      rintro e w8 ⟨a1, n1, c1, a2, n2, c2, rfl, o1, o2, hb8⟩
      have hX8 := hX7.kept hb8
      have hI8 := hI7.kept hb8
      have hE8 := hE7.kept hb8
      have HCH8 := Lib.hid (HCH7.out.to hb8)
      have HF8 := Lib.hid (HF7.out.trans (hb8.mono HF7.out.size))
      obtain ⟨X, hX⟩ : ∃ X, X = w6.heap.size := ⟨_, rfl⟩
      rw [← hX] at hX8 ⊢
      clear hX hX7 hI7 hE7 hb7 hI6 hE6 hb6 hG6 hch6 hI5 hE5 hb8
      have hY9 : Arr (w8.alloc (.cells #[.slice a1 n1 c1, .slice a2 n2 c2] 34)) w8.heap.size 34 [.slice a1 n1 c1, .slice a2 n2 c2] := Arr.new w8 _ _
      have hb9 := hal w8 (.cells #[.slice a1 n1 c1, .slice a2 n2 c2] 34)
      have hX9 := hX8.kept hb9
      have hI9 := hI8.kept hb9
      have hE9 := hE8.kept hb9
      have HCH9 := Lib.hid (HCH8.out.to hb9)
      have HF9 := Lib.hid (HF8.out.trans (hb9.mono HF8.out.size))
      have q1 := o1.rd.toRd.to hb9
      have q2 := o2.rd.toRd.to hb9
      have x0 := hX8.cell 0
      have x1 := hX8.cell 1
      simp only [List.getElem?_cons_zero, List.getElem?_cons_succ] at x0 x1
      have lY : w8.heap.size < (w8.alloc (.cells #[.slice a1 n1 c1, .slice a2 n2 c2] 34)).heap.size := hY9.lt
      go_upto_region 12 with (fail)
      generalize w8.alloc (.cells #[.slice a1 n1 c1, .slice a2 n2 c2] 34) = w9 at *
      have r1 := HRL.out.to HF9.out
      have r2 := HRX.out.to HF9.out
      have t1 := run_bstr bt Try.underlying9 q1
      have t2 := run_bstr bt Try.underlying9 q2
      have t3 := run_bstr bt Try.underlying9 r1
      have t4 := run_bstr bt Try.underlying9 r2
      have i0 := hI9.cell 0
      have i1 := hI9.cell 1
      have d0 := hY9.cell 0
      have d1 := hY9.cell 1
      have x0 := hX9.cell 0
      have x1 := hX9.cell 1
      have y0 := hE9.cell 0
      have y1 := hE9.cell 1
      have z0 := hE9.frozen 0
      have z1 := hE9.frozen 1
      simp only [List.getElem?_cons_zero, List.getElem?_cons_succ] at i0 i1 d0 d1 x0 x1 y0 y1
      have HE9 := Lib.hid hE9
      clear hX8 hI8 hE8 hb9 hY9 hX9 hI9 hE9 q1 q2 r1 r2 o1 o2 lY
      rcases hcs.out with ⟨g1, g2, g3, g4⟩ | ⟨g1, g4⟩
      · rw [g1]
        rw [g2] at t1
        rw [g3] at t2
        subst g4
        clear g1 g2 g3
        go_wp2_with fail
        refine (refOwn_any t a6 n6 c6 ch w9 (by omega) hlens.out HCH9.out).mono ?_
        rintro e w10 ⟨aq, nq, cq, rfl, hOq, hbq⟩
        have hEq := HE9.out.kept hbq
        have HFq := Lib.hid (HF9.out.trans (hbq.mono HF9.out.size))
        have y0 := hEq.cell 0
        have y1 := hEq.cell 1
        have z0 := hEq.frozen 0
        have z1 := hEq.frozen 1
        simp only [List.getElem?_cons_zero, List.getElem?_cons_succ] at y0 y1
        have hR := Lib.hid ((hEq.store 0 (.int .u64 (t : Int))).store 1 (.slice aq nq cq))
        have hg := setCells_grown (B + 1) [.int .u64 (t : Int), .slice aq nq cq] w10 0
        have hOO := Lib.hid ((hOq.mono HF9.out.size).fr (Fr.of_grown hg (rs := [B + 1]) (by simp)) (by intro x hx; simp at hx; subst hx; exact .inr ⟨_, _, hEq, by decide, by decide⟩))
        clear hbq hEq hOq t1 t2 t3 t4 i0 i1 d0 d1 x0 x1
        go_wp2_with fail
        refine end_cell2 rfl (B + 1) 25 [.int .u64 (t : Int), .slice aq nq cq] _ _ rfl hR.out Try.underlying25 rfl sizeE rfl rfl ?_
        exact ⟨aq, nq, cq, rfl, hOO.out, HFq.out.grown hg HFq.out.size (by intro k hk; cases hk; have := HB.out; omega)⟩
      · have hfin := Lib.hid (hend.out g4 _ (by rw [← HB.out]; exact (HE9.out.store 0 (.int .u64 0)).store 1 (.slice none 0 0)) (HF9.out.grown (setCells_grown (B + 1) [.int .u64 0, .slice none 0 0] w9 0) HF9.out.size (by intro k hk; cases hk; have := HB.out; omega)))
        have hR := Lib.hid ((HE9.out.store 0 (.int .u64 0)).store 1 (.slice none 0 0))
        clear g4
        by_cases h1 : itemE t ch = 0
        · rw [h1]
          by_cases h2 : itemL t ch = ls
          · have h3 : itemX ch ≠ xs := g1.elim (fun h => absurd h1 h) (fun h => h.elim (fun h => absurd h2 h) id)
            rw [h2] at t1
            have ne1 : ((bstr (itemX ch)).toList == (bstr xs).toList) = false := by rw [bstr_toList, bstr_toList]; simpa using h3
            have ne2 : ¬ (bstr (itemX ch)).toList = (bstr xs).toList := by rw [bstr_toList, bstr_toList]; exact h3
            clear g1 h1 h2 h3
            generalize bstr (itemX ch) = s1 at *
            generalize bstr xs = s2 at *
            go_wp2_with fail
            refine end_cell2 rfl (B + 1) 25 [.int .u64 0, .slice none 0 0] _ _ rfl hR.out Try.underlying25 rfl sizeE rfl rfl ?_
            exact hfin.out
          · have ne1 : ((bstr (itemL t ch)).toList == (bstr ls).toList) = false := by rw [bstr_toList, bstr_toList]; simpa using h2
            have ne2 : ¬ (bstr (itemL t ch)).toList = (bstr ls).toList := by rw [bstr_toList, bstr_toList]; exact h2
            clear g1 h1 h2
            generalize bstr (itemL t ch) = s1 at *
            generalize bstr ls = s2 at *
            go_wp2_with fail
            refine end_cell2 rfl (B + 1) 25 [.int .u64 0, .slice none 0 0] _ _ rfl hR.out Try.underlying25 rfl sizeE rfl rfl ?_
            exact hfin.out
        · have hq : (itemE t ch != 0) = true := by simpa using h1
          clear g1 h1 t1 t2 t3 t4
          generalize itemE t ch = e7 at *
          go_wp2_with fail
          refine end_cell2 rfl (B + 1) 25 [.int .u64 0, .slice none 0 0] _ _ rfl hR.out Try.underlying25 rfl sizeE rfl rfl ?_
          exact hfin.out
    · have hT : Hid (TR = ((0, []), 5)) := by rw [HTR.out]; exact refItem_none ls xs (.inr hno)
      have y0 := hE5.cell 0
      have y1 := hE5.cell 1
      have z0 := hE5.frozen 0
      have z1 := hE5.frozen 1
      simp only [List.getElem?_cons_zero, List.getElem?_cons_succ] at y0 y1
      have hR := Lib.hid ((hE5.store 0 (.int .u64 0)).store 1 (.slice none 0 0))
      have HE := Lib.hid (HF5.out.grown (setCells_grown (B + 1) [.int .u64 0, .slice none 0 0] w5 0) HF5.out.size (by intro k hk; cases hk; have := HB.out; omega))
      clear hno hE4 hI4 hI5 hE5 hb5 i0 i1
      go_wp2_with fail
      refine end_cell2 rfl (B + 1) 25 [.int .u64 0, .slice none 0 0] _ _ rfl hR.out Try.underlying25 rfl sizeE rfl rfl ?_
      exact hend.out hT.out _ (by rw [← HB.out]; exact hR.out) HE.out
end Go.Proofs.Ytcohcjhbkiangaa
