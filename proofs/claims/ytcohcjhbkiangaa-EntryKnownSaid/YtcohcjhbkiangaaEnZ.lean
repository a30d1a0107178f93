/-
  The document's TakeRecord: its contract. Conditions: those in each statement.
-/
import Derived.Test.YtcohcjhbkiangaaEnY
namespace Go.Proofs.Ytcohcjhbkiangaa
open Go.RowKit

theorem refRec_case (bs : List UInt8) (h8 : 8 ≤ bs.length) (l : List (List UInt8)) (hl : IsList (bs.drop 8) l) :
    (mayB l = true ∧ takeRecR bs = (((rnumF (bs.take 8) 8).1, l), 0)) ∨ (mayB l = false ∧ takeRecR bs = ((0, []), 5)) := by
  have h3 : (bs.take 8).length = 8 := by simp; omega
  have hnum : rnumF (bs.take 8) 8 = (beNat (bs.take 8), 0, []) := by
    unfold rnumF
    rw [if_pos (by decide), if_neg (by rw [h3]; decide)]
    rw [show (8 : Int).toNat = 8 from rfl, List.take_of_length_le (by omega), List.drop_of_length_le (by omega)]
  have ht : beNat (bs.take 8) ≤ 18446744073709551615 := by
    have := rnum8_lt (bs.take 8)
    rwa [hnum] at this
  have hbs : bs = digits (beNat (bs.take 8)) 8 ++ listF l := by
    rw [digits_beNatP 8 _ h3, ← hl.2, List.take_append_drop]
  rw [hnum]
  cases hm : mayB l with
  | true =>
    left
    refine ⟨rfl, ?_⟩
    have := takeRec_yes (beNat (bs.take 8)) l ht hm
    rwa [show recF (beNat (bs.take 8)) l = bs from hbs.symm] at this
  | false =>
    right
    refine ⟨rfl, takeRec_no bs ?_⟩
    rintro ⟨t, m, ht', hm', e⟩
    have e2 : bs.drop 8 = listF m := by rw [e]; exact drop_left (digits_len t 8)
    obtain ⟨-, h4, hx⟩ := mayB_parts hm'
    have hc := cat_bound h4 (fun x h => (hx x h).2)
    have k1 := isList_first hl
    have k2 := isList_first (xs := bs.drop 8) (l := m) ⟨by omega, e2⟩
    rw [k1] at k2
    injection k2 with e3 _
    obtain ⟨m', hm1, hm2⟩ := cat_split m [] l (fun x h => by have := (hx x h).2; omega) (fun x h => by have := cat_len_mem h; have := hl.1; omega) (by rw [List.append_nil]; exact e3.symm)
    cases m' with
    | nil => rw [List.append_nil] at hm1; rw [hm1, hm'] at hm; cases hm
    | cons x r => have := congrArg List.length hm2; rw [cat_cons, List.length_append, vec3_len, List.length_nil] at this; omega
theorem refRec_none (bs : List UInt8) (h : bs.length < 8 ∨ ¬ ∃ l, IsList (bs.drop 8) l) : takeRecR bs = ((0, []), 5) := by
  refine takeRec_no bs ?_
  rintro ⟨t, m, ht', hm', e⟩
  rcases h with h | h
  · rw [e, recF, List.length_append, digits_len] at h
    omega
  · obtain ⟨-, h4, hx⟩ := mayB_parts hm'
    have hc := cat_bound h4 (fun x h => (hx x h).2)
    exact h ⟨m, by omega, by rw [e]; exact drop_left (digits_len t 8)⟩

/-- a slice's end, from the k-th byte on -/
theorem rd_drop {w : World} {a : Option Addr} {n cap : Nat} {xs : List UInt8} (h : Rd w a n cap xs) (k : Nat) (hk : k ≤ n) (h0 : 0 < k) :
    ∃ b off, a = some ⟨b, off, none⟩ ∧ (cap = k → Rd w (some ⟨b, off, none⟩) 0 0 (xs.drop k)) ∧ (cap ≠ k → Rd w (some ⟨b, off + k, none⟩) (n - k) (cap - k) (xs.drop k)) := by
  have hle := h.le
  have hln := h.len
  obtain ⟨b, off, e, hb, hc⟩ := h.mem (by omega)
  refine ⟨b, off, e, fun hck => ?_, fun hck => ?_⟩
  · refine ⟨by simp; omega, Nat.le_refl _, by (intro e; cases e), by intro h; omega⟩
  · refine ⟨by simp; omega, by omega, by (intro e; cases e), fun _ => ⟨b, off + k, rfl, hb, fun j hj => ?_⟩⟩
    have := hc (k + j) (by omega)
    rw [show off + k + j = off + (k + j) by omega, this]
    simp [List.getD]

set_option maxHeartbeats 1000000 in
theorem refTakeRecord_any (a : Option Addr) (n cap : Nat) (bs : List UInt8) (w : World) (hm : n ≤ 140737488355328) (hr : Rd w a n cap bs) :
    Calls Try.prog 28 #[.slice a n cap] w (TRes w (takeRecR bs)) := by
  have hln := hr.len
  have hb0 := hal w (.cells #[.int .u64 0, .slice none 0 0] 25)
  have hE0 : Arr (w.alloc (.cells #[.int .u64 0, .slice none 0 0] 25)) w.heap.size 25 [.int .u64 0, .slice none 0 0] := Arr.new w _ _
  have hs0 : (w.alloc (.cells #[.int .u64 0, .slice none 0 0] 25)).heap.size = w.heap.size + 1 := by simp
  obtain ⟨TR, hTR⟩ : ∃ TR, TR = takeRecR bs := ⟨_, rfl⟩
  have HTR := Lib.hid hTR
  rw [← hTR]
  clear hTR
  have hend : Hid (TR = ((0, []), 5) → ∀ W, Arr W w.heap.size 25 [.int .u64 0, .slice none 0 0] → Below w.heap.size w W → TRes w TR (.returned (.tuple #[.agg #[.int .u64 0, .slice none 0 0], .int .i64 5])) W) := by
    show _ → _
    rintro rfl W hW hb
    exact ⟨none, 0, 0, rfl, OwnC.nil _ _, hb⟩
  by_cases h8 : n < 8
  · have hT : Hid (TR = ((0, []), 5)) := by rw [HTR.out]; exact refRec_none bs (.inl (by omega))
    have y0 := hE0.cell 0
    have y1 := hE0.cell 1
    have z0 := hE0.frozen 0
    have z1 := hE0.frozen 1
    simp only [List.getElem?_cons_zero, List.getElem?_cons_succ] at y0 y1
    clear hr hln
    go_enter Try.func28, Try.ntmps28
    go_wp2_with fail
    refine end_cell2 rfl w.heap.size 25 [.int .u64 0, .slice none 0 0] _ _ rfl hE0 Try.underlying25 rfl sizeE rfl rfl ?_
    exact hend.out hT.out _ hE0 hb0
  · have h8' : 8 ≤ n := by omega
    obtain ⟨b, off, rfl, hd0, hd1⟩ := rd_drop hr 8 h8' (by omega)
    have hcap := hr.le
    have htk := hr.take 8 h8'
    have HN := Lib.hid (refNew_any (some ⟨b, off, none⟩) 8 cap (bs.take 8) _ (by omega) (htk.to hb0))
    have hlen8 : Hid (8 ≤ bs.length) := by show _ ≤ _; omega
    obtain ⟨a', n', c', hn', hsl, hrd⟩ : ∃ a' n' c', n' ≤ n ∧ (cap = 8 → a' = some ⟨b, off, none⟩ ∧ n' = 0 ∧ c' = 0) ∧ Rd w a' n' c' (bs.drop 8) ∧ (cap ≠ 8 → a' = some ⟨b, off + 8, none⟩ ∧ n' = n - 8 ∧ c' = cap - 8) := by
      by_cases hck : cap = 8
      · exact ⟨_, _, _, Nat.zero_le _, fun _ => ⟨rfl, rfl, rfl⟩, hd0 hck, fun h => absurd hck h⟩
      · exact ⟨_, _, _, Nat.sub_le _ _, fun h => absurd h hck, hd1 hck, fun _ => ⟨rfl, rfl, rfl⟩⟩
    obtain ⟨hrd, hsl2⟩ := hrd
    have HC := Lib.hid (fun W (hW : Below w.heap.size w W) => refCerts_any a' n' c' (bs.drop 8) W (by omega) (hrd.to hW))
    have hm8 := Lib.hid hm
    clear hr hd0 hd1 htk hrd hm
    by_cases hck : cap = 8
    · obtain rfl : n = 8 := by omega
      subst hck
      obtain ⟨rfl, rfl, rfl⟩ := hsl rfl
      clear hsl hsl2 hln hn' hcap h8 h8'
      go_enter Try.func28, Try.ntmps28
      go_wp2_with fail
      refine HN.out.mono ?_
      rintro e w1 ⟨q, r, rfl, hr1, hq1, lr1, hb1⟩
      go_wp2_with fail
      refine (refRNum_any q r (bs.take 8) 8 w1 hr1).mono ?_
      rintro e w2 ⟨rfl, -, hg2⟩
      have hf2 : Fr [r] w1 w2 := Fr.of_grown hg2 (by simp)
      have hf02 := (Fr.of_below (rs := [r]) hb1).trans hf2
      have hE2 := hf02.arr hE0 (by simp; omega)
      have hb2 : Below w.heap.size w w2 := hb0.trans (hf02.below (by omega) (by simp; omega))
      have hs2 := hb2.size
      have hlt2 := hE2.lt
      have HB2 := Lib.hid hb2
      obtain ⟨t, htq⟩ : ∃ t, t = (rnumF (bs.take 8) 8).1 := ⟨_, rfl⟩
      rw [← htq]
      have ht8 : t ≤ 18446744073709551615 := by rw [htq]; exact rnum8_lt _
      have HTQ := Lib.hid htq
      clear hb1 hq1 hr1 hg2 hf2 hf02 hE0 hb0 hb2 htq hs0
      go_wp2_with fail
      refine (HC.out w2 HB2.out).mono ?_
      rintro e w3 ⟨hb3, hres⟩
      have hE3 := hE2.kept hb3
      have hb03 := HB2.out.trans (hb3.mono hs2)
      have hsz3 := hb03.size
      have hlt3 := hE3.lt
      rcases hres with ⟨l, v, hl, rfl, hO⟩ | ⟨hno, rfl⟩
      · obtain ⟨al, nl, cl, rfl, hch⟩ := hO.chn
        have hA4 : Arr (w3.alloc (.cells #[.int .u64 (t : Int), .slice al nl cl] 25)) w3.heap.size 25 [.int .u64 (t : Int), .slice al nl cl] := Arr.new w3 _ _
        have hb4 := hal w3 (.cells #[.int .u64 (t : Int), .slice al nl cl] 25)
        have hE4 := hE3.kept hb4
        have hO4 := (hO.mono hs2).to hb4
        have hb04 := hb03.trans (hb4.mono hsz3)
        have hcn : nl ≤ 5592405 := by
          have h1 := cat_count l
          have h2 := hl.1
          have h3 := hch.len
          omega
        have hmay := refMay_any t al nl cl l _ (by omega) (hch.to hb4)
        have hcs := refRec_case bs hlen8.out l hl
        rw [← HTQ.out, ← HTR.out] at hcs
        have hs4 := hb4.size
        have HMAY := Lib.hid hmay
        have HO4 := Lib.hid hO4
        have HB4 := Lib.hid hb04
        have HA4 := Lib.hid hA4
        have HE4 := Lib.hid hE4
        clear hmay hO4 hO hch hl hb04 hb03 hb3 hb4 hE2 hE3 hA4 hE4
        go_wp2_with fail
        refine HMAY.out.mono ?_
        rintro e w5 ⟨rfl, hb5⟩
        have hA5 := HA4.out.kept hb5
        have hE5 := HE4.out.kept hb5
        have HO5 := Lib.hid (HO4.out.to hb5)
        have HB5 := Lib.hid (HB4.out.trans (hb5.mono HB4.out.size))
        have x0 := hA5.cell 0
        have x1 := hA5.cell 1
        have y0 := hE5.cell 0
        have y1 := hE5.cell 1
        have z0 := hE5.frozen 0
        have z1 := hE5.frozen 1
        simp only [List.getElem?_cons_zero, List.getElem?_cons_succ] at x0 x1 y0 y1
        have HE5 := Lib.hid hE5
        clear hA5 hE5 hb5
        rcases hcs with ⟨hm, hT⟩ | ⟨hm, hT⟩
        · rw [hm]
          subst hT
          clear hm
          go_wp2_with fail
          have g := setCells_grown w.heap.size [.int .u64 (t : Int), .slice al nl cl] w5 0
          have hR := (HE5.out.store 0 (.int .u64 (t : Int))).store 1 (.slice al nl cl)
          refine end_cell2 rfl w.heap.size 25 [.int .u64 (t : Int), .slice al nl cl] _ _ rfl hR Try.underlying25 rfl sizeE rfl rfl ?_
          refine ⟨al, nl, cl, rfl, ?_, HB5.out.grown g HB5.out.size (by intro k hk; cases hk; omega)⟩
          exact HO5.out.fr (Fr.of_grown g (rs := [w.heap.size]) (by simp)) (by intro x hx; simp at hx; subst hx; exact .inr ⟨_, _, HE5.out, by decide, by decide⟩)
        · rw [hm]
          have HT := Lib.hid hT
          clear hm hT
          have g := setCells_grown w.heap.size [.int .u64 0, .slice none 0 0] w5 0
          have hR := (HE5.out.store 0 (.int .u64 0)).store 1 (.slice none 0 0)
          go_wp2_with fail
          refine end_cell2 rfl w.heap.size 25 [.int .u64 0, .slice none 0 0] _ _ rfl hR Try.underlying25 rfl sizeE rfl rfl ?_
          exact hend.out HT.out _ hR (HB5.out.grown g HB5.out.size (by intro k hk; cases hk; omega))
      · have hT : Hid (TR = ((0, []), 5)) := by rw [HTR.out]; exact refRec_none bs (.inr hno)
        have y0 := hE3.cell 0
        have y1 := hE3.cell 1
        have z0 := hE3.frozen 0
        have z1 := hE3.frozen 1
        simp only [List.getElem?_cons_zero, List.getElem?_cons_succ] at y0 y1
        have g := setCells_grown w.heap.size [.int .u64 0, .slice none 0 0] w3 0
        have hR := ((hE3.store 0 (.int .u64 0)).store 1 (.slice none 0 0)).kept (hal _ (.cells #[.int .u64 (t : Int), .slice none 0 0] 25))
        have hbE := hb03.grown g hsz3 (by intro k hk; cases hk; omega)
        have HBE := Lib.hid (hbE.alloc (by have := hbE.size; omega) (.cells #[.int .u64 (t : Int), .slice none 0 0] 25))
        have HR := Lib.hid hR
        clear hb03 hb3 hE2 hE3 hno hbE hR
        go_wp2_with fail
        refine end_cell2 rfl w.heap.size 25 [.int .u64 0, .slice none 0 0] _ _ rfl HR.out Try.underlying25 rfl sizeE rfl rfl ?_
        exact hend.out hT.out _ HR.out HBE.out
    · obtain ⟨rfl, rfl, rfl⟩ := hsl2 hck
      clear hsl hsl2 hln hn'
      go_enter Try.func28, Try.ntmps28
      go_wp2_with fail
      refine HN.out.mono ?_
      rintro e w1 ⟨q, r, rfl, hr1, hq1, lr1, hb1⟩
      go_wp2_with fail
      refine (refRNum_any q r (bs.take 8) 8 w1 hr1).mono ?_
      rintro e w2 ⟨rfl, -, hg2⟩
      have hf2 : Fr [r] w1 w2 := Fr.of_grown hg2 (by simp)
      have hf02 := (Fr.of_below (rs := [r]) hb1).trans hf2
      have hE2 := hf02.arr hE0 (by simp; omega)
      have hb2 : Below w.heap.size w w2 := hb0.trans (hf02.below (by omega) (by simp; omega))
      have hs2 := hb2.size
      have hlt2 := hE2.lt
      have HB2 := Lib.hid hb2
      obtain ⟨t, htq⟩ : ∃ t, t = (rnumF (bs.take 8) 8).1 := ⟨_, rfl⟩
      rw [← htq]
      have ht8 : t ≤ 18446744073709551615 := by rw [htq]; exact rnum8_lt _
      have HTQ := Lib.hid htq
      clear hb1 hq1 hr1 hg2 hf2 hf02 hE0 hb0 hb2 htq hs0
      go_wp2_with fail
      refine (HC.out w2 HB2.out).mono ?_
      rintro e w3 ⟨hb3, hres⟩
      have hE3 := hE2.kept hb3
      have hb03 := HB2.out.trans (hb3.mono hs2)
      have hsz3 := hb03.size
      have hlt3 := hE3.lt
      rcases hres with ⟨l, v, hl, rfl, hO⟩ | ⟨hno, rfl⟩
      · obtain ⟨al, nl, cl, rfl, hch⟩ := hO.chn
        have hA4 : Arr (w3.alloc (.cells #[.int .u64 (t : Int), .slice al nl cl] 25)) w3.heap.size 25 [.int .u64 (t : Int), .slice al nl cl] := Arr.new w3 _ _
        have hb4 := hal w3 (.cells #[.int .u64 (t : Int), .slice al nl cl] 25)
        have hE4 := hE3.kept hb4
        have hO4 := (hO.mono hs2).to hb4
        have hb04 := hb03.trans (hb4.mono hsz3)
        have hcn : nl ≤ 5592405 := by
          have h1 := cat_count l
          have h2 := hl.1
          have h3 := hch.len
          omega
        have hmay := refMay_any t al nl cl l _ (by omega) (hch.to hb4)
        have hcs := refRec_case bs hlen8.out l hl
        rw [← HTQ.out, ← HTR.out] at hcs
        have hs4 := hb4.size
        have HMAY := Lib.hid hmay
        have HO4 := Lib.hid hO4
        have HB4 := Lib.hid hb04
        have HA4 := Lib.hid hA4
        have HE4 := Lib.hid hE4
        clear hmay hO4 hO hch hl hb04 hb03 hb3 hb4 hE2 hE3 hA4 hE4
        go_wp2_with fail
        refine HMAY.out.mono ?_
        rintro e w5 ⟨rfl, hb5⟩
        have hA5 := HA4.out.kept hb5
        have hE5 := HE4.out.kept hb5
        have HO5 := Lib.hid (HO4.out.to hb5)
        have HB5 := Lib.hid (HB4.out.trans (hb5.mono HB4.out.size))
        have x0 := hA5.cell 0
        have x1 := hA5.cell 1
        have y0 := hE5.cell 0
        have y1 := hE5.cell 1
        have z0 := hE5.frozen 0
        have z1 := hE5.frozen 1
        simp only [List.getElem?_cons_zero, List.getElem?_cons_succ] at x0 x1 y0 y1
        have HE5 := Lib.hid hE5
        clear hA5 hE5 hb5
        rcases hcs with ⟨hm, hT⟩ | ⟨hm, hT⟩
        · rw [hm]
          subst hT
          clear hm
          go_wp2_with fail
          have g := setCells_grown w.heap.size [.int .u64 (t : Int), .slice al nl cl] w5 0
          have hR := (HE5.out.store 0 (.int .u64 (t : Int))).store 1 (.slice al nl cl)
          refine end_cell2 rfl w.heap.size 25 [.int .u64 (t : Int), .slice al nl cl] _ _ rfl hR Try.underlying25 rfl sizeE rfl rfl ?_
          refine ⟨al, nl, cl, rfl, ?_, HB5.out.grown g HB5.out.size (by intro k hk; cases hk; omega)⟩
          exact HO5.out.fr (Fr.of_grown g (rs := [w.heap.size]) (by simp)) (by intro x hx; simp at hx; subst hx; exact .inr ⟨_, _, HE5.out, by decide, by decide⟩)
        · rw [hm]
          have HT := Lib.hid hT
          clear hm hT
          have g := setCells_grown w.heap.size [.int .u64 0, .slice none 0 0] w5 0
          have hR := (HE5.out.store 0 (.int .u64 0)).store 1 (.slice none 0 0)
          go_wp2_with fail
          refine end_cell2 rfl w.heap.size 25 [.int .u64 0, .slice none 0 0] _ _ rfl hR Try.underlying25 rfl sizeE rfl rfl ?_
          exact hend.out HT.out _ hR (HB5.out.grown g HB5.out.size (by intro k hk; cases hk; omega))
      · have hT : Hid (TR = ((0, []), 5)) := by rw [HTR.out]; exact refRec_none bs (.inr hno)
        have y0 := hE3.cell 0
        have y1 := hE3.cell 1
        have z0 := hE3.frozen 0
        have z1 := hE3.frozen 1
        simp only [List.getElem?_cons_zero, List.getElem?_cons_succ] at y0 y1
        have g := setCells_grown w.heap.size [.int .u64 0, .slice none 0 0] w3 0
        have hR := ((hE3.store 0 (.int .u64 0)).store 1 (.slice none 0 0)).kept (hal _ (.cells #[.int .u64 (t : Int), .slice none 0 0] 25))
        have hbE := hb03.grown g hsz3 (by intro k hk; cases hk; omega)
        have HBE := Lib.hid (hbE.alloc (by have := hbE.size; omega) (.cells #[.int .u64 (t : Int), .slice none 0 0] 25))
        have HR := Lib.hid hR
        clear hb03 hb3 hE2 hE3 hno hbE hR
        go_wp2_with fail
        refine end_cell2 rfl w.heap.size 25 [.int .u64 0, .slice none 0 0] _ _ rfl HR.out Try.underlying25 rfl sizeE rfl rfl ?_
        exact hend.out hT.out _ HR.out HBE.out
end Go.Proofs.Ytcohcjhbkiangaa
