/-
  What was made of an entry tells it, and bytes that tell an entry are what is made of it. Conditions: none.
-/
import Derived.Test.YtcohcjhbkiangaaEoA
import Derived.Test.YtcohcjhbkiangaaEnW
import Derived.Test.YtcohcjhbkiangaaEnM
import Derived.Deep.CutBlock
namespace Go.Proofs.Ytcohcjhbkiangaa
open Go.ChangeShapes Go.WideShapes Go.ChangeAt Go.RowKit

theorem takeRec_two (bs : List UInt8) : (∃ t l, t ≤ 18446744073709551615 ∧ mayB l = true ∧ bs = recF t l ∧ takeRecR bs = ((t, l), 0)) ∨ takeRecR bs = ((0, []), 5) := by
  by_cases h : ∃ t l, t ≤ 18446744073709551615 ∧ mayB l = true ∧ bs = recF t l
  · obtain ⟨t, l, ht, hm, rfl⟩ := h
    exact .inl ⟨t, l, ht, hm, rfl, takeRec_yes t l ht hm⟩
  · exact .inr (takeRec_no bs h)
theorem takeItem_two (ls xs : List UInt8) : (∃ t l, t ≤ 18446744073709551615 ∧ mayB l = true ∧ ls = stampF t (l.getD 0 []) ∧ xs = listF (l.drop 1) ∧ takeItemR ls xs = ((t, l), 0)) ∨ takeItemR ls xs = ((0, []), 5) := by
  by_cases h : ∃ t l, t ≤ 18446744073709551615 ∧ mayB l = true ∧ ls = stampF t (l.getD 0 []) ∧ xs = listF (l.drop 1)
  · obtain ⟨t, l, ht, hm, rfl, rfl⟩ := h
    exact .inl ⟨t, l, ht, hm, rfl, rfl, takeItem_yes t l ht hm⟩
  · exact .inr (takeItem_no ls xs h)
theorem rec_len (t : Nat) (l : List (List UInt8)) (hm : mayB l = true) : (recF t l).length ≤ 3000 := by
  obtain ⟨-, h4, hx⟩ := mayB_parts hm
  have := cat_bound h4 (fun x h => (hx x h).2)
  simp only [recF, List.length_append, digits_len, list_len]
  omega
theorem item_len (t : Nat) (l : List (List UInt8)) (hm : mayB l = true) : (itemL t l).length ≤ 3000 ∧ (itemX l).length ≤ 3000 := by
  obtain ⟨c, r, rfl, hc, hr, hx⟩ := may_first hm
  have := cat_bound (xss := r) (by omega) hx
  unfold itemL itemX stampR extraR
  rw [if_pos hm, if_pos hm]
  show (stampF t c).length ≤ 3000 ∧ (listF r).length ≤ 3000
  rw [stamp_len, list_len]
  omega
theorem item_good {t : Nat} {l : List (List UInt8)} (hm : mayB l = true) : itemE t l = 0 ∧ itemL t l = stampF t (l.getD 0 []) ∧ itemX l = listF (l.drop 1) := by
  unfold itemE itemL itemX stampR extraR
  rw [if_pos hm, if_pos hm]
  exact ⟨rfl, rfl, rfl⟩
theorem same_self (t : Nat) (l : List (List UInt8)) : sameB t t l l = true := by simp [sameB]
theorem fieldsI : ∃ f0 f1 : Field, Try.prog.underlying 34 = some (.struct #[f0, f1]) ∧ f0.type = 27 ∧ f0.offset = 0 ∧ f1.type = 27 ∧ f1.offset = 1 := ⟨_, _, Try.underlying34, rfl, rfl, rfl, rfl⟩
theorem cellsI : Try.prog.cellsOf 34 = 2 := by kernel_rfl
/-- an item that came in -/
theorem item_of_wok {H : Type} {enc : TypeId × Value → H} {W : World} {sp : Nat → Bool} {fuel : Nat} {cs : List Value} {y : DataW H × List MemPlace} (hf : DataW.trod enc Try.prog W 0 sp true fuel 34 cs = some y) (hsp : ∀ n, sp n = true) (hw : WOK Try.prog 34 y.1) :
    ∃ la ln lc ls xa xn xc xs, cs = [.slice la ln lc, .slice xa xn xc] ∧ Rd W la ln lc ls ∧ ln ≤ 140737488351232 ∧ Rd W xa xn xc xs ∧ xn ≤ 140737488351232 := by
  obtain ⟨f0, f1, hu, t0, o0, t1, o1⟩ := fieldsI
  obtain ⟨ys, m, _, rfl, hlen, hyl, hfl⟩ := DataW.trod_struct hu hf
  rw [cellsI] at hlen
  obtain ⟨c0, c1, rfl⟩ := len2 hlen
  obtain ⟨y0, y1, rfl⟩ := len2 (show ys.length = 2 from hyl)
  have h0 := hfl 0 f0 rfl
  have h1 := hfl 1 f1 rfl
  rw [t0, o0, cellsC] at h0
  rw [t1, o1, cellsC] at h1
  have hw0 := wok_struct hu hw (i := 0) (f := f0) (d := y0.1) rfl rfl
  have hw1 := wok_struct hu hw (i := 1) (f := f1) (d := y1.1) rfl rfl
  rw [t0] at hw0
  rw [t1] at hw1
  obtain ⟨la, ln, lc, ls, rfl, hl, hln⟩ := rd_of_wok (y := y0) h0 hsp hw0
  obtain ⟨xa, xn, xc, xs, rfl, hx, hxn⟩ := rd_of_wok (y := y1) h1 hsp hw1
  exact ⟨la, ln, lc, ls, xa, xn, xc, xs, rfl, hl, hln, hx, hxn⟩

/-- what stands behind a part of EntryBack -/
structure BackW (w : World) (B : Nat) (t : Nat) (al : Option Addr) (n cap : Nat) (la : Option Addr) (ln lc : Nat) (xa : Option Addr) (xn xc : Nat) (wr : World) : Prop where
  bw : Below w.heap.size w wr
  e : Arr wr B 25 [.int .u64 (t : Int), .slice al n cap]
  i : Arr wr (B + 1) 34 [.slice la ln lc, .slice xa xn xc]
theorem BackW.to {w : World} {B t : Nat} {al : Option Addr} {n cap : Nat} {la : Option Addr} {ln lc : Nat} {xa : Option Addr} {xn xc : Nat} {wr w' : World} (h : BackW w B t al n cap la ln lc xa xn xc wr) (hb : Below wr.heap.size wr w') : BackW w B t al n cap la ln lc xa xn xc w' :=
  ⟨h.bw.trans (hb.mono h.bw.size), h.e.kept hb, h.i.kept hb⟩

set_option maxRecDepth 100000 in
set_option maxHeartbeats 8000000 in
theorem Back_law (t : Nat) (al : Option Addr) (n cap : Nat) (xss : List (List UInt8)) (ba : Option Addr) (bn bc : Nat) (bs : List UInt8) (la : Option Addr) (ln lc : Nat) (xa : Option Addr) (xn xc : Nat) (ls xs : List UInt8) (w : World)
    (ht : t ≤ 18446744073709551615) (hm : n ≤ 70368744177664) (h : Chn w al n cap xss) (hmb : bn ≤ 140737488355328) (hrb : Rd w ba bn bc bs) (hml : ln ≤ 140737488355328) (hmx : xn ≤ 140737488355328) (hrl : Rd w la ln lc ls) (hrx : Rd w xa xn xc xs) :
    Calls Try.prog 6 #[entV t al n cap, .slice ba bn bc, .agg #[.slice la ln lc, .slice xa xn xc]] w fun e w' => e = .returned (.bool true) ∧ Below w.heap.size w w' := by
  have hw0 : BackW w w.heap.size t al n cap la ln lc xa xn xc ((w.alloc (.cells #[.int .u64 (t : Int), .slice al n cap] 25)).alloc (.cells #[.slice la ln lc, .slice xa xn xc] 34)) := by
    refine ⟨(hal w _).alloc (by simp) _, (Arr.new w _ _).kept (hal _ _), ?_⟩
    have := Arr.new (w.alloc (.cells #[.int .u64 (t : Int), .slice al n cap] 25)) 34 [.slice la ln lc, .slice xa xn xc]
    simpa using this
  have HRec := Lib.hid (fun W (hW : BackW w w.heap.size t al n cap la ln lc xa xn xc W) => Record_any t al n cap xss W hm ht (h.to hW.bw))
  have HItm := Lib.hid (fun W (hW : BackW w w.heap.size t al n cap la ln lc xa xn xc W) => Item_any t al n cap xss W hm ht (h.to hW.bw))
  have HMay := Lib.hid (fun W (hW : BackW w w.heap.size t al n cap la ln lc xa xn xc W) => May_any t al n cap xss W hm (h.to hW.bw))
  have HTR := Lib.hid (fun W (hW : BackW w w.heap.size t al n cap la ln lc xa xn xc W) => TakeRecord_any ba bn bc bs W hmb (hrb.to hW.bw))
  have HTI := Lib.hid (fun W (hW : BackW w w.heap.size t al n cap la ln lc xa xn xc W) => TakeItem_any la ln lc xa xn xc ls xs W hml hmx (hrl.to hW.bw) (hrx.to hW.bw))
  have HCH := Lib.hid (fun W (hW : BackW w w.heap.size t al n cap la ln lc xa xn xc W) => h.to hW.bw)
  have HRB := Lib.hid (fun W (hW : BackW w w.heap.size t al n cap la ln lc xa xn xc W) => hrb.to hW.bw)
  have HRL := Lib.hid (fun W (hW : BackW w w.heap.size t al n cap la ln lc xa xn xc W) => hrl.to hW.bw)
  have HRX := Lib.hid (fun W (hW : BackW w w.heap.size t al n cap la ln lc xa xn xc W) => hrx.to hW.bw)
  clear h hrb hrl hrx
  go_enter Try.func6, Try.ntmps6
  go_wp2_with fail
  generalize hB : w.heap.size = B at *
  generalize World.alloc (World.alloc w _) _ = w0 at *
  clear hB
  refine (HRec.out w0 hw0).mono ?_
  rintro e w1 ⟨v1, rfl, o1, hb1⟩
  obtain ⟨a1, n1, c1, rfl, -⟩ := o1.reads
  have hw1 := hw0.to hb1
  clear hb1 hw0
  have x0 := hw1.e.cell 0
  have x1 := hw1.e.cell 1
  simp only [List.getElem?_cons_zero, List.getElem?_cons_succ] at x0 x1
  go_wp2_with fail
  refine (HItm.out w1 hw1).mono ?_
  rintro e w2 ⟨a2, n2, c2, a3, n3, c3, rfl, o2, o3, hb2⟩
  have hw2 := hw1.to hb2
  have p1 := o1.rd.toRd.to hb2
  have p2 := o2.rd.toRd
  have p3 := o3.rd.toRd
  clear hb2 x0 x1 hw1 o1 o2 o3
  have hb3 := hal w2 (.cells #[.slice a2 n2 c2, .slice a3 n3 c3] 34)
  have hw3 := hw2.to hb3
  have hY3 : Arr (w2.alloc (.cells #[.slice a2 n2 c2, .slice a3 n3 c3] 34)) w2.heap.size 34 [.slice a2 n2 c2, .slice a3 n3 c3] := Arr.new w2 _ _
  have q1 := p1.to hb3
  have q2 := p2.to hb3
  have q3 := p3.to hb3
  go_upto_region 3 with (fail)
  generalize w2.alloc (.cells #[.slice a2 n2 c2, .slice a3 n3 c3] 34) = w3 at *
  obtain ⟨Y, hY⟩ : ∃ Y, Y = w2.heap.size := ⟨_, rfl⟩
  rw [← hY] at hY3 ⊢
  clear hY hb3 p1 p2 p3 hw2
  have x0 := hw3.e.cell 0
  have x1 := hw3.e.cell 1
  simp only [List.getElem?_cons_zero, List.getElem?_cons_succ] at x0 x1
  have hMayW := HMay.out
  cases hmay : mayB xss with
  | false =>
    have eR : recR t xss = ([], 1) := by unfold recR; rw [hmay]; rfl
    have eI : itemE t xss = 1 := by unfold itemE stampR; rw [hmay]; rfl
    rw [eR, eI]
    rw [hmay] at hMayW
    have HM := Lib.hid hMayW
    clear hMayW eR eI hmay q1 q2 q3 hY3
    go_wp2_with fail
    refine (HM.out w3 hw3).mono ?_
    rintro e w4 ⟨rfl, hb4⟩
    have hw4 := hw3.to hb4
    have x0 := hw4.e.cell 0
    have x1 := hw4.e.cell 1
    simp only [List.getElem?_cons_zero, List.getElem?_cons_succ] at x0 x1
    clear hb4 hw3
    go_wp2_with fail
    refine (HM.out w4 hw4).mono ?_
    rintro e w5 ⟨rfl, hb5⟩
    have hw5 := hw4.to hb5
    clear hb5 hw4 x0 x1
    go_wp2_with fail
    refine (HTR.out w5 hw5).mono ?_
    rcases takeRec_two bs with ⟨t3, l3, ht3, hm3, hbs3, he3⟩ | he3
    · rw [he3]
      rintro e w10 ⟨a5, n5, c5, rfl, hO5, hb5⟩
      have hw10 := hw5.to hb5
      obtain ⟨_, _, _, hee, hch5⟩ := hO5.chn
      cases hee
      have hn5 : n5 ≤ 4 := by have h1 : l3.length = n5 := hch5.len; have h2 := (mayB_parts hm3).2.1; omega
      clear hb5 hO5 he3 hw5
      have hba := hal w10 (.cells #[.int .u64 (t3 : Int), .slice a5 n5 c5] 25)
      have hw11 := hw10.to hba
      have hZ := Arr.new w10 25 [.int .u64 (t3 : Int), .slice a5 n5 c5]
      have hch6 := hch5.to hba
      go_upto_region 11 with (fail)
      generalize w10.alloc (.cells #[.int .u64 (t3 : Int), .slice a5 n5 c5] 25) = w11 at *
      obtain ⟨Z, hZe⟩ : ∃ Z, Z = w10.heap.size := ⟨_, rfl⟩
      rw [← hZe] at hZ ⊢
      clear hZe hba hw10
      have z0 := hZ.cell 0
      have z1 := hZ.cell 1
      simp only [List.getElem?_cons_zero, List.getElem?_cons_succ] at z0 z1
      go_wp2_with fail
      refine (Record_any t3 a5 n5 c5 l3 w11 (by omega) ht3 hch6).mono ?_
      rw [show recR t3 l3 = (bs, 0) by unfold recR; rw [if_pos hm3, hbs3]]
      rintro e w12 ⟨v6, rfl, o6, hb6⟩
      obtain ⟨a6, n6, c6, rfl, p6⟩ := o6.reads
      have hw12 := hw11.to hb6
      have hE1 := Equal_any a6 ba n6 c6 bn bc bs bs w12 p6.toRd (HRB.out w12 hw12)
      rw [decide_eq_true rfl] at hE1
      have HE1 := Lib.hid hE1
      clear hb6 hch5 hch6 z0 z1 hZ hw11 hbs3 hE1 p6 o6
      go_wp2_with fail
      refine HE1.out.mono ?_
      rintro e wq ⟨rfl, rfl⟩
      have i0 := hw12.i.cell 0
      have i1 := hw12.i.cell 1
      simp only [List.getElem?_cons_zero, List.getElem?_cons_succ] at i0 i1
      go_wp2_with fail
      refine (HTI.out w12 hw12).mono ?_
      rcases takeItem_two ls xs with ⟨t5, l5, ht5, hm5, hls5, hxs5, he5⟩ | he5
      · rw [he5]
        rintro e w20 ⟨a5, n5, c5, rfl, hO5, hb5⟩
        have hw20 := hw12.to hb5
        obtain ⟨_, _, _, hee, hch5⟩ := hO5.chn
        cases hee
        have hn5 : n5 ≤ 4 := by have h1 : l5.length = n5 := hch5.len; have h2 := (mayB_parts hm5).2.1; omega
        clear hb5 hO5 i0 i1 he5 hw12
        have hba := hal w20 (.cells #[.int .u64 (t5 : Int), .slice a5 n5 c5] 25)
        have hw21 := hw20.to hba
        have hZ := Arr.new w20 25 [.int .u64 (t5 : Int), .slice a5 n5 c5]
        have hch6 := hch5.to hba
        go_upto_region 16 with (fail)
        generalize w20.alloc (.cells #[.int .u64 (t5 : Int), .slice a5 n5 c5] 25) = w21 at *
        obtain ⟨Z, hZe⟩ : ∃ Z, Z = w20.heap.size := ⟨_, rfl⟩
        rw [← hZe] at hZ ⊢
        clear hZe hba hw20
        have z0 := hZ.cell 0
        have z1 := hZ.cell 1
        simp only [List.getElem?_cons_zero, List.getElem?_cons_succ] at z0 z1
        go_wp2_with fail
        have hgood := item_good (t := t5) hm5
        refine (Item_any t5 a5 n5 c5 l5 w21 (by omega) ht5 hch6).mono ?_
        rintro e w22 ⟨a6, n6, c6, a7, n7, c7, rfl, o6, o7, hb6⟩
        rw [hgood.1]
        have h6 := hgood.2.1.trans hls5.symm
        have h7 := hgood.2.2.trans hxs5.symm
        rw [h6] at o6
        rw [h7] at o7
        have hw22 := hw21.to hb6
        clear hb6 hch5 hch6 z0 z1 hZ hw21 hgood h6 h7 hls5 hxs5
        have hba := hal w22 (.cells #[.slice a6 n6 c6, .slice a7 n7 c7] 34)
        have hw23 := hw22.to hba
        have hZ := Arr.new w22 34 [.slice a6 n6 c6, .slice a7 n7 c7]
        have p6 := o6.rd.toRd.to hba
        have p7 := o7.rd.toRd.to hba
        go_upto_region 18 with (fail)
        generalize w22.alloc (.cells #[.slice a6 n6 c6, .slice a7 n7 c7] 34) = w23 at *
        obtain ⟨Z, hZe⟩ : ∃ Z, Z = w22.heap.size := ⟨_, rfl⟩
        rw [← hZe] at hZ ⊢
        clear hZe hba hw22
        have z0 := hZ.cell 0
        have z1 := hZ.cell 1
        simp only [List.getElem?_cons_zero, List.getElem?_cons_succ] at z0 z1
        have i0 := hw23.i.cell 0
        have i1 := hw23.i.cell 1
        simp only [List.getElem?_cons_zero, List.getElem?_cons_succ] at i0 i1
        have hE1 := Equal_any a6 la n6 c6 ln lc ls ls w23 p6 (HRL.out w23 hw23)
        have hE2 := Equal_any a7 xa n7 c7 xn xc xs xs w23 p7 (HRX.out w23 hw23)
        rw [decide_eq_true rfl] at hE1 hE2
        have HE1 := Lib.hid hE1
        have HE2 := Lib.hid hE2
        clear hE1 hE2 p6 p7 o6 o7
        go_wp2_with fail
        refine HE1.out.mono ?_
        rintro e wq ⟨rfl, rfl⟩
        go_wp2_with fail
        refine HE2.out.mono ?_
        rintro e wq ⟨rfl, rfl⟩
        go_wp2_with fail
        refine (awake_any w23).mono ?_
        rintro e wz ⟨rfl, hbz⟩
        go_wp2
        go_ret
        exact ⟨rfl, (hw23.to hbz).bw⟩
      · rw [he5]
        rintro e w20 ⟨a5, n5, c5, rfl, -, hb5⟩
        have hw20 := hw12.to hb5
        clear hb5 i0 i1 he5 hw12
        have hba := hal w20 (.cells #[.int .u64 0, .slice a5 n5 c5] 25)
        have hw21 := hw20.to hba
        have hZ := Arr.new w20 25 [.int .u64 0, .slice a5 n5 c5]
        go_upto_region 16 with (fail)
        generalize w20.alloc (.cells #[.int .u64 0, .slice a5 n5 c5] 25) = w21 at *
        obtain ⟨Z, hZe⟩ : ∃ Z, Z = w20.heap.size := ⟨_, rfl⟩
        rw [← hZe] at hZ ⊢
        clear hZe hba hw20
        go_wp2_with fail
        refine (awake_any w21).mono ?_
        rintro e wz ⟨rfl, hbz⟩
        go_wp2
        go_ret
        exact ⟨rfl, (hw21.to hbz).bw⟩
    · rw [he3]
      rintro e w10 ⟨a5, n5, c5, rfl, -, hb5⟩
      have hw10 := hw5.to hb5
      clear hb5 he3 hw5
      have hba := hal w10 (.cells #[.int .u64 0, .slice a5 n5 c5] 25)
      have hw11 := hw10.to hba
      have hZ := Arr.new w10 25 [.int .u64 0, .slice a5 n5 c5]
      go_upto_region 11 with (fail)
      generalize w10.alloc (.cells #[.int .u64 0, .slice a5 n5 c5] 25) = w11 at *
      obtain ⟨Z, hZe⟩ : ∃ Z, Z = w10.heap.size := ⟨_, rfl⟩
      rw [← hZe] at hZ ⊢
      clear hZe hba hw10
      have i0 := hw11.i.cell 0
      have i1 := hw11.i.cell 1
      simp only [List.getElem?_cons_zero, List.getElem?_cons_succ] at i0 i1
      go_wp2_with fail
      refine (HTI.out w11 hw11).mono ?_
      rcases takeItem_two ls xs with ⟨t5, l5, ht5, hm5, hls5, hxs5, he5⟩ | he5
      · rw [he5]
        rintro e w20 ⟨a5, n5, c5, rfl, hO5, hb5⟩
        have hw20 := hw11.to hb5
        obtain ⟨_, _, _, hee, hch5⟩ := hO5.chn
        cases hee
        have hn5 : n5 ≤ 4 := by have h1 : l5.length = n5 := hch5.len; have h2 := (mayB_parts hm5).2.1; omega
        clear hb5 hO5 i0 i1 he5 hw11
        have hba := hal w20 (.cells #[.int .u64 (t5 : Int), .slice a5 n5 c5] 25)
        have hw21 := hw20.to hba
        have hZ := Arr.new w20 25 [.int .u64 (t5 : Int), .slice a5 n5 c5]
        have hch6 := hch5.to hba
        go_upto_region 16 with (fail)
        generalize w20.alloc (.cells #[.int .u64 (t5 : Int), .slice a5 n5 c5] 25) = w21 at *
        obtain ⟨Z, hZe⟩ : ∃ Z, Z = w20.heap.size := ⟨_, rfl⟩
        rw [← hZe] at hZ ⊢
        clear hZe hba hw20
        have z0 := hZ.cell 0
        have z1 := hZ.cell 1
        simp only [List.getElem?_cons_zero, List.getElem?_cons_succ] at z0 z1
        go_wp2_with fail
        have hgood := item_good (t := t5) hm5
        refine (Item_any t5 a5 n5 c5 l5 w21 (by omega) ht5 hch6).mono ?_
        rintro e w22 ⟨a6, n6, c6, a7, n7, c7, rfl, o6, o7, hb6⟩
        rw [hgood.1]
        have h6 := hgood.2.1.trans hls5.symm
        have h7 := hgood.2.2.trans hxs5.symm
        rw [h6] at o6
        rw [h7] at o7
        have hw22 := hw21.to hb6
        clear hb6 hch5 hch6 z0 z1 hZ hw21 hgood h6 h7 hls5 hxs5
        have hba := hal w22 (.cells #[.slice a6 n6 c6, .slice a7 n7 c7] 34)
        have hw23 := hw22.to hba
        have hZ := Arr.new w22 34 [.slice a6 n6 c6, .slice a7 n7 c7]
        have p6 := o6.rd.toRd.to hba
        have p7 := o7.rd.toRd.to hba
        go_upto_region 18 with (fail)
        generalize w22.alloc (.cells #[.slice a6 n6 c6, .slice a7 n7 c7] 34) = w23 at *
        obtain ⟨Z, hZe⟩ : ∃ Z, Z = w22.heap.size := ⟨_, rfl⟩
        rw [← hZe] at hZ ⊢
        clear hZe hba hw22
        have z0 := hZ.cell 0
        have z1 := hZ.cell 1
        simp only [List.getElem?_cons_zero, List.getElem?_cons_succ] at z0 z1
        have i0 := hw23.i.cell 0
        have i1 := hw23.i.cell 1
        simp only [List.getElem?_cons_zero, List.getElem?_cons_succ] at i0 i1
        have hE1 := Equal_any a6 la n6 c6 ln lc ls ls w23 p6 (HRL.out w23 hw23)
        have hE2 := Equal_any a7 xa n7 c7 xn xc xs xs w23 p7 (HRX.out w23 hw23)
        rw [decide_eq_true rfl] at hE1 hE2
        have HE1 := Lib.hid hE1
        have HE2 := Lib.hid hE2
        clear hE1 hE2 p6 p7 o6 o7
        go_wp2_with fail
        refine HE1.out.mono ?_
        rintro e wq ⟨rfl, rfl⟩
        go_wp2_with fail
        refine HE2.out.mono ?_
        rintro e wq ⟨rfl, rfl⟩
        go_wp2_with fail
        refine (awake_any w23).mono ?_
        rintro e wz ⟨rfl, hbz⟩
        go_wp2
        go_ret
        exact ⟨rfl, (hw23.to hbz).bw⟩
      · rw [he5]
        rintro e w20 ⟨a5, n5, c5, rfl, -, hb5⟩
        have hw20 := hw11.to hb5
        clear hb5 i0 i1 he5 hw11
        have hba := hal w20 (.cells #[.int .u64 0, .slice a5 n5 c5] 25)
        have hw21 := hw20.to hba
        have hZ := Arr.new w20 25 [.int .u64 0, .slice a5 n5 c5]
        go_upto_region 16 with (fail)
        generalize w20.alloc (.cells #[.int .u64 0, .slice a5 n5 c5] 25) = w21 at *
        obtain ⟨Z, hZe⟩ : ∃ Z, Z = w20.heap.size := ⟨_, rfl⟩
        rw [← hZe] at hZ ⊢
        clear hZe hba hw20
        go_wp2_with fail
        refine (awake_any w21).mono ?_
        rintro e wz ⟨rfl, hbz⟩
        go_wp2
        go_ret
        exact ⟨rfl, (hw21.to hbz).bw⟩
  | true =>
    have eR : recR t xss = (recF t xss, 0) := by unfold recR; rw [if_pos hmay]
    obtain ⟨eI, eL, eX⟩ := item_good (t := t) hmay
    have hl1 := Lib.hid (rec_len t xss hmay)
    have hl2 := Lib.hid (item_len t xss hmay)
    have ty1 := takeRec_yes t xss ht hmay
    have ty2 := takeItem_yes t xss ht hmay
    rw [← eL, ← eX] at ty2
    rw [eR] at q1
    rw [eR, eI]
    rw [hmay] at hMayW
    have HM := Lib.hid hMayW
    have HY1 := Lib.hid ty1
    have HY2 := Lib.hid ty2
    have HN4 : Hid (xss.length ≤ 4) := (mayB_parts hmay).2.1
    clear hMayW eR eI eL eX hmay ty1 ty2
    go_wp2_with fail
    refine (HM.out w3 hw3).mono ?_
    rintro e w4 ⟨rfl, hb4⟩
    have hw4 := hw3.to hb4
    have s1 := q1.to hb4
    have s2 := q2.to hb4
    have s3 := q3.to hb4
    have hY4 := hY3.kept hb4
    have x0 := hw4.e.cell 0
    have x1 := hw4.e.cell 1
    simp only [List.getElem?_cons_zero, List.getElem?_cons_succ] at x0 x1
    clear hb4 hw3 q1 q2 q3 hY3
    go_wp2_with fail
    refine (HM.out w4 hw4).mono ?_
    rintro e w5 ⟨rfl, hb5⟩
    have hw5 := hw4.to hb5
    have q1 := s1.to hb5
    have q2 := s2.to hb5
    have q3 := s3.to hb5
    have hY5 := hY4.kept hb5
    clear hb5 hw4 x0 x1 s1 s2 s3 hY4
    go_wp2_with fail
    refine (TakeRecord_any a1 n1 c1 (recF t xss) w5 (by have h1 := q1.len; have h2 := hl1.out; have h1 : (recF t xss).length = n1 := h1; omega) q1).mono ?_
    rw [HY1.out]
    rintro e w6 ⟨a5, n5, c5, rfl, hO5, hb6⟩
    obtain ⟨_, _, _, hee, hch5⟩ := hO5.chn
    cases hee
    have hw6 := hw5.to hb6
    have s2 := q2.to hb6
    have s3 := q3.to hb6
    have hY6 := hY5.kept hb6
    clear hb6 hw5 q1 q2 q3 hY5 hO5
    have hba := hal w6 (.cells #[.int .u64 (t : Int), .slice a5 n5 c5] 25)
    have hw7 := hw6.to hba
    have hZ5 := Arr.new w6 25 [.int .u64 (t : Int), .slice a5 n5 c5]
    have hch7 := hch5.to hba
    have q2 := s2.to hba
    have q3 := s3.to hba
    have hY7 := hY6.kept hba
    go_upto_region 7 with (fail)
    generalize w6.alloc (.cells #[.int .u64 (t : Int), .slice a5 n5 c5] 25) = w7 at *
    obtain ⟨Z5, hZ5e⟩ : ∃ Z5, Z5 = w6.heap.size := ⟨_, rfl⟩
    rw [← hZ5e] at hZ5 ⊢
    clear hZ5e hba hw6
    have y0 := hY7.cell 0
    have y1 := hY7.cell 1
    simp only [List.getElem?_cons_zero, List.getElem?_cons_succ] at y0 y1
    clear hY6 s2 s3 hch5
    go_wp2_with fail
    refine (TakeItem_any a2 n2 c2 a3 n3 c3 (itemL t xss) (itemX xss) w7 (by have h1 := q2.len; have h2 := hl2.out.1; omega) (by have h1 := q3.len; have h2 := hl2.out.2; omega) q2 q3).mono ?_
    rw [HY2.out]
    rintro e w8 ⟨a6, n6, c6, rfl, hO6, hb8⟩
    obtain ⟨_, _, _, hee, hch6⟩ := hO6.chn
    cases hee
    have hw8 := hw7.to hb8
    have hZ6 := hZ5.kept hb8
    have hch8 := hch7.to hb8
    clear hb8 hw7 q2 q3 hY7 hO6 hZ5 hch7 y0 y1
    have hba := hal w8 (.cells #[.int .u64 (t : Int), .slice a6 n6 c6] 25)
    have hw9 := hw8.to hba
    have hZ := Arr.new w8 25 [.int .u64 (t : Int), .slice a6 n6 c6]
    have hch9 := hch8.to hba
    have hch10 := hch6.to hba
    have hZ9 := hZ6.kept hba
    go_upto_region 8 with (fail)
    generalize w8.alloc (.cells #[.int .u64 (t : Int), .slice a6 n6 c6] 25) = w9 at *
    obtain ⟨Z, hZe⟩ : ∃ Z, Z = w8.heap.size := ⟨_, rfl⟩
    rw [← hZe] at hZ ⊢
    clear hZe hba hw8
    have z0 := hZ.cell 0
    have z1 := hZ.cell 1
    have y0 := hZ9.cell 0
    have y1 := hZ9.cell 1
    have x0 := hw9.e.cell 0
    have x1 := hw9.e.cell 1
    simp only [List.getElem?_cons_zero, List.getElem?_cons_succ] at z0 z1 y0 y1 x0 x1
    have hn5 : n5 ≤ 4 := by have : xss.length = n5 := hch9.len; have := HN4.out; omega
    have hn6 : n6 ≤ 4 := by have : xss.length = n6 := hch10.len; have := HN4.out; omega
    have hS := refSame_any t t a5 al n5 c5 n cap xss xss w9 (by omega) hm hch9 (HCH.out w9 hw9)
    rw [same_self] at hS
    have HS := Lib.hid hS
    have HZ := Lib.hid hZ
    have HC10 := Lib.hid hch10
    clear hS hZ hch10 hch9 hch8 hch6 hZ6 hZ9
    go_wp2_with fail
    refine HS.out.mono ?_
    rintro e w30 ⟨rfl, hb30⟩
    have hw30 := hw9.to hb30
    have hZ30 := HZ.out.kept hb30
    have z0 := hZ30.cell 0
    have z1 := hZ30.cell 1
    have x0 := hw30.e.cell 0
    have x1 := hw30.e.cell 1
    simp only [List.getElem?_cons_zero, List.getElem?_cons_succ] at z0 z1 x0 x1
    have hS := refSame_any t t a6 al n6 c6 n cap xss xss w30 (by omega) hm (HC10.out.to hb30) (HCH.out w30 hw30)
    rw [same_self] at hS
    have HS := Lib.hid hS
    clear hS hb30 hw9 hZ30 y0 y1
    go_wp2_with fail
    refine HS.out.mono ?_
    rintro e w31 ⟨rfl, hb31⟩
    have hw31 := hw30.to hb31
    clear hb31 hw30 z0 z1 x0 x1
    go_wp2_with fail
    refine (HTR.out w31 hw31).mono ?_
    rcases takeRec_two bs with ⟨t3, l3, ht3, hm3, hbs3, he3⟩ | he3
    · rw [he3]
      rintro e w10 ⟨a5, n5, c5, rfl, hO5, hb5⟩
      have hw10 := hw31.to hb5
      obtain ⟨_, _, _, hee, hch5⟩ := hO5.chn
      cases hee
      have hn5 : n5 ≤ 4 := by have h1 : l3.length = n5 := hch5.len; have h2 := (mayB_parts hm3).2.1; omega
      clear hb5 hO5 he3 hw31
      have hba := hal w10 (.cells #[.int .u64 (t3 : Int), .slice a5 n5 c5] 25)
      have hw11 := hw10.to hba
      have hZ := Arr.new w10 25 [.int .u64 (t3 : Int), .slice a5 n5 c5]
      have hch6 := hch5.to hba
      go_upto_region 11 with (fail)
      generalize w10.alloc (.cells #[.int .u64 (t3 : Int), .slice a5 n5 c5] 25) = w11 at *
      obtain ⟨Z, hZe⟩ : ∃ Z, Z = w10.heap.size := ⟨_, rfl⟩
      rw [← hZe] at hZ ⊢
      clear hZe hba hw10
      have z0 := hZ.cell 0
      have z1 := hZ.cell 1
      simp only [List.getElem?_cons_zero, List.getElem?_cons_succ] at z0 z1
      go_wp2_with fail
      refine (Record_any t3 a5 n5 c5 l3 w11 (by omega) ht3 hch6).mono ?_
      rw [show recR t3 l3 = (bs, 0) by unfold recR; rw [if_pos hm3, hbs3]]
      rintro e w12 ⟨v6, rfl, o6, hb6⟩
      obtain ⟨a6, n6, c6, rfl, p6⟩ := o6.reads
      have hw12 := hw11.to hb6
      have hE1 := Equal_any a6 ba n6 c6 bn bc bs bs w12 p6.toRd (HRB.out w12 hw12)
      rw [decide_eq_true rfl] at hE1
      have HE1 := Lib.hid hE1
      clear hb6 hch5 hch6 z0 z1 hZ hw11 hbs3 hE1 p6 o6
      go_wp2_with fail
      refine HE1.out.mono ?_
      rintro e wq ⟨rfl, rfl⟩
      have i0 := hw12.i.cell 0
      have i1 := hw12.i.cell 1
      simp only [List.getElem?_cons_zero, List.getElem?_cons_succ] at i0 i1
      go_wp2_with fail
      refine (HTI.out w12 hw12).mono ?_
      rcases takeItem_two ls xs with ⟨t5, l5, ht5, hm5, hls5, hxs5, he5⟩ | he5
      · rw [he5]
        rintro e w20 ⟨a5, n5, c5, rfl, hO5, hb5⟩
        have hw20 := hw12.to hb5
        obtain ⟨_, _, _, hee, hch5⟩ := hO5.chn
        cases hee
        have hn5 : n5 ≤ 4 := by have h1 : l5.length = n5 := hch5.len; have h2 := (mayB_parts hm5).2.1; omega
        clear hb5 hO5 i0 i1 he5 hw12
        have hba := hal w20 (.cells #[.int .u64 (t5 : Int), .slice a5 n5 c5] 25)
        have hw21 := hw20.to hba
        have hZ := Arr.new w20 25 [.int .u64 (t5 : Int), .slice a5 n5 c5]
        have hch6 := hch5.to hba
        go_upto_region 16 with (fail)
        generalize w20.alloc (.cells #[.int .u64 (t5 : Int), .slice a5 n5 c5] 25) = w21 at *
        obtain ⟨Z, hZe⟩ : ∃ Z, Z = w20.heap.size := ⟨_, rfl⟩
        rw [← hZe] at hZ ⊢
        clear hZe hba hw20
        have z0 := hZ.cell 0
        have z1 := hZ.cell 1
        simp only [List.getElem?_cons_zero, List.getElem?_cons_succ] at z0 z1
        go_wp2_with fail
        have hgood := item_good (t := t5) hm5
        refine (Item_any t5 a5 n5 c5 l5 w21 (by omega) ht5 hch6).mono ?_
        rintro e w22 ⟨a6, n6, c6, a7, n7, c7, rfl, o6, o7, hb6⟩
        rw [hgood.1]
        have h6 := hgood.2.1.trans hls5.symm
        have h7 := hgood.2.2.trans hxs5.symm
        rw [h6] at o6
        rw [h7] at o7
        have hw22 := hw21.to hb6
        clear hb6 hch5 hch6 z0 z1 hZ hw21 hgood h6 h7 hls5 hxs5
        have hba := hal w22 (.cells #[.slice a6 n6 c6, .slice a7 n7 c7] 34)
        have hw23 := hw22.to hba
        have hZ := Arr.new w22 34 [.slice a6 n6 c6, .slice a7 n7 c7]
        have p6 := o6.rd.toRd.to hba
        have p7 := o7.rd.toRd.to hba
        go_upto_region 18 with (fail)
        generalize w22.alloc (.cells #[.slice a6 n6 c6, .slice a7 n7 c7] 34) = w23 at *
        obtain ⟨Z, hZe⟩ : ∃ Z, Z = w22.heap.size := ⟨_, rfl⟩
        rw [← hZe] at hZ ⊢
        clear hZe hba hw22
        have z0 := hZ.cell 0
        have z1 := hZ.cell 1
        simp only [List.getElem?_cons_zero, List.getElem?_cons_succ] at z0 z1
        have i0 := hw23.i.cell 0
        have i1 := hw23.i.cell 1
        simp only [List.getElem?_cons_zero, List.getElem?_cons_succ] at i0 i1
        have hE1 := Equal_any a6 la n6 c6 ln lc ls ls w23 p6 (HRL.out w23 hw23)
        have hE2 := Equal_any a7 xa n7 c7 xn xc xs xs w23 p7 (HRX.out w23 hw23)
        rw [decide_eq_true rfl] at hE1 hE2
        have HE1 := Lib.hid hE1
        have HE2 := Lib.hid hE2
        clear hE1 hE2 p6 p7 o6 o7
        go_wp2_with fail
        refine HE1.out.mono ?_
        rintro e wq ⟨rfl, rfl⟩
        go_wp2_with fail
        refine HE2.out.mono ?_
        rintro e wq ⟨rfl, rfl⟩
        go_wp2_with fail
        refine (awake_any w23).mono ?_
        rintro e wz ⟨rfl, hbz⟩
        go_wp2
        go_ret
        exact ⟨rfl, (hw23.to hbz).bw⟩
      · rw [he5]
        rintro e w20 ⟨a5, n5, c5, rfl, -, hb5⟩
        have hw20 := hw12.to hb5
        clear hb5 i0 i1 he5 hw12
        have hba := hal w20 (.cells #[.int .u64 0, .slice a5 n5 c5] 25)
        have hw21 := hw20.to hba
        have hZ := Arr.new w20 25 [.int .u64 0, .slice a5 n5 c5]
        go_upto_region 16 with (fail)
        generalize w20.alloc (.cells #[.int .u64 0, .slice a5 n5 c5] 25) = w21 at *
        obtain ⟨Z, hZe⟩ : ∃ Z, Z = w20.heap.size := ⟨_, rfl⟩
        rw [← hZe] at hZ ⊢
        clear hZe hba hw20
        go_wp2_with fail
        refine (awake_any w21).mono ?_
        rintro e wz ⟨rfl, hbz⟩
        go_wp2
        go_ret
        exact ⟨rfl, (hw21.to hbz).bw⟩
    · rw [he3]
      rintro e w10 ⟨a5, n5, c5, rfl, -, hb5⟩
      have hw10 := hw31.to hb5
      clear hb5 he3 hw31
      have hba := hal w10 (.cells #[.int .u64 0, .slice a5 n5 c5] 25)
      have hw11 := hw10.to hba
      have hZ := Arr.new w10 25 [.int .u64 0, .slice a5 n5 c5]
      go_upto_region 11 with (fail)
      generalize w10.alloc (.cells #[.int .u64 0, .slice a5 n5 c5] 25) = w11 at *
      obtain ⟨Z, hZe⟩ : ∃ Z, Z = w10.heap.size := ⟨_, rfl⟩
      rw [← hZe] at hZ ⊢
      clear hZe hba hw10
      have i0 := hw11.i.cell 0
      have i1 := hw11.i.cell 1
      simp only [List.getElem?_cons_zero, List.getElem?_cons_succ] at i0 i1
      go_wp2_with fail
      refine (HTI.out w11 hw11).mono ?_
      rcases takeItem_two ls xs with ⟨t5, l5, ht5, hm5, hls5, hxs5, he5⟩ | he5
      · rw [he5]
        rintro e w20 ⟨a5, n5, c5, rfl, hO5, hb5⟩
        have hw20 := hw11.to hb5
        obtain ⟨_, _, _, hee, hch5⟩ := hO5.chn
        cases hee
        have hn5 : n5 ≤ 4 := by have h1 : l5.length = n5 := hch5.len; have h2 := (mayB_parts hm5).2.1; omega
        clear hb5 hO5 i0 i1 he5 hw11
        have hba := hal w20 (.cells #[.int .u64 (t5 : Int), .slice a5 n5 c5] 25)
        have hw21 := hw20.to hba
        have hZ := Arr.new w20 25 [.int .u64 (t5 : Int), .slice a5 n5 c5]
        have hch6 := hch5.to hba
        go_upto_region 16 with (fail)
        generalize w20.alloc (.cells #[.int .u64 (t5 : Int), .slice a5 n5 c5] 25) = w21 at *
        obtain ⟨Z, hZe⟩ : ∃ Z, Z = w20.heap.size := ⟨_, rfl⟩
        rw [← hZe] at hZ ⊢
        clear hZe hba hw20
        have z0 := hZ.cell 0
        have z1 := hZ.cell 1
        simp only [List.getElem?_cons_zero, List.getElem?_cons_succ] at z0 z1
        go_wp2_with fail
        have hgood := item_good (t := t5) hm5
        refine (Item_any t5 a5 n5 c5 l5 w21 (by omega) ht5 hch6).mono ?_
        rintro e w22 ⟨a6, n6, c6, a7, n7, c7, rfl, o6, o7, hb6⟩
        rw [hgood.1]
        have h6 := hgood.2.1.trans hls5.symm
        have h7 := hgood.2.2.trans hxs5.symm
        rw [h6] at o6
        rw [h7] at o7
        have hw22 := hw21.to hb6
        clear hb6 hch5 hch6 z0 z1 hZ hw21 hgood h6 h7 hls5 hxs5
        have hba := hal w22 (.cells #[.slice a6 n6 c6, .slice a7 n7 c7] 34)
        have hw23 := hw22.to hba
        have hZ := Arr.new w22 34 [.slice a6 n6 c6, .slice a7 n7 c7]
        have p6 := o6.rd.toRd.to hba
        have p7 := o7.rd.toRd.to hba
        go_upto_region 18 with (fail)
        generalize w22.alloc (.cells #[.slice a6 n6 c6, .slice a7 n7 c7] 34) = w23 at *
        obtain ⟨Z, hZe⟩ : ∃ Z, Z = w22.heap.size := ⟨_, rfl⟩
        rw [← hZe] at hZ ⊢
        clear hZe hba hw22
        have z0 := hZ.cell 0
        have z1 := hZ.cell 1
        simp only [List.getElem?_cons_zero, List.getElem?_cons_succ] at z0 z1
        have i0 := hw23.i.cell 0
        have i1 := hw23.i.cell 1
        simp only [List.getElem?_cons_zero, List.getElem?_cons_succ] at i0 i1
        have hE1 := Equal_any a6 la n6 c6 ln lc ls ls w23 p6 (HRL.out w23 hw23)
        have hE2 := Equal_any a7 xa n7 c7 xn xc xs xs w23 p7 (HRX.out w23 hw23)
        rw [decide_eq_true rfl] at hE1 hE2
        have HE1 := Lib.hid hE1
        have HE2 := Lib.hid hE2
        clear hE1 hE2 p6 p7 o6 o7
        go_wp2_with fail
        refine HE1.out.mono ?_
        rintro e wq ⟨rfl, rfl⟩
        go_wp2_with fail
        refine HE2.out.mono ?_
        rintro e wq ⟨rfl, rfl⟩
        go_wp2_with fail
        refine (awake_any w23).mono ?_
        rintro e wz ⟨rfl, hbz⟩
        go_wp2
        go_ret
        exact ⟨rfl, (hw23.to hbz).bw⟩
      · rw [he5]
        rintro e w20 ⟨a5, n5, c5, rfl, -, hb5⟩
        have hw20 := hw11.to hb5
        clear hb5 i0 i1 he5 hw11
        have hba := hal w20 (.cells #[.int .u64 0, .slice a5 n5 c5] 25)
        have hw21 := hw20.to hba
        have hZ := Arr.new w20 25 [.int .u64 0, .slice a5 n5 c5]
        go_upto_region 16 with (fail)
        generalize w20.alloc (.cells #[.int .u64 0, .slice a5 n5 c5] 25) = w21 at *
        obtain ⟨Z, hZe⟩ : ∃ Z, Z = w20.heap.size := ⟨_, rfl⟩
        rw [← hZe] at hZ ⊢
        clear hZe hba hw20
        go_wp2_with fail
        refine (awake_any w21).mono ?_
        rintro e wz ⟨rfl, hbz⟩
        go_wp2
        go_ret
        exact ⟨rfl, (hw21.to hbz).bw⟩
end Go.Proofs.Ytcohcjhbkiangaa
