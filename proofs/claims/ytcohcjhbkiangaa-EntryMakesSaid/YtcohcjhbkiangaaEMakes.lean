/-
  What is made of entries is the document's, for any two; they stay, what is answered is new memory. Conditions: none.
-/
import Derived.Test.YtcohcjhbkiangaaEBack
import Derived.Test.YtcohcjhbkiangaaEoC
import Derived.Test.YtcohcjhbkiangaaEnX
import Derived.Test.YtcohcjhbkiangaaRegF
namespace Go.Proofs.Ytcohcjhbkiangaa
open Go.ChangeShapes Go.WideShapes Go.ChangeAt Go.RowKit

structure MkW (w : World) (B X t : Nat) (al : Option Addr) (n cap u : Nat) (bl : Option Addr) (m mc : Nat) (a1 : Option Addr) (n1 c1 : Nat) (xss yss : List (List UInt8)) (wr : World) : Prop where
  bw : Below B w wr
  le : B ≤ wr.heap.size
  e : Arr wr B 25 [.int .u64 (t : Int), .slice al n cap]
  o : Arr wr (B + 1) 25 [.int .u64 (u : Int), .slice bl m mc]
  x : Arr wr X 25 [.int .u64 (t : Int), .slice a1 n1 c1]
  ch : Chn wr a1 n1 c1 xss
  he : Chn wr al n cap xss
  ho : Chn wr bl m mc yss
theorem MkW.to {w : World} {B X t : Nat} {al : Option Addr} {n cap u : Nat} {bl : Option Addr} {m mc : Nat} {a1 : Option Addr} {n1 c1 : Nat} {xss yss : List (List UInt8)} {wr w' : World} (h : MkW w B X t al n cap u bl m mc a1 n1 c1 xss yss wr) (hb : Below wr.heap.size wr w') : MkW w B X t al n cap u bl m mc a1 n1 c1 xss yss w' :=
  ⟨h.bw.trans (hb.mono h.le), Nat.le_trans h.le hb.size, h.e.kept hb, h.o.kept hb, h.x.kept hb, h.ch.to hb, h.he.to hb, h.ho.to hb⟩
theorem ownC_lit6 {w : World} {B : Nat} {x1 x2 x3 x4 x5 x6 : Value} {X1 X2 X3 X4 X5 X6 : List UInt8} (hB : B ≤ w.heap.size) (h1 : Own w B 5 x1 X1) (h2 : Own w B 5 x2 X2) (h3 : Own w B 5 x3 X3) (h4 : Own w B 5 x4 X4) (h5 : Own w B 5 x5 X5) (h6 : Own w B 5 x6 X6) :
    OwnC (w.alloc (.cells #[x1, x2, x3, x4, x5, x6] 27)) B (.slice (some ⟨w.heap.size, 0, none⟩) 6 6) [X1, X2, X3, X4, X5, X6] := by
  refine ⟨[x1, x2, x3, x4, x5, x6], ?_, rfl, fun j hj => ?_⟩
  · exact World.ownsRow_lit (base := B) (e := 27) (size := 1) w #[x1, x2, x3, x4, x5, x6] 6 hB (by decide) (by simp)
  · have hb := hal w (.cells #[x1, x2, x3, x4, x5, x6] 27)
    have : j < 6 := hj
    have : j = 0 ∨ j = 1 ∨ j = 2 ∨ j = 3 ∨ j = 4 ∨ j = 5 := by omega
    rcases this with rfl | rfl | rfl | rfl | rfl | rfl
    · exact h1.to hb
    · exact h2.to hb
    · exact h3.to hb
    · exact h4.to hb
    · exact h5.to hb
    · exact h6.to hb
theorem stamp_small (t : Nat) (l : List (List UInt8)) : (stampR t l).1.length ≤ 3000 := by
  unfold stampR
  split
  · rename_i h
    obtain ⟨c, r, rfl, hc, -, -⟩ := may_first h
    show (stampF t c).length ≤ 3000
    rw [stamp_len]; omega
  · simp
theorem extra_small (l : List (List UInt8)) : (extraR l).1.length ≤ 3000 := by
  unfold extraR
  split
  · rename_i h
    obtain ⟨c, r, rfl, -, hr, hx⟩ := may_first h
    have := cat_bound (xss := r) (by omega) hx
    show (listF r).length ≤ 3000
    rw [list_len]; omega
  · simp
theorem rec_small (t : Nat) (l : List (List UInt8)) : (recR t l).1.length ≤ 3000 := by
  unfold recR
  split
  · rename_i h; exact rec_len t l h
  · simp

structure InvMk (t u : Nat) (al bl a1 : Option Addr) (n cap m mc n1 c1 : Nat) (V6 V8 V10 V12 V14 V16 V18 V20 P1 P2 Q1 Q2 : Value) (E1 E2 E3 E4 : Int) (mb sb : Bool) (B X Y Z : Nat) (w1 : World) (L : Nat → Bool) (v : Nat → Value) (wx : World) : Prop where
  t0 : L 0 = true → (v 79) = .int .i64 E1
  t1 : L 1 = true → (v 80) = .int .i64 E1
  t2 : L 2 = true → (v 81) = .bool true
  t3 : L 3 = true → (v 82) = .bool true
  t4 : L 4 = true → (v 83) = V6
  t5 : L 5 = true → (v 84) = V8
  t6 : L 6 = true → (v 85) = .bool true
  t7 : L 7 = true → (v 86) = .bool true
  t8 : L 8 = true → (v 87) = .bool true
  t9 : L 9 = true → (v 88) = .int .i64 E2
  t10 : L 10 = true → (v 89) = .int .i64 E2
  t11 : L 11 = true → (v 90) = .bool true
  t12 : L 12 = true → (v 91) = .bool true
  t13 : L 13 = true → (v 92) = .bool true
  t14 : L 14 = true → (v 93) = V10
  t15 : L 15 = true → (v 94) = V12
  t16 : L 16 = true → (v 95) = .bool true
  t17 : L 17 = true → (v 96) = .bool true
  t18 : L 18 = true → (v 97) = .bool true
  t19 : L 19 = true → (v 98) = .int .i64 E3
  t20 : L 20 = true → (v 99) = .int .i64 E3
  t21 : L 21 = true → (v 100) = .bool true
  t22 : L 22 = true → (v 101) = .bool true
  t23 : L 23 = true → (v 102) = .bool true
  t24 : L 24 = true → (v 103) = V14
  t25 : L 25 = true → (v 104) = V16
  t26 : L 26 = true → (v 105) = .bool true
  t27 : L 27 = true → (v 106) = .bool true
  t28 : L 28 = true → (v 107) = .bool true
  t29 : L 29 = true → (v 108) = .int .i64 E1
  t30 : L 30 = true → (v 109) = .int .i64 E1
  t31 : L 31 = true → (v 110) = .bool true
  t32 : L 32 = true → (v 111) = .bool true
  t33 : L 33 = true → (v 112) = .bool true
  t34 : L 34 = true → (v 113) = V18
  t35 : L 35 = true → (v 114) = V20
  t36 : L 36 = true → (v 115) = .bool true
  t37 : L 37 = true → (v 116) = .bool true
  t38 : L 38 = true → (v 117) = .bool true
  t39 : L 39 = true → (v 118) = .int .i64 E4
  t40 : L 40 = true → (v 119) = .int .i64 E4
  t41 : L 41 = true → (v 120) = .bool true
  t42 : L 42 = true → (v 121) = .bool true
  t43 : L 43 = true → (v 122) = .bool true
  t44 : L 44 = true → (v 123) = .pointer (some ⟨Y, 0, none⟩)
  t45 : L 45 = true → (v 124) = P1
  t46 : L 46 = true → (v 125) = .pointer (some ⟨Z, 0, none⟩)
  t47 : L 47 = true → (v 126) = Q1
  t48 : L 48 = true → (v 127) = .bool true
  t49 : L 49 = true → (v 128) = .bool true
  t50 : L 50 = true → (v 129) = .bool true
  t51 : L 51 = true → (v 130) = .pointer (some ⟨Y, 1, none⟩)
  t52 : L 52 = true → (v 131) = P2
  t53 : L 53 = true → (v 132) = .pointer (some ⟨Z, 1, none⟩)
  t54 : L 54 = true → (v 133) = Q2
  t55 : L 55 = true → (v 134) = .bool true
  t56 : L 56 = true → (v 135) = .bool true
  t57 : L 57 = true → (v 136) = .bool true
  t58 : L 58 = true → (v 137) = entV t a1 n1 c1
  t59 : L 59 = true → (v 138) = .bool mb
  t60 : L 60 = true → (v 139) = entV t al n cap
  t61 : L 61 = true → (v 140) = .bool mb
  t62 : L 62 = true → (v 141) = .bool true
  t63 : L 63 = true → (v 142) = .bool true
  t64 : L 64 = true → (v 143) = .bool true
  t65 : L 65 = true → (v 144) = entV t a1 n1 c1
  t66 : L 66 = true → (v 145) = entV u bl m mc
  t67 : L 67 = true → (v 146) = .bool sb
  t68 : L 68 = true → (v 147) = entV t al n cap
  t69 : L 69 = true → (v 148) = entV u bl m mc
  t70 : L 70 = true → (v 149) = .bool sb
  t71 : L 71 = true → (v 150) = .bool true
  t72 : L 72 = true → (v 151) = .bool true
  t73 : L 73 = true → (v 26) = .bool true
  bw : Below w1.heap.size w1 wx
set_option maxRecDepth 100000 in
set_option maxHeartbeats 16000000 in
theorem Makes_law (t : Nat) (al : Option Addr) (n cap : Nat) (xss : List (List UInt8)) (u : Nat) (bl : Option Addr) (m mc : Nat) (yss : List (List UInt8)) (w : World)
    (ht : t ≤ 18446744073709551615) (hn : n ≤ 5864062014700) (h : Chn w al n cap xss) (hx : ∀ x ∈ xss, x.length ≤ 140737488355328) (hm : m ≤ 5864062014700) (h' : Chn w bl m mc yss) :
    Calls Try.prog 3 #[entV t al n cap, entV u bl m mc] w fun e w' => e = .returned (.bool true) ∧ Below w.heap.size w w' := by
  have hb0 : Below w.heap.size w ((w.alloc (.cells #[.int .u64 (t : Int), .slice al n cap] 25)).alloc (.cells #[.int .u64 (u : Int), .slice bl m mc] 25)) := (hal w _).alloc (by simp) _
  have hE0 : Arr ((w.alloc (.cells #[.int .u64 (t : Int), .slice al n cap] 25)).alloc (.cells #[.int .u64 (u : Int), .slice bl m mc] 25)) w.heap.size 25 [.int .u64 (t : Int), .slice al n cap] := (Arr.new w _ _).kept (hal _ _)
  have hO0 : Arr ((w.alloc (.cells #[.int .u64 (t : Int), .slice al n cap] 25)).alloc (.cells #[.int .u64 (u : Int), .slice bl m mc] 25)) (w.heap.size + 1) 25 [.int .u64 (u : Int), .slice bl m mc] := by
    have := Arr.new (w.alloc (.cells #[.int .u64 (t : Int), .slice al n cap] 25)) 25 [.int .u64 (u : Int), .slice bl m mc]
    simpa using this
  have x0 := hE0.cell 0
  have x1 := hE0.cell 1
  simp only [List.getElem?_cons_zero, List.getElem?_cons_succ] at x0 x1
  have hhe := h.to hb0
  have hho := h'.to hb0
  clear h h'
  go_enter Try.func3, Try.ntmps3
  go_wp2_with fail
  generalize World.alloc (World.alloc w _) _ = w0 at *
  refine (refOwn_any t al n cap xss w0 hn hx hhe).mono ?_
  rintro e w1 ⟨a1, n1, c1, rfl, hO1, hb1⟩
  obtain ⟨_, _, _, ee, hc1⟩ := hO1.chn
  cases ee
  have hbw1 := hb0.trans (hb1.mono hb0.size)
  have hE1 := hE0.kept hb1
  have hOO1 := hO0.kept hb1
  have hhe1 := hhe.to hb1
  have hho1 := hho.to hb1
  have hn1' : n1 ≤ 5864062014700 := by have h1 := hc1.len; have h2 := hhe.len; omega
  generalize hB : w.heap.size = B at *
  have HB := Lib.hid hB
  have hle1 : B ≤ w1.heap.size := by have := hbw1.size; omega
  clear hB hb0 hE0 hO0 hhe hho x0 x1 hO1 hb1
  have hba := hal w1 (.cells #[.int .u64 (t : Int), .slice a1 n1 c1] 25)
  have hX := Arr.new w1 25 [.int .u64 (t : Int), .slice a1 n1 c1]
  have h2 : MkW w B w1.heap.size t al n cap u bl m mc a1 n1 c1 xss yss (w1.alloc (.cells #[.int .u64 (t : Int), .slice a1 n1 c1] 25)) := ⟨hbw1.trans (hba.mono hle1), Nat.le_trans hle1 hba.size, hE1.kept hba, hOO1.kept hba, hX, hc1.to hba, hhe1.to hba, hho1.to hba⟩
  go_upto_region 2 with (fail)
  generalize w1.alloc (.cells #[.int .u64 (t : Int), .slice a1 n1 c1] 25) = w2 at *
  obtain ⟨X, hXe⟩ : ∃ X, X = w1.heap.size := ⟨_, rfl⟩
  rw [← hXe] at h2 ⊢
  clear hXe hba hX hbw1 hE1 hOO1 hhe1 hho1 hc1 hle1
  have H2 := Lib.hid h2
  clear h2
  have hl2 : Below w2.heap.size w2 w2 := Below.refl _ _
  have h2 := H2.out.to hl2
  have y0 := h2.x.cell 0
  have y1 := h2.x.cell 1
  simp only [List.getElem?_cons_zero, List.getElem?_cons_succ] at y0 y1
  have HC := Lib.hid h2.ch
  clear h2
  go_wp2_with fail
  refine (Leaf_any t a1 n1 c1 xss w2 (by omega) ht HC.out).mono ?_
  rintro e w3 ⟨v6, rfl, o6, hb3⟩
  obtain ⟨a6, n6, c6, rfl, -⟩ := o6.reads
  have o6 := o6.mono (B' := w2.heap.size) hl2.size
  have hl3 := hl2.trans (hb3.mono hl2.size)
  clear hb3 hl2 y0 y1 HC
  have h3 := H2.out.to hl3
  have y0 := h3.e.cell 0
  have y1 := h3.e.cell 1
  simp only [List.getElem?_cons_zero, List.getElem?_cons_succ] at y0 y1
  have HC := Lib.hid h3.he
  clear h3
  go_wp2_with fail
  refine (refLeaf_any t al n cap xss w3 (by omega) ht HC.out).mono ?_
  rintro e w4 ⟨v8, rfl, o8, hb4⟩
  obtain ⟨a8, n8, c8, rfl, -⟩ := o8.reads
  have o6 := o6.to hb4
  have o8 := o8.mono (B' := w2.heap.size) hl3.size
  have hl4 := hl3.trans (hb4.mono hl3.size)
  clear hb4 hl3 y0 y1 HC
  have h4 := H2.out.to hl4
  have y0 := h4.x.cell 0
  have y1 := h4.x.cell 1
  simp only [List.getElem?_cons_zero, List.getElem?_cons_succ] at y0 y1
  have HC := Lib.hid h4.ch
  clear h4
  go_wp2_with fail
  refine (Extra_any t a1 n1 c1 xss w4 (by omega) HC.out).mono ?_
  rintro e w5 ⟨v10, rfl, o10, hb5⟩
  obtain ⟨a10, n10, c10, rfl, -⟩ := o10.reads
  have o6 := o6.to hb5
  have o8 := o8.to hb5
  have o10 := o10.mono (B' := w2.heap.size) hl4.size
  have hl5 := hl4.trans (hb5.mono hl4.size)
  clear hb5 hl4 y0 y1 HC
  have h5 := H2.out.to hl5
  have y0 := h5.e.cell 0
  have y1 := h5.e.cell 1
  simp only [List.getElem?_cons_zero, List.getElem?_cons_succ] at y0 y1
  have HC := Lib.hid h5.he
  clear h5
  go_wp2_with fail
  refine (refExtra_any t al n cap xss w5 (by omega) HC.out).mono ?_
  rintro e w6 ⟨v12, rfl, o12, hb6⟩
  obtain ⟨a12, n12, c12, rfl, -⟩ := o12.reads
  have o6 := o6.to hb6
  have o8 := o8.to hb6
  have o10 := o10.to hb6
  have o12 := o12.mono (B' := w2.heap.size) hl5.size
  have hl6 := hl5.trans (hb6.mono hl5.size)
  clear hb6 hl5 y0 y1 HC
  have h6 := H2.out.to hl6
  have y0 := h6.x.cell 0
  have y1 := h6.x.cell 1
  simp only [List.getElem?_cons_zero, List.getElem?_cons_succ] at y0 y1
  have HC := Lib.hid h6.ch
  clear h6
  go_wp2_with fail
  refine (Record_any t a1 n1 c1 xss w6 (by omega) ht HC.out).mono ?_
  rintro e w7 ⟨v14, rfl, o14, hb7⟩
  obtain ⟨a14, n14, c14, rfl, -⟩ := o14.reads
  have o6 := o6.to hb7
  have o8 := o8.to hb7
  have o10 := o10.to hb7
  have o12 := o12.to hb7
  have o14 := o14.mono (B' := w2.heap.size) hl6.size
  have hl7 := hl6.trans (hb7.mono hl6.size)
  clear hb7 hl6 y0 y1 HC
  have h7 := H2.out.to hl7
  have y0 := h7.e.cell 0
  have y1 := h7.e.cell 1
  simp only [List.getElem?_cons_zero, List.getElem?_cons_succ] at y0 y1
  have HC := Lib.hid h7.he
  clear h7
  go_wp2_with fail
  refine (refRecord_any t al n cap xss w7 (by omega) ht HC.out).mono ?_
  rintro e w8 ⟨v16, rfl, o16, hb8⟩
  obtain ⟨a16, n16, c16, rfl, -⟩ := o16.reads
  have o6 := o6.to hb8
  have o8 := o8.to hb8
  have o10 := o10.to hb8
  have o12 := o12.to hb8
  have o14 := o14.to hb8
  have o16 := o16.mono (B' := w2.heap.size) hl7.size
  have hl8 := hl7.trans (hb8.mono hl7.size)
  clear hb8 hl7 y0 y1 HC
  have h8 := H2.out.to hl8
  have y0 := h8.x.cell 0
  have y1 := h8.x.cell 1
  simp only [List.getElem?_cons_zero, List.getElem?_cons_succ] at y0 y1
  have HC := Lib.hid h8.ch
  clear h8
  go_wp2_with fail
  refine (SCT_any t a1 n1 c1 xss w8 (by omega) ht HC.out).mono ?_
  rintro e w9 ⟨v18, rfl, o18, hb9⟩
  obtain ⟨a18, n18, c18, rfl, -⟩ := o18.reads
  have o6 := o6.to hb9
  have o8 := o8.to hb9
  have o10 := o10.to hb9
  have o12 := o12.to hb9
  have o14 := o14.to hb9
  have o16 := o16.to hb9
  have o18 := o18.mono (B' := w2.heap.size) hl8.size
  have hl9 := hl8.trans (hb9.mono hl8.size)
  clear hb9 hl8 y0 y1 HC
  have h9 := H2.out.to hl9
  have y0 := h9.e.cell 0
  have y1 := h9.e.cell 1
  simp only [List.getElem?_cons_zero, List.getElem?_cons_succ] at y0 y1
  have HC := Lib.hid h9.he
  clear h9
  go_wp2_with fail
  refine (refSCT_any t al n cap xss w9 (by omega) ht HC.out).mono ?_
  rintro e w10 ⟨v20, rfl, o20, hb10⟩
  obtain ⟨a20, n20, c20, rfl, -⟩ := o20.reads
  have o6 := o6.to hb10
  have o8 := o8.to hb10
  have o10 := o10.to hb10
  have o12 := o12.to hb10
  have o14 := o14.to hb10
  have o16 := o16.to hb10
  have o18 := o18.to hb10
  have o20 := o20.mono (B' := w2.heap.size) hl9.size
  have hl10 := hl9.trans (hb10.mono hl9.size)
  clear hb10 hl9 y0 y1 HC
  have h10 := H2.out.to hl10
  have y0 := h10.x.cell 0
  have y1 := h10.x.cell 1
  simp only [List.getElem?_cons_zero, List.getElem?_cons_succ] at y0 y1
  have HC := Lib.hid h10.ch
  clear h10
  go_wp2_with fail
  refine (Item_any t a1 n1 c1 xss w10 (by omega) ht HC.out).mono ?_
  rintro e w11 ⟨a220, n220, c220, a221, n221, c221, rfl, o220, o221, hb11⟩
  have o6 := o6.to hb11
  have o8 := o8.to hb11
  have o10 := o10.to hb11
  have o12 := o12.to hb11
  have o14 := o14.to hb11
  have o16 := o16.to hb11
  have o18 := o18.to hb11
  have o20 := o20.to hb11
  have o220 := o220.mono (B' := w2.heap.size) hl10.size
  have o221 := o221.mono (B' := w2.heap.size) hl10.size
  have hl11 := hl10.trans (hb11.mono hl10.size)
  clear hb11 hl10 y0 y1 HC
  have hba := hal w11 (.cells #[.slice a220 n220 c220, .slice a221 n221 c221] 34)
  have hY := Arr.new w11 34 [.slice a220 n220 c220, .slice a221 n221 c221]
  have o6 := o6.to hba
  have o8 := o8.to hba
  have o10 := o10.to hba
  have o12 := o12.to hba
  have o14 := o14.to hba
  have o16 := o16.to hba
  have o18 := o18.to hba
  have o20 := o20.to hba
  have o220 := o220.to hba
  have o221 := o221.to hba
  have hl12 := hl11.trans (hba.mono hl11.size)
  go_upto_region 11 with (fail)
  generalize w11.alloc (.cells #[.slice a220 n220 c220, .slice a221 n221 c221] 34) = w12 at *
  obtain ⟨Y, hYe⟩ : ∃ Y, Y = w11.heap.size := ⟨_, rfl⟩
  rw [← hYe] at hY ⊢
  clear hYe hba hl11
  have h12 := H2.out.to hl12
  have y0 := h12.e.cell 0
  have y1 := h12.e.cell 1
  simp only [List.getElem?_cons_zero, List.getElem?_cons_succ] at y0 y1
  have HC := Lib.hid h12.he
  clear h12
  go_wp2_with fail
  refine (refItem_any t al n cap xss w12 (by omega) ht HC.out).mono ?_
  rintro e w13 ⟨a240, n240, c240, a241, n241, c241, rfl, o240, o241, hb13⟩
  have hY := hY.kept hb13
  have o6 := o6.to hb13
  have o8 := o8.to hb13
  have o10 := o10.to hb13
  have o12 := o12.to hb13
  have o14 := o14.to hb13
  have o16 := o16.to hb13
  have o18 := o18.to hb13
  have o20 := o20.to hb13
  have o220 := o220.to hb13
  have o221 := o221.to hb13
  have o240 := o240.mono (B' := w2.heap.size) hl12.size
  have o241 := o241.mono (B' := w2.heap.size) hl12.size
  have hl13 := hl12.trans (hb13.mono hl12.size)
  clear hb13 hl12 y0 y1 HC
  have hba := hal w13 (.cells #[.slice a240 n240 c240, .slice a241 n241 c241] 34)
  have hZ := Arr.new w13 34 [.slice a240 n240 c240, .slice a241 n241 c241]
  have o6 := o6.to hba
  have o8 := o8.to hba
  have o10 := o10.to hba
  have o12 := o12.to hba
  have o14 := o14.to hba
  have o16 := o16.to hba
  have o18 := o18.to hba
  have o20 := o20.to hba
  have o220 := o220.to hba
  have o221 := o221.to hba
  have o240 := o240.to hba
  have o241 := o241.to hba
  have hl14 := hl13.trans (hba.mono hl13.size)
  have hY := hY.kept hba
  go_upto_region 12 with (fail)
  generalize w13.alloc (.cells #[.slice a240 n240 c240, .slice a241 n241 c241] 34) = w14 at *
  obtain ⟨Z, hZe⟩ : ∃ Z, Z = w13.heap.size := ⟨_, rfl⟩
  rw [← hZe] at hZ ⊢
  clear hZe hba hl13
  have HW := Lib.hid (H2.out.to hl14)
  have HR6 := Lib.hid o6.rd.toRd
  have HR8 := Lib.hid o8.rd.toRd
  have HR10 := Lib.hid o10.rd.toRd
  have HR12 := Lib.hid o12.rd.toRd
  have HR14 := Lib.hid o14.rd.toRd
  have HR16 := Lib.hid o16.rd.toRd
  have HR18 := Lib.hid o18.rd.toRd
  have HR20 := Lib.hid o20.rd.toRd
  have HR220 := Lib.hid o220.rd.toRd
  have HR221 := Lib.hid o221.rd.toRd
  have HR240 := Lib.hid o240.rd.toRd
  have HR241 := Lib.hid o241.rd.toRd
  have HO6 := Lib.hid o6
  have HO10 := Lib.hid o10
  have HO14 := Lib.hid o14
  have HO18 := Lib.hid o18
  have HO220 := Lib.hid o220
  have HO221 := Lib.hid o221
  have HY := Lib.hid hY
  have HZ := Lib.hid hZ
  have HL := Lib.hid hl14
  clear hY hZ hl14 o6 o8 o10 o12 o14 o16 o18 o20 o220 o221 o240 o241
  generalize (stampR t xss).2 = E1 at *
  generalize (extraR xss).2 = E2 at *
  generalize (recR t xss).2 = E3 at *
  generalize itemE t xss = E4 at *
  obtain ⟨mb, hmb'⟩ : ∃ mb, mb = mayB xss := ⟨_, rfl⟩
  obtain ⟨sb, hsb'⟩ : ∃ sb, sb = sameB t u xss yss := ⟨_, rfl⟩
  have hmb : Hid (mayB xss = mb) := hmb'.symm
  have hsb : Hid (sameB t u xss yss = sb) := hsb'.symm
  clear hmb' hsb'
  refine wp_region_steps [[], [], [0, 1], [2], [3], [3], [3, 4, 5], [3, 6], [7], [8], [8], [8, 9, 10], [8, 11], [12], [13], [13], [13, 14, 15], [13, 16], [17], [18], [18], [18, 19, 20], [18, 21], [22], [23], [23], [23, 24, 25], [23, 26], [27], [28], [28], [28, 29, 30], [28, 31], [32], [33], [33], [33, 34, 35], [33, 36], [37], [38], [38], [38, 39, 40], [38, 41], [42], [43], [43, 44], [43], [43, 46], [43, 45, 47], [43, 48], [49], [50], [50, 51], [50], [50, 53], [50, 52, 54], [50, 55], [56], [57], [57, 58], [57], [57, 60], [57, 59, 61], [57, 62], [63], [64], [64], [64, 65, 66], [64], [64], [64, 68, 69], [64, 67, 70], [64, 71], [72]] (by kernel_rfl) (by kernel_rfl) (fun L a wx => ∃ v : Nat → Value, a = ⟨#[entV t al n cap, entV u bl m mc, .pointer (some ⟨B, 0, none⟩), .pointer (some ⟨B + 1, 0, none⟩), .bool false, .pointer (some ⟨X, 0, none⟩), .slice a6 n6 c6, .int .i64 E1, .slice a8 n8 c8, .int .i64 E1, .slice a10 n10 c10, .int .i64 E2, .slice a12 n12 c12, .int .i64 E2, .slice a14 n14 c14, .int .i64 E3, .slice a16 n16 c16, .int .i64 E3, .slice a18 n18 c18, .int .i64 E1, .slice a20 n20 c20, .int .i64 E1, .pointer (some ⟨Y, 0, none⟩), .int .i64 E4, .pointer (some ⟨Z, 0, none⟩), .int .i64 E4, v 26, .agg #[.int .u64 (t : Int), .slice al n cap], entV t a1 n1 c1, .tuple #[.slice a6 n6 c6, .int .i64 E1], .agg #[.int .u64 (t : Int), .slice a1 n1 c1], .tuple #[.slice a6 n6 c6, .int .i64 E1], .slice a6 n6 c6, .int .i64 E1, .tuple #[.slice a8 n8 c8, .int .i64 E1], .agg #[.int .u64 (t : Int), .slice al n cap], .tuple #[.slice a8 n8 c8, .int .i64 E1], .slice a8 n8 c8, .int .i64 E1, .tuple #[.slice a10 n10 c10, .int .i64 E2], .agg #[.int .u64 (t : Int), .slice a1 n1 c1], .tuple #[.slice a10 n10 c10, .int .i64 E2], .slice a10 n10 c10, .int .i64 E2, .tuple #[.slice a12 n12 c12, .int .i64 E2], .agg #[.int .u64 (t : Int), .slice al n cap], .tuple #[.slice a12 n12 c12, .int .i64 E2], .slice a12 n12 c12, .int .i64 E2, .tuple #[.slice a14 n14 c14, .int .i64 E3], .agg #[.int .u64 (t : Int), .slice a1 n1 c1], .tuple #[.slice a14 n14 c14, .int .i64 E3], .slice a14 n14 c14, .int .i64 E3, .tuple #[.slice a16 n16 c16, .int .i64 E3], .agg #[.int .u64 (t : Int), .slice al n cap], .tuple #[.slice a16 n16 c16, .int .i64 E3], .slice a16 n16 c16, .int .i64 E3, .tuple #[.slice a18 n18 c18, .int .i64 E1], .agg #[.int .u64 (t : Int), .slice a1 n1 c1], .tuple #[.slice a18 n18 c18, .int .i64 E1], .slice a18 n18 c18, .int .i64 E1, .tuple #[.slice a20 n20 c20, .int .i64 E1], .agg #[.int .u64 (t : Int), .slice al n cap], .tuple #[.slice a20 n20 c20, .int .i64 E1], .slice a20 n20 c20, .int .i64 E1, .tuple #[.agg #[.slice a220 n220 c220, .slice a221 n221 c221], .int .i64 E4], .agg #[.int .u64 (t : Int), .slice a1 n1 c1], .tuple #[.agg #[.slice a220 n220 c220, .slice a221 n221 c221], .int .i64 E4], .agg #[.slice a220 n220 c220, .slice a221 n221 c221], .int .i64 E4, .tuple #[.agg #[.slice a240 n240 c240, .slice a241 n241 c241], .int .i64 E4], .agg #[.int .u64 (t : Int), .slice al n cap], .tuple #[.agg #[.slice a240 n240 c240, .slice a241 n241 c241], .int .i64 E4], .agg #[.slice a240 n240 c240, .slice a241 n241 c241], .int .i64 E4, v 79, v 80, v 81, v 82, v 83, v 84, v 85, v 86, v 87, v 88, v 89, v 90, v 91, v 92, v 93, v 94, v 95, v 96, v 97, v 98, v 99, v 100, v 101, v 102, v 103, v 104, v 105, v 106, v 107, v 108, v 109, v 110, v 111, v 112, v 113, v 114, v 115, v 116, v 117, v 118, v 119, v 120, v 121, v 122, v 123, v 124, v 125, v 126, v 127, v 128, v 129, v 130, v 131, v 132, v 133, v 134, v 135, v 136, v 137, v 138, v 139, v 140, v 141, v 142, v 143, v 144, v 145, v 146, v 147, v 148, v 149, v 150, v 151, undef, undef, undef, undef, undef, undef, undef, undef, undef, undef, undef, undef, undef, undef, undef, undef, undef, undef, undef], []⟩ ∧ InvMk t u al bl a1 n cap m mc n1 c1 (.slice a6 n6 c6) (.slice a8 n8 c8) (.slice a10 n10 c10) (.slice a12 n12 c12) (.slice a14 n14 c14) (.slice a16 n16 c16) (.slice a18 n18 c18) (.slice a20 n20 c20) (.slice a220 n220 c220) (.slice a221 n221 c221) (.slice a240 n240 c240) (.slice a241 n241 c241) E1 E2 E3 E4 mb sb B X Y Z w14 L v wx) ?_ ⟨?_, ?_, ?_, ?_, ?_, ?_, ?_, ?_, ?_, ?_, ?_, ?_, ?_, ?_, ?_, ?_, ?_, ?_, ?_, ?_, ?_, ?_, ?_, ?_, ?_, ?_, ?_, ?_, ?_, ?_, ?_, ?_, ?_, ?_, ?_, ?_, ?_, ?_, ?_, ?_, ?_, ?_, ?_, ?_, ?_, ?_, ?_, ?_, ?_, ?_, ?_, ?_, ?_, ?_, ?_, ?_, ?_, ?_, ?_, ?_, ?_, ?_, ?_, ?_, ?_, ?_, ?_, ?_, ?_, ?_, ?_, ?_, ?_, ?_, trivial⟩ ?_
  · refine ⟨fun _ => undef, rfl, ⟨?_, ?_, ?_, ?_, ?_, ?_, ?_, ?_, ?_, ?_, ?_, ?_, ?_, ?_, ?_, ?_, ?_, ?_, ?_, ?_, ?_, ?_, ?_, ?_, ?_, ?_, ?_, ?_, ?_, ?_, ?_, ?_, ?_, ?_, ?_, ?_, ?_, ?_, ?_, ?_, ?_, ?_, ?_, ?_, ?_, ?_, ?_, ?_, ?_, ?_, ?_, ?_, ?_, ?_, ?_, ?_, ?_, ?_, ?_, ?_, ?_, ?_, ?_, ?_, ?_, ?_, ?_, ?_, ?_, ?_, ?_, ?_, ?_, ?_, below_drew (Below.refl _ _)⟩⟩ <;> (intro h; exact absurd h (by decide))
  · rintro L a wx ⟨v, rfl, hI⟩ hL hdep hcl K hK
    go_simp
    exact hK _ _ ⟨(upd v 79 (.int .i64 E1)), rfl, ⟨fun _ => rfl, hI.t1, hI.t2, hI.t3, hI.t4, hI.t5, hI.t6, hI.t7, hI.t8, hI.t9, hI.t10, hI.t11, hI.t12, hI.t13, hI.t14, hI.t15, hI.t16, hI.t17, hI.t18, hI.t19, hI.t20, hI.t21, hI.t22, hI.t23, hI.t24, hI.t25, hI.t26, hI.t27, hI.t28, hI.t29, hI.t30, hI.t31, hI.t32, hI.t33, hI.t34, hI.t35, hI.t36, hI.t37, hI.t38, hI.t39, hI.t40, hI.t41, hI.t42, hI.t43, hI.t44, hI.t45, hI.t46, hI.t47, hI.t48, hI.t49, hI.t50, hI.t51, hI.t52, hI.t53, hI.t54, hI.t55, hI.t56, hI.t57, hI.t58, hI.t59, hI.t60, hI.t61, hI.t62, hI.t63, hI.t64, hI.t65, hI.t66, hI.t67, hI.t68, hI.t69, hI.t70, hI.t71, hI.t72, hI.t73, hI.bw⟩⟩
  · rintro L a wx ⟨v, rfl, hI⟩ hL hdep hcl K hK
    go_simp
    exact hK _ _ ⟨(upd v 80 (.int .i64 E1)), rfl, ⟨hI.t0, fun _ => rfl, hI.t2, hI.t3, hI.t4, hI.t5, hI.t6, hI.t7, hI.t8, hI.t9, hI.t10, hI.t11, hI.t12, hI.t13, hI.t14, hI.t15, hI.t16, hI.t17, hI.t18, hI.t19, hI.t20, hI.t21, hI.t22, hI.t23, hI.t24, hI.t25, hI.t26, hI.t27, hI.t28, hI.t29, hI.t30, hI.t31, hI.t32, hI.t33, hI.t34, hI.t35, hI.t36, hI.t37, hI.t38, hI.t39, hI.t40, hI.t41, hI.t42, hI.t43, hI.t44, hI.t45, hI.t46, hI.t47, hI.t48, hI.t49, hI.t50, hI.t51, hI.t52, hI.t53, hI.t54, hI.t55, hI.t56, hI.t57, hI.t58, hI.t59, hI.t60, hI.t61, hI.t62, hI.t63, hI.t64, hI.t65, hI.t66, hI.t67, hI.t68, hI.t69, hI.t70, hI.t71, hI.t72, hI.t73, hI.bw⟩⟩
  · rintro L a wx ⟨v, rfl, hI⟩ hL hdep hcl K hK
    have e0 := hI.t0 (hdep 0 (by decide))
    have e1 := hI.t1 (hdep 1 (by decide))
    rw [e0, e1]
    go_simp
    exact hK _ _ ⟨(upd (upd (upd v 79 (.int .i64 E1)) 80 (.int .i64 E1)) 81 (.bool true)), rfl, ⟨fun _ => rfl, fun _ => rfl, fun _ => rfl, hI.t3, hI.t4, hI.t5, hI.t6, hI.t7, hI.t8, hI.t9, hI.t10, hI.t11, hI.t12, hI.t13, hI.t14, hI.t15, hI.t16, hI.t17, hI.t18, hI.t19, hI.t20, hI.t21, hI.t22, hI.t23, hI.t24, hI.t25, hI.t26, hI.t27, hI.t28, hI.t29, hI.t30, hI.t31, hI.t32, hI.t33, hI.t34, hI.t35, hI.t36, hI.t37, hI.t38, hI.t39, hI.t40, hI.t41, hI.t42, hI.t43, hI.t44, hI.t45, hI.t46, hI.t47, hI.t48, hI.t49, hI.t50, hI.t51, hI.t52, hI.t53, hI.t54, hI.t55, hI.t56, hI.t57, hI.t58, hI.t59, hI.t60, hI.t61, hI.t62, hI.t63, hI.t64, hI.t65, hI.t66, hI.t67, hI.t68, hI.t69, hI.t70, hI.t71, hI.t72, hI.t73, hI.bw⟩⟩
  · rintro L a wx ⟨v, rfl, hI⟩ hL hdep hcl K hK
    have e2 := hI.t2 (hdep 2 (by decide))
    rw [e2]
    go_simp
    exact hK _ _ ⟨(upd (upd v 81 (.bool true)) 82 (.bool true)), rfl, ⟨hI.t0, hI.t1, fun _ => rfl, fun _ => rfl, hI.t4, hI.t5, hI.t6, hI.t7, hI.t8, hI.t9, hI.t10, hI.t11, hI.t12, hI.t13, hI.t14, hI.t15, hI.t16, hI.t17, hI.t18, hI.t19, hI.t20, hI.t21, hI.t22, hI.t23, hI.t24, hI.t25, hI.t26, hI.t27, hI.t28, hI.t29, hI.t30, hI.t31, hI.t32, hI.t33, hI.t34, hI.t35, hI.t36, hI.t37, hI.t38, hI.t39, hI.t40, hI.t41, hI.t42, hI.t43, hI.t44, hI.t45, hI.t46, hI.t47, hI.t48, hI.t49, hI.t50, hI.t51, hI.t52, hI.t53, hI.t54, hI.t55, hI.t56, hI.t57, hI.t58, hI.t59, hI.t60, hI.t61, hI.t62, hI.t63, hI.t64, hI.t65, hI.t66, hI.t67, hI.t68, hI.t69, hI.t70, hI.t71, hI.t72, hI.t73, hI.bw⟩⟩
  · rintro L a wx ⟨v, rfl, hI⟩ hL hdep hcl K hK
    have e3 := hI.t3 (hdep 3 (by decide))
    rw [e3]
    refine (if_pos rfl).mpr ?_
    go_simp
    exact hK _ _ ⟨(upd (upd v 82 (.bool true)) 83 (.slice a6 n6 c6)), rfl, ⟨hI.t0, hI.t1, hI.t2, fun _ => rfl, fun _ => rfl, hI.t5, hI.t6, hI.t7, hI.t8, hI.t9, hI.t10, hI.t11, hI.t12, hI.t13, hI.t14, hI.t15, hI.t16, hI.t17, hI.t18, hI.t19, hI.t20, hI.t21, hI.t22, hI.t23, hI.t24, hI.t25, hI.t26, hI.t27, hI.t28, hI.t29, hI.t30, hI.t31, hI.t32, hI.t33, hI.t34, hI.t35, hI.t36, hI.t37, hI.t38, hI.t39, hI.t40, hI.t41, hI.t42, hI.t43, hI.t44, hI.t45, hI.t46, hI.t47, hI.t48, hI.t49, hI.t50, hI.t51, hI.t52, hI.t53, hI.t54, hI.t55, hI.t56, hI.t57, hI.t58, hI.t59, hI.t60, hI.t61, hI.t62, hI.t63, hI.t64, hI.t65, hI.t66, hI.t67, hI.t68, hI.t69, hI.t70, hI.t71, hI.t72, hI.t73, hI.bw⟩⟩
  · rintro L a wx ⟨v, rfl, hI⟩ hL hdep hcl K hK
    have e3 := hI.t3 (hdep 3 (by decide))
    rw [e3]
    refine (if_pos rfl).mpr ?_
    go_simp
    exact hK _ _ ⟨(upd (upd v 82 (.bool true)) 84 (.slice a8 n8 c8)), rfl, ⟨hI.t0, hI.t1, hI.t2, fun _ => rfl, hI.t4, fun _ => rfl, hI.t6, hI.t7, hI.t8, hI.t9, hI.t10, hI.t11, hI.t12, hI.t13, hI.t14, hI.t15, hI.t16, hI.t17, hI.t18, hI.t19, hI.t20, hI.t21, hI.t22, hI.t23, hI.t24, hI.t25, hI.t26, hI.t27, hI.t28, hI.t29, hI.t30, hI.t31, hI.t32, hI.t33, hI.t34, hI.t35, hI.t36, hI.t37, hI.t38, hI.t39, hI.t40, hI.t41, hI.t42, hI.t43, hI.t44, hI.t45, hI.t46, hI.t47, hI.t48, hI.t49, hI.t50, hI.t51, hI.t52, hI.t53, hI.t54, hI.t55, hI.t56, hI.t57, hI.t58, hI.t59, hI.t60, hI.t61, hI.t62, hI.t63, hI.t64, hI.t65, hI.t66, hI.t67, hI.t68, hI.t69, hI.t70, hI.t71, hI.t72, hI.t73, hI.bw⟩⟩
  · rintro L a wx ⟨v, rfl, hI⟩ hL hdep hcl K hK
    have e3 := hI.t3 (hdep 3 (by decide))
    have e4 := hI.t4 (hdep 4 (by decide))
    have e5 := hI.t5 (hdep 5 (by decide))
    rw [e3, e4, e5]
    refine (if_pos rfl).mpr ?_
    go_simp
    refine (Equal_any _ _ _ _ _ _ _ _ wx (HR6.out.to hI.bw) (HR8.out.to hI.bw)).mono ?_
    rw [decide_eq_true rfl]
    rintro e w' ⟨rfl, rfl⟩
    exact hK _ _ ⟨(upd (upd (upd (upd v 82 (.bool true)) 83 (.slice a6 n6 c6)) 84 (.slice a8 n8 c8)) 85 (.bool true)), rfl, ⟨hI.t0, hI.t1, hI.t2, fun _ => rfl, fun _ => rfl, fun _ => rfl, fun _ => rfl, hI.t7, hI.t8, hI.t9, hI.t10, hI.t11, hI.t12, hI.t13, hI.t14, hI.t15, hI.t16, hI.t17, hI.t18, hI.t19, hI.t20, hI.t21, hI.t22, hI.t23, hI.t24, hI.t25, hI.t26, hI.t27, hI.t28, hI.t29, hI.t30, hI.t31, hI.t32, hI.t33, hI.t34, hI.t35, hI.t36, hI.t37, hI.t38, hI.t39, hI.t40, hI.t41, hI.t42, hI.t43, hI.t44, hI.t45, hI.t46, hI.t47, hI.t48, hI.t49, hI.t50, hI.t51, hI.t52, hI.t53, hI.t54, hI.t55, hI.t56, hI.t57, hI.t58, hI.t59, hI.t60, hI.t61, hI.t62, hI.t63, hI.t64, hI.t65, hI.t66, hI.t67, hI.t68, hI.t69, hI.t70, hI.t71, hI.t72, hI.t73, hI.bw⟩⟩
  · rintro L a wx ⟨v, rfl, hI⟩ hL hdep hcl K hK
    have e3 := hI.t3 (hdep 3 (by decide))
    have e6 := hI.t6 (hdep 6 (by decide))
    rw [e3, e6]
    go_simp
    exact hK _ _ ⟨(upd (upd (upd v 82 (.bool true)) 85 (.bool true)) 86 (.bool true)), rfl, ⟨hI.t0, hI.t1, hI.t2, fun _ => rfl, hI.t4, hI.t5, fun _ => rfl, fun _ => rfl, hI.t8, hI.t9, hI.t10, hI.t11, hI.t12, hI.t13, hI.t14, hI.t15, hI.t16, hI.t17, hI.t18, hI.t19, hI.t20, hI.t21, hI.t22, hI.t23, hI.t24, hI.t25, hI.t26, hI.t27, hI.t28, hI.t29, hI.t30, hI.t31, hI.t32, hI.t33, hI.t34, hI.t35, hI.t36, hI.t37, hI.t38, hI.t39, hI.t40, hI.t41, hI.t42, hI.t43, hI.t44, hI.t45, hI.t46, hI.t47, hI.t48, hI.t49, hI.t50, hI.t51, hI.t52, hI.t53, hI.t54, hI.t55, hI.t56, hI.t57, hI.t58, hI.t59, hI.t60, hI.t61, hI.t62, hI.t63, hI.t64, hI.t65, hI.t66, hI.t67, hI.t68, hI.t69, hI.t70, hI.t71, hI.t72, hI.t73, hI.bw⟩⟩
  · rintro L a wx ⟨v, rfl, hI⟩ hL hdep hcl K hK
    have e7 := hI.t7 (hdep 7 (by decide))
    rw [e7]
    go_simp
    exact hK _ _ ⟨(upd (upd v 86 (.bool true)) 87 (.bool true)), rfl, ⟨hI.t0, hI.t1, hI.t2, hI.t3, hI.t4, hI.t5, hI.t6, fun _ => rfl, fun _ => rfl, hI.t9, hI.t10, hI.t11, hI.t12, hI.t13, hI.t14, hI.t15, hI.t16, hI.t17, hI.t18, hI.t19, hI.t20, hI.t21, hI.t22, hI.t23, hI.t24, hI.t25, hI.t26, hI.t27, hI.t28, hI.t29, hI.t30, hI.t31, hI.t32, hI.t33, hI.t34, hI.t35, hI.t36, hI.t37, hI.t38, hI.t39, hI.t40, hI.t41, hI.t42, hI.t43, hI.t44, hI.t45, hI.t46, hI.t47, hI.t48, hI.t49, hI.t50, hI.t51, hI.t52, hI.t53, hI.t54, hI.t55, hI.t56, hI.t57, hI.t58, hI.t59, hI.t60, hI.t61, hI.t62, hI.t63, hI.t64, hI.t65, hI.t66, hI.t67, hI.t68, hI.t69, hI.t70, hI.t71, hI.t72, hI.t73, hI.bw⟩⟩
  · rintro L a wx ⟨v, rfl, hI⟩ hL hdep hcl K hK
    have e8 := hI.t8 (hdep 8 (by decide))
    rw [e8]
    refine (if_pos rfl).mpr ?_
    go_simp
    exact hK _ _ ⟨(upd (upd v 87 (.bool true)) 88 (.int .i64 E2)), rfl, ⟨hI.t0, hI.t1, hI.t2, hI.t3, hI.t4, hI.t5, hI.t6, hI.t7, fun _ => rfl, fun _ => rfl, hI.t10, hI.t11, hI.t12, hI.t13, hI.t14, hI.t15, hI.t16, hI.t17, hI.t18, hI.t19, hI.t20, hI.t21, hI.t22, hI.t23, hI.t24, hI.t25, hI.t26, hI.t27, hI.t28, hI.t29, hI.t30, hI.t31, hI.t32, hI.t33, hI.t34, hI.t35, hI.t36, hI.t37, hI.t38, hI.t39, hI.t40, hI.t41, hI.t42, hI.t43, hI.t44, hI.t45, hI.t46, hI.t47, hI.t48, hI.t49, hI.t50, hI.t51, hI.t52, hI.t53, hI.t54, hI.t55, hI.t56, hI.t57, hI.t58, hI.t59, hI.t60, hI.t61, hI.t62, hI.t63, hI.t64, hI.t65, hI.t66, hI.t67, hI.t68, hI.t69, hI.t70, hI.t71, hI.t72, hI.t73, hI.bw⟩⟩
  · rintro L a wx ⟨v, rfl, hI⟩ hL hdep hcl K hK
    have e8 := hI.t8 (hdep 8 (by decide))
    rw [e8]
    refine (if_pos rfl).mpr ?_
    go_simp
    exact hK _ _ ⟨(upd (upd v 87 (.bool true)) 89 (.int .i64 E2)), rfl, ⟨hI.t0, hI.t1, hI.t2, hI.t3, hI.t4, hI.t5, hI.t6, hI.t7, fun _ => rfl, hI.t9, fun _ => rfl, hI.t11, hI.t12, hI.t13, hI.t14, hI.t15, hI.t16, hI.t17, hI.t18, hI.t19, hI.t20, hI.t21, hI.t22, hI.t23, hI.t24, hI.t25, hI.t26, hI.t27, hI.t28, hI.t29, hI.t30, hI.t31, hI.t32, hI.t33, hI.t34, hI.t35, hI.t36, hI.t37, hI.t38, hI.t39, hI.t40, hI.t41, hI.t42, hI.t43, hI.t44, hI.t45, hI.t46, hI.t47, hI.t48, hI.t49, hI.t50, hI.t51, hI.t52, hI.t53, hI.t54, hI.t55, hI.t56, hI.t57, hI.t58, hI.t59, hI.t60, hI.t61, hI.t62, hI.t63, hI.t64, hI.t65, hI.t66, hI.t67, hI.t68, hI.t69, hI.t70, hI.t71, hI.t72, hI.t73, hI.bw⟩⟩
  · rintro L a wx ⟨v, rfl, hI⟩ hL hdep hcl K hK
    have e8 := hI.t8 (hdep 8 (by decide))
    have e9 := hI.t9 (hdep 9 (by decide))
    have e10 := hI.t10 (hdep 10 (by decide))
    rw [e8, e9, e10]
    refine (if_pos rfl).mpr ?_
    go_simp
    exact hK _ _ ⟨(upd (upd (upd (upd v 87 (.bool true)) 88 (.int .i64 E2)) 89 (.int .i64 E2)) 90 (.bool true)), rfl, ⟨hI.t0, hI.t1, hI.t2, hI.t3, hI.t4, hI.t5, hI.t6, hI.t7, fun _ => rfl, fun _ => rfl, fun _ => rfl, fun _ => rfl, hI.t12, hI.t13, hI.t14, hI.t15, hI.t16, hI.t17, hI.t18, hI.t19, hI.t20, hI.t21, hI.t22, hI.t23, hI.t24, hI.t25, hI.t26, hI.t27, hI.t28, hI.t29, hI.t30, hI.t31, hI.t32, hI.t33, hI.t34, hI.t35, hI.t36, hI.t37, hI.t38, hI.t39, hI.t40, hI.t41, hI.t42, hI.t43, hI.t44, hI.t45, hI.t46, hI.t47, hI.t48, hI.t49, hI.t50, hI.t51, hI.t52, hI.t53, hI.t54, hI.t55, hI.t56, hI.t57, hI.t58, hI.t59, hI.t60, hI.t61, hI.t62, hI.t63, hI.t64, hI.t65, hI.t66, hI.t67, hI.t68, hI.t69, hI.t70, hI.t71, hI.t72, hI.t73, hI.bw⟩⟩
  · rintro L a wx ⟨v, rfl, hI⟩ hL hdep hcl K hK
    have e8 := hI.t8 (hdep 8 (by decide))
    have e11 := hI.t11 (hdep 11 (by decide))
    rw [e8, e11]
    go_simp
    exact hK _ _ ⟨(upd (upd (upd v 87 (.bool true)) 90 (.bool true)) 91 (.bool true)), rfl, ⟨hI.t0, hI.t1, hI.t2, hI.t3, hI.t4, hI.t5, hI.t6, hI.t7, fun _ => rfl, hI.t9, hI.t10, fun _ => rfl, fun _ => rfl, hI.t13, hI.t14, hI.t15, hI.t16, hI.t17, hI.t18, hI.t19, hI.t20, hI.t21, hI.t22, hI.t23, hI.t24, hI.t25, hI.t26, hI.t27, hI.t28, hI.t29, hI.t30, hI.t31, hI.t32, hI.t33, hI.t34, hI.t35, hI.t36, hI.t37, hI.t38, hI.t39, hI.t40, hI.t41, hI.t42, hI.t43, hI.t44, hI.t45, hI.t46, hI.t47, hI.t48, hI.t49, hI.t50, hI.t51, hI.t52, hI.t53, hI.t54, hI.t55, hI.t56, hI.t57, hI.t58, hI.t59, hI.t60, hI.t61, hI.t62, hI.t63, hI.t64, hI.t65, hI.t66, hI.t67, hI.t68, hI.t69, hI.t70, hI.t71, hI.t72, hI.t73, hI.bw⟩⟩
  · rintro L a wx ⟨v, rfl, hI⟩ hL hdep hcl K hK
    have e12 := hI.t12 (hdep 12 (by decide))
    rw [e12]
    go_simp
    exact hK _ _ ⟨(upd (upd v 91 (.bool true)) 92 (.bool true)), rfl, ⟨hI.t0, hI.t1, hI.t2, hI.t3, hI.t4, hI.t5, hI.t6, hI.t7, hI.t8, hI.t9, hI.t10, hI.t11, fun _ => rfl, fun _ => rfl, hI.t14, hI.t15, hI.t16, hI.t17, hI.t18, hI.t19, hI.t20, hI.t21, hI.t22, hI.t23, hI.t24, hI.t25, hI.t26, hI.t27, hI.t28, hI.t29, hI.t30, hI.t31, hI.t32, hI.t33, hI.t34, hI.t35, hI.t36, hI.t37, hI.t38, hI.t39, hI.t40, hI.t41, hI.t42, hI.t43, hI.t44, hI.t45, hI.t46, hI.t47, hI.t48, hI.t49, hI.t50, hI.t51, hI.t52, hI.t53, hI.t54, hI.t55, hI.t56, hI.t57, hI.t58, hI.t59, hI.t60, hI.t61, hI.t62, hI.t63, hI.t64, hI.t65, hI.t66, hI.t67, hI.t68, hI.t69, hI.t70, hI.t71, hI.t72, hI.t73, hI.bw⟩⟩
  · rintro L a wx ⟨v, rfl, hI⟩ hL hdep hcl K hK
    have e13 := hI.t13 (hdep 13 (by decide))
    rw [e13]
    refine (if_pos rfl).mpr ?_
    go_simp
    exact hK _ _ ⟨(upd (upd v 92 (.bool true)) 93 (.slice a10 n10 c10)), rfl, ⟨hI.t0, hI.t1, hI.t2, hI.t3, hI.t4, hI.t5, hI.t6, hI.t7, hI.t8, hI.t9, hI.t10, hI.t11, hI.t12, fun _ => rfl, fun _ => rfl, hI.t15, hI.t16, hI.t17, hI.t18, hI.t19, hI.t20, hI.t21, hI.t22, hI.t23, hI.t24, hI.t25, hI.t26, hI.t27, hI.t28, hI.t29, hI.t30, hI.t31, hI.t32, hI.t33, hI.t34, hI.t35, hI.t36, hI.t37, hI.t38, hI.t39, hI.t40, hI.t41, hI.t42, hI.t43, hI.t44, hI.t45, hI.t46, hI.t47, hI.t48, hI.t49, hI.t50, hI.t51, hI.t52, hI.t53, hI.t54, hI.t55, hI.t56, hI.t57, hI.t58, hI.t59, hI.t60, hI.t61, hI.t62, hI.t63, hI.t64, hI.t65, hI.t66, hI.t67, hI.t68, hI.t69, hI.t70, hI.t71, hI.t72, hI.t73, hI.bw⟩⟩
  · rintro L a wx ⟨v, rfl, hI⟩ hL hdep hcl K hK
    have e13 := hI.t13 (hdep 13 (by decide))
    rw [e13]
    refine (if_pos rfl).mpr ?_
    go_simp
    exact hK _ _ ⟨(upd (upd v 92 (.bool true)) 94 (.slice a12 n12 c12)), rfl, ⟨hI.t0, hI.t1, hI.t2, hI.t3, hI.t4, hI.t5, hI.t6, hI.t7, hI.t8, hI.t9, hI.t10, hI.t11, hI.t12, fun _ => rfl, hI.t14, fun _ => rfl, hI.t16, hI.t17, hI.t18, hI.t19, hI.t20, hI.t21, hI.t22, hI.t23, hI.t24, hI.t25, hI.t26, hI.t27, hI.t28, hI.t29, hI.t30, hI.t31, hI.t32, hI.t33, hI.t34, hI.t35, hI.t36, hI.t37, hI.t38, hI.t39, hI.t40, hI.t41, hI.t42, hI.t43, hI.t44, hI.t45, hI.t46, hI.t47, hI.t48, hI.t49, hI.t50, hI.t51, hI.t52, hI.t53, hI.t54, hI.t55, hI.t56, hI.t57, hI.t58, hI.t59, hI.t60, hI.t61, hI.t62, hI.t63, hI.t64, hI.t65, hI.t66, hI.t67, hI.t68, hI.t69, hI.t70, hI.t71, hI.t72, hI.t73, hI.bw⟩⟩
  · rintro L a wx ⟨v, rfl, hI⟩ hL hdep hcl K hK
    have e13 := hI.t13 (hdep 13 (by decide))
    have e14 := hI.t14 (hdep 14 (by decide))
    have e15 := hI.t15 (hdep 15 (by decide))
    rw [e13, e14, e15]
    refine (if_pos rfl).mpr ?_
    go_simp
    refine (Equal_any _ _ _ _ _ _ _ _ wx (HR10.out.to hI.bw) (HR12.out.to hI.bw)).mono ?_
    rw [decide_eq_true rfl]
    rintro e w' ⟨rfl, rfl⟩
    exact hK _ _ ⟨(upd (upd (upd (upd v 92 (.bool true)) 93 (.slice a10 n10 c10)) 94 (.slice a12 n12 c12)) 95 (.bool true)), rfl, ⟨hI.t0, hI.t1, hI.t2, hI.t3, hI.t4, hI.t5, hI.t6, hI.t7, hI.t8, hI.t9, hI.t10, hI.t11, hI.t12, fun _ => rfl, fun _ => rfl, fun _ => rfl, fun _ => rfl, hI.t17, hI.t18, hI.t19, hI.t20, hI.t21, hI.t22, hI.t23, hI.t24, hI.t25, hI.t26, hI.t27, hI.t28, hI.t29, hI.t30, hI.t31, hI.t32, hI.t33, hI.t34, hI.t35, hI.t36, hI.t37, hI.t38, hI.t39, hI.t40, hI.t41, hI.t42, hI.t43, hI.t44, hI.t45, hI.t46, hI.t47, hI.t48, hI.t49, hI.t50, hI.t51, hI.t52, hI.t53, hI.t54, hI.t55, hI.t56, hI.t57, hI.t58, hI.t59, hI.t60, hI.t61, hI.t62, hI.t63, hI.t64, hI.t65, hI.t66, hI.t67, hI.t68, hI.t69, hI.t70, hI.t71, hI.t72, hI.t73, hI.bw⟩⟩
  · rintro L a wx ⟨v, rfl, hI⟩ hL hdep hcl K hK
    have e13 := hI.t13 (hdep 13 (by decide))
    have e16 := hI.t16 (hdep 16 (by decide))
    rw [e13, e16]
    go_simp
    exact hK _ _ ⟨(upd (upd (upd v 92 (.bool true)) 95 (.bool true)) 96 (.bool true)), rfl, ⟨hI.t0, hI.t1, hI.t2, hI.t3, hI.t4, hI.t5, hI.t6, hI.t7, hI.t8, hI.t9, hI.t10, hI.t11, hI.t12, fun _ => rfl, hI.t14, hI.t15, fun _ => rfl, fun _ => rfl, hI.t18, hI.t19, hI.t20, hI.t21, hI.t22, hI.t23, hI.t24, hI.t25, hI.t26, hI.t27, hI.t28, hI.t29, hI.t30, hI.t31, hI.t32, hI.t33, hI.t34, hI.t35, hI.t36, hI.t37, hI.t38, hI.t39, hI.t40, hI.t41, hI.t42, hI.t43, hI.t44, hI.t45, hI.t46, hI.t47, hI.t48, hI.t49, hI.t50, hI.t51, hI.t52, hI.t53, hI.t54, hI.t55, hI.t56, hI.t57, hI.t58, hI.t59, hI.t60, hI.t61, hI.t62, hI.t63, hI.t64, hI.t65, hI.t66, hI.t67, hI.t68, hI.t69, hI.t70, hI.t71, hI.t72, hI.t73, hI.bw⟩⟩
  · rintro L a wx ⟨v, rfl, hI⟩ hL hdep hcl K hK
    have e17 := hI.t17 (hdep 17 (by decide))
    rw [e17]
    go_simp
    exact hK _ _ ⟨(upd (upd v 96 (.bool true)) 97 (.bool true)), rfl, ⟨hI.t0, hI.t1, hI.t2, hI.t3, hI.t4, hI.t5, hI.t6, hI.t7, hI.t8, hI.t9, hI.t10, hI.t11, hI.t12, hI.t13, hI.t14, hI.t15, hI.t16, fun _ => rfl, fun _ => rfl, hI.t19, hI.t20, hI.t21, hI.t22, hI.t23, hI.t24, hI.t25, hI.t26, hI.t27, hI.t28, hI.t29, hI.t30, hI.t31, hI.t32, hI.t33, hI.t34, hI.t35, hI.t36, hI.t37, hI.t38, hI.t39, hI.t40, hI.t41, hI.t42, hI.t43, hI.t44, hI.t45, hI.t46, hI.t47, hI.t48, hI.t49, hI.t50, hI.t51, hI.t52, hI.t53, hI.t54, hI.t55, hI.t56, hI.t57, hI.t58, hI.t59, hI.t60, hI.t61, hI.t62, hI.t63, hI.t64, hI.t65, hI.t66, hI.t67, hI.t68, hI.t69, hI.t70, hI.t71, hI.t72, hI.t73, hI.bw⟩⟩
  · rintro L a wx ⟨v, rfl, hI⟩ hL hdep hcl K hK
    have e18 := hI.t18 (hdep 18 (by decide))
    rw [e18]
    refine (if_pos rfl).mpr ?_
    go_simp
    exact hK _ _ ⟨(upd (upd v 97 (.bool true)) 98 (.int .i64 E3)), rfl, ⟨hI.t0, hI.t1, hI.t2, hI.t3, hI.t4, hI.t5, hI.t6, hI.t7, hI.t8, hI.t9, hI.t10, hI.t11, hI.t12, hI.t13, hI.t14, hI.t15, hI.t16, hI.t17, fun _ => rfl, fun _ => rfl, hI.t20, hI.t21, hI.t22, hI.t23, hI.t24, hI.t25, hI.t26, hI.t27, hI.t28, hI.t29, hI.t30, hI.t31, hI.t32, hI.t33, hI.t34, hI.t35, hI.t36, hI.t37, hI.t38, hI.t39, hI.t40, hI.t41, hI.t42, hI.t43, hI.t44, hI.t45, hI.t46, hI.t47, hI.t48, hI.t49, hI.t50, hI.t51, hI.t52, hI.t53, hI.t54, hI.t55, hI.t56, hI.t57, hI.t58, hI.t59, hI.t60, hI.t61, hI.t62, hI.t63, hI.t64, hI.t65, hI.t66, hI.t67, hI.t68, hI.t69, hI.t70, hI.t71, hI.t72, hI.t73, hI.bw⟩⟩
  · rintro L a wx ⟨v, rfl, hI⟩ hL hdep hcl K hK
    have e18 := hI.t18 (hdep 18 (by decide))
    rw [e18]
    refine (if_pos rfl).mpr ?_
    go_simp
    exact hK _ _ ⟨(upd (upd v 97 (.bool true)) 99 (.int .i64 E3)), rfl, ⟨hI.t0, hI.t1, hI.t2, hI.t3, hI.t4, hI.t5, hI.t6, hI.t7, hI.t8, hI.t9, hI.t10, hI.t11, hI.t12, hI.t13, hI.t14, hI.t15, hI.t16, hI.t17, fun _ => rfl, hI.t19, fun _ => rfl, hI.t21, hI.t22, hI.t23, hI.t24, hI.t25, hI.t26, hI.t27, hI.t28, hI.t29, hI.t30, hI.t31, hI.t32, hI.t33, hI.t34, hI.t35, hI.t36, hI.t37, hI.t38, hI.t39, hI.t40, hI.t41, hI.t42, hI.t43, hI.t44, hI.t45, hI.t46, hI.t47, hI.t48, hI.t49, hI.t50, hI.t51, hI.t52, hI.t53, hI.t54, hI.t55, hI.t56, hI.t57, hI.t58, hI.t59, hI.t60, hI.t61, hI.t62, hI.t63, hI.t64, hI.t65, hI.t66, hI.t67, hI.t68, hI.t69, hI.t70, hI.t71, hI.t72, hI.t73, hI.bw⟩⟩
  · rintro L a wx ⟨v, rfl, hI⟩ hL hdep hcl K hK
    have e18 := hI.t18 (hdep 18 (by decide))
    have e19 := hI.t19 (hdep 19 (by decide))
    have e20 := hI.t20 (hdep 20 (by decide))
    rw [e18, e19, e20]
    refine (if_pos rfl).mpr ?_
    go_simp
    exact hK _ _ ⟨(upd (upd (upd (upd v 97 (.bool true)) 98 (.int .i64 E3)) 99 (.int .i64 E3)) 100 (.bool true)), rfl, ⟨hI.t0, hI.t1, hI.t2, hI.t3, hI.t4, hI.t5, hI.t6, hI.t7, hI.t8, hI.t9, hI.t10, hI.t11, hI.t12, hI.t13, hI.t14, hI.t15, hI.t16, hI.t17, fun _ => rfl, fun _ => rfl, fun _ => rfl, fun _ => rfl, hI.t22, hI.t23, hI.t24, hI.t25, hI.t26, hI.t27, hI.t28, hI.t29, hI.t30, hI.t31, hI.t32, hI.t33, hI.t34, hI.t35, hI.t36, hI.t37, hI.t38, hI.t39, hI.t40, hI.t41, hI.t42, hI.t43, hI.t44, hI.t45, hI.t46, hI.t47, hI.t48, hI.t49, hI.t50, hI.t51, hI.t52, hI.t53, hI.t54, hI.t55, hI.t56, hI.t57, hI.t58, hI.t59, hI.t60, hI.t61, hI.t62, hI.t63, hI.t64, hI.t65, hI.t66, hI.t67, hI.t68, hI.t69, hI.t70, hI.t71, hI.t72, hI.t73, hI.bw⟩⟩
  · rintro L a wx ⟨v, rfl, hI⟩ hL hdep hcl K hK
    have e18 := hI.t18 (hdep 18 (by decide))
    have e21 := hI.t21 (hdep 21 (by decide))
    rw [e18, e21]
    go_simp
    exact hK _ _ ⟨(upd (upd (upd v 97 (.bool true)) 100 (.bool true)) 101 (.bool true)), rfl, ⟨hI.t0, hI.t1, hI.t2, hI.t3, hI.t4, hI.t5, hI.t6, hI.t7, hI.t8, hI.t9, hI.t10, hI.t11, hI.t12, hI.t13, hI.t14, hI.t15, hI.t16, hI.t17, fun _ => rfl, hI.t19, hI.t20, fun _ => rfl, fun _ => rfl, hI.t23, hI.t24, hI.t25, hI.t26, hI.t27, hI.t28, hI.t29, hI.t30, hI.t31, hI.t32, hI.t33, hI.t34, hI.t35, hI.t36, hI.t37, hI.t38, hI.t39, hI.t40, hI.t41, hI.t42, hI.t43, hI.t44, hI.t45, hI.t46, hI.t47, hI.t48, hI.t49, hI.t50, hI.t51, hI.t52, hI.t53, hI.t54, hI.t55, hI.t56, hI.t57, hI.t58, hI.t59, hI.t60, hI.t61, hI.t62, hI.t63, hI.t64, hI.t65, hI.t66, hI.t67, hI.t68, hI.t69, hI.t70, hI.t71, hI.t72, hI.t73, hI.bw⟩⟩
  · rintro L a wx ⟨v, rfl, hI⟩ hL hdep hcl K hK
    have e22 := hI.t22 (hdep 22 (by decide))
    rw [e22]
    go_simp
    exact hK _ _ ⟨(upd (upd v 101 (.bool true)) 102 (.bool true)), rfl, ⟨hI.t0, hI.t1, hI.t2, hI.t3, hI.t4, hI.t5, hI.t6, hI.t7, hI.t8, hI.t9, hI.t10, hI.t11, hI.t12, hI.t13, hI.t14, hI.t15, hI.t16, hI.t17, hI.t18, hI.t19, hI.t20, hI.t21, fun _ => rfl, fun _ => rfl, hI.t24, hI.t25, hI.t26, hI.t27, hI.t28, hI.t29, hI.t30, hI.t31, hI.t32, hI.t33, hI.t34, hI.t35, hI.t36, hI.t37, hI.t38, hI.t39, hI.t40, hI.t41, hI.t42, hI.t43, hI.t44, hI.t45, hI.t46, hI.t47, hI.t48, hI.t49, hI.t50, hI.t51, hI.t52, hI.t53, hI.t54, hI.t55, hI.t56, hI.t57, hI.t58, hI.t59, hI.t60, hI.t61, hI.t62, hI.t63, hI.t64, hI.t65, hI.t66, hI.t67, hI.t68, hI.t69, hI.t70, hI.t71, hI.t72, hI.t73, hI.bw⟩⟩
  · rintro L a wx ⟨v, rfl, hI⟩ hL hdep hcl K hK
    have e23 := hI.t23 (hdep 23 (by decide))
    rw [e23]
    refine (if_pos rfl).mpr ?_
    go_simp
    exact hK _ _ ⟨(upd (upd v 102 (.bool true)) 103 (.slice a14 n14 c14)), rfl, ⟨hI.t0, hI.t1, hI.t2, hI.t3, hI.t4, hI.t5, hI.t6, hI.t7, hI.t8, hI.t9, hI.t10, hI.t11, hI.t12, hI.t13, hI.t14, hI.t15, hI.t16, hI.t17, hI.t18, hI.t19, hI.t20, hI.t21, hI.t22, fun _ => rfl, fun _ => rfl, hI.t25, hI.t26, hI.t27, hI.t28, hI.t29, hI.t30, hI.t31, hI.t32, hI.t33, hI.t34, hI.t35, hI.t36, hI.t37, hI.t38, hI.t39, hI.t40, hI.t41, hI.t42, hI.t43, hI.t44, hI.t45, hI.t46, hI.t47, hI.t48, hI.t49, hI.t50, hI.t51, hI.t52, hI.t53, hI.t54, hI.t55, hI.t56, hI.t57, hI.t58, hI.t59, hI.t60, hI.t61, hI.t62, hI.t63, hI.t64, hI.t65, hI.t66, hI.t67, hI.t68, hI.t69, hI.t70, hI.t71, hI.t72, hI.t73, hI.bw⟩⟩
  · rintro L a wx ⟨v, rfl, hI⟩ hL hdep hcl K hK
    have e23 := hI.t23 (hdep 23 (by decide))
    rw [e23]
    refine (if_pos rfl).mpr ?_
    go_simp
    exact hK _ _ ⟨(upd (upd v 102 (.bool true)) 104 (.slice a16 n16 c16)), rfl, ⟨hI.t0, hI.t1, hI.t2, hI.t3, hI.t4, hI.t5, hI.t6, hI.t7, hI.t8, hI.t9, hI.t10, hI.t11, hI.t12, hI.t13, hI.t14, hI.t15, hI.t16, hI.t17, hI.t18, hI.t19, hI.t20, hI.t21, hI.t22, fun _ => rfl, hI.t24, fun _ => rfl, hI.t26, hI.t27, hI.t28, hI.t29, hI.t30, hI.t31, hI.t32, hI.t33, hI.t34, hI.t35, hI.t36, hI.t37, hI.t38, hI.t39, hI.t40, hI.t41, hI.t42, hI.t43, hI.t44, hI.t45, hI.t46, hI.t47, hI.t48, hI.t49, hI.t50, hI.t51, hI.t52, hI.t53, hI.t54, hI.t55, hI.t56, hI.t57, hI.t58, hI.t59, hI.t60, hI.t61, hI.t62, hI.t63, hI.t64, hI.t65, hI.t66, hI.t67, hI.t68, hI.t69, hI.t70, hI.t71, hI.t72, hI.t73, hI.bw⟩⟩
  · rintro L a wx ⟨v, rfl, hI⟩ hL hdep hcl K hK
    have e23 := hI.t23 (hdep 23 (by decide))
    have e24 := hI.t24 (hdep 24 (by decide))
    have e25 := hI.t25 (hdep 25 (by decide))
    rw [e23, e24, e25]
    refine (if_pos rfl).mpr ?_
    go_simp
    refine (Equal_any _ _ _ _ _ _ _ _ wx (HR14.out.to hI.bw) (HR16.out.to hI.bw)).mono ?_
    rw [decide_eq_true rfl]
    rintro e w' ⟨rfl, rfl⟩
    exact hK _ _ ⟨(upd (upd (upd (upd v 102 (.bool true)) 103 (.slice a14 n14 c14)) 104 (.slice a16 n16 c16)) 105 (.bool true)), rfl, ⟨hI.t0, hI.t1, hI.t2, hI.t3, hI.t4, hI.t5, hI.t6, hI.t7, hI.t8, hI.t9, hI.t10, hI.t11, hI.t12, hI.t13, hI.t14, hI.t15, hI.t16, hI.t17, hI.t18, hI.t19, hI.t20, hI.t21, hI.t22, fun _ => rfl, fun _ => rfl, fun _ => rfl, fun _ => rfl, hI.t27, hI.t28, hI.t29, hI.t30, hI.t31, hI.t32, hI.t33, hI.t34, hI.t35, hI.t36, hI.t37, hI.t38, hI.t39, hI.t40, hI.t41, hI.t42, hI.t43, hI.t44, hI.t45, hI.t46, hI.t47, hI.t48, hI.t49, hI.t50, hI.t51, hI.t52, hI.t53, hI.t54, hI.t55, hI.t56, hI.t57, hI.t58, hI.t59, hI.t60, hI.t61, hI.t62, hI.t63, hI.t64, hI.t65, hI.t66, hI.t67, hI.t68, hI.t69, hI.t70, hI.t71, hI.t72, hI.t73, hI.bw⟩⟩
  · rintro L a wx ⟨v, rfl, hI⟩ hL hdep hcl K hK
    have e23 := hI.t23 (hdep 23 (by decide))
    have e26 := hI.t26 (hdep 26 (by decide))
    rw [e23, e26]
    go_simp
    exact hK _ _ ⟨(upd (upd (upd v 102 (.bool true)) 105 (.bool true)) 106 (.bool true)), rfl, ⟨hI.t0, hI.t1, hI.t2, hI.t3, hI.t4, hI.t5, hI.t6, hI.t7, hI.t8, hI.t9, hI.t10, hI.t11, hI.t12, hI.t13, hI.t14, hI.t15, hI.t16, hI.t17, hI.t18, hI.t19, hI.t20, hI.t21, hI.t22, fun _ => rfl, hI.t24, hI.t25, fun _ => rfl, fun _ => rfl, hI.t28, hI.t29, hI.t30, hI.t31, hI.t32, hI.t33, hI.t34, hI.t35, hI.t36, hI.t37, hI.t38, hI.t39, hI.t40, hI.t41, hI.t42, hI.t43, hI.t44, hI.t45, hI.t46, hI.t47, hI.t48, hI.t49, hI.t50, hI.t51, hI.t52, hI.t53, hI.t54, hI.t55, hI.t56, hI.t57, hI.t58, hI.t59, hI.t60, hI.t61, hI.t62, hI.t63, hI.t64, hI.t65, hI.t66, hI.t67, hI.t68, hI.t69, hI.t70, hI.t71, hI.t72, hI.t73, hI.bw⟩⟩
  · rintro L a wx ⟨v, rfl, hI⟩ hL hdep hcl K hK
    have e27 := hI.t27 (hdep 27 (by decide))
    rw [e27]
    go_simp
    exact hK _ _ ⟨(upd (upd v 106 (.bool true)) 107 (.bool true)), rfl, ⟨hI.t0, hI.t1, hI.t2, hI.t3, hI.t4, hI.t5, hI.t6, hI.t7, hI.t8, hI.t9, hI.t10, hI.t11, hI.t12, hI.t13, hI.t14, hI.t15, hI.t16, hI.t17, hI.t18, hI.t19, hI.t20, hI.t21, hI.t22, hI.t23, hI.t24, hI.t25, hI.t26, fun _ => rfl, fun _ => rfl, hI.t29, hI.t30, hI.t31, hI.t32, hI.t33, hI.t34, hI.t35, hI.t36, hI.t37, hI.t38, hI.t39, hI.t40, hI.t41, hI.t42, hI.t43, hI.t44, hI.t45, hI.t46, hI.t47, hI.t48, hI.t49, hI.t50, hI.t51, hI.t52, hI.t53, hI.t54, hI.t55, hI.t56, hI.t57, hI.t58, hI.t59, hI.t60, hI.t61, hI.t62, hI.t63, hI.t64, hI.t65, hI.t66, hI.t67, hI.t68, hI.t69, hI.t70, hI.t71, hI.t72, hI.t73, hI.bw⟩⟩
  · rintro L a wx ⟨v, rfl, hI⟩ hL hdep hcl K hK
    have e28 := hI.t28 (hdep 28 (by decide))
    rw [e28]
    refine (if_pos rfl).mpr ?_
    go_simp
    exact hK _ _ ⟨(upd (upd v 107 (.bool true)) 108 (.int .i64 E1)), rfl, ⟨hI.t0, hI.t1, hI.t2, hI.t3, hI.t4, hI.t5, hI.t6, hI.t7, hI.t8, hI.t9, hI.t10, hI.t11, hI.t12, hI.t13, hI.t14, hI.t15, hI.t16, hI.t17, hI.t18, hI.t19, hI.t20, hI.t21, hI.t22, hI.t23, hI.t24, hI.t25, hI.t26, hI.t27, fun _ => rfl, fun _ => rfl, hI.t30, hI.t31, hI.t32, hI.t33, hI.t34, hI.t35, hI.t36, hI.t37, hI.t38, hI.t39, hI.t40, hI.t41, hI.t42, hI.t43, hI.t44, hI.t45, hI.t46, hI.t47, hI.t48, hI.t49, hI.t50, hI.t51, hI.t52, hI.t53, hI.t54, hI.t55, hI.t56, hI.t57, hI.t58, hI.t59, hI.t60, hI.t61, hI.t62, hI.t63, hI.t64, hI.t65, hI.t66, hI.t67, hI.t68, hI.t69, hI.t70, hI.t71, hI.t72, hI.t73, hI.bw⟩⟩
  · rintro L a wx ⟨v, rfl, hI⟩ hL hdep hcl K hK
    have e28 := hI.t28 (hdep 28 (by decide))
    rw [e28]
    refine (if_pos rfl).mpr ?_
    go_simp
    exact hK _ _ ⟨(upd (upd v 107 (.bool true)) 109 (.int .i64 E1)), rfl, ⟨hI.t0, hI.t1, hI.t2, hI.t3, hI.t4, hI.t5, hI.t6, hI.t7, hI.t8, hI.t9, hI.t10, hI.t11, hI.t12, hI.t13, hI.t14, hI.t15, hI.t16, hI.t17, hI.t18, hI.t19, hI.t20, hI.t21, hI.t22, hI.t23, hI.t24, hI.t25, hI.t26, hI.t27, fun _ => rfl, hI.t29, fun _ => rfl, hI.t31, hI.t32, hI.t33, hI.t34, hI.t35, hI.t36, hI.t37, hI.t38, hI.t39, hI.t40, hI.t41, hI.t42, hI.t43, hI.t44, hI.t45, hI.t46, hI.t47, hI.t48, hI.t49, hI.t50, hI.t51, hI.t52, hI.t53, hI.t54, hI.t55, hI.t56, hI.t57, hI.t58, hI.t59, hI.t60, hI.t61, hI.t62, hI.t63, hI.t64, hI.t65, hI.t66, hI.t67, hI.t68, hI.t69, hI.t70, hI.t71, hI.t72, hI.t73, hI.bw⟩⟩
  · rintro L a wx ⟨v, rfl, hI⟩ hL hdep hcl K hK
    have e28 := hI.t28 (hdep 28 (by decide))
    have e29 := hI.t29 (hdep 29 (by decide))
    have e30 := hI.t30 (hdep 30 (by decide))
    rw [e28, e29, e30]
    refine (if_pos rfl).mpr ?_
    go_simp
    exact hK _ _ ⟨(upd (upd (upd (upd v 107 (.bool true)) 108 (.int .i64 E1)) 109 (.int .i64 E1)) 110 (.bool true)), rfl, ⟨hI.t0, hI.t1, hI.t2, hI.t3, hI.t4, hI.t5, hI.t6, hI.t7, hI.t8, hI.t9, hI.t10, hI.t11, hI.t12, hI.t13, hI.t14, hI.t15, hI.t16, hI.t17, hI.t18, hI.t19, hI.t20, hI.t21, hI.t22, hI.t23, hI.t24, hI.t25, hI.t26, hI.t27, fun _ => rfl, fun _ => rfl, fun _ => rfl, fun _ => rfl, hI.t32, hI.t33, hI.t34, hI.t35, hI.t36, hI.t37, hI.t38, hI.t39, hI.t40, hI.t41, hI.t42, hI.t43, hI.t44, hI.t45, hI.t46, hI.t47, hI.t48, hI.t49, hI.t50, hI.t51, hI.t52, hI.t53, hI.t54, hI.t55, hI.t56, hI.t57, hI.t58, hI.t59, hI.t60, hI.t61, hI.t62, hI.t63, hI.t64, hI.t65, hI.t66, hI.t67, hI.t68, hI.t69, hI.t70, hI.t71, hI.t72, hI.t73, hI.bw⟩⟩
  · rintro L a wx ⟨v, rfl, hI⟩ hL hdep hcl K hK
    have e28 := hI.t28 (hdep 28 (by decide))
    have e31 := hI.t31 (hdep 31 (by decide))
    rw [e28, e31]
    go_simp
    exact hK _ _ ⟨(upd (upd (upd v 107 (.bool true)) 110 (.bool true)) 111 (.bool true)), rfl, ⟨hI.t0, hI.t1, hI.t2, hI.t3, hI.t4, hI.t5, hI.t6, hI.t7, hI.t8, hI.t9, hI.t10, hI.t11, hI.t12, hI.t13, hI.t14, hI.t15, hI.t16, hI.t17, hI.t18, hI.t19, hI.t20, hI.t21, hI.t22, hI.t23, hI.t24, hI.t25, hI.t26, hI.t27, fun _ => rfl, hI.t29, hI.t30, fun _ => rfl, fun _ => rfl, hI.t33, hI.t34, hI.t35, hI.t36, hI.t37, hI.t38, hI.t39, hI.t40, hI.t41, hI.t42, hI.t43, hI.t44, hI.t45, hI.t46, hI.t47, hI.t48, hI.t49, hI.t50, hI.t51, hI.t52, hI.t53, hI.t54, hI.t55, hI.t56, hI.t57, hI.t58, hI.t59, hI.t60, hI.t61, hI.t62, hI.t63, hI.t64, hI.t65, hI.t66, hI.t67, hI.t68, hI.t69, hI.t70, hI.t71, hI.t72, hI.t73, hI.bw⟩⟩
  · rintro L a wx ⟨v, rfl, hI⟩ hL hdep hcl K hK
    have e32 := hI.t32 (hdep 32 (by decide))
    rw [e32]
    go_simp
    exact hK _ _ ⟨(upd (upd v 111 (.bool true)) 112 (.bool true)), rfl, ⟨hI.t0, hI.t1, hI.t2, hI.t3, hI.t4, hI.t5, hI.t6, hI.t7, hI.t8, hI.t9, hI.t10, hI.t11, hI.t12, hI.t13, hI.t14, hI.t15, hI.t16, hI.t17, hI.t18, hI.t19, hI.t20, hI.t21, hI.t22, hI.t23, hI.t24, hI.t25, hI.t26, hI.t27, hI.t28, hI.t29, hI.t30, hI.t31, fun _ => rfl, fun _ => rfl, hI.t34, hI.t35, hI.t36, hI.t37, hI.t38, hI.t39, hI.t40, hI.t41, hI.t42, hI.t43, hI.t44, hI.t45, hI.t46, hI.t47, hI.t48, hI.t49, hI.t50, hI.t51, hI.t52, hI.t53, hI.t54, hI.t55, hI.t56, hI.t57, hI.t58, hI.t59, hI.t60, hI.t61, hI.t62, hI.t63, hI.t64, hI.t65, hI.t66, hI.t67, hI.t68, hI.t69, hI.t70, hI.t71, hI.t72, hI.t73, hI.bw⟩⟩
  · rintro L a wx ⟨v, rfl, hI⟩ hL hdep hcl K hK
    have e33 := hI.t33 (hdep 33 (by decide))
    rw [e33]
    refine (if_pos rfl).mpr ?_
    go_simp
    exact hK _ _ ⟨(upd (upd v 112 (.bool true)) 113 (.slice a18 n18 c18)), rfl, ⟨hI.t0, hI.t1, hI.t2, hI.t3, hI.t4, hI.t5, hI.t6, hI.t7, hI.t8, hI.t9, hI.t10, hI.t11, hI.t12, hI.t13, hI.t14, hI.t15, hI.t16, hI.t17, hI.t18, hI.t19, hI.t20, hI.t21, hI.t22, hI.t23, hI.t24, hI.t25, hI.t26, hI.t27, hI.t28, hI.t29, hI.t30, hI.t31, hI.t32, fun _ => rfl, fun _ => rfl, hI.t35, hI.t36, hI.t37, hI.t38, hI.t39, hI.t40, hI.t41, hI.t42, hI.t43, hI.t44, hI.t45, hI.t46, hI.t47, hI.t48, hI.t49, hI.t50, hI.t51, hI.t52, hI.t53, hI.t54, hI.t55, hI.t56, hI.t57, hI.t58, hI.t59, hI.t60, hI.t61, hI.t62, hI.t63, hI.t64, hI.t65, hI.t66, hI.t67, hI.t68, hI.t69, hI.t70, hI.t71, hI.t72, hI.t73, hI.bw⟩⟩
  · rintro L a wx ⟨v, rfl, hI⟩ hL hdep hcl K hK
    have e33 := hI.t33 (hdep 33 (by decide))
    rw [e33]
    refine (if_pos rfl).mpr ?_
    go_simp
    exact hK _ _ ⟨(upd (upd v 112 (.bool true)) 114 (.slice a20 n20 c20)), rfl, ⟨hI.t0, hI.t1, hI.t2, hI.t3, hI.t4, hI.t5, hI.t6, hI.t7, hI.t8, hI.t9, hI.t10, hI.t11, hI.t12, hI.t13, hI.t14, hI.t15, hI.t16, hI.t17, hI.t18, hI.t19, hI.t20, hI.t21, hI.t22, hI.t23, hI.t24, hI.t25, hI.t26, hI.t27, hI.t28, hI.t29, hI.t30, hI.t31, hI.t32, fun _ => rfl, hI.t34, fun _ => rfl, hI.t36, hI.t37, hI.t38, hI.t39, hI.t40, hI.t41, hI.t42, hI.t43, hI.t44, hI.t45, hI.t46, hI.t47, hI.t48, hI.t49, hI.t50, hI.t51, hI.t52, hI.t53, hI.t54, hI.t55, hI.t56, hI.t57, hI.t58, hI.t59, hI.t60, hI.t61, hI.t62, hI.t63, hI.t64, hI.t65, hI.t66, hI.t67, hI.t68, hI.t69, hI.t70, hI.t71, hI.t72, hI.t73, hI.bw⟩⟩
  · rintro L a wx ⟨v, rfl, hI⟩ hL hdep hcl K hK
    have e33 := hI.t33 (hdep 33 (by decide))
    have e34 := hI.t34 (hdep 34 (by decide))
    have e35 := hI.t35 (hdep 35 (by decide))
    rw [e33, e34, e35]
    refine (if_pos rfl).mpr ?_
    go_simp
    refine (Equal_any _ _ _ _ _ _ _ _ wx (HR18.out.to hI.bw) (HR20.out.to hI.bw)).mono ?_
    rw [decide_eq_true rfl]
    rintro e w' ⟨rfl, rfl⟩
    exact hK _ _ ⟨(upd (upd (upd (upd v 112 (.bool true)) 113 (.slice a18 n18 c18)) 114 (.slice a20 n20 c20)) 115 (.bool true)), rfl, ⟨hI.t0, hI.t1, hI.t2, hI.t3, hI.t4, hI.t5, hI.t6, hI.t7, hI.t8, hI.t9, hI.t10, hI.t11, hI.t12, hI.t13, hI.t14, hI.t15, hI.t16, hI.t17, hI.t18, hI.t19, hI.t20, hI.t21, hI.t22, hI.t23, hI.t24, hI.t25, hI.t26, hI.t27, hI.t28, hI.t29, hI.t30, hI.t31, hI.t32, fun _ => rfl, fun _ => rfl, fun _ => rfl, fun _ => rfl, hI.t37, hI.t38, hI.t39, hI.t40, hI.t41, hI.t42, hI.t43, hI.t44, hI.t45, hI.t46, hI.t47, hI.t48, hI.t49, hI.t50, hI.t51, hI.t52, hI.t53, hI.t54, hI.t55, hI.t56, hI.t57, hI.t58, hI.t59, hI.t60, hI.t61, hI.t62, hI.t63, hI.t64, hI.t65, hI.t66, hI.t67, hI.t68, hI.t69, hI.t70, hI.t71, hI.t72, hI.t73, hI.bw⟩⟩
  · rintro L a wx ⟨v, rfl, hI⟩ hL hdep hcl K hK
    have e33 := hI.t33 (hdep 33 (by decide))
    have e36 := hI.t36 (hdep 36 (by decide))
    rw [e33, e36]
    go_simp
    exact hK _ _ ⟨(upd (upd (upd v 112 (.bool true)) 115 (.bool true)) 116 (.bool true)), rfl, ⟨hI.t0, hI.t1, hI.t2, hI.t3, hI.t4, hI.t5, hI.t6, hI.t7, hI.t8, hI.t9, hI.t10, hI.t11, hI.t12, hI.t13, hI.t14, hI.t15, hI.t16, hI.t17, hI.t18, hI.t19, hI.t20, hI.t21, hI.t22, hI.t23, hI.t24, hI.t25, hI.t26, hI.t27, hI.t28, hI.t29, hI.t30, hI.t31, hI.t32, fun _ => rfl, hI.t34, hI.t35, fun _ => rfl, fun _ => rfl, hI.t38, hI.t39, hI.t40, hI.t41, hI.t42, hI.t43, hI.t44, hI.t45, hI.t46, hI.t47, hI.t48, hI.t49, hI.t50, hI.t51, hI.t52, hI.t53, hI.t54, hI.t55, hI.t56, hI.t57, hI.t58, hI.t59, hI.t60, hI.t61, hI.t62, hI.t63, hI.t64, hI.t65, hI.t66, hI.t67, hI.t68, hI.t69, hI.t70, hI.t71, hI.t72, hI.t73, hI.bw⟩⟩
  · rintro L a wx ⟨v, rfl, hI⟩ hL hdep hcl K hK
    have e37 := hI.t37 (hdep 37 (by decide))
    rw [e37]
    go_simp
    exact hK _ _ ⟨(upd (upd v 116 (.bool true)) 117 (.bool true)), rfl, ⟨hI.t0, hI.t1, hI.t2, hI.t3, hI.t4, hI.t5, hI.t6, hI.t7, hI.t8, hI.t9, hI.t10, hI.t11, hI.t12, hI.t13, hI.t14, hI.t15, hI.t16, hI.t17, hI.t18, hI.t19, hI.t20, hI.t21, hI.t22, hI.t23, hI.t24, hI.t25, hI.t26, hI.t27, hI.t28, hI.t29, hI.t30, hI.t31, hI.t32, hI.t33, hI.t34, hI.t35, hI.t36, fun _ => rfl, fun _ => rfl, hI.t39, hI.t40, hI.t41, hI.t42, hI.t43, hI.t44, hI.t45, hI.t46, hI.t47, hI.t48, hI.t49, hI.t50, hI.t51, hI.t52, hI.t53, hI.t54, hI.t55, hI.t56, hI.t57, hI.t58, hI.t59, hI.t60, hI.t61, hI.t62, hI.t63, hI.t64, hI.t65, hI.t66, hI.t67, hI.t68, hI.t69, hI.t70, hI.t71, hI.t72, hI.t73, hI.bw⟩⟩
  · rintro L a wx ⟨v, rfl, hI⟩ hL hdep hcl K hK
    have e38 := hI.t38 (hdep 38 (by decide))
    rw [e38]
    refine (if_pos rfl).mpr ?_
    go_simp
    exact hK _ _ ⟨(upd (upd v 117 (.bool true)) 118 (.int .i64 E4)), rfl, ⟨hI.t0, hI.t1, hI.t2, hI.t3, hI.t4, hI.t5, hI.t6, hI.t7, hI.t8, hI.t9, hI.t10, hI.t11, hI.t12, hI.t13, hI.t14, hI.t15, hI.t16, hI.t17, hI.t18, hI.t19, hI.t20, hI.t21, hI.t22, hI.t23, hI.t24, hI.t25, hI.t26, hI.t27, hI.t28, hI.t29, hI.t30, hI.t31, hI.t32, hI.t33, hI.t34, hI.t35, hI.t36, hI.t37, fun _ => rfl, fun _ => rfl, hI.t40, hI.t41, hI.t42, hI.t43, hI.t44, hI.t45, hI.t46, hI.t47, hI.t48, hI.t49, hI.t50, hI.t51, hI.t52, hI.t53, hI.t54, hI.t55, hI.t56, hI.t57, hI.t58, hI.t59, hI.t60, hI.t61, hI.t62, hI.t63, hI.t64, hI.t65, hI.t66, hI.t67, hI.t68, hI.t69, hI.t70, hI.t71, hI.t72, hI.t73, hI.bw⟩⟩
  · rintro L a wx ⟨v, rfl, hI⟩ hL hdep hcl K hK
    have e38 := hI.t38 (hdep 38 (by decide))
    rw [e38]
    refine (if_pos rfl).mpr ?_
    go_simp
    exact hK _ _ ⟨(upd (upd v 117 (.bool true)) 119 (.int .i64 E4)), rfl, ⟨hI.t0, hI.t1, hI.t2, hI.t3, hI.t4, hI.t5, hI.t6, hI.t7, hI.t8, hI.t9, hI.t10, hI.t11, hI.t12, hI.t13, hI.t14, hI.t15, hI.t16, hI.t17, hI.t18, hI.t19, hI.t20, hI.t21, hI.t22, hI.t23, hI.t24, hI.t25, hI.t26, hI.t27, hI.t28, hI.t29, hI.t30, hI.t31, hI.t32, hI.t33, hI.t34, hI.t35, hI.t36, hI.t37, fun _ => rfl, hI.t39, fun _ => rfl, hI.t41, hI.t42, hI.t43, hI.t44, hI.t45, hI.t46, hI.t47, hI.t48, hI.t49, hI.t50, hI.t51, hI.t52, hI.t53, hI.t54, hI.t55, hI.t56, hI.t57, hI.t58, hI.t59, hI.t60, hI.t61, hI.t62, hI.t63, hI.t64, hI.t65, hI.t66, hI.t67, hI.t68, hI.t69, hI.t70, hI.t71, hI.t72, hI.t73, hI.bw⟩⟩
  · rintro L a wx ⟨v, rfl, hI⟩ hL hdep hcl K hK
    have e38 := hI.t38 (hdep 38 (by decide))
    have e39 := hI.t39 (hdep 39 (by decide))
    have e40 := hI.t40 (hdep 40 (by decide))
    rw [e38, e39, e40]
    refine (if_pos rfl).mpr ?_
    go_simp
    exact hK _ _ ⟨(upd (upd (upd (upd v 117 (.bool true)) 118 (.int .i64 E4)) 119 (.int .i64 E4)) 120 (.bool true)), rfl, ⟨hI.t0, hI.t1, hI.t2, hI.t3, hI.t4, hI.t5, hI.t6, hI.t7, hI.t8, hI.t9, hI.t10, hI.t11, hI.t12, hI.t13, hI.t14, hI.t15, hI.t16, hI.t17, hI.t18, hI.t19, hI.t20, hI.t21, hI.t22, hI.t23, hI.t24, hI.t25, hI.t26, hI.t27, hI.t28, hI.t29, hI.t30, hI.t31, hI.t32, hI.t33, hI.t34, hI.t35, hI.t36, hI.t37, fun _ => rfl, fun _ => rfl, fun _ => rfl, fun _ => rfl, hI.t42, hI.t43, hI.t44, hI.t45, hI.t46, hI.t47, hI.t48, hI.t49, hI.t50, hI.t51, hI.t52, hI.t53, hI.t54, hI.t55, hI.t56, hI.t57, hI.t58, hI.t59, hI.t60, hI.t61, hI.t62, hI.t63, hI.t64, hI.t65, hI.t66, hI.t67, hI.t68, hI.t69, hI.t70, hI.t71, hI.t72, hI.t73, hI.bw⟩⟩
  · rintro L a wx ⟨v, rfl, hI⟩ hL hdep hcl K hK
    have e38 := hI.t38 (hdep 38 (by decide))
    have e41 := hI.t41 (hdep 41 (by decide))
    rw [e38, e41]
    go_simp
    exact hK _ _ ⟨(upd (upd (upd v 117 (.bool true)) 120 (.bool true)) 121 (.bool true)), rfl, ⟨hI.t0, hI.t1, hI.t2, hI.t3, hI.t4, hI.t5, hI.t6, hI.t7, hI.t8, hI.t9, hI.t10, hI.t11, hI.t12, hI.t13, hI.t14, hI.t15, hI.t16, hI.t17, hI.t18, hI.t19, hI.t20, hI.t21, hI.t22, hI.t23, hI.t24, hI.t25, hI.t26, hI.t27, hI.t28, hI.t29, hI.t30, hI.t31, hI.t32, hI.t33, hI.t34, hI.t35, hI.t36, hI.t37, fun _ => rfl, hI.t39, hI.t40, fun _ => rfl, fun _ => rfl, hI.t43, hI.t44, hI.t45, hI.t46, hI.t47, hI.t48, hI.t49, hI.t50, hI.t51, hI.t52, hI.t53, hI.t54, hI.t55, hI.t56, hI.t57, hI.t58, hI.t59, hI.t60, hI.t61, hI.t62, hI.t63, hI.t64, hI.t65, hI.t66, hI.t67, hI.t68, hI.t69, hI.t70, hI.t71, hI.t72, hI.t73, hI.bw⟩⟩
  · rintro L a wx ⟨v, rfl, hI⟩ hL hdep hcl K hK
    have e42 := hI.t42 (hdep 42 (by decide))
    rw [e42]
    go_simp
    exact hK _ _ ⟨(upd (upd v 121 (.bool true)) 122 (.bool true)), rfl, ⟨hI.t0, hI.t1, hI.t2, hI.t3, hI.t4, hI.t5, hI.t6, hI.t7, hI.t8, hI.t9, hI.t10, hI.t11, hI.t12, hI.t13, hI.t14, hI.t15, hI.t16, hI.t17, hI.t18, hI.t19, hI.t20, hI.t21, hI.t22, hI.t23, hI.t24, hI.t25, hI.t26, hI.t27, hI.t28, hI.t29, hI.t30, hI.t31, hI.t32, hI.t33, hI.t34, hI.t35, hI.t36, hI.t37, hI.t38, hI.t39, hI.t40, hI.t41, fun _ => rfl, fun _ => rfl, hI.t44, hI.t45, hI.t46, hI.t47, hI.t48, hI.t49, hI.t50, hI.t51, hI.t52, hI.t53, hI.t54, hI.t55, hI.t56, hI.t57, hI.t58, hI.t59, hI.t60, hI.t61, hI.t62, hI.t63, hI.t64, hI.t65, hI.t66, hI.t67, hI.t68, hI.t69, hI.t70, hI.t71, hI.t72, hI.t73, hI.bw⟩⟩
  · rintro L a wx ⟨v, rfl, hI⟩ hL hdep hcl K hK
    have e43 := hI.t43 (hdep 43 (by decide))
    rw [e43]
    refine (if_pos rfl).mpr ?_
    go_simp
    exact hK _ _ ⟨(upd (upd v 122 (.bool true)) 123 (.pointer (some ⟨Y, 0, none⟩))), rfl, ⟨hI.t0, hI.t1, hI.t2, hI.t3, hI.t4, hI.t5, hI.t6, hI.t7, hI.t8, hI.t9, hI.t10, hI.t11, hI.t12, hI.t13, hI.t14, hI.t15, hI.t16, hI.t17, hI.t18, hI.t19, hI.t20, hI.t21, hI.t22, hI.t23, hI.t24, hI.t25, hI.t26, hI.t27, hI.t28, hI.t29, hI.t30, hI.t31, hI.t32, hI.t33, hI.t34, hI.t35, hI.t36, hI.t37, hI.t38, hI.t39, hI.t40, hI.t41, hI.t42, fun _ => rfl, fun _ => rfl, hI.t45, hI.t46, hI.t47, hI.t48, hI.t49, hI.t50, hI.t51, hI.t52, hI.t53, hI.t54, hI.t55, hI.t56, hI.t57, hI.t58, hI.t59, hI.t60, hI.t61, hI.t62, hI.t63, hI.t64, hI.t65, hI.t66, hI.t67, hI.t68, hI.t69, hI.t70, hI.t71, hI.t72, hI.t73, hI.bw⟩⟩
  · rintro L a wx ⟨v, rfl, hI⟩ hL hdep hcl K hK
    have e43 := hI.t43 (hdep 43 (by decide))
    have e44 := hI.t44 (hdep 44 (by decide))
    rw [e43, e44]
    refine (if_pos rfl).mpr ?_
    have hA := HY.out.kept hI.bw
    have cc := hA.cell 0
    simp only [List.getElem?_cons_zero] at cc
    go_simp
    exact hK _ _ ⟨(upd (upd (upd v 122 (.bool true)) 123 (.pointer (some ⟨Y, 0, none⟩))) 124 (.slice a220 n220 c220)), rfl, ⟨hI.t0, hI.t1, hI.t2, hI.t3, hI.t4, hI.t5, hI.t6, hI.t7, hI.t8, hI.t9, hI.t10, hI.t11, hI.t12, hI.t13, hI.t14, hI.t15, hI.t16, hI.t17, hI.t18, hI.t19, hI.t20, hI.t21, hI.t22, hI.t23, hI.t24, hI.t25, hI.t26, hI.t27, hI.t28, hI.t29, hI.t30, hI.t31, hI.t32, hI.t33, hI.t34, hI.t35, hI.t36, hI.t37, hI.t38, hI.t39, hI.t40, hI.t41, hI.t42, fun _ => rfl, fun _ => rfl, fun _ => rfl, hI.t46, hI.t47, hI.t48, hI.t49, hI.t50, hI.t51, hI.t52, hI.t53, hI.t54, hI.t55, hI.t56, hI.t57, hI.t58, hI.t59, hI.t60, hI.t61, hI.t62, hI.t63, hI.t64, hI.t65, hI.t66, hI.t67, hI.t68, hI.t69, hI.t70, hI.t71, hI.t72, hI.t73, hI.bw⟩⟩
  · rintro L a wx ⟨v, rfl, hI⟩ hL hdep hcl K hK
    have e43 := hI.t43 (hdep 43 (by decide))
    rw [e43]
    refine (if_pos rfl).mpr ?_
    go_simp
    exact hK _ _ ⟨(upd (upd v 122 (.bool true)) 125 (.pointer (some ⟨Z, 0, none⟩))), rfl, ⟨hI.t0, hI.t1, hI.t2, hI.t3, hI.t4, hI.t5, hI.t6, hI.t7, hI.t8, hI.t9, hI.t10, hI.t11, hI.t12, hI.t13, hI.t14, hI.t15, hI.t16, hI.t17, hI.t18, hI.t19, hI.t20, hI.t21, hI.t22, hI.t23, hI.t24, hI.t25, hI.t26, hI.t27, hI.t28, hI.t29, hI.t30, hI.t31, hI.t32, hI.t33, hI.t34, hI.t35, hI.t36, hI.t37, hI.t38, hI.t39, hI.t40, hI.t41, hI.t42, fun _ => rfl, hI.t44, hI.t45, fun _ => rfl, hI.t47, hI.t48, hI.t49, hI.t50, hI.t51, hI.t52, hI.t53, hI.t54, hI.t55, hI.t56, hI.t57, hI.t58, hI.t59, hI.t60, hI.t61, hI.t62, hI.t63, hI.t64, hI.t65, hI.t66, hI.t67, hI.t68, hI.t69, hI.t70, hI.t71, hI.t72, hI.t73, hI.bw⟩⟩
  · rintro L a wx ⟨v, rfl, hI⟩ hL hdep hcl K hK
    have e43 := hI.t43 (hdep 43 (by decide))
    have e46 := hI.t46 (hdep 46 (by decide))
    rw [e43, e46]
    refine (if_pos rfl).mpr ?_
    have hA := HZ.out.kept hI.bw
    have cc := hA.cell 0
    simp only [List.getElem?_cons_zero] at cc
    go_simp
    exact hK _ _ ⟨(upd (upd (upd v 122 (.bool true)) 125 (.pointer (some ⟨Z, 0, none⟩))) 126 (.slice a240 n240 c240)), rfl, ⟨hI.t0, hI.t1, hI.t2, hI.t3, hI.t4, hI.t5, hI.t6, hI.t7, hI.t8, hI.t9, hI.t10, hI.t11, hI.t12, hI.t13, hI.t14, hI.t15, hI.t16, hI.t17, hI.t18, hI.t19, hI.t20, hI.t21, hI.t22, hI.t23, hI.t24, hI.t25, hI.t26, hI.t27, hI.t28, hI.t29, hI.t30, hI.t31, hI.t32, hI.t33, hI.t34, hI.t35, hI.t36, hI.t37, hI.t38, hI.t39, hI.t40, hI.t41, hI.t42, fun _ => rfl, hI.t44, hI.t45, fun _ => rfl, fun _ => rfl, hI.t48, hI.t49, hI.t50, hI.t51, hI.t52, hI.t53, hI.t54, hI.t55, hI.t56, hI.t57, hI.t58, hI.t59, hI.t60, hI.t61, hI.t62, hI.t63, hI.t64, hI.t65, hI.t66, hI.t67, hI.t68, hI.t69, hI.t70, hI.t71, hI.t72, hI.t73, hI.bw⟩⟩
  · rintro L a wx ⟨v, rfl, hI⟩ hL hdep hcl K hK
    have e43 := hI.t43 (hdep 43 (by decide))
    have e45 := hI.t45 (hdep 45 (by decide))
    have e47 := hI.t47 (hdep 47 (by decide))
    rw [e43, e45, e47]
    refine (if_pos rfl).mpr ?_
    go_simp
    refine (Equal_any _ _ _ _ _ _ _ _ wx (HR220.out.to hI.bw) (HR240.out.to hI.bw)).mono ?_
    rw [decide_eq_true rfl]
    rintro e w' ⟨rfl, rfl⟩
    exact hK _ _ ⟨(upd (upd (upd (upd v 122 (.bool true)) 124 (.slice a220 n220 c220)) 126 (.slice a240 n240 c240)) 127 (.bool true)), rfl, ⟨hI.t0, hI.t1, hI.t2, hI.t3, hI.t4, hI.t5, hI.t6, hI.t7, hI.t8, hI.t9, hI.t10, hI.t11, hI.t12, hI.t13, hI.t14, hI.t15, hI.t16, hI.t17, hI.t18, hI.t19, hI.t20, hI.t21, hI.t22, hI.t23, hI.t24, hI.t25, hI.t26, hI.t27, hI.t28, hI.t29, hI.t30, hI.t31, hI.t32, hI.t33, hI.t34, hI.t35, hI.t36, hI.t37, hI.t38, hI.t39, hI.t40, hI.t41, hI.t42, fun _ => rfl, hI.t44, fun _ => rfl, hI.t46, fun _ => rfl, fun _ => rfl, hI.t49, hI.t50, hI.t51, hI.t52, hI.t53, hI.t54, hI.t55, hI.t56, hI.t57, hI.t58, hI.t59, hI.t60, hI.t61, hI.t62, hI.t63, hI.t64, hI.t65, hI.t66, hI.t67, hI.t68, hI.t69, hI.t70, hI.t71, hI.t72, hI.t73, hI.bw⟩⟩
  · rintro L a wx ⟨v, rfl, hI⟩ hL hdep hcl K hK
    have e43 := hI.t43 (hdep 43 (by decide))
    have e48 := hI.t48 (hdep 48 (by decide))
    rw [e43, e48]
    go_simp
    exact hK _ _ ⟨(upd (upd (upd v 122 (.bool true)) 127 (.bool true)) 128 (.bool true)), rfl, ⟨hI.t0, hI.t1, hI.t2, hI.t3, hI.t4, hI.t5, hI.t6, hI.t7, hI.t8, hI.t9, hI.t10, hI.t11, hI.t12, hI.t13, hI.t14, hI.t15, hI.t16, hI.t17, hI.t18, hI.t19, hI.t20, hI.t21, hI.t22, hI.t23, hI.t24, hI.t25, hI.t26, hI.t27, hI.t28, hI.t29, hI.t30, hI.t31, hI.t32, hI.t33, hI.t34, hI.t35, hI.t36, hI.t37, hI.t38, hI.t39, hI.t40, hI.t41, hI.t42, fun _ => rfl, hI.t44, hI.t45, hI.t46, hI.t47, fun _ => rfl, fun _ => rfl, hI.t50, hI.t51, hI.t52, hI.t53, hI.t54, hI.t55, hI.t56, hI.t57, hI.t58, hI.t59, hI.t60, hI.t61, hI.t62, hI.t63, hI.t64, hI.t65, hI.t66, hI.t67, hI.t68, hI.t69, hI.t70, hI.t71, hI.t72, hI.t73, hI.bw⟩⟩
  · rintro L a wx ⟨v, rfl, hI⟩ hL hdep hcl K hK
    have e49 := hI.t49 (hdep 49 (by decide))
    rw [e49]
    go_simp
    exact hK _ _ ⟨(upd (upd v 128 (.bool true)) 129 (.bool true)), rfl, ⟨hI.t0, hI.t1, hI.t2, hI.t3, hI.t4, hI.t5, hI.t6, hI.t7, hI.t8, hI.t9, hI.t10, hI.t11, hI.t12, hI.t13, hI.t14, hI.t15, hI.t16, hI.t17, hI.t18, hI.t19, hI.t20, hI.t21, hI.t22, hI.t23, hI.t24, hI.t25, hI.t26, hI.t27, hI.t28, hI.t29, hI.t30, hI.t31, hI.t32, hI.t33, hI.t34, hI.t35, hI.t36, hI.t37, hI.t38, hI.t39, hI.t40, hI.t41, hI.t42, hI.t43, hI.t44, hI.t45, hI.t46, hI.t47, hI.t48, fun _ => rfl, fun _ => rfl, hI.t51, hI.t52, hI.t53, hI.t54, hI.t55, hI.t56, hI.t57, hI.t58, hI.t59, hI.t60, hI.t61, hI.t62, hI.t63, hI.t64, hI.t65, hI.t66, hI.t67, hI.t68, hI.t69, hI.t70, hI.t71, hI.t72, hI.t73, hI.bw⟩⟩
  · rintro L a wx ⟨v, rfl, hI⟩ hL hdep hcl K hK
    have e50 := hI.t50 (hdep 50 (by decide))
    rw [e50]
    refine (if_pos rfl).mpr ?_
    go_simp
    exact hK _ _ ⟨(upd (upd v 129 (.bool true)) 130 (.pointer (some ⟨Y, 1, none⟩))), rfl, ⟨hI.t0, hI.t1, hI.t2, hI.t3, hI.t4, hI.t5, hI.t6, hI.t7, hI.t8, hI.t9, hI.t10, hI.t11, hI.t12, hI.t13, hI.t14, hI.t15, hI.t16, hI.t17, hI.t18, hI.t19, hI.t20, hI.t21, hI.t22, hI.t23, hI.t24, hI.t25, hI.t26, hI.t27, hI.t28, hI.t29, hI.t30, hI.t31, hI.t32, hI.t33, hI.t34, hI.t35, hI.t36, hI.t37, hI.t38, hI.t39, hI.t40, hI.t41, hI.t42, hI.t43, hI.t44, hI.t45, hI.t46, hI.t47, hI.t48, hI.t49, fun _ => rfl, fun _ => rfl, hI.t52, hI.t53, hI.t54, hI.t55, hI.t56, hI.t57, hI.t58, hI.t59, hI.t60, hI.t61, hI.t62, hI.t63, hI.t64, hI.t65, hI.t66, hI.t67, hI.t68, hI.t69, hI.t70, hI.t71, hI.t72, hI.t73, hI.bw⟩⟩
  · rintro L a wx ⟨v, rfl, hI⟩ hL hdep hcl K hK
    have e50 := hI.t50 (hdep 50 (by decide))
    have e51 := hI.t51 (hdep 51 (by decide))
    rw [e50, e51]
    refine (if_pos rfl).mpr ?_
    have hA := HY.out.kept hI.bw
    have cc := hA.cell 1
    simp only [List.getElem?_cons_succ, List.getElem?_cons_zero] at cc
    go_simp
    exact hK _ _ ⟨(upd (upd (upd v 129 (.bool true)) 130 (.pointer (some ⟨Y, 1, none⟩))) 131 (.slice a221 n221 c221)), rfl, ⟨hI.t0, hI.t1, hI.t2, hI.t3, hI.t4, hI.t5, hI.t6, hI.t7, hI.t8, hI.t9, hI.t10, hI.t11, hI.t12, hI.t13, hI.t14, hI.t15, hI.t16, hI.t17, hI.t18, hI.t19, hI.t20, hI.t21, hI.t22, hI.t23, hI.t24, hI.t25, hI.t26, hI.t27, hI.t28, hI.t29, hI.t30, hI.t31, hI.t32, hI.t33, hI.t34, hI.t35, hI.t36, hI.t37, hI.t38, hI.t39, hI.t40, hI.t41, hI.t42, hI.t43, hI.t44, hI.t45, hI.t46, hI.t47, hI.t48, hI.t49, fun _ => rfl, fun _ => rfl, fun _ => rfl, hI.t53, hI.t54, hI.t55, hI.t56, hI.t57, hI.t58, hI.t59, hI.t60, hI.t61, hI.t62, hI.t63, hI.t64, hI.t65, hI.t66, hI.t67, hI.t68, hI.t69, hI.t70, hI.t71, hI.t72, hI.t73, hI.bw⟩⟩
  · rintro L a wx ⟨v, rfl, hI⟩ hL hdep hcl K hK
    have e50 := hI.t50 (hdep 50 (by decide))
    rw [e50]
    refine (if_pos rfl).mpr ?_
    go_simp
    exact hK _ _ ⟨(upd (upd v 129 (.bool true)) 132 (.pointer (some ⟨Z, 1, none⟩))), rfl, ⟨hI.t0, hI.t1, hI.t2, hI.t3, hI.t4, hI.t5, hI.t6, hI.t7, hI.t8, hI.t9, hI.t10, hI.t11, hI.t12, hI.t13, hI.t14, hI.t15, hI.t16, hI.t17, hI.t18, hI.t19, hI.t20, hI.t21, hI.t22, hI.t23, hI.t24, hI.t25, hI.t26, hI.t27, hI.t28, hI.t29, hI.t30, hI.t31, hI.t32, hI.t33, hI.t34, hI.t35, hI.t36, hI.t37, hI.t38, hI.t39, hI.t40, hI.t41, hI.t42, hI.t43, hI.t44, hI.t45, hI.t46, hI.t47, hI.t48, hI.t49, fun _ => rfl, hI.t51, hI.t52, fun _ => rfl, hI.t54, hI.t55, hI.t56, hI.t57, hI.t58, hI.t59, hI.t60, hI.t61, hI.t62, hI.t63, hI.t64, hI.t65, hI.t66, hI.t67, hI.t68, hI.t69, hI.t70, hI.t71, hI.t72, hI.t73, hI.bw⟩⟩
  · rintro L a wx ⟨v, rfl, hI⟩ hL hdep hcl K hK
    have e50 := hI.t50 (hdep 50 (by decide))
    have e53 := hI.t53 (hdep 53 (by decide))
    rw [e50, e53]
    refine (if_pos rfl).mpr ?_
    have hA := HZ.out.kept hI.bw
    have cc := hA.cell 1
    simp only [List.getElem?_cons_succ, List.getElem?_cons_zero] at cc
    go_simp
    exact hK _ _ ⟨(upd (upd (upd v 129 (.bool true)) 132 (.pointer (some ⟨Z, 1, none⟩))) 133 (.slice a241 n241 c241)), rfl, ⟨hI.t0, hI.t1, hI.t2, hI.t3, hI.t4, hI.t5, hI.t6, hI.t7, hI.t8, hI.t9, hI.t10, hI.t11, hI.t12, hI.t13, hI.t14, hI.t15, hI.t16, hI.t17, hI.t18, hI.t19, hI.t20, hI.t21, hI.t22, hI.t23, hI.t24, hI.t25, hI.t26, hI.t27, hI.t28, hI.t29, hI.t30, hI.t31, hI.t32, hI.t33, hI.t34, hI.t35, hI.t36, hI.t37, hI.t38, hI.t39, hI.t40, hI.t41, hI.t42, hI.t43, hI.t44, hI.t45, hI.t46, hI.t47, hI.t48, hI.t49, fun _ => rfl, hI.t51, hI.t52, fun _ => rfl, fun _ => rfl, hI.t55, hI.t56, hI.t57, hI.t58, hI.t59, hI.t60, hI.t61, hI.t62, hI.t63, hI.t64, hI.t65, hI.t66, hI.t67, hI.t68, hI.t69, hI.t70, hI.t71, hI.t72, hI.t73, hI.bw⟩⟩
  · rintro L a wx ⟨v, rfl, hI⟩ hL hdep hcl K hK
    have e50 := hI.t50 (hdep 50 (by decide))
    have e52 := hI.t52 (hdep 52 (by decide))
    have e54 := hI.t54 (hdep 54 (by decide))
    rw [e50, e52, e54]
    refine (if_pos rfl).mpr ?_
    go_simp
    refine (Equal_any _ _ _ _ _ _ _ _ wx (HR221.out.to hI.bw) (HR241.out.to hI.bw)).mono ?_
    rw [decide_eq_true rfl]
    rintro e w' ⟨rfl, rfl⟩
    exact hK _ _ ⟨(upd (upd (upd (upd v 129 (.bool true)) 131 (.slice a221 n221 c221)) 133 (.slice a241 n241 c241)) 134 (.bool true)), rfl, ⟨hI.t0, hI.t1, hI.t2, hI.t3, hI.t4, hI.t5, hI.t6, hI.t7, hI.t8, hI.t9, hI.t10, hI.t11, hI.t12, hI.t13, hI.t14, hI.t15, hI.t16, hI.t17, hI.t18, hI.t19, hI.t20, hI.t21, hI.t22, hI.t23, hI.t24, hI.t25, hI.t26, hI.t27, hI.t28, hI.t29, hI.t30, hI.t31, hI.t32, hI.t33, hI.t34, hI.t35, hI.t36, hI.t37, hI.t38, hI.t39, hI.t40, hI.t41, hI.t42, hI.t43, hI.t44, hI.t45, hI.t46, hI.t47, hI.t48, hI.t49, fun _ => rfl, hI.t51, fun _ => rfl, hI.t53, fun _ => rfl, fun _ => rfl, hI.t56, hI.t57, hI.t58, hI.t59, hI.t60, hI.t61, hI.t62, hI.t63, hI.t64, hI.t65, hI.t66, hI.t67, hI.t68, hI.t69, hI.t70, hI.t71, hI.t72, hI.t73, hI.bw⟩⟩
  · rintro L a wx ⟨v, rfl, hI⟩ hL hdep hcl K hK
    have e50 := hI.t50 (hdep 50 (by decide))
    have e55 := hI.t55 (hdep 55 (by decide))
    rw [e50, e55]
    go_simp
    exact hK _ _ ⟨(upd (upd (upd v 129 (.bool true)) 134 (.bool true)) 135 (.bool true)), rfl, ⟨hI.t0, hI.t1, hI.t2, hI.t3, hI.t4, hI.t5, hI.t6, hI.t7, hI.t8, hI.t9, hI.t10, hI.t11, hI.t12, hI.t13, hI.t14, hI.t15, hI.t16, hI.t17, hI.t18, hI.t19, hI.t20, hI.t21, hI.t22, hI.t23, hI.t24, hI.t25, hI.t26, hI.t27, hI.t28, hI.t29, hI.t30, hI.t31, hI.t32, hI.t33, hI.t34, hI.t35, hI.t36, hI.t37, hI.t38, hI.t39, hI.t40, hI.t41, hI.t42, hI.t43, hI.t44, hI.t45, hI.t46, hI.t47, hI.t48, hI.t49, fun _ => rfl, hI.t51, hI.t52, hI.t53, hI.t54, fun _ => rfl, fun _ => rfl, hI.t57, hI.t58, hI.t59, hI.t60, hI.t61, hI.t62, hI.t63, hI.t64, hI.t65, hI.t66, hI.t67, hI.t68, hI.t69, hI.t70, hI.t71, hI.t72, hI.t73, hI.bw⟩⟩
  · rintro L a wx ⟨v, rfl, hI⟩ hL hdep hcl K hK
    have e56 := hI.t56 (hdep 56 (by decide))
    rw [e56]
    go_simp
    exact hK _ _ ⟨(upd (upd v 135 (.bool true)) 136 (.bool true)), rfl, ⟨hI.t0, hI.t1, hI.t2, hI.t3, hI.t4, hI.t5, hI.t6, hI.t7, hI.t8, hI.t9, hI.t10, hI.t11, hI.t12, hI.t13, hI.t14, hI.t15, hI.t16, hI.t17, hI.t18, hI.t19, hI.t20, hI.t21, hI.t22, hI.t23, hI.t24, hI.t25, hI.t26, hI.t27, hI.t28, hI.t29, hI.t30, hI.t31, hI.t32, hI.t33, hI.t34, hI.t35, hI.t36, hI.t37, hI.t38, hI.t39, hI.t40, hI.t41, hI.t42, hI.t43, hI.t44, hI.t45, hI.t46, hI.t47, hI.t48, hI.t49, hI.t50, hI.t51, hI.t52, hI.t53, hI.t54, hI.t55, fun _ => rfl, fun _ => rfl, hI.t58, hI.t59, hI.t60, hI.t61, hI.t62, hI.t63, hI.t64, hI.t65, hI.t66, hI.t67, hI.t68, hI.t69, hI.t70, hI.t71, hI.t72, hI.t73, hI.bw⟩⟩
  · rintro L a wx ⟨v, rfl, hI⟩ hL hdep hcl K hK
    have e57 := hI.t57 (hdep 57 (by decide))
    rw [e57]
    refine (if_pos rfl).mpr ?_
    have hA := (HW.out.to hI.bw).x
    have q0 := hA.cell 0
    have q1 := hA.cell 1
    simp only [List.getElem?_cons_zero, List.getElem?_cons_succ] at q0 q1
    go_simp
    exact hK _ _ ⟨(upd (upd v 136 (.bool true)) 137 (entV t a1 n1 c1)), rfl, ⟨hI.t0, hI.t1, hI.t2, hI.t3, hI.t4, hI.t5, hI.t6, hI.t7, hI.t8, hI.t9, hI.t10, hI.t11, hI.t12, hI.t13, hI.t14, hI.t15, hI.t16, hI.t17, hI.t18, hI.t19, hI.t20, hI.t21, hI.t22, hI.t23, hI.t24, hI.t25, hI.t26, hI.t27, hI.t28, hI.t29, hI.t30, hI.t31, hI.t32, hI.t33, hI.t34, hI.t35, hI.t36, hI.t37, hI.t38, hI.t39, hI.t40, hI.t41, hI.t42, hI.t43, hI.t44, hI.t45, hI.t46, hI.t47, hI.t48, hI.t49, hI.t50, hI.t51, hI.t52, hI.t53, hI.t54, hI.t55, hI.t56, fun _ => rfl, fun _ => rfl, hI.t59, hI.t60, hI.t61, hI.t62, hI.t63, hI.t64, hI.t65, hI.t66, hI.t67, hI.t68, hI.t69, hI.t70, hI.t71, hI.t72, hI.t73, hI.bw⟩⟩
  · rintro L a wx ⟨v, rfl, hI⟩ hL hdep hcl K hK
    have e57 := hI.t57 (hdep 57 (by decide))
    have e58 := hI.t58 (hdep 58 (by decide))
    rw [e57, e58]
    refine (if_pos rfl).mpr ?_
    have hW := HW.out.to hI.bw
    go_simp
    refine (May_any t a1 n1 c1 xss wx (by omega) hW.ch).mono ?_
    rw [hmb.out]
    rintro e w' ⟨rfl, hb⟩
    exact hK _ _ ⟨(upd (upd (upd v 136 (.bool true)) 137 (entV t a1 n1 c1)) 138 (.bool mb)), rfl, ⟨hI.t0, hI.t1, hI.t2, hI.t3, hI.t4, hI.t5, hI.t6, hI.t7, hI.t8, hI.t9, hI.t10, hI.t11, hI.t12, hI.t13, hI.t14, hI.t15, hI.t16, hI.t17, hI.t18, hI.t19, hI.t20, hI.t21, hI.t22, hI.t23, hI.t24, hI.t25, hI.t26, hI.t27, hI.t28, hI.t29, hI.t30, hI.t31, hI.t32, hI.t33, hI.t34, hI.t35, hI.t36, hI.t37, hI.t38, hI.t39, hI.t40, hI.t41, hI.t42, hI.t43, hI.t44, hI.t45, hI.t46, hI.t47, hI.t48, hI.t49, hI.t50, hI.t51, hI.t52, hI.t53, hI.t54, hI.t55, hI.t56, fun _ => rfl, fun _ => rfl, fun _ => rfl, hI.t60, hI.t61, hI.t62, hI.t63, hI.t64, hI.t65, hI.t66, hI.t67, hI.t68, hI.t69, hI.t70, hI.t71, hI.t72, hI.t73, (hI.bw).trans (hb.mono hI.bw.size)⟩⟩
  · rintro L a wx ⟨v, rfl, hI⟩ hL hdep hcl K hK
    have e57 := hI.t57 (hdep 57 (by decide))
    rw [e57]
    refine (if_pos rfl).mpr ?_
    have hA := (HW.out.to hI.bw).e
    have q0 := hA.cell 0
    have q1 := hA.cell 1
    simp only [List.getElem?_cons_zero, List.getElem?_cons_succ] at q0 q1
    go_simp
    exact hK _ _ ⟨(upd (upd v 136 (.bool true)) 139 (entV t al n cap)), rfl, ⟨hI.t0, hI.t1, hI.t2, hI.t3, hI.t4, hI.t5, hI.t6, hI.t7, hI.t8, hI.t9, hI.t10, hI.t11, hI.t12, hI.t13, hI.t14, hI.t15, hI.t16, hI.t17, hI.t18, hI.t19, hI.t20, hI.t21, hI.t22, hI.t23, hI.t24, hI.t25, hI.t26, hI.t27, hI.t28, hI.t29, hI.t30, hI.t31, hI.t32, hI.t33, hI.t34, hI.t35, hI.t36, hI.t37, hI.t38, hI.t39, hI.t40, hI.t41, hI.t42, hI.t43, hI.t44, hI.t45, hI.t46, hI.t47, hI.t48, hI.t49, hI.t50, hI.t51, hI.t52, hI.t53, hI.t54, hI.t55, hI.t56, fun _ => rfl, hI.t58, hI.t59, fun _ => rfl, hI.t61, hI.t62, hI.t63, hI.t64, hI.t65, hI.t66, hI.t67, hI.t68, hI.t69, hI.t70, hI.t71, hI.t72, hI.t73, hI.bw⟩⟩
  · rintro L a wx ⟨v, rfl, hI⟩ hL hdep hcl K hK
    have e57 := hI.t57 (hdep 57 (by decide))
    have e60 := hI.t60 (hdep 60 (by decide))
    rw [e57, e60]
    refine (if_pos rfl).mpr ?_
    have hW := HW.out.to hI.bw
    go_simp
    refine (refMay_any t al n cap xss wx (by omega) hW.he).mono ?_
    rw [hmb.out]
    rintro e w' ⟨rfl, hb⟩
    exact hK _ _ ⟨(upd (upd (upd v 136 (.bool true)) 139 (entV t al n cap)) 140 (.bool mb)), rfl, ⟨hI.t0, hI.t1, hI.t2, hI.t3, hI.t4, hI.t5, hI.t6, hI.t7, hI.t8, hI.t9, hI.t10, hI.t11, hI.t12, hI.t13, hI.t14, hI.t15, hI.t16, hI.t17, hI.t18, hI.t19, hI.t20, hI.t21, hI.t22, hI.t23, hI.t24, hI.t25, hI.t26, hI.t27, hI.t28, hI.t29, hI.t30, hI.t31, hI.t32, hI.t33, hI.t34, hI.t35, hI.t36, hI.t37, hI.t38, hI.t39, hI.t40, hI.t41, hI.t42, hI.t43, hI.t44, hI.t45, hI.t46, hI.t47, hI.t48, hI.t49, hI.t50, hI.t51, hI.t52, hI.t53, hI.t54, hI.t55, hI.t56, fun _ => rfl, hI.t58, hI.t59, fun _ => rfl, fun _ => rfl, hI.t62, hI.t63, hI.t64, hI.t65, hI.t66, hI.t67, hI.t68, hI.t69, hI.t70, hI.t71, hI.t72, hI.t73, (hI.bw).trans (hb.mono hI.bw.size)⟩⟩
  · rintro L a wx ⟨v, rfl, hI⟩ hL hdep hcl K hK
    have e57 := hI.t57 (hdep 57 (by decide))
    have e59 := hI.t59 (hdep 59 (by decide))
    have e61 := hI.t61 (hdep 61 (by decide))
    rw [e57, e59, e61]
    refine (if_pos rfl).mpr ?_
    go_simp
    exact hK _ _ ⟨(upd (upd (upd (upd v 136 (.bool true)) 138 (.bool mb)) 140 (.bool mb)) 141 (.bool true)), rfl, ⟨hI.t0, hI.t1, hI.t2, hI.t3, hI.t4, hI.t5, hI.t6, hI.t7, hI.t8, hI.t9, hI.t10, hI.t11, hI.t12, hI.t13, hI.t14, hI.t15, hI.t16, hI.t17, hI.t18, hI.t19, hI.t20, hI.t21, hI.t22, hI.t23, hI.t24, hI.t25, hI.t26, hI.t27, hI.t28, hI.t29, hI.t30, hI.t31, hI.t32, hI.t33, hI.t34, hI.t35, hI.t36, hI.t37, hI.t38, hI.t39, hI.t40, hI.t41, hI.t42, hI.t43, hI.t44, hI.t45, hI.t46, hI.t47, hI.t48, hI.t49, hI.t50, hI.t51, hI.t52, hI.t53, hI.t54, hI.t55, hI.t56, fun _ => rfl, hI.t58, fun _ => rfl, hI.t60, fun _ => rfl, fun _ => rfl, hI.t63, hI.t64, hI.t65, hI.t66, hI.t67, hI.t68, hI.t69, hI.t70, hI.t71, hI.t72, hI.t73, hI.bw⟩⟩
  · rintro L a wx ⟨v, rfl, hI⟩ hL hdep hcl K hK
    have e57 := hI.t57 (hdep 57 (by decide))
    have e62 := hI.t62 (hdep 62 (by decide))
    rw [e57, e62]
    go_simp
    exact hK _ _ ⟨(upd (upd (upd v 136 (.bool true)) 141 (.bool true)) 142 (.bool true)), rfl, ⟨hI.t0, hI.t1, hI.t2, hI.t3, hI.t4, hI.t5, hI.t6, hI.t7, hI.t8, hI.t9, hI.t10, hI.t11, hI.t12, hI.t13, hI.t14, hI.t15, hI.t16, hI.t17, hI.t18, hI.t19, hI.t20, hI.t21, hI.t22, hI.t23, hI.t24, hI.t25, hI.t26, hI.t27, hI.t28, hI.t29, hI.t30, hI.t31, hI.t32, hI.t33, hI.t34, hI.t35, hI.t36, hI.t37, hI.t38, hI.t39, hI.t40, hI.t41, hI.t42, hI.t43, hI.t44, hI.t45, hI.t46, hI.t47, hI.t48, hI.t49, hI.t50, hI.t51, hI.t52, hI.t53, hI.t54, hI.t55, hI.t56, fun _ => rfl, hI.t58, hI.t59, hI.t60, hI.t61, fun _ => rfl, fun _ => rfl, hI.t64, hI.t65, hI.t66, hI.t67, hI.t68, hI.t69, hI.t70, hI.t71, hI.t72, hI.t73, hI.bw⟩⟩
  · rintro L a wx ⟨v, rfl, hI⟩ hL hdep hcl K hK
    have e63 := hI.t63 (hdep 63 (by decide))
    rw [e63]
    go_simp
    exact hK _ _ ⟨(upd (upd v 142 (.bool true)) 143 (.bool true)), rfl, ⟨hI.t0, hI.t1, hI.t2, hI.t3, hI.t4, hI.t5, hI.t6, hI.t7, hI.t8, hI.t9, hI.t10, hI.t11, hI.t12, hI.t13, hI.t14, hI.t15, hI.t16, hI.t17, hI.t18, hI.t19, hI.t20, hI.t21, hI.t22, hI.t23, hI.t24, hI.t25, hI.t26, hI.t27, hI.t28, hI.t29, hI.t30, hI.t31, hI.t32, hI.t33, hI.t34, hI.t35, hI.t36, hI.t37, hI.t38, hI.t39, hI.t40, hI.t41, hI.t42, hI.t43, hI.t44, hI.t45, hI.t46, hI.t47, hI.t48, hI.t49, hI.t50, hI.t51, hI.t52, hI.t53, hI.t54, hI.t55, hI.t56, hI.t57, hI.t58, hI.t59, hI.t60, hI.t61, hI.t62, fun _ => rfl, fun _ => rfl, hI.t65, hI.t66, hI.t67, hI.t68, hI.t69, hI.t70, hI.t71, hI.t72, hI.t73, hI.bw⟩⟩
  · rintro L a wx ⟨v, rfl, hI⟩ hL hdep hcl K hK
    have e64 := hI.t64 (hdep 64 (by decide))
    rw [e64]
    refine (if_pos rfl).mpr ?_
    have hA := (HW.out.to hI.bw).x
    have q0 := hA.cell 0
    have q1 := hA.cell 1
    simp only [List.getElem?_cons_zero, List.getElem?_cons_succ] at q0 q1
    go_simp
    exact hK _ _ ⟨(upd (upd v 143 (.bool true)) 144 (entV t a1 n1 c1)), rfl, ⟨hI.t0, hI.t1, hI.t2, hI.t3, hI.t4, hI.t5, hI.t6, hI.t7, hI.t8, hI.t9, hI.t10, hI.t11, hI.t12, hI.t13, hI.t14, hI.t15, hI.t16, hI.t17, hI.t18, hI.t19, hI.t20, hI.t21, hI.t22, hI.t23, hI.t24, hI.t25, hI.t26, hI.t27, hI.t28, hI.t29, hI.t30, hI.t31, hI.t32, hI.t33, hI.t34, hI.t35, hI.t36, hI.t37, hI.t38, hI.t39, hI.t40, hI.t41, hI.t42, hI.t43, hI.t44, hI.t45, hI.t46, hI.t47, hI.t48, hI.t49, hI.t50, hI.t51, hI.t52, hI.t53, hI.t54, hI.t55, hI.t56, hI.t57, hI.t58, hI.t59, hI.t60, hI.t61, hI.t62, hI.t63, fun _ => rfl, fun _ => rfl, hI.t66, hI.t67, hI.t68, hI.t69, hI.t70, hI.t71, hI.t72, hI.t73, hI.bw⟩⟩
  · rintro L a wx ⟨v, rfl, hI⟩ hL hdep hcl K hK
    have e64 := hI.t64 (hdep 64 (by decide))
    rw [e64]
    refine (if_pos rfl).mpr ?_
    have hA := (HW.out.to hI.bw).o
    have q0 := hA.cell 0
    have q1 := hA.cell 1
    simp only [List.getElem?_cons_zero, List.getElem?_cons_succ] at q0 q1
    go_simp
    exact hK _ _ ⟨(upd (upd v 143 (.bool true)) 145 (entV u bl m mc)), rfl, ⟨hI.t0, hI.t1, hI.t2, hI.t3, hI.t4, hI.t5, hI.t6, hI.t7, hI.t8, hI.t9, hI.t10, hI.t11, hI.t12, hI.t13, hI.t14, hI.t15, hI.t16, hI.t17, hI.t18, hI.t19, hI.t20, hI.t21, hI.t22, hI.t23, hI.t24, hI.t25, hI.t26, hI.t27, hI.t28, hI.t29, hI.t30, hI.t31, hI.t32, hI.t33, hI.t34, hI.t35, hI.t36, hI.t37, hI.t38, hI.t39, hI.t40, hI.t41, hI.t42, hI.t43, hI.t44, hI.t45, hI.t46, hI.t47, hI.t48, hI.t49, hI.t50, hI.t51, hI.t52, hI.t53, hI.t54, hI.t55, hI.t56, hI.t57, hI.t58, hI.t59, hI.t60, hI.t61, hI.t62, hI.t63, fun _ => rfl, hI.t65, fun _ => rfl, hI.t67, hI.t68, hI.t69, hI.t70, hI.t71, hI.t72, hI.t73, hI.bw⟩⟩
  · rintro L a wx ⟨v, rfl, hI⟩ hL hdep hcl K hK
    have e64 := hI.t64 (hdep 64 (by decide))
    have e65 := hI.t65 (hdep 65 (by decide))
    have e66 := hI.t66 (hdep 66 (by decide))
    rw [e64, e65, e66]
    refine (if_pos rfl).mpr ?_
    have hW := HW.out.to hI.bw
    go_simp
    refine (Same_any t u a1 bl n1 c1 m mc xss yss wx (by omega) (by omega) hW.ch hW.ho).mono ?_
    rw [hsb.out]
    rintro e w' ⟨rfl, hb⟩
    exact hK _ _ ⟨(upd (upd (upd (upd v 143 (.bool true)) 144 (entV t a1 n1 c1)) 145 (entV u bl m mc)) 146 (.bool sb)), rfl, ⟨hI.t0, hI.t1, hI.t2, hI.t3, hI.t4, hI.t5, hI.t6, hI.t7, hI.t8, hI.t9, hI.t10, hI.t11, hI.t12, hI.t13, hI.t14, hI.t15, hI.t16, hI.t17, hI.t18, hI.t19, hI.t20, hI.t21, hI.t22, hI.t23, hI.t24, hI.t25, hI.t26, hI.t27, hI.t28, hI.t29, hI.t30, hI.t31, hI.t32, hI.t33, hI.t34, hI.t35, hI.t36, hI.t37, hI.t38, hI.t39, hI.t40, hI.t41, hI.t42, hI.t43, hI.t44, hI.t45, hI.t46, hI.t47, hI.t48, hI.t49, hI.t50, hI.t51, hI.t52, hI.t53, hI.t54, hI.t55, hI.t56, hI.t57, hI.t58, hI.t59, hI.t60, hI.t61, hI.t62, hI.t63, fun _ => rfl, fun _ => rfl, fun _ => rfl, fun _ => rfl, hI.t68, hI.t69, hI.t70, hI.t71, hI.t72, hI.t73, (hI.bw).trans (hb.mono hI.bw.size)⟩⟩
  · rintro L a wx ⟨v, rfl, hI⟩ hL hdep hcl K hK
    have e64 := hI.t64 (hdep 64 (by decide))
    rw [e64]
    refine (if_pos rfl).mpr ?_
    have hA := (HW.out.to hI.bw).e
    have q0 := hA.cell 0
    have q1 := hA.cell 1
    simp only [List.getElem?_cons_zero, List.getElem?_cons_succ] at q0 q1
    go_simp
    exact hK _ _ ⟨(upd (upd v 143 (.bool true)) 147 (entV t al n cap)), rfl, ⟨hI.t0, hI.t1, hI.t2, hI.t3, hI.t4, hI.t5, hI.t6, hI.t7, hI.t8, hI.t9, hI.t10, hI.t11, hI.t12, hI.t13, hI.t14, hI.t15, hI.t16, hI.t17, hI.t18, hI.t19, hI.t20, hI.t21, hI.t22, hI.t23, hI.t24, hI.t25, hI.t26, hI.t27, hI.t28, hI.t29, hI.t30, hI.t31, hI.t32, hI.t33, hI.t34, hI.t35, hI.t36, hI.t37, hI.t38, hI.t39, hI.t40, hI.t41, hI.t42, hI.t43, hI.t44, hI.t45, hI.t46, hI.t47, hI.t48, hI.t49, hI.t50, hI.t51, hI.t52, hI.t53, hI.t54, hI.t55, hI.t56, hI.t57, hI.t58, hI.t59, hI.t60, hI.t61, hI.t62, hI.t63, fun _ => rfl, hI.t65, hI.t66, hI.t67, fun _ => rfl, hI.t69, hI.t70, hI.t71, hI.t72, hI.t73, hI.bw⟩⟩
  · rintro L a wx ⟨v, rfl, hI⟩ hL hdep hcl K hK
    have e64 := hI.t64 (hdep 64 (by decide))
    rw [e64]
    refine (if_pos rfl).mpr ?_
    have hA := (HW.out.to hI.bw).o
    have q0 := hA.cell 0
    have q1 := hA.cell 1
    simp only [List.getElem?_cons_zero, List.getElem?_cons_succ] at q0 q1
    go_simp
    exact hK _ _ ⟨(upd (upd v 143 (.bool true)) 148 (entV u bl m mc)), rfl, ⟨hI.t0, hI.t1, hI.t2, hI.t3, hI.t4, hI.t5, hI.t6, hI.t7, hI.t8, hI.t9, hI.t10, hI.t11, hI.t12, hI.t13, hI.t14, hI.t15, hI.t16, hI.t17, hI.t18, hI.t19, hI.t20, hI.t21, hI.t22, hI.t23, hI.t24, hI.t25, hI.t26, hI.t27, hI.t28, hI.t29, hI.t30, hI.t31, hI.t32, hI.t33, hI.t34, hI.t35, hI.t36, hI.t37, hI.t38, hI.t39, hI.t40, hI.t41, hI.t42, hI.t43, hI.t44, hI.t45, hI.t46, hI.t47, hI.t48, hI.t49, hI.t50, hI.t51, hI.t52, hI.t53, hI.t54, hI.t55, hI.t56, hI.t57, hI.t58, hI.t59, hI.t60, hI.t61, hI.t62, hI.t63, fun _ => rfl, hI.t65, hI.t66, hI.t67, hI.t68, fun _ => rfl, hI.t70, hI.t71, hI.t72, hI.t73, hI.bw⟩⟩
  · rintro L a wx ⟨v, rfl, hI⟩ hL hdep hcl K hK
    have e64 := hI.t64 (hdep 64 (by decide))
    have e68 := hI.t68 (hdep 68 (by decide))
    have e69 := hI.t69 (hdep 69 (by decide))
    rw [e64, e68, e69]
    refine (if_pos rfl).mpr ?_
    have hW := HW.out.to hI.bw
    go_simp
    refine (refSame_any t u al bl n cap m mc xss yss wx (by omega) (by omega) hW.he hW.ho).mono ?_
    rw [hsb.out]
    rintro e w' ⟨rfl, hb⟩
    exact hK _ _ ⟨(upd (upd (upd (upd v 143 (.bool true)) 147 (entV t al n cap)) 148 (entV u bl m mc)) 149 (.bool sb)), rfl, ⟨hI.t0, hI.t1, hI.t2, hI.t3, hI.t4, hI.t5, hI.t6, hI.t7, hI.t8, hI.t9, hI.t10, hI.t11, hI.t12, hI.t13, hI.t14, hI.t15, hI.t16, hI.t17, hI.t18, hI.t19, hI.t20, hI.t21, hI.t22, hI.t23, hI.t24, hI.t25, hI.t26, hI.t27, hI.t28, hI.t29, hI.t30, hI.t31, hI.t32, hI.t33, hI.t34, hI.t35, hI.t36, hI.t37, hI.t38, hI.t39, hI.t40, hI.t41, hI.t42, hI.t43, hI.t44, hI.t45, hI.t46, hI.t47, hI.t48, hI.t49, hI.t50, hI.t51, hI.t52, hI.t53, hI.t54, hI.t55, hI.t56, hI.t57, hI.t58, hI.t59, hI.t60, hI.t61, hI.t62, hI.t63, fun _ => rfl, hI.t65, hI.t66, hI.t67, fun _ => rfl, fun _ => rfl, fun _ => rfl, hI.t71, hI.t72, hI.t73, (hI.bw).trans (hb.mono hI.bw.size)⟩⟩
  · rintro L a wx ⟨v, rfl, hI⟩ hL hdep hcl K hK
    have e64 := hI.t64 (hdep 64 (by decide))
    have e67 := hI.t67 (hdep 67 (by decide))
    have e70 := hI.t70 (hdep 70 (by decide))
    rw [e64, e67, e70]
    refine (if_pos rfl).mpr ?_
    go_simp
    exact hK _ _ ⟨(upd (upd (upd (upd v 143 (.bool true)) 146 (.bool sb)) 149 (.bool sb)) 150 (.bool true)), rfl, ⟨hI.t0, hI.t1, hI.t2, hI.t3, hI.t4, hI.t5, hI.t6, hI.t7, hI.t8, hI.t9, hI.t10, hI.t11, hI.t12, hI.t13, hI.t14, hI.t15, hI.t16, hI.t17, hI.t18, hI.t19, hI.t20, hI.t21, hI.t22, hI.t23, hI.t24, hI.t25, hI.t26, hI.t27, hI.t28, hI.t29, hI.t30, hI.t31, hI.t32, hI.t33, hI.t34, hI.t35, hI.t36, hI.t37, hI.t38, hI.t39, hI.t40, hI.t41, hI.t42, hI.t43, hI.t44, hI.t45, hI.t46, hI.t47, hI.t48, hI.t49, hI.t50, hI.t51, hI.t52, hI.t53, hI.t54, hI.t55, hI.t56, hI.t57, hI.t58, hI.t59, hI.t60, hI.t61, hI.t62, hI.t63, fun _ => rfl, hI.t65, hI.t66, fun _ => rfl, hI.t68, hI.t69, fun _ => rfl, fun _ => rfl, hI.t72, hI.t73, hI.bw⟩⟩
  · rintro L a wx ⟨v, rfl, hI⟩ hL hdep hcl K hK
    have e64 := hI.t64 (hdep 64 (by decide))
    have e71 := hI.t71 (hdep 71 (by decide))
    rw [e64, e71]
    go_simp
    exact hK _ _ ⟨(upd (upd (upd v 143 (.bool true)) 150 (.bool true)) 151 (.bool true)), rfl, ⟨hI.t0, hI.t1, hI.t2, hI.t3, hI.t4, hI.t5, hI.t6, hI.t7, hI.t8, hI.t9, hI.t10, hI.t11, hI.t12, hI.t13, hI.t14, hI.t15, hI.t16, hI.t17, hI.t18, hI.t19, hI.t20, hI.t21, hI.t22, hI.t23, hI.t24, hI.t25, hI.t26, hI.t27, hI.t28, hI.t29, hI.t30, hI.t31, hI.t32, hI.t33, hI.t34, hI.t35, hI.t36, hI.t37, hI.t38, hI.t39, hI.t40, hI.t41, hI.t42, hI.t43, hI.t44, hI.t45, hI.t46, hI.t47, hI.t48, hI.t49, hI.t50, hI.t51, hI.t52, hI.t53, hI.t54, hI.t55, hI.t56, hI.t57, hI.t58, hI.t59, hI.t60, hI.t61, hI.t62, hI.t63, fun _ => rfl, hI.t65, hI.t66, hI.t67, hI.t68, hI.t69, hI.t70, fun _ => rfl, fun _ => rfl, hI.t73, hI.bw⟩⟩
  · rintro L a wx ⟨v, rfl, hI⟩ hL hdep hcl K hK
    have e72 := hI.t72 (hdep 72 (by decide))
    rw [e72]
    go_simp
    exact hK _ _ ⟨(upd (upd v 151 (.bool true)) 26 (.bool true)), rfl, ⟨hI.t0, hI.t1, hI.t2, hI.t3, hI.t4, hI.t5, hI.t6, hI.t7, hI.t8, hI.t9, hI.t10, hI.t11, hI.t12, hI.t13, hI.t14, hI.t15, hI.t16, hI.t17, hI.t18, hI.t19, hI.t20, hI.t21, hI.t22, hI.t23, hI.t24, hI.t25, hI.t26, hI.t27, hI.t28, hI.t29, hI.t30, hI.t31, hI.t32, hI.t33, hI.t34, hI.t35, hI.t36, hI.t37, hI.t38, hI.t39, hI.t40, hI.t41, hI.t42, hI.t43, hI.t44, hI.t45, hI.t46, hI.t47, hI.t48, hI.t49, hI.t50, hI.t51, hI.t52, hI.t53, hI.t54, hI.t55, hI.t56, hI.t57, hI.t58, hI.t59, hI.t60, hI.t61, hI.t62, hI.t63, hI.t64, hI.t65, hI.t66, hI.t67, hI.t68, hI.t69, hI.t70, hI.t71, fun _ => rfl, fun _ => rfl, hI.bw⟩⟩
  · rintro a w20 ⟨v, rfl, hI⟩
    have e73 := hI.t73 rfl
    rw [e73]
    have hbw := hI.bw
    clear hI
    have HL20 := Lib.hid (HL.out.trans (hbw.mono HL.out.size))
    have hYe := HY.out.kept hbw
    have i0 := hYe.cell 0
    have i1 := hYe.cell 1
    simp only [List.getElem?_cons_zero, List.getElem?_cons_succ] at i0 i1
    have hB20 := HL20.out.size
    have hLit := Lib.hid (ownC_lit6 (B := w2.heap.size) (w := w20) hB20 (HO6.out.to hbw) (HO10.out.to hbw) (HO14.out.to hbw) (HO18.out.to hbw) (HO220.out.to hbw) (HO221.out.to hbw))
    have hba := hal w20 (.cells #[.slice a6 n6 c6, .slice a10 n10 c10, .slice a14 n14 c14, .slice a18 n18 c18, .slice a220 n220 c220, .slice a221 n221 c221] 27)
    have HL21 := Lib.hid (HL20.out.trans (hba.mono hB20))
    clear hbw hYe hba
    go_wp2_with fail
    refine (spoil_any w2.heap.size (some ⟨w20.heap.size, 0, none⟩) 6 6 _ _ _ hLit.out (Below.refl _ _) (by decide) ?_).mono ?_
    · intro x hx
      have s1 := stamp_small t xss
      have s2 := extra_small xss
      have s3 := rec_small t xss
      have s4 : (itemL t xss).length ≤ 3000 := s1
      have s5 : (itemX xss).length ≤ 3000 := s2
      simp only [List.mem_cons, List.not_mem_nil, or_false] at hx
      rcases hx with rfl | rfl | rfl | rfl | rfl | rfl <;> omega
    rintro e w22 ⟨rfl, hM⟩
    have HL22 := Lib.hid (HL21.out.trans hM.low)
    clear hM i0 i1
    go_wp2_with fail
    refine (awake_any w22).mono ?_
    rintro e w23 ⟨rfl, hb23⟩
    have HL23 := Lib.hid (HL22.out.trans (hb23.mono HL22.out.size))
    have h23 := H2.out.to HL23.out
    have x0 := h23.x.cell 0
    have x1 := h23.x.cell 1
    have y0 := h23.e.cell 0
    have y1 := h23.e.cell 1
    simp only [List.getElem?_cons_zero, List.getElem?_cons_succ] at x0 x1 y0 y1
    have hS := refSame_any t t a1 al n1 c1 n cap xss xss w23 (by omega) (by omega) h23.ch h23.he
    rw [same_self] at hS
    have HS := Lib.hid hS
    have H23 := Lib.hid h23
    clear hS hb23 h23
    go_wp2_with fail
    refine HS.out.mono ?_
    rintro e w24 ⟨rfl, hb24⟩
    go_wp2_with fail
    go_ret
    exact ⟨rfl, by rw [HB.out]; exact (H23.out.to hb24).bw⟩
end Go.Proofs.Ytcohcjhbkiangaa
