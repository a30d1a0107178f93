/-
  The program's TakeItem: its contract. Conditions: those in each statement.
-/
import Derived.Test.YtcohcjhbkiangaaEnV
namespace Go.Proofs.Ytcohcjhbkiangaa
open Go.RowKit

structure InvTI (t : Nat) (xa : Option Addr) (xn xc : Nat) (ls xs : List UInt8) (B X S9 : Nat) (w11 : World) (L : Nat → Bool) (v32 v33 v34 v35 v36 v37 v38 v39 v40 : Value) (wx : World) : Prop where
  t0 : L 0 = true → v32 = .pointer (some ⟨X, 1, none⟩)
  t1 : L 1 = true → v33 = .slice (some ⟨S9, 0, none⟩) 1 1
  t2 : L 2 = true → L 6 = false → ∃ p q, v34 = .func (.func 66) #[] #[.pointer (some ⟨p, 0, none⟩), .pointer (some ⟨q, 0, none⟩)] ∧ Two wx w11.heap.size p q (.pointer (some ⟨B + 2, 0, none⟩)) (.func (.func 46) #[] #[])
  t3 : L 3 = true → v35 = .pointer (some ⟨B, 1, none⟩)
  t4 : L 4 = true → v36 = .slice xa xn xc
  t5 : L 5 = true → L 6 = false → ∃ q' r', v37 = .pointer (some ⟨r', 0, none⟩) ∧ Rdr wx 102 [.bool true] q' r' xs ∧ w11.heap.size ≤ r' ∧ ∀ k, q' = some k → w11.heap.size ≤ k ∧ k < wx.heap.size
  t6 : L 6 = true → L 7 = false → OwnC wx (B + 3) (v38) ((i6 ls xs).1)
  t7 : L 7 = true → ∃ a n c, v39 = .slice a n c ∧ OwnC wx (B + 3) (.slice a n c) (iC ls xs)
  t8 : L 8 = true → v40 = .pointer (some ⟨X, 1, none⟩)
  kp : Fr [B + 2, X, S9] w11 wx
  bx : Boxed wx (B + 2) 28 (.int .i64 (if L 6 = true then (i6 ls xs).2.1 else (i5 ls).2.1))
  ax : ∃ cur, Arr wx X 25 cur ∧ cur.length = 2 ∧ (L 9 = false → cur = [.int .u64 (t : Int), .slice (some ⟨S9, 0, none⟩) 1 1]) ∧ (L 9 = true → cur = [.int .u64 (t : Int), v39])
  oc : L 7 = false → OwnC wx (B + 3) (.slice (some ⟨S9, 0, none⟩) 1 1) ([(i5 ls).1])

structure InvTJ (t : Nat) (ax : Option Addr) (nx cx : Nat) (ls xs : List UInt8) (B X : Nat) (w12 : World) (L : Nat → Bool) (v41 v42 v43 v9 : Value) (wx : World) : Prop where
  t0 : L 0 = true → L 2 = false → ∃ p q, v41 = .func (.func 73) #[] #[.pointer (some ⟨p, 0, none⟩), .pointer (some ⟨q, 0, none⟩)] ∧ Two wx w12.heap.size p q (.pointer (some ⟨B + 2, 0, none⟩)) (.func (.func 18) #[] #[])
  t1 : L 1 = true → v42 = entV t ax nx cx
  t2 : L 2 = true → ∃ a1 n1 c1 a2 n2 c2, v43 = .agg #[.slice a1 n1 c1, .slice a2 n2 c2] ∧ Own wx w12.heap.size 5 (.slice a1 n1 c1) ((i7 ls xs).1) ∧ Own wx w12.heap.size 5 (.slice a2 n2 c2) ((i7 ls xs).2.1)
  t3 : L 3 = true → ∃ Y cur, v9 = .pointer (some ⟨Y, 0, none⟩) ∧ w12.heap.size ≤ Y ∧ Arr wx Y 34 cur ∧ cur.length = 2 ∧ (L 4 = true → ∃ a1 n1 c1 a2 n2 c2, cur = [.slice a1 n1 c1, .slice a2 n2 c2] ∧ Own wx w12.heap.size 5 (.slice a1 n1 c1) ((i7 ls xs).1) ∧ Own wx w12.heap.size 5 (.slice a2 n2 c2) ((i7 ls xs).2.1))
  kp : Fr [B + 2] w12 wx
  bx : Boxed wx (B + 2) 28 (.int .i64 (if L 2 = true then (i7 ls xs).2.2 else (i6 ls xs).2.1))

set_option maxRecDepth 100000 in
set_option maxHeartbeats 4000000 in
theorem TakeItem_any (la : Option Addr) (ln lc : Nat) (xa : Option Addr) (xn xc : Nat) (ls xs : List UInt8) (w : World) (hml : ln ≤ 140737488355328) (hmx : xn ≤ 140737488355328) (hrl : Rd w la ln lc ls) (hrx : Rd w xa xn xc xs) :
    Calls Try.prog 29 #[.agg #[.slice la ln lc, .slice xa xn xc]] w (TRes w (takeItemR ls xs)) := by
  have hlnl := hrl.len
  have hlnx := hrx.len
  have hb0 : Below w.heap.size w (((w.alloc (.cells #[.slice la ln lc, .slice xa xn xc] 34)).alloc (.cells #[.int .u64 0, .slice none 0 0] 25)).alloc (.cells #[.int .i64 0] 28)) := ((hal w _).alloc (by simp) _).alloc (by simp; omega) _
  have hI0 : Arr (((w.alloc (.cells #[.slice la ln lc, .slice xa xn xc] 34)).alloc (.cells #[.int .u64 0, .slice none 0 0] 25)).alloc (.cells #[.int .i64 0] 28)) w.heap.size 34 [.slice la ln lc, .slice xa xn xc] := (Arr.new w _ _).kept ((hal _ _).alloc (by simp) _)
  have hE0 : Arr (((w.alloc (.cells #[.slice la ln lc, .slice xa xn xc] 34)).alloc (.cells #[.int .u64 0, .slice none 0 0] 25)).alloc (.cells #[.int .i64 0] 28)) (w.heap.size + 1) 25 [.int .u64 0, .slice none 0 0] := by
    have := (Arr.new (w.alloc (.cells #[.slice la ln lc, .slice xa xn xc] 34)) 25 [.int .u64 0, .slice none 0 0]).kept (hal _ (.cells #[.int .i64 0] 28))
    simpa using this
  have hx0 : Boxed (((w.alloc (.cells #[.slice la ln lc, .slice xa xn xc] 34)).alloc (.cells #[.int .u64 0, .slice none 0 0] 25)).alloc (.cells #[.int .i64 0] 28)) (w.heap.size + 2) 28 (.int .i64 0) := by
    have := Boxed.new ((w.alloc (.cells #[.slice la ln lc, .slice xa xn xc] 34)).alloc (.cells #[.int .u64 0, .slice none 0 0] 25)) 28 (.int .i64 0)
    simpa using this
  have hs0 : (((w.alloc (.cells #[.slice la ln lc, .slice xa xn xc] 34)).alloc (.cells #[.int .u64 0, .slice none 0 0] 25)).alloc (.cells #[.int .i64 0] 28)).heap.size = w.heap.size + 3 := by simp
  have HRL := Lib.hid hrl
  have HRX := Lib.hid hrx
  have hcase := Lib.hid (item_case ls xs)
  obtain ⟨TR, hTR⟩ : ∃ TR, TR = takeItemR ls xs := ⟨_, rfl⟩
  rw [← hTR] at hcase ⊢
  have hlen1 := i1_len ls
  have hlen2 := i2_len ls
  have hlen3 := i3_len ls
  have hlen4 := i4_len ls
  have ht3 := Lib.hid (i3_le ls)
  have hCl := Lib.hid (iC_len ls xs)
  have h6l := Lib.hid (i6_len ls xs)
  clear hrl hrx hTR
  have y0 := hI0.cell 0
  have y1 := hI0.cell 1
  simp only [List.getElem?_cons_zero, List.getElem?_cons_succ] at y0 y1
  go_enter Try.func29, Try.ntmps29
  go_wp2_with fail
  generalize hw0 : World.alloc (World.alloc (World.alloc w _) _) _ = w0 at *
  clear hw0
  have hr0 := HRL.out.to hb0
  generalize hB : w.heap.size = B at *
  have HB := Lib.hid hB
  have HB0 := Lib.hid hb0
  have hs0' : B + 3 ≤ w0.heap.size := by omega
  clear hB hs0 hb0 y0 y1
  refine (New_any la ln lc ls w0 hml hr0).mono ?_
  rintro e w1 ⟨q, r, rfl, hr1, hq1, lr1, hb1⟩
  have g1 := Fr.of_below (rs := []) hb1
  have hx1 := g1.boxed hx0 (by simp)
  have hI1 := g1.arr hI0 (by simp)
  have hE1 := g1.arr hE0 (by simp)
  have hBr : B + 3 ≤ r := by omega
  have hrl := hr1.lt
  have HQ : Hid (∀ k, q = some k → B + 3 ≤ k ∧ k < w1.heap.size) := fun k e => ⟨by have := hq1 k e; omega, (hq1 k e).2⟩
  have hqB : q ≠ some (B + 2) := by intro e; have := HQ.out _ e; omega
  have HF1 := Lib.hid ((Fr.of_below (rs := []) (by rw [HB.out]; exact HB0.out)).trans g1)
  have hs1 := hb1.size
  clear hx0 hI0 hE0 hr0 hb1 hq1 lr1 g1
  go_wp2_with fail
  refine (kept_iu2 _ _ _ _ _).mono ?_
  rintro e w2 ⟨p, pq, rfl, ht2, hb2⟩
  have g2 := Fr.of_below (rs := []) hb2
  have hx2 := g2.boxed hx1 (by simp)
  have hI2 := g2.arr hI1 (by simp)
  have hE2 := g2.arr hE1 (by simp)
  have hr2 := g2.rdr hr1 (by simp) (fun k e => ⟨(HQ.out k e).2, by simp⟩)
  have HF2 := Lib.hid (HF1.out.trans g2)
  have hs2 := hb2.size
  have hbp := ht2.bp
  have hbq := ht2.bq
  have HT2 := Lib.hid ht2
  clear hx1 hI1 hE1 hr1 hb2 g2 HF1 ht2
  go_wp2_with fail
  refine (kept_ib2 _ _ _ _ _).mono ?_
  rintro e w3 ⟨u, uq, rfl, ht3', hb3⟩
  have g3 := Fr.of_below (rs := []) hb3
  have hx3 := g3.boxed hx2 (by simp)
  have hI3 := g3.arr hI2 (by simp)
  have hE3 := g3.arr hE2 (by simp)
  have hr3 := g3.rdr hr2 (by simp) (fun k e => ⟨by have := HQ.out k e; omega, by simp⟩)
  have HF3 := Lib.hid (HF2.out.trans g3)
  have hs3 := hb3.size
  have hbu := ht3'.bp
  have hbuq := ht3'.bq
  have HT3 := Lib.hid (HT2.out.fr g3 (by simp))
  have HU3 := Lib.hid ht3'
  clear hx2 hI2 hE2 hr2 hb3 g3 HF2 HT2 ht3'
  have hne : ∀ x ∈ [r, B + 2], (x ≠ p ∧ x ≠ pq) ∧ (x ≠ u ∧ x ≠ uq) := by intro x hx; simp at hx; rcases hx with rfl | rfl <;> omega
  have hr2B : ∀ x ∈ [r, B + 2], B ≤ x := by intro x hx; simp at hx; rcases hx with rfl | rfl <;> omega
  have HNE := Lib.hid hne
  have HR2B := Lib.hid hr2B
  have HNEW : Hid (∀ x ∈ [r, B + 2], w.heap.size ≤ x ∨ x ∈ ([] : List Nat)) := fun x hx => .inl (by rw [HB.out]; exact HR2B.out x hx)
  clear hne hr2B
  have c1 := HT3.out.cp
  have c2 := HT3.out.cq
  go_wp2_with fail
  refine (keptNum_any 0 1 q r ls p pq (B + 2) w3 (by omega) c1 c2 hx3 hr3 hqB).mono ?_
  rintro e w4 ⟨rfl, hx4, hr4, hf4⟩
  have hd4 : keptT 0 0 ls (rnumF ls 1) = i1 ls := rfl
  rw [hd4] at hx4 hr4 ⊢
  have hs4 := hf4.size
  have hI4 := hf4.arr hI3 (by simp; omega)
  have hE4 := hf4.arr hE3 (by simp; omega)
  have HT4 := Lib.hid (HT3.out.fr hf4 (fun x hx => (HNE.out x hx).1))
  have HU4 := Lib.hid (HU3.out.fr hf4 (fun x hx => (HNE.out x hx).2))
  have HF4 := Lib.hid (HF3.out.then hf4 HNEW.out)
  clear hd4 hx3 hr3 hI3 hE3 hf4 HF3 HT3 HU3 c1 c2
  have c1 := HT4.out.cp
  have c2 := HT4.out.cq
  go_wp2_with fail
  refine (keptNum_any (i1 ls).2.1 1 q r (i1 ls).2.2 p pq (B + 2) w4 (by omega) c1 c2 hx4 hr4 hqB).mono ?_
  rintro e w5 ⟨rfl, hx5, hr5, hf5⟩
  have hd5 : keptT (i1 ls).2.1 0 (i1 ls).2.2 (rnumF (i1 ls).2.2 1) = i2 ls := rfl
  rw [hd5] at hx5 hr5 ⊢
  have hs5 := hf5.size
  have hI5 := hf5.arr hI4 (by simp; omega)
  have hE5 := hf5.arr hE4 (by simp; omega)
  have HT5 := Lib.hid (HT4.out.fr hf5 (fun x hx => (HNE.out x hx).1))
  have HU5 := Lib.hid (HU4.out.fr hf5 (fun x hx => (HNE.out x hx).2))
  have HF5 := Lib.hid (HF4.out.then hf5 HNEW.out)
  clear hd5 hx4 hr4 hI4 hE4 hf5 HF4 HT4 HU4 c1 c2
  have c1 := HT5.out.cp
  have c2 := HT5.out.cq
  go_wp2_with fail
  refine (keptNum_any (i2 ls).2.1 8 q r (i2 ls).2.2 p pq (B + 2) w5 (by omega) c1 c2 hx5 hr5 hqB).mono ?_
  rintro e w6 ⟨rfl, hx6, hr6, hf6⟩
  have hd6 : keptT (i2 ls).2.1 0 (i2 ls).2.2 (rnumF (i2 ls).2.2 8) = i3 ls := rfl
  rw [hd6] at hx6 hr6 ⊢
  have hs6 := hf6.size
  have hI6 := hf6.arr hI5 (by simp; omega)
  have hE6 := hf6.arr hE5 (by simp; omega)
  have HT6 := Lib.hid (HT5.out.fr hf6 (fun x hx => (HNE.out x hx).1))
  have HU6 := Lib.hid (HU5.out.fr hf6 (fun x hx => (HNE.out x hx).2))
  have HF6 := Lib.hid (HF5.out.then hf6 HNEW.out)
  clear hd6 hx5 hr5 hI5 hE5 hf6 HF5 HT5 HU5 c1 c2
  have ht := ht3.out
  obtain ⟨t, htq⟩ : ∃ t, t = (i3 ls).1 := ⟨_, rfl⟩
  rw [← htq] at ht ⊢
  have HTQ := Lib.hid htq
  clear htq
  have c1 := HT6.out.cp
  have c2 := HT6.out.cq
  go_wp2_with fail
  have hX7 : Arr (w6.alloc (.cells #[.int .u64 (t : Int), .slice none 0 0] 25)) w6.heap.size 25 [.int .u64 (t : Int), .slice none 0 0] := Arr.new w6 _ _
  have hb7 := hal w6 (.cells #[.int .u64 (t : Int), .slice none 0 0] 25)
  have g7 := Fr.of_below (rs := []) hb7
  have hx7 := g7.boxed hx6 (by simp)
  have hI7 := g7.arr hI6 (by simp)
  have hE7 := g7.arr hE6 (by simp)
  have hr7 := g7.rdr hr6 (by simp) (fun k e => ⟨by have := HQ.out k e; omega, by simp⟩)
  have HT7 := Lib.hid (HT6.out.fr g7 (by simp))
  have HU7 := Lib.hid (HU6.out.fr g7 (by simp))
  have HF7 := Lib.hid (HF6.out.then g7 (by simp))
  have hs7 : (w6.alloc (.cells #[.int .u64 (t : Int), .slice none 0 0] 25)).heap.size = w6.heap.size + 1 := by simp
  generalize hw7 : w6.alloc (.cells #[.int .u64 (t : Int), .slice none 0 0] 25) = w7 at *
  clear hw7 hb7 g7 hx6 hI6 hE6 hr6 HT6 HU6 HF6 c1 c2
  obtain ⟨X, hX⟩ : ∃ X, X = w6.heap.size := ⟨_, rfl⟩
  rw [← hX] at hX7 hs7 ⊢
  have hX2 : w3.heap.size ≤ X := by omega
  have hXw : X < w7.heap.size := by omega
  have hXB : B + 3 ≤ X := by omega
  have hrX : r ≠ X := by omega
  clear hX hs7 hs6
  have c1 := HT7.out.cp
  have c2 := HT7.out.cq
  refine (keptNum_any (i3 ls).2.1 2 q r (i3 ls).2.2 p pq (B + 2) w7 (by omega) c1 c2 hx7 hr7 hqB).mono ?_
  rintro e w8 ⟨rfl, hx8, hr8, hf8⟩
  have hd8 : keptT (i3 ls).2.1 0 (i3 ls).2.2 (rnumF (i3 ls).2.2 2) = i4 ls := rfl
  rw [hd8] at hx8 hr8 ⊢
  have hs8 := hf8.size
  have hI8 := hf8.arr hI7 (by simp; omega)
  have hE8 := hf8.arr hE7 (by simp; omega)
  have HT8 := Lib.hid (HT7.out.fr hf8 (fun x hx => (HNE.out x hx).1))
  have HU8 := Lib.hid (HU7.out.fr hf8 (fun x hx => (HNE.out x hx).2))
  have HF8 := Lib.hid (HF7.out.then hf8 HNEW.out)
  have hX8 := hf8.arr hX7 (by simp; omega)
  clear hd8 hx7 hr7 hI7 hE7 hf8 HF7 HT7 HU7 c1 c2
  have c1 := HU8.out.cp
  have c2 := HU8.out.cq
  go_wp2_with fail
  refine (keptVec_any (i4 ls).2.1 3 q r (i4 ls).2.2 u uq (B + 2) w8 (by omega) c1 c2 hx8 hr8 hqB).mono ?_
  rintro e w9 ⟨v9, rfl, ho9, hx9, hr9, hf9⟩
  have hd9 : keptT (i4 ls).2.1 [] (i4 ls).2.2 (rvecF (i4 ls).2.2 3) = i5 ls := rfl
  rw [hd9] at hx9 hr9 ho9
  have hs9 := hf9.size
  have hI9 := hf9.arr hI8 (by simp; omega)
  have hE9 := hf9.arr hE8 (by simp; omega)
  have HT9 := Lib.hid (HT8.out.fr hf9 (fun x hx => (HNE.out x hx).1))
  have HU9 := Lib.hid (HU8.out.fr hf9 (fun x hx => (HNE.out x hx).2))
  have HF9 := Lib.hid (HF8.out.then hf9 HNEW.out)
  have hX9 := hf9.arr hX8 (by simp; omega)
  clear hd9 hx8 hr8 hI8 hE8 hf9 HF8 HT8 HU8 c1 c2
  obtain ⟨a9, n9, c9, rfl, -⟩ := ho9.reads
  have hb10 := hal w9 (.cells #[.slice a9 n9 c9] 27)
  have g10 := Fr.of_below (rs := []) hb10
  have hO10 := ownC_lit (B := B + 3) (w := w9) (by omega) (ho9.mono (B' := B + 3) (by omega))
  have hX10 := g10.arr hX9 (by simp)
  have hs10 : (w9.alloc (.cells #[.slice a9 n9 c9] 27)).heap.size = w9.heap.size + 1 := by simp
  have f11 : Fr [X] (w9.alloc (.cells #[.slice a9 n9 c9] 27)) ((w9.alloc (.cells #[.slice a9 n9 c9] 27)).setCell ⟨X, 1, none⟩ (.slice (some ⟨w9.heap.size, 0, none⟩) 1 1)) := (Fr.refl _ _).set (by simp) _
  have hX11 := hX10.store 1 (.slice (some ⟨w9.heap.size, 0, none⟩) 1 1)
  have hO11 := hO10.fr f11 (by intro x hx; simp at hx; subst hx; exact .inr ⟨_, _, hX10, by decide, by decide⟩)
  have g11 := (g10.more (qs := [X]) (by simp)).trans f11
  have hx11 := g11.boxed hx9 (by simp; omega)
  have hI11 := g11.arr hI9 (by simp; omega)
  have hE11 := g11.arr hE9 (by simp; omega)
  have HF11 := Lib.hid (HF9.out.then g11 (by intro x hx; simp at hx; have := HB.out; subst hx; left; omega))
  have hs11 := f11.size
  have x0 := hX10.cell 0
  have x1 := hX10.cell 1
  have z1 := hX10.frozen 1
  simp only [List.getElem?_cons_zero, List.getElem?_cons_succ] at x0 x1
  simp only [List.set_cons_succ, List.set_cons_zero] at hX11
  clear ho9 hX9 hX10 hO10 f11 g10 g11 hb10 hx9 hI9 hE9 hr9 HF9 HT9 HU9
  go_wp2_with fail
  generalize (w9.alloc (.cells #[.slice a9 n9 c9] 27)).setCell ⟨X, 1, none⟩ (.slice (some ⟨w9.heap.size, 0, none⟩) 1 1) = w11 at *
  obtain ⟨S9, hS9⟩ : ∃ S9, S9 = w9.heap.size := ⟨_, rfl⟩
  rw [← hS9] at hX11 hO11 hs10 ⊢
  have HI11 := Lib.hid hI11
  have HE11 := Lib.hid hE11
  have hXl := hX11.lt
  have hSX : X < S9 := by omega
  have hS11 : S9 < w11.heap.size := by omega
  have hrx1 : Hid (∀ W, Fr [B + 2, X, S9] w11 W → Rd W xa xn xc xs) := fun W hW => HRX.out.to ((HF11.out.then hW (by intro x hx; simp at hx; have := HB.out; rcases hx with rfl | rfl | rfl <;> (left; omega))).below (Nat.le_refl _) (by simp))
  clear x0 x1 z1 hS9 hI11 hE11
  refine wp_region_steps [[], [0], [], [], [3], [4, 2], [2, 5], [1, 6], [], [8, 7]] (by kernel_rfl) (by kernel_rfl) (fun L a wx => ∃ v32 v33 v34 v35 v36 v37 v38 v39 v40, a = ⟨#[.agg #[.slice la ln lc, .slice xa xn xc], .pointer (some ⟨B, 0, none⟩), .pointer (some ⟨B + 1, 0, none⟩), .int .i64 0, .pointer (some ⟨B + 2, 0, none⟩), .pointer (some ⟨r, 0, none⟩), .func (.func 62) #[] #[.pointer (some ⟨p, 0, none⟩), .pointer (some ⟨pq, 0, none⟩)], .func (.func 71) #[] #[.pointer (some ⟨u, 0, none⟩), .pointer (some ⟨uq, 0, none⟩)], .pointer (some ⟨X, 0, none⟩), undef, .pointer (some ⟨B, 0, none⟩), .slice la ln lc, .pointer (some ⟨r, 0, none⟩), .pointer (some ⟨r, 0, none⟩), .func (.func 44) #[.pointer (some ⟨r, 0, none⟩)] #[], .func (.func 62) #[] #[.pointer (some ⟨p, 0, none⟩), .pointer (some ⟨pq, 0, none⟩)], .pointer (some ⟨r, 0, none⟩), .func (.func 51) #[.pointer (some ⟨r, 0, none⟩)] #[], .func (.func 71) #[] #[.pointer (some ⟨u, 0, none⟩), .pointer (some ⟨uq, 0, none⟩)], .func (.func 62) #[] #[.pointer (some ⟨p, 0, none⟩), .pointer (some ⟨pq, 0, none⟩)], .int .u64 ((i1 ls).1 : Int), .func (.func 62) #[] #[.pointer (some ⟨p, 0, none⟩), .pointer (some ⟨pq, 0, none⟩)], .int .u64 ((i2 ls).1 : Int), .func (.func 62) #[] #[.pointer (some ⟨p, 0, none⟩), .pointer (some ⟨pq, 0, none⟩)], .int .u64 (t : Int), .agg #[.int .u64 (t : Int), .slice none 0 0], .func (.func 62) #[] #[.pointer (some ⟨p, 0, none⟩), .pointer (some ⟨pq, 0, none⟩)], .int .u64 ((i4 ls).1 : Int), .func (.func 71) #[] #[.pointer (some ⟨u, 0, none⟩), .pointer (some ⟨uq, 0, none⟩)], .slice a9 n9 c9, .slice (some ⟨S9, 0, none⟩) 1 1, .pointer (some ⟨X, 1, none⟩), v32, v33, v34, v35, v36, v37, v38, v39, v40, undef, undef, undef, undef, undef, undef, undef, undef, undef, undef, undef, undef, undef, undef, undef, undef, undef, undef, undef, undef, undef, undef, undef], []⟩ ∧ InvTI t xa xn xc ls xs B X S9 w11 L v32 v33 v34 v35 v36 v37 v38 v39 v40 wx) ?_ ⟨?_, ?_, ?_, ?_, ?_, ?_, ?_, ?_, ?_, ?_, trivial⟩ ?_
  · refine ⟨_, _, _, _, _, _, _, _, _, rfl, ⟨?_, ?_, ?_, ?_, ?_, ?_, ?_, ?_, ?_, (Fr.refl _ _).drew, hx11, ⟨_, hX11.drew, rfl, fun _ => rfl, fun h => absurd h (by decide)⟩, fun _ => hO11.fr ((Fr.refl [] _).drew) (by simp)⟩⟩ <;> (intro h; exact absurd h (by decide))
  · rintro L a wx ⟨v32, v33, v34, v35, v36, v37, v38, v39, v40, rfl, hI⟩ hL hdep hcl K hK
    go_simp
    exact hK _ _ ⟨_, v33, v34, v35, v36, v37, v38, v39, v40, rfl, ⟨fun _ => rfl, hI.t1, hI.t2, hI.t3, hI.t4, hI.t5, hI.t6, hI.t7, hI.t8, hI.kp, hI.bx, hI.ax, hI.oc⟩⟩
  · rintro L a wx ⟨v32, v33, v34, v35, v36, v37, v38, v39, v40, rfl, hI⟩ hL hdep hcl K hK
    obtain rfl := hI.t0 (hdep 0 (by decide))
    obtain ⟨cur, hA, hl, h9, -⟩ := hI.ax
    have h9' : L 9 = false := by
      cases h : L 9 with
      | false => rfl
      | true => have := hcl 7 (by decide) (hcl 9 (by decide) h 7 (by decide)) 1 (by decide); rw [hL] at this; cases this
    have cc := hA.cell 1
    rw [h9 h9'] at cc
    simp only [List.getElem?_cons_zero, List.getElem?_cons_succ] at cc
    go_simp
    exact hK _ _ ⟨_, _, v34, v35, v36, v37, v38, v39, v40, rfl, ⟨hI.t0, fun _ => rfl, hI.t2, hI.t3, hI.t4, hI.t5, hI.t6, hI.t7, hI.t8, hI.kp, hI.bx, hI.ax, hI.oc⟩⟩
  · rintro L a wx ⟨v32, v33, v34, v35, v36, v37, v38, v39, v40, rfl, hI⟩ hL hdep hcl K hK
    go_simp
    refine (kept_rl2 _ _ _ _ wx).mono ?_
    rintro e w' ⟨p, q, rfl, h2, hb⟩
    have hf := Fr.of_below (rs := []) hb
    have hF : ∀ x ∈ ([] : List Nat), x < w11.heap.size := by simp
    have hap : ∀ x ∈ ([] : List Nat), Apart wx (B + 3) x := by simp
    exact hK _ _ ⟨v32, v33, _, v35, v36, v37, v38, v39, v40, rfl, ⟨hI.t0, hI.t1, fun _ _ => ⟨p, q, rfl, h2.base hI.kp.size⟩, hI.t3, hI.t4, fun h => fun h9 => let ⟨q', r', e, h, h2, h3⟩ := hI.t5 h h9; ⟨q', r', e, hf.rdr h (fun hx => by have := hF _ hx; omega) (fun k e => ⟨(h3 k e).2, fun hx => by have := hF _ hx; have := h3 k e; omega⟩), h2, fun k e => ⟨(h3 k e).1, Nat.lt_of_lt_of_le (h3 k e).2 hf.size⟩⟩, fun h => fun h9 => (hI.t6 h h9).fr hf hap, fun h => let ⟨a, n, c, e, h⟩ := hI.t7 h; ⟨a, n, c, e, h.fr hf hap⟩, hI.t8, (hI.kp).trans (hf.more (by simp)), hf.boxed hI.bx (by simp <;> omega), let ⟨cur, h1, h2⟩ := hI.ax; ⟨cur, hf.arr h1 (by simp <;> omega), h2⟩, fun h => (hI.oc h).fr hf hap⟩⟩
  · rintro L a wx ⟨v32, v33, v34, v35, v36, v37, v38, v39, v40, rfl, hI⟩ hL hdep hcl K hK
    go_simp
    exact hK _ _ ⟨v32, v33, v34, _, v36, v37, v38, v39, v40, rfl, ⟨hI.t0, hI.t1, hI.t2, fun _ => rfl, hI.t4, hI.t5, hI.t6, hI.t7, hI.t8, hI.kp, hI.bx, hI.ax, hI.oc⟩⟩
  · rintro L a wx ⟨v32, v33, v34, v35, v36, v37, v38, v39, v40, rfl, hI⟩ hL hdep hcl K hK
    obtain rfl := hI.t3 (hdep 3 (by decide))
    have hA := hI.kp.arr HI11.out (by simp; omega)
    have cc := hA.cell 1
    simp only [List.getElem?_cons_zero, List.getElem?_cons_succ] at cc
    go_simp
    exact hK _ _ ⟨v32, v33, v34, _, _, v37, v38, v39, v40, rfl, ⟨hI.t0, hI.t1, hI.t2, hI.t3, fun _ => rfl, hI.t5, hI.t6, hI.t7, hI.t8, hI.kp, hI.bx, hI.ax, hI.oc⟩⟩
  · rintro L a wx ⟨v32, v33, v34, v35, v36, v37, v38, v39, v40, rfl, hI⟩ hL hdep hcl K hK
    obtain rfl := hI.t4 (hdep 4 (by decide))
    have hrx := hrx1.out wx hI.kp
    go_simp
    refine (New_any xa xn xc xs wx hmx hrx).mono ?_
    rintro e w' ⟨q', r', rfl, hr', hq', lr', hb⟩
    have hf := Fr.of_below (rs := []) hb
    have hF : ∀ x ∈ ([] : List Nat), x < w11.heap.size := by simp
    have hap : ∀ x ∈ ([] : List Nat), Apart wx (B + 3) x := by simp
    have hsz := hI.kp.size
    exact hK _ _ ⟨v32, v33, v34, v35, _, _, v38, v39, v40, rfl, ⟨hI.t0, hI.t1, fun h => fun h9 => let ⟨p, q, e, h⟩ := hI.t2 h h9; ⟨p, q, e, h.fr hf (fun x hx => by have := hF x hx; have := h.bp; have := h.bq; omega)⟩, hI.t3, hI.t4, fun _ _ => ⟨q', r', rfl, hr', by omega, fun k e => ⟨by have := hq' k e; omega, (hq' k e).2⟩⟩, fun h => fun h9 => (hI.t6 h h9).fr hf hap, fun h => let ⟨a, n, c, e, h⟩ := hI.t7 h; ⟨a, n, c, e, h.fr hf hap⟩, hI.t8, (hI.kp).trans (hf.more (by simp)), hf.boxed hI.bx (by simp <;> omega), let ⟨cur, h1, h2⟩ := hI.ax; ⟨cur, hf.arr h1 (by simp <;> omega), h2⟩, fun h => (hI.oc h).fr hf hap⟩⟩
  · rintro L a wx ⟨v32, v33, v34, v35, v36, v37, v38, v39, v40, rfl, hI⟩ hL hdep hcl K hK
    obtain ⟨p, q, rfl, h2⟩ := hI.t2 (hdep 2 (by decide)) hL
    obtain ⟨q', r', rfl, hr', hr2, hq'⟩ := hI.t5 (hdep 5 (by decide)) hL
    have hb0 := hI.bx
    rw [if_neg (by rw [hL]; decide)] at hb0
    have hb1 := hb0.lt
    have hsz := hI.kp.size
    go_simp
    refine (keptRL_any (i5 ls).2.1 q' r' xs p q (B + 2) wx (by omega) h2.cp h2.cq h2.lp h2.lq hb0 hr' (by intro e; have := hq' _ e; omega) (fun k e => (hq' k e).2)).mono ?_
    rintro e w' ⟨v, rfl, hO, hx2, -, hf⟩
    rw [show keptT (i5 ls).2.1 [] xs (takeListF xs) = i6 ls xs from rfl] at hO hx2
    have hap : ∀ x ∈ [r', B + 2], Apart wx (B + 3) x := by
      intro x hx
      simp at hx
      rcases hx with rfl | rfl
      · exact hr'.apart _
      · exact .inl (by omega)
    exact hK _ _ ⟨v32, v33, _, v35, v36, _, _, v39, v40, rfl, ⟨hI.t0, hI.t1, fun _ h => absurd h (by simp [stepL]), hI.t3, hI.t4, fun _ h => absurd h (by simp [stepL]), fun _ _ => hO.mono (by omega), fun h => let ⟨a, n, c, e, h⟩ := hI.t7 h; ⟨a, n, c, e, h.fr hf hap⟩, hI.t8, hI.kp.then hf (by intro x hx; simp at hx; rcases hx with rfl | rfl; left; omega; right; simp), (by simpa [stepL] using hx2), let ⟨cur, h1, h2⟩ := hI.ax; ⟨cur, hf.arr h1 (by simp <;> omega), h2⟩, fun h => (hI.oc h).fr hf hap⟩⟩
  · rintro L a wx ⟨v32, v33, v34, v35, v36, v37, v38, v39, v40, rfl, hI⟩ hL hdep hcl K hK
    obtain rfl := hI.t1 (hdep 1 (by decide))
    have hsz := hI.kp.size
    refine ow_appendG _ _ rfl (B + 3) (.slice (some ⟨S9, 0, none⟩) 1 1) [(i5 ls).1] (hI.oc hL) rfl _ (i6 ls xs).1 (hI.t6 (hdep 6 (by decide)) hL) rfl (by have := h6l.out; simp; omega) (by omega) ?_
    intro v' w' hO hg
    obtain ⟨a', n', c', rfl, -⟩ := hO.chn
    have hf : Fr [S9] wx w' := Fr.of_grown (r := S9) hg (by simp)
    have hF : ∀ x ∈ [S9], x < w11.heap.size := by intro x hx; simp at hx; omega
    have hap : ∀ x ∈ ([] : List Nat), Apart wx (B + 3) x := by simp
    exact hK _ _ ⟨v32, _, v34, v35, v36, v37, v38, _, v40, rfl, ⟨hI.t0, hI.t1, fun h => fun h9 => let ⟨p, q, e, h⟩ := hI.t2 h h9; ⟨p, q, e, h.fr hf (fun x hx => by have := hF x hx; have := h.bp; have := h.bq; omega)⟩, hI.t3, hI.t4, fun h => fun h9 => let ⟨q', r', e, h, h2, h3⟩ := hI.t5 h h9; ⟨q', r', e, hf.rdr h (fun hx => by have := hF _ hx; omega) (fun k e => ⟨(h3 k e).2, fun hx => by have := hF _ hx; have := h3 k e; omega⟩), h2, fun k e => ⟨(h3 k e).1, Nat.lt_of_lt_of_le (h3 k e).2 hf.size⟩⟩, fun _ h => absurd h (by simp [stepL]), fun _ => ⟨a', n', c', rfl, hO⟩, hI.t8, (hI.kp).trans (hf.more (by simp)), hf.boxed hI.bx (by simp <;> omega), (let ⟨cur, h1, h2, h3, h4⟩ := hI.ax; ⟨cur, hf.arr h1 (by simp; omega), h2, h3, fun h => absurd (hcl 9 (by decide) h 7 (by decide)) (by rw [hL]; decide)⟩), fun h => absurd h (by simp [stepL])⟩⟩
  · rintro L a wx ⟨v32, v33, v34, v35, v36, v37, v38, v39, v40, rfl, hI⟩ hL hdep hcl K hK
    go_simp
    exact hK _ _ ⟨v32, v33, v34, v35, v36, v37, v38, v39, _, rfl, ⟨hI.t0, hI.t1, hI.t2, hI.t3, hI.t4, hI.t5, hI.t6, hI.t7, fun _ => rfl, hI.kp, hI.bx, hI.ax, hI.oc⟩⟩
  · rintro L a wx ⟨v32, v33, v34, v35, v36, v37, v38, v39, v40, rfl, hI⟩ hL hdep hcl K hK
    obtain rfl := hI.t8 (hdep 8 (by decide))
    obtain ⟨a', n', c', rfl, hO⟩ := hI.t7 (hdep 7 (by decide))
    obtain ⟨cur, hA, hl, h9, -⟩ := hI.ax
    obtain rfl := h9 hL
    have cc := hA.cell 1
    have cz := hA.frozen 1
    have hA' := hA.store 1 (.slice a' n' c')
    simp only [List.set_cons_succ, List.set_cons_zero, List.getElem?_cons_zero, List.getElem?_cons_succ] at hA' cc
    have hf : Fr [X] wx (wx.setCell ⟨X, 1, none⟩ (.slice a' n' c')) := (Fr.refl _ _).set (by simp) _
    have hF : ∀ x ∈ [X], x < w11.heap.size := by intro x hx; simp at hx; omega
    have hap : ∀ x ∈ [X], Apart wx (B + 3) x := by intro x hx; simp at hx; subst hx; exact .inr ⟨_, _, hA, by decide, by decide⟩
    go_simp
    exact hK _ _ ⟨v32, v33, v34, v35, v36, v37, v38, _, _, rfl, ⟨hI.t0, hI.t1, fun h => fun h9 => let ⟨p, q, e, h⟩ := hI.t2 h h9; ⟨p, q, e, h.fr hf (fun x hx => by have := hF x hx; have := h.bp; have := h.bq; omega)⟩, hI.t3, hI.t4, fun h => fun h9 => let ⟨q', r', e, h, h2, h3⟩ := hI.t5 h h9; ⟨q', r', e, hf.rdr h (fun hx => by have := hF _ hx; omega) (fun k e => ⟨(h3 k e).2, fun hx => by have := hF _ hx; have := h3 k e; omega⟩), h2, fun k e => ⟨(h3 k e).1, Nat.lt_of_lt_of_le (h3 k e).2 hf.size⟩⟩, fun h => fun h9 => (hI.t6 h h9).fr hf hap, fun _ => ⟨a', n', c', rfl, hO.fr hf hap⟩, hI.t8, (hI.kp).trans (hf.more (by simp)), hf.boxed hI.bx (by simp <;> omega), ⟨_, hA', rfl, fun h => absurd h (by simp [stepL]), fun _ => rfl⟩, fun h => (hI.oc h).fr hf hap⟩⟩
  · rintro a w12 ⟨v32, v33, v34, v35, v36, v37, v38, v39, v40, rfl, hI⟩
    obtain ⟨cur, hA12, hl12, -, h9⟩ := hI.ax
    obtain ⟨ax, nx, cx, rfl, hO12⟩ := hI.t7 rfl
    obtain rfl := h9 rfl
    have hkp := hI.kp
    have hx12 : Boxed w12 (B + 2) 28 (.int .i64 (i6 ls xs).2.1) := hI.bx
    obtain rfl := hI.t0 rfl
    obtain rfl := hI.t1 rfl
    obtain rfl := hI.t3 rfl
    obtain rfl := hI.t4 rfl
    obtain rfl := hI.t8 rfl
    clear hI h9
    have hs12 := hkp.size
    have HF12 := Lib.hid (HF11.out.then hkp (by intro x hx; simp at hx; have := HB.out; rcases hx with rfl | rfl | rfl <;> (left; omega)))
    have HI12 := Lib.hid (hkp.arr HI11.out (by simp; omega))
    have HE12 := Lib.hid (hkp.arr HE11.out (by simp; omega))
    have HX12 := Lib.hid hA12
    have HO12 := Lib.hid hO12
    have hnx : nx ≤ 5 := by have := hO12.len; have := hCl.out; omega
    have HI7 : Hid (keptI (i6 ls xs).2.1 t (iC ls xs) = i7 ls xs) := by show _ = _; rw [HTQ.out]; rfl
    clear hA12 hO12 hx11 hX11 hO11 hkp
    go_wp2_with fail
    refine wp_region_steps [[], [], [0, 1], [], [3, 2]] (by kernel_rfl) (by kernel_rfl) (fun L a wx => ∃ v41 v42 v43 v9, a = ⟨#[.agg #[.slice la ln lc, .slice xa xn xc], .pointer (some ⟨B, 0, none⟩), .pointer (some ⟨B + 1, 0, none⟩), .int .i64 0, .pointer (some ⟨B + 2, 0, none⟩), .pointer (some ⟨r, 0, none⟩), .func (.func 62) #[] #[.pointer (some ⟨p, 0, none⟩), .pointer (some ⟨pq, 0, none⟩)], .func (.func 71) #[] #[.pointer (some ⟨u, 0, none⟩), .pointer (some ⟨uq, 0, none⟩)], .pointer (some ⟨X, 0, none⟩), v9, .pointer (some ⟨B, 0, none⟩), .slice la ln lc, .pointer (some ⟨r, 0, none⟩), .pointer (some ⟨r, 0, none⟩), .func (.func 44) #[.pointer (some ⟨r, 0, none⟩)] #[], .func (.func 62) #[] #[.pointer (some ⟨p, 0, none⟩), .pointer (some ⟨pq, 0, none⟩)], .pointer (some ⟨r, 0, none⟩), .func (.func 51) #[.pointer (some ⟨r, 0, none⟩)] #[], .func (.func 71) #[] #[.pointer (some ⟨u, 0, none⟩), .pointer (some ⟨uq, 0, none⟩)], .func (.func 62) #[] #[.pointer (some ⟨p, 0, none⟩), .pointer (some ⟨pq, 0, none⟩)], .int .u64 ((i1 ls).1 : Int), .func (.func 62) #[] #[.pointer (some ⟨p, 0, none⟩), .pointer (some ⟨pq, 0, none⟩)], .int .u64 ((i2 ls).1 : Int), .func (.func 62) #[] #[.pointer (some ⟨p, 0, none⟩), .pointer (some ⟨pq, 0, none⟩)], .int .u64 (t : Int), .agg #[.int .u64 (t : Int), .slice none 0 0], .func (.func 62) #[] #[.pointer (some ⟨p, 0, none⟩), .pointer (some ⟨pq, 0, none⟩)], .int .u64 ((i4 ls).1 : Int), .func (.func 71) #[] #[.pointer (some ⟨u, 0, none⟩), .pointer (some ⟨uq, 0, none⟩)], .slice a9 n9 c9, .slice (some ⟨S9, 0, none⟩) 1 1, .pointer (some ⟨X, 1, none⟩), .pointer (some ⟨X, 1, none⟩), .slice (some ⟨S9, 0, none⟩) 1 1, v34, .pointer (some ⟨B, 1, none⟩), .slice xa xn xc, v37, v38, .slice ax nx cx, .pointer (some ⟨X, 1, none⟩), v41, v42, v43, undef, undef, undef, undef, undef, undef, undef, undef, undef, undef, undef, undef, undef, undef, undef, undef, undef, undef, undef, undef], []⟩ ∧ InvTJ t ax nx cx ls xs B X w12 L v41 v42 v43 v9 wx) ?_ ⟨?_, ?_, ?_, ?_, ?_, trivial⟩ ?_
    · refine ⟨_, _, _, _, rfl, ⟨?_, ?_, ?_, ?_, (Fr.refl _ _).drew, hx12⟩⟩ <;> (intro h; exact absurd h (by decide))
    · rintro L a wx ⟨v41, v42, v43, v9, rfl, hI⟩ hL hdep hcl K hK
      go_simp
      refine (kept_ei _ _ wx).mono ?_
      rintro e w' ⟨p, q, rfl, h2, hb⟩
      have hf := Fr.of_below (rs := []) hb
      have hF : ∀ x ∈ ([] : List Nat), x < w11.heap.size := by simp
      have hap : ∀ x ∈ ([] : List Nat), Apart wx w12.heap.size x := by simp
      exact hK _ _ ⟨_, v42, v43, v9, rfl, ⟨fun _ _ => ⟨p, q, rfl, h2.base hI.kp.size⟩, hI.t1, fun h => let ⟨a1, n1, c1, a2, n2, c2, e, h1, h2⟩ := hI.t2 h; ⟨a1, n1, c1, a2, n2, c2, e, h1.fr hf hap, h2.fr hf hap⟩, fun h => let ⟨Y, cur, e, h1, h2, h3, h4⟩ := hI.t3 h; ⟨Y, cur, e, h1, hf.arr h2 (fun hx => by have := hF _ hx; omega), h3, fun h => let ⟨a1, n1, c1, a2, n2, c2, e2, k1, k2⟩ := h4 h; ⟨a1, n1, c1, a2, n2, c2, e2, k1.fr hf hap, k2.fr hf hap⟩⟩, (hI.kp).trans (hf.more (by simp)), hf.boxed hI.bx (by simp <;> omega)⟩⟩
    · rintro L a wx ⟨v41, v42, v43, v9, rfl, hI⟩ hL hdep hcl K hK
      have hA := hI.kp.arr HX12.out (by simp; omega)
      have c0 := hA.cell 0
      have c1 := hA.cell 1
      simp only [List.getElem?_cons_zero, List.getElem?_cons_succ] at c0 c1
      go_simp
      exact hK _ _ ⟨v41, _, v43, v9, rfl, ⟨hI.t0, fun _ => rfl, hI.t2, hI.t3, hI.kp, hI.bx⟩⟩
    · rintro L a wx ⟨v41, v42, v43, v9, rfl, hI⟩ hL hdep hcl K hK
      obtain rfl := hI.t1 (hdep 1 (by decide))
      obtain ⟨p, q, rfl, h2⟩ := hI.t0 (hdep 0 (by decide)) hL
      have hb0 := hI.bx
      rw [if_neg (by rw [hL]; decide)] at hb0
      obtain ⟨a', n', c', e', hch⟩ := (HO12.out.fr hI.kp (by intro x hx; simp at hx; subst hx; exact .inl (by omega))).chn
      cases e'
      have hsz := hI.kp.size
      go_simp
      refine (keptEI_any (i6 ls xs).2.1 t ax nx cx (iC ls xs) p q (B + 2) wx (by omega) ht hch h2.cp h2.cq hb0 h2.lp h2.lq).mono ?_
      rintro e w' ⟨a1, n1, c1, a2, n2, c2, rfl, o1, o2, hx2, hg⟩
      rw [show keptI (i6 ls xs).2.1 t (iC ls xs) = i7 ls xs from HI7.out] at o1 o2 hx2
      have hf : Fr [B + 2] wx w' := Fr.of_grown hg (by simp)
      have hF : ∀ x ∈ [B + 2], x < w12.heap.size := by intro x hx; simp at hx; omega
      have hap : ∀ x ∈ [B + 2], Apart wx w12.heap.size x := by intro x hx; simp at hx; subst hx; exact .inl (by omega)
      exact hK _ _ ⟨_, _, _, v9, rfl, ⟨fun _ h => absurd h (by simp [stepL]), hI.t1, fun _ => ⟨a1, n1, c1, a2, n2, c2, rfl, o1.mono hsz, o2.mono hsz⟩, fun h => let ⟨Y, cur, e, h1, h2, h3, h4⟩ := hI.t3 h; ⟨Y, cur, e, h1, hf.arr h2 (fun hx => by have := hF _ hx; omega), h3, fun h => let ⟨a1, n1, c1, a2, n2, c2, e2, k1, k2⟩ := h4 h; ⟨a1, n1, c1, a2, n2, c2, e2, k1.fr hf hap, k2.fr hf hap⟩⟩, (hI.kp).trans (hf.more (by simp)), (by simpa [stepL] using hx2)⟩⟩
    · rintro L a wx ⟨v41, v42, v43, v9, rfl, hI⟩ hL hdep hcl K hK
      refine ow_alloc 34 rfl zI 2 infozI ?_
      intro w' hA hb hs
      have hf := Fr.of_below (rs := []) hb
      have hF : ∀ x ∈ ([] : List Nat), x < w11.heap.size := by simp
      have hap : ∀ x ∈ ([] : List Nat), Apart wx w12.heap.size x := by simp
      exact hK _ _ ⟨v41, v42, v43, _, rfl, ⟨fun h => fun h9 => let ⟨p, q, e, h⟩ := hI.t0 h h9; ⟨p, q, e, h.fr hf (fun x hx => by have := hF x hx; have := h.bp; have := h.bq; omega)⟩, hI.t1, fun h => let ⟨a1, n1, c1, a2, n2, c2, e, h1, h2⟩ := hI.t2 h; ⟨a1, n1, c1, a2, n2, c2, e, h1.fr hf hap, h2.fr hf hap⟩, fun _ => ⟨_, _, rfl, hI.kp.size, hA, rfl, fun h => absurd (hcl 4 (by decide) h 3 (by decide)) (by rw [hL]; decide)⟩, (hI.kp).trans (hf.more (by simp)), hf.boxed hI.bx (by simp <;> omega)⟩⟩
    · rintro L a wx ⟨v41, v42, v43, v9, rfl, hI⟩ hL hdep hcl K hK
      obtain ⟨Y, cur, rfl, hY, hA, hl, -⟩ := hI.t3 (hdep 3 (by decide))
      obtain ⟨a1, n1, c1, a2, n2, c2, rfl, h1, h2⟩ := hI.t2 (hdep 2 (by decide))
      refine ow_store 34 _ _ rfl Y 0 rfl [.slice a1 n1 c1, .slice a2 n2 c2] rfl 34 cur hA sizeI (by rw [hl]; simp) (by simp [Value.oneCell']) ?_
      intro w' hA' hg hs
      rw [whole_store _ _ (by rw [hl]; rfl)] at hA'
      have hf : Fr [Y] wx w' := Fr.of_grown hg (by simp)
      have hap : ∀ x ∈ [Y], Apart wx w12.heap.size x := by intro x hx; simp at hx; subst hx; exact .inr ⟨_, _, hA, by decide, by decide⟩
      have o1 := h1.fr hf hap
      have o2 := h2.fr hf hap
      exact hK _ _ ⟨v41, v42, _, _, rfl, ⟨fun _ h => absurd (hdep 2 (by decide)) (by rw [show L 2 = false from h]; decide), hI.t1, fun _ => ⟨a1, n1, c1, a2, n2, c2, rfl, o1, o2⟩, fun _ => ⟨Y, _, rfl, hY, hA', rfl, fun _ => ⟨a1, n1, c1, a2, n2, c2, rfl, o1, o2⟩⟩, hI.kp.then hf (by intro x hx; simp at hx; subst hx; exact .inl hY), hf.boxed hI.bx (by simp; omega)⟩⟩
    · rintro a w13 ⟨v41, v42, v43, v9, rfl, hI⟩
      obtain ⟨Y, cur, rfl, hY, hA13, -, h4⟩ := hI.t3 rfl
      obtain ⟨a1, n1, c1, a2, n2, c2, rfl, o1, o2⟩ := h4 rfl
      have hkp := hI.kp
      have hx13 : Boxed w13 (B + 2) 28 (.int .i64 (i7 ls xs).2.2) := hI.bx
      clear hI h4 hx12
      have hI13 := hkp.arr HI12.out (by simp <;> omega)
      have hE13 := hkp.arr HE12.out (by simp <;> omega)
      have hX13 := hkp.arr HX12.out (by simp <;> omega)
      have HO13 := Lib.hid (HO12.out.fr hkp (by intro x hx; simp at hx; subst hx; exact .inl (by omega)))
      have HF13 := Lib.hid (HF12.out.then hkp (by intro x hx; simp at hx; have := HB.out; subst hx; left; omega))
      have hE1 := Equal_any a1 la n1 c1 ln lc _ _ w13 o1.rd.toRd (HRL.out.to (HF13.out.below (Nat.le_refl _) (by simp)))
      have hE2 := Equal_any a2 xa n2 c2 xn xc _ _ w13 o2.rd.toRd (HRX.out.to (HF13.out.below (Nat.le_refl _) (by simp)))
      have cF := hx13.cell
      have d0 := hA13.cell 0
      have d1 := hA13.cell 1
      have y0 := hI13.cell 0
      have y1 := hI13.cell 1
      have x0 := hX13.cell 0
      have x1 := hX13.cell 1
      have z0 := hE13.cell 0
      have z1 := hE13.cell 1
      have f0 := hE13.frozen 0
      have f1 := hE13.frozen 1
      simp only [List.getElem?_cons_zero, List.getElem?_cons_succ] at d0 d1 y0 y1 x0 x1 z0 z1
      have HE13 := Lib.hid hE13
      clear hx13 hI13 hE13 hX13 hA13 o1 o2 hkp
      rcases hcase.out with ⟨q1, q2, q3, q4⟩ | ⟨q1, q4⟩
      · rw [q1] at cF
        rw [q2, decide_eq_true rfl] at hE1
        rw [q3, decide_eq_true rfl] at hE2
        rw [← HTQ.out] at q4
        subst q4
        clear q1 q2 q3
        have H1 := Lib.hid hE1
        have H2 := Lib.hid hE2
        clear hE1 hE2
        go_wp2_with fail
        refine H1.out.mono ?_
        rintro e w1 ⟨rfl, rfl⟩
        go_wp2_with fail
        refine H2.out.mono ?_
        rintro e w1 ⟨rfl, rfl⟩
        go_wp2_with fail
        have g := setCells_grown (B + 1) [.int .u64 (t : Int), .slice ax nx cx] w13 0
        have hR := (HE13.out.store 0 (.int .u64 (t : Int))).store 1 (.slice ax nx cx)
        refine end_cell2 rfl (B + 1) 25 [.int .u64 (t : Int), .slice ax nx cx] _ _ rfl hR Try.underlying25 rfl sizeE rfl rfl ?_
        refine ⟨ax, nx, cx, rfl, ?_, ?_⟩
        · exact (HO13.out.fr (Fr.of_grown g (rs := [B + 1]) (by simp)) (by intro x hx; simp at hx; subst hx; exact .inl (by omega))).mono (by have := HB.out; omega)
        · have := HB.out
          exact (HF13.out.then (Fr.of_grown g (rs := [B + 1]) (by simp)) (by intro x hx; simp at hx; subst hx; left; omega)).below (Nat.le_refl _) (by simp)
      · subst q4
        have hend : ∀ W, Arr W (B + 1) 25 [.int .u64 0, .slice none 0 0] → Fr [B + 1] w13 W → TRes w ((0, []), 5) (.returned (.tuple #[.agg #[.int .u64 0, .slice none 0 0], .int .i64 5])) W := by
          intro W hW hg
          have := HB.out
          exact ⟨none, 0, 0, rfl, OwnC.nil _ _, (HF13.out.then hg (by intro x hx; simp at hx; subst hx; left; omega)).below (Nat.le_refl _) (by simp)⟩
        have g := setCells_grown (B + 1) [.int .u64 0, .slice none 0 0] w13 0
        have hR := (HE13.out.store 0 (.int .u64 0)).store 1 (.slice none 0 0)
        have hfin := Lib.hid (hend _ hR (Fr.of_grown g (by simp)))
        by_cases h1 : (i7 ls xs).2.2 = 0
        · rw [h1] at cF
          by_cases h2 : (i7 ls xs).1 = ls
          · have h3 : (i7 ls xs).2.1 ≠ xs := q1.elim (fun h => absurd h1 h) (fun h => h.elim (fun h => absurd h2 h) id)
            rw [h2, decide_eq_true rfl] at hE1
            rw [decide_eq_false h3] at hE2
            have H1 := Lib.hid hE1
            have H2 := Lib.hid hE2
            clear hE1 hE2 q1 h1 h2 h3 hend
            go_wp2_with fail
            refine H1.out.mono ?_
            rintro e w1 ⟨rfl, rfl⟩
            go_wp2_with fail
            refine H2.out.mono ?_
            rintro e w1 ⟨rfl, rfl⟩
            go_wp2_with fail
            refine end_cell2 rfl (B + 1) 25 [.int .u64 0, .slice none 0 0] _ _ rfl hR Try.underlying25 rfl sizeE rfl rfl ?_
            exact hfin.out
          · rw [decide_eq_false h2] at hE1
            have H1 := Lib.hid hE1
            clear hE1 hE2 q1 h1 h2 hend
            go_wp2_with fail
            refine H1.out.mono ?_
            rintro e w1 ⟨rfl, rfl⟩
            go_wp2_with fail
            refine end_cell2 rfl (B + 1) 25 [.int .u64 0, .slice none 0 0] _ _ rfl hR Try.underlying25 rfl sizeE rfl rfl ?_
            exact hfin.out
        · have hq : ((i7 ls xs).2.2 != 0) = true := by simpa using h1
          clear q1 h1 hE1 hE2 hend
          generalize (i7 ls xs).2.2 = e7 at *
          go_wp2_with fail
          refine end_cell2 rfl (B + 1) 25 [.int .u64 0, .slice none 0 0] _ _ rfl hR Try.underlying25 rfl sizeE rfl rfl ?_
          exact hfin.out
end Go.Proofs.Ytcohcjhbkiangaa
