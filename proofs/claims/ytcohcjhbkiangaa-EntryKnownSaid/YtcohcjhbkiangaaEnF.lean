/-
  What is made of an entry: its leaf, what is signed for it, its extra bytes, its record: a contract for each call. Conditions: those in each statement.
-/
import Derived.Test.YtcohcjhbkiangaaEnE
namespace Go.Proofs.Ytcohcjhbkiangaa
open Go.RowKit

def extraR (xss : List (List UInt8)) : List UInt8 × Int := if mayB xss = true then (listF (xss.drop 1), 0) else ([], 1)
def recF (t : Nat) (xss : List (List UInt8)) : List UInt8 := digits t 8 ++ listF xss
def recR (t : Nat) (xss : List (List UInt8)) : List UInt8 × Int := if mayB xss = true then (recF t xss, 0) else ([], 1)

theorem Leaf_any (t : Nat) (a : Option Addr) (n cap : Nat) (xss : List (List UInt8)) (w : World) (hm : n ≤ 70368744177664) (ht : t ≤ 18446744073709551615) (h : Chn w a n cap xss) :
    Calls Try.prog 10 #[entV t a n cap] w (BRes w (stampR t xss)) := by
  have hb0 := hal w (.cells #[.int .u64 (t : Int), .slice a n cap] 25)
  have H := timestamped_any t a n cap xss _ hm ht (h.to hb0)
  generalize stampR t xss = R at *
  go_enter Try.func10, Try.ntmps10
  go_wp2_with (go_at_call 33; refine H.mono ?_; rintro e w1 ⟨v, rfl, ho, hb1⟩)
  go_ret2
  exact ⟨_, rfl, ho.mono hb0.size, hb0.trans (hb1.mono hb0.size)⟩
theorem SCT_any (t : Nat) (a : Option Addr) (n cap : Nat) (xss : List (List UInt8)) (w : World) (hm : n ≤ 70368744177664) (ht : t ≤ 18446744073709551615) (h : Chn w a n cap xss) :
    Calls Try.prog 16 #[entV t a n cap] w (BRes w (stampR t xss)) := by
  have hb0 := hal w (.cells #[.int .u64 (t : Int), .slice a n cap] 25)
  have H := timestamped_any t a n cap xss _ hm ht (h.to hb0)
  generalize stampR t xss = R at *
  go_enter Try.func16, Try.ntmps16
  go_wp2_with (go_at_call 33; refine H.mono ?_; rintro e w1 ⟨v, rfl, ho, hb1⟩)
  go_ret2
  exact ⟨_, rfl, ho.mono hb0.size, hb0.trans (hb1.mono hb0.size)⟩

theorem cat_bound {xss : List (List UInt8)} (h4 : xss.length ≤ 4) (hall : ∀ x ∈ xss, x.length ≤ 512) : (catF xss).length ≤ 2060 := by
  have key : ∀ (l : List (List UInt8)), (∀ x ∈ l, x.length ≤ 512) → (catF l).length ≤ 515 * l.length := by
    intro l
    induction l with
    | nil => intro _; simp [catF]
    | cons x r ih =>
      intro hx
      have h1 := ih (fun y hy => hx y (List.mem_cons_of_mem _ hy))
      have h2 := hx x (List.mem_cons_self ..)
      simp only [catF, List.map_cons, List.flatten_cons, List.length_append, vec3_len, List.length_cons] at *
      omega
  have := key xss hall
  omega
theorem list_len (xss : List (List UInt8)) : (listF xss).length = (catF xss).length + 3 := vec3_len _

/-- a chain without its first certificate -/
theorem Chn.tail1 {w : World} {b off n cap : Nat} {xss : List (List UInt8)} (h : Chn w (some ⟨b, off, none⟩) n cap xss) (hn : 1 ≤ n) : Chn w (some ⟨b, off + 1, none⟩) (n - 1) (cap - 1) (xss.drop 1) := by
  have hl := h.len
  have hle := h.le
  refine ⟨by simp; omega, by omega, by (intro e; cases e), fun h0 => ?_⟩
  obtain ⟨b', off', e, h2, h3⟩ := h.mem (by omega)
  cases e
  refine ⟨b, off + 1, rfl, h2, fun j hj => ?_⟩
  obtain ⟨aj, nj, cj, hc, hr⟩ := h3 (1 + j) (by omega)
  refine ⟨aj, nj, cj, by rw [← hc]; congr 2; omega, ?_⟩
  have e : (xss.drop 1).getD j [] = xss.getD (1 + j) [] := by simp [List.getD, Nat.add_comm]
  rw [e]
  exact hr
theorem Chn.one0 {w : World} {a : Option Addr} {xss : List (List UInt8)} (h : Chn w a 1 1 xss) : Chn w a 0 0 (xss.drop 1) := by
  have hl := h.len
  refine ⟨by simp; omega, Nat.le_refl _, fun _ => rfl, fun h0 => by omega⟩

set_option maxRecDepth 100000 in
theorem Extra_any (t : Nat) (a : Option Addr) (n cap : Nat) (xss : List (List UInt8)) (w : World) (hm : n ≤ 70368744177664) (h : Chn w a n cap xss) :
    Calls Try.prog 12 #[entV t a n cap] w (BRes w (extraR xss)) := by
  have hb0 := hal w (.cells #[.int .u64 (t : Int), .slice a n cap] 25)
  have H := May_any t a n cap xss _ hm (h.to hb0)
  unfold extraR
  cases hmay : mayB xss with
  | false =>
    rw [hmay] at H
    go_enter Try.func12, Try.ntmps12
    go_wp2_with (go_at_call 21; refine H.mono ?_; rintro e w1 ⟨rfl, hb1⟩)
    go_ret2
    exact ⟨_, rfl, Own.nil _ _ _, hb0.trans (hb1.mono hb0.size)⟩
  | true =>
    rw [hmay] at H
    obtain ⟨h1, h4, hall⟩ := mayB_parts hmay
    have hl := h.len
    have hcap := h.le
    have hn0 : 1 ≤ n := by omega
    obtain ⟨b, off, rfl, hb, -⟩ := h.mem (by omega)
    simp only [if_true]
    have hcat : Hid ((catF (xss.drop 1)).length ≤ 2060) := cat_bound (by simp; omega) (fun x hx => (hall x (List.mem_of_mem_drop hx)).2)
    have hfl : Hid ([listF (xss.drop 1)].flatten.length ≤ 1048576) := by
      show _ ≤ _
      have := hcat.out
      simp only [List.flatten_cons, List.flatten_nil, List.append_nil, list_len]
      omega
    have hS : Hid ([listF (xss.drop 1)].flatten = listF (xss.drop 1)) := by show _ = _; simp
    have hn4 : n ≤ 4 := by omega
    have hbs := hb0.size
    by_cases hcm : cap = 1
    · obtain rfl : n = 1 := by omega
      subst hcm
      have ht := Lib.hid h.one0
      clear hmay hall h hl h1 h4 hcap
      go_enter Try.func12, Try.ntmps12
      go_wp2_with fail
      refine H.mono ?_
      rintro e w1 ⟨rfl, hb1⟩
      have hE1 : w1.cell? ⟨w.heap.size, 1, none⟩ = some (.slice (some ⟨b, off, none⟩) 1 1) := (hb1.cell (p := ⟨w.heap.size, 1, none⟩) (by simp)).trans (by simp)
      have hb01 := hb0.trans (hb1.mono hb0.size)
      go_wp2_with fail
      refine (listP_any _ 0 0 (xss.drop 1) _ (by omega) (Nat.le_trans hcat.out (by decide)) (ht.out.to hb01)).mono ?_
      rintro e w2 ⟨f, rfl, hp, hb2⟩
      obtain ⟨k, c, rfl, hp'⟩ := hp
      have hpp := parts_lit (T := 67) [_] [listF (xss.drop 1)] w2 ⟨⟨k, c, rfl, hp'⟩, trivial⟩
      have hb02 := hb01.trans (hb2.mono hb01.size)
      have hb03 := hb02.trans ((hal w2 (.cells #[.func (.func k) #[] c] 67)).mono hb02.size)
      go_wp2_with fail
      refine (lay_all _ _ _ _ _ (by simp) hfl.out hpp).mono ?_
      rintro e w3 ⟨v, rfl, ho, hb3⟩
      go_wp2
      go_ret2
      exact ⟨_, rfl, hS.out ▸ ho.mono hb03.size, hb03.trans (hb3.mono hb03.size)⟩
    · have ht := Lib.hid (h.tail1 hn0)
      have hcc : ((cap : Int) == 1) = false := by simp; omega
      clear hmay hall h hl h1 h4
      go_enter Try.func12, Try.ntmps12
      go_wp2_with fail
      refine H.mono ?_
      rintro e w1 ⟨rfl, hb1⟩
      have hE1 : w1.cell? ⟨w.heap.size, 1, none⟩ = some (.slice (some ⟨b, off, none⟩) n cap) := (hb1.cell (p := ⟨w.heap.size, 1, none⟩) (by simp)).trans (by simp)
      have hb01 := hb0.trans (hb1.mono hb0.size)
      go_wp2_with fail
      refine (listP_any _ (n - 1) (cap - 1) (xss.drop 1) _ (by omega) (Nat.le_trans hcat.out (by decide)) (ht.out.to hb01)).mono ?_
      rintro e w2 ⟨f, rfl, hp, hb2⟩
      obtain ⟨k, c, rfl, hp'⟩ := hp
      have hpp := parts_lit (T := 67) [_] [listF (xss.drop 1)] w2 ⟨⟨k, c, rfl, hp'⟩, trivial⟩
      have hb02 := hb01.trans (hb2.mono hb01.size)
      have hb03 := hb02.trans ((hal w2 (.cells #[.func (.func k) #[] c] 67)).mono hb02.size)
      go_wp2_with fail
      refine (lay_all _ _ _ _ _ (by simp) hfl.out hpp).mono ?_
      rintro e w3 ⟨v, rfl, ho, hb3⟩
      go_wp2
      go_ret2
      exact ⟨_, rfl, hS.out ▸ ho.mono hb03.size, hb03.trans (hb3.mono hb03.size)⟩

structure InvRecord (t : Nat) (xss : List (List UInt8)) (b off n cap B : Nat) (w1 : World) (L : Nat → Bool) (v7 v8 v9 v10 v11 v12 v13 v14 v15 v16 v2 v3 : Value) (wx : World) : Prop where
  t0 : L 0 = true → v7 = .pointer (some ⟨B, 0, none⟩)
  t1 : L 1 = true → v8 = .int .u64 (t : Int)
  t2 : L 2 = true → PartD wx v9 (digits t 8)
  t3 : L 3 = true → v10 = .pointer (some ⟨B, 1, none⟩)
  t4 : L 4 = true → v11 = .slice (some ⟨b, off, none⟩) n cap
  t5 : L 5 = true → PartD wx v12 (listF xss)
  t6 : L 6 = true → ∃ a' c', v13 = .slice a' 2 c' ∧ Parts wx a' 2 c' [digits t 8, listF xss]
  t7 : L 7 = true → ∃ v, v14 = .tuple #[v, .int .i64 0] ∧ Own wx w1.heap.size 5 v ([digits t 8, listF xss].flatten)
  t8 : L 8 = true → Own wx w1.heap.size 5 v15 ([digits t 8, listF xss].flatten)
  t9 : L 9 = true → v16 = .int .i64 0
  t10 : L 10 = true → Own wx w1.heap.size 5 v2 ([digits t 8, listF xss].flatten)
  t11 : L 11 = true → v3 = .int .i64 0
  bw : Below w1.heap.size w1 wx

set_option maxRecDepth 100000 in
set_option maxHeartbeats 1000000 in
theorem Record_any (t : Nat) (a : Option Addr) (n cap : Nat) (xss : List (List UInt8)) (w : World) (hm : n ≤ 70368744177664) (ht : t ≤ 18446744073709551615) (h : Chn w a n cap xss) :
    Calls Try.prog 14 #[entV t a n cap] w (BRes w (recR t xss)) := by
  have hb0 := hal w (.cells #[.int .u64 (t : Int), .slice a n cap] 25)
  have H := May_any t a n cap xss _ hm (h.to hb0)
  unfold recR
  cases hmay : mayB xss with
  | false =>
    rw [hmay] at H
    go_enter Try.func14, Try.ntmps14
    go_wp2_with (go_at_call 21; refine H.mono ?_; rintro e w1 ⟨rfl, hb1⟩)
    go_ret2
    exact ⟨_, rfl, Own.nil _ _ _, hb0.trans (hb1.mono hb0.size)⟩
  | true =>
    rw [hmay] at H
    obtain ⟨h1, h4, hall⟩ := mayB_parts hmay
    have hl := h.len
    have hcap := h.le
    obtain ⟨b, off, rfl, hb, -⟩ := h.mem (by omega)
    simp only [if_true]
    have hcat : Hid ((catF xss).length ≤ 2060) := cat_bound h4 (fun x hx => (hall x hx).2)
    have hR0 := Lib.hid h
    have hn4 : Hid (n ≤ 1000) := by show _ ≤ _; omega
    clear hall hmay h h1 h4 hl
    go_enter Try.func14, Try.ntmps14
    go_wp2_with fail
    refine H.mono ?_
    rintro e w1 ⟨rfl, hb1⟩
    go_wp2_with fail
    have hE0 : w1.cell? ⟨w.heap.size, 0, none⟩ = some (.int .u64 (t : Int)) := (hb1.cell (p := ⟨w.heap.size, 0, none⟩) (by simp)).trans (by simp)
    have hE1 : w1.cell? ⟨w.heap.size, 1, none⟩ = some (.slice (some ⟨b, off, none⟩) n cap) := (hb1.cell (p := ⟨w.heap.size, 1, none⟩) (by simp)).trans (by simp)
    have hb01 := hb0.trans (hb1.mono hb0.size)
    have lB : w.heap.size < w1.heap.size := Nat.lt_of_lt_of_le (by simp) hb1.size
    have hR := Lib.hid (hR0.out.to hb01)
    have hS : Hid (recF t xss = [digits t 8, listF xss].flatten) := by show _ = _; simp [recF]
    have hc20 : Hid ((catF xss).length ≤ 1048576) := Nat.le_trans hcat.out (by decide)
    have hfl : Hid ([digits t 8, listF xss].flatten.length ≤ 1048576) := by
      show _ ≤ _
      have := hcat.out
      simp [digits_len, list_len]
      omega
    have HB0 := Lib.hid hb0
    have HB1 := Lib.hid hb1
    have HB01 := Lib.hid hb0.size
    clear hb0 hb1 hb01 hR0 H hb
    generalize hB : w.heap.size = B at hE0 hE1 lB ⊢
    have HB := Lib.hid hB
    clear hB
    refine wp_region_steps [[], [0], [1], [], [3], [4, 2], [2, 5], [6, 5], [7], [7], [8], [9]] (by kernel_rfl) (by kernel_rfl) (fun L a wx => ∃ v7 v8 v9 v10 v11 v12 v13 v14 v15 v16 v2 v3, a = ⟨#[entV t (some ⟨b, off, none⟩) n cap, .pointer (some ⟨B, 0, none⟩), v2, v3, .agg #[.int .u64 (t : Int), .slice (some ⟨b, off, none⟩) n cap], .bool true, .bool false, v7, v8, v9, v10, v11, v12, v13, v14, v15, v16], []⟩ ∧ InvRecord t xss b off n cap B w1 L v7 v8 v9 v10 v11 v12 v13 v14 v15 v16 v2 v3 wx) ?_ ⟨?_, ?_, ?_, ?_, ?_, ?_, ?_, ?_, ?_, ?_, ?_, ?_, trivial⟩ ?_
    · refine ⟨_, _, _, _, _, _, _, _, _, _, _, _, rfl, ⟨?_, ?_, ?_, ?_, ?_, ?_, ?_, ?_, ?_, ?_, ?_, ?_, below_drew (Below.refl _ _)⟩⟩ <;> (intro h; exact absurd h (by decide))
    · rintro L a wx ⟨v7, v8, v9, v10, v11, v12, v13, v14, v15, v16, v2, v3, rfl, hI⟩ hL hdep hcl K hK
      go_simp
      exact hK _ _ ⟨_, v8, v9, v10, v11, v12, v13, v14, v15, v16, v2, v3, rfl, ⟨fun _ => rfl, hI.t1, hI.t2, hI.t3, hI.t4, hI.t5, hI.t6, hI.t7, hI.t8, hI.t9, hI.t10, hI.t11, hI.bw⟩⟩
    · rintro L a wx ⟨v7, v8, v9, v10, v11, v12, v13, v14, v15, v16, v2, v3, rfl, hI⟩ hL hdep hcl K hK
      obtain rfl := hI.t0 (hdep 0 (by decide))
      have c3 := (hI.bw.cell (p := ⟨B, 0, none⟩) lB).trans hE0
      go_simp
      exact hK _ _ ⟨_, _, v9, v10, v11, v12, v13, v14, v15, v16, v2, v3, rfl, ⟨hI.t0, fun _ => rfl, hI.t2, hI.t3, hI.t4, hI.t5, hI.t6, hI.t7, hI.t8, hI.t9, hI.t10, hI.t11, hI.bw⟩⟩
    · rintro L a wx ⟨v7, v8, v9, v10, v11, v12, v13, v14, v15, v16, v2, v3, rfl, hI⟩ hL hdep hcl K hK
      obtain rfl := hI.t1 (hdep 1 (by decide))
      go_simp
      refine (numP_any t 8 ht (by decide) (by simpa using Nat.lt_succ_of_le ht) wx).mono ?_
      rintro e w' ⟨f, rfl, hp, hb⟩
      exact hK _ _ ⟨v7, _, _, v10, v11, v12, v13, v14, v15, v16, v2, v3, rfl, ⟨hI.t0, hI.t1, fun _ => hp, hI.t3, hI.t4, fun h => (hI.t5 h).to hb, fun h => let ⟨x, y, e, hp⟩ := hI.t6 h; ⟨x, y, e, hp.to hb⟩, fun h => let ⟨x, e, hp⟩ := hI.t7 h; ⟨x, e, hp.to hb⟩, fun h => (hI.t8 h).to hb, hI.t9, fun h => (hI.t10 h).to hb, hI.t11, (hI.bw).trans (hb.mono hI.bw.size)⟩⟩
    · rintro L a wx ⟨v7, v8, v9, v10, v11, v12, v13, v14, v15, v16, v2, v3, rfl, hI⟩ hL hdep hcl K hK
      go_simp
      exact hK _ _ ⟨v7, v8, v9, _, v11, v12, v13, v14, v15, v16, v2, v3, rfl, ⟨hI.t0, hI.t1, hI.t2, fun _ => rfl, hI.t4, hI.t5, hI.t6, hI.t7, hI.t8, hI.t9, hI.t10, hI.t11, hI.bw⟩⟩
    · rintro L a wx ⟨v7, v8, v9, v10, v11, v12, v13, v14, v15, v16, v2, v3, rfl, hI⟩ hL hdep hcl K hK
      obtain rfl := hI.t3 (hdep 3 (by decide))
      have c3 := (hI.bw.cell (p := ⟨B, 1, none⟩) lB).trans hE1
      go_simp
      exact hK _ _ ⟨v7, v8, v9, _, _, v12, v13, v14, v15, v16, v2, v3, rfl, ⟨hI.t0, hI.t1, hI.t2, hI.t3, fun _ => rfl, hI.t5, hI.t6, hI.t7, hI.t8, hI.t9, hI.t10, hI.t11, hI.bw⟩⟩
    · rintro L a wx ⟨v7, v8, v9, v10, v11, v12, v13, v14, v15, v16, v2, v3, rfl, hI⟩ hL hdep hcl K hK
      obtain rfl := hI.t4 (hdep 4 (by decide))
      go_simp
      refine (listP_any _ n cap xss wx hn4.out hc20.out (hR.out.to hI.bw)).mono ?_
      rintro e w' ⟨f, rfl, hp, hb⟩
      exact hK _ _ ⟨v7, v8, v9, v10, _, _, v13, v14, v15, v16, v2, v3, rfl, ⟨hI.t0, hI.t1, fun h => (hI.t2 h).to hb, hI.t3, hI.t4, fun _ => hp, fun h => let ⟨x, y, e, hp⟩ := hI.t6 h; ⟨x, y, e, hp.to hb⟩, fun h => let ⟨x, e, hp⟩ := hI.t7 h; ⟨x, e, hp.to hb⟩, fun h => (hI.t8 h).to hb, hI.t9, fun h => (hI.t10 h).to hb, hI.t11, (hI.bw).trans (hb.mono hI.bw.size)⟩⟩
    · rintro L a wx ⟨v7, v8, v9, v10, v11, v12, v13, v14, v15, v16, v2, v3, rfl, hI⟩ hL hdep hcl K hK
      obtain ⟨k2, c2, rfl, p2⟩ := hI.t2 (hdep 2 (by decide))
      obtain ⟨k5, c5, rfl, p5⟩ := hI.t5 (hdep 5 (by decide))
      have hb := hal wx (.cells #[.func (.func k2) #[] c2, .func (.func k5) #[] c5] 67)
      have hpp := parts_lit (T := 67) [_, _] [digits t 8, listF xss] wx ⟨⟨k2, c2, rfl, p2⟩, ⟨k5, c5, rfl, p5⟩, trivial⟩
      go_simp
      exact hK _ _ ⟨v7, v8, _, v10, v11, _, _, v14, v15, v16, v2, v3, rfl, ⟨hI.t0, hI.t1, fun h => (hI.t2 h).to hb, hI.t3, hI.t4, fun h => (hI.t5 h).to hb, fun _ => ⟨_, _, rfl, hpp⟩, fun h => let ⟨x, e, hp⟩ := hI.t7 h; ⟨x, e, hp.to hb⟩, fun h => (hI.t8 h).to hb, hI.t9, fun h => (hI.t10 h).to hb, hI.t11, (hI.bw).trans (hb.mono hI.bw.size)⟩⟩
    · rintro L a wx ⟨v7, v8, v9, v10, v11, v12, v13, v14, v15, v16, v2, v3, rfl, hI⟩ hL hdep hcl K hK
      obtain ⟨x, y, rfl, hpp⟩ := hI.t6 (hdep 6 (by decide))
      go_simp
      refine (lay_all _ _ _ _ wx (by decide) hfl.out hpp).mono ?_
      rintro e w' ⟨v, rfl, ho, hb⟩
      exact hK _ _ ⟨v7, v8, v9, v10, v11, v12, _, _, v15, v16, v2, v3, rfl, ⟨hI.t0, hI.t1, fun h => (hI.t2 h).to hb, hI.t3, hI.t4, fun h => (hI.t5 h).to hb, fun _ => ⟨_, _, rfl, hpp.to hb⟩, fun _ => ⟨v, rfl, ho.mono hI.bw.size⟩, fun h => (hI.t8 h).to hb, hI.t9, fun h => (hI.t10 h).to hb, hI.t11, (hI.bw).trans (hb.mono hI.bw.size)⟩⟩
    · rintro L a wx ⟨v7, v8, v9, v10, v11, v12, v13, v14, v15, v16, v2, v3, rfl, hI⟩ hL hdep hcl K hK
      obtain ⟨x, rfl, ho⟩ := hI.t7 (hdep 7 (by decide))
      go_simp
      exact hK _ _ ⟨v7, v8, v9, v10, v11, v12, v13, _, _, v16, v2, v3, rfl, ⟨hI.t0, hI.t1, hI.t2, hI.t3, hI.t4, hI.t5, hI.t6, fun _ => ⟨_, rfl, ho⟩, fun _ => ho, hI.t9, hI.t10, hI.t11, hI.bw⟩⟩
    · rintro L a wx ⟨v7, v8, v9, v10, v11, v12, v13, v14, v15, v16, v2, v3, rfl, hI⟩ hL hdep hcl K hK
      obtain ⟨x, rfl, ho⟩ := hI.t7 (hdep 7 (by decide))
      go_simp
      exact hK _ _ ⟨v7, v8, v9, v10, v11, v12, v13, _, v15, _, v2, v3, rfl, ⟨hI.t0, hI.t1, hI.t2, hI.t3, hI.t4, hI.t5, hI.t6, fun _ => ⟨_, rfl, ho⟩, hI.t8, fun _ => rfl, hI.t10, hI.t11, hI.bw⟩⟩
    · rintro L a wx ⟨v7, v8, v9, v10, v11, v12, v13, v14, v15, v16, v2, v3, rfl, hI⟩ hL hdep hcl K hK
      have ho := hI.t8 (hdep 8 (by decide))
      go_simp
      exact hK _ _ ⟨v7, v8, v9, v10, v11, v12, v13, v14, v15, v16, _, v3, rfl, ⟨hI.t0, hI.t1, hI.t2, hI.t3, hI.t4, hI.t5, hI.t6, hI.t7, hI.t8, hI.t9, fun _ => ho, hI.t11, hI.bw⟩⟩
    · rintro L a wx ⟨v7, v8, v9, v10, v11, v12, v13, v14, v15, v16, v2, v3, rfl, hI⟩ hL hdep hcl K hK
      obtain rfl := hI.t9 (hdep 9 (by decide))
      go_simp
      exact hK _ _ ⟨v7, v8, v9, v10, v11, v12, v13, v14, v15, _, v2, _, rfl, ⟨hI.t0, hI.t1, hI.t2, hI.t3, hI.t4, hI.t5, hI.t6, hI.t7, hI.t8, hI.t9, hI.t10, fun _ => rfl, hI.bw⟩⟩
    · rintro a wx ⟨v7, v8, v9, v10, v11, v12, v13, v14, v15, v16, v2, v3, rfl, hI⟩
      obtain rfl := hI.t11 rfl
      have hv := hI.t10 rfl
      have hbw := hI.bw
      go_wp2
      go_ret2
      have hb0 := HB0.out
      have hb1 := HB1.out
      exact ⟨_, rfl, hS.out ▸ hv.mono (Nat.le_trans HB01.out hb1.size), hb0.trans ((hb1.trans (hbw.mono hb1.size)).mono HB01.out)⟩
end Go.Proofs.Ytcohcjhbkiangaa
