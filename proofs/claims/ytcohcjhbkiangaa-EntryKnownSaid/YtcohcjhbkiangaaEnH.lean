/-
  The document's own answers for entries: leaf, what is signed, extra bytes, record: a contract for each call. Conditions: those in each statement.
-/
import Derived.Test.YtcohcjhbkiangaaEnG
namespace Go.Proofs.Ytcohcjhbkiangaa
open Go.RowKit

theorem stampF_eq (t : Nat) (c : List UInt8) : stampF t c = [0, 0] ++ digits t 8 ++ [0, 0] ++ vec3 c ++ [0, 0] := by
  have e1 : digits 0 1 = [0] := by decide
  have e2 : digits 0 2 = [0, 0] := by decide
  simp [stampF, stampL, e1, e2]

set_option maxRecDepth 100000 in
set_option maxHeartbeats 1000000 in
theorem refLeaf_any (t : Nat) (a : Option Addr) (n cap : Nat) (xss : List (List UInt8)) (w : World) (hm : n ≤ 70368744177664) (ht : t ≤ 18446744073709551615) (h : Chn w a n cap xss) :
    Calls Try.prog 11 #[entV t a n cap] w (BRes w (stampR t xss)) := by
  have hb0 := hal w (.cells #[.int .u64 (t : Int), .slice a n cap] 25)
  have H := refMay_any t a n cap xss _ hm (h.to hb0)
  unfold stampR
  cases hmay : mayB xss with
  | false =>
    rw [hmay] at H
    go_enter Try.func11, Try.ntmps11
    go_wp2_with (go_at_call 22; refine H.mono ?_; rintro e w1 ⟨rfl, hb1⟩)
    go_ret2
    exact ⟨_, rfl, Own.nil _ _ _, hb0.trans (hb1.mono hb0.size)⟩
  | true =>
    rw [hmay] at H
    obtain ⟨h1, h4, hall⟩ := mayB_parts hmay
    have hl := h.len
    have hcap := h.le
    obtain ⟨b, off, rfl, hb, hc⟩ := h.mem (by omega)
    obtain ⟨aj, nj, cj, hcl, hrj⟩ := hc 0 (by omega)
    have hn0 : 0 < n := by omega
    have hmem : xss.getD 0 [] ∈ xss := by simp [List.getD, hl, hn0]
    have hcl2 := (hall _ hmem).2
    simp only [if_true]
    clear hc hall hmay h h1 h4 hl hmem
    rw [stampF_eq]
    generalize xss.getD 0 [] = c at *
    have hfit : c.length < 256 ^ 3 := by simp only [Nat.reducePow]; omega
    have HV := fun W (hW : Below w.heap.size w W) => refvec_any aj nj cj 3 (by decide) c W (hrj.to hW) hfit (by omega)
    have HN := fun W => refnum_any t 8 ht (by decide) (by simpa using Nat.lt_succ_of_le ht) W
    have hL8 := digits_len t 8
    rw [Nat.add_zero] at hcl
    have hL3 := vec3_len c
    have hC3 := Lib.hid hcl2
    clear hfit hrj hcl2
    go_enter Try.func11, Try.ntmps11
    go_wp2_with fail
    refine H.mono ?_
    rintro e w1 ⟨rfl, hb1⟩
    have hE0 : w1.cell? ⟨w.heap.size, 0, none⟩ = some (.int .u64 (t : Int)) := (hb1.cell (p := ⟨w.heap.size, 0, none⟩) (by simp)).trans (by simp)
    have hE1 : w1.cell? ⟨w.heap.size, 1, none⟩ = some (.slice (some ⟨b, off, none⟩) n cap) := (hb1.cell (p := ⟨w.heap.size, 1, none⟩) (by simp)).trans (by simp)
    have hb01 := hb0.trans (hb1.mono hb0.size)
    have lB : w.heap.size < w1.heap.size := Nat.lt_of_lt_of_le (by simp) hb1.size
    clear H hb1 hb0
    go_wp2_with fail
    have o1 := own_lit w1 [0, 0] 5 (by decide)
    have s1 := hal w1 (.cells ([0, 0].map bv).toArray 5)
    refine (HN _).mono ?_
    rintro e w2 ⟨v2, rfl, ho2, hb2⟩
    obtain ⟨a2, n2, c2, rfl, hr2⟩ := ho2.reads
    have hn2 := Lib.hid hr2.len
    have s2 := s1.trans (hb2.mono s1.size)
    have hc0 := (s2.cell (p := ⟨w.heap.size, 1, none⟩) lB).trans hE1
    have o2 := o1.to hb2
    have hl0 : ([0, 0] : List UInt8).length = 2 := rfl
    go_wp2_with (first
      | (at_builtin; refine wl_append bt rfl (.tmp 9) (.tmp 12) rfl w1.heap.size _ _ o2 rfl a2 n2 c2 (digits t 8) rfl hr2.toRd (by have := hn2.out; simp; omega) s2.size ?_; intro v3 w3 ho3 hb3; have s3 := s2.trans hb3; have o3 := ho3.to (hal w3 (.cells ([0, 0].map bv).toArray 5)); have s3' := s3.trans ((hal w3 (.cells ([0, 0].map bv).toArray 5)).mono s3.size))
      | (at_builtin; refine wl_append bt rfl (.tmp 14) (.tmp 15) rfl w1.heap.size _ _ o3 rfl _ _ _ [0, 0] rfl (rd_lit w3 [0, 0] 5 (by decide)) (by simp [hL8]) s3'.size ?_; intro v4 w4 ho4 hb4; have s4 := s3'.trans hb4; have hc4 := (s4.cell (p := ⟨w.heap.size, 1, none⟩) lB).trans hE1; have hw4 := hb01.trans (s4.mono hb01.size); have hd4 := (hw4.cell (p := ⟨b, off, none⟩) hb).trans hcl)
      | (go_at_call 35; refine (HV _ hw4).mono ?_; rintro e w5 ⟨v5, rfl, ho5, hb5⟩; obtain ⟨a5, n5, c5, rfl, hr5⟩ := ho5.reads; have hn5 := Lib.hid hr5.len; have o5 := ho4.to hb5; have s5 := s4.trans (hb5.mono s4.size))
      | ((with_reducible show wpList _ _ _ (⟨some 23, _, _, _, _, _⟩ :: _) _ _); go_loud (refine wl_append bt rfl (.tmp 17) (.tmp 22) rfl w1.heap.size _ _ o5 rfl a5 n5 c5 (vec3 c) rfl hr5.toRd (by have h5 : (vec3 c).length = n5 := hn5.out; have := hC3.out; rw [hL3] at h5; simp [hL8]; omega) s5.size ?_); intro v6 w6 ho6 hb6; have s6 := s5.trans hb6; have o6 := ho6.to (hal w6 (.cells ([0, 0].map bv).toArray 5)); have s6' := s6.trans ((hal w6 (.cells ([0, 0].map bv).toArray 5)).mono s6.size))
      | ((with_reducible show wpList _ _ _ (⟨some 26, _, _, _, _, _⟩ :: _) _ _); go_loud (refine wl_append bt rfl (.tmp 24) (.tmp 25) rfl w1.heap.size _ _ o6 rfl _ _ _ [0, 0] rfl (rd_lit w6 [0, 0] 5 (by decide)) (by have := hC3.out; simp [hL8, hL3]; omega) s6'.size ?_); intro v7 w7 ho7 hb7; have s7 := s6'.trans hb7))
    go_ret2
    exact ⟨_, rfl, ho7.mono hb01.size, hb01.trans (s7.mono hb01.size)⟩

set_option maxRecDepth 100000 in
set_option maxHeartbeats 1000000 in
theorem refSCT_any (t : Nat) (a : Option Addr) (n cap : Nat) (xss : List (List UInt8)) (w : World) (hm : n ≤ 70368744177664) (ht : t ≤ 18446744073709551615) (h : Chn w a n cap xss) :
    Calls Try.prog 17 #[entV t a n cap] w (BRes w (stampR t xss)) := by
  have hb0 := hal w (.cells #[.int .u64 (t : Int), .slice a n cap] 25)
  have H := refMay_any t a n cap xss _ hm (h.to hb0)
  unfold stampR
  cases hmay : mayB xss with
  | false =>
    rw [hmay] at H
    go_enter Try.func17, Try.ntmps17
    go_wp2_with (go_at_call 22; refine H.mono ?_; rintro e w1 ⟨rfl, hb1⟩)
    go_ret2
    exact ⟨_, rfl, Own.nil _ _ _, hb0.trans (hb1.mono hb0.size)⟩
  | true =>
    rw [hmay] at H
    obtain ⟨h1, h4, hall⟩ := mayB_parts hmay
    have hl := h.len
    have hcap := h.le
    obtain ⟨b, off, rfl, hb, hc⟩ := h.mem (by omega)
    obtain ⟨aj, nj, cj, hcl, hrj⟩ := hc 0 (by omega)
    have hn0 : 0 < n := by omega
    have hmem : xss.getD 0 [] ∈ xss := by simp [List.getD, hl, hn0]
    have hcl2 := (hall _ hmem).2
    simp only [if_true]
    clear hc hall hmay h h1 h4 hl hmem
    rw [stampF_eq]
    generalize xss.getD 0 [] = c at *
    have hfit : c.length < 256 ^ 3 := by simp only [Nat.reducePow]; omega
    have HV := fun W (hW : Below w.heap.size w W) => refvec_any aj nj cj 3 (by decide) c W (hrj.to hW) hfit (by omega)
    have HZ : ∀ W, Calls Try.prog 35 #[.slice none 0 0, .int .i64 2] W fun e w' => ∃ v, e = .returned v ∧ Own w' W.heap.size 5 v [0, 0] ∧ Below W.heap.size W w' := fun W => refvec_any none 0 0 2 (by decide) [] W (Rd.none W) (by decide) (by decide)
    have HN := fun W => refnum_any t 8 ht (by decide) (by simpa using Nat.lt_succ_of_le ht) W
    have hL8 := digits_len t 8
    rw [Nat.add_zero] at hcl
    have hL3 := vec3_len c
    have hC3 := Lib.hid hcl2
    clear hfit hrj hcl2
    go_enter Try.func17, Try.ntmps17
    go_wp2_with fail
    refine H.mono ?_
    rintro e w1 ⟨rfl, hb1⟩
    have hE0 : w1.cell? ⟨w.heap.size, 0, none⟩ = some (.int .u64 (t : Int)) := (hb1.cell (p := ⟨w.heap.size, 0, none⟩) (by simp)).trans (by simp)
    have hE1 : w1.cell? ⟨w.heap.size, 1, none⟩ = some (.slice (some ⟨b, off, none⟩) n cap) := (hb1.cell (p := ⟨w.heap.size, 1, none⟩) (by simp)).trans (by simp)
    have hb01 := hb0.trans (hb1.mono hb0.size)
    have lB : w.heap.size < w1.heap.size := Nat.lt_of_lt_of_le (by simp) hb1.size
    clear H hb1 hb0
    go_wp2_with fail
    have o1 := own_lit w1 [0, 0] 5 (by decide)
    have s1 := hal w1 (.cells ([0, 0].map bv).toArray 5)
    refine (HN _).mono ?_
    rintro e w2 ⟨v2, rfl, ho2, hb2⟩
    obtain ⟨a2, n2, c2, rfl, hr2⟩ := ho2.reads
    have hn2 := Lib.hid hr2.len
    have s2 := s1.trans (hb2.mono s1.size)
    have hc0 := (s2.cell (p := ⟨w.heap.size, 1, none⟩) lB).trans hE1
    have o2 := o1.to hb2
    have hl0 : ([0, 0] : List UInt8).length = 2 := rfl
    go_wp2_with (first
      | (at_builtin; refine wl_append bt rfl (.tmp 9) (.tmp 12) rfl w1.heap.size _ _ o2 rfl a2 n2 c2 (digits t 8) rfl hr2.toRd (by have := hn2.out; simp; omega) s2.size ?_; intro v3 w3 ho3 hb3; have s3 := s2.trans hb3; have o3 := ho3.to (hal w3 (.cells ([0, 0].map bv).toArray 5)); have s3' := s3.trans ((hal w3 (.cells ([0, 0].map bv).toArray 5)).mono s3.size))
      | (at_builtin; refine wl_append bt rfl (.tmp 14) (.tmp 15) rfl w1.heap.size _ _ o3 rfl _ _ _ [0, 0] rfl (rd_lit w3 [0, 0] 5 (by decide)) (by simp [hL8]) s3'.size ?_; intro v4 w4 ho4 hb4; have s4 := s3'.trans hb4; have hc4 := (s4.cell (p := ⟨w.heap.size, 1, none⟩) lB).trans hE1; have hw4 := hb01.trans (s4.mono hb01.size); have hd4 := (hw4.cell (p := ⟨b, off, none⟩) hb).trans hcl)
      | (go_at_call_of 35 nj; refine (HV _ hw4).mono ?_; rintro e w5 ⟨v5, rfl, ho5, hb5⟩; obtain ⟨a5, n5, c5, rfl, hr5⟩ := ho5.reads; have hn5 := Lib.hid hr5.len; have o5 := ho4.to hb5; have s5 := s4.trans (hb5.mono s4.size))
      | (go_at_call 35; refine (HZ w6).mono ?_; rintro e w8 ⟨v8, rfl, ho8, hb8⟩; obtain ⟨a8, n8, c8, rfl, hr8⟩ := ho8.reads; have hn8 := Lib.hid hr8.len; have o8 := ho6.to hb8; have s8 := s6.trans (hb8.mono s6.size))
      | ((with_reducible show wpList _ _ _ (⟨some 23, _, _, _, _, _⟩ :: _) _ _); go_loud (refine wl_append bt rfl (.tmp 17) (.tmp 22) rfl w1.heap.size _ _ o5 rfl a5 n5 c5 (vec3 c) rfl hr5.toRd (by have h5 : (vec3 c).length = n5 := hn5.out; have := hC3.out; rw [hL3] at h5; simp [hL8]; omega) s5.size ?_); intro v6 w6 ho6 hb6; have s6 := s5.trans hb6)
      | ((with_reducible show wpList _ _ _ (⟨some 26, _, _, _, _, _⟩ :: _) _ _); go_loud (refine wl_append bt rfl (.tmp 24) (.tmp 25) rfl w1.heap.size _ _ o8 rfl a8 n8 c8 [0, 0] rfl hr8.toRd (by have := hC3.out; have := hn8.out; simp [hL8, hL3] at *; omega) s8.size ?_); intro v7 w7 ho7 hb7; have s7 := s8.trans hb7))
    go_ret2
    exact ⟨_, rfl, ho7.mono hb01.size, hb01.trans (s7.mono hb01.size)⟩


set_option maxRecDepth 100000 in
theorem refExtra_any (t : Nat) (a : Option Addr) (n cap : Nat) (xss : List (List UInt8)) (w : World) (hm : n ≤ 70368744177664) (h : Chn w a n cap xss) :
    Calls Try.prog 13 #[entV t a n cap] w (BRes w (extraR xss)) := by
  have hb0 := hal w (.cells #[.int .u64 (t : Int), .slice a n cap] 25)
  have H := refMay_any t a n cap xss _ hm (h.to hb0)
  unfold extraR
  cases hmay : mayB xss with
  | false =>
    rw [hmay] at H
    go_enter Try.func13, Try.ntmps13
    go_wp2_with (go_at_call 22; refine H.mono ?_; rintro e w1 ⟨rfl, hb1⟩)
    go_ret2
    exact ⟨_, rfl, Own.nil _ _ _, hb0.trans (hb1.mono hb0.size)⟩
  | true =>
    rw [hmay] at H
    obtain ⟨h1, h4, hall⟩ := mayB_parts hmay
    have hl := h.len
    have hcap := h.le
    have hn0 : 1 ≤ n := by omega
    obtain ⟨b, off, rfl, hb, -⟩ := h.mem (by omega)
    simp only [if_true]
    have hcat : Hid ((catF (xss.drop 1)).length ≤ 2060) := cat_bound (by simp; omega) (fun x hx => (hall x (List.mem_of_mem_drop hx)).2)
    have hfl : Hid ([listF (xss.drop 1)].flatten.length ≤ 1048576) := by
      show _ ≤ _
      have := hcat.out
      simp only [List.flatten_cons, List.flatten_nil, List.append_nil, list_len]
      omega
    have hS : Hid ([listF (xss.drop 1)].flatten = listF (xss.drop 1)) := by show _ = _; simp
    have hn4 : n ≤ 4 := by omega
    have hbs := hb0.size
    by_cases hcm : cap = 1
    · obtain rfl : n = 1 := by omega
      subst hcm
      have ht := Lib.hid h.one0
      clear hmay hall h hl h1 h4 hcap
      go_enter Try.func13, Try.ntmps13
      go_wp2_with fail
      refine H.mono ?_
      rintro e w1 ⟨rfl, hb1⟩
      have hE1 : w1.cell? ⟨w.heap.size, 1, none⟩ = some (.slice (some ⟨b, off, none⟩) 1 1) := (hb1.cell (p := ⟨w.heap.size, 1, none⟩) (by simp)).trans (by simp)
      have hb01 := hb0.trans (hb1.mono hb0.size)
      go_wp2_with fail
      refine (reflist_any _ 0 0 (xss.drop 1) _ (by omega) (Nat.le_trans hcat.out (by decide)) (ht.out.to hb01)).mono ?_
      rintro e w2 ⟨v, rfl, ho, hb2⟩
      go_wp2
      go_ret2
      exact ⟨_, rfl, ho.mono hb01.size, hb01.trans (hb2.mono hb01.size)⟩
    · have ht := Lib.hid (h.tail1 hn0)
      have hcc : ((cap : Int) == 1) = false := by simp; omega
      clear hmay hall h hl h1 h4
      go_enter Try.func13, Try.ntmps13
      go_wp2_with fail
      refine H.mono ?_
      rintro e w1 ⟨rfl, hb1⟩
      have hE1 : w1.cell? ⟨w.heap.size, 1, none⟩ = some (.slice (some ⟨b, off, none⟩) n cap) := (hb1.cell (p := ⟨w.heap.size, 1, none⟩) (by simp)).trans (by simp)
      have hb01 := hb0.trans (hb1.mono hb0.size)
      go_wp2_with fail
      refine (reflist_any _ (n - 1) (cap - 1) (xss.drop 1) _ (by omega) (Nat.le_trans hcat.out (by decide)) (ht.out.to hb01)).mono ?_
      rintro e w2 ⟨v, rfl, ho, hb2⟩
      go_wp2
      go_ret2
      exact ⟨_, rfl, ho.mono hb01.size, hb01.trans (hb2.mono hb01.size)⟩


structure InvRefRec (t : Nat) (xss : List (List UInt8)) (b off n cap B : Nat) (w1 : World) (L : Nat → Bool) (v7 v8 v9 v10 v11 v12 v13 v2 v3 : Value) (wx : World) : Prop where
  t0 : L 0 = true → v7 = .pointer (some ⟨B, 0, none⟩)
  t1 : L 1 = true → v8 = .int .u64 (t : Int)
  t2 : L 2 = true → L 6 = false → Own wx w1.heap.size 5 v9 (digits t 8)
  t3 : L 3 = true → v10 = .pointer (some ⟨B, 1, none⟩)
  t4 : L 4 = true → v11 = .slice (some ⟨b, off, none⟩) n cap
  t5 : L 5 = true → L 6 = false → Own wx w1.heap.size 5 v12 (listF xss)
  t6 : L 6 = true → Own wx w1.heap.size 5 v13 (digits t 8 ++ listF xss)
  t7 : L 7 = true → Own wx w1.heap.size 5 v2 (digits t 8 ++ listF xss)
  t8 : L 8 = true → v3 = .int .i64 0
  bw : Below w1.heap.size w1 wx

set_option maxRecDepth 100000 in
set_option maxHeartbeats 1000000 in
theorem refRecord_any (t : Nat) (a : Option Addr) (n cap : Nat) (xss : List (List UInt8)) (w : World) (hm : n ≤ 70368744177664) (ht : t ≤ 18446744073709551615) (h : Chn w a n cap xss) :
    Calls Try.prog 15 #[entV t a n cap] w (BRes w (recR t xss)) := by
  have hb0 := hal w (.cells #[.int .u64 (t : Int), .slice a n cap] 25)
  have H := refMay_any t a n cap xss _ hm (h.to hb0)
  unfold recR
  cases hmay : mayB xss with
  | false =>
    rw [hmay] at H
    go_enter Try.func15, Try.ntmps15
    go_wp2_with (go_at_call 22; refine H.mono ?_; rintro e w1 ⟨rfl, hb1⟩)
    go_ret2
    exact ⟨_, rfl, Own.nil _ _ _, hb0.trans (hb1.mono hb0.size)⟩
  | true =>
    rw [hmay] at H
    obtain ⟨h1, h4, hall⟩ := mayB_parts hmay
    have hl := h.len
    have hcap := h.le
    obtain ⟨b, off, rfl, hb, -⟩ := h.mem (by omega)
    simp only [if_true]
    have hcat : Hid ((catF xss).length ≤ 2060) := cat_bound h4 (fun x hx => (hall x hx).2)
    have hR0 := Lib.hid h
    have hn4 : Hid (n ≤ 1000) := by show _ ≤ _; omega
    clear hall hmay h h1 h4 hl
    go_enter Try.func15, Try.ntmps15
    go_wp2_with fail
    refine H.mono ?_
    rintro e w1 ⟨rfl, hb1⟩
    go_wp2_with fail
    have hE0 : w1.cell? ⟨w.heap.size, 0, none⟩ = some (.int .u64 (t : Int)) := (hb1.cell (p := ⟨w.heap.size, 0, none⟩) (by simp)).trans (by simp)
    have hE1 : w1.cell? ⟨w.heap.size, 1, none⟩ = some (.slice (some ⟨b, off, none⟩) n cap) := (hb1.cell (p := ⟨w.heap.size, 1, none⟩) (by simp)).trans (by simp)
    have hb01 := hb0.trans (hb1.mono hb0.size)
    have lB : w.heap.size < w1.heap.size := Nat.lt_of_lt_of_le (by simp) hb1.size
    have hR := Lib.hid (hR0.out.to hb01)
    have hS : Hid (recF t xss = [digits t 8, listF xss].flatten) := by show _ = _; simp [recF]
    have hc20 : Hid ((catF xss).length ≤ 1048576) := Nat.le_trans hcat.out (by decide)
    have hfl : Hid ((digits t 8).length + (listF xss).length ≤ 140737488355328) := by
      show _ ≤ _
      have := hcat.out
      simp only [digits_len, list_len]
      omega
    have HB0 := Lib.hid hb0
    have HB1 := Lib.hid hb1
    have HB01 := Lib.hid hb0.size
    clear hb0 hb1 hb01 hR0 H hb
    generalize hB : w.heap.size = B at hE0 hE1 lB ⊢
    have HB := Lib.hid hB
    clear hB
    refine wp_region_steps [[], [0], [1], [], [3], [4, 2], [2, 5], [6], [7]] (by kernel_rfl) (by kernel_rfl) (fun L a wx => ∃ v7 v8 v9 v10 v11 v12 v13 v2 v3, a = ⟨#[entV t (some ⟨b, off, none⟩) n cap, .pointer (some ⟨B, 0, none⟩), v2, v3, .agg #[.int .u64 (t : Int), .slice (some ⟨b, off, none⟩) n cap], .bool true, .bool false, v7, v8, v9, v10, v11, v12, v13], []⟩ ∧ InvRefRec t xss b off n cap B w1 L v7 v8 v9 v10 v11 v12 v13 v2 v3 wx) ?_ ⟨?_, ?_, ?_, ?_, ?_, ?_, ?_, ?_, ?_, trivial⟩ ?_
    · refine ⟨_, _, _, _, _, _, _, _, _, rfl, ⟨?_, ?_, ?_, ?_, ?_, ?_, ?_, ?_, ?_, below_drew (Below.refl _ _)⟩⟩ <;> (intro h; exact absurd h (by decide))
    · rintro L a wx ⟨v7, v8, v9, v10, v11, v12, v13, v2, v3, rfl, hI⟩ hL hdep hcl K hK
      go_simp
      exact hK _ _ ⟨_, v8, v9, v10, v11, v12, v13, v2, v3, rfl, ⟨fun _ => rfl, hI.t1, hI.t2, hI.t3, hI.t4, hI.t5, hI.t6, hI.t7, hI.t8, hI.bw⟩⟩
    · rintro L a wx ⟨v7, v8, v9, v10, v11, v12, v13, v2, v3, rfl, hI⟩ hL hdep hcl K hK
      obtain rfl := hI.t0 (hdep 0 (by decide))
      have c3 := (hI.bw.cell (p := ⟨B, 0, none⟩) lB).trans hE0
      go_simp
      exact hK _ _ ⟨_, _, v9, v10, v11, v12, v13, v2, v3, rfl, ⟨hI.t0, fun _ => rfl, hI.t2, hI.t3, hI.t4, hI.t5, hI.t6, hI.t7, hI.t8, hI.bw⟩⟩
    · rintro L a wx ⟨v7, v8, v9, v10, v11, v12, v13, v2, v3, rfl, hI⟩ hL hdep hcl K hK
      obtain rfl := hI.t1 (hdep 1 (by decide))
      go_simp
      refine (refnum_any t 8 ht (by decide) (by simpa using Nat.lt_succ_of_le ht) wx).mono ?_
      rintro e w' ⟨f, rfl, hp, hb⟩
      exact hK _ _ ⟨v7, _, _, v10, v11, v12, v13, v2, v3, rfl, ⟨hI.t0, hI.t1, fun _ _ => hp.mono hI.bw.size, hI.t3, hI.t4, fun h => fun h6 => (hI.t5 h h6).to hb, fun h => (hI.t6 h).to hb, fun h => (hI.t7 h).to hb, hI.t8, (hI.bw).trans (hb.mono hI.bw.size)⟩⟩
    · rintro L a wx ⟨v7, v8, v9, v10, v11, v12, v13, v2, v3, rfl, hI⟩ hL hdep hcl K hK
      go_simp
      exact hK _ _ ⟨v7, v8, v9, _, v11, v12, v13, v2, v3, rfl, ⟨hI.t0, hI.t1, hI.t2, fun _ => rfl, hI.t4, hI.t5, hI.t6, hI.t7, hI.t8, hI.bw⟩⟩
    · rintro L a wx ⟨v7, v8, v9, v10, v11, v12, v13, v2, v3, rfl, hI⟩ hL hdep hcl K hK
      obtain rfl := hI.t3 (hdep 3 (by decide))
      have c3 := (hI.bw.cell (p := ⟨B, 1, none⟩) lB).trans hE1
      go_simp
      exact hK _ _ ⟨v7, v8, v9, _, _, v12, v13, v2, v3, rfl, ⟨hI.t0, hI.t1, hI.t2, hI.t3, fun _ => rfl, hI.t5, hI.t6, hI.t7, hI.t8, hI.bw⟩⟩
    · rintro L a wx ⟨v7, v8, v9, v10, v11, v12, v13, v2, v3, rfl, hI⟩ hL hdep hcl K hK
      obtain rfl := hI.t4 (hdep 4 (by decide))
      go_simp
      refine (reflist_any _ n cap xss wx hn4.out hc20.out (hR.out.to hI.bw)).mono ?_
      rintro e w' ⟨f, rfl, hp, hb⟩
      exact hK _ _ ⟨v7, v8, v9, v10, _, _, v13, v2, v3, rfl, ⟨hI.t0, hI.t1, fun h => fun h6 => (hI.t2 h h6).to hb, hI.t3, hI.t4, fun _ _ => hp.mono hI.bw.size, fun h => (hI.t6 h).to hb, fun h => (hI.t7 h).to hb, hI.t8, (hI.bw).trans (hb.mono hI.bw.size)⟩⟩
    · rintro L a wx ⟨v7, v8, v9, v10, v11, v12, v13, v2, v3, rfl, hI⟩ hL hdep hcl K hK
      have ho9 := hI.t2 (hdep 2 (by decide)) hL
      have ho12 := hI.t5 (hdep 5 (by decide)) hL
      obtain ⟨g, c, rfl, hg1, hg2, hg3⟩ := ho12.solid (by rw [list_len]; omega)
      refine ow_append (.tmp 9) (.tmp 12) rfl w1.heap.size _ _ ho9 rfl ⟨g, 0, none⟩ _ c _ rfl ho12.rd.toRd hfl.out hI.bw.size ?_
      intro v' w' h1 h2
      have hbw2 := hI.bw.trans h2
      exact hK _ _ ⟨v7, v8, v9, v10, v11, _, _, v2, v3, rfl, ⟨hI.t0, hI.t1, fun _ h => absurd h (by simp [stepL]), hI.t3, hI.t4, fun _ h => absurd h (by simp [stepL]), fun _ => h1, fun h => absurd (hcl 7 (by decide) h 6 (by decide)) (by rw [hL]; decide), hI.t8, hbw2⟩⟩
    · rintro L a wx ⟨v7, v8, v9, v10, v11, v12, v13, v2, v3, rfl, hI⟩ hL hdep hcl K hK
      have ho := hI.t6 (hdep 6 (by decide))
      go_simp
      exact hK _ _ ⟨v7, v8, v9, v10, v11, v12, v13, _, v3, rfl, ⟨hI.t0, hI.t1, hI.t2, hI.t3, hI.t4, hI.t5, hI.t6, fun _ => ho, hI.t8, hI.bw⟩⟩
    · rintro L a wx ⟨v7, v8, v9, v10, v11, v12, v13, v2, v3, rfl, hI⟩ hL hdep hcl K hK
      go_simp
      exact hK _ _ ⟨v7, v8, v9, v10, v11, v12, v13, v2, _, rfl, ⟨hI.t0, hI.t1, hI.t2, hI.t3, hI.t4, hI.t5, hI.t6, hI.t7, fun _ => rfl, hI.bw⟩⟩
    · rintro a wx ⟨v7, v8, v9, v10, v11, v12, v13, v2, v3, rfl, hI⟩
      obtain rfl := hI.t8 rfl
      have hv := hI.t7 rfl
      have hbw := hI.bw
      go_wp2
      go_ret2
      have hb0 := HB0.out
      have hb1 := HB1.out
      exact ⟨_, rfl, (show Own _ _ _ _ (recF t xss) from hv).mono (Nat.le_trans HB01.out hb1.size), hb0.trans ((hb1.trans (hbw.mono hb1.size)).mono HB01.out)⟩

end Go.Proofs.Ytcohcjhbkiangaa
