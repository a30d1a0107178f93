/-
  What is made of an entry: a contract for each call. Conditions: those in each statement.
-/
import Derived.Test.YtcohcjhbkiangaaEnD
import Derived.Test.YtcohcjhbkiangaaReg
namespace Go.Proofs.Ytcohcjhbkiangaa
open Go.RowKit

theorem numP_any (n m : Nat) (hn : n ≤ 18446744073709551615) (hm : sizeB m = true) (hfit : n < 256 ^ m) (w : World) :
    Calls Try.prog 39 #[.int .u64 n, .int .i64 m] w fun e w' => ∃ f, e = .returned f ∧ PartD w' f (digits n m) ∧ Below w.heap.size w w' :=
  (number_mk n m w).mono fun _ _ h => number_part n m hn hm hfit h
theorem vecP_any (a : Option Addr) (n cap m : Nat) (hm : vecB m = true) (ys : List UInt8) (w : World) (hr : Rd w a n cap ys) (hfit : ys.length < 256 ^ m) (hl : ys.length ≤ 1048576) :
    Calls Try.prog 53 #[.slice a n cap, .int .i64 m] w fun e w' => ∃ f, e = .returned f ∧ PartD w' f (digits ys.length m ++ ys) ∧ Below w.heap.size w w' :=
  (vector_mk a n cap m w).mono fun _ _ h => vector_part _ m hm ys ⟨a, n, cap, rfl, hr⟩ hfit hl h
theorem listP_any (a : Option Addr) (n cap : Nat) (xss : List (List UInt8)) (w : World) (hn : n ≤ 1000) (hlen : (catF xss).length ≤ 1048576) (h : Chn w a n cap xss) :
    Calls Try.prog 37 #[.slice a n cap] w fun e w' => ∃ f, e = .returned f ∧ PartD w' f (listF xss) ∧ Below w.heap.size w w' := by
  refine (list_mk a n cap w).mono ?_
  rintro e w' ⟨p, rfl, hp, lp, hb⟩
  refine ⟨_, rfl, ⟨_, _, rfl, enters_of Try.func57 (by kernel_rfl) rfl, fun W hW a' n' cap' ys hr hl => ?_⟩, hb⟩
  exact list_any a n cap xss a' n' cap' ys p W hn hlen hl ((hW.cell (p := ⟨p, 0, none⟩) lp).trans hp) (Nat.lt_of_lt_of_le lp hW.size) ((h.to hb).to hW) hr

theorem Parts.to {w w' : World} {a : Option Addr} {n cap : Nat} {ds : List (List UInt8)} (h : Parts w a n cap ds) (hb : Below w.heap.size w w') : Parts w' a n cap ds := by
  obtain ⟨h1, h2, b, off, e, h3, h4⟩ := h
  refine ⟨h1, h2, b, off, e, Nat.lt_of_lt_of_le h3 hb.size, fun j hj => ?_⟩
  obtain ⟨f, hf, hp⟩ := h4 j hj
  exact ⟨f, (hb.cell (p := ⟨b, off + j, none⟩) h3).trans hf, hp.to hb⟩
def AllParts (w : World) : List Value → List (List UInt8) → Prop
  | [], [] => True
  | f :: fs, d :: ds => PartD w f d ∧ AllParts w fs ds
  | _, _ => False
theorem AllParts.at {w : World} : ∀ {fs : List Value} {ds : List (List UInt8)}, AllParts w fs ds → ds.length = fs.length ∧ ∀ j, j < fs.length → ∃ f, fs[j]? = some f ∧ PartD w f (ds.getD j [])
  | [], [], _ => ⟨rfl, fun j hj => by simp at hj⟩
  | f :: fs, d :: ds, h => by
    obtain ⟨h1, h2⟩ := h
    obtain ⟨h3, h4⟩ := AllParts.at h2
    refine ⟨by simp [h3], fun j hj => ?_⟩
    cases j with
    | zero => exact ⟨f, rfl, h1⟩
    | succ j =>
      obtain ⟨g, hg, hp⟩ := h4 j (by simpa using hj)
      exact ⟨g, by simpa using hg, by simpa using hp⟩
theorem parts_lit {T : TypeId} (fs : List Value) (ds : List (List UInt8)) (w : World) (h : AllParts w fs ds) : Parts (w.alloc (.cells fs.toArray T (0, 0))) (some ⟨w.heap.size, 0, none⟩) fs.length fs.length ds := by
  obtain ⟨h1, h2⟩ := h.at
  refine ⟨h1, Nat.le_refl _, _, _, rfl, by simp, fun j hj => ?_⟩
  obtain ⟨f, hf, hp⟩ := h2 j hj
  refine ⟨f, ?_, hp.to (hal w _)⟩
  rw [cell_of_row _ w.heap.size _ _ T (0, 0) (heap_alloc_new w _)]
  simpa using hf

/-- an entry's time and certificate, between two heads -/
def stampL (t : Nat) (c : List UInt8) : List (List UInt8) := [digits 0 1, digits 0 1, digits t 8, digits 0 2, vec3 c, digits 0 2]
def stampF (t : Nat) (c : List UInt8) : List UInt8 := (stampL t c).flatten
def stampR (t : Nat) (xss : List (List UInt8)) : List UInt8 × Int := if mayB xss = true then (stampF t (xss.getD 0 []), 0) else ([], 1)

structure InvStamp (t : Nat) (c : List UInt8) (b off n cap nj cj B : Nat) (aj : Option Addr) (w1 : World) (L : Nat → Bool) (v9 v10 v11 v12 v13 v14 v15 v16 v17 v18 v19 v20 v21 v22 v23 v24 v25 v4 v5 : Value) (wx : World) : Prop where
  t0 : L 0 = true → PartD wx v9 (digits 0 1)
  t1 : L 1 = true → v10 = .int .u64 0
  t2 : L 2 = true → PartD wx v11 (digits 0 1)
  t3 : L 3 = true → v12 = .pointer (some ⟨B, 0, none⟩)
  t4 : L 4 = true → v13 = .int .u64 (t : Int)
  t5 : L 5 = true → PartD wx v14 (digits t 8)
  t6 : L 6 = true → PartD wx v15 (digits 0 2)
  t7 : L 7 = true → v16 = .pointer (some ⟨B, 1, none⟩)
  t8 : L 8 = true → v17 = .slice (some ⟨b, off, none⟩) n cap
  t9 : L 9 = true → v18 = .pointer (some ⟨b, off, none⟩)
  t10 : L 10 = true → v19 = .slice aj nj cj
  t11 : L 11 = true → PartD wx v20 (vec3 c)
  t12 : L 12 = true → PartD wx v21 (digits 0 2)
  t13 : L 13 = true → ∃ a' c', v22 = .slice a' 6 c' ∧ Parts wx a' 6 c' [digits 0 1, digits 0 1, digits t 8, digits 0 2, vec3 c, digits 0 2]
  t14 : L 14 = true → ∃ v, v23 = .tuple #[v, .int .i64 0] ∧ Own wx w1.heap.size 5 v ([digits 0 1, digits 0 1, digits t 8, digits 0 2, vec3 c, digits 0 2].flatten)
  t15 : L 15 = true → Own wx w1.heap.size 5 v24 ([digits 0 1, digits 0 1, digits t 8, digits 0 2, vec3 c, digits 0 2].flatten)
  t16 : L 16 = true → v25 = .int .i64 0
  t17 : L 17 = true → Own wx w1.heap.size 5 v4 ([digits 0 1, digits 0 1, digits t 8, digits 0 2, vec3 c, digits 0 2].flatten)
  t18 : L 18 = true → v5 = .int .i64 0
  bw : Below w1.heap.size w1 wx

set_option maxRecDepth 100000 in
set_option maxHeartbeats 1000000 in
theorem timestamped_any (t : Nat) (a : Option Addr) (n cap : Nat) (xss : List (List UInt8)) (w : World) (hm : n ≤ 70368744177664) (ht : t ≤ 18446744073709551615) (h : Chn w a n cap xss) :
    Calls Try.prog 33 #[.int .u64 0, entV t a n cap] w (BRes w (stampR t xss)) := by
  have hb0 := hal w (.cells #[.int .u64 (t : Int), .slice a n cap] 25)
  have H := May_any t a n cap xss _ hm (h.to hb0)
  unfold stampR
  cases hmay : mayB xss with
  | false =>
    rw [hmay] at H
    go_enter Try.func33, Try.ntmps33
    go_wp2_with (go_at_call 21; refine H.mono ?_; rintro e w1 ⟨rfl, hb1⟩)
    go_ret2
    exact ⟨_, rfl, Own.nil _ _ _, hb0.trans (hb1.mono hb0.size)⟩
  | true =>
    rw [hmay] at H
    obtain ⟨h1, h4, hall⟩ := mayB_parts hmay
    have hl := h.len
    have hcap := h.le
    obtain ⟨b, off, rfl, hb, hc⟩ := h.mem (by omega)
    obtain ⟨aj, nj, cj, hcl, hrj⟩ := hc 0 (by omega)
    have hn0 : 0 < n := by omega
    have hmem : xss.getD 0 [] ∈ xss := by simp [List.getD, hl, hn0]
    have hcl2 := (hall _ hmem).2
    simp only [if_true]
    clear hc hall hmay h h1 h4 hl hmem
    generalize xss.getD 0 [] = c at *
    go_enter Try.func33, Try.ntmps33
    go_wp2_with fail
    refine H.mono ?_
    rintro e w1 ⟨rfl, hb1⟩
    go_wp2_with fail
    have hE0 : w1.cell? ⟨w.heap.size, 0, none⟩ = some (.int .u64 (t : Int)) := (hb1.cell (p := ⟨w.heap.size, 0, none⟩) (by simp)).trans (by simp)
    have hE1 : w1.cell? ⟨w.heap.size, 1, none⟩ = some (.slice (some ⟨b, off, none⟩) n cap) := (hb1.cell (p := ⟨w.heap.size, 1, none⟩) (by simp)).trans (by simp)
    have hb01 := hb0.trans (hb1.mono hb0.size)
    have hC : w1.cell? ⟨b, off, none⟩ = some (.slice aj nj cj) := (hb01.cell (p := ⟨b, off, none⟩) hb).trans hcl
    have lb : b < w1.heap.size := Nat.lt_of_lt_of_le hb hb01.size
    have lB : w.heap.size < w1.heap.size := Nat.lt_of_lt_of_le (by simp) hb1.size
    have hR := Lib.hid (hrj.to hb01)
    have hS : Hid (stampF t c = [digits 0 1, digits 0 1, digits t 8, digits 0 2, vec3 c, digits 0 2].flatten) := rfl
    have hc3 : Hid (c.length < 256 ^ 3) := by show _ < _; simp only [Nat.reducePow]; omega
    have hc20 : Hid (c.length ≤ 1048576) := by show _ ≤ _; omega
    have hfl : Hid ([digits 0 1, digits 0 1, digits t 8, digits 0 2, vec3 c, digits 0 2].flatten.length ≤ 1048576) := by
      show _ ≤ _
      simp [digits_len, vec3_len]
      omega
    clear hrj hcl hcl2 H hb
    have HB0 := Lib.hid hb0
    have HB1 := Lib.hid hb1
    have HB01 := Lib.hid hb0.size
    clear hb0 hb1 hb01
    generalize hB : w.heap.size = B at hE0 hE1 lB ⊢
    have HB := Lib.hid hB
    clear hB
    refine wp_region_steps [[], [], [1, 0], [], [3], [4, 2], [5], [], [7], [8], [9], [10, 6], [11], [0, 2, 5, 6, 11, 12], [13, 12], [14], [14], [15], [16]] (by kernel_rfl) (by kernel_rfl) (fun L a wx => ∃ v9 v10 v11 v12 v13 v14 v15 v16 v17 v18 v19 v20 v21 v22 v23 v24 v25 v4 v5, a = ⟨#[.int .u64 0, entV t (some ⟨b, off, none⟩) n cap, undef, .pointer (some ⟨B, 0, none⟩), v4, v5, .agg #[.int .u64 (t : Int), .slice (some ⟨b, off, none⟩) n cap], .bool true, .bool false, v9, v10, v11, v12, v13, v14, v15, v16, v17, v18, v19, v20, v21, v22, v23, v24, v25], []⟩ ∧ InvStamp t c b off n cap nj cj B aj w1 L v9 v10 v11 v12 v13 v14 v15 v16 v17 v18 v19 v20 v21 v22 v23 v24 v25 v4 v5 wx) ?_ ⟨?_, ?_, ?_, ?_, ?_, ?_, ?_, ?_, ?_, ?_, ?_, ?_, ?_, ?_, ?_, ?_, ?_, ?_, ?_, trivial⟩ ?_
    · refine ⟨_, _, _, _, _, _, _, _, _, _, _, _, _, _, _, _, _, _, _, rfl, ⟨?_, ?_, ?_, ?_, ?_, ?_, ?_, ?_, ?_, ?_, ?_, ?_, ?_, ?_, ?_, ?_, ?_, ?_, ?_, below_drew (Below.refl _ _)⟩⟩ <;> (intro h; exact absurd h (by decide))
    · rintro L a wx ⟨v9, v10, v11, v12, v13, v14, v15, v16, v17, v18, v19, v20, v21, v22, v23, v24, v25, v4, v5, rfl, hI⟩ hL hdep hcl K hK
      go_simp
      refine (numP_any 0 1 (by decide) (by decide) (by decide) wx).mono ?_
      rintro e w' ⟨f, rfl, hp, hb⟩
      exact hK _ _ ⟨_, v10, v11, v12, v13, v14, v15, v16, v17, v18, v19, v20, v21, v22, v23, v24, v25, v4, v5, rfl, ⟨fun _ => hp, hI.t1, fun h => (hI.t2 h).to hb, hI.t3, hI.t4, fun h => (hI.t5 h).to hb, fun h => (hI.t6 h).to hb, hI.t7, hI.t8, hI.t9, hI.t10, fun h => (hI.t11 h).to hb, fun h => (hI.t12 h).to hb, fun h => let ⟨x, y, e, hp⟩ := hI.t13 h; ⟨x, y, e, hp.to hb⟩, fun h => let ⟨x, e, hp⟩ := hI.t14 h; ⟨x, e, hp.to hb⟩, fun h => (hI.t15 h).to hb, hI.t16, fun h => (hI.t17 h).to hb, hI.t18, (hI.bw).trans (hb.mono hI.bw.size)⟩⟩
    · rintro L a wx ⟨v9, v10, v11, v12, v13, v14, v15, v16, v17, v18, v19, v20, v21, v22, v23, v24, v25, v4, v5, rfl, hI⟩ hL hdep hcl K hK
      go_simp
      exact hK _ _ ⟨v9, _, v11, v12, v13, v14, v15, v16, v17, v18, v19, v20, v21, v22, v23, v24, v25, v4, v5, rfl, ⟨hI.t0, fun _ => rfl, hI.t2, hI.t3, hI.t4, hI.t5, hI.t6, hI.t7, hI.t8, hI.t9, hI.t10, hI.t11, hI.t12, hI.t13, hI.t14, hI.t15, hI.t16, hI.t17, hI.t18, hI.bw⟩⟩
    · rintro L a wx ⟨v9, v10, v11, v12, v13, v14, v15, v16, v17, v18, v19, v20, v21, v22, v23, v24, v25, v4, v5, rfl, hI⟩ hL hdep hcl K hK
      obtain rfl := hI.t1 (hdep 1 (by decide))
      go_simp
      refine (numP_any 0 1 (by decide) (by decide) (by decide) wx).mono ?_
      rintro e w' ⟨f, rfl, hp, hb⟩
      exact hK _ _ ⟨v9, _, _, v12, v13, v14, v15, v16, v17, v18, v19, v20, v21, v22, v23, v24, v25, v4, v5, rfl, ⟨fun h => (hI.t0 h).to hb, hI.t1, fun _ => hp, hI.t3, hI.t4, fun h => (hI.t5 h).to hb, fun h => (hI.t6 h).to hb, hI.t7, hI.t8, hI.t9, hI.t10, fun h => (hI.t11 h).to hb, fun h => (hI.t12 h).to hb, fun h => let ⟨x, y, e, hp⟩ := hI.t13 h; ⟨x, y, e, hp.to hb⟩, fun h => let ⟨x, e, hp⟩ := hI.t14 h; ⟨x, e, hp.to hb⟩, fun h => (hI.t15 h).to hb, hI.t16, fun h => (hI.t17 h).to hb, hI.t18, (hI.bw).trans (hb.mono hI.bw.size)⟩⟩
    · rintro L a wx ⟨v9, v10, v11, v12, v13, v14, v15, v16, v17, v18, v19, v20, v21, v22, v23, v24, v25, v4, v5, rfl, hI⟩ hL hdep hcl K hK
      go_simp
      exact hK _ _ ⟨v9, v10, v11, _, v13, v14, v15, v16, v17, v18, v19, v20, v21, v22, v23, v24, v25, v4, v5, rfl, ⟨hI.t0, hI.t1, hI.t2, fun _ => rfl, hI.t4, hI.t5, hI.t6, hI.t7, hI.t8, hI.t9, hI.t10, hI.t11, hI.t12, hI.t13, hI.t14, hI.t15, hI.t16, hI.t17, hI.t18, hI.bw⟩⟩
    · rintro L a wx ⟨v9, v10, v11, v12, v13, v14, v15, v16, v17, v18, v19, v20, v21, v22, v23, v24, v25, v4, v5, rfl, hI⟩ hL hdep hcl K hK
      obtain rfl := hI.t3 (hdep 3 (by decide))
      have c3 := (hI.bw.cell (p := ⟨B, 0, none⟩) lB).trans hE0
      go_simp
      exact hK _ _ ⟨v9, v10, v11, _, _, v14, v15, v16, v17, v18, v19, v20, v21, v22, v23, v24, v25, v4, v5, rfl, ⟨hI.t0, hI.t1, hI.t2, hI.t3, fun _ => rfl, hI.t5, hI.t6, hI.t7, hI.t8, hI.t9, hI.t10, hI.t11, hI.t12, hI.t13, hI.t14, hI.t15, hI.t16, hI.t17, hI.t18, hI.bw⟩⟩
    · rintro L a wx ⟨v9, v10, v11, v12, v13, v14, v15, v16, v17, v18, v19, v20, v21, v22, v23, v24, v25, v4, v5, rfl, hI⟩ hL hdep hcl K hK
      obtain rfl := hI.t4 (hdep 4 (by decide))
      go_simp
      refine (numP_any t 8 ht (by decide) (by simpa using Nat.lt_succ_of_le ht) wx).mono ?_
      rintro e w' ⟨f, rfl, hp, hb⟩
      exact hK _ _ ⟨v9, v10, v11, v12, _, _, v15, v16, v17, v18, v19, v20, v21, v22, v23, v24, v25, v4, v5, rfl, ⟨fun h => (hI.t0 h).to hb, hI.t1, fun h => (hI.t2 h).to hb, hI.t3, hI.t4, fun _ => hp, fun h => (hI.t6 h).to hb, hI.t7, hI.t8, hI.t9, hI.t10, fun h => (hI.t11 h).to hb, fun h => (hI.t12 h).to hb, fun h => let ⟨x, y, e, hp⟩ := hI.t13 h; ⟨x, y, e, hp.to hb⟩, fun h => let ⟨x, e, hp⟩ := hI.t14 h; ⟨x, e, hp.to hb⟩, fun h => (hI.t15 h).to hb, hI.t16, fun h => (hI.t17 h).to hb, hI.t18, (hI.bw).trans (hb.mono hI.bw.size)⟩⟩
    · rintro L a wx ⟨v9, v10, v11, v12, v13, v14, v15, v16, v17, v18, v19, v20, v21, v22, v23, v24, v25, v4, v5, rfl, hI⟩ hL hdep hcl K hK
      go_simp
      refine (numP_any 0 2 (by decide) (by decide) (by decide) wx).mono ?_
      rintro e w' ⟨f, rfl, hp, hb⟩
      exact hK _ _ ⟨v9, v10, v11, v12, v13, v14, _, v16, v17, v18, v19, v20, v21, v22, v23, v24, v25, v4, v5, rfl, ⟨fun h => (hI.t0 h).to hb, hI.t1, fun h => (hI.t2 h).to hb, hI.t3, hI.t4, fun h => (hI.t5 h).to hb, fun _ => hp, hI.t7, hI.t8, hI.t9, hI.t10, fun h => (hI.t11 h).to hb, fun h => (hI.t12 h).to hb, fun h => let ⟨x, y, e, hp⟩ := hI.t13 h; ⟨x, y, e, hp.to hb⟩, fun h => let ⟨x, e, hp⟩ := hI.t14 h; ⟨x, e, hp.to hb⟩, fun h => (hI.t15 h).to hb, hI.t16, fun h => (hI.t17 h).to hb, hI.t18, (hI.bw).trans (hb.mono hI.bw.size)⟩⟩
    · rintro L a wx ⟨v9, v10, v11, v12, v13, v14, v15, v16, v17, v18, v19, v20, v21, v22, v23, v24, v25, v4, v5, rfl, hI⟩ hL hdep hcl K hK
      go_simp
      exact hK _ _ ⟨v9, v10, v11, v12, v13, v14, v15, _, v17, v18, v19, v20, v21, v22, v23, v24, v25, v4, v5, rfl, ⟨hI.t0, hI.t1, hI.t2, hI.t3, hI.t4, hI.t5, hI.t6, fun _ => rfl, hI.t8, hI.t9, hI.t10, hI.t11, hI.t12, hI.t13, hI.t14, hI.t15, hI.t16, hI.t17, hI.t18, hI.bw⟩⟩
    · rintro L a wx ⟨v9, v10, v11, v12, v13, v14, v15, v16, v17, v18, v19, v20, v21, v22, v23, v24, v25, v4, v5, rfl, hI⟩ hL hdep hcl K hK
      obtain rfl := hI.t7 (hdep 7 (by decide))
      have c3 := (hI.bw.cell (p := ⟨B, 1, none⟩) lB).trans hE1
      go_simp
      exact hK _ _ ⟨v9, v10, v11, v12, v13, v14, v15, _, _, v18, v19, v20, v21, v22, v23, v24, v25, v4, v5, rfl, ⟨hI.t0, hI.t1, hI.t2, hI.t3, hI.t4, hI.t5, hI.t6, hI.t7, fun _ => rfl, hI.t9, hI.t10, hI.t11, hI.t12, hI.t13, hI.t14, hI.t15, hI.t16, hI.t17, hI.t18, hI.bw⟩⟩
    · rintro L a wx ⟨v9, v10, v11, v12, v13, v14, v15, v16, v17, v18, v19, v20, v21, v22, v23, v24, v25, v4, v5, rfl, hI⟩ hL hdep hcl K hK
      obtain rfl := hI.t8 (hdep 8 (by decide))
      go_simp
      exact hK _ _ ⟨v9, v10, v11, v12, v13, v14, v15, v16, _, _, v19, v20, v21, v22, v23, v24, v25, v4, v5, rfl, ⟨hI.t0, hI.t1, hI.t2, hI.t3, hI.t4, hI.t5, hI.t6, hI.t7, hI.t8, fun _ => rfl, hI.t10, hI.t11, hI.t12, hI.t13, hI.t14, hI.t15, hI.t16, hI.t17, hI.t18, hI.bw⟩⟩
    · rintro L a wx ⟨v9, v10, v11, v12, v13, v14, v15, v16, v17, v18, v19, v20, v21, v22, v23, v24, v25, v4, v5, rfl, hI⟩ hL hdep hcl K hK
      obtain rfl := hI.t9 (hdep 9 (by decide))
      have c3 := (hI.bw.cell (p := ⟨b, off, none⟩) lb).trans hC
      go_simp
      exact hK _ _ ⟨v9, v10, v11, v12, v13, v14, v15, v16, v17, _, _, v20, v21, v22, v23, v24, v25, v4, v5, rfl, ⟨hI.t0, hI.t1, hI.t2, hI.t3, hI.t4, hI.t5, hI.t6, hI.t7, hI.t8, hI.t9, fun _ => rfl, hI.t11, hI.t12, hI.t13, hI.t14, hI.t15, hI.t16, hI.t17, hI.t18, hI.bw⟩⟩
    · rintro L a wx ⟨v9, v10, v11, v12, v13, v14, v15, v16, v17, v18, v19, v20, v21, v22, v23, v24, v25, v4, v5, rfl, hI⟩ hL hdep hcl K hK
      obtain rfl := hI.t10 (hdep 10 (by decide))
      go_simp
      refine (vecP_any aj nj cj 3 (by decide) c wx (hR.out.to hI.bw) hc3.out hc20.out).mono ?_
      rintro e w' ⟨f, rfl, hp, hb⟩
      exact hK _ _ ⟨v9, v10, v11, v12, v13, v14, v15, v16, v17, v18, _, _, v21, v22, v23, v24, v25, v4, v5, rfl, ⟨fun h => (hI.t0 h).to hb, hI.t1, fun h => (hI.t2 h).to hb, hI.t3, hI.t4, fun h => (hI.t5 h).to hb, fun h => (hI.t6 h).to hb, hI.t7, hI.t8, hI.t9, hI.t10, fun _ => hp, fun h => (hI.t12 h).to hb, fun h => let ⟨x, y, e, hp⟩ := hI.t13 h; ⟨x, y, e, hp.to hb⟩, fun h => let ⟨x, e, hp⟩ := hI.t14 h; ⟨x, e, hp.to hb⟩, fun h => (hI.t15 h).to hb, hI.t16, fun h => (hI.t17 h).to hb, hI.t18, (hI.bw).trans (hb.mono hI.bw.size)⟩⟩
    · rintro L a wx ⟨v9, v10, v11, v12, v13, v14, v15, v16, v17, v18, v19, v20, v21, v22, v23, v24, v25, v4, v5, rfl, hI⟩ hL hdep hcl K hK
      go_simp
      refine (vecP_any none 0 0 2 (by decide) [] wx (Rd.none wx) (by decide) (by decide)).mono ?_
      rintro e w' ⟨f, rfl, hp, hb⟩
      exact hK _ _ ⟨v9, v10, v11, v12, v13, v14, v15, v16, v17, v18, v19, v20, _, v22, v23, v24, v25, v4, v5, rfl, ⟨fun h => (hI.t0 h).to hb, hI.t1, fun h => (hI.t2 h).to hb, hI.t3, hI.t4, fun h => (hI.t5 h).to hb, fun h => (hI.t6 h).to hb, hI.t7, hI.t8, hI.t9, hI.t10, fun h => (hI.t11 h).to hb, fun _ => hp, fun h => let ⟨x, y, e, hp⟩ := hI.t13 h; ⟨x, y, e, hp.to hb⟩, fun h => let ⟨x, e, hp⟩ := hI.t14 h; ⟨x, e, hp.to hb⟩, fun h => (hI.t15 h).to hb, hI.t16, fun h => (hI.t17 h).to hb, hI.t18, (hI.bw).trans (hb.mono hI.bw.size)⟩⟩
    · rintro L a wx ⟨v9, v10, v11, v12, v13, v14, v15, v16, v17, v18, v19, v20, v21, v22, v23, v24, v25, v4, v5, rfl, hI⟩ hL hdep hcl K hK
      obtain ⟨k0, c0, rfl, p0⟩ := hI.t0 (hdep 0 (by decide))
      obtain ⟨k2, c2, rfl, p2⟩ := hI.t2 (hdep 2 (by decide))
      obtain ⟨k5, c5, rfl, p5⟩ := hI.t5 (hdep 5 (by decide))
      obtain ⟨k6, c6, rfl, p6⟩ := hI.t6 (hdep 6 (by decide))
      obtain ⟨k11, c11, rfl, p11⟩ := hI.t11 (hdep 11 (by decide))
      obtain ⟨k12, c12, rfl, p12⟩ := hI.t12 (hdep 12 (by decide))
      have hb := hal wx (.cells #[.func (.func k0) #[] c0, .func (.func k2) #[] c2, .func (.func k5) #[] c5, .func (.func k6) #[] c6, .func (.func k11) #[] c11, .func (.func k12) #[] c12] 67)
      have hpp := parts_lit (T := 67) [_, _, _, _, _, _] [digits 0 1, digits 0 1, digits t 8, digits 0 2, vec3 c, digits 0 2] wx ⟨⟨k0, c0, rfl, p0⟩, ⟨k2, c2, rfl, p2⟩, ⟨k5, c5, rfl, p5⟩, ⟨k6, c6, rfl, p6⟩, ⟨k11, c11, rfl, p11⟩, ⟨k12, c12, rfl, p12⟩, trivial⟩
      go_simp
      exact hK _ _ ⟨_, v10, _, v12, v13, _, _, v16, v17, v18, v19, _, _, _, v23, v24, v25, v4, v5, rfl, ⟨fun h => (hI.t0 h).to hb, hI.t1, fun h => (hI.t2 h).to hb, hI.t3, hI.t4, fun h => (hI.t5 h).to hb, fun h => (hI.t6 h).to hb, hI.t7, hI.t8, hI.t9, hI.t10, fun h => (hI.t11 h).to hb, fun h => (hI.t12 h).to hb, fun _ => ⟨_, _, rfl, hpp⟩, fun h => let ⟨x, e, hp⟩ := hI.t14 h; ⟨x, e, hp.to hb⟩, fun h => (hI.t15 h).to hb, hI.t16, fun h => (hI.t17 h).to hb, hI.t18, (hI.bw).trans (hb.mono hI.bw.size)⟩⟩
    · rintro L a wx ⟨v9, v10, v11, v12, v13, v14, v15, v16, v17, v18, v19, v20, v21, v22, v23, v24, v25, v4, v5, rfl, hI⟩ hL hdep hcl K hK
      obtain ⟨x, y, rfl, hpp⟩ := hI.t13 (hdep 13 (by decide))
      go_simp
      refine (lay_all _ _ _ _ wx (by decide) hfl.out hpp).mono ?_
      rintro e w' ⟨v, rfl, ho, hb⟩
      exact hK _ _ ⟨v9, v10, v11, v12, v13, v14, v15, v16, v17, v18, v19, v20, v21, _, _, v24, v25, v4, v5, rfl, ⟨fun h => (hI.t0 h).to hb, hI.t1, fun h => (hI.t2 h).to hb, hI.t3, hI.t4, fun h => (hI.t5 h).to hb, fun h => (hI.t6 h).to hb, hI.t7, hI.t8, hI.t9, hI.t10, fun h => (hI.t11 h).to hb, fun h => (hI.t12 h).to hb, fun _ => ⟨_, _, rfl, hpp.to hb⟩, fun _ => ⟨v, rfl, ho.mono hI.bw.size⟩, fun h => (hI.t15 h).to hb, hI.t16, fun h => (hI.t17 h).to hb, hI.t18, (hI.bw).trans (hb.mono hI.bw.size)⟩⟩
    · rintro L a wx ⟨v9, v10, v11, v12, v13, v14, v15, v16, v17, v18, v19, v20, v21, v22, v23, v24, v25, v4, v5, rfl, hI⟩ hL hdep hcl K hK
      obtain ⟨x, rfl, ho⟩ := hI.t14 (hdep 14 (by decide))
      go_simp
      exact hK _ _ ⟨v9, v10, v11, v12, v13, v14, v15, v16, v17, v18, v19, v20, v21, v22, _, _, v25, v4, v5, rfl, ⟨hI.t0, hI.t1, hI.t2, hI.t3, hI.t4, hI.t5, hI.t6, hI.t7, hI.t8, hI.t9, hI.t10, hI.t11, hI.t12, hI.t13, fun _ => ⟨_, rfl, ho⟩, fun _ => ho, hI.t16, hI.t17, hI.t18, hI.bw⟩⟩
    · rintro L a wx ⟨v9, v10, v11, v12, v13, v14, v15, v16, v17, v18, v19, v20, v21, v22, v23, v24, v25, v4, v5, rfl, hI⟩ hL hdep hcl K hK
      obtain ⟨x, rfl, ho⟩ := hI.t14 (hdep 14 (by decide))
      go_simp
      exact hK _ _ ⟨v9, v10, v11, v12, v13, v14, v15, v16, v17, v18, v19, v20, v21, v22, _, v24, _, v4, v5, rfl, ⟨hI.t0, hI.t1, hI.t2, hI.t3, hI.t4, hI.t5, hI.t6, hI.t7, hI.t8, hI.t9, hI.t10, hI.t11, hI.t12, hI.t13, fun _ => ⟨_, rfl, ho⟩, hI.t15, fun _ => rfl, hI.t17, hI.t18, hI.bw⟩⟩
    · rintro L a wx ⟨v9, v10, v11, v12, v13, v14, v15, v16, v17, v18, v19, v20, v21, v22, v23, v24, v25, v4, v5, rfl, hI⟩ hL hdep hcl K hK
      have ho := hI.t15 (hdep 15 (by decide))
      go_simp
      exact hK _ _ ⟨v9, v10, v11, v12, v13, v14, v15, v16, v17, v18, v19, v20, v21, v22, v23, v24, v25, _, v5, rfl, ⟨hI.t0, hI.t1, hI.t2, hI.t3, hI.t4, hI.t5, hI.t6, hI.t7, hI.t8, hI.t9, hI.t10, hI.t11, hI.t12, hI.t13, hI.t14, hI.t15, hI.t16, fun _ => ho, hI.t18, hI.bw⟩⟩
    · rintro L a wx ⟨v9, v10, v11, v12, v13, v14, v15, v16, v17, v18, v19, v20, v21, v22, v23, v24, v25, v4, v5, rfl, hI⟩ hL hdep hcl K hK
      obtain rfl := hI.t16 (hdep 16 (by decide))
      go_simp
      exact hK _ _ ⟨v9, v10, v11, v12, v13, v14, v15, v16, v17, v18, v19, v20, v21, v22, v23, v24, _, v4, _, rfl, ⟨hI.t0, hI.t1, hI.t2, hI.t3, hI.t4, hI.t5, hI.t6, hI.t7, hI.t8, hI.t9, hI.t10, hI.t11, hI.t12, hI.t13, hI.t14, hI.t15, hI.t16, hI.t17, fun _ => rfl, hI.bw⟩⟩
    · rintro a wx ⟨v9, v10, v11, v12, v13, v14, v15, v16, v17, v18, v19, v20, v21, v22, v23, v24, v25, v4, v5, rfl, hI⟩
      obtain rfl := hI.t18 rfl
      have hv := hI.t17 rfl
      have hbw := hI.bw
      go_wp2
      go_ret2
      have hb0 := HB0.out
      have hb1 := HB1.out
      exact ⟨_, rfl, hS.out ▸ hv.mono (Nat.le_trans HB01.out hb1.size), hb0.trans ((hb1.trans (hbw.mono hb1.size)).mono HB01.out)⟩
end Go.Proofs.Ytcohcjhbkiangaa
