/-
  What is signed for a head, by the program and by the document: a contract for each. Conditions: those in each statement.
-/
import Derived.Test.YtcohcjhbkiangaaEnH
import Derived.Test.YtcohcjhbkiangaaArr
namespace Go.Proofs.Ytcohcjhbkiangaa
open Go.RowKit

def headF (sz tm : Nat) (root : List UInt8) : List UInt8 := [0, 1] ++ digits tm 8 ++ digits sz 8 ++ root

/-- a head's cells -/
def hdL (sz tm : Nat) (root sig : List UInt8) : List Value := .int .u64 (sz : Int) :: .int .u64 (tm : Int) :: (root.map bv ++ sig.map bv)

theorem hd_one (sz tm : Nat) (root sig : List UInt8) : ∀ v ∈ hdL sz tm root sig, v.oneCell' = true := by
  intro v hv
  simp only [hdL, List.mem_cons, List.mem_append, List.mem_map] at hv
  rcases hv with rfl | rfl | ⟨x, _, rfl⟩ | ⟨x, _, rfl⟩ <;> rfl
theorem rd_arr {w : World} {g : Nat} {T : TypeId} {xs : List Value} (h : Arr w g T xs) (o n : Nat) (ys : List UInt8) (hl : ys.length = n) (hc : ∀ j, j < n → xs[o + j]? = some (bv (ys.getD j 0))) : Rd w (some ⟨g, o, none⟩) n n ys := by
  refine ⟨hl, Nat.le_refl _, by (intro e; cases e), fun _ => ⟨g, o, rfl, h.lt, fun j hj => ?_⟩⟩
  rw [h.cell, hc j hj]
  rfl
theorem hd_root (sz tm : Nat) (root sig : List UInt8) (hl : root.length = 32) : ∀ j, j < 32 → (hdL sz tm root sig)[2 + j]? = some (bv (root.getD j 0)) := by
  intro j hj
  have e : 2 + j = j + 1 + 1 := by omega
  rw [e, hdL, List.getElem?_cons_succ, List.getElem?_cons_succ, List.getElem?_append_left (by simp; omega)]
  simp [List.getD, hl, hj]

structure InvHead (sz tm B : Nat) (hd : List Value) (w1 : World) (L : Nat → Bool) (v6 v7 v8 v9 v10 v11 v12 v13 v14 v15 v5 v16 v17 v3 v4 : Value) (wx : World) : Prop where
  t0 : L 0 = true → PartD wx v6 (digits 0 1)
  t1 : L 1 = true → PartD wx v7 (digits 1 1)
  t2 : L 2 = true → v8 = .pointer (some ⟨B, 1, none⟩)
  t3 : L 3 = true → v9 = .int .u64 (tm : Int)
  t4 : L 4 = true → PartD wx v10 (digits tm 8)
  t5 : L 5 = true → v11 = .pointer (some ⟨B, 0, none⟩)
  t6 : L 6 = true → v12 = .int .u64 (sz : Int)
  t7 : L 7 = true → PartD wx v13 (digits sz 8)
  t8 : L 8 = true → ∃ a' c', v14 = .slice a' 4 c' ∧ Parts wx a' 4 c' [digits 0 1, digits 1 1, digits tm 8, digits sz 8]
  t9 : L 9 = true → ∃ v, v15 = .tuple #[v, .int .i64 0] ∧ Own wx w1.heap.size 5 v ([digits 0 1, digits 1 1, digits tm 8, digits sz 8].flatten)
  t10 : L 10 = true → ∃ v, v5 = .tuple #[v, .int .i64 0] ∧ Own wx w1.heap.size 5 v ([digits 0 1, digits 1 1, digits tm 8, digits sz 8].flatten)
  t11 : L 11 = true → Own wx w1.heap.size 5 v16 ([digits 0 1, digits 1 1, digits tm 8, digits sz 8].flatten)
  t12 : L 12 = true → v17 = .int .i64 0
  t13 : L 13 = true → Own wx w1.heap.size 5 v3 ([digits 0 1, digits 1 1, digits tm 8, digits sz 8].flatten)
  t14 : L 14 = true → v4 = .int .i64 0
  bw : Below w1.heap.size w1 wx

set_option maxRecDepth 100000 in
set_option maxHeartbeats 1000000 in
theorem SignedHead_any (sz tm : Nat) (root sig : List UInt8) (w : World) (hsz : sz ≤ 18446744073709551615) (htm : tm ≤ 18446744073709551615) (hroot : root.length = 32) :
    Calls Try.prog 31 #[.agg (hdL sz tm root sig).toArray] w fun e w' => ∃ v, e = .returned v ∧ Own w' w.heap.size 5 v (headF sz tm root) ∧ Below w.heap.size w w' := by
  have hcells := Lib.hid (hd_root sz tm root sig hroot)
  have h0 : (hdL sz tm root sig)[0]? = some (.int .u64 (sz : Int)) := rfl
  have h1 : (hdL sz tm root sig)[1]? = some (.int .u64 (tm : Int)) := rfl
  have hS : Hid (headF sz tm root = [digits 0 1, digits 1 1, digits tm 8, digits sz 8].flatten ++ root) := by
    show _ = _
    have e1 : digits 0 1 = [0] := by decide
    have e2 : digits 1 1 = [1] := by decide
    simp [headF, e1, e2]
  generalize hdL sz tm root sig = hd at *
  go_enter Try.func31, Try.ntmps31
  go_wp2_with (((with_reducible show wpList _ _ _ (⟨some 1, .box _ _, _, _, _, _⟩ :: _) _ _); refine wl_box rfl 55 _ rfl hd rfl ?_; intro w1 hA1 hb1 hs1))
  have hE0 : w1.cell? ⟨w.heap.size, 0, none⟩ = some (.int .u64 (sz : Int)) := (hA1.cell 0).trans h0
  have hE1 : w1.cell? ⟨w.heap.size, 1, none⟩ = some (.int .u64 (tm : Int)) := (hA1.cell 1).trans h1
  have lB := hs1
  have HB1 := Lib.hid hb1
  clear hb1 h0 h1
  generalize hB : w.heap.size = B at hE0 hE1 lB hA1 hs1 ⊢
  have HB := Lib.hid hB
  clear hB
  refine wp_region_steps [[], [0], [], [2], [3, 1], [], [5], [6, 4], [0, 1, 4, 7], [8, 7], [9], [10], [10], [11], [12]] (by kernel_rfl) (by kernel_rfl) (fun L a wx => ∃ v6 v7 v8 v9 v10 v11 v12 v13 v14 v15 v5 v16 v17 v3 v4, a = ⟨#[.agg hd.toArray, .pointer (some ⟨B, 0, none⟩), .slice none 0 0, v3, v4, v5, v6, v7, v8, v9, v10, v11, v12, v13, v14, v15, v16, v17, undef, undef, undef, undef], []⟩ ∧ InvHead sz tm B hd w1 L v6 v7 v8 v9 v10 v11 v12 v13 v14 v15 v5 v16 v17 v3 v4 wx) ?_ ⟨?_, ?_, ?_, ?_, ?_, ?_, ?_, ?_, ?_, ?_, ?_, ?_, ?_, ?_, ?_, trivial⟩ ?_
  · refine ⟨_, _, _, _, _, _, _, _, _, _, _, _, _, _, _, rfl, ⟨?_, ?_, ?_, ?_, ?_, ?_, ?_, ?_, ?_, ?_, ?_, ?_, ?_, ?_, ?_, below_drew (Below.refl _ _)⟩⟩ <;> (intro h; exact absurd h (by decide))
  · rintro L a wx ⟨v6, v7, v8, v9, v10, v11, v12, v13, v14, v15, v5, v16, v17, v3, v4, rfl, hI⟩ hL hdep hcl K hK
    go_simp
    refine (numP_any 0 1 (by decide) (by decide) (by decide) wx).mono ?_
    rintro e w' ⟨f, rfl, hp, hb⟩
    exact hK _ _ ⟨_, v7, v8, v9, v10, v11, v12, v13, v14, v15, v5, v16, v17, v3, v4, rfl, ⟨fun _ => hp, fun h => (hI.t1 h).to hb, hI.t2, hI.t3, fun h => (hI.t4 h).to hb, hI.t5, hI.t6, fun h => (hI.t7 h).to hb, fun h => let ⟨x, y, e, hp⟩ := hI.t8 h; ⟨x, y, e, hp.to hb⟩, fun h => let ⟨x, e, hp⟩ := hI.t9 h; ⟨x, e, hp.to hb⟩, fun h => let ⟨x, e, hp⟩ := hI.t10 h; ⟨x, e, hp.to hb⟩, fun h => (hI.t11 h).to hb, hI.t12, fun h => (hI.t13 h).to hb, hI.t14, (hI.bw).trans (hb.mono hI.bw.size)⟩⟩
  · rintro L a wx ⟨v6, v7, v8, v9, v10, v11, v12, v13, v14, v15, v5, v16, v17, v3, v4, rfl, hI⟩ hL hdep hcl K hK
    go_simp
    refine (numP_any 1 1 (by decide) (by decide) (by decide) wx).mono ?_
    rintro e w' ⟨f, rfl, hp, hb⟩
    exact hK _ _ ⟨v6, _, v8, v9, v10, v11, v12, v13, v14, v15, v5, v16, v17, v3, v4, rfl, ⟨fun h => (hI.t0 h).to hb, fun _ => hp, hI.t2, hI.t3, fun h => (hI.t4 h).to hb, hI.t5, hI.t6, fun h => (hI.t7 h).to hb, fun h => let ⟨x, y, e, hp⟩ := hI.t8 h; ⟨x, y, e, hp.to hb⟩, fun h => let ⟨x, e, hp⟩ := hI.t9 h; ⟨x, e, hp.to hb⟩, fun h => let ⟨x, e, hp⟩ := hI.t10 h; ⟨x, e, hp.to hb⟩, fun h => (hI.t11 h).to hb, hI.t12, fun h => (hI.t13 h).to hb, hI.t14, (hI.bw).trans (hb.mono hI.bw.size)⟩⟩
  · rintro L a wx ⟨v6, v7, v8, v9, v10, v11, v12, v13, v14, v15, v5, v16, v17, v3, v4, rfl, hI⟩ hL hdep hcl K hK
    go_simp
    exact hK _ _ ⟨v6, v7, _, v9, v10, v11, v12, v13, v14, v15, v5, v16, v17, v3, v4, rfl, ⟨hI.t0, hI.t1, fun _ => rfl, hI.t3, hI.t4, hI.t5, hI.t6, hI.t7, hI.t8, hI.t9, hI.t10, hI.t11, hI.t12, hI.t13, hI.t14, hI.bw⟩⟩
  · rintro L a wx ⟨v6, v7, v8, v9, v10, v11, v12, v13, v14, v15, v5, v16, v17, v3, v4, rfl, hI⟩ hL hdep hcl K hK
    obtain rfl := hI.t2 (hdep 2 (by decide))
    have c3 := (hI.bw.cell (p := ⟨B, 1, none⟩) lB).trans hE1
    go_simp
    exact hK _ _ ⟨v6, v7, _, _, v10, v11, v12, v13, v14, v15, v5, v16, v17, v3, v4, rfl, ⟨hI.t0, hI.t1, hI.t2, fun _ => rfl, hI.t4, hI.t5, hI.t6, hI.t7, hI.t8, hI.t9, hI.t10, hI.t11, hI.t12, hI.t13, hI.t14, hI.bw⟩⟩
  · rintro L a wx ⟨v6, v7, v8, v9, v10, v11, v12, v13, v14, v15, v5, v16, v17, v3, v4, rfl, hI⟩ hL hdep hcl K hK
    obtain rfl := hI.t3 (hdep 3 (by decide))
    go_simp
    refine (numP_any tm 8 htm (by decide) (by simpa using Nat.lt_succ_of_le htm) wx).mono ?_
    rintro e w' ⟨f, rfl, hp, hb⟩
    exact hK _ _ ⟨v6, v7, v8, _, _, v11, v12, v13, v14, v15, v5, v16, v17, v3, v4, rfl, ⟨fun h => (hI.t0 h).to hb, fun h => (hI.t1 h).to hb, hI.t2, hI.t3, fun _ => hp, hI.t5, hI.t6, fun h => (hI.t7 h).to hb, fun h => let ⟨x, y, e, hp⟩ := hI.t8 h; ⟨x, y, e, hp.to hb⟩, fun h => let ⟨x, e, hp⟩ := hI.t9 h; ⟨x, e, hp.to hb⟩, fun h => let ⟨x, e, hp⟩ := hI.t10 h; ⟨x, e, hp.to hb⟩, fun h => (hI.t11 h).to hb, hI.t12, fun h => (hI.t13 h).to hb, hI.t14, (hI.bw).trans (hb.mono hI.bw.size)⟩⟩
  · rintro L a wx ⟨v6, v7, v8, v9, v10, v11, v12, v13, v14, v15, v5, v16, v17, v3, v4, rfl, hI⟩ hL hdep hcl K hK
    go_simp
    exact hK _ _ ⟨v6, v7, v8, v9, v10, _, v12, v13, v14, v15, v5, v16, v17, v3, v4, rfl, ⟨hI.t0, hI.t1, hI.t2, hI.t3, hI.t4, fun _ => rfl, hI.t6, hI.t7, hI.t8, hI.t9, hI.t10, hI.t11, hI.t12, hI.t13, hI.t14, hI.bw⟩⟩
  · rintro L a wx ⟨v6, v7, v8, v9, v10, v11, v12, v13, v14, v15, v5, v16, v17, v3, v4, rfl, hI⟩ hL hdep hcl K hK
    obtain rfl := hI.t5 (hdep 5 (by decide))
    have c3 := (hI.bw.cell (p := ⟨B, 0, none⟩) lB).trans hE0
    go_simp
    exact hK _ _ ⟨v6, v7, v8, v9, v10, _, _, v13, v14, v15, v5, v16, v17, v3, v4, rfl, ⟨hI.t0, hI.t1, hI.t2, hI.t3, hI.t4, hI.t5, fun _ => rfl, hI.t7, hI.t8, hI.t9, hI.t10, hI.t11, hI.t12, hI.t13, hI.t14, hI.bw⟩⟩
  · rintro L a wx ⟨v6, v7, v8, v9, v10, v11, v12, v13, v14, v15, v5, v16, v17, v3, v4, rfl, hI⟩ hL hdep hcl K hK
    obtain rfl := hI.t6 (hdep 6 (by decide))
    go_simp
    refine (numP_any sz 8 hsz (by decide) (by simpa using Nat.lt_succ_of_le hsz) wx).mono ?_
    rintro e w' ⟨f, rfl, hp, hb⟩
    exact hK _ _ ⟨v6, v7, v8, v9, v10, v11, _, _, v14, v15, v5, v16, v17, v3, v4, rfl, ⟨fun h => (hI.t0 h).to hb, fun h => (hI.t1 h).to hb, hI.t2, hI.t3, fun h => (hI.t4 h).to hb, hI.t5, hI.t6, fun _ => hp, fun h => let ⟨x, y, e, hp⟩ := hI.t8 h; ⟨x, y, e, hp.to hb⟩, fun h => let ⟨x, e, hp⟩ := hI.t9 h; ⟨x, e, hp.to hb⟩, fun h => let ⟨x, e, hp⟩ := hI.t10 h; ⟨x, e, hp.to hb⟩, fun h => (hI.t11 h).to hb, hI.t12, fun h => (hI.t13 h).to hb, hI.t14, (hI.bw).trans (hb.mono hI.bw.size)⟩⟩
  · rintro L a wx ⟨v6, v7, v8, v9, v10, v11, v12, v13, v14, v15, v5, v16, v17, v3, v4, rfl, hI⟩ hL hdep hcl K hK
    obtain ⟨k0, c0, rfl, p0⟩ := hI.t0 (hdep 0 (by decide))
    obtain ⟨k1, c1, rfl, p1⟩ := hI.t1 (hdep 1 (by decide))
    obtain ⟨k4, c4, rfl, p4⟩ := hI.t4 (hdep 4 (by decide))
    obtain ⟨k7, c7, rfl, p7⟩ := hI.t7 (hdep 7 (by decide))
    have hb := hal wx (.cells #[.func (.func k0) #[] c0, .func (.func k1) #[] c1, .func (.func k4) #[] c4, .func (.func k7) #[] c7] 67)
    have hpp := parts_lit (T := 67) [_, _, _, _] [digits 0 1, digits 1 1, digits tm 8, digits sz 8] wx ⟨⟨k0, c0, rfl, p0⟩, ⟨k1, c1, rfl, p1⟩, ⟨k4, c4, rfl, p4⟩, ⟨k7, c7, rfl, p7⟩, trivial⟩
    go_simp
    exact hK _ _ ⟨_, _, v8, v9, _, v11, v12, _, _, v15, v5, v16, v17, v3, v4, rfl, ⟨fun h => (hI.t0 h).to hb, fun h => (hI.t1 h).to hb, hI.t2, hI.t3, fun h => (hI.t4 h).to hb, hI.t5, hI.t6, fun h => (hI.t7 h).to hb, fun _ => ⟨_, _, rfl, hpp⟩, fun h => let ⟨x, e, hp⟩ := hI.t9 h; ⟨x, e, hp.to hb⟩, fun h => let ⟨x, e, hp⟩ := hI.t10 h; ⟨x, e, hp.to hb⟩, fun h => (hI.t11 h).to hb, hI.t12, fun h => (hI.t13 h).to hb, hI.t14, (hI.bw).trans (hb.mono hI.bw.size)⟩⟩
  · rintro L a wx ⟨v6, v7, v8, v9, v10, v11, v12, v13, v14, v15, v5, v16, v17, v3, v4, rfl, hI⟩ hL hdep hcl K hK
    obtain ⟨x, y, rfl, hpp⟩ := hI.t8 (hdep 8 (by decide))
    go_simp
    refine (lay_all _ _ _ _ wx (by decide) (by simp [digits_len]) hpp).mono ?_
    rintro e w' ⟨v, rfl, ho, hb⟩
    exact hK _ _ ⟨v6, v7, v8, v9, v10, v11, v12, v13, _, _, v5, v16, v17, v3, v4, rfl, ⟨fun h => (hI.t0 h).to hb, fun h => (hI.t1 h).to hb, hI.t2, hI.t3, fun h => (hI.t4 h).to hb, hI.t5, hI.t6, fun h => (hI.t7 h).to hb, fun _ => ⟨_, _, rfl, hpp.to hb⟩, fun _ => ⟨v, rfl, ho.mono hI.bw.size⟩, fun h => let ⟨x, e, hp⟩ := hI.t10 h; ⟨x, e, hp.to hb⟩, fun h => (hI.t11 h).to hb, hI.t12, fun h => (hI.t13 h).to hb, hI.t14, (hI.bw).trans (hb.mono hI.bw.size)⟩⟩
  · rintro L a wx ⟨v6, v7, v8, v9, v10, v11, v12, v13, v14, v15, v5, v16, v17, v3, v4, rfl, hI⟩ hL hdep hcl K hK
    obtain ⟨x, rfl, ho⟩ := hI.t9 (hdep 9 (by decide))
    go_simp
    exact hK _ _ ⟨v6, v7, v8, v9, v10, v11, v12, v13, v14, _, _, v16, v17, v3, v4, rfl, ⟨hI.t0, hI.t1, hI.t2, hI.t3, hI.t4, hI.t5, hI.t6, hI.t7, hI.t8, fun _ => ⟨_, rfl, ho⟩, fun _ => ⟨_, rfl, ho⟩, hI.t11, hI.t12, hI.t13, hI.t14, hI.bw⟩⟩
  · rintro L a wx ⟨v6, v7, v8, v9, v10, v11, v12, v13, v14, v15, v5, v16, v17, v3, v4, rfl, hI⟩ hL hdep hcl K hK
    obtain ⟨x, rfl, ho⟩ := hI.t10 (hdep 10 (by decide))
    go_simp
    exact hK _ _ ⟨v6, v7, v8, v9, v10, v11, v12, v13, v14, v15, _, _, v17, v3, v4, rfl, ⟨hI.t0, hI.t1, hI.t2, hI.t3, hI.t4, hI.t5, hI.t6, hI.t7, hI.t8, hI.t9, fun _ => ⟨_, rfl, ho⟩, fun _ => ho, hI.t12, hI.t13, hI.t14, hI.bw⟩⟩
  · rintro L a wx ⟨v6, v7, v8, v9, v10, v11, v12, v13, v14, v15, v5, v16, v17, v3, v4, rfl, hI⟩ hL hdep hcl K hK
    obtain ⟨x, rfl, ho⟩ := hI.t10 (hdep 10 (by decide))
    go_simp
    exact hK _ _ ⟨v6, v7, v8, v9, v10, v11, v12, v13, v14, v15, _, v16, _, v3, v4, rfl, ⟨hI.t0, hI.t1, hI.t2, hI.t3, hI.t4, hI.t5, hI.t6, hI.t7, hI.t8, hI.t9, fun _ => ⟨_, rfl, ho⟩, hI.t11, fun _ => rfl, hI.t13, hI.t14, hI.bw⟩⟩
  · rintro L a wx ⟨v6, v7, v8, v9, v10, v11, v12, v13, v14, v15, v5, v16, v17, v3, v4, rfl, hI⟩ hL hdep hcl K hK
    have ho := hI.t11 (hdep 11 (by decide))
    go_simp
    exact hK _ _ ⟨v6, v7, v8, v9, v10, v11, v12, v13, v14, v15, v5, v16, v17, _, v4, rfl, ⟨hI.t0, hI.t1, hI.t2, hI.t3, hI.t4, hI.t5, hI.t6, hI.t7, hI.t8, hI.t9, hI.t10, hI.t11, hI.t12, fun _ => ho, hI.t14, hI.bw⟩⟩
  · rintro L a wx ⟨v6, v7, v8, v9, v10, v11, v12, v13, v14, v15, v5, v16, v17, v3, v4, rfl, hI⟩ hL hdep hcl K hK
    obtain rfl := hI.t12 (hdep 12 (by decide))
    go_simp
    exact hK _ _ ⟨v6, v7, v8, v9, v10, v11, v12, v13, v14, v15, v5, v16, _, v3, _, rfl, ⟨hI.t0, hI.t1, hI.t2, hI.t3, hI.t4, hI.t5, hI.t6, hI.t7, hI.t8, hI.t9, hI.t10, hI.t11, hI.t12, hI.t13, fun _ => rfl, hI.bw⟩⟩
  · rintro a wx ⟨v6, v7, v8, v9, v10, v11, v12, v13, v14, v15, v5, v16, v17, v3, v4, rfl, hI⟩
    have hv := hI.t13 rfl
    have hbw := hI.bw
    obtain ⟨a3, n3, c3, rfl, hr3⟩ := hv.reads
    have hn3 := Lib.hid hr3.len
    have hA2 := hA1.to hbw lB
    have hB2 := hbw.size
    have hrr := rd_arr hA2 2 32 root hroot hcells.out
    go_wp2_with (at_builtin; go_loud (refine wl_append bt rfl (.tmp 18) (.tmp 20) rfl w1.heap.size _ _ hv rfl _ _ _ root rfl hrr (by simp [digits_len]) hB2 ?_); intro v5 w5 ho5 hb5)
    go_ret
    have hb1 := HB1.out
    refine ⟨_, rfl, ?_, hb1.trans ((hbw.trans hb5).mono hb1.size)⟩
    rw [hS.out]
    exact ho5.mono hb1.size

set_option maxRecDepth 100000 in
set_option maxHeartbeats 1000000 in
theorem refSignedHead_any (sz tm : Nat) (root sig : List UInt8) (w : World) (hsz : sz ≤ 18446744073709551615) (htm : tm ≤ 18446744073709551615) (hroot : root.length = 32) :
    Calls Try.prog 32 #[.agg (hdL sz tm root sig).toArray] w fun e w' => ∃ v, e = .returned v ∧ Own w' w.heap.size 5 v (headF sz tm root) ∧ Below w.heap.size w w' := by
  have hcells := Lib.hid (hd_root sz tm root sig hroot)
  have h0 : (hdL sz tm root sig)[0]? = some (.int .u64 (sz : Int)) := rfl
  have h1 : (hdL sz tm root sig)[1]? = some (.int .u64 (tm : Int)) := rfl
  have HN := fun W => refnum_any tm 8 htm (by decide) (by simpa using Nat.lt_succ_of_le htm) W
  have HM := fun W => refnum_any sz 8 hsz (by decide) (by simpa using Nat.lt_succ_of_le hsz) W
  have hLt := digits_len tm 8
  have hLs := digits_len sz 8
  generalize hdL sz tm root sig = hd at *
  have hl0 : ([0, 1] : List UInt8).length = 2 := rfl
  go_enter Try.func32, Try.ntmps32
  go_wp2_with (((with_reducible show wpList _ _ _ (⟨some 1, .box _ _, _, _, _, _⟩ :: _) _ _); refine wl_box rfl 55 _ rfl hd rfl ?_; intro w1 hA1 hb1 hs1; have hE1 : w1.cell? ⟨w.heap.size, 1, none⟩ = some (.int .u64 (tm : Int)) := (hA1.cell 1).trans h1; have s1 := hal w1 (.cells ([0, 1].map bv).toArray 5); have o1 := own_lit w1 [0, 1] 5 (by decide)))
  refine (HN _).mono ?_
  rintro e w2 ⟨v2, rfl, ho2, hb2⟩
  obtain ⟨a2, n2, c2, rfl, hr2⟩ := ho2.reads
  have hn2 : Hid ((digits tm 8).length = n2) := hr2.len
  have s2 := s1.trans (hb2.mono s1.size)
  have o2 := o1.to hb2
  have hA2 := hA1.to s2 hs1
  go_wp2_with (first
    | (at_builtin; refine wl_append bt rfl (.tmp 5) (.tmp 8) rfl w1.heap.size _ _ o2 rfl a2 n2 c2 (digits tm 8) rfl hr2.toRd (by have := hn2.out; simp; omega) s2.size ?_; intro v3 w3 ho3 hb3; have s3 := s2.trans hb3; have hA3 := hA1.to s3 hs1; have hE3 : w3.cell? ⟨w.heap.size, 0, none⟩ = some (.int .u64 (sz : Int)) := (hA3.cell 0).trans h0)
    | (go_at_call 34; refine (HM w3).mono ?_; rintro e w4 ⟨v4, rfl, ho4, hb4⟩; obtain ⟨a4, n4, c4, rfl, hr4⟩ := ho4.reads; have hn4 : Hid ((digits sz 8).length = n4) := hr4.len; have o4 := ho3.to hb4; have s4 := s3.trans (hb4.mono s3.size))
    | (at_builtin; refine wl_append bt rfl (.tmp 10) (.tmp 13) rfl w1.heap.size _ _ o4 rfl a4 n4 c4 (digits sz 8) rfl hr4.toRd (by have := hn4.out; simp [hLt]; omega) s4.size ?_; intro v5 w5 ho5 hb5; have s5 := s4.trans hb5; have hA5 := hA1.to s5 hs1; have hrr := rd_arr hA5 2 32 root hroot hcells.out)
    | (at_builtin; refine wl_append bt rfl (.tmp 15) (.tmp 17) rfl w1.heap.size _ _ ho5 rfl _ _ _ root rfl hrr (by simp [hLt, hLs]) s5.size ?_; intro v6 w6 ho6 hb6))
  go_ret
  exact ⟨_, rfl, (show Own _ _ _ _ (headF sz tm root) from ho6).mono hb1.size, hb1.trans ((s5.trans hb6).mono hb1.size)⟩
end Go.Proofs.Ytcohcjhbkiangaa
