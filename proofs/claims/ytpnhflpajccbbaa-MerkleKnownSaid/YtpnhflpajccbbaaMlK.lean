/-
  Layer 8: MerkleKnown as a call. Conditions: those in each statement.
-/
import Derived.Test.YtpnhflpajccbbaaMlN
namespace Go.Proofs.Ytpnhflpajccbbaa
open Go.RowKit

abbrev lit (xs : List UInt8) : Obj := .cells (xs.map bv).toArray 5
def kRows : List (List UInt8) := [[], [0], [16], [32, 33], [48, 49], [64, 65, 66, 67], [80, 81, 82, 83, 84, 85, 86, 87]]
set_option maxRecDepth 100000 in
theorem known_rows (w : World) : RdR (((((((w.alloc (lit [0])).alloc (lit [16])).alloc (lit [32, 33])).alloc (lit [48, 49])).alloc (lit [64, 65, 66, 67])).alloc (lit [80, 81, 82, 83, 84, 85, 86, 87])).alloc (.cells #[.slice none 0 0, .slice (some ⟨w.heap.size, 0, none⟩) 1 1, .slice (some ⟨w.heap.size + 1, 0, none⟩) 1 1, .slice (some ⟨w.heap.size + 1 + 1, 0, none⟩) 2 2, .slice (some ⟨w.heap.size + 1 + 1 + 1, 0, none⟩) 2 2, .slice (some ⟨w.heap.size + 1 + 1 + 1 + 1, 0, none⟩) 4 4, .slice (some ⟨w.heap.size + 1 + 1 + 1 + 1 + 1, 0, none⟩) 8 8] 37)) (some ⟨w.heap.size + 1 + 1 + 1 + 1 + 1 + 1, 0, none⟩) 7 7 kRows ∧ Below w.heap.size w (((((((w.alloc (lit [0])).alloc (lit [16])).alloc (lit [32, 33])).alloc (lit [48, 49])).alloc (lit [64, 65, 66, 67])).alloc (lit [80, 81, 82, 83, 84, 85, 86, 87])).alloc (.cells #[.slice none 0 0, .slice (some ⟨w.heap.size, 0, none⟩) 1 1, .slice (some ⟨w.heap.size + 1, 0, none⟩) 1 1, .slice (some ⟨w.heap.size + 1 + 1, 0, none⟩) 2 2, .slice (some ⟨w.heap.size + 1 + 1 + 1, 0, none⟩) 2 2, .slice (some ⟨w.heap.size + 1 + 1 + 1 + 1, 0, none⟩) 4 4, .slice (some ⟨w.heap.size + 1 + 1 + 1 + 1 + 1, 0, none⟩) 8 8] 37)) := by
  have B0 : Below w.heap.size w w := Below.refl _ _
  have l1 := LitB.new w [0]
  have s1 : (w.alloc (lit [0])).heap.size = w.heap.size + 1 := by rw [World.size_alloc]
  have b1 := hal w (lit [0])
  replace B0 := B0.trans (b1.mono B0.size)
  change LitB (w.alloc (lit [0])) _ _ at l1
  generalize w.alloc (lit [0]) = w1 at *
  clear b1
  have l2 := LitB.new w1 [16]
  have s2 : (w1.alloc (lit [16])).heap.size = w.heap.size + 1 + 1 := by rw [World.size_alloc, s1]
  have b2 := hal w1 (lit [16])
  rw [s1] at l2
  replace l1 := l1.kept b2
  replace B0 := B0.trans (b2.mono B0.size)
  change LitB (w1.alloc (lit [16])) _ _ at l2
  generalize w1.alloc (lit [16]) = w2 at *
  clear b2
  have l3 := LitB.new w2 [32, 33]
  have s3 : (w2.alloc (lit [32, 33])).heap.size = w.heap.size + 1 + 1 + 1 := by rw [World.size_alloc, s2]
  have b3 := hal w2 (lit [32, 33])
  rw [s2] at l3
  replace l1 := l1.kept b3
  replace l2 := l2.kept b3
  replace B0 := B0.trans (b3.mono B0.size)
  change LitB (w2.alloc (lit [32, 33])) _ _ at l3
  generalize w2.alloc (lit [32, 33]) = w3 at *
  clear b3
  have l4 := LitB.new w3 [48, 49]
  have s4 : (w3.alloc (lit [48, 49])).heap.size = w.heap.size + 1 + 1 + 1 + 1 := by rw [World.size_alloc, s3]
  have b4 := hal w3 (lit [48, 49])
  rw [s3] at l4
  replace l1 := l1.kept b4
  replace l2 := l2.kept b4
  replace l3 := l3.kept b4
  replace B0 := B0.trans (b4.mono B0.size)
  change LitB (w3.alloc (lit [48, 49])) _ _ at l4
  generalize w3.alloc (lit [48, 49]) = w4 at *
  clear b4
  have l5 := LitB.new w4 [64, 65, 66, 67]
  have s5 : (w4.alloc (lit [64, 65, 66, 67])).heap.size = w.heap.size + 1 + 1 + 1 + 1 + 1 := by rw [World.size_alloc, s4]
  have b5 := hal w4 (lit [64, 65, 66, 67])
  rw [s4] at l5
  replace l1 := l1.kept b5
  replace l2 := l2.kept b5
  replace l3 := l3.kept b5
  replace l4 := l4.kept b5
  replace B0 := B0.trans (b5.mono B0.size)
  change LitB (w4.alloc (lit [64, 65, 66, 67])) _ _ at l5
  generalize w4.alloc (lit [64, 65, 66, 67]) = w5 at *
  clear b5
  have l6 := LitB.new w5 [80, 81, 82, 83, 84, 85, 86, 87]
  have s6 : (w5.alloc (lit [80, 81, 82, 83, 84, 85, 86, 87])).heap.size = w.heap.size + 1 + 1 + 1 + 1 + 1 + 1 := by rw [World.size_alloc, s5]
  have b6 := hal w5 (lit [80, 81, 82, 83, 84, 85, 86, 87])
  rw [s5] at l6
  replace l1 := l1.kept b6
  replace l2 := l2.kept b6
  replace l3 := l3.kept b6
  replace l4 := l4.kept b6
  replace l5 := l5.kept b6
  replace B0 := B0.trans (b6.mono B0.size)
  change LitB (w5.alloc (lit [80, 81, 82, 83, 84, 85, 86, 87])) _ _ at l6
  generalize w5.alloc (lit [80, 81, 82, 83, 84, 85, 86, 87]) = w6 at *
  clear b6
  have hA := Arr.new w6 37 [.slice none 0 0, .slice (some ⟨w.heap.size, 0, none⟩) 1 1, .slice (some ⟨w.heap.size + 1, 0, none⟩) 1 1, .slice (some ⟨w.heap.size + 1 + 1, 0, none⟩) 2 2, .slice (some ⟨w.heap.size + 1 + 1 + 1, 0, none⟩) 2 2, .slice (some ⟨w.heap.size + 1 + 1 + 1 + 1, 0, none⟩) 4 4, .slice (some ⟨w.heap.size + 1 + 1 + 1 + 1 + 1, 0, none⟩) 8 8]
  have b7 := hal w6 (.cells #[.slice none 0 0, .slice (some ⟨w.heap.size, 0, none⟩) 1 1, .slice (some ⟨w.heap.size + 1, 0, none⟩) 1 1, .slice (some ⟨w.heap.size + 1 + 1, 0, none⟩) 2 2, .slice (some ⟨w.heap.size + 1 + 1 + 1, 0, none⟩) 2 2, .slice (some ⟨w.heap.size + 1 + 1 + 1 + 1, 0, none⟩) 4 4, .slice (some ⟨w.heap.size + 1 + 1 + 1 + 1 + 1, 0, none⟩) 8 8] 37)
  rw [s6] at hA
  refine ⟨⟨rfl, Nat.le_refl _, (by intro e; cases e), fun _ => ⟨_, 0, rfl, hA.lt, fun k hk => ?_⟩⟩, B0.trans (b7.mono B0.size)⟩
  match k, hk with
  | 0, _ => exact ⟨none, 0, 0, (by rw [hA.cell]; rfl), by omega, Rd.none _⟩
  | 1, _ => exact ⟨_, 1, 1, (by rw [hA.cell]; rfl), by omega, (l1.kept b7).rd⟩
  | 2, _ => exact ⟨_, 1, 1, (by rw [hA.cell]; rfl), by omega, (l2.kept b7).rd⟩
  | 3, _ => exact ⟨_, 2, 2, (by rw [hA.cell]; rfl), by omega, (l3.kept b7).rd⟩
  | 4, _ => exact ⟨_, 2, 2, (by rw [hA.cell]; rfl), by omega, (l4.kept b7).rd⟩
  | 5, _ => exact ⟨_, 4, 4, (by rw [hA.cell]; rfl), by omega, (l5.kept b7).rd⟩
  | 6, _ => exact ⟨_, 8, 8, (by rw [hA.cell]; rfl), by omega, (l6.kept b7).rd⟩
theorem four_root (a b c d : List UInt8) : rootF [a, b, c, d] = nodeH (nodeH a b) (nodeH c d) := by
  rw [rootF_more (by simp), show splK [a, b, c, d].length = 2 from (by decide +kernel : splK 4 = 2)]
  show nodeH (rootF [a, b]) (rootF [c, d]) = _
  rw [two_root, two_root]
theorem five_root (a b c d e : List UInt8) : rootF [a, b, c, d, e] = nodeH (nodeH (nodeH a b) (nodeH c d)) e := by
  rw [rootF_more (by simp), show splK [a, b, c, d, e].length = 4 from (by decide +kernel : splK 5 = 4)]
  show nodeH (rootF [a, b, c, d]) (rootF [e]) = _
  rw [four_root]
  rfl
theorem six_root (a b c d e f : List UInt8) : rootF [a, b, c, d, e, f] = nodeH (nodeH (nodeH a b) (nodeH c d)) (nodeH e f) := by
  rw [rootF_more (by simp), show splK [a, b, c, d, e, f].length = 4 from (by decide +kernel : splK 6 = 4)]
  show nodeH (rootF [a, b, c, d]) (rootF [e, f]) = _
  rw [four_root, two_root]
theorem seven_root (a b c d e f g : List UInt8) : rootF [a, b, c, d, e, f, g] = nodeH (nodeH (nodeH a b) (nodeH c d)) (nodeH (nodeH e f) g) := by
  rw [rootF_more (by simp), show splK [a, b, c, d, e, f, g].length = 4 from (by decide +kernel : splK 7 = 4)]
  show nodeH (rootF [a, b, c, d]) (rootF [e, f, g]) = _
  rw [four_root, three_root]
theorem sub_no {L : List (List UInt8)} {f t : Int} (h : okP L.length f t = false) : subF L f t = Z8 32 := by
  unfold subF
  rw [h]
  rfl
theorem nil_ne : leafH [] ≠ shaL [] := by decide +kernel
theorem Levels_nil (w : World) : Calls Try.prog 13 #[.slice none 0 0] w fun e w' => e = .returned (.slice none 0 0) ∧ Below w.heap.size w w' := by
  go_enter Try.func13, Try.ntmps13
  go_wp2
  go_ret
  exact ⟨rfl, Below.refl _ _⟩
theorem Leaves_nil (w : World) : Calls Try.prog 21 #[.slice none 0 0] w fun e w' => ∃ p c, e = .returned (.slice p 0 c) ∧ Below w.heap.size w w' := by
  refine (Leaves_any [] none 0 0 w (by omega) ⟨rfl, Nat.le_refl _, fun _ => rfl, fun h => by omega⟩).mono ?_
  rintro e w' ⟨v, rfl, ho, hb⟩
  obtain ⟨a, c, e, -⟩ := ho.rd
  subst e
  exact ⟨a, c, rfl, hb⟩

structure InvKA (H0 H1 H2 H3 H4 H5 H6 AB CD EF ABCD EG R5 R6 R7 SZ : List UInt8) (gl cl : Nat) (wb : World) (L : Nat → Bool) (v : Nat → Value) (wx : World) : Prop where
  t0 : L 0 = true → (v 25) = .slice (some ⟨gl, 0, none⟩) 7 cl
  t1 : L 1 = true → (v 26) = .pointer (some ⟨gl, 0, none⟩)
  t2 : L 2 = true → (v 27) = .agg (bvs H0).toArray
  t3 : L 3 = true → (v 28) = .slice (some ⟨gl, 0, none⟩) 7 cl
  t4 : L 4 = true → (v 29) = .pointer (some ⟨gl, 32, none⟩)
  t5 : L 5 = true → (v 30) = .agg (bvs H1).toArray
  t6 : L 6 = true → (v 31) = .agg (bvs AB).toArray
  t7 : L 7 = true → (v 32) = .slice (some ⟨gl, 0, none⟩) 7 cl
  t8 : L 8 = true → (v 33) = .pointer (some ⟨gl, 64, none⟩)
  t9 : L 9 = true → (v 34) = .agg (bvs H2).toArray
  t10 : L 10 = true → (v 35) = .slice (some ⟨gl, 0, none⟩) 7 cl
  t11 : L 11 = true → (v 36) = .pointer (some ⟨gl, 96, none⟩)
  t12 : L 12 = true → (v 37) = .agg (bvs H3).toArray
  t13 : L 13 = true → (v 38) = .agg (bvs CD).toArray
  t14 : L 14 = true → (v 39) = .slice (some ⟨gl, 0, none⟩) 7 cl
  t15 : L 15 = true → (v 40) = .pointer (some ⟨gl, 128, none⟩)
  t16 : L 16 = true → (v 41) = .agg (bvs H4).toArray
  t17 : L 17 = true → (v 42) = .slice (some ⟨gl, 0, none⟩) 7 cl
  t18 : L 18 = true → (v 43) = .pointer (some ⟨gl, 160, none⟩)
  t19 : L 19 = true → (v 44) = .agg (bvs H5).toArray
  t20 : L 20 = true → (v 45) = .agg (bvs EF).toArray
  t21 : L 21 = true → ∃ g, (v 2) = .pointer (some ⟨g, 0, none⟩) ∧ wb.heap.size ≤ g ∧ Arr wx g 25 (bvs (if L 24 = true then AB else Z8 32))
  t22 : L 22 = true → ∃ g, (v 3) = .pointer (some ⟨g, 0, none⟩) ∧ wb.heap.size ≤ g ∧ Arr wx g 25 (bvs (if L 25 = true then CD else Z8 32))
  t23 : L 23 = true → ∃ g, (v 4) = .pointer (some ⟨g, 0, none⟩) ∧ wb.heap.size ≤ g ∧ Arr wx g 25 (bvs (if L 26 = true then EF else Z8 32))
  rl : RdD wx (some ⟨gl, 0, none⟩) 7 cl [H0, H1, H2, H3, H4, H5, H6]
  n12 : L 21 = true → L 22 = true → (v 2) ≠ (v 3)
  n13 : L 21 = true → L 23 = true → (v 2) ≠ (v 4)
  n23 : L 22 = true → L 23 = true → (v 3) ≠ (v 4)
  bw : Below wb.heap.size wb wx

structure InvKB (H0 H1 H2 H3 H4 H5 H6 AB CD EF ABCD EG R5 R6 R7 SZ : List UInt8) (gl cl : Nat) (g2 g3 g4 g5 : Nat) (y4 : Nat → Value) (wb : World) (L : Nat → Bool) (v : Nat → Value) (wx : World) : Prop where
  t0 : L 0 = true → (v 49) = .slice (some ⟨gl, 0, none⟩) 7 cl
  t1 : L 1 = true → (v 50) = .agg (bvs R7).toArray
  t2 : L 2 = true → (v 51) = .agg (bvs ABCD).toArray
  t3 : L 3 = true → (v 52) = .agg (bvs EF).toArray
  t4 : L 4 = true → (v 53) = .slice (some ⟨gl, 0, none⟩) 7 cl
  t5 : L 5 = true → (v 54) = .pointer (some ⟨gl, 192, none⟩)
  t6 : L 6 = true → (v 55) = .agg (bvs H6).toArray
  t7 : L 7 = true → (v 56) = .agg (bvs EG).toArray
  t8 : L 8 = true → (v 57) = .agg (bvs R7).toArray
  t9 : L 9 = true → (v 58) = .bool false
  t10 : L 10 = true → (v 59) = .bool false
  t11 : L 11 = true → (v 60) = .slice (some ⟨gl, 0, none⟩) 7 cl
  t12 : L 12 = true → (v 61) = .slice (some ⟨gl, 0, none⟩) 5 cl
  t13 : L 13 = true → (v 62) = .agg (bvs R5).toArray
  t14 : L 14 = true → (v 63) = .agg (bvs ABCD).toArray
  t15 : L 15 = true → (v 64) = .slice (some ⟨gl, 0, none⟩) 7 cl
  t16 : L 16 = true → (v 65) = .pointer (some ⟨gl, 128, none⟩)
  t17 : L 17 = true → (v 66) = .agg (bvs H4).toArray
  t18 : L 18 = true → (v 67) = .agg (bvs R5).toArray
  t19 : L 19 = true → (v 68) = .bool false
  t20 : L 20 = true → (v 69) = .bool false
  t21 : L 21 = true → (v 70) = .bool false
  t22 : L 22 = true → (v 71) = .slice (some ⟨gl, 0, none⟩) 7 cl
  t23 : L 23 = true → (v 72) = .slice (some ⟨gl, 0, none⟩) 6 cl
  t24 : L 24 = true → (v 73) = .agg (bvs R6).toArray
  t25 : L 25 = true → (v 74) = .agg (bvs ABCD).toArray
  t26 : L 26 = true → (v 75) = .agg (bvs EF).toArray
  t27 : L 27 = true → (v 76) = .agg (bvs R6).toArray
  t28 : L 28 = true → (v 77) = .bool false
  t29 : L 29 = true → (v 78) = .bool false
  rl : RdD wx (some ⟨gl, 0, none⟩) 7 cl [H0, H1, H2, H3, H4, H5, H6]
  a4 : Arr wx g4 25 (bvs EF)
  a5 : Arr wx g5 25 (bvs ABCD)
  bw : Below wb.heap.size wb wx

structure InvKC (H0 H1 H2 H3 H4 H5 H6 AB CD EF ABCD EG R5 R6 R7 SZ : List UInt8) (gl cl : Nat) (g2 g3 g4 g5 g6 g8 g10 g12 : Nat) (y4 y6 : Nat → Value) (wb : World) (L : Nat → Bool) (v : Nat → Value) (wx : World) : Prop where
  t0 : L 0 = true → (v 98) = .int .i64 1
  t1 : L 1 = true → (v 99) = .bool true
  t2 : L 2 = true → (v 100) = .bool true
  t3 : L 3 = true → (v 101) = .int .i64 1
  t4 : L 4 = true → (v 102) = .bool true
  t5 : L 5 = true → (v 103) = .bool true
  t6 : L 6 = true → (v 104) = .bool true
  t7 : L 7 = true → (v 105) = .int .i64 1
  t8 : L 8 = true → (v 106) = .bool true
  t9 : L 9 = true → (v 107) = .bool true
  t10 : L 10 = true → (v 108) = .bool true
  t11 : L 11 = true → (v 109) = .int .i64 0
  t12 : L 12 = true → (v 110) = .bool true
  t13 : L 13 = true → (v 111) = .bool true
  t14 : L 14 = true → (v 112) = .bool true
  t15 : L 15 = true → (v 113) = .agg (bvs R7).toArray
  t16 : L 16 = true → (v 114) = .slice (some ⟨gl, 0, none⟩) 7 cl
  t17 : L 17 = true → (v 115) = .agg (bvs R7).toArray
  t18 : L 18 = true → (v 116) = .bool true
  t19 : L 19 = true → (v 117) = .bool true
  t20 : L 20 = true → (v 118) = .bool true
  t21 : L 21 = true → (v 119) = .slice none 0 0
  t22 : L 22 = true → (v 120) = .int .i64 0
  t23 : L 23 = true → (v 121) = .bool true
  t24 : L 24 = true → (v 122) = .bool true
  t25 : L 25 = true → (v 123) = .bool true
  t26 : L 26 = true → (v 124) = .agg (bvs H0).toArray
  t27 : L 27 = true → (v 125) = .agg (bvs SZ).toArray
  t28 : L 28 = true → (v 126) = .bool true
  t29 : L 29 = true → (v 127) = .bool true
  t30 : L 30 = true → (v 128) = .bool true
  t31 : L 31 = true → ∃ p c, (v 129) = .slice p 0 c
  t32 : L 32 = true → (v 130) = .int .i64 0
  t33 : L 33 = true → (v 131) = .bool true
  t34 : L 34 = true → (v 132) = .bool true
  t35 : L 35 = true → (v 133) = .bool true
  t36 : L 36 = true → (v 134) = .bool true
  t37 : L 37 = true → (v 135) = .bool true
  t38 : L 38 = true → (v 0) = .bool true
  rl : RdD wx (some ⟨gl, 0, none⟩) 7 cl [H0, H1, H2, H3, H4, H5, H6]
  a12 : Arr wx g12 25 (bvs R7)
  bw : Below wb.heap.size wb wx


set_option maxRecDepth 100000 in
set_option maxHeartbeats 6400000 in
theorem Known_any (w : World) : Calls Try.prog 7 #[] w fun e w' => e = .returned (.bool true) ∧ Below w.heap.size w w' := by
  have HLV : Hid (∃ H0 H1 H2 H3 H4 H5 H6, All32 [H0, H1, H2, H3, H4, H5, H6] ∧ H0 = leafH [] ∧ Calls Try.prog 21 #[.slice (some ⟨w.heap.size + 1 + 1 + 1 + 1 + 1 + 1, 0, none⟩) 7 7] (((((((w.alloc (lit [0])).alloc (lit [16])).alloc (lit [32, 33])).alloc (lit [48, 49])).alloc (lit [64, 65, 66, 67])).alloc (lit [80, 81, 82, 83, 84, 85, 86, 87])).alloc (.cells #[.slice none 0 0, .slice (some ⟨w.heap.size, 0, none⟩) 1 1, .slice (some ⟨w.heap.size + 1, 0, none⟩) 1 1, .slice (some ⟨w.heap.size + 1 + 1, 0, none⟩) 2 2, .slice (some ⟨w.heap.size + 1 + 1 + 1, 0, none⟩) 2 2, .slice (some ⟨w.heap.size + 1 + 1 + 1 + 1, 0, none⟩) 4 4, .slice (some ⟨w.heap.size + 1 + 1 + 1 + 1 + 1, 0, none⟩) 8 8] 37)) fun e w' => ∃ v, e = .returned v ∧ OwnD w' w.heap.size v [H0, H1, H2, H3, H4, H5, H6] ∧ Below w.heap.size w w') := by
    obtain ⟨h1, h2⟩ := known_rows w
    refine ⟨leafH [], leafH [0], leafH [16], leafH [32, 33], leafH [48, 49], leafH [64, 65, 66, 67], leafH [80, 81, 82, 83, 84, 85, 86, 87], ?_, rfl, ?_⟩
    · exact All32.of (by simp only [List.mem_cons, List.not_mem_nil, or_false]; rintro x (rfl | rfl | rfl | rfl | rfl | rfl | rfl) <;> exact shaL_len _)
    · refine (Leaves_any kRows _ 7 7 _ (by omega) h1).mono ?_
      rintro e w' ⟨v, rfl, ho, hb⟩
      exact ⟨v, rfl, ho.base h2.size, h2.trans (hb.mono h2.size)⟩
  obtain ⟨H0, H1, H2, H3, H4, H5, H6, hall, hH0, hLV⟩ := HLV.out
  have hNN := nil_ne
  rw [← hH0] at hNN
  have HLN : Hid (∀ w, Calls Try.prog 17 #[.slice none 0 0] w fun e w' => e = .returned (.agg (bvs H0).toArray) ∧ Below w.heap.size w w') := fun w => by rw [hH0]; exact Leaf_any [] none 0 0 w (by omega) (Rd.none w)
  have HR0 : Hid (∀ w, Calls Try.prog 11 #[.slice none 0 0] w fun e w' => e = .returned (.agg (bvs (shaL [])).toArray) ∧ Below w.heap.size w w') := fun w => Root_any 0 [] (by simp) none 0 0 w (by omega) (rdd_nil w)
  have lS : (shaL []).length = 32 := shaL_len _
  clear hH0 HLV
  generalize shaL [] = SZ at *
  have l0 := hall 0 (by simp)
  have l1 := hall 1 (by simp)
  have l2 := hall 2 (by simp)
  have l3 := hall 3 (by simp)
  have l4 := hall 4 (by simp)
  have l5 := hall 5 (by simp)
  have l6 := hall 6 (by simp)
  simp only [List.getD_cons_zero, List.getD_cons_succ] at l0 l1 l2 l3 l4 l5 l6
  have HLL : Hid (∀ (wx : World) (a : Option Addr) (c : Nat), RdD wx a 7 c [H0, H1, H2, H3, H4, H5, H6] → Calls Try.prog 11 #[.slice a 7 c] wx fun e w' => e = .returned (.agg (bvs (nodeH (nodeH (nodeH H0 H1) (nodeH H2 H3)) (nodeH (nodeH H4 H5) H6))).toArray) ∧ Below wx.heap.size wx w') := fun wx a c h => by
    have := Root_any 7 [H0, H1, H2, H3, H4, H5, H6] (by simp) a 7 c wx (by omega) h
    rw [seven_root] at this
    exact this
  have HLL5 : Hid (∀ (wx : World) (a : Option Addr) (c : Nat), RdD wx a 7 c [H0, H1, H2, H3, H4, H5, H6] → Calls Try.prog 11 #[.slice a 5 c] wx fun e w' => e = .returned (.agg (bvs (nodeH (nodeH (nodeH H0 H1) (nodeH H2 H3)) H4)).toArray) ∧ Below wx.heap.size wx w') := fun wx a c h => by
    have := Root_any 5 [H0, H1, H2, H3, H4] (by simp) a 5 c wx (by omega) (h.take 5 (by omega))
    rw [five_root] at this
    exact this
  have HLL6 : Hid (∀ (wx : World) (a : Option Addr) (c : Nat), RdD wx a 7 c [H0, H1, H2, H3, H4, H5, H6] → Calls Try.prog 11 #[.slice a 6 c] wx fun e w' => e = .returned (.agg (bvs (nodeH (nodeH (nodeH H0 H1) (nodeH H2 H3)) (nodeH H4 H5))).toArray) ∧ Below wx.heap.size wx w') := fun wx a c h => by
    have := Root_any 6 [H0, H1, H2, H3, H4, H5] (by simp) a 6 c wx (by omega) (h.take 6 (by omega))
    rw [six_root] at this
    exact this
  have HSa : Hid (∀ (wx : World) (a : Option Addr) (c : Nat), RdD wx a 7 c [H0, H1, H2, H3, H4, H5, H6] → Calls Try.prog 9 #[.slice a 7 c, .int .i64 (-1), .int .i64 2] wx fun e w' => e = .returned (.tuple #[.agg (bvs (Z8 32)).toArray, .int .i64 1]) ∧ Below wx.heap.size wx w') := fun wx a c h => by
    have := Sub_any [H0, H1, H2, H3, H4, H5, H6] a 7 c (-1) 2 wx (by omega) h
    rw [sub_no (L := [H0, H1, H2, H3, H4, H5, H6]) (f := -1) (t := 2) (by decide : okP 7 (-1) 2 = false), show subE 7 (-1) 2 = 1 from by decide] at this
    exact this
  have HSb : Hid (∀ (wx : World) (a : Option Addr) (c : Nat), RdD wx a 7 c [H0, H1, H2, H3, H4, H5, H6] → Calls Try.prog 9 #[.slice a 7 c, .int .i64 0, .int .i64 8] wx fun e w' => e = .returned (.tuple #[.agg (bvs (Z8 32)).toArray, .int .i64 1]) ∧ Below wx.heap.size wx w') := fun wx a c h => by
    have := Sub_any [H0, H1, H2, H3, H4, H5, H6] a 7 c 0 8 wx (by omega) h
    rw [sub_no (L := [H0, H1, H2, H3, H4, H5, H6]) (f := 0) (t := 8) (by decide : okP 7 0 8 = false), show subE 7 0 8 = 1 from by decide] at this
    exact this
  have HSc : Hid (∀ (wx : World), Calls Try.prog 9 #[.slice none 0 0, .int .i64 0, .int .i64 0] wx fun e w' => e = .returned (.tuple #[.agg (bvs (Z8 32)).toArray, .int .i64 1]) ∧ Below wx.heap.size wx w') := fun wx => by
    have := Sub_any [] none 0 0 0 0 wx (by omega) (rdd_nil wx)
    rw [sub_no (L := []) (f := 0) (t := 0) (by decide : okP 0 0 0 = false), show subE 0 0 0 = 1 from by decide] at this
    exact this
  have HSd : Hid (∀ (wx : World) (a : Option Addr) (c : Nat), RdD wx a 7 c [H0, H1, H2, H3, H4, H5, H6] → Calls Try.prog 9 #[.slice a 7 c, .int .i64 0, .int .i64 7] wx fun e w' => e = .returned (.tuple #[.agg (bvs (nodeH (nodeH (nodeH H0 H1) (nodeH H2 H3)) (nodeH (nodeH H4 H5) H6))).toArray, .int .i64 0]) ∧ Below wx.heap.size wx w') := fun wx a c h => by
    have := Sub_any [H0, H1, H2, H3, H4, H5, H6] a 7 c 0 7 wx (by omega) h
    have e : subF [H0, H1, H2, H3, H4, H5, H6] 0 7 = nodeH (nodeH (nodeH H0 H1) (nodeH H2 H3)) (nodeH (nodeH H4 H5) H6) := by
      unfold subF
      rw [if_pos (show okP [H0, H1, H2, H3, H4, H5, H6].length 0 7 = true from (by decide : okP 7 0 7 = true))]
      exact seven_root H0 H1 H2 H3 H4 H5 H6
    rw [e, show subE 7 0 7 = 0 from by decide] at this
    exact this
  have HN01 : Hid (∀ w, Calls Try.prog 19 #[.agg (bvs H0).toArray, .agg (bvs H1).toArray] w _) := fun w => Node_any H0 H1 w l0 l1
  have HN23 : Hid (∀ w, Calls Try.prog 19 #[.agg (bvs H2).toArray, .agg (bvs H3).toArray] w _) := fun w => Node_any H2 H3 w l2 l3
  have HN45 : Hid (∀ w, Calls Try.prog 19 #[.agg (bvs H4).toArray, .agg (bvs H5).toArray] w _) := fun w => Node_any H4 H5 w l4 l5
  have lAB : (nodeH H0 H1).length = 32 := shaL_len _
  have lCD : (nodeH H2 H3).length = 32 := shaL_len _
  have lEF : (nodeH H4 H5).length = 32 := shaL_len _
  generalize nodeH H0 H1 = AB at *
  generalize nodeH H2 H3 = CD at *
  generalize nodeH H4 H5 = EF at *
  have HNABCD : Hid (∀ w, Calls Try.prog 19 #[.agg (bvs AB).toArray, .agg (bvs CD).toArray] w _) := fun w => Node_any AB CD w lAB lCD
  have HNEG : Hid (∀ w, Calls Try.prog 19 #[.agg (bvs EF).toArray, .agg (bvs H6).toArray] w _) := fun w => Node_any EF H6 w lEF l6
  have lABCD : (nodeH AB CD).length = 32 := shaL_len _
  have lEG : (nodeH EF H6).length = 32 := shaL_len _
  generalize nodeH AB CD = ABCD at *
  generalize nodeH EF H6 = EG at *
  have HN7 : Hid (∀ w, Calls Try.prog 19 #[.agg (bvs ABCD).toArray, .agg (bvs EG).toArray] w _) := fun w => Node_any ABCD EG w lABCD lEG
  have HN5 : Hid (∀ w, Calls Try.prog 19 #[.agg (bvs ABCD).toArray, .agg (bvs H4).toArray] w _) := fun w => Node_any ABCD H4 w lABCD l4
  have HN6 : Hid (∀ w, Calls Try.prog 19 #[.agg (bvs ABCD).toArray, .agg (bvs EF).toArray] w _) := fun w => Node_any ABCD EF w lABCD lEF
  have lR7 : (nodeH ABCD EG).length = 32 := shaL_len _
  have lR5 : (nodeH ABCD H4).length = 32 := shaL_len _
  have lR6 : (nodeH ABCD EF).length = 32 := shaL_len _
  generalize nodeH ABCD EG = R7 at *
  generalize nodeH ABCD H4 = R5 at *
  generalize nodeH ABCD EF = R6 at *
  have LR7 := Lib.hid lR7
  have LR5 := Lib.hid lR5
  have LR6 := Lib.hid lR6
  have LH0 := Lib.hid l0
  have LSZ := Lib.hid lS
  have HNN := Lib.hid hNN
  have s32 : ∀ x : List UInt8, x.length = 32 → (Try.prog.info? 25).map (·.size) = some (bvs x).length := fun x h => by rw [bvs_len, h]; exact sizeD
  have f32 : ∀ x : List UInt8, x.length = 32 → 0 + (bvs x).length ≤ (bvs (Z8 32)).length := fun x h => by rw [bvs_len x, h]; exact (by decide : 0 + 32 ≤ (bvs (Z8 32)).length)
  have t32 : ∀ x : List UInt8, x.length = 32 → (bvs (Z8 32)).length = (bvs x).length := fun x h => by rw [bvs_len x, h]; rfl
  have b32 : ∀ x : List UInt8, x.length = 32 → (bvs x).length = 32 := fun x h => by rw [bvs_len x, h]
  have I0 := Lib.hid (s32 H0 l0)
  have I1 := Lib.hid (s32 H1 l1)
  have I2 := Lib.hid (s32 H2 l2)
  have I3 := Lib.hid (s32 H3 l3)
  have I4 := Lib.hid (s32 H4 l4)
  have I5 := Lib.hid (s32 H5 l5)
  have I6 := Lib.hid (s32 H6 l6)
  have IAB := Lib.hid (s32 AB lAB)
  have ICD := Lib.hid (s32 CD lCD)
  have IEF := Lib.hid (s32 EF lEF)
  have IABCD := Lib.hid (s32 ABCD lABCD)
  have IR7 := Lib.hid (s32 R7 lR7)
  have LAB := Lib.hid (b32 AB lAB)
  have LCD := Lib.hid (b32 CD lCD)
  have LEF := Lib.hid (b32 EF lEF)
  have FABCD := Lib.hid (f32 ABCD lABCD)
  have TABCD := Lib.hid (t32 ABCD lABCD)
  have FR7 := Lib.hid (f32 R7 lR7)
  have TR7 := Lib.hid (t32 R7 lR7)
  have IZ := Lib.hid (s32 (Z8 32) (by simp [Z8]))
  have FZ := Lib.hid (f32 (Z8 32) (by simp [Z8]))
  clear s32 f32 t32 b32 l0 l1 l2 l3 l4 l5 l6 lAB lCD lEF lABCD lEG lR7 lR5 lR6 lS hNN hall
  have HLV := Lib.hid hLV
  clear hLV
  go_enter Try.func7, Try.ntmps7
  go_upto_region 2 with (go_at_call 21; refine (HLV.out).mono ?_; rintro _ w1 ⟨lvv, rfl, ho1, hb1⟩)
  obtain ⟨gl, cl, rfl, hgl, -⟩ := ho1.solid (by simp)
  have hR1 : RdD w1 (some ⟨gl, 0, none⟩) 7 cl [H0, H1, H2, H3, H4, H5, H6] := ho1.rdAt
  have HGL : Hid (gl < w1.heap.size) := (World.ownsRow.lt ho1.row gl rfl).2
  have B1 := Lib.hid hb1
  have B1s := Lib.hid hb1.size
  have hcl7 := hR1.le
  have HC5 : Hid ((5 : Int) ≤ (cl : Int)) := by show _ ≤ _; omega
  have HC6 : Hid ((6 : Int) ≤ (cl : Int)) := by show _ ≤ _; omega
  have HL0 : Hid (∀ wx, RdD wx (some ⟨gl, 0, none⟩) 7 cl [H0, H1, H2, H3, H4, H5, H6] → wx.rangeAt gl 0 (bvs H0)) := fun wx h => by have := h.range 0 (by omega); simpa using this
  have HL1 : Hid (∀ wx, RdD wx (some ⟨gl, 0, none⟩) 7 cl [H0, H1, H2, H3, H4, H5, H6] → wx.rangeAt gl 32 (bvs H1)) := fun wx h => by have := h.range 1 (by omega); simpa using this
  have HL2 : Hid (∀ wx, RdD wx (some ⟨gl, 0, none⟩) 7 cl [H0, H1, H2, H3, H4, H5, H6] → wx.rangeAt gl 64 (bvs H2)) := fun wx h => by have := h.range 2 (by omega); simpa using this
  have HL3 : Hid (∀ wx, RdD wx (some ⟨gl, 0, none⟩) 7 cl [H0, H1, H2, H3, H4, H5, H6] → wx.rangeAt gl 96 (bvs H3)) := fun wx h => by have := h.range 3 (by omega); simpa using this
  have HL4 : Hid (∀ wx, RdD wx (some ⟨gl, 0, none⟩) 7 cl [H0, H1, H2, H3, H4, H5, H6] → wx.rangeAt gl 128 (bvs H4)) := fun wx h => by have := h.range 4 (by omega); simpa using this
  have HL5 : Hid (∀ wx, RdD wx (some ⟨gl, 0, none⟩) 7 cl [H0, H1, H2, H3, H4, H5, H6] → wx.rangeAt gl 160 (bvs H5)) := fun wx h => by have := h.range 5 (by omega); simpa using this
  have HL6 : Hid (∀ wx, RdD wx (some ⟨gl, 0, none⟩) 7 cl [H0, H1, H2, H3, H4, H5, H6] → wx.rangeAt gl 192 (bvs H6)) := fun wx h => by have := h.range 6 (by omega); simpa using this
  have HR7 : Hid (∀ wx, RdD wx (some ⟨gl, 0, none⟩) 7 cl [H0, H1, H2, H3, H4, H5, H6] → _) := fun wx h => HLL.out wx _ cl h
  have HR5 : Hid (∀ wx, RdD wx (some ⟨gl, 0, none⟩) 7 cl [H0, H1, H2, H3, H4, H5, H6] → _) := fun wx h => HLL5.out wx _ cl h
  have HR6 : Hid (∀ wx, RdD wx (some ⟨gl, 0, none⟩) 7 cl [H0, H1, H2, H3, H4, H5, H6] → _) := fun wx h => HLL6.out wx _ cl h
  clear ho1 hb1 hgl hcl7 HLV
  go_upto_region 4 with fail
  refine wp_region_steps [[], [0], [1], [], [3], [4], [2, 5], [], [7], [8], [], [10], [11], [9, 12, 6], [], [14], [15], [], [17], [18], [16, 19, 13], [], [], [], [21, 6, 22, 23], [22, 13, 21, 23, 24], [23, 20, 21, 22, 24, 25]] (by kernel_rfl) (by kernel_rfl) (fun L a wx => ∃ v : Nat → Value, a = ⟨#[.bool false, .slice (some ⟨gl, 0, none⟩) [H0, H1, H2, H3, H4, H5, H6].length cl, v 2, v 3, v 4, undef, undef, undef, undef, undef, undef, undef, undef, undef, .slice (some ⟨w.heap.size, 0, none⟩) 1 1, .slice (some ⟨w.heap.size + 1, 0, none⟩) 1 1, .slice (some ⟨w.heap.size + 1 + 1, 0, none⟩) 2 2, .slice (some ⟨w.heap.size + 1 + 1 + 1, 0, none⟩) 2 2, .slice (some ⟨w.heap.size + 1 + 1 + 1 + 1, 0, none⟩) 4 4, .slice (some ⟨w.heap.size + 1 + 1 + 1 + 1 + 1, 0, none⟩) 8 8, .slice (some ⟨w.heap.size + 1 + 1 + 1 + 1 + 1 + 1, 0, none⟩) 7 7, .slice (some ⟨gl, 0, none⟩) [H0, H1, H2, H3, H4, H5, H6].length cl, .slice (some ⟨gl, 0, none⟩) [H0, H1, H2, H3, H4, H5, H6].length cl, .int .i64 7, .bool false, v 25, v 26, v 27, v 28, v 29, v 30, v 31, v 32, v 33, v 34, v 35, v 36, v 37, v 38, v 39, v 40, v 41, v 42, v 43, v 44, v 45, undef, undef, undef, undef, undef, undef, undef, undef, undef, undef, undef, undef, undef, undef, undef, undef, undef, undef, undef, undef, undef, undef, undef, undef, undef, undef, undef, undef, undef, undef, undef, undef, undef, undef, undef, undef, undef, undef, undef, undef, undef, undef, undef, undef, undef, undef, undef, undef, undef, undef, undef, undef, undef, undef, undef, undef, undef, undef, undef, undef, undef, undef, undef, undef, undef, undef, undef, undef, undef, undef, undef, undef, undef, undef, undef, undef, undef, undef, undef, undef, undef, undef, undef, undef, undef, undef, undef, undef, undef, undef], []⟩ ∧ InvKA H0 H1 H2 H3 H4 H5 H6 AB CD EF ABCD EG R5 R6 R7 SZ gl cl  w1 L v wx) ?_ ⟨?_, ?_, ?_, ?_, ?_, ?_, ?_, ?_, ?_, ?_, ?_, ?_, ?_, ?_, ?_, ?_, ?_, ?_, ?_, ?_, ?_, ?_, ?_, ?_, ?_, ?_, ?_, trivial⟩ ?_
  · refine ⟨fun _ => undef, rfl, ⟨?_, ?_, ?_, ?_, ?_, ?_, ?_, ?_, ?_, ?_, ?_, ?_, ?_, ?_, ?_, ?_, ?_, ?_, ?_, ?_, ?_, ?_, ?_, ?_, hR1.to (Below.refl _ _).drew, fun h => absurd h (by decide), fun h => absurd h (by decide), fun h => absurd h (by decide), (Below.refl _ _).drew⟩⟩ <;> (intro h; exact absurd h (by decide))
  · rintro L a wx ⟨v, rfl, hI⟩ hL hdep hcl K hK
    go_simp
    exact hK _ _ ⟨(upd v 25 (.slice (some ⟨gl, 0, none⟩) 7 cl)), rfl, ⟨fun _ => rfl, hI.t1, hI.t2, hI.t3, hI.t4, hI.t5, hI.t6, hI.t7, hI.t8, hI.t9, hI.t10, hI.t11, hI.t12, hI.t13, hI.t14, hI.t15, hI.t16, hI.t17, hI.t18, hI.t19, hI.t20, hI.t21, hI.t22, hI.t23, hI.rl, hI.n12, hI.n13, hI.n23, hI.bw⟩⟩
  · rintro L a wx ⟨v, rfl, hI⟩ hL hdep hcl K hK
    have e0 := hI.t0 (hdep 0 (by decide))
    rw [e0]
    go_simp
    exact hK _ _ ⟨(upd (upd v 25 (.slice (some ⟨gl, 0, none⟩) 7 cl)) 26 (.pointer (some ⟨gl, 0, none⟩))), rfl, ⟨fun _ => rfl, fun _ => rfl, hI.t2, hI.t3, hI.t4, hI.t5, hI.t6, hI.t7, hI.t8, hI.t9, hI.t10, hI.t11, hI.t12, hI.t13, hI.t14, hI.t15, hI.t16, hI.t17, hI.t18, hI.t19, hI.t20, hI.t21, hI.t22, hI.t23, hI.rl, hI.n12, hI.n13, hI.n23, hI.bw⟩⟩
  · rintro L a wx ⟨v, rfl, hI⟩ hL hdep hcl K hK
    have e1 := hI.t1 (hdep 1 (by decide))
    rw [e1]
    refine wp_load_mid 25 _ rfl gl 0 rfl (bvs H0) (.array 32 5) (HL0.out wx hI.rl) Try.underlying25 rfl I0.out ?_
    exact hK _ _ ⟨(upd (upd v 26 (.pointer (some ⟨gl, 0, none⟩))) 27 (.agg (bvs H0).toArray)), rfl, ⟨hI.t0, fun _ => rfl, fun _ => rfl, hI.t3, hI.t4, hI.t5, hI.t6, hI.t7, hI.t8, hI.t9, hI.t10, hI.t11, hI.t12, hI.t13, hI.t14, hI.t15, hI.t16, hI.t17, hI.t18, hI.t19, hI.t20, hI.t21, hI.t22, hI.t23, hI.rl, hI.n12, hI.n13, hI.n23, hI.bw⟩⟩
  · rintro L a wx ⟨v, rfl, hI⟩ hL hdep hcl K hK
    go_simp
    exact hK _ _ ⟨(upd v 28 (.slice (some ⟨gl, 0, none⟩) 7 cl)), rfl, ⟨hI.t0, hI.t1, hI.t2, fun _ => rfl, hI.t4, hI.t5, hI.t6, hI.t7, hI.t8, hI.t9, hI.t10, hI.t11, hI.t12, hI.t13, hI.t14, hI.t15, hI.t16, hI.t17, hI.t18, hI.t19, hI.t20, hI.t21, hI.t22, hI.t23, hI.rl, hI.n12, hI.n13, hI.n23, hI.bw⟩⟩
  · rintro L a wx ⟨v, rfl, hI⟩ hL hdep hcl K hK
    have e3 := hI.t3 (hdep 3 (by decide))
    rw [e3]
    go_simp
    exact hK _ _ ⟨(upd (upd v 28 (.slice (some ⟨gl, 0, none⟩) 7 cl)) 29 (.pointer (some ⟨gl, 32, none⟩))), rfl, ⟨hI.t0, hI.t1, hI.t2, fun _ => rfl, fun _ => rfl, hI.t5, hI.t6, hI.t7, hI.t8, hI.t9, hI.t10, hI.t11, hI.t12, hI.t13, hI.t14, hI.t15, hI.t16, hI.t17, hI.t18, hI.t19, hI.t20, hI.t21, hI.t22, hI.t23, hI.rl, hI.n12, hI.n13, hI.n23, hI.bw⟩⟩
  · rintro L a wx ⟨v, rfl, hI⟩ hL hdep hcl K hK
    have e4 := hI.t4 (hdep 4 (by decide))
    rw [e4]
    refine wp_load_mid 25 _ rfl gl 32 rfl (bvs H1) (.array 32 5) (HL1.out wx hI.rl) Try.underlying25 rfl I1.out ?_
    exact hK _ _ ⟨(upd (upd v 29 (.pointer (some ⟨gl, 32, none⟩))) 30 (.agg (bvs H1).toArray)), rfl, ⟨hI.t0, hI.t1, hI.t2, hI.t3, fun _ => rfl, fun _ => rfl, hI.t6, hI.t7, hI.t8, hI.t9, hI.t10, hI.t11, hI.t12, hI.t13, hI.t14, hI.t15, hI.t16, hI.t17, hI.t18, hI.t19, hI.t20, hI.t21, hI.t22, hI.t23, hI.rl, hI.n12, hI.n13, hI.n23, hI.bw⟩⟩
  · rintro L a wx ⟨v, rfl, hI⟩ hL hdep hcl K hK
    have e2 := hI.t2 (hdep 2 (by decide))
    have e5 := hI.t5 (hdep 5 (by decide))
    rw [e2, e5]
    have HC := HN01.out wx
    go_simp
    refine HC.mono ?_
    rintro e w' ⟨rfl, hb⟩
    exact hK _ _ ⟨(upd (upd (upd v 27 (.agg (bvs H0).toArray)) 30 (.agg (bvs H1).toArray)) 31 (.agg (bvs AB).toArray)), rfl, ⟨hI.t0, hI.t1, fun _ => rfl, hI.t3, hI.t4, fun _ => rfl, fun _ => rfl, hI.t7, hI.t8, hI.t9, hI.t10, hI.t11, hI.t12, hI.t13, hI.t14, hI.t15, hI.t16, hI.t17, hI.t18, hI.t19, hI.t20, fun h => (hI.t21 h).elim fun g h => ⟨g, h.1, h.2.1, h.2.2.kept hb⟩, fun h => (hI.t22 h).elim fun g h => ⟨g, h.1, h.2.1, h.2.2.kept hb⟩, fun h => (hI.t23 h).elim fun g h => ⟨g, h.1, h.2.1, h.2.2.kept hb⟩, (hI.rl).to hb, hI.n12, hI.n13, hI.n23, (hI.bw).trans (hb.mono (hI.bw).size)⟩⟩
  · rintro L a wx ⟨v, rfl, hI⟩ hL hdep hcl K hK
    go_simp
    exact hK _ _ ⟨(upd v 32 (.slice (some ⟨gl, 0, none⟩) 7 cl)), rfl, ⟨hI.t0, hI.t1, hI.t2, hI.t3, hI.t4, hI.t5, hI.t6, fun _ => rfl, hI.t8, hI.t9, hI.t10, hI.t11, hI.t12, hI.t13, hI.t14, hI.t15, hI.t16, hI.t17, hI.t18, hI.t19, hI.t20, hI.t21, hI.t22, hI.t23, hI.rl, hI.n12, hI.n13, hI.n23, hI.bw⟩⟩
  · rintro L a wx ⟨v, rfl, hI⟩ hL hdep hcl K hK
    have e7 := hI.t7 (hdep 7 (by decide))
    rw [e7]
    go_simp
    exact hK _ _ ⟨(upd (upd v 32 (.slice (some ⟨gl, 0, none⟩) 7 cl)) 33 (.pointer (some ⟨gl, 64, none⟩))), rfl, ⟨hI.t0, hI.t1, hI.t2, hI.t3, hI.t4, hI.t5, hI.t6, fun _ => rfl, fun _ => rfl, hI.t9, hI.t10, hI.t11, hI.t12, hI.t13, hI.t14, hI.t15, hI.t16, hI.t17, hI.t18, hI.t19, hI.t20, hI.t21, hI.t22, hI.t23, hI.rl, hI.n12, hI.n13, hI.n23, hI.bw⟩⟩
  · rintro L a wx ⟨v, rfl, hI⟩ hL hdep hcl K hK
    have e8 := hI.t8 (hdep 8 (by decide))
    rw [e8]
    refine wp_load_mid 25 _ rfl gl 64 rfl (bvs H2) (.array 32 5) (HL2.out wx hI.rl) Try.underlying25 rfl I2.out ?_
    exact hK _ _ ⟨(upd (upd v 33 (.pointer (some ⟨gl, 64, none⟩))) 34 (.agg (bvs H2).toArray)), rfl, ⟨hI.t0, hI.t1, hI.t2, hI.t3, hI.t4, hI.t5, hI.t6, hI.t7, fun _ => rfl, fun _ => rfl, hI.t10, hI.t11, hI.t12, hI.t13, hI.t14, hI.t15, hI.t16, hI.t17, hI.t18, hI.t19, hI.t20, hI.t21, hI.t22, hI.t23, hI.rl, hI.n12, hI.n13, hI.n23, hI.bw⟩⟩
  · rintro L a wx ⟨v, rfl, hI⟩ hL hdep hcl K hK
    go_simp
    exact hK _ _ ⟨(upd v 35 (.slice (some ⟨gl, 0, none⟩) 7 cl)), rfl, ⟨hI.t0, hI.t1, hI.t2, hI.t3, hI.t4, hI.t5, hI.t6, hI.t7, hI.t8, hI.t9, fun _ => rfl, hI.t11, hI.t12, hI.t13, hI.t14, hI.t15, hI.t16, hI.t17, hI.t18, hI.t19, hI.t20, hI.t21, hI.t22, hI.t23, hI.rl, hI.n12, hI.n13, hI.n23, hI.bw⟩⟩
  · rintro L a wx ⟨v, rfl, hI⟩ hL hdep hcl K hK
    have e10 := hI.t10 (hdep 10 (by decide))
    rw [e10]
    go_simp
    exact hK _ _ ⟨(upd (upd v 35 (.slice (some ⟨gl, 0, none⟩) 7 cl)) 36 (.pointer (some ⟨gl, 96, none⟩))), rfl, ⟨hI.t0, hI.t1, hI.t2, hI.t3, hI.t4, hI.t5, hI.t6, hI.t7, hI.t8, hI.t9, fun _ => rfl, fun _ => rfl, hI.t12, hI.t13, hI.t14, hI.t15, hI.t16, hI.t17, hI.t18, hI.t19, hI.t20, hI.t21, hI.t22, hI.t23, hI.rl, hI.n12, hI.n13, hI.n23, hI.bw⟩⟩
  · rintro L a wx ⟨v, rfl, hI⟩ hL hdep hcl K hK
    have e11 := hI.t11 (hdep 11 (by decide))
    rw [e11]
    refine wp_load_mid 25 _ rfl gl 96 rfl (bvs H3) (.array 32 5) (HL3.out wx hI.rl) Try.underlying25 rfl I3.out ?_
    exact hK _ _ ⟨(upd (upd v 36 (.pointer (some ⟨gl, 96, none⟩))) 37 (.agg (bvs H3).toArray)), rfl, ⟨hI.t0, hI.t1, hI.t2, hI.t3, hI.t4, hI.t5, hI.t6, hI.t7, hI.t8, hI.t9, hI.t10, fun _ => rfl, fun _ => rfl, hI.t13, hI.t14, hI.t15, hI.t16, hI.t17, hI.t18, hI.t19, hI.t20, hI.t21, hI.t22, hI.t23, hI.rl, hI.n12, hI.n13, hI.n23, hI.bw⟩⟩
  · rintro L a wx ⟨v, rfl, hI⟩ hL hdep hcl K hK
    have e9 := hI.t9 (hdep 9 (by decide))
    have e12 := hI.t12 (hdep 12 (by decide))
    have e6 := hI.t6 (hdep 6 (by decide))
    rw [e9, e12, e6]
    have HC := HN23.out wx
    go_simp
    refine HC.mono ?_
    rintro e w' ⟨rfl, hb⟩
    exact hK _ _ ⟨(upd (upd (upd (upd v 34 (.agg (bvs H2).toArray)) 37 (.agg (bvs H3).toArray)) 31 (.agg (bvs AB).toArray)) 38 (.agg (bvs CD).toArray)), rfl, ⟨hI.t0, hI.t1, hI.t2, hI.t3, hI.t4, hI.t5, fun _ => rfl, hI.t7, hI.t8, fun _ => rfl, hI.t10, hI.t11, fun _ => rfl, fun _ => rfl, hI.t14, hI.t15, hI.t16, hI.t17, hI.t18, hI.t19, hI.t20, fun h => (hI.t21 h).elim fun g h => ⟨g, h.1, h.2.1, h.2.2.kept hb⟩, fun h => (hI.t22 h).elim fun g h => ⟨g, h.1, h.2.1, h.2.2.kept hb⟩, fun h => (hI.t23 h).elim fun g h => ⟨g, h.1, h.2.1, h.2.2.kept hb⟩, (hI.rl).to hb, hI.n12, hI.n13, hI.n23, (hI.bw).trans (hb.mono (hI.bw).size)⟩⟩
  · rintro L a wx ⟨v, rfl, hI⟩ hL hdep hcl K hK
    go_simp
    exact hK _ _ ⟨(upd v 39 (.slice (some ⟨gl, 0, none⟩) 7 cl)), rfl, ⟨hI.t0, hI.t1, hI.t2, hI.t3, hI.t4, hI.t5, hI.t6, hI.t7, hI.t8, hI.t9, hI.t10, hI.t11, hI.t12, hI.t13, fun _ => rfl, hI.t15, hI.t16, hI.t17, hI.t18, hI.t19, hI.t20, hI.t21, hI.t22, hI.t23, hI.rl, hI.n12, hI.n13, hI.n23, hI.bw⟩⟩
  · rintro L a wx ⟨v, rfl, hI⟩ hL hdep hcl K hK
    have e14 := hI.t14 (hdep 14 (by decide))
    rw [e14]
    go_simp
    exact hK _ _ ⟨(upd (upd v 39 (.slice (some ⟨gl, 0, none⟩) 7 cl)) 40 (.pointer (some ⟨gl, 128, none⟩))), rfl, ⟨hI.t0, hI.t1, hI.t2, hI.t3, hI.t4, hI.t5, hI.t6, hI.t7, hI.t8, hI.t9, hI.t10, hI.t11, hI.t12, hI.t13, fun _ => rfl, fun _ => rfl, hI.t16, hI.t17, hI.t18, hI.t19, hI.t20, hI.t21, hI.t22, hI.t23, hI.rl, hI.n12, hI.n13, hI.n23, hI.bw⟩⟩
  · rintro L a wx ⟨v, rfl, hI⟩ hL hdep hcl K hK
    have e15 := hI.t15 (hdep 15 (by decide))
    rw [e15]
    refine wp_load_mid 25 _ rfl gl 128 rfl (bvs H4) (.array 32 5) (HL4.out wx hI.rl) Try.underlying25 rfl I4.out ?_
    exact hK _ _ ⟨(upd (upd v 40 (.pointer (some ⟨gl, 128, none⟩))) 41 (.agg (bvs H4).toArray)), rfl, ⟨hI.t0, hI.t1, hI.t2, hI.t3, hI.t4, hI.t5, hI.t6, hI.t7, hI.t8, hI.t9, hI.t10, hI.t11, hI.t12, hI.t13, hI.t14, fun _ => rfl, fun _ => rfl, hI.t17, hI.t18, hI.t19, hI.t20, hI.t21, hI.t22, hI.t23, hI.rl, hI.n12, hI.n13, hI.n23, hI.bw⟩⟩
  · rintro L a wx ⟨v, rfl, hI⟩ hL hdep hcl K hK
    go_simp
    exact hK _ _ ⟨(upd v 42 (.slice (some ⟨gl, 0, none⟩) 7 cl)), rfl, ⟨hI.t0, hI.t1, hI.t2, hI.t3, hI.t4, hI.t5, hI.t6, hI.t7, hI.t8, hI.t9, hI.t10, hI.t11, hI.t12, hI.t13, hI.t14, hI.t15, hI.t16, fun _ => rfl, hI.t18, hI.t19, hI.t20, hI.t21, hI.t22, hI.t23, hI.rl, hI.n12, hI.n13, hI.n23, hI.bw⟩⟩
  · rintro L a wx ⟨v, rfl, hI⟩ hL hdep hcl K hK
    have e17 := hI.t17 (hdep 17 (by decide))
    rw [e17]
    go_simp
    exact hK _ _ ⟨(upd (upd v 42 (.slice (some ⟨gl, 0, none⟩) 7 cl)) 43 (.pointer (some ⟨gl, 160, none⟩))), rfl, ⟨hI.t0, hI.t1, hI.t2, hI.t3, hI.t4, hI.t5, hI.t6, hI.t7, hI.t8, hI.t9, hI.t10, hI.t11, hI.t12, hI.t13, hI.t14, hI.t15, hI.t16, fun _ => rfl, fun _ => rfl, hI.t19, hI.t20, hI.t21, hI.t22, hI.t23, hI.rl, hI.n12, hI.n13, hI.n23, hI.bw⟩⟩
  · rintro L a wx ⟨v, rfl, hI⟩ hL hdep hcl K hK
    have e18 := hI.t18 (hdep 18 (by decide))
    rw [e18]
    refine wp_load_mid 25 _ rfl gl 160 rfl (bvs H5) (.array 32 5) (HL5.out wx hI.rl) Try.underlying25 rfl I5.out ?_
    exact hK _ _ ⟨(upd (upd v 43 (.pointer (some ⟨gl, 160, none⟩))) 44 (.agg (bvs H5).toArray)), rfl, ⟨hI.t0, hI.t1, hI.t2, hI.t3, hI.t4, hI.t5, hI.t6, hI.t7, hI.t8, hI.t9, hI.t10, hI.t11, hI.t12, hI.t13, hI.t14, hI.t15, hI.t16, hI.t17, fun _ => rfl, fun _ => rfl, hI.t20, hI.t21, hI.t22, hI.t23, hI.rl, hI.n12, hI.n13, hI.n23, hI.bw⟩⟩
  · rintro L a wx ⟨v, rfl, hI⟩ hL hdep hcl K hK
    have e16 := hI.t16 (hdep 16 (by decide))
    have e19 := hI.t19 (hdep 19 (by decide))
    have e13 := hI.t13 (hdep 13 (by decide))
    rw [e16, e19, e13]
    have HC := HN45.out wx
    go_simp
    refine HC.mono ?_
    rintro e w' ⟨rfl, hb⟩
    exact hK _ _ ⟨(upd (upd (upd (upd v 41 (.agg (bvs H4).toArray)) 44 (.agg (bvs H5).toArray)) 38 (.agg (bvs CD).toArray)) 45 (.agg (bvs EF).toArray)), rfl, ⟨hI.t0, hI.t1, hI.t2, hI.t3, hI.t4, hI.t5, hI.t6, hI.t7, hI.t8, hI.t9, hI.t10, hI.t11, hI.t12, fun _ => rfl, hI.t14, hI.t15, fun _ => rfl, hI.t17, hI.t18, fun _ => rfl, fun _ => rfl, fun h => (hI.t21 h).elim fun g h => ⟨g, h.1, h.2.1, h.2.2.kept hb⟩, fun h => (hI.t22 h).elim fun g h => ⟨g, h.1, h.2.1, h.2.2.kept hb⟩, fun h => (hI.t23 h).elim fun g h => ⟨g, h.1, h.2.1, h.2.2.kept hb⟩, (hI.rl).to hb, hI.n12, hI.n13, hI.n23, (hI.bw).trans (hb.mono (hI.bw).size)⟩⟩
  · rintro L a wx ⟨v, rfl, hI⟩ hL hdep hcl K hK
    have hnot : L 24 = false := by
      cases h6 : L 24 with
      | true =>
        have h4 := hcl 24 (by decide) h6 21 (by decide)
        rw [hL] at h4
        cases h4
      | false => rfl
    refine ow_alloc 25 rfl (bvs (Z8 32)) 32 infoD ?_
    intro w' hA hb hs
    have q3 : L 22 = true → Value.pointer (some ⟨wx.heap.size, 0, none⟩) ≠ v 3 := fun h e => by
      obtain ⟨g, e1, -, hg⟩ := hI.t22 h
      rw [e1] at e
      injection e with e
      injection e with e
      injection e with e
      have := hg.lt
      omega
    have q4 : L 23 = true → Value.pointer (some ⟨wx.heap.size, 0, none⟩) ≠ v 4 := fun h e => by
      obtain ⟨g, e1, -, hg⟩ := hI.t23 h
      rw [e1] at e
      injection e with e
      injection e with e
      injection e with e
      have := hg.lt
      omega
    exact hK _ _ ⟨(upd v 2 (_)), rfl, ⟨hI.t0, hI.t1, hI.t2, hI.t3, hI.t4, hI.t5, hI.t6, hI.t7, hI.t8, hI.t9, hI.t10, hI.t11, hI.t12, hI.t13, hI.t14, hI.t15, hI.t16, hI.t17, hI.t18, hI.t19, hI.t20, fun _ => ⟨_, rfl, hI.bw.size, by show Arr w' _ 25 (bvs (if L 24 = true then AB else Z8 32)); rw [hnot, if_neg (by exact Bool.false_ne_true)]; exact hA⟩, fun h => (hI.t22 h).elim fun g h => ⟨g, h.1, h.2.1, h.2.2.kept hb⟩, fun h => (hI.t23 h).elim fun g h => ⟨g, h.1, h.2.1, h.2.2.kept hb⟩, (hI.rl).to hb, fun h1 h2 => q3 h2, fun h1 h2 => q4 h2, hI.n23, (hI.bw).trans (hb.mono (hI.bw).size)⟩⟩
  · rintro L a wx ⟨v, rfl, hI⟩ hL hdep hcl K hK
    have hnot : L 25 = false := by
      cases h6 : L 25 with
      | true =>
        have h4 := hcl 25 (by decide) h6 22 (by decide)
        rw [hL] at h4
        cases h4
      | false => rfl
    refine ow_alloc 25 rfl (bvs (Z8 32)) 32 infoD ?_
    intro w' hA hb hs
    have q2 : L 21 = true → Value.pointer (some ⟨wx.heap.size, 0, none⟩) ≠ v 2 := fun h e => by
      obtain ⟨g, e1, -, hg⟩ := hI.t21 h
      rw [e1] at e
      injection e with e
      injection e with e
      injection e with e
      have := hg.lt
      omega
    have q4 : L 23 = true → Value.pointer (some ⟨wx.heap.size, 0, none⟩) ≠ v 4 := fun h e => by
      obtain ⟨g, e1, -, hg⟩ := hI.t23 h
      rw [e1] at e
      injection e with e
      injection e with e
      injection e with e
      have := hg.lt
      omega
    exact hK _ _ ⟨(upd v 3 (_)), rfl, ⟨hI.t0, hI.t1, hI.t2, hI.t3, hI.t4, hI.t5, hI.t6, hI.t7, hI.t8, hI.t9, hI.t10, hI.t11, hI.t12, hI.t13, hI.t14, hI.t15, hI.t16, hI.t17, hI.t18, hI.t19, hI.t20, fun h => (hI.t21 h).elim fun g h => ⟨g, h.1, h.2.1, h.2.2.kept hb⟩, fun _ => ⟨_, rfl, hI.bw.size, by show Arr w' _ 25 (bvs (if L 25 = true then CD else Z8 32)); rw [hnot, if_neg (by exact Bool.false_ne_true)]; exact hA⟩, fun h => (hI.t23 h).elim fun g h => ⟨g, h.1, h.2.1, h.2.2.kept hb⟩, (hI.rl).to hb, fun h1 h2 => Ne.symm (q2 h1), hI.n13, fun h1 h2 => q4 h2, (hI.bw).trans (hb.mono (hI.bw).size)⟩⟩
  · rintro L a wx ⟨v, rfl, hI⟩ hL hdep hcl K hK
    have hnot : L 26 = false := by
      cases h6 : L 26 with
      | true =>
        have h4 := hcl 26 (by decide) h6 23 (by decide)
        rw [hL] at h4
        cases h4
      | false => rfl
    refine ow_alloc 25 rfl (bvs (Z8 32)) 32 infoD ?_
    intro w' hA hb hs
    have q2 : L 21 = true → Value.pointer (some ⟨wx.heap.size, 0, none⟩) ≠ v 2 := fun h e => by
      obtain ⟨g, e1, -, hg⟩ := hI.t21 h
      rw [e1] at e
      injection e with e
      injection e with e
      injection e with e
      have := hg.lt
      omega
    have q3 : L 22 = true → Value.pointer (some ⟨wx.heap.size, 0, none⟩) ≠ v 3 := fun h e => by
      obtain ⟨g, e1, -, hg⟩ := hI.t22 h
      rw [e1] at e
      injection e with e
      injection e with e
      injection e with e
      have := hg.lt
      omega
    exact hK _ _ ⟨(upd v 4 (_)), rfl, ⟨hI.t0, hI.t1, hI.t2, hI.t3, hI.t4, hI.t5, hI.t6, hI.t7, hI.t8, hI.t9, hI.t10, hI.t11, hI.t12, hI.t13, hI.t14, hI.t15, hI.t16, hI.t17, hI.t18, hI.t19, hI.t20, fun h => (hI.t21 h).elim fun g h => ⟨g, h.1, h.2.1, h.2.2.kept hb⟩, fun h => (hI.t22 h).elim fun g h => ⟨g, h.1, h.2.1, h.2.2.kept hb⟩, fun _ => ⟨_, rfl, hI.bw.size, by show Arr w' _ 25 (bvs (if L 26 = true then EF else Z8 32)); rw [hnot, if_neg (by exact Bool.false_ne_true)]; exact hA⟩, (hI.rl).to hb, hI.n12, fun h1 h2 => Ne.symm (q2 h1), fun h1 h2 => Ne.symm (q3 h1), (hI.bw).trans (hb.mono (hI.bw).size)⟩⟩
  · rintro L a wx ⟨v, rfl, hI⟩ hL hdep hcl K hK
    have e6 := hI.t6 (hdep 6 (by decide))
    rw [e6]
    obtain ⟨g, e1, hlo, hA⟩ := hI.t21 (hdep 21 (by decide))
    rw [hL] at hA
    rw [if_neg (by exact Bool.false_ne_true)] at hA
    refine ow_store 25 _ _ rfl g 0 e1 (bvs AB) rfl 25 _ hA IAB.out (by rw [show (bvs AB).length = 32 from LAB.out]; exact (by decide : 0 + 32 ≤ (bvs (Z8 32)).length)) (bvs_one _) ?_
    intro w' hA' hg hs
    rw [whole_store _ _ (by rw [show (bvs AB).length = 32 from LAB.out]; rfl)] at hA'
    obtain ⟨g3, e3, hlo3, hA3⟩ := hI.t22 (hdep 22 (by decide))
    have ne3 : some g3 ≠ some g := fun e => by
      injection e with e
      refine hI.n12 (hdep 21 (by decide)) (hdep 22 (by decide)) ?_
      rw [e1, e3, e]
    obtain ⟨g4, e4, hlo4, hA4⟩ := hI.t23 (hdep 23 (by decide))
    have ne4 : some g4 ≠ some g := fun e => by
      injection e with e
      refine hI.n13 (hdep 21 (by decide)) (hdep 23 (by decide)) ?_
      rw [e1, e4, e]
    exact hK _ _ ⟨(upd v 31 (.agg (bvs AB).toArray)), rfl, ⟨hI.t0, hI.t1, hI.t2, hI.t3, hI.t4, hI.t5, fun _ => rfl, hI.t7, hI.t8, hI.t9, hI.t10, hI.t11, hI.t12, hI.t13, hI.t14, hI.t15, hI.t16, hI.t17, hI.t18, hI.t19, hI.t20, fun _ => ⟨g, e1, hlo, hA'⟩, fun _ => ⟨g3, e3, hlo3, hA3.grown hg ne3⟩, fun _ => ⟨g4, e4, hlo4, hA4.grown hg ne4⟩, rdd_grown hI.rl hg (by have := HGL.out; omega), hI.n12, hI.n13, hI.n23, hI.bw.grown hg hI.bw.size (by intro k e; injection e with e; omega)⟩⟩
  · rintro L a wx ⟨v, rfl, hI⟩ hL hdep hcl K hK
    have e13 := hI.t13 (hdep 13 (by decide))
    rw [e13]
    obtain ⟨g, e1, hlo, hA⟩ := hI.t22 (hdep 22 (by decide))
    rw [hL] at hA
    rw [if_neg (by exact Bool.false_ne_true)] at hA
    refine ow_store 25 _ _ rfl g 0 e1 (bvs CD) rfl 25 _ hA ICD.out (by rw [show (bvs CD).length = 32 from LCD.out]; exact (by decide : 0 + 32 ≤ (bvs (Z8 32)).length)) (bvs_one _) ?_
    intro w' hA' hg hs
    rw [whole_store _ _ (by rw [show (bvs CD).length = 32 from LCD.out]; rfl)] at hA'
    obtain ⟨g2, e2, hlo2, hA2⟩ := hI.t21 (hdep 21 (by decide))
    have ne2 : some g2 ≠ some g := fun e => by
      injection e with e
      refine hI.n12 (hdep 21 (by decide)) (hdep 22 (by decide)) ?_
      rw [e2, e1, e]
    obtain ⟨g4, e4, hlo4, hA4⟩ := hI.t23 (hdep 23 (by decide))
    have ne4 : some g4 ≠ some g := fun e => by
      injection e with e
      refine hI.n23 (hdep 22 (by decide)) (hdep 23 (by decide)) ?_
      rw [e1, e4, e]
    exact hK _ _ ⟨(upd v 38 (.agg (bvs CD).toArray)), rfl, ⟨hI.t0, hI.t1, hI.t2, hI.t3, hI.t4, hI.t5, hI.t6, hI.t7, hI.t8, hI.t9, hI.t10, hI.t11, hI.t12, fun _ => rfl, hI.t14, hI.t15, hI.t16, hI.t17, hI.t18, hI.t19, hI.t20, fun _ => ⟨g2, e2, hlo2, hA2.grown hg ne2⟩, fun _ => ⟨g, e1, hlo, hA'⟩, fun _ => ⟨g4, e4, hlo4, hA4.grown hg ne4⟩, rdd_grown hI.rl hg (by have := HGL.out; omega), hI.n12, hI.n13, hI.n23, hI.bw.grown hg hI.bw.size (by intro k e; injection e with e; omega)⟩⟩
  · rintro L a wx ⟨v, rfl, hI⟩ hL hdep hcl K hK
    have e20 := hI.t20 (hdep 20 (by decide))
    rw [e20]
    obtain ⟨g, e1, hlo, hA⟩ := hI.t23 (hdep 23 (by decide))
    rw [hL] at hA
    rw [if_neg (by exact Bool.false_ne_true)] at hA
    refine ow_store 25 _ _ rfl g 0 e1 (bvs EF) rfl 25 _ hA IEF.out (by rw [show (bvs EF).length = 32 from LEF.out]; exact (by decide : 0 + 32 ≤ (bvs (Z8 32)).length)) (bvs_one _) ?_
    intro w' hA' hg hs
    rw [whole_store _ _ (by rw [show (bvs EF).length = 32 from LEF.out]; rfl)] at hA'
    obtain ⟨g2, e2, hlo2, hA2⟩ := hI.t21 (hdep 21 (by decide))
    have ne2 : some g2 ≠ some g := fun e => by
      injection e with e
      refine hI.n13 (hdep 21 (by decide)) (hdep 23 (by decide)) ?_
      rw [e2, e1, e]
    obtain ⟨g3, e3, hlo3, hA3⟩ := hI.t22 (hdep 22 (by decide))
    have ne3 : some g3 ≠ some g := fun e => by
      injection e with e
      refine hI.n23 (hdep 22 (by decide)) (hdep 23 (by decide)) ?_
      rw [e3, e1, e]
    exact hK _ _ ⟨(upd v 45 (.agg (bvs EF).toArray)), rfl, ⟨hI.t0, hI.t1, hI.t2, hI.t3, hI.t4, hI.t5, hI.t6, hI.t7, hI.t8, hI.t9, hI.t10, hI.t11, hI.t12, hI.t13, hI.t14, hI.t15, hI.t16, hI.t17, hI.t18, hI.t19, fun _ => rfl, fun _ => ⟨g2, e2, hlo2, hA2.grown hg ne2⟩, fun _ => ⟨g3, e3, hlo3, hA3.grown hg ne3⟩, fun _ => ⟨g, e1, hlo, hA'⟩, rdd_grown hI.rl hg (by have := HGL.out; omega), hI.n12, hI.n13, hI.n23, hI.bw.grown hg hI.bw.size (by intro k e; injection e with e; omega)⟩⟩
  · rintro a w2 ⟨y4, rfl, hI⟩
    obtain ⟨g2, e2, b2, A2⟩ := hI.t21 rfl
    obtain ⟨g3, e3, b3, A3⟩ := hI.t22 rfl
    obtain ⟨g4, e4, b4, A4⟩ := hI.t23 rfl
    rw [if_pos rfl] at A2 A3 A4
    rw [e2, e3, e4]
    have hbw := hI.bw
    have R4 := hI.rl
    clear hI e2 e3 e4 b2 b3 b4
    go_upto_region 6 with (first
      | ((with_reducible show wpList _ _ _ (⟨some 46, .load _ _, _, _, _, _⟩ :: _) _ _); refine wl_load rfl 25 _ rfl g2 0 rfl 25 (bvs AB) (bvs AB) A2 (fun j v h => (by rw [Nat.zero_add]; exact h)) (.array 32 5) Try.underlying25 rfl IAB.out ?_)
      | ((with_reducible show wpList _ _ _ (⟨some 47, .load _ _, _, _, _, _⟩ :: _) _ _); refine wl_load rfl 25 _ rfl g3 0 rfl 25 (bvs CD) (bvs CD) A3 (fun j v h => (by rw [Nat.zero_add]; exact h)) (.array 32 5) Try.underlying25 rfl ICD.out ?_)
      | (go_at_call 19; refine (HNABCD.out _).mono ?_; rintro e wa ⟨rfl, hba⟩)
      | ((with_reducible show wpList _ _ _ (⟨some 5, .alloc _, _, _, _, _⟩ :: _) _ _); refine wl_alloc rfl 25 rfl (bvs (Z8 32)) 32 infoD ?_; intro wb hAb hbb hsb)
      | ((with_reducible show wpList _ _ _ (⟨none, .store _ (.tmp 5) _, _, _, _, _⟩ :: _) _ _); refine wl_store rfl 25 _ _ rfl wa.heap.size 0 rfl (bvs ABCD) rfl 25 _ hAb IABCD.out FABCD.out (bvs_one _) ?_; intro w3 hA5 hg5 hs5))
    go_simp
    rw [whole_store _ _ TABCD.out] at hA5
    have hb3 : Below w2.heap.size w2 w3 := (hba.trans (hbb.mono hba.size)).grown hg5 (by have := hba.size; have := hbb.size; omega) (by intro k e; injection e with e; have := hba.size; omega)
    replace R4 := R4.to hb3
    replace A4 := A4.kept hb3
    have hbw3 := hbw.trans (hb3.mono hbw.size)
    obtain ⟨g5, hg5'⟩ : ∃ g, wa.heap.size = g := ⟨_, rfl⟩
    rw [hg5'] at hA5 ⊢
    have A5 := hA5
    have B3 := Lib.hid (B1.out.trans (hbw3.mono B1s.out))
    have B3s := Lib.hid B3.out.size
    clear hba hbb hAb hsb hg5 hs5 hb3 hbw hbw3 hA5 hg5' A2 A3
    refine wp_region_steps [[], [0], [], [], [], [4], [5], [3, 6], [2, 7], [1, 8], [9], [10], [11, 10], [12, 10], [10], [10], [15, 10], [16, 10], [14, 17, 10], [13, 18, 10], [10, 19], [20], [21], [22, 21], [23, 21], [21], [21], [25, 26, 21], [24, 27, 21], [21, 28]] (by kernel_rfl) (by kernel_rfl) (fun L a wx => ∃ v : Nat → Value, a = ⟨#[.bool false, .slice (some ⟨gl, 0, none⟩) 7 cl, .pointer (some ⟨g2, 0, none⟩), .pointer (some ⟨g3, 0, none⟩), .pointer (some ⟨g4, 0, none⟩), .pointer (some ⟨g5, 0, none⟩), undef, undef, undef, undef, undef, undef, undef, undef, .slice (some ⟨w.heap.size, 0, none⟩) 1 1, .slice (some ⟨w.heap.size + 1, 0, none⟩) 1 1, .slice (some ⟨w.heap.size + 1 + 1, 0, none⟩) 2 2, .slice (some ⟨w.heap.size + 1 + 1 + 1, 0, none⟩) 2 2, .slice (some ⟨w.heap.size + 1 + 1 + 1 + 1, 0, none⟩) 4 4, .slice (some ⟨w.heap.size + 1 + 1 + 1 + 1 + 1, 0, none⟩) 8 8, .slice (some ⟨w.heap.size + 1 + 1 + 1 + 1 + 1 + 1, 0, none⟩) 7 7, .slice (some ⟨gl, 0, none⟩) 7 cl, .slice (some ⟨gl, 0, none⟩) 7 cl, .int .i64 7, .bool false, y4 25, y4 26, y4 27, y4 28, y4 29, y4 30, y4 31, y4 32, y4 33, y4 34, y4 35, y4 36, y4 37, y4 38, y4 39, y4 40, y4 41, y4 42, y4 43, y4 44, y4 45, .agg (bvs AB).toArray, .agg (bvs CD).toArray, .agg (bvs ABCD).toArray, v 49, v 50, v 51, v 52, v 53, v 54, v 55, v 56, v 57, v 58, v 59, v 60, v 61, v 62, v 63, v 64, v 65, v 66, v 67, v 68, v 69, v 70, v 71, v 72, v 73, v 74, v 75, v 76, v 77, v 78, undef, undef, undef, undef, undef, undef, undef, undef, undef, undef, undef, undef, undef, undef, undef, undef, undef, undef, undef, undef, undef, undef, undef, undef, undef, undef, undef, undef, undef, undef, undef, undef, undef, undef, undef, undef, undef, undef, undef, undef, undef, undef, undef, undef, undef, undef, undef, undef, undef, undef, undef, undef, undef, undef, undef, undef, undef], []⟩ ∧ InvKB H0 H1 H2 H3 H4 H5 H6 AB CD EF ABCD EG R5 R6 R7 SZ gl cl g2 g3 g4 g5 y4  w3 L v wx) ?_ ⟨?_, ?_, ?_, ?_, ?_, ?_, ?_, ?_, ?_, ?_, ?_, ?_, ?_, ?_, ?_, ?_, ?_, ?_, ?_, ?_, ?_, ?_, ?_, ?_, ?_, ?_, ?_, ?_, ?_, ?_, trivial⟩ ?_
    · refine ⟨fun _ => undef, rfl, ⟨?_, ?_, ?_, ?_, ?_, ?_, ?_, ?_, ?_, ?_, ?_, ?_, ?_, ?_, ?_, ?_, ?_, ?_, ?_, ?_, ?_, ?_, ?_, ?_, ?_, ?_, ?_, ?_, ?_, ?_, R4.to (Below.refl _ _).drew, A4.drew, A5.drew, (Below.refl _ _).drew⟩⟩ <;> (intro h; exact absurd h (by decide))
    · rintro L a wx ⟨v, rfl, hI⟩ hL hdep hcl K hK
      go_simp
      exact hK _ _ ⟨(upd v 49 (.slice (some ⟨gl, 0, none⟩) 7 cl)), rfl, ⟨fun _ => rfl, hI.t1, hI.t2, hI.t3, hI.t4, hI.t5, hI.t6, hI.t7, hI.t8, hI.t9, hI.t10, hI.t11, hI.t12, hI.t13, hI.t14, hI.t15, hI.t16, hI.t17, hI.t18, hI.t19, hI.t20, hI.t21, hI.t22, hI.t23, hI.t24, hI.t25, hI.t26, hI.t27, hI.t28, hI.t29, hI.rl, hI.a4, hI.a5, hI.bw⟩⟩
    · rintro L a wx ⟨v, rfl, hI⟩ hL hdep hcl K hK
      have e0 := hI.t0 (hdep 0 (by decide))
      rw [e0]
      have HC := HR7.out wx hI.rl
      go_simp
      refine HC.mono ?_
      rintro e w' ⟨rfl, hb⟩
      exact hK _ _ ⟨(upd (upd v 49 (.slice (some ⟨gl, 0, none⟩) 7 cl)) 50 (.agg (bvs R7).toArray)), rfl, ⟨fun _ => rfl, fun _ => rfl, hI.t2, hI.t3, hI.t4, hI.t5, hI.t6, hI.t7, hI.t8, hI.t9, hI.t10, hI.t11, hI.t12, hI.t13, hI.t14, hI.t15, hI.t16, hI.t17, hI.t18, hI.t19, hI.t20, hI.t21, hI.t22, hI.t23, hI.t24, hI.t25, hI.t26, hI.t27, hI.t28, hI.t29, (hI.rl).to hb, (hI.a4).kept hb, (hI.a5).kept hb, (hI.bw).trans (hb.mono (hI.bw).size)⟩⟩
    · rintro L a wx ⟨v, rfl, hI⟩ hL hdep hcl K hK
      refine ow_load 25 _ rfl g5 0 rfl 25 (bvs ABCD) (bvs ABCD) hI.a5 (fun j v h => by rw [Nat.zero_add]; exact h) (.array 32 5) Try.underlying25 rfl IABCD.out ?_
      exact hK _ _ ⟨(upd v 51 (.agg (bvs ABCD).toArray)), rfl, ⟨hI.t0, hI.t1, fun _ => rfl, hI.t3, hI.t4, hI.t5, hI.t6, hI.t7, hI.t8, hI.t9, hI.t10, hI.t11, hI.t12, hI.t13, hI.t14, hI.t15, hI.t16, hI.t17, hI.t18, hI.t19, hI.t20, hI.t21, hI.t22, hI.t23, hI.t24, hI.t25, hI.t26, hI.t27, hI.t28, hI.t29, hI.rl, hI.a4, hI.a5, hI.bw⟩⟩
    · rintro L a wx ⟨v, rfl, hI⟩ hL hdep hcl K hK
      refine ow_load 25 _ rfl g4 0 rfl 25 (bvs EF) (bvs EF) hI.a4 (fun j v h => by rw [Nat.zero_add]; exact h) (.array 32 5) Try.underlying25 rfl IEF.out ?_
      exact hK _ _ ⟨(upd v 52 (.agg (bvs EF).toArray)), rfl, ⟨hI.t0, hI.t1, hI.t2, fun _ => rfl, hI.t4, hI.t5, hI.t6, hI.t7, hI.t8, hI.t9, hI.t10, hI.t11, hI.t12, hI.t13, hI.t14, hI.t15, hI.t16, hI.t17, hI.t18, hI.t19, hI.t20, hI.t21, hI.t22, hI.t23, hI.t24, hI.t25, hI.t26, hI.t27, hI.t28, hI.t29, hI.rl, hI.a4, hI.a5, hI.bw⟩⟩
    · rintro L a wx ⟨v, rfl, hI⟩ hL hdep hcl K hK
      go_simp
      exact hK _ _ ⟨(upd v 53 (.slice (some ⟨gl, 0, none⟩) 7 cl)), rfl, ⟨hI.t0, hI.t1, hI.t2, hI.t3, fun _ => rfl, hI.t5, hI.t6, hI.t7, hI.t8, hI.t9, hI.t10, hI.t11, hI.t12, hI.t13, hI.t14, hI.t15, hI.t16, hI.t17, hI.t18, hI.t19, hI.t20, hI.t21, hI.t22, hI.t23, hI.t24, hI.t25, hI.t26, hI.t27, hI.t28, hI.t29, hI.rl, hI.a4, hI.a5, hI.bw⟩⟩
    · rintro L a wx ⟨v, rfl, hI⟩ hL hdep hcl K hK
      have e4 := hI.t4 (hdep 4 (by decide))
      rw [e4]
      go_simp
      exact hK _ _ ⟨(upd (upd v 53 (.slice (some ⟨gl, 0, none⟩) 7 cl)) 54 (.pointer (some ⟨gl, 192, none⟩))), rfl, ⟨hI.t0, hI.t1, hI.t2, hI.t3, fun _ => rfl, fun _ => rfl, hI.t6, hI.t7, hI.t8, hI.t9, hI.t10, hI.t11, hI.t12, hI.t13, hI.t14, hI.t15, hI.t16, hI.t17, hI.t18, hI.t19, hI.t20, hI.t21, hI.t22, hI.t23, hI.t24, hI.t25, hI.t26, hI.t27, hI.t28, hI.t29, hI.rl, hI.a4, hI.a5, hI.bw⟩⟩
    · rintro L a wx ⟨v, rfl, hI⟩ hL hdep hcl K hK
      have e5 := hI.t5 (hdep 5 (by decide))
      rw [e5]
      refine wp_load_mid 25 _ rfl gl 192 rfl (bvs H6) (.array 32 5) (HL6.out wx hI.rl) Try.underlying25 rfl I6.out ?_
      exact hK _ _ ⟨(upd (upd v 54 (.pointer (some ⟨gl, 192, none⟩))) 55 (.agg (bvs H6).toArray)), rfl, ⟨hI.t0, hI.t1, hI.t2, hI.t3, hI.t4, fun _ => rfl, fun _ => rfl, hI.t7, hI.t8, hI.t9, hI.t10, hI.t11, hI.t12, hI.t13, hI.t14, hI.t15, hI.t16, hI.t17, hI.t18, hI.t19, hI.t20, hI.t21, hI.t22, hI.t23, hI.t24, hI.t25, hI.t26, hI.t27, hI.t28, hI.t29, hI.rl, hI.a4, hI.a5, hI.bw⟩⟩
    · rintro L a wx ⟨v, rfl, hI⟩ hL hdep hcl K hK
      have e3 := hI.t3 (hdep 3 (by decide))
      have e6 := hI.t6 (hdep 6 (by decide))
      rw [e3, e6]
      have HC := HNEG.out wx
      go_simp
      refine HC.mono ?_
      rintro e w' ⟨rfl, hb⟩
      exact hK _ _ ⟨(upd (upd (upd v 52 (.agg (bvs EF).toArray)) 55 (.agg (bvs H6).toArray)) 56 (.agg (bvs EG).toArray)), rfl, ⟨hI.t0, hI.t1, hI.t2, fun _ => rfl, hI.t4, hI.t5, fun _ => rfl, fun _ => rfl, hI.t8, hI.t9, hI.t10, hI.t11, hI.t12, hI.t13, hI.t14, hI.t15, hI.t16, hI.t17, hI.t18, hI.t19, hI.t20, hI.t21, hI.t22, hI.t23, hI.t24, hI.t25, hI.t26, hI.t27, hI.t28, hI.t29, (hI.rl).to hb, (hI.a4).kept hb, (hI.a5).kept hb, (hI.bw).trans (hb.mono (hI.bw).size)⟩⟩
    · rintro L a wx ⟨v, rfl, hI⟩ hL hdep hcl K hK
      have e2 := hI.t2 (hdep 2 (by decide))
      have e7 := hI.t7 (hdep 7 (by decide))
      rw [e2, e7]
      have HC := HN7.out wx
      go_simp
      refine HC.mono ?_
      rintro e w' ⟨rfl, hb⟩
      exact hK _ _ ⟨(upd (upd (upd v 51 (.agg (bvs ABCD).toArray)) 56 (.agg (bvs EG).toArray)) 57 (.agg (bvs R7).toArray)), rfl, ⟨hI.t0, hI.t1, fun _ => rfl, hI.t3, hI.t4, hI.t5, hI.t6, fun _ => rfl, fun _ => rfl, hI.t9, hI.t10, hI.t11, hI.t12, hI.t13, hI.t14, hI.t15, hI.t16, hI.t17, hI.t18, hI.t19, hI.t20, hI.t21, hI.t22, hI.t23, hI.t24, hI.t25, hI.t26, hI.t27, hI.t28, hI.t29, (hI.rl).to hb, (hI.a4).kept hb, (hI.a5).kept hb, (hI.bw).trans (hb.mono (hI.bw).size)⟩⟩
    · rintro L a wx ⟨v, rfl, hI⟩ hL hdep hcl K hK
      have e1 := hI.t1 (hdep 1 (by decide))
      have e8 := hI.t8 (hdep 8 (by decide))
      rw [e1, e8]
      refine ow_neSame _ _ _ rfl R7 LR7.out rfl rfl ?_
      exact hK _ _ ⟨(upd (upd (upd v 50 (.agg (bvs R7).toArray)) 57 (.agg (bvs R7).toArray)) 58 (.bool false)), rfl, ⟨hI.t0, fun _ => rfl, hI.t2, hI.t3, hI.t4, hI.t5, hI.t6, hI.t7, fun _ => rfl, fun _ => rfl, hI.t10, hI.t11, hI.t12, hI.t13, hI.t14, hI.t15, hI.t16, hI.t17, hI.t18, hI.t19, hI.t20, hI.t21, hI.t22, hI.t23, hI.t24, hI.t25, hI.t26, hI.t27, hI.t28, hI.t29, hI.rl, hI.a4, hI.a5, hI.bw⟩⟩
    · rintro L a wx ⟨v, rfl, hI⟩ hL hdep hcl K hK
      have e9 := hI.t9 (hdep 9 (by decide))
      rw [e9]
      go_simp
      exact hK _ _ ⟨(upd (upd v 58 (.bool false)) 59 (.bool false)), rfl, ⟨hI.t0, hI.t1, hI.t2, hI.t3, hI.t4, hI.t5, hI.t6, hI.t7, hI.t8, fun _ => rfl, fun _ => rfl, hI.t11, hI.t12, hI.t13, hI.t14, hI.t15, hI.t16, hI.t17, hI.t18, hI.t19, hI.t20, hI.t21, hI.t22, hI.t23, hI.t24, hI.t25, hI.t26, hI.t27, hI.t28, hI.t29, hI.rl, hI.a4, hI.a5, hI.bw⟩⟩
    · rintro L a wx ⟨v, rfl, hI⟩ hL hdep hcl K hK
      have e10 := hI.t10 (hdep 10 (by decide))
      rw [e10]
      refine (if_pos rfl).mpr ?_
      go_simp
      exact hK _ _ ⟨(upd (upd v 59 (.bool false)) 60 (.slice (some ⟨gl, 0, none⟩) 7 cl)), rfl, ⟨hI.t0, hI.t1, hI.t2, hI.t3, hI.t4, hI.t5, hI.t6, hI.t7, hI.t8, hI.t9, fun _ => rfl, fun _ => rfl, hI.t12, hI.t13, hI.t14, hI.t15, hI.t16, hI.t17, hI.t18, hI.t19, hI.t20, hI.t21, hI.t22, hI.t23, hI.t24, hI.t25, hI.t26, hI.t27, hI.t28, hI.t29, hI.rl, hI.a4, hI.a5, hI.bw⟩⟩
    · rintro L a wx ⟨v, rfl, hI⟩ hL hdep hcl K hK
      have e11 := hI.t11 (hdep 11 (by decide))
      have e10 := hI.t10 (hdep 10 (by decide))
      rw [e11, e10]
      refine (if_pos rfl).mpr ?_
      have h5 := HC5.out
      go_simp
      exact hK _ _ ⟨(upd (upd (upd v 60 (.slice (some ⟨gl, 0, none⟩) 7 cl)) 59 (.bool false)) 61 (.slice (some ⟨gl, 0, none⟩) 5 cl)), rfl, ⟨hI.t0, hI.t1, hI.t2, hI.t3, hI.t4, hI.t5, hI.t6, hI.t7, hI.t8, hI.t9, fun _ => rfl, fun _ => rfl, fun _ => rfl, hI.t13, hI.t14, hI.t15, hI.t16, hI.t17, hI.t18, hI.t19, hI.t20, hI.t21, hI.t22, hI.t23, hI.t24, hI.t25, hI.t26, hI.t27, hI.t28, hI.t29, hI.rl, hI.a4, hI.a5, hI.bw⟩⟩
    · rintro L a wx ⟨v, rfl, hI⟩ hL hdep hcl K hK
      have e12 := hI.t12 (hdep 12 (by decide))
      have e10 := hI.t10 (hdep 10 (by decide))
      rw [e12, e10]
      refine (if_pos rfl).mpr ?_
      have HC := HR5.out wx hI.rl
      go_simp
      refine HC.mono ?_
      rintro e w' ⟨rfl, hb⟩
      exact hK _ _ ⟨(upd (upd (upd v 61 (.slice (some ⟨gl, 0, none⟩) 5 cl)) 59 (.bool false)) 62 (.agg (bvs R5).toArray)), rfl, ⟨hI.t0, hI.t1, hI.t2, hI.t3, hI.t4, hI.t5, hI.t6, hI.t7, hI.t8, hI.t9, fun _ => rfl, hI.t11, fun _ => rfl, fun _ => rfl, hI.t14, hI.t15, hI.t16, hI.t17, hI.t18, hI.t19, hI.t20, hI.t21, hI.t22, hI.t23, hI.t24, hI.t25, hI.t26, hI.t27, hI.t28, hI.t29, (hI.rl).to hb, (hI.a4).kept hb, (hI.a5).kept hb, (hI.bw).trans (hb.mono (hI.bw).size)⟩⟩
    · rintro L a wx ⟨v, rfl, hI⟩ hL hdep hcl K hK
      have e10 := hI.t10 (hdep 10 (by decide))
      rw [e10]
      refine (if_pos rfl).mpr ?_
      refine ow_load 25 _ rfl g5 0 rfl 25 (bvs ABCD) (bvs ABCD) hI.a5 (fun j v h => by rw [Nat.zero_add]; exact h) (.array 32 5) Try.underlying25 rfl IABCD.out ?_
      exact hK _ _ ⟨(upd (upd v 59 (.bool false)) 63 (.agg (bvs ABCD).toArray)), rfl, ⟨hI.t0, hI.t1, hI.t2, hI.t3, hI.t4, hI.t5, hI.t6, hI.t7, hI.t8, hI.t9, fun _ => rfl, hI.t11, hI.t12, hI.t13, fun _ => rfl, hI.t15, hI.t16, hI.t17, hI.t18, hI.t19, hI.t20, hI.t21, hI.t22, hI.t23, hI.t24, hI.t25, hI.t26, hI.t27, hI.t28, hI.t29, hI.rl, hI.a4, hI.a5, hI.bw⟩⟩
    · rintro L a wx ⟨v, rfl, hI⟩ hL hdep hcl K hK
      have e10 := hI.t10 (hdep 10 (by decide))
      rw [e10]
      refine (if_pos rfl).mpr ?_
      go_simp
      exact hK _ _ ⟨(upd (upd v 59 (.bool false)) 64 (.slice (some ⟨gl, 0, none⟩) 7 cl)), rfl, ⟨hI.t0, hI.t1, hI.t2, hI.t3, hI.t4, hI.t5, hI.t6, hI.t7, hI.t8, hI.t9, fun _ => rfl, hI.t11, hI.t12, hI.t13, hI.t14, fun _ => rfl, hI.t16, hI.t17, hI.t18, hI.t19, hI.t20, hI.t21, hI.t22, hI.t23, hI.t24, hI.t25, hI.t26, hI.t27, hI.t28, hI.t29, hI.rl, hI.a4, hI.a5, hI.bw⟩⟩
    · rintro L a wx ⟨v, rfl, hI⟩ hL hdep hcl K hK
      have e15 := hI.t15 (hdep 15 (by decide))
      have e10 := hI.t10 (hdep 10 (by decide))
      rw [e15, e10]
      refine (if_pos rfl).mpr ?_
      go_simp
      exact hK _ _ ⟨(upd (upd (upd v 64 (.slice (some ⟨gl, 0, none⟩) 7 cl)) 59 (.bool false)) 65 (.pointer (some ⟨gl, 128, none⟩))), rfl, ⟨hI.t0, hI.t1, hI.t2, hI.t3, hI.t4, hI.t5, hI.t6, hI.t7, hI.t8, hI.t9, fun _ => rfl, hI.t11, hI.t12, hI.t13, hI.t14, fun _ => rfl, fun _ => rfl, hI.t17, hI.t18, hI.t19, hI.t20, hI.t21, hI.t22, hI.t23, hI.t24, hI.t25, hI.t26, hI.t27, hI.t28, hI.t29, hI.rl, hI.a4, hI.a5, hI.bw⟩⟩
    · rintro L a wx ⟨v, rfl, hI⟩ hL hdep hcl K hK
      have e16 := hI.t16 (hdep 16 (by decide))
      have e10 := hI.t10 (hdep 10 (by decide))
      rw [e16, e10]
      refine (if_pos rfl).mpr ?_
      refine wp_load_mid 25 _ rfl gl 128 rfl (bvs H4) (.array 32 5) (HL4.out wx hI.rl) Try.underlying25 rfl I4.out ?_
      exact hK _ _ ⟨(upd (upd (upd v 65 (.pointer (some ⟨gl, 128, none⟩))) 59 (.bool false)) 66 (.agg (bvs H4).toArray)), rfl, ⟨hI.t0, hI.t1, hI.t2, hI.t3, hI.t4, hI.t5, hI.t6, hI.t7, hI.t8, hI.t9, fun _ => rfl, hI.t11, hI.t12, hI.t13, hI.t14, hI.t15, fun _ => rfl, fun _ => rfl, hI.t18, hI.t19, hI.t20, hI.t21, hI.t22, hI.t23, hI.t24, hI.t25, hI.t26, hI.t27, hI.t28, hI.t29, hI.rl, hI.a4, hI.a5, hI.bw⟩⟩
    · rintro L a wx ⟨v, rfl, hI⟩ hL hdep hcl K hK
      have e14 := hI.t14 (hdep 14 (by decide))
      have e17 := hI.t17 (hdep 17 (by decide))
      have e10 := hI.t10 (hdep 10 (by decide))
      rw [e14, e17, e10]
      refine (if_pos rfl).mpr ?_
      have HC := HN5.out wx
      go_simp
      refine HC.mono ?_
      rintro e w' ⟨rfl, hb⟩
      exact hK _ _ ⟨(upd (upd (upd (upd v 63 (.agg (bvs ABCD).toArray)) 66 (.agg (bvs H4).toArray)) 59 (.bool false)) 67 (.agg (bvs R5).toArray)), rfl, ⟨hI.t0, hI.t1, hI.t2, hI.t3, hI.t4, hI.t5, hI.t6, hI.t7, hI.t8, hI.t9, fun _ => rfl, hI.t11, hI.t12, hI.t13, fun _ => rfl, hI.t15, hI.t16, fun _ => rfl, fun _ => rfl, hI.t19, hI.t20, hI.t21, hI.t22, hI.t23, hI.t24, hI.t25, hI.t26, hI.t27, hI.t28, hI.t29, (hI.rl).to hb, (hI.a4).kept hb, (hI.a5).kept hb, (hI.bw).trans (hb.mono (hI.bw).size)⟩⟩
    · rintro L a wx ⟨v, rfl, hI⟩ hL hdep hcl K hK
      have e13 := hI.t13 (hdep 13 (by decide))
      have e18 := hI.t18 (hdep 18 (by decide))
      have e10 := hI.t10 (hdep 10 (by decide))
      rw [e13, e18, e10]
      refine (if_pos rfl).mpr ?_
      refine ow_neSame _ _ _ rfl R5 LR5.out rfl rfl ?_
      exact hK _ _ ⟨(upd (upd (upd (upd v 62 (.agg (bvs R5).toArray)) 67 (.agg (bvs R5).toArray)) 59 (.bool false)) 68 (.bool false)), rfl, ⟨hI.t0, hI.t1, hI.t2, hI.t3, hI.t4, hI.t5, hI.t6, hI.t7, hI.t8, hI.t9, fun _ => rfl, hI.t11, hI.t12, fun _ => rfl, hI.t14, hI.t15, hI.t16, hI.t17, fun _ => rfl, fun _ => rfl, hI.t20, hI.t21, hI.t22, hI.t23, hI.t24, hI.t25, hI.t26, hI.t27, hI.t28, hI.t29, hI.rl, hI.a4, hI.a5, hI.bw⟩⟩
    · rintro L a wx ⟨v, rfl, hI⟩ hL hdep hcl K hK
      have e10 := hI.t10 (hdep 10 (by decide))
      have e19 := hI.t19 (hdep 19 (by decide))
      rw [e10, e19]
      go_simp
      exact hK _ _ ⟨(upd (upd (upd v 59 (.bool false)) 68 (.bool false)) 69 (.bool false)), rfl, ⟨hI.t0, hI.t1, hI.t2, hI.t3, hI.t4, hI.t5, hI.t6, hI.t7, hI.t8, hI.t9, fun _ => rfl, hI.t11, hI.t12, hI.t13, hI.t14, hI.t15, hI.t16, hI.t17, hI.t18, fun _ => rfl, fun _ => rfl, hI.t21, hI.t22, hI.t23, hI.t24, hI.t25, hI.t26, hI.t27, hI.t28, hI.t29, hI.rl, hI.a4, hI.a5, hI.bw⟩⟩
    · rintro L a wx ⟨v, rfl, hI⟩ hL hdep hcl K hK
      have e20 := hI.t20 (hdep 20 (by decide))
      rw [e20]
      go_simp
      exact hK _ _ ⟨(upd (upd v 69 (.bool false)) 70 (.bool false)), rfl, ⟨hI.t0, hI.t1, hI.t2, hI.t3, hI.t4, hI.t5, hI.t6, hI.t7, hI.t8, hI.t9, hI.t10, hI.t11, hI.t12, hI.t13, hI.t14, hI.t15, hI.t16, hI.t17, hI.t18, hI.t19, fun _ => rfl, fun _ => rfl, hI.t22, hI.t23, hI.t24, hI.t25, hI.t26, hI.t27, hI.t28, hI.t29, hI.rl, hI.a4, hI.a5, hI.bw⟩⟩
    · rintro L a wx ⟨v, rfl, hI⟩ hL hdep hcl K hK
      have e21 := hI.t21 (hdep 21 (by decide))
      rw [e21]
      refine (if_pos rfl).mpr ?_
      go_simp
      exact hK _ _ ⟨(upd (upd v 70 (.bool false)) 71 (.slice (some ⟨gl, 0, none⟩) 7 cl)), rfl, ⟨hI.t0, hI.t1, hI.t2, hI.t3, hI.t4, hI.t5, hI.t6, hI.t7, hI.t8, hI.t9, hI.t10, hI.t11, hI.t12, hI.t13, hI.t14, hI.t15, hI.t16, hI.t17, hI.t18, hI.t19, hI.t20, fun _ => rfl, fun _ => rfl, hI.t23, hI.t24, hI.t25, hI.t26, hI.t27, hI.t28, hI.t29, hI.rl, hI.a4, hI.a5, hI.bw⟩⟩
    · rintro L a wx ⟨v, rfl, hI⟩ hL hdep hcl K hK
      have e22 := hI.t22 (hdep 22 (by decide))
      have e21 := hI.t21 (hdep 21 (by decide))
      rw [e22, e21]
      refine (if_pos rfl).mpr ?_
      have h5 := HC6.out
      go_simp
      exact hK _ _ ⟨(upd (upd (upd v 71 (.slice (some ⟨gl, 0, none⟩) 7 cl)) 70 (.bool false)) 72 (.slice (some ⟨gl, 0, none⟩) 6 cl)), rfl, ⟨hI.t0, hI.t1, hI.t2, hI.t3, hI.t4, hI.t5, hI.t6, hI.t7, hI.t8, hI.t9, hI.t10, hI.t11, hI.t12, hI.t13, hI.t14, hI.t15, hI.t16, hI.t17, hI.t18, hI.t19, hI.t20, fun _ => rfl, fun _ => rfl, fun _ => rfl, hI.t24, hI.t25, hI.t26, hI.t27, hI.t28, hI.t29, hI.rl, hI.a4, hI.a5, hI.bw⟩⟩
    · rintro L a wx ⟨v, rfl, hI⟩ hL hdep hcl K hK
      have e23 := hI.t23 (hdep 23 (by decide))
      have e21 := hI.t21 (hdep 21 (by decide))
      rw [e23, e21]
      refine (if_pos rfl).mpr ?_
      have HC := HR6.out wx hI.rl
      go_simp
      refine HC.mono ?_
      rintro e w' ⟨rfl, hb⟩
      exact hK _ _ ⟨(upd (upd (upd v 72 (.slice (some ⟨gl, 0, none⟩) 6 cl)) 70 (.bool false)) 73 (.agg (bvs R6).toArray)), rfl, ⟨hI.t0, hI.t1, hI.t2, hI.t3, hI.t4, hI.t5, hI.t6, hI.t7, hI.t8, hI.t9, hI.t10, hI.t11, hI.t12, hI.t13, hI.t14, hI.t15, hI.t16, hI.t17, hI.t18, hI.t19, hI.t20, fun _ => rfl, hI.t22, fun _ => rfl, fun _ => rfl, hI.t25, hI.t26, hI.t27, hI.t28, hI.t29, (hI.rl).to hb, (hI.a4).kept hb, (hI.a5).kept hb, (hI.bw).trans (hb.mono (hI.bw).size)⟩⟩
    · rintro L a wx ⟨v, rfl, hI⟩ hL hdep hcl K hK
      have e21 := hI.t21 (hdep 21 (by decide))
      rw [e21]
      refine (if_pos rfl).mpr ?_
      refine ow_load 25 _ rfl g5 0 rfl 25 (bvs ABCD) (bvs ABCD) hI.a5 (fun j v h => by rw [Nat.zero_add]; exact h) (.array 32 5) Try.underlying25 rfl IABCD.out ?_
      exact hK _ _ ⟨(upd (upd v 70 (.bool false)) 74 (.agg (bvs ABCD).toArray)), rfl, ⟨hI.t0, hI.t1, hI.t2, hI.t3, hI.t4, hI.t5, hI.t6, hI.t7, hI.t8, hI.t9, hI.t10, hI.t11, hI.t12, hI.t13, hI.t14, hI.t15, hI.t16, hI.t17, hI.t18, hI.t19, hI.t20, fun _ => rfl, hI.t22, hI.t23, hI.t24, fun _ => rfl, hI.t26, hI.t27, hI.t28, hI.t29, hI.rl, hI.a4, hI.a5, hI.bw⟩⟩
    · rintro L a wx ⟨v, rfl, hI⟩ hL hdep hcl K hK
      have e21 := hI.t21 (hdep 21 (by decide))
      rw [e21]
      refine (if_pos rfl).mpr ?_
      refine ow_load 25 _ rfl g4 0 rfl 25 (bvs EF) (bvs EF) hI.a4 (fun j v h => by rw [Nat.zero_add]; exact h) (.array 32 5) Try.underlying25 rfl IEF.out ?_
      exact hK _ _ ⟨(upd (upd v 70 (.bool false)) 75 (.agg (bvs EF).toArray)), rfl, ⟨hI.t0, hI.t1, hI.t2, hI.t3, hI.t4, hI.t5, hI.t6, hI.t7, hI.t8, hI.t9, hI.t10, hI.t11, hI.t12, hI.t13, hI.t14, hI.t15, hI.t16, hI.t17, hI.t18, hI.t19, hI.t20, fun _ => rfl, hI.t22, hI.t23, hI.t24, hI.t25, fun _ => rfl, hI.t27, hI.t28, hI.t29, hI.rl, hI.a4, hI.a5, hI.bw⟩⟩
    · rintro L a wx ⟨v, rfl, hI⟩ hL hdep hcl K hK
      have e25 := hI.t25 (hdep 25 (by decide))
      have e26 := hI.t26 (hdep 26 (by decide))
      have e21 := hI.t21 (hdep 21 (by decide))
      rw [e25, e26, e21]
      refine (if_pos rfl).mpr ?_
      have HC := HN6.out wx
      go_simp
      refine HC.mono ?_
      rintro e w' ⟨rfl, hb⟩
      exact hK _ _ ⟨(upd (upd (upd (upd v 74 (.agg (bvs ABCD).toArray)) 75 (.agg (bvs EF).toArray)) 70 (.bool false)) 76 (.agg (bvs R6).toArray)), rfl, ⟨hI.t0, hI.t1, hI.t2, hI.t3, hI.t4, hI.t5, hI.t6, hI.t7, hI.t8, hI.t9, hI.t10, hI.t11, hI.t12, hI.t13, hI.t14, hI.t15, hI.t16, hI.t17, hI.t18, hI.t19, hI.t20, fun _ => rfl, hI.t22, hI.t23, hI.t24, fun _ => rfl, fun _ => rfl, fun _ => rfl, hI.t28, hI.t29, (hI.rl).to hb, (hI.a4).kept hb, (hI.a5).kept hb, (hI.bw).trans (hb.mono (hI.bw).size)⟩⟩
    · rintro L a wx ⟨v, rfl, hI⟩ hL hdep hcl K hK
      have e24 := hI.t24 (hdep 24 (by decide))
      have e27 := hI.t27 (hdep 27 (by decide))
      have e21 := hI.t21 (hdep 21 (by decide))
      rw [e24, e27, e21]
      refine (if_pos rfl).mpr ?_
      refine ow_neSame _ _ _ rfl R6 LR6.out rfl rfl ?_
      exact hK _ _ ⟨(upd (upd (upd (upd v 73 (.agg (bvs R6).toArray)) 76 (.agg (bvs R6).toArray)) 70 (.bool false)) 77 (.bool false)), rfl, ⟨hI.t0, hI.t1, hI.t2, hI.t3, hI.t4, hI.t5, hI.t6, hI.t7, hI.t8, hI.t9, hI.t10, hI.t11, hI.t12, hI.t13, hI.t14, hI.t15, hI.t16, hI.t17, hI.t18, hI.t19, hI.t20, fun _ => rfl, hI.t22, hI.t23, fun _ => rfl, hI.t25, hI.t26, fun _ => rfl, fun _ => rfl, hI.t29, hI.rl, hI.a4, hI.a5, hI.bw⟩⟩
    · rintro L a wx ⟨v, rfl, hI⟩ hL hdep hcl K hK
      have e21 := hI.t21 (hdep 21 (by decide))
      have e28 := hI.t28 (hdep 28 (by decide))
      rw [e21, e28]
      go_simp
      exact hK _ _ ⟨(upd (upd (upd v 70 (.bool false)) 77 (.bool false)) 78 (.bool false)), rfl, ⟨hI.t0, hI.t1, hI.t2, hI.t3, hI.t4, hI.t5, hI.t6, hI.t7, hI.t8, hI.t9, hI.t10, hI.t11, hI.t12, hI.t13, hI.t14, hI.t15, hI.t16, hI.t17, hI.t18, hI.t19, hI.t20, fun _ => rfl, hI.t22, hI.t23, hI.t24, hI.t25, hI.t26, hI.t27, fun _ => rfl, fun _ => rfl, hI.rl, hI.a4, hI.a5, hI.bw⟩⟩
    · rintro a w4 ⟨y6, rfl, hI⟩
      have e := hI.t29 rfl
      rw [e]
      have hbw := hI.bw
      have R4 := hI.rl
      clear hI e
      have HBC : Below w3.heap.size w3 w4 := hbw
      clear hbw
      go_upto_region 9 with (first
        | (go_at_call 9; refine (HSa.out _ _ _ R4).mono ?_; rintro e wa ⟨rfl, hba⟩)
        | ((with_reducible show wpList _ _ _ (⟨some 6, .alloc _, _, _, _, _⟩ :: _) _ _); refine wl_alloc rfl 25 rfl (bvs (Z8 32)) 32 infoD ?_; intro wb hAb hbb hsb)
        | ((with_reducible show wpList _ _ _ (⟨none, .store _ (.tmp 6) _, _, _, _, _⟩ :: _) _ _); refine wl_store rfl 25 _ _ rfl wa.heap.size 0 rfl (bvs (Z8 32)) rfl 25 _ hAb IZ.out FZ.out (bvs_one _) ?_; intro wn hAn hgn hsn))
      have hbn : Below w4.heap.size w4 wn := (hba.trans (hbb.mono hba.size)).grown hgn (by have := hba.size; have := hbb.size; omega) (by intro k e; injection e with e; have := hba.size; omega)
      replace R4 := R4.to hbn
      obtain ⟨g6, hgg⟩ : ∃ g, wa.heap.size = g := ⟨_, rfl⟩
      rw [hgg] at hAn ⊢
      have hbc := HBC.trans (hbn.mono HBC.size)
      clear HBC
      have HBC := hbc
      clear hba hbb hAb hsb hgn hsn hbn hbc hgg hAn
      generalize wn = w5 at *
      go_upto_region 10 with (first
        | (go_at_call 9; refine (HSb.out _ _ _ R4).mono ?_; rintro e wa ⟨rfl, hba⟩)
        | ((with_reducible show wpList _ _ _ (⟨some 8, .alloc _, _, _, _, _⟩ :: _) _ _); refine wl_alloc rfl 25 rfl (bvs (Z8 32)) 32 infoD ?_; intro wb hAb hbb hsb)
        | ((with_reducible show wpList _ _ _ (⟨none, .store _ (.tmp 8) _, _, _, _, _⟩ :: _) _ _); refine wl_store rfl 25 _ _ rfl wa.heap.size 0 rfl (bvs (Z8 32)) rfl 25 _ hAb IZ.out FZ.out (bvs_one _) ?_; intro wn hAn hgn hsn))
      have hbn : Below w5.heap.size w5 wn := (hba.trans (hbb.mono hba.size)).grown hgn (by have := hba.size; have := hbb.size; omega) (by intro k e; injection e with e; have := hba.size; omega)
      replace R4 := R4.to hbn
      obtain ⟨g8, hgg⟩ : ∃ g, wa.heap.size = g := ⟨_, rfl⟩
      rw [hgg] at hAn ⊢
      have hbc := HBC.trans (hbn.mono HBC.size)
      clear HBC
      have HBC := hbc
      clear hba hbb hAb hsb hgn hsn hbn hbc hgg hAn
      generalize wn = w6 at *
      go_upto_region 11 with (first
        | (go_at_call 9; refine (HSc.out _).mono ?_; rintro e wa ⟨rfl, hba⟩)
        | ((with_reducible show wpList _ _ _ (⟨some 10, .alloc _, _, _, _, _⟩ :: _) _ _); refine wl_alloc rfl 25 rfl (bvs (Z8 32)) 32 infoD ?_; intro wb hAb hbb hsb)
        | ((with_reducible show wpList _ _ _ (⟨none, .store _ (.tmp 10) _, _, _, _, _⟩ :: _) _ _); refine wl_store rfl 25 _ _ rfl wa.heap.size 0 rfl (bvs (Z8 32)) rfl 25 _ hAb IZ.out FZ.out (bvs_one _) ?_; intro wn hAn hgn hsn))
      have hbn : Below w6.heap.size w6 wn := (hba.trans (hbb.mono hba.size)).grown hgn (by have := hba.size; have := hbb.size; omega) (by intro k e; injection e with e; have := hba.size; omega)
      replace R4 := R4.to hbn
      obtain ⟨g10, hgg⟩ : ∃ g, wa.heap.size = g := ⟨_, rfl⟩
      rw [hgg] at hAn ⊢
      have hbc := HBC.trans (hbn.mono HBC.size)
      clear HBC
      have HBC := hbc
      clear hba hbb hAb hsb hgn hsn hbn hbc hgg hAn
      generalize wn = w7 at *
      go_upto_region 12 with (first
        | (go_at_call 9; refine (HSd.out _ _ _ R4).mono ?_; rintro e wa ⟨rfl, hba⟩)
        | ((with_reducible show wpList _ _ _ (⟨some 12, .alloc _, _, _, _, _⟩ :: _) _ _); refine wl_alloc rfl 25 rfl (bvs (Z8 32)) 32 infoD ?_; intro wb hAb hbb hsb)
        | ((with_reducible show wpList _ _ _ (⟨none, .store _ (.tmp 12) _, _, _, _, _⟩ :: _) _ _); refine wl_store rfl 25 _ _ rfl wa.heap.size 0 rfl (bvs R7) rfl 25 _ hAb IR7.out FR7.out (bvs_one _) ?_; intro wn hAn hgn hsn))
      rw [whole_store _ _ TR7.out] at hAn
      have hbn : Below w7.heap.size w7 wn := (hba.trans (hbb.mono hba.size)).grown hgn (by have := hba.size; have := hbb.size; omega) (by intro k e; injection e with e; have := hba.size; omega)
      replace R4 := R4.to hbn
      obtain ⟨g12, hgg⟩ : ∃ g, wa.heap.size = g := ⟨_, rfl⟩
      rw [hgg] at hAn ⊢
      have hbc := HBC.trans (hbn.mono HBC.size)
      clear HBC
      have HBC := hbc
      clear hba hbb hAb hsb hgn hsn hbn hbc hgg
      generalize wn = w8 at *
      go_simp
      have A12 := hAn
      have BZ := Lib.hid (B3.out.trans (HBC.mono B3s.out))
      have BZs := Lib.hid BZ.out.size
      clear HBC hAn
      refine wp_region_steps [[], [0], [1], [2], [3, 2], [2, 4], [5], [6], [7, 6], [6, 8], [9], [10], [11, 10], [10, 12], [13], [14], [14], [16, 14], [15, 17, 14], [14, 18], [19], [20], [21, 20], [22, 20], [20, 23], [24], [25], [25], [26, 27, 25], [25, 28], [29], [30], [31, 30], [32, 30], [30, 33], [34], [35], [35, 36], [37]] (by kernel_rfl) (by kernel_rfl) (fun L a wx => ∃ v : Nat → Value, a = ⟨#[v 0, .slice (some ⟨gl, 0, none⟩) 7 cl, .pointer (some ⟨g2, 0, none⟩), .pointer (some ⟨g3, 0, none⟩), .pointer (some ⟨g4, 0, none⟩), .pointer (some ⟨g5, 0, none⟩), .pointer (some ⟨g6, 0, none⟩), .int .i64 1, .pointer (some ⟨g8, 0, none⟩), .int .i64 1, .pointer (some ⟨g10, 0, none⟩), .int .i64 1, .pointer (some ⟨g12, 0, none⟩), .int .i64 0, .slice (some ⟨w.heap.size, 0, none⟩) 1 1, .slice (some ⟨w.heap.size + 1, 0, none⟩) 1 1, .slice (some ⟨w.heap.size + 1 + 1, 0, none⟩) 2 2, .slice (some ⟨w.heap.size + 1 + 1 + 1, 0, none⟩) 2 2, .slice (some ⟨w.heap.size + 1 + 1 + 1 + 1, 0, none⟩) 4 4, .slice (some ⟨w.heap.size + 1 + 1 + 1 + 1 + 1, 0, none⟩) 8 8, .slice (some ⟨w.heap.size + 1 + 1 + 1 + 1 + 1 + 1, 0, none⟩) 7 7, .slice (some ⟨gl, 0, none⟩) 7 cl, .slice (some ⟨gl, 0, none⟩) 7 cl, .int .i64 7, .bool false, y4 25, y4 26, y4 27, y4 28, y4 29, y4 30, y4 31, y4 32, y4 33, y4 34, y4 35, y4 36, y4 37, y4 38, y4 39, y4 40, y4 41, y4 42, y4 43, y4 44, y4 45, .agg (bvs AB).toArray, .agg (bvs CD).toArray, .agg (bvs ABCD).toArray, y6 49, y6 50, y6 51, y6 52, y6 53, y6 54, y6 55, y6 56, y6 57, y6 58, y6 59, y6 60, y6 61, y6 62, y6 63, y6 64, y6 65, y6 66, y6 67, y6 68, y6 69, y6 70, y6 71, y6 72, y6 73, y6 74, y6 75, y6 76, y6 77, .bool false, .tuple #[.agg (bvs (Z8 32)).toArray, .int .i64 1], .slice (some ⟨gl, 0, none⟩) 7 cl, .tuple #[.agg (bvs (Z8 32)).toArray, .int .i64 1], .agg (bvs (Z8 32)).toArray, .int .i64 1, .tuple #[.agg (bvs (Z8 32)).toArray, .int .i64 1], .slice (some ⟨gl, 0, none⟩) 7 cl, .tuple #[.agg (bvs (Z8 32)).toArray, .int .i64 1], .agg (bvs (Z8 32)).toArray, .int .i64 1, .tuple #[.agg (bvs (Z8 32)).toArray, .int .i64 1], .tuple #[.agg (bvs (Z8 32)).toArray, .int .i64 1], .agg (bvs (Z8 32)).toArray, .int .i64 1, .tuple #[.agg (bvs R7).toArray, .int .i64 0], .slice (some ⟨gl, 0, none⟩) 7 cl, .tuple #[.agg (bvs R7).toArray, .int .i64 0], .agg (bvs R7).toArray, .int .i64 0, v 98, v 99, v 100, v 101, v 102, v 103, v 104, v 105, v 106, v 107, v 108, v 109, v 110, v 111, v 112, v 113, v 114, v 115, v 116, v 117, v 118, v 119, v 120, v 121, v 122, v 123, v 124, v 125, v 126, v 127, v 128, v 129, v 130, v 131, v 132, v 133, v 134, v 135], []⟩ ∧ InvKC H0 H1 H2 H3 H4 H5 H6 AB CD EF ABCD EG R5 R6 R7 SZ gl cl g2 g3 g4 g5 g6 g8 g10 g12 y4 y6  w8 L v wx) ?_ ⟨?_, ?_, ?_, ?_, ?_, ?_, ?_, ?_, ?_, ?_, ?_, ?_, ?_, ?_, ?_, ?_, ?_, ?_, ?_, ?_, ?_, ?_, ?_, ?_, ?_, ?_, ?_, ?_, ?_, ?_, ?_, ?_, ?_, ?_, ?_, ?_, ?_, ?_, ?_, trivial⟩ ?_
      · refine ⟨upd (fun _ => undef) 0 (.bool false), rfl, ⟨?_, ?_, ?_, ?_, ?_, ?_, ?_, ?_, ?_, ?_, ?_, ?_, ?_, ?_, ?_, ?_, ?_, ?_, ?_, ?_, ?_, ?_, ?_, ?_, ?_, ?_, ?_, ?_, ?_, ?_, ?_, ?_, ?_, ?_, ?_, ?_, ?_, ?_, ?_, R4.to (Below.refl _ _).drew, A12.drew, (Below.refl _ _).drew⟩⟩ <;> (intro h; exact absurd h (by decide))
      · rintro L a wx ⟨v, rfl, hI⟩ hL hdep hcl K hK
        go_simp
        exact hK _ _ ⟨(upd v 98 (.int .i64 1)), rfl, ⟨fun _ => rfl, hI.t1, hI.t2, hI.t3, hI.t4, hI.t5, hI.t6, hI.t7, hI.t8, hI.t9, hI.t10, hI.t11, hI.t12, hI.t13, hI.t14, hI.t15, hI.t16, hI.t17, hI.t18, hI.t19, hI.t20, hI.t21, hI.t22, hI.t23, hI.t24, hI.t25, hI.t26, hI.t27, hI.t28, hI.t29, hI.t30, hI.t31, hI.t32, hI.t33, hI.t34, hI.t35, hI.t36, hI.t37, hI.t38, hI.rl, hI.a12, hI.bw⟩⟩
      · rintro L a wx ⟨v, rfl, hI⟩ hL hdep hcl K hK
        have e0 := hI.t0 (hdep 0 (by decide))
        rw [e0]
        go_simp
        exact hK _ _ ⟨(upd (upd v 98 (.int .i64 1)) 99 (.bool true)), rfl, ⟨fun _ => rfl, fun _ => rfl, hI.t2, hI.t3, hI.t4, hI.t5, hI.t6, hI.t7, hI.t8, hI.t9, hI.t10, hI.t11, hI.t12, hI.t13, hI.t14, hI.t15, hI.t16, hI.t17, hI.t18, hI.t19, hI.t20, hI.t21, hI.t22, hI.t23, hI.t24, hI.t25, hI.t26, hI.t27, hI.t28, hI.t29, hI.t30, hI.t31, hI.t32, hI.t33, hI.t34, hI.t35, hI.t36, hI.t37, hI.t38, hI.rl, hI.a12, hI.bw⟩⟩
      · rintro L a wx ⟨v, rfl, hI⟩ hL hdep hcl K hK
        have e1 := hI.t1 (hdep 1 (by decide))
        rw [e1]
        go_simp
        exact hK _ _ ⟨(upd (upd v 99 (.bool true)) 100 (.bool true)), rfl, ⟨hI.t0, fun _ => rfl, fun _ => rfl, hI.t3, hI.t4, hI.t5, hI.t6, hI.t7, hI.t8, hI.t9, hI.t10, hI.t11, hI.t12, hI.t13, hI.t14, hI.t15, hI.t16, hI.t17, hI.t18, hI.t19, hI.t20, hI.t21, hI.t22, hI.t23, hI.t24, hI.t25, hI.t26, hI.t27, hI.t28, hI.t29, hI.t30, hI.t31, hI.t32, hI.t33, hI.t34, hI.t35, hI.t36, hI.t37, hI.t38, hI.rl, hI.a12, hI.bw⟩⟩
      · rintro L a wx ⟨v, rfl, hI⟩ hL hdep hcl K hK
        have e2 := hI.t2 (hdep 2 (by decide))
        rw [e2]
        refine (if_pos rfl).mpr ?_
        go_simp
        exact hK _ _ ⟨(upd (upd v 100 (.bool true)) 101 (.int .i64 1)), rfl, ⟨hI.t0, hI.t1, fun _ => rfl, fun _ => rfl, hI.t4, hI.t5, hI.t6, hI.t7, hI.t8, hI.t9, hI.t10, hI.t11, hI.t12, hI.t13, hI.t14, hI.t15, hI.t16, hI.t17, hI.t18, hI.t19, hI.t20, hI.t21, hI.t22, hI.t23, hI.t24, hI.t25, hI.t26, hI.t27, hI.t28, hI.t29, hI.t30, hI.t31, hI.t32, hI.t33, hI.t34, hI.t35, hI.t36, hI.t37, hI.t38, hI.rl, hI.a12, hI.bw⟩⟩
      · rintro L a wx ⟨v, rfl, hI⟩ hL hdep hcl K hK
        have e3 := hI.t3 (hdep 3 (by decide))
        have e2 := hI.t2 (hdep 2 (by decide))
        rw [e3, e2]
        refine (if_pos rfl).mpr ?_
        go_simp
        exact hK _ _ ⟨(upd (upd (upd v 101 (.int .i64 1)) 100 (.bool true)) 102 (.bool true)), rfl, ⟨hI.t0, hI.t1, fun _ => rfl, fun _ => rfl, fun _ => rfl, hI.t5, hI.t6, hI.t7, hI.t8, hI.t9, hI.t10, hI.t11, hI.t12, hI.t13, hI.t14, hI.t15, hI.t16, hI.t17, hI.t18, hI.t19, hI.t20, hI.t21, hI.t22, hI.t23, hI.t24, hI.t25, hI.t26, hI.t27, hI.t28, hI.t29, hI.t30, hI.t31, hI.t32, hI.t33, hI.t34, hI.t35, hI.t36, hI.t37, hI.t38, hI.rl, hI.a12, hI.bw⟩⟩
      · rintro L a wx ⟨v, rfl, hI⟩ hL hdep hcl K hK
        have e2 := hI.t2 (hdep 2 (by decide))
        have e4 := hI.t4 (hdep 4 (by decide))
        rw [e2, e4]
        go_simp
        exact hK _ _ ⟨(upd (upd (upd v 100 (.bool true)) 102 (.bool true)) 103 (.bool true)), rfl, ⟨hI.t0, hI.t1, fun _ => rfl, hI.t3, fun _ => rfl, fun _ => rfl, hI.t6, hI.t7, hI.t8, hI.t9, hI.t10, hI.t11, hI.t12, hI.t13, hI.t14, hI.t15, hI.t16, hI.t17, hI.t18, hI.t19, hI.t20, hI.t21, hI.t22, hI.t23, hI.t24, hI.t25, hI.t26, hI.t27, hI.t28, hI.t29, hI.t30, hI.t31, hI.t32, hI.t33, hI.t34, hI.t35, hI.t36, hI.t37, hI.t38, hI.rl, hI.a12, hI.bw⟩⟩
      · rintro L a wx ⟨v, rfl, hI⟩ hL hdep hcl K hK
        have e5 := hI.t5 (hdep 5 (by decide))
        rw [e5]
        go_simp
        exact hK _ _ ⟨(upd (upd v 103 (.bool true)) 104 (.bool true)), rfl, ⟨hI.t0, hI.t1, hI.t2, hI.t3, hI.t4, fun _ => rfl, fun _ => rfl, hI.t7, hI.t8, hI.t9, hI.t10, hI.t11, hI.t12, hI.t13, hI.t14, hI.t15, hI.t16, hI.t17, hI.t18, hI.t19, hI.t20, hI.t21, hI.t22, hI.t23, hI.t24, hI.t25, hI.t26, hI.t27, hI.t28, hI.t29, hI.t30, hI.t31, hI.t32, hI.t33, hI.t34, hI.t35, hI.t36, hI.t37, hI.t38, hI.rl, hI.a12, hI.bw⟩⟩
      · rintro L a wx ⟨v, rfl, hI⟩ hL hdep hcl K hK
        have e6 := hI.t6 (hdep 6 (by decide))
        rw [e6]
        refine (if_pos rfl).mpr ?_
        go_simp
        exact hK _ _ ⟨(upd (upd v 104 (.bool true)) 105 (.int .i64 1)), rfl, ⟨hI.t0, hI.t1, hI.t2, hI.t3, hI.t4, hI.t5, fun _ => rfl, fun _ => rfl, hI.t8, hI.t9, hI.t10, hI.t11, hI.t12, hI.t13, hI.t14, hI.t15, hI.t16, hI.t17, hI.t18, hI.t19, hI.t20, hI.t21, hI.t22, hI.t23, hI.t24, hI.t25, hI.t26, hI.t27, hI.t28, hI.t29, hI.t30, hI.t31, hI.t32, hI.t33, hI.t34, hI.t35, hI.t36, hI.t37, hI.t38, hI.rl, hI.a12, hI.bw⟩⟩
      · rintro L a wx ⟨v, rfl, hI⟩ hL hdep hcl K hK
        have e7 := hI.t7 (hdep 7 (by decide))
        have e6 := hI.t6 (hdep 6 (by decide))
        rw [e7, e6]
        refine (if_pos rfl).mpr ?_
        go_simp
        exact hK _ _ ⟨(upd (upd (upd v 105 (.int .i64 1)) 104 (.bool true)) 106 (.bool true)), rfl, ⟨hI.t0, hI.t1, hI.t2, hI.t3, hI.t4, hI.t5, fun _ => rfl, fun _ => rfl, fun _ => rfl, hI.t9, hI.t10, hI.t11, hI.t12, hI.t13, hI.t14, hI.t15, hI.t16, hI.t17, hI.t18, hI.t19, hI.t20, hI.t21, hI.t22, hI.t23, hI.t24, hI.t25, hI.t26, hI.t27, hI.t28, hI.t29, hI.t30, hI.t31, hI.t32, hI.t33, hI.t34, hI.t35, hI.t36, hI.t37, hI.t38, hI.rl, hI.a12, hI.bw⟩⟩
      · rintro L a wx ⟨v, rfl, hI⟩ hL hdep hcl K hK
        have e6 := hI.t6 (hdep 6 (by decide))
        have e8 := hI.t8 (hdep 8 (by decide))
        rw [e6, e8]
        go_simp
        exact hK _ _ ⟨(upd (upd (upd v 104 (.bool true)) 106 (.bool true)) 107 (.bool true)), rfl, ⟨hI.t0, hI.t1, hI.t2, hI.t3, hI.t4, hI.t5, fun _ => rfl, hI.t7, fun _ => rfl, fun _ => rfl, hI.t10, hI.t11, hI.t12, hI.t13, hI.t14, hI.t15, hI.t16, hI.t17, hI.t18, hI.t19, hI.t20, hI.t21, hI.t22, hI.t23, hI.t24, hI.t25, hI.t26, hI.t27, hI.t28, hI.t29, hI.t30, hI.t31, hI.t32, hI.t33, hI.t34, hI.t35, hI.t36, hI.t37, hI.t38, hI.rl, hI.a12, hI.bw⟩⟩
      · rintro L a wx ⟨v, rfl, hI⟩ hL hdep hcl K hK
        have e9 := hI.t9 (hdep 9 (by decide))
        rw [e9]
        go_simp
        exact hK _ _ ⟨(upd (upd v 107 (.bool true)) 108 (.bool true)), rfl, ⟨hI.t0, hI.t1, hI.t2, hI.t3, hI.t4, hI.t5, hI.t6, hI.t7, hI.t8, fun _ => rfl, fun _ => rfl, hI.t11, hI.t12, hI.t13, hI.t14, hI.t15, hI.t16, hI.t17, hI.t18, hI.t19, hI.t20, hI.t21, hI.t22, hI.t23, hI.t24, hI.t25, hI.t26, hI.t27, hI.t28, hI.t29, hI.t30, hI.t31, hI.t32, hI.t33, hI.t34, hI.t35, hI.t36, hI.t37, hI.t38, hI.rl, hI.a12, hI.bw⟩⟩
      · rintro L a wx ⟨v, rfl, hI⟩ hL hdep hcl K hK
        have e10 := hI.t10 (hdep 10 (by decide))
        rw [e10]
        refine (if_pos rfl).mpr ?_
        go_simp
        exact hK _ _ ⟨(upd (upd v 108 (.bool true)) 109 (.int .i64 0)), rfl, ⟨hI.t0, hI.t1, hI.t2, hI.t3, hI.t4, hI.t5, hI.t6, hI.t7, hI.t8, hI.t9, fun _ => rfl, fun _ => rfl, hI.t12, hI.t13, hI.t14, hI.t15, hI.t16, hI.t17, hI.t18, hI.t19, hI.t20, hI.t21, hI.t22, hI.t23, hI.t24, hI.t25, hI.t26, hI.t27, hI.t28, hI.t29, hI.t30, hI.t31, hI.t32, hI.t33, hI.t34, hI.t35, hI.t36, hI.t37, hI.t38, hI.rl, hI.a12, hI.bw⟩⟩
      · rintro L a wx ⟨v, rfl, hI⟩ hL hdep hcl K hK
        have e11 := hI.t11 (hdep 11 (by decide))
        have e10 := hI.t10 (hdep 10 (by decide))
        rw [e11, e10]
        refine (if_pos rfl).mpr ?_
        go_simp
        exact hK _ _ ⟨(upd (upd (upd v 109 (.int .i64 0)) 108 (.bool true)) 110 (.bool true)), rfl, ⟨hI.t0, hI.t1, hI.t2, hI.t3, hI.t4, hI.t5, hI.t6, hI.t7, hI.t8, hI.t9, fun _ => rfl, fun _ => rfl, fun _ => rfl, hI.t13, hI.t14, hI.t15, hI.t16, hI.t17, hI.t18, hI.t19, hI.t20, hI.t21, hI.t22, hI.t23, hI.t24, hI.t25, hI.t26, hI.t27, hI.t28, hI.t29, hI.t30, hI.t31, hI.t32, hI.t33, hI.t34, hI.t35, hI.t36, hI.t37, hI.t38, hI.rl, hI.a12, hI.bw⟩⟩
      · rintro L a wx ⟨v, rfl, hI⟩ hL hdep hcl K hK
        have e10 := hI.t10 (hdep 10 (by decide))
        have e12 := hI.t12 (hdep 12 (by decide))
        rw [e10, e12]
        go_simp
        exact hK _ _ ⟨(upd (upd (upd v 108 (.bool true)) 110 (.bool true)) 111 (.bool true)), rfl, ⟨hI.t0, hI.t1, hI.t2, hI.t3, hI.t4, hI.t5, hI.t6, hI.t7, hI.t8, hI.t9, fun _ => rfl, hI.t11, fun _ => rfl, fun _ => rfl, hI.t14, hI.t15, hI.t16, hI.t17, hI.t18, hI.t19, hI.t20, hI.t21, hI.t22, hI.t23, hI.t24, hI.t25, hI.t26, hI.t27, hI.t28, hI.t29, hI.t30, hI.t31, hI.t32, hI.t33, hI.t34, hI.t35, hI.t36, hI.t37, hI.t38, hI.rl, hI.a12, hI.bw⟩⟩
      · rintro L a wx ⟨v, rfl, hI⟩ hL hdep hcl K hK
        have e13 := hI.t13 (hdep 13 (by decide))
        rw [e13]
        go_simp
        exact hK _ _ ⟨(upd (upd v 111 (.bool true)) 112 (.bool true)), rfl, ⟨hI.t0, hI.t1, hI.t2, hI.t3, hI.t4, hI.t5, hI.t6, hI.t7, hI.t8, hI.t9, hI.t10, hI.t11, hI.t12, fun _ => rfl, fun _ => rfl, hI.t15, hI.t16, hI.t17, hI.t18, hI.t19, hI.t20, hI.t21, hI.t22, hI.t23, hI.t24, hI.t25, hI.t26, hI.t27, hI.t28, hI.t29, hI.t30, hI.t31, hI.t32, hI.t33, hI.t34, hI.t35, hI.t36, hI.t37, hI.t38, hI.rl, hI.a12, hI.bw⟩⟩
      · rintro L a wx ⟨v, rfl, hI⟩ hL hdep hcl K hK
        have e14 := hI.t14 (hdep 14 (by decide))
        rw [e14]
        refine (if_pos rfl).mpr ?_
        refine ow_load 25 _ rfl g12 0 rfl 25 (bvs R7) (bvs R7) hI.a12 (fun j v h => by rw [Nat.zero_add]; exact h) (.array 32 5) Try.underlying25 rfl IR7.out ?_
        exact hK _ _ ⟨(upd (upd v 112 (.bool true)) 113 (.agg (bvs R7).toArray)), rfl, ⟨hI.t0, hI.t1, hI.t2, hI.t3, hI.t4, hI.t5, hI.t6, hI.t7, hI.t8, hI.t9, hI.t10, hI.t11, hI.t12, hI.t13, fun _ => rfl, fun _ => rfl, hI.t16, hI.t17, hI.t18, hI.t19, hI.t20, hI.t21, hI.t22, hI.t23, hI.t24, hI.t25, hI.t26, hI.t27, hI.t28, hI.t29, hI.t30, hI.t31, hI.t32, hI.t33, hI.t34, hI.t35, hI.t36, hI.t37, hI.t38, hI.rl, hI.a12, hI.bw⟩⟩
      · rintro L a wx ⟨v, rfl, hI⟩ hL hdep hcl K hK
        have e14 := hI.t14 (hdep 14 (by decide))
        rw [e14]
        refine (if_pos rfl).mpr ?_
        go_simp
        exact hK _ _ ⟨(upd (upd v 112 (.bool true)) 114 (.slice (some ⟨gl, 0, none⟩) 7 cl)), rfl, ⟨hI.t0, hI.t1, hI.t2, hI.t3, hI.t4, hI.t5, hI.t6, hI.t7, hI.t8, hI.t9, hI.t10, hI.t11, hI.t12, hI.t13, fun _ => rfl, hI.t15, fun _ => rfl, hI.t17, hI.t18, hI.t19, hI.t20, hI.t21, hI.t22, hI.t23, hI.t24, hI.t25, hI.t26, hI.t27, hI.t28, hI.t29, hI.t30, hI.t31, hI.t32, hI.t33, hI.t34, hI.t35, hI.t36, hI.t37, hI.t38, hI.rl, hI.a12, hI.bw⟩⟩
      · rintro L a wx ⟨v, rfl, hI⟩ hL hdep hcl K hK
        have e16 := hI.t16 (hdep 16 (by decide))
        have e14 := hI.t14 (hdep 14 (by decide))
        rw [e16, e14]
        refine (if_pos rfl).mpr ?_
        have HC := HR7.out wx hI.rl
        go_simp
        refine HC.mono ?_
        rintro e w' ⟨rfl, hb⟩
        exact hK _ _ ⟨(upd (upd (upd v 114 (.slice (some ⟨gl, 0, none⟩) 7 cl)) 112 (.bool true)) 115 (.agg (bvs R7).toArray)), rfl, ⟨hI.t0, hI.t1, hI.t2, hI.t3, hI.t4, hI.t5, hI.t6, hI.t7, hI.t8, hI.t9, hI.t10, hI.t11, hI.t12, hI.t13, fun _ => rfl, hI.t15, fun _ => rfl, fun _ => rfl, hI.t18, hI.t19, hI.t20, hI.t21, hI.t22, hI.t23, hI.t24, hI.t25, hI.t26, hI.t27, hI.t28, hI.t29, hI.t30, hI.t31, hI.t32, hI.t33, hI.t34, hI.t35, hI.t36, hI.t37, hI.t38, (hI.rl).to hb, (hI.a12).kept hb, (hI.bw).trans (hb.mono (hI.bw).size)⟩⟩
      · rintro L a wx ⟨v, rfl, hI⟩ hL hdep hcl K hK
        have e15 := hI.t15 (hdep 15 (by decide))
        have e17 := hI.t17 (hdep 17 (by decide))
        have e14 := hI.t14 (hdep 14 (by decide))
        rw [e15, e17, e14]
        refine (if_pos rfl).mpr ?_
        refine ow_eqSame _ _ _ rfl R7 LR7.out rfl rfl ?_
        exact hK _ _ ⟨(upd (upd (upd (upd v 113 (.agg (bvs R7).toArray)) 115 (.agg (bvs R7).toArray)) 112 (.bool true)) 116 (.bool true)), rfl, ⟨hI.t0, hI.t1, hI.t2, hI.t3, hI.t4, hI.t5, hI.t6, hI.t7, hI.t8, hI.t9, hI.t10, hI.t11, hI.t12, hI.t13, fun _ => rfl, fun _ => rfl, hI.t16, fun _ => rfl, fun _ => rfl, hI.t19, hI.t20, hI.t21, hI.t22, hI.t23, hI.t24, hI.t25, hI.t26, hI.t27, hI.t28, hI.t29, hI.t30, hI.t31, hI.t32, hI.t33, hI.t34, hI.t35, hI.t36, hI.t37, hI.t38, hI.rl, hI.a12, hI.bw⟩⟩
      · rintro L a wx ⟨v, rfl, hI⟩ hL hdep hcl K hK
        have e14 := hI.t14 (hdep 14 (by decide))
        have e18 := hI.t18 (hdep 18 (by decide))
        rw [e14, e18]
        go_simp
        exact hK _ _ ⟨(upd (upd (upd v 112 (.bool true)) 116 (.bool true)) 117 (.bool true)), rfl, ⟨hI.t0, hI.t1, hI.t2, hI.t3, hI.t4, hI.t5, hI.t6, hI.t7, hI.t8, hI.t9, hI.t10, hI.t11, hI.t12, hI.t13, fun _ => rfl, hI.t15, hI.t16, hI.t17, fun _ => rfl, fun _ => rfl, hI.t20, hI.t21, hI.t22, hI.t23, hI.t24, hI.t25, hI.t26, hI.t27, hI.t28, hI.t29, hI.t30, hI.t31, hI.t32, hI.t33, hI.t34, hI.t35, hI.t36, hI.t37, hI.t38, hI.rl, hI.a12, hI.bw⟩⟩
      · rintro L a wx ⟨v, rfl, hI⟩ hL hdep hcl K hK
        have e19 := hI.t19 (hdep 19 (by decide))
        rw [e19]
        go_simp
        exact hK _ _ ⟨(upd (upd v 117 (.bool true)) 118 (.bool true)), rfl, ⟨hI.t0, hI.t1, hI.t2, hI.t3, hI.t4, hI.t5, hI.t6, hI.t7, hI.t8, hI.t9, hI.t10, hI.t11, hI.t12, hI.t13, hI.t14, hI.t15, hI.t16, hI.t17, hI.t18, fun _ => rfl, fun _ => rfl, hI.t21, hI.t22, hI.t23, hI.t24, hI.t25, hI.t26, hI.t27, hI.t28, hI.t29, hI.t30, hI.t31, hI.t32, hI.t33, hI.t34, hI.t35, hI.t36, hI.t37, hI.t38, hI.rl, hI.a12, hI.bw⟩⟩
      · rintro L a wx ⟨v, rfl, hI⟩ hL hdep hcl K hK
        have e20 := hI.t20 (hdep 20 (by decide))
        rw [e20]
        refine (if_pos rfl).mpr ?_
        have HC := Levels_nil wx
        go_simp
        refine HC.mono ?_
        rintro e w' ⟨rfl, hb⟩
        exact hK _ _ ⟨(upd (upd v 118 (.bool true)) 119 (.slice none 0 0)), rfl, ⟨hI.t0, hI.t1, hI.t2, hI.t3, hI.t4, hI.t5, hI.t6, hI.t7, hI.t8, hI.t9, hI.t10, hI.t11, hI.t12, hI.t13, hI.t14, hI.t15, hI.t16, hI.t17, hI.t18, hI.t19, fun _ => rfl, fun _ => rfl, hI.t22, hI.t23, hI.t24, hI.t25, hI.t26, hI.t27, hI.t28, hI.t29, hI.t30, hI.t31, hI.t32, hI.t33, hI.t34, hI.t35, hI.t36, hI.t37, hI.t38, (hI.rl).to hb, (hI.a12).kept hb, (hI.bw).trans (hb.mono (hI.bw).size)⟩⟩
      · rintro L a wx ⟨v, rfl, hI⟩ hL hdep hcl K hK
        have e21 := hI.t21 (hdep 21 (by decide))
        have e20 := hI.t20 (hdep 20 (by decide))
        rw [e21, e20]
        refine (if_pos rfl).mpr ?_
        go_simp
        exact hK _ _ ⟨(upd (upd (upd v 119 (.slice none 0 0)) 118 (.bool true)) 120 (.int .i64 0)), rfl, ⟨hI.t0, hI.t1, hI.t2, hI.t3, hI.t4, hI.t5, hI.t6, hI.t7, hI.t8, hI.t9, hI.t10, hI.t11, hI.t12, hI.t13, hI.t14, hI.t15, hI.t16, hI.t17, hI.t18, hI.t19, fun _ => rfl, fun _ => rfl, fun _ => rfl, hI.t23, hI.t24, hI.t25, hI.t26, hI.t27, hI.t28, hI.t29, hI.t30, hI.t31, hI.t32, hI.t33, hI.t34, hI.t35, hI.t36, hI.t37, hI.t38, hI.rl, hI.a12, hI.bw⟩⟩
      · rintro L a wx ⟨v, rfl, hI⟩ hL hdep hcl K hK
        have e22 := hI.t22 (hdep 22 (by decide))
        have e20 := hI.t20 (hdep 20 (by decide))
        rw [e22, e20]
        refine (if_pos rfl).mpr ?_
        go_simp
        exact hK _ _ ⟨(upd (upd (upd v 120 (.int .i64 0)) 118 (.bool true)) 121 (.bool true)), rfl, ⟨hI.t0, hI.t1, hI.t2, hI.t3, hI.t4, hI.t5, hI.t6, hI.t7, hI.t8, hI.t9, hI.t10, hI.t11, hI.t12, hI.t13, hI.t14, hI.t15, hI.t16, hI.t17, hI.t18, hI.t19, fun _ => rfl, hI.t21, fun _ => rfl, fun _ => rfl, hI.t24, hI.t25, hI.t26, hI.t27, hI.t28, hI.t29, hI.t30, hI.t31, hI.t32, hI.t33, hI.t34, hI.t35, hI.t36, hI.t37, hI.t38, hI.rl, hI.a12, hI.bw⟩⟩
      · rintro L a wx ⟨v, rfl, hI⟩ hL hdep hcl K hK
        have e20 := hI.t20 (hdep 20 (by decide))
        have e23 := hI.t23 (hdep 23 (by decide))
        rw [e20, e23]
        go_simp
        exact hK _ _ ⟨(upd (upd (upd v 118 (.bool true)) 121 (.bool true)) 122 (.bool true)), rfl, ⟨hI.t0, hI.t1, hI.t2, hI.t3, hI.t4, hI.t5, hI.t6, hI.t7, hI.t8, hI.t9, hI.t10, hI.t11, hI.t12, hI.t13, hI.t14, hI.t15, hI.t16, hI.t17, hI.t18, hI.t19, fun _ => rfl, hI.t21, hI.t22, fun _ => rfl, fun _ => rfl, hI.t25, hI.t26, hI.t27, hI.t28, hI.t29, hI.t30, hI.t31, hI.t32, hI.t33, hI.t34, hI.t35, hI.t36, hI.t37, hI.t38, hI.rl, hI.a12, hI.bw⟩⟩
      · rintro L a wx ⟨v, rfl, hI⟩ hL hdep hcl K hK
        have e24 := hI.t24 (hdep 24 (by decide))
        rw [e24]
        go_simp
        exact hK _ _ ⟨(upd (upd v 122 (.bool true)) 123 (.bool true)), rfl, ⟨hI.t0, hI.t1, hI.t2, hI.t3, hI.t4, hI.t5, hI.t6, hI.t7, hI.t8, hI.t9, hI.t10, hI.t11, hI.t12, hI.t13, hI.t14, hI.t15, hI.t16, hI.t17, hI.t18, hI.t19, hI.t20, hI.t21, hI.t22, hI.t23, fun _ => rfl, fun _ => rfl, hI.t26, hI.t27, hI.t28, hI.t29, hI.t30, hI.t31, hI.t32, hI.t33, hI.t34, hI.t35, hI.t36, hI.t37, hI.t38, hI.rl, hI.a12, hI.bw⟩⟩
      · rintro L a wx ⟨v, rfl, hI⟩ hL hdep hcl K hK
        have e25 := hI.t25 (hdep 25 (by decide))
        rw [e25]
        refine (if_pos rfl).mpr ?_
        have HC := HLN.out wx
        go_simp
        refine HC.mono ?_
        rintro e w' ⟨rfl, hb⟩
        exact hK _ _ ⟨(upd (upd v 123 (.bool true)) 124 (.agg (bvs H0).toArray)), rfl, ⟨hI.t0, hI.t1, hI.t2, hI.t3, hI.t4, hI.t5, hI.t6, hI.t7, hI.t8, hI.t9, hI.t10, hI.t11, hI.t12, hI.t13, hI.t14, hI.t15, hI.t16, hI.t17, hI.t18, hI.t19, hI.t20, hI.t21, hI.t22, hI.t23, hI.t24, fun _ => rfl, fun _ => rfl, hI.t27, hI.t28, hI.t29, hI.t30, hI.t31, hI.t32, hI.t33, hI.t34, hI.t35, hI.t36, hI.t37, hI.t38, (hI.rl).to hb, (hI.a12).kept hb, (hI.bw).trans (hb.mono (hI.bw).size)⟩⟩
      · rintro L a wx ⟨v, rfl, hI⟩ hL hdep hcl K hK
        have e25 := hI.t25 (hdep 25 (by decide))
        rw [e25]
        refine (if_pos rfl).mpr ?_
        have HC := HR0.out wx
        go_simp
        refine HC.mono ?_
        rintro e w' ⟨rfl, hb⟩
        exact hK _ _ ⟨(upd (upd v 123 (.bool true)) 125 (.agg (bvs SZ).toArray)), rfl, ⟨hI.t0, hI.t1, hI.t2, hI.t3, hI.t4, hI.t5, hI.t6, hI.t7, hI.t8, hI.t9, hI.t10, hI.t11, hI.t12, hI.t13, hI.t14, hI.t15, hI.t16, hI.t17, hI.t18, hI.t19, hI.t20, hI.t21, hI.t22, hI.t23, hI.t24, fun _ => rfl, hI.t26, fun _ => rfl, hI.t28, hI.t29, hI.t30, hI.t31, hI.t32, hI.t33, hI.t34, hI.t35, hI.t36, hI.t37, hI.t38, (hI.rl).to hb, (hI.a12).kept hb, (hI.bw).trans (hb.mono (hI.bw).size)⟩⟩
      · rintro L a wx ⟨v, rfl, hI⟩ hL hdep hcl K hK
        have e26 := hI.t26 (hdep 26 (by decide))
        have e27 := hI.t27 (hdep 27 (by decide))
        have e25 := hI.t25 (hdep 25 (by decide))
        rw [e26, e27, e25]
        refine (if_pos rfl).mpr ?_
        refine ow_neDiff _ _ _ rfl H0 SZ LH0.out LSZ.out HNN.out rfl rfl ?_
        exact hK _ _ ⟨(upd (upd (upd (upd v 124 (.agg (bvs H0).toArray)) 125 (.agg (bvs SZ).toArray)) 123 (.bool true)) 126 (.bool true)), rfl, ⟨hI.t0, hI.t1, hI.t2, hI.t3, hI.t4, hI.t5, hI.t6, hI.t7, hI.t8, hI.t9, hI.t10, hI.t11, hI.t12, hI.t13, hI.t14, hI.t15, hI.t16, hI.t17, hI.t18, hI.t19, hI.t20, hI.t21, hI.t22, hI.t23, hI.t24, fun _ => rfl, fun _ => rfl, fun _ => rfl, fun _ => rfl, hI.t29, hI.t30, hI.t31, hI.t32, hI.t33, hI.t34, hI.t35, hI.t36, hI.t37, hI.t38, hI.rl, hI.a12, hI.bw⟩⟩
      · rintro L a wx ⟨v, rfl, hI⟩ hL hdep hcl K hK
        have e25 := hI.t25 (hdep 25 (by decide))
        have e28 := hI.t28 (hdep 28 (by decide))
        rw [e25, e28]
        go_simp
        exact hK _ _ ⟨(upd (upd (upd v 123 (.bool true)) 126 (.bool true)) 127 (.bool true)), rfl, ⟨hI.t0, hI.t1, hI.t2, hI.t3, hI.t4, hI.t5, hI.t6, hI.t7, hI.t8, hI.t9, hI.t10, hI.t11, hI.t12, hI.t13, hI.t14, hI.t15, hI.t16, hI.t17, hI.t18, hI.t19, hI.t20, hI.t21, hI.t22, hI.t23, hI.t24, fun _ => rfl, hI.t26, hI.t27, fun _ => rfl, fun _ => rfl, hI.t30, hI.t31, hI.t32, hI.t33, hI.t34, hI.t35, hI.t36, hI.t37, hI.t38, hI.rl, hI.a12, hI.bw⟩⟩
      · rintro L a wx ⟨v, rfl, hI⟩ hL hdep hcl K hK
        have e29 := hI.t29 (hdep 29 (by decide))
        rw [e29]
        go_simp
        exact hK _ _ ⟨(upd (upd v 127 (.bool true)) 128 (.bool true)), rfl, ⟨hI.t0, hI.t1, hI.t2, hI.t3, hI.t4, hI.t5, hI.t6, hI.t7, hI.t8, hI.t9, hI.t10, hI.t11, hI.t12, hI.t13, hI.t14, hI.t15, hI.t16, hI.t17, hI.t18, hI.t19, hI.t20, hI.t21, hI.t22, hI.t23, hI.t24, hI.t25, hI.t26, hI.t27, hI.t28, fun _ => rfl, fun _ => rfl, hI.t31, hI.t32, hI.t33, hI.t34, hI.t35, hI.t36, hI.t37, hI.t38, hI.rl, hI.a12, hI.bw⟩⟩
      · rintro L a wx ⟨v, rfl, hI⟩ hL hdep hcl K hK
        have e30 := hI.t30 (hdep 30 (by decide))
        rw [e30]
        refine (if_pos rfl).mpr ?_
        go_simp
        refine (Leaves_nil wx).mono ?_
        rintro e w' ⟨p, c, rfl, hb⟩
        exact hK _ _ ⟨(upd (upd v 128 (.bool true)) 129 (_)), rfl, ⟨hI.t0, hI.t1, hI.t2, hI.t3, hI.t4, hI.t5, hI.t6, hI.t7, hI.t8, hI.t9, hI.t10, hI.t11, hI.t12, hI.t13, hI.t14, hI.t15, hI.t16, hI.t17, hI.t18, hI.t19, hI.t20, hI.t21, hI.t22, hI.t23, hI.t24, hI.t25, hI.t26, hI.t27, hI.t28, hI.t29, fun _ => rfl, fun _ => ⟨p, c, rfl⟩, hI.t32, hI.t33, hI.t34, hI.t35, hI.t36, hI.t37, hI.t38, (hI.rl).to hb, (hI.a12).kept hb, (hI.bw).trans (hb.mono (hI.bw).size)⟩⟩
      · rintro L a wx ⟨v, rfl, hI⟩ hL hdep hcl K hK
        have e30 := hI.t30 (hdep 30 (by decide))
        rw [e30]
        refine (if_pos rfl).mpr ?_
        obtain ⟨p, c, e⟩ := hI.t31 (hdep 31 (by decide))
        go_simp
        exact hK _ _ ⟨(upd (upd (upd v 128 (.bool true)) 129 (.slice p 0 c)) 130 (.int .i64 0)), rfl, ⟨hI.t0, hI.t1, hI.t2, hI.t3, hI.t4, hI.t5, hI.t6, hI.t7, hI.t8, hI.t9, hI.t10, hI.t11, hI.t12, hI.t13, hI.t14, hI.t15, hI.t16, hI.t17, hI.t18, hI.t19, hI.t20, hI.t21, hI.t22, hI.t23, hI.t24, hI.t25, hI.t26, hI.t27, hI.t28, hI.t29, fun _ => rfl, fun _ => ⟨p, c, rfl⟩, fun _ => rfl, hI.t33, hI.t34, hI.t35, hI.t36, hI.t37, hI.t38, hI.rl, hI.a12, hI.bw⟩⟩
      · rintro L a wx ⟨v, rfl, hI⟩ hL hdep hcl K hK
        have e32 := hI.t32 (hdep 32 (by decide))
        have e30 := hI.t30 (hdep 30 (by decide))
        rw [e32, e30]
        refine (if_pos rfl).mpr ?_
        go_simp
        exact hK _ _ ⟨(upd (upd (upd v 130 (.int .i64 0)) 128 (.bool true)) 131 (.bool true)), rfl, ⟨hI.t0, hI.t1, hI.t2, hI.t3, hI.t4, hI.t5, hI.t6, hI.t7, hI.t8, hI.t9, hI.t10, hI.t11, hI.t12, hI.t13, hI.t14, hI.t15, hI.t16, hI.t17, hI.t18, hI.t19, hI.t20, hI.t21, hI.t22, hI.t23, hI.t24, hI.t25, hI.t26, hI.t27, hI.t28, hI.t29, fun _ => rfl, hI.t31, fun _ => rfl, fun _ => rfl, hI.t34, hI.t35, hI.t36, hI.t37, hI.t38, hI.rl, hI.a12, hI.bw⟩⟩
      · rintro L a wx ⟨v, rfl, hI⟩ hL hdep hcl K hK
        have e30 := hI.t30 (hdep 30 (by decide))
        have e33 := hI.t33 (hdep 33 (by decide))
        rw [e30, e33]
        go_simp
        exact hK _ _ ⟨(upd (upd (upd v 128 (.bool true)) 131 (.bool true)) 132 (.bool true)), rfl, ⟨hI.t0, hI.t1, hI.t2, hI.t3, hI.t4, hI.t5, hI.t6, hI.t7, hI.t8, hI.t9, hI.t10, hI.t11, hI.t12, hI.t13, hI.t14, hI.t15, hI.t16, hI.t17, hI.t18, hI.t19, hI.t20, hI.t21, hI.t22, hI.t23, hI.t24, hI.t25, hI.t26, hI.t27, hI.t28, hI.t29, fun _ => rfl, hI.t31, hI.t32, fun _ => rfl, fun _ => rfl, hI.t35, hI.t36, hI.t37, hI.t38, hI.rl, hI.a12, hI.bw⟩⟩
      · rintro L a wx ⟨v, rfl, hI⟩ hL hdep hcl K hK
        have e34 := hI.t34 (hdep 34 (by decide))
        rw [e34]
        go_simp
        exact hK _ _ ⟨(upd (upd v 132 (.bool true)) 133 (.bool true)), rfl, ⟨hI.t0, hI.t1, hI.t2, hI.t3, hI.t4, hI.t5, hI.t6, hI.t7, hI.t8, hI.t9, hI.t10, hI.t11, hI.t12, hI.t13, hI.t14, hI.t15, hI.t16, hI.t17, hI.t18, hI.t19, hI.t20, hI.t21, hI.t22, hI.t23, hI.t24, hI.t25, hI.t26, hI.t27, hI.t28, hI.t29, hI.t30, hI.t31, hI.t32, hI.t33, fun _ => rfl, fun _ => rfl, hI.t36, hI.t37, hI.t38, hI.rl, hI.a12, hI.bw⟩⟩
      · rintro L a wx ⟨v, rfl, hI⟩ hL hdep hcl K hK
        have e35 := hI.t35 (hdep 35 (by decide))
        rw [e35]
        refine (if_pos rfl).mpr ?_
        go_simp
        refine (wakes_any wx).mono ?_
        rintro e w' ⟨rfl, hb⟩
        exact hK _ _ ⟨(upd (upd v 133 (.bool true)) 134 (.bool true)), rfl, ⟨hI.t0, hI.t1, hI.t2, hI.t3, hI.t4, hI.t5, hI.t6, hI.t7, hI.t8, hI.t9, hI.t10, hI.t11, hI.t12, hI.t13, hI.t14, hI.t15, hI.t16, hI.t17, hI.t18, hI.t19, hI.t20, hI.t21, hI.t22, hI.t23, hI.t24, hI.t25, hI.t26, hI.t27, hI.t28, hI.t29, hI.t30, hI.t31, hI.t32, hI.t33, hI.t34, fun _ => rfl, fun _ => rfl, hI.t37, hI.t38, (hI.rl).to hb, (hI.a12).kept hb, (hI.bw).trans (hb.mono (hI.bw).size)⟩⟩
      · rintro L a wx ⟨v, rfl, hI⟩ hL hdep hcl K hK
        have e35 := hI.t35 (hdep 35 (by decide))
        have e36 := hI.t36 (hdep 36 (by decide))
        rw [e35, e36]
        go_simp
        exact hK _ _ ⟨(upd (upd (upd v 133 (.bool true)) 134 (.bool true)) 135 (.bool true)), rfl, ⟨hI.t0, hI.t1, hI.t2, hI.t3, hI.t4, hI.t5, hI.t6, hI.t7, hI.t8, hI.t9, hI.t10, hI.t11, hI.t12, hI.t13, hI.t14, hI.t15, hI.t16, hI.t17, hI.t18, hI.t19, hI.t20, hI.t21, hI.t22, hI.t23, hI.t24, hI.t25, hI.t26, hI.t27, hI.t28, hI.t29, hI.t30, hI.t31, hI.t32, hI.t33, hI.t34, fun _ => rfl, fun _ => rfl, fun _ => rfl, hI.t38, hI.rl, hI.a12, hI.bw⟩⟩
      · rintro L a wx ⟨v, rfl, hI⟩ hL hdep hcl K hK
        have e37 := hI.t37 (hdep 37 (by decide))
        rw [e37]
        go_simp
        exact hK _ _ ⟨(upd (upd v 135 (.bool true)) 0 (.bool true)), rfl, ⟨hI.t0, hI.t1, hI.t2, hI.t3, hI.t4, hI.t5, hI.t6, hI.t7, hI.t8, hI.t9, hI.t10, hI.t11, hI.t12, hI.t13, hI.t14, hI.t15, hI.t16, hI.t17, hI.t18, hI.t19, hI.t20, hI.t21, hI.t22, hI.t23, hI.t24, hI.t25, hI.t26, hI.t27, hI.t28, hI.t29, hI.t30, hI.t31, hI.t32, hI.t33, hI.t34, hI.t35, hI.t36, fun _ => rfl, fun _ => rfl, hI.rl, hI.a12, hI.bw⟩⟩
      · rintro a wx ⟨v, rfl, hI⟩
        have e := hI.t38 rfl
        rw [e]
        have hbw := hI.bw
        clear hI e
        go_wp2
        go_ret
        exact ⟨rfl, BZ.out.trans (hbw.mono BZs.out)⟩
end Go.Proofs.Ytpnhflpajccbbaa
