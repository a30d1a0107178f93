/-
  Layer 7: PlaceKnown as a call. Conditions: none.
-/
import Derived.Test.YtbhmgkpkagjmnaaPlQ
namespace Go.Proofs.Ytbhmgkpkagjmnaa
open Go.RowKit

def kL : List (Nat × Nat) := [(0, 3), (2, 1)]
def rL : List (Nat × Nat) := [(20, 0)]
theorem k_sib (w : World) : Calls Try.prog 14 #[.agg #[.int .i64 2, .int .u64 3]] w fun e w' => e = .returned (.tuple #[.agg #[.int .i64 2, .int .u64 2], .int .i64 0]) ∧ Below w.heap.size w w' := by
  have := Sibling_any 2 3 w (by omega)
  rwa [show slF 2 3 = 2 by decide +kernel, show siF 2 3 = 2 by decide +kernel, show peF 2 3 = 0 by decide +kernel] at this
theorem k_ch (w : World) : Calls Try.prog 16 #[.agg #[.int .i64 1, .int .u64 5]] w fun e w' => e = .returned (.tuple #[.agg #[.int .i64 0, .int .u64 10], .agg #[.int .i64 0, .int .u64 11], .int .i64 0]) ∧ Below w.heap.size w w' := by
  have := Children_any 1 5 w (by omega)
  rwa [show clF 1 5 = 0 by decide +kernel, show caF 1 5 = 10 by decide +kernel, show cbF 1 5 = 11 by decide +kernel, show ceF 1 5 = 0 by decide +kernel] at this
theorem k_ch0 (w : World) : Calls Try.prog 16 #[.agg #[.int .i64 0, .int .u64 5]] w fun e w' => e = .returned (.tuple #[.agg #[.int .i64 0, .int .u64 0], .agg #[.int .i64 0, .int .u64 0], .int .i64 1]) ∧ Below w.heap.size w w' := by
  have := Children_any 0 5 w (by omega)
  rwa [show clF 0 5 = 0 by decide +kernel, show caF 0 5 = 0 by decide +kernel, show cbF 0 5 = 0 by decide +kernel, show ceF 0 5 = 1 by decide +kernel] at this
theorem k_par (w : World) : Calls Try.prog 12 #[.agg #[.int .i64 20, .int .u64 0]] w fun e w' => e = .returned (.tuple #[.agg #[.int .i64 0, .int .u64 0], .int .i64 1]) ∧ Below w.heap.size w w' := by
  have := Parent_any 20 0 w (by omega)
  rwa [show plF 20 0 = 0 by decide +kernel, show piF 20 0 = 0 by decide +kernel, show peF 20 0 = 1 by decide +kernel] at this
theorem k_sib0 (w : World) : Calls Try.prog 14 #[.agg #[.int .i64 20, .int .u64 0]] w fun e w' => e = .returned (.tuple #[.agg #[.int .i64 0, .int .u64 0], .int .i64 1]) ∧ Below w.heap.size w w' := by
  have := Sibling_any 20 0 w (by omega)
  rwa [show slF 20 0 = 0 by decide +kernel, show siF 20 0 = 0 by decide +kernel, show peF 20 0 = 1 by decide +kernel] at this
theorem k_sp2 (w : World) : Calls Try.prog 26 #[.int .u64 2] w fun e w' => e = .returned (.tuple #[.int .u64 1, .int .i64 0]) ∧ w = w' := by
  have := Split_any 2 w (by omega)
  rw [show spV 2 = 1 by decide +kernel, show seF 2 = 0 by decide +kernel] at this
  exact this.mono fun _ _ h => ⟨h.1, h.2.symm⟩
theorem k_sp8 (w : World) : Calls Try.prog 26 #[.int .u64 8] w fun e w' => e = .returned (.tuple #[.int .u64 4, .int .i64 0]) ∧ w = w' := by
  have := Split_any 8 w (by omega)
  rw [show spV 8 = 4 by decide +kernel, show seF 8 = 0 by decide +kernel] at this
  exact this.mono fun _ _ h => ⟨h.1, h.2.symm⟩
theorem k_sp1 (w : World) : Calls Try.prog 26 #[.int .u64 1] w fun e w' => e = .returned (.tuple #[.int .u64 0, .int .i64 1]) ∧ w = w' := by
  have := Split_any 1 w (by omega)
  rw [show spV 1 = 0 by decide +kernel, show seF 1 = 1 by decide +kernel] at this
  exact this.mono fun _ _ h => ⟨h.1, h.2.symm⟩
theorem k_cov1 (w : World) : Calls Try.prog 24 #[.int .u64 3, .int .u64 8] w fun e w' => ∃ v, e = .returned (.tuple #[v, .int .i64 0]) ∧ OwnN w' w.heap.size 25 v kL ∧ Below w.heap.size w w' := by
  have := Cover_any 3 8 w (by omega)
  rwa [show covF 3 8 = kL by decide +kernel, show ceV 3 8 = 0 by decide +kernel] at this
theorem k_cov2 (w : World) : Calls Try.prog 24 #[.int .u64 4, .int .u64 4] w fun e w' => ∃ v, e = .returned (.tuple #[v, .int .i64 0]) ∧ OwnN w' w.heap.size 25 v [] ∧ Below w.heap.size w w' := by
  have := Cover_any 4 4 w (by omega)
  rwa [show covF 4 4 = [] by decide +kernel, show ceV 4 4 = 0 by decide +kernel] at this
theorem k_cov3 (w : World) : Calls Try.prog 24 #[.int .u64 0, .int .u64 1048576] w fun e w' => ∃ v, e = .returned (.tuple #[v, .int .i64 0]) ∧ OwnN w' w.heap.size 25 v rL ∧ Below w.heap.size w w' := by
  have := Cover_any 0 1048576 w (by omega)
  rwa [show covF 0 1048576 = rL by decide +kernel, show ceV 0 1048576 = 0 by decide +kernel] at this
theorem k_cov4 (w : World) : Calls Try.prog 24 #[.int .u64 0, .int .u64 1048577] w fun e w' => ∃ v, e = .returned (.tuple #[v, .int .i64 1]) ∧ OwnN w' w.heap.size 25 v [] ∧ Below w.heap.size w w' := by
  have := Cover_any 0 1048577 w (by omega)
  rwa [show covF 0 1048577 = [] by decide +kernel, show ceV 0 1048577 = 1 by decide +kernel] at this
theorem k_cov5 (w : World) : Calls Try.prog 24 #[.int .u64 5, .int .u64 4] w fun e w' => ∃ v, e = .returned (.tuple #[v, .int .i64 1]) ∧ OwnN w' w.heap.size 25 v [] ∧ Below w.heap.size w w' := by
  have := Cover_any 5 4 w (by omega)
  rwa [show covF 5 4 = [] by decide +kernel, show ceV 5 4 = 1 by decide +kernel] at this
theorem k_m1 (w : World) : Calls Try.prog 19 #[.agg #[.int .i64 21, .int .u64 0]] w fun e w' => e = .returned (.bool false) ∧ Below w.heap.size w w' := by
  have := May_any 21 0 w
  rwa [show mayB 21 0 = false by decide +kernel] at this
theorem k_m2 (w : World) : Calls Try.prog 19 #[.agg #[.int .i64 (-1), .int .u64 0]] w fun e w' => e = .returned (.bool false) ∧ Below w.heap.size w w' := by
  have := May_any (-1) 0 w
  rwa [show mayB (-1) 0 = false by decide +kernel] at this
theorem k_m3 (w : World) : Calls Try.prog 19 #[.agg #[.int .i64 20, .int .u64 1]] w fun e w' => e = .returned (.bool false) ∧ Below w.heap.size w w' := by
  have := May_any 20 1 w
  rwa [show mayB 20 1 = false by decide +kernel] at this
theorem k_m4 (w : World) : Calls Try.prog 19 #[.agg #[.int .i64 0, .int .u64 1048575]] w fun e w' => e = .returned (.bool true) ∧ Below w.heap.size w w' := by
  have := May_any 0 1048575 w
  rwa [show mayB 0 1048575 = true by decide +kernel] at this

structure InvKnown (u9 u15 u17 : Value) (a11 : Option Addr) (c11 c13 b13 n13 g1 g3 g6 g25 g26 g28 : Nat) (wb : World) (L : Nat → Bool) (v : Nat → Value) (wx : World) : Prop where
  t0 : L 0 = true → (v 90) = .bool true
  t1 : L 1 = true → (v 91) = .bool true
  t2 : L 2 = true → (v 92) = .bool true
  t3 : L 3 = true → (v 93) = .bool true
  t4 : L 4 = true → (v 94) = .int .i64 0
  t5 : L 5 = true → (v 95) = .bool true
  t6 : L 6 = true → (v 96) = .bool true
  t7 : L 7 = true → (v 97) = .bool true
  t8 : L 8 = true → (v 98) = .agg #[.int .i64 2, .int .u64 2]
  t9 : L 9 = true → (v 99) = .agg #[.int .i64 2, .int .u64 2]
  t10 : L 10 = true → (v 100) = .bool true
  t11 : L 11 = true → (v 101) = .bool true
  t12 : L 12 = true → (v 102) = .bool true
  t13 : L 13 = true → (v 103) = .int .i64 0
  t14 : L 14 = true → (v 104) = .bool true
  t15 : L 15 = true → (v 105) = .bool true
  t16 : L 16 = true → (v 106) = .bool true
  t17 : L 17 = true → (v 107) = .pointer (some ⟨g3, 1, none⟩)
  t18 : L 18 = true → (v 108) = .int .u64 10
  t19 : L 19 = true → (v 109) = .bool true
  t20 : L 20 = true → (v 110) = .bool true
  t21 : L 21 = true → (v 111) = .bool true
  t22 : L 22 = true → (v 112) = .pointer (some ⟨(g3 + 1), 1, none⟩)
  t23 : L 23 = true → (v 113) = .int .u64 11
  t24 : L 24 = true → (v 114) = .bool true
  t25 : L 25 = true → (v 115) = .bool true
  t26 : L 26 = true → (v 116) = .bool true
  t27 : L 27 = true → (v 117) = .int .i64 1
  t28 : L 28 = true → (v 118) = .bool true
  t29 : L 29 = true → (v 119) = .bool true
  t30 : L 30 = true → (v 120) = .bool true
  t31 : L 31 = true → (v 121) = .int .i64 0
  t32 : L 32 = true → (v 122) = .bool true
  t33 : L 33 = true → (v 123) = .bool true
  t34 : L 34 = true → (v 124) = .bool true
  t35 : L 35 = true → (v 125) = u9
  t36 : L 36 = true → (v 126) = .agg #[.int .i64 0, .int .u64 3]
  t37 : L 37 = true → (v 127) = .agg #[.int .i64 2, .int .u64 1]
  t38 : L 38 = true → RdN wx (v 128) kL
  t39 : L 39 = true → (v 129) = .bool true
  t40 : L 40 = true → (v 130) = .bool true
  t41 : L 41 = true → (v 131) = .bool true
  t42 : L 42 = true → (v 132) = .int .i64 0
  t43 : L 43 = true → (v 133) = .bool true
  t44 : L 44 = true → (v 134) = .bool true
  t45 : L 45 = true → (v 135) = .bool true
  t46 : L 46 = true → (v 136) = .slice a11 0 c11
  t47 : L 47 = true → (v 137) = .int .i64 0
  t48 : L 48 = true → (v 138) = .bool true
  t49 : L 49 = true → (v 139) = .bool true
  t50 : L 50 = true → (v 140) = .bool true
  t51 : L 51 = true → (v 141) = .int .i64 0
  t52 : L 52 = true → (v 142) = .bool true
  t53 : L 53 = true → (v 143) = .bool true
  t54 : L 54 = true → (v 144) = .bool true
  t55 : L 55 = true → (v 145) = .slice (some ⟨b13, n13, none⟩) 1 c13
  t56 : L 56 = true → (v 146) = .int .i64 1
  t57 : L 57 = true → (v 147) = .bool true
  t58 : L 58 = true → (v 148) = .bool true
  t59 : L 59 = true → (v 149) = .bool true
  t60 : L 60 = true → (v 150) = .slice (some ⟨b13, n13, none⟩) 1 c13
  t61 : L 61 = true → (v 151) = .pointer (some ⟨b13, n13, none⟩)
  t62 : L 62 = true → (v 152) = .agg #[.int .i64 20, .int .u64 0]
  t63 : L 63 = true → (v 153) = .agg #[.int .i64 20, .int .u64 0]
  t64 : L 64 = true → (v 154) = .bool true
  t65 : L 65 = true → (v 155) = .bool true
  t66 : L 66 = true → (v 156) = .bool true
  t67 : L 67 = true → (v 157) = .int .i64 1
  t68 : L 68 = true → (v 158) = .bool true
  t69 : L 69 = true → (v 159) = .bool true
  t70 : L 70 = true → (v 160) = .bool true
  t71 : L 71 = true → (v 161) = .int .i64 1
  t72 : L 72 = true → (v 162) = .bool true
  t73 : L 73 = true → (v 163) = .bool true
  t74 : L 74 = true → (v 164) = .bool true
  t75 : L 75 = true → (v 165) = .int .i64 0
  t76 : L 76 = true → (v 166) = .bool true
  t77 : L 77 = true → (v 167) = .bool true
  t78 : L 78 = true → (v 168) = .bool true
  t79 : L 79 = true → (v 169) = .int .u64 1
  t80 : L 80 = true → (v 170) = .bool true
  t81 : L 81 = true → (v 171) = .bool true
  t82 : L 82 = true → (v 172) = .bool true
  t83 : L 83 = true → (v 173) = .int .i64 0
  t84 : L 84 = true → (v 174) = .bool true
  t85 : L 85 = true → (v 175) = .bool true
  t86 : L 86 = true → (v 176) = .bool true
  t87 : L 87 = true → (v 177) = .int .u64 4
  t88 : L 88 = true → (v 178) = .bool true
  t89 : L 89 = true → (v 179) = .bool true
  t90 : L 90 = true → (v 180) = .bool true
  t91 : L 91 = true → (v 181) = .int .i64 1
  t92 : L 92 = true → (v 182) = .bool true
  t93 : L 93 = true → (v 183) = .bool true
  t94 : L 94 = true → (v 184) = .bool true
  t95 : L 95 = true → (v 185) = .int .i64 1
  t96 : L 96 = true → (v 186) = .bool true
  t97 : L 97 = true → (v 187) = .bool true
  t98 : L 98 = true → (v 188) = .bool true
  t99 : L 99 = true → (v 189) = .int .i64 1
  t100 : L 100 = true → (v 190) = .bool true
  t101 : L 101 = true → (v 191) = .bool true
  t102 : L 102 = true → (v 192) = .bool true
  t103 : L 103 = true → (v 193) = .agg #[.int .i64 21, .int .u64 0]
  t104 : L 104 = true → (v 194) = .bool false
  t105 : L 105 = true → (v 195) = .bool true
  t106 : L 106 = true → (v 196) = .bool true
  t107 : L 107 = true → (v 197) = .bool true
  t108 : L 108 = true → (v 198) = .agg #[.int .i64 (-1), .int .u64 0]
  t109 : L 109 = true → (v 199) = .bool false
  t110 : L 110 = true → (v 200) = .bool true
  t111 : L 111 = true → (v 201) = .bool true
  t112 : L 112 = true → (v 202) = .bool true
  t113 : L 113 = true → (v 203) = .agg #[.int .i64 20, .int .u64 1]
  t114 : L 114 = true → (v 204) = .bool false
  t115 : L 115 = true → (v 205) = .bool true
  t116 : L 116 = true → (v 206) = .bool true
  t117 : L 117 = true → (v 207) = .bool true
  t118 : L 118 = true → (v 208) = .agg #[.int .i64 0, .int .u64 1048575]
  t119 : L 119 = true → (v 209) = .bool true
  t120 : L 120 = true → (v 210) = .bool true
  t121 : L 121 = true → (v 0) = .bool true
  a1 : Arr wx g1 25 [.int .i64 2, .int .u64 2]
  a3 : Arr wx g3 25 [.int .i64 0, .int .u64 10]
  a4 : Arr wx (g3 + 1) 25 [.int .i64 0, .int .u64 11]
  a25 : Arr wx g25 25 [.int .i64 20, .int .u64 0]
  bw : Below wb.heap.size wb wx
  r9 : RdN wx u9 kL
  x0 : wx.cell? ⟨b13, n13, none⟩ = some (.int .i64 20)
  x1 : wx.cell? ⟨b13, n13 + 1, none⟩ = some (.int .u64 0)

set_option maxRecDepth 100000 in
set_option maxHeartbeats 25600000 in
theorem Known_law (w : World) : Calls Try.prog 8 #[] w fun e w' => e = .returned (.bool true) ∧ Below w.heap.size w w' := by
  go_enter Try.func8, Try.ntmps8
  have HB : Below w.heap.size w w := Below.refl _ _
  go_upto_region 2 with (go_at_call 14; with_reducible refine (k_sib _).mono ?_; rintro _ w1 ⟨rfl, h1⟩)
  replace HB := HB.trans (h1.mono HB.size)
  clear h1
  have hb2 := hal (w1) (.cells #[.int .i64 2, .int .u64 2] 25)
  have A1_ := Arr.new (w1) 25 [.int .i64 2, .int .u64 2]
  replace HB := HB.trans (hb2.mono HB.size)
  have A1 := A1_
  clear hb2 A1_
  generalize hg1 : w1.heap.size = g1 at *
  generalize w1.alloc (.cells #[.int .i64 2, .int .u64 2] 25) = w2 at *
  clear hg1
  go_upto_region 3 with (go_at_call 16; with_reducible refine (k_ch _).mono ?_; rintro _ w3 ⟨rfl, h3⟩)
  replace A1 := A1.kept h3
  replace HB := HB.trans (h3.mono HB.size)
  clear h3
  have hb4 := hal (w3) (.cells #[.int .i64 0, .int .u64 10] 25)
  have A3_ := Arr.new (w3) 25 [.int .i64 0, .int .u64 10]
  replace A1 := A1.kept hb4
  replace HB := HB.trans (hb4.mono HB.size)
  have A3 := A3_
  clear hb4 A3_
  have hb5 := hal (w3.alloc (.cells #[.int .i64 0, .int .u64 10] 25)) (.cells #[.int .i64 0, .int .u64 11] 25)
  have A4_ := Arr.new (w3.alloc (.cells #[.int .i64 0, .int .u64 10] 25)) 25 [.int .i64 0, .int .u64 11]
  rw [show (w3.alloc (.cells #[.int .i64 0, .int .u64 10] 25)).heap.size = w3.heap.size + 1 from by simp] at A4_
  replace A1 := A1.kept hb5
  replace A3 := A3.kept hb5
  replace HB := HB.trans (hb5.mono HB.size)
  have A4 := A4_
  clear hb5 A4_
  generalize hg3 : w3.heap.size = g3 at *
  generalize (w3.alloc (.cells #[.int .i64 0, .int .u64 10] 25)).alloc (.cells #[.int .i64 0, .int .u64 11] 25) = w5 at *
  clear hg3
  go_upto_region 4 with (go_at_call 16; with_reducible refine (k_ch0 _).mono ?_; rintro _ w6 ⟨rfl, h6⟩)
  replace A1 := A1.kept h6
  replace A3 := A3.kept h6
  replace A4 := A4.kept h6
  replace HB := HB.trans (h6.mono HB.size)
  clear h6
  have hb7 := hal (w6) (.cells #[.int .i64 0, .int .u64 0] 25)
  have A6_ := Arr.new (w6) 25 [.int .i64 0, .int .u64 0]
  replace A1 := A1.kept hb7
  replace A3 := A3.kept hb7
  replace A4 := A4.kept hb7
  replace HB := HB.trans (hb7.mono HB.size)
  have A6 := A6_
  clear hb7 A6_
  have hb8 := hal (w6.alloc (.cells #[.int .i64 0, .int .u64 0] 25)) (.cells #[.int .i64 0, .int .u64 0] 25)
  have A7_ := Arr.new (w6.alloc (.cells #[.int .i64 0, .int .u64 0] 25)) 25 [.int .i64 0, .int .u64 0]
  rw [show (w6.alloc (.cells #[.int .i64 0, .int .u64 0] 25)).heap.size = w6.heap.size + 1 from by simp] at A7_
  replace A1 := A1.kept hb8
  replace A3 := A3.kept hb8
  replace A4 := A4.kept hb8
  replace A6 := A6.kept hb8
  replace HB := HB.trans (hb8.mono HB.size)
  have A7 := A7_
  clear hb8 A7_
  generalize hg6 : w6.heap.size = g6 at *
  generalize (w6.alloc (.cells #[.int .i64 0, .int .u64 0] 25)).alloc (.cells #[.int .i64 0, .int .u64 0] 25) = w8 at *
  clear hg6
  go_upto_region 5 with (go_at_call 24; with_reducible refine (k_cov1 _).mono ?_; rintro _ w9 ⟨u9, rfl, o9, h9⟩)
  replace A1 := A1.kept h9
  replace A3 := A3.kept h9
  replace A4 := A4.kept h9
  replace A6 := A6.kept h9
  replace A7 := A7.kept h9
  replace HB := HB.trans (h9.mono HB.size)
  clear h9
  replace o9 := o9.rd
  go_upto_region 6 with (go_at_call 24; with_reducible refine (k_cov2 _).mono ?_; rintro _ w10 ⟨u11, rfl, o11, h10⟩)
  replace A1 := A1.kept h10
  replace A3 := A3.kept h10
  replace A4 := A4.kept h10
  replace A6 := A6.kept h10
  replace A7 := A7.kept h10
  replace HB := HB.trans (h10.mono HB.size)
  replace o9 := o9.to h10
  clear h10
  obtain ⟨a11, c11, e11, -, -⟩ := o11.rd
  have e11' : u11 = .slice a11 0 c11 := e11
  subst e11'
  clear e11
  replace o11 := o11.rd
  clear o11
  go_upto_region 7 with (go_at_call 24; with_reducible refine (k_cov3 _).mono ?_; rintro _ w11 ⟨u13, rfl, o13, h11⟩)
  replace A1 := A1.kept h11
  replace A3 := A3.kept h11
  replace A4 := A4.kept h11
  replace A6 := A6.kept h11
  replace A7 := A7.kept h11
  replace HB := HB.trans (h11.mono HB.size)
  replace o9 := o9.to h11
  clear h11
  obtain ⟨a13, c13, e13, hc13, h13⟩ := o13.rd
  have e13' : u13 = .slice a13 1 c13 := e13
  subst e13'
  obtain ⟨b13, n13, rfl, hb13, -⟩ := h13 (by decide)
  have hc13' : 1 ≤ c13 := hc13
  clear e13 hc13
  replace o13 := o13.rd
  go_upto_region 8 with (go_at_call 24; with_reducible refine (k_cov4 _).mono ?_; rintro _ w12 ⟨u15, rfl, o15, h12⟩)
  replace A1 := A1.kept h12
  replace A3 := A3.kept h12
  replace A4 := A4.kept h12
  replace A6 := A6.kept h12
  replace A7 := A7.kept h12
  replace HB := HB.trans (h12.mono HB.size)
  replace o9 := o9.to h12
  replace o13 := o13.to h12
  clear h12
  replace o15 := o15.rd
  clear o15
  go_upto_region 9 with (go_at_call 24; with_reducible refine (k_cov5 _).mono ?_; rintro _ w13 ⟨u17, rfl, o17, h13⟩)
  replace A1 := A1.kept h13
  replace A3 := A3.kept h13
  replace A4 := A4.kept h13
  replace A6 := A6.kept h13
  replace A7 := A7.kept h13
  replace HB := HB.trans (h13.mono HB.size)
  replace o9 := o9.to h13
  replace o13 := o13.to h13
  clear h13
  replace o17 := o17.rd
  clear o17
  go_upto_region 10 with (go_at_call 26; with_reducible refine (k_sp2 _).mono ?_; rintro _ _ ⟨rfl, rfl⟩)
  go_upto_region 11 with (go_at_call 26; with_reducible refine (k_sp8 _).mono ?_; rintro _ _ ⟨rfl, rfl⟩)
  go_upto_region 12 with (go_at_call 26; with_reducible refine (k_sp1 _).mono ?_; rintro _ _ ⟨rfl, rfl⟩)
  go_upto_region 13 with (fail)
  have hb14 := hal w13 (.cells #[.int .i64 20, .int .u64 0] 25)
  replace A1 := A1.kept hb14
  replace A3 := A3.kept hb14
  replace A4 := A4.kept hb14
  replace A6 := A6.kept hb14
  replace A7 := A7.kept hb14
  replace HB := HB.trans (hb14.mono HB.size)
  replace o9 := o9.to hb14
  replace o13 := o13.to hb14
  have A25 := Arr.new w13 25 [.int .i64 20, .int .u64 0]
  clear hb14
  generalize hg25 : w13.heap.size = g25 at *
  generalize w13.alloc (.cells #[.int .i64 20, .int .u64 0] 25) = w14 at *
  clear hg25
  obtain ⟨p25, q25⟩ := A25.two
  go_upto_region 14 with (go_at_call 12; with_reducible refine (k_par _).mono ?_; rintro _ w15 ⟨rfl, h15⟩)
  clear p25 q25
  replace A1 := A1.kept h15
  replace A3 := A3.kept h15
  replace A4 := A4.kept h15
  replace A6 := A6.kept h15
  replace A7 := A7.kept h15
  replace A25 := A25.kept h15
  replace HB := HB.trans (h15.mono HB.size)
  replace o9 := o9.to h15
  replace o13 := o13.to h15
  clear h15
  have hb16 := hal (w15) (.cells #[.int .i64 0, .int .u64 0] 25)
  have A26_ := Arr.new (w15) 25 [.int .i64 0, .int .u64 0]
  replace A1 := A1.kept hb16
  replace A3 := A3.kept hb16
  replace A4 := A4.kept hb16
  replace A6 := A6.kept hb16
  replace A7 := A7.kept hb16
  replace A25 := A25.kept hb16
  replace HB := HB.trans (hb16.mono HB.size)
  replace o9 := o9.to hb16
  replace o13 := o13.to hb16
  have A26 := A26_
  clear hb16 A26_
  generalize hg26 : w15.heap.size = g26 at *
  generalize w15.alloc (.cells #[.int .i64 0, .int .u64 0] 25) = w16 at *
  clear hg26
  obtain ⟨p25, q25⟩ := A25.two
  go_upto_region 15 with (go_at_call 14; with_reducible refine (k_sib0 _).mono ?_; rintro _ w17 ⟨rfl, h17⟩)
  clear p25 q25
  replace A1 := A1.kept h17
  replace A3 := A3.kept h17
  replace A4 := A4.kept h17
  replace A6 := A6.kept h17
  replace A7 := A7.kept h17
  replace A25 := A25.kept h17
  replace A26 := A26.kept h17
  replace HB := HB.trans (h17.mono HB.size)
  replace o9 := o9.to h17
  replace o13 := o13.to h17
  clear h17
  have hb18 := hal (w17) (.cells #[.int .i64 0, .int .u64 0] 25)
  have A28_ := Arr.new (w17) 25 [.int .i64 0, .int .u64 0]
  replace A1 := A1.kept hb18
  replace A3 := A3.kept hb18
  replace A4 := A4.kept hb18
  replace A6 := A6.kept hb18
  replace A7 := A7.kept hb18
  replace A25 := A25.kept hb18
  replace A26 := A26.kept hb18
  replace HB := HB.trans (hb18.mono HB.size)
  replace o9 := o9.to hb18
  replace o13 := o13.to hb18
  have A28 := A28_
  clear hb18 A28_
  generalize hg28 : w17.heap.size = g28 at *
  generalize w17.alloc (.cells #[.int .i64 0, .int .u64 0] 25) = w18 at *
  clear hg28
  obtain ⟨a13', c13', e13, -, h13⟩ := o13
  injection e13 with e13a e13b e13c
  subst e13a e13c
  obtain ⟨b13', n13', e13, hb13, h13⟩ := h13 (by decide)
  injection e13 with e13
  injection e13 with e13a e13b
  subst e13a e13b
  have x0 : w18.cell? ⟨b13, n13, none⟩ = some (.int .i64 20) := (h13 0 (by decide)).1
  have x1 : w18.cell? ⟨b13, n13 + 1, none⟩ = some (.int .u64 0) := (h13 0 (by decide)).2
  clear h13 e13b
  have HI13 : Hid (True) := trivial
  refine wp_region_steps [[], [0], [0, 1], [2], [3], [3, 4], [3, 5], [6], [7], [7], [7, 8, 9], [7, 10], [11], [12], [12, 13], [12, 14], [15], [16], [16, 17], [16, 18], [16, 19], [20], [21], [21, 22], [21, 23], [21, 24], [25], [26], [26, 27], [26, 28], [29], [30], [30, 31], [30, 32], [33], [34], [34], [34], [34, 36, 37], [34, 35, 38], [34, 39], [40], [41], [41, 42], [41, 43], [44], [45], [45, 46], [45, 47], [45, 48], [49], [50], [50, 51], [50, 52], [53], [54], [54, 55], [54, 56], [54, 57], [58], [59], [59, 60], [59, 61], [59], [59, 62, 63], [59, 64], [65], [66], [66, 67], [66, 68], [69], [70], [70, 71], [70, 72], [73], [74], [74, 75], [74, 76], [77], [78], [78, 79], [78, 80], [81], [82], [82, 83], [82, 84], [85], [86], [86, 87], [86, 88], [89], [90], [90, 91], [90, 92], [93], [94], [94, 95], [94, 96], [97], [98], [98, 99], [98, 100], [101], [102], [102, 103], [102, 104], [102, 105], [106], [107], [107, 108], [107, 109], [107, 110], [111], [112], [112, 113], [112, 114], [112, 115], [116], [117], [117, 118], [117, 119], [120]] (by kernel_rfl) (by kernel_rfl) (fun L a wx => ∃ v : Nat → Value, a = ⟨#[v 0, .pointer (some ⟨g1, 0, none⟩), .int .i64 0, .pointer (some ⟨g3, 0, none⟩), .pointer (some ⟨g3 + 1, 0, none⟩), .int .i64 0, .pointer (some ⟨g6, 0, none⟩), .pointer (some ⟨g6 + 1, 0, none⟩), .int .i64 1, u9, .int .i64 0, .slice a11 0 c11, .int .i64 0, .slice (some ⟨b13, n13, none⟩) 1 c13, .int .i64 0, u15, .int .i64 1, u17, .int .i64 1, .int .u64 1, .int .i64 0, .int .u64 4, .int .i64 0, .int .u64 0, .int .i64 1, .pointer (some ⟨g25, 0, none⟩), .pointer (some ⟨g26, 0, none⟩), .int .i64 1, .pointer (some ⟨g28, 0, none⟩), .int .i64 1, .tuple #[.agg #[.int .i64 2, .int .u64 2], .int .i64 0], .agg #[.int .i64 2, .int .u64 3], .tuple #[.agg #[.int .i64 2, .int .u64 2], .int .i64 0], .agg #[.int .i64 2, .int .u64 2], .int .i64 0, .tuple #[.agg #[.int .i64 0, .int .u64 10], .agg #[.int .i64 0, .int .u64 11], .int .i64 0], .agg #[.int .i64 1, .int .u64 5], .tuple #[.agg #[.int .i64 0, .int .u64 10], .agg #[.int .i64 0, .int .u64 11], .int .i64 0], .agg #[.int .i64 0, .int .u64 10], .agg #[.int .i64 0, .int .u64 11], .int .i64 0, .tuple #[.agg #[.int .i64 0, .int .u64 0], .agg #[.int .i64 0, .int .u64 0], .int .i64 1], .agg #[.int .i64 0, .int .u64 5], .tuple #[.agg #[.int .i64 0, .int .u64 0], .agg #[.int .i64 0, .int .u64 0], .int .i64 1], .agg #[.int .i64 0, .int .u64 0], .agg #[.int .i64 0, .int .u64 0], .int .i64 1, .tuple #[u9, .int .i64 0], .tuple #[u9, .int .i64 0], u9, .int .i64 0, .tuple #[.slice a11 0 c11, .int .i64 0], .tuple #[.slice a11 0 c11, .int .i64 0], .slice a11 0 c11, .int .i64 0, .tuple #[.slice (some ⟨b13, n13, none⟩) 1 c13, .int .i64 0], .tuple #[.slice (some ⟨b13, n13, none⟩) 1 c13, .int .i64 0], .slice (some ⟨b13, n13, none⟩) 1 c13, .int .i64 0, .tuple #[u15, .int .i64 1], .tuple #[u15, .int .i64 1], u15, .int .i64 1, .tuple #[u17, .int .i64 1], .tuple #[u17, .int .i64 1], u17, .int .i64 1, .tuple #[.int .u64 1, .int .i64 0], .tuple #[.int .u64 1, .int .i64 0], .int .u64 1, .int .i64 0, .tuple #[.int .u64 4, .int .i64 0], .tuple #[.int .u64 4, .int .i64 0], .int .u64 4, .int .i64 0, .tuple #[.int .u64 0, .int .i64 1], .tuple #[.int .u64 0, .int .i64 1], .int .u64 0, .int .i64 1, .agg #[.int .i64 20, .int .u64 0], .tuple #[.agg #[.int .i64 0, .int .u64 0], .int .i64 1], .agg #[.int .i64 20, .int .u64 0], .tuple #[.agg #[.int .i64 0, .int .u64 0], .int .i64 1], .agg #[.int .i64 0, .int .u64 0], .int .i64 1, .tuple #[.agg #[.int .i64 0, .int .u64 0], .int .i64 1], .agg #[.int .i64 20, .int .u64 0], .tuple #[.agg #[.int .i64 0, .int .u64 0], .int .i64 1], .agg #[.int .i64 0, .int .u64 0], .int .i64 1, v 90, v 91, v 92, v 93, v 94, v 95, v 96, v 97, v 98, v 99, v 100, v 101, v 102, v 103, v 104, v 105, v 106, v 107, v 108, v 109, v 110, v 111, v 112, v 113, v 114, v 115, v 116, v 117, v 118, v 119, v 120, v 121, v 122, v 123, v 124, v 125, v 126, v 127, v 128, v 129, v 130, v 131, v 132, v 133, v 134, v 135, v 136, v 137, v 138, v 139, v 140, v 141, v 142, v 143, v 144, v 145, v 146, v 147, v 148, v 149, v 150, v 151, v 152, v 153, v 154, v 155, v 156, v 157, v 158, v 159, v 160, v 161, v 162, v 163, v 164, v 165, v 166, v 167, v 168, v 169, v 170, v 171, v 172, v 173, v 174, v 175, v 176, v 177, v 178, v 179, v 180, v 181, v 182, v 183, v 184, v 185, v 186, v 187, v 188, v 189, v 190, v 191, v 192, v 193, v 194, v 195, v 196, v 197, v 198, v 199, v 200, v 201, v 202, v 203, v 204, v 205, v 206, v 207, v 208, v 209, v 210], []⟩ ∧ InvKnown u9 u15 u17 a11 c11 c13 b13 n13 g1 g3 g6 g25 g26 g28 w18 L v wx) ?_ ⟨?_, ?_, ?_, ?_, ?_, ?_, ?_, ?_, ?_, ?_, ?_, ?_, ?_, ?_, ?_, ?_, ?_, ?_, ?_, ?_, ?_, ?_, ?_, ?_, ?_, ?_, ?_, ?_, ?_, ?_, ?_, ?_, ?_, ?_, ?_, ?_, ?_, ?_, ?_, ?_, ?_, ?_, ?_, ?_, ?_, ?_, ?_, ?_, ?_, ?_, ?_, ?_, ?_, ?_, ?_, ?_, ?_, ?_, ?_, ?_, ?_, ?_, ?_, ?_, ?_, ?_, ?_, ?_, ?_, ?_, ?_, ?_, ?_, ?_, ?_, ?_, ?_, ?_, ?_, ?_, ?_, ?_, ?_, ?_, ?_, ?_, ?_, ?_, ?_, ?_, ?_, ?_, ?_, ?_, ?_, ?_, ?_, ?_, ?_, ?_, ?_, ?_, ?_, ?_, ?_, ?_, ?_, ?_, ?_, ?_, ?_, ?_, ?_, ?_, ?_, ?_, ?_, ?_, ?_, ?_, ?_, ?_, trivial⟩ ?_
  · refine ⟨upd (fun _ => undef) 0 (.bool false), rfl, ⟨?_, ?_, ?_, ?_, ?_, ?_, ?_, ?_, ?_, ?_, ?_, ?_, ?_, ?_, ?_, ?_, ?_, ?_, ?_, ?_, ?_, ?_, ?_, ?_, ?_, ?_, ?_, ?_, ?_, ?_, ?_, ?_, ?_, ?_, ?_, ?_, ?_, ?_, ?_, ?_, ?_, ?_, ?_, ?_, ?_, ?_, ?_, ?_, ?_, ?_, ?_, ?_, ?_, ?_, ?_, ?_, ?_, ?_, ?_, ?_, ?_, ?_, ?_, ?_, ?_, ?_, ?_, ?_, ?_, ?_, ?_, ?_, ?_, ?_, ?_, ?_, ?_, ?_, ?_, ?_, ?_, ?_, ?_, ?_, ?_, ?_, ?_, ?_, ?_, ?_, ?_, ?_, ?_, ?_, ?_, ?_, ?_, ?_, ?_, ?_, ?_, ?_, ?_, ?_, ?_, ?_, ?_, ?_, ?_, ?_, ?_, ?_, ?_, ?_, ?_, ?_, ?_, ?_, ?_, ?_, ?_, ?_, A1.drew, A3.drew, A4.drew, A25.drew, (Below.refl _ _).drew, o9.to (Below.refl _ _).drew, x0, x1⟩⟩ <;> (intro h; exact absurd h (by decide))
  · rintro L a wx ⟨v, rfl, hI⟩ hL hdep hcl K hK
    go_simp
    exact hK _ _ ⟨(upd v 90 (.bool true)), rfl, ⟨fun _ => rfl, hI.t1, hI.t2, hI.t3, hI.t4, hI.t5, hI.t6, hI.t7, hI.t8, hI.t9, hI.t10, hI.t11, hI.t12, hI.t13, hI.t14, hI.t15, hI.t16, hI.t17, hI.t18, hI.t19, hI.t20, hI.t21, hI.t22, hI.t23, hI.t24, hI.t25, hI.t26, hI.t27, hI.t28, hI.t29, hI.t30, hI.t31, hI.t32, hI.t33, hI.t34, hI.t35, hI.t36, hI.t37, hI.t38, hI.t39, hI.t40, hI.t41, hI.t42, hI.t43, hI.t44, hI.t45, hI.t46, hI.t47, hI.t48, hI.t49, hI.t50, hI.t51, hI.t52, hI.t53, hI.t54, hI.t55, hI.t56, hI.t57, hI.t58, hI.t59, hI.t60, hI.t61, hI.t62, hI.t63, hI.t64, hI.t65, hI.t66, hI.t67, hI.t68, hI.t69, hI.t70, hI.t71, hI.t72, hI.t73, hI.t74, hI.t75, hI.t76, hI.t77, hI.t78, hI.t79, hI.t80, hI.t81, hI.t82, hI.t83, hI.t84, hI.t85, hI.t86, hI.t87, hI.t88, hI.t89, hI.t90, hI.t91, hI.t92, hI.t93, hI.t94, hI.t95, hI.t96, hI.t97, hI.t98, hI.t99, hI.t100, hI.t101, hI.t102, hI.t103, hI.t104, hI.t105, hI.t106, hI.t107, hI.t108, hI.t109, hI.t110, hI.t111, hI.t112, hI.t113, hI.t114, hI.t115, hI.t116, hI.t117, hI.t118, hI.t119, hI.t120, hI.t121, hI.a1, hI.a3, hI.a4, hI.a25, hI.bw, hI.r9, hI.x0, hI.x1⟩⟩
  · rintro L a wx ⟨v, rfl, hI⟩ hL hdep hcl K hK
    have e0 := hI.t0 (hdep 0 (by decide))
    rw [e0]
    refine (if_pos rfl).mpr ?_
    go_simp
    refine (awake_any wx).mono ?_
    rintro e w' ⟨rfl, hb⟩
    exact hK _ _ ⟨(upd (upd v 90 (.bool true)) 91 (.bool true)), rfl, ⟨fun _ => rfl, fun _ => rfl, hI.t2, hI.t3, hI.t4, hI.t5, hI.t6, hI.t7, hI.t8, hI.t9, hI.t10, hI.t11, hI.t12, hI.t13, hI.t14, hI.t15, hI.t16, hI.t17, hI.t18, hI.t19, hI.t20, hI.t21, hI.t22, hI.t23, hI.t24, hI.t25, hI.t26, hI.t27, hI.t28, hI.t29, hI.t30, hI.t31, hI.t32, hI.t33, hI.t34, hI.t35, hI.t36, hI.t37, fun h => (hI.t38 h).to hb, hI.t39, hI.t40, hI.t41, hI.t42, hI.t43, hI.t44, hI.t45, hI.t46, hI.t47, hI.t48, hI.t49, hI.t50, hI.t51, hI.t52, hI.t53, hI.t54, hI.t55, hI.t56, hI.t57, hI.t58, hI.t59, hI.t60, hI.t61, hI.t62, hI.t63, hI.t64, hI.t65, hI.t66, hI.t67, hI.t68, hI.t69, hI.t70, hI.t71, hI.t72, hI.t73, hI.t74, hI.t75, hI.t76, hI.t77, hI.t78, hI.t79, hI.t80, hI.t81, hI.t82, hI.t83, hI.t84, hI.t85, hI.t86, hI.t87, hI.t88, hI.t89, hI.t90, hI.t91, hI.t92, hI.t93, hI.t94, hI.t95, hI.t96, hI.t97, hI.t98, hI.t99, hI.t100, hI.t101, hI.t102, hI.t103, hI.t104, hI.t105, hI.t106, hI.t107, hI.t108, hI.t109, hI.t110, hI.t111, hI.t112, hI.t113, hI.t114, hI.t115, hI.t116, hI.t117, hI.t118, hI.t119, hI.t120, hI.t121, (hI.a1).kept hb, (hI.a3).kept hb, (hI.a4).kept hb, (hI.a25).kept hb, (hI.bw).trans (hb.mono (hI.bw).size), (hI.r9).to hb, (hb.cell (p := ⟨b13, n13, none⟩) (Nat.lt_of_lt_of_le hb13 hI.bw.size)).trans (hI.x0), (hb.cell (p := ⟨b13, n13 + 1, none⟩) (Nat.lt_of_lt_of_le hb13 hI.bw.size)).trans (hI.x1)⟩⟩
  · rintro L a wx ⟨v, rfl, hI⟩ hL hdep hcl K hK
    have e0 := hI.t0 (hdep 0 (by decide))
    have e1 := hI.t1 (hdep 1 (by decide))
    rw [e0, e1]
    go_simp
    exact hK _ _ ⟨(upd (upd (upd v 90 (.bool true)) 91 (.bool true)) 92 (.bool true)), rfl, ⟨fun _ => rfl, fun _ => rfl, fun _ => rfl, hI.t3, hI.t4, hI.t5, hI.t6, hI.t7, hI.t8, hI.t9, hI.t10, hI.t11, hI.t12, hI.t13, hI.t14, hI.t15, hI.t16, hI.t17, hI.t18, hI.t19, hI.t20, hI.t21, hI.t22, hI.t23, hI.t24, hI.t25, hI.t26, hI.t27, hI.t28, hI.t29, hI.t30, hI.t31, hI.t32, hI.t33, hI.t34, hI.t35, hI.t36, hI.t37, hI.t38, hI.t39, hI.t40, hI.t41, hI.t42, hI.t43, hI.t44, hI.t45, hI.t46, hI.t47, hI.t48, hI.t49, hI.t50, hI.t51, hI.t52, hI.t53, hI.t54, hI.t55, hI.t56, hI.t57, hI.t58, hI.t59, hI.t60, hI.t61, hI.t62, hI.t63, hI.t64, hI.t65, hI.t66, hI.t67, hI.t68, hI.t69, hI.t70, hI.t71, hI.t72, hI.t73, hI.t74, hI.t75, hI.t76, hI.t77, hI.t78, hI.t79, hI.t80, hI.t81, hI.t82, hI.t83, hI.t84, hI.t85, hI.t86, hI.t87, hI.t88, hI.t89, hI.t90, hI.t91, hI.t92, hI.t93, hI.t94, hI.t95, hI.t96, hI.t97, hI.t98, hI.t99, hI.t100, hI.t101, hI.t102, hI.t103, hI.t104, hI.t105, hI.t106, hI.t107, hI.t108, hI.t109, hI.t110, hI.t111, hI.t112, hI.t113, hI.t114, hI.t115, hI.t116, hI.t117, hI.t118, hI.t119, hI.t120, hI.t121, hI.a1, hI.a3, hI.a4, hI.a25, hI.bw, hI.r9, hI.x0, hI.x1⟩⟩
  · rintro L a wx ⟨v, rfl, hI⟩ hL hdep hcl K hK
    have e2 := hI.t2 (hdep 2 (by decide))
    rw [e2]
    go_simp
    exact hK _ _ ⟨(upd (upd v 92 (.bool true)) 93 (.bool true)), rfl, ⟨hI.t0, hI.t1, fun _ => rfl, fun _ => rfl, hI.t4, hI.t5, hI.t6, hI.t7, hI.t8, hI.t9, hI.t10, hI.t11, hI.t12, hI.t13, hI.t14, hI.t15, hI.t16, hI.t17, hI.t18, hI.t19, hI.t20, hI.t21, hI.t22, hI.t23, hI.t24, hI.t25, hI.t26, hI.t27, hI.t28, hI.t29, hI.t30, hI.t31, hI.t32, hI.t33, hI.t34, hI.t35, hI.t36, hI.t37, hI.t38, hI.t39, hI.t40, hI.t41, hI.t42, hI.t43, hI.t44, hI.t45, hI.t46, hI.t47, hI.t48, hI.t49, hI.t50, hI.t51, hI.t52, hI.t53, hI.t54, hI.t55, hI.t56, hI.t57, hI.t58, hI.t59, hI.t60, hI.t61, hI.t62, hI.t63, hI.t64, hI.t65, hI.t66, hI.t67, hI.t68, hI.t69, hI.t70, hI.t71, hI.t72, hI.t73, hI.t74, hI.t75, hI.t76, hI.t77, hI.t78, hI.t79, hI.t80, hI.t81, hI.t82, hI.t83, hI.t84, hI.t85, hI.t86, hI.t87, hI.t88, hI.t89, hI.t90, hI.t91, hI.t92, hI.t93, hI.t94, hI.t95, hI.t96, hI.t97, hI.t98, hI.t99, hI.t100, hI.t101, hI.t102, hI.t103, hI.t104, hI.t105, hI.t106, hI.t107, hI.t108, hI.t109, hI.t110, hI.t111, hI.t112, hI.t113, hI.t114, hI.t115, hI.t116, hI.t117, hI.t118, hI.t119, hI.t120, hI.t121, hI.a1, hI.a3, hI.a4, hI.a25, hI.bw, hI.r9, hI.x0, hI.x1⟩⟩
  · rintro L a wx ⟨v, rfl, hI⟩ hL hdep hcl K hK
    have e3 := hI.t3 (hdep 3 (by decide))
    rw [e3]
    refine (if_pos rfl).mpr ?_
    go_simp
    exact hK _ _ ⟨(upd (upd v 93 (.bool true)) 94 (.int .i64 0)), rfl, ⟨hI.t0, hI.t1, hI.t2, fun _ => rfl, fun _ => rfl, hI.t5, hI.t6, hI.t7, hI.t8, hI.t9, hI.t10, hI.t11, hI.t12, hI.t13, hI.t14, hI.t15, hI.t16, hI.t17, hI.t18, hI.t19, hI.t20, hI.t21, hI.t22, hI.t23, hI.t24, hI.t25, hI.t26, hI.t27, hI.t28, hI.t29, hI.t30, hI.t31, hI.t32, hI.t33, hI.t34, hI.t35, hI.t36, hI.t37, hI.t38, hI.t39, hI.t40, hI.t41, hI.t42, hI.t43, hI.t44, hI.t45, hI.t46, hI.t47, hI.t48, hI.t49, hI.t50, hI.t51, hI.t52, hI.t53, hI.t54, hI.t55, hI.t56, hI.t57, hI.t58, hI.t59, hI.t60, hI.t61, hI.t62, hI.t63, hI.t64, hI.t65, hI.t66, hI.t67, hI.t68, hI.t69, hI.t70, hI.t71, hI.t72, hI.t73, hI.t74, hI.t75, hI.t76, hI.t77, hI.t78, hI.t79, hI.t80, hI.t81, hI.t82, hI.t83, hI.t84, hI.t85, hI.t86, hI.t87, hI.t88, hI.t89, hI.t90, hI.t91, hI.t92, hI.t93, hI.t94, hI.t95, hI.t96, hI.t97, hI.t98, hI.t99, hI.t100, hI.t101, hI.t102, hI.t103, hI.t104, hI.t105, hI.t106, hI.t107, hI.t108, hI.t109, hI.t110, hI.t111, hI.t112, hI.t113, hI.t114, hI.t115, hI.t116, hI.t117, hI.t118, hI.t119, hI.t120, hI.t121, hI.a1, hI.a3, hI.a4, hI.a25, hI.bw, hI.r9, hI.x0, hI.x1⟩⟩
  · rintro L a wx ⟨v, rfl, hI⟩ hL hdep hcl K hK
    have e3 := hI.t3 (hdep 3 (by decide))
    have e4 := hI.t4 (hdep 4 (by decide))
    rw [e3, e4]
    refine (if_pos rfl).mpr ?_
    go_simp
    exact hK _ _ ⟨(upd (upd (upd v 93 (.bool true)) 94 (.int .i64 0)) 95 (.bool true)), rfl, ⟨hI.t0, hI.t1, hI.t2, fun _ => rfl, fun _ => rfl, fun _ => rfl, hI.t6, hI.t7, hI.t8, hI.t9, hI.t10, hI.t11, hI.t12, hI.t13, hI.t14, hI.t15, hI.t16, hI.t17, hI.t18, hI.t19, hI.t20, hI.t21, hI.t22, hI.t23, hI.t24, hI.t25, hI.t26, hI.t27, hI.t28, hI.t29, hI.t30, hI.t31, hI.t32, hI.t33, hI.t34, hI.t35, hI.t36, hI.t37, hI.t38, hI.t39, hI.t40, hI.t41, hI.t42, hI.t43, hI.t44, hI.t45, hI.t46, hI.t47, hI.t48, hI.t49, hI.t50, hI.t51, hI.t52, hI.t53, hI.t54, hI.t55, hI.t56, hI.t57, hI.t58, hI.t59, hI.t60, hI.t61, hI.t62, hI.t63, hI.t64, hI.t65, hI.t66, hI.t67, hI.t68, hI.t69, hI.t70, hI.t71, hI.t72, hI.t73, hI.t74, hI.t75, hI.t76, hI.t77, hI.t78, hI.t79, hI.t80, hI.t81, hI.t82, hI.t83, hI.t84, hI.t85, hI.t86, hI.t87, hI.t88, hI.t89, hI.t90, hI.t91, hI.t92, hI.t93, hI.t94, hI.t95, hI.t96, hI.t97, hI.t98, hI.t99, hI.t100, hI.t101, hI.t102, hI.t103, hI.t104, hI.t105, hI.t106, hI.t107, hI.t108, hI.t109, hI.t110, hI.t111, hI.t112, hI.t113, hI.t114, hI.t115, hI.t116, hI.t117, hI.t118, hI.t119, hI.t120, hI.t121, hI.a1, hI.a3, hI.a4, hI.a25, hI.bw, hI.r9, hI.x0, hI.x1⟩⟩
  · rintro L a wx ⟨v, rfl, hI⟩ hL hdep hcl K hK
    have e3 := hI.t3 (hdep 3 (by decide))
    have e5 := hI.t5 (hdep 5 (by decide))
    rw [e3, e5]
    go_simp
    exact hK _ _ ⟨(upd (upd (upd v 93 (.bool true)) 95 (.bool true)) 96 (.bool true)), rfl, ⟨hI.t0, hI.t1, hI.t2, fun _ => rfl, hI.t4, fun _ => rfl, fun _ => rfl, hI.t7, hI.t8, hI.t9, hI.t10, hI.t11, hI.t12, hI.t13, hI.t14, hI.t15, hI.t16, hI.t17, hI.t18, hI.t19, hI.t20, hI.t21, hI.t22, hI.t23, hI.t24, hI.t25, hI.t26, hI.t27, hI.t28, hI.t29, hI.t30, hI.t31, hI.t32, hI.t33, hI.t34, hI.t35, hI.t36, hI.t37, hI.t38, hI.t39, hI.t40, hI.t41, hI.t42, hI.t43, hI.t44, hI.t45, hI.t46, hI.t47, hI.t48, hI.t49, hI.t50, hI.t51, hI.t52, hI.t53, hI.t54, hI.t55, hI.t56, hI.t57, hI.t58, hI.t59, hI.t60, hI.t61, hI.t62, hI.t63, hI.t64, hI.t65, hI.t66, hI.t67, hI.t68, hI.t69, hI.t70, hI.t71, hI.t72, hI.t73, hI.t74, hI.t75, hI.t76, hI.t77, hI.t78, hI.t79, hI.t80, hI.t81, hI.t82, hI.t83, hI.t84, hI.t85, hI.t86, hI.t87, hI.t88, hI.t89, hI.t90, hI.t91, hI.t92, hI.t93, hI.t94, hI.t95, hI.t96, hI.t97, hI.t98, hI.t99, hI.t100, hI.t101, hI.t102, hI.t103, hI.t104, hI.t105, hI.t106, hI.t107, hI.t108, hI.t109, hI.t110, hI.t111, hI.t112, hI.t113, hI.t114, hI.t115, hI.t116, hI.t117, hI.t118, hI.t119, hI.t120, hI.t121, hI.a1, hI.a3, hI.a4, hI.a25, hI.bw, hI.r9, hI.x0, hI.x1⟩⟩
  · rintro L a wx ⟨v, rfl, hI⟩ hL hdep hcl K hK
    have e6 := hI.t6 (hdep 6 (by decide))
    rw [e6]
    go_simp
    exact hK _ _ ⟨(upd (upd v 96 (.bool true)) 97 (.bool true)), rfl, ⟨hI.t0, hI.t1, hI.t2, hI.t3, hI.t4, hI.t5, fun _ => rfl, fun _ => rfl, hI.t8, hI.t9, hI.t10, hI.t11, hI.t12, hI.t13, hI.t14, hI.t15, hI.t16, hI.t17, hI.t18, hI.t19, hI.t20, hI.t21, hI.t22, hI.t23, hI.t24, hI.t25, hI.t26, hI.t27, hI.t28, hI.t29, hI.t30, hI.t31, hI.t32, hI.t33, hI.t34, hI.t35, hI.t36, hI.t37, hI.t38, hI.t39, hI.t40, hI.t41, hI.t42, hI.t43, hI.t44, hI.t45, hI.t46, hI.t47, hI.t48, hI.t49, hI.t50, hI.t51, hI.t52, hI.t53, hI.t54, hI.t55, hI.t56, hI.t57, hI.t58, hI.t59, hI.t60, hI.t61, hI.t62, hI.t63, hI.t64, hI.t65, hI.t66, hI.t67, hI.t68, hI.t69, hI.t70, hI.t71, hI.t72, hI.t73, hI.t74, hI.t75, hI.t76, hI.t77, hI.t78, hI.t79, hI.t80, hI.t81, hI.t82, hI.t83, hI.t84, hI.t85, hI.t86, hI.t87, hI.t88, hI.t89, hI.t90, hI.t91, hI.t92, hI.t93, hI.t94, hI.t95, hI.t96, hI.t97, hI.t98, hI.t99, hI.t100, hI.t101, hI.t102, hI.t103, hI.t104, hI.t105, hI.t106, hI.t107, hI.t108, hI.t109, hI.t110, hI.t111, hI.t112, hI.t113, hI.t114, hI.t115, hI.t116, hI.t117, hI.t118, hI.t119, hI.t120, hI.t121, hI.a1, hI.a3, hI.a4, hI.a25, hI.bw, hI.r9, hI.x0, hI.x1⟩⟩
  · rintro L a wx ⟨v, rfl, hI⟩ hL hdep hcl K hK
    have e7 := hI.t7 (hdep 7 (by decide))
    rw [e7]
    refine (if_pos rfl).mpr ?_
    obtain ⟨c0, c1⟩ := hI.a1.two
    go_simp
    exact hK _ _ ⟨(upd (upd v 97 (.bool true)) 98 (.agg #[.int .i64 2, .int .u64 2])), rfl, ⟨hI.t0, hI.t1, hI.t2, hI.t3, hI.t4, hI.t5, hI.t6, fun _ => rfl, fun _ => rfl, hI.t9, hI.t10, hI.t11, hI.t12, hI.t13, hI.t14, hI.t15, hI.t16, hI.t17, hI.t18, hI.t19, hI.t20, hI.t21, hI.t22, hI.t23, hI.t24, hI.t25, hI.t26, hI.t27, hI.t28, hI.t29, hI.t30, hI.t31, hI.t32, hI.t33, hI.t34, hI.t35, hI.t36, hI.t37, hI.t38, hI.t39, hI.t40, hI.t41, hI.t42, hI.t43, hI.t44, hI.t45, hI.t46, hI.t47, hI.t48, hI.t49, hI.t50, hI.t51, hI.t52, hI.t53, hI.t54, hI.t55, hI.t56, hI.t57, hI.t58, hI.t59, hI.t60, hI.t61, hI.t62, hI.t63, hI.t64, hI.t65, hI.t66, hI.t67, hI.t68, hI.t69, hI.t70, hI.t71, hI.t72, hI.t73, hI.t74, hI.t75, hI.t76, hI.t77, hI.t78, hI.t79, hI.t80, hI.t81, hI.t82, hI.t83, hI.t84, hI.t85, hI.t86, hI.t87, hI.t88, hI.t89, hI.t90, hI.t91, hI.t92, hI.t93, hI.t94, hI.t95, hI.t96, hI.t97, hI.t98, hI.t99, hI.t100, hI.t101, hI.t102, hI.t103, hI.t104, hI.t105, hI.t106, hI.t107, hI.t108, hI.t109, hI.t110, hI.t111, hI.t112, hI.t113, hI.t114, hI.t115, hI.t116, hI.t117, hI.t118, hI.t119, hI.t120, hI.t121, hI.a1, hI.a3, hI.a4, hI.a25, hI.bw, hI.r9, hI.x0, hI.x1⟩⟩
  · rintro L a wx ⟨v, rfl, hI⟩ hL hdep hcl K hK
    have e7 := hI.t7 (hdep 7 (by decide))
    rw [e7]
    refine (if_pos rfl).mpr ?_
    go_simp
    exact hK _ _ ⟨(upd (upd v 97 (.bool true)) 99 (.agg #[.int .i64 2, .int .u64 2])), rfl, ⟨hI.t0, hI.t1, hI.t2, hI.t3, hI.t4, hI.t5, hI.t6, fun _ => rfl, hI.t8, fun _ => rfl, hI.t10, hI.t11, hI.t12, hI.t13, hI.t14, hI.t15, hI.t16, hI.t17, hI.t18, hI.t19, hI.t20, hI.t21, hI.t22, hI.t23, hI.t24, hI.t25, hI.t26, hI.t27, hI.t28, hI.t29, hI.t30, hI.t31, hI.t32, hI.t33, hI.t34, hI.t35, hI.t36, hI.t37, hI.t38, hI.t39, hI.t40, hI.t41, hI.t42, hI.t43, hI.t44, hI.t45, hI.t46, hI.t47, hI.t48, hI.t49, hI.t50, hI.t51, hI.t52, hI.t53, hI.t54, hI.t55, hI.t56, hI.t57, hI.t58, hI.t59, hI.t60, hI.t61, hI.t62, hI.t63, hI.t64, hI.t65, hI.t66, hI.t67, hI.t68, hI.t69, hI.t70, hI.t71, hI.t72, hI.t73, hI.t74, hI.t75, hI.t76, hI.t77, hI.t78, hI.t79, hI.t80, hI.t81, hI.t82, hI.t83, hI.t84, hI.t85, hI.t86, hI.t87, hI.t88, hI.t89, hI.t90, hI.t91, hI.t92, hI.t93, hI.t94, hI.t95, hI.t96, hI.t97, hI.t98, hI.t99, hI.t100, hI.t101, hI.t102, hI.t103, hI.t104, hI.t105, hI.t106, hI.t107, hI.t108, hI.t109, hI.t110, hI.t111, hI.t112, hI.t113, hI.t114, hI.t115, hI.t116, hI.t117, hI.t118, hI.t119, hI.t120, hI.t121, hI.a1, hI.a3, hI.a4, hI.a25, hI.bw, hI.r9, hI.x0, hI.x1⟩⟩
  · rintro L a wx ⟨v, rfl, hI⟩ hL hdep hcl K hK
    have e7 := hI.t7 (hdep 7 (by decide))
    have e8 := hI.t8 (hdep 8 (by decide))
    have e9 := hI.t9 (hdep 9 (by decide))
    rw [e7, e8, e9]
    refine (if_pos rfl).mpr ?_
    go_simp
    exact hK _ _ ⟨(upd (upd (upd (upd v 97 (.bool true)) 98 (.agg #[.int .i64 2, .int .u64 2])) 99 (.agg #[.int .i64 2, .int .u64 2])) 100 (.bool true)), rfl, ⟨hI.t0, hI.t1, hI.t2, hI.t3, hI.t4, hI.t5, hI.t6, fun _ => rfl, fun _ => rfl, fun _ => rfl, fun _ => rfl, hI.t11, hI.t12, hI.t13, hI.t14, hI.t15, hI.t16, hI.t17, hI.t18, hI.t19, hI.t20, hI.t21, hI.t22, hI.t23, hI.t24, hI.t25, hI.t26, hI.t27, hI.t28, hI.t29, hI.t30, hI.t31, hI.t32, hI.t33, hI.t34, hI.t35, hI.t36, hI.t37, hI.t38, hI.t39, hI.t40, hI.t41, hI.t42, hI.t43, hI.t44, hI.t45, hI.t46, hI.t47, hI.t48, hI.t49, hI.t50, hI.t51, hI.t52, hI.t53, hI.t54, hI.t55, hI.t56, hI.t57, hI.t58, hI.t59, hI.t60, hI.t61, hI.t62, hI.t63, hI.t64, hI.t65, hI.t66, hI.t67, hI.t68, hI.t69, hI.t70, hI.t71, hI.t72, hI.t73, hI.t74, hI.t75, hI.t76, hI.t77, hI.t78, hI.t79, hI.t80, hI.t81, hI.t82, hI.t83, hI.t84, hI.t85, hI.t86, hI.t87, hI.t88, hI.t89, hI.t90, hI.t91, hI.t92, hI.t93, hI.t94, hI.t95, hI.t96, hI.t97, hI.t98, hI.t99, hI.t100, hI.t101, hI.t102, hI.t103, hI.t104, hI.t105, hI.t106, hI.t107, hI.t108, hI.t109, hI.t110, hI.t111, hI.t112, hI.t113, hI.t114, hI.t115, hI.t116, hI.t117, hI.t118, hI.t119, hI.t120, hI.t121, hI.a1, hI.a3, hI.a4, hI.a25, hI.bw, hI.r9, hI.x0, hI.x1⟩⟩
  · rintro L a wx ⟨v, rfl, hI⟩ hL hdep hcl K hK
    have e7 := hI.t7 (hdep 7 (by decide))
    have e10 := hI.t10 (hdep 10 (by decide))
    rw [e7, e10]
    go_simp
    exact hK _ _ ⟨(upd (upd (upd v 97 (.bool true)) 100 (.bool true)) 101 (.bool true)), rfl, ⟨hI.t0, hI.t1, hI.t2, hI.t3, hI.t4, hI.t5, hI.t6, fun _ => rfl, hI.t8, hI.t9, fun _ => rfl, fun _ => rfl, hI.t12, hI.t13, hI.t14, hI.t15, hI.t16, hI.t17, hI.t18, hI.t19, hI.t20, hI.t21, hI.t22, hI.t23, hI.t24, hI.t25, hI.t26, hI.t27, hI.t28, hI.t29, hI.t30, hI.t31, hI.t32, hI.t33, hI.t34, hI.t35, hI.t36, hI.t37, hI.t38, hI.t39, hI.t40, hI.t41, hI.t42, hI.t43, hI.t44, hI.t45, hI.t46, hI.t47, hI.t48, hI.t49, hI.t50, hI.t51, hI.t52, hI.t53, hI.t54, hI.t55, hI.t56, hI.t57, hI.t58, hI.t59, hI.t60, hI.t61, hI.t62, hI.t63, hI.t64, hI.t65, hI.t66, hI.t67, hI.t68, hI.t69, hI.t70, hI.t71, hI.t72, hI.t73, hI.t74, hI.t75, hI.t76, hI.t77, hI.t78, hI.t79, hI.t80, hI.t81, hI.t82, hI.t83, hI.t84, hI.t85, hI.t86, hI.t87, hI.t88, hI.t89, hI.t90, hI.t91, hI.t92, hI.t93, hI.t94, hI.t95, hI.t96, hI.t97, hI.t98, hI.t99, hI.t100, hI.t101, hI.t102, hI.t103, hI.t104, hI.t105, hI.t106, hI.t107, hI.t108, hI.t109, hI.t110, hI.t111, hI.t112, hI.t113, hI.t114, hI.t115, hI.t116, hI.t117, hI.t118, hI.t119, hI.t120, hI.t121, hI.a1, hI.a3, hI.a4, hI.a25, hI.bw, hI.r9, hI.x0, hI.x1⟩⟩
  · rintro L a wx ⟨v, rfl, hI⟩ hL hdep hcl K hK
    have e11 := hI.t11 (hdep 11 (by decide))
    rw [e11]
    go_simp
    exact hK _ _ ⟨(upd (upd v 101 (.bool true)) 102 (.bool true)), rfl, ⟨hI.t0, hI.t1, hI.t2, hI.t3, hI.t4, hI.t5, hI.t6, hI.t7, hI.t8, hI.t9, hI.t10, fun _ => rfl, fun _ => rfl, hI.t13, hI.t14, hI.t15, hI.t16, hI.t17, hI.t18, hI.t19, hI.t20, hI.t21, hI.t22, hI.t23, hI.t24, hI.t25, hI.t26, hI.t27, hI.t28, hI.t29, hI.t30, hI.t31, hI.t32, hI.t33, hI.t34, hI.t35, hI.t36, hI.t37, hI.t38, hI.t39, hI.t40, hI.t41, hI.t42, hI.t43, hI.t44, hI.t45, hI.t46, hI.t47, hI.t48, hI.t49, hI.t50, hI.t51, hI.t52, hI.t53, hI.t54, hI.t55, hI.t56, hI.t57, hI.t58, hI.t59, hI.t60, hI.t61, hI.t62, hI.t63, hI.t64, hI.t65, hI.t66, hI.t67, hI.t68, hI.t69, hI.t70, hI.t71, hI.t72, hI.t73, hI.t74, hI.t75, hI.t76, hI.t77, hI.t78, hI.t79, hI.t80, hI.t81, hI.t82, hI.t83, hI.t84, hI.t85, hI.t86, hI.t87, hI.t88, hI.t89, hI.t90, hI.t91, hI.t92, hI.t93, hI.t94, hI.t95, hI.t96, hI.t97, hI.t98, hI.t99, hI.t100, hI.t101, hI.t102, hI.t103, hI.t104, hI.t105, hI.t106, hI.t107, hI.t108, hI.t109, hI.t110, hI.t111, hI.t112, hI.t113, hI.t114, hI.t115, hI.t116, hI.t117, hI.t118, hI.t119, hI.t120, hI.t121, hI.a1, hI.a3, hI.a4, hI.a25, hI.bw, hI.r9, hI.x0, hI.x1⟩⟩
  · rintro L a wx ⟨v, rfl, hI⟩ hL hdep hcl K hK
    have e12 := hI.t12 (hdep 12 (by decide))
    rw [e12]
    refine (if_pos rfl).mpr ?_
    go_simp
    exact hK _ _ ⟨(upd (upd v 102 (.bool true)) 103 (.int .i64 0)), rfl, ⟨hI.t0, hI.t1, hI.t2, hI.t3, hI.t4, hI.t5, hI.t6, hI.t7, hI.t8, hI.t9, hI.t10, hI.t11, fun _ => rfl, fun _ => rfl, hI.t14, hI.t15, hI.t16, hI.t17, hI.t18, hI.t19, hI.t20, hI.t21, hI.t22, hI.t23, hI.t24, hI.t25, hI.t26, hI.t27, hI.t28, hI.t29, hI.t30, hI.t31, hI.t32, hI.t33, hI.t34, hI.t35, hI.t36, hI.t37, hI.t38, hI.t39, hI.t40, hI.t41, hI.t42, hI.t43, hI.t44, hI.t45, hI.t46, hI.t47, hI.t48, hI.t49, hI.t50, hI.t51, hI.t52, hI.t53, hI.t54, hI.t55, hI.t56, hI.t57, hI.t58, hI.t59, hI.t60, hI.t61, hI.t62, hI.t63, hI.t64, hI.t65, hI.t66, hI.t67, hI.t68, hI.t69, hI.t70, hI.t71, hI.t72, hI.t73, hI.t74, hI.t75, hI.t76, hI.t77, hI.t78, hI.t79, hI.t80, hI.t81, hI.t82, hI.t83, hI.t84, hI.t85, hI.t86, hI.t87, hI.t88, hI.t89, hI.t90, hI.t91, hI.t92, hI.t93, hI.t94, hI.t95, hI.t96, hI.t97, hI.t98, hI.t99, hI.t100, hI.t101, hI.t102, hI.t103, hI.t104, hI.t105, hI.t106, hI.t107, hI.t108, hI.t109, hI.t110, hI.t111, hI.t112, hI.t113, hI.t114, hI.t115, hI.t116, hI.t117, hI.t118, hI.t119, hI.t120, hI.t121, hI.a1, hI.a3, hI.a4, hI.a25, hI.bw, hI.r9, hI.x0, hI.x1⟩⟩
  · rintro L a wx ⟨v, rfl, hI⟩ hL hdep hcl K hK
    have e12 := hI.t12 (hdep 12 (by decide))
    have e13 := hI.t13 (hdep 13 (by decide))
    rw [e12, e13]
    refine (if_pos rfl).mpr ?_
    go_simp
    exact hK _ _ ⟨(upd (upd (upd v 102 (.bool true)) 103 (.int .i64 0)) 104 (.bool true)), rfl, ⟨hI.t0, hI.t1, hI.t2, hI.t3, hI.t4, hI.t5, hI.t6, hI.t7, hI.t8, hI.t9, hI.t10, hI.t11, fun _ => rfl, fun _ => rfl, fun _ => rfl, hI.t15, hI.t16, hI.t17, hI.t18, hI.t19, hI.t20, hI.t21, hI.t22, hI.t23, hI.t24, hI.t25, hI.t26, hI.t27, hI.t28, hI.t29, hI.t30, hI.t31, hI.t32, hI.t33, hI.t34, hI.t35, hI.t36, hI.t37, hI.t38, hI.t39, hI.t40, hI.t41, hI.t42, hI.t43, hI.t44, hI.t45, hI.t46, hI.t47, hI.t48, hI.t49, hI.t50, hI.t51, hI.t52, hI.t53, hI.t54, hI.t55, hI.t56, hI.t57, hI.t58, hI.t59, hI.t60, hI.t61, hI.t62, hI.t63, hI.t64, hI.t65, hI.t66, hI.t67, hI.t68, hI.t69, hI.t70, hI.t71, hI.t72, hI.t73, hI.t74, hI.t75, hI.t76, hI.t77, hI.t78, hI.t79, hI.t80, hI.t81, hI.t82, hI.t83, hI.t84, hI.t85, hI.t86, hI.t87, hI.t88, hI.t89, hI.t90, hI.t91, hI.t92, hI.t93, hI.t94, hI.t95, hI.t96, hI.t97, hI.t98, hI.t99, hI.t100, hI.t101, hI.t102, hI.t103, hI.t104, hI.t105, hI.t106, hI.t107, hI.t108, hI.t109, hI.t110, hI.t111, hI.t112, hI.t113, hI.t114, hI.t115, hI.t116, hI.t117, hI.t118, hI.t119, hI.t120, hI.t121, hI.a1, hI.a3, hI.a4, hI.a25, hI.bw, hI.r9, hI.x0, hI.x1⟩⟩
  · rintro L a wx ⟨v, rfl, hI⟩ hL hdep hcl K hK
    have e12 := hI.t12 (hdep 12 (by decide))
    have e14 := hI.t14 (hdep 14 (by decide))
    rw [e12, e14]
    go_simp
    exact hK _ _ ⟨(upd (upd (upd v 102 (.bool true)) 104 (.bool true)) 105 (.bool true)), rfl, ⟨hI.t0, hI.t1, hI.t2, hI.t3, hI.t4, hI.t5, hI.t6, hI.t7, hI.t8, hI.t9, hI.t10, hI.t11, fun _ => rfl, hI.t13, fun _ => rfl, fun _ => rfl, hI.t16, hI.t17, hI.t18, hI.t19, hI.t20, hI.t21, hI.t22, hI.t23, hI.t24, hI.t25, hI.t26, hI.t27, hI.t28, hI.t29, hI.t30, hI.t31, hI.t32, hI.t33, hI.t34, hI.t35, hI.t36, hI.t37, hI.t38, hI.t39, hI.t40, hI.t41, hI.t42, hI.t43, hI.t44, hI.t45, hI.t46, hI.t47, hI.t48, hI.t49, hI.t50, hI.t51, hI.t52, hI.t53, hI.t54, hI.t55, hI.t56, hI.t57, hI.t58, hI.t59, hI.t60, hI.t61, hI.t62, hI.t63, hI.t64, hI.t65, hI.t66, hI.t67, hI.t68, hI.t69, hI.t70, hI.t71, hI.t72, hI.t73, hI.t74, hI.t75, hI.t76, hI.t77, hI.t78, hI.t79, hI.t80, hI.t81, hI.t82, hI.t83, hI.t84, hI.t85, hI.t86, hI.t87, hI.t88, hI.t89, hI.t90, hI.t91, hI.t92, hI.t93, hI.t94, hI.t95, hI.t96, hI.t97, hI.t98, hI.t99, hI.t100, hI.t101, hI.t102, hI.t103, hI.t104, hI.t105, hI.t106, hI.t107, hI.t108, hI.t109, hI.t110, hI.t111, hI.t112, hI.t113, hI.t114, hI.t115, hI.t116, hI.t117, hI.t118, hI.t119, hI.t120, hI.t121, hI.a1, hI.a3, hI.a4, hI.a25, hI.bw, hI.r9, hI.x0, hI.x1⟩⟩
  · rintro L a wx ⟨v, rfl, hI⟩ hL hdep hcl K hK
    have e15 := hI.t15 (hdep 15 (by decide))
    rw [e15]
    go_simp
    exact hK _ _ ⟨(upd (upd v 105 (.bool true)) 106 (.bool true)), rfl, ⟨hI.t0, hI.t1, hI.t2, hI.t3, hI.t4, hI.t5, hI.t6, hI.t7, hI.t8, hI.t9, hI.t10, hI.t11, hI.t12, hI.t13, hI.t14, fun _ => rfl, fun _ => rfl, hI.t17, hI.t18, hI.t19, hI.t20, hI.t21, hI.t22, hI.t23, hI.t24, hI.t25, hI.t26, hI.t27, hI.t28, hI.t29, hI.t30, hI.t31, hI.t32, hI.t33, hI.t34, hI.t35, hI.t36, hI.t37, hI.t38, hI.t39, hI.t40, hI.t41, hI.t42, hI.t43, hI.t44, hI.t45, hI.t46, hI.t47, hI.t48, hI.t49, hI.t50, hI.t51, hI.t52, hI.t53, hI.t54, hI.t55, hI.t56, hI.t57, hI.t58, hI.t59, hI.t60, hI.t61, hI.t62, hI.t63, hI.t64, hI.t65, hI.t66, hI.t67, hI.t68, hI.t69, hI.t70, hI.t71, hI.t72, hI.t73, hI.t74, hI.t75, hI.t76, hI.t77, hI.t78, hI.t79, hI.t80, hI.t81, hI.t82, hI.t83, hI.t84, hI.t85, hI.t86, hI.t87, hI.t88, hI.t89, hI.t90, hI.t91, hI.t92, hI.t93, hI.t94, hI.t95, hI.t96, hI.t97, hI.t98, hI.t99, hI.t100, hI.t101, hI.t102, hI.t103, hI.t104, hI.t105, hI.t106, hI.t107, hI.t108, hI.t109, hI.t110, hI.t111, hI.t112, hI.t113, hI.t114, hI.t115, hI.t116, hI.t117, hI.t118, hI.t119, hI.t120, hI.t121, hI.a1, hI.a3, hI.a4, hI.a25, hI.bw, hI.r9, hI.x0, hI.x1⟩⟩
  · rintro L a wx ⟨v, rfl, hI⟩ hL hdep hcl K hK
    have e16 := hI.t16 (hdep 16 (by decide))
    rw [e16]
    refine (if_pos rfl).mpr ?_
    go_simp
    exact hK _ _ ⟨(upd (upd v 106 (.bool true)) 107 (.pointer (some ⟨g3, 1, none⟩))), rfl, ⟨hI.t0, hI.t1, hI.t2, hI.t3, hI.t4, hI.t5, hI.t6, hI.t7, hI.t8, hI.t9, hI.t10, hI.t11, hI.t12, hI.t13, hI.t14, hI.t15, fun _ => rfl, fun _ => rfl, hI.t18, hI.t19, hI.t20, hI.t21, hI.t22, hI.t23, hI.t24, hI.t25, hI.t26, hI.t27, hI.t28, hI.t29, hI.t30, hI.t31, hI.t32, hI.t33, hI.t34, hI.t35, hI.t36, hI.t37, hI.t38, hI.t39, hI.t40, hI.t41, hI.t42, hI.t43, hI.t44, hI.t45, hI.t46, hI.t47, hI.t48, hI.t49, hI.t50, hI.t51, hI.t52, hI.t53, hI.t54, hI.t55, hI.t56, hI.t57, hI.t58, hI.t59, hI.t60, hI.t61, hI.t62, hI.t63, hI.t64, hI.t65, hI.t66, hI.t67, hI.t68, hI.t69, hI.t70, hI.t71, hI.t72, hI.t73, hI.t74, hI.t75, hI.t76, hI.t77, hI.t78, hI.t79, hI.t80, hI.t81, hI.t82, hI.t83, hI.t84, hI.t85, hI.t86, hI.t87, hI.t88, hI.t89, hI.t90, hI.t91, hI.t92, hI.t93, hI.t94, hI.t95, hI.t96, hI.t97, hI.t98, hI.t99, hI.t100, hI.t101, hI.t102, hI.t103, hI.t104, hI.t105, hI.t106, hI.t107, hI.t108, hI.t109, hI.t110, hI.t111, hI.t112, hI.t113, hI.t114, hI.t115, hI.t116, hI.t117, hI.t118, hI.t119, hI.t120, hI.t121, hI.a1, hI.a3, hI.a4, hI.a25, hI.bw, hI.r9, hI.x0, hI.x1⟩⟩
  · rintro L a wx ⟨v, rfl, hI⟩ hL hdep hcl K hK
    have e16 := hI.t16 (hdep 16 (by decide))
    have e17 := hI.t17 (hdep 17 (by decide))
    rw [e16, e17]
    refine (if_pos rfl).mpr ?_
    obtain ⟨c0, c1⟩ := hI.a3.two
    go_simp
    exact hK _ _ ⟨(upd (upd (upd v 106 (.bool true)) 107 (.pointer (some ⟨g3, 1, none⟩))) 108 (.int .u64 10)), rfl, ⟨hI.t0, hI.t1, hI.t2, hI.t3, hI.t4, hI.t5, hI.t6, hI.t7, hI.t8, hI.t9, hI.t10, hI.t11, hI.t12, hI.t13, hI.t14, hI.t15, fun _ => rfl, fun _ => rfl, fun _ => rfl, hI.t19, hI.t20, hI.t21, hI.t22, hI.t23, hI.t24, hI.t25, hI.t26, hI.t27, hI.t28, hI.t29, hI.t30, hI.t31, hI.t32, hI.t33, hI.t34, hI.t35, hI.t36, hI.t37, hI.t38, hI.t39, hI.t40, hI.t41, hI.t42, hI.t43, hI.t44, hI.t45, hI.t46, hI.t47, hI.t48, hI.t49, hI.t50, hI.t51, hI.t52, hI.t53, hI.t54, hI.t55, hI.t56, hI.t57, hI.t58, hI.t59, hI.t60, hI.t61, hI.t62, hI.t63, hI.t64, hI.t65, hI.t66, hI.t67, hI.t68, hI.t69, hI.t70, hI.t71, hI.t72, hI.t73, hI.t74, hI.t75, hI.t76, hI.t77, hI.t78, hI.t79, hI.t80, hI.t81, hI.t82, hI.t83, hI.t84, hI.t85, hI.t86, hI.t87, hI.t88, hI.t89, hI.t90, hI.t91, hI.t92, hI.t93, hI.t94, hI.t95, hI.t96, hI.t97, hI.t98, hI.t99, hI.t100, hI.t101, hI.t102, hI.t103, hI.t104, hI.t105, hI.t106, hI.t107, hI.t108, hI.t109, hI.t110, hI.t111, hI.t112, hI.t113, hI.t114, hI.t115, hI.t116, hI.t117, hI.t118, hI.t119, hI.t120, hI.t121, hI.a1, hI.a3, hI.a4, hI.a25, hI.bw, hI.r9, hI.x0, hI.x1⟩⟩
  · rintro L a wx ⟨v, rfl, hI⟩ hL hdep hcl K hK
    have e16 := hI.t16 (hdep 16 (by decide))
    have e18 := hI.t18 (hdep 18 (by decide))
    rw [e16, e18]
    refine (if_pos rfl).mpr ?_
    go_simp
    exact hK _ _ ⟨(upd (upd (upd v 106 (.bool true)) 108 (.int .u64 10)) 109 (.bool true)), rfl, ⟨hI.t0, hI.t1, hI.t2, hI.t3, hI.t4, hI.t5, hI.t6, hI.t7, hI.t8, hI.t9, hI.t10, hI.t11, hI.t12, hI.t13, hI.t14, hI.t15, fun _ => rfl, hI.t17, fun _ => rfl, fun _ => rfl, hI.t20, hI.t21, hI.t22, hI.t23, hI.t24, hI.t25, hI.t26, hI.t27, hI.t28, hI.t29, hI.t30, hI.t31, hI.t32, hI.t33, hI.t34, hI.t35, hI.t36, hI.t37, hI.t38, hI.t39, hI.t40, hI.t41, hI.t42, hI.t43, hI.t44, hI.t45, hI.t46, hI.t47, hI.t48, hI.t49, hI.t50, hI.t51, hI.t52, hI.t53, hI.t54, hI.t55, hI.t56, hI.t57, hI.t58, hI.t59, hI.t60, hI.t61, hI.t62, hI.t63, hI.t64, hI.t65, hI.t66, hI.t67, hI.t68, hI.t69, hI.t70, hI.t71, hI.t72, hI.t73, hI.t74, hI.t75, hI.t76, hI.t77, hI.t78, hI.t79, hI.t80, hI.t81, hI.t82, hI.t83, hI.t84, hI.t85, hI.t86, hI.t87, hI.t88, hI.t89, hI.t90, hI.t91, hI.t92, hI.t93, hI.t94, hI.t95, hI.t96, hI.t97, hI.t98, hI.t99, hI.t100, hI.t101, hI.t102, hI.t103, hI.t104, hI.t105, hI.t106, hI.t107, hI.t108, hI.t109, hI.t110, hI.t111, hI.t112, hI.t113, hI.t114, hI.t115, hI.t116, hI.t117, hI.t118, hI.t119, hI.t120, hI.t121, hI.a1, hI.a3, hI.a4, hI.a25, hI.bw, hI.r9, hI.x0, hI.x1⟩⟩
  · rintro L a wx ⟨v, rfl, hI⟩ hL hdep hcl K hK
    have e16 := hI.t16 (hdep 16 (by decide))
    have e19 := hI.t19 (hdep 19 (by decide))
    rw [e16, e19]
    go_simp
    exact hK _ _ ⟨(upd (upd (upd v 106 (.bool true)) 109 (.bool true)) 110 (.bool true)), rfl, ⟨hI.t0, hI.t1, hI.t2, hI.t3, hI.t4, hI.t5, hI.t6, hI.t7, hI.t8, hI.t9, hI.t10, hI.t11, hI.t12, hI.t13, hI.t14, hI.t15, fun _ => rfl, hI.t17, hI.t18, fun _ => rfl, fun _ => rfl, hI.t21, hI.t22, hI.t23, hI.t24, hI.t25, hI.t26, hI.t27, hI.t28, hI.t29, hI.t30, hI.t31, hI.t32, hI.t33, hI.t34, hI.t35, hI.t36, hI.t37, hI.t38, hI.t39, hI.t40, hI.t41, hI.t42, hI.t43, hI.t44, hI.t45, hI.t46, hI.t47, hI.t48, hI.t49, hI.t50, hI.t51, hI.t52, hI.t53, hI.t54, hI.t55, hI.t56, hI.t57, hI.t58, hI.t59, hI.t60, hI.t61, hI.t62, hI.t63, hI.t64, hI.t65, hI.t66, hI.t67, hI.t68, hI.t69, hI.t70, hI.t71, hI.t72, hI.t73, hI.t74, hI.t75, hI.t76, hI.t77, hI.t78, hI.t79, hI.t80, hI.t81, hI.t82, hI.t83, hI.t84, hI.t85, hI.t86, hI.t87, hI.t88, hI.t89, hI.t90, hI.t91, hI.t92, hI.t93, hI.t94, hI.t95, hI.t96, hI.t97, hI.t98, hI.t99, hI.t100, hI.t101, hI.t102, hI.t103, hI.t104, hI.t105, hI.t106, hI.t107, hI.t108, hI.t109, hI.t110, hI.t111, hI.t112, hI.t113, hI.t114, hI.t115, hI.t116, hI.t117, hI.t118, hI.t119, hI.t120, hI.t121, hI.a1, hI.a3, hI.a4, hI.a25, hI.bw, hI.r9, hI.x0, hI.x1⟩⟩
  · rintro L a wx ⟨v, rfl, hI⟩ hL hdep hcl K hK
    have e20 := hI.t20 (hdep 20 (by decide))
    rw [e20]
    go_simp
    exact hK _ _ ⟨(upd (upd v 110 (.bool true)) 111 (.bool true)), rfl, ⟨hI.t0, hI.t1, hI.t2, hI.t3, hI.t4, hI.t5, hI.t6, hI.t7, hI.t8, hI.t9, hI.t10, hI.t11, hI.t12, hI.t13, hI.t14, hI.t15, hI.t16, hI.t17, hI.t18, hI.t19, fun _ => rfl, fun _ => rfl, hI.t22, hI.t23, hI.t24, hI.t25, hI.t26, hI.t27, hI.t28, hI.t29, hI.t30, hI.t31, hI.t32, hI.t33, hI.t34, hI.t35, hI.t36, hI.t37, hI.t38, hI.t39, hI.t40, hI.t41, hI.t42, hI.t43, hI.t44, hI.t45, hI.t46, hI.t47, hI.t48, hI.t49, hI.t50, hI.t51, hI.t52, hI.t53, hI.t54, hI.t55, hI.t56, hI.t57, hI.t58, hI.t59, hI.t60, hI.t61, hI.t62, hI.t63, hI.t64, hI.t65, hI.t66, hI.t67, hI.t68, hI.t69, hI.t70, hI.t71, hI.t72, hI.t73, hI.t74, hI.t75, hI.t76, hI.t77, hI.t78, hI.t79, hI.t80, hI.t81, hI.t82, hI.t83, hI.t84, hI.t85, hI.t86, hI.t87, hI.t88, hI.t89, hI.t90, hI.t91, hI.t92, hI.t93, hI.t94, hI.t95, hI.t96, hI.t97, hI.t98, hI.t99, hI.t100, hI.t101, hI.t102, hI.t103, hI.t104, hI.t105, hI.t106, hI.t107, hI.t108, hI.t109, hI.t110, hI.t111, hI.t112, hI.t113, hI.t114, hI.t115, hI.t116, hI.t117, hI.t118, hI.t119, hI.t120, hI.t121, hI.a1, hI.a3, hI.a4, hI.a25, hI.bw, hI.r9, hI.x0, hI.x1⟩⟩
  · rintro L a wx ⟨v, rfl, hI⟩ hL hdep hcl K hK
    have e21 := hI.t21 (hdep 21 (by decide))
    rw [e21]
    refine (if_pos rfl).mpr ?_
    go_simp
    exact hK _ _ ⟨(upd (upd v 111 (.bool true)) 112 (.pointer (some ⟨(g3 + 1), 1, none⟩))), rfl, ⟨hI.t0, hI.t1, hI.t2, hI.t3, hI.t4, hI.t5, hI.t6, hI.t7, hI.t8, hI.t9, hI.t10, hI.t11, hI.t12, hI.t13, hI.t14, hI.t15, hI.t16, hI.t17, hI.t18, hI.t19, hI.t20, fun _ => rfl, fun _ => rfl, hI.t23, hI.t24, hI.t25, hI.t26, hI.t27, hI.t28, hI.t29, hI.t30, hI.t31, hI.t32, hI.t33, hI.t34, hI.t35, hI.t36, hI.t37, hI.t38, hI.t39, hI.t40, hI.t41, hI.t42, hI.t43, hI.t44, hI.t45, hI.t46, hI.t47, hI.t48, hI.t49, hI.t50, hI.t51, hI.t52, hI.t53, hI.t54, hI.t55, hI.t56, hI.t57, hI.t58, hI.t59, hI.t60, hI.t61, hI.t62, hI.t63, hI.t64, hI.t65, hI.t66, hI.t67, hI.t68, hI.t69, hI.t70, hI.t71, hI.t72, hI.t73, hI.t74, hI.t75, hI.t76, hI.t77, hI.t78, hI.t79, hI.t80, hI.t81, hI.t82, hI.t83, hI.t84, hI.t85, hI.t86, hI.t87, hI.t88, hI.t89, hI.t90, hI.t91, hI.t92, hI.t93, hI.t94, hI.t95, hI.t96, hI.t97, hI.t98, hI.t99, hI.t100, hI.t101, hI.t102, hI.t103, hI.t104, hI.t105, hI.t106, hI.t107, hI.t108, hI.t109, hI.t110, hI.t111, hI.t112, hI.t113, hI.t114, hI.t115, hI.t116, hI.t117, hI.t118, hI.t119, hI.t120, hI.t121, hI.a1, hI.a3, hI.a4, hI.a25, hI.bw, hI.r9, hI.x0, hI.x1⟩⟩
  · rintro L a wx ⟨v, rfl, hI⟩ hL hdep hcl K hK
    have e21 := hI.t21 (hdep 21 (by decide))
    have e22 := hI.t22 (hdep 22 (by decide))
    rw [e21, e22]
    refine (if_pos rfl).mpr ?_
    obtain ⟨c0, c1⟩ := hI.a4.two
    go_simp
    exact hK _ _ ⟨(upd (upd (upd v 111 (.bool true)) 112 (.pointer (some ⟨(g3 + 1), 1, none⟩))) 113 (.int .u64 11)), rfl, ⟨hI.t0, hI.t1, hI.t2, hI.t3, hI.t4, hI.t5, hI.t6, hI.t7, hI.t8, hI.t9, hI.t10, hI.t11, hI.t12, hI.t13, hI.t14, hI.t15, hI.t16, hI.t17, hI.t18, hI.t19, hI.t20, fun _ => rfl, fun _ => rfl, fun _ => rfl, hI.t24, hI.t25, hI.t26, hI.t27, hI.t28, hI.t29, hI.t30, hI.t31, hI.t32, hI.t33, hI.t34, hI.t35, hI.t36, hI.t37, hI.t38, hI.t39, hI.t40, hI.t41, hI.t42, hI.t43, hI.t44, hI.t45, hI.t46, hI.t47, hI.t48, hI.t49, hI.t50, hI.t51, hI.t52, hI.t53, hI.t54, hI.t55, hI.t56, hI.t57, hI.t58, hI.t59, hI.t60, hI.t61, hI.t62, hI.t63, hI.t64, hI.t65, hI.t66, hI.t67, hI.t68, hI.t69, hI.t70, hI.t71, hI.t72, hI.t73, hI.t74, hI.t75, hI.t76, hI.t77, hI.t78, hI.t79, hI.t80, hI.t81, hI.t82, hI.t83, hI.t84, hI.t85, hI.t86, hI.t87, hI.t88, hI.t89, hI.t90, hI.t91, hI.t92, hI.t93, hI.t94, hI.t95, hI.t96, hI.t97, hI.t98, hI.t99, hI.t100, hI.t101, hI.t102, hI.t103, hI.t104, hI.t105, hI.t106, hI.t107, hI.t108, hI.t109, hI.t110, hI.t111, hI.t112, hI.t113, hI.t114, hI.t115, hI.t116, hI.t117, hI.t118, hI.t119, hI.t120, hI.t121, hI.a1, hI.a3, hI.a4, hI.a25, hI.bw, hI.r9, hI.x0, hI.x1⟩⟩
  · rintro L a wx ⟨v, rfl, hI⟩ hL hdep hcl K hK
    have e21 := hI.t21 (hdep 21 (by decide))
    have e23 := hI.t23 (hdep 23 (by decide))
    rw [e21, e23]
    refine (if_pos rfl).mpr ?_
    go_simp
    exact hK _ _ ⟨(upd (upd (upd v 111 (.bool true)) 113 (.int .u64 11)) 114 (.bool true)), rfl, ⟨hI.t0, hI.t1, hI.t2, hI.t3, hI.t4, hI.t5, hI.t6, hI.t7, hI.t8, hI.t9, hI.t10, hI.t11, hI.t12, hI.t13, hI.t14, hI.t15, hI.t16, hI.t17, hI.t18, hI.t19, hI.t20, fun _ => rfl, hI.t22, fun _ => rfl, fun _ => rfl, hI.t25, hI.t26, hI.t27, hI.t28, hI.t29, hI.t30, hI.t31, hI.t32, hI.t33, hI.t34, hI.t35, hI.t36, hI.t37, hI.t38, hI.t39, hI.t40, hI.t41, hI.t42, hI.t43, hI.t44, hI.t45, hI.t46, hI.t47, hI.t48, hI.t49, hI.t50, hI.t51, hI.t52, hI.t53, hI.t54, hI.t55, hI.t56, hI.t57, hI.t58, hI.t59, hI.t60, hI.t61, hI.t62, hI.t63, hI.t64, hI.t65, hI.t66, hI.t67, hI.t68, hI.t69, hI.t70, hI.t71, hI.t72, hI.t73, hI.t74, hI.t75, hI.t76, hI.t77, hI.t78, hI.t79, hI.t80, hI.t81, hI.t82, hI.t83, hI.t84, hI.t85, hI.t86, hI.t87, hI.t88, hI.t89, hI.t90, hI.t91, hI.t92, hI.t93, hI.t94, hI.t95, hI.t96, hI.t97, hI.t98, hI.t99, hI.t100, hI.t101, hI.t102, hI.t103, hI.t104, hI.t105, hI.t106, hI.t107, hI.t108, hI.t109, hI.t110, hI.t111, hI.t112, hI.t113, hI.t114, hI.t115, hI.t116, hI.t117, hI.t118, hI.t119, hI.t120, hI.t121, hI.a1, hI.a3, hI.a4, hI.a25, hI.bw, hI.r9, hI.x0, hI.x1⟩⟩
  · rintro L a wx ⟨v, rfl, hI⟩ hL hdep hcl K hK
    have e21 := hI.t21 (hdep 21 (by decide))
    have e24 := hI.t24 (hdep 24 (by decide))
    rw [e21, e24]
    go_simp
    exact hK _ _ ⟨(upd (upd (upd v 111 (.bool true)) 114 (.bool true)) 115 (.bool true)), rfl, ⟨hI.t0, hI.t1, hI.t2, hI.t3, hI.t4, hI.t5, hI.t6, hI.t7, hI.t8, hI.t9, hI.t10, hI.t11, hI.t12, hI.t13, hI.t14, hI.t15, hI.t16, hI.t17, hI.t18, hI.t19, hI.t20, fun _ => rfl, hI.t22, hI.t23, fun _ => rfl, fun _ => rfl, hI.t26, hI.t27, hI.t28, hI.t29, hI.t30, hI.t31, hI.t32, hI.t33, hI.t34, hI.t35, hI.t36, hI.t37, hI.t38, hI.t39, hI.t40, hI.t41, hI.t42, hI.t43, hI.t44, hI.t45, hI.t46, hI.t47, hI.t48, hI.t49, hI.t50, hI.t51, hI.t52, hI.t53, hI.t54, hI.t55, hI.t56, hI.t57, hI.t58, hI.t59, hI.t60, hI.t61, hI.t62, hI.t63, hI.t64, hI.t65, hI.t66, hI.t67, hI.t68, hI.t69, hI.t70, hI.t71, hI.t72, hI.t73, hI.t74, hI.t75, hI.t76, hI.t77, hI.t78, hI.t79, hI.t80, hI.t81, hI.t82, hI.t83, hI.t84, hI.t85, hI.t86, hI.t87, hI.t88, hI.t89, hI.t90, hI.t91, hI.t92, hI.t93, hI.t94, hI.t95, hI.t96, hI.t97, hI.t98, hI.t99, hI.t100, hI.t101, hI.t102, hI.t103, hI.t104, hI.t105, hI.t106, hI.t107, hI.t108, hI.t109, hI.t110, hI.t111, hI.t112, hI.t113, hI.t114, hI.t115, hI.t116, hI.t117, hI.t118, hI.t119, hI.t120, hI.t121, hI.a1, hI.a3, hI.a4, hI.a25, hI.bw, hI.r9, hI.x0, hI.x1⟩⟩
  · rintro L a wx ⟨v, rfl, hI⟩ hL hdep hcl K hK
    have e25 := hI.t25 (hdep 25 (by decide))
    rw [e25]
    go_simp
    exact hK _ _ ⟨(upd (upd v 115 (.bool true)) 116 (.bool true)), rfl, ⟨hI.t0, hI.t1, hI.t2, hI.t3, hI.t4, hI.t5, hI.t6, hI.t7, hI.t8, hI.t9, hI.t10, hI.t11, hI.t12, hI.t13, hI.t14, hI.t15, hI.t16, hI.t17, hI.t18, hI.t19, hI.t20, hI.t21, hI.t22, hI.t23, hI.t24, fun _ => rfl, fun _ => rfl, hI.t27, hI.t28, hI.t29, hI.t30, hI.t31, hI.t32, hI.t33, hI.t34, hI.t35, hI.t36, hI.t37, hI.t38, hI.t39, hI.t40, hI.t41, hI.t42, hI.t43, hI.t44, hI.t45, hI.t46, hI.t47, hI.t48, hI.t49, hI.t50, hI.t51, hI.t52, hI.t53, hI.t54, hI.t55, hI.t56, hI.t57, hI.t58, hI.t59, hI.t60, hI.t61, hI.t62, hI.t63, hI.t64, hI.t65, hI.t66, hI.t67, hI.t68, hI.t69, hI.t70, hI.t71, hI.t72, hI.t73, hI.t74, hI.t75, hI.t76, hI.t77, hI.t78, hI.t79, hI.t80, hI.t81, hI.t82, hI.t83, hI.t84, hI.t85, hI.t86, hI.t87, hI.t88, hI.t89, hI.t90, hI.t91, hI.t92, hI.t93, hI.t94, hI.t95, hI.t96, hI.t97, hI.t98, hI.t99, hI.t100, hI.t101, hI.t102, hI.t103, hI.t104, hI.t105, hI.t106, hI.t107, hI.t108, hI.t109, hI.t110, hI.t111, hI.t112, hI.t113, hI.t114, hI.t115, hI.t116, hI.t117, hI.t118, hI.t119, hI.t120, hI.t121, hI.a1, hI.a3, hI.a4, hI.a25, hI.bw, hI.r9, hI.x0, hI.x1⟩⟩
  · rintro L a wx ⟨v, rfl, hI⟩ hL hdep hcl K hK
    have e26 := hI.t26 (hdep 26 (by decide))
    rw [e26]
    refine (if_pos rfl).mpr ?_
    go_simp
    exact hK _ _ ⟨(upd (upd v 116 (.bool true)) 117 (.int .i64 1)), rfl, ⟨hI.t0, hI.t1, hI.t2, hI.t3, hI.t4, hI.t5, hI.t6, hI.t7, hI.t8, hI.t9, hI.t10, hI.t11, hI.t12, hI.t13, hI.t14, hI.t15, hI.t16, hI.t17, hI.t18, hI.t19, hI.t20, hI.t21, hI.t22, hI.t23, hI.t24, hI.t25, fun _ => rfl, fun _ => rfl, hI.t28, hI.t29, hI.t30, hI.t31, hI.t32, hI.t33, hI.t34, hI.t35, hI.t36, hI.t37, hI.t38, hI.t39, hI.t40, hI.t41, hI.t42, hI.t43, hI.t44, hI.t45, hI.t46, hI.t47, hI.t48, hI.t49, hI.t50, hI.t51, hI.t52, hI.t53, hI.t54, hI.t55, hI.t56, hI.t57, hI.t58, hI.t59, hI.t60, hI.t61, hI.t62, hI.t63, hI.t64, hI.t65, hI.t66, hI.t67, hI.t68, hI.t69, hI.t70, hI.t71, hI.t72, hI.t73, hI.t74, hI.t75, hI.t76, hI.t77, hI.t78, hI.t79, hI.t80, hI.t81, hI.t82, hI.t83, hI.t84, hI.t85, hI.t86, hI.t87, hI.t88, hI.t89, hI.t90, hI.t91, hI.t92, hI.t93, hI.t94, hI.t95, hI.t96, hI.t97, hI.t98, hI.t99, hI.t100, hI.t101, hI.t102, hI.t103, hI.t104, hI.t105, hI.t106, hI.t107, hI.t108, hI.t109, hI.t110, hI.t111, hI.t112, hI.t113, hI.t114, hI.t115, hI.t116, hI.t117, hI.t118, hI.t119, hI.t120, hI.t121, hI.a1, hI.a3, hI.a4, hI.a25, hI.bw, hI.r9, hI.x0, hI.x1⟩⟩
  · rintro L a wx ⟨v, rfl, hI⟩ hL hdep hcl K hK
    have e26 := hI.t26 (hdep 26 (by decide))
    have e27 := hI.t27 (hdep 27 (by decide))
    rw [e26, e27]
    refine (if_pos rfl).mpr ?_
    go_simp
    exact hK _ _ ⟨(upd (upd (upd v 116 (.bool true)) 117 (.int .i64 1)) 118 (.bool true)), rfl, ⟨hI.t0, hI.t1, hI.t2, hI.t3, hI.t4, hI.t5, hI.t6, hI.t7, hI.t8, hI.t9, hI.t10, hI.t11, hI.t12, hI.t13, hI.t14, hI.t15, hI.t16, hI.t17, hI.t18, hI.t19, hI.t20, hI.t21, hI.t22, hI.t23, hI.t24, hI.t25, fun _ => rfl, fun _ => rfl, fun _ => rfl, hI.t29, hI.t30, hI.t31, hI.t32, hI.t33, hI.t34, hI.t35, hI.t36, hI.t37, hI.t38, hI.t39, hI.t40, hI.t41, hI.t42, hI.t43, hI.t44, hI.t45, hI.t46, hI.t47, hI.t48, hI.t49, hI.t50, hI.t51, hI.t52, hI.t53, hI.t54, hI.t55, hI.t56, hI.t57, hI.t58, hI.t59, hI.t60, hI.t61, hI.t62, hI.t63, hI.t64, hI.t65, hI.t66, hI.t67, hI.t68, hI.t69, hI.t70, hI.t71, hI.t72, hI.t73, hI.t74, hI.t75, hI.t76, hI.t77, hI.t78, hI.t79, hI.t80, hI.t81, hI.t82, hI.t83, hI.t84, hI.t85, hI.t86, hI.t87, hI.t88, hI.t89, hI.t90, hI.t91, hI.t92, hI.t93, hI.t94, hI.t95, hI.t96, hI.t97, hI.t98, hI.t99, hI.t100, hI.t101, hI.t102, hI.t103, hI.t104, hI.t105, hI.t106, hI.t107, hI.t108, hI.t109, hI.t110, hI.t111, hI.t112, hI.t113, hI.t114, hI.t115, hI.t116, hI.t117, hI.t118, hI.t119, hI.t120, hI.t121, hI.a1, hI.a3, hI.a4, hI.a25, hI.bw, hI.r9, hI.x0, hI.x1⟩⟩
  · rintro L a wx ⟨v, rfl, hI⟩ hL hdep hcl K hK
    have e26 := hI.t26 (hdep 26 (by decide))
    have e28 := hI.t28 (hdep 28 (by decide))
    rw [e26, e28]
    go_simp
    exact hK _ _ ⟨(upd (upd (upd v 116 (.bool true)) 118 (.bool true)) 119 (.bool true)), rfl, ⟨hI.t0, hI.t1, hI.t2, hI.t3, hI.t4, hI.t5, hI.t6, hI.t7, hI.t8, hI.t9, hI.t10, hI.t11, hI.t12, hI.t13, hI.t14, hI.t15, hI.t16, hI.t17, hI.t18, hI.t19, hI.t20, hI.t21, hI.t22, hI.t23, hI.t24, hI.t25, fun _ => rfl, hI.t27, fun _ => rfl, fun _ => rfl, hI.t30, hI.t31, hI.t32, hI.t33, hI.t34, hI.t35, hI.t36, hI.t37, hI.t38, hI.t39, hI.t40, hI.t41, hI.t42, hI.t43, hI.t44, hI.t45, hI.t46, hI.t47, hI.t48, hI.t49, hI.t50, hI.t51, hI.t52, hI.t53, hI.t54, hI.t55, hI.t56, hI.t57, hI.t58, hI.t59, hI.t60, hI.t61, hI.t62, hI.t63, hI.t64, hI.t65, hI.t66, hI.t67, hI.t68, hI.t69, hI.t70, hI.t71, hI.t72, hI.t73, hI.t74, hI.t75, hI.t76, hI.t77, hI.t78, hI.t79, hI.t80, hI.t81, hI.t82, hI.t83, hI.t84, hI.t85, hI.t86, hI.t87, hI.t88, hI.t89, hI.t90, hI.t91, hI.t92, hI.t93, hI.t94, hI.t95, hI.t96, hI.t97, hI.t98, hI.t99, hI.t100, hI.t101, hI.t102, hI.t103, hI.t104, hI.t105, hI.t106, hI.t107, hI.t108, hI.t109, hI.t110, hI.t111, hI.t112, hI.t113, hI.t114, hI.t115, hI.t116, hI.t117, hI.t118, hI.t119, hI.t120, hI.t121, hI.a1, hI.a3, hI.a4, hI.a25, hI.bw, hI.r9, hI.x0, hI.x1⟩⟩
  · rintro L a wx ⟨v, rfl, hI⟩ hL hdep hcl K hK
    have e29 := hI.t29 (hdep 29 (by decide))
    rw [e29]
    go_simp
    exact hK _ _ ⟨(upd (upd v 119 (.bool true)) 120 (.bool true)), rfl, ⟨hI.t0, hI.t1, hI.t2, hI.t3, hI.t4, hI.t5, hI.t6, hI.t7, hI.t8, hI.t9, hI.t10, hI.t11, hI.t12, hI.t13, hI.t14, hI.t15, hI.t16, hI.t17, hI.t18, hI.t19, hI.t20, hI.t21, hI.t22, hI.t23, hI.t24, hI.t25, hI.t26, hI.t27, hI.t28, fun _ => rfl, fun _ => rfl, hI.t31, hI.t32, hI.t33, hI.t34, hI.t35, hI.t36, hI.t37, hI.t38, hI.t39, hI.t40, hI.t41, hI.t42, hI.t43, hI.t44, hI.t45, hI.t46, hI.t47, hI.t48, hI.t49, hI.t50, hI.t51, hI.t52, hI.t53, hI.t54, hI.t55, hI.t56, hI.t57, hI.t58, hI.t59, hI.t60, hI.t61, hI.t62, hI.t63, hI.t64, hI.t65, hI.t66, hI.t67, hI.t68, hI.t69, hI.t70, hI.t71, hI.t72, hI.t73, hI.t74, hI.t75, hI.t76, hI.t77, hI.t78, hI.t79, hI.t80, hI.t81, hI.t82, hI.t83, hI.t84, hI.t85, hI.t86, hI.t87, hI.t88, hI.t89, hI.t90, hI.t91, hI.t92, hI.t93, hI.t94, hI.t95, hI.t96, hI.t97, hI.t98, hI.t99, hI.t100, hI.t101, hI.t102, hI.t103, hI.t104, hI.t105, hI.t106, hI.t107, hI.t108, hI.t109, hI.t110, hI.t111, hI.t112, hI.t113, hI.t114, hI.t115, hI.t116, hI.t117, hI.t118, hI.t119, hI.t120, hI.t121, hI.a1, hI.a3, hI.a4, hI.a25, hI.bw, hI.r9, hI.x0, hI.x1⟩⟩
  · rintro L a wx ⟨v, rfl, hI⟩ hL hdep hcl K hK
    have e30 := hI.t30 (hdep 30 (by decide))
    rw [e30]
    refine (if_pos rfl).mpr ?_
    go_simp
    exact hK _ _ ⟨(upd (upd v 120 (.bool true)) 121 (.int .i64 0)), rfl, ⟨hI.t0, hI.t1, hI.t2, hI.t3, hI.t4, hI.t5, hI.t6, hI.t7, hI.t8, hI.t9, hI.t10, hI.t11, hI.t12, hI.t13, hI.t14, hI.t15, hI.t16, hI.t17, hI.t18, hI.t19, hI.t20, hI.t21, hI.t22, hI.t23, hI.t24, hI.t25, hI.t26, hI.t27, hI.t28, hI.t29, fun _ => rfl, fun _ => rfl, hI.t32, hI.t33, hI.t34, hI.t35, hI.t36, hI.t37, hI.t38, hI.t39, hI.t40, hI.t41, hI.t42, hI.t43, hI.t44, hI.t45, hI.t46, hI.t47, hI.t48, hI.t49, hI.t50, hI.t51, hI.t52, hI.t53, hI.t54, hI.t55, hI.t56, hI.t57, hI.t58, hI.t59, hI.t60, hI.t61, hI.t62, hI.t63, hI.t64, hI.t65, hI.t66, hI.t67, hI.t68, hI.t69, hI.t70, hI.t71, hI.t72, hI.t73, hI.t74, hI.t75, hI.t76, hI.t77, hI.t78, hI.t79, hI.t80, hI.t81, hI.t82, hI.t83, hI.t84, hI.t85, hI.t86, hI.t87, hI.t88, hI.t89, hI.t90, hI.t91, hI.t92, hI.t93, hI.t94, hI.t95, hI.t96, hI.t97, hI.t98, hI.t99, hI.t100, hI.t101, hI.t102, hI.t103, hI.t104, hI.t105, hI.t106, hI.t107, hI.t108, hI.t109, hI.t110, hI.t111, hI.t112, hI.t113, hI.t114, hI.t115, hI.t116, hI.t117, hI.t118, hI.t119, hI.t120, hI.t121, hI.a1, hI.a3, hI.a4, hI.a25, hI.bw, hI.r9, hI.x0, hI.x1⟩⟩
  · rintro L a wx ⟨v, rfl, hI⟩ hL hdep hcl K hK
    have e30 := hI.t30 (hdep 30 (by decide))
    have e31 := hI.t31 (hdep 31 (by decide))
    rw [e30, e31]
    refine (if_pos rfl).mpr ?_
    go_simp
    exact hK _ _ ⟨(upd (upd (upd v 120 (.bool true)) 121 (.int .i64 0)) 122 (.bool true)), rfl, ⟨hI.t0, hI.t1, hI.t2, hI.t3, hI.t4, hI.t5, hI.t6, hI.t7, hI.t8, hI.t9, hI.t10, hI.t11, hI.t12, hI.t13, hI.t14, hI.t15, hI.t16, hI.t17, hI.t18, hI.t19, hI.t20, hI.t21, hI.t22, hI.t23, hI.t24, hI.t25, hI.t26, hI.t27, hI.t28, hI.t29, fun _ => rfl, fun _ => rfl, fun _ => rfl, hI.t33, hI.t34, hI.t35, hI.t36, hI.t37, hI.t38, hI.t39, hI.t40, hI.t41, hI.t42, hI.t43, hI.t44, hI.t45, hI.t46, hI.t47, hI.t48, hI.t49, hI.t50, hI.t51, hI.t52, hI.t53, hI.t54, hI.t55, hI.t56, hI.t57, hI.t58, hI.t59, hI.t60, hI.t61, hI.t62, hI.t63, hI.t64, hI.t65, hI.t66, hI.t67, hI.t68, hI.t69, hI.t70, hI.t71, hI.t72, hI.t73, hI.t74, hI.t75, hI.t76, hI.t77, hI.t78, hI.t79, hI.t80, hI.t81, hI.t82, hI.t83, hI.t84, hI.t85, hI.t86, hI.t87, hI.t88, hI.t89, hI.t90, hI.t91, hI.t92, hI.t93, hI.t94, hI.t95, hI.t96, hI.t97, hI.t98, hI.t99, hI.t100, hI.t101, hI.t102, hI.t103, hI.t104, hI.t105, hI.t106, hI.t107, hI.t108, hI.t109, hI.t110, hI.t111, hI.t112, hI.t113, hI.t114, hI.t115, hI.t116, hI.t117, hI.t118, hI.t119, hI.t120, hI.t121, hI.a1, hI.a3, hI.a4, hI.a25, hI.bw, hI.r9, hI.x0, hI.x1⟩⟩
  · rintro L a wx ⟨v, rfl, hI⟩ hL hdep hcl K hK
    have e30 := hI.t30 (hdep 30 (by decide))
    have e32 := hI.t32 (hdep 32 (by decide))
    rw [e30, e32]
    go_simp
    exact hK _ _ ⟨(upd (upd (upd v 120 (.bool true)) 122 (.bool true)) 123 (.bool true)), rfl, ⟨hI.t0, hI.t1, hI.t2, hI.t3, hI.t4, hI.t5, hI.t6, hI.t7, hI.t8, hI.t9, hI.t10, hI.t11, hI.t12, hI.t13, hI.t14, hI.t15, hI.t16, hI.t17, hI.t18, hI.t19, hI.t20, hI.t21, hI.t22, hI.t23, hI.t24, hI.t25, hI.t26, hI.t27, hI.t28, hI.t29, fun _ => rfl, hI.t31, fun _ => rfl, fun _ => rfl, hI.t34, hI.t35, hI.t36, hI.t37, hI.t38, hI.t39, hI.t40, hI.t41, hI.t42, hI.t43, hI.t44, hI.t45, hI.t46, hI.t47, hI.t48, hI.t49, hI.t50, hI.t51, hI.t52, hI.t53, hI.t54, hI.t55, hI.t56, hI.t57, hI.t58, hI.t59, hI.t60, hI.t61, hI.t62, hI.t63, hI.t64, hI.t65, hI.t66, hI.t67, hI.t68, hI.t69, hI.t70, hI.t71, hI.t72, hI.t73, hI.t74, hI.t75, hI.t76, hI.t77, hI.t78, hI.t79, hI.t80, hI.t81, hI.t82, hI.t83, hI.t84, hI.t85, hI.t86, hI.t87, hI.t88, hI.t89, hI.t90, hI.t91, hI.t92, hI.t93, hI.t94, hI.t95, hI.t96, hI.t97, hI.t98, hI.t99, hI.t100, hI.t101, hI.t102, hI.t103, hI.t104, hI.t105, hI.t106, hI.t107, hI.t108, hI.t109, hI.t110, hI.t111, hI.t112, hI.t113, hI.t114, hI.t115, hI.t116, hI.t117, hI.t118, hI.t119, hI.t120, hI.t121, hI.a1, hI.a3, hI.a4, hI.a25, hI.bw, hI.r9, hI.x0, hI.x1⟩⟩
  · rintro L a wx ⟨v, rfl, hI⟩ hL hdep hcl K hK
    have e33 := hI.t33 (hdep 33 (by decide))
    rw [e33]
    go_simp
    exact hK _ _ ⟨(upd (upd v 123 (.bool true)) 124 (.bool true)), rfl, ⟨hI.t0, hI.t1, hI.t2, hI.t3, hI.t4, hI.t5, hI.t6, hI.t7, hI.t8, hI.t9, hI.t10, hI.t11, hI.t12, hI.t13, hI.t14, hI.t15, hI.t16, hI.t17, hI.t18, hI.t19, hI.t20, hI.t21, hI.t22, hI.t23, hI.t24, hI.t25, hI.t26, hI.t27, hI.t28, hI.t29, hI.t30, hI.t31, hI.t32, fun _ => rfl, fun _ => rfl, hI.t35, hI.t36, hI.t37, hI.t38, hI.t39, hI.t40, hI.t41, hI.t42, hI.t43, hI.t44, hI.t45, hI.t46, hI.t47, hI.t48, hI.t49, hI.t50, hI.t51, hI.t52, hI.t53, hI.t54, hI.t55, hI.t56, hI.t57, hI.t58, hI.t59, hI.t60, hI.t61, hI.t62, hI.t63, hI.t64, hI.t65, hI.t66, hI.t67, hI.t68, hI.t69, hI.t70, hI.t71, hI.t72, hI.t73, hI.t74, hI.t75, hI.t76, hI.t77, hI.t78, hI.t79, hI.t80, hI.t81, hI.t82, hI.t83, hI.t84, hI.t85, hI.t86, hI.t87, hI.t88, hI.t89, hI.t90, hI.t91, hI.t92, hI.t93, hI.t94, hI.t95, hI.t96, hI.t97, hI.t98, hI.t99, hI.t100, hI.t101, hI.t102, hI.t103, hI.t104, hI.t105, hI.t106, hI.t107, hI.t108, hI.t109, hI.t110, hI.t111, hI.t112, hI.t113, hI.t114, hI.t115, hI.t116, hI.t117, hI.t118, hI.t119, hI.t120, hI.t121, hI.a1, hI.a3, hI.a4, hI.a25, hI.bw, hI.r9, hI.x0, hI.x1⟩⟩
  · rintro L a wx ⟨v, rfl, hI⟩ hL hdep hcl K hK
    have e34 := hI.t34 (hdep 34 (by decide))
    rw [e34]
    refine (if_pos rfl).mpr ?_
    go_simp
    exact hK _ _ ⟨(upd (upd v 124 (.bool true)) 125 (u9)), rfl, ⟨hI.t0, hI.t1, hI.t2, hI.t3, hI.t4, hI.t5, hI.t6, hI.t7, hI.t8, hI.t9, hI.t10, hI.t11, hI.t12, hI.t13, hI.t14, hI.t15, hI.t16, hI.t17, hI.t18, hI.t19, hI.t20, hI.t21, hI.t22, hI.t23, hI.t24, hI.t25, hI.t26, hI.t27, hI.t28, hI.t29, hI.t30, hI.t31, hI.t32, hI.t33, fun _ => rfl, fun _ => rfl, hI.t36, hI.t37, hI.t38, hI.t39, hI.t40, hI.t41, hI.t42, hI.t43, hI.t44, hI.t45, hI.t46, hI.t47, hI.t48, hI.t49, hI.t50, hI.t51, hI.t52, hI.t53, hI.t54, hI.t55, hI.t56, hI.t57, hI.t58, hI.t59, hI.t60, hI.t61, hI.t62, hI.t63, hI.t64, hI.t65, hI.t66, hI.t67, hI.t68, hI.t69, hI.t70, hI.t71, hI.t72, hI.t73, hI.t74, hI.t75, hI.t76, hI.t77, hI.t78, hI.t79, hI.t80, hI.t81, hI.t82, hI.t83, hI.t84, hI.t85, hI.t86, hI.t87, hI.t88, hI.t89, hI.t90, hI.t91, hI.t92, hI.t93, hI.t94, hI.t95, hI.t96, hI.t97, hI.t98, hI.t99, hI.t100, hI.t101, hI.t102, hI.t103, hI.t104, hI.t105, hI.t106, hI.t107, hI.t108, hI.t109, hI.t110, hI.t111, hI.t112, hI.t113, hI.t114, hI.t115, hI.t116, hI.t117, hI.t118, hI.t119, hI.t120, hI.t121, hI.a1, hI.a3, hI.a4, hI.a25, hI.bw, hI.r9, hI.x0, hI.x1⟩⟩
  · rintro L a wx ⟨v, rfl, hI⟩ hL hdep hcl K hK
    have e34 := hI.t34 (hdep 34 (by decide))
    rw [e34]
    refine (if_pos rfl).mpr ?_
    go_simp
    exact hK _ _ ⟨(upd (upd v 124 (.bool true)) 126 (.agg #[.int .i64 0, .int .u64 3])), rfl, ⟨hI.t0, hI.t1, hI.t2, hI.t3, hI.t4, hI.t5, hI.t6, hI.t7, hI.t8, hI.t9, hI.t10, hI.t11, hI.t12, hI.t13, hI.t14, hI.t15, hI.t16, hI.t17, hI.t18, hI.t19, hI.t20, hI.t21, hI.t22, hI.t23, hI.t24, hI.t25, hI.t26, hI.t27, hI.t28, hI.t29, hI.t30, hI.t31, hI.t32, hI.t33, fun _ => rfl, hI.t35, fun _ => rfl, hI.t37, hI.t38, hI.t39, hI.t40, hI.t41, hI.t42, hI.t43, hI.t44, hI.t45, hI.t46, hI.t47, hI.t48, hI.t49, hI.t50, hI.t51, hI.t52, hI.t53, hI.t54, hI.t55, hI.t56, hI.t57, hI.t58, hI.t59, hI.t60, hI.t61, hI.t62, hI.t63, hI.t64, hI.t65, hI.t66, hI.t67, hI.t68, hI.t69, hI.t70, hI.t71, hI.t72, hI.t73, hI.t74, hI.t75, hI.t76, hI.t77, hI.t78, hI.t79, hI.t80, hI.t81, hI.t82, hI.t83, hI.t84, hI.t85, hI.t86, hI.t87, hI.t88, hI.t89, hI.t90, hI.t91, hI.t92, hI.t93, hI.t94, hI.t95, hI.t96, hI.t97, hI.t98, hI.t99, hI.t100, hI.t101, hI.t102, hI.t103, hI.t104, hI.t105, hI.t106, hI.t107, hI.t108, hI.t109, hI.t110, hI.t111, hI.t112, hI.t113, hI.t114, hI.t115, hI.t116, hI.t117, hI.t118, hI.t119, hI.t120, hI.t121, hI.a1, hI.a3, hI.a4, hI.a25, hI.bw, hI.r9, hI.x0, hI.x1⟩⟩
  · rintro L a wx ⟨v, rfl, hI⟩ hL hdep hcl K hK
    have e34 := hI.t34 (hdep 34 (by decide))
    rw [e34]
    refine (if_pos rfl).mpr ?_
    go_simp
    exact hK _ _ ⟨(upd (upd v 124 (.bool true)) 127 (.agg #[.int .i64 2, .int .u64 1])), rfl, ⟨hI.t0, hI.t1, hI.t2, hI.t3, hI.t4, hI.t5, hI.t6, hI.t7, hI.t8, hI.t9, hI.t10, hI.t11, hI.t12, hI.t13, hI.t14, hI.t15, hI.t16, hI.t17, hI.t18, hI.t19, hI.t20, hI.t21, hI.t22, hI.t23, hI.t24, hI.t25, hI.t26, hI.t27, hI.t28, hI.t29, hI.t30, hI.t31, hI.t32, hI.t33, fun _ => rfl, hI.t35, hI.t36, fun _ => rfl, hI.t38, hI.t39, hI.t40, hI.t41, hI.t42, hI.t43, hI.t44, hI.t45, hI.t46, hI.t47, hI.t48, hI.t49, hI.t50, hI.t51, hI.t52, hI.t53, hI.t54, hI.t55, hI.t56, hI.t57, hI.t58, hI.t59, hI.t60, hI.t61, hI.t62, hI.t63, hI.t64, hI.t65, hI.t66, hI.t67, hI.t68, hI.t69, hI.t70, hI.t71, hI.t72, hI.t73, hI.t74, hI.t75, hI.t76, hI.t77, hI.t78, hI.t79, hI.t80, hI.t81, hI.t82, hI.t83, hI.t84, hI.t85, hI.t86, hI.t87, hI.t88, hI.t89, hI.t90, hI.t91, hI.t92, hI.t93, hI.t94, hI.t95, hI.t96, hI.t97, hI.t98, hI.t99, hI.t100, hI.t101, hI.t102, hI.t103, hI.t104, hI.t105, hI.t106, hI.t107, hI.t108, hI.t109, hI.t110, hI.t111, hI.t112, hI.t113, hI.t114, hI.t115, hI.t116, hI.t117, hI.t118, hI.t119, hI.t120, hI.t121, hI.a1, hI.a3, hI.a4, hI.a25, hI.bw, hI.r9, hI.x0, hI.x1⟩⟩
  · rintro L a wx ⟨v, rfl, hI⟩ hL hdep hcl K hK
    have e34 := hI.t34 (hdep 34 (by decide))
    have e36 := hI.t36 (hdep 36 (by decide))
    have e37 := hI.t37 (hdep 37 (by decide))
    rw [e34, e36, e37]
    refine (if_pos rfl).mpr ?_
    go_simp
    have hb := hal wx (.cells #[.int .i64 0, .int .u64 3, .int .i64 2, .int .u64 1] 24)
    have hr : RdN (wx.alloc (.cells #[.int .i64 0, .int .u64 3, .int .i64 2, .int .u64 1] 24)) (.slice (some ⟨wx.heap.size, 0, none⟩) 2 2) kL := rdn_lit wx 24 kL
    exact hK _ _ ⟨(upd (upd (upd (upd v 124 (.bool true)) 126 (.agg #[.int .i64 0, .int .u64 3])) 127 (.agg #[.int .i64 2, .int .u64 1])) 128 (_)), rfl, ⟨hI.t0, hI.t1, hI.t2, hI.t3, hI.t4, hI.t5, hI.t6, hI.t7, hI.t8, hI.t9, hI.t10, hI.t11, hI.t12, hI.t13, hI.t14, hI.t15, hI.t16, hI.t17, hI.t18, hI.t19, hI.t20, hI.t21, hI.t22, hI.t23, hI.t24, hI.t25, hI.t26, hI.t27, hI.t28, hI.t29, hI.t30, hI.t31, hI.t32, hI.t33, fun _ => rfl, hI.t35, fun _ => rfl, fun _ => rfl, fun _ => hr, hI.t39, hI.t40, hI.t41, hI.t42, hI.t43, hI.t44, hI.t45, hI.t46, hI.t47, hI.t48, hI.t49, hI.t50, hI.t51, hI.t52, hI.t53, hI.t54, hI.t55, hI.t56, hI.t57, hI.t58, hI.t59, hI.t60, hI.t61, hI.t62, hI.t63, hI.t64, hI.t65, hI.t66, hI.t67, hI.t68, hI.t69, hI.t70, hI.t71, hI.t72, hI.t73, hI.t74, hI.t75, hI.t76, hI.t77, hI.t78, hI.t79, hI.t80, hI.t81, hI.t82, hI.t83, hI.t84, hI.t85, hI.t86, hI.t87, hI.t88, hI.t89, hI.t90, hI.t91, hI.t92, hI.t93, hI.t94, hI.t95, hI.t96, hI.t97, hI.t98, hI.t99, hI.t100, hI.t101, hI.t102, hI.t103, hI.t104, hI.t105, hI.t106, hI.t107, hI.t108, hI.t109, hI.t110, hI.t111, hI.t112, hI.t113, hI.t114, hI.t115, hI.t116, hI.t117, hI.t118, hI.t119, hI.t120, hI.t121, (hI.a1).kept hb, (hI.a3).kept hb, (hI.a4).kept hb, (hI.a25).kept hb, (hI.bw).trans (hb.mono (hI.bw).size), (hI.r9).to hb, (hb.cell (p := ⟨b13, n13, none⟩) (Nat.lt_of_lt_of_le hb13 hI.bw.size)).trans (hI.x0), (hb.cell (p := ⟨b13, n13 + 1, none⟩) (Nat.lt_of_lt_of_le hb13 hI.bw.size)).trans (hI.x1)⟩⟩
  · rintro L a wx ⟨v, rfl, hI⟩ hL hdep hcl K hK
    have e34 := hI.t34 (hdep 34 (by decide))
    have e35 := hI.t35 (hdep 35 (by decide))
    rw [e34, e35]
    refine (if_pos rfl).mpr ?_
    have hr := hI.t38 (hdep 38 (by decide))
    go_simp
    refine (same_any u9 _ kL kL wx hI.r9 hr (by decide) (by decide)).mono ?_
    rw [decide_eq_true (Eq.refl kL)]
    rintro e w' ⟨rfl, hb⟩
    exact hK _ _ ⟨(upd (upd (upd v 124 (.bool true)) 125 (u9)) 129 (.bool true)), rfl, ⟨hI.t0, hI.t1, hI.t2, hI.t3, hI.t4, hI.t5, hI.t6, hI.t7, hI.t8, hI.t9, hI.t10, hI.t11, hI.t12, hI.t13, hI.t14, hI.t15, hI.t16, hI.t17, hI.t18, hI.t19, hI.t20, hI.t21, hI.t22, hI.t23, hI.t24, hI.t25, hI.t26, hI.t27, hI.t28, hI.t29, hI.t30, hI.t31, hI.t32, hI.t33, fun _ => rfl, fun _ => rfl, hI.t36, hI.t37, fun h => (hI.t38 h).to hb, fun _ => rfl, hI.t40, hI.t41, hI.t42, hI.t43, hI.t44, hI.t45, hI.t46, hI.t47, hI.t48, hI.t49, hI.t50, hI.t51, hI.t52, hI.t53, hI.t54, hI.t55, hI.t56, hI.t57, hI.t58, hI.t59, hI.t60, hI.t61, hI.t62, hI.t63, hI.t64, hI.t65, hI.t66, hI.t67, hI.t68, hI.t69, hI.t70, hI.t71, hI.t72, hI.t73, hI.t74, hI.t75, hI.t76, hI.t77, hI.t78, hI.t79, hI.t80, hI.t81, hI.t82, hI.t83, hI.t84, hI.t85, hI.t86, hI.t87, hI.t88, hI.t89, hI.t90, hI.t91, hI.t92, hI.t93, hI.t94, hI.t95, hI.t96, hI.t97, hI.t98, hI.t99, hI.t100, hI.t101, hI.t102, hI.t103, hI.t104, hI.t105, hI.t106, hI.t107, hI.t108, hI.t109, hI.t110, hI.t111, hI.t112, hI.t113, hI.t114, hI.t115, hI.t116, hI.t117, hI.t118, hI.t119, hI.t120, hI.t121, (hI.a1).kept hb, (hI.a3).kept hb, (hI.a4).kept hb, (hI.a25).kept hb, (hI.bw).trans (hb.mono (hI.bw).size), (hI.r9).to hb, (hb.cell (p := ⟨b13, n13, none⟩) (Nat.lt_of_lt_of_le hb13 hI.bw.size)).trans (hI.x0), (hb.cell (p := ⟨b13, n13 + 1, none⟩) (Nat.lt_of_lt_of_le hb13 hI.bw.size)).trans (hI.x1)⟩⟩
  · rintro L a wx ⟨v, rfl, hI⟩ hL hdep hcl K hK
    have e34 := hI.t34 (hdep 34 (by decide))
    have e39 := hI.t39 (hdep 39 (by decide))
    rw [e34, e39]
    go_simp
    exact hK _ _ ⟨(upd (upd (upd v 124 (.bool true)) 129 (.bool true)) 130 (.bool true)), rfl, ⟨hI.t0, hI.t1, hI.t2, hI.t3, hI.t4, hI.t5, hI.t6, hI.t7, hI.t8, hI.t9, hI.t10, hI.t11, hI.t12, hI.t13, hI.t14, hI.t15, hI.t16, hI.t17, hI.t18, hI.t19, hI.t20, hI.t21, hI.t22, hI.t23, hI.t24, hI.t25, hI.t26, hI.t27, hI.t28, hI.t29, hI.t30, hI.t31, hI.t32, hI.t33, fun _ => rfl, hI.t35, hI.t36, hI.t37, hI.t38, fun _ => rfl, fun _ => rfl, hI.t41, hI.t42, hI.t43, hI.t44, hI.t45, hI.t46, hI.t47, hI.t48, hI.t49, hI.t50, hI.t51, hI.t52, hI.t53, hI.t54, hI.t55, hI.t56, hI.t57, hI.t58, hI.t59, hI.t60, hI.t61, hI.t62, hI.t63, hI.t64, hI.t65, hI.t66, hI.t67, hI.t68, hI.t69, hI.t70, hI.t71, hI.t72, hI.t73, hI.t74, hI.t75, hI.t76, hI.t77, hI.t78, hI.t79, hI.t80, hI.t81, hI.t82, hI.t83, hI.t84, hI.t85, hI.t86, hI.t87, hI.t88, hI.t89, hI.t90, hI.t91, hI.t92, hI.t93, hI.t94, hI.t95, hI.t96, hI.t97, hI.t98, hI.t99, hI.t100, hI.t101, hI.t102, hI.t103, hI.t104, hI.t105, hI.t106, hI.t107, hI.t108, hI.t109, hI.t110, hI.t111, hI.t112, hI.t113, hI.t114, hI.t115, hI.t116, hI.t117, hI.t118, hI.t119, hI.t120, hI.t121, hI.a1, hI.a3, hI.a4, hI.a25, hI.bw, hI.r9, hI.x0, hI.x1⟩⟩
  · rintro L a wx ⟨v, rfl, hI⟩ hL hdep hcl K hK
    have e40 := hI.t40 (hdep 40 (by decide))
    rw [e40]
    go_simp
    exact hK _ _ ⟨(upd (upd v 130 (.bool true)) 131 (.bool true)), rfl, ⟨hI.t0, hI.t1, hI.t2, hI.t3, hI.t4, hI.t5, hI.t6, hI.t7, hI.t8, hI.t9, hI.t10, hI.t11, hI.t12, hI.t13, hI.t14, hI.t15, hI.t16, hI.t17, hI.t18, hI.t19, hI.t20, hI.t21, hI.t22, hI.t23, hI.t24, hI.t25, hI.t26, hI.t27, hI.t28, hI.t29, hI.t30, hI.t31, hI.t32, hI.t33, hI.t34, hI.t35, hI.t36, hI.t37, hI.t38, hI.t39, fun _ => rfl, fun _ => rfl, hI.t42, hI.t43, hI.t44, hI.t45, hI.t46, hI.t47, hI.t48, hI.t49, hI.t50, hI.t51, hI.t52, hI.t53, hI.t54, hI.t55, hI.t56, hI.t57, hI.t58, hI.t59, hI.t60, hI.t61, hI.t62, hI.t63, hI.t64, hI.t65, hI.t66, hI.t67, hI.t68, hI.t69, hI.t70, hI.t71, hI.t72, hI.t73, hI.t74, hI.t75, hI.t76, hI.t77, hI.t78, hI.t79, hI.t80, hI.t81, hI.t82, hI.t83, hI.t84, hI.t85, hI.t86, hI.t87, hI.t88, hI.t89, hI.t90, hI.t91, hI.t92, hI.t93, hI.t94, hI.t95, hI.t96, hI.t97, hI.t98, hI.t99, hI.t100, hI.t101, hI.t102, hI.t103, hI.t104, hI.t105, hI.t106, hI.t107, hI.t108, hI.t109, hI.t110, hI.t111, hI.t112, hI.t113, hI.t114, hI.t115, hI.t116, hI.t117, hI.t118, hI.t119, hI.t120, hI.t121, hI.a1, hI.a3, hI.a4, hI.a25, hI.bw, hI.r9, hI.x0, hI.x1⟩⟩
  · rintro L a wx ⟨v, rfl, hI⟩ hL hdep hcl K hK
    have e41 := hI.t41 (hdep 41 (by decide))
    rw [e41]
    refine (if_pos rfl).mpr ?_
    go_simp
    exact hK _ _ ⟨(upd (upd v 131 (.bool true)) 132 (.int .i64 0)), rfl, ⟨hI.t0, hI.t1, hI.t2, hI.t3, hI.t4, hI.t5, hI.t6, hI.t7, hI.t8, hI.t9, hI.t10, hI.t11, hI.t12, hI.t13, hI.t14, hI.t15, hI.t16, hI.t17, hI.t18, hI.t19, hI.t20, hI.t21, hI.t22, hI.t23, hI.t24, hI.t25, hI.t26, hI.t27, hI.t28, hI.t29, hI.t30, hI.t31, hI.t32, hI.t33, hI.t34, hI.t35, hI.t36, hI.t37, hI.t38, hI.t39, hI.t40, fun _ => rfl, fun _ => rfl, hI.t43, hI.t44, hI.t45, hI.t46, hI.t47, hI.t48, hI.t49, hI.t50, hI.t51, hI.t52, hI.t53, hI.t54, hI.t55, hI.t56, hI.t57, hI.t58, hI.t59, hI.t60, hI.t61, hI.t62, hI.t63, hI.t64, hI.t65, hI.t66, hI.t67, hI.t68, hI.t69, hI.t70, hI.t71, hI.t72, hI.t73, hI.t74, hI.t75, hI.t76, hI.t77, hI.t78, hI.t79, hI.t80, hI.t81, hI.t82, hI.t83, hI.t84, hI.t85, hI.t86, hI.t87, hI.t88, hI.t89, hI.t90, hI.t91, hI.t92, hI.t93, hI.t94, hI.t95, hI.t96, hI.t97, hI.t98, hI.t99, hI.t100, hI.t101, hI.t102, hI.t103, hI.t104, hI.t105, hI.t106, hI.t107, hI.t108, hI.t109, hI.t110, hI.t111, hI.t112, hI.t113, hI.t114, hI.t115, hI.t116, hI.t117, hI.t118, hI.t119, hI.t120, hI.t121, hI.a1, hI.a3, hI.a4, hI.a25, hI.bw, hI.r9, hI.x0, hI.x1⟩⟩
  · rintro L a wx ⟨v, rfl, hI⟩ hL hdep hcl K hK
    have e41 := hI.t41 (hdep 41 (by decide))
    have e42 := hI.t42 (hdep 42 (by decide))
    rw [e41, e42]
    refine (if_pos rfl).mpr ?_
    go_simp
    exact hK _ _ ⟨(upd (upd (upd v 131 (.bool true)) 132 (.int .i64 0)) 133 (.bool true)), rfl, ⟨hI.t0, hI.t1, hI.t2, hI.t3, hI.t4, hI.t5, hI.t6, hI.t7, hI.t8, hI.t9, hI.t10, hI.t11, hI.t12, hI.t13, hI.t14, hI.t15, hI.t16, hI.t17, hI.t18, hI.t19, hI.t20, hI.t21, hI.t22, hI.t23, hI.t24, hI.t25, hI.t26, hI.t27, hI.t28, hI.t29, hI.t30, hI.t31, hI.t32, hI.t33, hI.t34, hI.t35, hI.t36, hI.t37, hI.t38, hI.t39, hI.t40, fun _ => rfl, fun _ => rfl, fun _ => rfl, hI.t44, hI.t45, hI.t46, hI.t47, hI.t48, hI.t49, hI.t50, hI.t51, hI.t52, hI.t53, hI.t54, hI.t55, hI.t56, hI.t57, hI.t58, hI.t59, hI.t60, hI.t61, hI.t62, hI.t63, hI.t64, hI.t65, hI.t66, hI.t67, hI.t68, hI.t69, hI.t70, hI.t71, hI.t72, hI.t73, hI.t74, hI.t75, hI.t76, hI.t77, hI.t78, hI.t79, hI.t80, hI.t81, hI.t82, hI.t83, hI.t84, hI.t85, hI.t86, hI.t87, hI.t88, hI.t89, hI.t90, hI.t91, hI.t92, hI.t93, hI.t94, hI.t95, hI.t96, hI.t97, hI.t98, hI.t99, hI.t100, hI.t101, hI.t102, hI.t103, hI.t104, hI.t105, hI.t106, hI.t107, hI.t108, hI.t109, hI.t110, hI.t111, hI.t112, hI.t113, hI.t114, hI.t115, hI.t116, hI.t117, hI.t118, hI.t119, hI.t120, hI.t121, hI.a1, hI.a3, hI.a4, hI.a25, hI.bw, hI.r9, hI.x0, hI.x1⟩⟩
  · rintro L a wx ⟨v, rfl, hI⟩ hL hdep hcl K hK
    have e41 := hI.t41 (hdep 41 (by decide))
    have e43 := hI.t43 (hdep 43 (by decide))
    rw [e41, e43]
    go_simp
    exact hK _ _ ⟨(upd (upd (upd v 131 (.bool true)) 133 (.bool true)) 134 (.bool true)), rfl, ⟨hI.t0, hI.t1, hI.t2, hI.t3, hI.t4, hI.t5, hI.t6, hI.t7, hI.t8, hI.t9, hI.t10, hI.t11, hI.t12, hI.t13, hI.t14, hI.t15, hI.t16, hI.t17, hI.t18, hI.t19, hI.t20, hI.t21, hI.t22, hI.t23, hI.t24, hI.t25, hI.t26, hI.t27, hI.t28, hI.t29, hI.t30, hI.t31, hI.t32, hI.t33, hI.t34, hI.t35, hI.t36, hI.t37, hI.t38, hI.t39, hI.t40, fun _ => rfl, hI.t42, fun _ => rfl, fun _ => rfl, hI.t45, hI.t46, hI.t47, hI.t48, hI.t49, hI.t50, hI.t51, hI.t52, hI.t53, hI.t54, hI.t55, hI.t56, hI.t57, hI.t58, hI.t59, hI.t60, hI.t61, hI.t62, hI.t63, hI.t64, hI.t65, hI.t66, hI.t67, hI.t68, hI.t69, hI.t70, hI.t71, hI.t72, hI.t73, hI.t74, hI.t75, hI.t76, hI.t77, hI.t78, hI.t79, hI.t80, hI.t81, hI.t82, hI.t83, hI.t84, hI.t85, hI.t86, hI.t87, hI.t88, hI.t89, hI.t90, hI.t91, hI.t92, hI.t93, hI.t94, hI.t95, hI.t96, hI.t97, hI.t98, hI.t99, hI.t100, hI.t101, hI.t102, hI.t103, hI.t104, hI.t105, hI.t106, hI.t107, hI.t108, hI.t109, hI.t110, hI.t111, hI.t112, hI.t113, hI.t114, hI.t115, hI.t116, hI.t117, hI.t118, hI.t119, hI.t120, hI.t121, hI.a1, hI.a3, hI.a4, hI.a25, hI.bw, hI.r9, hI.x0, hI.x1⟩⟩
  · rintro L a wx ⟨v, rfl, hI⟩ hL hdep hcl K hK
    have e44 := hI.t44 (hdep 44 (by decide))
    rw [e44]
    go_simp
    exact hK _ _ ⟨(upd (upd v 134 (.bool true)) 135 (.bool true)), rfl, ⟨hI.t0, hI.t1, hI.t2, hI.t3, hI.t4, hI.t5, hI.t6, hI.t7, hI.t8, hI.t9, hI.t10, hI.t11, hI.t12, hI.t13, hI.t14, hI.t15, hI.t16, hI.t17, hI.t18, hI.t19, hI.t20, hI.t21, hI.t22, hI.t23, hI.t24, hI.t25, hI.t26, hI.t27, hI.t28, hI.t29, hI.t30, hI.t31, hI.t32, hI.t33, hI.t34, hI.t35, hI.t36, hI.t37, hI.t38, hI.t39, hI.t40, hI.t41, hI.t42, hI.t43, fun _ => rfl, fun _ => rfl, hI.t46, hI.t47, hI.t48, hI.t49, hI.t50, hI.t51, hI.t52, hI.t53, hI.t54, hI.t55, hI.t56, hI.t57, hI.t58, hI.t59, hI.t60, hI.t61, hI.t62, hI.t63, hI.t64, hI.t65, hI.t66, hI.t67, hI.t68, hI.t69, hI.t70, hI.t71, hI.t72, hI.t73, hI.t74, hI.t75, hI.t76, hI.t77, hI.t78, hI.t79, hI.t80, hI.t81, hI.t82, hI.t83, hI.t84, hI.t85, hI.t86, hI.t87, hI.t88, hI.t89, hI.t90, hI.t91, hI.t92, hI.t93, hI.t94, hI.t95, hI.t96, hI.t97, hI.t98, hI.t99, hI.t100, hI.t101, hI.t102, hI.t103, hI.t104, hI.t105, hI.t106, hI.t107, hI.t108, hI.t109, hI.t110, hI.t111, hI.t112, hI.t113, hI.t114, hI.t115, hI.t116, hI.t117, hI.t118, hI.t119, hI.t120, hI.t121, hI.a1, hI.a3, hI.a4, hI.a25, hI.bw, hI.r9, hI.x0, hI.x1⟩⟩
  · rintro L a wx ⟨v, rfl, hI⟩ hL hdep hcl K hK
    have e45 := hI.t45 (hdep 45 (by decide))
    rw [e45]
    refine (if_pos rfl).mpr ?_
    go_simp
    exact hK _ _ ⟨(upd (upd v 135 (.bool true)) 136 (.slice a11 0 c11)), rfl, ⟨hI.t0, hI.t1, hI.t2, hI.t3, hI.t4, hI.t5, hI.t6, hI.t7, hI.t8, hI.t9, hI.t10, hI.t11, hI.t12, hI.t13, hI.t14, hI.t15, hI.t16, hI.t17, hI.t18, hI.t19, hI.t20, hI.t21, hI.t22, hI.t23, hI.t24, hI.t25, hI.t26, hI.t27, hI.t28, hI.t29, hI.t30, hI.t31, hI.t32, hI.t33, hI.t34, hI.t35, hI.t36, hI.t37, hI.t38, hI.t39, hI.t40, hI.t41, hI.t42, hI.t43, hI.t44, fun _ => rfl, fun _ => rfl, hI.t47, hI.t48, hI.t49, hI.t50, hI.t51, hI.t52, hI.t53, hI.t54, hI.t55, hI.t56, hI.t57, hI.t58, hI.t59, hI.t60, hI.t61, hI.t62, hI.t63, hI.t64, hI.t65, hI.t66, hI.t67, hI.t68, hI.t69, hI.t70, hI.t71, hI.t72, hI.t73, hI.t74, hI.t75, hI.t76, hI.t77, hI.t78, hI.t79, hI.t80, hI.t81, hI.t82, hI.t83, hI.t84, hI.t85, hI.t86, hI.t87, hI.t88, hI.t89, hI.t90, hI.t91, hI.t92, hI.t93, hI.t94, hI.t95, hI.t96, hI.t97, hI.t98, hI.t99, hI.t100, hI.t101, hI.t102, hI.t103, hI.t104, hI.t105, hI.t106, hI.t107, hI.t108, hI.t109, hI.t110, hI.t111, hI.t112, hI.t113, hI.t114, hI.t115, hI.t116, hI.t117, hI.t118, hI.t119, hI.t120, hI.t121, hI.a1, hI.a3, hI.a4, hI.a25, hI.bw, hI.r9, hI.x0, hI.x1⟩⟩
  · rintro L a wx ⟨v, rfl, hI⟩ hL hdep hcl K hK
    have e45 := hI.t45 (hdep 45 (by decide))
    have e46 := hI.t46 (hdep 46 (by decide))
    rw [e45, e46]
    refine (if_pos rfl).mpr ?_
    go_simp
    exact hK _ _ ⟨(upd (upd (upd v 135 (.bool true)) 136 (.slice a11 0 c11)) 137 (.int .i64 0)), rfl, ⟨hI.t0, hI.t1, hI.t2, hI.t3, hI.t4, hI.t5, hI.t6, hI.t7, hI.t8, hI.t9, hI.t10, hI.t11, hI.t12, hI.t13, hI.t14, hI.t15, hI.t16, hI.t17, hI.t18, hI.t19, hI.t20, hI.t21, hI.t22, hI.t23, hI.t24, hI.t25, hI.t26, hI.t27, hI.t28, hI.t29, hI.t30, hI.t31, hI.t32, hI.t33, hI.t34, hI.t35, hI.t36, hI.t37, hI.t38, hI.t39, hI.t40, hI.t41, hI.t42, hI.t43, hI.t44, fun _ => rfl, fun _ => rfl, fun _ => rfl, hI.t48, hI.t49, hI.t50, hI.t51, hI.t52, hI.t53, hI.t54, hI.t55, hI.t56, hI.t57, hI.t58, hI.t59, hI.t60, hI.t61, hI.t62, hI.t63, hI.t64, hI.t65, hI.t66, hI.t67, hI.t68, hI.t69, hI.t70, hI.t71, hI.t72, hI.t73, hI.t74, hI.t75, hI.t76, hI.t77, hI.t78, hI.t79, hI.t80, hI.t81, hI.t82, hI.t83, hI.t84, hI.t85, hI.t86, hI.t87, hI.t88, hI.t89, hI.t90, hI.t91, hI.t92, hI.t93, hI.t94, hI.t95, hI.t96, hI.t97, hI.t98, hI.t99, hI.t100, hI.t101, hI.t102, hI.t103, hI.t104, hI.t105, hI.t106, hI.t107, hI.t108, hI.t109, hI.t110, hI.t111, hI.t112, hI.t113, hI.t114, hI.t115, hI.t116, hI.t117, hI.t118, hI.t119, hI.t120, hI.t121, hI.a1, hI.a3, hI.a4, hI.a25, hI.bw, hI.r9, hI.x0, hI.x1⟩⟩
  · rintro L a wx ⟨v, rfl, hI⟩ hL hdep hcl K hK
    have e45 := hI.t45 (hdep 45 (by decide))
    have e47 := hI.t47 (hdep 47 (by decide))
    rw [e45, e47]
    refine (if_pos rfl).mpr ?_
    go_simp
    exact hK _ _ ⟨(upd (upd (upd v 135 (.bool true)) 137 (.int .i64 0)) 138 (.bool true)), rfl, ⟨hI.t0, hI.t1, hI.t2, hI.t3, hI.t4, hI.t5, hI.t6, hI.t7, hI.t8, hI.t9, hI.t10, hI.t11, hI.t12, hI.t13, hI.t14, hI.t15, hI.t16, hI.t17, hI.t18, hI.t19, hI.t20, hI.t21, hI.t22, hI.t23, hI.t24, hI.t25, hI.t26, hI.t27, hI.t28, hI.t29, hI.t30, hI.t31, hI.t32, hI.t33, hI.t34, hI.t35, hI.t36, hI.t37, hI.t38, hI.t39, hI.t40, hI.t41, hI.t42, hI.t43, hI.t44, fun _ => rfl, hI.t46, fun _ => rfl, fun _ => rfl, hI.t49, hI.t50, hI.t51, hI.t52, hI.t53, hI.t54, hI.t55, hI.t56, hI.t57, hI.t58, hI.t59, hI.t60, hI.t61, hI.t62, hI.t63, hI.t64, hI.t65, hI.t66, hI.t67, hI.t68, hI.t69, hI.t70, hI.t71, hI.t72, hI.t73, hI.t74, hI.t75, hI.t76, hI.t77, hI.t78, hI.t79, hI.t80, hI.t81, hI.t82, hI.t83, hI.t84, hI.t85, hI.t86, hI.t87, hI.t88, hI.t89, hI.t90, hI.t91, hI.t92, hI.t93, hI.t94, hI.t95, hI.t96, hI.t97, hI.t98, hI.t99, hI.t100, hI.t101, hI.t102, hI.t103, hI.t104, hI.t105, hI.t106, hI.t107, hI.t108, hI.t109, hI.t110, hI.t111, hI.t112, hI.t113, hI.t114, hI.t115, hI.t116, hI.t117, hI.t118, hI.t119, hI.t120, hI.t121, hI.a1, hI.a3, hI.a4, hI.a25, hI.bw, hI.r9, hI.x0, hI.x1⟩⟩
  · rintro L a wx ⟨v, rfl, hI⟩ hL hdep hcl K hK
    have e45 := hI.t45 (hdep 45 (by decide))
    have e48 := hI.t48 (hdep 48 (by decide))
    rw [e45, e48]
    go_simp
    exact hK _ _ ⟨(upd (upd (upd v 135 (.bool true)) 138 (.bool true)) 139 (.bool true)), rfl, ⟨hI.t0, hI.t1, hI.t2, hI.t3, hI.t4, hI.t5, hI.t6, hI.t7, hI.t8, hI.t9, hI.t10, hI.t11, hI.t12, hI.t13, hI.t14, hI.t15, hI.t16, hI.t17, hI.t18, hI.t19, hI.t20, hI.t21, hI.t22, hI.t23, hI.t24, hI.t25, hI.t26, hI.t27, hI.t28, hI.t29, hI.t30, hI.t31, hI.t32, hI.t33, hI.t34, hI.t35, hI.t36, hI.t37, hI.t38, hI.t39, hI.t40, hI.t41, hI.t42, hI.t43, hI.t44, fun _ => rfl, hI.t46, hI.t47, fun _ => rfl, fun _ => rfl, hI.t50, hI.t51, hI.t52, hI.t53, hI.t54, hI.t55, hI.t56, hI.t57, hI.t58, hI.t59, hI.t60, hI.t61, hI.t62, hI.t63, hI.t64, hI.t65, hI.t66, hI.t67, hI.t68, hI.t69, hI.t70, hI.t71, hI.t72, hI.t73, hI.t74, hI.t75, hI.t76, hI.t77, hI.t78, hI.t79, hI.t80, hI.t81, hI.t82, hI.t83, hI.t84, hI.t85, hI.t86, hI.t87, hI.t88, hI.t89, hI.t90, hI.t91, hI.t92, hI.t93, hI.t94, hI.t95, hI.t96, hI.t97, hI.t98, hI.t99, hI.t100, hI.t101, hI.t102, hI.t103, hI.t104, hI.t105, hI.t106, hI.t107, hI.t108, hI.t109, hI.t110, hI.t111, hI.t112, hI.t113, hI.t114, hI.t115, hI.t116, hI.t117, hI.t118, hI.t119, hI.t120, hI.t121, hI.a1, hI.a3, hI.a4, hI.a25, hI.bw, hI.r9, hI.x0, hI.x1⟩⟩
  · rintro L a wx ⟨v, rfl, hI⟩ hL hdep hcl K hK
    have e49 := hI.t49 (hdep 49 (by decide))
    rw [e49]
    go_simp
    exact hK _ _ ⟨(upd (upd v 139 (.bool true)) 140 (.bool true)), rfl, ⟨hI.t0, hI.t1, hI.t2, hI.t3, hI.t4, hI.t5, hI.t6, hI.t7, hI.t8, hI.t9, hI.t10, hI.t11, hI.t12, hI.t13, hI.t14, hI.t15, hI.t16, hI.t17, hI.t18, hI.t19, hI.t20, hI.t21, hI.t22, hI.t23, hI.t24, hI.t25, hI.t26, hI.t27, hI.t28, hI.t29, hI.t30, hI.t31, hI.t32, hI.t33, hI.t34, hI.t35, hI.t36, hI.t37, hI.t38, hI.t39, hI.t40, hI.t41, hI.t42, hI.t43, hI.t44, hI.t45, hI.t46, hI.t47, hI.t48, fun _ => rfl, fun _ => rfl, hI.t51, hI.t52, hI.t53, hI.t54, hI.t55, hI.t56, hI.t57, hI.t58, hI.t59, hI.t60, hI.t61, hI.t62, hI.t63, hI.t64, hI.t65, hI.t66, hI.t67, hI.t68, hI.t69, hI.t70, hI.t71, hI.t72, hI.t73, hI.t74, hI.t75, hI.t76, hI.t77, hI.t78, hI.t79, hI.t80, hI.t81, hI.t82, hI.t83, hI.t84, hI.t85, hI.t86, hI.t87, hI.t88, hI.t89, hI.t90, hI.t91, hI.t92, hI.t93, hI.t94, hI.t95, hI.t96, hI.t97, hI.t98, hI.t99, hI.t100, hI.t101, hI.t102, hI.t103, hI.t104, hI.t105, hI.t106, hI.t107, hI.t108, hI.t109, hI.t110, hI.t111, hI.t112, hI.t113, hI.t114, hI.t115, hI.t116, hI.t117, hI.t118, hI.t119, hI.t120, hI.t121, hI.a1, hI.a3, hI.a4, hI.a25, hI.bw, hI.r9, hI.x0, hI.x1⟩⟩
  · rintro L a wx ⟨v, rfl, hI⟩ hL hdep hcl K hK
    have e50 := hI.t50 (hdep 50 (by decide))
    rw [e50]
    refine (if_pos rfl).mpr ?_
    go_simp
    exact hK _ _ ⟨(upd (upd v 140 (.bool true)) 141 (.int .i64 0)), rfl, ⟨hI.t0, hI.t1, hI.t2, hI.t3, hI.t4, hI.t5, hI.t6, hI.t7, hI.t8, hI.t9, hI.t10, hI.t11, hI.t12, hI.t13, hI.t14, hI.t15, hI.t16, hI.t17, hI.t18, hI.t19, hI.t20, hI.t21, hI.t22, hI.t23, hI.t24, hI.t25, hI.t26, hI.t27, hI.t28, hI.t29, hI.t30, hI.t31, hI.t32, hI.t33, hI.t34, hI.t35, hI.t36, hI.t37, hI.t38, hI.t39, hI.t40, hI.t41, hI.t42, hI.t43, hI.t44, hI.t45, hI.t46, hI.t47, hI.t48, hI.t49, fun _ => rfl, fun _ => rfl, hI.t52, hI.t53, hI.t54, hI.t55, hI.t56, hI.t57, hI.t58, hI.t59, hI.t60, hI.t61, hI.t62, hI.t63, hI.t64, hI.t65, hI.t66, hI.t67, hI.t68, hI.t69, hI.t70, hI.t71, hI.t72, hI.t73, hI.t74, hI.t75, hI.t76, hI.t77, hI.t78, hI.t79, hI.t80, hI.t81, hI.t82, hI.t83, hI.t84, hI.t85, hI.t86, hI.t87, hI.t88, hI.t89, hI.t90, hI.t91, hI.t92, hI.t93, hI.t94, hI.t95, hI.t96, hI.t97, hI.t98, hI.t99, hI.t100, hI.t101, hI.t102, hI.t103, hI.t104, hI.t105, hI.t106, hI.t107, hI.t108, hI.t109, hI.t110, hI.t111, hI.t112, hI.t113, hI.t114, hI.t115, hI.t116, hI.t117, hI.t118, hI.t119, hI.t120, hI.t121, hI.a1, hI.a3, hI.a4, hI.a25, hI.bw, hI.r9, hI.x0, hI.x1⟩⟩
  · rintro L a wx ⟨v, rfl, hI⟩ hL hdep hcl K hK
    have e50 := hI.t50 (hdep 50 (by decide))
    have e51 := hI.t51 (hdep 51 (by decide))
    rw [e50, e51]
    refine (if_pos rfl).mpr ?_
    go_simp
    exact hK _ _ ⟨(upd (upd (upd v 140 (.bool true)) 141 (.int .i64 0)) 142 (.bool true)), rfl, ⟨hI.t0, hI.t1, hI.t2, hI.t3, hI.t4, hI.t5, hI.t6, hI.t7, hI.t8, hI.t9, hI.t10, hI.t11, hI.t12, hI.t13, hI.t14, hI.t15, hI.t16, hI.t17, hI.t18, hI.t19, hI.t20, hI.t21, hI.t22, hI.t23, hI.t24, hI.t25, hI.t26, hI.t27, hI.t28, hI.t29, hI.t30, hI.t31, hI.t32, hI.t33, hI.t34, hI.t35, hI.t36, hI.t37, hI.t38, hI.t39, hI.t40, hI.t41, hI.t42, hI.t43, hI.t44, hI.t45, hI.t46, hI.t47, hI.t48, hI.t49, fun _ => rfl, fun _ => rfl, fun _ => rfl, hI.t53, hI.t54, hI.t55, hI.t56, hI.t57, hI.t58, hI.t59, hI.t60, hI.t61, hI.t62, hI.t63, hI.t64, hI.t65, hI.t66, hI.t67, hI.t68, hI.t69, hI.t70, hI.t71, hI.t72, hI.t73, hI.t74, hI.t75, hI.t76, hI.t77, hI.t78, hI.t79, hI.t80, hI.t81, hI.t82, hI.t83, hI.t84, hI.t85, hI.t86, hI.t87, hI.t88, hI.t89, hI.t90, hI.t91, hI.t92, hI.t93, hI.t94, hI.t95, hI.t96, hI.t97, hI.t98, hI.t99, hI.t100, hI.t101, hI.t102, hI.t103, hI.t104, hI.t105, hI.t106, hI.t107, hI.t108, hI.t109, hI.t110, hI.t111, hI.t112, hI.t113, hI.t114, hI.t115, hI.t116, hI.t117, hI.t118, hI.t119, hI.t120, hI.t121, hI.a1, hI.a3, hI.a4, hI.a25, hI.bw, hI.r9, hI.x0, hI.x1⟩⟩
  · rintro L a wx ⟨v, rfl, hI⟩ hL hdep hcl K hK
    have e50 := hI.t50 (hdep 50 (by decide))
    have e52 := hI.t52 (hdep 52 (by decide))
    rw [e50, e52]
    go_simp
    exact hK _ _ ⟨(upd (upd (upd v 140 (.bool true)) 142 (.bool true)) 143 (.bool true)), rfl, ⟨hI.t0, hI.t1, hI.t2, hI.t3, hI.t4, hI.t5, hI.t6, hI.t7, hI.t8, hI.t9, hI.t10, hI.t11, hI.t12, hI.t13, hI.t14, hI.t15, hI.t16, hI.t17, hI.t18, hI.t19, hI.t20, hI.t21, hI.t22, hI.t23, hI.t24, hI.t25, hI.t26, hI.t27, hI.t28, hI.t29, hI.t30, hI.t31, hI.t32, hI.t33, hI.t34, hI.t35, hI.t36, hI.t37, hI.t38, hI.t39, hI.t40, hI.t41, hI.t42, hI.t43, hI.t44, hI.t45, hI.t46, hI.t47, hI.t48, hI.t49, fun _ => rfl, hI.t51, fun _ => rfl, fun _ => rfl, hI.t54, hI.t55, hI.t56, hI.t57, hI.t58, hI.t59, hI.t60, hI.t61, hI.t62, hI.t63, hI.t64, hI.t65, hI.t66, hI.t67, hI.t68, hI.t69, hI.t70, hI.t71, hI.t72, hI.t73, hI.t74, hI.t75, hI.t76, hI.t77, hI.t78, hI.t79, hI.t80, hI.t81, hI.t82, hI.t83, hI.t84, hI.t85, hI.t86, hI.t87, hI.t88, hI.t89, hI.t90, hI.t91, hI.t92, hI.t93, hI.t94, hI.t95, hI.t96, hI.t97, hI.t98, hI.t99, hI.t100, hI.t101, hI.t102, hI.t103, hI.t104, hI.t105, hI.t106, hI.t107, hI.t108, hI.t109, hI.t110, hI.t111, hI.t112, hI.t113, hI.t114, hI.t115, hI.t116, hI.t117, hI.t118, hI.t119, hI.t120, hI.t121, hI.a1, hI.a3, hI.a4, hI.a25, hI.bw, hI.r9, hI.x0, hI.x1⟩⟩
  · rintro L a wx ⟨v, rfl, hI⟩ hL hdep hcl K hK
    have e53 := hI.t53 (hdep 53 (by decide))
    rw [e53]
    go_simp
    exact hK _ _ ⟨(upd (upd v 143 (.bool true)) 144 (.bool true)), rfl, ⟨hI.t0, hI.t1, hI.t2, hI.t3, hI.t4, hI.t5, hI.t6, hI.t7, hI.t8, hI.t9, hI.t10, hI.t11, hI.t12, hI.t13, hI.t14, hI.t15, hI.t16, hI.t17, hI.t18, hI.t19, hI.t20, hI.t21, hI.t22, hI.t23, hI.t24, hI.t25, hI.t26, hI.t27, hI.t28, hI.t29, hI.t30, hI.t31, hI.t32, hI.t33, hI.t34, hI.t35, hI.t36, hI.t37, hI.t38, hI.t39, hI.t40, hI.t41, hI.t42, hI.t43, hI.t44, hI.t45, hI.t46, hI.t47, hI.t48, hI.t49, hI.t50, hI.t51, hI.t52, fun _ => rfl, fun _ => rfl, hI.t55, hI.t56, hI.t57, hI.t58, hI.t59, hI.t60, hI.t61, hI.t62, hI.t63, hI.t64, hI.t65, hI.t66, hI.t67, hI.t68, hI.t69, hI.t70, hI.t71, hI.t72, hI.t73, hI.t74, hI.t75, hI.t76, hI.t77, hI.t78, hI.t79, hI.t80, hI.t81, hI.t82, hI.t83, hI.t84, hI.t85, hI.t86, hI.t87, hI.t88, hI.t89, hI.t90, hI.t91, hI.t92, hI.t93, hI.t94, hI.t95, hI.t96, hI.t97, hI.t98, hI.t99, hI.t100, hI.t101, hI.t102, hI.t103, hI.t104, hI.t105, hI.t106, hI.t107, hI.t108, hI.t109, hI.t110, hI.t111, hI.t112, hI.t113, hI.t114, hI.t115, hI.t116, hI.t117, hI.t118, hI.t119, hI.t120, hI.t121, hI.a1, hI.a3, hI.a4, hI.a25, hI.bw, hI.r9, hI.x0, hI.x1⟩⟩
  · rintro L a wx ⟨v, rfl, hI⟩ hL hdep hcl K hK
    have e54 := hI.t54 (hdep 54 (by decide))
    rw [e54]
    refine (if_pos rfl).mpr ?_
    go_simp
    exact hK _ _ ⟨(upd (upd v 144 (.bool true)) 145 (.slice (some ⟨b13, n13, none⟩) 1 c13)), rfl, ⟨hI.t0, hI.t1, hI.t2, hI.t3, hI.t4, hI.t5, hI.t6, hI.t7, hI.t8, hI.t9, hI.t10, hI.t11, hI.t12, hI.t13, hI.t14, hI.t15, hI.t16, hI.t17, hI.t18, hI.t19, hI.t20, hI.t21, hI.t22, hI.t23, hI.t24, hI.t25, hI.t26, hI.t27, hI.t28, hI.t29, hI.t30, hI.t31, hI.t32, hI.t33, hI.t34, hI.t35, hI.t36, hI.t37, hI.t38, hI.t39, hI.t40, hI.t41, hI.t42, hI.t43, hI.t44, hI.t45, hI.t46, hI.t47, hI.t48, hI.t49, hI.t50, hI.t51, hI.t52, hI.t53, fun _ => rfl, fun _ => rfl, hI.t56, hI.t57, hI.t58, hI.t59, hI.t60, hI.t61, hI.t62, hI.t63, hI.t64, hI.t65, hI.t66, hI.t67, hI.t68, hI.t69, hI.t70, hI.t71, hI.t72, hI.t73, hI.t74, hI.t75, hI.t76, hI.t77, hI.t78, hI.t79, hI.t80, hI.t81, hI.t82, hI.t83, hI.t84, hI.t85, hI.t86, hI.t87, hI.t88, hI.t89, hI.t90, hI.t91, hI.t92, hI.t93, hI.t94, hI.t95, hI.t96, hI.t97, hI.t98, hI.t99, hI.t100, hI.t101, hI.t102, hI.t103, hI.t104, hI.t105, hI.t106, hI.t107, hI.t108, hI.t109, hI.t110, hI.t111, hI.t112, hI.t113, hI.t114, hI.t115, hI.t116, hI.t117, hI.t118, hI.t119, hI.t120, hI.t121, hI.a1, hI.a3, hI.a4, hI.a25, hI.bw, hI.r9, hI.x0, hI.x1⟩⟩
  · rintro L a wx ⟨v, rfl, hI⟩ hL hdep hcl K hK
    have e54 := hI.t54 (hdep 54 (by decide))
    have e55 := hI.t55 (hdep 55 (by decide))
    rw [e54, e55]
    refine (if_pos rfl).mpr ?_
    go_simp
    exact hK _ _ ⟨(upd (upd (upd v 144 (.bool true)) 145 (.slice (some ⟨b13, n13, none⟩) 1 c13)) 146 (.int .i64 1)), rfl, ⟨hI.t0, hI.t1, hI.t2, hI.t3, hI.t4, hI.t5, hI.t6, hI.t7, hI.t8, hI.t9, hI.t10, hI.t11, hI.t12, hI.t13, hI.t14, hI.t15, hI.t16, hI.t17, hI.t18, hI.t19, hI.t20, hI.t21, hI.t22, hI.t23, hI.t24, hI.t25, hI.t26, hI.t27, hI.t28, hI.t29, hI.t30, hI.t31, hI.t32, hI.t33, hI.t34, hI.t35, hI.t36, hI.t37, hI.t38, hI.t39, hI.t40, hI.t41, hI.t42, hI.t43, hI.t44, hI.t45, hI.t46, hI.t47, hI.t48, hI.t49, hI.t50, hI.t51, hI.t52, hI.t53, fun _ => rfl, fun _ => rfl, fun _ => rfl, hI.t57, hI.t58, hI.t59, hI.t60, hI.t61, hI.t62, hI.t63, hI.t64, hI.t65, hI.t66, hI.t67, hI.t68, hI.t69, hI.t70, hI.t71, hI.t72, hI.t73, hI.t74, hI.t75, hI.t76, hI.t77, hI.t78, hI.t79, hI.t80, hI.t81, hI.t82, hI.t83, hI.t84, hI.t85, hI.t86, hI.t87, hI.t88, hI.t89, hI.t90, hI.t91, hI.t92, hI.t93, hI.t94, hI.t95, hI.t96, hI.t97, hI.t98, hI.t99, hI.t100, hI.t101, hI.t102, hI.t103, hI.t104, hI.t105, hI.t106, hI.t107, hI.t108, hI.t109, hI.t110, hI.t111, hI.t112, hI.t113, hI.t114, hI.t115, hI.t116, hI.t117, hI.t118, hI.t119, hI.t120, hI.t121, hI.a1, hI.a3, hI.a4, hI.a25, hI.bw, hI.r9, hI.x0, hI.x1⟩⟩
  · rintro L a wx ⟨v, rfl, hI⟩ hL hdep hcl K hK
    have e54 := hI.t54 (hdep 54 (by decide))
    have e56 := hI.t56 (hdep 56 (by decide))
    rw [e54, e56]
    refine (if_pos rfl).mpr ?_
    go_simp
    exact hK _ _ ⟨(upd (upd (upd v 144 (.bool true)) 146 (.int .i64 1)) 147 (.bool true)), rfl, ⟨hI.t0, hI.t1, hI.t2, hI.t3, hI.t4, hI.t5, hI.t6, hI.t7, hI.t8, hI.t9, hI.t10, hI.t11, hI.t12, hI.t13, hI.t14, hI.t15, hI.t16, hI.t17, hI.t18, hI.t19, hI.t20, hI.t21, hI.t22, hI.t23, hI.t24, hI.t25, hI.t26, hI.t27, hI.t28, hI.t29, hI.t30, hI.t31, hI.t32, hI.t33, hI.t34, hI.t35, hI.t36, hI.t37, hI.t38, hI.t39, hI.t40, hI.t41, hI.t42, hI.t43, hI.t44, hI.t45, hI.t46, hI.t47, hI.t48, hI.t49, hI.t50, hI.t51, hI.t52, hI.t53, fun _ => rfl, hI.t55, fun _ => rfl, fun _ => rfl, hI.t58, hI.t59, hI.t60, hI.t61, hI.t62, hI.t63, hI.t64, hI.t65, hI.t66, hI.t67, hI.t68, hI.t69, hI.t70, hI.t71, hI.t72, hI.t73, hI.t74, hI.t75, hI.t76, hI.t77, hI.t78, hI.t79, hI.t80, hI.t81, hI.t82, hI.t83, hI.t84, hI.t85, hI.t86, hI.t87, hI.t88, hI.t89, hI.t90, hI.t91, hI.t92, hI.t93, hI.t94, hI.t95, hI.t96, hI.t97, hI.t98, hI.t99, hI.t100, hI.t101, hI.t102, hI.t103, hI.t104, hI.t105, hI.t106, hI.t107, hI.t108, hI.t109, hI.t110, hI.t111, hI.t112, hI.t113, hI.t114, hI.t115, hI.t116, hI.t117, hI.t118, hI.t119, hI.t120, hI.t121, hI.a1, hI.a3, hI.a4, hI.a25, hI.bw, hI.r9, hI.x0, hI.x1⟩⟩
  · rintro L a wx ⟨v, rfl, hI⟩ hL hdep hcl K hK
    have e54 := hI.t54 (hdep 54 (by decide))
    have e57 := hI.t57 (hdep 57 (by decide))
    rw [e54, e57]
    go_simp
    exact hK _ _ ⟨(upd (upd (upd v 144 (.bool true)) 147 (.bool true)) 148 (.bool true)), rfl, ⟨hI.t0, hI.t1, hI.t2, hI.t3, hI.t4, hI.t5, hI.t6, hI.t7, hI.t8, hI.t9, hI.t10, hI.t11, hI.t12, hI.t13, hI.t14, hI.t15, hI.t16, hI.t17, hI.t18, hI.t19, hI.t20, hI.t21, hI.t22, hI.t23, hI.t24, hI.t25, hI.t26, hI.t27, hI.t28, hI.t29, hI.t30, hI.t31, hI.t32, hI.t33, hI.t34, hI.t35, hI.t36, hI.t37, hI.t38, hI.t39, hI.t40, hI.t41, hI.t42, hI.t43, hI.t44, hI.t45, hI.t46, hI.t47, hI.t48, hI.t49, hI.t50, hI.t51, hI.t52, hI.t53, fun _ => rfl, hI.t55, hI.t56, fun _ => rfl, fun _ => rfl, hI.t59, hI.t60, hI.t61, hI.t62, hI.t63, hI.t64, hI.t65, hI.t66, hI.t67, hI.t68, hI.t69, hI.t70, hI.t71, hI.t72, hI.t73, hI.t74, hI.t75, hI.t76, hI.t77, hI.t78, hI.t79, hI.t80, hI.t81, hI.t82, hI.t83, hI.t84, hI.t85, hI.t86, hI.t87, hI.t88, hI.t89, hI.t90, hI.t91, hI.t92, hI.t93, hI.t94, hI.t95, hI.t96, hI.t97, hI.t98, hI.t99, hI.t100, hI.t101, hI.t102, hI.t103, hI.t104, hI.t105, hI.t106, hI.t107, hI.t108, hI.t109, hI.t110, hI.t111, hI.t112, hI.t113, hI.t114, hI.t115, hI.t116, hI.t117, hI.t118, hI.t119, hI.t120, hI.t121, hI.a1, hI.a3, hI.a4, hI.a25, hI.bw, hI.r9, hI.x0, hI.x1⟩⟩
  · rintro L a wx ⟨v, rfl, hI⟩ hL hdep hcl K hK
    have e58 := hI.t58 (hdep 58 (by decide))
    rw [e58]
    go_simp
    exact hK _ _ ⟨(upd (upd v 148 (.bool true)) 149 (.bool true)), rfl, ⟨hI.t0, hI.t1, hI.t2, hI.t3, hI.t4, hI.t5, hI.t6, hI.t7, hI.t8, hI.t9, hI.t10, hI.t11, hI.t12, hI.t13, hI.t14, hI.t15, hI.t16, hI.t17, hI.t18, hI.t19, hI.t20, hI.t21, hI.t22, hI.t23, hI.t24, hI.t25, hI.t26, hI.t27, hI.t28, hI.t29, hI.t30, hI.t31, hI.t32, hI.t33, hI.t34, hI.t35, hI.t36, hI.t37, hI.t38, hI.t39, hI.t40, hI.t41, hI.t42, hI.t43, hI.t44, hI.t45, hI.t46, hI.t47, hI.t48, hI.t49, hI.t50, hI.t51, hI.t52, hI.t53, hI.t54, hI.t55, hI.t56, hI.t57, fun _ => rfl, fun _ => rfl, hI.t60, hI.t61, hI.t62, hI.t63, hI.t64, hI.t65, hI.t66, hI.t67, hI.t68, hI.t69, hI.t70, hI.t71, hI.t72, hI.t73, hI.t74, hI.t75, hI.t76, hI.t77, hI.t78, hI.t79, hI.t80, hI.t81, hI.t82, hI.t83, hI.t84, hI.t85, hI.t86, hI.t87, hI.t88, hI.t89, hI.t90, hI.t91, hI.t92, hI.t93, hI.t94, hI.t95, hI.t96, hI.t97, hI.t98, hI.t99, hI.t100, hI.t101, hI.t102, hI.t103, hI.t104, hI.t105, hI.t106, hI.t107, hI.t108, hI.t109, hI.t110, hI.t111, hI.t112, hI.t113, hI.t114, hI.t115, hI.t116, hI.t117, hI.t118, hI.t119, hI.t120, hI.t121, hI.a1, hI.a3, hI.a4, hI.a25, hI.bw, hI.r9, hI.x0, hI.x1⟩⟩
  · rintro L a wx ⟨v, rfl, hI⟩ hL hdep hcl K hK
    have e59 := hI.t59 (hdep 59 (by decide))
    rw [e59]
    refine (if_pos rfl).mpr ?_
    go_simp
    exact hK _ _ ⟨(upd (upd v 149 (.bool true)) 150 (.slice (some ⟨b13, n13, none⟩) 1 c13)), rfl, ⟨hI.t0, hI.t1, hI.t2, hI.t3, hI.t4, hI.t5, hI.t6, hI.t7, hI.t8, hI.t9, hI.t10, hI.t11, hI.t12, hI.t13, hI.t14, hI.t15, hI.t16, hI.t17, hI.t18, hI.t19, hI.t20, hI.t21, hI.t22, hI.t23, hI.t24, hI.t25, hI.t26, hI.t27, hI.t28, hI.t29, hI.t30, hI.t31, hI.t32, hI.t33, hI.t34, hI.t35, hI.t36, hI.t37, hI.t38, hI.t39, hI.t40, hI.t41, hI.t42, hI.t43, hI.t44, hI.t45, hI.t46, hI.t47, hI.t48, hI.t49, hI.t50, hI.t51, hI.t52, hI.t53, hI.t54, hI.t55, hI.t56, hI.t57, hI.t58, fun _ => rfl, fun _ => rfl, hI.t61, hI.t62, hI.t63, hI.t64, hI.t65, hI.t66, hI.t67, hI.t68, hI.t69, hI.t70, hI.t71, hI.t72, hI.t73, hI.t74, hI.t75, hI.t76, hI.t77, hI.t78, hI.t79, hI.t80, hI.t81, hI.t82, hI.t83, hI.t84, hI.t85, hI.t86, hI.t87, hI.t88, hI.t89, hI.t90, hI.t91, hI.t92, hI.t93, hI.t94, hI.t95, hI.t96, hI.t97, hI.t98, hI.t99, hI.t100, hI.t101, hI.t102, hI.t103, hI.t104, hI.t105, hI.t106, hI.t107, hI.t108, hI.t109, hI.t110, hI.t111, hI.t112, hI.t113, hI.t114, hI.t115, hI.t116, hI.t117, hI.t118, hI.t119, hI.t120, hI.t121, hI.a1, hI.a3, hI.a4, hI.a25, hI.bw, hI.r9, hI.x0, hI.x1⟩⟩
  · rintro L a wx ⟨v, rfl, hI⟩ hL hdep hcl K hK
    have e59 := hI.t59 (hdep 59 (by decide))
    have e60 := hI.t60 (hdep 60 (by decide))
    rw [e59, e60]
    refine (if_pos rfl).mpr ?_
    have hi := HI13.out
    go_simp
    exact hK _ _ ⟨(upd (upd (upd v 149 (.bool true)) 150 (.slice (some ⟨b13, n13, none⟩) 1 c13)) 151 (.pointer (some ⟨b13, n13, none⟩))), rfl, ⟨hI.t0, hI.t1, hI.t2, hI.t3, hI.t4, hI.t5, hI.t6, hI.t7, hI.t8, hI.t9, hI.t10, hI.t11, hI.t12, hI.t13, hI.t14, hI.t15, hI.t16, hI.t17, hI.t18, hI.t19, hI.t20, hI.t21, hI.t22, hI.t23, hI.t24, hI.t25, hI.t26, hI.t27, hI.t28, hI.t29, hI.t30, hI.t31, hI.t32, hI.t33, hI.t34, hI.t35, hI.t36, hI.t37, hI.t38, hI.t39, hI.t40, hI.t41, hI.t42, hI.t43, hI.t44, hI.t45, hI.t46, hI.t47, hI.t48, hI.t49, hI.t50, hI.t51, hI.t52, hI.t53, hI.t54, hI.t55, hI.t56, hI.t57, hI.t58, fun _ => rfl, fun _ => rfl, fun _ => rfl, hI.t62, hI.t63, hI.t64, hI.t65, hI.t66, hI.t67, hI.t68, hI.t69, hI.t70, hI.t71, hI.t72, hI.t73, hI.t74, hI.t75, hI.t76, hI.t77, hI.t78, hI.t79, hI.t80, hI.t81, hI.t82, hI.t83, hI.t84, hI.t85, hI.t86, hI.t87, hI.t88, hI.t89, hI.t90, hI.t91, hI.t92, hI.t93, hI.t94, hI.t95, hI.t96, hI.t97, hI.t98, hI.t99, hI.t100, hI.t101, hI.t102, hI.t103, hI.t104, hI.t105, hI.t106, hI.t107, hI.t108, hI.t109, hI.t110, hI.t111, hI.t112, hI.t113, hI.t114, hI.t115, hI.t116, hI.t117, hI.t118, hI.t119, hI.t120, hI.t121, hI.a1, hI.a3, hI.a4, hI.a25, hI.bw, hI.r9, hI.x0, hI.x1⟩⟩
  · rintro L a wx ⟨v, rfl, hI⟩ hL hdep hcl K hK
    have e59 := hI.t59 (hdep 59 (by decide))
    have e61 := hI.t61 (hdep 61 (by decide))
    rw [e59, e61]
    refine (if_pos rfl).mpr ?_
    have c0 := hI.x0
    have c1 := hI.x1
    go_simp
    exact hK _ _ ⟨(upd (upd (upd v 149 (.bool true)) 151 (.pointer (some ⟨b13, n13, none⟩))) 152 (.agg #[.int .i64 20, .int .u64 0])), rfl, ⟨hI.t0, hI.t1, hI.t2, hI.t3, hI.t4, hI.t5, hI.t6, hI.t7, hI.t8, hI.t9, hI.t10, hI.t11, hI.t12, hI.t13, hI.t14, hI.t15, hI.t16, hI.t17, hI.t18, hI.t19, hI.t20, hI.t21, hI.t22, hI.t23, hI.t24, hI.t25, hI.t26, hI.t27, hI.t28, hI.t29, hI.t30, hI.t31, hI.t32, hI.t33, hI.t34, hI.t35, hI.t36, hI.t37, hI.t38, hI.t39, hI.t40, hI.t41, hI.t42, hI.t43, hI.t44, hI.t45, hI.t46, hI.t47, hI.t48, hI.t49, hI.t50, hI.t51, hI.t52, hI.t53, hI.t54, hI.t55, hI.t56, hI.t57, hI.t58, fun _ => rfl, hI.t60, fun _ => rfl, fun _ => rfl, hI.t63, hI.t64, hI.t65, hI.t66, hI.t67, hI.t68, hI.t69, hI.t70, hI.t71, hI.t72, hI.t73, hI.t74, hI.t75, hI.t76, hI.t77, hI.t78, hI.t79, hI.t80, hI.t81, hI.t82, hI.t83, hI.t84, hI.t85, hI.t86, hI.t87, hI.t88, hI.t89, hI.t90, hI.t91, hI.t92, hI.t93, hI.t94, hI.t95, hI.t96, hI.t97, hI.t98, hI.t99, hI.t100, hI.t101, hI.t102, hI.t103, hI.t104, hI.t105, hI.t106, hI.t107, hI.t108, hI.t109, hI.t110, hI.t111, hI.t112, hI.t113, hI.t114, hI.t115, hI.t116, hI.t117, hI.t118, hI.t119, hI.t120, hI.t121, hI.a1, hI.a3, hI.a4, hI.a25, hI.bw, hI.r9, hI.x0, hI.x1⟩⟩
  · rintro L a wx ⟨v, rfl, hI⟩ hL hdep hcl K hK
    have e59 := hI.t59 (hdep 59 (by decide))
    rw [e59]
    refine (if_pos rfl).mpr ?_
    obtain ⟨c0, c1⟩ := hI.a25.two
    go_simp
    exact hK _ _ ⟨(upd (upd v 149 (.bool true)) 153 (.agg #[.int .i64 20, .int .u64 0])), rfl, ⟨hI.t0, hI.t1, hI.t2, hI.t3, hI.t4, hI.t5, hI.t6, hI.t7, hI.t8, hI.t9, hI.t10, hI.t11, hI.t12, hI.t13, hI.t14, hI.t15, hI.t16, hI.t17, hI.t18, hI.t19, hI.t20, hI.t21, hI.t22, hI.t23, hI.t24, hI.t25, hI.t26, hI.t27, hI.t28, hI.t29, hI.t30, hI.t31, hI.t32, hI.t33, hI.t34, hI.t35, hI.t36, hI.t37, hI.t38, hI.t39, hI.t40, hI.t41, hI.t42, hI.t43, hI.t44, hI.t45, hI.t46, hI.t47, hI.t48, hI.t49, hI.t50, hI.t51, hI.t52, hI.t53, hI.t54, hI.t55, hI.t56, hI.t57, hI.t58, fun _ => rfl, hI.t60, hI.t61, hI.t62, fun _ => rfl, hI.t64, hI.t65, hI.t66, hI.t67, hI.t68, hI.t69, hI.t70, hI.t71, hI.t72, hI.t73, hI.t74, hI.t75, hI.t76, hI.t77, hI.t78, hI.t79, hI.t80, hI.t81, hI.t82, hI.t83, hI.t84, hI.t85, hI.t86, hI.t87, hI.t88, hI.t89, hI.t90, hI.t91, hI.t92, hI.t93, hI.t94, hI.t95, hI.t96, hI.t97, hI.t98, hI.t99, hI.t100, hI.t101, hI.t102, hI.t103, hI.t104, hI.t105, hI.t106, hI.t107, hI.t108, hI.t109, hI.t110, hI.t111, hI.t112, hI.t113, hI.t114, hI.t115, hI.t116, hI.t117, hI.t118, hI.t119, hI.t120, hI.t121, hI.a1, hI.a3, hI.a4, hI.a25, hI.bw, hI.r9, hI.x0, hI.x1⟩⟩
  · rintro L a wx ⟨v, rfl, hI⟩ hL hdep hcl K hK
    have e59 := hI.t59 (hdep 59 (by decide))
    have e62 := hI.t62 (hdep 62 (by decide))
    have e63 := hI.t63 (hdep 63 (by decide))
    rw [e59, e62, e63]
    refine (if_pos rfl).mpr ?_
    go_simp
    exact hK _ _ ⟨(upd (upd (upd (upd v 149 (.bool true)) 152 (.agg #[.int .i64 20, .int .u64 0])) 153 (.agg #[.int .i64 20, .int .u64 0])) 154 (.bool true)), rfl, ⟨hI.t0, hI.t1, hI.t2, hI.t3, hI.t4, hI.t5, hI.t6, hI.t7, hI.t8, hI.t9, hI.t10, hI.t11, hI.t12, hI.t13, hI.t14, hI.t15, hI.t16, hI.t17, hI.t18, hI.t19, hI.t20, hI.t21, hI.t22, hI.t23, hI.t24, hI.t25, hI.t26, hI.t27, hI.t28, hI.t29, hI.t30, hI.t31, hI.t32, hI.t33, hI.t34, hI.t35, hI.t36, hI.t37, hI.t38, hI.t39, hI.t40, hI.t41, hI.t42, hI.t43, hI.t44, hI.t45, hI.t46, hI.t47, hI.t48, hI.t49, hI.t50, hI.t51, hI.t52, hI.t53, hI.t54, hI.t55, hI.t56, hI.t57, hI.t58, fun _ => rfl, hI.t60, hI.t61, fun _ => rfl, fun _ => rfl, fun _ => rfl, hI.t65, hI.t66, hI.t67, hI.t68, hI.t69, hI.t70, hI.t71, hI.t72, hI.t73, hI.t74, hI.t75, hI.t76, hI.t77, hI.t78, hI.t79, hI.t80, hI.t81, hI.t82, hI.t83, hI.t84, hI.t85, hI.t86, hI.t87, hI.t88, hI.t89, hI.t90, hI.t91, hI.t92, hI.t93, hI.t94, hI.t95, hI.t96, hI.t97, hI.t98, hI.t99, hI.t100, hI.t101, hI.t102, hI.t103, hI.t104, hI.t105, hI.t106, hI.t107, hI.t108, hI.t109, hI.t110, hI.t111, hI.t112, hI.t113, hI.t114, hI.t115, hI.t116, hI.t117, hI.t118, hI.t119, hI.t120, hI.t121, hI.a1, hI.a3, hI.a4, hI.a25, hI.bw, hI.r9, hI.x0, hI.x1⟩⟩
  · rintro L a wx ⟨v, rfl, hI⟩ hL hdep hcl K hK
    have e59 := hI.t59 (hdep 59 (by decide))
    have e64 := hI.t64 (hdep 64 (by decide))
    rw [e59, e64]
    go_simp
    exact hK _ _ ⟨(upd (upd (upd v 149 (.bool true)) 154 (.bool true)) 155 (.bool true)), rfl, ⟨hI.t0, hI.t1, hI.t2, hI.t3, hI.t4, hI.t5, hI.t6, hI.t7, hI.t8, hI.t9, hI.t10, hI.t11, hI.t12, hI.t13, hI.t14, hI.t15, hI.t16, hI.t17, hI.t18, hI.t19, hI.t20, hI.t21, hI.t22, hI.t23, hI.t24, hI.t25, hI.t26, hI.t27, hI.t28, hI.t29, hI.t30, hI.t31, hI.t32, hI.t33, hI.t34, hI.t35, hI.t36, hI.t37, hI.t38, hI.t39, hI.t40, hI.t41, hI.t42, hI.t43, hI.t44, hI.t45, hI.t46, hI.t47, hI.t48, hI.t49, hI.t50, hI.t51, hI.t52, hI.t53, hI.t54, hI.t55, hI.t56, hI.t57, hI.t58, fun _ => rfl, hI.t60, hI.t61, hI.t62, hI.t63, fun _ => rfl, fun _ => rfl, hI.t66, hI.t67, hI.t68, hI.t69, hI.t70, hI.t71, hI.t72, hI.t73, hI.t74, hI.t75, hI.t76, hI.t77, hI.t78, hI.t79, hI.t80, hI.t81, hI.t82, hI.t83, hI.t84, hI.t85, hI.t86, hI.t87, hI.t88, hI.t89, hI.t90, hI.t91, hI.t92, hI.t93, hI.t94, hI.t95, hI.t96, hI.t97, hI.t98, hI.t99, hI.t100, hI.t101, hI.t102, hI.t103, hI.t104, hI.t105, hI.t106, hI.t107, hI.t108, hI.t109, hI.t110, hI.t111, hI.t112, hI.t113, hI.t114, hI.t115, hI.t116, hI.t117, hI.t118, hI.t119, hI.t120, hI.t121, hI.a1, hI.a3, hI.a4, hI.a25, hI.bw, hI.r9, hI.x0, hI.x1⟩⟩
  · rintro L a wx ⟨v, rfl, hI⟩ hL hdep hcl K hK
    have e65 := hI.t65 (hdep 65 (by decide))
    rw [e65]
    go_simp
    exact hK _ _ ⟨(upd (upd v 155 (.bool true)) 156 (.bool true)), rfl, ⟨hI.t0, hI.t1, hI.t2, hI.t3, hI.t4, hI.t5, hI.t6, hI.t7, hI.t8, hI.t9, hI.t10, hI.t11, hI.t12, hI.t13, hI.t14, hI.t15, hI.t16, hI.t17, hI.t18, hI.t19, hI.t20, hI.t21, hI.t22, hI.t23, hI.t24, hI.t25, hI.t26, hI.t27, hI.t28, hI.t29, hI.t30, hI.t31, hI.t32, hI.t33, hI.t34, hI.t35, hI.t36, hI.t37, hI.t38, hI.t39, hI.t40, hI.t41, hI.t42, hI.t43, hI.t44, hI.t45, hI.t46, hI.t47, hI.t48, hI.t49, hI.t50, hI.t51, hI.t52, hI.t53, hI.t54, hI.t55, hI.t56, hI.t57, hI.t58, hI.t59, hI.t60, hI.t61, hI.t62, hI.t63, hI.t64, fun _ => rfl, fun _ => rfl, hI.t67, hI.t68, hI.t69, hI.t70, hI.t71, hI.t72, hI.t73, hI.t74, hI.t75, hI.t76, hI.t77, hI.t78, hI.t79, hI.t80, hI.t81, hI.t82, hI.t83, hI.t84, hI.t85, hI.t86, hI.t87, hI.t88, hI.t89, hI.t90, hI.t91, hI.t92, hI.t93, hI.t94, hI.t95, hI.t96, hI.t97, hI.t98, hI.t99, hI.t100, hI.t101, hI.t102, hI.t103, hI.t104, hI.t105, hI.t106, hI.t107, hI.t108, hI.t109, hI.t110, hI.t111, hI.t112, hI.t113, hI.t114, hI.t115, hI.t116, hI.t117, hI.t118, hI.t119, hI.t120, hI.t121, hI.a1, hI.a3, hI.a4, hI.a25, hI.bw, hI.r9, hI.x0, hI.x1⟩⟩
  · rintro L a wx ⟨v, rfl, hI⟩ hL hdep hcl K hK
    have e66 := hI.t66 (hdep 66 (by decide))
    rw [e66]
    refine (if_pos rfl).mpr ?_
    go_simp
    exact hK _ _ ⟨(upd (upd v 156 (.bool true)) 157 (.int .i64 1)), rfl, ⟨hI.t0, hI.t1, hI.t2, hI.t3, hI.t4, hI.t5, hI.t6, hI.t7, hI.t8, hI.t9, hI.t10, hI.t11, hI.t12, hI.t13, hI.t14, hI.t15, hI.t16, hI.t17, hI.t18, hI.t19, hI.t20, hI.t21, hI.t22, hI.t23, hI.t24, hI.t25, hI.t26, hI.t27, hI.t28, hI.t29, hI.t30, hI.t31, hI.t32, hI.t33, hI.t34, hI.t35, hI.t36, hI.t37, hI.t38, hI.t39, hI.t40, hI.t41, hI.t42, hI.t43, hI.t44, hI.t45, hI.t46, hI.t47, hI.t48, hI.t49, hI.t50, hI.t51, hI.t52, hI.t53, hI.t54, hI.t55, hI.t56, hI.t57, hI.t58, hI.t59, hI.t60, hI.t61, hI.t62, hI.t63, hI.t64, hI.t65, fun _ => rfl, fun _ => rfl, hI.t68, hI.t69, hI.t70, hI.t71, hI.t72, hI.t73, hI.t74, hI.t75, hI.t76, hI.t77, hI.t78, hI.t79, hI.t80, hI.t81, hI.t82, hI.t83, hI.t84, hI.t85, hI.t86, hI.t87, hI.t88, hI.t89, hI.t90, hI.t91, hI.t92, hI.t93, hI.t94, hI.t95, hI.t96, hI.t97, hI.t98, hI.t99, hI.t100, hI.t101, hI.t102, hI.t103, hI.t104, hI.t105, hI.t106, hI.t107, hI.t108, hI.t109, hI.t110, hI.t111, hI.t112, hI.t113, hI.t114, hI.t115, hI.t116, hI.t117, hI.t118, hI.t119, hI.t120, hI.t121, hI.a1, hI.a3, hI.a4, hI.a25, hI.bw, hI.r9, hI.x0, hI.x1⟩⟩
  · rintro L a wx ⟨v, rfl, hI⟩ hL hdep hcl K hK
    have e66 := hI.t66 (hdep 66 (by decide))
    have e67 := hI.t67 (hdep 67 (by decide))
    rw [e66, e67]
    refine (if_pos rfl).mpr ?_
    go_simp
    exact hK _ _ ⟨(upd (upd (upd v 156 (.bool true)) 157 (.int .i64 1)) 158 (.bool true)), rfl, ⟨hI.t0, hI.t1, hI.t2, hI.t3, hI.t4, hI.t5, hI.t6, hI.t7, hI.t8, hI.t9, hI.t10, hI.t11, hI.t12, hI.t13, hI.t14, hI.t15, hI.t16, hI.t17, hI.t18, hI.t19, hI.t20, hI.t21, hI.t22, hI.t23, hI.t24, hI.t25, hI.t26, hI.t27, hI.t28, hI.t29, hI.t30, hI.t31, hI.t32, hI.t33, hI.t34, hI.t35, hI.t36, hI.t37, hI.t38, hI.t39, hI.t40, hI.t41, hI.t42, hI.t43, hI.t44, hI.t45, hI.t46, hI.t47, hI.t48, hI.t49, hI.t50, hI.t51, hI.t52, hI.t53, hI.t54, hI.t55, hI.t56, hI.t57, hI.t58, hI.t59, hI.t60, hI.t61, hI.t62, hI.t63, hI.t64, hI.t65, fun _ => rfl, fun _ => rfl, fun _ => rfl, hI.t69, hI.t70, hI.t71, hI.t72, hI.t73, hI.t74, hI.t75, hI.t76, hI.t77, hI.t78, hI.t79, hI.t80, hI.t81, hI.t82, hI.t83, hI.t84, hI.t85, hI.t86, hI.t87, hI.t88, hI.t89, hI.t90, hI.t91, hI.t92, hI.t93, hI.t94, hI.t95, hI.t96, hI.t97, hI.t98, hI.t99, hI.t100, hI.t101, hI.t102, hI.t103, hI.t104, hI.t105, hI.t106, hI.t107, hI.t108, hI.t109, hI.t110, hI.t111, hI.t112, hI.t113, hI.t114, hI.t115, hI.t116, hI.t117, hI.t118, hI.t119, hI.t120, hI.t121, hI.a1, hI.a3, hI.a4, hI.a25, hI.bw, hI.r9, hI.x0, hI.x1⟩⟩
  · rintro L a wx ⟨v, rfl, hI⟩ hL hdep hcl K hK
    have e66 := hI.t66 (hdep 66 (by decide))
    have e68 := hI.t68 (hdep 68 (by decide))
    rw [e66, e68]
    go_simp
    exact hK _ _ ⟨(upd (upd (upd v 156 (.bool true)) 158 (.bool true)) 159 (.bool true)), rfl, ⟨hI.t0, hI.t1, hI.t2, hI.t3, hI.t4, hI.t5, hI.t6, hI.t7, hI.t8, hI.t9, hI.t10, hI.t11, hI.t12, hI.t13, hI.t14, hI.t15, hI.t16, hI.t17, hI.t18, hI.t19, hI.t20, hI.t21, hI.t22, hI.t23, hI.t24, hI.t25, hI.t26, hI.t27, hI.t28, hI.t29, hI.t30, hI.t31, hI.t32, hI.t33, hI.t34, hI.t35, hI.t36, hI.t37, hI.t38, hI.t39, hI.t40, hI.t41, hI.t42, hI.t43, hI.t44, hI.t45, hI.t46, hI.t47, hI.t48, hI.t49, hI.t50, hI.t51, hI.t52, hI.t53, hI.t54, hI.t55, hI.t56, hI.t57, hI.t58, hI.t59, hI.t60, hI.t61, hI.t62, hI.t63, hI.t64, hI.t65, fun _ => rfl, hI.t67, fun _ => rfl, fun _ => rfl, hI.t70, hI.t71, hI.t72, hI.t73, hI.t74, hI.t75, hI.t76, hI.t77, hI.t78, hI.t79, hI.t80, hI.t81, hI.t82, hI.t83, hI.t84, hI.t85, hI.t86, hI.t87, hI.t88, hI.t89, hI.t90, hI.t91, hI.t92, hI.t93, hI.t94, hI.t95, hI.t96, hI.t97, hI.t98, hI.t99, hI.t100, hI.t101, hI.t102, hI.t103, hI.t104, hI.t105, hI.t106, hI.t107, hI.t108, hI.t109, hI.t110, hI.t111, hI.t112, hI.t113, hI.t114, hI.t115, hI.t116, hI.t117, hI.t118, hI.t119, hI.t120, hI.t121, hI.a1, hI.a3, hI.a4, hI.a25, hI.bw, hI.r9, hI.x0, hI.x1⟩⟩
  · rintro L a wx ⟨v, rfl, hI⟩ hL hdep hcl K hK
    have e69 := hI.t69 (hdep 69 (by decide))
    rw [e69]
    go_simp
    exact hK _ _ ⟨(upd (upd v 159 (.bool true)) 160 (.bool true)), rfl, ⟨hI.t0, hI.t1, hI.t2, hI.t3, hI.t4, hI.t5, hI.t6, hI.t7, hI.t8, hI.t9, hI.t10, hI.t11, hI.t12, hI.t13, hI.t14, hI.t15, hI.t16, hI.t17, hI.t18, hI.t19, hI.t20, hI.t21, hI.t22, hI.t23, hI.t24, hI.t25, hI.t26, hI.t27, hI.t28, hI.t29, hI.t30, hI.t31, hI.t32, hI.t33, hI.t34, hI.t35, hI.t36, hI.t37, hI.t38, hI.t39, hI.t40, hI.t41, hI.t42, hI.t43, hI.t44, hI.t45, hI.t46, hI.t47, hI.t48, hI.t49, hI.t50, hI.t51, hI.t52, hI.t53, hI.t54, hI.t55, hI.t56, hI.t57, hI.t58, hI.t59, hI.t60, hI.t61, hI.t62, hI.t63, hI.t64, hI.t65, hI.t66, hI.t67, hI.t68, fun _ => rfl, fun _ => rfl, hI.t71, hI.t72, hI.t73, hI.t74, hI.t75, hI.t76, hI.t77, hI.t78, hI.t79, hI.t80, hI.t81, hI.t82, hI.t83, hI.t84, hI.t85, hI.t86, hI.t87, hI.t88, hI.t89, hI.t90, hI.t91, hI.t92, hI.t93, hI.t94, hI.t95, hI.t96, hI.t97, hI.t98, hI.t99, hI.t100, hI.t101, hI.t102, hI.t103, hI.t104, hI.t105, hI.t106, hI.t107, hI.t108, hI.t109, hI.t110, hI.t111, hI.t112, hI.t113, hI.t114, hI.t115, hI.t116, hI.t117, hI.t118, hI.t119, hI.t120, hI.t121, hI.a1, hI.a3, hI.a4, hI.a25, hI.bw, hI.r9, hI.x0, hI.x1⟩⟩
  · rintro L a wx ⟨v, rfl, hI⟩ hL hdep hcl K hK
    have e70 := hI.t70 (hdep 70 (by decide))
    rw [e70]
    refine (if_pos rfl).mpr ?_
    go_simp
    exact hK _ _ ⟨(upd (upd v 160 (.bool true)) 161 (.int .i64 1)), rfl, ⟨hI.t0, hI.t1, hI.t2, hI.t3, hI.t4, hI.t5, hI.t6, hI.t7, hI.t8, hI.t9, hI.t10, hI.t11, hI.t12, hI.t13, hI.t14, hI.t15, hI.t16, hI.t17, hI.t18, hI.t19, hI.t20, hI.t21, hI.t22, hI.t23, hI.t24, hI.t25, hI.t26, hI.t27, hI.t28, hI.t29, hI.t30, hI.t31, hI.t32, hI.t33, hI.t34, hI.t35, hI.t36, hI.t37, hI.t38, hI.t39, hI.t40, hI.t41, hI.t42, hI.t43, hI.t44, hI.t45, hI.t46, hI.t47, hI.t48, hI.t49, hI.t50, hI.t51, hI.t52, hI.t53, hI.t54, hI.t55, hI.t56, hI.t57, hI.t58, hI.t59, hI.t60, hI.t61, hI.t62, hI.t63, hI.t64, hI.t65, hI.t66, hI.t67, hI.t68, hI.t69, fun _ => rfl, fun _ => rfl, hI.t72, hI.t73, hI.t74, hI.t75, hI.t76, hI.t77, hI.t78, hI.t79, hI.t80, hI.t81, hI.t82, hI.t83, hI.t84, hI.t85, hI.t86, hI.t87, hI.t88, hI.t89, hI.t90, hI.t91, hI.t92, hI.t93, hI.t94, hI.t95, hI.t96, hI.t97, hI.t98, hI.t99, hI.t100, hI.t101, hI.t102, hI.t103, hI.t104, hI.t105, hI.t106, hI.t107, hI.t108, hI.t109, hI.t110, hI.t111, hI.t112, hI.t113, hI.t114, hI.t115, hI.t116, hI.t117, hI.t118, hI.t119, hI.t120, hI.t121, hI.a1, hI.a3, hI.a4, hI.a25, hI.bw, hI.r9, hI.x0, hI.x1⟩⟩
  · rintro L a wx ⟨v, rfl, hI⟩ hL hdep hcl K hK
    have e70 := hI.t70 (hdep 70 (by decide))
    have e71 := hI.t71 (hdep 71 (by decide))
    rw [e70, e71]
    refine (if_pos rfl).mpr ?_
    go_simp
    exact hK _ _ ⟨(upd (upd (upd v 160 (.bool true)) 161 (.int .i64 1)) 162 (.bool true)), rfl, ⟨hI.t0, hI.t1, hI.t2, hI.t3, hI.t4, hI.t5, hI.t6, hI.t7, hI.t8, hI.t9, hI.t10, hI.t11, hI.t12, hI.t13, hI.t14, hI.t15, hI.t16, hI.t17, hI.t18, hI.t19, hI.t20, hI.t21, hI.t22, hI.t23, hI.t24, hI.t25, hI.t26, hI.t27, hI.t28, hI.t29, hI.t30, hI.t31, hI.t32, hI.t33, hI.t34, hI.t35, hI.t36, hI.t37, hI.t38, hI.t39, hI.t40, hI.t41, hI.t42, hI.t43, hI.t44, hI.t45, hI.t46, hI.t47, hI.t48, hI.t49, hI.t50, hI.t51, hI.t52, hI.t53, hI.t54, hI.t55, hI.t56, hI.t57, hI.t58, hI.t59, hI.t60, hI.t61, hI.t62, hI.t63, hI.t64, hI.t65, hI.t66, hI.t67, hI.t68, hI.t69, fun _ => rfl, fun _ => rfl, fun _ => rfl, hI.t73, hI.t74, hI.t75, hI.t76, hI.t77, hI.t78, hI.t79, hI.t80, hI.t81, hI.t82, hI.t83, hI.t84, hI.t85, hI.t86, hI.t87, hI.t88, hI.t89, hI.t90, hI.t91, hI.t92, hI.t93, hI.t94, hI.t95, hI.t96, hI.t97, hI.t98, hI.t99, hI.t100, hI.t101, hI.t102, hI.t103, hI.t104, hI.t105, hI.t106, hI.t107, hI.t108, hI.t109, hI.t110, hI.t111, hI.t112, hI.t113, hI.t114, hI.t115, hI.t116, hI.t117, hI.t118, hI.t119, hI.t120, hI.t121, hI.a1, hI.a3, hI.a4, hI.a25, hI.bw, hI.r9, hI.x0, hI.x1⟩⟩
  · rintro L a wx ⟨v, rfl, hI⟩ hL hdep hcl K hK
    have e70 := hI.t70 (hdep 70 (by decide))
    have e72 := hI.t72 (hdep 72 (by decide))
    rw [e70, e72]
    go_simp
    exact hK _ _ ⟨(upd (upd (upd v 160 (.bool true)) 162 (.bool true)) 163 (.bool true)), rfl, ⟨hI.t0, hI.t1, hI.t2, hI.t3, hI.t4, hI.t5, hI.t6, hI.t7, hI.t8, hI.t9, hI.t10, hI.t11, hI.t12, hI.t13, hI.t14, hI.t15, hI.t16, hI.t17, hI.t18, hI.t19, hI.t20, hI.t21, hI.t22, hI.t23, hI.t24, hI.t25, hI.t26, hI.t27, hI.t28, hI.t29, hI.t30, hI.t31, hI.t32, hI.t33, hI.t34, hI.t35, hI.t36, hI.t37, hI.t38, hI.t39, hI.t40, hI.t41, hI.t42, hI.t43, hI.t44, hI.t45, hI.t46, hI.t47, hI.t48, hI.t49, hI.t50, hI.t51, hI.t52, hI.t53, hI.t54, hI.t55, hI.t56, hI.t57, hI.t58, hI.t59, hI.t60, hI.t61, hI.t62, hI.t63, hI.t64, hI.t65, hI.t66, hI.t67, hI.t68, hI.t69, fun _ => rfl, hI.t71, fun _ => rfl, fun _ => rfl, hI.t74, hI.t75, hI.t76, hI.t77, hI.t78, hI.t79, hI.t80, hI.t81, hI.t82, hI.t83, hI.t84, hI.t85, hI.t86, hI.t87, hI.t88, hI.t89, hI.t90, hI.t91, hI.t92, hI.t93, hI.t94, hI.t95, hI.t96, hI.t97, hI.t98, hI.t99, hI.t100, hI.t101, hI.t102, hI.t103, hI.t104, hI.t105, hI.t106, hI.t107, hI.t108, hI.t109, hI.t110, hI.t111, hI.t112, hI.t113, hI.t114, hI.t115, hI.t116, hI.t117, hI.t118, hI.t119, hI.t120, hI.t121, hI.a1, hI.a3, hI.a4, hI.a25, hI.bw, hI.r9, hI.x0, hI.x1⟩⟩
  · rintro L a wx ⟨v, rfl, hI⟩ hL hdep hcl K hK
    have e73 := hI.t73 (hdep 73 (by decide))
    rw [e73]
    go_simp
    exact hK _ _ ⟨(upd (upd v 163 (.bool true)) 164 (.bool true)), rfl, ⟨hI.t0, hI.t1, hI.t2, hI.t3, hI.t4, hI.t5, hI.t6, hI.t7, hI.t8, hI.t9, hI.t10, hI.t11, hI.t12, hI.t13, hI.t14, hI.t15, hI.t16, hI.t17, hI.t18, hI.t19, hI.t20, hI.t21, hI.t22, hI.t23, hI.t24, hI.t25, hI.t26, hI.t27, hI.t28, hI.t29, hI.t30, hI.t31, hI.t32, hI.t33, hI.t34, hI.t35, hI.t36, hI.t37, hI.t38, hI.t39, hI.t40, hI.t41, hI.t42, hI.t43, hI.t44, hI.t45, hI.t46, hI.t47, hI.t48, hI.t49, hI.t50, hI.t51, hI.t52, hI.t53, hI.t54, hI.t55, hI.t56, hI.t57, hI.t58, hI.t59, hI.t60, hI.t61, hI.t62, hI.t63, hI.t64, hI.t65, hI.t66, hI.t67, hI.t68, hI.t69, hI.t70, hI.t71, hI.t72, fun _ => rfl, fun _ => rfl, hI.t75, hI.t76, hI.t77, hI.t78, hI.t79, hI.t80, hI.t81, hI.t82, hI.t83, hI.t84, hI.t85, hI.t86, hI.t87, hI.t88, hI.t89, hI.t90, hI.t91, hI.t92, hI.t93, hI.t94, hI.t95, hI.t96, hI.t97, hI.t98, hI.t99, hI.t100, hI.t101, hI.t102, hI.t103, hI.t104, hI.t105, hI.t106, hI.t107, hI.t108, hI.t109, hI.t110, hI.t111, hI.t112, hI.t113, hI.t114, hI.t115, hI.t116, hI.t117, hI.t118, hI.t119, hI.t120, hI.t121, hI.a1, hI.a3, hI.a4, hI.a25, hI.bw, hI.r9, hI.x0, hI.x1⟩⟩
  · rintro L a wx ⟨v, rfl, hI⟩ hL hdep hcl K hK
    have e74 := hI.t74 (hdep 74 (by decide))
    rw [e74]
    refine (if_pos rfl).mpr ?_
    go_simp
    exact hK _ _ ⟨(upd (upd v 164 (.bool true)) 165 (.int .i64 0)), rfl, ⟨hI.t0, hI.t1, hI.t2, hI.t3, hI.t4, hI.t5, hI.t6, hI.t7, hI.t8, hI.t9, hI.t10, hI.t11, hI.t12, hI.t13, hI.t14, hI.t15, hI.t16, hI.t17, hI.t18, hI.t19, hI.t20, hI.t21, hI.t22, hI.t23, hI.t24, hI.t25, hI.t26, hI.t27, hI.t28, hI.t29, hI.t30, hI.t31, hI.t32, hI.t33, hI.t34, hI.t35, hI.t36, hI.t37, hI.t38, hI.t39, hI.t40, hI.t41, hI.t42, hI.t43, hI.t44, hI.t45, hI.t46, hI.t47, hI.t48, hI.t49, hI.t50, hI.t51, hI.t52, hI.t53, hI.t54, hI.t55, hI.t56, hI.t57, hI.t58, hI.t59, hI.t60, hI.t61, hI.t62, hI.t63, hI.t64, hI.t65, hI.t66, hI.t67, hI.t68, hI.t69, hI.t70, hI.t71, hI.t72, hI.t73, fun _ => rfl, fun _ => rfl, hI.t76, hI.t77, hI.t78, hI.t79, hI.t80, hI.t81, hI.t82, hI.t83, hI.t84, hI.t85, hI.t86, hI.t87, hI.t88, hI.t89, hI.t90, hI.t91, hI.t92, hI.t93, hI.t94, hI.t95, hI.t96, hI.t97, hI.t98, hI.t99, hI.t100, hI.t101, hI.t102, hI.t103, hI.t104, hI.t105, hI.t106, hI.t107, hI.t108, hI.t109, hI.t110, hI.t111, hI.t112, hI.t113, hI.t114, hI.t115, hI.t116, hI.t117, hI.t118, hI.t119, hI.t120, hI.t121, hI.a1, hI.a3, hI.a4, hI.a25, hI.bw, hI.r9, hI.x0, hI.x1⟩⟩
  · rintro L a wx ⟨v, rfl, hI⟩ hL hdep hcl K hK
    have e74 := hI.t74 (hdep 74 (by decide))
    have e75 := hI.t75 (hdep 75 (by decide))
    rw [e74, e75]
    refine (if_pos rfl).mpr ?_
    go_simp
    exact hK _ _ ⟨(upd (upd (upd v 164 (.bool true)) 165 (.int .i64 0)) 166 (.bool true)), rfl, ⟨hI.t0, hI.t1, hI.t2, hI.t3, hI.t4, hI.t5, hI.t6, hI.t7, hI.t8, hI.t9, hI.t10, hI.t11, hI.t12, hI.t13, hI.t14, hI.t15, hI.t16, hI.t17, hI.t18, hI.t19, hI.t20, hI.t21, hI.t22, hI.t23, hI.t24, hI.t25, hI.t26, hI.t27, hI.t28, hI.t29, hI.t30, hI.t31, hI.t32, hI.t33, hI.t34, hI.t35, hI.t36, hI.t37, hI.t38, hI.t39, hI.t40, hI.t41, hI.t42, hI.t43, hI.t44, hI.t45, hI.t46, hI.t47, hI.t48, hI.t49, hI.t50, hI.t51, hI.t52, hI.t53, hI.t54, hI.t55, hI.t56, hI.t57, hI.t58, hI.t59, hI.t60, hI.t61, hI.t62, hI.t63, hI.t64, hI.t65, hI.t66, hI.t67, hI.t68, hI.t69, hI.t70, hI.t71, hI.t72, hI.t73, fun _ => rfl, fun _ => rfl, fun _ => rfl, hI.t77, hI.t78, hI.t79, hI.t80, hI.t81, hI.t82, hI.t83, hI.t84, hI.t85, hI.t86, hI.t87, hI.t88, hI.t89, hI.t90, hI.t91, hI.t92, hI.t93, hI.t94, hI.t95, hI.t96, hI.t97, hI.t98, hI.t99, hI.t100, hI.t101, hI.t102, hI.t103, hI.t104, hI.t105, hI.t106, hI.t107, hI.t108, hI.t109, hI.t110, hI.t111, hI.t112, hI.t113, hI.t114, hI.t115, hI.t116, hI.t117, hI.t118, hI.t119, hI.t120, hI.t121, hI.a1, hI.a3, hI.a4, hI.a25, hI.bw, hI.r9, hI.x0, hI.x1⟩⟩
  · rintro L a wx ⟨v, rfl, hI⟩ hL hdep hcl K hK
    have e74 := hI.t74 (hdep 74 (by decide))
    have e76 := hI.t76 (hdep 76 (by decide))
    rw [e74, e76]
    go_simp
    exact hK _ _ ⟨(upd (upd (upd v 164 (.bool true)) 166 (.bool true)) 167 (.bool true)), rfl, ⟨hI.t0, hI.t1, hI.t2, hI.t3, hI.t4, hI.t5, hI.t6, hI.t7, hI.t8, hI.t9, hI.t10, hI.t11, hI.t12, hI.t13, hI.t14, hI.t15, hI.t16, hI.t17, hI.t18, hI.t19, hI.t20, hI.t21, hI.t22, hI.t23, hI.t24, hI.t25, hI.t26, hI.t27, hI.t28, hI.t29, hI.t30, hI.t31, hI.t32, hI.t33, hI.t34, hI.t35, hI.t36, hI.t37, hI.t38, hI.t39, hI.t40, hI.t41, hI.t42, hI.t43, hI.t44, hI.t45, hI.t46, hI.t47, hI.t48, hI.t49, hI.t50, hI.t51, hI.t52, hI.t53, hI.t54, hI.t55, hI.t56, hI.t57, hI.t58, hI.t59, hI.t60, hI.t61, hI.t62, hI.t63, hI.t64, hI.t65, hI.t66, hI.t67, hI.t68, hI.t69, hI.t70, hI.t71, hI.t72, hI.t73, fun _ => rfl, hI.t75, fun _ => rfl, fun _ => rfl, hI.t78, hI.t79, hI.t80, hI.t81, hI.t82, hI.t83, hI.t84, hI.t85, hI.t86, hI.t87, hI.t88, hI.t89, hI.t90, hI.t91, hI.t92, hI.t93, hI.t94, hI.t95, hI.t96, hI.t97, hI.t98, hI.t99, hI.t100, hI.t101, hI.t102, hI.t103, hI.t104, hI.t105, hI.t106, hI.t107, hI.t108, hI.t109, hI.t110, hI.t111, hI.t112, hI.t113, hI.t114, hI.t115, hI.t116, hI.t117, hI.t118, hI.t119, hI.t120, hI.t121, hI.a1, hI.a3, hI.a4, hI.a25, hI.bw, hI.r9, hI.x0, hI.x1⟩⟩
  · rintro L a wx ⟨v, rfl, hI⟩ hL hdep hcl K hK
    have e77 := hI.t77 (hdep 77 (by decide))
    rw [e77]
    go_simp
    exact hK _ _ ⟨(upd (upd v 167 (.bool true)) 168 (.bool true)), rfl, ⟨hI.t0, hI.t1, hI.t2, hI.t3, hI.t4, hI.t5, hI.t6, hI.t7, hI.t8, hI.t9, hI.t10, hI.t11, hI.t12, hI.t13, hI.t14, hI.t15, hI.t16, hI.t17, hI.t18, hI.t19, hI.t20, hI.t21, hI.t22, hI.t23, hI.t24, hI.t25, hI.t26, hI.t27, hI.t28, hI.t29, hI.t30, hI.t31, hI.t32, hI.t33, hI.t34, hI.t35, hI.t36, hI.t37, hI.t38, hI.t39, hI.t40, hI.t41, hI.t42, hI.t43, hI.t44, hI.t45, hI.t46, hI.t47, hI.t48, hI.t49, hI.t50, hI.t51, hI.t52, hI.t53, hI.t54, hI.t55, hI.t56, hI.t57, hI.t58, hI.t59, hI.t60, hI.t61, hI.t62, hI.t63, hI.t64, hI.t65, hI.t66, hI.t67, hI.t68, hI.t69, hI.t70, hI.t71, hI.t72, hI.t73, hI.t74, hI.t75, hI.t76, fun _ => rfl, fun _ => rfl, hI.t79, hI.t80, hI.t81, hI.t82, hI.t83, hI.t84, hI.t85, hI.t86, hI.t87, hI.t88, hI.t89, hI.t90, hI.t91, hI.t92, hI.t93, hI.t94, hI.t95, hI.t96, hI.t97, hI.t98, hI.t99, hI.t100, hI.t101, hI.t102, hI.t103, hI.t104, hI.t105, hI.t106, hI.t107, hI.t108, hI.t109, hI.t110, hI.t111, hI.t112, hI.t113, hI.t114, hI.t115, hI.t116, hI.t117, hI.t118, hI.t119, hI.t120, hI.t121, hI.a1, hI.a3, hI.a4, hI.a25, hI.bw, hI.r9, hI.x0, hI.x1⟩⟩
  · rintro L a wx ⟨v, rfl, hI⟩ hL hdep hcl K hK
    have e78 := hI.t78 (hdep 78 (by decide))
    rw [e78]
    refine (if_pos rfl).mpr ?_
    go_simp
    exact hK _ _ ⟨(upd (upd v 168 (.bool true)) 169 (.int .u64 1)), rfl, ⟨hI.t0, hI.t1, hI.t2, hI.t3, hI.t4, hI.t5, hI.t6, hI.t7, hI.t8, hI.t9, hI.t10, hI.t11, hI.t12, hI.t13, hI.t14, hI.t15, hI.t16, hI.t17, hI.t18, hI.t19, hI.t20, hI.t21, hI.t22, hI.t23, hI.t24, hI.t25, hI.t26, hI.t27, hI.t28, hI.t29, hI.t30, hI.t31, hI.t32, hI.t33, hI.t34, hI.t35, hI.t36, hI.t37, hI.t38, hI.t39, hI.t40, hI.t41, hI.t42, hI.t43, hI.t44, hI.t45, hI.t46, hI.t47, hI.t48, hI.t49, hI.t50, hI.t51, hI.t52, hI.t53, hI.t54, hI.t55, hI.t56, hI.t57, hI.t58, hI.t59, hI.t60, hI.t61, hI.t62, hI.t63, hI.t64, hI.t65, hI.t66, hI.t67, hI.t68, hI.t69, hI.t70, hI.t71, hI.t72, hI.t73, hI.t74, hI.t75, hI.t76, hI.t77, fun _ => rfl, fun _ => rfl, hI.t80, hI.t81, hI.t82, hI.t83, hI.t84, hI.t85, hI.t86, hI.t87, hI.t88, hI.t89, hI.t90, hI.t91, hI.t92, hI.t93, hI.t94, hI.t95, hI.t96, hI.t97, hI.t98, hI.t99, hI.t100, hI.t101, hI.t102, hI.t103, hI.t104, hI.t105, hI.t106, hI.t107, hI.t108, hI.t109, hI.t110, hI.t111, hI.t112, hI.t113, hI.t114, hI.t115, hI.t116, hI.t117, hI.t118, hI.t119, hI.t120, hI.t121, hI.a1, hI.a3, hI.a4, hI.a25, hI.bw, hI.r9, hI.x0, hI.x1⟩⟩
  · rintro L a wx ⟨v, rfl, hI⟩ hL hdep hcl K hK
    have e78 := hI.t78 (hdep 78 (by decide))
    have e79 := hI.t79 (hdep 79 (by decide))
    rw [e78, e79]
    refine (if_pos rfl).mpr ?_
    go_simp
    exact hK _ _ ⟨(upd (upd (upd v 168 (.bool true)) 169 (.int .u64 1)) 170 (.bool true)), rfl, ⟨hI.t0, hI.t1, hI.t2, hI.t3, hI.t4, hI.t5, hI.t6, hI.t7, hI.t8, hI.t9, hI.t10, hI.t11, hI.t12, hI.t13, hI.t14, hI.t15, hI.t16, hI.t17, hI.t18, hI.t19, hI.t20, hI.t21, hI.t22, hI.t23, hI.t24, hI.t25, hI.t26, hI.t27, hI.t28, hI.t29, hI.t30, hI.t31, hI.t32, hI.t33, hI.t34, hI.t35, hI.t36, hI.t37, hI.t38, hI.t39, hI.t40, hI.t41, hI.t42, hI.t43, hI.t44, hI.t45, hI.t46, hI.t47, hI.t48, hI.t49, hI.t50, hI.t51, hI.t52, hI.t53, hI.t54, hI.t55, hI.t56, hI.t57, hI.t58, hI.t59, hI.t60, hI.t61, hI.t62, hI.t63, hI.t64, hI.t65, hI.t66, hI.t67, hI.t68, hI.t69, hI.t70, hI.t71, hI.t72, hI.t73, hI.t74, hI.t75, hI.t76, hI.t77, fun _ => rfl, fun _ => rfl, fun _ => rfl, hI.t81, hI.t82, hI.t83, hI.t84, hI.t85, hI.t86, hI.t87, hI.t88, hI.t89, hI.t90, hI.t91, hI.t92, hI.t93, hI.t94, hI.t95, hI.t96, hI.t97, hI.t98, hI.t99, hI.t100, hI.t101, hI.t102, hI.t103, hI.t104, hI.t105, hI.t106, hI.t107, hI.t108, hI.t109, hI.t110, hI.t111, hI.t112, hI.t113, hI.t114, hI.t115, hI.t116, hI.t117, hI.t118, hI.t119, hI.t120, hI.t121, hI.a1, hI.a3, hI.a4, hI.a25, hI.bw, hI.r9, hI.x0, hI.x1⟩⟩
  · rintro L a wx ⟨v, rfl, hI⟩ hL hdep hcl K hK
    have e78 := hI.t78 (hdep 78 (by decide))
    have e80 := hI.t80 (hdep 80 (by decide))
    rw [e78, e80]
    go_simp
    exact hK _ _ ⟨(upd (upd (upd v 168 (.bool true)) 170 (.bool true)) 171 (.bool true)), rfl, ⟨hI.t0, hI.t1, hI.t2, hI.t3, hI.t4, hI.t5, hI.t6, hI.t7, hI.t8, hI.t9, hI.t10, hI.t11, hI.t12, hI.t13, hI.t14, hI.t15, hI.t16, hI.t17, hI.t18, hI.t19, hI.t20, hI.t21, hI.t22, hI.t23, hI.t24, hI.t25, hI.t26, hI.t27, hI.t28, hI.t29, hI.t30, hI.t31, hI.t32, hI.t33, hI.t34, hI.t35, hI.t36, hI.t37, hI.t38, hI.t39, hI.t40, hI.t41, hI.t42, hI.t43, hI.t44, hI.t45, hI.t46, hI.t47, hI.t48, hI.t49, hI.t50, hI.t51, hI.t52, hI.t53, hI.t54, hI.t55, hI.t56, hI.t57, hI.t58, hI.t59, hI.t60, hI.t61, hI.t62, hI.t63, hI.t64, hI.t65, hI.t66, hI.t67, hI.t68, hI.t69, hI.t70, hI.t71, hI.t72, hI.t73, hI.t74, hI.t75, hI.t76, hI.t77, fun _ => rfl, hI.t79, fun _ => rfl, fun _ => rfl, hI.t82, hI.t83, hI.t84, hI.t85, hI.t86, hI.t87, hI.t88, hI.t89, hI.t90, hI.t91, hI.t92, hI.t93, hI.t94, hI.t95, hI.t96, hI.t97, hI.t98, hI.t99, hI.t100, hI.t101, hI.t102, hI.t103, hI.t104, hI.t105, hI.t106, hI.t107, hI.t108, hI.t109, hI.t110, hI.t111, hI.t112, hI.t113, hI.t114, hI.t115, hI.t116, hI.t117, hI.t118, hI.t119, hI.t120, hI.t121, hI.a1, hI.a3, hI.a4, hI.a25, hI.bw, hI.r9, hI.x0, hI.x1⟩⟩
  · rintro L a wx ⟨v, rfl, hI⟩ hL hdep hcl K hK
    have e81 := hI.t81 (hdep 81 (by decide))
    rw [e81]
    go_simp
    exact hK _ _ ⟨(upd (upd v 171 (.bool true)) 172 (.bool true)), rfl, ⟨hI.t0, hI.t1, hI.t2, hI.t3, hI.t4, hI.t5, hI.t6, hI.t7, hI.t8, hI.t9, hI.t10, hI.t11, hI.t12, hI.t13, hI.t14, hI.t15, hI.t16, hI.t17, hI.t18, hI.t19, hI.t20, hI.t21, hI.t22, hI.t23, hI.t24, hI.t25, hI.t26, hI.t27, hI.t28, hI.t29, hI.t30, hI.t31, hI.t32, hI.t33, hI.t34, hI.t35, hI.t36, hI.t37, hI.t38, hI.t39, hI.t40, hI.t41, hI.t42, hI.t43, hI.t44, hI.t45, hI.t46, hI.t47, hI.t48, hI.t49, hI.t50, hI.t51, hI.t52, hI.t53, hI.t54, hI.t55, hI.t56, hI.t57, hI.t58, hI.t59, hI.t60, hI.t61, hI.t62, hI.t63, hI.t64, hI.t65, hI.t66, hI.t67, hI.t68, hI.t69, hI.t70, hI.t71, hI.t72, hI.t73, hI.t74, hI.t75, hI.t76, hI.t77, hI.t78, hI.t79, hI.t80, fun _ => rfl, fun _ => rfl, hI.t83, hI.t84, hI.t85, hI.t86, hI.t87, hI.t88, hI.t89, hI.t90, hI.t91, hI.t92, hI.t93, hI.t94, hI.t95, hI.t96, hI.t97, hI.t98, hI.t99, hI.t100, hI.t101, hI.t102, hI.t103, hI.t104, hI.t105, hI.t106, hI.t107, hI.t108, hI.t109, hI.t110, hI.t111, hI.t112, hI.t113, hI.t114, hI.t115, hI.t116, hI.t117, hI.t118, hI.t119, hI.t120, hI.t121, hI.a1, hI.a3, hI.a4, hI.a25, hI.bw, hI.r9, hI.x0, hI.x1⟩⟩
  · rintro L a wx ⟨v, rfl, hI⟩ hL hdep hcl K hK
    have e82 := hI.t82 (hdep 82 (by decide))
    rw [e82]
    refine (if_pos rfl).mpr ?_
    go_simp
    exact hK _ _ ⟨(upd (upd v 172 (.bool true)) 173 (.int .i64 0)), rfl, ⟨hI.t0, hI.t1, hI.t2, hI.t3, hI.t4, hI.t5, hI.t6, hI.t7, hI.t8, hI.t9, hI.t10, hI.t11, hI.t12, hI.t13, hI.t14, hI.t15, hI.t16, hI.t17, hI.t18, hI.t19, hI.t20, hI.t21, hI.t22, hI.t23, hI.t24, hI.t25, hI.t26, hI.t27, hI.t28, hI.t29, hI.t30, hI.t31, hI.t32, hI.t33, hI.t34, hI.t35, hI.t36, hI.t37, hI.t38, hI.t39, hI.t40, hI.t41, hI.t42, hI.t43, hI.t44, hI.t45, hI.t46, hI.t47, hI.t48, hI.t49, hI.t50, hI.t51, hI.t52, hI.t53, hI.t54, hI.t55, hI.t56, hI.t57, hI.t58, hI.t59, hI.t60, hI.t61, hI.t62, hI.t63, hI.t64, hI.t65, hI.t66, hI.t67, hI.t68, hI.t69, hI.t70, hI.t71, hI.t72, hI.t73, hI.t74, hI.t75, hI.t76, hI.t77, hI.t78, hI.t79, hI.t80, hI.t81, fun _ => rfl, fun _ => rfl, hI.t84, hI.t85, hI.t86, hI.t87, hI.t88, hI.t89, hI.t90, hI.t91, hI.t92, hI.t93, hI.t94, hI.t95, hI.t96, hI.t97, hI.t98, hI.t99, hI.t100, hI.t101, hI.t102, hI.t103, hI.t104, hI.t105, hI.t106, hI.t107, hI.t108, hI.t109, hI.t110, hI.t111, hI.t112, hI.t113, hI.t114, hI.t115, hI.t116, hI.t117, hI.t118, hI.t119, hI.t120, hI.t121, hI.a1, hI.a3, hI.a4, hI.a25, hI.bw, hI.r9, hI.x0, hI.x1⟩⟩
  · rintro L a wx ⟨v, rfl, hI⟩ hL hdep hcl K hK
    have e82 := hI.t82 (hdep 82 (by decide))
    have e83 := hI.t83 (hdep 83 (by decide))
    rw [e82, e83]
    refine (if_pos rfl).mpr ?_
    go_simp
    exact hK _ _ ⟨(upd (upd (upd v 172 (.bool true)) 173 (.int .i64 0)) 174 (.bool true)), rfl, ⟨hI.t0, hI.t1, hI.t2, hI.t3, hI.t4, hI.t5, hI.t6, hI.t7, hI.t8, hI.t9, hI.t10, hI.t11, hI.t12, hI.t13, hI.t14, hI.t15, hI.t16, hI.t17, hI.t18, hI.t19, hI.t20, hI.t21, hI.t22, hI.t23, hI.t24, hI.t25, hI.t26, hI.t27, hI.t28, hI.t29, hI.t30, hI.t31, hI.t32, hI.t33, hI.t34, hI.t35, hI.t36, hI.t37, hI.t38, hI.t39, hI.t40, hI.t41, hI.t42, hI.t43, hI.t44, hI.t45, hI.t46, hI.t47, hI.t48, hI.t49, hI.t50, hI.t51, hI.t52, hI.t53, hI.t54, hI.t55, hI.t56, hI.t57, hI.t58, hI.t59, hI.t60, hI.t61, hI.t62, hI.t63, hI.t64, hI.t65, hI.t66, hI.t67, hI.t68, hI.t69, hI.t70, hI.t71, hI.t72, hI.t73, hI.t74, hI.t75, hI.t76, hI.t77, hI.t78, hI.t79, hI.t80, hI.t81, fun _ => rfl, fun _ => rfl, fun _ => rfl, hI.t85, hI.t86, hI.t87, hI.t88, hI.t89, hI.t90, hI.t91, hI.t92, hI.t93, hI.t94, hI.t95, hI.t96, hI.t97, hI.t98, hI.t99, hI.t100, hI.t101, hI.t102, hI.t103, hI.t104, hI.t105, hI.t106, hI.t107, hI.t108, hI.t109, hI.t110, hI.t111, hI.t112, hI.t113, hI.t114, hI.t115, hI.t116, hI.t117, hI.t118, hI.t119, hI.t120, hI.t121, hI.a1, hI.a3, hI.a4, hI.a25, hI.bw, hI.r9, hI.x0, hI.x1⟩⟩
  · rintro L a wx ⟨v, rfl, hI⟩ hL hdep hcl K hK
    have e82 := hI.t82 (hdep 82 (by decide))
    have e84 := hI.t84 (hdep 84 (by decide))
    rw [e82, e84]
    go_simp
    exact hK _ _ ⟨(upd (upd (upd v 172 (.bool true)) 174 (.bool true)) 175 (.bool true)), rfl, ⟨hI.t0, hI.t1, hI.t2, hI.t3, hI.t4, hI.t5, hI.t6, hI.t7, hI.t8, hI.t9, hI.t10, hI.t11, hI.t12, hI.t13, hI.t14, hI.t15, hI.t16, hI.t17, hI.t18, hI.t19, hI.t20, hI.t21, hI.t22, hI.t23, hI.t24, hI.t25, hI.t26, hI.t27, hI.t28, hI.t29, hI.t30, hI.t31, hI.t32, hI.t33, hI.t34, hI.t35, hI.t36, hI.t37, hI.t38, hI.t39, hI.t40, hI.t41, hI.t42, hI.t43, hI.t44, hI.t45, hI.t46, hI.t47, hI.t48, hI.t49, hI.t50, hI.t51, hI.t52, hI.t53, hI.t54, hI.t55, hI.t56, hI.t57, hI.t58, hI.t59, hI.t60, hI.t61, hI.t62, hI.t63, hI.t64, hI.t65, hI.t66, hI.t67, hI.t68, hI.t69, hI.t70, hI.t71, hI.t72, hI.t73, hI.t74, hI.t75, hI.t76, hI.t77, hI.t78, hI.t79, hI.t80, hI.t81, fun _ => rfl, hI.t83, fun _ => rfl, fun _ => rfl, hI.t86, hI.t87, hI.t88, hI.t89, hI.t90, hI.t91, hI.t92, hI.t93, hI.t94, hI.t95, hI.t96, hI.t97, hI.t98, hI.t99, hI.t100, hI.t101, hI.t102, hI.t103, hI.t104, hI.t105, hI.t106, hI.t107, hI.t108, hI.t109, hI.t110, hI.t111, hI.t112, hI.t113, hI.t114, hI.t115, hI.t116, hI.t117, hI.t118, hI.t119, hI.t120, hI.t121, hI.a1, hI.a3, hI.a4, hI.a25, hI.bw, hI.r9, hI.x0, hI.x1⟩⟩
  · rintro L a wx ⟨v, rfl, hI⟩ hL hdep hcl K hK
    have e85 := hI.t85 (hdep 85 (by decide))
    rw [e85]
    go_simp
    exact hK _ _ ⟨(upd (upd v 175 (.bool true)) 176 (.bool true)), rfl, ⟨hI.t0, hI.t1, hI.t2, hI.t3, hI.t4, hI.t5, hI.t6, hI.t7, hI.t8, hI.t9, hI.t10, hI.t11, hI.t12, hI.t13, hI.t14, hI.t15, hI.t16, hI.t17, hI.t18, hI.t19, hI.t20, hI.t21, hI.t22, hI.t23, hI.t24, hI.t25, hI.t26, hI.t27, hI.t28, hI.t29, hI.t30, hI.t31, hI.t32, hI.t33, hI.t34, hI.t35, hI.t36, hI.t37, hI.t38, hI.t39, hI.t40, hI.t41, hI.t42, hI.t43, hI.t44, hI.t45, hI.t46, hI.t47, hI.t48, hI.t49, hI.t50, hI.t51, hI.t52, hI.t53, hI.t54, hI.t55, hI.t56, hI.t57, hI.t58, hI.t59, hI.t60, hI.t61, hI.t62, hI.t63, hI.t64, hI.t65, hI.t66, hI.t67, hI.t68, hI.t69, hI.t70, hI.t71, hI.t72, hI.t73, hI.t74, hI.t75, hI.t76, hI.t77, hI.t78, hI.t79, hI.t80, hI.t81, hI.t82, hI.t83, hI.t84, fun _ => rfl, fun _ => rfl, hI.t87, hI.t88, hI.t89, hI.t90, hI.t91, hI.t92, hI.t93, hI.t94, hI.t95, hI.t96, hI.t97, hI.t98, hI.t99, hI.t100, hI.t101, hI.t102, hI.t103, hI.t104, hI.t105, hI.t106, hI.t107, hI.t108, hI.t109, hI.t110, hI.t111, hI.t112, hI.t113, hI.t114, hI.t115, hI.t116, hI.t117, hI.t118, hI.t119, hI.t120, hI.t121, hI.a1, hI.a3, hI.a4, hI.a25, hI.bw, hI.r9, hI.x0, hI.x1⟩⟩
  · rintro L a wx ⟨v, rfl, hI⟩ hL hdep hcl K hK
    have e86 := hI.t86 (hdep 86 (by decide))
    rw [e86]
    refine (if_pos rfl).mpr ?_
    go_simp
    exact hK _ _ ⟨(upd (upd v 176 (.bool true)) 177 (.int .u64 4)), rfl, ⟨hI.t0, hI.t1, hI.t2, hI.t3, hI.t4, hI.t5, hI.t6, hI.t7, hI.t8, hI.t9, hI.t10, hI.t11, hI.t12, hI.t13, hI.t14, hI.t15, hI.t16, hI.t17, hI.t18, hI.t19, hI.t20, hI.t21, hI.t22, hI.t23, hI.t24, hI.t25, hI.t26, hI.t27, hI.t28, hI.t29, hI.t30, hI.t31, hI.t32, hI.t33, hI.t34, hI.t35, hI.t36, hI.t37, hI.t38, hI.t39, hI.t40, hI.t41, hI.t42, hI.t43, hI.t44, hI.t45, hI.t46, hI.t47, hI.t48, hI.t49, hI.t50, hI.t51, hI.t52, hI.t53, hI.t54, hI.t55, hI.t56, hI.t57, hI.t58, hI.t59, hI.t60, hI.t61, hI.t62, hI.t63, hI.t64, hI.t65, hI.t66, hI.t67, hI.t68, hI.t69, hI.t70, hI.t71, hI.t72, hI.t73, hI.t74, hI.t75, hI.t76, hI.t77, hI.t78, hI.t79, hI.t80, hI.t81, hI.t82, hI.t83, hI.t84, hI.t85, fun _ => rfl, fun _ => rfl, hI.t88, hI.t89, hI.t90, hI.t91, hI.t92, hI.t93, hI.t94, hI.t95, hI.t96, hI.t97, hI.t98, hI.t99, hI.t100, hI.t101, hI.t102, hI.t103, hI.t104, hI.t105, hI.t106, hI.t107, hI.t108, hI.t109, hI.t110, hI.t111, hI.t112, hI.t113, hI.t114, hI.t115, hI.t116, hI.t117, hI.t118, hI.t119, hI.t120, hI.t121, hI.a1, hI.a3, hI.a4, hI.a25, hI.bw, hI.r9, hI.x0, hI.x1⟩⟩
  · rintro L a wx ⟨v, rfl, hI⟩ hL hdep hcl K hK
    have e86 := hI.t86 (hdep 86 (by decide))
    have e87 := hI.t87 (hdep 87 (by decide))
    rw [e86, e87]
    refine (if_pos rfl).mpr ?_
    go_simp
    exact hK _ _ ⟨(upd (upd (upd v 176 (.bool true)) 177 (.int .u64 4)) 178 (.bool true)), rfl, ⟨hI.t0, hI.t1, hI.t2, hI.t3, hI.t4, hI.t5, hI.t6, hI.t7, hI.t8, hI.t9, hI.t10, hI.t11, hI.t12, hI.t13, hI.t14, hI.t15, hI.t16, hI.t17, hI.t18, hI.t19, hI.t20, hI.t21, hI.t22, hI.t23, hI.t24, hI.t25, hI.t26, hI.t27, hI.t28, hI.t29, hI.t30, hI.t31, hI.t32, hI.t33, hI.t34, hI.t35, hI.t36, hI.t37, hI.t38, hI.t39, hI.t40, hI.t41, hI.t42, hI.t43, hI.t44, hI.t45, hI.t46, hI.t47, hI.t48, hI.t49, hI.t50, hI.t51, hI.t52, hI.t53, hI.t54, hI.t55, hI.t56, hI.t57, hI.t58, hI.t59, hI.t60, hI.t61, hI.t62, hI.t63, hI.t64, hI.t65, hI.t66, hI.t67, hI.t68, hI.t69, hI.t70, hI.t71, hI.t72, hI.t73, hI.t74, hI.t75, hI.t76, hI.t77, hI.t78, hI.t79, hI.t80, hI.t81, hI.t82, hI.t83, hI.t84, hI.t85, fun _ => rfl, fun _ => rfl, fun _ => rfl, hI.t89, hI.t90, hI.t91, hI.t92, hI.t93, hI.t94, hI.t95, hI.t96, hI.t97, hI.t98, hI.t99, hI.t100, hI.t101, hI.t102, hI.t103, hI.t104, hI.t105, hI.t106, hI.t107, hI.t108, hI.t109, hI.t110, hI.t111, hI.t112, hI.t113, hI.t114, hI.t115, hI.t116, hI.t117, hI.t118, hI.t119, hI.t120, hI.t121, hI.a1, hI.a3, hI.a4, hI.a25, hI.bw, hI.r9, hI.x0, hI.x1⟩⟩
  · rintro L a wx ⟨v, rfl, hI⟩ hL hdep hcl K hK
    have e86 := hI.t86 (hdep 86 (by decide))
    have e88 := hI.t88 (hdep 88 (by decide))
    rw [e86, e88]
    go_simp
    exact hK _ _ ⟨(upd (upd (upd v 176 (.bool true)) 178 (.bool true)) 179 (.bool true)), rfl, ⟨hI.t0, hI.t1, hI.t2, hI.t3, hI.t4, hI.t5, hI.t6, hI.t7, hI.t8, hI.t9, hI.t10, hI.t11, hI.t12, hI.t13, hI.t14, hI.t15, hI.t16, hI.t17, hI.t18, hI.t19, hI.t20, hI.t21, hI.t22, hI.t23, hI.t24, hI.t25, hI.t26, hI.t27, hI.t28, hI.t29, hI.t30, hI.t31, hI.t32, hI.t33, hI.t34, hI.t35, hI.t36, hI.t37, hI.t38, hI.t39, hI.t40, hI.t41, hI.t42, hI.t43, hI.t44, hI.t45, hI.t46, hI.t47, hI.t48, hI.t49, hI.t50, hI.t51, hI.t52, hI.t53, hI.t54, hI.t55, hI.t56, hI.t57, hI.t58, hI.t59, hI.t60, hI.t61, hI.t62, hI.t63, hI.t64, hI.t65, hI.t66, hI.t67, hI.t68, hI.t69, hI.t70, hI.t71, hI.t72, hI.t73, hI.t74, hI.t75, hI.t76, hI.t77, hI.t78, hI.t79, hI.t80, hI.t81, hI.t82, hI.t83, hI.t84, hI.t85, fun _ => rfl, hI.t87, fun _ => rfl, fun _ => rfl, hI.t90, hI.t91, hI.t92, hI.t93, hI.t94, hI.t95, hI.t96, hI.t97, hI.t98, hI.t99, hI.t100, hI.t101, hI.t102, hI.t103, hI.t104, hI.t105, hI.t106, hI.t107, hI.t108, hI.t109, hI.t110, hI.t111, hI.t112, hI.t113, hI.t114, hI.t115, hI.t116, hI.t117, hI.t118, hI.t119, hI.t120, hI.t121, hI.a1, hI.a3, hI.a4, hI.a25, hI.bw, hI.r9, hI.x0, hI.x1⟩⟩
  · rintro L a wx ⟨v, rfl, hI⟩ hL hdep hcl K hK
    have e89 := hI.t89 (hdep 89 (by decide))
    rw [e89]
    go_simp
    exact hK _ _ ⟨(upd (upd v 179 (.bool true)) 180 (.bool true)), rfl, ⟨hI.t0, hI.t1, hI.t2, hI.t3, hI.t4, hI.t5, hI.t6, hI.t7, hI.t8, hI.t9, hI.t10, hI.t11, hI.t12, hI.t13, hI.t14, hI.t15, hI.t16, hI.t17, hI.t18, hI.t19, hI.t20, hI.t21, hI.t22, hI.t23, hI.t24, hI.t25, hI.t26, hI.t27, hI.t28, hI.t29, hI.t30, hI.t31, hI.t32, hI.t33, hI.t34, hI.t35, hI.t36, hI.t37, hI.t38, hI.t39, hI.t40, hI.t41, hI.t42, hI.t43, hI.t44, hI.t45, hI.t46, hI.t47, hI.t48, hI.t49, hI.t50, hI.t51, hI.t52, hI.t53, hI.t54, hI.t55, hI.t56, hI.t57, hI.t58, hI.t59, hI.t60, hI.t61, hI.t62, hI.t63, hI.t64, hI.t65, hI.t66, hI.t67, hI.t68, hI.t69, hI.t70, hI.t71, hI.t72, hI.t73, hI.t74, hI.t75, hI.t76, hI.t77, hI.t78, hI.t79, hI.t80, hI.t81, hI.t82, hI.t83, hI.t84, hI.t85, hI.t86, hI.t87, hI.t88, fun _ => rfl, fun _ => rfl, hI.t91, hI.t92, hI.t93, hI.t94, hI.t95, hI.t96, hI.t97, hI.t98, hI.t99, hI.t100, hI.t101, hI.t102, hI.t103, hI.t104, hI.t105, hI.t106, hI.t107, hI.t108, hI.t109, hI.t110, hI.t111, hI.t112, hI.t113, hI.t114, hI.t115, hI.t116, hI.t117, hI.t118, hI.t119, hI.t120, hI.t121, hI.a1, hI.a3, hI.a4, hI.a25, hI.bw, hI.r9, hI.x0, hI.x1⟩⟩
  · rintro L a wx ⟨v, rfl, hI⟩ hL hdep hcl K hK
    have e90 := hI.t90 (hdep 90 (by decide))
    rw [e90]
    refine (if_pos rfl).mpr ?_
    go_simp
    exact hK _ _ ⟨(upd (upd v 180 (.bool true)) 181 (.int .i64 1)), rfl, ⟨hI.t0, hI.t1, hI.t2, hI.t3, hI.t4, hI.t5, hI.t6, hI.t7, hI.t8, hI.t9, hI.t10, hI.t11, hI.t12, hI.t13, hI.t14, hI.t15, hI.t16, hI.t17, hI.t18, hI.t19, hI.t20, hI.t21, hI.t22, hI.t23, hI.t24, hI.t25, hI.t26, hI.t27, hI.t28, hI.t29, hI.t30, hI.t31, hI.t32, hI.t33, hI.t34, hI.t35, hI.t36, hI.t37, hI.t38, hI.t39, hI.t40, hI.t41, hI.t42, hI.t43, hI.t44, hI.t45, hI.t46, hI.t47, hI.t48, hI.t49, hI.t50, hI.t51, hI.t52, hI.t53, hI.t54, hI.t55, hI.t56, hI.t57, hI.t58, hI.t59, hI.t60, hI.t61, hI.t62, hI.t63, hI.t64, hI.t65, hI.t66, hI.t67, hI.t68, hI.t69, hI.t70, hI.t71, hI.t72, hI.t73, hI.t74, hI.t75, hI.t76, hI.t77, hI.t78, hI.t79, hI.t80, hI.t81, hI.t82, hI.t83, hI.t84, hI.t85, hI.t86, hI.t87, hI.t88, hI.t89, fun _ => rfl, fun _ => rfl, hI.t92, hI.t93, hI.t94, hI.t95, hI.t96, hI.t97, hI.t98, hI.t99, hI.t100, hI.t101, hI.t102, hI.t103, hI.t104, hI.t105, hI.t106, hI.t107, hI.t108, hI.t109, hI.t110, hI.t111, hI.t112, hI.t113, hI.t114, hI.t115, hI.t116, hI.t117, hI.t118, hI.t119, hI.t120, hI.t121, hI.a1, hI.a3, hI.a4, hI.a25, hI.bw, hI.r9, hI.x0, hI.x1⟩⟩
  · rintro L a wx ⟨v, rfl, hI⟩ hL hdep hcl K hK
    have e90 := hI.t90 (hdep 90 (by decide))
    have e91 := hI.t91 (hdep 91 (by decide))
    rw [e90, e91]
    refine (if_pos rfl).mpr ?_
    go_simp
    exact hK _ _ ⟨(upd (upd (upd v 180 (.bool true)) 181 (.int .i64 1)) 182 (.bool true)), rfl, ⟨hI.t0, hI.t1, hI.t2, hI.t3, hI.t4, hI.t5, hI.t6, hI.t7, hI.t8, hI.t9, hI.t10, hI.t11, hI.t12, hI.t13, hI.t14, hI.t15, hI.t16, hI.t17, hI.t18, hI.t19, hI.t20, hI.t21, hI.t22, hI.t23, hI.t24, hI.t25, hI.t26, hI.t27, hI.t28, hI.t29, hI.t30, hI.t31, hI.t32, hI.t33, hI.t34, hI.t35, hI.t36, hI.t37, hI.t38, hI.t39, hI.t40, hI.t41, hI.t42, hI.t43, hI.t44, hI.t45, hI.t46, hI.t47, hI.t48, hI.t49, hI.t50, hI.t51, hI.t52, hI.t53, hI.t54, hI.t55, hI.t56, hI.t57, hI.t58, hI.t59, hI.t60, hI.t61, hI.t62, hI.t63, hI.t64, hI.t65, hI.t66, hI.t67, hI.t68, hI.t69, hI.t70, hI.t71, hI.t72, hI.t73, hI.t74, hI.t75, hI.t76, hI.t77, hI.t78, hI.t79, hI.t80, hI.t81, hI.t82, hI.t83, hI.t84, hI.t85, hI.t86, hI.t87, hI.t88, hI.t89, fun _ => rfl, fun _ => rfl, fun _ => rfl, hI.t93, hI.t94, hI.t95, hI.t96, hI.t97, hI.t98, hI.t99, hI.t100, hI.t101, hI.t102, hI.t103, hI.t104, hI.t105, hI.t106, hI.t107, hI.t108, hI.t109, hI.t110, hI.t111, hI.t112, hI.t113, hI.t114, hI.t115, hI.t116, hI.t117, hI.t118, hI.t119, hI.t120, hI.t121, hI.a1, hI.a3, hI.a4, hI.a25, hI.bw, hI.r9, hI.x0, hI.x1⟩⟩
  · rintro L a wx ⟨v, rfl, hI⟩ hL hdep hcl K hK
    have e90 := hI.t90 (hdep 90 (by decide))
    have e92 := hI.t92 (hdep 92 (by decide))
    rw [e90, e92]
    go_simp
    exact hK _ _ ⟨(upd (upd (upd v 180 (.bool true)) 182 (.bool true)) 183 (.bool true)), rfl, ⟨hI.t0, hI.t1, hI.t2, hI.t3, hI.t4, hI.t5, hI.t6, hI.t7, hI.t8, hI.t9, hI.t10, hI.t11, hI.t12, hI.t13, hI.t14, hI.t15, hI.t16, hI.t17, hI.t18, hI.t19, hI.t20, hI.t21, hI.t22, hI.t23, hI.t24, hI.t25, hI.t26, hI.t27, hI.t28, hI.t29, hI.t30, hI.t31, hI.t32, hI.t33, hI.t34, hI.t35, hI.t36, hI.t37, hI.t38, hI.t39, hI.t40, hI.t41, hI.t42, hI.t43, hI.t44, hI.t45, hI.t46, hI.t47, hI.t48, hI.t49, hI.t50, hI.t51, hI.t52, hI.t53, hI.t54, hI.t55, hI.t56, hI.t57, hI.t58, hI.t59, hI.t60, hI.t61, hI.t62, hI.t63, hI.t64, hI.t65, hI.t66, hI.t67, hI.t68, hI.t69, hI.t70, hI.t71, hI.t72, hI.t73, hI.t74, hI.t75, hI.t76, hI.t77, hI.t78, hI.t79, hI.t80, hI.t81, hI.t82, hI.t83, hI.t84, hI.t85, hI.t86, hI.t87, hI.t88, hI.t89, fun _ => rfl, hI.t91, fun _ => rfl, fun _ => rfl, hI.t94, hI.t95, hI.t96, hI.t97, hI.t98, hI.t99, hI.t100, hI.t101, hI.t102, hI.t103, hI.t104, hI.t105, hI.t106, hI.t107, hI.t108, hI.t109, hI.t110, hI.t111, hI.t112, hI.t113, hI.t114, hI.t115, hI.t116, hI.t117, hI.t118, hI.t119, hI.t120, hI.t121, hI.a1, hI.a3, hI.a4, hI.a25, hI.bw, hI.r9, hI.x0, hI.x1⟩⟩
  · rintro L a wx ⟨v, rfl, hI⟩ hL hdep hcl K hK
    have e93 := hI.t93 (hdep 93 (by decide))
    rw [e93]
    go_simp
    exact hK _ _ ⟨(upd (upd v 183 (.bool true)) 184 (.bool true)), rfl, ⟨hI.t0, hI.t1, hI.t2, hI.t3, hI.t4, hI.t5, hI.t6, hI.t7, hI.t8, hI.t9, hI.t10, hI.t11, hI.t12, hI.t13, hI.t14, hI.t15, hI.t16, hI.t17, hI.t18, hI.t19, hI.t20, hI.t21, hI.t22, hI.t23, hI.t24, hI.t25, hI.t26, hI.t27, hI.t28, hI.t29, hI.t30, hI.t31, hI.t32, hI.t33, hI.t34, hI.t35, hI.t36, hI.t37, hI.t38, hI.t39, hI.t40, hI.t41, hI.t42, hI.t43, hI.t44, hI.t45, hI.t46, hI.t47, hI.t48, hI.t49, hI.t50, hI.t51, hI.t52, hI.t53, hI.t54, hI.t55, hI.t56, hI.t57, hI.t58, hI.t59, hI.t60, hI.t61, hI.t62, hI.t63, hI.t64, hI.t65, hI.t66, hI.t67, hI.t68, hI.t69, hI.t70, hI.t71, hI.t72, hI.t73, hI.t74, hI.t75, hI.t76, hI.t77, hI.t78, hI.t79, hI.t80, hI.t81, hI.t82, hI.t83, hI.t84, hI.t85, hI.t86, hI.t87, hI.t88, hI.t89, hI.t90, hI.t91, hI.t92, fun _ => rfl, fun _ => rfl, hI.t95, hI.t96, hI.t97, hI.t98, hI.t99, hI.t100, hI.t101, hI.t102, hI.t103, hI.t104, hI.t105, hI.t106, hI.t107, hI.t108, hI.t109, hI.t110, hI.t111, hI.t112, hI.t113, hI.t114, hI.t115, hI.t116, hI.t117, hI.t118, hI.t119, hI.t120, hI.t121, hI.a1, hI.a3, hI.a4, hI.a25, hI.bw, hI.r9, hI.x0, hI.x1⟩⟩
  · rintro L a wx ⟨v, rfl, hI⟩ hL hdep hcl K hK
    have e94 := hI.t94 (hdep 94 (by decide))
    rw [e94]
    refine (if_pos rfl).mpr ?_
    go_simp
    exact hK _ _ ⟨(upd (upd v 184 (.bool true)) 185 (.int .i64 1)), rfl, ⟨hI.t0, hI.t1, hI.t2, hI.t3, hI.t4, hI.t5, hI.t6, hI.t7, hI.t8, hI.t9, hI.t10, hI.t11, hI.t12, hI.t13, hI.t14, hI.t15, hI.t16, hI.t17, hI.t18, hI.t19, hI.t20, hI.t21, hI.t22, hI.t23, hI.t24, hI.t25, hI.t26, hI.t27, hI.t28, hI.t29, hI.t30, hI.t31, hI.t32, hI.t33, hI.t34, hI.t35, hI.t36, hI.t37, hI.t38, hI.t39, hI.t40, hI.t41, hI.t42, hI.t43, hI.t44, hI.t45, hI.t46, hI.t47, hI.t48, hI.t49, hI.t50, hI.t51, hI.t52, hI.t53, hI.t54, hI.t55, hI.t56, hI.t57, hI.t58, hI.t59, hI.t60, hI.t61, hI.t62, hI.t63, hI.t64, hI.t65, hI.t66, hI.t67, hI.t68, hI.t69, hI.t70, hI.t71, hI.t72, hI.t73, hI.t74, hI.t75, hI.t76, hI.t77, hI.t78, hI.t79, hI.t80, hI.t81, hI.t82, hI.t83, hI.t84, hI.t85, hI.t86, hI.t87, hI.t88, hI.t89, hI.t90, hI.t91, hI.t92, hI.t93, fun _ => rfl, fun _ => rfl, hI.t96, hI.t97, hI.t98, hI.t99, hI.t100, hI.t101, hI.t102, hI.t103, hI.t104, hI.t105, hI.t106, hI.t107, hI.t108, hI.t109, hI.t110, hI.t111, hI.t112, hI.t113, hI.t114, hI.t115, hI.t116, hI.t117, hI.t118, hI.t119, hI.t120, hI.t121, hI.a1, hI.a3, hI.a4, hI.a25, hI.bw, hI.r9, hI.x0, hI.x1⟩⟩
  · rintro L a wx ⟨v, rfl, hI⟩ hL hdep hcl K hK
    have e94 := hI.t94 (hdep 94 (by decide))
    have e95 := hI.t95 (hdep 95 (by decide))
    rw [e94, e95]
    refine (if_pos rfl).mpr ?_
    go_simp
    exact hK _ _ ⟨(upd (upd (upd v 184 (.bool true)) 185 (.int .i64 1)) 186 (.bool true)), rfl, ⟨hI.t0, hI.t1, hI.t2, hI.t3, hI.t4, hI.t5, hI.t6, hI.t7, hI.t8, hI.t9, hI.t10, hI.t11, hI.t12, hI.t13, hI.t14, hI.t15, hI.t16, hI.t17, hI.t18, hI.t19, hI.t20, hI.t21, hI.t22, hI.t23, hI.t24, hI.t25, hI.t26, hI.t27, hI.t28, hI.t29, hI.t30, hI.t31, hI.t32, hI.t33, hI.t34, hI.t35, hI.t36, hI.t37, hI.t38, hI.t39, hI.t40, hI.t41, hI.t42, hI.t43, hI.t44, hI.t45, hI.t46, hI.t47, hI.t48, hI.t49, hI.t50, hI.t51, hI.t52, hI.t53, hI.t54, hI.t55, hI.t56, hI.t57, hI.t58, hI.t59, hI.t60, hI.t61, hI.t62, hI.t63, hI.t64, hI.t65, hI.t66, hI.t67, hI.t68, hI.t69, hI.t70, hI.t71, hI.t72, hI.t73, hI.t74, hI.t75, hI.t76, hI.t77, hI.t78, hI.t79, hI.t80, hI.t81, hI.t82, hI.t83, hI.t84, hI.t85, hI.t86, hI.t87, hI.t88, hI.t89, hI.t90, hI.t91, hI.t92, hI.t93, fun _ => rfl, fun _ => rfl, fun _ => rfl, hI.t97, hI.t98, hI.t99, hI.t100, hI.t101, hI.t102, hI.t103, hI.t104, hI.t105, hI.t106, hI.t107, hI.t108, hI.t109, hI.t110, hI.t111, hI.t112, hI.t113, hI.t114, hI.t115, hI.t116, hI.t117, hI.t118, hI.t119, hI.t120, hI.t121, hI.a1, hI.a3, hI.a4, hI.a25, hI.bw, hI.r9, hI.x0, hI.x1⟩⟩
  · rintro L a wx ⟨v, rfl, hI⟩ hL hdep hcl K hK
    have e94 := hI.t94 (hdep 94 (by decide))
    have e96 := hI.t96 (hdep 96 (by decide))
    rw [e94, e96]
    go_simp
    exact hK _ _ ⟨(upd (upd (upd v 184 (.bool true)) 186 (.bool true)) 187 (.bool true)), rfl, ⟨hI.t0, hI.t1, hI.t2, hI.t3, hI.t4, hI.t5, hI.t6, hI.t7, hI.t8, hI.t9, hI.t10, hI.t11, hI.t12, hI.t13, hI.t14, hI.t15, hI.t16, hI.t17, hI.t18, hI.t19, hI.t20, hI.t21, hI.t22, hI.t23, hI.t24, hI.t25, hI.t26, hI.t27, hI.t28, hI.t29, hI.t30, hI.t31, hI.t32, hI.t33, hI.t34, hI.t35, hI.t36, hI.t37, hI.t38, hI.t39, hI.t40, hI.t41, hI.t42, hI.t43, hI.t44, hI.t45, hI.t46, hI.t47, hI.t48, hI.t49, hI.t50, hI.t51, hI.t52, hI.t53, hI.t54, hI.t55, hI.t56, hI.t57, hI.t58, hI.t59, hI.t60, hI.t61, hI.t62, hI.t63, hI.t64, hI.t65, hI.t66, hI.t67, hI.t68, hI.t69, hI.t70, hI.t71, hI.t72, hI.t73, hI.t74, hI.t75, hI.t76, hI.t77, hI.t78, hI.t79, hI.t80, hI.t81, hI.t82, hI.t83, hI.t84, hI.t85, hI.t86, hI.t87, hI.t88, hI.t89, hI.t90, hI.t91, hI.t92, hI.t93, fun _ => rfl, hI.t95, fun _ => rfl, fun _ => rfl, hI.t98, hI.t99, hI.t100, hI.t101, hI.t102, hI.t103, hI.t104, hI.t105, hI.t106, hI.t107, hI.t108, hI.t109, hI.t110, hI.t111, hI.t112, hI.t113, hI.t114, hI.t115, hI.t116, hI.t117, hI.t118, hI.t119, hI.t120, hI.t121, hI.a1, hI.a3, hI.a4, hI.a25, hI.bw, hI.r9, hI.x0, hI.x1⟩⟩
  · rintro L a wx ⟨v, rfl, hI⟩ hL hdep hcl K hK
    have e97 := hI.t97 (hdep 97 (by decide))
    rw [e97]
    go_simp
    exact hK _ _ ⟨(upd (upd v 187 (.bool true)) 188 (.bool true)), rfl, ⟨hI.t0, hI.t1, hI.t2, hI.t3, hI.t4, hI.t5, hI.t6, hI.t7, hI.t8, hI.t9, hI.t10, hI.t11, hI.t12, hI.t13, hI.t14, hI.t15, hI.t16, hI.t17, hI.t18, hI.t19, hI.t20, hI.t21, hI.t22, hI.t23, hI.t24, hI.t25, hI.t26, hI.t27, hI.t28, hI.t29, hI.t30, hI.t31, hI.t32, hI.t33, hI.t34, hI.t35, hI.t36, hI.t37, hI.t38, hI.t39, hI.t40, hI.t41, hI.t42, hI.t43, hI.t44, hI.t45, hI.t46, hI.t47, hI.t48, hI.t49, hI.t50, hI.t51, hI.t52, hI.t53, hI.t54, hI.t55, hI.t56, hI.t57, hI.t58, hI.t59, hI.t60, hI.t61, hI.t62, hI.t63, hI.t64, hI.t65, hI.t66, hI.t67, hI.t68, hI.t69, hI.t70, hI.t71, hI.t72, hI.t73, hI.t74, hI.t75, hI.t76, hI.t77, hI.t78, hI.t79, hI.t80, hI.t81, hI.t82, hI.t83, hI.t84, hI.t85, hI.t86, hI.t87, hI.t88, hI.t89, hI.t90, hI.t91, hI.t92, hI.t93, hI.t94, hI.t95, hI.t96, fun _ => rfl, fun _ => rfl, hI.t99, hI.t100, hI.t101, hI.t102, hI.t103, hI.t104, hI.t105, hI.t106, hI.t107, hI.t108, hI.t109, hI.t110, hI.t111, hI.t112, hI.t113, hI.t114, hI.t115, hI.t116, hI.t117, hI.t118, hI.t119, hI.t120, hI.t121, hI.a1, hI.a3, hI.a4, hI.a25, hI.bw, hI.r9, hI.x0, hI.x1⟩⟩
  · rintro L a wx ⟨v, rfl, hI⟩ hL hdep hcl K hK
    have e98 := hI.t98 (hdep 98 (by decide))
    rw [e98]
    refine (if_pos rfl).mpr ?_
    go_simp
    exact hK _ _ ⟨(upd (upd v 188 (.bool true)) 189 (.int .i64 1)), rfl, ⟨hI.t0, hI.t1, hI.t2, hI.t3, hI.t4, hI.t5, hI.t6, hI.t7, hI.t8, hI.t9, hI.t10, hI.t11, hI.t12, hI.t13, hI.t14, hI.t15, hI.t16, hI.t17, hI.t18, hI.t19, hI.t20, hI.t21, hI.t22, hI.t23, hI.t24, hI.t25, hI.t26, hI.t27, hI.t28, hI.t29, hI.t30, hI.t31, hI.t32, hI.t33, hI.t34, hI.t35, hI.t36, hI.t37, hI.t38, hI.t39, hI.t40, hI.t41, hI.t42, hI.t43, hI.t44, hI.t45, hI.t46, hI.t47, hI.t48, hI.t49, hI.t50, hI.t51, hI.t52, hI.t53, hI.t54, hI.t55, hI.t56, hI.t57, hI.t58, hI.t59, hI.t60, hI.t61, hI.t62, hI.t63, hI.t64, hI.t65, hI.t66, hI.t67, hI.t68, hI.t69, hI.t70, hI.t71, hI.t72, hI.t73, hI.t74, hI.t75, hI.t76, hI.t77, hI.t78, hI.t79, hI.t80, hI.t81, hI.t82, hI.t83, hI.t84, hI.t85, hI.t86, hI.t87, hI.t88, hI.t89, hI.t90, hI.t91, hI.t92, hI.t93, hI.t94, hI.t95, hI.t96, hI.t97, fun _ => rfl, fun _ => rfl, hI.t100, hI.t101, hI.t102, hI.t103, hI.t104, hI.t105, hI.t106, hI.t107, hI.t108, hI.t109, hI.t110, hI.t111, hI.t112, hI.t113, hI.t114, hI.t115, hI.t116, hI.t117, hI.t118, hI.t119, hI.t120, hI.t121, hI.a1, hI.a3, hI.a4, hI.a25, hI.bw, hI.r9, hI.x0, hI.x1⟩⟩
  · rintro L a wx ⟨v, rfl, hI⟩ hL hdep hcl K hK
    have e98 := hI.t98 (hdep 98 (by decide))
    have e99 := hI.t99 (hdep 99 (by decide))
    rw [e98, e99]
    refine (if_pos rfl).mpr ?_
    go_simp
    exact hK _ _ ⟨(upd (upd (upd v 188 (.bool true)) 189 (.int .i64 1)) 190 (.bool true)), rfl, ⟨hI.t0, hI.t1, hI.t2, hI.t3, hI.t4, hI.t5, hI.t6, hI.t7, hI.t8, hI.t9, hI.t10, hI.t11, hI.t12, hI.t13, hI.t14, hI.t15, hI.t16, hI.t17, hI.t18, hI.t19, hI.t20, hI.t21, hI.t22, hI.t23, hI.t24, hI.t25, hI.t26, hI.t27, hI.t28, hI.t29, hI.t30, hI.t31, hI.t32, hI.t33, hI.t34, hI.t35, hI.t36, hI.t37, hI.t38, hI.t39, hI.t40, hI.t41, hI.t42, hI.t43, hI.t44, hI.t45, hI.t46, hI.t47, hI.t48, hI.t49, hI.t50, hI.t51, hI.t52, hI.t53, hI.t54, hI.t55, hI.t56, hI.t57, hI.t58, hI.t59, hI.t60, hI.t61, hI.t62, hI.t63, hI.t64, hI.t65, hI.t66, hI.t67, hI.t68, hI.t69, hI.t70, hI.t71, hI.t72, hI.t73, hI.t74, hI.t75, hI.t76, hI.t77, hI.t78, hI.t79, hI.t80, hI.t81, hI.t82, hI.t83, hI.t84, hI.t85, hI.t86, hI.t87, hI.t88, hI.t89, hI.t90, hI.t91, hI.t92, hI.t93, hI.t94, hI.t95, hI.t96, hI.t97, fun _ => rfl, fun _ => rfl, fun _ => rfl, hI.t101, hI.t102, hI.t103, hI.t104, hI.t105, hI.t106, hI.t107, hI.t108, hI.t109, hI.t110, hI.t111, hI.t112, hI.t113, hI.t114, hI.t115, hI.t116, hI.t117, hI.t118, hI.t119, hI.t120, hI.t121, hI.a1, hI.a3, hI.a4, hI.a25, hI.bw, hI.r9, hI.x0, hI.x1⟩⟩
  · rintro L a wx ⟨v, rfl, hI⟩ hL hdep hcl K hK
    have e98 := hI.t98 (hdep 98 (by decide))
    have e100 := hI.t100 (hdep 100 (by decide))
    rw [e98, e100]
    go_simp
    exact hK _ _ ⟨(upd (upd (upd v 188 (.bool true)) 190 (.bool true)) 191 (.bool true)), rfl, ⟨hI.t0, hI.t1, hI.t2, hI.t3, hI.t4, hI.t5, hI.t6, hI.t7, hI.t8, hI.t9, hI.t10, hI.t11, hI.t12, hI.t13, hI.t14, hI.t15, hI.t16, hI.t17, hI.t18, hI.t19, hI.t20, hI.t21, hI.t22, hI.t23, hI.t24, hI.t25, hI.t26, hI.t27, hI.t28, hI.t29, hI.t30, hI.t31, hI.t32, hI.t33, hI.t34, hI.t35, hI.t36, hI.t37, hI.t38, hI.t39, hI.t40, hI.t41, hI.t42, hI.t43, hI.t44, hI.t45, hI.t46, hI.t47, hI.t48, hI.t49, hI.t50, hI.t51, hI.t52, hI.t53, hI.t54, hI.t55, hI.t56, hI.t57, hI.t58, hI.t59, hI.t60, hI.t61, hI.t62, hI.t63, hI.t64, hI.t65, hI.t66, hI.t67, hI.t68, hI.t69, hI.t70, hI.t71, hI.t72, hI.t73, hI.t74, hI.t75, hI.t76, hI.t77, hI.t78, hI.t79, hI.t80, hI.t81, hI.t82, hI.t83, hI.t84, hI.t85, hI.t86, hI.t87, hI.t88, hI.t89, hI.t90, hI.t91, hI.t92, hI.t93, hI.t94, hI.t95, hI.t96, hI.t97, fun _ => rfl, hI.t99, fun _ => rfl, fun _ => rfl, hI.t102, hI.t103, hI.t104, hI.t105, hI.t106, hI.t107, hI.t108, hI.t109, hI.t110, hI.t111, hI.t112, hI.t113, hI.t114, hI.t115, hI.t116, hI.t117, hI.t118, hI.t119, hI.t120, hI.t121, hI.a1, hI.a3, hI.a4, hI.a25, hI.bw, hI.r9, hI.x0, hI.x1⟩⟩
  · rintro L a wx ⟨v, rfl, hI⟩ hL hdep hcl K hK
    have e101 := hI.t101 (hdep 101 (by decide))
    rw [e101]
    go_simp
    exact hK _ _ ⟨(upd (upd v 191 (.bool true)) 192 (.bool true)), rfl, ⟨hI.t0, hI.t1, hI.t2, hI.t3, hI.t4, hI.t5, hI.t6, hI.t7, hI.t8, hI.t9, hI.t10, hI.t11, hI.t12, hI.t13, hI.t14, hI.t15, hI.t16, hI.t17, hI.t18, hI.t19, hI.t20, hI.t21, hI.t22, hI.t23, hI.t24, hI.t25, hI.t26, hI.t27, hI.t28, hI.t29, hI.t30, hI.t31, hI.t32, hI.t33, hI.t34, hI.t35, hI.t36, hI.t37, hI.t38, hI.t39, hI.t40, hI.t41, hI.t42, hI.t43, hI.t44, hI.t45, hI.t46, hI.t47, hI.t48, hI.t49, hI.t50, hI.t51, hI.t52, hI.t53, hI.t54, hI.t55, hI.t56, hI.t57, hI.t58, hI.t59, hI.t60, hI.t61, hI.t62, hI.t63, hI.t64, hI.t65, hI.t66, hI.t67, hI.t68, hI.t69, hI.t70, hI.t71, hI.t72, hI.t73, hI.t74, hI.t75, hI.t76, hI.t77, hI.t78, hI.t79, hI.t80, hI.t81, hI.t82, hI.t83, hI.t84, hI.t85, hI.t86, hI.t87, hI.t88, hI.t89, hI.t90, hI.t91, hI.t92, hI.t93, hI.t94, hI.t95, hI.t96, hI.t97, hI.t98, hI.t99, hI.t100, fun _ => rfl, fun _ => rfl, hI.t103, hI.t104, hI.t105, hI.t106, hI.t107, hI.t108, hI.t109, hI.t110, hI.t111, hI.t112, hI.t113, hI.t114, hI.t115, hI.t116, hI.t117, hI.t118, hI.t119, hI.t120, hI.t121, hI.a1, hI.a3, hI.a4, hI.a25, hI.bw, hI.r9, hI.x0, hI.x1⟩⟩
  · rintro L a wx ⟨v, rfl, hI⟩ hL hdep hcl K hK
    have e102 := hI.t102 (hdep 102 (by decide))
    rw [e102]
    refine (if_pos rfl).mpr ?_
    go_simp
    exact hK _ _ ⟨(upd (upd v 192 (.bool true)) 193 (.agg #[.int .i64 21, .int .u64 0])), rfl, ⟨hI.t0, hI.t1, hI.t2, hI.t3, hI.t4, hI.t5, hI.t6, hI.t7, hI.t8, hI.t9, hI.t10, hI.t11, hI.t12, hI.t13, hI.t14, hI.t15, hI.t16, hI.t17, hI.t18, hI.t19, hI.t20, hI.t21, hI.t22, hI.t23, hI.t24, hI.t25, hI.t26, hI.t27, hI.t28, hI.t29, hI.t30, hI.t31, hI.t32, hI.t33, hI.t34, hI.t35, hI.t36, hI.t37, hI.t38, hI.t39, hI.t40, hI.t41, hI.t42, hI.t43, hI.t44, hI.t45, hI.t46, hI.t47, hI.t48, hI.t49, hI.t50, hI.t51, hI.t52, hI.t53, hI.t54, hI.t55, hI.t56, hI.t57, hI.t58, hI.t59, hI.t60, hI.t61, hI.t62, hI.t63, hI.t64, hI.t65, hI.t66, hI.t67, hI.t68, hI.t69, hI.t70, hI.t71, hI.t72, hI.t73, hI.t74, hI.t75, hI.t76, hI.t77, hI.t78, hI.t79, hI.t80, hI.t81, hI.t82, hI.t83, hI.t84, hI.t85, hI.t86, hI.t87, hI.t88, hI.t89, hI.t90, hI.t91, hI.t92, hI.t93, hI.t94, hI.t95, hI.t96, hI.t97, hI.t98, hI.t99, hI.t100, hI.t101, fun _ => rfl, fun _ => rfl, hI.t104, hI.t105, hI.t106, hI.t107, hI.t108, hI.t109, hI.t110, hI.t111, hI.t112, hI.t113, hI.t114, hI.t115, hI.t116, hI.t117, hI.t118, hI.t119, hI.t120, hI.t121, hI.a1, hI.a3, hI.a4, hI.a25, hI.bw, hI.r9, hI.x0, hI.x1⟩⟩
  · rintro L a wx ⟨v, rfl, hI⟩ hL hdep hcl K hK
    have e102 := hI.t102 (hdep 102 (by decide))
    have e103 := hI.t103 (hdep 103 (by decide))
    rw [e102, e103]
    refine (if_pos rfl).mpr ?_
    go_simp
    refine (k_m1 wx).mono ?_
    rintro e w' ⟨rfl, hb⟩
    exact hK _ _ ⟨(upd (upd (upd v 192 (.bool true)) 193 (.agg #[.int .i64 21, .int .u64 0])) 194 (.bool false)), rfl, ⟨hI.t0, hI.t1, hI.t2, hI.t3, hI.t4, hI.t5, hI.t6, hI.t7, hI.t8, hI.t9, hI.t10, hI.t11, hI.t12, hI.t13, hI.t14, hI.t15, hI.t16, hI.t17, hI.t18, hI.t19, hI.t20, hI.t21, hI.t22, hI.t23, hI.t24, hI.t25, hI.t26, hI.t27, hI.t28, hI.t29, hI.t30, hI.t31, hI.t32, hI.t33, hI.t34, hI.t35, hI.t36, hI.t37, fun h => (hI.t38 h).to hb, hI.t39, hI.t40, hI.t41, hI.t42, hI.t43, hI.t44, hI.t45, hI.t46, hI.t47, hI.t48, hI.t49, hI.t50, hI.t51, hI.t52, hI.t53, hI.t54, hI.t55, hI.t56, hI.t57, hI.t58, hI.t59, hI.t60, hI.t61, hI.t62, hI.t63, hI.t64, hI.t65, hI.t66, hI.t67, hI.t68, hI.t69, hI.t70, hI.t71, hI.t72, hI.t73, hI.t74, hI.t75, hI.t76, hI.t77, hI.t78, hI.t79, hI.t80, hI.t81, hI.t82, hI.t83, hI.t84, hI.t85, hI.t86, hI.t87, hI.t88, hI.t89, hI.t90, hI.t91, hI.t92, hI.t93, hI.t94, hI.t95, hI.t96, hI.t97, hI.t98, hI.t99, hI.t100, hI.t101, fun _ => rfl, fun _ => rfl, fun _ => rfl, hI.t105, hI.t106, hI.t107, hI.t108, hI.t109, hI.t110, hI.t111, hI.t112, hI.t113, hI.t114, hI.t115, hI.t116, hI.t117, hI.t118, hI.t119, hI.t120, hI.t121, (hI.a1).kept hb, (hI.a3).kept hb, (hI.a4).kept hb, (hI.a25).kept hb, (hI.bw).trans (hb.mono (hI.bw).size), (hI.r9).to hb, (hb.cell (p := ⟨b13, n13, none⟩) (Nat.lt_of_lt_of_le hb13 hI.bw.size)).trans (hI.x0), (hb.cell (p := ⟨b13, n13 + 1, none⟩) (Nat.lt_of_lt_of_le hb13 hI.bw.size)).trans (hI.x1)⟩⟩
  · rintro L a wx ⟨v, rfl, hI⟩ hL hdep hcl K hK
    have e102 := hI.t102 (hdep 102 (by decide))
    have e104 := hI.t104 (hdep 104 (by decide))
    rw [e102, e104]
    refine (if_pos rfl).mpr ?_
    go_simp
    exact hK _ _ ⟨(upd (upd (upd v 192 (.bool true)) 194 (.bool false)) 195 (.bool true)), rfl, ⟨hI.t0, hI.t1, hI.t2, hI.t3, hI.t4, hI.t5, hI.t6, hI.t7, hI.t8, hI.t9, hI.t10, hI.t11, hI.t12, hI.t13, hI.t14, hI.t15, hI.t16, hI.t17, hI.t18, hI.t19, hI.t20, hI.t21, hI.t22, hI.t23, hI.t24, hI.t25, hI.t26, hI.t27, hI.t28, hI.t29, hI.t30, hI.t31, hI.t32, hI.t33, hI.t34, hI.t35, hI.t36, hI.t37, hI.t38, hI.t39, hI.t40, hI.t41, hI.t42, hI.t43, hI.t44, hI.t45, hI.t46, hI.t47, hI.t48, hI.t49, hI.t50, hI.t51, hI.t52, hI.t53, hI.t54, hI.t55, hI.t56, hI.t57, hI.t58, hI.t59, hI.t60, hI.t61, hI.t62, hI.t63, hI.t64, hI.t65, hI.t66, hI.t67, hI.t68, hI.t69, hI.t70, hI.t71, hI.t72, hI.t73, hI.t74, hI.t75, hI.t76, hI.t77, hI.t78, hI.t79, hI.t80, hI.t81, hI.t82, hI.t83, hI.t84, hI.t85, hI.t86, hI.t87, hI.t88, hI.t89, hI.t90, hI.t91, hI.t92, hI.t93, hI.t94, hI.t95, hI.t96, hI.t97, hI.t98, hI.t99, hI.t100, hI.t101, fun _ => rfl, hI.t103, fun _ => rfl, fun _ => rfl, hI.t106, hI.t107, hI.t108, hI.t109, hI.t110, hI.t111, hI.t112, hI.t113, hI.t114, hI.t115, hI.t116, hI.t117, hI.t118, hI.t119, hI.t120, hI.t121, hI.a1, hI.a3, hI.a4, hI.a25, hI.bw, hI.r9, hI.x0, hI.x1⟩⟩
  · rintro L a wx ⟨v, rfl, hI⟩ hL hdep hcl K hK
    have e102 := hI.t102 (hdep 102 (by decide))
    have e105 := hI.t105 (hdep 105 (by decide))
    rw [e102, e105]
    go_simp
    exact hK _ _ ⟨(upd (upd (upd v 192 (.bool true)) 195 (.bool true)) 196 (.bool true)), rfl, ⟨hI.t0, hI.t1, hI.t2, hI.t3, hI.t4, hI.t5, hI.t6, hI.t7, hI.t8, hI.t9, hI.t10, hI.t11, hI.t12, hI.t13, hI.t14, hI.t15, hI.t16, hI.t17, hI.t18, hI.t19, hI.t20, hI.t21, hI.t22, hI.t23, hI.t24, hI.t25, hI.t26, hI.t27, hI.t28, hI.t29, hI.t30, hI.t31, hI.t32, hI.t33, hI.t34, hI.t35, hI.t36, hI.t37, hI.t38, hI.t39, hI.t40, hI.t41, hI.t42, hI.t43, hI.t44, hI.t45, hI.t46, hI.t47, hI.t48, hI.t49, hI.t50, hI.t51, hI.t52, hI.t53, hI.t54, hI.t55, hI.t56, hI.t57, hI.t58, hI.t59, hI.t60, hI.t61, hI.t62, hI.t63, hI.t64, hI.t65, hI.t66, hI.t67, hI.t68, hI.t69, hI.t70, hI.t71, hI.t72, hI.t73, hI.t74, hI.t75, hI.t76, hI.t77, hI.t78, hI.t79, hI.t80, hI.t81, hI.t82, hI.t83, hI.t84, hI.t85, hI.t86, hI.t87, hI.t88, hI.t89, hI.t90, hI.t91, hI.t92, hI.t93, hI.t94, hI.t95, hI.t96, hI.t97, hI.t98, hI.t99, hI.t100, hI.t101, fun _ => rfl, hI.t103, hI.t104, fun _ => rfl, fun _ => rfl, hI.t107, hI.t108, hI.t109, hI.t110, hI.t111, hI.t112, hI.t113, hI.t114, hI.t115, hI.t116, hI.t117, hI.t118, hI.t119, hI.t120, hI.t121, hI.a1, hI.a3, hI.a4, hI.a25, hI.bw, hI.r9, hI.x0, hI.x1⟩⟩
  · rintro L a wx ⟨v, rfl, hI⟩ hL hdep hcl K hK
    have e106 := hI.t106 (hdep 106 (by decide))
    rw [e106]
    go_simp
    exact hK _ _ ⟨(upd (upd v 196 (.bool true)) 197 (.bool true)), rfl, ⟨hI.t0, hI.t1, hI.t2, hI.t3, hI.t4, hI.t5, hI.t6, hI.t7, hI.t8, hI.t9, hI.t10, hI.t11, hI.t12, hI.t13, hI.t14, hI.t15, hI.t16, hI.t17, hI.t18, hI.t19, hI.t20, hI.t21, hI.t22, hI.t23, hI.t24, hI.t25, hI.t26, hI.t27, hI.t28, hI.t29, hI.t30, hI.t31, hI.t32, hI.t33, hI.t34, hI.t35, hI.t36, hI.t37, hI.t38, hI.t39, hI.t40, hI.t41, hI.t42, hI.t43, hI.t44, hI.t45, hI.t46, hI.t47, hI.t48, hI.t49, hI.t50, hI.t51, hI.t52, hI.t53, hI.t54, hI.t55, hI.t56, hI.t57, hI.t58, hI.t59, hI.t60, hI.t61, hI.t62, hI.t63, hI.t64, hI.t65, hI.t66, hI.t67, hI.t68, hI.t69, hI.t70, hI.t71, hI.t72, hI.t73, hI.t74, hI.t75, hI.t76, hI.t77, hI.t78, hI.t79, hI.t80, hI.t81, hI.t82, hI.t83, hI.t84, hI.t85, hI.t86, hI.t87, hI.t88, hI.t89, hI.t90, hI.t91, hI.t92, hI.t93, hI.t94, hI.t95, hI.t96, hI.t97, hI.t98, hI.t99, hI.t100, hI.t101, hI.t102, hI.t103, hI.t104, hI.t105, fun _ => rfl, fun _ => rfl, hI.t108, hI.t109, hI.t110, hI.t111, hI.t112, hI.t113, hI.t114, hI.t115, hI.t116, hI.t117, hI.t118, hI.t119, hI.t120, hI.t121, hI.a1, hI.a3, hI.a4, hI.a25, hI.bw, hI.r9, hI.x0, hI.x1⟩⟩
  · rintro L a wx ⟨v, rfl, hI⟩ hL hdep hcl K hK
    have e107 := hI.t107 (hdep 107 (by decide))
    rw [e107]
    refine (if_pos rfl).mpr ?_
    go_simp
    exact hK _ _ ⟨(upd (upd v 197 (.bool true)) 198 (.agg #[.int .i64 (-1), .int .u64 0])), rfl, ⟨hI.t0, hI.t1, hI.t2, hI.t3, hI.t4, hI.t5, hI.t6, hI.t7, hI.t8, hI.t9, hI.t10, hI.t11, hI.t12, hI.t13, hI.t14, hI.t15, hI.t16, hI.t17, hI.t18, hI.t19, hI.t20, hI.t21, hI.t22, hI.t23, hI.t24, hI.t25, hI.t26, hI.t27, hI.t28, hI.t29, hI.t30, hI.t31, hI.t32, hI.t33, hI.t34, hI.t35, hI.t36, hI.t37, hI.t38, hI.t39, hI.t40, hI.t41, hI.t42, hI.t43, hI.t44, hI.t45, hI.t46, hI.t47, hI.t48, hI.t49, hI.t50, hI.t51, hI.t52, hI.t53, hI.t54, hI.t55, hI.t56, hI.t57, hI.t58, hI.t59, hI.t60, hI.t61, hI.t62, hI.t63, hI.t64, hI.t65, hI.t66, hI.t67, hI.t68, hI.t69, hI.t70, hI.t71, hI.t72, hI.t73, hI.t74, hI.t75, hI.t76, hI.t77, hI.t78, hI.t79, hI.t80, hI.t81, hI.t82, hI.t83, hI.t84, hI.t85, hI.t86, hI.t87, hI.t88, hI.t89, hI.t90, hI.t91, hI.t92, hI.t93, hI.t94, hI.t95, hI.t96, hI.t97, hI.t98, hI.t99, hI.t100, hI.t101, hI.t102, hI.t103, hI.t104, hI.t105, hI.t106, fun _ => rfl, fun _ => rfl, hI.t109, hI.t110, hI.t111, hI.t112, hI.t113, hI.t114, hI.t115, hI.t116, hI.t117, hI.t118, hI.t119, hI.t120, hI.t121, hI.a1, hI.a3, hI.a4, hI.a25, hI.bw, hI.r9, hI.x0, hI.x1⟩⟩
  · rintro L a wx ⟨v, rfl, hI⟩ hL hdep hcl K hK
    have e107 := hI.t107 (hdep 107 (by decide))
    have e108 := hI.t108 (hdep 108 (by decide))
    rw [e107, e108]
    refine (if_pos rfl).mpr ?_
    go_simp
    refine (k_m2 wx).mono ?_
    rintro e w' ⟨rfl, hb⟩
    exact hK _ _ ⟨(upd (upd (upd v 197 (.bool true)) 198 (.agg #[.int .i64 (-1), .int .u64 0])) 199 (.bool false)), rfl, ⟨hI.t0, hI.t1, hI.t2, hI.t3, hI.t4, hI.t5, hI.t6, hI.t7, hI.t8, hI.t9, hI.t10, hI.t11, hI.t12, hI.t13, hI.t14, hI.t15, hI.t16, hI.t17, hI.t18, hI.t19, hI.t20, hI.t21, hI.t22, hI.t23, hI.t24, hI.t25, hI.t26, hI.t27, hI.t28, hI.t29, hI.t30, hI.t31, hI.t32, hI.t33, hI.t34, hI.t35, hI.t36, hI.t37, fun h => (hI.t38 h).to hb, hI.t39, hI.t40, hI.t41, hI.t42, hI.t43, hI.t44, hI.t45, hI.t46, hI.t47, hI.t48, hI.t49, hI.t50, hI.t51, hI.t52, hI.t53, hI.t54, hI.t55, hI.t56, hI.t57, hI.t58, hI.t59, hI.t60, hI.t61, hI.t62, hI.t63, hI.t64, hI.t65, hI.t66, hI.t67, hI.t68, hI.t69, hI.t70, hI.t71, hI.t72, hI.t73, hI.t74, hI.t75, hI.t76, hI.t77, hI.t78, hI.t79, hI.t80, hI.t81, hI.t82, hI.t83, hI.t84, hI.t85, hI.t86, hI.t87, hI.t88, hI.t89, hI.t90, hI.t91, hI.t92, hI.t93, hI.t94, hI.t95, hI.t96, hI.t97, hI.t98, hI.t99, hI.t100, hI.t101, hI.t102, hI.t103, hI.t104, hI.t105, hI.t106, fun _ => rfl, fun _ => rfl, fun _ => rfl, hI.t110, hI.t111, hI.t112, hI.t113, hI.t114, hI.t115, hI.t116, hI.t117, hI.t118, hI.t119, hI.t120, hI.t121, (hI.a1).kept hb, (hI.a3).kept hb, (hI.a4).kept hb, (hI.a25).kept hb, (hI.bw).trans (hb.mono (hI.bw).size), (hI.r9).to hb, (hb.cell (p := ⟨b13, n13, none⟩) (Nat.lt_of_lt_of_le hb13 hI.bw.size)).trans (hI.x0), (hb.cell (p := ⟨b13, n13 + 1, none⟩) (Nat.lt_of_lt_of_le hb13 hI.bw.size)).trans (hI.x1)⟩⟩
  · rintro L a wx ⟨v, rfl, hI⟩ hL hdep hcl K hK
    have e107 := hI.t107 (hdep 107 (by decide))
    have e109 := hI.t109 (hdep 109 (by decide))
    rw [e107, e109]
    refine (if_pos rfl).mpr ?_
    go_simp
    exact hK _ _ ⟨(upd (upd (upd v 197 (.bool true)) 199 (.bool false)) 200 (.bool true)), rfl, ⟨hI.t0, hI.t1, hI.t2, hI.t3, hI.t4, hI.t5, hI.t6, hI.t7, hI.t8, hI.t9, hI.t10, hI.t11, hI.t12, hI.t13, hI.t14, hI.t15, hI.t16, hI.t17, hI.t18, hI.t19, hI.t20, hI.t21, hI.t22, hI.t23, hI.t24, hI.t25, hI.t26, hI.t27, hI.t28, hI.t29, hI.t30, hI.t31, hI.t32, hI.t33, hI.t34, hI.t35, hI.t36, hI.t37, hI.t38, hI.t39, hI.t40, hI.t41, hI.t42, hI.t43, hI.t44, hI.t45, hI.t46, hI.t47, hI.t48, hI.t49, hI.t50, hI.t51, hI.t52, hI.t53, hI.t54, hI.t55, hI.t56, hI.t57, hI.t58, hI.t59, hI.t60, hI.t61, hI.t62, hI.t63, hI.t64, hI.t65, hI.t66, hI.t67, hI.t68, hI.t69, hI.t70, hI.t71, hI.t72, hI.t73, hI.t74, hI.t75, hI.t76, hI.t77, hI.t78, hI.t79, hI.t80, hI.t81, hI.t82, hI.t83, hI.t84, hI.t85, hI.t86, hI.t87, hI.t88, hI.t89, hI.t90, hI.t91, hI.t92, hI.t93, hI.t94, hI.t95, hI.t96, hI.t97, hI.t98, hI.t99, hI.t100, hI.t101, hI.t102, hI.t103, hI.t104, hI.t105, hI.t106, fun _ => rfl, hI.t108, fun _ => rfl, fun _ => rfl, hI.t111, hI.t112, hI.t113, hI.t114, hI.t115, hI.t116, hI.t117, hI.t118, hI.t119, hI.t120, hI.t121, hI.a1, hI.a3, hI.a4, hI.a25, hI.bw, hI.r9, hI.x0, hI.x1⟩⟩
  · rintro L a wx ⟨v, rfl, hI⟩ hL hdep hcl K hK
    have e107 := hI.t107 (hdep 107 (by decide))
    have e110 := hI.t110 (hdep 110 (by decide))
    rw [e107, e110]
    go_simp
    exact hK _ _ ⟨(upd (upd (upd v 197 (.bool true)) 200 (.bool true)) 201 (.bool true)), rfl, ⟨hI.t0, hI.t1, hI.t2, hI.t3, hI.t4, hI.t5, hI.t6, hI.t7, hI.t8, hI.t9, hI.t10, hI.t11, hI.t12, hI.t13, hI.t14, hI.t15, hI.t16, hI.t17, hI.t18, hI.t19, hI.t20, hI.t21, hI.t22, hI.t23, hI.t24, hI.t25, hI.t26, hI.t27, hI.t28, hI.t29, hI.t30, hI.t31, hI.t32, hI.t33, hI.t34, hI.t35, hI.t36, hI.t37, hI.t38, hI.t39, hI.t40, hI.t41, hI.t42, hI.t43, hI.t44, hI.t45, hI.t46, hI.t47, hI.t48, hI.t49, hI.t50, hI.t51, hI.t52, hI.t53, hI.t54, hI.t55, hI.t56, hI.t57, hI.t58, hI.t59, hI.t60, hI.t61, hI.t62, hI.t63, hI.t64, hI.t65, hI.t66, hI.t67, hI.t68, hI.t69, hI.t70, hI.t71, hI.t72, hI.t73, hI.t74, hI.t75, hI.t76, hI.t77, hI.t78, hI.t79, hI.t80, hI.t81, hI.t82, hI.t83, hI.t84, hI.t85, hI.t86, hI.t87, hI.t88, hI.t89, hI.t90, hI.t91, hI.t92, hI.t93, hI.t94, hI.t95, hI.t96, hI.t97, hI.t98, hI.t99, hI.t100, hI.t101, hI.t102, hI.t103, hI.t104, hI.t105, hI.t106, fun _ => rfl, hI.t108, hI.t109, fun _ => rfl, fun _ => rfl, hI.t112, hI.t113, hI.t114, hI.t115, hI.t116, hI.t117, hI.t118, hI.t119, hI.t120, hI.t121, hI.a1, hI.a3, hI.a4, hI.a25, hI.bw, hI.r9, hI.x0, hI.x1⟩⟩
  · rintro L a wx ⟨v, rfl, hI⟩ hL hdep hcl K hK
    have e111 := hI.t111 (hdep 111 (by decide))
    rw [e111]
    go_simp
    exact hK _ _ ⟨(upd (upd v 201 (.bool true)) 202 (.bool true)), rfl, ⟨hI.t0, hI.t1, hI.t2, hI.t3, hI.t4, hI.t5, hI.t6, hI.t7, hI.t8, hI.t9, hI.t10, hI.t11, hI.t12, hI.t13, hI.t14, hI.t15, hI.t16, hI.t17, hI.t18, hI.t19, hI.t20, hI.t21, hI.t22, hI.t23, hI.t24, hI.t25, hI.t26, hI.t27, hI.t28, hI.t29, hI.t30, hI.t31, hI.t32, hI.t33, hI.t34, hI.t35, hI.t36, hI.t37, hI.t38, hI.t39, hI.t40, hI.t41, hI.t42, hI.t43, hI.t44, hI.t45, hI.t46, hI.t47, hI.t48, hI.t49, hI.t50, hI.t51, hI.t52, hI.t53, hI.t54, hI.t55, hI.t56, hI.t57, hI.t58, hI.t59, hI.t60, hI.t61, hI.t62, hI.t63, hI.t64, hI.t65, hI.t66, hI.t67, hI.t68, hI.t69, hI.t70, hI.t71, hI.t72, hI.t73, hI.t74, hI.t75, hI.t76, hI.t77, hI.t78, hI.t79, hI.t80, hI.t81, hI.t82, hI.t83, hI.t84, hI.t85, hI.t86, hI.t87, hI.t88, hI.t89, hI.t90, hI.t91, hI.t92, hI.t93, hI.t94, hI.t95, hI.t96, hI.t97, hI.t98, hI.t99, hI.t100, hI.t101, hI.t102, hI.t103, hI.t104, hI.t105, hI.t106, hI.t107, hI.t108, hI.t109, hI.t110, fun _ => rfl, fun _ => rfl, hI.t113, hI.t114, hI.t115, hI.t116, hI.t117, hI.t118, hI.t119, hI.t120, hI.t121, hI.a1, hI.a3, hI.a4, hI.a25, hI.bw, hI.r9, hI.x0, hI.x1⟩⟩
  · rintro L a wx ⟨v, rfl, hI⟩ hL hdep hcl K hK
    have e112 := hI.t112 (hdep 112 (by decide))
    rw [e112]
    refine (if_pos rfl).mpr ?_
    go_simp
    exact hK _ _ ⟨(upd (upd v 202 (.bool true)) 203 (.agg #[.int .i64 20, .int .u64 1])), rfl, ⟨hI.t0, hI.t1, hI.t2, hI.t3, hI.t4, hI.t5, hI.t6, hI.t7, hI.t8, hI.t9, hI.t10, hI.t11, hI.t12, hI.t13, hI.t14, hI.t15, hI.t16, hI.t17, hI.t18, hI.t19, hI.t20, hI.t21, hI.t22, hI.t23, hI.t24, hI.t25, hI.t26, hI.t27, hI.t28, hI.t29, hI.t30, hI.t31, hI.t32, hI.t33, hI.t34, hI.t35, hI.t36, hI.t37, hI.t38, hI.t39, hI.t40, hI.t41, hI.t42, hI.t43, hI.t44, hI.t45, hI.t46, hI.t47, hI.t48, hI.t49, hI.t50, hI.t51, hI.t52, hI.t53, hI.t54, hI.t55, hI.t56, hI.t57, hI.t58, hI.t59, hI.t60, hI.t61, hI.t62, hI.t63, hI.t64, hI.t65, hI.t66, hI.t67, hI.t68, hI.t69, hI.t70, hI.t71, hI.t72, hI.t73, hI.t74, hI.t75, hI.t76, hI.t77, hI.t78, hI.t79, hI.t80, hI.t81, hI.t82, hI.t83, hI.t84, hI.t85, hI.t86, hI.t87, hI.t88, hI.t89, hI.t90, hI.t91, hI.t92, hI.t93, hI.t94, hI.t95, hI.t96, hI.t97, hI.t98, hI.t99, hI.t100, hI.t101, hI.t102, hI.t103, hI.t104, hI.t105, hI.t106, hI.t107, hI.t108, hI.t109, hI.t110, hI.t111, fun _ => rfl, fun _ => rfl, hI.t114, hI.t115, hI.t116, hI.t117, hI.t118, hI.t119, hI.t120, hI.t121, hI.a1, hI.a3, hI.a4, hI.a25, hI.bw, hI.r9, hI.x0, hI.x1⟩⟩
  · rintro L a wx ⟨v, rfl, hI⟩ hL hdep hcl K hK
    have e112 := hI.t112 (hdep 112 (by decide))
    have e113 := hI.t113 (hdep 113 (by decide))
    rw [e112, e113]
    refine (if_pos rfl).mpr ?_
    go_simp
    refine (k_m3 wx).mono ?_
    rintro e w' ⟨rfl, hb⟩
    exact hK _ _ ⟨(upd (upd (upd v 202 (.bool true)) 203 (.agg #[.int .i64 20, .int .u64 1])) 204 (.bool false)), rfl, ⟨hI.t0, hI.t1, hI.t2, hI.t3, hI.t4, hI.t5, hI.t6, hI.t7, hI.t8, hI.t9, hI.t10, hI.t11, hI.t12, hI.t13, hI.t14, hI.t15, hI.t16, hI.t17, hI.t18, hI.t19, hI.t20, hI.t21, hI.t22, hI.t23, hI.t24, hI.t25, hI.t26, hI.t27, hI.t28, hI.t29, hI.t30, hI.t31, hI.t32, hI.t33, hI.t34, hI.t35, hI.t36, hI.t37, fun h => (hI.t38 h).to hb, hI.t39, hI.t40, hI.t41, hI.t42, hI.t43, hI.t44, hI.t45, hI.t46, hI.t47, hI.t48, hI.t49, hI.t50, hI.t51, hI.t52, hI.t53, hI.t54, hI.t55, hI.t56, hI.t57, hI.t58, hI.t59, hI.t60, hI.t61, hI.t62, hI.t63, hI.t64, hI.t65, hI.t66, hI.t67, hI.t68, hI.t69, hI.t70, hI.t71, hI.t72, hI.t73, hI.t74, hI.t75, hI.t76, hI.t77, hI.t78, hI.t79, hI.t80, hI.t81, hI.t82, hI.t83, hI.t84, hI.t85, hI.t86, hI.t87, hI.t88, hI.t89, hI.t90, hI.t91, hI.t92, hI.t93, hI.t94, hI.t95, hI.t96, hI.t97, hI.t98, hI.t99, hI.t100, hI.t101, hI.t102, hI.t103, hI.t104, hI.t105, hI.t106, hI.t107, hI.t108, hI.t109, hI.t110, hI.t111, fun _ => rfl, fun _ => rfl, fun _ => rfl, hI.t115, hI.t116, hI.t117, hI.t118, hI.t119, hI.t120, hI.t121, (hI.a1).kept hb, (hI.a3).kept hb, (hI.a4).kept hb, (hI.a25).kept hb, (hI.bw).trans (hb.mono (hI.bw).size), (hI.r9).to hb, (hb.cell (p := ⟨b13, n13, none⟩) (Nat.lt_of_lt_of_le hb13 hI.bw.size)).trans (hI.x0), (hb.cell (p := ⟨b13, n13 + 1, none⟩) (Nat.lt_of_lt_of_le hb13 hI.bw.size)).trans (hI.x1)⟩⟩
  · rintro L a wx ⟨v, rfl, hI⟩ hL hdep hcl K hK
    have e112 := hI.t112 (hdep 112 (by decide))
    have e114 := hI.t114 (hdep 114 (by decide))
    rw [e112, e114]
    refine (if_pos rfl).mpr ?_
    go_simp
    exact hK _ _ ⟨(upd (upd (upd v 202 (.bool true)) 204 (.bool false)) 205 (.bool true)), rfl, ⟨hI.t0, hI.t1, hI.t2, hI.t3, hI.t4, hI.t5, hI.t6, hI.t7, hI.t8, hI.t9, hI.t10, hI.t11, hI.t12, hI.t13, hI.t14, hI.t15, hI.t16, hI.t17, hI.t18, hI.t19, hI.t20, hI.t21, hI.t22, hI.t23, hI.t24, hI.t25, hI.t26, hI.t27, hI.t28, hI.t29, hI.t30, hI.t31, hI.t32, hI.t33, hI.t34, hI.t35, hI.t36, hI.t37, hI.t38, hI.t39, hI.t40, hI.t41, hI.t42, hI.t43, hI.t44, hI.t45, hI.t46, hI.t47, hI.t48, hI.t49, hI.t50, hI.t51, hI.t52, hI.t53, hI.t54, hI.t55, hI.t56, hI.t57, hI.t58, hI.t59, hI.t60, hI.t61, hI.t62, hI.t63, hI.t64, hI.t65, hI.t66, hI.t67, hI.t68, hI.t69, hI.t70, hI.t71, hI.t72, hI.t73, hI.t74, hI.t75, hI.t76, hI.t77, hI.t78, hI.t79, hI.t80, hI.t81, hI.t82, hI.t83, hI.t84, hI.t85, hI.t86, hI.t87, hI.t88, hI.t89, hI.t90, hI.t91, hI.t92, hI.t93, hI.t94, hI.t95, hI.t96, hI.t97, hI.t98, hI.t99, hI.t100, hI.t101, hI.t102, hI.t103, hI.t104, hI.t105, hI.t106, hI.t107, hI.t108, hI.t109, hI.t110, hI.t111, fun _ => rfl, hI.t113, fun _ => rfl, fun _ => rfl, hI.t116, hI.t117, hI.t118, hI.t119, hI.t120, hI.t121, hI.a1, hI.a3, hI.a4, hI.a25, hI.bw, hI.r9, hI.x0, hI.x1⟩⟩
  · rintro L a wx ⟨v, rfl, hI⟩ hL hdep hcl K hK
    have e112 := hI.t112 (hdep 112 (by decide))
    have e115 := hI.t115 (hdep 115 (by decide))
    rw [e112, e115]
    go_simp
    exact hK _ _ ⟨(upd (upd (upd v 202 (.bool true)) 205 (.bool true)) 206 (.bool true)), rfl, ⟨hI.t0, hI.t1, hI.t2, hI.t3, hI.t4, hI.t5, hI.t6, hI.t7, hI.t8, hI.t9, hI.t10, hI.t11, hI.t12, hI.t13, hI.t14, hI.t15, hI.t16, hI.t17, hI.t18, hI.t19, hI.t20, hI.t21, hI.t22, hI.t23, hI.t24, hI.t25, hI.t26, hI.t27, hI.t28, hI.t29, hI.t30, hI.t31, hI.t32, hI.t33, hI.t34, hI.t35, hI.t36, hI.t37, hI.t38, hI.t39, hI.t40, hI.t41, hI.t42, hI.t43, hI.t44, hI.t45, hI.t46, hI.t47, hI.t48, hI.t49, hI.t50, hI.t51, hI.t52, hI.t53, hI.t54, hI.t55, hI.t56, hI.t57, hI.t58, hI.t59, hI.t60, hI.t61, hI.t62, hI.t63, hI.t64, hI.t65, hI.t66, hI.t67, hI.t68, hI.t69, hI.t70, hI.t71, hI.t72, hI.t73, hI.t74, hI.t75, hI.t76, hI.t77, hI.t78, hI.t79, hI.t80, hI.t81, hI.t82, hI.t83, hI.t84, hI.t85, hI.t86, hI.t87, hI.t88, hI.t89, hI.t90, hI.t91, hI.t92, hI.t93, hI.t94, hI.t95, hI.t96, hI.t97, hI.t98, hI.t99, hI.t100, hI.t101, hI.t102, hI.t103, hI.t104, hI.t105, hI.t106, hI.t107, hI.t108, hI.t109, hI.t110, hI.t111, fun _ => rfl, hI.t113, hI.t114, fun _ => rfl, fun _ => rfl, hI.t117, hI.t118, hI.t119, hI.t120, hI.t121, hI.a1, hI.a3, hI.a4, hI.a25, hI.bw, hI.r9, hI.x0, hI.x1⟩⟩
  · rintro L a wx ⟨v, rfl, hI⟩ hL hdep hcl K hK
    have e116 := hI.t116 (hdep 116 (by decide))
    rw [e116]
    go_simp
    exact hK _ _ ⟨(upd (upd v 206 (.bool true)) 207 (.bool true)), rfl, ⟨hI.t0, hI.t1, hI.t2, hI.t3, hI.t4, hI.t5, hI.t6, hI.t7, hI.t8, hI.t9, hI.t10, hI.t11, hI.t12, hI.t13, hI.t14, hI.t15, hI.t16, hI.t17, hI.t18, hI.t19, hI.t20, hI.t21, hI.t22, hI.t23, hI.t24, hI.t25, hI.t26, hI.t27, hI.t28, hI.t29, hI.t30, hI.t31, hI.t32, hI.t33, hI.t34, hI.t35, hI.t36, hI.t37, hI.t38, hI.t39, hI.t40, hI.t41, hI.t42, hI.t43, hI.t44, hI.t45, hI.t46, hI.t47, hI.t48, hI.t49, hI.t50, hI.t51, hI.t52, hI.t53, hI.t54, hI.t55, hI.t56, hI.t57, hI.t58, hI.t59, hI.t60, hI.t61, hI.t62, hI.t63, hI.t64, hI.t65, hI.t66, hI.t67, hI.t68, hI.t69, hI.t70, hI.t71, hI.t72, hI.t73, hI.t74, hI.t75, hI.t76, hI.t77, hI.t78, hI.t79, hI.t80, hI.t81, hI.t82, hI.t83, hI.t84, hI.t85, hI.t86, hI.t87, hI.t88, hI.t89, hI.t90, hI.t91, hI.t92, hI.t93, hI.t94, hI.t95, hI.t96, hI.t97, hI.t98, hI.t99, hI.t100, hI.t101, hI.t102, hI.t103, hI.t104, hI.t105, hI.t106, hI.t107, hI.t108, hI.t109, hI.t110, hI.t111, hI.t112, hI.t113, hI.t114, hI.t115, fun _ => rfl, fun _ => rfl, hI.t118, hI.t119, hI.t120, hI.t121, hI.a1, hI.a3, hI.a4, hI.a25, hI.bw, hI.r9, hI.x0, hI.x1⟩⟩
  · rintro L a wx ⟨v, rfl, hI⟩ hL hdep hcl K hK
    have e117 := hI.t117 (hdep 117 (by decide))
    rw [e117]
    refine (if_pos rfl).mpr ?_
    go_simp
    exact hK _ _ ⟨(upd (upd v 207 (.bool true)) 208 (.agg #[.int .i64 0, .int .u64 1048575])), rfl, ⟨hI.t0, hI.t1, hI.t2, hI.t3, hI.t4, hI.t5, hI.t6, hI.t7, hI.t8, hI.t9, hI.t10, hI.t11, hI.t12, hI.t13, hI.t14, hI.t15, hI.t16, hI.t17, hI.t18, hI.t19, hI.t20, hI.t21, hI.t22, hI.t23, hI.t24, hI.t25, hI.t26, hI.t27, hI.t28, hI.t29, hI.t30, hI.t31, hI.t32, hI.t33, hI.t34, hI.t35, hI.t36, hI.t37, hI.t38, hI.t39, hI.t40, hI.t41, hI.t42, hI.t43, hI.t44, hI.t45, hI.t46, hI.t47, hI.t48, hI.t49, hI.t50, hI.t51, hI.t52, hI.t53, hI.t54, hI.t55, hI.t56, hI.t57, hI.t58, hI.t59, hI.t60, hI.t61, hI.t62, hI.t63, hI.t64, hI.t65, hI.t66, hI.t67, hI.t68, hI.t69, hI.t70, hI.t71, hI.t72, hI.t73, hI.t74, hI.t75, hI.t76, hI.t77, hI.t78, hI.t79, hI.t80, hI.t81, hI.t82, hI.t83, hI.t84, hI.t85, hI.t86, hI.t87, hI.t88, hI.t89, hI.t90, hI.t91, hI.t92, hI.t93, hI.t94, hI.t95, hI.t96, hI.t97, hI.t98, hI.t99, hI.t100, hI.t101, hI.t102, hI.t103, hI.t104, hI.t105, hI.t106, hI.t107, hI.t108, hI.t109, hI.t110, hI.t111, hI.t112, hI.t113, hI.t114, hI.t115, hI.t116, fun _ => rfl, fun _ => rfl, hI.t119, hI.t120, hI.t121, hI.a1, hI.a3, hI.a4, hI.a25, hI.bw, hI.r9, hI.x0, hI.x1⟩⟩
  · rintro L a wx ⟨v, rfl, hI⟩ hL hdep hcl K hK
    have e117 := hI.t117 (hdep 117 (by decide))
    have e118 := hI.t118 (hdep 118 (by decide))
    rw [e117, e118]
    refine (if_pos rfl).mpr ?_
    go_simp
    refine (k_m4 wx).mono ?_
    rintro e w' ⟨rfl, hb⟩
    exact hK _ _ ⟨(upd (upd (upd v 207 (.bool true)) 208 (.agg #[.int .i64 0, .int .u64 1048575])) 209 (.bool true)), rfl, ⟨hI.t0, hI.t1, hI.t2, hI.t3, hI.t4, hI.t5, hI.t6, hI.t7, hI.t8, hI.t9, hI.t10, hI.t11, hI.t12, hI.t13, hI.t14, hI.t15, hI.t16, hI.t17, hI.t18, hI.t19, hI.t20, hI.t21, hI.t22, hI.t23, hI.t24, hI.t25, hI.t26, hI.t27, hI.t28, hI.t29, hI.t30, hI.t31, hI.t32, hI.t33, hI.t34, hI.t35, hI.t36, hI.t37, fun h => (hI.t38 h).to hb, hI.t39, hI.t40, hI.t41, hI.t42, hI.t43, hI.t44, hI.t45, hI.t46, hI.t47, hI.t48, hI.t49, hI.t50, hI.t51, hI.t52, hI.t53, hI.t54, hI.t55, hI.t56, hI.t57, hI.t58, hI.t59, hI.t60, hI.t61, hI.t62, hI.t63, hI.t64, hI.t65, hI.t66, hI.t67, hI.t68, hI.t69, hI.t70, hI.t71, hI.t72, hI.t73, hI.t74, hI.t75, hI.t76, hI.t77, hI.t78, hI.t79, hI.t80, hI.t81, hI.t82, hI.t83, hI.t84, hI.t85, hI.t86, hI.t87, hI.t88, hI.t89, hI.t90, hI.t91, hI.t92, hI.t93, hI.t94, hI.t95, hI.t96, hI.t97, hI.t98, hI.t99, hI.t100, hI.t101, hI.t102, hI.t103, hI.t104, hI.t105, hI.t106, hI.t107, hI.t108, hI.t109, hI.t110, hI.t111, hI.t112, hI.t113, hI.t114, hI.t115, hI.t116, fun _ => rfl, fun _ => rfl, fun _ => rfl, hI.t120, hI.t121, (hI.a1).kept hb, (hI.a3).kept hb, (hI.a4).kept hb, (hI.a25).kept hb, (hI.bw).trans (hb.mono (hI.bw).size), (hI.r9).to hb, (hb.cell (p := ⟨b13, n13, none⟩) (Nat.lt_of_lt_of_le hb13 hI.bw.size)).trans (hI.x0), (hb.cell (p := ⟨b13, n13 + 1, none⟩) (Nat.lt_of_lt_of_le hb13 hI.bw.size)).trans (hI.x1)⟩⟩
  · rintro L a wx ⟨v, rfl, hI⟩ hL hdep hcl K hK
    have e117 := hI.t117 (hdep 117 (by decide))
    have e119 := hI.t119 (hdep 119 (by decide))
    rw [e117, e119]
    go_simp
    exact hK _ _ ⟨(upd (upd (upd v 207 (.bool true)) 209 (.bool true)) 210 (.bool true)), rfl, ⟨hI.t0, hI.t1, hI.t2, hI.t3, hI.t4, hI.t5, hI.t6, hI.t7, hI.t8, hI.t9, hI.t10, hI.t11, hI.t12, hI.t13, hI.t14, hI.t15, hI.t16, hI.t17, hI.t18, hI.t19, hI.t20, hI.t21, hI.t22, hI.t23, hI.t24, hI.t25, hI.t26, hI.t27, hI.t28, hI.t29, hI.t30, hI.t31, hI.t32, hI.t33, hI.t34, hI.t35, hI.t36, hI.t37, hI.t38, hI.t39, hI.t40, hI.t41, hI.t42, hI.t43, hI.t44, hI.t45, hI.t46, hI.t47, hI.t48, hI.t49, hI.t50, hI.t51, hI.t52, hI.t53, hI.t54, hI.t55, hI.t56, hI.t57, hI.t58, hI.t59, hI.t60, hI.t61, hI.t62, hI.t63, hI.t64, hI.t65, hI.t66, hI.t67, hI.t68, hI.t69, hI.t70, hI.t71, hI.t72, hI.t73, hI.t74, hI.t75, hI.t76, hI.t77, hI.t78, hI.t79, hI.t80, hI.t81, hI.t82, hI.t83, hI.t84, hI.t85, hI.t86, hI.t87, hI.t88, hI.t89, hI.t90, hI.t91, hI.t92, hI.t93, hI.t94, hI.t95, hI.t96, hI.t97, hI.t98, hI.t99, hI.t100, hI.t101, hI.t102, hI.t103, hI.t104, hI.t105, hI.t106, hI.t107, hI.t108, hI.t109, hI.t110, hI.t111, hI.t112, hI.t113, hI.t114, hI.t115, hI.t116, fun _ => rfl, hI.t118, fun _ => rfl, fun _ => rfl, hI.t121, hI.a1, hI.a3, hI.a4, hI.a25, hI.bw, hI.r9, hI.x0, hI.x1⟩⟩
  · rintro L a wx ⟨v, rfl, hI⟩ hL hdep hcl K hK
    have e120 := hI.t120 (hdep 120 (by decide))
    rw [e120]
    go_simp
    exact hK _ _ ⟨(upd (upd v 210 (.bool true)) 0 (.bool true)), rfl, ⟨hI.t0, hI.t1, hI.t2, hI.t3, hI.t4, hI.t5, hI.t6, hI.t7, hI.t8, hI.t9, hI.t10, hI.t11, hI.t12, hI.t13, hI.t14, hI.t15, hI.t16, hI.t17, hI.t18, hI.t19, hI.t20, hI.t21, hI.t22, hI.t23, hI.t24, hI.t25, hI.t26, hI.t27, hI.t28, hI.t29, hI.t30, hI.t31, hI.t32, hI.t33, hI.t34, hI.t35, hI.t36, hI.t37, hI.t38, hI.t39, hI.t40, hI.t41, hI.t42, hI.t43, hI.t44, hI.t45, hI.t46, hI.t47, hI.t48, hI.t49, hI.t50, hI.t51, hI.t52, hI.t53, hI.t54, hI.t55, hI.t56, hI.t57, hI.t58, hI.t59, hI.t60, hI.t61, hI.t62, hI.t63, hI.t64, hI.t65, hI.t66, hI.t67, hI.t68, hI.t69, hI.t70, hI.t71, hI.t72, hI.t73, hI.t74, hI.t75, hI.t76, hI.t77, hI.t78, hI.t79, hI.t80, hI.t81, hI.t82, hI.t83, hI.t84, hI.t85, hI.t86, hI.t87, hI.t88, hI.t89, hI.t90, hI.t91, hI.t92, hI.t93, hI.t94, hI.t95, hI.t96, hI.t97, hI.t98, hI.t99, hI.t100, hI.t101, hI.t102, hI.t103, hI.t104, hI.t105, hI.t106, hI.t107, hI.t108, hI.t109, hI.t110, hI.t111, hI.t112, hI.t113, hI.t114, hI.t115, hI.t116, hI.t117, hI.t118, hI.t119, fun _ => rfl, fun _ => rfl, hI.a1, hI.a3, hI.a4, hI.a25, hI.bw, hI.r9, hI.x0, hI.x1⟩⟩
  · rintro a wx ⟨v, rfl, hI⟩
    have e := hI.t121 rfl
    rw [e]
    have hbw := hI.bw
    clear hI e
    go_wp2
    go_ret
    exact ⟨rfl, HB.trans (hbw.mono HB.size)⟩
end Go.Proofs.Ytbhmgkpkagjmnaa
