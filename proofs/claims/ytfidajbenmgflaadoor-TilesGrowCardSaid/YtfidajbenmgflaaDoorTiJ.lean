/-
  Package tiles, the statement's side: the rows of the chapter. Conditions: those in each statement.
-/
import Derived.Test.YtfidajbenmgflaaDoorTiC
import Derived.Test.YtfidajbenmgflaaDoorTiF
import Derived.Test.YtfidajbenmgflaaDoorTiG
namespace Go.Proofs.YtfidajbenmgflaaDoor
open Go.RowKit

section
variable {o : Oper} {a : Act} {Q : Exit → Act → World → Prop} {w : World} {ops : Array Oper} {rest : List Oper}
/-- a row of two hashes, written out -/
theorem wl_litD2 (hg : o.guard = none) (i j : Nat) (ho : o.op = .buildSlice 37 2 #[(0, .tmp i), (1, .tmp j)]) (x y : List UInt8) (hx : x.length = 32) (hy : y.length = 32)
    (h1 : a.eval (.tmp i) = .agg (bvs x).toArray) (h2 : a.eval (.tmp j) = .agg (bvs y).toArray)
    (hK : ∀ w', Arr w' w.heap.size 48 (dcs [x, y]) → Below w.heap.size w w' → wpList Tryd.prog ops Q rest (a.put o.dst (.slice (some ⟨w.heap.size, 0, none⟩) 2 2)) w') : wpList Tryd.prog ops Q (o :: rest) a w := by
  refine Great.wpList_buildRows hg 37 48 #[(0, .tmp i), (1, .tmp j)] 32 [.agg (bvs x).toArray, .agg (bvs y).toArray] ho (fun n => [i, j].getD n 0) _ rfl _ rfl Tryd.underlying37 sizeD (by kernel_rfl) (by decide) (by simp) (by simp) rfl ?_ ?_ ?_
  · intro v hv
    simp only [List.mem_cons, List.not_mem_nil, or_false] at hv
    rcases hv with rfl | rfl <;> simp [Value.cells, bvs_len, hx, hy]
  · intro n hn
    match n, hn with
    | 0, _ => exact h1
    | 1, _ => exact h2
  · refine hK _ ?_ ((Below.refl _ _).alloc (Nat.le_refl _) _)
    have e : ((([.agg (bvs x).toArray, .agg (bvs y).toArray] : List Value).flatMap fun v => v.cells.toList).toArray) = (dcs [x, y]).toArray := by simp [Value.cells, dcs]
    rw [e]
    exact Arr.new _ _ _
end
/-- a hash whose first byte is b, the others 0 -/
def Dg (b : UInt8) : List UInt8 := b :: List.replicate 31 0
theorem Dg_len (b : UInt8) : (Dg b).length = 32 := by simp [Dg]

def txA : List UInt8 := [116, 48, 45, 48, 48, 48, 48, 48, 51, 45, 49, 54]
def txB : List UInt8 := [116, 53, 45, 57, 57, 57, 57, 57, 57, 45, 48, 49]
def txC : List UInt8 := [116, 48, 45, 48, 48, 48, 48, 48, 51, 45, 48, 48]
theorem nameA : layT (rowF 0 3 16) = txA ∧ nameE (rowF 0 3 16) = 0 := by decide +kernel
theorem nameB : layT (rowF 6 0 1) = [] ∧ nameE (rowF 6 0 1) = 1 := by decide +kernel
theorem parseB : prsV txB 0 = 5 ∧ prsV txB 1 = 999999 ∧ prsV txB 2 = 1 ∧ prsE txB = 0 := by decide +kernel
theorem parseC : prsE txC = 5 ∧ prsV txC 0 = 0 ∧ prsV txC 1 = 0 ∧ prsV txC 2 = 0 := by decide +kernel
theorem cntA : cntF 300 1 = 18 := by decide +kernel
theorem putA : putT [Dg 1, Dg 2] = Dg 1 ++ Dg 2 ∧ putE [Dg 1, Dg 2] = 0 := by decide +kernel
set_option maxRecDepth 100000 in
set_option maxHeartbeats 3200000 in
theorem wakes_any (w : World) (hT : Tabs w) : Calls Tryd.prog 15 #[] w fun e w' => e = .returned (.bool true) ∧ Below w.heap.size w w' := by
  have HN1 : Hid (∀ W, Below w.heap.size w W → Calls Tryd.prog 8 #[.int .i64 0, .int .u64 3, .int .i64 16] W fun e w' => e = .returned (.tuple #[.string ⟨#[116, 48, 45, 48, 48, 48, 48, 48, 51, 45, 49, 54]⟩, .int .i64 0]) ∧ Below W.heap.size W w') := fun W hb => by
    have h := Name_any 0 3 16 (by omega) W (hT.to hb)
    rw [nameA.1, nameA.2] at h
    exact h
  have HN2 : Hid (∀ W, Below w.heap.size w W → Calls Tryd.prog 8 #[.int .i64 6, .int .u64 0, .int .i64 1] W fun e w' => e = .returned (.tuple #[.string ⟨#[]⟩, .int .i64 1]) ∧ Below W.heap.size W w') := fun W hb => by
    have h := Name_any 6 0 1 (by omega) W (hT.to hb)
    rw [nameB.1, nameB.2] at h
    exact h
  have HP1 : Hid (∀ W, Below w.heap.size w W → Calls Tryd.prog 10 #[.string ⟨#[116, 53, 45, 57, 57, 57, 57, 57, 57, 45, 48, 49]⟩] W fun e w' => e = .returned (.tuple #[.int .i64 5, .int .u64 999999, .int .i64 1, .int .i64 0]) ∧ Below W.heap.size W w') := fun W hb => by
    have h := Parse_any txB (by decide) W (hT.to hb)
    unfold prsT at h
    rw [parseB.1, parseB.2.1, parseB.2.2.1, parseB.2.2.2] at h
    exact h
  have HP2 : Hid (∀ W, Below w.heap.size w W → Calls Tryd.prog 10 #[.string ⟨#[116, 48, 45, 48, 48, 48, 48, 48, 51, 45, 48, 48]⟩] W fun e w' => e = .returned (.tuple #[.int .i64 0, .int .u64 0, .int .i64 0, .int .i64 5]) ∧ Below W.heap.size W w') := fun W hb => by
    have h := Parse_any txC (by decide) W (hT.to hb)
    unfold prsT at h
    rw [parseC.1, parseC.2.1, parseC.2.2.1, parseC.2.2.2] at h
    exact h
  have HD : Hid (∀ W, Calls Tryd.prog 13 #[.int .u64 300, .int .i64 1] W fun e w' => e = .returned (.tuple #[.int .u64 1, .int .i64 2]) ∧ W = w') := fun W => by
    have h := Need_any 300 1 (by omega) W
    rw [cntA] at h
    exact h
  have HC : Hid (∀ W, Calls Tryd.prog 14 #[.int .u64 300, .int .i64 1] W fun e w' => e = .returned (.int .u64 18) ∧ W = w') := fun W => by
    have h := Count_any 300 1 (by omega) W
    rw [cntA] at h
    exact h
  have HU : Hid (∀ W g, Arr W g 48 (dcs [Dg 1, Dg 2]) → Calls Tryd.prog 16 #[.slice (some ⟨g, 0, none⟩) 2 2] W fun e w' => ∃ q c, e = .returned (.tuple #[.slice (some ⟨q, 0, none⟩) 64 c, .int .i64 0]) ∧ w'.cell? ⟨q, 32, none⟩ = some (.int .u8 2) ∧ 64 ≤ c ∧ Below W.heap.size W w') := fun W g hA => by
    have hall : All32 [Dg 1, Dg 2] := All32.of fun x hx => by
      simp only [List.mem_cons, List.not_mem_nil, or_false] at hx
      rcases hx with rfl | rfl <;> exact Dg_len _
    refine (Put_any [Dg 1, Dg 2] _ 2 2 W (by omega) (rdd_arr hA hall)).mono ?_
    rintro e w' ⟨v, rfl, ho, hb⟩
    rw [putA.1] at ho
    rw [putA.2]
    obtain ⟨q, c, rfl, hq⟩ := ho.solid (by decide)
    have hc := ho.rd.le
    have hcell := ho.cellAt 32 (by decide)
    exact ⟨q, c, rfl, hcell, hc, hb⟩
  clear hT
  go_enter Tryd.func15, Tryd.ntmps15
  go_upto_region 6 with (first
    | (go_at_call 8; (have _g := HN1); go_loud (refine (HN1.out _ (Below.refl _ _)).mono ?_); rintro e w1 ⟨rfl, hb1⟩; clear HN1; (have k1 := hb1))
    | (go_at_call 8; go_loud (refine (HN2.out _ k1).mono ?_); rintro e w2 ⟨rfl, hb2⟩; (have k2 := k1.trans (hb2.mono k1.size)))
    | (go_at_call 10; (have _g := HP1); go_loud (refine (HP1.out _ k2).mono ?_); rintro e w3 ⟨rfl, hb3⟩; clear HP1; (have k3 := k2.trans (hb3.mono k2.size)))
    | (go_at_call 10; go_loud (refine (HP2.out _ k3).mono ?_); rintro e w4 ⟨rfl, hb4⟩; (have k4 := k3.trans (hb4.mono k3.size)))
    | (go_at_call 13; go_loud (refine (HD.out _).mono ?_); rintro e w5 ⟨rfl, rfl⟩))
  have K4 := Lib.hid k4
  clear hb1 hb2 hb3 hb4 k1 k2 k3 k4
  go_upto_region 7 with (first
    | ((with_reducible show wpList _ _ _ (⟨some 44, .buildSlice _ _ _, _, _, _, _⟩ :: _) _ _); go_loud (refine wl_litD2 rfl 42 43 rfl (Dg 1) (Dg 2) (Dg_len _) (Dg_len _) rfl rfl ?_); intro w6 hA6 hb6)
    | (go_at_call 16; go_loud (refine (HU.out _ _ hA6).mono ?_); rintro e w7 ⟨q, c, rfl, hc7, hq7, hb7⟩))
  have k6 := K4.out.trans (hb6.mono K4.out.size)
  have k7 := k6.trans (hb7.mono k6.size)
  have K7 := Lib.hid k7
  clear hb6 hb7 k6 k7 hA6
  go_wp2_with (go_at_call 14; go_loud (refine (HC.out _).mono ?_); rintro e w8 ⟨rfl, rfl⟩)
  go_ret
  exact ⟨rfl, K7.out⟩
end Go.Proofs.YtfidajbenmgflaaDoor
