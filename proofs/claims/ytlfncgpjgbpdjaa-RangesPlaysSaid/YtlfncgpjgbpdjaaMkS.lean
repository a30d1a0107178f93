/-
  Layer 8: literals of bytes and of hashes; what the chapter's rows want. Conditions: those in each statement.
-/
import Derived.Test.YtlfncgpjgbpdjaaMkR
import Derived.Test.YtlfncgpjgbpdjaaMkO
import Derived.Test.YtlfncgpjgbpdjaaMkV
import Derived.Lib.SlBytesConst
namespace Go.Proofs.Ytlfncgpjgbpdjaa
open Go.RowKit

/-- a literal of bytes, marked or not -/
def LitB (w : World) (g : Nat) (xs : List UInt8) : Prop := ∃ fr, w.heap[g]? = some (.cells (xs.map bv).toArray 5 fr)
theorem LitB.new (w : World) (xs : List UInt8) : LitB (w.alloc (.cells (xs.map bv).toArray 5)) w.heap.size xs := ⟨_, heap_alloc_new w _⟩
theorem LitB.lt {w : World} {g : Nat} {xs : List UInt8} (h : LitB w g xs) : g < w.heap.size := by
  obtain ⟨fr, h⟩ := h
  exact lt_of_block h
theorem LitB.kept {w w' : World} {g : Nat} {xs : List UInt8} (h : LitB w g xs) (hb : Below w.heap.size w w') : LitB w' g xs := by
  have hlt := h.lt
  obtain ⟨fr, h⟩ := h
  exact ⟨fr, by rw [hb.block g hlt]; exact h⟩
theorem LitB.rd {w : World} {g : Nat} {xs : List UInt8} (h : LitB w g xs) : Rd w (some ⟨g, 0, none⟩) xs.length xs.length xs := by
  have hlt := h.lt
  obtain ⟨fr, h⟩ := h
  refine ⟨rfl, Nat.le_refl _, (by intro e; cases e), fun _ => ⟨g, 0, rfl, hlt, fun j hj => ?_⟩⟩
  have : w.cell? ⟨g, 0 + j, none⟩ = ((xs.map bv).toArray)[0 + j]? := by simp [World.cell?, h]
  rw [this]
  simp [hj, bv, List.getD]
theorem run_conv_lit {w : World} {g : Nat} {xs : List UInt8} (h : LitB w g xs) (n c : Nat) :
    ∃ w', (convert 56 56 (.slice (some ⟨g, 0, none⟩) n c)).run Try.prog w = .ok (.slice (some ⟨g, 0, none⟩) n c) w' ∧ LitB w' g xs ∧ w.grownBy w' (some g) ∧ w'.heap.size = w.heap.size := by
  have hlt := h.lt
  obtain ⟨fr, h⟩ := h
  have hsh : w.shape? g = some (5, xs.length) := by unfold World.shape?; rw [h]; simp
  have hf : w.freeze ⟨g, xs.length, none⟩ 1 = { w with heap := w.heap.modify g fun
      | .cells c elem (lo, hi) => .cells c elem (if lo == hi then (xs.length, xs.length + 1) else (min lo xs.length, max hi (xs.length + 1)))
      | o => o } := by unfold World.freeze; rw [if_neg (by decide)]; rfl
  refine ⟨w.freeze ⟨g, xs.length, none⟩ 1, ?_, ?_, ?_, ?_⟩
  · have u1 := fun w => run_underlying (P := Try.prog) Try.underlying56 w
    have u2 := fun w => run_underlying (P := Try.prog) Try.underlying5 w
    simp [convert, u1, u2, markStringish, hsh]
  · rw [hf]
    obtain ⟨lo, hi⟩ := fr
    refine ⟨(if lo == hi then (xs.length, xs.length + 1) else (min lo xs.length, max hi (xs.length + 1))), ?_⟩
    show (w.heap.modify g _)[g]? = _
    rw [Array.getElem?_modify, if_pos rfl, h]
    rfl
  · rw [hf]
    refine ⟨rfl, rfl, rfl, by simp, fun k _ hne => ?_⟩
    show (w.heap.modify g _)[k]? = _
    rw [Array.getElem?_modify, if_neg (by intro e; exact hne (by rw [e]))]
  · rw [hf]; simp

section
variable {o : Oper} {a : Act} {K : Act → World → Prop} {Q : Exit → Act → World → Prop} {w : World}
theorem ow_conv (x : Operand) (ho : o.op = .convert 56 56 x) (g n c : Nat) (xs : List UInt8) (hx : a.eval x = .slice (some ⟨g, 0, none⟩) n c) (h : LitB w g xs)
    (hK : ∀ w', LitB w' g xs → w.grownBy w' (some g) → w'.heap.size = w.heap.size → K (a.put o.dst (.slice (some ⟨g, 0, none⟩) n c)) w') : o.wp Try.prog a w K Q := by
  obtain ⟨w', hr, h1, h2, h3⟩ := run_conv_lit h n c
  unfold Oper.wp execOp
  simp only [ho, hx, Sem.run_bind, Sem.run_pure, hr, Result.andThen_ok]
  exact hK w' h1 h2 h3
variable {ops : Array Oper} {rest : List Oper}
theorem wl_conv (hg : o.guard = none) (x : Operand) (ho : o.op = .convert 56 56 x) (g n c : Nat) (xs : List UInt8) (hx : a.eval x = .slice (some ⟨g, 0, none⟩) n c) (h : LitB w g xs)
    (hK : ∀ w', LitB w' g xs → w.grownBy w' (some g) → w'.heap.size = w.heap.size → wpList Try.prog ops Q rest (a.put o.dst (.slice (some ⟨g, 0, none⟩) n c)) w') : wpList Try.prog ops Q (o :: rest) a w :=
  wpList_plain hg fun _ hK' => ow_conv x ho g n c xs hx h fun w' h1 h2 h3 => hK' _ _ (hK w' h1 h2 h3)
/-- a row of three hashes, written out -/
theorem wl_litD3 (hg : o.guard = none) (i j k : Nat) (ho : o.op = .buildSlice 30 3 #[(0, .tmp i), (1, .tmp j), (2, .tmp k)]) (x y z : List UInt8) (hx : x.length = 32) (hy : y.length = 32) (hz : z.length = 32)
    (h1 : a.eval (.tmp i) = .agg (bvs x).toArray) (h2 : a.eval (.tmp j) = .agg (bvs y).toArray) (h3 : a.eval (.tmp k) = .agg (bvs z).toArray)
    (hK : ∀ w', Arr w' w.heap.size 29 (dcs [x, y, z]) → Below w.heap.size w w' → wpList Try.prog ops Q rest (a.put o.dst (.slice (some ⟨w.heap.size, 0, none⟩) 3 3)) w') : wpList Try.prog ops Q (o :: rest) a w := by
  refine Great.wpList_buildRows hg 30 29 #[(0, .tmp i), (1, .tmp j), (2, .tmp k)] 32 [.agg (bvs x).toArray, .agg (bvs y).toArray, .agg (bvs z).toArray] ho (fun n => [i, j, k].getD n 0) _ rfl _ rfl Try.underlying30 sizeD (by kernel_rfl) (by decide) (by simp) (by simp) rfl ?_ ?_ ?_
  · intro v hv
    simp only [List.mem_cons, List.not_mem_nil, or_false] at hv
    rcases hv with rfl | rfl | rfl <;> simp [Value.cells, bvs_len, hx, hy, hz]
  · intro n hn
    match n, hn with
    | 0, _ => exact h1
    | 1, _ => exact h2
    | 2, _ => exact h3
  · refine hK _ ?_ ((Below.refl _ _).alloc (Nat.le_refl _) _)
    have e : ((([.agg (bvs x).toArray, .agg (bvs y).toArray, .agg (bvs z).toArray] : List Value).flatMap fun v => v.cells.toList).toArray) = (dcs [x, y, z]).toArray := by simp [Value.cells, dcs]
    rw [e]
    exact Arr.new _ _ _
end
theorem rdd_arr {w : World} {g : Nat} {L : List (List UInt8)} (h : Arr w g 29 (dcs L)) (ha : All32 L) : RdD w (some ⟨g, 0, none⟩) L.length L.length L :=
  ⟨rfl, Nat.le_refl _, ha, (by intro e; cases e), fun _ => ⟨g, 0, rfl, h.lt, fun k hk j hj => by rw [Nat.zero_add, h.cell]; exact dcs_get ha k j hk hj⟩⟩
theorem eqSame {xs : List UInt8} (hx : xs.length = 32) (w : World) : (Op.equalIn 10000 29 (.agg (bvs xs).toArray) (.agg (bvs xs).toArray)).run Try.prog w = .ok true w := by
  obtain ⟨i, hi⟩ := Option.isSome_iff_exists.1 infoSome
  have h := run_equalIn_array w 9999 (bvs xs).toArray (bvs xs).toArray Try.underlying29 hi
  rw [cells1, show (9999 : Nat) = 9998 + 1 from rfl, run_eqItems_bytes Try.underlying5 9998 xs xs _ (fun j hj => by have := List.mem_range.1 hj; omega), all_range hx hx] at h
  simpa using h
theorem neIn {xs ys : List UInt8} (hx : xs.length = 32) (hy : ys.length = 32) (hne : xs ≠ ys) (w : World) : (Op.equalIn 10000 29 (.agg (bvs xs).toArray) (.agg (bvs ys).toArray)).run Try.prog w = .ok false w := by
  obtain ⟨i, hi⟩ := Option.isSome_iff_exists.1 infoSome
  have h := run_equalIn_array w 9999 (bvs xs).toArray (bvs ys).toArray Try.underlying29 hi
  rw [cells1, show (9999 : Nat) = 9998 + 1 from rfl, run_eqItems_bytes Try.underlying5 9998 xs ys _ (fun j hj => by have := List.mem_range.1 hj; omega), all_range hx hy] at h
  simpa [hne] using h
theorem leaf_ne : leafH [97] ≠ leafH [98] := by decide +kernel
/-- three leaves -/
theorem two_root (a b : List UInt8) : rootF [a, b] = nodeH a b := by
  rw [rootF_more (by simp), show splK [a, b].length = 1 from (by decide +kernel : splK 2 = 1)]
  rfl
theorem three_root (a b c : List UInt8) : rootF [a, b, c] = nodeH (nodeH a b) c := by
  rw [rootF_more (by simp), show splK [a, b, c].length = 2 from (by decide +kernel : splK 3 = 2)]
  show nodeH (rootF [a, b]) (rootF [c]) = _
  rw [two_root]
  rfl
theorem sub_13 (a b c : List UInt8) : subF [a, b, c] 1 3 = nodeH b c := by
  have h : okP [a, b, c].length 1 3 = true := (by decide : okP 3 1 3 = true)
  unfold subF
  rw [if_pos h]
  exact two_root b c
theorem sub_11 (a b c : List UInt8) : subF [a, b, c] 1 1 = Z8 32 := by
  have h : okP [a, b, c].length 1 1 = false := (by decide : okP 3 1 1 = false)
  unfold subF
  rw [h]
  rfl
theorem sube_13 : subE 3 1 3 = 0 := by decide
theorem sube_11 : subE 3 1 1 = 1 := by decide
theorem three_levs (a b c : List UInt8) (i : Nat) (h1 : 3 < 2 ^ i) (h2 : ∀ j, j < i → 2 ^ j ≤ 3) : levs [a, b, c] i = [[a, b, c], [nodeH a b]] := by
  rw [← levs_levelsF [a, b, c] i h1 h2]
  rfl
end Go.Proofs.Ytlfncgpjgbpdjaa
