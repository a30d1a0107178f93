/-
  Package sha: states: is, New, Len, Copy. Conditions: those in each statement.
-/
import Derived.Test.YtlfncgpjgbpdjaaShaM
import Derived.Test.YtlfncgpjgbpdjaaArr2
import Derived.StillTailTactics
import Derived.Deep.DeepCutAuto
import Derived.Deep.CutBlock
namespace Go.Proofs.Ytlfncgpjgbpdjaa
open Go.RowKit

theorem ret_bool {a b : Bool} (h : a = b) : Ending.returned (.bool a) = .returned (.bool b) := by rw [h]

/-- block r is a state to which xs was written -/
def St (w : World) (r : Nat) (xs : List UInt8) : Prop := ∃ rest, RestOk xs rest ∧ Arr w r 78 (stC (bl xs (xs.length / 64)) rest xs.length)
theorem St.lt {w : World} {r : Nat} {xs : List UInt8} (h : St w r xs) : r < w.heap.size := by obtain ⟨_, _, h⟩ := h; exact h.lt
theorem St.kept {w w' : World} {r : Nat} {xs : List UInt8} (h : St w r xs) (hb : Below w.heap.size w w') : St w' r xs := by
  obtain ⟨x, h1, h⟩ := h; exact ⟨x, h1, h.kept hb⟩
theorem St.to {w w' : World} {B r : Nat} {xs : List UInt8} (h : St w r xs) (hb : Below B w w') (hr : r < B) : St w' r xs := by
  obtain ⟨x, h1, h⟩ := h; exact ⟨x, h1, h.to hb hr⟩
theorem St.grown {w w' : World} {r : Nat} {xs : List UInt8} {g : Option Nat} (h : St w r xs) (hb : w.grownBy w' g) (hr : some r ≠ g) : St w' r xs := by
  obtain ⟨x, h1, h⟩ := h; exact ⟨x, h1, h.grown hb hr⟩
theorem St.cells {w : World} {r : Nat} {xs : List UInt8} (h : St w r xs) : w.cell? ⟨r, 0, none⟩ = some (.bool true) ∧ w.cell? ⟨r, 73, none⟩ = some (.int .u64 (xs.length : Int)) ∧ ∀ j, w.frozen? ⟨r, j, none⟩ = false := by
  obtain ⟨x, h1, h⟩ := h
  exact ⟨h.cell 0, (h.cell 73).trans (stC_get_num _ _ _ h1.1), h.frozen⟩

theorem is_any (r : Nat) (w : World) (hc : w.cell? ⟨r, 0, none⟩ = some (.bool true)) :
    Calls Try.prog 38 #[.pointer (some ⟨r, 0, none⟩)] w fun e w' => e = .returned (.bool true) ∧ w = w' := by
  go_enter Try.func38, Try.ntmps38
  go_wp2
  go_ret
  exact ⟨rfl, rfl⟩
theorem is_zero (r : Nat) (w : World) (hc : w.cell? ⟨r, 0, none⟩ = some (.bool false)) :
    Calls Try.prog 38 #[.pointer (some ⟨r, 0, none⟩)] w fun e w' => e = .returned (.bool false) ∧ w = w' := by
  go_enter Try.func38, Try.ntmps38
  go_wp2
  go_ret
  exact ⟨rfl, rfl⟩
theorem is_nil (w : World) :
    Calls Try.prog 38 #[.pointer none] w fun e w' => e = .returned (.bool false) ∧ w = w' := by
  go_enter Try.func38, Try.ntmps38
  go_wp2
  go_ret
  exact ⟨rfl, rfl⟩

theorem size74 : (Try.prog.info? 78).map (·.size) = some 74 := by kernel_rfl
def Z8 (n : Nat) : List UInt8 := List.replicate n 0
theorem built_new : Try.prog.built 78 [(0, .bool true), (1, .agg (qs H0).toArray)] = some (stC IV (Z8 64) 0).toArray := by kernel_rfl
theorem built_copy (n : Nat) : Try.prog.built 78 [(0, .bool true), (3, .int .u64 (n : Int))] = some (stC ⟨0, 0, 0, 0, 0, 0, 0, 0⟩ (Z8 64) n).toArray := by kernel_rfl

theorem New_any (w : World) : Calls Try.prog 30 #[] w fun e w' => ∃ r, e = .returned (.pointer (some ⟨r, 0, none⟩)) ∧ St w' r [] ∧ w.heap.size ≤ r ∧ Below w.heap.size w w' := by
  go_enter Try.func30, Try.ntmps30
  go_wp2_with (first
    | (go_at_call 37; refine (first_any _).mono ?_; rintro e w1 ⟨rfl, hb1⟩)
    | ((with_reducible show wpList _ _ _ (⟨some 2, .build _ _, _, _, _, _⟩ :: _) _ _); refine wpList_buildTo rfl 78 _ rfl (some 2) rfl (stC IV (Z8 64) 0).toArray (by simpa [Act.eval] using built_new) ?_)
    | ((with_reducible show wpList _ _ _ (⟨some 3, .box _ _, _, _, _, _⟩ :: _) _ _); refine wl_box rfl 78 _ rfl (stC IV (Z8 64) 0) rfl ?_; intro w2 hA2 hb2 hs2))
  go_ret
  exact ⟨_, rfl, ⟨Z8 64, rest_nil _ (by simp [Z8]), hA2⟩, hb1.size, hb1.trans (hb2.mono hb1.size)⟩

set_option maxHeartbeats 800000 in
theorem Copy_any (r : Nat) (xs : List UInt8) (w : World) (h : St w r xs) :
    Calls Try.prog 40 #[.pointer (some ⟨r, 0, none⟩)] w fun e w' => ∃ r', e = .returned (.pointer (some ⟨r', 0, none⟩)) ∧ St w' r' xs ∧ w.heap.size ≤ r' ∧ Below w.heap.size w w' := by
  obtain ⟨c0, c73, -⟩ := h.cells
  obtain ⟨rest, hro, hA⟩ := h
  have hrl := hro.1
  have HRO := Lib.hid hro
  have HRL := Lib.hid hrl
  clear hro hrl
  generalize hbs : bl xs (xs.length / 64) = s at *
  have HS := Lib.hid hbs
  clear hbs
  obtain ⟨n, hn⟩ : ∃ n, n = xs.length := ⟨_, rfl⟩
  rw [← hn] at hA c73
  have HN := Lib.hid hn
  clear hn
  go_enter Try.func40, Try.ntmps40
  go_upto_region 4 with (first
    | (go_at_call 38; refine (is_any _ _ c0).mono ?_; rintro e w1 ⟨rfl, rfl⟩)
    | ((with_reducible show wpList _ _ _ (⟨some 11, .build _ _, _, _, _, _⟩ :: _) _ _); refine wpList_buildTo rfl 78 _ rfl (some 11) rfl (stC ⟨0, 0, 0, 0, 0, 0, 0, 0⟩ (Z8 64) n).toArray (by simpa [Act.eval] using built_copy n) ?_)
    | ((with_reducible show wpList _ _ _ (⟨some 12, .box _ _, _, _, _, _⟩ :: _) _ _); refine wl_box rfl 78 _ rfl (stC ⟨0, 0, 0, 0, 0, 0, 0, 0⟩ (Z8 64) n) rfl ?_; intro w2 hA2 hb2 hs2))
  generalize hg : w.heap.size = g at *
  have HG := Lib.hid hg
  clear hg
  have hrg : r < g := by have := hA.lt; have := HG.out; omega
  have hA' : Arr w2 r 78 (stC s rest n) := hA.to hb2 hrg
  have hnow : Hid (∀ w', Arr w' r 78 (stC s rest n) → ∀ j v, (qs s.list)[j]? = some v → w'.cell? ((⟨r, 1, none⟩ : Addr).add j) = some v) := fun w' h j v hv => by
    rw [Addr.add_mid, h.cell]; exact stC_get_now _ _ _ _ _ hv
  have hrst : Hid (∀ w', Arr w' r 78 (stC s rest n) → ∀ j v, (bvs rest)[j]? = some v → w'.cell? ((⟨r, 9, none⟩ : Addr).add j) = some v) := fun w' h j v hv => by
    rw [Addr.add_mid, h.cell]; exact stC_get_rest _ _ _ _ _ hv
  clear hA c0 c73
  refine wp_region_still_tail 8 (by kernel_rfl) (by kernel_rfl) ?_
  simp only [List.take_succ_cons, List.take_zero, List.drop_succ_cons, List.drop_zero]
  repeat still_step
  refine wpStill_nil ?_
  change wpList _ _ _ _ _ w2.drew
  replace hA' := hA'.drew
  replace hA2 := hA2.drew
  replace hb2 := hb2.drew
  generalize w2.drew = w3 at *
  go_upto_region 5 with ((with_reducible show wpList _ _ _ (⟨some 21, _, _, _, _, _⟩ :: _) _ _); refine wl_copyV rfl _ _ 88 88 rfl 73 Try.underlying88 (by kernel_rfl) g 1 8 8 _ 8 8 rfl rfl 78 _ hA2 (qs s.list) rfl (fun _ => ⟨_, rfl, hnow.out _ hA'⟩) (by rw [stC_len _ _ _ (by simp [Z8])]; exact (by decide : 1 + 8 ≤ 74)) (qs_one _) ?_; intro w4 hA4 hg4 hs4)
  have hl0 : (stC ⟨0, 0, 0, 0, 0, 0, 0, 0⟩ (Z8 64) n).length = 74 := stC_len _ _ _ (by simp [Z8])
  rw [show List.take 1 (stC ⟨0, 0, 0, 0, 0, 0, 0, 0⟩ (Z8 64) n) ++ (qs s.list ++ List.drop (1 + (qs s.list).length) (stC ⟨0, 0, 0, 0, 0, 0, 0, 0⟩ (Z8 64) n)) = stC s (Z8 64) n by
    rw [← List.append_assoc]; exact stC_now _ _ _ _] at hA4
  replace hA' := hA'.grown hg4 (by intro e; injection e with e; omega)
  have hb4 := hb2.grown hg4 (by have := hA2.lt; omega) (by intro k e; injection e with e; omega)
  clear hA2 hb2 hg4 hl0
  refine wp_region_still_tail 8 (by kernel_rfl) (by kernel_rfl) ?_
  simp only [List.take_succ_cons, List.take_zero, List.drop_succ_cons, List.drop_zero]
  repeat still_step
  refine wpStill_nil ?_
  change wpList _ _ _ _ _ w4.drew
  replace hA' := hA'.drew
  replace hA4 := hA4.drew
  replace hb4 := hb4.drew
  generalize w4.drew = w5 at *
  go_wp2_with ((with_reducible show wpList _ _ _ (⟨some 30, _, _, _, _, _⟩ :: _) _ _); refine wl_copyV rfl _ _ 56 56 rfl 5 Try.underlying56 (by kernel_rfl) g 9 64 64 _ 64 64 rfl rfl 78 _ hA4 (bvs rest) (by rw [bvs_len, HRL.out]; rfl) (fun _ => ⟨_, rfl, hrst.out _ hA'⟩) (by rw [stC_len _ _ _ (by simp [Z8]), bvs_len, HRL.out]; exact (by decide : 9 + 64 ≤ 74)) (bvs_one _) ?_; intro w6 hA6 hg6 hs6)
  go_ret
  have hfin : (stC s (Z8 64) n).take 9 ++ (bvs rest ++ (stC s (Z8 64) n).drop (9 + (bvs rest).length)) = stC s rest n := by
    have := stC_rest s (Z8 64) n 0 rest (by simp [Z8]) (by rw [HRL.out]; decide)
    rw [bvs_len]
    simp only [Nat.add_zero, List.take_zero, List.nil_append, Nat.zero_add] at this
    rw [show List.drop rest.length (Z8 64) = [] from List.drop_of_length_le (by rw [HRL.out]; simp [Z8]), List.append_nil] at this
    exact this
  refine ⟨_, rfl, ⟨rest, HRO.out, ?_⟩, by rw [HG.out]; exact Nat.le_refl _, by rw [HG.out]; exact hb4.grown hg6 (by have := hA4.lt; omega) (by intro k e; injection e with e; omega)⟩
  rw [HS.out, ← HN.out, ← hfin]
  exact hA6
end Go.Proofs.Ytlfncgpjgbpdjaa
