/-
  The statements' own helper: the document's examples hold. No conditions.
-/
import Derived.Test.YtmhcmhhedmokjaaWireE
import Derived.Deep.RegionHeld3
import Derived.Lib.SlBytesConst
namespace Go.Proofs.Ytmhcmhhedmokjaa
open Go.RowKit

theorem rd_lit (w : World) (cs : List UInt8) (E : TypeId) (fr : Nat × Nat := (0, 0)) : Rd (w.alloc (.cells (cs.map bv).toArray E fr)) (some ⟨w.heap.size, 0, none⟩) cs.length cs.length cs := by
  refine ⟨rfl, Nat.le_refl _, by (intro e; cases e), fun _ => ⟨w.heap.size, 0, rfl, by simp, fun j hj => ?_⟩⟩
  rw [cell_of_row _ w.heap.size _ _ E fr (heap_alloc_new w _)]
  simp [bv, List.getD, hj]

theorem rd_lit_at (w : World) (cs : List UInt8) (E : TypeId) (g : Nat) (hg : g = w.heap.size) : Rd (w.alloc (.cells (cs.map bv).toArray E (0, 0))) (some ⟨g, 0, none⟩) cs.length cs.length cs := by
  subst hg
  exact rd_lit w cs E

theorem Num_at (a : Option Addr) (n cap k : Nat) (num size : Int) (xs : List UInt8) (w : World) (hk : num = (k : Int)) (hm : n ≤ 140737488351232) (hnum : k ≤ 18446744073709551615) (hr : Rd w a n cap xs) :
    Calls Try.prog 5 #[.slice a n cap, .int .u64 num, .int .i64 size] w (BRes w (numF xs k size)) := by
  subst hk
  exact Num_any a n cap k size xs w hm hnum hr

theorem awake_any (w : World) : Calls Try.prog 10 #[] w fun e w' => e = .returned (.bool true) ∧ Below w.heap.size w w' := by
  have kc := fun (w : World) (C : Array Value) (n c : Nat) => Lib.run_convert_bytes_const (P := Try.prog) w 22 5 C n c Try.underlying22 Try.underlying5
  go_enter Try.func10, Try.ntmps10
  go_wp2_with fail
  have hb0 : Below w.heap.size w (w.alloc (.cells #[.int .u8 7] 5)) := (Below.refl _ _).alloc (Nat.le_refl _) _
  refine (Num_at _ 1 1 258 258 3 [7] _ (by decide) (by omega) (by omega) (rd_lit w [7] 5)).mono ?_
  rintro e w1 ⟨v1, rfl, ho1, hb1⟩
  have e1 : numF [7] 258 3 = ([7, 0, 1, 2], 0) := by decide
  rw [e1] at ho1 ⊢
  clear e1
  replace hb1 := hb0.trans (hb1.mono hb0.size)
  obtain ⟨a1, c1, rfl, hs1⟩ := ho1.shape
  go_wp2_with fail
  refine (Vec_any none _ 0 0 2 2 2 [] [97, 98] _ (by omega) (by omega) (Rd.none _) (rd_lit w1 [97, 98] 5 (2, 3))).mono ?_
  rintro e w2 ⟨v2, rfl, ho2, hb2⟩
  have e2 : vecF [] [97, 98] 2 = ([0, 2, 97, 98], 0) := by decide
  rw [e2] at ho2 ⊢
  clear e2
  have hb1' : Below w1.heap.size w1 w2 := ((Below.refl _ _).alloc (Nat.le_refl _) _).trans (hb2.mono (by simp))
  obtain ⟨a2, c2, rfl, hs2⟩ := ho2.shape
  go_wp2_with fail
  refine (New_any _ _ _ [0, 2, 97, 98] _ (by decide) ho2.rd.toRd).mono ?_
  rintro e w3 ⟨q, r, rfl, hr, hq, hrs, hb3⟩
  go_wp2_with fail
  refine (RVec_any q r _ 2 _ (by decide) hr).mono ?_
  rintro e w4 ⟨v4, rfl, ho4, hr4, hg4⟩
  have e4 : rvecF [0, 2, 97, 98] 2 = ([97, 98], 0, []) := by decide
  rw [e4] at ho4 hr4 ⊢
  clear e4
  obtain ⟨a4, c4, rfl, hs4⟩ := ho4.shape
  have hb4 : Below w2.heap.size w2 w4 := hb3.grown hg4 hb3.size (by intro k e; cases e; exact hrs)
  have hb14 : Below w1.heap.size w1 w4 := hb1'.trans (hb4.mono hb1'.size)
  have hb04 : Below w.heap.size w w4 := hb1.trans (hb14.mono hb1.size)
  have hr1 := (ho1.rd.to hb14).toRd
  have hr2 := (ho2.rd.to hb4).toRd
  have hw4 : ∀ o o', Below w4.heap.size w4 ((w4.alloc o).alloc o') := fun o o' => ((Below.refl _ _).alloc (Nat.le_refl _) _).alloc (by simp) _
  have hv4 : ∀ o o', (convert 22 9 (.slice a4 2 c4)).run Try.prog ((w4.alloc o).alloc o') = .ok (.string ⟨#[97, 98]⟩) ((w4.alloc o).alloc o') := fun o o' => run_bstr (w := (w4.alloc o).alloc o') bt Try.underlying9 (ho4.rd.to (hw4 o o')).toRd
  have HR := Lib.hid hr4
  clear hr4 hr
  have H1 := Lib.hid hr1
  have H2 := Lib.hid hr2
  clear hr1 hr2
  go_wp2_with fail
  refine (Equal_any _ _ _ _ _ _ [7, 0, 1, 2] [7, 0, 1, 2] _ (H1.out.to ((Below.refl _ _).alloc (Nat.le_refl _) _)) (rd_lit w4 [7, 0, 1, 2] 5)).mono ?_
  rintro e w5 ⟨rfl, rfl⟩
  go_wp2_with fail
  refine (Equal_any _ _ _ _ _ _ [0, 2, 97, 98] [0, 2, 97, 98] _ (H2.out.to (((Below.refl _ _).alloc (Nat.le_refl _) _).alloc (by simp) _)) (rd_lit_at _ [0, 2, 97, 98] 5 _ (by simp))).mono ?_
  rintro e w5 ⟨rfl, rfl⟩
  go_wp2_with fail
  refine (Left_any q r [] _ (HR.out.kept (by simp; omega) (fun k hk => (hw4 _ _).block k (by have := hq k hk; have := hg4.size; omega)) ((hw4 _ _).block r HR.out.lt))).mono ?_
  rintro e w5 ⟨rfl, rfl⟩
  go_wp2_with fail
  go_ret
  refine ⟨?_, hb04.trans ((hw4 _ _).mono hb04.size)⟩
  first | rfl | decide
end Go.Proofs.Ytmhcmhhedmokjaa
