/-
  Layer 8: the document's hashes of a leaf, of a node. Conditions: those in each statement.
-/
import Derived.Test.YtlfncgpjgbpdjaaMkA
import Derived.Test.YtlfncgpjgbpdjaaShaJ
import Derived.Test.YtlfncgpjgbpdjaaDig
import Derived.Test.YtlfncgpjgbpdjaaRegF
import Derived.BigQuiet
import Derived.Deep.QuietTactic
namespace Go.Proofs.Ytlfncgpjgbpdjaa
open Go.RowKit

theorem own_lit (w : World) (xs : List UInt8) (E : TypeId) (hl : xs.length ≤ maxLen) : Own (w.alloc (.cells (xs.map bv).toArray E)) w.heap.size E (.slice (some ⟨w.heap.size, 0, none⟩) xs.length xs.length) xs := by
  have := World.ownsRow_lit (base := w.heap.size) (e := E) (size := 1) w (xs.map bv).toArray xs.length (Nat.le_refl _) hl (by simp)
  simpa [Own] using this
theorem rd_arr {w : World} {g : Nat} {T : TypeId} {xs : List UInt8} (h : Arr w g T (bvs xs)) : Rd w (some ⟨g, 0, none⟩) xs.length xs.length xs :=
  ⟨rfl, Nat.le_refl _, (by intro e; cases e), fun _ => ⟨g, 0, rfl, h.lt, fun j hj => by rw [Nat.zero_add, h.cell, bvs_get _ _ hj]⟩⟩
theorem hal (w : World) (o : Obj) : Below w.heap.size w (w.alloc o) := (Below.refl _ _).alloc (Nat.le_refl _) _

set_option maxHeartbeats 1600000 in
theorem rNode_any (x y : List UInt8) (w : World) (hx : x.length = 32) (hy : y.length = 32) :
    Calls Try.prog 24 #[.agg (bvs x).toArray, .agg (bvs y).toArray] w fun e w' => e = .returned (.agg (bvs (nodeH x y)).toArray) ∧ Below w.heap.size w w' := by
  have hlen := shaL_len (1 :: (x ++ y))
  have h32 : Hid ((Try.prog.info? 29).map (·.size) = some (bvs (nodeH x y)).length) := by show _ = _; rw [bvs_len]; unfold nodeH; rw [hlen]; exact sizeD
  have L32 : Hid ((bvs (nodeH x y)).length = 32) := by show _ = _; rw [bvs_len]; unfold nodeH; rw [hlen]
  have hS : Hid (∀ a n c w, Rd w a n c ([1] ++ x ++ y) → Calls Try.prog 34 #[.slice a n c] w (fun e w' => e = .returned (.agg (bvs (nodeH x y)).toArray) ∧ Below w.heap.size w w')) := fun a n c w h => by
    have := rSum_any (1 :: (x ++ y)) a n c w (by simp; omega) h
    exact this
  have hrx : Hid (∀ w g, Arr w g 29 (bvs x) → Rd w (some ⟨g, 0, none⟩) 32 32 x) := fun w g h => by have := rd_arr h; rwa [hx] at this
  have hry : Hid (∀ w g, Arr w g 29 (bvs y) → Rd w (some ⟨g, 0, none⟩) 32 32 y) := fun w g h => by have := rd_arr h; rwa [hy] at this
  have HX := Lib.hid hx
  have HY := Lib.hid hy
  clear hlen hx hy
  generalize nodeH x y = S at *
  go_enter Try.func24, Try.ntmps24
  go_wp2_with (first
    | ((with_reducible show wpList _ _ _ (⟨some 2, .box _ _, _, _, _, _⟩ :: _) _ _); refine wl_box rfl 29 _ rfl (bvs x) rfl ?_; intro w1 hA1 hb1 hs1)
    | ((with_reducible show wpList _ _ _ (⟨some 3, .box _ _, _, _, _, _⟩ :: _) _ _); refine wl_box rfl 29 _ rfl (bvs y) rfl ?_; intro w2 hA2 hb2 hs2)
    | ((with_reducible show wpList _ _ _ (⟨some 4, .alloc _, _, _, _, _⟩ :: _) _ _); refine wl_alloc rfl 29 rfl (bvs (Z8 32)) 32 infoD ?_; intro w3 hA3 hb3 hs3)
    | ((with_reducible show wpList _ _ _ (⟨some 9, _, _, _, _, _⟩ :: _) _ _); refine wl_append bt rfl (.tmp 7) (.tmp 8) rfl w3.heap.size _ [1] (own_lit w3 [1] 5 (by decide)) rfl _ 32 32 x rfl (hrx.out _ _ (((hA1.kept hb2).kept hb3).kept (hal w3 _))) (by simp) (by simp) ?_; intro v4 w4 ho4 hb4)
    | ((with_reducible show wpList _ _ _ (⟨some 12, _, _, _, _, _⟩ :: _) _ _); refine wl_append bt rfl (.tmp 10) (.tmp 11) rfl w3.heap.size _ _ ho4 rfl _ 32 32 y rfl (hry.out _ _ (((hA2.kept hb3).kept (hal w3 _)).to hb4 (by omega))) (by simp [HX.out]) (by have := hb4.size; simp at this; omega) ?_; intro v5 w5 ho5 hb5; obtain ⟨a5, n5, c5, rfl, hr5⟩ := ho5.reads)
    | (go_at_call 34; refine (hS.out _ _ _ _ hr5.toRd).mono ?_; rintro e w6 ⟨rfl, hb6⟩)
    | ((with_reducible show wpList _ _ _ (⟨none, .store _ _ _, _, _, _, _⟩ :: _) _ _); refine wl_store rfl 29 _ _ rfl w2.heap.size 0 rfl (bvs S) rfl 29 _ ((((hA3.kept (hal w3 _)).to hb4 hs3).to hb5 hs3).kept hb6) h32.out (by rw [L32.out]; exact (by decide : 0 + 32 ≤ (bvs (Z8 32)).length)) (bvs_one _) ?_; intro w15 hR15 hg15 hs15))
  rw [whole_store _ _ (by rw [L32.out]; rfl)] at hR15
  refine end_cell rfl w2.heap.size 29 (bvs S) (.array 32 5) rfl hR15 Try.underlying29 rfl h32.out rfl ⟨rfl, ?_⟩
  have k3 : Below w.heap.size w w3 := hb1.trans ((hb2.mono (by omega)).trans (hb3.mono (by omega)))
  have k4 : Below w.heap.size w w4 := (k3.alloc (by omega) _).trans (hb4.mono (by omega))
  have k5 : Below w.heap.size w w5 := k4.trans (hb5.mono (by omega))
  have k6 : Below w.heap.size w w6 := k5.trans (hb6.mono k5.size)
  exact k6.grown hg15 k6.size (by intro k e; injection e with e; omega)
end Go.Proofs.Ytlfncgpjgbpdjaa
