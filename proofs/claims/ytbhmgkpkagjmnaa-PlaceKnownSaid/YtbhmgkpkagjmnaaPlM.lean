/-
  Layer 7: what the document's examples say, as every statement asks it first. Conditions: none.
-/
import Derived.Test.YtbhmgkpkagjmnaaPlL
namespace Go.Proofs.Ytbhmgkpkagjmnaa
open Go.RowKit

theorem rdn_lit (w : World) (T : TypeId) (L : List (Nat × Nat)) : RdN (w.alloc (.cells (ncs L).toArray T)) (.slice (some ⟨w.heap.size, 0, none⟩) L.length L.length) L := by
  refine ⟨_, _, rfl, Nat.le_refl _, fun h0 => ⟨_, _, rfl, by simp, fun k hk => ?_⟩⟩
  have hA := Arr.new w T (ncs L)
  obtain ⟨g0, g1⟩ := ncs_get L k hk
  rw [Nat.zero_add]
  exact ⟨(hA.cell _).trans g0, (hA.cell _).trans g1⟩

def exL : List (Nat × Nat) := [(2, 0), (1, 2), (0, 6)]
theorem ex_leaves (w : World) : Calls Try.prog 10 #[.agg #[.int .i64 2, .int .u64 3]] w fun e w' => e = .returned (.tuple #[.int .u64 12, .int .u64 16, .int .i64 0]) ∧ Below w.heap.size w w' := by
  have := Leaves_any 2 3 w (by omega)
  rwa [show lfF 2 3 = 12 by decide, show lbF 2 3 = 16 by decide, show leF 2 3 = 0 by decide] at this
theorem ex_parent (w : World) : Calls Try.prog 12 #[.agg #[.int .i64 2, .int .u64 3]] w fun e w' => e = .returned (.tuple #[.agg #[.int .i64 3, .int .u64 1], .int .i64 0]) ∧ Below w.heap.size w w' := by
  have := Parent_any 2 3 w (by omega)
  rwa [show plF 2 3 = 3 by decide, show piF 2 3 = 1 by decide, show peF 2 3 = 0 by decide] at this
theorem ex_cover (w : World) : Calls Try.prog 24 #[.int .u64 0, .int .u64 7] w fun e w' => ∃ v, e = .returned (.tuple #[v, .int .i64 0]) ∧ OwnN w' w.heap.size 25 v exL ∧ Below w.heap.size w w' := by
  have := Cover_any 0 7 w (by omega)
  rwa [show covF 0 7 = exL by decide, show ceV 0 7 = 0 by decide] at this
theorem ex_split (w : World) : Calls Try.prog 26 #[.int .u64 7] w fun e w' => e = .returned (.tuple #[.int .u64 4, .int .i64 0]) ∧ w' = w := by
  have := Split_any 7 w (by omega)
  rwa [show spV 7 = 4 by decide, show seF 7 = 0 by decide] at this

set_option maxHeartbeats 3200000 in
theorem awake_any (w : World) : Calls Try.prog 18 #[] w fun e w' => e = .returned (.bool true) ∧ Below w.heap.size w w' := by
  go_enter Try.func18, Try.ntmps18
  go_upto_region 5 with (first
    | (go_at_call 10; refine (ex_leaves _).mono ?_; rintro _ w1 ⟨rfl, h1⟩)
    | (go_at_call 12; refine (ex_parent _).mono ?_; rintro _ w2 ⟨rfl, h2⟩)
    | (go_at_call 24; refine (ex_cover _).mono ?_; rintro _ w3 ⟨v, rfl, ho, h3⟩)
    | (go_at_call 26; refine (ex_split _).mono ?_; rintro _ _ ⟨rfl, rfl⟩))
  obtain ⟨c0, c1⟩ := ((Arr.new w2 25 [.int .i64 3, .int .u64 1]).kept h3).two
  have hrd := ho.rd
  have hb := h1.trans ((h2.mono h1.size).trans ((((Below.refl w2.heap.size w2).alloc (Nat.le_refl _) _).mono (Nat.le_trans h1.size h2.size)).trans (h3.mono (Nat.le_trans h1.size (Nat.le_trans h2.size (by simp))))))
  go_wp2_with (go_at_call 28; refine (same_any v _ exL exL _ (hrd.to ((Below.refl _ _).alloc (Nat.le_refl _) _)) (rdn_lit _ _ exL) (by decide) (by decide)).mono ?_; rw [decide_eq_true (Eq.refl exL)]; rintro _ w5 ⟨rfl, h5⟩)
  go_ret
  exact ⟨rfl, (hb.alloc hb.size _).trans (h5.mono (Nat.le_trans hb.size (by simp)))⟩
end Go.Proofs.Ytbhmgkpkagjmnaa
