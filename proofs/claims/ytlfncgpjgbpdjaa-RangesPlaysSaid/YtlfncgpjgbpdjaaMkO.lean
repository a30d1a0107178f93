/-
  Layer 8: the program's Root, Sub. Conditions: those in each statement.
-/
import Derived.Test.YtlfncgpjgbpdjaaMkN
import Derived.Test.YtlfncgpjgbpdjaaMkF
namespace Go.Proofs.Ytlfncgpjgbpdjaa
open Go.RowKit

set_option maxRecDepth 100000 in
set_option maxHeartbeats 3200000 in
theorem Root_any : ∀ (N : Nat) (L : List (List UInt8)), L.length ≤ N → ∀ (a : Option Addr) (n cap : Nat) (w : World), n ≤ 2 ^ 50 → RdD w a n cap L →
    Calls Try.prog 18 #[.slice a n cap] w fun e w' => e = .returned (.agg (bvs (rootF L)).toArray) ∧ Below w.heap.size w w' := by
  intro N
  induction N using Nat.strongRecOn with
  | _ N ih =>
    intro L hN a n cap w hn hr
    have hl := hr.len
    by_cases h0 : n = 0
    · subst h0
      have hL : L = [] := List.eq_nil_of_length_eq_zero hl
      subst hL
      have hlen := shaL_len []
      have h32 : Hid ((Try.prog.info? 29).map (·.size) = some (bvs (rootF [])).length) := by show _ = _; rw [bvs_len, rootF_nil, hlen]; exact sizeD
      have L32 : Hid ((bvs (rootF [])).length = 32) := by show _ = _; rw [bvs_len, rootF_nil, hlen]
      have hS : Hid (∀ w, Calls Try.prog 28 #[.slice none 0 0] w (fun e w' => e = .returned (.agg (bvs (rootF [])).toArray) ∧ Below w.heap.size w w')) := fun w => shaSum_any [] none 0 0 w (by simp) (Rd.none w)
      clear hr hl hlen ih hN
      generalize rootF [] = S at *
      go_enter Try.func18, Try.ntmps18
      go_wp2_with (first
        | ((with_reducible show wpList _ _ _ (⟨some 2, .alloc _, _, _, _, _⟩ :: _) _ _); refine wl_alloc rfl 29 rfl (bvs (Z8 32)) 32 infoD ?_; intro w1 hA1 hb1 hs1)
        | (go_at_call 28; refine (hS.out _).mono ?_; rintro e w5 ⟨rfl, hb5⟩)
        | ((with_reducible show wpList _ _ _ (⟨none, .store _ _ _, _, _, _, _⟩ :: _) _ _); refine wl_store rfl 29 _ _ rfl w.heap.size 0 rfl (bvs S) rfl 29 _ (hA1.kept hb5) h32.out (by rw [L32.out]; exact (by decide : 0 + 32 ≤ (bvs (Z8 32)).length)) (bvs_one _) ?_; intro w15 hR15 hg15 hs15))
      rw [whole_store _ _ (by rw [L32.out]; rfl)] at hR15
      refine end_cell rfl w.heap.size 29 (bvs S) (.array 32 5) rfl hR15 Try.underlying29 rfl h32.out rfl ⟨rfl, ?_⟩
      have hb' := hb1.trans (hb5.mono (by omega))
      exact hb'.grown hg15 hb'.size (by intro k e; injection e with e; omega)
    · by_cases h1 : n = 1
      · subst h1
        have hroot : rootF L = L.getD 0 [] := by
          match L, hl with
          | [x], _ => rfl
        have hlen := hr.all 0 (by omega)
        obtain ⟨b, off, rfl, hbl, -⟩ := hr.mem (by omega)
        have hrange := hr.range 0 (by omega)
        rw [Nat.zero_mul, Nat.add_zero] at hrange
        rw [hroot]
        have h32 : Hid ((Try.prog.info? 29).map (·.size) = some (bvs (L.getD 0 [])).length) := by show _ = _; rw [bvs_len, hlen]; exact sizeD
        have L32 : Hid ((bvs (L.getD 0 [])).length = 32) := by show _ = _; rw [bvs_len, hlen]
        clear hroot hlen ih hr hl hN h0
        generalize L.getD 0 [] = S at *
        go_enter Try.func18, Try.ntmps18
        go_wp2_with (first
          | ((with_reducible show wpList _ _ _ (⟨some 2, .alloc _, _, _, _, _⟩ :: _) _ _); refine wl_alloc rfl 29 rfl (bvs (Z8 32)) 32 infoD ?_; intro w1 hA1 hb1 hs1; have hrg : w1.rangeAt b off (bvs S) := fun j v hv => (hb1.cell (p := ⟨b, off + j, none⟩) hbl).trans (hrange j v hv))
          | ((with_reducible show wpList _ _ _ (⟨some 15, .load _ _, _, _, _, _⟩ :: _) _ _); refine wpList_load_mid rfl 29 _ rfl b off rfl (bvs S) (.array 32 5) hrg Try.underlying29 rfl h32.out ?_)
          | ((with_reducible show wpList _ _ _ (⟨none, .store _ _ _, _, _, _, _⟩ :: _) _ _); refine wl_store rfl 29 _ _ rfl w.heap.size 0 rfl (bvs S) rfl 29 _ hA1 h32.out (by rw [L32.out]; exact (by decide : 0 + 32 ≤ (bvs (Z8 32)).length)) (bvs_one _) ?_; intro w15 hR15 hg15 hs15))
        rw [whole_store _ _ (by rw [L32.out]; rfl)] at hR15
        refine end_cell rfl w.heap.size 29 (bvs S) (.array 32 5) rfl hR15 Try.underlying29 rfl h32.out rfl ⟨rfl, ?_⟩
        exact hb1.grown hg15 hb1.size (by intro k e; injection e with e; omega)
      · have hn2 : 2 ≤ n := by omega
        obtain ⟨b1, b2, b3⟩ := splK_bounds (n := n) hn2
        obtain ⟨b, off, rfl, hbl, -⟩ := hr.mem (by omega)
        refine Root_more L n hn2 cap b off w hn hr.le hr (fun w' hb => ?_) (fun w' hb => ?_)
        · exact ih (splK n) (by omega) (L.take (splK n)) (by simp; omega) _ _ _ w' (by omega) (((hr.to hb).take _ (by omega)).cap (Nat.le_refl _))
        · exact ih (n - splK n) (by omega) (L.drop (splK n)) (by simp; omega) _ _ _ w' (by omega) (((hr.to hb).drop _ b2).cap (Nat.le_refl _))

theorem builtD0 : Try.prog.built 29 [] = some (bvs (Z8 32)).toArray := by kernel_rfl

end Go.Proofs.Ytlfncgpjgbpdjaa
