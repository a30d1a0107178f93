/-
  The statement's side: the document's example. Conditions: those in each statement.
-/
import Derived.Test.YtcnkgenhbnafjaaFiP
import Derived.Lib.SlBytesConst
namespace Go.Proofs.Ytcnkgenhbnafjaa
open Go.RowKit

abbrev nA : ByteArray := ⟨#[97]⟩
theorem nA_name : nameB nA = true := by decide
theorem lit3 (W : World) : Rd (W.alloc (.cells #[.int .u8 97, .int .u8 98, .int .u8 99] 5 (3, 4))) (some ⟨W.heap.size, 0, none⟩) 3 3 [97, 98, 99] := rd_lit W [97, 98, 99] 5 (3, 4)
theorem lit2 (W : World) : Rd (W.alloc (.cells #[.int .u8 100, .int .u8 101] 5 (2, 3))) (some ⟨W.heap.size, 0, none⟩) 2 2 [100, 101] := rd_lit W [100, 101] 5 (2, 3)
theorem lit1 (W : World) : Rd (W.alloc (.cells #[.int .u8 102] 5 (1, 2))) (some ⟨W.heap.size, 0, none⟩) 1 1 [102] := rd_lit W [102] 5 (1, 2)
theorem below_new (W : World) (o : Obj) : Below W.heap.size W (W.alloc o) := (Below.refl _ _).alloc (Nat.le_refl _) _
theorem new_far (W : World) : ∀ ad, some (⟨W.heap.size, 0, none⟩ : Addr) = some ad → 0 < 3 → W.heap.size ≤ ad.block := by rintro _ ⟨⟩ _; exact Nat.le_refl _
theorem litU (W : World) : RdU (W.alloc (.cells #[.int .u16 1] 55)) (some ⟨W.heap.size, 0, none⟩) 1 1 [1] :=
  rdg_arr (S := 1) (enc := encU) (L := [1]) (T := 55) (g := W.heap.size) (w := W.alloc (.cells #[.int .u16 1] 55)) (Arr.new W _ _) (fun _ _ => rfl)
set_option maxRecDepth 100000 in
set_option maxHeartbeats 800000 in
theorem awake_any (w : World) : Calls Try.prog 6 #[] w fun e w' => e = .returned (.bool true) ∧ Below w.heap.size w w' := by
  have HC := fun (w : World) (C : Array Value) (n c : Nat) => Lib.run_convert_bytes_const (P := Try.prog) w 31 5 C n c Try.underlying31 Try.underlying5
  have HN := New_any 5 (by omega) w
  go_enter Try.func6, Try.ntmps6
  go_wp2_with (first
    | (go_at_call 7; refine HN.mono ?_; rintro e w1 ⟨r, m, rfl, hd1, hb1⟩)
    | (go_at_call 9; go_loud (refine (create1 _ _ r m 5 hd1 nA nA_name).mono ?_); rintro e w2 ⟨rfl, hd2, hb2⟩)
    | (go_at_call 11; (have _g := hd5); go_loud (refine (appfull1 w5 _ _ r m 5 nA _ _ hd5 nA_name _ 1 1 _ (lit1 w5) (below_new _ _) (fun ad e _ => new_far w5 ad e (by omega)) (by omega) (by simp) (by omega) (by omega) (by simp)).mono ?_); rintro e w6 ⟨rfl, hd6, hb6⟩)
    | (go_at_call 11; (have _g := hd4); go_loud (refine (append1 w4 _ _ r m 5 nA _ _ hd4 nA_name _ 2 2 _ (lit2 w4) (below_new _ _) (fun ad e _ => new_far w4 ad e (by omega)) (by omega) (by simp)).mono ?_); rintro e w5 ⟨rfl, hd5, hb5⟩)
    | (go_at_call 11; (have _g := hd2); go_loud (refine (append1 w2 _ _ r m 5 nA _ _ hd2 nA_name _ 3 3 _ (lit3 w2) (below_new _ _) (fun ad e _ => new_far w2 ad e (by omega)) (by omega) (by simp)).mono ?_); rintro e w3 ⟨rfl, hd3, hb3⟩)
    | (go_at_call 13; go_loud (refine (sync1 _ _ r m 5 nA _ _ hd3 nA_name).mono ?_); rintro e w4 ⟨rfl, hd4, hb4⟩)
    | (go_at_call 28; go_loud (refine (crash1 w6 _ _ r m 5 nA _ _ hd6 (below_new _ _) _ 1 1 [1] (litU w6) (by intro x hx; rw [List.mem_singleton.1 hx]; omega) (fun ad e _ => new_far w6 ad e (by omega)) (by simp) (by omega) (by simp)).mono ?_); rintro e w7 ⟨rfl, hd7, hb7⟩; (have hd7 : One w7 _ r m nA [97, 98, 99, 100] 4 5 0 := hd7))
    | (go_at_call 19; go_loud (refine (read1 _ _ r m 5 nA _ _ hd7 nA_name (by simp)).mono ?_); rintro e w8 ⟨v, rfl, hv, hb8⟩; (have hd8 := hd7.to hb8); obtain ⟨va, vc, rfl⟩ := own_slice hv; (have hs : (convert 31 9 (.slice va 4 vc)).run Try.prog w8 = .ok (.string ⟨#[97, 98, 99, 100]⟩) w8 := run_bstr bt Try.underlying9 hv.rd.toRd))
    | (go_at_call 32; go_loud (refine (used1 _ _ r m 5 nA _ _ hd8).mono ?_); rintro e w9 ⟨rfl, rfl⟩))
  go_ret
  have g2 := hd2.base
  have g4 := hd4.base
  have g5 := hd5.base
  have g6 := hd6.base
  have k2 := (hb1.trans hb2).trans (((below_new w2 _).mono g2).trans hb3)
  have k4 := (k2.trans hb4).trans (((below_new w4 _).mono g4).trans hb5)
  have k6 := (k4.trans (((below_new w5 _).mono g5).trans hb6)).trans (((below_new w6 _).mono g6).trans hb7)
  exact ⟨rfl, k6.trans (hb8.mono hd7.base)⟩
end Go.Proofs.Ytcnkgenhbnafjaa
