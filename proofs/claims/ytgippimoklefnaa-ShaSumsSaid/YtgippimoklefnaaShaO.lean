/-
  The statements' own helper: the chapter's rows hold. No conditions.
-/
import Derived.Test.YtgippimoklefnaaShaN
namespace Go.Proofs.Ytgippimoklefnaa
open Go.RowKit

theorem row_none : bstr (hexL (shaL [])) = ⟨#[101, 51, 98, 48, 99, 52, 52, 50, 57, 56, 102, 99, 49, 99, 49, 52, 57, 97, 102, 98, 102, 52, 99, 56, 57, 57, 54, 102, 98, 57, 50, 52, 50, 55, 97, 101, 52, 49, 101, 52, 54, 52, 57, 98, 57, 51, 52, 99, 97, 52, 57, 53, 57, 57, 49, 98, 55, 56, 53, 50, 98, 56, 53, 53]⟩ := by
  have : hexL (shaL []) = [101, 51, 98, 48, 99, 52, 52, 50, 57, 56, 102, 99, 49, 99, 49, 52, 57, 97, 102, 98, 102, 52, 99, 56, 57, 57, 54, 102, 98, 57, 50, 52, 50, 55, 97, 101, 52, 49, 101, 52, 54, 52, 57, 98, 57, 51, 52, 99, 97, 52, 57, 53, 57, 57, 49, 98, 55, 56, 53, 50, 98, 56, 53, 53] := by decide +kernel
  rw [this]
  rfl
theorem row_abc : bstr (hexL (shaL [97, 98, 99])) = ⟨#[98, 97, 55, 56, 49, 54, 98, 102, 56, 102, 48, 49, 99, 102, 101, 97, 52, 49, 52, 49, 52, 48, 100, 101, 53, 100, 97, 101, 50, 50, 50, 51, 98, 48, 48, 51, 54, 49, 97, 51, 57, 54, 49, 55, 55, 97, 57, 99, 98, 52, 49, 48, 102, 102, 54, 49, 102, 50, 48, 48, 49, 53, 97, 100]⟩ := by
  have : hexL (shaL [97, 98, 99]) = [98, 97, 55, 56, 49, 54, 98, 102, 56, 102, 48, 49, 99, 102, 101, 97, 52, 49, 52, 49, 52, 48, 100, 101, 53, 100, 97, 101, 50, 50, 50, 51, 98, 48, 48, 51, 54, 49, 97, 51, 57, 54, 49, 55, 55, 97, 57, 99, 98, 52, 49, 48, 102, 102, 54, 49, 102, 50, 48, 48, 49, 53, 97, 100] := by decide +kernel
  rw [this]
  rfl
theorem row_bad : unhexF [65, 51, 98, 48, 99, 52, 52, 50, 57, 56, 102, 99, 49, 99, 49, 52, 57, 97, 102, 98, 102, 52, 99, 56, 57, 57, 54, 102, 98, 57, 50, 52, 50, 55, 97, 101, 52, 49, 101, 52, 54, 52, 57, 98, 57, 51, 52, 99, 97, 52, 57, 53, 57, 57, 49, 98, 55, 56, 53, 50, 98, 56, 53, 53] = (Z8 32, 5) := by decide +kernel

theorem wakes_any (w : World) : Calls Try.prog 11 #[] w fun e w' => e = .returned (.bool true) ∧ Below w.heap.size w w' := by
  have hu : Hid (∀ w, Calls Try.prog 17 #[.string ⟨#[65, 51, 98, 48, 99, 52, 52, 50, 57, 56, 102, 99, 49, 99, 49, 52, 57, 97, 102, 98, 102, 52, 99, 56, 57, 57, 54, 102, 98, 57, 50, 52, 50, 55, 97, 101, 52, 49, 101, 52, 54, 52, 57, 98, 57, 51, 52, 99, 97, 52, 57, 53, 57, 57, 49, 98, 55, 56, 53, 50, 98, 56, 53, 53]⟩] w (HErr (Z8 32, 5) w)) := fun w => by
    have h := Unhex_any ⟨#[65, 51, 98, 48, 99, 52, 52, 50, 57, 56, 102, 99, 49, 99, 49, 52, 57, 97, 102, 98, 102, 52, 99, 56, 57, 57, 54, 102, 98, 57, 50, 52, 50, 55, 97, 101, 52, 49, 101, 52, 54, 52, 57, 98, 57, 51, 52, 99, 97, 52, 57, 53, 57, 57, 49, 98, 55, 56, 53, 50, 98, 56, 53, 53]⟩ w
    rw [show (⟨#[65, 51, 98, 48, 99, 52, 52, 50, 57, 56, 102, 99, 49, 99, 49, 52, 57, 97, 102, 98, 102, 52, 99, 56, 57, 57, 54, 102, 98, 57, 50, 52, 50, 55, 97, 101, 52, 49, 101, 52, 54, 52, 57, 98, 57, 51, 52, 99, 97, 52, 57, 53, 57, 57, 49, 98, 55, 56, 53, 50, 98, 56, 53, 53]⟩ : ByteArray).data.toList = [65, 51, 98, 48, 99, 52, 52, 50, 57, 56, 102, 99, 49, 99, 49, 52, 57, 97, 102, 98, 102, 52, 99, 56, 57, 57, 54, 102, 98, 57, 50, 52, 50, 55, 97, 101, 52, 49, 101, 52, 54, 52, 57, 98, 57, 51, 52, 99, 97, 52, 57, 53, 57, 57, 49, 98, 55, 56, 53, 50, 98, 56, 53, 53] from rfl, row_bad] at h
    exact h
  have hn : Hid (∀ w, Calls Try.prog 9 #[.slice none 0 0] w (Hash [] w)) := fun w => shaSum_any [] none 0 0 w (by simp) (Rd.none _)
  have ha : Hid (∀ w p, Rd w p 3 3 [97, 98, 99] → Calls Try.prog 9 #[.slice p 3 3] w (Hash [97, 98, 99] w)) := fun w p h => shaSum_any [97, 98, 99] p 3 3 w (by simp) h
  have hhn : Hid (∀ w, Calls Try.prog 19 #[.agg (bvs (shaL [])).toArray] w fun e w' => e = .returned (.string ⟨#[101, 51, 98, 48, 99, 52, 52, 50, 57, 56, 102, 99, 49, 99, 49, 52, 57, 97, 102, 98, 102, 52, 99, 56, 57, 57, 54, 102, 98, 57, 50, 52, 50, 55, 97, 101, 52, 49, 101, 52, 54, 52, 57, 98, 57, 51, 52, 99, 97, 52, 57, 53, 57, 57, 49, 98, 55, 56, 53, 50, 98, 56, 53, 53]⟩) ∧ Below w.heap.size w w') := fun w => by
    have h := Hex_any (shaL []) (shaL_len _) w
    rw [row_none] at h
    exact h
  have hha : Hid (∀ w, Calls Try.prog 19 #[.agg (bvs (shaL [97, 98, 99])).toArray] w fun e w' => e = .returned (.string ⟨#[98, 97, 55, 56, 49, 54, 98, 102, 56, 102, 48, 49, 99, 102, 101, 97, 52, 49, 52, 49, 52, 48, 100, 101, 53, 100, 97, 101, 50, 50, 50, 51, 98, 48, 48, 51, 54, 49, 97, 51, 57, 54, 49, 55, 55, 97, 57, 99, 98, 52, 49, 48, 102, 102, 54, 49, 102, 50, 48, 48, 49, 53, 97, 100]⟩) ∧ Below w.heap.size w w') := fun w => by
    have h := Hex_any (shaL [97, 98, 99]) (shaL_len _) w
    rw [row_abc] at h
    exact h
  have kc := fun (w : World) (C : Array Value) (n c : Nat) => Lib.run_convert_bytes_const (P := Try.prog) w 22 5 C n c Try.underlying22 Try.underlying5
  unfold Hash at hn ha
  unfold HErr at hu
  generalize shaL [] = D0 at *
  generalize shaL [97, 98, 99] = D1 at *
  go_enter Try.func11, Try.ntmps11
  go_wp2_with fail
  refine (hu.out _).mono ?_
  rintro e w1 ⟨rfl, hb1⟩
  go_wp2_with (first
    | ((with_reducible show wpList _ _ _ (⟨some 1, .alloc _, _, _, _, _⟩ :: _) _ _); refine wl_alloc rfl 24 rfl (bvs (Z8 32)) 32 infoD ?_; intro w2 hA2 hb2 hs2)
    | ((with_reducible show wpList _ _ _ (⟨none, .store _ _ _, _, _, _, _⟩ :: _) _ _); refine wl_store rfl 24 _ _ rfl w1.heap.size 0 rfl (bvs (Z8 32)) rfl 24 _ hA2 sizeD (by decide) (bvs_one _) ?_; intro w3 hA3 hg3 hs3))
  have hb3 : Below w.heap.size w w3 := (hb1.trans (hb2.mono hb1.size)).grown hg3 (by have := hb1.size; omega) (by intro k e; injection e with e; have := hb1.size; omega)
  clear hb1 hA2 hb2 hA3 hg3 hs3
  refine (hn.out _).mono ?_
  rintro e w4 ⟨rfl, hb4⟩
  go_wp2_with fail
  refine (hhn.out _).mono ?_
  rintro e w5 ⟨rfl, hb5⟩
  go_wp2_with fail
  refine (ha.out _ _ (rd_lit _ [97, 98, 99] _ (3, 4))).mono ?_
  rintro e w6 ⟨rfl, hb6⟩
  go_wp2_with fail
  refine (hha.out _).mono ?_
  rintro e w7 ⟨rfl, hb7⟩
  go_wp2_with fail
  go_ret
  have x3 := hb3.size
  have x4 := hb4.size
  have x5 := hb5.size
  have x6 := hb6.size
  simp only [World.size_alloc] at x6
  refine ⟨?_, (((hb3.trans (hb4.mono x3)).trans (hb5.mono (by omega))).alloc (by omega) _).trans ((hb6.trans (hb7.mono (by simp only [World.size_alloc]; omega))).mono (by simp only [World.size_alloc]; omega))⟩
  rfl
end Go.Proofs.Ytgippimoklefnaa
