/-
  Package sha: Sum of a state, of bytes. Conditions: those in each statement.
-/
import Derived.Test.YtlfncgpjgbpdjaaShaH
namespace Go.Proofs.Ytlfncgpjgbpdjaa
open Go.RowKit

theorem Copy_nil (w : World) : Calls Try.prog 40 #[.pointer none] w fun e w' => e = .returned (.pointer none) ∧ w = w' := by
  go_enter Try.func40, Try.ntmps40
  go_wp2_with (go_at_call 38; refine (is_nil _).mono ?_; rintro e w1 ⟨rfl, rfl⟩)
  go_ret
  exact ⟨rfl, rfl⟩
theorem Copy_zero (r : Nat) (w : World) (hc : w.cell? ⟨r, 0, none⟩ = some (.bool false)) : Calls Try.prog 40 #[.pointer (some ⟨r, 0, none⟩)] w fun e w' => e = .returned (.pointer none) ∧ w = w' := by
  go_enter Try.func40, Try.ntmps40
  go_wp2_with (go_at_call 38; refine (is_zero _ _ hc).mono ?_; rintro e w1 ⟨rfl, rfl⟩)
  go_ret
  exact ⟨rfl, rfl⟩

/-- a call that hands a hash back -/
def Hash (xs : List UInt8) (w : World) (e : Ending) (w' : World) : Prop := e = .returned (.agg (bvs (shaL xs)).toArray) ∧ Below w.heap.size w w'

theorem St.now {w : World} {r : Nat} {xs : List UInt8} (h : St w r (padM xs)) : ∃ rest, Arr w r 78 (stC (shaR xs) rest (padM xs).length) := by
  obtain ⟨rest, _, h⟩ := h
  exact ⟨rest, h⟩

set_option maxHeartbeats 800000 in
theorem Sum_any (r : Nat) (xs : List UInt8) (w : World) (hx : xs.length ≤ 576460752303423488) (h : St w r xs) :
    Calls Try.prog 32 #[.pointer (some ⟨r, 0, none⟩)] w (Hash xs w) := by
  have hpl := padB_len xs.length
  have hz := nz_lt xs.length
  have h8 : Hid ((Try.prog.info? 74).map (·.size) = some (qs (shaR xs).list).length) := by show _ = _; rw [qs_len]; exact size8
  have hd := digest_any (shaR xs)
  have hdl := bvs_len (shaL xs)
  rw [shaL_len] at hdl
  have h32 : Hid ((Try.prog.info? 29).map (·.size) = some (bvs (shaL xs)).length) := by show _ = _; rw [hdl]; exact sizeD
  have H1 := Lib.hid (bvs_one (shaL xs))
  have HD := Lib.hid hd
  have HDL := Lib.hid hdl
  have hpm : Hid (∀ w4 r2, St w4 r2 (xs ++ padB xs.length) → ∃ rest, Arr w4 r2 78 (stC (shaR xs) rest (padM xs).length)) := fun w4 r2 h => St.now h
  clear hd hdl
  have hsl : shaL xs = dig (shaR xs) := rfl
  have HSL := Lib.hid hsl
  clear hsl
  unfold Hash
  rw [← HSL.out] at HD
  generalize shaL xs = D at *
  generalize shaR xs = S at *
  have hm : xs.length + (padB xs.length).length ≤ 1152921504606846976 := by rw [hpl]; omega
  have HM := Lib.hid hm
  have HPL := Lib.hid hpl
  have hpad : Hid (∀ w, Calls Try.prog 41 #[.int .u64 (xs.length : Int)] w fun e w' => ∃ v, e = .returned v ∧ Own w' w.heap.size 5 v (padB xs.length) ∧ Below w.heap.size w w') := fun w => padding_any xs.length w (by omega)
  clear hm hpl
  have hwr : Hid (∀ r2 a cap (w : World), Rd w a (padB xs.length).length cap (padB xs.length) → (∀ ad, a = some ad → 0 < cap → ad.block ≠ r2) → St w r2 xs → Calls Try.prog 31 #[.pointer (some ⟨r2, 0, none⟩), .slice a (padB xs.length).length cap] w fun e w' => e = .returned (.tuple #[]) ∧ St w' r2 (xs ++ padB xs.length) ∧ w.grownBy w' (some r2)) :=
    fun r2 a cap w h1 h2 h3 => Write_any r2 xs (padB xs.length) a _ cap w HM.out h1 h2 h3
  generalize padB xs.length = pb at *
  go_enter Try.func32, Try.ntmps32
  go_upto_region 4 with (first
    | ((with_reducible show wpList _ _ _ (⟨some 2, .alloc _, _, _, _, _⟩ :: _) _ _); refine wl_alloc rfl 29 rfl (bvs (Z8 32)) 32 infoD ?_; intro w1 hA1 hb1 hs1)
    | (go_at_call 40; refine (Copy_any r xs _ (h.kept hb1)).mono ?_; rintro e w2 ⟨r2, rfl, hS2, hr2, hb2⟩))
  generalize hg : w.heap.size = g at *
  have HG := Lib.hid hg
  clear hg
  have hr2' : g < r2 := by have := hA1.lt; omega
  have hA2 := hA1.kept hb2
  have hB2 := hb1.trans (hb2.mono (Nat.le_of_lt hs1))
  clear hA1 hb1 hb2
  have c73 := hS2.cells.2.1
  go_wp2_with (first
    | (go_at_call 41; refine (hpad.out _).mono ?_; rintro e w3 ⟨v3, rfl, ho3, hb3⟩; obtain ⟨a3, c3, rfl, hsh3⟩ := ho3.shape)
    | (go_at_call 31; refine (hwr.out r2 a3 c3 _ ho3.rd.toRd (fun ad e h0 => by have := (hsh3 ad e).1; have := hS2.lt; omega) (hS2.kept hb3)).mono ?_; rintro e w4 ⟨rfl, hS4, hg4⟩; obtain ⟨rest4, hA4⟩ := hpm.out _ _ hS4)
    | ((with_reducible show wpList _ _ _ (⟨some 19, .load _ _, _, _, _, _⟩ :: _) _ _); refine wl_load rfl 74 _ rfl r2 1 rfl 78 _ (qs S.list) hA4 (fun j v h => stC_get_now _ _ _ _ _ h) (.array 8 73) Try.underlying74 rfl h8.out ?_)
    | (go_at_call 42; refine (HD.out _).mono ?_; rintro e w5 ⟨rfl, hb5⟩)
    | ((with_reducible show wpList _ _ _ (⟨none, .store _ _ _, _, _, _, _⟩ :: _) _ _); refine wl_store rfl 29 _ _ rfl g 0 rfl (bvs D) rfl 29 _ (((hA2.kept hb3).grown hg4 (by intro e; injection e with e; omega)).kept hb5) h32.out (by rw [HDL.out]; exact (by decide : 0 + 32 ≤ (bvs (Z8 32)).length)) H1.out ?_; intro w6 hA6 hg6 hs6))
  rw [whole_store _ _ (by rw [HDL.out]; rfl)] at hA6
  refine end_cell rfl g 29 (bvs D) (.array 32 5) rfl hA6 Try.underlying29 rfl h32.out rfl ⟨rfl, ?_⟩
  rw [HG.out]
  have x1 := hA2.lt
  have x2 := hb3.size
  have x3 := hg4.size
  have x4 := hb5.size
  exact (((hB2.trans (hb3.mono (by omega))).grown hg4 (by omega) (by intro k e; injection e with e; omega)).trans (hb5.mono (by omega))).grown hg6 (by omega) (by intro k e; injection e with e; omega)

set_option maxHeartbeats 800000 in
theorem Sum_nil  (w : World)  :
    Calls Try.prog 32 #[.pointer none] w (Hash ([] : List UInt8) w) := by
  have hpl := padB_len ([] : List UInt8).length
  have hz := nz_lt ([] : List UInt8).length
  have h8 : Hid ((Try.prog.info? 74).map (·.size) = some (qs (shaR ([] : List UInt8)).list).length) := by show _ = _; rw [qs_len]; exact size8
  have hd := digest_any (shaR ([] : List UInt8))
  have hdl := bvs_len (shaL ([] : List UInt8))
  rw [shaL_len] at hdl
  have h32 : Hid ((Try.prog.info? 29).map (·.size) = some (bvs (shaL ([] : List UInt8))).length) := by show _ = _; rw [hdl]; exact sizeD
  have H1 := Lib.hid (bvs_one (shaL ([] : List UInt8)))
  have HD := Lib.hid hd
  have HDL := Lib.hid hdl
  have hpm : Hid (∀ w4 r2, St w4 r2 (([] : List UInt8) ++ padB ([] : List UInt8).length) → ∃ rest, Arr w4 r2 78 (stC (shaR ([] : List UInt8)) rest (padM ([] : List UInt8)).length)) := fun w4 r2 h => St.now h
  clear hd hdl
  have hsl : shaL ([] : List UInt8) = dig (shaR ([] : List UInt8)) := rfl
  have HSL := Lib.hid hsl
  clear hsl
  unfold Hash
  rw [← HSL.out] at HD
  generalize shaL ([] : List UInt8) = D at *
  generalize shaR ([] : List UInt8) = S at *
  have hm : ([] : List UInt8).length + (padB ([] : List UInt8).length).length ≤ 1152921504606846976 := by rw [hpl]; simp at *; omega
  have HM := Lib.hid hm
  have HPL := Lib.hid hpl
  have hpad : Hid (∀ w, Calls Try.prog 41 #[.int .u64 (([] : List UInt8).length : Int)] w fun e w' => ∃ v, e = .returned v ∧ Own w' w.heap.size 5 v (padB ([] : List UInt8).length) ∧ Below w.heap.size w w') := fun w => padding_any ([] : List UInt8).length w (by simp)
  clear hm hpl
  have hwr : Hid (∀ r2 a cap (w : World), Rd w a (padB ([] : List UInt8).length).length cap (padB ([] : List UInt8).length) → (∀ ad, a = some ad → 0 < cap → ad.block ≠ r2) → St w r2 ([] : List UInt8) → Calls Try.prog 31 #[.pointer (some ⟨r2, 0, none⟩), .slice a (padB ([] : List UInt8).length).length cap] w fun e w' => e = .returned (.tuple #[]) ∧ St w' r2 (([] : List UInt8) ++ padB ([] : List UInt8).length) ∧ w.grownBy w' (some r2)) :=
    fun r2 a cap w h1 h2 h3 => Write_any r2 ([] : List UInt8) (padB ([] : List UInt8).length) a _ cap w HM.out h1 h2 h3
  generalize padB ([] : List UInt8).length = pb at *
  go_enter Try.func32, Try.ntmps32
  go_upto_region 4 with (first
    | ((with_reducible show wpList _ _ _ (⟨some 2, .alloc _, _, _, _, _⟩ :: _) _ _); refine wl_alloc rfl 29 rfl (bvs (Z8 32)) 32 infoD ?_; intro w1 hA1 hb1 hs1)
    | (go_at_call 40; refine (Copy_nil _).mono ?_; rintro e w2 ⟨rfl, rfl⟩)
    | (go_at_call 30; refine (New_any _).mono ?_; rintro e w2 ⟨r2, rfl, hS2, hr2, hb2⟩))
  generalize hg : w.heap.size = g at *
  have HG := Lib.hid hg
  clear hg
  have hr2' : g < r2 := by have := hA1.lt; omega
  have hA2 := hA1.kept hb2
  have hB2 := hb1.trans (hb2.mono (Nat.le_of_lt hs1))
  clear hA1 hb1 hb2
  have c73 := hS2.cells.2.1
  go_wp2_with (first
    | (go_at_call 41; refine (hpad.out _).mono ?_; rintro e w3 ⟨v3, rfl, ho3, hb3⟩; obtain ⟨a3, c3, rfl, hsh3⟩ := ho3.shape)
    | (go_at_call 31; refine (hwr.out r2 a3 c3 _ ho3.rd.toRd (fun ad e h0 => by have := (hsh3 ad e).1; have := hS2.lt; omega) (hS2.kept hb3)).mono ?_; rintro e w4 ⟨rfl, hS4, hg4⟩; obtain ⟨rest4, hA4⟩ := hpm.out _ _ hS4)
    | ((with_reducible show wpList _ _ _ (⟨some 19, .load _ _, _, _, _, _⟩ :: _) _ _); refine wl_load rfl 74 _ rfl r2 1 rfl 78 _ (qs S.list) hA4 (fun j v h => stC_get_now _ _ _ _ _ h) (.array 8 73) Try.underlying74 rfl h8.out ?_)
    | (go_at_call 42; refine (HD.out _).mono ?_; rintro e w5 ⟨rfl, hb5⟩)
    | ((with_reducible show wpList _ _ _ (⟨none, .store _ _ _, _, _, _, _⟩ :: _) _ _); refine wl_store rfl 29 _ _ rfl g 0 rfl (bvs D) rfl 29 _ (((hA2.kept hb3).grown hg4 (by intro e; injection e with e; omega)).kept hb5) h32.out (by rw [HDL.out]; exact (by decide : 0 + 32 ≤ (bvs (Z8 32)).length)) H1.out ?_; intro w6 hA6 hg6 hs6))
  rw [whole_store _ _ (by rw [HDL.out]; rfl)] at hA6
  refine end_cell rfl g 29 (bvs D) (.array 32 5) rfl hA6 Try.underlying29 rfl h32.out rfl ⟨rfl, ?_⟩
  rw [HG.out]
  have x1 := hA2.lt
  have x2 := hb3.size
  have x3 := hg4.size
  have x4 := hb5.size
  exact (((hB2.trans (hb3.mono (by omega))).grown hg4 (by omega) (by intro k e; injection e with e; omega)).trans (hb5.mono (by omega))).grown hg6 (by omega) (by intro k e; injection e with e; omega)

set_option maxHeartbeats 800000 in
theorem Sum_zero (r : Nat) (w : World) (hlt : r < w.heap.size) (hc : w.cell? ⟨r, 0, none⟩ = some (.bool false)) :
    Calls Try.prog 32 #[.pointer (some ⟨r, 0, none⟩)] w (Hash ([] : List UInt8) w) := by
  have hpl := padB_len ([] : List UInt8).length
  have hz := nz_lt ([] : List UInt8).length
  have h8 : Hid ((Try.prog.info? 74).map (·.size) = some (qs (shaR ([] : List UInt8)).list).length) := by show _ = _; rw [qs_len]; exact size8
  have hd := digest_any (shaR ([] : List UInt8))
  have hdl := bvs_len (shaL ([] : List UInt8))
  rw [shaL_len] at hdl
  have h32 : Hid ((Try.prog.info? 29).map (·.size) = some (bvs (shaL ([] : List UInt8))).length) := by show _ = _; rw [hdl]; exact sizeD
  have H1 := Lib.hid (bvs_one (shaL ([] : List UInt8)))
  have HD := Lib.hid hd
  have HDL := Lib.hid hdl
  have hpm : Hid (∀ w4 r2, St w4 r2 (([] : List UInt8) ++ padB ([] : List UInt8).length) → ∃ rest, Arr w4 r2 78 (stC (shaR ([] : List UInt8)) rest (padM ([] : List UInt8)).length)) := fun w4 r2 h => St.now h
  clear hd hdl
  have hsl : shaL ([] : List UInt8) = dig (shaR ([] : List UInt8)) := rfl
  have HSL := Lib.hid hsl
  clear hsl
  unfold Hash
  rw [← HSL.out] at HD
  generalize shaL ([] : List UInt8) = D at *
  generalize shaR ([] : List UInt8) = S at *
  have hm : ([] : List UInt8).length + (padB ([] : List UInt8).length).length ≤ 1152921504606846976 := by rw [hpl]; simp at *; omega
  have HM := Lib.hid hm
  have HPL := Lib.hid hpl
  have hpad : Hid (∀ w, Calls Try.prog 41 #[.int .u64 (([] : List UInt8).length : Int)] w fun e w' => ∃ v, e = .returned v ∧ Own w' w.heap.size 5 v (padB ([] : List UInt8).length) ∧ Below w.heap.size w w') := fun w => padding_any ([] : List UInt8).length w (by simp)
  clear hm hpl
  have hwr : Hid (∀ r2 a cap (w : World), Rd w a (padB ([] : List UInt8).length).length cap (padB ([] : List UInt8).length) → (∀ ad, a = some ad → 0 < cap → ad.block ≠ r2) → St w r2 ([] : List UInt8) → Calls Try.prog 31 #[.pointer (some ⟨r2, 0, none⟩), .slice a (padB ([] : List UInt8).length).length cap] w fun e w' => e = .returned (.tuple #[]) ∧ St w' r2 (([] : List UInt8) ++ padB ([] : List UInt8).length) ∧ w.grownBy w' (some r2)) :=
    fun r2 a cap w h1 h2 h3 => Write_any r2 ([] : List UInt8) (padB ([] : List UInt8).length) a _ cap w HM.out h1 h2 h3
  generalize padB ([] : List UInt8).length = pb at *
  go_enter Try.func32, Try.ntmps32
  go_upto_region 4 with (first
    | ((with_reducible show wpList _ _ _ (⟨some 2, .alloc _, _, _, _, _⟩ :: _) _ _); refine wl_alloc rfl 29 rfl (bvs (Z8 32)) 32 infoD ?_; intro w1 hA1 hb1 hs1)
    | (go_at_call 40; refine (Copy_zero r _ ((hb1.cell (p := ⟨r, 0, none⟩) hlt).trans hc)).mono ?_; rintro e w2 ⟨rfl, rfl⟩)
    | (go_at_call 30; refine (New_any _).mono ?_; rintro e w2 ⟨r2, rfl, hS2, hr2, hb2⟩))
  generalize hg : w.heap.size = g at *
  have HG := Lib.hid hg
  clear hg
  have hr2' : g < r2 := by have := hA1.lt; omega
  have hA2 := hA1.kept hb2
  have hB2 := hb1.trans (hb2.mono (Nat.le_of_lt hs1))
  clear hA1 hb1 hb2
  have c73 := hS2.cells.2.1
  go_wp2_with (first
    | (go_at_call 41; refine (hpad.out _).mono ?_; rintro e w3 ⟨v3, rfl, ho3, hb3⟩; obtain ⟨a3, c3, rfl, hsh3⟩ := ho3.shape)
    | (go_at_call 31; refine (hwr.out r2 a3 c3 _ ho3.rd.toRd (fun ad e h0 => by have := (hsh3 ad e).1; have := hS2.lt; omega) (hS2.kept hb3)).mono ?_; rintro e w4 ⟨rfl, hS4, hg4⟩; obtain ⟨rest4, hA4⟩ := hpm.out _ _ hS4)
    | ((with_reducible show wpList _ _ _ (⟨some 19, .load _ _, _, _, _, _⟩ :: _) _ _); refine wl_load rfl 74 _ rfl r2 1 rfl 78 _ (qs S.list) hA4 (fun j v h => stC_get_now _ _ _ _ _ h) (.array 8 73) Try.underlying74 rfl h8.out ?_)
    | (go_at_call 42; refine (HD.out _).mono ?_; rintro e w5 ⟨rfl, hb5⟩)
    | ((with_reducible show wpList _ _ _ (⟨none, .store _ _ _, _, _, _, _⟩ :: _) _ _); refine wl_store rfl 29 _ _ rfl g 0 rfl (bvs D) rfl 29 _ (((hA2.kept hb3).grown hg4 (by intro e; injection e with e; omega)).kept hb5) h32.out (by rw [HDL.out]; exact (by decide : 0 + 32 ≤ (bvs (Z8 32)).length)) H1.out ?_; intro w6 hA6 hg6 hs6))
  rw [whole_store _ _ (by rw [HDL.out]; rfl)] at hA6
  refine end_cell rfl g 29 (bvs D) (.array 32 5) rfl hA6 Try.underlying29 rfl h32.out rfl ⟨rfl, ?_⟩
  rw [HG.out]
  have x1 := hA2.lt
  have x2 := hb3.size
  have x3 := hg4.size
  have x4 := hb5.size
  exact (((hB2.trans (hb3.mono (by omega))).grown hg4 (by omega) (by intro k e; injection e with e; omega)).trans (hb5.mono (by omega))).grown hg6 (by omega) (by intro k e; injection e with e; omega)


theorem shaSum_any (xs : List UInt8) (a : Option Addr) (n cap : Nat) (w : World) (hx : xs.length ≤ 576460752303423488) (hr : Rd w a n cap xs) :
    Calls Try.prog 28 #[.slice a n cap] w (Hash xs w) := by
  have hdl := bvs_len (shaL xs)
  rw [shaL_len] at hdl
  have h32 : Hid ((Try.prog.info? 29).map (·.size) = some (bvs (shaL xs)).length) := by show _ = _; rw [hdl]; exact sizeD
  have H1 := Lib.hid (bvs_one (shaL xs))
  have HDL := Lib.hid hdl
  have hS : Hid (∀ r w, St w r xs → Calls Try.prog 32 #[.pointer (some ⟨r, 0, none⟩)] w (Hash xs w)) := fun r w h => Sum_any r xs w hx h
  have hblk : Hid (∀ ad, a = some ad → 0 < cap → ad.block < w.heap.size) := fun ad e h0 => by
    obtain ⟨b, off, e2, h2, _⟩ := hr.mem h0
    rw [e] at e2
    cases e2
    exact h2
  clear hdl
  unfold Hash at hS ⊢
  generalize shaL xs = D at *
  go_enter Try.func28, Try.ntmps28
  go_wp2_with (first
    | ((with_reducible show wpList _ _ _ (⟨some 2, .alloc _, _, _, _, _⟩ :: _) _ _); refine wl_alloc rfl 29 rfl (bvs (Z8 32)) 32 infoD ?_; intro w1 hA1 hb1 hs1)
    | (go_at_call 30; refine (New_any _).mono ?_; rintro e w2 ⟨r, rfl, hS2, hr2, hb2⟩)
    | (go_at_call 31; refine (Write_any r [] xs a n cap _ (by simp; omega) ((hr.to hb1).to hb2) (fun ad e h0 => by have := hblk.out ad e h0; have := hb1.size; omega) hS2).mono ?_; rintro e w3 ⟨rfl, hS3, hg3⟩)
    | (go_at_call 32; refine (hS.out r _ hS3).mono ?_; rintro e w4 ⟨rfl, hb4⟩)
    | ((with_reducible show wpList _ _ _ (⟨none, .store _ _ _, _, _, _, _⟩ :: _) _ _); refine wl_store rfl 29 _ _ rfl w.heap.size 0 rfl (bvs D) rfl 29 _ (((hA1.kept hb2).grown hg3 (by intro e; injection e with e; omega)).kept hb4) h32.out (by rw [HDL.out]; exact (by decide : 0 + 32 ≤ (bvs (Z8 32)).length)) H1.out ?_; intro w6 hA6 hg6 hs6))
  rw [whole_store _ _ (by rw [HDL.out]; rfl)] at hA6
  refine end_cell rfl w.heap.size 29 (bvs D) (.array 32 5) rfl hA6 Try.underlying29 rfl h32.out rfl ⟨rfl, ?_⟩
  have x2 := hb2.size
  have x3 := hg3.size
  have x4 := hb4.size
  exact (((hb1.trans (hb2.mono (by omega))).grown hg3 (by omega) (by intro k e; injection e with e; omega)).trans (hb4.mono (by omega))).grown hg6 (by omega) (by intro k e; injection e with e; omega)
end Go.Proofs.Ytlfncgpjgbpdjaa
