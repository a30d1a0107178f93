/-
  SignKnown: the chapter's rows, keys at limits. Conditions: those in each statement.
-/
import Derived.Test.YtebegdifnkifgaaSgK
namespace Go.Proofs.Ytebegdifnkifgaa
open Go.RowKit

theorem two_litsL (xs ys : List UInt8) (n m : Nat) (hn : xs.length = n) (hm : ys.length = m) (fr fr' : Nat × Nat) (w : World) : Rd ((w.alloc (.cells (xs.map bv).toArray 5 fr)).alloc (.cells (ys.map bv).toArray 5 fr')) (some ⟨w.heap.size, 0, none⟩) n n xs ∧
    Rd ((w.alloc (.cells (xs.map bv).toArray 5 fr)).alloc (.cells (ys.map bv).toArray 5 fr')) (some ⟨w.heap.size + 1, 0, none⟩) m m ys ∧
    Below w.heap.size w ((w.alloc (.cells (xs.map bv).toArray 5 fr)).alloc (.cells (ys.map bv).toArray 5 fr')) := by
  subst hn hm
  refine ⟨(rd_lit w xs 5 fr).to ((Below.refl _ _).alloc (Nat.le_refl _) _), ?_, ((Below.refl _ _).alloc (Nat.le_refl _) _).alloc (by rw [World.size_alloc]; omega) _⟩
  have := rd_lit (w.alloc (.cells (xs.map bv).toArray 5 fr)) ys 5 fr'
  rw [World.size_alloc] at this
  exact this
theorem sig_apart : decide (sigF [97] [2, 98] = sigF [97, 1] [98]) = false := by decide +kernel
theorem unm_other (X : List UInt8) : unmB ((mhead ++ X).set 1 6) = false := by
  simp [unmB, mhead]

set_option maxRecDepth 100000 in
set_option maxHeartbeats 3200000 in
theorem Known_any (w : World) : Calls Try.prog 7 #[] w fun e w' => e = .returned (.bool true) ∧ Below w.heap.size w w' := by
  have hS64 : Hid (∀ (a : Option Addr) (W : World), Rd W a 64 64 (List.replicate 64 0) → Calls Try.prog 8 #[.slice a 64 64, .slice none 0 0] W fun e w' => e = .returned (.tuple #[.agg (bvs (sigF (List.replicate 64 0) [])).toArray, .int .i64 0]) ∧ Below W.heap.size W w') := fun a W h =>
    Sign_any (List.replicate 64 0) [] a none 64 0 64 0 W (by omega) (by omega) h (Rd.none _)
  have hS65 : Hid (∀ (a : Option Addr) (W : World), Calls Try.prog 8 #[.slice a 65 65, .slice none 0 0] W fun e w' => e = .returned (.tuple #[.agg (bvs (Z8 64)).toArray, .int .i64 1]) ∧ Below W.heap.size W w') := fun a W =>
    Sign_no a none 65 0 65 0 W rfl (by omega)
  have hId : Hid (∀ (W : World), Calls Try.prog 10 #[.slice none 0 0] W fun e w' => e = .returned (.tuple #[.agg (bvs (Z8 32)).toArray, .int .i64 1]) ∧ Below W.heap.size W w') := fun W => Id_any [] none 0 0 W (by omega) (Rd.none _)
  have hSX : Hid (∀ W : World, Calls Try.prog 8 #[.slice (some ⟨W.heap.size, 0, none⟩) 1 1, .slice (some ⟨W.heap.size + 1, 0, none⟩) 2 2]
    ((W.alloc (.cells #[.int .u8 97] 5 (1, 2))).alloc (.cells #[.int .u8 2, .int .u8 98] 5 (2, 3))) fun e w' => e = .returned (.tuple #[.agg (bvs (sigF [97] [2, 98])).toArray, .int .i64 0]) ∧ Below W.heap.size W w') := fun W => by
    obtain ⟨h1, h2, h3⟩ := two_litsL [97] [2, 98] 1 2 rfl rfl (1, 2) (2, 3) W
    exact (Sign_any [97] [2, 98] _ _ 1 2 1 2 _ (by omega) (by omega) h1 h2).mono fun e w' h => ⟨h.1, h3.trans (h.2.mono h3.size)⟩
  have hSY : Hid (∀ W : World, Calls Try.prog 8 #[.slice (some ⟨W.heap.size, 0, none⟩) 2 2, .slice (some ⟨W.heap.size + 1, 0, none⟩) 1 1]
    ((W.alloc (.cells #[.int .u8 97, .int .u8 1] 5 (2, 3))).alloc (.cells #[.int .u8 98] 5 (1, 2))) fun e w' => e = .returned (.tuple #[.agg (bvs (sigF [97, 1] [98])).toArray, .int .i64 0]) ∧ Below W.heap.size W w') := fun W => by
    obtain ⟨h1, h2, h3⟩ := two_litsL [97, 1] [98] 2 1 rfl rfl (2, 3) (1, 2) W
    exact (Sign_any [97, 1] [98] _ _ 2 1 2 1 _ (by omega) (by omega) h1 h2).mono fun e w' h => ⟨h.1, h3.trans (h.2.mono h3.size)⟩
  have lX := sigF_len [97] [2, 98]
  have lY := sigF_len [97, 1] [98]
  have l0 := sigF_len (List.replicate 64 0) []
  have hap := sig_apart
  generalize sigF (List.replicate 64 0) [] = S0 at *
  generalize sigF [97] [2, 98] = X at *
  generalize sigF [97, 1] [98] = Y at *
  have hMk := Lib.hid (fun W => Mark_any X W lX)
  have hne : ∀ W, (binOp .neq 23 (.agg (bvs X).toArray) (.agg (bvs Y).toArray)).run Try.prog W = .ok (.bool true) W := fun W => by rw [neSig lX lY, hap]; rfl
  have h64X : Hid ((Try.prog.info? 23).map (·.size) = some (bvs X).length) := by show _ = _; rw [bvs_len, lX]; exact sizeSig
  have h64Y : Hid ((Try.prog.info? 23).map (·.size) = some (bvs Y).length) := by show _ = _; rw [bvs_len, lY]; exact sizeSig
  have h640 : Hid ((Try.prog.info? 23).map (·.size) = some (bvs S0).length) := by show _ = _; rw [bvs_len, l0]; exact sizeSig
  have L64X : Hid ((bvs X).length = 64) := by show _ = _; rw [bvs_len, lX]
  have L64Y : Hid ((bvs Y).length = 64) := by show _ = _; rw [bvs_len, lY]
  have L640 : Hid ((bvs S0).length = 64) := by show _ = _; rw [bvs_len, l0]
  have HLX := Lib.hid lX
  have H64 : Hid ((Try.prog.info? 23).map (·.size) = some (bvs (Z8 64)).length) := sizeSig
  clear lX lY l0 hap
  have kc := fun (w : World) (C : Array Value) (n c : Nat) => Lib.run_convert_bytes_const (P := Try.prog) w 22 5 C n c Try.underlying22 Try.underlying5
  have kc2 := conv2
  have hal : Hid (∀ (w : World) o, Below w.heap.size w (w.alloc o)) := fun w o => (Below.refl _ _).alloc (Nat.le_refl _) _
  go_enter Try.func7, Try.ntmps7
  go_upto_region 2 with (first
    | (at_make; refine wl_make bt rfl _ _ rfl w.heap.size 64 rfl rfl (by omega) (Nat.le_refl _) ?_; intro w1 ho1 hb1 hs1)
    | (go_at_call 8; go_loud (refine (hS64.out _ _ ho1.rd.toRd).mono ?_); rintro e w2 ⟨rfl, hb2⟩)
    | ((with_reducible show wpList _ _ _ (⟨some 1, .alloc _, _, _, _, _⟩ :: _) _ _); refine wl_alloc rfl 23 rfl (bvs (Z8 64)) 64 infoSig ?_; intro w3 hA3 hb3 hs3)
    | ((with_reducible show wpList _ _ _ (⟨none, .store _ _ _, _, _, _, _⟩ :: _) _ _); go_loud (refine wl_store rfl 23 _ _ rfl w2.heap.size 0 rfl (bvs S0) rfl 23 _ hA3 h640.out (by rw [L640.out]; exact (by decide : 0 + 64 ≤ (bvs (Z8 64)).length)) (bvs_one _) ?_); intro w4 hA4 hg4 hs4))
  have hb4 : Below w.heap.size w w4 := ((hb1.trans (hb2.mono hb1.size)).trans (hb3.mono (by have := hb1.size; have := hb2.size; omega))).grown hg4 (by have := hb1.size; have := hb2.size; have := hb3.size; omega) (by intro k e; injection e with e; have := hb1.size; have := hb2.size; omega)
  clear ho1 hb1 hs1 hb2 hA3 hb3 hs3 hA4 hg4 hs4
  go_upto_region 3 with (first
    | (at_make; refine wl_make bt rfl _ _ rfl w4.heap.size 65 rfl rfl (by omega) (Nat.le_refl _) ?_; intro w1 ho1 hb1 hs1)
    | (go_at_call 8; go_loud (refine (hS65.out _ _).mono ?_); rintro e w2 ⟨rfl, hb2⟩)
    | ((with_reducible show wpList _ _ _ (⟨some 3, .alloc _, _, _, _, _⟩ :: _) _ _); refine wl_alloc rfl 23 rfl (bvs (Z8 64)) 64 infoSig ?_; intro w3 hA3 hb3 hs3)
    | ((with_reducible show wpList _ _ _ (⟨none, .store _ _ _, _, _, _, _⟩ :: _) _ _); go_loud (refine wl_store rfl 23 _ _ rfl w2.heap.size 0 rfl (bvs (Z8 64)) rfl 23 _ hA3 H64.out (by decide) (bvs_one _) ?_); intro w5 hA5 hg5 hs5))
  have hb5 : Below w.heap.size w w5 := hb4.trans ((((hb1.trans (hb2.mono hb1.size)).trans (hb3.mono (by have := hb1.size; have := hb2.size; omega))).grown hg5 (by have := hb1.size; have := hb2.size; have := hb3.size; omega) (by intro k e; injection e with e; have := hb1.size; have := hb2.size; omega)).mono hb4.size)
  clear ho1 hb1 hs1 hb2 hA3 hb3 hs3 hA5 hg5 hs5 hb4
  go_upto_region 4 with (first
    | (go_at_call 10; go_loud (refine (hId.out _).mono ?_); rintro e w2 ⟨rfl, hb2⟩)
    | ((with_reducible show wpList _ _ _ (⟨some 5, .alloc _, _, _, _, _⟩ :: _) _ _); refine wl_alloc rfl 30 rfl (bvs (Z8 32)) 32 infoD ?_; intro w3 hA3 hb3 hs3)
    | ((with_reducible show wpList _ _ _ (⟨none, .store _ _ _, _, _, _, _⟩ :: _) _ _); go_loud (refine wl_store rfl 30 _ _ rfl w2.heap.size 0 rfl (bvs (Z8 32)) rfl 30 _ hA3 sizeD (by decide) (bvs_one _) ?_); intro w6 hA6 hg6 hs6))
  have hb6 : Below w.heap.size w w6 := hb5.trans (((hb2.trans (hb3.mono hb2.size)).grown hg6 (by have := hb2.size; have := hb3.size; omega) (by intro k e; injection e with e; have := hb2.size; omega)).mono hb5.size)
  clear hb2 hA3 hb3 hs3 hA6 hg6 hs6 hb5
  go_upto_region 5 with (first
    | (go_at_call 8; go_loud (refine (hSX.out _).mono ?_); rintro e w2 ⟨rfl, hb2⟩)
    | ((with_reducible show wpList _ _ _ (⟨some 7, .alloc _, _, _, _, _⟩ :: _) _ _); refine wl_alloc rfl 23 rfl (bvs (Z8 64)) 64 infoSig ?_; intro w3 hA3 hb3 hs3)
    | ((with_reducible show wpList _ _ _ (⟨none, .store _ _ _, _, _, _, _⟩ :: _) _ _); go_loud (refine wl_store rfl 23 _ _ rfl w2.heap.size 0 rfl (bvs X) rfl 23 _ hA3 h64X.out (by rw [L64X.out]; exact (by decide : 0 + 64 ≤ (bvs (Z8 64)).length)) (bvs_one _) ?_); intro w7 hA7 hg7 hs7))
  rw [whole_store _ _ (by rw [L64X.out]; rfl)] at hA7
  have hb7 : Below w.heap.size w w7 := hb6.trans (((hb2.trans (hb3.mono hb2.size)).grown hg7 (by have := hb2.size; have := hb3.size; omega) (by intro k e; injection e with e; have := hb2.size; omega)).mono hb6.size)
  obtain ⟨gX, hgX⟩ : ∃ gX, w2.heap.size = gX := ⟨_, rfl⟩
  rw [hgX] at hA7 ⊢
  clear hb2 hA3 hb3 hs3 hg7 hs7 hb6 hgX
  go_upto_region 6 with (first
    | (go_at_call 8; go_loud (refine (hSY.out _).mono ?_); rintro e w2 ⟨rfl, hb2⟩)
    | ((with_reducible show wpList _ _ _ (⟨some 9, .alloc _, _, _, _, _⟩ :: _) _ _); refine wl_alloc rfl 23 rfl (bvs (Z8 64)) 64 infoSig ?_; intro w3 hA3 hb3 hs3)
    | ((with_reducible show wpList _ _ _ (⟨none, .store _ _ _, _, _, _, _⟩ :: _) _ _); go_loud (refine wl_store rfl 23 _ _ rfl w2.heap.size 0 rfl (bvs Y) rfl 23 _ hA3 h64Y.out (by rw [L64Y.out]; exact (by decide : 0 + 64 ≤ (bvs (Z8 64)).length)) (bvs_one _) ?_); intro w8 hA8 hg8 hs8))
  rw [whole_store _ _ (by rw [L64Y.out]; rfl)] at hA8
  have hb8' : Below w7.heap.size w7 w8 := (hb2.trans (hb3.mono hb2.size)).grown hg8 (by have := hb2.size; have := hb3.size; omega) (by intro k e; injection e with e; have := hb2.size; omega)
  have hX8 := hA7.kept hb8'
  have hb8 : Below w.heap.size w w8 := hb7.trans (hb8'.mono hb7.size)
  obtain ⟨gY, hgY⟩ : ∃ gY, w2.heap.size = gY := ⟨_, rfl⟩
  rw [hgY] at hA8 ⊢
  clear hb2 hA3 hb3 hs3 hg8 hs8 hb7 hb8' hA7 hgY
  go_wp2_with ((with_reducible show wpList _ _ _ (⟨some 44, .load _ _, _, _, _, _⟩ :: _) _ _); go_loud (refine wl_load rfl 23 _ rfl gX 0 rfl 23 (bvs X) (bvs X) hX8 (fun j v h => by rw [Nat.zero_add]; exact h) (.array 64 5) Try.underlying23 rfl h64X.out ?_))
  refine (hMk.out _).mono ?_
  rintro e w9 ⟨v9, rfl, ho9, hb9⟩
  obtain ⟨gm, cm, e9, hgm1, hgm2, hcm⟩ := ho9.solid (by simp [mhead])
  rw [show (mhead ++ X).length = 68 by simp [mhead, HLX.out]] at e9
  obtain rfl := e9.symm
  have hc1 := ho9.cellAt 1 (by omega)
  have hf1 := ho9.frozenAt 1
  have hst := ho9.stored 1 6
  have hX9 := hX8.kept hb9
  have hY9 := hA8.kept hb9
  have hX10 := hX9.other ⟨gm, 1, none⟩ (by have := hX8.lt; simp; omega) (.int .u8 6)
  have hY10 := hY9.other ⟨gm, 1, none⟩ (by have := hA8.lt; simp; omega) (.int .u8 6)
  have hb10 := (hb8.trans (hb9.mono hb8.size)).setCell (p := ⟨gm, 1, none⟩) (by have := hb8.size; simp; omega) (.int .u8 6)
  rw [show ((6 : UInt8).toNat : Int) = 6 from rfl] at hst
  generalize ((mhead ++ X).getD 1 0) = z at *
  clear hX8 hA8 hX9 hY9 hb9 ho9 hb8 hcm hgm1 hgm2
  go_upto_region 10 with fail
  generalize w9.setCell ⟨gm, 1, none⟩ (.int .u8 6) = w10 at *
  have hUn : Hid (Calls Try.prog 16 #[.slice (some ⟨gm, 0, none⟩) 68 cm] w10 fun e w' => e = .returned (.tuple #[.agg (bvs (Z8 64)).toArray, .int .i64 5]) ∧ Below w10.heap.size w10 w') := by
    have := Unmark_any _ _ 68 cm w10 hst.rd.toRd
    unfold unmF unmE at this
    rw [unm_other] at this
    exact this
  clear hst hc1 hf1
  go_upto_region 11 with (first
    | (go_at_call 16; go_loud (refine (hUn.out).mono ?_); rintro e w11 ⟨rfl, hb11⟩)
    | ((with_reducible show wpList _ _ _ (⟨some 12, .alloc _, _, _, _, _⟩ :: _) _ _); refine wl_alloc rfl 23 rfl (bvs (Z8 64)) 64 infoSig ?_; intro w12 hA12 hb12 hs12)
    | ((with_reducible show wpList _ _ _ (⟨none, .store _ _ _, _, _, _, _⟩ :: _) _ _); go_loud (refine wl_store rfl 23 _ _ rfl w11.heap.size 0 rfl (bvs (Z8 64)) rfl 23 _ hA12 H64.out (by decide) (bvs_one _) ?_); intro w13 hA13 hg13 hs13))
  have hb13' : Below w10.heap.size w10 w13 := (hb11.trans (hb12.mono hb11.size)).grown hg13 (by have := hb11.size; have := hb12.size; omega) (by intro k e; injection e with e; have := hb11.size; omega)
  have hX13 := hX10.kept hb13'
  have hY13 := hY10.kept hb13'
  have hb13 : Below w.heap.size w w13 := hb10.trans (hb13'.mono hb10.size)
  clear hb11 hb12 hg13 hA12 hA13 hs12 hs13 hb13' hX10 hY10 hb10
  go_wp2_with (first
    | ((with_reducible show wpList _ _ _ (⟨some 75, .load _ _, _, _, _, _⟩ :: _) _ _); go_loud (refine wl_loadG rfl 23 _ rfl gX 0 rfl 23 (bvs X) (bvs X) hX13 (fun j v h => by rw [Nat.zero_add]; exact h) (.array 64 5) Try.underlying23 rfl h64X.out ?_))
    | ((with_reducible show wpList _ _ _ (⟨some 76, .load _ _, _, _, _, _⟩ :: _) _ _); go_loud (refine wl_loadG rfl 23 _ rfl gY 0 rfl 23 (bvs Y) (bvs Y) hY13 (fun j v h => by rw [Nat.zero_add]; exact h) (.array 64 5) Try.underlying23 rfl h64Y.out ?_)))
  refine (May_any _ 1 1 _ (by omega)).mono ?_
  rintro e w14 ⟨rfl, rfl⟩
  rw [show mayB 1 = true from rfl]
  go_wp2_with fail
  refine (May_any none 0 0 _ (by omega)).mono ?_
  rintro e w15 ⟨rfl, rfl⟩
  rw [show mayB 0 = false from rfl]
  go_wp2_with fail
  refine (wakes_any _).mono ?_
  rintro e w16 ⟨rfl, hb16⟩
  go_wp2_with fail
  go_ret
  have hz := (hal.out w13 (.cells #[.int .u8 0] 5))
  exact ⟨rfl, hb13.trans ((hz.trans (hb16.mono hz.size)).mono hb13.size)⟩
end Go.Proofs.Ytebegdifnkifgaa
