/-
  Layer 6: the chapter's rows. Conditions: those in each statement.
-/
import Derived.Test.YtebegdifnkifgaaSgI
import Derived.Lib.SlBytesConst
namespace Go.Proofs.Ytebegdifnkifgaa
open Go.RowKit

theorem two_lits (x y : UInt8) (w : World) : Rd ((w.alloc (.cells #[.int .u8 (x.toNat : Int)] 5 (1, 2))).alloc (.cells #[.int .u8 (y.toNat : Int)] 5 (1, 2))) (some ⟨w.heap.size, 0, none⟩) 1 1 [x] ∧
    Rd ((w.alloc (.cells #[.int .u8 (x.toNat : Int)] 5 (1, 2))).alloc (.cells #[.int .u8 (y.toNat : Int)] 5 (1, 2))) (some ⟨w.heap.size + 1, 0, none⟩) 1 1 [y] ∧
    Below w.heap.size w ((w.alloc (.cells #[.int .u8 (x.toNat : Int)] 5 (1, 2))).alloc (.cells #[.int .u8 (y.toNat : Int)] 5 (1, 2))) := by
  refine ⟨(rd_lit w [x] 5 (1, 2)).to ((Below.refl _ _).alloc (Nat.le_refl _) _), ?_, ((Below.refl _ _).alloc (Nat.le_refl _) _).alloc (by rw [World.size_alloc]; omega) _⟩
  have := rd_lit (w.alloc (.cells #[.int .u8 (x.toNat : Int)] 5 (1, 2))) [y] 5 (1, 2)
  rw [World.size_alloc] at this
  exact this
theorem conv2 (w : World) (o : Obj) (C : Array Value) (n c : Nat) : (convert 22 22 (.slice (some ⟨w.heap.size + 1, 0, none⟩) n c)).run Try.prog ((w.alloc o).alloc (.cells C 5)) = .ok (.slice (some ⟨w.heap.size + 1, 0, none⟩) n c) ((w.alloc o).alloc (.cells C 5 (C.size, C.size + 1))) := by
  have := Lib.run_convert_bytes_const (P := Try.prog) (w.alloc o) 22 5 C n c Try.underlying22 Try.underlying5
  rw [World.size_alloc] at this
  exact this
theorem sign_lit (x y : UInt8) (xi yi : Int) (hx : (x.toNat : Int) = xi) (hy : (y.toNat : Int) = yi) (w : World) : Calls Try.prog 8 #[.slice (some ⟨w.heap.size, 0, none⟩) 1 1, .slice (some ⟨w.heap.size + 1, 0, none⟩) 1 1]
    ((w.alloc (.cells #[.int .u8 xi] 5 (1, 2))).alloc (.cells #[.int .u8 yi] 5 (1, 2))) fun e w' => e = .returned (.tuple #[.agg (bvs (sigF [x] [y])).toArray, .int .i64 0]) ∧ Below w.heap.size w w' := by
  subst hx hy
  obtain ⟨h1, h2, h3⟩ := two_lits x y w
  exact (Sign_any [x] [y] _ _ 1 1 1 1 _ (by omega) (by omega) h1 h2).mono fun e w' h => ⟨h.1, h3.trans (h.2.mono h3.size)⟩
theorem verify_lit (x y : UInt8) (xi yi : Int) (hx : (x.toNat : Int) = xi) (hy : (y.toNat : Int) = yi) (sig : List UInt8) (hs : sig.length = 64) (w : World) : Calls Try.prog 14 #[.slice (some ⟨w.heap.size, 0, none⟩) 1 1, .slice (some ⟨w.heap.size + 1, 0, none⟩) 1 1, .agg (bvs sig).toArray]
    ((w.alloc (.cells #[.int .u8 xi] 5 (1, 2))).alloc (.cells #[.int .u8 yi] 5 (1, 2))) fun e w' => e = .returned (.bool (decide (sig = sigF [x] [y]))) ∧ Below w.heap.size w w' := by
  subst hx hy
  obtain ⟨h1, h2, h3⟩ := two_lits x y w
  exact (Verify_any [x] [y] sig _ _ 1 1 1 1 _ (by omega) (by omega) h1 h2 hs).mono fun e w' h => ⟨h.1, h3.trans (h.2.mono h3.size)⟩
theorem sign_none (y : UInt8) (yi : Int) (hy : (y.toNat : Int) = yi) (w : World) : Calls Try.prog 8 #[.slice none 0 0, .slice (some ⟨w.heap.size, 0, none⟩) 1 1]
    (w.alloc (.cells #[.int .u8 yi] 5 (1, 2))) fun e w' => e = .returned (.tuple #[.agg (bvs (Z8 64)).toArray, .int .i64 1]) ∧ Below w.heap.size w w' := by
  subst hy
  have hb : Below w.heap.size w (w.alloc (.cells #[.int .u8 (y.toNat : Int)] 5 (1, 2))) := (Below.refl _ _).alloc (Nat.le_refl _) _
  exact (Sign_no none _ 0 1 0 1 _ rfl (by omega)).mono fun e w' h => ⟨h.1, hb.trans (h.2.mono hb.size)⟩
theorem sig_kmn : decide (sigF [107] [110] = sigF [107] [109]) = false := by decide +kernel

set_option maxRecDepth 100000 in
set_option maxHeartbeats 3200000 in
theorem wakes_any (w : World) : Calls Try.prog 15 #[] w fun e w' => e = .returned (.bool true) ∧ Below w.heap.size w w' := by
  have hSm : Hid (∀ w : World, Calls Try.prog 8 #[.slice (some ⟨w.heap.size, 0, none⟩) 1 1, .slice (some ⟨w.heap.size + 1, 0, none⟩) 1 1]
    ((w.alloc (.cells #[.int .u8 107] 5 (1, 2))).alloc (.cells #[.int .u8 109] 5 (1, 2))) fun e w' => e = .returned (.tuple #[.agg (bvs (sigF [107] [109])).toArray, .int .i64 0]) ∧ Below w.heap.size w w') := fun w => sign_lit 107 109 107 109 rfl rfl w
  have hSn : Hid (∀ w : World, Calls Try.prog 8 #[.slice (some ⟨w.heap.size, 0, none⟩) 1 1, .slice (some ⟨w.heap.size + 1, 0, none⟩) 1 1]
    ((w.alloc (.cells #[.int .u8 107] 5 (1, 2))).alloc (.cells #[.int .u8 110] 5 (1, 2))) fun e w' => e = .returned (.tuple #[.agg (bvs (sigF [107] [110])).toArray, .int .i64 0]) ∧ Below w.heap.size w w') := fun w => sign_lit 107 110 107 110 rfl rfl w
  have hVm : Hid (∀ w : World, Calls Try.prog 14 #[.slice (some ⟨w.heap.size, 0, none⟩) 1 1, .slice (some ⟨w.heap.size + 1, 0, none⟩) 1 1, .agg (bvs (sigF [107] [109])).toArray]
    ((w.alloc (.cells #[.int .u8 107] 5 (1, 2))).alloc (.cells #[.int .u8 109] 5 (1, 2))) fun e w' => e = .returned (.bool true) ∧ Below w.heap.size w w') := fun w => (verify_lit 107 109 107 109 rfl rfl (sigF [107] [109]) (sigF_len _ _) w).mono fun e w' h => by rw [decide_eq_true rfl] at h; exact h
  have hVn : Hid (∀ w : World, Calls Try.prog 14 #[.slice (some ⟨w.heap.size, 0, none⟩) 1 1, .slice (some ⟨w.heap.size + 1, 0, none⟩) 1 1, .agg (bvs (sigF [107] [110])).toArray]
    ((w.alloc (.cells #[.int .u8 107] 5 (1, 2))).alloc (.cells #[.int .u8 109] 5 (1, 2))) fun e w' => e = .returned (.bool false) ∧ Below w.heap.size w w') := fun w => (verify_lit 107 109 107 109 rfl rfl (sigF [107] [110]) (sigF_len _ _) w).mono fun e w' h => by rw [sig_kmn] at h; exact h
  have hlm : Hid ((bvs (sigF [107] [109])).length = 64) := (bvs_len _).trans (sigF_len _ _)
  have hln : Hid ((bvs (sigF [107] [110])).length = 64) := (bvs_len _).trans (sigF_len _ _)
  generalize sigF [107] [109] = M at *
  generalize sigF [107] [110] = N at *
  have h64M : Hid ((Try.prog.info? 23).map (·.size) = some (bvs M).length) := by show _ = _; rw [hlm.out]; exact sizeSig
  have h64N : Hid ((Try.prog.info? 23).map (·.size) = some (bvs N).length) := by show _ = _; rw [hln.out]; exact sizeSig
  have H64 : Hid ((Try.prog.info? 23).map (·.size) = some (bvs (Z8 64)).length) := sizeSig
  have kc := fun (w : World) (C : Array Value) (n c : Nat) => Lib.run_convert_bytes_const (P := Try.prog) w 22 5 C n c Try.underlying22 Try.underlying5
  have kc2 := conv2
  go_enter Try.func15, Try.ntmps15
  go_upto_region 2 with (first
    | (go_at_call 8; go_loud (refine (hSm.out _).mono ?_); rintro e w1 ⟨rfl, hb1⟩)
    | ((with_reducible show wpList _ _ _ (⟨some 1, .alloc _, _, _, _, _⟩ :: _) _ _); refine wl_alloc rfl 23 rfl (bvs (Z8 64)) 64 infoSig ?_; intro w2 hA2 hb2 hs2)
    | ((with_reducible show wpList _ _ _ (⟨none, .store _ _ _, _, _, _, _⟩ :: _) _ _); go_loud (refine wl_store rfl 23 _ _ rfl w1.heap.size 0 rfl (bvs M) rfl 23 _ hA2 h64M.out (by rw [hlm.out]; exact (by decide : 0 + 64 ≤ (bvs (Z8 64)).length)) (bvs_one _) ?_); intro w3 hA3 hg3 hs3))
  rw [whole_store _ _ (by rw [hlm.out]; rfl)] at hA3
  have hb3 : Below w.heap.size w w3 := (hb1.trans (hb2.mono hb1.size)).grown hg3 (by have := hb1.size; have := hb2.size; omega) (by intro k e; injection e with e; have := hb1.size; omega)
  obtain ⟨gM, hgM⟩ : ∃ gM, w1.heap.size = gM := ⟨_, rfl⟩
  rw [hgM] at hA3 ⊢
  clear hb1 hb2 hg3 hA2 hgM hs2 hs3
  go_upto_region 3 with (first
    | (go_at_call 8; go_loud (refine (hSn.out _).mono ?_); rintro e w4 ⟨rfl, hb4⟩)
    | ((with_reducible show wpList _ _ _ (⟨some 3, .alloc _, _, _, _, _⟩ :: _) _ _); refine wl_alloc rfl 23 rfl (bvs (Z8 64)) 64 infoSig ?_; intro w5 hA5 hb5 hs5)
    | ((with_reducible show wpList _ _ _ (⟨none, .store _ _ _, _, _, _, _⟩ :: _) _ _); go_loud (refine wl_store rfl 23 _ _ rfl w4.heap.size 0 rfl (bvs N) rfl 23 _ hA5 h64N.out (by rw [hln.out]; exact (by decide : 0 + 64 ≤ (bvs (Z8 64)).length)) (bvs_one _) ?_); intro w6 hA6 hg6 hs6))
  rw [whole_store _ _ (by rw [hln.out]; rfl)] at hA6
  have hb6 : Below w3.heap.size w3 w6 := (hb4.trans (hb5.mono hb4.size)).grown hg6 (by have := hb4.size; have := hb5.size; omega) (by intro k e; injection e with e; have := hb4.size; omega)
  have hA6M := hA3.kept hb6
  have hb6w := hb3.trans (hb6.mono hb3.size)
  obtain ⟨gN, hgN⟩ : ∃ gN, w4.heap.size = gN := ⟨_, rfl⟩
  rw [hgN] at hA6 ⊢
  clear hb4 hb5 hg6 hA5 hgN hs5 hs6 hb3 hb6 hA3
  go_upto_region 4 with (first
    | (go_at_call 8; go_loud (refine (sign_none 109 109 rfl _).mono ?_); rintro e w7 ⟨rfl, hb7⟩)
    | ((with_reducible show wpList _ _ _ (⟨some 5, .alloc _, _, _, _, _⟩ :: _) _ _); refine wl_alloc rfl 23 rfl (bvs (Z8 64)) 64 infoSig ?_; intro w8 hA8 hb8 hs8)
    | ((with_reducible show wpList _ _ _ (⟨none, .store _ _ _, _, _, _, _⟩ :: _) _ _); go_loud (refine wl_store rfl 23 _ _ rfl w7.heap.size 0 rfl (bvs (Z8 64)) rfl 23 _ hA8 H64.out (by decide) (bvs_one _) ?_); intro w9 hA9 hg9 hs9))
  have hb9 : Below w6.heap.size w6 w9 := (hb7.trans (hb8.mono hb7.size)).grown hg9 (by have := hb7.size; have := hb8.size; omega) (by intro k e; injection e with e; have := hb7.size; omega)
  have hM9 := hA6M.kept hb9
  have hN9 := hA6.kept hb9
  have hb9w := hb6w.trans (hb9.mono hb6w.size)
  clear hb7 hb8 hg9 hA8 hA9 hs8 hs9 hb9 hA6 hA6M hb6w
  go_upto_region 5 with (go_at_call 18; go_loud (refine (Mark_any (Z8 64) _ (by simp [Z8])).mono ?_); rintro e w10 ⟨v10, rfl, ho10, hb10⟩; obtain ⟨a10, c10, e10, -⟩ := ho10.shape; rw [(rfl : (mhead ++ Z8 64).length = 68)] at e10; obtain rfl := e10.symm)
  rw [show mhead.length + (Z8 64).length = 68 from rfl]
  have hr10 : Rd w10 a10 68 c10 (mhead ++ Z8 64) := ho10.rd.toRd
  have hM10 := hM9.kept hb10
  have hN10 := hN9.kept hb10
  have hb10w := hb9w.trans (hb10.mono hb9w.size)
  have hc10 := hr10.le
  have hc10' : (67 : Int) ≤ (c10 : Int) := by omega
  clear hM9 hN9 hb10 hb9w ho10
  go_upto_region 6 with (first
    | (go_at_call 16; go_loud (refine (Unmark_any _ a10 67 c10 _ (hr10.take 67 (by omega))).mono ?_); rintro e w11 ⟨rfl, hb11⟩)
    | ((with_reducible show wpList _ _ _ (⟨some 8, .alloc _, _, _, _, _⟩ :: _) _ _); refine wl_alloc rfl 23 rfl (bvs (Z8 64)) 64 infoSig ?_; intro w12 hA12 hb12 hs12)
    | ((with_reducible show wpList _ _ _ (⟨none, .store _ _ _, _, _, _, _⟩ :: _) _ _); go_loud (refine wl_store rfl 23 _ _ rfl w11.heap.size 0 rfl (bvs (unmF (List.take 67 (mhead ++ Z8 64)))) rfl 23 _ hA12 H64.out (by decide) (bvs_one _) ?_); intro w13 hA13 hg13 hs13))
  rw [show unmE (List.take 67 (mhead ++ Z8 64)) = 5 from rfl]
  have hb13 : Below w10.heap.size w10 w13 := (hb11.trans (hb12.mono hb11.size)).grown hg13 (by have := hb11.size; have := hb12.size; omega) (by intro k e; injection e with e; have := hb11.size; omega)
  have hM13 := hM10.kept hb13
  have hN13 := hN10.kept hb13
  have hr13 := (hr10.take 5 (by omega)).to hb13
  have hb13w := hb10w.trans (hb13.mono hb10w.size)
  have h5 : (5 : Int) ≤ (c10 : Int) := by omega
  have hst : Hid (∀ w', Below w13.heap.size w13 w' → (convert 22 9 (.slice a10 5 c10)).run Try.prog w' = .ok (.string ⟨#[8, 7, 0, 64, 0]⟩) w') := fun w' h => run_bstr bt Try.underlying9 (hr13.to h)
  clear hb11 hb12 hg13 hA12 hA13 hs12 hs13 hb13 hr13 hr10 hb10w hM10 hN10
  generalize bvs (unmF (List.take 67 (mhead ++ Z8 64))) = J at *
  go_wp2_with ((with_reducible show wpList _ _ _ (⟨some 54, .load _ _, _, _, _, _⟩ :: _) _ _); go_loud (refine wl_loadG rfl 23 _ rfl gM 0 rfl 23 (bvs M) (bvs M) (hM13.kept (two_lits 107 109 w13).2.2) (fun j v h => by rw [Nat.zero_add]; exact h) (.array 64 5) Try.underlying23 rfl h64M.out ?_))
  refine (hVm.out _).mono ?_
  rintro e w14 ⟨rfl, hb14⟩
  have hN14 := hN13.kept hb14
  go_wp2_with ((with_reducible show wpList _ _ _ (⟨some 62, .load _ _, _, _, _, _⟩ :: _) _ _); go_loud (refine wl_loadG rfl 23 _ rfl gN 0 rfl 23 (bvs N) (bvs N) (hN14.kept (two_lits 107 109 w14).2.2) (fun j v h => by rw [Nat.zero_add]; exact h) (.array 64 5) Try.underlying23 rfl h64N.out ?_))
  refine (hVn.out _).mono ?_
  rintro e w15 ⟨rfl, hb15⟩
  have hst5 := hst.out w15 (hb14.trans (hb15.mono hb14.size))
  have hend := hb13w.trans ((hb14.trans (hb15.mono hb14.size)).mono hb13w.size)
  clear hN14 hN13 hM13 hb14 hb15 hb13w
  go_wp2_with fail
  go_ret
  exact ⟨rfl, hend⟩
end Go.Proofs.Ytebegdifnkifgaa
