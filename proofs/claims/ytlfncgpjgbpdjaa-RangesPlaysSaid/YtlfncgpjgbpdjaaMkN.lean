/-
  Layer 8: the program's head of two hashes or more, out of both halves'. Conditions: those in each statement.
-/
import Derived.Test.YtlfncgpjgbpdjaaMkM
import Derived.Test.YtlfncgpjgbpdjaaShelf
namespace Go.Proofs.Ytlfncgpjgbpdjaa
open Go.RowKit

theorem RdD.cap {w : World} {b off n c c' : Nat} {L : List (List UInt8)} (h : RdD w (some ⟨b, off, none⟩) n c L) (hc : n ≤ c') : RdD w (some ⟨b, off, none⟩) n c' L :=
  ⟨h.len, hc, h.all, (by intro e; cases e), h.mem⟩
theorem bitLenAux_log (f : Nat) : ∀ x, x ≠ 0 → x < 2 ^ f → Lib.bitLenAux f x = x.log2 + 1 := by
  induction f with
  | zero => intro x h0 h1; omega
  | succ f ih =>
    intro x h0 h1
    have h2 : x / 2 < 2 ^ f := by rw [Nat.pow_succ] at h1; omega
    simp only [Lib.bitLenAux, if_neg h0]
    by_cases h : x < 2
    · have : x = 1 := by omega
      subst this
      cases f <;> simp [Lib.bitLenAux] <;> decide
    · rw [ih (x / 2) (by omega) h2, Nat.log2_def x, if_pos (by omega)]
      omega
theorem bitLen_log (x : Nat) (h0 : x ≠ 0) (h : x < 2 ^ 64) : Lib.bitLen x = x.log2 + 1 := bitLenAux_log 64 x h0 h

set_option maxHeartbeats 1600000 in
theorem split_any (n : Nat) (w : World) (h2 : 2 ≤ n) (h : n ≤ 2 ^ 50) : Calls Try.prog 29 #[.int .i64 (n : Int)] w fun e w' => e = .returned (.int .i64 (splK n : Int)) ∧ w' = w := by
  obtain ⟨N, hN⟩ : ∃ N, N = n - 1 := ⟨_, rfl⟩
  have hs : splK n = 2 ^ N.log2 := by rw [hN]; rfl
  have hb : Lib.bitLen N = N.log2 + 1 := bitLen_log N (by omega) (by omega)
  have hE0 : N.log2 < 51 := by rw [Nat.log2_lt (by omega)]; omega
  obtain ⟨E, hE⟩ : ∃ E, E = N.log2 := ⟨_, rfl⟩
  rw [← hE] at hb hs hE0
  rw [hs]
  have hc := fun w => Try.bits_Len (N : Int) w (by omega) (by omega)
  rw [Int.toNat_natCast, hb] at hc
  have hk : Hid (wrap64 (2 ^ E) = ((2 ^ E : Nat) : Int)) := by
    show _ = _
    have h1 : 2 ^ E ≤ 2 ^ 50 := Nat.pow_le_pow_right (by omega) (by omega)
    rw [show ((2 : Int) ^ E) = ((2 ^ E : Nat) : Int) by push_cast; rfl]
    unfold wrap64
    generalize 2 ^ E = x at *
    omega
  have hn : (n : Int) - 1 = (N : Int) := by omega
  have hw1 : wrap64 (N : Int) = (N : Int) := by unfold wrap64; omega
  have hw2 : IntKind.u64.wrap (N : Int) = (N : Int) := by rw [IntKind.wrap_u64]; omega
  clear hb hE hs h2 h hN
  go_enter Try.func29, Try.ntmps29
  go_wp2_with (go_at_call 36; refine (hc _).mono ?_; rintro _ _ ⟨rfl, rfl⟩)
  rw [hk.out]
  go_ret
  exact ⟨rfl, rfl⟩

structure InvRootP (L : List (List UInt8)) (X b off n cap g : Nat) (B : Nat) (wb : World) (L_ : Nat → Bool) (v18 v19 v20 v21 v22 v23 v24 v25 v26 v27 v28 v29 : Value) (wx : World) : Prop where
  t0 : L_ 0 = true → v18 = .slice (some ⟨b, off, none⟩) n cap
  t1 : L_ 1 = true → v19 = .int .i64 (X : Int)
  t2 : L_ 2 = true → v20 = .int .i64 (X : Int)
  t3 : L_ 3 = true → v21 = .slice (some ⟨b, off, none⟩) X X
  t4 : L_ 4 = true → v22 = .agg (bvs (rootF (L.take X))).toArray
  t5 : L_ 5 = true → v23 = .slice (some ⟨b, off, none⟩) n cap
  t6 : L_ 6 = true → v24 = .int .i64 (X : Int)
  t7 : L_ 7 = true → v25 = .int .i64 (n : Int)
  t8 : L_ 8 = true → v26 = .int .i64 (n : Int)
  t9 : L_ 9 = true → v27 = .slice (some ⟨b, off + X * 32, none⟩) (n - X) (n - X)
  t10 : L_ 10 = true → v28 = .agg (bvs (rootF (L.drop X))).toArray
  t11 : L_ 11 = true → v29 = .agg (bvs (nodeH (rootF (L.take X)) (rootF (L.drop X)))).toArray
  a2 : Arr wx g 29 (if L_ 12 then bvs (nodeH (rootF (L.take X)) (rootF (L.drop X))) else bvs (Z8 32))
  bw : Below B wb wx
  le : B ≤ wb.heap.size


set_option maxRecDepth 100000 in
set_option maxHeartbeats 3200000 in
theorem Root_more (L : List (List UInt8)) (n : Nat) (hn2 : 2 ≤ n) (cap b off : Nat) (w : World) (hn : n ≤ 2 ^ 50) (hcap : n ≤ cap) (hr : RdD w (some ⟨b, off, none⟩) n cap L)
    (ih1 : ∀ w', Below w.heap.size w w' → Calls Try.prog 18 #[.slice (some ⟨b, off, none⟩) (splK n) (splK n)] w' fun e w'' => e = .returned (.agg (bvs (rootF (L.take (splK n)))).toArray) ∧ Below w'.heap.size w' w'')
    (ih2 : ∀ w', Below w.heap.size w w' → Calls Try.prog 18 #[.slice (some ⟨b, off + splK n * 32, none⟩) (n - splK n) (n - splK n)] w' fun e w'' => e = .returned (.agg (bvs (rootF (L.drop (splK n)))).toArray) ∧ Below w'.heap.size w' w'') :
    Calls Try.prog 18 #[.slice (some ⟨b, off, none⟩) n cap] w fun e w' => e = .returned (.agg (bvs (rootF L)).toArray) ∧ Below w.heap.size w w' := by
  have hl := hr.len
  have hroot := rootF_more (L := L) (by omega)
  have hA1 := rootF_len (hr.all.take (splK n))
  have hA2 := rootF_len (hr.all.drop (splK n))
  rw [hl] at hroot
  have HC3' := fun w' => Node_any (rootF (L.take (splK n))) (rootF (L.drop (splK n))) w' hA1 hA2
  have HSP' := fun w' => split_any n w' hn2 hn
  obtain ⟨b1, b2, b3⟩ := splK_bounds (n := n) hn2
  obtain ⟨X, hk⟩ : ∃ k, k = splK n := ⟨_, rfl⟩
  rw [← hk] at b1 b2 b3 ih1 ih2 hroot HC3' HSP'
  have hnl := shaL_len (1 :: (rootF (L.take X) ++ rootF (L.drop X)))
  have H32 : Hid ((Try.prog.info? 29).map (·.size) = some (bvs (nodeH (rootF (L.take X)) (rootF (L.drop X)))).length) := by show _ = _; rw [bvs_len]; unfold nodeH; rw [hnl]; exact sizeD
  have L32 : Hid ((bvs (nodeH (rootF (L.take X)) (rootF (L.drop X)))).length = 32) := by show _ = _; rw [bvs_len]; unfold nodeH; rw [hnl]
  have HROOT := Lib.hid hroot
  have HC1 := Lib.hid ih1
  have HC2 := Lib.hid ih2
  have HC3 := Lib.hid HC3'
  have HSP := Lib.hid HSP'
  have e3 : ((n : Int) == 0) = false := by simp only [beq_eq_false_iff_ne]; omega
  have e4 : ((n : Int) == 1) = false := by simp only [beq_eq_false_iff_ne]; omega
  clear HC3' HSP' hr hl hroot hA1 hA2 hk ih1 ih2 hnl
  have c1 : (0 : Int) ≤ (X : Int) := by omega
  have c2 : (X : Int) ≤ (n : Int) := by omega
  have c3 : (X : Int) ≤ (cap : Int) := by omega
  have c4 : (n : Int) ≤ (cap : Int) := by omega
  have HCX : Hid (¬ (n = X)) := by show ¬ _; omega
  go_enter Try.func18, Try.ntmps18
  go_upto_region 8 with (first
    | ((with_reducible show wpList _ _ _ (⟨some 2, .alloc _, _, _, _, _⟩ :: _) _ _); refine wl_alloc rfl 29 rfl (bvs (Z8 32)) 32 infoD ?_; intro w1 hA hB hs1)
    | (go_at_call 29; refine (HSP.out _).mono ?_; rintro e wr ⟨rfl, rfl⟩))
  obtain ⟨g, hg⟩ : ∃ g, g = w.heap.size := ⟨_, rfl⟩
  rw [← hg] at hA ⊢
  have HG := Lib.hid hg
  clear hg hs1
  refine wp_region_steps [[], [], [], [0, 1, 2], [3], [], [], [], [], [5, 6, 7, 8], [9, 4], [4, 10], [11, 0, 1, 2, 3, 4, 5, 6, 7, 8, 9, 10]] (by kernel_rfl) (by kernel_rfl) (fun L_ a wx => ∃ v18 v19 v20 v21 v22 v23 v24 v25 v26 v27 v28 v29, a = ⟨#[.slice (some ⟨b, off, none⟩) n cap, undef, .pointer (some ⟨g, 0, none⟩), .int .i64 ↑n, .int .i64 ↑X, .slice (some ⟨b, off, none⟩) n cap, .int .i64 ↑n, .int .i64 ↑n, .bool false, .bool false, undef, .bool false, .bool false, undef, undef, undef, .int .i64 ↑n, .int .i64 ↑X, v18, v19, v20, v21, v22, v23, v24, v25, v26, v27, v28, v29], []⟩ ∧ InvRootP L X b off n cap g w.heap.size  wr L_ v18 v19 v20 v21 v22 v23 v24 v25 v26 v27 v28 v29 wx) ?_ ⟨?_, ?_, ?_, ?_, ?_, ?_, ?_, ?_, ?_, ?_, ?_, ?_, ?_, trivial⟩ ?_
  · refine ⟨_, _, _, _, _, _, _, _, _, _, _, _, rfl, ⟨?_, ?_, ?_, ?_, ?_, ?_, ?_, ?_, ?_, ?_, ?_, ?_, hA.drew, (Below.refl _ _).drew, hB.size⟩⟩ <;> (intro h; exact absurd h (by decide))
  · rintro L_ a wx ⟨v18, v19, v20, v21, v22, v23, v24, v25, v26, v27, v28, v29, rfl, hI⟩ hL hdep hcl K hK
    go_simp
    exact hK _ _ ⟨_, v19, v20, v21, v22, v23, v24, v25, v26, v27, v28, v29, rfl, ⟨fun _ => rfl, hI.t1, hI.t2, hI.t3, hI.t4, hI.t5, hI.t6, hI.t7, hI.t8, hI.t9, hI.t10, hI.t11, hI.a2, hI.bw, hI.le⟩⟩
  · rintro L_ a wx ⟨v18, v19, v20, v21, v22, v23, v24, v25, v26, v27, v28, v29, rfl, hI⟩ hL hdep hcl K hK
    go_simp
    exact hK _ _ ⟨v18, _, v20, v21, v22, v23, v24, v25, v26, v27, v28, v29, rfl, ⟨hI.t0, fun _ => rfl, hI.t2, hI.t3, hI.t4, hI.t5, hI.t6, hI.t7, hI.t8, hI.t9, hI.t10, hI.t11, hI.a2, hI.bw, hI.le⟩⟩
  · rintro L_ a wx ⟨v18, v19, v20, v21, v22, v23, v24, v25, v26, v27, v28, v29, rfl, hI⟩ hL hdep hcl K hK
    go_simp
    exact hK _ _ ⟨v18, v19, _, v21, v22, v23, v24, v25, v26, v27, v28, v29, rfl, ⟨hI.t0, hI.t1, fun _ => rfl, hI.t3, hI.t4, hI.t5, hI.t6, hI.t7, hI.t8, hI.t9, hI.t10, hI.t11, hI.a2, hI.bw, hI.le⟩⟩
  · rintro L_ a wx ⟨v18, v19, v20, v21, v22, v23, v24, v25, v26, v27, v28, v29, rfl, hI⟩ hL hdep hcl K hK
    obtain rfl := hI.t0 (hdep 0 (by decide))
    obtain rfl := hI.t1 (hdep 1 (by decide))
    obtain rfl := hI.t2 (hdep 2 (by decide))
    go_simp
    exact hK _ _ ⟨_, _, _, _, v22, v23, v24, v25, v26, v27, v28, v29, rfl, ⟨hI.t0, hI.t1, hI.t2, fun _ => rfl, hI.t4, hI.t5, hI.t6, hI.t7, hI.t8, hI.t9, hI.t10, hI.t11, hI.a2, hI.bw, hI.le⟩⟩
  · rintro L_ a wx ⟨v18, v19, v20, v21, v22, v23, v24, v25, v26, v27, v28, v29, rfl, hI⟩ hL hdep hcl K hK
    obtain rfl := hI.t3 (hdep 3 (by decide))
    have HC := HC1.out wx (hB.trans hI.bw)
    go_simp
    refine HC.mono ?_
    rintro e w' ⟨rfl, hb⟩
    exact hK _ _ ⟨v18, v19, v20, _, _, v23, v24, v25, v26, v27, v28, v29, rfl, ⟨hI.t0, hI.t1, hI.t2, hI.t3, fun _ => rfl, hI.t5, hI.t6, hI.t7, hI.t8, hI.t9, hI.t10, hI.t11, (hI.a2).kept hb, (hI.bw).trans (hb.mono (Nat.le_trans hI.le (hI.bw).size)), hI.le⟩⟩
  · rintro L_ a wx ⟨v18, v19, v20, v21, v22, v23, v24, v25, v26, v27, v28, v29, rfl, hI⟩ hL hdep hcl K hK
    go_simp
    exact hK _ _ ⟨v18, v19, v20, v21, v22, _, v24, v25, v26, v27, v28, v29, rfl, ⟨hI.t0, hI.t1, hI.t2, hI.t3, hI.t4, fun _ => rfl, hI.t6, hI.t7, hI.t8, hI.t9, hI.t10, hI.t11, hI.a2, hI.bw, hI.le⟩⟩
  · rintro L_ a wx ⟨v18, v19, v20, v21, v22, v23, v24, v25, v26, v27, v28, v29, rfl, hI⟩ hL hdep hcl K hK
    go_simp
    exact hK _ _ ⟨v18, v19, v20, v21, v22, v23, _, v25, v26, v27, v28, v29, rfl, ⟨hI.t0, hI.t1, hI.t2, hI.t3, hI.t4, hI.t5, fun _ => rfl, hI.t7, hI.t8, hI.t9, hI.t10, hI.t11, hI.a2, hI.bw, hI.le⟩⟩
  · rintro L_ a wx ⟨v18, v19, v20, v21, v22, v23, v24, v25, v26, v27, v28, v29, rfl, hI⟩ hL hdep hcl K hK
    go_simp
    exact hK _ _ ⟨v18, v19, v20, v21, v22, v23, v24, _, v26, v27, v28, v29, rfl, ⟨hI.t0, hI.t1, hI.t2, hI.t3, hI.t4, hI.t5, hI.t6, fun _ => rfl, hI.t8, hI.t9, hI.t10, hI.t11, hI.a2, hI.bw, hI.le⟩⟩
  · rintro L_ a wx ⟨v18, v19, v20, v21, v22, v23, v24, v25, v26, v27, v28, v29, rfl, hI⟩ hL hdep hcl K hK
    go_simp
    exact hK _ _ ⟨v18, v19, v20, v21, v22, v23, v24, v25, _, v27, v28, v29, rfl, ⟨hI.t0, hI.t1, hI.t2, hI.t3, hI.t4, hI.t5, hI.t6, hI.t7, fun _ => rfl, hI.t9, hI.t10, hI.t11, hI.a2, hI.bw, hI.le⟩⟩
  · rintro L_ a wx ⟨v18, v19, v20, v21, v22, v23, v24, v25, v26, v27, v28, v29, rfl, hI⟩ hL hdep hcl K hK
    obtain rfl := hI.t5 (hdep 5 (by decide))
    obtain rfl := hI.t6 (hdep 6 (by decide))
    obtain rfl := hI.t7 (hdep 7 (by decide))
    obtain rfl := hI.t8 (hdep 8 (by decide))
    have hcx : ¬ (n = X) := HCX.out
    go_simp
    exact hK _ _ ⟨v18, v19, v20, v21, v22, _, _, _, _, _, v28, v29, rfl, ⟨hI.t0, hI.t1, hI.t2, hI.t3, hI.t4, hI.t5, hI.t6, hI.t7, hI.t8, fun _ => rfl, hI.t10, hI.t11, hI.a2, hI.bw, hI.le⟩⟩
  · rintro L_ a wx ⟨v18, v19, v20, v21, v22, v23, v24, v25, v26, v27, v28, v29, rfl, hI⟩ hL hdep hcl K hK
    obtain rfl := hI.t9 (hdep 9 (by decide))
    obtain rfl := hI.t4 (hdep 4 (by decide))
    have HC := HC2.out wx (hB.trans hI.bw)
    go_simp
    refine HC.mono ?_
    rintro e w' ⟨rfl, hb⟩
    exact hK _ _ ⟨v18, v19, v20, v21, _, v23, v24, v25, v26, _, _, v29, rfl, ⟨hI.t0, hI.t1, hI.t2, hI.t3, hI.t4, hI.t5, hI.t6, hI.t7, hI.t8, hI.t9, fun _ => rfl, hI.t11, (hI.a2).kept hb, (hI.bw).trans (hb.mono (Nat.le_trans hI.le (hI.bw).size)), hI.le⟩⟩
  · rintro L_ a wx ⟨v18, v19, v20, v21, v22, v23, v24, v25, v26, v27, v28, v29, rfl, hI⟩ hL hdep hcl K hK
    obtain rfl := hI.t4 (hdep 4 (by decide))
    obtain rfl := hI.t10 (hdep 10 (by decide))
    have HC := HC3.out wx
    go_simp
    refine HC.mono ?_
    rintro e w' ⟨rfl, hb⟩
    exact hK _ _ ⟨v18, v19, v20, v21, _, v23, v24, v25, v26, v27, _, _, rfl, ⟨hI.t0, hI.t1, hI.t2, hI.t3, hI.t4, hI.t5, hI.t6, hI.t7, hI.t8, hI.t9, hI.t10, fun _ => rfl, (hI.a2).kept hb, (hI.bw).trans (hb.mono (Nat.le_trans hI.le (hI.bw).size)), hI.le⟩⟩
  · rintro L_ a wx ⟨v18, v19, v20, v21, v22, v23, v24, v25, v26, v27, v28, v29, rfl, hI⟩ hL hdep hcl K hK
    obtain rfl := hI.t11 (hdep 11 (by decide))
    obtain rfl := hI.t0 (hdep 0 (by decide))
    obtain rfl := hI.t1 (hdep 1 (by decide))
    obtain rfl := hI.t2 (hdep 2 (by decide))
    obtain rfl := hI.t3 (hdep 3 (by decide))
    obtain rfl := hI.t4 (hdep 4 (by decide))
    obtain rfl := hI.t5 (hdep 5 (by decide))
    obtain rfl := hI.t6 (hdep 6 (by decide))
    obtain rfl := hI.t7 (hdep 7 (by decide))
    obtain rfl := hI.t8 (hdep 8 (by decide))
    obtain rfl := hI.t9 (hdep 9 (by decide))
    obtain rfl := hI.t10 (hdep 10 (by decide))
    have hA0 : Arr wx g 29 (bvs (Z8 32)) := by
      have := hI.a2
      rw [hL] at this
      exact this
    refine ow_store 29 _ _ rfl g 0 rfl (bvs (nodeH (rootF (L.take X)) (rootF (L.drop X)))) rfl 29 _ hA0 H32.out (by rw [L32.out]; exact (by decide : 0 + 32 ≤ (bvs (Z8 32)).length)) (bvs_one _) ?_
    intro w' hA' hg hs
    rw [whole_store _ _ (by rw [L32.out]; rfl)] at hA'
    exact hK _ _ ⟨_, _, _, _, _, _, _, _, _, _, _, _, rfl, ⟨hI.t0, hI.t1, hI.t2, hI.t3, hI.t4, hI.t5, hI.t6, hI.t7, hI.t8, hI.t9, hI.t10, hI.t11, hA', hI.bw.grown hg (Nat.le_trans hI.le hI.bw.size) (by intro k e; injection e with e; have := HG.out; omega), hI.le⟩⟩
  · rintro a wx ⟨v18, v19, v20, v21, v22, v23, v24, v25, v26, v27, v28, v29, rfl, hI⟩
    have hS3 := hI.a2
    have hbw := hI.bw
    clear hI
    go_wp2
    refine end_cell rfl g 29 (bvs (nodeH (rootF (L.take X)) (rootF (L.drop X)))) (.array 32 5) rfl hS3 Try.underlying29 rfl H32.out rfl ⟨HROOT.out ▸ rfl, ?_⟩
    exact hB.trans hbw
end Go.Proofs.Ytlfncgpjgbpdjaa
