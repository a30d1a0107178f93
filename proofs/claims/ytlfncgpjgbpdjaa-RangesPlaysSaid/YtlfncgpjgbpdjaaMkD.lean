/-
  Layer 8: the document's head of two hashes or more, out of both halves'. Conditions: those in each statement.
-/
import Derived.Test.YtlfncgpjgbpdjaaMkC
namespace Go.Proofs.Ytlfncgpjgbpdjaa
open Go.RowKit

structure InvRoot (L : List (List UInt8)) (X b off n cap g : Nat) (B : Nat) (u19 u20 : Value) (wb : World) (L_ : Nat → Bool) (v21 v22 v23 v24 v25 v26 v27 v28 v29 : Value) (wx : World) : Prop where
  t0 : L_ 0 = true → v21 = .slice (some ⟨b, off, none⟩) n cap
  t1 : L_ 1 = true → v22 = .int .i64 (X : Int)
  t2 : L_ 2 = true → v23 = .slice (some ⟨b, off, none⟩) X cap
  t3 : L_ 3 = true → v24 = .agg (bvs (rootF (L.take X))).toArray
  t4 : L_ 4 = true → v25 = .slice (some ⟨b, off, none⟩) n cap
  t5 : L_ 5 = true → v26 = .int .i64 (X : Int)
  t6 : L_ 6 = true → v27 = .slice (some ⟨b, off + X * 32, none⟩) (n - X) (cap - X)
  t7 : L_ 7 = true → v28 = .agg (bvs (rootF (L.drop X))).toArray
  t8 : L_ 8 = true → v29 = .agg (bvs (nodeH (rootF (L.take X)) (rootF (L.drop X)))).toArray
  a2 : Arr wx g 29 (if L_ 9 then bvs (nodeH (rootF (L.take X)) (rootF (L.drop X))) else bvs (Z8 32))
  bw : Below B wb wx
  le : B ≤ wb.heap.size


set_option maxRecDepth 100000 in
set_option maxHeartbeats 3200000 in
theorem rRoot_more (L : List (List UInt8)) (n : Nat) (hn2 : 2 ≤ n) (cap b off : Nat) (w : World) (hn : n ≤ 2 ^ 50) (hcap : n ≤ cap) (hr : RdD w (some ⟨b, off, none⟩) n cap L)
    (ih1 : ∀ w', Below w.heap.size w w' → Calls Try.prog 35 #[.slice (some ⟨b, off, none⟩) (splK n) cap] w' fun e w'' => e = .returned (.agg (bvs (rootF (L.take (splK n)))).toArray) ∧ Below w'.heap.size w' w'')
    (ih2 : ∀ w', Below w.heap.size w w' → Calls Try.prog 35 #[.slice (some ⟨b, off + splK n * 32, none⟩) (n - splK n) (cap - splK n)] w' fun e w'' => e = .returned (.agg (bvs (rootF (L.drop (splK n)))).toArray) ∧ Below w'.heap.size w' w'') :
    Calls Try.prog 35 #[.slice (some ⟨b, off, none⟩) n cap] w fun e w' => e = .returned (.agg (bvs (rootF L)).toArray) ∧ Below w.heap.size w w' := by
  have hl := hr.len
  have hroot := rootF_more (L := L) (by omega)
  have hA1 := rootF_len (hr.all.take (splK n))
  have hA2 := rootF_len (hr.all.drop (splK n))
  rw [hl] at hroot
  have HC3' := fun w' => rNode_any (rootF (L.take (splK n))) (rootF (L.drop (splK n))) w' hA1 hA2
  have hl1 := Nat.log2_self_le (n := n - 1) (by omega)
  have hl2 := @Nat.lt_log2_self (n - 1)
  obtain ⟨b1, b2, b3⟩ := splK_bounds (n := n) hn2
  obtain ⟨E, hE⟩ : ∃ E, E = (n - 1).log2 := ⟨_, rfl⟩
  have hsk : splK n = 2 ^ E := by rw [hE]; rfl
  rw [← hE] at hl1 hl2
  obtain ⟨k, hk⟩ : ∃ k, k = splK n := ⟨_, rfl⟩
  rw [← hk] at b1 b2 b3 ih1 ih2 hroot HC3' hsk
  have hnl := shaL_len (1 :: (rootF (L.take k) ++ rootF (L.drop k)))
  have H32 : Hid ((Try.prog.info? 29).map (·.size) = some (bvs (nodeH (rootF (L.take k)) (rootF (L.drop k)))).length) := by show _ = _; rw [bvs_len]; unfold nodeH; rw [hnl]; exact sizeD
  have L32 : Hid ((bvs (nodeH (rootF (L.take k)) (rootF (L.drop k)))).length = 32) := by show _ = _; rw [bvs_len]; unfold nodeH; rw [hnl]
  have HROOT := Lib.hid hroot
  have HC1 := Lib.hid ih1
  have HC2 := Lib.hid ih2
  have HSK := Lib.hid hsk
  have HL2 := Lib.hid hl2
  have HC3 := Lib.hid HC3'
  have e3 : ((n : Int) == 0) = false := by simp only [beq_eq_false_iff_ne]; omega
  have e4 : ((n : Int) == 1) = false := by simp only [beq_eq_false_iff_ne]; omega
  have hkE : k = 2 ^ E := hsk
  clear HC3' hr hl hroot hA1 hA2 hl1 hl2 hE hsk hk ih1 ih2 hnl hkE
  go_enter Try.func35, Try.ntmps35
  go_wp2_with ((with_reducible show wpList _ _ _ (⟨some 2, .alloc _, _, _, _, _⟩ :: _) _ _); refine wl_alloc rfl 29 rfl (bvs (Z8 32)) 32 infoD ?_; intro w1 hA1 hb1 hs1)
  obtain ⟨g, hg⟩ : ∃ g, g = w.heap.size := ⟨_, rfl⟩
  rw [← hg] at hA1 ⊢
  have HG := Lib.hid hg
  clear hg hs1
  go_loopw [3] (fun kk wr => ∃ j : Nat, j ≤ E ∧ kk = .int .i64 ((2 ^ j : Nat) : Int) ∧ Arr wr g 29 (bvs (Z8 32)) ∧ Below w.heap.size w wr) (fun kk _ => 2 ^ 51 - (intOf kk).toNat)
  case atStart => exact ⟨0, Nat.zero_le _, rfl, hA1, hb1⟩
  case round =>
    clear hA1 hb1
    obtain ⟨j, hj, rfl, hA, hB⟩ := hrel
    have hp0 : 0 < 2 ^ j := Nat.two_pow_pos j
    have hp2 : 2 ^ (j + 1) = 2 * 2 ^ j := by rw [Nat.pow_succ, Nat.mul_comm]
    have hmono : j + 1 ≤ E → 2 ^ (j + 1) ≤ k := fun h => by rw [HSK.out]; exact Nat.pow_le_pow_right (by omega) h
    have hmono2 : E ≤ j → 2 ^ (E + 1) ≤ 2 ^ (j + 1) := fun h => Nat.pow_le_pow_right (by omega) (by omega)
    have hmono3 : 2 ^ j ≤ k := by rw [HSK.out]; exact Nat.pow_le_pow_right (by omega) hj
    obtain ⟨X, hX⟩ : ∃ X, X = 2 ^ j := ⟨_, rfl⟩
    rw [hp2] at hmono hmono2
    rw [← hX] at hp0 hp2 hmono hmono2 hmono3 ⊢
    by_cases hlt : 2 * X < n
    · have hjE : j + 1 ≤ E := by
        have := HL2.out
        rcases Nat.lt_or_ge j E with h | h
        · omega
        · have := hmono2 h; omega
      have H2 := Lib.hid hp2
      have hcc : 2 * (X : Int) < (n : Int) := by omega
      clear hp2 hX hmono hmono2
      go_wp2_with fail
      go_roundw
      case rel => exact ⟨j + 1, hjE, by rw [H2.out]; go_num, hA, hB⟩
      case measure => simp [intOf]; omega
    · have hjE : j = E := by
        rcases Nat.lt_or_ge j E with h | h
        · have := hmono (by omega); omega
        · omega
      have hXk : X = k := by rw [hX, hjE]; exact HSK.out.symm
      obtain rfl := hXk
      have hcc : ¬ (2 * (X : Int) < (n : Int)) := by omega
      clear hp2 hX hmono hmono2 hmono3 hlt hjE
      have c1 : (0 : Int) ≤ (X : Int) := by omega
      have c2 : (X : Int) ≤ (n : Int) := by omega
      have c3 : (X : Int) ≤ (cap : Int) := by omega
      have c4 : (n : Int) ≤ (cap : Int) := by omega
      have HCX : Hid (¬ (cap = X)) := by show ¬ _; omega
      go_upto_region 8 with fail
      refine wp_region_steps [[], [], [0, 1], [2], [], [], [4, 5], [6, 3], [3, 7], [8, 0, 1, 2, 3, 4, 5, 6, 7]] (by kernel_rfl) (by kernel_rfl) (fun L_ a wx => ∃ v21 v22 v23 v24 v25 v26 v27 v28 v29, a = ⟨#[.slice (some ⟨b, off, none⟩) n cap, undef, .pointer (some ⟨g, 0, none⟩), .int .i64 ↑X, .slice (some ⟨b, off, none⟩) n cap, .int .i64 ↑n, .bool false, undef, .slice (some ⟨b, off, none⟩) n cap, .int .i64 ↑n, .bool false, undef, undef, undef, .int .i64 ↑X, .int .i64 (2 * ↑X), .slice (some ⟨b, off, none⟩) n cap, .int .i64 ↑n, .bool false, u19, u20, v21, v22, v23, v24, v25, v26, v27, v28, v29], []⟩ ∧ InvRoot L X b off n cap g w.heap.size u19 u20 wr L_ v21 v22 v23 v24 v25 v26 v27 v28 v29 wx) ?_ ⟨?_, ?_, ?_, ?_, ?_, ?_, ?_, ?_, ?_, ?_, trivial⟩ ?_
      · refine ⟨_, _, _, _, _, _, _, _, _, rfl, ⟨?_, ?_, ?_, ?_, ?_, ?_, ?_, ?_, ?_, hA.drew, (Below.refl _ _).drew, hB.size⟩⟩ <;> (intro h; exact absurd h (by decide))
      · rintro L_ a wx ⟨v21, v22, v23, v24, v25, v26, v27, v28, v29, rfl, hI⟩ hL hdep hcl K hK
        go_simp
        exact hK _ _ ⟨_, v22, v23, v24, v25, v26, v27, v28, v29, rfl, ⟨fun _ => rfl, hI.t1, hI.t2, hI.t3, hI.t4, hI.t5, hI.t6, hI.t7, hI.t8, hI.a2, hI.bw, hI.le⟩⟩
      · rintro L_ a wx ⟨v21, v22, v23, v24, v25, v26, v27, v28, v29, rfl, hI⟩ hL hdep hcl K hK
        go_simp
        exact hK _ _ ⟨v21, _, v23, v24, v25, v26, v27, v28, v29, rfl, ⟨hI.t0, fun _ => rfl, hI.t2, hI.t3, hI.t4, hI.t5, hI.t6, hI.t7, hI.t8, hI.a2, hI.bw, hI.le⟩⟩
      · rintro L_ a wx ⟨v21, v22, v23, v24, v25, v26, v27, v28, v29, rfl, hI⟩ hL hdep hcl K hK
        obtain rfl := hI.t0 (hdep 0 (by decide))
        obtain rfl := hI.t1 (hdep 1 (by decide))
        go_simp
        exact hK _ _ ⟨_, _, _, v24, v25, v26, v27, v28, v29, rfl, ⟨hI.t0, hI.t1, fun _ => rfl, hI.t3, hI.t4, hI.t5, hI.t6, hI.t7, hI.t8, hI.a2, hI.bw, hI.le⟩⟩
      · rintro L_ a wx ⟨v21, v22, v23, v24, v25, v26, v27, v28, v29, rfl, hI⟩ hL hdep hcl K hK
        obtain rfl := hI.t2 (hdep 2 (by decide))
        have HC := HC1.out wx (hB.trans hI.bw)
        go_simp
        refine HC.mono ?_
        rintro e w' ⟨rfl, hb⟩
        exact hK _ _ ⟨v21, v22, _, _, v25, v26, v27, v28, v29, rfl, ⟨hI.t0, hI.t1, hI.t2, fun _ => rfl, hI.t4, hI.t5, hI.t6, hI.t7, hI.t8, (hI.a2).kept hb, (hI.bw).trans (hb.mono (Nat.le_trans hI.le (hI.bw).size)), hI.le⟩⟩
      · rintro L_ a wx ⟨v21, v22, v23, v24, v25, v26, v27, v28, v29, rfl, hI⟩ hL hdep hcl K hK
        go_simp
        exact hK _ _ ⟨v21, v22, v23, v24, _, v26, v27, v28, v29, rfl, ⟨hI.t0, hI.t1, hI.t2, hI.t3, fun _ => rfl, hI.t5, hI.t6, hI.t7, hI.t8, hI.a2, hI.bw, hI.le⟩⟩
      · rintro L_ a wx ⟨v21, v22, v23, v24, v25, v26, v27, v28, v29, rfl, hI⟩ hL hdep hcl K hK
        go_simp
        exact hK _ _ ⟨v21, v22, v23, v24, v25, _, v27, v28, v29, rfl, ⟨hI.t0, hI.t1, hI.t2, hI.t3, hI.t4, fun _ => rfl, hI.t6, hI.t7, hI.t8, hI.a2, hI.bw, hI.le⟩⟩
      · rintro L_ a wx ⟨v21, v22, v23, v24, v25, v26, v27, v28, v29, rfl, hI⟩ hL hdep hcl K hK
        obtain rfl := hI.t4 (hdep 4 (by decide))
        obtain rfl := hI.t5 (hdep 5 (by decide))
        have hcx : ¬ (cap = X) := HCX.out
        go_simp
        exact hK _ _ ⟨v21, v22, v23, v24, _, _, _, v28, v29, rfl, ⟨hI.t0, hI.t1, hI.t2, hI.t3, hI.t4, hI.t5, fun _ => rfl, hI.t7, hI.t8, hI.a2, hI.bw, hI.le⟩⟩
      · rintro L_ a wx ⟨v21, v22, v23, v24, v25, v26, v27, v28, v29, rfl, hI⟩ hL hdep hcl K hK
        obtain rfl := hI.t6 (hdep 6 (by decide))
        obtain rfl := hI.t3 (hdep 3 (by decide))
        have HC := HC2.out wx (hB.trans hI.bw)
        go_simp
        refine HC.mono ?_
        rintro e w' ⟨rfl, hb⟩
        exact hK _ _ ⟨v21, v22, v23, _, v25, v26, _, _, v29, rfl, ⟨hI.t0, hI.t1, hI.t2, hI.t3, hI.t4, hI.t5, hI.t6, fun _ => rfl, hI.t8, (hI.a2).kept hb, (hI.bw).trans (hb.mono (Nat.le_trans hI.le (hI.bw).size)), hI.le⟩⟩
      · rintro L_ a wx ⟨v21, v22, v23, v24, v25, v26, v27, v28, v29, rfl, hI⟩ hL hdep hcl K hK
        obtain rfl := hI.t3 (hdep 3 (by decide))
        obtain rfl := hI.t7 (hdep 7 (by decide))
        have HC := HC3.out wx
        go_simp
        refine HC.mono ?_
        rintro e w' ⟨rfl, hb⟩
        exact hK _ _ ⟨v21, v22, v23, _, v25, v26, v27, _, _, rfl, ⟨hI.t0, hI.t1, hI.t2, hI.t3, hI.t4, hI.t5, hI.t6, hI.t7, fun _ => rfl, (hI.a2).kept hb, (hI.bw).trans (hb.mono (Nat.le_trans hI.le (hI.bw).size)), hI.le⟩⟩
      · rintro L_ a wx ⟨v21, v22, v23, v24, v25, v26, v27, v28, v29, rfl, hI⟩ hL hdep hcl K hK
        obtain rfl := hI.t8 (hdep 8 (by decide))
        obtain rfl := hI.t0 (hdep 0 (by decide))
        obtain rfl := hI.t1 (hdep 1 (by decide))
        obtain rfl := hI.t2 (hdep 2 (by decide))
        obtain rfl := hI.t3 (hdep 3 (by decide))
        obtain rfl := hI.t4 (hdep 4 (by decide))
        obtain rfl := hI.t5 (hdep 5 (by decide))
        obtain rfl := hI.t6 (hdep 6 (by decide))
        obtain rfl := hI.t7 (hdep 7 (by decide))
        have hA0 : Arr wx g 29 (bvs (Z8 32)) := by
          have := hI.a2
          rw [hL] at this
          exact this
        refine ow_store 29 _ _ rfl g 0 rfl (bvs (nodeH (rootF (L.take X)) (rootF (L.drop X)))) rfl 29 _ hA0 H32.out (by rw [L32.out]; exact (by decide : 0 + 32 ≤ (bvs (Z8 32)).length)) (bvs_one _) ?_
        intro w' hA' hg hs
        rw [whole_store _ _ (by rw [L32.out]; rfl)] at hA'
        exact hK _ _ ⟨_, _, _, _, _, _, _, _, _, rfl, ⟨hI.t0, hI.t1, hI.t2, hI.t3, hI.t4, hI.t5, hI.t6, hI.t7, hI.t8, hA', hI.bw.grown hg (Nat.le_trans hI.le hI.bw.size) (by intro k e; injection e with e; have := HG.out; omega), hI.le⟩⟩
      · rintro a wx ⟨v21, v22, v23, v24, v25, v26, v27, v28, v29, rfl, hI⟩
        have hS3 := hI.a2
        have hbw := hI.bw
        clear hI
        go_wp2
        refine end_cell rfl g 29 (bvs (nodeH (rootF (L.take X)) (rootF (L.drop X)))) (.array 32 5) rfl hS3 Try.underlying29 rfl H32.out rfl ⟨HROOT.out ▸ rfl, ?_⟩
        exact hB.trans hbw
end Go.Proofs.Ytlfncgpjgbpdjaa
