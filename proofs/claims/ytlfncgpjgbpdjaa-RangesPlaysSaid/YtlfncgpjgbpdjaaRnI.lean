/-
  Layer 9: the document's Root. Conditions: those in each statement.
-/
import Derived.Test.YtlfncgpjgbpdjaaRnH
namespace Go.Proofs.Ytlfncgpjgbpdjaa
open Go.RowKit

theorem fold_nil : foldP [] = rootF [] := rfl
set_option maxHeartbeats 1600000 in
theorem rRoot_zero {B : Nat} (p : Nat) (w : World) (h : IsW B w p 0 []) :
    Calls Try.prog 27 #[.pointer (some ⟨p, 0, none⟩)] w fun e w' => e = .returned (.agg (bvs (foldP [])).toArray) ∧ Below w.heap.size w w' := by
  rw [fold_nil]
  obtain ⟨v, hA, hO⟩ := h.ex
  have e0 : partsF 0 [] = [] := by unfold partsF pkZ; rw [lowP_zero]; rfl
  rw [e0] at hO
  obtain ⟨al, c, rfl, hr, -⟩ := hO.rd (by omega)
  have hlen := shaL_len []
  have h32 : Hid ((Try.prog.info? 29).map (·.size) = some (bvs (rootF [])).length) := by show _ = _; rw [bvs_len, rootF_nil, hlen]; exact sizeD
  have L32 : Hid ((bvs (rootF [])).length = 32) := by show _ = _; rw [bvs_len, rootF_nil, hlen]
  have hS : Hid (∀ w, Calls Try.prog 35 #[.slice none 0 0] w (fun e w' => e = .returned (.agg (bvs (rootF [])).toArray) ∧ Below w.heap.size w w')) := fun w => rRoot_any 0 [] (by simp) none 0 0 w (by omega) (rdd_nil w)
  have hc1 : Hid (∀ wx, Below w.heap.size w wx → wx.cell? ⟨p, 1, none⟩ = some (.slice al 0 c)) := fun wx hb => by simpa using (hA.kept hb).cell 1
  clear h hA hO e0 hr hlen
  generalize rootF [] = S at *
  go_enter Try.func27, Try.ntmps27
  go_wp2_with (first
    | ((with_reducible show wpList _ _ _ (⟨some 2, .alloc _, _, _, _, _⟩ :: _) _ _); refine wl_alloc rfl 29 rfl (bvs (Z8 32)) 32 infoD ?_; intro w1 hA1 hb1 hs1; have c1 := hc1.out w1 hb1)
    | (go_at_call 35; refine (hS.out _).mono ?_; rintro e w5 ⟨rfl, hb5⟩)
    | ((with_reducible show wpList _ _ _ (⟨none, .store _ _ _, _, _, _, _⟩ :: _) _ _); refine wl_store rfl 29 _ _ rfl w.heap.size 0 rfl (bvs S) rfl 29 _ (hA1.kept hb5) h32.out (by rw [L32.out]; exact (by decide : 0 + 32 ≤ (bvs (Z8 32)).length)) (bvs_one _) ?_; intro w15 hR15 hg15 hs15))
  rw [whole_store _ _ (by rw [L32.out]; rfl)] at hR15
  refine end_cell rfl w.heap.size 29 (bvs S) (.array 32 5) rfl hR15 Try.underlying29 rfl h32.out rfl ⟨rfl, ?_⟩
  have hb' := hb1.trans (hb5.mono (by omega))
  exact hb'.grown hg15 hb'.size (by intro k e; injection e with e; omega)
structure InvWRootA (X : List UInt8) (b off m c t p n g2 : Nat) (W0 : World) (L : Nat → Bool) (v12 v13 v14 v15 v16 v17 v18 v19 v20 v21 v22 v23 v24 v3 : Value) (wx : World) : Prop where
  t0 : L 0 = true → v12 = .pointer (some ⟨p, 0, none⟩)
  t1 : L 1 = true → v13 = .pointer (some ⟨p, 0, none⟩)
  t2 : L 2 = true → v14 = .pointer (some ⟨p, 1, none⟩)
  t3 : L 3 = true → v15 = .slice (some ⟨b, off, none⟩) m c
  t4 : L 4 = true → v16 = .pointer (some ⟨p, 0, none⟩)
  t5 : L 5 = true → v17 = .pointer (some ⟨p, 0, none⟩)
  t6 : L 6 = true → v18 = .pointer (some ⟨p, 1, none⟩)
  t7 : L 7 = true → v19 = .slice (some ⟨b, off, none⟩) m c
  t8 : L 8 = true → v20 = .int .i64 (m : Int)
  t9 : L 9 = true → v21 = .int .i64 (t : Int)
  t10 : L 10 = true → v22 = .pointer (some ⟨b, off + t * 33, none⟩)
  t11 : L 11 = true → v23 = .pointer (some ⟨b, off + t * 33 + 1, none⟩)
  t12 : L 12 = true → v24 = .agg (bvs X).toArray
  t13 : L 13 = true → ∃ g, v3 = .pointer (some ⟨g, 0, none⟩) ∧ Arr wx g 29 (if L 14 then bvs X else bvs (Z8 32)) ∧ W0.heap.size ≤ g
  a2 : Arr wx g2 29 (bvs (Z8 32))
  bw : Below W0.heap.size W0 wx
structure InvWRootB (X H Y : List UInt8) (b off m c t j p n g2 g3 : Nat) (u33 u34 u35 u36 u37 u38 u39 u40 u41 u42 u43 u44 : Value) (W0 : World) (L : Nat → Bool) (v35 v36 v37 v38 v39 v40 v41 v42 v43 v44 : Value) (wx : World) : Prop where
  t0 : L 0 = true → v35 = .pointer (some ⟨p, 0, none⟩)
  t1 : L 1 = true → v36 = .pointer (some ⟨p, 0, none⟩)
  t2 : L 2 = true → v37 = .pointer (some ⟨p, 1, none⟩)
  t3 : L 3 = true → v38 = .slice (some ⟨b, off, none⟩) m c
  t4 : L 4 = true → v39 = .int .i64 ↑j
  t5 : L 5 = true → v40 = .pointer (some ⟨b, off + j * 33, none⟩)
  t6 : L 6 = true → v41 = .pointer (some ⟨b, off + j * 33 + 1, none⟩)
  t7 : L 7 = true → v42 = .agg (bvs X).toArray
  t8 : L 8 = true → v43 = .agg (bvs H).toArray
  t9 : L 9 = true → v44 = .agg (bvs Y).toArray
  a2 : Arr wx g2 29 (bvs (Z8 32))
  a3 : Arr wx g3 29 (bvs (if L 10 then Y else H))
  kb : KB (fun k => k = g3) W0 wx
set_option maxRecDepth 100000 in
set_option maxHeartbeats 3200000 in
theorem rRoot_r {B : Nat} (p n : Nat) (P : List (List UInt8)) (w : World) (h : IsW B w p n P) (h0 : 0 < P.length) :
    Calls Try.prog 27 #[.pointer (some ⟨p, 0, none⟩)] w fun e w' => e = .returned (.agg (bvs (foldP P)).toArray) ∧ Below w.heap.size w w' := by
  have hfew := h.few
  have hcnt := h.cnt
  obtain ⟨v, hA, hO⟩ := h.ex
  obtain ⟨al, c, rfl, hr, -⟩ := hO.rd (by omega)
  have hlen := partsF_len hcnt
  rw [hlen] at hr hA
  have hall := h.all
  obtain ⟨t, ht⟩ : ∃ t, P.length = t + 1 := ⟨P.length - 1, by omega⟩
  obtain ⟨m, hm⟩ : ∃ m, m = P.length := ⟨_, rfl⟩
  rw [← hm] at hr hA hfew h0
  have HM := Lib.hid hm
  have HC := Lib.hid hcnt
  have hpw := hA.lt
  have hmt : m = t + 1 := by omega
  obtain ⟨b, off, rfl, hbl, -⟩ := hr.mem h0
  have hfl := foldP_len hall
  have HT : Hid ((m : Int) - 1 = (t : Int)) := by show _ = _; omega
  have HTW : Hid (IntKind.i64.wrap (t : Int) = (t : Int)) := by show _ = _; rw [IntKind.wrap_i64]; omega
  have HT2 : Hid ((m : Int) - 2 = (t : Int) - 1) := by show _ = _; omega
  have em : ¬ ((m : Int) = 0) := by omega
  have HMT := Lib.hid hmt
  clear hm h hcnt hO hlen ht
  have hHD : Hid (∀ wx, Below w.heap.size w wx → ∀ k, k < m → wx.rangeAt b (off + k * 33 + 1) (bvs (P.getD k []))) := fun wx hb k hk => by
    have h1 := (hr.to hb).head k (by rw [hr.len]; exact hk)
    rwa [partsF_get HC.out (by rw [← HM.out]; exact hk)] at h1
  have hPA : Hid (∀ wx, Below w.heap.size w wx → Arr wx p 54 [.int .u64 (n : Int), .slice (some ⟨b, off, none⟩) m c]) := fun wx hb => hA.kept hb
  have H32 : Hid (∀ k, k < m → (P.getD k []).length = 32) := fun k hk => hall k (by rw [← HM.out]; exact hk)
  have e0 : ((m : Int) == 0) = false := by simp only [beq_eq_false_iff_ne]; omega
  have hle := hr.le
  clear hA hr hall hmt
  go_enter Try.func27, Try.ntmps27
  go_upto_region 3 with ((with_reducible show wpList _ _ _ (⟨some 2, .alloc _, _, _, _, _⟩ :: _) _ _); refine wl_alloc rfl 29 rfl (bvs (Z8 32)) 32 infoD ?_; intro w1 hA1 hb1 hs1; have c1 : w1.cell? ⟨p, 1, none⟩ = some (.slice (some ⟨b, off, none⟩) m c) := (by simpa using (hPA.out w1 hb1).cell 1))
  obtain ⟨g2, hg2⟩ : ∃ g, g = w.heap.size := ⟨_, rfl⟩
  rw [← hg2] at hA1 hs1 ⊢
  have HG2 := Lib.hid hg2
  clear hg2 c1
  have htm : t < m := by have := HMT.out; omega
  have IX : Hid ((Try.prog.info? 29).map (·.size) = some (bvs (P.getD t [])).length) := by show _ = _; rw [bvs_len, H32.out t htm]; exact sizeD
  have LX : Hid ((bvs (P.getD t [])).length = 32) := by show _ = _; rw [bvs_len, H32.out t htm]
  have i1 : (0 : Int) ≤ (t : Int) := by omega
  have i2 : (t : Int) < (m : Int) := by omega
  refine wp_region_steps [[], [0], [1], [2], [], [4], [5], [6], [7], [8], [3, 9], [10], [11], [], [13, 12]] (by kernel_rfl) (by kernel_rfl) (fun L a wx => ∃ v12 v13 v14 v15 v16 v17 v18 v19 v20 v21 v22 v23 v24 v3, a = ⟨#[.pointer (some ⟨p, 0, none⟩), undef, .pointer (some ⟨g2, 0, none⟩), v3, undef, .pointer (some ⟨p, 0, none⟩), .pointer (some ⟨p, 0, none⟩), .pointer (some ⟨p, 1, none⟩), .slice (some ⟨b, off, none⟩) m c, .int .i64 ↑m, .bool false, undef, v12, v13, v14, v15, v16, v17, v18, v19, v20, v21, v22, v23, v24, undef, undef, undef, undef, undef, undef, undef, undef, undef, undef, undef, undef, undef, undef, undef, undef, undef, undef, undef, undef, undef], []⟩ ∧ InvWRootA (P.getD t []) b off m c t p n g2 w1 L v12 v13 v14 v15 v16 v17 v18 v19 v20 v21 v22 v23 v24 v3 wx) ?_ ⟨?_, ?_, ?_, ?_, ?_, ?_, ?_, ?_, ?_, ?_, ?_, ?_, ?_, ?_, ?_, trivial⟩ ?_
  · refine ⟨_, _, _, _, _, _, _, _, _, _, _, _, _, _, rfl, ⟨?_, ?_, ?_, ?_, ?_, ?_, ?_, ?_, ?_, ?_, ?_, ?_, ?_, ?_, hA1.drew, (Below.refl _ _).drew⟩⟩ <;> (intro h; exact absurd h (by decide))
  · rintro L a wx ⟨v12, v13, v14, v15, v16, v17, v18, v19, v20, v21, v22, v23, v24, v3, rfl, hI⟩ hL hdep hcl K hK
    go_simp
    exact hK _ _ ⟨_, v13, v14, v15, v16, v17, v18, v19, v20, v21, v22, v23, v24, v3, rfl, ⟨fun _ => rfl, hI.t1, hI.t2, hI.t3, hI.t4, hI.t5, hI.t6, hI.t7, hI.t8, hI.t9, hI.t10, hI.t11, hI.t12, hI.t13, hI.a2, hI.bw⟩⟩
  · rintro L a wx ⟨v12, v13, v14, v15, v16, v17, v18, v19, v20, v21, v22, v23, v24, v3, rfl, hI⟩ hL hdep hcl K hK
    obtain rfl := hI.t0 (hdep 0 (by decide))
    go_simp
    exact hK _ _ ⟨_, _, v14, v15, v16, v17, v18, v19, v20, v21, v22, v23, v24, v3, rfl, ⟨hI.t0, fun _ => rfl, hI.t2, hI.t3, hI.t4, hI.t5, hI.t6, hI.t7, hI.t8, hI.t9, hI.t10, hI.t11, hI.t12, hI.t13, hI.a2, hI.bw⟩⟩
  · rintro L a wx ⟨v12, v13, v14, v15, v16, v17, v18, v19, v20, v21, v22, v23, v24, v3, rfl, hI⟩ hL hdep hcl K hK
    obtain rfl := hI.t1 (hdep 1 (by decide))
    go_simp
    exact hK _ _ ⟨v12, _, _, v15, v16, v17, v18, v19, v20, v21, v22, v23, v24, v3, rfl, ⟨hI.t0, hI.t1, fun _ => rfl, hI.t3, hI.t4, hI.t5, hI.t6, hI.t7, hI.t8, hI.t9, hI.t10, hI.t11, hI.t12, hI.t13, hI.a2, hI.bw⟩⟩
  · rintro L a wx ⟨v12, v13, v14, v15, v16, v17, v18, v19, v20, v21, v22, v23, v24, v3, rfl, hI⟩ hL hdep hcl K hK
    obtain rfl := hI.t2 (hdep 2 (by decide))
    have c1 := (hPA.out wx (hb1.trans (hI.bw.mono hb1.size))).cell 1
    simp only [List.getElem?_cons_succ, List.getElem?_cons_zero] at c1
    go_simp
    exact hK _ _ ⟨v12, v13, _, _, v16, v17, v18, v19, v20, v21, v22, v23, v24, v3, rfl, ⟨hI.t0, hI.t1, hI.t2, fun _ => rfl, hI.t4, hI.t5, hI.t6, hI.t7, hI.t8, hI.t9, hI.t10, hI.t11, hI.t12, hI.t13, hI.a2, hI.bw⟩⟩
  · rintro L a wx ⟨v12, v13, v14, v15, v16, v17, v18, v19, v20, v21, v22, v23, v24, v3, rfl, hI⟩ hL hdep hcl K hK
    go_simp
    exact hK _ _ ⟨v12, v13, v14, v15, _, v17, v18, v19, v20, v21, v22, v23, v24, v3, rfl, ⟨hI.t0, hI.t1, hI.t2, hI.t3, fun _ => rfl, hI.t5, hI.t6, hI.t7, hI.t8, hI.t9, hI.t10, hI.t11, hI.t12, hI.t13, hI.a2, hI.bw⟩⟩
  · rintro L a wx ⟨v12, v13, v14, v15, v16, v17, v18, v19, v20, v21, v22, v23, v24, v3, rfl, hI⟩ hL hdep hcl K hK
    obtain rfl := hI.t4 (hdep 4 (by decide))
    go_simp
    exact hK _ _ ⟨v12, v13, v14, v15, _, _, v18, v19, v20, v21, v22, v23, v24, v3, rfl, ⟨hI.t0, hI.t1, hI.t2, hI.t3, hI.t4, fun _ => rfl, hI.t6, hI.t7, hI.t8, hI.t9, hI.t10, hI.t11, hI.t12, hI.t13, hI.a2, hI.bw⟩⟩
  · rintro L a wx ⟨v12, v13, v14, v15, v16, v17, v18, v19, v20, v21, v22, v23, v24, v3, rfl, hI⟩ hL hdep hcl K hK
    obtain rfl := hI.t5 (hdep 5 (by decide))
    go_simp
    exact hK _ _ ⟨v12, v13, v14, v15, v16, _, _, v19, v20, v21, v22, v23, v24, v3, rfl, ⟨hI.t0, hI.t1, hI.t2, hI.t3, hI.t4, hI.t5, fun _ => rfl, hI.t7, hI.t8, hI.t9, hI.t10, hI.t11, hI.t12, hI.t13, hI.a2, hI.bw⟩⟩
  · rintro L a wx ⟨v12, v13, v14, v15, v16, v17, v18, v19, v20, v21, v22, v23, v24, v3, rfl, hI⟩ hL hdep hcl K hK
    obtain rfl := hI.t6 (hdep 6 (by decide))
    have c1 := (hPA.out wx (hb1.trans (hI.bw.mono hb1.size))).cell 1
    simp only [List.getElem?_cons_succ, List.getElem?_cons_zero] at c1
    go_simp
    exact hK _ _ ⟨v12, v13, v14, v15, v16, v17, _, _, v20, v21, v22, v23, v24, v3, rfl, ⟨hI.t0, hI.t1, hI.t2, hI.t3, hI.t4, hI.t5, hI.t6, fun _ => rfl, hI.t8, hI.t9, hI.t10, hI.t11, hI.t12, hI.t13, hI.a2, hI.bw⟩⟩
  · rintro L a wx ⟨v12, v13, v14, v15, v16, v17, v18, v19, v20, v21, v22, v23, v24, v3, rfl, hI⟩ hL hdep hcl K hK
    obtain rfl := hI.t7 (hdep 7 (by decide))
    go_simp
    exact hK _ _ ⟨v12, v13, v14, v15, v16, v17, v18, _, _, v21, v22, v23, v24, v3, rfl, ⟨hI.t0, hI.t1, hI.t2, hI.t3, hI.t4, hI.t5, hI.t6, hI.t7, fun _ => rfl, hI.t9, hI.t10, hI.t11, hI.t12, hI.t13, hI.a2, hI.bw⟩⟩
  · rintro L a wx ⟨v12, v13, v14, v15, v16, v17, v18, v19, v20, v21, v22, v23, v24, v3, rfl, hI⟩ hL hdep hcl K hK
    obtain rfl := hI.t8 (hdep 8 (by decide))
    go_simp
    rw [HT.out, HTW.out]
    exact hK _ _ ⟨v12, v13, v14, v15, v16, v17, v18, v19, _, _, v22, v23, v24, v3, rfl, ⟨hI.t0, hI.t1, hI.t2, hI.t3, hI.t4, hI.t5, hI.t6, hI.t7, hI.t8, fun _ => rfl, hI.t10, hI.t11, hI.t12, hI.t13, hI.a2, hI.bw⟩⟩
  · rintro L a wx ⟨v12, v13, v14, v15, v16, v17, v18, v19, v20, v21, v22, v23, v24, v3, rfl, hI⟩ hL hdep hcl K hK
    obtain rfl := hI.t3 (hdep 3 (by decide))
    obtain rfl := hI.t9 (hdep 9 (by decide))
    go_simp
    exact hK _ _ ⟨v12, v13, v14, _, v16, v17, v18, v19, v20, _, _, v23, v24, v3, rfl, ⟨hI.t0, hI.t1, hI.t2, hI.t3, hI.t4, hI.t5, hI.t6, hI.t7, hI.t8, hI.t9, fun _ => rfl, hI.t11, hI.t12, hI.t13, hI.a2, hI.bw⟩⟩
  · rintro L a wx ⟨v12, v13, v14, v15, v16, v17, v18, v19, v20, v21, v22, v23, v24, v3, rfl, hI⟩ hL hdep hcl K hK
    obtain rfl := hI.t10 (hdep 10 (by decide))
    go_simp
    exact hK _ _ ⟨v12, v13, v14, v15, v16, v17, v18, v19, v20, v21, _, _, v24, v3, rfl, ⟨hI.t0, hI.t1, hI.t2, hI.t3, hI.t4, hI.t5, hI.t6, hI.t7, hI.t8, hI.t9, hI.t10, fun _ => rfl, hI.t12, hI.t13, hI.a2, hI.bw⟩⟩
  · rintro L a wx ⟨v12, v13, v14, v15, v16, v17, v18, v19, v20, v21, v22, v23, v24, v3, rfl, hI⟩ hL hdep hcl K hK
    obtain rfl := hI.t11 (hdep 11 (by decide))
    refine wp_load_mid 29 _ rfl b (off + t * 33 + 1) rfl (bvs (P.getD t [])) (.array 32 5) (hHD.out wx (hb1.trans (hI.bw.mono hb1.size)) t htm) Try.underlying29 rfl IX.out ?_
    exact hK _ _ ⟨v12, v13, v14, v15, v16, v17, v18, v19, v20, v21, v22, _, _, v3, rfl, ⟨hI.t0, hI.t1, hI.t2, hI.t3, hI.t4, hI.t5, hI.t6, hI.t7, hI.t8, hI.t9, hI.t10, hI.t11, fun _ => rfl, hI.t13, hI.a2, hI.bw⟩⟩
  · rintro L a wx ⟨v12, v13, v14, v15, v16, v17, v18, v19, v20, v21, v22, v23, v24, v3, rfl, hI⟩ hL hdep hcl K hK
    have h14 : L 14 = false := by
      cases h6 : L 14 with
      | true =>
        have h4 := hcl 14 (by decide) h6 13 (by decide)
        rw [hL] at h4
        cases h4
      | false => rfl
    refine ow_alloc 29 rfl (bvs (Z8 32)) 32 infoD ?_
    intro w' hN hb hs
    exact hK _ _ ⟨v12, v13, v14, v15, v16, v17, v18, v19, v20, v21, v22, v23, v24, _, rfl, ⟨hI.t0, hI.t1, hI.t2, hI.t3, hI.t4, hI.t5, hI.t6, hI.t7, hI.t8, hI.t9, hI.t10, hI.t11, hI.t12, fun _ => ⟨_, rfl, by show Arr _ _ _ (if L 14 then _ else _); rw [h14]; exact hN, hI.bw.size⟩, (hI.a2).kept hb, (hI.bw).trans (hb.mono (hI.bw).size)⟩⟩
  · rintro L a wx ⟨v12, v13, v14, v15, v16, v17, v18, v19, v20, v21, v22, v23, v24, v3, rfl, hI⟩ hL hdep hcl K hK
    obtain rfl := hI.t12 (hdep 12 (by decide))
    obtain ⟨g, rfl, hN, hg⟩ := hI.t13 (hdep 13 (by decide))
    rw [hL] at hN
    refine ow_store 29 _ _ rfl g 0 rfl (bvs (P.getD t [])) rfl 29 _ hN IX.out (by rw [LX.out]; exact (by decide : 0 + 32 ≤ (bvs (Z8 32)).length)) (bvs_one _) ?_
    intro w' hN' hg' hs
    rw [whole_store _ _ (by rw [LX.out]; rfl)] at hN'
    exact hK _ _ ⟨v12, v13, v14, v15, v16, v17, v18, v19, v20, v21, v22, v23, _, _, rfl, ⟨hI.t0, hI.t1, hI.t2, hI.t3, hI.t4, hI.t5, hI.t6, hI.t7, hI.t8, hI.t9, hI.t10, hI.t11, hI.t12, fun _ => ⟨_, rfl, hN', hg⟩, hI.a2.grown hg' (by intro e; injection e with e; omega), hI.bw.grown hg' hI.bw.size (by intro k e; injection e with e; omega)⟩⟩
  · rintro a wx ⟨v12, v13, v14, v15, v16, v17, v18, v19, v20, v21, v22, v23, v24, v3, rfl, hI⟩
    obtain ⟨g3, e3, hA3, hg3⟩ := hI.t13 rfl
    have hA2 := hI.a2
    have hbw := hI.bw
    have y0 := hI.t0 rfl
    have y1 := hI.t1 rfl
    have y2 := hI.t2 rfl
    have y3 := hI.t3 rfl
    have y4 := hI.t4 rfl
    have y5 := hI.t5 rfl
    have y6 := hI.t6 rfl
    have y7 := hI.t7 rfl
    have y8 := hI.t8 rfl
    have y9 := hI.t9 rfl
    have y10 := hI.t10 rfl
    have y11 := hI.t11 rfl
    have y12 := hI.t12 rfl
    clear hI
    subst e3 y0 y1 y2 y3 y4 y5 y6 y7 y8 y9 y10 y11 y12
    rw [if_pos rfl] at hA3
    have hB3 : Below w.heap.size w wx := hb1.trans (hbw.mono hb1.size)
    have c1 : wx.cell? ⟨p, 1, none⟩ = some (.slice (some ⟨b, off, none⟩) m c) := by simpa using (hPA.out wx hB3).cell 1
    have h23 : g2 < g3 := by omega
    clear hbw
    go_wp2_with fail
    go_loopw [4] (fun i wr => ∃ k : Nat, k ≤ t ∧ i = .int .i64 ((k : Int) - 1) ∧ Arr wr g3 29 (bvs (foldP (P.drop k))) ∧ Arr wr g2 29 (bvs (Z8 32)) ∧ Below w.heap.size w wr) (fun i _ => (intOf i + 1).toNat)
    case atStart =>
      refine ⟨t, Nat.le_refl _, by rw [HT2.out], ?_, hA2, hB3⟩
      have e := foldP_last P (by rw [← HM.out]; omega)
      rw [← HM.out, HMT.out, Nat.add_sub_cancel] at e
      rw [e]
      exact hA3
    case round =>
      clear hA3 hA2 hB3 c1
      obtain ⟨k, hk, rfl, hA3, hA2, hB⟩ := hrel
      have hBs := hB.size
      have hdl : (foldP (P.drop k)).length = 32 := foldP_len (All32.of fun x hx => by
        obtain ⟨j, hj, e⟩ := List.getElem_of_mem hx
        have := H32.out (k + j) (by have := HM.out; rw [List.length_drop] at hj; omega)
        rw [List.getElem_drop] at e
        rw [← e]
        simpa [List.getD, show k + j < P.length by rw [List.length_drop] at hj; omega] using this)
      obtain ⟨H, hH⟩ : ∃ H, H = foldP (P.drop k) := ⟨_, rfl⟩
      rw [← hH] at hA3 hdl
      have IH : Hid ((Try.prog.info? 29).map (·.size) = some (bvs H).length) := by show _ = _; rw [bvs_len, hdl]; exact sizeD
      have LH : Hid ((bvs H).length = 32) := by show _ = _; rw [bvs_len, hdl]
      have HH := Lib.hid hH
      have c1 : wr.cell? ⟨p, 1, none⟩ = some (.slice (some ⟨b, off, none⟩) m c) := by simpa using (hPA.out wr hB).cell 1
      by_cases hlt : 0 < k
      · obtain ⟨j, rfl⟩ : ∃ j, k = j + 1 := ⟨k - 1, by omega⟩
        have ej : ((j + 1 : Nat) : Int) - 1 = (j : Int) := by omega
        rw [ej]
        have hjm : j < m := by have := HMT.out; omega
        have hx32 := H32.out j hjm
        have hnd : nodeH (P.getD j []) H = foldP (P.drop j) := by
          have := foldP_drop P (j + 1) (by omega) (by rw [← HM.out, HMT.out]; omega)
          rw [Nat.add_sub_cancel, ← HH.out] at this
          exact this.symm
        have HND := Lib.hid (fun wx => rNode_any (P.getD j []) H wx hx32 hdl)
        rw [hnd] at HND
        have hnl : (foldP (P.drop j)).length = 32 := by rw [← hnd]; exact shaL_len _
        obtain ⟨Y, hY⟩ : ∃ Y, Y = foldP (P.drop j) := ⟨_, rfl⟩
        rw [← hY] at HND hnl
        have IY : Hid ((Try.prog.info? 29).map (·.size) = some (bvs Y).length) := by show _ = _; rw [bvs_len, hnl]; exact sizeD
        have LY : Hid ((bvs Y).length = 32) := by show _ = _; rw [bvs_len, hnl]
        have HY := Lib.hid hY
        have hXr : Hid (∀ wx, Below wr.heap.size wr wx → wx.rangeAt b (off + j * 33 + 1) (bvs (P.getD j []))) := fun wx hb => hHD.out wx (hB.trans (hb.mono hBs)) j hjm
        obtain ⟨X, hX⟩ : ∃ X, X = P.getD j [] := ⟨_, rfl⟩
        rw [← hX] at hx32 HND hXr
        have IXj : Hid ((Try.prog.info? 29).map (·.size) = some (bvs X).length) := by show _ = _; rw [bvs_len, hx32]; exact sizeD
        have g1 : (0 : Int) ≤ (j : Int) := by omega
        have g2' : (j : Int) < (m : Int) := by omega
        have HB := Lib.hid hB
        have HJ := Lib.hid hk
        clear hX hY hnl hnd hx32 hH hdl hk c1 hlt
        go_upto_region 7 with fail
        have hXr2 : Hid (∀ wx, KB (fun k => k = g3) wr wx → wx.rangeAt b (off + j * 33 + 1) (bvs X)) := fun wx hkb i v hv => (hkb.cell (p := ⟨b, off + j * 33 + 1 + i, none⟩) (by show b < _; omega) (by show ¬ (b = g3); have := HG2.out; omega)).trans (hXr.out wr (Below.refl _ _) i v hv)
        refine wp_region_steps [[], [0], [1], [2], [], [3, 4], [5], [6], [], [7, 8], [9, 0, 1, 2, 3, 4, 5, 6, 7, 8]] (by kernel_rfl) (by kernel_rfl) (fun L a wx => ∃ v35 v36 v37 v38 v39 v40 v41 v42 v43 v44, a = ⟨#[.pointer (some ⟨p, 0, none⟩), undef, .pointer (some ⟨g2, 0, none⟩), .pointer (some ⟨g3, 0, none⟩), .int .i64 ↑j, .pointer (some ⟨p, 0, none⟩), .pointer (some ⟨p, 0, none⟩), .pointer (some ⟨p, 1, none⟩), .slice (some ⟨b, off, none⟩) m c, .int .i64 ↑m, .bool false, undef, .pointer (some ⟨p, 0, none⟩), .pointer (some ⟨p, 0, none⟩), .pointer (some ⟨p, 1, none⟩), .slice (some ⟨b, off, none⟩) m c, .pointer (some ⟨p, 0, none⟩), .pointer (some ⟨p, 0, none⟩), .pointer (some ⟨p, 1, none⟩), .slice (some ⟨b, off, none⟩) m c, .int .i64 ↑m, .int .i64 ↑t, .pointer (some ⟨b, off + t * 33, none⟩), .pointer (some ⟨b, off + t * 33 + 1, none⟩), .agg (bvs (P.getD t [])).toArray, .pointer (some ⟨p, 0, none⟩), .pointer (some ⟨p, 0, none⟩), .pointer (some ⟨p, 1, none⟩), .slice (some ⟨b, off, none⟩) m c, .int .i64 ↑m, .int .i64 (↑m - 2), .int .i64 ↑j, .bool true, u33, u34, v35, v36, v37, v38, v39, v40, v41, v42, v43, v44, undef], []⟩ ∧ InvWRootB X H Y b off m c t j p n g2 g3 u33 u34 u35 u36 u37 u38 u39 u40 u41 u42 u43 u44 wr L v35 v36 v37 v38 v39 v40 v41 v42 v43 v44 wx) ?_ ⟨?_, ?_, ?_, ?_, ?_, ?_, ?_, ?_, ?_, ?_, ?_, trivial⟩ ?_
        · refine ⟨_, _, _, _, _, _, _, _, _, _, rfl, ⟨?_, ?_, ?_, ?_, ?_, ?_, ?_, ?_, ?_, ?_, hA2.drew, hA3.drew, (KB.refl _ _).drew⟩⟩ <;> (intro h; exact absurd h (by decide))
        · rintro L a wx ⟨v35, v36, v37, v38, v39, v40, v41, v42, v43, v44, rfl, hI⟩ hL hdep hcl K hK
          go_simp
          exact hK _ _ ⟨_, v36, v37, v38, v39, v40, v41, v42, v43, v44, rfl, ⟨fun _ => rfl, hI.t1, hI.t2, hI.t3, hI.t4, hI.t5, hI.t6, hI.t7, hI.t8, hI.t9, hI.a2, hI.a3, hI.kb⟩⟩
        · rintro L a wx ⟨v35, v36, v37, v38, v39, v40, v41, v42, v43, v44, rfl, hI⟩ hL hdep hcl K hK
          obtain rfl := hI.t0 (hdep 0 (by decide))
          go_simp
          exact hK _ _ ⟨_, _, v37, v38, v39, v40, v41, v42, v43, v44, rfl, ⟨hI.t0, fun _ => rfl, hI.t2, hI.t3, hI.t4, hI.t5, hI.t6, hI.t7, hI.t8, hI.t9, hI.a2, hI.a3, hI.kb⟩⟩
        · rintro L a wx ⟨v35, v36, v37, v38, v39, v40, v41, v42, v43, v44, rfl, hI⟩ hL hdep hcl K hK
          obtain rfl := hI.t1 (hdep 1 (by decide))
          go_simp
          exact hK _ _ ⟨v35, _, _, v38, v39, v40, v41, v42, v43, v44, rfl, ⟨hI.t0, hI.t1, fun _ => rfl, hI.t3, hI.t4, hI.t5, hI.t6, hI.t7, hI.t8, hI.t9, hI.a2, hI.a3, hI.kb⟩⟩
        · rintro L a wx ⟨v35, v36, v37, v38, v39, v40, v41, v42, v43, v44, rfl, hI⟩ hL hdep hcl K hK
          obtain rfl := hI.t2 (hdep 2 (by decide))
          have c1 : wx.cell? ⟨p, 1, none⟩ = some (.slice (some ⟨b, off, none⟩) m c) := by simpa using (hPA.out wx (HB.out.trans (hI.kb.under (fun k e => by have := HG2.out; omega) hBs))).cell 1
          go_simp
          exact hK _ _ ⟨v35, v36, _, _, v39, v40, v41, v42, v43, v44, rfl, ⟨hI.t0, hI.t1, hI.t2, fun _ => rfl, hI.t4, hI.t5, hI.t6, hI.t7, hI.t8, hI.t9, hI.a2, hI.a3, hI.kb⟩⟩
        · rintro L a wx ⟨v35, v36, v37, v38, v39, v40, v41, v42, v43, v44, rfl, hI⟩ hL hdep hcl K hK
          go_simp
          exact hK _ _ ⟨v35, v36, v37, v38, _, v40, v41, v42, v43, v44, rfl, ⟨hI.t0, hI.t1, hI.t2, hI.t3, fun _ => rfl, hI.t5, hI.t6, hI.t7, hI.t8, hI.t9, hI.a2, hI.a3, hI.kb⟩⟩
        · rintro L a wx ⟨v35, v36, v37, v38, v39, v40, v41, v42, v43, v44, rfl, hI⟩ hL hdep hcl K hK
          obtain rfl := hI.t3 (hdep 3 (by decide))
          obtain rfl := hI.t4 (hdep 4 (by decide))
          go_simp
          exact hK _ _ ⟨v35, v36, v37, _, _, _, v41, v42, v43, v44, rfl, ⟨hI.t0, hI.t1, hI.t2, hI.t3, hI.t4, fun _ => rfl, hI.t6, hI.t7, hI.t8, hI.t9, hI.a2, hI.a3, hI.kb⟩⟩
        · rintro L a wx ⟨v35, v36, v37, v38, v39, v40, v41, v42, v43, v44, rfl, hI⟩ hL hdep hcl K hK
          obtain rfl := hI.t5 (hdep 5 (by decide))
          go_simp
          exact hK _ _ ⟨v35, v36, v37, v38, v39, _, _, v42, v43, v44, rfl, ⟨hI.t0, hI.t1, hI.t2, hI.t3, hI.t4, hI.t5, fun _ => rfl, hI.t7, hI.t8, hI.t9, hI.a2, hI.a3, hI.kb⟩⟩
        · rintro L a wx ⟨v35, v36, v37, v38, v39, v40, v41, v42, v43, v44, rfl, hI⟩ hL hdep hcl K hK
          obtain rfl := hI.t6 (hdep 6 (by decide))
          refine wp_load_mid 29 _ rfl b (off + j * 33 + 1) rfl (bvs X) (.array 32 5) (hXr2.out wx hI.kb) Try.underlying29 rfl IXj.out ?_
          exact hK _ _ ⟨v35, v36, v37, v38, v39, v40, _, _, v43, v44, rfl, ⟨hI.t0, hI.t1, hI.t2, hI.t3, hI.t4, hI.t5, hI.t6, fun _ => rfl, hI.t8, hI.t9, hI.a2, hI.a3, hI.kb⟩⟩
        · rintro L a wx ⟨v35, v36, v37, v38, v39, v40, v41, v42, v43, v44, rfl, hI⟩ hL hdep hcl K hK
          have hA3' : Arr wx g3 29 (bvs H) := by
            have h7 := hI.a3
            cases h6 : L 10 with
            | true =>
              have h4 := hcl 10 (by decide) h6 8 (by decide)
              rw [hL] at h4
              cases h4
            | false =>
              rw [h6] at h7
              exact h7
          refine ow_load 29 _ rfl g3 0 rfl 29 (bvs H) (bvs H) hA3' (fun j v h => by rw [Nat.zero_add]; exact h) (.array 32 5) Try.underlying29 rfl IH.out ?_
          exact hK _ _ ⟨v35, v36, v37, v38, v39, v40, v41, v42, _, v44, rfl, ⟨hI.t0, hI.t1, hI.t2, hI.t3, hI.t4, hI.t5, hI.t6, hI.t7, fun _ => rfl, hI.t9, hI.a2, hI.a3, hI.kb⟩⟩
        · rintro L a wx ⟨v35, v36, v37, v38, v39, v40, v41, v42, v43, v44, rfl, hI⟩ hL hdep hcl K hK
          obtain rfl := hI.t7 (hdep 7 (by decide))
          obtain rfl := hI.t8 (hdep 8 (by decide))
          have HC := HND.out wx
          go_simp
          refine HC.mono ?_
          rintro e w' ⟨rfl, hb⟩
          exact hK _ _ ⟨v35, v36, v37, v38, v39, v40, v41, _, _, _, rfl, ⟨hI.t0, hI.t1, hI.t2, hI.t3, hI.t4, hI.t5, hI.t6, hI.t7, hI.t8, fun _ => rfl, (hI.a2).kept hb, (hI.a3).kept hb, (hI.kb).below hb⟩⟩
        · rintro L a wx ⟨v35, v36, v37, v38, v39, v40, v41, v42, v43, v44, rfl, hI⟩ hL hdep hcl K hK
          obtain rfl := hI.t9 (hdep 9 (by decide))
          obtain rfl := hI.t0 (hdep 0 (by decide))
          obtain rfl := hI.t1 (hdep 1 (by decide))
          obtain rfl := hI.t2 (hdep 2 (by decide))
          obtain rfl := hI.t3 (hdep 3 (by decide))
          obtain rfl := hI.t4 (hdep 4 (by decide))
          obtain rfl := hI.t5 (hdep 5 (by decide))
          obtain rfl := hI.t6 (hdep 6 (by decide))
          obtain rfl := hI.t7 (hdep 7 (by decide))
          obtain rfl := hI.t8 (hdep 8 (by decide))
          have hA3' : Arr wx g3 29 (bvs H) := by
            have h7 := hI.a3
            rw [hL] at h7
            exact h7
          refine ow_store 29 _ _ rfl g3 0 rfl (bvs Y) rfl 29 _ hA3' IY.out (by rw [LY.out, LH.out]; decide) (bvs_one _) ?_
          intro w' hN' hg' hs
          rw [whole_store _ _ (LH.out.trans LY.out.symm)] at hN'
          exact hK _ _ ⟨_, _, _, _, _, _, _, _, _, _, rfl, ⟨hI.t0, hI.t1, hI.t2, hI.t3, hI.t4, hI.t5, hI.t6, hI.t7, hI.t8, hI.t9, hI.a2.grown hg' (by intro e; injection e with e; omega), hN', hI.kb.grown hg' rfl⟩⟩
        · rintro a wx ⟨v35, v36, v37, v38, v39, v40, v41, v42, v43, v44, rfl, hI⟩
          have hA3' : Arr wx g3 29 (bvs Y) := hI.a3
          have hA2' := hI.a2
          have hbw := hI.kb
          clear hI
          go_wp2_with fail
          go_roundw
          case rel => exact ⟨j, by have := HJ.out; omega, rfl, by rw [← HY.out]; exact hA3', hA2', HB.out.trans (hbw.under (fun k e => by have := HG2.out; omega) hBs)⟩
          case measure => simp [intOf]
      · obtain rfl : k = 0 := by omega
        have e1 : ((0 : Nat) : Int) - 1 = -1 := by omega
        rw [e1]
        clear hH hdl
        go_wp2_with (first
          | ((with_reducible show wpList _ _ _ (⟨some 45, .load _ _, _, _, _, _⟩ :: _) _ _); refine wl_load rfl 29 _ rfl g3 0 rfl 29 (bvs H) (bvs H) hA3 (fun j v h => (by rw [Nat.zero_add]; exact h)) (.array 32 5) Try.underlying29 rfl IH.out ?_)
          | ((with_reducible show wpList _ _ _ (⟨none, .store _ _ _, _, _, _, _⟩ :: _) _ _); refine wl_store rfl 29 _ _ rfl g2 0 rfl (bvs H) rfl 29 _ hA2 IH.out (by rw [LH.out]; exact (by decide : 0 + 32 ≤ (bvs (Z8 32)).length)) (bvs_one _) ?_; intro w15 hR15 hg15 hs15))
        rw [whole_store _ _ (by rw [LH.out]; rfl)] at hR15
        refine end_cell rfl g2 29 (bvs H) (.array 32 5) rfl hR15 Try.underlying29 rfl IH.out rfl ⟨by rw [HH.out, List.drop_zero], ?_⟩
        exact hB.grown hg15 hBs (by intro k e; injection e with e; have := HG2.out; omega)
end Go.Proofs.Ytlfncgpjgbpdjaa
