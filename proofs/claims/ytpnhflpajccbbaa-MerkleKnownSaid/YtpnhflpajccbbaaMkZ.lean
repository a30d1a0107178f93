/-
  Layer 8: MerkleRoots as a call. Conditions: those in each statement.
-/
import Derived.Test.YtpnhflpajccbbaaMkX
import Derived.Test.YtpnhflpajccbbaaMkY
namespace Go.Proofs.Ytpnhflpajccbbaa
open Go.RowKit

theorem levs_len (L : List (List UInt8)) (i : Nat) : (levs L i).length = i := by simp [levs]
theorem levs_get (L : List (List UInt8)) (i j : Nat) (h : j < i) : (levs L i).getD j [] = chunks L j := by simp [levs, List.getD, h]
theorem pow_one {n i k : Nat} (h1 : n < 2 ^ i) (h2 : ∀ j, j < i → 2 ^ j ≤ n) (h3 : n < 2 ^ k) (h4 : ∀ j, j < k → 2 ^ j ≤ n) : i = k := by
  rcases Nat.lt_trichotomy i k with h | h | h
  · have := h4 i h; omega
  · exact h
  · have := h2 k h; omega

structure InvRoots (ba bb ca cb h j G li ci di : Nat) (qb : Option Addr) (u6 u15 u60 u61 u62 u63 u64 u65 u66 u67 u68 u69 u70 u71 u72 u73 u74 u75 u76 u77 u78 u79 u80 u81 u82 u83 u84 u85 u86 u87 u88 u89 u90 u91 : Value) (wb : World) (L : Nat → Bool) (v62 v63 v64 v65 v66 v67 v68 v69 v70 v71 : Value) (wx : World) : Prop where
  t0 : L 0 = true → v62 = .slice (some ⟨ba, 0, none⟩) h ca
  t1 : L 1 = true → v63 = .int .i64 (j : Int)
  t2 : L 2 = true → v64 = .pointer (some ⟨ba, j, none⟩)
  t3 : L 3 = true → v65 = .slice (some ⟨G, 0, none⟩) li ci
  t4 : L 4 = true → v66 = .slice (some ⟨bb, 0, none⟩) h cb
  t5 : L 5 = true → v67 = .int .i64 (j : Int)
  t6 : L 6 = true → v68 = .pointer (some ⟨bb, j, none⟩)
  t7 : L 7 = true → v69 = .slice qb li di
  t8 : L 8 = true → v70 = .bool true
  t9 : L 9 = true → v71 = .bool false
  bw : Below wb.heap.size wb wx


set_option maxRecDepth 100000 in
set_option maxHeartbeats 1600000 in
theorem Roots_any (L : List (List UInt8)) (al : Option Addr) (n c : Nat) (f t : Int) (w : World) (hn : n ≤ 2 ^ 42) (hr : RdD w al n c L) :
    Calls Try.prog 3 #[.slice al n c, .int .i64 f, .int .i64 t] w fun e w' => e = .returned (.bool true) ∧ Below w.heap.size w w' := by
  have hl := hr.len
  have own' := own_any L al n c w hn hr
  go_enter Try.func3, Try.ntmps3
  go_upto_region 2 with (go_at_call 8; refine own'.mono ?_; rintro _ w1 ⟨mv, rfl, ho1, hb1⟩)
  clear own'
  have hmb : ∀ g, mv.ownBlock = some g → g < w1.heap.size := fun g e => (World.ownsRow.lt ho1.row g e).2
  obtain ⟨am, cm, rfl, hm1⟩ := ho1.rd
  rw [hl] at hm1 ⊢
  have hl1 := hr.to hb1
  have lX := subF_len hm1.all f t
  have HSa : Hid (∀ w', RdD w' am n cm L → Calls Try.prog 9 #[.slice am n cm, .int .i64 f, .int .i64 t] w' fun e w'' => e = .returned (.tuple #[.agg (bvs (subF L f t)).toArray, .int .i64 (subE n f t)]) ∧ Below w'.heap.size w' w'') := fun w' h => Sub_any L am n cm f t w' (by omega) h
  have HSb : Hid (∀ w', RdD w' al n c L → Calls Try.prog 10 #[.slice al n c, .int .i64 f, .int .i64 t] w' fun e w'' => e = .returned (.tuple #[.agg (bvs (subF L f t)).toArray, .int .i64 (subE n f t)]) ∧ Below w'.heap.size w' w'') := fun w' h => rSub_any L al n c f t w' (by omega) h
  have lR := rootF_len hm1.all
  have HRa : Hid (∀ w', RdD w' am n cm L → Calls Try.prog 11 #[.slice am n cm] w' fun e w'' => e = .returned (.agg (bvs (rootF L)).toArray) ∧ Below w'.heap.size w' w'') := fun w' h => Root_any _ L (Nat.le_refl _) am n cm w' (by omega) h
  have HRb : Hid (∀ w', RdD w' al n c L → Calls Try.prog 12 #[.slice al n c] w' fun e w'' => e = .returned (.agg (bvs (rootF L)).toArray) ∧ Below w'.heap.size w' w'') := fun w' h => rRoot_any _ L (Nat.le_refl _) al n c w' (by omega) h
  generalize subF L f t = X at *
  generalize subE n f t = E at *
  generalize rootF L = RT at *
  have q1 := fun w => eqSame lR w
  have q2 := fun w => eqSame lX w
  have IX : Hid ((Try.prog.info? 25).map (·.size) = some (bvs X).length) := by show _ = _; rw [bvs_len, lX]; exact sizeD
  have FX : Hid (0 + (bvs X).length ≤ (bvs (Z8 32)).length) := by show _ ≤ _; rw [bvs_len X, lX]; exact (by decide : 0 + 32 ≤ (bvs (Z8 32)).length)
  have TX : Hid ((bvs (Z8 32)).length = (bvs X).length) := by show _ = _; rw [bvs_len X, lX]; rfl
  clear lX lR
  go_upto_region 3 with (first
    | (go_at_call 9; refine (HSa.out _ hm1).mono ?_; rintro e w2 ⟨rfl, hb2⟩)
    | ((with_reducible show wpList _ _ _ (⟨some 8, .alloc _, _, _, _, _⟩ :: _) _ _); refine wl_alloc rfl 25 rfl (bvs (Z8 32)) 32 infoD ?_; intro w3 hA3 hb3 hs3)
    | ((with_reducible show wpList _ _ _ (⟨none, .store _ (.tmp 8) _, _, _, _, _⟩ :: _) _ _); refine wl_store rfl 25 _ _ rfl w2.heap.size 0 rfl (bvs X) rfl 25 _ hA3 IX.out FX.out (bvs_one _) ?_; intro w4 hA4 hg4 hs4))
  rw [whole_store _ _ TX.out] at hA4
  have hb4 : Below w1.heap.size w1 w4 := (hb2.trans (hb3.mono hb2.size)).grown hg4 (by have := hb2.size; have := hb3.size; omega) (by intro k e; injection e with e; have := hb2.size; omega)
  have hm4 := hm1.to hb4
  have hl4 := hl1.to hb4
  have B4 := hb1.trans (hb4.mono hb1.size)
  have z14 := hb4.size
  obtain ⟨g8, hg8⟩ : ∃ g, w2.heap.size = g := ⟨_, rfl⟩
  rw [hg8] at hA4 ⊢
  clear hb2 hb3 hA3 hg4 hs3 hs4 hb4 hm1 hl1 hg8
  go_upto_region 4 with (first
    | (go_at_call 10; refine (HSb.out _ hl4).mono ?_; rintro e w5 ⟨rfl, hb5⟩)
    | ((with_reducible show wpList _ _ _ (⟨some 10, .alloc _, _, _, _, _⟩ :: _) _ _); refine wl_alloc rfl 25 rfl (bvs (Z8 32)) 32 infoD ?_; intro w6 hA6 hb6 hs6)
    | ((with_reducible show wpList _ _ _ (⟨none, .store _ (.tmp 10) _, _, _, _, _⟩ :: _) _ _); refine wl_store rfl 25 _ _ rfl w5.heap.size 0 rfl (bvs X) rfl 25 _ hA6 IX.out FX.out (bvs_one _) ?_; intro w7 hA7 hg7 hs7))
  rw [whole_store _ _ TX.out] at hA7
  have hb7 : Below w4.heap.size w4 w7 := (hb5.trans (hb6.mono hb5.size)).grown hg7 (by have := hb5.size; have := hb6.size; omega) (by intro k e; injection e with e; have := hb5.size; omega)
  have hm7 := hm4.to hb7
  have hl7 := hl4.to hb7
  have A8 := hA4.kept hb7
  have B7 := B4.trans (hb7.mono B4.size)
  have z17 := Nat.le_trans z14 hb7.size
  obtain ⟨g10, hg10⟩ : ∃ g, w5.heap.size = g := ⟨_, rfl⟩
  rw [hg10] at hA7 ⊢
  clear hb5 hb6 hA6 hg7 hs6 hs7 hb7 hm4 hl4 hA4 B4 z14 hg10
  go_upto_region 6 with (first
    | (go_at_call 11; refine (HRa.out _ hm7).mono ?_; rintro e w8 ⟨rfl, hb8⟩)
    | (go_at_call 12; refine (HRb.out _ (hl7.to hb8)).mono ?_; rintro e w9 ⟨rfl, hb9⟩)
    | ((with_reducible show wpList _ _ _ (⟨some 38, .load _ _, _, _, _, _⟩ :: _) _ _); refine wl_loadG rfl 25 _ rfl g8 0 rfl 25 (bvs X) (bvs X) ((A8.kept hb8).kept hb9) (fun j v h => (by rw [Nat.zero_add]; exact h)) (.array 32 5) Try.underlying25 rfl IX.out ?_)
    | ((with_reducible show wpList _ _ _ (⟨some 39, .load _ _, _, _, _, _⟩ :: _) _ _); refine wl_loadG rfl 25 _ rfl g10 0 rfl 25 (bvs X) (bvs X) ((hA7.kept hb8).kept hb9) (fun j v h => (by rw [Nat.zero_add]; exact h)) (.array 32 5) Try.underlying25 rfl IX.out ?_))
  have hb79 := hb8.trans (hb9.mono hb8.size)
  have hm9 := hm7.to hb79
  have hl9 := hl7.to hb79
  have B9 := B7.trans (hb79.mono B7.size)
  have z19 := Nat.le_trans z17 hb79.size
  clear hb8 hb9 hb79 hm7 hl7 A8 hA7 B7 z17
  have hLa := Levels_any L am n cm w9 hn hm9
  have hLb : ∀ w', Below w9.heap.size w9 w' → _ := fun w' hb => rLevels_any L al n c w' hn (hl9.to hb)
  go_upto_region 7 with (first
    | (go_at_call 13; refine hLa.mono ?_; rintro e wa ⟨va, i, rfl, hi1, hi2, hSa, hba⟩)
    | (go_at_call 14; refine (hLb _ hba).mono ?_; rintro e wz ⟨vb, i', rfl, hj1, hj2, hSb, hbb⟩))
  obtain rfl : i = i' := pow_one hi1 hi2 hj1 hj2
  clear hLa hLb hj1 hj2
  have hSa := hSa.to hbb
  have hne : ∀ j, j < (levs L i).length → 0 < ((levs L i).getD j []).length := fun j hj => by
    rw [levs_len] at hj
    rw [levs_get L i j hj, chunks_len, hl]
    exact Nat.div_pos (hi2 j hj) (Nat.two_pow_pos j)
  obtain ⟨pa, ca, rfl, hca, hRA'⟩ := hSa.at hne
  obtain ⟨pb, cb, rfl, hcb, hRB'⟩ := hSb.at
  have hi42 : i ≤ 2 ^ 42 := by
    rcases Nat.lt_or_ge 0 i with h | h
    · have h1 := hi2 (i - 1) (by omega)
      have h2 : i - 1 < 2 ^ (i - 1) := Nat.lt_two_pow_self
      omega
    · omega
  have hlh := levs_len L i
  obtain ⟨LL, hLL⟩ : ∃ LL, LL = levs L i := ⟨_, rfl⟩
  rw [← hLL] at hlh hca hcb hRA' hRB' hne ⊢
  rw [hlh] at hca hcb hRA' hRB' hne ⊢
  obtain ⟨h, hh⟩ : ∃ h, h = i := ⟨_, rfl⟩
  rw [← hh] at hi42 hlh hca hcb hRA' hRB' hne ⊢
  obtain ⟨ba, ga, cc, HRA'⟩ : ∃ ba ga cc, 0 < h → pa = some ⟨ba, 0, none⟩ ∧ RowsAt wz w9.heap.size wa.heap.size ba LL ga cc := by
    by_cases h0 : 0 < h
    · obtain ⟨b, ga, cc, e, hR⟩ := hRA' h0; exact ⟨b, ga, cc, fun _ => ⟨e, hR⟩⟩
    · exact ⟨0, fun _ => 0, fun _ => 0, fun h => absurd h h0⟩
  obtain ⟨bb, qb, dd, HRB'⟩ : ∃ bb qb dd, 0 < h → pb = some ⟨bb, 0, none⟩ ∧ RowsRd wz wa.heap.size bb LL qb dd := by
    by_cases h0 : 0 < h
    · obtain ⟨b, qa, cc, e, hR⟩ := hRB' h0; exact ⟨b, qa, cc, fun _ => ⟨e, hR⟩⟩
    · exact ⟨0, fun _ => none, fun _ => 0, fun h => absurd h h0⟩
  have HRA := Lib.hid HRA'
  have HRB := Lib.hid HRB'
  have hbz := hba.trans (hbb.mono hba.size)
  have hmz := Lib.hid (hm9.to hbz)
  have hlz := Lib.hid (hl9.to hbz)
  have BZ := Lib.hid (B9.trans (hbz.mono B9.size))
  have HLH := Lib.hid hlh
  have Hm : Hid (∀ ad, am = some ad → ad.block < w9.heap.size) := fun ad e => Nat.lt_of_lt_of_le (hmb ad.block (by rw [e]; rfl)) z19
  have Hl : Hid (∀ ad, al = some ad → 0 < n → ad.block < w9.heap.size) := fun ad e h0 => by
    obtain ⟨b, off, e2, hlt, -⟩ := hr.mem h0
    rw [e] at e2
    injection e2 with e2
    subst e2
    have := B9.size
    show b < _
    omega
  have HZ9 := Lib.hid hbz.size
  have HW9 := Lib.hid B9.size
  have HGA : Hid (∀ j, j < h → w9.heap.size ≤ ga j) := fun j hj => (World.ownsRow.lt ((HRA.out (by omega)).2.own j (by rw [HLH.out]; exact hj)).row _ rfl).1
  have HHN : Hid (∀ j, j < h → (LL.getD j []).length ≤ 2 ^ 42) := fun j hj => by
    show _ ≤ _
    rw [hLL, levs_get L i j (by omega), chunks_len, hl]
    have := Nat.div_le_self n (2 ^ j)
    omega
  clear HRA' HRB' hRA' hRB' hSa hSb hba hbb hbz hm9 hl9 B9 hlh hmb ho1 hb1 hne hi1 hi2 hh hLL z19 HSa HSb HRa HRb
  obtain ⟨S9, hS9⟩ : ∃ s, w9.heap.size = s := ⟨_, rfl⟩
  obtain ⟨Sa, hSa9⟩ : ∃ s, wa.heap.size = s := ⟨_, rfl⟩
  rw [hS9] at HRA Hm Hl HGA HZ9 HW9
  rw [hSa9] at HRA HRB
  clear hS9 hSa9 q1 q2
  go_upto_region 9 with fail
  go_wp2_with fail
  go_loopw [14] (fun ii wr => ∃ j : Nat, j ≤ h ∧ ii = .int .i64 (j : Int) ∧ KB (fun q => ∃ m, m < j ∧ q = ga m) wz wr) (fun ii _ => h - (intOf ii).toNat)
  case atStart => exact ⟨0, Nat.zero_le _, rfl, KB.refl _ _⟩
  case round =>
    obtain ⟨j, hj, rfl, hK⟩ := hrel
    by_cases hlt : j < h
    · obtain ⟨rfl, hA⟩ := HRA.out (by omega)
      obtain ⟨rfl, hBr⟩ := HRB.out (by omega)
      have hjl : j < LL.length := by rw [HLH.out]; exact hlt
      have c1 := hA.cell j hjl
      have c2 := hBr.cell j hjl
      have o1 := hA.own j hjl
      have r2 := hBr.rd j hjl
      obtain ⟨G, hG⟩ : ∃ G, G = ga j := ⟨_, rfl⟩
      obtain ⟨ci, hci⟩ : ∃ x, x = cc j := ⟨_, rfl⟩
      obtain ⟨di, hdi⟩ : ∃ x, x = dd j := ⟨_, rfl⟩
      obtain ⟨qq, hqq⟩ : ∃ x, x = qb j := ⟨_, rfl⟩
      obtain ⟨Lj, hLj⟩ : ∃ x, x = LL.getD j [] := ⟨_, rfl⟩
      obtain ⟨li, hli⟩ : ∃ x, x = Lj.length := ⟨_, rfl⟩
      rw [← hLj, ← hG, ← hci, ← hli] at c1 o1
      rw [← hLj, ← hqq, ← hdi, ← hli] at c2 r2
      have hli42 : li ≤ 2 ^ 42 := by rw [hli, hLj]; exact HHN.out j hlt
      have sA : ∀ m, m < h → ga m ≠ ba := fun m hm => hA.out m (by rw [HLH.out]; exact hm)
      have sB : ∀ q, (∃ m, m < j + 1 ∧ q = ga m) → q < Sa ∧ q ≠ ba := fun q hq => by
        obtain ⟨m, hm, rfl⟩ := hq
        exact ⟨hA.up m (by rw [HLH.out]; omega), sA m (by omega)⟩
      have nA : ¬ (∃ m, m < j + 1 ∧ ba = ga m) := fun e => (sB ba e).2 rfl
      have nB : ¬ (∃ m, m < j + 1 ∧ bb = ga m) := fun e => by have := (sB bb e).1; have := hBr.base; omega
      have nG : ¬ (∃ m, m < j ∧ G = ga m) := fun e => by
        obtain ⟨m, hm, e⟩ := e
        exact hA.apart j m hjl (by rw [HLH.out]; omega) (by omega) (by rw [← hG]; exact e)
      have hK1 := hK.mono (S' := fun q => ∃ m, m < j + 1 ∧ q = ga m) fun q hq => (by obtain ⟨m, hm, e⟩ := hq; exact ⟨m, by omega, e⟩)
      have HSG : Hid (∃ m, m < j + 1 ∧ G = ga m) := ⟨j, by omega, hG⟩
      have hwa := (hK1.cell (p := ⟨ba, j, none⟩) hA.lt nA).trans c1
      have hwb := (hK1.cell (p := ⟨bb, j, none⟩) hBr.lt nB).trans c2
      have ow := hK.ownD o1 nG
      have rw2 := hK1.rdD r2 fun ad e _ hs => (by have := (sB ad.block hs).1; have := hBr.low j hjl ad (by rw [← hqq]; exact e); omega)
      have HKA : Hid (∀ wx, KB (fun q => ∃ m, m < j + 1 ∧ q = ga m) wz wx → wx.cell? ⟨ba, j, none⟩ = some (.slice (some ⟨G, 0, none⟩) li ci)) := fun wx hx => (hx.cell (p := ⟨ba, j, none⟩) hA.lt nA).trans c1
      have HCA : Hid (∀ wx, Below wr.heap.size wr wx → wx.cell? ⟨ba, j, none⟩ = some (.slice (some ⟨G, 0, none⟩) li ci)) := fun wx hb => (hb.cell (p := ⟨ba, j, none⟩) (Nat.lt_of_lt_of_le hA.lt hK.size)).trans hwa
      have HCB : Hid (∀ wx, Below wr.heap.size wr wx → wx.cell? ⟨bb, j, none⟩ = some (.slice qq li di)) := fun wx hb => (hb.cell (p := ⟨bb, j, none⟩) (Nat.lt_of_lt_of_le hBr.lt hK.size)).trans hwb
      have HSA : Hid (∀ wx, Below wr.heap.size wr wx → Calls Try.prog 15 #[.slice (some ⟨G, 0, none⟩) li ci, .slice qq li di] wx fun e w' => e = .returned (.bool true) ∧ Below wx.heap.size wx w') := fun wx hb => by
        have := rSame_any Lj Lj _ _ li li ci di wx (ow.rdAt.to hb) (rw2.to hb) (by omega) (by omega)
        rwa [decide_eq_true (rfl : Lj = Lj)] at this
      have HJ0 : Hid ((0 : Int) ≤ (j : Int)) := by show _ ≤ _; omega
      have HJH : Hid ((j : Int) < (h : Int)) := by show _ < _; omega
      have hjh : (j : Int) < (h : Int) := HJH.out
      have HK1 := Lib.hid hK1
      have HOW := Lib.hid ow
      have HLI := Lib.hid hli42
      have HLL := Lib.hid hli
      have HLT := Lib.hid hlt
      clear hA hBr hjl c1 c2 o1 r2 hG hci hdi hqq hLj hli sA sB nA nB nG hK1 hK hwa hwb ow rw2 hli42 hlt
      go_upto_region 12 with fail
      refine wp_region_steps [[], [], [0, 1], [2], [], [], [4, 5], [6], [3, 7], [8]] (by kernel_rfl) (by kernel_rfl) (fun L a wx => ∃ v62 v63 v64 v65 v66 v67 v68 v69 v70 v71, a = ⟨#[.slice al n c, .int .i64 f, .int .i64 t, undef, undef, undef, u6, .slice am n cm, .pointer (some ⟨g8, 0, none⟩), .int .i64 E, .pointer (some ⟨g10, 0, none⟩), .int .i64 E, .slice (some ⟨ba, 0, none⟩) h ca, .slice (some ⟨bb, 0, none⟩) h cb, .int .i64 ↑j, u15, .slice al n c, .slice am n cm, .tuple #[.agg (bvs X).toArray, .int .i64 E], .slice am n cm, .int .i64 f, .int .i64 t, .tuple #[.agg (bvs X).toArray, .int .i64 E], .agg (bvs X).toArray, .int .i64 E, .tuple #[.agg (bvs X).toArray, .int .i64 E], .slice al n c, .int .i64 f, .int .i64 t, .tuple #[.agg (bvs X).toArray, .int .i64 E], .agg (bvs X).toArray, .int .i64 E, .slice am n cm, .agg (bvs RT).toArray, .slice al n c, .agg (bvs RT).toArray, .bool false, .bool false, .agg (bvs X).toArray, .agg (bvs X).toArray, .bool false, .bool false, .bool false, .int .i64 E, .int .i64 E, .bool false, .bool false, .slice am n cm, .slice (some ⟨ba, 0, none⟩) h ca, .slice al n c, .slice (some ⟨bb, 0, none⟩) h cb, .slice (some ⟨ba, 0, none⟩) h ca, .int .i64 ↑h, .slice (some ⟨bb, 0, none⟩) h cb, .int .i64 ↑h, .bool false, .int .i64 ↑j, .slice (some ⟨ba, 0, none⟩) h ca, .int .i64 ↑h, .bool true, u60, u61, v62, v63, v64, v65, v66, v67, v68, v69, v70, v71, u72, u73, u74, u75, u76, u77, u78, u79, u80, u81, u82, u83, u84, u85, u86, u87, u88, u89, u90, u91, undef, undef, undef, undef, undef, undef], []⟩ ∧ InvRoots ba bb ca cb h j G li ci di qq u6 u15 u60 u61 u62 u63 u64 u65 u66 u67 u68 u69 u70 u71 u72 u73 u74 u75 u76 u77 u78 u79 u80 u81 u82 u83 u84 u85 u86 u87 u88 u89 u90 u91 wr L v62 v63 v64 v65 v66 v67 v68 v69 v70 v71 wx) ?_ ⟨?_, ?_, ?_, ?_, ?_, ?_, ?_, ?_, ?_, ?_, trivial⟩ ?_
      · refine ⟨_, _, _, _, _, _, _, _, _, _, rfl, ⟨?_, ?_, ?_, ?_, ?_, ?_, ?_, ?_, ?_, ?_, (Below.refl _ _).drew⟩⟩ <;> (intro h; exact absurd h (by decide))
      · rintro L a wx ⟨v62, v63, v64, v65, v66, v67, v68, v69, v70, v71, rfl, hI⟩ hL hdep hcl K hK
        go_simp
        exact hK _ _ ⟨_, v63, v64, v65, v66, v67, v68, v69, v70, v71, rfl, ⟨fun _ => rfl, hI.t1, hI.t2, hI.t3, hI.t4, hI.t5, hI.t6, hI.t7, hI.t8, hI.t9, hI.bw⟩⟩
      · rintro L a wx ⟨v62, v63, v64, v65, v66, v67, v68, v69, v70, v71, rfl, hI⟩ hL hdep hcl K hK
        go_simp
        exact hK _ _ ⟨v62, _, v64, v65, v66, v67, v68, v69, v70, v71, rfl, ⟨hI.t0, fun _ => rfl, hI.t2, hI.t3, hI.t4, hI.t5, hI.t6, hI.t7, hI.t8, hI.t9, hI.bw⟩⟩
      · rintro L a wx ⟨v62, v63, v64, v65, v66, v67, v68, v69, v70, v71, rfl, hI⟩ hL hdep hcl K hK
        obtain rfl := hI.t0 (hdep 0 (by decide))
        obtain rfl := hI.t1 (hdep 1 (by decide))
        have h1 := HJ0.out
        have h2 := HJH.out
        go_simp
        exact hK _ _ ⟨_, _, _, v65, v66, v67, v68, v69, v70, v71, rfl, ⟨hI.t0, hI.t1, fun _ => rfl, hI.t3, hI.t4, hI.t5, hI.t6, hI.t7, hI.t8, hI.t9, hI.bw⟩⟩
      · rintro L a wx ⟨v62, v63, v64, v65, v66, v67, v68, v69, v70, v71, rfl, hI⟩ hL hdep hcl K hK
        obtain rfl := hI.t2 (hdep 2 (by decide))
        have hc := HCA.out wx hI.bw
        go_simp
        exact hK _ _ ⟨v62, v63, _, _, v66, v67, v68, v69, v70, v71, rfl, ⟨hI.t0, hI.t1, hI.t2, fun _ => rfl, hI.t4, hI.t5, hI.t6, hI.t7, hI.t8, hI.t9, hI.bw⟩⟩
      · rintro L a wx ⟨v62, v63, v64, v65, v66, v67, v68, v69, v70, v71, rfl, hI⟩ hL hdep hcl K hK
        go_simp
        exact hK _ _ ⟨v62, v63, v64, v65, _, v67, v68, v69, v70, v71, rfl, ⟨hI.t0, hI.t1, hI.t2, hI.t3, fun _ => rfl, hI.t5, hI.t6, hI.t7, hI.t8, hI.t9, hI.bw⟩⟩
      · rintro L a wx ⟨v62, v63, v64, v65, v66, v67, v68, v69, v70, v71, rfl, hI⟩ hL hdep hcl K hK
        go_simp
        exact hK _ _ ⟨v62, v63, v64, v65, v66, _, v68, v69, v70, v71, rfl, ⟨hI.t0, hI.t1, hI.t2, hI.t3, hI.t4, fun _ => rfl, hI.t6, hI.t7, hI.t8, hI.t9, hI.bw⟩⟩
      · rintro L a wx ⟨v62, v63, v64, v65, v66, v67, v68, v69, v70, v71, rfl, hI⟩ hL hdep hcl K hK
        obtain rfl := hI.t4 (hdep 4 (by decide))
        obtain rfl := hI.t5 (hdep 5 (by decide))
        have h1 := HJ0.out
        have h2 := HJH.out
        go_simp
        exact hK _ _ ⟨v62, v63, v64, v65, _, _, _, v69, v70, v71, rfl, ⟨hI.t0, hI.t1, hI.t2, hI.t3, hI.t4, hI.t5, fun _ => rfl, hI.t7, hI.t8, hI.t9, hI.bw⟩⟩
      · rintro L a wx ⟨v62, v63, v64, v65, v66, v67, v68, v69, v70, v71, rfl, hI⟩ hL hdep hcl K hK
        obtain rfl := hI.t6 (hdep 6 (by decide))
        have hc := HCB.out wx hI.bw
        go_simp
        exact hK _ _ ⟨v62, v63, v64, v65, v66, v67, _, _, v70, v71, rfl, ⟨hI.t0, hI.t1, hI.t2, hI.t3, hI.t4, hI.t5, hI.t6, fun _ => rfl, hI.t8, hI.t9, hI.bw⟩⟩
      · rintro L a wx ⟨v62, v63, v64, v65, v66, v67, v68, v69, v70, v71, rfl, hI⟩ hL hdep hcl K hK
        obtain rfl := hI.t3 (hdep 3 (by decide))
        obtain rfl := hI.t7 (hdep 7 (by decide))
        have HC := HSA.out wx hI.bw
        go_simp
        refine HC.mono ?_
        rintro e w' ⟨rfl, hb⟩
        exact hK _ _ ⟨v62, v63, v64, _, v66, v67, v68, _, _, v71, rfl, ⟨hI.t0, hI.t1, hI.t2, hI.t3, hI.t4, hI.t5, hI.t6, hI.t7, fun _ => rfl, hI.t9, (hI.bw).trans (hb.mono (hI.bw).size)⟩⟩
      · rintro L a wx ⟨v62, v63, v64, v65, v66, v67, v68, v69, v70, v71, rfl, hI⟩ hL hdep hcl K hK
        obtain rfl := hI.t8 (hdep 8 (by decide))
        go_simp
        exact hK _ _ ⟨v62, v63, v64, v65, v66, v67, v68, v69, _, _, rfl, ⟨hI.t0, hI.t1, hI.t2, hI.t3, hI.t4, hI.t5, hI.t6, hI.t7, hI.t8, fun _ => rfl, hI.bw⟩⟩
      · rintro a wx ⟨v62, v63, v64, v65, v66, v67, v68, v69, v70, v71, rfl, hI⟩
        have e := hI.t9 rfl
        subst e
        have hbw := hI.bw
        clear hI
        go_wp2_with fail
        go_loopw [15] (fun kk wq => ∃ (k : Nat) (M : List (List UInt8)), k ≤ li ∧ kk = .int .i64 (k : Int) ∧ M.length = li ∧ OwnD wq S9 (.slice (some ⟨G, 0, none⟩) li ci) M ∧ KB (fun q => ∃ m, m < j + 1 ∧ q = ga m) wz wq) (fun kk _ => li - (intOf kk).toNat)
        case atStart => exact ⟨0, Lj, Nat.zero_le _, rfl, HLL.out.symm, HOW.out.to hbw, HK1.out.below hbw⟩
        case round =>
          clear hbw
          obtain ⟨k, M, hk, rfl, hM, hOw, hKb⟩ := hrel
          have hj0 := HJ0.out
          have hcq := HKA.out wr hKb
          by_cases hkl : k < li
          · have hkl' : (k : Int) < (li : Int) := by omega
            have hat := hOw.cellAt k hkl
            have hcl := hat.1
            have hfr := hat.2
            have hfl := hOw.flip k (by omega)
            have hgw := setCells_grown G [(.int .u8 ((((M.getD k []).getD 0 0 ^^^ 1).toNat : Nat) : Int))] wr (k * 32)
            have hkf := hKb.grown hgw HSG.out
            obtain ⟨Y, hY⟩ : ∃ Y, Y = (M.getD k []).getD 0 0 := ⟨_, rfl⟩
            rw [← hY] at hcl hfl hkf
            rw [← xor_one] at hfl hkf
            have HFL := Lib.hid hfl
            have HKF := Lib.hid hkf
            have HML : Hid ((flipL M k).length = li) := by show _ = _; rw [flipL_len]; exact hM
            have hli := HLI.out
            clear hat hfl hgw hkf hOw hKb hM hY
            go_upto_region 17 with fail
            go_region
            go_wp2_with fail
            go_roundw
            case rel => exact ⟨k + 1, flipL M k, hkl, by go_num, HML.out, ⟨HFL.out.row, HFL.out.all⟩, HKF.out.drew⟩
            case measure => simp [intOf]; omega
          · obtain rfl : k = li := by omega
            have hkl' : ¬ ((k : Int) < (k : Int)) := by omega
            clear hOw hM
            go_wp2_with fail
            go_roundw
            case rel => exact ⟨j + 1, HLT.out, by go_num, hKb⟩
            case measure => have := HLT.out; simp [intOf]; omega
    · obtain rfl : j = h := by omega
      have hc : ¬ ((j : Int) < (j : Int)) := by omega
      have hS : ∀ q, (∃ m, m < j ∧ q = ga m) → S9 ≤ q := fun q hq => by obtain ⟨m, hm, rfl⟩ := hq; exact HGA.out m hm
      have rm := hK.rdD hmz.out fun ad e _ hs => (by have := hS _ hs; have := Hm.out ad e; omega)
      have rl := hK.rdD hlz.out fun ad e h0 hs => (by have := hS _ hs; have := Hl.out ad e h0; omega)
      have bz := BZ.out.trans (hK.under (B := w.heap.size) (fun q hq => by have := hS q hq; have := HW9.out; omega) BZ.out.size)
      have hSm : Calls Try.prog 15 #[.slice am n cm, .slice al n c] wr fun e w' => e = .returned (.bool true) ∧ Below wr.heap.size wr w' := by
        have := rSame_any L L am al n n cm c wr rm rl (by omega) (by omega)
        rwa [decide_eq_true (rfl : L = L)] at this
      clear hS rm rl hK
      go_wp2_with (first
        | (go_at_call 15; refine hSm.mono ?_; rintro e wy ⟨rfl, hby⟩)
        | (go_at_call 16; refine (wakes_any _).mono ?_; rintro e wx ⟨rfl, hbx⟩))
      go_ret
      exact ⟨rfl, (bz.trans (hby.mono bz.size)).trans (hbx.mono (by have := bz.size; have := hby.size; omega))⟩
end Go.Proofs.Ytpnhflpajccbbaa
