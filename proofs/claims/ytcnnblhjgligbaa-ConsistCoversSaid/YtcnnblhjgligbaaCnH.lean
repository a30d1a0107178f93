/-
  Layer 11: what the program's proofs tell. Conditions: those in each statement.
-/
import Derived.Test.YtcnnblhjgligbaaCnG
import Derived.Test.YtcnnblhjgligbaaInK
import Derived.Test.YtcnnblhjgligbaaRegF
namespace Go.Proofs.Ytcnnblhjgligbaa
open Go.RowKit

structure InvTold (d x0 x1 y S0 S1 : List UInt8) (m n q c k xf xt pb po rb ro rc g4 g8 g12 g14 g15 : Nat) (W0 : World) (L : Nat → Bool) (v50 v51 v52 v53 v54 v55 v56 v57 v58 : Value) (wx : World) : Prop where
  t0 : L 0 = true → v50 = .agg (bvs y).toArray
  t1 : L 1 = true → v51 = .pointer (some ⟨g12, 0, none⟩)
  t2 : L 2 = true → v52 = .agg (bvs x0).toArray
  t3 : L 3 = true → v53 = .agg (bvs S0).toArray
  t4 : L 4 = true → v54 = .agg (bvs y).toArray
  t5 : L 5 = true → v55 = .pointer (some ⟨g12, 32, none⟩)
  t6 : L 6 = true → v56 = .agg (bvs x1).toArray
  t7 : L 7 = true → v57 = .agg (bvs S1).toArray
  t8 : L 8 = true → v58 = .agg (b2 S0 S1).toArray
  bw : L 9 = false → Below W0.heap.size W0 wx
  fin : L 9 = true → ∃ wy, Below W0.heap.size W0 wy ∧ Arr wx g12 62 (b2 S0 S1) ∧ wy.grownBy wx (some g12)
set_option maxRecDepth 100000 in
set_option maxHeartbeats 6400000 in
theorem told_any (m n : Nat) (d : List UInt8) (a : Option Addr) (q c : Nat) (P : List (List UInt8)) (w : World) (hd : d.length = 32) (hP : RdD w a q c P) (hq50 : q ≤ 2 ^ 50) :
    Calls Try.prog 27 #[.int .u64 (m : Int), .int .u64 (n : Int), .agg (bvs d).toArray, .slice a q c] w fun e w' => e = .returned (.tuple #[.agg (b2 (tdV m n d P).1 (tdV m n d P).2).toArray, .int .i64 (tdE m n q)]) ∧ Below w.heap.size w w' := by
  have hl := hP.len
  have hR := fun w => RangesC_any m n w
  have h32d : Hid ((Try.prog.info? 41).map (·.size) = some (bvs d).length) := by show _ = _; rw [bvs_len, hd]; exact sizeD
  have h64z : Hid ((Try.prog.info? 62).map (·.size) = some (b2 (Z8 32) (Z8 32)).length) := sizeB
  cases hok : okT m n q with
  | false =>
    have e1 : tdV m n d P = (Z8 32, Z8 32) := by unfold tdV; rw [hl, hok]; rfl
    have e2 : tdE m n q = 1 := by unfold tdE; rw [hok]; rfl
    rw [e1, e2]
    clear e1 e2
    cases hr : okC m n with
    | false =>
      have e3 : cE m n = 1 := by simp only [cE, hr]; rfl
      rw [e3] at hR
      have HR := Lib.hid hR
      clear hR hok hr hP hl hd
      go_enter Try.func27, Try.ntmps27
      go_wp2_with (first
        | ((with_reducible show wpList _ _ _ (⟨some 6, .box _ _, _, _, _, _⟩ :: _) _ _); refine wl_box rfl 41 _ rfl (bvs d) rfl ?_; intro w1 hA1 hb1 hs1)
        | ((with_reducible show wpList _ _ _ (⟨some 8, .alloc _, _, _, _, _⟩ :: _) _ _); refine wl_alloc rfl 62 rfl (b2 (Z8 32) (Z8 32)) 64 infoB ?_; intro w2 hA2 hb2 hs2)
        | (go_at_call 10; refine (HR.out w2).mono ?_; rintro e w3 ⟨v, rfl, hO3, hb3⟩)
        | ((with_reducible show wpList _ _ _ (⟨some 24, .build _ _, _, _, _, _⟩ :: _) _ _); refine wpList_buildTo rfl 62 _ rfl (some 24) rfl (b2 (Z8 32) (Z8 32)).toArray builtB0 ?_)
        | ((with_reducible show wpList _ _ _ (⟨none, .store _ _ _, _, _, _, _⟩ :: _) _ _); refine wl_store rfl 62 _ _ rfl w1.heap.size 0 rfl (b2 (Z8 32) (Z8 32)) rfl 62 _ (hA2.kept hb3) h64z.out (by decide) (b2_one _ _) ?_; intro w4 hA4 hg4 hs4))
      rw [whole_store _ _ (by rfl)] at hA4
      refine end_cell2 rfl w1.heap.size 62 (b2 (Z8 32) (Z8 32)) (.array 2 41) (.int .i64 1) rfl hA4 Try.underlying62 rfl h64z.out rfl rfl ⟨rfl, ?_⟩
      have z1 := hb1.size
      have z2 := hb2.size
      have z3 := hb3.size
      exact ((hb1.trans (hb2.mono z1)).trans (hb3.mono (by omega))).grown hg4 (by omega) (by intro k e; injection e with e; omega)
    | true =>
      have e3 : cE m n = 0 := by simp only [cE, hr]; rfl
      rw [e3] at hR
      have hlen := cL_few m n
      obtain ⟨p, hp⟩ : ∃ p, p = (cL m n).length := ⟨_, rfl⟩
      have HM := Lib.hid hp
      have HR := Lib.hid hR
      rw [← hp] at hlen
      by_cases h0 : m = 0
      · subst h0
        clear hR hok hr hP hl hp hd
        go_enter Try.func27, Try.ntmps27
        go_wp2_with (first
          | ((with_reducible show wpList _ _ _ (⟨some 6, .box _ _, _, _, _, _⟩ :: _) _ _); refine wl_box rfl 41 _ rfl (bvs d) rfl ?_; intro w1 hA1 hb1 hs1)
          | ((with_reducible show wpList _ _ _ (⟨some 8, .alloc _, _, _, _, _⟩ :: _) _ _); refine wl_alloc rfl 62 rfl (b2 (Z8 32) (Z8 32)) 64 infoB ?_; intro w2 hA2 hb2 hs2)
          | (go_at_call 10; refine (HR.out w2).mono ?_; rintro e w3 ⟨v, rfl, hO3, hb3⟩; obtain ⟨ra, rc, rfl, hRd, hrb⟩ := hO3.rd (by omega); rw [← HM.out])
          | ((with_reducible show wpList _ _ _ (⟨some 35, .build _ _, _, _, _, _⟩ :: _) _ _); refine wpList_buildTo rfl 62 _ rfl (some 35) rfl (b2 (Z8 32) (Z8 32)).toArray builtB0 ?_)
          | ((with_reducible show wpList _ _ _ (⟨none, .store _ _ _, _, _, _, _⟩ :: _) _ _); refine wl_store rfl 62 _ _ rfl w1.heap.size 0 rfl (b2 (Z8 32) (Z8 32)) rfl 62 _ (hA2.kept hb3) h64z.out (by decide) (b2_one _ _) ?_; intro w4 hA4 hg4 hs4))
        rw [whole_store _ _ (by rfl)] at hA4
        refine end_cell2 rfl w1.heap.size 62 (b2 (Z8 32) (Z8 32)) (.array 2 41) (.int .i64 1) rfl hA4 Try.underlying62 rfl h64z.out rfl rfl ⟨rfl, ?_⟩
        have z1 := hb1.size
        have z2 := hb2.size
        have z3 := hb3.size
        exact ((hb1.trans (hb2.mono z1)).trans (hb3.mono (by omega))).grown hg4 (by omega) (by intro k e; injection e with e; omega)
      · have hne : ¬ (p = q) := by
          unfold okT at hok
          rw [hr, ← hp] at hok
          simpa [h0] using hok
        have c0 : ((m : Int) == 0) = false := by simp; omega
        have hcc : ¬ ((q : Int) = (p : Int)) := by omega
        clear hR hok hr hP hl hp hne h0 hd
        go_enter Try.func27, Try.ntmps27
        go_wp2_with (first
          | ((with_reducible show wpList _ _ _ (⟨some 6, .box _ _, _, _, _, _⟩ :: _) _ _); refine wl_box rfl 41 _ rfl (bvs d) rfl ?_; intro w1 hA1 hb1 hs1)
          | ((with_reducible show wpList _ _ _ (⟨some 8, .alloc _, _, _, _, _⟩ :: _) _ _); refine wl_alloc rfl 62 rfl (b2 (Z8 32) (Z8 32)) 64 infoB ?_; intro w2 hA2 hb2 hs2)
          | (go_at_call 10; refine (HR.out w2).mono ?_; rintro e w3 ⟨v, rfl, hO3, hb3⟩; obtain ⟨ra, rc, rfl, hRd, hrb⟩ := hO3.rd (by omega); rw [← HM.out])
          | ((with_reducible show wpList _ _ _ (⟨some 35, .build _ _, _, _, _, _⟩ :: _) _ _); refine wpList_buildTo rfl 62 _ rfl (some 35) rfl (b2 (Z8 32) (Z8 32)).toArray builtB0 ?_)
          | ((with_reducible show wpList _ _ _ (⟨none, .store _ _ _, _, _, _, _⟩ :: _) _ _); refine wl_store rfl 62 _ _ rfl w1.heap.size 0 rfl (b2 (Z8 32) (Z8 32)) rfl 62 _ (hA2.kept hb3) h64z.out (by decide) (b2_one _ _) ?_; intro w4 hA4 hg4 hs4))
        rw [whole_store _ _ (by rfl)] at hA4
        refine end_cell2 rfl w1.heap.size 62 (b2 (Z8 32) (Z8 32)) (.array 2 41) (.int .i64 1) rfl hA4 Try.underlying62 rfl h64z.out rfl rfl ⟨rfl, ?_⟩
        have z1 := hb1.size
        have z2 := hb2.size
        have z3 := hb3.size
        exact ((hb1.trans (hb2.mono z1)).trans (hb3.mono (by omega))).grown hg4 (by omega) (by intro k e; injection e with e; omega)
  | true =>
    obtain ⟨hr, h1, hrn, hrl⟩ := okT_yes hok
    obtain ⟨hn20, hmn⟩ := okC_yes hr
    have e1 : tdV m n d P = hdF m n d P true := by unfold tdV; rw [hl, hok]; rfl
    have e2 : tdE m n q = 0 := by unfold tdE; rw [hok]; rfl
    have e3 : cE m n = 0 := by simp only [cE, hr]; rfl
    have hfold := heads_fold n m n 0 d P true (Nat.le_refl _) h1 hmn (by rw [hl, hrn])
    rw [Nat.zero_add] at hfold
    rw [e1, e2, ← hfold]
    rw [e3, hrl] at hR
    have hlen := wt_few m n 0 true h1 hmn hn20
    have c0 : ((m : Int) == 0) = false := by simp; omega
    clear hok hr e1 e2 e3 hfold hrl
    generalize wtF m n 0 true = L at *
    have HR := Lib.hid hR
    have HRN := Lib.hid hrn
    have hd64 : Hid ((b2 d d).length = 64) := b2_len hd hd
    have h64d : Hid ((Try.prog.info? 62).map (·.size) = some (b2 d d).length) := by show _ = _; rw [hd64.out]; exact sizeB
    clear hR hrn h1 hmn hn20
    go_enter Try.func27, Try.ntmps27
    go_upto_region 7 with (first
      | ((with_reducible show wpList _ _ _ (⟨some 6, .box _ _, _, _, _, _⟩ :: _) _ _); refine wl_box rfl 41 _ rfl (bvs d) rfl ?_; intro w1 hA1 hb1 hs1)
      | ((with_reducible show wpList _ _ _ (⟨some 8, .alloc _, _, _, _, _⟩ :: _) _ _); refine wl_alloc rfl 62 rfl (b2 (Z8 32) (Z8 32)) 64 infoB ?_; intro w2 hA2 hb2 hs2)
      | (go_at_call 10; refine (HR.out w2).mono ?_; rintro e w3 ⟨v, rfl, hO3, hb3⟩; obtain ⟨ra, rc, rfl, hRd, hrb⟩ := hO3.rd (by omega); rw [HRN.out])
      | ((with_reducible show wpList _ _ _ (⟨some 36, .load _ _, _, _, _, _⟩ :: _) _ _); refine wl_load rfl 41 _ rfl w.heap.size 0 rfl 41 (bvs d) (bvs d) ((hA1.kept hb2).kept hb3) (fun j v h => (by rw [Nat.zero_add]; exact h)) (.array 32 5) Try.underlying41 rfl h32d.out ?_)
      | ((with_reducible show wpList _ _ _ (⟨some 37, .load _ _, _, _, _, _⟩ :: _) _ _); refine wl_load rfl 41 _ rfl w.heap.size 0 rfl 41 (bvs d) (bvs d) ((hA1.kept hb2).kept hb3) (fun j v h => (by rw [Nat.zero_add]; exact h)) (.array 32 5) Try.underlying41 rfl h32d.out ?_)
      | ((with_reducible show wpList _ _ _ (⟨some 38, .build _ _, _, _, _, _⟩ :: _) _ _); refine wl_buildB rfl 36 37 rfl d d rfl rfl hd hd ?_)
      | ((with_reducible show wpList _ _ _ (⟨some 12, .alloc _, _, _, _, _⟩ :: _) _ _); refine wl_alloc rfl 62 rfl (b2 (Z8 32) (Z8 32)) 64 infoB ?_; intro w4 hA4 hb4 hs4)
      | ((with_reducible show wpList _ _ _ (⟨none, .store _ _ _, _, _, _, _⟩ :: _) _ _); refine wl_store rfl 62 _ _ rfl w3.heap.size 0 rfl (b2 d d) rfl 62 _ hA4 h64d.out (by rw [hd64.out]; exact (by decide : 0 + 64 ≤ (b2 (Z8 32) (Z8 32)).length)) (b2_one _ _) ?_; intro w5 hA5 hg5 hs5))
    rw [whole_store _ _ (by rw [hd64.out]; rfl)] at hA5
    have z1 := hb1.size
    have z2 := hb2.size
    have z3 := hb3.size
    have z4 := hb4.size
    have b35 : Below w3.heap.size w3 w5 := hb4.grown hg5 z4 (by intro k e; injection e with e; omega)
    have b05 : Below w.heap.size w w5 := ((hb1.trans (hb2.mono z1)).trans (hb3.mono (by omega))).trans (b35.mono (by omega))
    have A8 : Arr w5 w1.heap.size 62 (b2 (Z8 32) (Z8 32)) := (hA2.kept hb3).kept b35
    have hR5 := hRd.to b35
    have hP5 := hP.to b05
    have hPb : ∀ ad, a = some ad → 0 < q → ad.block ≠ w3.heap.size := fun ad e h0 => by
      obtain ⟨b, off, e2, hlt, -⟩ := hP.mem h0
      rw [e] at e2
      injection e2 with e2
      rw [e2]
      show b ≠ _
      omega
    have hRb : ∀ ad, ra = some ad → 0 < L.length → ad.block ≠ w3.heap.size := fun ad e _ => by have := (hrb ad e).2; omega
    have h81 : w1.heap.size ≠ w3.heap.size := by omega
    have h80 : w.heap.size ≤ w1.heap.size := z1
    obtain ⟨g4, hg4⟩ : ∃ g, g = w.heap.size := ⟨_, rfl⟩
    obtain ⟨g8, hg8⟩ : ∃ g, g = w1.heap.size := ⟨_, rfl⟩
    obtain ⟨g12, hg12⟩ : ∃ g, g = w3.heap.size := ⟨_, rfl⟩
    have h12 : g4 ≤ g12 := by omega
    go_simp
    rw [← hg4, ← hg8, ← hg12]
    rw [← hg4] at b05 h80
    rw [← hg8] at A8 h81 h80
    rw [← hg12] at hA5 hPb hRb h81
    rw [HRN.out] at hR5 hRb
    have HG4 := Lib.hid hg4
    clear hA1 hA2 hA4 hb1 hb2 hb3 hb4 hs1 hs2 hs4 hs5 hg5 hO3 hRd hrb b35 z1 z2 z3 z4 hP hg4 hg8 hg12
    have B05 := Lib.hid b05
    have HD := Lib.hid hd
    clear b05 hd
    go_wp2_with fail
    go_loopw [41] (fun ix wr => ∃ (k : Nat) (x0 x1 : List UInt8), k ≤ q ∧ ix = .int .i64 (k : Int) ∧ (x0, x1) = ((L.zip P).take k).foldl (stepT m) (d, d) ∧ x0.length = 32 ∧ x1.length = 32 ∧ Arr wr g12 62 (b2 x0 x1) ∧ KB (fun q => q = g12) w5 wr) (fun ix _ => q - (intOf ix).toNat)
    case atStart => exact ⟨0, d, d, Nat.zero_le _, rfl, rfl, HD.out, HD.out, hA5, KB.refl _ _⟩
    case round =>
      clear hA5
      obtain ⟨k, x0, x1, hk, rfl, hhe, hx0, hx1, hAh, hkb⟩ := hrel
      by_cases hlt : k < q
      · have hkL : k < L.length := by rw [HRN.out]; exact hlt
        obtain ⟨rb, ro, rfl, hrbl, -⟩ := hR5.mem (by omega)
        obtain ⟨pb, po, rfl, hpbl, -⟩ := hP5.mem (by omega)
        have hRr := (hR5.kb hkb (fun ad e h0 => hRb ad e (by omega))).range k hkL
        have hPr := (hkb.rdD hP5 (fun ad e h0 => hPb ad e h0)).range k hlt
        have hyl := hP5.all k (by omega)
        have hnext := fold_nextT m L P (d, d) k hkL (by omega)
        rw [← hhe] at hnext
        obtain ⟨x, hx⟩ : ∃ x, x = L[k] := ⟨_, rfl⟩
        obtain ⟨y, hy⟩ : ∃ y, y = P.getD k [] := ⟨_, rfl⟩
        rw [← hx] at hRr hnext
        rw [← hy] at hPr hyl hnext
        have hrl := Nat.lt_of_lt_of_le hrbl hkb.size
        have hpl := Nat.lt_of_lt_of_le hpbl hkb.size
        have h12r := hAh.lt
        have h32y : Hid ((Try.prog.info? 41).map (·.size) = some (bvs y).length) := by show _ = _; rw [bvs_len, hyl]; exact sizeD
        have hy32 : Hid ((bvs y).length = 32) := by show _ = _; rw [bvs_len]; exact hyl
        have h320 : Hid ((Try.prog.info? 41).map (·.size) = some (bvs x0).length) := by show _ = _; rw [bvs_len, hx0]; exact sizeD
        have h321 : Hid ((Try.prog.info? 41).map (·.size) = some (bvs x1).length) := by show _ = _; rw [bvs_len, hx1]; exact sizeD
        have h64x : Hid ((b2 x0 x1).length = 64) := b2_len hx0 hx1
        have hkn : (k : Int) < (q : Int) := by omega
        have hk0 : (0 : Int) ≤ (k : Int) := by omega
        have HLT := Lib.hid hlt
        have HX0 := Lib.hid hx0
        have HX1 := Lib.hid hx1
        have HYL := Lib.hid hyl
        have HNE := Lib.hid hnext
        have HKL := Lib.hid hkL
        have z5 := hkb.size
        obtain ⟨xf, xt⟩ := x
        clear hlt hkL hx hy hR5 hP5 hhe hnext hrbl hl hlen hRb hPb hx0 hx1 hyl h81
        go_upto_region 10 with (first
          | ((with_reducible show wpList _ _ _ (⟨some 45, .load _ _, _, _, _, _⟩ :: _) _ _); refine wpList_load_mid rfl 52 _ rfl rb (ro + k * 2) rfl (encR (xf, xt)) _ hRr Try.underlying52 rfl infoRs ?_)
          | ((with_reducible show wpList _ _ _ (⟨some 14, .alloc _, _, _, _, _⟩ :: _) _ _); refine wl_alloc rfl 52 rfl [.int .u64 0, .int .u64 0] 2 infoR0 ?_; intro w6 hA6 hb6 hs6)
          | ((with_reducible show wpList _ _ _ (⟨none, .store _ _ _, _, _, _, _⟩ :: _) _ _); refine wl_store rfl 52 _ _ rfl wr.heap.size 0 rfl (encR (xf, xt)) rfl 52 _ hA6 infoRs (by simp [encR]) (encR_one _) ?_; intro w7 hA7 hg7 hs7))
        rw [whole_store _ _ (by rfl)] at hA7
        have b67 : Below wr.heap.size wr w7 := hb6.grown hg7 hb6.size (by intro k e; injection e with e; omega)
        have PR : w7.rangeAt pb (po + k * 32) (bvs y) := fun j v hj => (b67.cell (p := ⟨pb, po + k * 32 + j, none⟩) hpl).trans (hPr j v hj)
        have z7 := b67.size
        go_simp
        obtain ⟨g14, hg14⟩ : ∃ g, g = wr.heap.size := ⟨_, rfl⟩
        rw [← hg14] at hA7 ⊢
        have HG14 := Lib.hid hg14
        clear hA6 hb6 hs6 hg7 hs7 hg14
        go_upto_region 12 with (first
          | ((with_reducible show wpList _ _ _ (⟨some 49, .load _ _, _, _, _, _⟩ :: _) _ _); refine wpList_load_mid rfl 41 _ rfl pb (po + k * 32) rfl (bvs y) (.array 32 5) PR Try.underlying41 rfl h32y.out ?_)
          | ((with_reducible show wpList _ _ _ (⟨some 15, .alloc _, _, _, _, _⟩ :: _) _ _); refine wl_alloc rfl 41 rfl (bvs (Z8 32)) 32 infoD ?_; intro w8 hA8 hb8 hs8)
          | ((with_reducible show wpList _ _ _ (⟨none, .store _ _ _, _, _, _, _⟩ :: _) _ _); refine wl_store rfl 41 _ _ rfl w7.heap.size 0 rfl (bvs y) rfl 41 _ hA8 h32y.out (by rw [hy32.out]; exact (by decide : 0 + 32 ≤ (bvs (Z8 32)).length)) (bvs_one _) ?_; intro w9 hA9 hg9 hs9))
        rw [whole_store _ _ (by rw [hy32.out]; rfl)] at hA9
        have b79 : Below w7.heap.size w7 w9 := hb8.grown hg9 hb8.size (by intro k e; injection e with e; omega)
        have A14 := hA7.kept b79
        have A12 := (hAh.kept b67).kept b79
        have bR9 : Below wr.heap.size wr w9 := b67.trans (b79.mono z7)
        have c70 := A14.cell 0
        have c71 := A14.cell 1
        simp only [encR, List.getElem?_cons_zero, List.getElem?_cons_succ] at c70 c71
        go_simp
        have h1215 : g12 ≠ w7.heap.size := by have := hAh.lt; omega
        obtain ⟨g15, hg15⟩ : ∃ g, g = w7.heap.size := ⟨_, rfl⟩
        rw [← hg15] at hA9 h1215 ⊢
        have HKB := Lib.hid (hkb.below bR9)
        clear hA7 hA8 hb8 hs8 hg9 hs9 hg15 b67 b79 z7 PR hPr hRr hAh A14 hkb hrl hpl h12r hpbl bR9
        by_cases hcm : xt = m
        · subst hcm
          rw [show stepT xt (x0, x1) ((xf, xt), y) = (y, y) by unfold stepT; rw [if_pos rfl]] at HNE
          have h64y : Hid ((b2 y y).length = 64) := b2_len HYL.out HYL.out
          have h64z : Hid ((Try.prog.info? 62).map (·.size) = some (b2 y y).length) := by show _ = _; rw [h64y.out]; exact sizeB
          go_wp2_with (first
            | ((with_reducible show wpList _ _ _ (⟨some 64, .load _ _, _, _, _, _⟩ :: _) _ _); refine wl_load rfl 41 _ rfl g15 0 rfl 41 (bvs y) (bvs y) hA9 (fun j v h => (by rw [Nat.zero_add]; exact h)) (.array 32 5) Try.underlying41 rfl h32y.out ?_)
            | ((with_reducible show wpList _ _ _ (⟨some 65, .load _ _, _, _, _, _⟩ :: _) _ _); refine wl_load rfl 41 _ rfl g15 0 rfl 41 (bvs y) (bvs y) hA9 (fun j v h => (by rw [Nat.zero_add]; exact h)) (.array 32 5) Try.underlying41 rfl h32y.out ?_)
            | ((with_reducible show wpList _ _ _ (⟨some 66, .build _ _, _, _, _, _⟩ :: _) _ _); refine wl_buildB rfl 64 65 rfl y y rfl rfl HYL.out HYL.out ?_)
            | ((with_reducible show wpList _ _ _ (⟨none, .store _ _ _, _, _, _, _⟩ :: _) _ _); refine wl_store rfl 62 _ _ rfl g12 0 rfl (b2 y y) rfl 62 _ A12 h64z.out (by rw [h64y.out, h64x.out]; exact (by decide : 0 + 64 ≤ 64)) (b2_one _ _) ?_; intro w10 hA10 hg10 hs10))
          rw [whole_store _ _ (by rw [h64y.out, h64x.out])] at hA10
          go_roundw
          case rel => exact ⟨k + 1, y, y, HLT.out, by go_num, HNE.out.symm, HYL.out, HYL.out, hA10, HKB.out.grown hg10 rfl⟩
          case measure => simp [intOf]; have := HLT.out; omega
        · have hcm' : ((xt : Int) == (m : Int)) = false := by simp; omega
          by_cases hge : m ≤ xf
          · have hge' : (m : Int) ≤ (xf : Int) := by omega
            rw [show stepT m (x0, x1) ((xf, xt), y) = (x0, nodeH x1 y) by unfold stepT; rw [if_neg hcm, if_pos hge]] at HNE
            have HNo := Lib.hid (fun w => Node_any x1 y w HX1.out HYL.out)
            have hNl : (nodeH x1 y).length = 32 := shaL_len _
            obtain ⟨S, hS⟩ : ∃ S, S = nodeH x1 y := ⟨_, rfl⟩
            rw [← hS] at HNE HNo hNl
            have h32S : Hid ((Try.prog.info? 41).map (·.size) = some (bvs S).length) := by show _ = _; rw [bvs_len, hNl]; exact sizeD
            have hS32 : Hid ((bvs S).length = 32) := by show _ = _; rw [bvs_len]; exact hNl
            have HNL := Lib.hid hNl
            clear hS hNl hcm hge
            go_wp2_with (first
              | ((with_reducible show wpList _ _ _ (⟨some 73, .load _ _, _, _, _, _⟩ :: _) _ _); refine wl_load rfl 41 _ rfl g12 32 rfl 62 (b2 x0 x1) (bvs x1) A12 (b2_hi HX0.out) (.array 32 5) Try.underlying41 rfl h321.out ?_)
              | ((with_reducible show wpList _ _ _ (⟨some 74, .load _ _, _, _, _, _⟩ :: _) _ _); refine wl_load rfl 41 _ rfl g15 0 rfl 41 (bvs y) (bvs y) hA9 (fun j v h => (by rw [Nat.zero_add]; exact h)) (.array 32 5) Try.underlying41 rfl h32y.out ?_)
              | (go_at_call 32; refine (HNo.out _).mono ?_; rintro e w10 ⟨rfl, hb10⟩)
              | ((with_reducible show wpList _ _ _ (⟨none, .store _ _ _, _, _, _, _⟩ :: _) _ _); refine wl_store rfl 41 _ _ rfl g12 32 rfl (bvs S) rfl 62 _ (A12.kept hb10) h32S.out (by rw [hS32.out, h64x.out]; exact (by decide : 32 + 32 ≤ 64)) (bvs_one _) ?_; intro w11 hA11 hg11 hs11))
            rw [b2_store HX0.out HX1.out HNL.out] at hA11
            go_roundw
            case rel => exact ⟨k + 1, x0, S, HLT.out, by go_num, HNE.out.symm, HX0.out, HNL.out, hA11, (HKB.out.below hb10).grown hg11 rfl⟩
            case measure => simp [intOf]; have := HLT.out; omega
          · have hge' : ¬ ((m : Int) ≤ (xf : Int)) := by omega
            rw [show stepT m (x0, x1) ((xf, xt), y) = (nodeH y x0, nodeH y x1) by unfold stepT; rw [if_neg hcm, if_neg hge]] at HNE
            have HN0 := Lib.hid (fun w => Node_any y x0 w HYL.out HX0.out)
            have HN1 := Lib.hid (fun w => Node_any y x1 w HYL.out HX1.out)
            have hN0 : (nodeH y x0).length = 32 := shaL_len _
            have hN1 : (nodeH y x1).length = 32 := shaL_len _
            obtain ⟨S0, hS0⟩ : ∃ S, S = nodeH y x0 := ⟨_, rfl⟩
            obtain ⟨S1, hS1⟩ : ∃ S, S = nodeH y x1 := ⟨_, rfl⟩
            rw [← hS0] at HNE HN0 hN0
            rw [← hS1] at HNE HN1 hN1
            have hS64 : Hid ((b2 S0 S1).length = 64) := b2_len hN0 hN1
            have h64S : Hid ((Try.prog.info? 62).map (·.size) = some (b2 S0 S1).length) := by show _ = _; rw [hS64.out]; exact sizeB
            have HL0 := Lib.hid hN0
            have HL1 := Lib.hid hN1
            have HA15 : Hid (∀ wx, Below w9.heap.size w9 wx → Arr wx g15 41 (bvs y)) := fun wx hb => hA9.kept hb
            have HA12 : Hid (∀ wx, Below w9.heap.size w9 wx → Arr wx g12 62 (b2 x0 x1)) := fun wx hb => A12.kept hb
            clear hS0 hS1 hN0 hN1 hcm hge hA9 A12
            go_upto_region 11 with fail
            refine wp_region_steps [[], [], [1], [0, 2], [], [], [5], [4, 6], [3, 7], [8]] (by kernel_rfl) (by kernel_rfl) (fun L a wx => ∃ v50 v51 v52 v53 v54 v55 v56 v57 v58, a = ⟨#[.int .u64 ↑m, .int .u64 ↑n, .agg (bvs d).toArray, .slice (some ⟨pb, po, none⟩) q c, undef, undef, .pointer (some ⟨g4, 0, none⟩), undef, .pointer (some ⟨g8, 0, none⟩), .int .i64 0, .slice (some ⟨rb, ro, none⟩) q rc, .int .i64 0, .pointer (some ⟨g12, 0, none⟩), .int .i64 ↑k, .pointer (some ⟨g14, 0, none⟩), .pointer (some ⟨g15, 0, none⟩), .tuple #[.slice (some ⟨rb, ro, none⟩) q rc, .int .i64 0], .int .u64 ↑m, .int .u64 ↑n, .tuple #[.slice (some ⟨rb, ro, none⟩) q rc, .int .i64 0], .slice (some ⟨rb, ro, none⟩) q rc, .int .i64 0, .int .i64 0, .bool false, undef, undef, .int .u64 ↑m, .bool false, .bool false, .slice (some ⟨pb, po, none⟩) q c, .int .i64 ↑q, .slice (some ⟨rb, ro, none⟩) q rc, .int .i64 ↑q, .bool false, .bool false, undef, .agg (bvs d).toArray, .agg (bvs d).toArray, .agg (b2 d d).toArray, .slice (some ⟨rb, ro, none⟩) q rc, .int .i64 ↑q, .int .i64 ↑k, .bool true, .int .i64 ↑k, .pointer (some ⟨rb, ro + k * 2, none⟩), .agg (encR (xf, xt)).toArray, .slice (some ⟨pb, po, none⟩) q c, .int .i64 ↑k, .pointer (some ⟨pb, po + k * 32, none⟩), .agg (bvs y).toArray, v50, v51, v52, v53, v54, v55, v56, v57, v58, .bool false, .pointer (some ⟨g14, 1, none⟩), .int .u64 ↑xt, .int .u64 ↑m, .bool false, u64, u65, u66, .bool false, .pointer (some ⟨g14, 0, none⟩), .int .u64 ↑xf, .int .u64 ↑m, .bool false, u72, u73, u74, u75, u76, u77, undef], []⟩ ∧ InvTold d x0 x1 y S0 S1 m n q c k xf xt pb po rb ro rc g4 g8 g12 g14 g15 w9 L v50 v51 v52 v53 v54 v55 v56 v57 v58 wx) ?_ ⟨?_, ?_, ?_, ?_, ?_, ?_, ?_, ?_, ?_, ?_, trivial⟩ ?_
            · refine ⟨_, _, _, _, _, _, _, _, _, rfl, ⟨?_, ?_, ?_, ?_, ?_, ?_, ?_, ?_, ?_, fun _ => (Below.refl _ _).drew, fun h => absurd h (by decide)⟩⟩ <;> (intro h; exact absurd h (by decide))
            · rintro L a wx ⟨v50, v51, v52, v53, v54, v55, v56, v57, v58, rfl, hI⟩ hL hdep hcl K hK
              refine ow_load 41 _ rfl g15 0 rfl 41 (bvs y) (bvs y) (HA15.out wx (hI.bw (by cases hq : L 9 with | false => rfl | true => have h4 := (hcl 3 (by decide) (hcl 8 (by decide) (hcl 9 (by decide) hq 8 (by decide)) 3 (by decide)) 0 (by decide)); rw [hL] at h4; cases h4))) (fun j v h => by rw [Nat.zero_add]; exact h) (.array 32 5) Try.underlying41 rfl h32y.out ?_
              exact hK _ _ ⟨_, v51, v52, v53, v54, v55, v56, v57, v58, rfl, ⟨fun _ => rfl, hI.t1, hI.t2, hI.t3, hI.t4, hI.t5, hI.t6, hI.t7, hI.t8, hI.bw, hI.fin⟩⟩
            · rintro L a wx ⟨v50, v51, v52, v53, v54, v55, v56, v57, v58, rfl, hI⟩ hL hdep hcl K hK
              go_simp
              exact hK _ _ ⟨v50, _, v52, v53, v54, v55, v56, v57, v58, rfl, ⟨hI.t0, fun _ => rfl, hI.t2, hI.t3, hI.t4, hI.t5, hI.t6, hI.t7, hI.t8, hI.bw, hI.fin⟩⟩
            · rintro L a wx ⟨v50, v51, v52, v53, v54, v55, v56, v57, v58, rfl, hI⟩ hL hdep hcl K hK
              obtain rfl := hI.t1 (hdep 1 (by decide))
              refine ow_load 41 _ rfl g12 0 rfl 62 (b2 x0 x1) (bvs x0) (HA12.out wx (hI.bw (by cases hq : L 9 with | false => rfl | true => have h4 := (hcl 3 (by decide) (hcl 8 (by decide) (hcl 9 (by decide) hq 8 (by decide)) 3 (by decide)) 2 (by decide)); rw [hL] at h4; cases h4))) (b2_lo) (.array 32 5) Try.underlying41 rfl h320.out ?_
              exact hK _ _ ⟨v50, _, _, v53, v54, v55, v56, v57, v58, rfl, ⟨hI.t0, hI.t1, fun _ => rfl, hI.t3, hI.t4, hI.t5, hI.t6, hI.t7, hI.t8, hI.bw, hI.fin⟩⟩
            · rintro L a wx ⟨v50, v51, v52, v53, v54, v55, v56, v57, v58, rfl, hI⟩ hL hdep hcl K hK
              obtain rfl := hI.t0 (hdep 0 (by decide))
              obtain rfl := hI.t2 (hdep 2 (by decide))
              have HC := HN0.out wx
              go_simp
              refine HC.mono ?_
              rintro e w' ⟨rfl, hb⟩
              exact hK _ _ ⟨_, v51, _, _, v54, v55, v56, v57, v58, rfl, ⟨hI.t0, hI.t1, hI.t2, fun _ => rfl, hI.t4, hI.t5, hI.t6, hI.t7, hI.t8, fun h => ((hI.bw) h).trans (hb.mono ((hI.bw) h).size), fun h => absurd (show L 9 = true from h) (by rw [show L 9 = false from (by cases hq : L 9 with | false => rfl | true => have h4 := (hcl 8 (by decide) (hcl 9 (by decide) hq 8 (by decide)) 3 (by decide)); rw [hL] at h4; cases h4)]; decide)⟩⟩
            · rintro L a wx ⟨v50, v51, v52, v53, v54, v55, v56, v57, v58, rfl, hI⟩ hL hdep hcl K hK
              refine ow_load 41 _ rfl g15 0 rfl 41 (bvs y) (bvs y) (HA15.out wx (hI.bw (by cases hq : L 9 with | false => rfl | true => have h4 := (hcl 7 (by decide) (hcl 8 (by decide) (hcl 9 (by decide) hq 8 (by decide)) 7 (by decide)) 4 (by decide)); rw [hL] at h4; cases h4))) (fun j v h => by rw [Nat.zero_add]; exact h) (.array 32 5) Try.underlying41 rfl h32y.out ?_
              exact hK _ _ ⟨v50, v51, v52, v53, _, v55, v56, v57, v58, rfl, ⟨hI.t0, hI.t1, hI.t2, hI.t3, fun _ => rfl, hI.t5, hI.t6, hI.t7, hI.t8, hI.bw, hI.fin⟩⟩
            · rintro L a wx ⟨v50, v51, v52, v53, v54, v55, v56, v57, v58, rfl, hI⟩ hL hdep hcl K hK
              go_simp
              exact hK _ _ ⟨v50, v51, v52, v53, v54, _, v56, v57, v58, rfl, ⟨hI.t0, hI.t1, hI.t2, hI.t3, hI.t4, fun _ => rfl, hI.t6, hI.t7, hI.t8, hI.bw, hI.fin⟩⟩
            · rintro L a wx ⟨v50, v51, v52, v53, v54, v55, v56, v57, v58, rfl, hI⟩ hL hdep hcl K hK
              obtain rfl := hI.t5 (hdep 5 (by decide))
              refine ow_load 41 _ rfl g12 32 rfl 62 (b2 x0 x1) (bvs x1) (HA12.out wx (hI.bw (by cases hq : L 9 with | false => rfl | true => have h4 := (hcl 7 (by decide) (hcl 8 (by decide) (hcl 9 (by decide) hq 8 (by decide)) 7 (by decide)) 6 (by decide)); rw [hL] at h4; cases h4))) (b2_hi HX0.out) (.array 32 5) Try.underlying41 rfl h321.out ?_
              exact hK _ _ ⟨v50, v51, v52, v53, v54, _, _, v57, v58, rfl, ⟨hI.t0, hI.t1, hI.t2, hI.t3, hI.t4, hI.t5, fun _ => rfl, hI.t7, hI.t8, hI.bw, hI.fin⟩⟩
            · rintro L a wx ⟨v50, v51, v52, v53, v54, v55, v56, v57, v58, rfl, hI⟩ hL hdep hcl K hK
              obtain rfl := hI.t4 (hdep 4 (by decide))
              obtain rfl := hI.t6 (hdep 6 (by decide))
              have HC := HN1.out wx
              go_simp
              refine HC.mono ?_
              rintro e w' ⟨rfl, hb⟩
              exact hK _ _ ⟨v50, v51, v52, v53, _, v55, _, _, v58, rfl, ⟨hI.t0, hI.t1, hI.t2, hI.t3, hI.t4, hI.t5, hI.t6, fun _ => rfl, hI.t8, fun h => ((hI.bw) h).trans (hb.mono ((hI.bw) h).size), fun h => absurd (show L 9 = true from h) (by rw [show L 9 = false from (by cases hq : L 9 with | false => rfl | true => have h4 := (hcl 8 (by decide) (hcl 9 (by decide) hq 8 (by decide)) 7 (by decide)); rw [hL] at h4; cases h4)]; decide)⟩⟩
            · rintro L a wx ⟨v50, v51, v52, v53, v54, v55, v56, v57, v58, rfl, hI⟩ hL hdep hcl K hK
              obtain rfl := hI.t3 (hdep 3 (by decide))
              obtain rfl := hI.t7 (hdep 7 (by decide))
              refine ow_of_wl rfl ?_
              refine wl_buildB rfl 53 57 rfl S0 S1 rfl rfl HL0.out HL1.out ?_
              refine wpList_nil ?_
              show K _ _
              exact hK _ _ ⟨v50, v51, v52, _, v54, v55, v56, _, _, rfl, ⟨hI.t0, hI.t1, hI.t2, hI.t3, hI.t4, hI.t5, hI.t6, hI.t7, fun _ => rfl, hI.bw, hI.fin⟩⟩
            · rintro L a wx ⟨v50, v51, v52, v53, v54, v55, v56, v57, v58, rfl, hI⟩ hL hdep hcl K hK
              obtain rfl := hI.t8 (hdep 8 (by decide))
              refine ow_store 62 _ _ rfl g12 0 rfl (b2 S0 S1) rfl 62 _ (HA12.out wx (hI.bw hL)) h64S.out (by rw [hS64.out, h64x.out]; exact (by decide : 0 + 64 ≤ 64)) (b2_one _ _) ?_
              intro w' hA' hg' hs'
              rw [whole_store _ _ (by rw [hS64.out, h64x.out])] at hA'
              have hbw := hI.bw hL
              exact hK _ _ ⟨v50, v51, v52, v53, v54, v55, v56, v57, _, rfl, ⟨hI.t0, hI.t1, hI.t2, hI.t3, hI.t4, hI.t5, hI.t6, hI.t7, hI.t8, fun h => (nomatch (show true = false from h)), fun _ => ⟨wx, hbw, hA', hg'⟩⟩⟩
            · rintro a wx ⟨v50, v51, v52, v53, v54, v55, v56, v57, v58, rfl, hI⟩
              obtain ⟨wy, hw, A12', hg⟩ := hI.fin rfl
              clear hI
              go_wp2_with fail
              go_roundw
              case rel => exact ⟨k + 1, S0, S1, HLT.out, by go_num, HNE.out.symm, HL0.out, HL1.out, A12', (HKB.out.below hw).grown hg rfl⟩
              case measure => simp [intOf]; have := HLT.out; omega
      · obtain rfl : k = q := by omega
        have hc : ¬ ((k : Int) < (k : Int)) := by omega
        rw [List.take_of_length_le (by rw [List.length_zip, HRN.out, hl]; omega)] at hhe
        have HHE := Lib.hid hhe
        have h64x : Hid ((b2 x0 x1).length = 64) := b2_len hx0 hx1
        have h64h : Hid ((Try.prog.info? 62).map (·.size) = some (b2 x0 x1).length) := by show _ = _; rw [h64x.out]; exact sizeB
        have A8r := hkb.block g8 A8.lt (fun e => h81 e)
        have A8' : Arr wr g8 62 (b2 (Z8 32) (Z8 32)) := A8r.trans A8
        have z5 := hkb.size
        clear hhe hx0 hx1 hk hR5 hP5 A8 A8r hPb hRb hl hlen h81
        go_wp2_with (first
          | ((with_reducible show wpList _ _ _ (⟨some 78, .load _ _, _, _, _, _⟩ :: _) _ _); refine wl_load rfl 62 _ rfl g12 0 rfl 62 (b2 x0 x1) (b2 x0 x1) hAh (fun j v h => (by rw [Nat.zero_add]; exact h)) (.array 2 41) Try.underlying62 rfl h64h.out ?_)
          | ((with_reducible show wpList _ _ _ (⟨none, .store _ _ _, _, _, _, _⟩ :: _) _ _); refine wl_store rfl 62 _ _ rfl g8 0 rfl (b2 x0 x1) rfl 62 _ A8' h64h.out (by rw [h64x.out]; exact (by decide : 0 + 64 ≤ (b2 (Z8 32) (Z8 32)).length)) (b2_one _ _) ?_; intro w6 hA6 hg6 hs6))
        rw [whole_store _ _ (by rw [h64x.out]; rfl)] at hA6
        refine end_cell2 rfl g8 62 (b2 x0 x1) (.array 2 41) (.int .i64 0) rfl hA6 Try.underlying62 rfl h64h.out rfl rfl ⟨by rw [← HHE.out], ?_⟩
        have b5 := B05.out
        have hg4 := HG4.out
        have bs := b5.size
        subst hg4
        have b6 : Below w.heap.size w wr := b5.trans (hkb.under (fun q e => by omega) bs)
        exact b6.grown hg6 (by omega) (by intro q e; injection e with e; omega)
end Go.Proofs.Ytcnnblhjgligbaa
