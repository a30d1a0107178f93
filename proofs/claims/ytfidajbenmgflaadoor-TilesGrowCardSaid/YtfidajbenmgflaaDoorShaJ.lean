/-
  The document's own answer: the hash of bytes. Conditions: those in each statement.
-/
import Derived.Test.YtfidajbenmgflaaDoorMgS
namespace Go.Proofs.YtfidajbenmgflaaDoor
open Go.RowKit

theorem rd_lit (w : World) (cs : List UInt8) (E : TypeId) (fr : Nat × Nat := (0, 0)) : Rd (w.alloc (.cells (cs.map bv).toArray E fr)) (some ⟨w.heap.size, 0, none⟩) cs.length cs.length cs := by
  refine ⟨rfl, Nat.le_refl _, by (intro e; cases e), fun _ => ⟨w.heap.size, 0, rfl, by simp, fun j hj => ?_⟩⟩
  rw [cell_of_row _ w.heap.size _ _ E fr (heap_alloc_new w _)]
  simp [bv, List.getD, hj]

def zz (xs : List UInt8) (k : Nat) : List UInt8 := xs ++ ([128] ++ List.replicate k 0)
theorem zz_len (xs : List UInt8) (k : Nat) : (zz xs k).length = xs.length + 1 + k := by simp [zz]; omega
theorem zz_snoc (xs : List UInt8) (k : Nat) : zz xs k ++ [0] = zz xs (k + 1) := by simp [zz, List.replicate_succ']
theorem zz_pad (xs : List UInt8) : zz xs (nz xs.length) ++ digits (8 * xs.length) 8 = padM xs := by simp [zz, padM, padB]

set_option maxRecDepth 100000 in
set_option maxHeartbeats 1600000 in
theorem rSum_any (xs : List UInt8) (a : Option Addr) (n cap : Nat) (w : World) (hx : xs.length ≤ 140737488354000) (hr : Rd w a n cap xs) :
    Calls Tryd.prog 38 #[.slice a n cap] w (Hash xs w) := by
  have hz := nz_lt xs.length
  have hlen := hr.len
  subst hlen
  have hn0 := Own.nil w w.heap.size 5
  go_enter Tryd.func38, Tryd.ntmps38
  go_wp2_with (first
    | ((with_reducible show wpList _ _ _ (⟨some 2, .alloc _, _, _, _, _⟩ :: _) _ _); refine wl_alloc rfl 48 rfl (bvs (Z8 32)) 32 infoD ?_; intro w1 hA1 hb1 hs1)
    | ((with_reducible show wpList _ _ _ (⟨some 13, _, _, _, _, _⟩ :: _) _ _); go_loud (refine wl_append bt rfl _ _ rfl w1.heap.size _ [] (Own.nil _ _ _) rfl a xs.length cap xs rfl (hr.to hb1) (by simp only [List.length_nil]; omega) (Nat.le_refl _) ?_); intro v2 w2 ho2 hb2; obtain ⟨a2, c2, rfl, hsh2⟩ := ho2.shape)
    | ((with_reducible show wpList _ _ _ (⟨some 16, _, _, _, _, _⟩ :: _) _ _); go_loud (refine wl_append bt rfl _ _ rfl w1.heap.size _ _ (ho2.to ((Below.refl _ _).alloc (Nat.le_refl _) _)) rfl _ 1 1 [128] rfl (rd_lit _ [128] _) (by simp; omega) (by have := hb2.size; simp; omega) ?_); intro v3 w3 ho3 hb3; obtain ⟨a3, c3, rfl, hsh3⟩ := ho3.shape))
  generalize hg : w.heap.size = g0 at *
  have HG := Lib.hid hg
  clear hg
  generalize hB1 : w1.heap.size = B1 at *
  have HB1 := Lib.hid hB1
  clear hB1 hn0
  have hA3 : Arr w3 g0 48 (bvs (Z8 32)) := ((hA1.to hb2 hs1).to ((Below.refl _ _).alloc (Nat.le_refl _) _) (by have := hb2.size; have := HB1.out; omega)).to hb3 hs1
  have hB3 : Below g0 w w3 := ((hb1.trans (hb2.mono (Nat.le_of_lt hs1))).alloc (by have := hb2.size; have := HB1.out; omega) _).trans (hb3.mono (Nat.le_of_lt hs1))
  have hb13 : B1 ≤ w3.heap.size := by have h1 := hb3.size; have h2 := hb2.size; have h3 := HB1.out; rw [World.size_alloc] at h1; omega
  have ho4 : Own w3 B1 5 (.slice a3 (xs.length + 1) c3) (zz xs 0) := by
    have h := ho3
    have e : ([] ++ xs ++ [128]).length = xs.length + 1 := by simp
    rw [e] at h
    exact h
  clear ho2 ho3 hb1 hb2 hb3 hsh2 hsh3 hA1
  go_loopw [3] (fun v wr => ∃ (k : Nat) (p : Option Addr) (c : Nat), k ≤ nz xs.length ∧ v = .slice p (xs.length + 1 + k) c ∧ Own wr B1 5 v (zz xs k) ∧ Arr wr g0 48 (bvs (Z8 32)) ∧ Below g0 w wr ∧ B1 ≤ wr.heap.size) (fun v _ => xs.length + 1 + nz xs.length - slen v)
  case atStart => exact ⟨0, a3, c3, Nat.zero_le _, rfl, ho4, hA3, hB3, hb13⟩
  case round =>
    obtain ⟨k, p, c, hk, rfl, ho, hA, hB, hs⟩ := hrel
    by_cases hlt : k < nz xs.length
    · have ht : (((xs.length + 1 + k : Nat) : Int) % 64 != 56) = true := by
        rw [bne_iff_ne]
        unfold nz at hlt
        omega
      push_cast at ht
      have hl4 : Hid ((zz xs k ++ [0]).length = xs.length + 1 + (k + 1)) := by show _ = _; rw [zz_snoc, zz_len]
      go_wp2_with ((with_reducible show wpList _ _ _ (⟨some 23, _, _, _, _, _⟩ :: _) _ _); go_loud (refine wl_append bt rfl _ _ rfl B1 _ _ (ho.to ((Below.refl _ _).alloc (Nat.le_refl _) _)) rfl _ 1 1 [0] rfl (rd_lit _ [0] _) (by rw [zz_len]; omega) (by simp; omega) ?_); intro v4 w4 ho4 hb4; obtain ⟨a4, c4, rfl, hsh4⟩ := ho4.shape; simp only [hl4.out] at ho4 ⊢)
      go_roundw
      case rel =>
        rw [zz_snoc] at ho4
        have x1 := hb4.size
        have x2 : wr.heap.size + 1 ≤ w4.heap.size := by rw [World.size_alloc] at x1; exact x1
        exact ⟨k + 1, a4, c4, by omega, by first | rfl | (congr 1), ho4, (hA.to ((Below.refl _ _).alloc (Nat.le_refl _) _) hA.lt).to hb4 (by have := HB1.out; omega), (hB.alloc (by have := hA.lt; omega) _).trans (hb4.mono (by omega)), by omega⟩
      case measure =>
        simp only [slen]
        omega
    · have hk : k = nz xs.length := by omega
      rw [hk] at ho
      have ht : (((xs.length + 1 + k : Nat) : Int) % 64 != 56) = false := by
        rw [bne_eq_false_iff_eq, hk]
        unfold nz
        omega
      push_cast at ht
      clear hlt hA3 hB3 ho4
      go_wp2_with (at_make; refine wl_make bt rfl _ _ rfl wr.heap.size 8 rfl rfl (by omega) (Nat.le_refl _) ?_; intro w5 ho5 hb5 hs5)
      have hB5 : Hid (∀ w', Below wr.heap.size w5 w' → Own w' B1 5 (.slice p (xs.length + 1 + nz xs.length) c) (zz xs (nz xs.length)) ∧ Arr w' g0 48 (bvs (Z8 32)) ∧ Below g0 w w' ∧ B1 ≤ w'.heap.size) := fun w' h => by
        have hb := hb5.trans h
        exact ⟨ho.to hb, hA.kept hb, hB.trans (hb.mono (by have := hA.lt; omega)), Nat.le_trans hs hb.size⟩
      clear ho hA hB hs hb5 hb13 ht
      generalize hB2 : wr.heap.size = B2 at *
      clear hB2
      have hdl := digits_len (8 * xs.length) 8
      have HDL := Lib.hid hdl
      go_loopw [4, 6] (fun x i wq => ∃ j q : Nat, j ≤ 8 ∧ Hid (q = (8 * xs.length) / 256 ^ j) ∧ q ≤ 18446744073709551615 ∧ i = .int .i64 ((8 : Int) - 1 - j) ∧ x = .int .u64 (q : Int) ∧ Own wq B2 5 (.slice (some ⟨B2, 0, none⟩) 8 8) (List.replicate (8 - j) 0 ++ (digits (8 * xs.length) 8).drop (8 - j)) ∧ Below B2 w5 wq) (fun x i _ => (intOf i + 1).toNat)
      case atStart => exact ⟨0, 8 * xs.length, Nat.zero_le _, (by simp : 8 * xs.length = 8 * xs.length / 256 ^ 0), by omega, by go_num, by go_num, by simpa [List.drop_of_length_le (Nat.le_of_eq hdl)] using ho5, Below.refl _ _⟩
      case round =>
        obtain ⟨j, qq, hj, Hq, hq, rfl, rfl, ho, hb⟩ := hrel
        by_cases hlt : j < 8
        · have hcl := Own.cellAt ho (8 - 1 - j) (by omega)
          have hfr := Own.frozenAt ho (8 - 1 - j)
          have hst := Own.stored ho (8 - 1 - j) (digit (8 * xs.length) 8 (8 - 1 - j))
          rw [down_step (8 * xs.length) 8 j hlt] at hst
          have hd : (((digit (8 * xs.length) 8 (8 - 1 - j)).toNat : Nat) : Int) = (qq : Int) % 256 := by
            simp only [digit, UInt8.toNat_ofNat', show 8 - 1 - (8 - 1 - j) = j from by omega]
            rw [← Hq.out]; omega
          rw [hd] at hst
          have Hq' : Hid (qq / 256 = 8 * xs.length / 256 ^ (j + 1)) := by
            show _ = _
            rw [Hq.out, Nat.div_div_eq_div_mul, Nat.pow_succ]
          have e7 : ((8 : Int) - 1 - (j : Int)).toNat = 8 - 1 - j := by omega
          clear hd hdl
          go_wp2
          go_roundw
          case rel => exact ⟨j + 1, qq / 256, by omega, Hq', by omega, by go_num, by go_num, by simpa using hst, hb.setCell (Nat.le_refl _) _⟩
          case measure => simp [intOf]; omega
        · obtain rfl : j = 8 := by omega
          clear hlt hj
          simp only [Nat.sub_self, List.replicate_zero, List.nil_append, List.drop_zero] at ho
          obtain ⟨hm, hA, hB, hs⟩ := hB5.out _ hb
          have hpl := padM_len xs
          have hpm := padM_mod xs
          obtain ⟨mB, hmB⟩ : ∃ mB, (padM xs).length = 64 * mB := ⟨(padM xs).length / 64, by omega⟩
          have hmb2 : 64 * mB ≤ xs.length + 72 := by omega
          have hfin : Hid (shaL xs = dig (bl (padM xs) mB)) := by
            show _ = _
            unfold shaL shaR
            rw [hmB, Nat.mul_div_cancel_left _ (by omega : 0 < 64)]
          have hM : Hid ((zz xs (nz xs.length) ++ digits (8 * xs.length) 8) = padM xs) := zz_pad xs
          clear hpl hpm
          generalize padM xs = M at *
          have hzl := zz_len xs (nz xs.length)
          have HZL := Lib.hid hzl
          clear hdl hzl Hq
          rw [show (8 : Int) - 1 - ((8 : Nat) : Int) = -1 from rfl]
          go_wp2_with (first
            | ((with_reducible show wpList _ _ _ (⟨some 43, _, _, _, _, _⟩ :: _) _ _); go_loud (refine wl_append bt rfl _ _ rfl B1 _ _ hm rfl _ 8 8 (digits (8 * xs.length) 8) rfl ho.rd.toRd (by rw [HZL.out]; omega) hs ?_); intro v6 w6 ho6 hb6; rw [hM.out] at ho6; obtain ⟨a6, c6, rfl, hsh6⟩ := ho6.shape)
            | (go_at_call 54; refine (rfirst_any _).mono ?_; rintro e w7 ⟨rfl, hb7⟩)
            | ((with_reducible show wpList _ _ _ (⟨some 7, .alloc _, _, _, _, _⟩ :: _) _ _); refine wl_alloc rfl 105 rfl (qs (Z 8)) 8 info8 ?_; intro w8 hA8 hb8 hs8)
            | ((with_reducible show wpList _ _ _ (⟨none, .store _ _ _, _, _, _, _⟩ :: _) _ _); refine wl_store rfl 105 _ _ rfl w7.heap.size 0 rfl (qs H0) rfl 105 _ hA8 (by rw [size8]; rfl) (by decide) (qs_one _) ?_; intro w9 hA9 hg9 hs9))
          have ho7 := ho6.to hb7
          have hA7 := (hA.to hb6 (by have := hA.lt; omega)).kept hb7
          have hB7 := (hB.trans (hb6.mono (by have := hA.lt; omega))).trans (hb7.mono (by have h1 := hb6.size; have := hA.lt; omega))
          rw [hmB] at ho7
          have hB8 : Hid (∀ w', Below w7.heap.size w7 w' → Own w' B1 5 (.slice a6 (64 * mB) c6) M ∧ Arr w' g0 48 (bvs (Z8 32)) ∧ Below g0 w w') := fun w' h => ⟨ho7.to h, hA7.kept h, hB7.trans (h.mono (Nat.le_of_lt hA7.lt))⟩
          have hsh7 : Hid (∀ ad, a6 = some ad → ad.block < w7.heap.size) := fun ad e => Nat.lt_of_lt_of_le (hsh6 ad e).2 hb7.size
          rw [whole_store _ _ (by rfl)] at hA9
          have hb9 := hb8.grown hg9 (Nat.le_of_lt hs8) (by intro k e; injection e with e; omega)
          have hcapM := ho7.rd.le
          clear ho6 hb6 hb7 hA hB ho7 hA7 hB7 hA8 hg9 hb8 hm ho hsh6
          generalize hg7 : w7.heap.size = g7 at *
          go_wp2_with fail
          go_loopw [8] (fun i wr => ∃ k : Nat, k ≤ mB ∧ i = .int .i64 ((64 * k : Nat) : Int) ∧ Arr wr g7 105 (qs (bl M k).list) ∧ Below g7 w7 wr) (fun i _ => 64 * mB - (intOf i).toNat)
          case atStart => exact ⟨0, by omega, rfl, hA9, hb9⟩
          case round =>
            obtain ⟨k, hk, rfl, hA, hb⟩ := hrel
            by_cases hlt : k < mB
            · have hc : ((64 * k : Nat) : Int) < 64 * (mB : Int) := by omega
              push_cast at hc
              obtain ⟨hoM, -, -⟩ := hB8.out _ hb
              obtain ⟨gm, cm, e, hgm1, hgm2, hcm⟩ := hoM.solid (by omega)
              injection e with e1 e2 e3
              subst e1
              have hrM := hoM.rd
              have hrk := (hrM.drop (64 * k) (by omega)).take 64 (by omega)
              have hkl : ((M.drop (64 * k)).take 64).length = 64 := by simp; omega
              have HRK := Lib.hid hrk
              have HKL := Lib.hid hkl
              have hnext : Hid (bl M (k + 1) = blk (bl M k) ((M.drop (64 * k)).take 64)) := rfl
              clear e2 e3 hrM hoM hkl hrk hcm
              generalize bl M k = s at *
              generalize (M.drop (64 * k)).take 64 = X at *
              have h8 : Hid ((Tryd.prog.info? 105).map (·.size) = some (qs s.list).length) := by show _ = _; rw [qs_len]; exact size8
              have hkm : 64 * k + 64 ≤ 64 * mB := by omega
              obtain ⟨kk, hkk⟩ : ∃ kk, 64 * k = kk := ⟨_, rfl⟩
              have hkm' : kk + 64 ≤ 64 * mB := by omega
              have hck : (kk : Int) < 64 * (mB : Int) := by omega
              rw [hkk] at HRK ⊢
              have HKK := Lib.hid hkk
              clear hkk hc hkm
              go_upto_region 18 with fail
              have hA' := hA.drew
              have hb' := hb.drew
              have HR2 := Lib.hid (rd_drew HRK.out.toRd)
              refine wp_region_still_tail 6 (by kernel_rfl) (by kernel_rfl) ?_
              simp only [List.take_succ_cons, List.take_zero, List.drop_succ_cons, List.drop_zero]
              change wpStill _ _ wr.drew _ _ _
              refine wpStill_plain rfl (fun K hK => ?_)
              refine still_load 105 _ rfl g7 0 rfl 105 _ (qs s.list) hA' (fun j v h => by rw [Nat.zero_add]; exact h) (.array 8 104) Tryd.underlying105 rfl h8.out (hK _ ?_)
              clear hK K
              have e64 : IntKind.i64.wrap ((kk : Int) + 64) = (kk : Int) + 64 := IntWalk.i64_in _ (by omega)
              have f1 : (kk : Int) ≤ (kk : Int) + 64 := by omega
              have f2 : (kk : Int) + 64 ≤ (c6 : Int) := by omega
              have f3 : (0 : Int) ≤ (kk : Int) + 64 := by omega
              have f4 : ((kk : Int) + 64).toNat = kk + 64 := by omega
              have f5 : ¬ c6 = kk := by omega
              have f6 : kk + 64 - kk = 64 := by omega
              repeat still_step
              refine wpStill_nil ?_
              change wpList _ _ _ _ _ wr.drew
              generalize wr.drew = wz at *
              have hbk : Hid (∀ w, Rd w (some ⟨gm, 0 + kk, none⟩) 64 (c6 - kk) X → Calls Tryd.prog 55 #[.agg (qs s.list).toArray, .slice (some ⟨gm, 0 + kk, none⟩) 64 (c6 - kk)] w (Tab (blk s X).list w)) := fun w h => rBlock_any s X _ _ HKL.out w h
              have hbq := qs_one (blk s X).list
              have h8b : Hid ((Tryd.prog.info? 105).map (·.size) = some (qs (blk s X).list).length) := by show _ = _; rw [qs_len]; exact size8
              have h8l : Hid ((qs (blk s X).list).length = 8) := by show _ = _; rw [qs_len]; rfl
              unfold Tab at hbk
              rw [Nat.zero_add] at hbk HR2
              rw [← hnext.out] at hbk h8b h8l hbq
              generalize hs2 : (bl M (k + 1)).list = s2 at *
              have HS2 := Lib.hid hs2
              clear hs2
              go_wp2_with (first
                | (go_at_call 55; go_loud (refine (hbk.out _ HR2.out).mono ?_); rintro e w10 ⟨rfl, hb10⟩)
                | ((with_reducible show wpList _ _ _ (⟨none, .store _ _ _, _, _, _, _⟩ :: _) _ _); go_loud (refine wl_store rfl 105 _ _ rfl g7 0 rfl (qs s2) rfl 105 _ (hA'.kept hb10) h8b.out (by rw [h8l.out, qs_len]; exact Nat.le_refl 8) hbq ?_); intro w11 hA11 hg11 hs11))
              have hl11 : (qs s.list).length = (qs s2).length := by rw [h8l.out, qs_len]; rfl
              rw [whole_store _ _ hl11] at hA11
              have x1 := hb10.size
              have x2 := hA'.lt
              have hb11 := (hb'.trans (hb10.mono (Nat.le_of_lt x2))).grown hg11 (by omega) (by intro k e; injection e with e; omega)
              go_roundw
              case rel => exact ⟨k + 1, by omega, by rw [show 64 * (k + 1) = kk + 64 by have := HKK.out; omega]; rfl, by rw [HS2.out]; exact hA11, hb11⟩
              case measure => simp [intOf]; omega
            · have hkm : k = mB := by omega
              have hc : ¬ (((64 * k : Nat) : Int) < 64 * (mB : Int)) := by omega
              rw [← hkm] at hfin
              have hsl : Hid ((bl M k).list.length = 8) := rfl
              have HKM := Lib.hid hkm
              clear hkm
              generalize bl M k = s at *
              generalize ((64 * k : Nat) : Int) = kk at *
              go_wp2_with ((with_reducible show wpList _ _ _ (⟨some 9, .alloc _, _, _, _, _⟩ :: _) _ _); refine wl_alloc rfl 48 rfl (bvs (Z8 32)) 32 infoD ?_; intro w12 hA12 hb12 hs12)
              obtain ⟨-, hAd, hBd⟩ := hB8.out _ hb
              have hK12 : Hid (∀ w', Below wr.heap.size w12 w' → Arr w' g7 105 (qs s.list) ∧ Arr w' g0 48 (bvs (Z8 32)) ∧ Below g0 w w') := fun w' h => by
                have h2 := hb12.trans h
                exact ⟨hA.kept h2, hAd.kept h2, hBd.trans (h2.mono (Nat.le_of_lt hAd.lt))⟩
              clear hA hb hAd hBd hb12
              generalize hg9 : wr.heap.size = g9 at *
              clear hg9
              have hD0 : Arr w12 g9 48 (bvs (digI s 0)) := hA12
              clear hA12
              go_loopw [10] (fun i wr => ∃ k : Nat, k ≤ 32 ∧ i = .int .i64 k ∧ Arr wr g9 48 (bvs (digI s k)) ∧ Below g9 w12 wr) (fun i _ => 32 - (intOf i).toNat)
              case atStart => exact ⟨0, by omega, rfl, hD0, Below.refl _ _⟩
              case round =>
                obtain ⟨k, hk, rfl, hD, hb⟩ := hrel
                by_cases hlt : k < 32
                · have hc : (k : Int) < 32 := by omega
                  obtain ⟨hA7, -, -⟩ := hK12.out _ hb
                  have hq : Hid (s.list.length = 8) := rfl
                  have cx := (hA7.cell (k / 4)).trans (qs_get s.list (k / 4) (by rw [hq.out]; omega))
                  have hdl := digI_len s k (by omega)
                  have c0 := (hD.cell k).trans (bvs_get _ k (by rw [hdl]; exact hlt))
                  have f0 := hD.frozen k
                  have hst := hD.store k (.int .u8 ((digB s k).toNat : Int))
                  rw [bvs_set, digI_step s k hlt] at hst
                  have hv : Hid ((((digB s k).toNat : Nat) : Int) = ((s.list.getD (k / 4) 0).toNat : Int) / 2 ^ (24 - 8 * (k % 4)) % 256) := by
                    show _ = _
                    unfold digB
                    simp
                  have hxl := u32_lt (s.list.getD (k / 4) 0)
                  rw [hv.out] at hst
                  have hb' := hb.setCell (p := ⟨g9, k, none⟩) (Nat.le_refl _) (.int .u8 (((s.list.getD (k / 4) 0).toNat : Int) / 2 ^ (24 - 8 * (k % 4)) % 256))
                  generalize s.list.getD (k / 4) 0 = x at *
                  have e4 : ((k : Int) / 4).toNat = k / 4 := by omega
                  have e5 : ((24 : Int) - 8 * ((k : Int) % 4)).toNat = 24 - 8 * (k % 4) := by omega
                  have e6 : (0 : Int) ≤ (24 : Int) - 8 * ((k : Int) % 4) := by omega
                  have e7 : (k : Int) / 4 < 8 := by omega
                  clear hA7 hD hdl hb
                  go_wp2
                  go_roundw
                  case rel => exact ⟨k + 1, by omega, by go_num, hst, hb'⟩
                  case measure => simp [intOf]; omega
                · have hk32 : k = 32 := by omega
                  have hc : ¬ (k : Int) < 32 := by omega
                  obtain ⟨-, hR, hB⟩ := hK12.out _ hb
                  rw [hk32, digI_end, ← hfin.out] at hD
                  clear hk32
                  have hdl := shaL_len xs
                  have HDL : Hid ((Tryd.prog.info? 48).map (·.size) = some (bvs (shaL xs)).length) := by show _ = _; rw [bvs_len, hdl]; exact sizeD
                  have HDL2 : Hid ((bvs (shaL xs)).length = 32) := by show _ = _; rw [bvs_len, hdl]
                  have h1 := bvs_one (shaL xs)
                  clear hdl
                  obtain ⟨D, hDD⟩ : ∃ D, D = shaL xs := ⟨_, rfl⟩
                  rw [← hDD] at hD HDL HDL2 h1
                  have HDD := Lib.hid hDD
                  clear hDD
                  go_wp2_with (first
                    | ((with_reducible show wpList _ _ _ (⟨some 75, .load _ _, _, _, _, _⟩ :: _) _ _); refine wl_load rfl 48 _ rfl g9 0 rfl 48 (bvs D) (bvs D) hD (fun j v h => by rw [Nat.zero_add]; exact h) (.array 32 5) Tryd.underlying48 rfl HDL.out ?_)
                    | ((with_reducible show wpList _ _ _ (⟨none, .store _ _ _, _, _, _, _⟩ :: _) _ _); refine wl_store rfl 48 _ _ rfl g0 0 rfl (bvs D) rfl 48 _ hR HDL.out (by rw [HDL2.out]; exact (by decide : 0 + 32 ≤ (bvs (Z8 32)).length)) h1 ?_; intro w15 hA15 hg15 hs15))
                  rw [whole_store _ _ (by rw [HDL2.out]; rfl)] at hA15
                  exact end_cell rfl g0 48 (bvs D) (.array 32 5) rfl hA15 Tryd.underlying48 rfl HDL.out rfl ⟨by rw [HDD.out], HG.out ▸ hB.grown hg15 (Nat.le_of_lt hR.lt) (by intro k e; injection e with e; omega)⟩
end Go.Proofs.YtfidajbenmgflaaDoor
