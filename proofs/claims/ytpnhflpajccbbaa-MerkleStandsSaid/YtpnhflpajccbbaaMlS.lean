/-
  Layer 8: MerkleStands as a call. Conditions: those in each statement.
-/
import Derived.Test.YtpnhflpajccbbaaMkZ
import Derived.Test.YtpnhflpajccbbaaMkW
namespace Go.Proofs.Ytpnhflpajccbbaa
open Go.RowKit

structure InvStands (S : List UInt8) (ba ca j e q ce k G g12 : Nat) (wb : World) (L : Nat → Bool) (v : Nat → Value) (wx : World) : Prop where
  t0 : L 0 = true → (v 81) = .int .i64 0
  t1 : L 1 = true → (v 82) = .bool true
  t2 : L 2 = true → (v 83) = .bool true
  t3 : L 3 = true → (v 84) = .agg (bvs S).toArray
  t4 : L 4 = true → (v 85) = .slice (some ⟨ba, 0, none⟩) j ca
  t5 : L 5 = true → (v 86) = .int .i64 (e : Int)
  t6 : L 6 = true → (v 87) = .pointer (some ⟨ba, e, none⟩)
  t7 : L 7 = true → (v 88) = .slice (some ⟨G, 0, none⟩) q ce
  t8 : L 8 = true → (v 89) = .int .i64 (k : Int)
  t9 : L 9 = true → (v 90) = .pointer (some ⟨G, k * 32, none⟩)
  t10 : L 10 = true → (v 91) = .agg (bvs S).toArray
  t11 : L 11 = true → (v 92) = .bool true
  t12 : L 12 = true → (v 93) = .bool true
  t13 : L 13 = true → (v 94) = .bool true
  t14 : L 14 = true → (v 95) = .bool true
  t15 : L 15 = true → (v 96) = .bool true
  t16 : L 16 = true → (v 6) = .bool true
  a12 : Arr wx g12 25 (bvs S)
  bw : Below wb.heap.size wb wx


set_option maxRecDepth 100000 in
set_option maxHeartbeats 3200000 in
theorem Stands_any (L : List (List UInt8)) (al : Option Addr) (n c : Nat) (lv ix : Nat) (w : World) (hn : n ≤ 2 ^ 42) (hlv : lv ≤ 255) (hix : ix ≤ 255) (hr : RdD w al n c L) :
    Calls Try.prog 6 #[.slice al n c, .int .u8 (lv : Int), .int .u8 (ix : Int)] w fun e w' => e = .returned (.bool true) ∧ Below w.heap.size w w' := by
  have hl := hr.len
  have hLa := Levels_any L al n c w hn hr
  go_enter Try.func6, Try.ntmps6
  go_upto_region 2 with (go_at_call 13; refine hLa.mono ?_; rintro e w1 ⟨va, i, rfl, hi1, hi2, hSa, hba⟩)
  clear hLa
  have hne : ∀ j, j < (levs L i).length → 0 < ((levs L i).getD j []).length := fun j hj => by
    rw [levs_len] at hj
    rw [levs_get L i j hj, chunks_len, hl]
    exact Nat.div_pos (hi2 j hj) (Nat.two_pow_pos j)
  obtain ⟨pa, ca, rfl, hca, hRA'⟩ := hSa.at hne
  have hlh := levs_len L i
  have hi42 : i ≤ 2 ^ 42 := by
    rcases Nat.lt_or_ge 0 i with h | h
    · have h1 := hi2 (i - 1) (by omega)
      have h2 : i - 1 < 2 ^ (i - 1) := Nat.lt_two_pow_self
      omega
    · omega
  rw [hlh] at hca hRA' ⊢
  have HRA : Hid (0 < i → ∃ (ba : Nat) (ga cc : Nat → Nat), pa = some ⟨ba, 0, none⟩ ∧ ∀ j, j < i → w1.cell? ⟨ba, j, none⟩ = some (.slice (some ⟨ga j, 0, none⟩) (n / 2 ^ j) (cc j)) ∧ RdD w1 (some ⟨ga j, 0, none⟩) (n / 2 ^ j) (cc j) (chunks L j)) := fun h0 => by
    obtain ⟨b, ga, cc, e, hR⟩ := hRA' h0
    refine ⟨b, ga, cc, e, fun j hj => ?_⟩
    have h1 := hR.cell j (by rw [hlh]; exact hj)
    have h2 := (hR.own j (by rw [hlh]; exact hj)).rdAt
    rw [levs_get L i j hj, chunks_len, hl] at h1 h2
    exact ⟨h1, h2⟩
  have HHI : Hid (∀ j, j < i → 0 < n / 2 ^ j) := fun j hj => Nat.div_pos (hi2 j hj) (Nat.two_pow_pos j)
  have HEND : Hid (n / 2 ^ i = 0) := Nat.div_eq_of_lt hi1
  have HR1 := Lib.hid (hr.to hba)
  have HBA := Lib.hid hba
  have HBAs := Lib.hid hba.size
  have HI1 := Lib.hid hi1
  have HI42 := Lib.hid hi42
  clear hne hRA' hSa hba hlh hi1 hi2 hi42
  obtain ⟨h, hh⟩ : ∃ h, h = i := ⟨_, rfl⟩
  rw [← hh] at HRA HHI HEND HI1 HI42 hca ⊢
  clear hh
  go_upto_region 3 with fail
  go_wp2_with fail
  go_loopw [9, 8] (fun jj nn wr => ∃ j : Nat, j ≤ h ∧ jj = .int .i64 (j : Int) ∧ nn = .int .i64 ((n / 2 ^ j : Nat) : Int) ∧ wr = w1) (fun jj _ _ => h - (intOf jj).toNat)
  case atStart => exact ⟨0, Nat.zero_le _, rfl, by simp, rfl⟩
  case round =>
    obtain ⟨j, hj, rfl, rfl, rfl⟩ := hrel
    by_cases hlt : j < h
    · obtain ⟨ba, ga, cc, rfl, hrow⟩ := HRA.out (by omega)
      have hcell := (hrow j hlt).1
      have hpos := HHI.out j hlt
      have hjh : (j : Int) < (h : Int) := by omega
      have hj0 : (0 : Int) ≤ (j : Int) := by omega
      have hqq : n / 2 ^ (j + 1) = n / 2 ^ j / 2 := by rw [Nat.pow_succ, Nat.div_div_eq_div_mul]
      obtain ⟨q, hq⟩ : ∃ q, q = n / 2 ^ j := ⟨_, rfl⟩
      rw [← hq] at hcell hpos hqq ⊢
      have hqn : q ≤ n := by rw [hq]; exact Nat.div_le_self _ _
      have hh42 := HI42.out
      have e0 : ((q : Int) == 0) = false := by simp only [beq_eq_false_iff_ne]; omega
      have hq2 : (q : Int).tdiv 2 = ((q / 2 : Nat) : Int) := by rw [Int.tdiv_eq_ediv_of_nonneg (by omega)]; omega
      have HQ := Lib.hid hqq
      clear hrow hq hqq
      go_wp2_with fail
      go_roundw
      case rel => exact ⟨j + 1, hlt, by go_num, by rw [HQ.out]; simp, by trivial⟩
      case measure => simp [intOf]; omega
    · obtain rfl : j = h := by omega
      rw [HEND.out]
      have hc : ¬ ((j : Int) < (j : Int)) := by omega
      by_cases h0 : j = 0
      · have hn0 : n = 0 := by have := HI1.out; rw [h0] at this; omega
        subst hn0 h0
        go_wp2_with (go_at_call 16; refine (wakes_any _).mono ?_; rintro e wx ⟨rfl, hbx⟩)
        go_ret
        exact ⟨rfl, HBA.out.trans (hbx.mono HBAs.out)⟩
      · obtain ⟨ba, ga, cc, rfl, hrow⟩ := HRA.out (by omega)
        have e0 : ((j : Int) == 0) = false := by simp only [beq_eq_false_iff_ne]; omega
        obtain ⟨e, he⟩ : ∃ e, e = lv % j := ⟨_, rfl⟩
        have hej : e < j := by rw [he]; exact Nat.mod_lt _ (by omega)
        have hmod : (lv : Int).tmod (j : Int) = (e : Int) := by rw [he]; simp [Int.tmod_eq_emod_of_nonneg]
        have hpos := HHI.out e hej
        have hcell := (hrow e hej).1
        have hrd := (hrow e hej).2
        obtain ⟨q, hq⟩ : ∃ q, q = n / 2 ^ e := ⟨_, rfl⟩
        rw [← hq] at hpos hcell hrd
        obtain ⟨k, hk⟩ : ∃ k, k = ix % q := ⟨_, rfl⟩
        have hkq : k < q := by rw [hk]; exact Nat.mod_lt _ (by omega)
        have hmod2 : (ix : Int).tmod (q : Int) = (k : Int) := by rw [hk]; simp [Int.tmod_eq_emod_of_nonneg]
        have hqn : q ≤ n := by rw [hq]; exact Nat.div_le_self _ _
        have e1 : ((q : Int) == 0) = false := by simp only [beq_eq_false_iff_ne]; omega
        have hk1 : (k + 1) * 2 ^ e ≤ n := by rw [hq] at hkq; exact (Nat.le_div_iff_mul_le (Nat.two_pow_pos e)).1 hkq
        have hpe := Nat.two_pow_pos e
        have hk0 : k * 2 ^ e < (k + 1) * 2 ^ e := by rw [Nat.add_mul]; omega
        have hS := lev_part L e k (by rw [hl]; exact hk1)
        have ej0 : (0 : Int) ≤ (e : Int) := by omega
        have ejh : (e : Int) < (j : Int) := by omega
        clear hrow he hk hq
        go_upto_region 13 with fail
        have he42 : e ≤ 42 := by
          rcases Nat.lt_or_ge 42 e with h1 | h1
          · have h2 : 2 ^ 43 ≤ 2 ^ e := Nat.pow_le_pow_right (by omega) (by omega)
            have h3 : 1 * 2 ^ e ≤ (k + 1) * 2 ^ e := Nat.mul_le_mul_right _ (by omega)
            omega
          · exact h1
        obtain ⟨x, hx⟩ : ∃ x, x = k * 2 ^ e := ⟨_, rfl⟩
        obtain ⟨y, hy⟩ : ∃ y, y = (k + 1) * 2 ^ e := ⟨_, rfl⟩
        rw [← hx, ← hy] at hS hk0
        rw [← hy] at hk1
        have hmin : min (IntKind.u64.wrap (e : Int)).toNat 64 = e := by
          rw [IntKind.wrap_u64]
          omega
        have hx' : ((k : Int) * 2 ^ e) = (x : Int) := by rw [hx]; push_cast; rfl
        have hy' : (((k : Int) + 1) * 2 ^ e) = (y : Int) := by rw [hy]; push_cast; rfl
        have HW1 : Hid (wrap64 ((k : Int) * 2 ^ min (IntKind.u64.wrap (e : Int)).toNat 64) = (x : Int)) := by
          show _ = _
          rw [hmin, hx']
          unfold wrap64
          omega
        have HW2 : Hid (wrap64 (((k : Int) + 1) * 2 ^ min (IntKind.u64.wrap (e : Int)).toNat 64) = (y : Int)) := by
          show _ = _
          rw [hmin, hy']
          unfold wrap64
          omega
        have hok : okP n x y = true := by simp [okP]; omega
        have e1' : subF L x y = (chunks L e).getD k [] := by
          unfold subF
          rw [hl, hok, if_pos rfl, Int.toNat_natCast, Int.toNat_natCast, hS]
        have e2' : subE n x y = 0 := by simp [subE, hok]
        have lS : ((chunks L e).getD k []).length = 32 := hrd.all k (by rw [hrd.len]; exact hkq)
        have hrg := hrd.range k hkq
        rw [Nat.zero_add] at hrg
        have HSub := Sub_any L al n c x y wr (by omega) HR1.out
        rw [e1', e2'] at HSub
        obtain ⟨G, hG⟩ : ∃ g, g = ga e := ⟨_, rfl⟩
        rw [← hG] at hrg hcell
        obtain ⟨ce, hce⟩ : ∃ g, g = cc e := ⟨_, rfl⟩
        rw [← hce] at hcell
        have hGl : G < wr.heap.size := by
          obtain ⟨b, off, e3, hlt, -⟩ := hrd.mem (by omega)
          rw [← hG] at e3
          injection e3 with e3; injection e3 with e3; subst e3; exact hlt
        have hbl : ba < wr.heap.size := by
          rcases Nat.lt_or_ge ba wr.heap.size with h1 | h1
          · exact h1
          · have : wr.cell? ⟨ba, e, none⟩ = none := by simp [World.cell?, h1]
            rw [this] at hcell; cases hcell
        generalize (chunks L e).getD k [] = S at *
        have HCE : Hid (∀ wx, Below wr.heap.size wr wx → wx.cell? ⟨ba, e, none⟩ = some (.slice (some ⟨G, 0, none⟩) q ce)) := fun wx hb => (hb.cell (p := ⟨ba, e, none⟩) hbl).trans hcell
        have HRG : Hid (∀ wx, Below wr.heap.size wr wx → wx.rangeAt G (k * 32) (bvs S)) := fun wx hb j v hj => (hb.cell (p := ⟨G, k * 32 + j, none⟩) hGl).trans (hrg j v hj)
        have IS : Hid ((Try.prog.info? 25).map (·.size) = some (bvs S).length) := by show _ = _; rw [bvs_len, lS]; exact sizeD
        have FS : Hid (0 + (bvs S).length ≤ (bvs (Z8 32)).length) := by show _ ≤ _; rw [bvs_len S, lS]; exact (by decide : 0 + 32 ≤ (bvs (Z8 32)).length)
        have TS : Hid ((bvs (Z8 32)).length = (bvs S).length) := by show _ = _; rw [bvs_len S, lS]; rfl
        have QS : Hid (∀ w, _) := fun w => eqSame lS w
        have HS := Lib.hid HSub
        have HKQ : Hid ((k : Int) < (q : Int)) := by show _ < _; omega
        have HEJ := Lib.hid ejh
        clear hS hk0 hk1 hmin hx hy hx' hy' hok e1' e2' lS hrg hrd hGl hbl hG hce HSub he42 hcell hpe
        go_upto_region 14 with (first
          | (go_at_call 9; rw [HW1.out, HW2.out]; refine (HS.out).mono ?_; rintro e' w2 ⟨rfl, hb2⟩)
          | ((with_reducible show wpList _ _ _ (⟨some 12, .alloc _, _, _, _, _⟩ :: _) _ _); refine wl_alloc rfl 25 rfl (bvs (Z8 32)) 32 infoD ?_; intro w3 hA3 hb3 hs3)
          | ((with_reducible show wpList _ _ _ (⟨none, .store _ (.tmp 12) _, _, _, _, _⟩ :: _) _ _); refine wl_store rfl 25 _ _ rfl w2.heap.size 0 rfl (bvs S) rfl 25 _ hA3 IS.out FS.out (bvs_one _) ?_; intro w4 hA4 hg4 hs4))
        rw [whole_store _ _ TS.out] at hA4
        have hb4 : Below wr.heap.size wr w4 := (hb2.trans (hb3.mono hb2.size)).grown hg4 (by have := hb2.size; have := hb3.size; omega) (by intro k e; injection e with e; have := hb2.size; omega)
        obtain ⟨g12, hg12⟩ : ∃ g, w2.heap.size = g := ⟨_, rfl⟩
        rw [hg12] at hA4 ⊢
        have HB4 := Lib.hid hb4
        clear hb2 hb3 hA3 hg4 hs3 hs4 hg12 hb4
        refine wp_region_steps [[], [0], [1], [2], [2], [2], [4, 5, 2], [6, 2], [2], [7, 8, 2], [9, 2], [3, 10, 2], [2, 11], [12], [13], [13, 14], [15]] (by kernel_rfl) (by kernel_rfl) (fun L a wx => ∃ v : Nat → Value, a = ⟨#[.slice al n c, .int .u8 ↑lv, .int .u8 ↑ix, undef, undef, undef, v 6, .slice (some ⟨ba, 0, none⟩) j ca, .int .i64 0, .int .i64 ↑j, .int .i64 ↑e, .int .i64 ↑k, .pointer (some ⟨g12, 0, none⟩), .int .i64 0, .slice al n c, .slice (some ⟨ba, 0, none⟩) j ca, .slice al n c, .int .i64 ↑n, .int .i64 ↑j, .slice (some ⟨ba, 0, none⟩) j ca, .int .i64 ↑j, .bool false, u22, u23, u24, u25, u26, u27, u28, u29, u30, u31, u32, u33, u34, u35, u36, .int .i64 0, .bool false, .bool false, .slice (some ⟨ba, 0, none⟩) j ca, .int .i64 ↑j, .bool false, .bool false, undef, undef, undef, undef, undef, undef, undef, undef, undef, undef, .int .u8 ↑lv, .int .i64 ↑lv, .slice (some ⟨ba, 0, none⟩) j ca, .int .i64 ↑j, .int .i64 ↑e, .int .u8 ↑ix, .int .i64 ↑ix, .slice (some ⟨ba, 0, none⟩) j ca, .int .i64 ↑e, .pointer (some ⟨ba, e, none⟩), .slice (some ⟨ga e, 0, none⟩) q (cc e), .int .i64 ↑q, .int .i64 ↑k, .tuple #[.agg (bvs S).toArray, .int .i64 0], .slice al n c, .int .i64 ↑k, .int .i64 ↑e, .int .u64 (IntKind.u64.wrap ↑e), .int .i64 ↑x, .int .i64 ↑k, .int .i64 (↑k + 1), .int .i64 ↑e, .int .u64 (IntKind.u64.wrap ↑e), .int .i64 ↑y, .tuple #[.agg (bvs S).toArray, .int .i64 0], .agg (bvs S).toArray, .int .i64 0, v 81, v 82, v 83, v 84, v 85, v 86, v 87, v 88, v 89, v 90, v 91, v 92, v 93, v 94, v 95, v 96], []⟩ ∧ InvStands S ba ca j e q ce k G g12 wr L v wx) ?_ ⟨?_, ?_, ?_, ?_, ?_, ?_, ?_, ?_, ?_, ?_, ?_, ?_, ?_, ?_, ?_, ?_, ?_, trivial⟩ ?_
        · refine ⟨upd (fun _ => undef) 6 (u6), rfl, ⟨?_, ?_, ?_, ?_, ?_, ?_, ?_, ?_, ?_, ?_, ?_, ?_, ?_, ?_, ?_, ?_, ?_, hA4.drew, HB4.out.drew⟩⟩ <;> (intro h; exact absurd h (by decide))
        · rintro L a wx ⟨v, rfl, hI⟩ hL hdep hcl K hK
          go_simp
          exact hK _ _ ⟨(upd v 81 (.int .i64 0)), rfl, ⟨fun _ => rfl, hI.t1, hI.t2, hI.t3, hI.t4, hI.t5, hI.t6, hI.t7, hI.t8, hI.t9, hI.t10, hI.t11, hI.t12, hI.t13, hI.t14, hI.t15, hI.t16, hI.a12, hI.bw⟩⟩
        · rintro L a wx ⟨v, rfl, hI⟩ hL hdep hcl K hK
          have e0 := hI.t0 (hdep 0 (by decide))
          rw [e0]
          go_simp
          exact hK _ _ ⟨(upd (upd v 81 (.int .i64 0)) 82 (.bool true)), rfl, ⟨fun _ => rfl, fun _ => rfl, hI.t2, hI.t3, hI.t4, hI.t5, hI.t6, hI.t7, hI.t8, hI.t9, hI.t10, hI.t11, hI.t12, hI.t13, hI.t14, hI.t15, hI.t16, hI.a12, hI.bw⟩⟩
        · rintro L a wx ⟨v, rfl, hI⟩ hL hdep hcl K hK
          have e1 := hI.t1 (hdep 1 (by decide))
          rw [e1]
          go_simp
          exact hK _ _ ⟨(upd (upd v 82 (.bool true)) 83 (.bool true)), rfl, ⟨hI.t0, fun _ => rfl, fun _ => rfl, hI.t3, hI.t4, hI.t5, hI.t6, hI.t7, hI.t8, hI.t9, hI.t10, hI.t11, hI.t12, hI.t13, hI.t14, hI.t15, hI.t16, hI.a12, hI.bw⟩⟩
        · rintro L a wx ⟨v, rfl, hI⟩ hL hdep hcl K hK
          have e2 := hI.t2 (hdep 2 (by decide))
          rw [e2]
          refine (if_pos rfl).mpr ?_
          refine ow_load 25 _ rfl g12 0 rfl 25 (bvs S) (bvs S) hI.a12 (fun j v h => by rw [Nat.zero_add]; exact h) (.array 32 5) Try.underlying25 rfl IS.out ?_
          exact hK _ _ ⟨(upd (upd v 83 (.bool true)) 84 (.agg (bvs S).toArray)), rfl, ⟨hI.t0, hI.t1, fun _ => rfl, fun _ => rfl, hI.t4, hI.t5, hI.t6, hI.t7, hI.t8, hI.t9, hI.t10, hI.t11, hI.t12, hI.t13, hI.t14, hI.t15, hI.t16, hI.a12, hI.bw⟩⟩
        · rintro L a wx ⟨v, rfl, hI⟩ hL hdep hcl K hK
          have e2 := hI.t2 (hdep 2 (by decide))
          rw [e2]
          refine (if_pos rfl).mpr ?_
          go_simp
          exact hK _ _ ⟨(upd (upd v 83 (.bool true)) 85 (.slice (some ⟨ba, 0, none⟩) j ca)), rfl, ⟨hI.t0, hI.t1, fun _ => rfl, hI.t3, fun _ => rfl, hI.t5, hI.t6, hI.t7, hI.t8, hI.t9, hI.t10, hI.t11, hI.t12, hI.t13, hI.t14, hI.t15, hI.t16, hI.a12, hI.bw⟩⟩
        · rintro L a wx ⟨v, rfl, hI⟩ hL hdep hcl K hK
          have e2 := hI.t2 (hdep 2 (by decide))
          rw [e2]
          refine (if_pos rfl).mpr ?_
          go_simp
          exact hK _ _ ⟨(upd (upd v 83 (.bool true)) 86 (.int .i64 (e : Int))), rfl, ⟨hI.t0, hI.t1, fun _ => rfl, hI.t3, hI.t4, fun _ => rfl, hI.t6, hI.t7, hI.t8, hI.t9, hI.t10, hI.t11, hI.t12, hI.t13, hI.t14, hI.t15, hI.t16, hI.a12, hI.bw⟩⟩
        · rintro L a wx ⟨v, rfl, hI⟩ hL hdep hcl K hK
          have e4 := hI.t4 (hdep 4 (by decide))
          have e5 := hI.t5 (hdep 5 (by decide))
          have e2 := hI.t2 (hdep 2 (by decide))
          rw [e4, e5, e2]
          refine (if_pos rfl).mpr ?_
          have h2 := HEJ.out
          go_simp
          exact hK _ _ ⟨(upd (upd (upd (upd v 85 (.slice (some ⟨ba, 0, none⟩) j ca)) 86 (.int .i64 (e : Int))) 83 (.bool true)) 87 (.pointer (some ⟨ba, e, none⟩))), rfl, ⟨hI.t0, hI.t1, fun _ => rfl, hI.t3, fun _ => rfl, fun _ => rfl, fun _ => rfl, hI.t7, hI.t8, hI.t9, hI.t10, hI.t11, hI.t12, hI.t13, hI.t14, hI.t15, hI.t16, hI.a12, hI.bw⟩⟩
        · rintro L a wx ⟨v, rfl, hI⟩ hL hdep hcl K hK
          have e6 := hI.t6 (hdep 6 (by decide))
          have e2 := hI.t2 (hdep 2 (by decide))
          rw [e6, e2]
          refine (if_pos rfl).mpr ?_
          have hc := HCE.out wx hI.bw
          go_simp
          exact hK _ _ ⟨(upd (upd (upd v 87 (.pointer (some ⟨ba, e, none⟩))) 83 (.bool true)) 88 (.slice (some ⟨G, 0, none⟩) q ce)), rfl, ⟨hI.t0, hI.t1, fun _ => rfl, hI.t3, hI.t4, hI.t5, fun _ => rfl, fun _ => rfl, hI.t8, hI.t9, hI.t10, hI.t11, hI.t12, hI.t13, hI.t14, hI.t15, hI.t16, hI.a12, hI.bw⟩⟩
        · rintro L a wx ⟨v, rfl, hI⟩ hL hdep hcl K hK
          have e2 := hI.t2 (hdep 2 (by decide))
          rw [e2]
          refine (if_pos rfl).mpr ?_
          go_simp
          exact hK _ _ ⟨(upd (upd v 83 (.bool true)) 89 (.int .i64 (k : Int))), rfl, ⟨hI.t0, hI.t1, fun _ => rfl, hI.t3, hI.t4, hI.t5, hI.t6, hI.t7, fun _ => rfl, hI.t9, hI.t10, hI.t11, hI.t12, hI.t13, hI.t14, hI.t15, hI.t16, hI.a12, hI.bw⟩⟩
        · rintro L a wx ⟨v, rfl, hI⟩ hL hdep hcl K hK
          have e7 := hI.t7 (hdep 7 (by decide))
          have e8 := hI.t8 (hdep 8 (by decide))
          have e2 := hI.t2 (hdep 2 (by decide))
          rw [e7, e8, e2]
          refine (if_pos rfl).mpr ?_
          have h2 := HKQ.out
          go_simp
          exact hK _ _ ⟨(upd (upd (upd (upd v 88 (.slice (some ⟨G, 0, none⟩) q ce)) 89 (.int .i64 (k : Int))) 83 (.bool true)) 90 (.pointer (some ⟨G, k * 32, none⟩))), rfl, ⟨hI.t0, hI.t1, fun _ => rfl, hI.t3, hI.t4, hI.t5, hI.t6, fun _ => rfl, fun _ => rfl, fun _ => rfl, hI.t10, hI.t11, hI.t12, hI.t13, hI.t14, hI.t15, hI.t16, hI.a12, hI.bw⟩⟩
        · rintro L a wx ⟨v, rfl, hI⟩ hL hdep hcl K hK
          have e9 := hI.t9 (hdep 9 (by decide))
          have e2 := hI.t2 (hdep 2 (by decide))
          rw [e9, e2]
          refine (if_pos rfl).mpr ?_
          refine wp_load_mid 25 _ rfl G (k * 32) rfl (bvs S) (.array 32 5) (HRG.out wx hI.bw) Try.underlying25 rfl IS.out ?_
          exact hK _ _ ⟨(upd (upd (upd v 90 (.pointer (some ⟨G, k * 32, none⟩))) 83 (.bool true)) 91 (.agg (bvs S).toArray)), rfl, ⟨hI.t0, hI.t1, fun _ => rfl, hI.t3, hI.t4, hI.t5, hI.t6, hI.t7, hI.t8, fun _ => rfl, fun _ => rfl, hI.t11, hI.t12, hI.t13, hI.t14, hI.t15, hI.t16, hI.a12, hI.bw⟩⟩
        · rintro L a wx ⟨v, rfl, hI⟩ hL hdep hcl K hK
          have e3 := hI.t3 (hdep 3 (by decide))
          have e10 := hI.t10 (hdep 10 (by decide))
          have e2 := hI.t2 (hdep 2 (by decide))
          rw [e3, e10, e2]
          refine (if_pos rfl).mpr ?_
          have hq := QS.out wx
          go_simp
          exact hK _ _ ⟨(upd (upd (upd (upd v 84 (.agg (bvs S).toArray)) 91 (.agg (bvs S).toArray)) 83 (.bool true)) 92 (.bool true)), rfl, ⟨hI.t0, hI.t1, fun _ => rfl, fun _ => rfl, hI.t4, hI.t5, hI.t6, hI.t7, hI.t8, hI.t9, fun _ => rfl, fun _ => rfl, hI.t12, hI.t13, hI.t14, hI.t15, hI.t16, hI.a12, hI.bw⟩⟩
        · rintro L a wx ⟨v, rfl, hI⟩ hL hdep hcl K hK
          have e2 := hI.t2 (hdep 2 (by decide))
          have e11 := hI.t11 (hdep 11 (by decide))
          rw [e2, e11]
          go_simp
          exact hK _ _ ⟨(upd (upd (upd v 83 (.bool true)) 92 (.bool true)) 93 (.bool true)), rfl, ⟨hI.t0, hI.t1, fun _ => rfl, hI.t3, hI.t4, hI.t5, hI.t6, hI.t7, hI.t8, hI.t9, hI.t10, fun _ => rfl, fun _ => rfl, hI.t13, hI.t14, hI.t15, hI.t16, hI.a12, hI.bw⟩⟩
        · rintro L a wx ⟨v, rfl, hI⟩ hL hdep hcl K hK
          have e12 := hI.t12 (hdep 12 (by decide))
          rw [e12]
          go_simp
          exact hK _ _ ⟨(upd (upd v 93 (.bool true)) 94 (.bool true)), rfl, ⟨hI.t0, hI.t1, hI.t2, hI.t3, hI.t4, hI.t5, hI.t6, hI.t7, hI.t8, hI.t9, hI.t10, hI.t11, fun _ => rfl, fun _ => rfl, hI.t14, hI.t15, hI.t16, hI.a12, hI.bw⟩⟩
        · rintro L a wx ⟨v, rfl, hI⟩ hL hdep hcl K hK
          have e13 := hI.t13 (hdep 13 (by decide))
          rw [e13]
          refine (if_pos rfl).mpr ?_
          go_simp
          refine (wakes_any wx).mono ?_
          rintro e' w' ⟨rfl, hb⟩
          exact hK _ _ ⟨(upd (upd v 94 (.bool true)) 95 (.bool true)), rfl, ⟨hI.t0, hI.t1, hI.t2, hI.t3, hI.t4, hI.t5, hI.t6, hI.t7, hI.t8, hI.t9, hI.t10, hI.t11, hI.t12, fun _ => rfl, fun _ => rfl, hI.t15, hI.t16, (hI.a12).kept hb, (hI.bw).trans (hb.mono (hI.bw).size)⟩⟩
        · rintro L a wx ⟨v, rfl, hI⟩ hL hdep hcl K hK
          have e13 := hI.t13 (hdep 13 (by decide))
          have e14 := hI.t14 (hdep 14 (by decide))
          rw [e13, e14]
          go_simp
          exact hK _ _ ⟨(upd (upd (upd v 94 (.bool true)) 95 (.bool true)) 96 (.bool true)), rfl, ⟨hI.t0, hI.t1, hI.t2, hI.t3, hI.t4, hI.t5, hI.t6, hI.t7, hI.t8, hI.t9, hI.t10, hI.t11, hI.t12, fun _ => rfl, fun _ => rfl, fun _ => rfl, hI.t16, hI.a12, hI.bw⟩⟩
        · rintro L a wx ⟨v, rfl, hI⟩ hL hdep hcl K hK
          have e15 := hI.t15 (hdep 15 (by decide))
          rw [e15]
          go_simp
          exact hK _ _ ⟨(upd (upd v 96 (.bool true)) 6 (.bool true)), rfl, ⟨hI.t0, hI.t1, hI.t2, hI.t3, hI.t4, hI.t5, hI.t6, hI.t7, hI.t8, hI.t9, hI.t10, hI.t11, hI.t12, hI.t13, hI.t14, fun _ => rfl, fun _ => rfl, hI.a12, hI.bw⟩⟩
        · rintro a wx ⟨v, rfl, hI⟩
          have e' := hI.t16 rfl
          rw [e']
          have hbw := hI.bw
          clear hI e'
          go_wp2
          go_ret
          exact ⟨rfl, HBA.out.trans (hbw.mono HBAs.out)⟩
end Go.Proofs.Ytpnhflpajccbbaa
