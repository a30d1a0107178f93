/-
  A tree that is kept in tiles, leaf by leaf. Conditions: those in each statement.
-/
import Derived.Test.YtfidajbenmgflaaDoorTgB
import Derived.Test.YtfidajbenmgflaaDoorRegF
import Derived.Deep.CutBlock
namespace Go.Proofs.YtfidajbenmgflaaDoor
open Go.RowKit

theorem run_guardNe (x y : Operand) (A B : Array Value) (w : World) : (eqGuard .neq 48 x y (.agg A) (.agg B)).run Tryd.prog w = .ok () w := by
  unfold eqGuard
  simp
theorem ow_neS {o : Oper} {a : Act} {K : Act → World → Prop} {Q : Exit → Act → World → Prop} {w : World} (x y : Operand) (r : TypeId) (ho : o.op = .binOp .neq 48 x y r) (xs : List UInt8) (hl : xs.length = 32) (hx : a.eval x = .agg (bvs xs).toArray) (hy : a.eval y = .agg (bvs xs).toArray)
    (hK : K (a.put o.dst (.bool false)) w) : o.wp Tryd.prog a w K Q := by
  have h := neD hl hl w
  rw [decide_eq_true rfl] at h
  unfold Oper.wp execOp
  simp only [ho, hx, hy, Sem.run_bind, Sem.run_pure, run_guardNe, h, Result.andThen_ok]
  exact hK

structure InvTg9 (M : List (List UInt8)) (d : List UInt8) (vr : List Value) (ra : Option Addr) (q rc g3 g5 k B pb po nl cl i : Nat) (d0 : List UInt8) (W0 : World) (L_ : Nat → Bool) (v30 v31 v32 v33 v34 v35 v36 v37 : Value) (wx : World) : Prop where
  t0 : L_ 0 = true → v30 = .int .i64 ↑k
  t1 : L_ 1 = true → v31 = .int .i64 ↑k
  t2 : L_ 2 = true → v32 = .pointer (some ⟨g3, k, none⟩)
  t3 : L_ 3 = true → v33 = .slice ra q rc
  t4 : L_ 4 = true → v34 = .agg (bvs d).toArray
  t5 : L_ 5 = true → ∃ gq, v35 = .slice (some ⟨gq, 0, none⟩) 1 1 ∧ Arr wx gq 48 (bvs d) ∧ W0.heap.size ≤ gq
  t6 : L_ 6 = true → OwnD wx B v36 (M ++ [d]) ∧ ∀ z, v36.ownBlock = some z → (Value.slice ra q rc).ownBlock = some z ∨ W0.heap.size ≤ z
  t7 : L_ 7 = true → v37 = .pointer (some ⟨g3, k, none⟩)
  kb : KB (fun j => j = g3 ∨ (Value.slice ra q rc).ownBlock = some j) W0 wx
  ob : L_ 6 = false → OwnD wx B (.slice ra q rc) M
  a3 : L_ 8 = false → Arr wx g3 56 vr
  fin : L_ 8 = true → Arr wx g3 56 (vr.set k v36)
  a5 : Arr wx g5 48 (bvs d)
structure InvTg20 (a2 : Option Addr) (m c2 A R Z s g3 k i : Nat) (W0 : World) (L_ : Nat → Bool) (v : Nat → Value) (wx : World) : Prop where
  t0 : L_ 0 = true → (v 70) = .int .u64 ↑A
  t1 : L_ 1 = true → (v 71) = .int .i64 (A : Int)
  t2 : L_ 2 = true → (v 72) = .int .i64 (Z : Int)
  t3 : L_ 3 = true → (v 73) = .int .i64 ↑R
  t4 : L_ 4 = true → (v 74) = .int .i64 (m : Int)
  t5 : L_ 5 = true → (v 75) = .int .i64 ↑k
  t6 : L_ 6 = true → (v 76) = .pointer (some ⟨g3, k, none⟩)
  t7 : L_ 7 = true → (v 77) = .slice a2 m c2
  t8 : L_ 8 = true → (v 78) = .int .i64 (m : Int)
  t9 : L_ 9 = true → (v 79) = .bool false
  t10 : L_ 10 = true → (v 80) = .bool false
  t11 : L_ 11 = true → (v 81) = .int .i64 ↑R
  t12 : L_ 12 = true → (v 82) = .bool false
  t13 : L_ 13 = true → (v 83) = .bool false
  t14 : L_ 14 = true → (v 84) = .bool false
  t15 : L_ 15 = true → (v 85) = .int .i64 ↑R
  t16 : L_ 16 = true → (v 86) = .bool false
  t17 : L_ 17 = true → (v 87) = .bool false
  t18 : L_ 18 = true → (v 88) = .bool false
  t19 : L_ 19 = true → (v 89) = .int .i64 ↑i
  t20 : L_ 20 = true → (v 90) = .int .i64 (s : Int)
  t21 : L_ 21 = true → (v 91) = .int .u64 (s : Int)
  t22 : L_ 22 = true → (v 92) = .int .i64 ↑k
  t23 : L_ 23 = true → (v 93) = .int .u64 (m : Int)
  t24 : L_ 24 = true → (v 94) = .int .i64 ↑k
  t25 : L_ 25 = true → (v 95) = .pointer (some ⟨g3, k, none⟩)
  t26 : L_ 26 = true → (v 96) = .slice a2 m c2
  t27 : L_ 27 = true → (v 97) = .int .i64 (m : Int)
  t28 : L_ 28 = true → (v 98) = .int .u64 (m : Int)
  t29 : L_ 29 = true → (v 99) = .bool false
  t30 : L_ 30 = true → (v 100) = .bool false
  kb : KB (fun _ => False) W0 wx
structure InvTg29 (ga pb : Nat) (gz po j N J0 J1 j1 m c2 cl g3 k i : Nat) (x : List UInt8) (W0 : World) (L_ : Nat → Bool) (v : Nat → Value) (wx : World) : Prop where
  t0 : L_ 0 = true → (v 117) = .int .i64 ↑k
  t1 : L_ 1 = true → (v 118) = .pointer (some ⟨g3, k, none⟩)
  t2 : L_ 2 = true → (v 119) = .slice (some ⟨ga, gz, none⟩) m c2
  t3 : L_ 3 = true → (v 120) = .int .i64 ↑j
  t4 : L_ 4 = true → (v 121) = .pointer (some ⟨ga, gz + j * 32, none⟩)
  t5 : L_ 5 = true → (v 122) = .agg (bvs x).toArray
  t6 : L_ 6 = true → (v 123) = .slice (some ⟨pb, po, none⟩) i cl
  t7 : L_ 7 = true → (v 124) = .int .i64 ↑j
  t8 : L_ 8 = true → (v 125) = .int .i64 (↑N)
  t9 : L_ 9 = true → (v 126) = .int .i64 (J0 : Int)
  t10 : L_ 10 = true → (v 127) = .int .i64 ↑j
  t11 : L_ 11 = true → (v 128) = .int .i64 (j1 : Int)
  t12 : L_ 12 = true → (v 129) = .int .i64 (↑N)
  t13 : L_ 13 = true → (v 130) = .int .i64 (J1 : Int)
  t14 : L_ 14 = true → (v 131) = .slice (some ⟨pb, po + J0 * 32, none⟩) N (cl - J0)
  t15 : L_ 15 = true → (v 132) = .agg (bvs x).toArray
  t16 : L_ 16 = true → (v 133) = .bool false
  bw : Below W0.heap.size W0 wx
set_option maxRecDepth 100000 in
set_option maxHeartbeats 12800000 in
theorem Grow_any (L : List (List UInt8)) (pl : Option Addr) (nl cl : Nat) (w : World) (hT : Tabs w) (hnl : nl ≤ 2 ^ 42) (hr : RdD w pl nl cl L) :
    Calls Tryd.prog 6 #[.slice pl nl cl] w fun e w' => e = .returned (.bool true) ∧ Below w.heap.size w w' := by
  have HR := Lib.hid hr
  have HNL := Lib.hid hnl
  have HLL := Lib.hid hr.len
  have HW : Hid (∀ W, Below w.heap.size w W → Calls Tryd.prog 15 #[] W fun e w' => e = .returned (.bool true) ∧ Below W.heap.size W w') := fun W hb => wakes_any W (hT.to hb)
  clear hT hr
  go_enter Tryd.func6, Tryd.ntmps6
  go_wp2_with ((with_reducible show wpList _ _ _ (⟨some 3, .alloc _, _, _, _, _⟩ :: _) _ _); go_loud (refine wl_alloc rfl 56 rfl six0 6 info6 ?_); intro w1 hA1 hb1 hs1)
  obtain ⟨g3, hg3⟩ : ∃ g, g = w.heap.size := ⟨_, rfl⟩
  obtain ⟨B, hB⟩ : ∃ B, B = w.heap.size + 1 := ⟨_, rfl⟩
  rw [← hg3] at hA1 ⊢
  have HG3 : Hid (g3 < B ∧ w.heap.size ≤ g3 ∧ w.heap.size ≤ B) := by show _ ∧ _ ∧ _; omega
  have HB1 : Hid (B ≤ w1.heap.size) := by show B ≤ _; omega
  have HI1 := Lib.hid (RowsI.zero hA1 HG3.out.1 L)
  have HL1 := Lib.hid hb1
  clear hA1 hb1 hs1 hg3 hB
  go_loopw [4] (fun ix wr => ∃ (i : Nat) (vs : List Value), i ≤ nl ∧ ix = .int .i64 (i : Int) ∧ RowsI wr B g3 vs (fun j => chunks (L.take i) (4 * j)) ∧ Below w.heap.size w wr ∧ B ≤ wr.heap.size) (fun ix _ => nl - (intOf ix).toNat)
  case atStart => exact ⟨0, six0, Nat.zero_le _, rfl, HI1.out, HL1.out, HB1.out⟩
  case round =>
    obtain ⟨i, vs, hi, rfl, hI, hbr, hBr⟩ := hrel
    clear HI1 HL1 HB1
    by_cases hlt : i < nl
    · have hlti : (i : Int) < (nl : Int) := by omega
      have hi0 : (0 : Int) ≤ (i : Int) := by omega
      have HLT := Lib.hid hlt
      obtain ⟨d0, hd0⟩ : ∃ d, d = L.getD i [] := ⟨_, rfl⟩
      obtain ⟨pb, po, hpe, hpb, hpc⟩ := HR.out.mem (by omega)
      subst hpe
      have hrg : wr.rangeAt pb (po + i * 32) (bvs d0) := by rw [hd0]; exact (HR.out.to hbr).range i hlt
      have HD0 : Hid (d0.length = 32) := by
        show d0.length = 32
        have hl := HLL.out
        rw [hd0]
        refine HR.out.all.mem ?_
        rw [List.getD, List.getElem?_eq_getElem (by omega)]
        exact List.getElem_mem _
      have h32 : Hid ((Tryd.prog.info? 48).map (·.size) = some (bvs d0).length) := by show _ = _; rw [bvs_len, HD0.out]; exact sizeD
      have HI := Lib.hid hI
      have HBR := Lib.hid hbr
      have HSZ := Lib.hid hBr
      have HD := Lib.hid hd0
      clear hpb hpc hI hbr hBr hd0 hlt hi
      go_upto_block 2 with (first
        | ((with_reducible show wpList _ _ _ (⟨some 25, .load _ _, _, _, _, _⟩ :: _) _ _); go_loud (refine wpList_load_mid rfl 48 _ rfl pb (po + i * 32) rfl (bvs d0) (.array 32 5) hrg Tryd.underlying48 rfl h32.out ?_))
        | ((with_reducible show wpList _ _ _ (⟨some 5, .alloc _, _, _, _, _⟩ :: _) _ _); go_loud (refine wl_alloc rfl 48 rfl (bvs (Z8 32)) 32 infoD1 ?_); intro w2 hA2 hb2 hs2)
        | ((with_reducible show wpList _ _ _ (⟨none, .store _ _ _, _, _, _, _⟩ :: _) _ _); go_loud (refine wl_store rfl 48 _ _ rfl wr.heap.size 0 rfl (bvs d0) rfl 48 _ hA2 h32.out (by rw [bvs_len, bvs_len, HD0.out]; exact (by decide : 0 + 32 ≤ (Z8 32).length)) (bvs_one _) ?_); intro w3 hA3 hg3 hs3))
      rw [whole_store _ _ (by rw [bvs_len, bvs_len, HD0.out]; rfl)] at hA3
      have hb3 : Below wr.heap.size wr w3 := hb2.grown hg3 hb2.size (fun k hk => by injection hk with hk; omega)
      obtain ⟨g5, hg5⟩ : ∃ g, g = wr.heap.size := ⟨_, rfl⟩
      go_simp
      rw [← hg5] at hA3 ⊢
      have HI3 := Lib.hid (HI.out.to hb3)
      have HB3 := Lib.hid (HBR.out.trans (hb3.mono HBR.out.size))
      have HS3 : Hid (B ≤ w3.heap.size) := Nat.le_trans HSZ.out hb3.size
      have HG5 : Hid (B ≤ g5) := by show B ≤ _; rw [hg5]; exact HSZ.out
      have HN5 : Hid (∀ j, j < 6 → ¬ (vs.getD j undef).ownBlock = some g5) := fun j hj e => by have := (World.ownsRow.lt (HI.out.own j hj).row _ e).2; omega
      have HA5 := Lib.hid hA3
      have HZ : Hid (d0 = rootF (chunk L (4 * 0) ((i + 1) / 2 ^ (4 * 0) - 1)) ∧ (i + 1) % 2 ^ (4 * 0) = 0) := by
        refine ⟨?_, by simp [Nat.mod_one]⟩
        have hl := HLL.out
        have hi2 := HLT.out
        have e : chunk L 0 i = [L[i]] := by
          unfold chunk
          rw [Nat.pow_zero, Nat.mul_one, List.drop_eq_getElem_cons (by omega)]
          rfl
        rw [HD.out, Nat.mul_zero, Nat.pow_zero, Nat.div_one, Nat.add_sub_cancel, e, rootF_one, List.getD, List.getElem?_eq_getElem (by omega)]
        rfl
      clear hA2 hA3 hb2 hb3 hg3 hs2 hs3 hrg HI HBR HSZ HD hg5
      go_cut [] from 16 to 100 (fun wx => ∃ vs' : List Value, RowsI wx B g3 vs' (fun j => chunks (L.take (i + 1)) (4 * j)) ∧ Below w.heap.size w wx ∧ B ≤ wx.heap.size)
      case first =>
        go_wp2_with fail
        go_loopw [6] (fun kk wq => ∃ (k : Nat) (vs' : List Value) (d : List UInt8), k ≤ 6 ∧ kk = .int .i64 (k : Int) ∧ RowsI wq B g3 vs' (lvl L i k) ∧ Arr wq g5 48 (bvs d) ∧ d.length = 32 ∧ (d = rootF (chunk L (4 * k) ((i + 1) / 2 ^ (4 * k) - 1)) ∧ (i + 1) % 2 ^ (4 * k) = 0) ∧ (∀ j, j < 6 → ¬ (vs'.getD j undef).ownBlock = some g5) ∧ Below w.heap.size w wq ∧ B ≤ wq.heap.size) (fun kk _ => 6 - (intOf kk).toNat)
        case atStart => exact ⟨0, vs, d0, by omega, rfl, HI3.out.of (fun j _ => rfl), HA5.out, HD0.out, HZ.out, HN5.out, HB3.out, HS3.out⟩
        case round =>
          clear HI3 HA5 HD0 HZ HN5 HB3 HS3 h32
          obtain ⟨k, vr, d, hk, rfl, hI, hA5, hd32, hdd, hn5, hbq, hBq⟩ := hrel
          by_cases hk6 : k < 6
          · have hki : (k : Int) < 6 := by omega
            have hk0 : (0 : Int) ≤ (k : Int) := by omega
            obtain ⟨M, hM⟩ : ∃ M, M = chunks (L.take i) (4 * k) := ⟨_, rfl⟩
            have hRk : lvl L i k k = M := by rw [hM]; exact if_neg (by omega)
            obtain ⟨ra, rc, hva, hcr, hrr⟩ := hI.cell k hk6
            have hIk := hI.own k hk6
            rw [hva] at hIk
            rw [hRk] at hva hcr hrr hIk
            obtain ⟨q, hq⟩ : ∃ q, q = M.length := ⟨_, rfl⟩
            rw [← hq] at hva hcr hrr hIk
            have HIR := Lib.hid hI
            have HA5 := Lib.hid hA5
            have HD32 := Lib.hid hd32
            have HDD := Lib.hid hdd
            have HN5 := Lib.hid hn5
            have HBQ := Lib.hid hbq
            have HSQ := Lib.hid hBq
            have HVA := Lib.hid hva
            have HCR := Lib.hid hcr
            have HIK := Lib.hid hIk
            have HMM := Lib.hid (And.intro hM (And.intro hq hRk))
            have HK6 := Lib.hid hk6
            clear hI hA5 hd32 hdd hn5 hbq hBq hva hcr hIk hrr hM hq hRk hk6 hk
            go_upto_region 9 with fail
            have h32d : Hid ((Tryd.prog.info? 48).map (·.size) = some (bvs d).length) := by show _ = _; rw [bvs_len, HD32.out]; exact sizeD
            have HVK : Hid (vr[k]? = some (.slice ra q rc)) := by show _ = _; rw [HIR.out.got k HK6.out, HVA.out]
            have HLM : Hid (M.length + 1 ≤ 2 ^ 42) := by
              have h1 := HMM.out.1
              have h2 := HLT.out
              have h3 := HNL.out
              have h4 := HLL.out
              show M.length + 1 ≤ _
              rw [h1, chunks_len' _ _ _ (by omega)]
              have := Nat.div_le_self i (2 ^ (4 * k))
              omega
            have HN5K : Hid (some g5 ≠ (Value.slice ra q rc).ownBlock) := fun e => HN5.out k HK6.out (by rw [HVA.out]; exact e.symm)
            have HOG : Hid ((Value.slice ra q rc).ownBlock = none ∨ (Value.slice ra q rc).ownBlock ≠ some g3) := by
              show _ ∨ _
              cases hv : (Value.slice ra q rc).ownBlock with
              | none => exact .inl rfl
              | some j => exact .inr fun e => by injection e with e; have := (HIK.out.lt hv).1; have := HG3.out.1; omega
            refine wp_region_steps [[], [], [1], [2], [], [4], [3, 5], [0], [7, 6]] (by kernel_rfl) (by kernel_rfl) (fun L_ a wx => ∃ v30 v31 v32 v33 v34 v35 v36 v37, a = ⟨#[.slice (some ⟨pb, po, none⟩) nl cl, undef, u2, .pointer (some ⟨g3, 0, none⟩), .int .i64 ↑i, .pointer (some ⟨g5, 0, none⟩), .int .i64 ↑k, u7, u8, u9, u10, u11, u12, undef, undef, undef, .int .i64 ↑i, .slice (some ⟨pb, po, none⟩) nl cl, .int .i64 ↑nl, .bool true, u20, u21, .slice (some ⟨pb, po, none⟩) nl cl, .int .i64 ↑i, .pointer (some ⟨pb, po + i * 32, none⟩), .agg (bvs d0).toArray, .int .i64 ↑k, .bool true, u28, u29, v30, v31, v32, v33, v34, v35, v36, v37, u38, u39, u40, u41, u42, u43, u44, u45, u46, u47, u48, u49, u50, u51, u52, u53, u54, u55, u56, u57, u58, u59, u60, u61, u62, u63, u64, u65, u66, u67, u68, u69, u70, u71, u72, u73, u74, u75, u76, u77, u78, u79, u80, u81, u82, u83, u84, u85, u86, u87, u88, u89, u90, u91, u92, u93, u94, u95, u96, u97, u98, u99, u100, undef, undef, undef, undef, undef, undef, undef, undef, undef, undef, undef, undef, undef, undef, undef, undef, undef, undef, undef, undef, undef, undef, undef, undef, undef, undef, undef, undef, undef, undef, undef, undef, undef, undef], []⟩ ∧ InvTg9 M d vr ra q rc g3 g5 k B pb po nl cl i d0 wr L_ v30 v31 v32 v33 v34 v35 v36 v37 wx) ?_ ⟨?_, ?_, ?_, ?_, ?_, ?_, ?_, ?_, ?_, trivial⟩ ?_
            · refine ⟨_, _, _, _, _, _, _, _, rfl, ⟨?_, ?_, ?_, ?_, ?_, ?_, ?_, ?_, (KB.refl _ _).drew, fun _ => ⟨HIK.out.row, HIK.out.all⟩, fun _ => HIR.out.arr.drew, fun h => absurd h (by decide), HA5.out.drew⟩⟩ <;> (intro h; exact absurd h (by decide))
            · rintro L_ a wx ⟨v30, v31, v32, v33, v34, v35, v36, v37, rfl, hI⟩ hL hdep hcl K hK
              go_simp
              exact hK _ _ ⟨_, v31, v32, v33, v34, v35, v36, v37, rfl, ⟨fun _ => rfl, hI.t1, hI.t2, hI.t3, hI.t4, hI.t5, hI.t6, hI.t7, hI.kb, hI.ob, hI.a3, hI.fin, hI.a5⟩⟩
            · rintro L_ a wx ⟨v30, v31, v32, v33, v34, v35, v36, v37, rfl, hI⟩ hL hdep hcl K hK
              go_simp
              exact hK _ _ ⟨v30, _, v32, v33, v34, v35, v36, v37, rfl, ⟨hI.t0, fun _ => rfl, hI.t2, hI.t3, hI.t4, hI.t5, hI.t6, hI.t7, hI.kb, hI.ob, hI.a3, hI.fin, hI.a5⟩⟩
            · rintro L_ a wx ⟨v30, v31, v32, v33, v34, v35, v36, v37, rfl, hI⟩ hL hdep hcl K hK
              obtain rfl := hI.t1 (hdep 1 (by decide))
              go_simp
              exact hK _ _ ⟨v30, _, _, v33, v34, v35, v36, v37, rfl, ⟨hI.t0, hI.t1, fun _ => rfl, hI.t3, hI.t4, hI.t5, hI.t6, hI.t7, hI.kb, hI.ob, hI.a3, hI.fin, hI.a5⟩⟩
            · rintro L_ a wx ⟨v30, v31, v32, v33, v34, v35, v36, v37, rfl, hI⟩ hL hdep hcl K hK
              obtain rfl := hI.t2 (hdep 2 (by decide))
              have c := ((hI.a3 (by cases hq : L_ 8 with | false => rfl | true => have h4 := hcl 6 (by decide) (hcl 8 (by decide) hq 6 (by decide)) 3 (by decide); rw [hL] at h4; cases h4)).cell k).trans HVK.out
              go_simp
              exact hK _ _ ⟨v30, v31, _, _, v34, v35, v36, v37, rfl, ⟨hI.t0, hI.t1, hI.t2, fun _ => rfl, hI.t4, hI.t5, hI.t6, hI.t7, hI.kb, hI.ob, hI.a3, hI.fin, hI.a5⟩⟩
            · rintro L_ a wx ⟨v30, v31, v32, v33, v34, v35, v36, v37, rfl, hI⟩ hL hdep hcl K hK
              refine ow_load 48 _ rfl g5 0 rfl 48 (bvs d) (bvs d) hI.a5 (fun j v h => by rw [Nat.zero_add]; exact h) (.array 32 5) Tryd.underlying48 rfl h32d.out ?_
              exact hK _ _ ⟨v30, v31, v32, v33, _, v35, v36, v37, rfl, ⟨hI.t0, hI.t1, hI.t2, hI.t3, fun _ => rfl, hI.t5, hI.t6, hI.t7, hI.kb, hI.ob, hI.a3, hI.fin, hI.a5⟩⟩
            · rintro L_ a wx ⟨v30, v31, v32, v33, v34, v35, v36, v37, rfl, hI⟩ hL hdep hcl K hK
              obtain rfl := hI.t4 (hdep 4 (by decide))
              refine ow_of_wl rfl ?_
              refine wl_litD rfl 34 rfl d HD32.out rfl ?_
              intro w' hA' hb
              refine wpList_nil ?_
              show K _ _
              have hsz := hI.kb.size
              exact hK _ _ ⟨v30, v31, v32, v33, _, _, v36, v37, rfl, ⟨hI.t0, hI.t1, hI.t2, hI.t3, hI.t4, fun _ => ⟨wx.heap.size, rfl, hA', hsz⟩, fun h => by obtain ⟨h1, h2⟩ := hI.t6 h; exact ⟨h1.to hb, h2⟩, hI.t7, (hI.kb).below hb, fun h => ((hI.ob) h).to hb, fun h => ((hI.a3) h).kept hb, fun h => ((hI.fin) h).kept hb, (hI.a5).kept hb⟩⟩
            · rintro L_ a wx ⟨v30, v31, v32, v33, v34, v35, v36, v37, rfl, hI⟩ hL hdep hcl K hK
              obtain rfl := hI.t3 (hdep 3 (by decide))
              obtain ⟨gq, e35, hAq, hgq⟩ := hI.t5 (hdep 5 (by decide))
              subst e35
              have hob := hI.ob hL
              have hBs : B ≤ wx.heap.size := Nat.le_trans HSQ.out hI.kb.size
              refine ow_of_wl rfl ?_
              refine wl_appendAt rfl _ _ rfl B (.slice ra q rc) M rfl hob gq d rfl hAq HD32.out HLM.out hBs ?_
              intro v' w' ho' hg' hat'
              refine wpList_nil ?_
              show K _ _
              have hne : ∀ g, g < B ∨ wr.heap.size ≤ g → some g ≠ (Value.slice ra q rc).ownBlock := fun g hg e => by
                have h1 := HIK.out.lt e.symm
                omega
              have hat2 : ∀ z, v'.ownBlock = some z → (Value.slice ra q rc).ownBlock = some z ∨ wr.heap.size ≤ z := fun z hz => by
                have hs := hI.kb.size
                rcases hat' with h | h
                · exact .inl (h.symm.trans hz)
                · exact .inr (by rw [h] at hz; injection hz with hz; omega)
              exact hK _ _ ⟨v30, v31, v32, _, v34, _, _, v37, rfl, ⟨hI.t0, hI.t1, hI.t2, hI.t3, hI.t4, fun _ => ⟨gq, rfl, hAq.grown hg' (hne _ (.inr hgq)), hgq⟩, fun _ => ⟨ho', hat2⟩, hI.t7, hI.kb.trans (KB.by' hg' (fun g e => .inr e)), fun h => (nomatch (show true = false from h)), fun h => (hI.a3 h).grown hg' (hne _ (.inl HG3.out.1)), fun h => (by have h4 := hcl 8 (by decide) (show L_ 8 = true from h) 6 (by decide); rw [hL] at h4; cases h4), hI.a5.grown hg' HN5K.out⟩⟩
            · rintro L_ a wx ⟨v30, v31, v32, v33, v34, v35, v36, v37, rfl, hI⟩ hL hdep hcl K hK
              obtain rfl := hI.t0 (hdep 0 (by decide))
              go_simp
              exact hK _ _ ⟨_, v31, v32, v33, v34, v35, v36, _, rfl, ⟨hI.t0, hI.t1, hI.t2, hI.t3, hI.t4, hI.t5, hI.t6, fun _ => rfl, hI.kb, hI.ob, hI.a3, hI.fin, hI.a5⟩⟩
            · rintro L_ a wx ⟨v30, v31, v32, v33, v34, v35, v36, v37, rfl, hI⟩ hL hdep hcl K hK
              obtain rfl := hI.t7 (hdep 7 (by decide))
              obtain ⟨ho6, hat6⟩ := hI.t6 (hdep 6 (by decide))
              refine ow_store1 37 _ _ rfl g3 k rfl v36 rfl ho6.one.1 ho6.one.2 56 _ (hI.a3 hL) (by kernel_rfl) (by rw [HIR.out.len]; exact HK6.out) ?_
              intro w' hA' hg'
              intro hs'
              have hnb : v36.ownBlock = none ∨ v36.ownBlock ≠ some g3 := by
                cases hv : v36.ownBlock with
                | none => exact .inl rfl
                | some j => exact .inr fun e => by injection e with e; have := (ho6.lt hv).1; have := HG3.out.1; omega
              exact hK _ _ ⟨v30, v31, v32, v33, v34, v35, v36, _, rfl, ⟨hI.t0, hI.t1, hI.t2, hI.t3, hI.t4, fun h => by obtain ⟨gq, e, h1, h2⟩ := hI.t5 h; exact ⟨gq, e, h1.grown hg' (by intro e; injection e with e; have := HG3.out.1; have := HSQ.out; omega), h2⟩, fun _ => ⟨ho6.by hg' hnb, hat6⟩, hI.t7, hI.kb.grown hg' (.inl rfl), fun h => ((hI.ob h).by hg' HOG.out), fun h => (nomatch (show true = false from h)), fun _ => hA', hI.a5.grown hg' (by intro e; injection e with e; have := HG5.out; have := HG3.out.1; omega)⟩⟩
            · rintro a wx ⟨v30, v31, v32, v33, v34, v35, v36, v37, rfl, hI⟩
              have hkb := hI.kb
              obtain ⟨ho6, hat6⟩ := hI.t6 rfl
              have hfin := hI.fin rfl
              have ha5 := hI.a5
              clear hI
              have hI2 : RowsI wx B g3 (vr.set k v36) (lvl L i (k + 1)) := (HIR.out.put k HK6.out v36 (M ++ [d]) (by rw [HVA.out]; exact hkb) hfin ho6 (by rw [HVA.out]; exact hat6)).of (fun j hj => by
                by_cases e : j = k
                · subst e
                  have h1 := level_more (e := 4 * j) (by have := HLT.out; have := HLL.out; omega : i < L.length) HDD.out.2
                  rw [if_pos rfl, lvl, if_pos (by omega), h1, ← HMM.out.1, ← HDD.out.1]
                · rw [if_neg e, lvl, lvl]
                  by_cases e2 : j < k
                  · rw [if_pos e2, if_pos (by omega)]
                  · rw [if_neg e2, if_neg (by omega)])
              have hn5 : ∀ j, j < 6 → ¬ ((vr.set k v36).getD j undef).ownBlock = some g5 := fun j hj => by
                rw [set_at v36 (by rw [HIR.out.len]; exact HK6.out)]
                by_cases e : j = k
                · rw [if_pos e]
                  intro h
                  rcases hat6 g5 h with h1 | h1
                  · exact HN5K.out h1.symm
                  · have := HA5.out.lt; omega
                · rw [if_neg e]; exact HN5.out j hj
              have hbx : Below w.heap.size w wx := HBQ.out.trans (hkb.under (fun j e => by
                have := HG3.out
                rcases e with e | e
                · omega
                · have := (HIK.out.lt e).1; omega) HBQ.out.size)
              have hsx : B ≤ wx.heap.size := Nat.le_trans HSQ.out hkb.size
              obtain ⟨vy, hvy⟩ : ∃ vy, vy = vr.set k v36 := ⟨_, rfl⟩
              rw [← hvy] at hI2 hn5
              obtain ⟨m, hm⟩ : ∃ m, m = (i + 1) / 2 ^ (4 * k) := ⟨_, rfl⟩
              obtain ⟨a2, c2, hv2, hc2, hr2⟩ := hI2.cell k HK6.out
              have hRk2 : lvl L i (k + 1) k = chunks (L.take (i + 1)) (4 * k) := if_pos (by omega)
              have hln : (chunks (L.take (i + 1)) (4 * k)).length = m := by rw [hm]; exact chunks_len' _ _ _ (by have := HLT.out; have := HLL.out; omega)
              rw [hRk2, hln] at hv2 hc2 hr2
              have HI2 := Lib.hid hI2
              have HN2 := Lib.hid hn5
              have HBX := Lib.hid hbx
              have HSX := Lib.hid hsx
              have HV2 := Lib.hid hv2
              have HR2 := Lib.hid hr2
              have HA2 := Lib.hid ha5
              have HM := Lib.hid hm
              have hmb : m ≤ 2 ^ 42 := by
                have := Nat.div_le_self (i + 1) (2 ^ (4 * k))
                have := HLT.out
                have := HNL.out
                omega
              clear hkb ho6 hat6 hfin ha5 hI2 hn5 hbx hsx hvy hv2 hr2 hm hRk2 hln HIR HA5 HN5 HBQ HSQ HVA HCR HIK HVK HLM HN5K HOG h32d
              by_cases hr0 : m % 16 = 0
              · have hz : (m : Int).tmod 16 = 0 := by rw [Int.tmod_eq_emod_of_nonneg (by omega)]; omega
                obtain ⟨hh, hmod, hge⟩ := head_next (k := k) (by have := HLT.out; have := HLL.out; omega : i < L.length) (by rw [← HM.out]; exact hr0) HDD.out.2
                rw [← HM.out] at hge hh
                obtain ⟨p, hp⟩ : ∃ p, p = m - 16 := ⟨_, rfl⟩
                have hsub : IntKind.i64.wrap ((m : Int) - 16) = (p : Int) := by rw [IntKind.wrap_i64]; omega
                have hpm : (p : Int) ≤ (m : Int) := by omega
                have hp0 : (0 : Int) ≤ (p : Int) := by omega
                have hmc : (m : Int) ≤ (c2 : Int) := by have := HR2.out.le; omega
                have hpc : (p : Int) ≤ (c2 : Int) := by omega
                have hmp : m - p = 16 := by omega
                obtain ⟨ga, gz, hga⟩ : ∃ ga gz, a2 = some ⟨ga, gz, none⟩ := by
                  obtain ⟨b, o, e, -⟩ := HR2.out.mem (by omega)
                  exact ⟨b, o, e⟩
                subst hga
                have HH := Lib.hid (And.intro hh hmod)
                have HP := Lib.hid (And.intro hp hge)
                clear hh hmod hp hge hr0
                obtain ⟨x, hx⟩ : ∃ x, x = rootF (chunk L (4 * (k + 1)) ((i + 1) / 2 ^ (4 * (k + 1)) - 1)) := ⟨_, rfl⟩
                have HX32 : Hid (x.length = 32) := by show x.length = 32; rw [hx]; exact rootF_len ((HR.out.all.drop _).take _)
                have h32x : Hid ((Tryd.prog.info? 48).map (·.size) = some (bvs x).length) := by show _ = _; rw [bvs_len, HX32.out]; exact sizeD
                have HHD : Hid (Calls Tryd.prog 20 #[.slice (some ⟨ga, gz + p * 32, none⟩) 16 (c2 - p)] wx fun e w' => e = .returned (.tuple #[.agg (bvs x).toArray, .int .i64 0]) ∧ Below wx.heap.size wx w') := by
                  have hr := HR2.out.drop p (by have := HP.out; omega)
                  rw [hmp] at hr
                  have h := Head_any _ _ _ _ wx (by omega) hr
                  have hl : ((chunks (L.take (i + 1)) (4 * k)).drop p).length = 16 := hr.len
                  have e1 : hdT ((chunks (L.take (i + 1)) (4 * k)).drop p) = x := by unfold hdT; rw [if_pos hl, hx, ← HH.out.1, ← HP.out.1]
                  have e2 : hdTE ((chunks (L.take (i + 1)) (4 * k)).drop p) = 0 := by unfold hdTE; rw [if_pos hl]
                  rw [e1, e2] at h
                  exact h
                have HXE := Lib.hid hx
                clear hx
                go_upto_region 13 with (first
                  | (go_at_call 20; go_loud (refine HHD.out.mono ?_); rintro e w6 ⟨rfl, hb6⟩)
                  | ((with_reducible show wpList _ _ _ (⟨some 8, .alloc _, _, _, _, _⟩ :: _) _ _); go_loud (refine wl_alloc rfl 48 rfl (bvs (Z8 32)) 32 infoD1 ?_); intro w7 hA7 hb7 hs7)
                  | ((with_reducible show wpList _ _ _ (⟨none, .store _ _ _, _, _, _, _⟩ :: _) _ _); go_loud (refine wl_store rfl 48 _ _ rfl w6.heap.size 0 rfl (bvs x) rfl 48 _ hA7 h32x.out (by rw [bvs_len, bvs_len, HX32.out]; exact (by decide : 0 + 32 ≤ (Z8 32).length)) (bvs_one _) ?_); intro w8 hA8 hg8 hs8))
                go_simp
                rw [whole_store _ _ (by rw [bvs_len, bvs_len, HX32.out]; rfl)] at hA8
                have hb8 : Below wx.heap.size wx w8 := hb6.trans ((hb7.grown hg8 hb7.size (fun k hk => by injection hk with hk; omega)).mono hb6.size)
                obtain ⟨g8, hg8e⟩ : ∃ g, g = w6.heap.size := ⟨_, rfl⟩
                rw [← hg8e] at hA8 ⊢
                have HI8 := Lib.hid (HI2.out.to hb8)
                have HA8 := Lib.hid hA8
                have HA58 := Lib.hid (HA2.out.kept hb8)
                have HB8 := Lib.hid (HBX.out.trans (hb8.mono HBX.out.size))
                have HS8 : Hid (B ≤ w8.heap.size) := Nat.le_trans HSX.out hb8.size
                clear hA7 hA8 hb6 hb7 hb8 hg8 hs7 hs8 hg8e hc2 HI2 HA2 HR2 HBX HSX HHD hz hsub
                go_wp2_with (first
                  | ((with_reducible show wpList _ _ _ (⟨some 57, .load _ _, _, _, _, _⟩ :: _) _ _); go_loud (refine wl_load rfl 48 _ rfl g8 0 rfl 48 (bvs x) (bvs x) HA8.out (fun j v h => (by rw [Nat.zero_add]; exact h)) (.array 32 5) Tryd.underlying48 rfl h32x.out ?_))
                  | ((with_reducible show wpList _ _ _ (⟨none, .store _ _ _, _, _, _, _⟩ :: _) _ _); go_loud (refine wl_store rfl 48 _ _ rfl g5 0 rfl (bvs x) rfl 48 _ HA58.out h32x.out (by rw [bvs_len, bvs_len, HX32.out, HD32.out]; exact (by decide : 0 + 32 ≤ 32)) (bvs_one _) ?_); intro w9 hA9 hg9 hs9))
                rw [whole_store _ _ (by rw [bvs_len, bvs_len, HX32.out, HD32.out])] at hA9
                go_roundw
                case rel =>
                  refine ⟨k + 1, vy, x, by have := HK6.out; omega, by go_num, HI8.out.kb (S := fun j => j = g5) ((KB.refl _ _).grown hg9 rfl) (by have := HG5.out; have := HG3.out.1; show ¬ g3 = g5; omega) (fun j hj z hz e => HN2.out j hj (by rw [hz, e])), hA9, HX32.out, ⟨HXE.out, HH.out.2⟩, HN2.out, HB8.out.grown hg9 HB8.out.size (fun k e => by injection e with e; have := HG5.out; have := HG3.out; omega), Nat.le_trans HS8.out hg9.size⟩
                case measure => have := HK6.out; simp [intOf]; omega
              · have hz : ((m : Int).tmod 16 == 0) = false := beq_eq_false_iff_ne.2 (by rw [Int.tmod_eq_emod_of_nonneg (by omega)]; omega)
                have hz2 : ((m : Int) % 16 == 0) = false := beq_eq_false_iff_ne.2 (by omega)
                have hz3 : ¬ (m : Int) % 16 = 0 := by omega
                have HR0 := Lib.hid hr0
                clear hr0
                go_wp2_with fail
                go_meet
                case rel => exact ⟨vy, HI2.out.of (fun j hj => by
                  unfold lvl
                  by_cases e : j < k + 1
                  · rw [if_pos e]
                  · rw [if_neg e]
                    exact (levels_stay (by have := HLT.out; have := HLL.out; omega) (by rw [← HM.out]; exact HR0.out) (by omega)).symm), HBX.out, HSX.out⟩
          · have e : k = 6 := by omega
            subst e
            go_wp2_with fail
            go_meet
            case rel => exact ⟨vr, hI.of (fun j hj => if_pos hj), hbq, hBq⟩
      case rest =>
        clear HI3 HA5 HD0 HZ HN5 HB3 HS3 HG5 h32
        obtain ⟨vx, hIx, hbx, hBx⟩ := hcut
        have HIX := Lib.hid hIx
        have HBX := Lib.hid hbx
        have HSX := Lib.hid hBx
        clear hIx hbx hBx
        go_wp2_with fail
        go_loopw [10] (fun kk wq => ∃ k : Nat, k ≤ 6 ∧ kk = .int .i64 (k : Int) ∧ RowsI wq B g3 vx (fun j => chunks (L.take (i + 1)) (4 * j)) ∧ Below w.heap.size w wq ∧ B ≤ wq.heap.size) (fun kk _ => 6 - (intOf kk).toNat)
        case atStart => exact ⟨0, by omega, rfl, HIX.out, HBX.out, HSX.out⟩
        case round =>
          clear HIX HBX HSX
          obtain ⟨k, hk, rfl, hI, hbq, hBq⟩ := hrel
          by_cases hk6 : k < 6
          · have hki : (k : Int) < 6 := by omega
            have hk0 : (0 : Int) ≤ (k : Int) := by omega
            obtain ⟨m, hm⟩ : ∃ m, m = (i + 1) / 2 ^ (4 * k) := ⟨_, rfl⟩
            obtain ⟨a2, c2, -, hc2, -⟩ := hI.cell k hk6
            have hln : (chunks (L.take (i + 1)) (4 * k)).length = m := by rw [hm]; exact chunks_len' _ _ _ (by have := HLT.out; have := HLL.out; omega)
            simp only [hln] at hc2
            obtain ⟨s, hs⟩ : ∃ s, s = i + 1 := ⟨_, rfl⟩
            have HI := Lib.hid hI
            have HBQ := Lib.hid hbq
            have HSQ := Lib.hid hBq
            have HK6 := Lib.hid hk6
            have hmb : m ≤ 2 ^ 42 := by
              have := Nat.div_le_self (i + 1) (2 ^ (4 * k))
              have := HLT.out
              have := HNL.out
              omega
            have hcnt : cntF s (k : Int) = m := by rw [cnt_pow _ _ hk6, hs, hm]
            have hsb : s < 18446744073709551616 := by have := HLT.out; have := HNL.out; omega
            obtain ⟨A, hA⟩ : ∃ A, A = m / 16 := ⟨_, rfl⟩
            obtain ⟨R, hR⟩ : ∃ R, R = m % 16 := ⟨_, rfl⟩
            obtain ⟨Z, hZ⟩ : ∃ Z, Z = A * 16 := ⟨_, rfl⟩
            have HF : Hid (IntKind.i64.wrap (A : Int) = (A : Int) ∧ IntKind.i64.wrap ((A : Int) * 16) = (Z : Int) ∧ IntKind.i64.wrap ((Z : Int) + (R : Int)) = (m : Int) ∧ ¬ (R : Int) < 0 ∧ ¬ (15 : Int) < (R : Int) ∧ IntKind.u64.wrap (m : Int) = (m : Int)) := by
              refine ⟨by rw [IntKind.wrap_i64]; omega, by rw [IntKind.wrap_i64]; omega, by rw [IntKind.wrap_i64]; omega, by omega, by omega, by rw [IntKind.wrap_u64]; omega⟩
            have HND : Hid (∀ W, Calls Tryd.prog 13 #[.int .u64 (s : Int), .int .i64 (k : Int)] W fun e w' => e = .returned (.tuple #[.int .u64 (A : Int), .int .i64 (R : Int)]) ∧ W = w') := fun W => by
              have h := Need_any s (k : Int) hsb W
              rw [hcnt, ← hA, ← hR] at h
              exact h
            have HCT : Hid (∀ W, Calls Tryd.prog 14 #[.int .u64 (s : Int), .int .i64 (k : Int)] W fun e w' => e = .returned (.int .u64 (m : Int)) ∧ W = w') := fun W => by
              have h := Count_any s (k : Int) hsb W
              rwa [hcnt] at h
            have hsi : IntKind.i64.wrap ((i : Int) + 1) = (s : Int) := by rw [IntKind.wrap_i64]; have := HLT.out; have := HNL.out; omega
            have hsu : IntKind.u64.wrap (s : Int) = (s : Int) := by rw [IntKind.wrap_u64]; omega
            clear hI hbq hBq hk6 hk hln hm hcnt hs hA hR hZ
            go_upto_region 20 with (go_at_call 13; go_loud (refine (HND.out _).mono ?_); rintro e y1 ⟨rfl, rfl⟩)
            have HC2 := Lib.hid hc2
            have HGL : Hid (g3 < wr.heap.size) := HI.out.arr.lt
            clear hc2
            refine wp_region_steps [[], [0], [1], [], [2, 3], [], [5], [6], [7], [4, 8], [9], [10], [11, 10], [10, 12], [13], [14], [15, 14], [14, 16], [17], [18], [19, 18], [20, 18], [18], [21, 22, 18], [18], [24, 18], [25, 18], [26, 18], [27, 18], [23, 28, 18], [18, 29]] (by kernel_rfl) (by kernel_rfl) (fun L_ a wx => ∃ v : Nat → Value, a = ⟨#[.slice (some ⟨pb, po, none⟩) nl cl, undef, u2, .pointer (some ⟨g3, 0, none⟩), .int .i64 ↑i, .pointer (some ⟨g5, 0, none⟩), u6, u7, u8, u9, .int .i64 ↑k, .int .u64 ↑A, .int .i64 ↑R, undef, undef, undef, u16, u17, u18, u19, u20, u21, u22, u23, u24, u25, u26, u27, u28, u29, u30, u31, u32, u33, u34, u35, u36, u37, u38, u39, u40, u41, u42, u43, u44, u45, u46, u47, u48, u49, u50, u51, u52, u53, u54, u55, u56, u57, .int .i64 ↑k, .bool true, u60, u61, .tuple #[.int .u64 ↑A, .int .i64 ↑R], .int .i64 ↑i, .int .i64 ↑s, .int .u64 ↑s, .int .i64 ↑k, .tuple #[.int .u64 ↑A, .int .i64 ↑R], .int .u64 ↑A, .int .i64 ↑R, v 70, v 71, v 72, v 73, v 74, v 75, v 76, v 77, v 78, v 79, v 80, v 81, v 82, v 83, v 84, v 85, v 86, v 87, v 88, v 89, v 90, v 91, v 92, v 93, v 94, v 95, v 96, v 97, v 98, v 99, v 100, undef, undef, undef, undef, undef, undef, undef, undef, undef, undef, undef, undef, undef, undef, undef, undef, undef, undef, undef, undef, undef, undef, undef, undef, undef, undef, undef, undef, undef, undef, undef, undef, undef, undef], []⟩ ∧ InvTg20 a2 m c2 A R Z s g3 k i wr L_ v wx) ?_ ⟨?_, ?_, ?_, ?_, ?_, ?_, ?_, ?_, ?_, ?_, ?_, ?_, ?_, ?_, ?_, ?_, ?_, ?_, ?_, ?_, ?_, ?_, ?_, ?_, ?_, ?_, ?_, ?_, ?_, ?_, ?_, trivial⟩ ?_
            · refine ⟨upd (upd (upd (upd (upd (upd (upd (upd (upd (upd (upd (upd (upd (upd (upd (upd (upd (upd (upd (upd (upd (upd (upd (upd (upd (upd (upd (upd (upd (upd (upd (fun _ => undef) 70 (u70)) 71 (u71)) 72 (u72)) 73 (u73)) 74 (u74)) 75 (u75)) 76 (u76)) 77 (u77)) 78 (u78)) 79 (u79)) 80 (u80)) 81 (u81)) 82 (u82)) 83 (u83)) 84 (u84)) 85 (u85)) 86 (u86)) 87 (u87)) 88 (u88)) 89 (u89)) 90 (u90)) 91 (u91)) 92 (u92)) 93 (u93)) 94 (u94)) 95 (u95)) 96 (u96)) 97 (u97)) 98 (u98)) 99 (u99)) 100 (u100), rfl, ⟨?_, ?_, ?_, ?_, ?_, ?_, ?_, ?_, ?_, ?_, ?_, ?_, ?_, ?_, ?_, ?_, ?_, ?_, ?_, ?_, ?_, ?_, ?_, ?_, ?_, ?_, ?_, ?_, ?_, ?_, ?_, (KB.refl _ _).drew⟩⟩ <;> (intro h; exact absurd h (by decide))
            · rintro L_ a wx ⟨v, rfl, hI⟩ hL hdep hcl K hK
              go_simp
              exact hK _ _ ⟨(upd v 70 (.int .u64 ↑A)), rfl, ⟨fun _ => rfl, hI.t1, hI.t2, hI.t3, hI.t4, hI.t5, hI.t6, hI.t7, hI.t8, hI.t9, hI.t10, hI.t11, hI.t12, hI.t13, hI.t14, hI.t15, hI.t16, hI.t17, hI.t18, hI.t19, hI.t20, hI.t21, hI.t22, hI.t23, hI.t24, hI.t25, hI.t26, hI.t27, hI.t28, hI.t29, hI.t30, hI.kb⟩⟩
            · rintro L_ a wx ⟨v, rfl, hI⟩ hL hdep hcl K hK
              have e0 := hI.t0 (hdep 0 (by decide))
              rw [e0]
              have h := HF.out.1
              go_simp
              exact hK _ _ ⟨(upd (upd v 70 (.int .u64 ↑A)) 71 (.int .i64 (A : Int))), rfl, ⟨fun _ => rfl, fun _ => rfl, hI.t2, hI.t3, hI.t4, hI.t5, hI.t6, hI.t7, hI.t8, hI.t9, hI.t10, hI.t11, hI.t12, hI.t13, hI.t14, hI.t15, hI.t16, hI.t17, hI.t18, hI.t19, hI.t20, hI.t21, hI.t22, hI.t23, hI.t24, hI.t25, hI.t26, hI.t27, hI.t28, hI.t29, hI.t30, hI.kb⟩⟩
            · rintro L_ a wx ⟨v, rfl, hI⟩ hL hdep hcl K hK
              have e1 := hI.t1 (hdep 1 (by decide))
              rw [e1]
              have h := HF.out.2.1
              go_simp
              exact hK _ _ ⟨(upd (upd v 71 (.int .i64 (A : Int))) 72 (.int .i64 (Z : Int))), rfl, ⟨hI.t0, fun _ => rfl, fun _ => rfl, hI.t3, hI.t4, hI.t5, hI.t6, hI.t7, hI.t8, hI.t9, hI.t10, hI.t11, hI.t12, hI.t13, hI.t14, hI.t15, hI.t16, hI.t17, hI.t18, hI.t19, hI.t20, hI.t21, hI.t22, hI.t23, hI.t24, hI.t25, hI.t26, hI.t27, hI.t28, hI.t29, hI.t30, hI.kb⟩⟩
            · rintro L_ a wx ⟨v, rfl, hI⟩ hL hdep hcl K hK
              go_simp
              exact hK _ _ ⟨(upd v 73 (.int .i64 ↑R)), rfl, ⟨hI.t0, hI.t1, hI.t2, fun _ => rfl, hI.t4, hI.t5, hI.t6, hI.t7, hI.t8, hI.t9, hI.t10, hI.t11, hI.t12, hI.t13, hI.t14, hI.t15, hI.t16, hI.t17, hI.t18, hI.t19, hI.t20, hI.t21, hI.t22, hI.t23, hI.t24, hI.t25, hI.t26, hI.t27, hI.t28, hI.t29, hI.t30, hI.kb⟩⟩
            · rintro L_ a wx ⟨v, rfl, hI⟩ hL hdep hcl K hK
              have e2 := hI.t2 (hdep 2 (by decide))
              have e3 := hI.t3 (hdep 3 (by decide))
              rw [e2, e3]
              have h := HF.out.2.2.1
              go_simp
              exact hK _ _ ⟨(upd (upd (upd v 72 (.int .i64 (Z : Int))) 73 (.int .i64 ↑R)) 74 (.int .i64 (m : Int))), rfl, ⟨hI.t0, hI.t1, fun _ => rfl, fun _ => rfl, fun _ => rfl, hI.t5, hI.t6, hI.t7, hI.t8, hI.t9, hI.t10, hI.t11, hI.t12, hI.t13, hI.t14, hI.t15, hI.t16, hI.t17, hI.t18, hI.t19, hI.t20, hI.t21, hI.t22, hI.t23, hI.t24, hI.t25, hI.t26, hI.t27, hI.t28, hI.t29, hI.t30, hI.kb⟩⟩
            · rintro L_ a wx ⟨v, rfl, hI⟩ hL hdep hcl K hK
              go_simp
              exact hK _ _ ⟨(upd v 75 (.int .i64 ↑k)), rfl, ⟨hI.t0, hI.t1, hI.t2, hI.t3, hI.t4, fun _ => rfl, hI.t6, hI.t7, hI.t8, hI.t9, hI.t10, hI.t11, hI.t12, hI.t13, hI.t14, hI.t15, hI.t16, hI.t17, hI.t18, hI.t19, hI.t20, hI.t21, hI.t22, hI.t23, hI.t24, hI.t25, hI.t26, hI.t27, hI.t28, hI.t29, hI.t30, hI.kb⟩⟩
            · rintro L_ a wx ⟨v, rfl, hI⟩ hL hdep hcl K hK
              have e5 := hI.t5 (hdep 5 (by decide))
              rw [e5]
              go_simp
              exact hK _ _ ⟨(upd (upd v 75 (.int .i64 ↑k)) 76 (.pointer (some ⟨g3, k, none⟩))), rfl, ⟨hI.t0, hI.t1, hI.t2, hI.t3, hI.t4, fun _ => rfl, fun _ => rfl, hI.t7, hI.t8, hI.t9, hI.t10, hI.t11, hI.t12, hI.t13, hI.t14, hI.t15, hI.t16, hI.t17, hI.t18, hI.t19, hI.t20, hI.t21, hI.t22, hI.t23, hI.t24, hI.t25, hI.t26, hI.t27, hI.t28, hI.t29, hI.t30, hI.kb⟩⟩
            · rintro L_ a wx ⟨v, rfl, hI⟩ hL hdep hcl K hK
              have e6 := hI.t6 (hdep 6 (by decide))
              rw [e6]
              have c := (hI.kb.cell (p := ⟨g3, k, none⟩) HGL.out (fun e => e)).trans HC2.out
              go_simp
              exact hK _ _ ⟨(upd (upd v 76 (.pointer (some ⟨g3, k, none⟩))) 77 (.slice a2 m c2)), rfl, ⟨hI.t0, hI.t1, hI.t2, hI.t3, hI.t4, hI.t5, fun _ => rfl, fun _ => rfl, hI.t8, hI.t9, hI.t10, hI.t11, hI.t12, hI.t13, hI.t14, hI.t15, hI.t16, hI.t17, hI.t18, hI.t19, hI.t20, hI.t21, hI.t22, hI.t23, hI.t24, hI.t25, hI.t26, hI.t27, hI.t28, hI.t29, hI.t30, hI.kb⟩⟩
            · rintro L_ a wx ⟨v, rfl, hI⟩ hL hdep hcl K hK
              have e7 := hI.t7 (hdep 7 (by decide))
              rw [e7]
              go_simp
              exact hK _ _ ⟨(upd (upd v 77 (.slice a2 m c2)) 78 (.int .i64 (m : Int))), rfl, ⟨hI.t0, hI.t1, hI.t2, hI.t3, hI.t4, hI.t5, hI.t6, fun _ => rfl, fun _ => rfl, hI.t9, hI.t10, hI.t11, hI.t12, hI.t13, hI.t14, hI.t15, hI.t16, hI.t17, hI.t18, hI.t19, hI.t20, hI.t21, hI.t22, hI.t23, hI.t24, hI.t25, hI.t26, hI.t27, hI.t28, hI.t29, hI.t30, hI.kb⟩⟩
            · rintro L_ a wx ⟨v, rfl, hI⟩ hL hdep hcl K hK
              have e4 := hI.t4 (hdep 4 (by decide))
              have e8 := hI.t8 (hdep 8 (by decide))
              rw [e4, e8]
              go_simp
              exact hK _ _ ⟨(upd (upd (upd v 74 (.int .i64 (m : Int))) 78 (.int .i64 (m : Int))) 79 (.bool false)), rfl, ⟨hI.t0, hI.t1, hI.t2, hI.t3, fun _ => rfl, hI.t5, hI.t6, hI.t7, fun _ => rfl, fun _ => rfl, hI.t10, hI.t11, hI.t12, hI.t13, hI.t14, hI.t15, hI.t16, hI.t17, hI.t18, hI.t19, hI.t20, hI.t21, hI.t22, hI.t23, hI.t24, hI.t25, hI.t26, hI.t27, hI.t28, hI.t29, hI.t30, hI.kb⟩⟩
            · rintro L_ a wx ⟨v, rfl, hI⟩ hL hdep hcl K hK
              have e9 := hI.t9 (hdep 9 (by decide))
              rw [e9]
              go_simp
              exact hK _ _ ⟨(upd (upd v 79 (.bool false)) 80 (.bool false)), rfl, ⟨hI.t0, hI.t1, hI.t2, hI.t3, hI.t4, hI.t5, hI.t6, hI.t7, hI.t8, fun _ => rfl, fun _ => rfl, hI.t11, hI.t12, hI.t13, hI.t14, hI.t15, hI.t16, hI.t17, hI.t18, hI.t19, hI.t20, hI.t21, hI.t22, hI.t23, hI.t24, hI.t25, hI.t26, hI.t27, hI.t28, hI.t29, hI.t30, hI.kb⟩⟩
            · rintro L_ a wx ⟨v, rfl, hI⟩ hL hdep hcl K hK
              have e10 := hI.t10 (hdep 10 (by decide))
              rw [e10]
              refine (if_pos rfl).mpr ?_
              go_simp
              exact hK _ _ ⟨(upd (upd v 80 (.bool false)) 81 (.int .i64 ↑R)), rfl, ⟨hI.t0, hI.t1, hI.t2, hI.t3, hI.t4, hI.t5, hI.t6, hI.t7, hI.t8, hI.t9, fun _ => rfl, fun _ => rfl, hI.t12, hI.t13, hI.t14, hI.t15, hI.t16, hI.t17, hI.t18, hI.t19, hI.t20, hI.t21, hI.t22, hI.t23, hI.t24, hI.t25, hI.t26, hI.t27, hI.t28, hI.t29, hI.t30, hI.kb⟩⟩
            · rintro L_ a wx ⟨v, rfl, hI⟩ hL hdep hcl K hK
              have e11 := hI.t11 (hdep 11 (by decide))
              have e10 := hI.t10 (hdep 10 (by decide))
              rw [e11, e10]
              refine (if_pos rfl).mpr ?_
              have h0 := HF.out.2.2.2.1
              have h1 : ¬ ((R : Int) < 0) := by omega
              have h2 : decide ((R : Int) < 0) = false := decide_eq_false (by omega)
              go_simp
              exact hK _ _ ⟨(upd (upd (upd v 81 (.int .i64 ↑R)) 80 (.bool false)) 82 (.bool false)), rfl, ⟨hI.t0, hI.t1, hI.t2, hI.t3, hI.t4, hI.t5, hI.t6, hI.t7, hI.t8, hI.t9, fun _ => rfl, fun _ => rfl, fun _ => rfl, hI.t13, hI.t14, hI.t15, hI.t16, hI.t17, hI.t18, hI.t19, hI.t20, hI.t21, hI.t22, hI.t23, hI.t24, hI.t25, hI.t26, hI.t27, hI.t28, hI.t29, hI.t30, hI.kb⟩⟩
            · rintro L_ a wx ⟨v, rfl, hI⟩ hL hdep hcl K hK
              have e10 := hI.t10 (hdep 10 (by decide))
              have e12 := hI.t12 (hdep 12 (by decide))
              rw [e10, e12]
              go_simp
              exact hK _ _ ⟨(upd (upd (upd v 80 (.bool false)) 82 (.bool false)) 83 (.bool false)), rfl, ⟨hI.t0, hI.t1, hI.t2, hI.t3, hI.t4, hI.t5, hI.t6, hI.t7, hI.t8, hI.t9, fun _ => rfl, hI.t11, fun _ => rfl, fun _ => rfl, hI.t14, hI.t15, hI.t16, hI.t17, hI.t18, hI.t19, hI.t20, hI.t21, hI.t22, hI.t23, hI.t24, hI.t25, hI.t26, hI.t27, hI.t28, hI.t29, hI.t30, hI.kb⟩⟩
            · rintro L_ a wx ⟨v, rfl, hI⟩ hL hdep hcl K hK
              have e13 := hI.t13 (hdep 13 (by decide))
              rw [e13]
              go_simp
              exact hK _ _ ⟨(upd (upd v 83 (.bool false)) 84 (.bool false)), rfl, ⟨hI.t0, hI.t1, hI.t2, hI.t3, hI.t4, hI.t5, hI.t6, hI.t7, hI.t8, hI.t9, hI.t10, hI.t11, hI.t12, fun _ => rfl, fun _ => rfl, hI.t15, hI.t16, hI.t17, hI.t18, hI.t19, hI.t20, hI.t21, hI.t22, hI.t23, hI.t24, hI.t25, hI.t26, hI.t27, hI.t28, hI.t29, hI.t30, hI.kb⟩⟩
            · rintro L_ a wx ⟨v, rfl, hI⟩ hL hdep hcl K hK
              have e14 := hI.t14 (hdep 14 (by decide))
              rw [e14]
              refine (if_pos rfl).mpr ?_
              go_simp
              exact hK _ _ ⟨(upd (upd v 84 (.bool false)) 85 (.int .i64 ↑R)), rfl, ⟨hI.t0, hI.t1, hI.t2, hI.t3, hI.t4, hI.t5, hI.t6, hI.t7, hI.t8, hI.t9, hI.t10, hI.t11, hI.t12, hI.t13, fun _ => rfl, fun _ => rfl, hI.t16, hI.t17, hI.t18, hI.t19, hI.t20, hI.t21, hI.t22, hI.t23, hI.t24, hI.t25, hI.t26, hI.t27, hI.t28, hI.t29, hI.t30, hI.kb⟩⟩
            · rintro L_ a wx ⟨v, rfl, hI⟩ hL hdep hcl K hK
              have e15 := hI.t15 (hdep 15 (by decide))
              have e14 := hI.t14 (hdep 14 (by decide))
              rw [e15, e14]
              refine (if_pos rfl).mpr ?_
              have h0 := HF.out.2.2.2.2.1
              have h1 : ¬ ((15 : Int) < (R : Int)) := by omega
              have h2 : decide ((15 : Int) < (R : Int)) = false := decide_eq_false (by omega)
              go_simp
              exact hK _ _ ⟨(upd (upd (upd v 85 (.int .i64 ↑R)) 84 (.bool false)) 86 (.bool false)), rfl, ⟨hI.t0, hI.t1, hI.t2, hI.t3, hI.t4, hI.t5, hI.t6, hI.t7, hI.t8, hI.t9, hI.t10, hI.t11, hI.t12, hI.t13, fun _ => rfl, fun _ => rfl, fun _ => rfl, hI.t17, hI.t18, hI.t19, hI.t20, hI.t21, hI.t22, hI.t23, hI.t24, hI.t25, hI.t26, hI.t27, hI.t28, hI.t29, hI.t30, hI.kb⟩⟩
            · rintro L_ a wx ⟨v, rfl, hI⟩ hL hdep hcl K hK
              have e14 := hI.t14 (hdep 14 (by decide))
              have e16 := hI.t16 (hdep 16 (by decide))
              rw [e14, e16]
              go_simp
              exact hK _ _ ⟨(upd (upd (upd v 84 (.bool false)) 86 (.bool false)) 87 (.bool false)), rfl, ⟨hI.t0, hI.t1, hI.t2, hI.t3, hI.t4, hI.t5, hI.t6, hI.t7, hI.t8, hI.t9, hI.t10, hI.t11, hI.t12, hI.t13, fun _ => rfl, hI.t15, fun _ => rfl, fun _ => rfl, hI.t18, hI.t19, hI.t20, hI.t21, hI.t22, hI.t23, hI.t24, hI.t25, hI.t26, hI.t27, hI.t28, hI.t29, hI.t30, hI.kb⟩⟩
            · rintro L_ a wx ⟨v, rfl, hI⟩ hL hdep hcl K hK
              have e17 := hI.t17 (hdep 17 (by decide))
              rw [e17]
              go_simp
              exact hK _ _ ⟨(upd (upd v 87 (.bool false)) 88 (.bool false)), rfl, ⟨hI.t0, hI.t1, hI.t2, hI.t3, hI.t4, hI.t5, hI.t6, hI.t7, hI.t8, hI.t9, hI.t10, hI.t11, hI.t12, hI.t13, hI.t14, hI.t15, hI.t16, fun _ => rfl, fun _ => rfl, hI.t19, hI.t20, hI.t21, hI.t22, hI.t23, hI.t24, hI.t25, hI.t26, hI.t27, hI.t28, hI.t29, hI.t30, hI.kb⟩⟩
            · rintro L_ a wx ⟨v, rfl, hI⟩ hL hdep hcl K hK
              have e18 := hI.t18 (hdep 18 (by decide))
              rw [e18]
              refine (if_pos rfl).mpr ?_
              go_simp
              exact hK _ _ ⟨(upd (upd v 88 (.bool false)) 89 (.int .i64 ↑i)), rfl, ⟨hI.t0, hI.t1, hI.t2, hI.t3, hI.t4, hI.t5, hI.t6, hI.t7, hI.t8, hI.t9, hI.t10, hI.t11, hI.t12, hI.t13, hI.t14, hI.t15, hI.t16, hI.t17, fun _ => rfl, fun _ => rfl, hI.t20, hI.t21, hI.t22, hI.t23, hI.t24, hI.t25, hI.t26, hI.t27, hI.t28, hI.t29, hI.t30, hI.kb⟩⟩
            · rintro L_ a wx ⟨v, rfl, hI⟩ hL hdep hcl K hK
              have e19 := hI.t19 (hdep 19 (by decide))
              have e18 := hI.t18 (hdep 18 (by decide))
              rw [e19, e18]
              refine (if_pos rfl).mpr ?_
              go_simp
              exact hK _ _ ⟨(upd (upd (upd v 89 (.int .i64 ↑i)) 88 (.bool false)) 90 (.int .i64 (s : Int))), rfl, ⟨hI.t0, hI.t1, hI.t2, hI.t3, hI.t4, hI.t5, hI.t6, hI.t7, hI.t8, hI.t9, hI.t10, hI.t11, hI.t12, hI.t13, hI.t14, hI.t15, hI.t16, hI.t17, fun _ => rfl, fun _ => rfl, fun _ => rfl, hI.t21, hI.t22, hI.t23, hI.t24, hI.t25, hI.t26, hI.t27, hI.t28, hI.t29, hI.t30, hI.kb⟩⟩
            · rintro L_ a wx ⟨v, rfl, hI⟩ hL hdep hcl K hK
              have e20 := hI.t20 (hdep 20 (by decide))
              have e18 := hI.t18 (hdep 18 (by decide))
              rw [e20, e18]
              refine (if_pos rfl).mpr ?_
              go_simp
              exact hK _ _ ⟨(upd (upd (upd v 90 (.int .i64 (s : Int))) 88 (.bool false)) 91 (.int .u64 (s : Int))), rfl, ⟨hI.t0, hI.t1, hI.t2, hI.t3, hI.t4, hI.t5, hI.t6, hI.t7, hI.t8, hI.t9, hI.t10, hI.t11, hI.t12, hI.t13, hI.t14, hI.t15, hI.t16, hI.t17, fun _ => rfl, hI.t19, fun _ => rfl, fun _ => rfl, hI.t22, hI.t23, hI.t24, hI.t25, hI.t26, hI.t27, hI.t28, hI.t29, hI.t30, hI.kb⟩⟩
            · rintro L_ a wx ⟨v, rfl, hI⟩ hL hdep hcl K hK
              have e18 := hI.t18 (hdep 18 (by decide))
              rw [e18]
              refine (if_pos rfl).mpr ?_
              go_simp
              exact hK _ _ ⟨(upd (upd v 88 (.bool false)) 92 (.int .i64 ↑k)), rfl, ⟨hI.t0, hI.t1, hI.t2, hI.t3, hI.t4, hI.t5, hI.t6, hI.t7, hI.t8, hI.t9, hI.t10, hI.t11, hI.t12, hI.t13, hI.t14, hI.t15, hI.t16, hI.t17, fun _ => rfl, hI.t19, hI.t20, hI.t21, fun _ => rfl, hI.t23, hI.t24, hI.t25, hI.t26, hI.t27, hI.t28, hI.t29, hI.t30, hI.kb⟩⟩
            · rintro L_ a wx ⟨v, rfl, hI⟩ hL hdep hcl K hK
              have e21 := hI.t21 (hdep 21 (by decide))
              have e22 := hI.t22 (hdep 22 (by decide))
              have e18 := hI.t18 (hdep 18 (by decide))
              rw [e21, e22, e18]
              refine (if_pos rfl).mpr ?_
              go_simp
              refine (HCT.out wx).mono ?_
              rintro e w2 ⟨rfl, rfl⟩
              exact hK _ _ ⟨(upd (upd (upd (upd v 91 (.int .u64 (s : Int))) 92 (.int .i64 ↑k)) 88 (.bool false)) 93 (.int .u64 (m : Int))), rfl, ⟨hI.t0, hI.t1, hI.t2, hI.t3, hI.t4, hI.t5, hI.t6, hI.t7, hI.t8, hI.t9, hI.t10, hI.t11, hI.t12, hI.t13, hI.t14, hI.t15, hI.t16, hI.t17, fun _ => rfl, hI.t19, hI.t20, fun _ => rfl, fun _ => rfl, fun _ => rfl, hI.t24, hI.t25, hI.t26, hI.t27, hI.t28, hI.t29, hI.t30, hI.kb⟩⟩
            · rintro L_ a wx ⟨v, rfl, hI⟩ hL hdep hcl K hK
              have e18 := hI.t18 (hdep 18 (by decide))
              rw [e18]
              refine (if_pos rfl).mpr ?_
              go_simp
              exact hK _ _ ⟨(upd (upd v 88 (.bool false)) 94 (.int .i64 ↑k)), rfl, ⟨hI.t0, hI.t1, hI.t2, hI.t3, hI.t4, hI.t5, hI.t6, hI.t7, hI.t8, hI.t9, hI.t10, hI.t11, hI.t12, hI.t13, hI.t14, hI.t15, hI.t16, hI.t17, fun _ => rfl, hI.t19, hI.t20, hI.t21, hI.t22, hI.t23, fun _ => rfl, hI.t25, hI.t26, hI.t27, hI.t28, hI.t29, hI.t30, hI.kb⟩⟩
            · rintro L_ a wx ⟨v, rfl, hI⟩ hL hdep hcl K hK
              have e24 := hI.t24 (hdep 24 (by decide))
              have e18 := hI.t18 (hdep 18 (by decide))
              rw [e24, e18]
              refine (if_pos rfl).mpr ?_
              go_simp
              exact hK _ _ ⟨(upd (upd (upd v 94 (.int .i64 ↑k)) 88 (.bool false)) 95 (.pointer (some ⟨g3, k, none⟩))), rfl, ⟨hI.t0, hI.t1, hI.t2, hI.t3, hI.t4, hI.t5, hI.t6, hI.t7, hI.t8, hI.t9, hI.t10, hI.t11, hI.t12, hI.t13, hI.t14, hI.t15, hI.t16, hI.t17, fun _ => rfl, hI.t19, hI.t20, hI.t21, hI.t22, hI.t23, fun _ => rfl, fun _ => rfl, hI.t26, hI.t27, hI.t28, hI.t29, hI.t30, hI.kb⟩⟩
            · rintro L_ a wx ⟨v, rfl, hI⟩ hL hdep hcl K hK
              have e25 := hI.t25 (hdep 25 (by decide))
              have e18 := hI.t18 (hdep 18 (by decide))
              rw [e25, e18]
              refine (if_pos rfl).mpr ?_
              have c := (hI.kb.cell (p := ⟨g3, k, none⟩) HGL.out (fun e => e)).trans HC2.out
              go_simp
              exact hK _ _ ⟨(upd (upd (upd v 95 (.pointer (some ⟨g3, k, none⟩))) 88 (.bool false)) 96 (.slice a2 m c2)), rfl, ⟨hI.t0, hI.t1, hI.t2, hI.t3, hI.t4, hI.t5, hI.t6, hI.t7, hI.t8, hI.t9, hI.t10, hI.t11, hI.t12, hI.t13, hI.t14, hI.t15, hI.t16, hI.t17, fun _ => rfl, hI.t19, hI.t20, hI.t21, hI.t22, hI.t23, hI.t24, fun _ => rfl, fun _ => rfl, hI.t27, hI.t28, hI.t29, hI.t30, hI.kb⟩⟩
            · rintro L_ a wx ⟨v, rfl, hI⟩ hL hdep hcl K hK
              have e26 := hI.t26 (hdep 26 (by decide))
              have e18 := hI.t18 (hdep 18 (by decide))
              rw [e26, e18]
              refine (if_pos rfl).mpr ?_
              go_simp
              exact hK _ _ ⟨(upd (upd (upd v 96 (.slice a2 m c2)) 88 (.bool false)) 97 (.int .i64 (m : Int))), rfl, ⟨hI.t0, hI.t1, hI.t2, hI.t3, hI.t4, hI.t5, hI.t6, hI.t7, hI.t8, hI.t9, hI.t10, hI.t11, hI.t12, hI.t13, hI.t14, hI.t15, hI.t16, hI.t17, fun _ => rfl, hI.t19, hI.t20, hI.t21, hI.t22, hI.t23, hI.t24, hI.t25, fun _ => rfl, fun _ => rfl, hI.t28, hI.t29, hI.t30, hI.kb⟩⟩
            · rintro L_ a wx ⟨v, rfl, hI⟩ hL hdep hcl K hK
              have e27 := hI.t27 (hdep 27 (by decide))
              have e18 := hI.t18 (hdep 18 (by decide))
              rw [e27, e18]
              refine (if_pos rfl).mpr ?_
              have h := HF.out.2.2.2.2.2
              go_simp
              exact hK _ _ ⟨(upd (upd (upd v 97 (.int .i64 (m : Int))) 88 (.bool false)) 98 (.int .u64 (m : Int))), rfl, ⟨hI.t0, hI.t1, hI.t2, hI.t3, hI.t4, hI.t5, hI.t6, hI.t7, hI.t8, hI.t9, hI.t10, hI.t11, hI.t12, hI.t13, hI.t14, hI.t15, hI.t16, hI.t17, fun _ => rfl, hI.t19, hI.t20, hI.t21, hI.t22, hI.t23, hI.t24, hI.t25, hI.t26, fun _ => rfl, fun _ => rfl, hI.t29, hI.t30, hI.kb⟩⟩
            · rintro L_ a wx ⟨v, rfl, hI⟩ hL hdep hcl K hK
              have e23 := hI.t23 (hdep 23 (by decide))
              have e28 := hI.t28 (hdep 28 (by decide))
              have e18 := hI.t18 (hdep 18 (by decide))
              rw [e23, e28, e18]
              refine (if_pos rfl).mpr ?_
              go_simp
              exact hK _ _ ⟨(upd (upd (upd (upd v 93 (.int .u64 (m : Int))) 98 (.int .u64 (m : Int))) 88 (.bool false)) 99 (.bool false)), rfl, ⟨hI.t0, hI.t1, hI.t2, hI.t3, hI.t4, hI.t5, hI.t6, hI.t7, hI.t8, hI.t9, hI.t10, hI.t11, hI.t12, hI.t13, hI.t14, hI.t15, hI.t16, hI.t17, fun _ => rfl, hI.t19, hI.t20, hI.t21, hI.t22, fun _ => rfl, hI.t24, hI.t25, hI.t26, hI.t27, fun _ => rfl, fun _ => rfl, hI.t30, hI.kb⟩⟩
            · rintro L_ a wx ⟨v, rfl, hI⟩ hL hdep hcl K hK
              have e18 := hI.t18 (hdep 18 (by decide))
              have e29 := hI.t29 (hdep 29 (by decide))
              rw [e18, e29]
              go_simp
              exact hK _ _ ⟨(upd (upd (upd v 88 (.bool false)) 99 (.bool false)) 100 (.bool false)), rfl, ⟨hI.t0, hI.t1, hI.t2, hI.t3, hI.t4, hI.t5, hI.t6, hI.t7, hI.t8, hI.t9, hI.t10, hI.t11, hI.t12, hI.t13, hI.t14, hI.t15, hI.t16, hI.t17, fun _ => rfl, hI.t19, hI.t20, hI.t21, hI.t22, hI.t23, hI.t24, hI.t25, hI.t26, hI.t27, hI.t28, fun _ => rfl, fun _ => rfl, hI.kb⟩⟩
            · rintro a wx ⟨v, rfl, hI⟩
              have hkb := hI.kb
              have e30 := hI.t30 rfl
              clear hI
              rw [e30]
              go_wp2_with fail
              go_roundw
              case rel => exact ⟨k + 1, by have := HK6.out; omega, by go_num, HI.out.kb hkb (fun e => e) (fun _ _ _ _ e => e), HBQ.out.trans (hkb.under (fun _ e => e.elim) HBQ.out.size), Nat.le_trans HSQ.out hkb.size⟩
              case measure => have := HK6.out; simp [intOf]; omega
          · have e : k = 6 := by omega
            subst e
            go_wp2_with fail
            go_roundw
            case rel => exact ⟨i + 1, vx, by have := HLT.out; omega, by go_num, hI, hbq, hBq⟩
            case measure => have := HLT.out; simp [intOf]; omega
    · have e : i = nl := by omega
      subst e
      have hT : L.take i = L := List.take_of_length_le (by rw [HLL.out]; exact Nat.le_refl _)
      simp only [hT] at hI
      have HIV := Lib.hid hI
      have HBV := Lib.hid hbr
      have HSV := Lib.hid hBr
      clear hI hbr hBr hT
      go_wp2_with fail
      go_loopw [13] (fun kk wq => ∃ k : Nat, k ≤ 3 ∧ kk = .int .i64 (k : Int) ∧ RowsI wq B g3 vs (fun j => chunks L (4 * j)) ∧ Below w.heap.size w wq ∧ B ≤ wq.heap.size) (fun kk _ => 3 - (intOf kk).toNat)
      case atStart => exact ⟨0, by omega, rfl, HIV.out, HBV.out, HSV.out⟩
      case round =>
        clear HIV HBV HSV
        obtain ⟨k, hk, rfl, hI, hbq, hBq⟩ := hrel
        by_cases hk3 : k < 3
        · have hki : (k : Int) < 3 := by omega
          have hk0 : (0 : Int) ≤ (k : Int) := by omega
          have hk6 : (k : Int) < 6 := by omega
          obtain ⟨N, hN⟩ : ∃ N, N = 2 ^ (4 * k) := ⟨_, rfl⟩
          have hkc : k = 0 ∨ k = 1 ∨ k = 2 := by omega
          have hm4 : IntKind.i64.wrap (4 * (k : Int)) = ((4 * k : Nat) : Int) := by rw [IntKind.wrap_i64]; omega
          have hw4 : wrap64 (2 ^ (4 * k)) = (N : Int) := by
            rw [hN]
            rcases hkc with rfl | rfl | rfl <;> decide +kernel
          have hNb : 1 ≤ N ∧ N ≤ 256 := by
            rw [hN]
            rcases hkc with rfl | rfl | rfl <;> decide +kernel
          obtain ⟨m, hm⟩ : ∃ m, m = i / N := ⟨_, rfl⟩
          obtain ⟨a2, c2, -, hc2, hr2⟩ := hI.cell k (by omega)
          have hln : (chunks L (4 * k)).length = m := by rw [chunks_len, HLL.out, hm, hN]
          rw [hln] at hc2 hr2
          have HC2 := Lib.hid hc2
          have HR2 := Lib.hid hr2
          have HM := Lib.hid hm
          have HNB := Lib.hid hNb
          have HNN := Lib.hid hN
          have HI := Lib.hid hI
          have HBQ := Lib.hid hbq
          have HSQ := Lib.hid hBq
          have HK3 := Lib.hid hk3
          clear hI hbq hBq hk hk3 hc2 hr2 hm hNb hN hln hkc
          go_upto_block 8 with fail
          simp only [hw4]
          clear hw4
          go_wp2_with fail
          obtain ⟨W1, hW1⟩ : ∃ W, W = wr := ⟨_, rfl⟩
          rw [← hW1] at HC2 HR2 HI HBQ HSQ
          go_loopw [15] (fun jj wq => ∃ j : Nat, j ≤ m ∧ jj = .int .i64 (j : Int) ∧ Below W1.heap.size W1 wq) (fun jj _ => m - (intOf jj).toNat)
          case atStart => exact ⟨0, by omega, rfl, by rw [hW1]; exact Below.refl _ _⟩
          case round =>
            clear hW1
            obtain ⟨j, hj, rfl, hb0⟩ := hrel
            have hcW : wr.cell? ⟨g3, k, none⟩ = some (.slice a2 m c2) := (hb0.cell (p := ⟨g3, k, none⟩) HI.out.arr.lt).trans HC2.out
            by_cases hjm : j < m
            · have hji : (j : Int) < (m : Int) := by omega
              have hj0 : (0 : Int) ≤ (j : Int) := by omega
              have hend : (j + 1) * N ≤ i := by
                have h1 := Nat.div_mul_le_self i N
                rw [← HM.out] at h1
                exact Nat.le_trans (Nat.mul_le_mul_right _ (by omega)) h1
              obtain ⟨J0, hJ0⟩ : ∃ J, J = j * N := ⟨_, rfl⟩
              obtain ⟨J1, hJ1⟩ : ∃ J, J = (j + 1) * N := ⟨_, rfl⟩
              obtain ⟨j1, hj1⟩ : ∃ q, q = j + 1 := ⟨_, rfl⟩
              rw [← hJ1] at hend
              have hJJ : J1 = J0 + N := by rw [hJ1, hJ0, Nat.add_mul, Nat.one_mul]
              obtain ⟨x, hx⟩ : ∃ x, x = rootF (chunk L (4 * k) j) := ⟨_, rfl⟩
              have HX32 : Hid (x.length = 32) := by show x.length = 32; rw [hx]; exact rootF_len ((HR.out.all.drop _).take _)
              have h32x : Hid ((Tryd.prog.info? 48).map (·.size) = some (bvs x).length) := by show _ = _; rw [bvs_len, HX32.out]; exact sizeD
              have hxg : (chunks L (4 * k)).getD j [] = x := by rw [hx]; exact chunks_get L (4 * k) j (by rw [HLL.out, ← HNN.out, ← HM.out]; exact hjm)
              obtain ⟨ga, gz, hga, -⟩ := HR2.out.mem (by omega)
              subst hga
              obtain ⟨pb, po, hpe, -⟩ := HR.out.mem (by have := HNB.out; omega)
              subst hpe
              have HRG : Hid (∀ wx, Below wr.heap.size wr wx → wx.rangeAt ga (gz + j * 32) (bvs x)) := fun wx hb => by
                have h := ((HR2.out.to hb0).to hb).range j hjm
                rwa [hxg] at h
              have HRT : Hid (∀ W, Below wr.heap.size wr W → Calls Tryd.prog 23 #[.slice (some ⟨pb, po + J0 * 32, none⟩) N (cl - J0)] W fun e w' => e = .returned (.agg (bvs x).toArray) ∧ Below W.heap.size W w') := fun W hb => by
                have hb2 := HBQ.out.trans (hb0.mono HBQ.out.size)
                have hr := (HR.out.to (hb2.trans (hb.mono hb2.size))).drop J0 (by have := HNB.out; omega)
                have hr3 := hr.take N (by omega)
                have h := Root_any _ _ (Nat.le_refl _) _ _ _ W (by have := HNB.out; omega) hr3
                have e : (L.drop J0).take N = chunk L (4 * k) j := by rw [hJ0, HNN.out]; rfl
                rw [e, ← hx] at h
                exact h
              have hwj0 : IntKind.i64.wrap ((j : Int) * (N : Int)) = (J0 : Int) := by
                have e : (J0 : Int) = (j : Int) * (N : Int) := by rw [hJ0]; simp
                rw [← e, IntKind.wrap_i64]; omega
              have hwj1 : IntKind.i64.wrap ((j : Int) + 1) = (j1 : Int) := by rw [IntKind.wrap_i64]; have := Nat.div_le_self i N; have := HM.out; omega
              have hwJ1 : IntKind.i64.wrap ((j1 : Int) * (N : Int)) = (J1 : Int) := by
                have e : (J1 : Int) = (j1 : Int) * (N : Int) := by rw [hJ1, hj1]; simp
                rw [← e, IntKind.wrap_i64]; omega
              have hs0 : (J0 : Int) ≤ (J1 : Int) := by omega
              have hs1 : (J1 : Int) ≤ (cl : Int) := by have := HR.out.le; omega
              have hs2 : (0 : Int) ≤ (J0 : Int) := by omega
              have hs3 : (0 : Int) ≤ (J1 : Int) := by omega
              have hs4 : J1 - J0 = N := by omega
              have hs5 : ¬ cl = J0 := by have := HNB.out; have := HR.out.le; omega
              have HB0 := Lib.hid hb0
              have HJM := Lib.hid hjm
              have HJJ := Lib.hid hj1
              clear hb0 hjm hj hJ0 hJ1 hj1 hJJ hx hxg hend
              go_upto_region 29 with fail
              have HCW := Lib.hid hcW
              have HGL : Hid (g3 < wr.heap.size) := by have := HI.out.arr.lt; have := HB0.out.size; show g3 < _; omega
              clear hcW
              refine wp_region_steps [[], [0], [1], [], [2, 3], [4], [], [], [], [7, 8], [], [10], [], [11, 12], [6, 9, 13], [14], [5, 15]] (by kernel_rfl) (by kernel_rfl) (fun L_ a wx => ∃ v : Nat → Value, a = ⟨#[.slice (some ⟨pb, po, none⟩) i cl, undef, u2, .pointer (some ⟨g3, 0, none⟩), .int .i64 ↑i, u5, u6, u7, u8, u9, u10, u11, u12, .int .i64 ↑k, .int .i64 (↑N), .int .i64 ↑j, .int .i64 ↑i, .slice (some ⟨pb, po, none⟩) i cl, .int .i64 ↑i, .bool false, u20, u21, u22, u23, u24, u25, u26, u27, u28, u29, u30, u31, u32, u33, u34, u35, u36, u37, u38, u39, u40, u41, u42, u43, u44, u45, u46, u47, u48, u49, u50, u51, u52, u53, u54, u55, u56, u57, u58, u59, u60, u61, u62, u63, u64, u65, u66, u67, u68, u69, u70, u71, u72, u73, u74, u75, u76, u77, u78, u79, u80, u81, u82, u83, u84, u85, u86, u87, u88, u89, u90, u91, u92, u93, u94, u95, u96, u97, u98, u99, u100, .int .i64 ↑k, .bool true, u103, u104, .int .i64 ↑k, .int .i64 (4 * ↑k), .int .u64 (4 * ↑k), .int .i64 (↑N), .int .i64 ↑j, .int .i64 ↑k, .pointer (some ⟨g3, k, none⟩), .slice (some ⟨ga, gz, none⟩) m c2, .int .i64 ↑m, .bool true, u115, u116, v 117, v 118, v 119, v 120, v 121, v 122, v 123, v 124, v 125, v 126, v 127, v 128, v 129, v 130, v 131, v 132, v 133, undef], []⟩ ∧ InvTg29 ga pb gz po j N J0 J1 j1 m c2 cl g3 k i x wr L_ v wx) ?_ ⟨?_, ?_, ?_, ?_, ?_, ?_, ?_, ?_, ?_, ?_, ?_, ?_, ?_, ?_, ?_, ?_, ?_, trivial⟩ ?_
              · refine ⟨upd (upd (upd (upd (upd (upd (upd (upd (upd (upd (upd (upd (upd (upd (upd (upd (upd (fun _ => undef) 117 (u117)) 118 (u118)) 119 (u119)) 120 (u120)) 121 (u121)) 122 (u122)) 123 (u123)) 124 (u124)) 125 (u125)) 126 (u126)) 127 (u127)) 128 (u128)) 129 (u129)) 130 (u130)) 131 (u131)) 132 (u132)) 133 (u133), rfl, ⟨?_, ?_, ?_, ?_, ?_, ?_, ?_, ?_, ?_, ?_, ?_, ?_, ?_, ?_, ?_, ?_, ?_, (Below.refl _ _).drew⟩⟩ <;> (intro h; exact absurd h (by decide))
              · rintro L_ a wx ⟨v, rfl, hI⟩ hL hdep hcl K hK
                go_simp
                exact hK _ _ ⟨(upd v 117 (.int .i64 ↑k)), rfl, ⟨fun _ => rfl, hI.t1, hI.t2, hI.t3, hI.t4, hI.t5, hI.t6, hI.t7, hI.t8, hI.t9, hI.t10, hI.t11, hI.t12, hI.t13, hI.t14, hI.t15, hI.t16, hI.bw⟩⟩
              · rintro L_ a wx ⟨v, rfl, hI⟩ hL hdep hcl K hK
                have e0 := hI.t0 (hdep 0 (by decide))
                rw [e0]
                go_simp
                exact hK _ _ ⟨(upd (upd v 117 (.int .i64 ↑k)) 118 (.pointer (some ⟨g3, k, none⟩))), rfl, ⟨fun _ => rfl, fun _ => rfl, hI.t2, hI.t3, hI.t4, hI.t5, hI.t6, hI.t7, hI.t8, hI.t9, hI.t10, hI.t11, hI.t12, hI.t13, hI.t14, hI.t15, hI.t16, hI.bw⟩⟩
              · rintro L_ a wx ⟨v, rfl, hI⟩ hL hdep hcl K hK
                have e1 := hI.t1 (hdep 1 (by decide))
                rw [e1]
                have c := (hI.bw.cell (p := ⟨g3, k, none⟩) HGL.out).trans HCW.out
                go_simp
                exact hK _ _ ⟨(upd (upd v 118 (.pointer (some ⟨g3, k, none⟩))) 119 (.slice (some ⟨ga, gz, none⟩) m c2)), rfl, ⟨hI.t0, fun _ => rfl, fun _ => rfl, hI.t3, hI.t4, hI.t5, hI.t6, hI.t7, hI.t8, hI.t9, hI.t10, hI.t11, hI.t12, hI.t13, hI.t14, hI.t15, hI.t16, hI.bw⟩⟩
              · rintro L_ a wx ⟨v, rfl, hI⟩ hL hdep hcl K hK
                go_simp
                exact hK _ _ ⟨(upd v 120 (.int .i64 ↑j)), rfl, ⟨hI.t0, hI.t1, hI.t2, fun _ => rfl, hI.t4, hI.t5, hI.t6, hI.t7, hI.t8, hI.t9, hI.t10, hI.t11, hI.t12, hI.t13, hI.t14, hI.t15, hI.t16, hI.bw⟩⟩
              · rintro L_ a wx ⟨v, rfl, hI⟩ hL hdep hcl K hK
                have e2 := hI.t2 (hdep 2 (by decide))
                have e3 := hI.t3 (hdep 3 (by decide))
                rw [e2, e3]
                go_simp
                exact hK _ _ ⟨(upd (upd (upd v 119 (.slice (some ⟨ga, gz, none⟩) m c2)) 120 (.int .i64 ↑j)) 121 (.pointer (some ⟨ga, gz + j * 32, none⟩))), rfl, ⟨hI.t0, hI.t1, fun _ => rfl, fun _ => rfl, fun _ => rfl, hI.t5, hI.t6, hI.t7, hI.t8, hI.t9, hI.t10, hI.t11, hI.t12, hI.t13, hI.t14, hI.t15, hI.t16, hI.bw⟩⟩
              · rintro L_ a wx ⟨v, rfl, hI⟩ hL hdep hcl K hK
                have e4 := hI.t4 (hdep 4 (by decide))
                rw [e4]
                refine wp_load_mid 48 _ rfl ga (gz + j * 32) rfl (bvs x) (.array 32 5) (HRG.out wx hI.bw) Tryd.underlying48 rfl h32x.out ?_
                exact hK _ _ ⟨(upd (upd v 121 (.pointer (some ⟨ga, gz + j * 32, none⟩))) 122 (.agg (bvs x).toArray)), rfl, ⟨hI.t0, hI.t1, hI.t2, hI.t3, fun _ => rfl, fun _ => rfl, hI.t6, hI.t7, hI.t8, hI.t9, hI.t10, hI.t11, hI.t12, hI.t13, hI.t14, hI.t15, hI.t16, hI.bw⟩⟩
              · rintro L_ a wx ⟨v, rfl, hI⟩ hL hdep hcl K hK
                go_simp
                exact hK _ _ ⟨(upd v 123 (.slice (some ⟨pb, po, none⟩) i cl)), rfl, ⟨hI.t0, hI.t1, hI.t2, hI.t3, hI.t4, hI.t5, fun _ => rfl, hI.t7, hI.t8, hI.t9, hI.t10, hI.t11, hI.t12, hI.t13, hI.t14, hI.t15, hI.t16, hI.bw⟩⟩
              · rintro L_ a wx ⟨v, rfl, hI⟩ hL hdep hcl K hK
                go_simp
                exact hK _ _ ⟨(upd v 124 (.int .i64 ↑j)), rfl, ⟨hI.t0, hI.t1, hI.t2, hI.t3, hI.t4, hI.t5, hI.t6, fun _ => rfl, hI.t8, hI.t9, hI.t10, hI.t11, hI.t12, hI.t13, hI.t14, hI.t15, hI.t16, hI.bw⟩⟩
              · rintro L_ a wx ⟨v, rfl, hI⟩ hL hdep hcl K hK
                go_simp
                exact hK _ _ ⟨(upd v 125 (.int .i64 (↑N))), rfl, ⟨hI.t0, hI.t1, hI.t2, hI.t3, hI.t4, hI.t5, hI.t6, hI.t7, fun _ => rfl, hI.t9, hI.t10, hI.t11, hI.t12, hI.t13, hI.t14, hI.t15, hI.t16, hI.bw⟩⟩
              · rintro L_ a wx ⟨v, rfl, hI⟩ hL hdep hcl K hK
                have e7 := hI.t7 (hdep 7 (by decide))
                have e8 := hI.t8 (hdep 8 (by decide))
                rw [e7, e8]
                go_simp
                exact hK _ _ ⟨(upd (upd (upd v 124 (.int .i64 ↑j)) 125 (.int .i64 (↑N))) 126 (.int .i64 (J0 : Int))), rfl, ⟨hI.t0, hI.t1, hI.t2, hI.t3, hI.t4, hI.t5, hI.t6, fun _ => rfl, fun _ => rfl, fun _ => rfl, hI.t10, hI.t11, hI.t12, hI.t13, hI.t14, hI.t15, hI.t16, hI.bw⟩⟩
              · rintro L_ a wx ⟨v, rfl, hI⟩ hL hdep hcl K hK
                go_simp
                exact hK _ _ ⟨(upd v 127 (.int .i64 ↑j)), rfl, ⟨hI.t0, hI.t1, hI.t2, hI.t3, hI.t4, hI.t5, hI.t6, hI.t7, hI.t8, hI.t9, fun _ => rfl, hI.t11, hI.t12, hI.t13, hI.t14, hI.t15, hI.t16, hI.bw⟩⟩
              · rintro L_ a wx ⟨v, rfl, hI⟩ hL hdep hcl K hK
                have e10 := hI.t10 (hdep 10 (by decide))
                rw [e10]
                go_simp
                exact hK _ _ ⟨(upd (upd v 127 (.int .i64 ↑j)) 128 (.int .i64 (j1 : Int))), rfl, ⟨hI.t0, hI.t1, hI.t2, hI.t3, hI.t4, hI.t5, hI.t6, hI.t7, hI.t8, hI.t9, fun _ => rfl, fun _ => rfl, hI.t12, hI.t13, hI.t14, hI.t15, hI.t16, hI.bw⟩⟩
              · rintro L_ a wx ⟨v, rfl, hI⟩ hL hdep hcl K hK
                go_simp
                exact hK _ _ ⟨(upd v 129 (.int .i64 (↑N))), rfl, ⟨hI.t0, hI.t1, hI.t2, hI.t3, hI.t4, hI.t5, hI.t6, hI.t7, hI.t8, hI.t9, hI.t10, hI.t11, fun _ => rfl, hI.t13, hI.t14, hI.t15, hI.t16, hI.bw⟩⟩
              · rintro L_ a wx ⟨v, rfl, hI⟩ hL hdep hcl K hK
                have e11 := hI.t11 (hdep 11 (by decide))
                have e12 := hI.t12 (hdep 12 (by decide))
                rw [e11, e12]
                go_simp
                exact hK _ _ ⟨(upd (upd (upd v 128 (.int .i64 (j1 : Int))) 129 (.int .i64 (↑N))) 130 (.int .i64 (J1 : Int))), rfl, ⟨hI.t0, hI.t1, hI.t2, hI.t3, hI.t4, hI.t5, hI.t6, hI.t7, hI.t8, hI.t9, hI.t10, fun _ => rfl, fun _ => rfl, fun _ => rfl, hI.t14, hI.t15, hI.t16, hI.bw⟩⟩
              · rintro L_ a wx ⟨v, rfl, hI⟩ hL hdep hcl K hK
                have e6 := hI.t6 (hdep 6 (by decide))
                have e9 := hI.t9 (hdep 9 (by decide))
                have e13 := hI.t13 (hdep 13 (by decide))
                rw [e6, e9, e13]
                go_simp
                exact hK _ _ ⟨(upd (upd (upd (upd v 123 (.slice (some ⟨pb, po, none⟩) i cl)) 126 (.int .i64 (J0 : Int))) 130 (.int .i64 (J1 : Int))) 131 (.slice (some ⟨pb, po + J0 * 32, none⟩) N (cl - J0))), rfl, ⟨hI.t0, hI.t1, hI.t2, hI.t3, hI.t4, hI.t5, fun _ => rfl, hI.t7, hI.t8, fun _ => rfl, hI.t10, hI.t11, hI.t12, fun _ => rfl, fun _ => rfl, hI.t15, hI.t16, hI.bw⟩⟩
              · rintro L_ a wx ⟨v, rfl, hI⟩ hL hdep hcl K hK
                have e14 := hI.t14 (hdep 14 (by decide))
                rw [e14]
                go_simp
                refine (HRT.out wx hI.bw).mono ?_
                rintro e w2 ⟨rfl, hb⟩
                exact hK _ _ ⟨(upd (upd v 131 (.slice (some ⟨pb, po + J0 * 32, none⟩) N (cl - J0))) 132 (.agg (bvs x).toArray)), rfl, ⟨hI.t0, hI.t1, hI.t2, hI.t3, hI.t4, hI.t5, hI.t6, hI.t7, hI.t8, hI.t9, hI.t10, hI.t11, hI.t12, hI.t13, fun _ => rfl, fun _ => rfl, hI.t16, (hI.bw).trans (hb.mono (hI.bw).size)⟩⟩
              · rintro L_ a wx ⟨v, rfl, hI⟩ hL hdep hcl K hK
                have e5 := hI.t5 (hdep 5 (by decide))
                have e15 := hI.t15 (hdep 15 (by decide))
                rw [e5, e15]
                refine ow_neS _ _ _ rfl x HX32.out rfl rfl ?_
                exact hK _ _ ⟨(upd (upd (upd v 122 (.agg (bvs x).toArray)) 132 (.agg (bvs x).toArray)) 133 (.bool false)), rfl, ⟨hI.t0, hI.t1, hI.t2, hI.t3, hI.t4, fun _ => rfl, hI.t6, hI.t7, hI.t8, hI.t9, hI.t10, hI.t11, hI.t12, hI.t13, hI.t14, fun _ => rfl, fun _ => rfl, hI.bw⟩⟩
              · rintro a wx ⟨v, rfl, hI⟩
                have hbw := hI.bw
                have e16 := hI.t16 rfl
                clear hI
                rw [e16]
                go_wp2_with fail
                go_roundw
                case rel => exact ⟨j + 1, by have := HJM.out; omega, by rw [HJJ.out], HB0.out.trans (hbw.mono HB0.out.size)⟩
                case measure => have := HJM.out; have := HJJ.out; simp [intOf]; omega
            · have e : j = m := by omega
              subst e
              have hb2 := HBQ.out.trans (hb0.mono HBQ.out.size)
              have hI2 := HI.out.to hb0
              have hS2 : B ≤ wr.heap.size := Nat.le_trans HSQ.out hb0.size
              clear HI HBQ HSQ HC2 HR2
              go_wp2_with fail
              go_roundw
              case rel => exact ⟨k + 1, by have := HK3.out; omega, by go_num, hI2, hb2, hS2⟩
              case measure => have := HK3.out; simp [intOf]; omega
        · have e : k = 3 := by omega
          subst e
          go_wp2_with (go_at_call 15; go_loud (refine (HW.out _ hbq).mono ?_); rintro e y1 ⟨rfl, hb1⟩)
          go_ret
          exact ⟨rfl, hbq.trans (hb1.mono hbq.size)⟩
end Go.Proofs.YtfidajbenmgflaaDoor
