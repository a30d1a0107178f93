/-
  The document's own answer: a block that goes in. Conditions: those in each statement.
-/
import Derived.Test.YtfidajbenmgflaaDoorShaQ
namespace Go.Proofs.YtfidajbenmgflaaDoor
open Go.RowKit

set_option maxRecDepth 100000 in
set_option maxHeartbeats 3200000 in
set_option maxRecDepth 100000 in
theorem rBlock_any (s : R8) (xs : List UInt8) (a : Option Addr) (cap : Nat) (hx : xs.length = 64) (w : World) (hr : Rd w a 64 cap xs) :
    Calls Tryd.prog 55 #[.agg (qs s.list).toArray, .slice a 64 cap] w (Tab (blk s xs).list w) := by
  have hsl := sched_len xs
  have hcap := hr.le
  obtain ⟨bb, off, rfl, hbb, hcx⟩ := hr.mem (by omega)
  have HC := Lib.hid hcx
  have HX := Lib.hid hx
  have HSL := Lib.hid hsl
  clear hx hsl hcx hr
  go_enter Tryd.func55, Tryd.ntmps55
  go_wp2_with (first
    | ((with_reducible show wpList _ _ _ (⟨some 2, .box _ _, _, _, _, _⟩ :: _) _ _); refine wl_box rfl 105 _ rfl (qs s.list) rfl ?_; intro w1 hA1 hb1 hs1)
    | ((with_reducible show wpList _ _ _ (⟨some 4, .alloc _, _, _, _, _⟩ :: _) _ _); refine wl_alloc rfl 105 rfl (qs (Z 8)) 8 info8 ?_; intro w2 hA2 hb2 hs2)
    | ((with_reducible show wpList _ _ _ (⟨some 5, .alloc _, _, _, _, _⟩ :: _) _ _); refine wl_alloc rfl 132 rfl (qs (Z 64)) 64 info64 ?_; intro w3 hA3 hb3 hs3))
  generalize h1 : w.heap.size = g1 at *
  generalize h2 : w1.heap.size = g2 at *
  generalize h3 : w2.heap.size = g3 at *
  have G1 := Lib.hid h1
  have G2 := Lib.hid h2
  have G3 := Lib.hid h3
  clear h1 h2 h3
  have hB3 : Below g1 w w3 := hb1.trans ((hb2.mono (Nat.le_of_lt hs1)).trans (hb3.mono (by omega)))
  have hX3 : Arr w3 g1 105 (qs s.list) := (hA1.to hb2 hs1).to hb3 (by omega)
  have hR3 : Arr w3 g2 105 (qs (Z 8)) := hA2.to hb3 hs2
  have hZ : Arr w3 g3 132 (qs (padZ (words xs 0) 64)) := hA3
  clear hA1 hA2 hA3 hb1 hb2 hb3
  go_loopw [6] (fun i wr => ∃ k : Nat, k ≤ 16 ∧ i = .int .i64 k ∧ Arr wr g1 105 (qs s.list) ∧ Arr wr g2 105 (qs (Z 8)) ∧ Arr wr g3 132 (qs (padZ (words xs k) 64)) ∧ Below g1 w wr) (fun i _ => 16 - (intOf i).toNat)
  case atStart => exact ⟨0, by omega, rfl, hX3, hR3, hZ, hB3⟩
  case round =>
    obtain ⟨k, hk, rfl, hX, hR, hW, hB⟩ := hrel
    by_cases hlt : k < 16
    · have hc : (k : Int) < 16 := by omega
      go_wp2_with fail
      obtain ⟨wo, rfl⟩ : ∃ wo : World, wo = wr := ⟨_, rfl⟩
      go_loopw [7] (fun i wr => ∃ j : Nat, j ≤ 4 ∧ i = .int .i64 j ∧ Arr wr g1 105 (qs s.list) ∧ Arr wr g2 105 (qs (Z 8)) ∧ Arr wr g3 132 (qs (padZ (words xs k ++ [pw xs k j]) 64)) ∧ Below g1 w wr) (fun i _ => 4 - (intOf i).toNat)
      case atStart =>
        have e : padZ (words xs k ++ [pw xs k 0]) 64 = padZ (words xs k) 64 := by
          have := padZ_zero (words xs k) 64 (by rw [words_len]; omega)
          exact this
        exact ⟨0, by omega, rfl, hX, hR, by rw [e]; exact hW, hB⟩
      case round =>
        obtain ⟨j, hj, rfl, hX, hR, hW, hB⟩ := hrel
        by_cases hlj : j < 4
        · have hc2 : (j : Int) < 4 := by omega
          have hwl := words_len xs k
          have hpl : (padZ (words xs k ++ [pw xs k j]) 64).length = 64 := padZ_len _ _ (by simp; omega)
          have cw := (hW.cell k).trans (qs_get _ k (by rw [hpl]; omega))
          rw [padZ_getD _ _ _ (by simp; omega), show (words xs k ++ [pw xs k j]).getD k 0 = pw xs k j by
            have := List.getElem?_concat_length (l := words xs k) (a := pw xs k j)
            rw [hwl] at this
            simp only [List.getD, this, Option.getD_some]] at cw
          have fw := hW.frozen k
          have cb := (hB.cell (p := ⟨bb, off + (4 * k + j), none⟩) (by show bb < g1; have := G1.out; omega)).trans (HC.out (4 * k + j) (by omega))
          have bb1 := (xs.getD (4 * k + j) 0).toNat_lt
          have hraw : Hid (256 * ((pw xs k j).toNat : Int) % 4294967296 + ((xs.getD (4 * k + j) 0).toNat : Int) = ((pw xs k (j + 1)).toNat : Int)) := by
            have := pw_raw xs k j
            have h2 := u32_lt (pw xs k j)
            show _ = _
            omega
          have hst := hW.store k (.int .u32 ((pw xs k (j + 1)).toNat : Int))
          rw [qs_set, show (padZ (words xs k ++ [pw xs k j]) 64).set k (pw xs k (j + 1)) = padZ (words xs k ++ [pw xs k (j + 1)]) 64 by
            have := padZ_last (words xs k) 64 (pw xs k j) (pw xs k (j + 1))
            rw [hwl] at this
            exact this] at hst
          have hX' := hX.other ⟨g3, k, none⟩ (by simp; omega) (.int .u32 ((pw xs k (j + 1)).toNat : Int))
          have hR' := hR.other ⟨g3, k, none⟩ (by simp; omega) (.int .u32 ((pw xs k (j + 1)).toNat : Int))
          have hB' := hB.setCell (p := ⟨g3, k, none⟩) (by simp; omega) (.int .u32 ((pw xs k (j + 1)).toNat : Int))
          clear hwl hpl hX hR hW hB
          generalize xs.getD (4 * k + j) 0 = y at *
          generalize pw xs k j = p at *
          generalize hp' : pw xs k (j + 1) = p' at *
          have HP := Lib.hid hp'
          clear hp'
          go_upto_region 8 with fail
          go_region
          go_wp2
          go_roundw
          case rel =>
            rw [hraw.out]
            exact ⟨j + 1, by omega, by go_num, hX'.drew, hR'.drew, by rw [HP.out]; exact hst.drew, hB'.drew⟩
          case measure => simp [intOf]; omega
        · have hj4 : j = 4 := by omega
          have hc2 : ¬ (j : Int) < 4 := by omega
          have e : padZ (words xs k ++ [pw xs k j]) 64 = padZ (words xs (k + 1)) 64 := by rw [hj4, pw_four, words_snoc]
          rw [e] at hW
          go_wp2
          go_roundw
          case rel => exact ⟨k + 1, by omega, by go_num, hX, hR, hW, hB⟩
          case measure => simp [intOf]; omega
    · have hc : ¬ (k : Int) < 16 := by omega
      have hk16 : k = 16 := by omega
      rw [show padZ (words xs k) 64 = padZ (grow 0 (words xs 16)) 64 by rw [hk16]; rfl] at hW
      clear hk16 hk hlt
      go_wp2_with fail
      go_loopw [8] (fun i wr => ∃ k : Nat, k ≤ 48 ∧ i = .int .i64 ((16 + k : Nat) : Int) ∧ Arr wr g1 105 (qs s.list) ∧ Arr wr g2 105 (qs (Z 8)) ∧ Arr wr g3 132 (qs (padZ (grow k (words xs 16)) 64)) ∧ Below g1 w wr) (fun i _ => 64 - (intOf i).toNat)
      case atStart => exact ⟨0, by omega, by go_num, hX, hR, hW, hB⟩
      case round =>
        obtain ⟨k, hk, rfl, hX, hR, hW, hB⟩ := hrel
        have hgl := grow_len k (words xs 16)
        have hwl := words_len xs 16
        have hnx : Hid (grow (k + 1) (words xs 16) = grow k (words xs 16) ++ [nextW (grow k (words xs 16))]) := rfl
        obtain ⟨i, hi⟩ : ∃ i : Nat, 16 + k = i := ⟨_, rfl⟩
        by_cases hlt : k < 48
        · generalize grow k (words xs 16) = ws at *
          rw [hwl, hi] at hgl
          rw [hi]
          have hpl := padZ_len ws 64 (by omega)
          have cell : ∀ j, j < ws.length → ∀ w', Arr w' g3 132 (qs (padZ ws 64)) → w'.cell? ⟨g3, j, none⟩ = some (.int .u32 ((ws.getD j 0).toNat : Int)) := fun j hj w' h => by
            rw [h.cell, qs_get _ _ (by omega), padZ_getD _ _ _ hj]
          have C16 := Lib.hid (cell (i - 16) (by omega))
          have C15 := Lib.hid (cell (i - 15) (by omega))
          have C7 := Lib.hid (cell (i - 7) (by omega))
          have C2 := Lib.hid (cell (i - 2) (by omega))
          have CW : Hid (∀ w', Arr w' g3 132 (qs (padZ ws 64)) → w'.cell? ⟨g3, i, none⟩ = some (.int .u32 (((padZ ws 64).getD i 0).toNat : Int))) := fun w' h => by
            rw [h.cell, qs_get _ i (by omega)]
          have hnw : Hid (nextW ws = ws.getD (i - 16) 0 + ws.getD (i - 7) 0 + sg0 (ws.getD (i - 15) 0) + sg1 (ws.getD (i - 2) 0)) := by
            show nextW ws = _
            unfold nextW; rw [hgl]
          have HGL := Lib.hid hgl
          have HI := Lib.hid hi
          have hi16 : 16 ≤ i := by omega
          have hi64 : i < 64 := by omega
          clear cell hwl hgl hpl hi
          generalize ws.getD (i - 16) 0 = x16 at *
          generalize ws.getD (i - 15) 0 = x15 at *
          generalize ws.getD (i - 7) 0 = x7 at *
          generalize ws.getD (i - 2) 0 = x2 at *
          have c15 := C15.out _ hW
          have f16 : (16 : Int) ≤ (i : Int) := by omega
          have hc : (i : Int) < 64 := by omega
          have e15 : IntKind.i64.wrap ((i : Int) - 15) = (i : Int) - 15 := IntWalk.i64_in _ (by omega)
          have e2 : IntKind.i64.wrap ((i : Int) - 2) = (i : Int) - 2 := IntWalk.i64_in _ (by omega)
          have f15 : (15 : Int) ≤ (i : Int) := by omega
          have f2 : (2 : Int) ≤ (i : Int) := by omega
          have g15 : (i : Int) - 15 < 64 := by omega
          have g2' : (i : Int) - 2 < 64 := by omega
          have t15 : ((i : Int) - 15).toNat = i - 15 := by omega
          have t2 : ((i : Int) - 2).toNat = i - 2 := by omega
          go_upto_region 12 with fail
          go_quiet ((go_at_call 79; exact Calls.quiet_of_same ((rturn_any _ _ (by simp [turns]) (by omega) _).mono fun _ _ h => ⟨h.1, h.2.symm⟩)))
          clear c15
          replace hX := hX.drewN nq
          replace hR := hR.drewN nq
          replace hW := hW.drewN nq
          replace hB := below_drewN hB nq
          generalize wr.drewN nq = wa at *
          have c2 := C2.out _ hW
          go_upto_region 13 with fail
          go_quiet ((go_at_call 79; exact Calls.quiet_of_same ((rturn_any _ _ (by simp [turns]) (by omega) _).mono fun _ _ h => ⟨h.1, h.2.symm⟩)))
          clear c2 e15 e2 f15 f2 g15 g2' t15 t2
          replace hX := hX.drewN nq
          replace hR := hR.drewN nq
          replace hW := hW.drewN nq
          replace hB := below_drewN hB nq
          generalize wa.drewN nq = wb at *
          have c16 := C16.out _ hW
          have c7 := C7.out _ hW
          have cw := CW.out _ hW
          have fw := hW.frozen i
          have KX := Lib.hid hX
          have KR := Lib.hid hR
          have KW := Lib.hid hW
          have KB := Lib.hid hB
          clear hX hR hW hB
          go_upto_region 14 with fail
          go_region
          go_wp2
          go_roundw
          case rel =>
            rw [rnextW_raw, ← hnw.out]
            have hl2 : ws.length = i := HGL.out
            refine ⟨k + 1, by omega, by rw [show 16 + (k + 1) = i + 1 by have := HI.out; omega]; go_num, (KX.out.other _ (by simp; omega) _).drew, (KR.out.other _ (by simp; omega) _).drew, ?_, (KB.out.setCell (by simp; omega) _).drew⟩
            rw [hnx.out, ← padZ_snoc ws 64 _ (by omega), hl2, ← qs_set]
            exact (KW.out.store i _).drew
          case measure =>
            simp [intOf]
            omega
        · have hk48 : k = 48 := by omega
          have hc : ¬ (((16 + k : Nat) : Int) < 64) := by omega
          rw [show padZ (grow k (words xs 16)) 64 = sched xs by rw [hk48]; exact padZ_full _ _ (by rw [grow_len, words_len])] at hW
          clear hgl hwl hnx hk48
          generalize hS : sched xs = S at *
          have HS := Lib.hid hS
          clear hS
          generalize ((16 + k : Nat) : Int) = kk at *
          go_wp2_with (first
            | (go_at_call 80; refine (rconsts_any _).mono ?_; rintro e w6 ⟨rfl, hb6⟩)
            | ((with_reducible show wpList _ _ _ (⟨some 11, .alloc _, _, _, _, _⟩ :: _) _ _); refine wl_alloc rfl 132 rfl (qs (Z 64)) 64 info64 ?_; intro w7 hA7 hb7 hs7)
            | ((with_reducible show wpList _ _ _ (⟨none, .store _ _ _, _, _, _, _⟩ :: _) _ _); refine wl_store rfl 132 _ _ rfl w6.heap.size 0 rfl (qs K64) rfl 132 _ hA7 (by rw [size64]; rfl) (by decide) (qs_one _) ?_; intro w8 hA8 hg8 hs8))
          generalize h6 : w6.heap.size = g5 at *
          have G5 := Lib.hid h6
          clear h6
          have hg1 : g1 < g5 := Nat.lt_of_lt_of_le hX.lt (by have := hb6.size; have := G5.out; omega)
          have hg2 : g2 < g5 := Nat.lt_of_lt_of_le hR.lt (by have := hb6.size; have := G5.out; omega)
          have hg3 : g3 < g5 := Nat.lt_of_lt_of_le hW.lt (by have := hb6.size; have := G5.out; omega)
          have hX8 := ((hX.kept hb6).to hb7 hg1).grown hg8 (by intro e; injection e with e; omega)
          have hR8 := ((hR.kept hb6).to hb7 hg2).grown hg8 (by intro e; injection e with e; omega)
          have hW8 := ((hW.kept hb6).to hb7 hg3).grown hg8 (by intro e; injection e with e; omega)
          rw [whole_store _ _ (by rfl)] at hA8
          have hB8 := ((hB.trans (hb6.mono (Nat.le_of_lt hX.lt))).trans (hb7.mono (Nat.le_of_lt hg1))).grown hg8 (by have := hb7.size; have := G5.out; omega) (by intro k e; injection e with e; omega)
          clear hX hR hW hA7 hg8 hb6 hb7 hB
          have n0 : w8.cell? ⟨g1, 0, none⟩ = some (.int .u32 (s.a.toNat : Int)) := hX8.cell 0
          have n1 : w8.cell? ⟨g1, 1, none⟩ = some (.int .u32 (s.b.toNat : Int)) := hX8.cell 1
          have n2 : w8.cell? ⟨g1, 2, none⟩ = some (.int .u32 (s.c.toNat : Int)) := hX8.cell 2
          have n3 : w8.cell? ⟨g1, 3, none⟩ = some (.int .u32 (s.d.toNat : Int)) := hX8.cell 3
          have n4 : w8.cell? ⟨g1, 4, none⟩ = some (.int .u32 (s.e.toNat : Int)) := hX8.cell 4
          have n5 : w8.cell? ⟨g1, 5, none⟩ = some (.int .u32 (s.f.toNat : Int)) := hX8.cell 5
          have n6 : w8.cell? ⟨g1, 6, none⟩ = some (.int .u32 (s.g.toNat : Int)) := hX8.cell 6
          have n7 : w8.cell? ⟨g1, 7, none⟩ = some (.int .u32 (s.h.toNat : Int)) := hX8.cell 7
          go_wp2_with fail
          go_quiet (fail)
          clear n0 n1 n2 n3 n4 n5 n6 n7
          replace hN := hX8.drewN nq
          replace hR := hR8.drewN nq
          replace hK5 := hA8.drewN nq
          replace hW6 := hW8.drewN nq
          replace hB := below_drewN hB8 nq
          clear hX8 hR8 hA8 hW8 hB8
          generalize w8.drewN nq = wq at *
          go_wp2_with fail
          go_loopw [12, 13, 14, 15, 16, 17, 18, 19, 20] (fun a b c d e f g h i wr => ∃ k : Nat, k ≤ 64 ∧ i = .int .i64 k ∧ a = q (s.run S k).a ∧ b = q (s.run S k).b ∧ c = q (s.run S k).c ∧ d = q (s.run S k).d ∧ e = q (s.run S k).e ∧ f = q (s.run S k).f ∧ g = q (s.run S k).g ∧ h = q (s.run S k).h ∧
            Arr wr g1 105 (qs s.list) ∧ Arr wr g2 105 (qs (Z 8)) ∧ Arr wr g5 132 (qs K64) ∧ Arr wr g3 132 (qs S) ∧ Below g1 w wr) (fun _ _ _ _ _ _ _ _ i _ => 64 - (intOf i).toNat)
          case atStart => exact ⟨0, by omega, rfl, rfl, rfl, rfl, rfl, rfl, rfl, rfl, rfl, hN, hR, hK5, hW6, hB⟩
          case round =>
            obtain ⟨k, hk, rfl, rfl, rfl, rfl, rfl, rfl, rfl, rfl, rfl, hN, hR, hK5, hW6, hB⟩ := hrel
            unfold q
            by_cases hlt : k < 64
            · have hs : Hid (s.run S (k + 1) = (s.run S k).step (K64.getD k 0) (S.getD k 0)) := rfl
              have ck := (hK5.cell k).trans (qs_get K64 k (by rw [K64_len]; exact hlt))
              have cw := (hW6.cell k).trans (qs_get S k (by rw [HSL.out]; exact hlt))
              generalize K64.getD k 0 = x at *
              generalize S.getD k 0 = y at *
              generalize s.run S k = t at *
              obtain ⟨a, b, c, d, e, f, g, h⟩ := t
              simp only
              have hc : ((k : Int) < 64) := by omega
              go_upto_region 20 with fail
              go_quiet ((go_at_call 79; exact Calls.quiet_of_same ((rturn_any _ _ (by simp [turns]) (by omega) _).mono fun _ _ h => ⟨h.1, h.2.symm⟩)))
              clear ck cw
              replace hN := hN.drewN nq
              replace hR := hR.drewN nq
              replace hK5 := hK5.drewN nq
              replace hW6 := hW6.drewN nq
              replace hB := below_drewN hB nq
              generalize wr.drewN nq = wq at *
              go_wp2_with (go_at_call 79; refine (rturn_any _ _ (by simp [turns]) (by omega) _).mono ?_; rintro e w' ⟨rfl, rfl⟩)
              go_roundw
              case rel =>
                refine ⟨k + 1, by omega, by go_num, ?_, ?_, ?_, ?_, ?_, ?_, ?_, ?_, hN, hR, hK5, hW6, hB⟩ <;> rw [hs.out]
                · exact congrArg (Value.int .u32) (step_a a b c d e f g h x y)
                · rfl
                · rfl
                · rfl
                · exact congrArg (Value.int .u32) (step_e a b c d e f g h x y)
                · rfl
                · rfl
                · rfl
              case measure => simp [intOf]; omega
            · have hk64 : k = 64 := by omega
              have hfin : (blk s xs).list = (s.add (s.run S k)).list := by rw [hk64, blk_list, HS.out]
              have HF := Lib.hid hfin
              clear hfin hk64
              have hc : ¬ ((k : Int) < 64) := by omega
              generalize s.run S k = t at *
              have n0 : wr.cell? ⟨g1, 0, none⟩ = some (.int .u32 (s.a.toNat : Int)) := hN.cell 0
              have n1 : wr.cell? ⟨g1, 1, none⟩ = some (.int .u32 (s.b.toNat : Int)) := hN.cell 1
              have n2 : wr.cell? ⟨g1, 2, none⟩ = some (.int .u32 (s.c.toNat : Int)) := hN.cell 2
              have n3 : wr.cell? ⟨g1, 3, none⟩ = some (.int .u32 (s.d.toNat : Int)) := hN.cell 3
              have n4 : wr.cell? ⟨g1, 4, none⟩ = some (.int .u32 (s.e.toNat : Int)) := hN.cell 4
              have n5 : wr.cell? ⟨g1, 5, none⟩ = some (.int .u32 (s.f.toNat : Int)) := hN.cell 5
              have n6 : wr.cell? ⟨g1, 6, none⟩ = some (.int .u32 (s.g.toNat : Int)) := hN.cell 6
              have n7 : wr.cell? ⟨g1, 7, none⟩ = some (.int .u32 (s.h.toNat : Int)) := hN.cell 7
              clear hlt hk hK5 hW6 hN
              go_upto_region 30 with fail
              go_wp2_with ((with_reducible show wpList _ _ _ (⟨none, .store _ _ _, _, _, _, _⟩ :: _) _ _); refine wl_store rfl 105 _ _ rfl g2 0 rfl (raw8 s t) rfl 105 _ hR (by rw [size8]; rfl) (show 0 + 8 ≤ 8 from Nat.le_refl 8) (raw8_one s t) ?_; intro w9 hA9 hg9 hs9)
              refine end_cell rfl g2 105 (raw8 s t) (.array 8 104) rfl ?_ Tryd.underlying105 rfl (by rw [size8]; rfl) rfl ⟨by rw [raw8_eq, HF.out], G1.out ▸ hB.grown hg9 (Nat.le_trans (by omega) (Nat.le_of_lt hR.lt)) (by intro k e; cases e; omega)⟩
              rw [whole_store _ _ (by rfl)] at hA9
              exact hA9
end Go.Proofs.YtfidajbenmgflaaDoor
