/-
  The document's Put and Head. Conditions: those in each statement.
-/
import Derived.Test.YtfidajbenmgflaaDoorTiG
import Derived.Test.YtfidajbenmgflaaDoorTiI
namespace Go.Proofs.YtfidajbenmgflaaDoor
open Go.RowKit

set_option maxRecDepth 100000 in
set_option maxHeartbeats 3200000 in
theorem rPut_any (L : List (List UInt8)) (ad : Option Addr) (n cap : Nat) (w : World) (hr : RdD w ad n cap L) :
    Calls Tryd.prog 17 #[.slice ad n cap] w fun e w' => ∃ v, e = .returned (.tuple #[v, .int .i64 (putE L)]) ∧ Own w' w.heap.size 5 v (putT L) ∧ Below w.heap.size w w' := by
  have hlen := hr.len
  have HE : Hid (putE L = if 1 ≤ n ∧ n ≤ 16 then 0 else 1) := by show putE L = _; unfold putE; rw [hlen]
  have HP : Hid (putT L = if 1 ≤ n ∧ n ≤ 16 then L.flatten else []) := by show putT L = _; unfold putT; rw [hlen]
  generalize putE L = pe at HE ⊢
  generalize putT L = pt at HP ⊢
  have HR := Lib.hid hr
  have HL := Lib.hid hlen
  clear hr hlen
  go_enter Tryd.func17, Tryd.ntmps17
  by_cases h1 : n = 0
  · have hx : pe = 1 := by rw [HE.out, if_neg (by omega)]
    have hy : pt = [] := by rw [HP.out, if_neg (by omega)]
    subst hx hy h1
    go_wp2_with fail
    go_ret2
    exact ⟨_, rfl, Own.nil _ _ _, Below.refl _ _⟩
  · have h1' : ((n : Int) == 0) = false := beq_eq_false_iff_ne.2 (by omega)
    by_cases h2 : 16 < n
    · have h2' : (16 : Int) < (n : Int) := by omega
      have hx : pe = 1 := by rw [HE.out, if_neg (by omega)]
      have hy : pt = [] := by rw [HP.out, if_neg (by omega)]
      subst hx hy
      clear h1 h2
      go_wp2_with fail
      go_ret2
      exact ⟨_, rfl, Own.nil _ _ _, Below.refl _ _⟩
    · have h2' : ¬ (16 : Int) < (n : Int) := by omega
      have hx : pe = 0 := by rw [HE.out, if_pos (by omega)]
      have hy : Hid (pt = L.flatten) := by show pt = _; rw [HP.out, if_pos (by omega)]
      subst hx
      have HN : Hid (1 ≤ n ∧ n ≤ 16) := by show 1 ≤ n ∧ n ≤ 16; omega
      obtain ⟨pb, po, rfl, hpb, hpc⟩ := HR.out.mem (by omega)
      have HPC := Lib.hid hpc
      clear h1 h2 hpc
      go_upto_region 5 with fail
      clear h1' h2'
      go_loopw [4, 5] (fun out ix wr => ∃ k : Nat, k ≤ n ∧ ix = .int .i64 (k : Int) ∧ Own wr w.heap.size 5 out ((L.take k).flatten) ∧ Below w.heap.size w wr) (fun _ ix _ => n - (intOf ix).toNat)
      case atStart => exact ⟨0, by omega, rfl, Own.nil _ _ _, Below.refl _ _⟩
      case round =>
        obtain ⟨i, hi, rfl, ho, hbr⟩ := hrel
        have HO := Lib.hid ho
        have HBR := Lib.hid hbr
        clear ho hbr
        by_cases hlt : i < n
        · have hlti : (i : Int) < (n : Int) := by omega
          obtain ⟨d, hd⟩ : ∃ d, d = L.getD i [] := ⟨_, rfl⟩
          have hd32 : d.length = 32 := by
            have hl := HL.out
            rw [hd]
            refine HR.out.all.mem ?_
            rw [List.getD, List.getElem?_eq_getElem (by omega)]
            exact List.getElem_mem _
          have HT : Hid ((L.take (i + 1)).flatten = (L.take i).flatten ++ d) := by
            have hl := HL.out
            show (L.take (i + 1)).flatten = (L.take i).flatten ++ d
            rw [List.take_add_one, List.getElem?_eq_getElem (by omega), List.flatten_append, hd, List.getD, List.getElem?_eq_getElem (by omega)]
            simp
          have HTL : Hid (((L.take i).flatten).length ≤ 1000) := by
            show ((L.take i).flatten).length ≤ 1000
            rw [flat_len (HR.out.all.take i), List.length_take]
            have := HN.out
            omega
          have HCE : Hid (∀ j, j < 32 → w.cell? ⟨pb, po + i * 32 + j, none⟩ = some (.int .u8 ((d.getD j 0).toNat : Int))) := fun j hj => by
            rw [hd]; exact HPC.out i hlt j hj
          have HD32 := Lib.hid hd32
          clear hd hd32
          go_upto_region 8 with fail
          go_loopw [4, 6] (fun out ix wq => ∃ k : Nat, k ≤ 32 ∧ ix = .int .i64 (k : Int) ∧ Own wq w.heap.size 5 out ((L.take i).flatten ++ d.take k) ∧ Below w.heap.size w wq) (fun _ ix _ => 32 - (intOf ix).toNat)
          case atStart => exact ⟨0, by omega, rfl, by simpa using HO.out, HBR.out⟩
          case round =>
            obtain ⟨k, hk, rfl, ho2, hbr2⟩ := hrel
            have HO2 := Lib.hid ho2
            have HBR2 := Lib.hid hbr2
            clear ho2 hbr2
            by_cases hk32 : k < 32
            · have hkti : (k : Int) < 32 := by omega
              obtain ⟨c, hc⟩ : ∃ c, c = d.getD k 0 := ⟨_, rfl⟩
              have hcell : wr.cell? ⟨pb, po + i * 32 + k, none⟩ = some (.int .u8 (c.toNat : Int)) := by
                rw [hc]
                exact (HBR2.out.cell (p := ⟨pb, po + i * 32 + k, none⟩) hpb).trans (HCE.out k hk32)
              have HTK : Hid ((L.take i).flatten ++ d.take (k + 1) = ((L.take i).flatten ++ d.take k) ++ [c]) := by
                show (L.take i).flatten ++ d.take (k + 1) = ((L.take i).flatten ++ d.take k) ++ [c]
                rw [List.take_add_one, List.append_assoc, hc, List.getD, List.getElem?_eq_getElem (by rw [HD32.out]; exact hk32)]
                rfl
              have hba : Below wr.heap.size wr (wr.alloc (.cells #[.int .u8 (c.toNat : Int)] 5)) := (Below.refl _ _).alloc (Nat.le_refl _) _
              have ho3 := HO2.out.to hba
              have hrd : Rd (wr.alloc (.cells #[.int .u8 (c.toNat : Int)] 5)) (some ⟨wr.heap.size, 0, none⟩) 1 1 [c] := by have h := rd_arr (Arr.new wr 5 (bvs [c])); exact h
              have HB3 : Hid (Below w.heap.size w (wr.alloc (.cells #[.int .u8 (c.toNat : Int)] 5))) := HBR2.out.trans (hba.mono HBR2.out.size)
              clear hc hba
              go_wp2_with ((with_reducible show wpList _ _ _ (⟨some 33, _, _, _, _, _⟩ :: _) _ _); go_loud (refine wl_append bt rfl _ _ rfl w.heap.size _ _ ho3 rfl (some ⟨wr.heap.size, 0, none⟩) 1 1 [c] rfl hrd (by have := HTL.out; rw [List.length_append, List.length_take]; omega) HB3.out.size ?_); intro v4 w4 ho4 hb4)
              go_roundw
              case rel => exact ⟨k + 1, by omega, by go_num, by rw [HTK.out]; exact ho4, HB3.out.trans hb4⟩
              case measure => simp [intOf]; omega
            · have e : k = 32 := by omega
              subst e
              have hNN := HN.out
              have h32 : d.take 32 = d := List.take_of_length_le (by rw [HD32.out]; exact Nat.le_refl _)
              go_wp2_with fail
              go_roundw
              case rel => exact ⟨i + 1, by omega, by go_num, by rw [HT.out, ← h32]; exact HO2.out, HBR2.out⟩
              case measure => simp [intOf]; omega
        · have e : i = n := by omega
          subst e
          go_wp2_with fail
          go_ret2
          refine ⟨_, rfl, ?_, HBR.out⟩
          have h := HO.out
          rw [List.take_of_length_le (by rw [HL.out]; exact Nat.le_refl _)] at h
          rw [hy.out]
          exact h
set_option maxRecDepth 100000 in
set_option maxHeartbeats 1600000 in
theorem rHead_any (L : List (List UInt8)) (ad : Option Addr) (n cap : Nat) (w : World) (hn : n ≤ 2 ^ 50) (hr : RdD w ad n cap L) :
    Calls Tryd.prog 21 #[.slice ad n cap] w fun e w' => e = .returned (.tuple #[.agg (bvs (hdT L)).toArray, .int .i64 (hdTE L)]) ∧ Below w.heap.size w w' := by
  have hlen := hr.len
  have HX : Hid ((hdT L).length = 32) := hdT_len hr.all
  have h32 : Hid ((Tryd.prog.info? 48).map (·.size) = some (bvs (hdT L)).length) := by show _ = _; rw [bvs_len, HX.out]; exact sizeD
  have HR : Hid (∀ w1, Below w.heap.size w w1 → Calls Tryd.prog 28 #[.slice ad n cap] w1 fun e w' => e = .returned (.agg (bvs (rootF L)).toArray) ∧ Below w1.heap.size w1 w') := fun w1 hb => rRoot_any L.length L (Nat.le_refl _) ad n cap w1 hn (hr.to hb)
  have HE : Hid (hdTE L = if n = 16 then 0 else 1) := by show hdTE L = _; unfold hdTE; rw [hlen]
  have HP : Hid (hdT L = if n = 16 then rootF L else Z8 32) := by show hdT L = _; unfold hdT; rw [hlen]
  clear hr hlen hn
  generalize hdTE L = pe at HE ⊢
  generalize hdT L = pt at HP HX h32 ⊢
  go_enter Tryd.func21, Tryd.ntmps21
  by_cases h1 : n = 16
  · subst h1
    have hx : pe = 0 := by rw [HE.out, if_pos rfl]
    have hy : pt = rootF L := by rw [HP.out, if_pos rfl]
    subst hx
    rw [hy] at HX h32 ⊢
    clear hy HP
    generalize rootF L = pt at HX h32 HR ⊢
    go_wp2_with (first
      | ((with_reducible show wpList _ _ _ (⟨some 2, .alloc _, _, _, _, _⟩ :: _) _ _); go_loud (refine wl_alloc rfl 48 rfl (bvs (Z8 32)) 32 infoD1 ?_); intro w2 hA2 hb2 hs2)
      | (go_at_call 28; go_loud (refine (HR.out w2 hb2).mono ?_); rintro e w3 ⟨rfl, hb3⟩)
      | ((with_reducible show wpList _ _ _ (⟨none, .store _ _ _, _, _, _, _⟩ :: _) _ _); go_loud (refine wl_store rfl 48 _ _ rfl w.heap.size 0 rfl (bvs pt) rfl 48 _ (hA2.kept hb3) h32.out (by rw [bvs_len, bvs_len, HX.out]; exact (by decide : 0 + 32 ≤ (Z8 32).length)) (bvs_one _) ?_); intro w4 hA4 hg4 hs4))
    rw [whole_store _ _ (by rw [bvs_len, bvs_len, HX.out]; rfl)] at hA4
    refine end_cell2 rfl w.heap.size 48 (bvs pt) (.array 32 5) (.int .i64 0) rfl hA4 Tryd.underlying48 rfl h32.out rfl rfl ⟨rfl, ?_⟩
    exact (hb2.trans (hb3.mono hb2.size)).grown hg4 (Nat.le_trans hb2.size hb3.size) (fun k hk => by injection hk with hk; omega)
  · have h1' : ¬ (n : Int) = 16 := by omega
    have hx : pe = 1 := by rw [HE.out, if_neg h1]
    have hy : pt = Z8 32 := by rw [HP.out, if_neg h1]
    subst hx hy
    clear h1
    go_wp2_with (first
      | ((with_reducible show wpList _ _ _ (⟨some 2, .alloc _, _, _, _, _⟩ :: _) _ _); go_loud (refine wl_alloc rfl 48 rfl (bvs (Z8 32)) 32 infoD1 ?_); intro w2 hA2 hb2 hs2)
      | ((with_reducible show wpList _ _ _ (⟨none, .store _ _ _, _, _, _, _⟩ :: _) _ _); go_loud (refine wl_store rfl 48 _ _ rfl w.heap.size 0 rfl (bvs (Z8 32)) rfl 48 _ hA2 h32.out (by decide) (bvs_one _) ?_); intro w4 hA4 hg4 hs4))
    rw [whole_store _ _ rfl] at hA4
    refine end_cell2 rfl w.heap.size 48 (bvs (Z8 32)) (.array 32 5) (.int .i64 1) rfl hA4 Tryd.underlying48 rfl h32.out rfl rfl ⟨rfl, ?_⟩
    exact hb2.grown hg4 hb2.size (fun k hk => by injection hk with hk; omega)
end Go.Proofs.YtfidajbenmgflaaDoor
