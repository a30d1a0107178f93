/-
  Digits as hashes. Conditions: those in each statement.
-/
import Derived.Test.YtgippimoklefnaaShaK
namespace Go.Proofs.Ytgippimoklefnaa
open Go.RowKit

def okD (c : Nat) : Bool := (decide (48 ≤ c) && decide (c ≤ 57)) || (decide (97 ≤ c) && decide (c ≤ 102))
def dvN (c : Nat) : Nat := if okD c then (if c ≤ 57 then c - 48 else c - 87) else 0

theorem digit_any (c : Nat) (w : World) (hc : c < 256) :
    Calls Try.prog 31 #[.int .u8 (c : Int)] w fun e w' => e = .returned (.tuple #[.int .u8 (dvN c : Int), .bool (okD c)]) ∧ w = w' := by
  have hall : c < 48 ∨ (48 ≤ c ∧ c ≤ 57) ∨ (58 ≤ c ∧ c < 97) ∨ (97 ≤ c ∧ c ≤ 102) ∨ 103 ≤ c := by omega
  rcases hall with h | h | h | h | h
  · have e2 : okD c = false := by
      have h1 := h
      rw [Bool.eq_iff_iff]
      simp [okD]
      omega
    have e1 : Hid ((dvN c : Int) = 0) := by
      show _ = _
      unfold dvN
      rw [e2]
      simp
    have E2 := Lib.hid e2
    clear e2
    have g0 : ¬ (48 : Int) ≤ (c : Int) := by omega
    have g1 : ¬ (97 : Int) ≤ (c : Int) := by omega
    go_enter Try.func31, Try.ntmps31
    go_wp2
    go_ret2
    rw [e1.out, E2.out]
    refine ⟨?_, rfl⟩
    first | rfl | (rw [show (c : Int) - 87 = (c : Int) - 97 + 10 by omega]; rfl)
  · have e2 : okD c = true := by
      have h1 := h
      rw [Bool.eq_iff_iff]
      simp [okD]
      omega
    have e1 : Hid ((dvN c : Int) = (c : Int) - 48) := by
      show _ = _
      unfold dvN
      rw [e2]
      simp
      split <;> omega
    have E2 := Lib.hid e2
    clear e2
    have g0 : (48 : Int) ≤ (c : Int) := by omega
    have g1 : (c : Int) ≤ 57 := by omega
    go_enter Try.func31, Try.ntmps31
    go_wp2
    go_ret2
    rw [e1.out, E2.out]
    refine ⟨?_, rfl⟩
    first | rfl | (rw [show (c : Int) - 87 = (c : Int) - 97 + 10 by omega]; rfl)
  · have e2 : okD c = false := by
      have h1 := h
      rw [Bool.eq_iff_iff]
      simp [okD]
      omega
    have e1 : Hid ((dvN c : Int) = 0) := by
      show _ = _
      unfold dvN
      rw [e2]
      simp
    have E2 := Lib.hid e2
    clear e2
    have g0 : (48 : Int) ≤ (c : Int) := by omega
    have g1 : ¬ (c : Int) ≤ 57 := by omega
    have g2 : ¬ (97 : Int) ≤ (c : Int) := by omega
    go_enter Try.func31, Try.ntmps31
    go_wp2
    go_ret2
    rw [e1.out, E2.out]
    refine ⟨?_, rfl⟩
    first | rfl | (rw [show (c : Int) - 87 = (c : Int) - 97 + 10 by omega]; rfl)
  · have e2 : okD c = true := by
      have h1 := h
      rw [Bool.eq_iff_iff]
      simp [okD]
      omega
    have e1 : Hid ((dvN c : Int) = (c : Int) - 87) := by
      show _ = _
      unfold dvN
      rw [e2]
      simp
      split <;> omega
    have E2 := Lib.hid e2
    clear e2
    have g0 : (48 : Int) ≤ (c : Int) := by omega
    have g1 : ¬ (c : Int) ≤ 57 := by omega
    have g2 : (97 : Int) ≤ (c : Int) := by omega
    have g3 : (c : Int) ≤ 102 := by omega
    go_enter Try.func31, Try.ntmps31
    go_wp2
    go_ret2
    rw [e1.out, E2.out]
    refine ⟨?_, rfl⟩
    first | rfl | (rw [show (c : Int) - 87 = (c : Int) - 97 + 10 by omega]; rfl)
  · have e2 : okD c = false := by
      have h1 := h
      rw [Bool.eq_iff_iff]
      simp [okD]
      omega
    have e1 : Hid ((dvN c : Int) = 0) := by
      show _ = _
      unfold dvN
      rw [e2]
      simp
    have E2 := Lib.hid e2
    clear e2
    have g0 : (48 : Int) ≤ (c : Int) := by omega
    have g1 : ¬ (c : Int) ≤ 57 := by omega
    have g2 : (97 : Int) ≤ (c : Int) := by omega
    have g3 : ¬ (c : Int) ≤ 102 := by omega
    go_enter Try.func31, Try.ntmps31
    go_wp2
    go_ret2
    rw [e1.out, E2.out]
    refine ⟨?_, rfl⟩
    first | rfl | (rw [show (c : Int) - 87 = (c : Int) - 97 + 10 by omega]; rfl)

theorem dvN_lt (c : Nat) : dvN c < 16 := by
  unfold dvN
  split
  · rename_i h
    simp [okD] at h
    split <;> omega
  · omega
theorem str_index {P : Program} {t : TypeId} (ht : P.underlying t = some .string) (s : ByteArray) (i : Nat) (h : i < s.size) (w : World) :
    (Instr.index t (.string s) (.int .i64 (i : Int))).run P w = .ok (.int .u8 ((s.data.toList.getD i 0).toNat : Int)) w := by
  rw [run_index_string _ _ _ _ _ ht, dif_pos ⟨by omega, by omega⟩]
  have e : s.data.toList.getD i 0 = s[i] := by
    have hi : i < s.data.toList.length := by simpa using h
    rw [List.getD, List.getElem?_eq_getElem hi]
    rfl
  rw [e]
  rfl
/-- the end: two results, the first of which lies in a block -/
theorem end_cell2 {P : Program} {fn : Func} {R : Ending → World → Prop} {a : Act} {w : World} {p qq : Tmp} {ty : TypeId} (h : fn.results = #[.cell p ty, .tmp qq]) (g : Nat) (T : TypeId) (xs : List Value) (d : TypeDesc) (v : Value)
    (hp : a.tmps.getD p undef = .pointer (some ⟨g, 0, none⟩)) (hA : Arr w g T xs) (hu : P.underlying ty = some d) (hd : (match d with | .struct _ | .array _ _ => true | _ => false) = true) (hi : (P.info? ty).map (·.size) = some xs.length)
    (hq : a.tmps.getD qq undef = v) (hdf : a.defers = []) (hR : R (.returned (.tuple #[.agg xs.toArray, v])) w) : bodyPost P fn R .ret a w := by
  have hr : (results fn a.tmps).run P w = .ok (.tuple #[.agg xs.toArray, v]) w := by
    have hp' : a.tmps[p]?.getD undef = .pointer (some ⟨g, 0, none⟩) := by simpa using hp
    have hq' : a.tmps[qq]?.getD undef = v := by simpa using hq
    have hl := run_loadVar_row (P := P) w g T ty xs.toArray (0, 0) d hA hu hd (by simpa using hi)
    simp [results, h, hp', hq', asAddr, hl]
  exact bodyPost_ret hr hdf hR

def okAt (l : List UInt8) (i : Nat) : Bool := okD (l.getD i 0).toNat
def unB (l : List UInt8) (i : Nat) : UInt8 := UInt8.ofNat (16 * dvN (l.getD (2 * i) 0).toNat + dvN (l.getD (2 * i + 1) 0).toNat)
def unL (l : List UInt8) : List UInt8 := (List.range 32).map (unB l)
def hexed (l : List UInt8) : Bool := decide (l.length = 64) && (List.range 64).all (okAt l)
def unhexF (l : List UInt8) : List UInt8 × Int := if hexed l then (unL l, 0) else (Z8 32, 5)
theorem unL_len (l : List UInt8) : (unL l).length = 32 := by simp [unL]
theorem unhexF_len (l : List UInt8) : (unhexF l).1.length = 32 := by unfold unhexF; split <;> simp [unL, Z8]
theorem not_hexed_at (l : List UInt8) (i : Nat) (hi : i < 64) (h : okAt l i = false) : unhexF l = (Z8 32, 5) := by
  unfold unhexF hexed
  rw [if_neg]
  intro hh
  rw [Bool.and_eq_true] at hh
  have := List.all_eq_true.1 hh.2 i (by simpa using hi)
  rw [h] at this
  cases this
theorem not_hexed_len (l : List UInt8) (h : l.length ≠ 64) : unhexF l = (Z8 32, 5) := by simp [unhexF, hexed, h]
theorem is_hexed (l : List UInt8) (h : l.length = 64) (hk : ∀ i, i < 64 → okAt l i = true) : unhexF l = (unL l, 0) := by
  unfold unhexF hexed
  rw [if_pos]
  rw [Bool.and_eq_true]
  exact ⟨by simpa using h, List.all_eq_true.2 fun i hi => hk i (by simpa using hi)⟩
def unI (l : List UInt8) (i : Nat) : List UInt8 := (unL l).take i ++ Z8 (32 - i)
theorem unI_len (l : List UInt8) (i : Nat) (h : i ≤ 32) : (unI l i).length = 32 := by
  simp only [unI, List.length_append, List.length_take, unL_len, Z8, List.length_replicate]
  omega
theorem unI_step (l : List UInt8) (i : Nat) (h : i < 32) : (unI l i).set i (unB l i) = unI l (i + 1) := by
  have hd : (unL l)[i]'(by rw [unL_len]; exact h) = unB l i := by simp [unL]
  unfold unI Z8
  rw [List.set_append_right _ _ (by simp [unL_len]; omega), show i - ((unL l).take i).length = 0 by simp [unL_len]; omega, show 32 - i = (32 - (i + 1)) + 1 by omega, List.replicate_succ, List.set_cons_zero,
    List.take_succ_eq_append_getElem (by rw [unL_len]; exact h), hd, List.append_assoc]
  rfl
theorem unI_end (l : List UInt8) : unI l 32 = unL l := by
  unfold unI
  rw [List.take_of_length_le (by rw [unL_len]; exact Nat.le_refl _)]
  simp [Z8]
theorem unB_val (l : List UInt8) (i : Nat) : (((unB l i).toNat : Nat) : Int) = (dvN (l.getD (2 * i) 0).toNat : Int) * 16 + (dvN (l.getD (2 * i + 1) 0).toNat : Int) := by
  have h1 := dvN_lt (l.getD (2 * i) 0).toNat
  have h2 := dvN_lt (l.getD (2 * i + 1) 0).toNat
  unfold unB
  rw [UInt8.toNat_ofNat']
  omega
/-- a hash and an error's number -/
def HErr (r : List UInt8 × Int) (w : World) (e : Ending) (w' : World) : Prop := e = .returned (.tuple #[.agg (bvs r.1).toArray, .int .i64 r.2]) ∧ Below w.heap.size w w'
theorem built_zero : Try.prog.built 24 [] = some (bvs (Z8 32)).toArray := by kernel_rfl

set_option maxHeartbeats 1600000 in
theorem Unhex_any (s : ByteArray) (w : World) :
    Calls Try.prog 17 #[.string s] w (HErr (unhexF s.data.toList) w) := by
  have hls : s.data.toList.length = s.size := by simp
  by_cases h64 : s.size = 64
  · have ht : ((s.size : Int) != 64) = false := by rw [bne_eq_false_iff_eq]; omega
    have H64 := Lib.hid h64
    have HLS := Lib.hid hls
    have HIX := Lib.hid fun (i : Nat) (h : i < s.size) (W : World) => str_index (P := Try.prog) Try.underlying9 s i h W
    clear h64 hls
    generalize hl : s.data.toList = l at *
    clear hl
    go_enter Try.func17, Try.ntmps17
    go_wp2_with (first
      | ((with_reducible show wpList _ _ _ (⟨some 2, .alloc _, _, _, _, _⟩ :: _) _ _); refine wl_alloc rfl 24 rfl (bvs (Z8 32)) 32 infoD ?_; intro w1 hA1 hb1 hs1)
      | ((with_reducible show wpList _ _ _ (⟨some 4, .alloc _, _, _, _, _⟩ :: _) _ _); refine wl_alloc rfl 24 rfl (bvs (Z8 32)) 32 infoD ?_; intro w2 hA2 hb2 hs2))
    generalize hg1 : w.heap.size = g1 at *
    generalize hg2 : w1.heap.size = g2 at *
    have HG1 := Lib.hid hg1
    clear hg1 hg2
    have hB : Below g1 w w2 := hb1.trans (hb2.mono (Nat.le_of_lt hs1))
    have hR : Arr w2 g1 24 (bvs (Z8 32)) := hA1.to hb2 hs1
    have hD : Arr w2 g2 24 (bvs (unI l 0)) := hA2
    clear hA1 hA2 hb1 hb2
    go_loopw [14] (fun i wr => ∃ k : Nat, k ≤ 32 ∧ i = .int .i64 k ∧ Hid (∀ j, j < 2 * k → okAt l j = true) ∧ Arr wr g1 24 (bvs (Z8 32)) ∧ Arr wr g2 24 (bvs (unI l k)) ∧ Below g1 w wr) (fun i _ => 32 - (intOf i).toNat)
    case atStart => exact ⟨0, by omega, rfl, (fun j hj => by omega), hR, hD, hB⟩
    case round =>
      obtain ⟨k, hk, rfl, HK, hR, hD, hB⟩ := hrel
      by_cases hlt : k < 32
      · have hc : (k : Int) < 32 := by omega
        have i0 := HIX.out (2 * k) (by have := H64.out; omega)
        have i1 := HIX.out (2 * k + 1) (by have := H64.out; omega)
        push_cast at i0 i1
        have b0 := (l.getD (2 * k) 0).toNat_lt
        have b1 := (l.getD (2 * k + 1) 0).toNat_lt
        have a0 := dvN_lt (l.getD (2 * k) 0).toNat
        have a1 := dvN_lt (l.getD (2 * k + 1) 0).toNat
        have hv := unB_val l k
        have ck := (hD.cell k).trans (bvs_get _ k (by rw [unI_len _ _ (by omega)]; exact hlt))
        have fk := hD.frozen k
        have hst := hD.store k (.int .u8 ((unB l k).toNat : Int))
        rw [bvs_set, unI_step l k hlt, hv] at hst
        have ok0 : Hid (okAt l (2 * k) = okD (l.getD (2 * k) 0).toNat) := rfl
        have ok1 : Hid (okAt l (2 * k + 1) = okD (l.getD (2 * k + 1) 0).toNat) := rfl
        clear hv
        generalize (l.getD (2 * k) 0).toNat = y0 at *
        generalize (l.getD (2 * k + 1) 0).toNat = y1 at *
        have hor : bits .or .u8 ((dvN y0 : Int) * 16) (dvN y1 : Int) = (dvN y0 : Int) * 16 + (dvN y1 : Int) := bits_join .u8 8 (by decide) (fun n h0 h1 => wraps_u8 n h0 h1) 4 _ _ (by omega) (by omega) (by omega) (by omega) (by omega) (by omega)
        have HST := Lib.hid hst
        have HD := Lib.hid hD
        clear hst hD
        cases e0 : okD y0 <;> cases e1 : okD y1
        all_goals
          have E0 := Lib.hid e0
          have E1 := Lib.hid e1
          clear e0 e1
        · have HF : Hid (unhexF l = (Z8 32, 5)) := not_hexed_at l (2 * k) (by omega) (by rw [ok0.out, E0.out])
          clear ck fk hor
          go_wp2_with (first
            | (go_at_call 31; refine (digit_any _ _ (by omega)).mono ?_; rintro e w' ⟨rfl, rfl⟩; first | rw [E0.out] | rw [E1.out])
            | ((with_reducible show wpList _ _ _ (⟨some 40, .build _ _, _, _, _, _⟩ :: _) _ _); refine wpList_buildTo rfl 24 _ rfl (some 40) rfl (bvs (Z8 32)).toArray (by simpa [Act.eval] using built_zero) ?_)
            | ((with_reducible show wpList _ _ _ (⟨none, .store 24 _ _, _, _, _, _⟩ :: _) _ _); refine wl_store rfl 24 _ _ rfl g1 0 rfl (bvs (Z8 32)) rfl 24 _ hR sizeD (by decide) (bvs_one _) ?_; intro w3 hA3 hg3 hs3))
          rw [whole_store _ _ rfl] at hA3
          refine end_cell2 rfl g1 24 (bvs (Z8 32)) (.array 32 5) _ rfl hA3 Try.underlying24 rfl sizeD rfl rfl ?_
          unfold HErr
          rw [HF.out]
          exact ⟨rfl, HG1.out ▸ hB.grown hg3 (Nat.le_of_lt hR.lt) (by intro k e; injection e with e; omega)⟩
        · have HF : Hid (unhexF l = (Z8 32, 5)) := not_hexed_at l (2 * k) (by omega) (by rw [ok0.out, E0.out])
          clear ck fk hor
          go_wp2_with (first
            | (go_at_call 31; refine (digit_any _ _ (by omega)).mono ?_; rintro e w' ⟨rfl, rfl⟩; first | rw [E0.out] | rw [E1.out])
            | ((with_reducible show wpList _ _ _ (⟨some 40, .build _ _, _, _, _, _⟩ :: _) _ _); refine wpList_buildTo rfl 24 _ rfl (some 40) rfl (bvs (Z8 32)).toArray (by simpa [Act.eval] using built_zero) ?_)
            | ((with_reducible show wpList _ _ _ (⟨none, .store 24 _ _, _, _, _, _⟩ :: _) _ _); refine wl_store rfl 24 _ _ rfl g1 0 rfl (bvs (Z8 32)) rfl 24 _ hR sizeD (by decide) (bvs_one _) ?_; intro w3 hA3 hg3 hs3))
          rw [whole_store _ _ rfl] at hA3
          refine end_cell2 rfl g1 24 (bvs (Z8 32)) (.array 32 5) _ rfl hA3 Try.underlying24 rfl sizeD rfl rfl ?_
          unfold HErr
          rw [HF.out]
          exact ⟨rfl, HG1.out ▸ hB.grown hg3 (Nat.le_of_lt hR.lt) (by intro k e; injection e with e; omega)⟩
        · have HF : Hid (unhexF l = (Z8 32, 5)) := not_hexed_at l (2 * k + 1) (by omega) (by rw [ok1.out, E1.out])
          clear ck fk hor
          go_wp2_with (first
            | (go_at_call 31; refine (digit_any _ _ (by omega)).mono ?_; rintro e w' ⟨rfl, rfl⟩; first | rw [E0.out] | rw [E1.out])
            | ((with_reducible show wpList _ _ _ (⟨some 40, .build _ _, _, _, _, _⟩ :: _) _ _); refine wpList_buildTo rfl 24 _ rfl (some 40) rfl (bvs (Z8 32)).toArray (by simpa [Act.eval] using built_zero) ?_)
            | ((with_reducible show wpList _ _ _ (⟨none, .store 24 _ _, _, _, _, _⟩ :: _) _ _); refine wl_store rfl 24 _ _ rfl g1 0 rfl (bvs (Z8 32)) rfl 24 _ hR sizeD (by decide) (bvs_one _) ?_; intro w3 hA3 hg3 hs3))
          rw [whole_store _ _ rfl] at hA3
          refine end_cell2 rfl g1 24 (bvs (Z8 32)) (.array 32 5) _ rfl hA3 Try.underlying24 rfl sizeD rfl rfl ?_
          unfold HErr
          rw [HF.out]
          exact ⟨rfl, HG1.out ▸ hB.grown hg3 (Nat.le_of_lt hR.lt) (by intro k e; injection e with e; omega)⟩
        · go_wp2_with (go_at_call 31; refine (digit_any _ _ (by omega)).mono ?_; rintro e w' ⟨rfl, rfl⟩; first | rw [E0.out] | rw [E1.out])
          go_roundw
          case rel =>
            refine ⟨k + 1, by omega, by go_num, ?_, hR.other _ (by simp; omega) _, HST.out, hB.setCell (by simp; omega) _⟩
            intro j hj
            rcases (by omega : j < 2 * k ∨ j = 2 * k ∨ j = 2 * k + 1) with h | h | h
            · exact HK.out j h
            · rw [h, ok0.out, E0.out]
            · rw [h, ok1.out, E1.out]
          case measure => simp [intOf]; omega
      · have hk32 : k = 32 := by omega
        have hc : ¬ (k : Int) < 32 := by omega
        have HF : Hid (unhexF l = (unL l, 0)) := is_hexed l (by rw [HLS.out, H64.out]) fun i hi => HK.out i (by omega)
        rw [hk32, unI_end] at hD
        clear hk32
        have hul := unL_len l
        have HDL : Hid ((Try.prog.info? 24).map (·.size) = some (bvs (unL l)).length) := by show _ = _; rw [bvs_len, hul]; exact sizeD
        have HDL2 : Hid ((bvs (unL l)).length = 32) := by show _ = _; rw [bvs_len, hul]
        have h1 := bvs_one (unL l)
        obtain ⟨D, hDD⟩ : ∃ D, D = unL l := ⟨_, rfl⟩
        rw [← hDD] at hD HDL HDL2 h1
        have HDD := Lib.hid hDD
        clear hDD hul
        go_wp2_with (first
          | ((with_reducible show wpList _ _ _ (⟨some 48, .load _ _, _, _, _, _⟩ :: _) _ _); refine wl_load rfl 24 _ rfl g2 0 rfl 24 (bvs D) (bvs D) hD (fun j v h => by rw [Nat.zero_add]; exact h) (.array 32 5) Try.underlying24 rfl HDL.out ?_)
          | ((with_reducible show wpList _ _ _ (⟨none, .store 24 _ _, _, _, _, _⟩ :: _) _ _); refine wl_store rfl 24 _ _ rfl g1 0 rfl (bvs D) rfl 24 _ hR HDL.out (by rw [HDL2.out]; exact (by decide : 0 + 32 ≤ (bvs (Z8 32)).length)) h1 ?_; intro w3 hA3 hg3 hs3))
        rw [whole_store _ _ (by rw [HDL2.out]; rfl)] at hA3
        refine end_cell2 rfl g1 24 (bvs D) (.array 32 5) _ rfl hA3 Try.underlying24 rfl HDL.out rfl rfl ?_
        unfold HErr
        rw [HF.out, ← HDD.out]
        exact ⟨rfl, HG1.out ▸ hB.grown hg3 (Nat.le_of_lt hR.lt) (by intro k e; injection e with e; omega)⟩
  · have hF : Hid (unhexF s.data.toList = (Z8 32, 5)) := not_hexed_len _ (by omega)
    have ht : ((s.size : Int) != 64) = true := by rw [bne_iff_ne]; omega
    clear hls
    go_enter Try.func17, Try.ntmps17
    go_wp2_with (first
      | ((with_reducible show wpList _ _ _ (⟨some 2, .alloc _, _, _, _, _⟩ :: _) _ _); refine wl_alloc rfl 24 rfl (bvs (Z8 32)) 32 infoD ?_; intro w1 hA1 hb1 hs1)
      | ((with_reducible show wpList _ _ _ (⟨some 4, .alloc _, _, _, _, _⟩ :: _) _ _); refine wl_alloc rfl 24 rfl (bvs (Z8 32)) 32 infoD ?_; intro w2 hA2 hb2 hs2)
      | ((with_reducible show wpList _ _ _ (⟨some 13, .build _ _, _, _, _, _⟩ :: _) _ _); refine wpList_buildTo rfl 24 _ rfl (some 13) rfl (bvs (Z8 32)).toArray (by simpa [Act.eval] using built_zero) ?_)
      | ((with_reducible show wpList _ _ _ (⟨none, .store _ _ _, _, _, _, _⟩ :: _) _ _); refine wl_store rfl 24 _ _ rfl w.heap.size 0 rfl (bvs (Z8 32)) rfl 24 _ (hA1.kept hb2) sizeD (by decide) (bvs_one _) ?_; intro w3 hA3 hg3 hs3))
    rw [whole_store _ _ rfl] at hA3
    refine end_cell2 rfl w.heap.size 24 (bvs (Z8 32)) (.array 32 5) _ rfl hA3 Try.underlying24 rfl sizeD rfl rfl ?_
    unfold HErr
    rw [hF.out]
    exact ⟨rfl, (hb1.trans (hb2.mono (Nat.le_of_lt hs1))).grown hg3 (by omega) (by intro k e; injection e with e; omega)⟩
end Go.Proofs.Ytgippimoklefnaa
