/-
  Layer 6: Sign. Conditions: those in each statement.
-/
import Derived.Test.YtebegdifnkifgaaSgB
namespace Go.Proofs.Ytebegdifnkifgaa
open Go.RowKit

/-- what is hashed behind the first byte -/
def txtL (key msg : List UInt8) : List UInt8 := UInt8.ofNat key.length :: (key ++ msg)
def sgA (key msg : List UInt8) : List UInt8 := shaL (1 :: txtL key msg)
def sgB (key msg : List UInt8) : List UInt8 := shaL (2 :: (sgA key msg ++ txtL key msg))
/-- the signature, and the error -/
def sigF (key msg : List UInt8) : List UInt8 := if mayB key.length then sgA key msg ++ sgB key msg else Z8 64
def errF (n : Nat) : Int := if mayB n then 0 else 1
theorem sgA_len (key msg : List UInt8) : (sgA key msg).length = 32 := shaL_len _
theorem sgB_len (key msg : List UInt8) : (sgB key msg).length = 32 := shaL_len _
theorem sigF_len (key msg : List UInt8) : (sigF key msg).length = 64 := by
  unfold sigF
  split <;> simp [sgA_len, sgB_len, Z8]

/-- slices with what they read as -/
abbrev Part := Option Addr × Nat × Nat × List UInt8
def Part.v (p : Part) : Value := .slice p.1 p.2.1 p.2.2.1
theorem parts_lit (w : World) (E : TypeId) (fr : Nat × Nat) (ps : List Part) (h : ∀ p ∈ ps, Rd w p.1 p.2.1 p.2.2.1 p.2.2.2) :
    PartsAt (w.alloc (.cells (ps.map Part.v).toArray E fr)) w.heap.size (ps.map fun p => p.2.2.2) := by
  refine ⟨by simp, fun k hk => ?_⟩
  have hk' : k < ps.length := by simpa using hk
  refine ⟨ps[k].1, ps[k].2.1, ps[k].2.2.1, ?_, ?_⟩
  · rw [cell_of_row _ _ _ _ _ _ (heap_alloc_new w _)]
    simp [hk', Part.v]
  · have := (h ps[k] (List.getElem_mem hk')).to ((Below.refl w.heap.size w).alloc (Nat.le_refl _) (.cells (ps.map Part.v).toArray E fr))
    simpa [List.getD, hk'] using this
theorem rd_arr {w : World} {g : Nat} {T : TypeId} {xs : List UInt8} (h : Arr w g T (bvs xs)) : Rd w (some ⟨g, 0, none⟩) xs.length xs.length xs :=
  ⟨rfl, Nat.le_refl _, (by intro e; cases e), fun _ => ⟨g, 0, rfl, h.lt, fun j hj => by rw [Nat.zero_add, h.cell, bvs_get _ _ hj]⟩⟩
theorem end_cell2 {P : Program} {fn : Func} {R : Ending → World → Prop} {a : Act} {w : World} {p qq : Tmp} {ty : TypeId} (h : fn.results = #[.cell p ty, .tmp qq]) (g : Nat) (T : TypeId) (xs : List Value) (d : TypeDesc) (v : Value)
    (hp : a.tmps.getD p undef = .pointer (some ⟨g, 0, none⟩)) (hA : Arr w g T xs) (hu : P.underlying ty = some d) (hd : (match d with | .struct _ | .array _ _ => true | _ => false) = true) (hi : (P.info? ty).map (·.size) = some xs.length)
    (hq : a.tmps.getD qq undef = v) (hdf : a.defers = []) (hR : R (.returned (.tuple #[.agg xs.toArray, v])) w) : bodyPost P fn R .ret a w := by
  have hr : (results fn a.tmps).run P w = .ok (.tuple #[.agg xs.toArray, v]) w := by
    have hp' : a.tmps[p]?.getD undef = .pointer (some ⟨g, 0, none⟩) := by simpa using hp
    have hq' : a.tmps[qq]?.getD undef = v := by simpa using hq
    have hl := run_loadVar_row (P := P) w g T ty xs.toArray (0, 0) d hA hu hd (by simpa using hi)
    simp [results, h, hp', hq', asAddr, hl]
  exact bodyPost_ret hr hdf hR
theorem infoSig : (Try.prog.info? 23).map (fun i => (i.zero, i.size)) = some (some (.agg (bvs (Z8 64)).toArray), 64) := by kernel_rfl
theorem sizeSig : (Try.prog.info? 23).map (·.size) = some 64 := by kernel_rfl

set_option maxHeartbeats 1600000 in
theorem Sign_yes (key msg : List UInt8) (a b : Option Addr) (n m c d : Nat) (w : World) (hm : mayB n = true) (hn : m ≤ 140737488355328) (hk : Rd w a n c key) (hs : Rd w b m d msg) :
    Calls Try.prog 8 #[.slice a n c, .slice b m d] w fun e w' => e = .returned (.tuple #[.agg (bvs (sgA key msg ++ sgB key msg)).toArray, .int .i64 0]) ∧ Below w.heap.size w w' := by
  have hlen := hk.len
  have hlenm := hs.len
  subst hlen hlenm
  have hml := mayB_le hm
  have HM := Lib.hid hm
  clear hm
  have hmay : Hid (∀ w, Calls Try.prog 12 #[.slice a key.length c] w fun e w' => e = .returned (.bool true) ∧ w = w') := fun w => (May_any a key.length c w (by omega)).mono fun e w' h => by rw [HM.out] at h; exact h
  have hconv : Hid ((((UInt8.ofNat key.length).toNat : Nat) : Int) = (key.length : Int)) := by show _ = _; simp [UInt8.toNat_ofNat']; omega
  go_enter Try.func8, Try.ntmps8
  go_upto_region 5 with (first
    | ((with_reducible show wpList _ _ _ (⟨some 4, .alloc _, _, _, _, _⟩ :: _) _ _); refine wl_alloc rfl 23 rfl (bvs (Z8 64)) 64 infoSig ?_; intro w1 hA1 hb1 hs1)
    | ((with_reducible show wpList _ _ _ (⟨some 6, .alloc _, _, _, _, _⟩ :: _) _ _); refine wl_alloc rfl 23 rfl (bvs (Z8 64)) 64 infoSig ?_; intro w2 hA2 hb2 hs2)
    | (go_at_call 12; refine (hmay.out _).mono ?_; rintro e w3 ⟨rfl, rfl⟩))
  have hw4 : Hid (w2.alloc (.cells #[.int .u8 (key.length : Int)] 5) = w2.alloc (.cells ([UInt8.ofNat key.length].map bv).toArray 5)) := by show _ = _; simp only [List.map_cons, List.map_nil, bv, hconv.out]
  rw [hw4.out]
  have hr4 := rd_lit w2 [UInt8.ofNat key.length] 5
  have hb4 : Below w2.heap.size w2 (w2.alloc (.cells ([UInt8.ofNat key.length].map bv).toArray 5)) := (Below.refl _ _).alloc (Nat.le_refl _) _
  have hs4 : w2.heap.size < (w2.alloc (.cells ([UInt8.ofNat key.length].map bv).toArray 5)).heap.size := by simp
  clear hw4
  generalize w2.alloc (.cells ([UInt8.ofNat key.length].map bv).toArray 5) = w4 at *
  obtain ⟨gR, hgR⟩ : ∃ gR, w.heap.size = gR := ⟨_, rfl⟩
  obtain ⟨gS, hgS⟩ : ∃ gS, w1.heap.size = gS := ⟨_, rfl⟩
  obtain ⟨gL, hgL⟩ : ∃ gL, w2.heap.size = gL := ⟨_, rfl⟩
  rw [hgR] at hA1 hb1 hs1 ⊢
  rw [hgS] at hA2 hb2 hs2 hs1 ⊢
  rw [hgL] at hb4 hr4 hs4 hs2 ⊢
  have hB4 : Below gR w w4 := hb1.trans ((hb2.mono (by omega)).trans (hb4.mono (by omega)))
  have hR4 := (hA1.to hb2 hs1).to hb4 (by omega)
  have hS4 := hA2.to hb4 (by omega)
  have hk4 := hk.to (by rw [hgR]; exact hB4)
  have hm4 := hs.to (by rw [hgR]; exact hB4)
  have HGR := Lib.hid hgR
  clear hA1 hb1 hA2 hb2 hb4 hk hs hgR hgS hgL
  have hH1 : Hid (∀ w g, PartsAt w g [[UInt8.ofNat key.length], key, msg] → Calls Try.prog 22 #[.int .u8 1, .slice (some ⟨g, 0, none⟩) 3 3] w (Hash (1 :: txtL key msg) w)) := fun w g h => by
    have := hash_any 1 g [[UInt8.ofNat key.length], key, msg] 3 w h (by simp) (by simp; omega)
    simpa [txtL] using this
  have hH2 : Hid (∀ w g, PartsAt w g [sgA key msg, [UInt8.ofNat key.length], key, msg] → Calls Try.prog 22 #[.int .u8 2, .slice (some ⟨g, 0, none⟩) 4 4] w (Hash (2 :: (sgA key msg ++ txtL key msg)) w)) := fun w g h => by
    have := hash_any 2 g [sgA key msg, [UInt8.ofNat key.length], key, msg] 4 w h (by simp) (by simp [sgA_len]; omega)
    simpa [txtL] using this
  have hl1 := sgA_len key msg
  have hl2 := sgB_len key msg
  unfold Hash at hH1 hH2
  have eA : sgA key msg = shaL (1 :: txtL key msg) := rfl
  have eB : sgB key msg = shaL (2 :: (sgA key msg ++ txtL key msg)) := rfl
  rw [← eA] at hH1
  rw [← eB] at hH2
  clear eA eB
  generalize hq1 : sgA key msg = S1 at *
  generalize hq2 : sgB key msg = S2 at *
  have HQ1 := Lib.hid hq1
  have HQ2 := Lib.hid hq2
  clear hq1 hq2
  have HL1 := Lib.hid hl1
  have HL2 := Lib.hid hl2
  have h321 : Hid ((Try.prog.info? 30).map (·.size) = some (bvs S1).length) := by show _ = _; rw [bvs_len, hl1]; exact sizeD
  have h322 : Hid ((Try.prog.info? 30).map (·.size) = some (bvs S2).length) := by show _ = _; rw [bvs_len, hl2]; exact sizeD
  clear hl1 hl2
  have hp4 := parts_lit w4 22 (0, 0) [(some ⟨gL, 0, none⟩, 1, 1, [UInt8.ofNat key.length]), (a, key.length, c, key), (b, msg.length, d, msg)] (by
    intro p hp
    simp only [List.mem_cons, List.not_mem_nil, or_false] at hp
    rcases hp with rfl | rfl | rfl
    · exact hr4
    · exact hk4
    · exact hm4)
  have HP4 := Lib.hid hp4
  clear hp4
  go_upto_region 6 with (first
    | (go_at_call 22; go_loud (refine (hH1.out _ _ HP4.out).mono ?_); rintro e w5 ⟨rfl, hb5⟩)
    | ((with_reducible show wpList _ _ _ (⟨some 8, .alloc _, _, _, _, _⟩ :: _) _ _); refine wl_alloc rfl 30 rfl (bvs (Z8 32)) 32 infoD ?_; intro w6 hA6 hb6 hs6)
    | ((with_reducible show wpList _ _ _ (⟨none, .store _ _ _, _, _, _, _⟩ :: _) _ _); go_loud (refine wl_store rfl 30 _ _ rfl w5.heap.size 0 rfl (bvs S1) rfl 30 _ hA6 h321.out (by rw [bvs_len, HL1.out]; exact (by decide : 0 + 32 ≤ (bvs (Z8 32)).length)) (bvs_one _) ?_); intro w7 hA7 hg7 hs7))
  rw [whole_store _ _ (by rw [bvs_len, bvs_len, HL1.out]; rfl)] at hA7
  have x5 := hb5.size
  have x6 := hb6.size
  rw [World.size_alloc] at x5
  have hb7 : Below w4.heap.size w4 w7 := (((Below.refl _ _).alloc (Nat.le_refl _) _).trans (hb5.mono (by rw [World.size_alloc]; omega))).trans ((hb6.grown hg7 (by omega) (by intro k e; injection e with e; omega)).mono (by omega))
  obtain ⟨gA, hgA⟩ : ∃ gA, w5.heap.size = gA := ⟨_, rfl⟩
  rw [hgA] at hA7 x5 x6 hs6 ⊢
  have hlA := hA7.lt
  have hgA4 : w4.heap.size < gA := by omega
  clear hb5 hb6 hA6 hg7 hs7 x5 x6 hs6 hgA
  have hp7 := parts_lit w7 22 (0, 0) [(some ⟨gA, 0, none⟩, 32, 32, S1), (some ⟨gL, 0, none⟩, 1, 1, [UInt8.ofNat key.length]), (a, key.length, c, key), (b, msg.length, d, msg)] (by
    intro p hp
    simp only [List.mem_cons, List.not_mem_nil, or_false] at hp
    rcases hp with rfl | rfl | rfl | rfl
    · have := rd_arr hA7
      rw [HL1.out] at this
      exact this
    · exact hr4.to hb7
    · exact hk4.to hb7
    · exact hm4.to hb7)
  have HP7 := Lib.hid hp7
  clear hp7
  go_upto_region 7 with (first
    | (go_at_call 22; go_loud (refine (hH2.out _ _ HP7.out).mono ?_); rintro e w8 ⟨rfl, hb8⟩)
    | ((with_reducible show wpList _ _ _ (⟨some 9, .alloc _, _, _, _, _⟩ :: _) _ _); refine wl_alloc rfl 30 rfl (bvs (Z8 32)) 32 infoD ?_; intro w9 hA9 hb9 hs9)
    | ((with_reducible show wpList _ _ _ (⟨none, .store _ _ _, _, _, _, _⟩ :: _) _ _); go_loud (refine wl_store rfl 30 _ _ rfl w8.heap.size 0 rfl (bvs S2) rfl 30 _ hA9 h322.out (by rw [bvs_len, HL2.out]; exact (by decide : 0 + 32 ≤ (bvs (Z8 32)).length)) (bvs_one _) ?_); intro w10 hA10 hg10 hs10))
  rw [whole_store _ _ (by rw [bvs_len, bvs_len, HL2.out]; rfl)] at hA10
  have x5 := hb8.size
  have x6 := hb9.size
  rw [World.size_alloc] at x5
  have hb10 : Below w7.heap.size w7 w10 := (((Below.refl _ _).alloc (Nat.le_refl _) _).trans (hb8.mono (by rw [World.size_alloc]; omega))).trans ((hb9.grown hg10 (by omega) (by intro k e; injection e with e; omega)).mono (by omega))
  obtain ⟨gB, hgB⟩ : ∃ gB, w8.heap.size = gB := ⟨_, rfl⟩
  rw [hgB] at hA10 x5 x6 hs9 ⊢
  have hlB := hA10.lt
  have hgB7 : w7.heap.size < gB := by omega
  clear hb8 hb9 hA9 hg10 hs10 x5 x6 hs9 hgB
  have hR10 := (hR4.kept hb7).kept hb10
  have hS10 := (hS4.kept hb7).kept hb10
  have hA10' := hA7.kept hb10
  have hz7 := hb7.size
  have hlS := hS4.lt
  have hlR := hR4.lt
  have hB10 : Below gR w w10 := hB4.trans ((hb7.mono (by omega)).trans (hb10.mono (by omega)))
  clear hB4 hR4 hS4 hk4 hm4 hr4 hb7 hb10 hA7 HP4 HP7 hH1 hH2
  refine wp_region_still_tail 2 (by kernel_rfl) (by kernel_rfl) ?_
  simp only [List.take_succ_cons, List.take_zero, List.drop_succ_cons, List.drop_zero]
  change wpStill _ _ w10.drew _ _ _
  repeat still_step
  refine wpStill_nil ?_
  change wpList _ _ _ _ _ w10.drew
  have hdr : Hid (gR ≤ w10.drew.heap.size ∧ Below gR w w10.drew) := ⟨Nat.le_of_lt hR10.lt, hB10.drew⟩
  have hR11 : Arr w10.drew gR _ _ := hR10.drew
  have hS11 : Arr w10.drew gS _ _ := hS10.drew
  have hA11 : Arr w10.drew gA _ _ := hA10'.drew
  have hB11 : Arr w10.drew gB _ _ := hA10.drew
  clear hR10 hS10 hA10' hA10 hB10
  generalize w10.drew = w11 at *
  have e32 : Hid ((bvs S1).length = 32) := by show _ = _; rw [bvs_len]; exact HL1.out
  have f32 : Hid ((bvs S2).length = 32) := by show _ = _; rw [bvs_len]; exact HL2.out
  have hlz : Hid ((bvs (Z8 64)).length = 64) := rfl
  refine wl_copyV rfl _ _ 22 22 rfl 5 Try.underlying22 (by kernel_rfl) gS 0 32 64 _ 32 32 rfl rfl 23 _ hS11 (bvs S1) (by rw [e32.out]; rfl) (fun _ => ⟨_, rfl, fun j v h => by rw [Addr.add_lit, hA11.cell]; simpa using h⟩) (by rw [e32.out, hlz.out]; omega) (bvs_one _) ?_
  intro w12 hS12 hg12 hs12
  have hR12 := hR11.grown hg12 (by intro e; injection e with e; omega)
  have hA12 := hA11.grown hg12 (by intro e; injection e with e; omega)
  have hB12 := hB11.grown hg12 (by intro e; injection e with e; omega)
  have hW12 := hdr.out.2.grown hg12 hdr.out.1 (by intro k e; injection e with e; omega)
  have hz12 := Nat.le_trans hdr.out.1 hs12
  clear hR11 hS11 hA11 hB11 hg12 hdr
  have q1 : Hid ((bvs (Z8 64)).take 0 ++ (bvs S1 ++ (bvs (Z8 64)).drop (0 + (bvs S1).length)) = bvs (S1 ++ Z8 32)) := by
    show _ = _
    rw [e32.out]
    simp [bvs, Z8]
  rw [q1.out] at hS12
  rw [e32.out]
  go_upto_region 8 with fail
  refine wp_region_still_tail 2 (by kernel_rfl) (by kernel_rfl) ?_
  simp only [List.take_succ_cons, List.take_zero, List.drop_succ_cons, List.drop_zero]
  change wpStill _ _ w12.drew _ _ _
  repeat still_step
  refine wpStill_nil ?_
  change wpList _ _ _ _ _ w12.drew
  have hdr : Hid (gR ≤ w12.drew.heap.size ∧ Below gR w w12.drew) := ⟨Nat.le_of_lt hR12.lt, hW12.drew⟩
  have hR13 : Arr w12.drew gR _ _ := hR12.drew
  have hS13 : Arr w12.drew gS _ _ := hS12.drew
  have hB13 : Arr w12.drew gB _ _ := hB12.drew
  clear hR12 hS12 hA12 hB12 hW12 hz12
  generalize w12.drew = w13 at *
  have hlq : Hid ((bvs (S1 ++ Z8 32)).length = 64) := by show _ = _; rw [bvs_len, List.length_append, HL1.out]; rfl
  refine wl_copyV rfl _ _ 22 22 rfl 5 Try.underlying22 (by kernel_rfl) gS 32 32 32 _ 32 32 rfl rfl 23 _ hS13 (bvs S2) (by rw [f32.out]; rfl) (fun _ => ⟨_, rfl, fun j v h => by rw [Addr.add_lit, hB13.cell]; simpa using h⟩) (by rw [f32.out, hlq.out]; omega) (bvs_one _) ?_
  intro w14 hS14 hg14 hs14
  have hR14 := hR13.grown hg14 (by intro e; injection e with e; omega)
  have hW14 := hdr.out.2.grown hg14 hdr.out.1 (by intro k e; injection e with e; omega)
  clear hR13 hS13 hB13 hg14 hdr
  have q2 : Hid ((bvs (S1 ++ Z8 32)).take 32 ++ (bvs S2 ++ (bvs (S1 ++ Z8 32)).drop (32 + (bvs S2).length)) = bvs (S1 ++ S2)) := by
    show _ = _
    rw [List.drop_of_length_le (by rw [hlq.out, f32.out]; omega)]
    have e := HL1.out
    simp only [bvs, List.map_append, List.append_nil]
    rw [List.take_left' (by rw [List.length_map, e])]
  rw [q2.out] at hS14
  rw [f32.out]
  have h64 : Hid ((Try.prog.info? 23).map (·.size) = some (bvs (S1 ++ S2)).length) := by show _ = _; rw [bvs_len, List.length_append, HL1.out, HL2.out]; exact sizeSig
  have l64 : Hid ((bvs (S1 ++ S2)).length = 64) := by show _ = _; rw [bvs_len, List.length_append, HL1.out, HL2.out]
  generalize hq : S1 ++ S2 = S at *
  have HQ := Lib.hid hq
  clear hq
  go_wp2_with (first
    | ((with_reducible show wpList _ _ _ (⟨some 35, .load _ _, _, _, _, _⟩ :: _) _ _); refine wl_load rfl 23 _ rfl gS 0 rfl 23 (bvs S) (bvs S) hS14 (fun j v h => by rw [Nat.zero_add]; exact h) (.array 64 5) Try.underlying23 rfl h64.out ?_)
    | ((with_reducible show wpList _ _ _ (⟨none, .store _ _ _, _, _, _, _⟩ :: _) _ _); refine wl_store rfl 23 _ _ rfl gR 0 rfl (bvs S) rfl 23 _ hR14 h64.out (by rw [l64.out]; exact (by decide : 0 + 64 ≤ (bvs (Z8 64)).length)) (bvs_one _) ?_; intro w15 hR15 hg15 hs15))
  rw [whole_store _ _ (by rw [l64.out]; rfl)] at hR15
  refine end_cell2 rfl gR 23 (bvs S) (.array 64 5) (.int .i64 0) rfl hR15 Try.underlying23 rfl h64.out rfl rfl ⟨by rw [HQ1.out, HQ2.out, HQ.out], ?_⟩
  rw [HGR.out]
  exact hW14.grown hg15 (Nat.le_of_lt hR14.lt) (by intro k e; injection e with e; omega)
end Go.Proofs.Ytebegdifnkifgaa
