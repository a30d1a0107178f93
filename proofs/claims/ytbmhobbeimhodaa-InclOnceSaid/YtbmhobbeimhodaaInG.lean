/-
  Layer 10: the program's Head. Conditions: those in each statement.
-/
import Derived.Test.YtbmhobbeimhodaaInE
namespace Go.Proofs.Ytbmhobbeimhodaa
open Go.RowKit

section
variable {P : Program} {ops : Array Oper} {rest : List Oper} {op : Oper} {a : Act} {Q : Act → Prop} {w : World}
/-- a load of many cells among operations that turn nothing -/
theorem still_load_mid (hgd : op.guard = none) (ty : TypeId) (x : Operand) (ho : op.op = .load ty x) (b o : Nat) (hx : a.eval x = .pointer (some ⟨b, o, none⟩)) (cs : List Value) (d : TypeDesc) (hc : w.rangeAt b o cs)
    (hu : P.underlying ty = some d) (hd : d.isRow = true) (hi : (P.info? ty).map (·.size) = some cs.length) (h : wpStill P ops w Q rest (a.put op.dst (.agg cs.toArray))) : wpStill P ops w Q (op :: rest) a := by
  refine wpStill_step fun K hK => ?_
  have hw : Region.wanted op (yielded ops a.tmps) = true := by simp [Region.wanted, hgd]
  rw [if_pos hw]
  unfold Oper.still execOp
  simp only [ho, hx, Instr.loadAt, Instr.sureAddr, Sem.run_bind, Sem.run_pure, Result.andThen_ok, run_loadVar_mid w b o ty cs d hc hu hd hi]
  rw [Oper.stillUpon_value]
  exact hK _ h
end
/-- whether there is such a path -/
def okH (i s n : Nat) : Bool := okR i s && decide ((rL i s).length = n)
def hdV (d : List UInt8) (i s : Nat) (P : List (List UInt8)) : List UInt8 := if okH i s P.length then headF d i s P else Z8 32
def hdE (i s n : Nat) : Int := if okH i s n then 0 else 1
theorem okH_yes {i s n : Nat} (h : okH i s n = true) : okR i s = true ∧ (rgF i s 0).length = n ∧ rL i s = rgF i s 0 := by
  unfold okH at h
  rw [Bool.and_eq_true, decide_eq_true_eq] at h
  have e : rL i s = rgF i s 0 := by unfold rL; rw [h.1, if_pos rfl]
  exact ⟨h.1, by rw [← e]; exact h.2, e⟩
theorem hdV_len {d : List UInt8} (hd : d.length = 32) (i s : Nat) (P : List (List UInt8)) : (hdV d i s P).length = 32 := by
  unfold hdV
  split
  · exact head_len s d i s P (Nat.le_refl _) hd
  · simp [Z8]
theorem infoR0 : (Try.prog.info? 52).map (fun i => (i.zero, i.size)) = some (some (.agg ([.int .u64 0, .int .u64 0] : List Value).toArray), 2) := by kernel_rfl
theorem infoRs : (Try.prog.info? 52).map (·.size) = some 2 := by kernel_rfl
theorem descR : ∃ d, Try.prog.underlying 52 = some d ∧ d.isRow = true := ⟨_, Try.underlying52, rfl⟩
theorem stepU_hi {i : Nat} {x : Nat × Nat} (h : i < x.1) (d y : List UInt8) : stepU i d (x, y) = nodeH d y := by unfold stepU; rw [if_neg (by simp only; omega)]
theorem stepU_lo {i : Nat} {x : Nat × Nat} (h : x.1 ≤ i) (d y : List UInt8) : stepU i d (x, y) = nodeH y d := by unfold stepU; rw [if_pos h]
theorem fold_next (i : Nat) (L : List (Nat × Nat)) (P : List (List UInt8)) (d : List UInt8) (k : Nat) (h1 : k < L.length) (h2 : k < P.length) :
    ((L.zip P).take (k + 1)).foldl (stepU i) d = stepU i (((L.zip P).take k).foldl (stepU i) d) (L[k], P.getD k []) := by
  have hk : k < (L.zip P).length := by rw [List.length_zip]; omega
  rw [List.take_succ_eq_append_getElem hk, List.foldl_append]
  simp [List.getD, h2]

set_option maxRecDepth 100000 in
set_option maxHeartbeats 3200000 in
theorem Head_any (d : List UInt8) (i s : Nat) (a : Option Addr) (n c : Nat) (P : List (List UInt8)) (w : World) (hd : d.length = 32) (hP : RdD w a n c P) (hn50 : n ≤ 2 ^ 50) :
    Calls Try.prog 17 #[.agg (bvs d).toArray, .int .u64 (i : Int), .int .u64 (s : Int), .slice a n c] w fun e w' => e = .returned (.tuple #[.agg (bvs (hdV d i s P)).toArray, .int .i64 (hdE i s n)]) ∧ Below w.heap.size w w' := by
  have hl := hP.len
  have hR := fun w => Ranges_any i s w
  have h32d : Hid ((Try.prog.info? 41).map (·.size) = some (bvs d).length) := by show _ = _; rw [bvs_len, hd]; exact sizeD
  have h32z : Hid ((Try.prog.info? 41).map (·.size) = some (bvs (Z8 32)).length) := sizeD
  have hz : Hid ((bvs (Z8 32)).length = 32) := by show _ = _; rw [bvs_len]; simp [Z8]
  have hd32 : Hid ((bvs d).length = 32) := by show _ = _; rw [bvs_len]; exact hd
  cases hok : okH i s n with
  | false =>
    have e1 : hdV d i s P = Z8 32 := by unfold hdV; rw [hl, hok]; rfl
    have e2 : hdE i s n = 1 := by unfold hdE; rw [hok]; rfl
    rw [e1, e2]
    clear e1 e2
    cases hr : okR i s with
    | false =>
      have e3 : rE i s = 1 := by simp only [rE, hr]; rfl
      rw [e3] at hR
      have HR := Lib.hid hR
      clear hR hok hr hP hl
      go_enter Try.func17, Try.ntmps17
      go_wp2_with (first
        | ((with_reducible show wpList _ _ _ (⟨some 4, .box _ _, _, _, _, _⟩ :: _) _ _); refine wl_box rfl 41 _ rfl (bvs d) rfl ?_; intro w1 hA1 hb1 hs1)
        | ((with_reducible show wpList _ _ _ (⟨some 8, .alloc _, _, _, _, _⟩ :: _) _ _); refine wl_alloc rfl 41 rfl (bvs (Z8 32)) 32 infoD ?_; intro w2 hA2 hb2 hs2)
        | (go_at_call 10; refine (HR.out w2).mono ?_; rintro e w3 ⟨v, rfl, hO3, hb3⟩)
        | ((with_reducible show wpList _ _ _ (⟨some 23, .build _ _, _, _, _, _⟩ :: _) _ _); refine wpList_buildTo rfl 41 _ rfl (some 23) rfl (bvs (Z8 32)).toArray builtD0 ?_)
        | ((with_reducible show wpList _ _ _ (⟨none, .store _ _ _, _, _, _, _⟩ :: _) _ _); refine wl_store rfl 41 _ _ rfl w1.heap.size 0 rfl (bvs (Z8 32)) rfl 41 _ (hA2.kept hb3) h32z.out (by decide) (bvs_one _) ?_; intro w4 hA4 hg4 hs4))
      rw [whole_store _ _ (by rfl)] at hA4
      refine end_cell2 rfl w1.heap.size 41 (bvs (Z8 32)) (.array 32 5) (.int .i64 1) rfl hA4 Try.underlying41 rfl h32z.out rfl rfl ⟨rfl, ?_⟩
      have z1 := hb1.size
      have z2 := hb2.size
      have z3 := hb3.size
      exact ((hb1.trans (hb2.mono z1)).trans (hb3.mono (by omega))).grown hg4 (by omega) (by intro k e; injection e with e; omega)
    | true =>
      have e3 : rE i s = 0 := by simp only [rE, hr]; rfl
      have hne : ¬ ((rL i s).length = n) := by
        unfold okH at hok
        rw [hr] at hok
        simpa using hok
      rw [e3] at hR
      have HR := Lib.hid hR
      have hlen := rL_few i s
      obtain ⟨m, hm⟩ : ∃ m, m = (rL i s).length := ⟨_, rfl⟩
      rw [← hm] at hne hlen
      have HM := Lib.hid hm
      have hcc : ¬ ((n : Int) = (m : Int)) := by omega
      clear hR hok hr hP hl hm hne
      go_enter Try.func17, Try.ntmps17
      go_wp2_with (first
        | ((with_reducible show wpList _ _ _ (⟨some 4, .box _ _, _, _, _, _⟩ :: _) _ _); refine wl_box rfl 41 _ rfl (bvs d) rfl ?_; intro w1 hA1 hb1 hs1)
        | ((with_reducible show wpList _ _ _ (⟨some 8, .alloc _, _, _, _, _⟩ :: _) _ _); refine wl_alloc rfl 41 rfl (bvs (Z8 32)) 32 infoD ?_; intro w2 hA2 hb2 hs2)
        | (go_at_call 10; refine (HR.out w2).mono ?_; rintro e w3 ⟨v, rfl, hO3, hb3⟩; obtain ⟨ra, rc, rfl, hRd, hrb⟩ := hO3.rd (by omega); rw [← HM.out])
        | ((with_reducible show wpList _ _ _ (⟨some 30, .build _ _, _, _, _, _⟩ :: _) _ _); refine wpList_buildTo rfl 41 _ rfl (some 30) rfl (bvs (Z8 32)).toArray builtD0 ?_)
        | ((with_reducible show wpList _ _ _ (⟨none, .store _ _ _, _, _, _, _⟩ :: _) _ _); refine wl_store rfl 41 _ _ rfl w1.heap.size 0 rfl (bvs (Z8 32)) rfl 41 _ (hA2.kept hb3) h32z.out (by decide) (bvs_one _) ?_; intro w4 hA4 hg4 hs4))
      rw [whole_store _ _ (by rfl)] at hA4
      refine end_cell2 rfl w1.heap.size 41 (bvs (Z8 32)) (.array 32 5) (.int .i64 1) rfl hA4 Try.underlying41 rfl h32z.out rfl rfl ⟨rfl, ?_⟩
      have z1 := hb1.size
      have z2 := hb2.size
      have z3 := hb3.size
      exact ((hb1.trans (hb2.mono z1)).trans (hb3.mono (by omega))).grown hg4 (by omega) (by intro k e; injection e with e; omega)
  | true =>
    obtain ⟨hr, hrn, hrl⟩ := okH_yes hok
    have e1 : hdV d i s P = headF d i s P := by unfold hdV; rw [hl, hok]; rfl
    have e2 : hdE i s n = 0 := by unfold hdE; rw [hok]; rfl
    have e3 : rE i s = 0 := by simp only [rE, hr]; rfl
    have hfold := head_fold s s i 0 d P (Nat.le_refl _) (okR_yes hr).2 (by rw [hl, hrn])
    rw [Nat.zero_add] at hfold
    rw [e1, e2, hfold]
    rw [e3, hrl] at hR
    have hHl : (((rgF i s 0).zip P).foldl (stepU i) d).length = 32 := by rw [← hfold]; exact head_len s d i s P (Nat.le_refl _) hd
    have hlen := rg_few i s 0 (okR_yes hr).1
    clear hok hr e1 e2 e3 hfold hrl
    generalize rgF i s 0 = L at *
    have HR := Lib.hid hR
    have HRN := Lib.hid hrn
    clear hR hrn
    go_enter Try.func17, Try.ntmps17
    go_upto_region 7 with (first
      | ((with_reducible show wpList _ _ _ (⟨some 4, .box _ _, _, _, _, _⟩ :: _) _ _); refine wl_box rfl 41 _ rfl (bvs d) rfl ?_; intro w1 hA1 hb1 hs1)
      | ((with_reducible show wpList _ _ _ (⟨some 8, .alloc _, _, _, _, _⟩ :: _) _ _); refine wl_alloc rfl 41 rfl (bvs (Z8 32)) 32 infoD ?_; intro w2 hA2 hb2 hs2)
      | (go_at_call 10; refine (HR.out w2).mono ?_; rintro e w3 ⟨v, rfl, hO3, hb3⟩; obtain ⟨ra, rc, rfl, hRd, hrb⟩ := hO3.rd (by omega); rw [HRN.out])
      | ((with_reducible show wpList _ _ _ (⟨some 31, .load _ _, _, _, _, _⟩ :: _) _ _); refine wl_load rfl 41 _ rfl w.heap.size 0 rfl 41 (bvs d) (bvs d) ((hA1.kept hb2).kept hb3) (fun j v h => (by rw [Nat.zero_add]; exact h)) (.array 32 5) Try.underlying41 rfl h32d.out ?_)
      | ((with_reducible show wpList _ _ _ (⟨some 12, .alloc _, _, _, _, _⟩ :: _) _ _); refine wl_alloc rfl 41 rfl (bvs (Z8 32)) 32 infoD ?_; intro w4 hA4 hb4 hs4)
      | ((with_reducible show wpList _ _ _ (⟨none, .store _ _ _, _, _, _, _⟩ :: _) _ _); refine wl_store rfl 41 _ _ rfl w3.heap.size 0 rfl (bvs d) rfl 41 _ hA4 h32d.out (by rw [hd32.out]; exact (by decide : 0 + 32 ≤ (bvs (Z8 32)).length)) (bvs_one _) ?_; intro w5 hA5 hg5 hs5))
    rw [whole_store _ _ (by rw [hd32.out]; rfl)] at hA5
    have z1 := hb1.size
    have z2 := hb2.size
    have z3 := hb3.size
    have z4 := hb4.size
    have b35 : Below w3.heap.size w3 w5 := hb4.grown hg5 z4 (by intro k e; injection e with e; omega)
    have b05 : Below w.heap.size w w5 := ((hb1.trans (hb2.mono z1)).trans (hb3.mono (by omega))).trans (b35.mono (by omega))
    have A8 : Arr w5 w1.heap.size 41 (bvs (Z8 32)) := (hA2.kept hb3).kept b35
    have hR5 := hRd.to b35
    have hP5 := hP.to b05
    have hPb : ∀ ad, a = some ad → 0 < n → ad.block ≠ w3.heap.size := fun ad e h0 => by
      obtain ⟨b, off, e2, hlt, -⟩ := hP.mem h0
      rw [e] at e2
      injection e2 with e2
      rw [e2]
      show b ≠ _
      omega
    have hRb : ∀ ad, ra = some ad → 0 < L.length → ad.block ≠ w3.heap.size := fun ad e _ => by have := (hrb ad e).2; omega
    have h81 : w1.heap.size ≠ w3.heap.size := by omega
    have h80 : w.heap.size ≤ w1.heap.size := z1
    obtain ⟨g4, hg4⟩ : ∃ g, g = w.heap.size := ⟨_, rfl⟩
    obtain ⟨g8, hg8⟩ : ∃ g, g = w1.heap.size := ⟨_, rfl⟩
    obtain ⟨g12, hg12⟩ : ∃ g, g = w3.heap.size := ⟨_, rfl⟩
    have h12 : g4 ≤ g12 := by omega
    go_simp
    rw [← hg4, ← hg8, ← hg12]
    rw [← hg4] at b05 h80
    rw [← hg8] at A8 h81 h80
    rw [← hg12] at hA5 hPb hRb h81
    rw [HRN.out] at hR5 hRb
    have HG4 := Lib.hid hg4
    clear hA1 hA2 hA4 hb1 hb2 hb3 hb4 hs1 hs2 hs4 hs5 hg5 hO3 hRd hrb b35 z1 z2 z3 z4 hP hg4 hg8 hg12
    have B05 := Lib.hid b05
    have HHL := Lib.hid hHl
    have HD := Lib.hid hd
    clear b05 hHl hd
    go_wp2_with fail
    go_loopw [34] (fun ix wr => ∃ (k : Nat) (hh : List UInt8), k ≤ n ∧ ix = .int .i64 (k : Int) ∧ hh = ((L.zip P).take k).foldl (stepU i) d ∧ hh.length = 32 ∧ Arr wr g12 41 (bvs hh) ∧ KB (fun q => q = g12) w5 wr) (fun ix _ => n - (intOf ix).toNat)
    case atStart => exact ⟨0, d, Nat.zero_le _, rfl, rfl, HD.out, hA5, KB.refl _ _⟩
    case round =>
      clear hA5
      obtain ⟨k, hh, hk, rfl, hhe, hhl, hAh, hkb⟩ := hrel
      by_cases hlt : k < n
      · have hkL : k < L.length := by rw [HRN.out]; exact hlt
        obtain ⟨rb, ro, rfl, hrbl, -⟩ := hR5.mem (by omega)
        obtain ⟨pb, po, rfl, hpbl, -⟩ := hP5.mem (by omega)
        have hRr := (hR5.kb hkb (fun ad e h0 => hRb ad e (by omega))).range k hkL
        have hPr := (hkb.rdD hP5 (fun ad e h0 => hPb ad e h0)).range k hlt
        have hyl := hP5.all k (by omega)
        have hnext := fold_next i L P d k hkL (by omega)
        rw [← hhe] at hnext
        obtain ⟨x, hx⟩ : ∃ x, x = L[k] := ⟨_, rfl⟩
        obtain ⟨y, hy⟩ : ∃ y, y = P.getD k [] := ⟨_, rfl⟩
        rw [← hx] at hRr hnext
        rw [← hy] at hPr hyl hnext
        have hpb12 := hPb _ rfl (by omega)
        have hrl := Nat.lt_of_lt_of_le hrbl hkb.size
        have hpl := Nat.lt_of_lt_of_le hpbl hkb.size
        have h12r := hAh.lt
        simp only at hpb12
        have h32h : Hid ((Try.prog.info? 41).map (·.size) = some (bvs hh).length) := by show _ = _; rw [bvs_len, hhl]; exact sizeD
        have h32y : Hid ((Try.prog.info? 41).map (·.size) = some (bvs y).length) := by show _ = _; rw [bvs_len, hyl]; exact sizeD
        have hkn : (k : Int) < (n : Int) := by omega
        have hk0 : (0 : Int) ≤ (k : Int) := by omega
        have HLT := Lib.hid hlt
        have HHH := Lib.hid hhl
        have HYL := Lib.hid hyl
        have HNE := Lib.hid hnext
        have HKL := Lib.hid hkL
        have z5 := hkb.size
        clear hlt hkL hx hy hR5 hP5 hhe hnext hrbl hpbl hl hlen hRb hPb hhl hyl
        by_cases hcmp : i < x.1
        · have hc : (i : Int) < (x.1 : Int) := by omega
          rw [stepU_hi hcmp] at HNE
          have HNo := Lib.hid (fun w => Node_any hh y w HHH.out HYL.out)
          have hNl : (nodeH hh y).length = 32 := shaL_len _
          obtain ⟨S, hS⟩ : ∃ S, S = nodeH hh y := ⟨_, rfl⟩
          rw [← hS] at HNE HNo hNl
          have h32S : Hid ((Try.prog.info? 41).map (·.size) = some (bvs S).length) := by show _ = _; rw [bvs_len, hNl]; exact sizeD
          have LS : Hid ((bvs S).length = (bvs hh).length) := by show _ = _; rw [bvs_len, bvs_len, hNl, HHH.out]
          have HNL := Lib.hid hNl
          clear hS hNl hcmp
          go_upto_region 11 with (first
            | ((with_reducible show wpList _ _ _ (⟨some 38, .load _ _, _, _, _, _⟩ :: _) _ _); refine wpList_load_mid rfl 52 _ rfl rb (ro + k * 2) rfl (encR x) _ hRr Try.underlying52 rfl infoRs ?_)
            | ((with_reducible show wpList _ _ _ (⟨some 14, .alloc _, _, _, _, _⟩ :: _) _ _); refine wl_alloc rfl 52 rfl [.int .u64 0, .int .u64 0] 2 infoR0 ?_; intro w6 hA6 hb6 hs6)
            | ((with_reducible show wpList _ _ _ (⟨none, .store _ _ _, _, _, _, _⟩ :: _) _ _); refine wl_store rfl 52 _ _ rfl wr.heap.size 0 rfl (encR x) rfl 52 _ hA6 infoRs (by simp [encR]) (encR_one x) ?_; intro w7 hA7 hg7 hs7; have c7 := hA7.cell 0; simp only [encR, List.take_zero, List.nil_append, List.cons_append, List.getElem?_cons_zero] at c7))
          have b67 : Below wr.heap.size wr w7 := hb6.grown hg7 hb6.size (by intro k e; injection e with e; omega)
          have A12 : Arr w7 g12 _ _ := hAh.kept b67
          have PR : w7.drew.rangeAt pb (po + k * 32) (bvs y) := fun j v hj => (b67.drew.cell (p := ⟨pb, po + k * 32 + j, none⟩) hpl).trans (hPr j v hj)
          have z7 := b67.size
          refine wp_region_still_tail 5 (by kernel_rfl) (by kernel_rfl) ?_
          simp only [List.take_succ_cons, List.take_zero, List.drop_succ_cons, List.drop_zero]
          refine still_load_mid rfl 41 _ rfl g12 0 rfl (bvs hh) (.array 32 5) (A12.drew.range 0 _ (fun j v h => by rw [Nat.zero_add]; exact h)) Try.underlying41 rfl h32h.out ?_
          still_step
          still_step
          still_step
          refine still_load_mid rfl 41 _ rfl pb (po + k * 32) rfl (bvs y) (.array 32 5) PR Try.underlying41 rfl h32y.out ?_
          refine wpStill_nil ?_
          change wpList _ _ _ _ _ w7.drew
          replace A12 := A12.drew
          have b77 := b67.drew
          have z7' : wr.heap.size ≤ w7.drew.heap.size := z7
          clear PR hA6 hA7 hb6 hs6 hg7 hs7 c7 b67 z7
          generalize w7.drew = w8 at *
          go_wp2_with (first
            | (go_at_call 22; refine (HNo.out _).mono ?_; rintro e w9 ⟨rfl, hb9⟩)
            | ((with_reducible show wpList _ _ _ (⟨none, .store _ _ _, _, _, _, _⟩ :: _) _ _); refine wl_store rfl 41 _ _ rfl g12 0 rfl (bvs S) rfl 41 _ (A12.kept hb9) h32S.out (by rw [LS.out]; omega) (bvs_one _) ?_; intro w10 hA10 hg10 hs10))
          rw [whole_store _ _ LS.out.symm] at hA10
          go_roundw
          case rel => exact ⟨k + 1, S, HLT.out, by go_num, HNE.out.symm, HNL.out, hA10, ((hkb.below b77).below hb9).grown hg10 rfl⟩
          case measure => simp [intOf]; have := HLT.out; omega
        · have hc : ¬ ((i : Int) < (x.1 : Int)) := by omega
          rw [stepU_lo (by omega)] at HNE
          have HNo := Lib.hid (fun w => Node_any y hh w HYL.out HHH.out)
          have hNl : (nodeH y hh).length = 32 := shaL_len _
          obtain ⟨S, hS⟩ : ∃ S, S = nodeH y hh := ⟨_, rfl⟩
          rw [← hS] at HNE HNo hNl
          have h32S : Hid ((Try.prog.info? 41).map (·.size) = some (bvs S).length) := by show _ = _; rw [bvs_len, hNl]; exact sizeD
          have LS : Hid ((bvs S).length = (bvs hh).length) := by show _ = _; rw [bvs_len, bvs_len, hNl, HHH.out]
          have HNL := Lib.hid hNl
          clear hS hNl hcmp
          go_upto_region 12 with (first
            | ((with_reducible show wpList _ _ _ (⟨some 38, .load _ _, _, _, _, _⟩ :: _) _ _); refine wpList_load_mid rfl 52 _ rfl rb (ro + k * 2) rfl (encR x) _ hRr Try.underlying52 rfl infoRs ?_)
            | ((with_reducible show wpList _ _ _ (⟨some 14, .alloc _, _, _, _, _⟩ :: _) _ _); refine wl_alloc rfl 52 rfl [.int .u64 0, .int .u64 0] 2 infoR0 ?_; intro w6 hA6 hb6 hs6)
            | ((with_reducible show wpList _ _ _ (⟨none, .store _ _ _, _, _, _, _⟩ :: _) _ _); refine wl_store rfl 52 _ _ rfl wr.heap.size 0 rfl (encR x) rfl 52 _ hA6 infoRs (by simp [encR]) (encR_one x) ?_; intro w7 hA7 hg7 hs7; have c7 := hA7.cell 0; simp only [encR, List.take_zero, List.nil_append, List.cons_append, List.getElem?_cons_zero] at c7))
          have b67 : Below wr.heap.size wr w7 := hb6.grown hg7 hb6.size (by intro k e; injection e with e; omega)
          have A12 : Arr w7 g12 _ _ := hAh.kept b67
          have PR : w7.drew.rangeAt pb (po + k * 32) (bvs y) := fun j v hj => (b67.drew.cell (p := ⟨pb, po + k * 32 + j, none⟩) hpl).trans (hPr j v hj)
          have z7 := b67.size
          refine wp_region_still_tail 5 (by kernel_rfl) (by kernel_rfl) ?_
          simp only [List.take_succ_cons, List.take_zero, List.drop_succ_cons, List.drop_zero]
          still_step
          still_step
          still_step
          refine still_load_mid rfl 41 _ rfl pb (po + k * 32) rfl (bvs y) (.array 32 5) PR Try.underlying41 rfl h32y.out ?_
          refine still_load_mid rfl 41 _ rfl g12 0 rfl (bvs hh) (.array 32 5) (A12.drew.range 0 _ (fun j v h => by rw [Nat.zero_add]; exact h)) Try.underlying41 rfl h32h.out ?_
          refine wpStill_nil ?_
          change wpList _ _ _ _ _ w7.drew
          replace A12 := A12.drew
          have b77 := b67.drew
          have z7' : wr.heap.size ≤ w7.drew.heap.size := z7
          clear PR hA6 hA7 hb6 hs6 hg7 hs7 c7 b67 z7
          generalize w7.drew = w8 at *
          go_wp2_with (first
            | (go_at_call 22; refine (HNo.out _).mono ?_; rintro e w9 ⟨rfl, hb9⟩)
            | ((with_reducible show wpList _ _ _ (⟨none, .store _ _ _, _, _, _, _⟩ :: _) _ _); refine wl_store rfl 41 _ _ rfl g12 0 rfl (bvs S) rfl 41 _ (A12.kept hb9) h32S.out (by rw [LS.out]; omega) (bvs_one _) ?_; intro w10 hA10 hg10 hs10))
          rw [whole_store _ _ LS.out.symm] at hA10
          go_roundw
          case rel => exact ⟨k + 1, S, HLT.out, by go_num, HNE.out.symm, HNL.out, hA10, ((hkb.below b77).below hb9).grown hg10 rfl⟩
          case measure => simp [intOf]; have := HLT.out; omega
      · obtain rfl : k = n := by omega
        have hc : ¬ ((k : Int) < (k : Int)) := by omega
        rw [List.take_of_length_le (by rw [List.length_zip, HRN.out, hl]; omega)] at hhe
        have HHE := Lib.hid hhe
        have h32h : Hid ((Try.prog.info? 41).map (·.size) = some (bvs hh).length) := by show _ = _; rw [bvs_len, hhl]; exact sizeD
        have hh32 : Hid ((bvs hh).length = 32) := by show _ = _; rw [bvs_len]; exact hhl
        have A8r := hkb.block g8 A8.lt (fun e => h81 e)
        have A8' : Arr wr g8 41 (bvs (Z8 32)) := A8r.trans A8
        have z5 := hkb.size
        clear hhe hhl hk hR5 hP5 A8 A8r hPb hRb hl hlen h81
        go_wp2_with (first
          | ((with_reducible show wpList _ _ _ (⟨some 56, .load _ _, _, _, _, _⟩ :: _) _ _); refine wl_load rfl 41 _ rfl g12 0 rfl 41 (bvs hh) (bvs hh) hAh (fun j v h => (by rw [Nat.zero_add]; exact h)) (.array 32 5) Try.underlying41 rfl h32h.out ?_)
          | ((with_reducible show wpList _ _ _ (⟨none, .store _ _ _, _, _, _, _⟩ :: _) _ _); refine wl_store rfl 41 _ _ rfl g8 0 rfl (bvs hh) rfl 41 _ A8' h32h.out (by rw [hh32.out]; exact (by decide : 0 + 32 ≤ (bvs (Z8 32)).length)) (bvs_one _) ?_; intro w6 hA6 hg6 hs6))
        rw [whole_store _ _ (by rw [hh32.out]; rfl)] at hA6
        refine end_cell2 rfl g8 41 (bvs hh) (.array 32 5) (.int .i64 0) rfl hA6 Try.underlying41 rfl h32h.out rfl rfl ⟨by rw [HHE.out], ?_⟩
        have b5 := B05.out
        have hg4 := HG4.out
        have bs := b5.size
        subst hg4
        have b6 : Below w.heap.size w wr := b5.trans (hkb.under (fun q e => by omega) bs)
        exact b6.grown hg6 (by omega) (by intro q e; injection e with e; omega)
end Go.Proofs.Ytbmhobbeimhodaa
