/-
  SignBack: a signature goes as a mark and comes back; bytes that are a mark are that one's. Conditions: those in each statement.
-/
import Derived.Test.YtebegdifnkifgaaSgJ
import Derived.Deep.CutBlock
namespace Go.Proofs.Ytebegdifnkifgaa
open Go.RowKit

theorem builtSig : Try.prog.built 23 [] = some (bvs (Z8 64)).toArray := by kernel_rfl
structure InvBk (S : List Value) (b : List UInt8) (g7 n c : Nat) (pa : Option Addr) (w8 : World) (L : Nat → Bool) (v39 v40 v41 v42 v43 v44 v45 v46 v47 v4 : Value) (wx : World) : Prop where
  t0 : L 0 = true → v39 = .agg S.toArray
  t1 : L 1 = true → Own wx w8.heap.size 5 v40 b
  t2 : L 2 = true → v41 = .string (bstr b)
  t3 : L 3 = true → v42 = .slice pa n c
  t4 : L 4 = true → v43 = .string (bstr b)
  t5 : L 5 = true → v44 = .bool true
  t6 : L 6 = true → v45 = .bool true
  t7 : L 7 = true → v46 = .bool true
  t8 : L 8 = true → v47 = .bool true
  t9 : L 9 = true → v4 = .bool true
  ar : Arr wx g7 23 S
  rb : Rd wx pa n c b
  bw : Below w8.heap.size w8 wx

set_option maxRecDepth 100000 in
set_option maxHeartbeats 3200000 in
theorem Back_law (sig b : List UInt8) (pa : Option Addr) (n c : Nat) (w : World) (hg : sig.length = 64) (hr : Rd w pa n c b) :
    Calls Try.prog 6 #[.agg (bvs sig).toArray, .slice pa n c] w fun e w' => e = .returned (.bool true) ∧ Below w.heap.size w w' := by
  have HG := Lib.hid hg
  have hMk := Lib.hid (fun W => Mark_any sig W hg)
  have hne : ∀ W, (binOp .neq 23 (.agg (bvs sig).toArray) (.agg (bvs sig).toArray)).run Try.prog W = .ok (.bool false) W := fun W => by rw [neSig hg hg, decide_eq_true rfl]; rfl
  have h64 : Hid ((Try.prog.info? 23).map (·.size) = some (bvs sig).length) := by show _ = _; rw [bvs_len, hg]; exact sizeSig
  have L64 : Hid ((bvs sig).length = 64) := by show _ = _; rw [bvs_len, hg]
  have hum := unm_mark sig hg
  have hU1 : Hid (∀ (v : Value) (W : World), Own W w.heap.size 5 v (mhead ++ sig) → Calls Try.prog 16 #[v] W fun e w' => e = .returned (.tuple #[.agg (bvs sig).toArray, .int .i64 0]) ∧ Below W.heap.size W w') := fun v W h => by
    obtain ⟨a, n, c, rfl, hr⟩ := h.reads
    have := Unmark_any _ a n c W hr.toRd
    rw [hum.1, hum.2] at this
    exact this
  have hU2 := Lib.hid (fun W (h : Below w.heap.size w W) => Unmark_any b pa n c W (hr.to h))
  have hFl := unmF_len b
  have hF64 : Hid ((Try.prog.info? 23).map (·.size) = some (bvs (unmF b)).length) := by show _ = _; rw [bvs_len, hFl]; exact sizeSig
  have LF64 : Hid ((bvs (unmF b)).length = 64) := by show _ = _; rw [bvs_len, hFl]
  have HR := Lib.hid hr
  clear hr hum hg
  go_enter Try.func6, Try.ntmps6
  go_wp2_with (first
    | ((with_reducible show wpList _ _ _ (⟨some 2, .box _ _, _, _, _, _⟩ :: _) _ _); refine wl_box rfl 23 _ rfl (bvs sig) rfl ?_; intro w1 hA1 hb1 hs1)
    | ((with_reducible show wpList _ _ _ (⟨some 10, .load _ _, _, _, _, _⟩ :: _) _ _); refine wl_load rfl 23 _ rfl w.heap.size 0 rfl 23 (bvs sig) (bvs sig) hA1 (fun j v h => by rw [Nat.zero_add]; exact h) (.array 64 5) Try.underlying23 rfl h64.out ?_))
  refine (hMk.out _).mono ?_
  rintro e w2 ⟨v2, rfl, ho2, hb2⟩
  have hA2 := hA1.kept hb2
  have hb2w := hb1.trans (hb2.mono hb1.size)
  clear hA1 hb2
  go_wp2_with fail
  refine (hU1.out _ _ (ho2.mono hb1.size)).mono ?_
  rintro e w3 ⟨rfl, hb3⟩
  have hA3 := hA2.kept hb3
  have hb3w := hb2w.trans (hb3.mono hb2w.size)
  clear hA2 hb3 hb2w ho2 hb1
  go_upto_region 2 with (first
    | ((with_reducible show wpList _ _ _ (⟨some 5, .alloc _, _, _, _, _⟩ :: _) _ _); refine wl_alloc rfl 23 rfl (bvs (Z8 64)) 64 infoSig ?_; intro w4 hA4 hb4 hs4)
    | ((with_reducible show wpList _ _ _ (⟨none, .store _ _ _, _, _, _, _⟩ :: _) _ _); go_loud (refine wl_store rfl 23 _ _ rfl w3.heap.size 0 rfl (bvs sig) rfl 23 _ hA4 h64.out (by rw [L64.out]; exact (by decide : 0 + 64 ≤ (bvs (Z8 64)).length)) (bvs_one _) ?_); intro w5 hA5 hg5 hs5))
  rw [whole_store _ _ (by rw [L64.out]; rfl)] at hA5
  have hX5 : Arr w5 w.heap.size 23 (bvs sig) := (hA3.kept hb4).grown hg5 (by intro e; injection e with e; have := hA3.lt; omega)
  have hb5w : Below w.heap.size w w5 := (hb3w.trans (hb4.mono hb3w.size)).grown hg5 (by have := hb3w.size; omega) (by intro k e; injection e with e; have := hb3w.size; omega)
  clear hA3 hb4 hA4 hg5 hs5 hs4 hb3w
  obtain ⟨g5, hg5⟩ : ∃ g5, w3.heap.size = g5 := ⟨_, rfl⟩
  rw [hg5] at hA5 ⊢
  clear hg5
  go_upto_region 4 with (first
    | ((with_reducible show wpList _ _ _ (⟨some 18, .load _ _, _, _, _, _⟩ :: _) _ _); go_loud (refine wl_loadG rfl 23 _ rfl g5 0 rfl 23 (bvs sig) (bvs sig) hA5 (fun j v h => by rw [Nat.zero_add]; exact h) (.array 64 5) Try.underlying23 rfl h64.out ?_))
    | ((with_reducible show wpList _ _ _ (⟨some 19, .load _ _, _, _, _, _⟩ :: _) _ _); go_loud (refine wl_loadG rfl 23 _ rfl w.heap.size 0 rfl 23 (bvs sig) (bvs sig) hX5 (fun j v h => by rw [Nat.zero_add]; exact h) (.array 64 5) Try.underlying23 rfl h64.out ?_)))
  clear hA5 hX5 hne
  have hU := hU2.out w5 hb5w
  have HU := Lib.hid hU
  clear hU
  cases hB : unmB b with
  | false =>
    have e1 : unmF b = Z8 64 := by unfold unmF; rw [hB]; rfl
    have e2 : unmE b = 5 := by unfold unmE; rw [hB]; rfl
    rw [e1] at hF64 LF64
    rw [e1, e2] at HU
    clear e1 e2 hB hFl
    have heq : ∀ W, (binOp .eql 23 (.agg (bvs (Z8 64)).toArray) (.agg (bvs (Z8 64)).toArray)).run Try.prog W = .ok (.bool true) W := fun W => by rw [eqSig (by simp [Z8]) (by simp [Z8]), decide_eq_true rfl]
    obtain ⟨ZZ, hZZ⟩ : ∃ ZZ, ZZ = bvs (Z8 64) := ⟨_, rfl⟩
    have hbu := builtSig
    rw [← hZZ] at hF64 LF64 HU heq hbu
    have HBU := Lib.hid hbu
    have HZZ := Lib.hid hZZ
    have hon : ∀ v ∈ ZZ, v.oneCell' = true := by rw [hZZ]; exact bvs_one _
    clear hbu hZZ
    go_upto_region 6 with (first
      | (go_at_call 16; go_loud (refine (HU.out).mono ?_); rintro e w6 ⟨rfl, hb6⟩)
      | ((with_reducible show wpList _ _ _ (⟨some 7, .alloc _, _, _, _, _⟩ :: _) _ _); refine wl_alloc rfl 23 rfl (bvs (Z8 64)) 64 infoSig ?_; intro w7 hA7 hb7 hs7; rw [← HZZ.out] at hA7)
      | ((with_reducible show wpList _ _ _ (⟨none, .store _ _ _, _, _, _, _⟩ :: _) _ _); go_loud (refine wl_store rfl 23 _ _ rfl w6.heap.size 0 rfl ZZ rfl 23 _ hA7 hF64.out (by omega) hon ?_); intro w8 hA8 hg8 hs8))
    rw [whole_store _ _ rfl] at hA8
    have hb8w : Below w.heap.size w w8 := ((hb5w.trans (hb6.mono hb5w.size)).trans (hb7.mono (by have := hb5w.size; have := hb6.size; omega))).grown hg8 (by have := hb5w.size; have := hb6.size; have := hb7.size; omega) (by intro k e; injection e with e; have := hb5w.size; have := hb6.size; omega)
    obtain ⟨g7, hg7⟩ : ∃ g7, w6.heap.size = g7 := ⟨_, rfl⟩
    rw [hg7] at hA8 ⊢
    clear hb6 hb7 hg8 hA7 hs7 hs8 hg7 hon
    go_wp2_with (first
      | ((with_reducible show wpList _ _ _ (⟨some 32, .load _ _, _, _, _, _⟩ :: _) _ _); go_loud (refine wl_loadG rfl 23 _ rfl g7 0 rfl 23 ZZ ZZ hA8 (fun j v h => by rw [Nat.zero_add]; exact h) (.array 64 5) Try.underlying23 rfl hF64.out ?_))
      | ((with_reducible show wpList _ _ _ (⟨some 33, .build _ _, _, _, _, _⟩ :: _) _ _); go_loud (refine wl_buildG rfl 23 #[] rfl ZZ.toArray (by rw [Array.map_empty]; exact HBU.out) ?_)))
    refine (wakes_any _).mono ?_
    rintro e w9 ⟨rfl, hb9⟩
    go_wp2_with fail
    go_ret
    exact ⟨rfl, hb8w.trans (hb9.mono hb8w.size)⟩
  | true =>
    have e2 : unmE b = 0 := by unfold unmE; rw [hB]; rfl
    have e3 := mark_unm b hB
    have hM2 : Hid (∀ W, Calls Try.prog 18 #[.agg (bvs (unmF b)).toArray] W fun e w' => ∃ v, e = .returned v ∧ Own w' W.heap.size 5 v b ∧ Below W.heap.size W w') := fun W => by
      have := Mark_any (unmF b) W hFl
      rw [e3] at this
      exact this
    rw [e2] at HU
    clear e2 e3 hB hFl
    have hon : Hid (∀ v ∈ bvs (unmF b), v.oneCell' = true) := bvs_one _
    generalize bvs (unmF b) = S at *
    go_upto_region 7 with (first
      | (go_at_call 16; go_loud (refine (HU.out).mono ?_); rintro e w6 ⟨rfl, hb6⟩)
      | ((with_reducible show wpList _ _ _ (⟨some 7, .alloc _, _, _, _, _⟩ :: _) _ _); refine wl_alloc rfl 23 rfl (bvs (Z8 64)) 64 infoSig ?_; intro w7 hA7 hb7 hs7)
      | ((with_reducible show wpList _ _ _ (⟨none, .store _ _ _, _, _, _, _⟩ :: _) _ _); go_loud (refine wl_store rfl 23 _ _ rfl w6.heap.size 0 rfl S rfl 23 _ hA7 hF64.out (by rw [LF64.out]; exact (by decide : 0 + 64 ≤ (bvs (Z8 64)).length)) hon.out ?_); intro w8 hA8 hg8 hs8))
    rw [whole_store _ _ (by rw [LF64.out]; rfl)] at hA8
    have hb8w : Below w.heap.size w w8 := ((hb5w.trans (hb6.mono hb5w.size)).trans (hb7.mono (by have := hb5w.size; have := hb6.size; omega))).grown hg8 (by have := hb5w.size; have := hb6.size; have := hb7.size; omega) (by intro k e; injection e with e; have := hb5w.size; have := hb6.size; omega)
    obtain ⟨g7, hg7⟩ : ∃ g7, w6.heap.size = g7 := ⟨_, rfl⟩
    have hr8 := HR.out.to hb8w
    have hwg : w.heap.size ≤ w8.heap.size := hb8w.size
    rw [hg7] at hA8 ⊢
    clear hb6 hb7 hg8 hA7 hs7 hs8 hg7
    refine wp_region_steps [[], [0], [1], [], [3], [2, 4], [5], [6], [6, 7], [8]] (by kernel_rfl) (by kernel_rfl) (fun L a wx => ∃ v39 v40 v41 v42 v43 v44 v45 v46 v47 v4, a = ⟨#[.agg (bvs sig).toArray, .slice pa n c, .pointer (some ⟨w.heap.size, 0, none⟩), undef, v4, .pointer (some ⟨g5, 0, none⟩), .int .i64 0, .pointer (some ⟨g7, 0, none⟩), .int .i64 0, .tuple #[.agg (bvs sig).toArray, .int .i64 0], .agg (bvs sig).toArray, v2, .tuple #[.agg (bvs sig).toArray, .int .i64 0], .agg (bvs sig).toArray, .int .i64 0, .int .i64 0, .bool false, .bool false, .agg (bvs sig).toArray, .agg (bvs sig).toArray, .bool false, .bool false, .tuple #[.agg S.toArray, .int .i64 0], .slice pa n c, .tuple #[.agg S.toArray, .int .i64 0], .agg S.toArray, .int .i64 0, .int .i64 0, .bool false, undef, undef, undef, undef, undef, undef, undef, undef, undef, undef, v39, v40, v41, v42, v43, v44, v45, v46, v47], []⟩ ∧ InvBk S b g7 n c pa w8 L v39 v40 v41 v42 v43 v44 v45 v46 v47 v4 wx) ?_ ⟨?_, ?_, ?_, ?_, ?_, ?_, ?_, ?_, ?_, ?_, trivial⟩ ?_
    · refine ⟨_, _, _, _, _, _, _, _, _, _, rfl, ⟨?_, ?_, ?_, ?_, ?_, ?_, ?_, ?_, ?_, ?_, hA8.drew, rd_drew hr8, (Below.refl _ _).drew⟩⟩ <;> (intro h; exact absurd h (by decide))
    · rintro L a wx ⟨v39, v40, v41, v42, v43, v44, v45, v46, v47, v4, rfl, hI⟩ hL hdep hcl K hK
      refine ow_load 23 _ rfl g7 0 rfl 23 S S hI.ar (fun j v h => by rw [Nat.zero_add]; exact h) (.array 64 5) Try.underlying23 rfl hF64.out ?_
      exact hK _ _ ⟨_, v40, v41, v42, v43, v44, v45, v46, v47, v4, rfl, ⟨fun _ => rfl, hI.t1, hI.t2, hI.t3, hI.t4, hI.t5, hI.t6, hI.t7, hI.t8, hI.t9, hI.ar, hI.rb, hI.bw⟩⟩
    · rintro L a wx ⟨v39, v40, v41, v42, v43, v44, v45, v46, v47, v4, rfl, hI⟩ hL hdep hcl K hK
      obtain rfl := hI.t0 (hdep 0 (by decide))
      go_simp
      refine (hM2.out wx).mono ?_
      rintro e w' ⟨v, rfl, ho, hb⟩
      exact hK _ _ ⟨_, _, v41, v42, v43, v44, v45, v46, v47, v4, rfl, ⟨hI.t0, fun _ => ho.mono hI.bw.size, hI.t2, hI.t3, hI.t4, hI.t5, hI.t6, hI.t7, hI.t8, hI.t9, (hI.ar).kept hb, (hI.rb).to hb, (hI.bw).trans (hb.mono (hI.bw).size)⟩⟩
    · rintro L a wx ⟨v39, v40, v41, v42, v43, v44, v45, v46, v47, v4, rfl, hI⟩ hL hdep hcl K hK
      obtain ⟨a1, n1, c1, rfl, hr1⟩ := (hI.t1 (hdep 1 (by decide))).reads
      have hst := run_bstr bt Try.underlying9 hr1.toRd
      go_simp
      exact hK _ _ ⟨v39, _, _, v42, v43, v44, v45, v46, v47, v4, rfl, ⟨hI.t0, hI.t1, fun _ => rfl, hI.t3, hI.t4, hI.t5, hI.t6, hI.t7, hI.t8, hI.t9, hI.ar, hI.rb, hI.bw⟩⟩
    · rintro L a wx ⟨v39, v40, v41, v42, v43, v44, v45, v46, v47, v4, rfl, hI⟩ hL hdep hcl K hK
      go_simp
      exact hK _ _ ⟨v39, v40, v41, _, v43, v44, v45, v46, v47, v4, rfl, ⟨hI.t0, hI.t1, hI.t2, fun _ => rfl, hI.t4, hI.t5, hI.t6, hI.t7, hI.t8, hI.t9, hI.ar, hI.rb, hI.bw⟩⟩
    · rintro L a wx ⟨v39, v40, v41, v42, v43, v44, v45, v46, v47, v4, rfl, hI⟩ hL hdep hcl K hK
      obtain rfl := hI.t3 (hdep 3 (by decide))
      have hst := run_bstr bt Try.underlying9 hI.rb
      go_simp
      exact hK _ _ ⟨v39, v40, v41, _, _, v44, v45, v46, v47, v4, rfl, ⟨hI.t0, hI.t1, hI.t2, hI.t3, fun _ => rfl, hI.t5, hI.t6, hI.t7, hI.t8, hI.t9, hI.ar, hI.rb, hI.bw⟩⟩
    · rintro L a wx ⟨v39, v40, v41, v42, v43, v44, v45, v46, v47, v4, rfl, hI⟩ hL hdep hcl K hK
      obtain rfl := hI.t2 (hdep 2 (by decide))
      obtain rfl := hI.t4 (hdep 4 (by decide))
      go_simp
      exact hK _ _ ⟨v39, v40, _, v42, _, _, v45, v46, v47, v4, rfl, ⟨hI.t0, hI.t1, hI.t2, hI.t3, hI.t4, fun _ => rfl, hI.t6, hI.t7, hI.t8, hI.t9, hI.ar, hI.rb, hI.bw⟩⟩
    · rintro L a wx ⟨v39, v40, v41, v42, v43, v44, v45, v46, v47, v4, rfl, hI⟩ hL hdep hcl K hK
      obtain rfl := hI.t5 (hdep 5 (by decide))
      go_simp
      exact hK _ _ ⟨v39, v40, v41, v42, v43, _, _, v46, v47, v4, rfl, ⟨hI.t0, hI.t1, hI.t2, hI.t3, hI.t4, hI.t5, fun _ => rfl, hI.t7, hI.t8, hI.t9, hI.ar, hI.rb, hI.bw⟩⟩
    · rintro L a wx ⟨v39, v40, v41, v42, v43, v44, v45, v46, v47, v4, rfl, hI⟩ hL hdep hcl K hK
      obtain rfl := hI.t6 (hdep 6 (by decide))
      refine (if_pos rfl).mpr ?_
      go_simp
      refine (wakes_any wx).mono ?_
      rintro e w' ⟨rfl, hb⟩
      exact hK _ _ ⟨v39, v40, v41, v42, v43, v44, _, _, v47, v4, rfl, ⟨hI.t0, fun h => (hI.t1 h).to hb, hI.t2, hI.t3, hI.t4, hI.t5, hI.t6, fun _ => rfl, hI.t8, hI.t9, (hI.ar).kept hb, (hI.rb).to hb, (hI.bw).trans (hb.mono (hI.bw).size)⟩⟩
    · rintro L a wx ⟨v39, v40, v41, v42, v43, v44, v45, v46, v47, v4, rfl, hI⟩ hL hdep hcl K hK
      obtain rfl := hI.t6 (hdep 6 (by decide))
      obtain rfl := hI.t7 (hdep 7 (by decide))
      go_simp
      exact hK _ _ ⟨v39, v40, v41, v42, v43, v44, _, _, _, v4, rfl, ⟨hI.t0, hI.t1, hI.t2, hI.t3, hI.t4, hI.t5, hI.t6, hI.t7, fun _ => rfl, hI.t9, hI.ar, hI.rb, hI.bw⟩⟩
    · rintro L a wx ⟨v39, v40, v41, v42, v43, v44, v45, v46, v47, v4, rfl, hI⟩ hL hdep hcl K hK
      obtain rfl := hI.t8 (hdep 8 (by decide))
      go_simp
      exact hK _ _ ⟨v39, v40, v41, v42, v43, v44, v45, v46, _, _, rfl, ⟨hI.t0, hI.t1, hI.t2, hI.t3, hI.t4, hI.t5, hI.t6, hI.t7, hI.t8, fun _ => rfl, hI.ar, hI.rb, hI.bw⟩⟩
    · rintro a wx ⟨v39, v40, v41, v42, v43, v44, v45, v46, v47, v4, rfl, hI⟩
      obtain rfl := hI.t9 rfl
      have hbz := hI.bw
      clear hI
      go_wp2
      go_ret
      exact ⟨rfl, hb8w.trans (hbz.mono hwg)⟩
end Go.Proofs.Ytebegdifnkifgaa
