/-
  InclOnce as a call. Conditions: those in each statement.
-/
import Derived.Test.YtbmhobbeimhodaaIpT
namespace Go.Proofs.Ytbmhobbeimhodaa
open Go.RowKit

theorem run_guardNe (x y : Operand) (A B : Array Value) (w : World) : (eqGuard .neq 41 x y (.agg A) (.agg B)).run Try.prog w = .ok () w := by
  unfold eqGuard
  simp
section
variable {o : Oper} {a : Act} {K : Act → World → Prop} {Q : Exit → Act → World → Prop} {w : World} {ops : Array Oper} {rest : List Oper}
theorem wl_eqV (hw : Region.wanted o (yielded ops a.tmps) = true) (x y : Operand) (r : TypeId) (ho : o.op = .binOp .eql 41 x y r) (xs ys : List UInt8) (b : Bool) (hb : decide (xs = ys) = b) (hl : xs.length = 32) (hm : ys.length = 32) (hx : a.eval x = .agg (bvs xs).toArray) (hy : a.eval y = .agg (bvs ys).toArray)
    (hK : wpList Try.prog ops Q rest (a.put o.dst (.bool b)) w) : wpList Try.prog ops Q (o :: rest) a w :=
  wl_eqD hw x y r ho xs ys hl hm hx hy (by rw [hb]; exact hK)
theorem wl_neV (hw : Region.wanted o (yielded ops a.tmps) = true) (x y : Operand) (r : TypeId) (ho : o.op = .binOp .neq 41 x y r) (xs ys : List UInt8) (b : Bool) (hb : (!decide (xs = ys)) = b) (hl : xs.length = 32) (hm : ys.length = 32) (hx : a.eval x = .agg (bvs xs).toArray) (hy : a.eval y = .agg (bvs ys).toArray)
    (hK : wpList Try.prog ops Q rest (a.put o.dst (.bool b)) w) : wpList Try.prog ops Q (o :: rest) a w :=
  wpList_step fun _ hK' => by
    rw [if_pos hw]
    have h := neD hl hm w
    rw [hb] at h
    unfold Oper.wp execOp
    simp only [ho, hx, hy, Sem.run_bind, Sem.run_pure, run_guardNe, h, Result.andThen_ok]
    exact hK' _ _ hK
end
/-- what two hashes come to, step by step -/
def upF (i : Nat) (L : List (Nat × Nat)) (P : List (List UInt8)) (d : List UInt8) (k : Nat) : List UInt8 := ((L.zip P).take k).foldl (stepU i) d
theorem upF_next (i : Nat) (L : List (Nat × Nat)) (P : List (List UInt8)) (d : List UInt8) (k : Nat) (h1 : k < L.length) (h2 : k < P.length) : upF i L P d (k + 1) = stepU i (upF i L P d k) (L[k], P.getD k []) := fold_next i L P d k h1 h2
theorem upF_all (i : Nat) (L : List (Nat × Nat)) (P : List (List UInt8)) (d : List UInt8) (k : Nat) (h1 : L.length = k) (h2 : P.length = k) : upF i L P d k = (L.zip P).foldl (stepU i) d := by
  unfold upF
  rw [List.take_of_length_le (by rw [List.length_zip]; omega)]
theorem kb_trans {S : Nat → Prop} {a b c : World} (h1 : KB S a b) (h2 : KB S b c) : KB S a c :=
  ⟨h2.os.trans h1.os, h2.tape.trans h1.tape, h2.output.trans h1.output, Nat.le_trans h1.size h2.size, fun k hk hn => (h2.block k (Nat.lt_of_lt_of_le hk h1.size) hn).trans (h1.block k hk hn)⟩
/-- what is turned is new -/
theorem kb_free {S Z : Nat → Prop} {a b c : World} (h1 : KB S a b) (h2 : KB Z b c) (hz : ∀ k, Z k → a.heap.size ≤ k) : KB S a c :=
  ⟨h2.os.trans h1.os, h2.tape.trans h1.tape, h2.output.trans h1.output, Nat.le_trans h1.size h2.size, fun k hk hn => (h2.block k (Nat.lt_of_lt_of_le hk h1.size) (fun e => by have := hz k e; omega)).trans (h1.block k hk hn)⟩
structure InvOnceA (A B y N1 N2 : List UInt8) (i s k n g3 g4 g5 g14 pb po c : Nat) (W0 : World) (L : Nat → Bool) (v : Nat → Value) (wx : World) : Prop where
  t0 : L 0 = true → (v 76) = .agg (bvs A).toArray
  t1 : L 1 = true → (v 77) = .pointer (some ⟨g5, 34, none⟩)
  t2 : L 2 = true → (v 78) = .slice (some ⟨pb, po, none⟩) n c
  t3 : L 3 = true → (v 79) = .int .i64 ↑k
  t4 : L 4 = true → (v 80) = .pointer (some ⟨pb, po + k * 32, none⟩)
  t5 : L 5 = true → (v 81) = .agg (bvs y).toArray
  t6 : L 6 = true → (v 82) = .agg (bvs N1).toArray
  t7 : L 7 = true → (v 83) = .agg (bvs B).toArray
  t8 : L 8 = true → (v 84) = .pointer (some ⟨g5, 34, none⟩)
  t9 : L 9 = true → (v 85) = .slice (some ⟨pb, po, none⟩) n c
  t10 : L 10 = true → (v 86) = .int .i64 ↑k
  t11 : L 11 = true → (v 87) = .pointer (some ⟨pb, po + k * 32, none⟩)
  t12 : L 12 = true → (v 88) = .agg (bvs y).toArray
  t13 : L 13 = true → (v 89) = .agg (bvs N2).toArray
  t14 : L 14 = true → ∃ g, (v 15) = .pointer (some ⟨g, 0, none⟩) ∧ Arr wx g 41 (bvs (if L 16 then N1 else Z8 32)) ∧ W0.heap.size ≤ g
  t15 : L 15 = true → ∃ g, (v 16) = .pointer (some ⟨g, 0, none⟩) ∧ Arr wx g 41 (bvs (if L 17 then N2 else Z8 32)) ∧ W0.heap.size ≤ g
  bw : Below W0.heap.size W0 wx
  ne : L 14 = true → L 15 = true → (v 15) ≠ (v 16)
structure InvOnceB (A B y N1 N2 M1 M2 : List UInt8) (i k n g3 g4 g5 g15 g16 pb po c : Nat) (W0 : World) (L : Nat → Bool) (v : Nat → Value) (wx : World) : Prop where
  t0 : L 0 = true → (v 95) = .pointer (some ⟨g5, 34, none⟩)
  t1 : L 1 = true → (v 96) = .slice (some ⟨pb, po, none⟩) n c
  t2 : L 2 = true → (v 97) = .int .i64 ↑k
  t3 : L 3 = true → (v 98) = .pointer (some ⟨pb, po + k * 32, none⟩)
  t4 : L 4 = true → (v 99) = .agg (bvs y).toArray
  t5 : L 5 = true → (v 100) = .agg (bvs A).toArray
  t6 : L 6 = true → (v 101) = .agg (bvs M1).toArray
  t7 : L 7 = true → (v 102) = .pointer (some ⟨g5, 34, none⟩)
  t8 : L 8 = true → (v 103) = .slice (some ⟨pb, po, none⟩) n c
  t9 : L 9 = true → (v 104) = .int .i64 ↑k
  t10 : L 10 = true → (v 105) = .pointer (some ⟨pb, po + k * 32, none⟩)
  t11 : L 11 = true → (v 106) = .agg (bvs y).toArray
  t12 : L 12 = true → (v 107) = .agg (bvs B).toArray
  t13 : L 13 = true → (v 108) = .agg (bvs M2).toArray
  a15 : Arr wx g15 41 (bvs (if L 14 then M1 else N1))
  a16 : Arr wx g16 41 (bvs (if L 15 then M2 else N2))
  kb : KB (fun q => q = g15 ∨ q = g16) W0 wx
structure InvOnce16H (A B N1 N2 : List UInt8) (g3 g4 g15 g16 : Nat) (W0 : World) (L : Nat → Bool) (v112 v113 : Value) (wx : World) : Prop where
  t0 : L 0 = true → v112 = .agg (bvs N1).toArray
  t1 : L 1 = true → v113 = .agg (bvs N2).toArray
  a3 : Arr wx g3 41 (bvs (if L 2 then N1 else A))
  a4 : Arr wx g4 41 (bvs (if L 3 then N2 else B))
  kb : KB (fun q => q = g3 ∨ q = g4) W0 wx
structure InvOnce16L (A B M1 M2 : List UInt8) (g3 g4 g15 g16 : Nat) (W0 : World) (L : Nat → Bool) (v112 v113 : Value) (wx : World) : Prop where
  t0 : L 0 = true → v112 = .agg (bvs M1).toArray
  t1 : L 1 = true → v113 = .agg (bvs M2).toArray
  a3 : Arr wx g3 41 (bvs (if L 2 then M1 else A))
  a4 : Arr wx g4 41 (bvs (if L 3 then M2 else B))
  kb : KB (fun q => q = g3 ∨ q = g4) W0 wx
set_option maxRecDepth 100000 in
set_option maxHeartbeats 12800000 in
theorem LOnce_any (da db : List UInt8) (x : ToldR) (w : World) (hda : da.length = 32) (hdb : db.length = 32) (ht : x.d.length = 32 ∧ x.r.length = 32 ∧ RdD w x.a x.L.length x.c x.L ∧ x.L.length ≤ 2 ^ 42) :
    Calls Try.prog 8 #[.agg (bvs da).toArray, .agg (bvs db).toArray, .agg (encT x).toArray] w fun e w' => e = .returned (.bool true) ∧ Below w.heap.size w w' := by
  obtain ⟨hd, hrl, hL, hn⟩ := ht
  have HW := Lib.hid (fun w => awake_any w)
  have HTA := Lib.hid (fun (wx : World) (g : Nat) (h : Arr wx g 43 (encT x)) => tld_at h hd)
  obtain ⟨d, i, s, al, c, P, r⟩ := x
  simp only at hd hrl hL hn
  obtain ⟨n, hnl⟩ : ∃ n, n = P.length := ⟨_, rfl⟩
  rw [← hnl] at hL hn
  have hHa := Lib.hid (fun wx a c (h : RdD wx a n c P) => Head_any da i s a n c P wx hda h (by omega))
  have hHb := Lib.hid (fun wx a c (h : RdD wx a n c P) => Head_any db i s a n c P wx hdb h (by omega))
  have hla := hdV_len hda i s P
  have hlb := hdV_len hdb i s P
  have hRg := Lib.hid (fun w => Ranges_any i s w)
  have HFO : Hid (okH i s n = true → rE i s = 0 ∧ (rL i s).length = n ∧ hdV da i s P = upF i (rL i s) P da n ∧ hdV db i s P = upF i (rL i s) P db n) := fun hok => by
    obtain ⟨hr, hrn, hrl⟩ := okH_yes hok
    have fa := head_fold s s i 0 da P (Nat.le_refl _) (okR_yes hr).2 (by rw [← hnl, hrn])
    have fb := head_fold s s i 0 db P (Nat.le_refl _) (okR_yes hr).2 (by rw [← hnl, hrn])
    rw [Nat.zero_add] at fa fb
    refine ⟨by simp only [rE, hr]; rfl, by rw [hrl]; exact hrn, ?_, ?_⟩
    · rw [upF_all i (rL i s) P da n (by rw [hrl]; exact hrn) hnl.symm, hrl, ← fa]
      unfold hdV; rw [← hnl, hok]; rfl
    · rw [upF_all i (rL i s) P db n (by rw [hrl]; exact hrn) hnl.symm, hrl, ← fb]
      unfold hdV; rw [← hnl, hok]; rfl
  have hlen := rL_few i s
  obtain ⟨Va, hVa⟩ : ∃ V, V = hdV da i s P := ⟨_, rfl⟩
  obtain ⟨Vb, hVb⟩ : ∃ V, V = hdV db i s P := ⟨_, rfl⟩
  obtain ⟨E, hE⟩ : ∃ E, E = hdE i s n := ⟨_, rfl⟩
  rw [← hVa, ← hE] at hHa
  rw [← hVb, ← hE] at hHb
  rw [← hVa, ← hVb] at HFO
  rw [← hVa] at hla
  rw [← hVb] at hlb
  have HEC : Hid (E = 1 ∨ (E = 0 ∧ rE i s = 0 ∧ (rL i s).length = n ∧ Va = upF i (rL i s) P da n ∧ Vb = upF i (rL i s) P db n)) := by
    show _ ∨ _
    cases hok : okH i s n with
    | false => left; rw [hE]; unfold hdE; rw [hok]; rfl
    | true => right; exact ⟨by rw [hE]; unfold hdE; rw [hok]; rfl, HFO.out hok⟩
  have HEN : Hid (∀ g (wx : World), Arr wx g 43 (encT ⟨d, i, s, al, c, P, r⟩) → wx.cell? ⟨g, 32, none⟩ = some (.int .u64 (i : Int)) ∧ wx.cell? ⟨g, 33, none⟩ = some (.int .u64 (s : Int)) ∧ wx.cell? ⟨g, 34, none⟩ = some (.slice al n c)) := fun g wx h => by
    have h := HTA.out wx g h
    exact ⟨h.ci, h.cs, by rw [hnl]; exact h.cl⟩
  generalize rE i s = RE at *
  generalize rL i s = L at *
  have HR : Hid (∀ wx, Below w.heap.size w wx → RdD wx al n c P) := fun wx hb => hL.to hb
  have IA : Hid ((Try.prog.info? 41).map (·.size) = some (bvs da).length) := by show _ = _; rw [bvs_len, hda]; exact sizeD
  have IB : Hid ((Try.prog.info? 41).map (·.size) = some (bvs db).length) := by show _ = _; rw [bvs_len, hdb]; exact sizeD
  have IVA : Hid ((Try.prog.info? 41).map (·.size) = some (bvs Va).length) := by show _ = _; rw [bvs_len, hla]; exact sizeD
  have IVB : Hid ((Try.prog.info? 41).map (·.size) = some (bvs Vb).length) := by show _ = _; rw [bvs_len, hlb]; exact sizeD
  have LVA : Hid ((bvs Va).length = 32) := by show _ = _; rw [bvs_len]; exact hla
  have LVB : Hid ((bvs Vb).length = 32) := by show _ = _; rw [bvs_len]; exact hlb
  have HLA := Lib.hid hda
  have HLB := Lib.hid hdb
  have HLVA := Lib.hid hla
  have HLVB := Lib.hid hlb
  have HNL := Lib.hid hnl
  have HN := Lib.hid hn
  have HLEN := Lib.hid hlen
  clear hVa hVb hE HTA hda hdb hla hlb HFO hnl hn hlen hd hrl hL
  generalize encT ⟨d, i, s, al, c, P, r⟩ = X at *
  go_enter Try.func8, Try.ntmps8
  go_upto_region 3 with (first
    | ((with_reducible show wpList _ _ _ (⟨some 3, .box _ _, _, _, _, _⟩ :: _) _ _); refine wl_box rfl 41 _ rfl (bvs da) rfl ?_; intro w1 hA1 hb1 hs1)
    | ((with_reducible show wpList _ _ _ (⟨some 4, .box _ _, _, _, _, _⟩ :: _) _ _); refine wl_box rfl 41 _ rfl (bvs db) rfl ?_; intro w2 hA2 hb2 hs2)
    | ((with_reducible show wpList _ _ _ (⟨some 5, .box _ _, _, _, _, _⟩ :: _) _ _); refine wl_box rfl 43 _ rfl X rfl ?_; intro w3 hA3 hb3 hs3; obtain ⟨k31, k32, k33⟩ := HEN.out _ _ hA3; have b03 : Below w.heap.size w w3 := (hb1.trans (hb2.mono hb1.size)).trans (hb3.mono (by have := hb1.size; have := hb2.size; omega)))
    | ((with_reducible show wpList _ _ _ (⟨some 18, .load _ _, _, _, _, _⟩ :: _) _ _); refine wl_load rfl 41 _ rfl w.heap.size 0 rfl 41 (bvs da) (bvs da) ((hA1.kept hb2).kept hb3) (fun j v h => (by rw [Nat.zero_add]; exact h)) (.array 32 5) Try.underlying41 rfl IA.out ?_)
    | (go_at_call 17; with_reducible refine (hHa.out _ _ _ (HR.out w3 b03)).mono ?_; rintro e w4 ⟨rfl, hb4⟩)
    | ((with_reducible show wpList _ _ _ (⟨some 7, .alloc _, _, _, _, _⟩ :: _) _ _); refine wl_alloc rfl 41 rfl (bvs (Z8 32)) 32 infoD ?_; intro w5 hA5 hb5 hs5)
    | ((with_reducible show wpList _ _ _ (⟨none, .store _ (.tmp 7) _, _, _, _, _⟩ :: _) _ _); refine wl_store rfl 41 _ _ rfl w4.heap.size 0 rfl (bvs Va) rfl 41 _ hA5 IVA.out (by rw [LVA.out]; exact (by decide : 0 + 32 ≤ (bvs (Z8 32)).length)) (bvs_one _) ?_; intro w6 hA6 hg6 hs6; rw [whole_store _ _ (by rw [LVA.out]; rfl)] at hA6; have b36 : Below w3.heap.size w3 w6 := (hb4.trans (hb5.mono hb4.size)).grown hg6 (by have := hb4.size; have := hb5.size; omega) (by intro k e; injection e with e; have := hb4.size; omega); have b06 : Below w.heap.size w w6 := b03.trans (b36.mono b03.size); obtain ⟨k61, k62, k63⟩ := HEN.out _ _ (hA3.kept b36))
    | ((with_reducible show wpList _ _ _ (⟨some 29, .load _ _, _, _, _, _⟩ :: _) _ _); refine wl_load rfl 41 _ rfl w1.heap.size 0 rfl 41 (bvs db) (bvs db) ((hA2.kept hb3).kept b36) (fun j v h => (by rw [Nat.zero_add]; exact h)) (.array 32 5) Try.underlying41 rfl IB.out ?_)
    | (go_at_call 17; with_reducible refine (hHb.out _ _ _ (HR.out w6 b06)).mono ?_; rintro e w7 ⟨rfl, hb7⟩)
    | ((with_reducible show wpList _ _ _ (⟨some 9, .alloc _, _, _, _, _⟩ :: _) _ _); refine wl_alloc rfl 41 rfl (bvs (Z8 32)) 32 infoD ?_; intro w8 hA8 hb8 hs8)
    | ((with_reducible show wpList _ _ _ (⟨none, .store _ (.tmp 9) _, _, _, _, _⟩ :: _) _ _); refine wl_store rfl 41 _ _ rfl w7.heap.size 0 rfl (bvs Vb) rfl 41 _ hA8 IVB.out (by rw [LVB.out]; exact (by decide : 0 + 32 ≤ (bvs (Z8 32)).length)) (bvs_one _) ?_; intro w9 hA9 hg9 hs9; rw [whole_store _ _ (by rw [LVB.out]; rfl)] at hA9; have b69 : Below w6.heap.size w6 w9 := (hb7.trans (hb8.mono hb7.size)).grown hg9 (by have := hb7.size; have := hb8.size; omega) (by intro k e; injection e with e; have := hb7.size; omega)))
  have b39 : Below w3.heap.size w3 w9 := b36.trans (b69.mono b36.size)
  have b09 : Below w.heap.size w w9 := b03.trans (b39.mono b03.size)
  have A3 := ((hA1.kept hb2).kept hb3).kept b39
  have A4 := (hA2.kept hb3).kept b39
  have A5 := hA3.kept b39
  have A7 := hA6.kept b69
  have z0 := hb1.size
  have z1 := hb2.size
  have z3 := hb3.size
  have l3 := A3.lt
  have l4 := A4.lt
  have l5 := A5.lt
  have h34 : w.heap.size ≠ w1.heap.size := by omega
  have h35 : w.heap.size ≠ w2.heap.size := by omega
  have h45 : w1.heap.size ≠ w2.heap.size := by omega
  obtain ⟨g3, hg3⟩ : ∃ g, g = w.heap.size := ⟨_, rfl⟩
  obtain ⟨g4, hg4⟩ : ∃ g, g = w1.heap.size := ⟨_, rfl⟩
  obtain ⟨g5, hg5⟩ : ∃ g, g = w2.heap.size := ⟨_, rfl⟩
  obtain ⟨g7, hg7⟩ : ∃ g, g = w4.heap.size := ⟨_, rfl⟩
  obtain ⟨g9, hg9'⟩ : ∃ g, g = w7.heap.size := ⟨_, rfl⟩
  have hbs : w.heap.size ≤ g3 ∧ w.heap.size ≤ g4 ∧ w.heap.size ≤ g5 := by omega
  go_simp
  rw [← hg3, ← hg4, ← hg5, ← hg7, ← hg9']
  rw [← hg3] at A3 l3 h34 h35
  rw [← hg4] at A4 l4 h34 h45
  rw [← hg5] at A5 l5 h35 h45
  rw [← hg7] at A7
  rw [← hg9'] at hA9
  obtain ⟨k91, k92, k93⟩ := HEN.out _ _ A5
  have HX5 : Hid (∀ wx, Below w9.heap.size w9 wx → Arr wx g5 43 X) := fun wx hb => A5.kept hb
  have B09 := Lib.hid b09
  have HL3 : Hid (g3 < w9.heap.size ∧ g4 < w9.heap.size) := ⟨l3, l4⟩
  have HBS := Lib.hid hbs
  have H34 := Lib.hid h34
  have H35 := Lib.hid h35
  have H45 := Lib.hid h45
  have HR9 := Lib.hid (HR.out w9 b09)
  have HPB : Hid (∀ ad, al = some ad → 0 < n → ad.block < w.heap.size) := fun ad e h0 => by
    obtain ⟨b, off, e2, hlt, -⟩ := (HR.out w (Below.refl _ _)).mem h0
    rw [e] at e2
    injection e2 with e2
    rw [e2]
    exact hlt
  clear hA1 hb1 hs1 hA2 hb2 hs2 hA3 hb3 hs3 k31 k32 k33 b03 hb4 hA5 hb5 hs5 hA6 hg6 hs6 b36 b06 k61 k62 k63 hb7 hA8 hb8 hs8 hg9 hs9 b69 b39 b09 z0 z1 z3 hg3 hg4 hg5 hg7 hg9' hHa hHb HR hbs h34 h35 h45 A5 l3 l4 l5
  rcases HEC.out with rfl | ⟨rfl, hRE, hLn, hva, hvb⟩
  · go_wp2_with (go_at_call 12; refine (HW.out _).mono ?_; rintro e w10 ⟨rfl, hb10⟩)
    go_ret
    exact ⟨rfl, B09.out.trans (hb10.mono B09.out.size)⟩
  · have hE1 : (Value.int IntKind.i64 0) = Value.int IntKind.i64 0 := rfl
    clear hE1
    by_cases hab : da = db
    · have hdab : decide (da = db) = true := decide_eq_true hab
      have HDAB := Lib.hid hdab
      clear hab hdab hva hvb
      go_wp2_with (first
        | ((with_reducible show wpList _ _ _ (⟨some 47, .load _ _, _, _, _, _⟩ :: _) _ _); refine wl_loadG rfl 41 _ rfl g3 0 rfl 41 (bvs da) (bvs da) A3 (fun j v h => (by rw [Nat.zero_add]; exact h)) (.array 32 5) Try.underlying41 rfl IA.out ?_)
        | ((with_reducible show wpList _ _ _ (⟨some 48, .load _ _, _, _, _, _⟩ :: _) _ _); refine wl_loadG rfl 41 _ rfl g4 0 rfl 41 (bvs db) (bvs db) A4 (fun j v h => (by rw [Nat.zero_add]; exact h)) (.array 32 5) Try.underlying41 rfl IB.out ?_)
        | ((with_reducible show wpList _ _ _ (⟨some 49, .binOp _ _ _ _ _, _, _, _, _⟩ :: _) _ _); refine wl_eqV rfl _ _ _ rfl da db true HDAB.out HLA.out HLB.out rfl rfl ?_)
        | (go_at_call 12; refine (HW.out _).mono ?_; rintro e w10 ⟨rfl, hb10⟩))
      go_ret
      exact ⟨rfl, B09.out.trans (hb10.mono B09.out.size)⟩
    · have hdab : decide (da = db) = false := decide_eq_false hab
      have HDAB := Lib.hid hdab
      have HAB := Lib.hid hab
      clear hdab hab
      go_upto_region 5 with (first
        | ((with_reducible show wpList _ _ _ (⟨some 47, .load _ _, _, _, _, _⟩ :: _) _ _); refine wl_loadG rfl 41 _ rfl g3 0 rfl 41 (bvs da) (bvs da) A3 (fun j v h => (by rw [Nat.zero_add]; exact h)) (.array 32 5) Try.underlying41 rfl IA.out ?_)
        | ((with_reducible show wpList _ _ _ (⟨some 48, .load _ _, _, _, _, _⟩ :: _) _ _); refine wl_loadG rfl 41 _ rfl g4 0 rfl 41 (bvs db) (bvs db) A4 (fun j v h => (by rw [Nat.zero_add]; exact h)) (.array 32 5) Try.underlying41 rfl IB.out ?_)
        | ((with_reducible show wpList _ _ _ (⟨some 49, .binOp _ _ _ _ _, _, _, _, _⟩ :: _) _ _); refine wl_eqV rfl _ _ _ rfl da db false HDAB.out HLA.out HLB.out rfl rfl ?_))
      go_simp
      by_cases hvv : Va = Vb
      · subst hvv
        have hdv : (!decide (Va = Va)) = false := by rw [decide_eq_true rfl]; rfl
        have HDV := Lib.hid hdv
        have HUE : Hid (upF i L P da n = upF i L P db n) := by show _ = _; rw [← hva, ← hvb]
        clear hdv hva hvb
        rw [hRE] at hRg
        clear hRE
        go_wp2_with (first
          | ((with_reducible show wpList _ _ _ (⟨some 57, .load _ _, _, _, _, _⟩ :: _) _ _); refine wl_load rfl 41 _ rfl g7 0 rfl 41 (bvs Va) (bvs Va) A7 (fun j v h => (by rw [Nat.zero_add]; exact h)) (.array 32 5) Try.underlying41 rfl IVA.out ?_)
          | ((with_reducible show wpList _ _ _ (⟨some 58, .load _ _, _, _, _, _⟩ :: _) _ _); refine wl_load rfl 41 _ rfl g9 0 rfl 41 (bvs Va) (bvs Va) hA9 (fun j v h => (by rw [Nat.zero_add]; exact h)) (.array 32 5) Try.underlying41 rfl IVB.out ?_)
          | ((with_reducible show wpList _ _ _ (⟨some 59, .binOp _ _ _ _ _, _, _, _, _⟩ :: _) _ _); refine wl_neV rfl _ _ _ rfl Va Va false HDV.out HLVA.out HLVB.out rfl rfl ?_)
          | (go_at_call 10; refine (hRg.out _).mono ?_; rintro e w10 ⟨v, rfl, hO, hb10⟩; obtain ⟨ra, rc, rfl, hRd, hrb⟩ := hO.rd (by omega); rw [hLn] at hRd ⊢; replace A3 := A3.kept hb10; replace A4 := A4.kept hb10))
        have A5 := HX5.out w10 hb10
        have RP := HR9.out.to hb10
        have z9 := hb10.size
        have B0 := Lib.hid (B09.out.trans (hb10.mono B09.out.size))
        have hRb : ∀ ad, ra = some ad → 0 < L.length → ad.block ≠ g3 ∧ ad.block ≠ g4 := fun ad e h0 => by
          have h1 := (hrb ad e).1
          have l3 := (HX5.out w9 (Below.refl _ _)).lt
          have l3' := HL3.out
          omega
        have hPb : ∀ ad, al = some ad → 0 < n → ad.block ≠ g3 ∧ ad.block ≠ g4 := fun ad e h0 => by
          have h1 := HPB.out ad e h0
          have h2 := HBS.out
          omega
        clear hO hrb hb10 hA9 A7 k91 k92 k93 HR9 HX5 hRg z9
        have hn20 : n ≤ 20 := by have := HLEN.out; omega
        have HLN := Lib.hid hLn
        clear hLn
        go_loopw [71] (fun ix wr => ∃ (k : Nat) (A B : List UInt8), k ≤ n ∧ ix = .int .i64 (k : Int) ∧ Hid (A = upF i L P da k ∧ B = upF i L P db k ∧ A ≠ B ∧ A.length = 32 ∧ B.length = 32) ∧ Arr wr g3 41 (bvs A) ∧ Arr wr g4 41 (bvs B) ∧ KB (fun q => q = g3 ∨ q = g4) w10 wr) (fun ix _ => n - (intOf ix).toNat)
        case atStart => exact ⟨0, da, db, Nat.zero_le _, rfl, ⟨rfl, rfl, HAB.out, HLA.out, HLB.out⟩, A3, A4, KB.refl _ _⟩
        case round =>
          clear A3 A4
          obtain ⟨k, A, B, hk, rfl, hAB, A3, A4, hkb⟩ := hrel
          by_cases hlt : k < n
          · have hkL : k < L.length := by rw [HLN.out]; exact hlt
            have hkP : k < P.length := by rw [← HNL.out]; exact hlt
            obtain ⟨rb, ro, rfl, hrbl, -⟩ := hRd.mem (by omega)
            obtain ⟨pb, po, rfl, hpbl, -⟩ := RP.mem (by omega)
            have hrb2 := hRb _ rfl (by omega)
            have hpb2 := hPb _ rfl (by omega)
            have hRr := (hRd.kb hkb (fun ad e h0 => by have := hRb ad e (by omega); omega)).range k hkL
            have hPr := (hkb.rdD RP (fun ad e h0 => by have := hPb ad e h0; omega)).range k hlt
            have A5r : Arr wr g5 43 X := (hkb.block g5 A5.lt (by have h1 := H35.out; have h2 := H45.out; omega)).trans A5
            have hyl := RP.all k (by omega)
            have hna := upF_next i L P da k hkL hkP
            have hnb := upF_next i L P db k hkL hkP
            obtain ⟨hAe, hBe, hABne, hAl, hBl⟩ := hAB.out
            rw [← hAe] at hna
            rw [← hBe] at hnb
            have hrl := Nat.lt_of_lt_of_le hrbl hkb.size
            have hpl := Nat.lt_of_lt_of_le hpbl hkb.size
            obtain ⟨xr, hx⟩ : ∃ x, x = L[k] := ⟨_, rfl⟩
            obtain ⟨y, hy⟩ : ∃ y, y = P.getD k [] := ⟨_, rfl⟩
            rw [← hx] at hRr hna hnb
            rw [← hy] at hPr hyl hna hnb
            have I_A : Hid ((Try.prog.info? 41).map (·.size) = some (bvs A).length) := by show _ = _; rw [bvs_len, hAl]; exact sizeD
            have I_B : Hid ((Try.prog.info? 41).map (·.size) = some (bvs B).length) := by show _ = _; rw [bvs_len, hBl]; exact sizeD
            have I_Y : Hid ((Try.prog.info? 41).map (·.size) = some (bvs y).length) := by show _ = _; rw [bvs_len, hyl]; exact sizeD
            have hkn : (k : Int) < (n : Int) := by omega
            have hk0 : (0 : Int) ≤ (k : Int) := by omega
            have HN1 := Lib.hid (fun w => Node_any A y w hAl hyl)
            have HN2 := Lib.hid (fun w => Node_any B y w hBl hyl)
            have HM1 := Lib.hid (fun w => Node_any y A w hyl hAl)
            have HM2 := Lib.hid (fun w => Node_any y B w hyl hBl)
            have HLT := Lib.hid hlt
            have HNA := Lib.hid hna
            have HNB := Lib.hid hnb
            have LA := Lib.hid hAl
            have LB := Lib.hid hBl
            have z5 := hkb.size
            have lN1 : (nodeH A y).length = 32 := shaL_len _
            have lN2 : (nodeH B y).length = 32 := shaL_len _
            have lM1 : (nodeH y A).length = 32 := shaL_len _
            have lM2 : (nodeH y B).length = 32 := shaL_len _
            obtain ⟨N1, hN1⟩ : ∃ N, N = nodeH A y := ⟨_, rfl⟩
            obtain ⟨N2, hN2⟩ : ∃ N, N = nodeH B y := ⟨_, rfl⟩
            obtain ⟨M1, hM1⟩ : ∃ N, N = nodeH y A := ⟨_, rfl⟩
            obtain ⟨M2, hM2⟩ : ∃ N, N = nodeH y B := ⟨_, rfl⟩
            rw [← hN1] at HN1 lN1
            rw [← hN2] at HN2 lN2
            rw [← hM1] at HM1 lM1
            rw [← hM2] at HM2 lM2
            have HHI : Hid (i < xr.1 → upF i L P da (k + 1) = N1 ∧ upF i L P db (k + 1) = N2) := fun h => ⟨by rw [HNA.out, stepU_hi h, hN1], by rw [HNB.out, stepU_hi h, hN2]⟩
            have HLO : Hid (xr.1 ≤ i → upF i L P da (k + 1) = M1 ∧ upF i L P db (k + 1) = M2) := fun h => ⟨by rw [HNA.out, stepU_lo h, hM1], by rw [HNB.out, stepU_lo h, hM2]⟩
            have I_N1 : Hid ((Try.prog.info? 41).map (·.size) = some (bvs N1).length) := by show _ = _; rw [bvs_len, lN1]; exact sizeD
            have I_N2 : Hid ((Try.prog.info? 41).map (·.size) = some (bvs N2).length) := by show _ = _; rw [bvs_len, lN2]; exact sizeD
            have I_M1 : Hid ((Try.prog.info? 41).map (·.size) = some (bvs M1).length) := by show _ = _; rw [bvs_len, lM1]; exact sizeD
            have I_M2 : Hid ((Try.prog.info? 41).map (·.size) = some (bvs M2).length) := by show _ = _; rw [bvs_len, lM2]; exact sizeD
            have LN1 := Lib.hid lN1
            have LN2 := Lib.hid lN2
            have LM1 := Lib.hid lM1
            have LM2 := Lib.hid lM2
            have HSZ := Lib.hid z5
            clear hAe hBe hABne hAl hBl hna hnb hlt hkL hkP hx hy hRd RP A5 hrbl hpbl hRb hPb hyl lN1 lN2 lM1 lM2 hN1 hN2 hM1 hM2 z5 HNA HNB hrb2
            go_upto_region 11 with (first
              | ((with_reducible show wpList _ _ _ (⟨some 75, .load _ _, _, _, _, _⟩ :: _) _ _); refine wpList_load_mid rfl 52 _ rfl rb (ro + k * 2) rfl (encR xr) _ hRr Try.underlying52 rfl infoRs ?_)
              | ((with_reducible show wpList _ _ _ (⟨some 14, .alloc _, _, _, _, _⟩ :: _) _ _); refine wl_alloc rfl 52 rfl [.int .u64 0, .int .u64 0] 2 infoR0 ?_; intro w11 hA11 hb11 hs11)
              | ((with_reducible show wpList _ _ _ (⟨none, .store _ _ _, _, _, _, _⟩ :: _) _ _); refine wl_store rfl 52 _ _ rfl wr.heap.size 0 rfl (encR xr) rfl 52 _ hA11 infoRs (by simp [encR]) (encR_one xr) ?_; intro w12 hA12 hg12 hs12; have b12 : Below wr.heap.size wr w12 := hb11.grown hg12 hb11.size (by intro k e; injection e with e; omega)))
            have A14 : Arr w12 wr.heap.size 52 (encR xr) := by simpa [encR] using hA12
            obtain ⟨g14, hg14⟩ : ∃ g, g = wr.heap.size := ⟨_, rfl⟩
            have l3 := A3.lt
            have l4 := A4.lt
            have l5 := A5r.lt
            have h314 : g3 ≠ g14 ∧ g4 ≠ g14 ∧ g5 ≠ g14 := by omega
            replace A3 := A3.kept b12
            replace A4 := A4.kept b12
            have A5b := A5r.kept b12
            have PR : ∀ wx, Below w12.heap.size w12 wx → wx.rangeAt pb (po + k * 32) (bvs y) := fun wx hb j v hj => ((b12.trans (hb.mono b12.size)).cell (p := ⟨pb, po + k * 32 + j, none⟩) hpl).trans (hPr j v hj)
            have z12 := b12.size
            have KR := hkb.below b12
            go_simp
            rw [← hg14]
            rw [← hg14] at A14
            have HK12 := Lib.hid KR
            have h3512 : g3 < w12.heap.size ∧ g4 < w12.heap.size ∧ g5 < w12.heap.size ∧ g14 < w12.heap.size := by have := A14.lt; omega
            have HS12 := Lib.hid h3512
            have HA3 : Hid (∀ wx, Below w12.heap.size w12 wx → Arr wx g3 41 (bvs A)) := fun wx hb => A3.kept hb
            have HA4 : Hid (∀ wx, Below w12.heap.size w12 wx → Arr wx g4 41 (bvs B)) := fun wx hb => A4.kept hb
            have HA14 : Hid (∀ wx, Below w12.heap.size w12 wx → Arr wx g14 52 (encR xr)) := fun wx hb => A14.kept hb
            have HA5 : Hid (∀ wx, Below w12.heap.size w12 wx → Arr wx g5 43 X) := fun wx hb => A5b.kept hb
            have HC5 : Hid (∀ wx, Arr wx g5 43 X → wx.cell? ⟨g5, 32, none⟩ = some (.int .u64 (i : Int)) ∧ wx.cell? ⟨g5, 34, none⟩ = some (.slice (some ⟨pb, po, none⟩) n c)) := fun wx h => by
              obtain ⟨q1, q2, q3⟩ := HEN.out g5 wx h
              exact ⟨q1, q3⟩
            have HPR := Lib.hid PR
            have HPL2 : Hid (pb < w12.heap.size ∧ pb ≠ g3 ∧ pb ≠ g4) := ⟨by omega, hpb2.1, hpb2.2⟩
            have Z32 : Hid ((Z8 32).length = 32) := by show _ = _; simp [Z8]
            clear hRr hPr A5r hA11 hb11 hs11 hA12 hg12 hs12 b12 A3 A4 A14 A5b PR l3 l4 l5 z12 KR hg14 h3512 hrl hpl hpb2
            refine wp_region_steps [[], [], [1], [], [2, 3], [4], [0, 5], [], [], [8], [], [9, 10], [11], [7, 12, 6], [], [], [14, 6], [15, 13, 16]] (by kernel_rfl) (by kernel_rfl) (fun LF aF wx => ∃ v : Nat → Value, aF = ⟨#[.agg (bvs da).toArray, .agg (bvs db).toArray, .agg X.toArray, .pointer (some ⟨g3, 0, none⟩), .pointer (some ⟨g4, 0, none⟩), .pointer (some ⟨g5, 0, none⟩), u6, .pointer (some ⟨g7, 0, none⟩), .int .i64 0, .pointer (some ⟨g9, 0, none⟩), .int .i64 0, .slice (some ⟨rb, ro, none⟩) n rc, .int .i64 0, .int .i64 ↑k, .pointer (some ⟨g14, 0, none⟩), v 15, v 16, .tuple #[.agg (bvs (upF i L P da n)).toArray, .int .i64 0], .agg (bvs da).toArray, .pointer (some ⟨g5, 32, none⟩), .int .u64 ↑i, .pointer (some ⟨g5, 33, none⟩), .int .u64 ↑s, .pointer (some ⟨g5, 34, none⟩), .slice (some ⟨pb, po, none⟩) n c, .tuple #[.agg (bvs (upF i L P da n)).toArray, .int .i64 0], .agg (bvs (upF i L P da n)).toArray, .int .i64 0, .tuple #[.agg (bvs (upF i L P db n)).toArray, .int .i64 0], .agg (bvs db).toArray, .pointer (some ⟨g5, 32, none⟩), .int .u64 ↑i, .pointer (some ⟨g5, 33, none⟩), .int .u64 ↑s, .pointer (some ⟨g5, 34, none⟩), .slice (some ⟨pb, po, none⟩) n c, .tuple #[.agg (bvs (upF i L P db n)).toArray, .int .i64 0], .agg (bvs (upF i L P db n)).toArray, .int .i64 0, .int .i64 0, .int .i64 0, .bool false, .bool false, .int .i64 0, .bool false, .bool false, .bool false, .agg (bvs da).toArray, .agg (bvs db).toArray, .bool false, .bool false, undef, undef, undef, undef, undef, undef, .agg (bvs Va).toArray, .agg (bvs Va).toArray, .bool false, undef, .tuple #[.slice (some ⟨rb, ro, none⟩) n rc, .int .i64 0], .pointer (some ⟨g5, 32, none⟩), .int .u64 ↑i, .pointer (some ⟨g5, 33, none⟩), .int .u64 ↑s, .tuple #[.slice (some ⟨rb, ro, none⟩) n rc, .int .i64 0], .slice (some ⟨rb, ro, none⟩) n rc, .int .i64 0, .slice (some ⟨rb, ro, none⟩) n rc, .int .i64 ↑n, .int .i64 ↑k, .bool true, .int .i64 ↑k, .pointer (some ⟨rb, ro + k * 2, none⟩), .agg (encR xr).toArray, v 76, v 77, v 78, v 79, v 80, v 81, v 82, v 83, v 84, v 85, v 86, v 87, v 88, v 89, u90, u91, u92, u93, u94, u95, u96, u97, u98, u99, u100, u101, u102, u103, u104, u105, u106, u107, u108, u109, u110, u111, u112, u113, u114], []⟩ ∧ InvOnceA A B y N1 N2 i s k n g3 g4 g5 g14 pb po c w12 LF v wx) ?_ ⟨?_, ?_, ?_, ?_, ?_, ?_, ?_, ?_, ?_, ?_, ?_, ?_, ?_, ?_, ?_, ?_, ?_, ?_, trivial⟩ ?_
            · refine ⟨upd (upd (upd (upd (upd (upd (upd (upd (upd (upd (upd (upd (upd (upd (upd (upd (fun _ => undef) 76 (u76)) 77 (u77)) 78 (u78)) 79 (u79)) 80 (u80)) 81 (u81)) 82 (u82)) 83 (u83)) 84 (u84)) 85 (u85)) 86 (u86)) 87 (u87)) 88 (u88)) 89 (u89)) 15 (u15)) 16 (u16), rfl, ⟨?_, ?_, ?_, ?_, ?_, ?_, ?_, ?_, ?_, ?_, ?_, ?_, ?_, ?_, ?_, ?_, (Below.refl _ _).drew, (fun h => nomatch (show false = true from h))⟩⟩ <;> (intro h; exact absurd h (by decide))
            · rintro LF aF wx ⟨v, rfl, hI⟩ hL hdep hcl K hK
              refine ow_load 41 _ rfl g3 0 rfl 41 (bvs A) (bvs A) (HA3.out wx hI.bw) (fun j v h => by rw [Nat.zero_add]; exact h) (.array 32 5) Try.underlying41 rfl I_A.out ?_
              exact hK _ _ ⟨(upd v 76 (.agg (bvs A).toArray)), rfl, ⟨fun _ => rfl, hI.t1, hI.t2, hI.t3, hI.t4, hI.t5, hI.t6, hI.t7, hI.t8, hI.t9, hI.t10, hI.t11, hI.t12, hI.t13, hI.t14, hI.t15, hI.bw, hI.ne⟩⟩
            · rintro LF aF wx ⟨v, rfl, hI⟩ hL hdep hcl K hK
              go_simp
              exact hK _ _ ⟨(upd v 77 (.pointer (some ⟨g5, 34, none⟩))), rfl, ⟨hI.t0, fun _ => rfl, hI.t2, hI.t3, hI.t4, hI.t5, hI.t6, hI.t7, hI.t8, hI.t9, hI.t10, hI.t11, hI.t12, hI.t13, hI.t14, hI.t15, hI.bw, hI.ne⟩⟩
            · rintro LF aF wx ⟨v, rfl, hI⟩ hL hdep hcl K hK
              have e1 := hI.t1 (hdep 1 (by decide))
              rw [e1]
              obtain ⟨k1, k2⟩ := HC5.out wx (HA5.out wx hI.bw)
              go_simp
              exact hK _ _ ⟨(upd (upd v 77 (.pointer (some ⟨g5, 34, none⟩))) 78 (.slice (some ⟨pb, po, none⟩) n c)), rfl, ⟨hI.t0, fun _ => rfl, fun _ => rfl, hI.t3, hI.t4, hI.t5, hI.t6, hI.t7, hI.t8, hI.t9, hI.t10, hI.t11, hI.t12, hI.t13, hI.t14, hI.t15, hI.bw, hI.ne⟩⟩
            · rintro LF aF wx ⟨v, rfl, hI⟩ hL hdep hcl K hK
              go_simp
              exact hK _ _ ⟨(upd v 79 (.int .i64 ↑k)), rfl, ⟨hI.t0, hI.t1, hI.t2, fun _ => rfl, hI.t4, hI.t5, hI.t6, hI.t7, hI.t8, hI.t9, hI.t10, hI.t11, hI.t12, hI.t13, hI.t14, hI.t15, hI.bw, hI.ne⟩⟩
            · rintro LF aF wx ⟨v, rfl, hI⟩ hL hdep hcl K hK
              have e2 := hI.t2 (hdep 2 (by decide))
              have e3 := hI.t3 (hdep 3 (by decide))
              rw [e2, e3]
              go_simp
              exact hK _ _ ⟨(upd (upd (upd v 78 (.slice (some ⟨pb, po, none⟩) n c)) 79 (.int .i64 ↑k)) 80 (.pointer (some ⟨pb, po + k * 32, none⟩))), rfl, ⟨hI.t0, hI.t1, fun _ => rfl, fun _ => rfl, fun _ => rfl, hI.t5, hI.t6, hI.t7, hI.t8, hI.t9, hI.t10, hI.t11, hI.t12, hI.t13, hI.t14, hI.t15, hI.bw, hI.ne⟩⟩
            · rintro LF aF wx ⟨v, rfl, hI⟩ hL hdep hcl K hK
              have e4 := hI.t4 (hdep 4 (by decide))
              rw [e4]
              refine wp_load_mid 41 _ rfl pb (po + k * 32) rfl (bvs y) (.array 32 5) (HPR.out wx hI.bw) Try.underlying41 rfl I_Y.out ?_
              exact hK _ _ ⟨(upd (upd v 80 (.pointer (some ⟨pb, po + k * 32, none⟩))) 81 (.agg (bvs y).toArray)), rfl, ⟨hI.t0, hI.t1, hI.t2, hI.t3, fun _ => rfl, fun _ => rfl, hI.t6, hI.t7, hI.t8, hI.t9, hI.t10, hI.t11, hI.t12, hI.t13, hI.t14, hI.t15, hI.bw, hI.ne⟩⟩
            · rintro LF aF wx ⟨v, rfl, hI⟩ hL hdep hcl K hK
              have e0 := hI.t0 (hdep 0 (by decide))
              have e5 := hI.t5 (hdep 5 (by decide))
              rw [e0, e5]
              have HCC := HN1.out wx
              go_simp
              refine HCC.mono ?_
              rintro e w' ⟨rfl, hb⟩
              exact hK _ _ ⟨(upd (upd (upd v 76 (.agg (bvs A).toArray)) 81 (.agg (bvs y).toArray)) 82 (.agg (bvs N1).toArray)), rfl, ⟨fun _ => rfl, hI.t1, hI.t2, hI.t3, hI.t4, fun _ => rfl, fun _ => rfl, hI.t7, hI.t8, hI.t9, hI.t10, hI.t11, hI.t12, hI.t13, fun h => by obtain ⟨g, e, h1, h2⟩ := hI.t14 h; exact ⟨g, e, h1.kept hb, h2⟩, fun h => by obtain ⟨g, e, h1, h2⟩ := hI.t15 h; exact ⟨g, e, h1.kept hb, h2⟩, (hI.bw).trans (hb.mono (hI.bw).size), hI.ne⟩⟩
            · rintro LF aF wx ⟨v, rfl, hI⟩ hL hdep hcl K hK
              refine ow_load 41 _ rfl g4 0 rfl 41 (bvs B) (bvs B) (HA4.out wx hI.bw) (fun j v h => by rw [Nat.zero_add]; exact h) (.array 32 5) Try.underlying41 rfl I_B.out ?_
              exact hK _ _ ⟨(upd v 83 (.agg (bvs B).toArray)), rfl, ⟨hI.t0, hI.t1, hI.t2, hI.t3, hI.t4, hI.t5, hI.t6, fun _ => rfl, hI.t8, hI.t9, hI.t10, hI.t11, hI.t12, hI.t13, hI.t14, hI.t15, hI.bw, hI.ne⟩⟩
            · rintro LF aF wx ⟨v, rfl, hI⟩ hL hdep hcl K hK
              go_simp
              exact hK _ _ ⟨(upd v 84 (.pointer (some ⟨g5, 34, none⟩))), rfl, ⟨hI.t0, hI.t1, hI.t2, hI.t3, hI.t4, hI.t5, hI.t6, hI.t7, fun _ => rfl, hI.t9, hI.t10, hI.t11, hI.t12, hI.t13, hI.t14, hI.t15, hI.bw, hI.ne⟩⟩
            · rintro LF aF wx ⟨v, rfl, hI⟩ hL hdep hcl K hK
              have e8 := hI.t8 (hdep 8 (by decide))
              rw [e8]
              obtain ⟨k1, k2⟩ := HC5.out wx (HA5.out wx hI.bw)
              go_simp
              exact hK _ _ ⟨(upd (upd v 84 (.pointer (some ⟨g5, 34, none⟩))) 85 (.slice (some ⟨pb, po, none⟩) n c)), rfl, ⟨hI.t0, hI.t1, hI.t2, hI.t3, hI.t4, hI.t5, hI.t6, hI.t7, fun _ => rfl, fun _ => rfl, hI.t10, hI.t11, hI.t12, hI.t13, hI.t14, hI.t15, hI.bw, hI.ne⟩⟩
            · rintro LF aF wx ⟨v, rfl, hI⟩ hL hdep hcl K hK
              go_simp
              exact hK _ _ ⟨(upd v 86 (.int .i64 ↑k)), rfl, ⟨hI.t0, hI.t1, hI.t2, hI.t3, hI.t4, hI.t5, hI.t6, hI.t7, hI.t8, hI.t9, fun _ => rfl, hI.t11, hI.t12, hI.t13, hI.t14, hI.t15, hI.bw, hI.ne⟩⟩
            · rintro LF aF wx ⟨v, rfl, hI⟩ hL hdep hcl K hK
              have e9 := hI.t9 (hdep 9 (by decide))
              have e10 := hI.t10 (hdep 10 (by decide))
              rw [e9, e10]
              go_simp
              exact hK _ _ ⟨(upd (upd (upd v 85 (.slice (some ⟨pb, po, none⟩) n c)) 86 (.int .i64 ↑k)) 87 (.pointer (some ⟨pb, po + k * 32, none⟩))), rfl, ⟨hI.t0, hI.t1, hI.t2, hI.t3, hI.t4, hI.t5, hI.t6, hI.t7, hI.t8, fun _ => rfl, fun _ => rfl, fun _ => rfl, hI.t12, hI.t13, hI.t14, hI.t15, hI.bw, hI.ne⟩⟩
            · rintro LF aF wx ⟨v, rfl, hI⟩ hL hdep hcl K hK
              have e11 := hI.t11 (hdep 11 (by decide))
              rw [e11]
              refine wp_load_mid 41 _ rfl pb (po + k * 32) rfl (bvs y) (.array 32 5) (HPR.out wx hI.bw) Try.underlying41 rfl I_Y.out ?_
              exact hK _ _ ⟨(upd (upd v 87 (.pointer (some ⟨pb, po + k * 32, none⟩))) 88 (.agg (bvs y).toArray)), rfl, ⟨hI.t0, hI.t1, hI.t2, hI.t3, hI.t4, hI.t5, hI.t6, hI.t7, hI.t8, hI.t9, hI.t10, fun _ => rfl, fun _ => rfl, hI.t13, hI.t14, hI.t15, hI.bw, hI.ne⟩⟩
            · rintro LF aF wx ⟨v, rfl, hI⟩ hL hdep hcl K hK
              have e7 := hI.t7 (hdep 7 (by decide))
              have e12 := hI.t12 (hdep 12 (by decide))
              have e6 := hI.t6 (hdep 6 (by decide))
              rw [e7, e12, e6]
              have HCC := HN2.out wx
              go_simp
              refine HCC.mono ?_
              rintro e w' ⟨rfl, hb⟩
              exact hK _ _ ⟨(upd (upd (upd (upd v 83 (.agg (bvs B).toArray)) 88 (.agg (bvs y).toArray)) 82 (.agg (bvs N1).toArray)) 89 (.agg (bvs N2).toArray)), rfl, ⟨hI.t0, hI.t1, hI.t2, hI.t3, hI.t4, hI.t5, fun _ => rfl, fun _ => rfl, hI.t8, hI.t9, hI.t10, hI.t11, fun _ => rfl, fun _ => rfl, fun h => by obtain ⟨g, e, h1, h2⟩ := hI.t14 h; exact ⟨g, e, h1.kept hb, h2⟩, fun h => by obtain ⟨g, e, h1, h2⟩ := hI.t15 h; exact ⟨g, e, h1.kept hb, h2⟩, (hI.bw).trans (hb.mono (hI.bw).size), hI.ne⟩⟩
            · rintro LF aF wx ⟨v, rfl, hI⟩ hL hdep hcl K hK
              have h26 : LF 16 = false := by
                cases h6 : LF 16 with
                | true =>
                  have h4 := hcl 16 (by decide) h6 14 (by decide)
                  rw [hL] at h4
                  cases h4
                | false => rfl
              refine ow_alloc 41 rfl (bvs (Z8 32)) 32 infoD ?_
              intro w' hN hb hs
              exact hK _ _ ⟨(upd v 15 (_)), rfl, ⟨hI.t0, hI.t1, hI.t2, hI.t3, hI.t4, hI.t5, hI.t6, hI.t7, hI.t8, hI.t9, hI.t10, hI.t11, hI.t12, hI.t13, (fun _ => ⟨_, rfl, by show Arr _ _ _ (bvs (if LF 16 then _ else _)); rw [h26]; exact hN, hI.bw.size⟩), fun h => by obtain ⟨g, e, h1, h2⟩ := hI.t15 h; exact ⟨g, e, h1.kept hb, h2⟩, (hI.bw).trans (hb.mono (hI.bw).size), (fun h24 h25 => by obtain ⟨g', e', hA', _⟩ := hI.t15 h25; show Value.pointer (some ⟨wx.heap.size, 0, none⟩) ≠ v 16; rw [e']; intro e; injection e with e; injection e with e; injection e with e; have := hA'.lt; omega)⟩⟩
            · rintro LF aF wx ⟨v, rfl, hI⟩ hL hdep hcl K hK
              have h26 : LF 17 = false := by
                cases h6 : LF 17 with
                | true =>
                  have h4 := hcl 17 (by decide) h6 15 (by decide)
                  rw [hL] at h4
                  cases h4
                | false => rfl
              refine ow_alloc 41 rfl (bvs (Z8 32)) 32 infoD ?_
              intro w' hN hb hs
              exact hK _ _ ⟨(upd v 16 (_)), rfl, ⟨hI.t0, hI.t1, hI.t2, hI.t3, hI.t4, hI.t5, hI.t6, hI.t7, hI.t8, hI.t9, hI.t10, hI.t11, hI.t12, hI.t13, fun h => by obtain ⟨g, e, h1, h2⟩ := hI.t14 h; exact ⟨g, e, h1.kept hb, h2⟩, (fun _ => ⟨_, rfl, by show Arr _ _ _ (bvs (if LF 17 then _ else _)); rw [h26]; exact hN, hI.bw.size⟩), (hI.bw).trans (hb.mono (hI.bw).size), (fun h24 h25 => by obtain ⟨g', e', hA', _⟩ := hI.t14 h24; show v 15 ≠ Value.pointer (some ⟨wx.heap.size, 0, none⟩); rw [e']; intro e; injection e with e; injection e with e; injection e with e; have := hA'.lt; omega)⟩⟩
            · rintro LF aF wx ⟨v, rfl, hI⟩ hL hdep hcl K hK
              have e6 := hI.t6 (hdep 6 (by decide))
              rw [e6]
              obtain ⟨g, e7, hN, hg⟩ := hI.t14 (hdep 14 (by decide))
              rw [hL] at hN
              refine ow_store 41 _ _ rfl g 0 e7 (bvs N1) rfl 41 _ hN I_N1.out (by show 0 + (bvs N1).length ≤ (bvs (Z8 32)).length; rw [bvs_len, bvs_len, LN1.out, Z32.out]; omega) (bvs_one _) ?_
              intro w' hN' hg' hs
              have hw : List.take 0 (bvs (Z8 32)) ++ bvs N1 ++ List.drop (0 + (bvs N1).length) (bvs (Z8 32)) = bvs N1 := whole_store _ _ (by rw [bvs_len, bvs_len, LN1.out, Z32.out])
              replace hN' := hw ▸ hN'
              exact hK _ _ ⟨(upd v 82 (.agg (bvs N1).toArray)), rfl, ⟨hI.t0, hI.t1, hI.t2, hI.t3, hI.t4, hI.t5, fun _ => rfl, hI.t7, hI.t8, hI.t9, hI.t10, hI.t11, hI.t12, hI.t13, (fun _ => ⟨g, e7, hN', hg⟩), (fun h25 => by obtain ⟨g', e', hA', h2⟩ := hI.t15 h25; exact ⟨g', e', hA'.grown hg' (by intro e; injection e with e; exact hI.ne (hdep 14 (by decide)) h25 (by rw [e7, e', e])), h2⟩), hI.bw.grown hg' hI.bw.size (by intro k e; injection e with e; omega), hI.ne⟩⟩
            · rintro LF aF wx ⟨v, rfl, hI⟩ hL hdep hcl K hK
              have e13 := hI.t13 (hdep 13 (by decide))
              rw [e13]
              obtain ⟨g, e7, hN, hg⟩ := hI.t15 (hdep 15 (by decide))
              rw [hL] at hN
              refine ow_store 41 _ _ rfl g 0 e7 (bvs N2) rfl 41 _ hN I_N2.out (by show 0 + (bvs N2).length ≤ (bvs (Z8 32)).length; rw [bvs_len, bvs_len, LN2.out, Z32.out]; omega) (bvs_one _) ?_
              intro w' hN' hg' hs
              have hw : List.take 0 (bvs (Z8 32)) ++ bvs N2 ++ List.drop (0 + (bvs N2).length) (bvs (Z8 32)) = bvs N2 := whole_store _ _ (by rw [bvs_len, bvs_len, LN2.out, Z32.out])
              replace hN' := hw ▸ hN'
              exact hK _ _ ⟨(upd v 89 (.agg (bvs N2).toArray)), rfl, ⟨hI.t0, hI.t1, hI.t2, hI.t3, hI.t4, hI.t5, hI.t6, hI.t7, hI.t8, hI.t9, hI.t10, hI.t11, hI.t12, fun _ => rfl, (fun h25 => by obtain ⟨g', e', hA', h2⟩ := hI.t14 h25; exact ⟨g', e', hA'.grown hg' (by intro e; injection e with e; exact hI.ne h25 (hdep 15 (by decide)) (by rw [e', e7, e])), h2⟩), (fun _ => ⟨g, e7, hN', hg⟩), hI.bw.grown hg' hI.bw.size (by intro k e; injection e with e; omega), hI.ne⟩⟩
            · rintro aF wx ⟨vF, rfl, hI⟩
              obtain ⟨g15, e15, hA15, hl15⟩ := hI.t14 rfl
              obtain ⟨g16, e16, hA16, hl16⟩ := hI.t15 rfl
              have hne := hI.ne rfl rfl
              have hbw := hI.bw
              clear hI
              rw [e15, e16] at hne
              rw [e15, e16]
              have h1516 : g15 ≠ g16 := fun e => hne (by rw [e])
              clear e15 e16 hne
              obtain ⟨w13, hw13⟩ : ∃ W, W = wx := ⟨_, rfl⟩
              rw [← hw13] at hA15 hA16 hbw ⊢
              clear hw13
              simp only [if_true] at hA15 hA16
              have h13 := hbw.size
              have HNE := Lib.hid h1516
              have HG15 : Hid (w12.heap.size ≤ g15 ∧ w12.heap.size ≤ g16) := ⟨hl15, hl16⟩
              have HB13 := Lib.hid hbw
              have A14 := HA14.out w13 hbw
              have A5 := HA5.out w13 hbw
              obtain ⟨q1, q2⟩ := HC5.out w13 A5
              have q3 := A14.cell 0
              simp only [encR, List.getElem?_cons_zero] at q3
              have z13 := hA15.lt
              have z16 := hA16.lt
              clear hl15 hl16 h1516 h13
              by_cases hcmp : i < xr.1
              · have hc : ¬ ((xr.1 : Int) ≤ (i : Int)) := by omega
                have HUP := Lib.hid (HHI.out hcmp)
                have B13 := hbw
                clear hcmp A14 A5
                by_cases hxy : N1 = N2
                · have hd1 : decide (N1 = N2) = true := decide_eq_true hxy
                  have HD1 := Lib.hid hd1
                  clear hxy hd1
                  go_wp2_with (first
                    | ((with_reducible show wpList _ _ _ (⟨some 109, .load _ _, _, _, _, _⟩ :: _) _ _); refine wl_load rfl 41 _ rfl g15 0 rfl 41 (bvs N1) (bvs N1) hA15 (fun j v h => (by rw [Nat.zero_add]; exact h)) (.array 32 5) Try.underlying41 rfl I_N1.out ?_)
                    | ((with_reducible show wpList _ _ _ (⟨some 110, .load _ _, _, _, _, _⟩ :: _) _ _); refine wl_load rfl 41 _ rfl g16 0 rfl 41 (bvs N2) (bvs N2) hA16 (fun j v h => (by rw [Nat.zero_add]; exact h)) (.array 32 5) Try.underlying41 rfl I_N2.out ?_)
                    | ((with_reducible show wpList _ _ _ (⟨some 111, .binOp _ _ _ _ _, _, _, _, _⟩ :: _) _ _); refine wl_eqV rfl _ _ _ rfl N1 N2 true HD1.out LN1.out LN2.out rfl rfl ?_))
                  go_ret
                  have hb0 := B0.out
                  have hbs := HBS.out
                  exact ⟨rfl, hb0.trans ((HK12.out.below B13).under (fun q e => by omega) hb0.size)⟩
                · have hd1 : decide (N1 = N2) = false := decide_eq_false hxy
                  have HD1 := Lib.hid hd1
                  have HXY := Lib.hid hxy
                  clear hxy hd1
                  go_upto_region 16 with (first
                    | ((with_reducible show wpList _ _ _ (⟨some 109, .load _ _, _, _, _, _⟩ :: _) _ _); refine wl_load rfl 41 _ rfl g15 0 rfl 41 (bvs N1) (bvs N1) hA15 (fun j v h => (by rw [Nat.zero_add]; exact h)) (.array 32 5) Try.underlying41 rfl I_N1.out ?_)
                    | ((with_reducible show wpList _ _ _ (⟨some 110, .load _ _, _, _, _, _⟩ :: _) _ _); refine wl_load rfl 41 _ rfl g16 0 rfl 41 (bvs N2) (bvs N2) hA16 (fun j v h => (by rw [Nat.zero_add]; exact h)) (.array 32 5) Try.underlying41 rfl I_N2.out ?_)
                    | ((with_reducible show wpList _ _ _ (⟨some 111, .binOp _ _ _ _ _, _, _, _, _⟩ :: _) _ _); refine wl_eqV rfl _ _ _ rfl N1 N2 false HD1.out LN1.out LN2.out rfl rfl ?_))
                  go_simp
                  have T3 := HA3.out w13 B13
                  have T4 := HA4.out w13 B13
                  have HKW := Lib.hid (HK12.out.below B13)
                  have HT15 : Hid (∀ wx, KB (fun q => q = g3 ∨ q = g4) w13 wx → Arr wx g15 41 (bvs N1)) := fun wx hk => (hk.block g15 hA15.lt (by have h1 := HG15.out; have h2 := HS12.out; omega)).trans hA15
                  have HT16 : Hid (∀ wx, KB (fun q => q = g3 ∨ q = g4) w13 wx → Arr wx g16 41 (bvs N2)) := fun wx hk => (hk.block g16 hA16.lt (by have h1 := HG15.out; have h2 := HS12.out; omega)).trans hA16
                  clear hA15 hA16
                  refine wp_region_steps [[], [], [0], [1, 2]] (by kernel_rfl) (by kernel_rfl) (fun LF aF wx => ∃ v112 v113, aF = ⟨#[.agg (bvs da).toArray, .agg (bvs db).toArray, .agg X.toArray, .pointer (some ⟨g3, 0, none⟩), .pointer (some ⟨g4, 0, none⟩), .pointer (some ⟨g5, 0, none⟩), u6, .pointer (some ⟨g7, 0, none⟩), .int .i64 0, .pointer (some ⟨g9, 0, none⟩), .int .i64 0, .slice (some ⟨rb, ro, none⟩) n rc, .int .i64 0, .int .i64 ↑k, .pointer (some ⟨g14, 0, none⟩), .pointer (some ⟨g15, 0, none⟩), .pointer (some ⟨g16, 0, none⟩), .tuple #[.agg (bvs (upF i L P da n)).toArray, .int .i64 0], .agg (bvs da).toArray, .pointer (some ⟨g5, 32, none⟩), .int .u64 ↑i, .pointer (some ⟨g5, 33, none⟩), .int .u64 ↑s, .pointer (some ⟨g5, 34, none⟩), .slice (some ⟨pb, po, none⟩) n c, .tuple #[.agg (bvs (upF i L P da n)).toArray, .int .i64 0], .agg (bvs (upF i L P da n)).toArray, .int .i64 0, .tuple #[.agg (bvs (upF i L P db n)).toArray, .int .i64 0], .agg (bvs db).toArray, .pointer (some ⟨g5, 32, none⟩), .int .u64 ↑i, .pointer (some ⟨g5, 33, none⟩), .int .u64 ↑s, .pointer (some ⟨g5, 34, none⟩), .slice (some ⟨pb, po, none⟩) n c, .tuple #[.agg (bvs (upF i L P db n)).toArray, .int .i64 0], .agg (bvs (upF i L P db n)).toArray, .int .i64 0, .int .i64 0, .int .i64 0, .bool false, .bool false, .int .i64 0, .bool false, .bool false, .bool false, .agg (bvs da).toArray, .agg (bvs db).toArray, .bool false, .bool false, undef, undef, undef, undef, undef, undef, .agg (bvs Va).toArray, .agg (bvs Va).toArray, .bool false, undef, .tuple #[.slice (some ⟨rb, ro, none⟩) n rc, .int .i64 0], .pointer (some ⟨g5, 32, none⟩), .int .u64 ↑i, .pointer (some ⟨g5, 33, none⟩), .int .u64 ↑s, .tuple #[.slice (some ⟨rb, ro, none⟩) n rc, .int .i64 0], .slice (some ⟨rb, ro, none⟩) n rc, .int .i64 0, .slice (some ⟨rb, ro, none⟩) n rc, .int .i64 ↑n, .int .i64 ↑k, .bool true, .int .i64 ↑k, .pointer (some ⟨rb, ro + k * 2, none⟩), .agg (encR xr).toArray, vF 76, vF 77, vF 78, vF 79, vF 80, vF 81, vF 82, vF 83, vF 84, vF 85, vF 86, vF 87, vF 88, vF 89, .pointer (some ⟨g14, 0, none⟩), .int .u64 ↑xr.fst, .pointer (some ⟨g5, 32, none⟩), .int .u64 ↑i, .bool false, u95, u96, u97, u98, u99, u100, u101, u102, u103, u104, u105, u106, u107, u108, .agg (bvs N1).toArray, .agg (bvs N2).toArray, .bool false, v112, v113, u114], []⟩ ∧ InvOnce16H A B N1 N2 g3 g4 g15 g16 w13 LF v112 v113 wx) ?_ ⟨?_, ?_, ?_, ?_, trivial⟩ ?_
                  · refine ⟨_, _, rfl, ⟨?_, ?_, T3.drew, T4.drew, (KB.refl _ _).drew⟩⟩ <;> (intro h; exact absurd h (by decide))
                  · rintro LF aF wx ⟨v112, v113, rfl, hI⟩ hL hdep hcl K hK
                    refine ow_load 41 _ rfl g15 0 rfl 41 (bvs N1) (bvs N1) (HT15.out wx hI.kb) (fun j v h => by rw [Nat.zero_add]; exact h) (.array 32 5) Try.underlying41 rfl I_N1.out ?_
                    exact hK _ _ ⟨_, v113, rfl, ⟨fun _ => rfl, hI.t1, hI.a3, hI.a4, hI.kb⟩⟩
                  · rintro LF aF wx ⟨v112, v113, rfl, hI⟩ hL hdep hcl K hK
                    refine ow_load 41 _ rfl g16 0 rfl 41 (bvs N2) (bvs N2) (HT16.out wx hI.kb) (fun j v h => by rw [Nat.zero_add]; exact h) (.array 32 5) Try.underlying41 rfl I_N2.out ?_
                    exact hK _ _ ⟨v112, _, rfl, ⟨hI.t0, fun _ => rfl, hI.a3, hI.a4, hI.kb⟩⟩
                  · rintro LF aF wx ⟨v112, v113, rfl, hI⟩ hL hdep hcl K hK
                    obtain rfl := hI.t0 (hdep 0 (by decide))
                    have hA := hI.a3
                    rw [hL] at hA
                    refine ow_store 41 _ _ rfl g3 0 rfl (bvs N1) rfl 41 _ hA I_N1.out (by show 0 + (bvs N1).length ≤ (bvs A).length; rw [bvs_len, bvs_len, LN1.out, LA.out]; omega) (bvs_one _) ?_
                    intro w' hN' hg' hs
                    have hw : List.take 0 (bvs A) ++ bvs N1 ++ List.drop (0 + (bvs N1).length) (bvs A) = bvs N1 := whole_store _ _ (by rw [bvs_len, bvs_len, LN1.out, LA.out])
                    replace hN' := hw ▸ hN'
                    exact hK _ _ ⟨_, v113, rfl, ⟨hI.t0, hI.t1, hN', hI.a4.grown hg' (by intro e; injection e with e; exact H34.out e.symm), hI.kb.grown hg' (.inl rfl)⟩⟩
                  · rintro LF aF wx ⟨v112, v113, rfl, hI⟩ hL hdep hcl K hK
                    obtain rfl := hI.t1 (hdep 1 (by decide))
                    have hA := hI.a4
                    rw [hL] at hA
                    refine ow_store 41 _ _ rfl g4 0 rfl (bvs N2) rfl 41 _ hA I_N2.out (by show 0 + (bvs N2).length ≤ (bvs B).length; rw [bvs_len, bvs_len, LN2.out, LB.out]; omega) (bvs_one _) ?_
                    intro w' hN' hg' hs
                    have hw : List.take 0 (bvs B) ++ bvs N2 ++ List.drop (0 + (bvs N2).length) (bvs B) = bvs N2 := whole_store _ _ (by rw [bvs_len, bvs_len, LN2.out, LB.out])
                    replace hN' := hw ▸ hN'
                    exact hK _ _ ⟨v112, _, rfl, ⟨hI.t0, hI.t1, hI.a3.grown hg' (by intro e; injection e with e; exact H34.out e), hN', hI.kb.grown hg' (.inr rfl)⟩⟩
                  · rintro aF wx ⟨v112, v113, rfl, hI⟩
                    have a3 := hI.a3
                    have a4 := hI.a4
                    have kb := hI.kb
                    clear hI
                    simp only [if_true] at a3 a4
                    go_wp2_with fail
                    go_roundw
                    case rel => exact ⟨k + 1, N1, N2, HLT.out, by go_num, ⟨HUP.out.1.symm, HUP.out.2.symm, HXY.out, LN1.out, LN2.out⟩, a3, a4, (kb_trans HKW.out kb)⟩
                    case measure => simp [intOf]; have := HLT.out; omega
              · have hc : (xr.1 : Int) ≤ (i : Int) := by omega
                have HUP := Lib.hid (HLO.out (by omega))
                clear hcmp
                go_upto_region 13 with fail
                have HK3 : Hid (∀ wx, KB (fun q => q = g15 ∨ q = g16) w13 wx → Arr wx g3 41 (bvs A)) := fun wx hk => (hk.block g3 (HA3.out w13 HB13.out).lt (by have h1 := HG15.out; have h2 := HS12.out; omega)).trans (HA3.out w13 HB13.out)
                have HK4 : Hid (∀ wx, KB (fun q => q = g15 ∨ q = g16) w13 wx → Arr wx g4 41 (bvs B)) := fun wx hk => (hk.block g4 (HA4.out w13 HB13.out).lt (by have h1 := HG15.out; have h2 := HS12.out; omega)).trans (HA4.out w13 HB13.out)
                have HK5 : Hid (∀ wx, KB (fun q => q = g15 ∨ q = g16) w13 wx → Arr wx g5 43 X) := fun wx hk => (hk.block g5 A5.lt (by have h1 := HG15.out; have h2 := HS12.out; omega)).trans A5
                have HKP : Hid (∀ wx, KB (fun q => q = g15 ∨ q = g16) w13 wx → wx.rangeAt pb (po + k * 32) (bvs y)) := fun wx hk p v hp => (hk.cell (p := ⟨pb, po + k * 32 + p, none⟩) (by have h1 := HPL2.out.1; have h2 := HB13.out.size; show pb < _; omega) (by have h1 := HPL2.out.1; have h2 := HG15.out; show ¬ (pb = _ ∨ pb = _); omega)).trans (HPR.out w13 HB13.out p v hp)
                clear A14 A5 q1 q2 q3
                refine wp_region_steps [[], [0], [], [1, 2], [3], [], [4, 5], [], [7], [], [8, 9], [10], [], [11, 12, 6], [6], [13, 14]] (by kernel_rfl) (by kernel_rfl) (fun LF aF wx => ∃ v : Nat → Value, aF = ⟨#[.agg (bvs da).toArray, .agg (bvs db).toArray, .agg X.toArray, .pointer (some ⟨g3, 0, none⟩), .pointer (some ⟨g4, 0, none⟩), .pointer (some ⟨g5, 0, none⟩), u6, .pointer (some ⟨g7, 0, none⟩), .int .i64 0, .pointer (some ⟨g9, 0, none⟩), .int .i64 0, .slice (some ⟨rb, ro, none⟩) n rc, .int .i64 0, .int .i64 ↑k, .pointer (some ⟨g14, 0, none⟩), .pointer (some ⟨g15, 0, none⟩), .pointer (some ⟨g16, 0, none⟩), .tuple #[.agg (bvs (upF i L P da n)).toArray, .int .i64 0], .agg (bvs da).toArray, .pointer (some ⟨g5, 32, none⟩), .int .u64 ↑i, .pointer (some ⟨g5, 33, none⟩), .int .u64 ↑s, .pointer (some ⟨g5, 34, none⟩), .slice (some ⟨pb, po, none⟩) n c, .tuple #[.agg (bvs (upF i L P da n)).toArray, .int .i64 0], .agg (bvs (upF i L P da n)).toArray, .int .i64 0, .tuple #[.agg (bvs (upF i L P db n)).toArray, .int .i64 0], .agg (bvs db).toArray, .pointer (some ⟨g5, 32, none⟩), .int .u64 ↑i, .pointer (some ⟨g5, 33, none⟩), .int .u64 ↑s, .pointer (some ⟨g5, 34, none⟩), .slice (some ⟨pb, po, none⟩) n c, .tuple #[.agg (bvs (upF i L P db n)).toArray, .int .i64 0], .agg (bvs (upF i L P db n)).toArray, .int .i64 0, .int .i64 0, .int .i64 0, .bool false, .bool false, .int .i64 0, .bool false, .bool false, .bool false, .agg (bvs da).toArray, .agg (bvs db).toArray, .bool false, .bool false, undef, undef, undef, undef, undef, undef, .agg (bvs Va).toArray, .agg (bvs Va).toArray, .bool false, undef, .tuple #[.slice (some ⟨rb, ro, none⟩) n rc, .int .i64 0], .pointer (some ⟨g5, 32, none⟩), .int .u64 ↑i, .pointer (some ⟨g5, 33, none⟩), .int .u64 ↑s, .tuple #[.slice (some ⟨rb, ro, none⟩) n rc, .int .i64 0], .slice (some ⟨rb, ro, none⟩) n rc, .int .i64 0, .slice (some ⟨rb, ro, none⟩) n rc, .int .i64 ↑n, .int .i64 ↑k, .bool true, .int .i64 ↑k, .pointer (some ⟨rb, ro + k * 2, none⟩), .agg (encR xr).toArray, vF 76, vF 77, vF 78, vF 79, vF 80, vF 81, vF 82, vF 83, vF 84, vF 85, vF 86, vF 87, vF 88, vF 89, .pointer (some ⟨g14, 0, none⟩), .int .u64 ↑xr.fst, .pointer (some ⟨g5, 32, none⟩), .int .u64 ↑i, .bool true, v 95, v 96, v 97, v 98, v 99, v 100, v 101, v 102, v 103, v 104, v 105, v 106, v 107, v 108, u109, u110, u111, u112, u113, u114], []⟩ ∧ InvOnceB A B y N1 N2 M1 M2 i k n g3 g4 g5 g15 g16 pb po c w13 LF v wx) ?_ ⟨?_, ?_, ?_, ?_, ?_, ?_, ?_, ?_, ?_, ?_, ?_, ?_, ?_, ?_, ?_, ?_, trivial⟩ ?_
                · refine ⟨upd (upd (upd (upd (upd (upd (upd (upd (upd (upd (upd (upd (upd (upd (fun _ => undef) 95 (u95)) 96 (u96)) 97 (u97)) 98 (u98)) 99 (u99)) 100 (u100)) 101 (u101)) 102 (u102)) 103 (u103)) 104 (u104)) 105 (u105)) 106 (u106)) 107 (u107)) 108 (u108), rfl, ⟨?_, ?_, ?_, ?_, ?_, ?_, ?_, ?_, ?_, ?_, ?_, ?_, ?_, ?_, hA15.drew, hA16.drew, (KB.refl _ _).drew⟩⟩ <;> (intro h; exact absurd h (by decide))
                · rintro LF aF wx ⟨v, rfl, hI⟩ hL hdep hcl K hK
                  go_simp
                  exact hK _ _ ⟨(upd v 95 (.pointer (some ⟨g5, 34, none⟩))), rfl, ⟨fun _ => rfl, hI.t1, hI.t2, hI.t3, hI.t4, hI.t5, hI.t6, hI.t7, hI.t8, hI.t9, hI.t10, hI.t11, hI.t12, hI.t13, hI.a15, hI.a16, hI.kb⟩⟩
                · rintro LF aF wx ⟨v, rfl, hI⟩ hL hdep hcl K hK
                  have e0 := hI.t0 (hdep 0 (by decide))
                  rw [e0]
                  obtain ⟨k1, k2⟩ := HC5.out wx (HK5.out wx hI.kb)
                  go_simp
                  exact hK _ _ ⟨(upd (upd v 95 (.pointer (some ⟨g5, 34, none⟩))) 96 (.slice (some ⟨pb, po, none⟩) n c)), rfl, ⟨fun _ => rfl, fun _ => rfl, hI.t2, hI.t3, hI.t4, hI.t5, hI.t6, hI.t7, hI.t8, hI.t9, hI.t10, hI.t11, hI.t12, hI.t13, hI.a15, hI.a16, hI.kb⟩⟩
                · rintro LF aF wx ⟨v, rfl, hI⟩ hL hdep hcl K hK
                  go_simp
                  exact hK _ _ ⟨(upd v 97 (.int .i64 ↑k)), rfl, ⟨hI.t0, hI.t1, fun _ => rfl, hI.t3, hI.t4, hI.t5, hI.t6, hI.t7, hI.t8, hI.t9, hI.t10, hI.t11, hI.t12, hI.t13, hI.a15, hI.a16, hI.kb⟩⟩
                · rintro LF aF wx ⟨v, rfl, hI⟩ hL hdep hcl K hK
                  have e1 := hI.t1 (hdep 1 (by decide))
                  have e2 := hI.t2 (hdep 2 (by decide))
                  rw [e1, e2]
                  go_simp
                  exact hK _ _ ⟨(upd (upd (upd v 96 (.slice (some ⟨pb, po, none⟩) n c)) 97 (.int .i64 ↑k)) 98 (.pointer (some ⟨pb, po + k * 32, none⟩))), rfl, ⟨hI.t0, fun _ => rfl, fun _ => rfl, fun _ => rfl, hI.t4, hI.t5, hI.t6, hI.t7, hI.t8, hI.t9, hI.t10, hI.t11, hI.t12, hI.t13, hI.a15, hI.a16, hI.kb⟩⟩
                · rintro LF aF wx ⟨v, rfl, hI⟩ hL hdep hcl K hK
                  have e3 := hI.t3 (hdep 3 (by decide))
                  rw [e3]
                  refine wp_load_mid 41 _ rfl pb (po + k * 32) rfl (bvs y) (.array 32 5) (HKP.out wx hI.kb) Try.underlying41 rfl I_Y.out ?_
                  exact hK _ _ ⟨(upd (upd v 98 (.pointer (some ⟨pb, po + k * 32, none⟩))) 99 (.agg (bvs y).toArray)), rfl, ⟨hI.t0, hI.t1, hI.t2, fun _ => rfl, fun _ => rfl, hI.t5, hI.t6, hI.t7, hI.t8, hI.t9, hI.t10, hI.t11, hI.t12, hI.t13, hI.a15, hI.a16, hI.kb⟩⟩
                · rintro LF aF wx ⟨v, rfl, hI⟩ hL hdep hcl K hK
                  refine ow_load 41 _ rfl g3 0 rfl 41 (bvs A) (bvs A) (HK3.out wx hI.kb) (fun j v h => by rw [Nat.zero_add]; exact h) (.array 32 5) Try.underlying41 rfl I_A.out ?_
                  exact hK _ _ ⟨(upd v 100 (.agg (bvs A).toArray)), rfl, ⟨hI.t0, hI.t1, hI.t2, hI.t3, hI.t4, fun _ => rfl, hI.t6, hI.t7, hI.t8, hI.t9, hI.t10, hI.t11, hI.t12, hI.t13, hI.a15, hI.a16, hI.kb⟩⟩
                · rintro LF aF wx ⟨v, rfl, hI⟩ hL hdep hcl K hK
                  have e4 := hI.t4 (hdep 4 (by decide))
                  have e5 := hI.t5 (hdep 5 (by decide))
                  rw [e4, e5]
                  have HCC := HM1.out wx
                  go_simp
                  refine HCC.mono ?_
                  rintro e w' ⟨rfl, hb⟩
                  exact hK _ _ ⟨(upd (upd (upd v 99 (.agg (bvs y).toArray)) 100 (.agg (bvs A).toArray)) 101 (.agg (bvs M1).toArray)), rfl, ⟨hI.t0, hI.t1, hI.t2, hI.t3, fun _ => rfl, fun _ => rfl, fun _ => rfl, hI.t7, hI.t8, hI.t9, hI.t10, hI.t11, hI.t12, hI.t13, (hI.a15).kept hb, (hI.a16).kept hb, (hI.kb).below hb⟩⟩
                · rintro LF aF wx ⟨v, rfl, hI⟩ hL hdep hcl K hK
                  go_simp
                  exact hK _ _ ⟨(upd v 102 (.pointer (some ⟨g5, 34, none⟩))), rfl, ⟨hI.t0, hI.t1, hI.t2, hI.t3, hI.t4, hI.t5, hI.t6, fun _ => rfl, hI.t8, hI.t9, hI.t10, hI.t11, hI.t12, hI.t13, hI.a15, hI.a16, hI.kb⟩⟩
                · rintro LF aF wx ⟨v, rfl, hI⟩ hL hdep hcl K hK
                  have e7 := hI.t7 (hdep 7 (by decide))
                  rw [e7]
                  obtain ⟨k1, k2⟩ := HC5.out wx (HK5.out wx hI.kb)
                  go_simp
                  exact hK _ _ ⟨(upd (upd v 102 (.pointer (some ⟨g5, 34, none⟩))) 103 (.slice (some ⟨pb, po, none⟩) n c)), rfl, ⟨hI.t0, hI.t1, hI.t2, hI.t3, hI.t4, hI.t5, hI.t6, fun _ => rfl, fun _ => rfl, hI.t9, hI.t10, hI.t11, hI.t12, hI.t13, hI.a15, hI.a16, hI.kb⟩⟩
                · rintro LF aF wx ⟨v, rfl, hI⟩ hL hdep hcl K hK
                  go_simp
                  exact hK _ _ ⟨(upd v 104 (.int .i64 ↑k)), rfl, ⟨hI.t0, hI.t1, hI.t2, hI.t3, hI.t4, hI.t5, hI.t6, hI.t7, hI.t8, fun _ => rfl, hI.t10, hI.t11, hI.t12, hI.t13, hI.a15, hI.a16, hI.kb⟩⟩
                · rintro LF aF wx ⟨v, rfl, hI⟩ hL hdep hcl K hK
                  have e8 := hI.t8 (hdep 8 (by decide))
                  have e9 := hI.t9 (hdep 9 (by decide))
                  rw [e8, e9]
                  go_simp
                  exact hK _ _ ⟨(upd (upd (upd v 103 (.slice (some ⟨pb, po, none⟩) n c)) 104 (.int .i64 ↑k)) 105 (.pointer (some ⟨pb, po + k * 32, none⟩))), rfl, ⟨hI.t0, hI.t1, hI.t2, hI.t3, hI.t4, hI.t5, hI.t6, hI.t7, fun _ => rfl, fun _ => rfl, fun _ => rfl, hI.t11, hI.t12, hI.t13, hI.a15, hI.a16, hI.kb⟩⟩
                · rintro LF aF wx ⟨v, rfl, hI⟩ hL hdep hcl K hK
                  have e10 := hI.t10 (hdep 10 (by decide))
                  rw [e10]
                  refine wp_load_mid 41 _ rfl pb (po + k * 32) rfl (bvs y) (.array 32 5) (HKP.out wx hI.kb) Try.underlying41 rfl I_Y.out ?_
                  exact hK _ _ ⟨(upd (upd v 105 (.pointer (some ⟨pb, po + k * 32, none⟩))) 106 (.agg (bvs y).toArray)), rfl, ⟨hI.t0, hI.t1, hI.t2, hI.t3, hI.t4, hI.t5, hI.t6, hI.t7, hI.t8, hI.t9, fun _ => rfl, fun _ => rfl, hI.t12, hI.t13, hI.a15, hI.a16, hI.kb⟩⟩
                · rintro LF aF wx ⟨v, rfl, hI⟩ hL hdep hcl K hK
                  refine ow_load 41 _ rfl g4 0 rfl 41 (bvs B) (bvs B) (HK4.out wx hI.kb) (fun j v h => by rw [Nat.zero_add]; exact h) (.array 32 5) Try.underlying41 rfl I_B.out ?_
                  exact hK _ _ ⟨(upd v 107 (.agg (bvs B).toArray)), rfl, ⟨hI.t0, hI.t1, hI.t2, hI.t3, hI.t4, hI.t5, hI.t6, hI.t7, hI.t8, hI.t9, hI.t10, hI.t11, fun _ => rfl, hI.t13, hI.a15, hI.a16, hI.kb⟩⟩
                · rintro LF aF wx ⟨v, rfl, hI⟩ hL hdep hcl K hK
                  have e11 := hI.t11 (hdep 11 (by decide))
                  have e12 := hI.t12 (hdep 12 (by decide))
                  have e6 := hI.t6 (hdep 6 (by decide))
                  rw [e11, e12, e6]
                  have HCC := HM2.out wx
                  go_simp
                  refine HCC.mono ?_
                  rintro e w' ⟨rfl, hb⟩
                  exact hK _ _ ⟨(upd (upd (upd (upd v 106 (.agg (bvs y).toArray)) 107 (.agg (bvs B).toArray)) 101 (.agg (bvs M1).toArray)) 108 (.agg (bvs M2).toArray)), rfl, ⟨hI.t0, hI.t1, hI.t2, hI.t3, hI.t4, hI.t5, fun _ => rfl, hI.t7, hI.t8, hI.t9, hI.t10, fun _ => rfl, fun _ => rfl, fun _ => rfl, (hI.a15).kept hb, (hI.a16).kept hb, (hI.kb).below hb⟩⟩
                · rintro LF aF wx ⟨v, rfl, hI⟩ hL hdep hcl K hK
                  have e6 := hI.t6 (hdep 6 (by decide))
                  rw [e6]
                  have hA := hI.a15
                  rw [hL] at hA
                  refine ow_store 41 _ _ rfl g15 0 rfl (bvs M1) rfl 41 _ hA I_M1.out (by show 0 + (bvs M1).length ≤ (bvs N1).length; rw [bvs_len, bvs_len, LM1.out, LN1.out]; omega) (bvs_one _) ?_
                  intro w' hN' hg' hs
                  have hw : List.take 0 (bvs N1) ++ bvs M1 ++ List.drop (0 + (bvs M1).length) (bvs N1) = bvs M1 := whole_store _ _ (by rw [bvs_len, bvs_len, LM1.out, LN1.out])
                  replace hN' := hw ▸ hN'
                  exact hK _ _ ⟨(upd v 101 (.agg (bvs M1).toArray)), rfl, ⟨hI.t0, hI.t1, hI.t2, hI.t3, hI.t4, hI.t5, fun _ => rfl, hI.t7, hI.t8, hI.t9, hI.t10, hI.t11, hI.t12, hI.t13, hN', hI.a16.grown hg' (by intro e; injection e with e; exact HNE.out e.symm), hI.kb.grown hg' (.inl rfl)⟩⟩
                · rintro LF aF wx ⟨v, rfl, hI⟩ hL hdep hcl K hK
                  have e13 := hI.t13 (hdep 13 (by decide))
                  rw [e13]
                  have hA := hI.a16
                  rw [hL] at hA
                  refine ow_store 41 _ _ rfl g16 0 rfl (bvs M2) rfl 41 _ hA I_M2.out (by show 0 + (bvs M2).length ≤ (bvs N2).length; rw [bvs_len, bvs_len, LM2.out, LN2.out]; omega) (bvs_one _) ?_
                  intro w' hN' hg' hs
                  have hw : List.take 0 (bvs N2) ++ bvs M2 ++ List.drop (0 + (bvs M2).length) (bvs N2) = bvs M2 := whole_store _ _ (by rw [bvs_len, bvs_len, LM2.out, LN2.out])
                  replace hN' := hw ▸ hN'
                  exact hK _ _ ⟨(upd v 108 (.agg (bvs M2).toArray)), rfl, ⟨hI.t0, hI.t1, hI.t2, hI.t3, hI.t4, hI.t5, hI.t6, hI.t7, hI.t8, hI.t9, hI.t10, hI.t11, hI.t12, fun _ => rfl, hI.a15.grown hg' (by intro e; injection e with e; exact HNE.out e), hN', hI.kb.grown hg' (.inr rfl)⟩⟩
                · rintro aF wx ⟨vG, rfl, hI⟩
                  have hA15' := hI.a15
                  have hA16' := hI.a16
                  have kb := hI.kb
                  clear hI
                  simp only [if_true] at hA15' hA16'
                  obtain ⟨w14, hw14⟩ : ∃ W, W = wx := ⟨_, rfl⟩
                  rw [← hw14] at hA15' hA16' kb ⊢
                  clear hw14
                  have T3 := HK3.out w14 kb
                  have T4 := HK4.out w14 kb
                  have HKW : Hid (KB (fun q => q = g3 ∨ q = g4) w10 w14) := kb_free (HK12.out.below HB13.out) kb (fun q e => by have h1 := HG15.out; have h2 := HK12.out.size; rcases e with rfl | rfl <;> omega)
                  have hA15 := hA15'
                  have hA16 := hA16'
                  clear hA15' hA16' kb HK3 HK4 HK5 HKP
                  by_cases hxy : M1 = M2
                  · have hd1 : decide (M1 = M2) = true := decide_eq_true hxy
                    have HD1 := Lib.hid hd1
                    clear hxy hd1
                    go_wp2_with (first
                      | ((with_reducible show wpList _ _ _ (⟨some 109, .load _ _, _, _, _, _⟩ :: _) _ _); refine wl_load rfl 41 _ rfl g15 0 rfl 41 (bvs M1) (bvs M1) hA15 (fun j v h => (by rw [Nat.zero_add]; exact h)) (.array 32 5) Try.underlying41 rfl I_M1.out ?_)
                      | ((with_reducible show wpList _ _ _ (⟨some 110, .load _ _, _, _, _, _⟩ :: _) _ _); refine wl_load rfl 41 _ rfl g16 0 rfl 41 (bvs M2) (bvs M2) hA16 (fun j v h => (by rw [Nat.zero_add]; exact h)) (.array 32 5) Try.underlying41 rfl I_M2.out ?_)
                      | ((with_reducible show wpList _ _ _ (⟨some 111, .binOp _ _ _ _ _, _, _, _, _⟩ :: _) _ _); refine wl_eqV rfl _ _ _ rfl M1 M2 true HD1.out LM1.out LM2.out rfl rfl ?_))
                    go_ret
                    have hb0 := B0.out
                    have hbs := HBS.out
                    exact ⟨rfl, hb0.trans ((HKW.out).under (fun q e => by omega) hb0.size)⟩
                  · have hd1 : decide (M1 = M2) = false := decide_eq_false hxy
                    have HD1 := Lib.hid hd1
                    have HXY := Lib.hid hxy
                    clear hxy hd1
                    go_upto_region 16 with (first
                      | ((with_reducible show wpList _ _ _ (⟨some 109, .load _ _, _, _, _, _⟩ :: _) _ _); refine wl_load rfl 41 _ rfl g15 0 rfl 41 (bvs M1) (bvs M1) hA15 (fun j v h => (by rw [Nat.zero_add]; exact h)) (.array 32 5) Try.underlying41 rfl I_M1.out ?_)
                      | ((with_reducible show wpList _ _ _ (⟨some 110, .load _ _, _, _, _, _⟩ :: _) _ _); refine wl_load rfl 41 _ rfl g16 0 rfl 41 (bvs M2) (bvs M2) hA16 (fun j v h => (by rw [Nat.zero_add]; exact h)) (.array 32 5) Try.underlying41 rfl I_M2.out ?_)
                      | ((with_reducible show wpList _ _ _ (⟨some 111, .binOp _ _ _ _ _, _, _, _, _⟩ :: _) _ _); refine wl_eqV rfl _ _ _ rfl M1 M2 false HD1.out LM1.out LM2.out rfl rfl ?_))
                    go_simp
                    have HT15 : Hid (∀ wx, KB (fun q => q = g3 ∨ q = g4) w14 wx → Arr wx g15 41 (bvs M1)) := fun wx hk => (hk.block g15 hA15.lt (by have h1 := HG15.out; have h2 := HS12.out; omega)).trans hA15
                    have HT16 : Hid (∀ wx, KB (fun q => q = g3 ∨ q = g4) w14 wx → Arr wx g16 41 (bvs M2)) := fun wx hk => (hk.block g16 hA16.lt (by have h1 := HG15.out; have h2 := HS12.out; omega)).trans hA16
                    clear hA15 hA16
                    refine wp_region_steps [[], [], [0], [1, 2]] (by kernel_rfl) (by kernel_rfl) (fun LF aF wx => ∃ v112 v113, aF = ⟨#[.agg (bvs da).toArray, .agg (bvs db).toArray, .agg X.toArray, .pointer (some ⟨g3, 0, none⟩), .pointer (some ⟨g4, 0, none⟩), .pointer (some ⟨g5, 0, none⟩), u6, .pointer (some ⟨g7, 0, none⟩), .int .i64 0, .pointer (some ⟨g9, 0, none⟩), .int .i64 0, .slice (some ⟨rb, ro, none⟩) n rc, .int .i64 0, .int .i64 ↑k, .pointer (some ⟨g14, 0, none⟩), .pointer (some ⟨g15, 0, none⟩), .pointer (some ⟨g16, 0, none⟩), .tuple #[.agg (bvs (upF i L P da n)).toArray, .int .i64 0], .agg (bvs da).toArray, .pointer (some ⟨g5, 32, none⟩), .int .u64 ↑i, .pointer (some ⟨g5, 33, none⟩), .int .u64 ↑s, .pointer (some ⟨g5, 34, none⟩), .slice (some ⟨pb, po, none⟩) n c, .tuple #[.agg (bvs (upF i L P da n)).toArray, .int .i64 0], .agg (bvs (upF i L P da n)).toArray, .int .i64 0, .tuple #[.agg (bvs (upF i L P db n)).toArray, .int .i64 0], .agg (bvs db).toArray, .pointer (some ⟨g5, 32, none⟩), .int .u64 ↑i, .pointer (some ⟨g5, 33, none⟩), .int .u64 ↑s, .pointer (some ⟨g5, 34, none⟩), .slice (some ⟨pb, po, none⟩) n c, .tuple #[.agg (bvs (upF i L P db n)).toArray, .int .i64 0], .agg (bvs (upF i L P db n)).toArray, .int .i64 0, .int .i64 0, .int .i64 0, .bool false, .bool false, .int .i64 0, .bool false, .bool false, .bool false, .agg (bvs da).toArray, .agg (bvs db).toArray, .bool false, .bool false, undef, undef, undef, undef, undef, undef, .agg (bvs Va).toArray, .agg (bvs Va).toArray, .bool false, undef, .tuple #[.slice (some ⟨rb, ro, none⟩) n rc, .int .i64 0], .pointer (some ⟨g5, 32, none⟩), .int .u64 ↑i, .pointer (some ⟨g5, 33, none⟩), .int .u64 ↑s, .tuple #[.slice (some ⟨rb, ro, none⟩) n rc, .int .i64 0], .slice (some ⟨rb, ro, none⟩) n rc, .int .i64 0, .slice (some ⟨rb, ro, none⟩) n rc, .int .i64 ↑n, .int .i64 ↑k, .bool true, .int .i64 ↑k, .pointer (some ⟨rb, ro + k * 2, none⟩), .agg (encR xr).toArray, vF 76, vF 77, vF 78, vF 79, vF 80, vF 81, vF 82, vF 83, vF 84, vF 85, vF 86, vF 87, vF 88, vF 89, .pointer (some ⟨g14, 0, none⟩), .int .u64 ↑xr.fst, .pointer (some ⟨g5, 32, none⟩), .int .u64 ↑i, .bool true, vG 95, vG 96, vG 97, vG 98, vG 99, vG 100, vG 101, vG 102, vG 103, vG 104, vG 105, vG 106, vG 107, vG 108, .agg (bvs M1).toArray, .agg (bvs M2).toArray, .bool false, v112, v113, u114], []⟩ ∧ InvOnce16L A B M1 M2 g3 g4 g15 g16 w14 LF v112 v113 wx) ?_ ⟨?_, ?_, ?_, ?_, trivial⟩ ?_
                    · refine ⟨_, _, rfl, ⟨?_, ?_, T3.drew, T4.drew, (KB.refl _ _).drew⟩⟩ <;> (intro h; exact absurd h (by decide))
                    · rintro LF aF wx ⟨v112, v113, rfl, hI⟩ hL hdep hcl K hK
                      refine ow_load 41 _ rfl g15 0 rfl 41 (bvs M1) (bvs M1) (HT15.out wx hI.kb) (fun j v h => by rw [Nat.zero_add]; exact h) (.array 32 5) Try.underlying41 rfl I_M1.out ?_
                      exact hK _ _ ⟨_, v113, rfl, ⟨fun _ => rfl, hI.t1, hI.a3, hI.a4, hI.kb⟩⟩
                    · rintro LF aF wx ⟨v112, v113, rfl, hI⟩ hL hdep hcl K hK
                      refine ow_load 41 _ rfl g16 0 rfl 41 (bvs M2) (bvs M2) (HT16.out wx hI.kb) (fun j v h => by rw [Nat.zero_add]; exact h) (.array 32 5) Try.underlying41 rfl I_M2.out ?_
                      exact hK _ _ ⟨v112, _, rfl, ⟨hI.t0, fun _ => rfl, hI.a3, hI.a4, hI.kb⟩⟩
                    · rintro LF aF wx ⟨v112, v113, rfl, hI⟩ hL hdep hcl K hK
                      obtain rfl := hI.t0 (hdep 0 (by decide))
                      have hA := hI.a3
                      rw [hL] at hA
                      refine ow_store 41 _ _ rfl g3 0 rfl (bvs M1) rfl 41 _ hA I_M1.out (by show 0 + (bvs M1).length ≤ (bvs A).length; rw [bvs_len, bvs_len, LM1.out, LA.out]; omega) (bvs_one _) ?_
                      intro w' hN' hg' hs
                      have hw : List.take 0 (bvs A) ++ bvs M1 ++ List.drop (0 + (bvs M1).length) (bvs A) = bvs M1 := whole_store _ _ (by rw [bvs_len, bvs_len, LM1.out, LA.out])
                      replace hN' := hw ▸ hN'
                      exact hK _ _ ⟨_, v113, rfl, ⟨hI.t0, hI.t1, hN', hI.a4.grown hg' (by intro e; injection e with e; exact H34.out e.symm), hI.kb.grown hg' (.inl rfl)⟩⟩
                    · rintro LF aF wx ⟨v112, v113, rfl, hI⟩ hL hdep hcl K hK
                      obtain rfl := hI.t1 (hdep 1 (by decide))
                      have hA := hI.a4
                      rw [hL] at hA
                      refine ow_store 41 _ _ rfl g4 0 rfl (bvs M2) rfl 41 _ hA I_M2.out (by show 0 + (bvs M2).length ≤ (bvs B).length; rw [bvs_len, bvs_len, LM2.out, LB.out]; omega) (bvs_one _) ?_
                      intro w' hN' hg' hs
                      have hw : List.take 0 (bvs B) ++ bvs M2 ++ List.drop (0 + (bvs M2).length) (bvs B) = bvs M2 := whole_store _ _ (by rw [bvs_len, bvs_len, LM2.out, LB.out])
                      replace hN' := hw ▸ hN'
                      exact hK _ _ ⟨v112, _, rfl, ⟨hI.t0, hI.t1, hI.a3.grown hg' (by intro e; injection e with e; exact H34.out e), hN', hI.kb.grown hg' (.inr rfl)⟩⟩
                    · rintro aF wx ⟨v112, v113, rfl, hI⟩
                      have a3 := hI.a3
                      have a4 := hI.a4
                      have kb := hI.kb
                      clear hI
                      simp only [if_true] at a3 a4
                      go_wp2_with fail
                      go_roundw
                      case rel => exact ⟨k + 1, M1, M2, HLT.out, by go_num, ⟨HUP.out.1.symm, HUP.out.2.symm, HXY.out, LM1.out, LM2.out⟩, a3, a4, (kb_trans HKW.out kb)⟩
                      case measure => simp [intOf]; have := HLT.out; omega
          · obtain rfl : k = n := by omega
            obtain ⟨hAe, hBe, hABne, -, -⟩ := hAB.out
            exact absurd (hAe.trans (HUE.out.trans hBe.symm)) hABne
      · have hdv : (!decide (Va = Vb)) = true := by rw [decide_eq_false hvv]; rfl
        have HDV := Lib.hid hdv
        clear hvv hdv hva hvb
        go_wp2_with (first
          | ((with_reducible show wpList _ _ _ (⟨some 57, .load _ _, _, _, _, _⟩ :: _) _ _); refine wl_load rfl 41 _ rfl g7 0 rfl 41 (bvs Va) (bvs Va) A7 (fun j v h => (by rw [Nat.zero_add]; exact h)) (.array 32 5) Try.underlying41 rfl IVA.out ?_)
          | ((with_reducible show wpList _ _ _ (⟨some 58, .load _ _, _, _, _, _⟩ :: _) _ _); refine wl_load rfl 41 _ rfl g9 0 rfl 41 (bvs Vb) (bvs Vb) hA9 (fun j v h => (by rw [Nat.zero_add]; exact h)) (.array 32 5) Try.underlying41 rfl IVB.out ?_)
          | ((with_reducible show wpList _ _ _ (⟨some 59, .binOp _ _ _ _ _, _, _, _, _⟩ :: _) _ _); refine wl_neV rfl _ _ _ rfl Va Vb true HDV.out HLVA.out HLVB.out rfl rfl ?_)
          | (go_at_call 12; refine (HW.out _).mono ?_; rintro e w10 ⟨rfl, hb10⟩))
        go_ret
        exact ⟨rfl, B09.out.trans (hb10.mono B09.out.size)⟩
end Go.Proofs.Ytbmhobbeimhodaa
