/-
  Joined texts: RnJ, RnK. Conditions: those in each statement.
-/
import Derived.Test.YtlfncgpjgbpdjaaRnI
import Derived.Great.FillDense
namespace Go.Proofs.Ytlfncgpjgbpdjaa
open Go.RowKit

theorem fold_put (off : Nat) (l : List Value) (cs : List Value) (h : off + l.length ≤ cs.length) :
    (l.toArray.zipIdx.foldl (fun cs (x : Value × Nat) => cs.setIfInBounds (off + x.2) x.1) cs.toArray) = (cs.take off ++ l ++ cs.drop (off + l.length)).toArray := by
  obtain ⟨h1, h2⟩ := Great.foldl_set off l 0 cs.toArray
  have e : l.toArray.zipIdx.foldl (fun cs (x : Value × Nat) => cs.setIfInBounds (off + x.2) x.1) cs.toArray = (l.zipIdx 0).foldl (fun cs (x : Value × Nat) => cs.setIfInBounds (off + x.2) x.1) cs.toArray := by
    rw [← Array.foldl_toList]
    simp
  rw [e]
  apply Array.ext_getElem?
  intro k
  rw [h2 k]
  simp only [List.size_toArray, List.getElem?_toArray, Nat.add_zero]
  by_cases hk : off ≤ k ∧ k < off + l.length ∧ k < cs.length
  · rw [if_pos hk, List.append_assoc, List.getElem?_append_right (by rw [List.length_take]; omega), List.getElem?_append_left (by rw [List.length_take]; omega)]
    congr 1
    rw [List.length_take]
    omega
  · rw [if_neg hk]
    by_cases h3 : k < off
    · rw [List.append_assoc, List.getElem?_append_left (by rw [List.length_take]; omega), List.getElem?_take, if_pos h3]
    · rw [List.getElem?_append_right (by rw [List.length_append, List.length_take]; omega), List.getElem?_drop]
      congr 1
      rw [List.length_append, List.length_take]
      omega
theorem fill_nil (place : Nat → Option (Nat × Nat)) (cs : List Value) : Instr.fill place cs.toArray [] = some cs.toArray := rfl
/-- one part more -/
theorem fill_cons (place : Nat → Option (Nat × Nat)) (cs : List Value) (i off : Nat) (v : Value) (l : List Value) (rest : List (Nat × Value)) (hv : v.cells = l.toArray) (hp : place i = some (off, l.length)) (h : off + l.length ≤ cs.length) :
    Instr.fill place cs.toArray ((i, v) :: rest) = Instr.fill place (cs.take off ++ l ++ cs.drop (off + l.length)).toArray rest := by
  conv => lhs; unfold Instr.fill
  rw [hp, hv]
  simp only
  rw [if_neg (by simp; omega), fold_put off l cs h]
theorem built_unf (parts : List (Nat × Value)) : Try.prog.built 63 parts = Instr.fill (fun i => (#[(0, 1), (1, 32)] : Array (Nat × Nat))[i]?) Zp.toArray parts := by kernel_rfl
theorem built_part (n : Int) (X : List UInt8) (hX : X.length = 32) : Try.prog.built 63 [(0, .int .u64 n), (1, .agg (bvs X).toArray)] = some (.int .u64 n :: bvs X).toArray := by
  rw [built_unf, fill_cons _ Zp 0 0 _ [.int .u64 n] _ rfl rfl (by simp [Zp, encP]), fill_cons _ _ 1 1 _ (bvs X) _ rfl (by rw [bvs_len, hX]; rfl) (by simp [Zp, encP, bvs_len, hX, Z8]), fill_nil]
  have e : (List.take 0 Zp ++ [Value.int .u64 n] ++ List.drop (0 + [Value.int .u64 n].length) Zp).length = 33 := by simp [Zp, encP, bvs_len, Z8]
  rw [show List.drop (1 + (bvs X).length) (List.take 0 Zp ++ [Value.int .u64 n] ++ List.drop (0 + [Value.int .u64 n].length) Zp) = [] from List.drop_of_length_le (by rw [e, bvs_len, hX]; omega)]
  simp

/-- the powers of 2 from 2 ^ q / 2 on -/
def hiQ : Nat → Nat → List Nat
  | 0, _ => []
  | k + 1, m => if 2 ^ k ≤ m then 2 ^ k :: hiQ k (m - 2 ^ k) else hiQ k m
theorem hiQ_hiP : ∀ (k m : Nat), hiQ (k + 1) m = hiP k m := by
  intro k
  induction k with
  | zero => intro m; simp [hiQ, hiP]
  | succ k ih =>
    intro m
    rw [hiQ, hiP, ih, ih]
theorem hiQ_all (n : Nat) (h : n < 2 ^ 21) : hiQ 21 n = (lowP 1 n).reverse := by rw [hiQ_hiP, hiP_low 20 n h]
theorem partsF_zip {n : Nat} {P : List (List UInt8)} (h : P.length = popN n) : ((lowP 1 n).reverse).zip P = partsF n P := by
  unfold partsF pkZ
  have key : ∀ (a : List Nat) (b : List (List UInt8)), a.length = b.length → (a.zip b).reverse = a.reverse.zip b.reverse := by
    intro a b hab
    apply List.ext_getElem
    · simp [hab]
    · intro i h1 h2
      simp only [List.getElem_reverse, List.getElem_zip, List.length_zip]
      simp only [List.length_reverse, List.length_zip] at h1
      refine Prod.ext ?_ ?_
      · simp only; congr 1; omega
      · simp only; congr 1; omega
  rw [key _ _ (by rw [List.length_reverse]; exact h.symm), List.reverse_reverse]
/-- what From tells -/
def FromRes (w : World) (n : Nat) (P : List (List UInt8)) (e : Ending) (w' : World) : Prop :=
  ((P.length = popN n ∧ ∃ p, e = .returned (.tuple #[.pointer (some ⟨p, 0, none⟩), .int .i64 0]) ∧ IsW w.heap.size w' p n P) ∨ (P.length ≠ popN n ∧ e = .returned (.tuple #[.pointer none, .int .i64 1]))) ∧ Below w.heap.size w w'
theorem rFrom_big (m n : Nat) (al : Option Addr) (c : Nat) (w : World) (hn : 1048576 < n) :
    Calls Try.prog 15 #[.slice al m c, .int .u64 (n : Int)] w fun e w' => e = .returned (.tuple #[.pointer none, .int .i64 1]) ∧ w = w' := by
  have hd : (1048576 : Int) < (n : Int) := by omega
  clear hn
  go_enter Try.func15, Try.ntmps15
  go_wp2
  go_ret2
  exact ⟨rfl, rfl⟩
theorem built_wof (n : Nat) : Try.prog.built 54 [(0, .int .u64 (n : Int))] = some #[.int .u64 (n : Int), .slice none 0 0] := by kernel_rfl
theorem own_new {v : Value} {C r : Nat} (hr : C ≤ r) (hO : ∀ g, v.ownBlock = some g → g < C) : some r ≠ v.ownBlock := by
  intro e
  have := hO r e.symm
  omega
structure InvWFrom (X : List UInt8) (Z0 : List (Nat × List UInt8)) (av : Option Addr) (b off m c j N cv left l2 p n B0 : Nat) (bb : Bool) (w : World) (u4 u5 u17 u18 u33 u34 u35 u36 u37 u38 u39 u40 u41 u42 u43 u44 u45 u46 u47 u48 u49 u50 u51 : Value) (W0 : World) (L : Nat → Bool) (v33 v34 v35 v36 v37 v38 v39 v40 v41 v42 v43 v44 v45 v46 v47 v48 v49 v50 v51 : Value) (wx : World) : Prop where
  t0 : L 0 = true → v33 = .pointer (some ⟨p, 0, none⟩)
  t1 : L 1 = true → v34 = .pointer (some ⟨p, 0, none⟩)
  t2 : L 2 = true → v35 = .pointer (some ⟨p, 0, none⟩)
  t3 : L 3 = true → v36 = .pointer (some ⟨p, 1, none⟩)
  t4 : L 4 = true → v37 = .slice av j cv
  t5 : L 5 = true → v38 = .int .u64 ↑N
  t6 : L 6 = true → v39 = .slice (some ⟨b, off, none⟩) m c
  t7 : L 7 = true → v40 = .pointer (some ⟨p, 0, none⟩)
  t8 : L 8 = true → v41 = .pointer (some ⟨p, 0, none⟩)
  t9 : L 9 = true → v42 = .pointer (some ⟨p, 1, none⟩)
  t10 : L 10 = true → v43 = .slice av j cv
  t11 : L 11 = true → v44 = .int .i64 (j : Int)
  t12 : L 12 = true → v45 = .pointer (some ⟨b, off + j * 32, none⟩)
  t13 : L 13 = true → v46 = .agg (bvs X).toArray
  t14 : L 14 = true → v47 = .agg (encP (N, X)).toArray
  t15 : L 15 = true → ∃ r, v48 = .slice (some ⟨r, 0, none⟩) 1 1 ∧ Arr wx r 63 (encP (N, X)) ∧ W0.heap.size ≤ r
  t16 : L 16 = true → OwnP wx B0 v49 (Z0 ++ [(N, X)])
  t17 : L 17 = true → v50 = .pointer (some ⟨p, 0, none⟩)
  t18 : L 18 = true → v51 = .pointer (some ⟨p, 1, none⟩)
  ap : L 19 = false → Arr wx p 54 [.int .u64 (n : Int), .slice av j cv]
  apx : L 19 = true → Arr wx p 54 [.int .u64 (n : Int), v49]
  ow : L 16 = false → OwnP wx B0 (.slice av j cv) Z0
  kb : Below B0 w wx
  sz : W0.heap.size ≤ wx.heap.size
set_option maxRecDepth 100000 in
set_option maxHeartbeats 3200000 in
theorem rFrom_any (P : List (List UInt8)) (al : Option Addr) (m c n : Nat) (w : World) (hr : RdD w al m c P) (hn : n ≤ 1048576) (hmB : m ≤ 2 ^ 50) :
    Calls Try.prog 15 #[.slice al m c, .int .u64 (n : Int)] w (FromRes w n P) := by
  have hlen := hr.len
  have hall := hr.all
  have hq := hiQ_all n (by omega)
  obtain ⟨Qn, hQn⟩ : ∃ q, q = hiQ 21 n := ⟨_, rfl⟩
  rw [← hQn] at hq
  have HQN := Lib.hid hQn
  clear hQn
  have hd : ¬ ((1048576 : Int) < (n : Int)) := by omega
  have HN := Lib.hid hn
  have HR := Lib.hid hr
  have HL := Lib.hid hlen
  have HALL := Lib.hid hall
  have HQ := Lib.hid hq
  have hcap := hr.le
  have hbu := built_wof n
  clear hr hlen hall hq hn
  go_enter Try.func15, Try.ntmps15
  go_upto_region 5 with (first
    | ((with_reducible show wpList _ _ _ (⟨some 12, .build _ _, _, _, _, _⟩ :: _) _ _); refine wpList_buildTo rfl 54 _ rfl (some 12) rfl #[.int .u64 (n : Int), .slice none 0 0] (by simpa [Act.eval] using hbu) ?_)
    | ((with_reducible show wpList _ _ _ (⟨some 13, .box _ _, _, _, _, _⟩ :: _) _ _); refine wl_box rfl 54 _ rfl [.int .u64 (n : Int), .slice none 0 0] rfl ?_; intro w1 hA1 hb1 hs1))
  clear hd hbu
  obtain ⟨p, hp⟩ : ∃ p, p = w.heap.size := ⟨_, rfl⟩
  rw [← hp] at hA1 hs1 ⊢
  have HP := Lib.hid hp
  clear hp
  go_wp2_with fail
  go_loopw [7, 8] (fun lf nn wr => ∃ (k left : Nat) (done : List Nat) (av : Option Addr) (cv : Nat), k ≤ 21 ∧ lf = .int .u64 (left : Int) ∧ nn = .int .u64 ((2 ^ k / 2 : Nat) : Int) ∧ Qn = done ++ hiQ k left ∧ left < 2 ^ k ∧ left ≤ 1048576 ∧ done.length ≤ m ∧ Arr wr p 54 [.int .u64 (n : Int), .slice av done.length cv] ∧ OwnP wr w.heap.size (.slice av done.length cv) (done.zip P) ∧ Below w.heap.size w wr) (fun _ nn _ => (intOf nn).toNat)
  case atStart => exact ⟨21, n, [], none, 0, Nat.le_refl _, rfl, congrArg (Value.int .u64) (by decide), HQN.out, by have := HN.out; omega, HN.out, Nat.zero_le _, hA1, OwnG.nil _ _, hb1⟩
  case round =>
    clear hA1 hb1 hs1
    obtain ⟨k, left, done, av, cv, hk, rfl, rfl, hhi, hlt, hlf, hdm, hA, hO, hB⟩ := hrel
    have c1 := hA.cell 1
    simp only [List.getElem?_cons_succ, List.getElem?_cons_zero] at c1
    cases k with
    | zero =>
      have hl0 : left = 0 := by simpa using hlt
      rw [hiQ, List.append_nil] at hhi
      have hpop : popN n = done.length := by
        have := congrArg List.length hhi
        rw [HQ.out, List.length_reverse] at this
        exact this
      obtain ⟨j, hj⟩ : ∃ j, j = done.length := ⟨_, rfl⟩
      have HJ := Lib.hid hj
      rw [← hj] at c1 hA hO hdm
      have HPOP := Lib.hid hpop
      have HHI := Lib.hid hhi
      have e0 : ((2 ^ 0 / 2 : Nat) : Int) = 0 := rfl
      rw [e0]
      clear hpop hhi hlt hj hl0
      by_cases hjm : j = m
      · subst hjm
        go_wp2
        go_ret2
        refine ⟨.inl ⟨by rw [HL.out, HPOP.out, HJ.out], p, rfl, ⟨⟨_, hA, ?_⟩, HALL.out, by rw [HL.out, HPOP.out, HJ.out], HN.out, by rw [HP.out]; exact Nat.le_refl _⟩⟩, hB⟩
        rw [← partsF_zip (by rw [HL.out, HPOP.out, HJ.out]), ← HQ.out, HHI.out]
        exact hO
      · have hne : ¬ ((j : Int) = (m : Int)) := by omega
        go_wp2
        go_ret2
        exact ⟨.inr ⟨by rw [HL.out, HPOP.out, ← HJ.out]; omega, rfl⟩, hB⟩
    | succ k =>
      have e0 : 2 ^ (k + 1) / 2 = 2 ^ k := by rw [Nat.pow_succ]; omega
      rw [e0]
      have hkp : 2 ^ k ≤ 2 ^ 20 := Nat.pow_le_pow_right (by omega) (by omega)
      have hpp := Nat.two_pow_pos k
      rw [Nat.pow_succ] at hlt
      obtain ⟨N, hN⟩ : ∃ N, N = 2 ^ k := ⟨_, rfl⟩
      rw [← hN] at hlt hkp hpp ⊢
      have hN0 : (0 : Int) < (N : Int) := by omega
      have hN0' : 0 < N := by omega
      rw [hiQ, ← hN] at hhi
      have HNN := Lib.hid hN
      have eh : ((N : Int) / 2) = ((2 ^ k / 2 : Nat) : Int) := by rw [← hN]; omega
      have HEH := Lib.hid eh
      have HW2 : Hid (IntKind.u64.wrap ((N : Int) / 2) = (N : Int) / 2) := by show _ = _; rw [IntKind.wrap_u64]; omega
      have HKP := Lib.hid hkp
      have HKK := Lib.hid hk
      clear hN e0 eh hkp hk
      by_cases hln : left < N
      · rw [if_neg (by omega)] at hhi
        have hc : (left : Int) < (N : Int) := by omega
        have HLT : Hid (left < 2 ^ k) := by show _ < _; rw [← HNN.out]; exact hln
        have HHI := Lib.hid hhi
        have HLF := Lib.hid hlf
        clear hhi hlt hlf
        go_wp2_with fail
        go_roundw
        case rel => exact ⟨k, left, done, av, cv, by have := HKK.out; omega, rfl, congrArg (Value.int .u64) (HW2.out.trans HEH.out), HHI.out, HLT.out, HLF.out, hdm, hA, hO, hB⟩
        case measure => rw [HW2.out]; simp [intOf]; omega
      · rw [if_pos (by omega)] at hhi
        have hc : ¬ ((left : Int) < (N : Int)) := by omega
        have hsub : Hid (IntKind.u64.wrap ((left : Int) - (N : Int)) = ((left - N : Nat) : Int)) := by show _ = _; rw [IntKind.wrap_u64]; omega
        have hlt' : Hid (left - N < 2 ^ k) := by show _ < _; rw [← HNN.out]; omega
        obtain ⟨j, hj⟩ : ∃ j, j = done.length := ⟨_, rfl⟩
        have HJ := Lib.hid hj
        rw [← hj] at c1 hA hO hdm
        have HHI := Lib.hid hhi
        have HLF := Lib.hid hlf
        clear hhi hlt hj hlf
        by_cases hjm : j = m
        · have hpop : Hid (P.length ≠ popN n) := by
            have h1 := congrArg List.length HHI.out
            rw [HQ.out, List.length_reverse, List.length_append, List.length_cons, ← HJ.out] at h1
            show P.length ≠ (lowP 1 n).length
            rw [HL.out, h1]
            omega
          subst hjm
          go_wp2
          go_ret2
          exact ⟨.inr ⟨hpop.out, rfl⟩, hB⟩
        · have hne : ¬ ((j : Int) = (m : Int)) := by omega
          have hjl : j < m := by omega
          obtain ⟨b, off, rfl, hbl, -⟩ := HR.out.mem (by omega)
          have hbase := World.ownsRow.lt hO.row
          obtain ⟨X, hX⟩ : ∃ X, X = P.getD j [] := ⟨_, rfl⟩
          have hx32 : X.length = 32 := by rw [hX]; exact HALL.out j (by rw [HL.out]; exact hjl)
          have hrg : Hid (∀ wx, Below w.heap.size w wx → wx.rangeAt b (off + j * 32) (bvs X)) := fun wx hb => by rw [hX]; exact (HR.out.to hb).range j hjl
          have IX : Hid ((Try.prog.info? 29).map (·.size) = some (bvs X).length) := by show _ = _; rw [bvs_len, hx32]; exact sizeD
          have hzl : Hid ((done.zip P).length = j) := by show _ = _; rw [List.length_zip, HL.out, ← HJ.out]; omega
          have hzs : Hid (done.zip P ++ [(N, X)] = (done ++ [N]).zip P) := by
            show _ = _
            have e1 : P = P.take j ++ (X :: P.drop (j + 1)) := by
              conv => lhs; rw [← List.take_append_drop j P]
              rw [List.drop_eq_getElem_cons (by rw [HL.out]; exact hjl), hX]
              simp [List.getD, show j < P.length by rw [HL.out]; exact hjl]
            have e2 : done.zip P = done.zip (P.take j) := by
              conv => lhs; rw [e1]
              rw [HJ.out]
              have := List.zip_append (l₁ := done) (r₁ := []) (l₂ := P.take done.length) (r₂ := X :: P.drop (done.length + 1)) (by rw [List.length_take, HL.out, ← HJ.out]; omega)
              rw [List.append_nil] at this
              rw [this]
              simp
            rw [e2]
            conv => rhs; rw [e1]
            rw [HJ.out, List.zip_append (by rw [List.length_take, HL.out, ← HJ.out]; omega)]
            rfl
          have HX32 := Lib.hid hx32
          have g1 : (0 : Int) ≤ (j : Int) := by omega
          have g2 : (j : Int) < (m : Int) := by omega
          have hpb : b < w.heap.size := hbl
          have HB := Lib.hid hB
          have hBs := hB.size
          have HP2 : Hid (p < wr.heap.size) := hA.lt
          have hj20 : Hid (j ≤ 2 ^ 20) := by
            show _ ≤ _
            have h1 := congrArg List.length HHI.out
            rw [HQ.out, List.length_reverse, List.length_append, List.length_cons, ← HJ.out] at h1
            have := lowP_len_lt 21 n 1 (by have := HN.out; omega)
            omega
          clear hX hx32 hB hbase
          go_upto_region 12 with fail
          clear c1
          rw [hsub.out]
          obtain ⟨l2, hl2⟩ : ∃ l2, l2 = left - N := ⟨_, rfl⟩
          rw [← hl2]
          have HL2 := Lib.hid hl2
          clear hl2
          generalize ((j : Int) == (m : Int)) = bb
          have hOB : ∀ g, (Value.slice av j cv).ownBlock = some g → g < wr.heap.size := fun g e => (World.ownsRow.lt hO.row g e).2
          refine wp_region_steps [[], [], [1], [2], [3], [], [], [], [7], [8], [9], [10], [6, 11], [12], [5, 13], [14], [4, 15], [0], [17], [18, 16, 0, 1, 2, 3, 4, 5, 6, 7, 8, 9, 10, 11, 12, 13, 14, 15]] (by kernel_rfl) (by kernel_rfl) (fun L a wx => ∃ v33 v34 v35 v36 v37 v38 v39 v40 v41 v42 v43 v44 v45 v46 v47 v48 v49 v50 v51, a = ⟨#[.slice (some ⟨b, off, none⟩) m c, .int .u64 ↑n, undef, undef, u4, u5, .pointer (some ⟨p, 0, none⟩), .int .u64 ↑l2, .int .u64 ↑N, .int .u64 ↑n, .bool false, .int .u64 ↑n, .agg #[.int .u64 ↑n, .slice none 0 0], .pointer (some ⟨p, 0, none⟩), .int .u64 ↑n, .int .u64 ↑N, .bool true, u17, u18, .int .u64 ↑left, .int .u64 ↑N, .bool false, .int .u64 ↑left, .int .u64 ↑N, .int .u64 ↑l2, .pointer (some ⟨p, 0, none⟩), .pointer (some ⟨p, 0, none⟩), .pointer (some ⟨p, 1, none⟩), .slice av j cv, .int .i64 ↑j, .slice (some ⟨b, off, none⟩) m c, .int .i64 ↑m, .bool bb, v33, v34, v35, v36, v37, v38, v39, v40, v41, v42, v43, v44, v45, v46, v47, v48, v49, v50, v51, undef, undef, undef, undef, undef, undef, undef, undef, undef], []⟩ ∧ InvWFrom X (done.zip P) av b off m c j N cv left l2 p n w.heap.size bb w u4 u5 u17 u18 u33 u34 u35 u36 u37 u38 u39 u40 u41 u42 u43 u44 u45 u46 u47 u48 u49 u50 u51 wr L v33 v34 v35 v36 v37 v38 v39 v40 v41 v42 v43 v44 v45 v46 v47 v48 v49 v50 v51 wx) ?_ ⟨?_, ?_, ?_, ?_, ?_, ?_, ?_, ?_, ?_, ?_, ?_, ?_, ?_, ?_, ?_, ?_, ?_, ?_, ?_, ?_, trivial⟩ ?_
          · refine ⟨_, _, _, _, _, _, _, _, _, _, _, _, _, _, _, _, _, _, _, rfl, ⟨?_, ?_, ?_, ?_, ?_, ?_, ?_, ?_, ?_, ?_, ?_, ?_, ?_, ?_, ?_, ?_, ?_, ?_, ?_, fun _ => hA.drew, (fun h => nomatch (show false = true from h)), fun _ => hO.to (Below.refl _ _).drew, HB.out.drew, Nat.le_refl _⟩⟩ <;> (intro h; exact absurd h (by decide))
          · rintro L a wx ⟨v33, v34, v35, v36, v37, v38, v39, v40, v41, v42, v43, v44, v45, v46, v47, v48, v49, v50, v51, rfl, hI⟩ hL hdep hcl K hK
            go_simp
            exact hK _ _ ⟨_, v34, v35, v36, v37, v38, v39, v40, v41, v42, v43, v44, v45, v46, v47, v48, v49, v50, v51, rfl, ⟨fun _ => rfl, hI.t1, hI.t2, hI.t3, hI.t4, hI.t5, hI.t6, hI.t7, hI.t8, hI.t9, hI.t10, hI.t11, hI.t12, hI.t13, hI.t14, hI.t15, hI.t16, hI.t17, hI.t18, hI.ap, hI.apx, hI.ow, hI.kb, hI.sz⟩⟩
          · rintro L a wx ⟨v33, v34, v35, v36, v37, v38, v39, v40, v41, v42, v43, v44, v45, v46, v47, v48, v49, v50, v51, rfl, hI⟩ hL hdep hcl K hK
            go_simp
            exact hK _ _ ⟨v33, _, v35, v36, v37, v38, v39, v40, v41, v42, v43, v44, v45, v46, v47, v48, v49, v50, v51, rfl, ⟨hI.t0, fun _ => rfl, hI.t2, hI.t3, hI.t4, hI.t5, hI.t6, hI.t7, hI.t8, hI.t9, hI.t10, hI.t11, hI.t12, hI.t13, hI.t14, hI.t15, hI.t16, hI.t17, hI.t18, hI.ap, hI.apx, hI.ow, hI.kb, hI.sz⟩⟩
          · rintro L a wx ⟨v33, v34, v35, v36, v37, v38, v39, v40, v41, v42, v43, v44, v45, v46, v47, v48, v49, v50, v51, rfl, hI⟩ hL hdep hcl K hK
            obtain rfl := hI.t1 (hdep 1 (by decide))
            go_simp
            exact hK _ _ ⟨v33, _, _, v36, v37, v38, v39, v40, v41, v42, v43, v44, v45, v46, v47, v48, v49, v50, v51, rfl, ⟨hI.t0, hI.t1, fun _ => rfl, hI.t3, hI.t4, hI.t5, hI.t6, hI.t7, hI.t8, hI.t9, hI.t10, hI.t11, hI.t12, hI.t13, hI.t14, hI.t15, hI.t16, hI.t17, hI.t18, hI.ap, hI.apx, hI.ow, hI.kb, hI.sz⟩⟩
          · rintro L a wx ⟨v33, v34, v35, v36, v37, v38, v39, v40, v41, v42, v43, v44, v45, v46, v47, v48, v49, v50, v51, rfl, hI⟩ hL hdep hcl K hK
            obtain rfl := hI.t2 (hdep 2 (by decide))
            go_simp
            exact hK _ _ ⟨v33, v34, _, _, v37, v38, v39, v40, v41, v42, v43, v44, v45, v46, v47, v48, v49, v50, v51, rfl, ⟨hI.t0, hI.t1, hI.t2, fun _ => rfl, hI.t4, hI.t5, hI.t6, hI.t7, hI.t8, hI.t9, hI.t10, hI.t11, hI.t12, hI.t13, hI.t14, hI.t15, hI.t16, hI.t17, hI.t18, hI.ap, hI.apx, hI.ow, hI.kb, hI.sz⟩⟩
          · rintro L a wx ⟨v33, v34, v35, v36, v37, v38, v39, v40, v41, v42, v43, v44, v45, v46, v47, v48, v49, v50, v51, rfl, hI⟩ hL hdep hcl K hK
            obtain rfl := hI.t3 (hdep 3 (by decide))
            have hA' : Arr wx p 54 [.int .u64 (n : Int), .slice av j cv] := by
              have h7 := hI.ap
              cases h6 : L 19 with
              | true =>
                have h4 := hcl 19 (by decide) h6 4 (by decide)
                rw [hL] at h4
                cases h4
              | false => exact h7 h6
            have c1 := hA'.cell 1
            simp only [List.getElem?_cons_succ, List.getElem?_cons_zero] at c1
            go_simp
            exact hK _ _ ⟨v33, v34, v35, _, _, v38, v39, v40, v41, v42, v43, v44, v45, v46, v47, v48, v49, v50, v51, rfl, ⟨hI.t0, hI.t1, hI.t2, hI.t3, fun _ => rfl, hI.t5, hI.t6, hI.t7, hI.t8, hI.t9, hI.t10, hI.t11, hI.t12, hI.t13, hI.t14, hI.t15, hI.t16, hI.t17, hI.t18, hI.ap, hI.apx, hI.ow, hI.kb, hI.sz⟩⟩
          · rintro L a wx ⟨v33, v34, v35, v36, v37, v38, v39, v40, v41, v42, v43, v44, v45, v46, v47, v48, v49, v50, v51, rfl, hI⟩ hL hdep hcl K hK
            go_simp
            exact hK _ _ ⟨v33, v34, v35, v36, v37, _, v39, v40, v41, v42, v43, v44, v45, v46, v47, v48, v49, v50, v51, rfl, ⟨hI.t0, hI.t1, hI.t2, hI.t3, hI.t4, fun _ => rfl, hI.t6, hI.t7, hI.t8, hI.t9, hI.t10, hI.t11, hI.t12, hI.t13, hI.t14, hI.t15, hI.t16, hI.t17, hI.t18, hI.ap, hI.apx, hI.ow, hI.kb, hI.sz⟩⟩
          · rintro L a wx ⟨v33, v34, v35, v36, v37, v38, v39, v40, v41, v42, v43, v44, v45, v46, v47, v48, v49, v50, v51, rfl, hI⟩ hL hdep hcl K hK
            go_simp
            exact hK _ _ ⟨v33, v34, v35, v36, v37, v38, _, v40, v41, v42, v43, v44, v45, v46, v47, v48, v49, v50, v51, rfl, ⟨hI.t0, hI.t1, hI.t2, hI.t3, hI.t4, hI.t5, fun _ => rfl, hI.t7, hI.t8, hI.t9, hI.t10, hI.t11, hI.t12, hI.t13, hI.t14, hI.t15, hI.t16, hI.t17, hI.t18, hI.ap, hI.apx, hI.ow, hI.kb, hI.sz⟩⟩
          · rintro L a wx ⟨v33, v34, v35, v36, v37, v38, v39, v40, v41, v42, v43, v44, v45, v46, v47, v48, v49, v50, v51, rfl, hI⟩ hL hdep hcl K hK
            go_simp
            exact hK _ _ ⟨v33, v34, v35, v36, v37, v38, v39, _, v41, v42, v43, v44, v45, v46, v47, v48, v49, v50, v51, rfl, ⟨hI.t0, hI.t1, hI.t2, hI.t3, hI.t4, hI.t5, hI.t6, fun _ => rfl, hI.t8, hI.t9, hI.t10, hI.t11, hI.t12, hI.t13, hI.t14, hI.t15, hI.t16, hI.t17, hI.t18, hI.ap, hI.apx, hI.ow, hI.kb, hI.sz⟩⟩
          · rintro L a wx ⟨v33, v34, v35, v36, v37, v38, v39, v40, v41, v42, v43, v44, v45, v46, v47, v48, v49, v50, v51, rfl, hI⟩ hL hdep hcl K hK
            obtain rfl := hI.t7 (hdep 7 (by decide))
            go_simp
            exact hK _ _ ⟨v33, v34, v35, v36, v37, v38, v39, _, _, v42, v43, v44, v45, v46, v47, v48, v49, v50, v51, rfl, ⟨hI.t0, hI.t1, hI.t2, hI.t3, hI.t4, hI.t5, hI.t6, hI.t7, fun _ => rfl, hI.t9, hI.t10, hI.t11, hI.t12, hI.t13, hI.t14, hI.t15, hI.t16, hI.t17, hI.t18, hI.ap, hI.apx, hI.ow, hI.kb, hI.sz⟩⟩
          · rintro L a wx ⟨v33, v34, v35, v36, v37, v38, v39, v40, v41, v42, v43, v44, v45, v46, v47, v48, v49, v50, v51, rfl, hI⟩ hL hdep hcl K hK
            obtain rfl := hI.t8 (hdep 8 (by decide))
            go_simp
            exact hK _ _ ⟨v33, v34, v35, v36, v37, v38, v39, v40, _, _, v43, v44, v45, v46, v47, v48, v49, v50, v51, rfl, ⟨hI.t0, hI.t1, hI.t2, hI.t3, hI.t4, hI.t5, hI.t6, hI.t7, hI.t8, fun _ => rfl, hI.t10, hI.t11, hI.t12, hI.t13, hI.t14, hI.t15, hI.t16, hI.t17, hI.t18, hI.ap, hI.apx, hI.ow, hI.kb, hI.sz⟩⟩
          · rintro L a wx ⟨v33, v34, v35, v36, v37, v38, v39, v40, v41, v42, v43, v44, v45, v46, v47, v48, v49, v50, v51, rfl, hI⟩ hL hdep hcl K hK
            obtain rfl := hI.t9 (hdep 9 (by decide))
            have hA' : Arr wx p 54 [.int .u64 (n : Int), .slice av j cv] := by
              have h7 := hI.ap
              cases h6 : L 19 with
              | true =>
                have h4 := hcl 19 (by decide) h6 10 (by decide)
                rw [hL] at h4
                cases h4
              | false => exact h7 h6
            have c1 := hA'.cell 1
            simp only [List.getElem?_cons_succ, List.getElem?_cons_zero] at c1
            go_simp
            exact hK _ _ ⟨v33, v34, v35, v36, v37, v38, v39, v40, v41, _, _, v44, v45, v46, v47, v48, v49, v50, v51, rfl, ⟨hI.t0, hI.t1, hI.t2, hI.t3, hI.t4, hI.t5, hI.t6, hI.t7, hI.t8, hI.t9, fun _ => rfl, hI.t11, hI.t12, hI.t13, hI.t14, hI.t15, hI.t16, hI.t17, hI.t18, hI.ap, hI.apx, hI.ow, hI.kb, hI.sz⟩⟩
          · rintro L a wx ⟨v33, v34, v35, v36, v37, v38, v39, v40, v41, v42, v43, v44, v45, v46, v47, v48, v49, v50, v51, rfl, hI⟩ hL hdep hcl K hK
            obtain rfl := hI.t10 (hdep 10 (by decide))
            go_simp
            exact hK _ _ ⟨v33, v34, v35, v36, v37, v38, v39, v40, v41, v42, _, _, v45, v46, v47, v48, v49, v50, v51, rfl, ⟨hI.t0, hI.t1, hI.t2, hI.t3, hI.t4, hI.t5, hI.t6, hI.t7, hI.t8, hI.t9, hI.t10, fun _ => rfl, hI.t12, hI.t13, hI.t14, hI.t15, hI.t16, hI.t17, hI.t18, hI.ap, hI.apx, hI.ow, hI.kb, hI.sz⟩⟩
          · rintro L a wx ⟨v33, v34, v35, v36, v37, v38, v39, v40, v41, v42, v43, v44, v45, v46, v47, v48, v49, v50, v51, rfl, hI⟩ hL hdep hcl K hK
            obtain rfl := hI.t6 (hdep 6 (by decide))
            obtain rfl := hI.t11 (hdep 11 (by decide))
            go_simp
            exact hK _ _ ⟨v33, v34, v35, v36, v37, v38, _, v40, v41, v42, v43, _, _, v46, v47, v48, v49, v50, v51, rfl, ⟨hI.t0, hI.t1, hI.t2, hI.t3, hI.t4, hI.t5, hI.t6, hI.t7, hI.t8, hI.t9, hI.t10, hI.t11, fun _ => rfl, hI.t13, hI.t14, hI.t15, hI.t16, hI.t17, hI.t18, hI.ap, hI.apx, hI.ow, hI.kb, hI.sz⟩⟩
          · rintro L a wx ⟨v33, v34, v35, v36, v37, v38, v39, v40, v41, v42, v43, v44, v45, v46, v47, v48, v49, v50, v51, rfl, hI⟩ hL hdep hcl K hK
            obtain rfl := hI.t12 (hdep 12 (by decide))
            refine wp_load_mid 29 _ rfl b (off + j * 32) rfl (bvs X) (.array 32 5) (hrg.out wx hI.kb) Try.underlying29 rfl IX.out ?_
            exact hK _ _ ⟨v33, v34, v35, v36, v37, v38, v39, v40, v41, v42, v43, v44, _, _, v47, v48, v49, v50, v51, rfl, ⟨hI.t0, hI.t1, hI.t2, hI.t3, hI.t4, hI.t5, hI.t6, hI.t7, hI.t8, hI.t9, hI.t10, hI.t11, hI.t12, fun _ => rfl, hI.t14, hI.t15, hI.t16, hI.t17, hI.t18, hI.ap, hI.apx, hI.ow, hI.kb, hI.sz⟩⟩
          · rintro L a wx ⟨v33, v34, v35, v36, v37, v38, v39, v40, v41, v42, v43, v44, v45, v46, v47, v48, v49, v50, v51, rfl, hI⟩ hL hdep hcl K hK
            obtain rfl := hI.t5 (hdep 5 (by decide))
            obtain rfl := hI.t13 (hdep 13 (by decide))
            refine ow_build 63 _ rfl (encP (N, X)).toArray (by simpa [Act.eval, encP] using built_part (N : Int) X HX32.out) ?_
            exact hK _ _ ⟨v33, v34, v35, v36, v37, _, v39, v40, v41, v42, v43, v44, v45, _, _, v48, v49, v50, v51, rfl, ⟨hI.t0, hI.t1, hI.t2, hI.t3, hI.t4, hI.t5, hI.t6, hI.t7, hI.t8, hI.t9, hI.t10, hI.t11, hI.t12, hI.t13, fun _ => rfl, hI.t15, hI.t16, hI.t17, hI.t18, hI.ap, hI.apx, hI.ow, hI.kb, hI.sz⟩⟩
          · rintro L a wx ⟨v33, v34, v35, v36, v37, v38, v39, v40, v41, v42, v43, v44, v45, v46, v47, v48, v49, v50, v51, rfl, hI⟩ hL hdep hcl K hK
            obtain rfl := hI.t14 (hdep 14 (by decide))
            refine ow_of_wl rfl ?_
            refine wl_litG1 infoPt rfl 47 rfl (N, X) (encP_len HX32.out) (by omega) (.agg (encP (N, X)).toArray) rfl rfl ?_
            intro w' hL1 hb hs
            show K _ _
            exact hK _ _ ⟨v33, v34, v35, v36, v37, v38, v39, v40, v41, v42, v43, v44, v45, v46, _, _, v49, v50, v51, rfl, ⟨hI.t0, hI.t1, hI.t2, hI.t3, hI.t4, hI.t5, hI.t6, hI.t7, hI.t8, hI.t9, hI.t10, hI.t11, hI.t12, hI.t13, hI.t14, fun _ => ⟨_, rfl, hL1, hI.sz⟩, fun h => (hI.t16 h).to hb, hI.t17, hI.t18, fun h => (hI.ap h).kept hb, fun h => (hI.apx h).kept hb, fun h => (hI.ow h).to hb, (hI.kb).trans (hb.mono (Nat.le_trans hBs hI.sz)), Nat.le_trans hI.sz hb.size⟩⟩
          · rintro L a wx ⟨v33, v34, v35, v36, v37, v38, v39, v40, v41, v42, v43, v44, v45, v46, v47, v48, v49, v50, v51, rfl, hI⟩ hL hdep hcl K hK
            obtain rfl := hI.t4 (hdep 4 (by decide))
            obtain ⟨r, rfl, hL1, hr0⟩ := hI.t15 (hdep 15 (by decide))
            have hOx := hI.ow hL
            refine ow_of_wl rfl ?_
            refine wl_appendG1 infoPt rfl (.tmp 37) (.tmp 48) rfl w.heap.size _ (done.zip P) rfl hOx r (N, X) rfl hL1 (encP_len HX32.out) (encP_one _) (by rw [hzl.out]; have := hj20.out; unfold maxLen; omega) (by rw [hzl.out]; have := hj20.out; omega) (Nat.le_trans hBs hI.sz) ?_
            intro u w' hO' hg hb
            show K _ _
            have h19 : L 19 = false := by
              cases h6 : L 19 with
              | true =>
                have h4 := hcl 19 (by decide) h6 16 (by decide)
                rw [hL] at h4
                cases h4
              | false => rfl
            have hAr := hI.ap h19
            exact hK _ _ ⟨v33, v34, v35, v36, _, v38, v39, v40, v41, v42, v43, v44, v45, v46, v47, _, _, v50, v51, rfl, ⟨hI.t0, hI.t1, hI.t2, hI.t3, hI.t4, hI.t5, hI.t6, hI.t7, hI.t8, hI.t9, hI.t10, hI.t11, hI.t12, hI.t13, hI.t14, (fun h => ⟨r, rfl, hL1.grown hg (own_new hr0 hOB), hr0⟩), fun _ => hO', hI.t17, hI.t18, (fun h => hAr.grown hg (arr_row hAr hOx.row (by decide))), (fun h13 => absurd (show L 19 = true from h13) (by rw [h19]; decide)), (fun h => nomatch (show true = false from h)), hI.kb.trans hb, Nat.le_trans hI.sz hg.size⟩⟩
          · rintro L a wx ⟨v33, v34, v35, v36, v37, v38, v39, v40, v41, v42, v43, v44, v45, v46, v47, v48, v49, v50, v51, rfl, hI⟩ hL hdep hcl K hK
            obtain rfl := hI.t0 (hdep 0 (by decide))
            go_simp
            exact hK _ _ ⟨_, v34, v35, v36, v37, v38, v39, v40, v41, v42, v43, v44, v45, v46, v47, v48, v49, _, v51, rfl, ⟨hI.t0, hI.t1, hI.t2, hI.t3, hI.t4, hI.t5, hI.t6, hI.t7, hI.t8, hI.t9, hI.t10, hI.t11, hI.t12, hI.t13, hI.t14, hI.t15, hI.t16, fun _ => rfl, hI.t18, hI.ap, hI.apx, hI.ow, hI.kb, hI.sz⟩⟩
          · rintro L a wx ⟨v33, v34, v35, v36, v37, v38, v39, v40, v41, v42, v43, v44, v45, v46, v47, v48, v49, v50, v51, rfl, hI⟩ hL hdep hcl K hK
            obtain rfl := hI.t17 (hdep 17 (by decide))
            go_simp
            exact hK _ _ ⟨v33, v34, v35, v36, v37, v38, v39, v40, v41, v42, v43, v44, v45, v46, v47, v48, v49, _, _, rfl, ⟨hI.t0, hI.t1, hI.t2, hI.t3, hI.t4, hI.t5, hI.t6, hI.t7, hI.t8, hI.t9, hI.t10, hI.t11, hI.t12, hI.t13, hI.t14, hI.t15, hI.t16, hI.t17, fun _ => rfl, hI.ap, hI.apx, hI.ow, hI.kb, hI.sz⟩⟩
          · rintro L a wx ⟨v33, v34, v35, v36, v37, v38, v39, v40, v41, v42, v43, v44, v45, v46, v47, v48, v49, v50, v51, rfl, hI⟩ hL hdep hcl K hK
            obtain rfl := hI.t18 (hdep 18 (by decide))
            obtain rfl := hI.t0 (hdep 0 (by decide))
            obtain rfl := hI.t1 (hdep 1 (by decide))
            obtain rfl := hI.t2 (hdep 2 (by decide))
            obtain rfl := hI.t3 (hdep 3 (by decide))
            obtain rfl := hI.t4 (hdep 4 (by decide))
            obtain rfl := hI.t5 (hdep 5 (by decide))
            obtain rfl := hI.t6 (hdep 6 (by decide))
            obtain rfl := hI.t7 (hdep 7 (by decide))
            obtain rfl := hI.t8 (hdep 8 (by decide))
            obtain rfl := hI.t9 (hdep 9 (by decide))
            obtain rfl := hI.t10 (hdep 10 (by decide))
            obtain rfl := hI.t11 (hdep 11 (by decide))
            obtain rfl := hI.t12 (hdep 12 (by decide))
            obtain rfl := hI.t13 (hdep 13 (by decide))
            obtain rfl := hI.t14 (hdep 14 (by decide))
            have h49 := hI.t16 (hdep 16 (by decide))
            have hAr := hI.ap hL
            refine ow_store1 52 _ _ rfl p 1 rfl v49 rfl (cells_own h49.row) (one_own h49.row) 54 _ hAr sizePs (by simp) ?_
            intro w' hA' hg hs
            exact hK _ _ ⟨_, _, _, _, _, _, _, _, _, _, _, _, _, _, _, v48, v49, v50, _, rfl, ⟨hI.t0, hI.t1, hI.t2, hI.t3, hI.t4, hI.t5, hI.t6, hI.t7, hI.t8, hI.t9, hI.t10, hI.t11, hI.t12, hI.t13, hI.t14, (fun h => by obtain ⟨r, e, k1, k2⟩ := hI.t15 h; exact ⟨r, e, k1.grown hg (by intro e; injection e with e; have := HP2.out; omega), k2⟩), fun _ => h49.by hg (row_arr h49.row hAr (by decide)), hI.t17, hI.t18, (fun h => nomatch (show true = false from h)), fun _ => hA', (fun h => absurd (hdep 16 (by decide)) (by rw [show L 16 = false from h]; decide)), hI.kb.grown hg (Nat.le_trans hBs hI.sz) (by intro k e; injection e with e; have := HP.out; omega), Nat.le_trans hI.sz hg.size⟩⟩
          · rintro a wx ⟨v33, v34, v35, v36, v37, v38, v39, v40, v41, v42, v43, v44, v45, v46, v47, v48, v49, v50, v51, rfl, hI⟩
            have hap := hI.apx rfl
            have hkb := hI.kb
            have h49 := hI.t16 rfl
            clear hI
            obtain ⟨a2, c2, e2, hr2, -⟩ := h49.rd (by omega)
            have hlz : (done.zip P ++ [(N, X)]).length = (done ++ [N]).length := by rw [List.length_append, List.length_append, hzl.out, HJ.out]; rfl
            have HHH : Qn = (done ++ [N]) ++ hiQ k l2 := by rw [HHI.out, HL2.out]; simp
            rw [hlz] at e2
            go_wp2_with fail
            go_roundw
            case rel => exact ⟨k, l2, done ++ [N], a2, c2, by have := HKK.out; omega, rfl, congrArg (Value.int .u64) (HW2.out.trans HEH.out), HHH, by rw [HL2.out]; exact hlt'.out, by have := HLF.out; have := HL2.out; omega, by rw [List.length_append, List.length_singleton, ← HJ.out]; omega, by rw [← e2]; exact hap, by rw [← hzs.out, ← e2]; exact h49, hkb⟩
            case measure => rw [HW2.out]; simp [intOf]; omega
end Go.Proofs.Ytlfncgpjgbpdjaa

namespace Go.Proofs.Ytlfncgpjgbpdjaa
open Go.RowKit

/-- what the document's ranges may turn: themselves, and rows of parts -/
def ZW (B : Nat) (w : World) (k : Nat) : Prop := B ≤ k ∧ ∃ cs T fr, w.heap[k]? = some (.cells cs T fr) ∧ (T = 63 ∨ T = 54)
theorem KB.fresh {S : Nat → Prop} {w w' w'' : World} {g : Nat} (h : KB S w w') (hg : w'.grownBy w'' (some g)) (hn : w.heap.size ≤ g) : KB S w w'' :=
  ⟨hg.os.trans h.os, hg.tape.trans h.tape, hg.output.trans h.output, Nat.le_trans h.size hg.size, fun k hk hz => (hg.block k (Nat.lt_of_lt_of_le hk h.size) (by intro e; injection e with e; omega)).trans (h.block k hk hz)⟩
theorem zw_arr {B : Nat} {w : World} {p : Nat} {xs : List Value} (h : Arr w p 54 xs) (hb : B ≤ p) : ZW B w p := ⟨hb, _, _, _, h, .inr rfl⟩
theorem zw_row {B : Nat} {w : World} {s n g : Nat} {v : Value} {xs : List Value} (h : w.ownsRow B 63 s v n xs) (hg : v.ownBlock = some g) : ZW B w g := by
  have hb := (World.ownsRow.lt h g hg).1
  obtain ⟨cs, e⟩ := own_type h hg
  exact ⟨hb, _, _, _, e, .inl rfl⟩
theorem KB.by' {S : Nat → Prop} {w w' : World} {v : Value} (hg : w.grownBy w' v.ownBlock) (hs : ∀ g, v.ownBlock = some g → S g) : KB S w w' := by
  cases hv : v.ownBlock with
  | none => rw [hv] at hg; exact (KB.refl S w).grownN hg
  | some q => rw [hv] at hg; exact (KB.refl S w).grown hg (hs q hv)
theorem partsF_add {n : Nat} {P : List (List UInt8)} {d : List UInt8} (h : P.length = popN n) : partsF (n + 1) (addP n P d) = (carry (pkZ n P) (1, d)).reverse := by
  unfold partsF pkZ
  rw [show (carry ((lowP 1 n).zip P.reverse) (1, d)) = _ from (carry_add n 1 P.reverse d (by omega) (by rw [List.length_reverse]; exact h)).1]
  unfold addP
  rw [List.reverse_reverse]
theorem told_carry {n : Nat} {P : List (List UInt8)} {d : List UInt8} (h : P.length = popN n) : carryT (pkZ n P) (1, d) = toldP n P d := (carry_add n 1 P.reverse d (by omega) (by rw [List.length_reverse]; exact h)).2.1
set_option maxRecDepth 100000 in
set_option maxHeartbeats 1600000 in
theorem rAdd_full {B : Nat} (p n : Nat) (P : List (List UInt8)) (d : List UInt8) (w : World) (h : IsW B w p n P) (hn : n = 1048576) :
    Calls Try.prog 10 #[.pointer (some ⟨p, 0, none⟩), .agg (bvs d).toArray] w fun e w' => e = .returned (.tuple #[.slice none 0 0, .int .i64 7]) ∧ Below w.heap.size w w' := by
  obtain ⟨v, hA, -⟩ := h.ex
  subst hn
  have hc1 : Hid (∀ wx, Below w.heap.size w wx → wx.cell? ⟨p, 0, none⟩ = some (.int .u64 1048576)) := fun wx hb => by
    have := (hA.kept hb).cell 0
    simpa using this
  clear h hA
  go_enter Try.func10, Try.ntmps10
  go_wp2_with ((with_reducible show wpList _ _ _ (⟨some 3, .box _ _, _, _, _, _⟩ :: _) _ _); refine wl_box rfl 29 _ rfl (bvs d) rfl ?_; intro w1 hA1 hb1 hs1; have c1 := hc1.out w1 hb1)
  go_ret2
  exact ⟨rfl, hb1⟩
def AddWI (B n p : Nat) (P : List (List UInt8)) (d : List UInt8) (w : World) (rest : List (Nat × List UInt8)) (b : Nat × List UInt8) (told : List (List UInt8)) (gq cv : Nat) (wr : World) : Prop :=
  carry (pkZ n P) (1, d) = carry rest b ∧ (∃ T, told = T ++ [b.2] ∧ carryT (pkZ n P) (1, d) = T ++ carryT rest b) ∧ b.1 = 2 ^ (told.length - 1) ∧ 1 ≤ told.length ∧ told.length + rest.length ≤ 23 ∧
    Arr wr p 54 [.int .u64 ((n + 1 : Nat) : Int), .slice (some ⟨gq, 0, none⟩) (rest.length + 1) cv] ∧ OwnP wr B (.slice (some ⟨gq, 0, none⟩) (rest.length + 1) cv) (rest.reverse ++ [b]) ∧ KB (ZW B w) w wr
/-- how many parts the document's range at p has -/
def rowLen (w : World) (p : Nat) : Nat := match w.cell? ⟨p, 1, none⟩ with
  | some (.slice _ n _) => n
  | _ => 0
theorem rowLen_at {w : World} {p : Nat} {x : Value} {a : Option Addr} {n c : Nat} {T : TypeId} (h : Arr w p T [x, .slice a n c]) : rowLen w p = n := by
  unfold rowLen
  rw [h.cell]
  rfl
theorem KB.low {S : Nat → Prop} {w a b : World} (h : KB S w a) (hb : Below w.heap.size a b) : KB S w b :=
  ⟨hb.os.trans h.os, hb.tape.trans h.tape, hb.output.trans h.output, Nat.le_trans h.size hb.size, fun k hk hn => (hb.block k hk).trans (h.block k hk hn)⟩
theorem run_cutN (gq N cv r2 : Nat) (hs : r2 ≤ N) (hc : N ≤ cv) (h0 : 0 < N) (w : World) :
    (Instr.sliceAt 52 (.slice (some ⟨gq, 0, none⟩) N cv) none (some (.int .i64 (r2 : Int))) none).run Try.prog w = .ok (.slice (some ⟨gq, 0, none⟩) r2 cv) w := by
  have c1 : (0 : Int) ≤ (r2 : Int) := by omega
  have c2 : (r2 : Int) ≤ (cv : Int) := by omega
  have c3 : ¬ (cv = 0) := by omega
  go_simp
theorem ow_cutN {o : Oper} {a : Act} {w : World} {K : Act → World → Prop} {Q : Exit → Act → World → Prop} (gq N cv r2 : Nat) (h : ∀ w, (Instr.sliceAt 52 (.slice (some ⟨gq, 0, none⟩) N cv) none (some (.int .i64 (r2 : Int))) none).run Try.prog w = .ok (.slice (some ⟨gq, 0, none⟩) r2 cv) w) (x y : Operand) (ho : o.op = .slice 52 x none (some y) none)
    (hx : a.eval x = .slice (some ⟨gq, 0, none⟩) N cv) (hy : a.eval y = .int .i64 (r2 : Int)) (hK : K (a.put o.dst (.slice (some ⟨gq, 0, none⟩) r2 cv)) w) : o.wp Try.prog a w K Q := by
  unfold Oper.wp execOp
  simp only [ho, hx, hy, Option.map_some, Option.map_none, Sem.run_bind, h, Sem.run_pure, Result.andThen_ok]
  exact hK
theorem KB.trans' {S : Nat → Prop} {w w' w'' : World} (h : KB S w w') (k : KB S w' w'') : KB S w w'' := h.trans k
structure InvWAddA (Z0 : List (Nat × List UInt8)) (d : List UInt8) (v : Value) (p n g3 B : Nat) (w : World) (W0 : World) (L : Nat → Bool) (v23 v24 v25 v26 v27 v28 v29 v30 v31 v32 v33 : Value) (wx : World) : Prop where
  t0 : L 0 = true → v23 = .pointer (some ⟨p, 0, none⟩)
  t1 : L 1 = true → v24 = .pointer (some ⟨p, 0, none⟩)
  t2 : L 2 = true → v25 = .pointer (some ⟨p, 0, none⟩)
  t3 : L 3 = true → v26 = .pointer (some ⟨p, 1, none⟩)
  t4 : L 4 = true → v27 = v
  t5 : L 5 = true → v28 = .agg (bvs d).toArray
  t6 : L 6 = true → v29 = .agg (encP (1, d)).toArray
  t7 : L 7 = true → ∃ r, v30 = .slice (some ⟨r, 0, none⟩) 1 1 ∧ Arr wx r 63 (encP (1, d)) ∧ W0.heap.size ≤ r
  t8 : L 8 = true → OwnP wx B v31 (Z0 ++ [(1, d)])
  t9 : L 9 = true → v32 = .pointer (some ⟨p, 0, none⟩)
  t10 : L 10 = true → v33 = .pointer (some ⟨p, 1, none⟩)
  ap : L 11 = false → Arr wx p 54 [.int .u64 ((n + 1 : Nat) : Int), v]
  apx : L 11 = true → Arr wx p 54 [.int .u64 ((n + 1 : Nat) : Int), v31]
  a3 : Arr wx g3 29 (bvs d)
  ow : L 8 = false → OwnP wx B v Z0
  kb : KB (ZW B w) w wx
  sz : W0.heap.size ≤ wx.heap.size
structure InvWAddFA (d : List UInt8) (p n g3 gq N1 cv : Nat) (u6 u7 u8 u9 u10 u36 u37 u38 u39 u40 u41 u42 u43 u44 u45 u46 u47 u48 u49 u50 u51 u52 u53 u54 u55 u56 u57 u58 u59 u60 u61 u62 u63 u64 u65 u66 u67 u68 u69 u70 u71 u72 u73 u74 u75 u76 u77 u78 u79 u80 u81 u82 u83 u84 u85 u86 u87 u88 u89 u90 u91 u92 u93 u94 u95 u96 u97 u98 u99 u100 u101 u102 u103 u104 u105 u106 u107 u108 u109 u110 u111 u112 u113 u114 u115 u116 u117 u118 u119 u120 u121 u122 u123 u124 u125 u126 u127 u128 u129 u130 : Value) (W0 : World) (L : Nat → Bool) (v : Nat → Value) (wx : World) : Prop where
  t0 : L 0 = true → (v 36) = .pointer (some ⟨p, 0, none⟩)
  t1 : L 1 = true → (v 37) = .pointer (some ⟨p, 0, none⟩)
  t2 : L 2 = true → (v 38) = .pointer (some ⟨p, 1, none⟩)
  t3 : L 3 = true → (v 39) = .slice (some ⟨gq, 0, none⟩) N1 cv
  t4 : L 4 = true → (v 40) = .int .i64 (N1 : Int)
  t5 : L 5 = true → (v 41) = .bool false
  t6 : L 6 = true → (v 42) = .bool false
  t7 : L 7 = true → (v 43) = undef
  t8 : L 8 = true → (v 44) = undef
  t9 : L 9 = true → (v 45) = undef
  t10 : L 10 = true → (v 46) = undef
  t11 : L 11 = true → (v 47) = undef
  t12 : L 12 = true → (v 48) = undef
  t13 : L 13 = true → (v 49) = undef
  t14 : L 14 = true → (v 50) = undef
  t15 : L 15 = true → (v 51) = undef
  t16 : L 16 = true → (v 52) = undef
  t17 : L 17 = true → (v 53) = undef
  t18 : L 18 = true → (v 54) = undef
  t19 : L 19 = true → (v 55) = undef
  t20 : L 20 = true → (v 56) = undef
  t21 : L 21 = true → (v 57) = undef
  t22 : L 22 = true → (v 58) = undef
  t23 : L 23 = true → (v 59) = undef
  t24 : L 24 = true → (v 60) = undef
  t25 : L 25 = true → (v 61) = undef
  t26 : L 26 = true → (v 62) = undef
  t27 : L 27 = true → (v 63) = undef
  t28 : L 28 = true → (v 64) = undef
  t29 : L 29 = true → (v 65) = undef
  t30 : L 30 = true → (v 66) = undef
  t31 : L 31 = true → (v 67) = undef
  t32 : L 32 = true → (v 68) = undef
  t33 : L 33 = true → (v 69) = undef
  t34 : L 34 = true → (v 70) = .bool false
  wq : wx = W0.drew
structure InvWAddFB (d : List UInt8) (p n g3 gq N1 cv r1 r2 na nb : Nat) (u6 u7 u8 u9 u10 u36 u37 u38 u39 u40 u41 u42 u43 u44 u45 u46 u47 u48 u49 u50 u51 u52 u53 u54 u55 u56 u57 u58 u59 u60 u61 u62 u63 u64 u65 u66 u67 u68 u69 u70 u71 u72 u73 u74 u75 u76 u77 u78 u79 u80 u81 u82 u83 u84 u85 u86 u87 u88 u89 u90 u91 u92 u93 u94 u95 u96 u97 u98 u99 u100 u101 u102 u103 u104 u105 u106 u107 u108 u109 u110 u111 u112 u113 u114 u115 u116 u117 u118 u119 u120 u121 u122 u123 u124 u125 u126 u127 u128 u129 u130 : Value) (W0 : World) (L : Nat → Bool) (v : Nat → Value) (wx : World) : Prop where
  t0 : L 0 = true → (v 36) = .pointer (some ⟨p, 0, none⟩)
  t1 : L 1 = true → (v 37) = .pointer (some ⟨p, 0, none⟩)
  t2 : L 2 = true → (v 38) = .pointer (some ⟨p, 1, none⟩)
  t3 : L 3 = true → (v 39) = .slice (some ⟨gq, 0, none⟩) N1 cv
  t4 : L 4 = true → (v 40) = .int .i64 (N1 : Int)
  t5 : L 5 = true → (v 41) = .bool true
  t6 : L 6 = true → (v 42) = .bool true
  t7 : L 7 = true → (v 43) = .pointer (some ⟨p, 0, none⟩)
  t8 : L 8 = true → (v 44) = .pointer (some ⟨p, 0, none⟩)
  t9 : L 9 = true → (v 45) = .pointer (some ⟨p, 1, none⟩)
  t10 : L 10 = true → (v 46) = .slice (some ⟨gq, 0, none⟩) N1 cv
  t11 : L 11 = true → (v 47) = .pointer (some ⟨p, 0, none⟩)
  t12 : L 12 = true → (v 48) = .pointer (some ⟨p, 0, none⟩)
  t13 : L 13 = true → (v 49) = .pointer (some ⟨p, 1, none⟩)
  t14 : L 14 = true → (v 50) = .slice (some ⟨gq, 0, none⟩) N1 cv
  t15 : L 15 = true → (v 51) = .int .i64 (N1 : Int)
  t16 : L 16 = true → (v 52) = .int .i64 (r1 : Int)
  t17 : L 17 = true → (v 53) = .pointer (some ⟨gq, r1 * 33, none⟩)
  t18 : L 18 = true → (v 54) = .pointer (some ⟨gq, r1 * 33, none⟩)
  t19 : L 19 = true → (v 55) = .int .u64 (nb : Int)
  t20 : L 20 = true → (v 56) = .pointer (some ⟨p, 0, none⟩)
  t21 : L 21 = true → (v 57) = .pointer (some ⟨p, 0, none⟩)
  t22 : L 22 = true → (v 58) = .pointer (some ⟨p, 1, none⟩)
  t23 : L 23 = true → (v 59) = .slice (some ⟨gq, 0, none⟩) N1 cv
  t24 : L 24 = true → (v 60) = .pointer (some ⟨p, 0, none⟩)
  t25 : L 25 = true → (v 61) = .pointer (some ⟨p, 0, none⟩)
  t26 : L 26 = true → (v 62) = .pointer (some ⟨p, 1, none⟩)
  t27 : L 27 = true → (v 63) = .slice (some ⟨gq, 0, none⟩) N1 cv
  t28 : L 28 = true → (v 64) = .int .i64 (N1 : Int)
  t29 : L 29 = true → (v 65) = .int .i64 (r2 : Int)
  t30 : L 30 = true → (v 66) = .pointer (some ⟨gq, r2 * 33, none⟩)
  t31 : L 31 = true → (v 67) = .pointer (some ⟨gq, r2 * 33, none⟩)
  t32 : L 32 = true → (v 68) = .int .u64 (na : Int)
  t33 : L 33 = true → (v 69) = .bool false
  t34 : L 34 = true → (v 70) = .bool false
  wq : wx = W0.drew
structure InvWAddFC (d : List UInt8) (p n g3 gq N1 cv r1 r2 na nb : Nat) (u6 u7 u8 u9 u10 u36 u37 u38 u39 u40 u41 u42 u43 u44 u45 u46 u47 u48 u49 u50 u51 u52 u53 u54 u55 u56 u57 u58 u59 u60 u61 u62 u63 u64 u65 u66 u67 u68 u69 u70 u71 u72 u73 u74 u75 u76 u77 u78 u79 u80 u81 u82 u83 u84 u85 u86 u87 u88 u89 u90 u91 u92 u93 u94 u95 u96 u97 u98 u99 u100 u101 u102 u103 u104 u105 u106 u107 u108 u109 u110 u111 u112 u113 u114 u115 u116 u117 u118 u119 u120 u121 u122 u123 u124 u125 u126 u127 u128 u129 u130 : Value) (W0 : World) (L : Nat → Bool) (v : Nat → Value) (wx : World) : Prop where
  t0 : L 0 = true → (v 36) = .pointer (some ⟨p, 0, none⟩)
  t1 : L 1 = true → (v 37) = .pointer (some ⟨p, 0, none⟩)
  t2 : L 2 = true → (v 38) = .pointer (some ⟨p, 1, none⟩)
  t3 : L 3 = true → (v 39) = .slice (some ⟨gq, 0, none⟩) N1 cv
  t4 : L 4 = true → (v 40) = .int .i64 (N1 : Int)
  t5 : L 5 = true → (v 41) = .bool true
  t6 : L 6 = true → (v 42) = .bool true
  t7 : L 7 = true → (v 43) = .pointer (some ⟨p, 0, none⟩)
  t8 : L 8 = true → (v 44) = .pointer (some ⟨p, 0, none⟩)
  t9 : L 9 = true → (v 45) = .pointer (some ⟨p, 1, none⟩)
  t10 : L 10 = true → (v 46) = .slice (some ⟨gq, 0, none⟩) N1 cv
  t11 : L 11 = true → (v 47) = .pointer (some ⟨p, 0, none⟩)
  t12 : L 12 = true → (v 48) = .pointer (some ⟨p, 0, none⟩)
  t13 : L 13 = true → (v 49) = .pointer (some ⟨p, 1, none⟩)
  t14 : L 14 = true → (v 50) = .slice (some ⟨gq, 0, none⟩) N1 cv
  t15 : L 15 = true → (v 51) = .int .i64 (N1 : Int)
  t16 : L 16 = true → (v 52) = .int .i64 (r1 : Int)
  t17 : L 17 = true → (v 53) = .pointer (some ⟨gq, r1 * 33, none⟩)
  t18 : L 18 = true → (v 54) = .pointer (some ⟨gq, r1 * 33, none⟩)
  t19 : L 19 = true → (v 55) = .int .u64 (nb : Int)
  t20 : L 20 = true → (v 56) = .pointer (some ⟨p, 0, none⟩)
  t21 : L 21 = true → (v 57) = .pointer (some ⟨p, 0, none⟩)
  t22 : L 22 = true → (v 58) = .pointer (some ⟨p, 1, none⟩)
  t23 : L 23 = true → (v 59) = .slice (some ⟨gq, 0, none⟩) N1 cv
  t24 : L 24 = true → (v 60) = .pointer (some ⟨p, 0, none⟩)
  t25 : L 25 = true → (v 61) = .pointer (some ⟨p, 0, none⟩)
  t26 : L 26 = true → (v 62) = .pointer (some ⟨p, 1, none⟩)
  t27 : L 27 = true → (v 63) = .slice (some ⟨gq, 0, none⟩) N1 cv
  t28 : L 28 = true → (v 64) = .int .i64 (N1 : Int)
  t29 : L 29 = true → (v 65) = .int .i64 (r2 : Int)
  t30 : L 30 = true → (v 66) = .pointer (some ⟨gq, r2 * 33, none⟩)
  t31 : L 31 = true → (v 67) = .pointer (some ⟨gq, r2 * 33, none⟩)
  t32 : L 32 = true → (v 68) = .int .u64 (na : Int)
  t33 : L 33 = true → (v 69) = .bool true
  t34 : L 34 = true → (v 70) = .bool true
  wq : wx = W0.drew
structure InvWAddG (A b : Nat × List UInt8) (p gq N1 cv r1 r2 : Nat) (u6 u7 u8 u9 u10 u71 u72 u73 u74 u75 u76 u77 u78 u79 u80 u81 u82 u83 u84 u85 u86 u87 u88 u89 u90 u91 u92 u93 u94 u95 u96 u97 u98 u99 u100 u101 u102 u103 u104 u105 u106 u107 u108 u109 u110 u111 u112 u113 u114 u115 u116 u117 u118 u119 u120 u121 u122 u123 u124 u125 u126 u127 u128 u129 u130 : Value) (W0 : World) (L : Nat → Bool) (v : Nat → Value) (wx : World) : Prop where
  t0 : L 0 = true → (v 71) = .pointer (some ⟨p, 0, none⟩)
  t1 : L 1 = true → (v 72) = .pointer (some ⟨p, 0, none⟩)
  t2 : L 2 = true → (v 73) = .pointer (some ⟨p, 1, none⟩)
  t3 : L 3 = true → (v 74) = .slice (some ⟨gq, 0, none⟩) N1 cv
  t4 : L 4 = true → (v 75) = .pointer (some ⟨p, 0, none⟩)
  t5 : L 5 = true → (v 76) = .pointer (some ⟨p, 0, none⟩)
  t6 : L 6 = true → (v 77) = .pointer (some ⟨p, 1, none⟩)
  t7 : L 7 = true → (v 78) = .slice (some ⟨gq, 0, none⟩) N1 cv
  t8 : L 8 = true → (v 79) = .int .i64 (N1 : Int)
  t9 : L 9 = true → (v 80) = .int .i64 (r2 : Int)
  t10 : L 10 = true → (v 81) = .pointer (some ⟨gq, r2 * 33, none⟩)
  t11 : L 11 = true → (v 82) = .agg (encP A).toArray
  t12 : L 12 = true → (v 83) = .pointer (some ⟨p, 0, none⟩)
  t13 : L 13 = true → (v 84) = .pointer (some ⟨p, 0, none⟩)
  t14 : L 14 = true → (v 85) = .pointer (some ⟨p, 1, none⟩)
  t15 : L 15 = true → (v 86) = .slice (some ⟨gq, 0, none⟩) N1 cv
  t16 : L 16 = true → (v 87) = .pointer (some ⟨p, 0, none⟩)
  t17 : L 17 = true → (v 88) = .pointer (some ⟨p, 0, none⟩)
  t18 : L 18 = true → (v 89) = .pointer (some ⟨p, 1, none⟩)
  t19 : L 19 = true → (v 90) = .slice (some ⟨gq, 0, none⟩) N1 cv
  t20 : L 20 = true → (v 91) = .int .i64 (N1 : Int)
  t21 : L 21 = true → (v 92) = .int .i64 (r1 : Int)
  t22 : L 22 = true → (v 93) = .pointer (some ⟨gq, r1 * 33, none⟩)
  t23 : L 23 = true → (v 94) = .agg (encP b).toArray
  t24 : L 24 = true → ∃ g, (v 7) = .pointer (some ⟨g, 0, none⟩) ∧ Arr wx g 63 (if L 26 then encP A else Zp) ∧ W0.heap.size ≤ g
  t25 : L 25 = true → ∃ g, (v 8) = .pointer (some ⟨g, 0, none⟩) ∧ Arr wx g 63 (if L 27 then encP b else Zp) ∧ W0.heap.size ≤ g
  bw : Below W0.heap.size W0 wx
  ne : L 24 = true → L 25 = true → (v 7) ≠ (v 8)
structure InvWAddH (A b : Nat × List UInt8) (Y : List UInt8) (p gq N1 cv r1 r2 na nb g7 g8 : Nat) (u6 u9 u10 u95 u96 u97 u98 u99 u100 u101 u102 u103 u104 u105 u106 u107 u108 u109 u110 u111 u112 u113 u114 u115 u116 u117 u118 u119 u120 u121 u122 u123 u124 u125 u126 u127 u128 u129 u130 : Value) (W0 : World) (L : Nat → Bool) (v : Nat → Value) (wx : World) : Prop where
  t0 : L 0 = true → (v 95) = .pointer (some ⟨g7, 0, none⟩)
  t1 : L 1 = true → (v 96) = .int .u64 (na : Int)
  t2 : L 2 = true → (v 97) = .pointer (some ⟨g8, 0, none⟩)
  t3 : L 3 = true → (v 98) = .int .u64 (nb : Int)
  t4 : L 4 = true → (v 99) = .int .u64 ((na + nb : Nat) : Int)
  t5 : L 5 = true → (v 100) = .pointer (some ⟨g7, 1, none⟩)
  t6 : L 6 = true → (v 101) = .agg (bvs A.2).toArray
  t7 : L 7 = true → (v 102) = .pointer (some ⟨g8, 1, none⟩)
  t8 : L 8 = true → (v 103) = .agg (bvs b.2).toArray
  t9 : L 9 = true → (v 104) = .agg (bvs Y).toArray
  t10 : L 10 = true → (v 105) = .agg (encP (na + nb, Y)).toArray
  t11 : L 11 = true → ∃ g, (v 9) = .pointer (some ⟨g, 0, none⟩) ∧ Arr wx g 63 (if L 12 then encP (na + nb, Y) else Zp) ∧ W0.heap.size ≤ g
  bw : Below W0.heap.size W0 wx
structure InvWAddI (rest : List (Nat × List UInt8)) (p gq N1 cv r2 : Nat) (u6 u106 u107 u108 u109 u110 u111 u112 u113 u114 u115 u116 u117 u118 u119 u120 u121 u122 u123 u124 u125 u126 u127 u128 u129 u130 : Value) (W0 : World) (L : Nat → Bool) (v : Nat → Value) (wx : World) : Prop where
  t0 : L 0 = true → (v 106) = .slice none 0 0
  t1 : L 1 = true → (v 107) = .pointer (some ⟨p, 0, none⟩)
  t2 : L 2 = true → (v 108) = .pointer (some ⟨p, 0, none⟩)
  t3 : L 3 = true → (v 109) = .pointer (some ⟨p, 1, none⟩)
  t4 : L 4 = true → (v 110) = .slice (some ⟨gq, 0, none⟩) N1 cv
  t5 : L 5 = true → (v 111) = .pointer (some ⟨p, 0, none⟩)
  t6 : L 6 = true → (v 112) = .pointer (some ⟨p, 0, none⟩)
  t7 : L 7 = true → (v 113) = .pointer (some ⟨p, 1, none⟩)
  t8 : L 8 = true → (v 114) = .slice (some ⟨gq, 0, none⟩) N1 cv
  t9 : L 9 = true → (v 115) = .int .i64 (N1 : Int)
  t10 : L 10 = true → (v 116) = .int .i64 (r2 : Int)
  t11 : L 11 = true → (v 117) = .slice (some ⟨gq, 0, none⟩) r2 cv
  t12 : L 12 = true → OwnP wx W0.heap.size (v 118) rest.reverse
  t13 : L 13 = true → OwnP wx W0.heap.size (v 10) rest.reverse
  bw : Below W0.heap.size W0 wx
  i10 : L 13 = false → (v 10) = .slice none 0 0
set_option maxRecDepth 100000 in
set_option maxHeartbeats 6400000 in
theorem rAdd_any {B : Nat} (p n : Nat) (P : List (List UInt8)) (d : List UInt8) (w : World) (h : IsW B w p n P) (hBw : B ≤ w.heap.size) (hn : n < 1048576) (hd32 : d.length = 32) :
    Calls Try.prog 10 #[.pointer (some ⟨p, 0, none⟩), .agg (bvs d).toArray] w fun e w' => ∃ v, e = .returned (.tuple #[v, .int .i64 0]) ∧ OwnD w' w.heap.size v (toldP n P d) ∧ IsW B w' p (n + 1) (addP n P d) ∧ KB (ZW B w) w w' := by
  have hcnt := h.cnt
  have hall := h.all
  have hfew := h.few
  have hbp := h.base
  obtain ⟨v, hA, hO⟩ := h.ex
  have hzl := partsF_len hcnt
  have hpw := hA.lt
  have HA := Lib.hid hA
  have HO := Lib.hid hO
  have hc0 : Hid (∀ wx, Below w.heap.size w wx → wx.cell? ⟨p, 0, none⟩ = some (.int .u64 (n : Int))) := fun wx hb => by simpa using (hA.kept hb).cell 0
  have hnn : decide ((1048576 : Int) ≤ (n : Int)) = false := decide_eq_false (by omega)
  have hnn2 : decide (1048576 ≤ n) = false := decide_eq_false (by omega)
  have hwn : Hid (IntKind.u64.wrap ((n : Int) + 1) = ((n + 1 : Nat) : Int)) := by show _ = _; rw [IntKind.wrap_u64]; omega
  have HN := Lib.hid hn
  have HD32 := Lib.hid hd32
  have h32d : Hid ((Try.prog.info? 29).map (·.size) = some (bvs d).length) := by show _ = _; rw [bvs_len, hd32]; exact sizeD
  have HCNT := Lib.hid hcnt
  have HALL := Lib.hid hall
  have HFEW := Lib.hid hfew
  have HZL := Lib.hid hzl
  clear h hA hO hn hcnt hall hfew hzl hd32
  go_enter Try.func10, Try.ntmps10
  go_upto_region 3 with ((with_reducible show wpList _ _ _ (⟨some 3, .box _ _, _, _, _, _⟩ :: _) _ _); refine wl_box rfl 29 _ rfl (bvs d) rfl ?_; intro w1 hA1 hb1 hs1; have c1 := hc0.out w1 hb1)
  have HPA : Arr w1 p 54 [.int .u64 (n : Int), v] := HA.out.kept hb1
  go_upto_region 4 with ((with_reducible show wpList _ _ _ (⟨none, .store _ _ _, _, _, _, _⟩ :: _) _ _); refine wl_store1 rfl 31 _ _ rfl p 0 rfl _ rfl rfl rfl 54 _ HPA size31 (by simp) ?_; intro w2 hA2 hg2 hs2)
  rw [hwn.out] at hA2
  simp only [List.set_cons_zero] at hA2
  obtain ⟨g3, hg3⟩ : ∃ g, g = w.heap.size := ⟨_, rfl⟩
  have hX3 : Arr w2 g3 29 (bvs d) := by rw [hg3]; exact hA1.grown hg2 (by intro e; injection e with e; omega)
  have hO2 : OwnP w2 B v (partsF n P) := (HO.out.to hb1).by hg2 (row_arr (HO.out.to hb1).row HPA (by decide))
  have kb2 : KB (ZW B w) w w2 := ((KB.refl _ _).below hb1).grown hg2 (zw_arr HA.out hbp)
  have hs12 : g3 < w2.heap.size := hX3.lt
  go_simp
  rw [← hg3]
  rw [hwn.out]
  have HG3 := Lib.hid hg3
  clear HPA hA1 hb1 hs1 hg2 hs2 c1 hg3
  have hOB : ∀ g, v.ownBlock = some g → g < w2.heap.size := fun g e => (World.ownsRow.lt hO2.row g e).2
  have hZO : ∀ g, v.ownBlock = some g → ZW B w g := fun g e => zw_row HO.out.row e
  refine wp_region_steps [[], [], [1], [2], [3], [], [5], [6], [4, 7], [0], [9], [10, 8, 0, 1, 2, 3, 4, 5, 6, 7]] (by kernel_rfl) (by kernel_rfl) (fun L a wx => ∃ v23 v24 v25 v26 v27 v28 v29 v30 v31 v32 v33, a = ⟨#[.pointer (some ⟨p, 0, none⟩), .agg (bvs d).toArray, undef, .pointer (some ⟨g3, 0, none⟩), .slice none 0 0, .int .i64 0, undef, undef, undef, undef, undef, .pointer (some ⟨p, 0, none⟩), .pointer (some ⟨p, 0, none⟩), .pointer (some ⟨p, 0, none⟩), .int .u64 ↑n, .bool false, .pointer (some ⟨p, 0, none⟩), .pointer (some ⟨p, 0, none⟩), .pointer (some ⟨p, 0, none⟩), .int .u64 ↑n, .int .u64 ↑(n + 1), .pointer (some ⟨p, 0, none⟩), .pointer (some ⟨p, 0, none⟩), v23, v24, v25, v26, v27, v28, v29, v30, v31, v32, v33, undef, undef, undef, undef, undef, undef, undef, undef, undef, undef, undef, undef, undef, undef, undef, undef, undef, undef, undef, undef, undef, undef, undef, undef, undef, undef, undef, undef, undef, undef, undef, undef, undef, undef, undef, undef, undef, undef, undef, undef, undef, undef, undef, undef, undef, undef, undef, undef, undef, undef, undef, undef, undef, undef, undef, undef, undef, undef, undef, undef, undef, undef, undef, undef, undef, undef, undef, undef, undef, undef, undef, undef, undef, undef, undef, undef, undef, undef, undef, undef, undef, undef, undef, undef, undef, undef, undef, undef, undef, undef, undef, undef, undef, undef, undef, undef, undef, undef], []⟩ ∧ InvWAddA (partsF n P) d v p n g3 B w w2 L v23 v24 v25 v26 v27 v28 v29 v30 v31 v32 v33 wx) ?_ ⟨?_, ?_, ?_, ?_, ?_, ?_, ?_, ?_, ?_, ?_, ?_, ?_, trivial⟩ ?_
  · refine ⟨_, _, _, _, _, _, _, _, _, _, _, rfl, ⟨?_, ?_, ?_, ?_, ?_, ?_, ?_, ?_, ?_, ?_, ?_, fun _ => hA2.drew, (fun h => nomatch (show false = true from h)), hX3.drew, fun _ => hO2.to (Below.refl _ _).drew, kb2.drew, Nat.le_refl _⟩⟩ <;> (intro h; exact absurd h (by decide))
  · rintro L a wx ⟨v23, v24, v25, v26, v27, v28, v29, v30, v31, v32, v33, rfl, hI⟩ hL hdep hcl K hK
    go_simp
    exact hK _ _ ⟨_, v24, v25, v26, v27, v28, v29, v30, v31, v32, v33, rfl, ⟨fun _ => rfl, hI.t1, hI.t2, hI.t3, hI.t4, hI.t5, hI.t6, hI.t7, hI.t8, hI.t9, hI.t10, hI.ap, hI.apx, hI.a3, hI.ow, hI.kb, hI.sz⟩⟩
  · rintro L a wx ⟨v23, v24, v25, v26, v27, v28, v29, v30, v31, v32, v33, rfl, hI⟩ hL hdep hcl K hK
    go_simp
    exact hK _ _ ⟨v23, _, v25, v26, v27, v28, v29, v30, v31, v32, v33, rfl, ⟨hI.t0, fun _ => rfl, hI.t2, hI.t3, hI.t4, hI.t5, hI.t6, hI.t7, hI.t8, hI.t9, hI.t10, hI.ap, hI.apx, hI.a3, hI.ow, hI.kb, hI.sz⟩⟩
  · rintro L a wx ⟨v23, v24, v25, v26, v27, v28, v29, v30, v31, v32, v33, rfl, hI⟩ hL hdep hcl K hK
    obtain rfl := hI.t1 (hdep 1 (by decide))
    go_simp
    exact hK _ _ ⟨v23, _, _, v26, v27, v28, v29, v30, v31, v32, v33, rfl, ⟨hI.t0, hI.t1, fun _ => rfl, hI.t3, hI.t4, hI.t5, hI.t6, hI.t7, hI.t8, hI.t9, hI.t10, hI.ap, hI.apx, hI.a3, hI.ow, hI.kb, hI.sz⟩⟩
  · rintro L a wx ⟨v23, v24, v25, v26, v27, v28, v29, v30, v31, v32, v33, rfl, hI⟩ hL hdep hcl K hK
    obtain rfl := hI.t2 (hdep 2 (by decide))
    go_simp
    exact hK _ _ ⟨v23, v24, _, _, v27, v28, v29, v30, v31, v32, v33, rfl, ⟨hI.t0, hI.t1, hI.t2, fun _ => rfl, hI.t4, hI.t5, hI.t6, hI.t7, hI.t8, hI.t9, hI.t10, hI.ap, hI.apx, hI.a3, hI.ow, hI.kb, hI.sz⟩⟩
  · rintro L a wx ⟨v23, v24, v25, v26, v27, v28, v29, v30, v31, v32, v33, rfl, hI⟩ hL hdep hcl K hK
    obtain rfl := hI.t3 (hdep 3 (by decide))
    have hA' : Arr wx p 54 [.int .u64 ((n + 1 : Nat) : Int), v] := by
      have h7 := hI.ap
      cases h6 : L 11 with
      | true =>
        have h4 := hcl 11 (by decide) h6 4 (by decide)
        rw [hL] at h4
        cases h4
      | false => exact h7 h6
    have c1 := hA'.cell 1
    simp only [List.getElem?_cons_succ, List.getElem?_cons_zero] at c1
    go_simp
    exact hK _ _ ⟨v23, v24, v25, _, _, v28, v29, v30, v31, v32, v33, rfl, ⟨hI.t0, hI.t1, hI.t2, hI.t3, fun _ => rfl, hI.t5, hI.t6, hI.t7, hI.t8, hI.t9, hI.t10, hI.ap, hI.apx, hI.a3, hI.ow, hI.kb, hI.sz⟩⟩
  · rintro L a wx ⟨v23, v24, v25, v26, v27, v28, v29, v30, v31, v32, v33, rfl, hI⟩ hL hdep hcl K hK
    refine ow_load 29 _ rfl g3 0 rfl 29 (bvs d) (bvs d) hI.a3 (fun j v h => by rw [Nat.zero_add]; exact h) (.array 32 5) Try.underlying29 rfl h32d.out ?_
    exact hK _ _ ⟨v23, v24, v25, v26, v27, _, v29, v30, v31, v32, v33, rfl, ⟨hI.t0, hI.t1, hI.t2, hI.t3, hI.t4, fun _ => rfl, hI.t6, hI.t7, hI.t8, hI.t9, hI.t10, hI.ap, hI.apx, hI.a3, hI.ow, hI.kb, hI.sz⟩⟩
  · rintro L a wx ⟨v23, v24, v25, v26, v27, v28, v29, v30, v31, v32, v33, rfl, hI⟩ hL hdep hcl K hK
    obtain rfl := hI.t5 (hdep 5 (by decide))
    refine ow_build 63 _ rfl (encP (1, d)).toArray (by simpa [Act.eval, encP] using built_part 1 d HD32.out) ?_
    exact hK _ _ ⟨v23, v24, v25, v26, v27, _, _, v30, v31, v32, v33, rfl, ⟨hI.t0, hI.t1, hI.t2, hI.t3, hI.t4, hI.t5, fun _ => rfl, hI.t7, hI.t8, hI.t9, hI.t10, hI.ap, hI.apx, hI.a3, hI.ow, hI.kb, hI.sz⟩⟩
  · rintro L a wx ⟨v23, v24, v25, v26, v27, v28, v29, v30, v31, v32, v33, rfl, hI⟩ hL hdep hcl K hK
    obtain rfl := hI.t6 (hdep 6 (by decide))
    refine ow_of_wl rfl ?_
    refine wl_litG1 infoPt rfl 29 rfl (1, d) (encP_len HD32.out) (by omega) (.agg (encP (1, d)).toArray) rfl rfl ?_
    intro w' hL1 hb hs
    show K _ _
    exact hK _ _ ⟨v23, v24, v25, v26, v27, v28, _, _, v31, v32, v33, rfl, ⟨hI.t0, hI.t1, hI.t2, hI.t3, hI.t4, hI.t5, hI.t6, fun _ => ⟨_, rfl, hL1, hI.sz⟩, fun h => (hI.t8 h).to hb, hI.t9, hI.t10, fun h => (hI.ap h).kept hb, fun h => (hI.apx h).kept hb, (hI.a3).kept hb, fun h => (hI.ow h).to hb, (hI.kb).below hb, Nat.le_trans hI.sz hb.size⟩⟩
  · rintro L a wx ⟨v23, v24, v25, v26, v27, v28, v29, v30, v31, v32, v33, rfl, hI⟩ hL hdep hcl K hK
    obtain rfl := hI.t4 (hdep 4 (by decide))
    obtain ⟨r, rfl, hL1, hr0⟩ := hI.t7 (hdep 7 (by decide))
    have hOx := hI.ow hL
    refine ow_of_wl rfl ?_
    refine wl_appendG1 infoPt rfl (.tmp 27) (.tmp 30) rfl B _ (partsF n P) rfl hOx r (1, d) rfl hL1 (encP_len HD32.out) (encP_one _) (by rw [HZL.out]; have := HFEW.out; unfold maxLen; omega) (by rw [HZL.out]; have := HFEW.out; omega) (Nat.le_trans (Nat.le_trans hBw kb2.size) hI.sz) ?_
    intro u w' hO' hg hb
    show K _ _
    have h11 : L 11 = false := by
      cases h6 : L 11 with
      | true =>
        have h4 := hcl 11 (by decide) h6 8 (by decide)
        rw [hL] at h4
        cases h4
      | false => rfl
    have hAr := hI.ap h11
    exact hK _ _ ⟨v23, v24, v25, v26, _, v28, v29, _, _, v32, v33, rfl, ⟨hI.t0, hI.t1, hI.t2, hI.t3, hI.t4, hI.t5, hI.t6, (fun h => ⟨r, rfl, hL1.grown hg (own_new hr0 hOB), hr0⟩), fun _ => hO', hI.t9, hI.t10, (fun h => hAr.grown hg (arr_row hAr hOx.row (by decide))), (fun h13 => absurd (show L 11 = true from h13) (by rw [h11]; decide)), hI.a3.grown hg (arr_row hI.a3 hOx.row (by decide)), (fun h => nomatch (show true = false from h)), hI.kb.trans' (KB.by' hg (fun g e => hZO g e)), Nat.le_trans hI.sz hg.size⟩⟩
  · rintro L a wx ⟨v23, v24, v25, v26, v27, v28, v29, v30, v31, v32, v33, rfl, hI⟩ hL hdep hcl K hK
    obtain rfl := hI.t0 (hdep 0 (by decide))
    go_simp
    exact hK _ _ ⟨_, v24, v25, v26, v27, v28, v29, v30, v31, _, v33, rfl, ⟨hI.t0, hI.t1, hI.t2, hI.t3, hI.t4, hI.t5, hI.t6, hI.t7, hI.t8, fun _ => rfl, hI.t10, hI.ap, hI.apx, hI.a3, hI.ow, hI.kb, hI.sz⟩⟩
  · rintro L a wx ⟨v23, v24, v25, v26, v27, v28, v29, v30, v31, v32, v33, rfl, hI⟩ hL hdep hcl K hK
    obtain rfl := hI.t9 (hdep 9 (by decide))
    go_simp
    exact hK _ _ ⟨v23, v24, v25, v26, v27, v28, v29, v30, v31, _, _, rfl, ⟨hI.t0, hI.t1, hI.t2, hI.t3, hI.t4, hI.t5, hI.t6, hI.t7, hI.t8, hI.t9, fun _ => rfl, hI.ap, hI.apx, hI.a3, hI.ow, hI.kb, hI.sz⟩⟩
  · rintro L a wx ⟨v23, v24, v25, v26, v27, v28, v29, v30, v31, v32, v33, rfl, hI⟩ hL hdep hcl K hK
    obtain rfl := hI.t10 (hdep 10 (by decide))
    obtain rfl := hI.t0 (hdep 0 (by decide))
    obtain rfl := hI.t1 (hdep 1 (by decide))
    obtain rfl := hI.t2 (hdep 2 (by decide))
    obtain rfl := hI.t3 (hdep 3 (by decide))
    obtain rfl := hI.t4 (hdep 4 (by decide))
    obtain rfl := hI.t5 (hdep 5 (by decide))
    obtain rfl := hI.t6 (hdep 6 (by decide))
    have h31 := hI.t8 (hdep 8 (by decide))
    have hAr := hI.ap hL
    refine ow_store1 52 _ _ rfl p 1 rfl v31 rfl (cells_own h31.row) (one_own h31.row) 54 _ hAr sizePs (by simp) ?_
    intro w' hA' hg hs
    exact hK _ _ ⟨_, _, _, _, _, _, _, v30, v31, v32, _, rfl, ⟨hI.t0, hI.t1, hI.t2, hI.t3, hI.t4, hI.t5, hI.t6, (fun h => by obtain ⟨r, e, k1, k2⟩ := hI.t7 h; exact ⟨r, e, k1.grown hg (by intro e; injection e with e; have := kb2.size; omega), k2⟩), fun _ => h31.by hg (row_arr h31.row hAr (by decide)), hI.t9, hI.t10, (fun h => nomatch (show true = false from h)), fun _ => hA', hI.a3.grown hg (by intro e; injection e with e; have := HG3.out; omega), (fun h => absurd (hdep 8 (by decide)) (by rw [show L 8 = false from h]; decide)), hI.kb.grown hg (zw_arr HA.out hbp), Nat.le_trans hI.sz hg.size⟩⟩
  · rintro a wx ⟨v23, v24, v25, v26, v27, v28, v29, v30, v31, v32, v33, rfl, hI⟩
    have hap := hI.apx rfl
    have hkb := hI.kb
    have ha3 := hI.a3
    have h31 := hI.t8 rfl
    clear hI
    obtain ⟨a2, c2, e2, hr2, -⟩ := h31.rd (by omega)
    subst e2
    have hwB : ∀ g, (Value.slice a2 (partsF n P ++ [(1, d)]).length c2).ownBlock = some g → B ≤ g := fun g e => (World.ownsRow.lt h31.row g e).1
    go_upto_region 5 with fail
    clear hA2 hX3 hO2 kb2 hwB
    obtain ⟨W1, hW1⟩ : ∃ W1, W1 = wx := ⟨_, rfl⟩
    rw [← hW1] at hap ha3 h31 hkb ⊢
    have hKBs := hkb.size
    clear hW1
    go_wp2_with (first
      | ((with_reducible show wpList _ _ _ (⟨some 34, .load _ _, _, _, _, _⟩ :: _) _ _); refine wl_load rfl 29 _ rfl g3 0 rfl 29 (bvs d) (bvs d) ha3 (fun j v h => (by rw [Nat.zero_add]; exact h)) (.array 32 5) Try.underlying29 rfl h32d.out ?_)
      | ((with_reducible show wpList _ _ _ (⟨some 35, .buildSlice _ _ _, _, _, _, _⟩ :: _) _ _); refine wl_litD rfl 34 rfl d HD32.out rfl ?_; intro w5 hL5 hb5))
    have hw5 := hb5.size
    have hT5 : OwnD w5 w.heap.size (.slice (some ⟨W1.heap.size, 0, none⟩) 1 1) [d] := OwnD.made (by rw [show dcs [d] = bvs d by simp [dcs]]; exact hL5) rfl (All32.of (by simp [HD32.out])) hKBs (by decide)
    have hzl2 : (partsF n P ++ [(1, d)]).length = (pkZ n P).length + 1 := by simp [partsF]
    rw [hzl2] at hap h31
    obtain ⟨gq0, hgq0⟩ : ∃ g, a2 = some ⟨g, 0, none⟩ := by
      obtain ⟨g, c', e, -, -⟩ := h31.solid (by simp)
      injection e with e
      exact ⟨g, e⟩
    subst hgq0
    have hrow0 : AddWI B n p P d w (pkZ n P) (1, d) [d] gq0 c2 w5 := ⟨rfl, ⟨[], rfl, rfl⟩, rfl, Nat.le_refl _, by have := HFEW.out; have := pkZ_len HCNT.out; simp only [List.length_cons, List.length_nil]; omega, hap.kept hb5, by unfold partsF at h31; exact h31.to hb5, hkb.below hb5⟩
    clear hap h31 hkb ha3 hL5 hb5 hr2 hzl2
    go_loopw [6, 7, 8, 9, 10] (fun tv x7 x8 x9 x10 wr => ∃ (rest : List (Nat × List UInt8)) (b : Nat × List UInt8) (told : List (List UInt8)) (gq cv : Nat), AddWI B n p P d w rest b told gq cv wr ∧ OwnD wr w.heap.size tv told) (fun _ _ _ _ _ wr => rowLen wr p)
    case atStart => exact ⟨pkZ n P, (1, d), [d], gq0, c2, hrow0, hT5⟩
    case round =>
      clear hrow0 hT5 hw5 hKBs
      obtain ⟨rest, b, told, gq, cv, ⟨k1, k2, k3, k4, k5, hAp, hOp, hKB⟩, hT⟩ := hrel
      obtain ⟨N1, hN1⟩ : ∃ N, N = rest.length + 1 := ⟨_, rfl⟩
      have hLL : (rest.reverse ++ [b]).length = N1 := by simp [hN1]
      have hrl := rowLen_at hAp
      rw [← hN1] at hAp hOp hrl
      obtain ⟨al', cv', eR, hR, -⟩ := hOp.rd (by omega)
      injection eR with eR1 eR2 eR3
      subst eR1 eR3
      clear eR2
      rw [hLL] at hR
      have HN1 := Lib.hid hN1
      have HRL := Lib.hid hrl
      have HAP := Lib.hid hAp
      have C1 : Hid (wr.drew.cell? ⟨p, 1, none⟩ = some (.slice (some ⟨gq, 0, none⟩) N1 cv)) := by show _ = _; simpa using hAp.cell 1
      have K1 := Lib.hid k1
      have K2 := Lib.hid k2
      have K3 := Lib.hid k3
      have K4 := Lib.hid k4
      have K5 := Lib.hid k5
      have HKB := Lib.hid hKB
      have HLLH := Lib.hid hLL
      have fin : ∀ wf : World, wf = wr.drew → (∀ A r', rest = A :: r' → A.1 ≠ b.1) → OwnD wf w.heap.size u6 (toldP n P d) ∧ IsW B wf p (n + 1) (addP n P d) ∧ KB (ZW B w) w wf := by
        rintro wf rfl hst
        have key : carry rest b = b :: rest ∧ carryT rest b = [b.2] := by
          cases rest with
          | nil => exact ⟨rfl, rfl⟩
          | cons A r' => exact ⟨by rw [carry, if_neg (hst A r' rfl)], by rw [carryT, if_neg (hst A r' rfl)]⟩
        obtain ⟨T, e1, e2⟩ := K2.out
        rw [key.2] at e2
        have e3 : told = toldP n P d := by rw [← told_carry HCNT.out, e2, e1]
        rw [← e3]
        refine ⟨hT.to (Below.refl _ _).drew, ⟨⟨_, hAp.drew, ?_⟩, addP_all HALL.out HD32.out, addP_len HCNT.out, by have := HN.out; omega, hbp⟩, hKB.drew⟩
        rw [partsF_add HCNT.out, K1.out, key.1, List.reverse_cons]
        exact hOp.to (Below.refl _ _).drew
      have HFIN := Lib.hid fin
      clear k1 k2 k3 k4 k5 hN1 hrl hKB hLL fin
      cases rest with
      | nil =>
        have hN : N1 = 1 := by simpa using HN1.out
        have CB : Hid (wr.drew.cell? ⟨p, 1, none⟩ = wr.drew.cell? ⟨p, 1, none⟩) := rfl
        have hge : Hid (decide ((2 : Int) ≤ (N1 : Int)) = false) := decide_eq_false (by omega)
        have hge2 : Hid (decide (2 ≤ N1) = false) := decide_eq_false (by omega)
        have HF := Lib.hid (HFIN.out wr.drew rfl (fun A r' e => by cases e))
        clear hN hOp hR
        go_upto_region 6 with fail
        refine wp_region_steps [[], [0], [1], [2], [3], [4], [5], [6], [7, 6], [8, 6], [9, 6], [6], [11, 6], [12, 6], [13, 6], [14, 6], [15, 6], [10, 16, 6], [17, 6], [18, 6], [6], [20, 6], [21, 6], [22, 6], [6], [24, 6], [25, 6], [26, 6], [27, 6], [28, 6], [23, 29, 6], [30, 6], [31, 6], [19, 32, 6], [6, 33]] (by kernel_rfl) (by kernel_rfl) (fun L a wx => ∃ v : Nat → Value, a = ⟨#[.pointer (some ⟨p, 0, none⟩), .agg (bvs d).toArray, undef, .pointer (some ⟨g3, 0, none⟩), .slice none 0 0, .int .i64 0, u6, u7, u8, u9, u10, .pointer (some ⟨p, 0, none⟩), .pointer (some ⟨p, 0, none⟩), .pointer (some ⟨p, 0, none⟩), .int .u64 ↑n, .bool false, .pointer (some ⟨p, 0, none⟩), .pointer (some ⟨p, 0, none⟩), .pointer (some ⟨p, 0, none⟩), .int .u64 ↑n, .int .u64 (↑n + 1), .pointer (some ⟨p, 0, none⟩), .pointer (some ⟨p, 0, none⟩), v23, v24, v25, v26, v27, v28, v29, v30, .slice (some ⟨gq0, 0, none⟩) ((partsF n P).length + 1) c2, v32, v33, .agg (bvs d).toArray, .slice (some ⟨W1.heap.size, 0, none⟩) 1 1, v 36, v 37, v 38, v 39, v 40, v 41, v 42, v 43, v 44, v 45, v 46, v 47, v 48, v 49, v 50, v 51, v 52, v 53, v 54, v 55, v 56, v 57, v 58, v 59, v 60, v 61, v 62, v 63, v 64, v 65, v 66, v 67, v 68, v 69, v 70, u71, u72, u73, u74, u75, u76, u77, u78, u79, u80, u81, u82, u83, u84, u85, u86, u87, u88, u89, u90, u91, u92, u93, u94, u95, u96, u97, u98, u99, u100, u101, u102, u103, u104, u105, u106, u107, u108, u109, u110, u111, u112, u113, u114, u115, u116, u117, u118, u119, u120, u121, u122, u123, u124, u125, u126, u127, u128, u129, u130, undef], []⟩ ∧ InvWAddFA d p n g3 gq N1 cv u6 u7 u8 u9 u10 u36 u37 u38 u39 u40 u41 u42 u43 u44 u45 u46 u47 u48 u49 u50 u51 u52 u53 u54 u55 u56 u57 u58 u59 u60 u61 u62 u63 u64 u65 u66 u67 u68 u69 u70 u71 u72 u73 u74 u75 u76 u77 u78 u79 u80 u81 u82 u83 u84 u85 u86 u87 u88 u89 u90 u91 u92 u93 u94 u95 u96 u97 u98 u99 u100 u101 u102 u103 u104 u105 u106 u107 u108 u109 u110 u111 u112 u113 u114 u115 u116 u117 u118 u119 u120 u121 u122 u123 u124 u125 u126 u127 u128 u129 u130 wr L v wx) ?_ ⟨?_, ?_, ?_, ?_, ?_, ?_, ?_, ?_, ?_, ?_, ?_, ?_, ?_, ?_, ?_, ?_, ?_, ?_, ?_, ?_, ?_, ?_, ?_, ?_, ?_, ?_, ?_, ?_, ?_, ?_, ?_, ?_, ?_, ?_, ?_, trivial⟩ ?_
        · refine ⟨upd (upd (upd (upd (upd (upd (upd (upd (upd (upd (upd (upd (upd (upd (upd (upd (upd (upd (upd (upd (upd (upd (upd (upd (upd (upd (upd (upd (upd (upd (upd (upd (upd (upd (upd (fun _ => undef) 36 (u36)) 37 (u37)) 38 (u38)) 39 (u39)) 40 (u40)) 41 (u41)) 42 (u42)) 43 (u43)) 44 (u44)) 45 (u45)) 46 (u46)) 47 (u47)) 48 (u48)) 49 (u49)) 50 (u50)) 51 (u51)) 52 (u52)) 53 (u53)) 54 (u54)) 55 (u55)) 56 (u56)) 57 (u57)) 58 (u58)) 59 (u59)) 60 (u60)) 61 (u61)) 62 (u62)) 63 (u63)) 64 (u64)) 65 (u65)) 66 (u66)) 67 (u67)) 68 (u68)) 69 (u69)) 70 (u70), rfl, ⟨?_, ?_, ?_, ?_, ?_, ?_, ?_, ?_, ?_, ?_, ?_, ?_, ?_, ?_, ?_, ?_, ?_, ?_, ?_, ?_, ?_, ?_, ?_, ?_, ?_, ?_, ?_, ?_, ?_, ?_, ?_, ?_, ?_, ?_, ?_, rfl⟩⟩ <;> (intro h; exact absurd h (by decide))
        · rintro L a wx ⟨v, rfl, hI⟩ hL hdep hcl K hK
          go_simp
          exact hK _ _ ⟨(upd v 36 (.pointer (some ⟨p, 0, none⟩))), rfl, ⟨fun _ => rfl, hI.t1, hI.t2, hI.t3, hI.t4, hI.t5, hI.t6, hI.t7, hI.t8, hI.t9, hI.t10, hI.t11, hI.t12, hI.t13, hI.t14, hI.t15, hI.t16, hI.t17, hI.t18, hI.t19, hI.t20, hI.t21, hI.t22, hI.t23, hI.t24, hI.t25, hI.t26, hI.t27, hI.t28, hI.t29, hI.t30, hI.t31, hI.t32, hI.t33, hI.t34, hI.wq⟩⟩
        · rintro L a wx ⟨v, rfl, hI⟩ hL hdep hcl K hK
          have e0 := hI.t0 (hdep 0 (by decide))
          rw [e0]
          go_simp
          exact hK _ _ ⟨(upd (upd v 36 (.pointer (some ⟨p, 0, none⟩))) 37 (.pointer (some ⟨p, 0, none⟩))), rfl, ⟨fun _ => rfl, fun _ => rfl, hI.t2, hI.t3, hI.t4, hI.t5, hI.t6, hI.t7, hI.t8, hI.t9, hI.t10, hI.t11, hI.t12, hI.t13, hI.t14, hI.t15, hI.t16, hI.t17, hI.t18, hI.t19, hI.t20, hI.t21, hI.t22, hI.t23, hI.t24, hI.t25, hI.t26, hI.t27, hI.t28, hI.t29, hI.t30, hI.t31, hI.t32, hI.t33, hI.t34, hI.wq⟩⟩
        · rintro L a wx ⟨v, rfl, hI⟩ hL hdep hcl K hK
          have e1 := hI.t1 (hdep 1 (by decide))
          rw [e1]
          go_simp
          exact hK _ _ ⟨(upd (upd v 37 (.pointer (some ⟨p, 0, none⟩))) 38 (.pointer (some ⟨p, 1, none⟩))), rfl, ⟨hI.t0, fun _ => rfl, fun _ => rfl, hI.t3, hI.t4, hI.t5, hI.t6, hI.t7, hI.t8, hI.t9, hI.t10, hI.t11, hI.t12, hI.t13, hI.t14, hI.t15, hI.t16, hI.t17, hI.t18, hI.t19, hI.t20, hI.t21, hI.t22, hI.t23, hI.t24, hI.t25, hI.t26, hI.t27, hI.t28, hI.t29, hI.t30, hI.t31, hI.t32, hI.t33, hI.t34, hI.wq⟩⟩
        · rintro L a wx ⟨v, rfl, hI⟩ hL hdep hcl K hK
          have e2 := hI.t2 (hdep 2 (by decide))
          rw [e2]
          obtain rfl := hI.wq
          have cc := C1.out
          go_simp
          exact hK _ _ ⟨(upd (upd v 38 (.pointer (some ⟨p, 1, none⟩))) 39 (.slice (some ⟨gq, 0, none⟩) N1 cv)), rfl, ⟨hI.t0, hI.t1, fun _ => rfl, fun _ => rfl, hI.t4, hI.t5, hI.t6, hI.t7, hI.t8, hI.t9, hI.t10, hI.t11, hI.t12, hI.t13, hI.t14, hI.t15, hI.t16, hI.t17, hI.t18, hI.t19, hI.t20, hI.t21, hI.t22, hI.t23, hI.t24, hI.t25, hI.t26, hI.t27, hI.t28, hI.t29, hI.t30, hI.t31, hI.t32, hI.t33, hI.t34, hI.wq⟩⟩
        · rintro L a wx ⟨v, rfl, hI⟩ hL hdep hcl K hK
          have e3 := hI.t3 (hdep 3 (by decide))
          rw [e3]
          go_simp
          exact hK _ _ ⟨(upd (upd v 39 (.slice (some ⟨gq, 0, none⟩) N1 cv)) 40 (.int .i64 (N1 : Int))), rfl, ⟨hI.t0, hI.t1, hI.t2, fun _ => rfl, fun _ => rfl, hI.t5, hI.t6, hI.t7, hI.t8, hI.t9, hI.t10, hI.t11, hI.t12, hI.t13, hI.t14, hI.t15, hI.t16, hI.t17, hI.t18, hI.t19, hI.t20, hI.t21, hI.t22, hI.t23, hI.t24, hI.t25, hI.t26, hI.t27, hI.t28, hI.t29, hI.t30, hI.t31, hI.t32, hI.t33, hI.t34, hI.wq⟩⟩
        · rintro L a wx ⟨v, rfl, hI⟩ hL hdep hcl K hK
          have e4 := hI.t4 (hdep 4 (by decide))
          rw [e4]
          have q1 := hge.out
          have q2 := hge2.out
          go_simp
          exact hK _ _ ⟨(upd (upd v 40 (.int .i64 (N1 : Int))) 41 (.bool false)), rfl, ⟨hI.t0, hI.t1, hI.t2, hI.t3, fun _ => rfl, fun _ => rfl, hI.t6, hI.t7, hI.t8, hI.t9, hI.t10, hI.t11, hI.t12, hI.t13, hI.t14, hI.t15, hI.t16, hI.t17, hI.t18, hI.t19, hI.t20, hI.t21, hI.t22, hI.t23, hI.t24, hI.t25, hI.t26, hI.t27, hI.t28, hI.t29, hI.t30, hI.t31, hI.t32, hI.t33, hI.t34, hI.wq⟩⟩
        · rintro L a wx ⟨v, rfl, hI⟩ hL hdep hcl K hK
          have e5 := hI.t5 (hdep 5 (by decide))
          rw [e5]
          go_simp
          exact hK _ _ ⟨(upd (upd v 41 (.bool false)) 42 (.bool false)), rfl, ⟨hI.t0, hI.t1, hI.t2, hI.t3, hI.t4, fun _ => rfl, fun _ => rfl, hI.t7, hI.t8, hI.t9, hI.t10, hI.t11, hI.t12, hI.t13, hI.t14, hI.t15, hI.t16, hI.t17, hI.t18, hI.t19, hI.t20, hI.t21, hI.t22, hI.t23, hI.t24, hI.t25, hI.t26, hI.t27, hI.t28, hI.t29, hI.t30, hI.t31, hI.t32, hI.t33, hI.t34, hI.wq⟩⟩
        · rintro L a wx ⟨v, rfl, hI⟩ hL hdep hcl K hK
          have e6 := hI.t6 (hdep 6 (by decide))
          rw [e6]
          refine (if_neg (by exact fun h => Bool.noConfusion (show false = true from h))).mpr ?_
          exact hK _ _ ⟨(upd (upd v 42 (.bool false)) 43 (undef)), rfl, ⟨hI.t0, hI.t1, hI.t2, hI.t3, hI.t4, hI.t5, fun _ => rfl, fun _ => rfl, hI.t8, hI.t9, hI.t10, hI.t11, hI.t12, hI.t13, hI.t14, hI.t15, hI.t16, hI.t17, hI.t18, hI.t19, hI.t20, hI.t21, hI.t22, hI.t23, hI.t24, hI.t25, hI.t26, hI.t27, hI.t28, hI.t29, hI.t30, hI.t31, hI.t32, hI.t33, hI.t34, hI.wq⟩⟩
        · rintro L a wx ⟨v, rfl, hI⟩ hL hdep hcl K hK
          have e7 := hI.t7 (hdep 7 (by decide))
          have e6 := hI.t6 (hdep 6 (by decide))
          rw [e7, e6]
          refine (if_neg (by exact fun h => Bool.noConfusion (show false = true from h))).mpr ?_
          exact hK _ _ ⟨(upd (upd (upd v 43 (undef)) 42 (.bool false)) 44 (undef)), rfl, ⟨hI.t0, hI.t1, hI.t2, hI.t3, hI.t4, hI.t5, fun _ => rfl, fun _ => rfl, fun _ => rfl, hI.t9, hI.t10, hI.t11, hI.t12, hI.t13, hI.t14, hI.t15, hI.t16, hI.t17, hI.t18, hI.t19, hI.t20, hI.t21, hI.t22, hI.t23, hI.t24, hI.t25, hI.t26, hI.t27, hI.t28, hI.t29, hI.t30, hI.t31, hI.t32, hI.t33, hI.t34, hI.wq⟩⟩
        · rintro L a wx ⟨v, rfl, hI⟩ hL hdep hcl K hK
          have e8 := hI.t8 (hdep 8 (by decide))
          have e6 := hI.t6 (hdep 6 (by decide))
          rw [e8, e6]
          refine (if_neg (by exact fun h => Bool.noConfusion (show false = true from h))).mpr ?_
          exact hK _ _ ⟨(upd (upd (upd v 44 (undef)) 42 (.bool false)) 45 (undef)), rfl, ⟨hI.t0, hI.t1, hI.t2, hI.t3, hI.t4, hI.t5, fun _ => rfl, hI.t7, fun _ => rfl, fun _ => rfl, hI.t10, hI.t11, hI.t12, hI.t13, hI.t14, hI.t15, hI.t16, hI.t17, hI.t18, hI.t19, hI.t20, hI.t21, hI.t22, hI.t23, hI.t24, hI.t25, hI.t26, hI.t27, hI.t28, hI.t29, hI.t30, hI.t31, hI.t32, hI.t33, hI.t34, hI.wq⟩⟩
        · rintro L a wx ⟨v, rfl, hI⟩ hL hdep hcl K hK
          have e9 := hI.t9 (hdep 9 (by decide))
          have e6 := hI.t6 (hdep 6 (by decide))
          rw [e9, e6]
          refine (if_neg (by exact fun h => Bool.noConfusion (show false = true from h))).mpr ?_
          exact hK _ _ ⟨(upd (upd (upd v 45 (undef)) 42 (.bool false)) 46 (undef)), rfl, ⟨hI.t0, hI.t1, hI.t2, hI.t3, hI.t4, hI.t5, fun _ => rfl, hI.t7, hI.t8, fun _ => rfl, fun _ => rfl, hI.t11, hI.t12, hI.t13, hI.t14, hI.t15, hI.t16, hI.t17, hI.t18, hI.t19, hI.t20, hI.t21, hI.t22, hI.t23, hI.t24, hI.t25, hI.t26, hI.t27, hI.t28, hI.t29, hI.t30, hI.t31, hI.t32, hI.t33, hI.t34, hI.wq⟩⟩
        · rintro L a wx ⟨v, rfl, hI⟩ hL hdep hcl K hK
          have e6 := hI.t6 (hdep 6 (by decide))
          rw [e6]
          refine (if_neg (by exact fun h => Bool.noConfusion (show false = true from h))).mpr ?_
          exact hK _ _ ⟨(upd (upd v 42 (.bool false)) 47 (undef)), rfl, ⟨hI.t0, hI.t1, hI.t2, hI.t3, hI.t4, hI.t5, fun _ => rfl, hI.t7, hI.t8, hI.t9, hI.t10, fun _ => rfl, hI.t12, hI.t13, hI.t14, hI.t15, hI.t16, hI.t17, hI.t18, hI.t19, hI.t20, hI.t21, hI.t22, hI.t23, hI.t24, hI.t25, hI.t26, hI.t27, hI.t28, hI.t29, hI.t30, hI.t31, hI.t32, hI.t33, hI.t34, hI.wq⟩⟩
        · rintro L a wx ⟨v, rfl, hI⟩ hL hdep hcl K hK
          have e11 := hI.t11 (hdep 11 (by decide))
          have e6 := hI.t6 (hdep 6 (by decide))
          rw [e11, e6]
          refine (if_neg (by exact fun h => Bool.noConfusion (show false = true from h))).mpr ?_
          exact hK _ _ ⟨(upd (upd (upd v 47 (undef)) 42 (.bool false)) 48 (undef)), rfl, ⟨hI.t0, hI.t1, hI.t2, hI.t3, hI.t4, hI.t5, fun _ => rfl, hI.t7, hI.t8, hI.t9, hI.t10, fun _ => rfl, fun _ => rfl, hI.t13, hI.t14, hI.t15, hI.t16, hI.t17, hI.t18, hI.t19, hI.t20, hI.t21, hI.t22, hI.t23, hI.t24, hI.t25, hI.t26, hI.t27, hI.t28, hI.t29, hI.t30, hI.t31, hI.t32, hI.t33, hI.t34, hI.wq⟩⟩
        · rintro L a wx ⟨v, rfl, hI⟩ hL hdep hcl K hK
          have e12 := hI.t12 (hdep 12 (by decide))
          have e6 := hI.t6 (hdep 6 (by decide))
          rw [e12, e6]
          refine (if_neg (by exact fun h => Bool.noConfusion (show false = true from h))).mpr ?_
          exact hK _ _ ⟨(upd (upd (upd v 48 (undef)) 42 (.bool false)) 49 (undef)), rfl, ⟨hI.t0, hI.t1, hI.t2, hI.t3, hI.t4, hI.t5, fun _ => rfl, hI.t7, hI.t8, hI.t9, hI.t10, hI.t11, fun _ => rfl, fun _ => rfl, hI.t14, hI.t15, hI.t16, hI.t17, hI.t18, hI.t19, hI.t20, hI.t21, hI.t22, hI.t23, hI.t24, hI.t25, hI.t26, hI.t27, hI.t28, hI.t29, hI.t30, hI.t31, hI.t32, hI.t33, hI.t34, hI.wq⟩⟩
        · rintro L a wx ⟨v, rfl, hI⟩ hL hdep hcl K hK
          have e13 := hI.t13 (hdep 13 (by decide))
          have e6 := hI.t6 (hdep 6 (by decide))
          rw [e13, e6]
          refine (if_neg (by exact fun h => Bool.noConfusion (show false = true from h))).mpr ?_
          exact hK _ _ ⟨(upd (upd (upd v 49 (undef)) 42 (.bool false)) 50 (undef)), rfl, ⟨hI.t0, hI.t1, hI.t2, hI.t3, hI.t4, hI.t5, fun _ => rfl, hI.t7, hI.t8, hI.t9, hI.t10, hI.t11, hI.t12, fun _ => rfl, fun _ => rfl, hI.t15, hI.t16, hI.t17, hI.t18, hI.t19, hI.t20, hI.t21, hI.t22, hI.t23, hI.t24, hI.t25, hI.t26, hI.t27, hI.t28, hI.t29, hI.t30, hI.t31, hI.t32, hI.t33, hI.t34, hI.wq⟩⟩
        · rintro L a wx ⟨v, rfl, hI⟩ hL hdep hcl K hK
          have e14 := hI.t14 (hdep 14 (by decide))
          have e6 := hI.t6 (hdep 6 (by decide))
          rw [e14, e6]
          refine (if_neg (by exact fun h => Bool.noConfusion (show false = true from h))).mpr ?_
          exact hK _ _ ⟨(upd (upd (upd v 50 (undef)) 42 (.bool false)) 51 (undef)), rfl, ⟨hI.t0, hI.t1, hI.t2, hI.t3, hI.t4, hI.t5, fun _ => rfl, hI.t7, hI.t8, hI.t9, hI.t10, hI.t11, hI.t12, hI.t13, fun _ => rfl, fun _ => rfl, hI.t16, hI.t17, hI.t18, hI.t19, hI.t20, hI.t21, hI.t22, hI.t23, hI.t24, hI.t25, hI.t26, hI.t27, hI.t28, hI.t29, hI.t30, hI.t31, hI.t32, hI.t33, hI.t34, hI.wq⟩⟩
        · rintro L a wx ⟨v, rfl, hI⟩ hL hdep hcl K hK
          have e15 := hI.t15 (hdep 15 (by decide))
          have e6 := hI.t6 (hdep 6 (by decide))
          rw [e15, e6]
          refine (if_neg (by exact fun h => Bool.noConfusion (show false = true from h))).mpr ?_
          exact hK _ _ ⟨(upd (upd (upd v 51 (undef)) 42 (.bool false)) 52 (undef)), rfl, ⟨hI.t0, hI.t1, hI.t2, hI.t3, hI.t4, hI.t5, fun _ => rfl, hI.t7, hI.t8, hI.t9, hI.t10, hI.t11, hI.t12, hI.t13, hI.t14, fun _ => rfl, fun _ => rfl, hI.t17, hI.t18, hI.t19, hI.t20, hI.t21, hI.t22, hI.t23, hI.t24, hI.t25, hI.t26, hI.t27, hI.t28, hI.t29, hI.t30, hI.t31, hI.t32, hI.t33, hI.t34, hI.wq⟩⟩
        · rintro L a wx ⟨v, rfl, hI⟩ hL hdep hcl K hK
          have e10 := hI.t10 (hdep 10 (by decide))
          have e16 := hI.t16 (hdep 16 (by decide))
          have e6 := hI.t6 (hdep 6 (by decide))
          rw [e10, e16, e6]
          refine (if_neg (by exact fun h => Bool.noConfusion (show false = true from h))).mpr ?_
          exact hK _ _ ⟨(upd (upd (upd (upd v 46 (undef)) 52 (undef)) 42 (.bool false)) 53 (undef)), rfl, ⟨hI.t0, hI.t1, hI.t2, hI.t3, hI.t4, hI.t5, fun _ => rfl, hI.t7, hI.t8, hI.t9, fun _ => rfl, hI.t11, hI.t12, hI.t13, hI.t14, hI.t15, fun _ => rfl, fun _ => rfl, hI.t18, hI.t19, hI.t20, hI.t21, hI.t22, hI.t23, hI.t24, hI.t25, hI.t26, hI.t27, hI.t28, hI.t29, hI.t30, hI.t31, hI.t32, hI.t33, hI.t34, hI.wq⟩⟩
        · rintro L a wx ⟨v, rfl, hI⟩ hL hdep hcl K hK
          have e17 := hI.t17 (hdep 17 (by decide))
          have e6 := hI.t6 (hdep 6 (by decide))
          rw [e17, e6]
          refine (if_neg (by exact fun h => Bool.noConfusion (show false = true from h))).mpr ?_
          exact hK _ _ ⟨(upd (upd (upd v 53 (undef)) 42 (.bool false)) 54 (undef)), rfl, ⟨hI.t0, hI.t1, hI.t2, hI.t3, hI.t4, hI.t5, fun _ => rfl, hI.t7, hI.t8, hI.t9, hI.t10, hI.t11, hI.t12, hI.t13, hI.t14, hI.t15, hI.t16, fun _ => rfl, fun _ => rfl, hI.t19, hI.t20, hI.t21, hI.t22, hI.t23, hI.t24, hI.t25, hI.t26, hI.t27, hI.t28, hI.t29, hI.t30, hI.t31, hI.t32, hI.t33, hI.t34, hI.wq⟩⟩
        · rintro L a wx ⟨v, rfl, hI⟩ hL hdep hcl K hK
          have e18 := hI.t18 (hdep 18 (by decide))
          have e6 := hI.t6 (hdep 6 (by decide))
          rw [e18, e6]
          refine (if_neg (by exact fun h => Bool.noConfusion (show false = true from h))).mpr ?_
          exact hK _ _ ⟨(upd (upd (upd v 54 (undef)) 42 (.bool false)) 55 (undef)), rfl, ⟨hI.t0, hI.t1, hI.t2, hI.t3, hI.t4, hI.t5, fun _ => rfl, hI.t7, hI.t8, hI.t9, hI.t10, hI.t11, hI.t12, hI.t13, hI.t14, hI.t15, hI.t16, hI.t17, fun _ => rfl, fun _ => rfl, hI.t20, hI.t21, hI.t22, hI.t23, hI.t24, hI.t25, hI.t26, hI.t27, hI.t28, hI.t29, hI.t30, hI.t31, hI.t32, hI.t33, hI.t34, hI.wq⟩⟩
        · rintro L a wx ⟨v, rfl, hI⟩ hL hdep hcl K hK
          have e6 := hI.t6 (hdep 6 (by decide))
          rw [e6]
          refine (if_neg (by exact fun h => Bool.noConfusion (show false = true from h))).mpr ?_
          exact hK _ _ ⟨(upd (upd v 42 (.bool false)) 56 (undef)), rfl, ⟨hI.t0, hI.t1, hI.t2, hI.t3, hI.t4, hI.t5, fun _ => rfl, hI.t7, hI.t8, hI.t9, hI.t10, hI.t11, hI.t12, hI.t13, hI.t14, hI.t15, hI.t16, hI.t17, hI.t18, hI.t19, fun _ => rfl, hI.t21, hI.t22, hI.t23, hI.t24, hI.t25, hI.t26, hI.t27, hI.t28, hI.t29, hI.t30, hI.t31, hI.t32, hI.t33, hI.t34, hI.wq⟩⟩
        · rintro L a wx ⟨v, rfl, hI⟩ hL hdep hcl K hK
          have e20 := hI.t20 (hdep 20 (by decide))
          have e6 := hI.t6 (hdep 6 (by decide))
          rw [e20, e6]
          refine (if_neg (by exact fun h => Bool.noConfusion (show false = true from h))).mpr ?_
          exact hK _ _ ⟨(upd (upd (upd v 56 (undef)) 42 (.bool false)) 57 (undef)), rfl, ⟨hI.t0, hI.t1, hI.t2, hI.t3, hI.t4, hI.t5, fun _ => rfl, hI.t7, hI.t8, hI.t9, hI.t10, hI.t11, hI.t12, hI.t13, hI.t14, hI.t15, hI.t16, hI.t17, hI.t18, hI.t19, fun _ => rfl, fun _ => rfl, hI.t22, hI.t23, hI.t24, hI.t25, hI.t26, hI.t27, hI.t28, hI.t29, hI.t30, hI.t31, hI.t32, hI.t33, hI.t34, hI.wq⟩⟩
        · rintro L a wx ⟨v, rfl, hI⟩ hL hdep hcl K hK
          have e21 := hI.t21 (hdep 21 (by decide))
          have e6 := hI.t6 (hdep 6 (by decide))
          rw [e21, e6]
          refine (if_neg (by exact fun h => Bool.noConfusion (show false = true from h))).mpr ?_
          exact hK _ _ ⟨(upd (upd (upd v 57 (undef)) 42 (.bool false)) 58 (undef)), rfl, ⟨hI.t0, hI.t1, hI.t2, hI.t3, hI.t4, hI.t5, fun _ => rfl, hI.t7, hI.t8, hI.t9, hI.t10, hI.t11, hI.t12, hI.t13, hI.t14, hI.t15, hI.t16, hI.t17, hI.t18, hI.t19, hI.t20, fun _ => rfl, fun _ => rfl, hI.t23, hI.t24, hI.t25, hI.t26, hI.t27, hI.t28, hI.t29, hI.t30, hI.t31, hI.t32, hI.t33, hI.t34, hI.wq⟩⟩
        · rintro L a wx ⟨v, rfl, hI⟩ hL hdep hcl K hK
          have e22 := hI.t22 (hdep 22 (by decide))
          have e6 := hI.t6 (hdep 6 (by decide))
          rw [e22, e6]
          refine (if_neg (by exact fun h => Bool.noConfusion (show false = true from h))).mpr ?_
          exact hK _ _ ⟨(upd (upd (upd v 58 (undef)) 42 (.bool false)) 59 (undef)), rfl, ⟨hI.t0, hI.t1, hI.t2, hI.t3, hI.t4, hI.t5, fun _ => rfl, hI.t7, hI.t8, hI.t9, hI.t10, hI.t11, hI.t12, hI.t13, hI.t14, hI.t15, hI.t16, hI.t17, hI.t18, hI.t19, hI.t20, hI.t21, fun _ => rfl, fun _ => rfl, hI.t24, hI.t25, hI.t26, hI.t27, hI.t28, hI.t29, hI.t30, hI.t31, hI.t32, hI.t33, hI.t34, hI.wq⟩⟩
        · rintro L a wx ⟨v, rfl, hI⟩ hL hdep hcl K hK
          have e6 := hI.t6 (hdep 6 (by decide))
          rw [e6]
          refine (if_neg (by exact fun h => Bool.noConfusion (show false = true from h))).mpr ?_
          exact hK _ _ ⟨(upd (upd v 42 (.bool false)) 60 (undef)), rfl, ⟨hI.t0, hI.t1, hI.t2, hI.t3, hI.t4, hI.t5, fun _ => rfl, hI.t7, hI.t8, hI.t9, hI.t10, hI.t11, hI.t12, hI.t13, hI.t14, hI.t15, hI.t16, hI.t17, hI.t18, hI.t19, hI.t20, hI.t21, hI.t22, hI.t23, fun _ => rfl, hI.t25, hI.t26, hI.t27, hI.t28, hI.t29, hI.t30, hI.t31, hI.t32, hI.t33, hI.t34, hI.wq⟩⟩
        · rintro L a wx ⟨v, rfl, hI⟩ hL hdep hcl K hK
          have e24 := hI.t24 (hdep 24 (by decide))
          have e6 := hI.t6 (hdep 6 (by decide))
          rw [e24, e6]
          refine (if_neg (by exact fun h => Bool.noConfusion (show false = true from h))).mpr ?_
          exact hK _ _ ⟨(upd (upd (upd v 60 (undef)) 42 (.bool false)) 61 (undef)), rfl, ⟨hI.t0, hI.t1, hI.t2, hI.t3, hI.t4, hI.t5, fun _ => rfl, hI.t7, hI.t8, hI.t9, hI.t10, hI.t11, hI.t12, hI.t13, hI.t14, hI.t15, hI.t16, hI.t17, hI.t18, hI.t19, hI.t20, hI.t21, hI.t22, hI.t23, fun _ => rfl, fun _ => rfl, hI.t26, hI.t27, hI.t28, hI.t29, hI.t30, hI.t31, hI.t32, hI.t33, hI.t34, hI.wq⟩⟩
        · rintro L a wx ⟨v, rfl, hI⟩ hL hdep hcl K hK
          have e25 := hI.t25 (hdep 25 (by decide))
          have e6 := hI.t6 (hdep 6 (by decide))
          rw [e25, e6]
          refine (if_neg (by exact fun h => Bool.noConfusion (show false = true from h))).mpr ?_
          exact hK _ _ ⟨(upd (upd (upd v 61 (undef)) 42 (.bool false)) 62 (undef)), rfl, ⟨hI.t0, hI.t1, hI.t2, hI.t3, hI.t4, hI.t5, fun _ => rfl, hI.t7, hI.t8, hI.t9, hI.t10, hI.t11, hI.t12, hI.t13, hI.t14, hI.t15, hI.t16, hI.t17, hI.t18, hI.t19, hI.t20, hI.t21, hI.t22, hI.t23, hI.t24, fun _ => rfl, fun _ => rfl, hI.t27, hI.t28, hI.t29, hI.t30, hI.t31, hI.t32, hI.t33, hI.t34, hI.wq⟩⟩
        · rintro L a wx ⟨v, rfl, hI⟩ hL hdep hcl K hK
          have e26 := hI.t26 (hdep 26 (by decide))
          have e6 := hI.t6 (hdep 6 (by decide))
          rw [e26, e6]
          refine (if_neg (by exact fun h => Bool.noConfusion (show false = true from h))).mpr ?_
          exact hK _ _ ⟨(upd (upd (upd v 62 (undef)) 42 (.bool false)) 63 (undef)), rfl, ⟨hI.t0, hI.t1, hI.t2, hI.t3, hI.t4, hI.t5, fun _ => rfl, hI.t7, hI.t8, hI.t9, hI.t10, hI.t11, hI.t12, hI.t13, hI.t14, hI.t15, hI.t16, hI.t17, hI.t18, hI.t19, hI.t20, hI.t21, hI.t22, hI.t23, hI.t24, hI.t25, fun _ => rfl, fun _ => rfl, hI.t28, hI.t29, hI.t30, hI.t31, hI.t32, hI.t33, hI.t34, hI.wq⟩⟩
        · rintro L a wx ⟨v, rfl, hI⟩ hL hdep hcl K hK
          have e27 := hI.t27 (hdep 27 (by decide))
          have e6 := hI.t6 (hdep 6 (by decide))
          rw [e27, e6]
          refine (if_neg (by exact fun h => Bool.noConfusion (show false = true from h))).mpr ?_
          exact hK _ _ ⟨(upd (upd (upd v 63 (undef)) 42 (.bool false)) 64 (undef)), rfl, ⟨hI.t0, hI.t1, hI.t2, hI.t3, hI.t4, hI.t5, fun _ => rfl, hI.t7, hI.t8, hI.t9, hI.t10, hI.t11, hI.t12, hI.t13, hI.t14, hI.t15, hI.t16, hI.t17, hI.t18, hI.t19, hI.t20, hI.t21, hI.t22, hI.t23, hI.t24, hI.t25, hI.t26, fun _ => rfl, fun _ => rfl, hI.t29, hI.t30, hI.t31, hI.t32, hI.t33, hI.t34, hI.wq⟩⟩
        · rintro L a wx ⟨v, rfl, hI⟩ hL hdep hcl K hK
          have e28 := hI.t28 (hdep 28 (by decide))
          have e6 := hI.t6 (hdep 6 (by decide))
          rw [e28, e6]
          refine (if_neg (by exact fun h => Bool.noConfusion (show false = true from h))).mpr ?_
          exact hK _ _ ⟨(upd (upd (upd v 64 (undef)) 42 (.bool false)) 65 (undef)), rfl, ⟨hI.t0, hI.t1, hI.t2, hI.t3, hI.t4, hI.t5, fun _ => rfl, hI.t7, hI.t8, hI.t9, hI.t10, hI.t11, hI.t12, hI.t13, hI.t14, hI.t15, hI.t16, hI.t17, hI.t18, hI.t19, hI.t20, hI.t21, hI.t22, hI.t23, hI.t24, hI.t25, hI.t26, hI.t27, fun _ => rfl, fun _ => rfl, hI.t30, hI.t31, hI.t32, hI.t33, hI.t34, hI.wq⟩⟩
        · rintro L a wx ⟨v, rfl, hI⟩ hL hdep hcl K hK
          have e23 := hI.t23 (hdep 23 (by decide))
          have e29 := hI.t29 (hdep 29 (by decide))
          have e6 := hI.t6 (hdep 6 (by decide))
          rw [e23, e29, e6]
          refine (if_neg (by exact fun h => Bool.noConfusion (show false = true from h))).mpr ?_
          exact hK _ _ ⟨(upd (upd (upd (upd v 59 (undef)) 65 (undef)) 42 (.bool false)) 66 (undef)), rfl, ⟨hI.t0, hI.t1, hI.t2, hI.t3, hI.t4, hI.t5, fun _ => rfl, hI.t7, hI.t8, hI.t9, hI.t10, hI.t11, hI.t12, hI.t13, hI.t14, hI.t15, hI.t16, hI.t17, hI.t18, hI.t19, hI.t20, hI.t21, hI.t22, fun _ => rfl, hI.t24, hI.t25, hI.t26, hI.t27, hI.t28, fun _ => rfl, fun _ => rfl, hI.t31, hI.t32, hI.t33, hI.t34, hI.wq⟩⟩
        · rintro L a wx ⟨v, rfl, hI⟩ hL hdep hcl K hK
          have e30 := hI.t30 (hdep 30 (by decide))
          have e6 := hI.t6 (hdep 6 (by decide))
          rw [e30, e6]
          refine (if_neg (by exact fun h => Bool.noConfusion (show false = true from h))).mpr ?_
          exact hK _ _ ⟨(upd (upd (upd v 66 (undef)) 42 (.bool false)) 67 (undef)), rfl, ⟨hI.t0, hI.t1, hI.t2, hI.t3, hI.t4, hI.t5, fun _ => rfl, hI.t7, hI.t8, hI.t9, hI.t10, hI.t11, hI.t12, hI.t13, hI.t14, hI.t15, hI.t16, hI.t17, hI.t18, hI.t19, hI.t20, hI.t21, hI.t22, hI.t23, hI.t24, hI.t25, hI.t26, hI.t27, hI.t28, hI.t29, fun _ => rfl, fun _ => rfl, hI.t32, hI.t33, hI.t34, hI.wq⟩⟩
        · rintro L a wx ⟨v, rfl, hI⟩ hL hdep hcl K hK
          have e31 := hI.t31 (hdep 31 (by decide))
          have e6 := hI.t6 (hdep 6 (by decide))
          rw [e31, e6]
          refine (if_neg (by exact fun h => Bool.noConfusion (show false = true from h))).mpr ?_
          exact hK _ _ ⟨(upd (upd (upd v 67 (undef)) 42 (.bool false)) 68 (undef)), rfl, ⟨hI.t0, hI.t1, hI.t2, hI.t3, hI.t4, hI.t5, fun _ => rfl, hI.t7, hI.t8, hI.t9, hI.t10, hI.t11, hI.t12, hI.t13, hI.t14, hI.t15, hI.t16, hI.t17, hI.t18, hI.t19, hI.t20, hI.t21, hI.t22, hI.t23, hI.t24, hI.t25, hI.t26, hI.t27, hI.t28, hI.t29, hI.t30, fun _ => rfl, fun _ => rfl, hI.t33, hI.t34, hI.wq⟩⟩
        · rintro L a wx ⟨v, rfl, hI⟩ hL hdep hcl K hK
          have e19 := hI.t19 (hdep 19 (by decide))
          have e32 := hI.t32 (hdep 32 (by decide))
          have e6 := hI.t6 (hdep 6 (by decide))
          rw [e19, e32, e6]
          refine (if_neg (by exact fun h => Bool.noConfusion (show false = true from h))).mpr ?_
          exact hK _ _ ⟨(upd (upd (upd (upd v 55 (undef)) 68 (undef)) 42 (.bool false)) 69 (undef)), rfl, ⟨hI.t0, hI.t1, hI.t2, hI.t3, hI.t4, hI.t5, fun _ => rfl, hI.t7, hI.t8, hI.t9, hI.t10, hI.t11, hI.t12, hI.t13, hI.t14, hI.t15, hI.t16, hI.t17, hI.t18, fun _ => rfl, hI.t20, hI.t21, hI.t22, hI.t23, hI.t24, hI.t25, hI.t26, hI.t27, hI.t28, hI.t29, hI.t30, hI.t31, fun _ => rfl, fun _ => rfl, hI.t34, hI.wq⟩⟩
        · rintro L a wx ⟨v, rfl, hI⟩ hL hdep hcl K hK
          have e6 := hI.t6 (hdep 6 (by decide))
          have e33 := hI.t33 (hdep 33 (by decide))
          rw [e6, e33]
          go_simp
          exact hK _ _ ⟨(upd (upd (upd v 42 (.bool false)) 69 (undef)) 70 (.bool false)), rfl, ⟨hI.t0, hI.t1, hI.t2, hI.t3, hI.t4, hI.t5, fun _ => rfl, hI.t7, hI.t8, hI.t9, hI.t10, hI.t11, hI.t12, hI.t13, hI.t14, hI.t15, hI.t16, hI.t17, hI.t18, hI.t19, hI.t20, hI.t21, hI.t22, hI.t23, hI.t24, hI.t25, hI.t26, hI.t27, hI.t28, hI.t29, hI.t30, hI.t31, hI.t32, fun _ => rfl, fun _ => rfl, hI.wq⟩⟩
        · rintro a wx ⟨vF, rfl, hI⟩
          have e := hI.t34 rfl
          obtain rfl := hI.wq
          clear hI
          rw [e]
          go_wp2_with fail
          go_ret2
          exact ⟨_, rfl, HF.out⟩
      | cons A rest =>
        obtain ⟨r2, hr2⟩ : ∃ r, r = rest.length := ⟨_, rfl⟩
        obtain ⟨r1, hr1⟩ : ∃ r, r = rest.length + 1 := ⟨_, rfl⟩
        have hN12 : N1 = r1 + 1 := by have := HN1.out; simp at this; omega
        have hr12 : r1 = r2 + 1 := by omega
        have hlA : r2 < ((A :: rest).reverse ++ [b]).length := by simp; omega
        have hlB : r1 < ((A :: rest).reverse ++ [b]).length := by simp; omega
        have eA : ((A :: rest).reverse ++ [b])[r2] = A := by
          have : ((A :: rest).reverse ++ [b]) = rest.reverse ++ (A :: [b]) := by simp
          simp only [this]
          rw [List.getElem_append_right (by simp; omega)]
          simp [hr2]
        have eB : ((A :: rest).reverse ++ [b])[r1] = b := by
          rw [List.getElem_append_right (by simp; omega)]
          simp [hr1]
        have rA := hR.range r2 hlA
        have rB := hR.range r1 hlB
        have nA := hR.num r2 hlA
        have nB := hR.num r1 hlB
        rw [eA] at rA nA
        rw [eB] at rB nB
        rw [Nat.zero_add] at rA nA rB nB
        have CA : Hid (wr.drew.cell? ⟨gq, r2 * 33, none⟩ = some (.int .u64 (A.1 : Int))) := nA
        have CB : Hid (wr.drew.cell? ⟨gq, r1 * 33, none⟩ = some (.int .u64 (b.1 : Int))) := nB
        have RA : Hid (wr.drew.rangeAt gq (r2 * 33) (encP A)) := rA
        have RB : Hid (wr.drew.rangeAt gq (r1 * 33) (encP b)) := rB
        have LA : Hid ((encP A).length = 33) := hR.all A (by simp)
        have LB : Hid ((encP b).length = 33) := hR.all b (by simp)
        have hge : Hid (decide ((2 : Int) ≤ (N1 : Int)) = true) := decide_eq_true (by omega)
        have hge2 : Hid (decide (2 ≤ N1) = true) := decide_eq_true (by omega)
        have hm30 : N1 ≤ 30 := by have := K5.out; have := HN1.out; simp at *; omega
        have HS1 : Hid ((N1 : Int) - 1 = (r1 : Int)) := by show _ = _; omega
        have HS2 : Hid ((N1 : Int) - 2 = (r2 : Int)) := by show _ = _; omega
        have HW1 : Hid (IntKind.i64.wrap (r1 : Int) = (r1 : Int)) := by show _ = _; rw [IntKind.wrap_i64]; omega
        have HW2 : Hid (IntKind.i64.wrap (r2 : Int) = (r2 : Int)) := by show _ = _; rw [IntKind.wrap_i64]; omega
        have i1 : (0 : Int) ≤ (r1 : Int) := by omega
        have i2 : (r1 : Int) < (N1 : Int) := by omega
        have i3 : (0 : Int) ≤ (r2 : Int) := by omega
        have i4 : (r2 : Int) < (N1 : Int) := by omega
        have HR12 := Lib.hid hr12
        have HR2 := Lib.hid hr2
        have HN12 := Lib.hid hN12
        obtain ⟨nb, hnb⟩ : ∃ x, x = b.1 := ⟨_, rfl⟩
        obtain ⟨na, hna⟩ : ∃ x, x = A.1 := ⟨_, rfl⟩
        rw [← hnb] at CB
        rw [← hna] at CA
        have HNB := Lib.hid hnb
        have HNA := Lib.hid hna
        by_cases hab : na = nb
        · have HAB := Lib.hid hab
          have hEq : Hid (((nb : Int) == (na : Int)) = true) := by show _ = _; rw [hab]; simp
          have hEq2 : Hid (decide ((nb : Int) = (na : Int)) = true) := decide_eq_true (by omega)
          have hEq3 : Hid (decide (nb = na) = true) := decide_eq_true (by omega)
          clear hab hnb hna rA rB nA nB eA eB hlA hlB hr12 hr2 hr1 hN12 HFIN
          go_upto_region 6 with fail
          refine wp_region_steps [[], [0], [1], [2], [3], [4], [5], [6], [7, 6], [8, 6], [9, 6], [6], [11, 6], [12, 6], [13, 6], [14, 6], [15, 6], [10, 16, 6], [17, 6], [18, 6], [6], [20, 6], [21, 6], [22, 6], [6], [24, 6], [25, 6], [26, 6], [27, 6], [28, 6], [23, 29, 6], [30, 6], [31, 6], [19, 32, 6], [6, 33]] (by kernel_rfl) (by kernel_rfl) (fun L a wx => ∃ v : Nat → Value, a = ⟨#[.pointer (some ⟨p, 0, none⟩), .agg (bvs d).toArray, undef, .pointer (some ⟨g3, 0, none⟩), .slice none 0 0, .int .i64 0, u6, u7, u8, u9, u10, .pointer (some ⟨p, 0, none⟩), .pointer (some ⟨p, 0, none⟩), .pointer (some ⟨p, 0, none⟩), .int .u64 ↑n, .bool false, .pointer (some ⟨p, 0, none⟩), .pointer (some ⟨p, 0, none⟩), .pointer (some ⟨p, 0, none⟩), .int .u64 ↑n, .int .u64 (↑n + 1), .pointer (some ⟨p, 0, none⟩), .pointer (some ⟨p, 0, none⟩), v23, v24, v25, v26, v27, v28, v29, v30, .slice (some ⟨gq0, 0, none⟩) ((partsF n P).length + 1) c2, v32, v33, .agg (bvs d).toArray, .slice (some ⟨W1.heap.size, 0, none⟩) 1 1, v 36, v 37, v 38, v 39, v 40, v 41, v 42, v 43, v 44, v 45, v 46, v 47, v 48, v 49, v 50, v 51, v 52, v 53, v 54, v 55, v 56, v 57, v 58, v 59, v 60, v 61, v 62, v 63, v 64, v 65, v 66, v 67, v 68, v 69, v 70, u71, u72, u73, u74, u75, u76, u77, u78, u79, u80, u81, u82, u83, u84, u85, u86, u87, u88, u89, u90, u91, u92, u93, u94, u95, u96, u97, u98, u99, u100, u101, u102, u103, u104, u105, u106, u107, u108, u109, u110, u111, u112, u113, u114, u115, u116, u117, u118, u119, u120, u121, u122, u123, u124, u125, u126, u127, u128, u129, u130, undef], []⟩ ∧ InvWAddFC d p n g3 gq N1 cv r1 r2 na nb u6 u7 u8 u9 u10 u36 u37 u38 u39 u40 u41 u42 u43 u44 u45 u46 u47 u48 u49 u50 u51 u52 u53 u54 u55 u56 u57 u58 u59 u60 u61 u62 u63 u64 u65 u66 u67 u68 u69 u70 u71 u72 u73 u74 u75 u76 u77 u78 u79 u80 u81 u82 u83 u84 u85 u86 u87 u88 u89 u90 u91 u92 u93 u94 u95 u96 u97 u98 u99 u100 u101 u102 u103 u104 u105 u106 u107 u108 u109 u110 u111 u112 u113 u114 u115 u116 u117 u118 u119 u120 u121 u122 u123 u124 u125 u126 u127 u128 u129 u130 wr L v wx) ?_ ⟨?_, ?_, ?_, ?_, ?_, ?_, ?_, ?_, ?_, ?_, ?_, ?_, ?_, ?_, ?_, ?_, ?_, ?_, ?_, ?_, ?_, ?_, ?_, ?_, ?_, ?_, ?_, ?_, ?_, ?_, ?_, ?_, ?_, ?_, ?_, trivial⟩ ?_
          · refine ⟨upd (upd (upd (upd (upd (upd (upd (upd (upd (upd (upd (upd (upd (upd (upd (upd (upd (upd (upd (upd (upd (upd (upd (upd (upd (upd (upd (upd (upd (upd (upd (upd (upd (upd (upd (fun _ => undef) 36 (u36)) 37 (u37)) 38 (u38)) 39 (u39)) 40 (u40)) 41 (u41)) 42 (u42)) 43 (u43)) 44 (u44)) 45 (u45)) 46 (u46)) 47 (u47)) 48 (u48)) 49 (u49)) 50 (u50)) 51 (u51)) 52 (u52)) 53 (u53)) 54 (u54)) 55 (u55)) 56 (u56)) 57 (u57)) 58 (u58)) 59 (u59)) 60 (u60)) 61 (u61)) 62 (u62)) 63 (u63)) 64 (u64)) 65 (u65)) 66 (u66)) 67 (u67)) 68 (u68)) 69 (u69)) 70 (u70), rfl, ⟨?_, ?_, ?_, ?_, ?_, ?_, ?_, ?_, ?_, ?_, ?_, ?_, ?_, ?_, ?_, ?_, ?_, ?_, ?_, ?_, ?_, ?_, ?_, ?_, ?_, ?_, ?_, ?_, ?_, ?_, ?_, ?_, ?_, ?_, ?_, rfl⟩⟩ <;> (intro h; exact absurd h (by decide))
          · rintro L a wx ⟨v, rfl, hI⟩ hL hdep hcl K hK
            go_simp
            exact hK _ _ ⟨(upd v 36 (.pointer (some ⟨p, 0, none⟩))), rfl, ⟨fun _ => rfl, hI.t1, hI.t2, hI.t3, hI.t4, hI.t5, hI.t6, hI.t7, hI.t8, hI.t9, hI.t10, hI.t11, hI.t12, hI.t13, hI.t14, hI.t15, hI.t16, hI.t17, hI.t18, hI.t19, hI.t20, hI.t21, hI.t22, hI.t23, hI.t24, hI.t25, hI.t26, hI.t27, hI.t28, hI.t29, hI.t30, hI.t31, hI.t32, hI.t33, hI.t34, hI.wq⟩⟩
          · rintro L a wx ⟨v, rfl, hI⟩ hL hdep hcl K hK
            have e0 := hI.t0 (hdep 0 (by decide))
            rw [e0]
            go_simp
            exact hK _ _ ⟨(upd (upd v 36 (.pointer (some ⟨p, 0, none⟩))) 37 (.pointer (some ⟨p, 0, none⟩))), rfl, ⟨fun _ => rfl, fun _ => rfl, hI.t2, hI.t3, hI.t4, hI.t5, hI.t6, hI.t7, hI.t8, hI.t9, hI.t10, hI.t11, hI.t12, hI.t13, hI.t14, hI.t15, hI.t16, hI.t17, hI.t18, hI.t19, hI.t20, hI.t21, hI.t22, hI.t23, hI.t24, hI.t25, hI.t26, hI.t27, hI.t28, hI.t29, hI.t30, hI.t31, hI.t32, hI.t33, hI.t34, hI.wq⟩⟩
          · rintro L a wx ⟨v, rfl, hI⟩ hL hdep hcl K hK
            have e1 := hI.t1 (hdep 1 (by decide))
            rw [e1]
            go_simp
            exact hK _ _ ⟨(upd (upd v 37 (.pointer (some ⟨p, 0, none⟩))) 38 (.pointer (some ⟨p, 1, none⟩))), rfl, ⟨hI.t0, fun _ => rfl, fun _ => rfl, hI.t3, hI.t4, hI.t5, hI.t6, hI.t7, hI.t8, hI.t9, hI.t10, hI.t11, hI.t12, hI.t13, hI.t14, hI.t15, hI.t16, hI.t17, hI.t18, hI.t19, hI.t20, hI.t21, hI.t22, hI.t23, hI.t24, hI.t25, hI.t26, hI.t27, hI.t28, hI.t29, hI.t30, hI.t31, hI.t32, hI.t33, hI.t34, hI.wq⟩⟩
          · rintro L a wx ⟨v, rfl, hI⟩ hL hdep hcl K hK
            have e2 := hI.t2 (hdep 2 (by decide))
            rw [e2]
            obtain rfl := hI.wq
            have cc := C1.out
            go_simp
            exact hK _ _ ⟨(upd (upd v 38 (.pointer (some ⟨p, 1, none⟩))) 39 (.slice (some ⟨gq, 0, none⟩) N1 cv)), rfl, ⟨hI.t0, hI.t1, fun _ => rfl, fun _ => rfl, hI.t4, hI.t5, hI.t6, hI.t7, hI.t8, hI.t9, hI.t10, hI.t11, hI.t12, hI.t13, hI.t14, hI.t15, hI.t16, hI.t17, hI.t18, hI.t19, hI.t20, hI.t21, hI.t22, hI.t23, hI.t24, hI.t25, hI.t26, hI.t27, hI.t28, hI.t29, hI.t30, hI.t31, hI.t32, hI.t33, hI.t34, hI.wq⟩⟩
          · rintro L a wx ⟨v, rfl, hI⟩ hL hdep hcl K hK
            have e3 := hI.t3 (hdep 3 (by decide))
            rw [e3]
            go_simp
            exact hK _ _ ⟨(upd (upd v 39 (.slice (some ⟨gq, 0, none⟩) N1 cv)) 40 (.int .i64 (N1 : Int))), rfl, ⟨hI.t0, hI.t1, hI.t2, fun _ => rfl, fun _ => rfl, hI.t5, hI.t6, hI.t7, hI.t8, hI.t9, hI.t10, hI.t11, hI.t12, hI.t13, hI.t14, hI.t15, hI.t16, hI.t17, hI.t18, hI.t19, hI.t20, hI.t21, hI.t22, hI.t23, hI.t24, hI.t25, hI.t26, hI.t27, hI.t28, hI.t29, hI.t30, hI.t31, hI.t32, hI.t33, hI.t34, hI.wq⟩⟩
          · rintro L a wx ⟨v, rfl, hI⟩ hL hdep hcl K hK
            have e4 := hI.t4 (hdep 4 (by decide))
            rw [e4]
            have q1 := hge.out
            have q2 := hge2.out
            go_simp
            exact hK _ _ ⟨(upd (upd v 40 (.int .i64 (N1 : Int))) 41 (.bool true)), rfl, ⟨hI.t0, hI.t1, hI.t2, hI.t3, fun _ => rfl, fun _ => rfl, hI.t6, hI.t7, hI.t8, hI.t9, hI.t10, hI.t11, hI.t12, hI.t13, hI.t14, hI.t15, hI.t16, hI.t17, hI.t18, hI.t19, hI.t20, hI.t21, hI.t22, hI.t23, hI.t24, hI.t25, hI.t26, hI.t27, hI.t28, hI.t29, hI.t30, hI.t31, hI.t32, hI.t33, hI.t34, hI.wq⟩⟩
          · rintro L a wx ⟨v, rfl, hI⟩ hL hdep hcl K hK
            have e5 := hI.t5 (hdep 5 (by decide))
            rw [e5]
            go_simp
            exact hK _ _ ⟨(upd (upd v 41 (.bool true)) 42 (.bool true)), rfl, ⟨hI.t0, hI.t1, hI.t2, hI.t3, hI.t4, fun _ => rfl, fun _ => rfl, hI.t7, hI.t8, hI.t9, hI.t10, hI.t11, hI.t12, hI.t13, hI.t14, hI.t15, hI.t16, hI.t17, hI.t18, hI.t19, hI.t20, hI.t21, hI.t22, hI.t23, hI.t24, hI.t25, hI.t26, hI.t27, hI.t28, hI.t29, hI.t30, hI.t31, hI.t32, hI.t33, hI.t34, hI.wq⟩⟩
          · rintro L a wx ⟨v, rfl, hI⟩ hL hdep hcl K hK
            have e6 := hI.t6 (hdep 6 (by decide))
            rw [e6]
            refine (if_pos rfl).mpr ?_
            go_simp
            exact hK _ _ ⟨(upd (upd v 42 (.bool true)) 43 (.pointer (some ⟨p, 0, none⟩))), rfl, ⟨hI.t0, hI.t1, hI.t2, hI.t3, hI.t4, hI.t5, fun _ => rfl, fun _ => rfl, hI.t8, hI.t9, hI.t10, hI.t11, hI.t12, hI.t13, hI.t14, hI.t15, hI.t16, hI.t17, hI.t18, hI.t19, hI.t20, hI.t21, hI.t22, hI.t23, hI.t24, hI.t25, hI.t26, hI.t27, hI.t28, hI.t29, hI.t30, hI.t31, hI.t32, hI.t33, hI.t34, hI.wq⟩⟩
          · rintro L a wx ⟨v, rfl, hI⟩ hL hdep hcl K hK
            have e7 := hI.t7 (hdep 7 (by decide))
            have e6 := hI.t6 (hdep 6 (by decide))
            rw [e7, e6]
            refine (if_pos rfl).mpr ?_
            go_simp
            exact hK _ _ ⟨(upd (upd (upd v 43 (.pointer (some ⟨p, 0, none⟩))) 42 (.bool true)) 44 (.pointer (some ⟨p, 0, none⟩))), rfl, ⟨hI.t0, hI.t1, hI.t2, hI.t3, hI.t4, hI.t5, fun _ => rfl, fun _ => rfl, fun _ => rfl, hI.t9, hI.t10, hI.t11, hI.t12, hI.t13, hI.t14, hI.t15, hI.t16, hI.t17, hI.t18, hI.t19, hI.t20, hI.t21, hI.t22, hI.t23, hI.t24, hI.t25, hI.t26, hI.t27, hI.t28, hI.t29, hI.t30, hI.t31, hI.t32, hI.t33, hI.t34, hI.wq⟩⟩
          · rintro L a wx ⟨v, rfl, hI⟩ hL hdep hcl K hK
            have e8 := hI.t8 (hdep 8 (by decide))
            have e6 := hI.t6 (hdep 6 (by decide))
            rw [e8, e6]
            refine (if_pos rfl).mpr ?_
            go_simp
            exact hK _ _ ⟨(upd (upd (upd v 44 (.pointer (some ⟨p, 0, none⟩))) 42 (.bool true)) 45 (.pointer (some ⟨p, 1, none⟩))), rfl, ⟨hI.t0, hI.t1, hI.t2, hI.t3, hI.t4, hI.t5, fun _ => rfl, hI.t7, fun _ => rfl, fun _ => rfl, hI.t10, hI.t11, hI.t12, hI.t13, hI.t14, hI.t15, hI.t16, hI.t17, hI.t18, hI.t19, hI.t20, hI.t21, hI.t22, hI.t23, hI.t24, hI.t25, hI.t26, hI.t27, hI.t28, hI.t29, hI.t30, hI.t31, hI.t32, hI.t33, hI.t34, hI.wq⟩⟩
          · rintro L a wx ⟨v, rfl, hI⟩ hL hdep hcl K hK
            have e9 := hI.t9 (hdep 9 (by decide))
            have e6 := hI.t6 (hdep 6 (by decide))
            rw [e9, e6]
            refine (if_pos rfl).mpr ?_
            obtain rfl := hI.wq
            have cc := C1.out
            go_simp
            exact hK _ _ ⟨(upd (upd (upd v 45 (.pointer (some ⟨p, 1, none⟩))) 42 (.bool true)) 46 (.slice (some ⟨gq, 0, none⟩) N1 cv)), rfl, ⟨hI.t0, hI.t1, hI.t2, hI.t3, hI.t4, hI.t5, fun _ => rfl, hI.t7, hI.t8, fun _ => rfl, fun _ => rfl, hI.t11, hI.t12, hI.t13, hI.t14, hI.t15, hI.t16, hI.t17, hI.t18, hI.t19, hI.t20, hI.t21, hI.t22, hI.t23, hI.t24, hI.t25, hI.t26, hI.t27, hI.t28, hI.t29, hI.t30, hI.t31, hI.t32, hI.t33, hI.t34, hI.wq⟩⟩
          · rintro L a wx ⟨v, rfl, hI⟩ hL hdep hcl K hK
            have e6 := hI.t6 (hdep 6 (by decide))
            rw [e6]
            refine (if_pos rfl).mpr ?_
            go_simp
            exact hK _ _ ⟨(upd (upd v 42 (.bool true)) 47 (.pointer (some ⟨p, 0, none⟩))), rfl, ⟨hI.t0, hI.t1, hI.t2, hI.t3, hI.t4, hI.t5, fun _ => rfl, hI.t7, hI.t8, hI.t9, hI.t10, fun _ => rfl, hI.t12, hI.t13, hI.t14, hI.t15, hI.t16, hI.t17, hI.t18, hI.t19, hI.t20, hI.t21, hI.t22, hI.t23, hI.t24, hI.t25, hI.t26, hI.t27, hI.t28, hI.t29, hI.t30, hI.t31, hI.t32, hI.t33, hI.t34, hI.wq⟩⟩
          · rintro L a wx ⟨v, rfl, hI⟩ hL hdep hcl K hK
            have e11 := hI.t11 (hdep 11 (by decide))
            have e6 := hI.t6 (hdep 6 (by decide))
            rw [e11, e6]
            refine (if_pos rfl).mpr ?_
            go_simp
            exact hK _ _ ⟨(upd (upd (upd v 47 (.pointer (some ⟨p, 0, none⟩))) 42 (.bool true)) 48 (.pointer (some ⟨p, 0, none⟩))), rfl, ⟨hI.t0, hI.t1, hI.t2, hI.t3, hI.t4, hI.t5, fun _ => rfl, hI.t7, hI.t8, hI.t9, hI.t10, fun _ => rfl, fun _ => rfl, hI.t13, hI.t14, hI.t15, hI.t16, hI.t17, hI.t18, hI.t19, hI.t20, hI.t21, hI.t22, hI.t23, hI.t24, hI.t25, hI.t26, hI.t27, hI.t28, hI.t29, hI.t30, hI.t31, hI.t32, hI.t33, hI.t34, hI.wq⟩⟩
          · rintro L a wx ⟨v, rfl, hI⟩ hL hdep hcl K hK
            have e12 := hI.t12 (hdep 12 (by decide))
            have e6 := hI.t6 (hdep 6 (by decide))
            rw [e12, e6]
            refine (if_pos rfl).mpr ?_
            go_simp
            exact hK _ _ ⟨(upd (upd (upd v 48 (.pointer (some ⟨p, 0, none⟩))) 42 (.bool true)) 49 (.pointer (some ⟨p, 1, none⟩))), rfl, ⟨hI.t0, hI.t1, hI.t2, hI.t3, hI.t4, hI.t5, fun _ => rfl, hI.t7, hI.t8, hI.t9, hI.t10, hI.t11, fun _ => rfl, fun _ => rfl, hI.t14, hI.t15, hI.t16, hI.t17, hI.t18, hI.t19, hI.t20, hI.t21, hI.t22, hI.t23, hI.t24, hI.t25, hI.t26, hI.t27, hI.t28, hI.t29, hI.t30, hI.t31, hI.t32, hI.t33, hI.t34, hI.wq⟩⟩
          · rintro L a wx ⟨v, rfl, hI⟩ hL hdep hcl K hK
            have e13 := hI.t13 (hdep 13 (by decide))
            have e6 := hI.t6 (hdep 6 (by decide))
            rw [e13, e6]
            refine (if_pos rfl).mpr ?_
            obtain rfl := hI.wq
            have cc := C1.out
            go_simp
            exact hK _ _ ⟨(upd (upd (upd v 49 (.pointer (some ⟨p, 1, none⟩))) 42 (.bool true)) 50 (.slice (some ⟨gq, 0, none⟩) N1 cv)), rfl, ⟨hI.t0, hI.t1, hI.t2, hI.t3, hI.t4, hI.t5, fun _ => rfl, hI.t7, hI.t8, hI.t9, hI.t10, hI.t11, hI.t12, fun _ => rfl, fun _ => rfl, hI.t15, hI.t16, hI.t17, hI.t18, hI.t19, hI.t20, hI.t21, hI.t22, hI.t23, hI.t24, hI.t25, hI.t26, hI.t27, hI.t28, hI.t29, hI.t30, hI.t31, hI.t32, hI.t33, hI.t34, hI.wq⟩⟩
          · rintro L a wx ⟨v, rfl, hI⟩ hL hdep hcl K hK
            have e14 := hI.t14 (hdep 14 (by decide))
            have e6 := hI.t6 (hdep 6 (by decide))
            rw [e14, e6]
            refine (if_pos rfl).mpr ?_
            go_simp
            exact hK _ _ ⟨(upd (upd (upd v 50 (.slice (some ⟨gq, 0, none⟩) N1 cv)) 42 (.bool true)) 51 (.int .i64 (N1 : Int))), rfl, ⟨hI.t0, hI.t1, hI.t2, hI.t3, hI.t4, hI.t5, fun _ => rfl, hI.t7, hI.t8, hI.t9, hI.t10, hI.t11, hI.t12, hI.t13, fun _ => rfl, fun _ => rfl, hI.t16, hI.t17, hI.t18, hI.t19, hI.t20, hI.t21, hI.t22, hI.t23, hI.t24, hI.t25, hI.t26, hI.t27, hI.t28, hI.t29, hI.t30, hI.t31, hI.t32, hI.t33, hI.t34, hI.wq⟩⟩
          · rintro L a wx ⟨v, rfl, hI⟩ hL hdep hcl K hK
            have e15 := hI.t15 (hdep 15 (by decide))
            have e6 := hI.t6 (hdep 6 (by decide))
            rw [e15, e6]
            refine (if_pos rfl).mpr ?_
            go_simp
            rw [HS1.out, HW1.out]
            exact hK _ _ ⟨(upd (upd (upd v 51 (.int .i64 (N1 : Int))) 42 (.bool true)) 52 (.int .i64 (r1 : Int))), rfl, ⟨hI.t0, hI.t1, hI.t2, hI.t3, hI.t4, hI.t5, fun _ => rfl, hI.t7, hI.t8, hI.t9, hI.t10, hI.t11, hI.t12, hI.t13, hI.t14, fun _ => rfl, fun _ => rfl, hI.t17, hI.t18, hI.t19, hI.t20, hI.t21, hI.t22, hI.t23, hI.t24, hI.t25, hI.t26, hI.t27, hI.t28, hI.t29, hI.t30, hI.t31, hI.t32, hI.t33, hI.t34, hI.wq⟩⟩
          · rintro L a wx ⟨v, rfl, hI⟩ hL hdep hcl K hK
            have e10 := hI.t10 (hdep 10 (by decide))
            have e16 := hI.t16 (hdep 16 (by decide))
            have e6 := hI.t6 (hdep 6 (by decide))
            rw [e10, e16, e6]
            refine (if_pos rfl).mpr ?_
            go_simp
            exact hK _ _ ⟨(upd (upd (upd (upd v 46 (.slice (some ⟨gq, 0, none⟩) N1 cv)) 52 (.int .i64 (r1 : Int))) 42 (.bool true)) 53 (.pointer (some ⟨gq, r1 * 33, none⟩))), rfl, ⟨hI.t0, hI.t1, hI.t2, hI.t3, hI.t4, hI.t5, fun _ => rfl, hI.t7, hI.t8, hI.t9, fun _ => rfl, hI.t11, hI.t12, hI.t13, hI.t14, hI.t15, fun _ => rfl, fun _ => rfl, hI.t18, hI.t19, hI.t20, hI.t21, hI.t22, hI.t23, hI.t24, hI.t25, hI.t26, hI.t27, hI.t28, hI.t29, hI.t30, hI.t31, hI.t32, hI.t33, hI.t34, hI.wq⟩⟩
          · rintro L a wx ⟨v, rfl, hI⟩ hL hdep hcl K hK
            have e17 := hI.t17 (hdep 17 (by decide))
            have e6 := hI.t6 (hdep 6 (by decide))
            rw [e17, e6]
            refine (if_pos rfl).mpr ?_
            go_simp
            exact hK _ _ ⟨(upd (upd (upd v 53 (.pointer (some ⟨gq, r1 * 33, none⟩))) 42 (.bool true)) 54 (.pointer (some ⟨gq, r1 * 33, none⟩))), rfl, ⟨hI.t0, hI.t1, hI.t2, hI.t3, hI.t4, hI.t5, fun _ => rfl, hI.t7, hI.t8, hI.t9, hI.t10, hI.t11, hI.t12, hI.t13, hI.t14, hI.t15, hI.t16, fun _ => rfl, fun _ => rfl, hI.t19, hI.t20, hI.t21, hI.t22, hI.t23, hI.t24, hI.t25, hI.t26, hI.t27, hI.t28, hI.t29, hI.t30, hI.t31, hI.t32, hI.t33, hI.t34, hI.wq⟩⟩
          · rintro L a wx ⟨v, rfl, hI⟩ hL hdep hcl K hK
            have e18 := hI.t18 (hdep 18 (by decide))
            have e6 := hI.t6 (hdep 6 (by decide))
            rw [e18, e6]
            refine (if_pos rfl).mpr ?_
            obtain rfl := hI.wq
            have cc := CB.out
            go_simp
            exact hK _ _ ⟨(upd (upd (upd v 54 (.pointer (some ⟨gq, r1 * 33, none⟩))) 42 (.bool true)) 55 (.int .u64 (nb : Int))), rfl, ⟨hI.t0, hI.t1, hI.t2, hI.t3, hI.t4, hI.t5, fun _ => rfl, hI.t7, hI.t8, hI.t9, hI.t10, hI.t11, hI.t12, hI.t13, hI.t14, hI.t15, hI.t16, hI.t17, fun _ => rfl, fun _ => rfl, hI.t20, hI.t21, hI.t22, hI.t23, hI.t24, hI.t25, hI.t26, hI.t27, hI.t28, hI.t29, hI.t30, hI.t31, hI.t32, hI.t33, hI.t34, hI.wq⟩⟩
          · rintro L a wx ⟨v, rfl, hI⟩ hL hdep hcl K hK
            have e6 := hI.t6 (hdep 6 (by decide))
            rw [e6]
            refine (if_pos rfl).mpr ?_
            go_simp
            exact hK _ _ ⟨(upd (upd v 42 (.bool true)) 56 (.pointer (some ⟨p, 0, none⟩))), rfl, ⟨hI.t0, hI.t1, hI.t2, hI.t3, hI.t4, hI.t5, fun _ => rfl, hI.t7, hI.t8, hI.t9, hI.t10, hI.t11, hI.t12, hI.t13, hI.t14, hI.t15, hI.t16, hI.t17, hI.t18, hI.t19, fun _ => rfl, hI.t21, hI.t22, hI.t23, hI.t24, hI.t25, hI.t26, hI.t27, hI.t28, hI.t29, hI.t30, hI.t31, hI.t32, hI.t33, hI.t34, hI.wq⟩⟩
          · rintro L a wx ⟨v, rfl, hI⟩ hL hdep hcl K hK
            have e20 := hI.t20 (hdep 20 (by decide))
            have e6 := hI.t6 (hdep 6 (by decide))
            rw [e20, e6]
            refine (if_pos rfl).mpr ?_
            go_simp
            exact hK _ _ ⟨(upd (upd (upd v 56 (.pointer (some ⟨p, 0, none⟩))) 42 (.bool true)) 57 (.pointer (some ⟨p, 0, none⟩))), rfl, ⟨hI.t0, hI.t1, hI.t2, hI.t3, hI.t4, hI.t5, fun _ => rfl, hI.t7, hI.t8, hI.t9, hI.t10, hI.t11, hI.t12, hI.t13, hI.t14, hI.t15, hI.t16, hI.t17, hI.t18, hI.t19, fun _ => rfl, fun _ => rfl, hI.t22, hI.t23, hI.t24, hI.t25, hI.t26, hI.t27, hI.t28, hI.t29, hI.t30, hI.t31, hI.t32, hI.t33, hI.t34, hI.wq⟩⟩
          · rintro L a wx ⟨v, rfl, hI⟩ hL hdep hcl K hK
            have e21 := hI.t21 (hdep 21 (by decide))
            have e6 := hI.t6 (hdep 6 (by decide))
            rw [e21, e6]
            refine (if_pos rfl).mpr ?_
            go_simp
            exact hK _ _ ⟨(upd (upd (upd v 57 (.pointer (some ⟨p, 0, none⟩))) 42 (.bool true)) 58 (.pointer (some ⟨p, 1, none⟩))), rfl, ⟨hI.t0, hI.t1, hI.t2, hI.t3, hI.t4, hI.t5, fun _ => rfl, hI.t7, hI.t8, hI.t9, hI.t10, hI.t11, hI.t12, hI.t13, hI.t14, hI.t15, hI.t16, hI.t17, hI.t18, hI.t19, hI.t20, fun _ => rfl, fun _ => rfl, hI.t23, hI.t24, hI.t25, hI.t26, hI.t27, hI.t28, hI.t29, hI.t30, hI.t31, hI.t32, hI.t33, hI.t34, hI.wq⟩⟩
          · rintro L a wx ⟨v, rfl, hI⟩ hL hdep hcl K hK
            have e22 := hI.t22 (hdep 22 (by decide))
            have e6 := hI.t6 (hdep 6 (by decide))
            rw [e22, e6]
            refine (if_pos rfl).mpr ?_
            obtain rfl := hI.wq
            have cc := C1.out
            go_simp
            exact hK _ _ ⟨(upd (upd (upd v 58 (.pointer (some ⟨p, 1, none⟩))) 42 (.bool true)) 59 (.slice (some ⟨gq, 0, none⟩) N1 cv)), rfl, ⟨hI.t0, hI.t1, hI.t2, hI.t3, hI.t4, hI.t5, fun _ => rfl, hI.t7, hI.t8, hI.t9, hI.t10, hI.t11, hI.t12, hI.t13, hI.t14, hI.t15, hI.t16, hI.t17, hI.t18, hI.t19, hI.t20, hI.t21, fun _ => rfl, fun _ => rfl, hI.t24, hI.t25, hI.t26, hI.t27, hI.t28, hI.t29, hI.t30, hI.t31, hI.t32, hI.t33, hI.t34, hI.wq⟩⟩
          · rintro L a wx ⟨v, rfl, hI⟩ hL hdep hcl K hK
            have e6 := hI.t6 (hdep 6 (by decide))
            rw [e6]
            refine (if_pos rfl).mpr ?_
            go_simp
            exact hK _ _ ⟨(upd (upd v 42 (.bool true)) 60 (.pointer (some ⟨p, 0, none⟩))), rfl, ⟨hI.t0, hI.t1, hI.t2, hI.t3, hI.t4, hI.t5, fun _ => rfl, hI.t7, hI.t8, hI.t9, hI.t10, hI.t11, hI.t12, hI.t13, hI.t14, hI.t15, hI.t16, hI.t17, hI.t18, hI.t19, hI.t20, hI.t21, hI.t22, hI.t23, fun _ => rfl, hI.t25, hI.t26, hI.t27, hI.t28, hI.t29, hI.t30, hI.t31, hI.t32, hI.t33, hI.t34, hI.wq⟩⟩
          · rintro L a wx ⟨v, rfl, hI⟩ hL hdep hcl K hK
            have e24 := hI.t24 (hdep 24 (by decide))
            have e6 := hI.t6 (hdep 6 (by decide))
            rw [e24, e6]
            refine (if_pos rfl).mpr ?_
            go_simp
            exact hK _ _ ⟨(upd (upd (upd v 60 (.pointer (some ⟨p, 0, none⟩))) 42 (.bool true)) 61 (.pointer (some ⟨p, 0, none⟩))), rfl, ⟨hI.t0, hI.t1, hI.t2, hI.t3, hI.t4, hI.t5, fun _ => rfl, hI.t7, hI.t8, hI.t9, hI.t10, hI.t11, hI.t12, hI.t13, hI.t14, hI.t15, hI.t16, hI.t17, hI.t18, hI.t19, hI.t20, hI.t21, hI.t22, hI.t23, fun _ => rfl, fun _ => rfl, hI.t26, hI.t27, hI.t28, hI.t29, hI.t30, hI.t31, hI.t32, hI.t33, hI.t34, hI.wq⟩⟩
          · rintro L a wx ⟨v, rfl, hI⟩ hL hdep hcl K hK
            have e25 := hI.t25 (hdep 25 (by decide))
            have e6 := hI.t6 (hdep 6 (by decide))
            rw [e25, e6]
            refine (if_pos rfl).mpr ?_
            go_simp
            exact hK _ _ ⟨(upd (upd (upd v 61 (.pointer (some ⟨p, 0, none⟩))) 42 (.bool true)) 62 (.pointer (some ⟨p, 1, none⟩))), rfl, ⟨hI.t0, hI.t1, hI.t2, hI.t3, hI.t4, hI.t5, fun _ => rfl, hI.t7, hI.t8, hI.t9, hI.t10, hI.t11, hI.t12, hI.t13, hI.t14, hI.t15, hI.t16, hI.t17, hI.t18, hI.t19, hI.t20, hI.t21, hI.t22, hI.t23, hI.t24, fun _ => rfl, fun _ => rfl, hI.t27, hI.t28, hI.t29, hI.t30, hI.t31, hI.t32, hI.t33, hI.t34, hI.wq⟩⟩
          · rintro L a wx ⟨v, rfl, hI⟩ hL hdep hcl K hK
            have e26 := hI.t26 (hdep 26 (by decide))
            have e6 := hI.t6 (hdep 6 (by decide))
            rw [e26, e6]
            refine (if_pos rfl).mpr ?_
            obtain rfl := hI.wq
            have cc := C1.out
            go_simp
            exact hK _ _ ⟨(upd (upd (upd v 62 (.pointer (some ⟨p, 1, none⟩))) 42 (.bool true)) 63 (.slice (some ⟨gq, 0, none⟩) N1 cv)), rfl, ⟨hI.t0, hI.t1, hI.t2, hI.t3, hI.t4, hI.t5, fun _ => rfl, hI.t7, hI.t8, hI.t9, hI.t10, hI.t11, hI.t12, hI.t13, hI.t14, hI.t15, hI.t16, hI.t17, hI.t18, hI.t19, hI.t20, hI.t21, hI.t22, hI.t23, hI.t24, hI.t25, fun _ => rfl, fun _ => rfl, hI.t28, hI.t29, hI.t30, hI.t31, hI.t32, hI.t33, hI.t34, hI.wq⟩⟩
          · rintro L a wx ⟨v, rfl, hI⟩ hL hdep hcl K hK
            have e27 := hI.t27 (hdep 27 (by decide))
            have e6 := hI.t6 (hdep 6 (by decide))
            rw [e27, e6]
            refine (if_pos rfl).mpr ?_
            go_simp
            exact hK _ _ ⟨(upd (upd (upd v 63 (.slice (some ⟨gq, 0, none⟩) N1 cv)) 42 (.bool true)) 64 (.int .i64 (N1 : Int))), rfl, ⟨hI.t0, hI.t1, hI.t2, hI.t3, hI.t4, hI.t5, fun _ => rfl, hI.t7, hI.t8, hI.t9, hI.t10, hI.t11, hI.t12, hI.t13, hI.t14, hI.t15, hI.t16, hI.t17, hI.t18, hI.t19, hI.t20, hI.t21, hI.t22, hI.t23, hI.t24, hI.t25, hI.t26, fun _ => rfl, fun _ => rfl, hI.t29, hI.t30, hI.t31, hI.t32, hI.t33, hI.t34, hI.wq⟩⟩
          · rintro L a wx ⟨v, rfl, hI⟩ hL hdep hcl K hK
            have e28 := hI.t28 (hdep 28 (by decide))
            have e6 := hI.t6 (hdep 6 (by decide))
            rw [e28, e6]
            refine (if_pos rfl).mpr ?_
            go_simp
            rw [HS2.out, HW2.out]
            exact hK _ _ ⟨(upd (upd (upd v 64 (.int .i64 (N1 : Int))) 42 (.bool true)) 65 (.int .i64 (r2 : Int))), rfl, ⟨hI.t0, hI.t1, hI.t2, hI.t3, hI.t4, hI.t5, fun _ => rfl, hI.t7, hI.t8, hI.t9, hI.t10, hI.t11, hI.t12, hI.t13, hI.t14, hI.t15, hI.t16, hI.t17, hI.t18, hI.t19, hI.t20, hI.t21, hI.t22, hI.t23, hI.t24, hI.t25, hI.t26, hI.t27, fun _ => rfl, fun _ => rfl, hI.t30, hI.t31, hI.t32, hI.t33, hI.t34, hI.wq⟩⟩
          · rintro L a wx ⟨v, rfl, hI⟩ hL hdep hcl K hK
            have e23 := hI.t23 (hdep 23 (by decide))
            have e29 := hI.t29 (hdep 29 (by decide))
            have e6 := hI.t6 (hdep 6 (by decide))
            rw [e23, e29, e6]
            refine (if_pos rfl).mpr ?_
            go_simp
            exact hK _ _ ⟨(upd (upd (upd (upd v 59 (.slice (some ⟨gq, 0, none⟩) N1 cv)) 65 (.int .i64 (r2 : Int))) 42 (.bool true)) 66 (.pointer (some ⟨gq, r2 * 33, none⟩))), rfl, ⟨hI.t0, hI.t1, hI.t2, hI.t3, hI.t4, hI.t5, fun _ => rfl, hI.t7, hI.t8, hI.t9, hI.t10, hI.t11, hI.t12, hI.t13, hI.t14, hI.t15, hI.t16, hI.t17, hI.t18, hI.t19, hI.t20, hI.t21, hI.t22, fun _ => rfl, hI.t24, hI.t25, hI.t26, hI.t27, hI.t28, fun _ => rfl, fun _ => rfl, hI.t31, hI.t32, hI.t33, hI.t34, hI.wq⟩⟩
          · rintro L a wx ⟨v, rfl, hI⟩ hL hdep hcl K hK
            have e30 := hI.t30 (hdep 30 (by decide))
            have e6 := hI.t6 (hdep 6 (by decide))
            rw [e30, e6]
            refine (if_pos rfl).mpr ?_
            go_simp
            exact hK _ _ ⟨(upd (upd (upd v 66 (.pointer (some ⟨gq, r2 * 33, none⟩))) 42 (.bool true)) 67 (.pointer (some ⟨gq, r2 * 33, none⟩))), rfl, ⟨hI.t0, hI.t1, hI.t2, hI.t3, hI.t4, hI.t5, fun _ => rfl, hI.t7, hI.t8, hI.t9, hI.t10, hI.t11, hI.t12, hI.t13, hI.t14, hI.t15, hI.t16, hI.t17, hI.t18, hI.t19, hI.t20, hI.t21, hI.t22, hI.t23, hI.t24, hI.t25, hI.t26, hI.t27, hI.t28, hI.t29, fun _ => rfl, fun _ => rfl, hI.t32, hI.t33, hI.t34, hI.wq⟩⟩
          · rintro L a wx ⟨v, rfl, hI⟩ hL hdep hcl K hK
            have e31 := hI.t31 (hdep 31 (by decide))
            have e6 := hI.t6 (hdep 6 (by decide))
            rw [e31, e6]
            refine (if_pos rfl).mpr ?_
            obtain rfl := hI.wq
            have cc := CA.out
            go_simp
            exact hK _ _ ⟨(upd (upd (upd v 67 (.pointer (some ⟨gq, r2 * 33, none⟩))) 42 (.bool true)) 68 (.int .u64 (na : Int))), rfl, ⟨hI.t0, hI.t1, hI.t2, hI.t3, hI.t4, hI.t5, fun _ => rfl, hI.t7, hI.t8, hI.t9, hI.t10, hI.t11, hI.t12, hI.t13, hI.t14, hI.t15, hI.t16, hI.t17, hI.t18, hI.t19, hI.t20, hI.t21, hI.t22, hI.t23, hI.t24, hI.t25, hI.t26, hI.t27, hI.t28, hI.t29, hI.t30, fun _ => rfl, fun _ => rfl, hI.t33, hI.t34, hI.wq⟩⟩
          · rintro L a wx ⟨v, rfl, hI⟩ hL hdep hcl K hK
            have e19 := hI.t19 (hdep 19 (by decide))
            have e32 := hI.t32 (hdep 32 (by decide))
            have e6 := hI.t6 (hdep 6 (by decide))
            rw [e19, e32, e6]
            refine (if_pos rfl).mpr ?_
            have q1 := hEq.out
            have q2 := hEq2.out
            have q3 := hEq3.out
            go_simp
            exact hK _ _ ⟨(upd (upd (upd (upd v 55 (.int .u64 (nb : Int))) 68 (.int .u64 (na : Int))) 42 (.bool true)) 69 (.bool true)), rfl, ⟨hI.t0, hI.t1, hI.t2, hI.t3, hI.t4, hI.t5, fun _ => rfl, hI.t7, hI.t8, hI.t9, hI.t10, hI.t11, hI.t12, hI.t13, hI.t14, hI.t15, hI.t16, hI.t17, hI.t18, fun _ => rfl, hI.t20, hI.t21, hI.t22, hI.t23, hI.t24, hI.t25, hI.t26, hI.t27, hI.t28, hI.t29, hI.t30, hI.t31, fun _ => rfl, fun _ => rfl, hI.t34, hI.wq⟩⟩
          · rintro L a wx ⟨v, rfl, hI⟩ hL hdep hcl K hK
            have e6 := hI.t6 (hdep 6 (by decide))
            have e33 := hI.t33 (hdep 33 (by decide))
            rw [e6, e33]
            go_simp
            exact hK _ _ ⟨(upd (upd (upd v 42 (.bool true)) 69 (.bool true)) 70 (.bool true)), rfl, ⟨hI.t0, hI.t1, hI.t2, hI.t3, hI.t4, hI.t5, fun _ => rfl, hI.t7, hI.t8, hI.t9, hI.t10, hI.t11, hI.t12, hI.t13, hI.t14, hI.t15, hI.t16, hI.t17, hI.t18, hI.t19, hI.t20, hI.t21, hI.t22, hI.t23, hI.t24, hI.t25, hI.t26, hI.t27, hI.t28, hI.t29, hI.t30, hI.t31, hI.t32, fun _ => rfl, fun _ => rfl, hI.wq⟩⟩
          · rintro a wx ⟨vF, rfl, hI⟩
            have e := hI.t34 rfl
            obtain rfl := hI.wq
            clear hI
            rw [e]
            clear e
            have hAp6 := HAP.out.drew
            have hOp6 : OwnP wr.drew B (.slice (some ⟨gq, 0, none⟩) N1 cv) ((A :: rest).reverse ++ [b]) := by have h1 := hOp.to (Below.refl _ wr).drew; exact h1
            have hT6 : OwnD wr.drew w.heap.size u6 told := hT.to (Below.refl _ _).drew
            have kb6 := HKB.out.drew
            have hR6 : RdG 33 encP wr.drew (some ⟨gq, 0, none⟩) N1 cv ((A :: rest).reverse ++ [b]) := hR.to (Below.refl _ _).drew
            have hgq6 : gq < wr.drew.heap.size := (World.ownsRow.lt hOp.row gq rfl).2
            have hA2l : A.2.length = 32 := by have := LA.out; simp [encP, bvs_len] at this; exact this
            have hb2l : b.2.length = 32 := by have := LB.out; simp [encP, bvs_len] at this; exact this
            have hle6 := hR.le
            clear hOp hT hR C1 CA CB
            generalize wr.drew = W6 at *
            have RA6 : Hid (∀ wx, Below W6.heap.size W6 wx → wx.rangeAt gq (r2 * 33) (encP A)) := fun wx hb j v hj => (hb.cell (p := ⟨gq, r2 * 33 + j, none⟩) hgq6).trans (RA.out j v hj)
            have RB6 : Hid (∀ wx, Below W6.heap.size W6 wx → wx.rangeAt gq (r1 * 33) (encP b)) := fun wx hb j v hj => (hb.cell (p := ⟨gq, r1 * 33 + j, none⟩) hgq6).trans (RB.out j v hj)
            have CP6 : Hid (∀ wx, Below W6.heap.size W6 wx → wx.cell? ⟨p, 1, none⟩ = some (.slice (some ⟨gq, 0, none⟩) N1 cv)) := fun wx hb => by simpa using (hAp6.kept hb).cell 1
            have hsA : Hid ((Try.prog.info? 63).map (·.size) = some (encP A).length) := by show _ = _; rw [LA.out]; exact sizeP
            have hsB : Hid ((Try.prog.info? 63).map (·.size) = some (encP b).length) := by show _ = _; rw [LB.out]; exact sizeP
            have HA2L := Lib.hid hA2l
            have HB2L := Lib.hid hb2l
            have HLE6 := Lib.hid hle6
            have lzp : Hid (Zp.length = 33) := by show _ = _; simp [Zp, encP, bvs_len, Z8]
            clear hA2l hb2l hle6 RA RB
            go_upto_region 7 with fail
            refine wp_region_steps [[], [0], [1], [2], [], [4], [5], [6], [7], [8], [3, 9], [10], [], [12], [13], [14], [], [16], [17], [18], [19], [20], [15, 21], [22], [], [], [24, 11], [25, 23, 26]] (by kernel_rfl) (by kernel_rfl) (fun L a wx => ∃ v : Nat → Value, a = ⟨#[.pointer (some ⟨p, 0, none⟩), .agg (bvs d).toArray, undef, .pointer (some ⟨g3, 0, none⟩), .slice none 0 0, .int .i64 0, u6, v 7, v 8, u9, u10, .pointer (some ⟨p, 0, none⟩), .pointer (some ⟨p, 0, none⟩), .pointer (some ⟨p, 0, none⟩), .int .u64 ↑n, .bool false, .pointer (some ⟨p, 0, none⟩), .pointer (some ⟨p, 0, none⟩), .pointer (some ⟨p, 0, none⟩), .int .u64 ↑n, .int .u64 (↑n + 1), .pointer (some ⟨p, 0, none⟩), .pointer (some ⟨p, 0, none⟩), v23, v24, v25, v26, v27, v28, v29, v30, .slice (some ⟨gq0, 0, none⟩) ((partsF n P).length + 1) c2, v32, v33, .agg (bvs d).toArray, .slice (some ⟨W1.heap.size, 0, none⟩) 1 1, vF 36, vF 37, vF 38, vF 39, vF 40, vF 41, vF 42, vF 43, vF 44, vF 45, vF 46, vF 47, vF 48, vF 49, vF 50, vF 51, vF 52, vF 53, vF 54, vF 55, vF 56, vF 57, vF 58, vF 59, vF 60, vF 61, vF 62, vF 63, vF 64, vF 65, vF 66, vF 67, vF 68, vF 69, .bool true, v 71, v 72, v 73, v 74, v 75, v 76, v 77, v 78, v 79, v 80, v 81, v 82, v 83, v 84, v 85, v 86, v 87, v 88, v 89, v 90, v 91, v 92, v 93, v 94, u95, u96, u97, u98, u99, u100, u101, u102, u103, u104, u105, u106, u107, u108, u109, u110, u111, u112, u113, u114, u115, u116, u117, u118, u119, u120, u121, u122, u123, u124, u125, u126, u127, u128, u129, u130, undef], []⟩ ∧ InvWAddG A b p gq N1 cv r1 r2 u6 u7 u8 u9 u10 u71 u72 u73 u74 u75 u76 u77 u78 u79 u80 u81 u82 u83 u84 u85 u86 u87 u88 u89 u90 u91 u92 u93 u94 u95 u96 u97 u98 u99 u100 u101 u102 u103 u104 u105 u106 u107 u108 u109 u110 u111 u112 u113 u114 u115 u116 u117 u118 u119 u120 u121 u122 u123 u124 u125 u126 u127 u128 u129 u130 W6 L v wx) ?_ ⟨?_, ?_, ?_, ?_, ?_, ?_, ?_, ?_, ?_, ?_, ?_, ?_, ?_, ?_, ?_, ?_, ?_, ?_, ?_, ?_, ?_, ?_, ?_, ?_, ?_, ?_, ?_, ?_, trivial⟩ ?_
            · refine ⟨upd (upd (upd (upd (upd (upd (upd (upd (upd (upd (upd (upd (upd (upd (upd (upd (upd (upd (upd (upd (upd (upd (upd (upd (upd (upd (fun _ => undef) 71 (u71)) 72 (u72)) 73 (u73)) 74 (u74)) 75 (u75)) 76 (u76)) 77 (u77)) 78 (u78)) 79 (u79)) 80 (u80)) 81 (u81)) 82 (u82)) 83 (u83)) 84 (u84)) 85 (u85)) 86 (u86)) 87 (u87)) 88 (u88)) 89 (u89)) 90 (u90)) 91 (u91)) 92 (u92)) 93 (u93)) 94 (u94)) 7 (u7)) 8 (u8), rfl, ⟨?_, ?_, ?_, ?_, ?_, ?_, ?_, ?_, ?_, ?_, ?_, ?_, ?_, ?_, ?_, ?_, ?_, ?_, ?_, ?_, ?_, ?_, ?_, ?_, ?_, ?_, (Below.refl _ _).drew, (fun h => nomatch (show false = true from h))⟩⟩ <;> (intro h; exact absurd h (by decide))
            · rintro L a wx ⟨v, rfl, hI⟩ hL hdep hcl K hK
              go_simp
              exact hK _ _ ⟨(upd v 71 (.pointer (some ⟨p, 0, none⟩))), rfl, ⟨fun _ => rfl, hI.t1, hI.t2, hI.t3, hI.t4, hI.t5, hI.t6, hI.t7, hI.t8, hI.t9, hI.t10, hI.t11, hI.t12, hI.t13, hI.t14, hI.t15, hI.t16, hI.t17, hI.t18, hI.t19, hI.t20, hI.t21, hI.t22, hI.t23, hI.t24, hI.t25, hI.bw, hI.ne⟩⟩
            · rintro L a wx ⟨v, rfl, hI⟩ hL hdep hcl K hK
              have e0 := hI.t0 (hdep 0 (by decide))
              rw [e0]
              go_simp
              exact hK _ _ ⟨(upd (upd v 71 (.pointer (some ⟨p, 0, none⟩))) 72 (.pointer (some ⟨p, 0, none⟩))), rfl, ⟨fun _ => rfl, fun _ => rfl, hI.t2, hI.t3, hI.t4, hI.t5, hI.t6, hI.t7, hI.t8, hI.t9, hI.t10, hI.t11, hI.t12, hI.t13, hI.t14, hI.t15, hI.t16, hI.t17, hI.t18, hI.t19, hI.t20, hI.t21, hI.t22, hI.t23, hI.t24, hI.t25, hI.bw, hI.ne⟩⟩
            · rintro L a wx ⟨v, rfl, hI⟩ hL hdep hcl K hK
              have e1 := hI.t1 (hdep 1 (by decide))
              rw [e1]
              go_simp
              exact hK _ _ ⟨(upd (upd v 72 (.pointer (some ⟨p, 0, none⟩))) 73 (.pointer (some ⟨p, 1, none⟩))), rfl, ⟨hI.t0, fun _ => rfl, fun _ => rfl, hI.t3, hI.t4, hI.t5, hI.t6, hI.t7, hI.t8, hI.t9, hI.t10, hI.t11, hI.t12, hI.t13, hI.t14, hI.t15, hI.t16, hI.t17, hI.t18, hI.t19, hI.t20, hI.t21, hI.t22, hI.t23, hI.t24, hI.t25, hI.bw, hI.ne⟩⟩
            · rintro L a wx ⟨v, rfl, hI⟩ hL hdep hcl K hK
              have e2 := hI.t2 (hdep 2 (by decide))
              rw [e2]
              have cc := CP6.out wx hI.bw
              go_simp
              exact hK _ _ ⟨(upd (upd v 73 (.pointer (some ⟨p, 1, none⟩))) 74 (.slice (some ⟨gq, 0, none⟩) N1 cv)), rfl, ⟨hI.t0, hI.t1, fun _ => rfl, fun _ => rfl, hI.t4, hI.t5, hI.t6, hI.t7, hI.t8, hI.t9, hI.t10, hI.t11, hI.t12, hI.t13, hI.t14, hI.t15, hI.t16, hI.t17, hI.t18, hI.t19, hI.t20, hI.t21, hI.t22, hI.t23, hI.t24, hI.t25, hI.bw, hI.ne⟩⟩
            · rintro L a wx ⟨v, rfl, hI⟩ hL hdep hcl K hK
              go_simp
              exact hK _ _ ⟨(upd v 75 (.pointer (some ⟨p, 0, none⟩))), rfl, ⟨hI.t0, hI.t1, hI.t2, hI.t3, fun _ => rfl, hI.t5, hI.t6, hI.t7, hI.t8, hI.t9, hI.t10, hI.t11, hI.t12, hI.t13, hI.t14, hI.t15, hI.t16, hI.t17, hI.t18, hI.t19, hI.t20, hI.t21, hI.t22, hI.t23, hI.t24, hI.t25, hI.bw, hI.ne⟩⟩
            · rintro L a wx ⟨v, rfl, hI⟩ hL hdep hcl K hK
              have e4 := hI.t4 (hdep 4 (by decide))
              rw [e4]
              go_simp
              exact hK _ _ ⟨(upd (upd v 75 (.pointer (some ⟨p, 0, none⟩))) 76 (.pointer (some ⟨p, 0, none⟩))), rfl, ⟨hI.t0, hI.t1, hI.t2, hI.t3, fun _ => rfl, fun _ => rfl, hI.t6, hI.t7, hI.t8, hI.t9, hI.t10, hI.t11, hI.t12, hI.t13, hI.t14, hI.t15, hI.t16, hI.t17, hI.t18, hI.t19, hI.t20, hI.t21, hI.t22, hI.t23, hI.t24, hI.t25, hI.bw, hI.ne⟩⟩
            · rintro L a wx ⟨v, rfl, hI⟩ hL hdep hcl K hK
              have e5 := hI.t5 (hdep 5 (by decide))
              rw [e5]
              go_simp
              exact hK _ _ ⟨(upd (upd v 76 (.pointer (some ⟨p, 0, none⟩))) 77 (.pointer (some ⟨p, 1, none⟩))), rfl, ⟨hI.t0, hI.t1, hI.t2, hI.t3, hI.t4, fun _ => rfl, fun _ => rfl, hI.t7, hI.t8, hI.t9, hI.t10, hI.t11, hI.t12, hI.t13, hI.t14, hI.t15, hI.t16, hI.t17, hI.t18, hI.t19, hI.t20, hI.t21, hI.t22, hI.t23, hI.t24, hI.t25, hI.bw, hI.ne⟩⟩
            · rintro L a wx ⟨v, rfl, hI⟩ hL hdep hcl K hK
              have e6 := hI.t6 (hdep 6 (by decide))
              rw [e6]
              have cc := CP6.out wx hI.bw
              go_simp
              exact hK _ _ ⟨(upd (upd v 77 (.pointer (some ⟨p, 1, none⟩))) 78 (.slice (some ⟨gq, 0, none⟩) N1 cv)), rfl, ⟨hI.t0, hI.t1, hI.t2, hI.t3, hI.t4, hI.t5, fun _ => rfl, fun _ => rfl, hI.t8, hI.t9, hI.t10, hI.t11, hI.t12, hI.t13, hI.t14, hI.t15, hI.t16, hI.t17, hI.t18, hI.t19, hI.t20, hI.t21, hI.t22, hI.t23, hI.t24, hI.t25, hI.bw, hI.ne⟩⟩
            · rintro L a wx ⟨v, rfl, hI⟩ hL hdep hcl K hK
              have e7 := hI.t7 (hdep 7 (by decide))
              rw [e7]
              go_simp
              exact hK _ _ ⟨(upd (upd v 78 (.slice (some ⟨gq, 0, none⟩) N1 cv)) 79 (.int .i64 (N1 : Int))), rfl, ⟨hI.t0, hI.t1, hI.t2, hI.t3, hI.t4, hI.t5, hI.t6, fun _ => rfl, fun _ => rfl, hI.t9, hI.t10, hI.t11, hI.t12, hI.t13, hI.t14, hI.t15, hI.t16, hI.t17, hI.t18, hI.t19, hI.t20, hI.t21, hI.t22, hI.t23, hI.t24, hI.t25, hI.bw, hI.ne⟩⟩
            · rintro L a wx ⟨v, rfl, hI⟩ hL hdep hcl K hK
              have e8 := hI.t8 (hdep 8 (by decide))
              rw [e8]
              go_simp
              rw [HS2.out, HW2.out]
              exact hK _ _ ⟨(upd (upd v 79 (.int .i64 (N1 : Int))) 80 (.int .i64 (r2 : Int))), rfl, ⟨hI.t0, hI.t1, hI.t2, hI.t3, hI.t4, hI.t5, hI.t6, hI.t7, fun _ => rfl, fun _ => rfl, hI.t10, hI.t11, hI.t12, hI.t13, hI.t14, hI.t15, hI.t16, hI.t17, hI.t18, hI.t19, hI.t20, hI.t21, hI.t22, hI.t23, hI.t24, hI.t25, hI.bw, hI.ne⟩⟩
            · rintro L a wx ⟨v, rfl, hI⟩ hL hdep hcl K hK
              have e3 := hI.t3 (hdep 3 (by decide))
              have e9 := hI.t9 (hdep 9 (by decide))
              rw [e3, e9]
              go_simp
              exact hK _ _ ⟨(upd (upd (upd v 74 (.slice (some ⟨gq, 0, none⟩) N1 cv)) 80 (.int .i64 (r2 : Int))) 81 (.pointer (some ⟨gq, r2 * 33, none⟩))), rfl, ⟨hI.t0, hI.t1, hI.t2, fun _ => rfl, hI.t4, hI.t5, hI.t6, hI.t7, hI.t8, fun _ => rfl, fun _ => rfl, hI.t11, hI.t12, hI.t13, hI.t14, hI.t15, hI.t16, hI.t17, hI.t18, hI.t19, hI.t20, hI.t21, hI.t22, hI.t23, hI.t24, hI.t25, hI.bw, hI.ne⟩⟩
            · rintro L a wx ⟨v, rfl, hI⟩ hL hdep hcl K hK
              have e10 := hI.t10 (hdep 10 (by decide))
              rw [e10]
              refine wp_load_mid 63 _ rfl gq (r2 * 33) rfl (encP A) _ (RA6.out wx hI.bw) Try.underlying63 rfl hsA.out ?_
              exact hK _ _ ⟨(upd (upd v 81 (.pointer (some ⟨gq, r2 * 33, none⟩))) 82 (.agg (encP A).toArray)), rfl, ⟨hI.t0, hI.t1, hI.t2, hI.t3, hI.t4, hI.t5, hI.t6, hI.t7, hI.t8, hI.t9, fun _ => rfl, fun _ => rfl, hI.t12, hI.t13, hI.t14, hI.t15, hI.t16, hI.t17, hI.t18, hI.t19, hI.t20, hI.t21, hI.t22, hI.t23, hI.t24, hI.t25, hI.bw, hI.ne⟩⟩
            · rintro L a wx ⟨v, rfl, hI⟩ hL hdep hcl K hK
              go_simp
              exact hK _ _ ⟨(upd v 83 (.pointer (some ⟨p, 0, none⟩))), rfl, ⟨hI.t0, hI.t1, hI.t2, hI.t3, hI.t4, hI.t5, hI.t6, hI.t7, hI.t8, hI.t9, hI.t10, hI.t11, fun _ => rfl, hI.t13, hI.t14, hI.t15, hI.t16, hI.t17, hI.t18, hI.t19, hI.t20, hI.t21, hI.t22, hI.t23, hI.t24, hI.t25, hI.bw, hI.ne⟩⟩
            · rintro L a wx ⟨v, rfl, hI⟩ hL hdep hcl K hK
              have e12 := hI.t12 (hdep 12 (by decide))
              rw [e12]
              go_simp
              exact hK _ _ ⟨(upd (upd v 83 (.pointer (some ⟨p, 0, none⟩))) 84 (.pointer (some ⟨p, 0, none⟩))), rfl, ⟨hI.t0, hI.t1, hI.t2, hI.t3, hI.t4, hI.t5, hI.t6, hI.t7, hI.t8, hI.t9, hI.t10, hI.t11, fun _ => rfl, fun _ => rfl, hI.t14, hI.t15, hI.t16, hI.t17, hI.t18, hI.t19, hI.t20, hI.t21, hI.t22, hI.t23, hI.t24, hI.t25, hI.bw, hI.ne⟩⟩
            · rintro L a wx ⟨v, rfl, hI⟩ hL hdep hcl K hK
              have e13 := hI.t13 (hdep 13 (by decide))
              rw [e13]
              go_simp
              exact hK _ _ ⟨(upd (upd v 84 (.pointer (some ⟨p, 0, none⟩))) 85 (.pointer (some ⟨p, 1, none⟩))), rfl, ⟨hI.t0, hI.t1, hI.t2, hI.t3, hI.t4, hI.t5, hI.t6, hI.t7, hI.t8, hI.t9, hI.t10, hI.t11, hI.t12, fun _ => rfl, fun _ => rfl, hI.t15, hI.t16, hI.t17, hI.t18, hI.t19, hI.t20, hI.t21, hI.t22, hI.t23, hI.t24, hI.t25, hI.bw, hI.ne⟩⟩
            · rintro L a wx ⟨v, rfl, hI⟩ hL hdep hcl K hK
              have e14 := hI.t14 (hdep 14 (by decide))
              rw [e14]
              have cc := CP6.out wx hI.bw
              go_simp
              exact hK _ _ ⟨(upd (upd v 85 (.pointer (some ⟨p, 1, none⟩))) 86 (.slice (some ⟨gq, 0, none⟩) N1 cv)), rfl, ⟨hI.t0, hI.t1, hI.t2, hI.t3, hI.t4, hI.t5, hI.t6, hI.t7, hI.t8, hI.t9, hI.t10, hI.t11, hI.t12, hI.t13, fun _ => rfl, fun _ => rfl, hI.t16, hI.t17, hI.t18, hI.t19, hI.t20, hI.t21, hI.t22, hI.t23, hI.t24, hI.t25, hI.bw, hI.ne⟩⟩
            · rintro L a wx ⟨v, rfl, hI⟩ hL hdep hcl K hK
              go_simp
              exact hK _ _ ⟨(upd v 87 (.pointer (some ⟨p, 0, none⟩))), rfl, ⟨hI.t0, hI.t1, hI.t2, hI.t3, hI.t4, hI.t5, hI.t6, hI.t7, hI.t8, hI.t9, hI.t10, hI.t11, hI.t12, hI.t13, hI.t14, hI.t15, fun _ => rfl, hI.t17, hI.t18, hI.t19, hI.t20, hI.t21, hI.t22, hI.t23, hI.t24, hI.t25, hI.bw, hI.ne⟩⟩
            · rintro L a wx ⟨v, rfl, hI⟩ hL hdep hcl K hK
              have e16 := hI.t16 (hdep 16 (by decide))
              rw [e16]
              go_simp
              exact hK _ _ ⟨(upd (upd v 87 (.pointer (some ⟨p, 0, none⟩))) 88 (.pointer (some ⟨p, 0, none⟩))), rfl, ⟨hI.t0, hI.t1, hI.t2, hI.t3, hI.t4, hI.t5, hI.t6, hI.t7, hI.t8, hI.t9, hI.t10, hI.t11, hI.t12, hI.t13, hI.t14, hI.t15, fun _ => rfl, fun _ => rfl, hI.t18, hI.t19, hI.t20, hI.t21, hI.t22, hI.t23, hI.t24, hI.t25, hI.bw, hI.ne⟩⟩
            · rintro L a wx ⟨v, rfl, hI⟩ hL hdep hcl K hK
              have e17 := hI.t17 (hdep 17 (by decide))
              rw [e17]
              go_simp
              exact hK _ _ ⟨(upd (upd v 88 (.pointer (some ⟨p, 0, none⟩))) 89 (.pointer (some ⟨p, 1, none⟩))), rfl, ⟨hI.t0, hI.t1, hI.t2, hI.t3, hI.t4, hI.t5, hI.t6, hI.t7, hI.t8, hI.t9, hI.t10, hI.t11, hI.t12, hI.t13, hI.t14, hI.t15, hI.t16, fun _ => rfl, fun _ => rfl, hI.t19, hI.t20, hI.t21, hI.t22, hI.t23, hI.t24, hI.t25, hI.bw, hI.ne⟩⟩
            · rintro L a wx ⟨v, rfl, hI⟩ hL hdep hcl K hK
              have e18 := hI.t18 (hdep 18 (by decide))
              rw [e18]
              have cc := CP6.out wx hI.bw
              go_simp
              exact hK _ _ ⟨(upd (upd v 89 (.pointer (some ⟨p, 1, none⟩))) 90 (.slice (some ⟨gq, 0, none⟩) N1 cv)), rfl, ⟨hI.t0, hI.t1, hI.t2, hI.t3, hI.t4, hI.t5, hI.t6, hI.t7, hI.t8, hI.t9, hI.t10, hI.t11, hI.t12, hI.t13, hI.t14, hI.t15, hI.t16, hI.t17, fun _ => rfl, fun _ => rfl, hI.t20, hI.t21, hI.t22, hI.t23, hI.t24, hI.t25, hI.bw, hI.ne⟩⟩
            · rintro L a wx ⟨v, rfl, hI⟩ hL hdep hcl K hK
              have e19 := hI.t19 (hdep 19 (by decide))
              rw [e19]
              go_simp
              exact hK _ _ ⟨(upd (upd v 90 (.slice (some ⟨gq, 0, none⟩) N1 cv)) 91 (.int .i64 (N1 : Int))), rfl, ⟨hI.t0, hI.t1, hI.t2, hI.t3, hI.t4, hI.t5, hI.t6, hI.t7, hI.t8, hI.t9, hI.t10, hI.t11, hI.t12, hI.t13, hI.t14, hI.t15, hI.t16, hI.t17, hI.t18, fun _ => rfl, fun _ => rfl, hI.t21, hI.t22, hI.t23, hI.t24, hI.t25, hI.bw, hI.ne⟩⟩
            · rintro L a wx ⟨v, rfl, hI⟩ hL hdep hcl K hK
              have e20 := hI.t20 (hdep 20 (by decide))
              rw [e20]
              go_simp
              rw [HS1.out, HW1.out]
              exact hK _ _ ⟨(upd (upd v 91 (.int .i64 (N1 : Int))) 92 (.int .i64 (r1 : Int))), rfl, ⟨hI.t0, hI.t1, hI.t2, hI.t3, hI.t4, hI.t5, hI.t6, hI.t7, hI.t8, hI.t9, hI.t10, hI.t11, hI.t12, hI.t13, hI.t14, hI.t15, hI.t16, hI.t17, hI.t18, hI.t19, fun _ => rfl, fun _ => rfl, hI.t22, hI.t23, hI.t24, hI.t25, hI.bw, hI.ne⟩⟩
            · rintro L a wx ⟨v, rfl, hI⟩ hL hdep hcl K hK
              have e15 := hI.t15 (hdep 15 (by decide))
              have e21 := hI.t21 (hdep 21 (by decide))
              rw [e15, e21]
              go_simp
              exact hK _ _ ⟨(upd (upd (upd v 86 (.slice (some ⟨gq, 0, none⟩) N1 cv)) 92 (.int .i64 (r1 : Int))) 93 (.pointer (some ⟨gq, r1 * 33, none⟩))), rfl, ⟨hI.t0, hI.t1, hI.t2, hI.t3, hI.t4, hI.t5, hI.t6, hI.t7, hI.t8, hI.t9, hI.t10, hI.t11, hI.t12, hI.t13, hI.t14, fun _ => rfl, hI.t16, hI.t17, hI.t18, hI.t19, hI.t20, fun _ => rfl, fun _ => rfl, hI.t23, hI.t24, hI.t25, hI.bw, hI.ne⟩⟩
            · rintro L a wx ⟨v, rfl, hI⟩ hL hdep hcl K hK
              have e22 := hI.t22 (hdep 22 (by decide))
              rw [e22]
              refine wp_load_mid 63 _ rfl gq (r1 * 33) rfl (encP b) _ (RB6.out wx hI.bw) Try.underlying63 rfl hsB.out ?_
              exact hK _ _ ⟨(upd (upd v 93 (.pointer (some ⟨gq, r1 * 33, none⟩))) 94 (.agg (encP b).toArray)), rfl, ⟨hI.t0, hI.t1, hI.t2, hI.t3, hI.t4, hI.t5, hI.t6, hI.t7, hI.t8, hI.t9, hI.t10, hI.t11, hI.t12, hI.t13, hI.t14, hI.t15, hI.t16, hI.t17, hI.t18, hI.t19, hI.t20, hI.t21, fun _ => rfl, fun _ => rfl, hI.t24, hI.t25, hI.bw, hI.ne⟩⟩
            · rintro L a wx ⟨v, rfl, hI⟩ hL hdep hcl K hK
              have h26 : L 26 = false := by
                cases h6 : L 26 with
                | true =>
                  have h4 := hcl 26 (by decide) h6 24 (by decide)
                  rw [hL] at h4
                  cases h4
                | false => rfl
              refine ow_alloc 63 rfl Zp 33 infoPa ?_
              intro w' hN hb hs
              exact hK _ _ ⟨(upd v 7 (_)), rfl, ⟨hI.t0, hI.t1, hI.t2, hI.t3, hI.t4, hI.t5, hI.t6, hI.t7, hI.t8, hI.t9, hI.t10, hI.t11, hI.t12, hI.t13, hI.t14, hI.t15, hI.t16, hI.t17, hI.t18, hI.t19, hI.t20, hI.t21, hI.t22, hI.t23, (fun _ => ⟨_, rfl, by show Arr _ _ _ (if L 26 then _ else _); rw [h26]; exact hN, hI.bw.size⟩), fun h => by obtain ⟨g, e, h1, h2⟩ := hI.t25 h; exact ⟨g, e, h1.kept hb, h2⟩, (hI.bw).trans (hb.mono (hI.bw).size), (fun h24 h25 => by obtain ⟨g', e', hA', _⟩ := hI.t25 h25; show Value.pointer (some ⟨wx.heap.size, 0, none⟩) ≠ v 8; rw [e']; intro e; injection e with e; injection e with e; injection e with e; have := hA'.lt; omega)⟩⟩
            · rintro L a wx ⟨v, rfl, hI⟩ hL hdep hcl K hK
              have h26 : L 27 = false := by
                cases h6 : L 27 with
                | true =>
                  have h4 := hcl 27 (by decide) h6 25 (by decide)
                  rw [hL] at h4
                  cases h4
                | false => rfl
              refine ow_alloc 63 rfl Zp 33 infoPa ?_
              intro w' hN hb hs
              exact hK _ _ ⟨(upd v 8 (_)), rfl, ⟨hI.t0, hI.t1, hI.t2, hI.t3, hI.t4, hI.t5, hI.t6, hI.t7, hI.t8, hI.t9, hI.t10, hI.t11, hI.t12, hI.t13, hI.t14, hI.t15, hI.t16, hI.t17, hI.t18, hI.t19, hI.t20, hI.t21, hI.t22, hI.t23, fun h => by obtain ⟨g, e, h1, h2⟩ := hI.t24 h; exact ⟨g, e, h1.kept hb, h2⟩, (fun _ => ⟨_, rfl, by show Arr _ _ _ (if L 27 then _ else _); rw [h26]; exact hN, hI.bw.size⟩), (hI.bw).trans (hb.mono (hI.bw).size), (fun h24 h25 => by obtain ⟨g', e', hA', _⟩ := hI.t24 h24; show v 7 ≠ Value.pointer (some ⟨wx.heap.size, 0, none⟩); rw [e']; intro e; injection e with e; injection e with e; injection e with e; have := hA'.lt; omega)⟩⟩
            · rintro L a wx ⟨v, rfl, hI⟩ hL hdep hcl K hK
              have e11 := hI.t11 (hdep 11 (by decide))
              rw [e11]
              obtain ⟨g, e7, hN, hg⟩ := hI.t24 (hdep 24 (by decide))
              rw [hL] at hN
              refine ow_store 63 _ _ rfl g 0 e7 (encP A) rfl 63 _ hN hsA.out (by show 0 + (encP A).length ≤ Zp.length; rw [LA.out, lzp.out]; omega) (encP_one _) ?_
              intro w' hN' hg' hs
              have hw : List.take 0 Zp ++ encP A ++ List.drop (0 + (encP A).length) Zp = encP A := whole_store _ _ (by rw [lzp.out, LA.out])
              replace hN' := hw ▸ hN'
              exact hK _ _ ⟨(upd v 82 (.agg (encP A).toArray)), rfl, ⟨hI.t0, hI.t1, hI.t2, hI.t3, hI.t4, hI.t5, hI.t6, hI.t7, hI.t8, hI.t9, hI.t10, fun _ => rfl, hI.t12, hI.t13, hI.t14, hI.t15, hI.t16, hI.t17, hI.t18, hI.t19, hI.t20, hI.t21, hI.t22, hI.t23, (fun _ => ⟨g, e7, hN', hg⟩), (fun h25 => by obtain ⟨g', e', hA', h2⟩ := hI.t25 h25; exact ⟨g', e', hA'.grown hg' (by intro e; injection e with e; exact hI.ne (hdep 24 (by decide)) h25 (by rw [e7, e', e])), h2⟩), hI.bw.grown hg' hI.bw.size (by intro k e; injection e with e; omega), hI.ne⟩⟩
            · rintro L a wx ⟨v, rfl, hI⟩ hL hdep hcl K hK
              have e23 := hI.t23 (hdep 23 (by decide))
              rw [e23]
              obtain ⟨g, e7, hN, hg⟩ := hI.t25 (hdep 25 (by decide))
              rw [hL] at hN
              refine ow_store 63 _ _ rfl g 0 e7 (encP b) rfl 63 _ hN hsB.out (by show 0 + (encP b).length ≤ Zp.length; rw [LB.out, lzp.out]; omega) (encP_one _) ?_
              intro w' hN' hg' hs
              have hw : List.take 0 Zp ++ encP b ++ List.drop (0 + (encP b).length) Zp = encP b := whole_store _ _ (by rw [lzp.out, LB.out])
              replace hN' := hw ▸ hN'
              exact hK _ _ ⟨(upd v 94 (.agg (encP b).toArray)), rfl, ⟨hI.t0, hI.t1, hI.t2, hI.t3, hI.t4, hI.t5, hI.t6, hI.t7, hI.t8, hI.t9, hI.t10, hI.t11, hI.t12, hI.t13, hI.t14, hI.t15, hI.t16, hI.t17, hI.t18, hI.t19, hI.t20, hI.t21, hI.t22, fun _ => rfl, (fun h25 => by obtain ⟨g', e', hA', h2⟩ := hI.t24 h25; exact ⟨g', e', hA'.grown hg' (by intro e; injection e with e; exact hI.ne h25 (hdep 25 (by decide)) (by rw [e', e7, e])), h2⟩), (fun _ => ⟨g, e7, hN', hg⟩), hI.bw.grown hg' hI.bw.size (by intro k e; injection e with e; omega), hI.ne⟩⟩
            · rintro a wx ⟨vG, rfl, hI⟩
              obtain ⟨g7, e7, hA7, hg7⟩ := hI.t24 rfl
              obtain ⟨g8, e8, hA8, hg8⟩ := hI.t25 rfl
              have hbw := hI.bw
              rw [if_pos rfl] at hA7 hA8
              rw [e7, e8]
              have hn22 : nb ≤ 2 ^ 22 := by
                have h1 := K3.out
                have h2 := K5.out
                rw [HNB.out, h1]
                exact Nat.pow_le_pow_right (by omega) (by omega)
              have HWS : Hid (IntKind.u64.wrap ((na : Int) + (nb : Int)) = ((na + nb : Nat) : Int)) := by show _ = _; have := HAB.out; rw [IntKind.wrap_u64]; omega
              have hND := Lib.hid (fun wx => rNode_any A.2 b.2 wx HA2L.out HB2L.out)
              have hYl : (nodeH A.2 b.2).length = 32 := shaL_len _
              obtain ⟨Y, hY⟩ : ∃ Y, Y = nodeH A.2 b.2 := ⟨_, rfl⟩
              rw [← hY] at hND hYl
              have HY := Lib.hid hY
              have HYL := Lib.hid hYl
              have I2A : Hid ((Try.prog.info? 29).map (·.size) = some (bvs A.2).length) := by show _ = _; rw [bvs_len, HA2L.out]; exact sizeD
              have I2B : Hid ((Try.prog.info? 29).map (·.size) = some (bvs b.2).length) := by show _ = _; rw [bvs_len, HB2L.out]; exact sizeD
              have IY : Hid ((Try.prog.info? 29).map (·.size) = some (bvs Y).length) := by show _ = _; rw [bvs_len, hYl]; exact sizeD
              have LS : Hid ((encP (na + nb, Y)).length = 33) := encP_len hYl
              have hsS : Hid ((Try.prog.info? 63).map (·.size) = some (encP (na + nb, Y)).length) := by show _ = _; rw [LS.out]; exact sizeP
              obtain ⟨W7, hW7⟩ : ∃ W, W = wx := ⟨_, rfl⟩
              rw [← hW7] at hA7 hA8 hbw ⊢
              have C7 : Hid (∀ wx, Below W7.heap.size W7 wx → wx.cell? ⟨g7, 0, none⟩ = some (.int .u64 (na : Int))) := fun wx hb => by rw [(hA7.kept hb).cell, HNA.out]; rfl
              have C8 : Hid (∀ wx, Below W7.heap.size W7 wx → wx.cell? ⟨g8, 0, none⟩ = some (.int .u64 (nb : Int))) := fun wx hb => by rw [(hA8.kept hb).cell, HNB.out]; rfl
              have HA7 := Lib.hid hA7
              have HA8 := Lib.hid hA8
              clear hW7 hY hYl hn22 hA7 hA8 hI
              go_upto_region 8 with fail
              refine wp_region_steps [[], [0], [], [2], [1, 3], [], [5], [], [7], [6, 8], [4, 9], [], [11, 10, 0, 1, 2, 3, 4, 5, 6, 7, 8, 9]] (by kernel_rfl) (by kernel_rfl) (fun L a wx => ∃ v : Nat → Value, a = ⟨#[.pointer (some ⟨p, 0, none⟩), .agg (bvs d).toArray, undef, .pointer (some ⟨g3, 0, none⟩), .slice none 0 0, .int .i64 0, u6, .pointer (some ⟨g7, 0, none⟩), .pointer (some ⟨g8, 0, none⟩), v 9, u10, .pointer (some ⟨p, 0, none⟩), .pointer (some ⟨p, 0, none⟩), .pointer (some ⟨p, 0, none⟩), .int .u64 ↑n, .bool false, .pointer (some ⟨p, 0, none⟩), .pointer (some ⟨p, 0, none⟩), .pointer (some ⟨p, 0, none⟩), .int .u64 ↑n, .int .u64 (↑n + 1), .pointer (some ⟨p, 0, none⟩), .pointer (some ⟨p, 0, none⟩), v23, v24, v25, v26, v27, v28, v29, v30, .slice (some ⟨gq0, 0, none⟩) ((partsF n P).length + 1) c2, v32, v33, .agg (bvs d).toArray, .slice (some ⟨W1.heap.size, 0, none⟩) 1 1, vF 36, vF 37, vF 38, vF 39, vF 40, vF 41, vF 42, vF 43, vF 44, vF 45, vF 46, vF 47, vF 48, vF 49, vF 50, vF 51, vF 52, vF 53, vF 54, vF 55, vF 56, vF 57, vF 58, vF 59, vF 60, vF 61, vF 62, vF 63, vF 64, vF 65, vF 66, vF 67, vF 68, vF 69, .bool true, vG 71, vG 72, vG 73, vG 74, vG 75, vG 76, vG 77, vG 78, vG 79, vG 80, vG 81, vG 82, vG 83, vG 84, vG 85, vG 86, vG 87, vG 88, vG 89, vG 90, vG 91, vG 92, vG 93, vG 94, v 95, v 96, v 97, v 98, v 99, v 100, v 101, v 102, v 103, v 104, v 105, u106, u107, u108, u109, u110, u111, u112, u113, u114, u115, u116, u117, u118, u119, u120, u121, u122, u123, u124, u125, u126, u127, u128, u129, u130, undef], []⟩ ∧ InvWAddH A b Y p gq N1 cv r1 r2 na nb g7 g8 u6 u9 u10 u95 u96 u97 u98 u99 u100 u101 u102 u103 u104 u105 u106 u107 u108 u109 u110 u111 u112 u113 u114 u115 u116 u117 u118 u119 u120 u121 u122 u123 u124 u125 u126 u127 u128 u129 u130 W7 L v wx) ?_ ⟨?_, ?_, ?_, ?_, ?_, ?_, ?_, ?_, ?_, ?_, ?_, ?_, ?_, trivial⟩ ?_
              · refine ⟨upd (upd (upd (upd (upd (upd (upd (upd (upd (upd (upd (upd (fun _ => undef) 95 (u95)) 96 (u96)) 97 (u97)) 98 (u98)) 99 (u99)) 100 (u100)) 101 (u101)) 102 (u102)) 103 (u103)) 104 (u104)) 105 (u105)) 9 (u9), rfl, ⟨?_, ?_, ?_, ?_, ?_, ?_, ?_, ?_, ?_, ?_, ?_, ?_, (Below.refl _ _).drew⟩⟩ <;> (intro h; exact absurd h (by decide))
              · rintro L a wx ⟨v, rfl, hI⟩ hL hdep hcl K hK
                go_simp
                exact hK _ _ ⟨(upd v 95 (.pointer (some ⟨g7, 0, none⟩))), rfl, ⟨fun _ => rfl, hI.t1, hI.t2, hI.t3, hI.t4, hI.t5, hI.t6, hI.t7, hI.t8, hI.t9, hI.t10, hI.t11, hI.bw⟩⟩
              · rintro L a wx ⟨v, rfl, hI⟩ hL hdep hcl K hK
                have e0 := hI.t0 (hdep 0 (by decide))
                rw [e0]
                have cc := C7.out wx hI.bw
                go_simp
                exact hK _ _ ⟨(upd (upd v 95 (.pointer (some ⟨g7, 0, none⟩))) 96 (.int .u64 (na : Int))), rfl, ⟨fun _ => rfl, fun _ => rfl, hI.t2, hI.t3, hI.t4, hI.t5, hI.t6, hI.t7, hI.t8, hI.t9, hI.t10, hI.t11, hI.bw⟩⟩
              · rintro L a wx ⟨v, rfl, hI⟩ hL hdep hcl K hK
                go_simp
                exact hK _ _ ⟨(upd v 97 (.pointer (some ⟨g8, 0, none⟩))), rfl, ⟨hI.t0, hI.t1, fun _ => rfl, hI.t3, hI.t4, hI.t5, hI.t6, hI.t7, hI.t8, hI.t9, hI.t10, hI.t11, hI.bw⟩⟩
              · rintro L a wx ⟨v, rfl, hI⟩ hL hdep hcl K hK
                have e2 := hI.t2 (hdep 2 (by decide))
                rw [e2]
                have cc := C8.out wx hI.bw
                go_simp
                exact hK _ _ ⟨(upd (upd v 97 (.pointer (some ⟨g8, 0, none⟩))) 98 (.int .u64 (nb : Int))), rfl, ⟨hI.t0, hI.t1, fun _ => rfl, fun _ => rfl, hI.t4, hI.t5, hI.t6, hI.t7, hI.t8, hI.t9, hI.t10, hI.t11, hI.bw⟩⟩
              · rintro L a wx ⟨v, rfl, hI⟩ hL hdep hcl K hK
                have e1 := hI.t1 (hdep 1 (by decide))
                have e3 := hI.t3 (hdep 3 (by decide))
                rw [e1, e3]
                go_simp
                rw [HWS.out]
                exact hK _ _ ⟨(upd (upd (upd v 96 (.int .u64 (na : Int))) 98 (.int .u64 (nb : Int))) 99 (.int .u64 ((na + nb : Nat) : Int))), rfl, ⟨hI.t0, fun _ => rfl, hI.t2, fun _ => rfl, fun _ => rfl, hI.t5, hI.t6, hI.t7, hI.t8, hI.t9, hI.t10, hI.t11, hI.bw⟩⟩
              · rintro L a wx ⟨v, rfl, hI⟩ hL hdep hcl K hK
                go_simp
                exact hK _ _ ⟨(upd v 100 (.pointer (some ⟨g7, 1, none⟩))), rfl, ⟨hI.t0, hI.t1, hI.t2, hI.t3, hI.t4, fun _ => rfl, hI.t6, hI.t7, hI.t8, hI.t9, hI.t10, hI.t11, hI.bw⟩⟩
              · rintro L a wx ⟨v, rfl, hI⟩ hL hdep hcl K hK
                have e5 := hI.t5 (hdep 5 (by decide))
                rw [e5]
                refine ow_load 29 _ rfl g7 1 rfl 63 (encP A) (bvs A.2) (HA7.out.kept hI.bw) (fun j v h => by rw [Nat.add_comm]; simpa [encP] using h) (.array 32 5) Try.underlying29 rfl I2A.out ?_
                exact hK _ _ ⟨(upd (upd v 100 (.pointer (some ⟨g7, 1, none⟩))) 101 (.agg (bvs A.2).toArray)), rfl, ⟨hI.t0, hI.t1, hI.t2, hI.t3, hI.t4, fun _ => rfl, fun _ => rfl, hI.t7, hI.t8, hI.t9, hI.t10, hI.t11, hI.bw⟩⟩
              · rintro L a wx ⟨v, rfl, hI⟩ hL hdep hcl K hK
                go_simp
                exact hK _ _ ⟨(upd v 102 (.pointer (some ⟨g8, 1, none⟩))), rfl, ⟨hI.t0, hI.t1, hI.t2, hI.t3, hI.t4, hI.t5, hI.t6, fun _ => rfl, hI.t8, hI.t9, hI.t10, hI.t11, hI.bw⟩⟩
              · rintro L a wx ⟨v, rfl, hI⟩ hL hdep hcl K hK
                have e7 := hI.t7 (hdep 7 (by decide))
                rw [e7]
                refine ow_load 29 _ rfl g8 1 rfl 63 (encP b) (bvs b.2) (HA8.out.kept hI.bw) (fun j v h => by rw [Nat.add_comm]; simpa [encP] using h) (.array 32 5) Try.underlying29 rfl I2B.out ?_
                exact hK _ _ ⟨(upd (upd v 102 (.pointer (some ⟨g8, 1, none⟩))) 103 (.agg (bvs b.2).toArray)), rfl, ⟨hI.t0, hI.t1, hI.t2, hI.t3, hI.t4, hI.t5, hI.t6, fun _ => rfl, fun _ => rfl, hI.t9, hI.t10, hI.t11, hI.bw⟩⟩
              · rintro L a wx ⟨v, rfl, hI⟩ hL hdep hcl K hK
                have e6 := hI.t6 (hdep 6 (by decide))
                have e8 := hI.t8 (hdep 8 (by decide))
                rw [e6, e8]
                have HC := hND.out wx
                go_simp
                refine HC.mono ?_
                rintro e w' ⟨rfl, hb⟩
                exact hK _ _ ⟨(upd (upd (upd v 101 (.agg (bvs A.2).toArray)) 103 (.agg (bvs b.2).toArray)) 104 (.agg (bvs Y).toArray)), rfl, ⟨hI.t0, hI.t1, hI.t2, hI.t3, hI.t4, hI.t5, fun _ => rfl, hI.t7, fun _ => rfl, fun _ => rfl, hI.t10, fun h => by obtain ⟨g, e, h1, h2⟩ := hI.t11 h; exact ⟨g, e, h1.kept hb, h2⟩, (hI.bw).trans (hb.mono (hI.bw).size)⟩⟩
              · rintro L a wx ⟨v, rfl, hI⟩ hL hdep hcl K hK
                have e4 := hI.t4 (hdep 4 (by decide))
                have e9 := hI.t9 (hdep 9 (by decide))
                rw [e4, e9]
                refine ow_build 63 _ rfl (encP (na + nb, Y)).toArray (by simpa [Act.eval, encP] using built_part ((na + nb : Nat) : Int) Y HYL.out) ?_
                exact hK _ _ ⟨(upd (upd (upd v 99 (.int .u64 ((na + nb : Nat) : Int))) 104 (.agg (bvs Y).toArray)) 105 (.agg (encP (na + nb, Y)).toArray)), rfl, ⟨hI.t0, hI.t1, hI.t2, hI.t3, fun _ => rfl, hI.t5, hI.t6, hI.t7, hI.t8, fun _ => rfl, fun _ => rfl, hI.t11, hI.bw⟩⟩
              · rintro L a wx ⟨v, rfl, hI⟩ hL hdep hcl K hK
                have h26 : L 12 = false := by
                  cases h6 : L 12 with
                  | true =>
                    have h4 := hcl 12 (by decide) h6 11 (by decide)
                    rw [hL] at h4
                    cases h4
                  | false => rfl
                refine ow_alloc 63 rfl Zp 33 infoPa ?_
                intro w' hN hb hs
                exact hK _ _ ⟨(upd v 9 (_)), rfl, ⟨hI.t0, hI.t1, hI.t2, hI.t3, hI.t4, hI.t5, hI.t6, hI.t7, hI.t8, hI.t9, hI.t10, (fun _ => ⟨_, rfl, by show Arr _ _ _ (if L 12 then _ else _); rw [h26]; exact hN, hI.bw.size⟩), (hI.bw).trans (hb.mono (hI.bw).size)⟩⟩
              · rintro L a wx ⟨v, rfl, hI⟩ hL hdep hcl K hK
                have e10 := hI.t10 (hdep 10 (by decide))
                have e0 := hI.t0 (hdep 0 (by decide))
                have e1 := hI.t1 (hdep 1 (by decide))
                have e2 := hI.t2 (hdep 2 (by decide))
                have e3 := hI.t3 (hdep 3 (by decide))
                have e4 := hI.t4 (hdep 4 (by decide))
                have e5 := hI.t5 (hdep 5 (by decide))
                have e6 := hI.t6 (hdep 6 (by decide))
                have e7 := hI.t7 (hdep 7 (by decide))
                have e8 := hI.t8 (hdep 8 (by decide))
                have e9 := hI.t9 (hdep 9 (by decide))
                rw [e10, e0, e1, e2, e3, e4, e5, e6, e7, e8, e9]
                obtain ⟨g, e7, hN, hg⟩ := hI.t11 (hdep 11 (by decide))
                rw [hL] at hN
                refine ow_store 63 _ _ rfl g 0 e7 (encP (na + nb, Y)) rfl 63 _ hN hsS.out (by show 0 + (encP (na + nb, Y)).length ≤ Zp.length; rw [LS.out, lzp.out]; omega) (encP_one _) ?_
                intro w' hN' hg' hs
                have hw : List.take 0 Zp ++ encP (na + nb, Y) ++ List.drop (0 + (encP (na + nb, Y)).length) Zp = encP (na + nb, Y) := whole_store _ _ (by rw [lzp.out, LS.out])
                replace hN' := hw ▸ hN'
                exact hK _ _ ⟨(upd (upd (upd (upd (upd (upd (upd (upd (upd (upd (upd v 105 (.agg (encP (na + nb, Y)).toArray)) 95 (.pointer (some ⟨g7, 0, none⟩))) 96 (.int .u64 (na : Int))) 97 (.pointer (some ⟨g8, 0, none⟩))) 98 (.int .u64 (nb : Int))) 99 (.int .u64 ((na + nb : Nat) : Int))) 100 (.pointer (some ⟨g7, 1, none⟩))) 101 (.agg (bvs A.2).toArray)) 102 (.pointer (some ⟨g8, 1, none⟩))) 103 (.agg (bvs b.2).toArray)) 104 (.agg (bvs Y).toArray)), rfl, ⟨fun _ => rfl, fun _ => rfl, fun _ => rfl, fun _ => rfl, fun _ => rfl, fun _ => rfl, fun _ => rfl, fun _ => rfl, fun _ => rfl, fun _ => rfl, fun _ => rfl, (fun _ => ⟨g, e7, hN', hg⟩), hI.bw.grown hg' hI.bw.size (by intro k e; injection e with e; omega)⟩⟩
              · rintro a wx ⟨vH, rfl, hI⟩
                obtain ⟨g9, e9, hA9, hg9'⟩ := hI.t11 rfl
                have hbw8 := hI.bw
                rw [if_pos rfl] at hA9
                rw [e9]
                clear hI
                obtain ⟨W8, hW8⟩ : ∃ W, W = wx := ⟨_, rfl⟩
                rw [← hW8] at hA9 hbw8 ⊢
                have hb68 : Below W6.heap.size W6 W8 := hbw.trans (hbw8.mono hbw.size)
                have HA9 := Lib.hid hA9
                have HG9 : Hid (g9 < W8.heap.size) := hA9.lt
                clear hW8 hA9
                have hRt : Hid (∀ wx, Below W8.heap.size W8 wx → RdG 33 encP wx (some ⟨gq, 0, none⟩) r2 cv (rest.reverse)) := fun wx hb => by
                  have h1 := ((hR6.to hb68).to hb).take r2 (by omega)
                  have e : ((A :: rest).reverse ++ [b]).take r2 = rest.reverse := by
                    rw [show (A :: rest).reverse ++ [b] = rest.reverse ++ [A, b] by simp]
                    rw [HR2.out, List.take_left' (by simp)]
                  rwa [e] at h1
                have hCut := fun w => run_cutN gq N1 cv r2 (by omega) HLE6.out (by omega) w
                have HCUT := Lib.hid hCut
                have HRL2 : Hid (r2 ≤ 30) := by show _ ≤ _; omega
                clear hCut
                go_upto_region 10 with fail
                refine wp_region_steps [[], [], [1], [2], [3], [], [5], [6], [7], [8], [9], [4, 10], [0, 11], [12, 0]] (by kernel_rfl) (by kernel_rfl) (fun L a wx => ∃ v : Nat → Value, a = ⟨#[.pointer (some ⟨p, 0, none⟩), .agg (bvs d).toArray, undef, .pointer (some ⟨g3, 0, none⟩), .slice none 0 0, .int .i64 0, u6, .pointer (some ⟨g7, 0, none⟩), .pointer (some ⟨g8, 0, none⟩), .pointer (some ⟨g9, 0, none⟩), v 10, .pointer (some ⟨p, 0, none⟩), .pointer (some ⟨p, 0, none⟩), .pointer (some ⟨p, 0, none⟩), .int .u64 ↑n, .bool false, .pointer (some ⟨p, 0, none⟩), .pointer (some ⟨p, 0, none⟩), .pointer (some ⟨p, 0, none⟩), .int .u64 ↑n, .int .u64 (↑n + 1), .pointer (some ⟨p, 0, none⟩), .pointer (some ⟨p, 0, none⟩), v23, v24, v25, v26, v27, v28, v29, v30, .slice (some ⟨gq0, 0, none⟩) ((partsF n P).length + 1) c2, v32, v33, .agg (bvs d).toArray, .slice (some ⟨W1.heap.size, 0, none⟩) 1 1, vF 36, vF 37, vF 38, vF 39, vF 40, vF 41, vF 42, vF 43, vF 44, vF 45, vF 46, vF 47, vF 48, vF 49, vF 50, vF 51, vF 52, vF 53, vF 54, vF 55, vF 56, vF 57, vF 58, vF 59, vF 60, vF 61, vF 62, vF 63, vF 64, vF 65, vF 66, vF 67, vF 68, vF 69, .bool true, vG 71, vG 72, vG 73, vG 74, vG 75, vG 76, vG 77, vG 78, vG 79, vG 80, vG 81, vG 82, vG 83, vG 84, vG 85, vG 86, vG 87, vG 88, vG 89, vG 90, vG 91, vG 92, vG 93, vG 94, vH 95, vH 96, vH 97, vH 98, vH 99, vH 100, vH 101, vH 102, vH 103, vH 104, vH 105, v 106, v 107, v 108, v 109, v 110, v 111, v 112, v 113, v 114, v 115, v 116, v 117, v 118, u119, u120, u121, u122, u123, u124, u125, u126, u127, u128, u129, u130, undef], []⟩ ∧ InvWAddI rest p gq N1 cv r2 u6 u106 u107 u108 u109 u110 u111 u112 u113 u114 u115 u116 u117 u118 u119 u120 u121 u122 u123 u124 u125 u126 u127 u128 u129 u130 W8 L v wx) ?_ ⟨?_, ?_, ?_, ?_, ?_, ?_, ?_, ?_, ?_, ?_, ?_, ?_, ?_, ?_, trivial⟩ ?_
                · refine ⟨upd (upd (upd (upd (upd (upd (upd (upd (upd (upd (upd (upd (upd (upd (fun _ => undef) 106 (u106)) 107 (u107)) 108 (u108)) 109 (u109)) 110 (u110)) 111 (u111)) 112 (u112)) 113 (u113)) 114 (u114)) 115 (u115)) 116 (u116)) 117 (u117)) 118 (u118)) 10 (.slice none 0 0), rfl, ⟨?_, ?_, ?_, ?_, ?_, ?_, ?_, ?_, ?_, ?_, ?_, ?_, ?_, ?_, (Below.refl _ _).drew, (fun _ => rfl)⟩⟩ <;> (intro h; exact absurd h (by decide))
                · rintro L a wx ⟨v, rfl, hI⟩ hL hdep hcl K hK
                  have h13 : L 13 = false := by
                    cases h6 : L 13 with
                    | true =>
                      have h4 := hcl 13 (by decide) h6 0 (by decide)
                      rw [hL] at h4
                      cases h4
                    | false => rfl
                  go_simp
                  exact hK _ _ ⟨(upd v 106 (_)), rfl, ⟨fun _ => hI.i10 h13, hI.t1, hI.t2, hI.t3, hI.t4, hI.t5, hI.t6, hI.t7, hI.t8, hI.t9, hI.t10, hI.t11, hI.t12, hI.t13, hI.bw, hI.i10⟩⟩
                · rintro L a wx ⟨v, rfl, hI⟩ hL hdep hcl K hK
                  go_simp
                  exact hK _ _ ⟨(upd v 107 (.pointer (some ⟨p, 0, none⟩))), rfl, ⟨hI.t0, fun _ => rfl, hI.t2, hI.t3, hI.t4, hI.t5, hI.t6, hI.t7, hI.t8, hI.t9, hI.t10, hI.t11, hI.t12, hI.t13, hI.bw, hI.i10⟩⟩
                · rintro L a wx ⟨v, rfl, hI⟩ hL hdep hcl K hK
                  have e1 := hI.t1 (hdep 1 (by decide))
                  rw [e1]
                  go_simp
                  exact hK _ _ ⟨(upd (upd v 107 (.pointer (some ⟨p, 0, none⟩))) 108 (.pointer (some ⟨p, 0, none⟩))), rfl, ⟨hI.t0, fun _ => rfl, fun _ => rfl, hI.t3, hI.t4, hI.t5, hI.t6, hI.t7, hI.t8, hI.t9, hI.t10, hI.t11, hI.t12, hI.t13, hI.bw, hI.i10⟩⟩
                · rintro L a wx ⟨v, rfl, hI⟩ hL hdep hcl K hK
                  have e2 := hI.t2 (hdep 2 (by decide))
                  rw [e2]
                  go_simp
                  exact hK _ _ ⟨(upd (upd v 108 (.pointer (some ⟨p, 0, none⟩))) 109 (.pointer (some ⟨p, 1, none⟩))), rfl, ⟨hI.t0, hI.t1, fun _ => rfl, fun _ => rfl, hI.t4, hI.t5, hI.t6, hI.t7, hI.t8, hI.t9, hI.t10, hI.t11, hI.t12, hI.t13, hI.bw, hI.i10⟩⟩
                · rintro L a wx ⟨v, rfl, hI⟩ hL hdep hcl K hK
                  have e3 := hI.t3 (hdep 3 (by decide))
                  rw [e3]
                  have cc := CP6.out wx (hb68.trans (hI.bw.mono hb68.size))
                  go_simp
                  exact hK _ _ ⟨(upd (upd v 109 (.pointer (some ⟨p, 1, none⟩))) 110 (.slice (some ⟨gq, 0, none⟩) N1 cv)), rfl, ⟨hI.t0, hI.t1, hI.t2, fun _ => rfl, fun _ => rfl, hI.t5, hI.t6, hI.t7, hI.t8, hI.t9, hI.t10, hI.t11, hI.t12, hI.t13, hI.bw, hI.i10⟩⟩
                · rintro L a wx ⟨v, rfl, hI⟩ hL hdep hcl K hK
                  go_simp
                  exact hK _ _ ⟨(upd v 111 (.pointer (some ⟨p, 0, none⟩))), rfl, ⟨hI.t0, hI.t1, hI.t2, hI.t3, hI.t4, fun _ => rfl, hI.t6, hI.t7, hI.t8, hI.t9, hI.t10, hI.t11, hI.t12, hI.t13, hI.bw, hI.i10⟩⟩
                · rintro L a wx ⟨v, rfl, hI⟩ hL hdep hcl K hK
                  have e5 := hI.t5 (hdep 5 (by decide))
                  rw [e5]
                  go_simp
                  exact hK _ _ ⟨(upd (upd v 111 (.pointer (some ⟨p, 0, none⟩))) 112 (.pointer (some ⟨p, 0, none⟩))), rfl, ⟨hI.t0, hI.t1, hI.t2, hI.t3, hI.t4, fun _ => rfl, fun _ => rfl, hI.t7, hI.t8, hI.t9, hI.t10, hI.t11, hI.t12, hI.t13, hI.bw, hI.i10⟩⟩
                · rintro L a wx ⟨v, rfl, hI⟩ hL hdep hcl K hK
                  have e6 := hI.t6 (hdep 6 (by decide))
                  rw [e6]
                  go_simp
                  exact hK _ _ ⟨(upd (upd v 112 (.pointer (some ⟨p, 0, none⟩))) 113 (.pointer (some ⟨p, 1, none⟩))), rfl, ⟨hI.t0, hI.t1, hI.t2, hI.t3, hI.t4, hI.t5, fun _ => rfl, fun _ => rfl, hI.t8, hI.t9, hI.t10, hI.t11, hI.t12, hI.t13, hI.bw, hI.i10⟩⟩
                · rintro L a wx ⟨v, rfl, hI⟩ hL hdep hcl K hK
                  have e7 := hI.t7 (hdep 7 (by decide))
                  rw [e7]
                  have cc := CP6.out wx (hb68.trans (hI.bw.mono hb68.size))
                  go_simp
                  exact hK _ _ ⟨(upd (upd v 113 (.pointer (some ⟨p, 1, none⟩))) 114 (.slice (some ⟨gq, 0, none⟩) N1 cv)), rfl, ⟨hI.t0, hI.t1, hI.t2, hI.t3, hI.t4, hI.t5, hI.t6, fun _ => rfl, fun _ => rfl, hI.t9, hI.t10, hI.t11, hI.t12, hI.t13, hI.bw, hI.i10⟩⟩
                · rintro L a wx ⟨v, rfl, hI⟩ hL hdep hcl K hK
                  have e8 := hI.t8 (hdep 8 (by decide))
                  rw [e8]
                  go_simp
                  exact hK _ _ ⟨(upd (upd v 114 (.slice (some ⟨gq, 0, none⟩) N1 cv)) 115 (.int .i64 (N1 : Int))), rfl, ⟨hI.t0, hI.t1, hI.t2, hI.t3, hI.t4, hI.t5, hI.t6, hI.t7, fun _ => rfl, fun _ => rfl, hI.t10, hI.t11, hI.t12, hI.t13, hI.bw, hI.i10⟩⟩
                · rintro L a wx ⟨v, rfl, hI⟩ hL hdep hcl K hK
                  have e9 := hI.t9 (hdep 9 (by decide))
                  rw [e9]
                  go_simp
                  rw [HS2.out, HW2.out]
                  exact hK _ _ ⟨(upd (upd v 115 (.int .i64 (N1 : Int))) 116 (.int .i64 (r2 : Int))), rfl, ⟨hI.t0, hI.t1, hI.t2, hI.t3, hI.t4, hI.t5, hI.t6, hI.t7, hI.t8, fun _ => rfl, fun _ => rfl, hI.t11, hI.t12, hI.t13, hI.bw, hI.i10⟩⟩
                · rintro L a wx ⟨v, rfl, hI⟩ hL hdep hcl K hK
                  have e4 := hI.t4 (hdep 4 (by decide))
                  have e10 := hI.t10 (hdep 10 (by decide))
                  rw [e4, e10]
                  refine ow_cutN gq N1 cv r2 HCUT.out _ _ rfl rfl rfl ?_
                  exact hK _ _ ⟨(upd (upd (upd v 110 (.slice (some ⟨gq, 0, none⟩) N1 cv)) 116 (.int .i64 (r2 : Int))) 117 (.slice (some ⟨gq, 0, none⟩) r2 cv)), rfl, ⟨hI.t0, hI.t1, hI.t2, hI.t3, fun _ => rfl, hI.t5, hI.t6, hI.t7, hI.t8, hI.t9, fun _ => rfl, fun _ => rfl, hI.t12, hI.t13, hI.bw, hI.i10⟩⟩
                · rintro L a wx ⟨v, rfl, hI⟩ hL hdep hcl K hK
                  have e11 := hI.t11 (hdep 11 (by decide))
                  rw [e11]
                  have e0 := hI.t0 (hdep 0 (by decide))
                  refine ow_of_wl rfl ?_
                  refine wl_rowG infoPt rfl (.tmp 106) (.tmp 117) rfl W8.heap.size (.slice none 0 0) [] e0 (OwnG.nil _ _) (some ⟨gq, 0, none⟩) r2 cv rest.reverse rfl (hRt.out wx hI.bw) (fun x _ => encP_one x) (by have := HRL2.out; simp; unfold maxLen; omega) (by have := HRL2.out; simp; omega) hI.bw.size ?_
                  intro u w' hO hg hbb
                  show K _ _
                  have hb : Below wx.heap.size wx w' := (Below.refl _ _).grown hg (Nat.le_refl _) (by intro k e; cases e)
                  exact hK _ _ ⟨(upd (upd v 117 (.slice (some ⟨gq, 0, none⟩) r2 cv)) 118 (_)), rfl, ⟨hI.t0, hI.t1, hI.t2, hI.t3, hI.t4, hI.t5, hI.t6, hI.t7, hI.t8, hI.t9, hI.t10, fun _ => rfl, fun _ => (show OwnP w' W8.heap.size u rest.reverse from hO), fun h => (hI.t13 h).to hb, hI.bw.trans hbb, hI.i10⟩⟩
                · rintro L a wx ⟨v, rfl, hI⟩ hL hdep hcl K hK
                  go_simp
                  exact hK _ _ ⟨(upd v 10 (_)), rfl, ⟨hI.t0, hI.t1, hI.t2, hI.t3, hI.t4, hI.t5, hI.t6, hI.t7, hI.t8, hI.t9, hI.t10, hI.t11, hI.t12, (fun _ => hI.t12 (hdep 12 (by decide))), hI.bw, (fun h => nomatch (show true = false from h))⟩⟩
                · rintro a wx ⟨vI, rfl, hI⟩
                  have hO10 := hI.t13 rfl
                  have hbw10 := hI.bw
                  clear hI
                  generalize vI 10 = x10 at *
                  obtain ⟨W10, hW10⟩ : ∃ W, W = wx := ⟨_, rfl⟩
                  rw [← hW10] at hO10 hbw10 ⊢
                  clear hW10
                  have hb610 : Below W6.heap.size W6 W10 := hb68.trans (hbw10.mono hb68.size)
                  have hp6 : p < W6.heap.size := hAp6.lt
                  have hw6 := kb6.size
                  have z68 := hb68.size
                  have z810 := hbw10.size
                  have hAp10 := (hAp6.kept hb610)
                  have hT10 := hT6.to hb610
                  have hA910 := HA9.out.kept hbw10
                  have kb10 : KB (ZW B w) w W10 := kb6.below hb610
                  have hg9 := HG9.out
                  have hg9p : W7.heap.size ≤ g9 := hg9'
                  have z67 := hbw.size
                  have hsz : Hid (rest.reverse.length + 1 ≤ maxLen ∧ ((rest.reverse.length + 1) + (rest.reverse.length + 1) / 4 + 192) * 40 ≤ 281474976710656) := by
                    have := HRL2.out
                    have := HR2.out
                    show _ ∧ _
                    rw [List.length_reverse]
                    unfold maxLen
                    omega
                  have hTL : Hid (told.length + 1 ≤ 6000000000000) := by show _ ≤ _; have := K5.out; omega
                  clear hAp6 hT6 hOp6 hR6
                  go_wp2_with (first
                    | ((with_reducible show wpList _ _ _ (⟨some 121, .load _ _, _, _, _, _⟩ :: _) _ _); refine wl_load rfl 63 _ rfl g9 0 rfl 63 (encP (na + nb, Y)) (encP (na + nb, Y)) hA910 (fun j v h => (by rw [Nat.zero_add]; exact h)) _ Try.underlying63 rfl hsS.out ?_)
                    | ((with_reducible show wpList _ _ _ (⟨some 122, .buildSlice _ _ _, _, _, _, _⟩ :: _) _ _); refine wl_litG1 infoPt rfl 121 rfl (na + nb, Y) LS.out (by omega) (.agg (encP (na + nb, Y)).toArray) rfl rfl ?_; intro w11 hL11 hb11 hs11)
                    | ((with_reducible show wpList _ _ _ (⟨some 123, _, _, _, _, _⟩ :: _) _ _); refine wl_appendG1 infoPt rfl (.tmp 120) (.tmp 122) rfl W8.heap.size x10 rest.reverse rfl (hO10.to hb11) W10.heap.size (na + nb, Y) rfl hL11 LS.out (encP_one _) hsz.out.1 hsz.out.2 (by omega) ?_; intro v12 w12 hO12 hg12 hb12; have hT12 := (hT10.to hb11).by hg12 (rows_apart (hT10.to hb11).row (hO10.to hb11).row (by decide)); have hA12 := (hAp10.kept hb11).grown hg12 (arr_row (hAp10.kept hb11) (hO10.to hb11).row (by decide)))
                    | ((with_reducible show wpList _ _ _ (⟨none, .store _ _ _, _, _, _, _⟩ :: _) _ _); refine wl_store1 rfl 52 _ _ rfl p 1 rfl v12 rfl (cells_own hO12.row) (one_own hO12.row) 54 _ hA12 sizePs (by simp) ?_; intro w13 hA13 hg13 hs13; have hT13 := hT12.by hg13 (row_arr hT12.row hA12 (by decide)))
                    | ((with_reducible show wpList _ _ _ (⟨some 128, .load _ _, _, _, _, _⟩ :: _) _ _); refine wl_load rfl 29 _ rfl g9 1 rfl 63 (encP (na + nb, Y)) (bvs Y) (((hA910.kept hb11).grown hg12 (own_low' (hO10.to hb11).row hg9)).grown hg13 (by intro e; injection e with e; omega)) (fun j v h => (by rw [Nat.add_comm 1 j]; simpa [encP] using h)) (.array 32 5) Try.underlying29 rfl IY.out ?_)
                    | ((with_reducible show wpList _ _ _ (⟨some 129, .buildSlice _ _ _, _, _, _, _⟩ :: _) _ _); refine wl_litD rfl 128 rfl Y HYL.out rfl ?_; intro w14 hL14 hb14)
                    | ((with_reducible show wpList _ _ _ (⟨some 130, _, _, _, _, _⟩ :: _) _ _); refine wl_appendDg rfl (.tmp 126) (.tmp 129) rfl w.heap.size u6 told rfl (hT13.to hb14) w13.heap.size Y rfl hL14 HYL.out hTL.out (by have := hb11.size; have := hg12.size; have := hb14.size; omega) ?_; intro v15 w15 hO15 hg15 hb15))
                  have y11 := hb11.size
                  have y12 := hg12.size
                  have y14 := hb14.size
                  obtain ⟨gn, cn, en, hgn, hgn2⟩ := hO12.solid (by simp)
                  have hln : (rest.reverse ++ [(na + nb, Y)]).length = rest.length + 1 := by simp
                  rw [hln] at en
                  have hO13 : OwnP w13 W8.heap.size v12 (rest.reverse ++ [(na + nb, Y)]) := hO12.by hg13 (row_arr hO12.row hA12 (by decide))
                  have kb12 : KB (ZW B w) w w12 := (kb10.below hb11).low (hb12.mono (by omega))
                  have kb13 : KB (ZW B w) w w13 := kb12.grown hg13 (zw_arr HA.out hbp)
                  have kb15 : KB (ZW B w) w w15 := (kb13.below hb14).low hb15
                  have hO14 := hO13.to hb14
                  have hO15b : OwnP w15 W8.heap.size v12 (rest.reverse ++ [(na + nb, Y)]) := hO14.by hg15 (rows_apart hO14.row (hT13.to hb14).row (by decide))
                  have hA15 : Arr w15 p 54 [.int .u64 ((n + 1 : Nat) : Int), v12] := by
                    have h1 := hA13.kept hb14
                    simp only [List.set_cons_succ, List.set_cons_zero] at h1
                    exact h1.to hb15 hpw
                  subst en
                  go_roundw
                  case rel =>
                    refine ⟨rest, (na + nb, Y), told ++ [Y], gn, cn, ⟨?_, ?_, ?_, ?_, ?_, hA15, hO15b.base (by omega), kb15⟩, hO15⟩
                    · rw [K1.out, carry, if_pos (by rw [← HNA.out, ← HNB.out]; exact HAB.out), ← HNA.out, ← HNB.out, ← HY.out]
                    · obtain ⟨T, e1, e2⟩ := K2.out
                      refine ⟨told, rfl, ?_⟩
                      rw [e2, carryT, if_pos (by rw [← HNA.out, ← HNB.out]; exact HAB.out), ← HNA.out, ← HNB.out, ← HY.out, e1]
                      simp
                    · have h1 := K3.out
                      have h2 := K4.out
                      have h3 := HAB.out
                      show na + nb = _
                      rw [h3, HNB.out, h1, List.length_append, List.length_singleton, Nat.add_sub_cancel]
                      obtain ⟨q, hq⟩ : ∃ q, told.length = q + 1 := ⟨told.length - 1, by omega⟩
                      rw [hq, Nat.add_sub_cancel, Nat.pow_succ]
                      omega
                    · rw [List.length_append, List.length_singleton]; omega
                    · have := K5.out
                      rw [List.length_append, List.length_singleton]
                      simp at this
                      omega
                  case measure =>
                    rw [rowLen_at hA15, HRL.out]
                    have := HN12.out
                    have := HR12.out
                    have := HR2.out
                    omega
        · have HF := Lib.hid (HFIN.out wr.drew rfl (fun A' r' e => by injection e with e _; rw [← e, ← hna, ← hnb]; exact hab))
          have hEq : Hid (((nb : Int) == (na : Int)) = false) := by show _ = _; simp only [beq_eq_false_iff_ne]; omega
          have hEq2 : Hid (decide ((nb : Int) = (na : Int)) = false) := decide_eq_false (by omega)
          have hEq3 : Hid (decide (nb = na) = false) := decide_eq_false (by omega)
          clear hab hnb hna rA rB nA nB eA eB hlA hlB hr12 hr2 hr1 hN12 hOp hR hm30 RA RB
          go_upto_region 6 with fail
          refine wp_region_steps [[], [0], [1], [2], [3], [4], [5], [6], [7, 6], [8, 6], [9, 6], [6], [11, 6], [12, 6], [13, 6], [14, 6], [15, 6], [10, 16, 6], [17, 6], [18, 6], [6], [20, 6], [21, 6], [22, 6], [6], [24, 6], [25, 6], [26, 6], [27, 6], [28, 6], [23, 29, 6], [30, 6], [31, 6], [19, 32, 6], [6, 33]] (by kernel_rfl) (by kernel_rfl) (fun L a wx => ∃ v : Nat → Value, a = ⟨#[.pointer (some ⟨p, 0, none⟩), .agg (bvs d).toArray, undef, .pointer (some ⟨g3, 0, none⟩), .slice none 0 0, .int .i64 0, u6, u7, u8, u9, u10, .pointer (some ⟨p, 0, none⟩), .pointer (some ⟨p, 0, none⟩), .pointer (some ⟨p, 0, none⟩), .int .u64 ↑n, .bool false, .pointer (some ⟨p, 0, none⟩), .pointer (some ⟨p, 0, none⟩), .pointer (some ⟨p, 0, none⟩), .int .u64 ↑n, .int .u64 (↑n + 1), .pointer (some ⟨p, 0, none⟩), .pointer (some ⟨p, 0, none⟩), v23, v24, v25, v26, v27, v28, v29, v30, .slice (some ⟨gq0, 0, none⟩) ((partsF n P).length + 1) c2, v32, v33, .agg (bvs d).toArray, .slice (some ⟨W1.heap.size, 0, none⟩) 1 1, v 36, v 37, v 38, v 39, v 40, v 41, v 42, v 43, v 44, v 45, v 46, v 47, v 48, v 49, v 50, v 51, v 52, v 53, v 54, v 55, v 56, v 57, v 58, v 59, v 60, v 61, v 62, v 63, v 64, v 65, v 66, v 67, v 68, v 69, v 70, u71, u72, u73, u74, u75, u76, u77, u78, u79, u80, u81, u82, u83, u84, u85, u86, u87, u88, u89, u90, u91, u92, u93, u94, u95, u96, u97, u98, u99, u100, u101, u102, u103, u104, u105, u106, u107, u108, u109, u110, u111, u112, u113, u114, u115, u116, u117, u118, u119, u120, u121, u122, u123, u124, u125, u126, u127, u128, u129, u130, undef], []⟩ ∧ InvWAddFB d p n g3 gq N1 cv r1 r2 na nb u6 u7 u8 u9 u10 u36 u37 u38 u39 u40 u41 u42 u43 u44 u45 u46 u47 u48 u49 u50 u51 u52 u53 u54 u55 u56 u57 u58 u59 u60 u61 u62 u63 u64 u65 u66 u67 u68 u69 u70 u71 u72 u73 u74 u75 u76 u77 u78 u79 u80 u81 u82 u83 u84 u85 u86 u87 u88 u89 u90 u91 u92 u93 u94 u95 u96 u97 u98 u99 u100 u101 u102 u103 u104 u105 u106 u107 u108 u109 u110 u111 u112 u113 u114 u115 u116 u117 u118 u119 u120 u121 u122 u123 u124 u125 u126 u127 u128 u129 u130 wr L v wx) ?_ ⟨?_, ?_, ?_, ?_, ?_, ?_, ?_, ?_, ?_, ?_, ?_, ?_, ?_, ?_, ?_, ?_, ?_, ?_, ?_, ?_, ?_, ?_, ?_, ?_, ?_, ?_, ?_, ?_, ?_, ?_, ?_, ?_, ?_, ?_, ?_, trivial⟩ ?_
          · refine ⟨upd (upd (upd (upd (upd (upd (upd (upd (upd (upd (upd (upd (upd (upd (upd (upd (upd (upd (upd (upd (upd (upd (upd (upd (upd (upd (upd (upd (upd (upd (upd (upd (upd (upd (upd (fun _ => undef) 36 (u36)) 37 (u37)) 38 (u38)) 39 (u39)) 40 (u40)) 41 (u41)) 42 (u42)) 43 (u43)) 44 (u44)) 45 (u45)) 46 (u46)) 47 (u47)) 48 (u48)) 49 (u49)) 50 (u50)) 51 (u51)) 52 (u52)) 53 (u53)) 54 (u54)) 55 (u55)) 56 (u56)) 57 (u57)) 58 (u58)) 59 (u59)) 60 (u60)) 61 (u61)) 62 (u62)) 63 (u63)) 64 (u64)) 65 (u65)) 66 (u66)) 67 (u67)) 68 (u68)) 69 (u69)) 70 (u70), rfl, ⟨?_, ?_, ?_, ?_, ?_, ?_, ?_, ?_, ?_, ?_, ?_, ?_, ?_, ?_, ?_, ?_, ?_, ?_, ?_, ?_, ?_, ?_, ?_, ?_, ?_, ?_, ?_, ?_, ?_, ?_, ?_, ?_, ?_, ?_, ?_, rfl⟩⟩ <;> (intro h; exact absurd h (by decide))
          · rintro L a wx ⟨v, rfl, hI⟩ hL hdep hcl K hK
            go_simp
            exact hK _ _ ⟨(upd v 36 (.pointer (some ⟨p, 0, none⟩))), rfl, ⟨fun _ => rfl, hI.t1, hI.t2, hI.t3, hI.t4, hI.t5, hI.t6, hI.t7, hI.t8, hI.t9, hI.t10, hI.t11, hI.t12, hI.t13, hI.t14, hI.t15, hI.t16, hI.t17, hI.t18, hI.t19, hI.t20, hI.t21, hI.t22, hI.t23, hI.t24, hI.t25, hI.t26, hI.t27, hI.t28, hI.t29, hI.t30, hI.t31, hI.t32, hI.t33, hI.t34, hI.wq⟩⟩
          · rintro L a wx ⟨v, rfl, hI⟩ hL hdep hcl K hK
            have e0 := hI.t0 (hdep 0 (by decide))
            rw [e0]
            go_simp
            exact hK _ _ ⟨(upd (upd v 36 (.pointer (some ⟨p, 0, none⟩))) 37 (.pointer (some ⟨p, 0, none⟩))), rfl, ⟨fun _ => rfl, fun _ => rfl, hI.t2, hI.t3, hI.t4, hI.t5, hI.t6, hI.t7, hI.t8, hI.t9, hI.t10, hI.t11, hI.t12, hI.t13, hI.t14, hI.t15, hI.t16, hI.t17, hI.t18, hI.t19, hI.t20, hI.t21, hI.t22, hI.t23, hI.t24, hI.t25, hI.t26, hI.t27, hI.t28, hI.t29, hI.t30, hI.t31, hI.t32, hI.t33, hI.t34, hI.wq⟩⟩
          · rintro L a wx ⟨v, rfl, hI⟩ hL hdep hcl K hK
            have e1 := hI.t1 (hdep 1 (by decide))
            rw [e1]
            go_simp
            exact hK _ _ ⟨(upd (upd v 37 (.pointer (some ⟨p, 0, none⟩))) 38 (.pointer (some ⟨p, 1, none⟩))), rfl, ⟨hI.t0, fun _ => rfl, fun _ => rfl, hI.t3, hI.t4, hI.t5, hI.t6, hI.t7, hI.t8, hI.t9, hI.t10, hI.t11, hI.t12, hI.t13, hI.t14, hI.t15, hI.t16, hI.t17, hI.t18, hI.t19, hI.t20, hI.t21, hI.t22, hI.t23, hI.t24, hI.t25, hI.t26, hI.t27, hI.t28, hI.t29, hI.t30, hI.t31, hI.t32, hI.t33, hI.t34, hI.wq⟩⟩
          · rintro L a wx ⟨v, rfl, hI⟩ hL hdep hcl K hK
            have e2 := hI.t2 (hdep 2 (by decide))
            rw [e2]
            obtain rfl := hI.wq
            have cc := C1.out
            go_simp
            exact hK _ _ ⟨(upd (upd v 38 (.pointer (some ⟨p, 1, none⟩))) 39 (.slice (some ⟨gq, 0, none⟩) N1 cv)), rfl, ⟨hI.t0, hI.t1, fun _ => rfl, fun _ => rfl, hI.t4, hI.t5, hI.t6, hI.t7, hI.t8, hI.t9, hI.t10, hI.t11, hI.t12, hI.t13, hI.t14, hI.t15, hI.t16, hI.t17, hI.t18, hI.t19, hI.t20, hI.t21, hI.t22, hI.t23, hI.t24, hI.t25, hI.t26, hI.t27, hI.t28, hI.t29, hI.t30, hI.t31, hI.t32, hI.t33, hI.t34, hI.wq⟩⟩
          · rintro L a wx ⟨v, rfl, hI⟩ hL hdep hcl K hK
            have e3 := hI.t3 (hdep 3 (by decide))
            rw [e3]
            go_simp
            exact hK _ _ ⟨(upd (upd v 39 (.slice (some ⟨gq, 0, none⟩) N1 cv)) 40 (.int .i64 (N1 : Int))), rfl, ⟨hI.t0, hI.t1, hI.t2, fun _ => rfl, fun _ => rfl, hI.t5, hI.t6, hI.t7, hI.t8, hI.t9, hI.t10, hI.t11, hI.t12, hI.t13, hI.t14, hI.t15, hI.t16, hI.t17, hI.t18, hI.t19, hI.t20, hI.t21, hI.t22, hI.t23, hI.t24, hI.t25, hI.t26, hI.t27, hI.t28, hI.t29, hI.t30, hI.t31, hI.t32, hI.t33, hI.t34, hI.wq⟩⟩
          · rintro L a wx ⟨v, rfl, hI⟩ hL hdep hcl K hK
            have e4 := hI.t4 (hdep 4 (by decide))
            rw [e4]
            have q1 := hge.out
            have q2 := hge2.out
            go_simp
            exact hK _ _ ⟨(upd (upd v 40 (.int .i64 (N1 : Int))) 41 (.bool true)), rfl, ⟨hI.t0, hI.t1, hI.t2, hI.t3, fun _ => rfl, fun _ => rfl, hI.t6, hI.t7, hI.t8, hI.t9, hI.t10, hI.t11, hI.t12, hI.t13, hI.t14, hI.t15, hI.t16, hI.t17, hI.t18, hI.t19, hI.t20, hI.t21, hI.t22, hI.t23, hI.t24, hI.t25, hI.t26, hI.t27, hI.t28, hI.t29, hI.t30, hI.t31, hI.t32, hI.t33, hI.t34, hI.wq⟩⟩
          · rintro L a wx ⟨v, rfl, hI⟩ hL hdep hcl K hK
            have e5 := hI.t5 (hdep 5 (by decide))
            rw [e5]
            go_simp
            exact hK _ _ ⟨(upd (upd v 41 (.bool true)) 42 (.bool true)), rfl, ⟨hI.t0, hI.t1, hI.t2, hI.t3, hI.t4, fun _ => rfl, fun _ => rfl, hI.t7, hI.t8, hI.t9, hI.t10, hI.t11, hI.t12, hI.t13, hI.t14, hI.t15, hI.t16, hI.t17, hI.t18, hI.t19, hI.t20, hI.t21, hI.t22, hI.t23, hI.t24, hI.t25, hI.t26, hI.t27, hI.t28, hI.t29, hI.t30, hI.t31, hI.t32, hI.t33, hI.t34, hI.wq⟩⟩
          · rintro L a wx ⟨v, rfl, hI⟩ hL hdep hcl K hK
            have e6 := hI.t6 (hdep 6 (by decide))
            rw [e6]
            refine (if_pos rfl).mpr ?_
            go_simp
            exact hK _ _ ⟨(upd (upd v 42 (.bool true)) 43 (.pointer (some ⟨p, 0, none⟩))), rfl, ⟨hI.t0, hI.t1, hI.t2, hI.t3, hI.t4, hI.t5, fun _ => rfl, fun _ => rfl, hI.t8, hI.t9, hI.t10, hI.t11, hI.t12, hI.t13, hI.t14, hI.t15, hI.t16, hI.t17, hI.t18, hI.t19, hI.t20, hI.t21, hI.t22, hI.t23, hI.t24, hI.t25, hI.t26, hI.t27, hI.t28, hI.t29, hI.t30, hI.t31, hI.t32, hI.t33, hI.t34, hI.wq⟩⟩
          · rintro L a wx ⟨v, rfl, hI⟩ hL hdep hcl K hK
            have e7 := hI.t7 (hdep 7 (by decide))
            have e6 := hI.t6 (hdep 6 (by decide))
            rw [e7, e6]
            refine (if_pos rfl).mpr ?_
            go_simp
            exact hK _ _ ⟨(upd (upd (upd v 43 (.pointer (some ⟨p, 0, none⟩))) 42 (.bool true)) 44 (.pointer (some ⟨p, 0, none⟩))), rfl, ⟨hI.t0, hI.t1, hI.t2, hI.t3, hI.t4, hI.t5, fun _ => rfl, fun _ => rfl, fun _ => rfl, hI.t9, hI.t10, hI.t11, hI.t12, hI.t13, hI.t14, hI.t15, hI.t16, hI.t17, hI.t18, hI.t19, hI.t20, hI.t21, hI.t22, hI.t23, hI.t24, hI.t25, hI.t26, hI.t27, hI.t28, hI.t29, hI.t30, hI.t31, hI.t32, hI.t33, hI.t34, hI.wq⟩⟩
          · rintro L a wx ⟨v, rfl, hI⟩ hL hdep hcl K hK
            have e8 := hI.t8 (hdep 8 (by decide))
            have e6 := hI.t6 (hdep 6 (by decide))
            rw [e8, e6]
            refine (if_pos rfl).mpr ?_
            go_simp
            exact hK _ _ ⟨(upd (upd (upd v 44 (.pointer (some ⟨p, 0, none⟩))) 42 (.bool true)) 45 (.pointer (some ⟨p, 1, none⟩))), rfl, ⟨hI.t0, hI.t1, hI.t2, hI.t3, hI.t4, hI.t5, fun _ => rfl, hI.t7, fun _ => rfl, fun _ => rfl, hI.t10, hI.t11, hI.t12, hI.t13, hI.t14, hI.t15, hI.t16, hI.t17, hI.t18, hI.t19, hI.t20, hI.t21, hI.t22, hI.t23, hI.t24, hI.t25, hI.t26, hI.t27, hI.t28, hI.t29, hI.t30, hI.t31, hI.t32, hI.t33, hI.t34, hI.wq⟩⟩
          · rintro L a wx ⟨v, rfl, hI⟩ hL hdep hcl K hK
            have e9 := hI.t9 (hdep 9 (by decide))
            have e6 := hI.t6 (hdep 6 (by decide))
            rw [e9, e6]
            refine (if_pos rfl).mpr ?_
            obtain rfl := hI.wq
            have cc := C1.out
            go_simp
            exact hK _ _ ⟨(upd (upd (upd v 45 (.pointer (some ⟨p, 1, none⟩))) 42 (.bool true)) 46 (.slice (some ⟨gq, 0, none⟩) N1 cv)), rfl, ⟨hI.t0, hI.t1, hI.t2, hI.t3, hI.t4, hI.t5, fun _ => rfl, hI.t7, hI.t8, fun _ => rfl, fun _ => rfl, hI.t11, hI.t12, hI.t13, hI.t14, hI.t15, hI.t16, hI.t17, hI.t18, hI.t19, hI.t20, hI.t21, hI.t22, hI.t23, hI.t24, hI.t25, hI.t26, hI.t27, hI.t28, hI.t29, hI.t30, hI.t31, hI.t32, hI.t33, hI.t34, hI.wq⟩⟩
          · rintro L a wx ⟨v, rfl, hI⟩ hL hdep hcl K hK
            have e6 := hI.t6 (hdep 6 (by decide))
            rw [e6]
            refine (if_pos rfl).mpr ?_
            go_simp
            exact hK _ _ ⟨(upd (upd v 42 (.bool true)) 47 (.pointer (some ⟨p, 0, none⟩))), rfl, ⟨hI.t0, hI.t1, hI.t2, hI.t3, hI.t4, hI.t5, fun _ => rfl, hI.t7, hI.t8, hI.t9, hI.t10, fun _ => rfl, hI.t12, hI.t13, hI.t14, hI.t15, hI.t16, hI.t17, hI.t18, hI.t19, hI.t20, hI.t21, hI.t22, hI.t23, hI.t24, hI.t25, hI.t26, hI.t27, hI.t28, hI.t29, hI.t30, hI.t31, hI.t32, hI.t33, hI.t34, hI.wq⟩⟩
          · rintro L a wx ⟨v, rfl, hI⟩ hL hdep hcl K hK
            have e11 := hI.t11 (hdep 11 (by decide))
            have e6 := hI.t6 (hdep 6 (by decide))
            rw [e11, e6]
            refine (if_pos rfl).mpr ?_
            go_simp
            exact hK _ _ ⟨(upd (upd (upd v 47 (.pointer (some ⟨p, 0, none⟩))) 42 (.bool true)) 48 (.pointer (some ⟨p, 0, none⟩))), rfl, ⟨hI.t0, hI.t1, hI.t2, hI.t3, hI.t4, hI.t5, fun _ => rfl, hI.t7, hI.t8, hI.t9, hI.t10, fun _ => rfl, fun _ => rfl, hI.t13, hI.t14, hI.t15, hI.t16, hI.t17, hI.t18, hI.t19, hI.t20, hI.t21, hI.t22, hI.t23, hI.t24, hI.t25, hI.t26, hI.t27, hI.t28, hI.t29, hI.t30, hI.t31, hI.t32, hI.t33, hI.t34, hI.wq⟩⟩
          · rintro L a wx ⟨v, rfl, hI⟩ hL hdep hcl K hK
            have e12 := hI.t12 (hdep 12 (by decide))
            have e6 := hI.t6 (hdep 6 (by decide))
            rw [e12, e6]
            refine (if_pos rfl).mpr ?_
            go_simp
            exact hK _ _ ⟨(upd (upd (upd v 48 (.pointer (some ⟨p, 0, none⟩))) 42 (.bool true)) 49 (.pointer (some ⟨p, 1, none⟩))), rfl, ⟨hI.t0, hI.t1, hI.t2, hI.t3, hI.t4, hI.t5, fun _ => rfl, hI.t7, hI.t8, hI.t9, hI.t10, hI.t11, fun _ => rfl, fun _ => rfl, hI.t14, hI.t15, hI.t16, hI.t17, hI.t18, hI.t19, hI.t20, hI.t21, hI.t22, hI.t23, hI.t24, hI.t25, hI.t26, hI.t27, hI.t28, hI.t29, hI.t30, hI.t31, hI.t32, hI.t33, hI.t34, hI.wq⟩⟩
          · rintro L a wx ⟨v, rfl, hI⟩ hL hdep hcl K hK
            have e13 := hI.t13 (hdep 13 (by decide))
            have e6 := hI.t6 (hdep 6 (by decide))
            rw [e13, e6]
            refine (if_pos rfl).mpr ?_
            obtain rfl := hI.wq
            have cc := C1.out
            go_simp
            exact hK _ _ ⟨(upd (upd (upd v 49 (.pointer (some ⟨p, 1, none⟩))) 42 (.bool true)) 50 (.slice (some ⟨gq, 0, none⟩) N1 cv)), rfl, ⟨hI.t0, hI.t1, hI.t2, hI.t3, hI.t4, hI.t5, fun _ => rfl, hI.t7, hI.t8, hI.t9, hI.t10, hI.t11, hI.t12, fun _ => rfl, fun _ => rfl, hI.t15, hI.t16, hI.t17, hI.t18, hI.t19, hI.t20, hI.t21, hI.t22, hI.t23, hI.t24, hI.t25, hI.t26, hI.t27, hI.t28, hI.t29, hI.t30, hI.t31, hI.t32, hI.t33, hI.t34, hI.wq⟩⟩
          · rintro L a wx ⟨v, rfl, hI⟩ hL hdep hcl K hK
            have e14 := hI.t14 (hdep 14 (by decide))
            have e6 := hI.t6 (hdep 6 (by decide))
            rw [e14, e6]
            refine (if_pos rfl).mpr ?_
            go_simp
            exact hK _ _ ⟨(upd (upd (upd v 50 (.slice (some ⟨gq, 0, none⟩) N1 cv)) 42 (.bool true)) 51 (.int .i64 (N1 : Int))), rfl, ⟨hI.t0, hI.t1, hI.t2, hI.t3, hI.t4, hI.t5, fun _ => rfl, hI.t7, hI.t8, hI.t9, hI.t10, hI.t11, hI.t12, hI.t13, fun _ => rfl, fun _ => rfl, hI.t16, hI.t17, hI.t18, hI.t19, hI.t20, hI.t21, hI.t22, hI.t23, hI.t24, hI.t25, hI.t26, hI.t27, hI.t28, hI.t29, hI.t30, hI.t31, hI.t32, hI.t33, hI.t34, hI.wq⟩⟩
          · rintro L a wx ⟨v, rfl, hI⟩ hL hdep hcl K hK
            have e15 := hI.t15 (hdep 15 (by decide))
            have e6 := hI.t6 (hdep 6 (by decide))
            rw [e15, e6]
            refine (if_pos rfl).mpr ?_
            go_simp
            rw [HS1.out, HW1.out]
            exact hK _ _ ⟨(upd (upd (upd v 51 (.int .i64 (N1 : Int))) 42 (.bool true)) 52 (.int .i64 (r1 : Int))), rfl, ⟨hI.t0, hI.t1, hI.t2, hI.t3, hI.t4, hI.t5, fun _ => rfl, hI.t7, hI.t8, hI.t9, hI.t10, hI.t11, hI.t12, hI.t13, hI.t14, fun _ => rfl, fun _ => rfl, hI.t17, hI.t18, hI.t19, hI.t20, hI.t21, hI.t22, hI.t23, hI.t24, hI.t25, hI.t26, hI.t27, hI.t28, hI.t29, hI.t30, hI.t31, hI.t32, hI.t33, hI.t34, hI.wq⟩⟩
          · rintro L a wx ⟨v, rfl, hI⟩ hL hdep hcl K hK
            have e10 := hI.t10 (hdep 10 (by decide))
            have e16 := hI.t16 (hdep 16 (by decide))
            have e6 := hI.t6 (hdep 6 (by decide))
            rw [e10, e16, e6]
            refine (if_pos rfl).mpr ?_
            go_simp
            exact hK _ _ ⟨(upd (upd (upd (upd v 46 (.slice (some ⟨gq, 0, none⟩) N1 cv)) 52 (.int .i64 (r1 : Int))) 42 (.bool true)) 53 (.pointer (some ⟨gq, r1 * 33, none⟩))), rfl, ⟨hI.t0, hI.t1, hI.t2, hI.t3, hI.t4, hI.t5, fun _ => rfl, hI.t7, hI.t8, hI.t9, fun _ => rfl, hI.t11, hI.t12, hI.t13, hI.t14, hI.t15, fun _ => rfl, fun _ => rfl, hI.t18, hI.t19, hI.t20, hI.t21, hI.t22, hI.t23, hI.t24, hI.t25, hI.t26, hI.t27, hI.t28, hI.t29, hI.t30, hI.t31, hI.t32, hI.t33, hI.t34, hI.wq⟩⟩
          · rintro L a wx ⟨v, rfl, hI⟩ hL hdep hcl K hK
            have e17 := hI.t17 (hdep 17 (by decide))
            have e6 := hI.t6 (hdep 6 (by decide))
            rw [e17, e6]
            refine (if_pos rfl).mpr ?_
            go_simp
            exact hK _ _ ⟨(upd (upd (upd v 53 (.pointer (some ⟨gq, r1 * 33, none⟩))) 42 (.bool true)) 54 (.pointer (some ⟨gq, r1 * 33, none⟩))), rfl, ⟨hI.t0, hI.t1, hI.t2, hI.t3, hI.t4, hI.t5, fun _ => rfl, hI.t7, hI.t8, hI.t9, hI.t10, hI.t11, hI.t12, hI.t13, hI.t14, hI.t15, hI.t16, fun _ => rfl, fun _ => rfl, hI.t19, hI.t20, hI.t21, hI.t22, hI.t23, hI.t24, hI.t25, hI.t26, hI.t27, hI.t28, hI.t29, hI.t30, hI.t31, hI.t32, hI.t33, hI.t34, hI.wq⟩⟩
          · rintro L a wx ⟨v, rfl, hI⟩ hL hdep hcl K hK
            have e18 := hI.t18 (hdep 18 (by decide))
            have e6 := hI.t6 (hdep 6 (by decide))
            rw [e18, e6]
            refine (if_pos rfl).mpr ?_
            obtain rfl := hI.wq
            have cc := CB.out
            go_simp
            exact hK _ _ ⟨(upd (upd (upd v 54 (.pointer (some ⟨gq, r1 * 33, none⟩))) 42 (.bool true)) 55 (.int .u64 (nb : Int))), rfl, ⟨hI.t0, hI.t1, hI.t2, hI.t3, hI.t4, hI.t5, fun _ => rfl, hI.t7, hI.t8, hI.t9, hI.t10, hI.t11, hI.t12, hI.t13, hI.t14, hI.t15, hI.t16, hI.t17, fun _ => rfl, fun _ => rfl, hI.t20, hI.t21, hI.t22, hI.t23, hI.t24, hI.t25, hI.t26, hI.t27, hI.t28, hI.t29, hI.t30, hI.t31, hI.t32, hI.t33, hI.t34, hI.wq⟩⟩
          · rintro L a wx ⟨v, rfl, hI⟩ hL hdep hcl K hK
            have e6 := hI.t6 (hdep 6 (by decide))
            rw [e6]
            refine (if_pos rfl).mpr ?_
            go_simp
            exact hK _ _ ⟨(upd (upd v 42 (.bool true)) 56 (.pointer (some ⟨p, 0, none⟩))), rfl, ⟨hI.t0, hI.t1, hI.t2, hI.t3, hI.t4, hI.t5, fun _ => rfl, hI.t7, hI.t8, hI.t9, hI.t10, hI.t11, hI.t12, hI.t13, hI.t14, hI.t15, hI.t16, hI.t17, hI.t18, hI.t19, fun _ => rfl, hI.t21, hI.t22, hI.t23, hI.t24, hI.t25, hI.t26, hI.t27, hI.t28, hI.t29, hI.t30, hI.t31, hI.t32, hI.t33, hI.t34, hI.wq⟩⟩
          · rintro L a wx ⟨v, rfl, hI⟩ hL hdep hcl K hK
            have e20 := hI.t20 (hdep 20 (by decide))
            have e6 := hI.t6 (hdep 6 (by decide))
            rw [e20, e6]
            refine (if_pos rfl).mpr ?_
            go_simp
            exact hK _ _ ⟨(upd (upd (upd v 56 (.pointer (some ⟨p, 0, none⟩))) 42 (.bool true)) 57 (.pointer (some ⟨p, 0, none⟩))), rfl, ⟨hI.t0, hI.t1, hI.t2, hI.t3, hI.t4, hI.t5, fun _ => rfl, hI.t7, hI.t8, hI.t9, hI.t10, hI.t11, hI.t12, hI.t13, hI.t14, hI.t15, hI.t16, hI.t17, hI.t18, hI.t19, fun _ => rfl, fun _ => rfl, hI.t22, hI.t23, hI.t24, hI.t25, hI.t26, hI.t27, hI.t28, hI.t29, hI.t30, hI.t31, hI.t32, hI.t33, hI.t34, hI.wq⟩⟩
          · rintro L a wx ⟨v, rfl, hI⟩ hL hdep hcl K hK
            have e21 := hI.t21 (hdep 21 (by decide))
            have e6 := hI.t6 (hdep 6 (by decide))
            rw [e21, e6]
            refine (if_pos rfl).mpr ?_
            go_simp
            exact hK _ _ ⟨(upd (upd (upd v 57 (.pointer (some ⟨p, 0, none⟩))) 42 (.bool true)) 58 (.pointer (some ⟨p, 1, none⟩))), rfl, ⟨hI.t0, hI.t1, hI.t2, hI.t3, hI.t4, hI.t5, fun _ => rfl, hI.t7, hI.t8, hI.t9, hI.t10, hI.t11, hI.t12, hI.t13, hI.t14, hI.t15, hI.t16, hI.t17, hI.t18, hI.t19, hI.t20, fun _ => rfl, fun _ => rfl, hI.t23, hI.t24, hI.t25, hI.t26, hI.t27, hI.t28, hI.t29, hI.t30, hI.t31, hI.t32, hI.t33, hI.t34, hI.wq⟩⟩
          · rintro L a wx ⟨v, rfl, hI⟩ hL hdep hcl K hK
            have e22 := hI.t22 (hdep 22 (by decide))
            have e6 := hI.t6 (hdep 6 (by decide))
            rw [e22, e6]
            refine (if_pos rfl).mpr ?_
            obtain rfl := hI.wq
            have cc := C1.out
            go_simp
            exact hK _ _ ⟨(upd (upd (upd v 58 (.pointer (some ⟨p, 1, none⟩))) 42 (.bool true)) 59 (.slice (some ⟨gq, 0, none⟩) N1 cv)), rfl, ⟨hI.t0, hI.t1, hI.t2, hI.t3, hI.t4, hI.t5, fun _ => rfl, hI.t7, hI.t8, hI.t9, hI.t10, hI.t11, hI.t12, hI.t13, hI.t14, hI.t15, hI.t16, hI.t17, hI.t18, hI.t19, hI.t20, hI.t21, fun _ => rfl, fun _ => rfl, hI.t24, hI.t25, hI.t26, hI.t27, hI.t28, hI.t29, hI.t30, hI.t31, hI.t32, hI.t33, hI.t34, hI.wq⟩⟩
          · rintro L a wx ⟨v, rfl, hI⟩ hL hdep hcl K hK
            have e6 := hI.t6 (hdep 6 (by decide))
            rw [e6]
            refine (if_pos rfl).mpr ?_
            go_simp
            exact hK _ _ ⟨(upd (upd v 42 (.bool true)) 60 (.pointer (some ⟨p, 0, none⟩))), rfl, ⟨hI.t0, hI.t1, hI.t2, hI.t3, hI.t4, hI.t5, fun _ => rfl, hI.t7, hI.t8, hI.t9, hI.t10, hI.t11, hI.t12, hI.t13, hI.t14, hI.t15, hI.t16, hI.t17, hI.t18, hI.t19, hI.t20, hI.t21, hI.t22, hI.t23, fun _ => rfl, hI.t25, hI.t26, hI.t27, hI.t28, hI.t29, hI.t30, hI.t31, hI.t32, hI.t33, hI.t34, hI.wq⟩⟩
          · rintro L a wx ⟨v, rfl, hI⟩ hL hdep hcl K hK
            have e24 := hI.t24 (hdep 24 (by decide))
            have e6 := hI.t6 (hdep 6 (by decide))
            rw [e24, e6]
            refine (if_pos rfl).mpr ?_
            go_simp
            exact hK _ _ ⟨(upd (upd (upd v 60 (.pointer (some ⟨p, 0, none⟩))) 42 (.bool true)) 61 (.pointer (some ⟨p, 0, none⟩))), rfl, ⟨hI.t0, hI.t1, hI.t2, hI.t3, hI.t4, hI.t5, fun _ => rfl, hI.t7, hI.t8, hI.t9, hI.t10, hI.t11, hI.t12, hI.t13, hI.t14, hI.t15, hI.t16, hI.t17, hI.t18, hI.t19, hI.t20, hI.t21, hI.t22, hI.t23, fun _ => rfl, fun _ => rfl, hI.t26, hI.t27, hI.t28, hI.t29, hI.t30, hI.t31, hI.t32, hI.t33, hI.t34, hI.wq⟩⟩
          · rintro L a wx ⟨v, rfl, hI⟩ hL hdep hcl K hK
            have e25 := hI.t25 (hdep 25 (by decide))
            have e6 := hI.t6 (hdep 6 (by decide))
            rw [e25, e6]
            refine (if_pos rfl).mpr ?_
            go_simp
            exact hK _ _ ⟨(upd (upd (upd v 61 (.pointer (some ⟨p, 0, none⟩))) 42 (.bool true)) 62 (.pointer (some ⟨p, 1, none⟩))), rfl, ⟨hI.t0, hI.t1, hI.t2, hI.t3, hI.t4, hI.t5, fun _ => rfl, hI.t7, hI.t8, hI.t9, hI.t10, hI.t11, hI.t12, hI.t13, hI.t14, hI.t15, hI.t16, hI.t17, hI.t18, hI.t19, hI.t20, hI.t21, hI.t22, hI.t23, hI.t24, fun _ => rfl, fun _ => rfl, hI.t27, hI.t28, hI.t29, hI.t30, hI.t31, hI.t32, hI.t33, hI.t34, hI.wq⟩⟩
          · rintro L a wx ⟨v, rfl, hI⟩ hL hdep hcl K hK
            have e26 := hI.t26 (hdep 26 (by decide))
            have e6 := hI.t6 (hdep 6 (by decide))
            rw [e26, e6]
            refine (if_pos rfl).mpr ?_
            obtain rfl := hI.wq
            have cc := C1.out
            go_simp
            exact hK _ _ ⟨(upd (upd (upd v 62 (.pointer (some ⟨p, 1, none⟩))) 42 (.bool true)) 63 (.slice (some ⟨gq, 0, none⟩) N1 cv)), rfl, ⟨hI.t0, hI.t1, hI.t2, hI.t3, hI.t4, hI.t5, fun _ => rfl, hI.t7, hI.t8, hI.t9, hI.t10, hI.t11, hI.t12, hI.t13, hI.t14, hI.t15, hI.t16, hI.t17, hI.t18, hI.t19, hI.t20, hI.t21, hI.t22, hI.t23, hI.t24, hI.t25, fun _ => rfl, fun _ => rfl, hI.t28, hI.t29, hI.t30, hI.t31, hI.t32, hI.t33, hI.t34, hI.wq⟩⟩
          · rintro L a wx ⟨v, rfl, hI⟩ hL hdep hcl K hK
            have e27 := hI.t27 (hdep 27 (by decide))
            have e6 := hI.t6 (hdep 6 (by decide))
            rw [e27, e6]
            refine (if_pos rfl).mpr ?_
            go_simp
            exact hK _ _ ⟨(upd (upd (upd v 63 (.slice (some ⟨gq, 0, none⟩) N1 cv)) 42 (.bool true)) 64 (.int .i64 (N1 : Int))), rfl, ⟨hI.t0, hI.t1, hI.t2, hI.t3, hI.t4, hI.t5, fun _ => rfl, hI.t7, hI.t8, hI.t9, hI.t10, hI.t11, hI.t12, hI.t13, hI.t14, hI.t15, hI.t16, hI.t17, hI.t18, hI.t19, hI.t20, hI.t21, hI.t22, hI.t23, hI.t24, hI.t25, hI.t26, fun _ => rfl, fun _ => rfl, hI.t29, hI.t30, hI.t31, hI.t32, hI.t33, hI.t34, hI.wq⟩⟩
          · rintro L a wx ⟨v, rfl, hI⟩ hL hdep hcl K hK
            have e28 := hI.t28 (hdep 28 (by decide))
            have e6 := hI.t6 (hdep 6 (by decide))
            rw [e28, e6]
            refine (if_pos rfl).mpr ?_
            go_simp
            rw [HS2.out, HW2.out]
            exact hK _ _ ⟨(upd (upd (upd v 64 (.int .i64 (N1 : Int))) 42 (.bool true)) 65 (.int .i64 (r2 : Int))), rfl, ⟨hI.t0, hI.t1, hI.t2, hI.t3, hI.t4, hI.t5, fun _ => rfl, hI.t7, hI.t8, hI.t9, hI.t10, hI.t11, hI.t12, hI.t13, hI.t14, hI.t15, hI.t16, hI.t17, hI.t18, hI.t19, hI.t20, hI.t21, hI.t22, hI.t23, hI.t24, hI.t25, hI.t26, hI.t27, fun _ => rfl, fun _ => rfl, hI.t30, hI.t31, hI.t32, hI.t33, hI.t34, hI.wq⟩⟩
          · rintro L a wx ⟨v, rfl, hI⟩ hL hdep hcl K hK
            have e23 := hI.t23 (hdep 23 (by decide))
            have e29 := hI.t29 (hdep 29 (by decide))
            have e6 := hI.t6 (hdep 6 (by decide))
            rw [e23, e29, e6]
            refine (if_pos rfl).mpr ?_
            go_simp
            exact hK _ _ ⟨(upd (upd (upd (upd v 59 (.slice (some ⟨gq, 0, none⟩) N1 cv)) 65 (.int .i64 (r2 : Int))) 42 (.bool true)) 66 (.pointer (some ⟨gq, r2 * 33, none⟩))), rfl, ⟨hI.t0, hI.t1, hI.t2, hI.t3, hI.t4, hI.t5, fun _ => rfl, hI.t7, hI.t8, hI.t9, hI.t10, hI.t11, hI.t12, hI.t13, hI.t14, hI.t15, hI.t16, hI.t17, hI.t18, hI.t19, hI.t20, hI.t21, hI.t22, fun _ => rfl, hI.t24, hI.t25, hI.t26, hI.t27, hI.t28, fun _ => rfl, fun _ => rfl, hI.t31, hI.t32, hI.t33, hI.t34, hI.wq⟩⟩
          · rintro L a wx ⟨v, rfl, hI⟩ hL hdep hcl K hK
            have e30 := hI.t30 (hdep 30 (by decide))
            have e6 := hI.t6 (hdep 6 (by decide))
            rw [e30, e6]
            refine (if_pos rfl).mpr ?_
            go_simp
            exact hK _ _ ⟨(upd (upd (upd v 66 (.pointer (some ⟨gq, r2 * 33, none⟩))) 42 (.bool true)) 67 (.pointer (some ⟨gq, r2 * 33, none⟩))), rfl, ⟨hI.t0, hI.t1, hI.t2, hI.t3, hI.t4, hI.t5, fun _ => rfl, hI.t7, hI.t8, hI.t9, hI.t10, hI.t11, hI.t12, hI.t13, hI.t14, hI.t15, hI.t16, hI.t17, hI.t18, hI.t19, hI.t20, hI.t21, hI.t22, hI.t23, hI.t24, hI.t25, hI.t26, hI.t27, hI.t28, hI.t29, fun _ => rfl, fun _ => rfl, hI.t32, hI.t33, hI.t34, hI.wq⟩⟩
          · rintro L a wx ⟨v, rfl, hI⟩ hL hdep hcl K hK
            have e31 := hI.t31 (hdep 31 (by decide))
            have e6 := hI.t6 (hdep 6 (by decide))
            rw [e31, e6]
            refine (if_pos rfl).mpr ?_
            obtain rfl := hI.wq
            have cc := CA.out
            go_simp
            exact hK _ _ ⟨(upd (upd (upd v 67 (.pointer (some ⟨gq, r2 * 33, none⟩))) 42 (.bool true)) 68 (.int .u64 (na : Int))), rfl, ⟨hI.t0, hI.t1, hI.t2, hI.t3, hI.t4, hI.t5, fun _ => rfl, hI.t7, hI.t8, hI.t9, hI.t10, hI.t11, hI.t12, hI.t13, hI.t14, hI.t15, hI.t16, hI.t17, hI.t18, hI.t19, hI.t20, hI.t21, hI.t22, hI.t23, hI.t24, hI.t25, hI.t26, hI.t27, hI.t28, hI.t29, hI.t30, fun _ => rfl, fun _ => rfl, hI.t33, hI.t34, hI.wq⟩⟩
          · rintro L a wx ⟨v, rfl, hI⟩ hL hdep hcl K hK
            have e19 := hI.t19 (hdep 19 (by decide))
            have e32 := hI.t32 (hdep 32 (by decide))
            have e6 := hI.t6 (hdep 6 (by decide))
            rw [e19, e32, e6]
            refine (if_pos rfl).mpr ?_
            have q1 := hEq.out
            have q2 := hEq2.out
            have q3 := hEq3.out
            go_simp
            exact hK _ _ ⟨(upd (upd (upd (upd v 55 (.int .u64 (nb : Int))) 68 (.int .u64 (na : Int))) 42 (.bool true)) 69 (.bool false)), rfl, ⟨hI.t0, hI.t1, hI.t2, hI.t3, hI.t4, hI.t5, fun _ => rfl, hI.t7, hI.t8, hI.t9, hI.t10, hI.t11, hI.t12, hI.t13, hI.t14, hI.t15, hI.t16, hI.t17, hI.t18, fun _ => rfl, hI.t20, hI.t21, hI.t22, hI.t23, hI.t24, hI.t25, hI.t26, hI.t27, hI.t28, hI.t29, hI.t30, hI.t31, fun _ => rfl, fun _ => rfl, hI.t34, hI.wq⟩⟩
          · rintro L a wx ⟨v, rfl, hI⟩ hL hdep hcl K hK
            have e6 := hI.t6 (hdep 6 (by decide))
            have e33 := hI.t33 (hdep 33 (by decide))
            rw [e6, e33]
            go_simp
            exact hK _ _ ⟨(upd (upd (upd v 42 (.bool true)) 69 (.bool false)) 70 (.bool false)), rfl, ⟨hI.t0, hI.t1, hI.t2, hI.t3, hI.t4, hI.t5, fun _ => rfl, hI.t7, hI.t8, hI.t9, hI.t10, hI.t11, hI.t12, hI.t13, hI.t14, hI.t15, hI.t16, hI.t17, hI.t18, hI.t19, hI.t20, hI.t21, hI.t22, hI.t23, hI.t24, hI.t25, hI.t26, hI.t27, hI.t28, hI.t29, hI.t30, hI.t31, hI.t32, fun _ => rfl, fun _ => rfl, hI.wq⟩⟩
          · rintro a wx ⟨vF, rfl, hI⟩
            have e := hI.t34 rfl
            obtain rfl := hI.wq
            clear hI
            rw [e]
            go_wp2_with fail
            go_ret2
            exact ⟨_, rfl, HF.out⟩
end Go.Proofs.Ytlfncgpjgbpdjaa
