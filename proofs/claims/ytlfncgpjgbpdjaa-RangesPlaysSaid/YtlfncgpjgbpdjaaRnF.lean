/-
  Layer 9: Root. Conditions: those in each statement.
-/
import Derived.Test.YtlfncgpjgbpdjaaRnE
namespace Go.Proofs.Ytlfncgpjgbpdjaa
open Go.RowKit Go.Shelf

theorem info31 : (Try.prog.info? 31).map (fun i => (i.zero, i.size)) = some (some (.int .u64 0), 1) := by kernel_rfl
theorem arr_owned {A B : World} {row : Option Nat} {g : Nat} {T : TypeId} {xs : List Value} (h : Arr A g T xs) (hg : A.grownBy B row) (hr : ∀ r, row = some r → ∃ o : Obj, A.heap[r]? = some o ∧ o.isCells = false) : Arr B g T xs :=
  (grownBy_keeps_cells hg hr h rfl).trans h
theorem boxed_owned {A B : World} {row : Option Nat} {g : Nat} {T : TypeId} {v : Value} (h : Boxed A g T v) (hg : A.grownBy B row) (hr : ∀ r, row = some r → ∃ o : Obj, A.heap[r]? = some o ∧ o.isCells = false) : Boxed B g T v :=
  (grownBy_keeps_cells hg hr h rfl).trans h
theorem below_owned {n : Nat} {w A B : World} {row : Option Nat} (h : Below n w A) (hn : n ≤ A.heap.size) (hg : A.grownBy B row) (hr : ∀ r, row = some r → n ≤ r) : Below n w B := h.grown hg hn hr
theorem keeps_below {B : Nat} {W W' : World} (h : Below W.heap.size W W') : KeepsFrom B W W' := ⟨h.size, fun k _ _ hk _ => (h.block k (Array.getElem?_eq_some_iff.1 hk).1).trans hk⟩
theorem keeps_kb {B : Nat} {Z : Nat → Prop} {W W' : World} (h : KB Z W W') (hz : ∀ k, Z k → ∃ o : Obj, W.heap[k]? = some o ∧ o.isCells = true) : KeepsFrom B W W' :=
  ⟨h.size, fun k o _ hk ho => by
    by_cases e : Z k
    · obtain ⟨o', h1, h2⟩ := hz k e
      rw [hk] at h1
      cases h1
      rw [ho] at h2
      cases h2
    · exact (h.block k (Array.getElem?_eq_some_iff.1 hk).1 e).trans hk⟩
theorem arr_cells {W : World} {g : Nat} {T : TypeId} {xs : List Value} (h : Arr W g T xs) : ∃ o : Obj, W.heap[g]? = some o ∧ o.isCells = true := ⟨_, h, rfl⟩
theorem arr_kb {Z : Nat → Prop} {W W' : World} {g : Nat} {T : TypeId} {xs : List Value} (h : Arr W g T xs) (hb : KB Z W W') (hz : ¬ Z g) : Arr W' g T xs := (hb.block g h.lt hz).trans h
theorem notOut_then {K : Act → World → Prop} {Q : Exit → Act → World → Prop} (h : ¬ LetsOut Q) : ¬ LetsOut (Exit.then K Q) := by
  rintro ⟨a, w, e⟩
  exact h ⟨a, w, e⟩
def RootI (m p g2 g3 g4 S : Nat) (P : List (List UInt8)) (w : World) (pre : List (PkAt m)) (W : World) : Prop :=
  ∃ (hd : List UInt8) (b : Nat), (pre.map (·.1) = List.range pre.length → pre.length ≤ m → 0 < pre.length → hd = foldP (P.drop (m - pre.length))) ∧ hd.length = 32 ∧ pre.length ≤ b ∧ b ≤ pre.length * 1048576 ∧ Arr W g2 29 (bvs (Z8 32)) ∧ Arr W g3 29 (bvs hd) ∧ Arr W g4 31 [.int .u64 (b : Int)] ∧ Boxed W (g4 + 1) 23 (.pointer (some ⟨p, 0, none⟩)) ∧ Below w.heap.size w W ∧ S ≤ W.heap.size
def RootAx (m p n g2 g3 g4 S : Nat) (P : List (List UInt8)) (ch : PkAt m) (a' : Act) (W : World) : Prop :=
  ∃ g6, S ≤ g6 ∧ Arr W g6 29 (bvs (P.getD (m - 1 - ch.1) [])) ∧ a' = { tmps := #[.pointer (some ⟨p, 0, none⟩), undef, .pointer (some ⟨g2, 0, none⟩), .pointer (some ⟨g3, 0, none⟩), .pointer (some ⟨g4, 0, none⟩), .int .u64 (lowAt n ch.1 : Int), .pointer (some ⟨g6, 0, none⟩), .pointer (some ⟨p, 0, none⟩), .int .u64 (n : Int), .bool false, undef, .pointer (some ⟨p, 0, none⟩), .func (.func 33) #[] #[.pointer (some ⟨g4 + 1, 0, none⟩)], .int .u64 (lowAt n ch.1 : Int), .agg (bvs (P.getD (m - 1 - ch.1) [])).toArray, undef, undef, undef, undef, undef, undef, undef, undef, undef, undef], defers := [] }
structure InvRRootA (X hd : List UInt8) (A b p n g2 g3 g4 g6 : Nat) (W0 : World) (L : Nat → Bool) (v20 v21 v22 v23 : Value) (wx : World) : Prop where
  t0 : L 0 = true → v20 = .agg (bvs X).toArray
  t1 : L 1 = true → v21 = .int .u64 (0 : Int)
  t2 : L 2 = true → v22 = .int .u64 (A : Int)
  t3 : L 3 = true → v23 = .int .u64 ((A : Int))
  a6 : Arr wx g6 29 (bvs X)
  a3 : Arr wx g3 29 (bvs (if L 4 then X else hd))
  a4 : Arr wx g4 31 [.int .u64 (if L 5 then (A : Int) else (0 : Int))]
  kb : KB (fun k => k = g3 ∨ k = g4 ∨ k = g6) W0 wx
structure InvRRootB (Y hd : List UInt8) (A b p n g2 g3 g4 g6 : Nat) (X : List UInt8) (W0 : World) (L : Nat → Bool) (v20 v21 v22 v23 : Value) (wx : World) : Prop where
  t0 : L 0 = true → v20 = .agg (bvs Y).toArray
  t1 : L 1 = true → v21 = .int .u64 (b : Int)
  t2 : L 2 = true → v22 = .int .u64 (A : Int)
  t3 : L 3 = true → v23 = .int .u64 ((b : Int) + (A : Int))
  a6 : Arr wx g6 29 (bvs Y)
  a3 : Arr wx g3 29 (bvs (if L 4 then Y else hd))
  a4 : Arr wx g4 31 [.int .u64 (if L 5 then (b : Int) + (A : Int) else (b : Int))]
  kb : KB (fun k => k = g3 ∨ k = g4 ∨ k = g6) W0 wx
set_option maxRecDepth 100000 in
set_option maxHeartbeats 1600000 in
theorem Root_r {q : Nat → Prop} (p n : Nat) (P : List (List UInt8)) (w : World) (h : IsR q w p n P) (hn0 : 0 < n) :
    Calls Try.prog 17 #[.pointer (some ⟨p, 0, none⟩)] w fun e w' => e = .returned (.agg (bvs (foldP P)).toArray) ∧ Below w.heap.size w w' := by
  have HS := Lib.hid (fun wx (hb : Below w.heap.size w wx) => Size_any (q := q) p n P wx (h.to hb))
  have hle := h.le
  have hcnt := h.cnt
  obtain ⟨al, c, hA, hr, hab⟩ := h.ex
  obtain ⟨m, hm⟩ : ∃ m, m = P.length := ⟨_, rfl⟩
  rw [← hm] at hA hr
  have HM := Lib.hid hm
  have e0 : ((n : Int) == 0) = false := by simp only [beq_eq_false_iff_ne]; omega
  have hpw := hA.lt
  clear hm h
  refine (callsIn_wide (n := 4)).1 ?_
  refine callsIn_of_wp_marks Try.func17 rfl trivial ?_ rfl
  refine wpIn_wide.2 ?_
  simp only [Try.ntmps17, List.size_toArray, List.length_cons, List.length_nil, Nat.reduceAdd, Nat.reduceSub, Array.replicate_succ, Array.replicate_zero, List.push_toArray, List.append_toArray, List.nil_append, List.cons_append]
  go_upto_region 5 with (first
    | ((with_reducible show wpList _ _ _ (⟨some 2, .alloc _, _, _, _, _⟩ :: _) _ _); refine wl_alloc rfl 29 rfl (bvs (Z8 32)) 32 infoD ?_; intro w1 hA1 hb1 hs1)
    | (go_at_call 13; refine (HS.out _ hb1).mono ?_; rintro e w0 ⟨rfl, rfl⟩)
    | ((with_reducible show wpList _ _ _ (⟨some 3, .alloc _, _, _, _, _⟩ :: _) _ _); refine wl_alloc rfl 29 rfl (bvs (Z8 32)) 32 infoD ?_; intro w3 hA3 hb3 hs3))
  obtain ⟨g2, hg2⟩ : ∃ g, g = w.heap.size := ⟨_, rfl⟩
  obtain ⟨g3, hg3⟩ : ∃ g, g = w1.heap.size := ⟨_, rfl⟩
  obtain ⟨g4, hg4⟩ : ∃ g, g = w3.heap.size := ⟨_, rfl⟩
  have hA4 : Arr (w3.alloc (.cells #[.int .u64 0] 31)) w3.heap.size 31 [.int .u64 0] := Arr.new _ _ _
  have hb4 : Below w3.heap.size w3 (w3.alloc (.cells #[.int .u64 0] 31)) := hal _ _
  have hs4 : (w3.alloc (.cells #[.int .u64 0] 31)).heap.size = w3.heap.size + 1 := by simp
  generalize w3.alloc (.cells #[.int .u64 0] 31) = w4 at *
  have X2 : Arr w4 w.heap.size 29 (bvs (Z8 32)) := (hA1.kept hb3).kept hb4
  have X3 : Arr w4 w1.heap.size 29 (bvs (Z8 32)) := hA3.kept hb4
  have B4 : Below w.heap.size w w4 := (hb1.trans (hb3.mono (by omega))).trans (hb4.mono (by omega))
  have A4 : Arr w4 p 49 [.bool true, .int .u64 (n : Int), .slice al m c] := hA.kept B4
  have R4 := hr.to B4
  rw [← hg2] at X2 hs1
  rw [← hg3] at X3 hs1 hs3 ⊢
  rw [← hg4] at hA4 hs4 hs3 ⊢
  have HG2 := Lib.hid hg2
  rw [← hg2]
  clear hA1 hA3 hb1 hb3 hb4 hg2 hg3 hg4 hA hr
  go_wp2_with (go_at_call 23; refine (fromLast_any _ _).mono ?_; rintro e w5 ⟨rfl, hw5⟩)
  have hx := Boxed.new w4 23 (.pointer (some ⟨p, 0, none⟩))
  have hb5 : Below w4.heap.size w4 (w4.alloc (.cells #[.pointer (some ⟨p, 0, none⟩)] 23)) := hal _ _
  have hs5 : (w4.alloc (.cells #[.pointer (some ⟨p, 0, none⟩)] 23)).heap.size = w4.heap.size + 1 := by simp
  clear hw5
  generalize w4.alloc (.cells #[.pointer (some ⟨p, 0, none⟩)] 23) = w5 at *
  rw [hs4] at hx hs5
  have X2 := X2.kept hb5
  have X3 := X3.kept hb5
  have X4 := hA4.kept hb5
  have B5 : Below w.heap.size w w5 := B4.trans (hb5.mono B4.size)
  have A5 := A4.kept hb5
  have R5 := R4.to hb5
  clear hb5 B4 A4 R4 hA4
  have hww : w.heap.size ≤ w5.heap.size := B5.size
  have q2 : g2 < g3 := by omega
  have q3 : g3 < g4 := by omega
  have q5 : w5.heap.size = g4 + 2 := by omega
  have qw : w.heap.size = g2 := HG2.out.symm
  clear hs5 hs4
  have hP32 := R5.all
  have hPl := R5.len
  have hmn : m = (lowP 1 n).length := by rw [hPl] at hcnt; exact hcnt
  have HMN := Lib.hid hmn
  have HX32 : Hid (∀ ch : PkAt m, (P.getD (m - 1 - ch.1) []).length = 32) := fun ch => hP32 _ (by have := ch.2; omega)
  refine (wpIn_wide (n := 4)).1 ?_
  refine wpIn_rangeFunc_ownH (n := 4) rfl (by omega) (gf := 33) (lb := #[.pointer (some ⟨g4 + 1, 0, none⟩)]) rfl trivial (enters_of Try.func33 (by kernel_rfl) rfl)
    (fromLast_stops 3 (by omega) (g4 + 1) p n m c w.heap.size P al hle hmn (by omega) (fun ad e => (hab ad e).2.1) w5 hx A5 R5)
    (fun h k => h.trans k) (fun W l o o' hl ho _ _ => ⟨(Below.refl _ _).grown (grownBy_putObj' W l o') (by have := (Array.getElem?_eq_some_iff.1 ho).1; omega) (by intro k e; injection e with e; omega), World.putObj_heap_other (by omega)⟩) (Below.refl _ _) (fun _ => rfl)
    (fun pre W => RootI m p g2 g3 g4 w5.heap.size P w pre W)
    (fun _ _ _ => False)
    ?own
    (fun _ _ _ _ _ hs _ _ => hs)
    ⟨Z8 32, 0, fun _ _ h => absurd h (by simp), by simp [Z8], Nat.le_refl _, Nat.zero_le _, X2, X3, X4, hx, B5, Nat.le_refl _⟩
    (fun ch a' W => RootAx m p n g2 g3 g4 w5.heap.size P ch a' W)
    (fun ch a' s A B row hs hg hr => by obtain ⟨g6, h1, h2, h3⟩ := hs; exact ⟨g6, h1, arr_owned h2 hg (fun r e => (hr r e).2), h3⟩)
    ?assign ?body ?done ?stop
  case own =>
    intro pre A B row hs hg hr
    obtain ⟨hd, b, h1, h2, h3, h4, h5, h6, h7, h8, h9, h10⟩ := hs
    have hc := fun r e => (hr r e).2
    exact ⟨hd, b, h1, h2, h3, h4, arr_owned h5 hg hc, arr_owned h6 hg hc, arr_owned h7 hg hc, boxed_owned h8 hg hc, below_owned h9 (by omega) hg (fun r e => by have := (hr r e).1; omega), by have := hg.size; omega⟩
  case assign =>
    intro l pre ch W K hi hK
    dsimp only [pkV]
    have hX32 := HX32.out ch
    clear hmn hP32 hPl hcnt R5
    obtain ⟨X, hX⟩ : ∃ X, X = P.getD (m - 1 - ch.1) [] := ⟨_, rfl⟩
    obtain ⟨A, hA⟩ : ∃ A, A = lowAt n ch.1 := ⟨_, rfl⟩
    rw [← hX] at hX32 ⊢
    rw [← hA] at ⊢
    have HX := Lib.hid hX
    have HA := Lib.hid hA
    have h32 : Hid ((Try.prog.info? 29).map (·.size) = some (bvs X).length) := by show _ = _; rw [bvs_len, hX32]; exact sizeD
    have L32 : Hid ((bvs X).length = 32) := by show _ = _; rw [bvs_len, hX32]
    clear hX hA
    obtain ⟨hd, b, h1, h2, h3, h4, h5, h6, h7, h8, h9, h10⟩ := hi
    refine wpIn_seq ?_
    refine regionIn_list (.round l) (by rintro ⟨a, w, e⟩; exact e) rfl ?_
    go_wp2
    refine regionIn_list (.round l) (by rintro ⟨a, w, e⟩; exact e) rfl ?_
    go_wp2_with (first
      | ((with_reducible show wpList _ _ _ (⟨some 6, .alloc _, _, _, _, _⟩ :: _) _ _); refine wl_alloc rfl 29 rfl (bvs (Z8 32)) 32 infoD ?_; intro W1 hA1 hb1 hs1)
      | ((with_reducible show wpList _ _ _ (⟨none, .store _ _ _, _, _, _, _⟩ :: _) _ _); refine wl_store rfl 29 _ _ rfl W.heap.size 0 rfl (bvs X) rfl 29 _ hA1 h32.out (by rw [L32.out]; exact (by decide : 0 + 32 ≤ (bvs (Z8 32)).length)) (bvs_one _) ?_; intro W2 hA2 hg2 hs2))
    rw [whole_store _ _ (by rw [L32.out]; rfl)] at hA2
    have hB : Below W.heap.size W W2 := hb1.grown hg2 (by omega) (by intro k e; injection e with e; omega)
    exact hK _ _ (keeps_below hB) ⟨hB.mono h9.size, hB.block _ (Boxed.lt h8)⟩ ⟨hd, b, h1, h2, h3, h4, h5.kept hB, h6.kept hB, h7.kept hB, (hB.block _ (Boxed.lt h8)).trans h8, h9.trans (hB.mono h9.size), Nat.le_trans h10 hB.size⟩ ⟨W.heap.size, h10, HX.out ▸ hA2, by rw [← HX.out, ← HA.out]; rfl⟩
  case body =>
    rintro l pre ch a' W hl _ ⟨hd, b, h1, h2, h3, h4, h5, h6, h7, h8, h9, h10⟩ ⟨g6, hg6, hA6, rfl⟩ hlen
    have G6 : g4 + 2 ≤ g6 := by omega
    have Q5 := Lib.hid q5
    have QW := Lib.hid qw
    have hX32 := HX32.out ch
    have hAb := lowAt_bounds (n := n) (k := ch.1) (by rw [← HMN.out]; exact ch.2)
    have hnx : pre.map (·.1) = List.range pre.length → ch.1 = pre.length → 0 < pre.length → nodeH (P.getD (m - 1 - ch.1) []) hd = foldP (P.drop (m - (pre.length + 1))) := fun e1 e2 e3 => by
      have hh := h1 e1 (by omega) e3
      have := foldP_drop P (m - pre.length) (by omega) (by omega)
      rw [show m - (pre.length + 1) = m - pre.length - 1 by omega, this, ← hh, e2, show m - 1 - pre.length = m - pre.length - 1 by omega]
    have hn0 : pre.map (·.1) = List.range pre.length → ch.1 = pre.length → pre.length = 0 → P.getD (m - 1 - ch.1) [] = foldP (P.drop (m - (pre.length + 1))) := fun e1 e2 e3 => by
      have := foldP_last P (by omega)
      rw [hPl] at this
      rw [e2, e3, Nat.sub_zero, Nat.zero_add, this]
    have hsn : (pre ++ [ch]).map (·.1) = List.range (pre ++ [ch]).length → pre.map (·.1) = List.range pre.length ∧ ch.1 = pre.length := fun e => by
      rw [List.map_append, List.length_append, List.length_singleton, List.range_succ] at e
      have := List.append_inj e (by simp)
      exact ⟨this.1, by simpa using this.2⟩
    have HSN := Lib.hid hsn
    have HNX := Lib.hid hnx
    have HN0 := Lib.hid hn0
    have H1 := Lib.hid h1
    have HLEN := Lib.hid hlen
    clear hmn hP32 hPl hcnt R5 hsn hnx hn0 h1 hlen q5 qw
    obtain ⟨X, hX⟩ : ∃ X, X = P.getD (m - 1 - ch.1) [] := ⟨_, rfl⟩
    obtain ⟨A, hA⟩ : ∃ A, A = lowAt n ch.1 := ⟨_, rfl⟩
    rw [← hX] at hX32 hA6 HNX HN0 ⊢
    rw [← hA] at hAb ⊢
    have h32 : Hid ((Try.prog.info? 29).map (·.size) = some (bvs X).length) := by show _ = _; rw [bvs_len, hX32]; exact sizeD
    have L32 : Hid ((bvs X).length = 32) := by show _ = _; rw [bvs_len, hX32]
    have h32d : Hid ((Try.prog.info? 29).map (·.size) = some (bvs hd).length) := by show _ = _; rw [bvs_len, h2]; exact sizeD
    have L32d : Hid ((bvs hd).length = 32) := by show _ = _; rw [bvs_len, h2]
    have hwr : Hid (IntKind.u64.wrap ((b : Int) + (A : Int)) = ((b + A : Nat) : Int)) := by
      show _ = _
      have hl21 : pre.length ≤ 21 := by have h1 := HLEN.out; have h2 := HMN.out; have h3 := lowP_len_lt 21 n 1 (by omega); omega
      rw [IntKind.wrap_u64]
      omega
    have HAB := Lib.hid hAb
    have H3 := Lib.hid h3
    have H4 := Lib.hid h4
    have HL3 := h6.lt
    have HL4 := h7.lt
    have HL6 := hA6.lt
    have H10 := Lib.hid h10
    clear hX hA hX32 hAb h3 h4 h10
    have c4 := h7.cell 0
    simp only [List.getElem?_cons_zero] at c4
    refine wpIn_block ?_
    refine wpIn_seq ?_
    refine wpIn_seq ?_
    refine regionIn_list (.round l) (by rintro ⟨a, w, e⟩; exact e) rfl ?_
    by_cases hb0 : b = 0
    · subst hb0
      have hwr0 : Hid (IntKind.u64.wrap (A : Int) = (A : Int)) := by
        have := hwr.out
        rw [Nat.zero_add, show ((0 : Nat) : Int) + (A : Int) = (A : Int) by omega] at this
        exact this
      go_wp2
      refine wpIn_cond_false rfl ?_
      refine wpIn_skip ?_
      change Code.wpIn _ _ _ _ _ _ _
      refine wpIn_region_steps (.round l) (by rintro ⟨a, w, e⟩; exact e) [[], [], [], [1, 2], [0], [3, 4, 0, 1, 2]] (by kernel_rfl) (by kernel_rfl) rfl (fun L a wx => ∃ v20 v21 v22 v23, a = ⟨#[.pointer (some ⟨p, 0, none⟩), undef, .pointer (some ⟨g2, 0, none⟩), .pointer (some ⟨g3, 0, none⟩), .pointer (some ⟨g4, 0, none⟩), .int .u64 ↑A, .pointer (some ⟨g6, 0, none⟩), .pointer (some ⟨p, 0, none⟩), .int .u64 ↑n, .bool false, undef, .pointer (some ⟨p, 0, none⟩), .func (.func 33) #[] #[.pointer (some ⟨g4 + 1, 0, none⟩)], .int .u64 ↑A, .agg (bvs X).toArray, .int .u64 0, .bool false, undef, undef, undef, v20, v21, v22, v23, undef], []⟩ ∧ InvRRootA X hd A 0 p n g2 g3 g4 g6 W L v20 v21 v22 v23 wx) ?_ ⟨?_, ?_, ?_, ?_, ?_, ?_, trivial⟩ ?_
      · refine ⟨_, _, _, _, rfl, ⟨?_, ?_, ?_, ?_, hA6.drew, h6.drew, h7.drew, (KB.refl _ _).drew⟩⟩ <;> (intro h; exact absurd h (by decide))
      · rintro L a wx ⟨v20, v21, v22, v23, rfl, hI⟩ hL hdep hcl K hK
        refine ow_load 29 _ rfl g6 0 rfl 29 (bvs X) (bvs X) hI.a6 (fun j v h => by rw [Nat.zero_add]; exact h) (.array 32 5) Try.underlying29 rfl h32.out ?_
        exact hK _ _ ⟨_, v21, v22, v23, rfl, ⟨fun _ => rfl, hI.t1, hI.t2, hI.t3, hI.a6, hI.a3, hI.a4, hI.kb⟩⟩
      · rintro L a wx ⟨v20, v21, v22, v23, rfl, hI⟩ hL hdep hcl K hK
        have hA4 : Arr wx g4 31 [.int .u64 (0 : Int)] := by
          have h7 := hI.a4
          cases h6 : L 5 with
          | true =>
            have h4 := hcl 5 (by decide) h6 1 (by decide)
            rw [hL] at h4
            cases h4
          | false =>
            rw [h6] at h7
            exact h7
        have c4 := hA4.cell 0
        simp only [List.getElem?_cons_zero] at c4
        go_simp
        exact hK _ _ ⟨v20, _, v22, v23, rfl, ⟨hI.t0, fun _ => rfl, hI.t2, hI.t3, hI.a6, hI.a3, hI.a4, hI.kb⟩⟩
      · rintro L a wx ⟨v20, v21, v22, v23, rfl, hI⟩ hL hdep hcl K hK
        go_simp
        exact hK _ _ ⟨v20, v21, _, v23, rfl, ⟨hI.t0, hI.t1, fun _ => rfl, hI.t3, hI.a6, hI.a3, hI.a4, hI.kb⟩⟩
      · rintro L a wx ⟨v20, v21, v22, v23, rfl, hI⟩ hL hdep hcl K hK
        obtain rfl := hI.t1 (hdep 1 (by decide))
        obtain rfl := hI.t2 (hdep 2 (by decide))
        go_simp
        rw [hwr0.out]
        exact hK _ _ ⟨v20, _, _, _, rfl, ⟨hI.t0, hI.t1, hI.t2, fun _ => rfl, hI.a6, hI.a3, hI.a4, hI.kb⟩⟩
      · rintro L a wx ⟨v20, v21, v22, v23, rfl, hI⟩ hL hdep hcl K hK
        obtain rfl := hI.t0 (hdep 0 (by decide))
        have hA3 : Arr wx g3 29 (bvs hd) := by
          have h7 := hI.a3
          rw [hL] at h7
          exact h7
        refine ow_store 29 _ _ rfl g3 0 rfl (bvs X) rfl 29 _ hA3 h32.out (by rw [L32.out, L32d.out]; decide) (bvs_one _) ?_
        intro w' hA3' hg hs
        rw [whole_store _ _ (L32d.out.trans L32.out.symm)] at hA3'
        exact hK _ _ ⟨_, v21, v22, v23, rfl, ⟨hI.t0, hI.t1, hI.t2, hI.t3, hI.a6.grown hg (by intro e; injection e with e; omega), hA3', hI.a4.grown hg (by intro e; injection e with e; omega), hI.kb.grown hg (.inl rfl)⟩⟩
      · rintro L a wx ⟨v20, v21, v22, v23, rfl, hI⟩ hL hdep hcl K hK
        obtain rfl := hI.t3 (hdep 3 (by decide))
        obtain rfl := hI.t0 (hdep 0 (by decide))
        obtain rfl := hI.t1 (hdep 1 (by decide))
        obtain rfl := hI.t2 (hdep 2 (by decide))
        have hA4 : Arr wx g4 31 [.int .u64 (0 : Int)] := by
          have h7 := hI.a4
          rw [hL] at h7
          exact h7
        have c4 := hA4.cell 0
        have f4 := hA4.frozen 0
        simp only [List.getElem?_cons_zero] at c4
        have hst := hA4.store 0 (.int .u64 ((A : Int)))
        go_simp
        exact hK _ _ ⟨_, _, _, _, rfl, ⟨hI.t0, hI.t1, hI.t2, hI.t3, hI.a6.other _ (by show g4 ≠ g6; omega) _, hI.a3.other _ (by show g4 ≠ g3; omega) _, hst, hI.kb.grown (grownBy_setCell' _ _ _) (.inr (.inl rfl))⟩⟩
      · rintro a wx ⟨v20, v21, v22, v23, rfl, hI⟩
        have hA3 := hI.a3
        have hA4 := hI.a4
        have hkb := hI.kb
        clear hI
        rw [if_pos rfl] at hA3 hA4
        have hKB : KB (fun k => k = g3 ∨ k = g4 ∨ k = g6) W wx := hkb
        have hA4' : Arr wx g4 31 [.int .u64 ((0 + A : Nat) : Int)] := by rw [Nat.zero_add]; exact hA4
        have hz := HAB.out
        have q5 := Q5.out
        have qw := QW.out
        have hz3 := H3.out
        have hz4 := H4.out
        have hz10 := H10.out
        have hfin : KeepsFrom w5.heap.size W wx ∧ KeptR w.heap.size (g4 + 1) W wx ∧ RootI m p g2 g3 g4 w5.heap.size P w (pre ++ [ch]) wx := by
          refine ⟨keeps_kb hKB (fun k hk => ?_), ⟨hKB.under (fun k hk => by rcases hk with e | e | e <;> omega) (by omega), hKB.block _ (Boxed.lt h8) (by intro e; rcases e with e | e | e <;> omega)⟩, ⟨X, 0 + A, fun e1 e2 e3 => ?_, by rw [← bvs_len]; exact L32.out, by rw [List.length_append, List.length_singleton]; omega, by rw [List.length_append, List.length_singleton]; omega, arr_kb h5 hKB (by intro e; rcases e with e | e | e <;> omega), hA3, hA4', arr_kb (xs := [_]) h8 hKB (by intro e; rcases e with e | e | e <;> omega), h9.trans (hKB.under (fun k hk => by rcases hk with e | e | e <;> omega) (by omega)), Nat.le_trans hz10 hKB.size⟩⟩
          · rcases hk with rfl | rfl | rfl
            · exact arr_cells h6
            · exact arr_cells h7
            · exact arr_cells hA6
          · obtain ⟨y1, y2⟩ := HSN.out e1
            rw [List.length_append, List.length_singleton]
            exact HN0.out y1 y2 (by omega)
        exact hfin
    · go_wp2
      refine wpIn_cond_true (congrArg Value.bool (decide_eq_true (by omega : 0 < b))) ?_
      have HND := Lib.hid (fun wx => Node_any X hd wx (by rw [← bvs_len]; exact L32.out) (by rw [← bvs_len]; exact L32d.out))
      have hnl : (nodeH X hd).length = 32 := shaL_len _
      obtain ⟨Y, hY⟩ : ∃ Y, Y = nodeH X hd := ⟨_, rfl⟩
      rw [← hY] at hnl HND HNX
      have h32y : Hid ((Try.prog.info? 29).map (·.size) = some (bvs Y).length) := by show _ = _; rw [bvs_len, hnl]; exact sizeD
      have L32y : Hid ((bvs Y).length = 32) := by show _ = _; rw [bvs_len, hnl]
      clear hY hnl c4
      refine regionIn_list (.round l) (by rintro ⟨a, w, e⟩; exact e) rfl ?_
      go_wp2_with (first
        | ((with_reducible show wpList _ _ _ (⟨some 17, .load _ _, _, _, _, _⟩ :: _) _ _); refine wl_load rfl 29 _ rfl g6 0 rfl 29 (bvs X) (bvs X) hA6 (fun j v h => (by rw [Nat.zero_add]; exact h)) (.array 32 5) Try.underlying29 rfl h32.out ?_)
        | ((with_reducible show wpList _ _ _ (⟨some 18, .load _ _, _, _, _, _⟩ :: _) _ _); refine wl_load rfl 29 _ rfl g3 0 rfl 29 (bvs hd) (bvs hd) h6 (fun j v h => (by rw [Nat.zero_add]; exact h)) (.array 32 5) Try.underlying29 rfl h32d.out ?_)
        | (go_at_call 20; refine (HND.out _).mono ?_; rintro e W1 ⟨rfl, hb1⟩)
        | ((with_reducible show wpList _ _ _ (⟨none, .store _ _ _, _, _, _, _⟩ :: _) _ _); refine wl_store rfl 29 _ _ rfl g6 0 rfl (bvs Y) rfl 29 _ (hA6.kept hb1) h32y.out (by rw [L32y.out, L32.out]; decide) (bvs_one _) ?_; intro W2 hA2 hg2' hs2))
      rw [whole_store _ _ (by rw [L32y.out, L32.out])] at hA2
      have K2 : KB (fun k => k = g3 ∨ k = g4 ∨ k = g6) W W2 := (kb_below hb1).grown hg2' (.inr (.inr rfl))
      have Y3 : Arr W2 g3 29 (bvs hd) := (h6.kept hb1).grown hg2' (by intro e; injection e with e; omega)
      have Y4 : Arr W2 g4 31 [.int .u64 (b : Int)] := (h7.kept hb1).grown hg2' (by intro e; injection e with e; omega)
      clear hg2' hs2 hb1
      refine wpIn_region_steps (.round l) (by rintro ⟨a, w, e⟩; exact e) [[], [], [], [1, 2], [0], [3, 4, 0, 1, 2]] (by kernel_rfl) (by kernel_rfl) rfl (fun L a wx => ∃ v20 v21 v22 v23, a = ⟨#[.pointer (some ⟨p, 0, none⟩), undef, .pointer (some ⟨g2, 0, none⟩), .pointer (some ⟨g3, 0, none⟩), .pointer (some ⟨g4, 0, none⟩), .int .u64 ↑A, .pointer (some ⟨g6, 0, none⟩), .pointer (some ⟨p, 0, none⟩), .int .u64 ↑n, .bool false, undef, .pointer (some ⟨p, 0, none⟩), .func (.func 33) #[] #[.pointer (some ⟨g4 + 1, 0, none⟩)], .int .u64 ↑A, .agg (bvs X).toArray, .int .u64 ↑b, .bool (decide (0 < b)), .agg (bvs X).toArray, .agg (bvs hd).toArray, .agg (bvs Y).toArray, v20, v21, v22, v23, undef], []⟩ ∧ InvRRootB Y hd A b p n g2 g3 g4 g6 X W L v20 v21 v22 v23 wx) ?_ ⟨?_, ?_, ?_, ?_, ?_, ?_, trivial⟩ ?_
      · refine ⟨_, _, _, _, rfl, ⟨?_, ?_, ?_, ?_, hA2.drew, Y3.drew, Y4.drew, K2.drew⟩⟩ <;> (intro h; exact absurd h (by decide))
      · rintro L a wx ⟨v20, v21, v22, v23, rfl, hI⟩ hL hdep hcl K hK
        refine ow_load 29 _ rfl g6 0 rfl 29 (bvs Y) (bvs Y) hI.a6 (fun j v h => by rw [Nat.zero_add]; exact h) (.array 32 5) Try.underlying29 rfl h32y.out ?_
        exact hK _ _ ⟨_, v21, v22, v23, rfl, ⟨fun _ => rfl, hI.t1, hI.t2, hI.t3, hI.a6, hI.a3, hI.a4, hI.kb⟩⟩
      · rintro L a wx ⟨v20, v21, v22, v23, rfl, hI⟩ hL hdep hcl K hK
        have hA4 : Arr wx g4 31 [.int .u64 (b : Int)] := by
          have h7 := hI.a4
          cases h6 : L 5 with
          | true =>
            have h4 := hcl 5 (by decide) h6 1 (by decide)
            rw [hL] at h4
            cases h4
          | false =>
            rw [h6] at h7
            exact h7
        have c4 := hA4.cell 0
        simp only [List.getElem?_cons_zero] at c4
        go_simp
        exact hK _ _ ⟨v20, _, v22, v23, rfl, ⟨hI.t0, fun _ => rfl, hI.t2, hI.t3, hI.a6, hI.a3, hI.a4, hI.kb⟩⟩
      · rintro L a wx ⟨v20, v21, v22, v23, rfl, hI⟩ hL hdep hcl K hK
        go_simp
        exact hK _ _ ⟨v20, v21, _, v23, rfl, ⟨hI.t0, hI.t1, fun _ => rfl, hI.t3, hI.a6, hI.a3, hI.a4, hI.kb⟩⟩
      · rintro L a wx ⟨v20, v21, v22, v23, rfl, hI⟩ hL hdep hcl K hK
        obtain rfl := hI.t1 (hdep 1 (by decide))
        obtain rfl := hI.t2 (hdep 2 (by decide))
        go_simp
        rw [hwr.out]
        exact hK _ _ ⟨v20, _, _, _, rfl, ⟨hI.t0, hI.t1, hI.t2, fun _ => rfl, hI.a6, hI.a3, hI.a4, hI.kb⟩⟩
      · rintro L a wx ⟨v20, v21, v22, v23, rfl, hI⟩ hL hdep hcl K hK
        obtain rfl := hI.t0 (hdep 0 (by decide))
        have hA3 : Arr wx g3 29 (bvs hd) := by
          have h7 := hI.a3
          rw [hL] at h7
          exact h7
        refine ow_store 29 _ _ rfl g3 0 rfl (bvs Y) rfl 29 _ hA3 h32y.out (by rw [L32y.out, L32d.out]; decide) (bvs_one _) ?_
        intro w' hA3' hg hs
        rw [whole_store _ _ (L32d.out.trans L32y.out.symm)] at hA3'
        exact hK _ _ ⟨_, v21, v22, v23, rfl, ⟨hI.t0, hI.t1, hI.t2, hI.t3, hI.a6.grown hg (by intro e; injection e with e; omega), hA3', hI.a4.grown hg (by intro e; injection e with e; omega), hI.kb.grown hg (.inl rfl)⟩⟩
      · rintro L a wx ⟨v20, v21, v22, v23, rfl, hI⟩ hL hdep hcl K hK
        obtain rfl := hI.t3 (hdep 3 (by decide))
        obtain rfl := hI.t0 (hdep 0 (by decide))
        obtain rfl := hI.t1 (hdep 1 (by decide))
        obtain rfl := hI.t2 (hdep 2 (by decide))
        have hA4 : Arr wx g4 31 [.int .u64 (b : Int)] := by
          have h7 := hI.a4
          rw [hL] at h7
          exact h7
        have c4 := hA4.cell 0
        have f4 := hA4.frozen 0
        simp only [List.getElem?_cons_zero] at c4
        have hst := hA4.store 0 (.int .u64 ((b : Int) + (A : Int)))
        go_simp
        exact hK _ _ ⟨_, _, _, _, rfl, ⟨hI.t0, hI.t1, hI.t2, hI.t3, hI.a6.other _ (by show g4 ≠ g6; omega) _, hI.a3.other _ (by show g4 ≠ g3; omega) _, hst, hI.kb.grown (grownBy_setCell' _ _ _) (.inr (.inl rfl))⟩⟩
      · rintro a wx ⟨v20, v21, v22, v23, rfl, hI⟩
        have hA3 := hI.a3
        have hA4 := hI.a4
        have hkb := hI.kb
        clear hI
        rw [if_pos rfl] at hA3 hA4
        have hKB : KB (fun k => k = g3 ∨ k = g4 ∨ k = g6) W wx := hkb
        have hA4' : Arr wx g4 31 [.int .u64 ((b + A : Nat) : Int)] := by rw [Int.natCast_add]; exact hA4
        have hz := HAB.out
        have q5 := Q5.out
        have qw := QW.out
        have hz3 := H3.out
        have hz4 := H4.out
        have hz10 := H10.out
        have hfin : KeepsFrom w5.heap.size W wx ∧ KeptR w.heap.size (g4 + 1) W wx ∧ RootI m p g2 g3 g4 w5.heap.size P w (pre ++ [ch]) wx := by
          refine ⟨keeps_kb hKB (fun k hk => ?_), ⟨hKB.under (fun k hk => by rcases hk with e | e | e <;> omega) (by omega), hKB.block _ (Boxed.lt h8) (by intro e; rcases e with e | e | e <;> omega)⟩, ⟨Y, b + A, fun e1 e2 e3 => ?_, by rw [← bvs_len]; exact L32y.out, by rw [List.length_append, List.length_singleton]; omega, by rw [List.length_append, List.length_singleton]; omega, arr_kb h5 hKB (by intro e; rcases e with e | e | e <;> omega), hA3, hA4', arr_kb (xs := [_]) h8 hKB (by intro e; rcases e with e | e | e <;> omega), h9.trans (hKB.under (fun k hk => by rcases hk with e | e | e <;> omega) (by omega)), Nat.le_trans hz10 hKB.size⟩⟩
          · rcases hk with rfl | rfl | rfl
            · exact arr_cells h6
            · exact arr_cells h7
            · exact arr_cells hA6
          · obtain ⟨y1, y2⟩ := HSN.out e1
            rw [List.length_append, List.length_singleton]
            exact HNX.out y1 y2 (by omega)
        exact hfin
  case done =>
    rintro D ys W hD hys ⟨hd, b, h1, h2, h3, h4, h5, h6, h7, h8, h9, h10⟩ hK
    have hyl : ys.length = m := by rw [← List.length_map (f := (·.1)), hys, List.length_range]
    have hm0 : 0 < m := by
      obtain ⟨r, e1, e2⟩ := lowP_low n 1 hn0
      rw [hmn, e1]
      simp
    have hd' : hd = foldP P := by
      rw [h1 (by rw [hyl]; exact hys) (by omega) (by omega), hyl, Nat.sub_self, List.drop_zero]
    have h32d : Hid ((Try.prog.info? 29).map (·.size) = some (bvs hd).length) := by show _ = _; rw [bvs_len, h2]; exact sizeD
    have L32d : Hid ((bvs hd).length = 32) := by show _ = _; rw [bvs_len, h2]
    have HD := Lib.hid hd'
    have Q5 := Lib.hid q5
    have QW := Lib.hid qw
    clear hd' h1 h3 h4 hys hyl hm0 hmn hP32 hPl hcnt R5 q5 qw X2 X3 X4 A5
    go_wp2_with (first
      | ((with_reducible show wpList _ _ _ (⟨some 24, .load _ _, _, _, _, _⟩ :: _) _ _); refine wl_load rfl 29 _ rfl g3 0 rfl 29 (bvs hd) (bvs hd) h6 (fun j v h => (by rw [Nat.zero_add]; exact h)) (.array 32 5) Try.underlying29 rfl h32d.out ?_)
      | ((with_reducible show wpList _ _ _ (⟨none, .store _ _ _, _, _, _, _⟩ :: _) _ _); refine wl_store rfl 29 _ _ rfl g2 0 rfl (bvs hd) rfl 29 _ h5 h32d.out (by rw [L32d.out]; decide) (bvs_one _) ?_; intro W2 hA2 hg2' hs2))
    rw [whole_store _ _ (by rw [L32d.out]; rfl)] at hA2
    have q5 := Q5.out
    have qw := QW.out
    have hK2 := (hg2'.block D (Array.getElem?_eq_some_iff.1 hK).1 (by intro e; injection e with e; omega)).trans hK
    have hB2 : Below w.heap.size w W2 := h9.grown hg2' (by omega) (by intro k e; injection e with e; omega)
    refine ⟨by simp, .inl ⟨_, _, rfl, run_takeDeferred hK2, ?_⟩⟩
    have hA3 : Arr (W2.putObj D (.deferred none)) g2 29 (bvs hd) := (World.putObj_heap_other (by omega)).trans hA2
    exact ⟨_, results_cell_row rfl _ _ g2 29 _ (0, 0) (.array 32 5) rfl hA3 Try.underlying29 rfl (by simpa using h32d.out), by rw [HD.out], hB2.trans (belowK_b (w := w5) (by omega) W2 D _ _ hD hK2 rfl rfl)⟩
  case stop =>
    rintro D c pre W _ _ h _
    exact h.elim
end Go.Proofs.Ytlfncgpjgbpdjaa
