/-
  Layer 10: the program's closure and its Ranges. Conditions: those in each statement.
-/
import Derived.Test.YtbmhobbeimhodaaInC
namespace Go.Proofs.Ytbmhobbeimhodaa
open Go.RowKit

section
variable {P : Program} {ops : Array Oper} {rest : List Oper} {o : Oper} {a : Act} {K : Act → World → Prop} {Q : Exit → Act → World → Prop} {w : World}
/-- a new variable of one cell -/
theorem wl_alloc1 (hg : o.guard = none) (t : TypeId) (ho : o.op = .alloc t) (z : Value) (n : Nat) (hz : (P.info? t).map (fun i => (i.zero, i.size)) = some (some z, n)) (hc : z.cells = #[z])
    (hK : ∀ w', Arr w' w.heap.size t [z] → Below w.heap.size w w' → w'.heap.size = w.heap.size + 1 → wpList P ops Q rest (a.put o.dst (.pointer (some ⟨w.heap.size, 0, none⟩))) w') :
    wpList P ops Q (o :: rest) a w := by
  have h0 := (zero_of_info (P := P) hz).1
  refine wpList_plain hg fun K hK' => ?_
  unfold Oper.wp execOp
  simp only [ho, Sem.run_bind, Instr.alloc, h0, newVar, newRow, run_newObj_alloc, Sem.run_pure, Result.andThen_ok, hc]
  exact hK' _ _ (hK _ (Arr.new w t [z]) ((Below.refl _ _).alloc (Nat.le_refl _) _) (by simp))
/-- one cell of a block, stored -/
theorem ow_store1 (ty : TypeId) (x y : Operand) (ho : o.op = .store ty x y) (g off : Nat) (hx : a.eval x = .pointer (some ⟨g, off, none⟩)) (v : Value) (hy : a.eval y = v) (hv : v.cells = #[v]) (h1 : v.oneCell' = true)
    (T : TypeId) (old : List Value) (hA : Arr w g T old) (hi : (P.info? ty).map (·.size) = some 1) (hl : off < old.length)
    (hK : ∀ w', Arr w' g T (old.set off v) → w.grownBy w' (some g) → w'.heap.size = w.heap.size → K (a.put o.dst undef) w') : o.wp P a w K Q := by
  have hst := run_storeCells_cells (P := P) g off [v] 0 w (fun j hj => by
      have e : j = 0 := by simpa using hj
      subst e
      rw [hA.cell]
      simp [hl]) (fun j hj => by rw [hA.frozen]) (fun u hu => by rw [List.mem_singleton.1 hu]; exact h1)
  have hrun : (storeVar ty ⟨g, off, none⟩ v).run P w = .ok () (w.setCell ⟨g, off, none⟩ v) := by
    cases hq : P.info? ty with
    | none => simp [hq] at hi
    | some i =>
      have hi' : i.size = 1 := by simpa [hq] using hi
      have e : w.setCells g (off + 0) [v] = w.setCell ⟨g, off, none⟩ v := rfl
      rw [e] at hst
      simp [storeVar, sizeOf, typeInfo, hq, hi', hv, hst]
  unfold Oper.wp execOp
  simp only [ho, hx, hy, Instr.storeAt, Instr.sureAddr, Sem.run_bind, Sem.run_pure, Result.andThen_ok, hrun]
  exact hK _ (hA.store off v) ⟨rfl, rfl, rfl, Nat.le_of_eq (World.size_setCell ..).symm, fun k _ hk => Below.heap_setCell _ _ _ k (fun e => hk (by rw [e]))⟩ (by simp [World.setCell])
theorem wl_store1 (hgd : o.guard = none) (ty : TypeId) (x y : Operand) (ho : o.op = .store ty x y) (g off : Nat) (hx : a.eval x = .pointer (some ⟨g, off, none⟩)) (v : Value) (hy : a.eval y = v) (hv : v.cells = #[v]) (h1 : v.oneCell' = true)
    (T : TypeId) (old : List Value) (hA : Arr w g T old) (hi : (P.info? ty).map (·.size) = some 1) (hl : off < old.length)
    (hK : ∀ w', Arr w' g T (old.set off v) → w.grownBy w' (some g) → w'.heap.size = w.heap.size → wpList P ops Q rest (a.put o.dst undef) w') : wpList P ops Q (o :: rest) a w :=
  wpList_plain hgd fun _ hK' => ow_store1 ty x y ho g off hx v hy hv h1 T old hA hi hl fun w' k1 k2 k3 => hK' _ _ (hK w' k1 k2 k3)
end

/-- another element's type: another block -/
theorem row_other {w : World} {g B : Nat} {T E : TypeId} {xs : List Value} {v : Value} {L : List (Nat × Nat)} (h : Arr w g T xs) (hO : OwnG E 2 encR w B v L) (hne : T ≠ E) : some g ≠ v.ownBlock := by
  obtain ⟨h1, ⟨rfl, hn⟩ | ⟨b, cap, cur, rfl, hbb, hg, r⟩⟩ := hO.row
  · intro e; cases e
  · intro e
    injection e with e
    subst e
    unfold Arr at h
    rw [hg] at h
    injection h with h
    injection h with _ h2 _
    exact hne h2.symm
theorem infoVs : (Try.prog.info? 23).map (·.size) = some 1 := by kernel_rfl
theorem kb_row {Z : Nat → Prop} {w w' w'' : World} {r : Option Nat} (h : KB Z w w') (hg : w'.grownBy w'' r) (hs : ∀ g, r = some g → Z g) : KB Z w w'' := by
  cases r with
  | none => exact h.below ⟨hg.os, hg.tape, hg.output, hg.size, fun k hk => hg.block k hk (by intro e; cases e)⟩
  | some g => exact h.grown hg (hs g rfl)
abbrev fnD (bi bd bo : Nat) : Value := .func (.func 24) #[] #[.pointer (some ⟨bi, 0, none⟩), .pointer (some ⟨bd, 0, none⟩), .pointer (some ⟨bo, 0, none⟩)]
/-- what the closure does -/
def DownD (bo B : Nat) (L : List (Nat × Nat)) (w w' : World) : Prop := ∃ v', Arr w' bo 23 [v'] ∧ OwnRp w' B v' L ∧ KB (fun k => k = bo ∨ B ≤ k) w w'
set_option maxRecDepth 100000 in
set_option maxHeartbeats 3200000 in
theorem down_any (bi bd bo i B : Nat) (hoB : bo < B) : ∀ (N n f t : Nat), n ≤ N → t = f + n → 1 ≤ n → f ≤ i → i < t → t ≤ 1048576 → ∀ (w : World) (v : Value) (L : List (Nat × Nat)),
    Arr w bi 22 [.int .u64 (i : Int)] → Arr w bd 57 [fnD bi bd bo] → Arr w bo 23 [v] → OwnRp w B v L → L.length ≤ 1048576 → B ≤ w.heap.size →
    Calls Try.prog 24 #[.int .u64 (f : Int), .int .u64 (t : Int), .pointer (some ⟨bi, 0, none⟩), .pointer (some ⟨bd, 0, none⟩), .pointer (some ⟨bo, 0, none⟩)] w fun e w' => e = .returned (.tuple #[]) ∧ DownD bo B (L ++ rgF (i - f) n f) w w' := by
  intro N
  induction N using Nat.strongRecOn with
  | _ N ih =>
    intro n f t hN ht h1 hfi hit ht20 w v L hI hD hO hOw hLl hBw
    have en : (n : Int) = (t : Int) - (f : Int) := by omega
    have hft : (f : Int) ≤ (t : Int) := by omega
    have c1 := hI.cell 0
    have c2 := hD.cell 0
    have c3 := hO.cell 0
    simp only [List.getElem?_cons_zero] at c1 c2 c3
    by_cases hn1 : n = 1
    · have hS := fun w => Split_one w
      have e1 : (1 : Int) = (t : Int) - (f : Int) := by omega
      rw [e1] at hS
      rw [rgF_one _ _ _ (by omega), List.append_nil]
      have HS := Lib.hid hS
      clear hS ih hN en e1 c1 c2 c3
      have HT := Lib.hid ht
      clear ht
      go_enter Try.func24, Try.ntmps24
      go_wp2_with (go_at_call 23; refine (HS.out _).mono ?_; rintro e w1 ⟨rfl, rfl⟩)
      exact bodyPost_ret (results_none rfl _ _ _) rfl ⟨rfl, v, hO, hOw, KB.refl _ _⟩
    · obtain ⟨b1, b2, b3⟩ := splK_bounds (n := n) (by omega)
      have hS := fun w => Split_nat n w (by omega) (by omega)
      rw [en] at hS
      have HS := Lib.hid hS
      obtain ⟨k, hk⟩ : ∃ k, k = splK n := ⟨_, rfl⟩
      have hm1 : ((f + k : Nat) : Int) = (f : Int) + (k : Int) := by push_cast; rfl
      by_cases hlt : i < f + k
      · have hIH := ih k (by omega) k f (f + k) (Nat.le_refl _) rfl (by omega) hfi hlt (by omega) w v L hI hD hO hOw hLl hBw
        have hlen := rg_few (i - f) k f (by omega)
        rw [rgF_low (i - f) n f (by omega) (by omega), ← hk, ← List.append_assoc, ← ht]
        rw [← hk] at HS
        rw [hm1] at hIH
        obtain ⟨M, hM⟩ : ∃ M, M = L ++ rgF (i - f) k f := ⟨_, rfl⟩
        rw [← hM] at hIH ⊢
        have hMl : M.length ≤ 1048596 := by rw [hM, List.length_append]; omega
        have hc : (i : Int) < (f : Int) + (k : Int) := by omega
        have hk1 : (0 : Int) ≤ (k : Int) := by omega
        have hk2 : (f : Int) + (k : Int) ≤ 1048576 := by omega
        have HIH := Lib.hid hIH
        have HML := Lib.hid hMl
        have HM1 := Lib.hid hm1
        have HBW := Lib.hid hBw
        clear hS ih hN en hIH hMl hM hm1 hlen hk b1 b2 b3 ht hlt
        go_enter Try.func24, Try.ntmps24
        go_wp2_with (first
          | (go_at_call 23; refine (HS.out _).mono ?_; rintro e w1 ⟨rfl, rfl⟩)
          | (go_at_call 24; refine HIH.out.mono ?_; rintro e w2 ⟨rfl, v2, hO2, hOw2, hkb2⟩; have c4 := hO2.cell 0; simp only [List.getElem?_cons_zero] at c4; have hBw2 : B ≤ w2.heap.size := (by have := hkb2.size; have := HBW.out; omega))
          | ((with_reducible show wpList _ _ _ (⟨some 32, .build _ _, _, _, _, _⟩ :: _) _ _); refine wpList_buildTo rfl 52 _ rfl (some 32) rfl (encR (f + k, t)).toArray (builtRp _ _) ?_)
          | ((with_reducible show wpList _ _ _ (⟨some 33, .buildSlice _ _ _, _, _, _, _⟩ :: _) _ _); refine wl_litG1 (enc := encR) infoRp rfl 32 rfl (f + k, t) rfl (by omega) (.agg (encR (f + k, t)).toArray) rfl rfl ?_; intro w3 hL3 hb3 hs3)
          | ((with_reducible show wpList _ _ _ (⟨some 34, _, _, _, _, _⟩ :: _) _ _); refine wl_appendG1 infoRp rfl (.tmp 29) (.tmp 33) rfl B v2 M rfl (hOw2.to hb3) w2.heap.size (f + k, t) rfl hL3 rfl (encR_one _) (by have := HML.out; unfold maxLen; omega) (by have := HML.out; omega) (by omega) ?_; intro v4 w4 hO4 hg4 hb4; obtain ⟨a4, cp4, rfl, hrd4, -⟩ := hO4.rd (by omega))
          | ((with_reducible show wpList _ _ _ (⟨none, .store _ _ _, _, _, _, _⟩ :: _) _ _); refine wl_store1 rfl 23 _ _ rfl bo 0 rfl _ rfl rfl rfl 23 [v2] ((hO2.kept hb3).grown hg4 (row_other hO2 hOw2 (by decide))) infoVs (by simp) ?_; intro w5 hA5 hg5 hs5))
        refine bodyPost_end (results_none rfl _ _ _) rfl ?_
        have s3 := hb3.size
        have s4 := hg4.size
        have hOB := World.ownsRow.lt hOw2.row
        have hne : (Value.slice a4 (M ++ [(f + k, t)]).length cp4).ownBlock ≠ some bo := fun e => by have := (World.ownsRow.lt hO4.row bo e).1; omega
        refine ⟨rfl, _, hA5, hO4.by hg5 (.inr hne), ?_⟩
        have k3 := hkb2.below hb3
        have k4 : KB (fun k => k = bo ∨ B ≤ k) w1 w4 := kb_row k3 hg4 fun g e => .inr (hOB g e).1
        exact k4.grown hg5 (.inl rfl)
      · have hIH := ih (n - k) (by omega) (n - k) (f + k) t (Nat.le_refl _) (by omega) (by omega) (by omega) hit ht20 w v L hI hD hO hOw hLl hBw
        have hlen := rg_few (i - f - k) (n - k) (f + k) (by omega)
        rw [show i - (f + k) = i - f - k by omega] at hIH
        rw [rgF_high (i - f) n f (by omega) (by omega), ← hk, ← List.append_assoc]
        rw [← hk] at HS
        rw [hm1] at hIH
        obtain ⟨M, hM⟩ : ∃ M, M = L ++ rgF (i - f - k) (n - k) (f + k) := ⟨_, rfl⟩
        rw [← hM] at hIH ⊢
        have hMl : M.length ≤ 1048596 := by rw [hM, List.length_append]; omega
        have hc : ¬ ((i : Int) < (f : Int) + (k : Int)) := by omega
        have hk1 : (0 : Int) ≤ (k : Int) := by omega
        have hk2 : (f : Int) + (k : Int) ≤ 1048576 := by omega
        have HIH := Lib.hid hIH
        have HML := Lib.hid hMl
        have HM1 := Lib.hid hm1
        have HBW := Lib.hid hBw
        clear hS ih hN en hIH hMl hM hm1 hlen hk b1 b2 b3 ht hlt
        go_enter Try.func24, Try.ntmps24
        go_wp2_with (first
          | (go_at_call 23; refine (HS.out _).mono ?_; rintro e w1 ⟨rfl, rfl⟩)
          | (go_at_call 24; refine HIH.out.mono ?_; rintro e w2 ⟨rfl, v2, hO2, hOw2, hkb2⟩; have c4 := hO2.cell 0; simp only [List.getElem?_cons_zero] at c4; have hBw2 : B ≤ w2.heap.size := (by have := hkb2.size; have := HBW.out; omega))
          | ((with_reducible show wpList _ _ _ (⟨some 42, .build _ _, _, _, _, _⟩ :: _) _ _); refine wpList_buildTo rfl 52 _ rfl (some 42) rfl (encR (f, f + k)).toArray (builtRp _ _) ?_)
          | ((with_reducible show wpList _ _ _ (⟨some 43, .buildSlice _ _ _, _, _, _, _⟩ :: _) _ _); refine wl_litG1 (enc := encR) infoRp rfl 42 rfl (f, f + k) rfl (by omega) (.agg (encR (f, f + k)).toArray) rfl rfl ?_; intro w3 hL3 hb3 hs3)
          | ((with_reducible show wpList _ _ _ (⟨some 44, _, _, _, _, _⟩ :: _) _ _); refine wl_appendG1 infoRp rfl (.tmp 39) (.tmp 43) rfl B v2 M rfl (hOw2.to hb3) w2.heap.size (f, f + k) rfl hL3 rfl (encR_one _) (by have := HML.out; unfold maxLen; omega) (by have := HML.out; omega) (by omega) ?_; intro v4 w4 hO4 hg4 hb4; obtain ⟨a4, cp4, rfl, hrd4, -⟩ := hO4.rd (by omega))
          | ((with_reducible show wpList _ _ _ (⟨none, .store _ _ _, _, _, _, _⟩ :: _) _ _); refine wl_store1 rfl 23 _ _ rfl bo 0 rfl _ rfl rfl rfl 23 [v2] ((hO2.kept hb3).grown hg4 (row_other hO2 hOw2 (by decide))) infoVs (by simp) ?_; intro w5 hA5 hg5 hs5))
        refine bodyPost_end (results_none rfl _ _ _) rfl ?_
        have s3 := hb3.size
        have s4 := hg4.size
        have hOB := World.ownsRow.lt hOw2.row
        have hne : (Value.slice a4 (M ++ [(f, f + k)]).length cp4).ownBlock ≠ some bo := fun e => by have := (World.ownsRow.lt hO4.row bo e).1; omega
        refine ⟨rfl, _, hA5, hO4.by hg5 (.inr hne), ?_⟩
        have k3 := hkb2.below hb3
        have k4 : KB (fun k => k = bo ∨ B ≤ k) w1 w4 := kb_row k3 hg4 fun g e => .inr (hOB g e).1
        exact k4.grown hg5 (.inl rfl)
/-- whether there is such a leaf -/
def okR (i s : Nat) : Bool := decide (s ≤ 1048576) && decide (i < s)
def rE (i s : Nat) : Int := if okR i s then 0 else 1
def rL (i s : Nat) : List (Nat × Nat) := if okR i s then rgF i s 0 else []
theorem okR_yes {i s : Nat} (h : okR i s = true) : s ≤ 1048576 ∧ i < s := by simpa [okR] using h
theorem okR_no {i s : Nat} (h : okR i s = false) : 1048576 < s ∨ (s ≤ 1048576 ∧ s ≤ i) := by
  simp [okR] at h
  omega
theorem rL_few (i s : Nat) : (rL i s).length ≤ 20 := by
  unfold rL
  cases h : okR i s with
  | false => simp
  | true => exact rg_few i s 0 (okR_yes h).1
section
variable {P : Program} {ops : Array Oper} {rest : List Oper} {o : Oper} {a : Act} {Q : Exit → Act → World → Prop} {w : World}
/-- a new variable of one cell that holds a value -/
theorem wl_box1 (hg : o.guard = none) (t : TypeId) (x : Operand) (ho : o.op = .box t x) (v : Value) (hx : a.eval x = v) (hv : v.cells = #[v])
    (hK : ∀ w', Arr w' w.heap.size t [v] → Below w.heap.size w w' → w'.heap.size = w.heap.size + 1 → wpList P ops Q rest (a.put o.dst (.pointer (some ⟨w.heap.size, 0, none⟩))) w') :
    wpList P ops Q (o :: rest) a w := by
  refine wpList_plain hg fun K hK' => ?_
  unfold Oper.wp execOp
  simp only [ho, hx, Sem.run_bind, Instr.box, newVar, newRow, run_newObj_alloc, Sem.run_pure, Result.andThen_ok, hv]
  exact hK' _ _ (hK _ (Arr.new w t [v]) ((Below.refl _ _).alloc (Nat.le_refl _) _) (by simp))
end
theorem infoFs : (Try.prog.info? 57).map (·.size) = some 1 := by kernel_rfl
set_option maxRecDepth 100000 in
set_option maxHeartbeats 1600000 in
theorem Ranges_any (i s : Nat) (w : World) :
    Calls Try.prog 10 #[.int .u64 (i : Int), .int .u64 (s : Int)] w fun e w' => ∃ v, e = .returned (.tuple #[v, .int .i64 (rE i s)]) ∧ OwnRp w' w.heap.size v (rL i s) ∧ Below w.heap.size w w' := by
  cases hm : okR i s with
  | false =>
    have e1 : rE i s = 1 := by simp only [rE, hm]; rfl
    have e2 : rL i s = [] := by simp only [rL, hm]; rfl
    rw [e1, e2]
    clear e1 e2
    rcases okR_no hm with h | ⟨h, h'⟩
    · have c : (1048576 : Int) < (s : Int) := by omega
      clear hm h
      go_enter Try.func10, Try.ntmps10
      go_wp2
      go_ret2
      exact ⟨_, rfl, OwnG.nil _ _, (Below.refl _ _).alloc (Nat.le_refl _) _⟩
    · have c : ¬ ((1048576 : Int) < (s : Int)) := by omega
      have c2 : (s : Int) ≤ (i : Int) := by omega
      clear hm h h'
      go_enter Try.func10, Try.ntmps10
      go_wp2_with (first
        | ((with_reducible show wpList _ _ _ (⟨some 2, .box _ _, _, _, _, _⟩ :: _) _ _); refine wl_box1 rfl 22 _ rfl _ rfl rfl ?_; intro w1 hA1 hb1 hs1; have c3 := hA1.cell 0; simp only [List.getElem?_cons_zero] at c3))
      go_ret2
      exact ⟨_, rfl, OwnG.nil _ _, hb1⟩
  | true =>
    obtain ⟨hs20, his⟩ := okR_yes hm
    have e1 : rE i s = 0 := by simp only [rE, hm]; rfl
    have e2 : rL i s = rgF i s 0 := by simp only [rL, hm]; rfl
    rw [e1, e2]
    have c : ¬ ((1048576 : Int) < (s : Int)) := by omega
    have c2 : ¬ ((s : Int) ≤ (i : Int)) := by omega
    have HD : Hid (∀ (bi bd bo B : Nat) (w : World), bo < B → Arr w bi 22 [.int .u64 (i : Int)] → Arr w bd 57 [fnD bi bd bo] → Arr w bo 23 [.slice none 0 0] → B ≤ w.heap.size → Calls Try.prog 24 #[.int .u64 0, .int .u64 (s : Int), .pointer (some ⟨bi, 0, none⟩), .pointer (some ⟨bd, 0, none⟩), .pointer (some ⟨bo, 0, none⟩)] w fun e w' => e = .returned (.tuple #[]) ∧ DownD bo B (rgF i s 0) w w') :=
      fun bi bd bo B w h1 h2 h3 h4 h5 => down_any bi bd bo i B h1 s s 0 s (Nat.le_refl _) (by omega) (by omega) (by omega) his hs20 w _ [] h2 h3 h4 (OwnG.nil _ _) (by simp) h5
    clear hm hs20 his e1 e2
    generalize rgF i s 0 = L at *
    have hmf : ∀ (fn : Fn) (first cap : Array Value) (w : World), (Instr.makeFunc fn first cap).run Try.prog w = .ok (.func fn first cap) w := fun _ _ _ _ => rfl
    go_enter Try.func10, Try.ntmps10
    go_wp2_with (first
      | ((with_reducible show wpList _ _ _ (⟨some 2, .box _ _, _, _, _, _⟩ :: _) _ _); refine wl_box1 rfl 22 _ rfl _ rfl rfl ?_; intro w1 hA1 hb1 hs1; replace hs1 := Lib.hid hs1; have c3 := hA1.cell 0; simp only [List.getElem?_cons_zero] at c3)
      | ((with_reducible show wpList _ _ _ (⟨some 6, .alloc _, _, _, _, _⟩ :: _) _ _); refine wl_alloc1 rfl 23 rfl _ 1 infoVp rfl ?_; intro w2 hA2 hb2 hs2; replace hs2 := Lib.hid hs2)
      | ((with_reducible show wpList _ _ _ (⟨some 7, .alloc _, _, _, _, _⟩ :: _) _ _); refine wl_alloc1 rfl 57 rfl _ 1 infoFn rfl ?_; intro w3 hA3 hb3 hs3; replace hs3 := Lib.hid hs3)
      | ((with_reducible show wpList _ _ _ (⟨none, .store _ _ _, _, _, _, _⟩ :: _) _ _); refine wl_store1 rfl 57 _ _ rfl w2.heap.size 0 rfl (fnD w.heap.size w2.heap.size w1.heap.size) rfl rfl rfl 57 _ hA3 infoFs (by simp) ?_; intro w4 hA4 hg4 hs4; replace hs4 := Lib.hid hs4; have c4 := hA4.cell 0; simp only [List.set_cons_zero, List.getElem?_cons_zero] at c4)
      | (go_at_call 24; refine (HD.out w.heap.size w2.heap.size w1.heap.size w3.heap.size w4 (by have z1 := hs1.out; have z2 := hs2.out; have z3 := hs3.out; have z4 := hs4.out; omega) (((hA1.kept hb2).kept hb3).grown hg4 (by intro e; injection e with e; have z1 := hs1.out; have z2 := hs2.out; have z3 := hs3.out; have z4 := hs4.out; omega)) hA4 ((hA2.kept hb3).grown hg4 (by intro e; injection e with e; have z1 := hs1.out; have z2 := hs2.out; have z3 := hs3.out; have z4 := hs4.out; omega)) (by have z1 := hs1.out; have z2 := hs2.out; have z3 := hs3.out; have z4 := hs4.out; omega)).mono ?_; rintro e w5 ⟨rfl, v, hA5, hO5, hkb5⟩; have c5 := hA5.cell 0; simp only [List.getElem?_cons_zero] at c5))
    go_ret2
    have z1 := hs1.out
    have z2 := hs2.out
    have z3 := hs3.out
    have z4 := hs4.out
    have b4 : Below w.heap.size w w4 := ((hb1.trans (hb2.mono (by omega))).trans (hb3.mono (by omega))).grown hg4 (by omega) (by intro k e; injection e with e; omega)
    exact ⟨_, rfl, hO5.base (by omega), b4.trans (hkb5.under (fun k h => by omega) (by omega))⟩
end Go.Proofs.Ytbmhobbeimhodaa
