/-
  Package tiles: Take. Conditions: those in each statement.
-/
import Derived.Test.YtfidajbenmgflaaDoorTiH
import Derived.Test.YtfidajbenmgflaaDoorRegF
namespace Go.Proofs.YtfidajbenmgflaaDoor
open Go.RowKit Go.Shelf
attribute [local go_sem] Oper.semAt_some

theorem arr_owned {A B : World} {row : Option Nat} {g : Nat} {T : TypeId} {xs : List Value} (h : Arr A g T xs) (hg : A.grownBy B row) (hr : ∀ r, row = some r → ∃ o : Obj, A.heap[r]? = some o ∧ o.isCells = false) : Arr B g T xs :=
  (grownBy_keeps_cells hg hr h rfl).trans h
theorem boxed_owned {A B : World} {row : Option Nat} {g : Nat} {T : TypeId} {v : Value} (h : Boxed A g T v) (hg : A.grownBy B row) (hr : ∀ r, row = some r → ∃ o : Obj, A.heap[r]? = some o ∧ o.isCells = false) : Boxed B g T v :=
  (grownBy_keeps_cells hg hr h rfl).trans h
theorem below_owned {n : Nat} {w A B : World} {row : Option Nat} (h : Below n w A) (hn : n ≤ A.heap.size) (hg : A.grownBy B row) (hr : ∀ r, row = some r → n ≤ r) : Below n w B := h.grown hg hn hr
theorem keeps_kb {B : Nat} {Z : Nat → Prop} {W W' : World} (h : KB Z W W') (hz : ∀ k, Z k → ∃ o : Obj, W.heap[k]? = some o ∧ o.isCells = true) : KeepsFrom B W W' :=
  ⟨h.size, fun k o _ hk ho => by
    by_cases e : Z k
    · obtain ⟨o', h1, h2⟩ := hz k e
      rw [hk] at h1
      cases h1
      rw [ho] at h2
      cases h2
    · exact (h.block k (Array.getElem?_eq_some_iff.1 hk).1 e).trans hk⟩
section
variable {P : Program} {o : Oper} {a : Act} {K : Act → World → Prop} {Q : Exit → Act → World → Prop} {w : World}
theorem ow_of_wl (hg : o.guard = none) (h : wpList P #[o] (fun e a w => match e with | .normal => K a w | _ => False) [o] a w) : o.wp P a w K Q := by
  unfold wpList at h
  rw [if_pos (by simp [Region.wanted, hg])] at h
  rcases h with h | ⟨-, hx⟩
  · unfold Oper.wp at h ⊢
    generalize (execOp a.eval o).run P w = r at *
    cases r with
    | ok x w' =>
      cases x with
      | value v => exact h
      | skip => exact h
      | defer d => exact h
      | enter f args =>
        refine Calls.mono h fun e w'' he => ?_
        cases e with
        | returned v => exact he
        | panicked c => exact he.elim
        | outgrown => obtain ⟨_, _, he⟩ := he; exact he.elim
      | row rw args => exact h
      | _ => exact h.elim
    | halt x w' =>
      cases x with
      | panic v => exact h.elim
      | _ => exact h.elim
  · obtain ⟨_, _, e⟩ := hx
    exact e.elim
end
theorem KB.by' {S : Nat → Prop} {w w' : World} {r : Option Nat} (hg : w.grownBy w' r) (hs : ∀ g, r = some g → S g) : KB S w w' := by
  cases r with
  | none => exact ⟨hg.os, hg.tape, hg.output, hg.size, fun k hk _ => hg.block k hk (by simp)⟩
  | some q => exact (KB.refl S w).grown hg (hs q rfl)
theorem OwnD.lt {w : World} {B : Nat} {v : Value} {L : List (List UInt8)} (h : OwnD w B v L) {k : Nat} (hk : v.ownBlock = some k) : B ≤ k ∧ k < w.heap.size ∧ ∃ o : Obj, w.heap[k]? = some o ∧ o.isCells = true := by
  have h2 := World.ownsRow.lt h.row k hk
  refine ⟨h2.1, h2.2, ?_⟩
  obtain ⟨h1, ⟨rfl, hn⟩ | ⟨g, cap, cur, rfl, hbb, hg2, r⟩⟩ := h.row
  · cases hk
  · have e : g = k := by simpa [Value.ownBlock] using hk
    subst e
    exact ⟨_, hg2, rfl⟩
theorem OwnD.one {w : World} {B : Nat} {v : Value} {L : List (List UInt8)} (h : OwnD w B v L) : v.cells = #[v] ∧ v.oneCell' = true := by
  obtain ⟨h1, ⟨rfl, hn⟩ | ⟨g, cap, cur, rfl, hbb, hg2, r⟩⟩ := h.row <;> exact ⟨rfl, rfl⟩
theorem ownD_owned {A B : World} {row : Option Nat} {b : Nat} {v : Value} {L : List (List UInt8)} (h : OwnD A b v L) (hg : A.grownBy B row) (hr : ∀ r, row = some r → ∃ o : Obj, A.heap[r]? = some o ∧ o.isCells = false) : OwnD B b v L := by
  refine OwnD.by h hg ?_
  cases hv : v.ownBlock with
  | none => exact .inl rfl
  | some k =>
    refine .inr fun e => ?_
    obtain ⟨o, h1, h2⟩ := hr k e.symm
    obtain ⟨-, -, o2, h3, h4⟩ := h.lt hv
    rw [h1] at h3
    cases h3
    rw [h2] at h4
    cases h4
section
variable {ops : Array Oper} {rest : List Oper} {o : Oper} {a : Act} {Q : Exit → Act → World → Prop} {w : World}
/-- append(hashes, hash), and which block is turned -/
theorem wl_appendB (hgd : o.guard = none) (d s : Operand) (ho : o.op = .call { callee := .builtin .append, args := #[d, s], argTypes := #[37, 37] })
    (B : Nat) (v : Value) (L : List (List UInt8)) (hd : a.eval d = v) (hown : OwnD w B v L) (g : Nat) (x : List UInt8) (hs : a.eval s = .slice (some ⟨g, 0, none⟩) 1 1)
    (hA : Arr w g 48 (bvs x)) (hx : x.length = 32) (hlen : L.length + 1 ≤ 6000000000000) (hB : B ≤ w.heap.size)
    (hK : ∀ v' w', OwnD w' B v' (L ++ [x]) → w.grownBy w' v.ownBlock → wpList Tryd.prog ops Q rest (a.put o.dst v') w') : wpList Tryd.prog ops Q (o :: rest) a w := by
  obtain ⟨i0, hi, hz0, hz1, hz2⟩ := info_parts infoDg
  refine wpList_append_own_wide w hgd d s 37 ho B 48 i0 _ 32 32 Tryd.underlying37 hi hz0 hz1 hz2 (by simp [Value.cells, bvs_len, Z8]) (by decide) v _ _ hd hown.row ⟨g, 0, none⟩ 1 1 (bvs x) hs (by rw [bvs_len, hx])
    (fun j u hu => by rw [Addr.add_lit, Nat.zero_add, hA.cell]; exact hu) (bvs_one x) (by unfold maxLen; omega) (by omega) hB ?_
  intro v' w' h1 h2 _
  refine hK v' w' ⟨?_, All32.of fun y hy => ?_⟩ h2
  · rw [dcs_app, List.length_append]
    exact h1
  · rcases List.mem_append.1 hy with h | h
    · exact hown.all.mem h
    · simp only [List.mem_singleton] at h
      rw [h]; exact hx
end
/-- the bytes of a part -/
def prt (xs : List UInt8) (k : Nat) : List UInt8 := (xs.drop (32 * k)).take 32
/-- the hashes of a tile -/
def tkL (xs : List UInt8) : List (List UInt8) := if xs.length % 32 = 0 ∧ 1 ≤ xs.length / 32 ∧ xs.length / 32 ≤ 16 then (List.range (xs.length / 32)).map (prt xs) else []
def tkE (xs : List UInt8) : Int := if xs.length % 32 = 0 ∧ 1 ≤ xs.length / 32 ∧ xs.length / 32 ≤ 16 then 0 else 5
theorem prt_len {xs : List UInt8} {k : Nat} (h : 32 * k + 32 ≤ xs.length) : (prt xs k).length = 32 := by
  unfold prt
  rw [List.length_take, List.length_drop]
  omega
theorem tkL_all (xs : List UInt8) : All32 (tkL xs) := by
  refine All32.of fun x hx => ?_
  unfold tkL at hx
  split at hx
  · obtain ⟨k, hk, rfl⟩ := List.mem_map.1 hx
    have := List.mem_range.1 hk
    exact prt_len (by omega)
  · cases hx
theorem res_cells {fn : Func} {tmps : Array Value} {w : World} {p q : Tmp} {g g' : Nat} {v e : Value} (h : fn.results = #[.cell p 37, .cell q 23]) (hp : tmps.getD p undef = .pointer (some ⟨g, 0, none⟩)) (hq : tmps.getD q undef = .pointer (some ⟨g', 0, none⟩))
    (hA : w.cell? ⟨g, 0, none⟩ = some v) (hB : w.cell? ⟨g', 0, none⟩ = some e) : (results fn tmps).run Tryd.prog w = .ok (.tuple #[v, e]) w := by
  have hp' : tmps[p]?.getD undef = .pointer (some ⟨g, 0, none⟩) := by simpa using hp
  have hq' : tmps[q]?.getD undef = .pointer (some ⟨g', 0, none⟩) := by simpa using hq
  simp only [results, h]
  go_simp
/-- the rounds' invariant -/
structure TakeI (xs : List UInt8) (n : Nat) (bs : Value) (g2 g3 g4 x B : Nat) (w0 : World) (pre : List (Chunk n)) (W : World) : Prop where
  own : ∃ sv, Arr W g4 37 [sv] ∧ OwnD W B sv (pre.map fun c => prt xs c.1)
  full : ∀ c ∈ pre, 32 * c.1 + 32 ≤ n
  few : pre.length ≤ 16
  r2 : Arr W g2 37 [.slice none 0 0]
  r3 : Arr W g3 23 [.int .i64 0]
  box : Boxed W x 38 bs
  low : Below w0.heap.size w0 W
  size : B ≤ W.heap.size
structure TakeX (n g2 g3 : Nat) (w0 : World) (c : Code) (pre : List (Chunk n)) (W : World) : Prop where
  ret : c = .ret
  r2 : Arr W g2 37 [.slice none 0 0]
  r3 : Arr W g3 23 [.int .i64 5]
  why : (∃ c ∈ pre, n < 32 * c.1 + 32) ∨ 17 ≤ pre.length
  low : Below w0.heap.size w0 W
structure InvTk (X : List UInt8) (Lst : List (List UInt8)) (sa : Option Addr) (q sc bb off k cap g4 B1 : Nat) (W0 : World) (L : Nat → Bool) (v17 v18 v19 v20 v21 v22 : Value) (wx : World) : Prop where
  t0 : L 0 = true → v17 = .slice sa q sc
  t1 : L 1 = true → v18 = .slice (some ⟨bb, off + 32 * k, none⟩) 32 (cap - 32 * k)
  t2 : L 2 = true → v19 = .pointer (some ⟨bb, off + 32 * k, none⟩)
  t3 : L 3 = true → v20 = .agg (bvs X).toArray
  t4 : L 4 = true → ∃ gq, v21 = .slice (some ⟨gq, 0, none⟩) 1 1 ∧ Arr wx gq 48 (bvs X) ∧ W0.heap.size ≤ gq
  t5 : L 5 = true → OwnD wx B1 v22 (Lst ++ [X])
  kb : KB (fun j => j = g4 ∨ (Value.slice sa q sc).ownBlock = some j) W0 wx
  ob : L 5 = false → OwnD wx B1 (.slice sa q sc) Lst
  m4 : L 6 = false → Arr wx g4 37 [.slice sa q sc]
  fin : L 6 = true → Arr wx g4 37 [v22]
set_option maxRecDepth 100000 in
set_option maxHeartbeats 4000000 in
theorem Take_any (xs : List UInt8) (p : Option Addr) (n cap : Nat) (hn : n ≤ 140737488355328) (w : World) (hr : Rd w p n cap xs) :
    Calls Tryd.prog 18 #[.slice p n cap] w fun e w' => ∃ v, e = .returned (.tuple #[v, .int .i64 (tkE xs)]) ∧ OwnD w' w.heap.size v (tkL xs) ∧ Below w.heap.size w w' := by
  have hlen := hr.len
  refine (callsIn_wide (n := 4)).1 ?_
  refine callsIn_of_wp_marks Tryd.func18 rfl trivial ?_ rfl
  refine wpIn_wide.2 ?_
  simp only [Tryd.ntmps18, List.size_toArray, List.length_cons, List.length_nil, Nat.reduceAdd, Nat.reduceSub, Array.replicate_succ, Array.replicate_zero, List.push_toArray, List.append_toArray, List.nil_append, List.cons_append]
  obtain ⟨bb, off, ha⟩ : ∃ bb off, 0 < n → p = some ⟨bb, off, none⟩ ∧ bb < w.heap.size := by
    by_cases h0 : 0 < n
    · obtain ⟨bb, off, e, h1, _⟩ := hr.mem (by have := hr.le; omega)
      exact ⟨bb, off, fun _ => ⟨e, h1⟩⟩
    · exact ⟨0, 0, fun h => absurd h h0⟩
  have HRD := Lib.hid hr
  have HA := Lib.hid ha
  have HL := Lib.hid hlen
  have hle := hr.le
  clear hr ha hlen
  go_wp2_with (first
    | ((with_reducible show wpList _ _ _ (⟨some 2, .alloc _, _, _, _, _⟩ :: _) _ _); go_loud (refine wl_alloc1 rfl 37 rfl (.slice none 0 0) 1 (by kernel_rfl) rfl ?_); intro wa hAa hba hsa; have HSa := Lib.hid hsa; clear hsa)
    | ((with_reducible show wpList _ _ _ (⟨some 3, .alloc _, _, _, _, _⟩ :: _) _ _); go_loud (refine wl_alloc1 rfl 23 rfl (.int .i64 0) 1 (by kernel_rfl) rfl ?_); intro wb hAb hbb hsb; have HSb := Lib.hid hsb; clear hsb)
    | ((with_reducible show wpList _ _ _ (⟨some 4, .alloc _, _, _, _, _⟩ :: _) _ _); go_loud (refine wl_alloc1 rfl 37 rfl (.slice none 0 0) 1 (by kernel_rfl) rfl ?_); intro wc hAc hbc hsc; have HSc := Lib.hid hsc; clear hsc)
    | (go_at_call 27; go_loud (refine (parts_any _ _ _ _).mono ?_); rintro e wd ⟨rfl, hwd⟩))
  have hsa := HSa.out
  have hsb := HSb.out
  have hsc := HSc.out
  clear HSa HSb HSc
  obtain ⟨g2, hg2⟩ : ∃ g, g = w.heap.size := ⟨_, rfl⟩
  obtain ⟨g3, hg3⟩ : ∃ g, g = wa.heap.size := ⟨_, rfl⟩
  obtain ⟨g4, hg4⟩ : ∃ g, g = wb.heap.size := ⟨_, rfl⟩
  obtain ⟨x, hx⟩ : ∃ g, g = wc.heap.size := ⟨_, rfl⟩
  have hx1 := Boxed.new wc 38 (.slice p n cap)
  have hbd : Below wc.heap.size wc (wc.alloc (.cells #[.slice p n cap] 38)) := (Below.refl _ _).alloc (Nat.le_refl _) _
  have hsd : (wc.alloc (.cells #[.slice p n cap] 38)).heap.size = wc.heap.size + 1 := by simp
  clear hwd
  generalize wc.alloc (.cells #[.slice p n cap] 38) = wd at hx1 hbd hsd ⊢
  have A2 := ((hAa.kept hbb).kept hbc).kept hbd
  have A3 := (hAb.kept hbc).kept hbd
  have A4 := hAc.kept hbd
  have hB0 : Below w.heap.size w wd := ((hba.trans (hbb.mono hba.size)).trans (hbc.mono (by omega))).trans (hbd.mono (by omega))
  rw [← hg2] at A2 ⊢
  rw [← hg3] at A3 ⊢
  rw [← hg4] at A4 ⊢
  rw [← hx] at hx1 ⊢
  have HG : Hid (g2 = w.heap.size ∧ g3 = g2 + 1 ∧ g4 = g2 + 2 ∧ x = g2 + 3 ∧ wd.heap.size = g2 + 4) := ⟨hg2, by omega, by omega, by omega, by omega⟩
  clear hAa hAb hAc hba hbb hbc hbd hsa hsb hsc hsd hg2 hg3 hg4 hx
  refine (wpIn_wide (n := 4)).1 ?_
  refine wpIn_rangeFunc_ownG (n := 4) rfl (by omega) (gf := 37) (lb := #[.pointer (some ⟨x, 0, none⟩)]) rfl trivial (enters_of Tryd.func37 (by kernel_rfl) rfl)
    (parts_stops 3 (by omega) x bb off n cap p (fun h => (HA.out h).1) hle (by omega) wd hx1) (fun h k => k.trans h) (fun W l o o' hl _ _ _ => World.putObj_heap_other (by have := HG.out; omega)) (Below.refl _ _) (fun _ => rfl)
    (fun pre W => TakeI xs n (.slice p n cap) g2 g3 g4 x wd.heap.size w pre W)
    (fun c pre W => TakeX n g2 g3 w c pre W)
    ?own ?ownx
    ⟨⟨.slice none 0 0, A4, OwnD.nil _ _⟩, (fun c hc => by cases hc), Nat.zero_le _, A2, A3, hx1, hB0, Nat.le_refl _⟩
    (fun c => { tmps := #[.slice p n cap, undef, .pointer (some ⟨g2, 0, none⟩), .pointer (some ⟨g3, 0, none⟩), .pointer (some ⟨g4, 0, none⟩), .slice (some ⟨bb, off + 32 * c.1, none⟩) (min 32 (n - 32 * c.1)) (cap - 32 * c.1), .slice p n cap, .func (.func 37) #[] #[.pointer (some ⟨x, 0, none⟩)], .slice (some ⟨bb, off + 32 * c.1, none⟩) (min 32 (n - 32 * c.1)) (cap - 32 * c.1), undef, undef, undef, undef, undef, undef, undef, undef, undef, undef, undef, undef, undef, undef, undef, undef, undef, undef], defers := [] }) ?assign ?body ?done ?stop
  case own =>
    intro pre A B row hs hg hr
    have hc := fun r e => (hr r e).2
    obtain ⟨⟨sv, h1, h2⟩, h3, h4, h5, h6, h7, h8, h9⟩ := hs
    exact ⟨⟨sv, arr_owned h1 hg hc, ownD_owned h2 hg hc⟩, h3, h4, arr_owned h5 hg hc, arr_owned h6 hg hc, boxed_owned h7 hg hc, h8.grown hg (by have := HG.out; omega) (fun r e => by have := (hr r e).1; have := HG.out; omega), Nat.le_trans h9 hg.size⟩
  case ownx =>
    intro c pre A B row hs hg hr
    have hc := fun r e => (hr r e).2
    obtain ⟨h1, h2, h3, h4, h5⟩ := hs
    exact ⟨h1, arr_owned h2 hg hc, arr_owned h3 hg hc, h4, h5.grown hg h5.size (fun r e => by have := (hr r e).1; have := HG.out; omega)⟩
  case assign =>
    intro l c W K hK
    unfold partV
    gi_wp2
    exact hK
  case body =>
    rintro l pre c W ⟨⟨sv, h1, h2⟩, h3, h4, h5, h6, h7, h8, h9⟩ hlen
    obtain ⟨k, hk⟩ : ∃ k, k = c.1 := ⟨_, rfl⟩
    have hkn : 32 * k < n := by rw [hk]; exact c.2
    rw [← hk]
    obtain ⟨m, hm⟩ : ∃ m, m = min 32 (n - 32 * k) := ⟨_, rfl⟩
    rw [← hm]
    have c4 := h1.cell 0
    simp only [List.getElem?_cons_zero] at c4
    have HOLD : Hid (TakeI xs n (.slice p n cap) g2 g3 g4 x wd.heap.size w pre W) := ⟨⟨sv, h1, h2⟩, h3, h4, h5, h6, h7, h8, h9⟩
    have H1 := Lib.hid h1
    have H2 := Lib.hid h2
    obtain ⟨sa, sc, hsv, -⟩ := h2.rd
    rw [List.length_map] at hsv
    subst hsv
    have HK := Lib.hid hk
    have HM := Lib.hid hm
    have HKN := Lib.hid hkn
    have H4 := Lib.hid h4
    clear h1 h2 h3 h4 h5 h6 h7 h8 h9 hk hm hkn
    have HBAD : Hid (∀ W', KB (fun j => j = g2 ∨ j = g3) W W' → Arr W' g2 37 [.slice none 0 0] → Arr W' g3 23 [.int .i64 5] → ((∃ d ∈ pre ++ [c], n < 32 * d.1 + 32) ∨ 17 ≤ (pre ++ [c]).length) → KeepsFrom wd.heap.size W W' ∧ TakeX n g2 g3 w .ret (pre ++ [c]) W') := fun W' hkb q2 q3 hwhy => by
      obtain ⟨-, -, -, h5, h6, -, h8, -⟩ := HOLD.out
      refine ⟨keeps_kb hkb ?_, rfl, q2, q3, hwhy, h8.trans (hkb.under (fun j e => by have := HG.out; omega) h8.size)⟩
      rintro j (rfl | rfl)
      · exact ⟨_, h5, rfl⟩
      · exact ⟨_, h6, rfl⟩
    have HST : Hid (∀ (l : Nat) (K : Exit → Act → World → Prop) (a : Act), True) := fun _ _ _ => trivial
    refine wpIn_block ?_
    refine wpIn_seq ?_
    refine wpIn_seq ?_
    refine regionIn_list (.round l) (by rintro ⟨a, w, e⟩; exact e) rfl ?_
    by_cases hsh : m < 32
    · have hsh' : (m : Int) < 32 := by omega
      have HSH := Lib.hid hsh
      clear hsh c4
      go_wp2
      refine wpIn_cond_true rfl ?_
      refine wpIn_seq ?_
      refine regionIn_list (.round l) (by rintro ⟨a, w, e⟩; exact e) rfl ?_
      go_wp2_with (first
        | ((with_reducible show wpList _ _ _ (⟨none, .store _ (.tmp 2) _, _, _, _, _⟩ :: _) _ _); go_loud (refine wl_store1 rfl 37 _ _ rfl g2 0 rfl (.slice none 0 0) rfl rfl rfl 37 _ HOLD.out.r2 (by kernel_rfl) (by simp) ?_); intro w2 hA2 hg2 hs2)
        | ((with_reducible show wpList _ _ _ (⟨none, .store _ (.tmp 3) _, _, _, _, _⟩ :: _) _ _); go_loud (refine wl_store1 rfl 23 _ _ rfl g3 0 rfl (.int .i64 5) rfl rfl rfl 23 _ (HOLD.out.r3.grown hg2 (by intro e; injection e with e; have := HG.out; omega)) (by kernel_rfl) (by simp) ?_); intro w3 hA3 hg3 hs3))
      refine wpIn_ret ?_
      simp only [List.set_cons_zero] at hA2 hA3
      exact HBAD.out w3 (((KB.refl _ W).grown hg2 (.inl rfl)).grown hg3 (.inr rfl)) (hA2.grown hg3 (by intro e; injection e with e; have := HG.out; omega)) hA3 (.inl ⟨c, List.mem_append_right _ (List.mem_singleton.2 rfl), by have h1 := HM.out; have h2 := HSH.out; have h3 := HK.out; have h4 := HKN.out; omega⟩)
    · have hm32 : m = 32 := by have := HM.out; omega
      subst hm32
      clear hsh
      by_cases h16 : pre.length = 16
      · have h16' : (pre.length : Int) = 16 := by omega
        have H16 := Lib.hid h16
        clear h16
        go_wp2
        refine wpIn_cond_true rfl ?_
        refine wpIn_seq ?_
        refine regionIn_list (.round l) (by rintro ⟨a, w, e⟩; exact e) rfl ?_
        go_wp2_with (first
          | ((with_reducible show wpList _ _ _ (⟨none, .store _ (.tmp 2) _, _, _, _, _⟩ :: _) _ _); go_loud (refine wl_store1 rfl 37 _ _ rfl g2 0 rfl (.slice none 0 0) rfl rfl rfl 37 _ HOLD.out.r2 (by kernel_rfl) (by simp) ?_); intro w2 hA2 hg2 hs2)
          | ((with_reducible show wpList _ _ _ (⟨none, .store _ (.tmp 3) _, _, _, _, _⟩ :: _) _ _); go_loud (refine wl_store1 rfl 23 _ _ rfl g3 0 rfl (.int .i64 5) rfl rfl rfl 23 _ (HOLD.out.r3.grown hg2 (by intro e; injection e with e; have := HG.out; omega)) (by kernel_rfl) (by simp) ?_); intro w3 hA3 hg3 hs3))
        refine wpIn_ret ?_
        simp only [List.set_cons_zero] at hA2 hA3
        exact HBAD.out w3 (((KB.refl _ W).grown hg2 (.inl rfl)).grown hg3 (.inr rfl)) (hA2.grown hg3 (by intro e; injection e with e; have := HG.out; omega)) hA3 (.inr (by rw [List.length_append, List.length_singleton]; have := H16.out; omega))
      · have h16' : ((pre.length : Int) == 16) = false := beq_eq_false_iff_ne.2 (by omega)
        have H16 := Lib.hid h16
        clear h16
        go_wp2
        refine wpIn_cond_false rfl ?_
        refine wpIn_skip ?_
        change Code.wpIn _ _ _ _ _ _ _
        obtain ⟨X, hX⟩ : ∃ X, X = prt xs k := ⟨_, rfl⟩
        have hkfull : 32 * k + 32 ≤ n := by have := HM.out; omega
        have HX32 : Hid (X.length = 32) := by show X.length = 32; rw [hX]; exact prt_len (by rw [HL.out]; exact hkfull)
        have h32X : Hid ((Tryd.prog.info? 48).map (·.size) = some (bvs X).length) := by show _ = _; rw [bvs_len, HX32.out]; exact sizeD
        have HX := Lib.hid hX
        have HKF := Lib.hid hkfull
        clear hX hkfull c4 h16'
        obtain ⟨q, hq⟩ : ∃ q, q = pre.length := ⟨_, rfl⟩
        rw [← hq] at H1 H2 ⊢
        have HQ := Lib.hid hq
        clear hq
        obtain ⟨B1, hB1⟩ : ∃ B1, B1 = wd.heap.size := ⟨_, rfl⟩
        obtain ⟨Lst, hLst⟩ : ∃ Lst, Lst = pre.map (fun c => prt xs c.1) := ⟨_, rfl⟩
        have HOB : Hid (OwnD W B1 (.slice sa q sc) Lst) := by show OwnD _ _ _ _; rw [hB1, hLst]; exact H2.out
        have HBW : Hid (B1 ≤ W.heap.size) := by show B1 ≤ _; rw [hB1]; exact HOLD.out.size
        have HG4 : Hid (g4 < B1) := by show g4 < B1; have := HG.out; omega
        have HLL : Hid (Lst.length + 1 ≤ 6000000000000) := by show Lst.length + 1 ≤ _; rw [hLst, List.length_map]; have := H4.out; omega
        have HOG : Hid ((Value.slice sa q sc).ownBlock = none ∨ (Value.slice sa q sc).ownBlock ≠ some g4) := by
          show _ ∨ _
          cases hv : (Value.slice sa q sc).ownBlock with
          | none => exact .inl rfl
          | some j => exact .inr fun e => by injection e with e; have := (HOB.out.lt hv).1; have := HG4.out; omega
        have HRG : Hid (∀ wx, KB (fun j => j = g4 ∨ (Value.slice sa q sc).ownBlock = some j) W wx → wx.rangeAt bb (off + 32 * k) (bvs X)) := fun wx hkb j v hv => by
          obtain ⟨hp, hbw⟩ := HA.out (by have := HKF.out; omega)
          have hrd := HRD.out.to HOLD.out.low
          have hg := HG.out
          have hnz : ¬ (bb = g4 ∨ (Value.slice sa q sc).ownBlock = some bb) := by
            rintro (e | e)
            · omega
            · have := (HOB.out.lt e).1; have := HG4.out; omega
          have hbW : bb < W.heap.size := by have := HOLD.out.low.size; omega
          refine (hkb.cell (p := ⟨bb, off + 32 * k + j, none⟩) hbW hnz).trans ?_
          have hj : j < 32 := by
            have := (List.getElem?_eq_some_iff.1 hv).1
            rw [bvs_len, HX32.out] at this
            exact this
          obtain ⟨b2, o2, e2, -, hc⟩ := hrd.mem (by have := HKF.out; omega)
          rw [hp] at e2
          injection e2 with e2
          injection e2 with e3 e4
          subst e3 e4
          have h1 := hc (32 * k + j) (by have := HKF.out; omega)
          rw [show off + (32 * k + j) = off + 32 * k + j by omega] at h1
          rw [h1, ← hv, bvs_get _ _ (by rw [HX32.out]; exact hj)]
          congr 3
          rw [HX.out]
          unfold prt
          simp [List.getD, hj, List.getElem?_drop]
        have HLS := Lib.hid hLst
        have HB1 := Lib.hid hB1
        clear hLst hB1
        refine wpIn_region_steps (.round l) (by rintro ⟨a, w, e⟩; exact e) [[], [], [1], [2], [3], [0, 4], [5]] (by kernel_rfl) (by kernel_rfl) rfl (fun L a wx => ∃ v17 v18 v19 v20 v21 v22, a = ⟨#[.slice p n cap, undef, .pointer (some ⟨g2, 0, none⟩), .pointer (some ⟨g3, 0, none⟩), .pointer (some ⟨g4, 0, none⟩), .slice (some ⟨bb, off + 32 * k, none⟩) 32 (cap - 32 * k), .slice p n cap, .func (Fn.func 37) #[] #[.pointer (some ⟨x, 0, none⟩)], .slice (some ⟨bb, off + 32 * k, none⟩) 32 (cap - 32 * k), .slice (some ⟨bb, off + 32 * k, none⟩) 32 (cap - 32 * k), .int .i64 32, .bool false, .bool false, .slice sa q sc, .int .i64 ↑q, .bool false, .bool false, v17, v18, v19, v20, v21, v22, undef, undef, undef, undef], []⟩ ∧ InvTk X Lst sa q sc bb off k cap g4 B1 W L v17 v18 v19 v20 v21 v22 wx) ?_ ⟨?_, ?_, ?_, ?_, ?_, ?_, ?_, trivial⟩ ?_
        · refine ⟨_, _, _, _, _, _, rfl, ⟨?_, ?_, ?_, ?_, ?_, ?_, (KB.refl _ _).drew, fun _ => ⟨HOB.out.row, HOB.out.all⟩, fun _ => H1.out.drew, fun h => absurd h (by decide)⟩⟩ <;> (intro h; exact absurd h (by decide))
        · rintro L a wx ⟨v17, v18, v19, v20, v21, v22, rfl, hI⟩ hL hdep hcl K hK
          have c := (hI.m4 (by cases hq : L 6 with | false => rfl | true => have h4 := hcl 5 (by decide) (hcl 6 (by decide) hq 5 (by decide)) 0 (by decide); rw [hL] at h4; cases h4)).cell 0
          simp only [List.getElem?_cons_zero] at c
          go_simp
          exact hK _ _ ⟨_, v18, v19, v20, v21, v22, rfl, ⟨fun _ => rfl, hI.t1, hI.t2, hI.t3, hI.t4, hI.t5, hI.kb, hI.ob, hI.m4, hI.fin⟩⟩
        · rintro L a wx ⟨v17, v18, v19, v20, v21, v22, rfl, hI⟩ hL hdep hcl K hK
          go_simp
          exact hK _ _ ⟨v17, _, v19, v20, v21, v22, rfl, ⟨hI.t0, fun _ => rfl, hI.t2, hI.t3, hI.t4, hI.t5, hI.kb, hI.ob, hI.m4, hI.fin⟩⟩
        · rintro L a wx ⟨v17, v18, v19, v20, v21, v22, rfl, hI⟩ hL hdep hcl K hK
          obtain rfl := hI.t1 (hdep 1 (by decide))
          go_simp
          exact hK _ _ ⟨v17, _, _, v20, v21, v22, rfl, ⟨hI.t0, hI.t1, fun _ => rfl, hI.t3, hI.t4, hI.t5, hI.kb, hI.ob, hI.m4, hI.fin⟩⟩
        · rintro L a wx ⟨v17, v18, v19, v20, v21, v22, rfl, hI⟩ hL hdep hcl K hK
          obtain rfl := hI.t2 (hdep 2 (by decide))
          refine wp_load_mid 48 _ rfl bb (off + 32 * k) rfl (bvs X) (.array 32 5) (HRG.out wx hI.kb) Tryd.underlying48 rfl h32X.out ?_
          exact hK _ _ ⟨v17, v18, _, _, v21, v22, rfl, ⟨hI.t0, hI.t1, hI.t2, fun _ => rfl, hI.t4, hI.t5, hI.kb, hI.ob, hI.m4, hI.fin⟩⟩
        · rintro L a wx ⟨v17, v18, v19, v20, v21, v22, rfl, hI⟩ hL hdep hcl K hK
          obtain rfl := hI.t3 (hdep 3 (by decide))
          refine ow_of_wl rfl ?_
          refine wl_litD rfl 20 rfl X HX32.out rfl ?_
          intro w' hA' hb
          refine wpList_nil ?_
          show K _ _
          have hsz := hI.kb.size
          exact hK _ _ ⟨v17, v18, v19, _, _, v22, rfl, ⟨hI.t0, hI.t1, hI.t2, hI.t3, fun _ => ⟨wx.heap.size, rfl, hA', hsz⟩, fun h => (hI.t5 h).to hb, (hI.kb).below hb, fun h => ((hI.ob) h).to hb, fun h => ((hI.m4) h).kept hb, fun h => ((hI.fin) h).kept hb⟩⟩
        · rintro L a wx ⟨v17, v18, v19, v20, v21, v22, rfl, hI⟩ hL hdep hcl K hK
          obtain rfl := hI.t0 (hdep 0 (by decide))
          obtain ⟨gq, e21, hAq, hgq⟩ := hI.t4 (hdep 4 (by decide))
          subst e21
          have hob := hI.ob hL
          have hBs : B1 ≤ wx.heap.size := Nat.le_trans HBW.out hI.kb.size
          refine ow_of_wl rfl ?_
          refine wl_appendB rfl _ _ rfl B1 (.slice sa q sc) Lst rfl hob gq X rfl hAq HX32.out HLL.out hBs ?_
          intro v' w' ho' hg'
          refine wpList_nil ?_
          show K _ _
          have hne : ∀ g, g < B1 ∨ W.heap.size ≤ g → some g ≠ (Value.slice sa q sc).ownBlock := fun g hg e => by
            have h1 := HOB.out.lt e.symm
            omega
          exact hK _ _ ⟨_, v18, v19, v20, _, _, rfl, ⟨hI.t0, hI.t1, hI.t2, hI.t3, fun _ => ⟨gq, rfl, hAq.grown hg' (hne _ (.inr hgq)), hgq⟩, fun _ => ho', hI.kb.trans (KB.by' hg' (fun g e => .inr e)), fun h => (nomatch (show true = false from h)), fun h => (hI.m4 h).grown hg' (hne _ (.inl HG4.out)), fun h => by have h4 := hcl 6 (by decide) (show L 6 = true from h) 5 (by decide); rw [hL] at h4; cases h4⟩⟩
        · rintro L a wx ⟨v17, v18, v19, v20, v21, v22, rfl, hI⟩ hL hdep hcl K hK
          have ho5 := hI.t5 (hdep 5 (by decide))
          refine ow_store1 37 _ _ rfl g4 0 rfl v22 rfl ho5.one.1 ho5.one.2 37 _ (hI.m4 hL) (by kernel_rfl) (by simp) ?_
          intro w' hA' hg'
          intro hs'
          simp only [List.set_cons_zero] at hA'
          have hnb : v22.ownBlock = none ∨ v22.ownBlock ≠ some g4 := by
            cases hv : v22.ownBlock with
            | none => exact .inl rfl
            | some j => exact .inr fun e => by injection e with e; have := (ho5.lt hv).1; have := HG4.out; omega
          exact hK _ _ ⟨v17, v18, v19, v20, v21, v22, rfl, ⟨hI.t0, hI.t1, hI.t2, hI.t3, fun h => by obtain ⟨gq, e, h1, h2⟩ := hI.t4 h; exact ⟨gq, e, h1.grown hg' (by intro e; injection e with e; have := HG4.out; have := HBW.out; omega), h2⟩, fun _ => ho5.by hg' hnb, hI.kb.grown hg' (.inl rfl), fun h => ((hI.ob h).by hg' HOG.out), fun h => (nomatch (show true = false from h)), fun _ => hA'⟩⟩
        · rintro a wx ⟨v17, v18, v19, v20, v21, v22, rfl, hI⟩
          have hkb := hI.kb
          have ho5 := hI.t5 rfl
          have hfin := hI.fin rfl
          clear hI
          have hcells : ∀ j, (j = g4 ∨ (Value.slice sa q sc).ownBlock = some j) → ∃ o : Obj, W.heap[j]? = some o ∧ o.isCells = true := by
            rintro j (rfl | hj)
            · exact ⟨_, H1.out, rfl⟩
            · exact (HOB.out.lt hj).2.2
          obtain ⟨-, i3, i4, i5, i6, i7, i8, i9⟩ := HOLD.out
          have hnz : ∀ j, j < B1 → j ≠ g4 → ¬ (j = g4 ∨ (Value.slice sa q sc).ownBlock = some j) := by
            rintro j hj hne (e | e)
            · exact hne e
            · have := (HOB.out.lt e).1; omega
          have hB1 := HB1.out
          have hG := HG.out
          have keep : ∀ j, j < B1 → j ≠ g4 → wx.heap[j]? = W.heap[j]? := fun j hj hne => hkb.block j (by have := HBW.out; omega) (hnz j hj hne)
          refine ⟨keeps_kb hkb hcells, keep x (by omega) (by omega), ⟨v22, hfin, ?_⟩, ?_, ?_, ?_, ?_, ?_, ?_, Nat.le_trans i9 hkb.size⟩
          · rw [List.map_append, List.map_singleton, ← HLS.out, ← HB1.out, ← HK.out, ← HX.out]
            exact ho5
          · intro d hd
            rcases List.mem_append.1 hd with hd | hd
            · exact i3 d hd
            · rw [List.mem_singleton.1 hd, ← HK.out]; exact HKF.out
          · rw [List.length_append, List.length_singleton]
            have h1 := H16.out
            have h2 := H4.out
            omega
          · exact (keep g2 (by omega) (by omega)).trans i5
          · exact (keep g3 (by omega) (by omega)).trans i6
          · exact (keep x (by omega) (by omega)).trans i7
          · exact i8.trans (hkb.under (fun j e => by
              rcases e with rfl | e
              · omega
              · have := (HOB.out.lt e).1; omega) i8.size)
  
  case done =>
    rintro Dd ys W hD hS hI hK
    obtain ⟨⟨sv, h1, h2⟩, h3, h4, h5, h6, h7, h8, h9⟩ := hI
    have c4 := h1.cell 0
    simp only [List.getElem?_cons_zero] at c4
    have hlenY : ys.length = (n + 31) / 32 := by have := congrArg List.length hS; simpa using this
    have H2 := Lib.hid h2
    obtain ⟨sa, sc, hsv, -⟩ := h2.rd
    rw [List.length_map] at hsv
    subst hsv
    have HH := Lib.hid (And.intro h3 (And.intro h4 (And.intro h5 (And.intro h6 (And.intro h8 hS)))))
    have HK := Lib.hid hK
    have HD := Lib.hid hD
    have HLY := Lib.hid hlenY
    have HLN : Hid (xs.length = n) := HL.out
    clear h1 h2 h3 h4 h5 h6 h7 h8 h9 hK hD hS hlenY
    by_cases hz : ys.length = 0
    · have hz' : (ys.length : Int) = 0 := by omega
      have HZ := Lib.hid hz
      clear hz
      go_wp2_with (first
        | ((with_reducible show wpList _ _ _ (⟨none, .store _ (.tmp 2) _, _, _, _, _⟩ :: _) _ _); go_loud (refine wl_store1 rfl 37 _ _ rfl g2 0 rfl (.slice none 0 0) rfl rfl rfl 37 _ HH.out.2.2.1 (by kernel_rfl) (by simp) ?_); intro w2 hA2 hg2 hs2)
        | ((with_reducible show wpList _ _ _ (⟨none, .store _ (.tmp 3) _, _, _, _, _⟩ :: _) _ _); go_loud (refine wl_store1 rfl 23 _ _ rfl g3 0 rfl (.int .i64 5) rfl rfl rfl 23 _ (HH.out.2.2.2.1.grown hg2 (by intro e; injection e with e; have := HG.out; omega)) (by kernel_rfl) (by simp) ?_); intro w3 hA3 hg3 hs3))
      simp only [List.set_cons_zero] at hA2 hA3
      have hA2' := hA2.grown hg3 (by intro e; injection e with e; have := HG.out; omega)
      have hK3 : w3.heap[Dd]? = some (.deferred (some [])) := by
        have h1 := HK.out
        have h2 := HD.out
        have h3 := HG.out
        have hl := (Array.getElem?_eq_some_iff.1 h1).1
        rw [hg3.block Dd (by omega) (by intro e; injection e with e; omega), hg2.block Dd hl (by intro e; injection e with e; omega)]
        exact h1
      refine ⟨by simp, .inl ⟨_, _, rfl, run_takeDeferred hK3, ?_⟩⟩
      have hg := grownBy_putObj' w3 Dd (.deferred none)
      have hne : ∀ g, g < wd.heap.size → some g ≠ some Dd := fun g hg e => by injection e with e; have := HD.out; omega
      refine ⟨_, res_cells rfl rfl rfl ((hA2'.grown hg (hne _ (by have := HG.out; omega))).cell 0) ((hA3.grown hg (hne _ (by have := HG.out; omega))).cell 0), .slice none 0 0, ?_, ?_, ?_⟩
      · unfold tkE
        have h1 := HLY.out
        have h2 := HZ.out
        rw [if_neg (by rw [HLN.out]; omega)]
      · have e : tkL xs = [] := by
          unfold tkL
          have h1 := HLY.out
          have h2 := HZ.out
          rw [if_neg (by rw [HLN.out]; omega)]
        rw [e]
        exact OwnD.nil _ _
      · have h8 := HH.out.2.2.2.2.1
        have h9 := HG.out
        have hl := HD.out
        exact (((h8.grown hg2 h8.size (fun k e => by injection e with e; omega)).grown hg3 (by have := h8.size; omega) (fun k e => by injection e with e; omega))).grown hg (by have := h8.size; omega) (fun k e => by injection e with e; omega)
    · have hz' : ((ys.length : Int) == 0) = false := beq_eq_false_iff_ne.2 (by omega)
      have HZ := Lib.hid hz
      clear hz
      go_wp2_with (first
        | ((with_reducible show wpList _ _ _ (⟨none, .store _ (.tmp 2) _, _, _, _, _⟩ :: _) _ _); go_loud (refine wl_store1 rfl 37 _ _ rfl g2 0 rfl (.slice sa ys.length sc) rfl rfl rfl 37 _ HH.out.2.2.1 (by kernel_rfl) (by simp) ?_); intro w2 hA2 hg2 hs2)
        | ((with_reducible show wpList _ _ _ (⟨none, .store _ (.tmp 3) _, _, _, _, _⟩ :: _) _ _); go_loud (refine wl_store1 rfl 23 _ _ rfl g3 0 rfl (.int .i64 0) rfl rfl rfl 23 _ (HH.out.2.2.2.1.grown hg2 (by intro e; injection e with e; have := HG.out; omega)) (by kernel_rfl) (by simp) ?_); intro w3 hA3 hg3 hs3))
      simp only [List.set_cons_zero] at hA2 hA3
      obtain ⟨sv, hsv⟩ : ∃ sv, sv = Value.slice sa ys.length sc := ⟨_, rfl⟩
      rw [← hsv] at hA2 H2
      have hA2' := hA2.grown hg3 (by intro e; injection e with e; have := HG.out; omega)
      have hK3 : w3.heap[Dd]? = some (.deferred (some [])) := by
        have h1 := HK.out
        have h2 := HD.out
        have h3 := HG.out
        have hl := (Array.getElem?_eq_some_iff.1 h1).1
        rw [hg3.block Dd (by omega) (by intro e; injection e with e; omega), hg2.block Dd hl (by intro e; injection e with e; omega)]
        exact h1
      refine ⟨by simp, .inl ⟨_, _, rfl, run_takeDeferred hK3, ?_⟩⟩
      have hg := grownBy_putObj' w3 Dd (.deferred none)
      have hne : ∀ g, g < wd.heap.size → some g ≠ some Dd := fun g hg e => by injection e with e; have := HD.out; omega
      have hok : n % 32 = 0 ∧ 1 ≤ n / 32 ∧ n / 32 ≤ 16 ∧ ys.length = n / 32 := by
        have h1 := HLY.out
        have h2 := HZ.out
        have h4 := HH.out.2.1
        have hS := HH.out.2.2.2.2.2
        have hm : (ys.length - 1) ∈ ys.map (·.1) := by rw [hS, List.mem_range]; omega
        obtain ⟨c, hc, e⟩ := List.mem_map.1 hm
        have h3 := HH.out.1 c hc
        omega
      have hmap : (ys.map fun c => prt xs c.1) = (List.range (n / 32)).map (prt xs) := by
        have hS := HH.out.2.2.2.2.2
        have e : (ys.map fun c => prt xs c.1) = (ys.map (·.1)).map (prt xs) := by rw [List.map_map]; rfl
        rw [e, hS, ← HLY.out, hok.2.2.2]
      have hoo : OwnD (w3.putObj Dd (.deferred none)) wd.heap.size sv (tkL xs) := by
        have e : tkL xs = ys.map fun c => prt xs c.1 := by
          unfold tkL
          rw [if_pos (by rw [HLN.out]; exact ⟨hok.1, hok.2.1, hok.2.2.1⟩), HLN.out, hmap]
        rw [e]
        have hnb : ∀ g, g < wd.heap.size → sv.ownBlock = none ∨ sv.ownBlock ≠ some g := fun g hg => by
          cases hv : sv.ownBlock with
          | none => exact .inl rfl
          | some k => exact .inr fun e => by injection e with e; have := (H2.out.lt hv).1; omega
        have o2 := H2.out.by hg2 (hnb _ (by have := HG.out; omega))
        have o3 := o2.by hg3 (hnb _ (by have := HG.out; omega))
        exact ownD_owned o3 hg (fun r e => by injection e with e; subst e; exact ⟨_, hK3, rfl⟩)
      refine ⟨_, res_cells rfl rfl rfl ((hA2'.grown hg (hne _ (by have := HG.out; omega))).cell 0) ((hA3.grown hg (hne _ (by have := HG.out; omega))).cell 0), sv, ?_, ?_, ?_⟩
      · unfold tkE
        rw [if_pos (by rw [HLN.out]; exact ⟨hok.1, hok.2.1, hok.2.2.1⟩)]
      · exact hoo.base (by have := HG.out; omega)
      · have h8 := HH.out.2.2.2.2.1
        have h9 := HG.out
        have hl := HD.out
        exact (((h8.grown hg2 h8.size (fun k e => by injection e with e; omega)).grown hg3 (by have := h8.size; omega) (fun k e => by injection e with e; omega))).grown hg (by have := h8.size; omega) (fun k e => by injection e with e; omega)
  case stop =>
    rintro Dd c pre W hD hS ⟨rfl, h2, h3, hw, h5⟩ hK
    have HW := Lib.hid hw
    have HS := Lib.hid hS
    clear hw hS
    refine wpIn_ret ?_
    go_wp2
    refine ⟨by simp, .inl ⟨_, _, rfl, run_takeDeferred hK, ?_⟩⟩
    have hg := grownBy_putObj' W Dd (.deferred none)
    have hne : ∀ g, g < wd.heap.size → some g ≠ some Dd := fun g hg e => by injection e with e; omega
    have hno : ¬ (xs.length % 32 = 0 ∧ 1 ≤ xs.length / 32 ∧ xs.length / 32 ≤ 16) := by
      rw [HL.out]
      rcases HW.out with ⟨d, hd, h⟩ | h
      · have := d.2; omega
      · have hm : (16 : Nat) ∈ pre.map (·.1) := by rw [HS.out, List.mem_range]; omega
        obtain ⟨d, hd, e⟩ := List.mem_map.1 hm
        have := d.2
        omega
    refine ⟨_, res_cells rfl rfl rfl ((h2.grown hg (hne _ (by have := HG.out; omega))).cell 0) ((h3.grown hg (hne _ (by have := HG.out; omega))).cell 0), .slice none 0 0, ?_, ?_, ?_⟩
    · unfold tkE
      rw [if_neg hno]
    · have e : tkL xs = [] := if_neg hno
      rw [e]
      exact OwnD.nil _ _
    · have h9 := HG.out
      exact h5.grown hg h5.size (fun k e => by injection e with e; omega)
end Go.Proofs.YtfidajbenmgflaaDoor
