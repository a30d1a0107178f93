/-
  Package files: a name looked up, find, spend. Conditions: those in each statement.
-/
import Derived.Test.YtcnkgenhbnafjaaFiB
namespace Go.Proofs.Ytcnkgenhbnafjaa
open Go.RowKit

section
variable {P : Program} {ops : Array Oper} {rest : List Oper} {o : Oper} {a : Act} {K : Act → World → Prop} {Q : Exit → Act → World → Prop} {w : World}
/-- a new variable of one cell -/
theorem wl_alloc1 (hg : o.guard = none) (t : TypeId) (ho : o.op = .alloc t) (z : Value) (n : Nat) (hz : (P.info? t).map (fun i => (i.zero, i.size)) = some (some z, n)) (hc : z.cells = #[z])
    (hK : ∀ w', Arr w' w.heap.size t [z] → Below w.heap.size w w' → w'.heap.size = w.heap.size + 1 → wpList P ops Q rest (a.put o.dst (.pointer (some ⟨w.heap.size, 0, none⟩))) w') :
    wpList P ops Q (o :: rest) a w := by
  have h0 := (zero_of_info (P := P) hz).1
  refine wpList_plain hg fun K hK' => ?_
  unfold Oper.wp execOp
  simp only [ho, Sem.run_bind, Instr.alloc, h0, newVar, newRow, run_newObj_alloc, Sem.run_pure, Result.andThen_ok, hc]
  exact hK' _ _ (hK _ (Arr.new w t [z]) ((Below.refl _ _).alloc (Nat.le_refl _) _) (by simp))
/-- one cell of a block, stored -/
theorem ow_store1 (ty : TypeId) (x y : Operand) (ho : o.op = .store ty x y) (g off : Nat) (hx : a.eval x = .pointer (some ⟨g, off, none⟩)) (v : Value) (hy : a.eval y = v) (hv : v.cells = #[v]) (h1 : v.oneCell' = true)
    (T : TypeId) (old : List Value) (hA : Arr w g T old) (hi : (P.info? ty).map (·.size) = some 1) (hl : off < old.length)
    (hK : ∀ w', Arr w' g T (old.set off v) → w.grownBy w' (some g) → w'.heap.size = w.heap.size → K (a.put o.dst undef) w') : o.wp P a w K Q := by
  have hst := run_storeCells_cells (P := P) g off [v] 0 w (fun j hj => by
      have e : j = 0 := by simpa using hj
      subst e
      rw [hA.cell]
      simp [hl]) (fun j hj => by rw [hA.frozen]) (fun u hu => by rw [List.mem_singleton.1 hu]; exact h1)
  have hrun : (storeVar ty ⟨g, off, none⟩ v).run P w = .ok () (w.setCell ⟨g, off, none⟩ v) := by
    cases hq : P.info? ty with
    | none => simp [hq] at hi
    | some i =>
      have hi' : i.size = 1 := by simpa [hq] using hi
      have e : w.setCells g (off + 0) [v] = w.setCell ⟨g, off, none⟩ v := rfl
      rw [e] at hst
      simp [storeVar, sizeOf, typeInfo, hq, hi', hv, hst]
  unfold Oper.wp execOp
  simp only [ho, hx, hy, Instr.storeAt, Instr.sureAddr, Sem.run_bind, Sem.run_pure, Result.andThen_ok, hrun]
  exact hK _ (hA.store off v) ⟨rfl, rfl, rfl, Nat.le_of_eq (World.size_setCell ..).symm, fun k _ hk => Below.heap_setCell _ _ _ k (fun e => hk (by rw [e]))⟩ (by simp [World.setCell])
theorem wl_store1 (hgd : o.guard = none) (ty : TypeId) (x y : Operand) (ho : o.op = .store ty x y) (g off : Nat) (hx : a.eval x = .pointer (some ⟨g, off, none⟩)) (v : Value) (hy : a.eval y = v) (hv : v.cells = #[v]) (h1 : v.oneCell' = true)
    (T : TypeId) (old : List Value) (hA : Arr w g T old) (hi : (P.info? ty).map (·.size) = some 1) (hl : off < old.length)
    (hK : ∀ w', Arr w' g T (old.set off v) → w.grownBy w' (some g) → w'.heap.size = w.heap.size → wpList P ops Q rest (a.put o.dst undef) w') : wpList P ops Q (o :: rest) a w :=
  wpList_plain hgd fun _ hK' => ow_store1 ty x y ho g off hx v hy hv h1 T old hA hi hl fun w' k1 k2 k3 => hK' _ _ (hK w' k1 k2 k3)
theorem wl_box1 (hg : o.guard = none) (t : TypeId) (x : Operand) (ho : o.op = .box t x) (v : Value) (hx : a.eval x = v) (hv : v.cells = #[v])
    (hK : ∀ w', Arr w' w.heap.size t [v] → Below w.heap.size w w' → w'.heap.size = w.heap.size + 1 → wpList P ops Q rest (a.put o.dst (.pointer (some ⟨w.heap.size, 0, none⟩))) w') :
    wpList P ops Q (o :: rest) a w := by
  refine wpList_plain hg fun K hK' => ?_
  unfold Oper.wp execOp
  simp only [ho, hx, Sem.run_bind, Instr.box, newVar, newRow, run_newObj_alloc, Sem.run_pure, Result.andThen_ok, hv]
  exact hK' _ _ (hK _ (Arr.new w t [v]) ((Below.refl _ _).alloc (Nat.le_refl _) _) (by simp))
end

/-- the file of a name -/
def atF (fs : List FS) (s : ByteArray) : Option FS := fs.find? fun f => decide (f.name = s)
theorem atF_mem {fs : List FS} {s : ByteArray} {f : FS} (h : atF fs s = some f) : f ∈ fs ∧ f.name = s := by
  unfold atF at h
  exact ⟨List.mem_of_find?_eq_some h, by simpa using List.find?_some h⟩
theorem nodup_inj {fs : List FS} (hn : (fs.map FS.name).Nodup) {f g : FS} (hf : f ∈ fs) (hg : g ∈ fs) (h : f.name = g.name) : f = g := by
  induction fs with
  | nil => cases hf
  | cons x xs ih =>
    rw [List.map_cons, List.nodup_cons] at hn
    rcases List.mem_cons.1 hf with ef | hf <;> rcases List.mem_cons.1 hg with eg | hg
    · rw [ef, eg]
    · exact absurd (List.mem_map.2 ⟨g, hg, by rw [← ef]; exact h.symm⟩) hn.1
    · exact absurd (List.mem_map.2 ⟨f, hf, by rw [← eg]; exact h⟩) hn.1
    · exact ih hn.2 hf hg
theorem atF_some {fs : List FS} (hn : (fs.map FS.name).Nodup) {f : FS} (hf : f ∈ fs) : atF fs f.name = some f := by
  cases h : atF fs f.name with
  | none =>
    unfold atF at h
    have := List.find?_eq_none.1 h f hf
    simp at this
  | some g =>
    obtain ⟨hg, e⟩ := atF_mem h
    rw [nodup_inj hn hg hf e]
theorem atF_none {fs : List FS} {s : ByteArray} (h : atF fs s = none) : ∀ f ∈ fs, f.name ≠ s := fun f hf => by
  unfold atF at h
  simpa using List.find?_eq_none.1 h f hf
abbrev pF (o : Option FS) : Value := .pointer (o.map fun f => ⟨f.fb, 0, none⟩)
theorem look0 {w : World} {m : Nat} {fs : List FS} (hm : MapR GStr w m (fs.map ent)) (hn : (fs.map FS.name).Nodup) (s : ByteArray) :
    (Instr.lookup 61 (.map (some m)) (.string s) false).run Try.prog w = .ok (pF (atF fs s)) w := by
  obtain ⟨es, clock, hb, he, hg, -⟩ := hm
  have hk : ∀ e ∈ es.toList, GStr w e.key := fun e hm => hg (e.key, e.val) (by rw [← he]; exact List.mem_map.2 ⟨e, hm, rfl⟩)
  have hz : (zeroValue 68).run Try.prog w = .ok (.pointer none) w := by go_simp
  have ht : Try.prog.underlying 61 = some (.map 9 68) := Try.underlying61
  rcases str_ok.find w (.string s) es.toList ⟨s, rfl⟩ hk with ⟨h1, h2⟩ | ⟨j, e0, h1, h2, h3, -⟩
  · have hnone : atF fs s = none := by
      cases h : atF fs s with
      | none => rfl
      | some f =>
        obtain ⟨hf, e⟩ := atF_mem h
        have : ent f ∈ es.toList.map (fun e => (e.key, e.val)) := by rw [he]; exact List.mem_map.2 ⟨f, hf, rfl⟩
        obtain ⟨x, hx, ex⟩ := List.mem_map.1 this
        exact absurd (by have := congrArg Prod.fst ex; simpa [ent, e] using this) (h2 x hx)
    rw [hnone]
    simp [Instr.lookup, run_underlying ht, MapKept.run_getObj_map hb, str_ok.check w (.string s) _ ⟨s, rfl⟩, h1, hz, Result.andThen]
  · have hmem : (e0.key, e0.val) ∈ fs.map ent := by rw [← he]; exact List.mem_map.2 ⟨e0, List.mem_of_getElem? h2, rfl⟩
    obtain ⟨f, hf, ef⟩ := List.mem_map.1 hmem
    have e1 : f.name = s := by
      have := congrArg Prod.fst ef
      simp only [ent, h3] at this
      injection this
    have e2 : e0.val = .pointer (some ⟨f.fb, 0, none⟩) := (congrArg Prod.snd ef).symm
    have hs : atF fs s = some f := by rw [← e1]; exact atF_some hn hf
    rw [hs]
    simp [Instr.lookup, run_underlying ht, MapKept.run_getObj_map hb, str_ok.check w (.string s) _ ⟨s, rfl⟩, h1, e2, Result.andThen]
/-- what find tells: the file, or the first error -/
def fnd (off : Bool) (ss : List ByteArray) (fs : List FS) : Option FS × Int :=
  if chk off ss = 0 then (match atF fs (ss.getD 0 ⟨#[]⟩) with | some f => (some f, 0) | none => (none, 6)) else (none, chk off ss)
set_option maxRecDepth 100000 in
set_option maxHeartbeats 1600000 in
theorem find_any (w : World) (B r m : Nat) (fs : List FS) (t q u : Nat) (o : Bool) (h : IsD w B r m fs t q u o) (b off n cap : Nat) (ss : List ByteArray) (hr : RdS' w (some ⟨b, off, none⟩) n cap ss) (h0 : 0 < n) (hn : n ≤ 100) (hs : ∀ s ∈ ss, s.size ≤ 140737488355328) :
    Calls Try.prog 42 #[.pointer (some ⟨r, 0, none⟩), .slice (some ⟨b, off, none⟩) n cap] w fun e w' => e = .returned (.tuple #[pF (fnd o ss fs).1, .int .i64 (fnd o ss fs).2]) ∧ Below w.heap.size w w' := by
  have H := check_any w B r m fs t q u o h b off n cap ss hr hn hs
  obtain ⟨c0, -, -, -, -⟩ := h.cells
  have c := hr.at 0 h0
  rw [Nat.add_zero] at c
  have hle := hr.le
  have hk : ∀ W, W.heap = w.heap → (Instr.lookup 61 (.map (some m)) (.string (ss.getD 0 ⟨#[]⟩)) false).run Try.prog W = .ok (pF (atF fs (ss.getD 0 ⟨#[]⟩))) W := fun W hW => look0 (mapS h.map (by rw [hW])) h.names _
  unfold fnd
  obtain ⟨s, hse⟩ : ∃ s, s = ss.getD 0 ⟨#[]⟩ := ⟨_, rfl⟩
  rw [← hse] at c hk ⊢
  have HS := Lib.hid hse
  clear hse h hr
  by_cases hz : chk o ss = 0
  · rw [if_pos hz]
    rw [hz] at H
    have k1 := hk w.drew rfl
    clear hz hk
    cases hf : atF fs s with
    | none =>
      rw [hf] at k1
      have k2 : (Instr.lookup 61 (.map (some m)) (.string s) false).run Try.prog w.drew = .ok (.pointer none) w.drew := k1
      clear k1
      go_enter Try.func42, Try.ntmps42
      go_upto_region 4 with (go_at_call 35; refine H.mono ?_; rintro e w' ⟨rfl, rfl⟩)
      go_region
      go_wp2
      go_ret2
      exact ⟨rfl, (Below.refl _ _).drew⟩
    | some f =>
      rw [hf] at k1
      have k2 : (Instr.lookup 61 (.map (some m)) (.string s) false).run Try.prog w.drew = .ok (.pointer (some ⟨f.fb, 0, none⟩)) w.drew := k1
      clear k1
      go_enter Try.func42, Try.ntmps42
      go_upto_region 4 with (go_at_call 35; refine H.mono ?_; rintro e w' ⟨rfl, rfl⟩)
      go_region
      go_wp2
      go_ret2
      exact ⟨rfl, (Below.refl _ _).drew⟩
  · rw [if_neg hz]
    clear hk
    have hz' : (chk o ss == 0) = false := by simpa using hz
    obtain ⟨x, hx⟩ : ∃ x, x = chk o ss := ⟨_, rfl⟩
    rw [← hx] at H hz' ⊢
    clear hz hx
    go_enter Try.func42, Try.ntmps42
    go_wp2_with (go_at_call 35; refine H.mono ?_; rintro e w' ⟨rfl, rfl⟩)
    go_ret2
    exact ⟨rfl, Below.refl _ _⟩
set_option maxRecDepth 100000 in
theorem find_none (w : World) (v : Value) (hv : ∃ a n c, v = .slice a n c) : Calls Try.prog 42 #[.pointer none, v] w fun e w' => e = .returned (.tuple #[.pointer none, .int .i64 2]) ∧ w = w' := by
  have H := check_none w v hv
  obtain ⟨a, n, c, rfl⟩ := hv
  go_enter Try.func42, Try.ntmps42
  go_wp2_with (go_at_call 35; refine H.mono ?_; rintro e w' ⟨rfl, rfl⟩)
  go_ret2
  exact ⟨rfl, rfl⟩
theorem infoD1 : (Try.prog.info? 3).map (·.size) = some 1 := by kernel_rfl
theorem infoB1 : (Try.prog.info? 4).map (·.size) = some 1 := by kernel_rfl
theorem IsD.turn {w w' : World} {B r m : Nat} {fs : List FS} {t q u : Nat} {o : Bool} (h : IsD w B r m fs t q u o) {q' u' : Nat} {o' : Bool} (hb : ∀ k, k ≠ r → k < w.heap.size → w'.heap[k]? = w.heap[k]?)
    (ha : Arr w' r 63 [.map (some m), .int .i64 (t : Int), .int .i64 (q' : Int), .int .i64 (u' : Int), .bool o']) (hr : m ≠ r ∧ ∀ f ∈ fs, f.fb ≠ r ∧ ∀ k, f.dv.ownBlock = some k → k ≠ r) : IsD w' B r m fs t q' u' o' :=
  ⟨ha, mapS h.map (hb m hr.1 h.map.lt), h.names, h.blocks, fun f hf => (h.file f hf).kept (hb _ (hr.2 f hf).1 (h.file f hf).arr.lt) fun k hk => hb k ((hr.2 f hf).2 k hk) (own_lt (h.file f hf).row hk).2, h.rows, h.base⟩
theorem ty_eq {w : World} {k : Nat} {a b : Array Value} {T U : TypeId} {x y : Nat × Nat} (h1 : w.heap[k]? = some (.cells a T x)) (h2 : w.heap[k]? = some (.cells b U y)) : T = U := by
  rw [h1] at h2
  injection h2 with h
  injection h
/-- the disk's own block is none of the others -/
theorem IsD.apart {w : World} {B r m : Nat} {fs : List FS} {t q u : Nat} {o : Bool} (h : IsD w B r m fs t q u o) : m ≠ r ∧ ∀ f ∈ fs, f.fb ≠ r ∧ f.fb ≠ m ∧ ∀ k, f.dv.ownBlock = some k → k ≠ r ∧ k ≠ m ∧ ∀ g ∈ fs, k ≠ g.fb := by
  have ha := h.arr
  obtain ⟨es, clock, hm, _⟩ := h.map
  unfold Arr at ha
  have own : ∀ f ∈ fs, ∀ k, f.dv.ownBlock = some k → ∃ cs, w.heap[k]? = some (.cells cs 5 (0, 0)) := fun f hf k hk => by
    obtain ⟨h1, ⟨e, hn⟩ | ⟨g, cap, cur, e, hbb, hg, r⟩⟩ := (h.file f hf).row
    · rw [e] at hk; cases hk
    · rw [e] at hk; cases hk; exact ⟨_, hg⟩
  refine ⟨fun e => (by rw [e, ha] at hm; cases hm), fun f hf => ⟨fun e => ?_, fun e => ?_, fun k hk => ?_⟩⟩
  · have := (h.file f hf).arr
    unfold Arr at this
    rw [e] at this
    exact absurd (ty_eq this ha) (by decide)
  · have := (h.file f hf).arr
    unfold Arr at this
    rw [e, hm] at this
    cases this
  · obtain ⟨cs, hc⟩ := own f hf k hk
    refine ⟨fun e => (by rw [e] at hc; exact absurd (ty_eq hc ha) (by decide)), fun e => (by rw [e, hm] at hc; cases hc), fun g hg e => ?_⟩
    have := (h.file g hg).arr
    unfold Arr at this
    rw [e] at hc
    exact absurd (ty_eq hc this) (by decide)
/-- the power, as a change that would tell OK meets it -/
def SpRes (w : World) (B r m : Nat) (fs : List FS) (t q u : Nat) (e : Ending) (w' : World) : Prop :=
  e = .returned (.bool (decide (u ≠ 1))) ∧ IsD w' B r m fs t q (u - 1) (decide (u = 1)) ∧ KB (fun k => k = r) w w'
theorem IsD.turn1 {w w' : World} {B r m : Nat} {fs : List FS} {t q u : Nat} {o : Bool} (h : IsD w B r m fs t q u o) {q' u' : Nat} {o' : Bool} (hb : KB (fun k => k = r) w w')
    (ha : Arr w' r 63 [.map (some m), .int .i64 (t : Int), .int .i64 (q' : Int), .int .i64 (u' : Int), .bool o']) : IsD w' B r m fs t q' u' o' := by
  obtain ⟨h1, h2⟩ := h.apart
  exact h.turn (fun k hk hl => hb.block k hl hk) ha ⟨h1, fun f hf => ⟨(h2 f hf).1, fun k hk => ((h2 f hf).2.2 k hk).1⟩⟩
set_option maxRecDepth 100000 in
set_option maxHeartbeats 1600000 in
theorem spend_any (w : World) (B r m : Nat) (fs : List FS) (t q u : Nat) (h : IsD w B r m fs t q u false) (hu : u ≤ 9223372036854775807) :
    Calls Try.prog 36 #[.pointer (some ⟨r, 0, none⟩)] w (SpRes w B r m fs t q u) := by
  obtain ⟨-, -, -, c3, c4⟩ := h.cells
  have HA := h.arr
  have HD := Lib.hid h
  by_cases h0 : u = 0
  · subst h0
    clear h HA
    go_enter Try.func36, Try.ntmps36
    go_wp2
    go_ret
    exact ⟨rfl, HD.out, KB.refl _ _⟩
  · have hz : ((u : Int) == 0) = false := by simpa using h0
    have e1 : ((u : Int) - 1) = ((u - 1 : Nat) : Int) := by omega
    obtain ⟨x, hx⟩ : ∃ x, x = u - 1 := ⟨_, rfl⟩
    rw [← hx] at e1
    unfold SpRes
    rw [← hx]
    have HX := Lib.hid hx
    clear hx h
    go_enter Try.func36, Try.ntmps36
    go_wp2_with (first
      | ((with_reducible show wpList _ _ _ (⟨none, .store _ (.tmp 14) _, _, _, _, _⟩ :: _) _ _); go_loud (refine wl_store1 rfl 3 _ _ rfl r 3 rfl (.int .i64 (x : Int)) rfl rfl rfl 63 _ HA infoD1 (by simp) ?_); intro w1 hA1 hg1 hs1; (have k3 := hA1.cell 3); simp only [List.set_cons_succ, List.set_cons_zero, List.getElem?_cons_succ, List.getElem?_cons_zero] at k3 hA1)
      | ((with_reducible show wpList _ _ _ (⟨none, .store _ (.tmp 22) _, _, _, _, _⟩ :: _) _ _); go_loud (refine wl_store1 rfl 4 _ _ rfl r 4 rfl (.bool (decide ((x : Int) = 0))) rfl rfl rfl 63 _ hA1 infoB1 (by simp) ?_); intro w2 hA2 hg2 hs2; (have k4 := hA2.cell 4); simp only [List.set_cons_succ, List.set_cons_zero, List.getElem?_cons_succ, List.getElem?_cons_zero] at k4 hA2))
    go_ret
    have eb : decide ((x : Int) = 0) = decide (u = 1) := decide_eq_decide.2 (by have := HX.out; omega)
    have hk : KB (fun k => k = r) w w2 := ((KB.refl (fun k => k = r) w).grown hg1 rfl).grown hg2 rfl
    refine ⟨ret_val ?_, HD.out.turn1 hk (by rw [← eb]; exact hA2), hk⟩
    show Value.bool (!decide (x = 0)) = _
    congr 1
    have := HX.out
    by_cases h1 : u = 1 <;> simp [h1] <;> omega
end Go.Proofs.Ytcnkgenhbnafjaa
