/-
  Package files: drop, put. Conditions: those in each statement.
-/
import Derived.Test.YtcnkgenhbnafjaaFiC
namespace Go.Proofs.Ytcnkgenhbnafjaa
open Go.RowKit Go.ChangeMaps

/-- the files without a name's -/
def del (fs : List FS) (s : ByteArray) : List FS := fs.filter fun g => decide (g.name ≠ s)
theorem del_mem {fs : List FS} {s : ByteArray} {f : FS} : f ∈ del fs s ↔ f ∈ fs ∧ f.name ≠ s := by simp [del]
theorem del_none {fs : List FS} {s : ByteArray} (h : atF fs s = none) : del fs s = fs := List.filter_eq_self.2 fun f hf => by simpa using atF_none h f hf
theorem erase_del : ∀ (fs : List FS) (j : Nat) (f : FS), (fs.map FS.name).Nodup → fs[j]? = some f → fs.eraseIdx j = del fs f.name := by
  intro fs
  induction fs with
  | nil => intro j f _ h; simp at h
  | cons x xs ih =>
    intro j f hn h
    rw [List.map_cons, List.nodup_cons] at hn
    cases j with
    | zero =>
      obtain rfl : x = f := by simpa using h
      have e : del xs x.name = xs := List.filter_eq_self.2 fun g hg => by
        have : g.name ≠ x.name := fun e => hn.1 (List.mem_map.2 ⟨g, hg, e⟩)
        simpa using this
      show xs = del (x :: xs) x.name
      unfold del
      rw [List.filter_cons, if_neg (by simp)]
      exact e.symm
    | succ j =>
      have h' : xs[j]? = some f := by simpa using h
      have hne : x.name ≠ f.name := fun e => hn.1 (List.mem_map.2 ⟨f, List.mem_of_getElem? h', e.symm⟩)
      show x :: xs.eraseIdx j = del (x :: xs) f.name
      unfold del
      rw [List.filter_cons, if_pos (by simpa using hne), ih j f hn.2 h']
      rfl
theorem total_del {fs : List FS} {s : ByteArray} {f : FS} (hn : (fs.map FS.name).Nodup) (h : atF fs s = some f) : total (del fs s) + f.data.length = total fs := by
  induction fs with
  | nil => cases h
  | cons x xs ih =>
    rw [List.map_cons, List.nodup_cons] at hn
    unfold atF at h
    rw [List.find?_cons] at h
    by_cases e : x.name = s
    · rw [decide_eq_true e] at h
      obtain rfl : x = f := by simpa using h
      have hd : del (x :: xs) s = xs := by
        unfold del
        rw [List.filter_cons, if_neg (by simpa using e)]
        exact List.filter_eq_self.2 fun g hg => by
          have : g.name ≠ s := fun e2 => hn.1 (List.mem_map.2 ⟨g, hg, by rw [e2, e]⟩)
          simpa using this
      rw [hd]
      simp [total]
      omega
    · rw [decide_eq_false e] at h
      have := ih hn.2 h
      have hd : del (x :: xs) s = x :: del xs s := by
        unfold del
        rw [List.filter_cons, if_pos (by simpa using e)]
      rw [hd]
      simp only [total, List.map_cons, List.sum_cons] at this ⊢
      omega
theorem drop_run {w : World} {m : Nat} {fs : List FS} (hm : MapR GStr w m (fs.map ent)) (hn : (fs.map FS.name).Nodup) {s : ByteArray} {f : FS} (hf : atF fs s = some f) (ty : TypeId) :
    ∃ w', (Builtin.delete_ #[61, 9] ty #[.map (some m), .string s]).run Try.prog w = .ok (.tuple #[]) w' ∧ MapR GStr w' m ((del fs s).map ent) ∧ w.grownBy w' (some m) ∧ w'.heap.size = w.heap.size := by
  obtain ⟨es, clock, hb, he, hg, hbo⟩ := hm
  have hk : ∀ e ∈ es.toList, GStr w e.key := fun e hm => hg (e.key, e.val) (by rw [← he]; exact List.mem_map.2 ⟨e, hm, rfl⟩)
  have ht : Try.prog.underlying 61 = some (.map 9 68) := Try.underlying61
  obtain ⟨hfm, hfn⟩ := atF_mem hf
  rcases str_ok.find w (.string s) es.toList ⟨s, rfl⟩ hk with ⟨h1, h2⟩ | ⟨j, e0, h1, h2, h3, -⟩
  · have : ent f ∈ es.toList.map (fun e => (e.key, e.val)) := by rw [he]; exact List.mem_map.2 ⟨f, hfm, rfl⟩
    obtain ⟨x, hx, ex⟩ := List.mem_map.1 this
    exact absurd (by have := congrArg Prod.fst ex; simpa [ent, hfn] using this) (h2 x hx)
  · have hjl : j < es.size := by have := (List.getElem?_eq_some_iff.1 h2).1; simpa using this
    have e1 : (fs.map ent)[j]? = some (e0.key, e0.val) := by rw [← he, List.getElem?_map, h2]; rfl
    rw [List.getElem?_map] at e1
    obtain ⟨g, hg1, hg2⟩ := Option.map_eq_some_iff.1 e1
    have hgn : g.name = s := by
      have := congrArg Prod.fst hg2
      simp only [ent, h3] at this
      injection this
    have hsub : (es.eraseIdxIfInBounds j).toList = es.toList.eraseIdx j := by
      unfold Array.eraseIdxIfInBounds
      rw [dif_pos hjl]
      simp
    have hmap : (es.eraseIdxIfInBounds j).toList.map (fun e => (e.key, e.val)) = (del fs s).map ent := by
      rw [hsub, map_eraseIdx, he, ← map_eraseIdx, erase_del fs j g hn hg1, hgn]
    refine ⟨setBlock w m (.map (es.eraseIdxIfInBounds j) clock), by simp [Builtin.delete_, run_underlying ht, MapKept.run_getObj_map hb, str_ok.check w (.string s) _ ⟨s, rfl⟩, h1, MapKept.run_setObj_map _ hb, Result.andThen, setBlock], ⟨_, _, (MapKept.heap_set hb).1, hmap, fun p hp => ?_, fun x hx => hbo.1 x (by rw [hsub] at hx; exact List.mem_of_mem_eraseIdx hx), by rw [hsub, map_eraseIdx]; exact hbo.2.sublist (List.eraseIdx_sublist _ _)⟩, set_grown hb _, by simp [setBlock]⟩
    obtain ⟨x, -, rfl⟩ := List.mem_map.1 hp
    exact ⟨_, rfl⟩
theorem wl_del {w : World} {ops : Array Oper} {rest : List Oper} {o : Oper} {a : Act} {Q : Exit → Act → World → Prop} (hg : o.guard = none) (mm x : Operand) (hop : o.op = Op.call { callee := Callee.builtin Builtin.delete, args := #[mm, x], argTypes := #[61, 9] }) {m : Nat} {fs : List FS} {s : ByteArray} {f : FS} (hm : a.eval mm = .map (some m)) (hx : a.eval x = .string s)
    (hown : MapR GStr w m (fs.map ent)) (hn : (fs.map FS.name).Nodup) (hf : atF fs s = some f) (hk : ∀ w', MapR GStr w' m ((del fs s).map ent) → w.grownBy w' (some m) → w'.heap.size = w.heap.size → wpList Try.prog ops Q rest (a.put o.dst (.tuple #[])) w') : wpList Try.prog ops Q (o :: rest) a w := by
  refine wpList_plain hg fun K' hK' => ?_
  obtain ⟨w', h1, h2, h3, h4⟩ := drop_run hown hn hf o.type
  unfold Oper.wp
  simp [execOp, hop, resolve, invoke, builtin, hm, hx, h1, Result.andThen]
  exact hK' _ _ (hk w' h2 h3 h4)
/-- fewer files -/
theorem IsD.fewer {w w' : World} {B r m : Nat} {fs : List FS} {t q u : Nat} {o : Bool} (h : IsD w B r m fs t q u o) (s : ByteArray) {t' : Nat} (hb : KB (fun k => k = r ∨ k = m) w w')
    (ha : Arr w' r 63 [.map (some m), .int .i64 (t' : Int), .int .i64 (q : Int), .int .i64 (u : Int), .bool o]) (hm : MapR GStr w' m ((del fs s).map ent)) : IsD w' B r m (del fs s) t' q u o := by
  obtain ⟨h1, h2⟩ := h.apart
  have sub : (del fs s).Sublist fs := List.filter_sublist
  refine ⟨ha, hm, (sub.map _).nodup h.names, (sub.map _).nodup h.blocks, fun f hf => ?_, h.rows.sublist sub, h.base⟩
  have hf' := (del_mem.1 hf).1
  obtain ⟨a1, a2, a3⟩ := h2 f hf'
  exact (h.file f hf').kept (hb.block _ (h.file f hf').arr.lt (fun h => h.elim a1 a2)) fun k hk => hb.block k (own_lt (h.file f hf').row hk).2 (fun h => h.elim (a3 k hk).1 (a3 k hk).2.1)
theorem grown_set (w : World) (g off : Nat) (v : Value) : w.grownBy (w.setCell ⟨g, off, none⟩ v) (some g) :=
  ⟨rfl, rfl, rfl, Nat.le_of_eq (World.size_setCell ..).symm, fun k _ hk => Below.heap_setCell _ _ _ k (fun e => hk (by rw [e]))⟩
/-- what drop leaves -/
def DropRes (w : World) (B r m : Nat) (fs : List FS) (t q u : Nat) (o : Bool) (s : ByteArray) (e : Ending) (w' : World) : Prop :=
  e = .returned (.tuple #[]) ∧ IsD w' B r m (del fs s) (t - ((atF fs s).elim 0 fun f => f.data.length)) q u o ∧ KB (fun k => k = r ∨ k = m) w w'
theorem own_slice {w : World} {B : Nat} {v : Value} {xs : List UInt8} (h : Own w B 5 v xs) : ∃ a c, v = .slice a xs.length c := by
  obtain ⟨a, c, e, -⟩ := h.shape
  exact ⟨a, c, e⟩
set_option maxRecDepth 100000 in
set_option maxHeartbeats 1600000 in
theorem drop_any (w : World) (B r m : Nat) (fs : List FS) (t q u : Nat) (o : Bool) (h : IsD w B r m fs t q u o) (s : ByteArray) (ht : total fs ≤ t) (ht2 : t ≤ 9223372036854775807) :
    Calls Try.prog 47 #[.pointer (some ⟨r, 0, none⟩), .string s] w (DropRes w B r m fs t q u o s) := by
  obtain ⟨c0, c1, -, -, -⟩ := h.cells
  have HA := h.arr
  have hk := look0 h.map h.names s
  unfold DropRes
  cases hf : atF fs s with
  | none =>
    rw [hf] at hk
    have k2 : (Instr.lookup 61 (.map (some m)) (.string s) false).run Try.prog w = .ok (.pointer none) w := hk
    have HD : IsD w B r m (del fs s) (t - (none : Option FS).elim 0 fun f => f.data.length) q u o := by rw [del_none hf]; exact h
    have HDD := Lib.hid HD
    clear h hk HA HD
    go_enter Try.func47, Try.ntmps47
    go_wp2
    exact bodyPost_end (results_none rfl _ _ _) rfl ⟨rfl, HDD.out, KB.refl _ _⟩
  | some f =>
    rw [hf] at hk
    have k2 : (Instr.lookup 61 (.map (some m)) (.string s) false).run Try.prog w = .ok (.pointer (some ⟨f.fb, 0, none⟩)) w := hk
    obtain ⟨hfm, hfn⟩ := atF_mem hf
    have hF := h.file f hfm
    obtain ⟨a1, n1, e1⟩ := own_slice hF.row
    have cd := hF.arr.cell 0
    rw [e1] at cd
    have hle : f.data.length ≤ t := by have := total_del h.names hf; omega
    have e2 : ((t : Int) - (f.data.length : Int)) = ((t - f.data.length : Nat) : Int) := by omega
    obtain ⟨x, hx⟩ : ∃ x, x = t - f.data.length := ⟨_, rfl⟩
    rw [← hx] at e2
    simp only [List.getElem?_cons_zero] at cd
    have HX := Lib.hid hx
    have HD := Lib.hid h
    clear hx h hk
    go_enter Try.func47, Try.ntmps47
    have fr := HA.frozen 1
    go_upto_region 2 with fail
    go_region
    have hA1 := (HA.store 1 (.int .i64 (x : Int))).drew
    have hkb : KB (fun k => k = r ∨ k = m) w (w.setCell ⟨r, 1, none⟩ (.int .i64 (x : Int))).drew := ((KB.refl (fun k => k = r ∨ k = m) w).grown (grown_set w r 1 (.int .i64 (x : Int))) (.inl rfl)).drew
    have hmap : MapR GStr (w.setCell ⟨r, 1, none⟩ (.int .i64 (x : Int))).drew m (fs.map ent) := mapS HD.out.map (Below.heap_setCell _ _ _ m HD.out.apart.1)
    obtain ⟨w1, hw1⟩ : ∃ w1, w1 = (w.setCell ⟨r, 1, none⟩ (.int .i64 (x : Int))).drew := ⟨_, rfl⟩
    rw [← hw1] at hA1 hkb hmap ⊢
    simp only [List.set_cons_succ, List.set_cons_zero] at hA1
    have k0 := hA1.cell 0
    simp only [List.getElem?_cons_zero] at k0
    have HA1 := Lib.hid hA1
    clear c0 c1 cd fr HA k2 hw1 hA1
    go_wp2_with ((with_reducible show wpList _ _ _ (⟨none, .call _, _, _, _, _⟩ :: _) _ _); go_loud (refine wl_del rfl _ _ rfl rfl rfl hmap HD.out.names hf ?_); intro w2 hm2 hg2 hs2)
    refine bodyPost_end (results_none rfl _ _ _) rfl ⟨rfl, ?_, hkb.grown hg2 (.inr rfl)⟩
    rw [← HX.out] 
    exact HD.out.fewer s (hkb.grown hg2 (.inr rfl)) (HA1.out.grown hg2 (by intro e; injection e with e; exact HD.out.apart.1 e.symm)) hm2
end Go.Proofs.Ytcnkgenhbnafjaa
