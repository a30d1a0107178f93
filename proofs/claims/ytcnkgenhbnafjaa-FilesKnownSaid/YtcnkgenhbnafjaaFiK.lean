/-
  slices.AppendSeq over maps.Keys: the keys, in whatever order. Conditions: those in each statement.
-/
import Derived.Test.YtcnkgenhbnafjaaRgI
namespace Go.Proofs.Ytcnkgenhbnafjaa
open Go.RowKit Go.Shelf Go.ChangeMaps
attribute [local go_sem] Oper.semAt_some

theorem arr_owned {A B : World} {row : Option Nat} {g : Nat} {T : TypeId} {xs : List Value} (h : Arr A g T xs) (hg : A.grownBy B row) (hr : ∀ r, row = some r → ∃ o : Obj, A.heap[r]? = some o ∧ o.isCells = false) : Arr B g T xs :=
  (grownBy_keeps_cells hg hr h rfl).trans h
theorem boxed_owned {A B : World} {row : Option Nat} {g : Nat} {T : TypeId} {v : Value} (h : Boxed A g T v) (hg : A.grownBy B row) (hr : ∀ r, row = some r → ∃ o : Obj, A.heap[r]? = some o ∧ o.isCells = false) : Boxed B g T v :=
  (grownBy_keeps_cells hg hr h rfl).trans h
abbrev OwnS (w : World) (B : Nat) (v : Value) (ss : List ByteArray) : Prop := OwnG 9 1 encS w B v ss
theorem ownS_owned {A B : World} {row : Option Nat} {b : Nat} {v : Value} {ss : List ByteArray} (h : OwnS A b v ss) (hg : A.grownBy B row) (hr : ∀ r, row = some r → ∃ o : Obj, A.heap[r]? = some o ∧ o.isCells = false) : OwnS B b v ss := by
  refine OwnG.by h hg ?_
  obtain ⟨h1, ⟨rfl, hn⟩ | ⟨g, cap, cur, rfl, hbb, hgg, r⟩⟩ := h.row
  · exact .inl rfl
  · refine .inr fun e => ?_
    obtain ⟨o, h2, h3⟩ := hr g e.symm
    rw [hgg] at h2
    cases h2
    cases h3
theorem keys_stops (N : Nat) (hN : 1 ≤ N) (x m : Nat) (es : Array MapEntry) (clock : Nat) (hbo : Born es clock) (hstr : ∀ e ∈ es.toList, e.key = .string (keyS e.key)) (w : World) (hB : Boxed w x 61 (.map (some m))) (hm : w.heap[m]? = some (.map es clock)) :
    SeqStopsK Fence.wide N Try.prog 58 #[.pointer (some ⟨x, 0, none⟩)] (fun s : ByteArray => #[.string s]) KeepsWalks (fun ys => ys.Perm (es.toList.map fun e => keyS e.key)) (fun _ => True) es.size w := fun l J Jx W hW hJ _ hY h0 =>
  keys1_in N hN l x m es clock hbo hstr J Jx hY W hJ ((hW.block x hB.lt).trans hB) ((hW.block m (Array.getElem?_eq_some_iff.1 hm).1).trans hm) h0
theorem infoGs : InfoG Try.prog 57 9 1 16 (.string ⟨#[]⟩) := ⟨Try.underlying57, by kernel_rfl, rfl, by decide⟩
theorem infoSs : (Try.prog.info? 57).map (·.size) = some 1 := by kernel_rfl
theorem own_typeS {w : World} {B : Nat} {v : Value} {ss : List ByteArray} (h : OwnS w B v ss) {k : Nat} (hk : v.ownBlock = some k) : ∃ cs, w.heap[k]? = some (.cells cs 9 (0, 0)) := by
  obtain ⟨h1, ⟨rfl, hn⟩ | ⟨g, cap, cur, rfl, hbb, hgg, r⟩⟩ := h.row
  · cases hk
  · cases hk; exact ⟨_, hgg⟩
theorem ownS_one {w : World} {B : Nat} {v : Value} {ss : List ByteArray} (h : OwnS w B v ss) : v.oneCell' = true ∧ v.cells = #[v] := by
  obtain ⟨a, c, rfl, -⟩ := h.rd (by omega)
  exact ⟨rfl, rfl⟩
theorem ownS_lt {w : World} {B : Nat} {v : Value} {ss : List ByteArray} (h : OwnS w B v ss) {k : Nat} (hk : v.ownBlock = some k) : B ≤ k ∧ k < w.heap.size ∧ ∃ o : Obj, w.heap[k]? = some o ∧ o.isCells = true := by
  have h1 := World.ownsRow.lt h.row k hk
  obtain ⟨cs, e⟩ := own_typeS h hk
  exact ⟨h1.1, h1.2, _, e, rfl⟩
theorem keeps_kb {B : Nat} {Z : Nat → Prop} {W W' : World} (h : KB Z W W') (hz : ∀ k, Z k → ∃ o : Obj, W.heap[k]? = some o ∧ o.isCells = true) : KeepsFrom B W W' :=
  ⟨h.size, fun k o _ hk ho => by
    by_cases e : Z k
    · obtain ⟨o', h1, h2⟩ := hz k e
      rw [hk] at h1
      cases h1
      rw [ho] at h2
      cases h2
    · exact (h.block k (Array.getElem?_eq_some_iff.1 hk).1 e).trans hk⟩
theorem walks_kb {Z : Nat → Prop} {W W' : World} (h : KB Z W W') (hz : ∀ k, Z k → ∃ o : Obj, W.heap[k]? = some o ∧ o.isCells = true) : KeepsWalks W W' :=
  ⟨h.size, fun k o hk ho => by
    by_cases e : Z k
    · obtain ⟨o', h1, h2⟩ := hz k e
      rw [hk] at h1
      cases h1
      cases o <;> simp [Obj.isWalk, Obj.isCells] at ho h2
    · exact (h.block k (Array.getElem?_eq_some_iff.1 hk).1 e).trans hk⟩
set_option maxRecDepth 100000 in
set_option maxHeartbeats 2000000 in
theorem AppendSeq_any (x m : Nat) (es : Array MapEntry) (clock : Nat) (hbo : Born es clock) (hstr : ∀ e ∈ es.toList, e.key = .string (keyS e.key)) (hsz : es.size ≤ 1048576) (w : World) (hB : Boxed w x 61 (.map (some m))) (hm : w.heap[m]? = some (.map es clock)) :
    Calls Try.prog 61 #[.slice none 0 0, .func (.func 58) #[] #[.pointer (some ⟨x, 0, none⟩)]] w fun e w' =>
      ∃ ys v, e = .returned v ∧ ys.Perm (es.toList.map fun e => keyS e.key) ∧ OwnS w' w.heap.size v ys ∧ Below w.heap.size w w' := by
  refine (callsIn_wide (n := 4)).1 ?_
  refine callsIn_of_wp_marks Try.func61 rfl trivial ?_ rfl
  refine wpIn_wide.2 ?_
  simp only [Try.ntmps61, List.size_toArray, List.length_cons, List.length_nil, Nat.reduceAdd, Nat.reduceSub, Array.replicate_succ, Array.replicate_zero, List.push_toArray, List.append_toArray, List.nil_append, List.cons_append]
  go_wp2_with ((with_reducible show wpList _ _ _ (⟨some 2, .box _ _, _, _, _, _⟩ :: _) _ _); go_loud (refine wl_box1 rfl 57 _ rfl (.slice none 0 0) rfl rfl ?_); intro w1 hA1 hb1 hs1)
  obtain ⟨g2, hg2⟩ : ∃ g, g = w.heap.size := ⟨_, rfl⟩
  rw [← hg2] at hA1 hs1 ⊢
  have HG := Lib.hid hg2
  have hx1 := (hb1.block x hB.lt).trans hB
  have hm1 := (hb1.block m (Array.getElem?_eq_some_iff.1 hm).1).trans hm
  clear hg2
  refine (wpIn_wide (n := 4)).1 ?_
  refine wpIn_rangeFunc_ownG (n := 4) rfl (by omega) (gf := 58) (lb := #[.pointer (some ⟨x, 0, none⟩)]) rfl trivial (enters_of Try.func58 (by kernel_rfl) rfl)
    (keys_stops 3 (by omega) x m es clock hbo hstr w1 hx1 hm1)
    (fun h k => h.trans k) (fun W l o o' _ ho _ hw => KeepsWalks.putObj o' ho hw) (Below.refl _ _) (fun _ => rfl)
    (fun pre W => ∃ sv, Arr W g2 57 [sv] ∧ OwnS W w1.heap.size sv pre ∧ Below w.heap.size w W ∧ w1.heap.size ≤ W.heap.size)
    (fun _ _ _ => False)
    ?own
    (fun _ _ _ _ _ hs _ _ => hs)
    ⟨.slice none 0 0, hA1, OwnG.nil _ _, hb1, Nat.le_refl _⟩
    (fun s => { tmps := #[.slice none 0 0, .func (.func 58) #[] #[.pointer (some ⟨x, 0, none⟩)], .pointer (some ⟨g2, 0, none⟩), undef, .slice none 0 0, .string s, .func (.func 58) #[] #[.pointer (some ⟨x, 0, none⟩)], .string s, undef, undef, undef, undef, undef], defers := [] }) ?assign ?body ?done ?stop
  case own =>
    intro pre A B row hs hg hr
    obtain ⟨sv, h1, h2, h3, h4⟩ := hs
    have hc := fun r e => (hr r e).2
    exact ⟨sv, arr_owned h1 hg hc, ownS_owned h2 hg hc, h3.grown hg (by have := hb1.size; omega) (fun r e => by have := (hr r e).1; have := hb1.size; omega), Nat.le_trans h4 hg.size⟩
  case assign =>
    intro l s W K hK
    gi_wp2
    exact hK
  case body =>
    rintro l pre s W ⟨sv, h1, h2, h3, h4⟩ hlen
    have c2 := h1.cell 0
    simp only [List.getElem?_cons_zero] at c2
    have hg2W := h1.lt
    refine wpIn_block ?_
    refine regionIn_list (.round l) (by rintro ⟨a, w, e⟩; exact e) rfl ?_
    go_wp2_with (first
      | ((with_reducible show wpList _ _ _ (⟨some 11, .call _, _, _, _, _⟩ :: _) _ _); go_loud (refine wl_appendG1 infoGs rfl _ _ rfl w1.heap.size sv pre rfl (h2.to ((Below.refl _ _).alloc (Nat.le_refl _) _)) W.heap.size s rfl (Arr.new W _ [.string s]) rfl (by simp [Value.oneCell']) (by unfold maxLen; omega) (by omega) (by simp; omega) ?_); intro v3 W3 ho3 hg3 hb3; (have h13 := (h1.kept ((Below.refl _ _).alloc (Nat.le_refl _) (.cells #[.string s] 9))).grown hg3 (fun e => (by have := (ownS_lt h2 e.symm).1; omega))); obtain ⟨hv1, hv2⟩ := ownS_one ho3)
      | ((with_reducible show wpList _ _ _ (⟨none, .store _ _ _, _, _, _, _⟩ :: _) _ _); go_loud (refine wl_store1 rfl 57 _ _ rfl g2 0 rfl v3 rfl hv2 hv1 57 _ h13 infoSs (by simp) ?_); intro W4 hA4 hg4 hs4))
    simp only [List.set_cons_zero] at hA4
    have hkb : KB (fun k => k = g2 ∨ sv.ownBlock = some k) W W4 := by
      refine KB.grown (KB.trans (KB.low0 ((Below.refl _ _).alloc (Nat.le_refl _) (.cells #[.string s] 9))) (KB.by' hg3 (fun k e => .inr e))) hg4 (.inl rfl)
    have hcells : ∀ k, (k = g2 ∨ sv.ownBlock = some k) → ∃ o : Obj, W.heap[k]? = some o ∧ o.isCells = true := by
      rintro k (rfl | hk)
      · exact ⟨_, h1, rfl⟩
      · exact (ownS_lt h2 hk).2.2
    have hv3g : ∀ k, v3.ownBlock = some k → some k ≠ some g2 := fun k hk e => by
      injection e with e
      have := (ownS_lt ho3 hk).1
      omega
    refine ⟨keeps_kb hkb hcells, walks_kb hkb hcells, v3, hA4, OwnG.by ho3 hg4 ?_, h3.trans (hkb.under (fun k e => ?_) ?_), Nat.le_trans h4 hkb.size⟩
    · cases hv : v3.ownBlock with
      | none => exact .inl rfl
      | some k => exact .inr (hv3g k hv)
    · have := HG.out
      rcases e with rfl | e
      · omega
      · have := (ownS_lt h2 e).1; omega
    · exact h3.size
  case done =>
    rintro D ys W hD hys ⟨sv, h1, h2, h3, h4⟩ hK
    have c2 := h1.cell 0
    simp only [List.getElem?_cons_zero] at c2
    go_wp2
    refine ⟨by simp, .inl ⟨_, _, rfl, run_takeDeferred hK, ?_⟩⟩
    have hw1 := hb1.size
    have hg := grownBy_putObj' W D (.deferred none)
    have hB2 : Below w.heap.size w (W.putObj D (.deferred none)) := h3.grown hg (by omega) (by intro k e; injection e with e; omega)
    refine ⟨_, results_tmp rfl _ _ _, ys, sv, rfl, hys, (ownS_owned h2 hg (fun r e => by injection e with e; subst e; exact ⟨_, hK, rfl⟩)).base hw1, hB2⟩
  case stop =>
    rintro D c pre W _ _ h _
    exact h.elim
end Go.Proofs.Ytcnkgenhbnafjaa
