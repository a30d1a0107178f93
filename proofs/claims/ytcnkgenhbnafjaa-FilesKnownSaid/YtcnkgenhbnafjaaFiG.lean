/-
  Package files: a file's bytes, more of them; Append. Conditions: those in each statement.
-/
import Derived.Test.YtcnkgenhbnafjaaFiF
import Derived.Deep.AppendLies
import Derived.ArgAppend
namespace Go.Proofs.Ytcnkgenhbnafjaa
open Go.RowKit

theorem grown_refl (w : World) (r : Option Nat) : w.grownBy w r := ⟨rfl, rfl, rfl, Nat.le_refl _, fun _ _ _ => rfl⟩
section
variable {P : Program} {T E : TypeId} (bt : BT P T E) {ops : Array Oper} {rest : List Oper} {o : Oper} {a : Act} {Q : Exit → Act → World → Prop} {w : World}
include bt
/-- append(own, src...), and where the row then lies -/
theorem wl_app (hgd : o.guard = none) (d s : Operand) (ho : o.op = .call { callee := .builtin .append, args := #[d, s], argTypes := #[T, T] })
    (B : Nat) (v : Value) (ys : List UInt8) (hown : Own w B E v ys) (hd : a.eval d = v) (sp : Option Addr) (sLen sCap : Nat) (xs : List UInt8)
    (hs : a.eval s = .slice sp sLen sCap) (hrd : Rd w sp sLen sCap xs) (hb : ys.length + sLen ≤ 140737488355328) (hB : B ≤ w.heap.size)
    (hK : ∀ v' w', Own w' B E v' (ys ++ xs) → w.grownBy w' v.ownBlock → (∀ k, v'.ownBlock = some k → v.ownBlock = some k ∨ w.heap.size ≤ k) → wpList P ops Q rest (a.put o.dst v') w') :
    wpList P ops Q (o :: rest) a w := by
  obtain ⟨i0, hi, hz0, hz1, hz2⟩ := info_parts bt.info
  have hxl := hrd.len
  cases sp with
  | none =>
    have h0 : sCap = 0 := hrd.nil rfl
    have h1 : sLen = 0 := by have := hrd.le; omega
    subst h0 h1
    have hx : xs = [] := List.eq_nil_of_length_eq_zero hxl
    subst hx
    refine wpList_append_own_none hgd d s T ho B E i0 1 bt.sl hi v _ _ hd hown hs ?_
    exact hK v w (by simpa using hown) (grown_refl _ _) fun k h => .inl h
  | some ad =>
    by_cases h0 : sLen = 0
    · subst h0
      have hx : xs = [] := List.eq_nil_of_length_eq_zero hxl
      subst hx
      obtain ⟨h1, ⟨rfl, hn⟩ | ⟨g, cap, cur, rfl, hbb, hg, hle, hcm, hcs, ht⟩⟩ := id hown
      · refine wpList_append_own w hgd d s T ho B E i0 (.int .u8 0) 1 1 bt.sl hi hz0 hz1 hz2 rfl (by decide) _ _ _ hd hown ad 0 sCap [] hs (by simp) (by simp) (by simp) (by unfold maxLen; omega) (by omega) hB ?_
        intro v' w' h1 h2 h3
        obtain rfl := h3.2 ⟨rfl, rfl⟩
        refine hK _ w' ?_ h2 (fun k h => by cases h)
        rw [List.append_nil]
        unfold Own
        simpa using h1
      · refine wpList_append_arg w hgd d s T ho E i0 (.int .u8 0) 1 1 bt.sl hi hz0 hz1 hz2 rfl (by decide) g 0 ys.length cap (ys.map bv) hd (by simp) (fun j u hj => ?_) ad 0 sCap [] hs (by simp) (by simp) (by simp) (fun _ j hj => by simp at hj) (by unfold maxLen; omega) (by omega) (fun _ => ?_) (fun hc => by omega)
        · have hj' : j < ys.length := by simpa using (List.getElem?_eq_some_iff.1 hj).1
          rw [Nat.zero_add, World.ownsRow.cellAt hown j (by simpa using hj')]
          exact hj
        · rw [Nat.add_zero]
          exact hK _ w (by simpa using hown) (grown_refl _ _) fun k h => .inl h
    · refine wpList_append_lies w hgd d s T ho B E i0 (.int .u8 0) 1 1 bt.sl hi hz0 hz1 hz2 rfl (by decide) v ys.length (ys.map bv) hd hown ad sLen sCap (xs.map bv) hs (by simp [hxl]) hrd.cells bv_oneCell (by omega) (by unfold maxLen; omega) (by omega) hB w.heap.size rfl ?_
      intro g cap w' h1 h2 h3 _
      refine hK _ w' ?_ h2 (fun k h => ?_)
      · unfold Own
        rw [List.length_append, List.map_append, hxl]
        exact h1
      · cases h
        rcases h3 with h3 | h3
        · exact .inl h3
        · exact .inr (Nat.le_of_eq h3.symm)
end
/-- a file in the place of the one that has its name -/
def upd1 (fs : List FS) (g : FS) : List FS := fs.map fun f => if f.name = g.name then g else f
theorem upd1_names (fs : List FS) (g : FS) : (upd1 fs g).map FS.name = fs.map FS.name := by
  unfold upd1
  rw [List.map_map]
  apply List.map_congr_left
  intro f _
  show (if f.name = g.name then g else f).name = f.name
  by_cases h : f.name = g.name
  · rw [if_pos h, h]
  · rw [if_neg h]
theorem upd1_map {α : Type} (fs : List FS) (g f : FS) (hn : (fs.map FS.name).Nodup) (hf : f ∈ fs) (he : f.name = g.name) (p : FS → α) (hp : p f = p g) : (upd1 fs g).map p = fs.map p := by
  unfold upd1
  rw [List.map_map]
  apply List.map_congr_left
  intro x hx
  show p (if x.name = g.name then g else x) = p x
  by_cases h : x.name = g.name
  · rw [if_pos h, ← hp, nodup_inj hn hx hf (h.trans he.symm)]
  · rw [if_neg h]
theorem upd1_mem {fs : List FS} {g x : FS} (h : x ∈ upd1 fs g) : (x = g) ∨ (x ∈ fs ∧ x.name ≠ g.name) := by
  obtain ⟨f, hf, rfl⟩ := List.mem_map.1 h
  by_cases e : f.name = g.name
  · exact .inl (if_pos e)
  · rw [if_neg e]
    exact .inr ⟨hf, e⟩
theorem upd1_total {fs : List FS} {g f : FS} (hn : (fs.map FS.name).Nodup) (hf : f ∈ fs) (he : f.name = g.name) : total (upd1 fs g) + f.data.length = total fs + g.data.length := by
  induction fs with
  | nil => cases hf
  | cons x xs ih =>
    rw [List.map_cons, List.nodup_cons] at hn
    have hc : upd1 (x :: xs) g = (if x.name = g.name then g else x) :: upd1 xs g := rfl
    rw [hc]
    by_cases h : x.name = g.name
    · rw [if_pos h]
      have hx : x = f := by
        rcases List.mem_cons.1 hf with e | hf'
        · exact e.symm
        · exact absurd (List.mem_map.2 ⟨f, hf', he.trans h.symm⟩) hn.1
      subst hx
      have hid : upd1 xs g = xs := by
        unfold upd1
        conv => rhs; rw [← List.map_id xs]
        apply List.map_congr_left
        intro y hy
        have : y.name ≠ g.name := fun e => hn.1 (List.mem_map.2 ⟨y, hy, e.trans h.symm⟩)
        rw [if_neg this]; rfl
      rw [hid]
      simp only [total, List.map_cons, List.sum_cons]
      omega
    · rw [if_neg h]
      have hf' : f ∈ xs := by
        rcases List.mem_cons.1 hf with e | hf'
        · rw [← e] at h; exact absurd he h
        · exact hf'
      have := ih hn.2 hf'
      simp only [total, List.map_cons, List.sum_cons] at this ⊢
      omega
theorem rows_upd {fs : List FS} {g : FS} (hn : (fs.map FS.name).Nodup) (hr : fs.Pairwise (fun f g => ∀ k, f.dv.ownBlock = some k → g.dv.ownBlock ≠ some k))
    (hg : ∀ x ∈ fs, x.name ≠ g.name → ∀ k, x.dv.ownBlock = some k → g.dv.ownBlock ≠ some k) : (upd1 fs g).Pairwise (fun f g => ∀ k, f.dv.ownBlock = some k → g.dv.ownBlock ≠ some k) := by
  unfold upd1
  rw [List.pairwise_map]
  refine (hr.and (List.pairwise_map.1 hn)).imp_of_mem fun {a b} ha hb hab => ?_
  intro k hk hk2
  by_cases h1 : a.name = g.name
  · by_cases h2 : b.name = g.name
    · exact absurd (h1.trans h2.symm) hab.2
    · rw [if_pos h1] at hk
      rw [if_neg h2] at hk2
      exact hg b hb h2 k hk2 hk
  · rw [if_neg h1] at hk
    by_cases h2 : b.name = g.name
    · rw [if_pos h2] at hk2
      exact hg a ha h1 k hk hk2
    · rw [if_neg h2] at hk2
      exact hab.1 k hk hk2
theorem pw_all {α : Type} {R : α → α → Prop} (hs : ∀ a b, R a b → R b a) : ∀ {l : List α}, l.Pairwise R → ∀ {x y : α}, x ∈ l → y ∈ l → x ≠ y → R x y := by
  intro l
  induction l with
  | nil => intro _ x y hx; cases hx
  | cons a l ih =>
    intro h x y hx hy hne
    rw [List.pairwise_cons] at h
    rcases List.mem_cons.1 hx with ex | hx <;> rcases List.mem_cons.1 hy with ey | hy
    · exact absurd (ex.trans ey.symm) hne
    · rw [ex]; exact h.1 y hy
    · rw [ey]; exact hs _ _ (h.1 x hx)
    · exact ih h.2 hx hy hne
/-- two files of one disk lie apart -/
theorem IsD.two {w : World} {B r m : Nat} {fs : List FS} {t q u : Nat} {o : Bool} (h : IsD w B r m fs t q u o) {f x : FS} (hf : f ∈ fs) (hx : x ∈ fs) (hne : x.name ≠ f.name) : x.fb ≠ f.fb ∧ ∀ k, x.dv.ownBlock = some k → f.dv.ownBlock ≠ some k := by
  have hxf : x ≠ f := fun e => hne (by rw [e])
  exact ⟨pw_all (fun a b hab e => hab e.symm) (List.pairwise_map.1 h.blocks) hx hf hxf, pw_all (fun a b hab k hk hk2 => hab k hk2 hk) h.rows hx hf hxf⟩
/-- a disk of which one file was turned -/
theorem IsD.upd {w w' : World} {B r m : Nat} {fs : List FS} {t q u : Nat} {o : Bool} (h : IsD w B r m fs t q u o) {f g : FS} (hf : f ∈ fs) (hn : f.name = g.name) (hb : f.fb = g.fb) {t' q' u' : Nat} {o' : Bool}
    (hk : KB (fun k => k = r ∨ k = f.fb ∨ f.dv.ownBlock = some k) w w') (ha : Arr w' r 63 [.map (some m), .int .i64 (t' : Int), .int .i64 (q' : Int), .int .i64 (u' : Int), .bool o'])
    (hg : IsF w' B g) (hrow : ∀ k, g.dv.ownBlock = some k → f.dv.ownBlock = some k ∨ w.heap.size ≤ k) : IsD w' B r m (upd1 fs g) t' q' u' o' := by
  obtain ⟨h1, h2⟩ := h.apart
  obtain ⟨b1, b2, b3⟩ := h2 f hf
  have hent : (upd1 fs g).map ent = fs.map ent := upd1_map fs g f h.names hf hn ent (by unfold ent; rw [hn, hb])
  have hfbs : (upd1 fs g).map FS.fb = fs.map FS.fb := upd1_map fs g f h.names hf hn FS.fb hb
  refine ⟨ha, ?_, by rw [upd1_names]; exact h.names, by rw [hfbs]; exact h.blocks, fun x hx => ?_, rows_upd h.names h.rows fun x hx hne k hkx hkg => ?_, h.base⟩
  · rw [hent]
    exact mapS h.map (hk.block m h.map.lt (by rintro (e | e | e); exact h1 e; exact b2 e.symm; exact (b3 m e).2.1 rfl))
  · rcases upd1_mem hx with rfl | ⟨hx, hne⟩
    · exact hg
    · have h3 := h.two hf hx (by rw [hn]; exact hne)
      obtain ⟨a1, a2, a3⟩ := h2 x hx
      refine (h.file x hx).kept (hk.block _ (h.file x hx).arr.lt ?_) fun k hkx => hk.block k (own_lt (h.file x hx).row hkx).2 ?_
      · rintro (e | e | e)
        · exact a1 e
        · exact h3.1 e
        · exact (b3 _ e).2.2 x hx rfl
      · rintro (e | e | e)
        · exact (a3 k hkx).1 e
        · exact (a3 k hkx).2.2 f hf e
        · exact h3.2 k hkx e
  · have h3 := h.two hf hx (by rw [hn]; exact hne)
    rcases hrow k hkg with e | e
    · exact h3.2 k hkx e
    · have := (own_lt (h.file x hx).row hkx).2
      omega
end Go.Proofs.Ytcnkgenhbnafjaa
