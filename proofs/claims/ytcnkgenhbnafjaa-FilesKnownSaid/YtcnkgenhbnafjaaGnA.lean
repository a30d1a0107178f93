/-
  Rows of elements of a fixed number of cells, for any element type: what a slice reads as, a call's own rows, append, literals, stores. Conditions: those in each statement.
-/
import Derived.Test.YtcnkgenhbnafjaaKb
import Derived.Great.CaseRows
import Derived.Deep.DeepAppendWide
namespace Go.Proofs.Ytcnkgenhbnafjaa
open Go.RowKit

section
variable {α : Type} {S : Nat} {enc : α → List Value}
/-- the elements' cells, one behind the other -/
def dcg (enc : α → List Value) (L : List α) : List Value := L.flatMap enc
/-- each element has S cells -/
def AllG (S : Nat) (enc : α → List Value) (L : List α) : Prop := ∀ x ∈ L, (enc x).length = S
theorem AllG.nil : AllG S enc ([] : List α) := fun x hx => by cases hx
theorem AllG.app {L M : List α} (h : AllG S enc L) (k : AllG S enc M) : AllG S enc (L ++ M) := fun x hx => (List.mem_append.1 hx).elim (h x) (k x)
theorem AllG.one {x : α} (h : (enc x).length = S) : AllG S enc [x] := fun y hy => by rw [List.mem_singleton.1 hy]; exact h
theorem AllG.take {L : List α} (h : AllG S enc L) (n : Nat) : AllG S enc (L.take n) := fun x hx => h x (List.mem_of_mem_take hx)
theorem AllG.drop {L : List α} (h : AllG S enc L) (n : Nat) : AllG S enc (L.drop n) := fun x hx => h x (List.mem_of_mem_drop hx)
theorem dcg_app (L M : List α) : dcg enc (L ++ M) = dcg enc L ++ dcg enc M := by simp [dcg]
theorem dcg_one (x : α) : dcg enc [x] = enc x := by simp [dcg]
theorem dcg_len {L : List α} (h : AllG S enc L) : (dcg enc L).length = L.length * S := by
  induction L with
  | nil => simp [dcg]
  | cons x L ih =>
    have h0 := h x (by simp)
    have := ih fun y hy => h y (by simp [hy])
    simp only [dcg, List.flatMap_cons, List.length_append, List.length_cons] at this ⊢
    rw [this, h0, Nat.add_mul]
    omega
theorem dcg_get {L : List α} : ∀ (_ : AllG S enc L) (k j : Nat) (hk : k < L.length), j < S → (dcg enc L)[k * S + j]? = (enc L[k])[j]? := by
  induction L with
  | nil => intro h k j hk; simp at hk
  | cons x L ih =>
    intro h k j hk hj
    have h0 := h x (by simp)
    have e : dcg enc (x :: L) = enc x ++ dcg enc L := by simp [dcg]
    rw [e]
    cases k with
    | zero => rw [Nat.zero_mul, Nat.zero_add, List.getElem?_append_left (by rw [h0]; exact hj)]; rfl
    | succ k =>
      have hk' : k < L.length := by simpa using hk
      rw [List.getElem?_append_right (by rw [h0, Nat.add_mul]; omega), h0, show (k + 1) * S + j - S = k * S + j by rw [Nat.add_mul]; omega]
      exact ih (fun y hy => h y (by simp [hy])) k j hk' hj
theorem dcg_set {L : List α} (h : AllG S enc L) (x : α) (hx : (enc x).length = S) (k : Nat) (hk : k < L.length) :
    (dcg enc L).take (k * S) ++ enc x ++ (dcg enc L).drop (k * S + (enc x).length) = dcg enc (L.set k x) := by
  have e0 : L = L.take k ++ L[k] :: L.drop (k + 1) := by simp
  have l1 : (dcg enc (L.take k)).length = k * S := by rw [dcg_len (h.take k), List.length_take]; congr 1; omega
  have l2 : (enc L[k]).length = S := h _ (List.getElem_mem hk)
  have e1 : dcg enc L = dcg enc (L.take k) ++ (enc L[k] ++ dcg enc (L.drop (k + 1))) := by
    conv => lhs; rw [e0]
    rw [dcg_app]
    exact congrArg _ (List.flatMap_cons ..)
  have e2 : L.set k x = L.take k ++ x :: L.drop (k + 1) := List.set_eq_take_append_cons_drop.trans (by rw [if_pos hk])
  rw [e2, dcg_app, show dcg enc (x :: L.drop (k + 1)) = enc x ++ dcg enc (L.drop (k + 1)) by simp [dcg], e1]
  rw [List.take_left' l1, List.drop_append, List.drop_of_length_le (by rw [l1]; omega), l1, show k * S + (enc x).length - k * S = S by rw [hx]; omega, List.drop_left' l2]
  simp
/-- the slice of n elements at a reads as L -/
structure RdG (S : Nat) (enc : α → List Value) (w : World) (a : Option Addr) (n cap : Nat) (L : List α) : Prop where
  len : L.length = n
  le : n ≤ cap
  all : AllG S enc L
  nil : a = none → cap = 0
  mem : 0 < n → ∃ b off, a = some ⟨b, off, none⟩ ∧ b < w.heap.size ∧ ∀ k (h : k < L.length) j v, (enc L[k])[j]? = some v → w.cell? ⟨b, off + k * S + j, none⟩ = some v
theorem RdG.void (w : World) : RdG S enc w none 0 0 [] := ⟨rfl, Nat.le_refl _, AllG.nil, fun _ => rfl, fun h => by omega⟩
theorem RdG.to {w w' : World} {a : Option Addr} {n cap : Nat} {L : List α} (h : RdG S enc w a n cap L) (hb : Below w.heap.size w w') : RdG S enc w' a n cap L := by
  refine ⟨h.len, h.le, h.all, h.nil, fun h0 => ?_⟩
  obtain ⟨b, off, e, hlt, hc⟩ := h.mem h0
  exact ⟨b, off, e, Nat.lt_of_lt_of_le hlt hb.size, fun k hk j v hv => (hb.cell (p := ⟨b, off + k * S + j, none⟩) hlt).trans (hc k hk j v hv)⟩
theorem RdG.kb {Z : Nat → Prop} {w w' : World} {a : Option Addr} {n cap : Nat} {L : List α} (h : RdG S enc w a n cap L) (hb : KB Z w w') (hs : ∀ ad, a = some ad → 0 < n → ¬ Z ad.block) : RdG S enc w' a n cap L := by
  refine ⟨h.len, h.le, h.all, h.nil, fun h0 => ?_⟩
  obtain ⟨b, off, e, hlt, hc⟩ := h.mem h0
  exact ⟨b, off, e, Nat.lt_of_lt_of_le hlt hb.size, fun k hk j v hv => (hb.cell (p := ⟨b, off + k * S + j, none⟩) hlt (hs ⟨b, off, none⟩ e h0)).trans (hc k hk j v hv)⟩
theorem RdG.cap {w : World} {b off n c c' : Nat} {L : List α} (h : RdG S enc w (some ⟨b, off, none⟩) n c L) (hc : n ≤ c') : RdG S enc w (some ⟨b, off, none⟩) n c' L :=
  ⟨h.len, hc, h.all, (by intro e; cases e), h.mem⟩
theorem RdG.take {w : World} {a : Option Addr} {n cap : Nat} {L : List α} (h : RdG S enc w a n cap L) (m : Nat) (hm : m ≤ n) : RdG S enc w a m cap (L.take m) := by
  have hl := h.len
  refine ⟨by simp; omega, by have := h.le; omega, h.all.take m, h.nil, fun h0 => ?_⟩
  obtain ⟨b, off, e, hlt, hc⟩ := h.mem (by omega)
  refine ⟨b, off, e, hlt, fun k hk j v hv => ?_⟩
  have hk' : k < L.length := by simp at hk; omega
  rw [List.getElem_take] at hv
  exact hc k hk' j v hv
theorem RdG.drop {w : World} {b off n cap : Nat} {L : List α} (h : RdG S enc w (some ⟨b, off, none⟩) n cap L) (m : Nat) (hm : m ≤ n) : RdG S enc w (some ⟨b, off + m * S, none⟩) (n - m) (cap - m) (L.drop m) := by
  have hl := h.len
  refine ⟨by simp; omega, by have := h.le; omega, h.all.drop m, (by intro e; cases e), fun h0 => ?_⟩
  obtain ⟨b', off', e, hlt, hc⟩ := h.mem (by omega)
  injection e with e
  injection e with e1 e2
  subst e1 e2
  refine ⟨_, _, rfl, hlt, fun k hk j v hv => ?_⟩
  have hk' : m + k < L.length := by simp at hk; omega
  rw [List.getElem_drop] at hv
  rw [show off + m * S + k * S + j = off + (m + k) * S + j by rw [Nat.add_mul]; omega]
  exact hc (m + k) hk' j v hv
theorem RdG.range {w : World} {b off n cap : Nat} {L : List α} (h : RdG S enc w (some ⟨b, off, none⟩) n cap L) (k : Nat) (hk : k < L.length) : w.rangeAt b (off + k * S) (enc L[k]) := by
  intro j v hv
  obtain ⟨b', off', e, hlt, hc⟩ := h.mem (by have := h.len; omega)
  injection e with e
  injection e with e1 e2
  subst e1 e2
  exact hc k hk j v hv
theorem RdG.cells {w : World} {ad : Addr} {n cap : Nat} {L : List α} (h : RdG S enc w (some ad) n cap L) (hS : 0 < S) : ∀ j u, (dcg enc L)[j]? = some u → w.cell? (ad.add j) = some u := by
  intro j u hu
  have hl := h.len
  have hj : j < L.length * S := by
    have := (List.getElem?_eq_some_iff.1 hu).1
    rw [dcg_len h.all] at this
    exact this
  have hk : j / S < L.length := by rw [Nat.div_lt_iff_lt_mul hS]; exact hj
  have hr : j % S < S := Nat.mod_lt _ hS
  have hj2 : j / S * S + j % S = j := by rw [Nat.mul_comm]; exact Nat.div_add_mod j S
  obtain ⟨b, off, e, -, hc⟩ := h.mem (by rw [← hl]; exact Nat.lt_of_le_of_lt (Nat.zero_le _) hk)
  injection e with e
  subst e
  have h3 := dcg_get h.all (j / S) (j % S) hk hr
  rw [hj2, hu] at h3
  have := hc (j / S) hk (j % S) u h3.symm
  rw [Nat.add_assoc, hj2] at this
  rw [Addr.add_lit]
  exact this
/-- a call's own row of elements -/
structure OwnG (T : TypeId) (S : Nat) (enc : α → List Value) (w : World) (B : Nat) (v : Value) (L : List α) : Prop where
  row : w.ownsRow B T S v L.length (dcg enc L)
  all : AllG S enc L
variable {T : TypeId}
theorem OwnG.nil (w : World) (B : Nat) : OwnG T S enc w B (.slice none 0 0) [] := ⟨World.ownsRow_nil w B T S, AllG.nil⟩
theorem OwnG.to {w w' : World} {B : Nat} {v : Value} {L : List α} (h : OwnG T S enc w B v L) (hb : Below w.heap.size w w') : OwnG T S enc w' B v L := by
  refine ⟨?_, h.all⟩
  have hlt := World.ownsRow.lt h.row
  obtain ⟨h1, ⟨rfl, hn⟩ | ⟨g, cap, cur, rfl, hbb, hg, r⟩⟩ := h.row
  · exact ⟨h1, .inl ⟨rfl, hn⟩⟩
  · exact ⟨h1, .inr ⟨g, cap, cur, rfl, hbb, by rw [hb.block g (hlt g rfl).2]; exact hg, r⟩⟩
theorem OwnG.base {w : World} {B B' : Nat} {v : Value} {L : List α} (h : OwnG T S enc w B v L) (hb : B' ≤ B) : OwnG T S enc w B' v L := by
  refine ⟨?_, h.all⟩
  obtain ⟨h1, h2 | ⟨g, cap, cur, rfl, hbb, r⟩⟩ := h.row
  · exact ⟨h1, .inl h2⟩
  · exact ⟨h1, .inr ⟨g, cap, cur, rfl, by omega, r⟩⟩
theorem OwnG.by {w w' : World} {B : Nat} {v : Value} {L : List α} {row : Option Nat} (h : OwnG T S enc w B v L) (hg : w.grownBy w' row) (hne : v.ownBlock = none ∨ v.ownBlock ≠ row) : OwnG T S enc w' B v L := ⟨h.row.kept hg hne, h.all⟩
theorem OwnG.kb {Z : Nat → Prop} {w w' : World} {B : Nat} {v : Value} {L : List α} (h : OwnG T S enc w B v L) (hb : KB Z w w') (hs : ∀ g, v.ownBlock = some g → ¬ Z g) : OwnG T S enc w' B v L := by
  refine ⟨?_, h.all⟩
  have hlt := World.ownsRow.lt h.row
  obtain ⟨h1, ⟨rfl, hn⟩ | ⟨g, cap, cur, rfl, hbb, hg, r⟩⟩ := h.row
  · exact ⟨h1, .inl ⟨rfl, hn⟩⟩
  · exact ⟨h1, .inr ⟨g, cap, cur, rfl, hbb, by rw [hb.block g (hlt g rfl).2 (hs g rfl)]; exact hg, r⟩⟩
theorem OwnG.solid {w : World} {B : Nat} {v : Value} {L : List α} (h : OwnG T S enc w B v L) (h0 : 0 < L.length) : ∃ g c, v = .slice (some ⟨g, 0, none⟩) L.length c ∧ B ≤ g ∧ g < w.heap.size := by
  have hlt := World.ownsRow.lt h.row
  obtain ⟨h1, ⟨e, hn⟩ | ⟨g, cap, cur, e, hbb, hg, r⟩⟩ := h.row
  · omega
  · exact ⟨g, cap, e, (hlt g (by rw [e]; rfl)).1, (hlt g (by rw [e]; rfl)).2⟩
theorem OwnG.rd {w : World} {B : Nat} {v : Value} {L : List α} (h : OwnG T S enc w B v L) (_ : 0 < S) : ∃ a cap, v = .slice a L.length cap ∧ RdG S enc w a L.length cap L ∧ ∀ ad, a = some ad → B ≤ ad.block ∧ ad.block < w.heap.size := by
  have hlt := World.ownsRow.lt h.row
  obtain ⟨h1, ⟨rfl, hn⟩ | ⟨g, cap, cur, rfl, hb, hg, hn, hc, hs, ht⟩⟩ := h.row
  · exact ⟨none, 0, by rw [hn], ⟨rfl, by omega, h.all, fun _ => rfl, fun h => by omega⟩, fun ad e => by cases e⟩
  · refine ⟨some ⟨g, 0, none⟩, cap, rfl, ⟨rfl, hn, h.all, (by intro e; cases e), fun h0 => ⟨g, 0, rfl, (hlt g rfl).2, fun k hk j v hv => ?_⟩⟩, fun ad e => ?_⟩
    · have hj : j < S := by
        have := (List.getElem?_eq_some_iff.1 hv).1
        rw [h.all _ (List.getElem_mem hk)] at this
        exact this
      have h3 := dcg_get h.all k j hk hj
      rw [hv, ← ht] at h3
      have hlt2 := (List.getElem?_eq_some_iff.1 h3).1
      rw [List.getElem?_take] at h3
      split at h3
      · have e : w.cell? ⟨g, 0 + k * S + j, none⟩ = cur[0 + k * S + j]? := by simp [World.cell?, hg]
        rw [e, Nat.zero_add]
        simpa using h3
      · cases h3
    · injection e with e
      rw [← e]
      exact hlt g rfl
theorem OwnG.made {w : World} {B g cap : Nat} {L : List α} (h : Arr w g T (dcg enc L)) (hL : L.length = cap) (ha : AllG S enc L) (hB : B ≤ g) (hc : cap ≤ maxLen) : OwnG T S enc w B (.slice (some ⟨g, 0, none⟩) cap cap) L := by
  refine ⟨⟨dcg_len ha, .inr ⟨g, cap, _, by rw [hL], hB, h, by omega, hc, by simp [dcg_len ha, hL], ?_⟩⟩, ha⟩
  rw [List.take_of_length_le (by simp [dcg_len ha])]
theorem rdg_arr {w : World} {g : Nat} {L : List α} (h : Arr w g T (dcg enc L)) (ha : AllG S enc L) : RdG S enc w (some ⟨g, 0, none⟩) L.length L.length L :=
  ⟨rfl, Nat.le_refl _, ha, (by intro e; cases e), fun _ => ⟨g, 0, rfl, h.lt, fun k hk j v hv => by
    have hj : j < S := by
      have := (List.getElem?_eq_some_iff.1 hv).1
      rw [ha _ (List.getElem_mem hk)] at this
      exact this
    rw [Nat.zero_add, h.cell, dcg_get ha k j hk hj]
    exact hv⟩⟩

/-- what is known of an element's type and of its slice's -/
structure InfoG (P : Program) (SL T : TypeId) (S bytes : Nat) (z : Value) : Prop where
  sl : P.underlying SL = some (.slice T)
  info : (P.info? T).map (fun i => (i.zero, i.size, i.bytes)) = some (some z, S, bytes)
  cells : z.cells.size = S
  pos : 0 < S
variable {P : Program} {SL : TypeId} {by_ : Nat} {z : Value} {ops : Array Oper} {rest : List Oper} {o : Oper} {a : Act} {Q : Exit → Act → World → Prop} {w : World}
/-- append(row, rows...) -/
theorem wl_rowG (ig : InfoG P SL T S by_ z) (hgd : o.guard = none) (d s : Operand) (ho : o.op = .call { callee := .builtin .append, args := #[d, s], argTypes := #[SL, SL] })
    (B : Nat) (v : Value) (M : List α) (hd : a.eval d = v) (hown : OwnG T S enc w B v M) (sp : Option Addr) (sLen sCap : Nat) (L : List α) (hs : a.eval s = .slice sp sLen sCap)
    (hrd : RdG S enc w sp sLen sCap L) (h1c : ∀ x ∈ L, ∀ u ∈ enc x, u.oneCell' = true) (hmx : M.length + sLen ≤ maxLen) (hlen : ((M.length + sLen) + (M.length + sLen) / 4 + 192) * by_ ≤ 281474976710656) (hB : B ≤ w.heap.size)
    (hK : ∀ v' w', OwnG T S enc w' B v' (M ++ L) → w.grownBy w' v.ownBlock → Below B w w' → wpList P ops Q rest (a.put o.dst v') w') : wpList P ops Q (o :: rest) a w := by
  obtain ⟨i0, hi, hz0, hz1, hz2⟩ := info_parts ig.info
  have hl := hrd.len
  cases sp with
  | none =>
    have h0 : sCap = 0 := hrd.nil rfl
    have h1 : sLen = 0 := by have := hrd.le; omega
    subst h0 h1
    have hx : L = [] := List.eq_nil_of_length_eq_zero hl
    subst hx
    refine wpList_append_own_none hgd d s SL ho B T i0 S ig.sl hi v _ _ hd hown.row hs ?_
    exact hK v w (by simpa using hown) (World.grownBy.refl _ _) (Below.refl _ _)
  | some ad =>
    refine wpList_append_own_wide w hgd d s SL ho B T i0 _ S by_ ig.sl hi hz0 hz1 hz2 ig.cells ig.pos v _ _ hd hown.row ad sLen sCap (dcg enc L) hs (by rw [dcg_len hrd.all, hl])
      (hrd.cells ig.pos) (fun u hu => ?_) hmx hlen hB ?_
    · simp only [dcg, List.mem_flatMap] at hu
      obtain ⟨x, hx, hu⟩ := hu
      exact h1c x hx u hu
    intro v' w' h1 h2 _
    refine hK v' w' ⟨?_, hown.all.app hrd.all⟩ h2 ((Below.refl _ _).grown h2 hB fun k hk => (World.ownsRow.lt hown.row k hk).1)
    rw [dcg_app, List.length_append, hl]
    exact h1
/-- append(row, element) -/
theorem wl_appendG1 (ig : InfoG P SL T S by_ z) (hgd : o.guard = none) (d s : Operand) (ho : o.op = .call { callee := .builtin .append, args := #[d, s], argTypes := #[SL, SL] })
    (B : Nat) (v : Value) (M : List α) (hd : a.eval d = v) (hown : OwnG T S enc w B v M) (g : Nat) (x : α) (hs : a.eval s = .slice (some ⟨g, 0, none⟩) 1 1)
    (hA : Arr w g T (enc x)) (hx : (enc x).length = S) (h1c : ∀ u ∈ enc x, u.oneCell' = true) (hmx : M.length + 1 ≤ maxLen) (hlen : ((M.length + 1) + (M.length + 1) / 4 + 192) * by_ ≤ 281474976710656) (hB : B ≤ w.heap.size)
    (hK : ∀ v' w', OwnG T S enc w' B v' (M ++ [x]) → w.grownBy w' v.ownBlock → Below B w w' → wpList P ops Q rest (a.put o.dst v') w') : wpList P ops Q (o :: rest) a w := by
  have hr : RdG S enc w (some ⟨g, 0, none⟩) 1 1 [x] := rdg_arr (T := T) (by rw [dcg_one]; exact hA) (AllG.one hx)
  exact wl_rowG ig hgd d s ho B v M hd hown _ 1 1 [x] hs hr (fun y hy u hu => by rw [List.mem_singleton.1 hy] at hu; exact h1c u hu) hmx hlen hB hK
/-- a row of one element, written out -/
theorem wl_litG1 (ig : InfoG P SL T S by_ z) (hg : o.guard = none) (i : Nat) (ho : o.op = .buildSlice SL 1 #[(0, .tmp i)]) (x : α) (hx : (enc x).length = S) (hsm : S ≤ 2 ^ 24) (u : Value) (hu : u.cells.toList = enc x) (hev : a.eval (.tmp i) = u)
    (hK : ∀ w', Arr w' w.heap.size T (enc x) → Below w.heap.size w w' → w.heap.size < w'.heap.size → wpList P ops Q rest (a.put o.dst (.slice (some ⟨w.heap.size, 0, none⟩) 1 1)) w') : wpList P ops Q (o :: rest) a w := by
  obtain ⟨i0, hi, hz0, hz1, hz2⟩ := info_parts ig.info
  have hsz : u.cells.size = S := by rw [← Array.length_toList, hu, hx]
  refine Great.wpList_buildRows hg SL T #[(0, .tmp i)] S [u] ho (fun _ => i) _ rfl _ rfl ig.sl (by rw [hi]; simp [hz1]) (by rw [hi]; simp [hz0]) ig.pos (by simp) (by simpa using hsm) rfl ?_ ?_ ?_
  · intro v hv
    rw [List.mem_singleton.1 hv]
    exact hsz
  · intro j hj
    have : j = 0 := by simpa using hj
    subst this
    exact hev
  · refine hK _ ?_ ((Below.refl _ _).alloc (Nat.le_refl _) _) (by simp)
    have e : ((([u] : List Value).flatMap fun v => v.cells.toList).toArray) = (enc x).toArray := by simp [hu]
    rw [e]
    exact Arr.new _ _ _
end
end Go.Proofs.Ytcnkgenhbnafjaa
