/-
  What the document's TakeItem reckons, plain; chains whose certificates may be older. Conditions: those in each statement.
-/
import Derived.Test.YtcohcjhbkiangaaEnZ
namespace Go.Proofs.Ytcohcjhbkiangaa
open Go.RowKit

theorem stamp_len (t : Nat) (c : List UInt8) : (stampF t c).length = 17 + c.length := by
  rw [stampF_eq]; simp only [List.length_append, digits_len, vec3_len, List.length_cons, List.length_nil]; omega
def rT (ls : List UInt8) : Nat := (rnumF ((ls.drop 2).take 8) 8).1
def rC (ls : List UInt8) : List UInt8 := (ls.drop 15).take (ls.length - 17)
theorem rT_le (ls : List UInt8) : rT ls ≤ 18446744073709551615 := rnum8_lt _
theorem rT_of (t : Nat) (c : List UInt8) (ht : t ≤ 18446744073709551615) : rT (stampF t c) = t := by
  have e : (stampF t c).drop 2 = digits t 8 ++ ([0, 0] ++ vec3 c ++ [0, 0]) := by
    rw [stampF_eq]; simp [List.append_assoc]
  unfold rT
  rw [e, take_left (digits_len t 8)]
  have := rnum_of t 8 [] (by decide) (Nat.lt_of_le_of_lt ht (by decide))
  rw [List.append_nil] at this
  exact congrArg Prod.fst this
theorem rC_of (t : Nat) (c : List UInt8) : rC (stampF t c) = c := by
  have e : (stampF t c).drop 15 = c ++ [0, 0] := by
    have e1 : stampF t c = ([0, 0] ++ digits t 8 ++ [0, 0] ++ digits c.length 3) ++ (c ++ [0, 0]) := by
      rw [stampF_eq]; simp [vec3, List.append_assoc]
    rw [e1]
    exact drop_left (by simp [digits_len])
  unfold rC
  rw [e, stamp_len]
  exact take_left (by omega)
theorem isList_one {xs : List UInt8} {l m : List (List UInt8)} (hl : IsList xs l) (hm : IsList xs m) : l = m := by
  have k1 := isList_first hl
  rw [isList_first hm] at k1
  injection k1 with e _
  have sm : ∀ {l : List (List UInt8)}, IsList xs l → ∀ x ∈ l, x.length < 16777216 := fun h x hx => by have := cat_len_mem hx; have := h.1; omega
  obtain ⟨m', hm1, hm2⟩ := cat_split m [] l (sm hm) (sm hl) (by rw [List.append_nil]; exact e)
  cases m' with
  | nil => rw [hm1, List.append_nil]
  | cons x r =>
    have := congrArg List.length hm2
    rw [cat_cons, List.length_append, vec3_len, List.length_nil] at this
    omega
theorem isList_may {l : List (List UInt8)} (h4 : l.length ≤ 4) (hx : ∀ x ∈ l, x.length ≤ 512) : IsList (listF l) l := ⟨by have := cat_bound h4 hx; omega, rfl⟩

theorem refItem_none (ls xs : List UInt8) (h : ls.length < 17 ∨ ¬ ∃ l, IsList xs l) : takeItemR ls xs = ((0, []), 5) := by
  refine takeItem_no ls xs ?_
  rintro ⟨t, l, ht, hm, hls, hxs⟩
  obtain ⟨c, r, rfl, hc, hr, hx⟩ := may_first hm
  rcases h with h | h
  · rw [hls, stamp_len] at h; omega
  · have hxs : xs = listF r := hxs
    exact h ⟨r, by rw [hxs]; exact isList_may (by omega) hx⟩
theorem refItem_case (ls xs : List UInt8) (l : List (List UInt8)) (hl : IsList xs l) :
    (itemE (rT ls) ([rC ls] ++ l) = 0 ∧ itemL (rT ls) ([rC ls] ++ l) = ls ∧ itemX ([rC ls] ++ l) = xs ∧ takeItemR ls xs = ((rT ls, [rC ls] ++ l), 0)) ∨
    ((itemE (rT ls) ([rC ls] ++ l) ≠ 0 ∨ itemL (rT ls) ([rC ls] ++ l) ≠ ls ∨ itemX ([rC ls] ++ l) ≠ xs) ∧ takeItemR ls xs = ((0, []), 5)) := by
  by_cases h : itemE (rT ls) ([rC ls] ++ l) = 0 ∧ itemL (rT ls) ([rC ls] ++ l) = ls ∧ itemX ([rC ls] ++ l) = xs
  · left
    refine ⟨h.1, h.2.1, h.2.2, ?_⟩
    obtain ⟨h1, h2, h3⟩ := h
    have hm : mayB ([rC ls] ++ l) = true := by
      cases h : mayB ([rC ls] ++ l) with
      | true => rfl
      | false => unfold itemE stampR at h1; rw [h] at h1; simp at h1
    have := takeItem_yes (rT ls) ([rC ls] ++ l) (rT_le ls) hm
    unfold itemL stampR at h2
    unfold itemX extraR at h3
    rw [if_pos hm] at h2 h3
    have h2 : stampF (rT ls) (([rC ls] ++ l).getD 0 []) = ls := h2
    have h3 : listF (([rC ls] ++ l).drop 1) = xs := h3
    rwa [h2, h3] at this
  · right
    refine ⟨by
      by_cases h1 : itemE (rT ls) ([rC ls] ++ l) = 0
      · by_cases h2 : itemL (rT ls) ([rC ls] ++ l) = ls
        · exact .inr (.inr fun h3 => h ⟨h1, h2, h3⟩)
        · exact .inr (.inl h2)
      · exact .inl h1, takeItem_no ls xs ?_⟩
    rintro ⟨t, m, ht, hm, hls, hxs⟩
    obtain ⟨c, r, rfl, hc, hr, hx⟩ := may_first hm
    have hls : ls = stampF t c := hls
    have hxs : xs = listF r := hxs
    have e1 : rT ls = t := by rw [hls]; exact rT_of t c ht
    have e2 : rC ls = c := by rw [hls]; exact rC_of t c
    have e3 : l = r := isList_one hl (by rw [hxs]; exact isList_may (by omega) hx)
    apply h
    rw [e1, e2, e3]
    show itemE t (c :: r) = 0 ∧ itemL t (c :: r) = ls ∧ itemX (c :: r) = xs
    unfold itemE itemL itemX stampR extraR
    rw [if_pos hm, if_pos hm]
    exact ⟨rfl, hls.symm, hxs.symm⟩

/-- bytes from i to j -/
theorem rd_sub {w : World} {b off n cap : Nat} {xs : List UInt8} (h : Rd w (some ⟨b, off, none⟩) n cap xs) (i j : Nat) (hj : j ≤ n) (hi : i < cap) (hij : i ≤ j) : Rd w (some ⟨b, off + i, none⟩) (j - i) (cap - i) ((xs.drop i).take (j - i)) := by
  have hln := h.len
  have hle := h.le
  refine ⟨by simp; omega, by omega, by (intro e; cases e), fun _ => ?_⟩
  obtain ⟨b', off', e, hb, hc⟩ := h.mem (by omega)
  cases e
  refine ⟨b, off + i, rfl, hb, fun k hk => ?_⟩
  have := hc (i + k) (by omega)
  rw [show off + i + k = off + (i + k) by omega, this]
  simp [List.getD, hk]

/-- a certificate of the call's own, or older than B -/
def Cert (w : World) (B : Nat) (x : Value) (X : List UInt8) : Prop := Own w B 5 x X ∨ ∃ a n c, x = .slice a n c ∧ Rd w a n c X ∧ ∀ ad, a = some ad → 0 < c → ad.block < B
theorem Cert.reads {w : World} {B : Nat} {x : Value} {X : List UInt8} (h : Cert w B x X) : ∃ a n c, x = .slice a n c ∧ Rd w a n c X := by
  rcases h with h | ⟨a, n, c, e, h, -⟩
  · obtain ⟨a, n, c, e, h⟩ := h.reads; exact ⟨a, n, c, e, h.toRd⟩
  · exact ⟨a, n, c, e, h⟩
def ChnG (w : World) (B : Nat) (v : Value) (xss : List (List UInt8)) : Prop :=
  ∃ vs : List Value, w.ownsRow B 27 1 v vs.length vs ∧ vs.length = xss.length ∧ ∀ j, j < xss.length → Cert w B (vs.getD j undef) (xss.getD j [])
theorem ChnG.of {w : World} {B : Nat} {v : Value} {xss : List (List UInt8)} (h : OwnC w B v xss) : ChnG w B v xss := by
  obtain ⟨vs, h1, h2, h3⟩ := h
  exact ⟨vs, h1, h2, fun j hj => .inl (h3 j hj)⟩
theorem Cert.to {w w' : World} {B : Nat} {x : Value} {X : List UInt8} (h : Cert w B x X) (hb : Below w.heap.size w w') : Cert w' B x X := by
  rcases h with h | ⟨a, n, c, e, h, h2⟩
  · exact .inl (h.to hb)
  · exact .inr ⟨a, n, c, e, h.to hb, h2⟩
theorem ChnG.to {w w' : World} {B : Nat} {v : Value} {xss : List (List UInt8)} (h : ChnG w B v xss) (hb : Below w.heap.size w w') : ChnG w' B v xss := by
  obtain ⟨vs, h1, h2, h3⟩ := h
  exact ⟨vs, row_to h1 hb, h2, fun j hj => (h3 j hj).to hb⟩
theorem ChnG.chn {w : World} {B : Nat} {v : Value} {xss : List (List UInt8)} (h : ChnG w B v xss) : ∃ a n cap, v = .slice a n cap ∧ Chn w a n cap xss := by
  obtain ⟨vs, h1, h2, h3⟩ := h
  have h1' := h1
  obtain ⟨hl, ⟨rfl, hn⟩ | ⟨g, cap, cur, rfl, hbb, hg, hn, hc, hs, ht⟩⟩ := h1
  · have e : xss = [] := List.eq_nil_of_length_eq_zero (by omega)
    subst e
    exact ⟨_, _, _, rfl, chn_none w⟩
  · refine ⟨_, _, _, rfl, h2.symm, hn, by (intro e; cases e), fun h0 => ⟨g, 0, rfl, (World.ownsRow.lt h1' g rfl).2, fun j hj => ?_⟩⟩
    obtain ⟨aj, nj, cj, e, hrd⟩ := (h3 j (by omega)).reads
    refine ⟨aj, nj, cj, ?_, hrd⟩
    have := World.ownsRow.cellAt h1' j (by omega)
    rw [Nat.zero_add, this, ← e]
    simp [List.getD, hj]
theorem chnG_lit {w : World} {B : Nat} {x : Value} {X : List UInt8} (hB : B ≤ w.heap.size) (hx : Cert w B x X) : ChnG (w.alloc (.cells #[x] 27)) B (.slice (some ⟨w.heap.size, 0, none⟩) 1 1) [X] := by
  refine ⟨[x], ?_, rfl, fun j hj => ?_⟩
  · exact World.ownsRow_lit (base := B) (e := 27) (size := 1) w #[x] 1 hB (by decide) (by simp)
  · obtain rfl : j = 0 := by simpa using hj
    exact hx.to (hal w _)
theorem appG_post {w w' : World} {B : Nat} {v v' : Value} {xss yss : List (List UInt8)} {vs us : List Value} (hB : B ≤ w.heap.size) (h1 : w.ownsRow B 27 1 v vs.length vs) (hl1 : vs.length = xss.length) (ho1 : ∀ j, j < xss.length → Cert w B (vs.getD j undef) (xss.getD j []))
    (hl2 : us.length = yss.length) (ho2 : ∀ j, j < yss.length → Cert w B (us.getD j undef) (yss.getD j [])) (r : w'.ownsRow B 27 1 v' (vs.length + us.length) (vs ++ us)) (hg : w.grownBy w' v.ownBlock) : ChnG w' B v' (xss ++ yss) := by
  have keep : ∀ {x X}, Cert w B x X → Cert w' B x X := by
    intro x X h
    rcases h with h | ⟨a, n, c, e, h, h2⟩
    · exact .inl (World.ownsRow.kept h hg (rowC_ne h h1))
    · exact .inr ⟨a, n, c, e, h.below ((Below.refl B w).grown hg hB fun k hk => (World.ownsRow.lt h1 k hk).1) h2, h2⟩
  refine ⟨vs ++ us, by simpa using r, by simp [hl1, hl2], fun j hj => ?_⟩
  by_cases hjx : j < xss.length
  · have := keep (ho1 j hjx)
    simpa [List.getD, List.getElem?_append_left, hjx, hl1] using this
  · have := keep (ho2 (j - xss.length) (by simp at hj; omega))
    have e1 : (vs ++ us).getD j undef = us.getD (j - xss.length) undef := by
      simp only [List.getD]; rw [List.getElem?_append_right (by omega), hl1]
    have e2 : (xss ++ yss).getD j [] = yss.getD (j - xss.length) [] := by
      simp only [List.getD]; rw [List.getElem?_append_right (by omega)]
    rw [e1, e2]
    exact this
section
variable {ops : Array Oper} {rest : List Oper} {o : Oper} {a : Act} {K : Act → World → Prop} {Q : Exit → Act → World → Prop} {w : World}
theorem wl_appendM (hgd : o.guard = none) (d s : Operand) (ho : o.op = .call { callee := .builtin .append, args := #[d, s], argTypes := #[23, 23] })
    (B : Nat) (v : Value) (xss : List (List UInt8)) (hv : ChnG w B v xss) (hd : a.eval d = v) (u : Value) (yss : List (List UInt8)) (hu : ChnG w B u yss) (hs : a.eval s = u) (hb : xss.length + yss.length ≤ 5000000000000) (hB : B ≤ w.heap.size)
    (hK : ∀ v' w', ChnG w' B v' (xss ++ yss) → Below B w w' → w.heap.size ≤ w'.heap.size → wpList Try.prog ops Q rest (a.put o.dst v') w') : wpList Try.prog ops Q (o :: rest) a w := by
  refine wpList_plain hgd fun K hK' => ?_
  obtain ⟨i0, hi, hz0, hz1, hz2⟩ := info_parts btC_info
  have hv' := hv
  obtain ⟨vs, h1, h2, h3⟩ := hv
  obtain ⟨us, k1, k2, k3⟩ := hu
  have k1' := k1
  obtain ⟨hl, ⟨rfl, hn⟩ | ⟨g, cap, cur, rfl, hbb, hg, hn, hc, hss, ht⟩⟩ := k1
  · have e : yss = [] := List.eq_nil_of_length_eq_zero (by omega)
    subst e
    have hrun := run_append_owned_none (P := Try.prog) (w := w) B 23 o.type 27 i0 1 btC_sl hi v _ _ h1
    unfold Oper.wp
    simp [execOp, ho, resolve, invoke, builtin, hs, hd, hrun, Result.andThen]
    exact hK' _ _ (hK _ _ (by simpa using hv') (Below.refl _ _) (Nat.le_refl _))
  · refine wp_append_own w d s 23 ho B 27 i0 (.slice none 0 0) 1 24 btC_sl hi hz0 hz1 hz2 rfl (by decide) v _ _ hd h1 ⟨g, 0, none⟩ us.length cap us hs (by simp) (World.ownsRow.cells k1' rfl) ?_ (by unfold maxLen; omega) (by omega) hB ?_
    · intro x hx
      obtain ⟨j, hj, rfl⟩ := List.mem_iff_getElem.1 hx
      obtain ⟨aj, nj, cj, e, -⟩ := (k3 j (by omega)).reads
      have e2 : us[j] = .slice aj nj cj := by rw [← e]; simp [List.getD, hj]
      rw [e2]
      rfl
    · intro v' w' r hg _
      exact hK' _ _ (hK v' w' (appG_post hB h1 h2 h3 k2 k3 r hg) ((Below.refl _ _).grown hg hB fun k hk => (World.ownsRow.lt h1 k hk).1) hg.size)
end
end Go.Proofs.Ytcohcjhbkiangaa
