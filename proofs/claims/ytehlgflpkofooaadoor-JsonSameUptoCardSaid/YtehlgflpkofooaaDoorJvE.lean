/-
  The program's Same, plain parts: what is open, what met. Conditions: those in each statement.
-/
import Derived.Test.YtehlgflpkofooaaDoorJvD
namespace Go.Proofs.YtehlgflpkofooaaDoor
open Go.RowKit

mutual
theorem pv_sv {w : World} : ∀ (v : JV) (cs : List Value), PV w v cs → SV (fun b => b < w.heap.size) w v cs
  | .mk k s n l ks, cs, h => by
    unfold PV at h
    unfold SV
    obtain ⟨a, c, a', c', e, hk, hs, h1, h2, h3⟩ := h
    refine ⟨a, c, a', c', e, hk, ⟨hs, fun h0 => ?_⟩, h1, h2, fun h0 => ?_⟩
    · obtain ⟨b, off, e1, e2, _⟩ := hs.mem h0
      exact ⟨b, off, e1, e2⟩
    · obtain ⟨b, off, e1, e2, e3⟩ := h3 h0
      exact ⟨b, off, e1, e2.lt, e2, pl_sl l b off e3⟩
theorem pl_sl {w : World} : ∀ (l : List JV) (b off : Nat), PL w l b off → SL (fun b => b < w.heap.size) w l b off
  | [], _, _, _ => by unfold SL; trivial
  | v :: r, b, off, h => by
    unfold PL at h
    unfold SL
    obtain ⟨⟨cs, h1, h2, h3⟩, h4⟩ := h
    exact ⟨⟨cs, h1, h2, pv_sv v cs h3⟩, pl_sl r b (off + 5) h4⟩
end

mutual
/-- how many lists there are in a value, its own counted -/
def wtV : JV → Nat
  | .mk _ _ _ l _ => 1 + wtS l
def wtS : List JV → Nat
  | [] => 0
  | v :: r => wtV v + wtS r
end
theorem wtS_eq (l : List JV) : 1 + wtS l = wtV (.mk 0 [] 0 l []) := by unfold wtV; rfl
theorem wtV_list (x : JV) : wtV x = 1 + wtS x.list := by obtain ⟨k, s, n, l, ks⟩ := x; unfold wtV; rfl
theorem wtS_drop : ∀ (l : List JV) (i : Nat) (x : JV), l[i]? = some x → wtS (l.drop i) = wtV x + wtS (l.drop (i + 1))
  | [], _, _, h => by simp at h
  | v :: r, 0, x, h => by
    cases h
    show wtS (v :: r) = _
    rw [wtS]
    rfl
  | v :: r, i + 1, x, h => wtS_drop r i x (by simpa using h)

/-- pairs of lists -/
abbrev LP := List JV × List JV
def wtP (st : List LP) : Nat := (st.map fun p => 1 + wtS p.1).sum
theorem wtP_len : ∀ (st : List LP), st.length ≤ wtP st
  | [] => by simp [wtP]
  | p :: r => by
    have := wtP_len r
    simp only [wtP, List.map_cons, List.sum_cons, List.length_cons] at this ⊢
    omega
theorem wtP_snoc (st : List LP) (p : LP) : wtP (st ++ [p]) = wtP st + (1 + wtS p.1) := by simp [wtP]

/-- all that is in a pair is alike, and what is further in was met -/
def DoneP (p : LP) (ms : List LP) : Prop := p.1.length = p.2.length ∧ ∀ (i : Nat) (x y : JV), p.1[i]? = some x → p.2[i]? = some y → alikeF x y = true ∧ (x.list, y.list) ∈ ms
theorem DoneP.mono {p : LP} {ms ms' : List LP} (h : DoneP p ms) (hm : ∀ q ∈ ms, q ∈ ms') : DoneP p ms' := ⟨h.1, fun i x y hx hy => ⟨(h.2 i x y hx hy).1, hm _ (h.2 i x y hx hy).2⟩⟩
theorem alike_iff (x y : JV) : alikeF x y = true ↔ (x.kind = y.kind ∧ x.str = y.str ∧ x.num = y.num ∧ x.keys = y.keys ∧ x.list.length = y.list.length) := by
  obtain ⟨k, s, n, l, ks⟩ := x
  obtain ⟨k', s', n', l', ks'⟩ := y
  unfold alikeF
  simp only [Bool.and_eq_true, decide_eq_true_eq]
  constructor
  · rintro ⟨⟨⟨⟨h1, h2⟩, h3⟩, h4⟩, h5⟩; exact ⟨h1, h2, h3, h4, h5⟩
  · rintro ⟨h1, h2, h3, h4, h5⟩; exact ⟨⟨⟨⟨h1, h2⟩, h3⟩, h4⟩, h5⟩
theorem done_same {ms : List LP} (p0 : LP) (h0 : DoneP p0 ms) (h : ∀ p ∈ ms, DoneP p ms) : p0.1 = p0.2 := by
  have key : ∀ (N : Nat) (p : LP), SizeOf.sizeOf p.1 ≤ N → DoneP p ms → p.1 = p.2 := by
    intro N
    induction N with
    | zero => intro p hp; exfalso; cases h : p.1 <;> rw [h] at hp <;> simp at hp
    | succ N ih =>
      intro p hp hd
      apply List.ext_getElem hd.1
      intro i h1 h2
      obtain ⟨e1, e2⟩ := hd.2 i _ _ (List.getElem?_eq_getElem h1) (List.getElem?_eq_getElem h2)
      rw [alike_iff] at e1
      have hmem := List.sizeOf_lt_of_mem (List.getElem_mem h1)
      have e3 := ih _ (by
        generalize p.1[i] = x at hmem ⊢
        obtain ⟨k, s, n, l, ks⟩ := x
        simp only [JV.mk.sizeOf_spec] at hmem
        show SizeOf.sizeOf l ≤ N
        omega) (h _ e2)
      generalize p.1[i] = x at e1 e3
      generalize p.2[i] = y at e1 e3
      obtain ⟨k, s, n, l, ks⟩ := x
      obtain ⟨k', s', n', l', ks'⟩ := y
      obtain ⟨f1, f2, f3, f4, -⟩ := e1
      have f5 : l = l' := e3
      cases f1
      cases f2
      cases f3
      cases f4
      rw [f5]
  exact key _ p0 (Nat.le_refl _) h0

/-- where a list lies -/
def PlW (S : Nat → Prop) (w : World) (l : List JV) (p : Option Addr) (n : Int) : Prop :=
  n = (l.length : Int) ∧ ((l = [] ∧ p = none) ∨ ∃ b off, p = some ⟨b, off, none⟩ ∧ S b ∧ PlainB w b ∧ SL S w l b off)
theorem PlW.one {S : Nat → Prop} {w : World} {l l' : List JV} {p : Option Addr} {n : Int} (h : PlW S w l p n) (h' : PlW S w l' p n) : l = l' := by
  obtain ⟨h1, h2⟩ := h
  obtain ⟨h1', h2'⟩ := h'
  rcases h2 with ⟨rfl, rfl⟩ | ⟨b, off, rfl, -, -, hl⟩
  · rcases h2' with ⟨rfl, -⟩ | ⟨b, off, e, -⟩
    · rfl
    · cases e
  · rcases h2' with ⟨-, e⟩ | ⟨b', off', e, -, -, hl'⟩
    · cases e
    · cases e
      exact pl_one l l' b off (sl_pl _ _ _ hl) (sl_pl _ _ _ hl') (by omega)
theorem PlW.to' {S : Nat → Prop} {w w' : World} {l : List JV} {p : Option Addr} {n : Int} (h : PlW S w l p n) (hb : Stay S w w') : PlW S w' l p n := by
  obtain ⟨h1, h2⟩ := h
  refine ⟨h1, h2.imp id ?_⟩
  rintro ⟨b, off, e, e0, e1, e2⟩
  exact ⟨b, off, e, e0, hb.plain e0 e1, sl_to (fun _ h _ => h) hb l b off e0 e2⟩
/-- a key of met, and the pair that it stands for -/
def KeyP (S : Nat → Prop) (w : World) (key : Value) (p : LP) : Prop := ∃ a n b m, key = .agg #[.pointer a, .int .i64 n, .pointer b, .int .i64 m] ∧ PlW S w p.1 a n ∧ PlW S w p.2 b m
theorem KeyP.one {S : Nat → Prop} {w : World} {key : Value} {p p' : LP} (h : KeyP S w key p) (h' : KeyP S w key p') : p = p' := by
  obtain ⟨a, n, b, m, rfl, h1, h2⟩ := h
  obtain ⟨a', n', b', m', e, h1', h2'⟩ := h'
  simp only [Value.agg.injEq, Array.mk.injEq, List.cons.injEq, Value.pointer.injEq, Value.int.injEq, true_and, and_true] at e
  obtain ⟨rfl, rfl, rfl, rfl⟩ := e
  exact Prod.ext (h1.one h1') (h2.one h2')
theorem KeyP.to' {S : Nat → Prop} {w w' : World} {key : Value} {p : LP} (h : KeyP S w key p) (hb : Stay S w w') : KeyP S w' key p := by
  obtain ⟨a, n, b, m, e, h1, h2⟩ := h
  exact ⟨a, n, b, m, e, h1.to' hb, h2.to' hb⟩
/-- what met holds -/
structure MetP (S : Nat → Prop) (w : World) (ps : List (Value × Value)) (ms : List LP) : Prop where
  unit : ∀ q ∈ ps, q.2 = .agg #[]
  key : ∀ q ∈ ps, ∃ p ∈ ms, KeyP S w q.1 p
  all : ∀ p ∈ ms, ∃ q ∈ ps, KeyP S w q.1 p
theorem MetP.to' {S : Nat → Prop} {w w' : World} {ps : List (Value × Value)} {ms : List LP} (h : MetP S w ps ms) (hb : Stay S w w') : MetP S w' ps ms :=
  ⟨h.unit, fun q hq => by obtain ⟨p, hp, hk⟩ := h.key q hq; exact ⟨p, hp, hk.to' hb⟩, fun p hp => by obtain ⟨q, hq, hk⟩ := h.all p hp; exact ⟨q, hq, hk.to' hb⟩⟩

/-- two cells that are a pair -/
def PairC (S : Nat → Prop) (w : World) (p : LP) (x y : Value) : Prop := ∃ a c b d, x = .slice a p.1.length c ∧ y = .slice b p.2.length d ∧ SLi S w p.1 a c ∧ SLi S w p.2 b d
theorem PairC.to' {S : Nat → Prop} {w w' : World} {p : LP} {x y : Value} (h : PairC S w p x y) (hb : Stay S w w') : PairC S w' p x y := by
  obtain ⟨a, c, b, d, h1, h2, h3, h4⟩ := h
  exact ⟨a, c, b, d, h1, h2, h3.to' (fun _ h _ => h) hb, h4.to' (fun _ h _ => h) hb⟩
/-- the row of what is open -/
def OpenR (S : Nat → Prop) (G : Nat) (w : World) (v : Value) (st : List LP) : Prop :=
  ∃ xs, w.ownsRow G 76 2 v st.length xs ∧ ∀ j p, st[j]? = some p → ∃ x y, xs[2 * j]? = some x ∧ xs[2 * j + 1]? = some y ∧ PairC S w p x y
theorem OpenR.to' {S : Nat → Prop} {G : Nat} {w w' : World} {v : Value} {st : List LP} (h : OpenR S G w v st) (hg : ∀ k, v.ownBlock = some k → w'.heap[k]? = w.heap[k]?) (hb : Stay S w w') : OpenR S G w' v st := by
  obtain ⟨xs, ho, hp⟩ := h
  refine ⟨xs, ?_, fun j p hj => ?_⟩
  · obtain ⟨h1, h2 | ⟨g, cap, cur, rfl, h3, h4, h5⟩⟩ := ho
    · exact ⟨h1, .inl h2⟩
    · exact ⟨h1, .inr ⟨g, cap, cur, rfl, h3, (hg g rfl).trans h4, h5⟩⟩
  · obtain ⟨x, y, e1, e2, e3⟩ := hp j p hj
    exact ⟨x, y, e1, e2, e3.to' hb⟩

theorem PlW.ptr {S : Nat → Prop} {w : World} {l : List JV} {p : Option Addr} {n : Int} (h : PlW S w l p n) : PtrOK w p := by
  rcases h.2 with ⟨-, e⟩ | ⟨b, off, e, -, h1, -⟩
  · exact .inl e
  · exact .inr ⟨b, off, e, h1⟩
theorem KeyP.both {S : Nat → Prop} {w : World} {key : Value} {p : LP} (h : KeyP S w key p) : GBoth w key := by
  obtain ⟨a, n, b, m, e, h1, h2⟩ := h
  exact ⟨a, n, b, m, e, h1.ptr, h2.ptr⟩
theorem mapr_met {S : Nat → Prop} {w w' : World} {B : Nat} {ps : List (Value × Value)} {ms : List LP} (h : MapR GBoth w B ps) (hm : MetP S w ps ms) (hs : Stay S w w') (hb : w'.heap[B]? = w.heap[B]?) : MapR GBoth w' B ps := by
  have hk : ∀ q ∈ ps, GBoth w' q.1 := fun q hq => by
    obtain ⟨p, -, hp⟩ := hm.key q hq
    exact (hp.to' hs).both
  obtain ⟨es, clock, h1, h2, h3⟩ := h
  exact ⟨es, clock, hb.trans h1, h2, hk⟩
theorem OpenR.below {S : Nat → Prop} {G : Nat} {w w' : World} {v : Value} {st : List LP} (h : OpenR S G w v st) (hb : Below w.heap.size w w') : OpenR S G w' v st :=
  h.to' (fun k hk => hb.block k (by obtain ⟨xs, ho, -⟩ := h; exact (World.ownsRow.lt ho k hk).2)) (Stay.of_below hb)
theorem OpenR.lo {S : Nat → Prop} {G : Nat} {w : World} {v : Value} {st : List LP} (h : OpenR S G w v st) : ∀ k, v.ownBlock = some k → G ≤ k ∧ k < w.heap.size := by obtain ⟨xs, ho, -⟩ := h; exact World.ownsRow.lt ho
theorem MetP.snoc {S : Nat → Prop} {w : World} {ps : List (Value × Value)} {ms : List LP} (h : MetP S w ps ms) {key : Value} {p : LP} (hk : KeyP S w key p) : MetP S w (ps ++ [(key, .agg #[])]) (ms ++ [p]) := by
  refine ⟨fun q hq => ?_, fun q hq => ?_, fun r hr => ?_⟩
  · rcases List.mem_append.1 hq with hq | hq
    · exact h.unit q hq
    · rw [List.mem_singleton.1 hq]
  · rcases List.mem_append.1 hq with hq | hq
    · obtain ⟨r, hr, e⟩ := h.key q hq
      exact ⟨r, List.mem_append_left _ hr, e⟩
    · rw [List.mem_singleton.1 hq]
      exact ⟨p, by simp, hk⟩
  · rcases List.mem_append.1 hr with hr | hr
    · obtain ⟨q, hq, e⟩ := h.all r hr
      exact ⟨q, List.mem_append_left _ hq, e⟩
    · rw [List.mem_singleton.1 hr]
      exact ⟨_, List.mem_append_right _ (List.mem_singleton.2 rfl), hk⟩

/-- one pair more is open -/
theorem wl_append_o {ops : Array Oper} {rest : List Oper} {o : Oper} {a : Act} {Q : Exit → Act → World → Prop} {w : World} (hgd : o.guard = none) (d s : Operand) (ho : o.op = .call { callee := .builtin .append, args := #[d, s], argTypes := #[77, 77] })
    (S : Nat → Prop) (G : Nat) (v : Value) (st : List LP) (hO : OpenR S G w v st) (hd : a.eval d = v) (ad : Addr) (p : LP) (x y : Value) (hs : a.eval s = .slice (some ad) 1 1) (hc : ∀ j u, [x, y][j]? = some u → w.cell? (ad.add j) = some u)
    (hp : PairC S w p x y) (hlen : st.length + 1 ≤ 2147483648) (hS : ∀ k, S k → k < G) (hG : G ≤ w.heap.size) (N : Nat) (A B : Value) (hN : Arr w N 76 [A, B]) (hNv : ∀ k, v.ownBlock = some k → k ≠ N) (hxA : x ≠ A)
    (hK : ∀ v' w', OpenR S G w' v' (st ++ [p]) → w.grownBy w' v.ownBlock → Stay S w w' → (∀ k, v'.ownBlock = some k → k ≠ N) → wpList Tryd.prog ops Q rest (a.put o.dst v') w') : wpList Tryd.prog ops Q (o :: rest) a w := by
  obtain ⟨xs, hown, hps⟩ := hO
  obtain ⟨i0, hi, hz0, hz1, hz2⟩ := info_parts (show (Tryd.prog.info? 76).map (fun i => (i.zero, i.size, i.bytes)) = some (some (.agg #[.slice none 0 0, .slice none 0 0]), 2, 48) by kernel_rfl)
  have hone : ∀ u ∈ [x, y], u.oneCell' = true := by
    obtain ⟨a1, c1, b1, d1, rfl, rfl, -⟩ := hp
    simp [Value.oneCell']
  have hb := World.ownsRow.lt hown
  refine wpList_append_own w hgd d s 77 ho G 76 i0 _ 2 48 Tryd.underlying77 hi hz0 hz1 hz2 rfl (by decide) v _ _ hd hown ad 1 1 [x, y] hs rfl hc hone (by unfold maxLen; omega) (by omega) hG ?_
  intro v' w' h1 h2 _
  have hst : Stay S w w' := Stay.of_grown h2 (fun k hk h => by have := hS k h; have := (hb k hk).1; omega)
  refine hK v' w' ⟨xs ++ [x, y], by rw [List.length_append, List.length_singleton]; exact h1, fun j q hq => ?_⟩ h2 hst (fun k hk e => ?_)
  rotate_left
  · subst e
    have hNN := h2.block k hN.lt (fun e => hNv k e.symm rfl)
    obtain ⟨hl1, hl2 | ⟨g, cap, cur, hv, hg, hc6, hn, hm, hcs, hct⟩⟩ := h1
    · rw [hl2.1] at hk; cases hk
    · rw [hv] at hk
      cases hk
      rw [hNN, show w.heap[g]? = _ from hN] at hc6
      simp only [Option.some.injEq, Obj.cells.injEq, and_true] at hc6
      subst hc6
      simp at hcs
      have hcap : cap = 1 := by omega
      have hst0 : st.length = 0 := by omega
      have hxs0 : xs = [] := List.eq_nil_of_length_eq_zero (by rw [hown.1, hst0])
      subst hxs0
      rw [hst0] at hct
      simp at hct
      exact hxA hct.1.symm
  have hxl := hown.1
  by_cases hj : j < st.length
  · rw [List.getElem?_append_left hj] at hq
    obtain ⟨x1, y1, e1, e2, e3⟩ := hps j q hq
    exact ⟨x1, y1, by rw [List.getElem?_append_left (by omega)]; exact e1, by rw [List.getElem?_append_left (by omega)]; exact e2, e3.to' hst⟩
  · have hj2 : j = st.length := by
      have := (List.getElem?_eq_some_iff.1 hq).1
      rw [List.length_append, List.length_singleton] at this
      omega
    subst hj2
    rw [List.getElem?_append_right (Nat.le_refl _), Nat.sub_self] at hq
    cases hq
    exact ⟨x, y, by rw [List.getElem?_append_right (by omega), show 2 * st.length - xs.length = 0 by omega]; rfl, by rw [List.getElem?_append_right (by omega), show 2 * st.length + 1 - xs.length = 1 by omega]; rfl, hp.to' hst⟩
end Go.Proofs.YtehlgflpkofooaaDoor
