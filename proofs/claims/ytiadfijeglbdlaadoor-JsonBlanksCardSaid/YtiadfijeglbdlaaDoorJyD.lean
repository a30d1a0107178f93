/-
  The program's May and Text. Conditions: those in each statement.
-/
import Derived.Test.YtiadfijeglbdlaaDoorJyC
import Derived.Lib.AppendStr
namespace Go.Proofs.YtiadfijeglbdlaaDoor
open Go.RowKit

/-- all blocks of cells stay as they are -/
structure CellsKept (w w' : World) : Prop where
  size : w.heap.size ≤ w'.heap.size
  cells : ∀ (b : Nat) (cs : Array Value) (T : TypeId) (fr : Nat × Nat), w.heap[b]? = some (Obj.cells cs T fr) → w'.heap[b]? = some (Obj.cells cs T fr)
theorem CellsKept.refl (w : World) : CellsKept w w := ⟨Nat.le_refl _, fun _ _ _ _ h => h⟩
theorem CellsKept.trans {a b c : World} (h : CellsKept a b) (k : CellsKept b c) : CellsKept a c := ⟨Nat.le_trans h.size k.size, fun i cs T fr e => k.cells i cs T fr (h.cells i cs T fr e)⟩
theorem CellsKept.of_below {w w' : World} (h : Below w.heap.size w w') : CellsKept w w' := ⟨h.size, fun b _ _ _ e => (h.block b (Array.getElem?_eq_some_iff.1 e).1).trans e⟩
theorem CellsKept.of_grown {w w' : World} {B : Nat} (h : w.grownBy w' (some B)) {es : Array MapEntry} {cl : Nat} (hb : w.heap[B]? = some (.map es cl)) : CellsKept w w' :=
  ⟨h.size, fun b cs T fr e => (h.block b (Array.getElem?_eq_some_iff.1 e).1 (fun hh => by cases hh; rw [hb] at e; cases e)).trans e⟩
theorem CellsKept.cell {w w' : World} (h : CellsKept w w') {p : Addr} {v : Value} (hc : w.cell? p = some v) : w'.cell? p = some v := by
  unfold World.cell? at hc ⊢
  cases e : w.heap[p.block]? with
  | none => rw [e] at hc; cases hc
  | some o =>
    cases o with
    | cells cs T fr => rw [h.cells _ _ _ _ e]; rw [e] at hc; exact hc
    | _ => rw [e] at hc; cases hc
theorem CellsKept.plain {w w' : World} (h : CellsKept w w') (b : Nat) (hp : PlainB w b) : PlainB w' b := by
  obtain ⟨cs, T, e⟩ := hp
  exact ⟨cs, T, h.cells _ _ _ _ e⟩
theorem RStr.keep {w w' : World} {ks : List (List UInt8)} {a : Option Addr} {c : Nat} (h : RStr w ks a c) (hb : CellsKept w w') : RStr w' ks a c := by
  refine ⟨h.le, h.big, h.nil, fun h0 => ?_⟩
  obtain ⟨b, off, e, h1, h2⟩ := h.mem h0
  exact ⟨b, off, e, Nat.lt_of_lt_of_le h1 hb.size, fun i hi => hb.cell (h2 i hi)⟩
theorem RStr.one {w : World} {ks ks' : List (List UInt8)} {a : Option Addr} {c c' : Nat} (h : RStr w ks a c) (h' : RStr w ks' a c') (hl : ks.length = ks'.length) : ks = ks' := by
  apply List.ext_getElem hl
  intro i h1 h2
  obtain ⟨b, off, e, -, hc⟩ := h.mem (by omega)
  obtain ⟨b', off', e', -, hc'⟩ := h'.mem (by omega)
  rw [e] at e'
  cases e'
  have e1 := hc i h1
  rw [hc' i h2] at e1
  have := bstr_inj (Value.string.inj (Option.some.inj e1))
  simpa [List.getD, h1, h2] using this.symm

mutual
/-- five cells read as a value, its lists in plain blocks -/
def PV (w : World) : JV → List Value → Prop
  | .mk k s n l ks, cs => ∃ a c a' c', cs = [.int .i64 k, .string (bstr s), .int .u64 (n : Int), .slice a l.length c, .slice a' ks.length c'] ∧ (-9223372036854775808 ≤ k ∧ k ≤ 9223372036854775807 ∧ n < 18446744073709551616) ∧ RStr w ks a' c' ∧
      (l.length ≤ c ∧ c ≤ 9223372036854775807) ∧ (a = none → c = 0) ∧ (0 < l.length → ∃ b off, a = some ⟨b, off, none⟩ ∧ PlainB w b ∧ PL w l b off)
def PL (w : World) : List JV → Nat → Nat → Prop
  | [], _, _ => True
  | v :: r, b, off => (∃ cs, cs.length = 5 ∧ (∀ j, j < 5 → w.cell? ⟨b, off + j, none⟩ = cs[j]?) ∧ PV w v cs) ∧ PL w r b (off + 5)
end
theorem PlainB.lt {w : World} {b : Nat} (h : PlainB w b) : b < w.heap.size := by obtain ⟨cs, T, e⟩ := h; exact (Array.getElem?_eq_some_iff.1 e).1
theorem pv_len {w : World} {v : JV} {cs : List Value} (h : PV w v cs) : cs.length = 5 := by
  obtain ⟨k, s, n, l, ks⟩ := v
  unfold PV at h
  obtain ⟨a, c, a', c', rfl, _⟩ := h
  rfl
mutual
theorem pv_rv {w : World} : ∀ (v : JV) (cs : List Value), PV w v cs → RV w v cs
  | .mk k s n l ks, cs, h => by
    unfold PV at h
    unfold RV
    obtain ⟨a, c, a', c', e, hk, hs, h1, h2, h3⟩ := h
    refine ⟨a, c, a', c', e, hk, hs, h1, h2, fun h0 => ?_⟩
    obtain ⟨b, off, e1, e2, e3⟩ := h3 h0
    exact ⟨b, off, e1, e2.lt, pl_rl l b off e3⟩
theorem pl_rl {w : World} : ∀ (l : List JV) (b off : Nat), PL w l b off → RL w l b off
  | [], _, _, _ => by unfold RL; trivial
  | v :: r, b, off, h => by
    unfold PL at h
    unfold RL
    obtain ⟨⟨cs, h1, h2, h3⟩, h4⟩ := h
    exact ⟨⟨cs, h1, h2, pv_rv v cs h3⟩, pl_rl r b (off + 5) h4⟩
end
mutual
theorem pv_keep {w w' : World} (hb : CellsKept w w') : ∀ (v : JV) (cs : List Value), PV w v cs → PV w' v cs
  | .mk k s n l ks, cs, h => by
    unfold PV at h ⊢
    obtain ⟨a, c, a', c', e, hk, hs, h1, h2, h3⟩ := h
    refine ⟨a, c, a', c', e, hk, hs.keep hb, h1, h2, fun h0 => ?_⟩
    obtain ⟨b, off, e1, e2, e3⟩ := h3 h0
    exact ⟨b, off, e1, hb.plain b e2, pl_keep hb l b off e3⟩
theorem pl_keep {w w' : World} (hb : CellsKept w w') : ∀ (l : List JV) (b off : Nat), PL w l b off → PL w' l b off
  | [], _, _, _ => by unfold PL; trivial
  | v :: r, b, off, h => by
    unfold PL at h ⊢
    obtain ⟨⟨cs, h1, h2, h3⟩, h4⟩ := h
    refine ⟨⟨cs, h1, fun j hj => ?_, pv_keep hb v cs h3⟩, pl_keep hb r b (off + 5) h4⟩
    have e := h2 j hj
    rw [List.getElem?_eq_getElem (by omega)] at e ⊢
    exact hb.cell e
end
mutual
theorem pv_one {w : World} : ∀ (v v' : JV) (cs : List Value), PV w v cs → PV w v' cs → v = v'
  | .mk k s n l ks, .mk k' s' n' l' ks', cs, h, h' => by
    unfold PV at h h'
    obtain ⟨a, c, b, d, e, -, hs, -, -, h3⟩ := h
    obtain ⟨a', c', b', d', e', -, hs', -, -, h3'⟩ := h'
    rw [e] at e'
    simp only [List.cons.injEq, Value.int.injEq, Value.string.injEq, Value.slice.injEq, true_and, and_true] at e'
    obtain ⟨rfl, e2, e3, ⟨rfl, e5, rfl⟩, ⟨rfl, e6, rfl⟩⟩ := e'
    obtain rfl := bstr_inj e2
    obtain rfl : n = n' := by omega
    obtain rfl := hs.one hs' e6
    have : l = l' := by
      by_cases h0 : 0 < l.length
      · obtain ⟨b1, o1, rfl, -, q1⟩ := h3 h0
        obtain ⟨b2, o2, e7, -, q2⟩ := h3' (by omega)
        cases e7
        exact pl_one l l' b1 o1 q1 q2 e5
      · rw [List.eq_nil_of_length_eq_zero (l := l) (by omega), List.eq_nil_of_length_eq_zero (l := l') (by omega)]
    rw [this]
theorem pl_one {w : World} : ∀ (l l' : List JV) (b off : Nat), PL w l b off → PL w l' b off → l.length = l'.length → l = l'
  | [], l', _, _, _, _, hl => (List.eq_nil_of_length_eq_zero (by simpa using hl.symm)).symm
  | v :: r, [], _, _, _, _, hl => by simp at hl
  | v :: r, v' :: r', b, off, h, h', hl => by
    unfold PL at h h'
    obtain ⟨⟨cs, h1, h2, h3⟩, h4⟩ := h
    obtain ⟨⟨cs', h1', h2', h3'⟩, h4'⟩ := h'
    have : cs = cs' := by
      apply List.ext_getElem?
      intro j
      by_cases hj : j < 5
      · rw [← h2 j hj, ← h2' j hj]
      · rw [List.getElem?_eq_none (by omega), List.getElem?_eq_none (by omega)]
    subst this
    rw [pv_one v v' cs h3 h3', pl_one r r' b (off + 5) h4 h4' (by simpa using hl)]
end
theorem pl_at {w : World} : ∀ (l : List JV) (b off i : Nat) (v : JV), PL w l b off → l[i]? = some v → ∃ cs, cs.length = 5 ∧ (∀ j, j < 5 → w.cell? ⟨b, off + (5 * i + j), none⟩ = cs[j]?) ∧ PV w v cs
  | [], _, _, _, _, _, h => by simp at h
  | u :: r, b, off, 0, v, h, hi => by
    unfold PL at h
    obtain ⟨⟨cs, h1, h2, h3⟩, _⟩ := h
    cases hi
    exact ⟨cs, h1, fun j hj => by rw [Nat.mul_zero, Nat.zero_add]; exact h2 j hj, h3⟩
  | u :: r, b, off, i + 1, v, h, hi => by
    unfold PL at h
    obtain ⟨cs, h1, h2, h3⟩ := pl_at r b (off + 5) i v h.2 (by simpa using hi)
    exact ⟨cs, h1, fun j hj => by rw [show off + (5 * (i + 1) + j) = off + 5 + (5 * i + j) by omega]; exact h2 j hj, h3⟩
theorem pl_mk {w : World} (b : Nat) : ∀ (l : List JV) (off : Nat), (∀ i v, l[i]? = some v → ∃ cs, cs.length = 5 ∧ (∀ j, j < 5 → w.cell? ⟨b, off + (5 * i + j), none⟩ = cs[j]?) ∧ PV w v cs) → PL w l b off
  | [], _, _ => by unfold PL; trivial
  | v :: r, off, h => by
    unfold PL
    refine ⟨?_, pl_mk b r (off + 5) fun i u hi => ?_⟩
    · obtain ⟨cs, h1, h2, h3⟩ := h 0 v rfl
      exact ⟨cs, h1, fun j hj => by have := h2 j hj; rwa [Nat.mul_zero, Nat.zero_add] at this, h3⟩
    · obtain ⟨cs, h1, h2, h3⟩ := h (i + 1) u (by simpa using hi)
      exact ⟨cs, h1, fun j hj => by rw [show off + 5 + (5 * i + j) = off + (5 * (i + 1) + j) by omega]; exact h2 j hj, h3⟩
end Go.Proofs.YtiadfijeglbdlaaDoor

namespace Go.Proofs.YtiadfijeglbdlaaDoor
open Go.RowKit

theorem Tabs.keep {w w' : World} (h : Tabs w) (hb : CellsKept w w') : Tabs w' := by
  refine ⟨⟨fun c hc => hb.cell (h.utf.1 c hc), fun i hi => ⟨hb.cell (h.utf.2 i hi).1, hb.cell (h.utf.2 i hi).2⟩⟩, ?_, ?_, ?_⟩
  · have hv := h.pow
    unfold Lib.TabIs World.var? at hv ⊢
    cases hg : Tryd.prog.globalNamed "internal/strconv.uint64pow10" with
    | none => rw [hg] at hv; cases hv
    | some g =>
      rw [hg] at hv
      simp only [Option.bind_some] at hv ⊢
      cases hh : w.heap[g]? with
      | none => rw [hh] at hv; cases hv
      | some o =>
        cases o with
        | cells cs T fr => rw [hb.cells _ _ _ _ hh]; rw [hh] at hv; exact hv
        | _ => rw [hh] at hv; cases hv
  · obtain ⟨te, pe, e⟩ := h.syn
    exact ⟨te, pe, hb.cell e⟩
  · obtain ⟨te, pe, e⟩ := h.rng
    exact ⟨te, pe, hb.cell e⟩

theorem gb {w w' : World} (hb : Below w.heap.size w w') (r : Option Nat) : w.grownBy w' r := ⟨hb.os, hb.tape, hb.output, hb.size, fun k hk _ => hb.block k hk⟩
theorem gb_set {w : World} (p : Addr) (v : Value) (w0 : World) (r : Option Nat) (h : w0.grownBy w r) (hp : w0.heap.size ≤ p.block) : w0.grownBy (w.setCell p v) r := by
  refine ⟨h.os, h.tape, h.output, ?_, fun k hk hr => ?_⟩
  · have := h.size; rw [World.size_setCell]; exact this
  · rw [Below.heap_setCell _ _ _ _ (by omega)]; exact h.block k hk hr

/-- how deep a key of met says that a list stands -/
def deepOf : Value → Int
  | .agg cs => (match cs[2]? with | some (Value.int _ d) => d | _ => 0)
  | _ => 0
/-- nothing is wrong with what met has below that depth -/
def GoodM (w : World) (d0 : Nat) (ps : List (Value × Value)) : Prop :=
  ∀ q ∈ ps, q.2 = .agg #[] ∧ ∀ b off (n d : Int), q.1 = .agg #[.pointer (some ⟨b, off, none⟩), .int .i64 n, .int .i64 d] → (d0 : Int) < d → ∃ l, PL w l b off ∧ (l.length : Int) = n ∧ mayL l (8 - d.toNat) = true
theorem GoodM.keep {w w' : World} {d0 : Nat} {ps : List (Value × Value)} (h : GoodM w d0 ps) (hb : CellsKept w w') : GoodM w' d0 ps := fun q hq => ⟨(h q hq).1, fun b off n d e hd => by
  obtain ⟨l, h1, h2, h3⟩ := (h q hq).2 b off n d e hd
  exact ⟨l, pl_keep hb l b off h1, h2, h3⟩⟩
theorem GoodM.mono {w : World} {d0 d1 : Nat} {ps : List (Value × Value)} (h : GoodM w d0 ps) (hd : d0 ≤ d1) : GoodM w d1 ps := fun q hq => ⟨(h q hq).1, fun b off n d e hlt => (h q hq).2 b off n d e (by omega)⟩

def MayPost (w : World) (B around : Nat) (ps : List (Value × Value)) (R : Bool) (e : Ending) (w' : World) : Prop :=
  e = .returned (.bool R) ∧ w.grownBy w' (some B) ∧ (R = true → ∃ ps', MapR GDeep w' B ps' ∧ GoodM w' around ps' ∧ ∀ q ∈ ps', q ∈ ps ∨ (around : Int) < deepOf q.1)
theorem post_same {w w' : World} {B around : Nat} {ps : List (Value × Value)} {R : Bool} {e : Ending} (he : e = .returned (.bool R)) (hM : MapR GDeep w B ps) (hG : GoodM w around ps) (hb : Below w.heap.size w w') : MayPost w B around ps R e w' :=
  ⟨he, gb hb _, fun _ => ⟨ps, hM.below deep_ok hb, hG.keep (CellsKept.of_below hb), fun _ hq => .inl hq⟩⟩

/-- what may of a value, as the program asks it -/
theorem may_split (k : Int) (s : List UInt8) (n : Nat) (l : List JV) (ks : List (List UInt8)) (most : Nat) :
    mayF (.mk k s n l ks) most = (fitsB k n s.length l.length ks.length && utf8F s && ((!(decide (k = 5) || decide (k = 6))) || (decide (0 < most) && ((!decide (k = 6)) || (decide (ks.length = l.length) && ks.all utf8F && apartF ks)) && mayL l (most - 1)))) := by
  have hfb : fitsB k n s.length l.length ks.length = true ↔ ¬ bad1 k s n l ks := by
    unfold fitsB bad1
    simp only [Bool.and_eq_true, Bool.or_eq_true, decide_eq_true_eq]
    omega
  unfold mayF
  apply Bool.eq_iff_iff.2
  rw [Bool.and_eq_true, head_split, ← hfb]
  cases hf : fitsB k n s.length l.length ks.length with
  | false => simp
  | true =>
    have hb := hfb.1 hf
    unfold bad1 at hb
    unfold bad2
    cases hu : utf8F s with
    | false => simp
    | true =>
      by_cases h56 : k = 5 ∨ k = 6
      · rcases h56 with rfl | rfl
        · have h0 : ks = [] := List.eq_nil_of_length_eq_zero (by omega)
          subst h0
          simp [apartF]
          intro _
          omega
        · simp only [decide_true, Bool.not_true, Bool.false_or, Bool.or_true, Bool.true_and, Bool.and_eq_true, decide_eq_true_eq, true_and]
          constructor
          · rintro ⟨⟨h1, h2, h3⟩, h4⟩
            exact ⟨⟨by omega, ⟨by omega, h2⟩, h3⟩, h4⟩
          · rintro ⟨⟨h1, ⟨h2, h3⟩, h4⟩, h5⟩
            exact ⟨⟨by simp; omega, h3, h4⟩, h5⟩
      · have h0 : ks = [] := List.eq_nil_of_length_eq_zero (by omega)
        have h1 : l = [] := List.eq_nil_of_length_eq_zero (by omega)
        subst h0
        subst h1
        have h5 : k ≠ 5 := fun h => h56 (.inl h)
        have h6 : k ≠ 6 := fun h => h56 (.inr h)
        simp [h5, h6, apartF, mayL]
        omega
end Go.Proofs.YtiadfijeglbdlaaDoor

namespace Go.Proofs.YtiadfijeglbdlaaDoor
open Go.RowKit

theorem may_f {w w' : World} {B around : Nat} {ps : List (Value × Value)} {R : Bool} (hR : R = false) (hb : Below w.heap.size w w') : MayPost w B around ps R (.returned (.bool false)) w' :=
  ⟨by rw [hR], gb hb _, fun h => by rw [hR] at h; cases h⟩
theorem may_t {w w' : World} {B around : Nat} {ps : List (Value × Value)} {R : Bool} (hR : R = true) (hM : MapR GDeep w B ps) (hG : GoodM w around ps) (hb : Below w.heap.size w w') : MayPost w B around ps R (.returned (.bool true)) w' :=
  post_same (by rw [hR]) hM hG hb

theorem mayL_iff : ∀ (l : List JV) (m : Nat), mayL l m = true ↔ ∀ (j : Nat) (u : JV), l[j]? = some u → mayF u m = true
  | [], m => by unfold mayL; simp
  | v :: r, m => by
    unfold mayL
    rw [Bool.and_eq_true, mayL_iff r m]
    constructor
    · rintro ⟨h1, h2⟩ j u hj
      cases j with
      | zero => cases hj; exact h1
      | succ j => exact h2 j u (by simpa using hj)
    · exact fun h => ⟨h 0 v rfl, fun j u hj => h (j + 1) u (by simpa using hj)⟩
theorem pv_shape {w : World} {v : JV} {cs : List Value} (h : PV w v cs) : ∃ (k : Int) (s : ByteArray) (n : Int) (a : Option Addr) (l c : Nat) (b : Option Addr) (m d : Nat), cs = [.int .i64 k, .string s, .int .u64 n, .slice a l c, .slice b m d] := by
  obtain ⟨k, s, n, l, ks⟩ := v
  unfold PV at h
  obtain ⟨a, c, a', c', rfl, -⟩ := h
  exact ⟨_, _, _, _, _, _, _, _, _, rfl⟩
theorem gb_trans {a b c : World} {r : Option Nat} (h : a.grownBy b r) (k : b.grownBy c r) : a.grownBy c r :=
  ⟨k.os.trans h.os, k.tape.trans h.tape, k.output.trans h.output, Nat.le_trans h.size k.size, fun i hi hr => (k.block i (Nat.lt_of_lt_of_le hi h.size) hr).trans (h.block i hi hr)⟩
theorem ck_gb {G : World → Value → Prop} {w w' : World} {B : Nat} {ps : List (Value × Value)} (h : MapR G w B ps) (hg : w.grownBy w' (some B)) : CellsKept w w' := by
  obtain ⟨es, cl, hb, -⟩ := h
  exact CellsKept.of_grown hg hb

set_option maxRecDepth 100000 in
set_option maxHeartbeats 4000000 in
theorem may_all : ∀ (N : Nat) (v : JV) (cs : List Value) (w : World) (B around : Nat) (ps : List (Value × Value)), SizeOf.sizeOf v ≤ N → PV w v cs → smallV v 9223372036854775000 → around ≤ 8 → Tabs w → MapR GDeep w B ps → GoodM w around ps →
    Calls Tryd.prog 27 #[.agg cs.toArray, .int .i64 (around : Int), .map (some B)] w (MayPost w B around ps (mayF v (8 - around))) := by
  intro N
  induction N with
  | zero => intro v; intros; cases v; simp at *
  | succ N ih =>
    rintro ⟨k, s, n, l, ks⟩ cs w B around ps hN hv hsm har hT hM hG
    unfold PV at hv
    obtain ⟨a, c, b, d, rfl, ⟨hk0, hk1, hn⟩, hks, ⟨hlc, hcb⟩, hac, hl⟩ := hv
    unfold smallV at hsm
    obtain ⟨hss, hsk, hsl⟩ := hsm
    rw [may_split]
    obtain ⟨R, hR⟩ : ∃ R, R = (fitsB k n s.length l.length ks.length && utf8F s && ((!(decide (k = 5) || decide (k = 6))) || (decide (0 < 8 - around) && ((!decide (k = 6)) || (decide (ks.length = l.length) && ks.all utf8F && apartF ks)) && mayL l (8 - around - 1)))) := ⟨_, rfl⟩
    rw [← hR]
    have HR := Lib.hid hR
    have HKS : Hid (∀ W, Below w.heap.size w W → RStr W ks b d) := fun W h => hks.to h
    have HL : Hid (0 < l.length → ∃ b off, a = some ⟨b, off, none⟩ ∧ PlainB w b ∧ PL w l b off) := hl
    have HT : Hid (∀ W, Below w.heap.size w W → Tabs W) := fun W h => hT.to h
    have HM := Lib.hid hM
    have HG := Lib.hid hG
    have IH := Lib.hid ih
    have HSL := Lib.hid hsl
    have HSK := Lib.hid hsk
    have HN := Lib.hid hN
    clear hR hks hl hT hM hG ih hsl hsk hN
    have hfits : Hid (∀ W, Calls Tryd.prog 42 #[.agg #[.int .i64 k, .string (bstr s), .int .u64 (n : Int), .slice a l.length c, .slice b ks.length d]] W fun e w' => e = .returned (.bool (fitsB k n s.length l.length ks.length)) ∧ Below W.heap.size W w') := fun W => fitsKind_any k s n l.length c ks.length d a b W
    have hval : Hid (∀ W, Below w.heap.size w W → Calls Tryd.prog 43 #[.string (bstr s)] W fun e w' => e = .returned (.bool (utf8F s)) ∧ Below W.heap.size W w') := fun W hW => validString_any s W (by omega) (HT.out W hW)
    have HFB : Hid (fitsB k n s.length l.length ks.length = true → (l.length = 0 ∨ k = 5 ∨ k = 6) ∧ (ks.length = 0 ∨ k = 6)) := by
      show _ → _
      unfold fitsB
      simp only [Bool.and_eq_true, Bool.or_eq_true, decide_eq_true_eq]
      rintro ⟨⟨⟨⟨⟨h1, h2⟩, h3⟩, h4⟩, h5⟩, h6⟩
      exact ⟨h5, h6⟩
    obtain ⟨F, hF⟩ : ∃ F, F = fitsB k n s.length l.length ks.length := ⟨_, rfl⟩
    rw [← hF] at hfits HR HFB
    clear hF
    obtain ⟨U, hU⟩ : ∃ U, U = utf8F s := ⟨_, rfl⟩
    rw [← hU] at hval HR
    clear hU
    cases F with
    | false =>
      have HF : Hid (R = false) := by show _ = _; rw [HR.out]; simp
      go_enter Tryd.func27, Tryd.ntmps27
      go_wp2_with (go_at_call 42; refine (hfits.out _).mono ?_; rintro e w1 ⟨rfl, hb1⟩)
      go_ret
      exact may_f HF.out (((Below.refl _ _).alloc (Nat.le_refl _) _).trans (hb1.mono (by simp)))
    | true =>
      obtain ⟨W0, hW0⟩ : ∃ W0, W0 = w.alloc (.cells #[.int .i64 k, .string (bstr s), .int .u64 (n : Int), .slice a l.length c, .slice b ks.length d] 30) := ⟨_, rfl⟩
      obtain ⟨g, hg⟩ : ∃ g, g = w.heap.size := ⟨_, rfl⟩
      have hA0 : Arr W0 g 30 [.int .i64 k, .string (bstr s), .int .u64 (n : Int), .slice a l.length c, .slice b ks.length d] := by
        rw [hW0, hg]
        exact Arr.new w _ _
      have hB0 : Below w.heap.size w W0 := by rw [hW0]; exact (Below.refl _ _).alloc (Nat.le_refl _) _
      cases U with
      | false =>
        have HF : Hid (R = false) := by show _ = _; rw [HR.out]; simp
        go_enter Tryd.func27, Tryd.ntmps27
        go_wp2_with fail
        rw [← hW0, ← hg]
        have HGE := Lib.hid hg
        clear hW0 hg
        go_wp2_with (first
          | (go_at_call 42; refine (hfits.out _).mono ?_; rintro e w1 ⟨rfl, hb1⟩; have hA1 := hA0.kept hb1; have c1 := (hA1.cell 1).trans (show _ = some (Value.string (bstr s)) from rfl); have hB1 := hB0.trans (hb1.mono hB0.size))
          | (go_at_call 43; refine (hval.out _ hB1).mono ?_; rintro e w2 ⟨rfl, hb2⟩))
        go_ret
        exact may_f HF.out (hB1.trans (hb2.mono hB1.size))
      | true =>
        by_cases h56 : k = 5 ∨ k = 6
        · have hho : Hid (∀ W, Calls Tryd.prog 44 #[.int .i64 k] W fun e w' => e = .returned (.bool true) ∧ w' = W) := fun W => by
            have := holdsOthers_any k W
            rw [show (decide (k = 5) || decide (k = 6)) = true by simpa using h56] at this
            exact this
          by_cases ha : around = 8
          · have HF : Hid (R = false) := by show _ = _; rw [HR.out, ha]; have : (decide (k = 5) || decide (k = 6)) = true := by simpa using h56
                                            rw [this]; simp
            have h8 : (around : Int) = 8 := by omega
            clear ha h56
            go_enter Tryd.func27, Tryd.ntmps27
            go_wp2_with fail
            rw [← hW0, ← hg]
            have HGE := Lib.hid hg
            clear hW0 hg
            go_wp2_with (first
              | (go_at_call 42; refine (hfits.out _).mono ?_; rintro e w1 ⟨rfl, hb1⟩; have hA1 := hA0.kept hb1; have c1 := (hA1.cell 1).trans (show _ = some (Value.string (bstr s)) from rfl); have hB1 := hB0.trans (hb1.mono hB0.size))
              | (go_at_call 43; refine (hval.out _ hB1).mono ?_; rintro e w2 ⟨rfl, hb2⟩; have hA2 := hA1.kept hb2; have c2 := (hA2.cell 0).trans (show _ = some (Value.int .i64 k) from rfl); have hB2 := hB1.trans (hb2.mono hB1.size))
              | (go_at_call 44; refine (hho.out _).mono ?_; rintro e w3 ⟨rfl, rfl⟩))
            go_ret
            exact may_f HF.out hB2
          · have h8 : ((around : Int) == 8) = false := beq_eq_false_iff_ne.2 (by omega)
            have HA : Hid (around < 8) := by show _ < _; omega
            obtain ⟨NT, hNT⟩ : ∃ NT, NT = (decide (ks.length = l.length) && ks.all utf8F && apartF ks) := ⟨_, rfl⟩
            have hnm : Hid (∀ W, Below w.heap.size w W → Calls Tryd.prog 45 #[.slice b ks.length d, .int .i64 (l.length : Int)] W fun e w' => e = .returned (.bool NT) ∧ Below W.heap.size W w') := fun W hW => by
              rw [hNT]
              exact mayName_any ks b d l.length W (HKS.out W hW) (by omega) (fun x hx => by have := HSK.out x hx; omega) (HT.out W hW)
            have hRR : Hid (R = (((!decide (k = 6)) || NT) && mayL l (8 - around - 1))) := by
              show _ = _
              rw [HR.out, hNT]
              have : (decide (k = 5) || decide (k = 6)) = true := by simpa using h56
              rw [this, decide_eq_true (show 0 < 8 - around by omega)]
              simp
            clear hNT HR
            by_cases hbad : k = 6 ∧ NT = false
            · obtain ⟨rfl, rfl⟩ := hbad
              have HF : Hid (R = false) := by show _ = _; rw [hRR.out]; simp
              clear ha h56 hRR
              go_enter Tryd.func27, Tryd.ntmps27
              go_wp2_with fail
              rw [← hW0, ← hg]
              have HGE := Lib.hid hg
              clear hW0 hg
              go_wp2_with (first
                | (go_at_call 42; refine (hfits.out _).mono ?_; rintro e w1 ⟨rfl, hb1⟩; have hA1 := hA0.kept hb1; have c1 := (hA1.cell 1).trans (show _ = some (Value.string (bstr s)) from rfl); have hB1 := hB0.trans (hb1.mono hB0.size))
                | (go_at_call 43; refine (hval.out _ hB1).mono ?_; rintro e w2 ⟨rfl, hb2⟩; have hA2 := hA1.kept hb2; have c2 := (hA2.cell 0).trans (show _ = some (Value.int .i64 6) from rfl); have c3 := (hA2.cell 3).trans (show _ = some (Value.slice a l.length c) from rfl); have c4 := (hA2.cell 4).trans (show _ = some (Value.slice b ks.length d) from rfl); have hB2 := hB1.trans (hb2.mono hB1.size))
                | (go_at_call 44; refine (hho.out _).mono ?_; rintro e w3 ⟨rfl, rfl⟩)
                | (go_at_call 45; refine (hnm.out _ hB2).mono ?_; rintro e w4 ⟨rfl, hb4⟩))
              go_ret
              exact may_f HF.out (hB2.trans (hb4.mono hB2.size))
            · have HRL : Hid (R = mayL l (8 - around - 1)) := by
                show _ = _
                rw [hRR.out]
                by_cases h6 : k = 6
                · cases NT with
                  | true => simp
                  | false => exact absurd ⟨h6, rfl⟩ hbad
                · simp [h6]
              clear hRR
              rcases h56 with rfl | rfl
              case' inr =>
                obtain rfl : NT = true := by cases NT with
                  | true => rfl
                  | false => exact absurd ⟨rfl, rfl⟩ hbad
              all_goals
                clear ha hbad
                go_enter Tryd.func27, Tryd.ntmps27
                go_wp2_with fail
                rw [← hW0, ← hg]
                have HGE := Lib.hid hg
                clear hW0 hg
                go_upto_region 7 with (first
                  | (go_at_call 42; refine (hfits.out _).mono ?_; rintro e w1 ⟨rfl, hb1⟩; have hA1 := hA0.kept hb1; have c1 := (hA1.cell 1).trans (show _ = some (Value.string (bstr s)) from rfl); have hB1 := hB0.trans (hb1.mono hB0.size))
                  | (go_at_call 43; refine (hval.out _ hB1).mono ?_; rintro e w2 ⟨rfl, hb2⟩; have hA2 := hA1.kept hb2; have c2 := hA2.cell 0; have c3 := (hA2.cell 3).trans (show _ = some (Value.slice a l.length c) from rfl); have c4 := (hA2.cell 4).trans (show _ = some (Value.slice b ks.length d) from rfl); have hB2 := hB1.trans (hb2.mono hB1.size))
                  | (go_at_call 44; refine (hho.out _).mono ?_; rintro e w3 ⟨rfl, rfl⟩)
                  | (go_at_call 45; refine (hnm.out _ hB2).mono ?_; rintro e w4 ⟨rfl, hb4⟩))
                first
                  | (have hA4 := hA2.kept hb4; have hB4 := hB2.trans (hb4.mono hB2.size); clear hA2 hB2 hb4)
                  | (have hA4 := hA2; have hB4 := hB2; obtain ⟨w4, rfl⟩ : ∃ x, x = w3 := ⟨_, rfl⟩)
                have q3 := (hA4.cell 3).trans (show _ = some (Value.slice a l.length c) from rfl)
                obtain ⟨p, hp, hp0, hp1⟩ : ∃ p, placeV a l.length = .agg #[.pointer p, .int .i64 (l.length : Int)] ∧ (l.length = 0 → p = none) ∧ (0 < l.length → p = a) := by
                  unfold placeV
                  by_cases h0 : l.length = 0
                  · exact ⟨none, by rw [if_pos h0, h0]; rfl, fun _ => rfl, fun h => by omega⟩
                  · exact ⟨a, by rw [if_neg h0], fun h => absurd h h0, fun _ => rfl⟩
                have hpo : Hid (∀ W, Calls Tryd.prog 33 #[.slice a l.length c] W fun e w' => e = .returned (.agg #[.pointer p, .int .i64 (l.length : Int)]) ∧ Below W.heap.size W w') := fun W => by
                  rw [← hp]
                  exact placeOf_any a l.length c W (by omega) (fun h => by obtain ⟨bb, off, e, -⟩ := HL.out h; exact ⟨bb, off, e⟩)
                have HP0 := Lib.hid hp0
                have HP1 := Lib.hid hp1
                clear hp hp0 hp1
                go_upto_region 8 with (first
                  | (go_at_call 33; refine (hpo.out _).mono ?_; rintro e w5 ⟨rfl, hb5⟩))
                have hA5 := hA4.kept hb5
                have hB5 := hB4.trans (hb5.mono hB4.size)
                obtain ⟨W6, hW6⟩ : ∃ W6, W6 = w5.alloc (.cells #[.pointer p, .int .i64 (l.length : Int), .int .i64 ((around : Int) + 1)] 98) := ⟨_, rfl⟩
                obtain ⟨h, hh⟩ : ∃ h, h = w5.heap.size := ⟨_, rfl⟩
                have hb56 : Below w5.heap.size w5 W6 := by rw [hW6]; exact (Below.refl _ _).alloc (Nat.le_refl _) _
                have hA6 := hA5.kept hb56
                have hH6 : Arr W6 h 98 [.pointer p, .int .i64 (l.length : Int), .int .i64 ((around : Int) + 1)] := by rw [hW6, hh]; exact Arr.new w5 _ _
                have hB6 : Below w.heap.size w W6 := by rw [hW6]; exact hB5.alloc hB5.size _
                have hkey : GDeep W6 (.agg #[.pointer p, .int .i64 (l.length : Int), .int .i64 ((around : Int) + 1)]) := by
                  refine ⟨p, _, _, rfl, ?_⟩
                  by_cases h0 : 0 < l.length
                  · rw [HP1.out h0]
                    obtain ⟨bb, off, e, hpl, -⟩ := HL.out h0
                    exact .inr ⟨bb, off, e, (CellsKept.of_below hB6).plain bb hpl⟩
                  · exact .inl (HP0.out (by omega))
                rw [← hW6, ← hh]
                have HHE := Lib.hid hh
                clear hW6 hh hb56 hA5 hb5 hA4 hB4 q3 hA0 hB0 hB5
                have q0 := (hH6.cell 0).trans (show _ = some (Value.pointer p) from rfl)
                have q1 := (hH6.cell 1).trans (show _ = some (Value.int .i64 (l.length : Int)) from rfl)
                have q2 := (hH6.cell 2).trans (show _ = some (Value.int .i64 ((around : Int) + 1)) from rfl)
                have q3 := (hA6.cell 3).trans (show _ = some (Value.slice a l.length c) from rfl)
                have hM6 : MapR GDeep W6 B ps := HM.out.below deep_ok hB6
                have HU : Hid (∀ q ∈ ps, q.2 = .agg #[]) := fun q hq => (HG.out q hq).1
                have hl6 : Hid (h < W6.heap.size) := hH6.lt
                by_cases hin : ∃ q ∈ ps, q.1 = .agg #[.pointer p, .int .i64 (l.length : Int), .int .i64 ((around : Int) + 1)]
                · have HF : Hid (R = true) := by
                    show _ = _
                    rw [HRL.out]
                    by_cases h0 : 0 < l.length
                    · obtain ⟨q, hq, e⟩ := hin
                      obtain ⟨bb, off, ea, hpl, hl⟩ := HL.out h0
                      rw [HP1.out h0, ea] at e
                      obtain ⟨l', h1, h2, h3⟩ := (HG.out q hq).2 bb off _ _ e (by omega)
                      rw [pl_one l l' bb off hl h1 (by omega), show 8 - around - 1 = 8 - ((around : Int) + 1).toNat by omega]
                      exact h3
                    · rw [List.eq_nil_of_length_eq_zero (l := l) (by omega)]
                      unfold mayL
                      rfl
                  have HIN := Lib.hid hin
                  clear hin
                  go_wp2_with (at_lookup; go_loud (refine wl_look_yes deep_ok Tryd.underlying66 rfl _ _ rfl B ps rfl hM6 _ _ (.agg #[]) rfl hkey (zero_unit _) HIN.out HU.out ?_))
                  go_ret
                  exact may_t HF.out HM.out HG.out (hB6.alloc hB6.size _)
                · have HIN : Hid (∀ q ∈ ps, q.1 ≠ .agg #[.pointer p, .int .i64 (l.length : Int), .int .i64 ((around : Int) + 1)]) := fun q hq e => hin ⟨q, hq, e⟩
                  clear hin
                  have hb67 : Below W6.heap.size W6 (W6.alloc (.cells #[] 83)) := (Below.refl _ _).alloc (Nat.le_refl _) _
                  have hA7 := hA6.kept hb67
                  have hH7 := hH6.kept hb67
                  have u3 := (hA7.cell 3).trans (show _ = some (Value.slice a l.length c) from rfl)
                  by_cases h0 : l.length = 0
                  · have HF : Hid (R = true) := by
                      show _ = _
                      rw [HRL.out, List.eq_nil_of_length_eq_zero h0]
                      unfold mayL
                      rfl
                    have h0i : ((l.length : Int) == 0) = true := beq_iff_eq.2 (by omega)
                    have H0 := Lib.hid h0
                    clear h0
                    go_wp2_with (at_lookup; go_loud (refine wl_look_no deep_ok Tryd.underlying66 rfl _ _ rfl B ps rfl hM6 _ _ rfl hkey (zero_unit _) HIN.out ?_))
                    go_ret
                    exact may_t HF.out HM.out HG.out (hB6.alloc hB6.size _)
                  · have h0i : ((l.length : Int) == 0) = false := beq_eq_false_iff_ne.2 (by omega)
                    go_upto_region 11 with (first
                      | (at_lookup; go_loud (refine wl_look_no deep_ok Tryd.underlying66 rfl _ _ rfl B ps rfl hM6 _ _ rfl hkey (zero_unit _) HIN.out ?_)))
                    generalize hW7 : W6.alloc (.cells #[] 83) = W7 at *
                    have hM7 : MapR GDeep W7 B ps := hM6.below deep_ok hb67
                    have hB7 : Below w.heap.size w W7 := hB6.trans (hb67.mono hB6.size)
                    have hkey7 : GDeep W7 (.agg #[.pointer p, .int .i64 (l.length : Int), .int .i64 ((around : Int) + 1)]) := deep_ok.kept _ _ _ (fun b' hb' => (CellsKept.of_below hb67).plain b' hb') hkey
                    have v0 := (hH7.cell 0).trans (show _ = some (Value.pointer p) from rfl)
                    have v1 := (hH7.cell 1).trans (show _ = some (Value.int .i64 (l.length : Int)) from rfl)
                    have v2 := (hH7.cell 2).trans (show _ = some (Value.int .i64 ((around : Int) + 1)) from rfl)
                    have hBm : Hid (B < w.heap.size) := HM.out.lt
                    clear hW7 hkey hM6 hB6 hA6 hH6 q0 q1 q2 q3 hl6 hb67
                    go_upto_region 12 with (at_mapUpdate; go_loud (refine wl_put_new deep_ok Tryd.underlying66 rfl _ _ _ rfl B ps rfl hM7 _ (.agg #[]) rfl rfl hkey7 HIN.out ?_); intro w8 hM8 hg8 hs8)
                    have hK : Hid (w.grownBy w8 (some B)) := gb_trans (gb hB7 _) hg8
                    have ho8 := (ck_gb hM7 hg8).cell ((hA7.cell 3).trans (show _ = some (Value.slice a l.length c) from rfl))
                    have hG8 : Hid (GoodM w8 (around + 1) (ps ++ [(.agg #[.pointer p, .int .i64 (l.length : Int), .int .i64 ((around : Int) + 1)], .agg #[])])) := by
                      intro q hq
                      rcases List.mem_append.1 hq with hq | hq
                      · exact (HG.out.mono (Nat.le_succ around)).keep (ck_gb HM.out hK.out) q hq
                      · obtain rfl := List.mem_singleton.1 hq
                        refine ⟨rfl, fun b off n d e hlt => ?_⟩
                        simp only [Value.agg.injEq] at e
                        have e2 := congrArg (fun (x : Array Value) => x[2]?) e
                        simp at e2
                        omega
                    obtain ⟨KEY, hKEY⟩ : ∃ KEY : Value, KEY = .agg #[.pointer p, .int .i64 (l.length : Int), .int .i64 ((around : Int) + 1)] := ⟨_, rfl⟩
                    rw [← hKEY] at hM8 hG8
                    have HKEY := Lib.hid hKEY
                    have hcl : l.length ≤ 9223372036854775807 := by omega
                    clear hKEY hM7 hg8 hs8 hA7 hH7 hB7 hkey7 u3 v0 v1 v2 HIN
                    go_upto_region 13 with fail
                    go_loopw [66] (fun i wr => ∃ (m : Nat) (pm : List (Value × Value)), m ≤ l.length ∧ i = .int .i64 m ∧ MapR GDeep wr B pm ∧ Hid (GoodM wr (around + 1) pm) ∧ Hid (w.grownBy wr (some B)) ∧ Hid (∀ q ∈ pm, q ∈ ps ∨ q.1 = KEY ∨ ((around + 1 : Nat) : Int) < deepOf q.1) ∧ Hid (∀ j u, j < m → l[j]? = some u → mayF u (8 - around - 1) = true)) (fun i _ => l.length - (intOf i).toNat)
                    case atStart => exact ⟨0, _, by omega, rfl, hM8, hG8, hK, fun q hq => by
                      rcases List.mem_append.1 hq with hq | hq
                      · exact .inl hq
                      · obtain rfl := List.mem_singleton.1 hq
                        exact .inr (.inl rfl), fun j u hj => by omega⟩
                    case round =>
                      clear hM8 hG8 hK
                      obtain ⟨m, pm, hm, rfl, hMm, hGm, hKm, hPm, hE⟩ := hrel
                      have hck : Hid (CellsKept w wr) := ck_gb HM.out hKm.out
                      by_cases hlt : m < l.length
                      · have hc : (m : Int) < (l.length : Int) := by omega
                        obtain ⟨ab, ao, rfl, hab, hpl⟩ := HL.out (by omega)
                        obtain ⟨x, hx⟩ : ∃ x, l[m]? = some x := ⟨_, List.getElem?_eq_getElem hlt⟩
                        obtain ⟨cx, hcx, hcx2, hpx⟩ := pl_at l ab ao m x hpl hx
                        obtain ⟨xk, xs, xn, xa, xl, xc, xb, xm, xd, rfl⟩ := pv_shape hpx
                        have hmc : m < c := by omega
                        have z := fun (j : Nat) (v : Value) (h : [.int .i64 xk, .string xs, .int .u64 xn, .slice xa xl xc, .slice xb xm xd][j]? = some v) (hj : j < 5) => hck.out.cell ((hcx2 j hj).trans h)
                        have qc0 : wr.cell? ⟨ab, ao + m * 5, none⟩ = some (.int .i64 xk) := by rw [show ao + m * 5 = ao + (5 * m + 0) by omega]; exact z 0 _ rfl (by omega)
                        have qc1 : wr.cell? ⟨ab, ao + m * 5 + 1, none⟩ = some (.string xs) := by rw [show ao + m * 5 + 1 = ao + (5 * m + 1) by omega]; exact z 1 _ rfl (by omega)
                        have qc2 : wr.cell? ⟨ab, ao + m * 5 + 2, none⟩ = some (.int .u64 xn) := by rw [show ao + m * 5 + 2 = ao + (5 * m + 2) by omega]; exact z 2 _ rfl (by omega)
                        have qc3 : wr.cell? ⟨ab, ao + m * 5 + 3, none⟩ = some (.slice xa xl xc) := by rw [show ao + m * 5 + 3 = ao + (5 * m + 3) by omega]; exact z 3 _ rfl (by omega)
                        have qc4 : wr.cell? ⟨ab, ao + m * 5 + 4, none⟩ = some (.slice xb xm xd) := by rw [show ao + m * 5 + 4 = ao + (5 * m + 4) by omega]; exact z 4 _ rfl (by omega)
                        have hIH : Hid (∀ W, Below wr.heap.size wr W → Calls Tryd.prog 27 #[.agg #[.int .i64 xk, .string xs, .int .u64 xn, .slice xa xl xc, .slice xb xm xd], .int .i64 ((around : Int) + 1), .map (some B)] W (MayPost W B (around + 1) pm (mayF x (8 - around - 1)))) := fun W hW => by
                          have hsz := List.sizeOf_lt_of_mem (List.mem_of_getElem? hx)
                          have hN := HN.out
                          simp only [JV.mk.sizeOf_spec] at hN
                          exact IH.out x [.int .i64 xk, .string xs, .int .u64 xn, .slice xa xl xc, .slice xb xm xd] W B (around + 1) pm (by omega) (pv_keep (hck.out.trans (CellsKept.of_below hW)) _ _ hpx) (small_at l _ m x HSL.out hx) (by have := HA.out; omega) ((HT.out w (Below.refl _ _)).keep (hck.out.trans (CellsKept.of_below hW))) (hMm.below deep_ok hW) (hGm.out.keep (CellsKept.of_below hW))
                        have HX := Lib.hid hx
                        have hwa : Hid (∀ o, Below wr.heap.size wr (wr.alloc o)) := fun o => (Below.refl _ _).alloc (Nat.le_refl _) _
                        clear z hcx hcx2 hpx hpl hab hx
                        cases hv : mayF x (8 - around - 1) with
                        | false =>
                          have HF : Hid (R = false) := by
                            show _ = _
                            rw [HRL.out]
                            cases hh : mayL l (8 - around - 1) with
                            | false => rfl
                            | true => rw [(mayL_iff l _).1 hh m x HX.out] at hv; cases hv
                          rw [hv] at hIH
                          clear hv
                          go_wp2_with (go_at_call 27; go_loud (refine (hIH.out _ (hwa.out _)).mono ?_); rintro e w9 ⟨rfl, hg9, -⟩)
                          go_ret
                          exact ⟨by rw [HF.out]; rfl, gb_trans hKm.out (gb_trans (gb (hwa.out _) _) hg9), fun hh => by rw [HF.out] at hh; cases hh⟩
                        | true =>
                          have HV := Lib.hid hv
                          rw [hv] at hIH
                          clear hv
                          go_wp2_with (go_at_call 27; go_loud (refine (hIH.out _ (hwa.out _)).mono ?_); rintro e w9 ⟨rfl, hg9, hp9⟩)
                          obtain ⟨p9, hM9, hG9, hq9⟩ := hp9 trivial
                          go_roundw
                          case rel => exact ⟨m + 1, p9, by omega, by go_num, hM9, hG9, gb_trans hKm.out (gb_trans (gb (hwa.out _) _) hg9), fun q hq => by
                            rcases hq9 q hq with h | h
                            · exact hPm.out q h
                            · exact .inr (.inr h), fun j u hj hu => by
                            by_cases hjm : j = m
                            · subst hjm
                              rw [HX.out] at hu
                              cases hu
                              exact HV.out
                            · exact hE.out j u (by omega) hu⟩
                          case measure => simp [intOf]; omega
                      · have hc : ¬ (m : Int) < (l.length : Int) := by omega
                        have HF : Hid (R = true) := by
                          show _ = _
                          rw [HRL.out, mayL_iff]
                          intro j u hu
                          have := (List.getElem?_eq_some_iff.1 hu).1
                          exact hE.out j u (by omega) hu
                        clear hlt hm
                        go_wp2_with fail
                        go_ret
                        refine ⟨by rw [HF.out]; rfl, hKm.out, fun _ => ⟨pm, hMm, fun q hq => ⟨(hGm.out q hq).1, fun b' off n' d' e hlt => ?_⟩, fun q hq => ?_⟩⟩
                        · rcases hPm.out q hq with h | h | h
                          · obtain ⟨l', h1, h2, h3⟩ := (HG.out q h).2 b' off n' d' e hlt
                            exact ⟨l', pl_keep hck.out l' b' off h1, h2, h3⟩
                          · rw [h, HKEY.out] at e
                            simp only [Value.agg.injEq, Array.mk.injEq, List.cons.injEq, Value.pointer.injEq, Value.int.injEq, true_and, and_true] at e
                            obtain ⟨e1, e2, e3⟩ := e
                            have h0 : 0 < l.length := by
                              rcases Nat.eq_zero_or_pos l.length with h0 | h0
                              · rw [HP0.out h0] at e1
                                cases e1
                              · exact h0
                            obtain ⟨ab, ao, ea, hab, hpl⟩ := HL.out h0
                            rw [HP1.out h0, ea] at e1
                            cases e1
                            refine ⟨l, pl_keep hck.out l _ _ hpl, e2, ?_⟩
                            rw [show 8 - d'.toNat = 8 - around - 1 by omega, ← HRL.out]
                            exact HF.out
                          · rw [e] at h
                            have hd : ((around + 1 : Nat) : Int) < d' := h
                            exact (hGm.out q hq).2 b' off n' d' e hd
                        · rcases hPm.out q hq with h | h | h
                          · exact .inl h
                          · refine .inr ?_
                            rw [h, HKEY.out]
                            show (around : Int) < (around : Int) + 1
                            omega
                          · refine .inr ?_
                            have : ((around + 1 : Nat) : Int) < deepOf q.1 := h
                            omega
        · have HF : Hid (R = true) := by
            show _ = _
            rw [HR.out]
            have h5 : k ≠ 5 := fun h => h56 (.inl h)
            have h6 : k ≠ 6 := fun h => h56 (.inr h)
            simp [h5, h6]
          have hho : Hid (∀ W, Calls Tryd.prog 44 #[.int .i64 k] W fun e w' => e = .returned (.bool false) ∧ w' = W) := fun W => by
            have := holdsOthers_any k W
            rw [decide_eq_false (fun h => h56 (.inl h)), decide_eq_false (fun h => h56 (.inr h))] at this
            exact this
          clear h56
          go_enter Tryd.func27, Tryd.ntmps27
          go_wp2_with fail
          rw [← hW0, ← hg]
          have HGE := Lib.hid hg
          clear hW0 hg
          go_wp2_with (first
            | (go_at_call 42; refine (hfits.out _).mono ?_; rintro e w1 ⟨rfl, hb1⟩; have hA1 := hA0.kept hb1; have c1 := (hA1.cell 1).trans (show _ = some (Value.string (bstr s)) from rfl); have hB1 := hB0.trans (hb1.mono hB0.size))
            | (go_at_call 43; refine (hval.out _ hB1).mono ?_; rintro e w2 ⟨rfl, hb2⟩; have hA2 := hA1.kept hb2; have c2 := (hA2.cell 0).trans (show _ = some (Value.int .i64 k) from rfl); have hB2 := hB1.trans (hb2.mono hB1.size))
            | (go_at_call 44; refine (hho.out _).mono ?_; rintro e w3 ⟨rfl, rfl⟩))
          go_ret
          exact may_t HF.out HM.out HG.out hB2
end Go.Proofs.YtiadfijeglbdlaaDoor

namespace Go.Proofs.YtiadfijeglbdlaaDoor
open Go.RowKit

set_option maxRecDepth 100000 in
theorem May_any (v : JV) (cs : List Value) (w : World) (h : PV w v cs) (hs : smallV v 9223372036854775000) (hT : Tabs w) :
    Calls Tryd.prog 15 #[.agg cs.toArray] w fun e w' => e = .returned (.bool (mayF v 8)) ∧ Below w.heap.size w w' := by
  have hmm : ∀ (w : World), (Instr.makeMap 66 none).run Tryd.prog w = .ok (.map (some w.heap.size)) (w.alloc (.map #[] 0)) := fun w => by
    simp [Instr.makeMap, Result.andThen]
  obtain ⟨xk, xs, xn, xa, xl, xc, xb, xm, xd, rfl⟩ := pv_shape h
  have hc : Hid (∀ W B, B = W.heap.size → Below w.heap.size w W → Calls Tryd.prog 27 #[.agg #[.int .i64 xk, .string xs, .int .u64 xn, .slice xa xl xc, .slice xb xm xd], .int .i64 0, .map (some B)] (W.alloc (.map #[] 0)) fun e w' => e = .returned (.bool (mayF v 8)) ∧ Below w.heap.size w w')   := fun W B hBB hW => by
    subst hBB
    have hW2 : Below w.heap.size w (W.alloc (.map #[] 0)) := hW.alloc hW.size _
    refine (may_all _ v _ (W.alloc (.map #[] 0)) W.heap.size 0 [] (Nat.le_refl _) (pv_keep (CellsKept.of_below hW2) _ _ h) hs (by omega) (hT.to hW2) (MapR.new W) (by intro q hq; cases hq)).mono ?_
    rintro e w' ⟨h1, h2, -⟩
    exact ⟨h1, hW2.grown h2 (by simp; have := hW.size; omega) (fun k hk => by cases hk; exact hW.size)⟩
  clear h hs hT
  go_enter Tryd.func15, Tryd.ntmps15
  go_wp2_with (go_at_call 27; go_loud (refine (hc.out _ _ (by simp) ((Below.refl _ _).alloc (Nat.le_refl _) _)).mono ?_); rintro e w9 ⟨rfl, hb9⟩)
  go_ret
  exact ⟨rfl, hb9⟩
end Go.Proofs.YtiadfijeglbdlaaDoor

namespace Go.Proofs.YtiadfijeglbdlaaDoor
open Go.RowKit

theorem str_cells (s : List UInt8) : Lib.strCells (bstr s) = s.map bv := by
  unfold Lib.strCells bstr bv
  simp
section
variable {T S : TypeId} (bt : BT Tryd.prog T 5) (hS : Tryd.prog.underlying S = some .string) {ops : Array Oper} {o : Oper} {a : Act} {Q : Exit → Act → World → Prop} {w : World}
include bt hS
/-- append(dst, s...), s a text, in a region that draws -/
theorem step_append_s {K : Act → World → Prop} {X : Prop} (hgd : o.guard = none)
    (d s : Operand) (ho : o.op = .call { callee := .builtin .append, args := #[d, s], argTypes := #[T, S] })
    (B : Nat) (v : Value) (ys : List UInt8) (hown : Own w B 5 v ys) (hd : a.eval d = v) (xs : List UInt8)
    (hs : a.eval s = .string (bstr xs)) (hb : ys.length + xs.length ≤ 140737488355328) (hB : B ≤ w.heap.size)
    (hK : ∀ v' w', Own w' B 5 v' (ys ++ xs) → Fr B w w' → K (a.put o.dst v') w') :
    if Region.wanted o (yielded ops a.tmps) = true then Oper.wp Tryd.prog o a w K Q else X := by
  rw [if_pos (by simp [Region.wanted, hgd])]
  obtain ⟨i0, hi, hz0, hz1, hz2⟩ := info_parts bt.info
  have hsz : (bstr xs).size = xs.length := by show xs.toArray.size = _; simp
  obtain ⟨v', w', hr, h2, h3, -⟩ := Lib.run_append_own_string (P := Tryd.prog) w B T S o.type 5 i0 bt.sl hS hi hz0 hz1 hz2 v _ _ hown (bstr xs) (by rw [hsz]; unfold maxLen; omega) (by rw [hsz]; omega) hB
  unfold Oper.wp
  simp [execOp, ho, resolve, invoke, builtin, hd, hs, hr, Result.andThen]
  refine hK v' w' ?_ ((Fr.refl _ _).grown h3 hown (Nat.le_refl _) hB)
  unfold Own
  rw [List.length_append, List.map_append, ← str_cells, ← hsz]
  exact h2
end
/-- the words of the kinds that have one value alone -/
def kindW (k : Int) : List UInt8 := if k = 0 then [110, 117, 108, 108] else if k = 1 then [102, 97, 108, 115, 101] else [116, 114, 117, 101]

set_option maxRecDepth 100000 in
set_option maxHeartbeats 4000000 in
theorem put_word (k : Int) (s : List UInt8) (n : Nat) (l c lk d : Nat) (a b : Option Addr) (w : World) (g : Nat) (bl : List UInt8) (v : Value) (hk : k = 0 ∨ k = 1 ∨ k = 2) (ho : Own w g 5 v bl) (hg : g ≤ w.heap.size) (hbl : bl.length ≤ 1048600) :
    Calls Tryd.prog 23 #[v, .agg #[.int .i64 k, .string (bstr s), .int .u64 (n : Int), .slice a l c, .slice b lk d]] w (PutRes (bl ++ kindW k) g w) := by
  obtain ⟨a0, c0, rfl, -⟩ := ho.shape
  have hwords : Hid (∀ W, Calls Tryd.prog 34 #[] W fun e w' => e = .returned (.agg #[.string ⟨#[110, 117, 108, 108]⟩, .string ⟨#[102, 97, 108, 115, 101]⟩, .string ⟨#[116, 114, 117, 101]⟩]) ∧ Below W.heap.size W w') := words_any
  have hA0 := Arr.new w 30 [.int .i64 k, .string (bstr s), .int .u64 (n : Int), .slice a l c, .slice b lk d]
  have hf0 := Fr.new w (.cells #[.int .i64 k, .string (bstr s), .int .u64 (n : Int), .slice a l c, .slice b lk d] 30)
  have HG := Lib.hid hg
  have HBL := Lib.hid hbl
  clear hg hbl
  have hi0 : ∀ W, (Instr.index 85 (.agg #[.string ⟨#[110, 117, 108, 108]⟩, .string ⟨#[102, 97, 108, 115, 101]⟩, .string ⟨#[116, 114, 117, 101]⟩]) (.int .i64 0)).run Tryd.prog W = .ok (.string (bstr [110, 117, 108, 108])) W := fun W => by kernel_rfl
  have hi1 : ∀ W, (Instr.index 85 (.agg #[.string ⟨#[110, 117, 108, 108]⟩, .string ⟨#[102, 97, 108, 115, 101]⟩, .string ⟨#[116, 114, 117, 101]⟩]) (.int .i64 1)).run Tryd.prog W = .ok (.string (bstr [102, 97, 108, 115, 101])) W := fun W => by kernel_rfl
  have hi2 : ∀ W, (Instr.index 85 (.agg #[.string ⟨#[110, 117, 108, 108]⟩, .string ⟨#[102, 97, 108, 115, 101]⟩, .string ⟨#[116, 114, 117, 101]⟩]) (.int .i64 2)).run Tryd.prog W = .ok (.string (bstr [116, 114, 117, 101])) W := fun W => by kernel_rfl
  rcases hk with rfl | rfl | rfl
  all_goals
    go_enter Tryd.func23, Tryd.ntmps23
    go_upto_region 5 with fail
    generalize w.alloc (.cells _ 30) = W1 at *
    generalize hGG : w.heap.size = G at *
    have HGG := Lib.hid hGG
    have hw1 : Hid (G < W1.heap.size) := hA0.lt
    have hg1 : Hid (g ≤ W1.heap.size) := by show _ ≤ _; have := HG.out; have := hw1.out; omega
    have ho1 := ho.to (hGG ▸ hf0.1)
    have hne : Hid (30 ≠ 5) := by show _ ≠ _; decide
    have q0 := hA0.cell 0
    simp only [List.getElem?_cons_zero] at q0
    clear hGG
    go_region_held3 (fun w' => w'.cell? ⟨G, 0, none⟩ = W1.cell? ⟨G, 0, none⟩) (first | exact (((hA0.drew.kept hb3).fr hf4 hne.out).cell 0).trans (hA0.cell 0).symm | exact (hb3.cell (p := ⟨G, 0, none⟩) hw1.out) | go_keep) (first
      | (go_at_call 34; refine (hwords.out _).mono ?_; rintro e w3 ⟨rfl, hb3⟩)
      | (refine step_append_s bt Tryd.underlying9 rfl _ _ rfl g _ _ ((show Own W1.drew g _ _ _ from ho1).to hb3) rfl _ rfl (by have := HBL.out; simp; omega) (Nat.le_trans hg1.out hb3.size) ?_; intro v4 w4 ho4 hf4))
    obtain ⟨a4, c4, rfl, -⟩ := ho4.shape
    have hf5 : Fr g w w4 := ((hf0.mono HG.out).drew.trans ((Fr.of_below hb3).mono hg1.out)).trans hf4
    go_wp2
    go_ret2
    refine ⟨_, ?_, fun _ => ho4, hf5⟩
    simp [kindW]
    try omega

theorem dec_digits (n : Nat) : Lib.decDigits n = digitsF n := by
  induction n using Nat.strongRecOn with
  | _ n ih =>
    rw [Lib.decDigits, digitsF]
    split
    · rfl
    · rw [ih (n / 10) (by omega)]

set_option maxRecDepth 100000 in
theorem appendUint_any (n : Nat) (w : World) (g : Nat) (bl : List UInt8) (v : Value) (hn : n < 18446744073709551616) (ho : Own w g 5 v bl) (hg : g ≤ w.heap.size) (hbl : bl.length ≤ 1048700) (hT : Tabs w) :
    Calls Tryd.prog 35 #[v, .int .u64 (n : Int), .int .i64 10] w fun e w' => ∃ v', e = .returned v' ∧ Own w' g 5 v' (bl ++ digitsF n) ∧ Fr g w w' := by
  have hc : Hid (Calls Tryd.prog 58 #[v, .int .u64 (n : Int), .int .i64 10] w fun e w' => ∃ v', e = .returned v' ∧ Own w' g 5 v' (bl ++ digitsF n) ∧ Fr g w w') := by
    have e1 : ∀ w' v', w'.ownsRow g 5 1 v' (bl.length + (Lib.decDigits n).length) (bl.map bv ++ Lib.byteCells (Lib.decDigits n)) → Own w' g 5 v' (bl ++ digitsF n) := fun w' v' h => by
      unfold Own
      rw [List.length_append, List.map_append, ← dec_digits]
      exact h
    by_cases h100 : n < 100
    · refine (Tryd.internal_strconv_AppendUint_10_small g bl.length n h100 v _ w ho hg (by omega)).mono ?_
      rintro e w' ⟨v', h1, h2, h3, h4⟩
      exact ⟨v', h1, e1 _ _ h2, h3, h4⟩
    · refine (Tryd.internal_strconv_AppendUint_10_big g bl.length n (by omega) hn v _ w ho hg (by omega) hT.pow).mono ?_
      rintro e w' ⟨v', h1, h2, h3, h4⟩
      exact ⟨v', h1, e1 _ _ h2, h3, h4⟩
  clear ho hT
  go_enter Tryd.func35, Tryd.ntmps35
  go_wp2_with (go_at_call 58; refine hc.out.mono ?_; rintro e w9 ⟨v9, rfl, ho9, hf9⟩)
  go_ret
  exact ⟨v9, rfl, ho9, hf9⟩

theorem mayL_at {l : List JV} {m i : Nat} {u : JV} (h : mayL l m = true) (hi : l[i]? = some u) : mayF u m = true := (mayL_iff l m).1 h i u hi

set_option maxRecDepth 100000 in
set_option maxHeartbeats 4000000 in
theorem put_all : ∀ (N most : Nat) (v : JV) (cs : List Value) (w0 w : World) (bl : List UInt8) (vb : Value), SizeOf.sizeOf v ≤ N → mayF v most = true → most ≤ 8 → smallV v 9223372036854775000 → RV w0 v cs → Below w0.heap.size w0 w → Own w w0.heap.size 5 vb bl → bl.length + 2 * most ≤ 1048600 → Tabs w0 →
    Calls Tryd.prog 23 #[vb, .agg cs.toArray] w (PutRes (bl ++ plainF v) w0.heap.size w) := by
  intro N
  induction N with
  | zero => intro most v; intros; cases v; simp at *
  | succ N ih =>
    rintro most ⟨k, s, n, l, ks⟩ cs w0 w bl vb hN hmay hm8 hsm hv hb0 ho hbl hT
    have hRV := hv
    unfold RV at hv
    obtain ⟨a, c, b, d, rfl, ⟨hk0, hk1, hn⟩, -⟩ := hv
    have hg : w0.heap.size ≤ w.heap.size := hb0.size
    unfold mayF at hmay
    rw [Bool.and_eq_true, head_split] at hmay
    obtain ⟨⟨hb1, hb2, -, -⟩, hml⟩ := hmay
    unfold bad1 at hb1
    unfold bad2 at hb2
    unfold smallV at hsm
    obtain ⟨hss, hsk, hsl⟩ := hsm
    have hk : (k = 0 ∨ k = 1 ∨ k = 2) ∨ k = 3 ∨ k = 4 ∨ (k = 5 ∨ k = 6) := by omega
    rcases hk with hk | rfl | rfl | hk
    · have hp : plainF (.mk k s n l ks) = kindW k := by
        unfold plainF kindW
        rcases hk with rfl | rfl | rfl <;> rfl
      rw [hp]
      exact put_word k s n l.length c ks.length d a b w _ bl vb hk ho hg (by omega)
    · have hc : Hid (∀ W, Below w.heap.size w W → Own W w0.heap.size 5 vb bl → Calls Tryd.prog 35 #[vb, .int .u64 (n : Int), .int .i64 10] W fun e w' => ∃ v', e = .returned v' ∧ Own w' w0.heap.size 5 v' (bl ++ digitsF n) ∧ Fr w0.heap.size W w') := fun W hW h => appendUint_any n W _ bl vb hn h (Nat.le_trans hg hW.size) (by omega) ((hT.to hb0).to hW)
      have hp : plainF (.mk 3 s n l ks) = digitsF n := by unfold plainF; rfl
      rw [hp]
      have hf0 := (Fr.new w (.cells #[.int .i64 3, .string (bstr s), .int .u64 (n : Int), .slice a l.length c, .slice b ks.length d] 30)).mono hg
      have ho1 := ho.to (Fr.new w (.cells #[.int .i64 3, .string (bstr s), .int .u64 (n : Int), .slice a l.length c, .slice b ks.length d] 30)).1
      generalize w0.heap.size = g at *
      clear hRV hb0 ih hT
      go_enter Tryd.func23, Tryd.ntmps23
      go_wp2_with (go_at_call 35; refine (hc.out _ ((Below.refl _ _).alloc (Nat.le_refl _) _) ho1).mono ?_; rintro e w9 ⟨v9, rfl, ho9, hf9⟩; obtain ⟨a9, c9, rfl, -⟩ := ho9.shape)
      go_ret2
      refine ⟨_, ?_, fun _ => ho9, hf0.trans hf9⟩
      simp
      omega
    · have hc : Hid (∀ W, Below w.heap.size w W → Own W w0.heap.size 5 vb bl → Calls Tryd.prog 36 #[vb, .string (bstr s)] W (PutRes (bl ++ wordF s) w0.heap.size W)) := fun W hW h => putString_any bl vb _ s W h (Nat.le_trans hg hW.size) (by omega) (by omega)
      have hp : plainF (.mk 4 s n l ks) = wordF s := by unfold plainF; rfl
      rw [hp]
      have hf0 := (Fr.new w (.cells #[.int .i64 4, .string (bstr s), .int .u64 (n : Int), .slice a l.length c, .slice b ks.length d] 30)).mono hg
      have ho1 := ho.to (Fr.new w (.cells #[.int .i64 4, .string (bstr s), .int .u64 (n : Int), .slice a l.length c, .slice b ks.length d] 30)).1
      generalize w0.heap.size = g at *
      clear hRV hb0 ih hT
      go_enter Tryd.func23, Tryd.ntmps23
      go_wp2_with (go_at_call 36; refine (hc.out _ ((Below.refl _ _).alloc (Nat.le_refl _) _) ho1).mono ?_; rintro e w9 ⟨v9, rfl, ho9, hf9⟩)
      go_ret2
      exact ⟨v9, by rw [List.length_append]; rfl, ho9, hf0.trans hf9⟩
    · obtain ⟨mo, rfl⟩ : ∃ mo, most = mo + 1 := ⟨most - 1, by omega⟩
      have hIH : ∀ W, Below w.heap.size w W → PutIH l w0 mo := fun W hW i u cu W' b' v' hi hu h1 h2 h3 => ih mo u cu w0 W' b' v' (by have := List.sizeOf_lt_of_mem (List.mem_of_getElem? hi); simp only [JV.mk.sizeOf_spec] at hN; omega) (mayL_at hml hi) (by omega) (small_at l _ i u hsl hi) hu h1 h2 h3 hT
      have hc : Hid (∀ W F, F = (if k = 6 then 123 else 91 : Int) → Below w.heap.size w W → Own W w0.heap.size 5 vb bl → Calls Tryd.prog 37 #[vb, .agg #[.int .i64 k, .string (bstr s), .int .u64 (n : Int), .slice a l.length c, .slice b ks.length d], .int .u8 F] W (PutRes (bl ++ plainF (.mk k s n l ks)) w0.heap.size W)) := fun W F hF hW h => by
        rw [hF]
        exact putOthers_of k s n l ks _ w0 W bl vb mo hk (by omega) hRV (hb0.trans (hW.mono hg)) h (by omega) (by omega) (hIH W hW) (fun x hx => by have := hsk x hx; omega)
      have hf0 := (Fr.new w (.cells #[.int .i64 k, .string (bstr s), .int .u64 (n : Int), .slice a l.length c, .slice b ks.length d] 30)).mono hg
      have ho1 := ho.to (Fr.new w (.cells #[.int .i64 k, .string (bstr s), .int .u64 (n : Int), .slice a l.length c, .slice b ks.length d] 30)).1
      generalize w0.heap.size = g at *
      generalize plainF (.mk k s n l ks) = pl at *
      clear hRV hb0 ih hT hIH
      rcases hk with rfl | rfl
      all_goals
        go_enter Tryd.func23, Tryd.ntmps23
        go_wp2_with (go_at_call 37; refine (hc.out _ _ rfl ((Below.refl _ _).alloc (Nat.le_refl _) _) ho1).mono ?_; rintro e w9 ⟨v9, rfl, ho9, hf9⟩)
        go_ret2
        exact ⟨v9, by rw [List.length_append]; rfl, ho9, hf0.trans hf9⟩

/-- what Text tells: the error's number, the bytes -/
def textE (v : JV) : Int := if mayF v 8 = true then (if (plainF v).length ≤ 1048576 then 0 else 3) else 1
def textB (v : JV) : List UInt8 := if mayF v 8 = true ∧ (plainF v).length ≤ 1048576 then plainF v else []

set_option maxRecDepth 100000 in
set_option maxHeartbeats 1600000 in
theorem Text_any (v : JV) (cs : List Value) (w : World) (h : PV w v cs) (hs : smallV v 9223372036854775000) (hT : Tabs w) :
    Calls Tryd.prog 11 #[.agg cs.toArray] w fun e w' => ∃ vb, e = .returned (.tuple #[vb, .int .i64 (textE v)]) ∧ Own w' w.heap.size 5 vb (textB v) ∧ Below w.heap.size w w' := by
  obtain ⟨xk, xs, xn, xa, xl, xc, xb, xm, xd, rfl⟩ := pv_shape h
  have hMay : Hid (∀ W, Below w.heap.size w W → Calls Tryd.prog 15 #[.agg #[.int .i64 xk, .string xs, .int .u64 xn, .slice xa xl xc, .slice xb xm xd]] W fun e w' => e = .returned (.bool (mayF v 8)) ∧ Below W.heap.size W w') := fun W hW => May_any v _ W (pv_keep (CellsKept.of_below hW) _ _ h) hs (hT.to hW)
  have hPut : Hid (mayF v 8 = true → ∀ W, Below w.heap.size w W → Calls Tryd.prog 23 #[.slice none 0 0, .agg #[.int .i64 xk, .string xs, .int .u64 xn, .slice xa xl xc, .slice xb xm xd]] W (PutRes (plainF v) w.heap.size W)) := fun hm W hW => by
    have := put_all _ 8 v _ w W [] (.slice none 0 0) (Nat.le_refl _) hm (Nat.le_refl _) hs (pv_rv v _ h) hW (Own.nil _ _ _) (by simp) hT
    simpa using this
  have hA0 := Arr.new w 30 [.int .i64 xk, .string xs, .int .u64 xn, .slice xa xl xc, .slice xb xm xd]
  have hB0 : Below w.heap.size w (w.alloc (.cells [.int .i64 xk, .string xs, .int .u64 xn, .slice xa xl xc, .slice xb xm xd].toArray 30)) := (Below.refl _ _).alloc (Nat.le_refl _) _
  clear h hs hT
  cases hm : mayF v 8 with
  | false =>
    have e1 : textE v = 1 := by unfold textE; rw [hm]; rfl
    have e2 : textB v = [] := by unfold textB; rw [hm]; simp
    rw [hm] at hMay
    rw [e1, e2]
    clear hm e1 e2 hPut
    go_enter Tryd.func11, Tryd.ntmps11
    go_wp2_with (go_at_call 15; refine (hMay.out _ hB0).mono ?_; rintro e w2 ⟨rfl, hb2⟩)
    go_ret2
    exact ⟨.slice none 0 0, rfl, Own.nil _ _ _, hB0.trans (hb2.mono hB0.size)⟩
  | true =>
    have hput := hPut.out hm
    by_cases hl : (plainF v).length ≤ 1048576
    · have e1 : textE v = 0 := by unfold textE; rw [hm, if_pos rfl, if_pos hl]
      have e2 : textB v = plainF v := by unfold textB; rw [if_pos ⟨hm, hl⟩]
      have hp : Hid (∀ W, Below w.heap.size w W → Calls Tryd.prog 23 #[.slice none 0 0, .agg #[.int .i64 xk, .string xs, .int .u64 xn, .slice xa xl xc, .slice xb xm xd]] W _) := fun W hW => (hput W hW).mono (fun e w' h => h.ok hl)
      rw [hm] at hMay
      rw [e1, e2]
      clear hm e1 e2 hPut hput hl
      go_enter Tryd.func11, Tryd.ntmps11
      go_wp2_with (first
        | (go_at_call 15; refine (hMay.out _ hB0).mono ?_; rintro e w2 ⟨rfl, hb2⟩; have hB2 := hB0.trans (hb2.mono hB0.size); have hA2 := hA0.kept hb2; have c0 := hA2.cell 0; have c1 := hA2.cell 1; have c2 := hA2.cell 2; have c3 := hA2.cell 3; have c4 := hA2.cell 4; simp only [List.getElem?_cons_zero, List.getElem?_cons_succ] at c0 c1 c2 c3 c4)
        | (go_at_call 23; refine (hp.out _ hB2).mono ?_; rintro e w3 ⟨v3, rfl, ho3, hf3⟩))
      go_ret2
      exact ⟨v3, rfl, ho3, hB2.trans hf3.1⟩
    · have e1 : textE v = 3 := by unfold textE; rw [hm, if_pos rfl, if_neg hl]
      have e2 : textB v = [] := by unfold textB; rw [if_neg (fun h => hl h.2)]
      have hp : Hid (∀ W, Below w.heap.size w W → Calls Tryd.prog 23 #[.slice none 0 0, .agg #[.int .i64 xk, .string xs, .int .u64 xn, .slice xa xl xc, .slice xb xm xd]] W _) := fun W hW => (hput W hW).mono (fun e w' h => h.no hl)
      rw [hm] at hMay
      rw [e1, e2]
      clear hm e1 e2 hPut hput hl
      go_enter Tryd.func11, Tryd.ntmps11
      go_wp2_with (first
        | (go_at_call 15; refine (hMay.out _ hB0).mono ?_; rintro e w2 ⟨rfl, hb2⟩; have hB2 := hB0.trans (hb2.mono hB0.size); have hA2 := hA0.kept hb2; have c0 := hA2.cell 0; have c1 := hA2.cell 1; have c2 := hA2.cell 2; have c3 := hA2.cell 3; have c4 := hA2.cell 4; simp only [List.getElem?_cons_zero, List.getElem?_cons_succ] at c0 c1 c2 c3 c4)
        | (go_at_call 23; refine (hp.out _ hB2).mono ?_; rintro e w3 ⟨v3, rfl, hf3⟩))
      go_ret2
      exact ⟨.slice none 0 0, rfl, Own.nil _ _ _, hB2.trans hf3.1⟩
end Go.Proofs.YtiadfijeglbdlaaDoor
