/-
  The program's may, plain parts. Conditions: those in each statement.
-/
import Derived.Test.YtehlgflpkofooaaDoorJsonN
namespace Go.Proofs.YtehlgflpkofooaaDoor
open Go.RowKit

theorem Tabs.keep {w w' : World} (h : Tabs w) (hb : CellsKept w w') : Tabs w' := by
  refine ⟨⟨fun c hc => hb.cell (h.utf.1 c hc), fun i hi => ⟨hb.cell (h.utf.2 i hi).1, hb.cell (h.utf.2 i hi).2⟩⟩, ?_, ?_, ?_⟩
  · have hv := h.pow
    unfold Lib.TabIs World.var? at hv ⊢
    cases hg : Tryd.prog.globalNamed "internal/strconv.uint64pow10" with
    | none => rw [hg] at hv; cases hv
    | some g =>
      rw [hg] at hv
      simp only [Option.bind_some] at hv ⊢
      cases hh : w.heap[g]? with
      | none => rw [hh] at hv; cases hv
      | some o =>
        cases o with
        | cells cs T fr => rw [hb.cells _ _ _ _ hh]; rw [hh] at hv; exact hv
        | _ => rw [hh] at hv; cases hv
  · obtain ⟨te, pe, e⟩ := h.syn
    exact ⟨te, pe, hb.cell e⟩
  · obtain ⟨te, pe, e⟩ := h.rng
    exact ⟨te, pe, hb.cell e⟩

theorem gb {w w' : World} (hb : Below w.heap.size w w') (r : Option Nat) : w.grownBy w' r := ⟨hb.os, hb.tape, hb.output, hb.size, fun k hk _ => hb.block k hk⟩
theorem gb_set {w : World} (p : Addr) (v : Value) (w0 : World) (r : Option Nat) (h : w0.grownBy w r) (hp : w0.heap.size ≤ p.block) : w0.grownBy (w.setCell p v) r := by
  refine ⟨h.os, h.tape, h.output, ?_, fun k hk hr => ?_⟩
  · have := h.size; rw [World.size_setCell]; exact this
  · rw [Below.heap_setCell _ _ _ _ (by omega)]; exact h.block k hk hr

/-- how deep a key of met says that a list stands -/
def deepOf : Value → Int
  | .agg cs => (match cs[2]? with | some (Value.int _ d) => d | _ => 0)
  | _ => 0
/-- nothing is wrong with what met has below that depth -/
def GoodM (w : World) (d0 : Nat) (ps : List (Value × Value)) : Prop :=
  ∀ q ∈ ps, q.2 = .agg #[] ∧ ∀ b off (n d : Int), q.1 = .agg #[.pointer (some ⟨b, off, none⟩), .int .i64 n, .int .i64 d] → (d0 : Int) < d → ∃ l, PL w l b off ∧ (l.length : Int) = n ∧ mayL l (8 - d.toNat) = true
theorem GoodM.keep {w w' : World} {d0 : Nat} {ps : List (Value × Value)} (h : GoodM w d0 ps) (hb : CellsKept w w') : GoodM w' d0 ps := fun q hq => ⟨(h q hq).1, fun b off n d e hd => by
  obtain ⟨l, h1, h2, h3⟩ := (h q hq).2 b off n d e hd
  exact ⟨l, pl_keep hb l b off h1, h2, h3⟩⟩
theorem GoodM.mono {w : World} {d0 d1 : Nat} {ps : List (Value × Value)} (h : GoodM w d0 ps) (hd : d0 ≤ d1) : GoodM w d1 ps := fun q hq => ⟨(h q hq).1, fun b off n d e hlt => (h q hq).2 b off n d e (by omega)⟩

def MayPost (w : World) (B around : Nat) (ps : List (Value × Value)) (R : Bool) (e : Ending) (w' : World) : Prop :=
  e = .returned (.bool R) ∧ w.grownBy w' (some B) ∧ (R = true → ∃ ps', MapR GDeep w' B ps' ∧ GoodM w' around ps' ∧ ∀ q ∈ ps', q ∈ ps ∨ (around : Int) < deepOf q.1)
theorem post_same {w w' : World} {B around : Nat} {ps : List (Value × Value)} {R : Bool} {e : Ending} (he : e = .returned (.bool R)) (hM : MapR GDeep w B ps) (hG : GoodM w around ps) (hb : Below w.heap.size w w') : MayPost w B around ps R e w' :=
  ⟨he, gb hb _, fun _ => ⟨ps, hM.below deep_ok hb, hG.keep (CellsKept.of_below hb), fun _ hq => .inl hq⟩⟩

/-- what may of a value, as the program asks it -/
theorem may_split (k : Int) (s : List UInt8) (n : Nat) (l : List JV) (ks : List (List UInt8)) (most : Nat) :
    mayF (.mk k s n l ks) most = (fitsB k n s.length l.length ks.length && utf8F s && ((!(decide (k = 5) || decide (k = 6))) || (decide (0 < most) && ((!decide (k = 6)) || (decide (ks.length = l.length) && ks.all utf8F && apartF ks)) && mayL l (most - 1)))) := by
  have hfb : fitsB k n s.length l.length ks.length = true ↔ ¬ bad1 k s n l ks := by
    unfold fitsB bad1
    simp only [Bool.and_eq_true, Bool.or_eq_true, decide_eq_true_eq]
    omega
  unfold mayF
  apply Bool.eq_iff_iff.2
  rw [Bool.and_eq_true, head_split, ← hfb]
  cases hf : fitsB k n s.length l.length ks.length with
  | false => simp
  | true =>
    have hb := hfb.1 hf
    unfold bad1 at hb
    unfold bad2
    cases hu : utf8F s with
    | false => simp
    | true =>
      by_cases h56 : k = 5 ∨ k = 6
      · rcases h56 with rfl | rfl
        · have h0 : ks = [] := List.eq_nil_of_length_eq_zero (by omega)
          subst h0
          simp [apartF]
          intro _
          omega
        · simp only [decide_true, Bool.not_true, Bool.false_or, Bool.or_true, Bool.true_and, Bool.and_eq_true, decide_eq_true_eq, true_and]
          constructor
          · rintro ⟨⟨h1, h2, h3⟩, h4⟩
            exact ⟨⟨by omega, ⟨by omega, h2⟩, h3⟩, h4⟩
          · rintro ⟨⟨h1, ⟨h2, h3⟩, h4⟩, h5⟩
            exact ⟨⟨by simp; omega, h3, h4⟩, h5⟩
      · have h0 : ks = [] := List.eq_nil_of_length_eq_zero (by omega)
        have h1 : l = [] := List.eq_nil_of_length_eq_zero (by omega)
        subst h0
        subst h1
        have h5 : k ≠ 5 := fun h => h56 (.inl h)
        have h6 : k ≠ 6 := fun h => h56 (.inr h)
        simp [h5, h6, apartF, mayL]
        omega
end Go.Proofs.YtehlgflpkofooaaDoor
