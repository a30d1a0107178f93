/-
  Operations and regions within a round of a loop over a function: what is known of them at a function's own level serves there, too. Conditions: those in each statement.
-/
import Derived.RangeFuncNested
import Derived.RangeFuncBound
import Derived.RangeFuncCalls
import Derived.RangeFuncLeaves
import Derived.Shelf.Abstract
import Derived.Shelf.RegionOpen
import Derived.WalkKit
import Derived.OwnWalkIn
import Derived.TacticsInMore
import Derived.LoopNIn
import Derived.LoopIn
import Derived.Test.YtfidajbenmgflaaDoorReg
namespace Go.Proofs.YtfidajbenmgflaaDoor
open Go.RowKit

/-- the widest fence, in a round or not -/
def WideF (F : Fence) : Prop := F = Fence.wide ∨ ∃ l, F = Fence.wide.inRound l
theorem WideF.wide : WideF Fence.wide := .inl rfl
theorem WideF.round (l : Nat) : WideF (Fence.wide.inRound l) := .inr ⟨l, rfl⟩
def notDefer (o : Oper) : Bool := match o.op with
  | .defer _ => false
  | _ => true
theorem notDefer_at {o : Oper} (h : notDefer o = true) : ∀ c, o.op ≠ .defer c := by
  intro c e
  unfold notDefer at h
  rw [e] at h
  cases h
theorem rows_wide {n : Nat} {P : Program} {row : String} {args : Array Value} {w : World} {R : Value → World → Prop} (h : Rows P row args w R) : RowsIn Fence.wide n P row args w R := by
  intro c cs _
  obtain ⟨v, w', r, s⟩ := h c cs
  exact ⟨v, w', r, stepsIn_wide.2 s⟩
section
variable {F : Fence} {n : Nat} {P : Program} {ops : Array Oper} {Q : Exit → Act → World → Prop} {a : Act} {w : World} {rest : List Oper} {o : Oper} {K : Act → World → Prop}
theorem opIn_of (hF : WideF F) (hd : notDefer o = true) (h : o.wp P a w K Q) : o.wpIn F n P a w K Q := by
  have hf : ∀ f, F.fn f := by rcases hF with rfl | ⟨l, rfl⟩ <;> exact fun _ => trivial
  have hz : ¬ (F.depth.isSome = true) := by rcases hF with rfl | ⟨l, rfl⟩ <;> exact fun e => by cases e
  refine ⟨fun f _ => hf f, ?_⟩
  rw [Oper.semAt_plain F _ _ (notDefer_at hd)]
  unfold Oper.wp at h
  generalize (execOp a.eval o).run P w = r at *
  cases r with
  | ok x w' =>
    cases x with
    | value v => exact h
    | skip => exact h
    | defer d => exact h
    | enter f args =>
      refine ⟨fun e => absurd e hz, ?_⟩
      have h2 := (callsIn_wide (n := n - 1)).2 h
      rcases hF with rfl | ⟨l, rfl⟩
      · exact h2
      · exact h2.inRound l
    | row rw args =>
      refine ⟨fun e => absurd e hz, ?_⟩
      have h2 := rows_wide (n := n - 1) h
      rcases hF with rfl | ⟨l, rfl⟩
      · exact h2
      · exact h2
    | _ => exact h.elim
  | halt x w' =>
    cases x with
    | panic v => exact h
    | _ => exact h.elim
/-- one operation, by what is known of it at a function's own level -/
theorem wlIn_op (hF : WideF F) (hg : o.guard = none) (hd : notDefer o = true) (h : ∀ K : Act → World → Prop, (∀ a w, wpListIn F n P ops Q rest a w → K a w) → o.wp P a w K Q) : wpListIn F n P ops Q (o :: rest) a w := by
  unfold wpListIn
  rw [if_pos (by simp [Region.wanted, hg])]
  exact opIn_of hF hd (h _ fun _ _ h => h)
theorem about_wide (hF : WideF F) (f : FuncId) : F.fn f := by rcases hF with rfl | ⟨l, rfl⟩ <;> exact trivial
theorem wlIn_of (hF : WideF F) (hout : ¬ LetsOut Q) : ∀ (l : List Oper) (a : Act) (w : World), l.all notDefer = true → wpList P ops Q l a w → wpListIn F n P ops Q l a w := by
  intro l
  induction l with
  | nil => intro a w _ h; exact h
  | cons o rest ih =>
    intro a w hd h
    simp only [List.all_cons, Bool.and_eq_true] at hd
    unfold wpList at h
    unfold wpListIn
    split
    · rename_i hw
      rw [if_pos hw] at h
      rcases h with h | ⟨-, h⟩
      · exact opIn_of hF hd.1 (Oper.wp_mono (fun a w h => ih a w hd.2 h) h)
      · exact absurd h hout
    · rename_i hw
      rw [if_neg hw] at h
      exact ⟨fun f _ => about_wide hF f, ih _ _ hd.2 h⟩
/-- a region in its order -/
theorem regionIn_list (hF : WideF F) (hout : ¬ LetsOut Q) {id : Nat} {l : List Oper} (hd : l.all notDefer = true) (h : wpList P l.toArray Q l a w) : (Code.region id l.toArray false).wpIn F n P Q a w :=
  wpIn_region_lit (wlIn_of hF hout l a w hd h)
/-- a region that draws its order -/
theorem anyIn_of (hF : WideF F) (hout : ¬ LetsOut Q) (hd : ops.toList.all notDefer = true) : ∀ (fuel : Nat) (listed : Array Bool) (a : Act) (w : World), wpAny P .any ops Q fuel listed a w → wpAnyIn F n P .any ops Q fuel listed a w := by
  intro fuel
  induction fuel with
  | zero => intro listed a w h; exact h
  | succ fuel ih =>
    intro listed a w h
    refine ⟨h.1, fun i hi => ?_⟩
    have h2 := h.2 i hi
    unfold wpOp at h2
    unfold wpOpIn
    cases ho : ops[i]? with
    | none => rw [ho] at h2; exact ih _ _ _ h2
    | some o =>
      rw [ho] at h2
      have hdo : notDefer o = true := by
        refine List.all_eq_true.1 hd o ?_
        obtain ⟨hlt, e⟩ := Array.getElem?_eq_some_iff.1 ho
        rw [← e]
        exact Array.getElem_mem_toList hlt
      simp only at h2 ⊢
      split
      · rename_i hw
        rw [if_pos hw] at h2
        rcases h2 with h2 | ⟨-, h2⟩
        · exact opIn_of hF hdo (Oper.wp_mono (fun a w h => ih _ a w h) h2)
        · exact absurd h2 hout
      · rename_i hw
        rw [if_neg hw] at h2
        exact ⟨fun f _ => about_wide hF f, ih _ _ _ h2⟩
theorem wpIn_region_steps (hF : WideF F) (hout : ¬ LetsOut Q) {id : Nat} (D : List (List Nat)) (hm : P.follows .mixedOrders = true) (hD : depsB ops D = true) (hd : ops.toList.all notDefer = true) (I : (Nat → Bool) → Act → World → Prop)
    (h0 : I (doneL D.length) a w.drew) (hstep : Steps P ops Q D I 0 ops.toList) (hend : ∀ a w, I (fun _ => true) a w → Q .normal a w) : (Code.region id ops true).wpIn F n P Q a w := by
  have hDl : D.length = ops.size := by
    unfold depsB at hD
    rw [Bool.and_eq_true] at hD
    exact of_decide_eq_true hD.1
  refine wpIn_region_any hm (anyIn_of hF hout hd _ _ a _ (wpAny_inv hD I (fun i _ L a w hI hL hd hcl K hK o ho => by
    have := steps_at ops.toList 0 hstep i o (by simpa using ho)
    rw [Nat.zero_add] at this
    exact this L a w hI hL hd hcl K hK) hend _ _ a _ (by simp) (fun k hk hkl => by rw [hDl] at hk; simp [Array.getD, hk] at hkl) (by simp) ?_))
  have e : (fun j => (Array.replicate ops.size false).getD j true) = doneL D.length := by
    funext j
    simp only [Array.getD, doneL, hDl]
    by_cases h : j < ops.size <;> simp [h]; omega
  rw [e]
  exact h0
end
end Go.Proofs.YtfidajbenmgflaaDoor
