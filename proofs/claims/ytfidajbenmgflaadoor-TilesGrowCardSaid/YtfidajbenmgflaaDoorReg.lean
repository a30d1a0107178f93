/-
  A region that draws its order, by an invariant over what has been done: one goal an operation, whatever orders there are. Conditions: those in the statement.
-/
import Derived.Test.YtfidajbenmgflaaDoorArr
import Derived.Orders
import Derived.RegionTactic
namespace Go.Proofs.YtfidajbenmgflaaDoor
open Go.RowKit

def depsB (ops : Array Oper) (D : List (List Nat)) : Bool :=
  decide (D.length = ops.size) && (List.range ops.size).all fun i => match ops[i]? with
    | none => false
    | some o => (D.getD i []).all (fun j => o.after.any fun e => Region.binds .any e && e.on == j) && o.after.all (fun e => !Region.binds .any e || decide (e.on < i))

def doneL (n : Nat) : Nat → Bool := fun j => decide (n ≤ j)
def stepL (L : Nat → Bool) (i : Nat) : Nat → Bool := fun j => if j = i then true else L j

section
variable {P : Program} {ops : Array Oper} {Q : Exit → Act → World → Prop}

theorem depsB_at {D : List (List Nat)} (hD : depsB ops D = true) {i : Nat} {o : Oper} (ho : ops[i]? = some o) :
    i < D.length ∧ (∀ j ∈ D.getD i [], ∃ e ∈ o.after, Region.binds .any e = true ∧ e.on = j) ∧ (∀ e ∈ o.after, Region.binds .any e = true → e.on < i) := by
  unfold depsB at hD
  rw [Bool.and_eq_true] at hD
  obtain ⟨h1, h2⟩ := hD
  have hi : i < ops.size := (Array.getElem?_eq_some_iff.1 ho).1
  have h3 := List.all_eq_true.1 h2 i (by simpa using hi)
  rw [ho] at h3
  simp only [Bool.and_eq_true] at h3
  obtain ⟨h4, h5⟩ := h3
  refine ⟨by have := of_decide_eq_true h1; omega, fun j hj => ?_, fun e he hb => ?_⟩
  · have := List.all_eq_true.1 h4 j hj
    obtain ⟨e, he, hx⟩ := Array.any_eq_true'.1 this
    simp only [Bool.and_eq_true, beq_iff_eq] at hx
    exact ⟨e, he, hx.1, hx.2⟩
  · have := (Array.all_eq_true_iff_forall_mem.1 h5) e he
    simpa [hb] using this

theorem all_listed {D : List (List Nat)} (hD : depsB ops D = true) {listed : Array Bool} (hs : listed.size = ops.size) (hr : Region.ready .any ops listed = []) : ∀ i, listed.getD i true = true := by
  intro i
  induction i using Nat.strongRecOn with
  | _ i ih =>
    cases h : listed.getD i true with
    | true => rfl
    | false =>
      have hi : i < ops.size := by
        rw [← hs]
        rcases Nat.lt_or_ge i listed.size with h' | h'
        · exact h'
        · simp [Array.getD, Nat.not_lt.2 h'] at h
      have ho : ops[i]? = some ops[i] := Array.getElem?_eq_getElem hi
      have : i ∈ Region.ready .any ops listed := mem_ready.2 ⟨h, _, ho, fun e he hb => by
        have hlt := (depsB_at hD ho).2.2 e he hb
        have := ih e.on hlt
        have h2 : e.on < listed.size := by omega
        simpa [Array.getD, h2] using this⟩
      rw [hr] at this
      cases this

theorem wpAny_inv {D : List (List Nat)} (hD : depsB ops D = true) (I : (Nat → Bool) → Act → World → Prop)
    (hstep : ∀ i, i < D.length → ∀ (L : Nat → Bool) (a : Act) (w : World), I L a w → L i = false → (∀ j ∈ D.getD i [], L j = true) → (∀ k, k < D.length → L k = true → ∀ j ∈ D.getD k [], L j = true) → ∀ K : Act → World → Prop, (∀ a' w', I (stepL L i) a' w' → K a' w') →
      ∀ o, ops[i]? = some o → if Region.wanted o (yielded ops a.tmps) = true then Oper.wp P o a w K Q else K (a.put o.dst undef) w)
    (hend : ∀ a w, I (fun _ => true) a w → Q .normal a w) :
    ∀ (fuel : Nat) (listed : Array Bool) (a : Act) (w : World), listed.size = ops.size → (∀ k, k < D.length → listed.getD k true = true → ∀ j ∈ D.getD k [], listed.getD j true = true) → listed.toList.count false ≤ fuel → I (fun j => listed.getD j true) a w → wpAny P .any ops Q fuel listed a w := by
  have fin : ∀ (listed : Array Bool) (a : Act) (w : World), listed.size = ops.size → Region.ready .any ops listed = [] → I (fun j => listed.getD j true) a w → Q .normal a w := by
    intro listed a w hs hr hI
    have := all_listed hD hs hr
    refine hend a w ?_
    have e : (fun j => listed.getD j true) = fun _ => true := funext this
    rw [e] at hI
    exact hI
  intro fuel
  induction fuel with
  | zero =>
    intro listed a w hs hcl hc hI
    have hr : Region.ready .any ops listed = [] := by
      cases h : Region.ready .any ops listed with
      | nil => rfl
      | cons i r =>
        have hi : i ∈ Region.ready .any ops listed := by rw [h]; exact List.mem_cons_self ..
        obtain ⟨h1, -⟩ := mem_ready.1 hi
        have hlt : i < listed.size := by
          rcases Nat.lt_or_ge i listed.size with h' | h'
          · exact h'
          · simp [Array.getD, Nat.not_lt.2 h'] at h1
        have : false ∈ listed.toList := by
          simp [Array.getD, hlt] at h1
          rw [← h1]
          exact Array.getElem_mem_toList hlt
        have := List.count_pos_iff.2 this
        omega
    exact ⟨hr, fin listed a w hs hr hI⟩
  | succ fuel ih =>
    intro listed a w hs hcl hc hI
    refine ⟨fun hr => fin listed a w hs hr hI, fun i hi => ?_⟩
    obtain ⟨h1, o, ho, hdep⟩ := mem_ready.1 hi
    have hlt : i < listed.size := by
      rcases Nat.lt_or_ge i listed.size with h' | h'
      · exact h'
      · simp [Array.getD, Nat.not_lt.2 h'] at h1
    obtain ⟨d1, d2, d3⟩ := depsB_at hD ho
    refine wpOp_step ho fun K hK => ?_
    have hdeps : ∀ j ∈ D.getD i [], listed.getD j true = true := by
      intro j hj
      obtain ⟨e, he, hb, rfl⟩ := d2 j hj
      have := hdep e he hb
      have h3 := d3 e he hb
      have h2 : e.on < listed.size := by omega
      simpa [Array.getD, h2] using this
    have enext : (fun j => (listed.setIfInBounds i true).getD j true) = stepL (fun j => listed.getD j true) i := by
      funext j
      unfold stepL
      by_cases hj : j = i
      · subst hj; simp [Array.getD, hlt]
      · rw [if_neg hj]
        simp only [Array.getD, Array.size_setIfInBounds]
        split
        · exact Array.getElem_setIfInBounds_ne (by assumption) (Ne.symm hj)
        · rfl
    have hup : ∀ j, listed.getD j true = true → (listed.setIfInBounds i true).getD j true = true := by
      intro j hj
      have : (listed.setIfInBounds i true).getD j true = stepL (fun j => listed.getD j true) i j := congrFun enext j
      rw [this]
      unfold stepL
      split
      · rfl
      · exact hj
    refine hstep i d1 _ a w hI h1 hdeps hcl K (fun a' w' hI' => hK a' w' (ih _ a' w' (by simpa using hs) ?_ ?_ ?_)) o ho
    · intro k hk hkl j hj
      by_cases hki : k = i
      · subst hki; exact hup j (hdeps j hj)
      · have h4 : (listed.setIfInBounds i true).getD k true = stepL (fun j => listed.getD j true) i k := congrFun enext k
        rw [h4] at hkl
        unfold stepL at hkl
        rw [if_neg hki] at hkl
        exact hup j (hcl k hk hkl j hj)
    · have hb : listed.toList[i]'(by simpa using hlt) = false := by simpa [Array.getD, hlt] using h1
      have : (listed.setIfInBounds i true).toList = listed.toList.set i true := by simp
      rw [this, List.count_set (by simpa using hlt), hb]
      rw [if_pos (by simp), if_neg (by simp)]
      omega
    · rw [enext]
      exact hI'

/-- a region that draws its order, by an invariant -/
theorem wp_region_inv {id : Nat} {a : Act} {w : World} (D : List (List Nat)) (hm : P.follows .mixedOrders = true) (hD : depsB ops D = true) (I : (Nat → Bool) → Act → World → Prop)
    (h0 : I (doneL D.length) a w.drew)
    (hstep : ∀ i, i < D.length → ∀ (L : Nat → Bool) (a : Act) (w : World), I L a w → L i = false → (∀ j ∈ D.getD i [], L j = true) → (∀ k, k < D.length → L k = true → ∀ j ∈ D.getD k [], L j = true) → ∀ K : Act → World → Prop, (∀ a' w', I (stepL L i) a' w' → K a' w') →
      ∀ o, ops[i]? = some o → if Region.wanted o (yielded ops a.tmps) = true then Oper.wp P o a w K Q else K (a.put o.dst undef) w)
    (hend : ∀ a w, I (fun _ => true) a w → Q .normal a w) : (Code.region id ops true).wp P Q a w := by
  have hDl : D.length = ops.size := by
    unfold depsB at hD
    rw [Bool.and_eq_true] at hD
    exact of_decide_eq_true hD.1
  refine wp_region_any hm (wpAny_inv hD I hstep hend _ _ a _ (by simp) (fun k hk hkl => by rw [hDl] at hk; simp [Array.getD, hk] at hkl) (by simp) ?_)
  have e : (fun j => (Array.replicate ops.size false).getD j true) = doneL D.length := by
    funext j
    simp only [Array.getD, doneL, hDl]
    by_cases h : j < ops.size <;> simp [h]; omega
  rw [e]
  exact h0
/-- one goal an operation -/
def Steps (P : Program) (ops : Array Oper) (Q : Exit → Act → World → Prop) (D : List (List Nat)) (I : (Nat → Bool) → Act → World → Prop) : Nat → List Oper → Prop
  | _, [] => True
  | i, o :: r => (∀ (L : Nat → Bool) (a : Act) (w : World), I L a w → L i = false → (∀ j ∈ D.getD i [], L j = true) → (∀ k, k < D.length → L k = true → ∀ j ∈ D.getD k [], L j = true) → ∀ K : Act → World → Prop, (∀ a' w', I (stepL L i) a' w' → K a' w') →
      match o.guard with
      | none => Oper.wp P o a w K Q
      | some _ => if Region.wanted o (yielded ops a.tmps) = true then Oper.wp P o a w K Q else K (a.put o.dst undef) w) ∧ Steps P ops Q D I (i + 1) r

theorem steps_at {D : List (List Nat)} {I : (Nat → Bool) → Act → World → Prop} : ∀ (l : List Oper) (i : Nat), Steps P ops Q D I i l → ∀ k o, l[k]? = some o →
    ∀ (L : Nat → Bool) (a : Act) (w : World), I L a w → L (i + k) = false → (∀ j ∈ D.getD (i + k) [], L j = true) → (∀ k, k < D.length → L k = true → ∀ j ∈ D.getD k [], L j = true) → ∀ K : Act → World → Prop, (∀ a' w', I (stepL L (i + k)) a' w' → K a' w') →
      if Region.wanted o (yielded ops a.tmps) = true then Oper.wp P o a w K Q else K (a.put o.dst undef) w
  | [], _, _, _, _, hk => by simp at hk
  | o :: r, i, ⟨h1, h2⟩, 0, o', hk => by
    intro L a w hI hL hd hcl K hK
    have e : o = o' := by simpa using hk
    subst e
    have := h1 L a w hI hL hd hcl K hK
    cases hg : o.guard with
    | none =>
      rw [hg] at this
      rw [if_pos (by simp [Region.wanted, hg])]
      exact this
    | some g => rw [hg] at this; exact this
  | o :: r, i, ⟨h1, h2⟩, k + 1, o', hk => by
    have := steps_at r (i + 1) h2 k o' (by simpa using hk)
    rw [show i + 1 + k = i + (k + 1) by omega] at this
    exact this

theorem wp_region_steps {id : Nat} {a : Act} {w : World} (D : List (List Nat)) (hm : P.follows .mixedOrders = true) (hD : depsB ops D = true) (I : (Nat → Bool) → Act → World → Prop)
    (h0 : I (doneL D.length) a w.drew) (hstep : Steps P ops Q D I 0 ops.toList) (hend : ∀ a w, I (fun _ => true) a w → Q .normal a w) : (Code.region id ops true).wp P Q a w :=
  wp_region_inv D hm hD I h0 (fun i _ L a w hI hL hd hcl K hK o ho => by
    have := steps_at ops.toList 0 hstep i o (by simpa using ho)
    rw [Nat.zero_add] at this
    exact this L a w hI hL hd hcl K hK) hend
end

end Go.Proofs.YtfidajbenmgflaaDoor
