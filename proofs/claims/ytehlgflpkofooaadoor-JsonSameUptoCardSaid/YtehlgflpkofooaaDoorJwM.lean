/-
  JsonSame holds, wherever what came in is of bulk 1048576 at most: true; the arguments read as they did. Conditions: those in each statement.
-/
import Derived.Test.YtehlgflpkofooaaDoorJwL
import Derived.Test.YtehlgflpkofooaaDoorJxC
namespace Go.Proofs.YtehlgflpkofooaaDoor
open Go.ChangeShapes Go.WideShapes Go.ChangeAt Go.RowKit
set_option maxRecDepth 100000

/-- the value that came in -/
theorem rv_of_any {H : Type} {enc : TypeId × Value → H} {W : World} {sp : Nat → Bool} {fuel : Nat} {cs : List Value} {y : DataW H × List MemPlace} (h : DataW.trod enc Tryd.prog W 0 sp true fuel 26 cs = some y) : ∃ v, RV W v cs ∧ totV v ≤ Rows.uptoBulk y.1 :=
  rv_of_trod_b Tryd.underlying26 rfl rfl rfl rfl rfl (by kernel_rfl) (by kernel_rfl) Tryd.underlying3 Tryd.underlying9 Tryd.underlying22 Tryd.underlying23 Tryd.underlying24 (by kernel_rfl) _ fuel cs y (Nat.le_refl _) h
theorem value_of_trod {H : Type} {enc : TypeId × Value → H} {W : World} {v : Value} {d : DataW H} {p : List MemPlace} {b0 : Nat} {sp : Nat → Bool} (hval : Value.okWide Tryd.prog W .any b0 26 v) (h0 : DataW.Trod enc Tryd.prog W 0 sp true 26 v d p) :
    ∃ cs x, v = .agg (List.toArray cs) ∧ RV W x cs ∧ totV x ≤ Rows.uptoBulk d := by
  obtain ⟨⟨cs⟩, rfl, -⟩ := okWide_struct Tryd.underlying26 hval
  obtain ⟨fuel, hf⟩ := h0
  obtain ⟨x, h1, h2⟩ := rv_of_any (y := (d, p)) hf
  exact ⟨_, x, rfl, h1, h2⟩

theorem jsonSame_contract (H : Type) (enc : TypeId × Value → H) (W : World) (base : Nat) (args : Array Value) (ds gs : List (DataW H)) (before : List MemPlace)
    (hval : ∀ (j : Nat) t v, Tryd.f5.params[j]? = some t → args[j]? = some v → Value.okWide Tryd.prog W .any base t v)
    (hW : DataW.Whole enc Tryd.prog Tryd.f5.params.toList Rows.jsonSameSpec.vars false W args.toList ds gs before) (hk : Rows.uptoSmall H (ds ++ gs) = true) (hT : Tabs W) :
    Calls Tryd.prog 5 args W fun e W' => ∃ v, e = .returned v ∧ Rows.jsonSameSpec.post enc Tryd.prog Tryd.f5 false true false false W args v W' := by
  have hW' := hW
  obtain ⟨p, q, hA0, hV, rfl, _, _⟩ := hW
  have hA : DataW.TrodAll enc Tryd.prog W 0 (fun _ => true) true Tryd.f5.params.toList args.toList ds p := hA0
  have hval' := hval
  rw [Tryd.params5] at hA hval'
  obtain ⟨v0, v1, d0, d1, p0, p1, hargs, rfl, rfl, h0, h1⟩ := trodAll_two hA
  obtain rfl : args = #[v0, v1] := by cases args; simp_all
  obtain ⟨rfl, rfl⟩ := trodVars_none hV
  have hb := bulk_bound hk
  simp only [Rows.uptoBulkAll, List.append_nil] at hb
  obtain ⟨c0, x0, rfl, hx0, hb0⟩ := value_of_trod (hval' 0 26 v0 rfl rfl) h0
  obtain ⟨c1, x1, rfl, hx1, hb1⟩ := value_of_trod (hval' 1 26 v1 rfl rfl) h1
  refine (JsonSame_any x0 x1 c0 c1 W hx0 hx1 (by omega) (by omega) hT).mono fun e W' ⟨he, hw⟩ => ?_
  subst he
  exact ⟨_, rfl, law_post laidOuts (by kernel_rfl) rfl Tryd.underlying4 rfl hW' hw rfl⟩

set_option maxRecDepth 100000 in
theorem jsonSame_lifted (os : Os) (started : os.Started) (H : Type) (enc : TypeId × Value → H) (F : Stop.Interp) :
    ReturnsInHanded {} Tryd.checked os 5 .any ((Rows.OpenSpec.upto Rows.jsonSameSpec).preRow enc Tryd.prog Tryd.f5 Rows.jsonSameUptoRow.domain false Rows.jsonSameUptoRow.laid) (((Rows.OpenSpec.upto Rows.jsonSameSpec).at F).post enc Tryd.prog Tryd.f5 false true false false) := by
  refine returnsInHanded_of_row (C := Tryd.checked) (s := Rows.OpenSpec.upto Rows.jsonSameSpec) ownKnobs started (by kernel_rfl) Tryd.func5
    (witness_laid (enc := enc) (os := os) false #[Value.agg #[.int .i64 0, .string ⟨#[]⟩, .int .u64 0, .slice none 0 0, .slice none 0 0], Value.agg #[.int .i64 0, .string ⟨#[]⟩, .int .u64 0, .slice none 0 0, .slice none 0 0]] (by kernel_rfl)
      (OpenSpec.preRow_of_cond 8 (x := ([.agg [.lit (.int .i64 0), .lit (.string []), .lit (.int .u64 0), .nil, .nil], .agg [.lit (.int .i64 0), .lit (.string []), .lit (.int .u64 0), .nil, .nil]], [], [])) (by kernel_rfl) (by kernel_rfl) (fun k hk => by cases hk; kernel_rfl) (by kernel_rfl) (laid_any os #[Value.agg #[.int .i64 0, .string ⟨#[]⟩, .int .u64 0, .slice none 0 0, .slice none 0 0], Value.agg #[.int .i64 0, .string ⟨#[]⟩, .int .u64 0, .slice none 0 0, .slice none 0 0]]))) ?_
  intro W base args ds gs before hval hW _ hk _ hL _ _
  exact jsonSame_contract H enc W base args ds gs before hval hW (hk _ rfl) (tabs_of_laid hL)

theorem jsonSame_said : Rows.JsonSameUptoSaid :=
  OpenClaim.holds_of_cond 5 Tryd.f5 rfl rfl rfl rfl rfl rfl rfl ⟨rfl, rfl, rfl, rfl, rfl⟩ rfl rfl rfl rfl rfl (by kernel_rfl) Tryd.func5 (by kernel_rfl)
    (of_decide_eq_true (by kernel_rfl)) (by unfold Func.isWrapper; first | (rw [if_pos (by decide +kernel)]; kernel_rfl) | (rw [if_neg (by decide +kernel)]; exact ⟨rfl, rfl⟩))
    (fun os started H enc _ F => by rw [OpenClaim.pre_eq_preRow]; exact jsonSame_lifted os started H enc F)

theorem jsonSame_plain (f : FuncId) (fn : Func) (hf : Tryd.pinned.checked.prog.funcNamed "escritoire/escritoirelaw04.JsonSame" = some f) (hfn : Tryd.pinned.checked.prog.funcs[f]? = some fn) :
    true = Tryd.pinned.checked.prog.looks [] ∧ ∀ (j : Nat) t, fn.params[j]? = some t → Tryd.pinned.checked.prog.wantsStandIn t = false := by
  obtain rfl : f = 5 := Option.some.inj ((show Tryd.prog.funcNamed "escritoire/escritoirelaw04.JsonSame" = some 5 by kernel_rfl).symm.trans hf) |>.symm
  obtain rfl : fn = Tryd.f5 := (Option.some.inj (Tryd.func5.symm.trans hfn)).symm
  refine ⟨by kernel_rfl, fun j t ht => ?_⟩
  have hm : t ∈ Tryd.f5.params.toList := by simpa using Array.mem_of_getElem? ht
  have hall : (Tryd.f5.params.toList.all fun u => !Tryd.prog.wantsStandIn u) = true := by kernel_rfl
  exact (show Tryd.prog.wantsStandIn t = false by simpa using List.all_eq_true.1 hall t hm)

theorem jsonSame_proved : Rows.JsonSameUptoCardSaid :=
  Claim7.holds_tied_plain_at .later [] _ _ _ _ jsonSame_said (fun _ h => by cases h) (by kernel_rfl) (fun _ h => by cases h) jsonSameUpto_row_tie rfl ⟨rfl, rfl⟩ (by kernel_rfl) rfl jsonSame_plain (by kernel_rfl)
end Go.Proofs.YtehlgflpkofooaaDoor
