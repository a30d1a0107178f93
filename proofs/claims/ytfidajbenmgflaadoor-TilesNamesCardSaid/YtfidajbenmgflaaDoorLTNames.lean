/-
  TilesNames holds: the name of any tile, the tile of any name; how many hashes any size has.
-/
import Derived.Test.YtfidajbenmgflaaDoorTkN
import Derived.Test.YtfidajbenmgflaaDoorTiT
import Derived.Test.YtfidajbenmgflaaDoorMgT
namespace Go.Proofs.YtfidajbenmgflaaDoor
open Go.ChangeShapes Go.WideShapes Go.ChangeAt Go.RowKit
set_option maxRecDepth 100000

theorem tilesNames_contract (H : Type) (enc : TypeId × Value → H) (W : World) (base : Nat) (args : Array Value) (ds gs : List (DataW H)) (before : List MemPlace)
    (hval : ∀ (j : Nat) t v, Tryd.f3.params[j]? = some t → args[j]? = some v → Value.okWide Tryd.prog W .any base t v)
    (hZ : (DataW.weightsEach Tryd.prog (Tryd.f3.params.toList ++ (OpenSpec.ofChange Rows.tilesNamesSpec).bare.plain.varTypes Tryd.prog) (ds ++ gs)).all (· ≤ reachBytes) = true)
    (hW : DataW.Whole enc Tryd.prog Tryd.f3.params.toList Rows.tilesNamesSpec.vars false W args.toList ds gs before) (hT : Tabs W) :
    Calls Tryd.prog 3 args W fun e W' => ∃ v, e = .returned v ∧ Rows.tilesNamesSpec.post enc Tryd.prog Tryd.f3 false true false false W args v W' := by
  have hW' := hW
  obtain ⟨p, q, hA0, hV, rfl, _, _⟩ := hW
  have hA : DataW.TrodAll enc Tryd.prog W 0 (fun _ => true) true Tryd.f3.params.toList args.toList ds p := hA0
  have hval' := hval
  rw [Tryd.params3] at hA hval'
  obtain ⟨v0, v1, v2, v3, v4, d0, d1, d2, d3, d4, p0, p1, p2, p3, p4, rfl, rfl, h0, h1, h2, h3, h4⟩ := trodAll_five hA
  obtain ⟨rfl, rfl⟩ := trodVars_none hV
  obtain ⟨n0, rfl, rfl, -, w0⟩ := open_int Tryd.underlying3 (hval' 0 3 v0 rfl rfl) h0
  have b0 := wf_i64 w0
  obtain ⟨_, rfl, rfl, -, w1⟩ := open_int Tryd.underlying22 (hval' 1 22 v1 rfl rfl) h1
  obtain ⟨n1, rfl, b1⟩ := wf_u64 w1
  obtain ⟨n2, rfl, rfl, -, w2⟩ := open_int Tryd.underlying3 (hval' 2 3 v2 rfl rfl) h2
  have b2 := wf_i64 w2
  obtain ⟨s3, rfl, rfl, -, -⟩ := Go.ChangeMaps.open_string Tryd.underlying9 (hval' 3 9 v3 rfl rfl) h3
  have b3 : s3.data.toList.length ≤ 140737488355328 := by
    have h1 := sized_string hZ (j := 3) (t := 9) (bytes := s3.data.toList) rfl rfl
    have h2 := reachBytes_lt
    omega
  obtain ⟨_, rfl, rfl, -, w4⟩ := open_int Tryd.underlying22 (hval' 4 22 v4 rfl rfl) h4
  obtain ⟨n4, rfl, b4⟩ := wf_u64 w4
  refine (Names_any n0 n1 n2 s3.data.toList n4 W hT b0.1 b0.2 b2.1 b2.2 (by omega) b3 (by omega)).mono fun e W' ⟨he, hw⟩ => ?_
  subst he
  exact ⟨_, rfl, law_post laidOuts (by kernel_rfl) rfl Tryd.underlying4 rfl hW' hw rfl⟩

theorem tilesNames_lifted (os : Os) (started : os.Started) (H : Type) (enc : TypeId × Value → H) (F : Stop.Interp) :
    ReturnsInHanded {} Tryd.checked os 3 .any ((OpenSpec.ofChange Rows.tilesNamesSpec).preRow enc Tryd.prog Tryd.f3 Rows.tilesNamesRow.domain false Rows.tilesNamesRow.laid) (((OpenSpec.ofChange Rows.tilesNamesSpec).at F).post enc Tryd.prog Tryd.f3 false true false false) := by
  refine returnsInHanded_of_row (C := Tryd.checked) (s := OpenSpec.ofChange Rows.tilesNamesSpec) ownKnobs started (by kernel_rfl) Tryd.func3
    (witness_laid (enc := enc) (os := os) false #[.int .i64 0, .int .u64 0, .int .i64 0, .string ⟨#[]⟩, .int .u64 0] (by kernel_rfl)
      (OpenSpec.preRow_of_cond 8 (x := ([.lit (.int .i64 0), .lit (.int .u64 0), .lit (.int .i64 0), .lit (.string []), .lit (.int .u64 0)], [], [])) (by kernel_rfl) (by kernel_rfl) (fun k hk => by cases hk) (by kernel_rfl) (laid_any os #[.int .i64 0, .int .u64 0, .int .i64 0, .string ⟨#[]⟩, .int .u64 0]))) ?_
  intro W base args ds gs before hval hW _ _ hZ hL _ _
  exact tilesNames_contract H enc W base args ds gs before hval hZ hW (tabs_of_laid hL)

theorem tilesNames_said : Rows.TilesNamesSaid :=
  OpenClaim.holds_of_cond 3 Tryd.f3 rfl rfl rfl rfl rfl rfl rfl ⟨rfl, rfl, rfl, rfl, rfl⟩ rfl rfl rfl rfl rfl (by kernel_rfl) Tryd.func3 (by kernel_rfl)
    (of_decide_eq_true (by kernel_rfl)) (by unfold Func.isWrapper; first | (rw [if_pos (by decide +kernel)]; kernel_rfl) | (rw [if_neg (by decide +kernel)]; exact ⟨rfl, rfl⟩))
    (fun os started H enc _ F => by rw [OpenClaim.pre_eq_preRow]; exact tilesNames_lifted os started H enc F)

theorem tilesNames_plain (f : FuncId) (fn : Func) (hf : Tryd.pinned.checked.prog.funcNamed "escritoire/escritoirelaw16.TilesNames" = some f) (hfn : Tryd.pinned.checked.prog.funcs[f]? = some fn) :
    true = Tryd.pinned.checked.prog.looks [] ∧ ∀ (j : Nat) t, fn.params[j]? = some t → Tryd.pinned.checked.prog.wantsStandIn t = false := by
  obtain rfl : f = 3 := Option.some.inj ((show Tryd.prog.funcNamed "escritoire/escritoirelaw16.TilesNames" = some 3 by kernel_rfl).symm.trans hf) |>.symm
  obtain rfl : fn = Tryd.f3 := (Option.some.inj (Tryd.func3.symm.trans hfn)).symm
  refine ⟨by kernel_rfl, fun j t ht => ?_⟩
  have hm : t ∈ Tryd.f3.params.toList := by simpa using Array.mem_of_getElem? ht
  have hall : (Tryd.f3.params.toList.all fun u => !Tryd.prog.wantsStandIn u) = true := by kernel_rfl
  exact (show Tryd.prog.wantsStandIn t = false by simpa using List.all_eq_true.1 hall t hm)

theorem tilesNames_proved : Rows.TilesNamesCardSaid :=
  Claim7.holds_tied_plain_at .later [] _ _ _ _ tilesNames_said (fun _ h => by cases h) (by kernel_rfl) (fun _ h => by cases h) tilesNames_row_tie rfl ⟨rfl, rfl⟩ (by kernel_rfl) rfl tilesNames_plain (by kernel_rfl)
end Go.Proofs.YtfidajbenmgflaaDoor
