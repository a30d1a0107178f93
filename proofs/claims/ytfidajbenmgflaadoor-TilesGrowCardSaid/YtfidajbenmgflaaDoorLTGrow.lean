/-
  TilesGrow holds: a tree that is kept in tiles, leaf by leaf.
-/
import Derived.Test.YtfidajbenmgflaaDoorTgC
import Derived.Test.YtfidajbenmgflaaDoorTiT
import Derived.Test.YtfidajbenmgflaaDoorMgT
namespace Go.Proofs.YtfidajbenmgflaaDoor
open Go.ChangeShapes Go.WideShapes Go.ChangeAt Go.RowKit
set_option maxRecDepth 100000

theorem tilesGrow_contract (H : Type) (enc : TypeId × Value → H) (W : World) (base : Nat) (args : Array Value) (ds gs : List (DataW H)) (before : List MemPlace)
    (hval : ∀ (j : Nat) t v, Tryd.f6.params[j]? = some t → args[j]? = some v → Value.okWide Tryd.prog W .any base t v)
    (hZ : (DataW.weightsEach Tryd.prog (Tryd.f6.params.toList ++ (OpenSpec.ofChange Rows.tilesGrowSpec).bare.plain.varTypes Tryd.prog) (ds ++ gs)).all (· ≤ reachBytes) = true)
    (hW : DataW.Whole enc Tryd.prog Tryd.f6.params.toList Rows.tilesGrowSpec.vars false W args.toList ds gs before) (hT : Tabs W) :
    Calls Tryd.prog 6 args W fun e W' => ∃ v, e = .returned v ∧ Rows.tilesGrowSpec.post enc Tryd.prog Tryd.f6 false true false false W args v W' := by
  have hW' := hW
  obtain ⟨p, q, hA0, hV, rfl, _, _⟩ := hW
  have hA : DataW.TrodAll enc Tryd.prog W 0 (fun _ => true) true Tryd.f6.params.toList args.toList ds p := hA0
  have hval' := hval
  rw [Tryd.params6] at hA hval'
  obtain ⟨v0, d0, rfl, rfl, h0⟩ := trodAll_one hA
  obtain ⟨rfl, rfl⟩ := trodVars_none hV
  obtain ⟨a0, n0, c0, L0, rfl, hr0, -⟩ := rdD_of_trod (hval' 0 37 v0 rfl rfl) h0
  have b0 : n0 ≤ 2 ^ 42 := by
    obtain ⟨f, hf⟩ := h0
    have h1 := slice_len_d Tryd.underlying37 hf
    have h2 := dlen_size hZ (j := 0) (t := 37) (e := 48) (d := d0) rfl rfl Tryd.underlying37
    rw [show Tryd.prog.bytesOf 48 = 32 from bytesDg] at h2
    simp only [reachBytes] at h2
    simp only at h1
    omega
  refine (Grow_any L0 a0 n0 c0 W hT b0 hr0).mono fun e W' ⟨he, hw⟩ => ?_
  subst he
  exact ⟨_, rfl, law_post laidOuts (by kernel_rfl) rfl Tryd.underlying4 rfl hW' hw rfl⟩

theorem tilesGrow_lifted (os : Os) (started : os.Started) (H : Type) (enc : TypeId × Value → H) (F : Stop.Interp) :
    ReturnsInHanded {} Tryd.checked os 6 .any ((OpenSpec.ofChange Rows.tilesGrowSpec).preRow enc Tryd.prog Tryd.f6 Rows.tilesGrowRow.domain false Rows.tilesGrowRow.laid) (((OpenSpec.ofChange Rows.tilesGrowSpec).at F).post enc Tryd.prog Tryd.f6 false true false false) := by
  refine returnsInHanded_of_row (C := Tryd.checked) (s := OpenSpec.ofChange Rows.tilesGrowSpec) ownKnobs started (by kernel_rfl) Tryd.func6
    (witness_laid (enc := enc) (os := os) false #[.slice none 0 0] (by kernel_rfl)
      (OpenSpec.preRow_of_cond 8 (x := ([.nil], [], [])) (by kernel_rfl) (by kernel_rfl) (fun k hk => by cases hk) (by kernel_rfl) (laid_any os #[.slice none 0 0]))) ?_
  intro W base args ds gs before hval hW _ _ hZ hL _ _
  exact tilesGrow_contract H enc W base args ds gs before hval hZ hW (tabs_of_laid hL)

theorem tilesGrow_said : Rows.TilesGrowSaid :=
  OpenClaim.holds_of_cond 6 Tryd.f6 rfl rfl rfl rfl rfl rfl rfl ⟨rfl, rfl, rfl, rfl, rfl⟩ rfl rfl rfl rfl rfl (by kernel_rfl) Tryd.func6 (by kernel_rfl)
    (of_decide_eq_true (by kernel_rfl)) (by unfold Func.isWrapper; first | (rw [if_pos (by decide +kernel)]; kernel_rfl) | (rw [if_neg (by decide +kernel)]; exact ⟨rfl, rfl⟩))
    (fun os started H enc _ F => by rw [OpenClaim.pre_eq_preRow]; exact tilesGrow_lifted os started H enc F)

theorem tilesGrow_plain (f : FuncId) (fn : Func) (hf : Tryd.pinned.checked.prog.funcNamed "escritoire/escritoirelaw16.TilesGrow" = some f) (hfn : Tryd.pinned.checked.prog.funcs[f]? = some fn) :
    true = Tryd.pinned.checked.prog.looks [] ∧ ∀ (j : Nat) t, fn.params[j]? = some t → Tryd.pinned.checked.prog.wantsStandIn t = false := by
  obtain rfl : f = 6 := Option.some.inj ((show Tryd.prog.funcNamed "escritoire/escritoirelaw16.TilesGrow" = some 6 by kernel_rfl).symm.trans hf) |>.symm
  obtain rfl : fn = Tryd.f6 := (Option.some.inj (Tryd.func6.symm.trans hfn)).symm
  refine ⟨by kernel_rfl, fun j t ht => ?_⟩
  have hm : t ∈ Tryd.f6.params.toList := by simpa using Array.mem_of_getElem? ht
  have hall : (Tryd.f6.params.toList.all fun u => !Tryd.prog.wantsStandIn u) = true := by kernel_rfl
  exact (show Tryd.prog.wantsStandIn t = false by simpa using List.all_eq_true.1 hall t hm)

theorem tilesGrow_proved : Rows.TilesGrowCardSaid :=
  Claim7.holds_tied_plain_at .later [] _ _ _ _ tilesGrow_said (fun _ h => by cases h) (by kernel_rfl) (fun _ h => by cases h) tilesGrow_row_tie rfl ⟨rfl, rfl⟩ (by kernel_rfl) rfl tilesGrow_plain (by kernel_rfl)
end Go.Proofs.YtfidajbenmgflaaDoor
