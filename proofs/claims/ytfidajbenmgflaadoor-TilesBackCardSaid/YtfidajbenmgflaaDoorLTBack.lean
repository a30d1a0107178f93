/-
  TilesBack holds: names and tiles, hashes and bytes, there and back.
-/
import Derived.Test.YtfidajbenmgflaaDoorTkB
import Derived.Test.YtfidajbenmgflaaDoorTiT
import Derived.Test.YtfidajbenmgflaaDoorMgT
namespace Go.Proofs.YtfidajbenmgflaaDoor
open Go.ChangeShapes Go.WideShapes Go.ChangeAt Go.RowKit
set_option maxRecDepth 100000

theorem tilesBack_contract (H : Type) (enc : TypeId × Value → H) (W : World) (base : Nat) (args : Array Value) (ds gs : List (DataW H)) (before : List MemPlace)
    (hval : ∀ (j : Nat) t v, Tryd.f5.params[j]? = some t → args[j]? = some v → Value.okWide Tryd.prog W .any base t v)
    (hZ : (DataW.weightsEach Tryd.prog (Tryd.f5.params.toList ++ (OpenSpec.ofChange Rows.tilesBackSpec).bare.plain.varTypes Tryd.prog) (ds ++ gs)).all (· ≤ reachBytes) = true)
    (hW : DataW.Whole enc Tryd.prog Tryd.f5.params.toList Rows.tilesBackSpec.vars false W args.toList ds gs before) (hT : Tabs W) :
    Calls Tryd.prog 5 args W fun e W' => ∃ v, e = .returned v ∧ Rows.tilesBackSpec.post enc Tryd.prog Tryd.f5 false true false false W args v W' := by
  have hW' := hW
  obtain ⟨p, q, hA0, hV, rfl, _, _⟩ := hW
  have hA : DataW.TrodAll enc Tryd.prog W 0 (fun _ => true) true Tryd.f5.params.toList args.toList ds p := hA0
  have hval' := hval
  rw [Tryd.params5] at hA hval'
  obtain ⟨v0, v1, v2, v3, v4, v5, d0, d1, d2, d3, d4, d5, p0, p1, p2, p3, p4, p5, rfl, rfl, h0, h1, h2, h3, h4, h5⟩ := trodAll_six hA
  obtain ⟨rfl, rfl⟩ := trodVars_none hV
  obtain ⟨n0, rfl, rfl, -, w0⟩ := open_int Tryd.underlying3 (hval' 0 3 v0 rfl rfl) h0
  have b0 := wf_i64 w0
  obtain ⟨_, rfl, rfl, -, w1⟩ := open_int Tryd.underlying22 (hval' 1 22 v1 rfl rfl) h1
  obtain ⟨n1, rfl, b1⟩ := wf_u64 w1
  obtain ⟨n2, rfl, rfl, -, w2⟩ := open_int Tryd.underlying3 (hval' 2 3 v2 rfl rfl) h2
  have b2 := wf_i64 w2
  obtain ⟨s3, rfl, rfl, -, -⟩ := Go.ChangeMaps.open_string Tryd.underlying9 (hval' 3 9 v3 rfl rfl) h3
  have b3 : s3.data.toList.length ≤ 140737488355328 := by
    have h1 := sized_string hZ (j := 3) (t := 9) (bytes := s3.data.toList) rfl rfl
    have h2 := reachBytes_lt
    omega
  obtain ⟨a4, n4, c4, L4, rfl, hr4, -⟩ := rdD_of_trod (hval' 4 37 v4 rfl rfl) h4
  have b4 : n4 ≤ 2 ^ 42 := by
    obtain ⟨f, hf⟩ := h4
    have h1 := slice_len_d Tryd.underlying37 hf
    have h2 := dlen_size hZ (j := 4) (t := 37) (e := 48) (d := d4) rfl rfl Tryd.underlying37
    rw [show Tryd.prog.bytesOf 48 = 32 from bytesDg] at h2
    simp only [reachBytes] at h2
    simp only at h1
    omega
  obtain ⟨a5, n5, c5, x5, rfl, hr5, -⟩ := rd_of_trod bt (by kernel_rfl) (hval' 5 38 v5 rfl rfl) h5 (fun _ => rfl)
  have b5 : n5 ≤ 140737488355328 := by
    obtain ⟨f, hf⟩ := h5
    have h1 := slice_len_d Tryd.underlying38 hf
    have h2 := dlen_size hZ (j := 5) (t := 38) (e := 5) (d := d5) rfl rfl Tryd.underlying38
    rw [show Tryd.prog.bytesOf 5 = 1 from bytesU8] at h2
    simp only [reachBytes] at h2
    simp only at h1
    omega
  refine (Back_any n0 n1 n2 s3.data.toList L4 x5 a4 n4 c4 a5 n5 c5 W hT b0.1 b0.2 b2.1 b2.2 (by omega) b3 (by omega) b5 hr4 hr5).mono fun e W' ⟨he, hw⟩ => ?_
  subst he
  exact ⟨_, rfl, law_post laidOuts (by kernel_rfl) rfl Tryd.underlying4 rfl hW' hw rfl⟩

theorem tilesBack_lifted (os : Os) (started : os.Started) (H : Type) (enc : TypeId × Value → H) (F : Stop.Interp) :
    ReturnsInHanded {} Tryd.checked os 5 .any ((OpenSpec.ofChange Rows.tilesBackSpec).preRow enc Tryd.prog Tryd.f5 Rows.tilesBackRow.domain false Rows.tilesBackRow.laid) (((OpenSpec.ofChange Rows.tilesBackSpec).at F).post enc Tryd.prog Tryd.f5 false true false false) := by
  refine returnsInHanded_of_row (C := Tryd.checked) (s := OpenSpec.ofChange Rows.tilesBackSpec) ownKnobs started (by kernel_rfl) Tryd.func5
    (witness_laid (enc := enc) (os := os) false #[.int .i64 0, .int .u64 0, .int .i64 0, .string ⟨#[]⟩, .slice none 0 0, .slice none 0 0] (by kernel_rfl)
      (OpenSpec.preRow_of_cond 8 (x := ([.lit (.int .i64 0), .lit (.int .u64 0), .lit (.int .i64 0), .lit (.string []), .nil, .nil], [], [])) (by kernel_rfl) (by kernel_rfl) (fun k hk => by cases hk) (by kernel_rfl) (laid_any os #[.int .i64 0, .int .u64 0, .int .i64 0, .string ⟨#[]⟩, .slice none 0 0, .slice none 0 0]))) ?_
  intro W base args ds gs before hval hW _ _ hZ hL _ _
  exact tilesBack_contract H enc W base args ds gs before hval hZ hW (tabs_of_laid hL)

theorem tilesBack_said : Rows.TilesBackSaid :=
  OpenClaim.holds_of_cond 5 Tryd.f5 rfl rfl rfl rfl rfl rfl rfl ⟨rfl, rfl, rfl, rfl, rfl⟩ rfl rfl rfl rfl rfl (by kernel_rfl) Tryd.func5 (by kernel_rfl)
    (of_decide_eq_true (by kernel_rfl)) (by unfold Func.isWrapper; first | (rw [if_pos (by decide +kernel)]; kernel_rfl) | (rw [if_neg (by decide +kernel)]; exact ⟨rfl, rfl⟩))
    (fun os started H enc _ F => by rw [OpenClaim.pre_eq_preRow]; exact tilesBack_lifted os started H enc F)

theorem tilesBack_plain (f : FuncId) (fn : Func) (hf : Tryd.pinned.checked.prog.funcNamed "escritoire/escritoirelaw16.TilesBack" = some f) (hfn : Tryd.pinned.checked.prog.funcs[f]? = some fn) :
    true = Tryd.pinned.checked.prog.looks [] ∧ ∀ (j : Nat) t, fn.params[j]? = some t → Tryd.pinned.checked.prog.wantsStandIn t = false := by
  obtain rfl : f = 5 := Option.some.inj ((show Tryd.prog.funcNamed "escritoire/escritoirelaw16.TilesBack" = some 5 by kernel_rfl).symm.trans hf) |>.symm
  obtain rfl : fn = Tryd.f5 := (Option.some.inj (Tryd.func5.symm.trans hfn)).symm
  refine ⟨by kernel_rfl, fun j t ht => ?_⟩
  have hm : t ∈ Tryd.f5.params.toList := by simpa using Array.mem_of_getElem? ht
  have hall : (Tryd.f5.params.toList.all fun u => !Tryd.prog.wantsStandIn u) = true := by kernel_rfl
  exact (show Tryd.prog.wantsStandIn t = false by simpa using List.all_eq_true.1 hall t hm)

theorem tilesBack_proved : Rows.TilesBackCardSaid :=
  Claim7.holds_tied_plain_at .later [] _ _ _ _ tilesBack_said (fun _ h => by cases h) (by kernel_rfl) (fun _ h => by cases h) tilesBack_row_tie rfl ⟨rfl, rfl⟩ (by kernel_rfl) rfl tilesBack_plain (by kernel_rfl)
end Go.Proofs.YtfidajbenmgflaaDoor
