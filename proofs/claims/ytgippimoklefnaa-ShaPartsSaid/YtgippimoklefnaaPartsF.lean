/-
  ShaParts holds: in whatever parts bytes are written, asked and copied between, the hash is that of all at once; the arguments read as they did. (Any bytes, any parts: no conditions.)
-/
import Derived.Test.YtgippimoklefnaaParts
import Derived.SizedLaws
namespace Go.Proofs.Ytgippimoklefnaa
open Go.ChangeShapes Go.WideShapes Go.ChangeAt Go.RowKit

/-- how many elements a slice's datum holds, spare ones too -/
def dlen {H : Type} : DataW H → Nat
  | .slice e s => e.length + s.length
  | _ => 0
theorem rd_of_cells_d {H : Type} {enc : TypeId × Value → H} {P : Program} {T E : TypeId} (bt : BT P T E) (hc : P.cellsOf E = 1) {W : World} {v : Value} {y : DataW H × List MemPlace} {fuel : Nat} {sp : Nat → Bool}
    (hf : DataW.trod enc P W 0 sp true fuel T [v] = some y) (hsp : ∀ n, sp n = true) :
    ∃ a n cap xs, v = .slice a n cap ∧ Rd W a n cap xs ∧ n ≤ dlen y.1 := by
  obtain ⟨a, n, cap, xs, rfl, hr, -⟩ := rd_of_cells bt hc hf hsp
  refine ⟨a, n, cap, xs, rfl, hr, ?_⟩
  rcases open_ints bt.sl bt.el hc hf with ⟨hcs, rfl⟩ | ⟨a', len', cap', zs, hcs, _, hl, hm, hz, rfl, _⟩
  · have : Value.slice a n cap = .slice none 0 0 := by simpa using hcs
    injection this with h1 h2 h3
    omega
  · have : Value.slice a n cap = .slice (some a') len' cap' := by simpa using hcs
    injection this with h1 h2 h3
    simp only [hsp, if_true] at hz
    simp [dlen, lits]
    omega
theorem dlen_reach {H : Type} {P : Program} {ts : List TypeId} {ds : List (DataW H)} (h : (DataW.weightsEach P ts ds).all (· ≤ reachBytes) = true) {j : Nat} {t e : TypeId} {d : DataW H} (ht : ts[j]? = some t) (hd : ds[j]? = some d) (hu : P.underlying t = some (.slice e)) (hb : P.bytesOf e = 1) : dlen d ≤ reachBytes := by
  cases d with
  | slice elems spare =>
    have := sized_slice h ht hd hu
    rw [hb, Nat.mul_one] at this
    exact this
  | _ => exact Nat.zero_le _

theorem bytes1 : Try.prog.bytesOf 5 = 1 := by kernel_rfl

theorem shaParts_full_lifted (os : Os) (started : os.Started) (H : Type) (enc : TypeId × Value → H) :
    ReturnsInHanded {} Try.checked os 6 .any (Rows.shaPartsSpec.pre6 enc Try.prog Try.f6 Rows.shaPartsRow.domain false) (Rows.shaPartsSpec.post enc Try.prog Try.f6 false true false false) := by
  refine returnsInHanded_of_change_sized (C := Try.checked) ownKnobs started (by kernel_rfl) Try.func6
    (ChangeSpec.witness6 (enc := enc) (C := Try.checked) false ⟨#[], #[.slice none 0 0, .slice none 0 0], []⟩ 8 (by kernel_rfl) (by kernel_rfl) (by kernel_rfl) (by kernel_rfl)) ?_
  intro W base args ds gs before hval hW hcond hsz _
  have hW' := hW
  obtain ⟨p, q, hA0, hV, rfl, _, _⟩ := hW
  have hA : DataW.TrodAll enc Try.prog W 0 (fun _ => true) true Try.f6.params.toList args.toList ds p := hA0
  have hval' := hval
  rw [Try.params6] at hA hval' hsz
  obtain ⟨v0, v1, d0, d1, p0, p1, hargs, rfl, rfl, h0, h1⟩ := trodAll_two hA
  obtain rfl : args = #[v0, v1] := by cases args; simp_all
  obtain ⟨rfl, rfl⟩ := trodVars_none hV
  obtain ⟨a0, l0, c0, rfl⟩ := okWide_slice Try.underlying22 (hval' 0 22 v0 rfl rfl)
  obtain ⟨a1, l1, c1, rfl⟩ := okWide_slice Try.underlying22 (hval' 1 22 v1 rfl rfl)
  obtain ⟨f0, hf0⟩ := h0
  obtain ⟨f1, hf1⟩ := h1
  obtain ⟨a, n, cap, xs, e0, hr, hn⟩ := rd_of_cells_d bt cells1 hf0 (fun _ => rfl)
  obtain ⟨a', n', cap', ps, e1, hp, hn'⟩ := rd_of_cells_d bt cells1 hf1 (fun _ => rfl)
  cases e0
  cases e1
  have b0 := dlen_reach hsz (j := 0) (t := 22) (e := 5) rfl rfl Try.underlying22 bytes1
  have b1 := dlen_reach hsz (j := 1) (t := 22) (e := 5) rfl rfl Try.underlying22 bytes1
  have hl := hr.len
  have hl' := hp.len
  simp only [reachBytes] at b0 b1
  simp only at hn hn'
  refine (Parts_any xs ps _ _ _ _ _ _ W (by omega) hr hp).mono fun e W' ⟨he, hw⟩ => ?_
  subst he
  exact ⟨_, rfl, law_post laidOuts (by kernel_rfl) rfl Try.underlying4 rfl hW' hw rfl⟩

theorem shaParts_full : Rows.ShaPartsSaid :=
  OpenClaim.holds_of_wide 6 Try.f6 rfl rfl rfl rfl rfl rfl rfl ⟨rfl, rfl, rfl, rfl, rfl⟩ rfl rfl rfl rfl rfl (by kernel_rfl) Try.func6 (by kernel_rfl)
    (of_decide_eq_true (by kernel_rfl)) (by unfold Func.isWrapper; first | (rw [if_pos (by decide +kernel)]; kernel_rfl) | (rw [if_neg (by decide +kernel)]; exact ⟨rfl, rfl⟩))
    (fun os started H enc _ => shaParts_full_lifted os started H enc)
end Go.Proofs.Ytgippimoklefnaa
