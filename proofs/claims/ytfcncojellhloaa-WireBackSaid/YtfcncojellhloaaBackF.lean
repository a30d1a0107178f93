/-
  WireBack holds: what was laid down is taken as it was, in order, and of a beginning up to the first want; the arguments read as they did.
-/
import Derived.Test.YtfcncojellhloaaBackN
import Derived.Test.YtfcncojellhloaaSized
namespace Go.Proofs.Ytfcncojellhloaa
open Go.ChangeShapes Go.WideShapes Go.ChangeAt Go.RowKit

theorem cellsBk : Try.prog.cellsOf 5 = 1 := by kernel_rfl
theorem wf_u16 {n : Int} (h : (Lit.int .u16 n).wf = true) : ∃ m : Nat, n = m ∧ m ≤ 65535 := by
  have h1 : IntKind.u16.min = 0 := rfl
  have h2 : IntKind.u16.max = 65535 := rfl
  simp only [Lit.wf, Bool.and_eq_true, decide_eq_true_eq] at h
  exact ⟨n.toNat, by omega, by omega⟩
theorem bool_of_cells {H : Type} {enc : TypeId × Value → H} {P : Program} {t : TypeId} (ht : P.underlying t = some .bool) {W : World} {v : Value} {y : DataW H × List MemPlace} {fuel : Nat} {sp : Nat → Bool}
    (hf : DataW.trod enc P W 0 sp true fuel t [v] = some y) : ∃ b, v = .bool b := by
  cases fuel with
  | zero => simp [DataW.trod] at hf
  | succ fuel =>
    unfold DataW.trod at hf
    rw [ht] at hf
    cases v <;> simp at hf
    exact ⟨_, rfl⟩

theorem bytesTF : 1 ≤ Try.prog.bytesOf 57 := of_decide_eq_true (by kernel_rfl)

set_option maxRecDepth 100000 in
theorem wireBack_full_lifted (os : Os) (started : os.Started) (H : Type) (enc : TypeId × Value → H) :
    ReturnsInHanded {} Try.checked os 5 .any (Rows.wireBackSpec.pre6 enc Try.prog Try.f5 Rows.wireBackRow.domain false) (Rows.wireBackSpec.post enc Try.prog Try.f5 false true false false) := by
  refine returnsInHanded_of_change_sized (C := Try.checked) ownKnobs started (by kernel_rfl) Try.func5
    (ChangeSpec.witness6 (enc := enc) (C := Try.checked) false ⟨#[], #[.slice none 0 0, .int .u16 0], []⟩ 8 (by kernel_rfl) (by kernel_rfl) (by kernel_rfl) (by kernel_rfl)) ?_
  intro W base args ds gs before hval hW hcond hsz _
  have hW' := hW
  obtain ⟨p, q, hA0, hV, rfl, _, _⟩ := hW
  have hA : DataW.TrodAll enc Try.prog W 0 (fun _ => true) true Try.f5.params.toList args.toList ds p := hA0
  have hval' := hval
  rw [Try.params5] at hA hval' hsz
  obtain ⟨v0, v1, d0, d1, p0, p1, hargs, rfl, rfl, h0, h1⟩ := trodAll_two hA
  obtain rfl : args = #[v0, v1] := by cases args; simp_all
  obtain ⟨rfl, rfl⟩ := trodVars_none hV
  obtain ⟨a, n, cap, rfl⟩ := okWide_slice Try.underlying53 (hval' 0 53 v0 rfl rfl)
  obtain ⟨cut0, rfl, rfl, rfl, hwf⟩ := open_int Try.underlying54 (hval' 1 54 v1 rfl rfl) h1
  obtain ⟨cut, rfl, hcut⟩ := wf_u16 hwf
  obtain ⟨fu, hf⟩ := h0
  have hnX := slice_len_d Try.underlying53 hf
  have b0 := dlen_reach hsz (j := 0) (t := 53) (e := 57) rfl rfl Try.underlying53 bytesTF
  simp only [reachBytes] at b0
  simp only at hnX
  obtain ⟨aX, nX, cX, e2, hnc, hnil, hnb, hcells⟩ := structs_of_cells Try.underlying53 Try.underlying57 (by kernel_rfl) (by kernel_rfl) (by decide) hf
  cases e2
  have each : ∀ i, ∃ t : KT, i < n → Rd W t.a t.bs.length t.cap t.bs ∧ t.num ≤ 18446744073709551615 ∧ ∀ b off, a = some ⟨b, off, none⟩ →
      W.cell? ⟨b, off + i * 4, none⟩ = some (.bool t.vec) ∧ W.cell? ⟨b, off + i * 4 + 1, none⟩ = some (.int .i64 t.size) ∧ W.cell? ⟨b, off + i * 4 + 2, none⟩ = some (.int .u64 (t.num : Int)) ∧ W.cell? ⟨b, off + i * 4 + 3, none⟩ = some (.slice t.a t.bs.length t.cap) := by
    intro i
    by_cases hi : i < n
    · obtain ⟨b, off, rfl, hlt, hall⟩ := hcells (by omega)
      obtain ⟨u0, z0, m0, c0, t0⟩ := hall i hi 0 _ rfl
      obtain ⟨u1, z1, m1, c1, t1⟩ := hall i hi 1 _ rfl
      obtain ⟨u2, z2, m2, c2, t2⟩ := hall i hi 2 _ rfl
      obtain ⟨u3, z3, m3, c3, t3⟩ := hall i hi 3 _ rfl
      obtain ⟨v, rfl⟩ := bool_of_cells Try.underlying4 t0
      obtain ⟨sz, rfl, _⟩ := int_of_cells Try.underlying3 t1
      obtain ⟨num0, rfl, hwf2⟩ := int_of_cells Try.underlying23 t2
      obtain ⟨num, rfl, hnum⟩ := wf_u64 hwf2
      obtain ⟨p, m, c, ys, rfl, hr, -⟩ := rd_of_cells bt cellsBk t3 (fun _ => rfl)
      obtain rfl := hr.len
      refine ⟨⟨v, sz, num, ys, p, c⟩, fun _ => ⟨hr, hnum, fun b' off' e => ?_⟩⟩
      cases e
      exact ⟨c0, by rw [← Nat.add_assoc] at c1; exact c1, by rw [← Nat.add_assoc] at c2; exact c2, by rw [← Nat.add_assoc] at c3; exact c3⟩
    · exact ⟨⟨true, 0, 0, [], none, 0⟩, fun h => absurd h hi⟩
  obtain ⟨f, hf2⟩ := Classical.axiomOfChoice each
  refine (Back_any a n cap cut ((List.range n).map f) W hcut (by omega) hnc (by simp) (fun h0 => ?_)).mono fun e W' ⟨he, hw⟩ => ?_
  · obtain ⟨b, off, rfl, hlt, -⟩ := hcells h0
    refine ⟨b, off, rfl, hlt, fun i hi => ?_⟩
    have hi' : i < n := by simpa using hi
    have e : ((List.range n).map f)[i] = f i := by simp
    rw [e]
    obtain ⟨x1, x2, x4⟩ := hf2 i hi'
    exact ⟨x1, x2, x4 b off rfl⟩
  subst he
  exact ⟨_, rfl, law_post laidOuts (by kernel_rfl) rfl Try.underlying4 rfl hW' hw rfl⟩

theorem wireBack_full : Rows.WireBackSaid :=
  OpenClaim.holds_of_wide 5 Try.f5 rfl rfl rfl rfl rfl rfl rfl ⟨rfl, rfl, rfl, rfl, rfl⟩ rfl rfl rfl rfl rfl (by kernel_rfl) Try.func5 (by kernel_rfl)
    (of_decide_eq_true (by kernel_rfl)) (by unfold Func.isWrapper; first | (rw [if_pos (by decide +kernel)]; kernel_rfl) | (rw [if_neg (by decide +kernel)]; exact ⟨rfl, rfl⟩))
    (fun os started H enc _ => wireBack_full_lifted os started H enc)
end Go.Proofs.Ytfcncojellhloaa
