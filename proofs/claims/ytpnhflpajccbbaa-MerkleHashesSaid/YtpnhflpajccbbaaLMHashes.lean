/-
  MerkleHashes holds, whatever the arguments: the hashes of any leaf, any node and any list of leaves are the document's, and what is handed in stays.
-/
import Derived.Test.YtpnhflpajccbbaaMkL
import Derived.Test.YtpnhflpajccbbaaMkX
import Derived.Test.YtpnhflpajccbbaaMkT
import Derived.Test.YtpnhflpajccbbaaMlT
namespace Go.Proofs.Ytpnhflpajccbbaa
open Go.ChangeShapes Go.WideShapes Go.ChangeAt Go.RowKit

theorem phash : PHash := ⟨fun xs a n c w hn hr => Leaf_any xs a n c w (by omega) hr, fun x y w hx hy => Node_any x y w hx hy, fun B a n c w hn hr => Leaves_any B a n c w (by omega) hr, fun w => wakes_any w⟩

theorem merkleHashes_lifted (os : Os) (started : os.Started) (H : Type) (enc : TypeId × Value → H) :
    ReturnsInHanded {} Try.checked os 4 .any (Rows.merkleHashesSpec.pre6 enc Try.prog Try.f4 Rows.merkleHashesRow.domain false) (Rows.merkleHashesSpec.post enc Try.prog Try.f4 false true false false) := by
  refine returnsInHanded_of_change_sized (C := Try.checked) ownKnobs started (by kernel_rfl) Try.func4
    (ChangeSpec.witness6 (enc := enc) (C := Try.checked) false ⟨#[], #[.slice none 0 0, .agg (Array.replicate 32 (.int .u8 0)), .agg (Array.replicate 32 (.int .u8 0)), .slice none 0 0], []⟩ 8 (by kernel_rfl) (by kernel_rfl) (by kernel_rfl) (by kernel_rfl)) ?_
  intro W base args ds gs before hval hW hcond hsz _
  have hW' := hW
  obtain ⟨p, q, hA0, hV, rfl, _, _⟩ := hW
  have hA : DataW.TrodAll enc Try.prog W 0 (fun _ => true) true Try.f4.params.toList args.toList ds p := hA0
  have hval' := hval
  rw [Try.params4] at hA hval' hsz
  obtain ⟨v0, v1, v2, v3, d0, d1, d2, d3, p0, p1, p2, p3, hargs, rfl, rfl, h0, h1, h2, h3⟩ := trodAll_four hA
  obtain rfl : args = #[v0, v1, v2, v3] := by cases args; simp_all
  obtain ⟨rfl, rfl⟩ := trodVars_none hV
  obtain ⟨a0, n0, c0, rfl⟩ := okWide_slice Try.underlying37 (hval' 0 37 v0 rfl rfl)
  obtain ⟨f0, hf0⟩ := h0
  obtain ⟨_, _, _, xs0, e0, hr0, hn0⟩ := rd_of_cells_d bt cells1 hf0 (fun _ => rfl)
  cases e0
  have b0 : n0 ≤ 140737488352000 := by
    have h2 := dlen_size hsz (j := 0) (t := 37) (e := 5) rfl rfl Try.underlying37
    rw [show Try.checked.prog.bytesOf 5 = 1 from bytesU8] at h2
    simp only [reachBytes] at h2
    simp only at hn0
    omega
  obtain ⟨x1, lx1, rfl⟩ := dig_of_trod (hval' 1 25 v1 rfl rfl) h1
  obtain ⟨x2, lx2, rfl⟩ := dig_of_trod (hval' 2 25 v2 rfl rfl) h2
  obtain ⟨a3, n3, c3, L3, rfl, hr3, hn3⟩ := rdR_of_trod (hval' 3 38 v3 rfl rfl) h3 (fun _ => rfl) (fun l r e x hx => by
    subst e
    have h2 := dlen_inner hsz (j := 3) (t := 38) (e := 37) (e2 := 5) rfl rfl Try.underlying38 Try.underlying37 hx
    rw [show Try.checked.prog.bytesOf 5 = 1 from bytesU8] at h2
    simp only [reachBytes] at h2
    omega)
  have b3 : n3 ≤ 5900000000000 := by
    have h2 := dlen_size hsz (j := 3) (t := 38) (e := 37) rfl rfl Try.underlying38
    rw [show Try.checked.prog.bytesOf 37 = 24 from bytesRw] at h2
    simp only [reachBytes] at h2
    omega
  refine (Hashes_any phash xs0 x1 x2 L3 a0 a3 n0 c0 n3 c3 W b0 b3 lx1 lx2 hr0 hr3).mono fun e W' ⟨he, hw⟩ => ?_
  subst he
  exact ⟨_, rfl, law_post laidOuts (by kernel_rfl) rfl Try.underlying4 rfl hW' hw rfl⟩

theorem merkleHashes_proved : Rows.MerkleHashesSaid :=
  OpenClaim.holds_of_wide 4 Try.f4 rfl rfl rfl rfl rfl rfl rfl ⟨rfl, rfl, rfl, rfl, rfl⟩ rfl rfl rfl rfl rfl (by kernel_rfl) Try.func4 (by kernel_rfl)
    (of_decide_eq_true (by kernel_rfl)) (by unfold Func.isWrapper; first | (rw [if_pos (by decide +kernel)]; kernel_rfl) | (rw [if_neg (by decide +kernel)]; exact ⟨rfl, rfl⟩))
    (fun os started H enc _ => merkleHashes_lifted os started H enc)
end Go.Proofs.Ytpnhflpajccbbaa
