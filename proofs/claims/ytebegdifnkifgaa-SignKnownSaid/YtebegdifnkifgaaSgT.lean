/-
  From a law's contract to its statement: signatures that came in. Conditions: those in each statement.
-/
import Derived.Test.YtebegdifnkifgaaSgC
import Derived.Test.YtebegdifnkifgaaSized
import Derived.ChangeMaps5
namespace Go.Proofs.Ytebegdifnkifgaa
open Go.ChangeShapes Go.WideShapes Go.ChangeAt Go.RowKit

theorem bytes1S : 1 ≤ Try.prog.bytesOf 5 := of_decide_eq_true (by kernel_rfl)
section
variable {H : Type} {enc : TypeId × Value → H} {W : World}
/-- the signature that came in by value -/
theorem sig_of_trod {v : Value} {d : DataW H} {p : List MemPlace} {b0 : Nat} {sp : Nat → Bool} (hval : Value.okWide Try.prog W .any b0 23 v) (h0 : DataW.Trod enc Try.prog W 0 sp true 23 v d p) :
    ∃ xs : List UInt8, xs.length = 64 ∧ v = .agg (bvs xs).toArray := by
  simp only [Value.okWide, Try.underlying23] at hval
  obtain ⟨cs, rfl, hsz, -⟩ := hval
  obtain ⟨fuel, hf⟩ := h0
  obtain ⟨ys, m, rfl, hx, hlen, hyl, hel⟩ := DataW.trod_array Try.underlying23 hf
  have hc : cs.toList.length = 64 := hlen.trans (by kernel_rfl)
  have cell : ∀ i, i < 64 → ∃ n, cs.toList[i]? = some (.int .u8 n) ∧ (Lit.int .u8 n).wf = true := by
    intro i hi
    have h1 := hel i hi
    rw [cells1, Nat.mul_one, List.getElem?_eq_getElem (by omega)] at h1
    have e : (cs.toList.drop i).take 1 = [cs.toList[i]'(by omega)] := by
      rw [List.drop_eq_getElem_cons (by omega)]
      rfl
    have h2 : DataW.trod enc Try.prog W 0 sp true m 5 [cs.toList[i]'(by omega)] = some (ys[i]'(by omega)) := by
      rw [← e]; exact h1
    obtain ⟨n, hn, hw⟩ := int_of_cells Try.underlying5 h2
    exact ⟨n, by rw [List.getElem?_eq_getElem (by omega), hn], hw⟩
  refine ⟨cs.toList.map fun v => match v with | .int _ n => UInt8.ofNat n.toNat | _ => 0, by simpa using hc, ?_⟩
  congr 1
  apply Array.toList_inj.1
  apply List.ext_getElem?
  intro i
  by_cases hi : i < 64
  · obtain ⟨n, h1, h2⟩ := cell i hi
    have hb := byte_of_wf h2
    simp only [bvs, List.map_map, List.getElem?_map, h1, Option.map_some, Function.comp]
    congr 2
    rw [UInt8.toNat_ofNat']
    omega
  · rw [List.getElem?_eq_none (by omega), List.getElem?_eq_none (by simp [bvs]; simpa using (by omega : cs.toList.length ≤ i))]
end

end Go.Proofs.Ytebegdifnkifgaa
