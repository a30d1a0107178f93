/-
  How many bytes a slice that came in may have. Conditions: those in each statement.
-/
import Derived.Test.YtpnhflpajccbbaaSized
namespace Go.Proofs.Ytpnhflpajccbbaa
open Go.ChangeShapes Go.WideShapes Go.ChangeAt Go.RowKit

theorem bytesDg : Try.prog.bytesOf 25 = 32 := by kernel_rfl
theorem dlen_size {H : Type} {P : Program} {ts : List TypeId} {ds : List (DataW H)} (h : (DataW.weightsEach P ts ds).all (· ≤ reachBytes) = true) {j : Nat} {t e : TypeId} {d : DataW H} (ht : ts[j]? = some t) (hd : ds[j]? = some d) (hu : P.underlying t = some (.slice e)) : dlen d * P.bytesOf e ≤ reachBytes := by
  cases d with
  | slice elems spare => exact sized_slice h ht hd hu
  | _ => simp [dlen]
theorem bytesRw : Try.prog.bytesOf 37 = 24 := by kernel_rfl
theorem bytesU8 : Try.prog.bytesOf 5 = 1 := by kernel_rfl
theorem weightsAll_mem {H : Type} {P : Program} {e : TypeId} {d : DataW H} : ∀ {l : List (DataW H)}, d ∈ l → ∀ n ∈ d.weights P e, n ∈ DataW.weightsAll P e l
  | [], h, _, _ => by simp at h
  | y :: r, h, n, hn => by
    simp only [DataW.weightsAll, List.mem_append]
    rcases List.mem_cons.1 h with rfl | h
    · exact .inl hn
    · exact .inr (weightsAll_mem h n hn)
theorem dlen_inner {H : Type} {P : Program} {ts : List TypeId} {ds : List (DataW H)} (h : (DataW.weightsEach P ts ds).all (· ≤ reachBytes) = true) {j : Nat} {t e e2 : TypeId} {l r : List (DataW H)} {x : DataW H} (ht : ts[j]? = some t) (hd : ds[j]? = some (.slice l r)) (hu : P.underlying t = some (.slice e))
    (he : P.underlying e = some (.slice e2)) (hx : x ∈ l) : dlen x * P.bytesOf e2 ≤ reachBytes := by
  cases x with
  | slice elems spare =>
    have := List.all_eq_true.1 h _ (DataW.weights_mem_each ht hd ((elems.length + spare.length) * P.bytesOf e2) (by
      simp only [DataW.weights, hu, List.mem_cons, List.mem_append]
      exact .inr (.inl (weightsAll_mem hx _ (by simp [DataW.weights, he])))))
    simpa [dlen] using this
  | _ => simp [dlen]
theorem wf_u8 {n : Int} (h : (Lit.int .u8 n).wf = true) : ∃ m : Nat, n = m ∧ m ≤ 255 := by
  simp [Lit.wf, IntKind.min, IntKind.max, IntKind.signed, IntKind.bits] at h
  exact ⟨n.toNat, by omega, by omega⟩
end Go.Proofs.Ytpnhflpajccbbaa
