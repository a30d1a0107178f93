/-
  How many bytes a slice that came in may have. Conditions: those in each statement.
-/
import Derived.Test.YtpnhflpajccbbaaSized
namespace Go.Proofs.Ytpnhflpajccbbaa
open Go.ChangeShapes Go.WideShapes Go.ChangeAt Go.RowKit

theorem bytesDg : Try.prog.bytesOf 25 = 32 := by kernel_rfl
theorem dlen_size {H : Type} {P : Program} {ts : List TypeId} {ds : List (DataW H)} (h : (DataW.weightsEach P ts ds).all (· ≤ reachBytes) = true) {j : Nat} {t e : TypeId} {d : DataW H} (ht : ts[j]? = some t) (hd : ds[j]? = some d) (hu : P.underlying t = some (.slice e)) : dlen d * P.bytesOf e ≤ reachBytes := by
  cases d with
  | slice elems spare => exact sized_slice h ht hd hu
  | _ => simp [dlen]
end Go.Proofs.Ytpnhflpajccbbaa
