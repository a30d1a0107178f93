/-
  How long what came in may be: a slice's datum and the reach of an argument. Conditions: those in each statement.
-/
import Derived.Test.YtcnkgenhbnafjaaTop
import Derived.SizedLaws
namespace Go.Proofs.Ytcnkgenhbnafjaa
open Go.ChangeShapes Go.WideShapes Go.ChangeAt Go.RowKit

/-- how many elements a slice's datum holds, spare ones too -/
def dlen {H : Type} : DataW H → Nat
  | .slice e s => e.length + s.length
  | _ => 0
theorem rd_of_cells_d {H : Type} {enc : TypeId × Value → H} {P : Program} {T E : TypeId} (bt : BT P T E) (hc : P.cellsOf E = 1) {W : World} {v : Value} {y : DataW H × List MemPlace} {fuel : Nat} {sp : Nat → Bool}
    (hf : DataW.trod enc P W 0 sp true fuel T [v] = some y) (hsp : ∀ n, sp n = true) :
    ∃ a n cap xs, v = .slice a n cap ∧ Rd W a n cap xs ∧ n ≤ dlen y.1 := by
  obtain ⟨a, n, cap, xs, rfl, hr, -⟩ := rd_of_cells bt hc hf hsp
  refine ⟨a, n, cap, xs, rfl, hr, ?_⟩
  rcases open_ints bt.sl bt.el hc hf with ⟨hcs, rfl⟩ | ⟨a', len', cap', zs, hcs, _, hl, hm, hz, rfl, _⟩
  · have : Value.slice a n cap = .slice none 0 0 := by simpa using hcs
    injection this with h1 h2 h3
    omega
  · have : Value.slice a n cap = .slice (some a') len' cap' := by simpa using hcs
    injection this with h1 h2 h3
    simp only [hsp, if_true] at hz
    simp [dlen, lits]
    omega
theorem slice_len_d {H : Type} {enc : TypeId × Value → H} {P : Program} {T e : TypeId} (ht : P.underlying T = some (.slice e)) {W : World} {a : Option Addr} {n cap : Nat} {y : DataW H × List MemPlace} {fuel : Nat} {sp : Nat → Bool}
    (hf : DataW.trod enc P W 0 sp true fuel T [.slice a n cap] = some y) : n ≤ dlen y.1 := by
  rcases Deep.open_slice ht hf with ⟨hcs, rfl⟩ | ⟨a', len, cap', m, n', D, Pl, hcs, _, hl, _, hmm, rfl, hi⟩
  · have : Value.slice a n cap = .slice none 0 0 := by simpa using hcs
    injection this with h1 h2 h3
    omega
  · have : Value.slice a n cap = .slice (some a') len cap' := by simpa using hcs
    injection this with h1 h2 h3
    simp [dlen]
    omega
theorem dlen_reach {H : Type} {P : Program} {ts : List TypeId} {ds : List (DataW H)} (h : (DataW.weightsEach P ts ds).all (· ≤ reachBytes) = true) {j : Nat} {t e : TypeId} {d : DataW H} (ht : ts[j]? = some t) (hd : ds[j]? = some d) (hu : P.underlying t = some (.slice e)) (hb : 1 ≤ P.bytesOf e) : dlen d ≤ reachBytes := by
  cases d with
  | slice elems spare =>
    have := sized_slice h ht hd hu
    exact Nat.le_trans (Nat.le_mul_of_pos_right _ hb) this
  | _ => exact Nat.zero_le _
theorem cells1 : Try.prog.cellsOf 5 = 1 := by kernel_rfl
theorem bytes1F : 1 ≤ Try.prog.bytesOf 5 := of_decide_eq_true (by kernel_rfl)
end Go.Proofs.Ytcnkgenhbnafjaa
