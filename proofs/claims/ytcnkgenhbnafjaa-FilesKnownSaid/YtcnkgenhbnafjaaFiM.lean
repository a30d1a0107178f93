/-
  Package files: what is loose; a crash, plainly. Conditions: those in each statement.
-/
import Derived.Test.YtcnkgenhbnafjaaFiL
namespace Go.Proofs.Ytcnkgenhbnafjaa
open Go.RowKit

set_option maxRecDepth 100000 in
theorem loose_any (w : World) (fb : Nat) (a : Option Addr) (n c l : Nat) (h : Arr w fb 71 [.slice a n c, .int .i64 (l : Int)]) (hl : l ≤ n) (hn : n ≤ 140737488355328) :
    Calls Try.prog 49 #[.pointer (some ⟨fb, 0, none⟩)] w fun e w' => e = .returned (.int .i64 ((n - l : Nat) : Int)) ∧ w' = w.drew := by
  have c0 := h.cell 0
  have c1 := h.cell 1
  simp only [List.getElem?_cons_zero, List.getElem?_cons_succ] at c0 c1
  have e1 : Hid ((n : Int) - (l : Int) = ((n - l : Nat) : Int)) := by show (_ : Int) = _; omega
  go_enter Try.func49, Try.ntmps49
  go_upto_region 1 with fail
  go_region
  go_wp2
  go_ret
  exact ⟨ret_val (congrArg (Value.int .i64) e1.out), rfl⟩
/-- how many bytes of a file are loose -/
def lse (f : FS) : Nat := f.data.length - f.lasts
def cutV : Value → Nat → Value
  | .slice a _ c, j => .slice a j c
  | v, _ => v
/-- a file whose first loose bytes last, the others are gone -/
def cutF (f : FS) (k : Nat) : FS := { f with dv := cutV f.dv (f.lasts + k), data := f.data.take (f.lasts + k), lasts := f.lasts + k }
/-- how many a pick keeps -/
def keptF (f : FS) : List Nat → Nat
  | [] => 0
  | p :: _ => p % (lse f + 1)
/-- a crash, file by file, in the order of these names -/
def crashG : List ByteArray → List Nat → List FS → List FS
  | [], _, fs => fs
  | s :: ns, ps, fs => match atF fs s with
    | none => crashG ns ps fs
    | some f => if lse f = 0 then crashG ns ps fs else crashG ns ps.tail (upd1 fs (cutF f (keptF f ps)))
theorem keptF_le (f : FS) (ps : List Nat) : keptF f ps ≤ lse f := by
  cases ps with
  | nil => exact Nat.zero_le _
  | cons p ps => exact Nat.le_of_lt_succ (Nat.mod_lt _ (Nat.succ_pos _))
theorem Own.cutTo {w : World} {B : Nat} {a : Option Addr} {n c : Nat} {xs : List UInt8} (h : Own w B 5 (.slice a n c) xs) (j : Nat) (hj : j ≤ n) : Own w B 5 (.slice a j c) (xs.take j) := by
  obtain ⟨h1, ⟨e, hn⟩ | ⟨g, cap, cur, e, hbb, hg, hle, hcm, hcs, ht⟩⟩ := h
  · injection e with e1 e2 e3
    subst e1 e2 e3
    have : j = 0 := by omega
    subst this
    exact Own.nil _ _ _
  · injection e with e1 e2 e3
    subst e1 e2 e3
    have hlen : (xs.take j).length = j := by rw [List.length_take]; omega
    refine ⟨by simp, .inr ⟨g, c, cur, by rw [hlen], hbb, hg, by rw [hlen]; omega, hcm, hcs, ?_⟩⟩
    rw [hlen, Nat.mul_one, List.map_take, ← ht, List.take_take, Nat.mul_one, Nat.min_eq_left hj]
theorem cutF_own {w : World} {B : Nat} {f : FS} (h : IsF w B f) (k : Nat) (hk : k ≤ lse f) : Own w B 5 (cutF f k).dv (cutF f k).data ∧ (cutF f k).dv.ownBlock = f.dv.ownBlock := by
  obtain ⟨a, c, e⟩ := own_slice h.row
  have hr := h.row
  have hle := h.le
  unfold cutF
  rw [e] at hr ⊢
  refine ⟨hr.cutTo (f.lasts + k) (by unfold lse at hk; omega), ?_⟩
  cases a <;> rfl
end Go.Proofs.Ytcnkgenhbnafjaa
