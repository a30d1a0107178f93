/-
  Layer 10: rows of ranges; the program's closure and its Ranges. Conditions: those in each statement.
-/
import Derived.Test.YtcnnblhjgligbaaInX
import Derived.Test.YtcnnblhjgligbaaMgD
namespace Go.Proofs.Ytcnnblhjgligbaa
open Go.RowKit

def encR (x : Nat × Nat) : List Value := [.int .u64 (x.1 : Int), .int .u64 (x.2 : Int)]
theorem encR_len (x : Nat × Nat) : (encR x).length = 2 := rfl
theorem encR_one (x : Nat × Nat) : ∀ u ∈ encR x, u.oneCell' = true := by
  intro u hu
  simp only [encR, List.mem_cons, List.not_mem_nil, or_false] at hu
  rcases hu with rfl | rfl <;> rfl
theorem infoRp : InfoG Try.prog 23 52 2 16 (.agg #[.int .u64 0, .int .u64 0]) :=
  ⟨Try.underlying23, by kernel_rfl, rfl, by decide⟩
theorem infoRd : InfoG Try.prog 27 59 2 16 (.agg #[.int .u64 0, .int .u64 0]) :=
  ⟨Try.underlying27, by kernel_rfl, rfl, by decide⟩
theorem builtRp (a b : Int) : Try.prog.built 52 [(0, .int .u64 a), (1, .int .u64 b)] = some #[.int .u64 a, .int .u64 b] := by kernel_rfl
theorem builtRd (a b : Int) : Try.prog.built 59 [(0, .int .u64 a), (1, .int .u64 b)] = some #[.int .u64 a, .int .u64 b] := by kernel_rfl
theorem infoVp : (Try.prog.info? 23).map (fun i => (i.zero, i.size)) = some (some (.slice none 0 0), 1) := by kernel_rfl
theorem infoFn : (Try.prog.info? 54).map (fun i => (i.zero, i.size)) = some (some .nilFunc, 1) := by kernel_rfl
abbrev OwnRp (w : World) (B : Nat) (v : Value) (L : List (Nat × Nat)) : Prop := OwnG 52 2 encR w B v L
abbrev OwnRd (w : World) (B : Nat) (v : Value) (L : List (Nat × Nat)) : Prop := OwnG 59 2 encR w B v L
theorem rg_few (i n s : Nat) (h : n ≤ 1048576) : (rgF i n s).length ≤ 20 := rg_len 20 n i s (by omega)
end Go.Proofs.Ytcnnblhjgligbaa
