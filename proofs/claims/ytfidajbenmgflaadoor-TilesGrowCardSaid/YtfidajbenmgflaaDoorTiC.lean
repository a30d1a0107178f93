/-
  Package tiles: Name; Count, Need. Conditions: those in each statement.
-/
import Derived.Test.YtfidajbenmgflaaDoorTiB
namespace Go.Proofs.YtfidajbenmgflaaDoor
open Go.RowKit

/-- level, number and width as a row -/
def rowF (l : Int) (n : Nat) (v : Int) : Nat → Nat
  | 0 => (IntKind.u64.wrap l).toNat
  | 1 => n
  | _ => (IntKind.u64.wrap v).toNat
theorem wrap_nat (l : Int) : ((IntKind.u64.wrap l).toNat : Int) = IntKind.u64.wrap l := by
  rw [IntKind.wrap_u64]; omega
theorem wrap_lt (l : Int) : (IntKind.u64.wrap l).toNat < 18446744073709551616 := by
  rw [IntKind.wrap_u64]; omega
def nameE (f : Nat → Nat) : Int := if okTo f 3 then 0 else 1
set_option maxRecDepth 100000 in
theorem Name_any (l : Int) (n : Nat) (v : Int) (hn : n < 18446744073709551616) (w : World) (hT : Tabs w) :
    Calls Tryd.prog 8 #[.int .i64 l, .int .u64 (n : Int), .int .i64 v] w fun e w' => e = .returned (.tuple #[txt (layT (rowF l n v)), .int .i64 (nameE (rowF l n v))]) ∧ Below w.heap.size w w' := by
  have hb0 : Below w.heap.size w (w.alloc (.cells #[.int .u64 (IntKind.u64.wrap l), .int .u64 (n : Int), .int .u64 (IntKind.u64.wrap v)] 22)) := (Below.refl _ _).alloc (Nat.le_refl _) _
  have H := lay_any (rowF l n v) (by intro k hk; unfold rowF; split <;> first | exact wrap_lt _ | exact hn) w.heap.size 0 _ (hT.to hb0) (by
    intro k hk
    have hA := Arr.new w 22 [.int .u64 (IntKind.u64.wrap l), .int .u64 (n : Int), .int .u64 (IntKind.u64.wrap v)]
    rw [Nat.zero_add]
    refine (hA.cell k).trans ?_
    have hc : k = 0 ∨ k = 1 ∨ k = 2 := by omega
    rcases hc with rfl | rfl | rfl
    · simp only [rowF, wrap_nat]; rfl
    · rfl
    · simp only [rowF, wrap_nat]; rfl) (by simp)
  have H2 : Hid (layT (rowF l n v) = [] ∨ okTo (rowF l n v) 3 = true) := by
    unfold layT
    cases okTo (rowF l n v) 3 with
    | false => exact .inl rfl
    | true => exact .inr rfl
  have HE : Hid (nameE (rowF l n v) = if okTo (rowF l n v) 3 then 0 else 1) := rfl
  generalize layT (rowF l n v) = T at H H2 ⊢
  generalize nameE (rowF l n v) = E at HE ⊢
  generalize okTo (rowF l n v) 3 = o at H H2 HE
  go_enter Tryd.func8, Tryd.ntmps8
  go_upto_region 2 with (go_at_call 24; go_loud (refine H.mono ?_); rintro e w1 ⟨rfl, hb1⟩)
  cases o with
  | true =>
    go_wp2_with fail
    go_ret2
    rw [HE.out]
    exact ⟨rfl, hb0.trans (hb1.mono (by simp))⟩
  | false =>
    go_wp2_with fail
    go_ret2
    rw [HE.out, H2.out.resolve_right (by decide)]
    exact ⟨rfl, hb0.trans (hb1.mono (by simp))⟩
/-- how many hashes a level has -/
def cntF (s : Nat) (l : Int) : Nat := if l < 0 ∨ 5 < l then 0 else s / 16 ^ l.toNat
theorem cnt_le (s : Nat) (l : Int) : cntF s l ≤ s := by
  unfold cntF
  split
  · omega
  · exact Nat.div_le_self _ _
set_option maxRecDepth 100000 in
theorem Count_any (s : Nat) (l : Int) (_ : s < 18446744073709551616) (w : World) :
    Calls Tryd.prog 14 #[.int .u64 (s : Int), .int .i64 l] w fun e w' => e = .returned (.int .u64 (cntF s l : Int)) ∧ w = w' := by
  by_cases h1 : l < 0
  · have e : cntF s l = 0 := if_pos (.inl h1)
    rw [e]
    go_enter Tryd.func14, Tryd.ntmps14
    go_wp2
    go_ret
    exact ⟨rfl, rfl⟩
  · by_cases h2 : 5 < l
    · have e : cntF s l = 0 := if_pos (.inr h2)
      rw [e]
      go_enter Tryd.func14, Tryd.ntmps14
      go_wp2
      go_ret
      exact ⟨rfl, rfl⟩
    · have e : cntF s l = s / 16 ^ l.toNat := if_neg (by omega)
      rw [e]
      have hc : l = 0 ∨ l = 1 ∨ l = 2 ∨ l = 3 ∨ l = 4 ∨ l = 5 := by omega
      clear h1 h2 e
      rcases hc with rfl | rfl | rfl | rfl | rfl | rfl
      all_goals
        go_enter Tryd.func14, Tryd.ntmps14
        go_wp2
        go_ret
        refine ⟨?_, rfl⟩
        refine congrArg (fun x : Int => Ending.returned (.int .u64 x)) (?_ : _ = ((s / _ : Nat) : Int))
        rw [Int.natCast_ediv]
        simp
set_option maxRecDepth 100000 in
theorem Need_any (s : Nat) (l : Int) (hs : s < 18446744073709551616) (w : World) :
    Calls Tryd.prog 13 #[.int .u64 (s : Int), .int .i64 l] w fun e w' => e = .returned (.tuple #[.int .u64 ((cntF s l / 16 : Nat) : Int), .int .i64 ((cntF s l % 16 : Nat) : Int)]) ∧ w = w' := by
  have H := Count_any s l hs w
  have hc := cnt_le s l
  generalize cntF s l = n at H hc ⊢
  have hw : IntKind.i64.wrap ((n : Int) % 16) = (n : Int) % 16 := by rw [IntKind.wrap_i64]; omega
  have e1 : ((n / 16 : Nat) : Int) = (n : Int) / 16 := by simp
  have e2 : ((n % 16 : Nat) : Int) = (n : Int) % 16 := by simp
  rw [e1, e2]
  clear e1 e2
  go_enter Tryd.func13, Tryd.ntmps13
  go_wp2_with (go_at_call 14; go_loud (refine H.mono ?_); rintro e w1 ⟨rfl, rfl⟩)
  go_ret2
  exact ⟨rfl, rfl⟩
end Go.Proofs.YtfidajbenmgflaaDoor
