/-
  The document's digits, Name and Count. Conditions: those in each statement.
-/
import Derived.Test.YtfidajbenmgflaaDoorTiP
namespace Go.Proofs.YtfidajbenmgflaaDoor
open Go.RowKit

section
variable {ops : Array Oper} {rest : List Oper} {o : Oper} {a : Act} {Q : Exit → Act → World → Prop} {w : World}
/-- one text behind the other -/
theorem wl_cat (hg : o.guard = none) (x y : Operand) (r : TypeId) (ho : o.op = .binOp .add 9 x y r) (A B C : List UInt8) (hC : A ++ B = C) (hl : A.length + B.length ≤ 1000000) (hx : a.eval x = txt A) (hy : a.eval y = txt B)
    (hK : wpList Tryd.prog ops Q rest (a.put o.dst (txt C)) w) : wpList Tryd.prog ops Q (o :: rest) a w :=
  wpList_plain hg fun _ hK' => ow_cat x y r ho A B C hC hl hx hy (hK' _ _ hK)
end
/-- the last digits of a number, from the last one on -/
def lo (n : Nat) : Nat → List UInt8
  | 0 => []
  | k + 1 => [UInt8.ofNat (48 + n / 10 ^ k % 10)] ++ lo n k
theorem lo_step : ∀ k n, lo (n / 10) k ++ [UInt8.ofNat (48 + n % 10)] = lo n (k + 1)
  | 0, n => by simp [lo]
  | k + 1, n => by
    have ih := lo_step k n
    rw [lo, List.append_assoc, ih]
    conv => rhs; rw [lo]
    rw [Nat.div_div_eq_div_mul, Nat.pow_succ, Nat.mul_comm 10]
theorem lo_dg : ∀ k n, lo n k = dg k n
  | 0, _ => rfl
  | k + 1, n => by rw [← lo_step k n, lo_dg k (n / 10), dg]
theorem lo_len (n : Nat) : ∀ k, (lo n k).length = k
  | 0 => rfl
  | k + 1 => by rw [lo, List.length_append, lo_len n k]; simp; omega
set_option maxRecDepth 100000 in
set_option maxHeartbeats 1600000 in
theorem rlaid_any (n m : Nat) (hn : n < 18446744073709551616) (hm : m ≤ 20) (w : World) :
    Calls Tryd.prog 25 #[.int .u64 (n : Int), .int .i64 (m : Int)] w fun e w' => e = .returned (txt (dg m n)) ∧ Below w.heap.size w w' := by
  go_enter Tryd.func25, Tryd.ntmps25
  go_upto_region 3 with fail
  go_loopw [0, 5, 6] (fun q s ix wr => ∃ k : Nat, k ≤ m ∧ q = .int .u64 ((n / 10 ^ k : Nat) : Int) ∧ s = txt (lo n k) ∧ ix = .int .i64 (k : Int) ∧ Below w.heap.size w wr) (fun _ _ ix _ => m - (intOf ix).toNat)
  case atStart => exact ⟨0, by omega, by simp, rfl, rfl, Below.refl _ _⟩
  case round =>
    obtain ⟨k, hk, rfl, rfl, rfl, hbr⟩ := hrel
    have HBR := Lib.hid hbr
    clear hbr
    by_cases hlt : k < m
    · have hlti : (k : Int) < (m : Int) := by omega
      obtain ⟨q, hq⟩ : ∃ q, q = n / 10 ^ k := ⟨_, rfl⟩
      have hqn : q < 18446744073709551616 := by rw [hq]; exact Nat.lt_of_le_of_lt (Nat.div_le_self _ _) hn
      have HQ := Lib.hid hq
      rw [← hq]
      clear hq
      obtain ⟨c, hc⟩ : ∃ c : UInt8, c = UInt8.ofNat (48 + q % 10) := ⟨_, rfl⟩
      have hcn : c.toNat = 48 + q % 10 := by rw [hc]; exact dig_nat _ (Nat.mod_lt _ (by omega))
      have hv1 : IntKind.u64.wrap (48 + (q : Int) % 10) = ((c.toNat : Nat) : Int) := by rw [IntKind.wrap_u64, hcn]; omega
      have hv2 : IntKind.u8.wrap ((c.toNat : Nat) : Int) = ((c.toNat : Nat) : Int) := by
        have := c.toNat_lt
        rw [show IntKind.u8.wrap ((c.toNat : Nat) : Int) = ((c.toNat : Nat) : Int) % 256 from rfl]
        omega
      have HDV : Hid ((q : Int) / 10 = ((q / 10 : Nat) : Int)) := by show _ = _; simp
      have hrd : Rd (wr.alloc (.cells #[.int .u8 ((c.toNat : Nat) : Int)] 5)) (some ⟨wr.heap.size, 0, none⟩) 1 1 [c] := by have h := rd_arr (Arr.new wr 5 (bvs [c])); exact h
      have hcv : (convert 38 9 (.slice (some ⟨wr.heap.size, 0, none⟩) 1 1)).run Tryd.prog (wr.alloc (.cells #[.int .u8 ((c.toNat : Nat) : Int)] 5)) = .ok (txt [c]) (wr.alloc (.cells #[.int .u8 ((c.toNat : Nat) : Int)] 5)) := run_bstr bt Tryd.underlying9 hrd
      have HC := Lib.hid hc
      clear hrd hc hcn
      go_wp2_with ((with_reducible show wpList _ _ _ (⟨some 19, _, _, _, _, _⟩ :: _) _ _); go_loud (refine wl_cat rfl _ _ _ rfl [c] (lo n k) (lo n (k + 1)) (by rw [lo, ← HQ.out, HC.out]) (by rw [lo_len]; simp; omega) rfl rfl ?_))
      go_roundw
      case rel => exact ⟨k + 1, by omega, by rw [HDV.out, HQ.out, Nat.div_div_eq_div_mul, Nat.pow_succ], rfl, by go_num, HBR.out.trans (((Below.refl _ _).alloc (Nat.le_refl _) _).mono HBR.out.size)⟩
      case measure => simp [intOf]; omega
    · have e : k = m := by omega
      subst e
      go_wp2_with fail
      go_ret
      refine ⟨?_, HBR.out⟩
      rw [← lo_dg]
      rfl
set_option maxRecDepth 100000 in
set_option maxHeartbeats 1600000 in
theorem rCount_any (s : Nat) (l : Int) (hs : s < 18446744073709551616) (w : World) :
    Calls Tryd.prog 12 #[.int .u64 (s : Int), .int .i64 l] w fun e w' => e = .returned (.int .u64 (cntF s l : Int)) ∧ w = w' := by
  by_cases h1 : l < 0
  · have e : cntF s l = 0 := if_pos (.inl h1)
    rw [e]
    go_enter Tryd.func12, Tryd.ntmps12
    go_wp2
    go_ret
    exact ⟨rfl, rfl⟩
  · by_cases h2 : 5 < l
    · have e : cntF s l = 0 := if_pos (.inr h2)
      rw [e]
      go_enter Tryd.func12, Tryd.ntmps12
      go_wp2
      go_ret
      exact ⟨rfl, rfl⟩
    · have e : cntF s l = s / 16 ^ l.toNat := if_neg (by omega)
      rw [e]
      obtain ⟨m, rfl⟩ : ∃ m : Nat, l = m := ⟨l.toNat, by omega⟩
      have hm : m ≤ 5 := by omega
      rw [Int.toNat_natCast]
      have h1' : ¬ (m : Int) < 0 := by omega
      have h2' : ¬ (5 : Int) < (m : Int) := by omega
      clear e h1 h2
      go_enter Tryd.func12, Tryd.ntmps12
      go_upto_region 4 with fail
      go_loop [0, 5] (fun q ix => ∃ k : Nat, k ≤ m ∧ q = .int .u64 ((s / 16 ^ k : Nat) : Int) ∧ ix = .int .i64 (k : Int)) (fun _ ix => m - (intOf ix).toNat)
      case atStart => exact ⟨0, by omega, by simp, rfl⟩
      case round =>
        obtain ⟨k, hk, rfl, rfl⟩ := hrel
        by_cases hlt : k < m
        · have hlti : (k : Int) < (m : Int) := by omega
          obtain ⟨q, hq⟩ : ∃ q, q = s / 16 ^ k := ⟨_, rfl⟩
          have hqs : q < 18446744073709551616 := by rw [hq]; exact Nat.lt_of_le_of_lt (Nat.div_le_self _ _) hs
          have HWQ : Hid (IntKind.u64.wrap ((q / 16 : Nat) : Int) = ((q / 16 : Nat) : Int)) := by show _ = _; rw [IntKind.wrap_u64]; omega
          have HQ := Lib.hid hq
          rw [← hq]
          clear hq hqs
          have HDV : Hid ((q : Int) / 16 = ((q / 16 : Nat) : Int)) := by show _ = _; simp
          go_wp2_with fail
          go_roundw
          case rel => exact ⟨k + 1, by omega, by rw [HDV.out, HWQ.out, HQ.out, Nat.div_div_eq_div_mul, Nat.pow_succ], by go_num⟩
          case measure => simp [intOf]; omega
        · have e : k = m := by omega
          subst e
          go_wp2_with fail
          go_ret
          exact ⟨rfl, rfl⟩
theorem wrap_nat2' (n : Nat) (h : n ≤ 100) : (IntKind.u64.wrap (n : Int)).toNat = n := by
  rw [IntKind.wrap_u64]; omega
theorem ok_iff {l : Int} {n : Nat} {v : Int} (h1 : -9223372036854775808 ≤ l) (h2 : l ≤ 9223372036854775807) (h3 : -9223372036854775808 ≤ v) (h4 : v ≤ 9223372036854775807) :
    okTo (rowF l n v) 3 = true ↔ (0 ≤ l ∧ l ≤ 5) ∧ n ≤ 999999 ∧ 1 ≤ v ∧ v ≤ 16 := by
  have e : okTo (rowF l n v) 3 = (((true && (decide (0 ≤ (IntKind.u64.wrap l).toNat) && decide ((IntKind.u64.wrap l).toNat ≤ 5))) && (decide (0 ≤ n) && decide (n ≤ 999999))) && (decide (1 ≤ (IntKind.u64.wrap v).toNat) && decide ((IntKind.u64.wrap v).toNat ≤ 16))) := rfl
  rw [e]
  simp only [Bool.true_and, Bool.and_eq_true, decide_eq_true_eq, IntKind.wrap_u64]
  omega
theorem name_dg {l : Int} {n : Nat} {v : Int} (ho : okTo (rowF l n v) 3 = true) :
    nameTo (rowF l n v) 3 = [116] ++ dg 1 (rowF l n v 0) ++ [45] ++ dg 6 n ++ [45] ++ dg 2 (rowF l n v 2) := by
  have h0 := (ok_at ho (k := 0) (by omega)).2
  have h1 := (ok_at ho (k := 1) (by omega)).2
  have h2 := (ok_at ho (k := 2) (by omega)).2
  simp only [nameTo, piece_dg (show 0 < 3 by omega) h0, piece_dg (show 1 < 3 by omega) h1, piece_dg (show 2 < 3 by omega) h2, List.nil_append]
  simp [ahd, dgt, rowF]
set_option maxRecDepth 100000 in
set_option maxHeartbeats 1600000 in
theorem rName_any (l : Int) (n : Nat) (v : Int) (h1 : -9223372036854775808 ≤ l) (h2 : l ≤ 9223372036854775807) (h3 : -9223372036854775808 ≤ v) (h4 : v ≤ 9223372036854775807) (hn : n < 18446744073709551616) (w : World) :
    Calls Tryd.prog 9 #[.int .i64 l, .int .u64 (n : Int), .int .i64 v] w fun e w' => e = .returned (.tuple #[txt (layT (rowF l n v)), .int .i64 (nameE (rowF l n v))]) ∧ Below w.heap.size w w' := by
  have hok := ok_iff (n := n) h1 h2 h3 h4
  by_cases ho : okTo (rowF l n v) 3 = true
  · obtain ⟨⟨a1, a2⟩, a3, a4, a5⟩ := hok.1 ho
    have e1 : layT (rowF l n v) = nameTo (rowF l n v) 3 := if_pos ho
    have e2 : nameE (rowF l n v) = 0 := if_pos ho
    rw [e1, e2, name_dg ho]
    obtain ⟨x, rfl⟩ : ∃ x : Nat, l = x := ⟨l.toNat, by omega⟩
    obtain ⟨y, rfl⟩ : ∃ y : Nat, v = y := ⟨v.toNat, by omega⟩
    have f0 : rowF (x : Int) n (y : Int) 0 = x := wrap_nat2' x (by omega)
    have f2 : rowF (x : Int) n (y : Int) 2 = y := wrap_nat2' y (by omega)
    rw [f0, f2]
    have w0 : IntKind.u64.wrap (x : Int) = (x : Int) := by rw [IntKind.wrap_u64]; omega
    have w2 : IntKind.u64.wrap (y : Int) = (y : Int) := by rw [IntKind.wrap_u64]; omega
    have b1 : ¬ (x : Int) < 0 := by omega
    have b2 : ¬ (5 : Int) < (x : Int) := by omega
    have b3 : ¬ (999999 : Int) < (n : Int) := by omega
    have b4 : ¬ (y : Int) < 1 := by omega
    have b5 : ¬ (16 : Int) < (y : Int) := by omega
    have HL1 := Lib.hid (dg_len 1 x)
    have HL6 := Lib.hid (dg_len 6 n)
    have HL2 := Lib.hid (dg_len 2 y)
    have HC1 : Hid (∀ W, Calls Tryd.prog 25 #[.int .u64 (x : Int), .int .i64 1] W fun e w' => e = .returned (txt (dg 1 x)) ∧ Below W.heap.size W w') := fun W => rlaid_any x 1 (by omega) (by omega) W
    have HC6 : Hid (∀ W, Calls Tryd.prog 25 #[.int .u64 (n : Int), .int .i64 6] W fun e w' => e = .returned (txt (dg 6 n)) ∧ Below W.heap.size W w') := fun W => rlaid_any n 6 (by omega) (by omega) W
    have HC2 : Hid (∀ W, Calls Tryd.prog 25 #[.int .u64 (y : Int), .int .i64 2] W fun e w' => e = .returned (txt (dg 2 y)) ∧ Below W.heap.size W w') := fun W => rlaid_any y 2 (by omega) (by omega) W
    clear hok ho e1 e2 f0 f2 a1 a2 a3 a4 a5 h1 h2 h3 h4
    generalize dg 1 x = D1 at HL1 HC1 ⊢
    generalize dg 6 n = D6 at HL6 HC6 ⊢
    generalize dg 2 y = D2 at HL2 HC2 ⊢
    go_enter Tryd.func9, Tryd.ntmps9
    go_wp2_with (first
      | (go_at_call 25; (have _g := HC1); go_loud (refine (HC1.out _).mono ?_); rintro e x1 ⟨rfl, y1⟩; clear HC1)
      | (go_at_call 25; (have _g := HC6); go_loud (refine (HC6.out _).mono ?_); rintro e x2 ⟨rfl, y2⟩; clear HC6)
      | (go_at_call 25; go_loud (refine (HC2.out _).mono ?_); rintro e x3 ⟨rfl, y3⟩)
      | ((with_reducible show wpList _ _ _ (⟨some 29, _, _, _, _, _⟩ :: _) _ _); go_loud (refine wl_cat rfl _ _ _ rfl ([116]) (D1) (116 :: D1) (rfl) (by have h1 := HL1.out; simp; omega) rfl rfl ?_))
      | ((with_reducible show wpList _ _ _ (⟨some 30, _, _, _, _, _⟩ :: _) _ _); go_loud (refine wl_cat rfl _ _ _ rfl (116 :: D1) ([45]) (116 :: (D1 ++ [45])) (rfl) (by have h1 := HL1.out; simp; omega) rfl rfl ?_))
      | ((with_reducible show wpList _ _ _ (⟨some 33, _, _, _, _, _⟩ :: _) _ _); go_loud (refine wl_cat rfl _ _ _ rfl (116 :: (D1 ++ [45])) (D6) (116 :: (D1 ++ 45 :: D6)) (by simp) (by have h1 := HL1.out; have h6 := HL6.out; simp; omega) rfl rfl ?_))
      | ((with_reducible show wpList _ _ _ (⟨some 34, _, _, _, _, _⟩ :: _) _ _); go_loud (refine wl_cat rfl _ _ _ rfl (116 :: (D1 ++ 45 :: D6)) ([45]) (116 :: (D1 ++ 45 :: (D6 ++ [45]))) (by simp) (by have h1 := HL1.out; have h6 := HL6.out; simp; omega) rfl rfl ?_))
      | ((with_reducible show wpList _ _ _ (⟨some 38, _, _, _, _, _⟩ :: _) _ _); go_loud (refine wl_cat rfl _ _ _ rfl (116 :: (D1 ++ 45 :: (D6 ++ [45]))) (D2) (116 :: (D1 ++ 45 :: (D6 ++ 45 :: D2))) (by simp) (by have h1 := HL1.out; have h6 := HL6.out; have h2 := HL2.out; simp; omega) rfl rfl ?_)))
    go_ret2
    exact ⟨by simp, (y1.trans (y2.mono y1.size)).trans (y3.mono (y1.trans (y2.mono y1.size)).size)⟩
  · have e1 : layT (rowF l n v) = [] := if_neg ho
    have e2 : nameE (rowF l n v) = 1 := if_neg ho
    rw [e1, e2]
    have hno : l < 0 ∨ (¬ l < 0 ∧ 5 < l) ∨ ((¬ l < 0 ∧ ¬ 5 < l) ∧ (999999 : Int) < (n : Int)) ∨ ((¬ l < 0 ∧ ¬ 5 < l) ∧ ¬ (999999 : Int) < (n : Int) ∧ v < 1) ∨ ((¬ l < 0 ∧ ¬ 5 < l) ∧ ¬ (999999 : Int) < (n : Int) ∧ ¬ v < 1 ∧ 16 < v) := by
      have : ¬ ((0 ≤ l ∧ l ≤ 5) ∧ n ≤ 999999 ∧ 1 ≤ v ∧ v ≤ 16) := fun h => ho (hok.2 h)
      omega
    clear hok ho e1 e2 h1 h2 h3 h4 hn
    rcases hno with b1 | ⟨b1, b2⟩ | ⟨⟨b1, b2⟩, b3⟩ | ⟨⟨b1, b2⟩, b3, b4⟩ | ⟨⟨b1, b2⟩, b3, b4, b5⟩
    all_goals
      go_enter Tryd.func9, Tryd.ntmps9
      go_wp2_with fail
      go_ret2
      exact ⟨rfl, Below.refl _ _⟩
end Go.Proofs.YtfidajbenmgflaaDoor
