/-
  WireSame holds for arguments of bulk at most 1048576: what is taken as a vector, laid down again, is the bytes that went; the arguments read as they did.
-/
import Derived.Test.YtfcncojellhloaaWireF
import Derived.Test.YtfcncojellhloaaTop
namespace Go.Proofs.Ytfcncojellhloaa
open Go.ChangeShapes Go.WideShapes Go.ChangeAt Go.RowKit

theorem digits_snoc (n k : Nat) : digits n (k + 1) = digits (n / 256) k ++ [UInt8.ofNat n] := by
  unfold digits
  rw [List.range_succ, List.map_append]
  congr 1
  · apply List.map_congr_left
    intro i hi
    have : i < k := by simpa using hi
    unfold digit
    rw [Nat.div_div_eq_div_mul, show k + 1 - 1 - i = (k - 1 - i) + 1 from by omega, Nat.pow_succ, Nat.mul_comm]
  · simp [digit]
theorem digits_beNat (xs : List UInt8) (k : Nat) (h : k ≤ xs.length) : digits (beNat (xs.take k)) k = xs.take k := by
  induction k with
  | zero => simp [digits]
  | succ k ih =>
    rw [take_succ_getD xs k (by omega), beNat_snoc, digits_snoc]
    have hx := (xs[k]).toNat_lt
    have e1 : (256 * beNat (xs.take k) + (xs[k]).toNat) / 256 = beNat (xs.take k) := by omega
    have e2 : UInt8.ofNat (256 * beNat (xs.take k) + (xs[k]).toNat) = xs[k] := by
      apply UInt8.toNat_inj.1
      rw [UInt8.toNat_ofNat']
      omega
    rw [e1, e2, ih (by omega)]
theorem beNat_digits (n k : Nat) (h : n < 256 ^ k) : beNat (digits n k) = n := by
  induction k generalizing n with
  | zero => simp [digits, beNat]; omega
  | succ k ih =>
    rw [digits_snoc, beNat_snoc, ih (n / 256) (by rw [Nat.pow_succ] at h; omega), UInt8.toNat_ofNat']
    omega

/-- what is taken, laid down again, is the bytes that went -/
theorem same_plain (xs : List UInt8) (k : Nat) (hk1 : 1 ≤ k) (hk : k ≤ 3) :
    (rvecF xs k = ([], 4, xs)) ∨ (∃ nb, k + nb ≤ xs.length ∧ rvecF xs k = ((xs.drop k).take nb, 0, xs.drop (k + nb)) ∧ vecF [] ((xs.drop k).take nb) k = (xs.take (k + nb), 0) ∧ nb ≤ 16777215) := by
  have hv : vecB k = true := by simp [vecB]; omega
  by_cases h1 : xs.length < k
  · exact .inl (by simp [rvecF, hv, h1])
  · by_cases h2 : xs.length < k + beNat (xs.take k)
    · exact .inl (by simp [rvecF, hv, h1, h2])
    · refine .inr ⟨beNat (xs.take k), by omega, by simp [rvecF, hv, h1, h2], ?_, be_vec xs k hk⟩
      have hl : ((xs.drop k).take (beNat (xs.take k))).length = beNat (xs.take k) := by simp; omega
      have hlt := beNat_lt (xs.take k)
      have hkl : (xs.take k).length = k := by simp; omega
      rw [hkl] at hlt
      unfold vecF
      rw [hl]
      simp only [hv, if_true, Int.toNat_natCast, hlt, List.nil_append]
      rw [digits_beNat xs k (by omega), ← List.take_add]

set_option maxHeartbeats 800000 in
theorem Same_any (a : Option Addr) (n cap : Nat) (size : Int) (xs : List UInt8) (w : World) (hm : n ≤ 1048576) (hr : Rd w a n cap xs) :
    Calls Try.prog 6 #[.slice a n cap, .int .i64 size] w fun e w' => e = .returned (.bool true) ∧ Below w.heap.size w w' := by
  go_enter Try.func6, Try.ntmps6
  go_wp2_with fail
  refine (New_any a n cap xs _ (by omega) hr).mono ?_
  rintro e w1 ⟨q, r, rfl, hrd, hq, hrs, hb1⟩
  have hk : ∃ k : Nat, wrap64 (1 + wrap64 ((IntKind.u64.wrap size).tmod 3)) = (k : Int) ∧ 1 ≤ k ∧ k ≤ 3 := by
    rw [IntKind.wrap_u64, IntWalk.rem_in _ _ (by omega)]
    unfold wrap64
    exact ⟨(1 + (size % 18446744073709551616) % 3).toNat, by omega, by omega, by omega⟩
  obtain ⟨k, hk, hk1, hk3⟩ := hk
  have hl := hr.len
  go_wp2_with fail
  clear hk
  rcases same_plain xs k hk1 hk3 with e1 | ⟨nb, hnb, e1, e2, hnb2⟩
  · refine (RVec_any q r xs k w1 (by omega) hrd).mono ?_
    rintro e w2 ⟨v, rfl, ho, hrd2, hg⟩
    rw [e1] at ho hrd2 ⊢
    clear e1 hrd
    have hb2 : Below w.heap.size w w2 := hb1.grown hg hb1.size (by intro k e; cases e; exact hrs)
    obtain ⟨a2, c2, rfl, _⟩ := ho.shape
    clear hl ho
    go_wp2_with fail
    refine (awake_any _).mono ?_
    rintro e w3 ⟨rfl, hb3⟩
    go_wp2_with fail
    refine (Left_any q r xs _ (hrd2.kept hb3.size (fun k hk => hb3.block k (by have := hq k hk; have := hg.size; omega)) (hb3.block r hrd2.lt))).mono ?_
    rintro e w4 ⟨rfl, rfl⟩
    go_wp2_with fail
    go_ret
    refine ⟨ret_bool ?_, hb2.trans (hb3.mono hb2.size)⟩
    simp [hr.len]
  · refine (RVec_any q r xs k w1 (by omega) hrd).mono ?_
    rintro e w2 ⟨v, rfl, ho, hrd2, hg⟩
    rw [e1] at ho hrd2 ⊢
    clear e1 hrd
    have hb2 : Below w.heap.size w w2 := hb1.grown hg hb1.size (by intro k e; cases e; exact hrs)
    obtain ⟨a2, c2, rfl, _⟩ := ho.shape
    have hlen : ((xs.drop k).take nb).length = nb := by simp; omega
    simp only [hlen] at ho ⊢
    go_wp2_with fail
    refine (Vec_any none _ 0 0 nb c2 k [] _ _ (by omega) (by omega) (Rd.none _) ho.rd.toRd).mono ?_
    rintro e w3 ⟨v3, rfl, ho3, hb3⟩
    rw [e2] at ho3 ⊢
    clear e2
    obtain ⟨a3, c3, rfl, _⟩ := ho3.shape
    have hlen3 : (xs.take (k + nb)).length = k + nb := by simp; omega
    simp only [hlen3] at ho3 ⊢
    go_wp2_with fail
    refine (awake_any _).mono ?_
    rintro e w4 ⟨rfl, hb4⟩
    go_wp2_with fail
    have hrd4 := hrd2.kept (w' := w4) (Nat.le_trans hb3.size hb4.size) (fun k hk => (hb4.block k (by have := hq k hk; have := hg.size; have := hb3.size; omega)).trans (hb3.block k (by have := hq k hk; have := hg.size; omega))) ((hb4.block r (Nat.lt_of_lt_of_le hrd2.lt hb3.size)).trans (hb3.block r hrd2.lt))
    refine (Left_any q r _ _ hrd4).mono ?_
    rintro e w5 ⟨rfl, rfl⟩
    obtain ⟨m, hm1, hm2, hm3⟩ : ∃ m : Nat, (xs.drop (k + nb)).length = m ∧ k + nb + m ≤ n ∧ n ≤ k + nb + m := ⟨n - (k + nb), by simp; omega, by omega, by omega⟩
    rw [hm1]
    clear hm1
    have ht : ((k : Int) + (nb : Int) + (m : Int) == (n : Int)) = true := by rw [beq_iff_eq]; omega
    have hbw : Below w.heap.size w w4 := hb2.trans ((hb3.trans (hb4.mono hb3.size)).mono hb2.size)
    have hle : k + nb ≤ n := by omega
    have hcap := hr.le
    have H3 := Lib.hid (ho3.rd.to hb4).toRd
    have H0 := Lib.hid ((hr.take (k + nb) hle).to hbw)
    clear hr ho3 ho hrd2 hrd4 hl
    go_wp2_with fail
    refine (Equal_any _ _ _ _ _ _ _ _ _ H3.out H0.out).mono ?_
    rintro e w5 ⟨rfl, rfl⟩
    go_wp2_with fail
    go_ret
    exact ⟨ret_bool (by simp), hbw⟩

theorem cells5 : Try.prog.cellsOf 5 = 1 := by kernel_rfl

theorem wireSame_contract (H : Type) (enc : TypeId × Value → H) (W : World) (base : Nat) (args : Array Value) (ds gs : List (DataW H)) (before : List MemPlace)
    (hval : ∀ (j : Nat) t v, Try.f6.params[j]? = some t → args[j]? = some v → Value.okWide Try.prog W .any base t v)
    (hW : DataW.Whole enc Try.prog Try.f6.params.toList Rows.wireSameSpec.vars false W args.toList ds gs before) (hk : Rows.uptoSmall H (ds ++ gs) = true) :
    Calls Try.prog 6 args W fun e W' => ∃ v, e = .returned v ∧ Rows.wireSameSpec.post enc Try.prog Try.f6 false true false false W args v W' := by
  have hW' := hW
  obtain ⟨p, q, hA0, hV, rfl, _, _⟩ := hW
  have hA : DataW.TrodAll enc Try.prog W 0 (fun _ => true) true Try.f6.params.toList args.toList ds p := hA0
  have hval' := hval
  rw [Try.params6] at hA hval'
  obtain ⟨v0, v1, d0, d1, p0, p1, hargs, rfl, rfl, h0, h1⟩ := trodAll_two hA
  obtain rfl : args = #[v0, v1] := by cases args; simp_all
  obtain ⟨rfl, rfl⟩ := trodVars_none hV
  obtain ⟨a, n, cap, xs, rfl, hr, hn⟩ := rd_of_trod bt cells5 (hval' 0 22 v0 rfl rfl) h0 (fun _ => rfl)
  obtain ⟨m, rfl, rfl, rfl, hwf⟩ := open_int Try.underlying3 (hval' 1 3 v1 rfl rfl) h1
  have hb := bulk_bound hk
  simp only [List.append_nil, Rows.uptoBulkAll] at hb
  refine (Same_any a n cap m xs W (by omega) hr).mono fun e W' ⟨he, hw⟩ => ?_
  subst he
  exact ⟨_, rfl, law_post laidOuts (by kernel_rfl) rfl Try.underlying4 rfl hW' hw rfl⟩

set_option maxRecDepth 100000 in
theorem wireSame_lifted (os : Os) (started : os.Started) (H : Type) (enc : TypeId × Value → H) (F : Stop.Interp) :
    ReturnsInHanded {} Try.checked os 6 .any ((Rows.OpenSpec.upto Rows.wireSameSpec).pre6 enc Try.prog Try.f6 Rows.wireSameUptoRow.domain false) (((Rows.OpenSpec.upto Rows.wireSameSpec).at F).post enc Try.prog Try.f6 false true false false) := by
  refine returnsInHanded_of_cond (C := Try.checked) (s := Rows.OpenSpec.upto Rows.wireSameSpec) (k := Rows.uptoSmall) rfl ownKnobs started (by kernel_rfl) Try.func6
    (OpenSpec.witness (enc := enc) (C := Try.checked) (s := Rows.OpenSpec.upto Rows.wireSameSpec) (k := Rows.uptoSmall) rfl false ⟨#[], #[.slice none 0 0, .int .i64 0], []⟩ 8 (by kernel_rfl) (by kernel_rfl) (by kernel_rfl)
      (x := ([.nil, .lit (.int .i64 0)], [], [])) (by kernel_rfl) rfl (by kernel_rfl)) ?_
  intro W base args ds gs before hval hW _ hk _
  exact wireSame_contract H enc W base args ds gs before hval hW hk

theorem wireSame_proved : Rows.WireSameUptoSaid :=
  OpenClaim.holds_of_cond 6 Try.f6 rfl rfl rfl rfl rfl rfl rfl ⟨rfl, rfl, rfl, rfl, rfl⟩ rfl rfl rfl rfl rfl (by kernel_rfl) Try.func6 (by kernel_rfl)
    (of_decide_eq_true (by kernel_rfl)) (by unfold Func.isWrapper; first | (rw [if_pos (by decide +kernel)]; kernel_rfl) | (rw [if_neg (by decide +kernel)]; exact ⟨rfl, rfl⟩))
    (fun os started H enc _ F => wireSame_lifted os started H enc F)
end Go.Proofs.Ytfcncojellhloaa
