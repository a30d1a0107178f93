/-
  Package tiles: a row of numbers laid as a name. Conditions: those in each statement.
-/
import Derived.Test.YtfidajbenmgflaaDoorTiA
import Derived.Test.YtfidajbenmgflaaDoorArr
import Derived.Test.YtfidajbenmgflaaDoorReg
import Derived.Test.YtfidajbenmgflaaDoorRegF
import Derived.Deep.CutBlock
namespace Go.Proofs.YtfidajbenmgflaaDoor
open Go.RowKit

/-- the fields of a name: what stands ahead, how many digits, the least, the most -/
def ahd : Nat → List UInt8
  | 0 => [116]
  | _ => [45]
def dgt : Nat → Nat
  | 0 => 1
  | 1 => 6
  | _ => 2
def lst : Nat → Nat
  | 0 => 0
  | 1 => 0
  | _ => 1
def mst : Nat → Nat
  | 0 => 5
  | 1 => 999999
  | _ => 16
def fld (k : Nat) : List Value := [txt (ahd k), .int .i64 (dgt k : Int), .int .u64 (lst k : Int), .int .u64 (mst k : Int)]
def flds : List Value := fld 0 ++ fld 1 ++ fld 2
theorem fld_one (k : Nat) : ∀ v ∈ fld k, v.oneCell' = true := fun v hv => by
  simp only [fld, List.mem_cons, List.not_mem_nil, or_false] at hv
  rcases hv with rfl | rfl | rfl | rfl <;> rfl
theorem fld_len (k : Nat) : (fld k).length = 4 := rfl
set_option maxRecDepth 100000 in
theorem fields_any (w : World) : Calls Tryd.prog 32 #[] w fun e w' => e = .returned (.agg flds.toArray) ∧ Below w.heap.size w w' := by
  go_enter Tryd.func32, Tryd.ntmps32
  go_wp2
  refine end_cell rfl w.heap.size 76 flds (.array 3 75) rfl (Arr.new w _ _) Tryd.underlying76 rfl (by kernel_rfl) rfl ⟨rfl, (Below.refl _ _).alloc (Nat.le_refl _) _⟩
/-- as many digits as that -/
def padD (k d : Nat) : List UInt8 := List.replicate (k - Lib.nDigits d) 48 ++ Lib.decDigits d
def piece (f : Nat → Nat) (k : Nat) : List UInt8 := ahd k ++ padD (dgt k) (f k)
def nameTo (f : Nat → Nat) : Nat → List UInt8
  | 0 => []
  | k + 1 => nameTo f k ++ piece f k
def okF (f : Nat → Nat) (k : Nat) : Bool := decide (lst k ≤ f k) && decide (f k ≤ mst k)
def okTo (f : Nat → Nat) : Nat → Bool
  | 0 => true
  | k + 1 => okTo f k && okF f k
def layT (f : Nat → Nat) : List UInt8 := if okTo f 3 then nameTo f 3 else []
theorem okTo_mono {f : Nat → Nat} {k m : Nat} (h : k ≤ m) (ho : okTo f m = true) : okTo f k = true := by
  induction m with
  | zero => rw [Nat.le_zero.1 h]; rfl
  | succ m ih =>
    rcases Nat.lt_or_ge k (m + 1) with h1 | h1
    · exact ih (by omega) (by have := ho; simp only [okTo, Bool.and_eq_true] at this; exact this.1)
    · rw [show k = m + 1 by omega]; exact ho
theorem nDigits_le : ∀ (d u : Nat), 1 ≤ d → u < 10 ^ d → Lib.nDigits u ≤ d
  | 0, _, h, _ => absurd h (by omega)
  | d + 1, u, _, hu => by
    by_cases h : u < 10
    · rw [Lib.nDigits_small h]; omega
    · rw [Lib.nDigits_big h]
      cases d with
      | zero => simp at hu; omega
      | succ d =>
        have := nDigits_le (d + 1) (u / 10) (by omega) (by rw [Nat.pow_succ] at hu; omega)
        omega
theorem digits_fit {f : Nat → Nat} {k : Nat} (hk : k < 3) (h : okF f k = true) : Lib.nDigits (f k) ≤ dgt k := by
  unfold okF at h
  simp only [Bool.and_eq_true, decide_eq_true_eq] at h
  have h2 := h.2
  have hc : k = 0 ∨ k = 1 ∨ k = 2 := by omega
  rcases hc with rfl | rfl | rfl
  · exact nDigits_le 1 _ (by omega) (by have : mst 0 = 5 := rfl; omega)
  · exact nDigits_le 6 _ (by omega) (by have : mst 1 = 999999 := rfl; omega)
  · exact nDigits_le 2 _ (by omega) (by have : mst 2 = 16 := rfl; omega)
structure InvLay5A (f : Nat → Nat) (k b off g : Nat) (W0 : World) (L : Nat → Bool) (v13 v14 v15 v16 v17 v18 v19 v20 v21 v22 v23 v24 v25 v26 v27 v28 : Value) (wx : World) : Prop where
  t0 : L 0 = true → v13 = .slice (some ⟨b, off, none⟩) 3 3
  t1 : L 1 = true → v14 = .int .i64 ↑k
  t2 : L 2 = true → v15 = .pointer (some ⟨b, off + k, none⟩)
  t3 : L 3 = true → v16 = .int .u64 (f k : Int)
  t4 : L 4 = true → v17 = .pointer (some ⟨g, 2, none⟩)
  t5 : L 5 = true → v18 = .int .u64 (lst k : Int)
  t6 : L 6 = true → v19 = .bool true
  t7 : L 7 = true → v20 = .bool true
  t8 : L 8 = true → v21 = v21
  t9 : L 9 = true → v22 = v22
  t10 : L 10 = true → v23 = v23
  t11 : L 11 = true → v24 = v24
  t12 : L 12 = true → v25 = v25
  t13 : L 13 = true → v26 = v26
  t14 : L 14 = true → v27 = v27
  t15 : L 15 = true → v28 = .bool true
  bw : Below W0.heap.size W0 wx
structure InvLay5B (f : Nat → Nat) (k b off g : Nat) (W0 : World) (L : Nat → Bool) (v13 v14 v15 v16 v17 v18 v19 v20 v21 v22 v23 v24 v25 v26 v27 v28 : Value) (wx : World) : Prop where
  t0 : L 0 = true → v13 = .slice (some ⟨b, off, none⟩) 3 3
  t1 : L 1 = true → v14 = .int .i64 ↑k
  t2 : L 2 = true → v15 = .pointer (some ⟨b, off + k, none⟩)
  t3 : L 3 = true → v16 = .int .u64 (f k : Int)
  t4 : L 4 = true → v17 = .pointer (some ⟨g, 2, none⟩)
  t5 : L 5 = true → v18 = .int .u64 (lst k : Int)
  t6 : L 6 = true → v19 = .bool false
  t7 : L 7 = true → v20 = .bool false
  t8 : L 8 = true → v21 = .slice (some ⟨b, off, none⟩) 3 3
  t9 : L 9 = true → v22 = .int .i64 ↑k
  t10 : L 10 = true → v23 = .pointer (some ⟨b, off + k, none⟩)
  t11 : L 11 = true → v24 = .int .u64 (f k : Int)
  t12 : L 12 = true → v25 = .pointer (some ⟨g, 3, none⟩)
  t13 : L 13 = true → v26 = .int .u64 (mst k : Int)
  t14 : L 14 = true → v27 = .bool true
  t15 : L 15 = true → v28 = .bool true
  bw : Below W0.heap.size W0 wx
structure InvLay5C (f : Nat → Nat) (k b off g : Nat) (W0 : World) (L : Nat → Bool) (v13 v14 v15 v16 v17 v18 v19 v20 v21 v22 v23 v24 v25 v26 v27 v28 : Value) (wx : World) : Prop where
  t0 : L 0 = true → v13 = .slice (some ⟨b, off, none⟩) 3 3
  t1 : L 1 = true → v14 = .int .i64 ↑k
  t2 : L 2 = true → v15 = .pointer (some ⟨b, off + k, none⟩)
  t3 : L 3 = true → v16 = .int .u64 (f k : Int)
  t4 : L 4 = true → v17 = .pointer (some ⟨g, 2, none⟩)
  t5 : L 5 = true → v18 = .int .u64 (lst k : Int)
  t6 : L 6 = true → v19 = .bool false
  t7 : L 7 = true → v20 = .bool false
  t8 : L 8 = true → v21 = .slice (some ⟨b, off, none⟩) 3 3
  t9 : L 9 = true → v22 = .int .i64 ↑k
  t10 : L 10 = true → v23 = .pointer (some ⟨b, off + k, none⟩)
  t11 : L 11 = true → v24 = .int .u64 (f k : Int)
  t12 : L 12 = true → v25 = .pointer (some ⟨g, 3, none⟩)
  t13 : L 13 = true → v26 = .int .u64 (mst k : Int)
  t14 : L 14 = true → v27 = .bool false
  t15 : L 15 = true → v28 = .bool false
  bw : Below W0.heap.size W0 wx
structure InvLay8 (f : Nat → Nat) (k m g : Nat) (W0 : World) (L : Nat → Bool) (v34 v35 v36 v37 v38 v39 v40 v41 v42 v43 v44 v45 v46 v4 : Value) (wx : World) : Prop where
  t0 : L 0 = true → v34 = txt (nameTo f k)
  t1 : L 1 = true → v35 = .pointer (some ⟨g, 0, none⟩)
  t2 : L 2 = true → v36 = txt (ahd k)
  t3 : L 3 = true → v37 = .pointer (some ⟨g, 1, none⟩)
  t4 : L 4 = true → v38 = .int .i64 (dgt k : Int)
  t5 : L 5 = true → v39 = txt (Lib.decDigits (f k))
  t6 : L 6 = true → v40 = .int .i64 (Lib.nDigits (f k) : Int)
  t7 : L 7 = true → v41 = .int .i64 (m : Int)
  t8 : L 8 = true → v42 = txt (List.replicate m 48)
  t9 : L 9 = true → v43 = txt (ahd k ++ List.replicate m 48)
  t10 : L 10 = true → v44 = txt (Lib.decDigits (f k))
  t11 : L 11 = true → v45 = txt (ahd k ++ (List.replicate m 48 ++ Lib.decDigits (f k)))
  t12 : L 12 = true → v46 = txt (nameTo f k ++ (ahd k ++ (List.replicate m 48 ++ Lib.decDigits (f k))))
  t13 : L 13 = true → v4 = txt (nameTo f k ++ (ahd k ++ (List.replicate m 48 ++ Lib.decDigits (f k))))
  bw : Below W0.heap.size W0 wx
  q4 : L 13 = false → v4 = txt (nameTo f k)
theorem app_txt (a b : List UInt8) : (⟨a.toArray⟩ : ByteArray) ++ ⟨b.toArray⟩ = ⟨(a ++ b).toArray⟩ := by
  apply ByteArray.ext
  simp
section
variable {o : Oper} {a : Act} {K : Act → World → Prop} {Q : Exit → Act → World → Prop} {w : World}
theorem ow_cat (x y : Operand) (r : TypeId) (ho : o.op = .binOp .add 9 x y r) (A B C : List UInt8) (hC : A ++ B = C) (hl : A.length + B.length ≤ 1000000) (hx : a.eval x = txt A) (hy : a.eval y = txt B)
    (hK : K (a.put o.dst (txt C)) w) : o.wp Tryd.prog a w K Q := by
  have h := run_string_add_lists (P := Tryd.prog) w A B (by omega) (by omega)
  rw [hC] at h
  unfold Oper.wp execOp
  simp only [ho, hx, hy, binOp, eqGuard, Sem.run_bind, Sem.run_pure, ite_self, h, Result.andThen_ok]
  exact hK
end
theorem name_len (f : Nat → Nat) : ∀ k, k ≤ 3 → okTo f k = true → (nameTo f k).length ≤ 8 * k
  | 0, _, _ => Nat.le_refl _
  | k + 1, hk, ho => by
    have ih := name_len f k (by omega) (okTo_mono (Nat.le_succ k) ho)
    have h2 : okF f k = true := by simp only [okTo, Bool.and_eq_true] at ho; exact ho.2
    have hd := digits_fit (by omega) h2
    have hg : dgt k ≤ 6 := by unfold dgt; split <;> omega
    have ha : (ahd k).length = 1 := by unfold ahd; split <;> rfl
    simp only [nameTo, piece, padD, List.length_append, List.length_replicate, Lib.decDigits_length, ha]
    omega
theorem repeat_one (m : Nat) : Lib.repeatL [48] m = List.replicate m 48 := by
  induction m with
  | zero => rfl
  | succ m ih =>
    rw [Lib.repeatL, ih, List.replicate_succ]
    rfl
theorem zeros_any (m : Nat) (hm : m ≤ 100) (W : World) : Calls Tryd.prog 34 #[.string ⟨#[48]⟩, .int .i64 (m : Int)] W fun e w' => e = .returned (txt (List.replicate m 48)) ∧ Below W.heap.size W w' := by
  have h := Tryd.strings_Repeat ⟨#[48]⟩ m W (by omega) (by have e : (⟨#[48]⟩ : ByteArray).size = 1 := rfl; rw [e]; omega)
  have e : (⟨#[48]⟩ : ByteArray).data.toList = [48] := rfl
  rw [e, repeat_one] at h
  exact h
set_option maxRecDepth 100000 in
set_option maxHeartbeats 3200000 in
theorem lay_any (f : Nat → Nat) (hf : ∀ k, k < 3 → f k < 18446744073709551616) (b off : Nat) (w : World) (hT : Tabs w) (hr : ∀ k, k < 3 → w.cell? ⟨b, off + k, none⟩ = some (.int .u64 (f k : Int))) (hb : b < w.heap.size) :
    Calls Tryd.prog 24 #[.slice (some ⟨b, off, none⟩) 3 3] w fun e w' => e = .returned (.tuple #[txt (layT f), .bool (okTo f 3)]) ∧ Below w.heap.size w w' := by
  have HR := Lib.hid hr
  have HF := Lib.hid hf
  have HT := Lib.hid hT
  clear hr hf hT
  go_enter Tryd.func24, Tryd.ntmps24
  go_wp2_with (go_at_call 32; refine (fields_any _).mono ?_; rintro e w1 ⟨rfl, hb1⟩)
  have HB1 := Lib.hid hb1
  clear hb1
  go_loopw [4, 9] (fun s ix wr => ∃ k : Nat, k ≤ 3 ∧ s = txt (nameTo f k) ∧ ix = .int .i64 (k : Int) ∧ okTo f k = true ∧ Below w.heap.size w wr) (fun _ ix _ => 3 - (intOf ix).toNat)
  case atStart => exact ⟨0, by omega, rfl, rfl, rfl, HB1.out⟩
  case round =>
    obtain ⟨k, hk, rfl, rfl, hok, hbr⟩ := hrel
    have HO := Lib.hid hok
    have HBR := Lib.hid hbr
    clear hok hbr
    by_cases hlt : k < 3
    · have hidx : ∀ W, (Instr.index 76 (.agg flds.toArray) (.int .i64 (k : Int))).run Tryd.prog W = .ok (.agg (fld k).toArray) W := fun W => by
        have hc : k = 0 ∨ k = 1 ∨ k = 2 := by omega
        rcases hc with rfl | rfl | rfl <;> rfl
      have hlti : (k : Int) < 3 := by omega
      go_upto_region 5 with (first | ((with_reducible show wpList _ _ _ (⟨none, .store _ _ _, _, _, _, _⟩ :: _) _ _); go_loud (refine wl_store rfl 75 _ _ rfl wr.heap.size 0 rfl (fld k) rfl 75 _ (Arr.new wr 75 [.string ⟨#[]⟩, .int .i64 0, .int .u64 0, .int .u64 0]) (by kernel_rfl) (by simp [fld_len]) (fld_one k) ?_); intro w3 hA3 hg3 hs3))
      rw [whole_store _ _ (by simp [fld_len])] at hA3
      obtain ⟨g, hg⟩ : ∃ g, g = wr.heap.size := ⟨_, rfl⟩
      have hb3 : Below wr.heap.size wr w3 := ((Below.refl _ wr).alloc (Nat.le_refl _) _).grown hg3 (by simp) (fun k hk => by injection hk with hk; omega)
      have hBR := HBR.out
      have hb4 : Below w.heap.size w w3 := hBR.trans (hb3.mono hBR.size)
      have hrow : w3.cell? ⟨b, off + k, none⟩ = some (.int .u64 (f k : Int)) := (hb4.cell (p := ⟨b, off + k, none⟩) hb).trans (HR.out k hlt)
      have c0 := hA3.cell 0
      have c1 := hA3.cell 1
      have c2 := hA3.cell 2
      have c3 := hA3.cell 3
      simp only [fld, List.getElem?_cons_zero, List.getElem?_cons_succ] at c0 c1 c2 c3
      rw [← hg] at hA3 c0 c1 c2 c3 ⊢
      have HB4 := Lib.hid hb4
      have HA3 := Lib.hid hA3
      have HGG := Lib.hid hg
      clear hb4 hA3 hg hBR hb3 hg3 hs3 hidx
      go_simp
      have HBL : Hid (b < w3.heap.size) := Nat.lt_of_lt_of_le hb HB4.out.size
      have HGL : Hid (g < w3.heap.size) := HA3.out.lt
      by_cases h1 : f k < lst k
      · have H1 : Hid ((f k : Int) < (lst k : Int)) := by show (f k : Int) < (lst k : Int); omega
        have HNO : Hid (okTo f 3 = false) := by
          show okTo f 3 = false
          cases hx : okTo f 3 with
          | false => rfl
          | true =>
            have := okTo_mono (show k + 1 ≤ 3 by omega) hx
            simp only [okTo, okF, Bool.and_eq_true, decide_eq_true_eq] at this
            omega
        clear h1
        refine wp_region_steps [[], [], [0, 1], [2], [], [4], [3, 5], [6], [7], [7], [7], [7], [7], [7], [7], [7, 14]] (by kernel_rfl) (by kernel_rfl) (fun L a wx => ∃ v13 v14 v15 v16 v17 v18 v19 v20 v21 v22 v23 v24 v25 v26 v27 v28, a = ⟨#[.slice (some ⟨b, off, none⟩) 3 3, undef, u2, u3, txt (nameTo f k), .int .i64 ↑k, .pointer (some ⟨g, 0, none⟩), u7, .agg flds.toArray, .int .i64 ↑k, .bool true, .int .i64 ↑k, .agg (fld k).toArray, v13, v14, v15, v16, v17, v18, v19, v20, v21, v22, v23, v24, v25, v26, v27, v28, u29, u30, u31, u32, u33, u34, u35, u36, u37, u38, u39, u40, u41, u42, u43, u44, u45, u46, u47, undef], []⟩ ∧ InvLay5A f k b off g w3 L v13 v14 v15 v16 v17 v18 v19 v20 v21 v22 v23 v24 v25 v26 v27 v28 wx) ?_ ⟨?_, ?_, ?_, ?_, ?_, ?_, ?_, ?_, ?_, ?_, ?_, ?_, ?_, ?_, ?_, ?_, trivial⟩ ?_
        · refine ⟨_, _, _, _, _, _, _, _, _, _, _, _, _, _, _, _, rfl, ⟨?_, ?_, ?_, ?_, ?_, ?_, ?_, ?_, ?_, ?_, ?_, ?_, ?_, ?_, ?_, ?_, (Below.refl _ _).drew⟩⟩ <;> (intro h; exact absurd h (by decide))
        · rintro L a wx ⟨v13, v14, v15, v16, v17, v18, v19, v20, v21, v22, v23, v24, v25, v26, v27, v28, rfl, hI⟩ hL hdep hcl K hK
          go_simp
          exact hK _ _ ⟨_, v14, v15, v16, v17, v18, v19, v20, v21, v22, v23, v24, v25, v26, v27, v28, rfl, ⟨fun _ => rfl, hI.t1, hI.t2, hI.t3, hI.t4, hI.t5, hI.t6, hI.t7, hI.t8, hI.t9, hI.t10, hI.t11, hI.t12, hI.t13, hI.t14, hI.t15, hI.bw⟩⟩
        · rintro L a wx ⟨v13, v14, v15, v16, v17, v18, v19, v20, v21, v22, v23, v24, v25, v26, v27, v28, rfl, hI⟩ hL hdep hcl K hK
          go_simp
          exact hK _ _ ⟨v13, _, v15, v16, v17, v18, v19, v20, v21, v22, v23, v24, v25, v26, v27, v28, rfl, ⟨hI.t0, fun _ => rfl, hI.t2, hI.t3, hI.t4, hI.t5, hI.t6, hI.t7, hI.t8, hI.t9, hI.t10, hI.t11, hI.t12, hI.t13, hI.t14, hI.t15, hI.bw⟩⟩
        · rintro L a wx ⟨v13, v14, v15, v16, v17, v18, v19, v20, v21, v22, v23, v24, v25, v26, v27, v28, rfl, hI⟩ hL hdep hcl K hK
          obtain rfl := hI.t0 (hdep 0 (by decide))
          obtain rfl := hI.t1 (hdep 1 (by decide))
          go_simp
          exact hK _ _ ⟨_, _, _, v16, v17, v18, v19, v20, v21, v22, v23, v24, v25, v26, v27, v28, rfl, ⟨hI.t0, hI.t1, fun _ => rfl, hI.t3, hI.t4, hI.t5, hI.t6, hI.t7, hI.t8, hI.t9, hI.t10, hI.t11, hI.t12, hI.t13, hI.t14, hI.t15, hI.bw⟩⟩
        · rintro L a wx ⟨v13, v14, v15, v16, v17, v18, v19, v20, v21, v22, v23, v24, v25, v26, v27, v28, rfl, hI⟩ hL hdep hcl K hK
          obtain rfl := hI.t2 (hdep 2 (by decide))
          have c := (hI.bw.cell (p := ⟨b, off + k, none⟩) HBL.out).trans hrow
          go_simp
          exact hK _ _ ⟨v13, v14, _, _, v17, v18, v19, v20, v21, v22, v23, v24, v25, v26, v27, v28, rfl, ⟨hI.t0, hI.t1, hI.t2, fun _ => rfl, hI.t4, hI.t5, hI.t6, hI.t7, hI.t8, hI.t9, hI.t10, hI.t11, hI.t12, hI.t13, hI.t14, hI.t15, hI.bw⟩⟩
        · rintro L a wx ⟨v13, v14, v15, v16, v17, v18, v19, v20, v21, v22, v23, v24, v25, v26, v27, v28, rfl, hI⟩ hL hdep hcl K hK
          go_simp
          exact hK _ _ ⟨v13, v14, v15, v16, _, v18, v19, v20, v21, v22, v23, v24, v25, v26, v27, v28, rfl, ⟨hI.t0, hI.t1, hI.t2, hI.t3, fun _ => rfl, hI.t5, hI.t6, hI.t7, hI.t8, hI.t9, hI.t10, hI.t11, hI.t12, hI.t13, hI.t14, hI.t15, hI.bw⟩⟩
        · rintro L a wx ⟨v13, v14, v15, v16, v17, v18, v19, v20, v21, v22, v23, v24, v25, v26, v27, v28, rfl, hI⟩ hL hdep hcl K hK
          obtain rfl := hI.t4 (hdep 4 (by decide))
          have c := (hI.bw.cell (p := ⟨g, 2, none⟩) HGL.out).trans c2
          go_simp
          exact hK _ _ ⟨v13, v14, v15, v16, _, _, v19, v20, v21, v22, v23, v24, v25, v26, v27, v28, rfl, ⟨hI.t0, hI.t1, hI.t2, hI.t3, hI.t4, fun _ => rfl, hI.t6, hI.t7, hI.t8, hI.t9, hI.t10, hI.t11, hI.t12, hI.t13, hI.t14, hI.t15, hI.bw⟩⟩
        · rintro L a wx ⟨v13, v14, v15, v16, v17, v18, v19, v20, v21, v22, v23, v24, v25, v26, v27, v28, rfl, hI⟩ hL hdep hcl K hK
          obtain rfl := hI.t3 (hdep 3 (by decide))
          obtain rfl := hI.t5 (hdep 5 (by decide))
          have h := H1.out
          go_simp
          exact hK _ _ ⟨v13, v14, v15, _, v17, _, _, v20, v21, v22, v23, v24, v25, v26, v27, v28, rfl, ⟨hI.t0, hI.t1, hI.t2, hI.t3, hI.t4, hI.t5, fun _ => rfl, hI.t7, hI.t8, hI.t9, hI.t10, hI.t11, hI.t12, hI.t13, hI.t14, hI.t15, hI.bw⟩⟩
        · rintro L a wx ⟨v13, v14, v15, v16, v17, v18, v19, v20, v21, v22, v23, v24, v25, v26, v27, v28, rfl, hI⟩ hL hdep hcl K hK
          obtain rfl := hI.t6 (hdep 6 (by decide))
          go_simp
          exact hK _ _ ⟨v13, v14, v15, v16, v17, v18, _, _, v21, v22, v23, v24, v25, v26, v27, v28, rfl, ⟨hI.t0, hI.t1, hI.t2, hI.t3, hI.t4, hI.t5, hI.t6, fun _ => rfl, hI.t8, hI.t9, hI.t10, hI.t11, hI.t12, hI.t13, hI.t14, hI.t15, hI.bw⟩⟩
        · rintro L a wx ⟨v13, v14, v15, v16, v17, v18, v19, v20, v21, v22, v23, v24, v25, v26, v27, v28, rfl, hI⟩ hL hdep hcl K hK
          obtain rfl := hI.t7 (hdep 7 (by decide))
          refine (if_neg (by exact fun h => Bool.noConfusion (show false = true from h))).mpr ?_
          exact hK _ _ ⟨v13, v14, v15, v16, v17, v18, v19, _, _, v22, v23, v24, v25, v26, v27, v28, rfl, ⟨hI.t0, hI.t1, hI.t2, hI.t3, hI.t4, hI.t5, hI.t6, hI.t7, fun _ => rfl, hI.t9, hI.t10, hI.t11, hI.t12, hI.t13, hI.t14, hI.t15, hI.bw⟩⟩
        · rintro L a wx ⟨v13, v14, v15, v16, v17, v18, v19, v20, v21, v22, v23, v24, v25, v26, v27, v28, rfl, hI⟩ hL hdep hcl K hK
          obtain rfl := hI.t7 (hdep 7 (by decide))
          refine (if_neg (by exact fun h => Bool.noConfusion (show false = true from h))).mpr ?_
          exact hK _ _ ⟨v13, v14, v15, v16, v17, v18, v19, _, v21, _, v23, v24, v25, v26, v27, v28, rfl, ⟨hI.t0, hI.t1, hI.t2, hI.t3, hI.t4, hI.t5, hI.t6, hI.t7, hI.t8, fun _ => rfl, hI.t10, hI.t11, hI.t12, hI.t13, hI.t14, hI.t15, hI.bw⟩⟩
        · rintro L a wx ⟨v13, v14, v15, v16, v17, v18, v19, v20, v21, v22, v23, v24, v25, v26, v27, v28, rfl, hI⟩ hL hdep hcl K hK
          obtain rfl := hI.t7 (hdep 7 (by decide))
          refine (if_neg (by exact fun h => Bool.noConfusion (show false = true from h))).mpr ?_
          exact hK _ _ ⟨v13, v14, v15, v16, v17, v18, v19, _, v21, v22, _, v24, v25, v26, v27, v28, rfl, ⟨hI.t0, hI.t1, hI.t2, hI.t3, hI.t4, hI.t5, hI.t6, hI.t7, hI.t8, hI.t9, fun _ => rfl, hI.t11, hI.t12, hI.t13, hI.t14, hI.t15, hI.bw⟩⟩
        · rintro L a wx ⟨v13, v14, v15, v16, v17, v18, v19, v20, v21, v22, v23, v24, v25, v26, v27, v28, rfl, hI⟩ hL hdep hcl K hK
          obtain rfl := hI.t7 (hdep 7 (by decide))
          refine (if_neg (by exact fun h => Bool.noConfusion (show false = true from h))).mpr ?_
          exact hK _ _ ⟨v13, v14, v15, v16, v17, v18, v19, _, v21, v22, v23, _, v25, v26, v27, v28, rfl, ⟨hI.t0, hI.t1, hI.t2, hI.t3, hI.t4, hI.t5, hI.t6, hI.t7, hI.t8, hI.t9, hI.t10, fun _ => rfl, hI.t12, hI.t13, hI.t14, hI.t15, hI.bw⟩⟩
        · rintro L a wx ⟨v13, v14, v15, v16, v17, v18, v19, v20, v21, v22, v23, v24, v25, v26, v27, v28, rfl, hI⟩ hL hdep hcl K hK
          obtain rfl := hI.t7 (hdep 7 (by decide))
          refine (if_neg (by exact fun h => Bool.noConfusion (show false = true from h))).mpr ?_
          exact hK _ _ ⟨v13, v14, v15, v16, v17, v18, v19, _, v21, v22, v23, v24, _, v26, v27, v28, rfl, ⟨hI.t0, hI.t1, hI.t2, hI.t3, hI.t4, hI.t5, hI.t6, hI.t7, hI.t8, hI.t9, hI.t10, hI.t11, fun _ => rfl, hI.t13, hI.t14, hI.t15, hI.bw⟩⟩
        · rintro L a wx ⟨v13, v14, v15, v16, v17, v18, v19, v20, v21, v22, v23, v24, v25, v26, v27, v28, rfl, hI⟩ hL hdep hcl K hK
          obtain rfl := hI.t7 (hdep 7 (by decide))
          refine (if_neg (by exact fun h => Bool.noConfusion (show false = true from h))).mpr ?_
          exact hK _ _ ⟨v13, v14, v15, v16, v17, v18, v19, _, v21, v22, v23, v24, v25, _, v27, v28, rfl, ⟨hI.t0, hI.t1, hI.t2, hI.t3, hI.t4, hI.t5, hI.t6, hI.t7, hI.t8, hI.t9, hI.t10, hI.t11, hI.t12, fun _ => rfl, hI.t14, hI.t15, hI.bw⟩⟩
        · rintro L a wx ⟨v13, v14, v15, v16, v17, v18, v19, v20, v21, v22, v23, v24, v25, v26, v27, v28, rfl, hI⟩ hL hdep hcl K hK
          obtain rfl := hI.t7 (hdep 7 (by decide))
          refine (if_neg (by exact fun h => Bool.noConfusion (show false = true from h))).mpr ?_
          exact hK _ _ ⟨v13, v14, v15, v16, v17, v18, v19, _, v21, v22, v23, v24, v25, v26, _, v28, rfl, ⟨hI.t0, hI.t1, hI.t2, hI.t3, hI.t4, hI.t5, hI.t6, hI.t7, hI.t8, hI.t9, hI.t10, hI.t11, hI.t12, hI.t13, fun _ => rfl, hI.t15, hI.bw⟩⟩
        · rintro L a wx ⟨v13, v14, v15, v16, v17, v18, v19, v20, v21, v22, v23, v24, v25, v26, v27, v28, rfl, hI⟩ hL hdep hcl K hK
          obtain rfl := hI.t7 (hdep 7 (by decide))
          go_simp
          exact hK _ _ ⟨v13, v14, v15, v16, v17, v18, v19, _, v21, v22, v23, v24, v25, v26, v27, _, rfl, ⟨hI.t0, hI.t1, hI.t2, hI.t3, hI.t4, hI.t5, hI.t6, hI.t7, hI.t8, hI.t9, hI.t10, hI.t11, hI.t12, hI.t13, hI.t14, fun _ => rfl, hI.bw⟩⟩
        · rintro a wx ⟨v13, v14, v15, v16, v17, v18, v19, v20, v21, v22, v23, v24, v25, v26, v27, v28, rfl, hI⟩
          have hw := hI.bw
          have e28 := hI.t15 rfl
          subst e28
          clear hI
          go_wp2_with fail
          go_ret2
          refine ⟨?_, HB4.out.trans (hw.mono HB4.out.size)⟩
          have hno := HNO.out
          unfold layT
          rw [hno]
          rfl
      · have H1 : Hid (¬ (f k : Int) < (lst k : Int)) := by show ¬ (f k : Int) < (lst k : Int); omega
        have h1' := Lib.hid h1
        clear h1
        by_cases h2 : mst k < f k
        · have H2 : Hid ((mst k : Int) < (f k : Int)) := by show (mst k : Int) < (f k : Int); omega
          have HNO : Hid (okTo f 3 = false) := by
            show okTo f 3 = false
            cases hx : okTo f 3 with
            | false => rfl
            | true =>
              have := okTo_mono (show k + 1 ≤ 3 by omega) hx
              simp only [okTo, okF, Bool.and_eq_true, decide_eq_true_eq] at this
              omega
          have H2' := Lib.hid h2
          clear h2
          refine wp_region_steps [[], [], [0, 1], [2], [], [4], [3, 5], [6], [7], [7], [8, 9, 7], [10, 7], [7], [12, 7], [11, 13, 7], [7, 14]] (by kernel_rfl) (by kernel_rfl) (fun L a wx => ∃ v13 v14 v15 v16 v17 v18 v19 v20 v21 v22 v23 v24 v25 v26 v27 v28, a = ⟨#[.slice (some ⟨b, off, none⟩) 3 3, undef, u2, u3, txt (nameTo f k), .int .i64 ↑k, .pointer (some ⟨g, 0, none⟩), u7, .agg flds.toArray, .int .i64 ↑k, .bool true, .int .i64 ↑k, .agg (fld k).toArray, v13, v14, v15, v16, v17, v18, v19, v20, v21, v22, v23, v24, v25, v26, v27, v28, u29, u30, u31, u32, u33, u34, u35, u36, u37, u38, u39, u40, u41, u42, u43, u44, u45, u46, u47, undef], []⟩ ∧ InvLay5B f k b off g w3 L v13 v14 v15 v16 v17 v18 v19 v20 v21 v22 v23 v24 v25 v26 v27 v28 wx) ?_ ⟨?_, ?_, ?_, ?_, ?_, ?_, ?_, ?_, ?_, ?_, ?_, ?_, ?_, ?_, ?_, ?_, trivial⟩ ?_
          · refine ⟨_, _, _, _, _, _, _, _, _, _, _, _, _, _, _, _, rfl, ⟨?_, ?_, ?_, ?_, ?_, ?_, ?_, ?_, ?_, ?_, ?_, ?_, ?_, ?_, ?_, ?_, (Below.refl _ _).drew⟩⟩ <;> (intro h; exact absurd h (by decide))
          · rintro L a wx ⟨v13, v14, v15, v16, v17, v18, v19, v20, v21, v22, v23, v24, v25, v26, v27, v28, rfl, hI⟩ hL hdep hcl K hK
            go_simp
            exact hK _ _ ⟨_, v14, v15, v16, v17, v18, v19, v20, v21, v22, v23, v24, v25, v26, v27, v28, rfl, ⟨fun _ => rfl, hI.t1, hI.t2, hI.t3, hI.t4, hI.t5, hI.t6, hI.t7, hI.t8, hI.t9, hI.t10, hI.t11, hI.t12, hI.t13, hI.t14, hI.t15, hI.bw⟩⟩
          · rintro L a wx ⟨v13, v14, v15, v16, v17, v18, v19, v20, v21, v22, v23, v24, v25, v26, v27, v28, rfl, hI⟩ hL hdep hcl K hK
            go_simp
            exact hK _ _ ⟨v13, _, v15, v16, v17, v18, v19, v20, v21, v22, v23, v24, v25, v26, v27, v28, rfl, ⟨hI.t0, fun _ => rfl, hI.t2, hI.t3, hI.t4, hI.t5, hI.t6, hI.t7, hI.t8, hI.t9, hI.t10, hI.t11, hI.t12, hI.t13, hI.t14, hI.t15, hI.bw⟩⟩
          · rintro L a wx ⟨v13, v14, v15, v16, v17, v18, v19, v20, v21, v22, v23, v24, v25, v26, v27, v28, rfl, hI⟩ hL hdep hcl K hK
            obtain rfl := hI.t0 (hdep 0 (by decide))
            obtain rfl := hI.t1 (hdep 1 (by decide))
            go_simp
            exact hK _ _ ⟨_, _, _, v16, v17, v18, v19, v20, v21, v22, v23, v24, v25, v26, v27, v28, rfl, ⟨hI.t0, hI.t1, fun _ => rfl, hI.t3, hI.t4, hI.t5, hI.t6, hI.t7, hI.t8, hI.t9, hI.t10, hI.t11, hI.t12, hI.t13, hI.t14, hI.t15, hI.bw⟩⟩
          · rintro L a wx ⟨v13, v14, v15, v16, v17, v18, v19, v20, v21, v22, v23, v24, v25, v26, v27, v28, rfl, hI⟩ hL hdep hcl K hK
            obtain rfl := hI.t2 (hdep 2 (by decide))
            have c := (hI.bw.cell (p := ⟨b, off + k, none⟩) HBL.out).trans hrow
            go_simp
            exact hK _ _ ⟨v13, v14, _, _, v17, v18, v19, v20, v21, v22, v23, v24, v25, v26, v27, v28, rfl, ⟨hI.t0, hI.t1, hI.t2, fun _ => rfl, hI.t4, hI.t5, hI.t6, hI.t7, hI.t8, hI.t9, hI.t10, hI.t11, hI.t12, hI.t13, hI.t14, hI.t15, hI.bw⟩⟩
          · rintro L a wx ⟨v13, v14, v15, v16, v17, v18, v19, v20, v21, v22, v23, v24, v25, v26, v27, v28, rfl, hI⟩ hL hdep hcl K hK
            go_simp
            exact hK _ _ ⟨v13, v14, v15, v16, _, v18, v19, v20, v21, v22, v23, v24, v25, v26, v27, v28, rfl, ⟨hI.t0, hI.t1, hI.t2, hI.t3, fun _ => rfl, hI.t5, hI.t6, hI.t7, hI.t8, hI.t9, hI.t10, hI.t11, hI.t12, hI.t13, hI.t14, hI.t15, hI.bw⟩⟩
          · rintro L a wx ⟨v13, v14, v15, v16, v17, v18, v19, v20, v21, v22, v23, v24, v25, v26, v27, v28, rfl, hI⟩ hL hdep hcl K hK
            obtain rfl := hI.t4 (hdep 4 (by decide))
            have c := (hI.bw.cell (p := ⟨g, 2, none⟩) HGL.out).trans c2
            go_simp
            exact hK _ _ ⟨v13, v14, v15, v16, _, _, v19, v20, v21, v22, v23, v24, v25, v26, v27, v28, rfl, ⟨hI.t0, hI.t1, hI.t2, hI.t3, hI.t4, fun _ => rfl, hI.t6, hI.t7, hI.t8, hI.t9, hI.t10, hI.t11, hI.t12, hI.t13, hI.t14, hI.t15, hI.bw⟩⟩
          · rintro L a wx ⟨v13, v14, v15, v16, v17, v18, v19, v20, v21, v22, v23, v24, v25, v26, v27, v28, rfl, hI⟩ hL hdep hcl K hK
            obtain rfl := hI.t3 (hdep 3 (by decide))
            obtain rfl := hI.t5 (hdep 5 (by decide))
            have h := H1.out
            go_simp
            exact hK _ _ ⟨v13, v14, v15, _, v17, _, _, v20, v21, v22, v23, v24, v25, v26, v27, v28, rfl, ⟨hI.t0, hI.t1, hI.t2, hI.t3, hI.t4, hI.t5, fun _ => rfl, hI.t7, hI.t8, hI.t9, hI.t10, hI.t11, hI.t12, hI.t13, hI.t14, hI.t15, hI.bw⟩⟩
          · rintro L a wx ⟨v13, v14, v15, v16, v17, v18, v19, v20, v21, v22, v23, v24, v25, v26, v27, v28, rfl, hI⟩ hL hdep hcl K hK
            obtain rfl := hI.t6 (hdep 6 (by decide))
            go_simp
            exact hK _ _ ⟨v13, v14, v15, v16, v17, v18, _, _, v21, v22, v23, v24, v25, v26, v27, v28, rfl, ⟨hI.t0, hI.t1, hI.t2, hI.t3, hI.t4, hI.t5, hI.t6, fun _ => rfl, hI.t8, hI.t9, hI.t10, hI.t11, hI.t12, hI.t13, hI.t14, hI.t15, hI.bw⟩⟩
          · rintro L a wx ⟨v13, v14, v15, v16, v17, v18, v19, v20, v21, v22, v23, v24, v25, v26, v27, v28, rfl, hI⟩ hL hdep hcl K hK
            obtain rfl := hI.t7 (hdep 7 (by decide))
            refine (if_pos rfl).mpr ?_
            go_simp
            exact hK _ _ ⟨v13, v14, v15, v16, v17, v18, v19, _, _, v22, v23, v24, v25, v26, v27, v28, rfl, ⟨hI.t0, hI.t1, hI.t2, hI.t3, hI.t4, hI.t5, hI.t6, hI.t7, fun _ => rfl, hI.t9, hI.t10, hI.t11, hI.t12, hI.t13, hI.t14, hI.t15, hI.bw⟩⟩
          · rintro L a wx ⟨v13, v14, v15, v16, v17, v18, v19, v20, v21, v22, v23, v24, v25, v26, v27, v28, rfl, hI⟩ hL hdep hcl K hK
            obtain rfl := hI.t7 (hdep 7 (by decide))
            refine (if_pos rfl).mpr ?_
            go_simp
            exact hK _ _ ⟨v13, v14, v15, v16, v17, v18, v19, _, v21, _, v23, v24, v25, v26, v27, v28, rfl, ⟨hI.t0, hI.t1, hI.t2, hI.t3, hI.t4, hI.t5, hI.t6, hI.t7, hI.t8, fun _ => rfl, hI.t10, hI.t11, hI.t12, hI.t13, hI.t14, hI.t15, hI.bw⟩⟩
          · rintro L a wx ⟨v13, v14, v15, v16, v17, v18, v19, v20, v21, v22, v23, v24, v25, v26, v27, v28, rfl, hI⟩ hL hdep hcl K hK
            obtain rfl := hI.t8 (hdep 8 (by decide))
            obtain rfl := hI.t9 (hdep 9 (by decide))
            obtain rfl := hI.t7 (hdep 7 (by decide))
            refine (if_pos rfl).mpr ?_
            go_simp
            exact hK _ _ ⟨v13, v14, v15, v16, v17, v18, v19, _, _, _, _, v24, v25, v26, v27, v28, rfl, ⟨hI.t0, hI.t1, hI.t2, hI.t3, hI.t4, hI.t5, hI.t6, hI.t7, hI.t8, hI.t9, fun _ => rfl, hI.t11, hI.t12, hI.t13, hI.t14, hI.t15, hI.bw⟩⟩
          · rintro L a wx ⟨v13, v14, v15, v16, v17, v18, v19, v20, v21, v22, v23, v24, v25, v26, v27, v28, rfl, hI⟩ hL hdep hcl K hK
            obtain rfl := hI.t10 (hdep 10 (by decide))
            obtain rfl := hI.t7 (hdep 7 (by decide))
            refine (if_pos rfl).mpr ?_
            have c := (hI.bw.cell (p := ⟨b, off + k, none⟩) HBL.out).trans hrow
            go_simp
            exact hK _ _ ⟨v13, v14, v15, v16, v17, v18, v19, _, v21, v22, _, _, v25, v26, v27, v28, rfl, ⟨hI.t0, hI.t1, hI.t2, hI.t3, hI.t4, hI.t5, hI.t6, hI.t7, hI.t8, hI.t9, hI.t10, fun _ => rfl, hI.t12, hI.t13, hI.t14, hI.t15, hI.bw⟩⟩
          · rintro L a wx ⟨v13, v14, v15, v16, v17, v18, v19, v20, v21, v22, v23, v24, v25, v26, v27, v28, rfl, hI⟩ hL hdep hcl K hK
            obtain rfl := hI.t7 (hdep 7 (by decide))
            refine (if_pos rfl).mpr ?_
            go_simp
            exact hK _ _ ⟨v13, v14, v15, v16, v17, v18, v19, _, v21, v22, v23, v24, _, v26, v27, v28, rfl, ⟨hI.t0, hI.t1, hI.t2, hI.t3, hI.t4, hI.t5, hI.t6, hI.t7, hI.t8, hI.t9, hI.t10, hI.t11, fun _ => rfl, hI.t13, hI.t14, hI.t15, hI.bw⟩⟩
          · rintro L a wx ⟨v13, v14, v15, v16, v17, v18, v19, v20, v21, v22, v23, v24, v25, v26, v27, v28, rfl, hI⟩ hL hdep hcl K hK
            obtain rfl := hI.t12 (hdep 12 (by decide))
            obtain rfl := hI.t7 (hdep 7 (by decide))
            refine (if_pos rfl).mpr ?_
            have c := (hI.bw.cell (p := ⟨g, 3, none⟩) HGL.out).trans c3
            go_simp
            exact hK _ _ ⟨v13, v14, v15, v16, v17, v18, v19, _, v21, v22, v23, v24, _, _, v27, v28, rfl, ⟨hI.t0, hI.t1, hI.t2, hI.t3, hI.t4, hI.t5, hI.t6, hI.t7, hI.t8, hI.t9, hI.t10, hI.t11, hI.t12, fun _ => rfl, hI.t14, hI.t15, hI.bw⟩⟩
          · rintro L a wx ⟨v13, v14, v15, v16, v17, v18, v19, v20, v21, v22, v23, v24, v25, v26, v27, v28, rfl, hI⟩ hL hdep hcl K hK
            obtain rfl := hI.t11 (hdep 11 (by decide))
            obtain rfl := hI.t13 (hdep 13 (by decide))
            obtain rfl := hI.t7 (hdep 7 (by decide))
            refine (if_pos rfl).mpr ?_
            have h := H2.out
            go_simp
            exact hK _ _ ⟨v13, v14, v15, v16, v17, v18, v19, _, v21, v22, v23, _, v25, _, _, v28, rfl, ⟨hI.t0, hI.t1, hI.t2, hI.t3, hI.t4, hI.t5, hI.t6, hI.t7, hI.t8, hI.t9, hI.t10, hI.t11, hI.t12, hI.t13, fun _ => rfl, hI.t15, hI.bw⟩⟩
          · rintro L a wx ⟨v13, v14, v15, v16, v17, v18, v19, v20, v21, v22, v23, v24, v25, v26, v27, v28, rfl, hI⟩ hL hdep hcl K hK
            obtain rfl := hI.t7 (hdep 7 (by decide))
            obtain rfl := hI.t14 (hdep 14 (by decide))
            go_simp
            exact hK _ _ ⟨v13, v14, v15, v16, v17, v18, v19, _, v21, v22, v23, v24, v25, v26, _, _, rfl, ⟨hI.t0, hI.t1, hI.t2, hI.t3, hI.t4, hI.t5, hI.t6, hI.t7, hI.t8, hI.t9, hI.t10, hI.t11, hI.t12, hI.t13, hI.t14, fun _ => rfl, hI.bw⟩⟩
          · rintro a wx ⟨v13, v14, v15, v16, v17, v18, v19, v20, v21, v22, v23, v24, v25, v26, v27, v28, rfl, hI⟩
            have hw := hI.bw
            have e28 := hI.t15 rfl
            subst e28
            clear hI
            go_wp2_with fail
            go_ret2
            refine ⟨?_, HB4.out.trans (hw.mono HB4.out.size)⟩
            have hno := HNO.out
            unfold layT
            rw [hno]
            rfl
        · have H2 : Hid (¬ (mst k : Int) < (f k : Int)) := by show ¬ (mst k : Int) < (f k : Int); omega
          have HOK : Hid (okF f k = true) := by
            show okF f k = true
            simp only [okF, Bool.and_eq_true, decide_eq_true_eq]
            have := h1'.out
            omega
          have H2' := Lib.hid h2
          clear h2
          refine wp_region_steps [[], [], [0, 1], [2], [], [4], [3, 5], [6], [7], [7], [8, 9, 7], [10, 7], [7], [12, 7], [11, 13, 7], [7, 14]] (by kernel_rfl) (by kernel_rfl) (fun L a wx => ∃ v13 v14 v15 v16 v17 v18 v19 v20 v21 v22 v23 v24 v25 v26 v27 v28, a = ⟨#[.slice (some ⟨b, off, none⟩) 3 3, undef, u2, u3, txt (nameTo f k), .int .i64 ↑k, .pointer (some ⟨g, 0, none⟩), u7, .agg flds.toArray, .int .i64 ↑k, .bool true, .int .i64 ↑k, .agg (fld k).toArray, v13, v14, v15, v16, v17, v18, v19, v20, v21, v22, v23, v24, v25, v26, v27, v28, u29, u30, u31, u32, u33, u34, u35, u36, u37, u38, u39, u40, u41, u42, u43, u44, u45, u46, u47, undef], []⟩ ∧ InvLay5C f k b off g w3 L v13 v14 v15 v16 v17 v18 v19 v20 v21 v22 v23 v24 v25 v26 v27 v28 wx) ?_ ⟨?_, ?_, ?_, ?_, ?_, ?_, ?_, ?_, ?_, ?_, ?_, ?_, ?_, ?_, ?_, ?_, trivial⟩ ?_
          · refine ⟨_, _, _, _, _, _, _, _, _, _, _, _, _, _, _, _, rfl, ⟨?_, ?_, ?_, ?_, ?_, ?_, ?_, ?_, ?_, ?_, ?_, ?_, ?_, ?_, ?_, ?_, (Below.refl _ _).drew⟩⟩ <;> (intro h; exact absurd h (by decide))
          · rintro L a wx ⟨v13, v14, v15, v16, v17, v18, v19, v20, v21, v22, v23, v24, v25, v26, v27, v28, rfl, hI⟩ hL hdep hcl K hK
            go_simp
            exact hK _ _ ⟨_, v14, v15, v16, v17, v18, v19, v20, v21, v22, v23, v24, v25, v26, v27, v28, rfl, ⟨fun _ => rfl, hI.t1, hI.t2, hI.t3, hI.t4, hI.t5, hI.t6, hI.t7, hI.t8, hI.t9, hI.t10, hI.t11, hI.t12, hI.t13, hI.t14, hI.t15, hI.bw⟩⟩
          · rintro L a wx ⟨v13, v14, v15, v16, v17, v18, v19, v20, v21, v22, v23, v24, v25, v26, v27, v28, rfl, hI⟩ hL hdep hcl K hK
            go_simp
            exact hK _ _ ⟨v13, _, v15, v16, v17, v18, v19, v20, v21, v22, v23, v24, v25, v26, v27, v28, rfl, ⟨hI.t0, fun _ => rfl, hI.t2, hI.t3, hI.t4, hI.t5, hI.t6, hI.t7, hI.t8, hI.t9, hI.t10, hI.t11, hI.t12, hI.t13, hI.t14, hI.t15, hI.bw⟩⟩
          · rintro L a wx ⟨v13, v14, v15, v16, v17, v18, v19, v20, v21, v22, v23, v24, v25, v26, v27, v28, rfl, hI⟩ hL hdep hcl K hK
            obtain rfl := hI.t0 (hdep 0 (by decide))
            obtain rfl := hI.t1 (hdep 1 (by decide))
            go_simp
            exact hK _ _ ⟨_, _, _, v16, v17, v18, v19, v20, v21, v22, v23, v24, v25, v26, v27, v28, rfl, ⟨hI.t0, hI.t1, fun _ => rfl, hI.t3, hI.t4, hI.t5, hI.t6, hI.t7, hI.t8, hI.t9, hI.t10, hI.t11, hI.t12, hI.t13, hI.t14, hI.t15, hI.bw⟩⟩
          · rintro L a wx ⟨v13, v14, v15, v16, v17, v18, v19, v20, v21, v22, v23, v24, v25, v26, v27, v28, rfl, hI⟩ hL hdep hcl K hK
            obtain rfl := hI.t2 (hdep 2 (by decide))
            have c := (hI.bw.cell (p := ⟨b, off + k, none⟩) HBL.out).trans hrow
            go_simp
            exact hK _ _ ⟨v13, v14, _, _, v17, v18, v19, v20, v21, v22, v23, v24, v25, v26, v27, v28, rfl, ⟨hI.t0, hI.t1, hI.t2, fun _ => rfl, hI.t4, hI.t5, hI.t6, hI.t7, hI.t8, hI.t9, hI.t10, hI.t11, hI.t12, hI.t13, hI.t14, hI.t15, hI.bw⟩⟩
          · rintro L a wx ⟨v13, v14, v15, v16, v17, v18, v19, v20, v21, v22, v23, v24, v25, v26, v27, v28, rfl, hI⟩ hL hdep hcl K hK
            go_simp
            exact hK _ _ ⟨v13, v14, v15, v16, _, v18, v19, v20, v21, v22, v23, v24, v25, v26, v27, v28, rfl, ⟨hI.t0, hI.t1, hI.t2, hI.t3, fun _ => rfl, hI.t5, hI.t6, hI.t7, hI.t8, hI.t9, hI.t10, hI.t11, hI.t12, hI.t13, hI.t14, hI.t15, hI.bw⟩⟩
          · rintro L a wx ⟨v13, v14, v15, v16, v17, v18, v19, v20, v21, v22, v23, v24, v25, v26, v27, v28, rfl, hI⟩ hL hdep hcl K hK
            obtain rfl := hI.t4 (hdep 4 (by decide))
            have c := (hI.bw.cell (p := ⟨g, 2, none⟩) HGL.out).trans c2
            go_simp
            exact hK _ _ ⟨v13, v14, v15, v16, _, _, v19, v20, v21, v22, v23, v24, v25, v26, v27, v28, rfl, ⟨hI.t0, hI.t1, hI.t2, hI.t3, hI.t4, fun _ => rfl, hI.t6, hI.t7, hI.t8, hI.t9, hI.t10, hI.t11, hI.t12, hI.t13, hI.t14, hI.t15, hI.bw⟩⟩
          · rintro L a wx ⟨v13, v14, v15, v16, v17, v18, v19, v20, v21, v22, v23, v24, v25, v26, v27, v28, rfl, hI⟩ hL hdep hcl K hK
            obtain rfl := hI.t3 (hdep 3 (by decide))
            obtain rfl := hI.t5 (hdep 5 (by decide))
            have h := H1.out
            go_simp
            exact hK _ _ ⟨v13, v14, v15, _, v17, _, _, v20, v21, v22, v23, v24, v25, v26, v27, v28, rfl, ⟨hI.t0, hI.t1, hI.t2, hI.t3, hI.t4, hI.t5, fun _ => rfl, hI.t7, hI.t8, hI.t9, hI.t10, hI.t11, hI.t12, hI.t13, hI.t14, hI.t15, hI.bw⟩⟩
          · rintro L a wx ⟨v13, v14, v15, v16, v17, v18, v19, v20, v21, v22, v23, v24, v25, v26, v27, v28, rfl, hI⟩ hL hdep hcl K hK
            obtain rfl := hI.t6 (hdep 6 (by decide))
            go_simp
            exact hK _ _ ⟨v13, v14, v15, v16, v17, v18, _, _, v21, v22, v23, v24, v25, v26, v27, v28, rfl, ⟨hI.t0, hI.t1, hI.t2, hI.t3, hI.t4, hI.t5, hI.t6, fun _ => rfl, hI.t8, hI.t9, hI.t10, hI.t11, hI.t12, hI.t13, hI.t14, hI.t15, hI.bw⟩⟩
          · rintro L a wx ⟨v13, v14, v15, v16, v17, v18, v19, v20, v21, v22, v23, v24, v25, v26, v27, v28, rfl, hI⟩ hL hdep hcl K hK
            obtain rfl := hI.t7 (hdep 7 (by decide))
            refine (if_pos rfl).mpr ?_
            go_simp
            exact hK _ _ ⟨v13, v14, v15, v16, v17, v18, v19, _, _, v22, v23, v24, v25, v26, v27, v28, rfl, ⟨hI.t0, hI.t1, hI.t2, hI.t3, hI.t4, hI.t5, hI.t6, hI.t7, fun _ => rfl, hI.t9, hI.t10, hI.t11, hI.t12, hI.t13, hI.t14, hI.t15, hI.bw⟩⟩
          · rintro L a wx ⟨v13, v14, v15, v16, v17, v18, v19, v20, v21, v22, v23, v24, v25, v26, v27, v28, rfl, hI⟩ hL hdep hcl K hK
            obtain rfl := hI.t7 (hdep 7 (by decide))
            refine (if_pos rfl).mpr ?_
            go_simp
            exact hK _ _ ⟨v13, v14, v15, v16, v17, v18, v19, _, v21, _, v23, v24, v25, v26, v27, v28, rfl, ⟨hI.t0, hI.t1, hI.t2, hI.t3, hI.t4, hI.t5, hI.t6, hI.t7, hI.t8, fun _ => rfl, hI.t10, hI.t11, hI.t12, hI.t13, hI.t14, hI.t15, hI.bw⟩⟩
          · rintro L a wx ⟨v13, v14, v15, v16, v17, v18, v19, v20, v21, v22, v23, v24, v25, v26, v27, v28, rfl, hI⟩ hL hdep hcl K hK
            obtain rfl := hI.t8 (hdep 8 (by decide))
            obtain rfl := hI.t9 (hdep 9 (by decide))
            obtain rfl := hI.t7 (hdep 7 (by decide))
            refine (if_pos rfl).mpr ?_
            go_simp
            exact hK _ _ ⟨v13, v14, v15, v16, v17, v18, v19, _, _, _, _, v24, v25, v26, v27, v28, rfl, ⟨hI.t0, hI.t1, hI.t2, hI.t3, hI.t4, hI.t5, hI.t6, hI.t7, hI.t8, hI.t9, fun _ => rfl, hI.t11, hI.t12, hI.t13, hI.t14, hI.t15, hI.bw⟩⟩
          · rintro L a wx ⟨v13, v14, v15, v16, v17, v18, v19, v20, v21, v22, v23, v24, v25, v26, v27, v28, rfl, hI⟩ hL hdep hcl K hK
            obtain rfl := hI.t10 (hdep 10 (by decide))
            obtain rfl := hI.t7 (hdep 7 (by decide))
            refine (if_pos rfl).mpr ?_
            have c := (hI.bw.cell (p := ⟨b, off + k, none⟩) HBL.out).trans hrow
            go_simp
            exact hK _ _ ⟨v13, v14, v15, v16, v17, v18, v19, _, v21, v22, _, _, v25, v26, v27, v28, rfl, ⟨hI.t0, hI.t1, hI.t2, hI.t3, hI.t4, hI.t5, hI.t6, hI.t7, hI.t8, hI.t9, hI.t10, fun _ => rfl, hI.t12, hI.t13, hI.t14, hI.t15, hI.bw⟩⟩
          · rintro L a wx ⟨v13, v14, v15, v16, v17, v18, v19, v20, v21, v22, v23, v24, v25, v26, v27, v28, rfl, hI⟩ hL hdep hcl K hK
            obtain rfl := hI.t7 (hdep 7 (by decide))
            refine (if_pos rfl).mpr ?_
            go_simp
            exact hK _ _ ⟨v13, v14, v15, v16, v17, v18, v19, _, v21, v22, v23, v24, _, v26, v27, v28, rfl, ⟨hI.t0, hI.t1, hI.t2, hI.t3, hI.t4, hI.t5, hI.t6, hI.t7, hI.t8, hI.t9, hI.t10, hI.t11, fun _ => rfl, hI.t13, hI.t14, hI.t15, hI.bw⟩⟩
          · rintro L a wx ⟨v13, v14, v15, v16, v17, v18, v19, v20, v21, v22, v23, v24, v25, v26, v27, v28, rfl, hI⟩ hL hdep hcl K hK
            obtain rfl := hI.t12 (hdep 12 (by decide))
            obtain rfl := hI.t7 (hdep 7 (by decide))
            refine (if_pos rfl).mpr ?_
            have c := (hI.bw.cell (p := ⟨g, 3, none⟩) HGL.out).trans c3
            go_simp
            exact hK _ _ ⟨v13, v14, v15, v16, v17, v18, v19, _, v21, v22, v23, v24, _, _, v27, v28, rfl, ⟨hI.t0, hI.t1, hI.t2, hI.t3, hI.t4, hI.t5, hI.t6, hI.t7, hI.t8, hI.t9, hI.t10, hI.t11, hI.t12, fun _ => rfl, hI.t14, hI.t15, hI.bw⟩⟩
          · rintro L a wx ⟨v13, v14, v15, v16, v17, v18, v19, v20, v21, v22, v23, v24, v25, v26, v27, v28, rfl, hI⟩ hL hdep hcl K hK
            obtain rfl := hI.t11 (hdep 11 (by decide))
            obtain rfl := hI.t13 (hdep 13 (by decide))
            obtain rfl := hI.t7 (hdep 7 (by decide))
            refine (if_pos rfl).mpr ?_
            have h := H2.out
            go_simp
            exact hK _ _ ⟨v13, v14, v15, v16, v17, v18, v19, _, v21, v22, v23, _, v25, _, _, v28, rfl, ⟨hI.t0, hI.t1, hI.t2, hI.t3, hI.t4, hI.t5, hI.t6, hI.t7, hI.t8, hI.t9, hI.t10, hI.t11, hI.t12, hI.t13, fun _ => rfl, hI.t15, hI.bw⟩⟩
          · rintro L a wx ⟨v13, v14, v15, v16, v17, v18, v19, v20, v21, v22, v23, v24, v25, v26, v27, v28, rfl, hI⟩ hL hdep hcl K hK
            obtain rfl := hI.t7 (hdep 7 (by decide))
            obtain rfl := hI.t14 (hdep 14 (by decide))
            go_simp
            exact hK _ _ ⟨v13, v14, v15, v16, v17, v18, v19, _, v21, v22, v23, v24, v25, v26, _, _, rfl, ⟨hI.t0, hI.t1, hI.t2, hI.t3, hI.t4, hI.t5, hI.t6, hI.t7, hI.t8, hI.t9, hI.t10, hI.t11, hI.t12, hI.t13, hI.t14, fun _ => rfl, hI.bw⟩⟩
          · rintro a wx ⟨v13, v14, v15, v16, v17, v18, v19, v20, v21, v22, v23, v24, v25, v26, v27, v28, rfl, hI⟩
            have hw := hI.bw
            have e28 := hI.t15 rfl
            subst e28
            clear hI
            have crow : wx.cell? ⟨b, off + k, none⟩ = some (.int .u64 (f k : Int)) := (hw.cell (p := ⟨b, off + k, none⟩) HBL.out).trans hrow
            clear hrow
            go_upto_region 8 with (go_at_call 33; go_loud (refine (FormatUint_any (f k) (HF.out k hlt) wx (HT.out.to (HB4.out.trans (hw.mono HB4.out.size)))).mono ?_); rintro e w5 ⟨rfl, hb5⟩)
            clear crow
            have hw5 : Below w3.heap.size w3 w5 := hw.trans (hb5.mono hw.size)
            have HW5 := Lib.hid hw5
            clear hw hb5 hw5
            obtain ⟨m, hm⟩ : ∃ m, m = dgt k - Lib.nDigits (f k) := ⟨_, rfl⟩
            have HM := Lib.hid hm
            have HFIT := Lib.hid (digits_fit hlt HOK.out)
            have H41 : Hid (IntKind.i64.wrap ((dgt k : Int) - (Lib.nDigits (f k) : Int)) = (m : Int)) := by
              show IntKind.i64.wrap ((dgt k : Int) - (Lib.nDigits (f k) : Int)) = (m : Int)
              have h1 := HFIT.out
              have h2 : dgt k ≤ 6 := by unfold dgt; split <;> omega
              rw [IntKind.wrap_i64]
              omega
            have HLEN : Hid ((Lib.decDigits (f k)).length = Lib.nDigits (f k)) := Lib.decDigits_length _
            have HREP : Hid (∀ W, Calls Tryd.prog 34 #[.string ⟨#[48]⟩, .int .i64 (m : Int)] W fun e w' => e = .returned (txt (List.replicate m 48)) ∧ Below W.heap.size W w') := fun W => zeros_any m (by have := HM.out; have : dgt k ≤ 6 := by { unfold dgt; split <;> omega }; omega) W
            have HL1 : Hid ((ahd k).length ≤ 1) := by show (ahd k).length ≤ 1; unfold ahd; split <;> simp
            have HL2 : Hid (m + (Lib.decDigits (f k)).length ≤ 20) := by
              show m + (Lib.decDigits (f k)).length ≤ 20
              have h1 := HFIT.out
              have h2 : dgt k ≤ 6 := by unfold dgt; split <;> omega
              rw [Lib.decDigits_length, hm]
              omega
            have HL3 : Hid ((nameTo f k).length ≤ 24) := by
              show (nameTo f k).length ≤ 24
              have := name_len f k hk HO.out
              omega
            clear hm
            refine wp_region_steps [[], [], [1], [], [3], [], [5], [4, 6], [7], [2, 8], [], [9, 10], [0, 11], [12]] (by kernel_rfl) (by kernel_rfl) (fun L a wx => ∃ v34 v35 v36 v37 v38 v39 v40 v41 v42 v43 v44 v45 v46 v4, a = ⟨#[.slice (some ⟨b, off, none⟩) 3 3, undef, u2, u3, v4, .int .i64 ↑k, .pointer (some ⟨g, 0, none⟩), txt (Lib.decDigits (f k)), .agg flds.toArray, .int .i64 ↑k, .bool true, .int .i64 ↑k, .agg (fld k).toArray, v13, v14, v15, v16, v17, v18, v19, v20, v21, v22, v23, v24, v25, v26, v27, .bool false, .slice (some ⟨b, off, none⟩) 3 3, .int .i64 ↑k, .pointer (some ⟨b, off + k, none⟩), .int .u64 ↑(f k), txt (Lib.decDigits (f k)), v34, v35, v36, v37, v38, v39, v40, v41, v42, v43, v44, v45, v46, u47, undef], []⟩ ∧ InvLay8 f k m g w5 L v34 v35 v36 v37 v38 v39 v40 v41 v42 v43 v44 v45 v46 v4 wx) ?_ ⟨?_, ?_, ?_, ?_, ?_, ?_, ?_, ?_, ?_, ?_, ?_, ?_, ?_, ?_, trivial⟩ ?_
            · refine ⟨_, _, _, _, _, _, _, _, _, _, _, _, _, _, rfl, ⟨?_, ?_, ?_, ?_, ?_, ?_, ?_, ?_, ?_, ?_, ?_, ?_, ?_, ?_, (Below.refl _ _).drew, fun _ => rfl⟩⟩ <;> (intro h; exact absurd h (by decide))
            · rintro L a wx ⟨v34, v35, v36, v37, v38, v39, v40, v41, v42, v43, v44, v45, v46, v4, rfl, hI⟩ hL hdep hcl K hK
              have e4 := hI.q4 (by cases hq : L 13 with | false => rfl | true => have h4 := hcl 12 (by decide) (hcl 13 (by decide) hq 12 (by decide)) 0 (by decide); rw [hL] at h4; cases h4)
              subst e4
              go_simp
              exact hK _ _ ⟨_, v35, v36, v37, v38, v39, v40, v41, v42, v43, v44, v45, v46, _, rfl, ⟨fun _ => rfl, hI.t1, hI.t2, hI.t3, hI.t4, hI.t5, hI.t6, hI.t7, hI.t8, hI.t9, hI.t10, hI.t11, hI.t12, hI.t13, hI.bw, fun _ => rfl⟩⟩
            · rintro L a wx ⟨v34, v35, v36, v37, v38, v39, v40, v41, v42, v43, v44, v45, v46, v4, rfl, hI⟩ hL hdep hcl K hK
              go_simp
              exact hK _ _ ⟨v34, _, v36, v37, v38, v39, v40, v41, v42, v43, v44, v45, v46, v4, rfl, ⟨hI.t0, fun _ => rfl, hI.t2, hI.t3, hI.t4, hI.t5, hI.t6, hI.t7, hI.t8, hI.t9, hI.t10, hI.t11, hI.t12, hI.t13, hI.bw, hI.q4⟩⟩
            · rintro L a wx ⟨v34, v35, v36, v37, v38, v39, v40, v41, v42, v43, v44, v45, v46, v4, rfl, hI⟩ hL hdep hcl K hK
              obtain rfl := hI.t1 (hdep 1 (by decide))
              have c := ((HW5.out.trans (hI.bw.mono HW5.out.size)).cell (p := ⟨g, 0, none⟩) HGL.out).trans c0
              go_simp
              exact hK _ _ ⟨v34, _, _, v37, v38, v39, v40, v41, v42, v43, v44, v45, v46, v4, rfl, ⟨hI.t0, hI.t1, fun _ => rfl, hI.t3, hI.t4, hI.t5, hI.t6, hI.t7, hI.t8, hI.t9, hI.t10, hI.t11, hI.t12, hI.t13, hI.bw, hI.q4⟩⟩
            · rintro L a wx ⟨v34, v35, v36, v37, v38, v39, v40, v41, v42, v43, v44, v45, v46, v4, rfl, hI⟩ hL hdep hcl K hK
              go_simp
              exact hK _ _ ⟨v34, v35, v36, _, v38, v39, v40, v41, v42, v43, v44, v45, v46, v4, rfl, ⟨hI.t0, hI.t1, hI.t2, fun _ => rfl, hI.t4, hI.t5, hI.t6, hI.t7, hI.t8, hI.t9, hI.t10, hI.t11, hI.t12, hI.t13, hI.bw, hI.q4⟩⟩
            · rintro L a wx ⟨v34, v35, v36, v37, v38, v39, v40, v41, v42, v43, v44, v45, v46, v4, rfl, hI⟩ hL hdep hcl K hK
              obtain rfl := hI.t3 (hdep 3 (by decide))
              have c := ((HW5.out.trans (hI.bw.mono HW5.out.size)).cell (p := ⟨g, 1, none⟩) HGL.out).trans c1
              go_simp
              exact hK _ _ ⟨v34, v35, v36, _, _, v39, v40, v41, v42, v43, v44, v45, v46, v4, rfl, ⟨hI.t0, hI.t1, hI.t2, hI.t3, fun _ => rfl, hI.t5, hI.t6, hI.t7, hI.t8, hI.t9, hI.t10, hI.t11, hI.t12, hI.t13, hI.bw, hI.q4⟩⟩
            · rintro L a wx ⟨v34, v35, v36, v37, v38, v39, v40, v41, v42, v43, v44, v45, v46, v4, rfl, hI⟩ hL hdep hcl K hK
              go_simp
              exact hK _ _ ⟨v34, v35, v36, v37, v38, _, v40, v41, v42, v43, v44, v45, v46, v4, rfl, ⟨hI.t0, hI.t1, hI.t2, hI.t3, hI.t4, fun _ => rfl, hI.t6, hI.t7, hI.t8, hI.t9, hI.t10, hI.t11, hI.t12, hI.t13, hI.bw, hI.q4⟩⟩
            · rintro L a wx ⟨v34, v35, v36, v37, v38, v39, v40, v41, v42, v43, v44, v45, v46, v4, rfl, hI⟩ hL hdep hcl K hK
              obtain rfl := hI.t5 (hdep 5 (by decide))
              have h := HLEN.out
              go_simp
              exact hK _ _ ⟨v34, v35, v36, v37, v38, _, _, v41, v42, v43, v44, v45, v46, v4, rfl, ⟨hI.t0, hI.t1, hI.t2, hI.t3, hI.t4, hI.t5, fun _ => rfl, hI.t7, hI.t8, hI.t9, hI.t10, hI.t11, hI.t12, hI.t13, hI.bw, hI.q4⟩⟩
            · rintro L a wx ⟨v34, v35, v36, v37, v38, v39, v40, v41, v42, v43, v44, v45, v46, v4, rfl, hI⟩ hL hdep hcl K hK
              obtain rfl := hI.t4 (hdep 4 (by decide))
              obtain rfl := hI.t6 (hdep 6 (by decide))
              have h := H41.out
              go_simp
              exact hK _ _ ⟨v34, v35, v36, v37, _, v39, _, _, v42, v43, v44, v45, v46, v4, rfl, ⟨hI.t0, hI.t1, hI.t2, hI.t3, hI.t4, hI.t5, hI.t6, fun _ => rfl, hI.t8, hI.t9, hI.t10, hI.t11, hI.t12, hI.t13, hI.bw, hI.q4⟩⟩
            · rintro L a wx ⟨v34, v35, v36, v37, v38, v39, v40, v41, v42, v43, v44, v45, v46, v4, rfl, hI⟩ hL hdep hcl K hK
              obtain rfl := hI.t7 (hdep 7 (by decide))
              have HC := HREP.out wx
              go_simp
              refine HC.mono ?_
              rintro e w' ⟨rfl, hb⟩
              exact hK _ _ ⟨v34, v35, v36, v37, v38, v39, v40, _, _, v43, v44, v45, v46, v4, rfl, ⟨hI.t0, hI.t1, hI.t2, hI.t3, hI.t4, hI.t5, hI.t6, hI.t7, fun _ => rfl, hI.t9, hI.t10, hI.t11, hI.t12, hI.t13, ((hI.bw).trans (hb.mono (hI.bw).size)), hI.q4⟩⟩
            · rintro L a wx ⟨v34, v35, v36, v37, v38, v39, v40, v41, v42, v43, v44, v45, v46, v4, rfl, hI⟩ hL hdep hcl K hK
              obtain rfl := hI.t2 (hdep 2 (by decide))
              obtain rfl := hI.t8 (hdep 8 (by decide))
              refine ow_cat _ _ _ rfl (ahd k) (List.replicate m 48) _ (rfl) (by have h1 := HL1.out; have h2 := HL2.out; have h3 := HL3.out; simp only [List.length_replicate]; omega) rfl rfl ?_
              exact hK _ _ ⟨v34, v35, _, v37, v38, v39, v40, v41, _, _, v44, v45, v46, v4, rfl, ⟨hI.t0, hI.t1, hI.t2, hI.t3, hI.t4, hI.t5, hI.t6, hI.t7, hI.t8, fun _ => rfl, hI.t10, hI.t11, hI.t12, hI.t13, hI.bw, hI.q4⟩⟩
            · rintro L a wx ⟨v34, v35, v36, v37, v38, v39, v40, v41, v42, v43, v44, v45, v46, v4, rfl, hI⟩ hL hdep hcl K hK
              go_simp
              exact hK _ _ ⟨v34, v35, v36, v37, v38, v39, v40, v41, v42, v43, _, v45, v46, v4, rfl, ⟨hI.t0, hI.t1, hI.t2, hI.t3, hI.t4, hI.t5, hI.t6, hI.t7, hI.t8, hI.t9, fun _ => rfl, hI.t11, hI.t12, hI.t13, hI.bw, hI.q4⟩⟩
            · rintro L a wx ⟨v34, v35, v36, v37, v38, v39, v40, v41, v42, v43, v44, v45, v46, v4, rfl, hI⟩ hL hdep hcl K hK
              obtain rfl := hI.t9 (hdep 9 (by decide))
              obtain rfl := hI.t10 (hdep 10 (by decide))
              refine ow_cat _ _ _ rfl (ahd k ++ List.replicate m 48) (Lib.decDigits (f k)) _ (List.append_assoc _ _ _) (by have h1 := HL1.out; have h2 := HL2.out; have h3 := HL3.out; simp only [List.length_append, List.length_replicate]; omega) rfl rfl ?_
              exact hK _ _ ⟨v34, v35, v36, v37, v38, v39, v40, v41, v42, _, _, _, v46, v4, rfl, ⟨hI.t0, hI.t1, hI.t2, hI.t3, hI.t4, hI.t5, hI.t6, hI.t7, hI.t8, hI.t9, hI.t10, fun _ => rfl, hI.t12, hI.t13, hI.bw, hI.q4⟩⟩
            · rintro L a wx ⟨v34, v35, v36, v37, v38, v39, v40, v41, v42, v43, v44, v45, v46, v4, rfl, hI⟩ hL hdep hcl K hK
              obtain rfl := hI.t0 (hdep 0 (by decide))
              obtain rfl := hI.t11 (hdep 11 (by decide))
              refine ow_cat _ _ _ rfl (nameTo f k) (ahd k ++ (List.replicate m 48 ++ Lib.decDigits (f k))) _ (rfl) (by have h1 := HL1.out; have h2 := HL2.out; have h3 := HL3.out; simp only [List.length_append, List.length_replicate]; omega) rfl rfl ?_
              exact hK _ _ ⟨_, v35, v36, v37, v38, v39, v40, v41, v42, v43, v44, _, _, v4, rfl, ⟨hI.t0, hI.t1, hI.t2, hI.t3, hI.t4, hI.t5, hI.t6, hI.t7, hI.t8, hI.t9, hI.t10, hI.t11, fun _ => rfl, hI.t13, hI.bw, hI.q4⟩⟩
            · rintro L a wx ⟨v34, v35, v36, v37, v38, v39, v40, v41, v42, v43, v44, v45, v46, v4, rfl, hI⟩ hL hdep hcl K hK
              obtain rfl := hI.t12 (hdep 12 (by decide))
              go_simp
              exact hK _ _ ⟨v34, v35, v36, v37, v38, v39, v40, v41, v42, v43, v44, v45, _, _, rfl, ⟨hI.t0, hI.t1, hI.t2, hI.t3, hI.t4, hI.t5, hI.t6, hI.t7, hI.t8, hI.t9, hI.t10, hI.t11, hI.t12, fun _ => rfl, hI.bw, fun h => (nomatch (show true = false from h))⟩⟩
            · rintro a wx ⟨v34, v35, v36, v37, v38, v39, v40, v41, v42, v43, v44, v45, v46, v4, rfl, hI⟩
              have hw := hI.bw
              have e4 := hI.t13 rfl
              subst e4
              clear hI
              go_wp2_with fail
              go_roundw
              case rel =>
                refine ⟨k + 1, by omega, ?_, by go_num, ?_, ?_⟩
                · show txt _ = txt (nameTo f k ++ (ahd k ++ (List.replicate (dgt k - Lib.nDigits (f k)) 48 ++ Lib.decDigits (f k))))
                  rw [← HM.out]
                · rw [okTo, HO.out, HOK.out]; rfl
                · exact HB4.out.trans ((HW5.out.trans (hw.mono HW5.out.size)).mono HB4.out.size)
              case measure => simp [intOf]; omega
  
    · have e3 : k = 3 := by omega
      subst e3
      go_wp2_with fail
      go_ret2
      refine ⟨?_, HBR.out⟩
      unfold layT
      rw [HO.out]
      rfl
end Go.Proofs.YtfidajbenmgflaaDoor
