/-
  Layer 9: New, Peaks, From, Copy. Conditions: those in each statement.
-/
import Derived.Test.YtlfncgpjgbpdjaaRnC
namespace Go.Proofs.Ytlfncgpjgbpdjaa
open Go.RowKit

theorem built_rnew : Try.prog.built 49 [(0, .bool true)] = some #[.bool true, .int .u64 0, .slice none 0 0] := by kernel_rfl
theorem built_rof (n : Int) (g m : Nat) : Try.prog.built 49 [(0, .bool true), (1, .int .u64 n), (2, .slice (some ⟨g, 0, none⟩) m m)] = some #[.bool true, .int .u64 n, .slice (some ⟨g, 0, none⟩) m m] := by kernel_rfl
set_option maxHeartbeats 800000 in
theorem New_r (w : World) : Calls Try.prog 5 #[] w fun e w' => ∃ p, e = .returned (.pointer (some ⟨p, 0, none⟩)) ∧ IsR (fun _ => False) w' p 0 [] ∧ w.heap.size ≤ p ∧ Below w.heap.size w w' := by
  go_enter Try.func5, Try.ntmps5
  go_wp2_with (first
    | ((with_reducible show wpList _ _ _ (⟨some 1, .build _ _, _, _, _, _⟩ :: _) _ _); refine wpList_buildTo rfl 49 _ rfl (some 1) rfl #[.bool true, .int .u64 0, .slice none 0 0] (by simpa [Act.eval] using built_rnew) ?_)
    | ((with_reducible show wpList _ _ _ (⟨some 2, .box _ _, _, _, _, _⟩ :: _) _ _); refine wl_box rfl 49 _ rfl [.bool true, .int .u64 0, .slice none 0 0] rfl ?_; intro w2 hA2 hb2 hs2))
  go_ret
  exact ⟨_, rfl, ⟨⟨none, 0, hA2, rdd_nil _, fun ad e => by cases e⟩, by rw [popN_zero]; rfl, by omega⟩, Nat.le_refl _, hb2⟩
set_option maxHeartbeats 800000 in
theorem Peaks_any {q : Nat → Prop} (p n : Nat) (P : List (List UInt8)) (w : World) (h : IsR q w p n P) :
    Calls Try.prog 12 #[.pointer (some ⟨p, 0, none⟩)] w fun e w' => e = .returned (.slice (some ⟨w.heap.size, 0, none⟩) P.length P.length) ∧ Arr w' w.heap.size 29 (dcs P) ∧ Below w.heap.size w w' := by
  have hfew := h.few
  obtain ⟨a, c, hA, hr, -⟩ := h.ex
  have c2 := hA.cell 2
  simp only [List.getElem?_cons_succ, List.getElem?_cons_zero] at c2
  have HI := Lib.hid (isR_any _ _ p true w hA)
  have HF := Lib.hid (fresh_any P a P.length c w (by omega) hr)
  clear hA h hr hfew
  generalize P.length = m at *
  go_enter Try.func12, Try.ntmps12
  go_wp2_with (first
    | (go_at_call 21; refine (HI.out).mono ?_; rintro e w1 ⟨rfl, rfl⟩)
    | (go_at_call 22; refine (HF.out).mono ?_; rintro e w1 ⟨rfl, hA1, hb1⟩))
  go_ret
  exact ⟨rfl, hA1, hb1⟩
set_option maxHeartbeats 1600000 in
/-- From, where it makes one -/
theorem From_any (P : List (List UInt8)) (a : Option Addr) (c n : Nat) (w : World) (hr : RdD w a P.length c P) (hn : n ≤ 1048576) (hc : P.length = popN n) :
    Calls Try.prog 14 #[.slice a P.length c, .int .u64 (n : Int)] w fun e w' => ∃ p, e = .returned (.tuple #[.pointer (some ⟨p, 0, none⟩), .int .i64 0]) ∧ IsR (fun b => w.heap.size ≤ b) w' p n P ∧ w.heap.size ≤ p ∧ Below w.heap.size w w' := by
  have hpl : popN n ≤ 21 := lowP_len_lt 21 n 1 (by omega)
  have HO := fun w => ones_any n w (by omega)
  rw [← hc] at HO
  have HO := Lib.hid HO
  have HF := Lib.hid (fresh_any P a P.length c w (by omega) hr)
  have hall := hr.all
  have HC := Lib.hid hc
  have hd : ¬ ((1048576 : Int) < (n : Int)) := by omega
  obtain ⟨m, hm⟩ : ∃ m, m = P.length := ⟨_, rfl⟩
  rw [← hm] at HO HF ⊢
  have HM := Lib.hid hm
  clear hc hr hpl hm
  go_enter Try.func14, Try.ntmps14
  go_wp2_with (first
    | (go_at_call 25; refine (HO.out _).mono ?_; rintro e w0 ⟨rfl, rfl⟩)
    | (go_at_call 22; refine (HF.out).mono ?_; rintro e w1 ⟨rfl, hA1, hb1⟩)
    | ((with_reducible show wpList _ _ _ (⟨some 18, .build _ _, _, _, _, _⟩ :: _) _ _); refine wpList_buildTo rfl 49 _ rfl (some 18) rfl #[.bool true, .int .u64 (n : Int), .slice (some ⟨w.heap.size, 0, none⟩) m m] (by simpa [Act.eval] using built_rof n _ _) ?_)
    | ((with_reducible show wpList _ _ _ (⟨some 19, .box _ _, _, _, _, _⟩ :: _) _ _); refine wl_box rfl 49 _ rfl [.bool true, .int .u64 (n : Int), .slice (some ⟨w.heap.size, 0, none⟩) m m] rfl ?_; intro w2 hA2 hb2 hs2))
  go_ret2
  obtain rfl := HM.out
  have z1 := hb1.size
  have hA1' := hA1.kept hb2
  exact ⟨_, rfl, ⟨⟨_, _, hA2, rdd_arr' hA1' hall rfl, fun ad e => by injection e with e; rw [← e]; exact ⟨Nat.le_refl _, hA1'.lt, _, hA1'⟩⟩, HC.out, hn⟩, z1, hb1.trans (hb2.mono z1)⟩
set_option maxHeartbeats 1600000 in
/-- From, where it makes none -/
theorem From_no (m : Nat) (a : Option Addr) (c n : Nat) (w : World) (hc : 1048576 < n ∨ (n ≤ 1048576 ∧ m ≠ popN n)) :
    Calls Try.prog 14 #[.slice a m c, .int .u64 (n : Int)] w fun e w' => e = .returned (.tuple #[.pointer none, .int .i64 1]) ∧ w = w' := by
  rcases hc with h | ⟨h, h2⟩
  · have hd : (1048576 : Int) < (n : Int) := by omega
    go_enter Try.func14, Try.ntmps14
    go_wp2
    go_ret2
    exact ⟨rfl, rfl⟩
  · have hd : ¬ ((1048576 : Int) < (n : Int)) := by omega
    have HO := Lib.hid (fun w => ones_any n w (by omega))
    have hd2 : ¬ ((m : Int) = (popN n : Int)) := by omega
    generalize popN n = k at *
    go_enter Try.func14, Try.ntmps14
    go_wp2_with (go_at_call 25; refine (HO.out _).mono ?_; rintro e w0 ⟨rfl, rfl⟩)
    go_ret2
    exact ⟨rfl, rfl⟩
end Go.Proofs.Ytlfncgpjgbpdjaa
