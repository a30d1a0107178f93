/-
  The document's Parse. Conditions: those in each statement.
-/
import Derived.Test.YtfidajbenmgflaaDoorTrA
namespace Go.Proofs.YtfidajbenmgflaaDoor
open Go.RowKit

def sepB (j : Nat) : Bool := j == 0 || j == 2 || j == 9
/-- what the document's row of digits has at a place -/
def vN (s : List UInt8) (j : Nat) : Nat := if sepB j then 0 else (s.getD j 0).toNat - 48
def goodS (s : List UInt8) (k : Nat) : Prop := ∀ j, j < k → sepB j = true ∨ tDig (s.getD j 0) = true
theorem ex12 {s : List UInt8} (h : s.length = 12) : ∃ a0 a1 a2 a3 a4 a5 a6 a7 a8 a9 a10 a11, s = [a0, a1, a2, a3, a4, a5, a6, a7, a8, a9, a10, a11] := by
  match s, h with
  | [a0, a1, a2, a3, a4, a5, a6, a7, a8, a9, a10, a11], _ => exact ⟨a0, a1, a2, a3, a4, a5, a6, a7, a8, a9, a10, a11, rfl⟩
theorem ex6 {s : List UInt8} (h : s.length = 6) : ∃ a0 a1 a2 a3 a4 a5, s = [a0, a1, a2, a3, a4, a5] := by
  match s, h with
  | [a0, a1, a2, a3, a4, a5], _ => exact ⟨a0, a1, a2, a3, a4, a5, rfl⟩
theorem ex2 {s : List UInt8} (h : s.length = 2) : ∃ a0 a1, s = [a0, a1] := by
  match s, h with
  | [a0, a1], _ => exact ⟨a0, a1, rfl⟩
theorem ex1 {s : List UInt8} (h : s.length = 1) : ∃ a0, s = [a0] := by
  match s, h with
  | [a0], _ => exact ⟨a0, rfl⟩
theorem name_dg2 {f : Nat → Nat} (ho : okTo f 3 = true) : nameTo f 3 = [116] ++ dg 1 (f 0) ++ [45] ++ dg 6 (f 1) ++ [45] ++ dg 2 (f 2) := by
  have h0 := (ok_at ho (k := 0) (by omega)).2
  have h1 := (ok_at ho (k := 1) (by omega)).2
  have h2 := (ok_at ho (k := 2) (by omega)).2
  simp only [nameTo, piece_dg (show 0 < 3 by omega) h0, piece_dg (show 1 < 3 by omega) h1, piece_dg (show 2 < 3 by omega) h2, List.nil_append]
  simp [ahd, dgt]
/-- a name has its signs, and digits between them -/
theorem good_of {s : List UInt8} (h : okN s = true) : s.length = 12 ∧ s.getD 0 0 = 116 ∧ s.getD 2 0 = 45 ∧ s.getD 9 0 = 45 ∧ goodS s 12 := by
  obtain ⟨k1, k2⟩ := cut_back h
  rw [name_dg2 k1] at k2
  obtain ⟨b1, e1⟩ := ex1 (dg_len 1 (numAt s 0))
  obtain ⟨c0, c1, c2, c3, c4, c5, e6⟩ := ex6 (dg_len 6 (numAt s 1))
  obtain ⟨d0, d1, e2⟩ := ex2 (dg_len 2 (numAt s 2))
  have g1 := dg_digits 1 (numAt s 0)
  have g6 := dg_digits 6 (numAt s 1)
  have g2 := dg_digits 2 (numAt s 2)
  rw [e1] at g1
  rw [e6] at g6
  rw [e2] at g2
  rw [e1, e6, e2] at k2
  have e : s = [116, b1, 45, c0, c1, c2, c3, c4, c5, 45, d0, d1] := k2.symm.trans (by simp)
  simp only [List.all_cons, List.all_nil, Bool.and_true, Bool.and_eq_true] at g1 g6 g2
  clear k1 k2 e1 e6 e2 h
  subst e
  refine ⟨rfl, rfl, rfl, rfl, fun j hj => ?_⟩
  have hc : j = 0 ∨ j = 1 ∨ j = 2 ∨ j = 3 ∨ j = 4 ∨ j = 5 ∨ j = 6 ∨ j = 7 ∨ j = 8 ∨ j = 9 ∨ j = 10 ∨ j = 11 := by omega
  rcases hc with rfl | rfl | rfl | rfl | rfl | rfl | rfl | rfl | rfl | rfl | rfl | rfl
  · exact .inl rfl
  · exact .inr g1
  · exact .inl rfl
  · exact .inr g6.1
  · exact .inr g6.2.1
  · exact .inr g6.2.2.1
  · exact .inr g6.2.2.2.1
  · exact .inr g6.2.2.2.2.1
  · exact .inr g6.2.2.2.2.2
  · exact .inl rfl
  · exact .inr g2.1
  · exact .inr g2.2
/-- the number in the midst, so far -/
def midN (s : List UInt8) (k : Nat) : Nat := tDec 0 ((s.drop 3).take (k - 3))
theorem prs_of {s : List UInt8} (hl : s.length = 12) (h0 : s.getD 0 0 = 116) (h2 : s.getD 2 0 = 45) (h9 : s.getD 9 0 = 45) (hg : goodS s 12) :
    (vN s 1 ≤ 5 ∧ 1 ≤ 10 * vN s 10 + vN s 11 ∧ 10 * vN s 10 + vN s 11 ≤ 16 → prsT s = .tuple #[.int .i64 (vN s 1 : Int), .int .u64 (midN s 9 : Int), .int .i64 ((10 * vN s 10 + vN s 11 : Nat) : Int), .int .i64 0]) ∧
    (¬ (vN s 1 ≤ 5 ∧ 1 ≤ 10 * vN s 10 + vN s 11 ∧ 10 * vN s 10 + vN s 11 ≤ 16) → okN s = false) := by
  obtain ⟨a0, a1, a2, a3, a4, a5, a6, a7, a8, a9, a10, a11, rfl⟩ := ex12 hl
  have e0 : a0 = 116 := h0
  have e2 : a2 = 45 := h2
  have e9 : a9 = 45 := h9
  subst e0 e2 e9
  have g : ∀ j, j < 12 → sepB j = false → tDig (([116, a1, 45, a3, a4, a5, a6, a7, a8, 45, a10, a11] : List UInt8).getD j 0) = true := fun j hj hs => (hg j hj).resolve_left (by rw [hs]; decide)
  have t1 : tDig a1 = true := g 1 (by omega) rfl
  have d1 : ([a1] : List UInt8).all tDig = true := by simp [t1]
  have d6 : ([a3, a4, a5, a6, a7, a8] : List UInt8).all tDig = true := by
    have x3 : tDig a3 = true := g 3 (by omega) rfl
    have x4 : tDig a4 = true := g 4 (by omega) rfl
    have x5 : tDig a5 = true := g 5 (by omega) rfl
    have x6 : tDig a6 = true := g 6 (by omega) rfl
    have x7 : tDig a7 = true := g 7 (by omega) rfl
    have x8 : tDig a8 = true := g 8 (by omega) rfl
    simp [x3, x4, x5, x6, x7, x8]
  have d2 : ([a10, a11] : List UInt8).all tDig = true := by
    have x3 : tDig a10 = true := g 10 (by omega) rfl
    have x4 : tDig a11 = true := g 11 (by omega) rfl
    simp [x3, x4]
  have v1 : tDec 0 [a1] = vN [116, a1, 45, a3, a4, a5, a6, a7, a8, 45, a10, a11] 1 := by simp [tDec, vN, sepB]
  have v2 : tDec 0 [a10, a11] = 10 * vN [116, a1, 45, a3, a4, a5, a6, a7, a8, 45, a10, a11] 10 + vN [116, a1, 45, a3, a4, a5, a6, a7, a8, 45, a10, a11] 11 := by
    simp [tDec, vN, sepB]; omega
  have v6 : tDec 0 [a3, a4, a5, a6, a7, a8] = midN [116, a1, 45, a3, a4, a5, a6, a7, a8, 45, a10, a11] 9 := rfl
  have b1 := dg_back _ d1
  have b6 := dg_back _ d6
  have b2 := dg_back _ d2
  have l6 := dec_lt _ d6
  rw [← v1, ← v2, ← v6]
  clear v1 v2 v6 g hg t1 hl h0 h2 h9
  obtain ⟨X, hX⟩ : ∃ X, X = tDec 0 [a1] := ⟨_, rfl⟩
  obtain ⟨Y, hY⟩ : ∃ Y, Y = tDec 0 [a3, a4, a5, a6, a7, a8] := ⟨_, rfl⟩
  obtain ⟨Z, hZ⟩ : ∃ Z, Z = tDec 0 [a10, a11] := ⟨_, rfl⟩
  rw [← hX] at b1 ⊢
  rw [← hY] at b6 l6 ⊢
  rw [← hZ] at b2 ⊢
  have hy : Y ≤ 999999 := by have : Y < 10 ^ 6 := l6; omega
  have es : ([116, a1, 45, a3, a4, a5, a6, a7, a8, 45, a10, a11] : List UInt8) = [116] ++ dg 1 X ++ [45] ++ dg 6 Y ++ [45] ++ dg 2 Z := by
    have b1' : dg 1 X = [a1] := b1
    have b6' : dg 6 Y = [a3, a4, a5, a6, a7, a8] := b6
    have b2' : dg 2 Z = [a10, a11] := b2
    rw [b1', b6', b2']
    rfl
  constructor
  · intro hc
    have ho : okTo (fun k => match k with | 0 => X | 1 => Y | _ => Z) 3 = true := by
      simp only [okTo, okF, Bool.true_and, Bool.and_eq_true, decide_eq_true_eq]
      exact ⟨⟨⟨Nat.zero_le _, hc.1⟩, Nat.zero_le _, hy⟩, hc.2.1, hc.2.2⟩
    have hn := name_dg2 ho
    simp only at hn
    rw [← es] at hn
    obtain ⟨q1, q2⟩ := name_back ho
    rw [hn] at q1 q2
    have p0 : prsV [116, a1, 45, a3, a4, a5, a6, a7, a8, 45, a10, a11] 0 = X := by unfold prsV; rw [if_pos q1, q2 0 (by omega)]; rfl
    have p1 : prsV [116, a1, 45, a3, a4, a5, a6, a7, a8, 45, a10, a11] 1 = Y := by unfold prsV; rw [if_pos q1, q2 1 (by omega)]; rfl
    have p2 : prsV [116, a1, 45, a3, a4, a5, a6, a7, a8, 45, a10, a11] 2 = Z := by unfold prsV; rw [if_pos q1, q2 2 (by omega)]; rfl
    have pe : prsE [116, a1, 45, a3, a4, a5, a6, a7, a8, 45, a10, a11] = 0 := if_pos q1
    unfold prsT
    rw [p0, p1, p2, pe]
  · intro hc
    cases hq : okN [116, a1, 45, a3, a4, a5, a6, a7, a8, 45, a10, a11] with
    | false => rfl
    | true =>
      exfalso
      obtain ⟨k1, k2⟩ := cut_back hq
      have r0 := ok_at k1 (k := 0) (by omega)
      have r2 := ok_at k1 (k := 2) (by omega)
      rw [name_dg2 k1] at k2
      generalize numAt [116, a1, 45, a3, a4, a5, a6, a7, a8, 45, a10, a11] 0 = x at *
      generalize numAt [116, a1, 45, a3, a4, a5, a6, a7, a8, 45, a10, a11] 1 = y at *
      generalize numAt [116, a1, 45, a3, a4, a5, a6, a7, a8, 45, a10, a11] 2 = z at *
      obtain ⟨w1, e1⟩ := ex1 (dg_len 1 x)
      obtain ⟨c0, c1, c2, c3, c4, c5, e6⟩ := ex6 (dg_len 6 y)
      obtain ⟨w2, w3, e2⟩ := ex2 (dg_len 2 z)
      have s1 : mst 0 = 5 := rfl
      have s2 : mst 2 = 16 := rfl
      have s3 : lst 2 = 1 := rfl
      have u1 := dg_value 1 x (by omega)
      have u2 := dg_value 2 z (by omega)
      rw [e1] at u1
      rw [e2] at u2
      rw [e1, e6, e2] at k2
      simp only [List.cons_append, List.nil_append, List.cons.injEq, true_and, and_true] at k2
      obtain ⟨m1, m3, m4, m5, m6, m7, m8, m10, m11⟩ := k2
      subst m1 m10 m11
      rw [u1] at hX
      rw [u2] at hZ
      omega
theorem str_at (s : List UInt8) (k : Nat) (h : k < s.length) (W : World) : (Instr.index 9 (txt s) (.int .i64 (k : Int))).run Tryd.prog W = .ok (.int .u8 ((s.getD k 0).toNat : Int)) W := by
  have hsz : (⟨s.toArray⟩ : ByteArray).size = s.length := by simp [ByteArray.size]
  rw [run_index_string _ _ _ _ _ Tryd.underlying9, dif_pos (by rw [hsz]; omega)]
  have e : ((⟨s.toArray⟩ : ByteArray)[((k : Int)).toNat]'(by rw [hsz]; omega)) = s.getD k 0 := by
    change s.toArray[((k : Int)).toNat]'(by simpa using h) = s.getD k 0
    simp [List.getD, h]
  rw [e]
end Go.Proofs.YtfidajbenmgflaaDoor
