/-
  The answers' word: a string's text. Conditions: those in each statement.
-/
import Derived.Test.YtehlgflpkofooaaDoorJsonB
import Derived.Deep.RegionLaw
import Derived.Lib.SlBytesConst
namespace Go.Proofs.YtehlgflpkofooaaDoor
open Go.RowKit

section
variable {P : Program} {T E : TypeId} (bt : BT P T E)
include bt
/-- append(dst, src...) in a region that draws -/
theorem step_append_b {ops : Array Oper} {o : Oper} {a : Act} {w : World} {K : Act → World → Prop} {Q : Exit → Act → World → Prop} {X : Prop} (hgd : o.guard = none)
    (d s : Operand) (ho : o.op = .call { callee := .builtin .append, args := #[d, s], argTypes := #[T, T] })
    (B : Nat) (v : Value) (ys : List UInt8) (hown : Own w B E v ys) (hd : a.eval d = v) (ad : Addr) (sLen sCap : Nat) (xs : List UInt8)
    (hs : a.eval s = .slice (some ad) sLen sCap) (hrd : Rd w (some ad) sLen sCap xs) (hb : ys.length + sLen ≤ 140737488355328) (hB : B ≤ w.heap.size)
    (hK : ∀ v' w', Own w' B E v' (ys ++ xs) → Below B w w' → K (a.put o.dst v') w') :
    if Region.wanted o (yielded ops a.tmps) = true then Oper.wp P o a w K Q else X := by
  rw [if_pos (by simp [Region.wanted, hgd])]
  obtain ⟨i0, hi, hz0, hz1, hz2⟩ := info_parts bt.info
  refine wp_append_own w d s T ho B E i0 (.int .u8 0) 1 1 bt.sl hi hz0 hz1 hz2 rfl (by decide) v _ _ hd hown ad sLen sCap (xs.map bv) hs (by simp [hrd.len]) hrd.cells bv_oneCell (by unfold maxLen; omega) (by omega) hB ?_
  intro v' w' h1 h2 _
  refine hK v' w' ?_ ((Below.refl _ _).grown h2 hB fun k hk => (World.ownsRow.lt hown k hk).1)
  unfold Own
  rw [List.length_append, List.map_append, hrd.len]
  exact h1
end
theorem rd_lit (w : World) (cs : List UInt8) (E : TypeId) (fr : Nat × Nat := (0, 0)) : Rd (w.alloc (.cells (cs.map bv).toArray E fr)) (some ⟨w.heap.size, 0, none⟩) cs.length cs.length cs := by
  refine ⟨rfl, Nat.le_refl _, by (intro e; cases e), fun _ => ⟨w.heap.size, 0, rfl, by simp, fun j hj => ?_⟩⟩
  rw [cell_of_row _ w.heap.size _ _ E fr (heap_alloc_new w _)]
  simp [bv, List.getD, hj]

theorem rd_lit_at (w : World) (cs : List UInt8) (E : TypeId) (g : Nat) (hg : g = w.heap.size) : Rd (w.alloc (.cells (cs.map bv).toArray E (0, 0))) (some ⟨g, 0, none⟩) cs.length cs.length cs := by
  subst hg
  exact rd_lit w cs E

theorem str_index {P : Program} {t : TypeId} (ht : P.underlying t = some .string) (s : ByteArray) (i : Nat) (h : i < s.size) (w : World) :
    (Instr.index t (.string s) (.int .i64 (i : Int))).run P w = .ok (.int .u8 ((s.data.toList.getD i 0).toNat : Int)) w := by
  rw [run_index_string _ _ _ _ _ ht, dif_pos ⟨by omega, by omega⟩]
  have e : s.data.toList.getD i 0 = s[i] := by
    have hi : i < s.data.toList.length := by simpa using h
    rw [List.getD, List.getElem?_eq_getElem hi]
    rfl
  rw [e]
  rfl


theorem rd_drew {w : World} {a : Option Addr} {n cap : Nat} {xs : List UInt8} (h : Rd w a n cap xs) : Rd w.drew a n cap xs := h.to (Below.refl _ _).drew

theorem rd_one (w : World) (x : UInt8) (N : Int) (E : TypeId) (h : (x.toNat : Int) = N) : Rd (w.alloc (.cells #[.int .u8 N] E)) (some ⟨w.heap.size, 0, none⟩) 1 1 [x] := by
  rw [← h]
  exact rd_lit w [x] E

theorem bstr_index (s : List UInt8) (k : Nat) (h : k < s.length) (w : World) : (Instr.index 9 (.string (bstr s)) (.int .i64 (k : Int))).run Tryd.prog w = .ok (.int .u8 ((s.getD k 0).toNat : Int)) w :=
  str_index Tryd.underlying9 (bstr s) k (by show k < s.toArray.size; simpa using h) w

theorem hex_index (n : Nat) (h : n < 16) (w : World) : (Instr.index 9 (.string ⟨#[48, 49, 50, 51, 52, 53, 54, 55, 56, 57, 97, 98, 99, 100, 101, 102]⟩) (.int .u8 (n : Int))).run Tryd.prog w = .ok (.int .u8 ((hexD n).toNat : Int)) w := by
  have : n = 0 ∨ n = 1 ∨ n = 2 ∨ n = 3 ∨ n = 4 ∨ n = 5 ∨ n = 6 ∨ n = 7 ∨ n = 8 ∨ n = 9 ∨ n = 10 ∨ n = 11 ∨ n = 12 ∨ n = 13 ∨ n = 14 ∨ n = 15 := by omega
  rw [run_index_string _ _ _ _ _ Tryd.underlying9]
  rcases this with rfl | rfl | rfl | rfl | rfl | rfl | rfl | rfl | rfl | rfl | rfl | rfl | rfl | rfl | rfl | rfl <;> rfl

theorem esc_six (c : UInt8) : (escF c).length ≤ 6 := by
  unfold escF
  split
  · simp
  · split <;> simp
theorem escs_six (s : List UInt8) : (s.flatMap escF).length ≤ 6 * s.length := by
  induction s with
  | nil => simp
  | cons c r ih => have := esc_six c; simp only [List.flatMap_cons, List.length_append, List.length_cons]; omega
theorem escs_take (s : List UInt8) (k : Nat) (h : k < s.length) : (s.take (k + 1)).flatMap escF = (s.take k).flatMap escF ++ escF (s.getD k 0) := by
  rw [List.take_succ_eq_append_getElem h, List.flatMap_append]
  simp [List.getD, h]

set_option maxHeartbeats 1600000 in
theorem rWord_any (s : List UInt8) (w : World) (hs : s.length ≤ 23456248059000) :
    Calls Tryd.prog 39 #[.string (bstr s)] w fun e w' => ∃ v, e = .returned v ∧ Own w' w.heap.size 5 v (wordF s) ∧ Below w.heap.size w w' := by
  have hsz : (bstr s).size = s.length := by show s.toArray.size = _; simp
  have ho0 := Lib.hid (own_one w 34 5)
  go_enter Tryd.func39, Tryd.ntmps39
  go_wp2_with fail
  have ho1 : Own (w.alloc (.cells #[.int .u8 34] 5)) w.heap.size 5 (.slice (some ⟨w.heap.size, 0, none⟩) 1 1) [34] := ho0.out
  have hb1 : Below w.heap.size w (w.alloc (.cells #[.int .u8 34] 5)) := (Below.refl _ w).alloc (Nat.le_refl _) _
  generalize hg : w.heap.size = g at *
  have HG := Lib.hid hg
  clear hg ho0
  go_loopw [4, 5] (fun v i wr => ∃ (k : Nat), k ≤ s.length ∧ i = .int .i64 k ∧ Own wr g 5 v (34 :: (s.take k).flatMap escF) ∧ Below g w wr) (fun _ i _ => s.length - (intOf i).toNat)
  case atStart => exact ⟨0, by omega, rfl, ho1, hb1⟩
  case round =>
    obtain ⟨k, hk, rfl, ho, hb⟩ := hrel
    obtain ⟨a, c, rfl, -⟩ := ho.shape
    have hlen : Hid ((34 :: (s.take k).flatMap escF).length ≤ 6 * k + 1) := by
      show _ ≤ _
      have := escs_six (s.take k)
      rw [List.length_take] at this
      rw [List.length_cons]
      omega
    generalize hD : 34 :: (s.take k).flatMap escF = ds at ho hlen
    have HD := Lib.hid hD
    clear hD
    by_cases hlt : k < s.length
    · have hc : (k : Int) < (s.length : Int) := by omega
      have hix := bstr_index s k hlt
      have hsn := Lib.hid (escs_take s k hlt)
      have hgr : Hid (g ≤ wr.heap.size) := by show g ≤ _; rw [← HG.out]; exact hb.size
      generalize hx : s.getD k 0 = x at *
      have hxl := x.toNat_lt
      have hL := Lib.hid hlen.out
      have hwb : Hid (∀ {w1 w2 : World}, Below wr.heap.size wr w1 → Below g w1 w2 → Below g w w2) := fun h1 h2 => hb.trans ((h1.mono hgr.out).trans h2)
      by_cases h32 : x.toNat < 32
      · have hcx : (x.toNat : Int) < 32 := by omega
        have hE : Hid (34 :: (s.take (k + 1)).flatMap escF = ds ++ [92, 117, 48, 48, hexD (x.toNat / 16), hexD (x.toNat % 16)]) := by
          show _ = _
          rw [hsn.out, ← HD.out]
          unfold escF
          rw [if_pos h32]
          rfl
        have d1 := hex_index (x.toNat / 16) (by omega)
        have d2 := hex_index (x.toNat % 16) (by omega)
        push_cast at d1 d2
        clear hsn
        generalize hy : x.toNat = y at *
        have hw16 : IntKind.u8.wrap ((y : Int) / 16) = (y : Int) / 16 := IntWalk.u8_in _ (by omega)
        have hr16 : (y : Int).tmod 16 = (y : Int) % 16 := IntWalk.rem_in _ _ (by omega)
        clear hy h32
        go_upto_region 8 with fail
        clear hix
        have hw0 : ∀ o, Below wr.heap.size wr (wr.alloc o).drew := fun o => ((Below.refl _ _).alloc (Nat.le_refl _) _).drew
        go_region_law (go_loud (refine step_append_b bt rfl _ _ rfl g _ _ (ho.to (hw0 _)) rfl _ 6 6 [92, 117, 48, 48, hexD (y / 16), hexD (y % 16)] rfl (rd_drew (rd_lit _ [92, 117, 48, 48, hexD (y / 16), hexD (y % 16)] _)) (by have := hL.out; omega) (by have := hgr.out; simp; omega) ?_); intro v4 w4 ho4 hb4)
        all_goals
          rw [← hE.out] at ho4
          go_wp2
          go_roundw
          case rel => exact ⟨k + 1, by omega, by go_num, ho4, hwb.out (hw0 _) hb4⟩
          case measure => simp [intOf]; omega
      · have hcx : ¬ (x.toNat : Int) < 32 := by omega
        have hw0 : ∀ o, Below wr.heap.size wr (wr.alloc o) := fun o => (Below.refl _ _).alloc (Nat.le_refl _) _
        by_cases hq : x = 34 ∨ x = 92
        · have hE : Hid (34 :: (s.take (k + 1)).flatMap escF = (ds ++ [92]) ++ [x]) := by
            show _ = _
            rw [hsn.out, ← HD.out]
            unfold escF
            rw [if_neg h32, if_pos hq]
            simp
          have hL1 : Hid ((ds ++ [92]).length ≤ 6 * k + 2) := by show _ ≤ _; rw [List.length_append, List.length_singleton]; have := hL.out; omega
          clear hsn h32
          have hqn : x.toNat = 34 ∨ x.toNat = 92 := hq.imp (fun h => by rw [h]; rfl) (fun h => by rw [h]; rfl)
          clear hq
          rcases hqn with hqn | hqn
          · have hqi : (x.toNat : Int) = 34 := by omega
            have hQ := Lib.hid hqi
            clear hqn
            go_wp2_with (first
              | ((with_reducible show wpList _ _ _ (⟨some 38, _, _, _, _, _⟩ :: _) _ _); go_loud (refine wl_append bt rfl (.tmp 36) (.tmp 37) rfl g _ _ (ho.to (hw0 _)) rfl _ 1 1 [92] rfl (rd_lit _ [92] _) (by have := hL.out; omega) (by have := hgr.out; simp; omega) ?_); intro v4 w4 ho4 hb4; have hg4 : Hid (g ≤ w4.heap.size) := Nat.le_trans hgr.out (Nat.le_trans (hw0 _).size hb4.size))
              | ((with_reducible show wpList _ _ _ (⟨some 42, _, _, _, _, _⟩ :: _) _ _); go_loud (refine wl_append bt rfl (.tmp 39) (.tmp 41) rfl g _ _ (ho4.to ((Below.refl _ _).alloc (Nat.le_refl _) _)) rfl _ 1 1 [x] rfl (rd_one _ x _ _ hQ.out) (by have := hL1.out; omega) (by have := hg4.out; simp; omega) ?_); intro v5 w5 ho5 hb5))
            all_goals
              rw [← hE.out] at ho5
              go_roundw
              case rel => exact ⟨k + 1, by omega, by go_num, ho5, hwb.out (hw0 _) (hb4.trans ((((Below.refl _ _).alloc (Nat.le_refl _) _).mono hg4.out).trans hb5))⟩
              case measure => simp [intOf]; omega
          · have hqi : (x.toNat : Int) = 92 := by omega
            have hQ := Lib.hid hqi
            clear hqn
            go_wp2_with (first
              | ((with_reducible show wpList _ _ _ (⟨some 38, _, _, _, _, _⟩ :: _) _ _); go_loud (refine wl_append bt rfl (.tmp 36) (.tmp 37) rfl g _ _ (ho.to (hw0 _)) rfl _ 1 1 [92] rfl (rd_lit _ [92] _) (by have := hL.out; omega) (by have := hgr.out; simp; omega) ?_); intro v4 w4 ho4 hb4; have hg4 : Hid (g ≤ w4.heap.size) := Nat.le_trans hgr.out (Nat.le_trans (hw0 _).size hb4.size))
              | ((with_reducible show wpList _ _ _ (⟨some 42, _, _, _, _, _⟩ :: _) _ _); go_loud (refine wl_append bt rfl (.tmp 39) (.tmp 41) rfl g _ _ (ho4.to ((Below.refl _ _).alloc (Nat.le_refl _) _)) rfl _ 1 1 [x] rfl (rd_one _ x _ _ hQ.out) (by have := hL1.out; omega) (by have := hg4.out; simp; omega) ?_); intro v5 w5 ho5 hb5))
            all_goals
              rw [← hE.out] at ho5
              go_roundw
              case rel => exact ⟨k + 1, by omega, by go_num, ho5, hwb.out (hw0 _) (hb4.trans ((((Below.refl _ _).alloc (Nat.le_refl _) _).mono hg4.out).trans hb5))⟩
              case measure => simp [intOf]; omega
        · have hE : Hid (34 :: (s.take (k + 1)).flatMap escF = ds ++ [x]) := by
            show _ = _
            rw [hsn.out, ← HD.out]
            unfold escF
            rw [if_neg h32, if_neg hq]
            rfl
          have hn1 : ¬ (x.toNat : Int) = 34 := fun h => hq (.inl (UInt8.toNat_inj.1 (by have e : (34 : UInt8).toNat = 34 := rfl; omega)))
          have hn2 : ¬ (x.toNat : Int) = 92 := fun h => hq (.inr (UInt8.toNat_inj.1 (by have e : (92 : UInt8).toNat = 92 := rfl; omega)))
          have hb1 : ((x.toNat : Int) == 34) = false := beq_eq_false_iff_ne.2 hn1
          have hb2 : ((x.toNat : Int) == 92) = false := beq_eq_false_iff_ne.2 hn2
          clear hsn h32 hq hn1 hn2
          go_wp2_with ((with_reducible show wpList _ _ _ (⟨some 42, _, _, _, _, _⟩ :: _) _ _); go_loud (refine wl_append bt rfl (.tmp 39) (.tmp 41) rfl g _ _ (ho.to (hw0 _)) rfl _ 1 1 [x] rfl (rd_lit _ [x] _) (by have := hL.out; omega) (by have := hgr.out; simp; omega) ?_); intro v5 w5 ho5 hb5)
          rw [← hE.out] at ho5
          go_roundw
          case rel => exact ⟨k + 1, by omega, by go_num, ho5, hwb.out (hw0 _) hb5⟩
          case measure => simp [intOf]; omega
    · have hc : ¬ (k : Int) < (s.length : Int) := by omega
      have hF : Hid (wordF s = ds ++ [34]) := by
        show _ = _
        rw [← HD.out, List.take_of_length_le (by omega)]
        rfl
      have hgr : Hid (g ≤ wr.heap.size) := by show g ≤ _; rw [← HG.out]; exact hb.size
      have hw0 : ∀ o, Below wr.heap.size wr (wr.alloc o) := fun o => (Below.refl _ _).alloc (Nat.le_refl _) _
      go_wp2_with ((with_reducible show wpList _ _ _ (⟨some 45, _, _, _, _, _⟩ :: _) _ _); go_loud (refine wl_append bt rfl (.tmp 43) (.tmp 44) rfl g _ _ (ho.to (hw0 _)) rfl _ 1 1 [34] rfl (rd_lit _ [34] _) (by have := hlen.out; omega) (by have := hgr.out; simp; omega) ?_); intro v5 w5 ho5 hb5)
      go_ret
      exact ⟨_, rfl, by rw [hF.out, HG.out]; exact ho5, by rw [HG.out]; exact hb.trans (((hw0 _).mono hgr.out).trans hb5)⟩
end Go.Proofs.YtehlgflpkofooaaDoor
