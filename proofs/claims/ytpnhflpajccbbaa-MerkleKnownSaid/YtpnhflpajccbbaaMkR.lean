/-
  Layer 8: rows of rows of hashes that lie apart; the program's Levels. Conditions: those in each statement.
-/
import Derived.Test.YtpnhflpajccbbaaMkQ
namespace Go.Proofs.Ytpnhflpajccbbaa
open Go.RowKit

/-- a call's own row of its own rows of hashes, each in a block of its own below C -/
def OwnS (w : World) (B C : Nat) (v : Value) (LL : List (List (List UInt8))) : Prop :=
  ∃ vs, w.ownsRow B 22 1 v LL.length vs ∧ (∀ k, k < LL.length → ∃ u, vs[k]? = some u ∧ OwnD w B u (LL.getD k [])) ∧
    (∀ (j k : Nat) (x y : Value) (g : Nat), j ≠ k → vs[j]? = some x → vs[k]? = some y → x.ownBlock = some g → y.ownBlock ≠ some g) ∧ ∀ (j : Nat) (x : Value) (g : Nat), vs[j]? = some x → x.ownBlock = some g → g < C
theorem OwnS.ownR {w : World} {B C : Nat} {v : Value} {LL : List (List (List UInt8))} (h : OwnS w B C v LL) : OwnR w B v LL := by
  obtain ⟨vs, h1, h2, -⟩ := h
  exact ⟨vs, h1, h2⟩
theorem OwnS.nil (w : World) (B C : Nat) : OwnS w B C (.slice none 0 0) [] :=
  ⟨[], World.ownsRow_nil w B 22 1, fun k hk => by simp at hk, fun j k x y g _ h => by simp at h, fun j x g h => by simp at h⟩
theorem OwnS.up {w : World} {B C C' : Nat} {v : Value} {LL : List (List (List UInt8))} (h : OwnS w B C v LL) (hc : C ≤ C') : OwnS w B C' v LL := by
  obtain ⟨vs, h1, h2, h3, h4⟩ := h
  exact ⟨vs, h1, h2, h3, fun j x g a b => Nat.lt_of_lt_of_le (h4 j x g a b) hc⟩
theorem OwnS.to {w w' : World} {B C : Nat} {v : Value} {LL : List (List (List UInt8))} (h : OwnS w B C v LL) (hb : Below w.heap.size w w') : OwnS w' B C v LL := by
  obtain ⟨vs, h1, h2, h3, h4⟩ := h
  have hlt := World.ownsRow.lt h1
  refine ⟨vs, ?_, fun k hk => ?_, h3, h4⟩
  · obtain ⟨h1, ⟨rfl, hn⟩ | ⟨g, cap, cur, rfl, hbb, hg, r⟩⟩ := h1
    · exact ⟨h1, .inl ⟨rfl, hn⟩⟩
    · exact ⟨h1, .inr ⟨g, cap, cur, rfl, hbb, by rw [hb.block g (hlt g rfl).2]; exact hg, r⟩⟩
  · obtain ⟨u, e, h⟩ := h2 k hk
    exact ⟨u, e, h.to hb⟩
theorem OwnS.one {w : World} {B g : Nat} {u : Value} {L : List (List UInt8)} (hA : Arr w g 22 [u]) (hB : B ≤ g) (hu : OwnD w B u L) : OwnS w B w.heap.size (.slice (some ⟨g, 0, none⟩) 1 1) [L] := by
  refine ⟨[u], ⟨rfl, .inr ⟨g, 1, _, rfl, hB, hA, Nat.le_refl _, by unfold maxLen; omega, rfl, rfl⟩⟩, fun k hk => ?_, fun j k x y q hjk h1 h2 => ?_, fun j x q h1 h2 => ?_⟩
  · obtain rfl : k = 0 := by simpa using hk
    exact ⟨u, rfl, hu⟩
  · have e1 : j < 1 := by have := (List.getElem?_eq_some_iff.1 h1).1; simpa using this
    have e2 : k < 1 := by have := (List.getElem?_eq_some_iff.1 h2).1; simpa using this
    omega
  · have e1 : j < 1 := by have := (List.getElem?_eq_some_iff.1 h1).1; simpa using this
    obtain rfl : j = 0 := by omega
    simp at h1
    subst h1
    exact (World.ownsRow.lt hu.row q h2).2

section
variable {ops : Array Oper} {rest : List Oper} {o : Oper} {a : Act} {Q : Exit → Act → World → Prop} {w : World}
/-- append(rows, row), the new one apart from the old ones -/
theorem wl_appendS (hgd : o.guard = none) (d s : Operand) (ho : o.op = .call { callee := .builtin .append, args := #[d, s], argTypes := #[32, 32] })
    (B C : Nat) (v : Value) (LL : List (List (List UInt8))) (hd : a.eval d = v) (hown : OwnS w B C v LL) (g : Nat) (u : Value) (L : List (List UInt8)) (hs : a.eval s = .slice (some ⟨g, 0, none⟩) 1 1)
    (hA : Arr w g 22 [u]) (hu : OwnD w C u L) (hBC : B ≤ C) (hC : C ≤ w.heap.size) (h1 : u.oneCell' = true) (hlen : LL.length + 1 ≤ 2 ^ 42) (hB : B ≤ w.heap.size)
    (hK : ∀ v' w', OwnS w' B w'.heap.size v' (LL ++ [L]) → OwnD w' C u L → Below B w w' → wpList Try.prog ops Q rest (a.put o.dst v') w') : wpList Try.prog ops Q (o :: rest) a w := by
  obtain ⟨i0, hi, hz0, hz1, hz2⟩ := info_parts infoDr
  obtain ⟨vs, hrow, hel, hap, hlt⟩ := hown
  have hvl : vs.length = LL.length := by have := hrow.1; omega
  refine wpList_append_own w hgd d s 32 ho B 22 i0 _ 1 24 Try.underlying32 hi hz0 hz1 hz2 rfl (by decide) v _ _ hd hrow ⟨g, 0, none⟩ 1 1 [u] hs rfl
    (fun j x hx => by rw [Addr.add_lit, Nat.zero_add, hA.cell]; exact hx) (by intro x hx; simp only [List.mem_singleton] at hx; rw [hx]; exact h1) (by unfold maxLen; omega) (by omega) hB ?_
  intro v' w' h1 h2 _
  have hsz := h2.size
  refine hK v' w' ⟨vs ++ [u], by rw [List.length_append]; exact h1, fun k hk => ?_, fun j k x y q hjk e1 e2 e3 => ?_, fun j x q e1 e3 => ?_⟩ (hu.by h2 (rows_apart hu.row hrow (by decide))) ((Below.refl _ _).grown h2 hB fun k hk => (World.ownsRow.lt hrow k hk).1)
  · rw [List.length_append] at hk
    by_cases hlt : k < LL.length
    · obtain ⟨x, e, h⟩ := hel k hlt
      refine ⟨x, by rw [List.getElem?_append_left (by omega)]; exact e, ?_⟩
      have e2 : (LL ++ [L]).getD k [] = LL.getD k [] := by simp [List.getD, List.getElem?_append_left hlt]
      rw [e2]
      exact h.by h2 (rows_apart h.row hrow (by decide))
    · obtain rfl : k = LL.length := by simp at hk; omega
      refine ⟨u, by rw [List.getElem?_append_right (by omega), hvl, Nat.sub_self]; rfl, ?_⟩
      have e2 : (LL ++ [L]).getD LL.length [] = L := by simp [List.getD]
      rw [e2]
      exact (hu.base hBC).by h2 (rows_apart hu.row hrow (by decide))
  · have last : ∀ i z, ¬ i < vs.length → (vs ++ [u])[i]? = some z → i = vs.length ∧ z = u := by
      intro i z hi h
      have := (List.getElem?_eq_some_iff.1 h).1
      rw [List.length_append, List.length_singleton] at this
      obtain rfl : i = vs.length := by omega
      simp at h
      exact ⟨rfl, h.symm⟩
    by_cases hj : j < vs.length <;> by_cases hk : k < vs.length
    · rw [List.getElem?_append_left hj] at e1
      rw [List.getElem?_append_left hk] at e2
      exact hap j k x y q hjk e1 e2 e3
    · rw [List.getElem?_append_left hj] at e1
      obtain ⟨-, rfl⟩ := last k y hk e2
      intro e4
      have := hlt j x q e1 e3
      have := (World.ownsRow.lt hu.row q e4).1
      omega
    · rw [List.getElem?_append_left hk] at e2
      obtain ⟨-, rfl⟩ := last j x hj e1
      intro e4
      have := hlt k y q e2 e4
      have := (World.ownsRow.lt hu.row q e3).1
      omega
    · obtain ⟨e, -⟩ := last j x hj e1
      obtain ⟨e', -⟩ := last k y hk e2
      omega
  · by_cases hj : j < vs.length
    · rw [List.getElem?_append_left hj] at e1
      have := hlt j x q e1 e3
      omega
    · have := (List.getElem?_eq_some_iff.1 e1).1
      rw [List.length_append, List.length_singleton] at this
      obtain rfl : j = vs.length := by omega
      simp at e1
      subst e1
      have := (World.ownsRow.lt hu.row q e3).2
      omega
end

set_option maxHeartbeats 6400000 in
theorem Levels_any (L : List (List UInt8)) (a : Option Addr) (n c : Nat) (w : World) (hn : n ≤ 2 ^ 42) (hr : RdD w a n c L) :
    Calls Try.prog 13 #[.slice a n c] w fun e w' => ∃ v i, e = .returned v ∧ n < 2 ^ i ∧ (∀ j, j < i → 2 ^ j ≤ n) ∧ OwnS w' w.heap.size w'.heap.size v (levs L i) ∧ Below w.heap.size w w' := by
  have hl := hr.len
  by_cases h0 : n = 0
  · subst h0
    clear hr hl hn
    go_enter Try.func13, Try.ntmps13
    go_wp2
    go_ret
    exact ⟨_, 0, rfl, by omega, fun j hj => by omega, OwnS.nil _ _ _, Below.refl _ _⟩
  · obtain ⟨b, off, rfl, hbl, -⟩ := hr.mem (by omega)
    have e0 : ((n : Int) == 0) = false := by simp only [beq_eq_false_iff_ne]; omega
    have hC := Clone_any L b off n c w hn hr
    go_enter Try.func13, Try.ntmps13
    go_upto_region 4 with (go_at_call 26; refine hC.mono ?_; rintro _ w1 ⟨lv, rfl, ho1, hb1⟩)
    clear hC
    obtain ⟨ra, rc, rfl, -⟩ := ho1.rd
    rw [hl] at ho1 ⊢
    go_upto_region 5 with ((with_reducible show wpList _ _ _ (⟨some 11, .buildSlice _ _ _, _, _, _, _⟩ :: _) _ _); refine wl_litR rfl 10 rfl (.slice ra n rc) rfl rfl ?_; intro w2 hA2 h2)
    have ho2 := ho1.to h2
    have hS2 : OwnS w2 w.heap.size w2.heap.size (.slice (some ⟨w1.heap.size, 0, none⟩) 1 1) (levs L 1) := by
      have := OwnS.one hA2 hb1.size ho2
      rwa [show levs L 1 = [L] by simp [levs, chunks_zero]]
    have hb2 := hb1.trans (h2.mono hb1.size)
    have hch : OwnD w2 w.heap.size (.slice ra n rc) (chunks L 0) := by rw [chunks_zero]; exact ho2
    clear hA2 ho1 ho2 hb1 h2
    go_wp2_with fail
    go_loopw [3, 4] (fun lv out wr => ∃ i, (∀ j, j ≤ i → 2 ^ j ≤ n) ∧ OwnD wr w.heap.size lv (chunks L i) ∧ OwnS wr w.heap.size wr.heap.size out (levs L (i + 1)) ∧ Below w.heap.size w wr) (fun lv _ _ => slen lv)
    case atStart => exact ⟨0, fun j hj => (by obtain rfl : j = 0 := (by omega); simp; omega), hch, hS2, hb2⟩
    case round =>
      clear hch hS2 hb2
      obtain ⟨i, hj, hlv, hout, hB⟩ := hrel
      have hcl := chunks_len L i
      rw [hl] at hcl
      obtain ⟨la, lc, rfl, hrd⟩ := hlv.rd
      obtain ⟨q, hq⟩ : ∃ q, q = (chunks L i).length := ⟨_, rfl⟩
      rw [← hq] at hrd hcl ⊢
      have hqn : q ≤ n := by rw [hcl]; exact Nat.div_le_self _ _
      by_cases h2q : 2 ≤ q
      · obtain ⟨lb, lo, rfl, -, -⟩ := hrd.mem (by omega)
        have hC := above_any (chunks L i) q lc lb lo wr (by omega) hrd
        rw [pairs_chunks] at hC
        have hpl : (chunks L (i + 1)).length = q / 2 := by rw [chunks_len, hl, hcl, Nat.pow_succ, Nat.div_div_eq_div_mul]
        have HJ : Hid (∀ j, j ≤ i + 1 → 2 ^ j ≤ n) := by
          intro j h
          rcases Nat.lt_or_ge j (i + 1) with h1 | h1
          · exact hj j (by omega)
          · obtain rfl : j = i + 1 := by omega
            rw [hcl, Nat.le_div_iff_mul_le (Nat.two_pow_pos i)] at h2q
            rw [Nat.pow_succ]; omega
        have hil : (levs L (i + 1)).length + 1 ≤ 2 ^ 42 := by
          have h1 := HJ.out (i + 1) (Nat.le_refl _)
          have h2 : i + 1 < 2 ^ (i + 1) := Nat.lt_two_pow_self
          simp [levs]
          omega
        have hstep : Hid (levs L (i + 1) ++ [chunks L (i + 1)] = levs L (i + 1 + 1)) := (levs_succ L (i + 1)).symm
        have hge : (2 : Int) ≤ (q : Int) := by omega
        have HPL := Lib.hid hpl
        have HIL := Lib.hid hil
        obtain ⟨S0, hS0⟩ : ∃ s, s = wr.heap.size := ⟨_, rfl⟩
        have HS0 := Lib.hid hS0
        rw [← hS0] at hC hout
        clear hj hlv hcl hq hrd hpl hil hS0
        generalize levs L (i + 1) = LL at *
        obtain ⟨M, hM⟩ : ∃ M, M = chunks L (i + 1) := ⟨_, rfl⟩
        rw [← hM] at hC HPL hstep
        have HM := Lib.hid hM
        clear hM
        go_upto_region 7 with (go_at_call 27; refine hC.mono ?_; rintro _ w1 ⟨lv, rfl, ho1, hb1⟩)
        clear hC
        obtain ⟨ma, mc, rfl, -⟩ := ho1.rd
        rw [HPL.out] at ho1 ⊢
        have hS1 := hout.to (by rw [← HS0.out]; exact hb1)
        have hb1' : Below wr.heap.size wr w1 := by rw [← HS0.out]; exact hb1
        have hz0 : w.heap.size ≤ S0 := by rw [HS0.out]; exact hB.size
        have hz1 : S0 ≤ w1.heap.size := by rw [HS0.out]; exact hb1'.size
        clear hout hb1
        go_wp2_with (first
          | ((with_reducible show wpList _ _ _ (⟨some 19, .buildSlice _ _ _, _, _, _, _⟩ :: _) _ _); refine wl_litR rfl 18 rfl (.slice ma (q / 2) mc) rfl rfl ?_; intro w2 hA2 h2)
          | (at_builtin; go_loud (refine wl_appendS rfl (.tmp 17) (.tmp 19) rfl w.heap.size S0 u4 LL rfl (hS1.to h2) w1.heap.size (.slice ma (q / 2) mc) M rfl hA2 (ho1.to h2) hz0 (by have := h2.size; omega) rfl HIL.out (by have := h2.size; omega) ?_); intro v3 w3 ho3 hM3 hb3))
        go_roundw
        case rel =>
          have z2 := h2.size
          have z3 := hB.size
          refine ⟨i + 1, HJ.out, by rw [← HM.out]; exact hM3.base hz0, by rw [← hstep.out]; exact ho3, hB.trans ((((hb1'.mono (by omega)).trans (h2.mono (by omega)))).trans hb3)⟩
        case measure => simp [slen]; omega
      · have hge : ¬ ((2 : Int) ≤ (q : Int)) := by omega
        have hlast : Hid (n < 2 ^ (i + 1)) := by
          show _ < _
          rcases Nat.lt_or_ge n (2 ^ (i + 1)) with h | h
          · exact h
          · exfalso
            apply h2q
            rw [hcl, Nat.le_div_iff_mul_le (Nat.two_pow_pos i)]
            rw [Nat.pow_succ] at h
            omega
        have HJ : Hid (∀ j, j < i + 1 → 2 ^ j ≤ n) := fun j h => hj j (by omega)
        clear hj hlv hrd hcl hq
        go_wp2
        go_ret
        exact ⟨_, rfl, i + 1, hlast.out, HJ.out, hout, hB⟩
end Go.Proofs.Ytpnhflpajccbbaa
