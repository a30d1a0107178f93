/-
  Layer 8: worlds that are kept but for some blocks; rows of rows, each cell known; a hash's first byte turned. Conditions: those in each statement.
-/
import Derived.Test.YtlfncgpjgbpdjaaMkS
namespace Go.Proofs.Ytlfncgpjgbpdjaa
open Go.RowKit

/-- all of w is kept but for the blocks of S -/
structure KB (S : Nat → Prop) (w w' : World) : Prop where
  os : w'.os = w.os
  tape : w'.tape = w.tape
  output : w'.output = w.output
  size : w.heap.size ≤ w'.heap.size
  block : ∀ k, k < w.heap.size → ¬ S k → w'.heap[k]? = w.heap[k]?
theorem KB.refl (S : Nat → Prop) (w : World) : KB S w w := ⟨rfl, rfl, rfl, Nat.le_refl _, fun _ _ _ => rfl⟩
theorem KB.mono {S S' : Nat → Prop} {w w' : World} (h : KB S w w') (hs : ∀ k, S k → S' k) : KB S' w w' := ⟨h.os, h.tape, h.output, h.size, fun k hk hn => h.block k hk fun e => hn (hs k e)⟩
theorem KB.below {S : Nat → Prop} {w w' w'' : World} (h : KB S w w') (hb : Below w'.heap.size w' w'') : KB S w w'' :=
  ⟨hb.os.trans h.os, hb.tape.trans h.tape, hb.output.trans h.output, Nat.le_trans h.size hb.size, fun k hk hn => (hb.block k (Nat.lt_of_lt_of_le hk h.size)).trans (h.block k hk hn)⟩
theorem KB.grown {S : Nat → Prop} {w w' w'' : World} {g : Nat} (h : KB S w w') (hg : w'.grownBy w'' (some g)) (hs : S g) : KB S w w'' :=
  ⟨hg.os.trans h.os, hg.tape.trans h.tape, hg.output.trans h.output, Nat.le_trans h.size hg.size, fun k hk hn => (hg.block k (Nat.lt_of_lt_of_le hk h.size) (by intro e; injection e with e; rw [e] at hn; exact hn hs)).trans (h.block k hk hn)⟩
theorem KB.drew {S : Nat → Prop} {w w' : World} (h : KB S w w') : KB S w w'.drew := ⟨h.os, h.tape, h.output, h.size, h.block⟩
theorem KB.cell {S : Nat → Prop} {w w' : World} {p : Addr} (h : KB S w w') (hp : p.block < w.heap.size) (hs : ¬ S p.block) : w'.cell? p = w.cell? p := World.cell?_of_block (h.block p.block hp hs)
theorem KB.under {S : Nat → Prop} {w w' : World} {B : Nat} (h : KB S w w') (hs : ∀ k, S k → B ≤ k) (hB : B ≤ w.heap.size) : Below B w w' :=
  ⟨h.os, h.tape, h.output, h.size, fun k hk => h.block k (by omega) fun e => by have := hs k e; omega⟩
theorem KB.rdD {S : Nat → Prop} {w w' : World} {a : Option Addr} {n c : Nat} {L : List (List UInt8)} (h : KB S w w') (hr : RdD w a n c L) (hs : ∀ ad, a = some ad → 0 < n → ¬ S ad.block) : RdD w' a n c L := by
  refine ⟨hr.len, hr.le, hr.all, hr.nil, fun h0 => ?_⟩
  obtain ⟨b, off, e, hlt, hc⟩ := hr.mem h0
  exact ⟨b, off, e, Nat.lt_of_lt_of_le hlt h.size, fun k hk j hj => (h.cell (p := ⟨b, off + k * 32 + j, none⟩) hlt (hs ⟨b, off, none⟩ e h0)).trans (hc k hk j hj)⟩
theorem KB.ownD {S : Nat → Prop} {w w' : World} {B g n c : Nat} {L : List (List UInt8)} (h : KB S w w') (hr : OwnD w B (.slice (some ⟨g, 0, none⟩) n c) L) (hs : ¬ S g) : OwnD w' B (.slice (some ⟨g, 0, none⟩) n c) L := by
  have hlt := (World.ownsRow.lt hr.row g rfl).2
  refine ⟨?_, hr.all⟩
  obtain ⟨h1, ⟨e, hn⟩ | ⟨g', cap, cur, e, hbb, hg, r⟩⟩ := hr.row
  · exact ⟨h1, .inl ⟨e, hn⟩⟩
  · injection e with e e2 e3
    injection e with e
    injection e with e
    subst e e3
    exact ⟨h1, .inr ⟨_, _, cur, by rw [e2], hbb, by rw [h.block _ hlt hs]; exact hg, r⟩⟩

theorem OwnD.solid {w : World} {B : Nat} {v : Value} {L : List (List UInt8)} (h : OwnD w B v L) (h0 : 0 < L.length) : ∃ g c, v = .slice (some ⟨g, 0, none⟩) L.length c ∧ B ≤ g ∧ g < w.heap.size := by
  have hlt := World.ownsRow.lt h.row
  obtain ⟨h1, ⟨e, hn⟩ | ⟨g, cap, cur, e, hbb, hg, r⟩⟩ := h.row
  · omega
  · exact ⟨g, cap, e, (hlt g (by rw [e]; rfl)).1, (hlt g (by rw [e]; rfl)).2⟩
theorem OwnD.rdAt {w : World} {B g n c : Nat} {L : List (List UInt8)} (h : OwnD w B (.slice (some ⟨g, 0, none⟩) n c) L) : RdD w (some ⟨g, 0, none⟩) n c L := by
  obtain ⟨a, c', e, hr⟩ := h.rd
  injection e with e1 e2 e3
  subst e1 e2 e3
  exact hr
/-- rows, each cell known -/
structure RowsAt (w : World) (B C b : Nat) (LL : List (List (List UInt8))) (ga cc : Nat → Nat) : Prop where
  lt : b < w.heap.size
  base : B ≤ b
  cell : ∀ j, j < LL.length → w.cell? ⟨b, j, none⟩ = some (.slice (some ⟨ga j, 0, none⟩) (LL.getD j []).length (cc j))
  own : ∀ j, j < LL.length → OwnD w B (.slice (some ⟨ga j, 0, none⟩) (LL.getD j []).length (cc j)) (LL.getD j [])
  apart : ∀ j k, j < LL.length → k < LL.length → j ≠ k → ga j ≠ ga k
  up : ∀ j, j < LL.length → ga j < C
  out : ∀ j, j < LL.length → ga j ≠ b
theorem OwnS.at {w : World} {B C : Nat} {v : Value} {LL : List (List (List UInt8))} (h : OwnS w B C v LL) (hne : ∀ j, j < LL.length → 0 < (LL.getD j []).length) :
    ∃ p c, v = .slice p LL.length c ∧ LL.length ≤ c ∧ (0 < LL.length → ∃ b ga cc, p = some ⟨b, 0, none⟩ ∧ RowsAt w B C b LL ga cc) := by
  obtain ⟨vs, hrow, hel, hap, hup⟩ := h
  have hlt := World.ownsRow.lt hrow
  obtain ⟨hl, ⟨rfl, hn⟩ | ⟨b, cap, cur, rfl, hbb, hg, hnc, hcm, hcs, htk⟩⟩ := id hrow
  · exact ⟨none, 0, by rw [hn], by omega, fun h => by omega⟩
  · refine ⟨_, cap, rfl, hnc, fun _ => ?_⟩
    have hcell : ∀ j u, vs[j]? = some u → w.cell? ⟨b, j, none⟩ = some u := by
      intro j u hu
      have e : w.cell? ⟨b, j, none⟩ = cur[j]? := by simp [World.cell?, hg]
      rw [e]
      rw [← htk] at hu
      have hj := (List.getElem?_eq_some_iff.1 hu).1
      rw [List.getElem?_take] at hu
      split at hu
      · simpa using hu
      · cases hu
    have hex : ∀ j, ∃ q : Nat × Nat, j < LL.length → vs[j]? = some (.slice (some ⟨q.1, 0, none⟩) (LL.getD j []).length q.2) ∧ OwnD w B (.slice (some ⟨q.1, 0, none⟩) (LL.getD j []).length q.2) (LL.getD j []) := by
      intro j
      by_cases hj : j < LL.length
      · obtain ⟨u, hu, ho⟩ := hel j hj
        obtain ⟨g, c, e, -, -⟩ := ho.solid (hne j hj)
        subst e
        exact ⟨(g, c), fun _ => ⟨hu, ho⟩⟩
      · exact ⟨(0, 0), fun h => absurd h hj⟩
    obtain ⟨q, hq⟩ := Classical.axiomOfChoice hex
    refine ⟨b, fun j => (q j).1, fun j => (q j).2, rfl, ⟨(hlt b rfl).2, hbb, fun j hj => hcell j _ (hq j hj).1, fun j hj => (hq j hj).2, fun j k hj hk hjk e => ?_, fun j hj => hup j _ _ (hq j hj).1 rfl, fun j hj e => ?_⟩⟩
    · exact hap j k _ _ (q j).1 hjk (hq j hj).1 (hq k hk).1 rfl (by show some (q k).1 = some (q j).1; rw [show (q j).1 = (q k).1 from e])
    · have := rows_apart (hq j hj).2.row hrow (by decide)
      rcases this with h | h
      · cases h
      · exact h (by show some (q j).1 = some b; rw [show (q j).1 = b from e])
/-- rows to read -/
structure RowsRd (w : World) (B b : Nat) (LL : List (List (List UInt8))) (qa : Nat → Option Addr) (cc : Nat → Nat) : Prop where
  lt : b < w.heap.size
  base : B ≤ b
  cell : ∀ j, j < LL.length → w.cell? ⟨b, j, none⟩ = some (.slice (qa j) (LL.getD j []).length (cc j))
  rd : ∀ j, j < LL.length → RdD w (qa j) (LL.getD j []).length (cc j) (LL.getD j [])
  low : ∀ j, j < LL.length → ∀ ad, qa j = some ad → B ≤ ad.block
theorem OwnR.at {w : World} {B : Nat} {v : Value} {LL : List (List (List UInt8))} (h : OwnR w B v LL) :
    ∃ p c, v = .slice p LL.length c ∧ LL.length ≤ c ∧ (0 < LL.length → ∃ b qa cc, p = some ⟨b, 0, none⟩ ∧ RowsRd w B b LL qa cc) := by
  obtain ⟨vs, hrow, hel⟩ := h
  have hlt := World.ownsRow.lt hrow
  obtain ⟨hl, ⟨rfl, hn⟩ | ⟨b, cap, cur, rfl, hbb, hg, hnc, hcm, hcs, htk⟩⟩ := hrow
  · exact ⟨none, 0, by rw [hn], by omega, fun h => by omega⟩
  · refine ⟨_, cap, rfl, hnc, fun _ => ?_⟩
    have hcell : ∀ j u, vs[j]? = some u → w.cell? ⟨b, j, none⟩ = some u := by
      intro j u hu
      have e : w.cell? ⟨b, j, none⟩ = cur[j]? := by simp [World.cell?, hg]
      rw [e]
      rw [← htk] at hu
      rw [List.getElem?_take] at hu
      split at hu
      · simpa using hu
      · cases hu
    have hex : ∀ j, ∃ q : Option Addr × Nat, j < LL.length → vs[j]? = some (.slice q.1 (LL.getD j []).length q.2) ∧ RdD w q.1 (LL.getD j []).length q.2 (LL.getD j []) ∧ ∀ ad, q.1 = some ad → B ≤ ad.block := by
      intro j
      by_cases hj : j < LL.length
      · obtain ⟨u, hu, ho⟩ := hel j hj
        obtain ⟨a, c, e, hr⟩ := ho.rd
        have hl2 := World.ownsRow.lt ho.row
        subst e
        exact ⟨(a, c), fun _ => ⟨hu, hr, fun ad e => (hl2 ad.block (by rw [show a = some ad from e]; rfl)).1⟩⟩
      · exact ⟨(none, 0), fun h => absurd h hj⟩
    obtain ⟨q, hq⟩ := Classical.axiomOfChoice hex
    exact ⟨b, fun j => (q j).1, fun j => (q j).2, rfl, ⟨(hlt b rfl).2, hbb, fun j hj => hcell j _ (hq j hj).1, fun j hj => (hq j hj).2.1, fun j hj => (hq j hj).2.2⟩⟩

theorem xor_one (y : UInt8) : bits BinOp.xor IntKind.u8 ((y.toNat : Nat) : Int) 1 = (((y ^^^ 1).toNat : Nat) : Int) := by
  have h : ∀ n : Fin 256, bits BinOp.xor IntKind.u8 ((n.val : Nat) : Int) 1 = (((UInt8.ofNat n.val ^^^ 1).toNat : Nat) : Int) := by decide +kernel
  have := h ⟨y.toNat, y.toNat_lt⟩
  simpa using this
/-- a list with one hash's first byte turned -/
def flipL (M : List (List UInt8)) (k : Nat) : List (List UInt8) := M.set k ((M.getD k []).set 0 ((M.getD k []).getD 0 0 ^^^ 1))
theorem flipL_len (M : List (List UInt8)) (k : Nat) : (flipL M k).length = M.length := by simp [flipL]
theorem flipL_all {M : List (List UInt8)} (h : All32 M) (k : Nat) (hk : k < M.length) : All32 (flipL M k) := by
  intro j hj
  rw [flipL_len] at hj
  unfold flipL
  by_cases e : k = j
  · subst e
    have := h k hk
    simpa [List.getD, hk] using this
  · have := h j hj
    simpa [List.getD, List.getElem?_set, e] using this
theorem flip_dcs {M : List (List UInt8)} (h : All32 M) (k : Nat) (hk : k < M.length) : (dcs M).set (k * 32) (.int .u8 ((((M.getD k []).getD 0 0 ^^^ 1).toNat : Nat) : Int)) = dcs (flipL M k) := by
  apply List.ext_getElem?
  intro i
  have hl1 := dcs_len h
  have hl2 := dcs_len (flipL_all h k hk)
  rw [flipL_len] at hl2
  by_cases hi : i < M.length * 32
  · have ei : i / 32 * 32 + i % 32 = i := by omega
    have hj : i / 32 < M.length := by omega
    have h2 := dcs_get (flipL_all h k hk) (i / 32) (i % 32) (by rw [flipL_len]; exact hj) (Nat.mod_lt _ (by omega))
    have h1 := dcs_get h (i / 32) (i % 32) hj (Nat.mod_lt _ (by omega))
    rw [ei] at h1 h2
    rw [h2, List.getElem?_set]
    have h32 := h k hk
    by_cases e : k * 32 = i
    · have e1 : i / 32 = k := by omega
      have e2 : i % 32 = 0 := by omega
      rw [if_pos e, if_pos (by omega), e1, e2]
      congr 3
      unfold flipL
      have : 0 < (M.getD k []).length := by omega
      simp [List.getD, hk] at this ⊢
      simp [this]
    · rw [if_neg e, h1]
      congr 3
      unfold flipL
      by_cases e1 : k = i / 32
      · have e2 : i % 32 ≠ 0 := by omega
        subst e1
        simp [List.getD, hj, Ne.symm e2]
      · simp [List.getD, e1]
  · rw [List.getElem?_eq_none (by rw [List.length_set, hl1]; omega), List.getElem?_eq_none (by rw [hl2]; omega)]
theorem OwnD.flip {w : World} {B g n c : Nat} {M : List (List UInt8)} (h : OwnD w B (.slice (some ⟨g, 0, none⟩) n c) M) (k : Nat) (hk : k < M.length) :
    OwnD (w.setCell ⟨g, k * 32, none⟩ (.int .u8 ((((M.getD k []).getD 0 0 ^^^ 1).toNat : Nat) : Int))) B (.slice (some ⟨g, 0, none⟩) n c) (flipL M k) := by
  have hdl := dcs_len h.all
  refine ⟨?_, flipL_all h.all k hk⟩
  rw [flipL_len, ← flip_dcs h.all k hk]
  obtain ⟨h1, ⟨e, hn⟩ | ⟨g', cap, cur, e, hbb, hg, hnc, hcm, hcs, htk⟩⟩ := h.row
  · cases e
  · injection e with e e2 e3
    injection e with e
    injection e with e
    subst e e3
    refine ⟨by rw [List.length_set]; exact h1, .inr ⟨_, _, cur.setIfInBounds (k * 32) _, by rw [e2], hbb, heap_setCell_same w _ (k * 32) cur 29 _ hg, hnc, hcm, by simpa using hcs, ?_⟩⟩
    rw [Array.toList_setIfInBounds, List.take_set, htk]
theorem OwnD.cellAt {w : World} {B g n c : Nat} {M : List (List UInt8)} (h : OwnD w B (.slice (some ⟨g, 0, none⟩) n c) M) (k : Nat) (hk : k < n) :
    w.cell? ⟨g, k * 32, none⟩ = some (.int .u8 (((M.getD k []).getD 0 0).toNat : Int)) ∧ w.frozen? ⟨g, k * 32, none⟩ = false := by
  refine ⟨?_, ?_⟩
  · obtain ⟨b, off, e, -, hc⟩ := h.rdAt.mem (by omega)
    injection e with e
    injection e with e1 e2
    subst e1 e2
    have := hc k hk 0 (by omega)
    simpa using this
  · obtain ⟨h1, ⟨e, hn⟩ | ⟨g', cap, cur, e, hbb, hg, r⟩⟩ := h.row
    · cases e
    · injection e with e e2 e3
      injection e with e
      injection e with e
      subst e
      exact frozen_of_row w _ _ cur 29 hg
end Go.Proofs.Ytlfncgpjgbpdjaa
