/-
  Layer 8: heads of lists of hashes, plainly: by the greatest power of 2 below; put together; level by level. Layer 8: the document's hashes of a leaf, of a node. Layer 8: lists of hashes in memory; the document's head. Layer 8: the document's head of two hashes or more, out of both halves'. Layer 8: the document's Root, Sub. Conditions: those in each statement.
-/
import Derived.Test.YtfidajbenmgflaaDoorShaM
import Derived.Test.YtfidajbenmgflaaDoorShaJ
import Derived.Test.YtfidajbenmgflaaDoorDig
import Derived.Test.YtfidajbenmgflaaDoorRegF
import Derived.BigQuiet
import Derived.Deep.QuietTactic
namespace Go.Proofs.YtfidajbenmgflaaDoor
open Go.RowKit


/-- the hashes of a leaf, of a node -/
def leafH (b : List UInt8) : (List UInt8) := shaL (0 :: b)
def nodeH (a b : (List UInt8)) : (List UInt8) := shaL (1 :: (a ++ b))
/-- the greatest power of 2 below n, where n is 2 at least -/
def splK (n : Nat) : Nat := 2 ^ (n - 1).log2
theorem splK_at {n j : Nat} (h1 : 2 ^ j < n) (h2 : n ≤ 2 ^ (j + 1)) : splK n = 2 ^ j := by
  have hp := Nat.two_pow_pos j
  unfold splK
  congr 1
  have hn : n - 1 ≠ 0 := by omega
  have a : j ≤ (n - 1).log2 := by rw [Nat.le_log2 hn]; omega
  have b : (n - 1).log2 < j + 1 := by rw [Nat.log2_lt hn]; omega
  omega
theorem splK_bounds {n : Nat} (h : 2 ≤ n) : 1 ≤ splK n ∧ splK n < n ∧ n ≤ 2 * splK n := by
  have hn : n - 1 ≠ 0 := by omega
  have h1 := Nat.log2_self_le hn
  have h2 := @Nat.lt_log2_self (n - 1)
  have hp := Nat.two_pow_pos (n - 1).log2
  rw [Nat.pow_succ] at h2
  unfold splK
  omega

/-- the head, with so many halvings at most -/
def rootGo : Nat → List (List UInt8) → (List UInt8)
  | 0, _ => shaL []
  | f + 1, L => if L.length = 0 then shaL [] else if L.length = 1 then L.getD 0 [] else nodeH (rootGo f (L.take (splK L.length))) (rootGo f (L.drop (splK L.length)))
/-- the head of a list of hashes -/
def rootF (L : List (List UInt8)) : (List UInt8) := rootGo L.length L
theorem rootGo_enough : ∀ (f g : Nat) (L : List (List UInt8)), L.length ≤ f → L.length ≤ g → rootGo f L = rootGo g L := by
  intro f
  induction f with
  | zero =>
    intro g L h _
    have h0 : L.length = 0 := by omega
    cases g with
    | zero => rfl
    | succ g => simp only [rootGo, if_pos h0]
  | succ f ih =>
    intro g L h hg
    cases g with
    | zero =>
      have h0 : L.length = 0 := by omega
      simp only [rootGo, if_pos h0]
    | succ g =>
      by_cases h0 : L.length = 0
      · simp only [rootGo, if_pos h0]
      · by_cases h1 : L.length = 1
        · simp only [rootGo, if_neg h0, if_pos h1]
        · obtain ⟨b1, b2, b3⟩ := splK_bounds (show 2 ≤ L.length by omega)
          simp only [rootGo, if_neg h0, if_neg h1]
          rw [ih g (L.take (splK L.length)) (by simp; omega) (by simp; omega), ih g (L.drop (splK L.length)) (by simp; omega) (by simp; omega)]
theorem rootF_nil : rootF [] = shaL [] := rfl
theorem rootF_one (a : (List UInt8)) : rootF [a] = a := rfl
theorem rootF_more {L : List (List UInt8)} (h : 2 ≤ L.length) : rootF L = nodeH (rootF (L.take (splK L.length))) (rootF (L.drop (splK L.length))) := by
  obtain ⟨b1, b2, b3⟩ := splK_bounds h
  obtain ⟨f, hf⟩ : ∃ f, L.length = f + 1 := ⟨L.length - 1, by omega⟩
  have e : rootF L = nodeH (rootGo f (L.take (splK L.length))) (rootGo f (L.drop (splK L.length))) := by
    unfold rootF
    rw [hf, rootGo, if_neg (by omega), if_neg (by omega), hf]
  rw [e]
  unfold rootF
  rw [rootGo_enough f (L.take (splK L.length)).length _ (by simp; omega) (Nat.le_refl _), rootGo_enough f (L.drop (splK L.length)).length _ (by simp; omega) (Nat.le_refl _)]
/-- P8.4 -/
theorem rootF_join (j : Nat) (A B : List (List UInt8)) (hA : A.length = 2 ^ j) (hB : 0 < B.length) (hle : B.length ≤ 2 ^ j) : rootF (A ++ B) = nodeH (rootF A) (rootF B) := by
  have hp := Nat.two_pow_pos j
  have hl : (A ++ B).length = 2 ^ j + B.length := by simp [hA]
  have hk : splK (A ++ B).length = 2 ^ j := splK_at (by omega) (by rw [Nat.pow_succ]; omega)
  rw [rootF_more (by omega), hk]
  congr 2
  · rw [← hA]; simp
  · rw [← hA]; simp
/-- all of them have 32 bytes -/
def All32 (L : List (List UInt8)) : Prop := ∀ k, k < L.length → (L.getD k []).length = 32
theorem All32.mem {L : List (List UInt8)} (h : All32 L) {x : (List UInt8)} (hx : x ∈ L) : x.length = 32 := by
  obtain ⟨k, hk, rfl⟩ := List.getElem_of_mem hx
  have := h k hk
  simpa [List.getD, hk] using this
theorem All32.of {L : List (List UInt8)} (h : ∀ x ∈ L, x.length = 32) : All32 L := by
  intro k hk
  have e : L.getD k [] = L[k] := by simp [List.getD, hk]
  rw [e]
  exact h _ (List.getElem_mem hk)
theorem All32.take {L : List (List UInt8)} (h : All32 L) (n : Nat) : All32 (L.take n) := All32.of fun _ hx => h.mem (List.mem_of_mem_take hx)
theorem All32.drop {L : List (List UInt8)} (h : All32 L) (n : Nat) : All32 (L.drop n) := All32.of fun _ hx => h.mem (List.mem_of_mem_drop hx)
theorem rootF_len {L : List (List UInt8)} (h : All32 L) : (rootF L).length = 32 := by
  by_cases h0 : L.length = 0
  · rw [List.eq_nil_of_length_eq_zero h0]; exact shaL_len _
  · by_cases h1 : L.length = 1
    · match L, h1 with
      | [a], _ => rw [rootF_one]; exact h.mem (by simp)
    · rw [rootF_more (by omega)]; exact shaL_len _

/-- the nodes of each two beside one another -/
def pairs : List (List UInt8) → List (List UInt8)
  | a :: b :: r => nodeH a b :: pairs r
  | _ => []
theorem pairs_len : ∀ (n : Nat) (L : List (List UInt8)), L.length ≤ n → (pairs L).length = L.length / 2 := by
  intro n
  induction n with
  | zero =>
    intro L h
    have e := List.eq_nil_of_length_eq_zero (show L.length = 0 by omega)
    subst e
    rfl
  | succ n ih =>
    intro L h
    match L with
    | [] => rfl
    | [_] => simp [pairs]
    | a :: b :: r =>
      have := ih r (by simp at h; omega)
      simp only [pairs, List.length_cons, this]
      omega
theorem pairs_get : ∀ (n : Nat) (L : List (List UInt8)) (k : Nat), L.length ≤ n → 2 * k + 1 < L.length → (pairs L).getD k [] = nodeH (L.getD (2 * k) []) (L.getD (2 * k + 1) []) := by
  intro n
  induction n with
  | zero => intro L k h h2; omega
  | succ n ih =>
    intro L k h h2
    match L with
    | [] => simp at h2
    | [_] => simp at h2
    | a :: b :: r =>
      cases k with
      | zero => simp [pairs]
      | succ k =>
        have := ih r k (by simp at h; omega) (by simp at h2; omega)
        rw [show 2 * (k + 1) = 2 * k + 1 + 1 by omega]
        simpa [pairs] using this
/-- the part of 2 ^ i hashes at place k -/
def chunk (L : List (List UInt8)) (i k : Nat) : List (List UInt8) := (L.drop (k * 2 ^ i)).take (2 ^ i)
/-- level i: the heads of all whole parts of 2 ^ i -/
def chunks (L : List (List UInt8)) (i : Nat) : List (List UInt8) := (List.range (L.length / 2 ^ i)).map fun k => rootF (chunk L i k)
theorem chunks_len (L : List (List UInt8)) (i : Nat) : (chunks L i).length = L.length / 2 ^ i := by simp [chunks]
theorem chunks_get (L : List (List UInt8)) (i k : Nat) (h : k < L.length / 2 ^ i) : (chunks L i).getD k [] = rootF (chunk L i k) := by
  simp [chunks, List.getD, h]
theorem chunks_zero (L : List (List UInt8)) : chunks L 0 = L := by
  apply List.ext_getElem
  · simp [chunks]
  · intro k h1 h2
    have e : chunk L 0 k = [L[k]] := by
      unfold chunk
      rw [Nat.pow_zero, Nat.mul_one, List.drop_eq_getElem_cons h2]
      rfl
    simp [chunks, e, rootF_one]
theorem chunk_len {L : List (List UInt8)} {i k : Nat} (h : (k + 1) * 2 ^ i ≤ L.length) : (chunk L i k).length = 2 ^ i := by
  rw [Nat.add_mul, Nat.one_mul] at h
  simp only [chunk, List.length_take, List.length_drop]
  omega
theorem chunk_two {L : List (List UInt8)} {i k : Nat} : chunk L (i + 1) k = chunk L i (2 * k) ++ chunk L i (2 * k + 1) := by
  unfold chunk
  have e : k * 2 ^ (i + 1) = 2 * k * 2 ^ i := by rw [Nat.pow_succ, Nat.mul_comm 2 k, Nat.mul_assoc, Nat.mul_comm 2]
  rw [e, Nat.pow_succ, Nat.mul_two, List.take_add, List.drop_drop, Nat.add_mul, Nat.one_mul]
theorem pairs_chunks (L : List (List UInt8)) (i : Nat) : pairs (chunks L i) = chunks L (i + 1) := by
  have hl := pairs_len _ (chunks L i) (Nat.le_refl _)
  have h2 : (L.length / 2 ^ i) / 2 = L.length / 2 ^ (i + 1) := by rw [Nat.div_div_eq_div_mul, Nat.pow_succ]
  rw [chunks_len] at hl
  apply List.ext_getElem
  · rw [hl, chunks_len, h2]
  · intro k h1 h3
    have hk : k < L.length / 2 ^ i / 2 := by omega
    have hk2 : 2 * k + 1 < L.length / 2 ^ i := by omega
    have a := pairs_get _ (chunks L i) k (Nat.le_refl _) (by rw [chunks_len]; exact hk2)
    rw [chunks_get L i _ (by omega), chunks_get L i _ hk2] at a
    have b := chunks_get L (i + 1) k (by omega)
    have hp := Nat.two_pow_pos i
    have hend : (2 * k + 1 + 1) * 2 ^ i ≤ L.length := Nat.le_trans (Nat.mul_le_mul_right _ (by omega)) (Nat.div_mul_le_self L.length (2 ^ i))
    have hfst : (2 * k + 1) * 2 ^ i ≤ L.length := Nat.le_trans (Nat.mul_le_mul_right _ (by omega)) hend
    rw [chunk_two, rootF_join i _ _ (chunk_len hfst) (by rw [chunk_len hend]; exact hp) (by rw [chunk_len hend]; exact Nat.le_refl _)] at b
    have c := a.trans b.symm
    simpa [List.getD, h1, h3] using c
/-- all levels, by pairs -/
def levGo : Nat → List (List UInt8) → List (List (List UInt8))
  | 0, _ => []
  | f + 1, L => if L.length = 0 then [] else L :: levGo f (pairs L)
def levelsF (L : List (List UInt8)) : List (List (List UInt8)) := levGo L.length L
theorem levGo_end (f : Nat) (L : List (List UInt8)) (h : L.length = 0) : levGo f L = [] := by
  cases f with
  | zero => rfl
  | succ f => simp only [levGo, if_pos h]
theorem levGo_more (f : Nat) (L : List (List UInt8)) (h : L.length ≠ 0) (hf : L.length ≤ f) : ∃ g, f = g + 1 ∧ (pairs L).length ≤ g ∧ levGo f L = L :: levGo g (pairs L) := by
  have hl := pairs_len _ L (Nat.le_refl _)
  exact ⟨f - 1, by omega, by omega, by rw [show f = (f - 1) + 1 by omega, levGo, if_neg h, Nat.add_sub_cancel]⟩
end Go.Proofs.YtfidajbenmgflaaDoor

namespace Go.Proofs.YtfidajbenmgflaaDoor
open Go.RowKit

theorem own_lit (w : World) (xs : List UInt8) (E : TypeId) (hl : xs.length ≤ maxLen) : Own (w.alloc (.cells (xs.map bv).toArray E)) w.heap.size E (.slice (some ⟨w.heap.size, 0, none⟩) xs.length xs.length) xs := by
  have := World.ownsRow_lit (base := w.heap.size) (e := E) (size := 1) w (xs.map bv).toArray xs.length (Nat.le_refl _) hl (by simp)
  simpa [Own] using this
theorem rd_arr {w : World} {g : Nat} {T : TypeId} {xs : List UInt8} (h : Arr w g T (bvs xs)) : Rd w (some ⟨g, 0, none⟩) xs.length xs.length xs :=
  ⟨rfl, Nat.le_refl _, (by intro e; cases e), fun _ => ⟨g, 0, rfl, h.lt, fun j hj => by rw [Nat.zero_add, h.cell, bvs_get _ _ hj]⟩⟩
theorem hal (w : World) (o : Obj) : Below w.heap.size w (w.alloc o) := (Below.refl _ _).alloc (Nat.le_refl _) _

set_option maxRecDepth 100000 in
set_option maxHeartbeats 1600000 in
theorem rNode_any (x y : List UInt8) (w : World) (hx : x.length = 32) (hy : y.length = 32) :
    Calls Tryd.prog 39 #[.agg (bvs x).toArray, .agg (bvs y).toArray] w fun e w' => e = .returned (.agg (bvs (nodeH x y)).toArray) ∧ Below w.heap.size w w' := by
  have hlen := shaL_len (1 :: (x ++ y))
  have h32 : Hid ((Tryd.prog.info? 48).map (·.size) = some (bvs (nodeH x y)).length) := by show _ = _; rw [bvs_len]; unfold nodeH; rw [hlen]; exact sizeD
  have L32 : Hid ((bvs (nodeH x y)).length = 32) := by show _ = _; rw [bvs_len]; unfold nodeH; rw [hlen]
  have hS : Hid (∀ a n c w, Rd w a n c ([1] ++ x ++ y) → Calls Tryd.prog 38 #[.slice a n c] w (fun e w' => e = .returned (.agg (bvs (nodeH x y)).toArray) ∧ Below w.heap.size w w')) := fun a n c w h => by
    have := rSum_any (1 :: (x ++ y)) a n c w (by simp; omega) h
    exact this
  have hrx : Hid (∀ w g, Arr w g 48 (bvs x) → Rd w (some ⟨g, 0, none⟩) 32 32 x) := fun w g h => by have := rd_arr h; rwa [hx] at this
  have hry : Hid (∀ w g, Arr w g 48 (bvs y) → Rd w (some ⟨g, 0, none⟩) 32 32 y) := fun w g h => by have := rd_arr h; rwa [hy] at this
  have HX := Lib.hid hx
  have HY := Lib.hid hy
  clear hlen hx hy
  generalize nodeH x y = S at *
  go_enter Tryd.func39, Tryd.ntmps39
  go_wp2_with (first
    | ((with_reducible show wpList _ _ _ (⟨some 2, .box _ _, _, _, _, _⟩ :: _) _ _); refine wl_box rfl 48 _ rfl (bvs x) rfl ?_; intro w1 hA1 hb1 hs1)
    | ((with_reducible show wpList _ _ _ (⟨some 3, .box _ _, _, _, _, _⟩ :: _) _ _); refine wl_box rfl 48 _ rfl (bvs y) rfl ?_; intro w2 hA2 hb2 hs2)
    | ((with_reducible show wpList _ _ _ (⟨some 4, .alloc _, _, _, _, _⟩ :: _) _ _); refine wl_alloc rfl 48 rfl (bvs (Z8 32)) 32 infoD ?_; intro w3 hA3 hb3 hs3)
    | ((with_reducible show wpList _ _ _ (⟨some 9, _, _, _, _, _⟩ :: _) _ _); refine wl_append bt rfl (.tmp 7) (.tmp 8) rfl w3.heap.size _ [1] (own_lit w3 [1] 5 (by decide)) rfl _ 32 32 x rfl (hrx.out _ _ (((hA1.kept hb2).kept hb3).kept (hal w3 _))) (by simp) (by simp) ?_; intro v4 w4 ho4 hb4)
    | ((with_reducible show wpList _ _ _ (⟨some 12, _, _, _, _, _⟩ :: _) _ _); refine wl_append bt rfl (.tmp 10) (.tmp 11) rfl w3.heap.size _ _ ho4 rfl _ 32 32 y rfl (hry.out _ _ (((hA2.kept hb3).kept (hal w3 _)).to hb4 (by omega))) (by simp [HX.out]) (by have := hb4.size; simp at this; omega) ?_; intro v5 w5 ho5 hb5; obtain ⟨a5, n5, c5, rfl, hr5⟩ := ho5.reads)
    | (go_at_call 38; refine (hS.out _ _ _ _ hr5.toRd).mono ?_; rintro e w6 ⟨rfl, hb6⟩)
    | ((with_reducible show wpList _ _ _ (⟨none, .store _ _ _, _, _, _, _⟩ :: _) _ _); refine wl_store rfl 48 _ _ rfl w2.heap.size 0 rfl (bvs S) rfl 48 _ ((((hA3.kept (hal w3 _)).to hb4 hs3).to hb5 hs3).kept hb6) h32.out (by rw [L32.out]; exact (by decide : 0 + 32 ≤ (bvs (Z8 32)).length)) (bvs_one _) ?_; intro w15 hR15 hg15 hs15))
  rw [whole_store _ _ (by rw [L32.out]; rfl)] at hR15
  refine end_cell rfl w2.heap.size 48 (bvs S) (.array 32 5) rfl hR15 Tryd.underlying48 rfl h32.out rfl ⟨rfl, ?_⟩
  have k3 : Below w.heap.size w w3 := hb1.trans ((hb2.mono (by omega)).trans (hb3.mono (by omega)))
  have k4 : Below w.heap.size w w4 := (k3.alloc (by omega) _).trans (hb4.mono (by omega))
  have k5 : Below w.heap.size w w5 := k4.trans (hb5.mono (by omega))
  have k6 : Below w.heap.size w w6 := k5.trans (hb6.mono k5.size)
  exact k6.grown hg15 k6.size (by intro k e; injection e with e; omega)
end Go.Proofs.YtfidajbenmgflaaDoor

namespace Go.Proofs.YtfidajbenmgflaaDoor
open Go.RowKit

/-- the slice of n hashes at a reads as L -/
structure RdD (w : World) (a : Option Addr) (n cap : Nat) (L : List (List UInt8)) : Prop where
  len : L.length = n
  le : n ≤ cap
  all : All32 L
  nil : a = none → cap = 0
  mem : 0 < n → ∃ b off, a = some ⟨b, off, none⟩ ∧ b < w.heap.size ∧ ∀ k, k < n → ∀ j, j < 32 → w.cell? ⟨b, off + k * 32 + j, none⟩ = some (.int .u8 (((L.getD k []).getD j 0).toNat : Int))
theorem RdD.to {w w' : World} {a : Option Addr} {n cap : Nat} {L : List (List UInt8)} (h : RdD w a n cap L) (hb : Below w.heap.size w w') : RdD w' a n cap L := by
  refine ⟨h.len, h.le, h.all, h.nil, fun h0 => ?_⟩
  obtain ⟨b, off, e, hlt, hc⟩ := h.mem h0
  exact ⟨b, off, e, Nat.lt_of_lt_of_le hlt hb.size, fun k hk j hj => (hb.cell (p := ⟨b, off + k * 32 + j, none⟩) hlt).trans (hc k hk j hj)⟩
theorem RdD.take {w : World} {a : Option Addr} {n cap : Nat} {L : List (List UInt8)} (h : RdD w a n cap L) (m : Nat) (hm : m ≤ n) : RdD w a m cap (L.take m) := by
  have hl := h.len
  refine ⟨by simp; omega, by have := h.le; omega, h.all.take m, h.nil, fun h0 => ?_⟩
  obtain ⟨b, off, e, hlt, hc⟩ := h.mem (by omega)
  refine ⟨b, off, e, hlt, fun k hk j hj => ?_⟩
  have e1 : (L.take m).getD k [] = L.getD k [] := by simp [List.getD, hk]
  rw [e1]
  exact hc k (by omega) j hj
theorem RdD.drop {w : World} {b off n cap : Nat} {L : List (List UInt8)} (h : RdD w (some ⟨b, off, none⟩) n cap L) (m : Nat) (hm : m < n) : RdD w (some ⟨b, off + m * 32, none⟩) (n - m) (cap - m) (L.drop m) := by
  have hl := h.len
  refine ⟨by simp; omega, by have := h.le; omega, h.all.drop m, (by intro e; cases e), fun h0 => ?_⟩
  obtain ⟨b', off', e, hlt, hc⟩ := h.mem (by omega)
  injection e with e
  injection e with e1 e2
  subst e1 e2
  refine ⟨_, _, rfl, hlt, fun k hk j hj => ?_⟩
  have e1 : (L.drop m).getD k [] = L.getD (m + k) [] := by simp [List.getD]
  rw [e1, show off + m * 32 + k * 32 + j = off + (m + k) * 32 + j by omega]
  exact hc (m + k) (by omega) j hj
/-- one of them, as a row of cells -/
theorem RdD.range {w : World} {b off n cap : Nat} {L : List (List UInt8)} (h : RdD w (some ⟨b, off, none⟩) n cap L) (k : Nat) (hk : k < n) : w.rangeAt b (off + k * 32) (bvs (L.getD k [])) := by
  intro j v hv
  have hl := h.len
  have h32 := h.all k (by omega)
  have hj : j < 32 := by
    have := (List.getElem?_eq_some_iff.1 hv).1
    rw [bvs_len, h32] at this
    exact this
  obtain ⟨b', off', e, hlt, hc⟩ := h.mem (by omega)
  injection e with e
  injection e with e1 e2
  subst e1 e2
  rw [hc k hk j hj]
  rw [bvs_get _ _ (by omega)] at hv
  exact hv
end Go.Proofs.YtfidajbenmgflaaDoor

namespace Go.Proofs.YtfidajbenmgflaaDoor
open Go.RowKit

structure InvRoot (L : List (List UInt8)) (X b off n cap g : Nat) (B : Nat) (u19 u20 : Value) (wb : World) (L_ : Nat → Bool) (v21 v22 v23 v24 v25 v26 v27 v28 v29 : Value) (wx : World) : Prop where
  t0 : L_ 0 = true → v21 = .slice (some ⟨b, off, none⟩) n cap
  t1 : L_ 1 = true → v22 = .int .i64 (X : Int)
  t2 : L_ 2 = true → v23 = .slice (some ⟨b, off, none⟩) X cap
  t3 : L_ 3 = true → v24 = .agg (bvs (rootF (L.take X))).toArray
  t4 : L_ 4 = true → v25 = .slice (some ⟨b, off, none⟩) n cap
  t5 : L_ 5 = true → v26 = .int .i64 (X : Int)
  t6 : L_ 6 = true → v27 = .slice (some ⟨b, off + X * 32, none⟩) (n - X) (cap - X)
  t7 : L_ 7 = true → v28 = .agg (bvs (rootF (L.drop X))).toArray
  t8 : L_ 8 = true → v29 = .agg (bvs (nodeH (rootF (L.take X)) (rootF (L.drop X)))).toArray
  a2 : Arr wx g 48 (if L_ 9 then bvs (nodeH (rootF (L.take X)) (rootF (L.drop X))) else bvs (Z8 32))
  bw : Below B wb wx
  le : B ≤ wb.heap.size


set_option maxRecDepth 100000 in
set_option maxHeartbeats 3200000 in
theorem rRoot_more (L : List (List UInt8)) (n : Nat) (hn2 : 2 ≤ n) (cap b off : Nat) (w : World) (hn : n ≤ 2 ^ 50) (hcap : n ≤ cap) (hr : RdD w (some ⟨b, off, none⟩) n cap L)
    (ih1 : ∀ w', Below w.heap.size w w' → Calls Tryd.prog 28 #[.slice (some ⟨b, off, none⟩) (splK n) cap] w' fun e w'' => e = .returned (.agg (bvs (rootF (L.take (splK n)))).toArray) ∧ Below w'.heap.size w' w'')
    (ih2 : ∀ w', Below w.heap.size w w' → Calls Tryd.prog 28 #[.slice (some ⟨b, off + splK n * 32, none⟩) (n - splK n) (cap - splK n)] w' fun e w'' => e = .returned (.agg (bvs (rootF (L.drop (splK n)))).toArray) ∧ Below w'.heap.size w' w'') :
    Calls Tryd.prog 28 #[.slice (some ⟨b, off, none⟩) n cap] w fun e w' => e = .returned (.agg (bvs (rootF L)).toArray) ∧ Below w.heap.size w w' := by
  have hl := hr.len
  have hroot := rootF_more (L := L) (by omega)
  have hA1 := rootF_len (hr.all.take (splK n))
  have hA2 := rootF_len (hr.all.drop (splK n))
  rw [hl] at hroot
  have HC3' := fun w' => rNode_any (rootF (L.take (splK n))) (rootF (L.drop (splK n))) w' hA1 hA2
  have hl1 := Nat.log2_self_le (n := n - 1) (by omega)
  have hl2 := @Nat.lt_log2_self (n - 1)
  obtain ⟨b1, b2, b3⟩ := splK_bounds (n := n) hn2
  obtain ⟨E, hE⟩ : ∃ E, E = (n - 1).log2 := ⟨_, rfl⟩
  have hsk : splK n = 2 ^ E := by rw [hE]; rfl
  rw [← hE] at hl1 hl2
  obtain ⟨k, hk⟩ : ∃ k, k = splK n := ⟨_, rfl⟩
  rw [← hk] at b1 b2 b3 ih1 ih2 hroot HC3' hsk
  have hnl := shaL_len (1 :: (rootF (L.take k) ++ rootF (L.drop k)))
  have H32 : Hid ((Tryd.prog.info? 48).map (·.size) = some (bvs (nodeH (rootF (L.take k)) (rootF (L.drop k)))).length) := by show _ = _; rw [bvs_len]; unfold nodeH; rw [hnl]; exact sizeD
  have L32 : Hid ((bvs (nodeH (rootF (L.take k)) (rootF (L.drop k)))).length = 32) := by show _ = _; rw [bvs_len]; unfold nodeH; rw [hnl]
  have HROOT := Lib.hid hroot
  have HC1 := Lib.hid ih1
  have HC2 := Lib.hid ih2
  have HSK := Lib.hid hsk
  have HL2 := Lib.hid hl2
  have HC3 := Lib.hid HC3'
  have e3 : ((n : Int) == 0) = false := by simp only [beq_eq_false_iff_ne]; omega
  have e4 : ((n : Int) == 1) = false := by simp only [beq_eq_false_iff_ne]; omega
  have hkE : k = 2 ^ E := hsk
  clear HC3' hr hl hroot hA1 hA2 hl1 hl2 hE hsk hk ih1 ih2 hnl hkE
  go_enter Tryd.func28, Tryd.ntmps28
  go_wp2_with ((with_reducible show wpList _ _ _ (⟨some 2, .alloc _, _, _, _, _⟩ :: _) _ _); refine wl_alloc rfl 48 rfl (bvs (Z8 32)) 32 infoD ?_; intro w1 hA1 hb1 hs1)
  obtain ⟨g, hg⟩ : ∃ g, g = w.heap.size := ⟨_, rfl⟩
  rw [← hg] at hA1 ⊢
  have HG := Lib.hid hg
  clear hg hs1
  go_loopw [3] (fun kk wr => ∃ j : Nat, j ≤ E ∧ kk = .int .i64 ((2 ^ j : Nat) : Int) ∧ Arr wr g 48 (bvs (Z8 32)) ∧ Below w.heap.size w wr) (fun kk _ => 2 ^ 51 - (intOf kk).toNat)
  case atStart => exact ⟨0, Nat.zero_le _, rfl, hA1, hb1⟩
  case round =>
    clear hA1 hb1
    obtain ⟨j, hj, rfl, hA, hB⟩ := hrel
    have hp0 : 0 < 2 ^ j := Nat.two_pow_pos j
    have hp2 : 2 ^ (j + 1) = 2 * 2 ^ j := by rw [Nat.pow_succ, Nat.mul_comm]
    have hmono : j + 1 ≤ E → 2 ^ (j + 1) ≤ k := fun h => by rw [HSK.out]; exact Nat.pow_le_pow_right (by omega) h
    have hmono2 : E ≤ j → 2 ^ (E + 1) ≤ 2 ^ (j + 1) := fun h => Nat.pow_le_pow_right (by omega) (by omega)
    have hmono3 : 2 ^ j ≤ k := by rw [HSK.out]; exact Nat.pow_le_pow_right (by omega) hj
    obtain ⟨X, hX⟩ : ∃ X, X = 2 ^ j := ⟨_, rfl⟩
    rw [hp2] at hmono hmono2
    rw [← hX] at hp0 hp2 hmono hmono2 hmono3 ⊢
    by_cases hlt : 2 * X < n
    · have hjE : j + 1 ≤ E := by
        have := HL2.out
        rcases Nat.lt_or_ge j E with h | h
        · omega
        · have := hmono2 h; omega
      have H2 := Lib.hid hp2
      have hcc : 2 * (X : Int) < (n : Int) := by omega
      clear hp2 hX hmono hmono2
      go_wp2_with fail
      go_roundw
      case rel => exact ⟨j + 1, hjE, by rw [H2.out]; go_num, hA, hB⟩
      case measure => simp [intOf]; omega
    · have hjE : j = E := by
        rcases Nat.lt_or_ge j E with h | h
        · have := hmono (by omega); omega
        · omega
      have hXk : X = k := by rw [hX, hjE]; exact HSK.out.symm
      obtain rfl := hXk
      have hcc : ¬ (2 * (X : Int) < (n : Int)) := by omega
      clear hp2 hX hmono hmono2 hmono3 hlt hjE
      have c1 : (0 : Int) ≤ (X : Int) := by omega
      have c2 : (X : Int) ≤ (n : Int) := by omega
      have c3 : (X : Int) ≤ (cap : Int) := by omega
      have c4 : (n : Int) ≤ (cap : Int) := by omega
      have HCX : Hid (¬ (cap = X)) := by show ¬ _; omega
      go_upto_region 8 with fail
      refine wp_region_steps [[], [], [0, 1], [2], [], [], [4, 5], [6, 3], [3, 7], [8, 0, 1, 2, 3, 4, 5, 6, 7]] (by kernel_rfl) (by kernel_rfl) (fun L_ a wx => ∃ v21 v22 v23 v24 v25 v26 v27 v28 v29, a = ⟨#[.slice (some ⟨b, off, none⟩) n cap, undef, .pointer (some ⟨g, 0, none⟩), .int .i64 ↑X, .slice (some ⟨b, off, none⟩) n cap, .int .i64 ↑n, .bool false, undef, .slice (some ⟨b, off, none⟩) n cap, .int .i64 ↑n, .bool false, undef, undef, undef, .int .i64 ↑X, .int .i64 (2 * ↑X), .slice (some ⟨b, off, none⟩) n cap, .int .i64 ↑n, .bool false, u19, u20, v21, v22, v23, v24, v25, v26, v27, v28, v29], []⟩ ∧ InvRoot L X b off n cap g w.heap.size u19 u20 wr L_ v21 v22 v23 v24 v25 v26 v27 v28 v29 wx) ?_ ⟨?_, ?_, ?_, ?_, ?_, ?_, ?_, ?_, ?_, ?_, trivial⟩ ?_
      · refine ⟨_, _, _, _, _, _, _, _, _, rfl, ⟨?_, ?_, ?_, ?_, ?_, ?_, ?_, ?_, ?_, hA.drew, (Below.refl _ _).drew, hB.size⟩⟩ <;> (intro h; exact absurd h (by decide))
      · rintro L_ a wx ⟨v21, v22, v23, v24, v25, v26, v27, v28, v29, rfl, hI⟩ hL hdep hcl K hK
        go_simp
        exact hK _ _ ⟨_, v22, v23, v24, v25, v26, v27, v28, v29, rfl, ⟨fun _ => rfl, hI.t1, hI.t2, hI.t3, hI.t4, hI.t5, hI.t6, hI.t7, hI.t8, hI.a2, hI.bw, hI.le⟩⟩
      · rintro L_ a wx ⟨v21, v22, v23, v24, v25, v26, v27, v28, v29, rfl, hI⟩ hL hdep hcl K hK
        go_simp
        exact hK _ _ ⟨v21, _, v23, v24, v25, v26, v27, v28, v29, rfl, ⟨hI.t0, fun _ => rfl, hI.t2, hI.t3, hI.t4, hI.t5, hI.t6, hI.t7, hI.t8, hI.a2, hI.bw, hI.le⟩⟩
      · rintro L_ a wx ⟨v21, v22, v23, v24, v25, v26, v27, v28, v29, rfl, hI⟩ hL hdep hcl K hK
        obtain rfl := hI.t0 (hdep 0 (by decide))
        obtain rfl := hI.t1 (hdep 1 (by decide))
        go_simp
        exact hK _ _ ⟨_, _, _, v24, v25, v26, v27, v28, v29, rfl, ⟨hI.t0, hI.t1, fun _ => rfl, hI.t3, hI.t4, hI.t5, hI.t6, hI.t7, hI.t8, hI.a2, hI.bw, hI.le⟩⟩
      · rintro L_ a wx ⟨v21, v22, v23, v24, v25, v26, v27, v28, v29, rfl, hI⟩ hL hdep hcl K hK
        obtain rfl := hI.t2 (hdep 2 (by decide))
        have HC := HC1.out wx (hB.trans hI.bw)
        go_simp
        refine HC.mono ?_
        rintro e w' ⟨rfl, hb⟩
        exact hK _ _ ⟨v21, v22, _, _, v25, v26, v27, v28, v29, rfl, ⟨hI.t0, hI.t1, hI.t2, fun _ => rfl, hI.t4, hI.t5, hI.t6, hI.t7, hI.t8, (hI.a2).kept hb, (hI.bw).trans (hb.mono (Nat.le_trans hI.le (hI.bw).size)), hI.le⟩⟩
      · rintro L_ a wx ⟨v21, v22, v23, v24, v25, v26, v27, v28, v29, rfl, hI⟩ hL hdep hcl K hK
        go_simp
        exact hK _ _ ⟨v21, v22, v23, v24, _, v26, v27, v28, v29, rfl, ⟨hI.t0, hI.t1, hI.t2, hI.t3, fun _ => rfl, hI.t5, hI.t6, hI.t7, hI.t8, hI.a2, hI.bw, hI.le⟩⟩
      · rintro L_ a wx ⟨v21, v22, v23, v24, v25, v26, v27, v28, v29, rfl, hI⟩ hL hdep hcl K hK
        go_simp
        exact hK _ _ ⟨v21, v22, v23, v24, v25, _, v27, v28, v29, rfl, ⟨hI.t0, hI.t1, hI.t2, hI.t3, hI.t4, fun _ => rfl, hI.t6, hI.t7, hI.t8, hI.a2, hI.bw, hI.le⟩⟩
      · rintro L_ a wx ⟨v21, v22, v23, v24, v25, v26, v27, v28, v29, rfl, hI⟩ hL hdep hcl K hK
        obtain rfl := hI.t4 (hdep 4 (by decide))
        obtain rfl := hI.t5 (hdep 5 (by decide))
        have hcx : ¬ (cap = X) := HCX.out
        go_simp
        exact hK _ _ ⟨v21, v22, v23, v24, _, _, _, v28, v29, rfl, ⟨hI.t0, hI.t1, hI.t2, hI.t3, hI.t4, hI.t5, fun _ => rfl, hI.t7, hI.t8, hI.a2, hI.bw, hI.le⟩⟩
      · rintro L_ a wx ⟨v21, v22, v23, v24, v25, v26, v27, v28, v29, rfl, hI⟩ hL hdep hcl K hK
        obtain rfl := hI.t6 (hdep 6 (by decide))
        obtain rfl := hI.t3 (hdep 3 (by decide))
        have HC := HC2.out wx (hB.trans hI.bw)
        go_simp
        refine HC.mono ?_
        rintro e w' ⟨rfl, hb⟩
        exact hK _ _ ⟨v21, v22, v23, _, v25, v26, _, _, v29, rfl, ⟨hI.t0, hI.t1, hI.t2, hI.t3, hI.t4, hI.t5, hI.t6, fun _ => rfl, hI.t8, (hI.a2).kept hb, (hI.bw).trans (hb.mono (Nat.le_trans hI.le (hI.bw).size)), hI.le⟩⟩
      · rintro L_ a wx ⟨v21, v22, v23, v24, v25, v26, v27, v28, v29, rfl, hI⟩ hL hdep hcl K hK
        obtain rfl := hI.t3 (hdep 3 (by decide))
        obtain rfl := hI.t7 (hdep 7 (by decide))
        have HC := HC3.out wx
        go_simp
        refine HC.mono ?_
        rintro e w' ⟨rfl, hb⟩
        exact hK _ _ ⟨v21, v22, v23, _, v25, v26, v27, _, _, rfl, ⟨hI.t0, hI.t1, hI.t2, hI.t3, hI.t4, hI.t5, hI.t6, hI.t7, fun _ => rfl, (hI.a2).kept hb, (hI.bw).trans (hb.mono (Nat.le_trans hI.le (hI.bw).size)), hI.le⟩⟩
      · rintro L_ a wx ⟨v21, v22, v23, v24, v25, v26, v27, v28, v29, rfl, hI⟩ hL hdep hcl K hK
        obtain rfl := hI.t8 (hdep 8 (by decide))
        obtain rfl := hI.t0 (hdep 0 (by decide))
        obtain rfl := hI.t1 (hdep 1 (by decide))
        obtain rfl := hI.t2 (hdep 2 (by decide))
        obtain rfl := hI.t3 (hdep 3 (by decide))
        obtain rfl := hI.t4 (hdep 4 (by decide))
        obtain rfl := hI.t5 (hdep 5 (by decide))
        obtain rfl := hI.t6 (hdep 6 (by decide))
        obtain rfl := hI.t7 (hdep 7 (by decide))
        have hA0 : Arr wx g 48 (bvs (Z8 32)) := by
          have := hI.a2
          rw [hL] at this
          exact this
        refine ow_store 48 _ _ rfl g 0 rfl (bvs (nodeH (rootF (L.take X)) (rootF (L.drop X)))) rfl 48 _ hA0 H32.out (by rw [L32.out]; exact (by decide : 0 + 32 ≤ (bvs (Z8 32)).length)) (bvs_one _) ?_
        intro w' hA' hg hs
        rw [whole_store _ _ (by rw [L32.out]; rfl)] at hA'
        exact hK _ _ ⟨_, _, _, _, _, _, _, _, _, rfl, ⟨hI.t0, hI.t1, hI.t2, hI.t3, hI.t4, hI.t5, hI.t6, hI.t7, hI.t8, hA', hI.bw.grown hg (Nat.le_trans hI.le hI.bw.size) (by intro k e; injection e with e; have := HG.out; omega), hI.le⟩⟩
      · rintro a wx ⟨v21, v22, v23, v24, v25, v26, v27, v28, v29, rfl, hI⟩
        have hS3 := hI.a2
        have hbw := hI.bw
        clear hI
        go_wp2
        refine end_cell rfl g 48 (bvs (nodeH (rootF (L.take X)) (rootF (L.drop X)))) (.array 32 5) rfl hS3 Tryd.underlying48 rfl H32.out rfl ⟨HROOT.out ▸ rfl, ?_⟩
        exact hB.trans hbw
end Go.Proofs.YtfidajbenmgflaaDoor

namespace Go.Proofs.YtfidajbenmgflaaDoor
open Go.RowKit

theorem rdd_nil (w : World) : RdD w none 0 0 [] := ⟨rfl, Nat.le_refl _, (fun k hk => by simp at hk), fun _ => rfl, fun h => by omega⟩

set_option maxRecDepth 100000 in
set_option maxHeartbeats 3200000 in
theorem rRoot_any : ∀ (N : Nat) (L : List (List UInt8)), L.length ≤ N → ∀ (a : Option Addr) (n cap : Nat) (w : World), n ≤ 2 ^ 50 → RdD w a n cap L →
    Calls Tryd.prog 28 #[.slice a n cap] w fun e w' => e = .returned (.agg (bvs (rootF L)).toArray) ∧ Below w.heap.size w w' := by
  intro N
  induction N using Nat.strongRecOn with
  | _ N ih =>
    intro L hN a n cap w hn hr
    have hl := hr.len
    by_cases h0 : n = 0
    · subst h0
      have hL : L = [] := List.eq_nil_of_length_eq_zero hl
      subst hL
      have hlen := shaL_len []
      have h32 : Hid ((Tryd.prog.info? 48).map (·.size) = some (bvs (rootF [])).length) := by show _ = _; rw [bvs_len, rootF_nil, hlen]; exact sizeD
      have L32 : Hid ((bvs (rootF [])).length = 32) := by show _ = _; rw [bvs_len, rootF_nil, hlen]
      have hS : Hid (∀ w, Calls Tryd.prog 38 #[.slice none 0 0] w (fun e w' => e = .returned (.agg (bvs (rootF [])).toArray) ∧ Below w.heap.size w w')) := fun w => rSum_any [] none 0 0 w (by simp) (Rd.none w)
      clear hr hl hlen ih hN
      generalize rootF [] = S at *
      go_enter Tryd.func28, Tryd.ntmps28
      go_wp2_with (first
        | ((with_reducible show wpList _ _ _ (⟨some 2, .alloc _, _, _, _, _⟩ :: _) _ _); refine wl_alloc rfl 48 rfl (bvs (Z8 32)) 32 infoD ?_; intro w1 hA1 hb1 hs1)
        | (go_at_call 38; refine (hS.out _).mono ?_; rintro e w5 ⟨rfl, hb5⟩)
        | ((with_reducible show wpList _ _ _ (⟨none, .store _ _ _, _, _, _, _⟩ :: _) _ _); refine wl_store rfl 48 _ _ rfl w.heap.size 0 rfl (bvs S) rfl 48 _ (hA1.kept hb5) h32.out (by rw [L32.out]; exact (by decide : 0 + 32 ≤ (bvs (Z8 32)).length)) (bvs_one _) ?_; intro w15 hR15 hg15 hs15))
      rw [whole_store _ _ (by rw [L32.out]; rfl)] at hR15
      refine end_cell rfl w.heap.size 48 (bvs S) (.array 32 5) rfl hR15 Tryd.underlying48 rfl h32.out rfl ⟨rfl, ?_⟩
      have hb' := hb1.trans (hb5.mono (by omega))
      exact hb'.grown hg15 hb'.size (by intro k e; injection e with e; omega)
    · by_cases h1 : n = 1
      · subst h1
        have hroot : rootF L = L.getD 0 [] := by
          match L, hl with
          | [x], _ => rfl
        have hlen := hr.all 0 (by omega)
        obtain ⟨b, off, rfl, hbl, -⟩ := hr.mem (by omega)
        have hrange := hr.range 0 (by omega)
        rw [Nat.zero_mul, Nat.add_zero] at hrange
        rw [hroot]
        have h32 : Hid ((Tryd.prog.info? 48).map (·.size) = some (bvs (L.getD 0 [])).length) := by show _ = _; rw [bvs_len, hlen]; exact sizeD
        have L32 : Hid ((bvs (L.getD 0 [])).length = 32) := by show _ = _; rw [bvs_len, hlen]
        clear hroot hlen ih hr hl hN h0
        generalize L.getD 0 [] = S at *
        go_enter Tryd.func28, Tryd.ntmps28
        go_wp2_with (first
          | ((with_reducible show wpList _ _ _ (⟨some 2, .alloc _, _, _, _, _⟩ :: _) _ _); refine wl_alloc rfl 48 rfl (bvs (Z8 32)) 32 infoD ?_; intro w1 hA1 hb1 hs1; have hrg : w1.rangeAt b off (bvs S) := fun j v hv => (hb1.cell (p := ⟨b, off + j, none⟩) hbl).trans (hrange j v hv))
          | ((with_reducible show wpList _ _ _ (⟨some 13, .load _ _, _, _, _, _⟩ :: _) _ _); refine wpList_load_mid rfl 48 _ rfl b off rfl (bvs S) (.array 32 5) hrg Tryd.underlying48 rfl h32.out ?_)
          | ((with_reducible show wpList _ _ _ (⟨none, .store _ _ _, _, _, _, _⟩ :: _) _ _); refine wl_store rfl 48 _ _ rfl w.heap.size 0 rfl (bvs S) rfl 48 _ hA1 h32.out (by rw [L32.out]; exact (by decide : 0 + 32 ≤ (bvs (Z8 32)).length)) (bvs_one _) ?_; intro w15 hR15 hg15 hs15))
        rw [whole_store _ _ (by rw [L32.out]; rfl)] at hR15
        refine end_cell rfl w.heap.size 48 (bvs S) (.array 32 5) rfl hR15 Tryd.underlying48 rfl h32.out rfl ⟨rfl, ?_⟩
        exact hb1.grown hg15 hb1.size (by intro k e; injection e with e; omega)
      · have hn2 : 2 ≤ n := by omega
        obtain ⟨b1, b2, b3⟩ := splK_bounds (n := n) hn2
        obtain ⟨b, off, rfl, hbl, -⟩ := hr.mem (by omega)
        refine rRoot_more L n hn2 cap b off w hn hr.le hr (fun w' hb => ?_) (fun w' hb => ?_)
        · exact ih (splK n) (by omega) (L.take (splK n)) (by simp; omega) _ _ _ w' (by omega) ((hr.to hb).take _ (by omega))
        · exact ih (n - splK n) (by omega) (L.drop (splK n)) (by simp; omega) _ _ _ w' (by omega) ((hr.to hb).drop _ b2)
end Go.Proofs.YtfidajbenmgflaaDoor
