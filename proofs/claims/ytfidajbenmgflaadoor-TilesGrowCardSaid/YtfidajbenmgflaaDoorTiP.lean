/-
  Package tiles, plainly: names and tiles, there and back. Conditions: those in each statement.
-/
import Derived.Test.YtfidajbenmgflaaDoorTiF
import Derived.Test.YtfidajbenmgflaaDoorTiG
import Derived.Test.YtfidajbenmgflaaDoorTiI
namespace Go.Proofs.YtfidajbenmgflaaDoor
open Go.RowKit

/-- so many digits of a number -/
def dg : Nat → Nat → List UInt8
  | 0, _ => []
  | k + 1, n => dg k (n / 10) ++ [UInt8.ofNat (48 + n % 10)]
theorem dg_len : ∀ k n, (dg k n).length = k
  | 0, _ => rfl
  | k + 1, n => by rw [dg, List.length_append, dg_len k]; rfl
theorem dg_zero : ∀ k, dg k 0 = List.replicate k 48
  | 0 => rfl
  | k + 1 => by
    rw [dg, Nat.zero_div, dg_zero k, List.replicate_succ']
    rfl
theorem padD_dg : ∀ k n, 1 ≤ k → n < 10 ^ k → padD k n = dg k n
  | 0, _, h, _ => absurd h (by omega)
  | k + 1, n, _, hn => by
    unfold padD
    by_cases h : n < 10
    · rw [Lib.nDigits_small h, Lib.decDigits, dif_pos h, dg, show n / 10 = 0 by omega, dg_zero, show n % 10 = n by omega]
      rfl
    · rw [Lib.nDigits_big h, Lib.decDigits, dif_neg h, dg]
      cases k with
      | zero => simp at hn; omega
      | succ k =>
        have ih := padD_dg (k + 1) (n / 10) (by omega) (by rw [Nat.pow_succ] at hn; omega)
        unfold padD at ih
        rw [← ih, Nat.add_sub_add_right, List.append_assoc]
theorem dig_nat (d : Nat) (h : d < 10) : (UInt8.ofNat (48 + d)).toNat = 48 + d := by
  rw [UInt8.toNat_ofNat']; omega
theorem dg_digits : ∀ k n, (dg k n).all tDig = true
  | 0, _ => rfl
  | k + 1, n => by
    rw [dg, List.all_append, dg_digits k, Bool.true_and]
    have := dig_nat (n % 10) (Nat.mod_lt _ (by omega))
    simp only [List.all_cons, List.all_nil, Bool.and_true, tDig, this, Bool.and_eq_true, decide_eq_true_eq]
    omega
theorem dg_value : ∀ k n, n < 10 ^ k → tDec 0 (dg k n) = n
  | 0, n, h => by simp at h; subst h; rfl
  | k + 1, n, h => by
    have ih := dg_value k (n / 10) (by rw [Nat.pow_succ] at h; omega)
    unfold tDec at ih ⊢
    rw [dg, List.foldl_append, ih]
    simp only [List.foldl_cons, List.foldl_nil]
    rw [dig_nat _ (Nat.mod_lt _ (by omega))]
    omega
theorem num_dg {k n : Nat} (h : n < 10 ^ k) : numT (dg k n) = some n := by
  unfold numT
  rw [dg_digits, if_pos rfl, dg_value k n h]
theorem snoc_ind {P : List UInt8 → Prop} (h0 : P []) (h1 : ∀ l c, P l → P (l ++ [c])) : ∀ l, P l := fun l => by
  have h : ∀ r : List UInt8, P r.reverse := by
    intro r
    induction r with
    | nil => exact h0
    | cons c r ih => rw [List.reverse_cons]; exact h1 _ _ ih
  have := h l.reverse
  rwa [List.reverse_reverse] at this
theorem dec_lt : ∀ (l : List UInt8), l.all tDig = true → tDec 0 l < 10 ^ l.length := by
  refine snoc_ind (fun _ => by simp [tDec]) fun l c ih h => ?_
  · simp only [List.all_append, List.all_cons, List.all_nil, Bool.and_true, Bool.and_eq_true, tDig, decide_eq_true_eq] at h
    have := ih h.1
    unfold tDec at this ⊢
    rw [List.foldl_append, List.length_append, List.length_singleton, Nat.pow_succ]
    simp only [List.foldl_cons, List.foldl_nil]
    omega
theorem dg_back : ∀ (l : List UInt8), l.all tDig = true → dg l.length (tDec 0 l) = l := by
  refine snoc_ind (fun _ => rfl) fun l c ih h => ?_
  · simp only [List.all_append, List.all_cons, List.all_nil, Bool.and_true, Bool.and_eq_true, tDig, decide_eq_true_eq] at h
    have h1 := ih h.1
    have e : tDec 0 (l ++ [c]) = tDec 0 l * 10 + (c.toNat - 48) := by
      unfold tDec
      rw [List.foldl_append]
      rfl
    rw [List.length_append, List.length_singleton, dg, e, show (tDec 0 l * 10 + (c.toNat - 48)) / 10 = tDec 0 l by omega, show (tDec 0 l * 10 + (c.toNat - 48)) % 10 = c.toNat - 48 by omega, h1, show 48 + (c.toNat - 48) = c.toNat by omega]
    simp
theorem num_back {l : List UInt8} {n : Nat} (h : numT l = some n) : dg l.length n = l ∧ n < 10 ^ l.length := by
  unfold numT at h
  split at h
  · next hd =>
    injection h with h
    subst h
    exact ⟨dg_back l hd, dec_lt l hd⟩
  · cases h
theorem mst_lt {k : Nat} (hk : k < 3) : mst k < 10 ^ dgt k := by
  have hc : k = 0 ∨ k = 1 ∨ k = 2 := by omega
  rcases hc with rfl | rfl | rfl <;> decide
theorem ahd_len (k : Nat) : (ahd k).length = 1 := by unfold ahd; split <;> rfl
theorem dgt_pos (k : Nat) : 1 ≤ dgt k := by unfold dgt; split <;> omega
theorem piece_dg {f : Nat → Nat} {k : Nat} (hk : k < 3) (h : f k ≤ mst k) : piece f k = ahd k ++ dg (dgt k) (f k) := by
  unfold piece
  rw [padD_dg _ _ (dgt_pos k) (by have := mst_lt hk; omega)]
theorem ok_at {f : Nat → Nat} {m : Nat} (h : okTo f m = true) {k : Nat} (hk : k < m) : lst k ≤ f k ∧ f k ≤ mst k := by
  have := okTo_mono (show k + 1 ≤ m by omega) h
  simp only [okTo, okF, Bool.and_eq_true, decide_eq_true_eq] at this
  exact this.2
theorem cut_piece {f : Nat → Nat} {k : Nat} (hk : k < 3) (h : lst k ≤ f k ∧ f k ≤ mst k) (t : List UInt8) : cutP k (piece f k ++ t) = some (f k, t) := by
  rw [piece_dg hk h.2, List.append_assoc]
  have ha := ahd_len k
  have hd : (ahd k ++ (dg (dgt k) (f k) ++ t)).drop 1 = dg (dgt k) (f k) ++ t := by rw [← ha, List.drop_left]
  have hl := dg_len (dgt k) (f k)
  have ht : (dg (dgt k) (f k) ++ t).take (dgt k) = dg (dgt k) (f k) := List.take_left' hl
  have hdr : (dg (dgt k) (f k) ++ t).drop (dgt k) = t := List.drop_left' hl
  have hp : Lib.hasPrefix (ahd k ++ (dg (dgt k) (f k) ++ t)) (ahd k) = true := List.isPrefixOf_iff_prefix.2 ⟨_, rfl⟩
  have := cutP_some (k := k) (r := ahd k ++ (dg (dgt k) (f k) ++ t)) (n := f k) hp (by rw [hd, List.length_append, hl]; omega) (by rw [hd, ht]; exact num_dg (by have := mst_lt hk; omega)) h.1 h.2
  rw [hd, hdr] at this
  exact this
/-- a name that may be is cut into what was named -/
theorem name_back {f : Nat → Nat} (h : okTo f 3 = true) : okN (nameTo f 3) = true ∧ ∀ k, k < 3 → numAt (nameTo f 3) k = f k := by
  obtain ⟨s, hs⟩ : ∃ s, s = nameTo f 3 := ⟨_, rfl⟩
  have e : s = piece f 0 ++ (piece f 1 ++ (piece f 2 ++ [])) := by rw [hs]; simp [nameTo]
  have c0 := cut_piece (f := f) (k := 0) (by omega) (ok_at h (by omega)) (piece f 1 ++ (piece f 2 ++ []))
  have c1 := cut_piece (f := f) (k := 1) (by omega) (ok_at h (by omega)) (piece f 2 ++ [])
  have c2 := cut_piece (f := f) (k := 2) (by omega) (ok_at h (by omega)) []
  rw [← e] at c0
  have r0 : restTo s 0 = some s := rfl
  have r1 : restTo s 1 = some (piece f 1 ++ (piece f 2 ++ [])) := by rw [restTo, r0]; simp [c0]
  have r2 : restTo s 2 = some (piece f 2 ++ []) := by rw [restTo, r1, Option.bind_some, c1]; rfl
  have r3 : restTo s 3 = some [] := by rw [restTo, r2, Option.bind_some, c2]; rfl
  rw [← hs]
  refine ⟨by unfold okN; rw [r3]; rfl, fun k hk => ?_⟩
  have hc : k = 0 ∨ k = 1 ∨ k = 2 := by omega
  unfold numAt
  rcases hc with rfl | rfl | rfl
  · rw [r0, Option.bind_some, c0]; rfl
  · rw [r1, Option.bind_some, c1]; rfl
  · rw [r2, Option.bind_some, c2]; rfl
/-- what is cut is the name of what it is cut into -/
theorem cut_back {s : List UInt8} (h : okN s = true) : okTo (numAt s) 3 = true ∧ nameTo (numAt s) 3 = s := by
  have hb : ∀ k, k < 3 → lst k ≤ numAt s k ∧ numAt s k ≤ mst k := fun k hk => num_le h hk
  have hp : ∀ k, k < 3 → ∃ r t, restTo s k = some r ∧ restTo s (k + 1) = some t ∧ r = piece (numAt s) k ++ t := fun k hk => by
    obtain ⟨r, t, h1, h2, h3⟩ := num_ok h hk
    obtain ⟨-, h5, h6, h7, h8⟩ := cutP_le h2
    refine ⟨r, t, h1, h3, ?_⟩
    have hl : ((r.drop 1).take (dgt k)).length = dgt k := by rw [List.length_take, List.length_drop]; omega
    have h9 := (num_back h8).1
    rw [hl] at h9
    rw [piece_dg hk h5, h9]
    exact h7
  have h3 : restTo s 3 = some [] := by simpa [okN] using h
  obtain ⟨r0, t0, a0, b0, e0⟩ := hp 0 (by omega)
  obtain ⟨r1, t1, a1, b1, e1⟩ := hp 1 (by omega)
  obtain ⟨r2, t2, a2, b2, e2⟩ := hp 2 (by omega)
  have x0 : r0 = s := by have : restTo s 0 = some s := rfl; rw [this] at a0; injection a0 with a0; exact a0.symm
  rw [b0] at a1
  injection a1 with a1
  rw [b1] at a2
  injection a2 with a2
  rw [h3] at b2
  injection b2 with b2
  refine ⟨?_, ?_⟩
  · simp only [okTo, okF, Bool.and_eq_true, decide_eq_true_eq]
    exact ⟨⟨⟨trivial, hb 0 (by omega)⟩, hb 1 (by omega)⟩, hb 2 (by omega)⟩
  · have e : s = piece (numAt s) 0 ++ (piece (numAt s) 1 ++ (piece (numAt s) 2 ++ [])) := x0.symm.trans (e0.trans (by rw [a1, e1, a2, e2, ← b2]))
    have e' := e.symm
    simpa [nameTo] using e'
/-- the hashes of the bytes of hashes -/
theorem take_put {L : List (List UInt8)} (ha : All32 L) (h1 : 1 ≤ L.length) (h2 : L.length ≤ 16) : tkL L.flatten = L ∧ tkE L.flatten = 0 := by
  have hl := flat_len ha
  have hc : L.flatten.length % 32 = 0 ∧ 1 ≤ L.flatten.length / 32 ∧ L.flatten.length / 32 ≤ 16 := by rw [hl]; omega
  have hd : L.flatten.length / 32 = L.length := by rw [hl]; omega
  refine ⟨?_, by unfold tkE; rw [if_pos hc]⟩
  unfold tkL
  rw [if_pos hc, hd]
  have hk : ∀ (L : List (List UInt8)), All32 L → ∀ k, k < L.length → prt L.flatten k = L.getD k [] := by
    intro L
    induction L with
    | nil => intro _ k hk; simp at hk
    | cons x L ih =>
      intro ha k hk
      have hx : x.length = 32 := ha.mem List.mem_cons_self
      have ha' : All32 L := All32.of fun y hy => ha.mem (List.mem_cons_of_mem _ hy)
      unfold prt
      rw [List.flatten_cons]
      cases k with
      | zero => rw [Nat.mul_zero, List.drop_zero, List.take_left' hx]; rfl
      | succ k =>
        rw [show 32 * (k + 1) = x.length + 32 * k by omega, ← List.drop_drop, List.drop_left]
        have := ih ha' k (by simpa using hk)
        unfold prt at this
        rw [this]
        simp [List.getD]
  apply List.ext_getElem
  · simp
  · intro i h3 h4
    simp only [List.getElem_map, List.getElem_range]
    rw [hk L ha i h4]
    simp [List.getD, h4]
/-- the bytes of the hashes of bytes -/
theorem put_take {b : List UInt8} (h : tkE b = 0) : putT (tkL b) = b ∧ putE (tkL b) = 0 := by
  have hc : b.length % 32 = 0 ∧ 1 ≤ b.length / 32 ∧ b.length / 32 ≤ 16 := by
    unfold tkE at h
    split at h
    · assumption
    · omega
  have hL : tkL b = (List.range (b.length / 32)).map (prt b) := if_pos hc
  have hlen : (tkL b).length = b.length / 32 := by rw [hL]; simp
  have hp : 1 ≤ (tkL b).length ∧ (tkL b).length ≤ 16 := by rw [hlen]; exact hc.2
  refine ⟨?_, by unfold putE; rw [if_pos hp]⟩
  unfold putT
  rw [if_pos hp, hL]
  have hf : ∀ n, 32 * n ≤ b.length → ((List.range n).map (prt b)).flatten = b.take (32 * n) := by
    intro n
    induction n with
    | zero => intro _; rfl
    | succ n ih =>
      intro hn
      rw [List.range_succ, List.map_append, List.flatten_append, ih (by omega)]
      simp only [List.map_singleton, List.flatten_singleton, prt]
      rw [show 32 * (n + 1) = 32 * n + 32 by omega, List.take_add]
  rw [hf _ (by omega), List.take_of_length_le (by omega)]
theorem name_long {f : Nat → Nat} (h : okTo f 3 = true) : (nameTo f 3).length = 12 := by
  have h0 := (ok_at h (k := 0) (by omega)).2
  have h1 := (ok_at h (k := 1) (by omega)).2
  have h2 := (ok_at h (k := 2) (by omega)).2
  simp only [nameTo, piece_dg (show 0 < 3 by omega) h0, piece_dg (show 1 < 3 by omega) h1, piece_dg (show 2 < 3 by omega) h2, List.length_append, ahd_len, dg_len]
  rfl
end Go.Proofs.YtfidajbenmgflaaDoor
