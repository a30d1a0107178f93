/-
  A tree that is kept in tiles: its levels, leaf by leaf, plainly. Conditions: those in each statement.
-/
import Derived.Test.YtfidajbenmgflaaDoorTiC
import Derived.Test.YtfidajbenmgflaaDoorTiG
namespace Go.Proofs.YtfidajbenmgflaaDoor

/-- so many hashes of a level, from one on -/
def tileR (M : List (List UInt8)) (e a s : Nat) : List (List UInt8) := (List.range (2 ^ a)).map fun t => rootF (chunk M e (s * 2 ^ a + t))
theorem tileR_len (M : List (List UInt8)) (e a s : Nat) : (tileR M e a s).length = 2 ^ a := by simp [tileR]
theorem tileR_two (M : List (List UInt8)) (e a s : Nat) : tileR M e (a + 1) s = tileR M e a (2 * s) ++ tileR M e a (2 * s + 1) := by
  unfold tileR
  rw [Nat.pow_succ, Nat.mul_two, List.range_add, List.map_append, List.map_map]
  congr 1
  · apply List.map_congr_left
    intro t _
    rw [show s * (2 ^ a + 2 ^ a) = 2 * s * 2 ^ a by rw [← Nat.mul_two, Nat.mul_comm (2 ^ a) 2, ← Nat.mul_assoc, Nat.mul_comm s 2]]
  · apply List.map_congr_left
    intro t _
    show rootF (chunk M e (s * (2 ^ a + 2 ^ a) + (2 ^ a + t))) = _
    rw [show s * (2 ^ a + 2 ^ a) + (2 ^ a + t) = (2 * s + 1) * 2 ^ a + t by rw [← Nat.mul_two, Nat.mul_comm (2 ^ a) 2, ← Nat.mul_assoc, Nat.mul_comm s 2, Nat.add_mul]; omega]
/-- the head of a whole tile is the head of the leaves beneath -/
theorem root_tile (M : List (List UInt8)) (e : Nat) : ∀ (a s : Nat), (s + 1) * 2 ^ (e + a) ≤ M.length → rootF (tileR M e a s) = rootF (chunk M (e + a) s)
  | 0, s, _ => by simp [tileR, rootF_one]
  | a + 1, s, h => by
    have hp : 2 ^ (e + (a + 1)) = 2 * 2 ^ (e + a) := by rw [show e + (a + 1) = (e + a) + 1 by omega, Nat.pow_succ, Nat.mul_comm]
    have h1 : (2 * s + 1 + 1) * 2 ^ (e + a) ≤ M.length := by
      rw [hp] at h
      have : (s + 1) * (2 * 2 ^ (e + a)) = (2 * s + 1 + 1) * 2 ^ (e + a) := by rw [← Nat.mul_assoc]; congr 1; omega
      omega
    have h0 : (2 * s + 1) * 2 ^ (e + a) ≤ M.length := Nat.le_trans (Nat.mul_le_mul_right _ (by omega)) h1
    rw [tileR_two, rootF_join a _ _ (tileR_len ..) (by rw [tileR_len]; exact Nat.two_pow_pos a) (by rw [tileR_len]; exact Nat.le_refl _), root_tile M e a (2 * s) h0, root_tile M e a (2 * s + 1) h1]
    rw [show e + (a + 1) = (e + a) + 1 by omega, chunk_two, rootF_join (e + a) _ _ (chunk_len h0) (by rw [chunk_len h1]; exact Nat.two_pow_pos _) (by rw [chunk_len h1]; exact Nat.le_refl _)]
/-- the last tile of a level -/
theorem last_tile (M : List (List UInt8)) (e a : Nat) (h : (M.length / 2 ^ e) % 2 ^ a = 0) (h0 : 0 < M.length / 2 ^ e) :
    (chunks M e).drop ((chunks M e).length - 2 ^ a) = tileR M e a (M.length / 2 ^ e / 2 ^ a - 1) := by
  obtain ⟨n, hn⟩ : ∃ n, n = M.length / 2 ^ e := ⟨_, rfl⟩
  obtain ⟨A, hA⟩ : ∃ A, A = 2 ^ a := ⟨_, rfl⟩
  have hAp : 0 < A := hA ▸ Nat.two_pow_pos a
  have hq := Nat.div_add_mod n A
  rw [← hn, ← hA] at h
  rw [← hn] at h0
  have hle : A ≤ n := Nat.le_of_dvd h0 (Nat.dvd_of_mod_eq_zero h)
  have hs : (n / A - 1) * A = n - A := by rw [Nat.sub_mul, Nat.one_mul, Nat.mul_comm]; omega
  unfold chunks tileR
  rw [← hn, ← hA]
  apply List.ext_getElem
  · simp; omega
  · intro t h1 h2
    simp only [List.getElem_drop, List.getElem_map, List.getElem_range, List.length_map, List.length_range, hs]
theorem chunk_take {L : List (List UInt8)} {e s i : Nat} (h : (s + 1) * 2 ^ e ≤ i) : chunk (L.take i) e s = chunk L e s := by
  unfold chunk
  rw [List.drop_take, List.take_take, Nat.min_eq_left]
  rw [Nat.add_mul] at h
  omega
theorem chunks_take (L : List (List UInt8)) (e i : Nat) (hi : i ≤ L.length) : chunks (L.take i) e = (List.range (i / 2 ^ e)).map fun k => rootF (chunk L e k) := by
  have hp := Nat.two_pow_pos e
  unfold chunks
  rw [List.length_take, Nat.min_eq_left hi]
  apply List.map_congr_left
  intro k hk
  rw [List.mem_range] at hk
  rw [chunk_take]
  have := Nat.div_mul_le_self i (2 ^ e)
  exact Nat.le_trans (Nat.mul_le_mul_right _ (by omega)) this
/-- a level behind one leaf more: nothing new, or one hash -/
theorem level_same {L : List (List UInt8)} {e i : Nat} (hi : i < L.length) (h : (i + 1) % 2 ^ e ≠ 0) : chunks (L.take (i + 1)) e = chunks (L.take i) e := by
  have hp := Nat.two_pow_pos e
  rw [chunks_take L e (i + 1) hi, chunks_take L e i (by omega), Nat.succ_div, if_neg (fun h2 => h (Nat.mod_eq_zero_of_dvd h2)), Nat.add_zero]
theorem level_more {L : List (List UInt8)} {e i : Nat} (hi : i < L.length) (h : (i + 1) % 2 ^ e = 0) : chunks (L.take (i + 1)) e = chunks (L.take i) e ++ [rootF (chunk L e ((i + 1) / 2 ^ e - 1))] := by
  have hp := Nat.two_pow_pos e
  have h1 : (i + 1) / 2 ^ e = i / 2 ^ e + 1 := by rw [Nat.succ_div, if_pos (Nat.dvd_of_mod_eq_zero h)]
  rw [chunks_take L e (i + 1) hi, chunks_take L e i (by omega), h1, List.range_succ, List.map_append, Nat.add_sub_cancel]
  rfl
theorem chunks_len' (L : List (List UInt8)) (e i : Nat) (hi : i ≤ L.length) : (chunks (L.take i) e).length = i / 2 ^ e := by rw [chunks_take L e i hi]; simp
/-- what comes into the level above -/
theorem head_next {L : List (List UInt8)} {k i : Nat} (hi : i < L.length) (h : (i + 1) / 2 ^ (4 * k) % 16 = 0) (hd : (i + 1) % 2 ^ (4 * k) = 0) :
    rootF ((chunks (L.take (i + 1)) (4 * k)).drop ((i + 1) / 2 ^ (4 * k) - 16)) = rootF (chunk L (4 * (k + 1)) ((i + 1) / 2 ^ (4 * (k + 1)) - 1)) ∧ (i + 1) % 2 ^ (4 * (k + 1)) = 0 ∧ 16 ≤ (i + 1) / 2 ^ (4 * k) := by
  have hp := Nat.two_pow_pos (4 * k)
  have hpe : 2 ^ (4 * (k + 1)) = 2 ^ (4 * k) * 16 := by rw [show 4 * (k + 1) = 4 * k + 4 by omega, Nat.pow_add]
  have hl : (L.take (i + 1)).length = i + 1 := by rw [List.length_take]; omega
  have h0 : 0 < (i + 1) / 2 ^ (4 * k) := Nat.div_pos (Nat.le_of_dvd (by omega) (Nat.dvd_of_mod_eq_zero hd)) hp
  have hm : (i + 1) % 2 ^ (4 * (k + 1)) = 0 := by
    rw [hpe, Nat.mod_mul, hd, h]; simp
  have hdd : (i + 1) / 2 ^ (4 * (k + 1)) = (i + 1) / 2 ^ (4 * k) / 16 := by rw [hpe, Nat.div_div_eq_div_mul]
  have hg : 16 ≤ (i + 1) / 2 ^ (4 * k) := Nat.le_of_dvd h0 (Nat.dvd_of_mod_eq_zero h)
  have hbig : ((i + 1) / 2 ^ (4 * (k + 1)) - 1 + 1) * 2 ^ (4 * (k + 1)) ≤ i + 1 := by
    have h1 : 0 < (i + 1) / 2 ^ (4 * (k + 1)) := by rw [hdd]; omega
    rw [Nat.sub_add_cancel h1]
    exact Nat.div_mul_le_self _ _
  refine ⟨?_, hm, hg⟩
  have e1 := last_tile (L.take (i + 1)) (4 * k) 4 (by rw [hl]; exact h) (by rw [hl]; exact h0)
  rw [chunks_len, hl] at e1
  rw [show (16 : Nat) = 2 ^ 4 from rfl, e1, root_tile (L.take (i + 1)) (4 * k) 4 _ (by rw [hl, show 4 * k + 4 = 4 * (k + 1) by omega, show (2 : Nat) ^ 4 = 16 from rfl, ← hdd]; exact hbig)]
  rw [show 4 * k + 4 = 4 * (k + 1) by omega, show (2 : Nat) ^ 4 = 16 from rfl, ← hdd, chunk_take hbig]
/-- once a level stays, so do those above -/
theorem levels_stay {L : List (List UInt8)} {k i j : Nat} (hi : i < L.length) (h : (i + 1) / 2 ^ (4 * k) % 16 ≠ 0) (hj : k < j) : chunks (L.take (i + 1)) (4 * j) = chunks (L.take i) (4 * j) := by
  refine level_same hi fun h2 => h ?_
  have hd : 2 ^ (4 * k) * 16 ∣ i + 1 := by
    refine Nat.dvd_trans ?_ (Nat.dvd_of_mod_eq_zero h2)
    rw [show 2 ^ (4 * k) * 16 = 2 ^ (4 * k + 4) by rw [Nat.pow_add]]
    exact Nat.pow_dvd_pow 2 (by omega)
  obtain ⟨q, hq⟩ := hd
  rw [hq, Nat.mul_assoc, Nat.mul_div_cancel_left _ (Nat.two_pow_pos _), Nat.mul_mod_right]
theorem cnt_pow (s k : Nat) (hk : k < 6) : cntF s (k : Int) = s / 2 ^ (4 * k) := by
  unfold cntF
  rw [if_neg (by omega), Int.toNat_natCast, Nat.pow_mul]
/-- the levels while a leaf comes in -/
def lvl (L : List (List UInt8)) (i k j : Nat) : List (List UInt8) := if j < k then chunks (L.take (i + 1)) (4 * j) else chunks (L.take i) (4 * j)
theorem lvl_all (M : List (List UInt8)) (h : All32 M) (e : Nat) : All32 (chunks M e) := by
  refine All32.of fun x hx => ?_
  obtain ⟨k, -, rfl⟩ := List.mem_map.1 hx
  exact rootF_len ((h.drop _).take _)
end Go.Proofs.YtfidajbenmgflaaDoor
