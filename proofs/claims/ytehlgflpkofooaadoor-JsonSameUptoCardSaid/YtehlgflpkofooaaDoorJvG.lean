/-
  The program's reader: blanks, take, next. Conditions: those in each statement.
-/
import Derived.Test.YtehlgflpkofooaaDoorJvF
namespace Go.Proofs.YtehlgflpkofooaaDoor
open Go.RowKit

/-- a text that lies below block R: its slice -/
structure TextAt (w : World) (R : Nat) (a : Option Addr) (c : Nat) (xs : List UInt8) : Prop where
  le : xs.length ≤ c
  big : c ≤ 9223372036854775807
  mem : 0 < xs.length → ∃ b off, a = some ⟨b, off, none⟩ ∧ b < R ∧ b < w.heap.size ∧ ∀ j, j < xs.length → w.cell? ⟨b, off + j, none⟩ = some (.int .u8 ((xs.getD j 0).toNat : Int))
/-- a reader: what is left of its text -/
def RdAt (w : World) (R : Nat) (xs : List UInt8) : Prop := ∃ a c, Arr w R 69 [.slice a xs.length c] ∧ TextAt w R a c xs
theorem TextAt.kept {w w' : World} {R : Nat} {a : Option Addr} {c : Nat} {xs : List UInt8} (h : TextAt w R a c xs) {r : Option Nat} (hg : w.grownBy w' r) (hr : ∀ k, r = some k → R ≤ k) : TextAt w' R a c xs := by
  refine ⟨h.le, h.big, fun h0 => ?_⟩
  obtain ⟨b, off, e, h1, h2, h3⟩ := h.mem h0
  exact ⟨b, off, e, h1, Nat.lt_of_lt_of_le h2 hg.size, fun j hj => (World.cell?_of_block (a := ⟨b, off + j, none⟩) (hg.block b h2 (fun e => by have := hr b e.symm; omega))).trans (h3 j hj)⟩
theorem RdAt.lt {w : World} {R : Nat} {xs : List UInt8} (h : RdAt w R xs) : R < w.heap.size := by obtain ⟨a, c, h1, -⟩ := h; exact h1.lt
theorem RdAt.kept {w w' : World} {R : Nat} {xs : List UInt8} (h : RdAt w R xs) {r : Option Nat} (hg : w.grownBy w' r) (hr : ∀ k, r = some k → R < k) : RdAt w' R xs := by
  obtain ⟨a, c, h1, h2⟩ := h
  exact ⟨a, c, h1.grown hg (fun e => by have := hr R e.symm; omega), h2.kept hg (fun k hk => Nat.le_of_lt (hr k hk))⟩
/-- the text's end from i on -/
theorem TextAt.drop {w : World} {R b off c : Nat} {xs : List UInt8} (h : TextAt w R (some ⟨b, off, none⟩) c xs) (i : Nat) (hi : i ≤ xs.length) (hc : i < c) : TextAt w R (some ⟨b, off + i, none⟩) (c - i) (xs.drop i) := by
  have h1 := h.le
  have h2 := h.big
  refine ⟨by rw [List.length_drop]; omega, by omega, fun h0 => ?_⟩
  rw [List.length_drop] at h0
  obtain ⟨b', off', e, e1, e2, e3⟩ := h.mem (by omega)
  cases e
  refine ⟨b, off + i, rfl, e1, e2, fun j hj => ?_⟩
  rw [List.length_drop] at hj
  have := e3 (i + j) (by omega)
  rw [Nat.add_assoc, this]
  simp [List.getD]
theorem TextAt.nil (w : World) (R : Nat) (a : Option Addr) (c : Nat) (hc : c ≤ 9223372036854775807) : TextAt w R a c [] := ⟨Nat.zero_le _, hc, fun h => absurd h (Nat.lt_irrefl _)⟩
/-- what is read of reader R -/
theorem gb_cell (w : World) (R : Nat) (v : Value) : w.grownBy (w.setCell ⟨R, 0, none⟩ v) (some R) := ⟨rfl, rfl, rfl, by rw [World.size_setCell]; exact Nat.le_refl _, fun i _ hr => Below.heap_setCell _ _ _ _ (fun e => hr (by rw [e]))⟩

theorem blank_trim (xs : List UInt8) : Lib.trimLeftS xs [32, 9, 10, 13] = blanksF xs := by
  unfold Lib.trimLeftS
  induction xs with
  | nil => rfl
  | cons c r ih =>
    rw [List.dropWhile_cons, blanksF]
    have : ([32, 9, 10, 13] : List UInt8).contains c = isBlank c := by
      unfold isBlank
      simp [List.contains, List.elem]
      cases h1 : c == 32 <;> cases h2 : c == 9 <;> cases h3 : c == 10 <;> cases h4 : c == 13 <;> simp_all
    rw [this]
    split
    · exact ih
    · rfl
theorem blanks_drop (xs : List UInt8) : ∃ i, i ≤ xs.length ∧ blanksF xs = xs.drop i := by
  induction xs with
  | nil => exact ⟨0, Nat.le_refl _, rfl⟩
  | cons c r ih =>
    unfold blanksF
    split
    · obtain ⟨i, h1, h2⟩ := ih
      exact ⟨i + 1, by simpa using h1, by simpa using h2⟩
    · exact ⟨0, Nat.zero_le _, rfl⟩

/-- bytes.TrimLeft of blanks -/
theorem trim_any (a : Option Addr) (c R : Nat) (xs : List UInt8) (w : World) (h : TextAt w R a c xs) :
    Calls Tryd.prog 63 #[.slice a xs.length c, .string ⟨#[32, 9, 10, 13]⟩] w fun e w' => ∃ a' c', e = .returned (.slice a' (blanksF xs).length c') ∧ TextAt w' R a' c' (blanksF xs) ∧ Below w.heap.size w w' := by
  refine (Tryd.bytes_TrimLeft a xs.length c xs ⟨#[32, 9, 10, 13]⟩ w rfl h.le h.big (fun h0 => ?_) (by decide) (fun j b hj => ?_)).mono ?_
  · obtain ⟨b, off, e, -, -, h3⟩ := h.mem h0
    exact ⟨b, off, e, h3⟩
  · have := List.mem_of_getElem? hj
    simp at this
    rcases this with rfl | rfl | rfl | rfl <;> decide
  · rintro e w' ⟨rfl, hb⟩
    rw [show (⟨#[32, 9, 10, 13]⟩ : ByteArray).data.toList = [32, 9, 10, 13] from rfl, blank_trim]
    obtain ⟨i, hi, he⟩ := blanks_drop xs
    have hl : xs.length - (blanksF xs).length = i := by rw [he, List.length_drop]; omega
    rw [hl]
    unfold Lib.leftV
    split
    · rename_i hx
      have h0 : blanksF xs = [] := by rw [he, hx]; simp
      rw [h0]
      exact ⟨none, 0, rfl, TextAt.nil _ _ _ _ (by omega), hb⟩
    · rename_i hx
      have hi2 : i < xs.length := by omega
      obtain ⟨b, off, rfl, -⟩ := h.mem (by omega)
      have hle := h.le
      refine ⟨some ⟨b, off + i, none⟩, c - i, ?_, ?_, hb⟩
      · rw [he, List.length_drop]
        unfold Lib.fromV
        rw [if_neg (by omega), Option.map_some, Addr.add_lit]
      · rw [he]
        exact (h.drop i hi (by omega)).kept (gb hb none) (by simp)

theorem rd_store {w w' : World} {R : Nat} {a : Option Addr} {c : Nat} {xs : List UInt8} {old : Value} (hA : Arr w R 69 [old]) (h : TextAt w R a c xs) (e : w' = w.setCell ⟨R, 0, none⟩ (.slice a xs.length c)) : RdAt w' R xs ∧ w.grownBy w' (some R) := by
  subst e
  exact ⟨⟨a, c, hA.store 0 _, h.kept (gb_cell w R _) (fun k hk => by cases hk; exact Nat.le_refl _)⟩, gb_cell w R _⟩

theorem blanks_any (R : Nat) (xs : List UInt8) (w : World) (h : RdAt w R xs) :
    Calls Tryd.prog 52 #[.pointer (some ⟨R, 0, none⟩)] w fun e w' => e = .returned (.tuple #[]) ∧ RdAt w' R (blanksF xs) ∧ w.grownBy w' (some R) := by
  obtain ⟨a, c, hA, hT⟩ := h
  have htr := Lib.hid (trim_any a c R xs w hT)
  have c0 := (hA.cell 0).trans (show _ = some (Value.slice a xs.length c) from rfl)
  have HA := Lib.hid hA
  clear hT hA
  go_enter Tryd.func52, Tryd.ntmps52
  go_wp2_with (go_at_call 63; refine htr.out.mono ?_; rintro e w2 ⟨a', c', rfl, hT2, hb2⟩; have hA2 := HA.out.kept hb2; have d0 := (hA2.cell 0).trans (show _ = some (Value.slice a xs.length c) from rfl); have f0 := hA2.frozen 0)
  have h3 := rd_store hA2 hT2 rfl
  exact bodyPost_end (results_none rfl _ _ _) rfl ⟨rfl, h3.1, gb_trans (gb hb2 _) h3.2⟩

theorem TextAt.tail0 {w : World} {R : Nat} {a : Option Addr} {d : UInt8} {r : List UInt8} (h : TextAt w R a 1 (d :: r)) : TextAt w R a 0 r := by
  have := h.le
  have e : r = [] := List.eq_nil_of_length_eq_zero (by simpa using this)
  rw [e]
  exact TextAt.nil _ _ _ _ (by omega)
theorem TextAt.tail1 {w : World} {R b off c : Nat} {d : UInt8} {r : List UInt8} (h : TextAt w R (some ⟨b, off, none⟩) c (d :: r)) (hc : 1 < c) : TextAt w R (some ⟨b, off + 1, none⟩) (c - 1) r := h.drop 1 (by simp) hc
/-- is this sign next, behind blanks? -/
def takeF (c : UInt8) (xs : List UInt8) : Bool × List UInt8 := match blanksF xs with | [] => (false, []) | d :: r => if d = c then (true, r) else (false, d :: r)

theorem u8_eq (c d : UInt8) : ((c.toNat : Int) = (d.toNat : Int)) ↔ c = d := ⟨fun h => UInt8.toNat_inj.1 (by omega), fun h => by rw [h]⟩

set_option maxHeartbeats 1600000 in
theorem take_any (R : Nat) (s : UInt8) (xs : List UInt8) (w : World) (h : RdAt w R xs) :
    Calls Tryd.prog 49 #[.pointer (some ⟨R, 0, none⟩), .int .u8 (s.toNat : Int)] w fun e w' => e = .returned (.bool (takeF s xs).1) ∧ RdAt w' R (takeF s xs).2 ∧ w.grownBy w' (some R) := by
  have hbl := Lib.hid (blanks_any R xs w h)
  clear h
  cases hy : blanksF xs with
  | nil =>
    have ht : takeF s xs = (false, []) := by unfold takeF; rw [hy]
    rw [hy] at hbl
    rw [ht]
    clear hy ht
    go_enter Tryd.func49, Tryd.ntmps49
    go_wp2_with (go_at_call 52; refine hbl.out.mono ?_; rintro e w2 ⟨rfl, hr2, hg2⟩; have HR2 := Lib.hid hr2; obtain ⟨a, c, hA, hT⟩ := hr2; have c0 := (hA.cell 0).trans (show _ = some (Value.slice a 0 c) from rfl); clear hA hT)
    go_ret
    exact ⟨rfl, HR2.out, hg2⟩
  | cons d r =>
    rw [hy] at hbl
    by_cases hd : d = s
    · have ht : takeF s xs = (true, r) := by unfold takeF; rw [hy]; exact if_pos hd
      rw [ht]
      subst hd
      clear hy ht
      go_enter Tryd.func49, Tryd.ntmps49
      go_upto_region 2 with (go_at_call 52; refine hbl.out.mono ?_; rintro e w2 ⟨rfl, hr2, hg2⟩)
      obtain ⟨a, c, hA, hT⟩ := hr2
      obtain ⟨b, off, rfl, hbR, hbw, hcell⟩ := hT.mem (by simp)
      have hle : r.length + 1 ≤ c := by simpa using hT.le
      have hbig := hT.big
      have c0 := (hA.cell 0).trans (show _ = some (Value.slice (some ⟨b, off, none⟩) (r.length + 1) c) from rfl)
      have f0 := hA.frozen 0
      have d0 : w2.cell? ⟨b, off, none⟩ = some (.int .u8 (d.toNat : Int)) := by simpa using hcell 0 (by simp)
      have hrl : r.length ≤ 9223372036854775806 := by omega
      clear hcell
      by_cases hc1 : c = 1
      · subst hc1
        have hr0 : r = [] := List.eq_nil_of_length_eq_zero (by omega)
        subst hr0
        have HT := Lib.hid hT.tail0
        have HA := Lib.hid hA
        clear hA hT
        go_wp2
        go_ret
        exact ⟨rfl, (rd_store HA.out HT.out rfl).1, gb_trans hg2 (gb_cell _ _ _)⟩
      · have hc2 : 1 < c := by omega
        have HT := Lib.hid (hT.tail1 hc2)
        have HA := Lib.hid hA
        clear hA hT
        go_wp2
        go_ret
        exact ⟨rfl, (rd_store HA.out HT.out rfl).1, gb_trans hg2 (gb_cell _ _ _)⟩
    · have ht : takeF s xs = (false, d :: r) := by unfold takeF; rw [hy]; exact if_neg hd
      rw [ht]
      have hds : ((d.toNat : Int) == (s.toNat : Int)) = false := beq_eq_false_iff_ne.2 (fun e => hd ((u8_eq d s).1 e))
      have hbn : ((d.toNat : Int) != (s.toNat : Int)) = true := by rw [bne, hds]; rfl
      have hdn : ¬ (d.toNat : Int) = (s.toNat : Int) := fun e => hd ((u8_eq d s).1 e)
      have hdn2 : ¬ d.toNat = s.toNat := fun e => hd (UInt8.toNat_inj.1 e)
      clear hy ht
      go_enter Tryd.func49, Tryd.ntmps49
      go_upto_region 2 with (go_at_call 52; refine hbl.out.mono ?_; rintro e w2 ⟨rfl, hr2, hg2⟩)
      obtain ⟨a, c, hA, hT⟩ := hr2
      obtain ⟨b, off, rfl, hbR, hbw, hcell⟩ := hT.mem (by simp)
      have hle : r.length + 1 ≤ c := by simpa using hT.le
      have hbig := hT.big
      have c0 := (hA.cell 0).trans (show _ = some (Value.slice (some ⟨b, off, none⟩) (r.length + 1) c) from rfl)
      have f0 := hA.frozen 0
      have d0 : w2.cell? ⟨b, off, none⟩ = some (.int .u8 (d.toNat : Int)) := by simpa using hcell 0 (by simp)
      have hrl : r.length ≤ 9223372036854775806 := by omega
      clear hcell
      have HR := Lib.hid (show RdAt w2 R (d :: r) from ⟨_, _, hA, hT⟩)
      clear hA hT
      go_wp2
      all_goals first
        | (go_ret; exact ⟨rfl, HR.out, hg2⟩)
        | (exfalso; omega)

/-- the next byte -/
def nextB (xs : List UInt8) : UInt8 := xs.headD 0
theorem next_any (R : Nat) (xs : List UInt8) (w : World) (h : RdAt w R xs) :
    Calls Tryd.prog 69 #[.pointer (some ⟨R, 0, none⟩)] w fun e w' => e = .returned (.int .u8 ((nextB xs).toNat : Int)) ∧ RdAt w' R xs.tail ∧ w.grownBy w' (some R) := by
  obtain ⟨a, c, hA, hT⟩ := h
  cases xs with
  | nil =>
    have HR := Lib.hid (show RdAt w R [] from ⟨a, c, hA, hT⟩)
    have c0 := (hA.cell 0).trans (show _ = some (Value.slice a 0 c) from rfl)
    clear hA hT
    go_enter Tryd.func69, Tryd.ntmps69
    go_wp2
    go_ret
    exact ⟨rfl, HR.out, World.grownBy.refl _ _⟩
  | cons d r =>
    obtain ⟨b, off, rfl, hbR, hbw, hcell⟩ := hT.mem (by simp)
    have hle : r.length + 1 ≤ c := by simpa using hT.le
    have hbig := hT.big
    have c0 := (hA.cell 0).trans (show _ = some (Value.slice (some ⟨b, off, none⟩) (r.length + 1) c) from rfl)
    have f0 := hA.frozen 0
    have d0 : w.cell? ⟨b, off, none⟩ = some (.int .u8 (d.toNat : Int)) := by simpa using hcell 0 (by simp)
    have hrl : r.length ≤ 9223372036854775806 := by omega
    have hnb : Hid (nextB (d :: r) = d) := rfl
    rw [hnb.out, List.tail_cons]
    clear hcell
    by_cases hc1 : c = 1
    · subst hc1
      have hr0 : r = [] := List.eq_nil_of_length_eq_zero (by omega)
      subst hr0
      have HT := Lib.hid hT.tail0
      have HA := Lib.hid hA
      clear hA hT
      go_enter Tryd.func69, Tryd.ntmps69
      go_wp2
      go_ret
      exact ⟨rfl, (rd_store HA.out HT.out rfl).1, gb_cell _ _ _⟩
    · have hc2 : 1 < c := by omega
      have HT := Lib.hid (hT.tail1 hc2)
      have HA := Lib.hid hA
      clear hA hT
      go_enter Tryd.func69, Tryd.ntmps69
      go_wp2
      go_ret
      exact ⟨rfl, (rd_store HA.out HT.out rfl).1, gb_cell _ _ _⟩
end Go.Proofs.YtehlgflpkofooaaDoor
