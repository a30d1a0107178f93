/-
  The program's reader: its small functions. Conditions: those in each statement.
-/
import Derived.Test.YtiadfijeglbdlaaDoorJyE
import Derived.WalkMore
import Derived.ScopeJumps
import Derived.Lib.AtoiErrMem
namespace Go.Proofs.YtiadfijeglbdlaaDoor
open Go.RowKit

/-- a text that lies below block R: its slice -/
structure TextAt (w : World) (R : Nat) (a : Option Addr) (c : Nat) (xs : List UInt8) : Prop where
  le : xs.length ≤ c
  big : c ≤ 9223372036854775807
  mem : 0 < xs.length → ∃ b off, a = some ⟨b, off, none⟩ ∧ b < R ∧ b < w.heap.size ∧ ∀ j, j < xs.length → w.cell? ⟨b, off + j, none⟩ = some (.int .u8 ((xs.getD j 0).toNat : Int))
/-- a reader: what is left of its text -/
def RdAt (w : World) (R : Nat) (xs : List UInt8) : Prop := ∃ a c, Arr w R 69 [.slice a xs.length c] ∧ TextAt w R a c xs
theorem TextAt.kept {w w' : World} {R : Nat} {a : Option Addr} {c : Nat} {xs : List UInt8} (h : TextAt w R a c xs) {r : Option Nat} (hg : w.grownBy w' r) (hr : ∀ k, r = some k → R ≤ k) : TextAt w' R a c xs := by
  refine ⟨h.le, h.big, fun h0 => ?_⟩
  obtain ⟨b, off, e, h1, h2, h3⟩ := h.mem h0
  exact ⟨b, off, e, h1, Nat.lt_of_lt_of_le h2 hg.size, fun j hj => (World.cell?_of_block (a := ⟨b, off + j, none⟩) (hg.block b h2 (fun e => by have := hr b e.symm; omega))).trans (h3 j hj)⟩
theorem RdAt.lt {w : World} {R : Nat} {xs : List UInt8} (h : RdAt w R xs) : R < w.heap.size := by obtain ⟨a, c, h1, -⟩ := h; exact h1.lt
theorem RdAt.kept {w w' : World} {R : Nat} {xs : List UInt8} (h : RdAt w R xs) {r : Option Nat} (hg : w.grownBy w' r) (hr : ∀ k, r = some k → R < k) : RdAt w' R xs := by
  obtain ⟨a, c, h1, h2⟩ := h
  exact ⟨a, c, h1.grown hg (fun e => by have := hr R e.symm; omega), h2.kept hg (fun k hk => Nat.le_of_lt (hr k hk))⟩
/-- the text's end from i on -/
theorem TextAt.drop {w : World} {R b off c : Nat} {xs : List UInt8} (h : TextAt w R (some ⟨b, off, none⟩) c xs) (i : Nat) (hi : i ≤ xs.length) (hc : i < c) : TextAt w R (some ⟨b, off + i, none⟩) (c - i) (xs.drop i) := by
  have h1 := h.le
  have h2 := h.big
  refine ⟨by rw [List.length_drop]; omega, by omega, fun h0 => ?_⟩
  rw [List.length_drop] at h0
  obtain ⟨b', off', e, e1, e2, e3⟩ := h.mem (by omega)
  cases e
  refine ⟨b, off + i, rfl, e1, e2, fun j hj => ?_⟩
  rw [List.length_drop] at hj
  have := e3 (i + j) (by omega)
  rw [Nat.add_assoc, this]
  simp [List.getD]
theorem TextAt.nil (w : World) (R : Nat) (a : Option Addr) (c : Nat) (hc : c ≤ 9223372036854775807) : TextAt w R a c [] := ⟨Nat.zero_le _, hc, fun h => absurd h (Nat.lt_irrefl _)⟩
/-- what is read of reader R -/
theorem gb_cell (w : World) (R : Nat) (v : Value) : w.grownBy (w.setCell ⟨R, 0, none⟩ v) (some R) := ⟨rfl, rfl, rfl, by rw [World.size_setCell]; exact Nat.le_refl _, fun i _ hr => Below.heap_setCell _ _ _ _ (fun e => hr (by rw [e]))⟩

theorem blank_trim (xs : List UInt8) : Lib.trimLeftS xs [32, 9, 10, 13] = blanksF xs := by
  unfold Lib.trimLeftS
  induction xs with
  | nil => rfl
  | cons c r ih =>
    rw [List.dropWhile_cons, blanksF]
    have : ([32, 9, 10, 13] : List UInt8).contains c = isBlank c := by
      unfold isBlank
      simp [List.contains, List.elem]
      cases h1 : c == 32 <;> cases h2 : c == 9 <;> cases h3 : c == 10 <;> cases h4 : c == 13 <;> simp_all
    rw [this]
    split
    · exact ih
    · rfl
theorem blanks_drop (xs : List UInt8) : ∃ i, i ≤ xs.length ∧ blanksF xs = xs.drop i := by
  induction xs with
  | nil => exact ⟨0, Nat.le_refl _, rfl⟩
  | cons c r ih =>
    unfold blanksF
    split
    · obtain ⟨i, h1, h2⟩ := ih
      exact ⟨i + 1, by simpa using h1, by simpa using h2⟩
    · exact ⟨0, Nat.zero_le _, rfl⟩

/-- bytes.TrimLeft of blanks -/
theorem trim_any (a : Option Addr) (c R : Nat) (xs : List UInt8) (w : World) (h : TextAt w R a c xs) :
    Calls Tryd.prog 63 #[.slice a xs.length c, .string ⟨#[32, 9, 10, 13]⟩] w fun e w' => ∃ a' c', e = .returned (.slice a' (blanksF xs).length c') ∧ TextAt w' R a' c' (blanksF xs) ∧ Below w.heap.size w w' := by
  refine (Tryd.bytes_TrimLeft a xs.length c xs ⟨#[32, 9, 10, 13]⟩ w rfl h.le h.big (fun h0 => ?_) (by decide) (fun j b hj => ?_)).mono ?_
  · obtain ⟨b, off, e, -, -, h3⟩ := h.mem h0
    exact ⟨b, off, e, h3⟩
  · have := List.mem_of_getElem? hj
    simp at this
    rcases this with rfl | rfl | rfl | rfl <;> decide
  · rintro e w' ⟨rfl, hb⟩
    rw [show (⟨#[32, 9, 10, 13]⟩ : ByteArray).data.toList = [32, 9, 10, 13] from rfl, blank_trim]
    obtain ⟨i, hi, he⟩ := blanks_drop xs
    have hl : xs.length - (blanksF xs).length = i := by rw [he, List.length_drop]; omega
    rw [hl]
    unfold Lib.leftV
    split
    · rename_i hx
      have h0 : blanksF xs = [] := by rw [he, hx]; simp
      rw [h0]
      exact ⟨none, 0, rfl, TextAt.nil _ _ _ _ (by omega), hb⟩
    · rename_i hx
      have hi2 : i < xs.length := by omega
      obtain ⟨b, off, rfl, -⟩ := h.mem (by omega)
      have hle := h.le
      refine ⟨some ⟨b, off + i, none⟩, c - i, ?_, ?_, hb⟩
      · rw [he, List.length_drop]
        unfold Lib.fromV
        rw [if_neg (by omega), Option.map_some, Addr.add_lit]
      · rw [he]
        exact (h.drop i hi (by omega)).kept (gb hb none) (by simp)

theorem rd_store {w w' : World} {R : Nat} {a : Option Addr} {c : Nat} {xs : List UInt8} {old : Value} (hA : Arr w R 69 [old]) (h : TextAt w R a c xs) (e : w' = w.setCell ⟨R, 0, none⟩ (.slice a xs.length c)) : RdAt w' R xs ∧ w.grownBy w' (some R) := by
  subst e
  exact ⟨⟨a, c, hA.store 0 _, h.kept (gb_cell w R _) (fun k hk => by cases hk; exact Nat.le_refl _)⟩, gb_cell w R _⟩

theorem blanks_any (R : Nat) (xs : List UInt8) (w : World) (h : RdAt w R xs) :
    Calls Tryd.prog 52 #[.pointer (some ⟨R, 0, none⟩)] w fun e w' => e = .returned (.tuple #[]) ∧ RdAt w' R (blanksF xs) ∧ w.grownBy w' (some R) := by
  obtain ⟨a, c, hA, hT⟩ := h
  have htr := Lib.hid (trim_any a c R xs w hT)
  have c0 := (hA.cell 0).trans (show _ = some (Value.slice a xs.length c) from rfl)
  have HA := Lib.hid hA
  clear hT hA
  go_enter Tryd.func52, Tryd.ntmps52
  go_wp2_with (go_at_call 63; refine htr.out.mono ?_; rintro e w2 ⟨a', c', rfl, hT2, hb2⟩; have hA2 := HA.out.kept hb2; have d0 := (hA2.cell 0).trans (show _ = some (Value.slice a xs.length c) from rfl); have f0 := hA2.frozen 0)
  have h3 := rd_store hA2 hT2 rfl
  exact bodyPost_end (results_none rfl _ _ _) rfl ⟨rfl, h3.1, gb_trans (gb hb2 _) h3.2⟩

theorem TextAt.tail0 {w : World} {R : Nat} {a : Option Addr} {d : UInt8} {r : List UInt8} (h : TextAt w R a 1 (d :: r)) : TextAt w R a 0 r := by
  have := h.le
  have e : r = [] := List.eq_nil_of_length_eq_zero (by simpa using this)
  rw [e]
  exact TextAt.nil _ _ _ _ (by omega)
theorem TextAt.tail1 {w : World} {R b off c : Nat} {d : UInt8} {r : List UInt8} (h : TextAt w R (some ⟨b, off, none⟩) c (d :: r)) (hc : 1 < c) : TextAt w R (some ⟨b, off + 1, none⟩) (c - 1) r := h.drop 1 (by simp) hc
/-- is this sign next, behind blanks? -/
def takeF (c : UInt8) (xs : List UInt8) : Bool × List UInt8 := match blanksF xs with | [] => (false, []) | d :: r => if d = c then (true, r) else (false, d :: r)

theorem u8_eq (c d : UInt8) : ((c.toNat : Int) = (d.toNat : Int)) ↔ c = d := ⟨fun h => UInt8.toNat_inj.1 (by omega), fun h => by rw [h]⟩

set_option maxHeartbeats 1600000 in
theorem take_any (R : Nat) (s : UInt8) (xs : List UInt8) (w : World) (h : RdAt w R xs) :
    Calls Tryd.prog 49 #[.pointer (some ⟨R, 0, none⟩), .int .u8 (s.toNat : Int)] w fun e w' => e = .returned (.bool (takeF s xs).1) ∧ RdAt w' R (takeF s xs).2 ∧ w.grownBy w' (some R) := by
  have hbl := Lib.hid (blanks_any R xs w h)
  clear h
  cases hy : blanksF xs with
  | nil =>
    have ht : takeF s xs = (false, []) := by unfold takeF; rw [hy]
    rw [hy] at hbl
    rw [ht]
    clear hy ht
    go_enter Tryd.func49, Tryd.ntmps49
    go_wp2_with (go_at_call 52; refine hbl.out.mono ?_; rintro e w2 ⟨rfl, hr2, hg2⟩; have HR2 := Lib.hid hr2; obtain ⟨a, c, hA, hT⟩ := hr2; have c0 := (hA.cell 0).trans (show _ = some (Value.slice a 0 c) from rfl); clear hA hT)
    go_ret
    exact ⟨rfl, HR2.out, hg2⟩
  | cons d r =>
    rw [hy] at hbl
    by_cases hd : d = s
    · have ht : takeF s xs = (true, r) := by unfold takeF; rw [hy]; exact if_pos hd
      rw [ht]
      subst hd
      clear hy ht
      go_enter Tryd.func49, Tryd.ntmps49
      go_upto_region 2 with (go_at_call 52; refine hbl.out.mono ?_; rintro e w2 ⟨rfl, hr2, hg2⟩)
      obtain ⟨a, c, hA, hT⟩ := hr2
      obtain ⟨b, off, rfl, hbR, hbw, hcell⟩ := hT.mem (by simp)
      have hle : r.length + 1 ≤ c := by simpa using hT.le
      have hbig := hT.big
      have c0 := (hA.cell 0).trans (show _ = some (Value.slice (some ⟨b, off, none⟩) (r.length + 1) c) from rfl)
      have f0 := hA.frozen 0
      have d0 : w2.cell? ⟨b, off, none⟩ = some (.int .u8 (d.toNat : Int)) := by simpa using hcell 0 (by simp)
      have hrl : r.length ≤ 9223372036854775806 := by omega
      clear hcell
      by_cases hc1 : c = 1
      · subst hc1
        have hr0 : r = [] := List.eq_nil_of_length_eq_zero (by omega)
        subst hr0
        have HT := Lib.hid hT.tail0
        have HA := Lib.hid hA
        clear hA hT
        go_wp2
        go_ret
        exact ⟨rfl, (rd_store HA.out HT.out rfl).1, gb_trans hg2 (gb_cell _ _ _)⟩
      · have hc2 : 1 < c := by omega
        have HT := Lib.hid (hT.tail1 hc2)
        have HA := Lib.hid hA
        clear hA hT
        go_wp2
        go_ret
        exact ⟨rfl, (rd_store HA.out HT.out rfl).1, gb_trans hg2 (gb_cell _ _ _)⟩
    · have ht : takeF s xs = (false, d :: r) := by unfold takeF; rw [hy]; exact if_neg hd
      rw [ht]
      have hds : ((d.toNat : Int) == (s.toNat : Int)) = false := beq_eq_false_iff_ne.2 (fun e => hd ((u8_eq d s).1 e))
      have hbn : ((d.toNat : Int) != (s.toNat : Int)) = true := by rw [bne, hds]; rfl
      have hdn : ¬ (d.toNat : Int) = (s.toNat : Int) := fun e => hd ((u8_eq d s).1 e)
      have hdn2 : ¬ d.toNat = s.toNat := fun e => hd (UInt8.toNat_inj.1 e)
      clear hy ht
      go_enter Tryd.func49, Tryd.ntmps49
      go_upto_region 2 with (go_at_call 52; refine hbl.out.mono ?_; rintro e w2 ⟨rfl, hr2, hg2⟩)
      obtain ⟨a, c, hA, hT⟩ := hr2
      obtain ⟨b, off, rfl, hbR, hbw, hcell⟩ := hT.mem (by simp)
      have hle : r.length + 1 ≤ c := by simpa using hT.le
      have hbig := hT.big
      have c0 := (hA.cell 0).trans (show _ = some (Value.slice (some ⟨b, off, none⟩) (r.length + 1) c) from rfl)
      have f0 := hA.frozen 0
      have d0 : w2.cell? ⟨b, off, none⟩ = some (.int .u8 (d.toNat : Int)) := by simpa using hcell 0 (by simp)
      have hrl : r.length ≤ 9223372036854775806 := by omega
      clear hcell
      have HR := Lib.hid (show RdAt w2 R (d :: r) from ⟨_, _, hA, hT⟩)
      clear hA hT
      go_wp2
      all_goals first
        | (go_ret; exact ⟨rfl, HR.out, hg2⟩)
        | (exfalso; omega)

/-- the next byte -/
def nextB (xs : List UInt8) : UInt8 := xs.headD 0
theorem next_any (R : Nat) (xs : List UInt8) (w : World) (h : RdAt w R xs) :
    Calls Tryd.prog 69 #[.pointer (some ⟨R, 0, none⟩)] w fun e w' => e = .returned (.int .u8 ((nextB xs).toNat : Int)) ∧ RdAt w' R xs.tail ∧ w.grownBy w' (some R) := by
  obtain ⟨a, c, hA, hT⟩ := h
  cases xs with
  | nil =>
    have HR := Lib.hid (show RdAt w R [] from ⟨a, c, hA, hT⟩)
    have c0 := (hA.cell 0).trans (show _ = some (Value.slice a 0 c) from rfl)
    clear hA hT
    go_enter Tryd.func69, Tryd.ntmps69
    go_wp2
    go_ret
    exact ⟨rfl, HR.out, World.grownBy.refl _ _⟩
  | cons d r =>
    obtain ⟨b, off, rfl, hbR, hbw, hcell⟩ := hT.mem (by simp)
    have hle : r.length + 1 ≤ c := by simpa using hT.le
    have hbig := hT.big
    have c0 := (hA.cell 0).trans (show _ = some (Value.slice (some ⟨b, off, none⟩) (r.length + 1) c) from rfl)
    have f0 := hA.frozen 0
    have d0 : w.cell? ⟨b, off, none⟩ = some (.int .u8 (d.toNat : Int)) := by simpa using hcell 0 (by simp)
    have hrl : r.length ≤ 9223372036854775806 := by omega
    have hnb : Hid (nextB (d :: r) = d) := rfl
    rw [hnb.out, List.tail_cons]
    clear hcell
    by_cases hc1 : c = 1
    · subst hc1
      have hr0 : r = [] := List.eq_nil_of_length_eq_zero (by omega)
      subst hr0
      have HT := Lib.hid hT.tail0
      have HA := Lib.hid hA
      clear hA hT
      go_enter Tryd.func69, Tryd.ntmps69
      go_wp2
      go_ret
      exact ⟨rfl, (rd_store HA.out HT.out rfl).1, gb_cell _ _ _⟩
    · have hc2 : 1 < c := by omega
      have HT := Lib.hid (hT.tail1 hc2)
      have HA := Lib.hid hA
      clear hA hT
      go_enter Tryd.func69, Tryd.ntmps69
      go_wp2
      go_ret
      exact ⟨rfl, (rd_store HA.out HT.out rfl).1, gb_cell _ _ _⟩
end Go.Proofs.YtiadfijeglbdlaaDoor

namespace Go.Proofs.YtiadfijeglbdlaaDoor
open Go.RowKit

/-- by a goto to a label: J of it -/
def jumps (J : Nat → Act → World → Prop) (Q : Exit → Act → World → Prop) : Exit → Act → World → Prop
  | .goto l, a, w => J l a w
  | e, a, w => Q e a w
theorem jumps_goto {J : Nat → Act → World → Prop} {Q : Exit → Act → World → Prop} {l : Nat} {a : Act} {w : World} (h : J l a w) : jumps J Q (.goto l) a w := h
theorem jumps_ret {J : Nat → Act → World → Prop} {Q : Exit → Act → World → Prop} {a : Act} {w : World} (h : Q .ret a w) : jumps J Q .ret a w := h
theorem jumps_panic {J : Nat → Act → World → Prop} {Q : Exit → Act → World → Prop} {a : Act} {w : World} {c : List PanicEntry} (h : Q (.panic c) a w) : jumps J Q (.panic c) a w := h
/-- a scope in which the run jumps to its labels: what holds at each of them, at a number that every way from one to the next one lowers -/
theorem wp_scope_labels {P : Program} {a : Act} {w : World} {Q : Exit → Act → World → Prop} {c : Code} (rest : Nat → Code) (J : Nat → Nat → Act → World → Prop) (hf : ∀ l n a w, J l n a w → findLabel c l = some (rest l))
    (first : c.wp P (jumps (fun l a w => ∃ n, J l n a w) Q) a w)
    (pass : ∀ l n a w, J l n a w → (rest l).wp P (jumps (fun l' a' w' => ∃ n', n' < n ∧ J l' n' a' w') Q) a w) : (Code.scope c).wp P Q a w := by
  intro b k cs
  have key : ∀ n l a w, J l n a w → ∃ e a' w', Q e a' w' ∧ Arrives P (lone (b.at a (.code (rest l) :: .inScope c :: k)) cs w) b k cs e a' w' := by
    intro n
    induction n using Nat.strongRecOn with
    | _ n ih =>
      intro l a w hJ
      obtain ⟨e, a₁, w₁, hq, harr⟩ := pass l n a w hJ b (.inScope c :: k) cs
      cases e with
      | normal => exact ⟨.normal, a₁, w₁, hq, Steps.trans harr (.one step_inScope)⟩
      | exit id => exact ⟨.exit id, a₁, w₁, hq, fun k' hk => harr k' (by simp [exitTo, hk])⟩
      | goto l' =>
        obtain ⟨n', hlt, hJ'⟩ := hq
        obtain ⟨e₂, a₂, w₂, hq₂, harr₂⟩ := ih n' hlt l' a₁ w₁ hJ'
        have hg : gotoIn l' (.inScope c :: k) = some (.code (rest l') :: .inScope c :: k) := by simp [gotoIn, hf _ _ _ _ hJ']
        exact ⟨e₂, a₂, w₂, hq₂, .of_steps (harr _ hg) harr₂⟩
      | ret => exact ⟨_, a₁, w₁, hq, harr⟩
      | panic ch => exact ⟨_, a₁, w₁, hq, harr⟩
      | outgrown => exact ⟨_, a₁, w₁, hq, harr⟩
  obtain ⟨e, a₁, w₁, hq, harr⟩ := first b (.inScope c :: k) cs
  cases e with
  | normal => exact ⟨.normal, a₁, w₁, hq, .head step_scope (Steps.trans harr (.one step_inScope))⟩
  | exit id => exact ⟨.exit id, a₁, w₁, hq, fun k' hk => .head step_scope (harr k' (by simp [exitTo, hk]))⟩
  | goto l' =>
    obtain ⟨n', hJ'⟩ := hq
    obtain ⟨e₂, a₂, w₂, hq₂, harr₂⟩ := key n' l' a₁ w₁ hJ'
    have hg : gotoIn l' (.inScope c :: k) = some (.code (rest l') :: .inScope c :: k) := by simp [gotoIn, hf _ _ _ _ hJ']
    exact ⟨e₂, a₂, w₂, hq₂, .of_steps (.head step_scope (harr _ hg)) harr₂⟩
  | ret => exact ⟨_, a₁, w₁, hq, .of_steps (.one step_scope) harr⟩
  | panic ch => exact ⟨_, a₁, w₁, hq, .of_steps (.one step_scope) harr⟩
  | outgrown => exact ⟨_, a₁, w₁, hq, .of_steps (.one step_scope) harr⟩

/-- so many digits more -/
def codeF : Nat → Nat → List UInt8 → Option (Nat × List UInt8)
  | 0, n, xs => some (n, xs)
  | _ + 1, _, [] => none
  | k + 1, n, c :: r => match hexV c with | none => none | some d => codeF k (n * 16 + d) r
theorem four_code (xs : List UInt8) : fourF xs = codeF 4 0 xs := by
  match xs with
  | [] => rfl
  | [a] => simp only [codeF]; unfold fourF; cases hexV a <;> rfl
  | [a, b] => simp only [codeF]; unfold fourF; cases hexV a <;> simp; cases hexV b <;> rfl
  | [a, b, c] => simp only [codeF]; unfold fourF; cases hexV a <;> simp; cases hexV b <;> simp; cases hexV c <;> rfl
  | a :: b :: c :: d :: r =>
    simp only [codeF, fourF]
    cases ha : hexV a <;> cases hb : hexV b <;> cases hc : hexV c <;> cases hd : hexV d <;> simp
theorem hexV_lt {c : UInt8} {d : Nat} (h : hexV c = some d) : d < 16 := by
  unfold hexV at h
  split at h
  · cases h; omega
  · split at h
    · cases h; omega
    · split at h
      · cases h; omega
      · cases h
theorem bits_or_i32_nat (a b : Nat) (ha : a < 2147483648) (hb : b < 2147483648) : bits .or .i32 (a : Int) (b : Int) = ((a ||| b : Nat) : Int) := by
  have hx : a ||| b < 2 ^ 31 := Nat.or_lt_two_pow (by omega) (by omega)
  have h1 : (BitVec.ofInt 32 (a : Int)).toNat = a := by
    rw [BitVec.ofInt_natCast, BitVec.toNat_ofNat]; exact Nat.mod_eq_of_lt (by omega)
  have h2 : (BitVec.ofInt 32 (b : Int)).toNat = b := by
    rw [BitVec.ofInt_natCast, BitVec.toNat_ofNat]; exact Nat.mod_eq_of_lt (by omega)
  show IntKind.i32.wrap ((BitVec.ofInt 32 (a : Int) ||| BitVec.ofInt 32 (b : Int)).toNat : Int) = _
  rw [BitVec.toNat_or, h1, h2, IntKind.wrap_i32]
  omega
theorem shl_or (n d : Nat) (hn : n < 65536) (hd : d < 16) : bits .or .i32 ((n * 16 : Nat) : Int) (d : Int) = ((n * 16 + d : Nat) : Int) := by
  rw [bits_or_i32_nat _ _ (by omega) (by omega)]
  have := Nat.two_pow_add_eq_or_of_lt (i := 4) (b := d) (by omega) n
  rw [show (2 : Nat) ^ 4 * n = n * 16 by omega] at this
  rw [← this]

/-- what code answers -/
def CodeRes (res : Option (Nat × List UInt8)) (w : World) (R : Nat) (e : Ending) (w' : World) : Prop :=
  w.grownBy w' (some R) ∧ match res with
      | some (n, r) => e = .returned (.tuple #[.int .i32 (n : Int), .bool true]) ∧ RdAt w' R r ∧ n < 65536
      | none => e = .returned (.tuple #[.int .i32 0, .bool false])
set_option maxHeartbeats 1600000 in
theorem code_any (R : Nat) (xs : List UInt8) (w : World) (h : RdAt w R xs) :
    Calls Tryd.prog 71 #[.pointer (some ⟨R, 0, none⟩)] w (CodeRes (fourF xs) w R) := by
  rw [four_code]
  obtain ⟨res, hres⟩ : ∃ res, res = codeF 4 0 xs := ⟨_, rfl⟩
  rw [← hres]
  have HRES := Lib.hid hres
  clear hres
  go_enter Tryd.func71, Tryd.ntmps71
  go_upto_region 3 with fail
  go_loopw [4, 7] (fun nv i wr => ∃ (m n : Nat) (ys : List UInt8), m ≤ 4 ∧ i = .int .i64 m ∧ nv = .int .i32 n ∧ n < 16 ^ m ∧ RdAt wr R ys ∧ Hid (w.grownBy wr (some R)) ∧ Hid (res = codeF (4 - m) n ys)) (fun _ i _ => 4 - (intOf i).toNat)
  case atStart => exact ⟨0, 0, xs, by omega, rfl, rfl, by omega, h, World.grownBy.refl _ _, HRES.out⟩
  case round =>
    clear h
    obtain ⟨m, n, ys, hm, rfl, rfl, hn, hr, hg, he⟩ := hrel
    by_cases hlt : m < 4
    · have hc : (m : Int) < 4 := by omega
      have hnx := Lib.hid (next_any R ys wr hr)
      have hn4 : n < 4096 := by
        have : 16 ^ m ≤ 16 ^ 3 := Nat.pow_le_pow_right (by omega) (by omega)
        omega
      clear hr
      cases hv : hexV (nextB ys) with
      | none =>
        have hF : Hid (res = none) := by
          show _ = _
          rw [he.out, show 4 - m = (3 - m) + 1 by omega]
          cases ys with
          | nil => rfl
          | cons c r => simp only [codeF]; rw [show hexV c = none from hv]
        have hd : Hid (∀ w, Calls Tryd.prog 87 #[.int .u8 ((nextB ys).toNat : Int)] w fun e w' => e = .returned (.tuple #[.int .i32 0, .bool false]) ∧ w' = w) := fun w => by
          unfold hexV at hv
          split at hv
          · cases hv
          · split at hv
            · cases hv
            · split at hv
              · cases hv
              · rename_i a1 a2 a3
                exact digit_no _ (nextB ys).toNat_lt a1 a2 a3 w
        clear hv he
        go_wp2_with (first
          | (go_at_call 69; refine hnx.out.mono ?_; rintro e w2 ⟨rfl, hr2, hg2⟩)
          | (go_at_call 87; refine (hd.out _).mono ?_; rintro e w3 ⟨rfl, rfl⟩))
        go_ret2
        show CodeRes _ _ _ _ _
        rw [hF.out]
        exact ⟨gb_trans hg.out hg2, rfl⟩
      | some d =>
        have hd16 := hexV_lt hv
        have hne : ∃ c r, ys = c :: r := by
          cases ys with
          | nil => rw [show nextB [] = 0 from rfl, show hexV 0 = none by decide] at hv; cases hv
          | cons c r => exact ⟨c, r, rfl⟩
        obtain ⟨c, r, rfl⟩ := hne
        have hF : Hid (res = codeF (4 - (m + 1)) (n * 16 + d) r) := by
          show _ = _
          rw [he.out, show 4 - m = (4 - (m + 1)) + 1 by omega]
          simp only [codeF]
          rw [show hexV c = some d from hv]
        have hd : Hid (∀ w, Calls Tryd.prog 87 #[.int .u8 ((nextB (c :: r)).toNat : Int)] w fun e w' => e = .returned (.tuple #[.int .i32 (d : Int), .bool true]) ∧ w' = w) := fun w => by
          refine digit_yes _ d (nextB (c :: r)).toNat_lt ?_ w
          unfold hexV at hv
          split at hv
          · cases hv; omega
          · split at hv
            · cases hv; omega
            · split at hv
              · cases hv; omega
              · cases hv
        have hor := shl_or n d (by omega) hd16
        have hpw : n * 16 + d < 16 ^ (m + 1) := by rw [Nat.pow_succ]; omega
        push_cast at hor
        clear hv he
        go_wp2_with (first
          | (go_at_call 69; refine hnx.out.mono ?_; rintro e w2 ⟨rfl, hr2, hg2⟩)
          | (go_at_call 87; refine (hd.out _).mono ?_; rintro e w3 ⟨rfl, rfl⟩))
        go_roundw
        case rel => exact ⟨m + 1, n * 16 + d, r, by omega, by go_num, by push_cast; rfl, hpw, hr2, gb_trans hg.out hg2, hF.out⟩
        case measure => simp [intOf]; omega
    · have hc : ¬ (m : Int) < 4 := by omega
      have hm4 : m = 4 := by omega
      have HF : Hid (res = some (n, ys)) := by show _ = _; rw [he.out, hm4]; rfl
      have HR := Lib.hid hr
      have hn4 : Hid (n < 65536) := by show _ < _; rw [hm4] at hn; omega
      clear hm4 hm hlt hr hn
      go_wp2
      go_ret2
      show CodeRes _ _ _ _ _
      rw [HF.out]
      exact ⟨hg.out, rfl, HR.out, hn4.out⟩
end Go.Proofs.YtiadfijeglbdlaaDoor

namespace Go.Proofs.YtiadfijeglbdlaaDoor
open Go.RowKit

/-- five cells of a value that has no others in it -/
def flatC (k : Int) (s : List UInt8) (n : Nat) : List Value := [.int .i64 k, .string (bstr s), .int .u64 (n : Int), .slice none 0 0, .slice none 0 0]
/-- what begins: its kind, 0 where none does -/
def openF (xs : List UInt8) : Nat × List UInt8 := if (takeF 91 xs).1 then (5, (takeF 91 xs).2) else if (takeF 123 (takeF 91 xs).2).1 then (6, (takeF 123 (takeF 91 xs).2).2) else (0, (takeF 123 (takeF 91 xs).2).2)

theorem gb_new_row {w w2 w3 : World} {R : Nat} {x : Obj} (h2 : (w.alloc x).grownBy w2 (some R)) (h3 : w2.grownBy w3 (some w.heap.size)) : w.grownBy w3 (some R) := by
  have hb : Below w.heap.size w (w.alloc x) := (Below.refl w.heap.size w).alloc (Nat.le_refl _) x
  have h1 := gb hb (some R)
  have h2' := gb_trans h1 h2
  exact ⟨h3.os.trans h2'.os, h3.tape.trans h2'.tape, h3.output.trans h2'.output, Nat.le_trans h2'.size h3.size, fun i hi hr => (h3.block i (Nat.lt_of_lt_of_le hi h2'.size) (by intro e; cases e; omega)).trans (h2'.block i hi hr)⟩
theorem flat_store (old : List Value) (ho : old.length = 5) (k : Int) (s : List UInt8) (n : Nat) : old.take 0 ++ flatC k s n ++ old.drop (0 + (flatC k s n).length) = flatC k s n := whole_store _ _ (by rw [ho]; rfl)

set_option maxRecDepth 100000 in
set_option maxHeartbeats 3200000 in
theorem opening_any (R : Nat) (xs : List UInt8) (w : World) (h : RdAt w R xs) :
    Calls Tryd.prog 47 #[.pointer (some ⟨R, 0, none⟩)] w fun e w' => e = .returned (.tuple #[.agg (flatC (openF xs).1 [] 0).toArray, .bool ((openF xs).1 != 0)]) ∧ RdAt w' R (openF xs).2 ∧ w.grownBy w' (some R) := by
  have hRw := h.lt
  have h0 := h.kept (gb ((Below.refl w.heap.size w).alloc (Nat.le_refl _) (.cells #[.int .i64 0, .string ⟨#[]⟩, .int .u64 0, .slice none 0 0, .slice none 0 0] 30)) none) (by simp)
  have ht1 := Lib.hid (take_any R 91 xs _ h0)
  have ht2 := Lib.hid (fun ys => take_any R 123 ys)
  have hR0 := Arr.new w 30 [.int .i64 0, .string ⟨#[]⟩, .int .u64 0, .slice none 0 0, .slice none 0 0]
  generalize he1 : takeF 91 xs = p1 at ht1
  obtain ⟨b1, y1⟩ := p1
  cases b1 with
  | true =>
    have hF : openF xs = (5, y1) := by unfold openF; rw [he1]; rfl
    rw [hF]
    clear he1 hF h h0
    go_enter Tryd.func47, Tryd.ntmps47
    go_wp2_with (first
      | (go_at_call 49; refine ht1.out.mono ?_; rintro e w2 ⟨rfl, hr2, hg2⟩; have hR2 := hR0.grown hg2 (by intro e; cases e; omega))
      | ((with_reducible show wpList _ _ _ (⟨none, _, _, _, _, _⟩ :: _) _ _); refine wl_store rfl 30 _ _ rfl w.heap.size 0 rfl (flatC 5 [] 0) rfl 30 _ hR2 (by kernel_rfl) (by simp [flatC]) (by simp [flatC, Value.oneCell']) ?_; intro w3 hR3 hg3 hs3))
    rw [flat_store _ rfl] at hR3
    exact end_cell2 rfl w.heap.size 30 _ _ _ rfl hR3 Tryd.underlying30 rfl (by kernel_rfl) rfl rfl ⟨rfl, hr2.kept hg3 (by intro k hk; cases hk; exact hRw), gb_new_row hg2 hg3⟩
  | false =>
    generalize he2 : takeF 123 y1 = p2
    obtain ⟨b2, y2⟩ := p2
    cases b2 with
    | true =>
      have hF : openF xs = (6, y2) := by unfold openF; rw [he1]; simp [he2]
      rw [hF]
      have HE2 := Lib.hid he2
      clear he1 hF h h0 he2
      go_enter Tryd.func47, Tryd.ntmps47
      go_wp2_with (first
        | (go_at_call 49; refine ht1.out.mono ?_; rintro e w2 ⟨rfl, hr2, hg2⟩; have hT2 := Lib.hid (ht2.out _ _ hr2); rw [HE2.out] at hT2; have HR2 := Lib.hid (hR0.grown hg2 (by intro e; cases e; omega)); have HG2 := Lib.hid hg2; clear ht1 hR0)
        | (go_at_call 49; refine hT2.out.mono ?_; rintro e w3 ⟨rfl, hr3, hg3⟩; have hR3 := HR2.out.grown hg3 (by intro e; cases e; omega))
        | ((with_reducible show wpList _ _ _ (⟨none, _, _, _, _, _⟩ :: _) _ _); refine wl_store rfl 30 _ _ rfl w.heap.size 0 rfl (flatC 6 [] 0) rfl 30 _ hR3 (by kernel_rfl) (by simp [flatC]) (by simp [flatC, Value.oneCell']) ?_; intro w4 hR4 hg4 hs4))
      rw [flat_store _ rfl] at hR4
      exact end_cell2 rfl w.heap.size 30 _ _ _ rfl hR4 Tryd.underlying30 rfl (by kernel_rfl) rfl rfl ⟨rfl, hr3.kept hg4 (by intro k hk; cases hk; exact hRw), gb_new_row (gb_trans HG2.out hg3) hg4⟩
    | false =>
      have hF : openF xs = (0, y2) := by unfold openF; rw [he1]; simp [he2]
      rw [hF]
      have HE2 := Lib.hid he2
      clear he1 hF h h0 he2
      go_enter Tryd.func47, Tryd.ntmps47
      go_wp2_with (first
        | (go_at_call 49; refine ht1.out.mono ?_; rintro e w2 ⟨rfl, hr2, hg2⟩; have hT2 := Lib.hid (ht2.out _ _ hr2); rw [HE2.out] at hT2; have HR2 := Lib.hid (hR0.grown hg2 (by intro e; cases e; omega)); have HG2 := Lib.hid hg2; clear ht1 hR0)
        | (go_at_call 49; refine hT2.out.mono ?_; rintro e w3 ⟨rfl, hr3, hg3⟩; have hR3 := HR2.out.grown hg3 (by intro e; cases e; omega))
        | ((with_reducible show wpList _ _ _ (⟨none, _, _, _, _, _⟩ :: _) _ _); refine wl_store rfl 30 _ _ rfl w.heap.size 0 rfl (flatC 0 [] 0) rfl 30 _ hR3 (by kernel_rfl) (by simp [flatC]) (by simp [flatC, Value.oneCell']) ?_; intro w4 hR4 hg4 hs4))
      rw [flat_store _ rfl] at hR4
      exact end_cell2 rfl w.heap.size 30 _ _ _ rfl hR4 Tryd.underlying30 rfl (by kernel_rfl) rfl rfl ⟨rfl, hr3.kept hg4 (by intro k hk; cases hk; exact hRw), gb_new_row (gb_trans HG2.out hg3) hg4⟩
end Go.Proofs.YtiadfijeglbdlaaDoor

namespace Go.Proofs.YtiadfijeglbdlaaDoor
open Go.RowKit

theorem fold_ge (l : List UInt8) : ∀ acc : Nat, acc ≤ l.foldl (fun n c => 10 * n + (c.toNat - 48)) acc := by
  induction l with
  | nil => intro acc; exact Nat.le_refl _
  | cons c r ih => intro acc; rw [List.foldl_cons]; exact Nat.le_trans (by omega) (ih _)
theorem parse_fold (l : List UInt8) : ∀ acc : Nat, (∀ c ∈ l, isDigit c = true) → acc < 18446744073709551616 → Lib.parseUintM (2 ^ 64 - 1) acc l = if l.foldl (fun n c => 10 * n + (c.toNat - 48)) acc < 18446744073709551616 then .ok (l.foldl (fun n c => 10 * n + (c.toNat - 48)) acc) else .range := by
  induction l with
  | nil => intro acc _ ha; rw [List.foldl_nil, if_pos ha]; rfl
  | cons c r ih =>
    intro acc hd ha
    have hc := hd c (List.mem_cons_self ..)
    have hc1 : 48 ≤ c.toNat ∧ c.toNat ≤ 57 := by simpa [isDigit] using hc
    unfold Lib.parseUintM
    rw [if_pos hc1, List.foldl_cons]
    have hge := fold_ge r (10 * acc + (c.toNat - 48))
    split
    · rw [if_neg (by omega)]
    · split
      · rw [if_neg (by omega)]
      · rw [show acc * 10 + (c.toNat - 48) = 10 * acc + (c.toNat - 48) by omega]
        exact ih _ (fun d hd' => hd d (List.mem_cons_of_mem _ hd')) (by omega)
theorem parse_digits (l : List UInt8) (h : ∀ c ∈ l, isDigit c = true) : Lib.parseUintB 64 l = if l = [] then Lib.NumEnd.syntax else if valD l < 18446744073709551616 then .ok (valD l) else .range := by
  unfold Lib.parseUintB
  split
  · rfl
  · exact parse_fold l 0 h (by omega)

/-- strconv.ParseUint of digits -/
theorem parse_any (l : List UInt8) (h : ∀ c ∈ l, isDigit c = true) (hl : l.length ≤ 281474976710656) (w : World) (hT : Tabs w) :
    Calls Tryd.prog 77 #[.string (bstr l), .int .i64 10, .int .i64 64] w fun e w' => Below w.heap.size w w' ∧
      ((l ≠ [] ∧ valD l < 18446744073709551616 ∧ e = .returned (.tuple #[.int .u64 (valD l : Int), .nilIface])) ∨ (¬ (l ≠ [] ∧ valD l < 18446744073709551616) ∧ ∃ (u : Int) (t : TypeId) (p : Value), e = .returned (.tuple #[.int .u64 u, .iface t p]))) := by
  have hp := parse_digits l h
  have hsz := bstr_size l
  rw [← bstr_data l] at hp
  by_cases h0 : l = []
  · rw [if_pos (by rw [bstr_data]; exact h0)] at hp
    obtain ⟨te, pe, he⟩ := hT.syn
    refine (Tryd.strconv_ParseUint_10_at64_syntax (bstr l) (by rw [hsz]; exact hl) hp _ w he (.inr ⟨te, pe, rfl⟩)).mono ?_
    rintro e w' ⟨N, rfl, -, -, hb⟩
    exact ⟨hb, .inr ⟨fun hh => hh.1 h0, _, _, _, rfl⟩⟩
  · rw [if_neg (by rw [bstr_data]; exact h0), bstr_data] at hp
    by_cases hv : valD l < 18446744073709551616
    · rw [if_pos hv] at hp
      refine (Tryd.strconv_ParseUint_10_at64_ok (bstr l) (by rw [hsz]; omega) _ (by rw [bstr_data]; exact hp) w).mono ?_
      rintro e w' ⟨rfl, hw⟩
      refine ⟨?_, .inl ⟨h0, hv, rfl⟩⟩
      rcases hw with rfl | rfl
      · exact Below.refl _ _
      · exact Lib.bytesWorld_below _ _ _
    · rw [if_neg hv] at hp
      obtain ⟨te, pe, he⟩ := hT.rng
      refine (Tryd.strconv_ParseUint_10_at64_range (bstr l) (by rw [hsz]; exact hl) (by rw [bstr_data]; exact hp) _ w he (.inr ⟨te, pe, rfl⟩)).mono ?_
      rintro e w' ⟨N, rfl, -, -, hb⟩
      exact ⟨hb, .inr ⟨fun hh => hv hh.2, _, _, _, rfl⟩⟩

/-- what a reader of values without others answers: kind, string, number, what is left -/
def FlatRes (res : Option (Nat × List UInt8 × Nat × List UInt8)) (w : World) (R : Nat) (e : Ending) (w' : World) : Prop :=
  w.grownBy w' (some R) ∧ match res with
  | some (k, s, n, r) => e = .returned (.tuple #[.agg (flatC (k : Int) s n).toArray, .bool true]) ∧ RdAt w' R r
  | none => ∃ (k : Int) (s : List UInt8) (n : Nat), e = .returned (.tuple #[.agg (flatC k s n).toArray, .bool false])

theorem span_split (xs : List UInt8) : xs = (spanD xs).1 ++ (spanD xs).2 ∧ (∀ c ∈ (spanD xs).1, isDigit c = true) ∧ (∀ c r, (spanD xs).2 = c :: r → isDigit c = false) := by
  induction xs with
  | nil => exact ⟨rfl, fun c hc => (nomatch hc), fun c r h => by cases h⟩
  | cons c r ih =>
    unfold spanD
    split
    · rename_i hc
      obtain ⟨h1, h2, h3⟩ := ih
      refine ⟨by simpa using h1, fun d hd => ?_, h3⟩
      rcases List.mem_cons.1 hd with rfl | hd
      · exact hc
      · exact h2 d hd
    · rename_i hc
      refine ⟨rfl, fun d hd => (nomatch hd), fun d r' h => ?_⟩
      cases h
      simpa using hc
theorem run_str0 (p : Option Addr) (c : Nat) (w : World) : (convert 32 9 (.slice p 0 c)).run Tryd.prog w = .ok (.string (bstr [])) w := by
  cases p with
  | none =>
    rw [run_convert_bytes_nil w 32 5 (by kernel_rfl) (by kernel_rfl) 0 c 9 (by kernel_rfl)]
    rfl
  | some ad =>
    have hl0 : (loadCells ad 0).run Tryd.prog w = .ok #[] w := by simp [loadCells, loadCellsFrom]
    rw [run_convert_bytes_string w 32 9 5 _ 0 c (by kernel_rfl) (by kernel_rfl) (by kernel_rfl), run_bytesToString w _ 0 c [] (by simpa using hl0)]
    rfl

/-- the reader's text as long as numbers are looked at: the first n bytes are digits, what is next is none -/
structure Span (w : World) (a : Option Addr) (c : Nat) (xs ds rest : List UInt8) : Prop where
  split : xs = ds ++ rest
  dig : ∀ c ∈ ds, isDigit c = true
  stop : ∀ c r, rest = c :: r → isDigit c = false
theorem Span.digit {w : World} {a : Option Addr} {c : Nat} {xs ds rest : List UInt8} (h : Span w a c xs ds rest) (m : Nat) (hm : m < ds.length) : m < xs.length ∧ 48 ≤ ((xs.getD m 0).toNat : Int) ∧ ((xs.getD m 0).toNat : Int) ≤ 57 := by
  have e : xs.getD m 0 = ds[m] := by
    rw [h.split]
    simp [List.getD, List.getElem?_append_left hm, hm]
  have := h.dig ds[m] (List.getElem_mem hm)
  rw [e]
  have h2 : 48 ≤ ds[m].toNat ∧ ds[m].toNat ≤ 57 := by simpa [isDigit] using this
  refine ⟨by rw [h.split, List.length_append]; omega, by omega, by omega⟩
theorem Span.stops {w : World} {a : Option Addr} {c : Nat} {xs ds rest : List UInt8} (h : Span w a c xs ds rest) : xs.length = ds.length ∨ (ds.length < xs.length ∧ ((xs.getD ds.length 0).toNat : Int) < 48) ∨ (ds.length < xs.length ∧ 57 < ((xs.getD ds.length 0).toNat : Int)) := by
  cases hr : rest with
  | nil => left; rw [h.split, hr]; simp
  | cons d r =>
    right
    have e : xs.getD ds.length 0 = d := by rw [h.split, hr]; simp [List.getD]
    have := h.stop d r hr
    have h2 : ¬ (48 ≤ d.toNat ∧ d.toNat ≤ 57) := by simpa [isDigit] using this
    have hl : ds.length < xs.length := by rw [h.split, hr]; simp
    rw [e]
    by_cases h3 : d.toNat < 48
    · exact .inl ⟨hl, by omega⟩
    · exact .inr ⟨hl, by omega⟩

set_option maxRecDepth 100000 in
set_option maxHeartbeats 6400000 in
/-- no digits -/
theorem number_none (R : Nat) (xs rest : List UInt8) (w : World) (h : RdAt w R xs) (hT : Tabs w) (hsp : ∀ a c, Span w a c xs [] rest) :
    Calls Tryd.prog 62 #[.pointer (some ⟨R, 0, none⟩)] w (FlatRes none w R) := by
  have hRw := h.lt
  have hB1 : Below w.heap.size w (w.alloc (.cells #[.int .i64 0, .string ⟨#[]⟩, .int .u64 0, .slice none 0 0, .slice none 0 0] 30)) := (Below.refl w.heap.size w).alloc (Nat.le_refl _) _
  have hR0 := Arr.new w 30 [.int .i64 0, .string ⟨#[]⟩, .int .u64 0, .slice none 0 0, .slice none 0 0]
  obtain ⟨a, c, hA, hX⟩ := h.kept (gb hB1 none) (by simp)
  have HT1 := Lib.hid (hT.to hB1)
  have hpu : Hid (∀ W, Tabs W → Calls Tryd.prog 77 #[.string (bstr []), .int .i64 10, .int .i64 64] W fun e w' => Below W.heap.size W w' ∧ ∃ (u : Int) (t : TypeId) (p : Value), e = .returned (.tuple #[.int .u64 u, .iface t p])) := fun W hW => by
    refine (parse_any [] (fun c hc => (nomatch hc)) (by simp) W hW).mono ?_
    rintro e w' ⟨hb, hh | hh⟩
    · exact absurd rfl hh.1
    · exact ⟨hb, hh.2⟩
  have hstr := run_str0
  have hxs := (hsp a c).stops
  rw [List.length_nil] at hxs
  have c0 := (hA.cell 0).trans (show _ = some (Value.slice a xs.length c) from rfl)
  have hle := hX.le
  have hbig := hX.big
  have hd0 : 0 < xs.length → ∃ b off, a = some ⟨b, off, none⟩ ∧ (w.alloc (.cells #[.int .i64 0, .string ⟨#[]⟩, .int .u64 0, .slice none 0 0, .slice none 0 0] 30)).cell? ⟨b, off, none⟩ = some (.int .u8 ((xs.getD 0 0).toNat : Int)) := fun h0 => by
    obtain ⟨b, off, e, -, -, h3⟩ := hX.mem h0
    exact ⟨b, off, e, h3 0 h0⟩
  clear h hA hX hT hsp
  generalize xs.getD 0 0 = x0 at *
  rcases hxs with hx | ⟨hx, hy⟩ | ⟨hx, hy⟩
  case' inl => have hx1 : ¬ (0 : Int) < (xs.length : Int) := by omega
  case' inr.inl => obtain ⟨b, off, rfl, d0⟩ := hd0 hx; have hx1 : (0 : Int) < (xs.length : Int) := (by omega); have hy1 : ¬ (48 : Int) ≤ (x0.toNat : Int) := by omega
  case' inr.inr => obtain ⟨b, off, rfl, d0⟩ := hd0 hx; have hx1 : (0 : Int) < (xs.length : Int) := (by omega); have hy1 : (48 : Int) ≤ (x0.toNat : Int) := (by omega); have hy2 : ¬ (x0.toNat : Int) ≤ 57 := by omega
  all_goals
    clear hd0
    go_enter Tryd.func62, Tryd.ntmps62
    go_upto_region 2 with fail
    go_loopw [4] (fun v wr => v = .int .i64 0 ∧ wr = w.alloc (.cells #[.int .i64 0, .string ⟨#[]⟩, .int .u64 0, .slice none 0 0, .slice none 0 0] 30)) (fun _ _ => 0)
    case atStart => exact ⟨rfl, rfl⟩
    case round =>
      obtain ⟨rfl, rfl⟩ := hrel
      go_wp2_with (first
        | (go_at_call 77; refine (hpu.out _ HT1.out).mono ?_; rintro e w2 ⟨hb2, u, t, p, rfl⟩; have hR2 := hR0.kept hb2)
        | ((with_reducible show wpList _ _ _ (⟨none, _, _, _, _, _⟩ :: _) _ _); refine wl_store rfl 30 _ _ rfl w.heap.size 0 rfl (flatC 0 [] 0) rfl 30 _ hR2 (by kernel_rfl) (by simp [flatC]) (by simp [flatC, Value.oneCell']) ?_; intro w4 hR4 hg4 hs4))
      rw [flat_store _ rfl] at hR4
      exact end_cell2 rfl w.heap.size 30 _ _ _ rfl hR4 Tryd.underlying30 rfl (by kernel_rfl) rfl rfl ⟨gb_new_row (gb hb2 _) hg4, 0, [], 0, rfl⟩
end Go.Proofs.YtiadfijeglbdlaaDoor
