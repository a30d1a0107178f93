/-
  A scope with many labels; the program's code: four digits to the base 16. Conditions: those in each statement.
-/
import Derived.Test.YtehlgflpkofooaaDoorJvG
import Derived.WalkMore
import Derived.ScopeJumps
namespace Go.Proofs.YtehlgflpkofooaaDoor
open Go.RowKit

/-- by a goto to a label: J of it -/
def jumps (J : Nat → Act → World → Prop) (Q : Exit → Act → World → Prop) : Exit → Act → World → Prop
  | .goto l, a, w => J l a w
  | e, a, w => Q e a w
theorem jumps_goto {J : Nat → Act → World → Prop} {Q : Exit → Act → World → Prop} {l : Nat} {a : Act} {w : World} (h : J l a w) : jumps J Q (.goto l) a w := h
theorem jumps_ret {J : Nat → Act → World → Prop} {Q : Exit → Act → World → Prop} {a : Act} {w : World} (h : Q .ret a w) : jumps J Q .ret a w := h
theorem jumps_panic {J : Nat → Act → World → Prop} {Q : Exit → Act → World → Prop} {a : Act} {w : World} {c : List PanicEntry} (h : Q (.panic c) a w) : jumps J Q (.panic c) a w := h
/-- a scope in which the run jumps to its labels: what holds at each of them, at a number that every way from one to the next one lowers -/
theorem wp_scope_labels {P : Program} {a : Act} {w : World} {Q : Exit → Act → World → Prop} {c : Code} (rest : Nat → Code) (J : Nat → Nat → Act → World → Prop) (hf : ∀ l n a w, J l n a w → findLabel c l = some (rest l))
    (first : c.wp P (jumps (fun l a w => ∃ n, J l n a w) Q) a w)
    (pass : ∀ l n a w, J l n a w → (rest l).wp P (jumps (fun l' a' w' => ∃ n', n' < n ∧ J l' n' a' w') Q) a w) : (Code.scope c).wp P Q a w := by
  intro b k cs
  have key : ∀ n l a w, J l n a w → ∃ e a' w', Q e a' w' ∧ Arrives P (lone (b.at a (.code (rest l) :: .inScope c :: k)) cs w) b k cs e a' w' := by
    intro n
    induction n using Nat.strongRecOn with
    | _ n ih =>
      intro l a w hJ
      obtain ⟨e, a₁, w₁, hq, harr⟩ := pass l n a w hJ b (.inScope c :: k) cs
      cases e with
      | normal => exact ⟨.normal, a₁, w₁, hq, Steps.trans harr (.one step_inScope)⟩
      | exit id => exact ⟨.exit id, a₁, w₁, hq, fun k' hk => harr k' (by simp [exitTo, hk])⟩
      | goto l' =>
        obtain ⟨n', hlt, hJ'⟩ := hq
        obtain ⟨e₂, a₂, w₂, hq₂, harr₂⟩ := ih n' hlt l' a₁ w₁ hJ'
        have hg : gotoIn l' (.inScope c :: k) = some (.code (rest l') :: .inScope c :: k) := by simp [gotoIn, hf _ _ _ _ hJ']
        exact ⟨e₂, a₂, w₂, hq₂, .of_steps (harr _ hg) harr₂⟩
      | ret => exact ⟨_, a₁, w₁, hq, harr⟩
      | panic ch => exact ⟨_, a₁, w₁, hq, harr⟩
      | outgrown => exact ⟨_, a₁, w₁, hq, harr⟩
  obtain ⟨e, a₁, w₁, hq, harr⟩ := first b (.inScope c :: k) cs
  cases e with
  | normal => exact ⟨.normal, a₁, w₁, hq, .head step_scope (Steps.trans harr (.one step_inScope))⟩
  | exit id => exact ⟨.exit id, a₁, w₁, hq, fun k' hk => .head step_scope (harr k' (by simp [exitTo, hk]))⟩
  | goto l' =>
    obtain ⟨n', hJ'⟩ := hq
    obtain ⟨e₂, a₂, w₂, hq₂, harr₂⟩ := key n' l' a₁ w₁ hJ'
    have hg : gotoIn l' (.inScope c :: k) = some (.code (rest l') :: .inScope c :: k) := by simp [gotoIn, hf _ _ _ _ hJ']
    exact ⟨e₂, a₂, w₂, hq₂, .of_steps (.head step_scope (harr _ hg)) harr₂⟩
  | ret => exact ⟨_, a₁, w₁, hq, .of_steps (.one step_scope) harr⟩
  | panic ch => exact ⟨_, a₁, w₁, hq, .of_steps (.one step_scope) harr⟩
  | outgrown => exact ⟨_, a₁, w₁, hq, .of_steps (.one step_scope) harr⟩

/-- so many digits more -/
def codeF : Nat → Nat → List UInt8 → Option (Nat × List UInt8)
  | 0, n, xs => some (n, xs)
  | _ + 1, _, [] => none
  | k + 1, n, c :: r => match hexV c with | none => none | some d => codeF k (n * 16 + d) r
theorem four_code (xs : List UInt8) : fourF xs = codeF 4 0 xs := by
  match xs with
  | [] => rfl
  | [a] => simp only [codeF]; unfold fourF; cases hexV a <;> rfl
  | [a, b] => simp only [codeF]; unfold fourF; cases hexV a <;> simp; cases hexV b <;> rfl
  | [a, b, c] => simp only [codeF]; unfold fourF; cases hexV a <;> simp; cases hexV b <;> simp; cases hexV c <;> rfl
  | a :: b :: c :: d :: r =>
    simp only [codeF, fourF]
    cases ha : hexV a <;> cases hb : hexV b <;> cases hc : hexV c <;> cases hd : hexV d <;> simp
theorem hexV_lt {c : UInt8} {d : Nat} (h : hexV c = some d) : d < 16 := by
  unfold hexV at h
  split at h
  · cases h; omega
  · split at h
    · cases h; omega
    · split at h
      · cases h; omega
      · cases h
theorem bits_or_i32_nat (a b : Nat) (ha : a < 2147483648) (hb : b < 2147483648) : bits .or .i32 (a : Int) (b : Int) = ((a ||| b : Nat) : Int) := by
  have hx : a ||| b < 2 ^ 31 := Nat.or_lt_two_pow (by omega) (by omega)
  have h1 : (BitVec.ofInt 32 (a : Int)).toNat = a := by
    rw [BitVec.ofInt_natCast, BitVec.toNat_ofNat]; exact Nat.mod_eq_of_lt (by omega)
  have h2 : (BitVec.ofInt 32 (b : Int)).toNat = b := by
    rw [BitVec.ofInt_natCast, BitVec.toNat_ofNat]; exact Nat.mod_eq_of_lt (by omega)
  show IntKind.i32.wrap ((BitVec.ofInt 32 (a : Int) ||| BitVec.ofInt 32 (b : Int)).toNat : Int) = _
  rw [BitVec.toNat_or, h1, h2, IntKind.wrap_i32]
  omega
theorem shl_or (n d : Nat) (hn : n < 65536) (hd : d < 16) : bits .or .i32 ((n * 16 : Nat) : Int) (d : Int) = ((n * 16 + d : Nat) : Int) := by
  rw [bits_or_i32_nat _ _ (by omega) (by omega)]
  have := Nat.two_pow_add_eq_or_of_lt (i := 4) (b := d) (by omega) n
  rw [show (2 : Nat) ^ 4 * n = n * 16 by omega] at this
  rw [← this]

/-- what code answers -/
def CodeRes (res : Option (Nat × List UInt8)) (w : World) (R : Nat) (e : Ending) (w' : World) : Prop :=
  w.grownBy w' (some R) ∧ match res with
      | some (n, r) => e = .returned (.tuple #[.int .i32 (n : Int), .bool true]) ∧ RdAt w' R r ∧ n < 65536
      | none => e = .returned (.tuple #[.int .i32 0, .bool false])
set_option maxHeartbeats 1600000 in
theorem code_any (R : Nat) (xs : List UInt8) (w : World) (h : RdAt w R xs) :
    Calls Tryd.prog 71 #[.pointer (some ⟨R, 0, none⟩)] w (CodeRes (fourF xs) w R) := by
  rw [four_code]
  obtain ⟨res, hres⟩ : ∃ res, res = codeF 4 0 xs := ⟨_, rfl⟩
  rw [← hres]
  have HRES := Lib.hid hres
  clear hres
  go_enter Tryd.func71, Tryd.ntmps71
  go_upto_region 3 with fail
  go_loopw [4, 7] (fun nv i wr => ∃ (m n : Nat) (ys : List UInt8), m ≤ 4 ∧ i = .int .i64 m ∧ nv = .int .i32 n ∧ n < 16 ^ m ∧ RdAt wr R ys ∧ Hid (w.grownBy wr (some R)) ∧ Hid (res = codeF (4 - m) n ys)) (fun _ i _ => 4 - (intOf i).toNat)
  case atStart => exact ⟨0, 0, xs, by omega, rfl, rfl, by omega, h, World.grownBy.refl _ _, HRES.out⟩
  case round =>
    clear h
    obtain ⟨m, n, ys, hm, rfl, rfl, hn, hr, hg, he⟩ := hrel
    by_cases hlt : m < 4
    · have hc : (m : Int) < 4 := by omega
      have hnx := Lib.hid (next_any R ys wr hr)
      have hn4 : n < 4096 := by
        have : 16 ^ m ≤ 16 ^ 3 := Nat.pow_le_pow_right (by omega) (by omega)
        omega
      clear hr
      cases hv : hexV (nextB ys) with
      | none =>
        have hF : Hid (res = none) := by
          show _ = _
          rw [he.out, show 4 - m = (3 - m) + 1 by omega]
          cases ys with
          | nil => rfl
          | cons c r => simp only [codeF]; rw [show hexV c = none from hv]
        have hd : Hid (∀ w, Calls Tryd.prog 87 #[.int .u8 ((nextB ys).toNat : Int)] w fun e w' => e = .returned (.tuple #[.int .i32 0, .bool false]) ∧ w' = w) := fun w => by
          unfold hexV at hv
          split at hv
          · cases hv
          · split at hv
            · cases hv
            · split at hv
              · cases hv
              · rename_i a1 a2 a3
                exact digit_no _ (nextB ys).toNat_lt a1 a2 a3 w
        clear hv he
        go_wp2_with (first
          | (go_at_call 69; refine hnx.out.mono ?_; rintro e w2 ⟨rfl, hr2, hg2⟩)
          | (go_at_call 87; refine (hd.out _).mono ?_; rintro e w3 ⟨rfl, rfl⟩))
        go_ret2
        show CodeRes _ _ _ _ _
        rw [hF.out]
        exact ⟨gb_trans hg.out hg2, rfl⟩
      | some d =>
        have hd16 := hexV_lt hv
        have hne : ∃ c r, ys = c :: r := by
          cases ys with
          | nil => rw [show nextB [] = 0 from rfl, show hexV 0 = none by decide] at hv; cases hv
          | cons c r => exact ⟨c, r, rfl⟩
        obtain ⟨c, r, rfl⟩ := hne
        have hF : Hid (res = codeF (4 - (m + 1)) (n * 16 + d) r) := by
          show _ = _
          rw [he.out, show 4 - m = (4 - (m + 1)) + 1 by omega]
          simp only [codeF]
          rw [show hexV c = some d from hv]
        have hd : Hid (∀ w, Calls Tryd.prog 87 #[.int .u8 ((nextB (c :: r)).toNat : Int)] w fun e w' => e = .returned (.tuple #[.int .i32 (d : Int), .bool true]) ∧ w' = w) := fun w => by
          refine digit_yes _ d (nextB (c :: r)).toNat_lt ?_ w
          unfold hexV at hv
          split at hv
          · cases hv; omega
          · split at hv
            · cases hv; omega
            · split at hv
              · cases hv; omega
              · cases hv
        have hor := shl_or n d (by omega) hd16
        have hpw : n * 16 + d < 16 ^ (m + 1) := by rw [Nat.pow_succ]; omega
        push_cast at hor
        clear hv he
        go_wp2_with (first
          | (go_at_call 69; refine hnx.out.mono ?_; rintro e w2 ⟨rfl, hr2, hg2⟩)
          | (go_at_call 87; refine (hd.out _).mono ?_; rintro e w3 ⟨rfl, rfl⟩))
        go_roundw
        case rel => exact ⟨m + 1, n * 16 + d, r, by omega, by go_num, by push_cast; rfl, hpw, hr2, gb_trans hg.out hg2, hF.out⟩
        case measure => simp [intOf]; omega
    · have hc : ¬ (m : Int) < 4 := by omega
      have hm4 : m = 4 := by omega
      have HF : Hid (res = some (n, ys)) := by show _ = _; rw [he.out, hm4]; rfl
      have HR := Lib.hid hr
      have hn4 : Hid (n < 65536) := by show _ < _; rw [hm4] at hn; omega
      clear hm4 hm hlt hr hn
      go_wp2
      go_ret2
      show CodeRes _ _ _ _ _
      rw [HF.out]
      exact ⟨hg.out, rfl, HR.out, hn4.out⟩
end Go.Proofs.YtehlgflpkofooaaDoor
