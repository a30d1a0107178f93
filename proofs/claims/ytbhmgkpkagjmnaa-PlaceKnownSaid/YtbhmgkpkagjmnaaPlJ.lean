/-
  Layer 7: covers, plainly, as the program has them. Conditions: those in each statement.
-/
import Derived.Test.YtbhmgkpkagjmnaaPlI
namespace Go.Proofs.Ytbhmgkpkagjmnaa
open Go.RowKit

/-- the nodes from f on, at most so many -/
def covGo (t : Nat) : Nat → Nat → List (Nat × Nat)
  | 0, _ => []
  | n + 1, f => if f < t then (lvl f t, f / 2 ^ lvl f t) :: covGo t n (f + 2 ^ lvl f t) else []
theorem covGo_end {t n f : Nat} (h : t ≤ f) : covGo t n f = [] := by
  cases n with
  | zero => rfl
  | succ n => simp only [covGo, if_neg (show ¬ f < t by omega)]
theorem covGo_more {t n f : Nat} (h : f < t) (hn : t - f ≤ n) : ∃ m, n = m + 1 ∧ t - (f + 2 ^ lvl f t) ≤ m ∧ covGo t n f = (lvl f t, f / 2 ^ lvl f t) :: covGo t m (f + 2 ^ lvl f t) := by
  have := Nat.two_pow_pos (lvl f t)
  exact ⟨n - 1, by omega, by omega, by rw [show n = (n - 1) + 1 by omega, covGo, if_pos h, Nat.add_sub_cancel]⟩
def okC (f t : Int) : Bool := decide (f ≤ t) && decide (t ≤ 1048576)
/-- a cover -/
def covF (f t : Int) : List (Nat × Nat) := if okC f t then covGo t.toNat (t.toNat - f.toNat) f.toNat else []
def ceV (f t : Int) : Int := if okC f t then 0 else 1
theorem okC_no {f t : Int} (h : okC f t = false) : t < f ∨ (f ≤ t ∧ 1048576 < t) := by
  simp [okC] at h
  omega
theorem okC_yes {f t : Int} (h0 : 0 ≤ f) (h : okC f t = true) : ∃ a b : Nat, f = a ∧ t = b ∧ a ≤ b ∧ b ≤ 2 ^ 20 ∧ covF f t = covGo b (b - a) a := by
  have h' := h
  simp [okC] at h
  obtain ⟨a, rfl⟩ := Int.eq_ofNat_of_zero_le h0
  obtain ⟨b, rfl⟩ := Int.eq_ofNat_of_zero_le (show (0 : Int) ≤ t by omega)
  exact ⟨a, b, rfl, rfl, by omega, by omega, by simp only [covF, h', if_true, Int.toNat_natCast]⟩

def ncs (L : List (Nat × Nat)) : List Value := L.flatMap fun p => [.int .i64 (p.1 : Int), .int .u64 (p.2 : Int)]
theorem ncs_len (L : List (Nat × Nat)) : (ncs L).length = L.length * 2 := by
  induction L with
  | nil => rfl
  | cons p L ih =>
    simp only [ncs, List.flatMap_cons, List.length_append, List.length_cons, List.length_nil] at ih ⊢
    rw [ih]
    omega
theorem ncs_app (L : List (Nat × Nat)) (l i : Nat) : ncs (L ++ [(l, i)]) = ncs L ++ [.int .i64 (l : Int), .int .u64 (i : Int)] := by
  simp [ncs]
/-- a call's own row of nodes -/
def OwnN (w : World) (B : Nat) (E : TypeId) (v : Value) (L : List (Nat × Nat)) : Prop := w.ownsRow B E 2 v L.length (ncs L)
theorem OwnN.nil (w : World) (B : Nat) (E : TypeId) : OwnN w B E (.slice none 0 0) [] := World.ownsRow_nil w B E 2
theorem OwnN.to {w w' : World} {B : Nat} {E : TypeId} {v : Value} {L : List (Nat × Nat)} (h : OwnN w B E v L) (hb : Below w.heap.size w w') : OwnN w' B E v L := by
  have hlt := World.ownsRow.lt h
  obtain ⟨h1, ⟨rfl, hn⟩ | ⟨g, cap, cur, rfl, hbb, hg, r⟩⟩ := h
  · exact ⟨h1, .inl ⟨rfl, hn⟩⟩
  · exact ⟨h1, .inr ⟨g, cap, cur, rfl, hbb, by rw [hb.block g (hlt g rfl).2]; exact hg, r⟩⟩

section
variable {P : Program} {ops : Array Oper} {rest : List Oper} {o : Oper} {a : Act} {Q : Exit → Act → World → Prop} {w : World}
/-- append(nodes, node) -/
theorem wl_appendN (hgd : o.guard = none) (d s : Operand) (T E : TypeId) (ho : o.op = .call { callee := .builtin .append, args := #[d, s], argTypes := #[T, T] })
    (ht : P.underlying T = some (.slice E)) (z : Value) (info : (P.info? E).map (fun i => (i.zero, i.size, i.bytes)) = some (some z, 2, 16)) (hzs : z.cells.size = 2)
    (B : Nat) (v : Value) (L : List (Nat × Nat)) (hd : a.eval d = v) (hown : OwnN w B E v L) (g l i : Nat) (hs : a.eval s = .slice (some ⟨g, 0, none⟩) 1 1)
    (hA : Arr w g E [.int .i64 (l : Int), .int .u64 (i : Int)]) (hlen : L.length ≤ 2 ^ 21) (hB : B ≤ w.heap.size)
    (hK : ∀ v' w', OwnN w' B E v' (L ++ [(l, i)]) → Below B w w' → wpList P ops Q rest (a.put o.dst v') w') : wpList P ops Q (o :: rest) a w := by
  obtain ⟨i0, hi, hz0, hz1, hz2⟩ := info_parts info
  refine wpList_append_own w hgd d s T ho B E i0 z 2 16 ht hi hz0 hz1 hz2 hzs (by decide) v _ _ hd hown ⟨g, 0, none⟩ 1 1 [.int .i64 (l : Int), .int .u64 (i : Int)] hs rfl
    (fun j u hu => by rw [Addr.add_lit, Nat.zero_add, hA.cell]; exact hu) (two_one rfl rfl) (by unfold maxLen; omega) (by omega) hB ?_
  intro v' w' h1 h2 _
  refine hK v' w' ?_ ((Below.refl _ _).grown h2 hB fun k hk => (World.ownsRow.lt hown k hk).1)
  unfold OwnN
  rw [ncs_app, List.length_append]
  exact h1
end

theorem infoN1 : (Try.prog.info? 25).map (fun i => (i.zero, i.size, i.bytes)) = some (some (.agg #[.int .i64 0, .int .u64 0]), 2, 16) := by kernel_rfl
theorem infoN2 : (Try.prog.info? 24).map (fun i => (i.zero, i.size, i.bytes)) = some (some (.agg #[.int .i64 0, .int .u64 0]), 2, 16) := by kernel_rfl

set_option maxHeartbeats 1600000 in
theorem Cover_any (f t : Int) (w : World) (h0 : 0 ≤ f) :
    Calls Try.prog 24 #[.int .u64 f, .int .u64 t] w fun e w' => ∃ v, e = .returned (.tuple #[v, .int .i64 (ceV f t)]) ∧ OwnN w' w.heap.size 25 v (covF f t) ∧ Below w.heap.size w w' := by
  cases hm : okC f t with
  | false =>
    have e1 : covF f t = [] := by simp [covF, hm]
    have e2 : ceV f t = 1 := by simp [ceV, hm]
    rw [e1, e2]
    rcases okC_no hm with h | ⟨h, h'⟩
    · have c : ¬ (f ≤ t) := by omega
      clear hm e1 e2 h
      go_enter Try.func24, Try.ntmps24
      go_wp2
      exact bodyPost_ret (results_tmp2 rfl _ _ _) rfl ⟨_, rfl, OwnN.nil _ _ _, Below.refl _ _⟩
    · have c2 : ¬ (t ≤ 1048576) := by omega
      clear hm e1 e2 h'
      go_enter Try.func24, Try.ntmps24
      go_wp2
      exact bodyPost_ret (results_tmp2 rfl _ _ _) rfl ⟨_, rfl, OwnN.nil _ _ _, Below.refl _ _⟩
  | true =>
    have e2 : ceV f t = 0 := by simp [ceV, hm]
    obtain ⟨a, b, rfl, rfl, hab, hb, hc⟩ := okC_yes h0 hm
    rw [hc, e2]
    have d1 : decide (b < a) = false := decide_eq_false (by omega)
    have d2 : decide ((1048576 : Int) < (b : Int)) = false := decide_eq_false (by omega)
    clear hm e2 hc
    go_enter Try.func24, Try.ntmps24
    go_wp2
    go_loopw [0, 6] (fun fr out wr => ∃ (c n : Nat) (acc : List (Nat × Nat)), fr = .int .u64 (c : Int) ∧ acc ++ covGo b n c = covGo b (b - a) a ∧ b - c ≤ n ∧ c ≤ b ∧ acc.length ≤ c ∧ OwnN wr w.heap.size 25 out acc ∧ Below w.heap.size w wr) (fun fr _ _ => b - (intOf fr).toNat)
    case atStart => exact ⟨a, b - a, [], rfl, rfl, Nat.le_refl _, hab, Nat.zero_le _, OwnN.nil _ _ _, Below.refl _ _⟩
    case round =>
      obtain ⟨c, n, acc, rfl, hacc, hn, hcb, hal, hown, hB⟩ := hrel
      by_cases hlt : c < b
      · have hci : (c : Int) < (b : Int) := by omega
        obtain ⟨m, rfl, hm1, hm2⟩ := covGo_more hlt hn
        obtain ⟨⟨o1, o2, o3, o4⟩, o5⟩ := lvl_on hlt hb
        rw [hm2] at hacc
        have hhi := fun w => highest_any c b w hlt hb
        have hp := Nat.two_pow_pos (lvl c b)
        obtain ⟨l, hl⟩ : ∃ l, l = lvl c b := ⟨_, rfl⟩
        rw [← hl] at hhi o1 o2 o3 o4 o5 hacc hm1 hp
        have hda := Nat.div_add_mod c (2 ^ l)
        have hdl := Nat.div_le_self c (2 ^ l)
        have hb1 : (c / 2 ^ l + 1) * 2 ^ l = c + 2 ^ l := by
          rw [Nat.add_mul, Nat.one_mul, Nat.mul_comm]
          omega
        have hlv := leaves_any l (c / 2 ^ l)
        rw [hb1] at hlv
        obtain ⟨I, hI⟩ : ∃ I, I = c / 2 ^ l := ⟨_, rfl⟩
        rw [← hI] at hlv hhi hacc hdl
        obtain ⟨A, hA⟩ : ∃ A, A = I * 2 ^ l := ⟨_, rfl⟩
        obtain ⟨D, hD⟩ : ∃ D, D = c + 2 ^ l := ⟨_, rfl⟩
        rw [← hA, ← hD] at hlv
        rw [← hD] at hacc hm1
        have hlv2 : ∀ w, Calls Try.prog 30 #[sp l I] w fun e w' => e = .returned (.tuple #[.int .u64 (A : Int), .int .u64 (D : Int)]) ∧ Below w.heap.size w w' := fun w => hlv w (by omega) (by omega) (by omega)
        have hcD : c + 1 ≤ D := by omega
        have hDb : D ≤ b := by omega
        have HACC := Lib.hid hacc
        clear hlv hl hda hb1 hI hA hD o2 o3 o4 o5 hm2 hacc hp hn
        go_wp2_with (first
          | (go_at_call 36; refine (hhi _).mono ?_; rintro _ w1 ⟨rfl, h1⟩)
          | (go_at_call 33; refine (node_any l I _ (by omega) (by omega)).mono ?_; rintro _ w2 ⟨rfl, h2⟩; have hown2 := (hown.to h1).to h2; have z2 := h2.size)
          | (at_builtin; refine wl_appendN rfl (.tmp 21) (.tmp 24) 46 25 rfl Try.underlying46 _ infoN1 rfl w.heap.size u6 acc rfl (hown2.to ((Below.refl _ _).alloc (Nat.le_refl _) _)) w2.heap.size l I rfl (Arr.new _ _ _) (by omega) (by simp; have := hB.size; have := h1.size; omega) ?_; intro v3 w3 ho3 hb3)
          | (go_at_call 30; refine (hlv2 _).mono ?_; rintro _ w4 ⟨rfl, h4⟩))
        go_roundw
        case rel =>
          have z0 := hB.size
          have z1 := h1.size
          have hb2 : Below w.heap.size w w2 := hB.trans ((h1.mono z0).trans (h2.mono (by omega)))
          have hb4 : Below w.heap.size w w3 := (hb2.alloc hb2.size _).trans hb3
          exact ⟨D, m, acc ++ [(l, I)], rfl, by rw [List.append_assoc]; exact HACC.out, hm1, hDb, by simp; omega, ho3.to h4, hb4.trans (h4.mono hb4.size)⟩
        case measure => simp [intOf]; omega
      · have hci : ¬ ((c : Int) < (b : Int)) := by omega
        rw [covGo_end (by omega), List.append_nil] at hacc
        have HACC := Lib.hid hacc
        clear hacc
        go_wp2
        exact bodyPost_ret (results_tmp2 rfl _ _ _) rfl ⟨_, rfl, by rw [← HACC.out]; exact hown, hB⟩
end Go.Proofs.Ytbhmgkpkagjmnaa
