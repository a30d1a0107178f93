/-
  Layer 7: PlaceFewest as a call. Conditions: those in each statement.
-/
import Derived.Test.YtbhmgkpkagjmnaaPlO
import Derived.BigQuiet
import Derived.Deep.QuietTactic
namespace Go.Proofs.Ytbhmgkpkagjmnaa
open Go.RowKit

theorem may_of {l i : Nat} (h : (i + 1) * 2 ^ l ≤ 2 ^ 20) (hl : l ≤ 20) : mayB l i = true := by
  have e : 2 ^ 20 = 2 ^ (20 - l) * 2 ^ l := by rw [← Nat.pow_add, show 20 - l + l = 20 by omega]
  rw [e] at h
  have := Nat.le_of_mul_le_mul_right h (Nat.two_pow_pos l)
  rw [mayB_nat]
  simp only [Bool.and_eq_true, decide_eq_true_eq]
  omega
theorem leaves_yes {l i : Nat} (h : (i + 1) * 2 ^ l ≤ 2 ^ 20) (hl : l ≤ 20) (w : World) :
    Calls Try.prog 10 #[.agg #[.int .i64 (l : Int), .int .u64 (i : Int)]] w fun e w' => e = .returned (.tuple #[.int .u64 ((i * 2 ^ l : Nat) : Int), .int .u64 (((i + 1) * 2 ^ l : Nat) : Int), .int .i64 0]) ∧ Below w.heap.size w w' := by
  have hm := may_of h hl
  have := Leaves_any l i w (by omega)
  rwa [show lfF l i = ((i * 2 ^ l : Nat) : Int) by simp [lfF, hm], show lbF l i = (((i + 1) * 2 ^ l : Nat) : Int) by simp [lbF, hm], show leF l i = 0 by simp [leF, hm]] at this
theorem pB_of {l i : Nat} (h : (i + 1) * 2 ^ l ≤ 2 ^ 20) (hl : l < 20) : pB l i = true := by
  have hm := may_of h (by omega)
  have : (l : Int) ≠ 20 := by omega
  simp only [pB, hm, Bool.true_and, decide_eq_true_eq]
  exact this
theorem parent_yes {l i : Nat} (h : (i + 1) * 2 ^ l ≤ 2 ^ 20) (hl : l < 20) (w : World) :
    Calls Try.prog 12 #[.agg #[.int .i64 (l : Int), .int .u64 (i : Int)]] w fun e w' => e = .returned (.tuple #[.agg #[.int .i64 ((l + 1 : Nat) : Int), .int .u64 ((i / 2 : Nat) : Int)], .int .i64 0]) ∧ Below w.heap.size w w' := by
  have hm := pB_of h hl
  have := Parent_any l i w (by omega)
  rwa [show plF l i = ((l + 1 : Nat) : Int) by simp [plF, hm], show piF l i = ((i / 2 : Nat) : Int) by simp [piF, hm], show peF l i = 0 by simp [peF, hm]] at this
theorem sibling_even {l k : Nat} (h : (2 * k + 1) * 2 ^ l ≤ 2 ^ 20) (hl : l < 20) (w : World) :
    Calls Try.prog 14 #[.agg #[.int .i64 (l : Int), .int .u64 ((2 * k : Nat) : Int)]] w fun e w' => e = .returned (.tuple #[.agg #[.int .i64 (l : Int), .int .u64 ((2 * k + 1 : Nat) : Int)], .int .i64 0]) ∧ Below w.heap.size w w' := by
  have hm := pB_of h hl
  have := Sibling_any l (2 * k : Nat) w (by omega)
  have e : siF l (2 * k : Nat) = ((2 * k + 1 : Nat) : Int) := by
    unfold siF
    rw [hm, if_pos rfl, if_pos (by omega)]
    omega
  rwa [show slF l (2 * k : Nat) = (l : Int) by unfold slF; rw [hm]; rfl, e, show peF l (2 * k : Nat) = 0 by unfold peF; rw [hm]; rfl] at this
theorem sibling_odd {l k : Nat} (h : (2 * k + 1 + 1) * 2 ^ l ≤ 2 ^ 20) (hl : l < 20) (w : World) :
    Calls Try.prog 14 #[.agg #[.int .i64 (l : Int), .int .u64 ((2 * k + 1 : Nat) : Int)]] w fun e w' => e = .returned (.tuple #[.agg #[.int .i64 (l : Int), .int .u64 ((2 * k : Nat) : Int)], .int .i64 0]) ∧ Below w.heap.size w w' := by
  have hm := pB_of h hl
  have := Sibling_any l (2 * k + 1 : Nat) w (by omega)
  have e : siF l (2 * k + 1 : Nat) = ((2 * k : Nat) : Int) := by
    unfold siF
    rw [hm, if_pos rfl, if_neg (by omega)]
    omega
  rwa [show slF l (2 * k + 1 : Nat) = (l : Int) by unfold slF; rw [hm]; rfl, e, show peF l (2 * k + 1 : Nat) = 0 by unfold peF; rw [hm]; rfl] at this

/-- what the law's loop needs of a cover's place -/
theorem fewest_even {b c l k : Nat} (hc : c = 2 * k * 2 ^ l) (hs : stepB c b l = false) : b < (k + 1) * 2 ^ (l + 1) := by
  have e : c % 2 ^ (l + 1) = 0 := by
    rw [hc, show 2 * k * 2 ^ l = k * 2 ^ (l + 1) by rw [Nat.pow_succ, Nat.mul_comm 2 k, Nat.mul_assoc, Nat.mul_comm 2]]
    exact Nat.mul_mod_left _ _
  have e2 : (k + 1) * 2 ^ (l + 1) = c + 2 ^ (l + 1) := by
    rw [hc, Nat.add_mul, Nat.one_mul, show 2 * k * 2 ^ l = k * 2 ^ (l + 1) by rw [Nat.pow_succ, Nat.mul_comm 2 k, Nat.mul_assoc, Nat.mul_comm 2]]
  simp only [stepB, e, decide_true, Bool.true_and, decide_eq_false_iff_not] at hs
  omega
theorem fewest_odd {a b c l k : Nat} (hlow : Low a b c) (hc : c = (2 * k + 1) * 2 ^ l) (hb : c + 2 ^ l ≤ b) : k * 2 ^ (l + 1) < a := by
  have hp := Nat.two_pow_pos l
  have h := hlow l (by rw [hc]; exact Nat.mul_mod_left _ _) (by rw [hc, Nat.mul_div_cancel _ hp]; omega) hb
  have e : (2 * k + 1) * 2 ^ l = k * 2 ^ (l + 1) + 2 ^ l := by
    rw [Nat.add_mul, Nat.one_mul, Nat.pow_succ, Nat.mul_comm 2 k, Nat.mul_assoc, Nat.mul_comm 2]
  omega
theorem getD_mid (pre : List (Nat × Nat)) (p : Nat × Nat) (post : List (Nat × Nat)) : (pre ++ p :: post).getD pre.length (0, 0) = p := by
  simp [List.getD]
theorem getD_last (pre : List (Nat × Nat)) (p q : Nat × Nat) (post : List (Nat × Nat)) : (pre ++ [p] ++ q :: post).getD pre.length (0, 0) = p := by
  simp [List.getD]

set_option maxRecDepth 100000 in
set_option maxHeartbeats 6400000 in
theorem Fewest_law (f t : Int) (w : World) (hf : 0 ≤ f) :
    Calls Try.prog 5 #[.int .u64 f, .int .u64 t] w fun e w' => e = .returned (.bool true) ∧ Below w.heap.size w w' := by
  have HC := fun w => Cover_any f t w hf
  cases hm : okC f t with
  | false =>
    rw [show covF f t = [] by simp [covF, hm], show ceV f t = 1 by simp [ceV, hm]] at HC
    rcases okC_no hm with h | ⟨h, h'⟩
    · have c : t < f := h
      clear hm h
      go_enter Try.func5, Try.ntmps5
      go_wp2_with (first
        | (go_at_call 24; refine (HC _).mono ?_; rintro _ w1 ⟨v, rfl, o1, h1⟩; obtain ⟨va, vc, rfl, -, -⟩ := o1.rd)
        | (go_at_call 18; refine (awake_any _).mono ?_; rintro _ w3 ⟨rfl, h3⟩))
      go_ret
      exact ⟨rfl, h1.trans (h3.mono h1.size)⟩
    · have c : ¬ t < f := by omega
      have c2 : ¬ (t ≤ 1048576) := by omega
      clear hm h h'
      go_enter Try.func5, Try.ntmps5
      go_wp2_with (first
        | (go_at_call 24; refine (HC _).mono ?_; rintro _ w1 ⟨v, rfl, o1, h1⟩; obtain ⟨va, vc, rfl, -, -⟩ := o1.rd)
        | (go_at_call 18; refine (awake_any _).mono ?_; rintro _ w3 ⟨rfl, h3⟩))
      go_ret
      exact ⟨rfl, h1.trans (h3.mono h1.size)⟩
  | true =>
    rw [show ceV f t = 0 by simp [ceV, hm]] at HC
    obtain ⟨a, b, rfl, rfl, hab, hb, hc⟩ := okC_yes hf hm
    have h40 := len_40 (n := b - a) hb hab (Nat.le_refl _)
    rw [hc] at HC
    obtain ⟨L, hL⟩ : ∃ L, L = covGo b (b - a) a := ⟨_, rfl⟩
    rw [← hL] at HC h40
    have HL := Lib.hid hL
    clear hm hc hL
    go_enter Try.func5, Try.ntmps5
    go_wp2_with (go_at_call 24; refine (HC _).mono ?_; rintro _ w1 ⟨v, rfl, o1, h1⟩; obtain ⟨va, vc, rfl, hvc, hrd⟩ := o1.rd)
    obtain ⟨N, hN⟩ : ∃ N, N = L.length := ⟨_, rfl⟩
    rw [← hN] at h40 hvc hrd ⊢
    have HN := Lib.hid hN
    clear hN
    go_loopw [7, 50] (fun at' i wr => ∃ (k c n : Nat) (pre : List (Nat × Nat)), at' = .int .u64 (c : Int) ∧ i = .int .i64 (k : Int) ∧ pre.length = k ∧ pre ++ covGo b n c = L ∧ b - c ≤ n ∧ a ≤ c ∧ c ≤ b ∧ Low a b c ∧ (∀ m, k = m + 1 → a ≤ (L.getD m (0, 0)).2 * 2 ^ (L.getD m (0, 0)).1 ∧ ((L.getD m (0, 0)).2 + 1) * 2 ^ (L.getD m (0, 0)).1 = c) ∧ Below w1.heap.size w1 wr) (fun _ i _ => N - (intOf i).toNat)
    case atStart => exact ⟨0, a, b - a, [], rfl, rfl, rfl, HL.out.symm, Nat.le_refl _, Nat.le_refl _, hab, Low.start a b, fun m h => by omega, Below.refl _ _⟩
    case round =>
      obtain ⟨k, c, n, pre, rfl, rfl, hk, hpre, hn, hac, hcb, hlow, hprev, hB⟩ := hrel
      by_cases hlt : c < b
      · obtain ⟨m, rfl, hm1, hm2⟩ := covGo_more hlt hn
        obtain ⟨⟨hl20, -, hmod, hend⟩, hst⟩ := lvl_on hlt hb
        have hlow2 := hlow.step hlt hb
        rw [hm2] at hpre
        obtain ⟨l, hl⟩ : ∃ l, l = lvl c b := ⟨_, rfl⟩
        rw [← hl] at hm1 hpre hl20 hmod hend hst hlow2
        obtain ⟨I, hI⟩ : ∃ I, I = c / 2 ^ l := ⟨_, rfl⟩
        rw [← hI] at hpre
        have hcI : c = I * 2 ^ l := by
          have := Nat.div_add_mod c (2 ^ l)
          rw [hmod, ← hI, Nat.add_zero, Nat.mul_comm] at this
          exact this.symm
        obtain ⟨D, hD⟩ : ∃ D, D = c + 2 ^ l := ⟨_, rfl⟩
        have hDI : (I + 1) * 2 ^ l = D := by rw [Nat.add_mul, Nat.one_mul, ← hcI, hD]
        have hp0 := Nat.two_pow_pos l
        have hkN : k < N := by
          rw [HN.out, ← hpre, List.length_append, List.length_cons, hk]
          omega
        have hgk : L.getD k (0, 0) = (l, I) := by rw [← hpre, ← hk]; exact getD_mid _ _ _
        obtain ⟨vb, vo, rfl, hvb, hcell⟩ := hrd (by omega)
        have hvb' := Nat.lt_of_lt_of_le hvb hB.size
        obtain ⟨u0, u1⟩ := hcell k hkN
        rw [hgk] at u0 u1
        have u0' := (hB.cell (p := ⟨vb, vo + k * 2, none⟩) hvb).trans u0
        have u1' := (hB.cell (p := ⟨vb, vo + k * 2 + 1, none⟩) hvb).trans u1
        have HLv := fun w => leaves_yes (l := l) (i := I) (by omega) hl20 w
        rw [hDI, ← hcI] at HLv
        have hk0 : (0 : Int) ≤ (k : Int) := by omega
        have hkN' : (k : Int) < (N : Int) := by omega
        have hDb : ¬ (b < D) := by omega
        have HREL : Hid (∀ wr', Below w1.heap.size w1 wr' → ∃ (k' c' n' : Nat) (pre' : List (Nat × Nat)), Value.int .u64 (D : Int) = .int .u64 (c' : Int) ∧ Value.int .i64 ((k : Int) + 1) = .int .i64 (k' : Int) ∧ pre'.length = k' ∧ pre' ++ covGo b n' c' = L ∧ b - c' ≤ n' ∧ a ≤ c' ∧ c' ≤ b ∧ Low a b c' ∧ (∀ m, k' = m + 1 → a ≤ (L.getD m (0, 0)).2 * 2 ^ (L.getD m (0, 0)).1 ∧ ((L.getD m (0, 0)).2 + 1) * 2 ^ (L.getD m (0, 0)).1 = c') ∧ Below w1.heap.size w1 wr') := by
          intro wr' hwr
          refine ⟨k + 1, D, m, pre ++ [(l, I)], rfl, by go_num, by simp [hk], by rw [List.append_assoc, hD]; exact hpre, by rw [hD]; exact hm1, by omega, by omega, by rw [hD]; exact hlow2, fun m' hm' => ?_, hwr⟩
          obtain rfl : m' = k := by omega
          rw [hgk]
          exact ⟨by rw [← hcI]; exact hac, hDI⟩
        by_cases h20 : l < 20
        · have hl1 : (l : Int) < 20 := by omega
          have HP := fun w => parent_yes (l := l) (i := I) (by omega) h20 w
          obtain ⟨q, hq⟩ : ∃ q, I = 2 * q ∨ I = 2 * q + 1 := ⟨I / 2, by omega⟩
          have hq2 : I / 2 = q := by omega
          rw [hq2] at HP
          have h2p : 2 ^ (l + 1) = 2 * 2 ^ l := by rw [Nat.pow_succ, Nat.mul_comm]
          have hU : (q + 1) * 2 ^ (l + 1) ≤ 2 ^ 20 := by
            have e20 : 2 ^ 20 = 2 ^ (20 - (l + 1)) * 2 ^ (l + 1) := by rw [← Nat.pow_add, show 20 - (l + 1) + (l + 1) = 20 by omega]
            have hmI := may_of (l := l) (i := I) (by omega) hl20
            rw [mayB_nat] at hmI
            simp only [Bool.and_eq_true, decide_eq_true_eq] at hmI
            have hh : 2 ^ (20 - l) = 2 * 2 ^ (20 - (l + 1)) := by rw [show 20 - l = 20 - (l + 1) + 1 by omega, Nat.pow_succ, Nat.mul_comm]
            rw [e20]
            exact Nat.mul_le_mul_right _ (by omega)
          have HL2 := fun w => leaves_yes (l := l + 1) (i := q) hU (by omega) w
          obtain ⟨G, hG⟩ : ∃ G, G = q * 2 ^ (l + 1) := ⟨_, rfl⟩
          obtain ⟨U, hUU⟩ : ∃ U, U = (q + 1) * 2 ^ (l + 1) := ⟨_, rfl⟩
          rw [← hG, ← hUU] at HL2
          obtain ⟨l1, hl1e⟩ : ∃ l1, l1 = l + 1 := ⟨_, rfl⟩
          rw [← hl1e] at HP HL2
          have hdis : Hid (∀ m, k = m + 1 → ∀ s, (I = 2 * q ∧ s = 2 * q + 1 ∨ I = 2 * q + 1 ∧ s = 2 * q) → L.getD m (0, 0) ≠ (l, s)) := by
            intro m hmk s hs hh
            obtain ⟨p1, p2⟩ := hprev m hmk
            rw [hh] at p1 p2
            simp only at p1 p2
            rcases hs with ⟨hs1, rfl⟩ | ⟨hs1, rfl⟩
            · have := Nat.eq_of_mul_eq_mul_right hp0 (p2.trans hcI)
              omega
            · have h1 := fewest_odd (k := q) hlow (by rw [hcI, hs1]) (by omega)
              rw [h2p, show q * (2 * 2 ^ l) = 2 * q * 2 ^ l by rw [Nat.mul_comm 2 q, Nat.mul_assoc]] at h1
              omega
          rcases hq with hq | hq
          · have HS := fun w => sibling_even (l := l) (k := q) (by rw [← hq, hDI]; omega) h20 w
            obtain ⟨s, hs⟩ : ∃ s, s = 2 * q + 1 := ⟨_, rfl⟩
            rw [← hs, ← hq] at HS
            have d2 : decide (U ≤ b) = false := by
              have := fewest_even (b := b) (k := q) (by rw [hcI, hq]) hst
              exact decide_eq_false (by omega)
            have d1 : decide (a ≤ G) = true := by
              refine decide_eq_true ?_
              rw [hG, h2p, show q * (2 * 2 ^ l) = 2 * q * 2 ^ l by rw [Nat.mul_comm 2 q, Nat.mul_assoc], ← hq, ← hcI]
              exact hac
            have HDIS : Hid (∀ m, k = m + 1 → L.getD m (0, 0) ≠ (l, s)) := fun m h => hdis.out m h s (.inl ⟨hq, hs⟩)
            clear hgk hpre hm1 hm2 hmod hend hst hlow hlow2 hprev hcI hDI hD hI hl hn hac hk hp0 h20 hq hq2 h2p hU hG hUU hl1e hdis hs
            go_upto_region 16 with (first
              | (go_at_call 10; with_reducible refine (HLv _).mono ?_; rintro _ w2 ⟨rfl, h2⟩; have hA9 := (Arr.new wr 25 [.int .i64 (l : Int), .int .u64 (I : Int)]).kept h2; obtain ⟨c9, c9', h2⟩ := box2 h2)
              | (go_at_call 12; refine (HP _).mono ?_; rintro _ w3 ⟨rfl, h3⟩; obtain ⟨e9, e9'⟩ := (hA9.kept h3).two)
              | (go_at_call 10; with_reducible refine (HL2 _).mono ?_; rintro _ w4 ⟨rfl, h4⟩; have hB4 := (((Below.refl w3.heap.size w3).alloc (Nat.le_refl _) _).trans (h4.mono (by simp))); obtain ⟨g9, g9'⟩ := ((hA9.kept h3).kept hB4).two)
              | (go_at_call 14; refine (HS _).mono ?_; rintro _ w5 ⟨rfl, h5⟩))
            have hB6 : Below w1.heap.size w1 (w5.alloc (.cells #[.int .i64 (l : Int), .int .u64 (s : Int)] 25)) := by
              have z0 := hB.size
              have z2 := h2.size
              have z3 := h3.size
              have z4 := hB4.size
              have z5 := h5.size
              exact (hB.trans ((h2.mono z0).trans ((h3.mono (by omega)).trans ((hB4.mono (by omega)).trans (h5.mono (by omega)))))).alloc (by omega) _
            obtain ⟨y0, y1⟩ := (Arr.new w5 25 [.int .i64 (l : Int), .int .u64 (s : Int)]).two
            generalize hg18 : w5.heap.size = g18 at *
            generalize hW6 : w5.alloc (.cells #[.int .i64 (l : Int), .int .u64 (s : Int)] 25) = W6 at *
            clear hg18 hW6 h2 h3 h4 h5 hB4 hA9 c9 c9' e9 e9' g9 g9' HP HS HL2 HLv u0' u1' u0 u1
            cases k with
            | zero =>
              clear hcell hrd HDIS
              go_region
              go_wp2_with fail
              go_roundw
              case rel => exact HREL.out _ hB6.drew
              case measure => simp [intOf]; omega
            | succ m =>
              obtain ⟨v0, v1⟩ := hcell m (by omega)
              have hdis := HDIS.out m rfl
              obtain ⟨p, hp⟩ : ∃ p, p = L.getD m (0, 0) := ⟨_, rfl⟩
              rw [← hp] at v0 v1 hdis
              obtain ⟨pl, pi⟩ := p
              simp only at v0 v1
              have v0' := (hB6.cell (p := ⟨vb, vo + m * 2, none⟩) hvb).trans v0
              have v1' := (hB6.cell (p := ⟨vb, vo + m * 2 + 1, none⟩) hvb).trans v1
              have hmN : (m : Int) < (N : Int) := by omega
              have hsub : (((m + 1 : Nat) : Int)) - 1 = (m : Int) := by omega
              clear hcell hrd HDIS v0 v1 hp
              by_cases e1 : pl = l
              · subst e1
                have hb1 : ((pi : Int) == (s : Int)) = false := by
                  have : pi ≠ s := fun h => hdis (by rw [h])
                  simp only [beq_eq_false_iff_ne]
                  omega
                clear hdis
                go_region
                go_wp2_with fail
                go_roundw
                case rel => exact HREL.out _ hB6.drew
                case measure => simp [intOf]; omega
              · have hb1 : ((pl : Int) == (l : Int)) = false := by
                  simp only [beq_eq_false_iff_ne]
                  omega
                clear hdis
                go_region
                go_wp2_with fail
                go_roundw
                case rel => exact HREL.out _ hB6.drew
                case measure => simp [intOf]; omega

          · have HS := fun w => sibling_odd (l := l) (k := q) (by rw [← hq, hDI]; omega) h20 w
            rw [← hq] at HS
            obtain ⟨s, hs⟩ : ∃ s, s = 2 * q := ⟨_, rfl⟩
            rw [← hs] at HS
            have d1 : decide (a ≤ G) = false := by
              have := fewest_odd (k := q) hlow (by rw [hcI, hq]) (by omega)
              exact decide_eq_false (by omega)
            have HDIS : Hid (∀ m, k = m + 1 → L.getD m (0, 0) ≠ (l, s)) := fun m h => hdis.out m h s (.inr ⟨hq, hs⟩)
            clear hgk hpre hm1 hm2 hmod hend hst hlow hlow2 hprev hcI hDI hD hI hl hn hac hk hp0 h20 hq hq2 h2p hU hG hUU hl1e hdis hs
            go_upto_region 16 with (first
              | (go_at_call 10; with_reducible refine (HLv _).mono ?_; rintro _ w2 ⟨rfl, h2⟩; have hA9 := (Arr.new wr 25 [.int .i64 (l : Int), .int .u64 (I : Int)]).kept h2; obtain ⟨c9, c9', h2⟩ := box2 h2)
              | (go_at_call 12; refine (HP _).mono ?_; rintro _ w3 ⟨rfl, h3⟩; obtain ⟨e9, e9'⟩ := (hA9.kept h3).two)
              | (go_at_call 10; with_reducible refine (HL2 _).mono ?_; rintro _ w4 ⟨rfl, h4⟩; have hB4 := (((Below.refl w3.heap.size w3).alloc (Nat.le_refl _) _).trans (h4.mono (by simp))); obtain ⟨g9, g9'⟩ := ((hA9.kept h3).kept hB4).two)
              | (go_at_call 14; refine (HS _).mono ?_; rintro _ w5 ⟨rfl, h5⟩))
            have hB6 : Below w1.heap.size w1 (w5.alloc (.cells #[.int .i64 (l : Int), .int .u64 (s : Int)] 25)) := by
              have z0 := hB.size
              have z2 := h2.size
              have z3 := h3.size
              have z4 := hB4.size
              have z5 := h5.size
              exact (hB.trans ((h2.mono z0).trans ((h3.mono (by omega)).trans ((hB4.mono (by omega)).trans (h5.mono (by omega)))))).alloc (by omega) _
            obtain ⟨y0, y1⟩ := (Arr.new w5 25 [.int .i64 (l : Int), .int .u64 (s : Int)]).two
            generalize hg18 : w5.heap.size = g18 at *
            generalize hW6 : w5.alloc (.cells #[.int .i64 (l : Int), .int .u64 (s : Int)] 25) = W6 at *
            clear hg18 hW6 h2 h3 h4 h5 hB4 hA9 c9 c9' e9 e9' g9 g9' HP HS HL2 HLv u0' u1' u0 u1
            cases k with
            | zero =>
              clear hcell hrd HDIS
              go_region
              go_wp2_with fail
              go_roundw
              case rel => exact HREL.out _ hB6.drew
              case measure => simp [intOf]; omega
            | succ m =>
              obtain ⟨v0, v1⟩ := hcell m (by omega)
              have hdis := HDIS.out m rfl
              obtain ⟨p, hp⟩ : ∃ p, p = L.getD m (0, 0) := ⟨_, rfl⟩
              rw [← hp] at v0 v1 hdis
              obtain ⟨pl, pi⟩ := p
              simp only at v0 v1
              have v0' := (hB6.cell (p := ⟨vb, vo + m * 2, none⟩) hvb).trans v0
              have v1' := (hB6.cell (p := ⟨vb, vo + m * 2 + 1, none⟩) hvb).trans v1
              have hmN : (m : Int) < (N : Int) := by omega
              have hsub : (((m + 1 : Nat) : Int)) - 1 = (m : Int) := by omega
              clear hcell hrd HDIS v0 v1 hp
              by_cases e1 : pl = l
              · subst e1
                have hb1 : ((pi : Int) == (s : Int)) = false := by
                  have : pi ≠ s := fun h => hdis (by rw [h])
                  simp only [beq_eq_false_iff_ne]
                  omega
                clear hdis
                go_region
                go_wp2_with fail
                go_roundw
                case rel => exact HREL.out _ hB6.drew
                case measure => simp [intOf]; omega
              · have hb1 : ((pl : Int) == (l : Int)) = false := by
                  simp only [beq_eq_false_iff_ne]
                  omega
                clear hdis
                go_region
                go_wp2_with fail
                go_roundw
                case rel => exact HREL.out _ hB6.drew
                case measure => simp [intOf]; omega

        · have hl1 : ¬ ((l : Int) < 20) := by omega
          clear hgk hpre hm1 hm2 hmod hend hst hlow hlow2 hprev hcI hDI hD hI hl hn hac hk hp0 h20
          go_wp2_with (go_at_call 10; refine (HLv _).mono ?_; rintro _ w2 ⟨rfl, h2⟩; obtain ⟨c9, c9', h2⟩ := box2 h2)
          go_roundw
          case rel => exact HREL.out _ (hB.trans (h2.mono hB.size))
          case measure => simp [intOf]; omega
      · have hc : c = b := by omega
        subst hc
        rw [covGo_end (Nat.le_refl _), List.append_nil] at hpre
        have hkN : k = N := by rw [HN.out, ← hpre, hk]
        subst hkN
        have hkk : ¬ ((k : Int) < (k : Int)) := by omega
        have h40' : (k : Int) ≤ 40 := by omega
        clear hprev hlow hpre hrd
        go_wp2_with (go_at_call 18; refine (awake_any _).mono ?_; rintro _ w3 ⟨rfl, h3⟩)
        go_ret
        have hb1 := h1.trans (hB.mono h1.size)
        exact ⟨rfl, hb1.trans (h3.mono hb1.size)⟩
end Go.Proofs.Ytbhmgkpkagjmnaa
