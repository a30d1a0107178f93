/-
  Layer 7: the statements' own helpers: one node as the other one; rows of nodes held against each other. Conditions: those in each statement.
-/
import Derived.Test.YtbhmgkpkagjmnaaPlK
import Derived.Laws.StructEq
namespace Go.Proofs.Ytbhmgkpkagjmnaa
open Go.RowKit

theorem ours_any (l i : Int) (w : World) :
    Calls Try.prog 9 #[.agg #[.int .i64 l, .int .u64 i]] w fun e w' => e = .returned (.agg #[.int .i64 l, .int .u64 i]) ∧ Below w.heap.size w w' := by
  go_enter Try.func9, Try.ntmps9
  go_wp2
  refine end_cell rfl (w.heap.size + 1) 25 [.int .i64 l, .int .u64 i] _ rfl ?_ Try.underlying25 rfl infoNode rfl ⟨rfl, ?_⟩
  · have := Arr.new (w.alloc (.cells #[.int .i64 l, .int .u64 i] 24)) 25 [.int .i64 l, .int .u64 i]
    simpa using this
  · exact ((Below.refl _ _).alloc (Nat.le_refl _) _).alloc (by simp) _
theorem theirs_any (l i : Int) (w : World) :
    Calls Try.prog 21 #[.agg #[.int .i64 l, .int .u64 i]] w fun e w' => e = .returned (.agg #[.int .i64 l, .int .u64 i]) ∧ Below w.heap.size w w' := by
  go_enter Try.func21, Try.ntmps21
  go_wp2
  refine end_cell rfl (w.heap.size + 1) 24 [.int .i64 l, .int .u64 i] _ rfl ?_ Try.underlying24 rfl infoRNode rfl ⟨rfl, ?_⟩
  · have := Arr.new (w.alloc (.cells #[.int .i64 l, .int .u64 i] 25)) 24 [.int .i64 l, .int .u64 i]
    simpa using this
  · exact ((Below.refl _ _).alloc (Nat.le_refl _) _).alloc (by simp) _

/-- a slice that reads as these nodes -/
def RdN (w : World) (v : Value) (L : List (Nat × Nat)) : Prop :=
  ∃ (a : Option Addr) (cap : Nat), v = .slice a L.length cap ∧ L.length ≤ cap ∧ (0 < L.length → ∃ b off, a = some ⟨b, off, none⟩ ∧ b < w.heap.size ∧ ∀ k, k < L.length → w.cell? ⟨b, off + k * 2, none⟩ = some (.int .i64 ((L.getD k (0, 0)).1 : Int)) ∧ w.cell? ⟨b, off + k * 2 + 1, none⟩ = some (.int .u64 ((L.getD k (0, 0)).2 : Int)))
theorem RdN.to {w w' : World} {v : Value} {L : List (Nat × Nat)} (h : RdN w v L) (hb : Below w.heap.size w w') : RdN w' v L := by
  obtain ⟨a, cap, e, hc, h⟩ := h
  refine ⟨a, cap, e, hc, fun h0 => ?_⟩
  obtain ⟨b, off, e2, hlt, h2⟩ := h h0
  refine ⟨b, off, e2, Nat.lt_of_lt_of_le hlt hb.size, fun k hk => ?_⟩
  exact ⟨(hb.cell (p := ⟨b, off + k * 2, none⟩) hlt).trans (h2 k hk).1, (hb.cell (p := ⟨b, off + k * 2 + 1, none⟩) hlt).trans (h2 k hk).2⟩
theorem ncs_get (L : List (Nat × Nat)) : ∀ k, k < L.length → (ncs L)[k * 2]? = some (.int .i64 ((L.getD k (0, 0)).1 : Int)) ∧ (ncs L)[k * 2 + 1]? = some (.int .u64 ((L.getD k (0, 0)).2 : Int)) := by
  induction L with
  | nil => intro k hk; simp at hk
  | cons p L ih =>
    intro k hk
    have e : ncs (p :: L) = .int .i64 (p.1 : Int) :: .int .u64 (p.2 : Int) :: ncs L := by simp [ncs]
    cases k with
    | zero => simp [e]
    | succ k =>
      have := ih k (by simpa using hk)
      rw [e, show (k + 1) * 2 = k * 2 + 1 + 1 by omega, show k * 2 + 1 + 1 + 1 = k * 2 + 1 + 1 + 1 from rfl]
      simpa using this
theorem OwnN.rd {w : World} {B : Nat} {E : TypeId} {v : Value} {L : List (Nat × Nat)} (h : OwnN w B E v L) : RdN w v L := by
  have h' := h
  obtain ⟨h1, ⟨rfl, hn⟩ | ⟨g, cap, cur, rfl, hb, hg, hn, hc, hs, ht⟩⟩ := h
  · exact ⟨none, 0, by rw [hn], by omega, fun h => by omega⟩
  · refine ⟨_, cap, rfl, hn, fun _ => ⟨g, 0, rfl, (World.ownsRow.lt h' g rfl).2, fun k hk => ?_⟩⟩
    have hl := ncs_len L
    have c0 := World.ownsRow.cellAt h' (k * 2) (by omega)
    have c1 := World.ownsRow.cellAt h' (k * 2 + 1) (by omega)
    obtain ⟨g0, g1⟩ := ncs_get L k hk
    rw [Nat.zero_add]
    exact ⟨c0.trans g0, c1.trans g1⟩

theorem undrew {w w' : World} (h : Below w.drew.heap.size w.drew w') : Below w.heap.size w w' := (show Below w.heap.size w w.drew from ⟨rfl, rfl, rfl, Nat.le_refl _, fun _ _ => rfl⟩).trans h
theorem prefix_all {L M : List (Nat × Nat)} (hl : L.length = M.length) (h : ∀ k, k < L.length → L.getD k (0, 0) = M.getD k (0, 0)) : L = M := by
  apply List.ext_getElem hl
  intro k h1 h2
  have := h k h1
  simpa [List.getD, h1, h2] using this

set_option maxHeartbeats 3200000 in
theorem same_any (u v : Value) (L M : List (Nat × Nat)) (w : World) (hu : RdN w u L) (hv : RdN w v M) (hlL : L.length ≤ 2 ^ 40) (hlM : M.length ≤ 2 ^ 40) :
    Calls Try.prog 28 #[u, v] w fun e w' => e = .returned (.bool (decide (L = M))) ∧ Below w.heap.size w w' := by
  obtain ⟨ua, uc, rfl, huc, hu⟩ := hu
  obtain ⟨va, vc, rfl, hvc, hv⟩ := hv
  by_cases hl : L.length = M.length
  · have hlN : (L.length : Int) = (M.length : Int) := by omega
    obtain ⟨n, hn⟩ : ∃ n, n = L.length := ⟨_, rfl⟩
    have hnM : n = M.length := by omega
    rw [← hn] at hu huc hlL ⊢
    rw [← hnM] at hv hvc hlM ⊢
    have HN := Lib.hid hn
    have HNM := Lib.hid hnM
    clear hn hnM hl hlN
    go_enter Try.func28, Try.ntmps28
    go_wp2
    go_loopw [13] (fun i wr => ∃ k : Nat, k ≤ n ∧ i = .int .i64 (k : Int) ∧ (∀ j, j < k → L.getD j (0, 0) = M.getD j (0, 0)) ∧ Below w.heap.size w wr) (fun i _ => n - (intOf i).toNat)
    case atStart => exact ⟨0, Nat.zero_le _, rfl, fun j hj => by omega, Below.refl _ _⟩
    case round =>
      obtain ⟨k, hk, rfl, hall, hB⟩ := hrel
      by_cases hlt : k < n
      · have hc : (k : Int) < (n : Int) := by omega
        obtain ⟨ub, uo, rfl, hub, hu2⟩ := hu (by omega)
        obtain ⟨vb, vo, rfl, hvb, hv2⟩ := hv (by omega)
        obtain ⟨u0, u1⟩ := hu2 k hlt
        obtain ⟨v0, v1⟩ := hv2 k hlt
        have u0' := (hB.cell (p := ⟨ub, uo + k * 2, none⟩) hub).trans u0
        have u1' := (hB.cell (p := ⟨ub, uo + k * 2 + 1, none⟩) hub).trans u1
        have v0' := (hB.cell (p := ⟨vb, vo + k * 2, none⟩) hvb).trans v0
        have v1' := (hB.cell (p := ⟨vb, vo + k * 2 + 1, none⟩) hvb).trans v1
        have HALL := Lib.hid hall
        clear hu2 hv2 u0 u1 v0 v1 hall hu hv
        obtain ⟨p, hp⟩ : ∃ p, p = L.getD k (0, 0) := ⟨_, rfl⟩
        obtain ⟨q, hq⟩ : ∃ q, q = M.getD k (0, 0) := ⟨_, rfl⟩
        rw [← hp] at u0' u1'
        rw [← hq] at v0' v1'
        obtain ⟨pl, pi⟩ := p
        obtain ⟨ql, qi⟩ := q
        simp only at u0' u1' v0' v1'
        have HP := Lib.hid hp
        have HQ := Lib.hid hq
        clear hp hq
        have ub' := Nat.lt_of_lt_of_le hub hB.size
        have vb' := Nat.lt_of_lt_of_le hvb hB.size
        by_cases e1 : pl = ql
        · subst e1
          by_cases e2 : pi = qi
          · subst e2
            go_upto_region 6 with fail
            go_region_held3 (fun w' => w'.cell? ⟨ub, uo + k * 2, none⟩ = some (.int .i64 (pl : Int)) ∧ w'.cell? ⟨ub, uo + k * 2 + 1, none⟩ = some (.int .u64 (pi : Int)) ∧ w'.cell? ⟨vb, vo + k * 2, none⟩ = some (.int .i64 (pl : Int)) ∧ w'.cell? ⟨vb, vo + k * 2 + 1, none⟩ = some (.int .u64 (pi : Int)))
              (first
                | exact ⟨u0', u1', v0', v1'⟩
                | exact ⟨(hx.cell (p := ⟨ub, uo + k * 2, none⟩) ub').trans u0', (hx.cell (p := ⟨ub, uo + k * 2 + 1, none⟩) ub').trans u1', (hx.cell (p := ⟨vb, vo + k * 2, none⟩) vb').trans v0', (hx.cell (p := ⟨vb, vo + k * 2 + 1, none⟩) vb').trans v1'⟩
                | go_keep)
              ((go_at_call 21; refine (theirs_any _ _ _).mono ?_; rintro e wx ⟨rfl, hx0⟩; have hx : Below wr.heap.size wr wx := undrew hx0; clear hx0))
            go_wp2_with fail
            go_roundw
            case rel =>
              refine ⟨k + 1, by omega, by go_num, fun j hj => ?_, hB.trans (hx.mono hB.size)⟩
              rcases Nat.lt_or_ge j k with h | h
              · exact HALL.out j h
              · obtain rfl : j = k := by omega
                rw [← HP.out, ← HQ.out]
            case measure => simp [intOf]; omega
          · have hb1 : ((pi : Int) == (qi : Int)) = false := by simp; omega
            have hne : Hid (L ≠ M) := by
              intro h
              have h1 := HP.out
              have h2 := HQ.out
              rw [h, ← h2] at h1
              simp at h1
              omega
            go_upto_region 6 with fail
            go_region_held3 (fun w' => w'.cell? ⟨ub, uo + k * 2, none⟩ = some (.int .i64 (pl : Int)) ∧ w'.cell? ⟨ub, uo + k * 2 + 1, none⟩ = some (.int .u64 (pi : Int)) ∧ w'.cell? ⟨vb, vo + k * 2, none⟩ = some (.int .i64 (pl : Int)) ∧ w'.cell? ⟨vb, vo + k * 2 + 1, none⟩ = some (.int .u64 (qi : Int)))
              (first
                | exact ⟨u0', u1', v0', v1'⟩
                | exact ⟨(hx.cell (p := ⟨ub, uo + k * 2, none⟩) ub').trans u0', (hx.cell (p := ⟨ub, uo + k * 2 + 1, none⟩) ub').trans u1', (hx.cell (p := ⟨vb, vo + k * 2, none⟩) vb').trans v0', (hx.cell (p := ⟨vb, vo + k * 2 + 1, none⟩) vb').trans v1'⟩
                | go_keep)
              ((go_at_call 21; refine (theirs_any _ _ _).mono ?_; rintro e wx ⟨rfl, hx0⟩; have hx : Below wr.heap.size wr wx := undrew hx0; clear hx0))
            go_wp2
            go_ret
            exact ⟨by rw [decide_eq_false hne.out]; rfl, hB.trans (hx.mono hB.size)⟩
        · have hb1 : ((pl : Int) == (ql : Int)) = false := by simp; omega
          have hne : Hid (L ≠ M) := by
            intro h
            have h1 := HP.out
            have h2 := HQ.out
            rw [h, ← h2] at h1
            simp at h1
            omega
          go_upto_region 6 with fail
          go_region_held3 (fun w' => w'.cell? ⟨ub, uo + k * 2, none⟩ = some (.int .i64 (pl : Int)) ∧ w'.cell? ⟨ub, uo + k * 2 + 1, none⟩ = some (.int .u64 (pi : Int)) ∧ w'.cell? ⟨vb, vo + k * 2, none⟩ = some (.int .i64 (ql : Int)) ∧ w'.cell? ⟨vb, vo + k * 2 + 1, none⟩ = some (.int .u64 (qi : Int)))
            (first
              | exact ⟨u0', u1', v0', v1'⟩
              | exact ⟨(hx.cell (p := ⟨ub, uo + k * 2, none⟩) ub').trans u0', (hx.cell (p := ⟨ub, uo + k * 2 + 1, none⟩) ub').trans u1', (hx.cell (p := ⟨vb, vo + k * 2, none⟩) vb').trans v0', (hx.cell (p := ⟨vb, vo + k * 2 + 1, none⟩) vb').trans v1'⟩
              | go_keep)
            ((go_at_call 21; refine (theirs_any _ _ _).mono ?_; rintro e wx ⟨rfl, hx0⟩; have hx : Below wr.heap.size wr wx := undrew hx0; clear hx0))
          go_wp2
          go_ret
          exact ⟨by rw [decide_eq_false hne.out]; rfl, hB.trans (hx.mono hB.size)⟩
      · obtain rfl : k = n := by omega
        have hc : ¬ ((k : Int) < (k : Int)) := by omega
        have hall' : Hid (L = M) := prefix_all (by rw [← HN.out, ← HNM.out]) (fun j hj => hall j (by rw [HN.out]; exact hj))
        clear hall hu hv
        go_wp2
        go_ret
        refine ⟨?_, hB⟩
        rw [decide_eq_true hall'.out]
        rfl
  · have hne : ¬ ((L.length : Int) = (M.length : Int)) := by omega
    have hlm : L ≠ M := fun h => hl (by rw [h])
    have hd := decide_eq_false hlm
    rw [hd]
    clear hd hlm hl
    generalize L.length = n at *
    generalize M.length = m at *
    go_enter Try.func28, Try.ntmps28
    go_wp2
    go_ret
    exact ⟨rfl, Below.refl _ _⟩
end Go.Proofs.Ytbhmgkpkagjmnaa
