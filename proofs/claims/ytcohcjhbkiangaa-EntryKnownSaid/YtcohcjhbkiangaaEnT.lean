/-
  The program's TakeRecord: its contract. Conditions: those in each statement.
-/
import Derived.Test.YtcohcjhbkiangaaEnS
namespace Go.Proofs.Ytcohcjhbkiangaa
open Go.RowKit

theorem infozE : (Try.prog.info? 25).map (fun i => (i.zero, i.size)) = some (some (.agg #[.int .u64 0, .slice none 0 0]), 2) := by kernel_rfl
theorem sizeE : (Try.prog.info? 25).map (·.size) = some 2 := by kernel_rfl
/-- an entry and an error's number: what a Take tells -/
def TRes (w : World) (f : (Nat × List (List UInt8)) × Int) (e : Ending) (w' : World) : Prop :=
  ∃ a n cap, e = .returned (.tuple #[entV f.1.1 a n cap, .int .i64 f.2]) ∧ OwnC w' w.heap.size (.slice a n cap) f.1.2 ∧ Below w.heap.size w w'

set_option maxHeartbeats 2000000 in
theorem TakeRecord_any (a : Option Addr) (n cap : Nat) (bs : List UInt8) (w : World) (hm : n ≤ 140737488355328) (hr : Rd w a n cap bs) :
    Calls Try.prog 27 #[.slice a n cap] w (TRes w (takeRecR bs)) := by
  have hln := hr.len
  have hb0 : Below w.heap.size w ((w.alloc (.cells #[.int .u64 0, .slice none 0 0] 25)).alloc (.cells #[.int .i64 0] 28)) := (hal w _).alloc (by simp) _
  have hE0 : Arr ((w.alloc (.cells #[.int .u64 0, .slice none 0 0] 25)).alloc (.cells #[.int .i64 0] 28)) w.heap.size 25 [.int .u64 0, .slice none 0 0] := (Arr.new w _ _).kept (hal _ _)
  have hx0 : Boxed ((w.alloc (.cells #[.int .u64 0, .slice none 0 0] 25)).alloc (.cells #[.int .i64 0] 28)) (w.heap.size + 1) 28 (.int .i64 0) := by
    have := Boxed.new (w.alloc (.cells #[.int .u64 0, .slice none 0 0] 25)) 28 (.int .i64 0)
    simpa using this
  have hs0 : ((w.alloc (.cells #[.int .u64 0, .slice none 0 0] 25)).alloc (.cells #[.int .i64 0] 28)).heap.size = w.heap.size + 2 := by simp
  have HR := Lib.hid hr
  have hcase := Lib.hid (rec_case bs)
  have hcl := Lib.hid (recC_len bs)
  have htl := Lib.hid (rnum8_lt bs)
  obtain ⟨TR, hTR⟩ : ∃ TR, TR = takeRecR bs := ⟨_, rfl⟩
  rw [← hTR] at hcase ⊢
  clear hr hTR
  go_enter Try.func27, Try.ntmps27
  go_wp2_with fail
  generalize hw0 : World.alloc (World.alloc w _) _ = w0 at *
  clear hw0
  have hr0 := HR.out.to hb0
  generalize hB : w.heap.size = B at *
  have HB := Lib.hid hB
  have HS0 := Lib.hid hs0
  have HB0 := Lib.hid hb0
  clear hB hs0 hb0
  refine (New_any a n cap bs w0 hm hr0).mono ?_
  rintro e w1 ⟨q, r, rfl, hr1, hq1, lr1, hb1⟩
  have g1 := Fr.of_below (rs := []) hb1
  have hx1 := g1.boxed hx0 (by simp)
  have hE1 := g1.arr hE0 (by simp)
  have hBr : B + 2 ≤ r := by have := HS0.out; omega
  have HQ : Hid (∀ k, q = some k → B + 2 ≤ k ∧ k < w1.heap.size) := fun k e => ⟨by have := hq1 k e; have := HS0.out; omega, (hq1 k e).2⟩
  have hqB : q ≠ some (B + 1) := by intro e; have := HQ.out _ e; omega
  have F1 : Fr [] w w1 := (Fr.of_below (by rw [HB.out]; exact HB0.out)).trans g1
  have HF1 := Lib.hid F1
  have hs01 := hb1.size
  have hrl := hr1.lt
  clear hx0 hE0 hr0 hb1 hq1 lr1 g1 F1
  go_wp2_with fail
  refine (kept_iu _ _ _ _ _).mono ?_
  rintro e w2 ⟨p, pq, rfl, hp, hpq, lp, lpq, hb2⟩
  have g2 := Fr.of_below (rs := []) hb2
  have hs2 := hb2.size
  have hx2 := g2.boxed hx1 (by simp)
  have hE2 := g2.arr hE1 (by simp)
  have hr2 := g2.rdr hr1 (by simp) (fun k e => ⟨(HQ.out k e).2, by simp⟩)
  have HF2 := Lib.hid (HF1.out.trans g2)
  clear hx1 hE1 hr1 hb2 g2 HF1
  go_wp2_with fail
  refine (keptNum_any 0 8 q r bs p pq (B + 1) w2 (by omega) hp hpq hx2 hr2 hqB).mono ?_
  rintro e w3 ⟨rfl, hx3, hr3, hf3⟩
  rw [show keptT 0 0 bs (rnumF bs 8) = rnumF bs 8 from rfl] at hx3 hr3
  have hs3 := hf3.size
  have hE3 := hf3.arr hE2 (by simp; omega)
  have HF3 := Lib.hid (HF2.out.then hf3 (by intro x hx; simp at hx; have := HB.out; rcases hx with rfl | rfl <;> (left; omega)))
  have ht : keptT 0 0 bs (rnumF bs 8) = rnumF bs 8 := rfl
  rw [ht]
  have htt : (rnumF bs 8).1 = recT bs := rfl
  rw [htt]
  have htl' : recT bs ≤ 18446744073709551615 := htl.out
  have htq : Hid (recA bs = keptR (recC bs).2.1 (recR (recT bs) (recC bs).1)) := rfl
  generalize recT bs = t at *
  go_wp2_with fail
  have hE4 : Arr (w3.alloc (.cells #[.int .u64 (t : Int), .slice none 0 0] 25)) w3.heap.size 25 [.int .u64 (t : Int), .slice none 0 0] := Arr.new w3 _ _
  have hb4 := hal w3 (.cells #[.int .u64 (t : Int), .slice none 0 0] 25)
  have g4 := Fr.of_below (rs := []) hb4
  have hx4 := g4.boxed hx3 (by simp)
  have hR4 := g4.arr hE3 (by simp)
  have hs4 : (w3.alloc (.cells #[.int .u64 (t : Int), .slice none 0 0] 25)).heap.size = w3.heap.size + 1 := by simp
  have hr4 := g4.rdr hr3 (by simp) (fun k e => ⟨by have := HQ.out k e; omega, by simp⟩)
  have HF4 := Lib.hid (HF3.out.then g4 (by simp))
  generalize hw4 : w3.alloc (.cells #[.int .u64 (t : Int), .slice none 0 0] 25) = w4 at *
  clear hw4 hb4 g4 hx3 hE3 hr3 hf3 hx2 hE2 hr2 hp hpq
  obtain ⟨X, hX⟩ : ∃ X, X = w3.heap.size := ⟨_, rfl⟩
  rw [← hX] at hE4 hs4 ⊢
  have hX2 : w2.heap.size ≤ X := by omega
  have hXB : B + 2 ≤ X := by have := HS0.out; omega
  have hXw : X < w4.heap.size := by omega
  clear hX hs4 hs3
  refine (kept_rl _ _ _ _ _).mono ?_
  rintro e w5 ⟨p5, pq5, rfl, hp5, hpq5, lp5, lpq5, hb5⟩
  have g5 := Fr.of_below (rs := []) hb5
  have hs5 := hb5.size
  have hx5 := g5.boxed hx4 (by simp)
  have hE5 := g5.arr hE4 (by simp)
  have hR5 := g5.arr hR4 (by simp)
  have hr5 := g5.rdr hr4 (by simp) (fun k e => ⟨by have := HQ.out k e; omega, by simp⟩)
  have HF5 := Lib.hid (HF4.out.then g5 (by simp))
  clear hx4 hE4 hR4 hr4 hb5 g5
  go_wp2_with fail
  have hlr : (rnumF bs 8).2.2.length ≤ 140737488355328 := by
    have := rnum_len bs 8
    omega
  refine (keptRL_any _ q r _ p5 pq5 (B + 1) w5 hlr hp5 hpq5 lp5 lpq5 hx5 hr5 hqB (fun k e => by have := HQ.out k e; omega)).mono ?_
  rintro e w6 ⟨v6, rfl, hO6, hx6, hr6, hf6⟩
  have hC : keptT (rnumF bs 8).2.1 [] (rnumF bs 8).2.2 (takeListF (rnumF bs 8).2.2) = recC bs := rfl
  rw [hC] at hO6 hx6
  have hs6 := hf6.size
  have hrX : r ≠ X := by omega
  have hE6 := hf6.arr hE5 (by simp; omega)
  have hR6 := hf6.arr hR5 (by simp; omega)
  have HF6 := Lib.hid (HF5.out.then hf6 (by intro x hx; simp at hx; have := HB.out; rcases hx with rfl | rfl <;> (left; omega)))
  obtain ⟨a6, n6, c6, rfl, hch6⟩ := hO6.chn
  clear hx5 hE5 hR5 hr5 hf6 hr6 hp5 hpq5 hC hlr
  have e0 := hE6.cell 0
  have e1 := hE6.cell 1
  have f1 := hE6.frozen 1
  simp only [List.getElem?_cons_zero, List.getElem?_cons_succ] at e0 e1
  go_wp2_with fail
  have hE7 : Arr (w6.setCell ⟨X, 1, none⟩ (.slice a6 n6 c6)) X 25 [.int .u64 (t : Int), .slice a6 n6 c6] := hE6.store 1 _
  have g7 : Fr [X] w6 (w6.setCell ⟨X, 1, none⟩ (.slice a6 n6 c6)) := (Fr.refl _ _).set (by simp) _
  have hx7 := g7.boxed hx6 (by simp; omega)
  have hR7 := g7.arr hR6 (by simp; omega)
  have hO7 := hO6.fr g7 (by intro x hx; simp at hx; subst hx; exact .inr ⟨_, _, hE6, by decide, by decide⟩)
  have HF7 := Lib.hid (HF6.out.then g7 (by intro x hx; simp at hx; have := HB.out; subst hx; left; omega))
  have hs7 : w6.heap.size ≤ (w6.setCell ⟨X, 1, none⟩ (.slice a6 n6 c6)).heap.size := g7.size
  generalize hw7 : w6.setCell ⟨X, 1, none⟩ (.slice a6 n6 c6) = w7 at *
  clear hw7 hx6 hE6 hR6 hch6 e0 e1 f1 g7
  obtain ⟨_, _, _, he, hch7⟩ := hO7.chn
  cases he
  have e0 := hE7.cell 0
  have e1 := hE7.cell 1
  have lX := hE7.lt
  have lF := hx7.lt
  have hn6 : n6 ≤ 4 := by have := hch7.len; have := hcl.out; omega
  simp only [List.getElem?_cons_zero, List.getElem?_cons_succ] at e0 e1
  have hrec := Lib.hid (fun W (hW : Below w7.heap.size w7 W) => Record_any t a6 n6 c6 (recC bs).1 W (by omega) htl' (hch7.to hW))
  go_region_held3 (fun w' => w'.cell? ⟨X, 0, none⟩ = some (.int .u64 (t : Int)) ∧ w'.cell? ⟨X, 1, none⟩ = some (.slice a6 n6 c6))
    (first
      | exact ⟨e0, e1⟩
      | exact ⟨(hb8.cell (p := ⟨X, 0, none⟩) lX).trans e0, (hb8.cell (p := ⟨X, 1, none⟩) lX).trans e1⟩
      | exact ⟨hg9.cell ((hb8.cell (p := ⟨X, 0, none⟩) lX).trans e0) (by simp; omega), hg9.cell ((hb8.cell (p := ⟨X, 1, none⟩) lX).trans e1) (by simp; omega)⟩
      | go_keep)
    (first
      | (go_at_call 40; refine (kept_eb _ _ _).mono ?_; rintro e w8 ⟨p8, q8, rfl, h2, hb8⟩)
      | (go_at_call 60; refine (keptEB_any _ (enters_of Try.func14 (by kernel_rfl) rfl) (recC bs).2.1 (recR t (recC bs).1) t a6 n6 c6 p8 q8 (B + 1) _ h2.cp h2.cq ((hb8.block (B + 1) lF).trans hx7) h2.lp h2.lq (fun _ W hW => hrec.out W (undrewB (hb8.trans (hW.mono hb8.size))))).mono ?_; rintro e w9 ⟨v9, rfl, ho9, hx9, hg9⟩))
  all_goals
    rw [← htq.out] at ho9 hx9
    have hb8' := undrewB hb8
    have gg : Fr [B + 1] w7 w9 := (Fr.of_below hb8').trans (Fr.of_grown hg9 (by simp))
    have hE9 := gg.arr hE7 (by simp; omega)
    have hR9 := gg.arr hR7 (by simp)
    have hO9 := hO7.fr gg (by intro x hx; simp at hx; subst hx; exact Boxed.apart hx7 _)
    have HF9 := Lib.hid (HF7.out.then gg (by intro x hx; simp at hx; have := HB.out; subst hx; left; omega))
    obtain ⟨a9, n9, c9, rfl, hrd9⟩ := ho9.reads
    have hrw9 := HR.out.to (HF9.out.below (Nat.le_refl _) (by simp))
    have HEq := Equal_any a9 a n9 c9 n cap _ _ w9 hrd9.toRd hrw9
    have c9 := hx9.cell
    have x0 := hE9.cell 0
    have x1 := hE9.cell 1
    have y0 := hR9.cell 0
    have y1 := hR9.cell 1
    have z0 := hR9.frozen 0
    have z1 := hR9.frozen 1
    simp only [List.getElem?_cons_zero, List.getElem?_cons_succ] at x0 x1 y0 y1
    have HE9 := Lib.hid hE9
    have HR9 := Lib.hid hR9
    have HO9 := Lib.hid hO9
    clear hx7 hE7 hR7 hO7 hch7 e0 e1 hb8 hb8' gg hE9 hR9 hO9 ho9 hx9 hg9 h2 hrd9 hrw9
    rcases hcase.out with ⟨q1, q2, q3⟩ | ⟨q1, q3⟩
    · rw [q1] at c9
      rw [q2, decide_eq_true rfl] at HEq
      subst q3
      clear q1 q2
      go_wp2_with (go_at_call 20; refine HEq.mono ?_; rintro e w1 ⟨rfl, rfl⟩)
      have g := setCells_grown B [.int .u64 (t : Int), .slice a6 n6 c6] w9 0
      have hR := (HR9.out.store 0 (.int .u64 (t : Int))).store 1 (.slice a6 n6 c6)
      refine end_cell2 rfl B 25 [.int .u64 (t : Int), .slice a6 n6 c6] _ _ rfl hR Try.underlying25 rfl sizeE rfl rfl ?_
      refine ⟨a6, n6, c6, rfl, ?_, ?_⟩
      · exact (HO9.out.fr (Fr.of_grown g (rs := [B]) (by simp)) (by intro x hx; simp at hx; subst hx; exact .inr ⟨_, _, HR9.out, by decide, by decide⟩)).mono (by have := HB.out; omega)
      · have := HB.out
        exact (HF9.out.then (Fr.of_grown g (rs := [B]) (by simp)) (by intro x hx; simp at hx; subst hx; left; omega)).below (Nat.le_refl _) (by simp)
    · subst q3
      have hend : ∀ W, Arr W B 25 [.int .u64 0, .slice none 0 0] → Fr [B] w9 W → TRes w ((0, []), 5) (.returned (.tuple #[.agg #[.int .u64 0, .slice none 0 0], .int .i64 5])) W := by
        intro W hW hg
        have := HB.out
        exact ⟨none, 0, 0, rfl, OwnC.nil _ _, (HF9.out.then hg (by intro x hx; simp at hx; subst hx; left; omega)).below (Nat.le_refl _) (by simp)⟩
      have g := setCells_grown B [.int .u64 0, .slice none 0 0] w9 0
      have hR := (HR9.out.store 0 (.int .u64 0)).store 1 (.slice none 0 0)
      by_cases h1 : (recA bs).2 = 0
      · rw [h1] at c9
        have h2 : (recA bs).1 ≠ bs := q1.elim (fun h => absurd h1 h) id
        rw [decide_eq_false h2] at HEq
        clear q1 h1 h2
        go_wp2_with (go_at_call 20; refine HEq.mono ?_; rintro e w1 ⟨rfl, rfl⟩)
        refine end_cell2 rfl B 25 [.int .u64 0, .slice none 0 0] _ _ rfl hR Try.underlying25 rfl sizeE rfl rfl ?_
        exact hend _ hR (Fr.of_grown g (by simp))
      · have hq : ((recA bs).2 != 0) = true := by simpa using h1
        clear q1 h1
        generalize (recA bs).2 = e3 at *
        go_wp2
        refine end_cell2 rfl B 25 [.int .u64 0, .slice none 0 0] _ _ rfl hR Try.underlying25 rfl sizeE rfl rfl ?_
        exact hend _ hR (Fr.of_grown g (by simp))
end Go.Proofs.Ytcohcjhbkiangaa
