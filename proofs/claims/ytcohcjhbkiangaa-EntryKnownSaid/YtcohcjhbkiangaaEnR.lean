/-
  The program's takeList: its contract. Conditions: those in each statement.
-/
import Derived.Test.YtcohcjhbkiangaaEnQ
namespace Go.Proofs.Ytcohcjhbkiangaa
open Go.RowKit

def lenOf : Value → Nat
  | .slice _ n _ => n
  | _ => 0
theorem takeList_err (xs : List UInt8) : (takeListF xs).2.1 ≠ 0 → (takeListF xs).1 = [] := by
  unfold takeListF
  split
  · split
    · intro h; exact absurd rfl h
    · intro _; rfl
  · intro _; rfl
theorem takeList_rest (xs : List UInt8) : (takeListF xs).2.2 = (rvecF xs 3).2.2 := by
  unfold takeListF
  split
  · split <;> rfl
  · rfl
theorem takeList_first (xs : List UInt8) (h : (rvecF xs 3).2.1 ≠ 0) : (takeListF xs).2.1 = (rvecF xs 3).2.1 := by
  unfold takeListF; rw [if_neg h]
theorem takeList_then (xs : List UInt8) (h : (rvecF xs 3).2.1 = 0) : (takeListF xs).2.1 = (certsF 4 (rvecF xs 3).1).2 ∧ ((certsF 4 (rvecF xs 3).1).2 = 0 → (takeListF xs).1 = (certsF 4 (rvecF xs 3).1).1) := by
  unfold takeListF; rw [if_pos h]
  split
  · rename_i h2; exact ⟨h2.symm, fun _ => rfl⟩
  · rename_i h2; exact ⟨rfl, fun h => absurd h h2⟩
theorem rvec_len (xs : List UInt8) : (rvecF xs 3).1.length ≤ 16777215 ∧ (rvecF xs 3).2.2.length ≤ xs.length := by
  unfold rvecF
  rw [if_pos (by decide)]
  split
  · simp
  · split
    · simp
    · have := be_vec xs 3 (by omega)
      refine ⟨?_, ?_⟩
      · show ((xs.drop 3).take (beNat (xs.take 3))).length ≤ _
        rw [List.length_take]; omega
      · show (xs.drop (3 + beNat (xs.take 3))).length ≤ _
        rw [List.length_drop]; omega

theorem Fr.low {rs : List Nat} {a b c : World} {S : Nat} (h : Fr rs a b) (k : Below S b c) (hs : a.heap.size ≤ S) : Fr rs a c :=
  ⟨k.os.trans h.os, k.tape.trans h.tape, k.output.trans h.output, Nat.le_trans h.size k.size, fun i hi hn => (k.block i (Nat.lt_of_lt_of_le hi hs)).trans (h.block i hi hn)⟩
theorem certs_nil (k : Nat) : certsF k [] = ([], 0) := by cases k <;> simp [certsF]

/-- what stands at the head of takeList's loop -/
def TLI (TL : List (List UInt8) × Int × List UInt8) (w : World) (B : Nat) (q : Option Nat) (r : Nat) (q3 : Option Nat) (r3 S : Nat) (v : Value) (wr : World) : Prop :=
  ∃ (k : Nat) (e : Int) (av : Option Addr) (nv cv : Nat) (done : List (List UInt8)) (rest : List UInt8),
    v = .slice av nv cv ∧ nv + k = 4 ∧ OwnC wr S (.slice av nv cv) done ∧ Boxed wr B 28 (.int .i64 e) ∧ Rdr wr 102 [.bool true] q3 r3 rest ∧ Rdr wr 102 [.bool true] q r TL.2.2 ∧ Fr [r] w wr ∧ rest.length ≤ 140737488355328 ∧ S ≤ wr.heap.size ∧
    Hid ((e = 0 → TL.2.1 = (certsF k rest).2 ∧ ((certsF k rest).2 = 0 → TL.1 = done ++ (certsF k rest).1)) ∧ (e ≠ 0 → TL.2.1 = e))
def TLRes (w : World) (q : Option Nat) (r : Nat) (f : List (List UInt8) × Int × List UInt8) (e : Ending) (w' : World) : Prop :=
  ∃ v, e = .returned (.tuple #[v, .int .i64 f.2.1]) ∧ OwnC w' w.heap.size v f.1 ∧ Rdr w' 102 [.bool true] q r f.2.2 ∧ Fr [r] w w'

set_option maxHeartbeats 1000000 in
theorem takeList_any (q : Option Nat) (r : Nat) (xs : List UInt8) (w : World) (hm : xs.length ≤ 140737488355328) (hr : Rdr w 102 [.bool true] q r xs) (hql : ∀ k, q = some k → k < w.heap.size) :
    Calls Try.prog 46 #[.pointer (some ⟨r, 0, none⟩)] w (TLRes w q r (takeListF xs)) := by
  have lr := hr.lt
  have hb0 := hal w (.cells #[.int .i64 0] 28)
  have hx0 : Boxed (w.alloc (.cells #[.int .i64 0] 28)) w.heap.size 28 (.int .i64 0) := Boxed.new _ _ _
  have hr0 : Rdr (w.alloc (.cells #[.int .i64 0] 28)) 102 [.bool true] q r xs := (Fr.of_below (rs := []) hb0).rdr hr (by simp) (fun k e => ⟨hql k e, by simp⟩)
  have hs0 : (w.alloc (.cells #[.int .i64 0] 28)).heap.size = w.heap.size + 1 := by simp
  have hql' := Lib.hid hql
  have hlen := rvec_len xs
  have hlen1 := hlen.1
  obtain ⟨TL, hTL⟩ : ∃ TL, TL = takeListF xs := ⟨_, rfl⟩
  have HTL := Lib.hid hTL
  rw [← hTL]
  clear hr hql hlen hTL
  go_enter Try.func46, Try.ntmps46
  go_wp2_with fail
  generalize hw0 : w.alloc (.cells #[.int .i64 0] 28) = w0 at *
  clear hw0
  generalize hB : w.heap.size = B at *
  have HB := Lib.hid hB
  have HS0 := Lib.hid hs0
  have HB0 := Lib.hid hb0
  clear hB hs0 hb0
  refine (kept_ib _ _ _ _ _).mono ?_
  rintro e w1 ⟨p, pq, rfl, hp, hpq, lp, lpq, hb1⟩
  have hx1 := (Fr.of_below (rs := []) hb1).boxed hx0 (by simp)
  have hr1 := (Fr.of_below (rs := []) hb1).rdr hr0 (by simp) (fun k e => ⟨by have := hql'.out k e; have := HS0.out; omega, by simp⟩)
  have hs1 := hb1.size
  have HB1 := Lib.hid hb1
  clear hx0 hr0 hb1
  go_wp2_with fail
  refine (keptVec_any 0 3 q r xs p pq B w1 hm hp hpq hx1 hr1 (by intro e; have := hql'.out _ e; omega)).mono ?_
  rintro e w2 ⟨v2, rfl, ho2, hx2, hr2, hf2⟩
  rw [show keptT 0 [] xs (rvecF xs 3) = rvecF xs 3 from rfl] at ho2 hx2 hr2
  obtain ⟨a2, n2, c2, rfl, hrd2⟩ := ho2.reads
  have hn2 : n2 ≤ 16777215 := by have := hrd2.len; omega
  have hs2 := hf2.size
  clear ho2 hx1 hr1 hp hpq
  go_wp2_with fail
  refine (New_any a2 n2 c2 _ w2 (by omega) hrd2.toRd).mono ?_
  rintro e w3 ⟨q3, r3, rfl, hr3, hq3, lr3, hb3⟩
  have f3 := Fr.of_below (rs := [r, B]) hb3
  have hx3 := (Fr.of_below (rs := []) hb3).boxed hx2 (by simp)
  have hr3' := (Fr.of_below (rs := []) hb3).rdr hr2 (by simp) (fun k e => ⟨by have := hql'.out k e; have := HS0.out; omega, by simp⟩)
  have hF : Fr [r] w w3 := (Fr.of_below (by rw [HB.out]; exact HB0.out)).then (((Fr.of_below HB1.out).trans hf2).trans f3) (by intro x hx; simp at hx; rcases hx with rfl | rfl; exact .inr (by simp); exact .inl (by rw [HB.out]; exact Nat.le_refl _))
  have hB3 : B + 1 ≤ w2.heap.size := by have := HS0.out; omega
  obtain ⟨S, hSe⟩ : ∃ S, S = w3.heap.size := ⟨_, rfl⟩
  have hr3S : r3 < S := by rw [hSe]; exact hr3.lt
  have hBS : B < S := by rw [hSe]; have := hb3.size; omega
  have HQ3 : Hid (∀ k, q3 = some k → B + 1 ≤ k ∧ k < S) := fun k e => ⟨Nat.le_trans hB3 (hq3 k e).1, by rw [hSe]; exact (hq3 k e).2⟩
  have hR3 : B + 1 ≤ r3 := Nat.le_trans hB3 lr3
  have hst : TLI TL w B q r q3 r3 S (.slice none 0 0) w3 := by
    refine ⟨4, _, none, 0, 0, [], _, rfl, rfl, OwnC.nil _ _, hx3, hr3, ?_, hF, by omega, Nat.le_of_eq hSe, ?_⟩
    · rw [HTL.out, takeList_rest]; exact hr3'
    · refine ⟨fun h => ?_, fun h => ?_⟩
      · rw [HTL.out]; have := takeList_then xs h; simpa using this
      · rw [HTL.out]; exact takeList_first xs h
  clear hSe hF hx3 hr3 hr3' hb3 f3 hx2 hr2 hf2 hrd2 hlen1 hq3 lr3
  go_wp2_with fail
  go_loopw [6] (fun v wr => TLI TL w B q r q3 r3 S v wr) (fun v _ => 4 - lenOf v)
  case atStart => exact hst
  case round =>
    obtain ⟨k, e, av, nv, cv, done, rest, rfl, hk, hO, hx, hR, hR0, hF, hlr, hS, hinv⟩ := hrel
    have hcx := hx.cell
    have hl := Left_any q3 r3 rest wr hR
    have hbr : B ≤ wr.heap.size := by have := hF.size; have := HB.out; omega
    have hfrz := hx.frozen
    by_cases he : e = 0
    · subst he
      have HI := Lib.hid (hinv.out.1 rfl)
      clear hinv
      by_cases hz : 0 < rest.length ∧ nv < 4
      · obtain ⟨hz1, hz2⟩ := hz
        have hne : rest ≠ [] := by intro e; rw [e] at hz1; simp at hz1
        obtain ⟨k, rfl⟩ : ∃ m, k = m + 1 := ⟨k - 1, by omega⟩
        have hcf : Hid ((rvecF rest 3).2.1 = 0 → certsF (k + 1) rest = ((rvecF rest 3).1 :: (certsF k (rvecF rest 3).2.2).1, (certsF k (rvecF rest 3).2.2).2)) := fun h => by
          conv => lhs; unfold certsF
          rw [if_neg hne, if_pos h]
        have hcg : Hid ((rvecF rest 3).2.1 ≠ 0 → (certsF (k + 1) rest).2 = (rvecF rest 3).2.1) := fun h => by
          conv => lhs; unfold certsF
          rw [if_neg hne, if_neg h]
        have hrl := Lib.hid (rvec_len rest)
        have HQ := Lib.hid hql'
        have HZ := Lib.hid hne
        have HK := Lib.hid hk
        have HO := Lib.hid hO
        clear hne hk hO
        go_wp2_with (go_at_call 67; refine hl.mono ?_; rintro e w1 ⟨rfl, rfl⟩)
        refine (kept_ib _ _ _ _ _).mono ?_
        rintro e w4 ⟨p4, pq4, rfl, hp4, hpq4, lp4, lpq4, hb4⟩
        have hsw := hb4.size
        have hbl := hx.lt
        have f4 := Fr.of_below (rs := [r3, B]) hb4
        have hx4 := (Fr.of_below (rs := []) hb4).boxed hx (by simp)
        have hR4 := (Fr.of_below (rs := []) hb4).rdr hR (by simp) (fun k e => ⟨by have := HQ3.out k e; omega, by simp⟩)
        have HO4 := Lib.hid (HO.out.to hb4)
        have HF4 := Lib.hid f4
        clear hb4 f4 hcx hfrz hl
        go_wp2_with fail
        refine (keptVec_any 0 3 q3 r3 rest p4 pq4 B w4 hlr hp4 hpq4 hx4 hR4 (by intro e; have := HQ3.out _ e; omega)).mono ?_
        rintro e w5 ⟨v5, rfl, ho5, hx5, hR5, hf5⟩
        rw [show keptT 0 [] rest (rvecF rest 3) = rvecF rest 3 from rfl] at ho5 hx5 hR5
        have hap : ∀ x ∈ [r3, B], Apart w4 S x := by
          intro x hx
          simp at hx
          rcases hx with rfl | rfl
          · exact .inl hr3S
          · exact .inl hBS
        have HO5 := Lib.hid (HO4.out.fr hf5 hap)
        have hs4 : S ≤ w4.heap.size := by omega
        have hs5 := hf5.size
        have f5 : Fr [r3, B] wr w5 := HF4.out.trans hf5
        have hxo := Lib.hid (ownC_lit (B := S) (w := w5) (by omega) (ho5.mono hs4))
        have hb6 := hal w5 (.cells #[v5] 27)
        have HO6 := Lib.hid (HO5.out.to hb6)
        have hdn : done.length ≤ 1000 := by have := HO.out.len; omega
        have hB6 : S ≤ (w5.alloc (.cells #[v5] 27)).heap.size := by simp; omega
        obtain ⟨a5, n5, c5, rfl, -⟩ := ho5.reads
        clear ho5 hap hx4 hR4 hp4 hpq4
        go_wp2_with (at_builtin; refine wl_appendC rfl (.tmp 24) (.tmp 29) rfl S (.slice av nv cv) done HO6.out rfl (.slice (some ⟨w5.heap.size, 0, none⟩) 1 1) [(rvecF rest 3).1] hxo.out rfl (by simp; omega) hB6 ?_; intro v7 w7 hO7 hb7; obtain ⟨a7, n7, c7, rfl, hch7⟩ := hO7.chn)
        have hb57 : Below S w5 w7 := (hb6.mono (by omega)).trans hb7
        have hwB : w.heap.size = B := HB.out
        have f7 : Fr [r] w w7 := (hF.then f5 (by intro x hx; simp at hx; rcases hx with rfl | rfl <;> (left; omega))).low hb57 (by omega)
        have hR7 : Rdr w7 102 [.bool true] q r TL.2.2 := hR0.kept (Nat.le_trans f5.size hb57.size) (fun k e => by
          have := HQ.out.out k e
          rw [hb57.block k (by omega)]
          exact f5.block k (by omega) (by simp; omega)) (by
          rw [hb57.block r (by omega)]
          exact f5.block r (by omega) (by simp; omega))
        clear hwB
        have h7r : Rdr w7 102 [.bool true] q3 r3 (rvecF rest 3).2.2 := hR5.kept hb57.size (fun k e => hb57.block k (HQ3.out k e).2) (hb57.block r3 hr3S)
        have hx7 : Boxed w7 B 28 (.int .i64 (rvecF rest 3).2.1) := (hb57.block B hBS).trans hx5
        go_roundw
        case rel =>
          refine ⟨k, (rvecF rest 3).2.1, a7, n7, c7, done ++ [(rvecF rest 3).1], (rvecF rest 3).2.2, rfl, ?_, hO7, hx7, h7r, ?_, ?_, ?_, ?_, ?_⟩
          · have := hO7.len
            have h2 := HO.out.len
            have := HK.out
            simp at *
            omega
          · exact hR7
          · exact f7
          · have := hrl.out.2
            omega
          · have := hb57.size
            omega
          · refine ⟨fun h => ?_, fun h => ?_⟩
            · obtain ⟨h1, h2⟩ := HI.out
              rw [hcf.out h] at h1 h2
              refine ⟨h1, fun h3 => ?_⟩
              rw [h2 h3]
              simp
            · obtain ⟨h1, h2⟩ := HI.out
              rw [h1, hcg.out h]
        case measure =>
          have := hO7.len
          have h2 := HO.out.len
          simp [lenOf] at *
          omega
      · have hfin : Hid (TL.2.1 = 0 ∧ TL.1 = done) := by
          obtain ⟨h1, h2⟩ := HI.out
          have h3 : certsF k rest = ([], 0) := by
            rcases Nat.eq_zero_or_pos rest.length with h | h
            · rw [List.eq_nil_of_length_eq_zero h, certs_nil]
            · obtain rfl : k = 0 := by omega
              rfl
          rw [h3] at h1 h2
          exact ⟨h1, by rw [h2 rfl]; simp⟩
        have hend : ∀ v', v' = .slice av nv cv → TLRes w q r TL (.returned (.tuple #[v', .int .i64 0])) wr := by
          rintro _ rfl
          refine ⟨.slice av nv cv, by rw [hfin.out.1], ?_, hR0, hF⟩
          rw [hfin.out.2]
          exact hO.mono (by rw [HB.out]; omega)
        clear hR hR0 hF hO
        rcases (show rest.length = 0 ∨ (0 < rest.length ∧ nv = 4) from by omega) with hz1 | ⟨hz1, hz2⟩
        · rw [hz1] at hl
          go_wp2_with (go_at_call 67; refine hl.mono ?_; rintro e w1 ⟨rfl, rfl⟩)
          go_ret2
          exact hend _ rfl
        · subst hz2
          go_wp2_with (go_at_call 67; refine hl.mono ?_; rintro e w1 ⟨rfl, rfl⟩)
          go_ret2
          exact hend _ rfl
    · have hq : (e == 0) = false := by simpa using he
      have hq2 : (e != 0) = true := by simpa using he
      have hfin : Hid (TL.2.1 = e) := hinv.out.2 he
      go_wp2
      go_region
      go_wp2
      go_ret2
      refine ⟨.slice none 0 0, by rw [hfin.out]; rfl, ?_, hR0.drew, hF.drew⟩
      rw [HTL.out, takeList_err xs (by rw [← HTL.out, hfin.out]; exact he)]
      exact OwnC.nil _ _
end Go.Proofs.Ytcohcjhbkiangaa
