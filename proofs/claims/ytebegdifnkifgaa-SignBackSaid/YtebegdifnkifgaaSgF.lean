/-
  Layer 6: bytes.Equal, bytes.HasPrefix, Unmark. Conditions: those in each statement.
-/
import Derived.Test.YtebegdifnkifgaaSgE
namespace Go.Proofs.Ytebegdifnkifgaa
open Go.RowKit

theorem Equal_any (a a' : Option Addr) (n cap n' cap' : Nat) (xs ys : List UInt8) (w : World) (hr : Rd w a n cap xs) (hr' : Rd w a' n' cap' ys) :
    Calls Try.prog 32 #[.slice a n cap, .slice a' n' cap'] w fun e w' => e = .returned (.bool (decide (xs = ys))) ∧ w = w' := by
  have h1 := run_bstr bt Try.underlying9 hr
  have h2 := run_bstr bt Try.underlying9 hr'
  go_enter Try.func32, Try.ntmps32
  go_wp2
  go_ret
  refine ⟨ret_bool ?_, rfl⟩
  rw [Bool.eq_iff_iff]
  simp [bstr_toList]

theorem HasPrefix_any (a a' : Option Addr) (n cap n' cap' : Nat) (xs ys : List UInt8) (w : World) (hr : Rd w a n cap xs) (hr' : Rd w a' n' cap' ys) (hle : n' ≤ n) :
    Calls Try.prog 24 #[.slice a n cap, .slice a' n' cap'] w fun e w' => e = .returned (.bool (decide (xs.take n' = ys))) ∧ w = w' := by
  have hE : Hid (Calls Try.prog 32 #[.slice a n' cap, .slice a' n' cap'] w fun e w' => e = .returned (.bool (decide (xs.take n' = ys))) ∧ w = w') := Equal_any _ _ _ _ _ _ _ _ _ (hr.take n' hle) hr'
  have hc := hr.le
  have g1 : (n' : Int) ≤ (n : Int) := by omega
  have g2 : (n' : Int) ≤ (cap : Int) := by omega
  clear hr hr'
  go_enter Try.func24, Try.ntmps24
  go_wp2_with (go_at_call 32; go_loud (refine hE.out.mono ?_); rintro e w1 ⟨rfl, rfl⟩)
  go_ret
  exact ⟨rfl, rfl⟩

/-- the signature of which these bytes are the mark, and the error -/
def unmB (b : List UInt8) : Bool := decide (b.length = 68) && decide (b.take 4 = mhead)
def unmF (b : List UInt8) : List UInt8 := if unmB b then b.drop 4 else Z8 64
def unmE (b : List UInt8) : Int := if unmB b then 0 else 5
theorem unmF_len (b : List UInt8) : (unmF b).length = 64 := by
  unfold unmF
  split
  · rename_i h
    simp only [unmB, Bool.and_eq_true, decide_eq_true_eq] at h
    simp [h.1]
  · simp [Z8]
theorem unm_mark (s : List UInt8) (h : s.length = 64) : unmF (mhead ++ s) = s ∧ unmE (mhead ++ s) = 0 := by
  have : unmB (mhead ++ s) = true := by simp [unmB, mhead, h]
  unfold unmF unmE
  rw [this]
  exact ⟨by simp [mhead], rfl⟩
theorem mark_unm (b : List UInt8) (h : unmB b = true) : mhead ++ unmF b = b := by
  unfold unmF
  rw [h]
  simp only [unmB, Bool.and_eq_true, decide_eq_true_eq] at h
  rw [← h.2]
  simp

set_option maxHeartbeats 800000 in
theorem Unmark_len (a : Option Addr) (n c : Nat) (w : World) (h68 : n ≠ 68) :
    Calls Try.prog 16 #[.slice a n c] w fun e w' => e = .returned (.tuple #[.agg (bvs (Z8 64)).toArray, .int .i64 5]) ∧ Below w.heap.size w w' := by
  have g1 : ((n : Int) != 68) = true := by simp; omega
  have g2 : ((n : Int) == 68) = false := by simp; omega
  have H64 : Hid ((Try.prog.info? 23).map (·.size) = some (bvs (Z8 64)).length) := sizeSig
  clear h68
  go_enter Try.func16, Try.ntmps16
  go_wp2_with (first
    | ((with_reducible show wpList _ _ _ (⟨some 2, .alloc _, _, _, _, _⟩ :: _) _ _); refine wl_alloc rfl 23 rfl (bvs (Z8 64)) 64 infoSig ?_; intro w1 hA1 hb1 hs1)
    | ((with_reducible show wpList _ _ _ (⟨some 4, .alloc _, _, _, _, _⟩ :: _) _ _); refine wl_alloc rfl 23 rfl (bvs (Z8 64)) 64 infoSig ?_; intro w2 hA2 hb2 hs2)
    | ((with_reducible show wpList _ _ _ (⟨some 14, .load _ _, _, _, _, _⟩ :: _) _ _); refine wl_load rfl 23 _ rfl w1.heap.size 0 rfl 23 (bvs (Z8 64)) (bvs (Z8 64)) hA2 (fun j v h => by rw [Nat.zero_add]; exact h) (.array 64 5) Try.underlying23 rfl H64.out ?_)
    | ((with_reducible show wpList _ _ _ (⟨none, .store _ _ _, _, _, _, _⟩ :: _) _ _); refine wl_store rfl 23 _ _ rfl w.heap.size 0 rfl (bvs (Z8 64)) rfl 23 _ (hA1.kept hb2) H64.out (by decide) (bvs_one _) ?_; intro w15 hR15 hg15 hs15))
  rw [whole_store _ _ (by rfl)] at hR15
  refine end_cell2 rfl w.heap.size 23 (bvs (Z8 64)) (.array 64 5) (.int .i64 5) rfl hR15 Try.underlying23 rfl H64.out rfl rfl ⟨rfl, ?_⟩
  exact (hb1.trans (hb2.mono (Nat.le_of_lt hs1))).grown hg15 (by omega) (by intro k e; injection e with e; omega)

set_option maxHeartbeats 800000 in
theorem Unmark_head (b : List UInt8) (a : Option Addr) (c : Nat) (w : World) (hr : Rd w a 68 c b) (hh : decide (b.take 4 = mhead) = false) :
    Calls Try.prog 16 #[.slice a 68 c] w fun e w' => e = .returned (.tuple #[.agg (bvs (Z8 64)).toArray, .int .i64 5]) ∧ Below w.heap.size w w' := by
  have H64 : Hid ((Try.prog.info? 23).map (·.size) = some (bvs (Z8 64)).length) := sizeSig
  have hP : Hid (∀ a' c' w', Rd w' a 68 c b → Rd w' a' 4 c' mhead → Calls Try.prog 24 #[.slice a 68 c, .slice a' 4 c'] w' fun e w2 => e = .returned (.bool false) ∧ w' = w2) := fun a' c' w' h1 h2 => by
    have := HasPrefix_any a a' 68 c 4 c' b mhead w' h1 h2 (by omega)
    rw [hh] at this
    exact this
  clear hh
  go_enter Try.func16, Try.ntmps16
  go_wp2_with (first
    | ((with_reducible show wpList _ _ _ (⟨some 2, .alloc _, _, _, _, _⟩ :: _) _ _); refine wl_alloc rfl 23 rfl (bvs (Z8 64)) 64 infoSig ?_; intro w1 hA1 hb1 hs1)
    | ((with_reducible show wpList _ _ _ (⟨some 4, .alloc _, _, _, _, _⟩ :: _) _ _); refine wl_alloc rfl 23 rfl (bvs (Z8 64)) 64 infoSig ?_; intro w2 hA2 hb2 hs2)
    | (go_at_call 25; refine (markHead_any _).mono ?_; rintro e w3 ⟨v3, rfl, ho3, hb3⟩; obtain ⟨a3, c3, rfl, hsh3⟩ := ho3.shape)
    | (go_at_call 24; go_loud (refine (hP.out _ _ _ (((hr.to hb1).to hb2).to hb3) ho3.rd.toRd).mono ?_); rintro e w4 ⟨rfl, rfl⟩)
    | ((with_reducible show wpList _ _ _ (⟨some 14, .load _ _, _, _, _, _⟩ :: _) _ _); refine wl_load rfl 23 _ rfl w1.heap.size 0 rfl 23 (bvs (Z8 64)) (bvs (Z8 64)) (hA2.kept hb3) (fun j v h => by rw [Nat.zero_add]; exact h) (.array 64 5) Try.underlying23 rfl H64.out ?_)
    | ((with_reducible show wpList _ _ _ (⟨none, .store _ _ _, _, _, _, _⟩ :: _) _ _); refine wl_store rfl 23 _ _ rfl w.heap.size 0 rfl (bvs (Z8 64)) rfl 23 _ ((hA1.kept hb2).kept hb3) H64.out (by decide) (bvs_one _) ?_; intro w15 hR15 hg15 hs15))
  rw [whole_store _ _ (by rfl)] at hR15
  refine end_cell2 rfl w.heap.size 23 (bvs (Z8 64)) (.array 64 5) (.int .i64 5) rfl hR15 Try.underlying23 rfl H64.out rfl rfl ⟨rfl, ?_⟩
  have := hb2.size
  have := hb3.size
  exact (hb1.trans ((hb2.mono (by omega)).trans (hb3.mono (by omega)))).grown hg15 (by omega) (by intro k e; injection e with e; omega)

set_option maxHeartbeats 800000 in
theorem Unmark_yes (b : List UInt8) (a : Option Addr) (c : Nat) (w : World) (hr : Rd w a 68 c b) (hh : decide (b.take 4 = mhead) = true) :
    Calls Try.prog 16 #[.slice a 68 c] w fun e w' => e = .returned (.tuple #[.agg (bvs (b.drop 4)).toArray, .int .i64 0]) ∧ Below w.heap.size w w' := by
  have hP : Hid (∀ a' c' w', Rd w' a 68 c b → Rd w' a' 4 c' mhead → Calls Try.prog 24 #[.slice a 68 c, .slice a' 4 c'] w' fun e w2 => e = .returned (.bool true) ∧ w' = w2) := fun a' c' w' h1 h2 => by
    have := HasPrefix_any a a' 68 c 4 c' b mhead w' h1 h2 (by omega)
    rw [hh] at this
    exact this
  clear hh
  have hl := hr.len
  have hc := hr.le
  obtain ⟨bb, off, rfl, hbb, hcx⟩ := hr.mem (by omega)
  have hdl : (b.drop 4).length = 64 := by simp [hl]
  have h64 : Hid ((Try.prog.info? 23).map (·.size) = some (bvs (b.drop 4)).length) := by show _ = _; rw [bvs_len, hdl]; exact sizeSig
  have l64 : Hid ((bvs (b.drop 4)).length = 64) := by show _ = _; rw [bvs_len, hdl]
  have hd := rd_drop hr 4 (by omega) (by omega)
  generalize b.drop 4 = S at *
  have HL := Lib.hid hl
  have HDL := Lib.hid hdl
  have hlz : Hid ((bvs (Z8 64)).length = 64) := rfl
  have nc : ¬ c = 4 := by omega
  clear hl hdl hcx
  go_enter Try.func16, Try.ntmps16
  go_upto_region 4 with (first
    | ((with_reducible show wpList _ _ _ (⟨some 2, .alloc _, _, _, _, _⟩ :: _) _ _); refine wl_alloc rfl 23 rfl (bvs (Z8 64)) 64 infoSig ?_; intro w1 hA1 hb1 hs1)
    | ((with_reducible show wpList _ _ _ (⟨some 4, .alloc _, _, _, _, _⟩ :: _) _ _); refine wl_alloc rfl 23 rfl (bvs (Z8 64)) 64 infoSig ?_; intro w2 hA2 hb2 hs2)
    | (go_at_call 25; refine (markHead_any _).mono ?_; rintro e w3 ⟨v3, rfl, ho3, hb3⟩; obtain ⟨a3, c3, rfl, hsh3⟩ := ho3.shape)
    | (go_at_call 24; go_loud (refine (hP.out _ _ _ (((hr.to hb1).to hb2).to hb3) ho3.rd.toRd).mono ?_); rintro e w4 ⟨rfl, rfl⟩))
  have z2 := hb2.size
  have z3 := hb3.size
  obtain ⟨gR, hgR⟩ : ∃ gR, w.heap.size = gR := ⟨_, rfl⟩
  obtain ⟨gS, hgS⟩ : ∃ gS, w1.heap.size = gS := ⟨_, rfl⟩
  have hd3 := ((hd.to hb1).to hb2).to hb3
  have HGR := Lib.hid hgR
  rw [hgR] at hA1 hb1 hs1 ⊢
  rw [hgS] at hA2 hs1 hb2 z2 hs2 ⊢
  have hB3 : Below gR w w3 := hb1.trans ((hb2.mono (by omega)).trans (hb3.mono (by omega)))
  have hR3 := (hA1.to hb2 hs1).kept hb3
  have hS3 := hA2.kept hb3
  clear hr hd hA1 hA2 hb1 hb2 hb3 ho3 hgR hgS hsh3
  refine wp_region_still_tail 3 (by kernel_rfl) (by kernel_rfl) ?_
  simp only [List.take_succ_cons, List.take_zero, List.drop_succ_cons, List.drop_zero]
  change wpStill _ _ w3.drew _ _ _
  repeat still_step
  refine wpStill_nil ?_
  change wpList _ _ _ _ _ w3.drew
  have hdr : Hid (gR ≤ w3.drew.heap.size ∧ Below gR w w3.drew) := ⟨Nat.le_of_lt hR3.lt, hB3.drew⟩
  have hR5 : Arr w3.drew gR _ _ := hR3.drew
  have hS5 : Arr w3.drew gS _ _ := hS3.drew
  have hd5 := rd_drew hd3
  clear hR3 hS3 hd3 hB3
  generalize w3.drew = w5 at *
  have hsrc : Hid (∀ j v, (bvs S)[j]? = some v → w5.cell? ((⟨bb, off + 4, none⟩ : Addr).add j) = some v) := hd5.cells
  refine wl_copyV rfl _ _ 22 22 rfl 5 Try.underlying22 (by kernel_rfl) gS 0 64 64 _ 64 (c - 4) rfl rfl 23 _ hS5 (bvs S) (by rw [l64.out]; rfl) (fun _ => ⟨_, rfl, hsrc.out⟩) (by rw [l64.out, hlz.out]; omega) (bvs_one _) ?_
  intro w6 hS6 hg6 hs6
  have hR6 := hR5.grown hg6 (by intro e; injection e with e; omega)
  have hB6 := hdr.out.2.grown hg6 hdr.out.1 (by intro k e; injection e with e; omega)
  have q1 : Hid ((bvs (Z8 64)).take 0 ++ (bvs S ++ (bvs (Z8 64)).drop (0 + (bvs S).length)) = bvs S) := by
    show _ = _
    rw [l64.out]
    simp [bvs, Z8]
  rw [q1.out] at hS6
  rw [l64.out]
  clear hR5 hS5 hd5 hsrc hdr hg6 hs6
  go_wp2_with (first
    | ((with_reducible show wpList _ _ _ (⟨some 19, .load _ _, _, _, _, _⟩ :: _) _ _); refine wl_load rfl 23 _ rfl gS 0 rfl 23 (bvs S) (bvs S) hS6 (fun j v h => by rw [Nat.zero_add]; exact h) (.array 64 5) Try.underlying23 rfl h64.out ?_)
    | ((with_reducible show wpList _ _ _ (⟨none, .store _ _ _, _, _, _, _⟩ :: _) _ _); refine wl_store rfl 23 _ _ rfl gR 0 rfl (bvs S) rfl 23 _ hR6 h64.out (by rw [l64.out]; exact (by decide : 0 + 64 ≤ (bvs (Z8 64)).length)) (bvs_one _) ?_; intro w15 hR15 hg15 hs15))
  rw [whole_store _ _ (by rw [l64.out]; rfl)] at hR15
  refine end_cell2 rfl gR 23 (bvs S) (.array 64 5) (.int .i64 0) rfl hR15 Try.underlying23 rfl h64.out rfl rfl ⟨rfl, ?_⟩
  rw [HGR.out]
  exact hB6.grown hg15 (Nat.le_of_lt hR6.lt) (by intro k e; injection e with e; omega)

theorem Unmark_any (b : List UInt8) (a : Option Addr) (n c : Nat) (w : World) (hr : Rd w a n c b) :
    Calls Try.prog 16 #[.slice a n c] w fun e w' => e = .returned (.tuple #[.agg (bvs (unmF b)).toArray, .int .i64 (unmE b)]) ∧ Below w.heap.size w w' := by
  have hl := hr.len
  by_cases h68 : n = 68
  · subst h68
    cases hh : decide (b.take 4 = mhead) with
    | true =>
      have e : unmB b = true := by simp [unmB, hl, of_decide_eq_true hh]
      unfold unmF unmE
      rw [e]
      exact Unmark_yes b a c w hr hh
    | false =>
      have e : unmB b = false := by simp [unmB, hl, of_decide_eq_false hh]
      unfold unmF unmE
      rw [e]
      exact Unmark_head b a c w hr hh
  · have e : unmB b = false := by simp [unmB, hl, h68]
    unfold unmF unmE
    rw [e]
    exact Unmark_len a n c w h68
end Go.Proofs.Ytebegdifnkifgaa
