/-
  Layer 6: Sign refuses, Verify, Id. Conditions: those in each statement.
-/
import Derived.Test.YtebegdifnkifgaaSgC
namespace Go.Proofs.Ytebegdifnkifgaa
open Go.RowKit

set_option maxHeartbeats 800000 in
theorem Sign_no (a b : Option Addr) (n m c d : Nat) (w : World) (hm : mayB n = false) (hn : n ≤ 140737488355328) :
    Calls Try.prog 8 #[.slice a n c, .slice b m d] w fun e w' => e = .returned (.tuple #[.agg (bvs (Z8 64)).toArray, .int .i64 1]) ∧ Below w.heap.size w w' := by
  have hmay : Hid (∀ w, Calls Try.prog 12 #[.slice a n c] w fun e w' => e = .returned (.bool false) ∧ w = w') := fun w => (May_any a n c w hn).mono fun e w' h => by rw [hm] at h; exact h
  clear hm
  have H64 : Hid ((Try.prog.info? 23).map (·.size) = some (bvs (Z8 64)).length) := sizeSig
  go_enter Try.func8, Try.ntmps8
  go_wp2_with (first
    | ((with_reducible show wpList _ _ _ (⟨some 4, .alloc _, _, _, _, _⟩ :: _) _ _); refine wl_alloc rfl 23 rfl (bvs (Z8 64)) 64 infoSig ?_; intro w1 hA1 hb1 hs1)
    | ((with_reducible show wpList _ _ _ (⟨some 6, .alloc _, _, _, _, _⟩ :: _) _ _); refine wl_alloc rfl 23 rfl (bvs (Z8 64)) 64 infoSig ?_; intro w2 hA2 hb2 hs2)
    | (go_at_call 12; refine (hmay.out _).mono ?_; rintro e w3 ⟨rfl, rfl⟩)
    | ((with_reducible show wpList _ _ _ (⟨some 13, .load _ _, _, _, _, _⟩ :: _) _ _); refine wl_load rfl 23 _ rfl w1.heap.size 0 rfl 23 (bvs (Z8 64)) (bvs (Z8 64)) hA2 (fun j v h => by rw [Nat.zero_add]; exact h) (.array 64 5) Try.underlying23 rfl H64.out ?_)
    | ((with_reducible show wpList _ _ _ (⟨none, .store _ _ _, _, _, _, _⟩ :: _) _ _); refine wl_store rfl 23 _ _ rfl w.heap.size 0 rfl (bvs (Z8 64)) rfl 23 _ (hA1.kept hb2) H64.out (by decide) (bvs_one _) ?_; intro w15 hR15 hg15 hs15))
  rw [whole_store _ _ (by rfl)] at hR15
  refine end_cell2 rfl w.heap.size 23 (bvs (Z8 64)) (.array 64 5) (.int .i64 1) rfl hR15 Try.underlying23 rfl H64.out rfl rfl ⟨rfl, ?_⟩
  exact (hb1.trans (hb2.mono (Nat.le_of_lt hs1))).grown hg15 (by omega) (by intro k e; injection e with e; omega)

theorem Sign_any (key msg : List UInt8) (a b : Option Addr) (n m c d : Nat) (w : World) (hn : n ≤ 140737488355328) (hmm : m ≤ 140737488355328) (hk : Rd w a n c key) (hs : Rd w b m d msg) :
    Calls Try.prog 8 #[.slice a n c, .slice b m d] w fun e w' => e = .returned (.tuple #[.agg (bvs (sigF key msg)).toArray, .int .i64 (errF n)]) ∧ Below w.heap.size w w' := by
  have hl := hk.len
  cases hm : mayB n with
  | true =>
    have e : sigF key msg = sgA key msg ++ sgB key msg := by unfold sigF; rw [hl, hm]; rfl
    have e2 : errF n = 0 := by unfold errF; rw [hm]; rfl
    rw [e, e2]
    exact Sign_yes key msg a b n m c d w hm hmm hk hs
  | false =>
    have e : sigF key msg = Z8 64 := by unfold sigF; rw [hl, hm]; rfl
    have e2 : errF n = 1 := by unfold errF; rw [hm]; rfl
    rw [e, e2]
    exact Sign_no a b n m c d w hm hn

theorem cellsSig : Try.prog.cellsOf 23 = 64 := by kernel_rfl
theorem eqSig {xs ys : List UInt8} (hx : xs.length = 64) (hy : ys.length = 64) (w : World) : (binOp .eql 23 (.agg (bvs xs).toArray) (.agg (bvs ys).toArray)).run Try.prog w = .ok (.bool (decide (xs = ys))) w :=
  run_eql_bytes Try.underlying23 Try.underlying5 cells1 infoSome hx hy
theorem neSig {xs ys : List UInt8} (hx : xs.length = 64) (hy : ys.length = 64) (w : World) : (binOp .neq 23 (.agg (bvs xs).toArray) (.agg (bvs ys).toArray)).run Try.prog w = .ok (.bool (!decide (xs = ys))) w :=
  run_neq_bytes Try.underlying23 Try.underlying5 cells1 infoSome hx hy

def verB (key msg sig : List UInt8) : Bool := mayB key.length && decide (sig = sigF key msg)

set_option maxHeartbeats 800000 in
theorem Verify_any (key msg sig : List UInt8) (a b : Option Addr) (n m c d : Nat) (w : World) (hn : n ≤ 140737488355328) (hmm : m ≤ 140737488355328) (hk : Rd w a n c key) (hs : Rd w b m d msg) (hg : sig.length = 64) :
    Calls Try.prog 14 #[.slice a n c, .slice b m d, .agg (bvs sig).toArray] w fun e w' => e = .returned (.bool (verB key msg sig)) ∧ Below w.heap.size w w' := by
  have hl := hk.len
  subst hl
  have hlen := sigF_len key msg
  have hS : Hid (∀ w, Rd w a key.length c key → Rd w b m d msg → Calls Try.prog 8 #[.slice a key.length c, .slice b m d] w fun e w' => e = .returned (.tuple #[.agg (bvs (sigF key msg)).toArray, .int .i64 (errF key.length)]) ∧ Below w.heap.size w w') :=
    fun w h1 h2 => Sign_any key msg a b key.length m c d w hn hmm h1 h2
  have heq : ∀ W, (binOp .eql 23 (.agg (bvs sig).toArray) (.agg (bvs (sigF key msg)).toArray)).run Try.prog W = .ok (.bool (decide (sig = sigF key msg))) W := eqSig hg hlen
  unfold verB
  have h64 : Hid ((Try.prog.info? 23).map (·.size) = some (bvs sig).length) := by show _ = _; rw [bvs_len, hg]; exact sizeSig
  have H64 : Hid ((Try.prog.info? 23).map (·.size) = some (bvs (sigF key msg)).length) := by show _ = _; rw [bvs_len, hlen]; exact sizeSig
  have L64 : Hid ((bvs (sigF key msg)).length = 64) := by show _ = _; rw [bvs_len, hlen]
  clear hlen hg
  generalize decide (sig = sigF key msg) = D at *
  generalize sigF key msg = S at *
  have fin : ∀ w1 w3 w4 w5 : World, Below w.heap.size w w1 → Below w1.heap.size w1 w3 → Below w3.heap.size w3 w4 → w4.grownBy w5 (some w3.heap.size) → Below w.heap.size w w5 := fun w1 w3 w4 w5 h1 h3 h4 h5 => by
    have := h1.size
    have := h3.size
    have := h4.size
    exact (h1.trans ((h3.mono (by omega)).trans (h4.mono (by omega)))).grown h5 (by omega) (by intro k e; injection e with e; omega)
  have FIN := Lib.hid fin
  clear fin
  cases hm : mayB key.length with
  | true =>
    have e2 : errF key.length = 0 := by unfold errF; rw [hm]; rfl
    rw [e2] at hS
    clear e2 hm
    rw [Bool.true_and]
    go_enter Try.func14, Try.ntmps14
    go_wp2_with (first
      | ((with_reducible show wpList _ _ _ (⟨some 5, .box _ _, _, _, _, _⟩ :: _) _ _); refine wl_box rfl 23 _ rfl (bvs sig) rfl ?_; intro w1 hA1 hb1 hs1)
      | (go_at_call 8; refine (hS.out _ (hk.to hb1) (hs.to hb1)).mono ?_; rintro e w3 ⟨rfl, hb3⟩)
      | ((with_reducible show wpList _ _ _ (⟨some 7, .alloc _, _, _, _, _⟩ :: _) _ _); refine wl_alloc rfl 23 rfl (bvs (Z8 64)) 64 infoSig ?_; intro w4 hA4 hb4 hs4)
      | ((with_reducible show wpList _ _ _ (⟨none, .store _ _ _, _, _, _, _⟩ :: _) _ _); refine wl_store rfl 23 _ _ rfl w3.heap.size 0 rfl (bvs S) rfl 23 _ hA4 H64.out (by rw [L64.out]; exact (by decide : 0 + 64 ≤ (bvs (Z8 64)).length)) (bvs_one _) ?_; intro w5 hA5 hg5 hs5; (have hB5 : Hid (Arr w5 w.heap.size 23 (bvs sig)) := ((hA1.kept hb3).kept hb4).grown hg5 (by intro e; injection e with e; have := hA1.lt; have := hb3.size; omega)); rw [whole_store _ _ (by rw [L64.out]; rfl)] at hA5)
      | ((with_reducible show wpList _ _ _ (⟨some 18, .load _ _, _, _, _, _⟩ :: _) _ _); go_loud (refine wl_loadG rfl 23 _ rfl w.heap.size 0 rfl 23 (bvs sig) (bvs sig) hB5.out (fun j v h => by rw [Nat.zero_add]; exact h) (.array 64 5) Try.underlying23 rfl h64.out ?_))
      | ((with_reducible show wpList _ _ _ (⟨some 19, .load _ _, _, _, _, _⟩ :: _) _ _); go_loud (refine wl_loadG rfl 23 _ rfl w3.heap.size 0 rfl 23 (bvs S) (bvs S) hA5 (fun j v h => by rw [Nat.zero_add]; exact h) (.array 64 5) Try.underlying23 rfl H64.out ?_)))
    go_ret
    exact ⟨rfl, FIN.out w1 w3 w4 w5 hb1 hb3 hb4 hg5⟩
  | false =>
    have e2 : errF key.length = 1 := by unfold errF; rw [hm]; rfl
    rw [e2] at hS
    clear e2 hm
    rw [Bool.false_and]
    go_enter Try.func14, Try.ntmps14
    go_wp2_with (first
      | ((with_reducible show wpList _ _ _ (⟨some 5, .box _ _, _, _, _, _⟩ :: _) _ _); refine wl_box rfl 23 _ rfl (bvs sig) rfl ?_; intro w1 hA1 hb1 hs1)
      | (go_at_call 8; refine (hS.out _ (hk.to hb1) (hs.to hb1)).mono ?_; rintro e w3 ⟨rfl, hb3⟩)
      | ((with_reducible show wpList _ _ _ (⟨some 7, .alloc _, _, _, _, _⟩ :: _) _ _); refine wl_alloc rfl 23 rfl (bvs (Z8 64)) 64 infoSig ?_; intro w4 hA4 hb4 hs4)
      | ((with_reducible show wpList _ _ _ (⟨none, .store _ _ _, _, _, _, _⟩ :: _) _ _); refine wl_store rfl 23 _ _ rfl w3.heap.size 0 rfl (bvs S) rfl 23 _ hA4 H64.out (by rw [L64.out]; exact (by decide : 0 + 64 ≤ (bvs (Z8 64)).length)) (bvs_one _) ?_; intro w5 hA5 hg5 hs5; clear hA5))
    go_ret
    exact ⟨rfl, FIN.out w1 w3 w4 w5 hb1 hb3 hb4 hg5⟩

/-- a log's number -/
def idF (key : List UInt8) : List UInt8 := if mayB key.length then shaL (0 :: key) else Z8 32
theorem idF_len (key : List UInt8) : (idF key).length = 32 := by
  unfold idF
  split
  · exact shaL_len _
  · simp [Z8]

set_option maxHeartbeats 800000 in
theorem Id_any (key : List UInt8) (a : Option Addr) (n c : Nat) (w : World) (hn : n ≤ 140737488355328) (hk : Rd w a n c key) :
    Calls Try.prog 10 #[.slice a n c] w fun e w' => e = .returned (.tuple #[.agg (bvs (idF key)).toArray, .int .i64 (errF n)]) ∧ Below w.heap.size w w' := by
  have hl := hk.len
  subst hl
  have hmay : Hid (∀ w, Calls Try.prog 12 #[.slice a key.length c] w fun e w' => e = .returned (.bool (mayB key.length)) ∧ w = w') := fun w => May_any a key.length c w hn
  cases hm : mayB key.length with
  | true =>
    have e1 : errF key.length = 0 := by unfold errF; rw [hm]; rfl
    have e2 : idF key = shaL (0 :: key) := by unfold idF; rw [hm]; rfl
    rw [hm] at hmay
    rw [e1, e2]
    have hml := mayB_le hm
    have hlen := shaL_len (0 :: key)
    have hH : Hid (∀ w g, PartsAt w g [key] → Calls Try.prog 22 #[.int .u8 0, .slice (some ⟨g, 0, none⟩) 1 1] w (Hash (0 :: key) w)) := fun w g h => by
      have := hash_any 0 g [key] 1 w h (by simp) (by simp; omega)
      simpa using this
    unfold Hash at hH
    have h32 : Hid ((Try.prog.info? 30).map (·.size) = some (bvs (shaL (0 :: key))).length) := by show _ = _; rw [bvs_len, hlen]; exact sizeD
    have L32 : Hid ((bvs (shaL (0 :: key))).length = 32) := by show _ = _; rw [bvs_len, hlen]
    clear e1 e2 hm hlen
    generalize shaL (0 :: key) = S at *
    have hp : Hid (∀ w1, Below w.heap.size w w1 → PartsAt (w1.alloc (.cells #[.slice a key.length c] 22)) w1.heap.size [key]) := fun w1 hb => parts_lit w1 22 (0, 0) [(a, key.length, c, key)] (by
      intro p hp
      simp only [List.mem_singleton] at hp
      subst hp
      exact hk.to hb)
    go_enter Try.func10, Try.ntmps10
    go_wp2_with (first
      | ((with_reducible show wpList _ _ _ (⟨some 2, .alloc _, _, _, _, _⟩ :: _) _ _); refine wl_alloc rfl 30 rfl (bvs (Z8 32)) 32 infoD ?_; intro w1 hA1 hb1 hs1)
      | (go_at_call 12; refine (hmay.out _).mono ?_; rintro e w3 ⟨rfl, rfl⟩)
      | (go_at_call 22; go_loud (refine (hH.out _ _ (hp.out _ hb1)).mono ?_); rintro e w5 ⟨rfl, hb5⟩)
      | ((with_reducible show wpList _ _ _ (⟨none, .store _ _ _, _, _, _, _⟩ :: _) _ _); refine wl_store rfl 30 _ _ rfl w.heap.size 0 rfl (bvs S) rfl 30 _ ((hA1.kept ((Below.refl _ _).alloc (Nat.le_refl _) _)).kept hb5) h32.out (by rw [L32.out]; exact (by decide : 0 + 32 ≤ (bvs (Z8 32)).length)) (bvs_one _) ?_; intro w15 hR15 hg15 hs15))
    rw [whole_store _ _ (by rw [L32.out]; rfl)] at hR15
    refine end_cell2 rfl w.heap.size 30 (bvs S) (.array 32 5) (.int .i64 0) rfl hR15 Try.underlying30 rfl h32.out rfl rfl ⟨rfl, ?_⟩
    have x5 := hb5.size
    rw [World.size_alloc] at x5
    exact ((hb1.alloc (by omega) _).trans (hb5.mono (by rw [World.size_alloc]; omega))).grown hg15 (by omega) (by intro k e; injection e with e; omega)
  | false =>
    have e1 : errF key.length = 1 := by unfold errF; rw [hm]; rfl
    have e2 : idF key = Z8 32 := by unfold idF; rw [hm]; rfl
    rw [hm] at hmay
    rw [e1, e2]
    clear e1 e2 hm
    have h32 : Hid ((Try.prog.info? 30).map (·.size) = some (bvs (Z8 32)).length) := sizeD
    go_enter Try.func10, Try.ntmps10
    go_wp2_with (first
      | ((with_reducible show wpList _ _ _ (⟨some 2, .alloc _, _, _, _, _⟩ :: _) _ _); refine wl_alloc rfl 30 rfl (bvs (Z8 32)) 32 infoD ?_; intro w1 hA1 hb1 hs1)
      | (go_at_call 12; refine (hmay.out _).mono ?_; rintro e w3 ⟨rfl, rfl⟩)
      | ((with_reducible show wpList _ _ _ (⟨none, .store _ _ _, _, _, _, _⟩ :: _) _ _); refine wl_store rfl 30 _ _ rfl w.heap.size 0 rfl (bvs (Z8 32)) rfl 30 _ hA1 h32.out (by decide) (bvs_one _) ?_; intro w15 hR15 hg15 hs15))
    rw [whole_store _ _ (by rfl)] at hR15
    refine end_cell2 rfl w.heap.size 30 (bvs (Z8 32)) (.array 32 5) (.int .i64 1) rfl hR15 Try.underlying30 rfl h32.out rfl rfl ⟨rfl, ?_⟩
    exact hb1.grown hg15 (by omega) (by intro k e; injection e with e; omega)
end Go.Proofs.Ytebegdifnkifgaa
