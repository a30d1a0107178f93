/-
  SignSigns: any key's signature of any message, its log's number, whether any signature is right, are the document's; what is handed in stays. Conditions: those in each statement.
-/
import Derived.Test.YtebegdifnkifgaaSgN
namespace Go.Proofs.Ytebegdifnkifgaa
open Go.RowKit

set_option maxRecDepth 100000 in
set_option maxHeartbeats 3200000 in
theorem Signs_law (key msg sig : List UInt8) (a b : Option Addr) (n m c d : Nat) (w : World) (hn : n ≤ 140737488351232) (hm : m ≤ 140737488351232) (hk : Rd w a n c key) (hs : Rd w b m d msg) (hg : sig.length = 64) :
    Calls Try.prog 3 #[.slice a n c, .slice b m d, .agg (bvs sig).toArray] w fun e w' => e = .returned (.bool true) ∧ Below w.heap.size w w' := by
  have hlen := hk.len
  have hlenm := hs.len
  subst hlen hlenm
  have hSg := Lib.hid (fun p q c d W (h1 : Rd W p key.length c key) (h2 : Rd W q msg.length d msg) => Sign_any key msg p q _ _ c d W (by omega) (by omega) h1 h2)
  have hRs := Lib.hid (fun W (h : Below w.heap.size w W) => rSign_any key msg a b _ _ c d W hn hm (hk.to h) (hs.to h))
  have hId := Lib.hid (fun p c W (h1 : Rd W p key.length c key) => Id_any key p _ c W (by omega) h1)
  have hRi := Lib.hid (fun W (h : Below w.heap.size w W) => rId_any key a _ c W hn (hk.to h))
  have hMy := Lib.hid (fun p c W => May_any p key.length c W (by omega))
  have hRm := Lib.hid (fun W => rMay_any a key.length c W (by omega))
  have hVf := Lib.hid (fun p q c d W (h1 : Rd W p key.length c key) (h2 : Rd W q msg.length d msg) => Verify_any key msg sig p q _ _ c d W (by omega) (by omega) h1 h2 hg)
  have hSl := sigF_len key msg
  have hIl := idF_len key
  have h64 : Hid ((Try.prog.info? 23).map (·.size) = some (bvs sig).length) := by show _ = _; rw [bvs_len, hg]; exact sizeSig
  have hS64 : Hid ((Try.prog.info? 23).map (·.size) = some (bvs (sigF key msg)).length) := by show _ = _; rw [bvs_len, hSl]; exact sizeSig
  have LS64 : Hid ((bvs (sigF key msg)).length = 64) := by show _ = _; rw [bvs_len, hSl]
  have hI32 : Hid ((Try.prog.info? 30).map (·.size) = some (bvs (idF key)).length) := by show _ = _; rw [bvs_len, hIl]; exact sizeD
  have LI32 : Hid ((bvs (idF key)).length = 32) := by show _ = _; rw [bvs_len, hIl]
  have heqS := Lib.hid (fun W => (eqSig hSl hSl W).trans (by rw [decide_eq_true rfl]))
  have heqI := Lib.hid (fun W => (eqD hIl hIl W).trans (by rw [decide_eq_true rfl]))
  have heqV := Lib.hid (fun W => eqSig hg hSl W)
  have hal : Hid (∀ (w : World) o, Below w.heap.size w (w.alloc o)) := fun w o => (Below.refl _ _).alloc (Nat.le_refl _) _
  have HKB := Lib.hid hk
  have HMB := Lib.hid hs
  have hver : Hid (verB key msg sig = (mayB key.length && decide (sig = sigF key msg))) := rfl
  rw [hver.out] at hVf
  clear hSl hIl hg hk hs hver
  generalize decide (sig = sigF key msg) = D at *
  generalize hqS : bvs (sigF key msg) = S at *
  have honS : Hid (∀ v ∈ S, v.oneCell' = true) := by rw [← hqS]; exact bvs_one _
  generalize hqI : bvs (idF key) = I at *
  have honI : Hid (∀ v ∈ I, v.oneCell' = true) := by rw [← hqI]; exact bvs_one _
  clear hqS hqI
  go_enter Try.func3, Try.ntmps3
  go_upto_region 2 with (first
    | ((with_reducible show wpList _ _ _ (⟨some 5, .box _ _, _, _, _, _⟩ :: _) _ _); refine wl_box rfl 23 _ rfl (bvs sig) rfl ?_; intro w1 hA1 hb1 hs1)
    | ((with_reducible show wpList _ _ _ (⟨some 18, _, _, _, _, _⟩ :: _) _ _); go_loud (refine wl_append bt rfl _ _ rfl w1.heap.size _ [] (Own.nil _ _ _) rfl a key.length c key rfl (HKB.out.to hb1) (by simp; omega) (Nat.le_refl _) ?_); intro v2 w2 ho2 hb2; rw [List.nil_append] at ho2; obtain ⟨a2, c2, rfl, hsh2⟩ := ho2.shape)
    | ((with_reducible show wpList _ _ _ (⟨some 20, _, _, _, _, _⟩ :: _) _ _); go_loud (refine wl_append bt rfl _ _ rfl w2.heap.size _ [] (Own.nil _ _ _) rfl b msg.length d msg rfl ((HMB.out.to hb1).to hb2) (by simp; omega) (Nat.le_refl _) ?_); intro v3 w3 ho3 hb3; rw [List.nil_append] at ho3; obtain ⟨a3, c3, rfl, hsh3⟩ := ho3.shape))
  have hkA3 : Rd w3 a2 key.length c2 key := (ho2.to hb3).rd.toRd
  have hmA3 : Rd w3 a3 msg.length c3 msg := ho3.rd.toRd
  have hX3 := (hA1.kept hb2).kept hb3
  have hb3w : Below w.heap.size w w3 := hb1.trans ((hb2.mono (by omega)).trans (hb3.mono (by have := hb2.size; omega)))
  clear ho2 ho3 hb1 hb2 hb3 hA1 hsh2 hsh3
  go_upto_region 3 with (first
    | (go_at_call 8; go_loud (refine (hSg.out a2 a3 c2 c3 _ hkA3 hmA3).mono ?_); rintro e wa ⟨rfl, hba⟩)
    | ((with_reducible show wpList _ _ _ (⟨some 9, .alloc _, _, _, _, _⟩ :: _) _ _); refine wl_alloc rfl 23 rfl (bvs (Z8 64)) 64 infoSig ?_; intro wb hAb hbb hsb)
    | ((with_reducible show wpList _ _ _ (⟨none, .store _ _ _, _, _, _, _⟩ :: _) _ _); go_loud (refine wl_store rfl 23 _ _ rfl wa.heap.size 0 rfl S rfl 23 _ hAb hS64.out (by rw [LS64.out]; exact (by decide : 0 + 64 ≤ (bvs (Z8 64)).length)) honS.out ?_); intro w4 hA4 hgb hsc))
  rw [whole_store _ _ (by rw [LS64.out]; rfl)] at hA4
  have hbx : Below w3.heap.size w3 w4 := (hba.trans (hbb.mono hba.size)).grown hgb (by have := hba.size; have := hbb.size; omega) (by intro k e; injection e with e; have := hba.size; omega)
  have hkA4 := hkA3.to hbx
  have hmA4 := hmA3.to hbx
  have hX4 := hX3.kept hbx
  have hb4w := hb3w.trans (hbx.mono hb3w.size)
  obtain ⟨gp, he⟩ : ∃ g, wa.heap.size = g := ⟨_, rfl⟩
  rw [he] at hA4 ⊢
  have hgp4 := hA4
  clear hba hbb hAb hsb hgb hsc hbx he hb3w hA4 hkA3 hmA3 hX3
  go_upto_region 4 with (first
    | (go_at_call 9; go_loud (refine (hRs.out _ hb4w).mono ?_); rintro e wa ⟨rfl, hba⟩)
    | ((with_reducible show wpList _ _ _ (⟨some 11, .alloc _, _, _, _, _⟩ :: _) _ _); refine wl_alloc rfl 23 rfl (bvs (Z8 64)) 64 infoSig ?_; intro wb hAb hbb hsb)
    | ((with_reducible show wpList _ _ _ (⟨none, .store _ _ _, _, _, _, _⟩ :: _) _ _); go_loud (refine wl_store rfl 23 _ _ rfl wa.heap.size 0 rfl S rfl 23 _ hAb hS64.out (by rw [LS64.out]; exact (by decide : 0 + 64 ≤ (bvs (Z8 64)).length)) honS.out ?_); intro w5 hA5 hgb hsc))
  rw [whole_store _ _ (by rw [LS64.out]; rfl)] at hA5
  have hbx : Below w4.heap.size w4 w5 := (hba.trans (hbb.mono hba.size)).grown hgb (by have := hba.size; have := hbb.size; omega) (by intro k e; injection e with e; have := hba.size; omega)
  have hkA5 := hkA4.to hbx
  have hmA5 := hmA4.to hbx
  have hX5 := hX4.kept hbx
  have hgp5 := hgp4.kept hbx
  have hb5w := hb4w.trans (hbx.mono hb4w.size)
  obtain ⟨gq, he⟩ : ∃ g, wa.heap.size = g := ⟨_, rfl⟩
  rw [he] at hA5 ⊢
  have hgq5 := hA5
  clear hba hbb hAb hsb hgb hsc hbx he hb4w hA5 hkA4 hmA4 hX4 hgp4
  go_upto_region 5 with (first
    | (go_at_call 10; go_loud (refine (hId.out a2 c2 _ hkA5).mono ?_); rintro e wa ⟨rfl, hba⟩)
    | ((with_reducible show wpList _ _ _ (⟨some 13, .alloc _, _, _, _, _⟩ :: _) _ _); refine wl_alloc rfl 30 rfl (bvs (Z8 32)) 32 infoD ?_; intro wb hAb hbb hsb)
    | ((with_reducible show wpList _ _ _ (⟨none, .store _ _ _, _, _, _, _⟩ :: _) _ _); go_loud (refine wl_store rfl 30 _ _ rfl wa.heap.size 0 rfl I rfl 30 _ hAb hI32.out (by rw [LI32.out]; exact (by decide : 0 + 32 ≤ (bvs (Z8 32)).length)) honI.out ?_); intro w6 hA6 hgb hsc))
  rw [whole_store _ _ (by rw [LI32.out]; rfl)] at hA6
  have hbx : Below w5.heap.size w5 w6 := (hba.trans (hbb.mono hba.size)).grown hgb (by have := hba.size; have := hbb.size; omega) (by intro k e; injection e with e; have := hba.size; omega)
  have hkA6 := hkA5.to hbx
  have hmA6 := hmA5.to hbx
  have hX6 := hX5.kept hbx
  have hgp6 := hgp5.kept hbx
  have hgq6 := hgq5.kept hbx
  have hb6w := hb5w.trans (hbx.mono hb5w.size)
  obtain ⟨gr, he⟩ : ∃ g, wa.heap.size = g := ⟨_, rfl⟩
  rw [he] at hA6 ⊢
  have hgr6 := hA6
  clear hba hbb hAb hsb hgb hsc hbx he hb5w hA6 hkA5 hmA5 hX5 hgp5 hgq5
  go_upto_region 6 with (first
    | (go_at_call 11; go_loud (refine (hRi.out _ hb6w).mono ?_); rintro e wa ⟨rfl, hba⟩)
    | ((with_reducible show wpList _ _ _ (⟨some 15, .alloc _, _, _, _, _⟩ :: _) _ _); refine wl_alloc rfl 30 rfl (bvs (Z8 32)) 32 infoD ?_; intro wb hAb hbb hsb)
    | ((with_reducible show wpList _ _ _ (⟨none, .store _ _ _, _, _, _, _⟩ :: _) _ _); go_loud (refine wl_store rfl 30 _ _ rfl wa.heap.size 0 rfl I rfl 30 _ hAb hI32.out (by rw [LI32.out]; exact (by decide : 0 + 32 ≤ (bvs (Z8 32)).length)) honI.out ?_); intro w7 hA7 hgb hsc))
  rw [whole_store _ _ (by rw [LI32.out]; rfl)] at hA7
  have hbx : Below w6.heap.size w6 w7 := (hba.trans (hbb.mono hba.size)).grown hgb (by have := hba.size; have := hbb.size; omega) (by intro k e; injection e with e; have := hba.size; omega)
  have hkA7 := hkA6.to hbx
  have hmA7 := hmA6.to hbx
  have hX7 := hX6.kept hbx
  have hgp7 := hgp6.kept hbx
  have hgq7 := hgq6.kept hbx
  have hgr7 := hgr6.kept hbx
  have hb7w := hb6w.trans (hbx.mono hb6w.size)
  obtain ⟨gs, he⟩ : ∃ g, wa.heap.size = g := ⟨_, rfl⟩
  rw [he] at hA7 ⊢
  have hgs7 := hA7
  clear hba hbb hAb hsb hgb hsc hbx he hb6w hA7 hkA6 hmA6 hX6 hgp6 hgq6 hgr6
  have heq1 := heqS.out
  have heq2 := heqI.out
  have heq3 := heqV.out
  have hME : (mayB key.length = true ∧ errF key.length = 0) ∨ (mayB key.length = false ∧ errF key.length = 1) := by
    unfold errF
    cases mayB key.length
    · exact .inr ⟨rfl, rfl⟩
    · exact .inl ⟨rfl, rfl⟩
  have HME := Lib.hid hME
  clear hME
  generalize mayB key.length = M at *
  generalize errF key.length = E at *
  go_wp2_with (first
    | ((with_reducible show wpList _ _ _ (⟨some 43, .load _ _, _, _, _, _⟩ :: _) _ _); go_loud (refine wl_load rfl 23 _ rfl gp 0 rfl 23 S S hgp7 (fun j v h => by rw [Nat.zero_add]; exact h) (.array 64 5) Try.underlying23 rfl hS64.out ?_))
    | ((with_reducible show wpList _ _ _ (⟨some 44, .load _ _, _, _, _, _⟩ :: _) _ _); go_loud (refine wl_load rfl 23 _ rfl gq 0 rfl 23 S S hgq7 (fun j v h => by rw [Nat.zero_add]; exact h) (.array 64 5) Try.underlying23 rfl hS64.out ?_))
    | ((with_reducible show wpList _ _ _ (⟨some 52, .load _ _, _, _, _, _⟩ :: _) _ _); go_loud (refine wl_loadG rfl 30 _ rfl gr 0 rfl 30 I I hgr7 (fun j v h => by rw [Nat.zero_add]; exact h) (.array 32 5) Try.underlying30 rfl hI32.out ?_))
    | ((with_reducible show wpList _ _ _ (⟨some 53, .load _ _, _, _, _, _⟩ :: _) _ _); go_loud (refine wl_loadG rfl 30 _ rfl gs 0 rfl 30 I I hgs7 (fun j v h => by rw [Nat.zero_add]; exact h) (.array 32 5) Try.underlying30 rfl hI32.out ?_)))
  refine (hMy.out a2 c2 w7).mono ?_
  rintro e wq ⟨rfl, rfl⟩
  go_wp2_with fail
  refine (hRm.out w7).mono ?_
  rintro e wq ⟨rfl, rfl⟩
  clear heq1 heq2 heq3
  go_wp2_with (((with_reducible show wpList _ _ _ (⟨some 71, .load _ _, _, _, _, _⟩ :: _) _ _); go_loud (refine wl_loadG rfl 23 _ rfl w.heap.size 0 rfl 23 (bvs sig) (bvs sig) hX7 (fun j v h => by rw [Nat.zero_add]; exact h) (.array 64 5) Try.underlying23 rfl h64.out ?_)))
  refine (hVf.out a2 a3 c2 c3 w7 hkA7 hmA7).mono ?_
  rintro e w8 ⟨rfl, hb8⟩
  have hX8 := hX7.kept hb8
  have hQ8 := hgq7.kept hb8
  have s1 := run_bstr bt Try.underlying9 (hkA7.to hb8)
  have s2 := run_bstr bt Try.underlying9 (hmA7.to hb8)
  have hb8w := hb7w.trans (hb8.mono hb7w.size)
  have s3 := run_bstr bt Try.underlying9 (HKB.out.to hb8w)
  have s4 := run_bstr bt Try.underlying9 (HMB.out.to hb8w)
  clear hb8 hb7w hX7 hgq7 hgp7 hgr7 hgs7
  have heq3 := heqV.out
  rcases HME.out with ⟨rfl, rfl⟩ | ⟨rfl, rfl⟩
  all_goals
    first | rw [Bool.true_and] | rw [Bool.false_and]
    go_wp2_with (first
      | ((with_reducible show wpList _ _ _ (⟨some 76, .load _ _, _, _, _, _⟩ :: _) _ _); (refine wl_loadG rfl 23 _ rfl w.heap.size 0 rfl 23 (bvs sig) (bvs sig) hX8 (fun j v h => by rw [Nat.zero_add]; exact h) (.array 64 5) Try.underlying23 rfl h64.out ?_))
      | ((with_reducible show wpList _ _ _ (⟨some 77, .load _ _, _, _, _, _⟩ :: _) _ _); (refine wl_loadG rfl 23 _ rfl gq 0 rfl 23 S S hQ8 (fun j v h => by rw [Nat.zero_add]; exact h) (.array 64 5) Try.underlying23 rfl hS64.out ?_)))
    refine (wakes_any _).mono ?_
    rintro e w9 ⟨rfl, hb9⟩
    go_wp2_with fail
    go_ret
    exact ⟨rfl, hb8w.trans (hb9.mono hb8w.size)⟩
end Go.Proofs.Ytebegdifnkifgaa
