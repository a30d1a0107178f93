/-
  Package tiles: Parse. Conditions: those in each statement.
-/
import Derived.Test.YtfidajbenmgflaaDoorTiE
namespace Go.Proofs.YtfidajbenmgflaaDoor
open Go.RowKit

theorem cutP_le {k : Nat} {r t : List UInt8} {n : Nat} (h : cutP k r = some (n, t)) : lst k ≤ n ∧ n ≤ mst k ∧ t.length + dgt k + 1 = r.length ∧ r = ahd k ++ (r.drop 1).take (dgt k) ++ t ∧ numT ((r.drop 1).take (dgt k)) = some n := by
  unfold cutP at h
  split at h
  · next hc =>
    obtain ⟨hp, hl⟩ := hc
    have h1 : ∃ r', r = ahd k ++ r' := by
      obtain ⟨r', e⟩ := List.isPrefixOf_iff_prefix.1 hp
      exact ⟨r', e.symm⟩
    obtain ⟨r', rfl⟩ := h1
    have ha : (ahd k).length = 1 := by unfold ahd; split <;> rfl
    have hd : (ahd k ++ r').drop 1 = r' := by rw [← ha, List.drop_left]
    rw [hd] at h hl ⊢
    cases hn : numT (r'.take (dgt k)) with
    | none => rw [hn] at h; cases h
    | some m =>
      rw [hn] at h
      simp only at h
      split at h
      · next hm =>
        injection h with h
        injection h with e1 e2
        subst e1 e2
        refine ⟨hm.1, hm.2, ?_, ?_, rfl⟩
        · rw [List.length_drop, List.length_append, ha]; omega
        · rw [List.append_assoc, List.take_append_drop]
      · cases h
  · cases h
theorem rest_back {s : List UInt8} {k m : Nat} (h : k ≤ m) (hm : restTo s m ≠ none) : restTo s k ≠ none := fun e => hm (rest_none h e)
theorem num_ok {s : List UInt8} (h : okN s = true) {k : Nat} (hk : k < 3) : ∃ r t, restTo s k = some r ∧ cutP k r = some (numAt s k, t) ∧ restTo s (k + 1) = some t := by
  have h3 : restTo s 3 = some [] := by simpa [okN] using h
  have h4 := rest_back (show k + 1 ≤ 3 by omega) (by rw [h3]; simp)
  rw [restTo] at h4
  cases hr : restTo s k with
  | none => rw [hr] at h4; exact absurd rfl h4
  | some r =>
    rw [hr] at h4
    cases hc : cutP k r with
    | none => simp [hc] at h4
    | some x =>
      refine ⟨r, x.2, rfl, ?_, ?_⟩
      · unfold numAt
        rw [hr]
        simp [hc]
      · rw [restTo, hr]
        simp [hc]
theorem num_le {s : List UInt8} (h : okN s = true) {k : Nat} (hk : k < 3) : lst k ≤ numAt s k ∧ numAt s k ≤ mst k := by
  obtain ⟨r, t, -, h2, -⟩ := num_ok h hk
  obtain ⟨h3, h4, -⟩ := cutP_le h2
  exact ⟨h3, h4⟩
/-- what Parse tells -/
def prsV (s : List UInt8) (k : Nat) : Nat := if okN s then numAt s k else 0
def prsE (s : List UInt8) : Int := if okN s then 0 else 5
abbrev prsT (s : List UInt8) : Value := .tuple #[.int .i64 (prsV s 0 : Int), .int .u64 (prsV s 1 : Int), .int .i64 (prsV s 2 : Int), .int .i64 (prsE s)]
theorem two_tuple4 {fn : Func} {a : Act} {w : World} {p q r t : Tmp} {x y z u : Value} (h : fn.results = #[.tmp p, .tmp q, .tmp r, .tmp t]) (hp : a.tmps.getD p undef = x) (hq : a.tmps.getD q undef = y) (hr : a.tmps.getD r undef = z) (ht : a.tmps.getD t undef = u) :
    (results fn a.tmps).run Tryd.prog w = .ok (.tuple #[x, y, z, u]) w := by
  have hp' : a.tmps[p]?.getD undef = x := by simpa using hp
  have hq' : a.tmps[q]?.getD undef = y := by simpa using hq
  have hr' : a.tmps[r]?.getD undef = z := by simpa using hr
  have ht' : a.tmps[t]?.getD undef = u := by simpa using ht
  simp [results, h, hp', hq', hr', ht']
structure InvParse (s : List UInt8) (ga gb gc : Nat) (W0 : World) (L : Nat → Bool) (v13 v14 v15 v16 v17 v2 v3 v4 v5 : Value) (wx : World) : Prop where
  t0 : L 0 = true → v13 = .int .u64 (numAt s 0 : Int)
  t1 : L 1 = true → v14 = .int .i64 (numAt s 0 : Int)
  t2 : L 2 = true → v15 = .int .u64 (numAt s 1 : Int)
  t3 : L 3 = true → v16 = .int .u64 (numAt s 2 : Int)
  t4 : L 4 = true → v17 = .int .i64 (numAt s 2 : Int)
  t5 : L 5 = true → v2 = .int .i64 (numAt s 0 : Int)
  t6 : L 6 = true → v3 = .int .u64 (numAt s 1 : Int)
  t7 : L 7 = true → v4 = .int .i64 (numAt s 2 : Int)
  t8 : L 8 = true → v5 = .int .i64 0
  bw : Below W0.heap.size W0 wx
set_option maxRecDepth 100000 in
set_option maxHeartbeats 1600000 in
theorem Parse_any (s : List UInt8) (hs : s.length ≤ 140737488355328) (w : World) (hT : Tabs w) :
    Calls Tryd.prog 10 #[txt s] w fun e w' => e = .returned (prsT s) ∧ Below w.heap.size w w' := by
  have HT := Lib.hid hT
  have HS := Lib.hid hs
  clear hT hs
  go_enter Tryd.func10, Tryd.ntmps10
  go_upto_region 2 with (first
    | ((with_reducible show wpList _ _ _ (⟨some 6, .alloc _, _, _, _, _⟩ :: _) _ _); go_loud (refine wl_alloc1 rfl 22 rfl (.int .u64 0) 1 (by kernel_rfl) rfl ?_); intro wa hAa hba hsa)
    | ((with_reducible show wpList _ _ _ (⟨some 7, .alloc _, _, _, _, _⟩ :: _) _ _); go_loud (refine wl_alloc1 rfl 22 rfl (.int .u64 0) 1 (by kernel_rfl) rfl ?_); intro wb hAb hbb hsb)
    | ((with_reducible show wpList _ _ _ (⟨some 8, .alloc _, _, _, _, _⟩ :: _) _ _); go_loud (refine wl_alloc1 rfl 22 rfl (.int .u64 0) 1 (by kernel_rfl) rfl ?_); intro wc hAc hbc hsc))
  obtain ⟨ga, hga⟩ : ∃ g, g = w.heap.size := ⟨_, rfl⟩
  obtain ⟨gb, hgb⟩ : ∃ g, g = wa.heap.size := ⟨_, rfl⟩
  obtain ⟨gc, hgc⟩ : ∃ g, g = wb.heap.size := ⟨_, rfl⟩
  rw [← hga] at hAa ⊢
  rw [← hgb] at hAb ⊢
  rw [← hgc] at hAc ⊢
  have hd0 : Below w.heap.size w wc := (hba.trans (hbb.mono hba.size)).trans (hbc.mono (by omega))
  have hdd : Below wc.heap.size wc (wc.alloc (.cells #[.pointer (some ⟨ga, 0, none⟩), .pointer (some ⟨gb, 0, none⟩), .pointer (some ⟨gc, 0, none⟩)] 65)) := (Below.refl _ _).alloc (Nat.le_refl _) _
  have hd1 := hd0.trans (hdd.mono hd0.size)
  have H := cut_any s HS.out (fun k => match k with | 0 => ga | 1 => gb | _ => gc) wc.heap.size w _ hd1 HT.out (by
      intro k hk
      have hA := Arr.new wc 65 [.pointer (some ⟨ga, 0, none⟩), .pointer (some ⟨gb, 0, none⟩), .pointer (some ⟨gc, 0, none⟩)]
      refine (hA.cell k).trans ?_
      have hc : k = 0 ∨ k = 1 ∨ k = 2 := by omega
      rcases hc with rfl | rfl | rfl <;> rfl) (by simp) (by
      intro k hk
      have hsz : (wc.alloc (.cells #[.pointer (some ⟨ga, 0, none⟩), .pointer (some ⟨gb, 0, none⟩), .pointer (some ⟨gc, 0, none⟩)] 65)).heap.size = wc.heap.size + 1 := by simp
      rw [hsz]
      have hc : k = 0 ∨ k = 1 ∨ k = 2 := by omega
      rcases hc with rfl | rfl | rfl <;> simp only <;> omega) (by
      intro j k hj hk e
      have hc : k = 0 ∨ k = 1 ∨ k = 2 := by omega
      have hc2 : j = 0 ∨ j = 1 ∨ j = 2 := by omega
      rcases hc with rfl | rfl | rfl <;> rcases hc2 with rfl | rfl | rfl <;> simp only at e <;> omega) (by
      intro j hj
      have hc : j = 0 ∨ j = 1 ∨ j = 2 := by omega
      rcases hc with rfl | rfl | rfl
      · exact ⟨_, ((hAa.kept hbb).kept hbc).kept hdd, fun h => by omega⟩
      · exact ⟨_, (hAb.kept hbc).kept hdd, fun h => by omega⟩
      · exact ⟨_, hAc.kept hdd, fun h => by omega⟩)
  unfold CutRes at H
  have HLE : Hid (okN s = true → ∀ k, k < 3 → numAt s k ≤ mst k) := fun h k hk => (num_le h hk).2
  have HV : Hid (∀ k, prsV s k = if okN s then numAt s k else 0) := fun _ => rfl
  have HE : Hid (prsE s = if okN s then 0 else 5) := rfl
  clear hba hbb hbc hsa hsb hsc hAa hAb hAc hdd hd0 hd1 hga hgb hgc
  go_simp
  cases ho : okN s with
  | false =>
    rw [ho] at H
    have HO := Lib.hid ho
    clear ho
    go_wp2_with (go_at_call 26; go_loud (refine H.mono ?_); rintro e w5 ⟨rfl, hA5, hb5⟩; clear hA5)
    refine bodyPost_ret (two_tuple4 rfl rfl rfl rfl rfl) rfl ⟨?_, hb5⟩
    unfold prsT
    rw [HV.out, HV.out, HV.out, HE.out, HO.out]
    rfl
  | true =>
    rw [ho] at H
    have HO := Lib.hid ho
    have HLE2 := Lib.hid (HLE.out ho)
    clear ho
    go_upto_region 4 with (go_at_call 26; go_loud (refine H.mono ?_); rintro e w5 ⟨rfl, hA5, hb5⟩)
    have HA5 := Lib.hid (hA5 trivial)
    have HB5 := Lib.hid hb5
    clear hA5 hb5 H
    have HC0 : Hid (ga < w5.heap.size ∧ w5.cell? ⟨ga, 0, none⟩ = some (.int .u64 (numAt s 0 : Int))) := ⟨(HA5.out 0 (by omega)).lt, (HA5.out 0 (by omega)).cell 0⟩
    have HC1 : Hid (gb < w5.heap.size ∧ w5.cell? ⟨gb, 0, none⟩ = some (.int .u64 (numAt s 1 : Int))) := ⟨(HA5.out 1 (by omega)).lt, (HA5.out 1 (by omega)).cell 0⟩
    have HC2 : Hid (gc < w5.heap.size ∧ w5.cell? ⟨gc, 0, none⟩ = some (.int .u64 (numAt s 2 : Int))) := ⟨(HA5.out 2 (by omega)).lt, (HA5.out 2 (by omega)).cell 0⟩
    have HW0 : Hid (IntKind.i64.wrap (numAt s 0 : Int) = (numAt s 0 : Int)) := by
      have := HLE2.out 0 (by omega)
      show IntKind.i64.wrap _ = _
      have e : mst 0 = 5 := rfl
      rw [IntKind.wrap_i64]; omega
    have HW2 : Hid (IntKind.i64.wrap (numAt s 2 : Int) = (numAt s 2 : Int)) := by
      have := HLE2.out 2 (by omega)
      show IntKind.i64.wrap _ = _
      have e : mst 2 = 16 := rfl
      rw [IntKind.wrap_i64]; omega
    refine wp_region_steps [[], [0], [], [], [3], [1], [2], [4], []] (by kernel_rfl) (by kernel_rfl) (fun L a wx => ∃ v13 v14 v15 v16 v17 v2 v3 v4 v5, a = ⟨#[txt s, undef, v2, v3, v4, v5, .pointer (some ⟨ga, 0, none⟩), .pointer (some ⟨gb, 0, none⟩), .pointer (some ⟨gc, 0, none⟩), txt s, .slice (some ⟨wc.heap.size, 0, none⟩) 3 3, .bool true, .bool false, v13, v14, v15, v16, v17], []⟩ ∧ InvParse s ga gb gc w5 L v13 v14 v15 v16 v17 v2 v3 v4 v5 wx) ?_ ⟨?_, ?_, ?_, ?_, ?_, ?_, ?_, ?_, ?_, trivial⟩ ?_
    · refine ⟨_, _, _, _, _, _, _, _, _, rfl, ⟨?_, ?_, ?_, ?_, ?_, ?_, ?_, ?_, ?_, (Below.refl _ _).drew⟩⟩ <;> (intro h; exact absurd h (by decide))
    · rintro L a wx ⟨v13, v14, v15, v16, v17, v2, v3, v4, v5, rfl, hI⟩ hL hdep hcl K hK
      have c := (hI.bw.cell (p := ⟨ga, 0, none⟩) HC0.out.1).trans HC0.out.2
      go_simp
      exact hK _ _ ⟨_, v14, v15, v16, v17, v2, v3, v4, v5, rfl, ⟨fun _ => rfl, hI.t1, hI.t2, hI.t3, hI.t4, hI.t5, hI.t6, hI.t7, hI.t8, hI.bw⟩⟩
    · rintro L a wx ⟨v13, v14, v15, v16, v17, v2, v3, v4, v5, rfl, hI⟩ hL hdep hcl K hK
      obtain rfl := hI.t0 (hdep 0 (by decide))
      have h := HW0.out
      go_simp
      exact hK _ _ ⟨_, _, v15, v16, v17, v2, v3, v4, v5, rfl, ⟨hI.t0, fun _ => rfl, hI.t2, hI.t3, hI.t4, hI.t5, hI.t6, hI.t7, hI.t8, hI.bw⟩⟩
    · rintro L a wx ⟨v13, v14, v15, v16, v17, v2, v3, v4, v5, rfl, hI⟩ hL hdep hcl K hK
      have c := (hI.bw.cell (p := ⟨gb, 0, none⟩) HC1.out.1).trans HC1.out.2
      go_simp
      exact hK _ _ ⟨v13, v14, _, v16, v17, v2, v3, v4, v5, rfl, ⟨hI.t0, hI.t1, fun _ => rfl, hI.t3, hI.t4, hI.t5, hI.t6, hI.t7, hI.t8, hI.bw⟩⟩
    · rintro L a wx ⟨v13, v14, v15, v16, v17, v2, v3, v4, v5, rfl, hI⟩ hL hdep hcl K hK
      have c := (hI.bw.cell (p := ⟨gc, 0, none⟩) HC2.out.1).trans HC2.out.2
      go_simp
      exact hK _ _ ⟨v13, v14, v15, _, v17, v2, v3, v4, v5, rfl, ⟨hI.t0, hI.t1, hI.t2, fun _ => rfl, hI.t4, hI.t5, hI.t6, hI.t7, hI.t8, hI.bw⟩⟩
    · rintro L a wx ⟨v13, v14, v15, v16, v17, v2, v3, v4, v5, rfl, hI⟩ hL hdep hcl K hK
      obtain rfl := hI.t3 (hdep 3 (by decide))
      have h := HW2.out
      go_simp
      exact hK _ _ ⟨v13, v14, v15, _, _, v2, v3, v4, v5, rfl, ⟨hI.t0, hI.t1, hI.t2, hI.t3, fun _ => rfl, hI.t5, hI.t6, hI.t7, hI.t8, hI.bw⟩⟩
    · rintro L a wx ⟨v13, v14, v15, v16, v17, v2, v3, v4, v5, rfl, hI⟩ hL hdep hcl K hK
      obtain rfl := hI.t1 (hdep 1 (by decide))
      go_simp
      exact hK _ _ ⟨v13, _, v15, v16, v17, _, v3, v4, v5, rfl, ⟨hI.t0, hI.t1, hI.t2, hI.t3, hI.t4, fun _ => rfl, hI.t6, hI.t7, hI.t8, hI.bw⟩⟩
    · rintro L a wx ⟨v13, v14, v15, v16, v17, v2, v3, v4, v5, rfl, hI⟩ hL hdep hcl K hK
      obtain rfl := hI.t2 (hdep 2 (by decide))
      go_simp
      exact hK _ _ ⟨v13, v14, _, v16, v17, v2, _, v4, v5, rfl, ⟨hI.t0, hI.t1, hI.t2, hI.t3, hI.t4, hI.t5, fun _ => rfl, hI.t7, hI.t8, hI.bw⟩⟩
    · rintro L a wx ⟨v13, v14, v15, v16, v17, v2, v3, v4, v5, rfl, hI⟩ hL hdep hcl K hK
      obtain rfl := hI.t4 (hdep 4 (by decide))
      go_simp
      exact hK _ _ ⟨v13, v14, v15, v16, _, v2, v3, _, v5, rfl, ⟨hI.t0, hI.t1, hI.t2, hI.t3, hI.t4, hI.t5, hI.t6, fun _ => rfl, hI.t8, hI.bw⟩⟩
    · rintro L a wx ⟨v13, v14, v15, v16, v17, v2, v3, v4, v5, rfl, hI⟩ hL hdep hcl K hK
      go_simp
      exact hK _ _ ⟨v13, v14, v15, v16, v17, v2, v3, v4, _, rfl, ⟨hI.t0, hI.t1, hI.t2, hI.t3, hI.t4, hI.t5, hI.t6, hI.t7, fun _ => rfl, hI.bw⟩⟩
    · rintro a wx ⟨v13, v14, v15, v16, v17, v2, v3, v4, v5, rfl, hI⟩
      have hw := hI.bw
      have e2 := hI.t5 rfl
      have e3 := hI.t6 rfl
      have e4 := hI.t7 rfl
      have e5 := hI.t8 rfl
      subst e2 e3 e4 e5
      clear hI
      go_wp2_with fail
      refine bodyPost_ret (two_tuple4 rfl rfl rfl rfl rfl) rfl ⟨?_, HB5.out.trans (hw.mono HB5.out.size)⟩
      unfold prsT
      rw [HV.out, HV.out, HV.out, HE.out, HO.out]
      rfl
end Go.Proofs.YtfidajbenmgflaaDoor
