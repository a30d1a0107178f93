/-
  ConsistCovers as a call. Conditions: those in each statement.
-/
import Derived.Test.YtcnnblhjgligbaaCpV
namespace Go.Proofs.Ytcnnblhjgligbaa
open Go.RowKit

theorem fold_none (l : List (Nat × Nat)) : l.foldl stepC none = none := by
  induction l with
  | nil => rfl
  | cons x l ih => exact ih
/-- the next range goes on behind what was gathered, or ahead of it -/
theorem cover_next {L : List (Nat × Nat)} {c e : Option (Nat × Nat)} {f t k : Nat} (hall : L.foldl stepC c = e) (hs : e ≠ none) (hk : k < L.length) (h : (L.take k).foldl stepC c = some (f, t)) :
    (L[k].1 = t ∧ L[k].1 < L[k].2 ∧ (L.take (k + 1)).foldl stepC c = some (f, L[k].2)) ∨ (L[k].1 ≠ t ∧ L[k].2 = f ∧ L[k].1 < L[k].2 ∧ (L.take (k + 1)).foldl stepC c = some (L[k].1, t)) := by
  have e1 : (L.take (k + 1)).foldl stepC c = stepC (some (f, t)) L[k] := by
    rw [List.take_succ_eq_append_getElem hk, List.foldl_append, h]
    rfl
  have e2 : L.foldl stepC c = (L.drop (k + 1)).foldl stepC ((L.take (k + 1)).foldl stepC c) := by
    rw [← List.foldl_append, List.take_append_drop]
  have hne : stepC (some (f, t)) L[k] ≠ none := fun h0 => by
    rw [e1, h0, fold_none, hall] at e2
    exact hs e2
  rw [e1]
  unfold stepC at *
  by_cases c1 : L[k].1 = t ∧ L[k].1 < L[k].2
  · left
    refine ⟨c1.1, c1.2, ?_⟩
    show (if _ then _ else _) = _
    rw [if_pos c1]
  · simp only [if_neg c1] at hne
    by_cases c2 : L[k].2 = f ∧ L[k].1 < L[k].2
    · right
      refine ⟨fun h1 => c1 ⟨h1, c2.2⟩, c2.1, c2.2, ?_⟩
      show (if _ then _ else _) = _
      rw [if_neg c1, if_pos c2]
    · rw [if_neg c2] at hne
      exact absurd rfl hne
structure InvCov10 (m n x q rb ro c1 : Nat) (W0 : World) (L : Nat → Bool) (v64 v65 v66 v67 v68 v7 v5 : Value) (wx : World) : Prop where
  t0 : L 0 = true → v64 = .int .u64 ↑m
  t1 : L 1 = true → v65 = .int .u64 ↑x
  t2 : L 2 = true → v66 = .int .u64 ((m - x : Nat) : Int)
  t3 : L 3 = true → v67 = .slice (some ⟨rb, ro, none⟩) (q + 1) c1
  t4 : L 4 = true → v68 = .slice (cutP rb ro c1) q (c1 - 1)
  t5 : L 5 = true → v7 = .int .u64 ((m - x : Nat) : Int)
  t6 : L 6 = true → v5 = .slice (cutP rb ro c1) q (c1 - 1)
  bw : Below W0.heap.size W0 wx
  i5 : L 6 = false → v5 = .slice (some ⟨rb, ro, none⟩) (q + 1) c1
set_option maxRecDepth 100000 in
set_option maxHeartbeats 3200000 in
theorem LCovers_any (m n : Nat) (w : World) :
    Calls Try.prog 7 #[.int .u64 (m : Int), .int .u64 (n : Int)] w fun e w' => e = .returned (.bool true) ∧ Below w.heap.size w w' := by
  have HA := Lib.hid (fun w => RangesC_any m n w)
  have HW := Lib.hid (fun w => awakeC_any w)
  cases hm : okC m n with
  | false =>
    have e1 : cE m n = 1 := by simp only [cE, hm]; rfl
    have e2 : cL m n = [] := by simp only [cL, hm]; rfl
    rw [e1, e2] at HA
    rcases okC_no hm with h | ⟨h, h'⟩
    · have c : (1048576 : Int) < (n : Int) := by omega
      clear hm h e1 e2
      go_enter Try.func7, Try.ntmps7
      go_wp2_with (first
        | (go_at_call 10; refine (HA.out _).mono ?_; rintro e w1 ⟨v1, rfl, hO1, hb1⟩; obtain ⟨a1, c1, rfl, hR1, -⟩ := hO1.rd (by omega))
        | (go_at_call 12; refine (HW.out _).mono ?_; rintro e w3 ⟨rfl, hb3⟩))
      go_ret
      exact ⟨rfl, hb1.trans (hb3.mono hb1.size)⟩
    · have c : ¬ ((1048576 : Int) < (n : Int)) := by omega
      have c2 : (n : Int) < (m : Int) := by omega
      clear hm h h' e1 e2
      go_enter Try.func7, Try.ntmps7
      go_wp2_with (first
        | (go_at_call 10; refine (HA.out _).mono ?_; rintro e w1 ⟨v1, rfl, hO1, hb1⟩; obtain ⟨a1, c1, rfl, hR1, -⟩ := hO1.rd (by omega))
        | (go_at_call 12; refine (HW.out _).mono ?_; rintro e w3 ⟨rfl, hb3⟩))
      go_ret
      exact ⟨rfl, hb1.trans (hb3.mono hb1.size)⟩
  | true =>
    obtain ⟨hn20, hmn⟩ := okC_yes hm
    have e1 : cE m n = 0 := by simp only [cE, hm]; rfl
    by_cases h0 : m = 0
    · subst h0
      rw [e1, cL_zero] at HA
      clear hm hn20 hmn e1
      go_enter Try.func7, Try.ntmps7
      go_wp2_with (first
        | (go_at_call 10; refine (HA.out _).mono ?_; rintro e w1 ⟨v1, rfl, hO1, hb1⟩; obtain ⟨a1, c1, rfl, hR1, -⟩ := hO1.rd (by omega))
        | (go_at_call 12; refine (HW.out _).mono ?_; rintro e w3 ⟨rfl, hb3⟩))
      go_ret
      exact ⟨rfl, hb1.trans (hb3.mono hb1.size)⟩
    have e2 : cL m n = wtF m n 0 true := by simp only [cL, hm, if_true, if_neg h0]
    rw [e1, e2] at HA
    have c0 : ((m : Int) == 0) = false := by simp; omega
    have hin : ∀ r ∈ wtF m n 0 true, r.1 < r.2 ∧ r.2 ≤ n := fun r hr => by have := wt_in n m n 0 true (Nat.le_refl _) (by omega) hmn r hr; omega
    have hlen := wt_few m n 0 true (by omega) hmn hn20
    have HMN := Lib.hid hmn
    have HN20 := Lib.hid hn20
    have hm20 : (m : Int) ≤ 1048576 := by omega
    have hm0 : (0 : Int) ≤ (m : Int) := by omega
    have hcov := wt_cover_mark n m n (Nat.le_refl _) (by omega) hmn
    clear hm hn20 hmn e1 e2
    rcases hcov with ⟨x, l, e, hx, hf⟩ | ⟨hne, hf⟩
    · rw [e] at HA hin hlen
      obtain ⟨q, hq⟩ : ∃ q, q = l.length := ⟨_, rfl⟩
      have HM := Lib.hid hq
      have HL1 : Hid (((x, m) :: l).length = q + 1) := by show _ = _; rw [List.length_cons, ← hq]
      have hq21 : q ≤ 21 := by rw [List.length_cons] at hlen; omega
      have HIN : Hid (∀ r ∈ l, r.1 < r.2 ∧ r.2 ≤ n) := fun r hr => hin r (List.mem_cons_of_mem _ hr)
      have HCOV := Lib.hid hf
      have hxm : (x : Int) < (m : Int) := by omega
      have hx0 : (0 : Int) ≤ (x : Int) := by omega
      have HWC : Hid (IntKind.u64.wrap ((m : Int) - (x : Int)) = ((m - x : Nat) : Int)) := by show _ = _; rw [IntKind.wrap_u64]; omega
      have HC0 : Hid (m - x + x = m) := by show _ = _; omega
      have hlen2 : ((x, m) :: l).length ≤ 22 := by omega
      clear e hx hf hq hin hlen h0
      go_enter Try.func7, Try.ntmps7
      go_upto_region 8 with (go_at_call 10; refine (HA.out _).mono ?_; rintro e w1 ⟨v1, rfl, hO1, hb1⟩; obtain ⟨a1, c1, rfl, hR1, -⟩ := hO1.rd (by omega); rw [HL1.out] at hR1 ⊢)
      obtain ⟨rb, ro, rfl, hrbl, -⟩ := hR1.mem (by omega)
      have hRr := hR1.range 0 (by simp)
      rw [Nat.zero_mul, Nat.add_zero] at hRr
      have c70 := hRr 0 _ rfl
      have c71 := hRr 1 _ rfl
      have hle := hR1.le
      have hR2 := rd_cutP hR1
      rw [Nat.add_zero] at c70
      simp only [List.getElem_cons_zero] at c70 c71
      have hq1 : (0 : Int) < (q : Int) + 1 := by omega
      have HLE := Lib.hid hle
      have HBS := Lib.hid hb1
      clear hO1 hRr hR1 hrbl hb1 HL1 hlen2 hle
      go_upto_region 10 with fail
      go_simp
      refine wp_region_steps [[], [], [0, 1], [], [3], [2], [4]] (by kernel_rfl) (by kernel_rfl) (fun L a wx => ∃ v64 v65 v66 v67 v68 v7 v5, a = ⟨#[.int .u64 ↑m, .int .u64 ↑n, undef, undef, .bool false, v5, .int .i64 0, v7, .int .u64 ↑x, .int .u64 ↑m, undef, undef, .tuple #[.slice (some ⟨rb, ro, none⟩) (q + 1) c1, .int .i64 0], .int .u64 ↑m, .int .u64 ↑n, .tuple #[.slice (some ⟨rb, ro, none⟩) (q + 1) c1, .int .i64 0], .slice (some ⟨rb, ro, none⟩) (q + 1) c1, .int .i64 0, .int .i64 0, .bool false, undef, undef, undef, undef, undef, undef, undef, undef, undef, undef, undef, undef, undef, undef, undef, undef, undef, undef, undef, .int .u64 ↑m, .bool false, undef, undef, undef, undef, undef, undef, .int .u64 ↑m, .slice (some ⟨rb, ro, none⟩) (q + 1) c1, .int .i64 (↑q + 1), .bool true, .bool true, .slice (some ⟨rb, ro, none⟩) (q + 1) c1, .pointer (some ⟨rb, ro, none⟩), .pointer (some ⟨rb, ro + 1, none⟩), .int .u64 ↑m, .int .u64 ↑m, .bool true, .bool true, .slice (some ⟨rb, ro, none⟩) (q + 1) c1, .pointer (some ⟨rb, ro, none⟩), .pointer (some ⟨rb, ro, none⟩), .int .u64 ↑x, .int .u64 ↑m, v64, v65, v66, v67, v68, undef, undef, undef, undef, undef, undef, undef, undef, undef, undef, undef, undef, undef, undef, undef, undef, undef, undef, undef, undef, undef, undef, undef, undef, undef, undef, undef, undef, undef, undef, undef, undef, undef, undef, undef, undef, undef, undef, undef, undef, undef, undef, undef, undef, undef, undef, undef, undef, undef, undef, undef, undef, undef, undef, undef, undef, undef, undef, undef, undef, undef], []⟩ ∧ InvCov10 m n x q rb ro c1 w1 L v64 v65 v66 v67 v68 v7 v5 wx) ?_ ⟨?_, ?_, ?_, ?_, ?_, ?_, ?_, trivial⟩ ?_
      · refine ⟨_, _, _, _, _, _, _, rfl, ⟨?_, ?_, ?_, ?_, ?_, ?_, ?_, (Below.refl _ _).drew, fun _ => rfl⟩⟩ <;> (intro h; exact absurd h (by decide))
      · rintro L a wx ⟨v64, v65, v66, v67, v68, v7, v5, rfl, hI⟩ hL hdep hcl K hK
        go_simp
        exact hK _ _ ⟨_, v65, v66, v67, v68, v7, v5, rfl, ⟨fun _ => rfl, hI.t1, hI.t2, hI.t3, hI.t4, hI.t5, hI.t6, hI.bw, hI.i5⟩⟩
      · rintro L a wx ⟨v64, v65, v66, v67, v68, v7, v5, rfl, hI⟩ hL hdep hcl K hK
        go_simp
        exact hK _ _ ⟨v64, _, v66, v67, v68, v7, v5, rfl, ⟨hI.t0, fun _ => rfl, hI.t2, hI.t3, hI.t4, hI.t5, hI.t6, hI.bw, hI.i5⟩⟩
      · rintro L a wx ⟨v64, v65, v66, v67, v68, v7, v5, rfl, hI⟩ hL hdep hcl K hK
        obtain rfl := hI.t0 (hdep 0 (by decide))
        obtain rfl := hI.t1 (hdep 1 (by decide))
        go_simp
        rw [HWC.out]
        exact hK _ _ ⟨_, _, _, v67, v68, v7, v5, rfl, ⟨hI.t0, hI.t1, fun _ => rfl, hI.t3, hI.t4, hI.t5, hI.t6, hI.bw, hI.i5⟩⟩
      · rintro L a wx ⟨v64, v65, v66, v67, v68, v7, v5, rfl, hI⟩ hL hdep hcl K hK
        obtain rfl := hI.i5 (by cases hq : L 6 with | false => rfl | true => have h4 := (hcl 4 (by decide) (hcl 6 (by decide) hq 4 (by decide)) 3 (by decide)); rw [hL] at h4; cases h4)
        go_simp
        exact hK _ _ ⟨v64, v65, v66, _, v68, v7, _, rfl, ⟨hI.t0, hI.t1, hI.t2, fun _ => rfl, hI.t4, hI.t5, hI.t6, hI.bw, hI.i5⟩⟩
      · rintro L a wx ⟨v64, v65, v66, v67, v68, v7, v5, rfl, hI⟩ hL hdep hcl K hK
        obtain rfl := hI.t3 (hdep 3 (by decide))
        refine ow_cutP rb ro q c1 HLE.out _ _ rfl rfl rfl ?_
        exact hK _ _ ⟨v64, v65, v66, _, _, v7, v5, rfl, ⟨hI.t0, hI.t1, hI.t2, hI.t3, fun _ => rfl, hI.t5, hI.t6, hI.bw, hI.i5⟩⟩
      · rintro L a wx ⟨v64, v65, v66, v67, v68, v7, v5, rfl, hI⟩ hL hdep hcl K hK
        obtain rfl := hI.t2 (hdep 2 (by decide))
        go_simp
        exact hK _ _ ⟨v64, v65, _, v67, v68, _, v5, rfl, ⟨hI.t0, hI.t1, hI.t2, hI.t3, hI.t4, fun _ => rfl, hI.t6, hI.bw, hI.i5⟩⟩
      · rintro L a wx ⟨v64, v65, v66, v67, v68, v7, v5, rfl, hI⟩ hL hdep hcl K hK
        obtain rfl := hI.t4 (hdep 4 (by decide))
        go_simp
        exact hK _ _ ⟨v64, v65, v66, v67, _, v7, _, rfl, ⟨hI.t0, hI.t1, hI.t2, hI.t3, hI.t4, hI.t5, fun _ => rfl, hI.bw, fun h => (nomatch (show true = false from h))⟩⟩
      · rintro a wx ⟨v64, v65, v66, v67, v68, v7, v5, rfl, hI⟩
        obtain rfl := hI.t5 rfl
        obtain rfl := hI.t6 rfl
        have hbw := hI.bw
        clear hI
        have hR3 := hR2.to hbw
        have HBS' := Lib.hid (HBS.out.trans (hbw.mono HBS.out.size))
        clear hR2 HBS hbw
        have HBS := HBS'
        clear HBS'
        generalize cutP rb ro c1 = a2 at *
        rename World => wS
        go_wp2_with fail
        go_loopw [7, 8, 9, 72] (fun ct fr tv ix wr => ∃ k f t cN : Nat, k ≤ q ∧ ct = .int .u64 (cN : Int) ∧ fr = .int .u64 (f : Int) ∧ tv = .int .u64 (t : Int) ∧ ix = .int .i64 (k : Int) ∧ (l.take k).foldl stepC (some (x, m)) = some (f, t) ∧ cN + f = t ∧ t ≤ n ∧ Below wS.heap.size wS wr) (fun _ _ _ ix _ => q - (intOf ix).toNat)
        case atStart => exact ⟨0, x, m, (m - x), Nat.zero_le _, rfl, by go_num, rfl, rfl, rfl, HC0.out, HMN.out, Below.refl _ _⟩
        case round =>
          obtain ⟨k, f, t, cN, hk, rfl, rfl, rfl, rfl, hft, hcf, htn, hB⟩ := hrel
          by_cases hlt : k < q
          · have hkL : k < l.length := by rw [← HM.out]; exact hlt
            obtain ⟨rb, ro, rfl, hrbl, -⟩ := hR3.mem (by omega)
            have hRr := (hR3.to hB).range k hkL
            have hx := HIN.out l[k] (List.getElem_mem hkL)
            have hnx := cover_next HCOV.out (by simp) hkL hft
            have hki : (k : Int) < (q : Int) := by omega
            generalize l[k] = xx at *
            obtain ⟨xf, xt⟩ := xx
            simp only at hx hnx
            have HLT := Lib.hid hlt
            have hn20 := HN20.out
            clear hlt hkL hR3 hrbl
            rcases hnx with ⟨h1, h2, h3⟩ | ⟨h1, h2, h3, h4⟩
            · subst h1
              have d1 : (xf : Int) < (xt : Int) := by omega
              have d3 : (xf : Int) ≤ (xt : Int) := by omega
              have HwS : Hid (IntKind.u64.wrap ((xt : Int) - (xf : Int)) = (xt : Int) - (xf : Int)) := by show _ = _; rw [IntKind.wrap_u64]; omega
              have d4 : (cN : Int) + ((xt : Int) - (xf : Int)) ≤ 1048576 := by omega
              have HNC : Hid (((cN + (xt - xf) : Nat) : Int) = (cN : Int) + ((xt : Int) - (xf : Int))) := by show _ = _; omega
              have d5 : (0 : Int) ≤ (cN : Int) := by omega
              have H3 := Lib.hid h3
              have HX2 : Hid (xt ≤ n) := hx.2
              have HCF : Hid (cN + (xt - xf) + f = xt) := by show _ = _; omega
              clear h2 h3 hft hcf htn hx hn20
              go_wp2_with (first
                | ((with_reducible show wpList _ _ _ (⟨some 75, .load _ _, _, _, _, _⟩ :: _) _ _); refine wpList_load_mid rfl 52 _ rfl rb (ro + k * 2) rfl (encR (xf, xt)) _ hRr Try.underlying52 rfl infoRs ?_)
                | ((with_reducible show wpList _ _ _ (⟨some 11, .alloc _, _, _, _, _⟩ :: _) _ _); refine wl_alloc rfl 52 rfl [.int .u64 0, .int .u64 0] 2 infoR0 ?_; intro w6 hA6 hb6 hs6)
                | ((with_reducible show wpList _ _ _ (⟨none, .store _ _ _, _, _, _, _⟩ :: _) _ _); refine wl_store rfl 52 _ _ rfl wr.heap.size 0 rfl (encR (xf, xt)) rfl 52 _ hA6 infoRs (by simp [encR]) (encR_one _) ?_; intro w7 hA7 hg7 hs7; have c70 := hA7.cell 0; have c71 := hA7.cell 1; simp only [encR, List.take_zero, List.nil_append, List.cons_append, List.getElem?_cons_zero, List.getElem?_cons_succ] at c70 c71; have b67 : Below wr.heap.size wr w7 := hb6.grown hg7 hb6.size (by intro k e; injection e with e; omega)))
              go_roundw
              case rel => exact ⟨k + 1, f, xt, cN + (xt - xf), HLT.out, by rw [HNC.out], rfl, rfl, by go_num, H3.out, HCF.out, HX2.out, hB.trans (b67.mono hB.size)⟩
              case measure => simp [intOf]; have := HLT.out; omega
            · have d1 : (xf : Int) < (xt : Int) := by omega
              have d2 : ((xf : Int) == (t : Int)) = false := by simp; omega
              subst h2
              have d3 : (xf : Int) ≤ (xt : Int) := by omega
              have d4 : (cN : Int) + ((xt : Int) - (xf : Int)) ≤ 1048576 := by omega
              have HNC : Hid (((cN + (xt - xf) : Nat) : Int) = (cN : Int) + ((xt : Int) - (xf : Int))) := by show _ = _; omega
              have d5 : (0 : Int) ≤ (cN : Int) := by omega
              have H4 := Lib.hid h4
              have HTN := Lib.hid htn
              have HCF : Hid (cN + (xt - xf) + xf = t) := by show _ = _; omega
              clear h1 h3 h4 hft hcf htn hx hn20
              go_wp2_with (first
                | ((with_reducible show wpList _ _ _ (⟨some 75, .load _ _, _, _, _, _⟩ :: _) _ _); refine wpList_load_mid rfl 52 _ rfl rb (ro + k * 2) rfl (encR (xf, xt)) _ hRr Try.underlying52 rfl infoRs ?_)
                | ((with_reducible show wpList _ _ _ (⟨some 11, .alloc _, _, _, _, _⟩ :: _) _ _); refine wl_alloc rfl 52 rfl [.int .u64 0, .int .u64 0] 2 infoR0 ?_; intro w6 hA6 hb6 hs6)
                | ((with_reducible show wpList _ _ _ (⟨none, .store _ _ _, _, _, _, _⟩ :: _) _ _); refine wl_store rfl 52 _ _ rfl wr.heap.size 0 rfl (encR (xf, xt)) rfl 52 _ hA6 infoRs (by simp [encR]) (encR_one _) ?_; intro w7 hA7 hg7 hs7; have c70 := hA7.cell 0; have c71 := hA7.cell 1; simp only [encR, List.take_zero, List.nil_append, List.cons_append, List.getElem?_cons_zero, List.getElem?_cons_succ] at c70 c71; have b67 : Below wr.heap.size wr w7 := hb6.grown hg7 hb6.size (by intro k e; injection e with e; omega)))
              go_roundw
              case rel => exact ⟨k + 1, xf, t, cN + (xt - xf), HLT.out, by rw [HNC.out], rfl, rfl, by go_num, H4.out, HCF.out, HTN.out, hB.trans (b67.mono hB.size)⟩
              case measure => simp [intOf]; have := HLT.out; omega
          · obtain rfl : k = q := by omega
            have hc : ¬ ((k : Int) < (k : Int)) := by omega
            rw [List.take_of_length_le (by rw [← HM.out]; omega), HCOV.out] at hft
            injection hft with hft
            injection hft with h1 h2
            subst h1 h2
            obtain rfl : cN = n := by omega
            have hk20 : (k : Int) ≤ 21 := by omega
            clear hR3 hcf htn
            go_wp2_with (go_at_call 12; refine (HW.out _).mono ?_; rintro e w3 ⟨rfl, hb3⟩)
            go_ret
            exact ⟨rfl, HBS.out.trans ((hB.mono HBS.out.size).trans (hb3.mono (by have := hB.size; have := HBS.out.size; omega)))⟩
    · generalize wtF m n 0 true = l at *
      obtain ⟨q, hq⟩ : ∃ q, q = l.length := ⟨_, rfl⟩
      have HM := Lib.hid hq
      have HL1 : Hid (l.length = q) := hq.symm
      have hq21 : q ≤ 21 := by omega
      have HIN := Lib.hid hin
      have HCOV := Lib.hid hf
      have HC0 : Hid (m + 0 = m) := rfl
      have HNE : Hid (∀ (h : 0 < l.length), l[0].2 ≠ m) := fun h => by
        cases l with
        | nil => simp at h
        | cons r l' => exact hne r l' rfl
      have hlen2 : l.length ≤ 22 := by omega
      clear hne hf hq hin hlen h0
      go_enter Try.func7, Try.ntmps7
      go_upto_region 8 with (go_at_call 10; refine (HA.out _).mono ?_; rintro e w1 ⟨v1, rfl, hO1, hb1⟩; obtain ⟨a1, c1, rfl, hR1, -⟩ := hO1.rd (by omega); rw [HL1.out] at hR1 ⊢)
      have HBS := Lib.hid hb1
      clear hO1 hb1
      by_cases hq0 : 0 < q
      · have hq1 : (0 : Int) < (q : Int) := by omega
        obtain ⟨rb, ro, rfl, hrbl, -⟩ := hR1.mem (by omega)
        have hRr0 := hR1.range 0 (by rw [HL1.out]; exact hq0)
        have hn0 := HNE.out (by rw [HL1.out]; exact hq0)
        generalize l[0]'(by rw [HL1.out]; exact hq0) = r0 at *
        obtain ⟨rf, rt⟩ := r0
        rw [Nat.zero_mul, Nat.add_zero] at hRr0
        have c71 := hRr0 1 _ rfl
        simp only at hn0
        have d0 : ((rt : Int) == (m : Int)) = false := by simp; omega
        clear hn0 hRr0 HNE HL1 hlen2
        go_wp2
        go_loopw [7, 8, 9, 72] (fun ct fr tv ix wr => ∃ k f t cN : Nat, k ≤ q ∧ ct = .int .u64 (cN : Int) ∧ fr = .int .u64 (f : Int) ∧ tv = .int .u64 (t : Int) ∧ ix = .int .i64 (k : Int) ∧ (l.take k).foldl stepC (some (0, m)) = some (f, t) ∧ cN + f = t ∧ t ≤ n ∧ Below w1.heap.size w1 wr) (fun _ _ _ ix _ => q - (intOf ix).toNat)
        case atStart => exact ⟨0, 0, m, m, Nat.zero_le _, rfl, by go_num, rfl, rfl, rfl, HC0.out, HMN.out, Below.refl _ _⟩
        case round =>
          obtain ⟨k, f, t, cN, hk, rfl, rfl, rfl, rfl, hft, hcf, htn, hB⟩ := hrel
          by_cases hlt : k < q
          · have hkL : k < l.length := by rw [← HM.out]; exact hlt
            have hRr := (hR1.to hB).range k hkL
            have hx := HIN.out l[k] (List.getElem_mem hkL)
            have hnx := cover_next HCOV.out (by simp) hkL hft
            have hki : (k : Int) < (q : Int) := by omega
            generalize l[k] = x at *
            obtain ⟨xf, xt⟩ := x
            simp only at hx hnx
            have HLT := Lib.hid hlt
            have hn20 := HN20.out
            clear hlt hkL hR1 hrbl
            rcases hnx with ⟨h1, h2, h3⟩ | ⟨h1, h2, h3, h4⟩
            · subst h1
              have d1 : (xf : Int) < (xt : Int) := by omega
              have d3 : (xf : Int) ≤ (xt : Int) := by omega
              have Hw1 : Hid (IntKind.u64.wrap ((xt : Int) - (xf : Int)) = (xt : Int) - (xf : Int)) := by show _ = _; rw [IntKind.wrap_u64]; omega
              have d4 : (cN : Int) + ((xt : Int) - (xf : Int)) ≤ 1048576 := by omega
              have HNC : Hid (((cN + (xt - xf) : Nat) : Int) = (cN : Int) + ((xt : Int) - (xf : Int))) := by show _ = _; omega
              have d5 : (0 : Int) ≤ (cN : Int) := by omega
              have H3 := Lib.hid h3
              have HX2 : Hid (xt ≤ n) := hx.2
              have HCF : Hid (cN + (xt - xf) + f = xt) := by show _ = _; omega
              clear h2 h3 hft hcf htn hx hn20
              go_wp2_with (first
                | ((with_reducible show wpList _ _ _ (⟨some 75, .load _ _, _, _, _, _⟩ :: _) _ _); refine wpList_load_mid rfl 52 _ rfl rb (ro + k * 2) rfl (encR (xf, xt)) _ hRr Try.underlying52 rfl infoRs ?_)
                | ((with_reducible show wpList _ _ _ (⟨some 11, .alloc _, _, _, _, _⟩ :: _) _ _); refine wl_alloc rfl 52 rfl [.int .u64 0, .int .u64 0] 2 infoR0 ?_; intro w6 hA6 hb6 hs6)
                | ((with_reducible show wpList _ _ _ (⟨none, .store _ _ _, _, _, _, _⟩ :: _) _ _); refine wl_store rfl 52 _ _ rfl wr.heap.size 0 rfl (encR (xf, xt)) rfl 52 _ hA6 infoRs (by simp [encR]) (encR_one _) ?_; intro w7 hA7 hg7 hs7; have c70 := hA7.cell 0; have c71 := hA7.cell 1; simp only [encR, List.take_zero, List.nil_append, List.cons_append, List.getElem?_cons_zero, List.getElem?_cons_succ] at c70 c71; have b67 : Below wr.heap.size wr w7 := hb6.grown hg7 hb6.size (by intro k e; injection e with e; omega)))
              go_roundw
              case rel => exact ⟨k + 1, f, xt, cN + (xt - xf), HLT.out, by rw [HNC.out], rfl, rfl, by go_num, H3.out, HCF.out, HX2.out, hB.trans (b67.mono hB.size)⟩
              case measure => simp [intOf]; have := HLT.out; omega
            · have d1 : (xf : Int) < (xt : Int) := by omega
              have d2 : ((xf : Int) == (t : Int)) = false := by simp; omega
              subst h2
              have d3 : (xf : Int) ≤ (xt : Int) := by omega
              have d4 : (cN : Int) + ((xt : Int) - (xf : Int)) ≤ 1048576 := by omega
              have HNC : Hid (((cN + (xt - xf) : Nat) : Int) = (cN : Int) + ((xt : Int) - (xf : Int))) := by show _ = _; omega
              have d5 : (0 : Int) ≤ (cN : Int) := by omega
              have H4 := Lib.hid h4
              have HTN := Lib.hid htn
              have HCF : Hid (cN + (xt - xf) + xf = t) := by show _ = _; omega
              clear h1 h3 h4 hft hcf htn hx hn20
              go_wp2_with (first
                | ((with_reducible show wpList _ _ _ (⟨some 75, .load _ _, _, _, _, _⟩ :: _) _ _); refine wpList_load_mid rfl 52 _ rfl rb (ro + k * 2) rfl (encR (xf, xt)) _ hRr Try.underlying52 rfl infoRs ?_)
                | ((with_reducible show wpList _ _ _ (⟨some 11, .alloc _, _, _, _, _⟩ :: _) _ _); refine wl_alloc rfl 52 rfl [.int .u64 0, .int .u64 0] 2 infoR0 ?_; intro w6 hA6 hb6 hs6)
                | ((with_reducible show wpList _ _ _ (⟨none, .store _ _ _, _, _, _, _⟩ :: _) _ _); refine wl_store rfl 52 _ _ rfl wr.heap.size 0 rfl (encR (xf, xt)) rfl 52 _ hA6 infoRs (by simp [encR]) (encR_one _) ?_; intro w7 hA7 hg7 hs7; have c70 := hA7.cell 0; have c71 := hA7.cell 1; simp only [encR, List.take_zero, List.nil_append, List.cons_append, List.getElem?_cons_zero, List.getElem?_cons_succ] at c70 c71; have b67 : Below wr.heap.size wr w7 := hb6.grown hg7 hb6.size (by intro k e; injection e with e; omega)))
              go_roundw
              case rel => exact ⟨k + 1, xf, t, cN + (xt - xf), HLT.out, by rw [HNC.out], rfl, rfl, by go_num, H4.out, HCF.out, HTN.out, hB.trans (b67.mono hB.size)⟩
              case measure => simp [intOf]; have := HLT.out; omega
          · obtain rfl : k = q := by omega
            have hc : ¬ ((k : Int) < (k : Int)) := by omega
            rw [List.take_of_length_le (by rw [← HM.out]; omega), HCOV.out] at hft
            injection hft with hft
            injection hft with h1 h2
            subst h1 h2
            obtain rfl : cN = n := by omega
            have hk20 : (k : Int) ≤ 21 := by omega
            clear hR1 hcf htn
            go_wp2_with (go_at_call 12; refine (HW.out _).mono ?_; rintro e w3 ⟨rfl, hb3⟩)
            go_ret
            exact ⟨rfl, HBS.out.trans ((hB.mono HBS.out.size).trans (hb3.mono (by have := hB.size; have := HBS.out.size; omega)))⟩
      · obtain rfl : q = 0 := by omega
        clear HNE HL1 hlen2
        go_wp2
        go_loopw [7, 8, 9, 72] (fun ct fr tv ix wr => ∃ k f t cN : Nat, k ≤ 0 ∧ ct = .int .u64 (cN : Int) ∧ fr = .int .u64 (f : Int) ∧ tv = .int .u64 (t : Int) ∧ ix = .int .i64 (k : Int) ∧ (l.take k).foldl stepC (some (0, m)) = some (f, t) ∧ cN + f = t ∧ t ≤ n ∧ Below w1.heap.size w1 wr) (fun _ _ _ ix _ => 0 - (intOf ix).toNat)
        case atStart => exact ⟨0, 0, m, m, Nat.zero_le _, rfl, by go_num, rfl, rfl, rfl, HC0.out, HMN.out, Below.refl _ _⟩
        case round =>
          obtain ⟨k, f, t, cN, hk, rfl, rfl, rfl, rfl, hft, hcf, htn, hB⟩ := hrel
          by_cases hlt : k < 0
          · exact absurd hlt (by omega)
          · obtain rfl : k = 0 := by omega
            have hc : ¬ ((0 : Int) < (0 : Int)) := by omega
            rw [List.take_of_length_le (by rw [← HM.out]; omega), HCOV.out] at hft
            injection hft with hft
            injection hft with h1 h2
            subst h1 h2
            obtain rfl : cN = n := by omega
            clear hR1 hcf htn
            go_wp2_with (go_at_call 12; refine (HW.out _).mono ?_; rintro e w3 ⟨rfl, hb3⟩)
            go_ret
            exact ⟨rfl, HBS.out.trans ((hB.mono HBS.out.size).trans (hb3.mono (by have := hB.size; have := HBS.out.size; omega)))⟩
end Go.Proofs.Ytcnnblhjgligbaa
