/-
  Layer 11: the program's Proof. Conditions: those in each statement.
-/
import Derived.Test.YtcnnblhjgligbaaCnB
import Derived.Test.YtcnnblhjgligbaaInJ
namespace Go.Proofs.Ytcnnblhjgligbaa
open Go.RowKit

theorem wt_in : ∀ (N m n s : Nat) (b : Bool), n ≤ N → 1 ≤ m → m ≤ n → ∀ r ∈ wtF m n s b, s ≤ r.1 ∧ r.1 < r.2 ∧ r.2 ≤ s + n := by
  intro N
  induction N using Nat.strongRecOn with
  | _ N ih =>
    intro m n s b hN h1 h2 r hr
    by_cases h : m = n
    · subst h
      rw [wtF_all _ _ _ h1] at hr
      cases b with
      | true => simp at hr
      | false =>
        obtain rfl : r = (s, s + m) := by simpa using hr
        simp only
        omega
    · obtain ⟨b1, b2, b3⟩ := splK_bounds (n := n) (by omega)
      by_cases hk : m ≤ splK n
      · rw [wtF_low _ _ _ _ h1 (by omega) hk, List.mem_append] at hr
        rcases hr with hr | hr
        · have := ih (splK n) (by omega) m (splK n) s b (Nat.le_refl _) h1 hk r hr
          omega
        · obtain rfl : r = (s + splK n, s + n) := by simpa using hr
          simp only
          omega
      · rw [wtF_high _ _ _ _ (by omega) hk, List.mem_append] at hr
        rcases hr with hr | hr
        · have := ih (n - splK n) (by omega) (m - splK n) (n - splK n) (s + splK n) false (Nat.le_refl _) (by omega) (by omega) r hr
          omega
        · obtain rfl : r = (s, s + splK n) := by simpa using hr
          simp only
          omega
theorem proof_ranges : ∀ (N : Nat) (L : List (List UInt8)) (m s : Nat) (b : Bool), L.length ≤ N → 1 ≤ m → m ≤ L.length → prF L m b = (wtF m L.length s b).map (fun r => rootF ((L.drop (r.1 - s)).take (r.2 - r.1))) := by
  intro N
  induction N using Nat.strongRecOn with
  | _ N ih =>
    intro L m s b hN h1 h2
    by_cases h : m = L.length
    · subst h
      rw [prF_all _ _ h1, wtF_all _ _ _ h1]
      cases b with
      | true => rfl
      | false => simp
    · obtain ⟨b1, b2, b3⟩ := splK_bounds (n := L.length) (by omega)
      have ht : (L.take (splK L.length)).length = splK L.length := by rw [List.length_take]; omega
      have hd : (L.drop (splK L.length)).length = L.length - splK L.length := List.length_drop
      by_cases hk : m ≤ splK L.length
      · have e := ih (splK L.length) (by omega) (L.take (splK L.length)) m s b (by omega) h1 (by omega)
        rw [ht] at e
        rw [prF_low L m b h1 (by omega) hk, wtF_low _ _ _ _ h1 (by omega) hk, List.map_append, e]
        congr 1
        · refine List.map_congr_left fun r hr => ?_
          have := wt_in _ m (splK L.length) s b (Nat.le_refl _) h1 hk r hr
          rw [List.drop_take, List.take_take, Nat.min_eq_left (by omega)]
        · show [_] = [_]
          congr 2
          rw [show s + splK L.length - s = splK L.length by omega, List.take_of_length_le (by simp only; omega)]
      · have e := ih (L.length - splK L.length) (by omega) (L.drop (splK L.length)) (m - splK L.length) (s + splK L.length) false (by omega) (by omega) (by omega)
        rw [hd] at e
        rw [prF_high L m b (by omega) hk, wtF_high _ _ _ _ (by omega) hk, List.map_append, e]
        congr 1
        · refine List.map_congr_left fun r hr => ?_
          have := wt_in _ (m - splK L.length) (L.length - splK L.length) (s + splK L.length) false (Nat.le_refl _) (by omega) (by omega) r hr
          rw [List.drop_drop, show splK L.length + (r.1 - (s + splK L.length)) = r.1 - s by omega]
        · show [_] = [_]
          congr 2
          simp
def qL (L : List (List UInt8)) (m : Nat) : List (List UInt8) := if okC m L.length then (if m = 0 then [] else prF L m true) else []
theorem cL_in (m n : Nat) : ∀ r ∈ cL m n, r.1 < r.2 ∧ r.2 ≤ n := by
  intro r hr
  unfold cL at hr
  cases h : okC m n with
  | false => rw [h] at hr; simp at hr
  | true =>
    by_cases h0 : m = 0
    · rw [h] at hr; simp [h0] at hr
    · rw [h, if_pos rfl, if_neg h0] at hr
      have := wt_in n m n 0 true (Nat.le_refl _) (by omega) (okC_yes h).2 r hr
      omega
theorem qL_map (L : List (List UInt8)) (m n : Nat) (hl : L.length = n) : qL L m = (cL m n).map (rootR L) := by
  subst hl
  unfold qL cL
  cases h : okC m L.length with
  | false => rfl
  | true =>
    by_cases h0 : m = 0
    · simp [h0]
    · rw [if_pos rfl, if_pos rfl, if_neg h0, if_neg h0, proof_ranges _ L m 0 true (Nat.le_refl _) (by omega) (okC_yes h).2]
      rfl
theorem qL_len (L : List (List UInt8)) (m : Nat) : (qL L m).length = (cL m L.length).length := by rw [qL_map L m _ rfl, List.length_map]
theorem qL_all {L : List (List UInt8)} (h : All32 L) (m : Nat) : All32 (qL L m) := by
  rw [qL_map L m _ rfl]
  refine All32.of fun y hy => ?_
  obtain ⟨r, -, rfl⟩ := List.mem_map.1 hy
  exact rootF_len ((h.drop _).take _)

set_option maxRecDepth 100000 in
set_option maxHeartbeats 3200000 in
theorem ProofC_any (L : List (List UInt8)) (m_ : Nat) (a : Option Addr) (n c : Nat) (w : World) (hL : RdD w a n c L) (hn50 : n ≤ 2 ^ 50) :
    Calls Try.prog 14 #[.slice a n c, .int .u64 (m_ : Int)] w fun e w' => ∃ v, e = .returned (.tuple #[v, .int .i64 (cE m_ n)]) ∧ OwnD w' w.heap.size v (qL L m_) ∧ Below w.heap.size w w' := by
  have hl := hL.len
  have hR := fun w => RangesC_any m_ n w
  cases hr : okC m_ n with
  | false =>
    have e3 : cE m_ n = 1 := by simp only [cE, hr]; rfl
    have e4 : qL L m_ = [] := by simp only [qL, hl, hr]; rfl
    rw [e3] at hR
    rw [e3, e4]
    have HR := Lib.hid hR
    clear hR hr hL hl e3 e4
    go_enter Try.func14, Try.ntmps14
    go_wp2_with (go_at_call 10; refine (HR.out _).mono ?_; rintro e w3 ⟨v, rfl, hO3, hb3⟩)
    go_ret2
    exact ⟨_, rfl, OwnD.nil _ _, hb3⟩
  | true =>
    obtain ⟨hs20, his⟩ := okC_yes hr
    have e3 : cE m_ n = 0 := by simp only [cE, hr]; rfl
    have e4 : qL L m_ = (cL m_ n).map (rootR L) := qL_map L m_ n hl
    have hin : ∀ r ∈ cL m_ n, r.1 < r.2 ∧ r.2 ≤ n := cL_in m_ n
    rw [e3] at hR
    rw [e3, e4]
    have hlen := cL_few m_ n
    generalize cL m_ n = R at *
    obtain ⟨m, hm⟩ : ∃ m, m = R.length := ⟨_, rfl⟩
    rw [← hm] at hlen
    have HR := Lib.hid hR
    have HM := Lib.hid hm
    have HIN := Lib.hid hin
    have hall := hL.all
    have HMX : Hid (m ≤ maxLen) := by show _ ≤ _; unfold maxLen; omega
    clear hR hr e3 e4 hm hin
    go_enter Try.func14, Try.ntmps14
    go_upto_region 5 with (first
      | (go_at_call 10; refine (HR.out _).mono ?_; rintro e w1 ⟨v, rfl, hO1, hb1⟩; obtain ⟨ra, rc, rfl, hRd, hrb⟩ := hO1.rd (by omega); rw [← HM.out])
      | ((with_reducible show wpList _ _ _ (⟨some 24, .makeSlice _ _ _, _, _, _, _⟩ :: _) _ _); refine wl_makeD rfl (.const (.int .i64 0)) (.tmp 23) rfl 0 m rfl rfl (Nat.zero_le _) (by omega) ?_; intro w2 hA2 hb2 hs2))
    have ho2 := OwnD.room (B := w1.heap.size) hA2 (List.length_replicate ..) (zero32 m) (Nat.le_refl _) HMX.out
    have hR1 := hRd
    rw [← HM.out] at hR1
    have hL1 := hL.to hb1
    obtain ⟨g, hg⟩ : ∃ g, g = w1.heap.size := ⟨_, rfl⟩
    rw [← hg] at ho2 hb2 hs2 ⊢
    have HG := Lib.hid hg
    have HS2 := Lib.hid hs2
    have z2 := hb2.size
    have HB1 := Lib.hid hb1
    clear hg hs2 hA2 hRd hrb hO1 hL hb1
    go_wp2_with fail
    go_loopw [8, 27] (fun out ix wr => ∃ k : Nat, k ≤ m ∧ out = .slice (some ⟨g, 0, none⟩) k m ∧ ix = .int .i64 (k : Int) ∧ OwnD wr g (.slice (some ⟨g, 0, none⟩) k m) ((R.take k).map (rootR L)) ∧ Below g w1 wr ∧ g ≤ wr.heap.size) (fun _ ix _ => m - (intOf ix).toNat)
    case atStart => exact ⟨0, Nat.zero_le _, rfl, rfl, ho2, hb2, by have := HS2.out; omega⟩
    case round =>
      clear ho2 hb2 z2
      obtain ⟨k, hk, rfl, rfl, hown, hB, hsz⟩ := hrel
      have hB' : Below w1.heap.size w1 wr := by rw [← HG.out]; exact hB
      by_cases hlt : k < m
      · have hkR : k < R.length := by rw [← HM.out]; exact hlt
        have hx := HIN.out R[k] (List.getElem_mem hkR)
        obtain ⟨rb, ro, rfl, hrbl, -⟩ := hR1.mem (by omega)
        obtain ⟨b, off, rfl, hbl, -⟩ := hL1.mem (by omega)
        have hRr := (hR1.to hB').range k hkR
        have hstep : Hid ((R.take k).map (rootR L) ++ [rootR L R[k]] = (R.take (k + 1)).map (rootR L)) := by
          show _ = _
          rw [List.take_succ_eq_append_getElem hkR, List.map_append]
          rfl
        have hLr := (((hL1.to hB').drop R[k].1 (by omega)).take (R[k].2 - R[k].1) (by omega))
        have hSl : (rootR L R[k]).length = 32 := rootF_len ((hall.drop _).take _)
        have hMk : ((R.take k).map (rootR L)).length = k := by simp; omega
        have hRo : ∀ W, Below wr.heap.size wr W → Calls Try.prog 21 #[.slice (some ⟨b, off + R[k].1 * 32, none⟩) (R[k].2 - R[k].1) (c - R[k].1)] W fun e w' => e = .returned (.agg (bvs (rootR L R[k])).toArray) ∧ Below W.heap.size W w' := fun W hb => Root_any _ _ (Nat.le_refl _) _ _ _ W (by omega) (hLr.to hb)
        have hcn := hL1.le
        generalize rootR L R[k] = S at *
        generalize (R.take k).map (rootR L) = M at *
        generalize R[k] = x at *
        obtain ⟨xf, xt⟩ := x
        simp only at hx hRo
        have f1 : (0 : Int) ≤ (xf : Int) := by omega
        have f2 : (xf : Int) ≤ (xt : Int) := by omega
        have f3 : (xt : Int) ≤ (c : Int) := by omega
        have f4 : (xf : Int) < (c : Int) := by omega
        have f5 : ¬ (c = xf) := by omega
        have hki : (k : Int) < (m : Int) := by omega
        have HRO := Lib.hid hRo
        have HMK := Lib.hid hMk
        have HSL := Lib.hid hSl
        have HLT := Lib.hid hlt
        have hsz2 := hsz
        clear hRo hMk hSl hlt hkR hLr hR1 hL1 hx hl hcn hs20 his
        go_wp2_with (first
          | ((with_reducible show wpList _ _ _ (⟨some 30, .load _ _, _, _, _, _⟩ :: _) _ _); refine wpList_load_mid rfl 52 _ rfl rb (ro + k * 2) rfl (encR (xf, xt)) _ hRr Try.underlying52 rfl infoRs ?_)
          | ((with_reducible show wpList _ _ _ (⟨some 10, .alloc _, _, _, _, _⟩ :: _) _ _); refine wl_alloc rfl 52 rfl [.int .u64 0, .int .u64 0] 2 infoR0 ?_; intro w6 hA6 hb6 hs6)
          | ((with_reducible show wpList _ _ _ (⟨none, .store _ _ _, _, _, _, _⟩ :: _) _ _); refine wl_store rfl 52 _ _ rfl wr.heap.size 0 rfl (encR (xf, xt)) rfl 52 _ hA6 infoRs (by simp [encR]) (encR_one _) ?_; intro w7 hA7 hg7 hs7; have c70 := hA7.cell 0; have c71 := hA7.cell 1; simp only [encR, List.take_zero, List.nil_append, List.cons_append, List.getElem?_cons_zero, List.getElem?_cons_succ] at c70 c71; have b67 : Below wr.heap.size wr w7 := hb6.grown hg7 hb6.size (by intro k e; injection e with e; omega))
          | (go_at_call 21; refine (HRO.out _ b67).mono ?_; rintro _ w8 ⟨rfl, h8⟩)
          | ((with_reducible show wpList _ _ _ (⟨some 39, .buildSlice _ _ _, _, _, _, _⟩ :: _) _ _); refine wl_litD rfl 38 rfl S HSL.out rfl ?_; intro w9 hA9 h9)
          | ((with_reducible show wpList _ _ _ (⟨some 40, _, _, _, _, _⟩ :: _) _ _); (refine wl_fitD rfl (.tmp 31) (.tmp 39) rfl g g m k M rfl (((hown.to b67).to h8).to h9) HMK.out w8.heap.size S rfl hA9 HSL.out HLT.out (by have := b67.size; have := h8.size; have := h9.size; omega) ?_); intro w10 ho10 hb10))
        go_roundw
        case rel =>
          have z6 := b67.size
          have z8 := h8.size
          have z9 := h9.size
          refine ⟨k + 1, HLT.out, by go_num, by go_num, by rw [← hstep.out]; exact ho10, ((hB.trans (b67.mono hsz2)).trans ((h8.trans (h9.mono z8)).mono (by omega))).trans hb10, by have := hb10.size; omega⟩
        case measure => simp [intOf]; have := HLT.out; omega
      · obtain rfl : k = m := by omega
        have hc : ¬ ((k : Int) < (k : Int)) := by omega
        rw [List.take_of_length_le (by rw [← HM.out]; omega)] at hown
        have hb1 := HB1.out
        have hw1 : w.heap.size ≤ g := by rw [HG.out]; exact hb1.size
        have hb := hb1.trans (hB'.mono hb1.size)
        clear hR1 hL1 hB hB' hsz hl hs20 his hlen
        go_wp2
        go_ret2
        exact ⟨_, rfl, hown.base' hw1, hb⟩
end Go.Proofs.Ytcnnblhjgligbaa
