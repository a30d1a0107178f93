/-
  Layer 10: the program's Path. Conditions: those in each statement.
-/
import Derived.Test.YtbmhobbeimhodaaInI
namespace Go.Proofs.Ytbmhobbeimhodaa
open Go.RowKit

theorem path_ranges : ∀ (N : Nat) (L : List (List UInt8)) (i s : Nat), L.length ≤ N → i < L.length → pathF L i = (rgF i L.length s).map (fun r => rootF ((L.drop (r.1 - s)).take (r.2 - r.1))) := by
  intro N
  induction N using Nat.strongRecOn with
  | _ N ih =>
    intro L i s hN hi
    by_cases h1 : L.length ≤ 1
    · rw [pathF_one L i h1, rgF_one _ _ _ h1]; rfl
    · obtain ⟨b1, b2, b3⟩ := splK_bounds (n := L.length) (by omega)
      have ht : (L.take (splK L.length)).length = splK L.length := by rw [List.length_take]; omega
      have hd : (L.drop (splK L.length)).length = L.length - splK L.length := List.length_drop
      by_cases h : i < splK L.length
      · have e := ih (splK L.length) (by omega) (L.take (splK L.length)) i s (by omega) (by omega)
        rw [ht] at e
        rw [pathF_low L i (by omega) h, rgF_low _ _ _ (by omega) h, List.map_append, e]
        congr 1
        · refine List.map_congr_left fun r hr => ?_
          have := rg_in _ (splK L.length) i s (Nat.le_refl _) h r hr
          rw [List.drop_take, List.take_take, Nat.min_eq_left (by omega)]
        · show [_] = [_]
          congr 2
          rw [show s + splK L.length - s = splK L.length by omega, List.take_of_length_le (by simp only; omega)]
      · have e := ih (L.length - splK L.length) (by omega) (L.drop (splK L.length)) (i - splK L.length) (s + splK L.length) (by omega) (by omega)
        rw [hd] at e
        rw [pathF_high L i (by omega) h, rgF_high _ _ _ (by omega) h, List.map_append, e]
        congr 1
        · refine List.map_congr_left fun r hr => ?_
          have := rg_in _ (L.length - splK L.length) (i - splK L.length) (s + splK L.length) (Nat.le_refl _) (by omega) r hr
          rw [List.drop_drop, show splK L.length + (r.1 - (s + splK L.length)) = r.1 - s by omega]
        · show [_] = [_]
          congr 2
          simp
def pL (L : List (List UInt8)) (i : Nat) : List (List UInt8) := if okR i L.length then pathF L i else []
theorem pL_all {L : List (List UInt8)} (h : All32 L) (i : Nat) : All32 (pL L i) := by
  unfold pL
  split
  · exact path_all _ L i (Nat.le_refl _) h
  · exact All32.of (by simp)
theorem pL_len {L : List (List UInt8)} (i : Nat) : (pL L i).length = (rL i L.length).length := by
  unfold pL rL
  split
  · exact path_len _ L i 0 (Nat.le_refl _)
  · rfl
/-- one hash of a path -/
def rootR (L : List (List UInt8)) (r : Nat × Nat) : List UInt8 := rootF ((L.drop r.1).take (r.2 - r.1))
theorem OwnD.base' {w : World} {B B' : Nat} {v : Value} {L : List (List UInt8)} (h : OwnD w B v L) (hb : B' ≤ B) : OwnD w B' v L := by
  refine ⟨?_, h.all⟩
  obtain ⟨h1, h2 | ⟨g, cap, cur, rfl, hbb, r⟩⟩ := h.row
  · exact ⟨h1, .inl h2⟩
  · exact ⟨h1, .inr ⟨g, cap, cur, rfl, by omega, r⟩⟩

set_option maxRecDepth 100000 in
set_option maxHeartbeats 3200000 in
theorem Path_any (L : List (List UInt8)) (i : Nat) (a : Option Addr) (n c : Nat) (w : World) (hL : RdD w a n c L) (hn50 : n ≤ 2 ^ 50) :
    Calls Try.prog 14 #[.slice a n c, .int .u64 (i : Int)] w fun e w' => ∃ v, e = .returned (.tuple #[v, .int .i64 (rE i n)]) ∧ OwnD w' w.heap.size v (pL L i) ∧ Below w.heap.size w w' := by
  have hl := hL.len
  have hR := fun w => Ranges_any i n w
  cases hr : okR i n with
  | false =>
    have e3 : rE i n = 1 := by simp only [rE, hr]; rfl
    have e4 : pL L i = [] := by simp only [pL, hl, hr]; rfl
    rw [e3] at hR
    rw [e3, e4]
    have HR := Lib.hid hR
    clear hR hr hL hl e3 e4
    go_enter Try.func14, Try.ntmps14
    go_wp2_with (go_at_call 10; refine (HR.out _).mono ?_; rintro e w3 ⟨v, rfl, hO3, hb3⟩)
    go_ret2
    exact ⟨_, rfl, OwnD.nil _ _, hb3⟩
  | true =>
    obtain ⟨hs20, his⟩ := okR_yes hr
    have e3 : rE i n = 0 := by simp only [rE, hr]; rfl
    have e4 : pL L i = (rgF i n 0).map (rootR L) := by
      simp only [pL, hl, hr, if_true]
      rw [path_ranges _ L i 0 (Nat.le_refl _) (by omega), hl]
      rfl
    have hin := rg_in n n i 0 (Nat.le_refl _) his
    rw [e3, show rL i n = rgF i n 0 by simp only [rL, hr, if_true]] at hR
    rw [e3, e4]
    have hlen := rg_few i n 0 hs20
    generalize rgF i n 0 = R at *
    obtain ⟨m, hm⟩ : ∃ m, m = R.length := ⟨_, rfl⟩
    rw [← hm] at hlen
    have HR := Lib.hid hR
    have HM := Lib.hid hm
    have HIN := Lib.hid hin
    have hall := hL.all
    have HMX : Hid (m ≤ maxLen) := by show _ ≤ _; unfold maxLen; omega
    clear hR hr e3 e4 hm hin
    go_enter Try.func14, Try.ntmps14
    go_upto_region 5 with (first
      | (go_at_call 10; refine (HR.out _).mono ?_; rintro e w1 ⟨v, rfl, hO1, hb1⟩; obtain ⟨ra, rc, rfl, hRd, hrb⟩ := hO1.rd (by omega); rw [← HM.out])
      | ((with_reducible show wpList _ _ _ (⟨some 24, .makeSlice _ _ _, _, _, _, _⟩ :: _) _ _); refine wl_makeD rfl (.const (.int .i64 0)) (.tmp 23) rfl 0 m rfl rfl (Nat.zero_le _) (by omega) ?_; intro w2 hA2 hb2 hs2))
    have ho2 := OwnD.room (B := w1.heap.size) hA2 (List.length_replicate ..) (zero32 m) (Nat.le_refl _) HMX.out
    have hR1 := hRd
    rw [← HM.out] at hR1
    have hL1 := hL.to hb1
    obtain ⟨g, hg⟩ : ∃ g, g = w1.heap.size := ⟨_, rfl⟩
    rw [← hg] at ho2 hb2 hs2 ⊢
    have HG := Lib.hid hg
    have HS2 := Lib.hid hs2
    have z2 := hb2.size
    have HB1 := Lib.hid hb1
    clear hg hs2 hA2 hRd hrb hO1 hL hb1
    go_wp2_with fail
    go_loopw [8, 27] (fun out ix wr => ∃ k : Nat, k ≤ m ∧ out = .slice (some ⟨g, 0, none⟩) k m ∧ ix = .int .i64 (k : Int) ∧ OwnD wr g (.slice (some ⟨g, 0, none⟩) k m) ((R.take k).map (rootR L)) ∧ Below g w1 wr ∧ g ≤ wr.heap.size) (fun _ ix _ => m - (intOf ix).toNat)
    case atStart => exact ⟨0, Nat.zero_le _, rfl, rfl, ho2, hb2, by have := HS2.out; omega⟩
    case round =>
      clear ho2 hb2 z2
      obtain ⟨k, hk, rfl, rfl, hown, hB, hsz⟩ := hrel
      have hB' : Below w1.heap.size w1 wr := by rw [← HG.out]; exact hB
      by_cases hlt : k < m
      · have hkR : k < R.length := by rw [← HM.out]; exact hlt
        have hx := HIN.out R[k] (List.getElem_mem hkR)
        obtain ⟨rb, ro, rfl, hrbl, -⟩ := hR1.mem (by omega)
        obtain ⟨b, off, rfl, hbl, -⟩ := hL1.mem (by omega)
        have hRr := (hR1.to hB').range k hkR
        have hstep : Hid ((R.take k).map (rootR L) ++ [rootR L R[k]] = (R.take (k + 1)).map (rootR L)) := by
          show _ = _
          rw [List.take_succ_eq_append_getElem hkR, List.map_append]
          rfl
        have hLr := (((hL1.to hB').drop R[k].1 (by omega)).take (R[k].2 - R[k].1) (by omega))
        have hSl : (rootR L R[k]).length = 32 := rootF_len ((hall.drop _).take _)
        have hMk : ((R.take k).map (rootR L)).length = k := by simp; omega
        have hRo : ∀ W, Below wr.heap.size wr W → Calls Try.prog 21 #[.slice (some ⟨b, off + R[k].1 * 32, none⟩) (R[k].2 - R[k].1) (c - R[k].1)] W fun e w' => e = .returned (.agg (bvs (rootR L R[k])).toArray) ∧ Below W.heap.size W w' := fun W hb => Root_any _ _ (Nat.le_refl _) _ _ _ W (by omega) (hLr.to hb)
        have hcn := hL1.le
        generalize rootR L R[k] = S at *
        generalize (R.take k).map (rootR L) = M at *
        generalize R[k] = x at *
        obtain ⟨xf, xt⟩ := x
        simp only at hx hRo
        have f1 : (0 : Int) ≤ (xf : Int) := by omega
        have f2 : (xf : Int) ≤ (xt : Int) := by omega
        have f3 : (xt : Int) ≤ (c : Int) := by omega
        have f4 : (xf : Int) < (c : Int) := by omega
        have f5 : ¬ (c = xf) := by omega
        have hki : (k : Int) < (m : Int) := by omega
        have HRO := Lib.hid hRo
        have HMK := Lib.hid hMk
        have HSL := Lib.hid hSl
        have HLT := Lib.hid hlt
        have hsz2 := hsz
        clear hRo hMk hSl hlt hkR hLr hR1 hL1 hx hl hcn hs20 his
        go_wp2_with (first
          | ((with_reducible show wpList _ _ _ (⟨some 30, .load _ _, _, _, _, _⟩ :: _) _ _); refine wpList_load_mid rfl 52 _ rfl rb (ro + k * 2) rfl (encR (xf, xt)) _ hRr Try.underlying52 rfl infoRs ?_)
          | ((with_reducible show wpList _ _ _ (⟨some 10, .alloc _, _, _, _, _⟩ :: _) _ _); refine wl_alloc rfl 52 rfl [.int .u64 0, .int .u64 0] 2 infoR0 ?_; intro w6 hA6 hb6 hs6)
          | ((with_reducible show wpList _ _ _ (⟨none, .store _ _ _, _, _, _, _⟩ :: _) _ _); refine wl_store rfl 52 _ _ rfl wr.heap.size 0 rfl (encR (xf, xt)) rfl 52 _ hA6 infoRs (by simp [encR]) (encR_one _) ?_; intro w7 hA7 hg7 hs7; have c70 := hA7.cell 0; have c71 := hA7.cell 1; simp only [encR, List.take_zero, List.nil_append, List.cons_append, List.getElem?_cons_zero, List.getElem?_cons_succ] at c70 c71; have b67 : Below wr.heap.size wr w7 := hb6.grown hg7 hb6.size (by intro k e; injection e with e; omega))
          | (go_at_call 21; refine (HRO.out _ b67).mono ?_; rintro _ w8 ⟨rfl, h8⟩)
          | ((with_reducible show wpList _ _ _ (⟨some 39, .buildSlice _ _ _, _, _, _, _⟩ :: _) _ _); refine wl_litD rfl 38 rfl S HSL.out rfl ?_; intro w9 hA9 h9)
          | ((with_reducible show wpList _ _ _ (⟨some 40, _, _, _, _, _⟩ :: _) _ _); (refine wl_fitD rfl (.tmp 31) (.tmp 39) rfl g g m k M rfl (((hown.to b67).to h8).to h9) HMK.out w8.heap.size S rfl hA9 HSL.out HLT.out (by have := b67.size; have := h8.size; have := h9.size; omega) ?_); intro w10 ho10 hb10))
        go_roundw
        case rel =>
          have z6 := b67.size
          have z8 := h8.size
          have z9 := h9.size
          refine ⟨k + 1, HLT.out, by go_num, by go_num, by rw [← hstep.out]; exact ho10, ((hB.trans (b67.mono hsz2)).trans ((h8.trans (h9.mono z8)).mono (by omega))).trans hb10, by have := hb10.size; omega⟩
        case measure => simp [intOf]; have := HLT.out; omega
      · obtain rfl : k = m := by omega
        have hc : ¬ ((k : Int) < (k : Int)) := by omega
        rw [List.take_of_length_le (by rw [← HM.out]; omega)] at hown
        have hb1 := HB1.out
        have hw1 : w.heap.size ≤ g := by rw [HG.out]; exact hb1.size
        have hb := hb1.trans (hB'.mono hb1.size)
        clear hR1 hL1 hB hB' hsz hl hs20 his hlen
        go_wp2
        go_ret2
        exact ⟨_, rfl, hown.base' hw1, hb⟩
end Go.Proofs.Ytbmhobbeimhodaa
