/-
  Layer 4: a value's plain text, as the document has it. Conditions: those in each statement.
-/
import Derived.Test.YtighbdhjegklbaaDoorJyD
import Derived.Deep.CutBlock
import Derived.Deep.CutRange
import Derived.Deep.DeepCutAuto
namespace Go.Proofs.YtighbdhjegklbaaDoor
open Go.RowKit

theorem word_long (s : List UInt8) : s.length ≤ (wordF s).length := by
  unfold wordF
  have := escs_len s
  simp only [List.length_cons, List.length_append]
  omega
set_option maxRecDepth 100000 in
set_option maxHeartbeats 1600000 in
theorem rPlain_all : ∀ (N : Nat) (v : JV) (cs : List Value) (w : World) (most : Nat), SizeOf.sizeOf v ≤ N → RV w v cs → mayF v most = true → (plainF v).length ≤ 23456248059000 →
    Calls Tryd.prog 24 #[.agg cs.toArray] w fun e w' => ∃ a n c, e = .returned (.slice a n c) ∧ Rd w' a n c (plainF v) ∧ Below w.heap.size w w' := by
  intro N
  induction N with
  | zero => intro v; intros; cases v; simp at *
  | succ N ih =>
    rintro ⟨k, s, n, l, ks⟩ cs w most hN hv hmay hlen
    unfold RV at hv
    obtain ⟨a, c, b, d, rfl, ⟨hk0, hk1, hn⟩, hks, ⟨hlc, hcb⟩, hac, hl⟩ := hv
    have hms : mayF (.mk k s n l ks) most = (headF k s n l ks most && mayL l (most - 1)) := by conv => lhs; unfold mayF
    rw [hms, Bool.and_eq_true, head_split] at hmay
    obtain ⟨⟨hnb1, hnb2, -, -⟩, hml⟩ := hmay
    unfold bad1 at hnb1
    unfold bad2 at hnb2
    have hkl : k = 6 → ks.length = l.length := fun h => Classical.byContradiction fun e => hnb2 (.inr (.inr ⟨h, e⟩))
    have hkk : k = 0 ∨ k = 1 ∨ k = 2 ∨ k = 3 ∨ k = 4 ∨ k = 5 ∨ k = 6 := by omega
    clear hms hnb1 hnb2
    go_enter Tryd.func24, Tryd.ntmps24
    go_upto_region 1 with fail
    obtain ⟨W0, hW0⟩ : ∃ W0, W0 = w.alloc (.cells #[.int .i64 k, .string (bstr s), .int .u64 (n : Int), .slice a l.length c, .slice b ks.length d] 26) := ⟨_, rfl⟩
    rw [← hW0]
    have hA0 : Arr W0 w.heap.size 26 [.int .i64 k, .string (bstr s), .int .u64 (n : Int), .slice a l.length c, .slice b ks.length d] := by
      rw [hW0]
      exact Arr.new w _ _
    have hB0 : Below w.heap.size w W0 := by rw [hW0]; exact (Below.refl _ w).alloc (Nat.le_refl _) _
    generalize Value.agg #[.int .i64 k, .string (bstr s), .int .u64 (n : Int), .slice a l.length c, .slice b ks.length d] = V0
    obtain ⟨g, hg⟩ : ∃ g, g = w.heap.size := ⟨_, rfl⟩
    rw [← hg] at hA0 hB0 ⊢
    have HG := Lib.hid hg
    have HKS : Hid (∀ W, Below W0.heap.size W0 W → RStr W ks b d) := fun W h => hks.to ((hg ▸ hB0).trans (h.mono (hg ▸ hB0).size))
    have HL : Hid (0 < l.length → ∃ b off, a = some ⟨b, off, none⟩ ∧ b < w.heap.size ∧ RL w l b off) := hl
    have IH : Hid (∀ (j : Nat) (x : JV) (cx : List Value) (W : World), l[j]? = some x → RV w x cx → Below W0.heap.size W0 W → (plainF x).length ≤ 23456248059000 → Calls Tryd.prog 24 #[.agg cx.toArray] W fun e w' => ∃ a n c, e = .returned (.slice a n c) ∧ Rd w' a n c (plainF x) ∧ Below W.heap.size W w') := fun j x cx W hj hx hW hp => by
      have hxm : SizeOf.sizeOf x < SizeOf.sizeOf (JV.mk k s n l ks) := jv_mem (List.mem_of_getElem? hj)
      exact ih x cx W (most - 1) (by omega) (rv_to ((hg ▸ hB0).trans (hW.mono (hg ▸ hB0).size)) x _ hx) ((mayL_iff l (most - 1)).1 hml j x hj) hp
    have HLB : l.length ≤ 9223372036854775807 := by omega
    have HKB : ks.length ≤ 9223372036854775807 := by have h1 := hks.le; have h2 := hks.big; omega
    have HLC := Lib.hid hlc
    have HKD := Lib.hid hks.le
    have HLEN := Lib.hid hlen
    have HKL := Lib.hid hkl
    have HB0 := Lib.hid hB0
    have HA0 := Lib.hid hA0
    have hgW : Hid (g < W0.heap.size) := hA0.lt
    clear hg hW0 hks hl ih hN hml hlc hcb hac hlen hkl hB0
    have c0 := (hA0.cell 0).trans (show _ = some (Value.int .i64 k) from rfl)
    have c1 := (hA0.cell 1).trans (show _ = some (Value.string (bstr s)) from rfl)
    have c2 := (hA0.cell 2).trans (show _ = some (Value.int .u64 (n : Int)) from rfl)
    have hbl : Hid (∀ W, Below W0.heap.size W0 W → Below w.heap.size w W) := fun W h => by
      have hb := HB0.out
      rw [HG.out] at hb
      exact hb.trans (h.mono hb.size)
    have hwl : Hid (∀ {W v l}, Own W W0.heap.size 5 v l → Own W w.heap.size 5 v l) := fun h => by
      have hb := HB0.out
      rw [HG.out] at hb
      exact h.mono hb.size
    have hal : Hid (∀ o, Below W0.heap.size W0 (W0.alloc o)) := fun o => (Below.refl _ _).alloc (Nat.le_refl _) _
    have kc := fun (w : World) (C : Array Value) (n c : Nat) => Lib.run_convert_bytes_const (P := Tryd.prog) w 32 5 C n c Tryd.underlying32 Tryd.underlying5
    rcases hkk with rfl | rfl | rfl | rfl | rfl | rfl | rfl
    · have hp : Hid (plainF (.mk 0 s n l ks) = [110, 117, 108, 108]) := by show _ = _; unfold plainF; rfl
      have hr := Lib.hid (rd_lit W0 [110, 117, 108, 108] 5 (4, 5))
      clear hA0
      go_wp2_with fail
      go_ret
      exact ⟨_, _, _, rfl, by rw [hp.out]; exact hr.out, hbl.out _ (hal.out _)⟩
    · have hp : Hid (plainF (.mk 1 s n l ks) = [102, 97, 108, 115, 101]) := by show _ = _; unfold plainF; rfl
      have hr := Lib.hid (rd_lit W0 [102, 97, 108, 115, 101] 5 (5, 6))
      clear hA0
      go_wp2_with fail
      go_ret
      exact ⟨_, _, _, rfl, by rw [hp.out]; exact hr.out, hbl.out _ (hal.out _)⟩
    · have hp : Hid (plainF (.mk 2 s n l ks) = [116, 114, 117, 101]) := by show _ = _; unfold plainF; rfl
      have hr := Lib.hid (rd_lit W0 [116, 114, 117, 101] 5 (4, 5))
      clear hA0
      go_wp2_with fail
      go_ret
      exact ⟨_, _, _, rfl, by rw [hp.out]; exact hr.out, hbl.out _ (hal.out _)⟩
    · have hp : Hid (plainF (.mk 3 s n l ks) = digitsF n) := by show _ = _; unfold plainF; rfl
      have hc := Lib.hid (rDigits_any n W0 hn)
      clear hA0
      go_wp2_with (go_at_call 38; refine hc.out.mono ?_; rintro e w1 ⟨v1, rfl, ho1, hb1⟩)
      go_ret
      obtain ⟨a1, c1, rfl, -⟩ := ho1.shape
      exact ⟨_, _, _, rfl, by rw [hp.out]; exact ho1.rd.toRd, hbl.out _ hb1⟩
    · have hp : Hid (plainF (.mk 4 s n l ks) = wordF s) := by show _ = _; unfold plainF; rfl
      have hc := Lib.hid (rWord_any s W0 (by have h1 := HLEN.out; rw [hp.out] at h1; have := word_long s; omega))
      clear hA0
      go_wp2_with (go_at_call 39; refine hc.out.mono ?_; rintro e w1 ⟨v1, rfl, ho1, hb1⟩)
      go_ret
      obtain ⟨a1, c1, rfl, -⟩ := ho1.shape
      exact ⟨_, _, _, rfl, by rw [hp.out]; exact ho1.rd.toRd, hbl.out _ hb1⟩
    · have hp : Hid (plainF (.mk 5 s n l ks) = 91 :: (partF 5 l ks l.length ++ [93])) := by
        show _ = _
        have := plain_parts 5 s n l ks (by omega) HKL.out
        rw [this]
        rfl
      have hmono : Hid (∀ m, m < l.length → (91 :: (partF 5 l ks m ++ (sepF 5 ks m ++ plainF (l.getD m JV.zero)))).length + 1 ≤ 23456248059000) := by
        intro m hm
        have h0 := HLEN.out
        rw [hp.out] at h0
        have h1 := part_mono 5 l ks (m + 1) (l.length - (m + 1))
        rw [show m + 1 + (l.length - (m + 1)) = l.length by omega] at h1
        simp only [List.length_append, List.length_cons, List.length_nil] at h0 h1 ⊢
        have : (partF 5 l ks (m + 1)).length = (partF 5 l ks m).length + ((sepF 5 ks m).length + (plainF (l.getD m JV.zero)).length) := by
          show (partF 5 l ks m ++ _).length = _
          simp only [List.length_append]
        omega
      clear hA0 c1 c2 kc
      go_upto_region 13 with fail
      obtain ⟨B, hB⟩ : ∃ B, W0.heap.size = B := ⟨_, rfl⟩
      have HB := Lib.hid hB
      obtain ⟨W1, hW1⟩ : ∃ W1, W1 = W0.alloc (.cells #[.int .u8 91] 5) := ⟨_, rfl⟩
      rw [← hW1]
      have ho1 : Own W1 B 5 (.slice (some ⟨B, 0, none⟩) 1 1) [91] := by rw [hW1, ← hB]; exact own_one W0 91 _
      have hb1 : Below B W0 W1 := by rw [hW1, ← hB]; exact hal.out _
      rw [hB]
      clear hB hW1 c0
      have hA1 := HA0.out.kept (HB.out ▸ hb1)
      have c0 := (hA1.cell 0).trans (show _ = some (Value.int .i64 5) from rfl)
      have c3 := (hA1.cell 3).trans (show _ = some (Value.slice a l.length c) from rfl)
      clear hA1
      go_wp2_with fail
      go_loopw [3, 4] (fun vb i wr => ∃ (m : Nat), m ≤ l.length ∧ i = .int .i64 m ∧ Own wr B 5 vb (91 :: partF 5 l ks m) ∧ Below B W0 wr) (fun _ i _ => l.length - (intOf i).toNat)
      case atStart => exact ⟨0, by omega, rfl, by simpa [partF] using ho1, hb1⟩
      case round =>
        clear ho1 hb1 c3
        obtain ⟨m, hm, rfl, ho, hb⟩ := hrel
        obtain ⟨a4, c4, rfl, -⟩ := ho.shape
        have hA := HA0.out.kept (HB.out ▸ hb)
        have c3 := (hA.cell 3).trans (show _ = some (Value.slice a l.length c) from rfl)
        have hgr : Hid (B ≤ wr.heap.size) := by show _ ≤ _; rw [← HB.out]; exact (HB.out ▸ hb : Below W0.heap.size W0 wr).size
        clear hA
        by_cases hlt : m < l.length
        · have hc : (m : Int) < (l.length : Int) := by omega
          have HLT := Lib.hid hlt
          have HMONO := Lib.hid (hmono.out m hlt)
          obtain ⟨ab, ao, rfl, hab, hrl⟩ := HL.out (by omega)
          obtain ⟨x, hx⟩ : ∃ x, l[m]? = some x := ⟨_, List.getElem?_eq_getElem hlt⟩
          obtain ⟨cx, hcx, hcx2, hrx⟩ := rl_at l ab ao m x hrl hx
          have HXD : Hid (l.getD m JV.zero = x) := by show _ = _; rw [List.getD, hx]; rfl
          rw [HXD.out] at HMONO
          have HX := Lib.hid hx
          have HCX := Lib.hid hcx
          have HCX2 := Lib.hid hcx2
          have HRX := Lib.hid hrx
          have HAB := Lib.hid hab
          have hmc : m < c := by have := HLC.out; omega
          have hm0 : (0 : Int) ≤ (m : Int) := by omega
          clear hcx hcx2 hrx hrl hab hx hlt
          generalize hDS : (91 :: partF 5 l ks m) = DS at ho
          have HDS := Lib.hid hDS
          clear hDS
          rcases Nat.eq_zero_or_pos m with hz | hz
          · have hmi : ¬ (0 : Int) < (m : Int) := by omega
            have HM0 := Lib.hid hz
            clear hz
            go_upto_region 20 with fail
            obtain ⟨T1, hTT⟩ : ∃ T1, T1 = DS := ⟨_, rfl⟩
            have hT1 : Hid (T1 = 91 :: partF 5 l ks m) := by show _ = _; rw [hTT, HDS.out]
            rw [← hTT] at ho ⊢
            obtain ⟨wx, hwx⟩ : ∃ wx, wx = wr := ⟨_, rfl⟩
            rw [← hwx] at ho hb ⊢
            have ho5 := ho
            have hb5 := HB.out ▸ hb
            clear ho hb hTT c3 hmi hwx
            have hA5 := HA0.out.kept hb5
            have e0 := (hA5.cell 0).trans (show _ = some (Value.int .i64 5) from rfl)
            have e3 := (hA5.cell 3).trans (show _ = some (Value.slice (some ⟨ab, ao, none⟩) l.length c) from rfl)
            have e4 := (hA5.cell 4).trans (show _ = some (Value.slice b ks.length d) from rfl)
            have HB5 := Lib.hid hb5
            have HA5 := Lib.hid hA5
            have hgr5 : Hid (B ≤ wx.heap.size) := by show _ ≤ _; rw [← HB.out]; exact hb5.size
            clear hA5
            have hT6 : Hid (T1 = 91 :: partF 5 l ks m ++ sepF 5 ks m) := by show _ = _; rw [hT1.out]; simp [sepF, HM0.out]
            go_upto_region 23 with fail
            obtain ⟨wy, hwy⟩ : ∃ wy, wy = wx := ⟨_, rfl⟩
            rw [← hwy] at ho5 hb5 hgr5 e3 ⊢
            have HB7 := HB.out ▸ hb5
            have ho7 := ho5
            obtain ⟨T2, hT2⟩ : ∃ T2, T2 = T1 := ⟨_, rfl⟩
            have hT7 : Hid (T2 = 91 :: partF 5 l ks m ++ sepF 5 ks m) := by show _ = _; rw [hT2]; exact hT6.out
            rw [← hT2] at ho7 ⊢
            have hgr7 := hgr5
            clear ho5 hb5 e0 e4 hwy hT2 hT6
            have HBY := HB.out ▸ HB7
            have HIH := Lib.hid (IH.out m x cx wy HX.out HRX.out HBY (by have h1 := HMONO.out; simp only [List.length_append, List.length_cons] at h1; omega))
            have HRNG : Hid (wy.rangeAt ab (ao + m * 5) cx) := fun j v hv => by
              have hj : j < 5 := by rw [← HCX.out]; exact (List.getElem?_eq_some_iff.1 hv).1
              rw [show ao + m * 5 + j = ao + (5 * m + j) by omega]
              exact ((hbl.out _ HBY).cell (p := ⟨ab, ao + (5 * m + j), none⟩) HAB.out).trans ((HCX2.out j hj).trans hv)
            have HB8 := Lib.hid HB7
            have hend : Hid (T2 ++ plainF x = 91 :: partF 5 l ks (m + 1)) := by show _ = _; rw [hT7.out, ← HXD.out, partF]; simp
            have hTL9 : Hid (T2.length + (plainF x).length ≤ 23456248059000) := by
              show _ ≤ _
              have h1 := HMONO.out
              have h2 := congrArg List.length hT7.out
              simp only [List.length_append, List.length_cons] at h1 h2
              omega
            clear HB7 HBY
            go_wp2_with (first
              | ((with_reducible show wpList _ _ _ (⟨some 66, _, _, _, _, _⟩ :: _) _ _); refine wpList_load_mid rfl 26 _ rfl ab (ao + m * 5) rfl cx _ HRNG.out Tryd.underlying26 rfl (by rw [HCX.out]; kernel_rfl) ?_)
              | (go_at_call 24; refine HIH.out.mono ?_; rintro e w9 ⟨a9, n9, c9, rfl, hr9, hb9⟩; have hn9 := hr9.len)
              | ((with_reducible show wpList _ _ _ (⟨some 68, _, _, _, _, _⟩ :: _) _ _); go_loud (refine wl_append bt rfl (.tmp 61) (.tmp 67) rfl B _ _ (ho7.to hb9) rfl _ _ _ _ rfl hr9 (by have := hTL9.out; have := hr9.len; omega) (Nat.le_trans hgr7.out hb9.size) ?_); intro vz wz hoz hbz))
            go_roundw
            case rel => exact ⟨m + 1, HLT.out, by go_num, by rw [← hend.out]; exact hoz, HB8.out.trans ((hb9.mono hgr7.out).trans hbz)⟩
            case measure => simp [intOf]; have := HLT.out; omega
          · have hmi : (0 : Int) < (m : Int) := by omega
            have HM1 : Hid (¬ m = 0) := by show ¬ _; omega
            have halr := Lib.hid (fun o => (Below.refl wr.heap.size wr).alloc (Nat.le_refl _) o)
            have hTL : Hid (DS.length + 1 ≤ 23456248059000) := by
              show _ ≤ _
              have h1 := HMONO.out
              rw [← HDS.out]
              simp only [List.length_append, List.length_cons] at h1 ⊢
              omega
            clear hz
            go_upto_region 20 with ((with_reducible show wpList _ _ _ (⟨some 46, _, _, _, _, _⟩ :: _) _ _); go_loud (refine wl_append bt rfl (.tmp 44) (.tmp 45) rfl B _ _ (ho.to (halr.out _)) rfl _ 1 1 [44] rfl (rd_lit _ [44] _) (by have := hTL.out; omega) (by have := hgr.out; simp; omega) ?_); intro v5 wx ho5 hb5)
            obtain ⟨T1, hTT⟩ : ∃ T1, T1 = DS ++ [44] := ⟨_, rfl⟩
            have hT1 : Hid (T1 = 91 :: partF 5 l ks m ++ [44]) := by show _ = _; rw [hTT, ← HDS.out]
            rw [← hTT] at ho5
            obtain ⟨a5, c5, rfl, -⟩ := ho5.shape
            replace hb5 := HB.out ▸ hb.trans (((halr.out _).mono hgr.out).trans hb5)
            clear ho hb hTT c3 hmi
            have hA5 := HA0.out.kept hb5
            have e0 := (hA5.cell 0).trans (show _ = some (Value.int .i64 5) from rfl)
            have e3 := (hA5.cell 3).trans (show _ = some (Value.slice (some ⟨ab, ao, none⟩) l.length c) from rfl)
            have e4 := (hA5.cell 4).trans (show _ = some (Value.slice b ks.length d) from rfl)
            have HB5 := Lib.hid hb5
            have HA5 := Lib.hid hA5
            have hgr5 : Hid (B ≤ wx.heap.size) := by show _ ≤ _; rw [← HB.out]; exact hb5.size
            clear hA5
            have hT6 : Hid (T1 = 91 :: partF 5 l ks m ++ sepF 5 ks m) := by show _ = _; rw [hT1.out]; simp [sepF, HM1.out]
            go_upto_region 23 with fail
            obtain ⟨wy, hwy⟩ : ∃ wy, wy = wx := ⟨_, rfl⟩
            rw [← hwy] at ho5 hb5 hgr5 e3 ⊢
            have HB7 := HB.out ▸ hb5
            have ho7 := ho5
            obtain ⟨T2, hT2⟩ : ∃ T2, T2 = T1 := ⟨_, rfl⟩
            have hT7 : Hid (T2 = 91 :: partF 5 l ks m ++ sepF 5 ks m) := by show _ = _; rw [hT2]; exact hT6.out
            rw [← hT2] at ho7 ⊢
            have hgr7 := hgr5
            clear ho5 hb5 e0 e4 hwy hT2 hT6
            have HBY := HB.out ▸ HB7
            have HIH := Lib.hid (IH.out m x cx wy HX.out HRX.out HBY (by have h1 := HMONO.out; simp only [List.length_append, List.length_cons] at h1; omega))
            have HRNG : Hid (wy.rangeAt ab (ao + m * 5) cx) := fun j v hv => by
              have hj : j < 5 := by rw [← HCX.out]; exact (List.getElem?_eq_some_iff.1 hv).1
              rw [show ao + m * 5 + j = ao + (5 * m + j) by omega]
              exact ((hbl.out _ HBY).cell (p := ⟨ab, ao + (5 * m + j), none⟩) HAB.out).trans ((HCX2.out j hj).trans hv)
            have HB8 := Lib.hid HB7
            have hend : Hid (T2 ++ plainF x = 91 :: partF 5 l ks (m + 1)) := by show _ = _; rw [hT7.out, ← HXD.out, partF]; simp
            have hTL9 : Hid (T2.length + (plainF x).length ≤ 23456248059000) := by
              show _ ≤ _
              have h1 := HMONO.out
              have h2 := congrArg List.length hT7.out
              simp only [List.length_append, List.length_cons] at h1 h2
              omega
            clear HB7 HBY
            go_wp2_with (first
              | ((with_reducible show wpList _ _ _ (⟨some 66, _, _, _, _, _⟩ :: _) _ _); refine wpList_load_mid rfl 26 _ rfl ab (ao + m * 5) rfl cx _ HRNG.out Tryd.underlying26 rfl (by rw [HCX.out]; kernel_rfl) ?_)
              | (go_at_call 24; refine HIH.out.mono ?_; rintro e w9 ⟨a9, n9, c9, rfl, hr9, hb9⟩; have hn9 := hr9.len)
              | ((with_reducible show wpList _ _ _ (⟨some 68, _, _, _, _, _⟩ :: _) _ _); go_loud (refine wl_append bt rfl (.tmp 61) (.tmp 67) rfl B _ _ (ho7.to hb9) rfl _ _ _ _ rfl hr9 (by have := hTL9.out; have := hr9.len; omega) (Nat.le_trans hgr7.out hb9.size) ?_); intro vz wz hoz hbz))
            go_roundw
            case rel => exact ⟨m + 1, HLT.out, by go_num, by rw [← hend.out]; exact hoz, HB8.out.trans ((hb9.mono hgr7.out).trans hbz)⟩
            case measure => simp [intOf]; have := HLT.out; omega
        · have hc : ¬ (m : Int) < (l.length : Int) := by omega
          obtain rfl : m = l.length := by omega
          have hTL : Hid ((91 :: partF 5 l ks l.length).length + 1 ≤ 23456248059000) := by
            show _ ≤ _
            have h0 := HLEN.out
            rw [hp.out] at h0
            simp only [List.length_append, List.length_cons, List.length_nil] at h0 ⊢
            omega
          have hpp : Hid (plainF (.mk 5 s n l ks) = (91 :: partF 5 l ks l.length) ++ [93]) := by show _ = _; rw [hp.out]; rfl
          have hfst : (91 :: partF 5 l ks l.length).getD 0 0 = 91 := rfl
          have hpos : 0 < (91 :: partF 5 l ks l.length).length := by simp
          generalize (91 :: partF 5 l ks l.length) = DS at ho hTL hpp hfst hpos
          obtain ⟨gz, cz, e, hz1, hz2, hz3⟩ := ho.solid hpos
          cases e
          have cz0 := ho.cellAt 0 hpos
          rw [hfst] at cz0
          have cz1 : wr.cell? ⟨gz, 0, none⟩ = some (.int .u8 91) := cz0
          have halr := Lib.hid (fun o => (Below.refl wr.heap.size wr).alloc (Nat.le_refl _) o)
          have HBR := Lib.hid hb
          have hdz : 0 < c4 := by omega
          have hlz : (0 : Int) < (DS.length : Int) := by omega
          have HPOS := Lib.hid hpos
          clear cz0 hz1 hz2 hz3 hb hfst
          go_wp2_with ((with_reducible show wpList _ _ _ (⟨some 75, _, _, _, _, _⟩ :: _) _ _); go_loud (refine wl_append bt rfl (.tmp 69) (.tmp 74) rfl B _ _ (ho.to (halr.out _)) rfl _ 1 1 [93] rfl (rd_lit _ [93] _) (by have := hTL.out; omega) (by have := hgr.out; simp; omega) ?_); intro vz wz hoz hbz)
          go_ret
          obtain ⟨a1, c1, rfl, -⟩ := hoz.shape
          exact ⟨_, _, _, rfl, by rw [hpp.out]; exact hoz.rd.toRd, hbl.out _ (HB.out ▸ HBR.out.trans (((halr.out _).mono hgr.out).trans hbz))⟩
    · have hp : Hid (plainF (.mk 6 s n l ks) = 123 :: (partF 6 l ks l.length ++ [125])) := by
        show _ = _
        have := plain_parts 6 s n l ks (by omega) HKL.out
        rw [this]
        rfl
      have HKE : Hid (ks.length = l.length) := HKL.out rfl
      have hmono : Hid (∀ m, m < l.length → (123 :: (partF 6 l ks m ++ (sepF 6 ks m ++ plainF (l.getD m JV.zero)))).length + 1 ≤ 23456248059000) := by
        intro m hm
        have h0 := HLEN.out
        rw [hp.out] at h0
        have h1 := part_mono 6 l ks (m + 1) (l.length - (m + 1))
        rw [show m + 1 + (l.length - (m + 1)) = l.length by omega] at h1
        simp only [List.length_append, List.length_cons, List.length_nil] at h0 h1 ⊢
        have : (partF 6 l ks (m + 1)).length = (partF 6 l ks m).length + ((sepF 6 ks m).length + (plainF (l.getD m JV.zero)).length) := by
          show (partF 6 l ks m ++ _).length = _
          simp only [List.length_append]
        omega
      clear hA0 c1 c2 kc
      go_upto_region 13 with fail
      obtain ⟨B, hB⟩ : ∃ B, W0.heap.size = B := ⟨_, rfl⟩
      have HB := Lib.hid hB
      obtain ⟨W1, hW1⟩ : ∃ W1, W1 = W0.alloc (.cells #[.int .u8 91] 5) := ⟨_, rfl⟩
      rw [← hW1]
      have ho1 : Own W1 B 5 (.slice (some ⟨B, 0, none⟩) 1 1) [91] := by rw [hW1, ← hB]; exact own_one W0 91 _
      have hb1 : Below B W0 W1 := by rw [hW1, ← hB]; exact hal.out _
      rw [hB]
      clear hB hW1 c0
      have hA1 := HA0.out.kept (HB.out ▸ hb1)
      have c0 := (hA1.cell 0).trans (show _ = some (Value.int .i64 6) from rfl)
      have cb := ho1.cellAt 0 (by omega)
      have cf := ho1.frozenAt 0
      have HO1 := Lib.hid ho1
      have HB1 := Lib.hid hb1
      clear ho1 hb1 hA1
      go_upto_region 15 with fail
      obtain ⟨W2, hW2⟩ : ∃ W2, W2 = W1.setCell ⟨B, 0, none⟩ (.int .u8 123) := ⟨_, rfl⟩
      rw [← hW2]
      have ho1 : Own W2 B 5 (.slice (some ⟨B, 0, none⟩) 1 1) [123] := by rw [hW2]; exact HO1.out.stored 0 123
      have hb1 : Below B W0 W2 := by rw [hW2]; exact HB1.out.setCell (Nat.le_refl _) _
      clear cb cf hW2
      have hA1 := HA0.out.kept (HB.out ▸ hb1)
      have c3 := (hA1.cell 3).trans (show _ = some (Value.slice a l.length c) from rfl)
      clear hA1
      go_wp2_with fail
      go_loopw [3, 4] (fun vb i wr => ∃ (m : Nat), m ≤ l.length ∧ i = .int .i64 m ∧ Own wr B 5 vb (123 :: partF 6 l ks m) ∧ Below B W0 wr) (fun _ i _ => l.length - (intOf i).toNat)
      case atStart => exact ⟨0, by omega, rfl, by simpa [partF] using ho1, hb1⟩
      case round =>
        clear ho1 hb1 c3
        obtain ⟨m, hm, rfl, ho, hb⟩ := hrel
        obtain ⟨a4, c4, rfl, -⟩ := ho.shape
        have hA := HA0.out.kept (HB.out ▸ hb)
        have c3 := (hA.cell 3).trans (show _ = some (Value.slice a l.length c) from rfl)
        have hgr : Hid (B ≤ wr.heap.size) := by show _ ≤ _; rw [← HB.out]; exact (HB.out ▸ hb : Below W0.heap.size W0 wr).size
        clear hA
        by_cases hlt : m < l.length
        · have hc : (m : Int) < (l.length : Int) := by omega
          have HLT := Lib.hid hlt
          have HMONO := Lib.hid (hmono.out m hlt)
          obtain ⟨ab, ao, rfl, hab, hrl⟩ := HL.out (by omega)
          obtain ⟨x, hx⟩ : ∃ x, l[m]? = some x := ⟨_, List.getElem?_eq_getElem hlt⟩
          obtain ⟨cx, hcx, hcx2, hrx⟩ := rl_at l ab ao m x hrl hx
          have HXD : Hid (l.getD m JV.zero = x) := by show _ = _; rw [List.getD, hx]; rfl
          rw [HXD.out] at HMONO
          have HX := Lib.hid hx
          have HCX := Lib.hid hcx
          have HCX2 := Lib.hid hcx2
          have HRX := Lib.hid hrx
          have HAB := Lib.hid hab
          have hmc : m < c := by have := HLC.out; omega
          have hm0 : (0 : Int) ≤ (m : Int) := by omega
          clear hcx hcx2 hrx hrl hab hx hlt
          generalize hDS : (123 :: partF 6 l ks m) = DS at ho
          have HDS := Lib.hid hDS
          clear hDS
          rcases Nat.eq_zero_or_pos m with hz | hz
          · have hmi : ¬ (0 : Int) < (m : Int) := by omega
            have HM0 := Lib.hid hz
            clear hz
            go_upto_region 20 with fail
            obtain ⟨T1, hTT⟩ : ∃ T1, T1 = DS := ⟨_, rfl⟩
            have hT1 : Hid (T1 = 123 :: partF 6 l ks m) := by show _ = _; rw [hTT, HDS.out]
            rw [← hTT] at ho ⊢
            obtain ⟨wx, hwx⟩ : ∃ wx, wx = wr := ⟨_, rfl⟩
            rw [← hwx] at ho hb ⊢
            have ho5 := ho
            have hb5 := HB.out ▸ hb
            clear ho hb hTT c3 hmi hwx
            have hA5 := HA0.out.kept hb5
            have e0 := (hA5.cell 0).trans (show _ = some (Value.int .i64 6) from rfl)
            have e3 := (hA5.cell 3).trans (show _ = some (Value.slice (some ⟨ab, ao, none⟩) l.length c) from rfl)
            have e4 := (hA5.cell 4).trans (show _ = some (Value.slice b ks.length d) from rfl)
            have HB5 := Lib.hid hb5
            have HA5 := Lib.hid hA5
            have hgr5 : Hid (B ≤ wx.heap.size) := by show _ ≤ _; rw [← HB.out]; exact hb5.size
            clear hA5
            obtain ⟨kb, ko, rfl, hkb1, hkc⟩ := (HKS.out _ hb5).mem (by have := HKE.out; have := HLT.out; omega)
            have ky := hkc m (by have := HKE.out; have := HLT.out; omega)
            obtain ⟨y, hy⟩ : ∃ y, y = ks.getD m [] := ⟨_, rfl⟩
            rw [← hy] at ky
            have hT6 : Hid (T1 ++ wordF y ++ [58] = 123 :: partF 6 l ks m ++ sepF 6 ks m) := by show _ = _; rw [hT1.out, hy]; simp [sepF, HM0.out]
            have hmd : m < d := by have := HKD.out; have := HKE.out; have := HLT.out; omega
            have hTL : Hid (T1.length + (wordF y).length + 1 ≤ 23456248059000) := by
              show _ ≤ _
              have h1 := HMONO.out
              have h2 := congrArg List.length hT6.out
              simp only [List.length_append, List.length_cons, List.length_nil] at h1 h2
              omega
            have HWD := Lib.hid (fun W => rWord_any y W (by have := hTL.out; have := word_long y; omega))
            have hmk : (m : Int) < (ks.length : Int) := by have := HKE.out; have := HLT.out; omega
            clear hkc hkb1 hy
            go_upto_region 22 with (first
              | (go_at_call 39; refine (HWD.out _).mono ?_; rintro e w6 ⟨v6, rfl, ho6, hb6⟩; obtain ⟨a6, c6, rfl, -⟩ := ho6.shape)
              | ((with_reducible show wpList _ _ _ (⟨some 57, _, _, _, _, _⟩ :: _) _ _); go_loud (refine wl_append bt rfl (.tmp 50) (.tmp 56) rfl B _ _ (ho5.to hb6) rfl _ _ _ _ rfl ho6.rd.toRd (by have := hTL.out; omega) (Nat.le_trans hgr5.out hb6.size) ?_); intro v6 w7 ho7 hb7))
            have HB7a : Below B W0 w7 := (HB.out ▸ HB5.out).trans ((hb6.mono hgr5.out).trans hb7)
            have hgr7a : Hid (B ≤ w7.heap.size) := Nat.le_trans hgr5.out (Nat.le_trans hb6.size hb7.size)
            obtain ⟨a7, c7, rfl, -⟩ := ho7.shape
            have hal7 := Lib.hid (fun o => (Below.refl w7.heap.size w7).alloc (Nat.le_refl _) o)
            clear ho5 hb5 ho6 hb6 hb7 e0 e3 e4 ky
            have hTL8 : Hid ((T1 ++ wordF y).length + 1 ≤ 23456248059000) := by show _ ≤ _; have := hTL.out; rw [List.length_append]; omega
            go_upto_region 23 with ((with_reducible show wpList _ _ _ (⟨some 60, _, _, _, _, _⟩ :: _) _ _); go_loud (refine wl_append bt rfl (.tmp 58) (.tmp 59) rfl B _ _ (ho7.to (hal7.out _)) rfl _ 1 1 [58] rfl (rd_lit _ [58] _) (by have := hTL8.out; simp only [List.length_append] at this ⊢; omega) (by have := hgr7a.out; simp; omega) ?_); intro v8 w8 ho8 hb8)
            have HB7 : Below B W0 w8 := HB7a.trans (((hal7.out _).mono hgr7a.out).trans hb8)
            have hgr7 : Hid (B ≤ w8.heap.size) := Nat.le_trans hgr7a.out (Nat.le_trans (hal7.out _).size hb8.size)
            clear HB7a hb8 ho7
            obtain ⟨T2, hT2⟩ : ∃ T2, T2 = T1 ++ wordF y ++ [58] := ⟨_, rfl⟩
            have hT7 : Hid (T2 = 123 :: partF 6 l ks m ++ sepF 6 ks m) := by show _ = _; rw [hT2]; exact hT6.out
            rw [← hT2] at ho8
            obtain ⟨a8, c8, rfl, -⟩ := ho8.shape
            have ho7 := ho8
            obtain ⟨wy, hwy⟩ : ∃ wy, wy = w8 := ⟨_, rfl⟩
            rw [← hwy] at ho7 HB7 hgr7 ⊢
            have hA8 := HA0.out.kept (HB.out ▸ HB7)
            have e3 := (hA8.cell 3).trans (show _ = some (Value.slice (some ⟨ab, ao, none⟩) l.length c) from rfl)
            clear ho8 hT2 hwy hA8 hT6
            have HBY := HB.out ▸ HB7
            have HIH := Lib.hid (IH.out m x cx wy HX.out HRX.out HBY (by have h1 := HMONO.out; simp only [List.length_append, List.length_cons] at h1; omega))
            have HRNG : Hid (wy.rangeAt ab (ao + m * 5) cx) := fun j v hv => by
              have hj : j < 5 := by rw [← HCX.out]; exact (List.getElem?_eq_some_iff.1 hv).1
              rw [show ao + m * 5 + j = ao + (5 * m + j) by omega]
              exact ((hbl.out _ HBY).cell (p := ⟨ab, ao + (5 * m + j), none⟩) HAB.out).trans ((HCX2.out j hj).trans hv)
            have HB8 := Lib.hid HB7
            have hend : Hid (T2 ++ plainF x = 123 :: partF 6 l ks (m + 1)) := by show _ = _; rw [hT7.out, ← HXD.out, partF]; simp
            have hTL9 : Hid (T2.length + (plainF x).length ≤ 23456248059000) := by
              show _ ≤ _
              have h1 := HMONO.out
              have h2 := congrArg List.length hT7.out
              simp only [List.length_append, List.length_cons] at h1 h2
              omega
            clear HB7 HBY
            go_wp2_with (first
              | ((with_reducible show wpList _ _ _ (⟨some 66, _, _, _, _, _⟩ :: _) _ _); refine wpList_load_mid rfl 26 _ rfl ab (ao + m * 5) rfl cx _ HRNG.out Tryd.underlying26 rfl (by rw [HCX.out]; kernel_rfl) ?_)
              | (go_at_call 24; refine HIH.out.mono ?_; rintro e w9 ⟨a9, n9, c9, rfl, hr9, hb9⟩; have hn9 := hr9.len)
              | ((with_reducible show wpList _ _ _ (⟨some 68, _, _, _, _, _⟩ :: _) _ _); go_loud (refine wl_append bt rfl (.tmp 61) (.tmp 67) rfl B _ _ (ho7.to hb9) rfl _ _ _ _ rfl hr9 (by have := hTL9.out; have := hr9.len; omega) (Nat.le_trans hgr7.out hb9.size) ?_); intro vz wz hoz hbz))
            go_roundw
            case rel => exact ⟨m + 1, HLT.out, by go_num, by rw [← hend.out]; exact hoz, HB8.out.trans ((hb9.mono hgr7.out).trans hbz)⟩
            case measure => simp [intOf]; have := HLT.out; omega
          · have hmi : (0 : Int) < (m : Int) := by omega
            have HM1 : Hid (¬ m = 0) := by show ¬ _; omega
            have halr := Lib.hid (fun o => (Below.refl wr.heap.size wr).alloc (Nat.le_refl _) o)
            have hTL : Hid (DS.length + 1 ≤ 23456248059000) := by
              show _ ≤ _
              have h1 := HMONO.out
              rw [← HDS.out]
              simp only [List.length_append, List.length_cons] at h1 ⊢
              omega
            clear hz
            go_upto_region 20 with ((with_reducible show wpList _ _ _ (⟨some 46, _, _, _, _, _⟩ :: _) _ _); go_loud (refine wl_append bt rfl (.tmp 44) (.tmp 45) rfl B _ _ (ho.to (halr.out _)) rfl _ 1 1 [44] rfl (rd_lit _ [44] _) (by have := hTL.out; omega) (by have := hgr.out; simp; omega) ?_); intro v5 wx ho5 hb5)
            obtain ⟨T1, hTT⟩ : ∃ T1, T1 = DS ++ [44] := ⟨_, rfl⟩
            have hT1 : Hid (T1 = 123 :: partF 6 l ks m ++ [44]) := by show _ = _; rw [hTT, ← HDS.out]
            rw [← hTT] at ho5
            obtain ⟨a5, c5, rfl, -⟩ := ho5.shape
            replace hb5 := HB.out ▸ hb.trans (((halr.out _).mono hgr.out).trans hb5)
            clear ho hb hTT c3 hmi
            have hA5 := HA0.out.kept hb5
            have e0 := (hA5.cell 0).trans (show _ = some (Value.int .i64 6) from rfl)
            have e3 := (hA5.cell 3).trans (show _ = some (Value.slice (some ⟨ab, ao, none⟩) l.length c) from rfl)
            have e4 := (hA5.cell 4).trans (show _ = some (Value.slice b ks.length d) from rfl)
            have HB5 := Lib.hid hb5
            have HA5 := Lib.hid hA5
            have hgr5 : Hid (B ≤ wx.heap.size) := by show _ ≤ _; rw [← HB.out]; exact hb5.size
            clear hA5
            obtain ⟨kb, ko, rfl, hkb1, hkc⟩ := (HKS.out _ hb5).mem (by have := HKE.out; have := HLT.out; omega)
            have ky := hkc m (by have := HKE.out; have := HLT.out; omega)
            obtain ⟨y, hy⟩ : ∃ y, y = ks.getD m [] := ⟨_, rfl⟩
            rw [← hy] at ky
            have hT6 : Hid (T1 ++ wordF y ++ [58] = 123 :: partF 6 l ks m ++ sepF 6 ks m) := by show _ = _; rw [hT1.out, hy]; simp [sepF, HM1.out]
            have hmd : m < d := by have := HKD.out; have := HKE.out; have := HLT.out; omega
            have hTL : Hid (T1.length + (wordF y).length + 1 ≤ 23456248059000) := by
              show _ ≤ _
              have h1 := HMONO.out
              have h2 := congrArg List.length hT6.out
              simp only [List.length_append, List.length_cons, List.length_nil] at h1 h2
              omega
            have HWD := Lib.hid (fun W => rWord_any y W (by have := hTL.out; have := word_long y; omega))
            have hmk : (m : Int) < (ks.length : Int) := by have := HKE.out; have := HLT.out; omega
            clear hkc hkb1 hy
            go_upto_region 22 with (first
              | (go_at_call 39; refine (HWD.out _).mono ?_; rintro e w6 ⟨v6, rfl, ho6, hb6⟩; obtain ⟨a6, c6, rfl, -⟩ := ho6.shape)
              | ((with_reducible show wpList _ _ _ (⟨some 57, _, _, _, _, _⟩ :: _) _ _); go_loud (refine wl_append bt rfl (.tmp 50) (.tmp 56) rfl B _ _ (ho5.to hb6) rfl _ _ _ _ rfl ho6.rd.toRd (by have := hTL.out; omega) (Nat.le_trans hgr5.out hb6.size) ?_); intro v6 w7 ho7 hb7))
            have HB7a : Below B W0 w7 := (HB.out ▸ HB5.out).trans ((hb6.mono hgr5.out).trans hb7)
            have hgr7a : Hid (B ≤ w7.heap.size) := Nat.le_trans hgr5.out (Nat.le_trans hb6.size hb7.size)
            obtain ⟨a7, c7, rfl, -⟩ := ho7.shape
            have hal7 := Lib.hid (fun o => (Below.refl w7.heap.size w7).alloc (Nat.le_refl _) o)
            clear ho5 hb5 ho6 hb6 hb7 e0 e3 e4 ky
            have hTL8 : Hid ((T1 ++ wordF y).length + 1 ≤ 23456248059000) := by show _ ≤ _; have := hTL.out; rw [List.length_append]; omega
            go_upto_region 23 with ((with_reducible show wpList _ _ _ (⟨some 60, _, _, _, _, _⟩ :: _) _ _); go_loud (refine wl_append bt rfl (.tmp 58) (.tmp 59) rfl B _ _ (ho7.to (hal7.out _)) rfl _ 1 1 [58] rfl (rd_lit _ [58] _) (by have := hTL8.out; simp only [List.length_append] at this ⊢; omega) (by have := hgr7a.out; simp; omega) ?_); intro v8 w8 ho8 hb8)
            have HB7 : Below B W0 w8 := HB7a.trans (((hal7.out _).mono hgr7a.out).trans hb8)
            have hgr7 : Hid (B ≤ w8.heap.size) := Nat.le_trans hgr7a.out (Nat.le_trans (hal7.out _).size hb8.size)
            clear HB7a hb8 ho7
            obtain ⟨T2, hT2⟩ : ∃ T2, T2 = T1 ++ wordF y ++ [58] := ⟨_, rfl⟩
            have hT7 : Hid (T2 = 123 :: partF 6 l ks m ++ sepF 6 ks m) := by show _ = _; rw [hT2]; exact hT6.out
            rw [← hT2] at ho8
            obtain ⟨a8, c8, rfl, -⟩ := ho8.shape
            have ho7 := ho8
            obtain ⟨wy, hwy⟩ : ∃ wy, wy = w8 := ⟨_, rfl⟩
            rw [← hwy] at ho7 HB7 hgr7 ⊢
            have hA8 := HA0.out.kept (HB.out ▸ HB7)
            have e3 := (hA8.cell 3).trans (show _ = some (Value.slice (some ⟨ab, ao, none⟩) l.length c) from rfl)
            clear ho8 hT2 hwy hA8 hT6
            have HBY := HB.out ▸ HB7
            have HIH := Lib.hid (IH.out m x cx wy HX.out HRX.out HBY (by have h1 := HMONO.out; simp only [List.length_append, List.length_cons] at h1; omega))
            have HRNG : Hid (wy.rangeAt ab (ao + m * 5) cx) := fun j v hv => by
              have hj : j < 5 := by rw [← HCX.out]; exact (List.getElem?_eq_some_iff.1 hv).1
              rw [show ao + m * 5 + j = ao + (5 * m + j) by omega]
              exact ((hbl.out _ HBY).cell (p := ⟨ab, ao + (5 * m + j), none⟩) HAB.out).trans ((HCX2.out j hj).trans hv)
            have HB8 := Lib.hid HB7
            have hend : Hid (T2 ++ plainF x = 123 :: partF 6 l ks (m + 1)) := by show _ = _; rw [hT7.out, ← HXD.out, partF]; simp
            have hTL9 : Hid (T2.length + (plainF x).length ≤ 23456248059000) := by
              show _ ≤ _
              have h1 := HMONO.out
              have h2 := congrArg List.length hT7.out
              simp only [List.length_append, List.length_cons] at h1 h2
              omega
            clear HB7 HBY
            go_wp2_with (first
              | ((with_reducible show wpList _ _ _ (⟨some 66, _, _, _, _, _⟩ :: _) _ _); refine wpList_load_mid rfl 26 _ rfl ab (ao + m * 5) rfl cx _ HRNG.out Tryd.underlying26 rfl (by rw [HCX.out]; kernel_rfl) ?_)
              | (go_at_call 24; refine HIH.out.mono ?_; rintro e w9 ⟨a9, n9, c9, rfl, hr9, hb9⟩; have hn9 := hr9.len)
              | ((with_reducible show wpList _ _ _ (⟨some 68, _, _, _, _, _⟩ :: _) _ _); go_loud (refine wl_append bt rfl (.tmp 61) (.tmp 67) rfl B _ _ (ho7.to hb9) rfl _ _ _ _ rfl hr9 (by have := hTL9.out; have := hr9.len; omega) (Nat.le_trans hgr7.out hb9.size) ?_); intro vz wz hoz hbz))
            go_roundw
            case rel => exact ⟨m + 1, HLT.out, by go_num, by rw [← hend.out]; exact hoz, HB8.out.trans ((hb9.mono hgr7.out).trans hbz)⟩
            case measure => simp [intOf]; have := HLT.out; omega
        · have hc : ¬ (m : Int) < (l.length : Int) := by omega
          obtain rfl : m = l.length := by omega
          have hTL : Hid ((123 :: partF 6 l ks l.length).length + 1 ≤ 23456248059000) := by
            show _ ≤ _
            have h0 := HLEN.out
            rw [hp.out] at h0
            simp only [List.length_append, List.length_cons, List.length_nil] at h0 ⊢
            omega
          have hpp : Hid (plainF (.mk 6 s n l ks) = (123 :: partF 6 l ks l.length) ++ [125]) := by show _ = _; rw [hp.out]; rfl
          have hfst : (123 :: partF 6 l ks l.length).getD 0 0 = 123 := rfl
          have hpos : 0 < (123 :: partF 6 l ks l.length).length := by simp
          generalize (123 :: partF 6 l ks l.length) = DS at ho hTL hpp hfst hpos
          obtain ⟨gz, cz, e, hz1, hz2, hz3⟩ := ho.solid hpos
          cases e
          have cz0 := ho.cellAt 0 hpos
          rw [hfst] at cz0
          have cz1 : wr.cell? ⟨gz, 0, none⟩ = some (.int .u8 123) := cz0
          have halr := Lib.hid (fun o => (Below.refl wr.heap.size wr).alloc (Nat.le_refl _) o)
          have HBR := Lib.hid hb
          have hdz : 0 < c4 := by omega
          have hlz : (0 : Int) < (DS.length : Int) := by omega
          have HPOS := Lib.hid hpos
          clear cz0 hz1 hz2 hz3 hb hfst
          go_wp2_with ((with_reducible show wpList _ _ _ (⟨some 75, _, _, _, _, _⟩ :: _) _ _); go_loud (refine wl_append bt rfl (.tmp 69) (.tmp 74) rfl B _ _ (ho.to (halr.out _)) rfl _ 1 1 [125] rfl (rd_lit _ [125] _) (by have := hTL.out; omega) (by have := hgr.out; simp; omega) ?_); intro vz wz hoz hbz)
          go_ret
          obtain ⟨a1, c1, rfl, -⟩ := hoz.shape
          exact ⟨_, _, _, rfl, by rw [hpp.out]; exact hoz.rd.toRd, hbl.out _ (HB.out ▸ HBR.out.trans (((halr.out _).mono hgr.out).trans hbz))⟩
end Go.Proofs.YtighbdhjegklbaaDoor
