/-
  Package tiles: a name cut into a row of numbers. Conditions: those in each statement.
-/
import Derived.Test.YtfidajbenmgflaaDoorTiD
import Derived.Test.YtfidajbenmgflaaDoorTiS
namespace Go.Proofs.YtfidajbenmgflaaDoor
open Go.RowKit

/-- what cut leaves -/
def CutRes (s : List UInt8) (gs : Nat → Nat) (w : World) (e : Ending) (w' : World) : Prop :=
  e = .returned (.bool (okN s)) ∧ (okN s = true → ∀ k, k < 3 → Arr w' (gs k) 22 [.int .u64 (numAt s k : Int)]) ∧ Below w.heap.size w w'
/-- the numbers' cells, in the midst -/
def Cells3 (s : List UInt8) (gs : Nat → Nat) (k : Nat) (w : World) : Prop := ∀ j, j < 3 → ∃ v, Arr w (gs j) 22 [v] ∧ (j < k → v = .int .u64 (numAt s j : Int))
theorem has_data (r : List UInt8) : (⟨r.toArray⟩ : ByteArray).data.toList = r := by simp
theorem parse_yes (l : List UInt8) (h0 : l ≠ []) (h : l.length ≤ 7) (n : Nat) (hn : numT l = some n) (w : World) :
    Calls Tryd.prog 36 #[txt l, .int .i64 10, .int .i64 64] w fun e w' => e = .returned (.tuple #[.int .u64 (n : Int), .nilIface]) ∧ Below w.heap.size w w' := by
  have e := parse_num l h0 h
  rw [hn] at e
  have hsz : (⟨l.toArray⟩ : ByteArray).size = l.length := by simp [ByteArray.size]
  refine (Tryd.strconv_ParseUint_10_at64_ok ⟨l.toArray⟩ (by omega) n (by rw [has_data]; exact e) w).mono ?_
  rintro e w' ⟨h1, h2 | h2⟩
  · exact ⟨h1, h2 ▸ Below.refl _ _⟩
  · exact ⟨h1, h2 ▸ Lib.bytesWorld_below _ _ _⟩
theorem parse_not (l : List UInt8) (h0 : l ≠ []) (h : l.length ≤ 7) (hn : numT l = none) (w : World) (hT : Tabs w) :
    Calls Tryd.prog 36 #[txt l, .int .i64 10, .int .i64 64] w fun e w' => (∃ N, e = .returned (.tuple #[.int .u64 0, .iface 129 (.pointer (some ⟨N, 0, none⟩))])) ∧ Below w.heap.size w w' := by
  have e := parse_num l h0 h
  rw [hn] at e
  have hsz : (⟨l.toArray⟩ : ByteArray).size = l.length := by simp [ByteArray.size]
  obtain ⟨te, pe, hv⟩ := hT.syn
  refine (Tryd.strconv_ParseUint_10_at64_syntax_var ⟨l.toArray⟩ (by omega) (by rw [has_data]; exact e) te pe w hv).mono ?_
  rintro e w' ⟨N, h1, -, -, h2⟩
  exact ⟨⟨N, h1⟩, h2⟩
theorem cutP_some {k : Nat} {r : List UInt8} {n : Nat} (hp : Lib.hasPrefix r (ahd k) = true) (hl : dgt k ≤ (r.drop 1).length) (hn : numT ((r.drop 1).take (dgt k)) = some n) (h1 : lst k ≤ n) (h2 : n ≤ mst k) : cutP k r = some (n, (r.drop 1).drop (dgt k)) := by
  unfold cutP
  rw [if_pos ⟨hp, hl⟩, hn]
  simp only
  rw [if_pos ⟨h1, h2⟩]
theorem cutP_out {k : Nat} {r : List UInt8} {n : Nat} (hn : numT ((r.drop 1).take (dgt k)) = some n) (h : ¬ (lst k ≤ n ∧ n ≤ mst k)) : cutP k r = none := by
  unfold cutP
  rw [hn]
  split
  · simp only
    rw [if_neg h]
  · rfl
theorem cutP_bad {k : Nat} {r : List UInt8} (hn : numT ((r.drop 1).take (dgt k)) = none) : cutP k r = none := by
  unfold cutP
  rw [hn]
  split <;> rfl
theorem cutP_no {k : Nat} {r : List UInt8} (h : ¬ (Lib.hasPrefix r (ahd k) = true ∧ dgt k ≤ (r.drop 1).length)) : cutP k r = none := if_neg h
structure InvCut (gs : Nat → Nat) (q : List UInt8) (k n b g : Nat) (vk : Value) (W0 : World) (L : Nat → Bool) (v54 v55 v56 v57 v58 v59 v60 v61 v62 v63 v0 : Value) (wx : World) : Prop where
  t0 : L 0 = true → v54 = .slice (some ⟨b, 0, none⟩) 3 3
  t1 : L 1 = true → v55 = .int .i64 ↑k
  t2 : L 2 = true → v56 = .pointer (some ⟨b, k, none⟩)
  t3 : L 3 = true → v57 = .pointer (some ⟨gs k, 0, none⟩)
  t4 : L 4 = true → v58 = .int .u64 ↑n
  t5 : L 5 = true → v59 = txt q
  t6 : L 6 = true → v60 = .pointer (some ⟨g, 1, none⟩)
  t7 : L 7 = true → v61 = .int .i64 (dgt k : Int)
  t8 : L 8 = true → v62 = txt (q.drop (dgt k))
  t9 : L 9 = true → v63 = .pointer (some ⟨gs k, 0, none⟩)
  t11 : L 11 = true → v0 = txt (q.drop (dgt k))
  kb : KB (fun j => j = gs k) W0 wx
  mp : L 10 = true → Arr wx (gs k) 22 [.int .u64 (n : Int)]
  mq : L 10 = false → Arr wx (gs k) 22 [vk]
set_option maxRecDepth 100000 in
set_option maxHeartbeats 3200000 in
theorem cut_any (s : List UInt8) (hs : s.length ≤ 140737488355328) (gs : Nat → Nat) (b : Nat) (w0 w : World) (h0 : Below w0.heap.size w0 w) (hT : Tabs w0) (hr : ∀ k, k < 3 → w.cell? ⟨b, k, none⟩ = some (.pointer (some ⟨gs k, 0, none⟩))) (hb : b < w.heap.size)
    (hg : ∀ k, k < 3 → gs k < w.heap.size ∧ w0.heap.size ≤ gs k ∧ gs k ≠ b) (hgg : ∀ j k, j < 3 → k < 3 → gs j = gs k → j = k) (hA : Cells3 s gs 0 w) :
    Calls Tryd.prog 26 #[txt s, .slice (some ⟨b, 0, none⟩) 3 3] w (CutRes s gs w0) := by
  have HR := Lib.hid hr
  have HT := Lib.hid hT
  have HG := Lib.hid hg
  have HGG := Lib.hid hgg
  have HA := Lib.hid hA
  have HS := Lib.hid hs
  have H0 := Lib.hid h0
  clear hr hT hg hgg hA hs h0
  go_enter Tryd.func26, Tryd.ntmps26
  go_wp2_with (go_at_call 32; refine (fields_any _).mono ?_; rintro e w1 ⟨rfl, hb1⟩)
  have HB1 := Lib.hid hb1
  clear hb1
  go_loopw [0, 12] (fun sv ix wr => ∃ (k : Nat) (r : List UInt8), k ≤ 3 ∧ sv = txt r ∧ ix = .int .i64 (k : Int) ∧ restTo s k = some r ∧ r.length ≤ s.length ∧ Cells3 s gs k wr ∧ KB (fun j => ∃ q, q < 3 ∧ j = gs q) w wr) (fun _ ix _ => 3 - (intOf ix).toNat)
  case atStart => exact ⟨0, s, by omega, rfl, rfl, rfl, Nat.le_refl _, fun j hj => by obtain ⟨v, hv, -⟩ := HA.out j hj; exact ⟨v, hv.kept HB1.out, fun h => by omega⟩, KB.low0 HB1.out⟩
  case round =>
    obtain ⟨k, r, hk, rfl, rfl, hrest, hrl, hcl, hbr⟩ := hrel
    have HO := Lib.hid hrest
    have HBR := Lib.hid hbr
    have HC3 := Lib.hid hcl
    have HRL := Lib.hid hrl
    clear hrest hbr hcl hrl
    by_cases hlt : k < 3
    · have hidx : ∀ W, (Instr.index 76 (.agg flds.toArray) (.int .i64 (k : Int))).run Tryd.prog W = .ok (.agg (fld k).toArray) W := fun W => by
        have hc : k = 0 ∨ k = 1 ∨ k = 2 := by omega
        rcases hc with rfl | rfl | rfl <;> rfl
      have hlti : (k : Int) < 3 := by omega
      go_upto_region 4 with ((with_reducible show wpList _ _ _ (⟨none, .store _ _ _, _, _, _, _⟩ :: _) _ _); go_loud (refine wl_store rfl 75 _ _ rfl wr.heap.size 0 rfl (fld k) rfl 75 _ (Arr.new wr 75 [.string ⟨#[]⟩, .int .i64 0, .int .u64 0, .int .u64 0]) (by kernel_rfl) (by simp [fld_len]) (fld_one k) ?_); intro w3 hA3 hg3 hs3)
      rw [whole_store _ _ (by simp [fld_len])] at hA3
      obtain ⟨g, hg⟩ : ∃ g, g = wr.heap.size := ⟨_, rfl⟩
      have hb3 : Below wr.heap.size wr w3 := ((Below.refl _ wr).alloc (Nat.le_refl _) _).grown hg3 (by simp) (fun k hk => by injection hk with hk; omega)
      have c0 := hA3.cell 0
      simp only [fld, List.getElem?_cons_zero] at c0
      rw [← hg] at hA3 c0 ⊢
      have HA3 := Lib.hid hA3
      have HGG2 := Lib.hid hg
      have HB3 := Lib.hid hb3
      have HCP : Hid (∀ W, Calls Tryd.prog 35 #[txt r, txt (ahd k)] W fun e w' => e = .returned (.tuple #[txt (Lib.trimPrefix r (ahd k)), .bool (Lib.hasPrefix r (ahd k))]) ∧ W = w') := fun W => by
        have h := Tryd.strings_CutPrefix ⟨r.toArray⟩ ⟨(ahd k).toArray⟩ W
        rw [has_data, has_data] at h
        exact h.mono fun e w' ⟨h1, h2⟩ => ⟨h1, h2.symm⟩
      clear hA3 hg hb3 hg3 hs3 hidx
      go_simp
      go_upto_region 5 with (go_at_call 35; go_loud (refine (HCP.out _).mono ?_); rintro e w4 ⟨rfl, rfl⟩)
      have HNO : Hid (∀ W, Below w3.heap.size w3 W → cutP k r = none → CutRes s gs w0 (.returned (.bool false)) W) := fun W hw hn => by
        have hno := okN_no hlt HO.out hn
        unfold CutRes
        rw [hno]
        refine ⟨rfl, fun h => by (cases h), ?_⟩
        have k1 := (HBR.out.low (HB3.out.mono HBR.out.size)).low (hw.mono (Nat.le_trans HBR.out.size HB3.out.size))
        exact H0.out.trans (k1.under (fun j hj => by obtain ⟨q, hq, rfl⟩ := hj; exact (HG.out q hq).2.1) H0.out.size)
      have hbw : KB (fun j => ∃ q, q < 3 ∧ j = gs q) w w3 := HBR.out.low (HB3.out.mono HBR.out.size)
      have HBW := Lib.hid hbw
      have c1 := HA3.out.cell 1
      have c2 := HA3.out.cell 2
      have c3 := HA3.out.cell 3
      simp only [fld, List.getElem?_cons_zero, List.getElem?_cons_succ] at c1 c2 c3
      clear hbw c0
      cases hp : Lib.hasPrefix r (ahd k) with
      | false =>
        have HP := Lib.hid hp
        clear hp c1 c2 c3
        go_wp2_with fail
        go_ret
        exact HNO.out _ (Below.refl _ _) (cutP_no fun h => by rw [HP.out] at h; exact absurd h.1 (by decide))
      | true =>
        have htp : Lib.trimPrefix r (ahd k) = r.drop 1 := by
          unfold Lib.trimPrefix
          rw [if_pos hp]
          congr 1
          unfold ahd; split <;> rfl
        rw [htp]
        obtain ⟨q, hq⟩ : ∃ q, q = r.drop 1 := ⟨_, rfl⟩
        rw [← hq]
        have HP := Lib.hid hp
        have HQ := Lib.hid hq
        have HQL : Hid (q.length ≤ 140737488355328) := by show q.length ≤ _; rw [hq, List.length_drop]; have := HRL.out; have := HS.out; omega
        clear hp htp hq
        by_cases hl : q.length < dgt k
        · have hl' : ((q.length : Nat) : Int) < (dgt k : Int) := by omega
          have HL := Lib.hid hl
          clear hl c2 c3
          go_wp2_with fail
          go_ret
          exact HNO.out _ (Below.refl _ _) (cutP_no fun h => by have := HL.out; have h2 := h.2; rw [← HQ.out] at h2; omega)
        · have hl' : ¬ ((q.length : Nat) : Int) < (dgt k : Int) := by omega
          have HL : Hid (dgt k ≤ q.length) := by show dgt k ≤ q.length; omega
          clear hl
          have hd6 : 1 ≤ dgt k ∧ dgt k ≤ 6 := by unfold dgt; split <;> omega
          have HD6 := Lib.hid hd6
          clear hd6
          have hsl : ∀ W, (Instr.sliceAt 9 (txt q) none (some (.int .i64 (dgt k : Int))) none).run Tryd.prog W = .ok (txt (q.take (dgt k))) W := fun W => slice_take W q (dgt k) HL.out
          have HTL : Hid (q.take (dgt k) ≠ [] ∧ (q.take (dgt k)).length ≤ 7) := by
            show q.take (dgt k) ≠ [] ∧ (q.take (dgt k)).length ≤ 7
            have h1 := HL.out
            have h2 := HD6.out
            have h3 : (q.take (dgt k)).length = dgt k := by rw [List.length_take]; omega
            exact ⟨fun e => by rw [e] at h3; simp at h3; omega, by omega⟩
          have HT3 : Hid (Tabs w3) := HT.out.to (H0.out.trans (HBW.out.under (fun j hj => by obtain ⟨q, hq, rfl⟩ := hj; exact (HG.out q hq).2.1) H0.out.size))
          cases hn : numT (q.take (dgt k)) with
          | none =>
            have HPU := Lib.hid (parse_not _ HTL.out.1 HTL.out.2 hn w3 HT3.out)
            have HN := Lib.hid hn
            clear hn c3
            go_wp2_with (go_at_call 36; go_loud (refine HPU.out.mono ?_); rintro e w5 ⟨⟨N, rfl⟩, hb5⟩)
            go_ret
            exact HNO.out _ hb5 (cutP_bad (by rw [← HQ.out]; exact HN.out))
          | some n =>
            have HPU := Lib.hid (parse_yes _ HTL.out.1 HTL.out.2 n hn w3)
            have HN : Hid (numT ((r.drop 1).take (dgt k)) = some n) := by show numT _ = _; rw [← HQ.out]; exact hn
            clear hn
            go_upto_region 8 with (go_at_call 36; go_loud (refine HPU.out.mono ?_); rintro e w5 ⟨rfl, hb5⟩)
            have HB5 := Lib.hid hb5
            have HGL : Hid (g < w3.heap.size) := HA3.out.lt
            have d1 : w5.cell? ⟨g, 1, none⟩ = some (.int .i64 (dgt k : Int)) := (hb5.cell (p := ⟨g, 1, none⟩) HGL.out).trans c1
            have d2 : w5.cell? ⟨g, 2, none⟩ = some (.int .u64 (lst k : Int)) := (hb5.cell (p := ⟨g, 2, none⟩) HGL.out).trans c2
            have d3 : w5.cell? ⟨g, 3, none⟩ = some (.int .u64 (mst k : Int)) := (hb5.cell (p := ⟨g, 3, none⟩) HGL.out).trans c3
            clear c1 c2 c3 hb5 hsl
            by_cases h1 : n < lst k
            · have h1' : (n : Int) < (lst k : Int) := by omega
              have H1 := Lib.hid h1
              clear h1 d1 d3
              go_wp2_with fail
              go_ret
              exact HNO.out _ HB5.out (cutP_out HN.out fun h => by have := H1.out; omega)
            · have h1' : ¬ (n : Int) < (lst k : Int) := by omega
              have H1 := Lib.hid h1
              clear h1
              by_cases h2 : mst k < n
              · have h2' : (mst k : Int) < (n : Int) := by omega
                have H2 := Lib.hid h2
                clear h2 d1
                go_wp2_with fail
                go_ret
                exact HNO.out _ HB5.out (cutP_out HN.out fun h => by have := H2.out; omega)
              · have h2' : ¬ (mst k : Int) < (n : Int) := by omega
                have H2 := Lib.hid h2
                clear h2
                have HCS : Hid (cutP k r = some (n, q.drop (dgt k))) := by
                  show cutP k r = _
                  rw [cutP_some HP.out (by rw [← HQ.out]; exact HL.out) HN.out (by have := H1.out; omega) (by have := H2.out; omega), ← HQ.out]
                go_upto_region 10 with fail
                obtain ⟨vk, hvk, -⟩ := HC3.out k hlt
                have HVK : Hid (Arr w5 (gs k) 22 [vk]) := (hvk.kept HB3.out).kept HB5.out
                have HGK : Hid (gs k < w.heap.size ∧ w0.heap.size ≤ gs k ∧ gs k ≠ b) := HG.out k hlt
                have HGL5 : Hid (g < w5.heap.size) := Nat.lt_of_lt_of_le HGL.out HB5.out.size
                have HGGK : Hid (¬ g = gs k) := fun h => by have := HGK.out.1; have := HBR.out.size; have h3 := HGG2.out; omega
                have HBL : Hid (b < w5.heap.size) := by have := HBR.out.size; have := HB3.out.size; have := HB5.out.size; exact (show b < w5.heap.size by omega)
                have HBG : Hid (¬ b = gs k) := fun h => HGK.out.2.2 h.symm
                have HRW : Hid (w5.cell? ⟨b, k, none⟩ = some (.pointer (some ⟨gs k, 0, none⟩))) := by
                  show w5.cell? _ = _
                  have h1 := (HBR.out.low ((HB3.out.trans (HB5.out.mono HB3.out.size)).mono HBR.out.size))
                  exact (h1.cell (p := ⟨b, k, none⟩) hb (fun ⟨q, hq, e⟩ => (HG.out q hq).2.2 e.symm)).trans (HR.out k hlt)
                have HD1 := Lib.hid d1
                clear d1 d2 d3 hvk
                refine wp_region_steps [[], [], [0, 1], [2], [], [], [], [6], [5, 7], [3], [9, 4], [8]] (by kernel_rfl) (by kernel_rfl) (fun L a wx => ∃ v54 v55 v56 v57 v58 v59 v60 v61 v62 v63 v0, a = ⟨#[v0, .slice (some ⟨b, 0, none⟩) 3 3, undef, undef, u4, .int .i64 ↑k, .pointer (some ⟨g, 0, none⟩), txt q, .bool true, .int .u64 ↑n, .nilIface, .agg flds.toArray, .int .i64 ↑k, .bool true, .int .i64 ↑k, .agg (fld k).toArray, .tuple #[txt q, .bool true], txt r, .pointer (some ⟨g, 0, none⟩), txt (ahd k), .tuple #[txt q, .bool true], txt q, .bool true, .bool true, .bool false, .bool false, txt q, .int .i64 ↑q.length, .pointer (some ⟨g, 1, none⟩), .int .i64 ↑(dgt k), .bool false, .bool false, .tuple #[.int .u64 ↑n, .nilIface], txt q, .pointer (some ⟨g, 1, none⟩), .int .i64 ↑(dgt k), txt (List.take (dgt k) q), .tuple #[.int .u64 ↑n, .nilIface], .int .u64 ↑n, .nilIface, .nilIface, .bool false, .bool false, .int .u64 ↑n, .pointer (some ⟨g, 2, none⟩), .int .u64 ↑(lst k), .bool false, .bool false, .bool false, .int .u64 ↑n, .pointer (some ⟨g, 3, none⟩), .int .u64 ↑(mst k), .bool false, .bool false, v54, v55, v56, v57, v58, v59, v60, v61, v62, v63, u64, undef, undef], []⟩ ∧ InvCut gs q k n b g vk w5 L v54 v55 v56 v57 v58 v59 v60 v61 v62 v63 v0 wx) ?_ ⟨?_, ?_, ?_, ?_, ?_, ?_, ?_, ?_, ?_, ?_, ?_, ?_, trivial⟩ ?_
                · refine ⟨_, _, _, _, _, _, _, _, _, _, _, rfl, ⟨?_, ?_, ?_, ?_, ?_, ?_, ?_, ?_, ?_, ?_, ?_, (KB.refl _ _).drew, fun h => absurd h (by decide), fun _ => HVK.out⟩⟩ <;> (intro h; exact absurd h (by decide))
                · rintro L a wx ⟨v54, v55, v56, v57, v58, v59, v60, v61, v62, v63, v0, rfl, hI⟩ hL hdep hcl K hK
                  go_simp
                  exact hK _ _ ⟨_, v55, v56, v57, v58, v59, v60, v61, v62, v63, v0, rfl, ⟨fun _ => rfl, hI.t1, hI.t2, hI.t3, hI.t4, hI.t5, hI.t6, hI.t7, hI.t8, hI.t9, hI.t11, hI.kb, hI.mp, hI.mq⟩⟩
                · rintro L a wx ⟨v54, v55, v56, v57, v58, v59, v60, v61, v62, v63, v0, rfl, hI⟩ hL hdep hcl K hK
                  go_simp
                  exact hK _ _ ⟨v54, _, v56, v57, v58, v59, v60, v61, v62, v63, v0, rfl, ⟨hI.t0, fun _ => rfl, hI.t2, hI.t3, hI.t4, hI.t5, hI.t6, hI.t7, hI.t8, hI.t9, hI.t11, hI.kb, hI.mp, hI.mq⟩⟩
                · rintro L a wx ⟨v54, v55, v56, v57, v58, v59, v60, v61, v62, v63, v0, rfl, hI⟩ hL hdep hcl K hK
                  obtain rfl := hI.t0 (hdep 0 (by decide))
                  obtain rfl := hI.t1 (hdep 1 (by decide))
                  go_simp
                  exact hK _ _ ⟨_, _, _, v57, v58, v59, v60, v61, v62, v63, v0, rfl, ⟨hI.t0, hI.t1, fun _ => rfl, hI.t3, hI.t4, hI.t5, hI.t6, hI.t7, hI.t8, hI.t9, hI.t11, hI.kb, hI.mp, hI.mq⟩⟩
                · rintro L a wx ⟨v54, v55, v56, v57, v58, v59, v60, v61, v62, v63, v0, rfl, hI⟩ hL hdep hcl K hK
                  obtain rfl := hI.t2 (hdep 2 (by decide))
                  have c := (hI.kb.cell (p := ⟨b, k, none⟩) HBL.out HBG.out).trans HRW.out
                  go_simp
                  exact hK _ _ ⟨v54, v55, _, _, v58, v59, v60, v61, v62, v63, v0, rfl, ⟨hI.t0, hI.t1, hI.t2, fun _ => rfl, hI.t4, hI.t5, hI.t6, hI.t7, hI.t8, hI.t9, hI.t11, hI.kb, hI.mp, hI.mq⟩⟩
                · rintro L a wx ⟨v54, v55, v56, v57, v58, v59, v60, v61, v62, v63, v0, rfl, hI⟩ hL hdep hcl K hK
                  go_simp
                  exact hK _ _ ⟨v54, v55, v56, v57, _, v59, v60, v61, v62, v63, v0, rfl, ⟨hI.t0, hI.t1, hI.t2, hI.t3, fun _ => rfl, hI.t5, hI.t6, hI.t7, hI.t8, hI.t9, hI.t11, hI.kb, hI.mp, hI.mq⟩⟩
                · rintro L a wx ⟨v54, v55, v56, v57, v58, v59, v60, v61, v62, v63, v0, rfl, hI⟩ hL hdep hcl K hK
                  go_simp
                  exact hK _ _ ⟨v54, v55, v56, v57, v58, _, v60, v61, v62, v63, v0, rfl, ⟨hI.t0, hI.t1, hI.t2, hI.t3, hI.t4, fun _ => rfl, hI.t6, hI.t7, hI.t8, hI.t9, hI.t11, hI.kb, hI.mp, hI.mq⟩⟩
                · rintro L a wx ⟨v54, v55, v56, v57, v58, v59, v60, v61, v62, v63, v0, rfl, hI⟩ hL hdep hcl K hK
                  go_simp
                  exact hK _ _ ⟨v54, v55, v56, v57, v58, v59, _, v61, v62, v63, v0, rfl, ⟨hI.t0, hI.t1, hI.t2, hI.t3, hI.t4, hI.t5, fun _ => rfl, hI.t7, hI.t8, hI.t9, hI.t11, hI.kb, hI.mp, hI.mq⟩⟩
                · rintro L a wx ⟨v54, v55, v56, v57, v58, v59, v60, v61, v62, v63, v0, rfl, hI⟩ hL hdep hcl K hK
                  obtain rfl := hI.t6 (hdep 6 (by decide))
                  have c := (hI.kb.cell (p := ⟨g, 1, none⟩) HGL5.out HGGK.out).trans HD1.out
                  go_simp
                  exact hK _ _ ⟨v54, v55, v56, v57, v58, v59, _, _, v62, v63, v0, rfl, ⟨hI.t0, hI.t1, hI.t2, hI.t3, hI.t4, hI.t5, hI.t6, fun _ => rfl, hI.t8, hI.t9, hI.t11, hI.kb, hI.mp, hI.mq⟩⟩
                · rintro L a wx ⟨v54, v55, v56, v57, v58, v59, v60, v61, v62, v63, v0, rfl, hI⟩ hL hdep hcl K hK
                  obtain rfl := hI.t5 (hdep 5 (by decide))
                  obtain rfl := hI.t7 (hdep 7 (by decide))
                  have hsl := slice_drop wx q (dgt k) HL.out
                  go_simp
                  exact hK _ _ ⟨v54, v55, v56, v57, v58, _, v60, _, _, v63, v0, rfl, ⟨hI.t0, hI.t1, hI.t2, hI.t3, hI.t4, hI.t5, hI.t6, hI.t7, fun _ => rfl, hI.t9, hI.t11, hI.kb, hI.mp, hI.mq⟩⟩
                · rintro L a wx ⟨v54, v55, v56, v57, v58, v59, v60, v61, v62, v63, v0, rfl, hI⟩ hL hdep hcl K hK
                  obtain rfl := hI.t3 (hdep 3 (by decide))
                  go_simp
                  exact hK _ _ ⟨v54, v55, v56, _, v58, v59, v60, v61, v62, _, v0, rfl, ⟨hI.t0, hI.t1, hI.t2, hI.t3, hI.t4, hI.t5, hI.t6, hI.t7, hI.t8, fun _ => rfl, hI.t11, hI.kb, hI.mp, hI.mq⟩⟩
                · rintro L a wx ⟨v54, v55, v56, v57, v58, v59, v60, v61, v62, v63, v0, rfl, hI⟩ hL hdep hcl K hK
                  obtain rfl := hI.t9 (hdep 9 (by decide))
                  obtain rfl := hI.t4 (hdep 4 (by decide))
                  refine ow_store1 22 _ _ rfl (gs k) 0 rfl (.int .u64 (n : Int)) rfl rfl rfl 22 [vk] (hI.mq hL) (by kernel_rfl) (by simp) ?_
                  intro w' hA' hg' hs'
                  exact hK _ _ ⟨v54, v55, v56, v57, _, v59, v60, v61, v62, _, v0, rfl, ⟨hI.t0, hI.t1, hI.t2, hI.t3, hI.t4, hI.t5, hI.t6, hI.t7, hI.t8, hI.t9, hI.t11, hI.kb.grown hg' rfl, fun _ => hA', fun h => (nomatch (show true = false from h))⟩⟩
                · rintro L a wx ⟨v54, v55, v56, v57, v58, v59, v60, v61, v62, v63, v0, rfl, hI⟩ hL hdep hcl K hK
                  obtain rfl := hI.t8 (hdep 8 (by decide))
                  go_simp
                  exact hK _ _ ⟨v54, v55, v56, v57, v58, v59, v60, v61, _, v63, _, rfl, ⟨hI.t0, hI.t1, hI.t2, hI.t3, hI.t4, hI.t5, hI.t6, hI.t7, hI.t8, hI.t9, fun _ => rfl, hI.kb, hI.mp, hI.mq⟩⟩
                · rintro a wx ⟨v54, v55, v56, v57, v58, v59, v60, v61, v62, v63, v0, rfl, hI⟩
                  have hkb := hI.kb
                  have hm := hI.mp rfl
                  have e0 := hI.t11 rfl
                  subst e0
                  clear hI
                  go_wp2_with fail
                  go_roundw
                  case rel =>
                    refine ⟨k + 1, q.drop (dgt k), by omega, rfl, by go_num, ?_, ?_, fun j hj => ?_, ?_⟩
                    · rw [restTo, HO.out]; simp [HCS.out]
                    · rw [List.length_drop, HQ.out, List.length_drop]; have := HRL.out; omega
                    · by_cases e : j = k
                      · subst e
                        refine ⟨_, hm, fun _ => ?_⟩
                        unfold numAt
                        rw [HO.out]
                        simp [HCS.out]
                      · obtain ⟨v, hv, hv2⟩ := HC3.out j hj
                        have h1 := (hv.kept HB3.out).kept HB5.out
                        have hne : gs j ≠ gs k := fun h => e (HGG.out j k hj hlt h)
                        refine ⟨v, ?_, fun h => hv2 (by omega)⟩
                        unfold Arr
                        rw [hkb.block _ h1.lt (fun h => hne h)]
                        exact h1
                    · exact (HBR.out.low ((HB3.out.trans (HB5.out.mono HB3.out.size)).mono HBR.out.size)).trans (hkb.mono fun j hj => ⟨k, hlt, hj⟩)
                  case measure => simp [intOf]; omega
    · have e3 : k = 3 := by omega
      subst e3
      go_wp2_with fail
      go_ret
      unfold CutRes
      have hres : okN s = r.isEmpty := by
        unfold okN
        rw [HO.out]
        cases r <;> simp
      refine ⟨ret_val (by rw [hres]; rfl), fun h k hk => ?_, ?_⟩
      · obtain ⟨v, hv, hv2⟩ := HC3.out k hk
        rw [hv2 hk] at hv
        exact hv
      · exact H0.out.trans (HBR.out.under (fun j hj => by obtain ⟨q, hq, rfl⟩ := hj; exact (HG.out q hq).2.1) H0.out.size)
end Go.Proofs.YtfidajbenmgflaaDoor
