/-
  The document's Take. Conditions: those in each statement.
-/
import Derived.Test.YtfidajbenmgflaaDoorTiP
import Derived.Test.YtfidajbenmgflaaDoorRegF
namespace Go.Proofs.YtfidajbenmgflaaDoor
open Go.RowKit

theorem dcs_flat (L : List (List UInt8)) : dcs L = bvs L.flatten := by
  induction L with
  | nil => rfl
  | cons x L ih =>
    have e : dcs (x :: L) = bvs x ++ dcs L := by simp [dcs]
    rw [e, ih, List.flatten_cons]
    simp [bvs]
theorem zero_flat (n : Nat) : (List.replicate n (Z8 32)).flatten = List.replicate (32 * n) 0 := by
  induction n with
  | zero => rfl
  | succ n ih => rw [List.replicate_succ, List.flatten_cons, ih, show 32 * (n + 1) = 32 + 32 * n by omega, ← List.replicate_append_replicate]; rfl
/-- the bytes so far, zeros behind them -/
def fillT (xs : List UInt8) (k : Nat) : List UInt8 := xs.take k ++ List.replicate (xs.length - k) 0
theorem fill_len {xs : List UInt8} {k : Nat} (h : k ≤ xs.length) : (fillT xs k).length = xs.length := by
  unfold fillT
  rw [List.length_append, List.length_take, List.length_replicate]; omega
theorem fill_set {xs : List UInt8} {k : Nat} (h : k < xs.length) : (bvs (fillT xs k)).set k (.int .u8 ((xs.getD k 0).toNat : Int)) = bvs (fillT xs (k + 1)) := by
  apply List.ext_getElem?
  intro j
  have e : bvs (fillT xs k) = (fillT xs k).map bv := rfl
  have e2 : bvs (fillT xs (k + 1)) = (fillT xs (k + 1)).map bv := rfl
  rw [List.getElem?_set, e, e2, List.length_map, fill_len (by omega), List.getElem?_map, List.getElem?_map]
  unfold fillT
  by_cases hj : k = j
  · subst hj
    rw [if_pos rfl, if_pos h, List.getElem?_append_left (by rw [List.length_take]; omega), List.getElem?_take, if_pos (by omega), List.getElem?_eq_getElem h]
    simp [bv, List.getD, h]
  · rw [if_neg hj]
    by_cases hlt : j < k
    · rw [List.getElem?_append_left (by rw [List.length_take]; omega), List.getElem?_append_left (by rw [List.length_take]; omega), List.getElem?_take, List.getElem?_take, if_pos hlt, if_pos (by omega)]
    · rw [List.getElem?_append_right (by rw [List.length_take]; omega), List.getElem?_append_right (by rw [List.length_take]; omega), List.length_take, List.length_take, List.getElem?_replicate, List.getElem?_replicate]
      congr 1
      by_cases h2 : j < xs.length
      · rw [if_pos (by omega), if_pos (by omega)]
      · rw [if_neg (by omega), if_neg (by omega)]
structure InvRT (xs : List UInt8) (n m cap k q r pb po g : Nat) (c : UInt8) (W0 : World) (L : Nat → Bool) (v31 v32 v33 v34 v35 v36 v37 v38 v39 v40 v41 : Value) (wx : World) : Prop where
  t0 : L 0 = true → v31 = .slice (some ⟨g, 0, none⟩) n n
  t1 : L 1 = true → v32 = .int .i64 (k : Int)
  t2 : L 2 = true → v33 = .int .i64 (q : Int)
  t3 : L 3 = true → v34 = .int .i64 ↑k
  t4 : L 4 = true → v35 = .int .i64 (r : Int)
  t5 : L 5 = true → v36 = .slice (some ⟨pb, po, none⟩) m cap
  t6 : L 6 = true → v37 = .int .i64 ↑k
  t7 : L 7 = true → v38 = .pointer (some ⟨pb, po + k, none⟩)
  t8 : L 8 = true → v39 = .int .u8 (c.toNat : Int)
  t9 : L 9 = true → v40 = .pointer (some ⟨g, q * 32, none⟩)
  t10 : L 10 = true → v41 = .pointer (some ⟨g, q * 32 + r, none⟩)
  kb : KB (fun j => j = g) W0 wx
  mp : L 11 = true → Arr wx g 48 ((bvs (fillT xs k)).set (q * 32 + r) (.int .u8 (c.toNat : Int)))
  mq : L 11 = false → Arr wx g 48 (bvs (fillT xs k))
set_option maxRecDepth 100000 in
set_option maxHeartbeats 3200000 in
theorem rTake_any (xs : List UInt8) (p : Option Addr) (m cap : Nat) (hm : m ≤ 140737488355328) (w : World) (hr : Rd w p m cap xs) :
    Calls Tryd.prog 19 #[.slice p m cap] w fun e w' => ∃ v, e = .returned (.tuple #[v, .int .i64 (tkE xs)]) ∧ OwnD w' w.heap.size v (tkL xs) ∧ Below w.heap.size w w' := by
  have hlen := hr.len
  have HR := Lib.hid hr
  have HL := Lib.hid hlen
  have hle := hr.le
  clear hr hlen
  obtain ⟨n, hn⟩ : ∃ n, n = m / 32 := ⟨_, rfl⟩
  have HNM := Lib.hid hn
  by_cases hc : m % 32 = 0 ∧ 1 ≤ n ∧ n ≤ 16
  · have e1 : tkE xs = 0 := by unfold tkE; rw [if_pos (by rw [HL.out, ← hn]; exact hc)]
    have hq : (m : Int) / 32 = (n : Int) := by omega
    have b1 : ¬ (n : Int) < 1 := by omega
    have b2 : ¬ (16 : Int) < (n : Int) := by omega
    have b3 : (32 : Int) * (n : Int) = (m : Int) := by omega
    have HC := Lib.hid hc
    obtain ⟨T, hT⟩ : ∃ T, T = tkL xs := ⟨_, rfl⟩
    rw [e1, ← hT]
    have HT : Hid (dcs T = bvs xs ∧ All32 T ∧ T.length = n) := by
      show dcs T = bvs xs ∧ All32 T ∧ T.length = n
      have e := (put_take e1).1
      have hL : (tkL xs).length = n := by unfold tkL; rw [if_pos (by rw [HL.out, ← hn]; exact hc), HL.out, ← hn]; simp
      have e2 : putT (tkL xs) = (tkL xs).flatten := if_pos (by rw [hL]; exact hc.2)
      rw [e2] at e
      rw [hT, dcs_flat, e]
      exact ⟨rfl, tkL_all xs, hL⟩
    have HMN : Hid (m = 32 * n) := by show m = 32 * n; omega
    clear hc e1 hT hn
    go_enter Tryd.func19, Tryd.ntmps19
    go_upto_region 6 with ((with_reducible show wpList _ _ _ (⟨some 24, .makeSlice _ _ _, _, _, _, _⟩ :: _) _ _); go_loud (refine wl_makeD rfl _ _ rfl n n rfl rfl (Nat.le_refl _) (by have := HC.out; omega) ?_); intro w1 hA1 hb1 hs1)
    have hA0 : Arr w1 w.heap.size 48 (bvs (fillT xs 0)) := by
      rw [dcs_flat, zero_flat] at hA1
      unfold fillT
      rw [List.take_zero, List.nil_append, Nat.sub_zero, HL.out, HMN.out]
      exact hA1
    obtain ⟨g, hg⟩ : ∃ g, g = w.heap.size := ⟨_, rfl⟩
    rw [← hg] at hA0 ⊢
    have HG := Lib.hid hg
    have HA0 := Lib.hid hA0
    have HB1 := Lib.hid hb1
    clear hA1 hb1 hs1 hA0 hg b1 b2 b3 hq
    go_loopw [6] (fun ix wr => ∃ k : Nat, k ≤ m ∧ ix = .int .i64 (k : Int) ∧ Arr wr g 48 (bvs (fillT xs k)) ∧ Below w.heap.size w wr) (fun ix _ => m - (intOf ix).toNat)
    case atStart => exact ⟨0, by omega, rfl, HA0.out, HB1.out⟩
    case round =>
      obtain ⟨k, hk, rfl, hA, hbr⟩ := hrel
      have HA := Lib.hid hA
      have HBR := Lib.hid hbr
      clear hA hbr
      by_cases hlt : k < m
      · have hlti : (k : Int) < (m : Int) := by omega
        go_upto_region 8 with fail
        obtain ⟨pb, po, hpe, hpb, hpc⟩ := HR.out.mem (by omega)
        obtain ⟨c, hcc⟩ : ∃ c, c = xs.getD k 0 := ⟨_, rfl⟩
        obtain ⟨q, hqe⟩ : ∃ q, q = k / 32 := ⟨_, rfl⟩
        obtain ⟨r, hre⟩ : ∃ r, r = k % 32 := ⟨_, rfl⟩
        have HQ : Hid ((k : Int) / 32 = (q : Int) ∧ (k : Int) % 32 = (r : Int)) := by show _ ∧ _; omega
        have HQW : Hid (IntKind.i64.wrap (q : Int) = (q : Int)) := by show _ = _; rw [IntKind.wrap_i64]; omega
        have HRW : Hid ((k : Int).tmod 32 = (r : Int)) := by show _ = _; rw [Int.tmod_eq_emod_of_nonneg (by omega)]; exact HQ.out.2
        have HQN : Hid ((q : Int) < (n : Int) ∧ (r : Int) < 32) := by have := HMN.out; show _ ∧ _; omega
        have HQR : Hid (q * 32 + r = k ∧ k < xs.length) := by have := HL.out; show _ ∧ _; omega
        have HKL : Hid (k ≤ xs.length) := by have := HL.out; show k ≤ _; omega
        have HPB : Hid (pb < wr.heap.size) := Nat.lt_of_lt_of_le hpb HBR.out.size
        have HPG : Hid (¬ pb = g) := by have := HG.out; show ¬ _; omega
        have HCC : Hid (wr.cell? ⟨pb, po + k, none⟩ = some (.int .u8 (c.toNat : Int))) := by
          show _ = _
          rw [hcc]
          exact (HBR.out.cell (p := ⟨pb, po + k, none⟩) hpb).trans (hpc k hlt)
        have HCD := Lib.hid hcc
        subst hpe
        clear hpb hpc hcc hqe hre
        refine wp_region_steps [[], [], [1], [], [3], [], [], [5, 6], [7], [0, 2], [9, 4], [10, 8]] (by kernel_rfl) (by kernel_rfl) (fun L a wx => ∃ v31 v32 v33 v34 v35 v36 v37 v38 v39 v40 v41, a = ⟨#[.slice (some ⟨pb, po, none⟩) m cap, undef, .slice none 0 0, .int .i64 0, .int .i64 ↑n, .slice (some ⟨g, 0, none⟩) n n, .int .i64 ↑k, .slice (some ⟨pb, po, none⟩) m cap, .int .i64 ↑m, .int .i64 ↑n, .int .i64 ↑n, .bool false, .bool false, .int .i64 ↑n, .bool false, .bool false, .bool false, .int .i64 ↑n, .int .i64 ↑m, .slice (some ⟨pb, po, none⟩) m cap, .int .i64 ↑m, .bool false, .bool false, .int .i64 ↑n, .slice (some ⟨g, 0, none⟩) n n, .int .i64 ↑k, .slice (some ⟨pb, po, none⟩) m cap, .int .i64 ↑m, .bool true, u29, u30, v31, v32, v33, v34, v35, v36, v37, v38, v39, v40, v41, undef], []⟩ ∧ InvRT xs n m cap k q r pb po g c wr L v31 v32 v33 v34 v35 v36 v37 v38 v39 v40 v41 wx) ?_ ⟨?_, ?_, ?_, ?_, ?_, ?_, ?_, ?_, ?_, ?_, ?_, ?_, trivial⟩ ?_
        · refine ⟨_, _, _, _, _, _, _, _, _, _, _, rfl, ⟨?_, ?_, ?_, ?_, ?_, ?_, ?_, ?_, ?_, ?_, ?_, (KB.refl _ _).drew, fun h => absurd h (by decide), fun _ => HA.out.drew⟩⟩ <;> (intro h; exact absurd h (by decide))
        · rintro L a wx ⟨v31, v32, v33, v34, v35, v36, v37, v38, v39, v40, v41, rfl, hI⟩ hL hdep hcl K hK
          go_simp
          exact hK _ _ ⟨_, v32, v33, v34, v35, v36, v37, v38, v39, v40, v41, rfl, ⟨fun _ => rfl, hI.t1, hI.t2, hI.t3, hI.t4, hI.t5, hI.t6, hI.t7, hI.t8, hI.t9, hI.t10, hI.kb, hI.mp, hI.mq⟩⟩
        · rintro L a wx ⟨v31, v32, v33, v34, v35, v36, v37, v38, v39, v40, v41, rfl, hI⟩ hL hdep hcl K hK
          go_simp
          exact hK _ _ ⟨v31, _, v33, v34, v35, v36, v37, v38, v39, v40, v41, rfl, ⟨hI.t0, fun _ => rfl, hI.t2, hI.t3, hI.t4, hI.t5, hI.t6, hI.t7, hI.t8, hI.t9, hI.t10, hI.kb, hI.mp, hI.mq⟩⟩
        · rintro L a wx ⟨v31, v32, v33, v34, v35, v36, v37, v38, v39, v40, v41, rfl, hI⟩ hL hdep hcl K hK
          obtain rfl := hI.t1 (hdep 1 (by decide))
          have h := HQ.out.1
          have h2 : IntKind.i64.wrap (q : Int) = (q : Int) := HQW.out
          go_simp
          exact hK _ _ ⟨v31, _, _, v34, v35, v36, v37, v38, v39, v40, v41, rfl, ⟨hI.t0, hI.t1, fun _ => rfl, hI.t3, hI.t4, hI.t5, hI.t6, hI.t7, hI.t8, hI.t9, hI.t10, hI.kb, hI.mp, hI.mq⟩⟩
        · rintro L a wx ⟨v31, v32, v33, v34, v35, v36, v37, v38, v39, v40, v41, rfl, hI⟩ hL hdep hcl K hK
          go_simp
          exact hK _ _ ⟨v31, v32, v33, _, v35, v36, v37, v38, v39, v40, v41, rfl, ⟨hI.t0, hI.t1, hI.t2, fun _ => rfl, hI.t4, hI.t5, hI.t6, hI.t7, hI.t8, hI.t9, hI.t10, hI.kb, hI.mp, hI.mq⟩⟩
        · rintro L a wx ⟨v31, v32, v33, v34, v35, v36, v37, v38, v39, v40, v41, rfl, hI⟩ hL hdep hcl K hK
          obtain rfl := hI.t3 (hdep 3 (by decide))
          have h : (k : Int).tmod 32 = (r : Int) := HRW.out
          go_simp
          exact hK _ _ ⟨v31, v32, v33, _, _, v36, v37, v38, v39, v40, v41, rfl, ⟨hI.t0, hI.t1, hI.t2, hI.t3, fun _ => rfl, hI.t5, hI.t6, hI.t7, hI.t8, hI.t9, hI.t10, hI.kb, hI.mp, hI.mq⟩⟩
        · rintro L a wx ⟨v31, v32, v33, v34, v35, v36, v37, v38, v39, v40, v41, rfl, hI⟩ hL hdep hcl K hK
          go_simp
          exact hK _ _ ⟨v31, v32, v33, v34, v35, _, v37, v38, v39, v40, v41, rfl, ⟨hI.t0, hI.t1, hI.t2, hI.t3, hI.t4, fun _ => rfl, hI.t6, hI.t7, hI.t8, hI.t9, hI.t10, hI.kb, hI.mp, hI.mq⟩⟩
        · rintro L a wx ⟨v31, v32, v33, v34, v35, v36, v37, v38, v39, v40, v41, rfl, hI⟩ hL hdep hcl K hK
          go_simp
          exact hK _ _ ⟨v31, v32, v33, v34, v35, v36, _, v38, v39, v40, v41, rfl, ⟨hI.t0, hI.t1, hI.t2, hI.t3, hI.t4, hI.t5, fun _ => rfl, hI.t7, hI.t8, hI.t9, hI.t10, hI.kb, hI.mp, hI.mq⟩⟩
        · rintro L a wx ⟨v31, v32, v33, v34, v35, v36, v37, v38, v39, v40, v41, rfl, hI⟩ hL hdep hcl K hK
          obtain rfl := hI.t5 (hdep 5 (by decide))
          obtain rfl := hI.t6 (hdep 6 (by decide))
          go_simp
          exact hK _ _ ⟨v31, v32, v33, v34, v35, _, _, _, v39, v40, v41, rfl, ⟨hI.t0, hI.t1, hI.t2, hI.t3, hI.t4, hI.t5, hI.t6, fun _ => rfl, hI.t8, hI.t9, hI.t10, hI.kb, hI.mp, hI.mq⟩⟩
        · rintro L a wx ⟨v31, v32, v33, v34, v35, v36, v37, v38, v39, v40, v41, rfl, hI⟩ hL hdep hcl K hK
          obtain rfl := hI.t7 (hdep 7 (by decide))
          have cc := (hI.kb.cell (p := ⟨pb, po + k, none⟩) HPB.out HPG.out).trans HCC.out
          go_simp
          exact hK _ _ ⟨v31, v32, v33, v34, v35, v36, v37, _, _, v40, v41, rfl, ⟨hI.t0, hI.t1, hI.t2, hI.t3, hI.t4, hI.t5, hI.t6, hI.t7, fun _ => rfl, hI.t9, hI.t10, hI.kb, hI.mp, hI.mq⟩⟩
        · rintro L a wx ⟨v31, v32, v33, v34, v35, v36, v37, v38, v39, v40, v41, rfl, hI⟩ hL hdep hcl K hK
          obtain rfl := hI.t0 (hdep 0 (by decide))
          obtain rfl := hI.t2 (hdep 2 (by decide))
          have h := HQN.out
          go_simp
          exact hK _ _ ⟨_, v32, _, v34, v35, v36, v37, v38, v39, _, v41, rfl, ⟨hI.t0, hI.t1, hI.t2, hI.t3, hI.t4, hI.t5, hI.t6, hI.t7, hI.t8, fun _ => rfl, hI.t10, hI.kb, hI.mp, hI.mq⟩⟩
        · rintro L a wx ⟨v31, v32, v33, v34, v35, v36, v37, v38, v39, v40, v41, rfl, hI⟩ hL hdep hcl K hK
          obtain rfl := hI.t9 (hdep 9 (by decide))
          obtain rfl := hI.t4 (hdep 4 (by decide))
          have h := HQN.out
          go_simp
          exact hK _ _ ⟨v31, v32, v33, v34, _, v36, v37, v38, v39, _, _, rfl, ⟨hI.t0, hI.t1, hI.t2, hI.t3, hI.t4, hI.t5, hI.t6, hI.t7, hI.t8, hI.t9, fun _ => rfl, hI.kb, hI.mp, hI.mq⟩⟩
        · rintro L a wx ⟨v31, v32, v33, v34, v35, v36, v37, v38, v39, v40, v41, rfl, hI⟩ hL hdep hcl K hK
          obtain rfl := hI.t10 (hdep 10 (by decide))
          obtain rfl := hI.t8 (hdep 8 (by decide))
          refine ow_store1 5 _ _ rfl g (q * 32 + r) rfl (.int .u8 (c.toNat : Int)) rfl rfl rfl 48 _ (hI.mq hL) (by kernel_rfl) (by have h1 := HQR.out; have h2 : (bvs (fillT xs k)).length = xs.length := (by rw [bvs_len, fill_len HKL.out]); rw [h2, h1.1]; exact h1.2) ?_
          intro w' hA' hg' hs'
          exact hK _ _ ⟨v31, v32, v33, v34, v35, v36, v37, v38, _, v40, _, rfl, ⟨hI.t0, hI.t1, hI.t2, hI.t3, hI.t4, hI.t5, hI.t6, hI.t7, hI.t8, hI.t9, hI.t10, hI.kb.grown hg' rfl, fun _ => hA', fun h => (nomatch (show true = false from h))⟩⟩
        · rintro a wx ⟨v31, v32, v33, v34, v35, v36, v37, v38, v39, v40, v41, rfl, hI⟩
          have hkb := hI.kb
          have hm := hI.mp rfl
          clear hI
          go_wp2_with fail
          go_roundw
          case rel =>
            refine ⟨k + 1, by omega, by go_num, ?_, HBR.out.trans (hkb.under (fun j e => by have := HG.out; omega) HBR.out.size)⟩
            rw [HQR.out.1, HCD.out, fill_set HQR.out.2] at hm
            exact hm
          case measure => simp [intOf]; omega
      · have e : k = m := by omega
        subst e
        go_wp2_with fail
        go_ret2
        have h1 := HA.out
        have e2 : fillT xs k = xs := by unfold fillT; rw [HL.out, Nat.sub_self, List.take_of_length_le (by rw [HL.out]; exact Nat.le_refl _)]; simp
        rw [e2, ← HT.out.1] at h1
        refine ⟨_, rfl, OwnD.made h1 HT.out.2.2 HT.out.2.1 (by rw [HG.out]; exact Nat.le_refl _) (by have := HC.out; unfold maxLen; omega), HBR.out⟩
  · have e1 : tkE xs = 5 := by unfold tkE; rw [if_neg (by rw [HL.out, ← hn]; exact hc)]
    have e2 : tkL xs = [] := by unfold tkL; rw [if_neg (by rw [HL.out, ← hn]; exact hc)]
    rw [e1, e2]
    have hq : (m : Int) / 32 = (n : Int) := by omega
    have hcs : (n : Int) < 1 ∨ (¬ (n : Int) < 1 ∧ (16 : Int) < (n : Int)) ∨ (¬ (n : Int) < 1 ∧ ¬ (16 : Int) < (n : Int) ∧ ¬ (32 : Int) * (n : Int) = (m : Int)) := by omega
    clear hc e1 e2 hn HNM
    rcases hcs with b1 | ⟨b1, b2⟩ | ⟨b1, b2, b3⟩
    · go_enter Tryd.func19, Tryd.ntmps19
      go_wp2_with fail
      go_ret2
      exact ⟨_, rfl, OwnD.nil _ _, Below.refl _ _⟩
    · go_enter Tryd.func19, Tryd.ntmps19
      go_wp2_with fail
      go_ret2
      exact ⟨_, rfl, OwnD.nil _ _, Below.refl _ _⟩
    · have hw : IntKind.i64.wrap ((32 : Int) * (n : Int)) = (32 : Int) * (n : Int) := by rw [IntKind.wrap_i64]; omega
      go_enter Tryd.func19, Tryd.ntmps19
      go_wp2_with fail
      go_ret2
      exact ⟨_, rfl, OwnD.nil _ _, Below.refl _ _⟩
end Go.Proofs.YtfidajbenmgflaaDoor
