/-
  The program's putOthers: what a list or an object has in it, as text. Conditions: those in each statement.
-/
import Derived.Test.YtehlgflpkofooaaDoorJsonX
namespace Go.Proofs.YtehlgflpkofooaaDoor
open Go.RowKit

theorem PutRes.ok {out : List UInt8} {g : Nat} {w w' : World} {e : Ending} (h : PutRes out g w e w') (hl : out.length ≤ 1048576) : ∃ v, e = .returned (.tuple #[v, .bool true]) ∧ Own w' g 5 v out ∧ Fr g w w' := by
  obtain ⟨v, h1, h2, h3⟩ := h
  exact ⟨v, by rw [h1, decide_eq_true hl], h2 hl, h3⟩
theorem PutRes.no {out : List UInt8} {g : Nat} {w w' : World} {e : Ending} (h : PutRes out g w e w') (hl : ¬ out.length ≤ 1048576) : ∃ v, e = .returned (.tuple #[v, .bool false]) ∧ Fr g w w' := by
  obtain ⟨v, h1, h2, h3⟩ := h
  exact ⟨v, by rw [h1, decide_eq_false hl], h3⟩

/-- what goes ahead of item m -/
def sepF (k : Int) (ks : List (List UInt8)) (m : Nat) : List UInt8 := (if m = 0 then [] else [44]) ++ (if k = 6 then wordF (ks.getD m []) ++ [58] else [])
/-- the first m items -/
def partF (k : Int) (l : List JV) (ks : List (List UInt8)) : Nat → List UInt8
  | 0 => []
  | m + 1 => partF k l ks m ++ (sepF k ks m ++ plainF (l.getD m JV.zero))
theorem part_mono (k : Int) (l : List JV) (ks : List (List UInt8)) (m : Nat) : ∀ d, (partF k l ks m).length ≤ (partF k l ks (m + d)).length
  | 0 => Nat.le_refl _
  | d + 1 => by
    have := part_mono k l ks m d
    show _ ≤ (partF k l ks (m + d) ++ _).length
    rw [List.length_append]
    omega
theorem part_at (ks : List (List UInt8)) : ∀ (r pre : List JV), pre ≠ [] → partF 5 (pre ++ r) ks (pre.length + r.length) = partF 5 (pre ++ r) ks pre.length ++ plainAt r
  | [], pre, _ => by unfold plainAt; simp
  | v :: r, pre, h => by
    have := part_at ks r (pre ++ [v]) (by simp)
    rw [List.append_assoc, List.singleton_append, List.length_append, List.length_singleton] at this
    rw [List.length_cons, show pre.length + (r.length + 1) = pre.length + 1 + r.length by omega, this]
    have hl : pre.length ≠ 0 := fun e => h (List.eq_nil_of_length_eq_zero e)
    show partF 5 (pre ++ v :: r) ks pre.length ++ (sepF 5 ks pre.length ++ plainF ((pre ++ v :: r).getD pre.length JV.zero)) ++ plainAt r = _
    rw [plainAt]
    simp [sepF, hl, List.getD]
theorem part_ot : ∀ (r pre : List JV) (kp kr : List (List UInt8)), pre ≠ [] → kp.length = pre.length → kr.length = r.length →
    partF 6 (pre ++ r) (kp ++ kr) (pre.length + r.length) = partF 6 (pre ++ r) (kp ++ kr) pre.length ++ plainOt r kr
  | [], pre, kp, kr, _, _, _ => by unfold plainOt; simp
  | v :: r, pre, kp, [], _, _, h2 => by simp at h2
  | v :: r, pre, kp, q :: kr, h, h1, h2 => by
    have := part_ot r (pre ++ [v]) (kp ++ [q]) kr (by simp) (by simp [h1]) (by simpa using h2)
    rw [List.append_assoc, List.singleton_append, List.append_assoc, List.singleton_append, List.length_append, List.length_singleton] at this
    rw [List.length_cons, show pre.length + (r.length + 1) = pre.length + 1 + r.length by omega, this]
    have hl : pre.length ≠ 0 := fun e => h (List.eq_nil_of_length_eq_zero e)
    show partF 6 (pre ++ v :: r) (kp ++ q :: kr) pre.length ++ (sepF 6 (kp ++ q :: kr) pre.length ++ plainF ((pre ++ v :: r).getD pre.length JV.zero)) ++ plainOt r kr = _
    rw [plainOt]
    have hkn : kp ≠ [] := fun e => hl (by rw [← h1, e]; rfl)
    simp [sepF, hkn, List.getD, ← h1]
theorem plain_parts (k : Int) (s : List UInt8) (n : Nat) (l : List JV) (ks : List (List UInt8)) (hk : k = 5 ∨ k = 6) (hkl : k = 6 → ks.length = l.length) :
    plainF (.mk k s n l ks) = (if k = 6 then 123 else 91) :: (partF k l ks l.length ++ [if k = 6 then 125 else 93]) := by
  rcases hk with rfl | rfl
  · have : plainA l = partF 5 l ks l.length := by
      cases l with
      | nil => rfl
      | cons v r =>
        have := part_at ks r [v] (by simp)
        rw [List.singleton_append, List.length_singleton] at this
        rw [List.length_cons, Nat.add_comm r.length 1, this]
        unfold plainA
        simp [partF, sepF]
    unfold plainF
    rw [this]
    rfl
  · have hl := hkl rfl
    have : plainO l ks = partF 6 l ks l.length := by
      cases l with
      | nil => unfold plainO; rfl
      | cons v r =>
        cases ks with
        | nil => simp at hl
        | cons q kr =>
          have := part_ot r [v] [q] kr (by simp) rfl (by simpa using hl)
          rw [List.singleton_append, List.singleton_append, List.length_singleton] at this
          rw [List.length_cons, Nat.add_comm r.length 1, this]
          unfold plainO
          simp [partF, sepF]
    unfold plainF
    rw [this]
    rfl

theorem rv_shape {w : World} {v : JV} {cs : List Value} (h : RV w v cs) : ∃ (k : Int) (s : ByteArray) (n : Int) (a : Option Addr) (l c : Nat) (b : Option Addr) (m d : Nat), cs = [.int .i64 k, .string s, .int .u64 n, .slice a l c, .slice b m d] := by
  obtain ⟨k, s, n, l, ks⟩ := v
  unfold RV at h
  obtain ⟨a, c, a', c', rfl, -⟩ := h
  exact ⟨_, _, _, _, _, _, _, _, _, rfl⟩
/-- what must be told of the values in a list -/
def PutIH (l : List JV) (w0 : World) (most : Nat) : Prop := ∀ (i : Nat) (u : JV) (cu : List Value) (W : World) (b : List UInt8) (v : Value), l[i]? = some u → RV w0 u cu → Below w0.heap.size w0 W → Own W w0.heap.size 5 v b → b.length + 2 * most ≤ 1048600 →
    Calls Tryd.prog 23 #[v, .agg cu.toArray] W (PutRes (b ++ plainF u) w0.heap.size W)

set_option maxRecDepth 100000 in
set_option maxHeartbeats 4000000 in
theorem putOthers_of (k : Int) (s : List UInt8) (n : Nat) (l : List JV) (ks : List (List UInt8)) (cs : List Value) (w0 w : World) (bl : List UInt8) (v : Value) (most : Nat) (hk : k = 5 ∨ k = 6) (hkl : k = 6 → ks.length = l.length)
    (h : RV w0 (.mk k s n l ks) cs) (hb0 : Below w0.heap.size w0 w) (ho : Own w w0.heap.size 5 v bl) (hbl : bl.length + 2 * (most + 1) ≤ 1048600) (hm8 : most < 8) (hIH : PutIH l w0 most) (hks : ∀ x ∈ ks, x.length ≤ 9223372036854775807) :
    Calls Tryd.prog 37 #[v, .agg cs.toArray, .int .u8 (if k = 6 then 123 else 91)] w (PutRes (bl ++ plainF (.mk k s n l ks)) w0.heap.size w) := by
  rw [plain_parts k s n l ks hk hkl]
  unfold RV at h
  obtain ⟨a, c, b, d, rfl, ⟨hk0, hk1, hn⟩, hrk, ⟨hlc, hcb⟩, hac, hl⟩ := h
  obtain ⟨fst, hfst⟩ : ∃ fst : UInt8, fst = (if k = 6 then 123 else 91) := ⟨_, rfl⟩
  obtain ⟨lst, hlst⟩ : ∃ lst : UInt8, lst = (if k = 6 then 125 else 93) := ⟨_, rfl⟩
  have hfi : (if k = 6 then 123 else 91 : Int) = (fst.toNat : Int) := by rw [hfst]; split <;> rfl
  rw [hfi, ← hfst, ← hlst]
  have hlast : Hid (∀ W, Calls Tryd.prog 50 #[.int .i64 k] W fun e w' => e = .returned (.int .u8 (lst.toNat : Int)) ∧ w' = W) := fun W => by
    rw [show (lst.toNat : Int) = if k = 6 then 125 else 93 by rw [hlst]; split <;> rfl]
    exact lastSign_any k W
  have HK := Lib.hid hk
  have HKL := Lib.hid hkl
  have HRK : Hid (∀ W, Below w0.heap.size w0 W → RStr W ks b d) := fun W hW => hrk.to hW
  have HL := Lib.hid hl
  have HIH := Lib.hid hIH
  have HKS := Lib.hid hks
  have HFS := Lib.hid hfst
  clear hfst hlst hfi hk hkl hrk hl hIH hks
  obtain ⟨total, htot⟩ : ∃ total, total = bl ++ fst :: (partF k l ks l.length ++ [lst]) := ⟨_, rfl⟩
  rw [← htot]
  have HTOT := Lib.hid htot
  have hmono : Hid (∀ m, m < l.length → (bl ++ fst :: (partF k l ks m ++ (sepF k ks m ++ plainF (l.getD m JV.zero)))).length ≤ total.length) := by
    intro m hm
    have h1 := part_mono k l ks (m + 1) (l.length - (m + 1))
    rw [show m + 1 + (l.length - (m + 1)) = l.length by omega] at h1
    rw [htot]
    simp only [List.length_append, List.length_cons] at h1 ⊢
    have : (partF k l ks (m + 1)).length = (partF k l ks m).length + ((sepF k ks m).length + (plainF (l.getD m JV.zero)).length) := by
      show (partF k l ks m ++ _).length = _
      simp only [List.length_append]
    omega
  clear htot
  obtain ⟨g, hg⟩ : ∃ g, g = w0.heap.size := ⟨_, rfl⟩
  have HG := Lib.hid hg
  rw [← hg] at ho hb0 HRK ⊢
  have hgw : Hid (g ≤ w.heap.size) := by show _ ≤ _; rw [hg]; exact hg ▸ hb0.size
  clear hg
  obtain ⟨a0, c0, rfl, -⟩ := ho.shape
  have hw0 := Lib.hid Fr.new
  have HBL := Lib.hid hbl
  have HM8 := Lib.hid hm8
  have HCB := Lib.hid hcb
  have HO := Lib.hid ho
  have HB0 := Lib.hid hb0
  clear hbl hm8 ho hb0
  go_enter Tryd.func37, Tryd.ntmps37
  go_upto_region 2 with fail
  obtain ⟨W1, hW1⟩ : ∃ W1, W1 = w.alloc (.cells #[.int .i64 k, .string (bstr s), .int .u64 (n : Int), .slice a l.length c, .slice b ks.length d] 30) := ⟨_, rfl⟩
  obtain ⟨G, hG⟩ : ∃ G, G = w.heap.size := ⟨_, rfl⟩
  have hA1 : Arr W1 G 30 [.int .i64 k, .string (bstr s), .int .u64 (n : Int), .slice a l.length c, .slice b ks.length d] := by
    rw [hW1, hG]
    exact Arr.new w _ _
  have hf1 : Fr g w W1 := by rw [hW1]; exact (Fr.new w _).mono hgw.out
  have ho1 : Own W1 g 5 _ bl := HO.out.to (by rw [hW1]; exact (Fr.new w _).1)
  rw [← hW1, ← hG]
  have HGG := Lib.hid hG
  clear hW1 hG
  have hne : Hid (30 ≠ 5) := by show _ ≠ _; decide
  have hgr1 : Hid (g ≤ W1.heap.size) := Nat.le_trans hgw.out hf1.1.size
  go_upto_region 3 with ((with_reducible show wpList _ _ _ (⟨some 14, _, _, _, _, _⟩ :: _) _ _); go_loud (refine wl_append_k bt rfl (.tmp 11) (.tmp 13) rfl g _ _ (ho1.to (hw0.out _ _).1) rfl _ 1 1 [fst] rfl (rd_one _ fst _ _ rfl) (by have := HBL.out; omega) (by have := hgr1.out; simp; omega) ?_); intro v2 w2 ho2 hf2)
  have hA2 := (hA1.fr (hw0.out _ (.cells #[.int .u8 (fst.toNat : Int)] 5)) hne.out).fr hf2 hne.out
  have hF2 : Fr g w w2 := hf1.trans (((hw0.out _ _).mono hgr1.out).trans hf2)
  have q3 := (hA2.cell 3).trans (show _ = some (Value.slice a l.length c) from rfl)
  have hcl : l.length ≤ 9223372036854775807 := by omega
  clear hf2 hA1 hf1 ho1
  go_upto_region 4 with fail
  go_loopw [0, 18] (fun vb i wr => ∃ (m : Nat), m ≤ l.length ∧ i = .int .i64 m ∧ Own wr g 5 vb (bl ++ fst :: partF k l ks m) ∧ Arr wr G 30 [.int .i64 k, .string (bstr s), .int .u64 (n : Int), .slice a l.length c, .slice b ks.length d] ∧ Hid (Fr g w wr) ∧ Hid (0 < m → (bl ++ fst :: partF k l ks m).length ≤ 1048576)) (fun _ i _ => l.length - (intOf i).toNat)
  case atStart => exact ⟨0, by omega, rfl, by simpa [partF] using ho2, hA2, hF2, fun h => by omega⟩
  case round =>
    clear ho2 hA2 hF2 q3
    obtain ⟨m, hm, rfl, ho, hA, hF, hT0⟩ := hrel
    obtain ⟨a3, c3, rfl, -⟩ := ho.shape
    have hgr : Hid (g ≤ wr.heap.size) := Nat.le_trans hgw.out hF.out.1.size
    have hbw : Hid (Below g w0 wr) := HB0.out.trans hF.out.1
    by_cases hlt : m < l.length
    · have hc : (m : Int) < (l.length : Int) := by omega
      have htl : Hid ((bl ++ fst :: partF k l ks m).length + 2 * most + 1 ≤ 1048600) := by
        show _ ≤ _
        have h1 := hT0.out
        have h2 := HBL.out
        have h3 := HM8.out
        rcases Nat.eq_zero_or_pos m with rfl | h0
        · simp [partF]
          omega
        · have := h1 h0
          omega
      have hmo : Hid _ := hmono.out m hlt
      generalize hT : bl ++ fst :: partF k l ks m = T0 at ho hT0 htl
      have HT := Lib.hid hT
      clear hT
      obtain ⟨ab, ao, rfl, hab, hrl⟩ := HL.out (by omega)
      obtain ⟨x, hx⟩ : ∃ x, l[m]? = some x := ⟨_, List.getElem?_eq_getElem hlt⟩
      obtain ⟨cx, hcx, hcx2, hrx⟩ := rl_at l ab ao m x hrl hx
      obtain ⟨xk, xs, xn, xa, xl, xc, xb, xm, xd, rfl⟩ := rv_shape hrx
      have hmc : m < c := by omega
      have hxd : Hid (l.getD m JV.zero = x) := by show _ = _; rw [List.getD, hx]; rfl
      have z := fun (j : Nat) (v : Value) (h : [.int .i64 xk, .string xs, .int .u64 xn, .slice xa xl xc, .slice xb xm xd][j]? = some v) (hj : j < 5) => (hbw.out.cell (p := ⟨ab, ao + (5 * m + j), none⟩) (HG.out ▸ hab)).trans ((hcx2 j hj).trans h)
      have qc0 : wr.cell? ⟨ab, ao + m * 5, none⟩ = some (.int .i64 xk) := by rw [show ao + m * 5 = ao + (5 * m + 0) by omega]; exact z 0 _ rfl (by omega)
      have qc1 : wr.cell? ⟨ab, ao + m * 5 + 1, none⟩ = some (.string xs) := by rw [show ao + m * 5 + 1 = ao + (5 * m + 1) by omega]; exact z 1 _ rfl (by omega)
      have qc2 : wr.cell? ⟨ab, ao + m * 5 + 2, none⟩ = some (.int .u64 xn) := by rw [show ao + m * 5 + 2 = ao + (5 * m + 2) by omega]; exact z 2 _ rfl (by omega)
      have qc3 : wr.cell? ⟨ab, ao + m * 5 + 3, none⟩ = some (.slice xa xl xc) := by rw [show ao + m * 5 + 3 = ao + (5 * m + 3) by omega]; exact z 3 _ rfl (by omega)
      have qc4 : wr.cell? ⟨ab, ao + m * 5 + 4, none⟩ = some (.slice xb xm xd) := by rw [show ao + m * 5 + 4 = ao + (5 * m + 4) by omega]; exact z 4 _ rfl (by omega)
      have hcall : Hid (∀ W b' v', Below g w0 W → Own W g 5 v' b' → b'.length + 2 * most ≤ 1048600 → Calls Tryd.prog 23 #[v', .agg #[.int .i64 xk, .string xs, .int .u64 xn, .slice xa xl xc, .slice xb xm xd]] W (PutRes (b' ++ plainF x) g W)) := fun W b' v' h1 h2 h3 => by
        have e := HG.out
        subst e
        exact HIH.out m x _ W b' v' hx hrx h1 h2 h3
      clear z hcx hcx2 hrx hrl hab hx
      by_cases hm0 : m = 0
      case' pos =>
        have hmi : ¬ (0 : Int) < (m : Int) := by omega
        have HM0 := Lib.hid hm0
        clear hm0
        go_upto_region 8 with fail
      case' neg =>
        have hmi : (0 : Int) < (m : Int) := by omega
        go_upto_region 8 with ((with_reducible show wpList _ _ _ (⟨some 27, _, _, _, _, _⟩ :: _) _ _); go_loud (refine wl_append_k bt rfl (.tmp 25) (.tmp 26) rfl g _ _ ((ho.to (hw0.out _ _).1).to (hw0.out _ _).1) rfl _ 1 1 [44] rfl (rd_lit_at _ [44] _ _ (by simp)) (by have := htl.out; omega) (by have := hgr.out; simp; omega) ?_); intro v4 w4 ho4 hf4)
      case' pos =>
        have ho5 := ho.to (hw0.out _ (.cells #[.int .i64 xk, .string xs, .int .u64 xn, .slice xa xl xc, .slice xb xm xd] 30)).1
        have hA5 := hA.fr (hw0.out _ (.cells #[.int .i64 xk, .string xs, .int .u64 xn, .slice xa xl xc, .slice xb xm xd] 30)) hne.out
        have hX5 := Arr.new wr 30 [.int .i64 xk, .string xs, .int .u64 xn, .slice xa xl xc, .slice xb xm xd]
        have hf5 := (hw0.out wr (.cells #[.int .i64 xk, .string xs, .int .u64 xn, .slice xa xl xc, .slice xb xm xd] 30)).mono hgr.out
        have hsep : Hid (T0 = (bl ++ fst :: partF k l ks m) ++ (if m = 0 then [] else [44])) := by show _ = _; rw [if_pos HM0.out, HT.out]; simp
        have hlen5 : Hid (T0.length + 2 * most ≤ 1048599) := by show _ ≤ _; have := htl.out; omega
        obtain ⟨T1, rfl⟩ : ∃ T1, T1 = T0 := ⟨_, rfl⟩
      case' neg =>
        have hX5 := ((Arr.new wr 30 [.int .i64 xk, .string xs, .int .u64 xn, .slice xa xl xc, .slice xb xm xd]).fr (hw0.out _ (.cells #[.int .u8 44] 5)) hne.out).fr hf4 hne.out
        have hA5 := ((hA.fr (hw0.out _ (.cells #[.int .i64 xk, .string xs, .int .u64 xn, .slice xa xl xc, .slice xb xm xd] 30)) hne.out).fr (hw0.out _ (.cells #[.int .u8 44] 5)) hne.out).fr hf4 hne.out
        have hf5 := ((hw0.out wr (.cells #[.int .i64 xk, .string xs, .int .u64 xn, .slice xa xl xc, .slice xb xm xd] 30)).mono hgr.out).trans (((hw0.out _ (.cells #[.int .u8 44] 5)).mono (by simp; have := hgr.out; omega)).trans hf4)
        have ho5 := ho4
        have hsep : Hid (T0 ++ [44] = (bl ++ fst :: partF k l ks m) ++ (if m = 0 then [] else [44])) := by show _ = _; rw [if_neg hm0, HT.out]
        have hlen5 : Hid ((T0 ++ [44]).length + 2 * most ≤ 1048599) := by show _ ≤ _; have h1 := hT0.out (by omega); have := HM8.out; rw [List.length_append, List.length_singleton]; omega
        obtain ⟨T1, hT1⟩ : ∃ T1, T1 = T0 ++ [44] := ⟨_, rfl⟩
        rw [← hT1] at ho5 hsep hlen5
        clear ho4 hf4 hT1
      all_goals
        have hF5 := hF.out.trans hf5
        have c5 := (hA5.cell 0).trans (show _ = some (Value.int .i64 k) from rfl)
        clear ho hA hF hf5 qc0 qc1 qc2 qc3 qc4 hmi
        rcases HK.out with rfl | rfl
      case' pos.inl | neg.inl =>
        have hs6 : Hid (T1 = (bl ++ fst :: partF 5 l ks m) ++ sepF 5 ks m) := by show _ = _; rw [hsep.out]; simp [sepF]
        have hend : Hid (T1 ++ plainF x = bl ++ fst :: partF 5 l ks (m + 1)) := by show _ = _; rw [hs6.out, ← hxd.out, partF]; simp
        have hl6 : Hid (T1.length + 2 * most ≤ 1048600) := by show _ ≤ _; have := hlen5.out; omega
        go_upto_region 13 with fail
        have ho6 := ho5
        have hX6 := hX5
        have hA6 := hA5
        have hF6 := hF5
        obtain ⟨T2, rfl⟩ : ∃ T2, T2 = T1 := ⟨_, rfl⟩
        clear hX5 hA5 hF5 ho5
      case' pos.inr | neg.inr =>
        have hkb : m < ks.length := by rw [HKL.out rfl]; exact hlt
        have hbw5 := HB0.out.trans hF5.1
        obtain ⟨kb, ko, rfl, hkb1, hkc⟩ := (HRK.out _ hbw5).mem (by omega)
        have ck := hkc m hkb
        have hmd : m < d := by have := (HRK.out _ hbw5).le; omega
        have hkm : ks.getD m [] ∈ ks := by rw [List.getD, List.getElem?_eq_getElem hkb]; simp
        have hkl := HKS.out _ hkm
        have hse : Hid (sepF 6 ks m = (if m = 0 then [] else [44]) ++ (wordF (ks.getD m []) ++ [58])) := by show _ = _; simp [sepF]
        generalize hke : ks.getD m [] = key at ck hkl hse
        have HKE := Lib.hid hke
        clear hkc hkm hke hkb1
        have c6 := (hA5.cell 4).trans (show _ = some (Value.slice (some ⟨kb, ko, none⟩) ks.length d) from rfl)
        have hg5 : Hid (g ≤ _) := Nat.le_trans hgw.out hF5.1.size
        have hps := putString_any T1 _ g key _ ho5 hg5.out (by have := hlen5.out; omega) hkl
        have hlen6 := hlen5.out
        by_cases hfit : (T1 ++ wordF key).length ≤ 1048576
        rotate_left
        · have hps2 := hps.mono (fun e w' h => h.no hfit)
          have hbig : Hid (¬ total.length ≤ 1048576) := by
            show ¬ _
            have h1 := hmo.out
            have h2 := hse.out
            rw [h2] at h1
            rw [hsep.out] at hfit
            simp only [List.length_append, List.length_cons] at h1 hfit
            omega
          clear hps hfit hlen6
          go_wp2_with (go_at_call 36; go_loud (refine hps2.mono ?_); rintro e w7 ⟨v7, rfl, hf7⟩)
          go_ret2
          exact ⟨.slice none 0 0, by rw [decide_eq_false hbig.out]; rfl, fun h => absurd h hbig.out, hF5.trans hf7⟩
        have hps2 := hps.mono (fun e w' h => h.ok hfit)
        clear hps
        go_upto_region 12 with (go_at_call 36; go_loud (refine hps2.mono ?_); rintro e w7 ⟨v7, rfl, ho7, hf7⟩)
        have hg7 : Hid (g ≤ w7.heap.size) := Nat.le_trans hgw.out (hF5.trans hf7).1.size
        go_upto_region 13 with ((with_reducible show wpList _ _ _ (⟨some 45, _, _, _, _, _⟩ :: _) _ _); go_loud (refine wl_append_k bt rfl (.tmp 43) (.tmp 44) rfl g _ _ (ho7.to (hw0.out _ _).1) rfl _ 1 1 [58] rfl (rd_lit _ [58] _) (by omega) (by have := hg7.out; simp; omega) ?_); intro v8 w8 ho8 hf8)
        have hs6 : Hid (T1 ++ wordF key ++ [58] = (bl ++ fst :: partF 6 l ks m) ++ sepF 6 ks m) := by show _ = _; rw [hse.out, hsep.out]; simp
        have hend : Hid (T1 ++ wordF key ++ [58] ++ plainF x = bl ++ fst :: partF 6 l ks (m + 1)) := by show _ = _; rw [hs6.out, ← hxd.out, partF]; simp
        have hl6 : Hid ((T1 ++ wordF key ++ [58]).length + 2 * most ≤ 1048600) := by show _ ≤ _; have := HM8.out; rw [List.length_append, List.length_singleton]; omega
        have ho6 := ho8
        have hX6 := ((hX5.fr hf7 hne.out).fr (hw0.out _ (.cells #[.int .u8 58] 5)) hne.out).fr hf8 hne.out
        have hA6 := ((hA5.fr hf7 hne.out).fr (hw0.out _ (.cells #[.int .u8 58] 5)) hne.out).fr hf8 hne.out
        have hF6 := (hF5.trans hf7).trans (((hw0.out _ (.cells #[.int .u8 58] 5)).mono hg7.out).trans hf8)
        obtain ⟨T2, hT2⟩ : ∃ T2, T2 = T1 ++ wordF key ++ [58] := ⟨_, rfl⟩
        rw [← hT2] at ho6 hs6 hl6 hend
        clear hT2 hX5 hA5 hF5 ho5 ho8 hf8 ho7 hf7 hps2
      all_goals
        have x0 := (hX6.cell 0).trans (show _ = some (Value.int .i64 xk) from rfl)
        have x1 := (hX6.cell 1).trans (show _ = some (Value.string xs) from rfl)
        have x2 := (hX6.cell 2).trans (show _ = some (Value.int .u64 xn) from rfl)
        have x3 := (hX6.cell 3).trans (show _ = some (Value.slice xa xl xc) from rfl)
        have x4 := (hX6.cell 4).trans (show _ = some (Value.slice xb xm xd) from rfl)
        have hps := hcall.out _ _ _ (HB0.out.trans hF6.1) ho6 hl6.out
        by_cases hfit : (T2 ++ plainF x).length ≤ 1048576
        rotate_left
        · have hps2 := hps.mono (fun e w' h => h.no hfit)
          have hbig : Hid (¬ total.length ≤ 1048576) := by
            show ¬ _
            have h1 := hmo.out
            rw [hxd.out] at h1
            rw [hs6.out] at hfit
            simp only [List.length_append, List.length_cons] at h1 hfit
            omega
          clear hps hfit
          go_wp2_with (go_at_call 23; go_loud (refine hps2.mono ?_); rintro e w9 ⟨v9, rfl, hf9⟩)
          go_ret2
          exact ⟨.slice none 0 0, by rw [decide_eq_false hbig.out]; rfl, fun h => absurd h hbig.out, hF6.trans hf9⟩
        have hps2 := hps.mono (fun e w' h => h.ok hfit)
        have HFIT := Lib.hid hfit
        clear hps hfit
        go_wp2_with (go_at_call 23; go_loud (refine hps2.mono ?_); rintro e w9 ⟨v9, rfl, ho9, hf9⟩)
        have hA9 := hA6.fr hf9 hne.out
        rw [hend.out] at ho9
        go_roundw
        case rel => exact ⟨m + 1, by omega, by go_num, ho9, hA9, hF6.trans hf9, fun _ => hend.out ▸ HFIT.out⟩
        case measure => simp [intOf]; omega
    · have hc : ¬ (m : Int) < (l.length : Int) := by omega
      have hml : m = l.length := by omega
      have q0 := (hA.cell 0).trans (show _ = some (Value.int .i64 k) from rfl)
      have hF9 : Hid (total = bl ++ fst :: partF k l ks m ++ [lst]) := by show _ = _; rw [HTOT.out, hml]; simp
      have hlb : Hid ((bl ++ fst :: partF k l ks m).length ≤ 1048700) := by
        show _ ≤ _
        rcases Nat.eq_zero_or_pos m with h0 | h0
        · have := HBL.out
          rw [h0]
          simp [partF]
          omega
        · have := hT0.out h0
          omega
      clear hml hm hlt
      generalize hT : bl ++ fst :: partF k l ks m = T0 at ho hF9 hlb hT0
      go_wp2_with (first
        | (go_at_call 50; go_loud (refine (hlast.out _).mono ?_); rintro e w7 ⟨rfl, rfl⟩)
        | ((with_reducible show wpList _ _ _ (⟨some 60, _, _, _, _, _⟩ :: _) _ _); go_loud (refine wl_append_k bt rfl (.tmp 55) (.tmp 59) rfl g _ _ (ho.to (hw0.out _ _).1) rfl _ 1 1 [lst] rfl (rd_one _ lst _ _ rfl) (by have := hlb.out; omega) (by have := hgr.out; simp; omega) ?_); intro v8 w8 ho8 hf8; obtain ⟨a8, c8, rfl, -⟩ := ho8.shape))
      go_ret2
      rw [← hF9.out] at ho8
      refine ⟨_, ?_, fun _ => ho8, hF.out.trans (((hw0.out _ _).mono hgr.out).trans hf8)⟩
      rw [hF9.out]
      simp
      omega
end Go.Proofs.YtehlgflpkofooaaDoor
