/-
  The program's small functions, maps, the shelf's contracts, names. Conditions: those in each statement.
-/
import Derived.Test.YtiadfijeglbdlaaDoorJyB
import Derived.Lib.OthersKept
import Derived.Lib.OwnKind
import Derived.Maps.Keyed
import Derived.LaidEql
import Derived.ChangeKeysEq
import Derived.Laws.StructEq
import Derived.Laws.Pointers
import Derived.Maps.OwnSet
import Derived.Test.YtiadfijeglbdlaaDoorJyA
import Derived.Lib.ValidLaws
import Derived.Test.YtiadfijeglbdlaaDoorShelf
namespace Go.Proofs.YtiadfijeglbdlaaDoor
open Go.RowKit

/-- nothing below g is turned, nor any block but rows of bytes -/
def Fr (g : Nat) (w w' : World) : Prop := Below g w w' ∧ Lib.OthersKept 5 none w w'
theorem Fr.refl (g : Nat) (w : World) : Fr g w w := ⟨Below.refl _ _, Lib.OthersKept.refl _ _ _⟩
theorem Fr.trans {g : Nat} {a b c : World} (h : Fr g a b) (k : Fr g b c) : Fr g a c := ⟨h.1.trans k.1, h.2.trans k.2⟩
theorem Fr.mono {g g' : Nat} {a b : World} (h : Fr g a b) (hg : g' ≤ g) : Fr g' a b := ⟨h.1.mono hg, h.2⟩
theorem Fr.drew {g : Nat} {a b : World} (h : Fr g a b) : Fr g a b.drew := ⟨h.1.drew, h.2.drew⟩
theorem Fr.alloc {g : Nat} {a b : World} (h : Fr g a b) (hg : g ≤ b.heap.size) (o : Obj) : Fr g a (b.alloc o) := ⟨h.1.alloc hg o, h.2.alloc o⟩
theorem Fr.new (w : World) (o : Obj) : Fr w.heap.size w (w.alloc o) := (Fr.refl _ _).alloc (Nat.le_refl _) o
theorem Fr.of_below {w w' : World} (h : Below w.heap.size w w') : Fr w.heap.size w w' := ⟨h, fun k _ hk _ _ => (h.block k (Array.getElem?_eq_some_iff.1 hk).1).trans hk⟩
theorem Fr.grown {g : Nat} {a w w' : World} {B n : Nat} {v : Value} {xs : List Value} (h : Fr g a w) (hg : w.grownBy w' v.ownBlock) (hown : w.ownsRow B 5 1 v n xs) (hB : g ≤ B) (hw : g ≤ w.heap.size) : Fr g a w' :=
  ⟨h.1.grown hg hw (fun k hk => Nat.le_trans hB (World.ownsRow.lt hown k hk).1), h.2.grown hg (Lib.ownsRow_kind hown)⟩
theorem Arr.fr {g G : Nat} {w w' : World} {T : TypeId} {xs : List Value} (h : Arr w G T xs) (hf : Fr g w w') (hT : T ≠ 5) : Arr w' G T xs :=
  hf.2 G _ h (by simp) (fun c fz e => hT (by cases e; rfl))

section
variable {T : TypeId} (bt : BT Tryd.prog T 5) {ops : Array Oper} {rest : List Oper} {o : Oper} {a : Act} {Q : Exit → Act → World → Prop} {w : World}
include bt
/-- append(dst, src...), dst nil or the call's own: nothing but dst's block is turned -/
theorem wl_append_k (hgd : o.guard = none) (d s : Operand) (ho : o.op = .call { callee := .builtin .append, args := #[d, s], argTypes := #[T, T] })
    (B : Nat) (v : Value) (ys : List UInt8) (hown : Own w B 5 v ys) (hd : a.eval d = v) (sp : Option Addr) (sLen sCap : Nat) (xs : List UInt8)
    (hs : a.eval s = .slice sp sLen sCap) (hrd : Rd w sp sLen sCap xs) (hb : ys.length + sLen ≤ 140737488355328) (hB : B ≤ w.heap.size)
    (hK : ∀ v' w', Own w' B 5 v' (ys ++ xs) → Fr B w w' → wpList Tryd.prog ops Q rest (a.put o.dst v') w') :
    wpList Tryd.prog ops Q (o :: rest) a w := by
  obtain ⟨i0, hi, hz0, hz1, hz2⟩ := info_parts bt.info
  cases sp with
  | none =>
    have h0 : sCap = 0 := hrd.nil rfl
    have h1 : sLen = 0 := by have := hrd.le; omega
    subst h0 h1
    have hx : xs = [] := List.eq_nil_of_length_eq_zero hrd.len
    subst hx
    refine wpList_append_own_none hgd d s T ho B 5 i0 1 bt.sl hi v _ _ hd hown hs ?_
    exact hK v w (by simpa using hown) (Fr.refl _ _)
  | some ad =>
    refine wpList_append_own w hgd d s T ho B 5 i0 (.int .u8 0) 1 1 bt.sl hi hz0 hz1 hz2 rfl (by decide) v _ _ hd hown ad sLen sCap (xs.map bv) hs (by simp [hrd.len]) hrd.cells bv_oneCell (by unfold maxLen; omega) (by omega) hB ?_
    intro v' w' h1 h2 _
    refine hK v' w' ?_ ((Fr.refl _ _).grown h2 hown (Nat.le_refl _) hB)
    unfold Own
    rw [List.length_append, List.map_append, hrd.len]
    exact h1
/-- .. in a region that draws -/
theorem step_append_k {K : Act → World → Prop} {X : Prop} (hgd : o.guard = none)
    (d s : Operand) (ho : o.op = .call { callee := .builtin .append, args := #[d, s], argTypes := #[T, T] })
    (B : Nat) (v : Value) (ys : List UInt8) (hown : Own w B 5 v ys) (hd : a.eval d = v) (ad : Addr) (sLen sCap : Nat) (xs : List UInt8)
    (hs : a.eval s = .slice (some ad) sLen sCap) (hrd : Rd w (some ad) sLen sCap xs) (hb : ys.length + sLen ≤ 140737488355328) (hB : B ≤ w.heap.size)
    (hK : ∀ v' w', Own w' B 5 v' (ys ++ xs) → Fr B w w' → K (a.put o.dst v') w') :
    if Region.wanted o (yielded ops a.tmps) = true then Oper.wp Tryd.prog o a w K Q else X := by
  rw [if_pos (by simp [Region.wanted, hgd])]
  obtain ⟨i0, hi, hz0, hz1, hz2⟩ := info_parts bt.info
  refine wp_append_own w d s T ho B 5 i0 (.int .u8 0) 1 1 bt.sl hi hz0 hz1 hz2 rfl (by decide) v _ _ hd hown ad sLen sCap (xs.map bv) hs (by simp [hrd.len]) hrd.cells bv_oneCell (by unfold maxLen; omega) (by omega) hB ?_
  intro v' w' h1 h2 _
  refine hK v' w' ?_ ((Fr.refl _ _).grown h2 hown (Nat.le_refl _) hB)
  unfold Own
  rw [List.length_append, List.map_append, hrd.len]
  exact h1
end

/-- what a call that lays down tells: the bytes, if there are not too many -/
def PutRes (out : List UInt8) (g : Nat) (w : World) (e : Ending) (w' : World) : Prop :=
  ∃ v, e = .returned (.tuple #[v, .bool (decide (out.length ≤ 1048576))]) ∧ (out.length ≤ 1048576 → Own w' g 5 v out) ∧ Fr g w w'

set_option maxHeartbeats 1600000 in
theorem putString_any (b : List UInt8) (v : Value) (g : Nat) (s : List UInt8) (w : World) (hown : Own w g 5 v b) (hg : g ≤ w.heap.size) (hb : b.length ≤ 1099511627776) (hs : s.length ≤ 9223372036854775807) :
    Calls Tryd.prog 36 #[v, .string (bstr s)] w (PutRes (b ++ wordF s) g w) := by
  have hsz : (bstr s).size = s.length := by show s.toArray.size = _; simp
  have hwl : (b ++ wordF s).length = b.length + (s.flatMap escF).length + 2 := by unfold wordF; simp; omega
  have hge := escs_len s
  obtain ⟨a0, c0, rfl, -⟩ := hown.shape
  by_cases hbig : s.length ≤ 1048576
  · have hb0 : ¬ (1048576 : Int) < (s.length : Int) := by omega
    have hw0 : ∀ (W : World) (o : Obj), Fr W.heap.size W (W.alloc o) := Fr.new
    have hW0 := Lib.hid hw0
    have HB := Lib.hid hb
    have HS := Lib.hid hbig
    have HWL := Lib.hid hwl
    have HG := Lib.hid hg
    clear hw0 hb hbig hwl hge hg
    go_enter Tryd.func36, Tryd.ntmps36
    go_wp2_with ((with_reducible show wpList _ _ _ (⟨some 13, _, _, _, _, _⟩ :: _) _ _); go_loud (refine wl_append_k bt rfl (.tmp 11) (.tmp 12) rfl g _ _ (hown.to (hW0.out _ _).1) rfl _ 1 1 [34] rfl (rd_lit _ [34] _) (by have := HB.out; omega) (by have := HG.out; simp; omega) ?_); intro v1 w1 ho1 hb1)
    have hb1' : Fr g w w1 := ((hW0.out w _).mono HG.out).trans hb1
    clear hb1 hown
    go_loopw [0, 16] (fun v i wr => ∃ (k : Nat), k ≤ s.length ∧ i = .int .i64 k ∧ Own wr g 5 v (b ++ 34 :: (s.take k).flatMap escF) ∧ Fr g w wr) (fun _ i _ => s.length - (intOf i).toNat)
    case atStart => exact ⟨0, by omega, rfl, by simpa using ho1, hb1'⟩
    case round =>
      obtain ⟨k, hk, rfl, ho, hb⟩ := hrel
      obtain ⟨a, c, rfl, -⟩ := ho.shape
      have hlen : Hid ((b ++ 34 :: (s.take k).flatMap escF).length ≤ b.length + 6 * k + 1) := by
        show _ ≤ _
        have := escs_six (s.take k)
        rw [List.length_take] at this
        rw [List.length_append, List.length_cons]
        omega
      generalize hD : b ++ 34 :: (s.take k).flatMap escF = ds at ho hlen
      have HD := Lib.hid hD
      clear hD
      have hgr : Hid (g ≤ wr.heap.size) := by show g ≤ _; exact Nat.le_trans HG.out hb.1.size
      have hwb : Hid (∀ {w1 w2 : World}, Fr wr.heap.size wr w1 → Fr g w1 w2 → Fr g w w2) := fun h1 h2 => hb.trans ((h1.mono hgr.out).trans h2)
      by_cases hlt : k < s.length
      · have hc : (k : Int) < (s.length : Int) := by omega
        have hix := bstr_index s k hlt
        have hsn := Lib.hid (escs_take s k hlt)
        generalize hx : s.getD k 0 = x at *
        have hxl := x.toNat_lt
        have hL : Hid (ds.length ≤ 1099600000000) := by show _ ≤ _; have := hlen.out; have := HB.out; have := HS.out; omega
        clear hlen hx
        by_cases hq : x = 34 ∨ x = 92
        · have hE : Hid (b ++ 34 :: (s.take (k + 1)).flatMap escF = ds ++ [92, x]) := by
            show _ = _
            rw [hsn.out, ← HD.out]
            have h32 : ¬ x.toNat < 32 := by rcases hq with rfl | rfl <;> decide
            unfold escF
            rw [if_neg h32, if_pos hq]
            simp
          clear hsn
          have hqn : x.toNat = 34 ∨ x.toNat = 92 := hq.imp (fun h => by rw [h]; rfl) (fun h => by rw [h]; rfl)
          clear hq
          rcases hqn with hqn | hqn
          · have hqi : (x.toNat : Int) = 34 := by omega
            have hQ : Hid (∀ W : World, Rd (W.alloc (.cells #[.int .u8 92, .int .u8 34] 5)) (some ⟨W.heap.size, 0, none⟩) 2 2 [92, x]) := fun W => by
              have := rd_lit W [92, x] 5
              simpa [bv, hqi] using this
            clear hqn
            go_wp2_with ((with_reducible show wpList _ _ _ (⟨some 36, _, _, _, _, _⟩ :: _) _ _); go_loud (refine wl_append_k bt rfl (.tmp 33) (.tmp 35) rfl g _ _ (ho.to (hW0.out _ _).1) rfl _ 2 2 [92, x] rfl (hQ.out _) (by have := hL.out; omega) (by have := hgr.out; simp; omega) ?_); intro v5 w5 ho5 hb5)
            rw [← hE.out] at ho5
            go_roundw
            case rel => exact ⟨k + 1, by omega, by go_num, ho5, hwb.out (hW0.out _ _) hb5⟩
            case measure => simp [intOf]; omega
          · have hqi : (x.toNat : Int) = 92 := by omega
            have hQ : Hid (∀ W : World, Rd (W.alloc (.cells #[.int .u8 92, .int .u8 92] 5)) (some ⟨W.heap.size, 0, none⟩) 2 2 [92, x]) := fun W => by
              have := rd_lit W [92, x] 5
              simpa [bv, hqi] using this
            clear hqn
            go_wp2_with ((with_reducible show wpList _ _ _ (⟨some 36, _, _, _, _, _⟩ :: _) _ _); go_loud (refine wl_append_k bt rfl (.tmp 33) (.tmp 35) rfl g _ _ (ho.to (hW0.out _ _).1) rfl _ 2 2 [92, x] rfl (hQ.out _) (by have := hL.out; omega) (by have := hgr.out; simp; omega) ?_); intro v5 w5 ho5 hb5)
            rw [← hE.out] at ho5
            go_roundw
            case rel => exact ⟨k + 1, by omega, by go_num, ho5, hwb.out (hW0.out _ _) hb5⟩
            case measure => simp [intOf]; omega
        · have hn1 : ¬ (x.toNat : Int) = 34 := fun h => hq (.inl (UInt8.toNat_inj.1 (by have e : (34 : UInt8).toNat = 34 := rfl; omega)))
          have hn2 : ¬ (x.toNat : Int) = 92 := fun h => hq (.inr (UInt8.toNat_inj.1 (by have e : (92 : UInt8).toNat = 92 := rfl; omega)))
          have hb1 : ((x.toNat : Int) == 34) = false := beq_eq_false_iff_ne.2 hn1
          have hb2 : ((x.toNat : Int) == 92) = false := beq_eq_false_iff_ne.2 hn2
          clear hn1 hn2
          by_cases h32 : x.toNat < 32
          · have hcx : (x.toNat : Int) < 32 := by omega
            have hE : Hid (b ++ 34 :: (s.take (k + 1)).flatMap escF = ds ++ [92, 117, 48, 48, hexD (x.toNat / 16), hexD (x.toNat % 16)]) := by
              show _ = _
              rw [hsn.out, ← HD.out]
              unfold escF
              rw [if_pos h32]
              simp
            have d1 := hex_index (x.toNat / 16) (by omega)
            have d2 := hex_index (x.toNat % 16) (by omega)
            push_cast at d1 d2
            clear hsn hq
            generalize hy : x.toNat = y at *
            have hand : bits .and .u8 (y : Int) 15 = (y : Int) % 16 := by
              have h : ∀ a : Fin 256, bits .and .u8 ((a.val : Nat) : Int) 15 = ((a.val % 16 : Nat) : Int) := by decide +kernel
              have := h ⟨y, by omega⟩
              rw [this]
              push_cast
              rfl
            have hshr : (y : Int) >>> (4 : Nat) = (y : Int) / 16 := by rw [Int.shiftRight_eq_div_pow]; rfl
            clear hy h32
            go_upto_region 12 with fail
            clear hix
            have hw0 : ∀ o, Fr wr.heap.size wr (wr.alloc o).drew := fun o => (Fr.new _ _).drew
            go_region_law (go_loud (refine step_append_k bt rfl _ _ rfl g _ _ (ho.to (hw0 _).1) rfl _ 6 6 [92, 117, 48, 48, hexD (y / 16), hexD (y % 16)] rfl (rd_drew (rd_lit _ [92, 117, 48, 48, hexD (y / 16), hexD (y % 16)] _)) (by have := hL.out; omega) (by have := hgr.out; simp; omega) ?_); intro v4 w4 ho4 hb4)
            all_goals
              rw [← hE.out] at ho4
              go_wp2
              go_roundw
              case rel => exact ⟨k + 1, by omega, by go_num, ho4, hwb.out (hw0 _) hb4⟩
              case measure => simp [intOf]; omega
          · have hcx : ¬ (x.toNat : Int) < 32 := by omega
            have hE : Hid (b ++ 34 :: (s.take (k + 1)).flatMap escF = ds ++ [x]) := by
              show _ = _
              rw [hsn.out, ← HD.out]
              unfold escF
              rw [if_neg h32, if_neg hq]
              simp
            clear hsn h32 hq
            go_wp2_with ((with_reducible show wpList _ _ _ (⟨some 25, _, _, _, _, _⟩ :: _) _ _); go_loud (refine wl_append_k bt rfl (.tmp 22) (.tmp 24) rfl g _ _ (ho.to (hW0.out _ _).1) rfl _ 1 1 [x] rfl (rd_lit _ [x] _) (by have := hL.out; omega) (by have := hgr.out; simp; omega) ?_); intro v5 w5 ho5 hb5)
            rw [← hE.out] at ho5
            go_roundw
            case rel => exact ⟨k + 1, by omega, by go_num, ho5, hwb.out (hW0.out _ _) hb5⟩
            case measure => simp [intOf]; omega
      · have hc : ¬ (k : Int) < (s.length : Int) := by omega
        have hF : Hid (b ++ wordF s = ds ++ [34]) := by
          show _ = _
          rw [← HD.out, List.take_of_length_le (by omega)]
          unfold wordF
          simp
        have hL : Hid (ds.length ≤ 1099600000000) := by show _ ≤ _; have := hlen.out; have := HB.out; have := HS.out; omega
        go_wp2_with ((with_reducible show wpList _ _ _ (⟨some 52, _, _, _, _, _⟩ :: _) _ _); go_loud (refine wl_append_k bt rfl (.tmp 50) (.tmp 51) rfl g _ _ (ho.to (hW0.out _ _).1) rfl _ 1 1 [34] rfl (rd_lit _ [34] _) (by have := hL.out; omega) (by have := hgr.out; simp; omega) ?_); intro v5 w5 ho5 hb5; obtain ⟨a5, c5, rfl, -⟩ := ho5.shape)
        go_ret2
        refine ⟨_, ?_, fun _ => by rw [hF.out]; exact ho5, hwb.out (hW0.out _ _) hb5⟩
        rw [hF.out]
        simp
        omega
  · have hb0 : (1048576 : Int) < (s.length : Int) := by omega
    go_enter Tryd.func36, Tryd.ntmps36
    go_wp2
    go_ret2
    exact ⟨.slice none 0 0, by rw [decide_eq_false (show ¬ (b ++ wordF s).length ≤ 1048576 by omega)]; rfl, fun h => absurd h (by omega), Fr.refl _ _⟩
end Go.Proofs.YtiadfijeglbdlaaDoor

namespace Go.Proofs.YtiadfijeglbdlaaDoor
open Go.RowKit

theorem PutRes.ok {out : List UInt8} {g : Nat} {w w' : World} {e : Ending} (h : PutRes out g w e w') (hl : out.length ≤ 1048576) : ∃ v, e = .returned (.tuple #[v, .bool true]) ∧ Own w' g 5 v out ∧ Fr g w w' := by
  obtain ⟨v, h1, h2, h3⟩ := h
  exact ⟨v, by rw [h1, decide_eq_true hl], h2 hl, h3⟩
theorem PutRes.no {out : List UInt8} {g : Nat} {w w' : World} {e : Ending} (h : PutRes out g w e w') (hl : ¬ out.length ≤ 1048576) : ∃ v, e = .returned (.tuple #[v, .bool false]) ∧ Fr g w w' := by
  obtain ⟨v, h1, h2, h3⟩ := h
  exact ⟨v, by rw [h1, decide_eq_false hl], h3⟩

/-- what goes ahead of item m -/
def sepF (k : Int) (ks : List (List UInt8)) (m : Nat) : List UInt8 := (if m = 0 then [] else [44]) ++ (if k = 6 then wordF (ks.getD m []) ++ [58] else [])
/-- the first m items -/
def partF (k : Int) (l : List JV) (ks : List (List UInt8)) : Nat → List UInt8
  | 0 => []
  | m + 1 => partF k l ks m ++ (sepF k ks m ++ plainF (l.getD m JV.zero))
theorem part_mono (k : Int) (l : List JV) (ks : List (List UInt8)) (m : Nat) : ∀ d, (partF k l ks m).length ≤ (partF k l ks (m + d)).length
  | 0 => Nat.le_refl _
  | d + 1 => by
    have := part_mono k l ks m d
    show _ ≤ (partF k l ks (m + d) ++ _).length
    rw [List.length_append]
    omega
theorem part_at (ks : List (List UInt8)) : ∀ (r pre : List JV), pre ≠ [] → partF 5 (pre ++ r) ks (pre.length + r.length) = partF 5 (pre ++ r) ks pre.length ++ plainAt r
  | [], pre, _ => by unfold plainAt; simp
  | v :: r, pre, h => by
    have := part_at ks r (pre ++ [v]) (by simp)
    rw [List.append_assoc, List.singleton_append, List.length_append, List.length_singleton] at this
    rw [List.length_cons, show pre.length + (r.length + 1) = pre.length + 1 + r.length by omega, this]
    have hl : pre.length ≠ 0 := fun e => h (List.eq_nil_of_length_eq_zero e)
    show partF 5 (pre ++ v :: r) ks pre.length ++ (sepF 5 ks pre.length ++ plainF ((pre ++ v :: r).getD pre.length JV.zero)) ++ plainAt r = _
    rw [plainAt]
    simp [sepF, hl, List.getD]
theorem part_ot : ∀ (r pre : List JV) (kp kr : List (List UInt8)), pre ≠ [] → kp.length = pre.length → kr.length = r.length →
    partF 6 (pre ++ r) (kp ++ kr) (pre.length + r.length) = partF 6 (pre ++ r) (kp ++ kr) pre.length ++ plainOt r kr
  | [], pre, kp, kr, _, _, _ => by unfold plainOt; simp
  | v :: r, pre, kp, [], _, _, h2 => by simp at h2
  | v :: r, pre, kp, q :: kr, h, h1, h2 => by
    have := part_ot r (pre ++ [v]) (kp ++ [q]) kr (by simp) (by simp [h1]) (by simpa using h2)
    rw [List.append_assoc, List.singleton_append, List.append_assoc, List.singleton_append, List.length_append, List.length_singleton] at this
    rw [List.length_cons, show pre.length + (r.length + 1) = pre.length + 1 + r.length by omega, this]
    have hl : pre.length ≠ 0 := fun e => h (List.eq_nil_of_length_eq_zero e)
    show partF 6 (pre ++ v :: r) (kp ++ q :: kr) pre.length ++ (sepF 6 (kp ++ q :: kr) pre.length ++ plainF ((pre ++ v :: r).getD pre.length JV.zero)) ++ plainOt r kr = _
    rw [plainOt]
    have hkn : kp ≠ [] := fun e => hl (by rw [← h1, e]; rfl)
    simp [sepF, hkn, List.getD, ← h1]
theorem plain_parts (k : Int) (s : List UInt8) (n : Nat) (l : List JV) (ks : List (List UInt8)) (hk : k = 5 ∨ k = 6) (hkl : k = 6 → ks.length = l.length) :
    plainF (.mk k s n l ks) = (if k = 6 then 123 else 91) :: (partF k l ks l.length ++ [if k = 6 then 125 else 93]) := by
  rcases hk with rfl | rfl
  · have : plainA l = partF 5 l ks l.length := by
      cases l with
      | nil => rfl
      | cons v r =>
        have := part_at ks r [v] (by simp)
        rw [List.singleton_append, List.length_singleton] at this
        rw [List.length_cons, Nat.add_comm r.length 1, this]
        unfold plainA
        simp [partF, sepF]
    unfold plainF
    rw [this]
    rfl
  · have hl := hkl rfl
    have : plainO l ks = partF 6 l ks l.length := by
      cases l with
      | nil => unfold plainO; rfl
      | cons v r =>
        cases ks with
        | nil => simp at hl
        | cons q kr =>
          have := part_ot r [v] [q] kr (by simp) rfl (by simpa using hl)
          rw [List.singleton_append, List.singleton_append, List.length_singleton] at this
          rw [List.length_cons, Nat.add_comm r.length 1, this]
          unfold plainO
          simp [partF, sepF]
    unfold plainF
    rw [this]
    rfl

theorem rv_shape {w : World} {v : JV} {cs : List Value} (h : RV w v cs) : ∃ (k : Int) (s : ByteArray) (n : Int) (a : Option Addr) (l c : Nat) (b : Option Addr) (m d : Nat), cs = [.int .i64 k, .string s, .int .u64 n, .slice a l c, .slice b m d] := by
  obtain ⟨k, s, n, l, ks⟩ := v
  unfold RV at h
  obtain ⟨a, c, a', c', rfl, -⟩ := h
  exact ⟨_, _, _, _, _, _, _, _, _, rfl⟩
/-- what must be told of the values in a list -/
def PutIH (l : List JV) (w0 : World) (most : Nat) : Prop := ∀ (i : Nat) (u : JV) (cu : List Value) (W : World) (b : List UInt8) (v : Value), l[i]? = some u → RV w0 u cu → Below w0.heap.size w0 W → Own W w0.heap.size 5 v b → b.length + 2 * most ≤ 1048600 →
    Calls Tryd.prog 23 #[v, .agg cu.toArray] W (PutRes (b ++ plainF u) w0.heap.size W)

set_option maxRecDepth 100000 in
set_option maxHeartbeats 4000000 in
theorem putOthers_of (k : Int) (s : List UInt8) (n : Nat) (l : List JV) (ks : List (List UInt8)) (cs : List Value) (w0 w : World) (bl : List UInt8) (v : Value) (most : Nat) (hk : k = 5 ∨ k = 6) (hkl : k = 6 → ks.length = l.length)
    (h : RV w0 (.mk k s n l ks) cs) (hb0 : Below w0.heap.size w0 w) (ho : Own w w0.heap.size 5 v bl) (hbl : bl.length + 2 * (most + 1) ≤ 1048600) (hm8 : most < 8) (hIH : PutIH l w0 most) (hks : ∀ x ∈ ks, x.length ≤ 9223372036854775807) :
    Calls Tryd.prog 37 #[v, .agg cs.toArray, .int .u8 (if k = 6 then 123 else 91)] w (PutRes (bl ++ plainF (.mk k s n l ks)) w0.heap.size w) := by
  rw [plain_parts k s n l ks hk hkl]
  unfold RV at h
  obtain ⟨a, c, b, d, rfl, ⟨hk0, hk1, hn⟩, hrk, ⟨hlc, hcb⟩, hac, hl⟩ := h
  obtain ⟨fst, hfst⟩ : ∃ fst : UInt8, fst = (if k = 6 then 123 else 91) := ⟨_, rfl⟩
  obtain ⟨lst, hlst⟩ : ∃ lst : UInt8, lst = (if k = 6 then 125 else 93) := ⟨_, rfl⟩
  have hfi : (if k = 6 then 123 else 91 : Int) = (fst.toNat : Int) := by rw [hfst]; split <;> rfl
  rw [hfi, ← hfst, ← hlst]
  have hlast : Hid (∀ W, Calls Tryd.prog 50 #[.int .i64 k] W fun e w' => e = .returned (.int .u8 (lst.toNat : Int)) ∧ w' = W) := fun W => by
    rw [show (lst.toNat : Int) = if k = 6 then 125 else 93 by rw [hlst]; split <;> rfl]
    exact lastSign_any k W
  have HK := Lib.hid hk
  have HKL := Lib.hid hkl
  have HRK : Hid (∀ W, Below w0.heap.size w0 W → RStr W ks b d) := fun W hW => hrk.to hW
  have HL := Lib.hid hl
  have HIH := Lib.hid hIH
  have HKS := Lib.hid hks
  have HFS := Lib.hid hfst
  clear hfst hlst hfi hk hkl hrk hl hIH hks
  obtain ⟨total, htot⟩ : ∃ total, total = bl ++ fst :: (partF k l ks l.length ++ [lst]) := ⟨_, rfl⟩
  rw [← htot]
  have HTOT := Lib.hid htot
  have hmono : Hid (∀ m, m < l.length → (bl ++ fst :: (partF k l ks m ++ (sepF k ks m ++ plainF (l.getD m JV.zero)))).length ≤ total.length) := by
    intro m hm
    have h1 := part_mono k l ks (m + 1) (l.length - (m + 1))
    rw [show m + 1 + (l.length - (m + 1)) = l.length by omega] at h1
    rw [htot]
    simp only [List.length_append, List.length_cons] at h1 ⊢
    have : (partF k l ks (m + 1)).length = (partF k l ks m).length + ((sepF k ks m).length + (plainF (l.getD m JV.zero)).length) := by
      show (partF k l ks m ++ _).length = _
      simp only [List.length_append]
    omega
  clear htot
  obtain ⟨g, hg⟩ : ∃ g, g = w0.heap.size := ⟨_, rfl⟩
  have HG := Lib.hid hg
  rw [← hg] at ho hb0 HRK ⊢
  have hgw : Hid (g ≤ w.heap.size) := by show _ ≤ _; rw [hg]; exact hg ▸ hb0.size
  clear hg
  obtain ⟨a0, c0, rfl, -⟩ := ho.shape
  have hw0 := Lib.hid Fr.new
  have HBL := Lib.hid hbl
  have HM8 := Lib.hid hm8
  have HCB := Lib.hid hcb
  have HO := Lib.hid ho
  have HB0 := Lib.hid hb0
  clear hbl hm8 ho hb0
  go_enter Tryd.func37, Tryd.ntmps37
  go_upto_region 2 with fail
  obtain ⟨W1, hW1⟩ : ∃ W1, W1 = w.alloc (.cells #[.int .i64 k, .string (bstr s), .int .u64 (n : Int), .slice a l.length c, .slice b ks.length d] 30) := ⟨_, rfl⟩
  obtain ⟨G, hG⟩ : ∃ G, G = w.heap.size := ⟨_, rfl⟩
  have hA1 : Arr W1 G 30 [.int .i64 k, .string (bstr s), .int .u64 (n : Int), .slice a l.length c, .slice b ks.length d] := by
    rw [hW1, hG]
    exact Arr.new w _ _
  have hf1 : Fr g w W1 := by rw [hW1]; exact (Fr.new w _).mono hgw.out
  have ho1 : Own W1 g 5 _ bl := HO.out.to (by rw [hW1]; exact (Fr.new w _).1)
  rw [← hW1, ← hG]
  have HGG := Lib.hid hG
  clear hW1 hG
  have hne : Hid (30 ≠ 5) := by show _ ≠ _; decide
  have hgr1 : Hid (g ≤ W1.heap.size) := Nat.le_trans hgw.out hf1.1.size
  go_upto_region 3 with ((with_reducible show wpList _ _ _ (⟨some 14, _, _, _, _, _⟩ :: _) _ _); go_loud (refine wl_append_k bt rfl (.tmp 11) (.tmp 13) rfl g _ _ (ho1.to (hw0.out _ _).1) rfl _ 1 1 [fst] rfl (rd_one _ fst _ _ rfl) (by have := HBL.out; omega) (by have := hgr1.out; simp; omega) ?_); intro v2 w2 ho2 hf2)
  have hA2 := (hA1.fr (hw0.out _ (.cells #[.int .u8 (fst.toNat : Int)] 5)) hne.out).fr hf2 hne.out
  have hF2 : Fr g w w2 := hf1.trans (((hw0.out _ _).mono hgr1.out).trans hf2)
  have q3 := (hA2.cell 3).trans (show _ = some (Value.slice a l.length c) from rfl)
  have hcl : l.length ≤ 9223372036854775807 := by omega
  clear hf2 hA1 hf1 ho1
  go_upto_region 4 with fail
  go_loopw [0, 18] (fun vb i wr => ∃ (m : Nat), m ≤ l.length ∧ i = .int .i64 m ∧ Own wr g 5 vb (bl ++ fst :: partF k l ks m) ∧ Arr wr G 30 [.int .i64 k, .string (bstr s), .int .u64 (n : Int), .slice a l.length c, .slice b ks.length d] ∧ Hid (Fr g w wr) ∧ Hid (0 < m → (bl ++ fst :: partF k l ks m).length ≤ 1048576)) (fun _ i _ => l.length - (intOf i).toNat)
  case atStart => exact ⟨0, by omega, rfl, by simpa [partF] using ho2, hA2, hF2, fun h => by omega⟩
  case round =>
    clear ho2 hA2 hF2 q3
    obtain ⟨m, hm, rfl, ho, hA, hF, hT0⟩ := hrel
    obtain ⟨a3, c3, rfl, -⟩ := ho.shape
    have hgr : Hid (g ≤ wr.heap.size) := Nat.le_trans hgw.out hF.out.1.size
    have hbw : Hid (Below g w0 wr) := HB0.out.trans hF.out.1
    by_cases hlt : m < l.length
    · have hc : (m : Int) < (l.length : Int) := by omega
      have htl : Hid ((bl ++ fst :: partF k l ks m).length + 2 * most + 1 ≤ 1048600) := by
        show _ ≤ _
        have h1 := hT0.out
        have h2 := HBL.out
        have h3 := HM8.out
        rcases Nat.eq_zero_or_pos m with rfl | h0
        · simp [partF]
          omega
        · have := h1 h0
          omega
      have hmo : Hid _ := hmono.out m hlt
      generalize hT : bl ++ fst :: partF k l ks m = T0 at ho hT0 htl
      have HT := Lib.hid hT
      clear hT
      obtain ⟨ab, ao, rfl, hab, hrl⟩ := HL.out (by omega)
      obtain ⟨x, hx⟩ : ∃ x, l[m]? = some x := ⟨_, List.getElem?_eq_getElem hlt⟩
      obtain ⟨cx, hcx, hcx2, hrx⟩ := rl_at l ab ao m x hrl hx
      obtain ⟨xk, xs, xn, xa, xl, xc, xb, xm, xd, rfl⟩ := rv_shape hrx
      have hmc : m < c := by omega
      have hxd : Hid (l.getD m JV.zero = x) := by show _ = _; rw [List.getD, hx]; rfl
      have z := fun (j : Nat) (v : Value) (h : [.int .i64 xk, .string xs, .int .u64 xn, .slice xa xl xc, .slice xb xm xd][j]? = some v) (hj : j < 5) => (hbw.out.cell (p := ⟨ab, ao + (5 * m + j), none⟩) (HG.out ▸ hab)).trans ((hcx2 j hj).trans h)
      have qc0 : wr.cell? ⟨ab, ao + m * 5, none⟩ = some (.int .i64 xk) := by rw [show ao + m * 5 = ao + (5 * m + 0) by omega]; exact z 0 _ rfl (by omega)
      have qc1 : wr.cell? ⟨ab, ao + m * 5 + 1, none⟩ = some (.string xs) := by rw [show ao + m * 5 + 1 = ao + (5 * m + 1) by omega]; exact z 1 _ rfl (by omega)
      have qc2 : wr.cell? ⟨ab, ao + m * 5 + 2, none⟩ = some (.int .u64 xn) := by rw [show ao + m * 5 + 2 = ao + (5 * m + 2) by omega]; exact z 2 _ rfl (by omega)
      have qc3 : wr.cell? ⟨ab, ao + m * 5 + 3, none⟩ = some (.slice xa xl xc) := by rw [show ao + m * 5 + 3 = ao + (5 * m + 3) by omega]; exact z 3 _ rfl (by omega)
      have qc4 : wr.cell? ⟨ab, ao + m * 5 + 4, none⟩ = some (.slice xb xm xd) := by rw [show ao + m * 5 + 4 = ao + (5 * m + 4) by omega]; exact z 4 _ rfl (by omega)
      have hcall : Hid (∀ W b' v', Below g w0 W → Own W g 5 v' b' → b'.length + 2 * most ≤ 1048600 → Calls Tryd.prog 23 #[v', .agg #[.int .i64 xk, .string xs, .int .u64 xn, .slice xa xl xc, .slice xb xm xd]] W (PutRes (b' ++ plainF x) g W)) := fun W b' v' h1 h2 h3 => by
        have e := HG.out
        subst e
        exact HIH.out m x _ W b' v' hx hrx h1 h2 h3
      clear z hcx hcx2 hrx hrl hab hx
      by_cases hm0 : m = 0
      case' pos =>
        have hmi : ¬ (0 : Int) < (m : Int) := by omega
        have HM0 := Lib.hid hm0
        clear hm0
        go_upto_region 8 with fail
      case' neg =>
        have hmi : (0 : Int) < (m : Int) := by omega
        go_upto_region 8 with ((with_reducible show wpList _ _ _ (⟨some 27, _, _, _, _, _⟩ :: _) _ _); go_loud (refine wl_append_k bt rfl (.tmp 25) (.tmp 26) rfl g _ _ ((ho.to (hw0.out _ _).1).to (hw0.out _ _).1) rfl _ 1 1 [44] rfl (rd_lit_at _ [44] _ _ (by simp)) (by have := htl.out; omega) (by have := hgr.out; simp; omega) ?_); intro v4 w4 ho4 hf4)
      case' pos =>
        have ho5 := ho.to (hw0.out _ (.cells #[.int .i64 xk, .string xs, .int .u64 xn, .slice xa xl xc, .slice xb xm xd] 30)).1
        have hA5 := hA.fr (hw0.out _ (.cells #[.int .i64 xk, .string xs, .int .u64 xn, .slice xa xl xc, .slice xb xm xd] 30)) hne.out
        have hX5 := Arr.new wr 30 [.int .i64 xk, .string xs, .int .u64 xn, .slice xa xl xc, .slice xb xm xd]
        have hf5 := (hw0.out wr (.cells #[.int .i64 xk, .string xs, .int .u64 xn, .slice xa xl xc, .slice xb xm xd] 30)).mono hgr.out
        have hsep : Hid (T0 = (bl ++ fst :: partF k l ks m) ++ (if m = 0 then [] else [44])) := by show _ = _; rw [if_pos HM0.out, HT.out]; simp
        have hlen5 : Hid (T0.length + 2 * most ≤ 1048599) := by show _ ≤ _; have := htl.out; omega
        obtain ⟨T1, rfl⟩ : ∃ T1, T1 = T0 := ⟨_, rfl⟩
      case' neg =>
        have hX5 := ((Arr.new wr 30 [.int .i64 xk, .string xs, .int .u64 xn, .slice xa xl xc, .slice xb xm xd]).fr (hw0.out _ (.cells #[.int .u8 44] 5)) hne.out).fr hf4 hne.out
        have hA5 := ((hA.fr (hw0.out _ (.cells #[.int .i64 xk, .string xs, .int .u64 xn, .slice xa xl xc, .slice xb xm xd] 30)) hne.out).fr (hw0.out _ (.cells #[.int .u8 44] 5)) hne.out).fr hf4 hne.out
        have hf5 := ((hw0.out wr (.cells #[.int .i64 xk, .string xs, .int .u64 xn, .slice xa xl xc, .slice xb xm xd] 30)).mono hgr.out).trans (((hw0.out _ (.cells #[.int .u8 44] 5)).mono (by simp; have := hgr.out; omega)).trans hf4)
        have ho5 := ho4
        have hsep : Hid (T0 ++ [44] = (bl ++ fst :: partF k l ks m) ++ (if m = 0 then [] else [44])) := by show _ = _; rw [if_neg hm0, HT.out]
        have hlen5 : Hid ((T0 ++ [44]).length + 2 * most ≤ 1048599) := by show _ ≤ _; have h1 := hT0.out (by omega); have := HM8.out; rw [List.length_append, List.length_singleton]; omega
        obtain ⟨T1, hT1⟩ : ∃ T1, T1 = T0 ++ [44] := ⟨_, rfl⟩
        rw [← hT1] at ho5 hsep hlen5
        clear ho4 hf4 hT1
      all_goals
        have hF5 := hF.out.trans hf5
        have c5 := (hA5.cell 0).trans (show _ = some (Value.int .i64 k) from rfl)
        clear ho hA hF hf5 qc0 qc1 qc2 qc3 qc4 hmi
        rcases HK.out with rfl | rfl
      case' pos.inl | neg.inl =>
        have hs6 : Hid (T1 = (bl ++ fst :: partF 5 l ks m) ++ sepF 5 ks m) := by show _ = _; rw [hsep.out]; simp [sepF]
        have hend : Hid (T1 ++ plainF x = bl ++ fst :: partF 5 l ks (m + 1)) := by show _ = _; rw [hs6.out, ← hxd.out, partF]; simp
        have hl6 : Hid (T1.length + 2 * most ≤ 1048600) := by show _ ≤ _; have := hlen5.out; omega
        go_upto_region 13 with fail
        have ho6 := ho5
        have hX6 := hX5
        have hA6 := hA5
        have hF6 := hF5
        obtain ⟨T2, rfl⟩ : ∃ T2, T2 = T1 := ⟨_, rfl⟩
        clear hX5 hA5 hF5 ho5
      case' pos.inr | neg.inr =>
        have hkb : m < ks.length := by rw [HKL.out rfl]; exact hlt
        have hbw5 := HB0.out.trans hF5.1
        obtain ⟨kb, ko, rfl, hkb1, hkc⟩ := (HRK.out _ hbw5).mem (by omega)
        have ck := hkc m hkb
        have hmd : m < d := by have := (HRK.out _ hbw5).le; omega
        have hkm : ks.getD m [] ∈ ks := by rw [List.getD, List.getElem?_eq_getElem hkb]; simp
        have hkl := HKS.out _ hkm
        have hse : Hid (sepF 6 ks m = (if m = 0 then [] else [44]) ++ (wordF (ks.getD m []) ++ [58])) := by show _ = _; simp [sepF]
        generalize hke : ks.getD m [] = key at ck hkl hse
        have HKE := Lib.hid hke
        clear hkc hkm hke hkb1
        have c6 := (hA5.cell 4).trans (show _ = some (Value.slice (some ⟨kb, ko, none⟩) ks.length d) from rfl)
        have hg5 : Hid (g ≤ _) := Nat.le_trans hgw.out hF5.1.size
        have hps := putString_any T1 _ g key _ ho5 hg5.out (by have := hlen5.out; omega) hkl
        have hlen6 := hlen5.out
        by_cases hfit : (T1 ++ wordF key).length ≤ 1048576
        rotate_left
        · have hps2 := hps.mono (fun e w' h => h.no hfit)
          have hbig : Hid (¬ total.length ≤ 1048576) := by
            show ¬ _
            have h1 := hmo.out
            have h2 := hse.out
            rw [h2] at h1
            rw [hsep.out] at hfit
            simp only [List.length_append, List.length_cons] at h1 hfit
            omega
          clear hps hfit hlen6
          go_wp2_with (go_at_call 36; go_loud (refine hps2.mono ?_); rintro e w7 ⟨v7, rfl, hf7⟩)
          go_ret2
          exact ⟨.slice none 0 0, by rw [decide_eq_false hbig.out]; rfl, fun h => absurd h hbig.out, hF5.trans hf7⟩
        have hps2 := hps.mono (fun e w' h => h.ok hfit)
        clear hps
        go_upto_region 12 with (go_at_call 36; go_loud (refine hps2.mono ?_); rintro e w7 ⟨v7, rfl, ho7, hf7⟩)
        have hg7 : Hid (g ≤ w7.heap.size) := Nat.le_trans hgw.out (hF5.trans hf7).1.size
        go_upto_region 13 with ((with_reducible show wpList _ _ _ (⟨some 45, _, _, _, _, _⟩ :: _) _ _); go_loud (refine wl_append_k bt rfl (.tmp 43) (.tmp 44) rfl g _ _ (ho7.to (hw0.out _ _).1) rfl _ 1 1 [58] rfl (rd_lit _ [58] _) (by omega) (by have := hg7.out; simp; omega) ?_); intro v8 w8 ho8 hf8)
        have hs6 : Hid (T1 ++ wordF key ++ [58] = (bl ++ fst :: partF 6 l ks m) ++ sepF 6 ks m) := by show _ = _; rw [hse.out, hsep.out]; simp
        have hend : Hid (T1 ++ wordF key ++ [58] ++ plainF x = bl ++ fst :: partF 6 l ks (m + 1)) := by show _ = _; rw [hs6.out, ← hxd.out, partF]; simp
        have hl6 : Hid ((T1 ++ wordF key ++ [58]).length + 2 * most ≤ 1048600) := by show _ ≤ _; have := HM8.out; rw [List.length_append, List.length_singleton]; omega
        have ho6 := ho8
        have hX6 := ((hX5.fr hf7 hne.out).fr (hw0.out _ (.cells #[.int .u8 58] 5)) hne.out).fr hf8 hne.out
        have hA6 := ((hA5.fr hf7 hne.out).fr (hw0.out _ (.cells #[.int .u8 58] 5)) hne.out).fr hf8 hne.out
        have hF6 := (hF5.trans hf7).trans (((hw0.out _ (.cells #[.int .u8 58] 5)).mono hg7.out).trans hf8)
        obtain ⟨T2, hT2⟩ : ∃ T2, T2 = T1 ++ wordF key ++ [58] := ⟨_, rfl⟩
        rw [← hT2] at ho6 hs6 hl6 hend
        clear hT2 hX5 hA5 hF5 ho5 ho8 hf8 ho7 hf7 hps2
      all_goals
        have x0 := (hX6.cell 0).trans (show _ = some (Value.int .i64 xk) from rfl)
        have x1 := (hX6.cell 1).trans (show _ = some (Value.string xs) from rfl)
        have x2 := (hX6.cell 2).trans (show _ = some (Value.int .u64 xn) from rfl)
        have x3 := (hX6.cell 3).trans (show _ = some (Value.slice xa xl xc) from rfl)
        have x4 := (hX6.cell 4).trans (show _ = some (Value.slice xb xm xd) from rfl)
        have hps := hcall.out _ _ _ (HB0.out.trans hF6.1) ho6 hl6.out
        by_cases hfit : (T2 ++ plainF x).length ≤ 1048576
        rotate_left
        · have hps2 := hps.mono (fun e w' h => h.no hfit)
          have hbig : Hid (¬ total.length ≤ 1048576) := by
            show ¬ _
            have h1 := hmo.out
            rw [hxd.out] at h1
            rw [hs6.out] at hfit
            simp only [List.length_append, List.length_cons] at h1 hfit
            omega
          clear hps hfit
          go_wp2_with (go_at_call 23; go_loud (refine hps2.mono ?_); rintro e w9 ⟨v9, rfl, hf9⟩)
          go_ret2
          exact ⟨.slice none 0 0, by rw [decide_eq_false hbig.out]; rfl, fun h => absurd h hbig.out, hF6.trans hf9⟩
        have hps2 := hps.mono (fun e w' h => h.ok hfit)
        have HFIT := Lib.hid hfit
        clear hps hfit
        go_wp2_with (go_at_call 23; go_loud (refine hps2.mono ?_); rintro e w9 ⟨v9, rfl, ho9, hf9⟩)
        have hA9 := hA6.fr hf9 hne.out
        rw [hend.out] at ho9
        go_roundw
        case rel => exact ⟨m + 1, by omega, by go_num, ho9, hA9, hF6.trans hf9, fun _ => hend.out ▸ HFIT.out⟩
        case measure => simp [intOf]; omega
    · have hc : ¬ (m : Int) < (l.length : Int) := by omega
      have hml : m = l.length := by omega
      have q0 := (hA.cell 0).trans (show _ = some (Value.int .i64 k) from rfl)
      have hF9 : Hid (total = bl ++ fst :: partF k l ks m ++ [lst]) := by show _ = _; rw [HTOT.out, hml]; simp
      have hlb : Hid ((bl ++ fst :: partF k l ks m).length ≤ 1048700) := by
        show _ ≤ _
        rcases Nat.eq_zero_or_pos m with h0 | h0
        · have := HBL.out
          rw [h0]
          simp [partF]
          omega
        · have := hT0.out h0
          omega
      clear hml hm hlt
      generalize hT : bl ++ fst :: partF k l ks m = T0 at ho hF9 hlb hT0
      go_wp2_with (first
        | (go_at_call 50; go_loud (refine (hlast.out _).mono ?_); rintro e w7 ⟨rfl, rfl⟩)
        | ((with_reducible show wpList _ _ _ (⟨some 60, _, _, _, _, _⟩ :: _) _ _); go_loud (refine wl_append_k bt rfl (.tmp 55) (.tmp 59) rfl g _ _ (ho.to (hw0.out _ _).1) rfl _ 1 1 [lst] rfl (rd_one _ lst _ _ rfl) (by have := hlb.out; omega) (by have := hgr.out; simp; omega) ?_); intro v8 w8 ho8 hf8; obtain ⟨a8, c8, rfl, -⟩ := ho8.shape))
      go_ret2
      rw [← hF9.out] at ho8
      refine ⟨_, ?_, fun _ => ho8, hF.out.trans (((hw0.out _ _).mono hgr.out).trans hf8)⟩
      rw [hF9.out]
      simp
      omega
end Go.Proofs.YtiadfijeglbdlaaDoor

namespace Go.Proofs.YtiadfijeglbdlaaDoor
open Go.RowKit

/-- nothing that its kind has not -/
def fitsB (k : Int) (n sl ll kl : Nat) : Bool :=
  decide (0 ≤ k) && decide (k ≤ 6) && (decide (n = 0) || decide (k = 3)) && (decide (sl = 0) || decide (k = 4)) && (decide (ll = 0) || (decide (k = 5) || decide (k = 6))) && (decide (kl = 0) || decide (k = 6))

set_option maxRecDepth 100000 in
set_option maxHeartbeats 4000000 in
theorem fitsKind_any (k : Int) (s : List UInt8) (n ll lc kl kc : Nat) (a b : Option Addr) (w : World) :
    Calls Tryd.prog 42 #[.agg #[.int .i64 k, .string (bstr s), .int .u64 (n : Int), .slice a ll lc, .slice b kl kc]] w
      fun e w' => e = .returned (.bool (fitsB k n s.length ll kl)) ∧ Below w.heap.size w w' := by
  have hE : (bstr s).toList.isEmpty = decide (s.length = 0) := by rw [bstr_toList]; cases s <;> simp
  have hk : (k < 0 ∨ 6 < k ∨ k = 0) ∨ (k = 1 ∨ k = 2 ∨ k = 3) ∨ (k = 4 ∨ k = 5 ∨ k = 6) := by omega
  generalize bstr s = S at *
  generalize s.length = sl at *
  rcases hk with (hk | hk | rfl) | (rfl | rfl | rfl) | (rfl | rfl | rfl)
  · have h1 : ¬ 0 ≤ k := by omega
    have hr : fitsB k n sl ll kl = false := by unfold fitsB; rw [decide_eq_false h1]; rfl
    rw [hr]
    clear hr hE
    go_enter Tryd.func42, Tryd.ntmps42
    go_wp2
    go_ret
    exact ⟨rfl, (Below.refl _ _).alloc (Nat.le_refl _) _⟩
  · have h1 : ¬ k ≤ 6 := by omega
    have h0 : 0 ≤ k := by omega
    have hr : fitsB k n sl ll kl = false := by unfold fitsB; rw [decide_eq_false h1]; simp
    rw [hr]
    clear hr hE
    go_enter Tryd.func42, Tryd.ntmps42
    go_wp2
    go_ret
    exact ⟨rfl, (Below.refl _ _).alloc (Nat.le_refl _) _⟩
  · go_enter Tryd.func42, Tryd.ntmps42
    go_wp2
    all_goals
      go_ret
      exact ⟨congrArg (fun x => Ending.returned (.bool x)) (by unfold fitsB; simp [*] <;> omega), (Below.refl _ _).alloc (Nat.le_refl _) _⟩
  · go_enter Tryd.func42, Tryd.ntmps42
    go_wp2
    all_goals
      go_ret
      exact ⟨congrArg (fun x => Ending.returned (.bool x)) (by unfold fitsB; simp [*] <;> omega), (Below.refl _ _).alloc (Nat.le_refl _) _⟩
  · go_enter Tryd.func42, Tryd.ntmps42
    go_wp2
    all_goals
      go_ret
      exact ⟨congrArg (fun x => Ending.returned (.bool x)) (by unfold fitsB; simp [*] <;> omega), (Below.refl _ _).alloc (Nat.le_refl _) _⟩
  · go_enter Tryd.func42, Tryd.ntmps42
    go_wp2
    all_goals
      go_ret
      exact ⟨congrArg (fun x => Ending.returned (.bool x)) (by unfold fitsB; simp [*] <;> omega), (Below.refl _ _).alloc (Nat.le_refl _) _⟩
  · go_enter Tryd.func42, Tryd.ntmps42
    go_wp2
    all_goals
      go_ret
      exact ⟨congrArg (fun x => Ending.returned (.bool x)) (by unfold fitsB; simp [*] <;> omega), (Below.refl _ _).alloc (Nat.le_refl _) _⟩
  · go_enter Tryd.func42, Tryd.ntmps42
    go_wp2
    all_goals
      go_ret
      exact ⟨congrArg (fun x => Ending.returned (.bool x)) (by unfold fitsB; simp [*] <;> omega), (Below.refl _ _).alloc (Nat.le_refl _) _⟩
  · go_enter Tryd.func42, Tryd.ntmps42
    go_wp2
    all_goals
      go_ret
      exact ⟨congrArg (fun x => Ending.returned (.bool x)) (by unfold fitsB; simp [*] <;> omega), (Below.refl _ _).alloc (Nat.le_refl _) _⟩
end Go.Proofs.YtiadfijeglbdlaaDoor

namespace Go.Proofs.YtiadfijeglbdlaaDoor
open Go.RowKit

/-- a block of plain cells -/
def PlainB (w : World) (b : Nat) : Prop := ∃ cs T, w.heap[b]? = some (.cells cs T (0, 0))
/-- a pointer that may be compared -/
def PtrOK (w : World) (p : Option Addr) : Prop := p = none ∨ ∃ b off, p = some ⟨b, off, none⟩ ∧ PlainB w b

theorem eq_ptr (w : World) (d : Nat) (p q : Option Addr) (hp : PtrOK w p) (hq : PtrOK w q) :
    (Op.equalIn (d + 1) 78 (.pointer p) (.pointer q)).run Tryd.prog w = .ok (decide (p = q)) w := by
  rcases hp with rfl | ⟨b, off, rfl, cs, T, hb⟩
  · simp [Op.equalIn, run_underlying Tryd.underlying78]
    cases q <;> rfl
  · rcases hq with rfl | ⟨b', off', rfl, cs', T', hb'⟩
    · simp [Op.equalIn, run_underlying Tryd.underlying78]
    · have hs : (sizeOf 30).run Tryd.prog w = .ok 5 w := by kernel_rfl
      have key : (sameAddr ⟨b, off, none⟩ ⟨b', off', none⟩).run Tryd.prog w = .ok (decide ((⟨b, off, none⟩ : Addr) = ⟨b', off', none⟩)) w := by
        by_cases e : (⟨b, off, none⟩ : Addr) = ⟨b', off', none⟩
        · rw [e, run_sameAddr_same]; simp
        · rw [run_sameAddr_other w e hb hb', decide_eq_false e]
      simp [Op.equalIn, run_underlying Tryd.underlying78, hs, key]
set_option maxRecDepth 100000 in
theorem eq_place (w : World) (d : Nat) (p q : Option Addr) (n m : Int) (hp : PtrOK w p) (hq : PtrOK w q) :
    (Op.equalIn (d + 2) 80 (.agg #[.pointer p, .int .i64 n]) (.agg #[.pointer q, .int .i64 m])).run Tryd.prog w = .ok (decide (p = q) && decide (n = m)) w := by
  rw [run_equalIn_struct w (d + 1) 80 _ _ (by kernel_rfl) (by kernel_rfl)]
  have hf : ∃ f g : Field, (Tryd.prog.fieldsOf 80).toList = [f, g] ∧ f.name = "first" ∧ f.type = 78 ∧ f.offset = 0 ∧ g.name = "count" ∧ g.type = 3 ∧ g.offset = 1 := ⟨_, _, rfl, rfl, rfl, rfl, rfl, rfl, rfl⟩
  obtain ⟨f, g, hf, f1, f2, f3, g1, g2, g3⟩ := hf
  rw [hf]
  have p1 : ∀ xs : Array Value, ∀ v, xs[0]? = some v → (part 78 xs 0).run Tryd.prog w = .ok v w := fun xs v h => by
    have : (isAgg 78).run Tryd.prog w = .ok false w := by kernel_rfl
    simp [part, this, h]
  have p2 : ∀ xs : Array Value, ∀ v, xs[1]? = some v → (part 3 xs 1).run Tryd.prog w = .ok v w := fun xs v h => by
    have : (isAgg 3).run Tryd.prog w = .ok false w := by kernel_rfl
    simp [part, this, h]
  have e1 := eq_ptr w d p q hp hq
  have e2 := run_equalIn_int (P := Tryd.prog) w d 3 .i64 .i64 n m Tryd.underlying3
  simp [Op.eqFields, f1, f2, f3, g1, g2, g3, p1 #[.pointer p, .int .i64 n] (Value.pointer p) rfl, p1 #[.pointer q, .int .i64 m] (Value.pointer q) rfl, p2 #[.pointer p, .int .i64 n] (Value.int .i64 n) rfl, p2 #[.pointer q, .int .i64 m] (Value.int .i64 m) rfl, e1, e2]
  by_cases h : p = q <;> simp [h]
  by_cases h' : n = m <;> simp [h']
set_option maxRecDepth 100000 in
theorem eq_deep (w : World) (d : Nat) (p q : Option Addr) (n m i j : Int) (hp : PtrOK w p) (hq : PtrOK w q) :
    (Op.equalIn (d + 3) 98 (.agg #[.pointer p, .int .i64 n, .int .i64 i]) (.agg #[.pointer q, .int .i64 m, .int .i64 j])).run Tryd.prog w = .ok (decide (p = q) && decide (n = m) && decide (i = j)) w := by
  rw [run_equalIn_struct w (d + 2) 98 _ _ (by kernel_rfl) (by kernel_rfl)]
  have hf : ∃ f g : Field, (Tryd.prog.fieldsOf 98).toList = [f, g] ∧ f.name = "list" ∧ f.type = 80 ∧ f.offset = 0 ∧ g.name = "depth" ∧ g.type = 3 ∧ g.offset = 2 := ⟨_, _, rfl, rfl, rfl, rfl, rfl, rfl, rfl⟩
  obtain ⟨f, g, hf, f1, f2, f3, g1, g2, g3⟩ := hf
  rw [hf]
  have p1 : ∀ x y z : Value, (part 80 #[x, y, z] 0).run Tryd.prog w = .ok (.agg #[x, y]) w := fun x y z => by
    have h1 : (isAgg 80).run Tryd.prog w = .ok true w := by kernel_rfl
    simp [part, h1]
  have p2 : ∀ x y z : Value, (part 3 #[x, y, z] 2).run Tryd.prog w = .ok z w := fun x y z => by
    have : (isAgg 3).run Tryd.prog w = .ok false w := by kernel_rfl
    simp [part, this]
  have e1 := eq_place w d p q n m hp hq
  have e2 := run_equalIn_int (P := Tryd.prog) w (d + 1) 3 .i64 .i64 i j Tryd.underlying3
  simp [Op.eqFields, f1, f2, f3, g1, g2, g3, p1, p2, e1, e2]
  by_cases h : p = q <;> simp [h]
  by_cases h' : n = m <;> simp [h']
  by_cases h' : i = j <;> simp [h']
set_option maxRecDepth 100000 in
theorem eq_both (w : World) (d : Nat) (p q p' q' : Option Addr) (n m n' m' : Int) (hp : PtrOK w p) (hq : PtrOK w q) (hp' : PtrOK w p') (hq' : PtrOK w q') :
    (Op.equalIn (d + 3) 82 (.agg #[.pointer p, .int .i64 n, .pointer p', .int .i64 n']) (.agg #[.pointer q, .int .i64 m, .pointer q', .int .i64 m'])).run Tryd.prog w = .ok ((decide (p = q) && decide (n = m)) && (decide (p' = q') && decide (n' = m'))) w := by
  have hi : ∃ i, Tryd.prog.info? 80 = some i := ⟨_, rfl⟩
  obtain ⟨i, hi⟩ := hi
  have hc : Tryd.prog.cellsOf 80 = 2 := by kernel_rfl
  rw [run_equalIn_array w (d + 2) _ _ Tryd.underlying82 hi, hc]
  have h1 : (isAgg 80).run Tryd.prog w = .ok true w := by kernel_rfl
  have p1 : ∀ x y z t : Value, (part 80 #[x, y, z, t] 0).run Tryd.prog w = .ok (.agg #[x, y]) w := fun x y z t => by
    simp [part, h1]
  have p2 : ∀ x y z t : Value, (part 80 #[x, y, z, t] 2).run Tryd.prog w = .ok (.agg #[z, t]) w := fun x y z t => by
    simp [part, h1]
  have e1 := eq_place w d p q n m hp hq
  have e2 := eq_place w d p' q' n' m' hp' hq'
  simp [Op.eqItems, List.range, List.range.loop, p1, p2, e1, e2]
  by_cases h : p = q <;> simp [h]
  by_cases h' : n = m <;> simp [h']
  by_cases h : p' = q' <;> simp [h]
  by_cases h' : n' = m' <;> simp [h']

/-- keys of a map that the walk can compare -/
structure KeyOK (K : TypeId) (G : World → Value → Prop) : Prop where
  check : ∀ w a e, G w a → (Instr.checkKey e 10000 K a).run Tryd.prog w = .ok () w
  find : ∀ w x es, G w x → (∀ e ∈ es, G w e.key) → ((Instr.findKey K x es).run Tryd.prog w = .ok none w ∧ ∀ e ∈ es, e.key ≠ x) ∨
    ∃ j e, (Instr.findKey K x es).run Tryd.prog w = .ok (some (j, e.val)) w ∧ es[j]? = some e ∧ e.key = x ∧ ∀ i f, i < j → es[i]? = some f → f.key ≠ x
  stays : ∀ w a, G w a → (Instr.keyThatStays a a).run Tryd.prog w = .ok a w
  kept : ∀ w w' a, (∀ b, PlainB w b → PlainB w' b) → G w a → G w' a

theorem ask_ok {K : TypeId} {G : World → Value → Prop} (heq : ∀ w a b, G w a → G w b → ∃ r : Bool, (Op.equal K a b).run Tryd.prog w = .ok r w ∧ (r = true ↔ b = a)) (w : World) (x : Value) (hx : G w x) :
    ∀ (es : List MapEntry) (i : Nat), (∀ e ∈ es, G w e.key) →
      ((Instr.findAsking K x es i).run Tryd.prog w = .ok none w ∧ ∀ e ∈ es, e.key ≠ x) ∨
      ∃ j e, (Instr.findAsking K x es i).run Tryd.prog w = .ok (some (i + j, e.val)) w ∧ es[j]? = some e ∧ e.key = x ∧ ∀ k f, k < j → es[k]? = some f → f.key ≠ x
  | [], i, _ => Or.inl ⟨by simp [Instr.findAsking], by simp⟩
  | e :: es, i, hall => by
    obtain ⟨r, hr, hiff⟩ := heq w x e.key hx (hall e (by simp))
    cases r
    · have hne : e.key ≠ x := fun h => by have := hiff.2 h; cases this
      rcases ask_ok heq w x hx es (i + 1) (fun y hy => hall y (by simp [hy])) with ⟨h1, h2⟩ | ⟨j, e', h1, h2, h3, h4⟩
      · left
        refine ⟨by simp [Instr.findAsking, hr, h1], fun y hy => ?_⟩
        rcases List.mem_cons.1 hy with rfl | hy
        · exact hne
        · exact h2 y hy
      · right
        refine ⟨j + 1, e', by simp [Instr.findAsking, hr, h1, Nat.add_assoc, Nat.add_comm 1 j], by simpa using h2, h3, fun k f hk hf => ?_⟩
        cases k with
        | zero => simp at hf; subst hf; exact hne
        | succ k => exact h4 k f (by omega) (by simpa using hf)
    · right
      exact ⟨0, e, by simp [Instr.findAsking, hr], rfl, hiff.1 rfl, fun k f hk => by omega⟩

def GPlace (w : World) (a : Value) : Prop := ∃ p n, a = .agg #[.pointer p, .int .i64 n] ∧ PtrOK w p
def GDeep (w : World) (a : Value) : Prop := ∃ p n d, a = .agg #[.pointer p, .int .i64 n, .int .i64 d] ∧ PtrOK w p
def GBoth (w : World) (a : Value) : Prop := ∃ p n q m, a = .agg #[.pointer p, .int .i64 n, .pointer q, .int .i64 m] ∧ PtrOK w p ∧ PtrOK w q
theorem PtrOK.kept {w w' : World} (h : ∀ b, PlainB w b → PlainB w' b) {p : Option Addr} (hp : PtrOK w p) : PtrOK w' p := by
  rcases hp with rfl | ⟨b, off, rfl, hb⟩
  · exact .inl rfl
  · exact .inr ⟨b, off, rfl, h b hb⟩

theorem bits_agg (cs : Array Value) (h : ∀ x ∈ cs.toList, ∀ n, Instr.sameBits n x x = true) (w : World) : (Instr.keyThatStays (.agg cs) (.agg cs)).run Tryd.prog w = .ok (.agg cs) w := by
  have : Instr.sameBits 10000 (.agg cs) (.agg cs) = true := by
    show (cs.size == cs.size && (cs.toList.zip cs.toList).all fun (x, y) => Instr.sameBits 9999 x y) = true
    rw [beq_self_eq_true, Bool.true_and, List.all_eq_true]
    rintro ⟨x, y⟩ hxy
    obtain ⟨i, hi⟩ := List.mem_iff_getElem?.1 hxy
    rw [List.getElem?_zip_eq_some] at hi
    obtain ⟨h1, h2⟩ := hi
    rw [h1] at h2
    cases h2
    exact h x (List.mem_of_getElem? h1) 9999
  simp [Instr.keyThatStays, this]

theorem check_ptr (w : World) (e : Bool) (d : Nat) (p : Option Addr) : (Instr.checkKey e (d + 1) 78 (.pointer p)).run Tryd.prog w = .ok () w := by
  simp [Instr.checkKey, run_underlying Tryd.underlying78]
theorem check_int (w : World) (e : Bool) (d : Nat) (n : Int) : (Instr.checkKey e (d + 1) 3 (.int .i64 n)).run Tryd.prog w = .ok () w := by
  simp [Instr.checkKey, run_underlying Tryd.underlying3]
theorem part_ptr (w : World) (xs : Array Value) (i : Nat) (v : Value) (h : xs[i]? = some v) : (part 78 xs i).run Tryd.prog w = .ok v w := by
  have : (isAgg 78).run Tryd.prog w = .ok false w := by kernel_rfl
  simp [part, this, h]
theorem part_int (w : World) (xs : Array Value) (i : Nat) (v : Value) (h : xs[i]? = some v) : (part 3 xs i).run Tryd.prog w = .ok v w := by
  have : (isAgg 3).run Tryd.prog w = .ok false w := by kernel_rfl
  simp [part, this, h]
theorem part_place (w : World) (xs : Array Value) (i : Nat) (v : Array Value) (h : xs.extract i (i + 2) = v) : (part 80 xs i).run Tryd.prog w = .ok (.agg v) w := by
  have h1 : (isAgg 80).run Tryd.prog w = .ok true w := by kernel_rfl
  simp [part, h1, h]
theorem check_place (w : World) (e : Bool) (d : Nat) (p : Option Addr) (n : Int) : (Instr.checkKey e (d + 2) 80 (.agg #[.pointer p, .int .i64 n])).run Tryd.prog w = .ok () w := by
  simp [Instr.checkKey, run_underlying Tryd.underlying80, part_ptr w _ 0 (.pointer p), part_int w _ 1 (.int .i64 n)]
theorem check_deep (w : World) (e : Bool) (d : Nat) (p : Option Addr) (n i : Int) : (Instr.checkKey e (d + 3) 98 (.agg #[.pointer p, .int .i64 n, .int .i64 i])).run Tryd.prog w = .ok () w := by
  have h := check_place w e d p n
  have h2 := check_int w e (d + 1) i
  have p1 := part_place w #[.pointer p, .int .i64 n, .int .i64 i] 0 #[.pointer p, .int .i64 n] (by simp)
  have p2 := part_int w #[.pointer p, .int .i64 n, .int .i64 i] 2 (.int .i64 i) (by simp)
  rw [Instr.checkKey]
  simp only [Sem.run_bind, run_underlying Tryd.underlying98, Result.andThen_ok]
  simp [p1, p2, h, h2]
theorem check_both (w : World) (e : Bool) (d : Nat) (p q : Option Addr) (n m : Int) : (Instr.checkKey e (d + 3) 82 (.agg #[.pointer p, .int .i64 n, .pointer q, .int .i64 m])).run Tryd.prog w = .ok () w := by
  have h := check_place w e d p n
  have h2 := check_place w e d q m
  have p1 := part_place w #[.pointer p, .int .i64 n, .pointer q, .int .i64 m] 0 #[.pointer p, .int .i64 n] (by simp)
  have p2 := part_place w #[.pointer p, .int .i64 n, .pointer q, .int .i64 m] 2 #[.pointer q, .int .i64 m] (by simp)
  have hs : (sizeOf 80).run Tryd.prog w = .ok 2 w := by kernel_rfl
  rw [Instr.checkKey]
  simp only [Sem.run_bind, run_underlying Tryd.underlying82, Result.andThen_ok]
  simp [Std.Legacy.Range.forIn_eq_forIn_range', Std.Legacy.Range.size, List.range', hs, p1, p2, h, h2]

def GStr (_ : World) (a : Value) : Prop := ∃ s, a = .string s
theorem check_str (w : World) (e : Bool) (d : Nat) (s : ByteArray) : (Instr.checkKey e (d + 1) 9 (.string s)).run Tryd.prog w = .ok () w := by
  simp [Instr.checkKey, run_underlying Tryd.underlying9]
theorem str_ok : KeyOK 9 GStr where
  check := by
    rintro w _ e ⟨s, rfl⟩
    exact check_str w e 9999 s
  find := by
    intro w x es hx hes
    obtain ⟨s, rfl⟩ := hx
    have key : ∀ (es : List MapEntry) (i : Nat), (∀ e ∈ es, GStr w e.key) → (Instr.findNow .string (.string s) es i = some none ∧ ∀ e ∈ es, e.key ≠ .string s) ∨
        ∃ j e, Instr.findNow .string (.string s) es i = some (some (i + j, e.val)) ∧ es[j]? = some e ∧ e.key = .string s ∧ ∀ k f, k < j → es[k]? = some f → f.key ≠ .string s := by
      intro es
      induction es with
      | nil => intro i _; exact .inl ⟨rfl, by simp⟩
      | cons e es ih =>
        intro i hall
        obtain ⟨t, ht⟩ := hall e (by simp)
        by_cases hst : s = t
        · exact .inr ⟨0, e, by have hb : (s == t) = true := (MapKept.bytes_beq s t).2 hst; simp [Instr.findNow, Instr.sameNow, ht, hb], rfl, by rw [ht, hst], fun k f hk => by omega⟩
        · have hb : (s == t) = false := by
            cases hh : (s == t) with
            | false => rfl
            | true => exact absurd ((MapKept.bytes_beq s t).1 hh) hst
          have hne : e.key ≠ .string s := by rw [ht]; intro h; cases h; exact hst rfl
          rcases ih (i + 1) (fun y hy => hall y (by simp [hy])) with ⟨h1, h2⟩ | ⟨j, e', h1, h2, h3, h4⟩
          · left
            refine ⟨by simp [Instr.findNow, Instr.sameNow, ht, hb, h1], fun y hy => ?_⟩
            rcases List.mem_cons.1 hy with rfl | hy
            · exact hne
            · exact h2 y hy
          · right
            refine ⟨j + 1, e', by simp [Instr.findNow, Instr.sameNow, ht, hb, h1, Nat.add_assoc, Nat.add_comm 1 j], by simpa using h2, h3, fun k f hk hf => ?_⟩
            cases k with
            | zero => simp at hf; subst hf; exact hne
            | succ k => exact h4 k f (by omega) (by simpa using hf)
    rcases key es 0 hes with ⟨h1, h2⟩ | ⟨j, e, h1, h2, h3, h4⟩
    · exact .inl ⟨MapKept.run_findKey Tryd.underlying9 h1, h2⟩
    · exact .inr ⟨j, e, MapKept.run_findKey Tryd.underlying9 (by rw [Nat.zero_add] at h1; exact h1), h2, h3, h4⟩
  stays := by
    rintro w _ ⟨s, rfl⟩
    have : Instr.sameBits 10000 (.string s) (.string s) = true := (MapKept.bytes_beq s s).2 rfl
    simp [Instr.keyThatStays, this]
  kept := fun _ _ _ _ h => h
theorem place_ok : KeyOK 80 GPlace where
  check := by
    rintro w _ e ⟨p, n, rfl, -⟩
    exact check_place w e 9998 p n
  find := by
    intro w x es hx hes
    rw [run_findKey_eq w (by kernel_rfl)]
    have := ask_ok (K := 80) (G := GPlace) (fun w a b ha hb => by
      obtain ⟨p, n, rfl, hp⟩ := ha
      obtain ⟨q, m, rfl, hq⟩ := hb
      refine ⟨_, eq_place w 9998 p q n m hp hq, ?_⟩
      simp
      exact ⟨fun ⟨h1, h2⟩ => ⟨h1.symm, h2.symm⟩, fun ⟨h1, h2⟩ => ⟨h1.symm, h2.symm⟩⟩) w x hx es 0 hes
    simpa using this
  stays := by
    rintro w _ ⟨p, n, rfl, -⟩
    exact bits_agg _ (by intro x hx k; simp at hx; rcases hx with rfl | rfl <;> simp [Instr.sameBits]) w
  kept := by
    rintro w w' _ h ⟨p, n, rfl, hp⟩
    exact ⟨p, n, rfl, hp.kept h⟩
theorem deep_ok : KeyOK 98 GDeep where
  check := by
    rintro w _ e ⟨p, n, d, rfl, -⟩
    exact check_deep w e 9997 p n d
  find := by
    intro w x es hx hes
    rw [run_findKey_eq w (by kernel_rfl)]
    have := ask_ok (K := 98) (G := GDeep) (fun w a b ha hb => by
      obtain ⟨p, n, i, rfl, hp⟩ := ha
      obtain ⟨q, m, j, rfl, hq⟩ := hb
      refine ⟨_, eq_deep w 9997 p q n m i j hp hq, ?_⟩
      simp
      exact ⟨fun ⟨⟨h1, h2⟩, h3⟩ => ⟨h1.symm, h2.symm, h3.symm⟩, fun ⟨h1, h2, h3⟩ => ⟨⟨h1.symm, h2.symm⟩, h3.symm⟩⟩) w x hx es 0 hes
    simpa using this
  stays := by
    rintro w _ ⟨p, n, d, rfl, -⟩
    exact bits_agg _ (by intro x hx k; simp at hx; rcases hx with rfl | rfl | rfl <;> simp [Instr.sameBits]) w
  kept := by
    rintro w w' _ h ⟨p, n, d, rfl, hp⟩
    exact ⟨p, n, d, rfl, hp.kept h⟩
theorem both_ok : KeyOK 82 GBoth where
  check := by
    rintro w _ e ⟨p, n, q, m, rfl, -, -⟩
    exact check_both w e 9997 p q n m
  find := by
    intro w x es hx hes
    rw [run_findKey_eq w (by kernel_rfl)]
    have := ask_ok (K := 82) (G := GBoth) (fun w a b ha hb => by
      obtain ⟨p, n, p', n', rfl, hp, hp'⟩ := ha
      obtain ⟨q, m, q', m', rfl, hq, hq'⟩ := hb
      refine ⟨_, eq_both w 9997 p q p' q' n m n' m' hp hq hp' hq', ?_⟩
      simp
      exact ⟨fun ⟨⟨h1, h2⟩, h3, h4⟩ => ⟨h1.symm, h2.symm, h3.symm, h4.symm⟩, fun ⟨h1, h2, h3, h4⟩ => ⟨⟨h1.symm, h2.symm⟩, h3.symm, h4.symm⟩⟩) w x hx es 0 hes
    simpa using this
  stays := by
    rintro w _ ⟨p, n, q, m, rfl, -, -⟩
    exact bits_agg _ (by intro x hx k; simp at hx; rcases hx with rfl | rfl | rfl | rfl <;> simp [Instr.sameBits]) w
  kept := by
    rintro w w' _ h ⟨p, n, q, m, rfl, hp, hq⟩
    exact ⟨p, n, q, m, rfl, hp.kept h, hq.kept h⟩
end Go.Proofs.YtiadfijeglbdlaaDoor

namespace Go.Proofs.YtiadfijeglbdlaaDoor
open Go.RowKit Go.ChangeMaps

/-- block B is a map of these keys and values, in the order in which they came -/
def MapR (G : World → Value → Prop) (w : World) (B : Nat) (ps : List (Value × Value)) : Prop :=
  ∃ es clock, w.heap[B]? = some (.map es clock) ∧ es.toList.map (fun e => (e.key, e.val)) = ps ∧ ∀ p ∈ ps, G w p.1

theorem MapR.lt {G : World → Value → Prop} {w : World} {B : Nat} {ps : List (Value × Value)} (h : MapR G w B ps) : B < w.heap.size := by
  obtain ⟨es, clock, h1, _⟩ := h
  exact (Array.getElem?_eq_some_iff.1 h1).1
theorem MapR.new {G : World → Value → Prop} (w : World) : MapR G (w.alloc (.map #[] 0)) w.heap.size [] := ⟨#[], 0, heap_alloc_new w _, rfl, by simp⟩
theorem plain_set {w : World} {B : Nat} {es : Array MapEntry} {clock : Nat} (hb : w.heap[B]? = some (.map es clock)) (o : Obj) (b : Nat) (h : PlainB w b) : PlainB (setBlock w B o) b := by
  obtain ⟨cs, U, hc⟩ := h
  have hne : b ≠ B := by rintro rfl; rw [hb] at hc; cases hc
  exact ⟨cs, U, ((MapKept.heap_set hb (o' := o)).2 b hne).trans hc⟩
theorem set_grown {w : World} {B : Nat} {es : Array MapEntry} {clock : Nat} (hb : w.heap[B]? = some (.map es clock)) (o : Obj) : w.grownBy (setBlock w B o) (some B) :=
  ⟨rfl, rfl, rfl, by simp [setBlock], fun k _ hne => (MapKept.heap_set hb (o' := o)).2 k (fun e => hne (by rw [e]))⟩

section
variable {G : World → Value → Prop} {K E T : TypeId} (hK : KeyOK K G) (ht : Tryd.prog.underlying T = some (.map K E))
include hK

theorem MapR.kept {w w' : World} {B : Nat} {ps : List (Value × Value)} (h : MapR G w B ps) (hb : w'.heap[B]? = w.heap[B]?) (hp : ∀ b, PlainB w b → PlainB w' b) : MapR G w' B ps := by
  obtain ⟨es, clock, h1, h2, h3⟩ := h
  exact ⟨es, clock, hb.trans h1, h2, fun p hp' => hK.kept w w' _ hp (h3 p hp')⟩
theorem MapR.below {w w' : World} {B : Nat} {ps : List (Value × Value)} (h : MapR G w B ps) (hb : Below w.heap.size w w') : MapR G w' B ps := by
  have hB : B < w.heap.size := by obtain ⟨es, clock, h1, _⟩ := h; exact (Array.getElem?_eq_some_iff.1 h1).1
  refine h.kept hK (hb.block B hB) fun b hp => ?_
  obtain ⟨cs, U, hc⟩ := hp
  exact ⟨cs, U, (hb.block b (Array.getElem?_eq_some_iff.1 hc).1).trans hc⟩


include ht
theorem look {w : World} {B : Nat} {ps : List (Value × Value)} (h : MapR G w B ps) {a z : Value} (ha : G w a) (hz : (zeroValue E).run Tryd.prog w = .ok z w) :
    ((Instr.lookup T (.map (some B)) a true).run Tryd.prog w = .ok (.tuple #[z, .bool false]) w ∧ ∀ p ∈ ps, p.1 ≠ a) ∨
    ∃ v, (a, v) ∈ ps ∧ (Instr.lookup T (.map (some B)) a true).run Tryd.prog w = .ok (.tuple #[v, .bool true]) w := by
  obtain ⟨es, clock, hb, rfl, hg⟩ := h
  have hk : ∀ e ∈ es.toList, G w e.key := fun e he => hg (e.key, e.val) (List.mem_map.2 ⟨e, he, rfl⟩)
  rcases hK.find w a es.toList ha hk with ⟨h1, h2⟩ | ⟨j, e0, h1, h2, h3, -⟩
  · refine .inl ⟨by simp [Instr.lookup, run_underlying ht, MapKept.run_getObj_map hb, hK.check w a _ ha, h1, hz, Result.andThen], fun p hp => ?_⟩
    obtain ⟨e, he, rfl⟩ := List.mem_map.1 hp
    exact h2 e he
  · refine .inr ⟨e0.val, List.mem_map.2 ⟨e0, List.mem_of_getElem? h2, by rw [h3]⟩, ?_⟩
    simp [Instr.lookup, run_underlying ht, MapKept.run_getObj_map hb, hK.check w a _ ha, h1, Result.andThen]

theorem put_new {w : World} {B : Nat} {ps : List (Value × Value)} (h : MapR G w B ps) {a v : Value} (ha : G w a) (hn : ∀ p ∈ ps, p.1 ≠ a) :
    ∃ w', (Instr.mapUpdate T (.map (some B)) a v).run Tryd.prog w = .ok () w' ∧ MapR G w' B (ps ++ [(a, v)]) ∧ w.grownBy w' (some B) ∧ w'.heap.size = w.heap.size := by
  obtain ⟨es, clock, hb, rfl, hg⟩ := h
  have hk : ∀ e ∈ es.toList, G w e.key := fun e he => hg (e.key, e.val) (List.mem_map.2 ⟨e, he, rfl⟩)
  rcases hK.find w a es.toList ha hk with ⟨h1, h2⟩ | ⟨j, e0, h1, h2, h3, -⟩
  · refine ⟨setBlock w B (.map (es.push ⟨a, v, clock⟩) (clock + 1)), by simp [Instr.mapUpdate, run_underlying ht, MapKept.run_getObj_map hb, hK.check w a _ ha, h1, MapKept.run_setObj_map _ hb, Result.andThen, setBlock], ?_, set_grown hb _, by simp [setBlock]⟩
    refine ⟨_, _, (MapKept.heap_set hb).1, by simp, fun p hp => ?_⟩
    refine hK.kept w _ _ (plain_set hb _) ?_
    rcases List.mem_append.1 hp with hp | hp
    · exact hg p hp
    · simp at hp
      rw [hp]
      exact ha
  · exact absurd h3 (hn (e0.key, e0.val) (List.mem_map.2 ⟨e0, List.mem_of_getElem? h2, rfl⟩))

theorem put_set {w : World} {B : Nat} {ps : List (Value × Value)} (h : MapR G w B ps) {a v : Value} (ha : G w a) (hv : ∀ p ∈ ps, p.2 = v) :
    ∃ w' ps', (Instr.mapUpdate T (.map (some B)) a v).run Tryd.prog w = .ok () w' ∧ MapR G w' B ps' ∧ w.grownBy w' (some B) ∧ w'.heap.size = w.heap.size ∧
      ((ps' = ps ∧ ∃ p ∈ ps, p.1 = a) ∨ (ps' = ps ++ [(a, v)] ∧ ∀ p ∈ ps, p.1 ≠ a)) := by
  by_cases hn : ∀ p ∈ ps, p.1 ≠ a
  · obtain ⟨w', h1, h2, h3, h4⟩ := put_new hK ht h (v := v) ha hn
    exact ⟨w', _, h1, h2, h3, h4, .inr ⟨rfl, hn⟩⟩
  · obtain ⟨es, clock, hb, rfl, hg⟩ := h
    have hk : ∀ e ∈ es.toList, G w e.key := fun e he => hg (e.key, e.val) (List.mem_map.2 ⟨e, he, rfl⟩)
    rcases hK.find w a es.toList ha hk with ⟨h1, h2⟩ | ⟨j, e0, h1, h2, h3, -⟩
    · exact absurd (fun p hp => by obtain ⟨e, he, rfl⟩ := List.mem_map.1 hp; exact h2 e he) hn
    · have hj : es[j]? = some e0 := by rw [← Array.getElem?_toList]; exact h2
      have hval : e0.val = v := hv (e0.key, e0.val) (List.mem_map.2 ⟨e0, List.mem_of_getElem? h2, rfl⟩)
      have hst := hK.stays w a ha
      have hmod : (es.modify j fun e => { e with key := a, val := v }) = es := by
        apply Array.ext_getElem?
        intro i
        rw [Array.getElem?_modify]
        split
        · rename_i hij
          subst hij
          rw [hj]
          simp [← h3, ← hval]
        · rfl
      refine ⟨setBlock w B (.map es clock), _, ?_, ⟨es, clock, (MapKept.heap_set hb).1, rfl, fun p hp => hK.kept w _ _ (plain_set hb _) (hg p hp)⟩, set_grown hb _, by simp [setBlock], .inl ⟨rfl, (e0.key, e0.val), List.mem_map.2 ⟨e0, List.mem_of_getElem? h2, rfl⟩, h3⟩⟩
      simp [Instr.mapUpdate, run_underlying ht, MapKept.run_getObj_map hb, hK.check w a _ ha, h1, hj, h3, hst, hmod, MapKept.run_setObj_map _ hb, Result.andThen, setBlock]

theorem drop_last {w : World} {B : Nat} {ps : List (Value × Value)} {a v : Value} (h : MapR G w B (ps ++ [(a, v)])) (ha : G w a) (hn : ∀ p ∈ ps, p.1 ≠ a) (ty : TypeId) :
    ∃ w', (Builtin.delete_ #[T, K] ty #[.map (some B), a]).run Tryd.prog w = .ok (.tuple #[]) w' ∧ MapR G w' B ps ∧ w.grownBy w' (some B) ∧ w'.heap.size = w.heap.size := by
  obtain ⟨es, clock, hb, he, hg⟩ := h
  have hk : ∀ e ∈ es.toList, G w e.key := fun e hm => hg (e.key, e.val) (by rw [← he]; exact List.mem_map.2 ⟨e, hm, rfl⟩)
  have hlen : es.size = ps.length + 1 := by have := congrArg List.length he; simpa using this
  rcases hK.find w a es.toList ha hk with ⟨h1, h2⟩ | ⟨j, e0, h1, h2, h3, h4⟩
  · have : (a, v) ∈ es.toList.map (fun e => (e.key, e.val)) := by rw [he]; simp
    obtain ⟨e, hm, hee⟩ := List.mem_map.1 this
    exact absurd (congrArg Prod.fst hee) (h2 e hm)
  · have hj : j = ps.length := by
      have hjl : j < es.toList.length := (List.getElem?_eq_some_iff.1 h2).1
      have hjl' : j < es.size := by simpa using hjl
      by_cases hlt : j < ps.length
      · have e1 : (es.toList.map (fun e => (e.key, e.val)))[j]? = some (e0.key, e0.val) := by rw [List.getElem?_map, h2]; rfl
        rw [he, List.getElem?_append_left hlt] at e1
        exact absurd h3 (hn (e0.key, e0.val) (List.mem_of_getElem? e1))
      · omega
    have hsub : (es.eraseIdxIfInBounds j).toList = es.toList.eraseIdx j := by
      unfold Array.eraseIdxIfInBounds
      rw [dif_pos (by omega)]
      simp
    have hmap : (es.eraseIdxIfInBounds j).toList.map (fun e => (e.key, e.val)) = ps := by
      rw [hsub, map_eraseIdx, he, hj]
      simp [List.eraseIdx_append_of_length_le]
    refine ⟨setBlock w B (.map (es.eraseIdxIfInBounds j) clock), by simp [Builtin.delete_, run_underlying ht, MapKept.run_getObj_map hb, hK.check w a _ ha, h1, MapKept.run_setObj_map _ hb, Result.andThen, setBlock], ⟨_, _, (MapKept.heap_set hb).1, hmap, fun p hp => hK.kept w _ _ (plain_set hb _) (hg p (by simp [hp]))⟩, set_grown hb _, by simp [setBlock]⟩
end
theorem map_len {G : World → Value → Prop} {K E T : TypeId} (ht : Tryd.prog.underlying T = some (.map K E)) {w : World} {B : Nat} {ps : List (Value × Value)} (h : MapR G w B ps) (ty : TypeId) : (Builtin.len_ #[T] ty #[.map (some B)]).run Tryd.prog w = .ok (.int .i64 (ps.length : Int)) w := by
  obtain ⟨es, clock, hb, rfl, hg⟩ := h
  simp [Builtin.len_, run_underlying ht, MapKept.run_getObj_map hb, goInt, Result.andThen]

/-! at the operations -/
section
variable {G : World → Value → Prop} {K E T : TypeId} (hK : KeyOK K G) (ht : Tryd.prog.underlying T = some (.map K E)) {w : World} {ops : Array Oper} {rest : List Oper} {o : Oper} {a : Act} {Q : Exit → Act → World → Prop}
include hK ht
theorem wl_look_no (hg : o.guard = none) (m x : Operand) (hop : o.op = Op.lookup T m x true) (B : Nat) (ps : List (Value × Value)) (hm : a.eval m = .map (some B)) (hown : MapR G w B ps) (key z : Value) (hx : a.eval x = key) (hkey : G w key)
    (hz : (zeroValue E).run Tryd.prog w = .ok z w) (hn : ∀ p ∈ ps, p.1 ≠ key) (hk : wpList Tryd.prog ops Q rest (a.put o.dst (.tuple #[z, .bool false])) w) : wpList Tryd.prog ops Q (o :: rest) a w := by
  refine wpList_plain hg fun K' hK' => ?_
  rcases look hK ht hown hkey hz with ⟨h1, -⟩ | ⟨v, h1, -⟩
  · unfold Oper.wp
    simp [execOp, hop, hm, hx, h1, Result.andThen]
    exact hK' _ _ hk
  · exact absurd rfl (hn _ h1)
theorem wl_look_yes (hg : o.guard = none) (m x : Operand) (hop : o.op = Op.lookup T m x true) (B : Nat) (ps : List (Value × Value)) (hm : a.eval m = .map (some B)) (hown : MapR G w B ps) (key z u : Value) (hx : a.eval x = key) (hkey : G w key)
    (hz : (zeroValue E).run Tryd.prog w = .ok z w) (hy : ∃ p ∈ ps, p.1 = key) (hu : ∀ p ∈ ps, p.2 = u) (hk : wpList Tryd.prog ops Q rest (a.put o.dst (.tuple #[u, .bool true])) w) : wpList Tryd.prog ops Q (o :: rest) a w := by
  refine wpList_plain hg fun K' hK' => ?_
  rcases look hK ht hown hkey hz with ⟨-, h1⟩ | ⟨v, h1, h2⟩
  · obtain ⟨p, hp, e⟩ := hy
    exact absurd e (h1 p hp)
  · rw [show v = u from hu _ h1] at h2
    unfold Oper.wp
    simp [execOp, hop, hm, hx, h2, Result.andThen]
    exact hK' _ _ hk
theorem wl_put_new (hg : o.guard = none) (m x v : Operand) (hop : o.op = Op.mapUpdate T m x v) (B : Nat) (ps : List (Value × Value)) (hm : a.eval m = .map (some B)) (hown : MapR G w B ps) (key val : Value) (hx : a.eval x = key) (hv : a.eval v = val) (hkey : G w key)
    (hn : ∀ p ∈ ps, p.1 ≠ key) (hk : ∀ w', MapR G w' B (ps ++ [(key, val)]) → w.grownBy w' (some B) → w'.heap.size = w.heap.size → wpList Tryd.prog ops Q rest (a.put o.dst undef) w') : wpList Tryd.prog ops Q (o :: rest) a w := by
  refine wpList_plain hg fun K' hK' => ?_
  obtain ⟨w', h1, h2, h3, h4⟩ := put_new hK ht hown (v := val) hkey hn
  unfold Oper.wp
  simp [execOp, hop, hm, hx, hv, h1, Result.andThen]
  exact hK' _ _ (hk w' h2 h3 h4)
theorem wl_put_set (hg : o.guard = none) (m x v : Operand) (hop : o.op = Op.mapUpdate T m x v) (B : Nat) (ps : List (Value × Value)) (hm : a.eval m = .map (some B)) (hown : MapR G w B ps) (key val : Value) (hx : a.eval x = key) (hv : a.eval v = val) (hkey : G w key)
    (hu : ∀ p ∈ ps, p.2 = val) (hk : ∀ w' ps', MapR G w' B ps' → w.grownBy w' (some B) → w'.heap.size = w.heap.size → ((ps' = ps ∧ ∃ p ∈ ps, p.1 = key) ∨ (ps' = ps ++ [(key, val)] ∧ ∀ p ∈ ps, p.1 ≠ key)) → wpList Tryd.prog ops Q rest (a.put o.dst undef) w') : wpList Tryd.prog ops Q (o :: rest) a w := by
  refine wpList_plain hg fun K' hK' => ?_
  obtain ⟨w', ps', h1, h2, h3, h4, h5⟩ := put_set hK ht hown (v := val) hkey hu
  unfold Oper.wp
  simp [execOp, hop, hm, hx, hv, h1, Result.andThen]
  exact hK' _ _ (hk w' ps' h2 h3 h4 h5)
theorem wl_drop (hg : o.guard = none) (m x : Operand) (hop : o.op = Op.call { callee := Callee.builtin Builtin.delete, args := #[m, x], argTypes := #[T, K] }) (B : Nat) (ps : List (Value × Value)) (key v : Value) (hm : a.eval m = .map (some B)) (hown : MapR G w B (ps ++ [(key, v)])) (hx : a.eval x = key) (hkey : G w key)
    (hn : ∀ p ∈ ps, p.1 ≠ key) (hk : ∀ w', MapR G w' B ps → w.grownBy w' (some B) → w'.heap.size = w.heap.size → wpList Tryd.prog ops Q rest (a.put o.dst (.tuple #[])) w') : wpList Tryd.prog ops Q (o :: rest) a w := by
  refine wpList_plain hg fun K' hK' => ?_
  obtain ⟨w', h1, h2, h3, h4⟩ := drop_last hK ht hown hkey hn o.type
  unfold Oper.wp
  simp [execOp, hop, resolve, invoke, builtin, hm, hx, h1, Result.andThen]
  exact hK' _ _ (hk w' h2 h3 h4)
end
theorem wl_len {G : World → Value → Prop} {K E T : TypeId} (ht : Tryd.prog.underlying T = some (.map K E)) {w : World} {ops : Array Oper} {rest : List Oper} {o : Oper} {a : Act} {Q : Exit → Act → World → Prop} (hg : o.guard = none) (m : Operand) (hop : o.op = Op.call { callee := Callee.builtin Builtin.len, args := #[m], argTypes := #[T] }) (B : Nat) (ps : List (Value × Value)) (hm : a.eval m = .map (some B)) (hown : MapR G w B ps)
    (hk : wpList Tryd.prog ops Q rest (a.put o.dst (.int .i64 (ps.length : Int))) w) : wpList Tryd.prog ops Q (o :: rest) a w := by
  refine wpList_plain hg fun K' hK' => ?_
  unfold Oper.wp
  simp [execOp, hop, resolve, invoke, builtin, hm, map_len ht hown o.type, Result.andThen]
  exact hK' _ _ hk
end Go.Proofs.YtiadfijeglbdlaaDoor

namespace Go.Proofs.YtiadfijeglbdlaaDoor
open Go.Lib

def mK (o : Option Nat) (f : Nat → Bool) : Bool := match o with | none => false | some k => f k
theorem mK_none {o : Option Nat} (f : Nat → Bool) (h : o = none) : mK o f = false := by rw [h]; rfl
theorem mK_some {o : Option Nat} {k : Nat} (f : Nat → Bool) (h : o = some k) : mK o f = f k := by rw [h]; rfl

theorem two_all (c : UInt8) (r : List UInt8) (lo hi : Nat) (g : List UInt8 → Bool) (hlo : lo = 128) (hhi : hi = 191) (hg : ∀ d r1, r = d :: r1 → validD r1 = g r1) :
    mK (checkN (r.length + 1) (r.getD 0 0).toNat (r.getD 1 0).toNat (r.getD 2 0).toNat 2 lo hi) (fun k => validD ((c :: r).drop k)) = match (generalizing := false) r with | d :: r1 => cont d && g r1 | _ => false := by
  subst hlo; subst hhi
  match r, hg with
  | [], _ => rw [mK_none _ (by simp [checkN])]
  | d :: r1, hg =>
    have hr := hg d r1 rfl
    unfold cont
    by_cases hd : 128 ≤ d.toNat ∧ d.toNat ≤ 191
    · rw [mK_some _ (k := 2) (by unfold checkN; rw [if_pos rfl, if_neg (by simp; omega)])]
      simp [hd, hr]
    · rw [mK_none _ (by unfold checkN; rw [if_pos rfl, if_pos (by simp; omega)])]
      have : (decide (128 ≤ d.toNat) && decide (d.toNat ≤ 191)) = false := by simp; omega
      simp [this]
theorem three_all (c : UInt8) (r : List UInt8) (lo hi : Nat) (ok : Nat → Nat → Bool) (g : List UInt8 → Bool) (hok : ∀ d e : Nat, d < 256 → e < 256 → ((lo ≤ d ∧ d ≤ hi) ∧ 128 ≤ e ∧ e ≤ 191 ↔ (128 ≤ d ∧ d ≤ 191) ∧ (128 ≤ e ∧ e ≤ 191) ∧ ok d e = true)) (hg : ∀ d e r1, r = d :: e :: r1 → validD r1 = g r1) :
    mK (checkN (r.length + 1) (r.getD 0 0).toNat (r.getD 1 0).toNat (r.getD 2 0).toNat 3 lo hi) (fun k => validD ((c :: r).drop k)) = match (generalizing := false) r with | d :: e :: r1 => (cont d && cont e && ok d.toNat e.toNat) && g r1 | _ => false := by
  match r, hg with
  | [], _ => rw [mK_none _ (by simp [checkN])]
  | [d], _ => rw [mK_none _ (by simp [checkN])]
  | d :: e :: r1, hg =>
    have hr := hg d e r1 rfl
    have hk := hok d.toNat e.toNat d.toNat_lt e.toNat_lt
    unfold cont
    by_cases hd : (lo ≤ d.toNat ∧ d.toNat ≤ hi) ∧ 128 ≤ e.toNat ∧ e.toNat ≤ 191
    · rw [mK_some _ (k := 3) (by unfold checkN; rw [if_neg (by omega), if_pos rfl, if_neg (by simp; omega)])]
      obtain ⟨a1, a2, a3⟩ := hk.1 hd
      simp [a1, a2, a3, hr]
    · rw [mK_none _ (by unfold checkN; rw [if_neg (by omega), if_pos rfl, if_pos (by simp; omega)])]
      have hn := fun h => hd (hk.2 h)
      by_cases b1 : 128 ≤ d.toNat ∧ d.toNat ≤ 191
      · by_cases b2 : 128 ≤ e.toNat ∧ e.toNat ≤ 191
        · have b3 : ok d.toNat e.toNat = false := by
            cases h : ok d.toNat e.toNat
            · rfl
            · exact absurd ⟨b1, b2, h⟩ hn
          simp [b3]
        · have : (decide (128 ≤ e.toNat) && decide (e.toNat ≤ 191)) = false := by simp; omega
          simp [this]
      · have : (decide (128 ≤ d.toNat) && decide (d.toNat ≤ 191)) = false := by simp; omega
        simp [this]
theorem four_all (c : UInt8) (r : List UInt8) (lo hi : Nat) (ok : Nat → Nat → Nat → Bool) (g : List UInt8 → Bool) (hok : ∀ d e f : Nat, d < 256 → e < 256 → f < 256 → ((lo ≤ d ∧ d ≤ hi) ∧ (128 ≤ e ∧ e ≤ 191) ∧ 128 ≤ f ∧ f ≤ 191 ↔ (128 ≤ d ∧ d ≤ 191) ∧ (128 ≤ e ∧ e ≤ 191) ∧ (128 ≤ f ∧ f ≤ 191) ∧ ok d e f = true)) (hg : ∀ d e f r1, r = d :: e :: f :: r1 → validD r1 = g r1) :
    mK (checkN (r.length + 1) (r.getD 0 0).toNat (r.getD 1 0).toNat (r.getD 2 0).toNat 4 lo hi) (fun k => validD ((c :: r).drop k)) = match (generalizing := false) r with | d :: e :: f :: r1 => (cont d && cont e && cont f && ok d.toNat e.toNat f.toNat) && g r1 | _ => false := by
  match r, hg with
  | [], _ => rw [mK_none _ (by simp [checkN])]
  | [d], _ => rw [mK_none _ (by simp [checkN])]
  | [d, e], _ => rw [mK_none _ (by simp [checkN])]
  | d :: e :: f :: r1, hg =>
    have hr := hg d e f r1 rfl
    have hk := hok d.toNat e.toNat f.toNat d.toNat_lt e.toNat_lt f.toNat_lt
    unfold cont
    by_cases hd : (lo ≤ d.toNat ∧ d.toNat ≤ hi) ∧ (128 ≤ e.toNat ∧ e.toNat ≤ 191) ∧ 128 ≤ f.toNat ∧ f.toNat ≤ 191
    · rw [mK_some _ (k := 4) (by unfold checkN; rw [if_neg (by omega), if_neg (by omega), if_pos rfl, if_neg (by simp; omega)])]
      obtain ⟨a1, a2, a3, a4⟩ := hk.1 hd
      simp [a1, a2, a3, a4, hr]
    · rw [mK_none _ (by unfold checkN; rw [if_neg (by omega), if_neg (by omega), if_pos rfl, if_pos (by simp; omega)])]
      have hn := fun h => hd (hk.2 h)
      by_cases b1 : 128 ≤ d.toNat ∧ d.toNat ≤ 191
      · by_cases b2 : 128 ≤ e.toNat ∧ e.toNat ≤ 191
        · by_cases b4 : 128 ≤ f.toNat ∧ f.toNat ≤ 191
          · have b3 : ok d.toNat e.toNat f.toNat = false := by
              cases h : ok d.toNat e.toNat f.toNat
              · rfl
              · exact absurd ⟨b1, b2, b4, h⟩ hn
            simp [b3]
          · have : (decide (128 ≤ f.toNat) && decide (f.toNat ≤ 191)) = false := by simp; omega
            simp [this]
        · have : (decide (128 ≤ e.toNat) && decide (e.toNat ≤ 191)) = false := by simp; omega
          simp [this]
      · have : (decide (128 ≤ d.toNat) && decide (d.toNat ≤ 191)) = false := by simp; omega
        simp [this]

theorem valid_all : ∀ (n : Nat) (l : List UInt8), l.length ≤ n → validD l = utf8F l := by
  intro n
  induction n with
  | zero => intro l h; have : l = [] := List.eq_nil_of_length_eq_zero (by omega); subst this; simp [validD_nil, utf8F]
  | succ n ih =>
    intro l h
    match l with
    | [] => simp [validD_nil, utf8F]
    | c :: r =>
      have hc := c.toNat_lt
      rw [List.length_cons] at h
      by_cases h0 : c.toNat < 128
      · rw [validD_cons c r h0, ih r (by omega)]
        conv => rhs; unfold utf8F
        rw [if_pos h0]
      · rw [validD_lead (c :: r) (by simp) (by simp; omega)]
        conv => rhs; unfold utf8F
        rw [if_neg h0]
        show mK (checkN (r.length + 1) (r.getD 0 0).toNat (r.getD 1 0).toNat (r.getD 2 0).toNat (firstT c.toNat % 8) (accLo (firstT c.toNat / 16)) (accHi (firstT c.toNat / 16))) (fun k => validD ((c :: r).drop k)) = _
        by_cases h1 : c.toNat < 194
        · rw [if_neg (by omega), if_neg (by omega), if_neg (by omega)]
          exact mK_none _ (by simp [firstT, checkN, h0, h1])
        by_cases h2 : c.toNat < 224
        · rw [if_pos ⟨by omega, h2⟩]
          have e1 : firstT c.toNat % 8 = 2 := by simp [firstT, h0, h1, h2]
          have e2 : accLo (firstT c.toNat / 16) = 128 := by simp [firstT, accLo, h0, h1, h2]
          have e3 : accHi (firstT c.toNat / 16) = 191 := by simp [firstT, accHi, h0, h1, h2]
          rw [e1]
          exact two_all c r _ _ utf8F e2 e3 (fun d r1 e => ih r1 (by subst e; simp at h; omega))

        by_cases h3 : c.toNat = 224
        · rw [if_neg (by omega), if_pos ⟨by omega, by omega⟩]
          have e1 : firstT c.toNat % 8 = 3 := by simp [firstT, h3]
          have e2 : accLo (firstT c.toNat / 16) = 160 := by simp [firstT, accLo, h3]
          have e3 : accHi (firstT c.toNat / 16) = 191 := by simp [firstT, accHi, h3]
          rw [e1]
          refine (three_all c r _ _ (fun d e => decide (2048 ≤ 4096 * (c.toNat - 224) + 64 * (d - 128) + (e - 128)) && !(decide (55296 ≤ 4096 * (c.toNat - 224) + 64 * (d - 128) + (e - 128)) && decide (4096 * (c.toNat - 224) + 64 * (d - 128) + (e - 128) < 57344))) utf8F ?_ (fun d e r1 e' => ih r1 (by subst e'; simp at h; omega))).trans ?_
          · intro d e hd he
            rw [e2, e3]
            simp only [Bool.and_eq_true, Bool.not_eq_true', Bool.and_eq_false_iff, decide_eq_true_eq, decide_eq_false_iff_not]
            constructor
            · rintro ⟨⟨a1, a2⟩, a3, a4⟩; refine ⟨⟨by omega, by omega⟩, ⟨a3, a4⟩, by omega, by omega⟩
            · rintro ⟨⟨a1, a2⟩, ⟨a3, a4⟩, a5, a6⟩; refine ⟨⟨by omega, by omega⟩, a3, a4⟩
          · match r with
            | [] => rfl
            | [_] => rfl
            | d :: e :: r1 => simp [Bool.and_assoc]

        by_cases h4 : c.toNat < 237
        · rw [if_neg (by omega), if_pos ⟨by omega, by omega⟩]
          have e1 : firstT c.toNat % 8 = 3 := by simp [firstT, h0, h1, h2, h3, h4]
          have e2 : accLo (firstT c.toNat / 16) = 128 := by simp [firstT, accLo, h0, h1, h2, h3, h4]
          have e3 : accHi (firstT c.toNat / 16) = 191 := by simp [firstT, accHi, h0, h1, h2, h3, h4]
          rw [e1]
          refine (three_all c r _ _ (fun d e => decide (2048 ≤ 4096 * (c.toNat - 224) + 64 * (d - 128) + (e - 128)) && !(decide (55296 ≤ 4096 * (c.toNat - 224) + 64 * (d - 128) + (e - 128)) && decide (4096 * (c.toNat - 224) + 64 * (d - 128) + (e - 128) < 57344))) utf8F ?_ (fun d e r1 e' => ih r1 (by subst e'; simp at h; omega))).trans ?_
          · intro d e hd he
            rw [e2, e3]
            simp only [Bool.and_eq_true, Bool.not_eq_true', Bool.and_eq_false_iff, decide_eq_true_eq, decide_eq_false_iff_not]
            constructor
            · rintro ⟨⟨a1, a2⟩, a3, a4⟩; refine ⟨⟨by omega, by omega⟩, ⟨a3, a4⟩, by omega, by omega⟩
            · rintro ⟨⟨a1, a2⟩, ⟨a3, a4⟩, a5, a6⟩; refine ⟨⟨by omega, by omega⟩, a3, a4⟩
          · match r with
            | [] => rfl
            | [_] => rfl
            | d :: e :: r1 => simp [Bool.and_assoc]

        by_cases h5 : c.toNat = 237
        · rw [if_neg (by omega), if_pos ⟨by omega, by omega⟩]
          have e1 : firstT c.toNat % 8 = 3 := by simp [firstT, h5]
          have e2 : accLo (firstT c.toNat / 16) = 128 := by simp [firstT, accLo, h5]
          have e3 : accHi (firstT c.toNat / 16) = 159 := by simp [firstT, accHi, h5]
          rw [e1]
          refine (three_all c r _ _ (fun d e => decide (2048 ≤ 4096 * (c.toNat - 224) + 64 * (d - 128) + (e - 128)) && !(decide (55296 ≤ 4096 * (c.toNat - 224) + 64 * (d - 128) + (e - 128)) && decide (4096 * (c.toNat - 224) + 64 * (d - 128) + (e - 128) < 57344))) utf8F ?_ (fun d e r1 e' => ih r1 (by subst e'; simp at h; omega))).trans ?_
          · intro d e hd he
            rw [e2, e3]
            simp only [Bool.and_eq_true, Bool.not_eq_true', Bool.and_eq_false_iff, decide_eq_true_eq, decide_eq_false_iff_not]
            constructor
            · rintro ⟨⟨a1, a2⟩, a3, a4⟩; refine ⟨⟨by omega, by omega⟩, ⟨a3, a4⟩, by omega, by omega⟩
            · rintro ⟨⟨a1, a2⟩, ⟨a3, a4⟩, a5, a6⟩; refine ⟨⟨by omega, by omega⟩, a3, a4⟩
          · match r with
            | [] => rfl
            | [_] => rfl
            | d :: e :: r1 => simp [Bool.and_assoc]

        by_cases h6 : c.toNat < 240
        · rw [if_neg (by omega), if_pos ⟨by omega, by omega⟩]
          have e1 : firstT c.toNat % 8 = 3 := by simp [firstT, h0, h1, h2, h3, h4, h5, h6]
          have e2 : accLo (firstT c.toNat / 16) = 128 := by simp [firstT, accLo, h0, h1, h2, h3, h4, h5, h6]
          have e3 : accHi (firstT c.toNat / 16) = 191 := by simp [firstT, accHi, h0, h1, h2, h3, h4, h5, h6]
          rw [e1]
          refine (three_all c r _ _ (fun d e => decide (2048 ≤ 4096 * (c.toNat - 224) + 64 * (d - 128) + (e - 128)) && !(decide (55296 ≤ 4096 * (c.toNat - 224) + 64 * (d - 128) + (e - 128)) && decide (4096 * (c.toNat - 224) + 64 * (d - 128) + (e - 128) < 57344))) utf8F ?_ (fun d e r1 e' => ih r1 (by subst e'; simp at h; omega))).trans ?_
          · intro d e hd he
            rw [e2, e3]
            simp only [Bool.and_eq_true, Bool.not_eq_true', Bool.and_eq_false_iff, decide_eq_true_eq, decide_eq_false_iff_not]
            constructor
            · rintro ⟨⟨a1, a2⟩, a3, a4⟩; refine ⟨⟨by omega, by omega⟩, ⟨a3, a4⟩, by omega, by omega⟩
            · rintro ⟨⟨a1, a2⟩, ⟨a3, a4⟩, a5, a6⟩; refine ⟨⟨by omega, by omega⟩, a3, a4⟩
          · match r with
            | [] => rfl
            | [_] => rfl
            | d :: e :: r1 => simp [Bool.and_assoc]

        by_cases h7 : c.toNat = 240
        · rw [if_neg (by omega), if_neg (by omega), if_pos ⟨by omega, by omega⟩]
          have e1 : firstT c.toNat % 8 = 4 := by simp [firstT, h7]
          have e2 : accLo (firstT c.toNat / 16) = 144 := by simp [firstT, accLo, h7]
          have e3 : accHi (firstT c.toNat / 16) = 191 := by simp [firstT, accHi, h7]
          rw [e1]
          refine (four_all c r _ _ (fun d e f => decide (65536 ≤ 262144 * (c.toNat - 240) + 4096 * (d - 128) + 64 * (e - 128) + (f - 128)) && decide (262144 * (c.toNat - 240) + 4096 * (d - 128) + 64 * (e - 128) + (f - 128) ≤ 1114111)) utf8F ?_ (fun d e f r1 e' => ih r1 (by subst e'; simp at h; omega))).trans ?_
          · intro d e f hd he hf
            rw [e2, e3]
            simp only [Bool.and_eq_true, decide_eq_true_eq]
            constructor
            · rintro ⟨⟨a1, a2⟩, ⟨a3, a4⟩, a5, a6⟩; refine ⟨⟨by omega, by omega⟩, ⟨a3, a4⟩, ⟨a5, a6⟩, by omega, by omega⟩
            · rintro ⟨⟨a1, a2⟩, ⟨a3, a4⟩, ⟨a5, a6⟩, a7, a8⟩; refine ⟨⟨by omega, by omega⟩, ⟨a3, a4⟩, a5, a6⟩
          · match r with
            | [] => rfl
            | [_] => rfl
            | [_, _] => rfl
            | d :: e :: f :: r1 => simp [Bool.and_assoc]

        by_cases h8 : c.toNat < 244
        · rw [if_neg (by omega), if_neg (by omega), if_pos ⟨by omega, by omega⟩]
          have e1 : firstT c.toNat % 8 = 4 := by simp [firstT, h0, h1, h2, h3, h4, h5, h6, h7, h8]
          have e2 : accLo (firstT c.toNat / 16) = 128 := by simp [firstT, accLo, h0, h1, h2, h3, h4, h5, h6, h7, h8]
          have e3 : accHi (firstT c.toNat / 16) = 191 := by simp [firstT, accHi, h0, h1, h2, h3, h4, h5, h6, h7, h8]
          rw [e1]
          refine (four_all c r _ _ (fun d e f => decide (65536 ≤ 262144 * (c.toNat - 240) + 4096 * (d - 128) + 64 * (e - 128) + (f - 128)) && decide (262144 * (c.toNat - 240) + 4096 * (d - 128) + 64 * (e - 128) + (f - 128) ≤ 1114111)) utf8F ?_ (fun d e f r1 e' => ih r1 (by subst e'; simp at h; omega))).trans ?_
          · intro d e f hd he hf
            rw [e2, e3]
            simp only [Bool.and_eq_true, decide_eq_true_eq]
            constructor
            · rintro ⟨⟨a1, a2⟩, ⟨a3, a4⟩, a5, a6⟩; refine ⟨⟨by omega, by omega⟩, ⟨a3, a4⟩, ⟨a5, a6⟩, by omega, by omega⟩
            · rintro ⟨⟨a1, a2⟩, ⟨a3, a4⟩, ⟨a5, a6⟩, a7, a8⟩; refine ⟨⟨by omega, by omega⟩, ⟨a3, a4⟩, a5, a6⟩
          · match r with
            | [] => rfl
            | [_] => rfl
            | [_, _] => rfl
            | d :: e :: f :: r1 => simp [Bool.and_assoc]

        by_cases h9 : c.toNat = 244
        · rw [if_neg (by omega), if_neg (by omega), if_pos ⟨by omega, by omega⟩]
          have e1 : firstT c.toNat % 8 = 4 := by simp [firstT, h9]
          have e2 : accLo (firstT c.toNat / 16) = 128 := by simp [firstT, accLo, h9]
          have e3 : accHi (firstT c.toNat / 16) = 143 := by simp [firstT, accHi, h9]
          rw [e1]
          refine (four_all c r _ _ (fun d e f => decide (65536 ≤ 262144 * (c.toNat - 240) + 4096 * (d - 128) + 64 * (e - 128) + (f - 128)) && decide (262144 * (c.toNat - 240) + 4096 * (d - 128) + 64 * (e - 128) + (f - 128) ≤ 1114111)) utf8F ?_ (fun d e f r1 e' => ih r1 (by subst e'; simp at h; omega))).trans ?_
          · intro d e f hd he hf
            rw [e2, e3]
            simp only [Bool.and_eq_true, decide_eq_true_eq]
            constructor
            · rintro ⟨⟨a1, a2⟩, ⟨a3, a4⟩, a5, a6⟩; refine ⟨⟨by omega, by omega⟩, ⟨a3, a4⟩, ⟨a5, a6⟩, by omega, by omega⟩
            · rintro ⟨⟨a1, a2⟩, ⟨a3, a4⟩, ⟨a5, a6⟩, a7, a8⟩; refine ⟨⟨by omega, by omega⟩, ⟨a3, a4⟩, a5, a6⟩
          · match r with
            | [] => rfl
            | [_] => rfl
            | [_, _] => rfl
            | d :: e :: f :: r1 => simp [Bool.and_assoc]

        rw [if_neg (by omega), if_neg (by omega), if_neg (by omega)]
        exact mK_none _ (by simp [firstT, checkN, h0, h1, h2, h3, h4, h5, h6, h7, h8, h9])
theorem valid_eq (l : List UInt8) : validD l = utf8F l := valid_all l.length l (Nat.le_refl _)
end Go.Proofs.YtiadfijeglbdlaaDoor

namespace Go.Proofs.YtiadfijeglbdlaaDoor
open Go.RowKit

/-- the library's tables and errors stand where they were laid -/
structure Tabs (w : World) : Prop where
  utf : Lib.Utf8Tabs 0 1 w
  pow : Lib.TabIs Tryd.prog w "internal/strconv.uint64pow10" .u64 Lib.pow10Tab
  syn : ∃ te pe, w.cell? ⟨5, 0, none⟩ = some (.iface te pe)
  rng : ∃ te pe, w.cell? ⟨6, 0, none⟩ = some (.iface te pe)

theorem var_below {w w' : World} (h : Below w.heap.size w w') (s : String) {cs : Array Value} (hv : w.var? Tryd.prog s = some cs) : w'.var? Tryd.prog s = some cs := by
  unfold World.var? at hv ⊢
  cases hg : Tryd.prog.globalNamed s with
  | none => rw [hg] at hv; cases hv
  | some g =>
    rw [hg] at hv
    simp only [Option.bind_some] at hv ⊢
    cases hh : w.heap[g]? with
    | none => rw [hh] at hv; cases hv
    | some o =>
      rw [h.block g (Array.getElem?_eq_some_iff.1 hh).1]
      exact hv
theorem Tabs.to {w w' : World} (h : Tabs w) (hb : Below w.heap.size w w') : Tabs w' := by
  have hc : ∀ b o v, w.cell? ⟨b, o, none⟩ = some v → w'.cell? ⟨b, o, none⟩ = some v := fun b o v hv => (hb.cell (p := ⟨b, o, none⟩) (World.block_lt_of_cell? w _ hv)).trans hv
  refine ⟨Utf8Tabs_below h.utf hb, var_below hb _ h.pow, ?_, ?_⟩
  · obtain ⟨te, pe, e⟩ := h.syn
    exact ⟨te, pe, hc _ _ _ e⟩
  · obtain ⟨te, pe, e⟩ := h.rng
    exact ⟨te, pe, hc _ _ _ e⟩
theorem bstr_data (s : List UInt8) : (bstr s).data.toList = s := by simp [bstr]
theorem bstr_size (s : List UInt8) : (bstr s).size = s.length := by show s.toArray.size = _; simp
theorem validString_any (s : List UInt8) (w : World) (hs : s.length ≤ 9223372036854775807) (hT : Tabs w) :
    Calls Tryd.prog 43 #[.string (bstr s)] w fun e w' => e = .returned (.bool (utf8F s)) ∧ Below w.heap.size w w' := by
  have h := Tryd.utf8_ValidString (bstr s) w (by rw [bstr_size]; exact hs) hT.utf
  rw [bstr_data, valid_eq] at h
  exact h

theorem equal_any (xs ys : List (List UInt8)) (a b : Option Addr) (c d : Nat) (w : World) (hx : RStr w xs a c) (hy : RStr w ys b d) :
    Calls Tryd.prog 57 #[.slice a xs.length c, .slice b ys.length d] w fun e w' => e = .returned (.bool (decide (xs = ys))) ∧ Below w.heap.size w w' := by
  have hxl := hx.le
  have hxb := hx.big
  have hyl := hy.le
  have hyb := hy.big
  by_cases hl : xs.length = ys.length
  · by_cases h0 : xs.length = 0
    · have e1 : xs = [] := List.eq_nil_of_length_eq_zero h0
      have e2 : ys = [] := List.eq_nil_of_length_eq_zero (by omega)
      subst e1
      subst e2
      refine (Tryd.slices_Equal_string_empty a b c 0 d w (by omega)).mono fun e w' ⟨h1, h2⟩ => ⟨by rw [h1]; rfl, h2 ▸ Below.refl _ _⟩
    · obtain ⟨b1, o1, rfl, hb1, hc1⟩ := hx.mem (by omega)
      obtain ⟨b2, o2, rfl, hb2, hc2⟩ := hy.mem (by omega)
      have g : ∀ (zs : List (List UInt8)) (j : Nat), j < zs.length → (zs.map bstr).getD j ByteArray.empty = bstr (zs.getD j []) := fun zs j hj => by
        simp [List.getD, hj]
      refine (Tryd.slices_Equal_string b1 o1 xs.length c b2 o2 ys.length d (xs.map bstr) (ys.map bstr) w (by simp) (by simp) (by omega) (by omega) (fun j hj => by rw [g xs j (by simpa using hj)]; exact hc1 j (by simpa using hj)) (fun j hj => by rw [g ys j (by simpa using hj)]; exact hc2 j (by simpa using hj))).mono ?_
      rintro e w' ⟨h1, q, h2⟩
      refine ⟨?_, ?_⟩
      · rw [h1]
        congr 2
        have inj : xs.map bstr = ys.map bstr ↔ xs = ys := by
          constructor
          · intro h
            have := congrArg (List.map ByteArray.toList) h
            simp only [List.map_map] at this
            have e : (ByteArray.toList ∘ bstr) = id := by funext z; exact bstr_toList z
            rw [e] at this
            simpa using this
          · rintro rfl; rfl
        rw [show (xs.map bstr).take xs.length = xs.map bstr by rw [List.take_of_length_le (by simp)], show (ys.map bstr).take ys.length = ys.map bstr by rw [List.take_of_length_le (by simp)]]
        simp only [inj]
      · rw [h2]
        exact below_drewNv (Below.refl _ _) q
  · refine (Tryd.slices_Equal_string_lens a b xs.length c ys.length d w hl).mono fun e w' ⟨h1, h2⟩ => ⟨by rw [h1, decide_eq_false (fun h => hl (by rw [h]))], h2 ▸ Below.refl _ _⟩

theorem bcell {W w1 : World} (hb : Below W.heap.size W w1) : (∀ b o, b < W.heap.size → w1.cell? ⟨b, o, none⟩ = W.cell? ⟨b, o, none⟩) ∧ (∀ b o, b < W.heap.size → w1.frozen? ⟨b, o, none⟩ = W.frozen? ⟨b, o, none⟩) :=
  ⟨fun b o h => hb.cell (p := ⟨b, o, none⟩) h, fun b o h => hb.frozen (p := ⟨b, o, none⟩) h⟩

/-- the same, but for what is in their lists -/
def alikeF : JV → JV → Bool
  | .mk k s n l ks, .mk k' s' n' l' ks' => decide (k = k') && decide (s = s') && decide (n = n') && decide (ks = ks') && decide (l.length = l'.length)

set_option maxRecDepth 100000 in
set_option maxHeartbeats 1600000 in
theorem alike_any (v v' : JV) (cs cs' : List Value) (w : World) (hv : RV w v cs) (hv' : RV w v' cs') :
    Calls Tryd.prog 32 #[.agg cs.toArray, .agg cs'.toArray] w fun e w' => e = .returned (.bool (alikeF v v')) ∧ Below w.heap.size w w' := by
  obtain ⟨k, s, n, l, ks⟩ := v
  obtain ⟨k', s', n', l', ks'⟩ := v'
  unfold RV at hv hv'
  obtain ⟨a, c, b, d, rfl, ⟨hk0, hk1, hn⟩, hks, ⟨hlc, hcb⟩, hac, -⟩ := hv
  obtain ⟨a', c', b', d', rfl, ⟨hk0', hk1', hn'⟩, hks', ⟨hlc', hcb'⟩, hac', -⟩ := hv'
  have hl1 : l.length ≤ 9223372036854775807 := by omega
  have hl2 : l'.length ≤ 9223372036854775807 := by omega
  have hE : ((bstr s).toList == (bstr s').toList) = decide (s = s') := by rw [bstr_toList, bstr_toList]; exact Bool.eq_iff_iff.2 (by simp)
  have hcall : Hid (∀ W, Below w.heap.size w W → Calls Tryd.prog 57 #[.slice b ks.length d, .slice b' ks'.length d'] W fun e w' => e = .returned (.bool (decide (ks = ks'))) ∧ Below W.heap.size W w') := fun W hW => equal_any ks ks' b b' d d' W (hks.to hW) (hks'.to hW)
  have hgoal : Hid (alikeF (.mk k s n l ks) (.mk k' s' n' l' ks') = (decide (k = k') && decide (s = s') && decide (n = n') && decide (ks = ks') && decide (l.length = l'.length))) := rfl
  rw [hgoal.out]
  generalize decide (ks = ks') = B4 at *
  clear hgoal hks hks' hac hac' hlc hcb hlc' hcb'
  by_cases e1 : k = k'
  · subst e1
    by_cases e2 : s = s'
    · subst e2
      by_cases e3 : n = n'
      · subst e3
        cases B4 with
        | true =>
          by_cases e5 : l.length = l'.length
          · rw [e5]
            have e5r : Hid ((decide (k = k) && decide (s = s) && decide (n = n) && true && decide (l'.length = l'.length)) = true) := by show _ = _; simp
            rw [e5r.out]
            clear e5 hE e5r
            generalize ks.length = kl at *
            generalize ks'.length = kl' at *
            generalize l'.length = ll at *
            go_enter Tryd.func32, Tryd.ntmps32
            go_wp2_with (go_at_call 57; refine (hcall.out _ ?_).mono ?_; (exact ((Below.refl _ _).alloc (Nat.le_refl _) _).alloc (by simp) _); rintro e w1 ⟨rfl, hb1⟩; obtain ⟨hc1, hf1⟩ := bcell hb1)
            go_ret
            exact ⟨rfl, (((Below.refl _ _).alloc (Nat.le_refl _) _).alloc (by simp) _).trans (hb1.mono (by simp; omega))⟩
          · have e5r : Hid ((decide (k = k) && decide (s = s) && decide (n = n) && true && decide (l.length = l'.length)) = false) := by show _ = _; simp [e5]
            have e5i : ((l.length : Int) == (l'.length : Int)) = false := beq_eq_false_iff_ne.2 (by omega)
            rw [e5r.out]
            clear e5 hE e5r
            generalize ks.length = kl at *
            generalize ks'.length = kl' at *
            go_enter Tryd.func32, Tryd.ntmps32
            go_wp2_with (go_at_call 57; refine (hcall.out _ ?_).mono ?_; (exact ((Below.refl _ _).alloc (Nat.le_refl _) _).alloc (by simp) _); rintro e w1 ⟨rfl, hb1⟩; obtain ⟨hc1, hf1⟩ := bcell hb1)
            go_ret
            exact ⟨rfl, (((Below.refl _ _).alloc (Nat.le_refl _) _).alloc (by simp) _).trans (hb1.mono (by simp; omega))⟩
        | false =>
          have e5r : Hid ((decide (k = k) && decide (s = s) && decide (n = n) && false && decide (l.length = l'.length)) = false) := by show _ = _; simp
          rw [e5r.out]
          clear hE e5r
          go_enter Tryd.func32, Tryd.ntmps32
          go_wp2_with (go_at_call 57; refine (hcall.out _ ?_).mono ?_; (exact ((Below.refl _ _).alloc (Nat.le_refl _) _).alloc (by simp) _); rintro e w1 ⟨rfl, hb1⟩; obtain ⟨hc1, hf1⟩ := bcell hb1)
          go_ret
          exact ⟨rfl, (((Below.refl _ _).alloc (Nat.le_refl _) _).alloc (by simp) _).trans (hb1.mono (by simp; omega))⟩
      · have e5r : Hid ((decide (k = k) && decide (s = s) && decide (n = n') && B4 && decide (l.length = l'.length)) = false) := by show _ = _; simp [e3]
        have e3i : ((n : Int) == (n' : Int)) = false := beq_eq_false_iff_ne.2 (by omega)
        rw [e5r.out]
        clear e3 hE e5r hcall
        go_enter Tryd.func32, Tryd.ntmps32
        go_wp2
        go_ret
        exact ⟨rfl, ((Below.refl _ _).alloc (Nat.le_refl _) _).alloc (by simp) _⟩
    · have e5r : Hid ((decide (k = k) && decide (s = s') && decide (n = n') && B4 && decide (l.length = l'.length)) = false) := by show _ = _; simp [e2]
      have hE2 : ((bstr s).toList == (bstr s').toList) = false := by rw [hE]; exact decide_eq_false e2
      rw [e5r.out]
      clear e2 hE e5r hcall
      generalize bstr s = S at *
      generalize bstr s' = S' at *
      go_enter Tryd.func32, Tryd.ntmps32
      go_wp2
      go_ret
      exact ⟨rfl, ((Below.refl _ _).alloc (Nat.le_refl _) _).alloc (by simp) _⟩
  · have e5r : Hid ((decide (k = k') && decide (s = s') && decide (n = n') && B4 && decide (l.length = l'.length)) = false) := by show _ = _; simp [e1]
    have e3i : (k == k') = false := beq_eq_false_iff_ne.2 e1
    rw [e5r.out]
    clear e1 hE e5r hcall
    go_enter Tryd.func32, Tryd.ntmps32
    go_wp2
    go_ret
    exact ⟨rfl, ((Below.refl _ _).alloc (Nat.le_refl _) _).alloc (by simp) _⟩
end Go.Proofs.YtiadfijeglbdlaaDoor

namespace Go.Proofs.YtiadfijeglbdlaaDoor
open Go.RowKit

def ddS (acc : List (List UInt8)) (k : List UInt8) : List (List UInt8) := if k ∈ acc then acc else acc ++ [k]
/-- each once -/
def dd (l : List (List UInt8)) : List (List UInt8) := l.foldl ddS []
theorem dd_all : ∀ (l acc : List (List UInt8)), (l.foldl ddS acc).length ≤ acc.length + l.length ∧ ((l.foldl ddS acc).length = acc.length + l.length ↔ (l.Nodup ∧ ∀ x ∈ l, x ∉ acc))
  | [], acc => by simp
  | x :: r, acc => by
    rw [List.foldl_cons]
    unfold ddS
    by_cases h : x ∈ acc
    · rw [if_pos h]
      obtain ⟨h1, h2⟩ := dd_all r acc
      refine ⟨by simp; unfold ddS at h1; omega, ?_⟩
      constructor
      · intro e; simp at e; unfold ddS at h1; omega
      · rintro ⟨-, e⟩; exact absurd h (e x (by simp))
    · rw [if_neg h]
      obtain ⟨h1, h2⟩ := dd_all r (acc ++ [x])
      simp only [List.length_append, List.length_singleton] at h1 h2
      unfold ddS at h1 h2
      refine ⟨by simp; omega, ?_⟩
      rw [List.length_cons, show acc.length + (r.length + 1) = acc.length + 1 + r.length by omega, h2, List.nodup_cons]
      simp only [List.mem_append, List.mem_cons, List.not_mem_nil, or_false, not_or]
      constructor
      · rintro ⟨a, b⟩
        refine ⟨⟨fun hx => (b x hx).2 rfl, a⟩, ?_⟩
        rintro y (rfl | hy)
        · exact h
        · exact (b y hy).1
      · rintro ⟨⟨a, b⟩, c⟩
        exact ⟨b, fun y hy => ⟨c y (.inr hy), fun e => a (e ▸ hy)⟩⟩
theorem apart_nodup : ∀ l : List (List UInt8), apartF l = true ↔ l.Nodup
  | [] => by simp [apartF]
  | k :: r => by simp [apartF, apart_nodup r]
theorem dd_len (l : List (List UInt8)) : (dd l).length ≤ l.length ∧ ((dd l).length = l.length ↔ apartF l = true) := by
  have := dd_all l []
  rw [apart_nodup]
  simpa [dd] using this
theorem dd_snoc (l : List (List UInt8)) (k : List UInt8) : dd (l ++ [k]) = ddS (dd l) k := by simp [dd]
def ddP (l : List (List UInt8)) : List (Value × Value) := (dd l).map fun k => (.string (bstr k), .agg #[])
theorem bstr_inj {s t : List UInt8} (h : bstr s = bstr t) : s = t := by
  have := congrArg ByteArray.toList h
  rwa [bstr_toList, bstr_toList] at this
theorem ddP_step {l : List (List UInt8)} {k : List UInt8} {ps : List (Value × Value)} (h : (ps = ddP l ∧ ∃ p ∈ ddP l, p.1 = .string (bstr k)) ∨ (ps = ddP l ++ [(.string (bstr k), .agg #[])] ∧ ∀ p ∈ ddP l, p.1 ≠ .string (bstr k))) : ps = ddP (l ++ [k]) := by
  unfold ddP at *
  rw [dd_snoc]
  unfold ddS
  rcases h with ⟨rfl, p, hp, he⟩ | ⟨rfl, hn⟩
  · obtain ⟨x, hx, rfl⟩ := List.mem_map.1 hp
    have : k ∈ dd l := by have := bstr_inj (Value.string.inj he); rw [← this]; exact hx
    rw [if_pos this]
  · have : k ∉ dd l := fun hk => hn _ (List.mem_map.2 ⟨k, hk, rfl⟩) rfl
    rw [if_neg this]
    simp

theorem int_beq (a b : Nat) : ((a : Int) == (b : Int)) = decide (a = b) := by
  apply Bool.eq_iff_iff.2
  rw [beq_iff_eq, decide_eq_true_eq]
  omega
theorem zero_unit (w : World) : (zeroValue 83).run Tryd.prog w = .ok (.agg #[]) w := by kernel_rfl

set_option maxRecDepth 100000 in
set_option maxHeartbeats 1600000 in
theorem mayName_any (ks : List (List UInt8)) (a : Option Addr) (c n : Nat) (w : World) (hks : RStr w ks a c) (hn : n ≤ 9223372036854775807) (hsm : ∀ k ∈ ks, k.length ≤ 9223372036854775807) (hT : Tabs w) :
    Calls Tryd.prog 45 #[.slice a ks.length c, .int .i64 (n : Int)] w fun e w' => e = .returned (.bool (decide (ks.length = n) && ks.all utf8F && apartF ks)) ∧ Below w.heap.size w w' := by
  have hmm : ∀ (n : Int) (w : World), (Instr.makeMap 114 (some (.int .i64 n))).run Tryd.prog w = .ok (.map (some w.heap.size)) (w.alloc (.map #[] 0)) := fun n w => by
    simp [Instr.makeMap, run_underlying Tryd.underlying114, asInt, asIntOf, Result.andThen]
  have hle := hks.le
  have hbig := hks.big
  by_cases e0 : ks.length = n
  · have e1 : Hid ((decide (ks.length = n) && ks.all utf8F && apartF ks) = (ks.all utf8F && apartF ks)) := by show _ = _; rw [decide_eq_true e0, Bool.true_and]
    rw [e1.out]
    clear e1
    subst e0
    obtain ⟨R, hR⟩ : ∃ R, R = (ks.all utf8F && apartF ks) := ⟨_, rfl⟩
    rw [← hR]
    have HR := Lib.hid hR
    clear hR
    have HKS := Lib.hid hks
    have HT := Lib.hid hT
    have HSM := Lib.hid hsm
    clear hks hT hsm
    go_enter Tryd.func45, Tryd.ntmps45
    go_wp2
    have hM0 : MapR GStr (w.alloc (.map #[] 0)) w.heap.size [] := MapR.new w
    have hB0 : Below w.heap.size w (w.alloc (.map #[] 0)) := (Below.refl _ _).alloc (Nat.le_refl _) _
    generalize hg : w.heap.size = g at *
    have HG := Lib.hid hg
    clear hg
    go_loopw [16] (fun i wr => ∃ m : Nat, m ≤ ks.length ∧ i = .int .i64 m ∧ MapR GStr wr g (ddP (ks.take m)) ∧ Below g w wr ∧ Hid ((ks.take m).all utf8F = true)) (fun i _ => ks.length - (intOf i).toNat)
    case atStart => exact ⟨0, by omega, rfl, hM0, hB0, by show _ = _; simp⟩
    case round =>
      clear hM0 hB0
      obtain ⟨m, hm, rfl, hM, hB, HU⟩ := hrel
      have hgl : Hid (g < wr.heap.size) := hM.lt
      by_cases hlt : m < ks.length
      · have hc : (m : Int) < (ks.length : Int) := by omega
        have hwr : Below w.heap.size w wr := HG.out ▸ hB
        obtain ⟨b, off, rfl, hb, hcs⟩ := HKS.out.mem (by omega)
        have cx : wr.cell? ⟨b, off + m, none⟩ = some (.string (bstr (ks.getD m []))) := (hwr.cell (p := ⟨b, off + m, none⟩) hb).trans (hcs m hlt)
        have hmem : Hid (ks.getD m [] ∈ ks) := by show _ ∈ _; rw [List.getD, List.getElem?_eq_getElem hlt]; simp
        have hts : Hid (ks.take (m + 1) = ks.take m ++ [ks.getD m []]) := by show _ = _; rw [List.take_succ_eq_append_getElem hlt]; simp [List.getD, hlt]
        have hmc : m < c := by omega
        have hsm := Lib.hid (HSM.out _ hmem.out)
        clear hcs
        generalize hx : ks.getD m [] = x at *
        have HX := Lib.hid hx
        clear hx
        have hv : Hid (∀ W, Below w.heap.size w W → Calls Tryd.prog 43 #[.string (bstr x)] W fun e w' => e = .returned (.bool (utf8F x)) ∧ Below W.heap.size W w') := fun W hW => validString_any x W hsm.out (HT.out.to hW)
        cases hu : utf8F x with
        | true =>
          have HUX := Lib.hid hu
          rw [hu] at hv
          have hvs : Hid (∀ p ∈ ddP (ks.take m), p.2 = .agg #[]) := by
            show ∀ p ∈ _, _
            intro p hp
            unfold ddP at hp
            obtain ⟨y, -, rfl⟩ := List.mem_map.1 hp
            rfl
          have HM := Lib.hid hM
          have HB := Lib.hid hB
          clear hu hM hB hwr
          have HWR : Hid (Below w.heap.size w wr) := HG.out ▸ HB.out
          go_wp2_with (first
            | (go_at_call 43; refine (hv.out _ ?_).mono ?_; (exact HWR.out); rintro e w1 ⟨rfl, hb1⟩)
            | (at_mapUpdate; refine wl_put_set str_ok Tryd.underlying114 rfl _ _ _ rfl g _ rfl (HM.out.below str_ok hb1) (.string (bstr x)) (.agg #[]) rfl rfl ⟨_, rfl⟩ hvs.out ?_; intro w2 ps2 hM2 hg2 hs2 hst2))
          go_roundw
          case rel => exact ⟨m + 1, by omega, by go_num, by rw [hts.out, ← ddP_step hst2]; exact hM2, (HB.out.trans (hb1.mono (Nat.le_of_lt hgl.out))).grown hg2 (Nat.le_trans (Nat.le_of_lt hgl.out) hb1.size) (fun k hk => by cases hk; exact Nat.le_refl _), by show _ = _; rw [hts.out, List.all_append, HU.out]; simp [HUX.out]⟩
          case measure => simp [intOf]; omega
        | false =>
          have HF : Hid ((ks.all utf8F && apartF ks) = false) := by
            show _ = _
            have : ks.all utf8F = false := by
              rw [List.all_eq_false]
              exact ⟨x, hmem.out, by rw [hu]; simp⟩
            rw [this, Bool.false_and]
          rw [hu] at hv
          have HB := Lib.hid hB
          have HWR : Hid (Below w.heap.size w wr) := hwr
          clear hu hM hB hwr
          go_wp2_with (go_at_call 43; refine (hv.out _ ?_).mono ?_; (exact HWR.out); rintro e w1 ⟨rfl, hb1⟩)
          go_ret
          exact ⟨by rw [HR.out, HF.out]; rfl, HG.out ▸ HWR.out.trans (hb1.mono (HG.out ▸ Nat.le_of_lt hgl.out))⟩
      · have hc : ¬ (m : Int) < (ks.length : Int) := by omega
        have hmk : m = ks.length := by omega
        have hE : Hid ((ks.all utf8F && apartF ks) = decide ((ddP ks).length = ks.length)) := by
          show _ = _
          have h1 : ks.all utf8F = true := by have := HU.out; rwa [hmk, List.take_length] at this
          have h2 := (dd_len ks).2
          rw [h1, Bool.true_and]
          unfold ddP
          rw [List.length_map]
          apply Bool.eq_iff_iff.2
          rw [decide_eq_true_eq]
          exact h2.symm
        rw [hmk, List.take_length] at hM
        have HM := Lib.hid hM
        have HB := Lib.hid hB
        have hdl : (ddP ks).length ≤ ks.length := by unfold ddP; rw [List.length_map]; exact (dd_len ks).1
        clear hM hB hmk hm hlt
        go_wp2_with (at_len; refine wl_len Tryd.underlying114 rfl _ rfl g (ddP ks) rfl HM.out ?_)

        go_ret
        exact ⟨by rw [HR.out, hE.out, ← int_beq]; rfl, HG.out ▸ HB.out⟩
  · have e1 : Hid ((decide (ks.length = n) && ks.all utf8F && apartF ks) = false) := by show _ = _; rw [decide_eq_false e0, Bool.false_and, Bool.false_and]
    have e2 : ¬ (ks.length : Int) = (n : Int) := by omega
    rw [e1.out]
    clear e1 e0
    go_enter Tryd.func45, Tryd.ntmps45
    go_wp2
    go_ret
    exact ⟨rfl, Below.refl _ _⟩
end Go.Proofs.YtiadfijeglbdlaaDoor
