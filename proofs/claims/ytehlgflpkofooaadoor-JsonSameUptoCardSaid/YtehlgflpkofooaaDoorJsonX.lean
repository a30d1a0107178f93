/-
  The program's putString: a string's text behind what is there. Conditions: those in each statement.
-/
import Derived.Test.YtehlgflpkofooaaDoorJsonG
import Derived.Lib.OthersKept
import Derived.Lib.OwnKind
namespace Go.Proofs.YtehlgflpkofooaaDoor
open Go.RowKit

/-- nothing below g is turned, nor any block but rows of bytes -/
def Fr (g : Nat) (w w' : World) : Prop := Below g w w' ∧ Lib.OthersKept 5 none w w'
theorem Fr.refl (g : Nat) (w : World) : Fr g w w := ⟨Below.refl _ _, Lib.OthersKept.refl _ _ _⟩
theorem Fr.trans {g : Nat} {a b c : World} (h : Fr g a b) (k : Fr g b c) : Fr g a c := ⟨h.1.trans k.1, h.2.trans k.2⟩
theorem Fr.mono {g g' : Nat} {a b : World} (h : Fr g a b) (hg : g' ≤ g) : Fr g' a b := ⟨h.1.mono hg, h.2⟩
theorem Fr.drew {g : Nat} {a b : World} (h : Fr g a b) : Fr g a b.drew := ⟨h.1.drew, h.2.drew⟩
theorem Fr.alloc {g : Nat} {a b : World} (h : Fr g a b) (hg : g ≤ b.heap.size) (o : Obj) : Fr g a (b.alloc o) := ⟨h.1.alloc hg o, h.2.alloc o⟩
theorem Fr.new (w : World) (o : Obj) : Fr w.heap.size w (w.alloc o) := (Fr.refl _ _).alloc (Nat.le_refl _) o
theorem Fr.of_below {w w' : World} (h : Below w.heap.size w w') : Fr w.heap.size w w' := ⟨h, fun k _ hk _ _ => (h.block k (Array.getElem?_eq_some_iff.1 hk).1).trans hk⟩
theorem Fr.grown {g : Nat} {a w w' : World} {B n : Nat} {v : Value} {xs : List Value} (h : Fr g a w) (hg : w.grownBy w' v.ownBlock) (hown : w.ownsRow B 5 1 v n xs) (hB : g ≤ B) (hw : g ≤ w.heap.size) : Fr g a w' :=
  ⟨h.1.grown hg hw (fun k hk => Nat.le_trans hB (World.ownsRow.lt hown k hk).1), h.2.grown hg (Lib.ownsRow_kind hown)⟩
theorem Arr.fr {g G : Nat} {w w' : World} {T : TypeId} {xs : List Value} (h : Arr w G T xs) (hf : Fr g w w') (hT : T ≠ 5) : Arr w' G T xs :=
  hf.2 G _ h (by simp) (fun c fz e => hT (by cases e; rfl))

section
variable {T : TypeId} (bt : BT Tryd.prog T 5) {ops : Array Oper} {rest : List Oper} {o : Oper} {a : Act} {Q : Exit → Act → World → Prop} {w : World}
include bt
/-- append(dst, src...), dst nil or the call's own: nothing but dst's block is turned -/
theorem wl_append_k (hgd : o.guard = none) (d s : Operand) (ho : o.op = .call { callee := .builtin .append, args := #[d, s], argTypes := #[T, T] })
    (B : Nat) (v : Value) (ys : List UInt8) (hown : Own w B 5 v ys) (hd : a.eval d = v) (sp : Option Addr) (sLen sCap : Nat) (xs : List UInt8)
    (hs : a.eval s = .slice sp sLen sCap) (hrd : Rd w sp sLen sCap xs) (hb : ys.length + sLen ≤ 140737488355328) (hB : B ≤ w.heap.size)
    (hK : ∀ v' w', Own w' B 5 v' (ys ++ xs) → Fr B w w' → wpList Tryd.prog ops Q rest (a.put o.dst v') w') :
    wpList Tryd.prog ops Q (o :: rest) a w := by
  obtain ⟨i0, hi, hz0, hz1, hz2⟩ := info_parts bt.info
  cases sp with
  | none =>
    have h0 : sCap = 0 := hrd.nil rfl
    have h1 : sLen = 0 := by have := hrd.le; omega
    subst h0 h1
    have hx : xs = [] := List.eq_nil_of_length_eq_zero hrd.len
    subst hx
    refine wpList_append_own_none hgd d s T ho B 5 i0 1 bt.sl hi v _ _ hd hown hs ?_
    exact hK v w (by simpa using hown) (Fr.refl _ _)
  | some ad =>
    refine wpList_append_own w hgd d s T ho B 5 i0 (.int .u8 0) 1 1 bt.sl hi hz0 hz1 hz2 rfl (by decide) v _ _ hd hown ad sLen sCap (xs.map bv) hs (by simp [hrd.len]) hrd.cells bv_oneCell (by unfold maxLen; omega) (by omega) hB ?_
    intro v' w' h1 h2 _
    refine hK v' w' ?_ ((Fr.refl _ _).grown h2 hown (Nat.le_refl _) hB)
    unfold Own
    rw [List.length_append, List.map_append, hrd.len]
    exact h1
/-- .. in a region that draws -/
theorem step_append_k {K : Act → World → Prop} {X : Prop} (hgd : o.guard = none)
    (d s : Operand) (ho : o.op = .call { callee := .builtin .append, args := #[d, s], argTypes := #[T, T] })
    (B : Nat) (v : Value) (ys : List UInt8) (hown : Own w B 5 v ys) (hd : a.eval d = v) (ad : Addr) (sLen sCap : Nat) (xs : List UInt8)
    (hs : a.eval s = .slice (some ad) sLen sCap) (hrd : Rd w (some ad) sLen sCap xs) (hb : ys.length + sLen ≤ 140737488355328) (hB : B ≤ w.heap.size)
    (hK : ∀ v' w', Own w' B 5 v' (ys ++ xs) → Fr B w w' → K (a.put o.dst v') w') :
    if Region.wanted o (yielded ops a.tmps) = true then Oper.wp Tryd.prog o a w K Q else X := by
  rw [if_pos (by simp [Region.wanted, hgd])]
  obtain ⟨i0, hi, hz0, hz1, hz2⟩ := info_parts bt.info
  refine wp_append_own w d s T ho B 5 i0 (.int .u8 0) 1 1 bt.sl hi hz0 hz1 hz2 rfl (by decide) v _ _ hd hown ad sLen sCap (xs.map bv) hs (by simp [hrd.len]) hrd.cells bv_oneCell (by unfold maxLen; omega) (by omega) hB ?_
  intro v' w' h1 h2 _
  refine hK v' w' ?_ ((Fr.refl _ _).grown h2 hown (Nat.le_refl _) hB)
  unfold Own
  rw [List.length_append, List.map_append, hrd.len]
  exact h1
end

/-- what a call that lays down tells: the bytes, if there are not too many -/
def PutRes (out : List UInt8) (g : Nat) (w : World) (e : Ending) (w' : World) : Prop :=
  ∃ v, e = .returned (.tuple #[v, .bool (decide (out.length ≤ 1048576))]) ∧ (out.length ≤ 1048576 → Own w' g 5 v out) ∧ Fr g w w'

set_option maxHeartbeats 1600000 in
theorem putString_any (b : List UInt8) (v : Value) (g : Nat) (s : List UInt8) (w : World) (hown : Own w g 5 v b) (hg : g ≤ w.heap.size) (hb : b.length ≤ 1099511627776) (hs : s.length ≤ 9223372036854775807) :
    Calls Tryd.prog 36 #[v, .string (bstr s)] w (PutRes (b ++ wordF s) g w) := by
  have hsz : (bstr s).size = s.length := by show s.toArray.size = _; simp
  have hwl : (b ++ wordF s).length = b.length + (s.flatMap escF).length + 2 := by unfold wordF; simp; omega
  have hge := escs_len s
  obtain ⟨a0, c0, rfl, -⟩ := hown.shape
  by_cases hbig : s.length ≤ 1048576
  · have hb0 : ¬ (1048576 : Int) < (s.length : Int) := by omega
    have hw0 : ∀ (W : World) (o : Obj), Fr W.heap.size W (W.alloc o) := Fr.new
    have hW0 := Lib.hid hw0
    have HB := Lib.hid hb
    have HS := Lib.hid hbig
    have HWL := Lib.hid hwl
    have HG := Lib.hid hg
    clear hw0 hb hbig hwl hge hg
    go_enter Tryd.func36, Tryd.ntmps36
    go_wp2_with ((with_reducible show wpList _ _ _ (⟨some 13, _, _, _, _, _⟩ :: _) _ _); go_loud (refine wl_append_k bt rfl (.tmp 11) (.tmp 12) rfl g _ _ (hown.to (hW0.out _ _).1) rfl _ 1 1 [34] rfl (rd_lit _ [34] _) (by have := HB.out; omega) (by have := HG.out; simp; omega) ?_); intro v1 w1 ho1 hb1)
    have hb1' : Fr g w w1 := ((hW0.out w _).mono HG.out).trans hb1
    clear hb1 hown
    go_loopw [0, 16] (fun v i wr => ∃ (k : Nat), k ≤ s.length ∧ i = .int .i64 k ∧ Own wr g 5 v (b ++ 34 :: (s.take k).flatMap escF) ∧ Fr g w wr) (fun _ i _ => s.length - (intOf i).toNat)
    case atStart => exact ⟨0, by omega, rfl, by simpa using ho1, hb1'⟩
    case round =>
      obtain ⟨k, hk, rfl, ho, hb⟩ := hrel
      obtain ⟨a, c, rfl, -⟩ := ho.shape
      have hlen : Hid ((b ++ 34 :: (s.take k).flatMap escF).length ≤ b.length + 6 * k + 1) := by
        show _ ≤ _
        have := escs_six (s.take k)
        rw [List.length_take] at this
        rw [List.length_append, List.length_cons]
        omega
      generalize hD : b ++ 34 :: (s.take k).flatMap escF = ds at ho hlen
      have HD := Lib.hid hD
      clear hD
      have hgr : Hid (g ≤ wr.heap.size) := by show g ≤ _; exact Nat.le_trans HG.out hb.1.size
      have hwb : Hid (∀ {w1 w2 : World}, Fr wr.heap.size wr w1 → Fr g w1 w2 → Fr g w w2) := fun h1 h2 => hb.trans ((h1.mono hgr.out).trans h2)
      by_cases hlt : k < s.length
      · have hc : (k : Int) < (s.length : Int) := by omega
        have hix := bstr_index s k hlt
        have hsn := Lib.hid (escs_take s k hlt)
        generalize hx : s.getD k 0 = x at *
        have hxl := x.toNat_lt
        have hL : Hid (ds.length ≤ 1099600000000) := by show _ ≤ _; have := hlen.out; have := HB.out; have := HS.out; omega
        clear hlen hx
        by_cases hq : x = 34 ∨ x = 92
        · have hE : Hid (b ++ 34 :: (s.take (k + 1)).flatMap escF = ds ++ [92, x]) := by
            show _ = _
            rw [hsn.out, ← HD.out]
            have h32 : ¬ x.toNat < 32 := by rcases hq with rfl | rfl <;> decide
            unfold escF
            rw [if_neg h32, if_pos hq]
            simp
          clear hsn
          have hqn : x.toNat = 34 ∨ x.toNat = 92 := hq.imp (fun h => by rw [h]; rfl) (fun h => by rw [h]; rfl)
          clear hq
          rcases hqn with hqn | hqn
          · have hqi : (x.toNat : Int) = 34 := by omega
            have hQ : Hid (∀ W : World, Rd (W.alloc (.cells #[.int .u8 92, .int .u8 34] 5)) (some ⟨W.heap.size, 0, none⟩) 2 2 [92, x]) := fun W => by
              have := rd_lit W [92, x] 5
              simpa [bv, hqi] using this
            clear hqn
            go_wp2_with ((with_reducible show wpList _ _ _ (⟨some 36, _, _, _, _, _⟩ :: _) _ _); go_loud (refine wl_append_k bt rfl (.tmp 33) (.tmp 35) rfl g _ _ (ho.to (hW0.out _ _).1) rfl _ 2 2 [92, x] rfl (hQ.out _) (by have := hL.out; omega) (by have := hgr.out; simp; omega) ?_); intro v5 w5 ho5 hb5)
            rw [← hE.out] at ho5
            go_roundw
            case rel => exact ⟨k + 1, by omega, by go_num, ho5, hwb.out (hW0.out _ _) hb5⟩
            case measure => simp [intOf]; omega
          · have hqi : (x.toNat : Int) = 92 := by omega
            have hQ : Hid (∀ W : World, Rd (W.alloc (.cells #[.int .u8 92, .int .u8 92] 5)) (some ⟨W.heap.size, 0, none⟩) 2 2 [92, x]) := fun W => by
              have := rd_lit W [92, x] 5
              simpa [bv, hqi] using this
            clear hqn
            go_wp2_with ((with_reducible show wpList _ _ _ (⟨some 36, _, _, _, _, _⟩ :: _) _ _); go_loud (refine wl_append_k bt rfl (.tmp 33) (.tmp 35) rfl g _ _ (ho.to (hW0.out _ _).1) rfl _ 2 2 [92, x] rfl (hQ.out _) (by have := hL.out; omega) (by have := hgr.out; simp; omega) ?_); intro v5 w5 ho5 hb5)
            rw [← hE.out] at ho5
            go_roundw
            case rel => exact ⟨k + 1, by omega, by go_num, ho5, hwb.out (hW0.out _ _) hb5⟩
            case measure => simp [intOf]; omega
        · have hn1 : ¬ (x.toNat : Int) = 34 := fun h => hq (.inl (UInt8.toNat_inj.1 (by have e : (34 : UInt8).toNat = 34 := rfl; omega)))
          have hn2 : ¬ (x.toNat : Int) = 92 := fun h => hq (.inr (UInt8.toNat_inj.1 (by have e : (92 : UInt8).toNat = 92 := rfl; omega)))
          have hb1 : ((x.toNat : Int) == 34) = false := beq_eq_false_iff_ne.2 hn1
          have hb2 : ((x.toNat : Int) == 92) = false := beq_eq_false_iff_ne.2 hn2
          clear hn1 hn2
          by_cases h32 : x.toNat < 32
          · have hcx : (x.toNat : Int) < 32 := by omega
            have hE : Hid (b ++ 34 :: (s.take (k + 1)).flatMap escF = ds ++ [92, 117, 48, 48, hexD (x.toNat / 16), hexD (x.toNat % 16)]) := by
              show _ = _
              rw [hsn.out, ← HD.out]
              unfold escF
              rw [if_pos h32]
              simp
            have d1 := hex_index (x.toNat / 16) (by omega)
            have d2 := hex_index (x.toNat % 16) (by omega)
            push_cast at d1 d2
            clear hsn hq
            generalize hy : x.toNat = y at *
            have hand : bits .and .u8 (y : Int) 15 = (y : Int) % 16 := by
              have h : ∀ a : Fin 256, bits .and .u8 ((a.val : Nat) : Int) 15 = ((a.val % 16 : Nat) : Int) := by decide +kernel
              have := h ⟨y, by omega⟩
              rw [this]
              push_cast
              rfl
            have hshr : (y : Int) >>> (4 : Nat) = (y : Int) / 16 := by rw [Int.shiftRight_eq_div_pow]; rfl
            clear hy h32
            go_upto_region 12 with fail
            clear hix
            have hw0 : ∀ o, Fr wr.heap.size wr (wr.alloc o).drew := fun o => (Fr.new _ _).drew
            go_region_law (go_loud (refine step_append_k bt rfl _ _ rfl g _ _ (ho.to (hw0 _).1) rfl _ 6 6 [92, 117, 48, 48, hexD (y / 16), hexD (y % 16)] rfl (rd_drew (rd_lit _ [92, 117, 48, 48, hexD (y / 16), hexD (y % 16)] _)) (by have := hL.out; omega) (by have := hgr.out; simp; omega) ?_); intro v4 w4 ho4 hb4)
            all_goals
              rw [← hE.out] at ho4
              go_wp2
              go_roundw
              case rel => exact ⟨k + 1, by omega, by go_num, ho4, hwb.out (hw0 _) hb4⟩
              case measure => simp [intOf]; omega
          · have hcx : ¬ (x.toNat : Int) < 32 := by omega
            have hE : Hid (b ++ 34 :: (s.take (k + 1)).flatMap escF = ds ++ [x]) := by
              show _ = _
              rw [hsn.out, ← HD.out]
              unfold escF
              rw [if_neg h32, if_neg hq]
              simp
            clear hsn h32 hq
            go_wp2_with ((with_reducible show wpList _ _ _ (⟨some 25, _, _, _, _, _⟩ :: _) _ _); go_loud (refine wl_append_k bt rfl (.tmp 22) (.tmp 24) rfl g _ _ (ho.to (hW0.out _ _).1) rfl _ 1 1 [x] rfl (rd_lit _ [x] _) (by have := hL.out; omega) (by have := hgr.out; simp; omega) ?_); intro v5 w5 ho5 hb5)
            rw [← hE.out] at ho5
            go_roundw
            case rel => exact ⟨k + 1, by omega, by go_num, ho5, hwb.out (hW0.out _ _) hb5⟩
            case measure => simp [intOf]; omega
      · have hc : ¬ (k : Int) < (s.length : Int) := by omega
        have hF : Hid (b ++ wordF s = ds ++ [34]) := by
          show _ = _
          rw [← HD.out, List.take_of_length_le (by omega)]
          unfold wordF
          simp
        have hL : Hid (ds.length ≤ 1099600000000) := by show _ ≤ _; have := hlen.out; have := HB.out; have := HS.out; omega
        go_wp2_with ((with_reducible show wpList _ _ _ (⟨some 52, _, _, _, _, _⟩ :: _) _ _); go_loud (refine wl_append_k bt rfl (.tmp 50) (.tmp 51) rfl g _ _ (ho.to (hW0.out _ _).1) rfl _ 1 1 [34] rfl (rd_lit _ [34] _) (by have := hL.out; omega) (by have := hgr.out; simp; omega) ?_); intro v5 w5 ho5 hb5; obtain ⟨a5, c5, rfl, -⟩ := ho5.shape)
        go_ret2
        refine ⟨_, ?_, fun _ => by rw [hF.out]; exact ho5, hwb.out (hW0.out _ _) hb5⟩
        rw [hF.out]
        simp
        omega
  · have hb0 : (1048576 : Int) < (s.length : Int) := by omega
    go_enter Tryd.func36, Tryd.ntmps36
    go_wp2
    go_ret2
    exact ⟨.slice none 0 0, by rw [decide_eq_false (show ¬ (b ++ wordF s).length ≤ 1048576 by omega)]; rfl, fun h => absurd h (by omega), Fr.refl _ _⟩
end Go.Proofs.YtehlgflpkofooaaDoor
