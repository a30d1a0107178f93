/-
  The statements' helpers that copy and cut; what the rows' list of tables gives. Conditions: those in each statement.
-/
import Derived.Test.YtiadfijeglbdlaaDoorJzB
import Derived.Test.YtiadfijeglbdlaaDoorJyA
import Derived.Test.YtiadfijeglbdlaaDoorJyC
import Derived.Test.YtiadfijeglbdlaaDoorCards
import Derived.Test.YtiadfijeglbdlaaDoorTie
import Derived.PinnedBridge
import Derived.Lib.LaidU8T
import Derived.Lib.LaidTab
import Derived.Stop.LaidErr
import Derived.Lay
import Derived.Deep.DeepHandedRow
import Derived.SevenTiedAt
namespace Go.Proofs.YtiadfijeglbdlaaDoor
open Go.RowKit

mutual
/-- without what stands more than so deep -/
def cutF : JV → Nat → JV
  | .mk k s n l ks, deep => .mk k s n (if deep = 0 then [] else cutL l (deep - 1)) (if deep = 0 then [] else ks)
def cutL : List JV → Nat → List JV
  | [], _ => []
  | v :: r, d => cutF v d :: cutL r d
end
theorem cutL_at : ∀ (l : List JV) (d i : Nat), (cutL l d)[i]? = (l[i]?).map (cutF · d)
  | [], _, _ => by unfold cutL; simp
  | v :: r, d, 0 => by unfold cutL; simp
  | v :: r, d, i + 1 => by unfold cutL; simpa using cutL_at r d i
theorem cutL_len : ∀ (l : List JV) (d : Nat), (cutL l d).length = l.length
  | [], _ => by unfold cutL; rfl
  | v :: r, d => by unfold cutL; rw [List.length_cons, List.length_cons, cutL_len r d]
structure Invcut (w0 w wr : World) (k : Int) (s : List UInt8) (n : Nat) (b off ll c lk c' m cl : Nat) (al a' : Option Addr) (kv : Value) (xs ec : List Value) (e : JV) (deep : Nat) (L : Nat → Bool) (v27 v28 v29 v30 v31 v32 v33 v34 v35 v36 v37 v38 v39 : Value) (wx : World) : Prop where
  t0 : L 0 = true → v27 = .pointer (some ⟨w.heap.size + 2, 3, none⟩)
  t1 : L 1 = true → v28 = .slice al m cl
  t2 : L 2 = true → v29 = .pointer (some ⟨w.heap.size, 3, none⟩)
  t3 : L 3 = true → v30 = .slice (some ⟨b, off, none⟩) ll c
  t4 : L 4 = true → v31 = .int .i64 (m : Int)
  t5 : L 5 = true → v32 = .pointer (some ⟨b, off + m * 5, none⟩)
  t6 : L 6 = true → v33 = .agg ec.toArray
  t7 : L 7 = true → v34 = .int .i64 (deep : Int)
  t8 : L 8 = true → v35 = .int .i64 ((deep : Int) - 1)
  t9 : L 9 = true → ∃ (k1 : Int) (s1 : ByteArray) (n1 : Int) (a1 : Option Addr) (l1 c1 : Nat) (b1 : Option Addr) (m1 d1 : Nat), v36 = .agg #[.int .i64 k1, .string s1, .int .u64 n1, .slice a1 l1 c1, .slice b1 m1 d1] ∧ SV (fun x => x < w0.heap.size ∨ (wr.heap.size ≤ x ∧ x < wx.heap.size ∧ (L 11 = true → Value.ownBlock v38 ≠ some x))) wx (cutF e (deep - 1)) [.int .i64 k1, .string s1, .int .u64 n1, .slice a1 l1 c1, .slice b1 m1 d1]
  t10 : L 10 = true → ∃ NB, v37 = .slice (some ⟨NB, 0, none⟩) 1 1 ∧ (L 11 = false → ∃ cells : List Value, v36 = .agg cells.toArray ∧ cells.length = 5 ∧ (∀ u ∈ cells, u.oneCell' = true) ∧ Arr wx NB 26 cells)
  t11 : L 11 = true → ∃ a3 c3 cells, v38 = .slice a3 (m + 1) c3 ∧ v36 = .agg (List.toArray cells) ∧ cells.length = 5 ∧ wx.ownsRow (w.heap.size + 3) 26 5 v38 (m + 1) (xs ++ cells) ∧ (∀ x, Value.ownBlock v38 = some x → (Value.ownBlock (.slice al m cl)) = some x ∨ wr.heap.size ≤ x)
  t12 : L 12 = true → v39 = .pointer (some ⟨w.heap.size + 2, 3, none⟩)
  n9 : L 11 = false → wx.ownsRow (w.heap.size + 3) 26 5 (.slice al m cl) m xs
  aO : ∃ curO, Arr wx (w.heap.size + 2) 26 curO ∧ (L 13 = false → curO = [.int .i64 k, .string (bstr s), .int .u64 (n : Int), .slice al m cl, kv]) ∧ (L 13 = true → curO = (List.set [.int .i64 k, .string (bstr s), .int .u64 (n : Int), .slice al m cl, kv] 3 v38))
  aV : Arr wx w.heap.size 26 [.int .i64 k, .string (bstr s), .int .u64 (n : Int), .slice (some ⟨b, off, none⟩) ll c, .slice a' lk c']
  bl9 : L 11 = false → Below wr.heap.size wr wx
  tch : Tch wr wx ((w.heap.size + 2) :: (Value.ownBlock (.slice al m cl)).toList)
/-- a round of cut -/
structure OLcut (w0 w wr : World) (k : Int) (s : List UInt8) (n : Nat) (a a' : Option Addr) (c c' ll lk deep : Nat) (l : List JV) (m : Nat) (lv : Value) (xs : List Value) : Prop where
  bl : Below w.heap.size w wr
  sz : w.heap.size + 3 ≤ wr.heap.size
  box : Arr wr w.heap.size 26 [.int .i64 k, .string (bstr s), .int .u64 (n : Int), .slice a ll c, .slice a' lk c']
  res : Arr wr (w.heap.size + 1) 26 zC
  out : Arr wr (w.heap.size + 2) 26 [.int .i64 k, .string (bstr s), .int .u64 (n : Int), lv, .slice a' lk c']
  row : wr.ownsRow (w.heap.size + 3) 26 5 lv m xs
  sv : ∀ i v, ((cutL l (deep - 1)).take m)[i]? = some v → SV (fun x => x < w0.heap.size ∨ (w.heap.size + 3 ≤ x ∧ x < wr.heap.size ∧ lv.ownBlock ≠ some x)) wr v (cell5 xs i)

mutual
/-- all lists are so long at most that there is room for a copy -/
def roomV : JV → Prop
  | .mk _ _ _ l ks => l.length ≤ 1759218604440 ∧ ks.length ≤ 8796093022208 ∧ roomL l
def roomL : List JV → Prop
  | [] => True
  | v :: r => roomV v ∧ roomL r
end
theorem room_at : ∀ (l : List JV) (i : Nat) (v : JV), roomL l → l[i]? = some v → roomV v
  | [], _, _, _, h => by simp at h
  | u :: r, 0, v, h, hi => by
    unfold roomL at h
    cases hi
    exact h.1
  | u :: r, i + 1, v, h, hi => by
    unfold roomL at h
    exact room_at r i v h.2 (by simpa using hi)
mutual
theorem few_room : ∀ (v : JV), fewV v 1073741823 → roomV v
  | .mk k s n l ks, h => by
    unfold fewV at h
    unfold roomV
    exact ⟨by omega, by omega, few_roomL l h.2.2⟩
theorem few_roomL : ∀ (l : List JV), fewL l 1073741823 → roomL l
  | [], _ => by unfold roomL; trivial
  | v :: r, h => by
    unfold fewL at h
    unfold roomL
    exact ⟨few_room v h.1, few_roomL r h.2⟩
end
set_option maxRecDepth 100000 in
set_option maxHeartbeats 6400000 in
theorem cut_all : ∀ (N : Nat) (v : JV) (cs : List Value) (w0 w : World) (deep : Nat), SizeOf.sizeOf v ≤ N → RV w0 v cs → Below w0.heap.size w0 w → roomV v → deep ≤ 1000000 →
    Calls Tryd.prog 9 #[.agg cs.toArray, .int .i64 (deep : Int)] w fun e w' => ∃ cs', e = .returned (.agg cs'.toArray) ∧ SV (fun x => x < w0.heap.size ∨ w.heap.size ≤ x) w' (cutF v deep) cs' ∧ Below w.heap.size w w' := by
  intro N
  induction N with
  | zero =>
    rintro ⟨k, s, n, l, ks⟩ cs w0 w deep hN
    simp only [JV.mk.sizeOf_spec] at hN
    omega
  | succ N ih =>
    rintro ⟨k, s, n, l, ks⟩ cs w0 w deep hN hv hb0 hf hdp
    unfold roomV at hf
    obtain ⟨hf1, hf2, hf3⟩ := hf
    obtain ⟨a, c, a', c', rfl, hk, hks, hlc, hac, hl⟩ := rv_five hv
    have hW0 : Hid (w0.heap.size ≤ w.heap.size) := hb0.size
    have hA0 : Arr ((w.alloc (.cells #[.int .i64 k, .string (bstr s), .int .u64 (n : Int), .slice a l.length c, .slice a' ks.length c'] 26)).alloc (.cells #[.int .i64 0, .string ⟨#[]⟩, .int .u64 0, .slice none 0 0, .slice none 0 0] 26)) w.heap.size 26 [.int .i64 k, .string (bstr s), .int .u64 (n : Int), .slice a l.length c, .slice a' ks.length c'] := (Arr.new w 26 [.int .i64 k, .string (bstr s), .int .u64 (n : Int), .slice a l.length c, .slice a' ks.length c']).kept ((Below.refl _ _).alloc (Nat.le_refl _) (.cells zC.toArray 26))
    have hA1 : Arr ((w.alloc (.cells #[.int .i64 k, .string (bstr s), .int .u64 (n : Int), .slice a l.length c, .slice a' ks.length c'] 26)).alloc (.cells #[.int .i64 0, .string ⟨#[]⟩, .int .u64 0, .slice none 0 0, .slice none 0 0] 26)) (w.heap.size + 1) 26 zC := by
      have := Arr.new (w.alloc (.cells #[.int .i64 k, .string (bstr s), .int .u64 (n : Int), .slice a l.length c, .slice a' ks.length c'] 26)) 26 zC
      rw [World.size_alloc] at this
      exact this
    have hB2 : Below w.heap.size w ((w.alloc (.cells #[.int .i64 k, .string (bstr s), .int .u64 (n : Int), .slice a l.length c, .slice a' ks.length c'] 26)).alloc (.cells #[.int .i64 0, .string ⟨#[]⟩, .int .u64 0, .slice none 0 0, .slice none 0 0] 26)) := ((Below.refl _ _).alloc (Nat.le_refl _) _).alloc (by simp) _
    have hs2 : Hid (((w.alloc (.cells #[.int .i64 k, .string (bstr s), .int .u64 (n : Int), .slice a l.length c, .slice a' ks.length c'] 26)).alloc (.cells #[.int .i64 0, .string ⟨#[]⟩, .int .u64 0, .slice none 0 0, .slice none 0 0] 26)).heap.size = w.heap.size + 2) := by show _ = _; simp
    have HKS := Lib.hid hks
    have HB0 := Lib.hid hb0
    have HK := Lib.hid hk
    have HF3 := Lib.hid hf3
    have HL := Lib.hid hl
    have IH := Lib.hid ih
    have HNN := Lib.hid hN
    clear hv hks hb0 hk hf3 hl hlc hac ih hN
    go_enter Tryd.func9, Tryd.ntmps9
    go_upto_region 1 with fail
    generalize ((w.alloc (.cells #[.int .i64 k, .string (bstr s), .int .u64 (n : Int), .slice a l.length c, .slice a' ks.length c'] 26)).alloc (.cells #[.int .i64 0, .string ⟨#[]⟩, .int .u64 0, .slice none 0 0, .slice none 0 0] 26)) = W2 at *
    have q0 := (hA0.cell 0).trans (show _ = some (Value.int .i64 k) from rfl)
    have q1 := (hA0.cell 1).trans (show _ = some (Value.string (bstr s)) from rfl)
    have hs2e := hs2.out
    have q2 := (hA0.cell 2).trans (show _ = some (Value.int .u64 (n : Int)) from rfl)
    have q4 := (hA0.cell 4).trans (show _ = some (Value.slice a' ks.length c') from rfl)
    go_upto_region 3 with ((with_reducible show wpList _ _ _ (⟨none, _, _, _, _, _⟩ :: _) _ _); go_loud (refine wl_store rfl 26 _ _ rfl (w.heap.size + 2) 0 rfl [.int .i64 k, .string (bstr s), .int .u64 (n : Int), .slice none 0 0, .slice a' ks.length c'] rfl 26 zC (by have := Arr.new W2 26 zC; rw [hs2.out] at this; exact this) (by kernel_rfl) (by simp [zC]) (by simp [Value.oneCell']) ?_); intro w3 hO3 hg3 hs3)
    rw [whole_store zC [.int .i64 k, .string (bstr s), .int .u64 (n : Int), .slice none 0 0, .slice a' ks.length c'] rfl] at hO3
    have hA3 := (hA0.kept ((Below.refl _ _).alloc (Nat.le_refl _) _)).grown hg3 (by simp)
    have hR3 := (hA1.kept ((Below.refl _ _).alloc (Nat.le_refl _) _)).grown hg3 (by simp)
    have hB3 : Below w.heap.size w w3 := (hB2.alloc hB2.size _).grown hg3 (by have := hB2.size; simp; omega) (by intro k hk; cases hk; omega)
    have hz3 : Hid (w3.heap.size = w.heap.size + 3) := by show _ = _; rw [hs3, World.size_alloc, hs2.out]
    clear q0 q1 q2 q4 hA0 hA1 hg3 hs3 hB2 hs2e
    obtain ⟨lk, hlk⟩ : ∃ lk, lk = ks.length := ⟨_, rfl⟩
    have HLK := Lib.hid hlk
    rw [← hlk] at hA3 hf2 hO3
    rw [← hlk]
    clear hlk
    have hOL0 : OLcut w0 w w3 k s n a a' c c' l.length lk deep l 0 (.slice none 0 0) [] := {
      bl := hB3
      sz := by have := hz3.out; omega
      box := hA3
      res := hR3
      out := hO3
      row := World.ownsRow_nil _ _ _ _
      sv := fun i v hi => by simp at hi }
    have HOL0 := Lib.hid hOL0
    clear hOL0 hO3 hA3 hR3 hB3
    obtain ⟨ll, hll⟩ : ∃ ll, ll = l.length := ⟨_, rfl⟩
    have HLL := Lib.hid hll
    rw [← hll] at HOL0 hf1
    rw [← hll]
    clear hll
    have HDP : deep = 0 ∨ 0 < deep := by omega
    rcases HDP with hd0 | hd0
    · subst hd0
      go_loopw [6] (fun i wr => i = .int .i64 0 ∧ wr = w3) (fun i _ => ll - (intOf i).toNat)
      case atStart => exact ⟨rfl, rfl⟩
      case round =>
        obtain ⟨rfl, rfl⟩ := hrel
        have hOL := HOL0.out
        have hbx3 := (hOL.box.cell 3).trans (show _ = some (Value.slice a ll c) from rfl)
        have z0 := (hOL.out.cell 0).trans (show _ = some (Value.int .i64 k) from rfl)
        have z1 := (hOL.out.cell 1).trans (show _ = some (Value.string (bstr s)) from rfl)
        have z2 := (hOL.out.cell 2).trans (show _ = some (Value.int .u64 (n : Int)) from rfl)
        have z3 := (hOL.out.cell 3).trans (show _ = some (Value.slice none 0 0) from rfl)
        have z4 := (hOL.out.cell 4).trans (show _ = some (Value.slice a' lk c') from rfl)
        have zf := hOL.out.frozen 4
        have hO4 := hOL.out.store 4 (.slice none 0 0)
        have hR4 := hOL.res.other ⟨w.heap.size + 2, 4, none⟩ (by show w.heap.size + 2 ≠ _; omega) (.slice none 0 0)
        have hB4 : Below w.heap.size w (wr.setCell ⟨w.heap.size + 2, 4, none⟩ (.slice none 0 0)) := by
          have ht := tch_cell wr ⟨w.heap.size + 2, 4, none⟩ (.slice none 0 0)
          have hb := hOL.bl
          exact ⟨hb.os, hb.tape, hb.output, by have := hb.size; rw [World.size_setCell]; exact this, fun i hi => (ht.block i (by have := hb.size; omega) (by simp; omega)).trans (hb.block i hi)⟩
        have y0 := (hO4.cell 0).trans (show _ = some (Value.int .i64 k) from rfl)
        have y1 := (hO4.cell 1).trans (show _ = some (Value.string (bstr s)) from rfl)
        have y2 := (hO4.cell 2).trans (show _ = some (Value.int .u64 (n : Int)) from rfl)
        have y3 := (hO4.cell 3).trans (show _ = some (Value.slice none 0 0) from rfl)
        have y4 := (hO4.cell 4).trans (show _ = some (Value.slice none 0 0) from rfl)
        have HO4 := Lib.hid hO4
        have HB4 := Lib.hid hB4
        clear hOL hO4 hB4
        by_cases hl0 : ll = 0
        case' pos => subst hl0
        case' neg => have hlp : (0 : Int) < (ll : Int) := (by omega)
        all_goals
          go_wp2_with ((with_reducible show wpList _ _ _ (⟨none, _, _, _, _, _⟩ :: _) _ _); refine wl_store rfl 26 _ _ rfl (w.heap.size + 1) 0 rfl [.int .i64 k, .string (bstr s), .int .u64 (n : Int), .slice none 0 0, .slice none 0 0] rfl 26 zC hR4 (by kernel_rfl) (by simp [zC]) (by simp [Value.oneCell']) ?_; intro w9 hR9 hg9 hs9)
          rw [whole_store zC [.int .i64 k, .string (bstr s), .int .u64 (n : Int), .slice none 0 0, .slice none 0 0] rfl] at hR9
          refine end_cell rfl (w.heap.size + 1) 26 _ _ rfl hR9 Tryd.underlying26 rfl (by kernel_rfl) rfl ?_
          refine ⟨_, rfl, ?_, HB4.out.grown hg9 HB4.out.size (by intro x hx; cases hx; omega)⟩
          have e : cutF (.mk k s n l ks) 0 = .mk k s n [] [] := by unfold cutF; rfl
          rw [e]
          exact sv_rows (D := fun _ => False) (B := 0) (T := 26) (xs := []) HK.out ⟨none, 0, rfl, ⟨⟨by simp, by omega, fun _ => rfl, fun h => by simp at h⟩, fun h => by simp at h⟩⟩ (World.ownsRow_nil _ _ _ _) (fun i v hi => by simp at hi) (fun _ h => h.elim) (fun _ h => by cases h)
    · have hdeep : (0 : Int) < (deep : Int) := by omega
      have hdne : ¬ (deep : Int) = 0 := by omega
      have hDEEP : Hid (IntKind.i64.wrap ((deep : Int) - 1) = (deep : Int) - 1) := by show _ = _; rw [IntKind.wrap_i64]; omega
      go_loopw [6] (fun i wr => ∃ (m : Nat) (lv : Value) (xs : List Value), m ≤ ll ∧ i = .int .i64 m ∧ OLcut w0 w wr k s n a a' c c' ll lk deep l m lv xs) (fun i _ => ll - (intOf i).toNat)
      case atStart => exact ⟨0, _, _, Nat.zero_le _, rfl, HOL0.out⟩
      case round =>
        clear HOL0
        obtain ⟨m, lv, xs, hm, rfl, hOL⟩ := hrel
        obtain ⟨al, cl, rfl⟩ := row_n hOL.row
        have hbx3 := (hOL.box.cell 3).trans (show _ = some (Value.slice a ll c) from rfl)
        by_cases hlt : m < ll
        · have hml : (m : Int) < (ll : Int) := by omega
          obtain ⟨b, off, rfl, hbw, hrl⟩ := HL.out (by rw [← HLL.out]; omega)
          obtain ⟨e, he⟩ : ∃ e, l[m]? = some e := ⟨_, List.getElem?_eq_getElem (by rw [← HLL.out]; exact hlt)⟩
          obtain ⟨ec, ec5, ecell, erv⟩ := rl_at l b off m e hrl he
          have hsize := jv_mem (k := k) (s := s) (n := n) (ks := ks) (List.mem_of_getElem? he)
          have hCALL : Hid (∀ W, Below wr.heap.size wr W → Calls Tryd.prog 9 #[.agg ec.toArray, .int .i64 ((deep : Int) - 1)] W fun e' w' => ∃ cs', e' = .returned (.agg cs'.toArray) ∧ SV (fun x => x < w0.heap.size ∨ W.heap.size ≤ x) w' (cutF e (deep - 1)) cs' ∧ Below W.heap.size W w') := fun W hW => by
            have := IH.out e ec w0 W (deep - 1) (by have := HNN.out; omega) erv (HB0.out.trans ((hOL.bl.trans (hW.mono hOL.bl.size)).mono hW0.out)) (room_at l m e HF3.out he) (by omega)
            rw [show ((deep - 1 : Nat) : Int) = (deep : Int) - 1 by omega] at this
            exact this
          have hRG : Hid (∀ W, Below wr.heap.size wr W → W.rangeAt b (off + m * 5) ec) := fun W hW j v hj => by
            have hj5 : j < 5 := by rw [← ec5]; exact (List.getElem?_eq_some_iff.1 hj).1
            have h1 := ecell j hj5
            rw [hj] at h1
            have hBB : Below w0.heap.size w0 W := HB0.out.trans ((hOL.bl.trans (hW.mono hOL.bl.size)).mono hW0.out)
            rw [show off + m * 5 + j = off + (5 * m + j) by omega]
            exact (hBB.cell (p := ⟨b, off + (5 * m + j), none⟩) hbw).trans h1
          have hEL := Lib.hid ec5
          have HE := Lib.hid he
          have HLT : Hid (m < l.length) := by show _ < _; rw [← HLL.out]; exact hlt
          have HOL := Lib.hid hOL
          have hROW := Lib.hid hOL.row
          have hrow := hOL.row
          have hout := hOL.out
          have hbox := hOL.box
          have hSZ := Lib.hid hOL.sz
          have hm30 : m + 1 ≤ 1759218604441 := by omega
          clear hsize erv ecell hrl he ec5 hOL
          go_upto_region 5 with fail
          refine wp_region_steps [[], [0], [], [2], [], [3, 4], [5], [], [7], [6, 8], [9], [1, 9, 10], [0, 1, 2, 3, 4, 5, 6, 7, 8, 9, 10, 11], [12, 0, 1, 2, 3, 4, 5, 6, 7, 8, 9, 10, 11]] (by kernel_rfl) (by kernel_rfl) (fun L a wx => ∃ v27 v28 v29 v30 v31 v32 v33 v34 v35 v36 v37 v38 v39, a = ⟨#[.agg #[.int .i64 k, .string (bstr s), .int .u64 (n : Int), .slice (some ⟨b, off, none⟩) ll c, .slice a' lk c'], .int .i64 (deep : Int), .pointer (some ⟨w.heap.size, 0, none⟩), undef, .pointer (some ⟨w.heap.size + 1, 0, none⟩), .pointer (some ⟨w.heap.size + 2, 0, none⟩), .int .i64 (m : Int), .pointer (some ⟨w.heap.size, 0, none⟩), .int .i64 k, .pointer (some ⟨w.heap.size, 1, none⟩), .string (bstr s), .pointer (some ⟨w.heap.size, 2, none⟩), .int .u64 (n : Int), .pointer (some ⟨w.heap.size, 4, none⟩), .slice a' lk c', .agg #[.int .i64 k, .string (bstr s), .int .u64 (n : Int), .slice none 0 0, .slice a' lk c'], .int .i64 (m : Int), .pointer (some ⟨w.heap.size, 3, none⟩), .slice (some ⟨b, off, none⟩) ll c, .int .i64 (ll : Int), .bool true, .bool true, .int .i64 (deep : Int), .bool true, .bool true, u25, u26, v27, v28, v29, v30, v31, v32, v33, v34, v35, v36, v37, v38, v39, undef, undef, undef, undef], []⟩ ∧ Invcut w0 w wr k s n b off ll c lk c' m cl al a' (.slice a' lk c') xs ec e deep L v27 v28 v29 v30 v31 v32 v33 v34 v35 v36 v37 v38 v39 wx) ?_ ⟨?_, ?_, ?_, ?_, ?_, ?_, ?_, ?_, ?_, ?_, ?_, ?_, ?_, ?_, trivial⟩ ?_
          · refine ⟨_, _, _, _, _, _, _, _, _, _, _, _, _, rfl, ⟨?_, ?_, ?_, ?_, ?_, ?_, ?_, ?_, ?_, ?_, ?_, ?_, ?_, fun _ => hrow, ⟨_, hout.drew, fun _ => rfl, fun h => absurd h (by decide)⟩, hbox.drew, fun _ => (Below.refl _ _).drew, ⟨rfl, rfl, rfl, Nat.le_refl _, fun _ _ _ => rfl⟩⟩⟩ <;> (intro h; exact absurd h (by decide))
          · rintro L a wx ⟨v27, v28, v29, v30, v31, v32, v33, v34, v35, v36, v37, v38, v39, rfl, hI⟩ hL hdep hcl K hK
            go_simp
            exact hK _ _ ⟨_, v28, v29, v30, v31, v32, v33, v34, v35, v36, v37, v38, v39, rfl, ⟨fun _ => rfl, hI.t1, hI.t2, hI.t3, hI.t4, hI.t5, hI.t6, hI.t7, hI.t8, hI.t9, hI.t10, hI.t11, hI.t12, hI.n9, hI.aO, hI.aV, hI.bl9, hI.tch⟩⟩
          · rintro L a wx ⟨v27, v28, v29, v30, v31, v32, v33, v34, v35, v36, v37, v38, v39, rfl, hI⟩ hL hdep hcl K hK
            obtain rfl := hI.t0 (hdep 0 (by decide))
            obtain ⟨curO, o1, o2, o3⟩ := hI.aO
            obtain rfl := o2 (by cases h12 : L 13 with | false => rfl | true => exact absurd (hcl 13 (by decide) h12 1 (by decide)) (by rw [hL]; decide))
            have c0 := (o1.cell 3).trans (show _ = some (Value.slice al m cl) from rfl)
            go_simp
            exact hK _ _ ⟨_, _, v29, v30, v31, v32, v33, v34, v35, v36, v37, v38, v39, rfl, ⟨hI.t0, fun _ => rfl, hI.t2, hI.t3, hI.t4, hI.t5, hI.t6, hI.t7, hI.t8, hI.t9, hI.t10, hI.t11, hI.t12, hI.n9, ⟨_, o1, fun _ => rfl, o3⟩, hI.aV, hI.bl9, hI.tch⟩⟩
          · rintro L a wx ⟨v27, v28, v29, v30, v31, v32, v33, v34, v35, v36, v37, v38, v39, rfl, hI⟩ hL hdep hcl K hK
            go_simp
            exact hK _ _ ⟨v27, v28, _, v30, v31, v32, v33, v34, v35, v36, v37, v38, v39, rfl, ⟨hI.t0, hI.t1, fun _ => rfl, hI.t3, hI.t4, hI.t5, hI.t6, hI.t7, hI.t8, hI.t9, hI.t10, hI.t11, hI.t12, hI.n9, hI.aO, hI.aV, hI.bl9, hI.tch⟩⟩
          · rintro L a wx ⟨v27, v28, v29, v30, v31, v32, v33, v34, v35, v36, v37, v38, v39, rfl, hI⟩ hL hdep hcl K hK
            obtain rfl := hI.t2 (hdep 2 (by decide))
            have c0 := (hI.aV.cell 3).trans (show _ = some (Value.slice (some ⟨b, off, none⟩) ll c) from rfl)
            go_simp
            exact hK _ _ ⟨v27, v28, _, _, v31, v32, v33, v34, v35, v36, v37, v38, v39, rfl, ⟨hI.t0, hI.t1, hI.t2, fun _ => rfl, hI.t4, hI.t5, hI.t6, hI.t7, hI.t8, hI.t9, hI.t10, hI.t11, hI.t12, hI.n9, hI.aO, hI.aV, hI.bl9, hI.tch⟩⟩
          · rintro L a wx ⟨v27, v28, v29, v30, v31, v32, v33, v34, v35, v36, v37, v38, v39, rfl, hI⟩ hL hdep hcl K hK
            go_simp
            exact hK _ _ ⟨v27, v28, v29, v30, _, v32, v33, v34, v35, v36, v37, v38, v39, rfl, ⟨hI.t0, hI.t1, hI.t2, hI.t3, fun _ => rfl, hI.t5, hI.t6, hI.t7, hI.t8, hI.t9, hI.t10, hI.t11, hI.t12, hI.n9, hI.aO, hI.aV, hI.bl9, hI.tch⟩⟩
          · rintro L a wx ⟨v27, v28, v29, v30, v31, v32, v33, v34, v35, v36, v37, v38, v39, rfl, hI⟩ hL hdep hcl K hK
            obtain rfl := hI.t3 (hdep 3 (by decide))
            obtain rfl := hI.t4 (hdep 4 (by decide))
            have hmm := hml
            go_simp
            exact hK _ _ ⟨v27, v28, v29, _, _, _, v33, v34, v35, v36, v37, v38, v39, rfl, ⟨hI.t0, hI.t1, hI.t2, hI.t3, hI.t4, fun _ => rfl, hI.t6, hI.t7, hI.t8, hI.t9, hI.t10, hI.t11, hI.t12, hI.n9, hI.aO, hI.aV, hI.bl9, hI.tch⟩⟩
          · rintro L a wx ⟨v27, v28, v29, v30, v31, v32, v33, v34, v35, v36, v37, v38, v39, rfl, hI⟩ hL hdep hcl K hK
            obtain rfl := hI.t5 (hdep 5 (by decide))
            have h9 : L 11 = false := by cases h9 : L 11 with | false => rfl | true => exact absurd (hcl 9 (by decide) (hcl 10 (by decide) (hcl 11 (by decide) h9 10 (by decide)) 9 (by decide)) 6 (by decide)) (by rw [hL]; decide)
            refine wp_load_mid 26 _ rfl b (off + m * 5) rfl ec _ (hRG.out _ (hI.bl9 h9)) Tryd.underlying26 rfl (by rw [hEL.out]; kernel_rfl) ?_
            exact hK _ _ ⟨v27, v28, v29, v30, v31, _, _, v34, v35, v36, v37, v38, v39, rfl, ⟨hI.t0, hI.t1, hI.t2, hI.t3, hI.t4, hI.t5, fun _ => rfl, hI.t7, hI.t8, hI.t9, hI.t10, hI.t11, hI.t12, hI.n9, hI.aO, hI.aV, hI.bl9, hI.tch⟩⟩
          · rintro L a wx ⟨v27, v28, v29, v30, v31, v32, v33, v34, v35, v36, v37, v38, v39, rfl, hI⟩ hL hdep hcl K hK
            go_simp
            exact hK _ _ ⟨v27, v28, v29, v30, v31, v32, v33, _, v35, v36, v37, v38, v39, rfl, ⟨hI.t0, hI.t1, hI.t2, hI.t3, hI.t4, hI.t5, hI.t6, fun _ => rfl, hI.t8, hI.t9, hI.t10, hI.t11, hI.t12, hI.n9, hI.aO, hI.aV, hI.bl9, hI.tch⟩⟩
          · rintro L a wx ⟨v27, v28, v29, v30, v31, v32, v33, v34, v35, v36, v37, v38, v39, rfl, hI⟩ hL hdep hcl K hK
            obtain rfl := hI.t7 (hdep 7 (by decide))
            have hwr := hDEEP.out
            go_simp
            exact hK _ _ ⟨v27, v28, v29, v30, v31, v32, v33, _, _, v36, v37, v38, v39, rfl, ⟨hI.t0, hI.t1, hI.t2, hI.t3, hI.t4, hI.t5, hI.t6, hI.t7, fun _ => rfl, hI.t9, hI.t10, hI.t11, hI.t12, hI.n9, hI.aO, hI.aV, hI.bl9, hI.tch⟩⟩
          · rintro L a wx ⟨v27, v28, v29, v30, v31, v32, v33, v34, v35, v36, v37, v38, v39, rfl, hI⟩ hL hdep hcl K hK
            obtain rfl := hI.t6 (hdep 6 (by decide))
            obtain rfl := hI.t8 (hdep 8 (by decide))
            have h9 : L 11 = false := by cases h9 : L 11 with | false => rfl | true => exact absurd (hcl 10 (by decide) (hcl 11 (by decide) h9 10 (by decide)) 9 (by decide)) (by rw [hL]; decide)
            have hsz := (hI.bl9 h9).size
            go_simp
            refine (hCALL.out _ (hI.bl9 h9)).mono ?_
            rintro e w' ⟨cs', rfl, hsv, hb⟩
            obtain ⟨k1, s1, n1, a1, l1, c1, b1, m1, d1, rfl⟩ := pv_shape (sv_pv _ _ hsv)
            have hbw : Below wr.heap.size wr w' := (hI.bl9 h9).trans (hb.mono hsz)
            exact hK _ _ ⟨v27, v28, v29, v30, v31, v32, _, v34, _, _, v37, v38, v39, rfl, ⟨hI.t0, hI.t1, hI.t2, hI.t3, hI.t4, hI.t5, hI.t6, hI.t7, hI.t8, fun _ => ⟨k1, s1, n1, a1, l1, c1, b1, m1, d1, rfl, sv_to (fun x hx hxl => hx.imp id (fun hx => ⟨by omega, hxl, fun h => by rw [show L 11 = true from h] at h9; cases h9⟩)) (fun _ _ _ => rfl) _ _ hsv⟩, (fun h => absurd (hcl 10 (by decide) h 9 (by decide)) (by rw [hL]; decide)), (fun h => by rw [show L 11 = true from h] at h9; cases h9), hI.t12, fun h => (hI.n9 h).kept (gb hb none) (by cases al <;> simp [Value.ownBlock]), (by obtain ⟨curO, o1, o2, o3⟩ := hI.aO; exact ⟨curO, o1.kept hb, o2, o3⟩), hI.aV.kept hb, fun _ => hbw, hI.tch.trans (Tch.of_below hb _)⟩⟩
          · rintro L a wx ⟨v27, v28, v29, v30, v31, v32, v33, v34, v35, v36, v37, v38, v39, rfl, hI⟩ hL hdep hcl K hK
            have h9 : L 11 = false := by cases h9 : L 11 with | false => rfl | true => exact absurd (hcl 11 (by decide) h9 10 (by decide)) (by rw [hL]; decide)
            obtain ⟨k1, s1, n1, a1, l1, c1, b1, m1, d1, rfl, hsv⟩ := hI.t9 (hdep 9 (by decide))
            have hb := (Below.refl wx.heap.size wx).alloc (Nat.le_refl _) (.cells #[.int .i64 k1, .string s1, .int .u64 n1, .slice a1 l1 c1, .slice b1 m1 d1] 26)
            have hN := Arr.new wx 26 [.int .i64 k1, .string s1, .int .u64 n1, .slice a1 l1 c1, .slice b1 m1 d1]
            have hsz := (hI.bl9 h9).size
            have hbw : Below wr.heap.size wr (wx.alloc (.cells #[.int .i64 k1, .string s1, .int .u64 n1, .slice a1 l1 c1, .slice b1 m1 d1] 26)) := (hI.bl9 h9).trans (hb.mono hsz)
            go_simp
            exact hK _ _ ⟨v27, v28, v29, v30, v31, v32, v33, v34, v35, _, _, v38, v39, rfl, ⟨hI.t0, hI.t1, hI.t2, hI.t3, hI.t4, hI.t5, hI.t6, hI.t7, hI.t8, fun _ => ⟨k1, s1, n1, a1, l1, c1, b1, m1, d1, rfl, sv_to (fun x hx hxl => hx.imp id (fun hx => ⟨hx.1, by simp; omega, hx.2.2⟩)) (Stay.of_below hb) _ _ hsv⟩, fun _ => ⟨_, rfl, fun _ => ⟨_, rfl, rfl, by simp [Value.oneCell'], hN⟩⟩, (fun h => by rw [show L 11 = true from h] at h9; cases h9), hI.t12, fun h => (hI.n9 h).alloc _, (by obtain ⟨curO, o1, o2, o3⟩ := hI.aO; exact ⟨curO, o1.kept hb, o2, o3⟩), hI.aV.kept hb, fun _ => hbw, hI.tch.trans (Tch.of_below hb _)⟩⟩
          · rintro L a wx ⟨v27, v28, v29, v30, v31, v32, v33, v34, v35, v36, v37, v38, v39, rfl, hI⟩ hL hdep hcl K hK
            obtain rfl := hI.t1 (hdep 1 (by decide))
            obtain ⟨k1, s1, n1, a1, l1, c1, b1, m1, d1, rfl, hsv⟩ := hI.t9 (hdep 9 (by decide))
            obtain ⟨NB, rfl, hNB⟩ := hI.t10 (hdep 10 (by decide))
            obtain ⟨cells, hce, hc5, hone, hArr⟩ := hNB hL
            have hcells : cells = [.int .i64 k1, .string s1, .int .u64 n1, .slice a1 l1 c1, .slice b1 m1 d1] := by have := Value.agg.inj hce; exact (by simpa using congrArg Array.toList this.symm)
            subst hcells
            have hrow := hI.n9 hL
            have hbl := hI.bl9 hL
            have hsz := hbl.size
            have hsz0 := hSZ.out
            have hlvb := World.ownsRow.lt hROW.out
            refine ow_append_R (.tmp 28) (.tmp 37) rfl (w.heap.size + 3) m _ _ hrow rfl NB 26 [.int .i64 k1, .string s1, .int .u64 n1, .slice a1 l1 c1, .slice b1 m1 d1] rfl (by simp [Value.oneCell']) rfl hArr hm30 (by omega) ?_
            intro v' w' h1 h2 h3
            obtain ⟨a3, c3, rfl⟩ := row_n h1
            have hX : ∀ x, Value.ownBlock (.slice a3 (m + 1) c3) = some x → (Value.ownBlock (.slice al m cl)) = some x ∨ wr.heap.size ≤ x := fun x hx => (h3 x hx).imp id (fun h => by omega)
            have hsv2 := sv_to (S' := (fun x => x < w0.heap.size ∨ (wr.heap.size ≤ x ∧ x < w'.heap.size ∧ (true = true → Value.ownBlock (.slice a3 (m + 1) c3) ≠ some x)))) (fun x hx hxl => hx.imp id (fun hx => ⟨hx.1, by have := h2.size; omega, fun _ e => by rcases h3 x e with h | h; have := (hlvb x h).2; omega; omega⟩)) (h2.stay (fun x hx hS => by have := hlvb x (by simpa using hx); rcases hS with hS | hS; have := hW0.out; omega; omega)) _ _ hsv
            exact hK _ _ ⟨v27, _, v29, v30, v31, v32, v33, v34, v35, _, _, _, v39, rfl, ⟨hI.t0, hI.t1, hI.t2, hI.t3, hI.t4, hI.t5, hI.t6, hI.t7, hI.t8, fun _ => ⟨k1, s1, n1, a1, l1, c1, b1, m1, d1, rfl, hsv2⟩, fun _ => ⟨NB, rfl, (fun h => Bool.noConfusion (show true = false from h))⟩, fun _ => ⟨a3, c3, _, rfl, rfl, rfl, h1, hX⟩, hI.t12, (fun h => Bool.noConfusion (show true = false from h)), (by obtain ⟨curO, o1, o2, o3⟩ := hI.aO; exact ⟨curO, h2.arr o1 (fun e => by have := (hlvb _ (by simpa using e)).1; omega), o2, fun h => by have := hcl 13 (by decide) (show L 13 = true from h) 11 (by decide); rw [hL] at this; cases this⟩), h2.arr hI.aV (fun e => by have := (hlvb _ (by simpa using e)).1; omega), (fun h => Bool.noConfusion (show true = false from h)), hI.tch.trans (h2.mono (fun b hb => .inl (List.mem_cons_of_mem _ hb)))⟩⟩
          · rintro L a wx ⟨v27, v28, v29, v30, v31, v32, v33, v34, v35, v36, v37, v38, v39, rfl, hI⟩ hL hdep hcl K hK
            obtain rfl := hI.t0 (hdep 0 (by decide))
            obtain rfl := hI.t1 (hdep 1 (by decide))
            obtain rfl := hI.t2 (hdep 2 (by decide))
            obtain rfl := hI.t3 (hdep 3 (by decide))
            obtain rfl := hI.t4 (hdep 4 (by decide))
            obtain rfl := hI.t5 (hdep 5 (by decide))
            obtain rfl := hI.t6 (hdep 6 (by decide))
            obtain rfl := hI.t7 (hdep 7 (by decide))
            obtain rfl := hI.t8 (hdep 8 (by decide))
            go_simp
            exact hK _ _ ⟨_, _, _, _, _, _, _, _, _, v36, v37, v38, _, rfl, ⟨hI.t0, hI.t1, hI.t2, hI.t3, hI.t4, hI.t5, hI.t6, hI.t7, hI.t8, hI.t9, hI.t10, hI.t11, fun _ => rfl, hI.n9, hI.aO, hI.aV, hI.bl9, hI.tch⟩⟩
          · rintro L a wx ⟨v27, v28, v29, v30, v31, v32, v33, v34, v35, v36, v37, v38, v39, rfl, hI⟩ hL hdep hcl K hK
            obtain rfl := hI.t12 (hdep 12 (by decide))
            obtain rfl := hI.t0 (hdep 0 (by decide))
            obtain rfl := hI.t1 (hdep 1 (by decide))
            obtain rfl := hI.t2 (hdep 2 (by decide))
            obtain rfl := hI.t3 (hdep 3 (by decide))
            obtain rfl := hI.t4 (hdep 4 (by decide))
            obtain rfl := hI.t5 (hdep 5 (by decide))
            obtain rfl := hI.t6 (hdep 6 (by decide))
            obtain rfl := hI.t7 (hdep 7 (by decide))
            obtain rfl := hI.t8 (hdep 8 (by decide))
            obtain ⟨k1, s1, n1, a1, l1, c1, b1, m1, d1, rfl, hsv⟩ := hI.t9 (hdep 9 (by decide))
            obtain ⟨NB, rfl, -⟩ := hI.t10 (hdep 10 (by decide))
            obtain ⟨a3, c3, cells, rfl, hce, hc5, hrow, hX⟩ := hI.t11 (hdep 11 (by decide))
            have hcells : cells = [.int .i64 k1, .string s1, .int .u64 n1, .slice a1 l1 c1, .slice b1 m1 d1] := by have := Value.agg.inj hce; exact (by simpa using congrArg Array.toList this.symm)
            subst hcells
            obtain ⟨curO, o1, o2, o3⟩ := hI.aO
            obtain rfl := o2 hL
            have hsz0 := hSZ.out
            have c0 := (o1.cell 3).trans (show _ = some (Value.slice al m cl) from rfl)
            have f0 := o1.frozen 3
            have hrl := World.ownsRow.lt hrow
            have htc := tch_cell wx ⟨w.heap.size + 2, 3, none⟩ (.slice a3 (m + 1) c3)
            have hrow2 := htc.row hrow (fun x hx e => by have := (hrl x hx).1; simp at e; omega)
            have ho2 := o1.store 3 (.slice a3 (m + 1) c3)
            have hv2 := hI.aV.other ⟨w.heap.size + 2, 3, none⟩ (by show w.heap.size + 2 ≠ _; omega) (.slice a3 (m + 1) c3)
            have ht2 := hI.tch.thenn htc (fun x hx => by simp at hx; subst hx; exact .inl (List.mem_cons_self ..))
            have hsv2 := sv_to (S' := (fun x => x < w0.heap.size ∨ (wr.heap.size ≤ x ∧ x < (wx.setCell ⟨w.heap.size + 2, 3, none⟩ (.slice a3 (m + 1) c3)).heap.size ∧ (L 11 = true → Value.ownBlock (.slice a3 (m + 1) c3) ≠ some x)))) (fun x hx hxl => hx.imp id (fun hx => ⟨hx.1, by rw [World.size_setCell]; exact hx.2.1, hx.2.2⟩)) (htc.stay (fun x hx hS => by simp at hx; rcases hS with hS | hS; have := hW0.out; omega; omega)) _ _ hsv
            have H9 : L 11 = true := hdep 11 (by decide)
            go_simp
            exact hK _ _ ⟨_, _, _, _, _, _, _, _, _, _, _, _, _, rfl, ⟨hI.t0, hI.t1, hI.t2, hI.t3, hI.t4, hI.t5, hI.t6, hI.t7, hI.t8, fun _ => ⟨k1, s1, n1, a1, l1, c1, b1, m1, d1, rfl, hsv2⟩, (fun _ => ⟨NB, rfl, fun h => by rw [show L 11 = false from h] at H9; cases H9⟩), fun _ => ⟨a3, c3, _, rfl, rfl, rfl, hrow2, hX⟩, hI.t12, (fun h => by rw [show L 11 = false from h] at H9; cases H9), ⟨_, ho2, (fun h => Bool.noConfusion (show true = false from h)), fun _ => rfl⟩, hv2, (fun h => by rw [show L 11 = false from h] at H9; cases H9), ht2⟩⟩
          · rintro a wx ⟨v27, v28, v29, v30, v31, v32, v33, v34, v35, v36, v37, v38, v39, rfl, hI⟩
            obtain ⟨a3, c3, cells, e34, e32, hc5, hrow9, hX⟩ := hI.t11 rfl
            obtain ⟨k1, s1, n1, a1, l1, c1, b1, m1, d1, e32b, hsv⟩ := hI.t9 rfl
            obtain ⟨NB, e33, -⟩ := hI.t10 rfl
            subst e33
            subst e34
            subst e32b
            have hcells : cells = [.int .i64 k1, .string s1, .int .u64 n1, .slice a1 l1 c1, .slice b1 m1 d1] := by have := Value.agg.inj e32; exact (by simpa using congrArg Array.toList this.symm)
            subst hcells
            obtain ⟨curO, hO9, -, o3⟩ := hI.aO
            obtain rfl := o3 rfl
            have hbox9 := hI.aV
            have htch := hI.tch
            clear hI e32
            have hlvb := World.ownsRow.lt hROW.out
            have hsz0 := hSZ.out
            have hsz9 := htch.size
            have hOLn : OLcut w0 w wx k s n (some ⟨b, off, none⟩) a' c c' ll lk deep l (m + 1) (.slice a3 (m + 1) c3) (xs ++ [.int .i64 k1, .string s1, .int .u64 n1, .slice a1 l1 c1, .slice b1 m1 d1]) := by
              have h := HOL.out
              have hlen : xs.length = m * 5 := hROW.out.1
              refine {
                bl := ⟨htch.os.trans h.bl.os, htch.tape.trans h.bl.tape, htch.output.trans h.bl.output, by have := h.bl.size; omega, fun i hi => (htch.block i (by omega) (fun e => by rcases List.mem_cons.1 e with e | e; omega; have := (hlvb i (by simpa using e)).1; omega)).trans (h.bl.block i hi)⟩
                sz := by omega
                box := hbox9
                res := htch.arr h.res (fun e => by rcases List.mem_cons.1 e with e | e; omega; have := (hlvb _ (by simpa using e)).1; omega)
                out := hO9
                row := hrow9
                sv := fun i v hi => ?_ }
              have hw00 := hW0.out
              have hst : Stay (fun x => x < w0.heap.size ∨ (w.heap.size + 3 ≤ x ∧ x < wr.heap.size ∧ (Value.ownBlock (.slice al m cl)) ≠ some x)) wr wx := htch.stay (fun x hx hS => by rcases List.mem_cons.1 hx with e | e; omega; have h9 := (hlvb x (by simpa using e)).1; rcases hS with hS | hS; omega; exact hS.2.2 (by simpa using e))
              have hll : m < l.length := HLT.out
              have hcl := cutL_len l (deep - 1)
              by_cases him : i < m
              · rw [List.getElem?_take, if_pos (by omega)] at hi
                rw [cell5_old hlen him]
                exact sv_to (fun x hx hxl => hx.imp id (fun hx => ⟨hx.1, by omega, fun e => by rcases hX x e with e | e; exact hx.2.2 e; omega⟩)) hst v _ (h.sv i v (by rw [List.getElem?_take, if_pos him]; exact hi))
              · have hi2 : i = m := by
                  have := (List.getElem?_eq_some_iff.1 hi).1
                  rw [List.length_take] at this
                  omega
                subst hi2
                rw [List.getElem?_take, if_pos (by omega), cutL_at, HE.out] at hi
                cases hi
                rw [cell5_new hlen rfl]
                exact sv_to (fun x hx hxl => hx.imp id (fun hx => ⟨by omega, hx.2.1, hx.2.2 rfl⟩)) (fun _ _ _ => rfl) _ _ hsv
            clear hrow9 hsv hO9 hbox9 htch
            go_wp2
            go_roundw
            case rel => exact ⟨m + 1, _, _, by have := HLT.out; omega, by go_num, hOLn⟩
            case measure => simp [intOf]; have := HLT.out; omega
        · have hml : ¬ (m : Int) < (ll : Int) := by omega
          have hmm : m = ll := by omega
          subst hmm
          have z0 := (hOL.out.cell 0).trans (show _ = some (Value.int .i64 k) from rfl)
          have z1 := (hOL.out.cell 1).trans (show _ = some (Value.string (bstr s)) from rfl)
          have z2 := (hOL.out.cell 2).trans (show _ = some (Value.int .u64 (n : Int)) from rfl)
          have z3 := (hOL.out.cell 3).trans (show _ = some (Value.slice al m cl) from rfl)
          have z4 := (hOL.out.cell 4).trans (show _ = some (Value.slice a' lk c') from rfl)
          have hres := hOL.res
          have HOL := Lib.hid hOL
          clear hOL
          go_wp2_with ((with_reducible show wpList _ _ _ (⟨none, _, _, _, _, _⟩ :: _) _ _); refine wl_store rfl 26 _ _ rfl (w.heap.size + 1) 0 rfl [.int .i64 k, .string (bstr s), .int .u64 (n : Int), .slice al m cl, .slice a' lk c'] rfl 26 zC hres (by kernel_rfl) (by simp [zC]) (by simp [Value.oneCell']) ?_; intro w9 hR9 hg9 hs9)
          rw [whole_store zC [.int .i64 k, .string (bstr s), .int .u64 (n : Int), .slice al m cl, .slice a' lk c'] rfl] at hR9
          refine end_cell rfl (w.heap.size + 1) 26 _ _ rfl hR9 Tryd.underlying26 rfl (by kernel_rfl) rfl ?_
          have h := HOL.out
          have hbl := h.bl
          have hsz := h.sz
          have hw0 := hW0.out
          have hrl := World.ownsRow.lt h.row
          have hcl := cutL_len l (deep - 1)
          have hks := HKS.out.to (HB0.out.trans (hbl.mono hw0))
          have e : cutF (.mk k s n l ks) deep = .mk k s n (cutL l (deep - 1)) ks := by unfold cutF; rw [if_neg (by omega), if_neg (by omega)]
          have hsv : SV (fun x => x < w0.heap.size ∨ w.heap.size + 3 ≤ x) wr (.mk k s n (cutL l (deep - 1)) ks) [.int .i64 k, .string (bstr s), .int .u64 (n : Int), .slice al m cl, .slice a' lk c'] := by
            refine sv_rows (D := fun x => x < w0.heap.size ∨ (w.heap.size + 3 ≤ x ∧ x < wr.heap.size ∧ Value.ownBlock (.slice al m cl) ≠ some x)) HK.out ⟨a', c', by rw [HLK.out], ⟨hks, fun h0 => ?_⟩⟩ (by rw [hcl, ← HLL.out]; exact h.row) (fun i v hi => h.sv i v (by rw [List.take_of_length_le (by rw [hcl, ← HLL.out]; exact Nat.le_refl _)]; exact hi)) (fun x hx _ => hx.imp id (fun hx => hx.1)) (fun x hx => .inr (hrl x hx).1)
            obtain ⟨b, off, e, hb, -⟩ := HKS.out.mem h0
            exact ⟨b, off, e, .inl hb⟩
          rw [e]
          refine ⟨_, rfl, sv_to (fun x hx _ => hx.imp id (fun hx => by omega)) (Stay.of_grown hg9 (fun x hx hS => by cases hx; rcases hS with hS | hS <;> omega)) _ _ hsv, hbl.grown hg9 hbl.size (by intro x hx; cases hx; omega)⟩
theorem cut_room (v : JV) (cs : List Value) (w0 w : World) (deep : Nat) (hv : RV w0 v cs) (hb : Below w0.heap.size w0 w) (hf : roomV v) (hd : deep ≤ 1000000) :
    Calls Tryd.prog 9 #[.agg cs.toArray, .int .i64 (deep : Int)] w fun e w' => ∃ cs', e = .returned (.agg cs'.toArray) ∧ SV (fun x => x < w0.heap.size ∨ w.heap.size ≤ x) w' (cutF v deep) cs' ∧ Below w.heap.size w w' := cut_all _ v cs w0 w deep (Nat.le_refl _) hv hb hf hd
theorem cut_any (v : JV) (cs : List Value) (w0 w : World) (deep : Nat) (hv : RV w0 v cs) (hb : Below w0.heap.size w0 w) (hf : fewV v 1073741823) (hd : deep ≤ 1000000) :
    Calls Tryd.prog 9 #[.agg cs.toArray, .int .i64 (deep : Int)] w fun e w' => ∃ cs', e = .returned (.agg cs'.toArray) ∧ SV (fun x => x < w0.heap.size ∨ w.heap.size ≤ x) w' (cutF v deep) cs' ∧ Below w.heap.size w w' := cut_all _ v cs w0 w deep (Nat.le_refl _) hv hb (few_room v hf) hd
end Go.Proofs.YtiadfijeglbdlaaDoor

namespace Go.Proofs.YtiadfijeglbdlaaDoor
open Go.RowKit

structure Invtheirs (w0 w wr : World) (k : Int) (s : List UInt8) (n : Nat) (b off ll c lk c' m cl : Nat) (al a' : Option Addr) (kv : Value) (xs ec : List Value) (e : JV) (L : Nat → Bool) (v25 v26 v27 v28 v29 v30 v31 v32 v33 v34 v35 : Value) (wx : World) : Prop where
  t0 : L 0 = true → v25 = .pointer (some ⟨w.heap.size + 2, 3, none⟩)
  t1 : L 1 = true → v26 = .slice al m cl
  t2 : L 2 = true → v27 = .pointer (some ⟨w.heap.size, 3, none⟩)
  t3 : L 3 = true → v28 = .slice (some ⟨b, off, none⟩) ll c
  t4 : L 4 = true → v29 = .int .i64 (m : Int)
  t5 : L 5 = true → v30 = .pointer (some ⟨b, off + m * 5, none⟩)
  t6 : L 6 = true → v31 = .agg ec.toArray
  t7 : L 7 = true → ∃ (k1 : Int) (s1 : ByteArray) (n1 : Int) (a1 : Option Addr) (l1 c1 : Nat) (b1 : Option Addr) (m1 d1 : Nat), v32 = .agg #[.int .i64 k1, .string s1, .int .u64 n1, .slice a1 l1 c1, .slice b1 m1 d1] ∧ SV (fun x => wr.heap.size ≤ x ∧ x < wx.heap.size ∧ (L 9 = true → Value.ownBlock v34 ≠ some x)) wx e [.int .i64 k1, .string s1, .int .u64 n1, .slice a1 l1 c1, .slice b1 m1 d1]
  t8 : L 8 = true → ∃ NB, v33 = .slice (some ⟨NB, 0, none⟩) 1 1 ∧ (L 9 = false → ∃ cells : List Value, v32 = .agg cells.toArray ∧ cells.length = 5 ∧ (∀ u ∈ cells, u.oneCell' = true) ∧ Arr wx NB 26 cells)
  t9 : L 9 = true → ∃ a3 c3 cells, v34 = .slice a3 (m + 1) c3 ∧ v32 = .agg (List.toArray cells) ∧ cells.length = 5 ∧ wx.ownsRow (w.heap.size + 3) 26 5 v34 (m + 1) (xs ++ cells) ∧ (∀ x, Value.ownBlock v34 = some x → (Value.ownBlock (.slice al m cl)) = some x ∨ wr.heap.size ≤ x)
  t10 : L 10 = true → v35 = .pointer (some ⟨w.heap.size + 2, 3, none⟩)
  n9 : L 9 = false → wx.ownsRow (w.heap.size + 3) 26 5 (.slice al m cl) m xs
  aO : ∃ curO, Arr wx (w.heap.size + 2) 26 curO ∧ (L 11 = false → curO = [.int .i64 k, .string (bstr s), .int .u64 (n : Int), .slice al m cl, kv]) ∧ (L 11 = true → curO = (List.set [.int .i64 k, .string (bstr s), .int .u64 (n : Int), .slice al m cl, kv] 3 v34))
  aV : Arr wx w.heap.size 30 [.int .i64 k, .string (bstr s), .int .u64 (n : Int), .slice (some ⟨b, off, none⟩) ll c, .slice a' lk c']
  bl9 : L 9 = false → Below wr.heap.size wr wx
  tch : Tch wr wx ((w.heap.size + 2) :: (Value.ownBlock (.slice al m cl)).toList)
/-- a round of theirs -/
structure OLtheirs (w0 w wr : World) (k : Int) (s : List UInt8) (n : Nat) (a a' : Option Addr) (c c' ll lk : Nat) (l : List JV) (ks : List (List UInt8)) (kv : Value) (m : Nat) (lv : Value) (xs : List Value) : Prop where
  bl : Below w.heap.size w wr
  sz : w.heap.size + 3 ≤ wr.heap.size
  box : Arr wr w.heap.size 30 [.int .i64 k, .string (bstr s), .int .u64 (n : Int), .slice a ll c, .slice a' lk c']
  res : Arr wr (w.heap.size + 1) 26 zC
  out : Arr wr (w.heap.size + 2) 26 [.int .i64 k, .string (bstr s), .int .u64 (n : Int), lv, kv]
  row : wr.ownsRow (w.heap.size + 3) 26 5 lv m xs
  keys : wr.ownsRow (w.heap.size + 3) 9 1 kv ks.length (ks.map fun k => Value.string (bstr k))
  apart : ∀ x, lv.ownBlock = some x → kv.ownBlock ≠ some x
  sv : ∀ i v, (l.take m)[i]? = some v → SV (fun x => w.heap.size + 3 ≤ x ∧ x < wr.heap.size ∧ lv.ownBlock ≠ some x ∧ kv.ownBlock ≠ some x) wr v (cell5 xs i)

set_option maxRecDepth 100000 in
set_option maxHeartbeats 6400000 in
theorem theirs_all : ∀ (N : Nat) (v : JV) (cs : List Value) (w0 w : World), SizeOf.sizeOf v ≤ N → RV w0 v cs → Below w0.heap.size w0 w → roomV v →
    Calls Tryd.prog 18 #[.agg cs.toArray] w fun e w' => ∃ cs', e = .returned (.agg cs'.toArray) ∧ SV (fun x => w.heap.size ≤ x) w' v cs' ∧ Below w.heap.size w w' := by
  intro N
  induction N with
  | zero =>
    rintro ⟨k, s, n, l, ks⟩ cs w0 w hN
    simp only [JV.mk.sizeOf_spec] at hN
    omega
  | succ N ih =>
    rintro ⟨k, s, n, l, ks⟩ cs w0 w hN hv hb0 hf
    unfold roomV at hf
    obtain ⟨hf1, hf2, hf3⟩ := hf
    obtain ⟨a, c, a', c', rfl, hk, hks, hlc, hac, hl⟩ := rv_five hv
    have hW0 : Hid (w0.heap.size ≤ w.heap.size) := hb0.size
    have hA0 : Arr ((w.alloc (.cells #[.int .i64 k, .string (bstr s), .int .u64 (n : Int), .slice a l.length c, .slice a' ks.length c'] 30)).alloc (.cells #[.int .i64 0, .string ⟨#[]⟩, .int .u64 0, .slice none 0 0, .slice none 0 0] 26)) w.heap.size 30 [.int .i64 k, .string (bstr s), .int .u64 (n : Int), .slice a l.length c, .slice a' ks.length c'] := (Arr.new w 30 [.int .i64 k, .string (bstr s), .int .u64 (n : Int), .slice a l.length c, .slice a' ks.length c']).kept ((Below.refl _ _).alloc (Nat.le_refl _) (.cells zC.toArray 26))
    have hA1 : Arr ((w.alloc (.cells #[.int .i64 k, .string (bstr s), .int .u64 (n : Int), .slice a l.length c, .slice a' ks.length c'] 30)).alloc (.cells #[.int .i64 0, .string ⟨#[]⟩, .int .u64 0, .slice none 0 0, .slice none 0 0] 26)) (w.heap.size + 1) 26 zC := by
      have := Arr.new (w.alloc (.cells #[.int .i64 k, .string (bstr s), .int .u64 (n : Int), .slice a l.length c, .slice a' ks.length c'] 30)) 26 zC
      rw [World.size_alloc] at this
      exact this
    have hB2 : Below w.heap.size w ((w.alloc (.cells #[.int .i64 k, .string (bstr s), .int .u64 (n : Int), .slice a l.length c, .slice a' ks.length c'] 30)).alloc (.cells #[.int .i64 0, .string ⟨#[]⟩, .int .u64 0, .slice none 0 0, .slice none 0 0] 26)) := ((Below.refl _ _).alloc (Nat.le_refl _) _).alloc (by simp) _
    have hs2 : Hid (((w.alloc (.cells #[.int .i64 k, .string (bstr s), .int .u64 (n : Int), .slice a l.length c, .slice a' ks.length c'] 30)).alloc (.cells #[.int .i64 0, .string ⟨#[]⟩, .int .u64 0, .slice none 0 0, .slice none 0 0] 26)).heap.size = w.heap.size + 2) := by show _ = _; simp
    have HKS := Lib.hid hks
    have HB0 := Lib.hid hb0
    have HK := Lib.hid hk
    have HF3 := Lib.hid hf3
    have HL := Lib.hid hl
    have HLC := Lib.hid hlc
    have IH := Lib.hid ih
    have HNN := Lib.hid hN
    clear hv hks hb0 hk hf3 hl hlc hac ih hN
    go_enter Tryd.func18, Tryd.ntmps18
    go_upto_region 1 with fail
    generalize ((w.alloc (.cells #[.int .i64 k, .string (bstr s), .int .u64 (n : Int), .slice a l.length c, .slice a' ks.length c'] 30)).alloc (.cells #[.int .i64 0, .string ⟨#[]⟩, .int .u64 0, .slice none 0 0, .slice none 0 0] 26)) = W2 at *
    have q0 := (hA0.cell 0).trans (show _ = some (Value.int .i64 k) from rfl)
    have q1 := (hA0.cell 1).trans (show _ = some (Value.string (bstr s)) from rfl)
    have hs2e := hs2.out
    have q2 := (hA0.cell 2).trans (show _ = some (Value.int .u64 (n : Int)) from rfl)
    go_upto_region 2 with ((with_reducible show wpList _ _ _ (⟨none, _, _, _, _, _⟩ :: _) _ _); go_loud (refine wl_store rfl 26 _ _ rfl (w.heap.size + 2) 0 rfl [.int .i64 k, .string (bstr s), .int .u64 (n : Int), .slice none 0 0, .slice none 0 0] rfl 26 zC (by have := Arr.new W2 26 zC; rw [hs2.out] at this; exact this) (by kernel_rfl) (by simp [zC]) (by simp [Value.oneCell']) ?_); intro w3 hO3 hg3 hs3)
    rw [whole_store zC [.int .i64 k, .string (bstr s), .int .u64 (n : Int), .slice none 0 0, .slice none 0 0] rfl] at hO3
    have hA3 := (hA0.kept ((Below.refl _ _).alloc (Nat.le_refl _) _)).grown hg3 (by simp)
    have hR3 := (hA1.kept ((Below.refl _ _).alloc (Nat.le_refl _) _)).grown hg3 (by simp)
    have hB3 : Below w.heap.size w w3 := (hB2.alloc hB2.size _).grown hg3 (by have := hB2.size; simp; omega) (by intro k hk; cases hk; omega)
    have hz3 : Hid (w3.heap.size = w.heap.size + 3) := by show _ = _; rw [hs3, World.size_alloc, hs2.out]
    clear q0 q1 q2 hA0 hA1 hg3 hs3 hB2 hs2e
    have r4 := (hO3.cell 4).trans (show _ = some (Value.slice none 0 0) from rfl)
    have s4 := (hA3.cell 4).trans (show _ = some (Value.slice a' ks.length c') from rfl)
    have HB3 := Lib.hid hB3
    clear hB3
    obtain ⟨lk, hlk⟩ : ∃ lk, lk = ks.length := ⟨_, rfl⟩
    have HLK := Lib.hid hlk
    rw [← hlk] at s4 hA3 hf2
    rw [← hlk]
    clear hlk
    go_upto_region 4 with (at_builtin; go_loud (refine wl_append_keys rfl (.tmp 13) (.tmp 15) rfl (w.heap.size + 3) ks a' c' rfl (by rw [← HLK.out]; rfl) (HKS.out.to (HB0.out.trans (HB3.out.mono hW0.out))) (by rw [← HLK.out]; omega) (by have := hz3.out; omega) ?_; intro v5 w5 hkeys5 hb5; obtain ⟨a5, n5, c5, rfl⟩ := row_shape hkeys5; have hO5 := hO3.kept hb5; have hA5 := hA3.kept hb5; have hR5 := hR3.kept hb5; have d4 := (hO5.cell 4).trans (show _ = some (Value.slice none 0 0) from rfl); have f4 := hO5.frozen 4; have HKEYS := Lib.hid hkeys5; have HB5 := Lib.hid hb5; clear hkeys5 hb5))
    have hO6 := hO5.store 4 (.slice a5 n5 c5)
    have hA6 := hA5.other ⟨w.heap.size + 2, 4, none⟩ (by show w.heap.size + 2 ≠ _; omega) (.slice a5 n5 c5)
    have hR6 := hR5.other ⟨w.heap.size + 2, 4, none⟩ (by show w.heap.size + 2 ≠ _; omega) (.slice a5 n5 c5)
    have ht6 := tch_cell w5 ⟨w.heap.size + 2, 4, none⟩ (.slice a5 n5 c5)
    have hk6 := ht6.row HKEYS.out (fun x hx e => by have := (World.ownsRow.lt HKEYS.out x hx).1; simp at e; omega)
    have hOL0 : OLtheirs w0 w (w5.setCell ⟨w.heap.size + 2, 4, none⟩ (.slice a5 n5 c5)) k s n a a' c c' l.length lk l ks (.slice a5 n5 c5) 0 (.slice none 0 0) [] := {
      bl := by
        have hb : Below w.heap.size w w5 := HB3.out.trans (HB5.out.mono HB3.out.size)
        exact ⟨hb.os, hb.tape, hb.output, by have := hb.size; rw [World.size_setCell]; exact this, fun i hi => (ht6.block i (by have := hb.size; omega) (by simp; omega)).trans (hb.block i hi)⟩
      sz := by have := HB5.out.size; have := hz3.out; rw [World.size_setCell]; omega
      box := hA6
      res := hR6
      out := hO6
      row := World.ownsRow_nil _ _ _ _
      keys := hk6
      apart := fun x hx => by cases hx
      sv := fun i v hi => by simp at hi }
    have HOL0 := Lib.hid hOL0
    clear hOL0 hk6 ht6 hO6 hA6 hR6 hO5 hA5 hR5 d4 f4 hO3 hA3 hR3 r4 s4
    obtain ⟨ll, hll⟩ : ∃ ll, ll = l.length := ⟨_, rfl⟩
    have HLL := Lib.hid hll
    rw [← hll] at HOL0 hf1
    rw [← hll]
    clear hll
    go_loopw [4] (fun i wr => ∃ (m : Nat) (lv : Value) (xs : List Value), m ≤ ll ∧ i = .int .i64 m ∧ (∃ kv, OLtheirs w0 w wr k s n a a' c c' ll lk l ks kv m lv xs)) (fun i _ => ll - (intOf i).toNat)
    case atStart => exact ⟨0, _, _, Nat.zero_le _, rfl, ⟨_, HOL0.out⟩⟩
    case round =>
      clear HOL0
      obtain ⟨m, lv, xs, hm, rfl, ⟨kv, hOL⟩⟩ := hrel
      obtain ⟨al, cl, rfl⟩ := row_n hOL.row
      have hbx3 := (hOL.box.cell 3).trans (show _ = some (Value.slice a ll c) from rfl)
      by_cases hlt : m < ll
      · have hml : (m : Int) < (ll : Int) := by omega
        obtain ⟨b, off, rfl, hbw, hrl⟩ := HL.out (by rw [← HLL.out]; omega)
        obtain ⟨e, he⟩ : ∃ e, l[m]? = some e := ⟨_, List.getElem?_eq_getElem (by rw [← HLL.out]; exact hlt)⟩
        obtain ⟨ec, ec5, ecell, erv⟩ := rl_at l b off m e hrl he
        have hsize := jv_mem (k := k) (s := s) (n := n) (ks := ks) (List.mem_of_getElem? he)
        have hCALL : Hid (∀ W, Below wr.heap.size wr W → Calls Tryd.prog 18 #[.agg ec.toArray] W fun e' w' => ∃ cs', e' = .returned (.agg cs'.toArray) ∧ SV (fun x => W.heap.size ≤ x) w' e cs' ∧ Below W.heap.size W w') := fun W hW => IH.out e ec w0 W (by have := HNN.out; omega) erv (HB0.out.trans ((hOL.bl.trans (hW.mono hOL.bl.size)).mono hW0.out)) (room_at l m e HF3.out he)
        have hRG : Hid (∀ W, Below wr.heap.size wr W → W.rangeAt b (off + m * 5) ec) := fun W hW j v hj => by
          have hj5 : j < 5 := by rw [← ec5]; exact (List.getElem?_eq_some_iff.1 hj).1
          have h1 := ecell j hj5
          rw [hj] at h1
          have hBB : Below w0.heap.size w0 W := HB0.out.trans ((hOL.bl.trans (hW.mono hOL.bl.size)).mono hW0.out)
          rw [show off + m * 5 + j = off + (5 * m + j) by omega]
          exact (hBB.cell (p := ⟨b, off + (5 * m + j), none⟩) hbw).trans h1
        have hEL := Lib.hid ec5
        have HE := Lib.hid he
        have HLT : Hid (m < l.length) := by show _ < _; rw [← HLL.out]; exact hlt
        have HOL := Lib.hid hOL
        have hROW := Lib.hid hOL.row
        have hrow := hOL.row
        have hout := hOL.out
        have hbox := hOL.box
        have hSZ := Lib.hid hOL.sz
        have hm30 : m + 1 ≤ 1759218604441 := by omega
        clear hsize erv ecell hrl he ec5 hOL
        go_upto_region 6 with fail
        refine wp_region_steps [[], [0], [], [2], [], [3, 4], [5], [6], [7], [1, 7, 8], [0, 1, 2, 3, 4, 5, 6, 7, 8, 9], [10, 0, 1, 2, 3, 4, 5, 6, 7, 8, 9]] (by kernel_rfl) (by kernel_rfl) (fun L a wx => ∃ v25 v26 v27 v28 v29 v30 v31 v32 v33 v34 v35, a = ⟨#[.agg #[.int .i64 k, .string (bstr s), .int .u64 (n : Int), .slice (some ⟨b, off, none⟩) ll c, .slice a' lk c'], .pointer (some ⟨w.heap.size, 0, none⟩), .pointer (some ⟨w.heap.size + 1, 0, none⟩), .pointer (some ⟨w.heap.size + 2, 0, none⟩), .int .i64 (m : Int), .pointer (some ⟨w.heap.size, 0, none⟩), .int .i64 k, .pointer (some ⟨w.heap.size, 1, none⟩), .string (bstr s), .pointer (some ⟨w.heap.size, 2, none⟩), .int .u64 (n : Int), .agg #[.int .i64 k, .string (bstr s), .int .u64 (n : Int), .slice none 0 0, .slice none 0 0], .pointer (some ⟨w.heap.size + 2, 4, none⟩), .slice none 0 0, .pointer (some ⟨w.heap.size, 4, none⟩), .slice a' lk c', .slice a5 n5 c5, .pointer (some ⟨w.heap.size + 2, 4, none⟩), .int .i64 (m : Int), .pointer (some ⟨w.heap.size, 3, none⟩), .slice (some ⟨b, off, none⟩) ll c, .int .i64 (ll : Int), .bool true, u23, u24, v25, v26, v27, v28, v29, v30, v31, v32, v33, v34, v35, undef], []⟩ ∧ Invtheirs w0 w wr k s n b off ll c lk c' m cl al a' kv xs ec e L v25 v26 v27 v28 v29 v30 v31 v32 v33 v34 v35 wx) ?_ ⟨?_, ?_, ?_, ?_, ?_, ?_, ?_, ?_, ?_, ?_, ?_, ?_, trivial⟩ ?_
        · refine ⟨_, _, _, _, _, _, _, _, _, _, _, rfl, ⟨?_, ?_, ?_, ?_, ?_, ?_, ?_, ?_, ?_, ?_, ?_, fun _ => hrow, ⟨_, hout.drew, fun _ => rfl, fun h => absurd h (by decide)⟩, hbox.drew, fun _ => (Below.refl _ _).drew, ⟨rfl, rfl, rfl, Nat.le_refl _, fun _ _ _ => rfl⟩⟩⟩ <;> (intro h; exact absurd h (by decide))
        · rintro L a wx ⟨v25, v26, v27, v28, v29, v30, v31, v32, v33, v34, v35, rfl, hI⟩ hL hdep hcl K hK
          go_simp
          exact hK _ _ ⟨_, v26, v27, v28, v29, v30, v31, v32, v33, v34, v35, rfl, ⟨fun _ => rfl, hI.t1, hI.t2, hI.t3, hI.t4, hI.t5, hI.t6, hI.t7, hI.t8, hI.t9, hI.t10, hI.n9, hI.aO, hI.aV, hI.bl9, hI.tch⟩⟩
        · rintro L a wx ⟨v25, v26, v27, v28, v29, v30, v31, v32, v33, v34, v35, rfl, hI⟩ hL hdep hcl K hK
          obtain rfl := hI.t0 (hdep 0 (by decide))
          obtain ⟨curO, o1, o2, o3⟩ := hI.aO
          obtain rfl := o2 (by cases h12 : L 11 with | false => rfl | true => exact absurd (hcl 11 (by decide) h12 1 (by decide)) (by rw [hL]; decide))
          have c0 := (o1.cell 3).trans (show _ = some (Value.slice al m cl) from rfl)
          go_simp
          exact hK _ _ ⟨_, _, v27, v28, v29, v30, v31, v32, v33, v34, v35, rfl, ⟨hI.t0, fun _ => rfl, hI.t2, hI.t3, hI.t4, hI.t5, hI.t6, hI.t7, hI.t8, hI.t9, hI.t10, hI.n9, ⟨_, o1, fun _ => rfl, o3⟩, hI.aV, hI.bl9, hI.tch⟩⟩
        · rintro L a wx ⟨v25, v26, v27, v28, v29, v30, v31, v32, v33, v34, v35, rfl, hI⟩ hL hdep hcl K hK
          go_simp
          exact hK _ _ ⟨v25, v26, _, v28, v29, v30, v31, v32, v33, v34, v35, rfl, ⟨hI.t0, hI.t1, fun _ => rfl, hI.t3, hI.t4, hI.t5, hI.t6, hI.t7, hI.t8, hI.t9, hI.t10, hI.n9, hI.aO, hI.aV, hI.bl9, hI.tch⟩⟩
        · rintro L a wx ⟨v25, v26, v27, v28, v29, v30, v31, v32, v33, v34, v35, rfl, hI⟩ hL hdep hcl K hK
          obtain rfl := hI.t2 (hdep 2 (by decide))
          have c0 := (hI.aV.cell 3).trans (show _ = some (Value.slice (some ⟨b, off, none⟩) ll c) from rfl)
          go_simp
          exact hK _ _ ⟨v25, v26, _, _, v29, v30, v31, v32, v33, v34, v35, rfl, ⟨hI.t0, hI.t1, hI.t2, fun _ => rfl, hI.t4, hI.t5, hI.t6, hI.t7, hI.t8, hI.t9, hI.t10, hI.n9, hI.aO, hI.aV, hI.bl9, hI.tch⟩⟩
        · rintro L a wx ⟨v25, v26, v27, v28, v29, v30, v31, v32, v33, v34, v35, rfl, hI⟩ hL hdep hcl K hK
          go_simp
          exact hK _ _ ⟨v25, v26, v27, v28, _, v30, v31, v32, v33, v34, v35, rfl, ⟨hI.t0, hI.t1, hI.t2, hI.t3, fun _ => rfl, hI.t5, hI.t6, hI.t7, hI.t8, hI.t9, hI.t10, hI.n9, hI.aO, hI.aV, hI.bl9, hI.tch⟩⟩
        · rintro L a wx ⟨v25, v26, v27, v28, v29, v30, v31, v32, v33, v34, v35, rfl, hI⟩ hL hdep hcl K hK
          obtain rfl := hI.t3 (hdep 3 (by decide))
          obtain rfl := hI.t4 (hdep 4 (by decide))
          have hmm := hml
          go_simp
          exact hK _ _ ⟨v25, v26, v27, _, _, _, v31, v32, v33, v34, v35, rfl, ⟨hI.t0, hI.t1, hI.t2, hI.t3, hI.t4, fun _ => rfl, hI.t6, hI.t7, hI.t8, hI.t9, hI.t10, hI.n9, hI.aO, hI.aV, hI.bl9, hI.tch⟩⟩
        · rintro L a wx ⟨v25, v26, v27, v28, v29, v30, v31, v32, v33, v34, v35, rfl, hI⟩ hL hdep hcl K hK
          obtain rfl := hI.t5 (hdep 5 (by decide))
          have h9 : L 9 = false := by cases h9 : L 9 with | false => rfl | true => exact absurd (hcl 7 (by decide) (hcl 8 (by decide) (hcl 9 (by decide) h9 8 (by decide)) 7 (by decide)) 6 (by decide)) (by rw [hL]; decide)
          refine wp_load_mid 30 _ rfl b (off + m * 5) rfl ec _ (hRG.out _ (hI.bl9 h9)) Tryd.underlying30 rfl (by rw [hEL.out]; kernel_rfl) ?_
          exact hK _ _ ⟨v25, v26, v27, v28, v29, _, _, v32, v33, v34, v35, rfl, ⟨hI.t0, hI.t1, hI.t2, hI.t3, hI.t4, hI.t5, fun _ => rfl, hI.t7, hI.t8, hI.t9, hI.t10, hI.n9, hI.aO, hI.aV, hI.bl9, hI.tch⟩⟩
        · rintro L a wx ⟨v25, v26, v27, v28, v29, v30, v31, v32, v33, v34, v35, rfl, hI⟩ hL hdep hcl K hK
          obtain rfl := hI.t6 (hdep 6 (by decide))
          have h9 : L 9 = false := by cases h9 : L 9 with | false => rfl | true => exact absurd (hcl 8 (by decide) (hcl 9 (by decide) h9 8 (by decide)) 7 (by decide)) (by rw [hL]; decide)
          have hsz := (hI.bl9 h9).size
          go_simp
          refine (hCALL.out _ (hI.bl9 h9)).mono ?_
          rintro e w' ⟨cs', rfl, hsv, hb⟩
          obtain ⟨k1, s1, n1, a1, l1, c1, b1, m1, d1, rfl⟩ := pv_shape (sv_pv _ _ hsv)
          have hbw : Below wr.heap.size wr w' := (hI.bl9 h9).trans (hb.mono hsz)
          exact hK _ _ ⟨v25, v26, v27, v28, v29, v30, _, _, v33, v34, v35, rfl, ⟨hI.t0, hI.t1, hI.t2, hI.t3, hI.t4, hI.t5, hI.t6, fun _ => ⟨k1, s1, n1, a1, l1, c1, b1, m1, d1, rfl, sv_to (fun x hx hxl => ⟨by omega, hxl, fun h => by rw [show L 9 = true from h] at h9; cases h9⟩) (fun _ _ _ => rfl) _ _ hsv⟩, (fun h => absurd (hcl 8 (by decide) h 7 (by decide)) (by rw [hL]; decide)), (fun h => by rw [show L 9 = true from h] at h9; cases h9), hI.t10, fun h => (hI.n9 h).kept (gb hb none) (by cases al <;> simp [Value.ownBlock]), (by obtain ⟨curO, o1, o2, o3⟩ := hI.aO; exact ⟨curO, o1.kept hb, o2, o3⟩), hI.aV.kept hb, fun _ => hbw, hI.tch.trans (Tch.of_below hb _)⟩⟩
        · rintro L a wx ⟨v25, v26, v27, v28, v29, v30, v31, v32, v33, v34, v35, rfl, hI⟩ hL hdep hcl K hK
          have h9 : L 9 = false := by cases h9 : L 9 with | false => rfl | true => exact absurd (hcl 9 (by decide) h9 8 (by decide)) (by rw [hL]; decide)
          obtain ⟨k1, s1, n1, a1, l1, c1, b1, m1, d1, rfl, hsv⟩ := hI.t7 (hdep 7 (by decide))
          have hb := (Below.refl wx.heap.size wx).alloc (Nat.le_refl _) (.cells #[.int .i64 k1, .string s1, .int .u64 n1, .slice a1 l1 c1, .slice b1 m1 d1] 26)
          have hN := Arr.new wx 26 [.int .i64 k1, .string s1, .int .u64 n1, .slice a1 l1 c1, .slice b1 m1 d1]
          have hsz := (hI.bl9 h9).size
          have hbw : Below wr.heap.size wr (wx.alloc (.cells #[.int .i64 k1, .string s1, .int .u64 n1, .slice a1 l1 c1, .slice b1 m1 d1] 26)) := (hI.bl9 h9).trans (hb.mono hsz)
          go_simp
          exact hK _ _ ⟨v25, v26, v27, v28, v29, v30, v31, _, _, v34, v35, rfl, ⟨hI.t0, hI.t1, hI.t2, hI.t3, hI.t4, hI.t5, hI.t6, fun _ => ⟨k1, s1, n1, a1, l1, c1, b1, m1, d1, rfl, sv_to (fun x hx hxl => ⟨hx.1, by simp; omega, hx.2.2⟩) (Stay.of_below hb) _ _ hsv⟩, fun _ => ⟨_, rfl, fun _ => ⟨_, rfl, rfl, by simp [Value.oneCell'], hN⟩⟩, (fun h => by rw [show L 9 = true from h] at h9; cases h9), hI.t10, fun h => (hI.n9 h).alloc _, (by obtain ⟨curO, o1, o2, o3⟩ := hI.aO; exact ⟨curO, o1.kept hb, o2, o3⟩), hI.aV.kept hb, fun _ => hbw, hI.tch.trans (Tch.of_below hb _)⟩⟩
        · rintro L a wx ⟨v25, v26, v27, v28, v29, v30, v31, v32, v33, v34, v35, rfl, hI⟩ hL hdep hcl K hK
          obtain rfl := hI.t1 (hdep 1 (by decide))
          obtain ⟨k1, s1, n1, a1, l1, c1, b1, m1, d1, rfl, hsv⟩ := hI.t7 (hdep 7 (by decide))
          obtain ⟨NB, rfl, hNB⟩ := hI.t8 (hdep 8 (by decide))
          obtain ⟨cells, hce, hc5, hone, hArr⟩ := hNB hL
          have hcells : cells = [.int .i64 k1, .string s1, .int .u64 n1, .slice a1 l1 c1, .slice b1 m1 d1] := by have := Value.agg.inj hce; exact (by simpa using congrArg Array.toList this.symm)
          subst hcells
          have hrow := hI.n9 hL
          have hbl := hI.bl9 hL
          have hsz := hbl.size
          have hsz0 := hSZ.out
          have hlvb := World.ownsRow.lt hROW.out
          refine ow_append_R (.tmp 26) (.tmp 33) rfl (w.heap.size + 3) m _ _ hrow rfl NB 26 [.int .i64 k1, .string s1, .int .u64 n1, .slice a1 l1 c1, .slice b1 m1 d1] rfl (by simp [Value.oneCell']) rfl hArr hm30 (by omega) ?_
          intro v' w' h1 h2 h3
          obtain ⟨a3, c3, rfl⟩ := row_n h1
          have hX : ∀ x, Value.ownBlock (.slice a3 (m + 1) c3) = some x → (Value.ownBlock (.slice al m cl)) = some x ∨ wr.heap.size ≤ x := fun x hx => (h3 x hx).imp id (fun h => by omega)
          have hsv2 := sv_to (S' := (fun x => wr.heap.size ≤ x ∧ x < w'.heap.size ∧ (true = true → Value.ownBlock (.slice a3 (m + 1) c3) ≠ some x))) (fun x hx hxl => ⟨hx.1, by have := h2.size; omega, fun _ e => by rcases h3 x e with h | h; have := (hlvb x h).2; omega; omega⟩) (h2.stay (fun x hx hS => by have := hlvb x (by simpa using hx); omega)) _ _ hsv
          exact hK _ _ ⟨v25, _, v27, v28, v29, v30, v31, _, _, _, v35, rfl, ⟨hI.t0, hI.t1, hI.t2, hI.t3, hI.t4, hI.t5, hI.t6, fun _ => ⟨k1, s1, n1, a1, l1, c1, b1, m1, d1, rfl, hsv2⟩, fun _ => ⟨NB, rfl, (fun h => Bool.noConfusion (show true = false from h))⟩, fun _ => ⟨a3, c3, _, rfl, rfl, rfl, h1, hX⟩, hI.t10, (fun h => Bool.noConfusion (show true = false from h)), (by obtain ⟨curO, o1, o2, o3⟩ := hI.aO; exact ⟨curO, h2.arr o1 (fun e => by have := (hlvb _ (by simpa using e)).1; omega), o2, fun h => by have := hcl 11 (by decide) (show L 11 = true from h) 9 (by decide); rw [hL] at this; cases this⟩), h2.arr hI.aV (fun e => by have := (hlvb _ (by simpa using e)).1; omega), (fun h => Bool.noConfusion (show true = false from h)), hI.tch.trans (h2.mono (fun b hb => .inl (List.mem_cons_of_mem _ hb)))⟩⟩
        · rintro L a wx ⟨v25, v26, v27, v28, v29, v30, v31, v32, v33, v34, v35, rfl, hI⟩ hL hdep hcl K hK
          obtain rfl := hI.t0 (hdep 0 (by decide))
          obtain rfl := hI.t1 (hdep 1 (by decide))
          obtain rfl := hI.t2 (hdep 2 (by decide))
          obtain rfl := hI.t3 (hdep 3 (by decide))
          obtain rfl := hI.t4 (hdep 4 (by decide))
          obtain rfl := hI.t5 (hdep 5 (by decide))
          obtain rfl := hI.t6 (hdep 6 (by decide))
          go_simp
          exact hK _ _ ⟨_, _, _, _, _, _, _, v32, v33, v34, _, rfl, ⟨hI.t0, hI.t1, hI.t2, hI.t3, hI.t4, hI.t5, hI.t6, hI.t7, hI.t8, hI.t9, fun _ => rfl, hI.n9, hI.aO, hI.aV, hI.bl9, hI.tch⟩⟩
        · rintro L a wx ⟨v25, v26, v27, v28, v29, v30, v31, v32, v33, v34, v35, rfl, hI⟩ hL hdep hcl K hK
          obtain rfl := hI.t10 (hdep 10 (by decide))
          obtain rfl := hI.t0 (hdep 0 (by decide))
          obtain rfl := hI.t1 (hdep 1 (by decide))
          obtain rfl := hI.t2 (hdep 2 (by decide))
          obtain rfl := hI.t3 (hdep 3 (by decide))
          obtain rfl := hI.t4 (hdep 4 (by decide))
          obtain rfl := hI.t5 (hdep 5 (by decide))
          obtain rfl := hI.t6 (hdep 6 (by decide))
          obtain ⟨k1, s1, n1, a1, l1, c1, b1, m1, d1, rfl, hsv⟩ := hI.t7 (hdep 7 (by decide))
          obtain ⟨NB, rfl, -⟩ := hI.t8 (hdep 8 (by decide))
          obtain ⟨a3, c3, cells, rfl, hce, hc5, hrow, hX⟩ := hI.t9 (hdep 9 (by decide))
          have hcells : cells = [.int .i64 k1, .string s1, .int .u64 n1, .slice a1 l1 c1, .slice b1 m1 d1] := by have := Value.agg.inj hce; exact (by simpa using congrArg Array.toList this.symm)
          subst hcells
          obtain ⟨curO, o1, o2, o3⟩ := hI.aO
          obtain rfl := o2 hL
          have hsz0 := hSZ.out
          have c0 := (o1.cell 3).trans (show _ = some (Value.slice al m cl) from rfl)
          have f0 := o1.frozen 3
          have hrl := World.ownsRow.lt hrow
          have htc := tch_cell wx ⟨w.heap.size + 2, 3, none⟩ (.slice a3 (m + 1) c3)
          have hrow2 := htc.row hrow (fun x hx e => by have := (hrl x hx).1; simp at e; omega)
          have ho2 := o1.store 3 (.slice a3 (m + 1) c3)
          have hv2 := hI.aV.other ⟨w.heap.size + 2, 3, none⟩ (by show w.heap.size + 2 ≠ _; omega) (.slice a3 (m + 1) c3)
          have ht2 := hI.tch.thenn htc (fun x hx => by simp at hx; subst hx; exact .inl (List.mem_cons_self ..))
          have hsv2 := sv_to (S' := (fun x => wr.heap.size ≤ x ∧ x < (wx.setCell ⟨w.heap.size + 2, 3, none⟩ (.slice a3 (m + 1) c3)).heap.size ∧ (L 9 = true → Value.ownBlock (.slice a3 (m + 1) c3) ≠ some x))) (fun x hx hxl => ⟨hx.1, by rw [World.size_setCell]; exact hx.2.1, hx.2.2⟩) (htc.stay (fun x hx hS => by simp at hx; omega)) _ _ hsv
          have H9 : L 9 = true := hdep 9 (by decide)
          go_simp
          exact hK _ _ ⟨_, _, _, _, _, _, _, _, _, _, _, rfl, ⟨hI.t0, hI.t1, hI.t2, hI.t3, hI.t4, hI.t5, hI.t6, fun _ => ⟨k1, s1, n1, a1, l1, c1, b1, m1, d1, rfl, hsv2⟩, (fun _ => ⟨NB, rfl, fun h => by rw [show L 9 = false from h] at H9; cases H9⟩), fun _ => ⟨a3, c3, _, rfl, rfl, rfl, hrow2, hX⟩, hI.t10, (fun h => by rw [show L 9 = false from h] at H9; cases H9), ⟨_, ho2, (fun h => Bool.noConfusion (show true = false from h)), fun _ => rfl⟩, hv2, (fun h => by rw [show L 9 = false from h] at H9; cases H9), ht2⟩⟩
        · rintro a wx ⟨v25, v26, v27, v28, v29, v30, v31, v32, v33, v34, v35, rfl, hI⟩
          obtain ⟨a3, c3, cells, e34, e32, hc5, hrow9, hX⟩ := hI.t9 rfl
          obtain ⟨k1, s1, n1, a1, l1, c1, b1, m1, d1, e32b, hsv⟩ := hI.t7 rfl
          obtain ⟨NB, e33, -⟩ := hI.t8 rfl
          subst e33
          subst e34
          subst e32b
          have hcells : cells = [.int .i64 k1, .string s1, .int .u64 n1, .slice a1 l1 c1, .slice b1 m1 d1] := by have := Value.agg.inj e32; exact (by simpa using congrArg Array.toList this.symm)
          subst hcells
          obtain ⟨curO, hO9, -, o3⟩ := hI.aO
          obtain rfl := o3 rfl
          have hbox9 := hI.aV
          have htch := hI.tch
          clear hI e32
          have hlvb := World.ownsRow.lt hROW.out
          have hsz0 := hSZ.out
          have hsz9 := htch.size
          have hOLn : OLtheirs w0 w wx k s n (some ⟨b, off, none⟩) a' c c' ll lk l ks kv (m + 1) (.slice a3 (m + 1) c3) (xs ++ [.int .i64 k1, .string s1, .int .u64 n1, .slice a1 l1 c1, .slice b1 m1 d1]) := by
            have h := HOL.out
            have hkb := World.ownsRow.lt h.keys
            have hlen : xs.length = m * 5 := hROW.out.1
            refine {
              bl := ⟨htch.os.trans h.bl.os, htch.tape.trans h.bl.tape, htch.output.trans h.bl.output, by have := h.bl.size; omega, fun i hi => (htch.block i (by omega) (fun e => by rcases List.mem_cons.1 e with e | e; omega; have := (hlvb i (by simpa using e)).1; omega)).trans (h.bl.block i hi)⟩
              sz := by omega
              box := hbox9
              res := htch.arr h.res (fun e => by rcases List.mem_cons.1 e with e | e; omega; have := (hlvb _ (by simpa using e)).1; omega)
              out := hO9
              row := hrow9
              keys := htch.row h.keys (fun x hx e => by rcases List.mem_cons.1 e with e | e; have := (hkb x hx).1; omega; exact h.apart x (by simpa using e) hx)
              apart := fun x hx hk => by rcases hX x hx with e | e; exact h.apart x e hk; have := (hkb x hk).2; omega
              sv := fun i v hi => ?_ }
            have hst : Stay (fun x => w.heap.size + 3 ≤ x ∧ x < wr.heap.size ∧ (Value.ownBlock (.slice al m cl)) ≠ some x ∧ kv.ownBlock ≠ some x) wr wx := htch.stay (fun x hx hS => by rcases List.mem_cons.1 hx with e | e; omega; exact hS.2.2.1 (by simpa using e))
            have hll : m < l.length := HLT.out
            by_cases him : i < m
            · rw [List.getElem?_take, if_pos (by omega)] at hi
              rw [cell5_old hlen him]
              exact sv_to (fun x hx hxl => ⟨hx.1, by omega, fun e => by rcases hX x e with e | e; exact hx.2.2.1 e; omega, hx.2.2.2⟩) hst v _ (h.sv i v (by rw [List.getElem?_take, if_pos him]; exact hi))
            · have hi2 : i = m := by
                have := (List.getElem?_eq_some_iff.1 hi).1
                rw [List.length_take] at this
                omega
              subst hi2
              rw [List.getElem?_take, if_pos (by omega), HE.out] at hi
              cases hi
              rw [cell5_new hlen rfl]
              exact sv_to (fun x hx hxl => ⟨by omega, hx.2.1, hx.2.2 rfl, fun e => by have := (hkb x e).2; omega⟩) (fun _ _ _ => rfl) _ _ hsv
          clear hrow9 hsv hO9 hbox9 htch
          go_wp2
          go_roundw
          case rel => exact ⟨m + 1, _, _, by have := HLT.out; omega, by go_num, ⟨_, hOLn⟩⟩
          case measure => simp [intOf]; have := HLT.out; omega
      · have hml : ¬ (m : Int) < (ll : Int) := by omega
        have hmm : m = ll := by omega
        subst hmm
        have z0 := (hOL.out.cell 0).trans (show _ = some (Value.int .i64 k) from rfl)
        have z1 := (hOL.out.cell 1).trans (show _ = some (Value.string (bstr s)) from rfl)
        have z2 := (hOL.out.cell 2).trans (show _ = some (Value.int .u64 (n : Int)) from rfl)
        have z3 := (hOL.out.cell 3).trans (show _ = some (Value.slice al m cl) from rfl)
        obtain ⟨ka, kn, kc, rfl⟩ := row_shape hOL.keys
        have z4 := (hOL.out.cell 4).trans (show _ = some (Value.slice ka kn kc) from rfl)
        have hres := hOL.res
        have HOL := Lib.hid hOL
        clear hOL
        go_wp2_with ((with_reducible show wpList _ _ _ (⟨none, _, _, _, _, _⟩ :: _) _ _); refine wl_store rfl 26 _ _ rfl (w.heap.size + 1) 0 rfl [.int .i64 k, .string (bstr s), .int .u64 (n : Int), .slice al m cl, .slice ka kn kc] rfl 26 zC hres (by kernel_rfl) (by simp [zC]) (by simp [Value.oneCell']) ?_; intro w9 hR9 hg9 hs9)
        rw [whole_store zC [.int .i64 k, .string (bstr s), .int .u64 (n : Int), .slice al m cl, .slice ka kn kc] rfl] at hR9
        refine end_cell rfl (w.heap.size + 1) 26 _ _ rfl hR9 Tryd.underlying26 rfl (by kernel_rfl) rfl ?_
        have h := HOL.out
        have hbl := h.bl
        have hsz := h.sz
        have hrl := World.ownsRow.lt h.row
        have hkl := World.ownsRow.lt h.keys
        have hsv : SV (fun x => w.heap.size + 3 ≤ x) wr (.mk k s n l ks) [.int .i64 k, .string (bstr s), .int .u64 (n : Int), .slice al m cl, .slice ka kn kc] := by
          refine sv_rows (D := fun x => w.heap.size + 3 ≤ x ∧ x < wr.heap.size ∧ Value.ownBlock (.slice al m cl) ≠ some x ∧ Value.ownBlock (.slice ka kn kc) ≠ some x) HK.out (row_sstr h.keys (fun x hx => (hkl x hx).1)) (by rw [← HLL.out]; exact h.row) (fun i v hi => h.sv i v (by rw [List.take_of_length_le (by rw [← HLL.out]; exact Nat.le_refl _)]; exact hi)) (fun x hx _ => hx.1) (fun x hx => (hrl x hx).1)
        refine ⟨_, rfl, sv_to (fun x hx _ => by omega) (Stay.of_grown hg9 (fun x hx hS => by cases hx; omega)) _ _ hsv, hbl.grown hg9 hbl.size (by intro x hx; cases hx; omega)⟩
theorem theirs_room (v : JV) (cs : List Value) (w0 w : World) (hv : RV w0 v cs) (hb : Below w0.heap.size w0 w) (hf : roomV v) :
    Calls Tryd.prog 18 #[.agg cs.toArray] w fun e w' => ∃ cs', e = .returned (.agg cs'.toArray) ∧ SV (fun x => w.heap.size ≤ x) w' v cs' ∧ Below w.heap.size w w' := theirs_all _ v cs w0 w (Nat.le_refl _) hv hb hf
theorem theirs_any (v : JV) (cs : List Value) (w0 w : World) (hv : RV w0 v cs) (hb : Below w0.heap.size w0 w) (hf : fewV v 1073741823) :
    Calls Tryd.prog 18 #[.agg cs.toArray] w fun e w' => ∃ cs', e = .returned (.agg cs'.toArray) ∧ SV (fun x => w.heap.size ≤ x) w' v cs' ∧ Below w.heap.size w w' := theirs_all _ v cs w0 w (Nat.le_refl _) hv hb (few_room v hf)
end Go.Proofs.YtiadfijeglbdlaaDoor

namespace Go.Proofs.YtiadfijeglbdlaaDoor
open Go.RowKit

structure Invours (w0 w wr : World) (k : Int) (s : List UInt8) (n : Nat) (b off ll c lk c' m cl : Nat) (al a' : Option Addr) (kv : Value) (xs ec : List Value) (e : JV) (L : Nat → Bool) (v25 v26 v27 v28 v29 v30 v31 v32 v33 v34 v35 : Value) (wx : World) : Prop where
  t0 : L 0 = true → v25 = .pointer (some ⟨w.heap.size + 2, 3, none⟩)
  t1 : L 1 = true → v26 = .slice al m cl
  t2 : L 2 = true → v27 = .pointer (some ⟨w.heap.size, 3, none⟩)
  t3 : L 3 = true → v28 = .slice (some ⟨b, off, none⟩) ll c
  t4 : L 4 = true → v29 = .int .i64 (m : Int)
  t5 : L 5 = true → v30 = .pointer (some ⟨b, off + m * 5, none⟩)
  t6 : L 6 = true → v31 = .agg ec.toArray
  t7 : L 7 = true → ∃ (k1 : Int) (s1 : ByteArray) (n1 : Int) (a1 : Option Addr) (l1 c1 : Nat) (b1 : Option Addr) (m1 d1 : Nat), v32 = .agg #[.int .i64 k1, .string s1, .int .u64 n1, .slice a1 l1 c1, .slice b1 m1 d1] ∧ SV (fun x => wr.heap.size ≤ x ∧ x < wx.heap.size ∧ (L 9 = true → Value.ownBlock v34 ≠ some x)) wx e [.int .i64 k1, .string s1, .int .u64 n1, .slice a1 l1 c1, .slice b1 m1 d1]
  t8 : L 8 = true → ∃ NB, v33 = .slice (some ⟨NB, 0, none⟩) 1 1 ∧ (L 9 = false → ∃ cells : List Value, v32 = .agg cells.toArray ∧ cells.length = 5 ∧ (∀ u ∈ cells, u.oneCell' = true) ∧ Arr wx NB 30 cells)
  t9 : L 9 = true → ∃ a3 c3 cells, v34 = .slice a3 (m + 1) c3 ∧ v32 = .agg (List.toArray cells) ∧ cells.length = 5 ∧ wx.ownsRow (w.heap.size + 3) 30 5 v34 (m + 1) (xs ++ cells) ∧ (∀ x, Value.ownBlock v34 = some x → (Value.ownBlock (.slice al m cl)) = some x ∨ wr.heap.size ≤ x)
  t10 : L 10 = true → v35 = .pointer (some ⟨w.heap.size + 2, 3, none⟩)
  n9 : L 9 = false → wx.ownsRow (w.heap.size + 3) 30 5 (.slice al m cl) m xs
  aO : ∃ curO, Arr wx (w.heap.size + 2) 30 curO ∧ (L 11 = false → curO = [.int .i64 k, .string (bstr s), .int .u64 (n : Int), .slice al m cl, kv]) ∧ (L 11 = true → curO = (List.set [.int .i64 k, .string (bstr s), .int .u64 (n : Int), .slice al m cl, kv] 3 v34))
  aV : Arr wx w.heap.size 26 [.int .i64 k, .string (bstr s), .int .u64 (n : Int), .slice (some ⟨b, off, none⟩) ll c, .slice a' lk c']
  bl9 : L 9 = false → Below wr.heap.size wr wx
  tch : Tch wr wx ((w.heap.size + 2) :: (Value.ownBlock (.slice al m cl)).toList)
/-- a round of ours -/
structure OLours (w0 w wr : World) (k : Int) (s : List UInt8) (n : Nat) (a a' : Option Addr) (c c' ll lk : Nat) (l : List JV) (ks : List (List UInt8)) (kv : Value) (m : Nat) (lv : Value) (xs : List Value) : Prop where
  bl : Below w.heap.size w wr
  sz : w.heap.size + 3 ≤ wr.heap.size
  box : Arr wr w.heap.size 26 [.int .i64 k, .string (bstr s), .int .u64 (n : Int), .slice a ll c, .slice a' lk c']
  res : Arr wr (w.heap.size + 1) 30 zC
  out : Arr wr (w.heap.size + 2) 30 [.int .i64 k, .string (bstr s), .int .u64 (n : Int), lv, kv]
  row : wr.ownsRow (w.heap.size + 3) 30 5 lv m xs
  keys : wr.ownsRow (w.heap.size + 3) 9 1 kv ks.length (ks.map fun k => Value.string (bstr k))
  apart : ∀ x, lv.ownBlock = some x → kv.ownBlock ≠ some x
  sv : ∀ i v, (l.take m)[i]? = some v → SV (fun x => w.heap.size + 3 ≤ x ∧ x < wr.heap.size ∧ lv.ownBlock ≠ some x ∧ kv.ownBlock ≠ some x) wr v (cell5 xs i)

set_option maxRecDepth 100000 in
set_option maxHeartbeats 6400000 in
theorem ours_all : ∀ (N : Nat) (v : JV) (cs : List Value) (w0 w : World), SizeOf.sizeOf v ≤ N → RV w0 v cs → Below w0.heap.size w0 w → roomV v →
    Calls Tryd.prog 10 #[.agg cs.toArray] w fun e w' => ∃ cs', e = .returned (.agg cs'.toArray) ∧ SV (fun x => w.heap.size ≤ x) w' v cs' ∧ Below w.heap.size w w' := by
  intro N
  induction N with
  | zero =>
    rintro ⟨k, s, n, l, ks⟩ cs w0 w hN
    simp only [JV.mk.sizeOf_spec] at hN
    omega
  | succ N ih =>
    rintro ⟨k, s, n, l, ks⟩ cs w0 w hN hv hb0 hf
    unfold roomV at hf
    obtain ⟨hf1, hf2, hf3⟩ := hf
    obtain ⟨a, c, a', c', rfl, hk, hks, hlc, hac, hl⟩ := rv_five hv
    have hW0 : Hid (w0.heap.size ≤ w.heap.size) := hb0.size
    have hA0 : Arr ((w.alloc (.cells #[.int .i64 k, .string (bstr s), .int .u64 (n : Int), .slice a l.length c, .slice a' ks.length c'] 26)).alloc (.cells #[.int .i64 0, .string ⟨#[]⟩, .int .u64 0, .slice none 0 0, .slice none 0 0] 30)) w.heap.size 26 [.int .i64 k, .string (bstr s), .int .u64 (n : Int), .slice a l.length c, .slice a' ks.length c'] := (Arr.new w 26 [.int .i64 k, .string (bstr s), .int .u64 (n : Int), .slice a l.length c, .slice a' ks.length c']).kept ((Below.refl _ _).alloc (Nat.le_refl _) (.cells zC.toArray 30))
    have hA1 : Arr ((w.alloc (.cells #[.int .i64 k, .string (bstr s), .int .u64 (n : Int), .slice a l.length c, .slice a' ks.length c'] 26)).alloc (.cells #[.int .i64 0, .string ⟨#[]⟩, .int .u64 0, .slice none 0 0, .slice none 0 0] 30)) (w.heap.size + 1) 30 zC := by
      have := Arr.new (w.alloc (.cells #[.int .i64 k, .string (bstr s), .int .u64 (n : Int), .slice a l.length c, .slice a' ks.length c'] 26)) 30 zC
      rw [World.size_alloc] at this
      exact this
    have hB2 : Below w.heap.size w ((w.alloc (.cells #[.int .i64 k, .string (bstr s), .int .u64 (n : Int), .slice a l.length c, .slice a' ks.length c'] 26)).alloc (.cells #[.int .i64 0, .string ⟨#[]⟩, .int .u64 0, .slice none 0 0, .slice none 0 0] 30)) := ((Below.refl _ _).alloc (Nat.le_refl _) _).alloc (by simp) _
    have hs2 : Hid (((w.alloc (.cells #[.int .i64 k, .string (bstr s), .int .u64 (n : Int), .slice a l.length c, .slice a' ks.length c'] 26)).alloc (.cells #[.int .i64 0, .string ⟨#[]⟩, .int .u64 0, .slice none 0 0, .slice none 0 0] 30)).heap.size = w.heap.size + 2) := by show _ = _; simp
    have HKS := Lib.hid hks
    have HB0 := Lib.hid hb0
    have HK := Lib.hid hk
    have HF3 := Lib.hid hf3
    have HL := Lib.hid hl
    have HLC := Lib.hid hlc
    have IH := Lib.hid ih
    have HNN := Lib.hid hN
    clear hv hks hb0 hk hf3 hl hlc hac ih hN
    go_enter Tryd.func10, Tryd.ntmps10
    go_upto_region 1 with fail
    generalize ((w.alloc (.cells #[.int .i64 k, .string (bstr s), .int .u64 (n : Int), .slice a l.length c, .slice a' ks.length c'] 26)).alloc (.cells #[.int .i64 0, .string ⟨#[]⟩, .int .u64 0, .slice none 0 0, .slice none 0 0] 30)) = W2 at *
    have q0 := (hA0.cell 0).trans (show _ = some (Value.int .i64 k) from rfl)
    have q1 := (hA0.cell 1).trans (show _ = some (Value.string (bstr s)) from rfl)
    have hs2e := hs2.out
    have q2 := (hA0.cell 2).trans (show _ = some (Value.int .u64 (n : Int)) from rfl)
    go_upto_region 2 with ((with_reducible show wpList _ _ _ (⟨none, _, _, _, _, _⟩ :: _) _ _); go_loud (refine wl_store rfl 30 _ _ rfl (w.heap.size + 2) 0 rfl [.int .i64 k, .string (bstr s), .int .u64 (n : Int), .slice none 0 0, .slice none 0 0] rfl 30 zC (by have := Arr.new W2 30 zC; rw [hs2.out] at this; exact this) (by kernel_rfl) (by simp [zC]) (by simp [Value.oneCell']) ?_); intro w3 hO3 hg3 hs3)
    rw [whole_store zC [.int .i64 k, .string (bstr s), .int .u64 (n : Int), .slice none 0 0, .slice none 0 0] rfl] at hO3
    have hA3 := (hA0.kept ((Below.refl _ _).alloc (Nat.le_refl _) _)).grown hg3 (by simp)
    have hR3 := (hA1.kept ((Below.refl _ _).alloc (Nat.le_refl _) _)).grown hg3 (by simp)
    have hB3 : Below w.heap.size w w3 := (hB2.alloc hB2.size _).grown hg3 (by have := hB2.size; simp; omega) (by intro k hk; cases hk; omega)
    have hz3 : Hid (w3.heap.size = w.heap.size + 3) := by show _ = _; rw [hs3, World.size_alloc, hs2.out]
    clear q0 q1 q2 hA0 hA1 hg3 hs3 hB2 hs2e
    have r4 := (hO3.cell 4).trans (show _ = some (Value.slice none 0 0) from rfl)
    have s4 := (hA3.cell 4).trans (show _ = some (Value.slice a' ks.length c') from rfl)
    have HB3 := Lib.hid hB3
    clear hB3
    obtain ⟨lk, hlk⟩ : ∃ lk, lk = ks.length := ⟨_, rfl⟩
    have HLK := Lib.hid hlk
    rw [← hlk] at s4 hA3 hf2
    rw [← hlk]
    clear hlk
    go_upto_region 4 with (at_builtin; go_loud (refine wl_append_keys rfl (.tmp 13) (.tmp 15) rfl (w.heap.size + 3) ks a' c' rfl (by rw [← HLK.out]; rfl) (HKS.out.to (HB0.out.trans (HB3.out.mono hW0.out))) (by rw [← HLK.out]; omega) (by have := hz3.out; omega) ?_; intro v5 w5 hkeys5 hb5; obtain ⟨a5, n5, c5, rfl⟩ := row_shape hkeys5; have hO5 := hO3.kept hb5; have hA5 := hA3.kept hb5; have hR5 := hR3.kept hb5; have d4 := (hO5.cell 4).trans (show _ = some (Value.slice none 0 0) from rfl); have f4 := hO5.frozen 4; have HKEYS := Lib.hid hkeys5; have HB5 := Lib.hid hb5; clear hkeys5 hb5))
    have hO6 := hO5.store 4 (.slice a5 n5 c5)
    have hA6 := hA5.other ⟨w.heap.size + 2, 4, none⟩ (by show w.heap.size + 2 ≠ _; omega) (.slice a5 n5 c5)
    have hR6 := hR5.other ⟨w.heap.size + 2, 4, none⟩ (by show w.heap.size + 2 ≠ _; omega) (.slice a5 n5 c5)
    have ht6 := tch_cell w5 ⟨w.heap.size + 2, 4, none⟩ (.slice a5 n5 c5)
    have hk6 := ht6.row HKEYS.out (fun x hx e => by have := (World.ownsRow.lt HKEYS.out x hx).1; simp at e; omega)
    have hOL0 : OLours w0 w (w5.setCell ⟨w.heap.size + 2, 4, none⟩ (.slice a5 n5 c5)) k s n a a' c c' l.length lk l ks (.slice a5 n5 c5) 0 (.slice none 0 0) [] := {
      bl := by
        have hb : Below w.heap.size w w5 := HB3.out.trans (HB5.out.mono HB3.out.size)
        exact ⟨hb.os, hb.tape, hb.output, by have := hb.size; rw [World.size_setCell]; exact this, fun i hi => (ht6.block i (by have := hb.size; omega) (by simp; omega)).trans (hb.block i hi)⟩
      sz := by have := HB5.out.size; have := hz3.out; rw [World.size_setCell]; omega
      box := hA6
      res := hR6
      out := hO6
      row := World.ownsRow_nil _ _ _ _
      keys := hk6
      apart := fun x hx => by cases hx
      sv := fun i v hi => by simp at hi }
    have HOL0 := Lib.hid hOL0
    clear hOL0 hk6 ht6 hO6 hA6 hR6 hO5 hA5 hR5 d4 f4 hO3 hA3 hR3 r4 s4
    obtain ⟨ll, hll⟩ : ∃ ll, ll = l.length := ⟨_, rfl⟩
    have HLL := Lib.hid hll
    rw [← hll] at HOL0 hf1
    rw [← hll]
    clear hll
    go_loopw [4] (fun i wr => ∃ (m : Nat) (lv : Value) (xs : List Value), m ≤ ll ∧ i = .int .i64 m ∧ (∃ kv, OLours w0 w wr k s n a a' c c' ll lk l ks kv m lv xs)) (fun i _ => ll - (intOf i).toNat)
    case atStart => exact ⟨0, _, _, Nat.zero_le _, rfl, ⟨_, HOL0.out⟩⟩
    case round =>
      clear HOL0
      obtain ⟨m, lv, xs, hm, rfl, ⟨kv, hOL⟩⟩ := hrel
      obtain ⟨al, cl, rfl⟩ := row_n hOL.row
      have hbx3 := (hOL.box.cell 3).trans (show _ = some (Value.slice a ll c) from rfl)
      by_cases hlt : m < ll
      · have hml : (m : Int) < (ll : Int) := by omega
        obtain ⟨b, off, rfl, hbw, hrl⟩ := HL.out (by rw [← HLL.out]; omega)
        obtain ⟨e, he⟩ : ∃ e, l[m]? = some e := ⟨_, List.getElem?_eq_getElem (by rw [← HLL.out]; exact hlt)⟩
        obtain ⟨ec, ec5, ecell, erv⟩ := rl_at l b off m e hrl he
        have hsize := jv_mem (k := k) (s := s) (n := n) (ks := ks) (List.mem_of_getElem? he)
        have hCALL : Hid (∀ W, Below wr.heap.size wr W → Calls Tryd.prog 10 #[.agg ec.toArray] W fun e' w' => ∃ cs', e' = .returned (.agg cs'.toArray) ∧ SV (fun x => W.heap.size ≤ x) w' e cs' ∧ Below W.heap.size W w') := fun W hW => IH.out e ec w0 W (by have := HNN.out; omega) erv (HB0.out.trans ((hOL.bl.trans (hW.mono hOL.bl.size)).mono hW0.out)) (room_at l m e HF3.out he)
        have hRG : Hid (∀ W, Below wr.heap.size wr W → W.rangeAt b (off + m * 5) ec) := fun W hW j v hj => by
          have hj5 : j < 5 := by rw [← ec5]; exact (List.getElem?_eq_some_iff.1 hj).1
          have h1 := ecell j hj5
          rw [hj] at h1
          have hBB : Below w0.heap.size w0 W := HB0.out.trans ((hOL.bl.trans (hW.mono hOL.bl.size)).mono hW0.out)
          rw [show off + m * 5 + j = off + (5 * m + j) by omega]
          exact (hBB.cell (p := ⟨b, off + (5 * m + j), none⟩) hbw).trans h1
        have hEL := Lib.hid ec5
        have HE := Lib.hid he
        have HLT : Hid (m < l.length) := by show _ < _; rw [← HLL.out]; exact hlt
        have HOL := Lib.hid hOL
        have hROW := Lib.hid hOL.row
        have hrow := hOL.row
        have hout := hOL.out
        have hbox := hOL.box
        have hSZ := Lib.hid hOL.sz
        have hm30 : m + 1 ≤ 1759218604441 := by omega
        clear hsize erv ecell hrl he ec5 hOL
        go_upto_region 6 with fail
        refine wp_region_steps [[], [0], [], [2], [], [3, 4], [5], [6], [7], [1, 7, 8], [0, 1, 2, 3, 4, 5, 6, 7, 8, 9], [10, 0, 1, 2, 3, 4, 5, 6, 7, 8, 9]] (by kernel_rfl) (by kernel_rfl) (fun L a wx => ∃ v25 v26 v27 v28 v29 v30 v31 v32 v33 v34 v35, a = ⟨#[.agg #[.int .i64 k, .string (bstr s), .int .u64 (n : Int), .slice (some ⟨b, off, none⟩) ll c, .slice a' lk c'], .pointer (some ⟨w.heap.size, 0, none⟩), .pointer (some ⟨w.heap.size + 1, 0, none⟩), .pointer (some ⟨w.heap.size + 2, 0, none⟩), .int .i64 (m : Int), .pointer (some ⟨w.heap.size, 0, none⟩), .int .i64 k, .pointer (some ⟨w.heap.size, 1, none⟩), .string (bstr s), .pointer (some ⟨w.heap.size, 2, none⟩), .int .u64 (n : Int), .agg #[.int .i64 k, .string (bstr s), .int .u64 (n : Int), .slice none 0 0, .slice none 0 0], .pointer (some ⟨w.heap.size + 2, 4, none⟩), .slice none 0 0, .pointer (some ⟨w.heap.size, 4, none⟩), .slice a' lk c', .slice a5 n5 c5, .pointer (some ⟨w.heap.size + 2, 4, none⟩), .int .i64 (m : Int), .pointer (some ⟨w.heap.size, 3, none⟩), .slice (some ⟨b, off, none⟩) ll c, .int .i64 (ll : Int), .bool true, u23, u24, v25, v26, v27, v28, v29, v30, v31, v32, v33, v34, v35, undef], []⟩ ∧ Invours w0 w wr k s n b off ll c lk c' m cl al a' kv xs ec e L v25 v26 v27 v28 v29 v30 v31 v32 v33 v34 v35 wx) ?_ ⟨?_, ?_, ?_, ?_, ?_, ?_, ?_, ?_, ?_, ?_, ?_, ?_, trivial⟩ ?_
        · refine ⟨_, _, _, _, _, _, _, _, _, _, _, rfl, ⟨?_, ?_, ?_, ?_, ?_, ?_, ?_, ?_, ?_, ?_, ?_, fun _ => hrow, ⟨_, hout.drew, fun _ => rfl, fun h => absurd h (by decide)⟩, hbox.drew, fun _ => (Below.refl _ _).drew, ⟨rfl, rfl, rfl, Nat.le_refl _, fun _ _ _ => rfl⟩⟩⟩ <;> (intro h; exact absurd h (by decide))
        · rintro L a wx ⟨v25, v26, v27, v28, v29, v30, v31, v32, v33, v34, v35, rfl, hI⟩ hL hdep hcl K hK
          go_simp
          exact hK _ _ ⟨_, v26, v27, v28, v29, v30, v31, v32, v33, v34, v35, rfl, ⟨fun _ => rfl, hI.t1, hI.t2, hI.t3, hI.t4, hI.t5, hI.t6, hI.t7, hI.t8, hI.t9, hI.t10, hI.n9, hI.aO, hI.aV, hI.bl9, hI.tch⟩⟩
        · rintro L a wx ⟨v25, v26, v27, v28, v29, v30, v31, v32, v33, v34, v35, rfl, hI⟩ hL hdep hcl K hK
          obtain rfl := hI.t0 (hdep 0 (by decide))
          obtain ⟨curO, o1, o2, o3⟩ := hI.aO
          obtain rfl := o2 (by cases h12 : L 11 with | false => rfl | true => exact absurd (hcl 11 (by decide) h12 1 (by decide)) (by rw [hL]; decide))
          have c0 := (o1.cell 3).trans (show _ = some (Value.slice al m cl) from rfl)
          go_simp
          exact hK _ _ ⟨_, _, v27, v28, v29, v30, v31, v32, v33, v34, v35, rfl, ⟨hI.t0, fun _ => rfl, hI.t2, hI.t3, hI.t4, hI.t5, hI.t6, hI.t7, hI.t8, hI.t9, hI.t10, hI.n9, ⟨_, o1, fun _ => rfl, o3⟩, hI.aV, hI.bl9, hI.tch⟩⟩
        · rintro L a wx ⟨v25, v26, v27, v28, v29, v30, v31, v32, v33, v34, v35, rfl, hI⟩ hL hdep hcl K hK
          go_simp
          exact hK _ _ ⟨v25, v26, _, v28, v29, v30, v31, v32, v33, v34, v35, rfl, ⟨hI.t0, hI.t1, fun _ => rfl, hI.t3, hI.t4, hI.t5, hI.t6, hI.t7, hI.t8, hI.t9, hI.t10, hI.n9, hI.aO, hI.aV, hI.bl9, hI.tch⟩⟩
        · rintro L a wx ⟨v25, v26, v27, v28, v29, v30, v31, v32, v33, v34, v35, rfl, hI⟩ hL hdep hcl K hK
          obtain rfl := hI.t2 (hdep 2 (by decide))
          have c0 := (hI.aV.cell 3).trans (show _ = some (Value.slice (some ⟨b, off, none⟩) ll c) from rfl)
          go_simp
          exact hK _ _ ⟨v25, v26, _, _, v29, v30, v31, v32, v33, v34, v35, rfl, ⟨hI.t0, hI.t1, hI.t2, fun _ => rfl, hI.t4, hI.t5, hI.t6, hI.t7, hI.t8, hI.t9, hI.t10, hI.n9, hI.aO, hI.aV, hI.bl9, hI.tch⟩⟩
        · rintro L a wx ⟨v25, v26, v27, v28, v29, v30, v31, v32, v33, v34, v35, rfl, hI⟩ hL hdep hcl K hK
          go_simp
          exact hK _ _ ⟨v25, v26, v27, v28, _, v30, v31, v32, v33, v34, v35, rfl, ⟨hI.t0, hI.t1, hI.t2, hI.t3, fun _ => rfl, hI.t5, hI.t6, hI.t7, hI.t8, hI.t9, hI.t10, hI.n9, hI.aO, hI.aV, hI.bl9, hI.tch⟩⟩
        · rintro L a wx ⟨v25, v26, v27, v28, v29, v30, v31, v32, v33, v34, v35, rfl, hI⟩ hL hdep hcl K hK
          obtain rfl := hI.t3 (hdep 3 (by decide))
          obtain rfl := hI.t4 (hdep 4 (by decide))
          have hmm := hml
          go_simp
          exact hK _ _ ⟨v25, v26, v27, _, _, _, v31, v32, v33, v34, v35, rfl, ⟨hI.t0, hI.t1, hI.t2, hI.t3, hI.t4, fun _ => rfl, hI.t6, hI.t7, hI.t8, hI.t9, hI.t10, hI.n9, hI.aO, hI.aV, hI.bl9, hI.tch⟩⟩
        · rintro L a wx ⟨v25, v26, v27, v28, v29, v30, v31, v32, v33, v34, v35, rfl, hI⟩ hL hdep hcl K hK
          obtain rfl := hI.t5 (hdep 5 (by decide))
          have h9 : L 9 = false := by cases h9 : L 9 with | false => rfl | true => exact absurd (hcl 7 (by decide) (hcl 8 (by decide) (hcl 9 (by decide) h9 8 (by decide)) 7 (by decide)) 6 (by decide)) (by rw [hL]; decide)
          refine wp_load_mid 26 _ rfl b (off + m * 5) rfl ec _ (hRG.out _ (hI.bl9 h9)) Tryd.underlying26 rfl (by rw [hEL.out]; kernel_rfl) ?_
          exact hK _ _ ⟨v25, v26, v27, v28, v29, _, _, v32, v33, v34, v35, rfl, ⟨hI.t0, hI.t1, hI.t2, hI.t3, hI.t4, hI.t5, fun _ => rfl, hI.t7, hI.t8, hI.t9, hI.t10, hI.n9, hI.aO, hI.aV, hI.bl9, hI.tch⟩⟩
        · rintro L a wx ⟨v25, v26, v27, v28, v29, v30, v31, v32, v33, v34, v35, rfl, hI⟩ hL hdep hcl K hK
          obtain rfl := hI.t6 (hdep 6 (by decide))
          have h9 : L 9 = false := by cases h9 : L 9 with | false => rfl | true => exact absurd (hcl 8 (by decide) (hcl 9 (by decide) h9 8 (by decide)) 7 (by decide)) (by rw [hL]; decide)
          have hsz := (hI.bl9 h9).size
          go_simp
          refine (hCALL.out _ (hI.bl9 h9)).mono ?_
          rintro e w' ⟨cs', rfl, hsv, hb⟩
          obtain ⟨k1, s1, n1, a1, l1, c1, b1, m1, d1, rfl⟩ := pv_shape (sv_pv _ _ hsv)
          have hbw : Below wr.heap.size wr w' := (hI.bl9 h9).trans (hb.mono hsz)
          exact hK _ _ ⟨v25, v26, v27, v28, v29, v30, _, _, v33, v34, v35, rfl, ⟨hI.t0, hI.t1, hI.t2, hI.t3, hI.t4, hI.t5, hI.t6, fun _ => ⟨k1, s1, n1, a1, l1, c1, b1, m1, d1, rfl, sv_to (fun x hx hxl => ⟨by omega, hxl, fun h => by rw [show L 9 = true from h] at h9; cases h9⟩) (fun _ _ _ => rfl) _ _ hsv⟩, (fun h => absurd (hcl 8 (by decide) h 7 (by decide)) (by rw [hL]; decide)), (fun h => by rw [show L 9 = true from h] at h9; cases h9), hI.t10, fun h => (hI.n9 h).kept (gb hb none) (by cases al <;> simp [Value.ownBlock]), (by obtain ⟨curO, o1, o2, o3⟩ := hI.aO; exact ⟨curO, o1.kept hb, o2, o3⟩), hI.aV.kept hb, fun _ => hbw, hI.tch.trans (Tch.of_below hb _)⟩⟩
        · rintro L a wx ⟨v25, v26, v27, v28, v29, v30, v31, v32, v33, v34, v35, rfl, hI⟩ hL hdep hcl K hK
          have h9 : L 9 = false := by cases h9 : L 9 with | false => rfl | true => exact absurd (hcl 9 (by decide) h9 8 (by decide)) (by rw [hL]; decide)
          obtain ⟨k1, s1, n1, a1, l1, c1, b1, m1, d1, rfl, hsv⟩ := hI.t7 (hdep 7 (by decide))
          have hb := (Below.refl wx.heap.size wx).alloc (Nat.le_refl _) (.cells #[.int .i64 k1, .string s1, .int .u64 n1, .slice a1 l1 c1, .slice b1 m1 d1] 30)
          have hN := Arr.new wx 30 [.int .i64 k1, .string s1, .int .u64 n1, .slice a1 l1 c1, .slice b1 m1 d1]
          have hsz := (hI.bl9 h9).size
          have hbw : Below wr.heap.size wr (wx.alloc (.cells #[.int .i64 k1, .string s1, .int .u64 n1, .slice a1 l1 c1, .slice b1 m1 d1] 30)) := (hI.bl9 h9).trans (hb.mono hsz)
          go_simp
          exact hK _ _ ⟨v25, v26, v27, v28, v29, v30, v31, _, _, v34, v35, rfl, ⟨hI.t0, hI.t1, hI.t2, hI.t3, hI.t4, hI.t5, hI.t6, fun _ => ⟨k1, s1, n1, a1, l1, c1, b1, m1, d1, rfl, sv_to (fun x hx hxl => ⟨hx.1, by simp; omega, hx.2.2⟩) (Stay.of_below hb) _ _ hsv⟩, fun _ => ⟨_, rfl, fun _ => ⟨_, rfl, rfl, by simp [Value.oneCell'], hN⟩⟩, (fun h => by rw [show L 9 = true from h] at h9; cases h9), hI.t10, fun h => (hI.n9 h).alloc _, (by obtain ⟨curO, o1, o2, o3⟩ := hI.aO; exact ⟨curO, o1.kept hb, o2, o3⟩), hI.aV.kept hb, fun _ => hbw, hI.tch.trans (Tch.of_below hb _)⟩⟩
        · rintro L a wx ⟨v25, v26, v27, v28, v29, v30, v31, v32, v33, v34, v35, rfl, hI⟩ hL hdep hcl K hK
          obtain rfl := hI.t1 (hdep 1 (by decide))
          obtain ⟨k1, s1, n1, a1, l1, c1, b1, m1, d1, rfl, hsv⟩ := hI.t7 (hdep 7 (by decide))
          obtain ⟨NB, rfl, hNB⟩ := hI.t8 (hdep 8 (by decide))
          obtain ⟨cells, hce, hc5, hone, hArr⟩ := hNB hL
          have hcells : cells = [.int .i64 k1, .string s1, .int .u64 n1, .slice a1 l1 c1, .slice b1 m1 d1] := by have := Value.agg.inj hce; exact (by simpa using congrArg Array.toList this.symm)
          subst hcells
          have hrow := hI.n9 hL
          have hbl := hI.bl9 hL
          have hsz := hbl.size
          have hsz0 := hSZ.out
          have hlvb := World.ownsRow.lt hROW.out
          refine ow_append_J (.tmp 26) (.tmp 33) rfl (w.heap.size + 3) m _ _ hrow rfl NB 30 [.int .i64 k1, .string s1, .int .u64 n1, .slice a1 l1 c1, .slice b1 m1 d1] rfl (by simp [Value.oneCell']) rfl hArr hm30 (by omega) ?_
          intro v' w' h1 h2 h3
          obtain ⟨a3, c3, rfl⟩ := row_n h1
          have hX : ∀ x, Value.ownBlock (.slice a3 (m + 1) c3) = some x → (Value.ownBlock (.slice al m cl)) = some x ∨ wr.heap.size ≤ x := fun x hx => (h3 x hx).imp id (fun h => by omega)
          have hsv2 := sv_to (S' := (fun x => wr.heap.size ≤ x ∧ x < w'.heap.size ∧ (true = true → Value.ownBlock (.slice a3 (m + 1) c3) ≠ some x))) (fun x hx hxl => ⟨hx.1, by have := h2.size; omega, fun _ e => by rcases h3 x e with h | h; have := (hlvb x h).2; omega; omega⟩) (h2.stay (fun x hx hS => by have := hlvb x (by simpa using hx); omega)) _ _ hsv
          exact hK _ _ ⟨v25, _, v27, v28, v29, v30, v31, _, _, _, v35, rfl, ⟨hI.t0, hI.t1, hI.t2, hI.t3, hI.t4, hI.t5, hI.t6, fun _ => ⟨k1, s1, n1, a1, l1, c1, b1, m1, d1, rfl, hsv2⟩, fun _ => ⟨NB, rfl, (fun h => Bool.noConfusion (show true = false from h))⟩, fun _ => ⟨a3, c3, _, rfl, rfl, rfl, h1, hX⟩, hI.t10, (fun h => Bool.noConfusion (show true = false from h)), (by obtain ⟨curO, o1, o2, o3⟩ := hI.aO; exact ⟨curO, h2.arr o1 (fun e => by have := (hlvb _ (by simpa using e)).1; omega), o2, fun h => by have := hcl 11 (by decide) (show L 11 = true from h) 9 (by decide); rw [hL] at this; cases this⟩), h2.arr hI.aV (fun e => by have := (hlvb _ (by simpa using e)).1; omega), (fun h => Bool.noConfusion (show true = false from h)), hI.tch.trans (h2.mono (fun b hb => .inl (List.mem_cons_of_mem _ hb)))⟩⟩
        · rintro L a wx ⟨v25, v26, v27, v28, v29, v30, v31, v32, v33, v34, v35, rfl, hI⟩ hL hdep hcl K hK
          obtain rfl := hI.t0 (hdep 0 (by decide))
          obtain rfl := hI.t1 (hdep 1 (by decide))
          obtain rfl := hI.t2 (hdep 2 (by decide))
          obtain rfl := hI.t3 (hdep 3 (by decide))
          obtain rfl := hI.t4 (hdep 4 (by decide))
          obtain rfl := hI.t5 (hdep 5 (by decide))
          obtain rfl := hI.t6 (hdep 6 (by decide))
          go_simp
          exact hK _ _ ⟨_, _, _, _, _, _, _, v32, v33, v34, _, rfl, ⟨hI.t0, hI.t1, hI.t2, hI.t3, hI.t4, hI.t5, hI.t6, hI.t7, hI.t8, hI.t9, fun _ => rfl, hI.n9, hI.aO, hI.aV, hI.bl9, hI.tch⟩⟩
        · rintro L a wx ⟨v25, v26, v27, v28, v29, v30, v31, v32, v33, v34, v35, rfl, hI⟩ hL hdep hcl K hK
          obtain rfl := hI.t10 (hdep 10 (by decide))
          obtain rfl := hI.t0 (hdep 0 (by decide))
          obtain rfl := hI.t1 (hdep 1 (by decide))
          obtain rfl := hI.t2 (hdep 2 (by decide))
          obtain rfl := hI.t3 (hdep 3 (by decide))
          obtain rfl := hI.t4 (hdep 4 (by decide))
          obtain rfl := hI.t5 (hdep 5 (by decide))
          obtain rfl := hI.t6 (hdep 6 (by decide))
          obtain ⟨k1, s1, n1, a1, l1, c1, b1, m1, d1, rfl, hsv⟩ := hI.t7 (hdep 7 (by decide))
          obtain ⟨NB, rfl, -⟩ := hI.t8 (hdep 8 (by decide))
          obtain ⟨a3, c3, cells, rfl, hce, hc5, hrow, hX⟩ := hI.t9 (hdep 9 (by decide))
          have hcells : cells = [.int .i64 k1, .string s1, .int .u64 n1, .slice a1 l1 c1, .slice b1 m1 d1] := by have := Value.agg.inj hce; exact (by simpa using congrArg Array.toList this.symm)
          subst hcells
          obtain ⟨curO, o1, o2, o3⟩ := hI.aO
          obtain rfl := o2 hL
          have hsz0 := hSZ.out
          have c0 := (o1.cell 3).trans (show _ = some (Value.slice al m cl) from rfl)
          have f0 := o1.frozen 3
          have hrl := World.ownsRow.lt hrow
          have htc := tch_cell wx ⟨w.heap.size + 2, 3, none⟩ (.slice a3 (m + 1) c3)
          have hrow2 := htc.row hrow (fun x hx e => by have := (hrl x hx).1; simp at e; omega)
          have ho2 := o1.store 3 (.slice a3 (m + 1) c3)
          have hv2 := hI.aV.other ⟨w.heap.size + 2, 3, none⟩ (by show w.heap.size + 2 ≠ _; omega) (.slice a3 (m + 1) c3)
          have ht2 := hI.tch.thenn htc (fun x hx => by simp at hx; subst hx; exact .inl (List.mem_cons_self ..))
          have hsv2 := sv_to (S' := (fun x => wr.heap.size ≤ x ∧ x < (wx.setCell ⟨w.heap.size + 2, 3, none⟩ (.slice a3 (m + 1) c3)).heap.size ∧ (L 9 = true → Value.ownBlock (.slice a3 (m + 1) c3) ≠ some x))) (fun x hx hxl => ⟨hx.1, by rw [World.size_setCell]; exact hx.2.1, hx.2.2⟩) (htc.stay (fun x hx hS => by simp at hx; omega)) _ _ hsv
          have H9 : L 9 = true := hdep 9 (by decide)
          go_simp
          exact hK _ _ ⟨_, _, _, _, _, _, _, _, _, _, _, rfl, ⟨hI.t0, hI.t1, hI.t2, hI.t3, hI.t4, hI.t5, hI.t6, fun _ => ⟨k1, s1, n1, a1, l1, c1, b1, m1, d1, rfl, hsv2⟩, (fun _ => ⟨NB, rfl, fun h => by rw [show L 9 = false from h] at H9; cases H9⟩), fun _ => ⟨a3, c3, _, rfl, rfl, rfl, hrow2, hX⟩, hI.t10, (fun h => by rw [show L 9 = false from h] at H9; cases H9), ⟨_, ho2, (fun h => Bool.noConfusion (show true = false from h)), fun _ => rfl⟩, hv2, (fun h => by rw [show L 9 = false from h] at H9; cases H9), ht2⟩⟩
        · rintro a wx ⟨v25, v26, v27, v28, v29, v30, v31, v32, v33, v34, v35, rfl, hI⟩
          obtain ⟨a3, c3, cells, e34, e32, hc5, hrow9, hX⟩ := hI.t9 rfl
          obtain ⟨k1, s1, n1, a1, l1, c1, b1, m1, d1, e32b, hsv⟩ := hI.t7 rfl
          obtain ⟨NB, e33, -⟩ := hI.t8 rfl
          subst e33
          subst e34
          subst e32b
          have hcells : cells = [.int .i64 k1, .string s1, .int .u64 n1, .slice a1 l1 c1, .slice b1 m1 d1] := by have := Value.agg.inj e32; exact (by simpa using congrArg Array.toList this.symm)
          subst hcells
          obtain ⟨curO, hO9, -, o3⟩ := hI.aO
          obtain rfl := o3 rfl
          have hbox9 := hI.aV
          have htch := hI.tch
          clear hI e32
          have hlvb := World.ownsRow.lt hROW.out
          have hsz0 := hSZ.out
          have hsz9 := htch.size
          have hOLn : OLours w0 w wx k s n (some ⟨b, off, none⟩) a' c c' ll lk l ks kv (m + 1) (.slice a3 (m + 1) c3) (xs ++ [.int .i64 k1, .string s1, .int .u64 n1, .slice a1 l1 c1, .slice b1 m1 d1]) := by
            have h := HOL.out
            have hkb := World.ownsRow.lt h.keys
            have hlen : xs.length = m * 5 := hROW.out.1
            refine {
              bl := ⟨htch.os.trans h.bl.os, htch.tape.trans h.bl.tape, htch.output.trans h.bl.output, by have := h.bl.size; omega, fun i hi => (htch.block i (by omega) (fun e => by rcases List.mem_cons.1 e with e | e; omega; have := (hlvb i (by simpa using e)).1; omega)).trans (h.bl.block i hi)⟩
              sz := by omega
              box := hbox9
              res := htch.arr h.res (fun e => by rcases List.mem_cons.1 e with e | e; omega; have := (hlvb _ (by simpa using e)).1; omega)
              out := hO9
              row := hrow9
              keys := htch.row h.keys (fun x hx e => by rcases List.mem_cons.1 e with e | e; have := (hkb x hx).1; omega; exact h.apart x (by simpa using e) hx)
              apart := fun x hx hk => by rcases hX x hx with e | e; exact h.apart x e hk; have := (hkb x hk).2; omega
              sv := fun i v hi => ?_ }
            have hst : Stay (fun x => w.heap.size + 3 ≤ x ∧ x < wr.heap.size ∧ (Value.ownBlock (.slice al m cl)) ≠ some x ∧ kv.ownBlock ≠ some x) wr wx := htch.stay (fun x hx hS => by rcases List.mem_cons.1 hx with e | e; omega; exact hS.2.2.1 (by simpa using e))
            have hll : m < l.length := HLT.out
            by_cases him : i < m
            · rw [List.getElem?_take, if_pos (by omega)] at hi
              rw [cell5_old hlen him]
              exact sv_to (fun x hx hxl => ⟨hx.1, by omega, fun e => by rcases hX x e with e | e; exact hx.2.2.1 e; omega, hx.2.2.2⟩) hst v _ (h.sv i v (by rw [List.getElem?_take, if_pos him]; exact hi))
            · have hi2 : i = m := by
                have := (List.getElem?_eq_some_iff.1 hi).1
                rw [List.length_take] at this
                omega
              subst hi2
              rw [List.getElem?_take, if_pos (by omega), HE.out] at hi
              cases hi
              rw [cell5_new hlen rfl]
              exact sv_to (fun x hx hxl => ⟨by omega, hx.2.1, hx.2.2 rfl, fun e => by have := (hkb x e).2; omega⟩) (fun _ _ _ => rfl) _ _ hsv
          clear hrow9 hsv hO9 hbox9 htch
          go_wp2
          go_roundw
          case rel => exact ⟨m + 1, _, _, by have := HLT.out; omega, by go_num, ⟨_, hOLn⟩⟩
          case measure => simp [intOf]; have := HLT.out; omega
      · have hml : ¬ (m : Int) < (ll : Int) := by omega
        have hmm : m = ll := by omega
        subst hmm
        have z0 := (hOL.out.cell 0).trans (show _ = some (Value.int .i64 k) from rfl)
        have z1 := (hOL.out.cell 1).trans (show _ = some (Value.string (bstr s)) from rfl)
        have z2 := (hOL.out.cell 2).trans (show _ = some (Value.int .u64 (n : Int)) from rfl)
        have z3 := (hOL.out.cell 3).trans (show _ = some (Value.slice al m cl) from rfl)
        obtain ⟨ka, kn, kc, rfl⟩ := row_shape hOL.keys
        have z4 := (hOL.out.cell 4).trans (show _ = some (Value.slice ka kn kc) from rfl)
        have hres := hOL.res
        have HOL := Lib.hid hOL
        clear hOL
        go_wp2_with ((with_reducible show wpList _ _ _ (⟨none, _, _, _, _, _⟩ :: _) _ _); refine wl_store rfl 30 _ _ rfl (w.heap.size + 1) 0 rfl [.int .i64 k, .string (bstr s), .int .u64 (n : Int), .slice al m cl, .slice ka kn kc] rfl 30 zC hres (by kernel_rfl) (by simp [zC]) (by simp [Value.oneCell']) ?_; intro w9 hR9 hg9 hs9)
        rw [whole_store zC [.int .i64 k, .string (bstr s), .int .u64 (n : Int), .slice al m cl, .slice ka kn kc] rfl] at hR9
        refine end_cell rfl (w.heap.size + 1) 30 _ _ rfl hR9 Tryd.underlying30 rfl (by kernel_rfl) rfl ?_
        have h := HOL.out
        have hbl := h.bl
        have hsz := h.sz
        have hrl := World.ownsRow.lt h.row
        have hkl := World.ownsRow.lt h.keys
        have hsv : SV (fun x => w.heap.size + 3 ≤ x) wr (.mk k s n l ks) [.int .i64 k, .string (bstr s), .int .u64 (n : Int), .slice al m cl, .slice ka kn kc] := by
          refine sv_rows (D := fun x => w.heap.size + 3 ≤ x ∧ x < wr.heap.size ∧ Value.ownBlock (.slice al m cl) ≠ some x ∧ Value.ownBlock (.slice ka kn kc) ≠ some x) HK.out (row_sstr h.keys (fun x hx => (hkl x hx).1)) (by rw [← HLL.out]; exact h.row) (fun i v hi => h.sv i v (by rw [List.take_of_length_le (by rw [← HLL.out]; exact Nat.le_refl _)]; exact hi)) (fun x hx _ => hx.1) (fun x hx => (hrl x hx).1)
        refine ⟨_, rfl, sv_to (fun x hx _ => by omega) (Stay.of_grown hg9 (fun x hx hS => by cases hx; omega)) _ _ hsv, hbl.grown hg9 hbl.size (by intro x hx; cases hx; omega)⟩
theorem ours_room (v : JV) (cs : List Value) (w0 w : World) (hv : RV w0 v cs) (hb : Below w0.heap.size w0 w) (hf : roomV v) :
    Calls Tryd.prog 10 #[.agg cs.toArray] w fun e w' => ∃ cs', e = .returned (.agg cs'.toArray) ∧ SV (fun x => w.heap.size ≤ x) w' v cs' ∧ Below w.heap.size w w' := ours_all _ v cs w0 w (Nat.le_refl _) hv hb hf
theorem ours_any (v : JV) (cs : List Value) (w0 w : World) (hv : RV w0 v cs) (hb : Below w0.heap.size w0 w) (hf : fewV v 1073741823) :
    Calls Tryd.prog 10 #[.agg cs.toArray] w fun e w' => ∃ cs', e = .returned (.agg cs'.toArray) ∧ SV (fun x => w.heap.size ≤ x) w' v cs' ∧ Below w.heap.size w w' := ours_all _ v cs w0 w (Nat.le_refl _) hv hb (few_room v hf)
end Go.Proofs.YtiadfijeglbdlaaDoor

namespace Go.Proofs.YtiadfijeglbdlaaDoor
open Go.ChangeShapes Go.WideShapes Go.ChangeAt Go.RowKit

theorem totL_le {H : Type} : ∀ (l : List JV) (D : Nat → DataW H), (∀ i v, l[i]? = some v → totV v ≤ Rows.uptoBulk (D i)) → totL l ≤ Rows.uptoBulkAll ((List.range l.length).map D)
  | [], _, _ => by unfold totL; omega
  | v :: r, D, h => by
    have h0 := h 0 v rfl
    have h1 := totL_le r (fun i => D (i + 1)) fun i u hi => h (i + 1) u (by simpa using hi)
    rw [List.length_cons, List.range_succ_eq_map, List.map_cons, List.map_map]
    unfold totL
    simp only [Rows.uptoBulkAll]
    have e : (D ∘ Nat.succ) = fun i => D (i + 1) := rfl
    rw [e]
    omega
theorem totK_le {H : Type} : ∀ (ss : List ByteArray), totK (ss.map fun s => s.data.toList) ≤ Rows.uptoBulkAll (strs (H := H) ss)
  | [] => by unfold totK; simp
  | s :: r => by
    have := totK_le (H := H) r
    rw [List.map_cons]
    unfold totK
    unfold strs at this ⊢
    rw [List.map_cons]
    simp only [Rows.uptoBulkAll, Rows.uptoBulk]
    omega

/-- the slice of texts that came in -/
theorem rstr_of_trod_b {H : Type} {enc : TypeId × Value → H} {P : Program} {T E : TypeId} (ht : P.underlying T = some (.slice E)) (he : P.underlying E = some .string) (hc : P.cellsOf E = 1) {W : World} {v : Value} {y : DataW H × List MemPlace} {fuel : Nat} {sp : Nat → Bool}
    (hf : DataW.trod enc P W 0 sp true fuel T [v] = some y) : ∃ a c ks, v = .slice a ks.length c ∧ RStr W ks a c ∧ totK ks ≤ Rows.uptoBulk y.1 := by
  rcases open_strings ht he hc hf with ⟨hcs, _⟩ | ⟨a, len, cap, ss, hcs, _, hl, hbig, hlen, hy, hcell, _⟩
  · obtain rfl : v = .slice none 0 0 := by simpa using hcs
    exact ⟨none, 0, [], rfl, ⟨Nat.le_refl _, by omega, fun _ => rfl, fun h => absurd h (Nat.lt_irrefl _)⟩, by unfold totK; omega⟩
  · obtain rfl : v = .slice (some a) len cap := by simpa using hcs
    have hls : len ≤ ss.length := by rw [hlen]; split <;> omega
    have hkl : ((ss.take len).map fun s => s.data.toList).length = len := by rw [List.length_map, List.length_take]; omega
    refine ⟨some a, cap, (ss.take len).map fun s => s.data.toList, by rw [hkl], ⟨by rw [hkl]; exact hl, hbig, (by intro e; cases e), fun h0 => ?_⟩, by rw [hy]; have := totK_le (H := H) (ss.take len); simp only [Rows.uptoBulk]; omega⟩
    rw [hkl] at h0
    have h00 := hcell 0 (by omega)
    have e0 : a.add 0 = a := rfl
    rw [e0] at h00
    have hspot := spot_none h00
    obtain ⟨b, off, spt⟩ := a
    simp only at hspot
    subst hspot
    refine ⟨b, off, rfl, World.block_lt_of_cell? W _ h00, fun i hi => ?_⟩
    rw [hkl] at hi
    have := hcell i (by omega)
    rw [Addr.add_lit] at this
    rw [this]
    have hin : i < ss.length := by omega
    simp [List.getD, hin, hi, bstr]

/-- the value that came in -/
theorem rv_of_trod_b {H : Type} {enc : TypeId × Value → H} {P : Program} {T TL TK TI TS TU : TypeId} {f0 f1 f2 f3 f4 : Field}
    (hT : P.underlying T = some (.struct #[f0, f1, f2, f3, f4])) (h0 : f0.type = TI) (h1 : f1.type = TS) (h2 : f2.type = TU) (h3 : f3.type = TL) (h4 : f4.type = TK) (hone : Deep.oneCellFields P #[f0, f1, f2, f3, f4] = true) (hC : P.cellsOf T = 5)
    (hI : P.underlying TI = some (.int .i64)) (hS : P.underlying TS = some .string) (hU : P.underlying TU = some (.int .u64)) (hL : P.underlying TL = some (.slice T)) (hK : P.underlying TK = some (.slice TS)) (hKc : P.cellsOf TS = 1) {W : World} {sp : Nat → Bool} :
    ∀ (N : Nat) (fuel : Nat) (cs : List Value) (y : DataW H × List MemPlace), Rows.uptoBulk y.1 ≤ N → DataW.trod enc P W 0 sp true fuel T cs = some y → ∃ v, RV W v cs ∧ totV v ≤ Rows.uptoBulk y.1 := by
  intro N
  induction N with
  | zero => intro fuel cs y hN; have := bulk_one y.1; omega
  | succ N ih =>
    intro fuel cs y hN hf
    obtain ⟨ys, n, _, hy, hlen, hyl, hfl⟩ := DataW.trod_struct hT hf
    rw [hC] at hlen
    match cs, hlen with
    | [c0, c1, c2, c3, c4], _ =>
    have fld : ∀ (j : Nat) (f : Field) (c : Value), #[f0, f1, f2, f3, f4][j]? = some f → [c0, c1, c2, c3, c4][j]? = some c → ∃ z : DataW H × List MemPlace, ys[j]? = some z ∧ DataW.trod enc P W 0 sp true n f.type [c] = some z := fun j f c hj hcj => by
      obtain ⟨ho, hk⟩ := Deep.hone_of hone j f hj
      have hjl : j < 5 := (Array.getElem?_eq_some_iff.1 hj).1
      have hy5 : ys.length = 5 := hyl
      have h := hfl j f hj
      rw [ho, hk] at h
      have hcs : ([c0, c1, c2, c3, c4].drop j).take 1 = [c] := by
        obtain ⟨hjl2, e⟩ := List.getElem?_eq_some_iff.1 hcj
        rw [List.drop_eq_getElem_cons hjl2, e]
        rfl
      rw [hcs, List.getElem?_eq_getElem (by omega)] at h
      exact ⟨_, List.getElem?_eq_getElem (by omega), h⟩
    have sub : ∀ (j : Nat) (z : DataW H × List MemPlace), ys[j]? = some z → Rows.uptoBulk z.1 ≤ N := fun j z hz => by
      have hD1 : y.1 = .agg (ys.map (·.1)) := congrArg Prod.fst hy
      rw [hD1] at hN
      have := bulk_mem (d := z.1) (l := ys.map (·.1)) (List.mem_map.2 ⟨z, List.mem_of_getElem? hz, rfl⟩)
      simp only [Rows.uptoBulk] at hN
      omega
    obtain ⟨z0, e0, t0⟩ := fld 0 f0 c0 rfl rfl
    obtain ⟨z1, e1, t1⟩ := fld 1 f1 c1 rfl rfl
    obtain ⟨z2, e2, t2⟩ := fld 2 f2 c2 rfl rfl
    obtain ⟨z3, e3, t3⟩ := fld 3 f3 c3 rfl rfl
    obtain ⟨z4, e4, t4⟩ := fld 4 f4 c4 rfl rfl
    have hBulk : Rows.uptoBulk y.1 = Rows.uptoBulk z0.1 + (Rows.uptoBulk z1.1 + (Rows.uptoBulk z2.1 + (Rows.uptoBulk z3.1 + (Rows.uptoBulk z4.1 + 0)))) + 1 := by
      have hD1 : y.1 = .agg (ys.map (·.1)) := congrArg Prod.fst hy
      rw [hD1]
      match ys, hyl, e0, e1, e2, e3, e4 with
      | [_, _, _, _, _], _, e0, e1, e2, e3, e4 =>
        cases e0
        cases e1
        cases e2
        cases e3
        cases e4
        simp only [List.map_cons, List.map_nil, Rows.uptoBulk, Rows.uptoBulkAll]
    have hb0 := bulk_one z0.1
    have hb2 := bulk_one z2.1
    rw [h0] at t0
    rw [h1] at t1
    rw [h2] at t2
    rw [h3] at t3
    rw [h4] at t4
    obtain ⟨k, rfl, hk⟩ := int_of_cells hI t0
    obtain ⟨s, hs, hz1, _⟩ := DataW.trod_string hS t1
    obtain rfl : c1 = .string s := by simpa using hs
    have hb1 : Rows.uptoBulk z1.1 = s.data.toList.length + 1 := by rw [hz1]; simp [Rows.uptoBulk]
    obtain ⟨m, rfl, hm⟩ := int_of_cells hU t2
    obtain ⟨mn, rfl, hmn⟩ := wf_u64 hm
    obtain ⟨a', c', ks, rfl, hks, hkb⟩ := rstr_of_trod_b hK hS hKc t4
    have hk1 : -9223372036854775808 ≤ k ∧ k ≤ 9223372036854775807 := by
      have h1 : IntKind.i64.min = -9223372036854775808 := rfl
      have h2 : IntKind.i64.max = 9223372036854775807 := rfl
      simp only [Lit.wf, Bool.and_eq_true, decide_eq_true_eq] at hk
      omega
    have hb3 := sub 3 z3 e3
    rcases Deep.open_slice hL t3 with ⟨hcs, _⟩ | ⟨a, len, cap, mm, n', D, Pl, hcs, _, hl, hbig, hmm, hz3, hi⟩
    · obtain rfl : c3 = .slice none 0 0 := by simpa using hcs
      refine ⟨.mk k s.data.toList mn [] ks, ?_, by unfold totV totL; have := bulk_one z3.1; omega⟩
      unfold RV
      exact ⟨none, 0, a', c', rfl, ⟨hk1.1, hk1.2, by omega⟩, hks, ⟨Nat.le_refl _, by omega⟩, fun _ => rfl, fun h => absurd h (Nat.lt_irrefl _)⟩
    · obtain rfl : c3 = .slice (some a) len cap := by simpa using hcs
      have hml : len ≤ mm := by rw [hmm]; split <;> omega
      rw [hz3] at hb3
      have bulkD : ∀ i, i < len → Rows.uptoBulk (D i) ≤ N := fun i hil => by
        have := bulk_mem (d := D i) (l := (List.range len).map D) (List.mem_map.2 ⟨i, List.mem_range.2 hil, rfl⟩)
        simp only [Rows.uptoBulk] at hb3
        omega
      have cell : ∀ i, i < len → ∃ cs', (∀ j, j < 5 → W.cell? ((a.add (i * 5)).add j) = cs'[j]?) ∧ cs'.length = 5 ∧ ∃ v, RV W v cs' ∧ totV v ≤ Rows.uptoBulk (D i) := by
        intro i hil
        obtain ⟨cs', hc, ht'⟩ := hi i (by omega)
        rw [hC] at hc
        obtain ⟨_, hcl, hat⟩ := World.cells?_some hc
        exact ⟨cs', hat, hcl, ih n' cs' (D i, Pl i) (bulkD i hil) ht'⟩
      obtain ⟨l, hll, hlv⟩ := choose_list len (fun i v => ∃ cs', (∀ j, j < 5 → W.cell? ((a.add (i * 5)).add j) = cs'[j]?) ∧ cs'.length = 5 ∧ RV W v cs' ∧ totV v ≤ Rows.uptoBulk (D i)) (fun i hil => by
        obtain ⟨cs', h1, h2, v, h3⟩ := cell i hil
        exact ⟨v, cs', h1, h2, h3⟩)
      have htl := totL_le l D fun i v hi => by obtain ⟨_, _, _, _, h⟩ := hlv i v hi; exact h
      have hb3e : Rows.uptoBulkAll ((List.range l.length).map D) + 1 ≤ Rows.uptoBulk z3.1 := by rw [hz3, hll]; simp only [Rows.uptoBulk]; omega
      refine ⟨.mk k s.data.toList mn l ks, ?_, by unfold totV; omega⟩
      unfold RV
      refine ⟨some a, cap, a', c', by rw [hll]; rfl, ⟨hk1.1, hk1.2, by omega⟩, hks, ⟨by rw [hll]; exact hl, hbig⟩, (by intro e; cases e), fun h0 => ?_⟩
      obtain ⟨cs', g1, g2, v0, g3⟩ := cell 0 (by omega)
      have hc0 := g1 0 (by omega)
      rw [Nat.zero_mul, List.getElem?_eq_getElem (by omega)] at hc0
      have hspot := spot_none hc0
      obtain ⟨b, off, spt⟩ := a
      have e0 : ((⟨b, off, spt⟩ : Addr).add 0).add 0 = ⟨b, off, spt⟩ := rfl
      rw [e0] at hspot hc0
      simp only at hspot
      subst hspot
      refine ⟨b, off, rfl, World.block_lt_of_cell? W _ hc0, rl_mk b l off fun i v hiv => ?_⟩
      obtain ⟨cs2, q1, q2, q3, -⟩ := hlv i v hiv
      refine ⟨cs2, q2, fun j hj => ?_, q3⟩
      have := q1 j hj
      rw [Addr.add_lit, Addr.add_lit, Nat.add_assoc, Nat.mul_comm i 5] at this
      exact this
end Go.Proofs.YtiadfijeglbdlaaDoor

namespace Go.Proofs.YtiadfijeglbdlaaDoor
open Go.RowKit Go.Shelf Go.Lib
set_option maxRecDepth 100000

theorem u8x : U8Extra Tryd.prog Tryd.lays196_ren := ⟨by kernel_rfl, by kernel_rfl, by kernel_rfl, by kernel_rfl, by kernel_rfl, by kernel_rfl, by kernel_rfl⟩
theorem accept_eq : (Rows.laid_unicode_utf8_acceptRanges : DataW Unit) = acceptData := by kernel_rfl
theorem pow_eq : (Rows.laid_internal_strconv_uint64pow10 : DataW Unit) = tabData .u64 pow10Tab := by kernel_rfl
theorem gPow : Tryd.prog.globalNamed "internal/strconv.uint64pow10" = some 2 := by kernel_rfl
theorem tPow : (Tryd.prog.globals[2]?).map (·.type) = some 148 := by kernel_rfl
theorem gSyn : Tryd.prog.globalNamed "strconv.ErrSyntax" = some 5 := by kernel_rfl
theorem tSyn : (Tryd.prog.globals[5]?).map (·.type) = some 136 := by kernel_rfl
theorem gRng : Tryd.prog.globalNamed "strconv.ErrRange" = some 6 := by kernel_rfl
theorem tRng : (Tryd.prog.globals[6]?).map (·.type) = some 136 := by kernel_rfl
theorem starE : "*" ++ "errors.errorString" = "*errors.errorString" := by decide
theorem rowE (u : TypeId) (h : Tryd.prog.typeName? 3 u = some "*errors.errorString") : u = 170 :=
  typeName_ptr_named (nm := "errors.errorString") (by rw [starE]; kernel_rfl) (by kernel_rfl) (by decide) u (by rw [starE]; exact h)
theorem cellsE : Tryd.prog.cellsOf 172 = 1 := by kernel_rfl
theorem cellsS : Tryd.prog.cellsOf 9 = 1 := by kernel_rfl
theorem cells64 : Tryd.prog.cellsOf 22 = 1 := by kernel_rfl
theorem cellsP : Tryd.prog.cellsOf 148 = 20 := by kernel_rfl

/-- the list that the rows give -/
abbrev laid7 : List (String × DataW Unit) := [("math/bits.deBruijn32tab", Rows.laid_math_bits_deBruijn32tab), ("math/bits.deBruijn64tab", Rows.laid_math_bits_deBruijn64tab), ("internal/strconv.uint64pow10", Rows.laid_internal_strconv_uint64pow10), ("unicode/utf8.acceptRanges", Rows.laid_unicode_utf8_acceptRanges), ("strconv.ErrRange", Rows.laid_strconv_ErrRange), ("strconv.ErrSyntax", Rows.laid_strconv_ErrSyntax), ("unicode/utf8.first", Rows.laid_unicode_utf8_first)]
theorem plain7 : (laid7.all fun x => x.2.handleName?.isNone) = true := by kernel_rfl
theorem tabs_of_laid {W : World} (hL : laidMetH Tryd.prog laid7 W) : Tabs W := by
  rw [MakeChecks.laidMetH_plain _ _ _ plain7] at hL
  refine ⟨?_, ?_, ?_, ?_⟩
  · have h3 := laidMet.reads hL (n := "unicode/utf8.first") (d := Rows.laid_unicode_utf8_first) (by repeat (first | exact List.Mem.head _ | apply List.Mem.tail))
    have h4 := laidMet.reads hL (n := "unicode/utf8.acceptRanges") (d := Rows.laid_unicode_utf8_acceptRanges) (by repeat (first | exact List.Mem.head _ | apply List.Mem.tail))
    rw [accept_eq] at h4
    exact utf8Tabs_of_readsT (U8Types.of196 Tryd.lays196) u8x (Pinned.utf8First_eq ▸ h3) h4
  · have h := hL.tail.tail
    rw [pow_eq] at h
    exact tabIs_of_head gPow tPow Tryd.underlying148 Tryd.underlying22 cells64 cellsP h
  · obtain ⟨a0, s0, hv0, -, -, -⟩ := laid_sentinel hL.tail.tail.tail.tail.tail gSyn tSyn Tryd.underlying136 rowE Tryd.underlying170 Tryd.underlying172 rfl rfl Tryd.underlying9 cellsE cellsS
    exact ⟨_, _, by have h0 := World.var?_cell gSyn hv0 0; simpa using h0⟩
  · obtain ⟨a0, s0, hv0, -, -, -⟩ := laid_sentinel hL.tail.tail.tail.tail gRng tRng Tryd.underlying136 rowE Tryd.underlying170 Tryd.underlying172 rfl rfl Tryd.underlying9 cellsE cellsS
    exact ⟨_, _, by have h0 := World.var?_cell gRng hv0 0; simpa using h0⟩
/-- the world of the witness: the library's tables laid -/
theorem laid_any (os : Os) (args : Array Value) : laidMetH Tryd.prog laid7 ((World.laidAll Tryd.prog os laid7).forCall (fun _ _ => 0) ⟨#[], args, []⟩).memory := by
  rw [MakeChecks.laidMetH_plain _ _ _ plain7]
  exact laidMet_laidAll args (by kernel_rfl) (by kernel_rfl)
theorem shaped_any (os : Os) (args : Array Value) : ((World.laidAll Tryd.prog os laid7).forCall (fun _ _ => 0) ⟨#[], args, []⟩).Shaped Tryd.prog := World.shaped_of_ZipB (by kernel_rfl) (by kernel_rfl)
/-- an input that fits -/
theorem witness_laid {H : Type} {enc : TypeId × Value → H} {os : Os} {f : FuncId} {fn : Func} {s : OpenSpec} {conds : List PathCond} {apart : Bool} (modest : Bool) (args : Array Value)
    (hok : Input.okWideB Tryd.prog ((World.laidAll Tryd.prog os laid7).forCall (fun _ _ => 0) ⟨#[], args, []⟩) f ⟨#[], args, []⟩ = true)
    (hrow : s.preRow enc Tryd.prog fn conds apart laid7 ((World.laidAll Tryd.prog os laid7).forCall (fun _ _ => 0) ⟨#[], args, []⟩).memory args) :
    ∃ (w : World) (tape : Tape) (i : Input), w.os = os ∧ (w.forCall tape i).Shaped Tryd.prog ∧ i.vars = [] ∧ Input.okWide Tryd.prog (w.forCall tape i) .any w.heap.size f i ∧
      s.preRow enc Tryd.prog fn conds apart laid7 (w.forCall tape i).memory i.args ∧ ({ modest := modest } : Assume).holds Tryd.prog (lone (Frame.enter Tryd.prog f i.args .normal) [] (w.forCall tape i)) :=
  ⟨World.laidAll Tryd.prog os laid7, fun _ _ => 0, ⟨#[], args, []⟩, World.laidAll_os _ _ _, shaped_any os args, (Input.okWide_of_okWideB (base := 0) hok).1, (Input.okWide_of_okWideB hok).2, hrow, by
    simp only [Assume.holds]
    exact ⟨by simp, by simp, fun _ => Modest.zero, by simp, by simp⟩⟩
end Go.Proofs.YtiadfijeglbdlaaDoor
