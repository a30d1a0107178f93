/-
  The statements' helpers that copy and cut; what the rows' list of tables gives. Conditions: those in each statement.
-/
import Derived.Test.YtbondnljoalajaaDoorJzB
import Derived.Test.YtbondnljoalajaaDoorJyA
import Derived.Test.YtbondnljoalajaaDoorJyC
import Derived.Test.YtbondnljoalajaaDoorCards
import Derived.Test.YtbondnljoalajaaDoorTie
import Derived.PinnedBridge
import Derived.Lib.LaidU8T
import Derived.Lib.LaidTab
import Derived.Stop.LaidErr
import Derived.Lay
import Derived.Deep.DeepHandedRow
import Derived.SevenTiedAt
namespace Go.Proofs.YtbondnljoalajaaDoor
open Go.RowKit

structure Invtheirs (w0 w wr : World) (k : Int) (s : List UInt8) (n : Nat) (b off ll c lk c' m cl : Nat) (al a' : Option Addr) (kv : Value) (xs ec : List Value) (e : JV) (L : Nat → Bool) (v25 v26 v27 v28 v29 v30 v31 v32 v33 v34 v35 : Value) (wx : World) : Prop where
  t0 : L 0 = true → v25 = .pointer (some ⟨w.heap.size + 2, 3, none⟩)
  t1 : L 1 = true → v26 = .slice al m cl
  t2 : L 2 = true → v27 = .pointer (some ⟨w.heap.size, 3, none⟩)
  t3 : L 3 = true → v28 = .slice (some ⟨b, off, none⟩) ll c
  t4 : L 4 = true → v29 = .int .i64 (m : Int)
  t5 : L 5 = true → v30 = .pointer (some ⟨b, off + m * 5, none⟩)
  t6 : L 6 = true → v31 = .agg ec.toArray
  t7 : L 7 = true → ∃ (k1 : Int) (s1 : ByteArray) (n1 : Int) (a1 : Option Addr) (l1 c1 : Nat) (b1 : Option Addr) (m1 d1 : Nat), v32 = .agg #[.int .i64 k1, .string s1, .int .u64 n1, .slice a1 l1 c1, .slice b1 m1 d1] ∧ SV (fun x => wr.heap.size ≤ x ∧ x < wx.heap.size ∧ (L 9 = true → Value.ownBlock v34 ≠ some x)) wx e [.int .i64 k1, .string s1, .int .u64 n1, .slice a1 l1 c1, .slice b1 m1 d1]
  t8 : L 8 = true → ∃ NB, v33 = .slice (some ⟨NB, 0, none⟩) 1 1 ∧ (L 9 = false → ∃ cells : List Value, v32 = .agg cells.toArray ∧ cells.length = 5 ∧ (∀ u ∈ cells, u.oneCell' = true) ∧ Arr wx NB 26 cells)
  t9 : L 9 = true → ∃ a3 c3 cells, v34 = .slice a3 (m + 1) c3 ∧ v32 = .agg (List.toArray cells) ∧ cells.length = 5 ∧ wx.ownsRow (w.heap.size + 3) 26 5 v34 (m + 1) (xs ++ cells) ∧ (∀ x, Value.ownBlock v34 = some x → (Value.ownBlock (.slice al m cl)) = some x ∨ wr.heap.size ≤ x)
  t10 : L 10 = true → v35 = .pointer (some ⟨w.heap.size + 2, 3, none⟩)
  n9 : L 9 = false → wx.ownsRow (w.heap.size + 3) 26 5 (.slice al m cl) m xs
  aO : ∃ curO, Arr wx (w.heap.size + 2) 26 curO ∧ (L 11 = false → curO = [.int .i64 k, .string (bstr s), .int .u64 (n : Int), .slice al m cl, kv]) ∧ (L 11 = true → curO = (List.set [.int .i64 k, .string (bstr s), .int .u64 (n : Int), .slice al m cl, kv] 3 v34))
  aV : Arr wx w.heap.size 30 [.int .i64 k, .string (bstr s), .int .u64 (n : Int), .slice (some ⟨b, off, none⟩) ll c, .slice a' lk c']
  bl9 : L 9 = false → Below wr.heap.size wr wx
  tch : Tch wr wx ((w.heap.size + 2) :: (Value.ownBlock (.slice al m cl)).toList)
/-- a round of theirs -/
structure OLtheirs (w0 w wr : World) (k : Int) (s : List UInt8) (n : Nat) (a a' : Option Addr) (c c' ll lk : Nat) (l : List JV) (ks : List (List UInt8)) (kv : Value) (m : Nat) (lv : Value) (xs : List Value) : Prop where
  bl : Below w.heap.size w wr
  sz : w.heap.size + 3 ≤ wr.heap.size
  box : Arr wr w.heap.size 30 [.int .i64 k, .string (bstr s), .int .u64 (n : Int), .slice a ll c, .slice a' lk c']
  res : Arr wr (w.heap.size + 1) 26 zC
  out : Arr wr (w.heap.size + 2) 26 [.int .i64 k, .string (bstr s), .int .u64 (n : Int), lv, kv]
  row : wr.ownsRow (w.heap.size + 3) 26 5 lv m xs
  keys : wr.ownsRow (w.heap.size + 3) 9 1 kv ks.length (ks.map fun k => Value.string (bstr k))
  apart : ∀ x, lv.ownBlock = some x → kv.ownBlock ≠ some x
  sv : ∀ i v, (l.take m)[i]? = some v → SV (fun x => w.heap.size + 3 ≤ x ∧ x < wr.heap.size ∧ lv.ownBlock ≠ some x ∧ kv.ownBlock ≠ some x) wr v (cell5 xs i)

set_option maxRecDepth 100000 in
set_option maxHeartbeats 6400000 in
theorem theirs_all : ∀ (N : Nat) (v : JV) (cs : List Value) (w0 w : World), SizeOf.sizeOf v ≤ N → RV w0 v cs → Below w0.heap.size w0 w → fewV v 1073741823 →
    Calls Tryd.prog 18 #[.agg cs.toArray] w fun e w' => ∃ cs', e = .returned (.agg cs'.toArray) ∧ SV (fun x => w.heap.size ≤ x) w' v cs' ∧ Below w.heap.size w w' := by
  intro N
  induction N with
  | zero =>
    rintro ⟨k, s, n, l, ks⟩ cs w0 w hN
    simp only [JV.mk.sizeOf_spec] at hN
    omega
  | succ N ih =>
    rintro ⟨k, s, n, l, ks⟩ cs w0 w hN hv hb0 hf
    unfold fewV at hf
    obtain ⟨hf1, hf2, hf3⟩ := hf
    obtain ⟨a, c, a', c', rfl, hk, hks, hlc, hac, hl⟩ := rv_five hv
    have hW0 : Hid (w0.heap.size ≤ w.heap.size) := hb0.size
    have hA0 : Arr ((w.alloc (.cells #[.int .i64 k, .string (bstr s), .int .u64 (n : Int), .slice a l.length c, .slice a' ks.length c'] 30)).alloc (.cells #[.int .i64 0, .string ⟨#[]⟩, .int .u64 0, .slice none 0 0, .slice none 0 0] 26)) w.heap.size 30 [.int .i64 k, .string (bstr s), .int .u64 (n : Int), .slice a l.length c, .slice a' ks.length c'] := (Arr.new w 30 [.int .i64 k, .string (bstr s), .int .u64 (n : Int), .slice a l.length c, .slice a' ks.length c']).kept ((Below.refl _ _).alloc (Nat.le_refl _) (.cells zC.toArray 26))
    have hA1 : Arr ((w.alloc (.cells #[.int .i64 k, .string (bstr s), .int .u64 (n : Int), .slice a l.length c, .slice a' ks.length c'] 30)).alloc (.cells #[.int .i64 0, .string ⟨#[]⟩, .int .u64 0, .slice none 0 0, .slice none 0 0] 26)) (w.heap.size + 1) 26 zC := by
      have := Arr.new (w.alloc (.cells #[.int .i64 k, .string (bstr s), .int .u64 (n : Int), .slice a l.length c, .slice a' ks.length c'] 30)) 26 zC
      rw [World.size_alloc] at this
      exact this
    have hB2 : Below w.heap.size w ((w.alloc (.cells #[.int .i64 k, .string (bstr s), .int .u64 (n : Int), .slice a l.length c, .slice a' ks.length c'] 30)).alloc (.cells #[.int .i64 0, .string ⟨#[]⟩, .int .u64 0, .slice none 0 0, .slice none 0 0] 26)) := ((Below.refl _ _).alloc (Nat.le_refl _) _).alloc (by simp) _
    have hs2 : Hid (((w.alloc (.cells #[.int .i64 k, .string (bstr s), .int .u64 (n : Int), .slice a l.length c, .slice a' ks.length c'] 30)).alloc (.cells #[.int .i64 0, .string ⟨#[]⟩, .int .u64 0, .slice none 0 0, .slice none 0 0] 26)).heap.size = w.heap.size + 2) := by show _ = _; simp
    have HKS := Lib.hid hks
    have HB0 := Lib.hid hb0
    have HK := Lib.hid hk
    have HF3 := Lib.hid hf3
    have HL := Lib.hid hl
    have HLC := Lib.hid hlc
    have IH := Lib.hid ih
    have HNN := Lib.hid hN
    clear hv hks hb0 hk hf3 hl hlc hac ih hN
    go_enter Tryd.func18, Tryd.ntmps18
    go_upto_region 1 with fail
    generalize ((w.alloc (.cells #[.int .i64 k, .string (bstr s), .int .u64 (n : Int), .slice a l.length c, .slice a' ks.length c'] 30)).alloc (.cells #[.int .i64 0, .string ⟨#[]⟩, .int .u64 0, .slice none 0 0, .slice none 0 0] 26)) = W2 at *
    have q0 := (hA0.cell 0).trans (show _ = some (Value.int .i64 k) from rfl)
    have q1 := (hA0.cell 1).trans (show _ = some (Value.string (bstr s)) from rfl)
    have hs2e := hs2.out
    have q2 := (hA0.cell 2).trans (show _ = some (Value.int .u64 (n : Int)) from rfl)
    go_upto_region 2 with ((with_reducible show wpList _ _ _ (⟨none, _, _, _, _, _⟩ :: _) _ _); go_loud (refine wl_store rfl 26 _ _ rfl (w.heap.size + 2) 0 rfl [.int .i64 k, .string (bstr s), .int .u64 (n : Int), .slice none 0 0, .slice none 0 0] rfl 26 zC (by have := Arr.new W2 26 zC; rw [hs2.out] at this; exact this) (by kernel_rfl) (by simp [zC]) (by simp [Value.oneCell']) ?_); intro w3 hO3 hg3 hs3)
    rw [whole_store zC [.int .i64 k, .string (bstr s), .int .u64 (n : Int), .slice none 0 0, .slice none 0 0] rfl] at hO3
    have hA3 := (hA0.kept ((Below.refl _ _).alloc (Nat.le_refl _) _)).grown hg3 (by simp)
    have hR3 := (hA1.kept ((Below.refl _ _).alloc (Nat.le_refl _) _)).grown hg3 (by simp)
    have hB3 : Below w.heap.size w w3 := (hB2.alloc hB2.size _).grown hg3 (by have := hB2.size; simp; omega) (by intro k hk; cases hk; omega)
    have hz3 : Hid (w3.heap.size = w.heap.size + 3) := by show _ = _; rw [hs3, World.size_alloc, hs2.out]
    clear q0 q1 q2 hA0 hA1 hg3 hs3 hB2 hs2e
    have r4 := (hO3.cell 4).trans (show _ = some (Value.slice none 0 0) from rfl)
    have s4 := (hA3.cell 4).trans (show _ = some (Value.slice a' ks.length c') from rfl)
    have HB3 := Lib.hid hB3
    clear hB3
    obtain ⟨lk, hlk⟩ : ∃ lk, lk = ks.length := ⟨_, rfl⟩
    have HLK := Lib.hid hlk
    rw [← hlk] at s4 hA3 hf2
    rw [← hlk]
    clear hlk
    go_upto_region 4 with (at_builtin; go_loud (refine wl_append_keys rfl (.tmp 13) (.tmp 15) rfl (w.heap.size + 3) ks a' c' rfl (by rw [← HLK.out]; rfl) (HKS.out.to (HB0.out.trans (HB3.out.mono hW0.out))) (by rw [← HLK.out]; omega) (by have := hz3.out; omega) ?_; intro v5 w5 hkeys5 hb5; obtain ⟨a5, n5, c5, rfl⟩ := row_shape hkeys5; have hO5 := hO3.kept hb5; have hA5 := hA3.kept hb5; have hR5 := hR3.kept hb5; have d4 := (hO5.cell 4).trans (show _ = some (Value.slice none 0 0) from rfl); have f4 := hO5.frozen 4; have HKEYS := Lib.hid hkeys5; have HB5 := Lib.hid hb5; clear hkeys5 hb5))
    have hO6 := hO5.store 4 (.slice a5 n5 c5)
    have hA6 := hA5.other ⟨w.heap.size + 2, 4, none⟩ (by show w.heap.size + 2 ≠ _; omega) (.slice a5 n5 c5)
    have hR6 := hR5.other ⟨w.heap.size + 2, 4, none⟩ (by show w.heap.size + 2 ≠ _; omega) (.slice a5 n5 c5)
    have ht6 := tch_cell w5 ⟨w.heap.size + 2, 4, none⟩ (.slice a5 n5 c5)
    have hk6 := ht6.row HKEYS.out (fun x hx e => by have := (World.ownsRow.lt HKEYS.out x hx).1; simp at e; omega)
    have hOL0 : OLtheirs w0 w (w5.setCell ⟨w.heap.size + 2, 4, none⟩ (.slice a5 n5 c5)) k s n a a' c c' l.length lk l ks (.slice a5 n5 c5) 0 (.slice none 0 0) [] := {
      bl := by
        have hb : Below w.heap.size w w5 := HB3.out.trans (HB5.out.mono HB3.out.size)
        exact ⟨hb.os, hb.tape, hb.output, by have := hb.size; rw [World.size_setCell]; exact this, fun i hi => (ht6.block i (by have := hb.size; omega) (by simp; omega)).trans (hb.block i hi)⟩
      sz := by have := HB5.out.size; have := hz3.out; rw [World.size_setCell]; omega
      box := hA6
      res := hR6
      out := hO6
      row := World.ownsRow_nil _ _ _ _
      keys := hk6
      apart := fun x hx => by cases hx
      sv := fun i v hi => by simp at hi }
    have HOL0 := Lib.hid hOL0
    clear hOL0 hk6 ht6 hO6 hA6 hR6 hO5 hA5 hR5 d4 f4 hO3 hA3 hR3 r4 s4
    obtain ⟨ll, hll⟩ : ∃ ll, ll = l.length := ⟨_, rfl⟩
    have HLL := Lib.hid hll
    rw [← hll] at HOL0 hf1
    rw [← hll]
    clear hll
    go_loopw [4] (fun i wr => ∃ (m : Nat) (lv : Value) (xs : List Value), m ≤ ll ∧ i = .int .i64 m ∧ (∃ kv, OLtheirs w0 w wr k s n a a' c c' ll lk l ks kv m lv xs)) (fun i _ => ll - (intOf i).toNat)
    case atStart => exact ⟨0, _, _, Nat.zero_le _, rfl, ⟨_, HOL0.out⟩⟩
    case round =>
      clear HOL0
      obtain ⟨m, lv, xs, hm, rfl, ⟨kv, hOL⟩⟩ := hrel
      obtain ⟨al, cl, rfl⟩ := row_n hOL.row
      have hbx3 := (hOL.box.cell 3).trans (show _ = some (Value.slice a ll c) from rfl)
      by_cases hlt : m < ll
      · have hml : (m : Int) < (ll : Int) := by omega
        obtain ⟨b, off, rfl, hbw, hrl⟩ := HL.out (by rw [← HLL.out]; omega)
        obtain ⟨e, he⟩ : ∃ e, l[m]? = some e := ⟨_, List.getElem?_eq_getElem (by rw [← HLL.out]; exact hlt)⟩
        obtain ⟨ec, ec5, ecell, erv⟩ := rl_at l b off m e hrl he
        have hsize := jv_mem (k := k) (s := s) (n := n) (ks := ks) (List.mem_of_getElem? he)
        have hCALL : Hid (∀ W, Below wr.heap.size wr W → Calls Tryd.prog 18 #[.agg ec.toArray] W fun e' w' => ∃ cs', e' = .returned (.agg cs'.toArray) ∧ SV (fun x => W.heap.size ≤ x) w' e cs' ∧ Below W.heap.size W w') := fun W hW => IH.out e ec w0 W (by have := HNN.out; omega) erv (HB0.out.trans ((hOL.bl.trans (hW.mono hOL.bl.size)).mono hW0.out)) (few_at l _ m e HF3.out he)
        have hRG : Hid (∀ W, Below wr.heap.size wr W → W.rangeAt b (off + m * 5) ec) := fun W hW j v hj => by
          have hj5 : j < 5 := by rw [← ec5]; exact (List.getElem?_eq_some_iff.1 hj).1
          have h1 := ecell j hj5
          rw [hj] at h1
          have hBB : Below w0.heap.size w0 W := HB0.out.trans ((hOL.bl.trans (hW.mono hOL.bl.size)).mono hW0.out)
          rw [show off + m * 5 + j = off + (5 * m + j) by omega]
          exact (hBB.cell (p := ⟨b, off + (5 * m + j), none⟩) hbw).trans h1
        have hEL := Lib.hid ec5
        have HE := Lib.hid he
        have HLT : Hid (m < l.length) := by show _ < _; rw [← HLL.out]; exact hlt
        have HOL := Lib.hid hOL
        have hROW := Lib.hid hOL.row
        have hrow := hOL.row
        have hout := hOL.out
        have hbox := hOL.box
        have hSZ := Lib.hid hOL.sz
        have hm30 : m + 1 ≤ 1073741824 := by omega
        clear hsize erv ecell hrl he ec5 hOL
        go_upto_region 6 with fail
        refine wp_region_steps [[], [0], [], [2], [], [3, 4], [5], [6], [7], [1, 7, 8], [0, 1, 2, 3, 4, 5, 6, 7, 8, 9], [10, 0, 1, 2, 3, 4, 5, 6, 7, 8, 9]] (by kernel_rfl) (by kernel_rfl) (fun L a wx => ∃ v25 v26 v27 v28 v29 v30 v31 v32 v33 v34 v35, a = ⟨#[.agg #[.int .i64 k, .string (bstr s), .int .u64 (n : Int), .slice (some ⟨b, off, none⟩) ll c, .slice a' lk c'], .pointer (some ⟨w.heap.size, 0, none⟩), .pointer (some ⟨w.heap.size + 1, 0, none⟩), .pointer (some ⟨w.heap.size + 2, 0, none⟩), .int .i64 (m : Int), .pointer (some ⟨w.heap.size, 0, none⟩), .int .i64 k, .pointer (some ⟨w.heap.size, 1, none⟩), .string (bstr s), .pointer (some ⟨w.heap.size, 2, none⟩), .int .u64 (n : Int), .agg #[.int .i64 k, .string (bstr s), .int .u64 (n : Int), .slice none 0 0, .slice none 0 0], .pointer (some ⟨w.heap.size + 2, 4, none⟩), .slice none 0 0, .pointer (some ⟨w.heap.size, 4, none⟩), .slice a' lk c', .slice a5 n5 c5, .pointer (some ⟨w.heap.size + 2, 4, none⟩), .int .i64 (m : Int), .pointer (some ⟨w.heap.size, 3, none⟩), .slice (some ⟨b, off, none⟩) ll c, .int .i64 (ll : Int), .bool true, u23, u24, v25, v26, v27, v28, v29, v30, v31, v32, v33, v34, v35, undef], []⟩ ∧ Invtheirs w0 w wr k s n b off ll c lk c' m cl al a' kv xs ec e L v25 v26 v27 v28 v29 v30 v31 v32 v33 v34 v35 wx) ?_ ⟨?_, ?_, ?_, ?_, ?_, ?_, ?_, ?_, ?_, ?_, ?_, ?_, trivial⟩ ?_
        · refine ⟨_, _, _, _, _, _, _, _, _, _, _, rfl, ⟨?_, ?_, ?_, ?_, ?_, ?_, ?_, ?_, ?_, ?_, ?_, fun _ => hrow, ⟨_, hout.drew, fun _ => rfl, fun h => absurd h (by decide)⟩, hbox.drew, fun _ => (Below.refl _ _).drew, ⟨rfl, rfl, rfl, Nat.le_refl _, fun _ _ _ => rfl⟩⟩⟩ <;> (intro h; exact absurd h (by decide))
        · rintro L a wx ⟨v25, v26, v27, v28, v29, v30, v31, v32, v33, v34, v35, rfl, hI⟩ hL hdep hcl K hK
          go_simp
          exact hK _ _ ⟨_, v26, v27, v28, v29, v30, v31, v32, v33, v34, v35, rfl, ⟨fun _ => rfl, hI.t1, hI.t2, hI.t3, hI.t4, hI.t5, hI.t6, hI.t7, hI.t8, hI.t9, hI.t10, hI.n9, hI.aO, hI.aV, hI.bl9, hI.tch⟩⟩
        · rintro L a wx ⟨v25, v26, v27, v28, v29, v30, v31, v32, v33, v34, v35, rfl, hI⟩ hL hdep hcl K hK
          obtain rfl := hI.t0 (hdep 0 (by decide))
          obtain ⟨curO, o1, o2, o3⟩ := hI.aO
          obtain rfl := o2 (by cases h12 : L 11 with | false => rfl | true => exact absurd (hcl 11 (by decide) h12 1 (by decide)) (by rw [hL]; decide))
          have c0 := (o1.cell 3).trans (show _ = some (Value.slice al m cl) from rfl)
          go_simp
          exact hK _ _ ⟨_, _, v27, v28, v29, v30, v31, v32, v33, v34, v35, rfl, ⟨hI.t0, fun _ => rfl, hI.t2, hI.t3, hI.t4, hI.t5, hI.t6, hI.t7, hI.t8, hI.t9, hI.t10, hI.n9, ⟨_, o1, fun _ => rfl, o3⟩, hI.aV, hI.bl9, hI.tch⟩⟩
        · rintro L a wx ⟨v25, v26, v27, v28, v29, v30, v31, v32, v33, v34, v35, rfl, hI⟩ hL hdep hcl K hK
          go_simp
          exact hK _ _ ⟨v25, v26, _, v28, v29, v30, v31, v32, v33, v34, v35, rfl, ⟨hI.t0, hI.t1, fun _ => rfl, hI.t3, hI.t4, hI.t5, hI.t6, hI.t7, hI.t8, hI.t9, hI.t10, hI.n9, hI.aO, hI.aV, hI.bl9, hI.tch⟩⟩
        · rintro L a wx ⟨v25, v26, v27, v28, v29, v30, v31, v32, v33, v34, v35, rfl, hI⟩ hL hdep hcl K hK
          obtain rfl := hI.t2 (hdep 2 (by decide))
          have c0 := (hI.aV.cell 3).trans (show _ = some (Value.slice (some ⟨b, off, none⟩) ll c) from rfl)
          go_simp
          exact hK _ _ ⟨v25, v26, _, _, v29, v30, v31, v32, v33, v34, v35, rfl, ⟨hI.t0, hI.t1, hI.t2, fun _ => rfl, hI.t4, hI.t5, hI.t6, hI.t7, hI.t8, hI.t9, hI.t10, hI.n9, hI.aO, hI.aV, hI.bl9, hI.tch⟩⟩
        · rintro L a wx ⟨v25, v26, v27, v28, v29, v30, v31, v32, v33, v34, v35, rfl, hI⟩ hL hdep hcl K hK
          go_simp
          exact hK _ _ ⟨v25, v26, v27, v28, _, v30, v31, v32, v33, v34, v35, rfl, ⟨hI.t0, hI.t1, hI.t2, hI.t3, fun _ => rfl, hI.t5, hI.t6, hI.t7, hI.t8, hI.t9, hI.t10, hI.n9, hI.aO, hI.aV, hI.bl9, hI.tch⟩⟩
        · rintro L a wx ⟨v25, v26, v27, v28, v29, v30, v31, v32, v33, v34, v35, rfl, hI⟩ hL hdep hcl K hK
          obtain rfl := hI.t3 (hdep 3 (by decide))
          obtain rfl := hI.t4 (hdep 4 (by decide))
          have hmm := hml
          go_simp
          exact hK _ _ ⟨v25, v26, v27, _, _, _, v31, v32, v33, v34, v35, rfl, ⟨hI.t0, hI.t1, hI.t2, hI.t3, hI.t4, fun _ => rfl, hI.t6, hI.t7, hI.t8, hI.t9, hI.t10, hI.n9, hI.aO, hI.aV, hI.bl9, hI.tch⟩⟩
        · rintro L a wx ⟨v25, v26, v27, v28, v29, v30, v31, v32, v33, v34, v35, rfl, hI⟩ hL hdep hcl K hK
          obtain rfl := hI.t5 (hdep 5 (by decide))
          have h9 : L 9 = false := by cases h9 : L 9 with | false => rfl | true => exact absurd (hcl 7 (by decide) (hcl 8 (by decide) (hcl 9 (by decide) h9 8 (by decide)) 7 (by decide)) 6 (by decide)) (by rw [hL]; decide)
          refine wp_load_mid 30 _ rfl b (off + m * 5) rfl ec _ (hRG.out _ (hI.bl9 h9)) Tryd.underlying30 rfl (by rw [hEL.out]; kernel_rfl) ?_
          exact hK _ _ ⟨v25, v26, v27, v28, v29, _, _, v32, v33, v34, v35, rfl, ⟨hI.t0, hI.t1, hI.t2, hI.t3, hI.t4, hI.t5, fun _ => rfl, hI.t7, hI.t8, hI.t9, hI.t10, hI.n9, hI.aO, hI.aV, hI.bl9, hI.tch⟩⟩
        · rintro L a wx ⟨v25, v26, v27, v28, v29, v30, v31, v32, v33, v34, v35, rfl, hI⟩ hL hdep hcl K hK
          obtain rfl := hI.t6 (hdep 6 (by decide))
          have h9 : L 9 = false := by cases h9 : L 9 with | false => rfl | true => exact absurd (hcl 8 (by decide) (hcl 9 (by decide) h9 8 (by decide)) 7 (by decide)) (by rw [hL]; decide)
          have hsz := (hI.bl9 h9).size
          go_simp
          refine (hCALL.out _ (hI.bl9 h9)).mono ?_
          rintro e w' ⟨cs', rfl, hsv, hb⟩
          obtain ⟨k1, s1, n1, a1, l1, c1, b1, m1, d1, rfl⟩ := pv_shape (sv_pv _ _ hsv)
          have hbw : Below wr.heap.size wr w' := (hI.bl9 h9).trans (hb.mono hsz)
          exact hK _ _ ⟨v25, v26, v27, v28, v29, v30, _, _, v33, v34, v35, rfl, ⟨hI.t0, hI.t1, hI.t2, hI.t3, hI.t4, hI.t5, hI.t6, fun _ => ⟨k1, s1, n1, a1, l1, c1, b1, m1, d1, rfl, sv_to (fun x hx hxl => ⟨by omega, hxl, fun h => by rw [show L 9 = true from h] at h9; cases h9⟩) (fun _ _ _ => rfl) _ _ hsv⟩, (fun h => absurd (hcl 8 (by decide) h 7 (by decide)) (by rw [hL]; decide)), (fun h => by rw [show L 9 = true from h] at h9; cases h9), hI.t10, fun h => (hI.n9 h).kept (gb hb none) (by cases al <;> simp [Value.ownBlock]), (by obtain ⟨curO, o1, o2, o3⟩ := hI.aO; exact ⟨curO, o1.kept hb, o2, o3⟩), hI.aV.kept hb, fun _ => hbw, hI.tch.trans (Tch.of_below hb _)⟩⟩
        · rintro L a wx ⟨v25, v26, v27, v28, v29, v30, v31, v32, v33, v34, v35, rfl, hI⟩ hL hdep hcl K hK
          have h9 : L 9 = false := by cases h9 : L 9 with | false => rfl | true => exact absurd (hcl 9 (by decide) h9 8 (by decide)) (by rw [hL]; decide)
          obtain ⟨k1, s1, n1, a1, l1, c1, b1, m1, d1, rfl, hsv⟩ := hI.t7 (hdep 7 (by decide))
          have hb := (Below.refl wx.heap.size wx).alloc (Nat.le_refl _) (.cells #[.int .i64 k1, .string s1, .int .u64 n1, .slice a1 l1 c1, .slice b1 m1 d1] 26)
          have hN := Arr.new wx 26 [.int .i64 k1, .string s1, .int .u64 n1, .slice a1 l1 c1, .slice b1 m1 d1]
          have hsz := (hI.bl9 h9).size
          have hbw : Below wr.heap.size wr (wx.alloc (.cells #[.int .i64 k1, .string s1, .int .u64 n1, .slice a1 l1 c1, .slice b1 m1 d1] 26)) := (hI.bl9 h9).trans (hb.mono hsz)
          go_simp
          exact hK _ _ ⟨v25, v26, v27, v28, v29, v30, v31, _, _, v34, v35, rfl, ⟨hI.t0, hI.t1, hI.t2, hI.t3, hI.t4, hI.t5, hI.t6, fun _ => ⟨k1, s1, n1, a1, l1, c1, b1, m1, d1, rfl, sv_to (fun x hx hxl => ⟨hx.1, by simp; omega, hx.2.2⟩) (Stay.of_below hb) _ _ hsv⟩, fun _ => ⟨_, rfl, fun _ => ⟨_, rfl, rfl, by simp [Value.oneCell'], hN⟩⟩, (fun h => by rw [show L 9 = true from h] at h9; cases h9), hI.t10, fun h => (hI.n9 h).alloc _, (by obtain ⟨curO, o1, o2, o3⟩ := hI.aO; exact ⟨curO, o1.kept hb, o2, o3⟩), hI.aV.kept hb, fun _ => hbw, hI.tch.trans (Tch.of_below hb _)⟩⟩
        · rintro L a wx ⟨v25, v26, v27, v28, v29, v30, v31, v32, v33, v34, v35, rfl, hI⟩ hL hdep hcl K hK
          obtain rfl := hI.t1 (hdep 1 (by decide))
          obtain ⟨k1, s1, n1, a1, l1, c1, b1, m1, d1, rfl, hsv⟩ := hI.t7 (hdep 7 (by decide))
          obtain ⟨NB, rfl, hNB⟩ := hI.t8 (hdep 8 (by decide))
          obtain ⟨cells, hce, hc5, hone, hArr⟩ := hNB hL
          have hcells : cells = [.int .i64 k1, .string s1, .int .u64 n1, .slice a1 l1 c1, .slice b1 m1 d1] := by have := Value.agg.inj hce; exact (by simpa using congrArg Array.toList this.symm)
          subst hcells
          have hrow := hI.n9 hL
          have hbl := hI.bl9 hL
          have hsz := hbl.size
          have hsz0 := hSZ.out
          have hlvb := World.ownsRow.lt hROW.out
          refine ow_append_R (.tmp 26) (.tmp 33) rfl (w.heap.size + 3) m _ _ hrow rfl NB 26 [.int .i64 k1, .string s1, .int .u64 n1, .slice a1 l1 c1, .slice b1 m1 d1] rfl (by simp [Value.oneCell']) rfl hArr hm30 (by omega) ?_
          intro v' w' h1 h2 h3
          obtain ⟨a3, c3, rfl⟩ := row_n h1
          have hX : ∀ x, Value.ownBlock (.slice a3 (m + 1) c3) = some x → (Value.ownBlock (.slice al m cl)) = some x ∨ wr.heap.size ≤ x := fun x hx => (h3 x hx).imp id (fun h => by omega)
          have hsv2 := sv_to (S' := (fun x => wr.heap.size ≤ x ∧ x < w'.heap.size ∧ (true = true → Value.ownBlock (.slice a3 (m + 1) c3) ≠ some x))) (fun x hx hxl => ⟨hx.1, by have := h2.size; omega, fun _ e => by rcases h3 x e with h | h; have := (hlvb x h).2; omega; omega⟩) (h2.stay (fun x hx hS => by have := hlvb x (by simpa using hx); omega)) _ _ hsv
          exact hK _ _ ⟨v25, _, v27, v28, v29, v30, v31, _, _, _, v35, rfl, ⟨hI.t0, hI.t1, hI.t2, hI.t3, hI.t4, hI.t5, hI.t6, fun _ => ⟨k1, s1, n1, a1, l1, c1, b1, m1, d1, rfl, hsv2⟩, fun _ => ⟨NB, rfl, (fun h => Bool.noConfusion (show true = false from h))⟩, fun _ => ⟨a3, c3, _, rfl, rfl, rfl, h1, hX⟩, hI.t10, (fun h => Bool.noConfusion (show true = false from h)), (by obtain ⟨curO, o1, o2, o3⟩ := hI.aO; exact ⟨curO, h2.arr o1 (fun e => by have := (hlvb _ (by simpa using e)).1; omega), o2, fun h => by have := hcl 11 (by decide) (show L 11 = true from h) 9 (by decide); rw [hL] at this; cases this⟩), h2.arr hI.aV (fun e => by have := (hlvb _ (by simpa using e)).1; omega), (fun h => Bool.noConfusion (show true = false from h)), hI.tch.trans (h2.mono (fun b hb => .inl (List.mem_cons_of_mem _ hb)))⟩⟩
        · rintro L a wx ⟨v25, v26, v27, v28, v29, v30, v31, v32, v33, v34, v35, rfl, hI⟩ hL hdep hcl K hK
          obtain rfl := hI.t0 (hdep 0 (by decide))
          obtain rfl := hI.t1 (hdep 1 (by decide))
          obtain rfl := hI.t2 (hdep 2 (by decide))
          obtain rfl := hI.t3 (hdep 3 (by decide))
          obtain rfl := hI.t4 (hdep 4 (by decide))
          obtain rfl := hI.t5 (hdep 5 (by decide))
          obtain rfl := hI.t6 (hdep 6 (by decide))
          go_simp
          exact hK _ _ ⟨_, _, _, _, _, _, _, v32, v33, v34, _, rfl, ⟨hI.t0, hI.t1, hI.t2, hI.t3, hI.t4, hI.t5, hI.t6, hI.t7, hI.t8, hI.t9, fun _ => rfl, hI.n9, hI.aO, hI.aV, hI.bl9, hI.tch⟩⟩
        · rintro L a wx ⟨v25, v26, v27, v28, v29, v30, v31, v32, v33, v34, v35, rfl, hI⟩ hL hdep hcl K hK
          obtain rfl := hI.t10 (hdep 10 (by decide))
          obtain rfl := hI.t0 (hdep 0 (by decide))
          obtain rfl := hI.t1 (hdep 1 (by decide))
          obtain rfl := hI.t2 (hdep 2 (by decide))
          obtain rfl := hI.t3 (hdep 3 (by decide))
          obtain rfl := hI.t4 (hdep 4 (by decide))
          obtain rfl := hI.t5 (hdep 5 (by decide))
          obtain rfl := hI.t6 (hdep 6 (by decide))
          obtain ⟨k1, s1, n1, a1, l1, c1, b1, m1, d1, rfl, hsv⟩ := hI.t7 (hdep 7 (by decide))
          obtain ⟨NB, rfl, -⟩ := hI.t8 (hdep 8 (by decide))
          obtain ⟨a3, c3, cells, rfl, hce, hc5, hrow, hX⟩ := hI.t9 (hdep 9 (by decide))
          have hcells : cells = [.int .i64 k1, .string s1, .int .u64 n1, .slice a1 l1 c1, .slice b1 m1 d1] := by have := Value.agg.inj hce; exact (by simpa using congrArg Array.toList this.symm)
          subst hcells
          obtain ⟨curO, o1, o2, o3⟩ := hI.aO
          obtain rfl := o2 hL
          have hsz0 := hSZ.out
          have c0 := (o1.cell 3).trans (show _ = some (Value.slice al m cl) from rfl)
          have f0 := o1.frozen 3
          have hrl := World.ownsRow.lt hrow
          have htc := tch_cell wx ⟨w.heap.size + 2, 3, none⟩ (.slice a3 (m + 1) c3)
          have hrow2 := htc.row hrow (fun x hx e => by have := (hrl x hx).1; simp at e; omega)
          have ho2 := o1.store 3 (.slice a3 (m + 1) c3)
          have hv2 := hI.aV.other ⟨w.heap.size + 2, 3, none⟩ (by show w.heap.size + 2 ≠ _; omega) (.slice a3 (m + 1) c3)
          have ht2 := hI.tch.thenn htc (fun x hx => by simp at hx; subst hx; exact .inl (List.mem_cons_self ..))
          have hsv2 := sv_to (S' := (fun x => wr.heap.size ≤ x ∧ x < (wx.setCell ⟨w.heap.size + 2, 3, none⟩ (.slice a3 (m + 1) c3)).heap.size ∧ (L 9 = true → Value.ownBlock (.slice a3 (m + 1) c3) ≠ some x))) (fun x hx hxl => ⟨hx.1, by rw [World.size_setCell]; exact hx.2.1, hx.2.2⟩) (htc.stay (fun x hx hS => by simp at hx; omega)) _ _ hsv
          have H9 : L 9 = true := hdep 9 (by decide)
          go_simp
          exact hK _ _ ⟨_, _, _, _, _, _, _, _, _, _, _, rfl, ⟨hI.t0, hI.t1, hI.t2, hI.t3, hI.t4, hI.t5, hI.t6, fun _ => ⟨k1, s1, n1, a1, l1, c1, b1, m1, d1, rfl, hsv2⟩, (fun _ => ⟨NB, rfl, fun h => by rw [show L 9 = false from h] at H9; cases H9⟩), fun _ => ⟨a3, c3, _, rfl, rfl, rfl, hrow2, hX⟩, hI.t10, (fun h => by rw [show L 9 = false from h] at H9; cases H9), ⟨_, ho2, (fun h => Bool.noConfusion (show true = false from h)), fun _ => rfl⟩, hv2, (fun h => by rw [show L 9 = false from h] at H9; cases H9), ht2⟩⟩
        · rintro a wx ⟨v25, v26, v27, v28, v29, v30, v31, v32, v33, v34, v35, rfl, hI⟩
          obtain ⟨a3, c3, cells, e34, e32, hc5, hrow9, hX⟩ := hI.t9 rfl
          obtain ⟨k1, s1, n1, a1, l1, c1, b1, m1, d1, e32b, hsv⟩ := hI.t7 rfl
          obtain ⟨NB, e33, -⟩ := hI.t8 rfl
          subst e33
          subst e34
          subst e32b
          have hcells : cells = [.int .i64 k1, .string s1, .int .u64 n1, .slice a1 l1 c1, .slice b1 m1 d1] := by have := Value.agg.inj e32; exact (by simpa using congrArg Array.toList this.symm)
          subst hcells
          obtain ⟨curO, hO9, -, o3⟩ := hI.aO
          obtain rfl := o3 rfl
          have hbox9 := hI.aV
          have htch := hI.tch
          clear hI e32
          have hlvb := World.ownsRow.lt hROW.out
          have hsz0 := hSZ.out
          have hsz9 := htch.size
          have hOLn : OLtheirs w0 w wx k s n (some ⟨b, off, none⟩) a' c c' ll lk l ks kv (m + 1) (.slice a3 (m + 1) c3) (xs ++ [.int .i64 k1, .string s1, .int .u64 n1, .slice a1 l1 c1, .slice b1 m1 d1]) := by
            have h := HOL.out
            have hkb := World.ownsRow.lt h.keys
            have hlen : xs.length = m * 5 := hROW.out.1
            refine {
              bl := ⟨htch.os.trans h.bl.os, htch.tape.trans h.bl.tape, htch.output.trans h.bl.output, by have := h.bl.size; omega, fun i hi => (htch.block i (by omega) (fun e => by rcases List.mem_cons.1 e with e | e; omega; have := (hlvb i (by simpa using e)).1; omega)).trans (h.bl.block i hi)⟩
              sz := by omega
              box := hbox9
              res := htch.arr h.res (fun e => by rcases List.mem_cons.1 e with e | e; omega; have := (hlvb _ (by simpa using e)).1; omega)
              out := hO9
              row := hrow9
              keys := htch.row h.keys (fun x hx e => by rcases List.mem_cons.1 e with e | e; have := (hkb x hx).1; omega; exact h.apart x (by simpa using e) hx)
              apart := fun x hx hk => by rcases hX x hx with e | e; exact h.apart x e hk; have := (hkb x hk).2; omega
              sv := fun i v hi => ?_ }
            have hst : Stay (fun x => w.heap.size + 3 ≤ x ∧ x < wr.heap.size ∧ (Value.ownBlock (.slice al m cl)) ≠ some x ∧ kv.ownBlock ≠ some x) wr wx := htch.stay (fun x hx hS => by rcases List.mem_cons.1 hx with e | e; omega; exact hS.2.2.1 (by simpa using e))
            have hll : m < l.length := HLT.out
            by_cases him : i < m
            · rw [List.getElem?_take, if_pos (by omega)] at hi
              rw [cell5_old hlen him]
              exact sv_to (fun x hx hxl => ⟨hx.1, by omega, fun e => by rcases hX x e with e | e; exact hx.2.2.1 e; omega, hx.2.2.2⟩) hst v _ (h.sv i v (by rw [List.getElem?_take, if_pos him]; exact hi))
            · have hi2 : i = m := by
                have := (List.getElem?_eq_some_iff.1 hi).1
                rw [List.length_take] at this
                omega
              subst hi2
              rw [List.getElem?_take, if_pos (by omega), HE.out] at hi
              cases hi
              rw [cell5_new hlen rfl]
              exact sv_to (fun x hx hxl => ⟨by omega, hx.2.1, hx.2.2 rfl, fun e => by have := (hkb x e).2; omega⟩) (fun _ _ _ => rfl) _ _ hsv
          clear hrow9 hsv hO9 hbox9 htch
          go_wp2
          go_roundw
          case rel => exact ⟨m + 1, _, _, by have := HLT.out; omega, by go_num, ⟨_, hOLn⟩⟩
          case measure => simp [intOf]; have := HLT.out; omega
      · have hml : ¬ (m : Int) < (ll : Int) := by omega
        have hmm : m = ll := by omega
        subst hmm
        have z0 := (hOL.out.cell 0).trans (show _ = some (Value.int .i64 k) from rfl)
        have z1 := (hOL.out.cell 1).trans (show _ = some (Value.string (bstr s)) from rfl)
        have z2 := (hOL.out.cell 2).trans (show _ = some (Value.int .u64 (n : Int)) from rfl)
        have z3 := (hOL.out.cell 3).trans (show _ = some (Value.slice al m cl) from rfl)
        obtain ⟨ka, kn, kc, rfl⟩ := row_shape hOL.keys
        have z4 := (hOL.out.cell 4).trans (show _ = some (Value.slice ka kn kc) from rfl)
        have hres := hOL.res
        have HOL := Lib.hid hOL
        clear hOL
        go_wp2_with ((with_reducible show wpList _ _ _ (⟨none, _, _, _, _, _⟩ :: _) _ _); refine wl_store rfl 26 _ _ rfl (w.heap.size + 1) 0 rfl [.int .i64 k, .string (bstr s), .int .u64 (n : Int), .slice al m cl, .slice ka kn kc] rfl 26 zC hres (by kernel_rfl) (by simp [zC]) (by simp [Value.oneCell']) ?_; intro w9 hR9 hg9 hs9)
        rw [whole_store zC [.int .i64 k, .string (bstr s), .int .u64 (n : Int), .slice al m cl, .slice ka kn kc] rfl] at hR9
        refine end_cell rfl (w.heap.size + 1) 26 _ _ rfl hR9 Tryd.underlying26 rfl (by kernel_rfl) rfl ?_
        have h := HOL.out
        have hbl := h.bl
        have hsz := h.sz
        have hrl := World.ownsRow.lt h.row
        have hkl := World.ownsRow.lt h.keys
        have hsv : SV (fun x => w.heap.size + 3 ≤ x) wr (.mk k s n l ks) [.int .i64 k, .string (bstr s), .int .u64 (n : Int), .slice al m cl, .slice ka kn kc] := by
          refine sv_rows (D := fun x => w.heap.size + 3 ≤ x ∧ x < wr.heap.size ∧ Value.ownBlock (.slice al m cl) ≠ some x ∧ Value.ownBlock (.slice ka kn kc) ≠ some x) HK.out (row_sstr h.keys (fun x hx => (hkl x hx).1)) (by rw [← HLL.out]; exact h.row) (fun i v hi => h.sv i v (by rw [List.take_of_length_le (by rw [← HLL.out]; exact Nat.le_refl _)]; exact hi)) (fun x hx _ => hx.1) (fun x hx => (hrl x hx).1)
        refine ⟨_, rfl, sv_to (fun x hx _ => by omega) (Stay.of_grown hg9 (fun x hx hS => by cases hx; omega)) _ _ hsv, hbl.grown hg9 hbl.size (by intro x hx; cases hx; omega)⟩
theorem theirs_any (v : JV) (cs : List Value) (w0 w : World) (hv : RV w0 v cs) (hb : Below w0.heap.size w0 w) (hf : fewV v 1073741823) :
    Calls Tryd.prog 18 #[.agg cs.toArray] w fun e w' => ∃ cs', e = .returned (.agg cs'.toArray) ∧ SV (fun x => w.heap.size ≤ x) w' v cs' ∧ Below w.heap.size w w' := theirs_all _ v cs w0 w (Nat.le_refl _) hv hb hf
end Go.Proofs.YtbondnljoalajaaDoor

namespace Go.Proofs.YtbondnljoalajaaDoor
open Go.RowKit Go.Shelf Go.Lib
set_option maxRecDepth 100000

theorem u8x : U8Extra Tryd.prog Tryd.lays196_ren := ⟨by kernel_rfl, by kernel_rfl, by kernel_rfl, by kernel_rfl, by kernel_rfl, by kernel_rfl, by kernel_rfl⟩
theorem accept_eq : (Rows.laid_unicode_utf8_acceptRanges : DataW Unit) = acceptData := by kernel_rfl
theorem pow_eq : (Rows.laid_internal_strconv_uint64pow10 : DataW Unit) = tabData .u64 pow10Tab := by kernel_rfl
theorem gPow : Tryd.prog.globalNamed "internal/strconv.uint64pow10" = some 2 := by kernel_rfl
theorem tPow : (Tryd.prog.globals[2]?).map (·.type) = some 148 := by kernel_rfl
theorem gSyn : Tryd.prog.globalNamed "strconv.ErrSyntax" = some 5 := by kernel_rfl
theorem tSyn : (Tryd.prog.globals[5]?).map (·.type) = some 136 := by kernel_rfl
theorem gRng : Tryd.prog.globalNamed "strconv.ErrRange" = some 6 := by kernel_rfl
theorem tRng : (Tryd.prog.globals[6]?).map (·.type) = some 136 := by kernel_rfl
theorem starE : "*" ++ "errors.errorString" = "*errors.errorString" := by decide
theorem rowE (u : TypeId) (h : Tryd.prog.typeName? 3 u = some "*errors.errorString") : u = 170 :=
  typeName_ptr_named (nm := "errors.errorString") (by rw [starE]; kernel_rfl) (by kernel_rfl) (by decide) u (by rw [starE]; exact h)
theorem cellsE : Tryd.prog.cellsOf 172 = 1 := by kernel_rfl
theorem cellsS : Tryd.prog.cellsOf 9 = 1 := by kernel_rfl
theorem cells64 : Tryd.prog.cellsOf 22 = 1 := by kernel_rfl
theorem cellsP : Tryd.prog.cellsOf 148 = 20 := by kernel_rfl

/-- the list that the rows give -/
abbrev laid7 : List (String × DataW Unit) := [("math/bits.deBruijn32tab", Rows.laid_math_bits_deBruijn32tab), ("math/bits.deBruijn64tab", Rows.laid_math_bits_deBruijn64tab), ("internal/strconv.uint64pow10", Rows.laid_internal_strconv_uint64pow10), ("unicode/utf8.acceptRanges", Rows.laid_unicode_utf8_acceptRanges), ("strconv.ErrRange", Rows.laid_strconv_ErrRange), ("strconv.ErrSyntax", Rows.laid_strconv_ErrSyntax), ("unicode/utf8.first", Rows.laid_unicode_utf8_first)]
theorem plain7 : (laid7.all fun x => x.2.handleName?.isNone) = true := by kernel_rfl
theorem tabs_of_laid {W : World} (hL : laidMetH Tryd.prog laid7 W) : Tabs W := by
  rw [MakeChecks.laidMetH_plain _ _ _ plain7] at hL
  refine ⟨?_, ?_, ?_, ?_⟩
  · have h3 := laidMet.reads hL (n := "unicode/utf8.first") (d := Rows.laid_unicode_utf8_first) (by repeat (first | exact List.Mem.head _ | apply List.Mem.tail))
    have h4 := laidMet.reads hL (n := "unicode/utf8.acceptRanges") (d := Rows.laid_unicode_utf8_acceptRanges) (by repeat (first | exact List.Mem.head _ | apply List.Mem.tail))
    rw [accept_eq] at h4
    exact utf8Tabs_of_readsT (U8Types.of196 Tryd.lays196) u8x (Pinned.utf8First_eq ▸ h3) h4
  · have h := hL.tail.tail
    rw [pow_eq] at h
    exact tabIs_of_head gPow tPow Tryd.underlying148 Tryd.underlying22 cells64 cellsP h
  · obtain ⟨a0, s0, hv0, -, -, -⟩ := laid_sentinel hL.tail.tail.tail.tail.tail gSyn tSyn Tryd.underlying136 rowE Tryd.underlying170 Tryd.underlying172 rfl rfl Tryd.underlying9 cellsE cellsS
    exact ⟨_, _, by have h0 := World.var?_cell gSyn hv0 0; simpa using h0⟩
  · obtain ⟨a0, s0, hv0, -, -, -⟩ := laid_sentinel hL.tail.tail.tail.tail gRng tRng Tryd.underlying136 rowE Tryd.underlying170 Tryd.underlying172 rfl rfl Tryd.underlying9 cellsE cellsS
    exact ⟨_, _, by have h0 := World.var?_cell gRng hv0 0; simpa using h0⟩
/-- the world of the witness: the library's tables laid -/
theorem laid_any (os : Os) (args : Array Value) : laidMetH Tryd.prog laid7 ((World.laidAll Tryd.prog os laid7).forCall (fun _ _ => 0) ⟨#[], args, []⟩).memory := by
  rw [MakeChecks.laidMetH_plain _ _ _ plain7]
  exact laidMet_laidAll args (by kernel_rfl) (by kernel_rfl)
theorem shaped_any (os : Os) (args : Array Value) : ((World.laidAll Tryd.prog os laid7).forCall (fun _ _ => 0) ⟨#[], args, []⟩).Shaped Tryd.prog := World.shaped_of_ZipB (by kernel_rfl) (by kernel_rfl)
/-- an input that fits -/
theorem witness_laid {H : Type} {enc : TypeId × Value → H} {os : Os} {f : FuncId} {fn : Func} {s : OpenSpec} {conds : List PathCond} {apart : Bool} (modest : Bool) (args : Array Value)
    (hok : Input.okWideB Tryd.prog ((World.laidAll Tryd.prog os laid7).forCall (fun _ _ => 0) ⟨#[], args, []⟩) f ⟨#[], args, []⟩ = true)
    (hrow : s.preRow enc Tryd.prog fn conds apart laid7 ((World.laidAll Tryd.prog os laid7).forCall (fun _ _ => 0) ⟨#[], args, []⟩).memory args) :
    ∃ (w : World) (tape : Tape) (i : Input), w.os = os ∧ (w.forCall tape i).Shaped Tryd.prog ∧ i.vars = [] ∧ Input.okWide Tryd.prog (w.forCall tape i) .any w.heap.size f i ∧
      s.preRow enc Tryd.prog fn conds apart laid7 (w.forCall tape i).memory i.args ∧ ({ modest := modest } : Assume).holds Tryd.prog (lone (Frame.enter Tryd.prog f i.args .normal) [] (w.forCall tape i)) :=
  ⟨World.laidAll Tryd.prog os laid7, fun _ _ => 0, ⟨#[], args, []⟩, World.laidAll_os _ _ _, shaped_any os args, (Input.okWide_of_okWideB (base := 0) hok).1, (Input.okWide_of_okWideB hok).2, hrow, by
    simp only [Assume.holds]
    exact ⟨by simp, by simp, fun _ => Modest.zero, by simp, by simp⟩⟩
end Go.Proofs.YtbondnljoalajaaDoor
