/-
  Layer 8: rows of hashes made with room; slices.Clone, the program's Leaves. Layer 8: the program's above: the nodes of each two of a level. Layer 8: rows of rows of hashes that lie apart; the program's Levels. Layer 8: the levels by pairs are the levels by parts. Layer 8: literals of bytes and of hashes; what the chapter's rows want. Layer 8: worlds that are kept but for some blocks; rows of rows, each cell known; a hash's first byte turned. Rows of elements of a fixed number of cells, for any element type: what a slice reads as, a call's own rows, append, literals, stores. Conditions: those in each statement.
-/
import Derived.Test.YtfidajbenmgflaaDoorMgC
import Derived.Test.YtfidajbenmgflaaDoorMgB
import Derived.Laws.OwnMore
import Derived.Lib.LazyBuf
import Derived.Lib.SlBytesConst
namespace Go.Proofs.YtfidajbenmgflaaDoor
open Go.RowKit

theorem dcs_zero (n : Nat) : dcs (List.replicate n (Z8 32)) = List.replicate (n * 32) (.int .u8 0) := by
  induction n with
  | zero => simp [dcs]
  | succ n ih =>
    rw [List.replicate_succ, show dcs (Z8 32 :: List.replicate n (Z8 32)) = bvs (Z8 32) ++ dcs (List.replicate n (Z8 32)) by simp [dcs], ih, show (n + 1) * 32 = 32 + n * 32 by omega, ← List.replicate_append_replicate]
    rfl
theorem made_dcs (n : Nat) : madeCells (bvs (Z8 32)).toArray (n * 32) = (dcs (List.replicate n (Z8 32))).toArray := by
  rw [dcs_zero]
  apply Array.ext
  · simp [madeCells]
  · intro i h1 h2
    have e : ∀ j, j < 32 → (bvs (Z8 32)).toArray[j]! = .int .u8 0 := by
      intro j hj
      have h1 : bvs (Z8 32) = List.replicate 32 (.int .u8 0) := rfl
      rw [h1]
      generalize 32 = q at *
      simp [hj]
    simp only [madeCells, Array.getElem_map, Array.getElem_range, List.getElem_toArray, List.getElem_replicate]
    exact e _ (Nat.mod_lt _ (by decide))

section
variable {ops : Array Oper} {rest : List Oper} {o : Oper} {a : Act} {Q : Exit → Act → World → Prop} {w : World}
/-- make([]Digest, m, cap) -/
theorem wl_makeD (hg : o.guard = none) (l c : Operand) (ho : o.op = .makeSlice 37 l c) (m cap : Nat) (hl : a.eval l = .int .i64 (m : Int)) (hc : a.eval c = .int .i64 (cap : Int)) (hm : m ≤ cap) (hcap : cap ≤ 2 ^ 43)
    (hK : ∀ w', Arr w' w.heap.size 48 (dcs (List.replicate cap (Z8 32))) → Below w.heap.size w w' → w'.heap.size = w.heap.size + 1 → wpList Tryd.prog ops Q rest (a.put o.dst (.slice (some ⟨w.heap.size, 0, none⟩) m cap)) w') :
    wpList Tryd.prog ops Q (o :: rest) a w := by
  obtain ⟨i0, hi, hz0, hz1, hz2⟩ := info_parts infoDg
  refine wpList_plain hg fun K hK' => ?_
  have hrun := run_make (P := Tryd.prog) (w := w) 37 48 i0 _ Tryd.underlying37 hi hz0 .i64 .i64 m cap (by omega) (by omega) (by rw [hz2]; omega) (by omega)
  rw [Int.toNat_natCast, Int.toNat_natCast, hz1, show (Value.agg (bvs (Z8 32)).toArray).cells = (bvs (Z8 32)).toArray from rfl, made_dcs] at hrun
  unfold Oper.wp execOp
  simp only [ho, hl, hc, Sem.run_bind, Sem.run_pure, hrun, Result.andThen_ok]
  exact hK' _ _ (hK _ (Arr.new _ _ _) ((Below.refl _ _).alloc (Nat.le_refl _) _) (by simp))
/-- append(row, hash) where there is room -/
theorem wl_fitD (hgd : o.guard = none) (d s : Operand) (ho : o.op = .call { callee := .builtin .append, args := #[d, s], argTypes := #[37, 37] })
    (B g cap k : Nat) (L : List (List UInt8)) (hd : a.eval d = .slice (some ⟨g, 0, none⟩) k cap) (hown : OwnD w B (.slice (some ⟨g, 0, none⟩) k cap) L) (hL : L.length = k) (h : Nat) (x : List UInt8) (hs : a.eval s = .slice (some ⟨h, 0, none⟩) 1 1)
    (hA : Arr w h 48 (bvs x)) (hx : x.length = 32) (hroom : k + 1 ≤ cap) (hB : B ≤ w.heap.size)
    (hK : ∀ w', OwnD w' B (.slice (some ⟨g, 0, none⟩) (k + 1) cap) (L ++ [x]) → Below B w w' → wpList Tryd.prog ops Q rest (a.put o.dst (.slice (some ⟨g, 0, none⟩) (k + 1) cap)) w') : wpList Tryd.prog ops Q (o :: rest) a w := by
  obtain ⟨i0, hi, hz0, hz1, hz2⟩ := info_parts infoDg
  have hrow := hown.row
  rw [hL] at hrow
  refine wpList_plain hgd fun K hK' => ?_
  obtain ⟨w', hr, h1, h2⟩ := run_append_fits (P := Tryd.prog) (w := w) B 37 o.type 48 i0 32 Tryd.underlying37 hi hz1 g k cap (dcs L) hrow ⟨h, 0, none⟩ 1 1 (bvs x) (by rw [bvs_len, hx])
    (fun j u hu => by rw [Addr.add_lit, Nat.zero_add, hA.cell]; exact hu) (bvs_one x) hroom
  unfold Oper.wp execOp
  simp only [ho, resolve, invoke, builtin, Sem.run_bind, Sem.run_pure, Result.andThen_ok, List.map_toArray, List.map_cons, List.map_nil, hd, hs, hr]
  refine hK' _ _ (hK w' ⟨?_, All32.of fun y hy => ?_⟩ ((Below.refl _ _).grown h2 hB fun q hq => (World.ownsRow.lt hown.row q hq).1))
  · rw [dcs_app, List.length_append, hL]
    exact h1
  · rcases List.mem_append.1 hy with h | h
    · exact hown.all.mem h
    · simp only [List.mem_singleton] at h
      rw [h]; exact hx
end
theorem OwnD.made {w : World} {B g cap : Nat} {L : List (List UInt8)} (h : Arr w g 48 (dcs L)) (hL : L.length = cap) (ha : All32 L) (hB : B ≤ g) (hc : cap ≤ maxLen) : OwnD w B (.slice (some ⟨g, 0, none⟩) cap cap) L := by
  refine ⟨⟨dcs_len ha, .inr ⟨g, cap, _, by rw [hL], hB, h, by omega, hc, by simp [dcs_len ha, hL], ?_⟩⟩, ha⟩
  rw [List.take_of_length_le (by simp [dcs_len ha])]
theorem OwnD.room {w : World} {B g cap : Nat} {M : List (List UInt8)} (h : Arr w g 48 (dcs M)) (hL : M.length = cap) (ha : All32 M) (hB : B ≤ g) (hc : cap ≤ maxLen) : OwnD w B (.slice (some ⟨g, 0, none⟩) 0 cap) [] := by
  refine ⟨⟨rfl, .inr ⟨g, cap, _, rfl, hB, h, Nat.zero_le _, hc, by simp [dcs_len ha, hL], by simp [dcs]⟩⟩, fun k hk => by simp at hk⟩
theorem zero32 (n : Nat) : All32 (List.replicate n (Z8 32)) := All32.of fun x hx => by rw [(List.mem_replicate.1 hx).2]; simp [Z8]

end Go.Proofs.YtfidajbenmgflaaDoor

namespace Go.Proofs.YtfidajbenmgflaaDoor
open Go.RowKit

theorem dcs_append (L M : List (List UInt8)) : dcs (L ++ M) = dcs L ++ dcs M := by simp [dcs]
theorem dcs_set {M : List (List UInt8)} (h : All32 M) {x : List UInt8} (hx : x.length = 32) (k : Nat) (hk : k < M.length) :
    (dcs M).take (k * 32) ++ bvs x ++ (dcs M).drop (k * 32 + (bvs x).length) = dcs (M.set k x) := by
  have e0 : M = M.take k ++ M[k] :: M.drop (k + 1) := by simp
  have l1 : (dcs (M.take k)).length = k * 32 := by rw [dcs_len (h.take k), List.length_take]; congr 1; omega
  have l2 : (bvs M[k]).length = 32 := by rw [bvs_len]; exact h.mem (List.getElem_mem hk)
  have e1 : dcs M = dcs (M.take k) ++ (bvs M[k] ++ dcs (M.drop (k + 1))) := by
    conv => lhs; rw [e0]
    rw [dcs_append]
    exact congrArg _ (List.flatMap_cons ..)
  have e2 : M.set k x = M.take k ++ x :: M.drop (k + 1) := List.set_eq_take_append_cons_drop.trans (by rw [if_pos hk])
  rw [e2, dcs_append, show dcs (x :: M.drop (k + 1)) = bvs x ++ dcs (M.drop (k + 1)) by simp [dcs], e1]
  rw [List.take_left' l1, List.drop_append, List.drop_of_length_le (by rw [l1]; omega), l1, show k * 32 + (bvs x).length - k * 32 = 32 by rw [bvs_len, hx]; omega, List.drop_left' l2]
  simp
/-- a level half done -/
def halfL (P : List (List UInt8)) (k : Nat) : List (List UInt8) := P.take k ++ List.replicate (P.length - k) (Z8 32)
theorem halfL_len (P : List (List UInt8)) (k : Nat) (h : k ≤ P.length) : (halfL P k).length = P.length := by simp [halfL]; omega
theorem halfL_zero (P : List (List UInt8)) : halfL P 0 = List.replicate P.length (Z8 32) := by simp [halfL]
theorem halfL_end (P : List (List UInt8)) : halfL P P.length = P := by simp [halfL]
theorem halfL_all {P : List (List UInt8)} (h : All32 P) (k : Nat) : All32 (halfL P k) := All32.of fun x hx => by
  rcases List.mem_append.1 hx with hx | hx
  · exact (h.take k).mem hx
  · rw [(List.mem_replicate.1 hx).2]; simp [Z8]
theorem halfL_set (P : List (List UInt8)) (k : Nat) (h : k < P.length) : (halfL P k).set k (P.getD k []) = halfL P (k + 1) := by
  unfold halfL
  have e2 : P.take (k + 1) = P.take k ++ [P.getD k []] := by
    rw [List.take_succ_eq_append_getElem h]
    simp [List.getD, h]
  rw [List.set_append_right _ _ (by rw [List.length_take]; omega)]
  have e1 : k - (P.take k).length = 0 := by rw [List.length_take]; omega
  rw [e1, e2, show P.length - k = (P.length - (k + 1)) + 1 by omega, List.replicate_succ, List.set_cons_zero, List.append_assoc]
  rfl
theorem pairs_all (L : List (List UInt8)) : All32 (pairs L) := fun k hk => by
  rw [pairs_len _ L (Nat.le_refl _)] at hk
  rw [pairs_get _ L k (Nat.le_refl _) (by omega)]
  exact shaL_len _

structure InvAbove (S S1 S2 : List UInt8) (PP : List (List UInt8)) (b off n c g k m j0 j1 B : Nat) (u14 u15 u16 u17 u18 u19 u20 u21 u22 u23 u24 u25 u26 u27 u28 u29 : Value) (w0 : World) (L : Nat → Bool) (v14 v15 v16 v17 v18 v19 v20 v21 v22 v23 v24 v25 v26 v27 v28 : Value) (wx : World) : Prop where
  t0 : L 0 = true → v14 = .slice (some ⟨g, 0, none⟩) m m
  t1 : L 1 = true → v15 = .int .i64 (k : Int)
  t2 : L 2 = true → v16 = .slice (some ⟨b, off, none⟩) n c
  t3 : L 3 = true → v17 = .int .i64 (k : Int)
  t4 : L 4 = true → v18 = .int .i64 (j0 : Int)
  t5 : L 5 = true → v19 = .pointer (some ⟨b, off + j0 * 32, none⟩)
  t6 : L 6 = true → v20 = .agg (bvs S1).toArray
  t7 : L 7 = true → v21 = .slice (some ⟨b, off, none⟩) n c
  t8 : L 8 = true → v22 = .int .i64 (k : Int)
  t9 : L 9 = true → v23 = .int .i64 (j0 : Int)
  t10 : L 10 = true → v24 = .int .i64 (j1 : Int)
  t11 : L 11 = true → v25 = .pointer (some ⟨b, off + j1 * 32, none⟩)
  t12 : L 12 = true → v26 = .agg (bvs S2).toArray
  t13 : L 13 = true → v27 = .agg (bvs S).toArray
  t14 : L 14 = true → v28 = .pointer (some ⟨g, k * 32, none⟩)
  a2 : Arr wx g 48 (dcs (halfL PP (if L 15 then k + 1 else k)))
  bw : Below B w0 wx
  le : B ≤ w0.heap.size


end Go.Proofs.YtfidajbenmgflaaDoor

namespace Go.Proofs.YtfidajbenmgflaaDoor
open Go.RowKit

/-- a call's own row of its own rows of hashes, each in a block of its own below C -/
def OwnS (w : World) (B C : Nat) (v : Value) (LL : List (List (List UInt8))) : Prop :=
  ∃ vs, w.ownsRow B 37 1 v LL.length vs ∧ (∀ k, k < LL.length → ∃ u, vs[k]? = some u ∧ OwnD w B u (LL.getD k [])) ∧
    (∀ (j k : Nat) (x y : Value) (g : Nat), j ≠ k → vs[j]? = some x → vs[k]? = some y → x.ownBlock = some g → y.ownBlock ≠ some g) ∧ ∀ (j : Nat) (x : Value) (g : Nat), vs[j]? = some x → x.ownBlock = some g → g < C
theorem OwnS.ownR {w : World} {B C : Nat} {v : Value} {LL : List (List (List UInt8))} (h : OwnS w B C v LL) : OwnR w B v LL := by
  obtain ⟨vs, h1, h2, -⟩ := h
  exact ⟨vs, h1, h2⟩
theorem OwnS.nil (w : World) (B C : Nat) : OwnS w B C (.slice none 0 0) [] :=
  ⟨[], World.ownsRow_nil w B 37 1, fun k hk => by simp at hk, fun j k x y g _ h => by simp at h, fun j x g h => by simp at h⟩
theorem OwnS.up {w : World} {B C C' : Nat} {v : Value} {LL : List (List (List UInt8))} (h : OwnS w B C v LL) (hc : C ≤ C') : OwnS w B C' v LL := by
  obtain ⟨vs, h1, h2, h3, h4⟩ := h
  exact ⟨vs, h1, h2, h3, fun j x g a b => Nat.lt_of_lt_of_le (h4 j x g a b) hc⟩
theorem OwnS.to {w w' : World} {B C : Nat} {v : Value} {LL : List (List (List UInt8))} (h : OwnS w B C v LL) (hb : Below w.heap.size w w') : OwnS w' B C v LL := by
  obtain ⟨vs, h1, h2, h3, h4⟩ := h
  have hlt := World.ownsRow.lt h1
  refine ⟨vs, ?_, fun k hk => ?_, h3, h4⟩
  · obtain ⟨h1, ⟨rfl, hn⟩ | ⟨g, cap, cur, rfl, hbb, hg, r⟩⟩ := h1
    · exact ⟨h1, .inl ⟨rfl, hn⟩⟩
    · exact ⟨h1, .inr ⟨g, cap, cur, rfl, hbb, by rw [hb.block g (hlt g rfl).2]; exact hg, r⟩⟩
  · obtain ⟨u, e, h⟩ := h2 k hk
    exact ⟨u, e, h.to hb⟩
theorem OwnS.one {w : World} {B g : Nat} {u : Value} {L : List (List UInt8)} (hA : Arr w g 37 [u]) (hB : B ≤ g) (hu : OwnD w B u L) : OwnS w B w.heap.size (.slice (some ⟨g, 0, none⟩) 1 1) [L] := by
  refine ⟨[u], ⟨rfl, .inr ⟨g, 1, _, rfl, hB, hA, Nat.le_refl _, by unfold maxLen; omega, rfl, rfl⟩⟩, fun k hk => ?_, fun j k x y q hjk h1 h2 => ?_, fun j x q h1 h2 => ?_⟩
  · obtain rfl : k = 0 := by simpa using hk
    exact ⟨u, rfl, hu⟩
  · have e1 : j < 1 := by have := (List.getElem?_eq_some_iff.1 h1).1; simpa using this
    have e2 : k < 1 := by have := (List.getElem?_eq_some_iff.1 h2).1; simpa using this
    omega
  · have e1 : j < 1 := by have := (List.getElem?_eq_some_iff.1 h1).1; simpa using this
    obtain rfl : j = 0 := by omega
    simp at h1
    subst h1
    exact (World.ownsRow.lt hu.row q h2).2

section
variable {ops : Array Oper} {rest : List Oper} {o : Oper} {a : Act} {Q : Exit → Act → World → Prop} {w : World}
end

end Go.Proofs.YtfidajbenmgflaaDoor

namespace Go.Proofs.YtfidajbenmgflaaDoor
open Go.RowKit

theorem levGo_range (L : List (List UInt8)) (i : Nat) (h1 : L.length < 2 ^ i) (h2 : ∀ j, j < i → 2 ^ j ≤ L.length) : ∀ (d j f : Nat), j + d = i → (chunks L j).length ≤ f → levGo f (chunks L j) = (List.range' j d).map (chunks L) := by
  intro d
  induction d with
  | zero =>
    intro j f hj hf
    obtain rfl : j = i := by omega
    rw [levGo_end _ _ (by rw [chunks_len]; exact Nat.div_eq_of_lt h1)]
    rfl
  | succ d ih =>
    intro j f hj hf
    have h0 : (chunks L j).length ≠ 0 := by
      rw [chunks_len]
      have := Nat.div_pos (h2 j (by omega)) (Nat.two_pow_pos j)
      omega
    obtain ⟨g, -, hg, e⟩ := levGo_more f (chunks L j) h0 hf
    rw [e, pairs_chunks, ih (j + 1) g (by omega) (by rw [← pairs_chunks]; exact hg), List.range'_succ]
    rfl
theorem levs_levelsF (L : List (List UInt8)) (i : Nat) (h1 : L.length < 2 ^ i) (h2 : ∀ j, j < i → 2 ^ j ≤ L.length) : levelsF L = levs L i := by
  have := levGo_range L i h1 h2 i 0 L.length (by omega) (by rw [chunks_zero]; exact Nat.le_refl _)
  rw [chunks_zero] at this
  unfold levelsF levs
  rw [this, List.range_eq_range']
end Go.Proofs.YtfidajbenmgflaaDoor

namespace Go.Proofs.YtfidajbenmgflaaDoor
open Go.RowKit

/-- a literal of bytes, marked or not -/
def LitB (w : World) (g : Nat) (xs : List UInt8) : Prop := ∃ fr, w.heap[g]? = some (.cells (xs.map bv).toArray 5 fr)
theorem LitB.new (w : World) (xs : List UInt8) : LitB (w.alloc (.cells (xs.map bv).toArray 5)) w.heap.size xs := ⟨_, heap_alloc_new w _⟩
theorem LitB.lt {w : World} {g : Nat} {xs : List UInt8} (h : LitB w g xs) : g < w.heap.size := by
  obtain ⟨fr, h⟩ := h
  exact lt_of_block h
theorem LitB.kept {w w' : World} {g : Nat} {xs : List UInt8} (h : LitB w g xs) (hb : Below w.heap.size w w') : LitB w' g xs := by
  have hlt := h.lt
  obtain ⟨fr, h⟩ := h
  exact ⟨fr, by rw [hb.block g hlt]; exact h⟩
theorem LitB.rd {w : World} {g : Nat} {xs : List UInt8} (h : LitB w g xs) : Rd w (some ⟨g, 0, none⟩) xs.length xs.length xs := by
  have hlt := h.lt
  obtain ⟨fr, h⟩ := h
  refine ⟨rfl, Nat.le_refl _, (by intro e; cases e), fun _ => ⟨g, 0, rfl, hlt, fun j hj => ?_⟩⟩
  have : w.cell? ⟨g, 0 + j, none⟩ = ((xs.map bv).toArray)[0 + j]? := by simp [World.cell?, h]
  rw [this]
  simp [hj, bv, List.getD]
theorem run_conv_lit {w : World} {g : Nat} {xs : List UInt8} (h : LitB w g xs) (n c : Nat) :
    ∃ w', (convert 38 38 (.slice (some ⟨g, 0, none⟩) n c)).run Tryd.prog w = .ok (.slice (some ⟨g, 0, none⟩) n c) w' ∧ LitB w' g xs ∧ w.grownBy w' (some g) ∧ w'.heap.size = w.heap.size := by
  have hlt := h.lt
  obtain ⟨fr, h⟩ := h
  have hsh : w.shape? g = some (5, xs.length) := by unfold World.shape?; rw [h]; simp
  have hf : w.freeze ⟨g, xs.length, none⟩ 1 = { w with heap := w.heap.modify g fun
      | .cells c elem (lo, hi) => .cells c elem (if lo == hi then (xs.length, xs.length + 1) else (min lo xs.length, max hi (xs.length + 1)))
      | o => o } := by unfold World.freeze; rw [if_neg (by decide)]; rfl
  refine ⟨w.freeze ⟨g, xs.length, none⟩ 1, ?_, ?_, ?_, ?_⟩
  · have u1 := fun w => run_underlying (P := Tryd.prog) Tryd.underlying38 w
    have u2 := fun w => run_underlying (P := Tryd.prog) Tryd.underlying5 w
    simp [convert, u1, u2, markStringish, hsh]
  · rw [hf]
    obtain ⟨lo, hi⟩ := fr
    refine ⟨(if lo == hi then (xs.length, xs.length + 1) else (min lo xs.length, max hi (xs.length + 1))), ?_⟩
    show (w.heap.modify g _)[g]? = _
    rw [Array.getElem?_modify, if_pos rfl, h]
    rfl
  · rw [hf]
    refine ⟨rfl, rfl, rfl, by simp, fun k _ hne => ?_⟩
    show (w.heap.modify g _)[k]? = _
    rw [Array.getElem?_modify, if_neg (by intro e; exact hne (by rw [e]))]
  · rw [hf]; simp

section
variable {o : Oper} {a : Act} {K : Act → World → Prop} {Q : Exit → Act → World → Prop} {w : World}
theorem ow_conv (x : Operand) (ho : o.op = .convert 38 38 x) (g n c : Nat) (xs : List UInt8) (hx : a.eval x = .slice (some ⟨g, 0, none⟩) n c) (h : LitB w g xs)
    (hK : ∀ w', LitB w' g xs → w.grownBy w' (some g) → w'.heap.size = w.heap.size → K (a.put o.dst (.slice (some ⟨g, 0, none⟩) n c)) w') : o.wp Tryd.prog a w K Q := by
  obtain ⟨w', hr, h1, h2, h3⟩ := run_conv_lit h n c
  unfold Oper.wp execOp
  simp only [ho, hx, Sem.run_bind, Sem.run_pure, hr, Result.andThen_ok]
  exact hK w' h1 h2 h3
variable {ops : Array Oper} {rest : List Oper}
theorem wl_conv (hg : o.guard = none) (x : Operand) (ho : o.op = .convert 38 38 x) (g n c : Nat) (xs : List UInt8) (hx : a.eval x = .slice (some ⟨g, 0, none⟩) n c) (h : LitB w g xs)
    (hK : ∀ w', LitB w' g xs → w.grownBy w' (some g) → w'.heap.size = w.heap.size → wpList Tryd.prog ops Q rest (a.put o.dst (.slice (some ⟨g, 0, none⟩) n c)) w') : wpList Tryd.prog ops Q (o :: rest) a w :=
  wpList_plain hg fun _ hK' => ow_conv x ho g n c xs hx h fun w' h1 h2 h3 => hK' _ _ (hK w' h1 h2 h3)
/-- a row of three hashes, written out -/
theorem wl_litD3 (hg : o.guard = none) (i j k : Nat) (ho : o.op = .buildSlice 37 3 #[(0, .tmp i), (1, .tmp j), (2, .tmp k)]) (x y z : List UInt8) (hx : x.length = 32) (hy : y.length = 32) (hz : z.length = 32)
    (h1 : a.eval (.tmp i) = .agg (bvs x).toArray) (h2 : a.eval (.tmp j) = .agg (bvs y).toArray) (h3 : a.eval (.tmp k) = .agg (bvs z).toArray)
    (hK : ∀ w', Arr w' w.heap.size 48 (dcs [x, y, z]) → Below w.heap.size w w' → wpList Tryd.prog ops Q rest (a.put o.dst (.slice (some ⟨w.heap.size, 0, none⟩) 3 3)) w') : wpList Tryd.prog ops Q (o :: rest) a w := by
  refine Great.wpList_buildRows hg 37 48 #[(0, .tmp i), (1, .tmp j), (2, .tmp k)] 32 [.agg (bvs x).toArray, .agg (bvs y).toArray, .agg (bvs z).toArray] ho (fun n => [i, j, k].getD n 0) _ rfl _ rfl Tryd.underlying37 sizeD (by kernel_rfl) (by decide) (by simp) (by simp) rfl ?_ ?_ ?_
  · intro v hv
    simp only [List.mem_cons, List.not_mem_nil, or_false] at hv
    rcases hv with rfl | rfl | rfl <;> simp [Value.cells, bvs_len, hx, hy, hz]
  · intro n hn
    match n, hn with
    | 0, _ => exact h1
    | 1, _ => exact h2
    | 2, _ => exact h3
  · refine hK _ ?_ ((Below.refl _ _).alloc (Nat.le_refl _) _)
    have e : ((([.agg (bvs x).toArray, .agg (bvs y).toArray, .agg (bvs z).toArray] : List Value).flatMap fun v => v.cells.toList).toArray) = (dcs [x, y, z]).toArray := by simp [Value.cells, dcs]
    rw [e]
    exact Arr.new _ _ _
end
theorem rdd_arr {w : World} {g : Nat} {L : List (List UInt8)} (h : Arr w g 48 (dcs L)) (ha : All32 L) : RdD w (some ⟨g, 0, none⟩) L.length L.length L :=
  ⟨rfl, Nat.le_refl _, ha, (by intro e; cases e), fun _ => ⟨g, 0, rfl, h.lt, fun k hk j hj => by rw [Nat.zero_add, h.cell]; exact dcs_get ha k j hk hj⟩⟩
theorem eqSame {xs : List UInt8} (hx : xs.length = 32) (w : World) : (Op.equalIn 10000 48 (.agg (bvs xs).toArray) (.agg (bvs xs).toArray)).run Tryd.prog w = .ok true w := by
  obtain ⟨i, hi⟩ := Option.isSome_iff_exists.1 infoSome
  have h := run_equalIn_array w 9999 (bvs xs).toArray (bvs xs).toArray Tryd.underlying48 hi
  rw [cells1, show (9999 : Nat) = 9998 + 1 from rfl, run_eqItems_bytes Tryd.underlying5 9998 xs xs _ (fun j hj => by have := List.mem_range.1 hj; omega), all_range hx hx] at h
  simpa using h
theorem neIn {xs ys : List UInt8} (hx : xs.length = 32) (hy : ys.length = 32) (hne : xs ≠ ys) (w : World) : (Op.equalIn 10000 48 (.agg (bvs xs).toArray) (.agg (bvs ys).toArray)).run Tryd.prog w = .ok false w := by
  obtain ⟨i, hi⟩ := Option.isSome_iff_exists.1 infoSome
  have h := run_equalIn_array w 9999 (bvs xs).toArray (bvs ys).toArray Tryd.underlying48 hi
  rw [cells1, show (9999 : Nat) = 9998 + 1 from rfl, run_eqItems_bytes Tryd.underlying5 9998 xs ys _ (fun j hj => by have := List.mem_range.1 hj; omega), all_range hx hy] at h
  simpa [hne] using h
theorem leaf_ne : leafH [97] ≠ leafH [98] := by decide +kernel
/-- three leaves -/
theorem two_root (a b : List UInt8) : rootF [a, b] = nodeH a b := by
  rw [rootF_more (by simp), show splK [a, b].length = 1 from (by decide +kernel : splK 2 = 1)]
  rfl
theorem three_root (a b c : List UInt8) : rootF [a, b, c] = nodeH (nodeH a b) c := by
  rw [rootF_more (by simp), show splK [a, b, c].length = 2 from (by decide +kernel : splK 3 = 2)]
  show nodeH (rootF [a, b]) (rootF [c]) = _
  rw [two_root]
  rfl
theorem sub_13 (a b c : List UInt8) : subF [a, b, c] 1 3 = nodeH b c := by
  have h : okP [a, b, c].length 1 3 = true := (by decide : okP 3 1 3 = true)
  unfold subF
  rw [if_pos h]
  exact two_root b c
theorem sub_11 (a b c : List UInt8) : subF [a, b, c] 1 1 = Z8 32 := by
  have h : okP [a, b, c].length 1 1 = false := (by decide : okP 3 1 1 = false)
  unfold subF
  rw [h]
  rfl
theorem sube_13 : subE 3 1 3 = 0 := by decide
theorem sube_11 : subE 3 1 1 = 1 := by decide
theorem three_levs (a b c : List UInt8) (i : Nat) (h1 : 3 < 2 ^ i) (h2 : ∀ j, j < i → 2 ^ j ≤ 3) : levs [a, b, c] i = [[a, b, c], [nodeH a b]] := by
  rw [← levs_levelsF [a, b, c] i h1 h2]
  rfl
end Go.Proofs.YtfidajbenmgflaaDoor

namespace Go.Proofs.YtfidajbenmgflaaDoor
open Go.RowKit

/-- all of w is kept but for the blocks of S -/
structure KB (S : Nat → Prop) (w w' : World) : Prop where
  os : w'.os = w.os
  tape : w'.tape = w.tape
  output : w'.output = w.output
  size : w.heap.size ≤ w'.heap.size
  block : ∀ k, k < w.heap.size → ¬ S k → w'.heap[k]? = w.heap[k]?
theorem KB.refl (S : Nat → Prop) (w : World) : KB S w w := ⟨rfl, rfl, rfl, Nat.le_refl _, fun _ _ _ => rfl⟩
theorem KB.mono {S S' : Nat → Prop} {w w' : World} (h : KB S w w') (hs : ∀ k, S k → S' k) : KB S' w w' := ⟨h.os, h.tape, h.output, h.size, fun k hk hn => h.block k hk fun e => hn (hs k e)⟩
theorem KB.below {S : Nat → Prop} {w w' w'' : World} (h : KB S w w') (hb : Below w'.heap.size w' w'') : KB S w w'' :=
  ⟨hb.os.trans h.os, hb.tape.trans h.tape, hb.output.trans h.output, Nat.le_trans h.size hb.size, fun k hk hn => (hb.block k (Nat.lt_of_lt_of_le hk h.size)).trans (h.block k hk hn)⟩
theorem KB.grown {S : Nat → Prop} {w w' w'' : World} {g : Nat} (h : KB S w w') (hg : w'.grownBy w'' (some g)) (hs : S g) : KB S w w'' :=
  ⟨hg.os.trans h.os, hg.tape.trans h.tape, hg.output.trans h.output, Nat.le_trans h.size hg.size, fun k hk hn => (hg.block k (Nat.lt_of_lt_of_le hk h.size) (by intro e; injection e with e; rw [e] at hn; exact hn hs)).trans (h.block k hk hn)⟩
theorem KB.drew {S : Nat → Prop} {w w' : World} (h : KB S w w') : KB S w w'.drew := ⟨h.os, h.tape, h.output, h.size, h.block⟩
theorem KB.cell {S : Nat → Prop} {w w' : World} {p : Addr} (h : KB S w w') (hp : p.block < w.heap.size) (hs : ¬ S p.block) : w'.cell? p = w.cell? p := World.cell?_of_block (h.block p.block hp hs)
theorem KB.under {S : Nat → Prop} {w w' : World} {B : Nat} (h : KB S w w') (hs : ∀ k, S k → B ≤ k) (hB : B ≤ w.heap.size) : Below B w w' :=
  ⟨h.os, h.tape, h.output, h.size, fun k hk => h.block k (by omega) fun e => by have := hs k e; omega⟩
theorem KB.rdD {S : Nat → Prop} {w w' : World} {a : Option Addr} {n c : Nat} {L : List (List UInt8)} (h : KB S w w') (hr : RdD w a n c L) (hs : ∀ ad, a = some ad → 0 < n → ¬ S ad.block) : RdD w' a n c L := by
  refine ⟨hr.len, hr.le, hr.all, hr.nil, fun h0 => ?_⟩
  obtain ⟨b, off, e, hlt, hc⟩ := hr.mem h0
  exact ⟨b, off, e, Nat.lt_of_lt_of_le hlt h.size, fun k hk j hj => (h.cell (p := ⟨b, off + k * 32 + j, none⟩) hlt (hs ⟨b, off, none⟩ e h0)).trans (hc k hk j hj)⟩
theorem KB.ownD {S : Nat → Prop} {w w' : World} {B g n c : Nat} {L : List (List UInt8)} (h : KB S w w') (hr : OwnD w B (.slice (some ⟨g, 0, none⟩) n c) L) (hs : ¬ S g) : OwnD w' B (.slice (some ⟨g, 0, none⟩) n c) L := by
  have hlt := (World.ownsRow.lt hr.row g rfl).2
  refine ⟨?_, hr.all⟩
  obtain ⟨h1, ⟨e, hn⟩ | ⟨g', cap, cur, e, hbb, hg, r⟩⟩ := hr.row
  · exact ⟨h1, .inl ⟨e, hn⟩⟩
  · injection e with e e2 e3
    injection e with e
    injection e with e
    subst e e3
    exact ⟨h1, .inr ⟨_, _, cur, by rw [e2], hbb, by rw [h.block _ hlt hs]; exact hg, r⟩⟩

theorem OwnD.solid {w : World} {B : Nat} {v : Value} {L : List (List UInt8)} (h : OwnD w B v L) (h0 : 0 < L.length) : ∃ g c, v = .slice (some ⟨g, 0, none⟩) L.length c ∧ B ≤ g ∧ g < w.heap.size := by
  have hlt := World.ownsRow.lt h.row
  obtain ⟨h1, ⟨e, hn⟩ | ⟨g, cap, cur, e, hbb, hg, r⟩⟩ := h.row
  · omega
  · exact ⟨g, cap, e, (hlt g (by rw [e]; rfl)).1, (hlt g (by rw [e]; rfl)).2⟩
theorem OwnD.rdAt {w : World} {B g n c : Nat} {L : List (List UInt8)} (h : OwnD w B (.slice (some ⟨g, 0, none⟩) n c) L) : RdD w (some ⟨g, 0, none⟩) n c L := by
  obtain ⟨a, c', e, hr⟩ := h.rd
  injection e with e1 e2 e3
  subst e1 e2 e3
  exact hr
/-- rows, each cell known -/
structure RowsAt (w : World) (B C b : Nat) (LL : List (List (List UInt8))) (ga cc : Nat → Nat) : Prop where
  lt : b < w.heap.size
  base : B ≤ b
  cell : ∀ j, j < LL.length → w.cell? ⟨b, j, none⟩ = some (.slice (some ⟨ga j, 0, none⟩) (LL.getD j []).length (cc j))
  own : ∀ j, j < LL.length → OwnD w B (.slice (some ⟨ga j, 0, none⟩) (LL.getD j []).length (cc j)) (LL.getD j [])
  apart : ∀ j k, j < LL.length → k < LL.length → j ≠ k → ga j ≠ ga k
  up : ∀ j, j < LL.length → ga j < C
  out : ∀ j, j < LL.length → ga j ≠ b
theorem OwnS.at {w : World} {B C : Nat} {v : Value} {LL : List (List (List UInt8))} (h : OwnS w B C v LL) (hne : ∀ j, j < LL.length → 0 < (LL.getD j []).length) :
    ∃ p c, v = .slice p LL.length c ∧ LL.length ≤ c ∧ (0 < LL.length → ∃ b ga cc, p = some ⟨b, 0, none⟩ ∧ RowsAt w B C b LL ga cc) := by
  obtain ⟨vs, hrow, hel, hap, hup⟩ := h
  have hlt := World.ownsRow.lt hrow
  obtain ⟨hl, ⟨rfl, hn⟩ | ⟨b, cap, cur, rfl, hbb, hg, hnc, hcm, hcs, htk⟩⟩ := id hrow
  · exact ⟨none, 0, by rw [hn], by omega, fun h => by omega⟩
  · refine ⟨_, cap, rfl, hnc, fun _ => ?_⟩
    have hcell : ∀ j u, vs[j]? = some u → w.cell? ⟨b, j, none⟩ = some u := by
      intro j u hu
      have e : w.cell? ⟨b, j, none⟩ = cur[j]? := by simp [World.cell?, hg]
      rw [e]
      rw [← htk] at hu
      have hj := (List.getElem?_eq_some_iff.1 hu).1
      rw [List.getElem?_take] at hu
      split at hu
      · simpa using hu
      · cases hu
    have hex : ∀ j, ∃ q : Nat × Nat, j < LL.length → vs[j]? = some (.slice (some ⟨q.1, 0, none⟩) (LL.getD j []).length q.2) ∧ OwnD w B (.slice (some ⟨q.1, 0, none⟩) (LL.getD j []).length q.2) (LL.getD j []) := by
      intro j
      by_cases hj : j < LL.length
      · obtain ⟨u, hu, ho⟩ := hel j hj
        obtain ⟨g, c, e, -, -⟩ := ho.solid (hne j hj)
        subst e
        exact ⟨(g, c), fun _ => ⟨hu, ho⟩⟩
      · exact ⟨(0, 0), fun h => absurd h hj⟩
    obtain ⟨q, hq⟩ := Classical.axiomOfChoice hex
    refine ⟨b, fun j => (q j).1, fun j => (q j).2, rfl, ⟨(hlt b rfl).2, hbb, fun j hj => hcell j _ (hq j hj).1, fun j hj => (hq j hj).2, fun j k hj hk hjk e => ?_, fun j hj => hup j _ _ (hq j hj).1 rfl, fun j hj e => ?_⟩⟩
    · exact hap j k _ _ (q j).1 hjk (hq j hj).1 (hq k hk).1 rfl (by show some (q k).1 = some (q j).1; rw [show (q j).1 = (q k).1 from e])
    · have := rows_apart (hq j hj).2.row hrow (by decide)
      rcases this with h | h
      · cases h
      · exact h (by show some (q j).1 = some b; rw [show (q j).1 = b from e])
/-- rows to read -/
structure RowsRd (w : World) (B b : Nat) (LL : List (List (List UInt8))) (qa : Nat → Option Addr) (cc : Nat → Nat) : Prop where
  lt : b < w.heap.size
  base : B ≤ b
  cell : ∀ j, j < LL.length → w.cell? ⟨b, j, none⟩ = some (.slice (qa j) (LL.getD j []).length (cc j))
  rd : ∀ j, j < LL.length → RdD w (qa j) (LL.getD j []).length (cc j) (LL.getD j [])
  low : ∀ j, j < LL.length → ∀ ad, qa j = some ad → B ≤ ad.block
theorem OwnR.at {w : World} {B : Nat} {v : Value} {LL : List (List (List UInt8))} (h : OwnR w B v LL) :
    ∃ p c, v = .slice p LL.length c ∧ LL.length ≤ c ∧ (0 < LL.length → ∃ b qa cc, p = some ⟨b, 0, none⟩ ∧ RowsRd w B b LL qa cc) := by
  obtain ⟨vs, hrow, hel⟩ := h
  have hlt := World.ownsRow.lt hrow
  obtain ⟨hl, ⟨rfl, hn⟩ | ⟨b, cap, cur, rfl, hbb, hg, hnc, hcm, hcs, htk⟩⟩ := hrow
  · exact ⟨none, 0, by rw [hn], by omega, fun h => by omega⟩
  · refine ⟨_, cap, rfl, hnc, fun _ => ?_⟩
    have hcell : ∀ j u, vs[j]? = some u → w.cell? ⟨b, j, none⟩ = some u := by
      intro j u hu
      have e : w.cell? ⟨b, j, none⟩ = cur[j]? := by simp [World.cell?, hg]
      rw [e]
      rw [← htk] at hu
      rw [List.getElem?_take] at hu
      split at hu
      · simpa using hu
      · cases hu
    have hex : ∀ j, ∃ q : Option Addr × Nat, j < LL.length → vs[j]? = some (.slice q.1 (LL.getD j []).length q.2) ∧ RdD w q.1 (LL.getD j []).length q.2 (LL.getD j []) ∧ ∀ ad, q.1 = some ad → B ≤ ad.block := by
      intro j
      by_cases hj : j < LL.length
      · obtain ⟨u, hu, ho⟩ := hel j hj
        obtain ⟨a, c, e, hr⟩ := ho.rd
        have hl2 := World.ownsRow.lt ho.row
        subst e
        exact ⟨(a, c), fun _ => ⟨hu, hr, fun ad e => (hl2 ad.block (by rw [show a = some ad from e]; rfl)).1⟩⟩
      · exact ⟨(none, 0), fun h => absurd h hj⟩
    obtain ⟨q, hq⟩ := Classical.axiomOfChoice hex
    exact ⟨b, fun j => (q j).1, fun j => (q j).2, rfl, ⟨(hlt b rfl).2, hbb, fun j hj => hcell j _ (hq j hj).1, fun j hj => (hq j hj).2.1, fun j hj => (hq j hj).2.2⟩⟩

theorem xor_one (y : UInt8) : bits BinOp.xor IntKind.u8 ((y.toNat : Nat) : Int) 1 = (((y ^^^ 1).toNat : Nat) : Int) := by
  have h : ∀ n : Fin 256, bits BinOp.xor IntKind.u8 ((n.val : Nat) : Int) 1 = (((UInt8.ofNat n.val ^^^ 1).toNat : Nat) : Int) := by decide +kernel
  have := h ⟨y.toNat, y.toNat_lt⟩
  simpa using this
/-- a list with one hash's first byte turned -/
def flipL (M : List (List UInt8)) (k : Nat) : List (List UInt8) := M.set k ((M.getD k []).set 0 ((M.getD k []).getD 0 0 ^^^ 1))
theorem flipL_len (M : List (List UInt8)) (k : Nat) : (flipL M k).length = M.length := by simp [flipL]
theorem flipL_all {M : List (List UInt8)} (h : All32 M) (k : Nat) (hk : k < M.length) : All32 (flipL M k) := by
  intro j hj
  rw [flipL_len] at hj
  unfold flipL
  by_cases e : k = j
  · subst e
    have := h k hk
    simpa [List.getD, hk] using this
  · have := h j hj
    simpa [List.getD, List.getElem?_set, e] using this
theorem flip_dcs {M : List (List UInt8)} (h : All32 M) (k : Nat) (hk : k < M.length) : (dcs M).set (k * 32) (.int .u8 ((((M.getD k []).getD 0 0 ^^^ 1).toNat : Nat) : Int)) = dcs (flipL M k) := by
  apply List.ext_getElem?
  intro i
  have hl1 := dcs_len h
  have hl2 := dcs_len (flipL_all h k hk)
  rw [flipL_len] at hl2
  by_cases hi : i < M.length * 32
  · have ei : i / 32 * 32 + i % 32 = i := by omega
    have hj : i / 32 < M.length := by omega
    have h2 := dcs_get (flipL_all h k hk) (i / 32) (i % 32) (by rw [flipL_len]; exact hj) (Nat.mod_lt _ (by omega))
    have h1 := dcs_get h (i / 32) (i % 32) hj (Nat.mod_lt _ (by omega))
    rw [ei] at h1 h2
    rw [h2, List.getElem?_set]
    have h32 := h k hk
    by_cases e : k * 32 = i
    · have e1 : i / 32 = k := by omega
      have e2 : i % 32 = 0 := by omega
      rw [if_pos e, if_pos (by omega), e1, e2]
      congr 3
      unfold flipL
      have : 0 < (M.getD k []).length := by omega
      simp [List.getD, hk] at this ⊢
      simp [this]
    · rw [if_neg e, h1]
      congr 3
      unfold flipL
      by_cases e1 : k = i / 32
      · have e2 : i % 32 ≠ 0 := by omega
        subst e1
        simp [List.getD, hj, Ne.symm e2]
      · simp [List.getD, e1]
  · rw [List.getElem?_eq_none (by rw [List.length_set, hl1]; omega), List.getElem?_eq_none (by rw [hl2]; omega)]
theorem OwnD.flip {w : World} {B g n c : Nat} {M : List (List UInt8)} (h : OwnD w B (.slice (some ⟨g, 0, none⟩) n c) M) (k : Nat) (hk : k < M.length) :
    OwnD (w.setCell ⟨g, k * 32, none⟩ (.int .u8 ((((M.getD k []).getD 0 0 ^^^ 1).toNat : Nat) : Int))) B (.slice (some ⟨g, 0, none⟩) n c) (flipL M k) := by
  have hdl := dcs_len h.all
  refine ⟨?_, flipL_all h.all k hk⟩
  rw [flipL_len, ← flip_dcs h.all k hk]
  obtain ⟨h1, ⟨e, hn⟩ | ⟨g', cap, cur, e, hbb, hg, hnc, hcm, hcs, htk⟩⟩ := h.row
  · cases e
  · injection e with e e2 e3
    injection e with e
    injection e with e
    subst e e3
    refine ⟨by rw [List.length_set]; exact h1, .inr ⟨_, _, cur.setIfInBounds (k * 32) _, by rw [e2], hbb, heap_setCell_same w _ (k * 32) cur 48 _ hg, hnc, hcm, by simpa using hcs, ?_⟩⟩
    rw [Array.toList_setIfInBounds, List.take_set, htk]
theorem OwnD.cellAt {w : World} {B g n c : Nat} {M : List (List UInt8)} (h : OwnD w B (.slice (some ⟨g, 0, none⟩) n c) M) (k : Nat) (hk : k < n) :
    w.cell? ⟨g, k * 32, none⟩ = some (.int .u8 (((M.getD k []).getD 0 0).toNat : Int)) ∧ w.frozen? ⟨g, k * 32, none⟩ = false := by
  refine ⟨?_, ?_⟩
  · obtain ⟨b, off, e, -, hc⟩ := h.rdAt.mem (by omega)
    injection e with e
    injection e with e1 e2
    subst e1 e2
    have := hc k hk 0 (by omega)
    simpa using this
  · obtain ⟨h1, ⟨e, hn⟩ | ⟨g', cap, cur, e, hbb, hg, r⟩⟩ := h.row
    · cases e
    · injection e with e e2 e3
      injection e with e
      injection e with e
      subst e
      exact frozen_of_row w _ _ cur 48 hg
end Go.Proofs.YtfidajbenmgflaaDoor

namespace Go.Proofs.YtfidajbenmgflaaDoor
open Go.RowKit

section
variable {α : Type} {S : Nat} {enc : α → List Value}
/-- the elements' cells, one behind the other -/
def dcg (enc : α → List Value) (L : List α) : List Value := L.flatMap enc
/-- each element has S cells -/
def AllG (S : Nat) (enc : α → List Value) (L : List α) : Prop := ∀ x ∈ L, (enc x).length = S
theorem AllG.nil : AllG S enc ([] : List α) := fun x hx => by cases hx
theorem AllG.app {L M : List α} (h : AllG S enc L) (k : AllG S enc M) : AllG S enc (L ++ M) := fun x hx => (List.mem_append.1 hx).elim (h x) (k x)
theorem AllG.one {x : α} (h : (enc x).length = S) : AllG S enc [x] := fun y hy => by rw [List.mem_singleton.1 hy]; exact h
theorem AllG.take {L : List α} (h : AllG S enc L) (n : Nat) : AllG S enc (L.take n) := fun x hx => h x (List.mem_of_mem_take hx)
theorem AllG.drop {L : List α} (h : AllG S enc L) (n : Nat) : AllG S enc (L.drop n) := fun x hx => h x (List.mem_of_mem_drop hx)
theorem dcg_app (L M : List α) : dcg enc (L ++ M) = dcg enc L ++ dcg enc M := by simp [dcg]
theorem dcg_one (x : α) : dcg enc [x] = enc x := by simp [dcg]
theorem dcg_len {L : List α} (h : AllG S enc L) : (dcg enc L).length = L.length * S := by
  induction L with
  | nil => simp [dcg]
  | cons x L ih =>
    have h0 := h x (by simp)
    have := ih fun y hy => h y (by simp [hy])
    simp only [dcg, List.flatMap_cons, List.length_append, List.length_cons] at this ⊢
    rw [this, h0, Nat.add_mul]
    omega
theorem dcg_get {L : List α} : ∀ (_ : AllG S enc L) (k j : Nat) (hk : k < L.length), j < S → (dcg enc L)[k * S + j]? = (enc L[k])[j]? := by
  induction L with
  | nil => intro h k j hk; simp at hk
  | cons x L ih =>
    intro h k j hk hj
    have h0 := h x (by simp)
    have e : dcg enc (x :: L) = enc x ++ dcg enc L := by simp [dcg]
    rw [e]
    cases k with
    | zero => rw [Nat.zero_mul, Nat.zero_add, List.getElem?_append_left (by rw [h0]; exact hj)]; rfl
    | succ k =>
      have hk' : k < L.length := by simpa using hk
      rw [List.getElem?_append_right (by rw [h0, Nat.add_mul]; omega), h0, show (k + 1) * S + j - S = k * S + j by rw [Nat.add_mul]; omega]
      exact ih (fun y hy => h y (by simp [hy])) k j hk' hj
theorem dcg_set {L : List α} (h : AllG S enc L) (x : α) (hx : (enc x).length = S) (k : Nat) (hk : k < L.length) :
    (dcg enc L).take (k * S) ++ enc x ++ (dcg enc L).drop (k * S + (enc x).length) = dcg enc (L.set k x) := by
  have e0 : L = L.take k ++ L[k] :: L.drop (k + 1) := by simp
  have l1 : (dcg enc (L.take k)).length = k * S := by rw [dcg_len (h.take k), List.length_take]; congr 1; omega
  have l2 : (enc L[k]).length = S := h _ (List.getElem_mem hk)
  have e1 : dcg enc L = dcg enc (L.take k) ++ (enc L[k] ++ dcg enc (L.drop (k + 1))) := by
    conv => lhs; rw [e0]
    rw [dcg_app]
    exact congrArg _ (List.flatMap_cons ..)
  have e2 : L.set k x = L.take k ++ x :: L.drop (k + 1) := List.set_eq_take_append_cons_drop.trans (by rw [if_pos hk])
  rw [e2, dcg_app, show dcg enc (x :: L.drop (k + 1)) = enc x ++ dcg enc (L.drop (k + 1)) by simp [dcg], e1]
  rw [List.take_left' l1, List.drop_append, List.drop_of_length_le (by rw [l1]; omega), l1, show k * S + (enc x).length - k * S = S by rw [hx]; omega, List.drop_left' l2]
  simp
/-- the slice of n elements at a reads as L -/
structure RdG (S : Nat) (enc : α → List Value) (w : World) (a : Option Addr) (n cap : Nat) (L : List α) : Prop where
  len : L.length = n
  le : n ≤ cap
  all : AllG S enc L
  nil : a = none → cap = 0
  mem : 0 < n → ∃ b off, a = some ⟨b, off, none⟩ ∧ b < w.heap.size ∧ ∀ k (h : k < L.length) j v, (enc L[k])[j]? = some v → w.cell? ⟨b, off + k * S + j, none⟩ = some v
theorem RdG.void (w : World) : RdG S enc w none 0 0 [] := ⟨rfl, Nat.le_refl _, AllG.nil, fun _ => rfl, fun h => by omega⟩
theorem RdG.to {w w' : World} {a : Option Addr} {n cap : Nat} {L : List α} (h : RdG S enc w a n cap L) (hb : Below w.heap.size w w') : RdG S enc w' a n cap L := by
  refine ⟨h.len, h.le, h.all, h.nil, fun h0 => ?_⟩
  obtain ⟨b, off, e, hlt, hc⟩ := h.mem h0
  exact ⟨b, off, e, Nat.lt_of_lt_of_le hlt hb.size, fun k hk j v hv => (hb.cell (p := ⟨b, off + k * S + j, none⟩) hlt).trans (hc k hk j v hv)⟩
theorem RdG.kb {Z : Nat → Prop} {w w' : World} {a : Option Addr} {n cap : Nat} {L : List α} (h : RdG S enc w a n cap L) (hb : KB Z w w') (hs : ∀ ad, a = some ad → 0 < n → ¬ Z ad.block) : RdG S enc w' a n cap L := by
  refine ⟨h.len, h.le, h.all, h.nil, fun h0 => ?_⟩
  obtain ⟨b, off, e, hlt, hc⟩ := h.mem h0
  exact ⟨b, off, e, Nat.lt_of_lt_of_le hlt hb.size, fun k hk j v hv => (hb.cell (p := ⟨b, off + k * S + j, none⟩) hlt (hs ⟨b, off, none⟩ e h0)).trans (hc k hk j v hv)⟩
theorem RdG.cap {w : World} {b off n c c' : Nat} {L : List α} (h : RdG S enc w (some ⟨b, off, none⟩) n c L) (hc : n ≤ c') : RdG S enc w (some ⟨b, off, none⟩) n c' L :=
  ⟨h.len, hc, h.all, (by intro e; cases e), h.mem⟩
theorem RdG.take {w : World} {a : Option Addr} {n cap : Nat} {L : List α} (h : RdG S enc w a n cap L) (m : Nat) (hm : m ≤ n) : RdG S enc w a m cap (L.take m) := by
  have hl := h.len
  refine ⟨by simp; omega, by have := h.le; omega, h.all.take m, h.nil, fun h0 => ?_⟩
  obtain ⟨b, off, e, hlt, hc⟩ := h.mem (by omega)
  refine ⟨b, off, e, hlt, fun k hk j v hv => ?_⟩
  have hk' : k < L.length := by simp at hk; omega
  rw [List.getElem_take] at hv
  exact hc k hk' j v hv
theorem RdG.drop {w : World} {b off n cap : Nat} {L : List α} (h : RdG S enc w (some ⟨b, off, none⟩) n cap L) (m : Nat) (hm : m ≤ n) : RdG S enc w (some ⟨b, off + m * S, none⟩) (n - m) (cap - m) (L.drop m) := by
  have hl := h.len
  refine ⟨by simp; omega, by have := h.le; omega, h.all.drop m, (by intro e; cases e), fun h0 => ?_⟩
  obtain ⟨b', off', e, hlt, hc⟩ := h.mem (by omega)
  injection e with e
  injection e with e1 e2
  subst e1 e2
  refine ⟨_, _, rfl, hlt, fun k hk j v hv => ?_⟩
  have hk' : m + k < L.length := by simp at hk; omega
  rw [List.getElem_drop] at hv
  rw [show off + m * S + k * S + j = off + (m + k) * S + j by rw [Nat.add_mul]; omega]
  exact hc (m + k) hk' j v hv
theorem RdG.range {w : World} {b off n cap : Nat} {L : List α} (h : RdG S enc w (some ⟨b, off, none⟩) n cap L) (k : Nat) (hk : k < L.length) : w.rangeAt b (off + k * S) (enc L[k]) := by
  intro j v hv
  obtain ⟨b', off', e, hlt, hc⟩ := h.mem (by have := h.len; omega)
  injection e with e
  injection e with e1 e2
  subst e1 e2
  exact hc k hk j v hv
theorem RdG.cells {w : World} {ad : Addr} {n cap : Nat} {L : List α} (h : RdG S enc w (some ad) n cap L) (hS : 0 < S) : ∀ j u, (dcg enc L)[j]? = some u → w.cell? (ad.add j) = some u := by
  intro j u hu
  have hl := h.len
  have hj : j < L.length * S := by
    have := (List.getElem?_eq_some_iff.1 hu).1
    rw [dcg_len h.all] at this
    exact this
  have hk : j / S < L.length := by rw [Nat.div_lt_iff_lt_mul hS]; exact hj
  have hr : j % S < S := Nat.mod_lt _ hS
  have hj2 : j / S * S + j % S = j := by rw [Nat.mul_comm]; exact Nat.div_add_mod j S
  obtain ⟨b, off, e, -, hc⟩ := h.mem (by rw [← hl]; exact Nat.lt_of_le_of_lt (Nat.zero_le _) hk)
  injection e with e
  subst e
  have h3 := dcg_get h.all (j / S) (j % S) hk hr
  rw [hj2, hu] at h3
  have := hc (j / S) hk (j % S) u h3.symm
  rw [Nat.add_assoc, hj2] at this
  rw [Addr.add_lit]
  exact this
/-- a call's own row of elements -/
structure OwnG (T : TypeId) (S : Nat) (enc : α → List Value) (w : World) (B : Nat) (v : Value) (L : List α) : Prop where
  row : w.ownsRow B T S v L.length (dcg enc L)
  all : AllG S enc L
variable {T : TypeId}
theorem OwnG.nil (w : World) (B : Nat) : OwnG T S enc w B (.slice none 0 0) [] := ⟨World.ownsRow_nil w B T S, AllG.nil⟩
theorem OwnG.to {w w' : World} {B : Nat} {v : Value} {L : List α} (h : OwnG T S enc w B v L) (hb : Below w.heap.size w w') : OwnG T S enc w' B v L := by
  refine ⟨?_, h.all⟩
  have hlt := World.ownsRow.lt h.row
  obtain ⟨h1, ⟨rfl, hn⟩ | ⟨g, cap, cur, rfl, hbb, hg, r⟩⟩ := h.row
  · exact ⟨h1, .inl ⟨rfl, hn⟩⟩
  · exact ⟨h1, .inr ⟨g, cap, cur, rfl, hbb, by rw [hb.block g (hlt g rfl).2]; exact hg, r⟩⟩
theorem OwnG.base {w : World} {B B' : Nat} {v : Value} {L : List α} (h : OwnG T S enc w B v L) (hb : B' ≤ B) : OwnG T S enc w B' v L := by
  refine ⟨?_, h.all⟩
  obtain ⟨h1, h2 | ⟨g, cap, cur, rfl, hbb, r⟩⟩ := h.row
  · exact ⟨h1, .inl h2⟩
  · exact ⟨h1, .inr ⟨g, cap, cur, rfl, by omega, r⟩⟩
theorem OwnG.by {w w' : World} {B : Nat} {v : Value} {L : List α} {row : Option Nat} (h : OwnG T S enc w B v L) (hg : w.grownBy w' row) (hne : v.ownBlock = none ∨ v.ownBlock ≠ row) : OwnG T S enc w' B v L := ⟨h.row.kept hg hne, h.all⟩
theorem OwnG.kb {Z : Nat → Prop} {w w' : World} {B : Nat} {v : Value} {L : List α} (h : OwnG T S enc w B v L) (hb : KB Z w w') (hs : ∀ g, v.ownBlock = some g → ¬ Z g) : OwnG T S enc w' B v L := by
  refine ⟨?_, h.all⟩
  have hlt := World.ownsRow.lt h.row
  obtain ⟨h1, ⟨rfl, hn⟩ | ⟨g, cap, cur, rfl, hbb, hg, r⟩⟩ := h.row
  · exact ⟨h1, .inl ⟨rfl, hn⟩⟩
  · exact ⟨h1, .inr ⟨g, cap, cur, rfl, hbb, by rw [hb.block g (hlt g rfl).2 (hs g rfl)]; exact hg, r⟩⟩
theorem OwnG.solid {w : World} {B : Nat} {v : Value} {L : List α} (h : OwnG T S enc w B v L) (h0 : 0 < L.length) : ∃ g c, v = .slice (some ⟨g, 0, none⟩) L.length c ∧ B ≤ g ∧ g < w.heap.size := by
  have hlt := World.ownsRow.lt h.row
  obtain ⟨h1, ⟨e, hn⟩ | ⟨g, cap, cur, e, hbb, hg, r⟩⟩ := h.row
  · omega
  · exact ⟨g, cap, e, (hlt g (by rw [e]; rfl)).1, (hlt g (by rw [e]; rfl)).2⟩
theorem OwnG.rd {w : World} {B : Nat} {v : Value} {L : List α} (h : OwnG T S enc w B v L) (_ : 0 < S) : ∃ a cap, v = .slice a L.length cap ∧ RdG S enc w a L.length cap L ∧ ∀ ad, a = some ad → B ≤ ad.block ∧ ad.block < w.heap.size := by
  have hlt := World.ownsRow.lt h.row
  obtain ⟨h1, ⟨rfl, hn⟩ | ⟨g, cap, cur, rfl, hb, hg, hn, hc, hs, ht⟩⟩ := h.row
  · exact ⟨none, 0, by rw [hn], ⟨rfl, by omega, h.all, fun _ => rfl, fun h => by omega⟩, fun ad e => by cases e⟩
  · refine ⟨some ⟨g, 0, none⟩, cap, rfl, ⟨rfl, hn, h.all, (by intro e; cases e), fun h0 => ⟨g, 0, rfl, (hlt g rfl).2, fun k hk j v hv => ?_⟩⟩, fun ad e => ?_⟩
    · have hj : j < S := by
        have := (List.getElem?_eq_some_iff.1 hv).1
        rw [h.all _ (List.getElem_mem hk)] at this
        exact this
      have h3 := dcg_get h.all k j hk hj
      rw [hv, ← ht] at h3
      have hlt2 := (List.getElem?_eq_some_iff.1 h3).1
      rw [List.getElem?_take] at h3
      split at h3
      · have e : w.cell? ⟨g, 0 + k * S + j, none⟩ = cur[0 + k * S + j]? := by simp [World.cell?, hg]
        rw [e, Nat.zero_add]
        simpa using h3
      · cases h3
    · injection e with e
      rw [← e]
      exact hlt g rfl
theorem OwnG.made {w : World} {B g cap : Nat} {L : List α} (h : Arr w g T (dcg enc L)) (hL : L.length = cap) (ha : AllG S enc L) (hB : B ≤ g) (hc : cap ≤ maxLen) : OwnG T S enc w B (.slice (some ⟨g, 0, none⟩) cap cap) L := by
  refine ⟨⟨dcg_len ha, .inr ⟨g, cap, _, by rw [hL], hB, h, by omega, hc, by simp [dcg_len ha, hL], ?_⟩⟩, ha⟩
  rw [List.take_of_length_le (by simp [dcg_len ha])]
theorem rdg_arr {w : World} {g : Nat} {L : List α} (h : Arr w g T (dcg enc L)) (ha : AllG S enc L) : RdG S enc w (some ⟨g, 0, none⟩) L.length L.length L :=
  ⟨rfl, Nat.le_refl _, ha, (by intro e; cases e), fun _ => ⟨g, 0, rfl, h.lt, fun k hk j v hv => by
    have hj : j < S := by
      have := (List.getElem?_eq_some_iff.1 hv).1
      rw [ha _ (List.getElem_mem hk)] at this
      exact this
    rw [Nat.zero_add, h.cell, dcg_get ha k j hk hj]
    exact hv⟩⟩

/-- what is known of an element's type and of its slice's -/
structure InfoG (P : Program) (SL T : TypeId) (S bytes : Nat) (z : Value) : Prop where
  sl : P.underlying SL = some (.slice T)
  info : (P.info? T).map (fun i => (i.zero, i.size, i.bytes)) = some (some z, S, bytes)
  cells : z.cells.size = S
  pos : 0 < S
variable {P : Program} {SL : TypeId} {by_ : Nat} {z : Value} {ops : Array Oper} {rest : List Oper} {o : Oper} {a : Act} {Q : Exit → Act → World → Prop} {w : World}
/-- append(row, rows...) -/
theorem wl_rowG (ig : InfoG P SL T S by_ z) (hgd : o.guard = none) (d s : Operand) (ho : o.op = .call { callee := .builtin .append, args := #[d, s], argTypes := #[SL, SL] })
    (B : Nat) (v : Value) (M : List α) (hd : a.eval d = v) (hown : OwnG T S enc w B v M) (sp : Option Addr) (sLen sCap : Nat) (L : List α) (hs : a.eval s = .slice sp sLen sCap)
    (hrd : RdG S enc w sp sLen sCap L) (h1c : ∀ x ∈ L, ∀ u ∈ enc x, u.oneCell' = true) (hmx : M.length + sLen ≤ maxLen) (hlen : ((M.length + sLen) + (M.length + sLen) / 4 + 192) * by_ ≤ 281474976710656) (hB : B ≤ w.heap.size)
    (hK : ∀ v' w', OwnG T S enc w' B v' (M ++ L) → w.grownBy w' v.ownBlock → Below B w w' → wpList P ops Q rest (a.put o.dst v') w') : wpList P ops Q (o :: rest) a w := by
  obtain ⟨i0, hi, hz0, hz1, hz2⟩ := info_parts ig.info
  have hl := hrd.len
  cases sp with
  | none =>
    have h0 : sCap = 0 := hrd.nil rfl
    have h1 : sLen = 0 := by have := hrd.le; omega
    subst h0 h1
    have hx : L = [] := List.eq_nil_of_length_eq_zero hl
    subst hx
    refine wpList_append_own_none hgd d s SL ho B T i0 S ig.sl hi v _ _ hd hown.row hs ?_
    exact hK v w (by simpa using hown) (World.grownBy.refl _ _) (Below.refl _ _)
  | some ad =>
    refine wpList_append_own_wide w hgd d s SL ho B T i0 _ S by_ ig.sl hi hz0 hz1 hz2 ig.cells ig.pos v _ _ hd hown.row ad sLen sCap (dcg enc L) hs (by rw [dcg_len hrd.all, hl])
      (hrd.cells ig.pos) (fun u hu => ?_) hmx hlen hB ?_
    · simp only [dcg, List.mem_flatMap] at hu
      obtain ⟨x, hx, hu⟩ := hu
      exact h1c x hx u hu
    intro v' w' h1 h2 _
    refine hK v' w' ⟨?_, hown.all.app hrd.all⟩ h2 ((Below.refl _ _).grown h2 hB fun k hk => (World.ownsRow.lt hown.row k hk).1)
    rw [dcg_app, List.length_append, hl]
    exact h1
/-- append(row, element) -/
theorem wl_appendG1 (ig : InfoG P SL T S by_ z) (hgd : o.guard = none) (d s : Operand) (ho : o.op = .call { callee := .builtin .append, args := #[d, s], argTypes := #[SL, SL] })
    (B : Nat) (v : Value) (M : List α) (hd : a.eval d = v) (hown : OwnG T S enc w B v M) (g : Nat) (x : α) (hs : a.eval s = .slice (some ⟨g, 0, none⟩) 1 1)
    (hA : Arr w g T (enc x)) (hx : (enc x).length = S) (h1c : ∀ u ∈ enc x, u.oneCell' = true) (hmx : M.length + 1 ≤ maxLen) (hlen : ((M.length + 1) + (M.length + 1) / 4 + 192) * by_ ≤ 281474976710656) (hB : B ≤ w.heap.size)
    (hK : ∀ v' w', OwnG T S enc w' B v' (M ++ [x]) → w.grownBy w' v.ownBlock → Below B w w' → wpList P ops Q rest (a.put o.dst v') w') : wpList P ops Q (o :: rest) a w := by
  have hr : RdG S enc w (some ⟨g, 0, none⟩) 1 1 [x] := rdg_arr (T := T) (by rw [dcg_one]; exact hA) (AllG.one hx)
  exact wl_rowG ig hgd d s ho B v M hd hown _ 1 1 [x] hs hr (fun y hy u hu => by rw [List.mem_singleton.1 hy] at hu; exact h1c u hu) hmx hlen hB hK
/-- a row of one element, written out -/
theorem wl_litG1 (ig : InfoG P SL T S by_ z) (hg : o.guard = none) (i : Nat) (ho : o.op = .buildSlice SL 1 #[(0, .tmp i)]) (x : α) (hx : (enc x).length = S) (hsm : S ≤ 2 ^ 24) (u : Value) (hu : u.cells.toList = enc x) (hev : a.eval (.tmp i) = u)
    (hK : ∀ w', Arr w' w.heap.size T (enc x) → Below w.heap.size w w' → w.heap.size < w'.heap.size → wpList P ops Q rest (a.put o.dst (.slice (some ⟨w.heap.size, 0, none⟩) 1 1)) w') : wpList P ops Q (o :: rest) a w := by
  obtain ⟨i0, hi, hz0, hz1, hz2⟩ := info_parts ig.info
  have hsz : u.cells.size = S := by rw [← Array.length_toList, hu, hx]
  refine Great.wpList_buildRows hg SL T #[(0, .tmp i)] S [u] ho (fun _ => i) _ rfl _ rfl ig.sl (by rw [hi]; simp [hz1]) (by rw [hi]; simp [hz0]) ig.pos (by simp) (by simpa using hsm) rfl ?_ ?_ ?_
  · intro v hv
    rw [List.mem_singleton.1 hv]
    exact hsz
  · intro j hj
    have : j = 0 := by simpa using hj
    subst this
    exact hev
  · refine hK _ ?_ ((Below.refl _ _).alloc (Nat.le_refl _) _) (by simp)
    have e : ((([u] : List Value).flatMap fun v => v.cells.toList).toArray) = (enc x).toArray := by simp [hu]
    rw [e]
    exact Arr.new _ _ _
end
end Go.Proofs.YtfidajbenmgflaaDoor
