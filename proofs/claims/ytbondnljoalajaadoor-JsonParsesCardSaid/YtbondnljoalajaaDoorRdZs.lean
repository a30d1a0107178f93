/-
  Layer 4: the document's reader: values: plain lemmas. Conditions: those in each statement.
-/
import Derived.Test.YtbondnljoalajaaDoorRdXs
import Derived.Test.YtbondnljoalajaaDoorRdV
import Derived.Test.YtbondnljoalajaaDoorRdY
import Derived.Test.YtbondnljoalajaaDoorJzD
namespace Go.Proofs.YtbondnljoalajaaDoor
open Go.RowKit

theorem infoV5 : (Tryd.prog.info? 26).map (fun i => (i.zero, i.size)) = some (some (.agg zC.toArray), 5) := by kernel_rfl
theorem sizeV5 : (Tryd.prog.info? 26).map (·.size) = some 5 := by kernel_rfl
theorem builtV0 : Tryd.prog.built 26 [] = some zC.toArray := by kernel_rfl
theorem gb_of_below {w w1 : World} {R : Nat} (h : Below w.heap.size w w1) : w.grownBy w1 (some R) := ⟨h.os, h.tape, h.output, h.size, fun i hi _ => h.block i hi⟩
/-- a block of the call's own was turned -/
theorem gb_above {w W W' : World} {R g : Nat} (h : w.grownBy W (some R)) (hg : W.grownBy W' (some g)) (hB : w.heap.size ≤ g) : w.grownBy W' (some R) :=
  ⟨hg.os.trans h.os, hg.tape.trans h.tape, hg.output.trans h.output, Nat.le_trans h.size hg.size, fun i hi hr => (hg.block i (Nat.lt_of_lt_of_le hi h.size) (fun e => by injection e with e; omega)).trans (h.block i hi hr)⟩
theorem RefAt.past {w w' : World} {R g : Nat} {bs : List UInt8} {a : Option Addr} {c k : Nat} {bad : Bool} (h : RefAt w R bs a c k bad) (hg : w.grownBy w' (some g)) (hne : R < g) : RefAt w' R bs a c k bad := by
  refine ⟨h.arr.grown hg (by intro e; injection e with e; omega), ⟨h.text.le, h.text.big, fun h0 => ?_⟩, h.at_⟩
  obtain ⟨b, off, e, k1, k2, k3⟩ := h.text.mem h0
  exact ⟨b, off, e, k1, Nat.lt_of_lt_of_le k2 hg.size, fun j hj => (World.cell?_of_block (a := ⟨b, off + j, none⟩) (hg.block b k2 (fun e => by injection e with e; omega))).trans (k3 j hj)⟩
/-- what is so behind a value -/
def ValP (R : Nat) (bs : List UInt8) (a : Option Addr) (c k : Nat) (bad : Bool) (most : Nat) (w : World) (e : Ending) (w' : World) : Prop :=
  w.grownBy w' (some R) ∧ ∃ v cs k' bad', e = .returned (.agg (List.toArray cs)) ∧ k ≤ k' ∧ RefAt w' R bs a c k' bad' ∧ SV (fun x => w.heap.size ≤ x) w' v cs ∧
    (∀ x r, bad = false → valF most (bs.drop k) = some (x, r) → v = x ∧ bad' = false ∧ bs.drop k' = r) ∧ (bad = true → bad' = true) ∧ (valF most (bs.drop k) = none → bad' = true)
/-- what is so when a value is about to be handed over -/
structure ValE (R : Nat) (bs : List UInt8) (a : Option Addr) (c k : Nat) (most : Nat) (w : World) (g5 : Nat) (v : JV) (cs : List Value) (q : Nat) (bad : Bool) (W : World) : Prop where
  gb : w.grownBy W (some R)
  res : Arr W w.heap.size 26 zC
  out : Arr W g5 26 cs
  ne : w.heap.size < g5
  ref : RefAt W R bs a c q bad
  le : k ≤ q
  sv : SV (fun x => w.heap.size < x ∧ x < W.heap.size ∧ x ≠ g5) W v cs
  ok : ∀ x r, valF most (bs.drop k) = some (x, r) → v = x ∧ bad = false ∧ bs.drop q = r
  no : valF most (bs.drop k) = none → bad = true
theorem ValE.fin {R : Nat} {bs : List UInt8} {a : Option Addr} {c k : Nat} {most : Nat} {w : World} {g5 : Nat} {v : JV} {cs : List Value} {q : Nat} {bad : Bool} {W W' : World} (h : ValE R bs a c k most w g5 v cs q bad W) (hR : R < w.heap.size)
    (hg : W.grownBy W' (some w.heap.size)) : ValP R bs a c k false most w (.returned (.agg (List.toArray cs))) W' :=
  ⟨gb_above h.gb hg (Nat.le_refl _), v, cs, q, bad, rfl, h.le, h.ref.past hg hR, sv_to (fun x hx _ => by omega) (Stay.of_grown hg (fun x hx hS => by cases hx; omega)) _ _ h.sv, fun x r _ he => h.ok x r he, (fun e => by cases e), h.no⟩
theorem sv_plain {S : Nat → Prop} {w : World} {k : Int} {s : List UInt8} {n : Nat} (hk : -9223372036854775808 ≤ k ∧ k ≤ 9223372036854775807 ∧ n < 18446744073709551616) : SV S w (.mk k s n [] []) [.int .i64 k, .string (bstr s), .int .u64 (n : Int), .slice none 0 0, .slice none 0 0] := by
  unfold SV
  exact ⟨none, 0, none, 0, rfl, hk, ⟨⟨by simp, by simp, fun _ => rfl, fun h => by simp at h⟩, fun h => by simp at h⟩, ⟨by simp, by simp⟩, fun _ => rfl, fun h => by simp at h⟩
theorem sign_kinds (x : UInt8) : x = 110 ∨ x = 102 ∨ x = 116 ∨ x = 34 ∨ x = 91 ∨ x = 123 ∨ (x ≠ 110 ∧ x ≠ 102 ∧ x ≠ 116 ∧ x ≠ 34 ∧ x ≠ 91 ∧ x ≠ 123) := by
  by_cases h1 : x = 110
  · exact .inl h1
  by_cases h2 : x = 102
  · exact .inr (.inl h2)
  by_cases h3 : x = 116
  · exact .inr (.inr (.inl h3))
  by_cases h4 : x = 34
  · exact .inr (.inr (.inr (.inl h4)))
  by_cases h5 : x = 91
  · exact .inr (.inr (.inr (.inr (.inl h5))))
  by_cases h6 : x = 123
  · exact .inr (.inr (.inr (.inr (.inr (.inl h6)))))
  exact .inr (.inr (.inr (.inr (.inr (.inr ⟨h1, h2, h3, h4, h5, h6⟩)))))

theorem RefAt.tch {w w' : World} {R : Nat} {bs : List UInt8} {a : Option Addr} {c k : Nat} {bad : Bool} {bl : List Nat} (h : RefAt w R bs a c k bad) (hg : Tch w w' bl) (hne : ∀ x ∈ bl, R < x) : RefAt w' R bs a c k bad := by
  refine ⟨hg.arr h.arr (fun e => by have := hne R e; omega), ⟨h.text.le, h.text.big, fun h0 => ?_⟩, h.at_⟩
  obtain ⟨b, off, e, k1, k2, k3⟩ := h.text.mem h0
  exact ⟨b, off, e, k1, Nat.lt_of_lt_of_le k2 hg.size, fun j hj => (World.cell?_of_block (a := ⟨b, off + j, none⟩) (hg.block b k2 (fun e => by have := hne b e; omega))).trans (k3 j hj)⟩
/-- append of one text, as one operation -/
theorem ow_append_K {o : Oper} {a : Act} {K : Act → World → Prop} {Q : Exit → Act → World → Prop} {w : World} (d s : Operand) (ho : o.op = .call { callee := .builtin .append, args := #[d, s], argTypes := #[24, 24] })
    (B : Nat) (v : Value) (ks : List (List UInt8)) (hown : w.ownsRow B 9 1 v ks.length (ks.map fun k => Value.string (bstr k))) (hd : a.eval d = v) (g1 : Nat) (t : List UInt8) (hs : a.eval s = .slice (some ⟨g1, 0, none⟩) 1 1)
    (hA : w.cell? ⟨g1, 0, none⟩ = some (.string (bstr t))) (hlen : ks.length + 1 ≤ 1073741824) (hB : B ≤ w.heap.size)
    (hK : ∀ v' w', w'.ownsRow B 9 1 v' (ks ++ [t]).length ((ks ++ [t]).map fun k => Value.string (bstr k)) → Tch w w' v.ownBlock.toList → (∀ k, v'.ownBlock = some k → v.ownBlock = some k ∨ w.heap.size ≤ k) → K (a.put o.dst v') w') : Oper.wp Tryd.prog o a w K Q := by
  obtain ⟨i0, hi, hz0, hz1, hz2⟩ := info_parts (show (Tryd.prog.info? 9).map (fun i => (i.zero, i.size, i.bytes)) = some (some (.string ⟨#[]⟩), 1, 16) by kernel_rfl)
  have hc : ∀ j u, [Value.string (bstr t)][j]? = some u → w.cell? ((⟨g1, 0, none⟩ : Addr).add j) = some u := fun j u hj => by
    match j, hj with
    | 0, hj => cases hj; rw [Addr.add_lit]; exact hA
    | j + 1, hj => simp at hj
  have hone : ∀ u ∈ [Value.string (bstr t)], u.oneCell' = true := fun u hu => by rw [List.mem_singleton] at hu; subst hu; rfl
  have hK2 : ∀ v' w', w'.ownsRow B 9 1 v' (ks.length + 1) ((ks.map fun k => Value.string (bstr k)) ++ [Value.string (bstr t)]) → Tch w w' v.ownBlock.toList → (∀ k, v'.ownBlock = some k → v.ownBlock = some k ∨ w.heap.size ≤ k) → K (a.put o.dst v') w' := fun v' w' h1 h2 h3 => hK v' w' (by rw [List.length_append, List.map_append]; exact h1) h2 h3
  clear hK
  generalize (ks.map fun k => Value.string (bstr k)) = xs at *
  generalize ks.length = n at *
  rcases hown.2 with ⟨hv, hn⟩ | ⟨g, cap, cur, hv, hg, hcc, hcap, hm, hcs2, hct⟩
  · subst hv
    subst hn
    have hxs : xs = [] := List.eq_nil_of_length_eq_zero (by have := hown.1; simpa using this)
    subst hxs
    refine wp_append_own w d s 24 ho w.heap.size 9 i0 _ 1 16 Tryd.underlying24 hi hz0 hz1 hz2 rfl (by decide) _ 0 [] hd (World.ownsRow_nil w _ _ _) ⟨g1, 0, none⟩ 1 1 [.string (bstr t)] hs rfl hc hone (by unfold maxLen; omega) (by omega) (Nat.le_refl _) ?_
    intro v' w' h2 h3 _
    exact hK2 v' w' (row_base h2 hB) (Tch.of_grown h3) (fun k hk => .inr (World.ownsRow.lt h2 k hk).1)
  · by_cases hr : n + 1 ≤ cap
    · subst hv
      obtain ⟨w', hrun, r1, r2⟩ := run_append_fits (P := Tryd.prog) w B 24 o.type 9 i0 1 Tryd.underlying24 hi hz1 g n cap xs hown ⟨g1, 0, none⟩ 1 1 [.string (bstr t)] rfl hc hone hr
      unfold Oper.wp
      simp [execOp, ho, resolve, invoke, builtin, hd, hs, hrun, Result.andThen]
      exact hK2 _ _ r1 (Tch.of_grown r2) (fun k hk => .inl hk)
    · have hold : ∀ j u, xs[j]? = some u → w.cell? ((⟨g, 0, none⟩ : Addr).add j) = some u := fun j u hj => World.ownsRow.cells hown (g := g) (by rw [hv]; rfl) j u hj
      obtain ⟨v', w', hrun, r1, r2⟩ := run_append_arg_grows (P := Tryd.prog) (w := w) 24 o.type 9 i0 _ 1 16 Tryd.underlying24 hi hz0 hz1 hz2 rfl (by decide) ⟨g, 0, none⟩ n cap xs hown.1 hold ⟨g1, 0, none⟩ 1 1 [.string (bstr t)] rfl hc (by omega) (by unfold maxLen; omega) (by omega)
      unfold Oper.wp
      simp [execOp, ho, resolve, invoke, builtin, hd, hs, hv, hrun, Result.andThen]
      exact hK2 _ _ (row_base r1 hB) ((Tch.of_grown r2).mono (by simp)) (fun k hk => .inr (World.ownsRow.lt r1 k hk).1)

/-- a list or an object that is being read: its memory -/
structure LsM (R : Nat) (bs : List UInt8) (a : Option Addr) (c k : Nat) (w : World) (g5 kd : Nat) (l : List JV) (ks : List (List UInt8)) (q : Nat) (bad : Bool) (lv kv : Value) (xs : List Value) (W : World) : Prop where
  gb : w.grownBy W (some R)
  res : Arr W w.heap.size 26 zC
  out : Arr W g5 26 [.int .i64 (kd : Int), .string ⟨#[]⟩, .int .u64 0, lv, kv]
  row : W.ownsRow (g5 + 1) 26 5 lv l.length xs
  keys : W.ownsRow (g5 + 1) 9 1 kv ks.length (ks.map fun k => Value.string (bstr k))
  sep : ∀ x, lv.ownBlock = some x → kv.ownBlock ≠ some x
  ref : RefAt W R bs a c q bad
  le : k ≤ q
  ne : w.heap.size < g5
  lt : g5 < W.heap.size
  sv : ∀ i v, l[i]? = some v → SV (fun x => g5 < x ∧ x < W.heap.size ∧ lv.ownBlock ≠ some x ∧ kv.ownBlock ≠ some x) W v (cell5 xs i)
section
variable {R : Nat} {bs : List UInt8} {a : Option Addr} {c k : Nat} {w : World} {g5 kd : Nat} {l : List JV} {ks : List (List UInt8)} {q : Nat} {bad : Bool} {lv kv : Value} {xs : List Value} {W : World}
theorem LsM.past (h : LsM R bs a c k w g5 kd l ks q bad lv kv xs W) (hR : R < w.heap.size) {W' : World} {q' : Nat} {bad' : Bool} (hg : W.grownBy W' (some R)) (hr : RefAt W' R bs a c q' bad') (hq : q ≤ q') : LsM R bs a c k w g5 kd l ks q' bad' lv kv xs W' := by
  have hne := h.ne
  have hl := fun x => World.ownsRow.lt h.row x
  have hk := fun x => World.ownsRow.lt h.keys x
  have ht : Tch W W' [R] := by have := Tch.of_grown hg; simpa using this
  exact ⟨gb_trans h.gb hg, h.res.grown hg (by intro e; injection e with e; omega), h.out.grown hg (by intro e; injection e with e; omega), ht.row h.row (fun x hx e => by have := (hl x hx).1; simp at e; omega), ht.row h.keys (fun x hx e => by have := (hk x hx).1; simp at e; omega), h.sep, hr, Nat.le_trans h.le hq, hne, Nat.lt_of_lt_of_le h.lt hg.size,
    fun i v hi => sv_to (fun x hx hl => ⟨hx.1, Nat.lt_of_lt_of_le hx.2.1 hg.size, hx.2.2⟩) (ht.stay (fun x hx hS => by simp at hx; have := hS.1; omega)) _ _ (h.sv i v hi)⟩
theorem LsM.addL (h : LsM R bs a c k w g5 kd l ks q bad lv kv xs W) (hR : R < w.heap.size) {W' : World} {q' : Nat} {bad' : Bool} {lv' : Value} {cells : List Value} {v' : JV} (ht : Tch W W' (R :: g5 :: lv.ownBlock.toList)) (ho : Arr W' g5 26 [.int .i64 (kd : Int), .string ⟨#[]⟩, .int .u64 0, lv', kv])
    (hrow : W'.ownsRow (g5 + 1) 26 5 lv' (l.length + 1) (xs ++ cells)) (hX : ∀ x, lv'.ownBlock = some x → lv.ownBlock = some x ∨ W.heap.size ≤ x) (hr : RefAt W' R bs a c q' bad') (hq : q ≤ q')
    (hsv : SV (fun x => W.heap.size ≤ x ∧ x < W'.heap.size ∧ lv'.ownBlock ≠ some x) W' v' cells) : LsM R bs a c k w g5 kd (l ++ [v']) ks q' bad' lv' kv (xs ++ cells) W' := by
  have hne := h.ne
  have hlt := h.lt
  have hl := fun x => World.ownsRow.lt h.row x
  have hk := fun x => World.ownsRow.lt h.keys x
  have hxl : xs.length = l.length * 5 := h.row.1
  have hc5 := sv_len hsv
  refine ⟨Tch.after h.gb ht (fun x hx => ?_), ht.arr h.res (fun e => ?_), ho, by rw [List.length_append]; exact hrow, ht.row h.keys (fun x hx e => ?_), fun x hx hx2 => ?_, hr, Nat.le_trans h.le hq, hne, Nat.lt_of_lt_of_le hlt ht.size, fun i v hi => ?_⟩
  · simp only [List.mem_cons, Option.mem_toList] at hx
    rcases hx with rfl | rfl | hx
    · exact .inl rfl
    · exact .inr (by omega)
    · exact .inr (by have := (hl x hx).1; omega)
  · simp only [List.mem_cons, Option.mem_toList] at e
    rcases e with e | e | e
    · omega
    · omega
    · have := (hl _ e).1; omega
  · simp only [List.mem_cons, Option.mem_toList] at e
    rcases e with e | e | e
    · have := (hk x hx).1; omega
    · have := (hk x hx).1; omega
    · exact h.sep x e hx
  · rcases hX x hx with e | e
    · exact h.sep x e hx2
    · have := (hk x hx2).2; omega
  · by_cases hil : i < l.length
    · rw [cell5_old hxl hil]
      rw [List.getElem?_append_left hil] at hi
      refine sv_to (fun x hx hxl => ⟨hx.1, Nat.lt_of_lt_of_le hx.2.1 ht.size, fun e => by rcases hX x e with e | e; exact hx.2.2.1 e; have := hx.2.1; omega, hx.2.2.2⟩) (ht.stay (fun x hx hS => ?_)) _ _ (h.sv i v hi)
      · simp only [List.mem_cons, Option.mem_toList] at hx
        rcases hx with rfl | rfl | hx
        · have := hS.1; omega
        · have := hS.1; omega
        · exact hS.2.2.1 hx
    · have hie : i = l.length := by have := (List.getElem?_eq_some_iff.1 hi).1; rw [List.length_append, List.length_singleton] at this; omega
      subst hie
      rw [cell5_new hxl hc5]
      rw [List.getElem?_append_right (Nat.le_refl _), Nat.sub_self] at hi
      cases hi
      exact sv_to (fun x hx hxl => ⟨by omega, hx.2.1, hx.2.2, fun e => by have := (hk x e).2; omega⟩) (fun _ _ _ => rfl) _ _ hsv
theorem LsM.addK (h : LsM R bs a c k w g5 kd l ks q bad lv kv xs W) (hR : R < w.heap.size) {W' : World} {q' : Nat} {bad' : Bool} {kv' : Value} {s : List UInt8} (ht : Tch W W' (R :: g5 :: kv.ownBlock.toList)) (ho : Arr W' g5 26 [.int .i64 (kd : Int), .string ⟨#[]⟩, .int .u64 0, lv, kv'])
    (hrow : W'.ownsRow (g5 + 1) 9 1 kv' (ks ++ [s]).length ((ks ++ [s]).map fun k => Value.string (bstr k))) (hX : ∀ x, kv'.ownBlock = some x → kv.ownBlock = some x ∨ W.heap.size ≤ x) (hr : RefAt W' R bs a c q' bad') (hq : q ≤ q') : LsM R bs a c k w g5 kd l (ks ++ [s]) q' bad' lv kv' xs W' := by
  have hne := h.ne
  have hlt := h.lt
  have hl := fun x => World.ownsRow.lt h.row x
  have hk := fun x => World.ownsRow.lt h.keys x
  refine ⟨Tch.after h.gb ht (fun x hx => ?_), ht.arr h.res (fun e => ?_), ho, ht.row h.row (fun x hx e => ?_), hrow, fun x hx hx2 => ?_, hr, Nat.le_trans h.le hq, hne, Nat.lt_of_lt_of_le hlt ht.size, fun i v hi => ?_⟩
  · simp only [List.mem_cons, Option.mem_toList] at hx
    rcases hx with rfl | rfl | hx
    · exact .inl rfl
    · exact .inr (by omega)
    · exact .inr (by have := (hk x hx).1; omega)
  · simp only [List.mem_cons, Option.mem_toList] at e
    rcases e with e | e | e
    · omega
    · omega
    · have := (hk _ e).1; omega
  · simp only [List.mem_cons, Option.mem_toList] at e
    rcases e with e | e | e
    · have := (hl x hx).1; omega
    · have := (hl x hx).1; omega
    · exact h.sep x hx e
  · rcases hX x hx2 with e | e
    · exact h.sep x hx e
    · have := (hl x hx).2; omega
  · refine sv_to (fun x hx hxl => ⟨hx.1, Nat.lt_of_lt_of_le hx.2.1 ht.size, hx.2.2.1, fun e => by rcases hX x e with e | e; exact hx.2.2.2 e; have := hx.2.1; omega⟩) (ht.stay (fun x hx hS => ?_)) _ _ (h.sv i v hi)
    · simp only [List.mem_cons, Option.mem_toList] at hx
      rcases hx with rfl | rfl | hx
      · have := hS.1; omega
      · have := hS.1; omega
      · exact hS.2.2.2 hx
theorem LsM.fin (h : LsM R bs a c k w g5 kd l ks q bad lv kv xs W) {most : Nat} (hkd : kd ≤ 6) (hres : (bad = true ∧ valF most (bs.drop k) = none) ∨ (bad = false ∧ valF most (bs.drop k) = some (JV.mk (kd : Int) [] 0 l ks, bs.drop q))) : ValE R bs a c k most w g5 (JV.mk (kd : Int) [] 0 l ks) [.int .i64 (kd : Int), .string ⟨#[]⟩, .int .u64 0, lv, kv] q bad W := by
  have hne := h.ne
  have hl := fun x => World.ownsRow.lt h.row x
  have hk := fun x => World.ownsRow.lt h.keys x
  refine ⟨h.gb, h.res, h.out, h.ne, h.ref, h.le, ?_, fun x r he => ?_, fun he => ?_⟩
  · exact sv_rows (D := fun x => g5 < x ∧ x < W.heap.size ∧ lv.ownBlock ≠ some x ∧ kv.ownBlock ≠ some x) (s := []) (n := 0) ⟨by omega, by omega, by decide⟩ (row_sstr h.keys (fun x hx => by have := hk x hx; omega)) h.row h.sv (fun x hx => by omega) (fun x hx => by have := hl x hx; omega)
  · rcases hres with ⟨_, e⟩ | ⟨e1, e⟩
    · rw [e] at he; cases he
    · rw [e] at he; cases he; exact ⟨rfl, e1, rfl⟩
  · rcases hres with ⟨e, _⟩ | ⟨_, e⟩
    · exact e
    · rw [e] at he; cases he
end
/-- what is left of a list's or an object's text -/
def restF (kd most : Nat) (b : List UInt8) : Option (List JV × List (List UInt8) × List UInt8) := if kd = 6 then mbF most b else (itF most b).map fun (l, q) => (l, [], q)
/-- how far a list or an object was read -/
def LsR (bs : List UInt8) (k most kd : Nat) (l : List JV) (ks : List (List UInt8)) (q : Nat) (bad : Bool) : Prop :=
  (bad = true ∧ valF most (bs.drop k) = none) ∨ (bad = false ∧ l.length ≤ q ∧ ks.length ≤ q ∧ valF most (bs.drop k) = (restF kd (most - 1) (bs.drop q)).map fun (l2, ks2, r) => (JV.mk (kd : Int) [] 0 (l ++ l2) (ks ++ ks2), r))
theorem val_nil (m : Nat) : valF m [] = none := by rw [val_eq]; rfl
theorem it_nil (m : Nat) : itF m [] = none := by rw [it_eq, val_nil]
theorem mb_nil (m : Nat) : mbF m [] = none := by rw [mb_eq]; rfl
theorem ls_start {bs : List UInt8} {k most q : Nat} {r : List UInt8} (hv : valF most (bs.drop k) = lsF (most - 1) r) (hd : bs.drop q = blanksF r) (hne : q < bs.length → bs.getD q 0 ≠ 93) : LsR bs k most 5 [] [] q false := by
  refine .inr ⟨rfl, by simp, by simp, ?_⟩
  rw [hv]
  unfold lsF restF
  rw [← hd]
  by_cases hq : q < bs.length
  · rw [drop_cons hq]
    simp only [if_neg (hne hq)]
    cases itF (most - 1) (bs.getD q 0 :: bs.drop (q + 1)) <;> rfl
  · rw [List.drop_of_length_le (by omega), it_nil]
    rfl
theorem ob_start {bs : List UInt8} {k most q : Nat} {r : List UInt8} (hv : valF most (bs.drop k) = obF (most - 1) r) (hd : bs.drop q = blanksF r) (hne : q < bs.length → bs.getD q 0 ≠ 125) : LsR bs k most 6 [] [] q false := by
  refine .inr ⟨rfl, by simp, by simp, ?_⟩
  rw [hv]
  unfold obF restF
  rw [← hd]
  by_cases hq : q < bs.length
  · rw [drop_cons hq]
    simp only [if_neg (hne hq)]
    cases mbF (most - 1) (bs.getD q 0 :: bs.drop (q + 1)) <;> rfl
  · rw [List.drop_of_length_le (by omega), mb_nil]
    rfl
theorem ls_end {bs : List UInt8} {k most q : Nat} {r : List UInt8} (hv : valF most (bs.drop k) = lsF (most - 1) r) (hd : bs.drop q = blanksF r) (hq : q < bs.length) (he : bs.getD q 0 = 93) : valF most (bs.drop k) = some (JV.mk ((5 : Nat) : Int) [] 0 [] [], bs.drop (q + 1)) := by
  rw [hv]
  unfold lsF
  rw [← hd, drop_cons hq, he]
  rfl
theorem ob_end {bs : List UInt8} {k most q : Nat} {r : List UInt8} (hv : valF most (bs.drop k) = obF (most - 1) r) (hd : bs.drop q = blanksF r) (hq : q < bs.length) (he : bs.getD q 0 = 125) : valF most (bs.drop k) = some (JV.mk ((6 : Nat) : Int) [] 0 [] [], bs.drop (q + 1)) := by
  rw [hv]
  unfold obF
  rw [← hd, drop_cons hq, he]
  rfl

/-- what is so behind a value within a list or an object -/
def VD (R : Nat) (bs : List UInt8) (a : Option Addr) (c q most : Nat) (bad : Bool) (S : Nat → Prop) (cells : List Value) (w : World) : Prop :=
  ∃ v' k' bad', q ≤ k' ∧ RefAt w R bs a c k' bad' ∧ SV S w v' cells ∧ (∀ x r, bad = false → valF most (bs.drop q) = some (x, r) → v' = x ∧ bad' = false ∧ bs.drop k' = r) ∧ (bad = true → bad' = true) ∧ (valF most (bs.drop q) = none → bad' = true)
theorem VD.to {R : Nat} {bs : List UInt8} {a : Option Addr} {c q most : Nat} {bad : Bool} {S S' : Nat → Prop} {cells : List Value} {w w' : World} {bl : List Nat} (h : VD R bs a c q most bad S cells w) (ht : Tch w w' bl) (h1 : ∀ x ∈ bl, R < x) (h2 : ∀ x ∈ bl, ¬ S x) (h3 : ∀ x, S x → x < w.heap.size → S' x) : VD R bs a c q most bad S' cells w' := by
  obtain ⟨v', k', bad', e1, e2, e3, e4⟩ := h
  exact ⟨v', k', bad', e1, e2.tch ht h1, sv_to h3 (ht.stay h2) _ _ e3, e4⟩
/-- a list or an object whose next value is about to be read -/
def LsV (bs : List UInt8) (k most kd : Nat) (e : UInt8) (l : List JV) (ks : List (List UInt8)) (q : Nat) (bad : Bool) : Prop :=
  (bad = true ∧ valF most (bs.drop k) = none) ∨ (bad = false ∧ valF most (bs.drop k) = match valF (most - 1) (bs.drop q) with
    | none => none
    | some (v, q) => match blanksF q with
      | [] => none
      | c :: r => if c = e then some (JV.mk (kd : Int) [] 0 (l ++ [v]) ks, r) else if c = 44 then (restF kd (most - 1) r).map fun (l2, ks2, r) => (JV.mk (kd : Int) [] 0 (l ++ v :: l2) (ks ++ ks2), r) else none)
theorem ls_v {bs : List UInt8} {k most : Nat} {l : List JV} {ks : List (List UInt8)} {q : Nat} (h : valF most (bs.drop k) = (restF 5 (most - 1) (bs.drop q)).map fun (l2, ks2, r) => (JV.mk ((5 : Nat) : Int) [] 0 (l ++ l2) (ks ++ ks2), r)) : LsV bs k most 5 93 l ks q false := by
  refine .inr ⟨rfl, ?_⟩
  rw [h]
  unfold restF
  rw [if_neg (by decide), it_eq]
  cases valF (most - 1) (bs.drop q) with
  | none => rfl
  | some p =>
    obtain ⟨v, q2⟩ := p
    simp only
    cases blanksF q2 with
    | nil => rfl
    | cons c r =>
      simp only
      by_cases h1 : c = 93
      · rw [if_pos h1, if_pos h1]
        simp
      · rw [if_neg h1, if_neg h1]
        by_cases h2 : c = 44
        · rw [if_pos h2, if_pos h2]
          rw [if_neg (by decide)]
          cases itF (most - 1) r <;> simp
        · rw [if_neg h2, if_neg h2]
          rfl
theorem ob_v {bs : List UInt8} {k most : Nat} {l : List JV} {ks : List (List UInt8)} {q k1 k2 k3 k4 : Nat} {s : List UInt8} {bad2 bad4 : Bool} (h : valF most (bs.drop k) = (restF 6 (most - 1) (bs.drop q)).map fun (l2, ks2, r) => (JV.mk ((6 : Nat) : Int) [] 0 (l ++ l2) (ks ++ ks2), r))
    (d1 : bs.drop k1 = blanksF (bs.drop q)) (s1 : ∀ s0 r, stringF (bs.drop k1) = some (s0, r) → s = s0 ∧ bad2 = false ∧ bs.drop k2 = r) (z1 : stringF (bs.drop k1) = none → bad2 = true) (d2 : bs.drop k3 = blanksF (bs.drop k2))
    (s2 : ∀ r, mustF [58] (bs.drop k3) = some r → bad4 = bad2 ∧ bs.drop k4 = r) (z2 : mustF [58] (bs.drop k3) = none → bad4 = true) : LsV bs k most 6 125 l (ks ++ [s]) k4 bad4 := by
  unfold restF at h
  rw [if_pos rfl, mb_eq, ← d1] at h
  cases hs : stringF (bs.drop k1) with
  | none =>
    have hb := z1 hs
    subst hb
    rw [hs] at h
    refine .inl ⟨?_, h⟩
    cases hm : mustF [58] (bs.drop k3) with
    | none => exact z2 hm
    | some r => exact (s2 r hm).1
  | some p =>
    obtain ⟨s0, r0⟩ := p
    obtain ⟨rfl, hb, e2⟩ := s1 s0 r0 hs
    subst hb
    rw [hs] at h
    simp only at h
    rw [← e2, ← d2] at h
    cases hm : mustF [58] (bs.drop k3) with
    | none =>
      rw [hm] at h
      exact .inl ⟨z2 hm, h⟩
    | some r4 =>
      obtain ⟨e3, e4⟩ := s2 r4 hm
      rw [hm] at h
      simp only at h
      refine .inr ⟨e3, ?_⟩
      rw [h, ← e4]
      cases valF (most - 1) (bs.drop k4) with
      | none => rfl
      | some p =>
        obtain ⟨v, q2⟩ := p
        simp only
        cases blanksF q2 with
        | nil => rfl
        | cons c r =>
          simp only
          by_cases h1 : c = 125
          · rw [if_pos h1, if_pos h1]
            simp
          · rw [if_neg h1, if_neg h1]
            by_cases h2 : c = 44
            · rw [if_pos h2, if_pos h2]
              unfold restF
              rw [if_pos rfl]
              cases mbF (most - 1) r <;> simp
            · rw [if_neg h2, if_neg h2]
              rfl
section
variable {bs : List UInt8} {k most kd : Nat} {e : UInt8} {l : List JV} {ks : List (List UInt8)} {q k' k6 : Nat} {bad bad' : Bool} {v' : JV}
theorem lsv_close (h : LsV bs k most kd e l ks q bad) (hv : ∀ x r, bad = false → valF (most - 1) (bs.drop q) = some (x, r) → v' = x ∧ bad' = false ∧ bs.drop k' = r) (hb : bad = true → bad' = true) (hz : valF (most - 1) (bs.drop q) = none → bad' = true)
    (hd : bs.drop k6 = blanksF (bs.drop k')) (hlt : k6 < bs.length) (he : bs.getD k6 0 = e) : (bad' = true ∧ valF most (bs.drop k) = none) ∨ (bad' = false ∧ valF most (bs.drop k) = some (JV.mk (kd : Int) [] 0 (l ++ [v']) ks, bs.drop (k6 + 1))) := by
  rcases h with ⟨h1, h2⟩ | ⟨h1, h2⟩
  · exact .inl ⟨hb h1, h2⟩
  · cases hw : valF (most - 1) (bs.drop q) with
    | none => rw [hw] at h2; exact .inl ⟨hz hw, h2⟩
    | some p =>
      obtain ⟨x, r⟩ := p
      obtain ⟨rfl, e2, e3⟩ := hv x r h1 hw
      rw [hw] at h2
      simp only at h2
      rw [← e3, ← hd, drop_cons hlt, he] at h2
      simp only [if_true] at h2
      exact .inr ⟨e2, h2⟩
theorem lsv_comma (h : LsV bs k most kd e l ks q bad) (hv : ∀ x r, bad = false → valF (most - 1) (bs.drop q) = some (x, r) → v' = x ∧ bad' = false ∧ bs.drop k' = r) (hb : bad = true → bad' = true) (hz : valF (most - 1) (bs.drop q) = none → bad' = true)
    (hd : bs.drop k6 = blanksF (bs.drop k')) (hne : k6 < bs.length → bs.getD k6 0 ≠ e) (hq : q ≤ k6) {k7 : Nat} {bad7 : Bool} (h67 : k6 ≤ k7) (h7 : k7 ≤ bs.length) (hs : ∀ r, mustF [44] (bs.drop k6) = some r → bad7 = bad' ∧ bs.drop k7 = r) (hn : mustF [44] (bs.drop k6) = none → bad7 = true)
    (hl : l.length ≤ q) (hks : ks.length ≤ q + 1) : LsR bs k most kd (l ++ [v']) ks k7 bad7 ∧ (bad7 = false → q < k7) := by
  have hbb : bad' = true → bad7 = true := fun h => by
    cases hm : mustF [44] (bs.drop k6) with
    | none => exact hn hm
    | some r => rw [(hs r hm).1, h]
  have hbad : bad7 = true → valF most (bs.drop k) = none → LsR bs k most kd (l ++ [v']) ks k7 bad7 ∧ (bad7 = false → q < k7) := fun h1 h2 => ⟨.inl ⟨h1, h2⟩, fun h => by rw [h1] at h; cases h⟩
  rcases h with ⟨h1, h2⟩ | ⟨h1, h2⟩
  · exact hbad (hbb (hb h1)) h2
  · cases hw : valF (most - 1) (bs.drop q) with
    | none => rw [hw] at h2; exact hbad (hbb (hz hw)) h2
    | some p =>
      obtain ⟨x, r⟩ := p
      obtain ⟨rfl, e2, e3⟩ := hv x r h1 hw
      rw [hw] at h2
      simp only at h2
      rw [← e3, ← hd] at h2
      by_cases hlt : k6 < bs.length
      · rw [drop_cons hlt] at h2
        simp only [if_neg (hne hlt)] at h2
        by_cases h44 : bs.getD k6 0 = 44
        · have hm : mustF [44] (bs.drop k6) = some (bs.drop (k6 + 1)) := by rw [drop_cons hlt, h44]; rfl
          obtain ⟨e4, e5⟩ := hs _ hm
          have hk : k7 = k6 + 1 := by
            have := congrArg List.length e5
            rw [List.length_drop, List.length_drop] at this
            omega
          subst hk
          rw [if_pos h44] at h2
          refine ⟨.inr ⟨by rw [e4, e2], by rw [List.length_append, List.length_singleton]; omega, by omega, ?_⟩, fun _ => by omega⟩
          rw [h2]
          simp
        · rw [if_neg h44] at h2
          refine hbad (hn ?_) h2
          rw [drop_cons hlt]
          unfold mustF
          rw [if_neg (fun h => h44 h.symm)]
      · have hdn : bs.drop k6 = [] := List.drop_of_length_le (by omega)
        rw [hdn] at h2
        refine hbad (hn ?_) h2
        rw [hdn]
        rfl
end

/-- what is so behind a text within an object -/
def SD (R : Nat) (bs : List UInt8) (a : Option Addr) (c q : Nat) (s : List UInt8) (w : World) : Prop :=
  ∃ k' bad', q ≤ k' ∧ RefAt w R bs a c k' bad' ∧ (∀ s0 r, stringF (bs.drop q) = some (s0, r) → s = s0 ∧ bad' = false ∧ bs.drop k' = r) ∧ (stringF (bs.drop q) = none → bad' = true)
theorem SD.to {R : Nat} {bs : List UInt8} {a : Option Addr} {c q : Nat} {s : List UInt8} {w w' : World} {bl : List Nat} (h : SD R bs a c q s w) (ht : Tch w w' bl) (h1 : ∀ x ∈ bl, R < x) : SD R bs a c q s w' := by
  obtain ⟨k', bad', e1, e2, e3⟩ := h
  exact ⟨k', bad', e1, e2.tch ht h1, e3⟩
theorem vstr_inj {s t : List UInt8} (h : Value.string (bstr s) = Value.string (bstr t)) : s = t := by
  have := congrArg (fun v => match v with | Value.string x => x.data.toList | _ => []) h
  simpa [bstr] using this

/-- how a value within a list or an object was read -/
def VP (bs : List UInt8) (q most : Nat) (bad : Bool) (v' : JV) (k' : Nat) (bad' : Bool) : Prop :=
  (∀ x r, bad = false → valF most (bs.drop q) = some (x, r) → v' = x ∧ bad' = false ∧ bs.drop k' = r) ∧ (bad = true → bad' = true) ∧ (valF most (bs.drop q) = none → bad' = true)
end Go.Proofs.YtbondnljoalajaaDoor
