/-
  Layer 9: Add. Conditions: those in each statement.
-/
import Derived.Test.YtlfncgpjgbpdjaaRnF
namespace Go.Proofs.Ytlfncgpjgbpdjaa
open Go.RowKit Go.Shelf

section
variable {P : Program} {ops : Array Oper} {rest : List Oper} {o : Oper} {a : Act} {K : Act → World → Prop} {Q : Exit → Act → World → Prop} {w : World}
/-- what is known of an operation as a list's last one is known of it alone -/
theorem ow_of_wl (hg : o.guard = none) (h : wpList P #[o] (fun e a w => match e with | .normal => K a w | _ => False) [o] a w) : o.wp P a w K Q := by
  unfold wpList at h
  rw [if_pos (by simp [Region.wanted, hg])] at h
  rcases h with h | ⟨-, hx⟩
  · unfold Oper.wp at h ⊢
    generalize (execOp a.eval o).run P w = r at *
    cases r with
    | ok x w' =>
      cases x with
      | value v => exact h
      | skip => exact h
      | defer d => exact h
      | enter f args =>
        refine Calls.mono h fun e w'' he => ?_
        cases e with
        | returned v => exact he
        | panicked c => exact he.elim
        | outgrown => obtain ⟨_, _, he⟩ := he; exact he.elim
      | row rw args => exact h
      | _ => exact h.elim
    | halt x w' =>
      cases x with
      | panic v => exact h.elim
      | _ => exact h.elim
  · obtain ⟨_, _, e⟩ := hx
    exact e.elim
end
section
variable {ops : Array Oper} {rest : List Oper} {o : Oper} {a : Act} {K : Act → World → Prop} {Q : Exit → Act → World → Prop} {w : World}
/-- append(hashes, hash), and which block is turned -/
theorem wl_appendDg (hgd : o.guard = none) (d s : Operand) (ho : o.op = .call { callee := .builtin .append, args := #[d, s], argTypes := #[30, 30] })
    (B : Nat) (v : Value) (M : List (List UInt8)) (hd : a.eval d = v) (hown : OwnD w B v M) (g : Nat) (x : List UInt8) (hs : a.eval s = .slice (some ⟨g, 0, none⟩) 1 1)
    (hA : Arr w g 29 (bvs x)) (hx : x.length = 32) (hlen : M.length + 1 ≤ 6000000000000) (hB : B ≤ w.heap.size)
    (hK : ∀ v' w', OwnD w' B v' (M ++ [x]) → w.grownBy w' v.ownBlock → Below B w w' → wpList Try.prog ops Q rest (a.put o.dst v') w') : wpList Try.prog ops Q (o :: rest) a w := by
  obtain ⟨i0, hi, hz0, hz1, hz2⟩ := info_parts infoDg
  refine wpList_append_own_wide w hgd d s 30 ho B 29 i0 _ 32 32 Try.underlying30 hi hz0 hz1 hz2 (by simp [Value.cells, bvs_len, Z8]) (by decide) v _ _ hd hown.row ⟨g, 0, none⟩ 1 1 (bvs x) hs (by rw [bvs_len, hx])
    (fun j u hu => by rw [Addr.add_lit, Nat.zero_add, hA.cell]; exact hu) (bvs_one x) (by unfold maxLen; omega) (by omega) hB ?_
  intro v' w' h1 h2 _
  refine hK v' w' ⟨?_, All32.of fun y hy => ?_⟩ h2 ((Below.refl _ _).grown h2 hB fun k hk => (World.ownsRow.lt hown.row k hk).1)
  · rw [dcs_app, List.length_append]
    exact h1
  · rcases List.mem_append.1 hy with h | h
    · exact hown.all.mem h
    · simp only [List.mem_singleton] at h
      rw [h]; exact hx
/-- append(hashes without room, hash): new memory -/
theorem wl_appendN (hgd : o.guard = none) (d s : Operand) (ho : o.op = .call { callee := .builtin .append, args := #[d, s], argTypes := #[30, 30] })
    (al : Option Addr) (k : Nat) (M : List (List UInt8)) (hd : a.eval d = .slice al k k) (hr : RdD w al k k M) (g : Nat) (x : List UInt8) (hs : a.eval s = .slice (some ⟨g, 0, none⟩) 1 1)
    (hA : Arr w g 29 (bvs x)) (hx : x.length = 32) (hlen : k + 1 ≤ 2 ^ 40)
    (hK : ∀ v' w', OwnD w' w.heap.size v' (M ++ [x]) → Below w.heap.size w w' → wpList Try.prog ops Q rest (a.put o.dst v') w') : wpList Try.prog ops Q (o :: rest) a w := by
  have hl := hr.len
  cases al with
  | none =>
    have h0 : k = 0 := hr.nil rfl
    subst h0
    have hM : M = [] := List.eq_nil_of_length_eq_zero hl
    subst hM
    exact wl_appendDg hgd d s ho w.heap.size _ [] hd (OwnD.nil _ _) g x hs hA hx (by simp) (Nat.le_refl _) (fun v' w' h1 _ h3 => hK v' w' h1 h3)
  | some ad =>
    obtain ⟨i0, hi, hz0, hz1, hz2⟩ := info_parts infoDg
    obtain ⟨v', w', hrun, r1, r2⟩ := run_append_arg_grows (P := Try.prog) (w := w) 30 o.type 29 i0 _ 32 32 Try.underlying30 hi hz0 hz1 hz2 (by simp [Value.cells, bvs_len, Z8]) (by decide) ad k k (dcs M) (by rw [dcs_len hr.all, hl]) (by
        rcases Nat.eq_zero_or_pos k with h0 | h0
        · intro j u hu
          have hM : M = [] := List.eq_nil_of_length_eq_zero (by omega)
          subst hM
          simp [dcs] at hu
        · exact hr.cells)
      ⟨g, 0, none⟩ 1 1 (bvs x) (by rw [bvs_len, hx]) (fun j u hu => by rw [Addr.add_lit, Nat.zero_add, hA.cell]; exact hu) (by omega) (by unfold maxLen; omega) (by omega)
    refine wpList_plain hgd fun K hK' => ?_
    unfold Oper.wp execOp
    simp only [ho, resolve, invoke, builtin, Sem.run_bind, Sem.run_pure, Result.andThen_ok, List.map_toArray, List.map_cons, List.map_nil, hd, hs, hrun]
    refine hK' _ _ (hK v' w' ⟨?_, All32.of fun y hy => ?_⟩ ((Below.refl _ _).grown r2 (Nat.le_refl _) (by intro k e; cases e)))
    · rw [dcs_app, List.length_append, hl]
      exact r1
    · rcases List.mem_append.1 hy with h | h
      · exact hr.all.mem h
      · simp only [List.mem_singleton] at h
        rw [h]; exact hx
end

section
variable {P : Program} {ops : Array Oper} {rest : List Oper} {o : Oper} {a : Act} {K : Act → World → Prop} {Q : Exit → Act → World → Prop} {w : World}
/-- a new variable of one cell -/
theorem wl_alloc1 (hg : o.guard = none) (t : TypeId) (ho : o.op = .alloc t) (z : Value) (n : Nat) (hz : (P.info? t).map (fun i => (i.zero, i.size)) = some (some z, n)) (hc : z.cells = #[z])
    (hK : ∀ w', Arr w' w.heap.size t [z] → Below w.heap.size w w' → w'.heap.size = w.heap.size + 1 → wpList P ops Q rest (a.put o.dst (.pointer (some ⟨w.heap.size, 0, none⟩))) w') :
    wpList P ops Q (o :: rest) a w := by
  have h0 := (zero_of_info (P := P) hz).1
  refine wpList_plain hg fun K hK' => ?_
  unfold Oper.wp execOp
  simp only [ho, Sem.run_bind, Instr.alloc, h0, newVar, newRow, run_newObj_alloc, Sem.run_pure, Result.andThen_ok, hc]
  exact hK' _ _ (hK _ (Arr.new w t [z]) ((Below.refl _ _).alloc (Nat.le_refl _) _) (by simp))
/-- one cell of a block, stored -/
theorem ow_store1 (ty : TypeId) (x y : Operand) (ho : o.op = .store ty x y) (g off : Nat) (hx : a.eval x = .pointer (some ⟨g, off, none⟩)) (v : Value) (hy : a.eval y = v) (hv : v.cells = #[v]) (h1 : v.oneCell' = true)
    (T : TypeId) (old : List Value) (hA : Arr w g T old) (hi : (P.info? ty).map (·.size) = some 1) (hl : off < old.length)
    (hK : ∀ w', Arr w' g T (old.set off v) → w.grownBy w' (some g) → w'.heap.size = w.heap.size → K (a.put o.dst undef) w') : o.wp P a w K Q := by
  have hst := run_storeCells_cells (P := P) g off [v] 0 w (fun j hj => by
      have e : j = 0 := by simpa using hj
      subst e
      rw [hA.cell]
      simp [hl]) (fun j hj => by rw [hA.frozen]) (fun u hu => by rw [List.mem_singleton.1 hu]; exact h1)
  have hrun : (storeVar ty ⟨g, off, none⟩ v).run P w = .ok () (w.setCell ⟨g, off, none⟩ v) := by
    cases hq : P.info? ty with
    | none => simp [hq] at hi
    | some i =>
      have hi' : i.size = 1 := by simpa [hq] using hi
      have e : w.setCells g (off + 0) [v] = w.setCell ⟨g, off, none⟩ v := rfl
      rw [e] at hst
      simp [storeVar, sizeOf, typeInfo, hq, hi', hv, hst]
  unfold Oper.wp execOp
  simp only [ho, hx, hy, Instr.storeAt, Instr.sureAddr, Sem.run_bind, Sem.run_pure, Result.andThen_ok, hrun]
  exact hK _ (hA.store off v) ⟨rfl, rfl, rfl, (KeepsWalks.setCell w _ v).size, fun k _ hk => Below.heap_setCell _ _ _ k (fun e => hk (by rw [e]))⟩ (by simp [World.setCell])
theorem wl_store1 (hgd : o.guard = none) (ty : TypeId) (x y : Operand) (ho : o.op = .store ty x y) (g off : Nat) (hx : a.eval x = .pointer (some ⟨g, off, none⟩)) (v : Value) (hy : a.eval y = v) (hv : v.cells = #[v]) (h1 : v.oneCell' = true)
    (T : TypeId) (old : List Value) (hA : Arr w g T old) (hi : (P.info? ty).map (·.size) = some 1) (hl : off < old.length)
    (hK : ∀ w', Arr w' g T (old.set off v) → w.grownBy w' (some g) → w'.heap.size = w.heap.size → wpList P ops Q rest (a.put o.dst undef) w') : wpList P ops Q (o :: rest) a w :=
  wpList_plain hgd fun _ hK' => ow_store1 ty x y ho g off hx v hy hv h1 T old hA hi hl fun w' k1 k2 k3 => hK' _ _ (hK w' k1 k2 k3)
end
theorem rd_apart {W : World} {p m c : Nat} {al : Option Addr} {P : List (List UInt8)} {T : TypeId} {x y z : Value} (hA : Arr W p T [x, y, z]) (hr : RdD W al m c P) : ∀ ad, al = some ad → 0 < m → ad.block ≠ p := by
  intro ad e h0 hp
  obtain ⟨b, off, e2, -, hc⟩ := hr.mem h0
  rw [e] at e2
  injection e2 with e2
  subst e2
  have h1 := hc 0 h0 31 (by omega)
  simp only at hp
  subst hp
  rw [hA.cell] at h1
  simp at h1
theorem rd_cut {W wx : World} {al : Option Addr} {p m c s : Nat} {P : List (List UInt8)} (hab : ∀ ad, al = some ad → 0 < m → ad.block ≠ p) (hr : RdD W al m c P) (hkb : KB (fun k => k = p) W wx) (hs : s ≤ m) : RdD wx al s s (P.take s) := by
  have h1 := hkb.rdD hr (fun ad e h0 => hab ad e h0)
  have h2 := h1.take s hs
  refine ⟨h2.len, Nat.le_refl _, h2.all, fun e => ?_, h2.mem⟩
  have := h1.nil e
  have := h1.le
  omega
/-- a slice cut, its room too -/
theorem run_cut0 (al : Option Addr) (m c s : Nat) (hs : s ≤ m) (hc : m ≤ c) (hpl : 0 < s → ∃ b off, al = some ⟨b, off, none⟩) (w : World) :
    (Instr.sliceAt 30 (.slice al m c) none (some (.int .i64 (s : Int))) (some (.int .i64 (s : Int)))).run Try.prog w = .ok (.slice al s s) w := by
  have c1 : (0 : Int) ≤ (s : Int) := by omega
  have c2 : (s : Int) ≤ (c : Int) := by omega
  by_cases h0 : s = 0
  · subst h0
    go_simp
  · obtain ⟨b, off, rfl⟩ := hpl (by omega)
    have hne : ¬ (s = 0) := h0
    go_simp
theorem ow_cut {o : Oper} {a : Act} {w : World} {K : Act → World → Prop} {Q : Exit → Act → World → Prop} (al : Option Addr) (m c s : Nat) (hs : s ≤ m) (hc : m ≤ c) (hpl : 0 < s → ∃ b off, al = some ⟨b, off, none⟩) (x y z : Operand) (ho : o.op = .slice 30 x none (some y) (some z))
    (hx : a.eval x = .slice al m c) (hy : a.eval y = .int .i64 (s : Int)) (hz : a.eval z = .int .i64 (s : Int)) (hK : K (a.put o.dst (.slice al s s)) w) : o.wp Try.prog a w K Q := by
  have h := run_cut0 al m c s hs hc hpl w
  unfold Oper.wp execOp
  simp only [ho, hx, hy, hz, Option.map_some, Option.map_none, Sem.run_bind, h, Sem.run_pure, Result.andThen_ok]
  exact hK
theorem own_low {w : World} {B : Nat} {e : TypeId} {s n : Nat} {v : Value} {xs : List Value} (h : w.ownsRow B e s v n xs) {g : Nat} (hg : g < B) : v.ownBlock = none ∨ v.ownBlock ≠ some g := by
  cases hv : v.ownBlock with
  | none => exact .inl rfl
  | some q =>
    have := (World.ownsRow.lt h q hv).1
    exact .inr (by intro e; injection e with e; omega)
theorem own_low' {w : World} {B : Nat} {e : TypeId} {s n : Nat} {v : Value} {xs : List Value} (h : w.ownsRow B e s v n xs) {g : Nat} (hg : g < B) : some g ≠ v.ownBlock := by
  intro e
  have := (World.ownsRow.lt h g e.symm).1
  omega
theorem own_cells {w : World} {B : Nat} {e : TypeId} {s n : Nat} {v : Value} {xs : List Value} (h : w.ownsRow B e s v n xs) {g : Nat} (hg : v.ownBlock = some g) : ∃ o : Obj, w.heap[g]? = some o ∧ o.isCells = true := by
  obtain ⟨-, ⟨rfl, -⟩ | ⟨q, cap, cur, rfl, -, hb, -⟩⟩ := h
  · cases hg
  · injection hg with hg
    subst hg
    exact ⟨_, hb, rfl⟩
/-- a row and a block of another type's cells lie apart -/
theorem arr_row {w : World} {B : Nat} {e T : TypeId} {s n g : Nat} {v : Value} {xs ys : List Value} (hA : Arr w g T ys) (h : w.ownsRow B e s v n xs) (hne : e ≠ T) : some g ≠ v.ownBlock := by
  intro he
  obtain ⟨-, ⟨rfl, -⟩ | ⟨q, cap, cur, rfl, -, hb, -⟩⟩ := h
  · cases he
  · have he : some g = some q := he
    injection he with he
    subst he
    have : w.heap[g]? = _ := hA
    rw [hb] at this
    injection this with this
    injection this with _ h2
    exact hne h2
theorem row_arr {w : World} {B : Nat} {e T : TypeId} {s n g : Nat} {v : Value} {xs ys : List Value} (h : w.ownsRow B e s v n xs) (hA : Arr w g T ys) (hne : e ≠ T) : v.ownBlock = none ∨ v.ownBlock ≠ some g := .inr fun e => arr_row hA h hne e.symm
theorem own_type {w : World} {B : Nat} {e : TypeId} {s n : Nat} {v : Value} {xs : List Value} (h : w.ownsRow B e s v n xs) {g : Nat} (hg : v.ownBlock = some g) : ∃ cs, w.heap[g]? = some (.cells cs e (0, 0)) := by
  obtain ⟨-, ⟨rfl, -⟩ | ⟨q, cap, cur, rfl, -, hb, -⟩⟩ := h
  · cases hg
  · injection hg with hg
    subst hg
    exact ⟨_, hb⟩
theorem cells_own {w : World} {B : Nat} {e : TypeId} {s n : Nat} {v : Value} {xs : List Value} (h : w.ownsRow B e s v n xs) : v.cells = #[v] := by
  obtain ⟨-, ⟨rfl, -⟩ | ⟨q, cap, cur, rfl, -⟩⟩ := h <;> rfl
theorem one_own {w : World} {B : Nat} {e : TypeId} {s n : Nat} {v : Value} {xs : List Value} (h : w.ownsRow B e s v n xs) : v.oneCell' = true := by
  obtain ⟨-, ⟨rfl, -⟩ | ⟨q, cap, cur, rfl, -⟩⟩ := h <;> rfl
theorem KB.trans {S : Nat → Prop} {w w' w'' : World} (h : KB S w w') (k : KB S w' w'') : KB S w w'' :=
  ⟨k.os.trans h.os, k.tape.trans h.tape, k.output.trans h.output, Nat.le_trans h.size k.size, fun j hj hn => (k.block j (Nat.lt_of_lt_of_le hj h.size) hn).trans (h.block j hj hn)⟩
theorem KB.puts {S : Nat → Prop} {w w' : World} (h : KB S w w') (l : Nat) (o : Obj) (hl : w.heap.size ≤ l) : KB S w (w'.putObj l o) :=
  ⟨h.os, h.tape, h.output, by have := h.size; simpa [World.putObj] using this, fun j hj hn => (World.putObj_heap_other (by omega)).trans (h.block j hj hn)⟩
theorem KB.grownN {S : Nat → Prop} {w w' w'' : World} (h : KB S w w') (hg : w'.grownBy w'' none) : KB S w w'' :=
  ⟨hg.os.trans h.os, hg.tape.trans h.tape, hg.output.trans h.output, Nat.le_trans h.size hg.size, fun k hk hn => (hg.block k (Nat.lt_of_lt_of_le hk h.size) (by intro e; cases e)).trans (h.block k hk hn)⟩
/-- the peaks and how many leaves each has, from the last one on -/
def pkZ (n : Nat) (P : List (List UInt8)) : List (Nat × List UInt8) := (lowP 1 n).zip P.reverse
theorem pkZ_len {n : Nat} {P : List (List UInt8)} (h : P.length = (lowP 1 n).length) : (pkZ n P).length = P.length := by
  unfold pkZ
  rw [List.length_zip, List.length_reverse]
  omega
theorem pkZ_drop {n k : Nat} {P : List (List UInt8)} (h : P.length = (lowP 1 n).length) (hk : k < P.length) : (pkZ n P).drop k = (lowAt n k, P.getD (P.length - 1 - k) []) :: (pkZ n P).drop (k + 1) := by
  rw [List.drop_eq_getElem_cons (by rw [pkZ_len h]; exact hk)]
  congr 1
  unfold pkZ lowAt
  rw [List.getElem_zip, List.getElem_reverse]
  simp [List.getD, show k < (lowP 1 n).length by omega, show P.length - 1 - k < P.length by omega]
theorem pkZ_end {n : Nat} {P : List (List UInt8)} (h : P.length = (lowP 1 n).length) : (pkZ n P).drop P.length = [] := List.drop_of_length_le (by rw [pkZ_len h]; exact Nat.le_refl _)
theorem pkZ_snd {n : Nat} {P : List (List UInt8)} (h : P.length = (lowP 1 n).length) (k : Nat) : ((pkZ n P).drop k).map (·.2) = P.reverse.drop k := by
  rw [List.map_drop]
  unfold pkZ
  congr 1
  exact List.map_snd_zip (by rw [List.length_reverse]; omega)
/-- the peaks with a leaf more -/
def addP (n : Nat) (P : List (List UInt8)) (d : List UInt8) : List (List UInt8) := (addQ n P.reverse d).reverse
def toldP (n : Nat) (P : List (List UInt8)) (d : List UInt8) : List (List UInt8) := toldQ n P.reverse d
theorem addP_len {n : Nat} {P : List (List UInt8)} {d : List UInt8} (h : P.length = popN n) : (addP n P d).length = popN (n + 1) := by
  unfold addP
  rw [List.length_reverse]
  exact (carry_add n 1 P.reverse d (by omega) (by rw [List.length_reverse]; exact h)).2.2
theorem addP_all {n : Nat} {P : List (List UInt8)} {d : List UInt8} (h : All32 P) (hd : d.length = 32) : All32 (addP n P d) := by
  have := addQ_all P.reverse n d (All32.of fun x hx => h.mem (by simpa using hx)) hd
  exact All32.of fun x hx => this.mem (by simpa [addP] using hx)
/-- where it stops -/
theorem add_stop {n k Ln : Nat} {P told : List (List UInt8)} {d h : List UInt8} (hc : P.length = popN n) (hk : k ≤ P.length)
    (h1 : carry (pkZ n P) (1, d) = carry ((pkZ n P).drop k) (Ln, h)) (h2 : ∃ T, told = T ++ [h] ∧ carryT (pkZ n P) (1, d) = T ++ carryT ((pkZ n P).drop k) (Ln, h))
    (hs : k = P.length ∨ ∃ A X, (pkZ n P).drop k = (A, X) :: (pkZ n P).drop (k + 1) ∧ A ≠ Ln) : addP n P d = P.take (P.length - k) ++ [h] ∧ told = toldP n P d := by
  obtain ⟨c1, c2, c3⟩ := carry_add n 1 P.reverse d (by omega) (by rw [List.length_reverse]; exact hc)
  obtain ⟨T, e1, e2⟩ := h2
  have key : carry ((pkZ n P).drop k) (Ln, h) = (Ln, h) :: (pkZ n P).drop k ∧ carryT ((pkZ n P).drop k) (Ln, h) = [h] := by
    rcases hs with rfl | ⟨A, X, e, hne⟩
    · rw [pkZ_end hc]; exact ⟨rfl, rfl⟩
    · rw [e, carry, carryT, if_neg hne, if_neg hne]; exact ⟨rfl, rfl⟩
  rw [key.1] at h1
  rw [key.2] at e2
  have e3 : (lowP 1 (n + 1)).zip (addQ n P.reverse d) = (Ln, h) :: (pkZ n P).drop k := c1.symm.trans h1
  have e4 := congrArg (List.map (·.2)) e3
  rw [List.map_snd_zip (by omega), List.map_cons, pkZ_snd hc] at e4
  refine ⟨?_, ?_⟩
  · unfold addP
    rw [e4, List.reverse_cons, List.drop_reverse, List.reverse_reverse]
  · unfold toldP
    rw [e1, ← e2]
    exact c2
def AddI (n m p g6 g7 g8 gr S : Nat) (P : List (List UInt8)) (d : List UInt8) (w : World) (pre : List (PkAt m)) (W : World) : Prop :=
  ∃ (h : List UInt8) (Ln : Nat) (told : List (List UInt8)) (v : Value), (pre.map (·.1) = List.range pre.length → pre.length ≤ m → carry (pkZ n P) (1, d) = carry ((pkZ n P).drop pre.length) (Ln, h) ∧ ∃ T, told = T ++ [h] ∧ carryT (pkZ n P) (1, d) = T ++ carryT ((pkZ n P).drop pre.length) (Ln, h)) ∧
    h.length = 32 ∧ told.length = pre.length + 1 ∧ Ln ≤ 2097152 ∧ Arr W g6 29 (bvs h) ∧ Arr W g7 31 [.int .u64 (Ln : Int)] ∧ Arr W g8 30 [v] ∧ OwnD W gr v told ∧ Boxed W (g8 + 1) 23 (.pointer (some ⟨p, 0, none⟩)) ∧ Below w.heap.size w W ∧ S ≤ W.heap.size
/-- a round has left by a break -/
def AddX (n m g6 g8 gr S : Nat) (P : List (List UInt8)) (d : List UInt8) (w : World) (pre : List (PkAt m)) (W : World) : Prop :=
  ∃ (pr : List (PkAt m)) (ch : PkAt m) (h : List UInt8) (Ln : Nat) (told : List (List UInt8)) (v : Value), pre = pr ++ [ch] ∧ (pr.map (·.1) = List.range pr.length → pr.length ≤ m → carry (pkZ n P) (1, d) = carry ((pkZ n P).drop pr.length) (Ln, h) ∧ ∃ T, told = T ++ [h] ∧ carryT (pkZ n P) (1, d) = T ++ carryT ((pkZ n P).drop pr.length) (Ln, h)) ∧ lowAt n ch.1 ≠ Ln ∧
    h.length = 32 ∧ told.length = pr.length + 1 ∧ Arr W g6 29 (bvs h) ∧ Arr W g8 30 [v] ∧ OwnD W gr v told ∧ Below w.heap.size w W ∧ S ≤ W.heap.size
def AddAx (m S : Nat) (P : List (List UInt8)) (U : PkAt m → Nat → Act) (ch : PkAt m) (a' : Act) (W : World) : Prop :=
  ∃ g10, S ≤ g10 ∧ Arr W g10 29 (bvs (P.getD (m - 1 - ch.1) [])) ∧ a' = U ch g10
/-- the frame of a round -/
def AddU (m p n g3 g6 g7 g8 gr : Nat) (P : List (List UInt8)) (d : List UInt8) (ch : PkAt m) (g10 : Nat) : Act :=
  { tmps := #[.pointer (some ⟨p, 0, none⟩), .agg (bvs d).toArray, undef, .pointer (some ⟨g3, 0, none⟩), .slice none 0 0, .int .i64 0, .pointer (some ⟨g6, 0, none⟩), .pointer (some ⟨g7, 0, none⟩), .pointer (some ⟨g8, 0, none⟩), .int .u64 (lowAt n ch.1 : Int), .pointer (some ⟨g10, 0, none⟩), undef, .pointer (some ⟨p, 0, none⟩), .bool true, .bool false, .pointer (some ⟨p, 0, none⟩), .pointer (some ⟨p, 0, none⟩), .pointer (some ⟨p, 1, none⟩), .int .u64 (n : Int), .bool false, .agg (bvs d).toArray, .agg (bvs d).toArray, .slice (some ⟨gr, 0, none⟩) 1 1, .pointer (some ⟨p, 0, none⟩), .func (.func 33) #[] #[.pointer (some ⟨g8 + 1, 0, none⟩)], .int .u64 (lowAt n ch.1 : Int), .agg (bvs (P.getD (m - 1 - ch.1) [])).toArray, undef, undef, undef, undef, undef, undef, undef, undef, undef, undef, undef, undef, undef, undef, undef, undef, undef, undef, undef, undef, undef, undef, undef, undef, undef, undef, undef, undef, undef, undef, undef, undef, undef, undef, undef, undef, undef, undef, undef, undef, undef, undef], defers := [] }
theorem size31 : (Try.prog.info? 31).map (·.size) = some 1 := by kernel_rfl
theorem infoSD : (Try.prog.info? 30).map (fun i => (i.zero, i.size)) = some (some (.slice none 0 0), 1) := by kernel_rfl
theorem sizeSD : (Try.prog.info? 30).map (·.size) = some 1 := by kernel_rfl
theorem ownD_owned {B : Nat} {A C : World} {row : Option Nat} {v : Value} {M : List (List UInt8)} (h : OwnD A B v M) (hg : A.grownBy C row) (hr : ∀ r, row = some r → ∃ o : Obj, A.heap[r]? = some o ∧ o.isCells = false) : OwnD C B v M := by
  refine h.by hg ?_
  obtain ⟨-, ⟨rfl, -⟩ | ⟨g, cap, cur, rfl, -, hb, -⟩⟩ := h.row
  · exact .inl rfl
  · refine .inr fun e => ?_
    obtain ⟨o, h1, h2⟩ := hr g e.symm
    rw [hb] at h1
    cases h1
    cases h2
structure InvRAdd (X h Y : List UInt8) (told : List (List UInt8)) (v : Value) (A p n g3 g6 g7 g8 g10 gr : Nat) (d : List UInt8) (W0 : World) (L : Nat → Bool) (v30 v31 v32 v33 v34 : Value) (wx : World) : Prop where
  t0 : L 0 = true → v30 = .agg (bvs X).toArray
  t1 : L 1 = true → v31 = .agg (bvs h).toArray
  t2 : L 2 = true → v32 = .agg (bvs Y).toArray
  t3 : L 3 = true → v33 = .int .u64 (A : Int)
  t4 : L 4 = true → v34 = .int .u64 (2 * (A : Int))
  a10 : Arr wx g10 29 (bvs X)
  a6 : Arr wx g6 29 (bvs (if L 5 then Y else h))
  a7 : Arr wx g7 31 [.int .u64 (if L 6 then 2 * (A : Int) else (A : Int))]
  a8 : Arr wx g8 30 [v]
  own : OwnD wx gr v told
  kb : KB (fun k => k = g6 ∨ k = g7 ∨ k = g8 ∨ some k = v.ownBlock) W0 wx
structure InvRAddC (al : Option Addr) (p n m c s tl g3 g6 g7 g8 gr gv cv : Nat) (d : List UInt8) (W0 : World) (L : Nat → Bool) (v39 v40 v41 v42 v43 v44 v45 v46 v47 v11 : Value) (wx : World) : Prop where
  t0 : L 0 = true → v39 = .pointer (some ⟨p, 0, none⟩)
  t1 : L 1 = true → v40 = .pointer (some ⟨p, 0, none⟩)
  t2 : L 2 = true → v41 = .pointer (some ⟨p, 2, none⟩)
  t3 : L 3 = true → v42 = .slice al m c
  t4 : L 4 = true → v43 = .int .i64 (m : Int)
  t5 : L 5 = true → v44 = .int .i64 ((m : Int) + 1)
  t6 : L 6 = true → v45 = .slice (some ⟨gv, 0, none⟩) tl cv
  t7 : L 7 = true → v46 = .int .i64 (tl : Int)
  t8 : L 8 = true → v47 = .int .i64 (s : Int)
  t9 : L 9 = true → v11 = .int .i64 (s : Int)
  wq : wx = W0.drew
structure InvRAddD (h : List UInt8) (M told : List (List UInt8)) (al : Option Addr) (p n m c s tl g3 g6 g7 g8 gr gv cv D S0 : Nat) (d : List UInt8) (W0 : World) (L : Nat → Bool) (v48 v49 v50 v51 v52 v53 v54 v55 v56 v57 v58 v59 v60 : Value) (wx : World) : Prop where
  t0 : L 0 = true → v48 = .pointer (some ⟨p, 0, none⟩)
  t1 : L 1 = true → v49 = .pointer (some ⟨p, 0, none⟩)
  t2 : L 2 = true → v50 = .pointer (some ⟨p, 0, none⟩)
  t3 : L 3 = true → v51 = .pointer (some ⟨p, 2, none⟩)
  t4 : L 4 = true → v52 = .slice al m c
  t5 : L 5 = true → v53 = .int .i64 (s : Int)
  t6 : L 6 = true → v54 = .int .i64 (s : Int)
  t7 : L 7 = true → v55 = .slice al s s
  t8 : L 8 = true → v56 = .agg (bvs h).toArray
  t9 : L 9 = true → ∃ r, v57 = .slice (some ⟨r, 0, none⟩) 1 1 ∧ Arr wx r 29 (bvs h) ∧ S0 ≤ r
  t10 : L 10 = true → OwnD wx S0 v58 M
  t11 : L 11 = true → v59 = .pointer (some ⟨p, 0, none⟩)
  t12 : L 12 = true → v60 = .pointer (some ⟨p, 2, none⟩)
  ap : L 13 = false → Arr wx p 49 [.bool true, .int .u64 (n : Int), .slice al m c]
  apx : L 13 = true → Arr wx p 49 [.bool true, .int .u64 (n : Int), v58]
  a6 : Arr wx g6 29 (bvs h)
  a8 : Arr wx g8 30 [.slice (some ⟨gv, 0, none⟩) tl cv]
  own : OwnD wx gr (.slice (some ⟨gv, 0, none⟩) tl cv) told
  kb : KB (fun k => k = p) W0 wx
  kd : wx.heap[D]? = some (.deferred (some []))
  sz : S0 ≤ wx.heap.size
set_option maxRecDepth 100000 in
set_option maxHeartbeats 1600000 in
theorem Add_full {q : Nat → Prop} (p n : Nat) (P : List (List UInt8)) (d : List UInt8) (w : World) (h : IsR q w p n P) (hn : n = 1048576) :
    Calls Try.prog 9 #[.pointer (some ⟨p, 0, none⟩), .agg (bvs d).toArray] w fun e w' => e = .returned (.tuple #[.slice none 0 0, .int .i64 7]) ∧ Below w.heap.size w w' := by
  obtain ⟨al, c, hA, -, -⟩ := h.ex
  subst hn
  have HI := Lib.hid (fun wx (hb : Below w.heap.size w wx) => isR_any _ _ p true wx (hA.kept hb))
  have hc1 : Hid (∀ wx, Below w.heap.size w wx → wx.cell? ⟨p, 1, none⟩ = some (.int .u64 1048576)) := fun wx hb => by
    have := (hA.kept hb).cell 1
    simpa using this
  clear h hA
  go_enter Try.func9, Try.ntmps9
  go_wp2_with (first
    | ((with_reducible show wpList _ _ _ (⟨some 3, .box _ _, _, _, _, _⟩ :: _) _ _); refine wl_box rfl 29 _ rfl (bvs d) rfl ?_; intro w1 hA1 hb1 hs1; have c1 := hc1.out w1 hb1)
    | (go_at_call 21; refine (HI.out _ hb1).mono ?_; rintro e w0 ⟨rfl, rfl⟩))
  go_ret2
  exact ⟨rfl, hb1⟩
set_option maxRecDepth 100000 in
set_option maxHeartbeats 1600000 in
theorem Add_r {q : Nat → Prop} (p n : Nat) (P : List (List UInt8)) (d : List UInt8) (w : World) (h : IsR q w p n P) (hn : n < 1048576) (hd32 : d.length = 32) :
    Calls Try.prog 9 #[.pointer (some ⟨p, 0, none⟩), .agg (bvs d).toArray] w fun e w' => ∃ g gc, e = .returned (.tuple #[.slice (some ⟨g, 0, none⟩) (toldP n P d).length gc, .int .i64 0]) ∧ OwnD w' w.heap.size (.slice (some ⟨g, 0, none⟩) (toldP n P d).length gc) (toldP n P d) ∧ IsR (fun b => w.heap.size ≤ b ∧ b ≠ g) w' p (n + 1) (addP n P d) ∧ w.heap.size ≤ g ∧ KB (fun k => k = p) w w' := by
  have hle := h.le
  have hcnt := h.cnt
  obtain ⟨al, c, hA, hr, hab⟩ := h.ex
  obtain ⟨m, hm⟩ : ∃ m, m = P.length := ⟨_, rfl⟩
  rw [← hm] at hA hr
  have HM := Lib.hid hm
  have HI := Lib.hid (fun wx (hb : Below w.heap.size w wx) => isR_any _ _ p true wx (hA.kept hb))
  have hc1 : Hid (∀ wx, Below w.heap.size w wx → wx.cell? ⟨p, 1, none⟩ = some (.int .u64 (n : Int))) := fun wx hb => by
    have := (hA.kept hb).cell 1
    simpa using this
  have hpw := hA.lt
  have hnn : decide ((1048576 : Int) ≤ (n : Int)) = false := decide_eq_false (by omega)
  have hnn2 : decide (1048576 ≤ n) = false := decide_eq_false (by omega)
  have HN := Lib.hid hn
  have HLE := Lib.hid hle
  have h32d : Hid ((Try.prog.info? 29).map (·.size) = some (bvs d).length) := by show _ = _; rw [bvs_len, hd32]; exact sizeD
  have L32d : Hid ((bvs d).length = 32) := by show _ = _; rw [bvs_len, hd32]
  have hd32 := Lib.hid hd32
  have HA0 := Lib.hid hA
  have HR0 := Lib.hid hr
  clear hm h hn hle
  refine (callsIn_wide (n := 4)).1 ?_
  refine callsIn_of_wp_marks Try.func9 rfl trivial ?_ rfl
  refine wpIn_wide.2 ?_
  simp only [Try.ntmps9, List.size_toArray, List.length_cons, List.length_nil, Nat.reduceAdd, Nat.reduceSub, Array.replicate_succ, Array.replicate_zero, List.push_toArray, List.append_toArray, List.nil_append, List.cons_append]
  go_upto_region 5 with (first
    | ((with_reducible show wpList _ _ _ (⟨some 3, .box _ _, _, _, _, _⟩ :: _) _ _); refine wl_box rfl 29 _ rfl (bvs d) rfl ?_; intro w1 hA1 hb1 hs1; have c1 := hc1.out w1 hb1)
    | (go_at_call 21; refine (HI.out _ hb1).mono ?_; rintro e w0 ⟨rfl, rfl⟩))
  go_upto_region 6 with (first
    | ((with_reducible show wpList _ _ _ (⟨some 20, .load _ _, _, _, _, _⟩ :: _) _ _); refine wl_load rfl 29 _ rfl w.heap.size 0 rfl 29 (bvs d) (bvs d) hA1 (fun j v h => (by rw [Nat.zero_add]; exact h)) (.array 32 5) Try.underlying29 rfl h32d.out ?_)
    | ((with_reducible show wpList _ _ _ (⟨some 6, .alloc _, _, _, _, _⟩ :: _) _ _); refine wl_alloc rfl 29 rfl (bvs (Z8 32)) 32 infoD ?_; intro w2 hA2 hb2 hs2)
    | ((with_reducible show wpList _ _ _ (⟨some 7, .alloc _, _, _, _, _⟩ :: _) _ _); refine wl_alloc1 rfl 31 rfl (.int .u64 0) 1 info31 rfl ?_; intro w2b hA2b hb2b hs2b; replace hs2b := Lib.hid hs2b)
    | ((with_reducible show wpList _ _ _ (⟨none, .store _ (.tmp 7) _, _, _, _, _⟩ :: _) _ _); refine wl_store1 rfl 31 _ _ rfl w2.heap.size 0 rfl (.int .u64 1) rfl rfl rfl 31 _ (hA2b.grown hg3 (by intro e; injection e with e; omega)) size31 (by decide) ?_; intro w4 hA4 hg4 hs4; replace hs4 := Lib.hid hs4; rw [List.set_cons_zero] at hA4)
    | ((with_reducible show wpList _ _ _ (⟨none, .store _ (.tmp 6) _, _, _, _, _⟩ :: _) _ _); refine wl_store rfl 29 _ _ rfl w1.heap.size 0 rfl (bvs d) rfl 29 _ (hA2.kept hb2b) h32d.out (by rw [L32d.out]; exact (by decide : 0 + 32 ≤ (bvs (Z8 32)).length)) (bvs_one _) ?_; intro w3 hA3 hg3 hs3; replace hs3 := Lib.hid hs3; rw [whole_store _ _ (by rw [L32d.out]; rfl)] at hA3))
  go_simp
  go_upto_region 7 with (first
    | ((with_reducible show wpList _ _ _ (⟨some 21, .load _ _, _, _, _, _⟩ :: _) _ _); refine wl_load rfl 29 _ rfl w1.heap.size 0 rfl 29 (bvs d) (bvs d) (hA3.grown hg4 (by intro e; injection e with e; omega)) (fun j v h => (by rw [Nat.zero_add]; exact h)) (.array 32 5) Try.underlying29 rfl h32d.out ?_)
    | ((with_reducible show wpList _ _ _ (⟨some 22, .buildSlice _ _ _, _, _, _, _⟩ :: _) _ _); refine wl_litD rfl 21 rfl d hd32.out rfl ?_; intro w5 hA5 hb5)
    | ((with_reducible show wpList _ _ _ (⟨some 8, .alloc _, _, _, _, _⟩ :: _) _ _); refine wl_alloc1 rfl 30 rfl (.slice none 0 0) 1 infoSD rfl ?_; intro w6 hA6 hb6 hs6; replace hs6 := Lib.hid hs6)
    | ((with_reducible show wpList _ _ _ (⟨none, .store _ (.tmp 8) _, _, _, _, _⟩ :: _) _ _); refine wl_store1 rfl 30 _ _ rfl w5.heap.size 0 rfl (.slice (some ⟨w4.heap.size, 0, none⟩) 1 1) rfl rfl rfl 30 _ hA6 sizeSD (by decide) ?_; intro w7 hA7 hg7 hs7; replace hs7 := Lib.hid hs7; rw [List.set_cons_zero] at hA7))
  go_simp
  replace hs2b := hs2b.out
  replace hs3 := hs3.out
  replace hs4 := hs4.out
  replace hs6 := hs6.out
  replace hs7 := hs7.out
  have z1 := hb1.size
  have z2 := hb2.size
  have z2b := hb2b.size
  have z5 := hb5.size
  have z6 := hb6.size
  have y5 := hA5.lt
  have y6 := hA6.lt
  have y4 := hA4.lt
  have y3 := hA3.lt
  have B2 : Below w.heap.size w w2b := hb1.trans ((hb2.mono z1).trans (hb2b.mono (by omega)))
  have B4 : Below w.heap.size w w4 := (B2.grown hg3 (by omega) (by intro k e; injection e with e; omega)).grown hg4 (by omega) (by intro k e; injection e with e; omega)
  have B7 : Below w.heap.size w w7 := ((B4.trans (hb5.mono (by omega))).trans (hb6.mono (by omega))).grown hg7 (by omega) (by intro k e; injection e with e; omega)
  have X6 : Arr w7 w1.heap.size 29 (bvs d) := (((hA3.grown hg4 (by intro e; injection e with e; omega)).kept hb5).kept hb6).grown hg7 (by intro e; injection e with e; omega)
  have X7 : Arr w7 w2.heap.size 31 [.int .u64 1] := ((hA4.kept hb5).kept hb6).grown hg7 (by intro e; injection e with e; omega)
  have XR : Arr w7 w4.heap.size 29 (bvs d) := (hA5.kept hb6).grown hg7 (by intro e; injection e with e; omega)
  obtain ⟨g3, hg3'⟩ : ∃ g, g = w.heap.size := ⟨_, rfl⟩
  obtain ⟨g6, hg6'⟩ : ∃ g, g = w1.heap.size := ⟨_, rfl⟩
  obtain ⟨g7, hg7'⟩ : ∃ g, g = w2.heap.size := ⟨_, rfl⟩
  obtain ⟨gr, hgr'⟩ : ∃ g, g = w4.heap.size := ⟨_, rfl⟩
  obtain ⟨g8, hg8'⟩ : ∃ g, g = w5.heap.size := ⟨_, rfl⟩
  have q1 : g3 < g6 := by omega
  have q2 : g6 < g7 := by omega
  have q3 : g7 < gr := by omega
  have q4 : gr < g8 := by omega
  have s7 : w7.heap.size = g8 + 1 := by omega
  rw [← hg6'] at X6
  rw [← hg7'] at X7
  rw [← hgr'] at XR
  rw [← hg8', ← hgr'] at hA7
  rw [← hg6', ← hg7', ← hgr', ← hg8', ← hg3']
  have HG3 := Lib.hid hg3'
  have A7 := hA.kept B7
  have R7 := hr.to B7
  have S7 := Lib.hid s7
  clear hA1 hA2 hA2b hA3 hA4 hA5 hA6 hb1 hb2 hb2b hb5 hb6 hg3 hg4 hg7 hs1 hs2 hs2b hs3 hs4 hs6 hs7 z1 z2 z2b z5 z6 y5 y6 y4 y3 B2 B4 hg3' hg6' hg7' hgr' hg8' hA hr c1 s7
  go_wp2_with (go_at_call 23; refine (fromLast_any _ _).mono ?_; rintro e w8 ⟨rfl, hw8⟩)
  have hx := Boxed.new w7 23 (.pointer (some ⟨p, 0, none⟩))
  have hb8 : Below w7.heap.size w7 (w7.alloc (.cells #[.pointer (some ⟨p, 0, none⟩)] 23)) := hal _ _
  have hs8 : (w7.alloc (.cells #[.pointer (some ⟨p, 0, none⟩)] 23)).heap.size = w7.heap.size + 1 := by simp
  clear hw8
  rw [S7.out]
  generalize w7.alloc (.cells #[.pointer (some ⟨p, 0, none⟩)] 23) = w8 at *
  rw [S7.out] at hx hs8
  have X6 := X6.kept hb8
  have X7 := X7.kept hb8
  have X8 := hA7.kept hb8
  have XR := XR.kept hb8
  have B8 : Below w.heap.size w w8 := B7.trans (hb8.mono B7.size)
  have A8 := A7.kept hb8
  have R8 := R7.to hb8
  have qw : w.heap.size = g3 := HG3.out.symm
  have XO : OwnD w8 gr (.slice (some ⟨gr, 0, none⟩) 1 1) [d] := OwnD.made (by rw [show dcs [d] = bvs d by simp [dcs]]; exact XR) rfl (All32.of (by simp [hd32.out])) (Nat.le_refl _) (by decide)
  clear hb8 B7 A7 R7 hA7 S7 XR
  have hww : w.heap.size ≤ w8.heap.size := B8.size
  have q5 : w8.heap.size = g8 + 2 := by omega
  clear hs8
  have hP32 := R8.all
  have hPl := R8.len
  have hmn : m = (lowP 1 n).length := by rw [hPl] at hcnt; exact hcnt
  have HMN := Lib.hid hmn
  have HX32 : Hid (∀ ch : PkAt m, (P.getD (m - 1 - ch.1) []).length = 32) := fun ch => hP32 _ (by have := ch.2; omega)
  refine (wpIn_wide (n := 4)).1 ?_
  refine wpIn_rangeFunc_ownH (n := 4) rfl (by omega) (gf := 33) (lb := #[.pointer (some ⟨g8 + 1, 0, none⟩)]) rfl trivial (enters_of Try.func33 (by kernel_rfl) rfl)
    (fromLast_stops 3 (by omega) (g8 + 1) p n m c w.heap.size P al HLE.out hmn (by omega) (fun ad e => (hab ad e).2.1) w8 hx A8 R8)
    (fun h k => h.trans k) (fun W l o o' hl ho _ _ => ⟨(Below.refl _ _).grown (grownBy_putObj' W l o') (by have := (Array.getElem?_eq_some_iff.1 ho).1; omega) (by intro k e; injection e with e; omega), World.putObj_heap_other (by omega)⟩) (Below.refl _ _) (fun _ => rfl)
    (fun pre W => AddI n m p g6 g7 g8 gr w8.heap.size P d w pre W)
    (fun cc pre W => cc = Code.exit 0 ∧ AddX n m g6 g8 gr w8.heap.size P d w pre W)
    ?own ?ownx
    ⟨d, 1, [d], _, fun _ _ => ⟨rfl, [], rfl, rfl⟩, hd32.out, rfl, by omega, X6, X7, X8, XO, hx, B8, Nat.le_refl _⟩
    (fun ch a' W => AddAx m w8.heap.size P (AddU m p n g3 g6 g7 g8 gr P d) ch a' W)
    (fun ch a' s A B row hs hg hr => by obtain ⟨g10, h1, h2, h3⟩ := hs; exact ⟨g10, h1, arr_owned h2 hg (fun r e => (hr r e).2), h3⟩)
    ?assign ?body ?done ?stop
  case own =>
    intro pre A B row hs hg hr
    obtain ⟨h, Ln, told, v, h1, h2, h3, h4, h5, h6, h7, h8, h9, h10, h11⟩ := hs
    have hc := fun r e => (hr r e).2
    exact ⟨h, Ln, told, v, h1, h2, h3, h4, arr_owned h5 hg hc, arr_owned h6 hg hc, arr_owned h7 hg hc, ownD_owned h8 hg hc, boxed_owned h9 hg hc, below_owned h10 (by omega) hg (fun r e => by have := (hr r e).1; omega), by have := hg.size; omega⟩
  case ownx =>
    rintro cc pre A B row ⟨rfl, hs⟩ hg hr
    obtain ⟨pr, ch, h, Ln, told, v, h0, h1, hne, h2, h3, h5, h7, h8, h10, h11⟩ := hs
    have hc := fun r e => (hr r e).2
    exact ⟨rfl, pr, ch, h, Ln, told, v, h0, h1, hne, h2, h3, arr_owned h5 hg hc, arr_owned h7 hg hc, ownD_owned h8 hg hc, below_owned h10 (by omega) hg (fun r e => by have := (hr r e).1; omega), by have := hg.size; omega⟩
  case assign =>
    intro l pre ch W K hi hK
    dsimp only [pkV]
    have hX32 := HX32.out ch
    clear hmn hP32 hPl hcnt R8
    obtain ⟨X, hX⟩ : ∃ X, X = P.getD (m - 1 - ch.1) [] := ⟨_, rfl⟩
    obtain ⟨A, hA⟩ : ∃ A, A = lowAt n ch.1 := ⟨_, rfl⟩
    rw [← hX] at hX32 ⊢
    rw [← hA] at ⊢
    have HX := Lib.hid hX
    have HA := Lib.hid hA
    have h32 : Hid ((Try.prog.info? 29).map (·.size) = some (bvs X).length) := by show _ = _; rw [bvs_len, hX32]; exact sizeD
    have L32 : Hid ((bvs X).length = 32) := by show _ = _; rw [bvs_len, hX32]
    clear hX hA
    obtain ⟨h, Ln, told, v, h1, h2, h3, h4, h5, h6, h7, h8, h9, h10, h11⟩ := hi
    refine wpIn_seq ?_
    refine regionIn_list (.round l) (by rintro ⟨a, w, e⟩; exact e) rfl ?_
    go_wp2
    refine regionIn_list (.round l) (by rintro ⟨a, w, e⟩; exact e) rfl ?_
    go_wp2_with (first
      | ((with_reducible show wpList _ _ _ (⟨some 10, .alloc _, _, _, _, _⟩ :: _) _ _); refine wl_alloc rfl 29 rfl (bvs (Z8 32)) 32 infoD ?_; intro W1 hA1 hb1 hs1)
      | ((with_reducible show wpList _ _ _ (⟨none, .store _ _ _, _, _, _, _⟩ :: _) _ _); refine wl_store rfl 29 _ _ rfl W.heap.size 0 rfl (bvs X) rfl 29 _ hA1 h32.out (by rw [L32.out]; exact (by decide : 0 + 32 ≤ (bvs (Z8 32)).length)) (bvs_one _) ?_; intro W2 hA2 hg2 hs2))
    rw [whole_store _ _ (by rw [L32.out]; rfl)] at hA2
    have hB : Below W.heap.size W W2 := hb1.grown hg2 (by omega) (by intro k e; injection e with e; omega)
    exact hK _ _ (keeps_below hB) ⟨hB.mono h10.size, hB.block _ (Boxed.lt h9)⟩ ⟨h, Ln, told, v, h1, h2, h3, h4, h5.kept hB, h6.kept hB, h7.kept hB, h8.to hB, (hB.block _ (Boxed.lt h9)).trans h9, h10.trans (hB.mono h10.size), Nat.le_trans h11 hB.size⟩ ⟨W.heap.size, h11, HX.out ▸ hA2, by unfold AddU; rw [← HX.out, ← HA.out]; rfl⟩
  case body =>
    rintro l pre ch a' W hl _ ⟨h, Ln, told, v, h1, h2, h3, h4, h5, h6, h7, h8, h9, h10, h11⟩ ⟨g10, hg10, hA10, rfl⟩ hlen
    unfold AddU
    have hX32 := HX32.out ch
    have hAb := lowAt_bounds (n := n) (k := ch.1) (by rw [← HMN.out]; exact ch.2)
    have hsn : (pre ++ [ch]).map (·.1) = List.range (pre ++ [ch]).length → pre.map (·.1) = List.range pre.length ∧ ch.1 = pre.length := fun e => by
      rw [List.map_append, List.length_append, List.length_singleton, List.range_succ] at e
      have := List.append_inj e (by simp)
      exact ⟨this.1, by simpa using this.2⟩
    have hdr : ch.1 = pre.length → (pkZ n P).drop pre.length = (lowAt n ch.1, P.getD (m - 1 - ch.1) []) :: (pkZ n P).drop (pre.length + 1) := fun e => by
      have := pkZ_drop (n := n) (P := P) (k := pre.length) hcnt (by rw [hPl]; exact hlen)
      rw [this, e, hPl]
    have HSN := Lib.hid hsn
    have HDR := Lib.hid hdr
    have H1 := Lib.hid h1
    have HLEN := Lib.hid hlen
    have H3 := Lib.hid h3
    have H4 := Lib.hid h4
    have H11 := Lib.hid h11
    have G10 : g8 + 2 ≤ g10 := by omega
    have Q5 := Lib.hid q5
    have QW := Lib.hid qw
    clear hmn hP32 hPl hcnt R8 hsn hdr h1 hlen q5 qw h3 h4 h11 X6 X7 X8 XO A8
    obtain ⟨X, hX⟩ : ∃ X, X = P.getD (m - 1 - ch.1) [] := ⟨_, rfl⟩
    obtain ⟨A, hA⟩ : ∃ A, A = lowAt n ch.1 := ⟨_, rfl⟩
    rw [← hX] at hX32 hA10 HDR ⊢
    rw [← hA] at hAb HDR ⊢
    have HA := Lib.hid hA
    have HAB := Lib.hid hAb
    clear hX hA hAb
    have c7 := h6.cell 0
    simp only [List.getElem?_cons_zero] at c7
    refine wpIn_block ?_
    refine wpIn_seq ?_
    refine wpIn_seq ?_
    refine regionIn_list (.round l) (by rintro ⟨a, w, e⟩; exact e) rfl ?_
    by_cases hAL : A = Ln
    · obtain rfl := hAL
      have hq : Hid (IntKind.u64.wrap (2 * (A : Int)) = 2 * (A : Int)) := by
        show _ = _
        have := HAB.out
        have := HN.out
        rw [IntKind.wrap_u64]
        omega
      have h32 : Hid ((Try.prog.info? 29).map (·.size) = some (bvs X).length) := by show _ = _; rw [bvs_len, hX32]; exact sizeD
      have h32h : Hid ((Try.prog.info? 29).map (·.size) = some (bvs h).length) := by show _ = _; rw [bvs_len, h2]; exact sizeD
      have L32h : Hid ((bvs h).length = 32) := by show _ = _; rw [bvs_len, h2]
      have HND := Lib.hid (fun wx => Node_any X h wx hX32 h2)
      have hnl : (nodeH X h).length = 32 := shaL_len _
      obtain ⟨Y, hY⟩ : ∃ Y, Y = nodeH X h := ⟨_, rfl⟩
      rw [← hY] at hnl HND
      have HY := Lib.hid hY
      have h32y : Hid ((Try.prog.info? 29).map (·.size) = some (bvs Y).length) := by show _ = _; rw [bvs_len, hnl]; exact sizeD
      have L32y : Hid ((bvs Y).length = 32) := by show _ = _; rw [bvs_len, hnl]
      have HNL := Lib.hid hnl
      clear hY hnl hX32 h2
      go_wp2
      refine wpIn_cond_false rfl ?_
      refine wpIn_skip ?_
      change Code.wpIn _ _ _ _ _ _ _
      refine wpIn_seq ?_
      refine wpIn_region_steps (.round l) (by rintro ⟨a, w, e⟩; exact e) [[], [], [0, 1], [], [3], [2, 0, 1], [4, 5, 0, 1, 2, 3]] (by kernel_rfl) (by kernel_rfl) rfl (fun L a wx => ∃ v30 v31 v32 v33 v34, a = ⟨#[.pointer (some ⟨p, 0, none⟩), .agg (bvs d).toArray, undef, .pointer (some ⟨g3, 0, none⟩), .slice none 0 0, .int .i64 0, .pointer (some ⟨g6, 0, none⟩), .pointer (some ⟨g7, 0, none⟩), .pointer (some ⟨g8, 0, none⟩), .int .u64 ↑A, .pointer (some ⟨g10, 0, none⟩), undef, .pointer (some ⟨p, 0, none⟩), .bool true, .bool false, .pointer (some ⟨p, 0, none⟩), .pointer (some ⟨p, 0, none⟩), .pointer (some ⟨p, 1, none⟩), .int .u64 ↑n, .bool false, .agg (bvs d).toArray, .agg (bvs d).toArray, .slice (some ⟨gr, 0, none⟩) 1 1, .pointer (some ⟨p, 0, none⟩), .func (.func 33) #[] #[.pointer (some ⟨g8 + 1, 0, none⟩)], .int .u64 ↑A, .agg (bvs X).toArray, .int .u64 ↑A, .int .u64 ↑A, .bool false, v30, v31, v32, v33, v34, undef, undef, undef, undef, undef, undef, undef, undef, undef, undef, undef, undef, undef, undef, undef, undef, undef, undef, undef, undef, undef, undef, undef, undef, undef, undef, undef, undef, undef, undef, undef, undef, undef, undef], []⟩ ∧ InvRAdd X h Y told v A p n g3 g6 g7 g8 g10 gr d W L v30 v31 v32 v33 v34 wx) ?_ ⟨?_, ?_, ?_, ?_, ?_, ?_, ?_, trivial⟩ ?_
      · refine ⟨_, _, _, _, _, rfl, ⟨?_, ?_, ?_, ?_, ?_, hA10.drew, h5.drew, h6.drew, h7.drew, h8.to (Below.refl _ _).drew, (KB.refl _ _).drew⟩⟩ <;> (intro h; exact absurd h (by decide))
      · rintro L a wx ⟨v30, v31, v32, v33, v34, rfl, hI⟩ hL hdep hcl K hK
        refine ow_load 29 _ rfl g10 0 rfl 29 (bvs X) (bvs X) hI.a10 (fun j v h => by rw [Nat.zero_add]; exact h) (.array 32 5) Try.underlying29 rfl h32.out ?_
        exact hK _ _ ⟨_, v31, v32, v33, v34, rfl, ⟨fun _ => rfl, hI.t1, hI.t2, hI.t3, hI.t4, hI.a10, hI.a6, hI.a7, hI.a8, hI.own, hI.kb⟩⟩
      · rintro L a wx ⟨v30, v31, v32, v33, v34, rfl, hI⟩ hL hdep hcl K hK
        have hA6 : Arr wx g6 29 (bvs h) := by
          have h7 := hI.a6
          cases h6 : L 5 with
          | true =>
            have h4 := hcl 5 (by decide) h6 1 (by decide)
            rw [hL] at h4
            cases h4
          | false =>
            rw [h6] at h7
            exact h7
        refine ow_load 29 _ rfl g6 0 rfl 29 (bvs h) (bvs h) hA6 (fun j v h => by rw [Nat.zero_add]; exact h) (.array 32 5) Try.underlying29 rfl h32h.out ?_
        exact hK _ _ ⟨v30, _, v32, v33, v34, rfl, ⟨hI.t0, fun _ => rfl, hI.t2, hI.t3, hI.t4, hI.a10, hI.a6, hI.a7, hI.a8, hI.own, hI.kb⟩⟩
      · rintro L a wx ⟨v30, v31, v32, v33, v34, rfl, hI⟩ hL hdep hcl K hK
        obtain rfl := hI.t0 (hdep 0 (by decide))
        obtain rfl := hI.t1 (hdep 1 (by decide))
        have HC := HND.out wx
        go_simp
        refine HC.mono ?_
        rintro e w' ⟨rfl, hb⟩
        exact hK _ _ ⟨_, _, _, v33, v34, rfl, ⟨hI.t0, hI.t1, fun _ => rfl, hI.t3, hI.t4, (hI.a10).kept hb, (hI.a6).kept hb, (hI.a7).kept hb, (hI.a8).kept hb, (hI.own).to hb, (hI.kb).below hb⟩⟩
      · rintro L a wx ⟨v30, v31, v32, v33, v34, rfl, hI⟩ hL hdep hcl K hK
        have hA7 : Arr wx g7 31 [.int .u64 (A : Int)] := by
          have h7 := hI.a7
          cases h6 : L 6 with
          | true =>
            have h4 := hcl 6 (by decide) h6 3 (by decide)
            rw [hL] at h4
            cases h4
          | false =>
            rw [h6] at h7
            exact h7
        have c7 := hA7.cell 0
        simp only [List.getElem?_cons_zero] at c7
        go_simp
        exact hK _ _ ⟨v30, v31, v32, _, v34, rfl, ⟨hI.t0, hI.t1, hI.t2, fun _ => rfl, hI.t4, hI.a10, hI.a6, hI.a7, hI.a8, hI.own, hI.kb⟩⟩
      · rintro L a wx ⟨v30, v31, v32, v33, v34, rfl, hI⟩ hL hdep hcl K hK
        obtain rfl := hI.t3 (hdep 3 (by decide))
        go_simp
        rw [hq.out]
        exact hK _ _ ⟨v30, v31, v32, _, _, rfl, ⟨hI.t0, hI.t1, hI.t2, hI.t3, fun _ => rfl, hI.a10, hI.a6, hI.a7, hI.a8, hI.own, hI.kb⟩⟩
      · rintro L a wx ⟨v30, v31, v32, v33, v34, rfl, hI⟩ hL hdep hcl K hK
        obtain rfl := hI.t2 (hdep 2 (by decide))
        obtain rfl := hI.t0 (hdep 0 (by decide))
        obtain rfl := hI.t1 (hdep 1 (by decide))
        have hA6 : Arr wx g6 29 (bvs h) := by
          have h7 := hI.a6
          rw [hL] at h7
          exact h7
        refine ow_store 29 _ _ rfl g6 0 rfl (bvs Y) rfl 29 _ hA6 h32y.out (by rw [L32y.out, L32h.out]; decide) (bvs_one _) ?_
        intro w' hA6' hg hs
        rw [whole_store _ _ (L32h.out.trans L32y.out.symm)] at hA6'
        exact hK _ _ ⟨_, _, _, v33, v34, rfl, ⟨hI.t0, hI.t1, hI.t2, hI.t3, hI.t4, hI.a10.grown hg (by intro e; injection e with e; omega), hA6', hI.a7.grown hg (by intro e; injection e with e; omega), hI.a8.grown hg (by intro e; injection e with e; omega), hI.own.by hg (own_low hI.own.row (by omega)), hI.kb.grown hg (.inl rfl)⟩⟩
      · rintro L a wx ⟨v30, v31, v32, v33, v34, rfl, hI⟩ hL hdep hcl K hK
        obtain rfl := hI.t4 (hdep 4 (by decide))
        obtain rfl := hI.t0 (hdep 0 (by decide))
        obtain rfl := hI.t1 (hdep 1 (by decide))
        obtain rfl := hI.t2 (hdep 2 (by decide))
        obtain rfl := hI.t3 (hdep 3 (by decide))
        have hA7 : Arr wx g7 31 [.int .u64 (A : Int)] := by
          have h7 := hI.a7
          rw [hL] at h7
          exact h7
        refine ow_store1 31 _ _ rfl g7 0 rfl (.int .u64 (2 * (A : Int))) rfl rfl rfl 31 _ hA7 size31 (by simp) ?_
        intro w' hA7' hg hs
        rw [List.set_cons_zero] at hA7'
        exact hK _ _ ⟨_, _, _, _, _, rfl, ⟨hI.t0, hI.t1, hI.t2, hI.t3, hI.t4, hI.a10.grown hg (by intro e; injection e with e; omega), hI.a6.grown hg (by intro e; injection e with e; omega), hA7', hI.a8.grown hg (by intro e; injection e with e; omega), hI.own.by hg (own_low hI.own.row (by omega)), hI.kb.grown hg (.inr (.inl rfl))⟩⟩
      · rintro a wx ⟨v30, v31, v32, v33, v34, rfl, hI⟩
        have hA6 : Arr wx g6 29 (bvs Y) := hI.a6
        have hA7 : Arr wx g7 31 [.int .u64 (2 * (A : Int))] := hI.a7
        have hA8 := hI.a8
        have hO := hI.own
        have hkb := hI.kb
        clear hI
        change Code.wpIn _ _ _ _ _ _ _
        refine regionIn_list (.round l) (by rintro ⟨a, w, e⟩; exact e) rfl ?_
        have c8 := hA8.cell 0
        simp only [List.getElem?_cons_zero] at c8
        have HL : Hid (told.length + 1 ≤ 6000000000000) := by
          show _ ≤ _
          have y1 := H3.out
          have y2 := HLEN.out
          have y3 := HMN.out
          have y4 := lowP_len_lt 21 n 1 (by have := HN.out; omega)
          omega
        go_wp2_with (first
          | ((with_reducible show wpList _ _ _ (⟨some 36, .load _ _, _, _, _, _⟩ :: _) _ _); refine wl_load rfl 29 _ rfl g6 0 rfl 29 (bvs Y) (bvs Y) hA6 (fun j v h => (by rw [Nat.zero_add]; exact h)) (.array 32 5) Try.underlying29 rfl h32y.out ?_)
          | ((with_reducible show wpList _ _ _ (⟨some 37, .buildSlice _ _ _, _, _, _, _⟩ :: _) _ _); refine wl_litD rfl 36 rfl Y HNL.out rfl ?_; intro W1 hL1 hb1)
          | (at_builtin; refine wl_appendDg rfl (.tmp 35) (.tmp 37) rfl gr v told rfl (hO.to hb1) wx.heap.size Y rfl hL1 HNL.out HL.out (by have := hA8.lt; have := hb1.size; omega) ?_; intro v2 W2 hO2 hg2 hB2)
          | ((with_reducible show wpList _ _ _ (⟨none, .store _ _ _, _, _, _, _⟩ :: _) _ _); refine wl_store1 rfl 30 _ _ rfl g8 0 rfl v2 rfl (cells_own hO2.row) (one_own hO2.row) 30 _ ((hA8.kept hb1).grown hg2 (arr_row (hA8.kept hb1) (hO.to hb1).row (by decide))) sizeSD (by simp) ?_; intro W3 hA8' hg3 hs3; rw [List.set_cons_zero] at hA8'))
        have hrow := (hO.to hb1).row
        have hOB := World.ownsRow.lt hO.row
        have KB3 : KB (fun k => k = g6 ∨ k = g7 ∨ k = g8 ∨ some k = v.ownBlock) W W3 := by
          have k1 := hkb.below hb1
          have k2 : KB (fun k => k = g6 ∨ k = g7 ∨ k = g8 ∨ some k = v.ownBlock) W W2 := by
            cases hv : v.ownBlock with
            | none => rw [hv] at hg2; rw [hv] at k1; exact k1.grownN hg2
            | some q => rw [hv] at hg2; rw [hv] at k1; exact k1.grown hg2 (.inr (.inr (.inr rfl)))
          exact k2.grown hg3 (.inr (.inr (.inl rfl)))
        have hz := HAB.out
        have hzn := HN.out
        have q5 := Q5.out
        have qw := QW.out
        have hO3 : OwnD W3 gr v2 (told ++ [Y]) := hO2.by hg3 (row_arr hO2.row ((hA8.kept hb1).grown hg2 (arr_row (hA8.kept hb1) hrow (by decide))) (by decide))
        have hA6' : Arr W3 g6 29 (bvs Y) := ((hA6.kept hb1).grown hg2 (own_low' hrow (by omega))).grown hg3 (by intro e; injection e with e; omega)
        have hA7' : Arr W3 g7 31 [.int .u64 (((2 * A : Nat) : Int))] := ((hA7.kept hb1).grown hg2 (own_low' hrow (by omega))).grown hg3 (by intro e; injection e with e; omega)
        have hzk : ∀ k, (k = g6 ∨ k = g7 ∨ k = g8 ∨ some k = v.ownBlock) → g6 ≤ k ∧ k ≠ g8 + 1 := fun k hk => by
          rcases hk with e | e | e | e
          · omega
          · omega
          · omega
          · have y1 := hOB k e.symm
            refine ⟨by omega, fun e2 => ?_⟩
            subst e2
            exact arr_row (ys := [_]) h9 h8.row (by decide) e
        have hfin : KeepsFrom w8.heap.size W W3 ∧ KeptR w.heap.size (g8 + 1) W W3 ∧ AddI n m p g6 g7 g8 gr w8.heap.size P d w (pre ++ [ch]) W3 := by
          refine ⟨keeps_kb KB3 (fun k hk => ?_), ⟨KB3.under (fun k hk => by have := (hzk k hk).1; omega) (by have := h5.lt; omega), KB3.block _ (Boxed.lt h9) (fun e => (hzk _ e).2 rfl)⟩,
            ⟨Y, 2 * A, told ++ [Y], v2, fun e1 e2 => ?_, HNL.out, by rw [List.length_append, List.length_append, List.length_singleton, List.length_singleton, H3.out], by omega, hA6', hA7', hA8', hO3, (KB3.block _ (Boxed.lt h9) (fun e => (hzk _ e).2 rfl)).trans h9, h10.trans (KB3.under (fun k hk => by have := (hzk k hk).1; omega) (by have := h5.lt; omega)), Nat.le_trans H11.out KB3.size⟩⟩
          · rcases hk with rfl | rfl | rfl | hk
            · exact arr_cells h5
            · exact arr_cells h6
            · exact arr_cells h7
            · exact own_cells h8.row hk.symm
          · obtain ⟨y1, y2⟩ := HSN.out e1
            rw [List.length_append, List.length_singleton] at e2
            obtain ⟨y3, T, y4, y5⟩ := H1.out y1 (by omega)
            have y6 := HDR.out y2
            rw [y6, carry, if_pos rfl] at y3
            rw [y6, carryT, if_pos rfl] at y5
            rw [List.length_append, List.length_singleton]
            refine ⟨?_, told, ?_, ?_⟩
            · rw [y3, HY.out, show A + A = 2 * A by omega]
            · rfl
            · rw [y5, HY.out, show A + A = 2 * A by omega, y4]
              simp
        exact hfin
    · have hal : ¬ ((A : Int) = (Ln : Int)) := by omega
      go_wp2
      refine wpIn_cond_true (by first | rfl | exact congrArg Value.bool (by simp; omega)) ?_
      refine wpIn_exit ?_
      have hfin : KeepsFrom w8.heap.size W W ∧ Code.exit 0 = Code.exit 0 ∧ AddX n m g6 g8 gr w8.heap.size P d w (pre ++ [ch]) W :=
        ⟨KeepsFrom.refl _ _, rfl, pre, ch, h, Ln, told, v, rfl, H1.out, by rw [← HA.out]; exact hAL, h2, H3.out, h5, h7, h8, h10, H11.out⟩
      exact hfin
  case done =>
    rintro D ys W hD hys ⟨h, Ln, told, v, h1, h2, h3, h4, h5, h6, h7, h8, h9, h10, h11⟩ hK
    have hyl : ys.length = m := by rw [← List.length_map (f := (·.1)), hys, List.length_range]
    obtain ⟨e1, e2⟩ := h1 (by rw [hyl]; exact hys) (by omega)
    have h10' := h10
    obtain ⟨k, hk⟩ : ∃ k, k = ys.length := ⟨_, rfl⟩
    rw [← hk] at e1 e2 h3 hyl
    have hs : k = P.length ∨ ∃ A X, (pkZ n P).drop k = (A, X) :: (pkZ n P).drop (k + 1) ∧ A ≠ Ln := .inl (by omega)
    clear hk h1 hys h4 h6 h9
    have hPm : P.length = m := hPl
    have HCNT := Lib.hid (show m = popN n from hmn)
    obtain ⟨HT1, HT2⟩ := add_stop (n := n) (k := k) (Ln := Ln) (P := P) (told := told) (d := d) (h := h) hcnt (by omega) e1 e2 hs
    rw [hPm] at HT1
    have hm21 : m ≤ 21 := by rw [hmn]; exact lowP_len_lt 21 n 1 (by have := HN.out; omega)
    obtain ⟨gv, cv, rfl, hgv, hgv2⟩ := h8.solid (by omega)
    obtain ⟨tl, ht1⟩ : ∃ tl, tl = told.length := ⟨_, rfl⟩
    rw [← ht1] at h7 h8 h3
    have HTL := Lib.hid ht1
    obtain ⟨s, hs'⟩ : ∃ s, s = m - k := ⟨_, rfl⟩
    have HS : Hid ((m : Int) + 1 - (tl : Int) = (s : Int)) := by show _ = _; omega
    have HW : Hid (IntKind.i64.wrap ((m : Int) + 1) = (m : Int) + 1) := by show _ = _; rw [IntKind.wrap_i64]; omega
    have HWN : Hid (IntKind.u64.wrap ((n : Int) + 1) = ((n + 1 : Nat) : Int)) := by show _ = _; have := HN.out; rw [IntKind.wrap_u64]; omega
    have HWS : Hid (IntKind.i64.wrap (s : Int) = (s : Int)) := by show _ = _; rw [IntKind.wrap_i64]; omega
    rw [← hs'] at HT1
    have H3 := Lib.hid h3
    have hsm : s ≤ m := by omega
    have HT1 := Lib.hid HT1
    have HT2 := Lib.hid HT2
    have hAp : Arr W p 49 [.bool true, .int .u64 (n : Int), .slice al m c] := HA0.out.kept h10'
    have hRp : RdD W al m c P := HR0.out.to h10'
    have h32h : Hid ((Try.prog.info? 29).map (·.size) = some (bvs h).length) := by show _ = _; rw [bvs_len, h2]; exact sizeD
    have H2 := Lib.hid h2
    have Q5 := Lib.hid q5
    have QW := Lib.hid qw
    have HKD := Lib.hid hK
    have hDp : D ≠ p := by omega
    have hp3 : p < g3 := by omega
    have hcap := R8.le
    clear h3 hyl hs ht1 hs' h2 e1 e2 hmn hP32 hcnt q5 qw X6 X7 X8 XO A8 R8 hK HX32
    go_upto_region 13 with fail
    refine wp_region_steps [[], [0], [1], [2], [3], [4], [], [6], [5, 7], [8]] (by kernel_rfl) (by kernel_rfl) (fun L a wx => ∃ v39 v40 v41 v42 v43 v44 v45 v46 v47 v11, a = ⟨#[.pointer (some ⟨p, 0, none⟩), .agg (bvs d).toArray, undef, .pointer (some ⟨g3, 0, none⟩), .slice none 0 0, .int .i64 0, .pointer (some ⟨g6, 0, none⟩), .pointer (some ⟨g7, 0, none⟩), .pointer (some ⟨g8, 0, none⟩), undef, undef, v11, .pointer (some ⟨p, 0, none⟩), .bool true, .bool false, .pointer (some ⟨p, 0, none⟩), .pointer (some ⟨p, 0, none⟩), .pointer (some ⟨p, 1, none⟩), .int .u64 ↑n, .bool false, .agg (bvs d).toArray, .agg (bvs d).toArray, .slice (some ⟨gr, 0, none⟩) 1 1, .pointer (some ⟨p, 0, none⟩), .func (.func 33) #[] #[.pointer (some ⟨g8 + 1, 0, none⟩)], undef, undef, undef, undef, undef, undef, undef, undef, undef, undef, undef, undef, undef, undef, v39, v40, v41, v42, v43, v44, v45, v46, v47, undef, undef, undef, undef, undef, undef, undef, undef, undef, undef, undef, undef, undef, undef, undef, undef, undef, undef, undef, undef, undef], [{ target := .collected D, args := #[] }]⟩ ∧ InvRAddC al p n m c s tl g3 g6 g7 g8 gr gv cv d W L v39 v40 v41 v42 v43 v44 v45 v46 v47 v11 wx) ?_ ⟨?_, ?_, ?_, ?_, ?_, ?_, ?_, ?_, ?_, ?_, trivial⟩ ?_
    · refine ⟨_, _, _, _, _, _, _, _, _, _, rfl, ⟨?_, ?_, ?_, ?_, ?_, ?_, ?_, ?_, ?_, ?_, rfl⟩⟩ <;> (intro h; exact absurd h (by decide))
    · rintro L a wx ⟨v39, v40, v41, v42, v43, v44, v45, v46, v47, v11, rfl, hI⟩ hL hdep hcl K hK
      go_simp
      exact hK _ _ ⟨_, v40, v41, v42, v43, v44, v45, v46, v47, v11, rfl, ⟨fun _ => rfl, hI.t1, hI.t2, hI.t3, hI.t4, hI.t5, hI.t6, hI.t7, hI.t8, hI.t9, hI.wq⟩⟩
    · rintro L a wx ⟨v39, v40, v41, v42, v43, v44, v45, v46, v47, v11, rfl, hI⟩ hL hdep hcl K hK
      obtain rfl := hI.t0 (hdep 0 (by decide))
      go_simp
      exact hK _ _ ⟨_, _, v41, v42, v43, v44, v45, v46, v47, v11, rfl, ⟨hI.t0, fun _ => rfl, hI.t2, hI.t3, hI.t4, hI.t5, hI.t6, hI.t7, hI.t8, hI.t9, hI.wq⟩⟩
    · rintro L a wx ⟨v39, v40, v41, v42, v43, v44, v45, v46, v47, v11, rfl, hI⟩ hL hdep hcl K hK
      obtain rfl := hI.t1 (hdep 1 (by decide))
      go_simp
      exact hK _ _ ⟨v39, _, _, v42, v43, v44, v45, v46, v47, v11, rfl, ⟨hI.t0, hI.t1, fun _ => rfl, hI.t3, hI.t4, hI.t5, hI.t6, hI.t7, hI.t8, hI.t9, hI.wq⟩⟩
    · rintro L a wx ⟨v39, v40, v41, v42, v43, v44, v45, v46, v47, v11, rfl, hI⟩ hL hdep hcl K hK
      obtain rfl := hI.t2 (hdep 2 (by decide))
      obtain rfl := hI.wq
      have c2 := hAp.drew.cell 2
      simp only [List.getElem?_cons_succ, List.getElem?_cons_zero] at c2
      go_simp
      exact hK _ _ ⟨v39, v40, _, _, v43, v44, v45, v46, v47, v11, rfl, ⟨hI.t0, hI.t1, hI.t2, fun _ => rfl, hI.t4, hI.t5, hI.t6, hI.t7, hI.t8, hI.t9, hI.wq⟩⟩
    · rintro L a wx ⟨v39, v40, v41, v42, v43, v44, v45, v46, v47, v11, rfl, hI⟩ hL hdep hcl K hK
      obtain rfl := hI.t3 (hdep 3 (by decide))
      go_simp
      exact hK _ _ ⟨v39, v40, v41, _, _, v44, v45, v46, v47, v11, rfl, ⟨hI.t0, hI.t1, hI.t2, hI.t3, fun _ => rfl, hI.t5, hI.t6, hI.t7, hI.t8, hI.t9, hI.wq⟩⟩
    · rintro L a wx ⟨v39, v40, v41, v42, v43, v44, v45, v46, v47, v11, rfl, hI⟩ hL hdep hcl K hK
      obtain rfl := hI.t4 (hdep 4 (by decide))
      go_simp
      rw [HW.out]
      exact hK _ _ ⟨v39, v40, v41, v42, _, _, v45, v46, v47, v11, rfl, ⟨hI.t0, hI.t1, hI.t2, hI.t3, hI.t4, fun _ => rfl, hI.t6, hI.t7, hI.t8, hI.t9, hI.wq⟩⟩
    · rintro L a wx ⟨v39, v40, v41, v42, v43, v44, v45, v46, v47, v11, rfl, hI⟩ hL hdep hcl K hK
      obtain rfl := hI.wq
      have c8 := h7.drew.cell 0
      simp only [List.getElem?_cons_zero] at c8
      go_simp
      exact hK _ _ ⟨v39, v40, v41, v42, v43, v44, _, v46, v47, v11, rfl, ⟨hI.t0, hI.t1, hI.t2, hI.t3, hI.t4, hI.t5, fun _ => rfl, hI.t7, hI.t8, hI.t9, hI.wq⟩⟩
    · rintro L a wx ⟨v39, v40, v41, v42, v43, v44, v45, v46, v47, v11, rfl, hI⟩ hL hdep hcl K hK
      obtain rfl := hI.t6 (hdep 6 (by decide))
      go_simp
      exact hK _ _ ⟨v39, v40, v41, v42, v43, v44, _, _, v47, v11, rfl, ⟨hI.t0, hI.t1, hI.t2, hI.t3, hI.t4, hI.t5, hI.t6, fun _ => rfl, hI.t8, hI.t9, hI.wq⟩⟩
    · rintro L a wx ⟨v39, v40, v41, v42, v43, v44, v45, v46, v47, v11, rfl, hI⟩ hL hdep hcl K hK
      obtain rfl := hI.t5 (hdep 5 (by decide))
      obtain rfl := hI.t7 (hdep 7 (by decide))
      go_simp
      rw [HS.out, HWS.out]
      exact hK _ _ ⟨v39, v40, v41, v42, v43, _, v45, _, _, v11, rfl, ⟨hI.t0, hI.t1, hI.t2, hI.t3, hI.t4, hI.t5, hI.t6, hI.t7, fun _ => rfl, hI.t9, hI.wq⟩⟩
    · rintro L a wx ⟨v39, v40, v41, v42, v43, v44, v45, v46, v47, v11, rfl, hI⟩ hL hdep hcl K hK
      obtain rfl := hI.t8 (hdep 8 (by decide))
      go_simp
      exact hK _ _ ⟨v39, v40, v41, v42, v43, v44, v45, v46, _, _, rfl, ⟨hI.t0, hI.t1, hI.t2, hI.t3, hI.t4, hI.t5, hI.t6, hI.t7, hI.t8, fun _ => rfl, hI.wq⟩⟩
    · rintro a wx ⟨v39, v40, v41, v42, v43, v44, v45, v46, v47, v11, rfl, hI⟩
      obtain rfl := hI.wq
      obtain rfl := hI.t0 rfl
      obtain rfl := hI.t1 rfl
      obtain rfl := hI.t2 rfl
      obtain rfl := hI.t3 rfl
      obtain rfl := hI.t4 rfl
      obtain rfl := hI.t5 rfl
      obtain rfl := hI.t6 rfl
      obtain rfl := hI.t7 rfl
      obtain rfl := hI.t8 rfl
      obtain rfl := hI.t9 rfl
      clear hI
      have hAp3 := hAp.drew
      have hRp3 : RdD W.drew al m c P := hRp.to (Below.refl _ _).drew
      have h53 := h5.drew
      have h73 := h7.drew
      have h83 : OwnD W.drew gr (.slice (some ⟨gv, 0, none⟩) tl cv) told := h8.to (Below.refl _ _).drew
      have h103 : Below w.heap.size w W.drew := h10.drew
      have HKD3 : Hid (W.drew.heap[D]? = some (.deferred (some []))) := HKD.out
      have hgv23 : gv < W.drew.heap.size := hgv2
      clear hAp hRp h5 h7 h8 h10 HKD hgv2 h10'
      generalize W.drew = W3 at *
      have hpS : p < W3.heap.size := hAp3.lt
      have hab2 := rd_apart hAp3 hRp3
      have HRT : Hid (∀ wx, KB (fun k => k = p) W3 wx → RdD wx al s s (P.take s)) := fun wx hkb => rd_cut hab2 hRp3 hkb hsm
      have HSL : Hid (∀ (a : Act) (wx : World) (K : Act → World → Prop) (Q : Exit → Act → World → Prop) {o : Oper}, _) := fun a wx K Q o => ow_cut (o := o) (a := a) (w := wx) (K := K) (Q := Q) al m c s hsm hcap (fun h0 => by obtain ⟨b, off, e, -, -⟩ := hRp3.mem (by omega); exact ⟨b, off, e⟩)
      go_upto_region 14 with fail
      refine wp_region_steps [[], [], [1], [2], [3], [], [], [4, 5, 6], [], [8], [7, 9], [0], [11], [12, 10, 0, 1, 2, 3, 4, 5, 6, 7, 8, 9]] (by kernel_rfl) (by kernel_rfl) (fun L a wx => ∃ v48 v49 v50 v51 v52 v53 v54 v55 v56 v57 v58 v59 v60, a = ⟨#[.pointer (some ⟨p, 0, none⟩), .agg (bvs d).toArray, undef, .pointer (some ⟨g3, 0, none⟩), .slice none 0 0, .int .i64 0, .pointer (some ⟨g6, 0, none⟩), .pointer (some ⟨g7, 0, none⟩), .pointer (some ⟨g8, 0, none⟩), undef, undef, .int .i64 (s : Int), .pointer (some ⟨p, 0, none⟩), .bool true, .bool false, .pointer (some ⟨p, 0, none⟩), .pointer (some ⟨p, 0, none⟩), .pointer (some ⟨p, 1, none⟩), .int .u64 ↑n, .bool false, .agg (bvs d).toArray, .agg (bvs d).toArray, .slice (some ⟨gr, 0, none⟩) 1 1, .pointer (some ⟨p, 0, none⟩), .func (.func 33) #[] #[.pointer (some ⟨g8 + 1, 0, none⟩)], undef, undef, undef, undef, undef, undef, undef, undef, undef, undef, undef, undef, undef, undef, .pointer (some ⟨p, 0, none⟩), .pointer (some ⟨p, 0, none⟩), .pointer (some ⟨p, 2, none⟩), .slice al m c, .int .i64 (m : Int), .int .i64 ((m : Int) + 1), .slice (some ⟨gv, 0, none⟩) tl cv, .int .i64 (tl : Int), .int .i64 (s : Int), v48, v49, v50, v51, v52, v53, v54, v55, v56, v57, v58, v59, v60, undef, undef, undef, undef, undef, undef, undef, undef], [{ target := .collected D, args := #[] }]⟩ ∧ InvRAddD h (P.take s ++ [h]) told al p n m c s tl g3 g6 g7 g8 gr gv cv D W3.heap.size d W3 L v48 v49 v50 v51 v52 v53 v54 v55 v56 v57 v58 v59 v60 wx) ?_ ⟨?_, ?_, ?_, ?_, ?_, ?_, ?_, ?_, ?_, ?_, ?_, ?_, ?_, ?_, trivial⟩ ?_
      · refine ⟨_, _, _, _, _, _, _, _, _, _, _, _, _, rfl, ⟨?_, ?_, ?_, ?_, ?_, ?_, ?_, ?_, ?_, ?_, ?_, ?_, ?_, fun _ => hAp3.drew, (fun h => nomatch (show false = true from h)), h53.drew, h73.drew, h83.to (Below.refl _ _).drew, (KB.refl _ _).drew, HKD3.out, Nat.le_refl _⟩⟩ <;> (intro h; exact absurd h (by decide))
      · rintro L a wx ⟨v48, v49, v50, v51, v52, v53, v54, v55, v56, v57, v58, v59, v60, rfl, hI⟩ hL hdep hcl K hK
        go_simp
        exact hK _ _ ⟨_, v49, v50, v51, v52, v53, v54, v55, v56, v57, v58, v59, v60, rfl, ⟨fun _ => rfl, hI.t1, hI.t2, hI.t3, hI.t4, hI.t5, hI.t6, hI.t7, hI.t8, hI.t9, hI.t10, hI.t11, hI.t12, hI.ap, hI.apx, hI.a6, hI.a8, hI.own, hI.kb, hI.kd, hI.sz⟩⟩
      · rintro L a wx ⟨v48, v49, v50, v51, v52, v53, v54, v55, v56, v57, v58, v59, v60, rfl, hI⟩ hL hdep hcl K hK
        go_simp
        exact hK _ _ ⟨v48, _, v50, v51, v52, v53, v54, v55, v56, v57, v58, v59, v60, rfl, ⟨hI.t0, fun _ => rfl, hI.t2, hI.t3, hI.t4, hI.t5, hI.t6, hI.t7, hI.t8, hI.t9, hI.t10, hI.t11, hI.t12, hI.ap, hI.apx, hI.a6, hI.a8, hI.own, hI.kb, hI.kd, hI.sz⟩⟩
      · rintro L a wx ⟨v48, v49, v50, v51, v52, v53, v54, v55, v56, v57, v58, v59, v60, rfl, hI⟩ hL hdep hcl K hK
        obtain rfl := hI.t1 (hdep 1 (by decide))
        go_simp
        exact hK _ _ ⟨v48, _, _, v51, v52, v53, v54, v55, v56, v57, v58, v59, v60, rfl, ⟨hI.t0, hI.t1, fun _ => rfl, hI.t3, hI.t4, hI.t5, hI.t6, hI.t7, hI.t8, hI.t9, hI.t10, hI.t11, hI.t12, hI.ap, hI.apx, hI.a6, hI.a8, hI.own, hI.kb, hI.kd, hI.sz⟩⟩
      · rintro L a wx ⟨v48, v49, v50, v51, v52, v53, v54, v55, v56, v57, v58, v59, v60, rfl, hI⟩ hL hdep hcl K hK
        obtain rfl := hI.t2 (hdep 2 (by decide))
        go_simp
        exact hK _ _ ⟨v48, v49, _, _, v52, v53, v54, v55, v56, v57, v58, v59, v60, rfl, ⟨hI.t0, hI.t1, hI.t2, fun _ => rfl, hI.t4, hI.t5, hI.t6, hI.t7, hI.t8, hI.t9, hI.t10, hI.t11, hI.t12, hI.ap, hI.apx, hI.a6, hI.a8, hI.own, hI.kb, hI.kd, hI.sz⟩⟩
      · rintro L a wx ⟨v48, v49, v50, v51, v52, v53, v54, v55, v56, v57, v58, v59, v60, rfl, hI⟩ hL hdep hcl K hK
        obtain rfl := hI.t3 (hdep 3 (by decide))
        have h13 : L 13 = false := by
          cases h6 : L 13 with
          | true =>
            have h4 := hcl 13 (by decide) h6 4 (by decide)
            rw [hL] at h4
            cases h4
          | false => rfl
        have c2 := (hI.ap h13).cell 2
        simp only [List.getElem?_cons_succ, List.getElem?_cons_zero] at c2
        go_simp
        exact hK _ _ ⟨v48, v49, v50, _, _, v53, v54, v55, v56, v57, v58, v59, v60, rfl, ⟨hI.t0, hI.t1, hI.t2, hI.t3, fun _ => rfl, hI.t5, hI.t6, hI.t7, hI.t8, hI.t9, hI.t10, hI.t11, hI.t12, hI.ap, hI.apx, hI.a6, hI.a8, hI.own, hI.kb, hI.kd, hI.sz⟩⟩
      · rintro L a wx ⟨v48, v49, v50, v51, v52, v53, v54, v55, v56, v57, v58, v59, v60, rfl, hI⟩ hL hdep hcl K hK
        go_simp
        exact hK _ _ ⟨v48, v49, v50, v51, v52, _, v54, v55, v56, v57, v58, v59, v60, rfl, ⟨hI.t0, hI.t1, hI.t2, hI.t3, hI.t4, fun _ => rfl, hI.t6, hI.t7, hI.t8, hI.t9, hI.t10, hI.t11, hI.t12, hI.ap, hI.apx, hI.a6, hI.a8, hI.own, hI.kb, hI.kd, hI.sz⟩⟩
      · rintro L a wx ⟨v48, v49, v50, v51, v52, v53, v54, v55, v56, v57, v58, v59, v60, rfl, hI⟩ hL hdep hcl K hK
        go_simp
        exact hK _ _ ⟨v48, v49, v50, v51, v52, v53, _, v55, v56, v57, v58, v59, v60, rfl, ⟨hI.t0, hI.t1, hI.t2, hI.t3, hI.t4, hI.t5, fun _ => rfl, hI.t7, hI.t8, hI.t9, hI.t10, hI.t11, hI.t12, hI.ap, hI.apx, hI.a6, hI.a8, hI.own, hI.kb, hI.kd, hI.sz⟩⟩
      · rintro L a wx ⟨v48, v49, v50, v51, v52, v53, v54, v55, v56, v57, v58, v59, v60, rfl, hI⟩ hL hdep hcl K hK
        obtain rfl := hI.t4 (hdep 4 (by decide))
        obtain rfl := hI.t5 (hdep 5 (by decide))
        obtain rfl := hI.t6 (hdep 6 (by decide))
        refine HSL.out _ _ _ _ _ _ _ rfl rfl rfl rfl ?_
        exact hK _ _ ⟨v48, v49, v50, v51, _, _, _, _, v56, v57, v58, v59, v60, rfl, ⟨hI.t0, hI.t1, hI.t2, hI.t3, hI.t4, hI.t5, hI.t6, fun _ => rfl, hI.t8, hI.t9, hI.t10, hI.t11, hI.t12, hI.ap, hI.apx, hI.a6, hI.a8, hI.own, hI.kb, hI.kd, hI.sz⟩⟩
      · rintro L a wx ⟨v48, v49, v50, v51, v52, v53, v54, v55, v56, v57, v58, v59, v60, rfl, hI⟩ hL hdep hcl K hK
        refine ow_load 29 _ rfl g6 0 rfl 29 (bvs h) (bvs h) hI.a6 (fun j v h => by rw [Nat.zero_add]; exact h) (.array 32 5) Try.underlying29 rfl h32h.out ?_
        exact hK _ _ ⟨v48, v49, v50, v51, v52, v53, v54, v55, _, v57, v58, v59, v60, rfl, ⟨hI.t0, hI.t1, hI.t2, hI.t3, hI.t4, hI.t5, hI.t6, hI.t7, fun _ => rfl, hI.t9, hI.t10, hI.t11, hI.t12, hI.ap, hI.apx, hI.a6, hI.a8, hI.own, hI.kb, hI.kd, hI.sz⟩⟩
      · rintro L a wx ⟨v48, v49, v50, v51, v52, v53, v54, v55, v56, v57, v58, v59, v60, rfl, hI⟩ hL hdep hcl K hK
        obtain rfl := hI.t8 (hdep 8 (by decide))
        refine ow_of_wl rfl ?_
        refine wl_litD rfl 56 rfl h H2.out rfl ?_
        intro w' hL1 hb
        show K _ _
        exact hK _ _ ⟨v48, v49, v50, v51, v52, v53, v54, v55, _, _, v58, v59, v60, rfl, ⟨hI.t0, hI.t1, hI.t2, hI.t3, hI.t4, hI.t5, hI.t6, hI.t7, hI.t8, fun _ => ⟨_, rfl, hL1, hI.sz⟩, fun h => (hI.t10 h).to hb, hI.t11, hI.t12, fun h => (hI.ap h).kept hb, fun h => (hI.apx h).kept hb, (hI.a6).kept hb, (hI.a8).kept hb, (hI.own).to hb, (hI.kb).below hb, (hb.block D (Array.getElem?_eq_some_iff.1 hI.kd).1).trans hI.kd, Nat.le_trans hI.sz hb.size⟩⟩
      · rintro L a wx ⟨v48, v49, v50, v51, v52, v53, v54, v55, v56, v57, v58, v59, v60, rfl, hI⟩ hL hdep hcl K hK
        obtain rfl := hI.t7 (hdep 7 (by decide))
        obtain ⟨r, rfl, hL1, hrS⟩ := hI.t9 (hdep 9 (by decide))
        refine ow_of_wl rfl ?_
        refine wl_appendN rfl (.tmp 55) (.tmp 57) rfl al s (P.take s) rfl (HRT.out wx hI.kb) r h rfl hL1 H2.out (by omega) ?_
        intro u w' hO hb
        show K _ _
        exact hK _ _ ⟨v48, v49, v50, v51, v52, v53, v54, _, v56, _, _, v59, v60, rfl, ⟨hI.t0, hI.t1, hI.t2, hI.t3, hI.t4, hI.t5, hI.t6, hI.t7, hI.t8, fun h => by obtain ⟨r, e, h1, h2⟩ := hI.t9 h; exact ⟨r, e, h1.kept hb, h2⟩, fun _ => hO.base hI.sz, hI.t11, hI.t12, fun h => (hI.ap h).kept hb, (fun h13 => by have h4 := hcl 13 (by decide) h13 10 (by decide); rw [hL] at h4; cases h4), (hI.a6).kept hb, (hI.a8).kept hb, (hI.own).to hb, (hI.kb).below hb, (hb.block D (Array.getElem?_eq_some_iff.1 hI.kd).1).trans hI.kd, Nat.le_trans hI.sz hb.size⟩⟩
      · rintro L a wx ⟨v48, v49, v50, v51, v52, v53, v54, v55, v56, v57, v58, v59, v60, rfl, hI⟩ hL hdep hcl K hK
        obtain rfl := hI.t0 (hdep 0 (by decide))
        go_simp
        exact hK _ _ ⟨_, v49, v50, v51, v52, v53, v54, v55, v56, v57, v58, _, v60, rfl, ⟨hI.t0, hI.t1, hI.t2, hI.t3, hI.t4, hI.t5, hI.t6, hI.t7, hI.t8, hI.t9, hI.t10, fun _ => rfl, hI.t12, hI.ap, hI.apx, hI.a6, hI.a8, hI.own, hI.kb, hI.kd, hI.sz⟩⟩
      · rintro L a wx ⟨v48, v49, v50, v51, v52, v53, v54, v55, v56, v57, v58, v59, v60, rfl, hI⟩ hL hdep hcl K hK
        obtain rfl := hI.t11 (hdep 11 (by decide))
        go_simp
        exact hK _ _ ⟨v48, v49, v50, v51, v52, v53, v54, v55, v56, v57, v58, _, _, rfl, ⟨hI.t0, hI.t1, hI.t2, hI.t3, hI.t4, hI.t5, hI.t6, hI.t7, hI.t8, hI.t9, hI.t10, hI.t11, fun _ => rfl, hI.ap, hI.apx, hI.a6, hI.a8, hI.own, hI.kb, hI.kd, hI.sz⟩⟩
      · rintro L a wx ⟨v48, v49, v50, v51, v52, v53, v54, v55, v56, v57, v58, v59, v60, rfl, hI⟩ hL hdep hcl K hK
        obtain rfl := hI.t12 (hdep 12 (by decide))
        obtain rfl := hI.t0 (hdep 0 (by decide))
        obtain rfl := hI.t1 (hdep 1 (by decide))
        obtain rfl := hI.t2 (hdep 2 (by decide))
        obtain rfl := hI.t3 (hdep 3 (by decide))
        obtain rfl := hI.t4 (hdep 4 (by decide))
        obtain rfl := hI.t5 (hdep 5 (by decide))
        obtain rfl := hI.t6 (hdep 6 (by decide))
        obtain rfl := hI.t7 (hdep 7 (by decide))
        obtain rfl := hI.t8 (hdep 8 (by decide))
        have h58 := hI.t10 (hdep 10 (by decide))
        refine ow_store1 30 _ _ rfl p 2 rfl v58 rfl (cells_own h58.row) (one_own h58.row) 49 _ (hI.ap hL) sizeSD (by simp) ?_
        intro w' hA' hg hs
        exact hK _ _ ⟨_, _, _, _, _, _, _, _, _, v57, v58, v59, _, rfl, ⟨hI.t0, hI.t1, hI.t2, hI.t3, hI.t4, hI.t5, hI.t6, hI.t7, hI.t8, (fun h => by obtain ⟨r, e, k1, k2⟩ := hI.t9 h; exact ⟨r, e, k1.grown hg (by intro e; injection e with e; omega), k2⟩), fun _ => h58.by hg (own_low h58.row hpS), hI.t11, hI.t12, (fun h => nomatch (show true = false from h)), fun _ => hA', hI.a6.grown hg (by intro e; injection e with e; omega), hI.a8.grown hg (by intro e; injection e with e; omega), hI.own.by hg (own_low hI.own.row (by omega)), hI.kb.grown hg rfl, (hg.block D (Array.getElem?_eq_some_iff.1 hI.kd).1 (by intro e; injection e with e; exact hDp e)).trans hI.kd, Nat.le_trans hI.sz hg.size⟩⟩
      · rintro a wx ⟨v48, v49, v50, v51, v52, v53, v54, v55, v56, v57, v58, v59, v60, rfl, hI⟩
        have hap := hI.apx rfl
        have ha8 := hI.a8
        have hw8 := hI.own
        have hkb := hI.kb
        have hkd := hI.kd
        have h58 := hI.t10 rfl
        clear hI
        have c1 := hap.cell 1
        have c8 := ha8.cell 0
        simp only [List.getElem?_cons_succ, List.getElem?_cons_zero] at c1 c8
        obtain ⟨gn, cn, rfl, hgn, hgn2⟩ := h58.solid (by simp)
        go_upto_region 16 with ((with_reducible show wpList _ _ _ (⟨none, .store _ _ _, _, _, _, _⟩ :: _) _ _); refine wl_store1 rfl 31 _ _ rfl p 1 rfl _ rfl rfl rfl 49 _ hap size31 (by simp) ?_; intro W5 hA5 hg5 hs5; have c8' : W5.cell? ⟨g8, 0, none⟩ = some (.slice (some ⟨gv, 0, none⟩) tl cv) := (World.cell?_of_block (hg5.block g8 ha8.lt (by intro e; injection e with e; omega))).trans c8)
        clear c8
        go_wp2
        rw [HWN.out] at hA5
        simp only [List.set_cons_succ, List.set_cons_zero] at hA5
        have q5 := Q5.out
        have qw := QW.out
        have hb0 := h103.size
        have kb5 : KB (fun k => k = p) w W5 := ((kb_below h103).trans hkb).grown hg5 rfl
        have hkd5 := (hg5.block D (Array.getElem?_eq_some_iff.1 hkd).1 (by intro e; injection e with e; omega)).trans hkd
        have h585 := h58.by hg5 (own_low h58.row hpS)
        have hw85 := hw8.by hg5 (own_low hw8.row (by omega))
        refine ⟨by simp, .inl ⟨_, _, rfl, run_takeDeferred hkd5, ?_⟩⟩
        have hnc : ∀ r, some D = some r → ∃ o : Obj, W5.heap[r]? = some o ∧ o.isCells = false := fun r e => by cases e; exact ⟨_, hkd5, rfl⟩
        have hgP := grownBy_putObj' W5 D (.deferred none)
        have hAf := arr_owned hA5 hgP hnc
        have h58f := ownD_owned h585 hgP hnc
        have hwf := ownD_owned hw85 hgP hnc
        have hT2 := HT2.out
        have hT1 := HT1.out
        have hTL := HTL.out
        refine ⟨_, results_tmp2 rfl _ _ _, gv, cv, ?_, ?_, ⟨⟨some ⟨gn, 0, none⟩, cn, ?_, ?_, fun ad e => ?_⟩, ?_, by have := HN.out; omega⟩, by omega, kb5.puts D _ (by omega)⟩
        · rw [← hT2, ← hTL]
          rfl
        · rw [← hT2, ← hTL]
          exact hwf.base (by omega)
        · rw [hT1]
          exact hAf
        · rw [hT1]
          exact h58f.rdAt
        · injection e with e
          rw [← e]
          have := h58f.solid (by simp)
          exact ⟨⟨by show w.heap.size ≤ gn; omega, by show gn ≠ gv; omega⟩, by show gn < (W5.putObj D (.deferred none)).heap.size; have := hgP.size; have := hg5.size; omega, own_type h58f.row rfl⟩
        · exact addP_len (by rw [hPm]; exact HCNT.out)
  case stop =>
    rintro D cc pre W hD hpre ⟨rfl, pr, ch, h, Ln, told, v, rfl, h1, hne, h2, h3, h5, h7, h8, h10, h11⟩ hK
    have hsn : pr.map (·.1) = List.range pr.length ∧ ch.1 = pr.length := by
      rw [List.map_append, List.length_append, List.length_singleton, List.range_succ] at hpre
      have := List.append_inj hpre (by simp)
      exact ⟨this.1, by simpa using this.2⟩
    have hch := ch.2
    obtain ⟨e1, e2⟩ := h1 hsn.1 (by omega)
    have h10' := h10
    obtain ⟨k, hk⟩ : ∃ k, k = pr.length := ⟨_, rfl⟩
    rw [hsn.2, ← hk] at hne hch
    rw [← hk] at e1 e2 h3
    have hyl : k ≤ m := by omega
    have hs : k = P.length ∨ ∃ A X, (pkZ n P).drop k = (A, X) :: (pkZ n P).drop (k + 1) ∧ A ≠ Ln := .inr ⟨lowAt n k, _, pkZ_drop hcnt (by omega), hne⟩
    clear hk h1 hpre hsn hne
    refine wpIn_exit ?_
    have hPm : P.length = m := hPl
    have HCNT := Lib.hid (show m = popN n from hmn)
    obtain ⟨HT1, HT2⟩ := add_stop (n := n) (k := k) (Ln := Ln) (P := P) (told := told) (d := d) (h := h) hcnt (by omega) e1 e2 hs
    rw [hPm] at HT1
    have hm21 : m ≤ 21 := by rw [hmn]; exact lowP_len_lt 21 n 1 (by have := HN.out; omega)
    obtain ⟨gv, cv, rfl, hgv, hgv2⟩ := h8.solid (by omega)
    obtain ⟨tl, ht1⟩ : ∃ tl, tl = told.length := ⟨_, rfl⟩
    rw [← ht1] at h7 h8 h3
    have HTL := Lib.hid ht1
    obtain ⟨s, hs'⟩ : ∃ s, s = m - k := ⟨_, rfl⟩
    have HS : Hid ((m : Int) + 1 - (tl : Int) = (s : Int)) := by show _ = _; omega
    have HW : Hid (IntKind.i64.wrap ((m : Int) + 1) = (m : Int) + 1) := by show _ = _; rw [IntKind.wrap_i64]; omega
    have HWN : Hid (IntKind.u64.wrap ((n : Int) + 1) = ((n + 1 : Nat) : Int)) := by show _ = _; have := HN.out; rw [IntKind.wrap_u64]; omega
    have HWS : Hid (IntKind.i64.wrap (s : Int) = (s : Int)) := by show _ = _; rw [IntKind.wrap_i64]; omega
    rw [← hs'] at HT1
    have H3 := Lib.hid h3
    have hsm : s ≤ m := by omega
    have HT1 := Lib.hid HT1
    have HT2 := Lib.hid HT2
    have hAp : Arr W p 49 [.bool true, .int .u64 (n : Int), .slice al m c] := HA0.out.kept h10'
    have hRp : RdD W al m c P := HR0.out.to h10'
    have h32h : Hid ((Try.prog.info? 29).map (·.size) = some (bvs h).length) := by show _ = _; rw [bvs_len, h2]; exact sizeD
    have H2 := Lib.hid h2
    have Q5 := Lib.hid q5
    have QW := Lib.hid qw
    have HKD := Lib.hid hK
    have hDp : D ≠ p := by omega
    have hp3 : p < g3 := by omega
    have hcap := R8.le
    clear h3 hyl hs ht1 hs' h2 e1 e2 hmn hP32 hcnt q5 qw X6 X7 X8 XO A8 R8 hK HX32
    go_upto_region 13 with fail
    refine wp_region_steps [[], [0], [1], [2], [3], [4], [], [6], [5, 7], [8]] (by kernel_rfl) (by kernel_rfl) (fun L a wx => ∃ v39 v40 v41 v42 v43 v44 v45 v46 v47 v11, a = ⟨#[.pointer (some ⟨p, 0, none⟩), .agg (bvs d).toArray, undef, .pointer (some ⟨g3, 0, none⟩), .slice none 0 0, .int .i64 0, .pointer (some ⟨g6, 0, none⟩), .pointer (some ⟨g7, 0, none⟩), .pointer (some ⟨g8, 0, none⟩), undef, undef, v11, .pointer (some ⟨p, 0, none⟩), .bool true, .bool false, .pointer (some ⟨p, 0, none⟩), .pointer (some ⟨p, 0, none⟩), .pointer (some ⟨p, 1, none⟩), .int .u64 ↑n, .bool false, .agg (bvs d).toArray, .agg (bvs d).toArray, .slice (some ⟨gr, 0, none⟩) 1 1, .pointer (some ⟨p, 0, none⟩), .func (.func 33) #[] #[.pointer (some ⟨g8 + 1, 0, none⟩)], undef, undef, undef, undef, undef, undef, undef, undef, undef, undef, undef, undef, undef, undef, v39, v40, v41, v42, v43, v44, v45, v46, v47, undef, undef, undef, undef, undef, undef, undef, undef, undef, undef, undef, undef, undef, undef, undef, undef, undef, undef, undef, undef, undef], [{ target := .collected D, args := #[] }]⟩ ∧ InvRAddC al p n m c s tl g3 g6 g7 g8 gr gv cv d W L v39 v40 v41 v42 v43 v44 v45 v46 v47 v11 wx) ?_ ⟨?_, ?_, ?_, ?_, ?_, ?_, ?_, ?_, ?_, ?_, trivial⟩ ?_
    · refine ⟨_, _, _, _, _, _, _, _, _, _, rfl, ⟨?_, ?_, ?_, ?_, ?_, ?_, ?_, ?_, ?_, ?_, rfl⟩⟩ <;> (intro h; exact absurd h (by decide))
    · rintro L a wx ⟨v39, v40, v41, v42, v43, v44, v45, v46, v47, v11, rfl, hI⟩ hL hdep hcl K hK
      go_simp
      exact hK _ _ ⟨_, v40, v41, v42, v43, v44, v45, v46, v47, v11, rfl, ⟨fun _ => rfl, hI.t1, hI.t2, hI.t3, hI.t4, hI.t5, hI.t6, hI.t7, hI.t8, hI.t9, hI.wq⟩⟩
    · rintro L a wx ⟨v39, v40, v41, v42, v43, v44, v45, v46, v47, v11, rfl, hI⟩ hL hdep hcl K hK
      obtain rfl := hI.t0 (hdep 0 (by decide))
      go_simp
      exact hK _ _ ⟨_, _, v41, v42, v43, v44, v45, v46, v47, v11, rfl, ⟨hI.t0, fun _ => rfl, hI.t2, hI.t3, hI.t4, hI.t5, hI.t6, hI.t7, hI.t8, hI.t9, hI.wq⟩⟩
    · rintro L a wx ⟨v39, v40, v41, v42, v43, v44, v45, v46, v47, v11, rfl, hI⟩ hL hdep hcl K hK
      obtain rfl := hI.t1 (hdep 1 (by decide))
      go_simp
      exact hK _ _ ⟨v39, _, _, v42, v43, v44, v45, v46, v47, v11, rfl, ⟨hI.t0, hI.t1, fun _ => rfl, hI.t3, hI.t4, hI.t5, hI.t6, hI.t7, hI.t8, hI.t9, hI.wq⟩⟩
    · rintro L a wx ⟨v39, v40, v41, v42, v43, v44, v45, v46, v47, v11, rfl, hI⟩ hL hdep hcl K hK
      obtain rfl := hI.t2 (hdep 2 (by decide))
      obtain rfl := hI.wq
      have c2 := hAp.drew.cell 2
      simp only [List.getElem?_cons_succ, List.getElem?_cons_zero] at c2
      go_simp
      exact hK _ _ ⟨v39, v40, _, _, v43, v44, v45, v46, v47, v11, rfl, ⟨hI.t0, hI.t1, hI.t2, fun _ => rfl, hI.t4, hI.t5, hI.t6, hI.t7, hI.t8, hI.t9, hI.wq⟩⟩
    · rintro L a wx ⟨v39, v40, v41, v42, v43, v44, v45, v46, v47, v11, rfl, hI⟩ hL hdep hcl K hK
      obtain rfl := hI.t3 (hdep 3 (by decide))
      go_simp
      exact hK _ _ ⟨v39, v40, v41, _, _, v44, v45, v46, v47, v11, rfl, ⟨hI.t0, hI.t1, hI.t2, hI.t3, fun _ => rfl, hI.t5, hI.t6, hI.t7, hI.t8, hI.t9, hI.wq⟩⟩
    · rintro L a wx ⟨v39, v40, v41, v42, v43, v44, v45, v46, v47, v11, rfl, hI⟩ hL hdep hcl K hK
      obtain rfl := hI.t4 (hdep 4 (by decide))
      go_simp
      rw [HW.out]
      exact hK _ _ ⟨v39, v40, v41, v42, _, _, v45, v46, v47, v11, rfl, ⟨hI.t0, hI.t1, hI.t2, hI.t3, hI.t4, fun _ => rfl, hI.t6, hI.t7, hI.t8, hI.t9, hI.wq⟩⟩
    · rintro L a wx ⟨v39, v40, v41, v42, v43, v44, v45, v46, v47, v11, rfl, hI⟩ hL hdep hcl K hK
      obtain rfl := hI.wq
      have c8 := h7.drew.cell 0
      simp only [List.getElem?_cons_zero] at c8
      go_simp
      exact hK _ _ ⟨v39, v40, v41, v42, v43, v44, _, v46, v47, v11, rfl, ⟨hI.t0, hI.t1, hI.t2, hI.t3, hI.t4, hI.t5, fun _ => rfl, hI.t7, hI.t8, hI.t9, hI.wq⟩⟩
    · rintro L a wx ⟨v39, v40, v41, v42, v43, v44, v45, v46, v47, v11, rfl, hI⟩ hL hdep hcl K hK
      obtain rfl := hI.t6 (hdep 6 (by decide))
      go_simp
      exact hK _ _ ⟨v39, v40, v41, v42, v43, v44, _, _, v47, v11, rfl, ⟨hI.t0, hI.t1, hI.t2, hI.t3, hI.t4, hI.t5, hI.t6, fun _ => rfl, hI.t8, hI.t9, hI.wq⟩⟩
    · rintro L a wx ⟨v39, v40, v41, v42, v43, v44, v45, v46, v47, v11, rfl, hI⟩ hL hdep hcl K hK
      obtain rfl := hI.t5 (hdep 5 (by decide))
      obtain rfl := hI.t7 (hdep 7 (by decide))
      go_simp
      rw [HS.out, HWS.out]
      exact hK _ _ ⟨v39, v40, v41, v42, v43, _, v45, _, _, v11, rfl, ⟨hI.t0, hI.t1, hI.t2, hI.t3, hI.t4, hI.t5, hI.t6, hI.t7, fun _ => rfl, hI.t9, hI.wq⟩⟩
    · rintro L a wx ⟨v39, v40, v41, v42, v43, v44, v45, v46, v47, v11, rfl, hI⟩ hL hdep hcl K hK
      obtain rfl := hI.t8 (hdep 8 (by decide))
      go_simp
      exact hK _ _ ⟨v39, v40, v41, v42, v43, v44, v45, v46, _, _, rfl, ⟨hI.t0, hI.t1, hI.t2, hI.t3, hI.t4, hI.t5, hI.t6, hI.t7, hI.t8, fun _ => rfl, hI.wq⟩⟩
    · rintro a wx ⟨v39, v40, v41, v42, v43, v44, v45, v46, v47, v11, rfl, hI⟩
      obtain rfl := hI.wq
      obtain rfl := hI.t0 rfl
      obtain rfl := hI.t1 rfl
      obtain rfl := hI.t2 rfl
      obtain rfl := hI.t3 rfl
      obtain rfl := hI.t4 rfl
      obtain rfl := hI.t5 rfl
      obtain rfl := hI.t6 rfl
      obtain rfl := hI.t7 rfl
      obtain rfl := hI.t8 rfl
      obtain rfl := hI.t9 rfl
      clear hI
      have hAp3 := hAp.drew
      have hRp3 : RdD W.drew al m c P := hRp.to (Below.refl _ _).drew
      have h53 := h5.drew
      have h73 := h7.drew
      have h83 : OwnD W.drew gr (.slice (some ⟨gv, 0, none⟩) tl cv) told := h8.to (Below.refl _ _).drew
      have h103 : Below w.heap.size w W.drew := h10.drew
      have HKD3 : Hid (W.drew.heap[D]? = some (.deferred (some []))) := HKD.out
      have hgv23 : gv < W.drew.heap.size := hgv2
      clear hAp hRp h5 h7 h8 h10 HKD hgv2 h10'
      generalize W.drew = W3 at *
      have hpS : p < W3.heap.size := hAp3.lt
      have hab2 := rd_apart hAp3 hRp3
      have HRT : Hid (∀ wx, KB (fun k => k = p) W3 wx → RdD wx al s s (P.take s)) := fun wx hkb => rd_cut hab2 hRp3 hkb hsm
      have HSL : Hid (∀ (a : Act) (wx : World) (K : Act → World → Prop) (Q : Exit → Act → World → Prop) {o : Oper}, _) := fun a wx K Q o => ow_cut (o := o) (a := a) (w := wx) (K := K) (Q := Q) al m c s hsm hcap (fun h0 => by obtain ⟨b, off, e, -, -⟩ := hRp3.mem (by omega); exact ⟨b, off, e⟩)
      go_upto_region 14 with fail
      refine wp_region_steps [[], [], [1], [2], [3], [], [], [4, 5, 6], [], [8], [7, 9], [0], [11], [12, 10, 0, 1, 2, 3, 4, 5, 6, 7, 8, 9]] (by kernel_rfl) (by kernel_rfl) (fun L a wx => ∃ v48 v49 v50 v51 v52 v53 v54 v55 v56 v57 v58 v59 v60, a = ⟨#[.pointer (some ⟨p, 0, none⟩), .agg (bvs d).toArray, undef, .pointer (some ⟨g3, 0, none⟩), .slice none 0 0, .int .i64 0, .pointer (some ⟨g6, 0, none⟩), .pointer (some ⟨g7, 0, none⟩), .pointer (some ⟨g8, 0, none⟩), undef, undef, .int .i64 (s : Int), .pointer (some ⟨p, 0, none⟩), .bool true, .bool false, .pointer (some ⟨p, 0, none⟩), .pointer (some ⟨p, 0, none⟩), .pointer (some ⟨p, 1, none⟩), .int .u64 ↑n, .bool false, .agg (bvs d).toArray, .agg (bvs d).toArray, .slice (some ⟨gr, 0, none⟩) 1 1, .pointer (some ⟨p, 0, none⟩), .func (.func 33) #[] #[.pointer (some ⟨g8 + 1, 0, none⟩)], undef, undef, undef, undef, undef, undef, undef, undef, undef, undef, undef, undef, undef, undef, .pointer (some ⟨p, 0, none⟩), .pointer (some ⟨p, 0, none⟩), .pointer (some ⟨p, 2, none⟩), .slice al m c, .int .i64 (m : Int), .int .i64 ((m : Int) + 1), .slice (some ⟨gv, 0, none⟩) tl cv, .int .i64 (tl : Int), .int .i64 (s : Int), v48, v49, v50, v51, v52, v53, v54, v55, v56, v57, v58, v59, v60, undef, undef, undef, undef, undef, undef, undef, undef], [{ target := .collected D, args := #[] }]⟩ ∧ InvRAddD h (P.take s ++ [h]) told al p n m c s tl g3 g6 g7 g8 gr gv cv D W3.heap.size d W3 L v48 v49 v50 v51 v52 v53 v54 v55 v56 v57 v58 v59 v60 wx) ?_ ⟨?_, ?_, ?_, ?_, ?_, ?_, ?_, ?_, ?_, ?_, ?_, ?_, ?_, ?_, trivial⟩ ?_
      · refine ⟨_, _, _, _, _, _, _, _, _, _, _, _, _, rfl, ⟨?_, ?_, ?_, ?_, ?_, ?_, ?_, ?_, ?_, ?_, ?_, ?_, ?_, fun _ => hAp3.drew, (fun h => nomatch (show false = true from h)), h53.drew, h73.drew, h83.to (Below.refl _ _).drew, (KB.refl _ _).drew, HKD3.out, Nat.le_refl _⟩⟩ <;> (intro h; exact absurd h (by decide))
      · rintro L a wx ⟨v48, v49, v50, v51, v52, v53, v54, v55, v56, v57, v58, v59, v60, rfl, hI⟩ hL hdep hcl K hK
        go_simp
        exact hK _ _ ⟨_, v49, v50, v51, v52, v53, v54, v55, v56, v57, v58, v59, v60, rfl, ⟨fun _ => rfl, hI.t1, hI.t2, hI.t3, hI.t4, hI.t5, hI.t6, hI.t7, hI.t8, hI.t9, hI.t10, hI.t11, hI.t12, hI.ap, hI.apx, hI.a6, hI.a8, hI.own, hI.kb, hI.kd, hI.sz⟩⟩
      · rintro L a wx ⟨v48, v49, v50, v51, v52, v53, v54, v55, v56, v57, v58, v59, v60, rfl, hI⟩ hL hdep hcl K hK
        go_simp
        exact hK _ _ ⟨v48, _, v50, v51, v52, v53, v54, v55, v56, v57, v58, v59, v60, rfl, ⟨hI.t0, fun _ => rfl, hI.t2, hI.t3, hI.t4, hI.t5, hI.t6, hI.t7, hI.t8, hI.t9, hI.t10, hI.t11, hI.t12, hI.ap, hI.apx, hI.a6, hI.a8, hI.own, hI.kb, hI.kd, hI.sz⟩⟩
      · rintro L a wx ⟨v48, v49, v50, v51, v52, v53, v54, v55, v56, v57, v58, v59, v60, rfl, hI⟩ hL hdep hcl K hK
        obtain rfl := hI.t1 (hdep 1 (by decide))
        go_simp
        exact hK _ _ ⟨v48, _, _, v51, v52, v53, v54, v55, v56, v57, v58, v59, v60, rfl, ⟨hI.t0, hI.t1, fun _ => rfl, hI.t3, hI.t4, hI.t5, hI.t6, hI.t7, hI.t8, hI.t9, hI.t10, hI.t11, hI.t12, hI.ap, hI.apx, hI.a6, hI.a8, hI.own, hI.kb, hI.kd, hI.sz⟩⟩
      · rintro L a wx ⟨v48, v49, v50, v51, v52, v53, v54, v55, v56, v57, v58, v59, v60, rfl, hI⟩ hL hdep hcl K hK
        obtain rfl := hI.t2 (hdep 2 (by decide))
        go_simp
        exact hK _ _ ⟨v48, v49, _, _, v52, v53, v54, v55, v56, v57, v58, v59, v60, rfl, ⟨hI.t0, hI.t1, hI.t2, fun _ => rfl, hI.t4, hI.t5, hI.t6, hI.t7, hI.t8, hI.t9, hI.t10, hI.t11, hI.t12, hI.ap, hI.apx, hI.a6, hI.a8, hI.own, hI.kb, hI.kd, hI.sz⟩⟩
      · rintro L a wx ⟨v48, v49, v50, v51, v52, v53, v54, v55, v56, v57, v58, v59, v60, rfl, hI⟩ hL hdep hcl K hK
        obtain rfl := hI.t3 (hdep 3 (by decide))
        have h13 : L 13 = false := by
          cases h6 : L 13 with
          | true =>
            have h4 := hcl 13 (by decide) h6 4 (by decide)
            rw [hL] at h4
            cases h4
          | false => rfl
        have c2 := (hI.ap h13).cell 2
        simp only [List.getElem?_cons_succ, List.getElem?_cons_zero] at c2
        go_simp
        exact hK _ _ ⟨v48, v49, v50, _, _, v53, v54, v55, v56, v57, v58, v59, v60, rfl, ⟨hI.t0, hI.t1, hI.t2, hI.t3, fun _ => rfl, hI.t5, hI.t6, hI.t7, hI.t8, hI.t9, hI.t10, hI.t11, hI.t12, hI.ap, hI.apx, hI.a6, hI.a8, hI.own, hI.kb, hI.kd, hI.sz⟩⟩
      · rintro L a wx ⟨v48, v49, v50, v51, v52, v53, v54, v55, v56, v57, v58, v59, v60, rfl, hI⟩ hL hdep hcl K hK
        go_simp
        exact hK _ _ ⟨v48, v49, v50, v51, v52, _, v54, v55, v56, v57, v58, v59, v60, rfl, ⟨hI.t0, hI.t1, hI.t2, hI.t3, hI.t4, fun _ => rfl, hI.t6, hI.t7, hI.t8, hI.t9, hI.t10, hI.t11, hI.t12, hI.ap, hI.apx, hI.a6, hI.a8, hI.own, hI.kb, hI.kd, hI.sz⟩⟩
      · rintro L a wx ⟨v48, v49, v50, v51, v52, v53, v54, v55, v56, v57, v58, v59, v60, rfl, hI⟩ hL hdep hcl K hK
        go_simp
        exact hK _ _ ⟨v48, v49, v50, v51, v52, v53, _, v55, v56, v57, v58, v59, v60, rfl, ⟨hI.t0, hI.t1, hI.t2, hI.t3, hI.t4, hI.t5, fun _ => rfl, hI.t7, hI.t8, hI.t9, hI.t10, hI.t11, hI.t12, hI.ap, hI.apx, hI.a6, hI.a8, hI.own, hI.kb, hI.kd, hI.sz⟩⟩
      · rintro L a wx ⟨v48, v49, v50, v51, v52, v53, v54, v55, v56, v57, v58, v59, v60, rfl, hI⟩ hL hdep hcl K hK
        obtain rfl := hI.t4 (hdep 4 (by decide))
        obtain rfl := hI.t5 (hdep 5 (by decide))
        obtain rfl := hI.t6 (hdep 6 (by decide))
        refine HSL.out _ _ _ _ _ _ _ rfl rfl rfl rfl ?_
        exact hK _ _ ⟨v48, v49, v50, v51, _, _, _, _, v56, v57, v58, v59, v60, rfl, ⟨hI.t0, hI.t1, hI.t2, hI.t3, hI.t4, hI.t5, hI.t6, fun _ => rfl, hI.t8, hI.t9, hI.t10, hI.t11, hI.t12, hI.ap, hI.apx, hI.a6, hI.a8, hI.own, hI.kb, hI.kd, hI.sz⟩⟩
      · rintro L a wx ⟨v48, v49, v50, v51, v52, v53, v54, v55, v56, v57, v58, v59, v60, rfl, hI⟩ hL hdep hcl K hK
        refine ow_load 29 _ rfl g6 0 rfl 29 (bvs h) (bvs h) hI.a6 (fun j v h => by rw [Nat.zero_add]; exact h) (.array 32 5) Try.underlying29 rfl h32h.out ?_
        exact hK _ _ ⟨v48, v49, v50, v51, v52, v53, v54, v55, _, v57, v58, v59, v60, rfl, ⟨hI.t0, hI.t1, hI.t2, hI.t3, hI.t4, hI.t5, hI.t6, hI.t7, fun _ => rfl, hI.t9, hI.t10, hI.t11, hI.t12, hI.ap, hI.apx, hI.a6, hI.a8, hI.own, hI.kb, hI.kd, hI.sz⟩⟩
      · rintro L a wx ⟨v48, v49, v50, v51, v52, v53, v54, v55, v56, v57, v58, v59, v60, rfl, hI⟩ hL hdep hcl K hK
        obtain rfl := hI.t8 (hdep 8 (by decide))
        refine ow_of_wl rfl ?_
        refine wl_litD rfl 56 rfl h H2.out rfl ?_
        intro w' hL1 hb
        show K _ _
        exact hK _ _ ⟨v48, v49, v50, v51, v52, v53, v54, v55, _, _, v58, v59, v60, rfl, ⟨hI.t0, hI.t1, hI.t2, hI.t3, hI.t4, hI.t5, hI.t6, hI.t7, hI.t8, fun _ => ⟨_, rfl, hL1, hI.sz⟩, fun h => (hI.t10 h).to hb, hI.t11, hI.t12, fun h => (hI.ap h).kept hb, fun h => (hI.apx h).kept hb, (hI.a6).kept hb, (hI.a8).kept hb, (hI.own).to hb, (hI.kb).below hb, (hb.block D (Array.getElem?_eq_some_iff.1 hI.kd).1).trans hI.kd, Nat.le_trans hI.sz hb.size⟩⟩
      · rintro L a wx ⟨v48, v49, v50, v51, v52, v53, v54, v55, v56, v57, v58, v59, v60, rfl, hI⟩ hL hdep hcl K hK
        obtain rfl := hI.t7 (hdep 7 (by decide))
        obtain ⟨r, rfl, hL1, hrS⟩ := hI.t9 (hdep 9 (by decide))
        refine ow_of_wl rfl ?_
        refine wl_appendN rfl (.tmp 55) (.tmp 57) rfl al s (P.take s) rfl (HRT.out wx hI.kb) r h rfl hL1 H2.out (by omega) ?_
        intro u w' hO hb
        show K _ _
        exact hK _ _ ⟨v48, v49, v50, v51, v52, v53, v54, _, v56, _, _, v59, v60, rfl, ⟨hI.t0, hI.t1, hI.t2, hI.t3, hI.t4, hI.t5, hI.t6, hI.t7, hI.t8, fun h => by obtain ⟨r, e, h1, h2⟩ := hI.t9 h; exact ⟨r, e, h1.kept hb, h2⟩, fun _ => hO.base hI.sz, hI.t11, hI.t12, fun h => (hI.ap h).kept hb, (fun h13 => by have h4 := hcl 13 (by decide) h13 10 (by decide); rw [hL] at h4; cases h4), (hI.a6).kept hb, (hI.a8).kept hb, (hI.own).to hb, (hI.kb).below hb, (hb.block D (Array.getElem?_eq_some_iff.1 hI.kd).1).trans hI.kd, Nat.le_trans hI.sz hb.size⟩⟩
      · rintro L a wx ⟨v48, v49, v50, v51, v52, v53, v54, v55, v56, v57, v58, v59, v60, rfl, hI⟩ hL hdep hcl K hK
        obtain rfl := hI.t0 (hdep 0 (by decide))
        go_simp
        exact hK _ _ ⟨_, v49, v50, v51, v52, v53, v54, v55, v56, v57, v58, _, v60, rfl, ⟨hI.t0, hI.t1, hI.t2, hI.t3, hI.t4, hI.t5, hI.t6, hI.t7, hI.t8, hI.t9, hI.t10, fun _ => rfl, hI.t12, hI.ap, hI.apx, hI.a6, hI.a8, hI.own, hI.kb, hI.kd, hI.sz⟩⟩
      · rintro L a wx ⟨v48, v49, v50, v51, v52, v53, v54, v55, v56, v57, v58, v59, v60, rfl, hI⟩ hL hdep hcl K hK
        obtain rfl := hI.t11 (hdep 11 (by decide))
        go_simp
        exact hK _ _ ⟨v48, v49, v50, v51, v52, v53, v54, v55, v56, v57, v58, _, _, rfl, ⟨hI.t0, hI.t1, hI.t2, hI.t3, hI.t4, hI.t5, hI.t6, hI.t7, hI.t8, hI.t9, hI.t10, hI.t11, fun _ => rfl, hI.ap, hI.apx, hI.a6, hI.a8, hI.own, hI.kb, hI.kd, hI.sz⟩⟩
      · rintro L a wx ⟨v48, v49, v50, v51, v52, v53, v54, v55, v56, v57, v58, v59, v60, rfl, hI⟩ hL hdep hcl K hK
        obtain rfl := hI.t12 (hdep 12 (by decide))
        obtain rfl := hI.t0 (hdep 0 (by decide))
        obtain rfl := hI.t1 (hdep 1 (by decide))
        obtain rfl := hI.t2 (hdep 2 (by decide))
        obtain rfl := hI.t3 (hdep 3 (by decide))
        obtain rfl := hI.t4 (hdep 4 (by decide))
        obtain rfl := hI.t5 (hdep 5 (by decide))
        obtain rfl := hI.t6 (hdep 6 (by decide))
        obtain rfl := hI.t7 (hdep 7 (by decide))
        obtain rfl := hI.t8 (hdep 8 (by decide))
        have h58 := hI.t10 (hdep 10 (by decide))
        refine ow_store1 30 _ _ rfl p 2 rfl v58 rfl (cells_own h58.row) (one_own h58.row) 49 _ (hI.ap hL) sizeSD (by simp) ?_
        intro w' hA' hg hs
        exact hK _ _ ⟨_, _, _, _, _, _, _, _, _, v57, v58, v59, _, rfl, ⟨hI.t0, hI.t1, hI.t2, hI.t3, hI.t4, hI.t5, hI.t6, hI.t7, hI.t8, (fun h => by obtain ⟨r, e, k1, k2⟩ := hI.t9 h; exact ⟨r, e, k1.grown hg (by intro e; injection e with e; omega), k2⟩), fun _ => h58.by hg (own_low h58.row hpS), hI.t11, hI.t12, (fun h => nomatch (show true = false from h)), fun _ => hA', hI.a6.grown hg (by intro e; injection e with e; omega), hI.a8.grown hg (by intro e; injection e with e; omega), hI.own.by hg (own_low hI.own.row (by omega)), hI.kb.grown hg rfl, (hg.block D (Array.getElem?_eq_some_iff.1 hI.kd).1 (by intro e; injection e with e; exact hDp e)).trans hI.kd, Nat.le_trans hI.sz hg.size⟩⟩
      · rintro a wx ⟨v48, v49, v50, v51, v52, v53, v54, v55, v56, v57, v58, v59, v60, rfl, hI⟩
        have hap := hI.apx rfl
        have ha8 := hI.a8
        have hw8 := hI.own
        have hkb := hI.kb
        have hkd := hI.kd
        have h58 := hI.t10 rfl
        clear hI
        have c1 := hap.cell 1
        have c8 := ha8.cell 0
        simp only [List.getElem?_cons_succ, List.getElem?_cons_zero] at c1 c8
        obtain ⟨gn, cn, rfl, hgn, hgn2⟩ := h58.solid (by simp)
        go_upto_region 16 with ((with_reducible show wpList _ _ _ (⟨none, .store _ _ _, _, _, _, _⟩ :: _) _ _); refine wl_store1 rfl 31 _ _ rfl p 1 rfl _ rfl rfl rfl 49 _ hap size31 (by simp) ?_; intro W5 hA5 hg5 hs5; have c8' : W5.cell? ⟨g8, 0, none⟩ = some (.slice (some ⟨gv, 0, none⟩) tl cv) := (World.cell?_of_block (hg5.block g8 ha8.lt (by intro e; injection e with e; omega))).trans c8)
        clear c8
        go_wp2
        rw [HWN.out] at hA5
        simp only [List.set_cons_succ, List.set_cons_zero] at hA5
        have q5 := Q5.out
        have qw := QW.out
        have hb0 := h103.size
        have kb5 : KB (fun k => k = p) w W5 := ((kb_below h103).trans hkb).grown hg5 rfl
        have hkd5 := (hg5.block D (Array.getElem?_eq_some_iff.1 hkd).1 (by intro e; injection e with e; omega)).trans hkd
        have h585 := h58.by hg5 (own_low h58.row hpS)
        have hw85 := hw8.by hg5 (own_low hw8.row (by omega))
        refine ⟨by simp, .inl ⟨_, _, rfl, run_takeDeferred hkd5, ?_⟩⟩
        have hnc : ∀ r, some D = some r → ∃ o : Obj, W5.heap[r]? = some o ∧ o.isCells = false := fun r e => by cases e; exact ⟨_, hkd5, rfl⟩
        have hgP := grownBy_putObj' W5 D (.deferred none)
        have hAf := arr_owned hA5 hgP hnc
        have h58f := ownD_owned h585 hgP hnc
        have hwf := ownD_owned hw85 hgP hnc
        have hT2 := HT2.out
        have hT1 := HT1.out
        have hTL := HTL.out
        refine ⟨_, results_tmp2 rfl _ _ _, gv, cv, ?_, ?_, ⟨⟨some ⟨gn, 0, none⟩, cn, ?_, ?_, fun ad e => ?_⟩, ?_, by have := HN.out; omega⟩, by omega, kb5.puts D _ (by omega)⟩
        · rw [← hT2, ← hTL]
          rfl
        · rw [← hT2, ← hTL]
          exact hwf.base (by omega)
        · rw [hT1]
          exact hAf
        · rw [hT1]
          exact h58f.rdAt
        · injection e with e
          rw [← e]
          have := h58f.solid (by simp)
          exact ⟨⟨by show w.heap.size ≤ gn; omega, by show gn ≠ gv; omega⟩, by show gn < (W5.putObj D (.deferred none)).heap.size; have := hgP.size; have := hg5.size; omega, own_type h58f.row rfl⟩
        · exact addP_len (by rw [hPm]; exact HCNT.out)
end Go.Proofs.Ytlfncgpjgbpdjaa
