/-
  Layer 9: a range in memory; fresh, is, New, Size, Peaks, how many ones. Conditions: those in each statement.
-/
import Derived.Test.YtlfncgpjgbpdjaaRnB
import Derived.Test.YtlfncgpjgbpdjaaMkO
import Derived.Test.YtlfncgpjgbpdjaaMkP
import Derived.Test.YtlfncgpjgbpdjaaMkY
namespace Go.Proofs.Ytlfncgpjgbpdjaa
open Go.RowKit

section
variable {P : Program} {ops : Array Oper} {rest : List Oper} {o : Oper} {a : Act} {Q : Exit → Act → World → Prop} {w : World}
/-- copy of rows of S cells over a block's beginning -/
theorem wl_copyS (hgd : o.guard = none) (d s : Operand) (dT sT : TypeId) (ho : o.op = .call { callee := .builtin .copy, args := #[d, s], argTypes := #[dT, sT] })
    (elem : TypeId) (S : Nat) (hu : P.underlying dT = some (.slice elem)) (hsz : (P.info? elem).map (·.size) = some S) (g dLen dCap : Nat) (sp : Option Addr) (sLen sCap : Nat)
    (hd : a.eval d = .slice (some ⟨g, 0, none⟩) dLen dCap) (hs : a.eval s = .slice sp sLen sCap) (T : TypeId) (old : List Value) (hA : Arr w g T old) (cs : List Value) (hle : sLen ≤ dLen) (hn : cs.length = sLen * S)
    (hsrc : 0 < sLen → ∃ ad, sp = some ad ∧ ∀ j v, cs[j]? = some v → w.cell? (ad.add j) = some v) (hfit : cs.length ≤ old.length) (h1 : ∀ v ∈ cs, v.oneCell' = true)
    (hK : ∀ w', Arr w' g T (cs ++ old.drop cs.length) → w.grownBy w' (some g) → w.heap.size ≤ w'.heap.size → wpList P ops Q rest (a.put o.dst (goInt sLen)) w') :
    wpList P ops Q (o :: rest) a w := by
  have hmin : Nat.min sLen dLen = sLen := Nat.min_eq_left hle
  obtain ⟨i, hq, hi⟩ : ∃ i, P.info? elem = some i ∧ i.size = S := by
    cases hq : P.info? elem with
    | none => simp [hq] at hsz
    | some i => exact ⟨i, rfl, by simpa [hq] using hsz⟩
  have hst := run_storeCells_at P g 0 T cs 0 old.toArray w hA (by simpa using hfit) h1
  have hrun : (Builtin.copy_ #[dT, sT] o.type #[.slice (some ⟨g, 0, none⟩) dLen dCap, .slice sp sLen sCap]).run P w = .ok (goInt sLen) (w.setRow g (cs ++ old.drop cs.length).toArray) := by
    by_cases h0 : 0 < sLen
    · obtain ⟨ad, rfl, hsr⟩ := hsrc h0
      have hl := run_loadCells_list (P := P) w ad cs hsr
      rw [hn] at hl
      simp only [Nat.zero_add, List.take_zero, List.nil_append] at hst
      simp [Builtin.copy_, run_underlying hu, Builtin.lenOf, Builtin.firstCells, sizeOf, typeInfo, hq, hi, hmin, hl, hst]
    · obtain rfl : sLen = 0 := by omega
      obtain rfl : cs = [] := List.eq_nil_of_length_eq_zero (by omega)
      have hl : ∀ x : Addr, (loadCells x 0).run P w = .ok #[] w := fun x => by simpa using run_loadCells_list (P := P) w x [] (by simp)
      have e := setRow_self w g old.toArray T (0, 0) hA
      have hm : Nat.min 0 dLen = 0 := by omega
      cases sp <;> simp [Builtin.copy_, run_underlying hu, Builtin.lenOf, Builtin.firstCells, sizeOf, typeInfo, hq, hm, storeCells, hl, e]
  refine wpList_plain hgd fun K hK' => ?_
  unfold Oper.wp
  simp [execOp, ho, resolve, invoke, builtin, hd, hs, hrun, Result.andThen]
  refine hK' _ _ (hK _ ?_ (setRow_grown _ _ _) (by simp [World.setRow]))
  exact setRow_heap w g old.toArray (cs ++ old.drop cs.length).toArray T (0, 0) hA
end

section
variable {P : Program} {o : Oper} {a : Act} {K : Act → World → Prop} {Q : Exit → Act → World → Prop} {w : World}
theorem ow_box (t : TypeId) (x : Operand) (ho : o.op = .box t x) (xs : List Value) (hx : a.eval x = .agg xs.toArray)
    (hK : ∀ w', Arr w' w.heap.size t xs → Below w.heap.size w w' → w'.heap.size = w.heap.size + 1 → K (a.put o.dst (.pointer (some ⟨w.heap.size, 0, none⟩))) w') : o.wp P a w K Q := by
  unfold Oper.wp execOp
  simp only [ho, hx, Sem.run_bind, Instr.box, newVar, newRow, run_newObj_alloc, Sem.run_pure, Result.andThen_ok]
  exact hK _ (Arr.new w t xs) ((Below.refl _ _).alloc (Nat.le_refl _) _) (by simp)
theorem ow_build (t : TypeId) (parts : Array (Nat × Operand)) (ho : o.op = .build t parts) (cells : Array Value) (hf : P.built t (parts.map fun (i, x) => (i, a.eval x)).toList = some cells)
    (h : K (a.put o.dst (.agg cells)) w) : o.wp P a w K Q := by
  refine wp_build t parts ho (by rw [hf]; rfl) ?_
  rw [hf]
  exact h
end

/-- the range at p: so many leaves, these peaks, which lie in blocks that q allows -/
structure IsR (q : Nat → Prop) (w : World) (p n : Nat) (P : List (List UInt8)) : Prop where
  ex : ∃ a c, Arr w p 49 [.bool true, .int .u64 (n : Int), .slice a P.length c] ∧ RdD w a P.length c P ∧ ∀ ad, a = some ad → q ad.block ∧ ad.block < w.heap.size ∧ ∃ cs, w.heap[ad.block]? = some (.cells cs 29 (0, 0))
  cnt : P.length = popN n
  le : n ≤ 1048576
theorem IsR.lt {q : Nat → Prop} {w : World} {p n : Nat} {P : List (List UInt8)} (h : IsR q w p n P) : p < w.heap.size := by
  obtain ⟨a, c, hA, -⟩ := h.ex
  exact hA.lt
theorem IsR.few {q : Nat → Prop} {w : World} {p n : Nat} {P : List (List UInt8)} (h : IsR q w p n P) : P.length ≤ 21 := by
  rw [h.cnt]
  exact lowP_len_lt 21 n 1 (by have := h.le; omega)
theorem IsR.mono {q q' : Nat → Prop} {w : World} {p n : Nat} {P : List (List UInt8)} (h : IsR q w p n P) (hq : ∀ b, b < w.heap.size → q b → q' b) : IsR q' w p n P := by
  obtain ⟨a, c, hA, hr, hb⟩ := h.ex
  exact ⟨⟨a, c, hA, hr, fun ad e => ⟨hq _ (hb ad e).2.1 (hb ad e).1, (hb ad e).2⟩⟩, h.cnt, h.le⟩
/-- what is turned is neither the range nor its peaks -/
theorem IsR.kb {q Z : Nat → Prop} {w w' : World} {p n : Nat} {P : List (List UInt8)} (h : IsR q w p n P) (hb : KB Z w w') (hp : ¬ Z p) (hz : ∀ b, q b → ¬ Z b) : IsR q w' p n P := by
  obtain ⟨a, c, hA, hr, hl⟩ := h.ex
  refine ⟨⟨a, c, ?_, hb.rdD hr fun ad e _ => hz _ (hl ad e).1, fun ad e => ⟨(hl ad e).1, Nat.lt_of_lt_of_le (hl ad e).2.1 hb.size, by obtain ⟨cs, h1⟩ := (hl ad e).2.2; exact ⟨cs, (hb.block _ (hl ad e).2.1 (hz _ (hl ad e).1)).trans h1⟩⟩⟩, h.cnt, h.le⟩
  show w'.heap[p]? = _
  rw [hb.block p hA.lt hp]
  exact hA
theorem kb_below {Z : Nat → Prop} {w w' : World} (h : Below w.heap.size w w') : KB Z w w' := (KB.refl Z w).below h
theorem IsR.to {q : Nat → Prop} {w w' : World} {p n : Nat} {P : List (List UInt8)} (h : IsR q w p n P) (hb : Below w.heap.size w w') : IsR q w' p n P :=
  h.kb (Z := fun _ => False) (kb_below hb) (fun e => e) (fun _ _ e => e)

theorem isR_any (c1 c2 : Value) (p : Nat) (b : Bool) (w : World) (h : Arr w p 49 [.bool b, c1, c2]) :
    Calls Try.prog 21 #[.pointer (some ⟨p, 0, none⟩)] w fun e w' => e = .returned (.bool b) ∧ w = w' := by
  have c0 := h.cell 0
  simp only [List.getElem?_cons_zero] at c0
  clear h
  go_enter Try.func21, Try.ntmps21
  go_wp2
  go_ret
  exact ⟨rfl, rfl⟩
theorem isR_none (w : World) : Calls Try.prog 21 #[.pointer none] w fun e w' => e = .returned (.bool false) ∧ w = w' := by
  go_enter Try.func21, Try.ntmps21
  go_wp2
  go_ret
  exact ⟨rfl, rfl⟩
theorem Size_any {q : Nat → Prop} (p n : Nat) (P : List (List UInt8)) (w : World) (h : IsR q w p n P) :
    Calls Try.prog 13 #[.pointer (some ⟨p, 0, none⟩)] w fun e w' => e = .returned (.int .u64 (n : Int)) ∧ w = w' := by
  obtain ⟨a, c, hA, -, -⟩ := h.ex
  have c1 := hA.cell 1
  simp only [List.getElem?_cons_succ, List.getElem?_cons_zero] at c1
  have HI := Lib.hid (isR_any _ _ p true w hA)
  clear hA h
  go_enter Try.func13, Try.ntmps13
  go_wp2_with (go_at_call 21; refine (HI.out).mono ?_; rintro e w1 ⟨rfl, rfl⟩)
  go_ret
  exact ⟨rfl, rfl⟩
theorem sizeD32 : (Try.prog.info? 29).map (·.size) = some 32 := by kernel_rfl
/-- a copy of hashes -/
theorem fresh_any (L : List (List UInt8)) (a : Option Addr) (n c : Nat) (w : World) (hn : n ≤ 2 ^ 42) (hr : RdD w a n c L) :
    Calls Try.prog 22 #[.slice a n c] w fun e w' => e = .returned (.slice (some ⟨w.heap.size, 0, none⟩) n n) ∧ Arr w' w.heap.size 29 (dcs L) ∧ Below w.heap.size w w' := by
  have hl := hr.len
  have hall := hr.all
  have hdl := dcs_len hall
  rw [hl] at hdl
  have HDL := Lib.hid hdl
  have HZ : Hid ((dcs (List.replicate n (Z8 32))).length = n * 32) := by show _ = _; rw [dcs_len (zero32 n), List.length_replicate]
  have hsr : Hid (∀ w', Below w.heap.size w w' → 0 < n → ∃ ad, a = some ad ∧ ∀ j v, (dcs L)[j]? = some v → w'.cell? (ad.add j) = some v) := fun w' hb h0 => by
    have h2 := hr.to hb
    obtain ⟨b, off, rfl, -, -⟩ := h2.mem h0
    exact ⟨_, rfl, h2.cells⟩
  clear hl hdl hr hall
  go_enter Try.func22, Try.ntmps22
  go_wp2_with (first
    | ((with_reducible show wpList _ _ _ (⟨some 6, .makeSlice _ _ _, _, _, _, _⟩ :: _) _ _); refine wl_makeD rfl (.tmp 5) (.tmp 5) rfl n n rfl rfl (Nat.le_refl _) (by omega) ?_; intro w1 hA1 hb1 hs1)
    | ((with_reducible show wpList _ _ _ (⟨some 9, _, _, _, _, _⟩ :: _) _ _); refine wl_copyS rfl (.tmp 7) (.tmp 8) 30 30 rfl 29 32 Try.underlying30 sizeD32 w.heap.size n n a n c rfl rfl 29 _ hA1 (dcs L) (Nat.le_refl _) HDL.out (hsr.out _ hb1) (by rw [HDL.out, HZ.out]; exact Nat.le_refl _) (fun u hu => (by simp only [dcs, List.mem_flatMap] at hu; obtain ⟨x, -, hu⟩ := hu; exact bvs_one x u hu)) ?_; intro w2 hA2 hg2 hs2))
  rw [List.drop_of_length_le (by rw [HDL.out, HZ.out]; exact Nat.le_refl _), List.append_nil] at hA2
  go_ret
  exact ⟨rfl, hA2, hb1.grown hg2 hb1.size (by intro k e; injection e with e; omega)⟩
theorem rdd_arr' {w : World} {g n : Nat} {L : List (List UInt8)} (h : Arr w g 29 (dcs L)) (ha : All32 L) (hn : L.length = n) : RdD w (some ⟨g, 0, none⟩) n n L := by
  subst hn
  exact rdd_arr h ha
theorem w64i (n : Int) (h0 : 0 ≤ n) (h1 : n < 2 ^ 64) : IntKind.u64.wrap n = n := by rw [IntKind.wrap_u64]; omega
theorem and64 (a b : Nat) (ha : a < 2 ^ 64) (hb : b < 2 ^ 64) : bits .and .u64 (a : Int) (b : Int) = ((a &&& b : Nat) : Int) := (bits_nat .u64 64 (by decide) w64i a b ha hb).1
theorem w64 (n : Nat) (h : n < 2 ^ 64) : IntKind.u64.wrap (n : Int) = (n : Int) := w64i _ (by omega) (by omega)
theorem oc1_int (n : Nat) (hn : n < 2 ^ 24) : IntKind.u64.wrap (bits .and .u64 ((n : Int) / 2) 6148914691236517205 + bits .and .u64 (n : Int) 6148914691236517205) = ((oc1 n : Nat) : Int) := by
  have h1 := and64 (n / 2) 6148914691236517205 (by omega) (by omega)
  have h2 := and64 n 6148914691236517205 (by omega) (by omega)
  have e : ((n / 2 : Nat) : Int) = (n : Int) / 2 := by omega
  have e5 : ((6148914691236517205 : Nat) : Int) = 6148914691236517205 := rfl
  rw [e, e5] at h1
  rw [e5] at h2
  rw [h1, h2, ← Int.natCast_add]
  exact w64 _ (by have := (oc_lt n hn).1; unfold oc1 at this; omega)
theorem oc2_int (m n : Nat) (hn : n < 2 ^ 24) (hm : oc1 n = m) : IntKind.u64.wrap (bits .and .u64 ((m : Int) / 4) 3689348814741910323 + bits .and .u64 (m : Int) 3689348814741910323) = ((oc2 m : Nat) : Int) := by
  have hl := oc_lt n hn
  rw [hm] at hl
  have h1 := and64 (m / 4) 3689348814741910323 (by omega) (by omega)
  have h2 := and64 m 3689348814741910323 (by omega) (by omega)
  have e : ((m / 4 : Nat) : Int) = (m : Int) / 4 := by omega
  have e5 : ((3689348814741910323 : Nat) : Int) = 3689348814741910323 := rfl
  rw [e, e5] at h1
  rw [e5] at h2
  rw [h1, h2, ← Int.natCast_add]
  exact w64 _ (by have := hl.2.1; unfold oc2 at this; omega)
theorem oc3_int (m : Nat) (hm : m < 2 ^ 24) : bits .and .u64 (IntKind.u64.wrap ((m : Int) / 16 + (m : Int))) 1085102592571150095 = ((oc3 m : Nat) : Int) := by
  have e : (m : Int) / 16 + (m : Int) = ((m / 16 + m : Nat) : Int) := by omega
  rw [e, w64 _ (by omega)]
  exact and64 (m / 16 + m) 1085102592571150095 (by omega) (by omega)
set_option maxHeartbeats 800000 in
/-- math/bits.OnesCount64 -/
theorem ones_any (n : Nat) (w : World) (hn : n < 2 ^ 24) :
    Calls Try.prog 25 #[.int .u64 (n : Int)] w fun e w' => e = .returned (.int .i64 (popN n : Int)) ∧ w = w' := by
  have e1 := oc1_int n hn
  have l := oc_lt n hn
  have e2 := oc2_int (oc1 n) n hn rfl
  have e3 := oc3_int (oc2 (oc1 n)) l.2.1
  have hp := (oc_pop n _ hn rfl).2
  have l3 := l.2.2
  generalize oc3 (oc2 (oc1 n)) = y3 at *
  generalize oc2 (oc1 n) = y2 at *
  generalize oc1 n = y1 at *
  have E1 := Lib.hid e1
  have E2 := Lib.hid e2
  have E3 := Lib.hid e3
  have HP := Lib.hid hp
  have L3 := Lib.hid l3
  have HN := Lib.hid hn
  clear e1 e2 e3 l hp l3 hn
  go_enter Try.func25, Try.ntmps25
  go_upto_region 2 with fail
  rw [E1.out]
  go_upto_region 3 with fail
  rw [E2.out]
  go_upto_region 4 with fail
  rw [E3.out]
  have f1 : Hid (IntKind.u64.wrap ((y3 : Int) + (y3 : Int) / 256) = ((y3 + y3 / 256 : Nat) : Int)) := by
    show _ = _
    rw [show (y3 : Int) + (y3 : Int) / 256 = ((y3 + y3 / 256 : Nat) : Int) by omega]
    exact w64 _ (by have := L3.out; omega)
  go_upto_region 5 with fail
  rw [f1.out]
  obtain ⟨u, hu⟩ : ∃ u, u = y3 + y3 / 256 := ⟨_, rfl⟩
  rw [← hu]
  have HU := Lib.hid hu
  clear hu
  have f2 : Hid (IntKind.u64.wrap ((u : Int) + (u : Int) / 65536) = ((u + u / 65536 : Nat) : Int)) := by
    show _ = _
    rw [show (u : Int) + (u : Int) / 65536 = ((u + u / 65536 : Nat) : Int) by omega]
    exact w64 _ (by have := L3.out; have := HU.out; omega)
  go_upto_region 6 with fail
  rw [f2.out]
  obtain ⟨v, hv⟩ : ∃ v, v = u + u / 65536 := ⟨_, rfl⟩
  rw [← hv]
  have HV := Lib.hid hv
  clear hv
  have hvl : Hid (v < 2 ^ 26) := by show _ < _; have := HV.out; have := L3.out; have := HU.out; omega
  have f3 : Hid (IntKind.u64.wrap ((v : Int) + (v : Int) / 4294967296) = ((v + v / 4294967296 : Nat) : Int)) := by
    show _ = _
    rw [show (v : Int) + (v : Int) / 4294967296 = ((v + v / 4294967296 : Nat) : Int) by omega]
    exact w64 _ (by have := hvl.out; omega)
  go_upto_region 7 with fail
  rw [f3.out]
  obtain ⟨z, hz⟩ : ∃ z, z = v + v / 4294967296 := ⟨_, rfl⟩
  rw [← hz]
  obtain ⟨hz1, hz2⟩ := HP.out u v z HU.out HV.out hz
  have f4 : Hid (bits .and .i64 (z : Int) 127 = ((popN n : Nat) : Int)) := by
    show _ = _
    have := (bits_nat .i64 32 (by decide) (fun k h0 h1 => by rw [IntKind.wrap_i64]; omega) z 127 hz1 (by decide)).1
    rw [show ((127 : Nat) : Int) = 127 from rfl] at this
    rw [this, show z &&& 127 = z % 128 from Nat.and_two_pow_sub_one_eq_mod z 7, hz2]
  clear hz
  go_wp2_with fail
  rw [f4.out]
  go_ret
  exact ⟨rfl, rfl⟩
end Go.Proofs.Ytlfncgpjgbpdjaa
