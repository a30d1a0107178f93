/-
  Layer 11: both heads as one array: made, loaded, stored, held against each other; what the program's loop makes, plainly. Conditions: those in each statement.
-/
import Derived.Test.YtcnnblhjgligbaaCnB
import Derived.Test.YtcnnblhjgligbaaInI
import Derived.Great.FillDense
namespace Go.Proofs.Ytcnnblhjgligbaa
open Go.RowKit

theorem fold_put (off : Nat) (l : List Value) (cs : List Value) (h : off + l.length ≤ cs.length) :
    (l.toArray.zipIdx.foldl (fun cs (x : Value × Nat) => cs.setIfInBounds (off + x.2) x.1) cs.toArray) = (cs.take off ++ l ++ cs.drop (off + l.length)).toArray := by
  obtain ⟨h1, h2⟩ := Great.foldl_set off l 0 cs.toArray
  have e : l.toArray.zipIdx.foldl (fun cs (x : Value × Nat) => cs.setIfInBounds (off + x.2) x.1) cs.toArray = (l.zipIdx 0).foldl (fun cs (x : Value × Nat) => cs.setIfInBounds (off + x.2) x.1) cs.toArray := by
    rw [← Array.foldl_toList]
    simp
  rw [e]
  apply Array.ext_getElem?
  intro k
  rw [h2 k]
  simp only [List.size_toArray, List.getElem?_toArray, Nat.add_zero]
  by_cases hk : off ≤ k ∧ k < off + l.length ∧ k < cs.length
  · rw [if_pos hk, List.append_assoc, List.getElem?_append_right (by rw [List.length_take]; omega), List.getElem?_append_left (by rw [List.length_take]; omega)]
    congr 1
    rw [List.length_take]
    omega
  · rw [if_neg hk]
    by_cases h3 : k < off
    · rw [List.append_assoc, List.getElem?_append_left (by rw [List.length_take]; omega), List.getElem?_take, if_pos h3]
    · rw [List.getElem?_append_right (by rw [List.length_append, List.length_take]; omega), List.getElem?_drop]
      congr 1
      rw [List.length_append, List.length_take]
      omega
theorem fill_nil (place : Nat → Option (Nat × Nat)) (cs : List Value) : Instr.fill place cs.toArray [] = some cs.toArray := rfl
/-- one part more -/
theorem fill_cons (place : Nat → Option (Nat × Nat)) (cs : List Value) (i off : Nat) (v : Value) (l : List Value) (rest : List (Nat × Value)) (hv : v.cells = l.toArray) (hp : place i = some (off, l.length)) (h : off + l.length ≤ cs.length) :
    Instr.fill place cs.toArray ((i, v) :: rest) = Instr.fill place (cs.take off ++ l ++ cs.drop (off + l.length)).toArray rest := by
  conv => lhs; unfold Instr.fill
  rw [hp, hv]
  simp only
  rw [if_neg (by simp; omega), fold_put off l cs h]

/-- two hashes, one behind the other -/
abbrev b2 (x y : List UInt8) : List Value := bvs x ++ bvs y
theorem b2_len {x y : List UInt8} (hx : x.length = 32) (hy : y.length = 32) : (b2 x y).length = 64 := by rw [List.length_append, bvs_len, bvs_len, hx, hy]
theorem b2_one (x y : List UInt8) : ∀ v ∈ b2 x y, v.oneCell' = true := by
  intro v hv
  rcases List.mem_append.1 hv with h | h
  · exact bvs_one _ v h
  · exact bvs_one _ v h
theorem infoB : (Try.prog.info? 62).map (fun i => (i.zero, i.size)) = some (some (.agg (b2 (Z8 32) (Z8 32)).toArray), 64) := by kernel_rfl
theorem sizeB : (Try.prog.info? 62).map (·.size) = some 64 := by kernel_rfl
theorem builtB0 : Try.prog.built 62 [] = some (b2 (Z8 32) (Z8 32)).toArray := by kernel_rfl
theorem built_unf2 (parts : List (Nat × Value)) : Try.prog.built 62 parts = Instr.fill (fun i => some (i * 32, 32)) (b2 (Z8 32) (Z8 32)).toArray parts := by kernel_rfl
theorem built_both (x y : List UInt8) (hx : x.length = 32) (hy : y.length = 32) : Try.prog.built 62 [(0, .agg (bvs x).toArray), (1, .agg (bvs y).toArray)] = some (b2 x y).toArray := by
  have lx : (bvs x).length = 32 := by rw [bvs_len]; exact hx
  have ly : (bvs y).length = 32 := by rw [bvs_len]; exact hy
  have lz : (bvs (Z8 32)).length = 32 := by rw [bvs_len]; simp [Z8]
  rw [built_unf2]
  show Instr.fill _ (bvs (Z8 32) ++ bvs (Z8 32)).toArray _ = some (bvs x ++ bvs y).toArray
  generalize bvs x = X at *
  generalize bvs y = Y at *
  generalize bvs (Z8 32) = Z at *
  rw [fill_cons _ (Z ++ Z) 0 0 _ X _ rfl (by rw [lx]) (by rw [List.length_append]; omega), fill_cons _ _ 1 32 _ Y _ rfl (by rw [ly]) (by simp [lx, ly, lz]), fill_nil]
  congr 2
  have e1 : List.take 0 (Z ++ Z) ++ X ++ List.drop (0 + X.length) (Z ++ Z) = X ++ Z := by
    rw [List.take_zero, List.nil_append, Nat.zero_add, lx, ← lz, List.drop_left]
  rw [e1, ← lx, List.take_left, List.drop_of_length_le (by rw [List.length_append]; omega), List.append_nil]
section
variable {o : Oper} {a : Act} {K : Act → World → Prop} {Q : Exit → Act → World → Prop} {w : World} {ops : Array Oper} {rest : List Oper}
theorem built_eval (i j : Nat) (x y : List UInt8) (hi : a.eval (.tmp i) = .agg (bvs x).toArray) (hj : a.eval (.tmp j) = .agg (bvs y).toArray) (hx : x.length = 32) (hy : y.length = 32) :
    Try.prog.built 62 ((#[(0, .tmp i), (1, .tmp j)] : Array (Nat × Operand)).map fun (i, x) => (i, a.eval x)).toList = some (b2 x y).toArray := by
  rw [← built_both x y hx hy, ← hi, ← hj]
  simp
/-- an array of two hashes -/
theorem wl_buildB (hg : o.guard = none) (i j : Nat) (ho : o.op = .build 62 #[(0, .tmp i), (1, .tmp j)]) (x y : List UInt8) (hi : a.eval (.tmp i) = .agg (bvs x).toArray) (hj : a.eval (.tmp j) = .agg (bvs y).toArray)
    (hx : x.length = 32) (hy : y.length = 32) (hK : wpList Try.prog ops Q rest (a.put o.dst (.agg (b2 x y).toArray)) w) : wpList Try.prog ops Q (o :: rest) a w :=
  wpList_buildTo hg 62 _ ho o.dst rfl _ (built_eval i j x y hi hj hx hy) hK
theorem wl_buildBG (hw : Region.wanted o (yielded ops a.tmps) = true) (i j : Nat) (ho : o.op = .build 62 #[(0, .tmp i), (1, .tmp j)]) (x y : List UInt8) (hi : a.eval (.tmp i) = .agg (bvs x).toArray) (hj : a.eval (.tmp j) = .agg (bvs y).toArray)
    (hx : x.length = 32) (hy : y.length = 32) (hK : wpList Try.prog ops Q rest (a.put o.dst (.agg (b2 x y).toArray)) w) : wpList Try.prog ops Q (o :: rest) a w :=
  wl_buildG hw 62 _ ho _ (built_eval i j x y hi hj hx hy) hK
end
/-- what stands in the first half, and in the second -/
theorem b2_lo {x y : List UInt8} : ∀ (j : Nat) (v : Value), (bvs x)[j]? = some v → (b2 x y)[0 + j]? = some v := by
  intro j v h
  rw [Nat.zero_add, List.getElem?_append_left (List.getElem?_eq_some_iff.1 h).1]
  exact h
theorem b2_hi {x y : List UInt8} (hx : x.length = 32) : ∀ (j : Nat) (v : Value), (bvs y)[j]? = some v → (b2 x y)[32 + j]? = some v := by
  intro j v h
  rw [List.getElem?_append_right (by rw [bvs_len]; omega), bvs_len, hx, Nat.add_sub_cancel_left]
  exact h
theorem b2_store {x y z : List UInt8} (hx : x.length = 32) (hy : y.length = 32) (hz : z.length = 32) : (b2 x y).take 32 ++ bvs z ++ (b2 x y).drop (32 + (bvs z).length) = b2 x z := by
  have lx : (bvs x).length = 32 := by rw [bvs_len]; exact hx
  have ly : (bvs y).length = 32 := by rw [bvs_len]; exact hy
  have lz : (bvs z).length = 32 := by rw [bvs_len]; exact hz
  rw [List.drop_of_length_le (by rw [List.length_append]; omega), List.append_nil]
  congr 1
  conv => lhs; rw [← lx]
  exact List.take_left
theorem isAggD (w : World) : (isAgg 41).run Try.prog w = .ok true w := by
  unfold isAgg
  rw [Sem.run_bind, run_underlying Try.underlying41 w]
  rfl
theorem run_partD (cs : Array Value) (off : Nat) (w : World) : (part 41 cs off).run Try.prog w = .ok (.agg (cs.extract off (off + 32))) w := by
  obtain ⟨i, hi, h32⟩ : ∃ i, Try.prog.info? 41 = some i ∧ i.size = 32 := by
    have := sizeD
    cases h : Try.prog.info? 41 with
    | none => rw [h] at this; simp at this
    | some i => rw [h] at this; exact ⟨i, rfl, by simpa using this⟩
  have hs : (sizeOf 41).run Try.prog w = .ok 32 w := by simp [sizeOf, typeInfo, hi, h32]
  unfold part
  rw [Sem.run_bind, isAggD, Result.andThen_ok]
  simp only [if_true, Sem.run_bind, hs, Result.andThen_ok, Sem.run_pure]
theorem b2_part0 {x y : List UInt8} (hx : x.length = 32) : (b2 x y).toArray.extract 0 (0 + 32) = (bvs x).toArray := by
  have lx : (bvs x).length = 32 := by rw [bvs_len]; exact hx
  rw [← Array.toList_inj]
  simp only [Array.toList_extract, List.extract_eq_take_drop, Nat.zero_add, Nat.sub_zero, List.drop_zero]
  rw [← lx]
  exact List.take_left
theorem b2_part1 {x y : List UInt8} (hx : x.length = 32) (hy : y.length = 32) : (b2 x y).toArray.extract 32 (32 + 32) = (bvs y).toArray := by
  have lx : (bvs x).length = 32 := by rw [bvs_len]; exact hx
  have ly : (bvs y).length = 32 := by rw [bvs_len]; exact hy
  rw [← Array.toList_inj]
  simp only [Array.toList_extract, List.extract_eq_take_drop, Nat.add_sub_cancel]
  rw [show List.drop 32 (b2 x y) = bvs y by rw [← lx]; exact List.drop_left, List.take_of_length_le (by omega)]
theorem run_eqD9998 {x y : List UInt8} (hx : x.length = 32) (hy : y.length = 32) (w : World) : (Op.equalIn 9999 41 (.agg (bvs x).toArray) (.agg (bvs y).toArray)).run Try.prog w = .ok (decide (x = y)) w := by
  obtain ⟨i, hi⟩ := Option.isSome_iff_exists.1 (infoSome)
  have h := run_equalIn_array w 9998 (bvs x).toArray (bvs y).toArray Try.underlying41 hi
  rw [cells1, show (9998 : Nat) = 9997 + 1 from rfl, run_eqItems_bytes Try.underlying5 9997 x y _ (fun j hj => by have := List.mem_range.1 hj; omega), all_range hx hy] at h
  exact h
theorem cellsDgB : Try.prog.cellsOf 41 = 32 := by kernel_rfl
theorem infoSomeD : (Try.prog.info? 41).isSome = true := by kernel_rfl
/-- '==' of two pairs of hashes -/
theorem eqB {x y u v : List UInt8} (hx : x.length = 32) (hy : y.length = 32) (hu : u.length = 32) (hv : v.length = 32) (w : World) :
    (binOp .eql 62 (.agg (b2 x y).toArray) (.agg (b2 u v).toArray)).run Try.prog w = .ok (.bool (decide (x = u) && decide (y = v))) w := by
  obtain ⟨i, hi⟩ := Option.isSome_iff_exists.1 infoSomeD
  have h := run_equalIn_array w 9999 (b2 x y).toArray (b2 u v).toArray Try.underlying62 hi
  have e : (Op.eqItems 9999 41 32 (b2 x y).toArray (b2 u v).toArray (List.range 2)).run Try.prog w = .ok (decide (x = u) && decide (y = v)) w := by
    rw [show List.range 2 = [0, 1] from rfl]
    simp only [Op.eqItems, Sem.run_bind, run_partD, Result.andThen_ok, Nat.zero_mul, Nat.one_mul, b2_part0 hx, b2_part0 hu, run_eqD9998 hx hu]
    by_cases h1 : x = u
    · subst h1
      simp only [decide_true, Bool.not_true, Bool.false_eq_true, if_false, Bool.true_and, Sem.run_bind, run_partD, Result.andThen_ok, b2_part1 hx hy, b2_part1 hx hv, run_eqD9998 hy hv]
      by_cases h2 : y = v
      · simp [h2]
      · simp [h2]
    · simp [h1]
  rw [cellsDgB, e] at h
  rw [run_eql_struct, show (10000 : Nat) = 9999 + 1 from rfl, h]
  rfl
theorem run_guardEqB (x y : Operand) (A B : Array Value) (w : World) : (eqGuard .eql 62 x y (.agg A) (.agg B)).run Try.prog w = .ok () w := by
  unfold eqGuard
  simp
section
variable {o : Oper} {a : Act} {K : Act → World → Prop} {Q : Exit → Act → World → Prop} {w : World} {ops : Array Oper} {rest : List Oper}
theorem wl_eqB (hw : Region.wanted o (yielded ops a.tmps) = true) (p q : Operand) (r : TypeId) (ho : o.op = .binOp .eql 62 p q r) (x y u v : List UInt8) (hx : x.length = 32) (hy : y.length = 32) (hu : u.length = 32) (hv : v.length = 32)
    (hp : a.eval p = .agg (b2 x y).toArray) (hq : a.eval q = .agg (b2 u v).toArray)
    (hK : wpList Try.prog ops Q rest (a.put o.dst (.bool (decide (x = u) && decide (y = v)))) w) : wpList Try.prog ops Q (o :: rest) a w :=
  wpList_step fun _ hK' => by
    rw [if_pos hw]
    have h := eqB hx hy hu hv w
    unfold Oper.wp execOp
    simp only [ho, hp, hq, Sem.run_bind, Sem.run_pure, run_guardEqB, h, Result.andThen_ok]
    exact hK' _ _ hK
end
/-- one round of the program's loop -/
def stepT (m : Nat) (h : List UInt8 × List UInt8) (x : (Nat × Nat) × List UInt8) : List UInt8 × List UInt8 :=
  if x.1.2 = m then (x.2, x.2) else if m ≤ x.1.1 then (h.1, nodeH h.2 x.2) else (nodeH x.2 h.1, nodeH x.2 h.2)
theorem zip_snoc {α β : Type} (l : List α) (x : α) (P : List β) (z : β) (hl : P.length = l.length + 1) : (l ++ [x]).zip P = l.zip P.dropLast ++ [(x, P.getD (P.length - 1) z)] := by
  obtain ⟨Q, y, rfl⟩ : ∃ Q y, P = Q ++ [y] := by
    have h : P ≠ [] := by intro e; rw [e] at hl; simp at hl
    exact ⟨P.dropLast, P.getLast h, (List.dropLast_concat_getLast h).symm⟩
  have hQ : l.length = Q.length := by simpa using hl.symm
  rw [List.zip_append hQ]
  simp
theorem heads_fold : ∀ (N m n s : Nat) (d : List UInt8) (P : List (List UInt8)) (b : Bool), n ≤ N → 1 ≤ m → m ≤ n → P.length = (wtF m n s b).length →
    ((wtF m n s b).zip P).foldl (stepT (s + m)) (d, d) = hdF m n d P b := by
  intro N
  induction N using Nat.strongRecOn with
  | _ N ih =>
    intro m n s d P b hN h1 h2 hP
    by_cases h : m = n
    · subst h
      rw [hdF_all _ _ _ _ h1, wtF_all _ _ _ h1] at *
      cases b with
      | true => simp
      | false =>
        obtain ⟨y, rfl⟩ : ∃ y, P = [y] := by
          cases P with
          | nil => simp at hP
          | cons y P => cases P with
            | nil => exact ⟨y, rfl⟩
            | cons z P => simp at hP
        simp [stepT]
    · obtain ⟨b1, b2, b3⟩ := splK_bounds (n := n) (by omega)
      by_cases hk : m ≤ splK n
      · rw [wtF_low _ _ _ _ h1 (by omega) hk] at *
        rw [List.length_append, List.length_singleton] at hP
        rw [zip_snoc _ _ _ [] hP, List.foldl_append, ih (splK n) (by omega) m (splK n) s d P.dropLast b (Nat.le_refl _) h1 hk (by rw [List.length_dropLast]; omega), hdF_low _ _ _ _ _ h1 (by omega) hk]
        simp only [List.foldl_cons, List.foldl_nil, stepT]
        rw [if_neg (by omega), if_pos (by omega)]
      · rw [wtF_high _ _ _ _ (by omega) hk] at *
        rw [List.length_append, List.length_singleton] at hP
        have e : s + m = s + splK n + (m - splK n) := by omega
        rw [zip_snoc _ _ _ [] hP, List.foldl_append, e, ih (n - splK n) (by omega) (m - splK n) (n - splK n) (s + splK n) d P.dropLast false (Nat.le_refl _) (by omega) (by omega) (by rw [List.length_dropLast]; omega), hdF_high _ _ _ _ _ (by omega) hk]
        simp only [List.foldl_cons, List.foldl_nil, stepT]
        rw [if_neg (by omega), if_neg (by omega)]
theorem fold_nextT (m : Nat) (L : List (Nat × Nat)) (P : List (List UInt8)) (h : List UInt8 × List UInt8) (k : Nat) (h1 : k < L.length) (h2 : k < P.length) :
    ((L.zip P).take (k + 1)).foldl (stepT m) h = stepT m (((L.zip P).take k).foldl (stepT m) h) (L[k], P.getD k []) := by
  have hk : k < (L.zip P).length := by rw [List.length_zip]; omega
  rw [List.take_succ_eq_append_getElem hk, List.foldl_append]
  simp [List.getD, h2]
/-- whether a proof has as many hashes as it must have -/
def okT (m n q : Nat) : Bool := okC m n && (decide (m ≠ 0) && decide ((cL m n).length = q))
def tdE (m n q : Nat) : Int := if okT m n q then 0 else 1
def tdV (m n : Nat) (d : List UInt8) (P : List (List UInt8)) : List UInt8 × List UInt8 := if okT m n P.length then hdF m n d P true else (Z8 32, Z8 32)
theorem okT_yes {m n q : Nat} (h : okT m n q = true) : okC m n = true ∧ 1 ≤ m ∧ (wtF m n 0 true).length = q ∧ cL m n = wtF m n 0 true := by
  unfold okT at h
  simp only [Bool.and_eq_true, decide_eq_true_eq] at h
  obtain ⟨h1, h2, h3⟩ := h
  have e : cL m n = wtF m n 0 true := by unfold cL; rw [h1, if_pos rfl, if_neg h2]
  rw [e] at h3
  exact ⟨h1, by omega, h3, e⟩
theorem hdF_len : ∀ (N m n : Nat) (d : List UInt8) (P : List (List UInt8)) (b : Bool) (s : Nat), n ≤ N → 1 ≤ m → m ≤ n → d.length = 32 → All32 P → P.length = (wtF m n s b).length → (hdF m n d P b).1.length = 32 ∧ (hdF m n d P b).2.length = 32 := by
  intro N
  induction N using Nat.strongRecOn with
  | _ N ih =>
    intro m n d P b s hN h1 h2 hd hA hP
    by_cases h : m = n
    · subst h
      rw [wtF_all _ _ _ h1] at hP
      rw [hdF_all _ _ _ _ h1]
      cases b with
      | true => exact ⟨hd, hd⟩
      | false =>
        have h0 := hA 0 (by rw [hP]; simp)
        exact ⟨h0, h0⟩
    · obtain ⟨b1, b2, b3⟩ := splK_bounds (n := n) (by omega)
      by_cases hk : m ≤ splK n
      · rw [wtF_low _ _ _ _ h1 (by omega) hk, List.length_append, List.length_singleton] at hP
        rw [hdF_low _ _ _ _ _ h1 (by omega) hk]
        have hAd : All32 P.dropLast := All32.of fun y hy => hA.mem (List.dropLast_subset _ hy)
        exact ⟨(ih (splK n) (by omega) m (splK n) d P.dropLast b s (Nat.le_refl _) h1 hk hd hAd (by rw [List.length_dropLast]; omega)).1, shaL_len _⟩
      · rw [hdF_high _ _ _ _ _ (by omega) hk]
        exact ⟨shaL_len _, shaL_len _⟩
theorem tdV_len {d : List UInt8} (hd : d.length = 32) (m n : Nat) {P : List (List UInt8)} (hA : All32 P) : (tdV m n d P).1.length = 32 ∧ (tdV m n d P).2.length = 32 := by
  unfold tdV
  split
  · next h =>
    obtain ⟨h1, h2, h3, -⟩ := okT_yes h
    exact hdF_len n m n d P true 0 (Nat.le_refl _) h2 (okC_yes h1).2 hd hA h3.symm
  · exact ⟨by simp [Z8], by simp [Z8]⟩
end Go.Proofs.Ytcnnblhjgligbaa
