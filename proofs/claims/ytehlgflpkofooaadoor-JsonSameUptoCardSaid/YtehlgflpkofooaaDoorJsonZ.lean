/-
  The program's put and Text: a value's plain text. Conditions: those in each statement.
-/
import Derived.Test.YtehlgflpkofooaaDoorJsonY
import Derived.Test.YtehlgflpkofooaaDoorJsonF
import Derived.Lib.AppendStr
namespace Go.Proofs.YtehlgflpkofooaaDoor
open Go.RowKit

theorem str_cells (s : List UInt8) : Lib.strCells (bstr s) = s.map bv := by
  unfold Lib.strCells bstr bv
  simp
section
variable {T S : TypeId} (bt : BT Tryd.prog T 5) (hS : Tryd.prog.underlying S = some .string) {ops : Array Oper} {o : Oper} {a : Act} {Q : Exit → Act → World → Prop} {w : World}
include bt hS
/-- append(dst, s...), s a text, in a region that draws -/
theorem step_append_s {K : Act → World → Prop} {X : Prop} (hgd : o.guard = none)
    (d s : Operand) (ho : o.op = .call { callee := .builtin .append, args := #[d, s], argTypes := #[T, S] })
    (B : Nat) (v : Value) (ys : List UInt8) (hown : Own w B 5 v ys) (hd : a.eval d = v) (xs : List UInt8)
    (hs : a.eval s = .string (bstr xs)) (hb : ys.length + xs.length ≤ 140737488355328) (hB : B ≤ w.heap.size)
    (hK : ∀ v' w', Own w' B 5 v' (ys ++ xs) → Fr B w w' → K (a.put o.dst v') w') :
    if Region.wanted o (yielded ops a.tmps) = true then Oper.wp Tryd.prog o a w K Q else X := by
  rw [if_pos (by simp [Region.wanted, hgd])]
  obtain ⟨i0, hi, hz0, hz1, hz2⟩ := info_parts bt.info
  have hsz : (bstr xs).size = xs.length := by show xs.toArray.size = _; simp
  obtain ⟨v', w', hr, h2, h3, -⟩ := Lib.run_append_own_string (P := Tryd.prog) w B T S o.type 5 i0 bt.sl hS hi hz0 hz1 hz2 v _ _ hown (bstr xs) (by rw [hsz]; unfold maxLen; omega) (by rw [hsz]; omega) hB
  unfold Oper.wp
  simp [execOp, ho, resolve, invoke, builtin, hd, hs, hr, Result.andThen]
  refine hK v' w' ?_ ((Fr.refl _ _).grown h3 hown (Nat.le_refl _) hB)
  unfold Own
  rw [List.length_append, List.map_append, ← str_cells, ← hsz]
  exact h2
end
/-- the words of the kinds that have one value alone -/
def kindW (k : Int) : List UInt8 := if k = 0 then [110, 117, 108, 108] else if k = 1 then [102, 97, 108, 115, 101] else [116, 114, 117, 101]

set_option maxRecDepth 100000 in
set_option maxHeartbeats 4000000 in
theorem put_word (k : Int) (s : List UInt8) (n : Nat) (l c lk d : Nat) (a b : Option Addr) (w : World) (g : Nat) (bl : List UInt8) (v : Value) (hk : k = 0 ∨ k = 1 ∨ k = 2) (ho : Own w g 5 v bl) (hg : g ≤ w.heap.size) (hbl : bl.length ≤ 1048600) :
    Calls Tryd.prog 23 #[v, .agg #[.int .i64 k, .string (bstr s), .int .u64 (n : Int), .slice a l c, .slice b lk d]] w (PutRes (bl ++ kindW k) g w) := by
  obtain ⟨a0, c0, rfl, -⟩ := ho.shape
  have hwords : Hid (∀ W, Calls Tryd.prog 34 #[] W fun e w' => e = .returned (.agg #[.string ⟨#[110, 117, 108, 108]⟩, .string ⟨#[102, 97, 108, 115, 101]⟩, .string ⟨#[116, 114, 117, 101]⟩]) ∧ Below W.heap.size W w') := words_any
  have hA0 := Arr.new w 30 [.int .i64 k, .string (bstr s), .int .u64 (n : Int), .slice a l c, .slice b lk d]
  have hf0 := Fr.new w (.cells #[.int .i64 k, .string (bstr s), .int .u64 (n : Int), .slice a l c, .slice b lk d] 30)
  have HG := Lib.hid hg
  have HBL := Lib.hid hbl
  clear hg hbl
  have hi0 : ∀ W, (Instr.index 85 (.agg #[.string ⟨#[110, 117, 108, 108]⟩, .string ⟨#[102, 97, 108, 115, 101]⟩, .string ⟨#[116, 114, 117, 101]⟩]) (.int .i64 0)).run Tryd.prog W = .ok (.string (bstr [110, 117, 108, 108])) W := fun W => by kernel_rfl
  have hi1 : ∀ W, (Instr.index 85 (.agg #[.string ⟨#[110, 117, 108, 108]⟩, .string ⟨#[102, 97, 108, 115, 101]⟩, .string ⟨#[116, 114, 117, 101]⟩]) (.int .i64 1)).run Tryd.prog W = .ok (.string (bstr [102, 97, 108, 115, 101])) W := fun W => by kernel_rfl
  have hi2 : ∀ W, (Instr.index 85 (.agg #[.string ⟨#[110, 117, 108, 108]⟩, .string ⟨#[102, 97, 108, 115, 101]⟩, .string ⟨#[116, 114, 117, 101]⟩]) (.int .i64 2)).run Tryd.prog W = .ok (.string (bstr [116, 114, 117, 101])) W := fun W => by kernel_rfl
  rcases hk with rfl | rfl | rfl
  all_goals
    go_enter Tryd.func23, Tryd.ntmps23
    go_upto_region 5 with fail
    generalize w.alloc (.cells _ 30) = W1 at *
    generalize hGG : w.heap.size = G at *
    have HGG := Lib.hid hGG
    have hw1 : Hid (G < W1.heap.size) := hA0.lt
    have hg1 : Hid (g ≤ W1.heap.size) := by show _ ≤ _; have := HG.out; have := hw1.out; omega
    have ho1 := ho.to (hGG ▸ hf0.1)
    have hne : Hid (30 ≠ 5) := by show _ ≠ _; decide
    have q0 := hA0.cell 0
    simp only [List.getElem?_cons_zero] at q0
    clear hGG
    go_region_held3 (fun w' => w'.cell? ⟨G, 0, none⟩ = W1.cell? ⟨G, 0, none⟩) (first | exact (((hA0.drew.kept hb3).fr hf4 hne.out).cell 0).trans (hA0.cell 0).symm | exact (hb3.cell (p := ⟨G, 0, none⟩) hw1.out) | go_keep) (first
      | (go_at_call 34; refine (hwords.out _).mono ?_; rintro e w3 ⟨rfl, hb3⟩)
      | (refine step_append_s bt Tryd.underlying9 rfl _ _ rfl g _ _ ((show Own W1.drew g _ _ _ from ho1).to hb3) rfl _ rfl (by have := HBL.out; simp; omega) (Nat.le_trans hg1.out hb3.size) ?_; intro v4 w4 ho4 hf4))
    obtain ⟨a4, c4, rfl, -⟩ := ho4.shape
    have hf5 : Fr g w w4 := ((hf0.mono HG.out).drew.trans ((Fr.of_below hb3).mono hg1.out)).trans hf4
    go_wp2
    go_ret2
    refine ⟨_, ?_, fun _ => ho4, hf5⟩
    simp [kindW]
    try omega

theorem dec_digits (n : Nat) : Lib.decDigits n = digitsF n := by
  induction n using Nat.strongRecOn with
  | _ n ih =>
    rw [Lib.decDigits, digitsF]
    split
    · rfl
    · rw [ih (n / 10) (by omega)]

set_option maxRecDepth 100000 in
theorem appendUint_any (n : Nat) (w : World) (g : Nat) (bl : List UInt8) (v : Value) (hn : n < 18446744073709551616) (ho : Own w g 5 v bl) (hg : g ≤ w.heap.size) (hbl : bl.length ≤ 1048700) (hT : Tabs w) :
    Calls Tryd.prog 35 #[v, .int .u64 (n : Int), .int .i64 10] w fun e w' => ∃ v', e = .returned v' ∧ Own w' g 5 v' (bl ++ digitsF n) ∧ Fr g w w' := by
  have hc : Hid (Calls Tryd.prog 58 #[v, .int .u64 (n : Int), .int .i64 10] w fun e w' => ∃ v', e = .returned v' ∧ Own w' g 5 v' (bl ++ digitsF n) ∧ Fr g w w') := by
    have e1 : ∀ w' v', w'.ownsRow g 5 1 v' (bl.length + (Lib.decDigits n).length) (bl.map bv ++ Lib.byteCells (Lib.decDigits n)) → Own w' g 5 v' (bl ++ digitsF n) := fun w' v' h => by
      unfold Own
      rw [List.length_append, List.map_append, ← dec_digits]
      exact h
    by_cases h100 : n < 100
    · refine (Tryd.internal_strconv_AppendUint_10_small g bl.length n h100 v _ w ho hg (by omega)).mono ?_
      rintro e w' ⟨v', h1, h2, h3, h4⟩
      exact ⟨v', h1, e1 _ _ h2, h3, h4⟩
    · refine (Tryd.internal_strconv_AppendUint_10_big g bl.length n (by omega) hn v _ w ho hg (by omega) hT.pow).mono ?_
      rintro e w' ⟨v', h1, h2, h3, h4⟩
      exact ⟨v', h1, e1 _ _ h2, h3, h4⟩
  clear ho hT
  go_enter Tryd.func35, Tryd.ntmps35
  go_wp2_with (go_at_call 58; refine hc.out.mono ?_; rintro e w9 ⟨v9, rfl, ho9, hf9⟩)
  go_ret
  exact ⟨v9, rfl, ho9, hf9⟩

theorem mayL_at {l : List JV} {m i : Nat} {u : JV} (h : mayL l m = true) (hi : l[i]? = some u) : mayF u m = true := (mayL_iff l m).1 h i u hi

set_option maxRecDepth 100000 in
set_option maxHeartbeats 4000000 in
theorem put_all : ∀ (N most : Nat) (v : JV) (cs : List Value) (w0 w : World) (bl : List UInt8) (vb : Value), SizeOf.sizeOf v ≤ N → mayF v most = true → most ≤ 8 → smallV v 9223372036854775000 → RV w0 v cs → Below w0.heap.size w0 w → Own w w0.heap.size 5 vb bl → bl.length + 2 * most ≤ 1048600 → Tabs w0 →
    Calls Tryd.prog 23 #[vb, .agg cs.toArray] w (PutRes (bl ++ plainF v) w0.heap.size w) := by
  intro N
  induction N with
  | zero => intro most v; intros; cases v; simp at *
  | succ N ih =>
    rintro most ⟨k, s, n, l, ks⟩ cs w0 w bl vb hN hmay hm8 hsm hv hb0 ho hbl hT
    have hRV := hv
    unfold RV at hv
    obtain ⟨a, c, b, d, rfl, ⟨hk0, hk1, hn⟩, -⟩ := hv
    have hg : w0.heap.size ≤ w.heap.size := hb0.size
    unfold mayF at hmay
    rw [Bool.and_eq_true, head_split] at hmay
    obtain ⟨⟨hb1, hb2, -, -⟩, hml⟩ := hmay
    unfold bad1 at hb1
    unfold bad2 at hb2
    unfold smallV at hsm
    obtain ⟨hss, hsk, hsl⟩ := hsm
    have hk : (k = 0 ∨ k = 1 ∨ k = 2) ∨ k = 3 ∨ k = 4 ∨ (k = 5 ∨ k = 6) := by omega
    rcases hk with hk | rfl | rfl | hk
    · have hp : plainF (.mk k s n l ks) = kindW k := by
        unfold plainF kindW
        rcases hk with rfl | rfl | rfl <;> rfl
      rw [hp]
      exact put_word k s n l.length c ks.length d a b w _ bl vb hk ho hg (by omega)
    · have hc : Hid (∀ W, Below w.heap.size w W → Own W w0.heap.size 5 vb bl → Calls Tryd.prog 35 #[vb, .int .u64 (n : Int), .int .i64 10] W fun e w' => ∃ v', e = .returned v' ∧ Own w' w0.heap.size 5 v' (bl ++ digitsF n) ∧ Fr w0.heap.size W w') := fun W hW h => appendUint_any n W _ bl vb hn h (Nat.le_trans hg hW.size) (by omega) ((hT.to hb0).to hW)
      have hp : plainF (.mk 3 s n l ks) = digitsF n := by unfold plainF; rfl
      rw [hp]
      have hf0 := (Fr.new w (.cells #[.int .i64 3, .string (bstr s), .int .u64 (n : Int), .slice a l.length c, .slice b ks.length d] 30)).mono hg
      have ho1 := ho.to (Fr.new w (.cells #[.int .i64 3, .string (bstr s), .int .u64 (n : Int), .slice a l.length c, .slice b ks.length d] 30)).1
      generalize w0.heap.size = g at *
      clear hRV hb0 ih hT
      go_enter Tryd.func23, Tryd.ntmps23
      go_wp2_with (go_at_call 35; refine (hc.out _ ((Below.refl _ _).alloc (Nat.le_refl _) _) ho1).mono ?_; rintro e w9 ⟨v9, rfl, ho9, hf9⟩; obtain ⟨a9, c9, rfl, -⟩ := ho9.shape)
      go_ret2
      refine ⟨_, ?_, fun _ => ho9, hf0.trans hf9⟩
      simp
      omega
    · have hc : Hid (∀ W, Below w.heap.size w W → Own W w0.heap.size 5 vb bl → Calls Tryd.prog 36 #[vb, .string (bstr s)] W (PutRes (bl ++ wordF s) w0.heap.size W)) := fun W hW h => putString_any bl vb _ s W h (Nat.le_trans hg hW.size) (by omega) (by omega)
      have hp : plainF (.mk 4 s n l ks) = wordF s := by unfold plainF; rfl
      rw [hp]
      have hf0 := (Fr.new w (.cells #[.int .i64 4, .string (bstr s), .int .u64 (n : Int), .slice a l.length c, .slice b ks.length d] 30)).mono hg
      have ho1 := ho.to (Fr.new w (.cells #[.int .i64 4, .string (bstr s), .int .u64 (n : Int), .slice a l.length c, .slice b ks.length d] 30)).1
      generalize w0.heap.size = g at *
      clear hRV hb0 ih hT
      go_enter Tryd.func23, Tryd.ntmps23
      go_wp2_with (go_at_call 36; refine (hc.out _ ((Below.refl _ _).alloc (Nat.le_refl _) _) ho1).mono ?_; rintro e w9 ⟨v9, rfl, ho9, hf9⟩)
      go_ret2
      exact ⟨v9, by rw [List.length_append]; rfl, ho9, hf0.trans hf9⟩
    · obtain ⟨mo, rfl⟩ : ∃ mo, most = mo + 1 := ⟨most - 1, by omega⟩
      have hIH : ∀ W, Below w.heap.size w W → PutIH l w0 mo := fun W hW i u cu W' b' v' hi hu h1 h2 h3 => ih mo u cu w0 W' b' v' (by have := List.sizeOf_lt_of_mem (List.mem_of_getElem? hi); simp only [JV.mk.sizeOf_spec] at hN; omega) (mayL_at hml hi) (by omega) (small_at l _ i u hsl hi) hu h1 h2 h3 hT
      have hc : Hid (∀ W F, F = (if k = 6 then 123 else 91 : Int) → Below w.heap.size w W → Own W w0.heap.size 5 vb bl → Calls Tryd.prog 37 #[vb, .agg #[.int .i64 k, .string (bstr s), .int .u64 (n : Int), .slice a l.length c, .slice b ks.length d], .int .u8 F] W (PutRes (bl ++ plainF (.mk k s n l ks)) w0.heap.size W)) := fun W F hF hW h => by
        rw [hF]
        exact putOthers_of k s n l ks _ w0 W bl vb mo hk (by omega) hRV (hb0.trans (hW.mono hg)) h (by omega) (by omega) (hIH W hW) (fun x hx => by have := hsk x hx; omega)
      have hf0 := (Fr.new w (.cells #[.int .i64 k, .string (bstr s), .int .u64 (n : Int), .slice a l.length c, .slice b ks.length d] 30)).mono hg
      have ho1 := ho.to (Fr.new w (.cells #[.int .i64 k, .string (bstr s), .int .u64 (n : Int), .slice a l.length c, .slice b ks.length d] 30)).1
      generalize w0.heap.size = g at *
      generalize plainF (.mk k s n l ks) = pl at *
      clear hRV hb0 ih hT hIH
      rcases hk with rfl | rfl
      all_goals
        go_enter Tryd.func23, Tryd.ntmps23
        go_wp2_with (go_at_call 37; refine (hc.out _ _ rfl ((Below.refl _ _).alloc (Nat.le_refl _) _) ho1).mono ?_; rintro e w9 ⟨v9, rfl, ho9, hf9⟩)
        go_ret2
        exact ⟨v9, by rw [List.length_append]; rfl, ho9, hf0.trans hf9⟩

/-- what Text tells: the error's number, the bytes -/
def textE (v : JV) : Int := if mayF v 8 = true then (if (plainF v).length ≤ 1048576 then 0 else 3) else 1
def textB (v : JV) : List UInt8 := if mayF v 8 = true ∧ (plainF v).length ≤ 1048576 then plainF v else []

set_option maxRecDepth 100000 in
set_option maxHeartbeats 1600000 in
theorem Text_any (v : JV) (cs : List Value) (w : World) (h : PV w v cs) (hs : smallV v 9223372036854775000) (hT : Tabs w) :
    Calls Tryd.prog 11 #[.agg cs.toArray] w fun e w' => ∃ vb, e = .returned (.tuple #[vb, .int .i64 (textE v)]) ∧ Own w' w.heap.size 5 vb (textB v) ∧ Below w.heap.size w w' := by
  obtain ⟨xk, xs, xn, xa, xl, xc, xb, xm, xd, rfl⟩ := pv_shape h
  have hMay : Hid (∀ W, Below w.heap.size w W → Calls Tryd.prog 15 #[.agg #[.int .i64 xk, .string xs, .int .u64 xn, .slice xa xl xc, .slice xb xm xd]] W fun e w' => e = .returned (.bool (mayF v 8)) ∧ Below W.heap.size W w') := fun W hW => May_any v _ W (pv_keep (CellsKept.of_below hW) _ _ h) hs (hT.to hW)
  have hPut : Hid (mayF v 8 = true → ∀ W, Below w.heap.size w W → Calls Tryd.prog 23 #[.slice none 0 0, .agg #[.int .i64 xk, .string xs, .int .u64 xn, .slice xa xl xc, .slice xb xm xd]] W (PutRes (plainF v) w.heap.size W)) := fun hm W hW => by
    have := put_all _ 8 v _ w W [] (.slice none 0 0) (Nat.le_refl _) hm (Nat.le_refl _) hs (pv_rv v _ h) hW (Own.nil _ _ _) (by simp) hT
    simpa using this
  have hA0 := Arr.new w 30 [.int .i64 xk, .string xs, .int .u64 xn, .slice xa xl xc, .slice xb xm xd]
  have hB0 : Below w.heap.size w (w.alloc (.cells [.int .i64 xk, .string xs, .int .u64 xn, .slice xa xl xc, .slice xb xm xd].toArray 30)) := (Below.refl _ _).alloc (Nat.le_refl _) _
  clear h hs hT
  cases hm : mayF v 8 with
  | false =>
    have e1 : textE v = 1 := by unfold textE; rw [hm]; rfl
    have e2 : textB v = [] := by unfold textB; rw [hm]; simp
    rw [hm] at hMay
    rw [e1, e2]
    clear hm e1 e2 hPut
    go_enter Tryd.func11, Tryd.ntmps11
    go_wp2_with (go_at_call 15; refine (hMay.out _ hB0).mono ?_; rintro e w2 ⟨rfl, hb2⟩)
    go_ret2
    exact ⟨.slice none 0 0, rfl, Own.nil _ _ _, hB0.trans (hb2.mono hB0.size)⟩
  | true =>
    have hput := hPut.out hm
    by_cases hl : (plainF v).length ≤ 1048576
    · have e1 : textE v = 0 := by unfold textE; rw [hm, if_pos rfl, if_pos hl]
      have e2 : textB v = plainF v := by unfold textB; rw [if_pos ⟨hm, hl⟩]
      have hp : Hid (∀ W, Below w.heap.size w W → Calls Tryd.prog 23 #[.slice none 0 0, .agg #[.int .i64 xk, .string xs, .int .u64 xn, .slice xa xl xc, .slice xb xm xd]] W _) := fun W hW => (hput W hW).mono (fun e w' h => h.ok hl)
      rw [hm] at hMay
      rw [e1, e2]
      clear hm e1 e2 hPut hput hl
      go_enter Tryd.func11, Tryd.ntmps11
      go_wp2_with (first
        | (go_at_call 15; refine (hMay.out _ hB0).mono ?_; rintro e w2 ⟨rfl, hb2⟩; have hB2 := hB0.trans (hb2.mono hB0.size); have hA2 := hA0.kept hb2; have c0 := hA2.cell 0; have c1 := hA2.cell 1; have c2 := hA2.cell 2; have c3 := hA2.cell 3; have c4 := hA2.cell 4; simp only [List.getElem?_cons_zero, List.getElem?_cons_succ] at c0 c1 c2 c3 c4)
        | (go_at_call 23; refine (hp.out _ hB2).mono ?_; rintro e w3 ⟨v3, rfl, ho3, hf3⟩))
      go_ret2
      exact ⟨v3, rfl, ho3, hB2.trans hf3.1⟩
    · have e1 : textE v = 3 := by unfold textE; rw [hm, if_pos rfl, if_neg hl]
      have e2 : textB v = [] := by unfold textB; rw [if_neg (fun h => hl h.2)]
      have hp : Hid (∀ W, Below w.heap.size w W → Calls Tryd.prog 23 #[.slice none 0 0, .agg #[.int .i64 xk, .string xs, .int .u64 xn, .slice xa xl xc, .slice xb xm xd]] W _) := fun W hW => (hput W hW).mono (fun e w' h => h.no hl)
      rw [hm] at hMay
      rw [e1, e2]
      clear hm e1 e2 hPut hput hl
      go_enter Tryd.func11, Tryd.ntmps11
      go_wp2_with (first
        | (go_at_call 15; refine (hMay.out _ hB0).mono ?_; rintro e w2 ⟨rfl, hb2⟩; have hB2 := hB0.trans (hb2.mono hB0.size); have hA2 := hA0.kept hb2; have c0 := hA2.cell 0; have c1 := hA2.cell 1; have c2 := hA2.cell 2; have c3 := hA2.cell 3; have c4 := hA2.cell 4; simp only [List.getElem?_cons_zero, List.getElem?_cons_succ] at c0 c1 c2 c3 c4)
        | (go_at_call 23; refine (hp.out _ hB2).mono ?_; rintro e w3 ⟨v3, rfl, hf3⟩))
      go_ret2
      exact ⟨.slice none 0 0, rfl, Own.nil _ _ _, hB2.trans hf3.1⟩
end Go.Proofs.YtehlgflpkofooaaDoor
