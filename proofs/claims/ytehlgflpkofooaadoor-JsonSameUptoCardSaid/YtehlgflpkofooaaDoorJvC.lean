/-
  The program's freshList: a list's copy. Conditions: those in each statement.
-/
import Derived.Test.YtehlgflpkofooaaDoorJvB
namespace Go.Proofs.YtehlgflpkofooaaDoor
open Go.RowKit

/-- what met holds of the lists around -/
def Anc (w : World) (ps : List (Value × Value)) (sz : Nat) : Prop := ∀ q ∈ ps, ∀ b off (n : Int), q.1 = .agg #[.pointer (some ⟨b, off, none⟩), .int .i64 n] → ∃ l', PL w l' b off ∧ (l'.length : Int) = n ∧ sz < SizeOf.sizeOf l'
theorem zero_list (w : World) : (zeroValue 28).run Tryd.prog w = .ok (.slice none 0 0) w := by kernel_rfl

theorem pv_one_cell {w : World} {v : JV} {cs : List Value} (h : PV w v cs) : ∀ x ∈ cs, x.oneCell' = true := by
  obtain ⟨k, s, n, a, l, c, b, m, d, rfl⟩ := pv_shape h
  simp [Value.oneCell']
/-- make([]json.Value, n) -/
theorem wl_make_v {ops : Array Oper} {rest : List Oper} {o : Oper} {a : Act} {Q : Exit → Act → World → Prop} {w : World} (hg : o.guard = none) (l c : Operand) (hop : o.op = Op.makeSlice 28 l c) (n : Nat) (hl : a.eval l = .int .i64 n) (hc : a.eval c = .int .i64 n)
    (hn : n ≤ 1099511627776)
    (hK : ∀ w' xs, Arr w' w.heap.size 30 xs → xs.length = n * 5 → Below w.heap.size w w' → w'.heap.size = w.heap.size + 1 → wpList Tryd.prog ops Q rest (a.put o.dst (.slice (some ⟨w.heap.size, 0, none⟩) n n)) w') :
    wpList Tryd.prog ops Q (o :: rest) a w := by
  obtain ⟨i0, hi, hz0, hz1, hz2⟩ := info_parts (show (Tryd.prog.info? 30).map (fun i => (i.zero, i.size, i.bytes)) = some (some (.agg #[.int .i64 0, .string ⟨#[]⟩, .int .u64 0, .slice none 0 0, .slice none 0 0]), 5, 80) by kernel_rfl)
  refine wpList_plain hg fun K hK' => ?_
  have hrun := run_make (P := Tryd.prog) w 28 30 i0 _ Tryd.underlying28 hi hz0 .i64 .i64 n n (by omega) (by omega) (by rw [hz2]; omega) (by omega)
  unfold Oper.wp
  simp [execOp, hop, hl, hc, hrun, Result.andThen]
  refine hK' _ _ (hK _ (madeCells (Value.agg #[.int .i64 0, .string ⟨#[]⟩, .int .u64 0, .slice none 0 0, .slice none 0 0]).cells (n * 5)).toList ?_ ?_ ?_ ?_)
  · have := Arr.new w 30 (madeCells (Value.agg #[.int .i64 0, .string ⟨#[]⟩, .int .u64 0, .slice none 0 0, .slice none 0 0]).cells (n * 5)).toList
    rw [hz1]
    simpa using this
  · simp [size_madeCells]
  · exact (Below.refl _ _).alloc (Nat.le_refl _) _
  · simp

set_option maxRecDepth 100000 in
set_option maxHeartbeats 4000000 in
theorem freshList_all : ∀ (N : Nat) (l : List JV) (a : Option Addr) (c : Nat) (w : World) (B : Nat) (ps : List (Value × Value)), SizeOf.sizeOf l ≤ N → (l.length ≤ c ∧ c ≤ 9223372036854775807) →
    (0 < l.length → ∃ b off, a = some ⟨b, off, none⟩ ∧ PlainB w b ∧ PL w l b off) → l.length ≤ 1099511627776 → fewL l 1099511627776 → MapR GPlace w B ps → Anc w ps (SizeOf.sizeOf l) →
    Calls Tryd.prog 41 #[.slice a l.length c, .map (some B)] w fun e W' => ∃ a' c', e = .returned (.slice a' l.length c') ∧ SLi (fun x => w.heap.size ≤ x) W' l a' c' ∧ MapR GPlace W' B ps ∧ w.grownBy W' (some B) := by
  intro N
  induction N with
  | zero => intro l; intros; cases l <;> simp at *
  | succ N ih =>
    intro l a c w B ps hN hlc hl hlm hfew hM hAnc
    by_cases h0 : l.length = 0
    · have h0i : ((l.length : Int) == 0) = true := beq_iff_eq.2 (by omega)
      have hF : Hid (SLi (fun x => w.heap.size ≤ x) w l none 0 ∧ l.length = 0) := ⟨⟨⟨by omega, by omega⟩, fun _ => rfl, fun h => by omega⟩, h0⟩
      have HM := Lib.hid hM
      clear h0 ih hl hAnc hM
      go_enter Tryd.func41, Tryd.ntmps41
      go_wp2
      go_ret
      exact ⟨none, 0, by rw [hF.out.2]; rfl, hF.out.1, HM.out, World.grownBy.refl _ _⟩
    · have h0i : ((l.length : Int) == 0) = false := beq_eq_false_iff_ne.2 (by omega)
      obtain ⟨ab, ao, rfl, hab, hpl⟩ := hl (by omega)
      obtain ⟨KEY, hKEY⟩ : ∃ KEY : Value, KEY = .agg #[.pointer (some ⟨ab, ao, none⟩), .int .i64 (l.length : Int)] := ⟨_, rfl⟩
      have hpo : Hid (∀ W, Calls Tryd.prog 33 #[.slice (some ⟨ab, ao, none⟩) l.length c] W fun e w' => e = .returned (.agg #[.pointer (some ⟨ab, ao, none⟩), .int .i64 (l.length : Int)]) ∧ Below W.heap.size W w') := fun W => by
        have := placeOf_any (some ⟨ab, ao, none⟩) l.length c W (by omega) (fun _ => ⟨ab, ao, rfl⟩)
        unfold placeV at this
        rw [if_neg h0] at this
        exact this
      have HIN : Hid (∀ q ∈ ps, q.1 ≠ .agg #[.pointer (some ⟨ab, ao, none⟩), .int .i64 (l.length : Int)]) := fun q hq e => by
        obtain ⟨l', h1, h2, h3⟩ := hAnc q hq ab ao _ e
        rw [pl_one l l' ab ao hpl h1 (by omega)] at h3
        omega
      have hlp : Hid (0 < l.length) := by show 0 < _; omega
      have HPL := Lib.hid hpl
      have HAB := Lib.hid hab
      have HM := Lib.hid hM
      have HANC := Lib.hid hAnc
      have IH := Lib.hid ih
      have HFEW := Lib.hid hfew
      have HN := Lib.hid hN
      have hlb : l.length ≤ 9223372036854775807 := by omega
      clear h0 hl hpl hab hM hAnc ih hfew hN
      go_enter Tryd.func41, Tryd.ntmps41
      go_upto_region 4 with (go_at_call 33; refine (hpo.out _).mono ?_; rintro e w2 ⟨rfl, hb2⟩)
      have hH3 := Arr.new w2 80 [.pointer (some ⟨ab, ao, none⟩), .int .i64 (l.length : Int)]
      have hB3 : Below w.heap.size w (w2.alloc (.cells [.pointer (some ⟨ab, ao, none⟩), .int .i64 (l.length : Int)].toArray 80)) := hb2.alloc hb2.size _
      generalize w2.alloc (.cells [.pointer (some ⟨ab, ao, none⟩), .int .i64 (l.length : Int)].toArray 80) = W3 at *
      generalize hh : w2.heap.size = h at *
      have HHW : Hid (w.heap.size ≤ h) := hh ▸ hb2.size
      clear hh hb2
      have hM3 : MapR GPlace W3 B ps := HM.out.below place_ok hB3
      have hkey3 : GPlace W3 (.agg #[.pointer (some ⟨ab, ao, none⟩), .int .i64 (l.length : Int)]) := ⟨_, _, rfl, .inr ⟨ab, ao, rfl, (CellsKept.of_below hB3).plain ab HAB.out⟩⟩
      have q0 := (hH3.cell 0).trans (show _ = some (Value.pointer (some ⟨ab, ao, none⟩)) from rfl)
      have q1 := (hH3.cell 1).trans (show _ = some (Value.int .i64 (l.length : Int)) from rfl)
      go_upto_region 8 with (first
        | (at_lookup; refine wl_look_no place_ok Tryd.underlying64 rfl _ _ rfl B ps rfl hM3 _ _ rfl hkey3 (zero_list _) HIN.out ?_)
        | (at_make; refine wl_make_v rfl _ _ rfl l.length rfl rfl hlm ?_; intro W4 xs0 hO4 hxl hB4 hz4))
      have hlt3 := hH3.lt
      generalize hO : W3.heap.size = O at *
      have HO : Hid (w.heap.size ≤ O) := hO ▸ hB3.size
      clear hO
      have hB5 : Below w.heap.size w W4 := hB3.trans (hB4.mono (by have := HO.out; omega))
      have hM4 : MapR GPlace W4 B ps := HM.out.below place_ok hB5
      have hkey4 : GPlace W4 (.agg #[.pointer (some ⟨ab, ao, none⟩), .int .i64 (l.length : Int)]) := ⟨_, _, rfl, .inr ⟨ab, ao, rfl, (CellsKept.of_below hB5).plain ab HAB.out⟩⟩
      have hBw : Hid (B < w.heap.size) := HM.out.lt
      have hhO : Hid (h < O) := hlt3
      have hH4 : Arr W4 h 80 [.pointer (some ⟨ab, ao, none⟩), .int .i64 (l.length : Int)] := hH3.to hB4 hhO.out
      have r0 := (hH4.cell 0).trans (show _ = some (Value.pointer (some ⟨ab, ao, none⟩)) from rfl)
      have r1 := (hH4.cell 1).trans (show _ = some (Value.int .i64 (l.length : Int)) from rfl)
      have hg4 : Hid (w.grownBy W4 (some B)) := gb hB5 _
      have HXL := Lib.hid hxl
      clear hlt3 q0 q1 hM3 hkey3 hB3 hB4 hz4 hH3 hB5 hxl
      go_upto_region 9 with (at_mapUpdate; refine wl_put_new place_ok Tryd.underlying64 rfl _ _ _ rfl B ps rfl hM4 _ (.slice (some ⟨O, 0, none⟩) l.length l.length) rfl rfl hkey4 HIN.out ?_; intro W5 hM5 hg5 hs5)
      have hO5 := hO4.grown hg5 (by have := hBw.out; have := HO.out; intro e; cases e; omega)
      have hH5 := hH4.grown hg5 (by have := hBw.out; have := HHW.out; intro e; cases e; omega)
      have hG5 : Hid (w.grownBy W5 (some B)) := gb_trans hg4.out hg5
      clear hg5 hg4 hO4 hH4 hM4 hkey4 r0 r1 hs5
      go_upto_region 10 with fail
      go_loopw [32] (fun i wr => ∃ (m : Nat) (xs : List Value), m ≤ l.length ∧ i = .int .i64 m ∧ MapR GPlace wr B (ps ++ [(.agg #[.pointer (some ⟨ab, ao, none⟩), .int .i64 (l.length : Int)], .slice (some ⟨O, 0, none⟩) l.length l.length)]) ∧ Arr wr O 30 xs ∧ xs.length = l.length * 5 ∧ Hid (w.grownBy wr (some B)) ∧ Arr wr h 80 [.pointer (some ⟨ab, ao, none⟩), .int .i64 (l.length : Int)] ∧
          Hid (∀ i v, i < m → l[i]? = some v → ∃ cs, cs.length = 5 ∧ (∀ j, j < 5 → xs[5 * i + j]? = cs[j]?) ∧ SV (fun x => O < x) wr v cs)) (fun i _ => l.length - (intOf i).toNat)
      case atStart => exact ⟨0, xs0, by omega, rfl, hM5, hO5, HXL.out, hG5, hH5, fun i v hi => by omega⟩
      case round =>
        clear hM5 hO5 hG5 hH5
        obtain ⟨m, xs, hm, rfl, hMm, hOm, hxl, hGm, hHm, hE⟩ := hrel
        have hck : Hid (CellsKept w wr) := ck_gb HM.out hGm.out
        by_cases hlt : m < l.length
        · have hc : (m : Int) < (l.length : Int) := by omega
          obtain ⟨x, hx⟩ : ∃ x, l[m]? = some x := ⟨_, List.getElem?_eq_getElem hlt⟩
          obtain ⟨cx, hcx, hcx2, hpx⟩ := pl_at l ab ao m x HPL.out hx
          have hpx2 := hpx
          obtain ⟨xk, xs', xn, xl, xks⟩ := x
          unfold PV at hpx2
          obtain ⟨xa, xc, xb, xd, rfl, hxk, hxs, hxc, hxa, hxl2⟩ := hpx2
          have hmc : m < c := by omega
          have z := fun (j : Nat) (v : Value) (h : [Value.int .i64 xk, .string (bstr xs'), .int .u64 (xn : Int), .slice xa xl.length xc, .slice xb xks.length xd][j]? = some v) (hj : j < 5) => hck.out.cell ((hcx2 j hj).trans h)
          have qc0 : wr.cell? ⟨ab, ao + m * 5, none⟩ = some (.int .i64 xk) := by rw [show ao + m * 5 = ao + (5 * m + 0) by omega]; exact z 0 _ rfl (by omega)
          have qc1 : wr.cell? ⟨ab, ao + m * 5 + 1, none⟩ = some (.string (bstr xs')) := by rw [show ao + m * 5 + 1 = ao + (5 * m + 1) by omega]; exact z 1 _ rfl (by omega)
          have qc2 : wr.cell? ⟨ab, ao + m * 5 + 2, none⟩ = some (.int .u64 (xn : Int)) := by rw [show ao + m * 5 + 2 = ao + (5 * m + 2) by omega]; exact z 2 _ rfl (by omega)
          have qc3 : wr.cell? ⟨ab, ao + m * 5 + 3, none⟩ = some (.slice xa xl.length xc) := by rw [show ao + m * 5 + 3 = ao + (5 * m + 3) by omega]; exact z 3 _ rfl (by omega)
          have qc4 : wr.cell? ⟨ab, ao + m * 5 + 4, none⟩ = some (.slice xb xks.length xd) := by rw [show ao + m * 5 + 4 = ao + (5 * m + 4) by omega]; exact z 4 _ rfl (by omega)
          have hmem := List.sizeOf_lt_of_mem (List.mem_of_getElem? hx)
          have hfx := few_at l _ m _ HFEW.out hx
          unfold fewV at hfx
          have hwa : Hid (∀ o, Below wr.heap.size wr (wr.alloc o)) := fun o => (Below.refl _ _).alloc (Nat.le_refl _) _
          have hcall : Hid (∀ W, Below wr.heap.size wr W → Calls Tryd.prog 26 #[.agg #[.int .i64 xk, .string (bstr xs'), .int .u64 (xn : Int), .slice xa xl.length xc, .slice xb xks.length xd], .map (some B)] W fun e w' => ∃ cs, e = .returned (.agg cs.toArray) ∧ SV (fun x => W.heap.size ≤ x) w' (.mk xk xs' xn xl xks) cs ∧ MapR GPlace w' B (ps ++ [(.agg #[.pointer (some ⟨ab, ao, none⟩), .int .i64 (l.length : Int)], .slice (some ⟨O, 0, none⟩) l.length l.length)]) ∧ W.grownBy w' (some B)) := fun W hW => by
            have hMW := hMm.below place_ok hW
            have hkW : CellsKept w W := hck.out.trans (CellsKept.of_below hW)
            refine fresh_of xk xs' xn xl xks xa xb xc xd W B _ hxk (hxs.keep hkW) (by omega) hMW (fun V hV hMV => ?_)
            have hkV : CellsKept w V := hkW.trans (ck_gb hMW hV)
            have hsz : SizeOf.sizeOf xl < SizeOf.sizeOf l := by simp only [JV.mk.sizeOf_spec] at hmem; omega
            refine IH.out xl xa xc V B _ (by have := HN.out; omega) hxc (fun h => ?_) hfx.1 hfx.2.2 hMV ?_
            · obtain ⟨bb, off, e, h1, h2⟩ := hxl2 h
              exact ⟨bb, off, e, hkV.plain bb h1, pl_keep hkV xl bb off h2⟩
            · intro q hq b' off n' e
              rcases List.mem_append.1 hq with hq | hq
              · obtain ⟨l', h1, h2, h3⟩ := HANC.out q hq b' off n' e
                exact ⟨l', pl_keep hkV l' b' off h1, h2, by omega⟩
              · obtain rfl := List.mem_singleton.1 hq
                simp only [Value.agg.injEq, Array.mk.injEq, List.cons.injEq, Value.pointer.injEq, Value.int.injEq, true_and, and_true, Option.some.injEq, Addr.mk.injEq] at e
                obtain ⟨⟨rfl, rfl⟩, rfl⟩ := e
                exact ⟨l, pl_keep hkV l _ _ HPL.out, rfl, hsz⟩
          have HX := Lib.hid hx
          clear z hcx hcx2 hpx hxk hxs hxc hxa hxl2 hmem hfx hx
          have hBO : Hid (B < O) := by have := hBw.out; have := HO.out; show _ < _; omega
          have HE := Lib.hid hE.out
          go_wp2_with (first
            | (go_at_call 26; refine (hcall.out _ (hwa.out _)).mono ?_; rintro e W9 ⟨cs9, rfl, hs9, hM9, hg9⟩; have hO9 := (hOm.kept (hwa.out _)).grown hg9 (by have := hBO.out; intro e; cases e; omega); have hH9 := (hHm.kept (hwa.out _)).grown hg9 (by have := hBw.out; have := HHW.out; intro e; cases e; omega))
            | ((with_reducible show wpList _ _ _ (⟨none, _, _, _, _, _⟩ :: _) _ _); refine wl_store rfl 30 _ _ rfl O (m * 5) rfl cs9 rfl 30 xs hO9 (by rw [sv_len hs9]; kernel_rfl) (by rw [sv_len hs9, hxl]; omega) (pv_one_cell (sv_pv _ _ hs9)) ?_; intro W10 hO10 hg10 hs10))
          have hl9 := sv_len hs9
          have hGA : w.grownBy W9 (some B) := gb_trans hGm.out (gb_trans (gb (hwa.out _) _) hg9)
          have zO := hOm.lt
          go_roundw
          case rel =>
            refine ⟨m + 1, _, by omega, by go_num, mapr_gb place_ok hM9 hg10 (by have := hBO.out; omega) ⟨_, _, hO10⟩, hO10, ?_, gb_new hGA hg10 HO.out, hH9.grown hg10 (by have := hhO.out; intro e; cases e; omega), fun i v hi hv => ?_⟩
            · simp only [List.length_append, List.length_take, List.length_drop]; omega
            · have hg10s : Stay (fun x => O < x) W9 W10 := Stay.of_grown hg10 (fun k hk => by cases hk; omega)
              by_cases him : i = m
              · subst him
                rw [HX.out] at hv
                cases hv
                refine ⟨cs9, hl9, fun j hj => ?_, sv_to (fun b hb _ => ?_) (S := fun x => (wr.alloc (.cells #[.int .i64 xk, .string (bstr xs'), .int .u64 (xn : Int), .slice xa xl.length xc, .slice xb xks.length xd] 30)).heap.size ≤ x) ?_ _ _ hs9⟩
                · rw [List.append_assoc, List.getElem?_append_right (by rw [List.length_take]; omega), List.length_take, List.getElem?_append_left (by omega)]
                  congr 1
                  omega
                · rw [World.size_alloc] at hb
                  omega
                · exact Stay.of_grown hg10 (fun k hk => by cases hk; rw [World.size_alloc]; omega)
              · obtain ⟨cs, h1, h2, h3⟩ := HE.out i v (by omega) hv
                refine ⟨cs, h1, fun j hj => ?_, ?_⟩
                · rw [List.append_assoc, List.getElem?_append_left (by rw [List.length_take]; omega), List.getElem?_take_of_lt (by omega)]
                  exact h2 j hj
                · refine sv_to (fun b hb _ => hb) ?_ _ _ h3
                  refine Stay.trans (Stay.of_below (hwa.out _)) (hwa.out _).size (Stay.trans (Stay.of_grown hg9 (fun k hk => by cases hk; have := hBO.out; omega)) hg9.size hg10s)
          case measure => simp [intOf]; omega
        · have hc : ¬ (m : Int) < (l.length : Int) := by omega
          have hml : m = l.length := by omega
          have r0 := (hHm.cell 0).trans (show _ = some (Value.pointer (some ⟨ab, ao, none⟩)) from rfl)
          have r1 := (hHm.cell 1).trans (show _ = some (Value.int .i64 (l.length : Int)) from rfl)
          have hkeyR : GPlace wr (.agg #[.pointer (some ⟨ab, ao, none⟩), .int .i64 (l.length : Int)]) := ⟨_, _, rfl, .inr ⟨ab, ao, rfl, hck.out.plain ab HAB.out⟩⟩
          have hBO : Hid (B < O) := by have := hBw.out; have := HO.out; show _ < _; omega
          have HML := Lib.hid hml
          clear hml hm hlt
          go_wp2_with (at_delete; refine wl_drop place_ok Tryd.underlying64 rfl _ _ rfl B ps _ _ rfl hMm rfl hkeyR HIN.out ?_; intro W11 hM11 hg11 hs11)
          go_ret
          refine ⟨some ⟨O, 0, none⟩, l.length, rfl, ⟨⟨Nat.le_refl _, by omega⟩, (by intro e; cases e), fun _ => ⟨O, 0, rfl, HO.out, ?_, ?_⟩⟩, hM11, gb_trans hGm.out hg11⟩
          · exact ⟨_, _, (hOm.grown hg11 (by have := hBO.out; intro e; cases e; omega) : _)⟩
          · have hO11 := hOm.grown hg11 (by have := hBO.out; intro e; cases e; omega)
            refine sl_mk O l 0 fun i v hi => ?_
            obtain ⟨cs, h1, h2, h3⟩ := hE.out i v (by have := (List.getElem?_eq_some_iff.1 hi).1; have := HML.out; omega) hi
            refine ⟨cs, h1, fun j hj => ?_, sv_to (fun b hb _ => ?_) (Stay.of_grown hg11 (fun k hk => by cases hk; have := hBO.out; omega)) _ _ h3⟩
            · rw [hO11.cell, Nat.zero_add]
              exact h2 j hj
            · have := HO.out
              omega
end Go.Proofs.YtehlgflpkofooaaDoor
