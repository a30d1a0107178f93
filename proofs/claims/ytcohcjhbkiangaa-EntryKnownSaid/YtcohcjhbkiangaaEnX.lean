/-
  The document's Item: its contract. Conditions: those in each statement.
-/
import Derived.Test.YtcohcjhbkiangaaEnT
namespace Go.Proofs.Ytcohcjhbkiangaa
open Go.RowKit

set_option maxHeartbeats 1000000 in
theorem refItem_any (t : Nat) (al : Option Addr) (n cap : Nat) (xss : List (List UInt8)) (w : World) (hm : n ≤ 70368744177664) (ht : t ≤ 18446744073709551615) (h : Chn w al n cap xss) :
    Calls Try.prog 19 #[entV t al n cap] w (ItemRes w t xss) := by
  have hz : zI.toArray = #[.slice none 0 0, .slice none 0 0] := rfl
  have hb0 : Below w.heap.size w ((w.alloc (.cells #[.int .u64 (t : Int), .slice al n cap] 25)).alloc (.cells zI.toArray 34)) := (hal w _).alloc (by simp) _
  have hE : Arr ((w.alloc (.cells #[.int .u64 (t : Int), .slice al n cap] 25)).alloc (.cells zI.toArray 34)) w.heap.size 25 [.int .u64 (t : Int), .slice al n cap] := (Arr.new w _ _).kept (hal _ _)
  have hR : Arr ((w.alloc (.cells #[.int .u64 (t : Int), .slice al n cap] 25)).alloc (.cells zI.toArray 34)) (w.heap.size + 1) 34 zI := by
    have := Arr.new (w.alloc (.cells #[.int .u64 (t : Int), .slice al n cap] 25)) 34 zI
    simpa using this
  have hs0 : ((w.alloc (.cells #[.int .u64 (t : Int), .slice al n cap] 25)).alloc (.cells zI.toArray 34)).heap.size = w.heap.size + 2 := by simp
  rw [hz] at hb0 hE hR hs0
  have h1 := Lib.hid (fun W (hW : Below w.heap.size w W) => refLeaf_any t al n cap xss W hm ht (h.to hW))
  have h2 := Lib.hid (fun W (hW : Below w.heap.size w W) => refExtra_any t al n cap xss W hm (h.to hW))
  clear h
  have k0 := hE.cell 0
  have k1 := hE.cell 1
  simp only [List.getElem?_cons_zero, List.getElem?_cons_succ] at k0 k1
  go_enter Try.func19, Try.ntmps19
  go_wp2_with fail
  generalize World.alloc (World.alloc w _) _ = w0 at *
  have HB0 := Lib.hid hb0
  refine (h1.out w0 hb0).mono ?_
  rintro e w1 ⟨v1, rfl, ho1, hb1⟩
  obtain ⟨a1, n1, c1, rfl, -⟩ := ho1.reads
  have hE1 := hE.kept hb1
  have hR1 := hR.kept hb1
  have hb01 := hb0.trans (hb1.mono hb0.size)
  have x0 := hE1.cell 0
  have x1 := hE1.cell 1
  simp only [List.getElem?_cons_zero, List.getElem?_cons_succ] at x0 x1
  clear hb0 hE hR k0 k1
  cases hmay : mayB xss with
  | false =>
    have e1 : stampR t xss = ([], 1) := by unfold stampR; rw [hmay]; rfl
    have hfin : ∀ W, Below w.heap.size w W → ItemRes w t xss (.returned (.tuple #[.agg #[.slice none 0 0, .slice none 0 0], .int .i64 1])) W := by
      intro W hW
      refine ⟨none, 0, 0, none, 0, 0, by unfold itemE; rw [e1], ?_, ?_, hW⟩
      · unfold itemL; rw [e1]; exact Own.nil _ _ _
      · unfold itemX extraR; rw [hmay]; exact Own.nil _ _ _
    have HF := Lib.hid hfin
    rw [e1]
    clear hmay e1 hfin
    have y0 := hR1.cell 0
    have y1 := hR1.cell 1
    have z0 := hR1.frozen 0
    have z1 := hR1.frozen 1
    simp only [List.getElem?_cons_zero, List.getElem?_cons_succ, zI] at y0 y1
    go_wp2_with fail
    refine end_cell2 rfl (w.heap.size + 1) 34 [.slice none 0 0, .slice none 0 0] _ _ rfl ((hR1.store 0 (.slice none 0 0)).store 1 (.slice none 0 0)) Try.underlying34 rfl sizeI rfl rfl ?_
    exact HF.out _ (hb01.grown (setCells_grown (w.heap.size + 1) [.slice none 0 0, .slice none 0 0] w1 0) hb01.size (by intro k hk; cases hk; omega))
  | true =>
    have e1 : (stampR t xss).2 = 0 := by unfold stampR; rw [hmay]; rfl
    have hie : Hid (itemE t xss = 0) := e1
    rw [e1]
    clear hmay e1
    go_wp2_with fail
    refine (h2.out w1 hb01).mono ?_
    rintro e w2 ⟨v2, rfl, ho2, hb2⟩
    obtain ⟨a2, n2, c2, rfl, -⟩ := ho2.reads
    have hR2 := hR1.kept hb2
    have hb02 := hb01.trans (hb2.mono hb01.size)
    have y0 := hR2.cell 0
    have y1 := hR2.cell 1
    have z0 := hR2.frozen 0
    have z1 := hR2.frozen 1
    simp only [List.getElem?_cons_zero, List.getElem?_cons_succ, zI] at y0 y1
    go_wp2_with fail
    have g := setCells_grown (w.heap.size + 1) [.slice a1 n1 c1, .slice a2 n2 c2] w2 0
    refine end_cell2 rfl (w.heap.size + 1) 34 [.slice a1 n1 c1, .slice a2 n2 c2] _ _ rfl ((hR2.store 0 (.slice a1 n1 c1)).store 1 (.slice a2 n2 c2)) Try.underlying34 rfl sizeI rfl rfl ?_
    have hap : ∀ x ∈ [w.heap.size + 1], Apart w2 w.heap.size x := by intro x hx; simp at hx; subst hx; exact .inr ⟨_, _, hR2, by decide, by decide⟩
    have gf := Fr.of_grown g (rs := [w.heap.size + 1]) (by simp)
    refine ⟨a1, n1, c1, a2, n2, c2, by rw [hie.out]; rfl, ?_, ?_, ?_⟩
    · exact ((ho1.to hb2).mono (by omega)).fr gf hap
    · exact (ho2.mono (by have := hb1.size; omega)).fr gf hap
    · exact hb02.grown g hb02.size (by intro k hk; cases hk; omega)

section
variable {ops : Array Oper} {rest : List Oper} {o : Oper} {a : Act} {K : Act → World → Prop} {Q : Exit → Act → World → Prop} {w : World}
theorem ow_appendL (d s : Operand) (ho : o.op = .call { callee := .builtin .append, args := #[d, s], argTypes := #[23, 23] })
    (B : Nat) (v : Value) (xss : List (List UInt8)) (hv : OwnC w B v xss) (hd : a.eval d = v) (u : Value) (yss : List (List UInt8)) (hu : OwnC w B u yss) (hs : a.eval s = u) (hb : xss.length + yss.length ≤ 5864062014800) (hB : B ≤ w.heap.size)
    (hK : ∀ v' w', OwnC w' B v' (xss ++ yss) → Below B w w' → K (a.put o.dst v') w') : Oper.wp Try.prog o a w K Q := by
  obtain ⟨i0, hi, hz0, hz1, hz2⟩ := info_parts btC_info
  have hv' := hv
  obtain ⟨vs, h1, h2, h3⟩ := hv
  obtain ⟨us, k1, k2, k3⟩ := hu
  have k1' := k1
  obtain ⟨hl, ⟨rfl, hn⟩ | ⟨g, cap, cur, rfl, hbb, hg, hn, hc, hss, ht⟩⟩ := k1
  · have e : yss = [] := List.eq_nil_of_length_eq_zero (by omega)
    subst e
    have hrun := run_append_owned_none (P := Try.prog) (w := w) B 23 o.type 27 i0 1 btC_sl hi v _ _ h1
    unfold Oper.wp
    simp [execOp, ho, resolve, invoke, builtin, hs, hd, hrun, Result.andThen]
    exact hK _ _ (by simpa using hv') (Below.refl _ _)
  · refine wp_append_own w d s 23 ho B 27 i0 (.slice none 0 0) 1 24 btC_sl hi hz0 hz1 hz2 rfl (by decide) v _ _ hd h1 ⟨g, 0, none⟩ us.length cap us hs (by simp) (World.ownsRow.cells k1' rfl) ?_ (by unfold maxLen; omega) (by omega) hB ?_
    · intro x hx
      obtain ⟨j, hj, rfl⟩ := List.mem_iff_getElem.1 hx
      have := k3 j (by omega)
      obtain ⟨aj, nj, cj, e, -⟩ := this.reads
      have e2 : us[j] = .slice aj nj cj := by rw [← e]; simp [List.getD, hj]
      rw [e2]
      rfl
    · intro v' w' r hg _
      exact hK v' w' (appC_post h1 h2 h3 k2 k3 r hg) ((Below.refl _ _).grown hg hB fun k hk => (World.ownsRow.lt h1 k hk).1)
theorem wl_appendL (hgd : o.guard = none) (d s : Operand) (ho : o.op = .call { callee := .builtin .append, args := #[d, s], argTypes := #[23, 23] })
    (B : Nat) (v : Value) (xss : List (List UInt8)) (hv : OwnC w B v xss) (hd : a.eval d = v) (u : Value) (yss : List (List UInt8)) (hu : OwnC w B u yss) (hs : a.eval s = u) (hb : xss.length + yss.length ≤ 5864062014800) (hB : B ≤ w.heap.size)
    (hK : ∀ v' w', OwnC w' B v' (xss ++ yss) → Below B w w' → wpList Try.prog ops Q rest (a.put o.dst v') w') : wpList Try.prog ops Q (o :: rest) a w :=
  wpList_plain hgd fun _ hK' => ow_appendL d s ho B v xss hv hd u yss hu hs hb hB fun v' w' h1 h2 => hK' _ _ (hK v' w' h1 h2)
end
theorem take_snocC (xss : List (List UInt8)) (k : Nat) (h : k < xss.length) : xss.take (k + 1) = xss.take k ++ [xss.getD k []] := by
  rw [List.take_succ_eq_append_getElem h]; simp [List.getD, h]

/-- an entry in new memory -/
def EnRes (w : World) (t : Nat) (xss : List (List UInt8)) (e : Ending) (w' : World) : Prop :=
  ∃ a n c, e = .returned (entV t a n c) ∧ OwnC w' w.heap.size (.slice a n c) xss ∧ Below w.heap.size w w'

set_option maxHeartbeats 1000000 in
theorem refOwn_any (t : Nat) (al : Option Addr) (n cap : Nat) (xss : List (List UInt8)) (w : World) (hm : n ≤ 5864062014700) (hlen : ∀ x ∈ xss, x.length ≤ 140737488355328) (h : Chn w al n cap xss) :
    Calls Try.prog 9 #[entV t al n cap] w (EnRes w t xss) := by
  have hb0 : Below w.heap.size w ((w.alloc (.cells #[.int .u64 (t : Int), .slice al n cap] 25)).alloc (.cells #[.int .u64 0, .slice none 0 0] 25)) := (hal w _).alloc (by simp) _
  have hE : Arr ((w.alloc (.cells #[.int .u64 (t : Int), .slice al n cap] 25)).alloc (.cells #[.int .u64 0, .slice none 0 0] 25)) w.heap.size 25 [.int .u64 (t : Int), .slice al n cap] := (Arr.new w _ _).kept (hal _ _)
  have hR : Arr ((w.alloc (.cells #[.int .u64 (t : Int), .slice al n cap] 25)).alloc (.cells #[.int .u64 0, .slice none 0 0] 25)) (w.heap.size + 1) 25 [.int .u64 0, .slice none 0 0] := by
    have := Arr.new (w.alloc (.cells #[.int .u64 (t : Int), .slice al n cap] 25)) 25 [.int .u64 0, .slice none 0 0]
    simpa using this
  have hs0 : ((w.alloc (.cells #[.int .u64 (t : Int), .slice al n cap] 25)).alloc (.cells #[.int .u64 0, .slice none 0 0] 25)).heap.size = w.heap.size + 2 := by simp
  have hln := h.len
  have hcap := h.le
  have hc := h.mem
  have HL := Lib.hid hln
  have HLEN := Lib.hid hlen
  clear h hln hlen
  go_enter Try.func9, Try.ntmps9
  go_wp2_with fail
  generalize World.alloc (World.alloc w _) _ = w0 at *
  have HB0 := Lib.hid hb0
  have HS0 := Lib.hid hs0
  generalize hB : w.heap.size = B at *
  have HB := Lib.hid hB
  clear hB hb0 hs0
  go_loopw [3, 4] (fun v i wr => ∃ (k : Nat) (av : Option Addr) (nv cv : Nat), k ≤ n ∧ i = .int .i64 k ∧ v = .slice av nv cv ∧ OwnC wr (B + 2) (.slice av nv cv) (xss.take k) ∧ Below (B + 2) w0 wr) (fun _ i _ => n - (intOf i).toNat)
  case atStart => exact ⟨0, none, 0, 0, Nat.zero_le _, rfl, rfl, OwnC.nil _ _, Below.refl _ _⟩
  case round =>
    obtain ⟨k, av, nv, cv, hk, rfl, rfl, hO, hbr⟩ := hrel
    have hE1 := hE.to hbr (by omega)
    have hR1 := hR.to hbr (by omega)
    have x0 := hE1.cell 0
    have x1 := hE1.cell 1
    simp only [List.getElem?_cons_zero, List.getElem?_cons_succ] at x0 x1
    have hbs : B + 2 ≤ wr.heap.size := by have := hbr.size; have := HS0.out; omega
    have hbw : Below w.heap.size w wr := by rw [HB.out]; exact HB0.out.trans (hbr.mono (by omega))
    have HBW := Lib.hid hbw
    have hnl := hO.len
    have hnv : nv = k := by rw [← hnl, List.length_take]; have := HL.out; omega
    clear hnl
    by_cases hlt : k < n
    · obtain ⟨b, off, rfl, hb, hcc⟩ := hc (by omega)
      obtain ⟨aj, nj, cj, hcl, hrj⟩ := hcc k hlt
      have hcl' := (hbw.cell (p := ⟨b, off + k, none⟩) (by rw [HB.out]; exact hb)).trans hcl
      have hrj' := Lib.hid (hrj.to hbw)
      have hst : Hid (xss.take (k + 1) = xss.take k ++ [xss.getD k []]) := take_snocC xss k (by rw [HL.out]; exact hlt)
      have hnj : nj ≤ 140737488355328 := by
        have h1 := hrj.len
        have h2 : xss.getD k [] ∈ xss := by simp [List.getD, show k < xss.length by rw [HL.out]; exact hlt]
        have := HLEN.out _ h2
        omega
      have hsub := hnv
      subst hsub
      have HO := Lib.hid hO
      clear hcl hcc hrj hbw hO hnv
      go_wp2_with (first
        | ((with_reducible show wpList _ _ _ (⟨some 20, _, _, _, _, _⟩ :: _) _ _); refine wl_append bt rfl (.tmp 14) (.tmp 19) rfl wr.heap.size _ [] (Own.nil _ _ _) rfl aj nj cj (xss.getD nv []) rfl hrj'.out (by simpa using hnj) (Nat.le_refl _) ?_; intro v1 w1 ho1 hb1; obtain ⟨a1, n1, c1, rfl, -⟩ := ho1.reads; have hU := Lib.hid (ownC_lit (B := B + 2) (w := w1) (by have := hb1.size; omega) ((show Own w1 _ _ _ (xss.getD nv []) from ho1).mono hbs)); have hb12 := hal w1 (.cells #[.slice a1 n1 c1] 27); have HO2 := Lib.hid ((HO.out.to hb1).to hb12); have hs12 := Nat.le_trans hb1.size hb12.size)
        | ((with_reducible show wpList _ _ _ (⟨some 22, _, _, _, _, _⟩ :: _) _ _); refine wl_appendL rfl (.tmp 13) (.tmp 21) rfl (B + 2) _ _ HO2.out rfl _ _ hU.out rfl (by simp [HL.out]; omega) (by omega) ?_; intro v3 w3 hO3 hb3; obtain ⟨a3, n3, c3, rfl, -⟩ := hO3.chn))
      go_roundw
      case rel =>
        refine ⟨nv + 1, a3, n3, c3, by omega, by go_num, rfl, ?_, ?_⟩
        · rw [hst.out]; exact hO3
        · exact hbr.trans (((hb1.trans (hb12.mono hb1.size)).mono hbs).trans hb3)
      case measure => simp [intOf]; omega
    · obtain rfl : k = n := by omega
      subst hnv
      have hst : Hid (xss.take nv = xss) := by show _ = _; rw [List.take_of_length_le (by rw [HL.out]; exact Nat.le_refl _)]
      have y0 := hR1.cell 0
      have y1 := hR1.cell 1
      have z0 := hR1.frozen 0
      have z1 := hR1.frozen 1
      simp only [List.getElem?_cons_zero, List.getElem?_cons_succ] at y0 y1
      clear hc
      go_wp2_with fail
      have g := setCells_grown (B + 1) [.int .u64 (t : Int), .slice av nv cv] wr 0
      refine end_cell rfl (B + 1) 25 [.int .u64 (t : Int), .slice av nv cv] _ rfl ((hR1.store 0 (.int .u64 (t : Int))).store 1 (.slice av nv cv)) Try.underlying25 rfl sizeE rfl ?_
      refine ⟨av, nv, cv, rfl, ?_, ?_⟩
      · rw [HB.out]
        have := hO.fr (Fr.of_grown g (rs := [B + 1]) (by simp)) (by intro x hx; simp at hx; subst hx; exact .inl (by omega))
        rw [hst.out] at this
        exact this.mono (by omega)
      · exact HBW.out.grown g HBW.out.size (by intro k hk; cases hk; have := HB.out; omega)
end Go.Proofs.Ytcohcjhbkiangaa
