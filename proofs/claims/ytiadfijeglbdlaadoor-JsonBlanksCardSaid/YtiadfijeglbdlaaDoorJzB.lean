/-
  The program's reader, whole; Parse; the statements' helper that wakes. Conditions: those in each statement.
-/
import Derived.Test.YtiadfijeglbdlaaDoorJzA
import Derived.Test.YtiadfijeglbdlaaDoorJyO
import Derived.Test.YtiadfijeglbdlaaDoorJyB
import Derived.Test.YtiadfijeglbdlaaDoorJyE
import Derived.Test.YtiadfijeglbdlaaDoorJyD
import Derived.Test.YtiadfijeglbdlaaDoorJyA
import Derived.Lib.SlBytesConst
import Derived.Test.YtiadfijeglbdlaaDoorJyC
import Derived.Laws.AppendOwnNone
namespace Go.Proofs.YtiadfijeglbdlaaDoor
open Go.RowKit

theorem Tch.thenn {a b c : World} {bs bs' : List Nat} (h : Tch a b bs) (k : Tch b c bs') (hs : ∀ x ∈ bs', x ∈ bs ∨ a.heap.size ≤ x) : Tch a c bs :=
  ⟨k.os.trans h.os, k.tape.trans h.tape, k.output.trans h.output, Nat.le_trans h.size k.size, fun i hi hb => (k.block i (Nat.lt_of_lt_of_le hi h.size) (fun e => by rcases hs i e with h1 | h1; exact hb h1; omega)).trans (h.block i hi hb)⟩
/-- append of one value, as one operation -/
theorem ow_append_5 {o : Oper} {a : Act} {K : Act → World → Prop} {Q : Exit → Act → World → Prop} {w : World} (d s : Operand) (ho : o.op = .call { callee := .builtin .append, args := #[d, s], argTypes := #[28, 28] })
    (B n : Nat) (v : Value) (xs : List Value) (hown : w.ownsRow B 30 5 v n xs) (hd : a.eval d = v) (g1 : Nat) (T' : TypeId) (cs : List Value) (hcs : cs.length = 5) (hone : ∀ u ∈ cs, u.oneCell' = true) (hs : a.eval s = .slice (some ⟨g1, 0, none⟩) 1 1)
    (hA : Arr w g1 T' cs) (hlen : n + 1 ≤ 1073741824) (hB : B ≤ w.heap.size)
    (hK : ∀ v' w', w'.ownsRow B 30 5 v' (n + 1) (xs ++ cs) → Tch w w' v.ownBlock.toList → (∀ k, v'.ownBlock = some k → v.ownBlock = some k ∨ w.heap.size ≤ k) → K (a.put o.dst v') w') : Oper.wp Tryd.prog o a w K Q := by
  obtain ⟨i0, hi, hz0, hz1, hz2⟩ := info_parts (show (Tryd.prog.info? 30).map (fun i => (i.zero, i.size, i.bytes)) = some (some (.agg #[.int .i64 0, .string ⟨#[]⟩, .int .u64 0, .slice none 0 0, .slice none 0 0]), 5, 80) by kernel_rfl)
  have hc : ∀ j u, cs[j]? = some u → w.cell? ((⟨g1, 0, none⟩ : Addr).add j) = some u := fun j u hj => by
    rw [Addr.add_lit, Nat.zero_add]
    exact (hA.cell j).trans hj
  rcases hown.2 with ⟨hv, hn⟩ | ⟨g, cap, cur, hv, hg, hcc, hcap, hm, hcs2, hct⟩
  · subst hv
    subst hn
    have hxs : xs = [] := List.eq_nil_of_length_eq_zero (by have := hown.1; simpa using this)
    subst hxs
    refine wp_append_own w d s 28 ho w.heap.size 30 i0 _ 5 80 Tryd.underlying28 hi hz0 hz1 hz2 rfl (by decide) _ 0 [] hd (World.ownsRow_nil w _ _ _) ⟨g1, 0, none⟩ 1 1 cs hs (by rw [hcs]) hc hone (by unfold maxLen; omega) (by omega) (Nat.le_refl _) ?_
    intro v' w' h2 h3 _
    exact hK v' w' (row_base h2 hB) (Tch.of_grown h3) (fun k hk => .inr (World.ownsRow.lt h2 k hk).1)
  · by_cases hr : n + 1 ≤ cap
    · subst hv
      obtain ⟨w', hrun, r1, r2⟩ := run_append_fits (P := Tryd.prog) w B 28 o.type 30 i0 5 Tryd.underlying28 hi hz1 g n cap xs hown ⟨g1, 0, none⟩ 1 1 cs (by rw [hcs]) hc hone hr
      unfold Oper.wp
      simp [execOp, ho, resolve, invoke, builtin, hd, hs, hrun, Result.andThen]
      exact hK _ _ r1 (Tch.of_grown r2) (fun k hk => .inl hk)
    · have hold : ∀ j u, xs[j]? = some u → w.cell? ((⟨g, 0, none⟩ : Addr).add j) = some u := fun j u hj => World.ownsRow.cells hown (g := g) (by rw [hv]; rfl) j u hj
      obtain ⟨v', w', hrun, r1, r2⟩ := run_append_arg_grows (P := Tryd.prog) (w := w) 28 o.type 30 i0 _ 5 80 Tryd.underlying28 hi hz0 hz1 hz2 rfl (by decide) ⟨g, 0, none⟩ n cap xs hown.1 hold ⟨g1, 0, none⟩ 1 1 cs (by rw [hcs]) hc (by omega) (by unfold maxLen; omega) (by omega)
      unfold Oper.wp
      simp [execOp, ho, resolve, invoke, builtin, hd, hs, hv, hrun, Result.andThen]
      exact hK _ _ (row_base r1 hB) ((Tch.of_grown r2).mono (by simp)) (fun k hk => .inr (World.ownsRow.lt r1 k hk).1)
structure Inv20 (w wr : World) (R O d cap m cl : Nat) (al : Option Addr) (xs cur vc : List Value) (u : Nat → Value) (L : Nat → Bool) (v71 v72 v73 v74 v75 v76 v77 v78 v79 v80 v81 : Value) (wx : World) : Prop where
  t0 : L 0 = true → v71 = .pointer (some ⟨O, d * 5, none⟩)
  t1 : L 1 = true → v72 = .pointer (some ⟨O, d * 5, none⟩)
  t2 : L 2 = true → v73 = .pointer (some ⟨O, d * 5 + 3, none⟩)
  t3 : L 3 = true → v74 = .slice al m cl
  t4 : L 4 = true → v75 = .agg vc.toArray
  t5 : L 5 = true → v76 = .int .i64 (m : Int)
  t6 : L 6 = true → ∃ NB, v77 = .slice (some ⟨NB, 0, none⟩) 1 1 ∧ wr.heap.size ≤ NB ∧ NB < wx.heap.size ∧ (L 7 = false → Arr wx NB 30 zC)
  t7 : L 7 = true → ∃ X c' cur', v78 = .slice (some ⟨X, 0, none⟩) (m + 1) c' ∧ ((Value.ownBlock (.slice al m cl)) = some X ∨ wr.heap.size ≤ X) ∧ Arr wx X 30 cur' ∧ m + 1 ≤ c' ∧ c' ≤ maxLen ∧ cur'.length = c' * 5 ∧ cur'.take (m * 5) = xs ∧ (L 9 = true → cur'.take ((m + 1) * 5) = xs ++ vc)
  t8 : L 8 = true → ∃ X c', v78 = .slice (some ⟨X, 0, none⟩) (m + 1) c' ∧ v79 = .pointer (some ⟨X, m * 5, none⟩)
  t10 : L 10 = true → v80 = .pointer (some ⟨O, d * 5, none⟩)
  t11 : L 11 = true → v81 = .pointer (some ⟨O, d * 5 + 3, none⟩)
  n7 : L 7 = false → wx.ownsRow (w.heap.size + 2) 30 5 (.slice al m cl) m xs
  aO : ∃ curO, Arr wx O 30 curO ∧ (L 12 = false → curO = cur) ∧ (L 12 = true → curO = cur.set (d * 5 + 3) v78)
  aV : Arr wx (w.heap.size + 1) 30 vc
  tch : Tch wr wx (O :: (Value.ownBlock (.slice al m cl)).toList)

set_option maxRecDepth 100000 in
set_option maxHeartbeats 6400000 in
theorem pass2cons (res : Option JV) (w : World) (R L n : Nat) (hR : R < w.heap.size) (hL : L ≤ 1048576) (ov tp : Value) (a : Act) (wr : World) (r Y : Code) (hf : findLabel (bodyC Tryd.f29) 2 = some (.seq .skip (.seq r Y))) (hfr : FrW R w.heap.size ov tp a) (D : Nat → Prop) (v : JV) (fr : Frm) (S : List Frm) (ys : List UInt8) (vc : List Value) (hv : SV D wr v vc) (h : WS w R L D (fr :: S) ys (ys.length + 1) ov vc wr) (hres : res = doneF (fr :: S) v ys) (hn : 8 * ys.length + 1 ≤ n) :
    r.wp Tryd.prog (Exit.then (Y.wp Tryd.prog (WQ res w R L n)) (WQ res w R L n)) a wr := by
  unfold bodyC Tryd.f29 at hf
  change some (Code.seq Code.skip (Code.seq _ _)) = _ at hf
  cases hf
  obtain ⟨u, rfl⟩ := hfr
  obtain ⟨O, cap, cur, lead, lv, kv, css, bl, ht⟩ := h.opn.top
  have hov := ht.hov
  have hnd := ht.nd
  simp only [List.nodup_cons, List.nodup_append, List.mem_append, Option.mem_toList, not_or] at hnd
  have HKO : Hid (kv.ownBlock ≠ some O) := hnd.1.1.2
  have HLK : Hid (∀ x, lv.ownBlock = some x → kv.ownBlock ≠ some x) := fun x h1 h2 => hnd.2.1.2.2 x h1 x h2 rfl
  have hlO : lv.ownBlock ≠ some O := hnd.1.1.1
  have HF1 := Lib.hid (h.few fr (List.mem_cons_self ..))
  have HSL : Hid (S.length < 8) := by show _ < _; have := h.deep; simp only [List.length_cons] at this; omega
  have hBO : Hid (w.heap.size + 2 ≤ O) := ht.lo
  have hOlt : Hid (O < wr.heap.size) := ht.harr.lt
  have hSZ : Hid (w.heap.size + 2 ≤ wr.heap.size) := by show _ ≤ _; have := h.vbl.lt; omega
  have hvl := h.vlen
  have HKD := Lib.hid ht.hfr.kind
  have ONE : Hid (∀ u ∈ vc, u.oneCell' = true) := pv_one_cell (sv_pv v vc hv)
  have HSVV := Lib.hid hv
  obtain ⟨xs, hrow, hsv⟩ := ht.hfr.list
  obtain ⟨al, cl, hlv⟩ := row_n hrow
  have hlt := World.ownsRow.lt hrow
  have hq3' := ht.cell 3 (by omega)
  have hq0' := ht.cell 0 (by omega)
  have H := Lib.hid h
  have HT := Lib.hid ht
  have HRES := Lib.hid hres
  have HN := Lib.hid hn
  have HSV := Lib.hid hsv
  have hlen := h.len
  have HOV := Lib.hid hov
  obtain ⟨d, hd⟩ : ∃ d, d = S.length := ⟨_, rfl⟩
  obtain ⟨m, hm⟩ : ∃ m, m = fr.acc.length := ⟨_, rfl⟩
  have hS8 : d < 8 := by have := HSL.out; omega
  have hm30 : m + 1 ≤ 1073741824 := by have := HF1.out; omega
  rw [← hd] at hq3' hq0' hov
  rw [← hm] at hrow hlv
  have HROW := Lib.hid hrow
  have HLV := Lib.hid hlv
  have HM := Lib.hid hm
  have HD := Lib.hid hd
  have hLB2 : Hid (∀ x, (Value.ownBlock (.slice al m cl)) = some x → w.heap.size + 2 ≤ x ∧ x ≠ O) := fun x hx => by rw [← hlv] at hx; exact ⟨(hlt x hx).1, fun e => hlO (by rw [hx, e])⟩
  have hLB : Hid (∀ x, (Value.ownBlock (.slice al m cl)) = some x → x ≠ O ∧ x ≠ w.heap.size + 1) := fun x hx => ⟨(hLB2.out x hx).2, by have := (hLB2.out x hx).1; omega⟩
  have hq3 : cur[d * 5 + 3]? = some (Value.slice al m cl) := by rw [hq3', ← hlv]; rfl
  have HQ : Hid (cur[d * 5]? = some (Value.int .i64 (fr.k : Int))) := hq0'
  rw [hlv] at hrow
  have harr := ht.harr
  have hV := h.vbl
  clear h hres hn hnd hlO ht hv hsv hlt hq3' hq0' hlv hm hd hlen
  have hovs := hov
  clear hov
  rw [hovs]
  go_upto_region 20 with fail
  refine wp_frW frW_of ?_
  rintro a ⟨u, rfl⟩
  refine wp_region_steps [[], [0], [1], [2], [], [3], [], [0, 1, 2, 3, 4, 5, 6], [0, 1, 2, 3, 4, 5, 6, 7], [0, 1, 2, 3, 4, 5, 6, 7, 8], [0, 1, 2, 3, 4, 5, 6, 7], [0, 1, 2, 3, 4, 5, 6, 7, 10], [0, 1, 2, 3, 4, 5, 6, 7, 11]] (by kernel_rfl) (by kernel_rfl) (fun L a wx => ∃ v71 v72 v73 v74 v75 v76 v77 v78 v79 v80 v81, a = ⟨#[.pointer (some ⟨R, 0, none⟩), u 1, .pointer (some ⟨w.heap.size, 0, none⟩), u 3, (.slice (some ⟨O, 0, none⟩) (d + 1) cap), .pointer (some ⟨O, d * 5, none⟩), .pointer (some ⟨w.heap.size + 1, 0, none⟩), u 7, u 8, u 9, u 10, u 11, u 12, u 13, u 14, u 15, u 16, u 17, u 18, u 19, u 20, u 21, u 22, u 23, u 24, u 25, u 26, u 27, u 28, u 29, u 30, u 31, u 32, u 33, u 34, u 35, u 36, u 37, u 38, u 39, u 40, u 41, u 42, u 43, u 44, u 45, u 46, u 47, u 48, u 49, u 50, u 51, u 52, u 53, u 54, u 55, u 56, u 57, u 58, u 59, u 60, u 61, u 62, u 63, u 64, u 65, u 66, u 67, u 68, u 69, u 70, v71, v72, v73, v74, v75, v76, v77, v78, v79, v80, v81, u 82, u 83, u 84, u 85, u 86, u 87, u 88, u 89, u 90, u 91, u 92, u 93, u 94, u 95, u 96, u 97], []⟩ ∧ Inv20 w wr R O d cap m cl al xs cur vc u L v71 v72 v73 v74 v75 v76 v77 v78 v79 v80 v81 wx) ?_ ⟨?_, ?_, ?_, ?_, ?_, ?_, ?_, ?_, ?_, ?_, ?_, ?_, ?_, trivial⟩ ?_
  · refine ⟨_, _, _, _, _, _, _, _, _, _, _, rfl, ⟨?_, ?_, ?_, ?_, ?_, ?_, ?_, ?_, ?_, ?_, ?_, fun _ => hrow, ⟨cur, harr, fun _ => rfl, fun h => absurd h (by decide)⟩, hV, ⟨rfl, rfl, rfl, Nat.le_refl _, fun _ _ _ => rfl⟩⟩⟩ <;> (intro h; exact absurd h (by decide))
  · rintro L a wx ⟨v71, v72, v73, v74, v75, v76, v77, v78, v79, v80, v81, rfl, hI⟩ hL hdep hcl K hK
    go_simp
    exact hK _ _ ⟨_, v72, v73, v74, v75, v76, v77, v78, v79, v80, v81, rfl, ⟨fun _ => rfl, hI.t1, hI.t2, hI.t3, hI.t4, hI.t5, hI.t6, hI.t7, hI.t8, hI.t10, hI.t11, hI.n7, hI.aO, hI.aV, hI.tch⟩⟩
  · rintro L a wx ⟨v71, v72, v73, v74, v75, v76, v77, v78, v79, v80, v81, rfl, hI⟩ hL hdep hcl K hK
    obtain rfl := hI.t0 (hdep 0 (by decide))
    go_simp
    exact hK _ _ ⟨_, _, v73, v74, v75, v76, v77, v78, v79, v80, v81, rfl, ⟨hI.t0, fun _ => rfl, hI.t2, hI.t3, hI.t4, hI.t5, hI.t6, hI.t7, hI.t8, hI.t10, hI.t11, hI.n7, hI.aO, hI.aV, hI.tch⟩⟩
  · rintro L a wx ⟨v71, v72, v73, v74, v75, v76, v77, v78, v79, v80, v81, rfl, hI⟩ hL hdep hcl K hK
    obtain rfl := hI.t1 (hdep 1 (by decide))
    go_simp
    exact hK _ _ ⟨v71, _, _, v74, v75, v76, v77, v78, v79, v80, v81, rfl, ⟨hI.t0, hI.t1, fun _ => rfl, hI.t3, hI.t4, hI.t5, hI.t6, hI.t7, hI.t8, hI.t10, hI.t11, hI.n7, hI.aO, hI.aV, hI.tch⟩⟩
  · rintro L a wx ⟨v71, v72, v73, v74, v75, v76, v77, v78, v79, v80, v81, rfl, hI⟩ hL hdep hcl K hK
    obtain rfl := hI.t2 (hdep 2 (by decide))
    obtain ⟨curO, o1, o2, o3⟩ := hI.aO
    obtain rfl := o2 (by cases h12 : L 12 with | false => rfl | true => exact absurd (hcl 12 (by decide) h12 3 (by decide)) (by rw [hL]; decide))
    have c0 := (o1.cell (d * 5 + 3)).trans hq3
    go_simp
    exact hK _ _ ⟨v71, v72, _, _, v75, v76, v77, v78, v79, v80, v81, rfl, ⟨hI.t0, hI.t1, hI.t2, fun _ => rfl, hI.t4, hI.t5, hI.t6, hI.t7, hI.t8, hI.t10, hI.t11, hI.n7, ⟨_, o1, fun _ => rfl, o3⟩, hI.aV, hI.tch⟩⟩
  · rintro L a wx ⟨v71, v72, v73, v74, v75, v76, v77, v78, v79, v80, v81, rfl, hI⟩ hL hdep hcl K hK
    refine ow_load 30 _ rfl (w.heap.size + 1) 0 rfl 30 vc vc hI.aV (fun j v hj => by rw [Nat.zero_add]; exact hj) _ Tryd.underlying30 rfl (by rw [hvl]; kernel_rfl) ?_
    exact hK _ _ ⟨v71, v72, v73, v74, _, v76, v77, v78, v79, v80, v81, rfl, ⟨hI.t0, hI.t1, hI.t2, hI.t3, fun _ => rfl, hI.t5, hI.t6, hI.t7, hI.t8, hI.t10, hI.t11, hI.n7, hI.aO, hI.aV, hI.tch⟩⟩
  · rintro L a wx ⟨v71, v72, v73, v74, v75, v76, v77, v78, v79, v80, v81, rfl, hI⟩ hL hdep hcl K hK
    obtain rfl := hI.t3 (hdep 3 (by decide))
    go_simp
    exact hK _ _ ⟨v71, v72, v73, _, v75, _, v77, v78, v79, v80, v81, rfl, ⟨hI.t0, hI.t1, hI.t2, hI.t3, hI.t4, fun _ => rfl, hI.t6, hI.t7, hI.t8, hI.t10, hI.t11, hI.n7, hI.aO, hI.aV, hI.tch⟩⟩
  · rintro L a wx ⟨v71, v72, v73, v74, v75, v76, v77, v78, v79, v80, v81, rfl, hI⟩ hL hdep hcl K hK
    have hb0 := (Below.refl wx.heap.size wx).alloc (Nat.le_refl _) (.cells #[.int .i64 0, .string ⟨#[]⟩, .int .u64 0, .slice none 0 0, .slice none 0 0] 30)
    have hN := Arr.new wx 30 zC
    have hsz := hI.tch.size
    go_simp
    exact hK _ _ ⟨v71, v72, v73, v74, v75, v76, _, v78, v79, v80, v81, rfl, ⟨hI.t0, hI.t1, hI.t2, hI.t3, hI.t4, hI.t5, fun _ => ⟨_, rfl, hsz, by simp, fun _ => hN⟩, fun h => absurd (hcl 7 (by decide) h 6 (by decide)) (by rw [hL]; decide), hI.t8, hI.t10, hI.t11, fun h => (hI.n7 h).alloc _, (by obtain ⟨curO, o1, o2, o3⟩ := hI.aO; exact ⟨curO, o1.kept hb0, o2, o3⟩), hI.aV.kept hb0, hI.tch.trans (Tch.of_below hb0 _)⟩⟩
  · rintro L a wx ⟨v71, v72, v73, v74, v75, v76, v77, v78, v79, v80, v81, rfl, hI⟩ hL hdep hcl K hK
    obtain rfl := hI.t0 (hdep 0 (by decide))
    obtain rfl := hI.t1 (hdep 1 (by decide))
    obtain rfl := hI.t2 (hdep 2 (by decide))
    obtain rfl := hI.t3 (hdep 3 (by decide))
    obtain rfl := hI.t4 (hdep 4 (by decide))
    obtain rfl := hI.t5 (hdep 5 (by decide))
    obtain ⟨NB, rfl, n1, n2, n3⟩ := hI.t6 (hdep 6 (by decide))
    have hrow := hI.n7 hL
    have h9 : L 9 = false := by cases h9 : L 9 with | false => rfl | true => exact absurd (hcl 9 (by decide) h9 7 (by decide)) (by rw [hL]; decide)
    have hsz := hI.tch.size
    have hsz2 := hSZ.out
    refine ow_append_5 (.tmp 74) (.tmp 77) rfl (w.heap.size + 2) m _ _ hrow rfl NB 30 zC rfl (by simp [zC, Value.oneCell']) rfl (n3 hL) hm30 (by omega) ?_
    intro v' w' h1 h2 h3
    rcases h1.2 with ⟨-, h4⟩ | ⟨X, c', cur', rfl, h4, h5, h6, h7, h8, h10⟩
    · omega
    have hX : (Value.ownBlock (.slice al m cl)) = some X ∨ wr.heap.size ≤ X := (h3 X rfl).imp id (fun h => by omega)
    have hx0 : cur'.toList.take (m * 5) = xs := by
      have := congrArg (List.take (m * 5)) h10
      have e2 : (xs ++ zC).take (m * 5) = xs := by rw [List.take_append_of_le_length (by rw [hrow.1]; exact Nat.le_refl _), List.take_of_length_le (by rw [hrow.1]; exact Nat.le_refl _)]
      rw [List.take_take, Nat.min_eq_left (by omega), e2] at this
      exact this
    have hOl : ∀ x, (Value.ownBlock (.slice al m cl)) = some x → x ≠ O ∧ x ≠ w.heap.size + 1 := hLB.out
    exact hK _ _ ⟨_, _, _, _, _, _, _, _, v79, v80, v81, rfl, ⟨hI.t0, hI.t1, hI.t2, hI.t3, hI.t4, hI.t5, fun _ => ⟨NB, rfl, n1, by have := h2.size; omega, fun h => Bool.noConfusion (show true = false from h)⟩, fun _ => ⟨X, c', cur'.toList, rfl, hX, (by unfold Arr; simpa using h5), h6, h7, by simpa using h8, hx0, fun h => by rw [show L 9 = true from h] at h9; cases h9⟩, fun h => absurd (hcl 8 (by decide) (show L 8 = true from h) 7 (by decide)) (by rw [hL]; decide), hI.t10, hI.t11, fun h => Bool.noConfusion (show true = false from h), (by obtain ⟨curO, o1, o2, o3⟩ := hI.aO; exact ⟨curO, h2.arr o1 (fun e => (hOl O (by simpa using e)).1 rfl), o2, fun h => by have := hcl 12 (by decide) (show L 12 = true from h) 7 (by decide); rw [hL] at this; cases this⟩), h2.arr hI.aV (fun e => (hOl _ (by simpa using e)).2 rfl), hI.tch.trans (h2.mono (fun b hb => .inl (List.mem_cons_of_mem _ hb)))⟩⟩
  · rintro L a wx ⟨v71, v72, v73, v74, v75, v76, v77, v78, v79, v80, v81, rfl, hI⟩ hL hdep hcl K hK
    obtain rfl := hI.t0 (hdep 0 (by decide))
    obtain rfl := hI.t1 (hdep 1 (by decide))
    obtain rfl := hI.t2 (hdep 2 (by decide))
    obtain rfl := hI.t3 (hdep 3 (by decide))
    obtain rfl := hI.t4 (hdep 4 (by decide))
    obtain rfl := hI.t5 (hdep 5 (by decide))
    obtain ⟨X, c', cur', rfl, f1, f2, f3, f4, f5, f6, f7⟩ := hI.t7 (hdep 7 (by decide))
    have hmm : (m : Int) < (m : Int) + 1 := by omega
    go_simp
    exact hK _ _ ⟨_, _, _, _, _, _, v77, _, _, v80, v81, rfl, ⟨hI.t0, hI.t1, hI.t2, hI.t3, hI.t4, hI.t5, hI.t6, fun _ => ⟨X, c', cur', rfl, f1, f2, f3, f4, f5, f6, f7⟩, fun _ => ⟨X, c', rfl, rfl⟩, hI.t10, hI.t11, hI.n7, hI.aO, hI.aV, hI.tch⟩⟩
  · rintro L a wx ⟨v71, v72, v73, v74, v75, v76, v77, v78, v79, v80, v81, rfl, hI⟩ hL hdep hcl K hK
    obtain rfl := hI.t0 (hdep 0 (by decide))
    obtain rfl := hI.t1 (hdep 1 (by decide))
    obtain rfl := hI.t2 (hdep 2 (by decide))
    obtain rfl := hI.t3 (hdep 3 (by decide))
    obtain rfl := hI.t4 (hdep 4 (by decide))
    obtain rfl := hI.t5 (hdep 5 (by decide))
    obtain ⟨X0, c0', e1, rfl⟩ := hI.t8 (hdep 8 (by decide))
    obtain ⟨X, c', cur', e2, f1, f2, f3, f4, f5, f6, f7⟩ := hI.t7 (hcl 8 (by decide) (hdep 8 (by decide)) 7 (by decide))
    subst e1
    simp only [Value.slice.injEq, Option.some.injEq, Addr.mk.injEq, and_true, true_and] at e2
    obtain ⟨rfl, rfl⟩ := e2
    have hsz := hSZ.out
    have hOl : ∀ x, (Value.ownBlock (.slice al m cl)) = some x → w.heap.size + 2 ≤ x ∧ x ≠ O := hLB2.out
    have hX2 : w.heap.size + 2 ≤ X0 ∧ X0 ≠ O := by
      rcases f1 with e | e
      · exact hOl _ e
      · exact ⟨by omega, by have := hOlt.out; omega⟩
    refine ow_store 30 _ _ rfl X0 (m * 5) rfl vc rfl 30 cur' f2 (by rw [hvl]; kernel_rfl) (by rw [hvl, f5]; omega) ONE.out ?_
    intro w' hA hg hs
    have g1 : (cur'.take (m * 5) ++ vc ++ cur'.drop (m * 5 + vc.length)).length = c0' * 5 := by
      rw [List.length_append, List.length_append, List.length_take, List.length_drop, f5, hvl, Nat.min_eq_left (by omega)]
      omega
    have g0 : (cur'.take (m * 5)).length = m * 5 := by rw [List.length_take, f5, Nat.min_eq_left (by omega)]
    have g2 : (cur'.take (m * 5) ++ vc ++ cur'.drop (m * 5 + vc.length)).take ((m + 1) * 5) = xs ++ vc := by
      rw [List.take_append_of_le_length (by rw [List.length_append, g0, hvl]; omega), List.take_of_length_le (by rw [List.length_append, g0, hvl]; omega), f6]
    have g3 : (cur'.take (m * 5) ++ vc ++ cur'.drop (m * 5 + vc.length)).take (m * 5) = xs := by
      rw [List.append_assoc, List.take_append_of_le_length (by rw [g0]; omega), List.take_of_length_le (by rw [g0]; omega), f6]
    exact hK _ _ ⟨_, _, _, _, _, _, v77, _, _, v80, v81, rfl, ⟨hI.t0, hI.t1, hI.t2, hI.t3, hI.t4, hI.t5, fun h => (by obtain ⟨NB, e1, e2, e3, e4⟩ := hI.t6 h; exact ⟨NB, e1, e2, by have := hg.size; omega, fun h7 => by have := hcl 8 (by decide) (hdep 8 (by decide)) 7 (by decide); rw [show L 7 = false from h7] at this; cases this⟩), fun _ => ⟨X0, c0', _, rfl, f1, hA, f3, f4, g1, g3, fun _ => g2⟩, fun _ => ⟨X0, c0', rfl, rfl⟩, hI.t10, hI.t11, (fun h => by have := hcl 8 (by decide) (hdep 8 (by decide)) 7 (by decide); rw [show L 7 = false from h] at this; cases this), (by obtain ⟨curO, o1, o2, o3⟩ := hI.aO; exact ⟨curO, o1.grown hg (by intro e; cases e; exact hX2.2 rfl), o2, o3⟩), hI.aV.grown hg (by intro e; cases e; omega), hI.tch.thenn (Tch.of_grown hg) (fun x hx => by simp at hx; subst hx; exact f1.imp (fun e => List.mem_cons_of_mem _ (by rw [e]; simp)) id)⟩⟩
  · rintro L a wx ⟨v71, v72, v73, v74, v75, v76, v77, v78, v79, v80, v81, rfl, hI⟩ hL hdep hcl K hK
    obtain rfl := hI.t0 (hdep 0 (by decide))
    obtain rfl := hI.t1 (hdep 1 (by decide))
    obtain rfl := hI.t2 (hdep 2 (by decide))
    obtain rfl := hI.t3 (hdep 3 (by decide))
    obtain rfl := hI.t4 (hdep 4 (by decide))
    obtain rfl := hI.t5 (hdep 5 (by decide))
    go_simp
    exact hK _ _ ⟨_, _, _, _, _, _, v77, v78, v79, _, v81, rfl, ⟨hI.t0, hI.t1, hI.t2, hI.t3, hI.t4, hI.t5, hI.t6, hI.t7, hI.t8, fun _ => rfl, hI.t11, hI.n7, hI.aO, hI.aV, hI.tch⟩⟩
  · rintro L a wx ⟨v71, v72, v73, v74, v75, v76, v77, v78, v79, v80, v81, rfl, hI⟩ hL hdep hcl K hK
    obtain rfl := hI.t0 (hdep 0 (by decide))
    obtain rfl := hI.t1 (hdep 1 (by decide))
    obtain rfl := hI.t2 (hdep 2 (by decide))
    obtain rfl := hI.t3 (hdep 3 (by decide))
    obtain rfl := hI.t4 (hdep 4 (by decide))
    obtain rfl := hI.t5 (hdep 5 (by decide))
    obtain rfl := hI.t10 (hdep 10 (by decide))
    go_simp
    exact hK _ _ ⟨_, _, _, _, _, _, v77, v78, v79, _, _, rfl, ⟨hI.t0, hI.t1, hI.t2, hI.t3, hI.t4, hI.t5, hI.t6, hI.t7, hI.t8, hI.t10, fun _ => rfl, hI.n7, hI.aO, hI.aV, hI.tch⟩⟩
  · rintro L a wx ⟨v71, v72, v73, v74, v75, v76, v77, v78, v79, v80, v81, rfl, hI⟩ hL hdep hcl K hK
    obtain rfl := hI.t0 (hdep 0 (by decide))
    obtain rfl := hI.t1 (hdep 1 (by decide))
    obtain rfl := hI.t2 (hdep 2 (by decide))
    obtain rfl := hI.t3 (hdep 3 (by decide))
    obtain rfl := hI.t4 (hdep 4 (by decide))
    obtain rfl := hI.t5 (hdep 5 (by decide))
    obtain rfl := hI.t11 (hdep 11 (by decide))
    obtain ⟨X, c', cur', rfl, f1, f2, f3, f4, f5, f6, f7⟩ := hI.t7 (hdep 7 (by decide))
    obtain ⟨curO, o1, o2, o3⟩ := hI.aO
    obtain rfl := o2 hL
    have hX2 : X ≠ O ∧ w.heap.size + 2 ≤ X := by
      rcases f1 with e | e
      · exact ⟨(hLB2.out _ e).2, (hLB2.out _ e).1⟩
      · exact ⟨by have := hOlt.out; omega, by have := hSZ.out; omega⟩
    have c0 := (o1.cell (d * 5 + 3)).trans hq3
    have f0 := o1.frozen (d * 5 + 3)
    have HX := Lib.hid hX2
    have HF2 := Lib.hid f2
    have HAV := Lib.hid hI.aV
    have ho12 := o1.store (d * 5 + 3) (.slice (some ⟨X, 0, none⟩) (m + 1) c')
    have hv12 := hI.aV.other ⟨O, d * 5 + 3, none⟩ (by show O ≠ _; have := hBO.out; omega) (.slice (some ⟨X, 0, none⟩) (m + 1) c')
    have hx12 := f2.other ⟨O, d * 5 + 3, none⟩ (by show O ≠ _; exact fun e => hX2.1 e.symm) (.slice (some ⟨X, 0, none⟩) (m + 1) c')
    have ht12 := hI.tch.thenn (tch_cell wx ⟨O, d * 5 + 3, none⟩ (.slice (some ⟨X, 0, none⟩) (m + 1) c')) (fun x hx => by simp at hx; subst hx; exact .inl (List.mem_cons_self ..))
    go_simp
    exact hK _ _ ⟨_, _, _, _, _, _, v77, _, v79, v80, _, rfl, ⟨hI.t0, hI.t1, hI.t2, hI.t3, hI.t4, hI.t5, fun h => (by obtain ⟨NB, e1, e2, e3, e4⟩ := hI.t6 h; exact ⟨NB, e1, e2, by rw [World.size_setCell]; exact e3, fun h7 => by have := hdep 7 (by decide); rw [show L 7 = false from h7] at this; cases this⟩), fun _ => ⟨X, c', cur', rfl, f1, hx12, f3, f4, f5, f6, f7⟩, hI.t8, hI.t10, hI.t11, (fun h => by have := hdep 7 (by decide); rw [show L 7 = false from h] at this; cases this), ⟨_, ho12, fun h => Bool.noConfusion (show true = false from h), fun _ => rfl⟩, hv12, ht12⟩⟩
  · rintro a wx ⟨v71, v72, v73, v74, v75, v76, v77, v78, v79, v80, v81, rfl, hI⟩
    obtain rfl := hI.t10 rfl
    obtain rfl := hI.t11 rfl
    obtain ⟨X, c', cur', rfl, f1, f2, f3, f4, f5, -, f7⟩ := hI.t7 rfl
    obtain ⟨X2, c2', e1, rfl⟩ := hI.t8 rfl
    obtain ⟨NB, rfl, -⟩ := hI.t6 rfl
    obtain rfl := hI.t5 rfl
    obtain rfl := hI.t4 rfl
    obtain rfl := hI.t3 rfl
    obtain rfl := hI.t2 rfl
    obtain rfl := hI.t1 rfl
    obtain rfl := hI.t0 rfl
    obtain ⟨curO, hAO, -, o3⟩ := hI.aO
    obtain rfl := o3 rfl
    have htch := hI.tch
    clear hI
    have hws : WS w R L D (⟨fr.k, fr.acc ++ [v], fr.ks⟩ :: S) ys ys.length (.slice (some ⟨O, 0, none⟩) (d + 1) cap) vc wx := by
      have hT := HT.out
      have h := H.out
      have hrowN : wx.ownsRow (w.heap.size + 2) 30 5 (.slice (some ⟨X, 0, none⟩) (m + 1) c') (m + 1) (xs ++ vc) := ⟨by rw [List.length_append, HROW.out.1, hvl]; omega, .inr ⟨X, c', cur'.toArray, rfl, by rcases f1 with e | e; exact (hLB2.out _ e).1; have := hSZ.out; omega, f2, f3, f4, by simpa using f5, by simpa using f7 rfl⟩⟩
      have hbD : ∀ b ∈ O :: (Value.ownBlock (.slice al m cl)).toList, ¬ D b := fun b hb hd => by
        rcases List.mem_cons.1 hb with e | e
        · exact hT.out b (by simp [e]) hd
        · exact hT.out b (by rw [HLV.out]; simp only [List.mem_cons, List.mem_append]; exact .inr (.inl (.inl e))) hd
      have hst := htch.stay hbD
      have hfm : FrM D (w.heap.size + 2) wx ⟨fr.k, fr.acc ++ [v], fr.ks⟩ (.slice (some ⟨X, 0, none⟩) (m + 1) c') kv := by
        refine ⟨hT.hfr.kind, htch.row hT.hfr.keys (fun k hk e => ?_), xs ++ vc, ?_, fun i x hi => ?_⟩
        · rcases List.mem_cons.1 e with e | e
          · exact HKO.out (by rw [hk, e])
          · exact HLK.out k (by rw [HLV.out]; simpa using e) hk
        · rw [List.length_append, List.length_singleton, HM.out.symm]
          exact hrowN
        · have hlen : xs.length = m * 5 := HROW.out.1
          by_cases him : i < m
          · rw [List.getElem?_append_left (by rw [← HM.out]; exact him)] at hi
            rw [cell5_old hlen him]
            exact sv_to (fun _ hd _ => hd) hst x _ (HSV.out i x hi)
          · have hi2 : i = m := by
              have := (List.getElem?_eq_some_iff.1 hi).1
              rw [List.length_append, List.length_singleton, ← HM.out] at this
              omega
            subst hi2
            rw [List.getElem?_append_right (by rw [← HM.out]; exact Nat.le_refl _), ← HM.out, Nat.sub_self] at hi
            cases hi
            rw [cell5_new hlen hvl]
            exact sv_to (fun _ hd _ => hd) hst _ _ HSVV.out
      have hd := HD.out
      have := h.setTop hR hT htch (fun b hb => by rcases List.mem_cons.1 hb with e | e; exact .inr (.inl e); exact .inr (.inr (.inl (by rw [HLV.out]; simpa using e)))) (i := 3) (by omega) (fr' := ⟨fr.k, fr.acc ++ [v], fr.ks⟩) (lv' := .slice (some ⟨X, 0, none⟩) (m + 1) c') (kv' := kv) (v := .slice (some ⟨X, 0, none⟩) (m + 1) c') (by simp [frC]) (by rw [← hd]; exact hAO) hfm (fun x hx => by rw [HLV.out]; cases hx; exact f1) (fun x hx => .inl hx) (.inr rfl) (htch.rd h.rd (fun b hb => by rcases List.mem_cons.1 hb with e | e; have := hBO.out; omega; have := (hLB2.out b (by simpa using e)).1; omega)) h.len (m' := ys.length) (by omega) (by have := HF1.out; simp only [List.length_append, List.length_singleton]; omega)
      rw [HOV.out, ← hd] at this
      exact this
    have HWS := Lib.hid hws
    have hrd0 := hws.rd
    have HFR := Lib.hid (⟨_, _, _, htch⟩ : ∃ a b c, Tch a b c)
    clear hws htch f2 f7 f1 HFR
    clear hrow harr hV
    have hls0 : Hid (∀ W, Calls Tryd.prog 50 #[.int .i64 (fr.k : Int)] W fun e w' => e = .returned (.int .u8 ((lastF fr.k).toNat : Int)) ∧ w' = W) := fun W => by
      have := lastSign_any (fr.k : Int) W
      rcases HKD.out with e | e <;> rw [e] at this ⊢ <;> exact this
    obtain ⟨y1, hy1⟩ : ∃ y1, (takeF (lastF fr.k) ys).2 = y1 := ⟨_, rfl⟩
    have hyl := take_len (lastF fr.k) ys
    have hyle := take_less (lastF fr.k) ys
    rw [hy1] at hyl hyle
    have HYL := Lib.hid hyl
    have HYLE := Lib.hid hyle
    clear hyl hyle
    cases htk1 : (takeF (lastF fr.k) ys).1 with
    | true =>
      have ht1 : Hid (∀ W, RdAt W R ys → Calls Tryd.prog 49 #[.pointer (some ⟨R, 0, none⟩), .int .u8 ((lastF fr.k).toNat : Int)] W fun e w' => e = .returned (.bool true) ∧ RdAt w' R y1 ∧ W.grownBy w' (some R)) := fun W hW => by have := take_any R (lastF fr.k) ys W hW; rw [htk1, hy1] at this; exact this
      have HX1 := Lib.hid htk1
      have HY1 := Lib.hid hy1
      clear htk1 hy1
      have hls := hls0
      obtain ⟨kk, hkk⟩ : ∃ kk, kk = fr.k := ⟨_, rfl⟩
      have HQ0 := HQ.out
      rw [← hkk] at hls ht1 HQ0
      have HKK := Lib.hid hkk
      have HQ0 := Lib.hid HQ0
      clear hkk
      have HC0 : Hid ((cur.set (d * 5 + 3) (.slice (some ⟨X, 0, none⟩) (m + 1) c'))[d * 5]? = some (Value.int .i64 (kk : Int))) := by
        show _ = _
        rw [List.getElem?_set_ne (by omega)]
        exact HQ0.out
      have c0 := (hAO.cell (d * 5)).trans HC0.out
      go_wp2_with (first | (go_at_call 50; refine (hls.out _).mono ?_; rintro e w3 ⟨rfl, rfl⟩) | (go_at_call 49; refine (ht1.out _ hrd0).mono ?_; rintro e w4 ⟨rfl, hr4, hg4⟩; clear hrd0; have hA4 := hAO.grown hg4 (by intro e; cases e; have := hBO.out; omega); have c1 := (hA4.cell (d * 5)).trans HC0.out))
      refine wp_goto ?_
      show ∃ n', n' < n ∧ WJ res w R L 4 n' _ _
      have hT : Tch w3 w4 [R, w.heap.size + 1] := (Tch.of_grown hg4).mono (by simp)
      have hw2 := HWS.out.keep hT hR hr4 (HWS.out.vbl.grown hg4 (by intro e; cases e; omega)) hvl (by have := HWS.out.len; have := HYL.out; omega) (m' := y1.length + 1) (HYLE.out HX1.out)
      exact ⟨8 * y1.length + 2, by have := HN.out; have := HYLE.out HX1.out; omega, .inr ⟨_, _, _, _, _, _, frW_of, .inr (.inr (.inr (.inl ⟨rfl, _, _, rfl, hw2, by rw [HRES.out, done_closed HKD.out HX1.out, HY1.out], rfl⟩)))⟩⟩
    | false =>
      have ht1 : Hid (∀ W, RdAt W R ys → Calls Tryd.prog 49 #[.pointer (some ⟨R, 0, none⟩), .int .u8 ((lastF fr.k).toNat : Int)] W fun e w' => e = .returned (.bool false) ∧ RdAt w' R y1 ∧ W.grownBy w' (some R)) := fun W hW => by have := take_any R (lastF fr.k) ys W hW; rw [htk1, hy1] at this; exact this
      obtain ⟨y2, hy2⟩ : ∃ y2, (takeF 44 y1).2 = y2 := ⟨_, rfl⟩
      have hyl2 := take_len 44 y1
      have hyle2 := take_less 44 y1
      rw [hy2] at hyl2 hyle2
      have HYL2 := Lib.hid hyl2
      have HYLE2 := Lib.hid hyle2
      clear hyl2 hyle2
      have HX1 := Lib.hid htk1
      have HY1 := Lib.hid hy1
      clear htk1 hy1
      cases htk2 : (takeF 44 y1).1 with
      | false =>
        have ht2 : Hid (∀ W, RdAt W R y1 → Calls Tryd.prog 49 #[.pointer (some ⟨R, 0, none⟩), .int .u8 44] W fun e w' => e = .returned (.bool false) ∧ RdAt w' R y2 ∧ W.grownBy w' (some R)) := fun W hW => by have := take_any R 44 y1 W hW; rw [htk2, hy2] at this; exact this
        have HX2 := Lib.hid htk2
        clear htk2 hy2
        have hls := hls0
        obtain ⟨kk, hkk⟩ : ∃ kk, kk = fr.k := ⟨_, rfl⟩
        have HQ0 := HQ.out
        rw [← hkk] at hls ht1 HQ0
        have HQ0 := Lib.hid HQ0
        clear hkk
        have HC0 : Hid ((cur.set (d * 5 + 3) (.slice (some ⟨X, 0, none⟩) (m + 1) c'))[d * 5]? = some (Value.int .i64 (kk : Int))) := by
          show _ = _
          rw [List.getElem?_set_ne (by omega)]
          exact HQ0.out
        have c0 := (hAO.cell (d * 5)).trans HC0.out
        go_wp2_with (first | (go_at_call 50; refine (hls.out _).mono ?_; rintro e w3 ⟨rfl, rfl⟩) | (go_at_call 49; refine (ht1.out _ hrd0).mono ?_; rintro e w4 ⟨rfl, hr4, hg4⟩; clear hrd0; have hA4 := hAO.grown hg4 (by intro e; cases e; have := hBO.out; omega); have c1 := (hA4.cell (d * 5)).trans HC0.out) | (go_at_call 49; refine (ht2.out _ hr4).mono ?_; rintro e w5 ⟨rfl, hr5, hg5⟩; have HR5 := Lib.hid hr5; clear hr4 hr5; have hA5 := hA4.grown hg5 (by intro e; cases e; have := hBO.out; omega); have c2 := (hA5.cell (d * 5)).trans HC0.out))
        refine wp_goto ?_
        show ∃ n', n' < n ∧ WJ res w R L 3 n' _ _
        exact ⟨0, by have := HN.out; omega, .inl ⟨rfl, ⟨_, _, frW_of⟩, gb_trans (gb_trans HWS.out.gb hg4) hg5, (HWS.out.res.grown hg4 (by intro e; cases e; omega)).grown hg5 (by intro e; cases e; omega), HRES.out.trans (done_none HKD.out HX1.out (by rw [HY1.out]; exact HX2.out)), rfl⟩⟩
      | true =>
        have ht2 : Hid (∀ W, RdAt W R y1 → Calls Tryd.prog 49 #[.pointer (some ⟨R, 0, none⟩), .int .u8 44] W fun e w' => e = .returned (.bool true) ∧ RdAt w' R y2 ∧ W.grownBy w' (some R)) := fun W hW => by have := take_any R 44 y1 W hW; rw [htk2, hy2] at this; exact this
        have HX2 := Lib.hid htk2
        have HY2 := Lib.hid hy2
        clear htk2 hy2
        have hkd := HKD.out
        have hls := hls0
        have HQ0 := HQ.out
        rcases hkd with hk5 | hk5
        · rw [hk5] at hls ht1 HQ0
          have HK5 := Lib.hid hk5
          have HQ0 := Lib.hid HQ0
          clear hk5
          have HC0 : Hid ((cur.set (d * 5 + 3) (.slice (some ⟨X, 0, none⟩) (m + 1) c'))[d * 5]? = some (Value.int .i64 5)) := by
            show _ = _
            rw [List.getElem?_set_ne (by omega)]
            exact HQ0.out
          have c0 := (hAO.cell (d * 5)).trans HC0.out
          have hls : Hid (∀ W, Calls Tryd.prog 50 #[.int .i64 5] W fun e w' => e = .returned (.int .u8 ((lastF 5).toNat : Int)) ∧ w' = W) := hls.out
          go_wp2_with (first | (go_at_call 50; refine (hls.out _).mono ?_; rintro e w3 ⟨rfl, rfl⟩) | (go_at_call 49; refine (ht1.out _ hrd0).mono ?_; rintro e w4 ⟨rfl, hr4, hg4⟩; clear hrd0; have hA4 := hAO.grown hg4 (by intro e; cases e; have := hBO.out; omega); have c1 := (hA4.cell (d * 5)).trans HC0.out) | (go_at_call 49; refine (ht2.out _ hr4).mono ?_; rintro e w5 ⟨rfl, hr5, hg5⟩; have HR5 := Lib.hid hr5; clear hr4 hr5; have hA5 := hA4.grown hg5 (by intro e; cases e; have := hBO.out; omega); have c2 := (hA5.cell (d * 5)).trans HC0.out))
          refine wp_goto ?_
          show ∃ n', n' < n ∧ WJ res w R L 1 n' _ _
          have hT : Tch w3 w5 [R, w.heap.size + 1] := ((Tch.of_grown hg4).mono (by simp)).trans ((Tch.of_grown hg5).mono (by simp))
          have hw2 := HWS.out.keep hT hR HR5.out ((HWS.out.vbl.grown hg4 (by intro e; cases e; omega)).grown hg5 (by intro e; cases e; omega)) hvl (by have := HWS.out.len; have := HYL.out; have := HYL2.out; omega) (m' := y2.length) (by have := HYL.out; have := HYL2.out; omega)
          have hx := HX1.out
          have hy := HY1.out
          have hr := HRES.out
          have hlt := HYLE2.out HX2.out
          have hle := HYL.out
          have hx2 := HX2.out
          have hy2 := HY2.out
          rw [HK5.out] at hx hy
          rw [show lastF 5 = 93 from rfl] at hx hy
          rw [HK5.out] at hw2
          exact ⟨8 * y2.length + 1, by have := HN.out; omega, .inr ⟨_, _, _, _, _, _, frW_of, .inl ⟨rfl, hw2, by rw [hr, done_value HSL.out HK5.out hx (by rw [hy]; exact hx2), hy, hy2], rfl⟩⟩⟩
        · rw [hk5] at hls ht1 HQ0
          have HK5 := Lib.hid hk5
          have HQ0 := Lib.hid HQ0
          clear hk5
          have HC0 : Hid ((cur.set (d * 5 + 3) (.slice (some ⟨X, 0, none⟩) (m + 1) c'))[d * 5]? = some (Value.int .i64 6)) := by
            show _ = _
            rw [List.getElem?_set_ne (by omega)]
            exact HQ0.out
          have c0 := (hAO.cell (d * 5)).trans HC0.out
          have hls : Hid (∀ W, Calls Tryd.prog 50 #[.int .i64 6] W fun e w' => e = .returned (.int .u8 ((lastF 6).toNat : Int)) ∧ w' = W) := hls.out
          go_wp2_with (first | (go_at_call 50; refine (hls.out _).mono ?_; rintro e w3 ⟨rfl, rfl⟩) | (go_at_call 49; refine (ht1.out _ hrd0).mono ?_; rintro e w4 ⟨rfl, hr4, hg4⟩; clear hrd0; have hA4 := hAO.grown hg4 (by intro e; cases e; have := hBO.out; omega); have c1 := (hA4.cell (d * 5)).trans HC0.out) | (go_at_call 49; refine (ht2.out _ hr4).mono ?_; rintro e w5 ⟨rfl, hr5, hg5⟩; have HR5 := Lib.hid hr5; clear hr4 hr5; have hA5 := hA4.grown hg5 (by intro e; cases e; have := hBO.out; omega); have c2 := (hA5.cell (d * 5)).trans HC0.out))
          refine wp_goto ?_
          show ∃ n', n' < n ∧ WJ res w R L 5 n' _ _
          have hT : Tch w3 w5 [R, w.heap.size + 1] := ((Tch.of_grown hg4).mono (by simp)).trans ((Tch.of_grown hg5).mono (by simp))
          have hw2 := HWS.out.keep hT hR HR5.out ((HWS.out.vbl.grown hg4 (by intro e; cases e; omega)).grown hg5 (by intro e; cases e; omega)) hvl (by have := HWS.out.len; have := HYL.out; have := HYL2.out; omega) (m' := y2.length) (by have := HYL.out; have := HYL2.out; omega)
          have hx := HX1.out
          have hy := HY1.out
          have hr := HRES.out
          have hlt := HYLE2.out HX2.out
          have hle := HYL.out
          have hx2 := HX2.out
          have hy2 := HY2.out
          rw [HK5.out] at hx hy
          rw [show lastF 6 = 125 from rfl] at hx hy
          rw [HK5.out] at hw2
          exact ⟨8 * y2.length + 2, by have := HN.out; omega, .inr ⟨_, _, _, _, _, _, frW_of, .inr (.inr (.inl ⟨rfl, _, _, rfl, rfl, hw2, by rw [hr, done_member HK5.out hx (by rw [hy]; exact hx2), hy, hy2], rfl⟩))⟩⟩
end Go.Proofs.YtiadfijeglbdlaaDoor

namespace Go.Proofs.YtiadfijeglbdlaaDoor
open Go.RowKit

structure Inv15 (w wr : World) (R O d cap : Nat) (cur fc : List Value) (tp : Value) (u : Nat → Value) (L : Nat → Bool) (v43 v44 v45 v46 v47 v48 v49 v50 v51 v52 v53 v4 : Value) (wx : World) : Prop where
  t0 : L 0 = true → v43 = (.slice (some ⟨O, 0, none⟩) (d + 1) cap)
  t1 : L 1 = true → v44 = (.slice (some ⟨O, 0, none⟩) (d + 1) cap)
  t2 : L 2 = true → v45 = .int .i64 ((d : Int) + 1)
  t3 : L 3 = true → v46 = .int .i64 (d : Int)
  t4 : L 4 = true → v47 = .pointer (some ⟨O, d * 5, none⟩)
  t5 : L 5 = true → v48 = .agg fc.toArray
  t6 : L 6 = true → v49 = (.slice (some ⟨O, 0, none⟩) (d + 1) cap)
  t7 : L 7 = true → v50 = (.slice (some ⟨O, 0, none⟩) (d + 1) cap)
  t8 : L 8 = true → v51 = .int .i64 ((d : Int) + 1)
  t9 : L 9 = true → v52 = .int .i64 (d : Int)
  t10 : L 10 = true → v53 = (.slice (some ⟨O, 0, none⟩) d cap)
  t12 : L 12 = true → v4 = (.slice (some ⟨O, 0, none⟩) d cap)
  e4 : L 12 = false → v4 = (.slice (some ⟨O, 0, none⟩) (d + 1) cap)
  aV : ∃ zs, Arr wx (w.heap.size + 1) 30 zs ∧ zs.length = 5 ∧ (L 11 = true → zs = fc)
  aO : Arr wx O 30 cur
  gw : wr.grownBy wx (some (w.heap.size + 1))

set_option maxRecDepth 100000 in
set_option maxHeartbeats 6400000 in
theorem pass2 (res : Option JV) (w : World) (R L n : Nat) (hR : R < w.heap.size) (hL : L ≤ 1048576) (ov tp : Value) (a : Act) (wr : World) (r Y : Code) (hf : findLabel (bodyC Tryd.f29) 2 = some (.seq .skip (.seq r Y))) (hfr : FrW R w.heap.size ov tp a) (D : Nat → Prop) (v : JV) (S : List Frm) (ys : List UInt8) (vc : List Value) (hv : SV D wr v vc) (h : WS w R L D S ys (ys.length + 1) ov vc wr) (hres : res = doneF S v ys) (hn : 8 * ys.length + 1 ≤ n) :
    r.wp Tryd.prog (Exit.then (Y.wp Tryd.prog (WQ res w R L n)) (WQ res w R L n)) a wr := by
  cases S with
  | nil => exact pass2nil res w R L n hR hL ov tp a wr r Y hf hfr D v ys vc hv h hres
  | cons fr S => exact pass2cons res w R L n hR hL ov tp a wr r Y hf hfr D v fr S ys vc hv h hres hn
set_option maxRecDepth 100000 in
set_option maxHeartbeats 6400000 in
theorem pass4 (res : Option JV) (w : World) (R L n : Nat) (hR : R < w.heap.size) (hL : L ≤ 1048576) (ov tp : Value) (a : Act) (wr : World) (r Y : Code) (hf : findLabel (bodyC Tryd.f29) 4 = some (.seq .skip (.seq r Y))) (hfr : FrW R w.heap.size ov tp a) (D : Nat → Prop) (fr : Frm) (S : List Frm) (ys : List UInt8) (vc : List Value) (h : WS w R L D (fr :: S) ys (ys.length + 1) ov vc wr) (hres : res = atClosed fr S ys) (hn : 8 * ys.length + 2 ≤ n) :
    r.wp Tryd.prog (Exit.then (Y.wp Tryd.prog (WQ res w R L n)) (WQ res w R L n)) a wr := by
  unfold bodyC Tryd.f29 at hf
  change some (Code.seq Code.skip (Code.seq _ _)) = _ at hf
  cases hf
  obtain ⟨u, rfl⟩ := hfr
  obtain ⟨O, cap, cur, lead, lv, kv, css, bl, ht⟩ := h.opn.top
  have hov := ht.hov
  have hBO : Hid (w.heap.size + 2 ≤ O) := ht.lo
  have hvl := h.vlen
  have hV := h.vbl
  have harr := ht.harr
  have hcap := ht.cap1
  have hq := ht.cell
  have H := Lib.hid h
  have HT := Lib.hid ht
  have HRES := Lib.hid hres
  have HN := Lib.hid hn
  obtain ⟨d, hd⟩ : ∃ d, d = S.length := ⟨_, rfl⟩
  have hS8 : d < 8 := by have := h.deep; simp only [List.length_cons] at this; omega
  obtain ⟨fc, hfc⟩ : ∃ fc, fc = frC fr lv kv := ⟨_, rfl⟩
  rw [← hd] at hov hq hcap
  rw [← hfc] at hq
  have HD := Lib.hid hd
  have HFC := Lib.hid hfc
  have FL : Hid (fc.length = 5) := by show _ = _; rw [hfc]; rfl
  have FONE : Hid (∀ u ∈ fc, u.oneCell' = true) := pv_one_cell (sv_pv _ fc (by rw [hfc]; exact ht.closes.2))
  have HQ : Hid (∀ j v, fc[j]? = some v → cur[d * 5 + j]? = some v) := fun j v hj => by
    have hj5 : j < 5 := by have := (List.getElem?_eq_some_iff.1 hj).1; rw [FL.out] at this; exact this
    rw [hq j hj5]
    exact hj
  clear h hres hn ht hd hq hfc
  rw [hov]
  have hovs := hov
  clear hov
  refine wp_frW frW_of ?_
  rintro a ⟨u, rfl⟩
  refine wp_region_steps [[], [], [1], [2], [0, 3], [4], [], [], [7], [8], [6, 9], [5], [10, 11, 0, 1, 2, 3, 4, 5, 6, 7, 8, 9]] (by kernel_rfl) (by kernel_rfl) (fun L a wx => ∃ v43 v44 v45 v46 v47 v48 v49 v50 v51 v52 v53 v4, a = ⟨#[.pointer (some ⟨R, 0, none⟩), u 1, .pointer (some ⟨w.heap.size, 0, none⟩), u 3, v4, tp, .pointer (some ⟨w.heap.size + 1, 0, none⟩), u 7, u 8, u 9, u 10, u 11, u 12, u 13, u 14, u 15, u 16, u 17, u 18, u 19, u 20, u 21, u 22, u 23, u 24, u 25, u 26, u 27, u 28, u 29, u 30, u 31, u 32, u 33, u 34, u 35, u 36, u 37, u 38, u 39, u 40, u 41, u 42, v43, v44, v45, v46, v47, v48, v49, v50, v51, v52, v53, u 54, u 55, u 56, u 57, u 58, u 59, u 60, u 61, u 62, u 63, u 64, u 65, u 66, u 67, u 68, u 69, u 70, u 71, u 72, u 73, u 74, u 75, u 76, u 77, u 78, u 79, u 80, u 81, u 82, u 83, u 84, u 85, u 86, u 87, u 88, u 89, u 90, u 91, u 92, u 93, u 94, u 95, u 96, u 97], []⟩ ∧ Inv15 w wr R O d cap cur fc tp u L v43 v44 v45 v46 v47 v48 v49 v50 v51 v52 v53 v4 wx) ?_ ⟨?_, ?_, ?_, ?_, ?_, ?_, ?_, ?_, ?_, ?_, ?_, ?_, ?_, trivial⟩ ?_
  · refine ⟨_, _, _, _, _, _, _, _, _, _, _, _, rfl, ⟨?_, ?_, ?_, ?_, ?_, ?_, ?_, ?_, ?_, ?_, ?_, ?_, fun _ => rfl, ⟨_, hV.drew, hvl, fun h => absurd h (by decide)⟩, harr.drew, ⟨rfl, rfl, rfl, Nat.le_refl _, fun _ _ _ => rfl⟩⟩⟩ <;> (intro h; exact absurd h (by decide))
  · rintro L a wx ⟨v43, v44, v45, v46, v47, v48, v49, v50, v51, v52, v53, v4, rfl, hI⟩ hL hdep hcl K hK
    have h12 : L 12 = false := by cases h12 : L 12 with | false => rfl | true => exact absurd (hcl 12 (by decide) h12 0 (by decide)) (by rw [hL]; decide)
    obtain rfl := hI.e4 h12
    go_simp
    exact hK _ _ ⟨_, v44, v45, v46, v47, v48, v49, v50, v51, v52, v53, _, rfl, ⟨fun _ => rfl, hI.t1, hI.t2, hI.t3, hI.t4, hI.t5, hI.t6, hI.t7, hI.t8, hI.t9, hI.t10, hI.t12, fun _ => rfl, hI.aV, hI.aO, hI.gw⟩⟩
  · rintro L a wx ⟨v43, v44, v45, v46, v47, v48, v49, v50, v51, v52, v53, v4, rfl, hI⟩ hL hdep hcl K hK
    have h12 : L 12 = false := by cases h12 : L 12 with | false => rfl | true => exact absurd (hcl 12 (by decide) h12 1 (by decide)) (by rw [hL]; decide)
    obtain rfl := hI.e4 h12
    go_simp
    exact hK _ _ ⟨v43, _, v45, v46, v47, v48, v49, v50, v51, v52, v53, _, rfl, ⟨hI.t0, fun _ => rfl, hI.t2, hI.t3, hI.t4, hI.t5, hI.t6, hI.t7, hI.t8, hI.t9, hI.t10, hI.t12, fun _ => rfl, hI.aV, hI.aO, hI.gw⟩⟩
  · rintro L a wx ⟨v43, v44, v45, v46, v47, v48, v49, v50, v51, v52, v53, v4, rfl, hI⟩ hL hdep hcl K hK
    obtain rfl := hI.t1 (hdep 1 (by decide))
    go_simp
    exact hK _ _ ⟨v43, _, _, v46, v47, v48, v49, v50, v51, v52, v53, v4, rfl, ⟨hI.t0, hI.t1, fun _ => rfl, hI.t3, hI.t4, hI.t5, hI.t6, hI.t7, hI.t8, hI.t9, hI.t10, hI.t12, hI.e4, hI.aV, hI.aO, hI.gw⟩⟩
  · rintro L a wx ⟨v43, v44, v45, v46, v47, v48, v49, v50, v51, v52, v53, v4, rfl, hI⟩ hL hdep hcl K hK
    obtain rfl := hI.t2 (hdep 2 (by decide))
    have hwr : IntKind.i64.wrap (d : Int) = (d : Int) := by rw [IntKind.wrap_i64]; omega
    go_simp
    exact hK _ _ ⟨v43, v44, _, _, v47, v48, v49, v50, v51, v52, v53, v4, rfl, ⟨hI.t0, hI.t1, hI.t2, fun _ => rfl, hI.t4, hI.t5, hI.t6, hI.t7, hI.t8, hI.t9, hI.t10, hI.t12, hI.e4, hI.aV, hI.aO, hI.gw⟩⟩
  · rintro L a wx ⟨v43, v44, v45, v46, v47, v48, v49, v50, v51, v52, v53, v4, rfl, hI⟩ hL hdep hcl K hK
    obtain rfl := hI.t0 (hdep 0 (by decide))
    obtain rfl := hI.t3 (hdep 3 (by decide))
    have hmm : (d : Int) < (d : Int) + 1 := by omega
    go_simp
    exact hK _ _ ⟨_, v44, v45, _, _, v48, v49, v50, v51, v52, v53, v4, rfl, ⟨hI.t0, hI.t1, hI.t2, hI.t3, fun _ => rfl, hI.t5, hI.t6, hI.t7, hI.t8, hI.t9, hI.t10, hI.t12, hI.e4, hI.aV, hI.aO, hI.gw⟩⟩
  · rintro L a wx ⟨v43, v44, v45, v46, v47, v48, v49, v50, v51, v52, v53, v4, rfl, hI⟩ hL hdep hcl K hK
    obtain rfl := hI.t4 (hdep 4 (by decide))
    refine ow_load 30 _ rfl O (d * 5) rfl 30 cur fc hI.aO HQ.out _ Tryd.underlying30 rfl (by rw [FL.out]; kernel_rfl) ?_
    exact hK _ _ ⟨v43, v44, v45, v46, _, _, v49, v50, v51, v52, v53, v4, rfl, ⟨hI.t0, hI.t1, hI.t2, hI.t3, hI.t4, fun _ => rfl, hI.t6, hI.t7, hI.t8, hI.t9, hI.t10, hI.t12, hI.e4, hI.aV, hI.aO, hI.gw⟩⟩
  · rintro L a wx ⟨v43, v44, v45, v46, v47, v48, v49, v50, v51, v52, v53, v4, rfl, hI⟩ hL hdep hcl K hK
    have h12 : L 12 = false := by cases h12 : L 12 with | false => rfl | true => exact absurd (hcl 12 (by decide) h12 6 (by decide)) (by rw [hL]; decide)
    obtain rfl := hI.e4 h12
    go_simp
    exact hK _ _ ⟨v43, v44, v45, v46, v47, v48, _, v50, v51, v52, v53, _, rfl, ⟨hI.t0, hI.t1, hI.t2, hI.t3, hI.t4, hI.t5, fun _ => rfl, hI.t7, hI.t8, hI.t9, hI.t10, hI.t12, fun _ => rfl, hI.aV, hI.aO, hI.gw⟩⟩
  · rintro L a wx ⟨v43, v44, v45, v46, v47, v48, v49, v50, v51, v52, v53, v4, rfl, hI⟩ hL hdep hcl K hK
    have h12 : L 12 = false := by cases h12 : L 12 with | false => rfl | true => exact absurd (hcl 12 (by decide) h12 7 (by decide)) (by rw [hL]; decide)
    obtain rfl := hI.e4 h12
    go_simp
    exact hK _ _ ⟨v43, v44, v45, v46, v47, v48, v49, _, v51, v52, v53, _, rfl, ⟨hI.t0, hI.t1, hI.t2, hI.t3, hI.t4, hI.t5, hI.t6, fun _ => rfl, hI.t8, hI.t9, hI.t10, hI.t12, fun _ => rfl, hI.aV, hI.aO, hI.gw⟩⟩
  · rintro L a wx ⟨v43, v44, v45, v46, v47, v48, v49, v50, v51, v52, v53, v4, rfl, hI⟩ hL hdep hcl K hK
    obtain rfl := hI.t7 (hdep 7 (by decide))
    go_simp
    exact hK _ _ ⟨v43, v44, v45, v46, v47, v48, v49, _, _, v52, v53, v4, rfl, ⟨hI.t0, hI.t1, hI.t2, hI.t3, hI.t4, hI.t5, hI.t6, hI.t7, fun _ => rfl, hI.t9, hI.t10, hI.t12, hI.e4, hI.aV, hI.aO, hI.gw⟩⟩
  · rintro L a wx ⟨v43, v44, v45, v46, v47, v48, v49, v50, v51, v52, v53, v4, rfl, hI⟩ hL hdep hcl K hK
    obtain rfl := hI.t8 (hdep 8 (by decide))
    have hwr : IntKind.i64.wrap (d : Int) = (d : Int) := by rw [IntKind.wrap_i64]; omega
    go_simp
    exact hK _ _ ⟨v43, v44, v45, v46, v47, v48, v49, v50, _, _, v53, v4, rfl, ⟨hI.t0, hI.t1, hI.t2, hI.t3, hI.t4, hI.t5, hI.t6, hI.t7, hI.t8, fun _ => rfl, hI.t10, hI.t12, hI.e4, hI.aV, hI.aO, hI.gw⟩⟩
  · rintro L a wx ⟨v43, v44, v45, v46, v47, v48, v49, v50, v51, v52, v53, v4, rfl, hI⟩ hL hdep hcl K hK
    obtain rfl := hI.t6 (hdep 6 (by decide))
    obtain rfl := hI.t9 (hdep 9 (by decide))
    have hcp := hcap
    have hmm : (d : Int) ≤ (d : Int) + 1 := by omega
    have hmc : (d : Int) ≤ (cap : Int) := by omega
    go_simp
    exact hK _ _ ⟨v43, v44, v45, v46, v47, v48, _, v50, v51, _, _, v4, rfl, ⟨hI.t0, hI.t1, hI.t2, hI.t3, hI.t4, hI.t5, hI.t6, hI.t7, hI.t8, hI.t9, fun _ => rfl, hI.t12, hI.e4, hI.aV, hI.aO, hI.gw⟩⟩
  · rintro L a wx ⟨v43, v44, v45, v46, v47, v48, v49, v50, v51, v52, v53, v4, rfl, hI⟩ hL hdep hcl K hK
    obtain rfl := hI.t5 (hdep 5 (by decide))
    obtain ⟨zs, z1, z2, z3⟩ := hI.aV
    refine ow_store 30 _ _ rfl (w.heap.size + 1) 0 rfl fc rfl 30 zs z1 (by rw [FL.out]; kernel_rfl) (by rw [FL.out, z2]; omega) FONE.out ?_
    intro w' hA hg hs
    rw [whole_store _ _ (by rw [z2, FL.out])] at hA
    exact hK _ _ ⟨v43, v44, v45, v46, v47, _, v49, v50, v51, v52, v53, v4, rfl, ⟨hI.t0, hI.t1, hI.t2, hI.t3, hI.t4, hI.t5, hI.t6, hI.t7, hI.t8, hI.t9, hI.t10, hI.t12, hI.e4, ⟨fc, hA, FL.out, fun _ => rfl⟩, hI.aO.grown hg (by intro e; cases e; have := hBO.out; omega), gb_trans hI.gw hg⟩⟩
  · rintro L a wx ⟨v43, v44, v45, v46, v47, v48, v49, v50, v51, v52, v53, v4, rfl, hI⟩ hL hdep hcl K hK
    obtain rfl := hI.t10 (hdep 10 (by decide))
    obtain rfl := hI.t0 (hdep 0 (by decide))
    obtain rfl := hI.t1 (hdep 1 (by decide))
    obtain rfl := hI.t2 (hdep 2 (by decide))
    obtain rfl := hI.t3 (hdep 3 (by decide))
    obtain rfl := hI.t4 (hdep 4 (by decide))
    obtain rfl := hI.t5 (hdep 5 (by decide))
    obtain rfl := hI.t6 (hdep 6 (by decide))
    obtain rfl := hI.t7 (hdep 7 (by decide))
    obtain rfl := hI.t8 (hdep 8 (by decide))
    obtain rfl := hI.t9 (hdep 9 (by decide))
    go_simp
    exact hK _ _ ⟨_, _, _, _, _, _, _, _, _, _, _, _, rfl, ⟨hI.t0, hI.t1, hI.t2, hI.t3, hI.t4, hI.t5, hI.t6, hI.t7, hI.t8, hI.t9, hI.t10, fun _ => rfl, fun h => Bool.noConfusion (show true = false from h), hI.aV, hI.aO, hI.gw⟩⟩
  · rintro a wx ⟨v43, v44, v45, v46, v47, v48, v49, v50, v51, v52, v53, v4, rfl, hI⟩
    obtain rfl := hI.t12 rfl
    obtain ⟨zs, z1, z2, z3⟩ := hI.aV
    obtain rfl := z3 rfl
    have hgw := hI.gw
    clear hI
    have hT := HT.out
    have h := H.out
    have hd := HD.out
    have hcl2 := hT.closes
    have htch : Tch wr wx [w.heap.size + 1] := (Tch.of_grown hgw).mono (by simp)
    have hlo := hT.lt
    have hDlo : ∀ b, (D b ∨ lv.ownBlock = some b ∨ kv.ownBlock = some b) → w.heap.size + 2 ≤ b ∧ b < wr.heap.size := fun b hb => by
      rcases hb with e | e | e
      · exact h.dlo b e
      · exact hlo b (by simp [e])
      · exact hlo b (by simp [Option.mem_toList.2 e])
    have hws : WS w R L (fun b => D b ∨ lv.ownBlock = some b ∨ kv.ownBlock = some b) S ys (ys.length + 1) (.slice (some ⟨O, 0, none⟩) d cap) zs wx := {
      gb := gb_new h.gb hgw (by omega)
      rd := h.rd.kept hgw (by intro k hk; cases hk; omega)
      res := h.res.grown hgw (by simp)
      vbl := z1
      vlen := FL.out
      dlo := fun b hb => ⟨(hDlo b hb).1, Nat.lt_of_lt_of_le (hDlo b hb).2 hgw.size⟩
      opn := by
        have := hcl2.1.tch htch (by intro b hb; simp at hb; omega) (fun b hb => (hDlo b hb).1)
        rw [← hd] at this
        exact this
      few := fun f hf => h.few f (List.mem_cons_of_mem _ hf)
      deep := by have := h.deep; simp only [List.length_cons] at this; omega
      len := h.len }
    have hsv := sv_to (S' := fun b => D b ∨ lv.ownBlock = some b ∨ kv.ownBlock = some b) (fun _ hb _ => hb) (htch.stay (fun b hb hd2 => by simp at hb; have := (hDlo b hd2).1; omega)) _ _ hcl2.2
    rw [← HFC.out] at hsv
    clear hd hcl2 hT h hlo hDlo htch hgw
    go_upto_region 16 with fail
    refine wp_label ?_
    rename_i hK
    refine hK _ _ (wp_seq ?_)
    exact pass2 res w R L n hR hL _ _ _ _ _ _ rfl frW_of _ _ S ys zs hsv hws (by rw [HRES.out]; rfl) (by have := HN.out; omega)

theorem wq_jumps {res : Option JV} {w : World} {R L n : Nat} {e : Exit} {a : Act} {wr : World} (h : WQ res w R L n e a wr) : jumps (fun l a wr => ∃ n', WJ res w R L l n' a wr) (bodyPost Tryd.prog Tryd.f29 (WholeRes res w R)) e a wr := by
  cases e with
  | goto l => obtain ⟨n', -, h'⟩ := h; exact ⟨n', h'⟩
  | _ => exact h
set_option maxRecDepth 100000 in
set_option maxHeartbeats 6400000 in
theorem whole_any (R : Nat) (xs : List UInt8) (w : World) (h : RdAt w R xs) (hT : Tabs w) (hlim : xs.length ≤ 1048576) :
    Calls Tryd.prog 29 #[.pointer (some ⟨R, 0, none⟩)] w (WholeRes (atValue [] xs) w R) := by
  have hR := h.lt
  have htab : ∀ W, w.grownBy W (some R) → Tabs W := fun W hW => hT.past h hW
  obtain ⟨L, hL⟩ : ∃ L, L = xs.length := ⟨_, rfl⟩
  obtain ⟨res, hres⟩ : ∃ res, res = atValue [] xs := ⟨_, rfl⟩
  rw [← hres]
  have HTAB := Lib.hid htab
  have H := Lib.hid h
  have HRES := Lib.hid hres
  have HL := Lib.hid hL
  clear htab h hres hT
  go_enter Tryd.func29, Tryd.ntmps29
  go_wp2
  have hB1 : Below w.heap.size w (w.alloc (.cells zC.toArray 30)) := (Below.refl _ _).alloc (Nat.le_refl _) _
  have hB2 : Below w.heap.size w ((w.alloc (.cells zC.toArray 30)).alloc (.cells zC.toArray 30)) := hB1.alloc (by simp) _
  have hA0 := Arr.new w 30 zC
  have hA1 := Arr.new (w.alloc (.cells zC.toArray 30)) 30 zC
  have hA0' := hA0.kept ((Below.refl _ _).alloc (Nat.le_refl _) (.cells zC.toArray 30))
  rw [World.size_alloc] at hA1
  have hws : WS w R L (fun _ => False) [] xs xs.length (.slice none 0 0) zC ((w.alloc (.cells zC.toArray 30)).alloc (.cells zC.toArray 30)) := {
    gb := gb hB2 _
    rd := H.out.kept (gb hB2 none) (by simp)
    res := hA0'
    vbl := hA1
    vlen := rfl
    dlo := fun _ hb => hb.elim
    opn := ⟨[], [], ⟨rfl, rfl⟩, World.ownsRow_nil _ _ _ _, by simp [Value.ownBlock], by simp [Value.ownBlock]⟩
    few := fun _ hf => by simp at hf
    deep := by simp
    len := by have := HL.out; omega }
  have HWS := Lib.hid hws
  clear hws hA0 hA1 hA0' hB1 hB2
  refine wp_scope_six (WJ res w R L) rfl rfl rfl rfl rfl rfl (fun l n a w h => h.lt) ?_ ?_ ?_ ?_ ?_ ?_ ?_
  · refine wp_mono (Q := WQ res w R L (8 * xs.length + 1)) ?_ (fun e a w h => wq_jumps h)
    go_upto_region 5 with fail
    refine wp_label ?_
    rename_i hK
    refine hK _ _ (wp_seq ?_)
    exact pass1 res w R L _ hR (by have := HL.out; omega) _ _ _ _ _ _ rfl frW_of HTAB.out _ [] xs _ HWS.out HRES.out (Nat.le_refl _)
  · rintro n a wr (⟨hl, _⟩ | ⟨D, S, ys, ov, tp, vc, hfr, ⟨hl, _⟩ | ⟨_, k, hk, rfl, hw, hr, hn⟩ | ⟨hl, _⟩ | ⟨hl, _⟩ | ⟨hl, _⟩⟩)
    · omega
    · omega
    · exact wp_seq (wp_skip (wp_seq (pass0 res w R L n hR (by have := HL.out; omega) _ _ _ _ _ _ rfl hfr D S ys k hk hw hr (by omega))))
    · omega
    · omega
    · omega
  · rintro n a wr (⟨hl, _⟩ | ⟨D, S, ys, ov, tp, vc, hfr, ⟨_, hw, hr, hn⟩ | ⟨hl, _⟩ | ⟨hl, _⟩ | ⟨hl, _⟩ | ⟨hl, _⟩⟩)
    · omega
    · exact wp_seq (wp_skip (wp_seq (pass1 res w R L n hR (by have := HL.out; omega) _ _ _ _ _ _ rfl hfr HTAB.out D S ys vc hw hr (by omega))))
    · omega
    · omega
    · omega
    · omega
  · rintro n a wr (⟨hl, _⟩ | ⟨D, S, ys, ov, tp, vc, hfr, ⟨hl, _⟩ | ⟨hl, _⟩ | ⟨hl, _⟩ | ⟨hl, _⟩ | ⟨_, v, hv, hw, hr, hn⟩⟩)
    · omega
    · omega
    · omega
    · omega
    · omega
    · exact wp_seq (wp_skip (wp_seq (pass2 res w R L n hR (by have := HL.out; omega) _ _ _ _ _ _ rfl hfr D v S ys vc hv hw hr (by omega))))
  · rintro n a wr (⟨_, ⟨ov, tp, hfr⟩, hgb, hA, hr, hn⟩ | ⟨D, S, ys, ov, tp, vc, hfr, ⟨hl, _⟩ | ⟨hl, _⟩ | ⟨hl, _⟩ | ⟨hl, _⟩ | ⟨hl, _⟩⟩)
    · exact wp_seq (wp_skip (wp_seq (pass3 res w R L n _ _ _ _ _ _ rfl hfr hgb hA hr)))
    · omega
    · omega
    · omega
    · omega
    · omega
  · rintro n a wr (⟨hl, _⟩ | ⟨D, S, ys, ov, tp, vc, hfr, ⟨hl, _⟩ | ⟨hl, _⟩ | ⟨hl, _⟩ | ⟨_, fr, S', rfl, hw, hr, hn⟩ | ⟨hl, _⟩⟩)
    · omega
    · omega
    · omega
    · omega
    · exact wp_seq (wp_skip (wp_seq (pass4 res w R L n hR (by have := HL.out; omega) _ _ _ _ _ _ rfl hfr D fr S' ys vc hw hr (by omega))))
    · omega
  · rintro n a wr (⟨hl, _⟩ | ⟨D, S, ys, ov, tp, vc, hfr, ⟨hl, _⟩ | ⟨hl, _⟩ | ⟨_, fr, S', rfl, hk, hw, hr, hn⟩ | ⟨hl, _⟩ | ⟨hl, _⟩⟩)
    · omega
    · omega
    · omega
    · exact wp_seq (wp_skip (wp_seq (pass5 res w R L n hR (by have := HL.out; omega) _ _ _ _ _ _ rfl hfr D fr S' ys vc hk hw hr (by omega))))
    · omega
    · omega
end Go.Proofs.YtiadfijeglbdlaaDoor

namespace Go.Proofs.YtiadfijeglbdlaaDoor
open Go.RowKit

mutual
/-- all that a value holds -/
def totV : JV → Nat
  | .mk _ s _ l ks => 1 + s.length + totK ks + totL l
def totL : List JV → Nat
  | [] => 0
  | v :: r => totV v + totL r
def totK : List (List UInt8) → Nat
  | [] => 0
  | k :: r => 1 + k.length + totK r
end
theorem totK_mem : ∀ (ks : List (List UInt8)), ks.length ≤ totK ks ∧ ∀ k ∈ ks, k.length ≤ totK ks
  | [] => ⟨by simp, by simp⟩
  | k :: r => by
    have := totK_mem r
    unfold totK
    refine ⟨by rw [List.length_cons]; omega, fun x hx => ?_⟩
    rcases List.mem_cons.1 hx with e | e
    · rw [e]; omega
    · have := this.2 x e; omega
mutual
theorem tot_small : ∀ (v : JV) (m : Nat), totV v ≤ m → smallV v m ∧ fewV v m ∧ wtV v ≤ totV v
  | .mk k s n l ks, m, h => by
    unfold totV at h
    have hk := totK_mem ks
    have hl := tot_smallL l m (by omega)
    unfold smallV fewV wtV totV
    exact ⟨⟨by omega, fun x hx => by have := hk.2 x hx; omega, hl.1⟩, ⟨by have := hl.2.2.1; omega, by omega, hl.2.1⟩, by have := hl.2.2.2; omega⟩
theorem tot_smallL : ∀ (l : List JV) (m : Nat), totL l ≤ m → smallL l m ∧ fewL l m ∧ l.length ≤ totL l ∧ wtS l ≤ totL l
  | [], m, h => by unfold smallL fewL wtS; simp
  | v :: r, m, h => by
    unfold totL at h
    have h1 := tot_small v m (by omega)
    have h2 := tot_smallL r m (by omega)
    have h3 : 1 ≤ totV v := by cases v; unfold totV; omega
    unfold smallL fewL wtS totL
    exact ⟨⟨h1.1, h2.1⟩, ⟨h1.2.1, h2.2.1⟩, by rw [List.length_cons]; omega, by omega⟩
end
theorem rune_len3 (n : Nat) (h : n < 65536) : (runeF n).length ≤ 3 := by
  unfold runeF
  split
  · simp
  · split
    · simp
    · simp
theorem str_out : ∀ (f : Nat) (b s r : List UInt8), strF f b = some (s, r) → s.length + r.length < b.length := by
  intro f
  induction f with
  | zero => intro b s r h; simp [strF] at h
  | succ f ih =>
    intro b s r h
    have ihm : ∀ (t : List UInt8) (p : List UInt8), (strF f t).map (fun (s, q) => (p ++ s, q)) = some (s, r) → s.length + r.length < t.length + p.length := by
      intro t p hk
      cases ht : strF f t with
      | none => rw [ht] at hk; cases hk
      | some z =>
        obtain ⟨s1, r1⟩ := z
        rw [ht] at hk
        simp only [Option.map_some, Option.some.injEq, Prod.mk.injEq] at hk
        obtain ⟨rfl, rfl⟩ := hk
        have := ih t s1 r1 ht
        rw [List.length_append]
        omega
    cases b with
    | nil => simp [strF] at h
    | cons c b =>
      rw [strF_cons] at h
      rw [List.length_cons]
      split at h
      · cases h
      · split at h
        · cases h
          simp
        · split at h
          · have := ihm b [c] h
            simp only [List.length_singleton] at this
            omega
          · unfold escT at h
            cases b with
            | nil => simp at h
            | cons d b =>
              rw [List.length_cons]
              simp only at h
              split at h
              · unfold digF at h
                cases hf : fourF b with
                | none => rw [hf] at h; cases h
                | some z =>
                  obtain ⟨n, r2⟩ := z
                  have h2 := four_len b n r2 hf
                  have h64 := four_lt b n r2 hf
                  rw [hf] at h
                  simp only at h
                  split at h
                  · unfold pairF at h
                    cases hm : mustF [92, 117] r2 with
                    | none => rw [hm] at h; cases h
                    | some r3 =>
                      have h3 := must_len _ _ _ hm
                      rw [hm] at h
                      simp only at h
                      cases hf2 : fourF r3 with
                      | none => rw [hf2] at h; cases h
                      | some z =>
                        obtain ⟨m, r4⟩ := z
                        have h4 := four_len r3 m r4 hf2
                        rw [hf2] at h
                        simp only at h
                        split at h
                        · have := ihm r4 (runeF (65536 + 1024 * (n - 55296) + (m - 56320))) h
                          have := rune_len (65536 + 1024 * (n - 55296) + (m - 56320))
                          omega
                        · cases h
                  · split at h
                    · cases h
                    · have := ihm r2 (runeF n) h
                      have := rune_len3 n h64
                      omega
              · cases ho : oneF d with
                | none => rw [ho] at h; cases h
                | some x =>
                  rw [ho] at h
                  simp only at h
                  have := ihm b [x] h
                  simp only [List.length_singleton] at this
                  omega
theorem stringG_out (b s r : List UInt8) (h : stringG b = some (s, r)) : s.length + r.length + 1 < b.length := by
  unfold stringG at h
  cases hm : mustF [34] b with
  | none => rw [hm] at h; cases h
  | some t =>
    have h1 := must_len _ _ _ hm
    rw [hm] at h
    have := str_out _ _ _ _ h
    simp only [List.length_singleton] at h1
    omega
/-- what is told is no more than what was read -/
theorem value_out : ∀ f : Nat, (∀ most b x r, valueG f most b = some (x, r) → totV x + r.length ≤ b.length) ∧ (∀ most b l r, itemsG f most b = some (l, r) → totL l + r.length ≤ b.length) ∧ (∀ most b l ks r, membersG f most b = some (l, ks, r) → totL l + totK ks + r.length ≤ b.length) := by
  intro f
  induction f with
  | zero => exact ⟨fun _ _ _ _ h => by simp [valueG] at h, fun _ _ _ _ h => by simp [itemsG] at h, fun _ _ _ _ _ h => by simp [membersG] at h⟩
  | succ f ih =>
    obtain ⟨ihv, ihi, ihm⟩ := ih
    refine ⟨?_, ?_, ?_⟩
    · intro most b x r h
      have hbl := blanks_len b
      unfold valueG at h
      cases hb : blanksF b with
      | nil => rw [hb] at h; cases h
      | cons c t =>
        rw [hb] at h hbl
        rw [List.length_cons] at hbl
        have no : ∀ (s : List UInt8) (k : Int), 0 < s.length → (mustF s (c :: t)).map (fun q => (JV.mk k [] 0 [] [], q)) = some (x, r) → totV x + r.length ≤ b.length := by
          intro s k hs e
          cases hm : mustF s (c :: t) with
          | none => rw [hm] at e; cases e
          | some z =>
            have := must_len _ _ _ hm
            rw [hm] at e
            cases e
            rw [List.length_cons] at this
            show 1 + 0 + 0 + 0 + _ ≤ _
            try dsimp only
            omega
        simp only at h
        split at h
        · exact no _ _ (by decide) h
        · split at h
          · exact no _ _ (by decide) h
          · split at h
            · exact no _ _ (by decide) h
            · split at h
              · cases hs : stringG (c :: t) with
                | none => rw [hs] at h; cases h
                | some z =>
                  obtain ⟨s, q⟩ := z
                  have := stringG_out _ _ _ hs
                  rw [hs] at h
                  cases h
                  rw [List.length_cons] at this
                  show 1 + s.length + 0 + 0 + _ ≤ _
                  try dsimp only
                  omega
              · have htl := blanks_len t
                split at h
                · split at h
                  · cases h
                  · cases ht : blanksF t with
                    | nil => rw [ht] at h; cases h
                    | cons d t1 =>
                      rw [ht] at h htl
                      rw [List.length_cons] at htl
                      simp only at h
                      split at h
                      · cases h
                        show 1 + 0 + 0 + 0 + _ ≤ _
                        try dsimp only
                        omega
                      · cases hl : itemsG f (most - 1) (d :: t1) with
                        | none => rw [hl] at h; cases h
                        | some z =>
                          obtain ⟨l, q⟩ := z
                          have := ihi _ _ _ _ hl
                          rw [hl] at h
                          cases h
                          rw [List.length_cons] at this
                          show 1 + 0 + 0 + totL l + _ ≤ _
                          try dsimp only
                          omega
                · split at h
                  · split at h
                    · cases h
                    · cases ht : blanksF t with
                      | nil => rw [ht] at h; cases h
                      | cons d t1 =>
                        rw [ht] at h htl
                        rw [List.length_cons] at htl
                        simp only at h
                        split at h
                        · cases h
                          show 1 + 0 + 0 + 0 + _ ≤ _
                          try dsimp only
                          omega
                        · cases hm : membersG f (most - 1) (d :: t1) with
                          | none => rw [hm] at h; cases h
                          | some z =>
                            obtain ⟨l, ks, r1⟩ := z
                            have := ihm _ _ _ _ _ hm
                            rw [hm] at h
                            cases h
                            rw [List.length_cons] at this
                            show 1 + 0 + totK ks + totL l + _ ≤ _
                            try dsimp only
                            omega
                  · cases hn : numF (c :: t) with
                    | none => rw [hn] at h; cases h
                    | some z =>
                      obtain ⟨n, q⟩ := z
                      have := num_len _ _ _ hn
                      rw [hn] at h
                      cases h
                      rw [List.length_cons] at this
                      show 1 + 0 + 0 + 0 + _ ≤ _
                      try dsimp only
                      omega
    · intro most b l r h
      unfold itemsG at h
      cases hv : valueG f most b with
      | none => rw [hv] at h; cases h
      | some z =>
        obtain ⟨v, t⟩ := z
        have lv := ihv _ _ _ _ hv
        have htl := blanks_len t
        rw [hv] at h
        simp only at h
        cases ht : blanksF t with
        | nil => rw [ht] at h; cases h
        | cons c t1 =>
          rw [ht] at h htl
          rw [List.length_cons] at htl
          simp only at h
          split at h
          · cases h
            show totV v + 0 + _ ≤ _
            try dsimp only
            omega
          · split at h
            · cases hi : itemsG f most t1 with
              | none => rw [hi] at h; cases h
              | some z =>
                obtain ⟨l1, q⟩ := z
                have := ihi _ _ _ _ hi
                rw [hi] at h
                cases h
                show totV v + totL l1 + _ ≤ _
                try dsimp only
                omega
            · cases h
    · intro most b l ks r h
      have hb0 := blanks_len b
      unfold membersG at h
      cases hk : stringG (blanksF b) with
      | none => rw [hk] at h; cases h
      | some z =>
        obtain ⟨k, b1⟩ := z
        have hk1 := stringG_out _ _ _ hk
        have hb1 := blanks_len b1
        rw [hk] at h
        simp only at h
        cases hm : mustF [58] (blanksF b1) with
        | none => rw [hm] at h; cases h
        | some b2 =>
          have hm1 := must_len _ _ _ hm
          rw [hm] at h
          simp only at h
          cases hv : valueG f most b2 with
          | none => rw [hv] at h; cases h
          | some z =>
            obtain ⟨v, t⟩ := z
            have lv := ihv _ _ _ _ hv
            have htl := blanks_len t
            rw [hv] at h
            simp only at h
            cases ht : blanksF t with
            | nil => rw [ht] at h; cases h
            | cons c t1 =>
              rw [ht] at h htl
              rw [List.length_cons] at htl
              simp only at h
              split at h
              · cases h
                show totV v + 0 + (1 + k.length + 0) + _ ≤ _
                try dsimp only
                omega
              · split at h
                · cases hi : membersG f most t1 with
                  | none => rw [hi] at h; cases h
                  | some z =>
                    obtain ⟨l1, ks1, r1⟩ := z
                    have := ihm _ _ _ _ _ hi
                    rw [hi] at h
                    cases h
                    show totV v + totL l1 + (1 + k.length + totK ks1) + _ ≤ _
                    try dsimp only
                    omega
                · cases h
theorem machine_out {b : List UInt8} {v : JV} (h : atValue [] b = some v) : totV v ≤ b.length := by
  unfold atValue valueW at h
  simp only [List.length_nil, Nat.sub_zero] at h
  cases hv : valueG (2 * b.length + 1) 8 b with
  | none => rw [hv] at h; cases h
  | some z =>
    obtain ⟨x, q⟩ := z
    have := (value_out _).1 _ _ _ _ hv
    rw [hv] at h
    simp only [doneF] at h
    split at h
    · cases h; omega
    · cases h
end Go.Proofs.YtiadfijeglbdlaaDoor

namespace Go.Proofs.YtiadfijeglbdlaaDoor
open Go.RowKit

/-- what Parse tells: the value, the error -/
def parseE (b : List UInt8) : JV × Nat := if 1048576 < b.length then (JV.zero, 3) else match parseF b with | some v => (v, 0) | none => (JV.zero, 5)
theorem parse_size {v : JV} (b : List UInt8) (h : parseF b = some v) : totV v ≤ b.length := by
  rw [parse_machine] at h
  cases ha : atValue [] b with
  | none => rw [ha] at h; cases h
  | some x =>
    rw [ha] at h
    simp only [Option.bind_some] at h
    split at h
    · cases h
      exact machine_out ha
    · cases h
theorem zero_sv (S : Nat → Prop) (w : World) : SV S w JV.zero zC := sv_zero S w

set_option maxRecDepth 100000 in
set_option maxHeartbeats 6400000 in
theorem Parse_any (a : Option Addr) (n c : Nat) (bs : List UInt8) (w : World) (h : Rd w a n c bs) (hbig : c ≤ 9223372036854775807) (hT : Tabs w) :
    Calls Tryd.prog 20 #[.slice a n c] w fun e w' => ∃ cs, e = .returned (.tuple #[.agg cs.toArray, .int .i64 ((parseE bs).2 : Int)]) ∧ SV (fun x => w.heap.size ≤ x) w' (parseE bs).1 cs ∧ Below w.heap.size w w' := by
  have hn := h.len
  subst hn
  have hA0 := Arr.new w 30 zC
  have hB0 : Below w.heap.size w (w.alloc (.cells zC.toArray 30)) := (Below.refl _ _).alloc (Nat.le_refl _) _
  obtain ⟨res, hres⟩ : ∃ res, res = parseE bs := ⟨_, rfl⟩
  rw [← hres]
  by_cases hl : 1048576 < bs.length
  · have HF : Hid (res = (JV.zero, 3)) := by show _ = _; rw [hres]; exact if_pos hl
    have hli : (1048576 : Int) < (bs.length : Int) := by omega
    generalize bs.length = n at *
    clear hres h hT
    go_enter Tryd.func20, Tryd.ntmps20
    go_wp2_with ((with_reducible show wpList _ _ _ (⟨none, _, _, _, _, _⟩ :: _) _ _); refine wl_store rfl 30 _ _ rfl w.heap.size 0 rfl zC rfl 30 _ hA0 (by kernel_rfl) (by simp [zC]) (by simp [zC, Value.oneCell']) ?_; intro w4 hR4 hg4 hs4)
    rw [whole_store _ _ rfl] at hR4
    refine end_cell2 rfl w.heap.size 30 _ _ _ rfl hR4 Tryd.underlying30 rfl (by kernel_rfl) rfl rfl ?_
    rw [HF.out]
    exact ⟨zC, rfl, zero_sv _ _, hB0.grown hg4 (by simp) (by intro k hk; cases hk; exact Nat.le_refl _)⟩
  · have hli : ¬ (1048576 : Int) < (bs.length : Int) := by omega
    have hle : bs.length ≤ 1048576 := by omega
    have hrp : res = match parseF bs with | some v => (v, 0) | none => (JV.zero, 5) := by rw [hres]; exact if_neg hl
    rw [parse_machine] at hrp
    have htx : Hid (∀ W, Below w.heap.size w W → TextAt W (w.heap.size + 1) a c bs) := fun W hW => by
      refine ⟨h.le, hbig, fun h0 => ?_⟩
      obtain ⟨b, off, e, h1, h2⟩ := h.mem (by have := h.le; omega)
      exact ⟨b, off, e, by omega, Nat.lt_of_lt_of_le h1 hW.size, fun j hj => (hW.cell (p := ⟨b, off + j, none⟩) h1).trans (h2 j hj)⟩
    have hwh : Hid (∀ W, Below w.heap.size w W → RdAt W (w.heap.size + 1) bs → Calls Tryd.prog 29 #[.pointer (some ⟨w.heap.size + 1, 0, none⟩)] W (WholeRes (atValue [] bs) W (w.heap.size + 1))) := fun W hW hR => whole_any (w.heap.size + 1) bs W hR (hT.to hW) hle
    have HT := Lib.hid hT
    have hmo := fun v (hv : atValue [] bs = some v) => machine_out hv
    generalize hn : bs.length = n at *
    have HB0 := Lib.hid hB0
    have HN := Lib.hid hn
    clear hn
    cases hv : atValue [] bs with
    | none =>
      rw [hv] at hrp hwh
      have HF : Hid (res = (JV.zero, 5)) := hrp
      have hwh : Hid (∀ W, Below w.heap.size w W → RdAt W (w.heap.size + 1) bs → Calls Tryd.prog 29 #[.pointer (some ⟨w.heap.size + 1, 0, none⟩)] W fun e w' => W.grownBy w' (some (w.heap.size + 1)) ∧ ∃ (cs : List Value) (b : Bool), e = .returned (.tuple #[.agg cs.toArray, .bool b]) ∧ cs.length = 5 ∧ (∀ u ∈ cs, u.oneCell' = true) ∧ b = false) := hwh.out
      clear hres h hv hrp hT hB0 hmo
      go_enter Tryd.func20, Tryd.ntmps20
      go_upto_region 4 with ((with_reducible show wpList _ _ _ (⟨none, _, _, _, _, _⟩ :: _) _ _); refine wl_store rfl 69 _ _ rfl (w.heap.size + 1) 0 rfl [.slice a n c] rfl 69 _ (by have := Arr.new (w.alloc (.cells zC.toArray 30)) 69 [.slice none 0 0]; rw [World.size_alloc] at this; exact this) (by kernel_rfl) (by simp) (by simp [Value.oneCell']) ?_; intro w4 hR4 hg4 hs4)
      have hb4 : Below w.heap.size w w4 := (HB0.out.alloc (by simp) _).grown hg4 (by simp; omega) (by intro k hk; cases hk; omega)
      have hz4 := (hA0.kept ((Below.refl _ _).alloc (Nat.le_refl _) _)).grown hg4 (by simp)
      have hrd4 : RdAt w4 (w.heap.size + 1) bs := ⟨a, c, by rw [HN.out]; simpa using hR4, htx.out _ hb4⟩
      have hsz4 : Hid (w.heap.size + 1 < w4.heap.size) := hrd4.lt
      have HR4 := Lib.hid hrd4
      have HB4 := Lib.hid hb4
      clear hA0 hR4 hg4 hs4 hrd4 hb4
      go_upto_region 5 with (first
        | (go_at_call 29; refine (hwh.out _ HB4.out HR4.out).mono ?_; rintro e w5 ⟨hg5, cs, b, rfl, hc5, ho5, rfl⟩; have hA5 := Arr.new w5 30 zC; have hs5 := hg5.size)
        | ((with_reducible show wpList _ _ _ (⟨none, _, _, _, _, _⟩ :: _) _ _); refine wl_store rfl 30 _ _ rfl w5.heap.size 0 rfl cs rfl 30 _ hA5 (by rw [hc5]; kernel_rfl) (by rw [hc5]; simp [zC]) ho5 ?_; intro w6 hR6 hg6 hs6))
      have hz6 : Arr w6 w.heap.size 30 zC := ((hz4.grown hg5 (by simp)).kept ((Below.refl _ _).alloc (Nat.le_refl _) _)).grown hg6 (by intro e; have := Option.some.inj e; have := hsz4.out; omega)
      have hb6 : Below w.heap.size w w6 := ((HB4.out.grown hg5 (by have := hsz4.out; omega) (by intro k hk; cases hk; omega)).alloc (by have := hsz4.out; omega) _).grown hg6 (by have := hsz4.out; simp; omega) (by intro k hk; cases hk; have := hsz4.out; omega)
      have HB6 := Lib.hid hb6
      clear hR6 hb6
      go_wp2_with ((with_reducible show wpList _ _ _ (⟨none, _, _, _, _, _⟩ :: _) _ _); refine wl_store rfl 30 _ _ rfl w.heap.size 0 rfl zC rfl 30 _ hz6 (by kernel_rfl) (by simp [zC]) (by simp [zC, Value.oneCell']) ?_; intro w7 hR7 hg7 hs7)
      rw [whole_store _ _ rfl] at hR7
      refine end_cell2 rfl w.heap.size 30 _ _ _ rfl hR7 Tryd.underlying30 rfl (by kernel_rfl) rfl rfl ?_
      rw [HF.out]
      exact ⟨zC, rfl, zero_sv _ _, HB6.out.grown hg7 (by have := HB6.out.size; omega) (by intro k hk; cases hk; exact Nat.le_refl _)⟩
    | some v =>
      rw [hv] at hrp hwh
      have HSZ : Hid (totV v ≤ 1048576) := by show _ ≤ _; have := hmo v hv; omega
      have hwh : Hid (∀ W, Below w.heap.size w W → RdAt W (w.heap.size + 1) bs → Calls Tryd.prog 29 #[.pointer (some ⟨w.heap.size + 1, 0, none⟩)] W fun e w' => W.grownBy w' (some (w.heap.size + 1)) ∧ ∃ (cs : List Value) (b : Bool), e = .returned (.tuple #[.agg cs.toArray, .bool b]) ∧ cs.length = 5 ∧ (∀ u ∈ cs, u.oneCell' = true) ∧ b = true ∧ SV (fun x => W.heap.size ≤ x) w' v cs) := hwh.out
      have hmay : Hid (∀ W cs, Below w.heap.size w W → PV W v cs → Calls Tryd.prog 15 #[.agg cs.toArray] W fun e w' => e = .returned (.bool (mayF v 8)) ∧ Below W.heap.size W w') := fun W cs hW hp => May_any v cs W hp (tot_small v _ (by have := HSZ.out; omega)).1 (HT.out.to hW)
      simp only [Option.bind_some] at hrp
      obtain ⟨mb, hmb⟩ : ∃ mb, mb = mayF v 8 := ⟨_, rfl⟩
      rw [← hmb] at hrp hmay
      have HRP : Hid (res = if mb = true then (v, 0) else (JV.zero, 5)) := by show _ = _; rw [hrp]; cases mb <;> rfl
      clear hres h hv hrp hT hB0 hmo hmb
      go_enter Tryd.func20, Tryd.ntmps20
      go_upto_region 4 with ((with_reducible show wpList _ _ _ (⟨none, _, _, _, _, _⟩ :: _) _ _); refine wl_store rfl 69 _ _ rfl (w.heap.size + 1) 0 rfl [.slice a n c] rfl 69 _ (by have := Arr.new (w.alloc (.cells zC.toArray 30)) 69 [.slice none 0 0]; rw [World.size_alloc] at this; exact this) (by kernel_rfl) (by simp) (by simp [Value.oneCell']) ?_; intro w4 hR4 hg4 hs4)
      have hb4 : Below w.heap.size w w4 := (HB0.out.alloc (by simp) _).grown hg4 (by simp; omega) (by intro k hk; cases hk; omega)
      have hz4 := (hA0.kept ((Below.refl _ _).alloc (Nat.le_refl _) _)).grown hg4 (by simp)
      have hrd4 : RdAt w4 (w.heap.size + 1) bs := ⟨a, c, by rw [HN.out]; simpa using hR4, htx.out _ hb4⟩
      have hsz4 : Hid (w.heap.size + 1 < w4.heap.size) := hrd4.lt
      have HR4 := Lib.hid hrd4
      have HB4 := Lib.hid hb4
      clear hA0 hR4 hg4 hs4 hrd4 hb4
      go_upto_region 5 with (first
        | (go_at_call 29; refine (hwh.out _ HB4.out HR4.out).mono ?_; rintro e w5 ⟨hg5, cs, b, rfl, hc5, ho5, rfl, hsv5⟩; have hA5 := Arr.new w5 30 zC; have hs5 := hg5.size)
        | ((with_reducible show wpList _ _ _ (⟨none, _, _, _, _, _⟩ :: _) _ _); refine wl_store rfl 30 _ _ rfl w5.heap.size 0 rfl cs rfl 30 _ hA5 (by rw [hc5]; kernel_rfl) (by rw [hc5]; simp [zC]) ho5 ?_; intro w6 hR6 hg6 hs6))
      rw [whole_store _ _ (by rw [hc5]; rfl)] at hR6
      have hz6 : Arr w6 w.heap.size 30 zC := ((hz4.grown hg5 (by simp)).kept ((Below.refl _ _).alloc (Nat.le_refl _) _)).grown hg6 (by intro e; have := Option.some.inj e; have := hsz4.out; omega)
      have hb6 : Below w.heap.size w w6 := ((HB4.out.grown hg5 (by have := hsz4.out; omega) (by intro k hk; cases hk; omega)).alloc (by have := hsz4.out; omega) _).grown hg6 (by have := hsz4.out; simp; omega) (by intro k hk; cases hk; have := hsz4.out; omega)
      have hst6 : Stay (fun x => w4.heap.size ≤ x ∧ x < w5.heap.size) w5 w6 := Stay.trans (Stay.of_below ((Below.refl _ _).alloc (Nat.le_refl _) _)) (by simp) (Stay.of_grown hg6 (fun k hk hd => by cases hk; omega))
      have hsv6 : SV (fun x => w4.heap.size ≤ x ∧ x < w5.heap.size) w6 v cs := sv_to (S := fun x => w4.heap.size ≤ x ∧ x < w5.heap.size) (fun _ hb _ => hb) hst6 v cs (sv_to (fun b hb hl => ⟨hb, hl⟩) (fun _ _ _ => rfl) v cs hsv5)
      have HB6 := Lib.hid hb6
      have HSV6 := Lib.hid hsv6
      have hs56 : Hid (w5.heap.size < w6.heap.size) := hR6.lt
      have hs45 : Hid (w4.heap.size ≤ w5.heap.size) := hs5
      have HO5 := Lib.hid ho5
      have HC5 := Lib.hid hc5
      clear hb6 hsv6 hst6 hsv5 hg5 hg6 hs6 hs5 hz4 ho5 hc5
      generalize hg : w5.heap.size = g5 at *
      obtain ⟨xk, xs, xn, xa, xl, xc, xb, xm, xd, rfl⟩ := pv_shape (sv_pv _ _ HSV6.out)
      have e0 := (hR6.cell 0).trans (show _ = some (Value.int .i64 xk) from rfl)
      have e1 := (hR6.cell 1).trans (show _ = some (Value.string xs) from rfl)
      have e2 := (hR6.cell 2).trans (show _ = some (Value.int .u64 xn) from rfl)
      have e3 := (hR6.cell 3).trans (show _ = some (Value.slice xa xl xc) from rfl)
      have e4 := (hR6.cell 4).trans (show _ = some (Value.slice xb xm xd) from rfl)
      cases mb with
      | false =>
        have HF : Hid (res = (JV.zero, 5)) := by show _ = _; rw [HRP.out]; rfl
        go_wp2_with (first
          | (go_at_call 15; refine (hmay.out _ [.int .i64 xk, .string xs, .int .u64 xn, .slice xa xl xc, .slice xb xm xd] HB6.out (sv_pv _ _ HSV6.out)).mono ?_; rintro e w7 ⟨rfl, hb7⟩; have hz7 := hz6.kept hb7)
          | ((with_reducible show wpList _ _ _ (⟨none, _, _, _, _, _⟩ :: _) _ _); refine wl_store rfl 30 _ _ rfl w.heap.size 0 rfl zC rfl 30 _ hz7 (by kernel_rfl) (by simp [zC]) (by simp [zC, Value.oneCell']) ?_; intro w8 hR8 hg8 hs8))
        rw [whole_store _ _ rfl] at hR8
        refine end_cell2 rfl w.heap.size 30 _ _ _ rfl hR8 Tryd.underlying30 rfl (by kernel_rfl) rfl rfl ?_
        rw [HF.out]
        have hb7' : Below w.heap.size w w7 := HB6.out.trans (hb7.mono HB6.out.size)
        exact ⟨zC, rfl, zero_sv _ _, hb7'.grown hg8 hb7'.size (by intro k hk; cases hk; exact Nat.le_refl _)⟩
      | true =>
        have HF : Hid (res = (v, 0)) := by show _ = _; rw [HRP.out]; rfl
        go_wp2_with (first
          | (go_at_call 15; refine (hmay.out _ [.int .i64 xk, .string xs, .int .u64 xn, .slice xa xl xc, .slice xb xm xd] HB6.out (sv_pv _ _ HSV6.out)).mono ?_; rintro e w7 ⟨rfl, hb7⟩; have hz7 := hz6.kept hb7; have hR7 := hR6.kept hb7; have k0 := (hR7.cell 0).trans (show _ = some (Value.int .i64 xk) from rfl); have k1 := (hR7.cell 1).trans (show _ = some (Value.string xs) from rfl); have k2 := (hR7.cell 2).trans (show _ = some (Value.int .u64 xn) from rfl); have k3 := (hR7.cell 3).trans (show _ = some (Value.slice xa xl xc) from rfl); have k4 := (hR7.cell 4).trans (show _ = some (Value.slice xb xm xd) from rfl))
          | ((with_reducible show wpList _ _ _ (⟨none, _, _, _, _, _⟩ :: _) _ _); refine wl_store rfl 30 _ _ rfl w.heap.size 0 rfl [.int .i64 xk, .string xs, .int .u64 xn, .slice xa xl xc, .slice xb xm xd] rfl 30 _ hz7 (by kernel_rfl) (by simp [zC]) (by simp [Value.oneCell']) ?_; intro w8 hR8 hg8 hs8))
        rw [whole_store zC [.int .i64 xk, .string xs, .int .u64 xn, .slice xa xl xc, .slice xb xm xd] rfl] at hR8
        refine end_cell2 rfl w.heap.size 30 _ _ _ rfl hR8 Tryd.underlying30 rfl (by kernel_rfl) rfl rfl ?_
        rw [HF.out]
        have hb7' : Below w.heap.size w w7 := HB6.out.trans (hb7.mono HB6.out.size)
        have hlow : Hid (w.heap.size < w4.heap.size) := by show _ < _; have := hsz4.out; omega
        refine ⟨_, rfl, sv_to (S := fun x => w4.heap.size ≤ x ∧ x < g5) (fun b hb _ => by have := hlow.out; omega) ?_ v _ HSV6.out, hb7'.grown hg8 hb7'.size (by intro k hk; cases hk; exact Nat.le_refl _)⟩
        exact Stay.trans (Stay.of_below hb7) hb7.size (Stay.of_grown hg8 (fun k hk hd => by cases hk; have := hlow.out; omega))
end Go.Proofs.YtiadfijeglbdlaaDoor

namespace Go.Proofs.YtiadfijeglbdlaaDoor
open Go.RowKit

/-- the chapter's value, and the one of its text -/
def vX : JV := .mk 6 [] 0 [.mk 3 [] 1 [] [], .mk 5 [] 0 [.mk 0 [] 0 [] [], .mk 4 [120] 0 [] []] []] [[97], [98]]
def wX : JV := .mk 5 [] 0 [.mk 3 [] 1 [] [], .mk 4 [195, 169] 0 [] []] []
theorem parse_same {b : List UInt8} {v : JV} (h : (parseF b).map (fun x => sameF x v) = some true) : parseF b = some v := by
  cases hp : parseF b with
  | none => rw [hp] at h; cases h
  | some x =>
    rw [hp] at h
    simp only [Option.map_some, Option.some.injEq] at h
    rw [(same_eq x v).1 h]
theorem parse_none {b : List UInt8} (h : (parseF b).isNone = true) : parseF b = none := by
  cases hp : parseF b with
  | none => rfl
  | some x => rw [hp] at h; cases h
theorem px1 : parseE [32, 91, 32, 49, 32, 44, 32, 34, 92, 117, 48, 48, 101, 57, 34, 32, 93, 32] = (wX, 0) := by
  unfold parseE
  rw [if_neg (by decide), parse_same row_1]
  rfl
theorem px2 : parseE [48, 49] = (JV.zero, 5) := by
  unfold parseE
  rw [if_neg (by decide), parse_none row_2]
theorem px3 : parseE [123, 34, 97, 34, 58, 49, 44, 34, 97, 34, 58, 50, 125] = (JV.zero, 5) := by
  unfold parseE
  rw [if_neg (by decide), parse_none row_3]
theorem tx1 : textB vX = [123, 34, 97, 34, 58, 49, 44, 34, 98, 34, 58, 91, 110, 117, 108, 108, 44, 34, 120, 34, 93, 125] := by decide +kernel
theorem tx2 : textE vX = 0 := by decide +kernel
theorem mx1 : mayF vX 8 = true := by decide +kernel
theorem sx1 : sameF vX vX = true := by decide +kernel
theorem sx2 : sameF vX wX = false := by decide +kernel
theorem gx1 : getF vX [97] = some (.mk 3 [] 1 [] []) := by
  unfold vX
  rw [getF_eq]
  rfl
theorem vX_small (m : Nat) (h : 100 ≤ m) : smallV vX m ∧ fewV vX m ∧ wtV vX ≤ 100 := by
  have ht : totV vX ≤ 100 := by decide +kernel
  have := tot_small vX m (by omega)
  exact ⟨this.1, this.2.1, by omega⟩
/-- a plain flat value -/
theorem flat_any (S : Nat → Prop) (w : World) (k n : Nat) (s : List UInt8) (hk : k < 5) (hn : n < 18446744073709551616) : SV S w (.mk (k : Int) s n [] []) (flatC (k : Int) s n) := flat_sv S w k n s hk hn
theorem vX_sv (w : World) (g : Nat) (hk : Arr w g 9 [.string ⟨#[97]⟩, .string ⟨#[98]⟩]) (h2 : Arr w (g + 1) 30 [.int .i64 0, .string ⟨#[]⟩, .int .u64 0, .slice none 0 0, .slice none 0 0, .int .i64 4, .string ⟨#[120]⟩, .int .u64 0, .slice none 0 0, .slice none 0 0]) (h1 : Arr w (g + 2) 30 [.int .i64 3, .string ⟨#[]⟩, .int .u64 1, .slice none 0 0, .slice none 0 0, .int .i64 5, .string ⟨#[]⟩, .int .u64 0, .slice (some ⟨g + 1, 0, none⟩) 2 2, .slice none 0 0]) : SV (fun x => g ≤ x) w vX [.int .i64 6, .string ⟨#[]⟩, .int .u64 0, .slice (some ⟨g + 2, 0, none⟩) 2 2, .slice (some ⟨g, 0, none⟩) 2 2] := by
  unfold vX SV
  refine ⟨_, _, _, _, rfl, by omega, ⟨⟨by simp, by omega, (by intro e; cases e), fun _ => ⟨g, 0, rfl, hk.lt, fun i hi => ?_⟩⟩, fun _ => ⟨g, 0, rfl, Nat.le_refl _⟩⟩, by simp, (by intro e; cases e), fun _ => ⟨g + 2, 0, rfl, by omega, ⟨_, _, h1⟩, ?_⟩⟩
  · rw [Nat.zero_add, hk.cell]
    match i, hi with
    | 0, _ => rfl
    | 1, _ => rfl
  · unfold SL
    refine ⟨⟨[.int .i64 3, .string ⟨#[]⟩, .int .u64 1, .slice none 0 0, .slice none 0 0], rfl, fun j hj => ?_, flat_sv _ w 3 1 [] (by omega) (by omega)⟩, ?_⟩
    · rw [Nat.zero_add, h1.cell]
      match j, hj with
      | 0, _ => rfl
      | 1, _ => rfl
      | 2, _ => rfl
      | 3, _ => rfl
      | 4, _ => rfl
    · unfold SL
      refine ⟨⟨[.int .i64 5, .string ⟨#[]⟩, .int .u64 0, .slice (some ⟨g + 1, 0, none⟩) 2 2, .slice none 0 0], rfl, fun j hj => ?_, ?_⟩, by unfold SL; trivial⟩
      · rw [h1.cell]
        match j, hj with
        | 0, _ => rfl
        | 1, _ => rfl
        | 2, _ => rfl
        | 3, _ => rfl
        | 4, _ => rfl
      · unfold SV
        refine ⟨_, _, _, _, rfl, by omega, ⟨⟨by simp, by omega, fun _ => rfl, fun h => by simp at h⟩, fun h => by simp at h⟩, by simp, (by intro e; cases e), fun _ => ⟨g + 1, 0, rfl, by omega, ⟨_, _, h2⟩, ?_⟩⟩
        unfold SL
        refine ⟨⟨[.int .i64 0, .string ⟨#[]⟩, .int .u64 0, .slice none 0 0, .slice none 0 0], rfl, fun j hj => ?_, flat_sv _ w 0 0 [] (by omega) (by omega)⟩, ?_⟩
        · rw [Nat.zero_add, h2.cell]
          match j, hj with
          | 0, _ => rfl
          | 1, _ => rfl
          | 2, _ => rfl
          | 3, _ => rfl
          | 4, _ => rfl
        · unfold SL
          refine ⟨⟨[.int .i64 4, .string ⟨#[120]⟩, .int .u64 0, .slice none 0 0, .slice none 0 0], rfl, fun j hj => ?_, flat_sv _ w 4 0 [120] (by omega) (by omega)⟩, by unfold SL; trivial⟩
          rw [h2.cell]
          match j, hj with
          | 0, _ => rfl
          | 1, _ => rfl
          | 2, _ => rfl
          | 3, _ => rfl
          | 4, _ => rfl

theorem arr_new_at {w : World} {g : Nat} {T : TypeId} (xs : List Value) (h : w.heap.size = g) : Arr (w.alloc (.cells xs.toArray T)) g T xs := by
  subst h
  exact Arr.new w T xs
theorem wX_sv {S : Nat → Prop} {w : World} {cs : List Value} (h : SV S w wX cs) : ∃ b off c b2 d, cs = [.int .i64 5, .string ⟨#[]⟩, .int .u64 0, .slice (some ⟨b, off, none⟩) 2 c, .slice b2 0 d] ∧ b < w.heap.size ∧ w.cell? ⟨b, off + 6, none⟩ = some (.string ⟨#[195, 169]⟩) := by
  unfold wX SV at h
  obtain ⟨a, c, a', c', rfl, -, -, -, -, h0⟩ := h
  obtain ⟨b, off, rfl, -, -, hl⟩ := h0 (by simp)
  unfold SL at hl
  obtain ⟨-, hl⟩ := hl
  unfold SL at hl
  obtain ⟨⟨cs, h5, hc, hv⟩, -⟩ := hl
  unfold SV at hv
  obtain ⟨_, _, _, _, rfl, -⟩ := hv
  have h1 := hc 1 (by omega)
  have h6 : w.cell? ⟨b, off + 6, none⟩ = some (.string ⟨#[195, 169]⟩) := by
    rw [show off + 6 = off + 5 + 1 by omega]
    exact h1
  exact ⟨b, off, c, a', c', rfl, World.block_lt_of_cell? w _ h6, h6⟩
theorem nX_sv {S : Nat → Prop} {w : World} {cs : List Value} (h : SV S w (.mk 3 [] 1 [] []) cs) : ∃ a c a' c', cs = [.int .i64 3, .string ⟨#[]⟩, .int .u64 1, .slice a 0 c, .slice a' 0 c'] := by
  unfold SV at h
  obtain ⟨a, c, a', c', rfl, -⟩ := h
  exact ⟨a, c, a', c', rfl⟩
theorem five_of {S : Nat → Prop} {w : World} {v : JV} {cs : List Value} (h : SV S w v cs) : ∃ (k : Int) (s : ByteArray) (n : Int) (a : Option Addr) (l c : Nat) (b : Option Addr) (m d : Nat), cs = [.int .i64 k, .string s, .int .u64 n, .slice a l c, .slice b m d] := pv_shape (sv_pv v cs h)

set_option maxRecDepth 100000 in
set_option maxHeartbeats 6400000 in
theorem wakes_any (w : World) (hT : Tabs w) : Calls Tryd.prog 19 #[] w fun e w' => e = .returned (.bool true) ∧ Below w.heap.size w w' := by
  have kc := fun (w : World) (C : Array Value) (n c : Nat) => Lib.run_convert_bytes_const (P := Tryd.prog) w 32 5 C n c Tryd.underlying32 Tryd.underlying5
  have HT := Lib.hid hT
  clear hT
  go_enter Tryd.func19, Tryd.ntmps19
  go_upto_region 2 with ((with_reducible show wpList _ _ _ (⟨none, _, _, _, _, _⟩ :: _) _ _); go_loud (refine wl_store rfl 30 _ _ rfl (w.heap.size + 1 + 1 + 1) 0 rfl [.int .i64 6, .string ⟨#[]⟩, .int .u64 0, .slice (some ⟨w.heap.size + 1 + 1, 0, none⟩) 2 2, .slice (some ⟨w.heap.size, 0, none⟩) 2 2] rfl 30 zC (arr_new_at zC (by simp)) (by kernel_rfl) (by simp [zC]) (by simp [Value.oneCell']) ?_); intro w4 hV4 hg4 hs4)
  rw [whole_store zC [.int .i64 6, .string ⟨#[]⟩, .int .u64 0, .slice (some ⟨w.heap.size + 1 + 1, 0, none⟩) 2 2, .slice (some ⟨w.heap.size, 0, none⟩) 2 2] rfl] at hV4
  have hK4 : Arr w4 w.heap.size 9 [.string ⟨#[97]⟩, .string ⟨#[98]⟩] := ((((arr_new_at [.string ⟨#[97]⟩, .string ⟨#[98]⟩] rfl).kept ((Below.refl _ _).alloc (Nat.le_refl _) _)).kept ((Below.refl _ _).alloc (Nat.le_refl _) _)).kept ((Below.refl _ _).alloc (Nat.le_refl _) _)).grown hg4 (by intro e; have := Option.some.inj e; omega)
  have h24 : Arr w4 (w.heap.size + 1) 30 [.int .i64 0, .string ⟨#[]⟩, .int .u64 0, .slice none 0 0, .slice none 0 0, .int .i64 4, .string ⟨#[120]⟩, .int .u64 0, .slice none 0 0, .slice none 0 0] := (((arr_new_at [.int .i64 0, .string ⟨#[]⟩, .int .u64 0, .slice none 0 0, .slice none 0 0, .int .i64 4, .string ⟨#[120]⟩, .int .u64 0, .slice none 0 0, .slice none 0 0] (by simp)).kept ((Below.refl _ _).alloc (Nat.le_refl _) _)).kept ((Below.refl _ _).alloc (Nat.le_refl _) _)).grown hg4 (by intro e; have := Option.some.inj e; omega)
  have h14 : Arr w4 (w.heap.size + 2) 30 [.int .i64 3, .string ⟨#[]⟩, .int .u64 1, .slice none 0 0, .slice none 0 0, .int .i64 5, .string ⟨#[]⟩, .int .u64 0, .slice (some ⟨w.heap.size + 1, 0, none⟩) 2 2, .slice none 0 0] := ((arr_new_at [.int .i64 3, .string ⟨#[]⟩, .int .u64 1, .slice none 0 0, .slice none 0 0, .int .i64 5, .string ⟨#[]⟩, .int .u64 0, .slice (some ⟨w.heap.size + 1, 0, none⟩) 2 2, .slice none 0 0] (by simp)).kept ((Below.refl _ _).alloc (Nat.le_refl _) _)).grown hg4 (by simp)
  have HSV4 := Lib.hid (vX_sv w4 w.heap.size hK4 h24 h14)
  have HB4 : Hid (Below w.heap.size w w4) := ((((((Below.refl _ _).alloc (Nat.le_refl _) _).alloc (by simp) _).alloc (by simp; omega) _).alloc (by simp; omega) _).grown hg4 (by simp; omega) (by intro q hq; cases hq; omega))
  have HV4 := Lib.hid hV4
  clear hK4 h24 h14 hg4 hs4
  have e0 := (hV4.cell 0).trans (show _ = some (Value.int .i64 6) from rfl)
  have e1 := (hV4.cell 1).trans (show _ = some (Value.string ⟨#[]⟩) from rfl)
  have e2 := (hV4.cell 2).trans (show _ = some (Value.int .u64 0) from rfl)
  have e3 := (hV4.cell 3).trans (show _ = some (Value.slice (some ⟨w.heap.size + 1 + 1, 0, none⟩) 2 2) from rfl)
  have e4 := (hV4.cell 4).trans (show _ = some (Value.slice (some ⟨w.heap.size, 0, none⟩) 2 2) from rfl)
  have hpv : Hid (∀ W, Below w4.heap.size w4 W → PV W vX [.int .i64 6, .string ⟨#[]⟩, .int .u64 0, .slice (some ⟨w.heap.size + 1 + 1, 0, none⟩) 2 2, .slice (some ⟨w.heap.size, 0, none⟩) 2 2]) := fun W hW => pv_keep (CellsKept.of_below hW) _ _ (sv_pv _ _ HSV4.out)
  have hbig : (100 : Nat) ≤ 9223372036854775000 := by omega
  have htx : Hid (Calls Tryd.prog 11 #[.agg #[.int .i64 6, .string ⟨#[]⟩, .int .u64 0, .slice (some ⟨w.heap.size + 1 + 1, 0, none⟩) 2 2, .slice (some ⟨w.heap.size, 0, none⟩) 2 2]] w4 fun e w' => ∃ vb, e = .returned (.tuple #[vb, .int .i64 0]) ∧ Own w' w4.heap.size 5 vb [123, 34, 97, 34, 58, 49, 44, 34, 98, 34, 58, 91, 110, 117, 108, 108, 44, 34, 120, 34, 93, 125] ∧ Below w4.heap.size w4 w') := by
    have := Text_any vX [.int .i64 6, .string ⟨#[]⟩, .int .u64 0, .slice (some ⟨w.heap.size + 1 + 1, 0, none⟩) 2 2, .slice (some ⟨w.heap.size, 0, none⟩) 2 2] w4 (hpv.out _ (Below.refl _ _)) (vX_small _ hbig).1 (HT.out.to HB4.out)
    rw [tx1, tx2] at this
    exact this
  go_upto_region 3 with (go_at_call 11; go_loud (refine htx.out.mono ?_); rintro e w5 ⟨vb, rfl, ho5, hb5⟩)
  obtain ⟨ab, cb, rfl, -⟩ := ho5.shape
  have HO5 := Lib.hid ho5
  have HB50 := Lib.hid hb5
  have HB5 : Hid (Below w.heap.size w w5) := HB4.out.trans (hb5.mono HB4.out.size)
  clear hV4 e0 e1 e2 e3 e4 ho5 hb5
  have halw : Hid (∀ fr, Below w5.heap.size w5 (w5.alloc (.cells (([32, 91, 32, 49, 32, 44, 32, 34, 92, 117, 48, 48, 101, 57, 34, 32, 93, 32] : List UInt8).map bv).toArray 5 fr))) := fun fr => (Below.refl _ _).alloc (Nat.le_refl _) _
  have hpsw : Hid (∀ fr, Calls Tryd.prog 20 #[.slice (some ⟨w5.heap.size, 0, none⟩) 18 18] (w5.alloc (.cells (([32, 91, 32, 49, 32, 44, 32, 34, 92, 117, 48, 48, 101, 57, 34, 32, 93, 32] : List UInt8).map bv).toArray 5 fr)) fun e w' => ∃ cs, e = .returned (.tuple #[.agg cs.toArray, .int .i64 0]) ∧ SV (fun _ => True) w' wX cs ∧ Below w5.heap.size w5 w') := fun fr => by
    have := Parse_any _ _ _ _ _ (rd_lit w5 [32, 91, 32, 49, 32, 44, 32, 34, 92, 117, 48, 48, 101, 57, 34, 32, 93, 32] 5 fr) (by decide) (HT.out.to (HB5.out.trans ((halw.out fr).mono HB5.out.size)))
    rw [px1] at this
    exact this.mono fun e w' ⟨cs, h1, h2, h3⟩ => ⟨cs, h1, sv_to (fun _ _ _ => trivial) (fun _ _ _ => rfl) _ _ h2, (halw.out fr).trans (h3.mono (halw.out fr).size)⟩
  go_upto_region 4 with (first
    | (go_at_call 20; go_loud (refine (hpsw.out _).mono ?_); rintro e w6' ⟨csw, rfl, hsvw, hbw⟩; obtain ⟨bw, ow, cw, b2w, dw, rfl, hltW, hceW⟩ := wX_sv hsvw; have hAw := Arr.new w6' 30 zC)
    | ((with_reducible show wpList _ _ _ (⟨none, _, _, _, _, _⟩ :: _) _ _); go_loud (refine wl_store rfl 30 _ _ rfl w6'.heap.size 0 rfl [.int .i64 5, .string ⟨#[]⟩, .int .u64 0, .slice (some ⟨bw, ow, none⟩) 2 cw, .slice b2w 0 dw] rfl 30 zC hAw (by kernel_rfl) (by simp [zC]) (by simp [Value.oneCell']) ?_); intro w6 hSw hgw hsw))
  rw [whole_store zC [.int .i64 5, .string ⟨#[]⟩, .int .u64 0, .slice (some ⟨bw, ow, none⟩) 2 cw, .slice b2w 0 dw] rfl] at hSw
  have HB60 : Hid (Below w5.heap.size w5 w6) := (hbw.alloc hbw.size _).grown hgw (by have := hbw.size; simp; omega) (by intro q hq; cases hq; exact hbw.size)
  have HB6p : Hid (Below w6'.heap.size w6' w6) := ((Below.refl _ _).alloc (Nat.le_refl _) _).grown hgw (by simp) (by intro q hq; cases hq; exact Nat.le_refl _)
  have HB6 : Hid (Below w.heap.size w w6) := HB5.out.trans (HB60.out.mono HB5.out.size)
  have HSw := Lib.hid hSw
  have HSVw := Lib.hid hsvw
  clear hSw hgw hsw hbw hsvw hAw
  have HLT6 := Lib.hid hltW
  have HCE6 := Lib.hid hceW
  clear hltW hceW
  have halg : Hid (∀ fr, Below w6.heap.size w6 (w6.alloc (.cells (([48, 49] : List UInt8).map bv).toArray 5 fr))) := fun fr => (Below.refl _ _).alloc (Nat.le_refl _) _
  have hpsg : Hid (∀ fr, Calls Tryd.prog 20 #[.slice (some ⟨w6.heap.size, 0, none⟩) 2 2] (w6.alloc (.cells (([48, 49] : List UInt8).map bv).toArray 5 fr)) fun e w' => ∃ cs, e = .returned (.tuple #[.agg cs.toArray, .int .i64 5]) ∧ SV (fun _ => True) w' JV.zero cs ∧ Below w6.heap.size w6 w') := fun fr => by
    have := Parse_any _ _ _ _ _ (rd_lit w6 [48, 49] 5 fr) (by decide) (HT.out.to (HB6.out.trans ((halg.out fr).mono HB6.out.size)))
    rw [px2] at this
    exact this.mono fun e w' ⟨cs, h1, h2, h3⟩ => ⟨cs, h1, sv_to (fun _ _ _ => trivial) (fun _ _ _ => rfl) _ _ h2, (halg.out fr).trans (h3.mono (halg.out fr).size)⟩
  go_upto_region 5 with (first
    | (go_at_call 20; go_loud (refine (hpsg.out _).mono ?_); rintro e w7' ⟨csg, rfl, hsvg, hbg⟩; obtain ⟨kg, sg, ng, ag, lg, cg, bg, mg, dg, rfl⟩ := five_of hsvg; have hAg := Arr.new w7' 30 zC)
    | ((with_reducible show wpList _ _ _ (⟨none, _, _, _, _, _⟩ :: _) _ _); go_loud (refine wl_store rfl 30 _ _ rfl w7'.heap.size 0 rfl [.int .i64 kg, .string sg, .int .u64 ng, .slice ag lg cg, .slice bg mg dg] rfl 30 zC hAg (by kernel_rfl) (by simp [zC]) (by simp [Value.oneCell']) ?_); intro w7 hSg hgg hsg))
  rw [whole_store zC [.int .i64 kg, .string sg, .int .u64 ng, .slice ag lg cg, .slice bg mg dg] rfl] at hSg
  have HB70 : Hid (Below w6.heap.size w6 w7) := (hbg.alloc hbg.size _).grown hgg (by have := hbg.size; simp; omega) (by intro q hq; cases hq; exact hbg.size)
  have HB7p : Hid (Below w7'.heap.size w7' w7) := ((Below.refl _ _).alloc (Nat.le_refl _) _).grown hgg (by simp) (by intro q hq; cases hq; exact Nat.le_refl _)
  have HB7 : Hid (Below w.heap.size w w7) := HB6.out.trans (HB70.out.mono HB6.out.size)
  have HSg := Lib.hid hSg
  have HSVg := Lib.hid hsvg
  clear hSg hgg hsg hbg hsvg hAg
  have halh : Hid (∀ fr, Below w7.heap.size w7 (w7.alloc (.cells (([123, 34, 97, 34, 58, 49, 44, 34, 97, 34, 58, 50, 125] : List UInt8).map bv).toArray 5 fr))) := fun fr => (Below.refl _ _).alloc (Nat.le_refl _) _
  have hpsh : Hid (∀ fr, Calls Tryd.prog 20 #[.slice (some ⟨w7.heap.size, 0, none⟩) 13 13] (w7.alloc (.cells (([123, 34, 97, 34, 58, 49, 44, 34, 97, 34, 58, 50, 125] : List UInt8).map bv).toArray 5 fr)) fun e w' => ∃ cs, e = .returned (.tuple #[.agg cs.toArray, .int .i64 5]) ∧ SV (fun _ => True) w' JV.zero cs ∧ Below w7.heap.size w7 w') := fun fr => by
    have := Parse_any _ _ _ _ _ (rd_lit w7 [123, 34, 97, 34, 58, 49, 44, 34, 97, 34, 58, 50, 125] 5 fr) (by decide) (HT.out.to (HB7.out.trans ((halh.out fr).mono HB7.out.size)))
    rw [px3] at this
    exact this.mono fun e w' ⟨cs, h1, h2, h3⟩ => ⟨cs, h1, sv_to (fun _ _ _ => trivial) (fun _ _ _ => rfl) _ _ h2, (halh.out fr).trans (h3.mono (halh.out fr).size)⟩
  go_upto_region 6 with (first
    | (go_at_call 20; go_loud (refine (hpsh.out _).mono ?_); rintro e w8' ⟨csh, rfl, hsvh, hbh⟩; obtain ⟨kh, sh, nh, ah, lh, ch, bh, mh, dh, rfl⟩ := five_of hsvh; have hAh := Arr.new w8' 30 zC)
    | ((with_reducible show wpList _ _ _ (⟨none, _, _, _, _, _⟩ :: _) _ _); go_loud (refine wl_store rfl 30 _ _ rfl w8'.heap.size 0 rfl [.int .i64 kh, .string sh, .int .u64 nh, .slice ah lh ch, .slice bh mh dh] rfl 30 zC hAh (by kernel_rfl) (by simp [zC]) (by simp [Value.oneCell']) ?_); intro w8 hSh hgh hsh))
  rw [whole_store zC [.int .i64 kh, .string sh, .int .u64 nh, .slice ah lh ch, .slice bh mh dh] rfl] at hSh
  have HB80 : Hid (Below w7.heap.size w7 w8) := (hbh.alloc hbh.size _).grown hgh (by have := hbh.size; simp; omega) (by intro q hq; cases hq; exact hbh.size)
  have HB8p : Hid (Below w8'.heap.size w8' w8) := ((Below.refl _ _).alloc (Nat.le_refl _) _).grown hgh (by simp) (by intro q hq; cases hq; exact Nat.le_refl _)
  have HB8 : Hid (Below w.heap.size w w8) := HB7.out.trans (HB80.out.mono HB7.out.size)
  have HSh := Lib.hid hSh
  have HSVh := Lib.hid hsvh
  clear hSh hgh hsh hbh hsvh hAh
  have HB68 : Hid (Below w6.heap.size w6 w8) := HB70.out.trans (HB80.out.mono HB70.out.size)
  have HB58 : Hid (Below w5.heap.size w5 w8) := HB60.out.trans (HB68.out.mono HB60.out.size)
  have HB48 : Hid (Below w4.heap.size w4 w8) := HB50.out.trans (HB58.out.mono HB50.out.size)
  have hV8 := HV4.out.kept HB48.out
  have f0 := (hV8.cell 0).trans (show _ = some (Value.int .i64 6) from rfl)
  have f1 := (hV8.cell 1).trans (show _ = some (Value.string ⟨#[]⟩) from rfl)
  have f2 := (hV8.cell 2).trans (show _ = some (Value.int .u64 0) from rfl)
  have f3 := (hV8.cell 3).trans (show _ = some (Value.slice (some ⟨w.heap.size + 1 + 1, 0, none⟩) 2 2) from rfl)
  have f4 := (hV8.cell 4).trans (show _ = some (Value.slice (some ⟨w.heap.size, 0, none⟩) 2 2) from rfl)
  have hgt : Hid (Calls Tryd.prog 13 #[.agg #[.int .i64 6, .string ⟨#[]⟩, .int .u64 0, .slice (some ⟨w.heap.size + 1 + 1, 0, none⟩) 2 2, .slice (some ⟨w.heap.size, 0, none⟩) 2 2], .string ⟨#[97]⟩] w8 fun e w' => ∃ cx, e = .returned (.tuple #[.agg cx.toArray, .bool true]) ∧ SV (fun _ => True) w' (.mk 3 [] 1 [] []) cx ∧ Below w8.heap.size w8 w') := by
    have := Get_any vX [.int .i64 6, .string ⟨#[]⟩, .int .u64 0, .slice (some ⟨w.heap.size + 1 + 1, 0, none⟩) 2 2, .slice (some ⟨w.heap.size, 0, none⟩) 2 2] [97] w8 (hpv.out _ HB48.out) (vX_small _ (by omega)).2.1
    rw [gx1] at this
    exact this.mono fun e w' ⟨cs, h1, h2, h3⟩ => ⟨cs, h1, sv_to (fun _ _ _ => trivial) (fun _ _ _ => rfl) _ _ h2, h3⟩
  go_upto_region 7 with (first
    | (go_at_call 13; go_loud (refine hgt.out.mono ?_); rintro e w9' ⟨csx, rfl, hsvx, hbx⟩; obtain ⟨ax, cx, bx, dx, rfl⟩ := nX_sv hsvx; have hAx := Arr.new w9' 30 zC)
    | ((with_reducible show wpList _ _ _ (⟨none, _, _, _, _, _⟩ :: _) _ _); refine wl_store rfl 30 _ _ rfl w9'.heap.size 0 rfl [.int .i64 3, .string ⟨#[]⟩, .int .u64 1, .slice ax 0 cx, .slice bx 0 dx] rfl 30 zC hAx (by kernel_rfl) (by simp [zC]) (by simp [Value.oneCell']) ?_; intro w9 hSx hgx hsx))
  rw [whole_store zC [.int .i64 3, .string ⟨#[]⟩, .int .u64 1, .slice ax 0 cx, .slice bx 0 dx] rfl] at hSx
  have HB90 : Hid (Below w8.heap.size w8 w9) := (hbx.alloc hbx.size _).grown hgx (by have := hbx.size; simp; omega) (by intro q hq; cases hq; exact hbx.size)
  have HB9 : Hid (Below w.heap.size w w9) := HB8.out.trans (HB90.out.mono HB8.out.size)
  have HB69 : Hid (Below w6.heap.size w6 w9) := HB68.out.trans (HB90.out.mono HB68.out.size)
  have HB49 : Hid (Below w4.heap.size w4 w9) := HB48.out.trans (HB90.out.mono HB48.out.size)
  have HB59 : Hid (Below w5.heap.size w5 w9) := HB58.out.trans (HB90.out.mono HB58.out.size)
  have hV9 := HV4.out.kept HB49.out
  have hW9 := HSw.out.kept HB69.out
  have HSX := Lib.hid hSx
  clear f0 f1 f2 f3 f4 hV8 hsvx hbx hgx hsx hAx
  have x2 := (hSx.cell 2).trans (show _ = some (Value.int .u64 1) from rfl)
  have f0 := (hV9.cell 0).trans (show _ = some (Value.int .i64 6) from rfl)
  have f1 := (hV9.cell 1).trans (show _ = some (Value.string ⟨#[]⟩) from rfl)
  have f2 := (hV9.cell 2).trans (show _ = some (Value.int .u64 0) from rfl)
  have f3 := (hV9.cell 3).trans (show _ = some (Value.slice (some ⟨w.heap.size + 1 + 1, 0, none⟩) 2 2) from rfl)
  have f4 := (hV9.cell 4).trans (show _ = some (Value.slice (some ⟨w.heap.size, 0, none⟩) 2 2) from rfl)
  have g0 := (hW9.cell 0).trans (show _ = some (Value.int .i64 5) from rfl)
  have g1 := (hW9.cell 1).trans (show _ = some (Value.string ⟨#[]⟩) from rfl)
  have g2 := (hW9.cell 2).trans (show _ = some (Value.int .u64 0) from rfl)
  have g3 := (hW9.cell 3).trans (show _ = some (Value.slice (some ⟨bw, ow, none⟩) 2 cw) from rfl)
  have g4 := (hW9.cell 4).trans (show _ = some (Value.slice b2w 0 dw) from rfl)
  have hcw9 : w9.cell? ⟨bw, ow + 6, none⟩ = some (.string ⟨#[195, 169]⟩) := by
    have hbb : Below w6'.heap.size w6' w9 := HB6p.out.trans (HB69.out.mono HB6p.out.size)
    exact (hbb.cell (p := ⟨bw, ow + 6, none⟩) HLT6.out).trans HCE6.out
  have hst : (convert 32 9 (.slice ab 22 cb)).run Tryd.prog w9 = .ok (.string ⟨#[123, 34, 97, 34, 58, 49, 44, 34, 98, 34, 58, 91, 110, 117, 108, 108, 44, 34, 120, 34, 93, 125]⟩) w9 := run_bstr bt Tryd.underlying9 (HO5.out.to HB59.out).rd.toRd
  have hmy : Hid (∀ W, Below w9.heap.size w9 W → Calls Tryd.prog 15 #[.agg #[.int .i64 6, .string ⟨#[]⟩, .int .u64 0, .slice (some ⟨w.heap.size + 1 + 1, 0, none⟩) 2 2, .slice (some ⟨w.heap.size, 0, none⟩) 2 2]] W fun e w' => e = .returned (.bool true) ∧ Below W.heap.size W w') := fun W hW => by
    have := May_any vX [.int .i64 6, .string ⟨#[]⟩, .int .u64 0, .slice (some ⟨w.heap.size + 1 + 1, 0, none⟩) 2 2, .slice (some ⟨w.heap.size, 0, none⟩) 2 2] W (hpv.out _ (HB49.out.trans (hW.mono HB49.out.size))) (vX_small _ hbig).1 (HT.out.to (HB9.out.trans (hW.mono HB9.out.size)))
    rw [mx1] at this
    exact this
  have hs1 : Hid (∀ W, Below w9.heap.size w9 W → Calls Tryd.prog 22 #[.agg #[.int .i64 6, .string ⟨#[]⟩, .int .u64 0, .slice (some ⟨w.heap.size + 1 + 1, 0, none⟩) 2 2, .slice (some ⟨w.heap.size, 0, none⟩) 2 2], .agg #[.int .i64 6, .string ⟨#[]⟩, .int .u64 0, .slice (some ⟨w.heap.size + 1 + 1, 0, none⟩) 2 2, .slice (some ⟨w.heap.size, 0, none⟩) 2 2]] W fun e w' => e = .returned (.bool true) ∧ Below W.heap.size W w') := fun W hW => by
    have hp := hpv.out _ (HB49.out.trans (hW.mono HB49.out.size))
    have := Same_any vX vX [.int .i64 6, .string ⟨#[]⟩, .int .u64 0, .slice (some ⟨w.heap.size + 1 + 1, 0, none⟩) 2 2, .slice (some ⟨w.heap.size, 0, none⟩) 2 2] [.int .i64 6, .string ⟨#[]⟩, .int .u64 0, .slice (some ⟨w.heap.size + 1 + 1, 0, none⟩) 2 2, .slice (some ⟨w.heap.size, 0, none⟩) 2 2] W hp hp (by have := (vX_small 100 (by omega)).2.2; omega)
    rw [sx1] at this
    exact this
  have hs2 : Hid (∀ W, Below w9.heap.size w9 W → Calls Tryd.prog 22 #[.agg #[.int .i64 6, .string ⟨#[]⟩, .int .u64 0, .slice (some ⟨w.heap.size + 1 + 1, 0, none⟩) 2 2, .slice (some ⟨w.heap.size, 0, none⟩) 2 2], .agg #[.int .i64 5, .string ⟨#[]⟩, .int .u64 0, .slice (some ⟨bw, ow, none⟩) 2 cw, .slice b2w 0 dw]] W fun e w' => e = .returned (.bool false) ∧ Below W.heap.size W w') := fun W hW => by
    have hp := hpv.out _ (HB49.out.trans (hW.mono HB49.out.size))
    have hq : PV W wX [.int .i64 5, .string ⟨#[]⟩, .int .u64 0, .slice (some ⟨bw, ow, none⟩) 2 cw, .slice b2w 0 dw] := pv_keep (CellsKept.of_below (HB6p.out.trans ((HB69.out.trans (hW.mono HB69.out.size)).mono HB6p.out.size))) _ _ (sv_pv _ _ HSVw.out)
    have := Same_any vX wX [.int .i64 6, .string ⟨#[]⟩, .int .u64 0, .slice (some ⟨w.heap.size + 1 + 1, 0, none⟩) 2 2, .slice (some ⟨w.heap.size, 0, none⟩) 2 2] [.int .i64 5, .string ⟨#[]⟩, .int .u64 0, .slice (some ⟨bw, ow, none⟩) 2 cw, .slice b2w 0 dw] W hp hq (by have := (vX_small 100 (by omega)).2.2; omega)
    rw [sx2] at this
    exact this
  clear hSx
  go_wp2_with (first
    | (go_at_call 15; go_loud (refine (hmy.out _ (Below.refl _ _)).mono ?_); rintro e w10 ⟨rfl, hb10⟩; have HB10 := Lib.hid hb10; have hV10 := hV9.kept hb10; have hW10 := hW9.kept hb10; have p0 := (hV10.cell 0).trans (show _ = some (Value.int .i64 6) from rfl); have p1 := (hV10.cell 1).trans (show _ = some (Value.string ⟨#[]⟩) from rfl); have p2 := (hV10.cell 2).trans (show _ = some (Value.int .u64 0) from rfl); have p3 := (hV10.cell 3).trans (show _ = some (Value.slice (some ⟨w.heap.size + 1 + 1, 0, none⟩) 2 2) from rfl); have p4 := (hV10.cell 4).trans (show _ = some (Value.slice (some ⟨w.heap.size, 0, none⟩) 2 2) from rfl); clear hb10 hmy)
    | (go_at_call 22; refine (hs1.out _ HB10.out).mono ?_; rintro e w11 ⟨rfl, hb11⟩; have HB11 : Hid (Below w9.heap.size w9 w11) := HB10.out.trans (hb11.mono HB10.out.size); have hV11 := hV10.kept hb11; have hW11 := hW10.kept hb11; have q0 := (hV11.cell 0).trans (show _ = some (Value.int .i64 6) from rfl); have q1 := (hV11.cell 1).trans (show _ = some (Value.string ⟨#[]⟩) from rfl); have q2 := (hV11.cell 2).trans (show _ = some (Value.int .u64 0) from rfl); have q3 := (hV11.cell 3).trans (show _ = some (Value.slice (some ⟨w.heap.size + 1 + 1, 0, none⟩) 2 2) from rfl); have q4 := (hV11.cell 4).trans (show _ = some (Value.slice (some ⟨w.heap.size, 0, none⟩) 2 2) from rfl); have r0 := (hW11.cell 0).trans (show _ = some (Value.int .i64 5) from rfl); have r1 := (hW11.cell 1).trans (show _ = some (Value.string ⟨#[]⟩) from rfl); have r2 := (hW11.cell 2).trans (show _ = some (Value.int .u64 0) from rfl); have r3 := (hW11.cell 3).trans (show _ = some (Value.slice (some ⟨bw, ow, none⟩) 2 cw) from rfl); have r4 := (hW11.cell 4).trans (show _ = some (Value.slice b2w 0 dw) from rfl); clear hb11 hs1)
    | (go_at_call 22; go_loud (refine (hs2.out _ HB11.out).mono ?_); rintro e w12 ⟨rfl, hb12⟩))
  go_ret
  exact ⟨rfl, (HB9.out.trans (HB11.out.mono HB9.out.size)).trans (hb12.mono (by have := (HB9.out.trans (HB11.out.mono HB9.out.size)).size; omega))⟩
end Go.Proofs.YtiadfijeglbdlaaDoor

namespace Go.Proofs.YtiadfijeglbdlaaDoor
open Go.RowKit

theorem wl_append_keys {ops : Array Oper} {rest : List Oper} {o : Oper} {a : Act} {Q : Exit → Act → World → Prop} {w : World} (hgd : o.guard = none) (d s : Operand) (ho : o.op = .call { callee := .builtin .append, args := #[d, s], argTypes := #[24, 24] })
    (B : Nat) (ks : List (List UInt8)) (ad : Option Addr) (c : Nat) (hd : a.eval d = .slice none 0 0) (hs : a.eval s = .slice ad ks.length c) (h : RStr w ks ad c) (hlen : ks.length ≤ 8796093022208) (hB : B ≤ w.heap.size)
    (hK : ∀ v' w', w'.ownsRow B 9 1 v' ks.length (ks.map fun k => Value.string (bstr k)) → Below w.heap.size w w' → wpList Tryd.prog ops Q rest (a.put o.dst v') w') : wpList Tryd.prog ops Q (o :: rest) a w := by
  obtain ⟨i0, hi, hz0, hz1, hz2⟩ := info_parts (show (Tryd.prog.info? 9).map (fun i => (i.zero, i.size, i.bytes)) = some (some (.string ⟨#[]⟩), 1, 16) by kernel_rfl)
  cases ad with
  | none =>
    have h0 := h.nil rfl
    have h1 := h.le
    subst h0
    have h2 : ks = [] := List.eq_nil_of_length_eq_zero (by omega)
    subst h2
    exact wpList_append_own_none hgd d s 24 ho B 9 i0 1 Tryd.underlying24 hi _ 0 [] hd (World.ownsRow_nil w _ _ _) hs (hK _ w (World.ownsRow_nil w _ _ _) (Below.refl _ _))
  | some ad =>
    refine wpList_append_own w hgd d s 24 ho w.heap.size 9 i0 _ 1 16 Tryd.underlying24 hi hz0 hz1 hz2 rfl (by decide) _ 0 [] hd (World.ownsRow_nil w _ _ _) ad ks.length c (ks.map fun k => Value.string (bstr k)) hs (by simp) (fun j u hj => ?_) (fun u hu => ?_) (by unfold maxLen; omega) (by omega) (Nat.le_refl _) ?_
    · have hjl := (List.getElem?_eq_some_iff.1 hj).1
      rw [List.length_map] at hjl
      obtain ⟨b, off, e, -, hc⟩ := h.mem (by omega)
      cases e
      rw [Addr.add_lit, hc j hjl, ← hj]
      simp [List.getD, hjl]
    · obtain ⟨k, -, rfl⟩ := List.mem_map.1 hu
      rfl
    · intro v' w' h1 h2 _
      exact hK v' w' (row_base (by simpa using h1) hB) ⟨h2.os, h2.tape, h2.output, h2.size, fun k hk => h2.block k hk (by simp [Value.ownBlock])⟩
/-- five cells of a value of which nothing is known but what it reads as -/
theorem rv_five {w : World} {k : Int} {s : List UInt8} {n : Nat} {l : List JV} {ks : List (List UInt8)} {cs : List Value} (h : RV w (.mk k s n l ks) cs) : ∃ a c a' c', cs = [.int .i64 k, .string (bstr s), .int .u64 (n : Int), .slice a l.length c, .slice a' ks.length c'] ∧ (-9223372036854775808 ≤ k ∧ k ≤ 9223372036854775807 ∧ n < 18446744073709551616) ∧ RStr w ks a' c' ∧
      (l.length ≤ c ∧ c ≤ 9223372036854775807) ∧ (a = none → c = 0) ∧ (0 < l.length → ∃ b off, a = some ⟨b, off, none⟩ ∧ b < w.heap.size ∧ RL w l b off) := by
  unfold RV at h
  exact h
/-- a row of values and one of names, as a value -/
theorem sv_rows {D D' : Nat → Prop} {B : Nat} {T : TypeId} {w : World} {k : Int} {s : List UInt8} {n : Nat} {l : List JV} {ks : List (List UInt8)} {lv kv : Value} {xs : List Value} (hk : -9223372036854775808 ≤ k ∧ k ≤ 9223372036854775807 ∧ n < 18446744073709551616)
    (hkeys : ∃ a' c', kv = .slice a' ks.length c' ∧ SStr D' w ks a' c') (h1 : w.ownsRow B T 5 lv l.length xs) (h2 : ∀ i v, l[i]? = some v → SV D w v (cell5 xs i)) (hD : ∀ b, D b → b < w.heap.size → D' b) (hl : ∀ k, lv.ownBlock = some k → D' k) :
    SV D' w (.mk k s n l ks) [.int .i64 k, .string (bstr s), .int .u64 (n : Int), lv, kv] := by
  have key2 : ∃ a c, lv = .slice a l.length c ∧ (l.length ≤ c ∧ c ≤ 9223372036854775807) ∧ (a = none → c = 0) ∧ (0 < l.length → ∃ b off, a = some ⟨b, off, none⟩ ∧ D' b ∧ PlainB w b ∧ SL D' w l b off) := by
    have hc := @World.ownsRow.cells _ _ _ _ _ _ _ h1
    have hlen := h1.1
    obtain ⟨e1, ⟨rfl, hn0⟩ | ⟨g, cap, cur, rfl, hg1, hg2, hg3, hg4, -⟩⟩ := h1
    · exact ⟨none, 0, by rw [hn0], ⟨by omega, by omega⟩, fun _ => rfl, fun h0 => by omega⟩
    · refine ⟨some ⟨g, 0, none⟩, cap, rfl, ⟨hg3, by unfold maxLen at hg4; omega⟩, (by intro e; cases e), fun h0 => ⟨g, 0, rfl, hl g rfl, ⟨_, _, hg2⟩, sl_mk g l 0 fun i v hiv => ?_⟩⟩
      have hil := (List.getElem?_eq_some_iff.1 hiv).1
      have hv := h2 i v hiv
      have h5 := sv_len hv
      refine ⟨cell5 xs i, h5, fun j hj => ?_, sv_to hD (fun _ _ _ => rfl) v _ hv⟩
      have hx : xs[5 * i + j]? = (cell5 xs i)[j]? := by
        unfold cell5
        rw [List.getElem?_take, if_pos hj, List.getElem?_drop]
      rw [← hx, List.getElem?_eq_getElem (by omega)]
      have := hc (g := g) rfl (5 * i + j) (xs[5 * i + j]'(by omega)) (List.getElem?_eq_getElem (by omega))
      rw [Addr.add_lit] at this
      exact this
  obtain ⟨a', c', rfl, k1⟩ := hkeys
  obtain ⟨a, c, rfl, k2, k3, k4⟩ := key2
  unfold SV
  exact ⟨a, c, a', c', rfl, hk, k1, k2, k3, k4⟩
theorem row_sstr {D' : Nat → Prop} {B : Nat} {w : World} {ks : List (List UInt8)} {kv : Value} (hkeys : w.ownsRow B 9 1 kv ks.length (ks.map fun k => Value.string (bstr k))) (hk : ∀ k, kv.ownBlock = some k → D' k) : ∃ a' c', kv = .slice a' ks.length c' ∧ SStr D' w ks a' c' := by
  have hlt := World.ownsRow.lt hkeys
  have hc := @World.ownsRow.cells _ _ _ _ _ _ _ hkeys
  obtain ⟨e1, ⟨rfl, hn0⟩ | ⟨g, cap, cur, rfl, hg1, hg2, hg3, hg4, -⟩⟩ := hkeys
  · exact ⟨none, 0, by rw [hn0], ⟨⟨by omega, by omega, fun _ => rfl, fun h0 => by omega⟩, fun h0 => by omega⟩⟩
  · refine ⟨some ⟨g, 0, none⟩, cap, rfl, ⟨⟨hg3, by unfold maxLen at hg4; omega, (by intro e; cases e), fun h0 => ?_⟩, fun h0 => ⟨g, 0, rfl, hk g rfl⟩⟩⟩
    refine ⟨g, 0, rfl, (hlt g rfl).2, fun i hi => ?_⟩
    have := hc (g := g) rfl i (.string (bstr (ks.getD i []))) (by simp [List.getD, hi])
    rw [Addr.add_lit] at this
    simpa using this
/-- append of one value, as one operation -/
theorem ow_append_J {o : Oper} {a : Act} {K : Act → World → Prop} {Q : Exit → Act → World → Prop} {w : World} (d s : Operand) (ho : o.op = .call { callee := .builtin .append, args := #[d, s], argTypes := #[28, 28] })
    (B n : Nat) (v : Value) (xs : List Value) (hown : w.ownsRow B 30 5 v n xs) (hd : a.eval d = v) (g1 : Nat) (T' : TypeId) (cs : List Value) (hcs : cs.length = 5) (hone : ∀ u ∈ cs, u.oneCell' = true) (hs : a.eval s = .slice (some ⟨g1, 0, none⟩) 1 1)
    (hA : Arr w g1 T' cs) (hlen : n + 1 ≤ 1759218604441) (hB : B ≤ w.heap.size)
    (hK : ∀ v' w', w'.ownsRow B 30 5 v' (n + 1) (xs ++ cs) → Tch w w' v.ownBlock.toList → (∀ k, v'.ownBlock = some k → v.ownBlock = some k ∨ w.heap.size ≤ k) → K (a.put o.dst v') w') : Oper.wp Tryd.prog o a w K Q := by
  obtain ⟨i0, hi, hz0, hz1, hz2⟩ := info_parts (show (Tryd.prog.info? 30).map (fun i => (i.zero, i.size, i.bytes)) = some (some (.agg #[.int .i64 0, .string ⟨#[]⟩, .int .u64 0, .slice none 0 0, .slice none 0 0]), 5, 80) by kernel_rfl)
  have hc : ∀ j u, cs[j]? = some u → w.cell? ((⟨g1, 0, none⟩ : Addr).add j) = some u := fun j u hj => by
    rw [Addr.add_lit, Nat.zero_add]
    exact (hA.cell j).trans hj
  rcases hown.2 with ⟨hv, hn⟩ | ⟨g, cap, cur, hv, hg, hcc, hcap, hm, hcs2, hct⟩
  · subst hv
    subst hn
    have hxs : xs = [] := List.eq_nil_of_length_eq_zero (by have := hown.1; simpa using this)
    subst hxs
    refine wp_append_own w d s 28 ho w.heap.size 30 i0 _ 5 80 Tryd.underlying28 hi hz0 hz1 hz2 rfl (by decide) _ 0 [] hd (World.ownsRow_nil w _ _ _) ⟨g1, 0, none⟩ 1 1 cs hs (by rw [hcs]) hc hone (by unfold maxLen; omega) (by omega) (Nat.le_refl _) ?_
    intro v' w' h2 h3 _
    exact hK v' w' (row_base h2 hB) (Tch.of_grown h3) (fun k hk => .inr (World.ownsRow.lt h2 k hk).1)
  · by_cases hr : n + 1 ≤ cap
    · subst hv
      obtain ⟨w', hrun, r1, r2⟩ := run_append_fits (P := Tryd.prog) w B 28 o.type 30 i0 5 Tryd.underlying28 hi hz1 g n cap xs hown ⟨g1, 0, none⟩ 1 1 cs (by rw [hcs]) hc hone hr
      unfold Oper.wp
      simp [execOp, ho, resolve, invoke, builtin, hd, hs, hrun, Result.andThen]
      exact hK _ _ r1 (Tch.of_grown r2) (fun k hk => .inl hk)
    · have hold : ∀ j u, xs[j]? = some u → w.cell? ((⟨g, 0, none⟩ : Addr).add j) = some u := fun j u hj => World.ownsRow.cells hown (g := g) (by rw [hv]; rfl) j u hj
      obtain ⟨v', w', hrun, r1, r2⟩ := run_append_arg_grows (P := Tryd.prog) (w := w) 28 o.type 30 i0 _ 5 80 Tryd.underlying28 hi hz0 hz1 hz2 rfl (by decide) ⟨g, 0, none⟩ n cap xs hown.1 hold ⟨g1, 0, none⟩ 1 1 cs (by rw [hcs]) hc (by omega) (by unfold maxLen; omega) (by omega)
      unfold Oper.wp
      simp [execOp, ho, resolve, invoke, builtin, hd, hs, hv, hrun, Result.andThen]
      exact hK _ _ (row_base r1 hB) ((Tch.of_grown r2).mono (by simp)) (fun k hk => .inr (World.ownsRow.lt r1 k hk).1)
/-- append of one value, as one operation -/
theorem ow_append_R {o : Oper} {a : Act} {K : Act → World → Prop} {Q : Exit → Act → World → Prop} {w : World} (d s : Operand) (ho : o.op = .call { callee := .builtin .append, args := #[d, s], argTypes := #[23, 23] })
    (B n : Nat) (v : Value) (xs : List Value) (hown : w.ownsRow B 26 5 v n xs) (hd : a.eval d = v) (g1 : Nat) (T' : TypeId) (cs : List Value) (hcs : cs.length = 5) (hone : ∀ u ∈ cs, u.oneCell' = true) (hs : a.eval s = .slice (some ⟨g1, 0, none⟩) 1 1)
    (hA : Arr w g1 T' cs) (hlen : n + 1 ≤ 1759218604441) (hB : B ≤ w.heap.size)
    (hK : ∀ v' w', w'.ownsRow B 26 5 v' (n + 1) (xs ++ cs) → Tch w w' v.ownBlock.toList → (∀ k, v'.ownBlock = some k → v.ownBlock = some k ∨ w.heap.size ≤ k) → K (a.put o.dst v') w') : Oper.wp Tryd.prog o a w K Q := by
  obtain ⟨i0, hi, hz0, hz1, hz2⟩ := info_parts (show (Tryd.prog.info? 26).map (fun i => (i.zero, i.size, i.bytes)) = some (some (.agg #[.int .i64 0, .string ⟨#[]⟩, .int .u64 0, .slice none 0 0, .slice none 0 0]), 5, 80) by kernel_rfl)
  have hc : ∀ j u, cs[j]? = some u → w.cell? ((⟨g1, 0, none⟩ : Addr).add j) = some u := fun j u hj => by
    rw [Addr.add_lit, Nat.zero_add]
    exact (hA.cell j).trans hj
  rcases hown.2 with ⟨hv, hn⟩ | ⟨g, cap, cur, hv, hg, hcc, hcap, hm, hcs2, hct⟩
  · subst hv
    subst hn
    have hxs : xs = [] := List.eq_nil_of_length_eq_zero (by have := hown.1; simpa using this)
    subst hxs
    refine wp_append_own w d s 23 ho w.heap.size 26 i0 _ 5 80 Tryd.underlying23 hi hz0 hz1 hz2 rfl (by decide) _ 0 [] hd (World.ownsRow_nil w _ _ _) ⟨g1, 0, none⟩ 1 1 cs hs (by rw [hcs]) hc hone (by unfold maxLen; omega) (by omega) (Nat.le_refl _) ?_
    intro v' w' h2 h3 _
    exact hK v' w' (row_base h2 hB) (Tch.of_grown h3) (fun k hk => .inr (World.ownsRow.lt h2 k hk).1)
  · by_cases hr : n + 1 ≤ cap
    · subst hv
      obtain ⟨w', hrun, r1, r2⟩ := run_append_fits (P := Tryd.prog) w B 23 o.type 26 i0 5 Tryd.underlying23 hi hz1 g n cap xs hown ⟨g1, 0, none⟩ 1 1 cs (by rw [hcs]) hc hone hr
      unfold Oper.wp
      simp [execOp, ho, resolve, invoke, builtin, hd, hs, hrun, Result.andThen]
      exact hK _ _ r1 (Tch.of_grown r2) (fun k hk => .inl hk)
    · have hold : ∀ j u, xs[j]? = some u → w.cell? ((⟨g, 0, none⟩ : Addr).add j) = some u := fun j u hj => World.ownsRow.cells hown (g := g) (by rw [hv]; rfl) j u hj
      obtain ⟨v', w', hrun, r1, r2⟩ := run_append_arg_grows (P := Tryd.prog) (w := w) 23 o.type 26 i0 _ 5 80 Tryd.underlying23 hi hz0 hz1 hz2 rfl (by decide) ⟨g, 0, none⟩ n cap xs hown.1 hold ⟨g1, 0, none⟩ 1 1 cs (by rw [hcs]) hc (by omega) (by unfold maxLen; omega) (by omega)
      unfold Oper.wp
      simp [execOp, ho, resolve, invoke, builtin, hd, hs, hv, hrun, Result.andThen]
      exact hK _ _ (row_base r1 hB) ((Tch.of_grown r2).mono (by simp)) (fun k hk => .inr (World.ownsRow.lt r1 k hk).1)
end Go.Proofs.YtiadfijeglbdlaaDoor
