/-
  The document's own answers for entries: numbers, vectors, lists, leaf, what is signed, extra bytes, record: a contract for each call. Conditions: those in each statement.
-/
import Derived.Test.YtcohcjhbkiangaaEnF
namespace Go.Proofs.Ytcohcjhbkiangaa
open Go.RowKit

theorem own_lit (w : World) (xs : List UInt8) (E : TypeId) (hl : xs.length ≤ maxLen) : Own (w.alloc (.cells (xs.map bv).toArray E)) w.heap.size E (.slice (some ⟨w.heap.size, 0, none⟩) xs.length xs.length) xs := by
  have := World.ownsRow_lit (base := w.heap.size) (e := E) (size := 1) w (xs.map bv).toArray xs.length (Nat.le_refl _) hl (by simp)
  unfold Own
  simpa using this
theorem rd_lit (w : World) (xs : List UInt8) (E : TypeId) (hl : xs.length ≤ maxLen) : Rd (w.alloc (.cells (xs.map bv).toArray E)) (some ⟨w.heap.size, 0, none⟩) xs.length xs.length xs := (own_lit w xs E hl).rd.toRd

/-- append of bytes, as one operation -/
theorem ow_append {o : Oper} {a : Act} {K : Act → World → Prop} {Q : Exit → Act → World → Prop} {w : World} (d s : Operand) (ho : o.op = .call { callee := .builtin .append, args := #[d, s], argTypes := #[27, 27] })
    (B : Nat) (v : Value) (ys : List UInt8) (hown : Own w B 5 v ys) (hd : a.eval d = v) (ad : Addr) (sLen sCap : Nat) (xs : List UInt8)
    (hs : a.eval s = .slice (some ad) sLen sCap) (hrd : Rd w (some ad) sLen sCap xs) (hb : ys.length + sLen ≤ 140737488355328) (hB : B ≤ w.heap.size)
    (hK : ∀ v' w', Own w' B 5 v' (ys ++ xs) → Below B w w' → K (a.put o.dst v') w') : Oper.wp Try.prog o a w K Q := by
  obtain ⟨i0, hi, hz0, hz1, hz2⟩ := info_parts bt.info
  refine wp_append_own w d s 27 ho B 5 i0 (.int .u8 0) 1 1 bt.sl hi hz0 hz1 hz2 rfl (by decide) v _ _ hd hown ad sLen sCap (xs.map bv) hs (by simp [hrd.len]) hrd.cells bv_oneCell (by unfold maxLen; omega) (by omega) hB ?_
  intro v' w' h1 h2 _
  refine hK v' w' ?_ ((Below.refl _ _).grown h2 hB fun k hk => (World.ownsRow.lt hown k hk).1)
  unfold Own
  rw [List.length_append, List.map_append, hrd.len]
  exact h1

theorem refnum_any (n m : Nat) (hn : n ≤ 18446744073709551615) (hm : sizeB m = true) (hfit : n < 256 ^ m) (w : World) :
    Calls Try.prog 34 #[.int .u64 n, .int .i64 m] w fun e w' => ∃ v, e = .returned v ∧ Own w' w.heap.size 5 v (digits n m) ∧ Below w.heap.size w w' := by
  have H := refNum_any none 0 0 n m [] w (by omega) hn (Rd.none w)
  have e0 : numF [] n m = (digits n m, 0) := by simp [numF, hm, hfit]
  rw [e0] at H
  clear e0 hfit
  go_enter Try.func34, Try.ntmps34
  go_wp2_with (go_at_call 54; refine H.mono ?_; rintro e w1 ⟨v, rfl, ho, hb1⟩)
  go_ret
  exact ⟨_, rfl, ho, hb1⟩
theorem refvec_any (a : Option Addr) (n cap m : Nat) (hm : vecB m = true) (ys : List UInt8) (w : World) (hr : Rd w a n cap ys) (hfit : ys.length < 256 ^ m) (hl : ys.length ≤ 1048576) :
    Calls Try.prog 35 #[.slice a n cap, .int .i64 m] w fun e w' => ∃ v, e = .returned v ∧ Own w' w.heap.size 5 v (digits ys.length m ++ ys) ∧ Below w.heap.size w w' := by
  have H := refVec_any none a 0 0 n cap m [] ys w (by omega) (by have := hr.len; omega) (Rd.none w) hr
  have e0 : vecF [] ys m = (digits ys.length m ++ ys, 0) := by simp [vecF, hm, hfit]
  rw [e0] at H
  clear e0 hfit hr
  go_enter Try.func35, Try.ntmps35
  go_wp2_with (go_at_call 55; refine H.mono ?_; rintro e w1 ⟨v, rfl, ho, hb1⟩)
  go_ret
  exact ⟨_, rfl, ho, hb1⟩

set_option maxHeartbeats 1000000 in
theorem reflist_any (a : Option Addr) (n cap : Nat) (xss : List (List UInt8)) (w : World) (hn : n ≤ 1000) (hlen : (catF xss).length ≤ 1048576) (h : Chn w a n cap xss) :
    Calls Try.prog 38 #[.slice a n cap] w fun e w' => ∃ v, e = .returned v ∧ Own w' w.heap.size 5 v (listF xss) ∧ Below w.heap.size w w' := by
  have hl := h.len
  have hcap := h.le
  have hc := h.mem
  have HL := Lib.hid hl
  clear hl h
  go_enter Try.func38, Try.ntmps38
  go_wp2
  generalize hB : w.heap.size = B at *
  have HB := Lib.hid hB
  clear hB
  go_loopw [3, 4] (fun v i wr => ∃ (k : Nat) (av : Option Addr) (nv cv : Nat), k ≤ n ∧ i = .int .i64 k ∧ v = .slice av nv cv ∧ Own wr B 5 (.slice av nv cv) (catF (xss.take k)) ∧ Below B w wr) (fun _ i _ => n - (intOf i).toNat)
  case atStart => exact ⟨0, none, 0, 0, Nat.zero_le _, rfl, rfl, Own.nil _ _ _, Below.refl _ _⟩
  case round =>
    obtain ⟨k, av, nv, cv, hk, rfl, rfl, ho, hbr⟩ := hrel
    have hBs : B ≤ wr.heap.size := by have := hbr.size; rw [HB.out] at this; exact this
    have hBw : Below w.heap.size w wr := by rw [HB.out]; exact hbr
    have HBW := Lib.hid hBw
    have hol := ho.rd.len
    clear hBw
    by_cases hlt : k < n
    · obtain ⟨b, off, rfl, hb, hc⟩ := hc (by omega)
      obtain ⟨aj, nj, cj, hcl, hrj⟩ := hc k hlt
      have hcl' := (hbr.cell (p := ⟨b, off + k, none⟩) hb).trans hcl
      have hle := cat_step_le (xss := xss) (k := k) (by rw [HL.out]; exact hlt)
      have hst : Hid (catF (xss.take (k + 1)) = catF (xss.take k) ++ vec3 (xss.getD k [])) := cat_step (by rw [HL.out]; exact hlt)
      have hyl : (xss.getD k []).length < 256 ^ 3 := by simp only [Nat.reducePow]; omega
      have H := refvec_any aj nj cj 3 (by decide) (xss.getD k []) wr (hrj.to HBW.out) hyl (by omega)
      have hbd : Hid (nv + (xss.getD k []).length + 3 ≤ 1048576) := by show _ ≤ _; omega
      clear hcl hle hol hc hrj hyl
      go_wp2_with fail
      refine H.mono ?_
      rintro e w1 ⟨v1, rfl, ho1, hb1⟩
      obtain ⟨a1, n1, c1, rfl, hr1⟩ := ho1.reads
      have hn1 := Lib.hid hr1.len
      have HO := Lib.hid ho
      clear ho
      go_wp2_with (at_builtin; refine wl_append bt rfl (.tmp 11) (.tmp 16) rfl B _ _ (HO.out.to hb1) rfl a1 n1 c1 (vec3 (xss.getD k [])) rfl hr1.toRd (by have h1 := HO.out.rd.len; have h2 := hn1.out; have h3 := hbd.out; have h4 := vec3_len (xss.getD k []); unfold vec3 at h4; omega) (Nat.le_trans hBs hb1.size) ?_; intro v2 w2 ho2 hb2)
      obtain ⟨a2, n2, c2, rfl, -⟩ := ho2.reads
      go_roundw
      case rel =>
        refine ⟨k + 1, a2, n2, c2, by omega, by go_num, rfl, ?_, ?_⟩
        · rw [hst.out]
          exact ho2
        · exact hbr.trans ((hb1.mono hBs).trans hb2)
      case measure => simp [intOf]; omega
    · obtain rfl : k = n := by omega
      have hst : Hid (catF (xss.take k) = catF xss) := by show _ = _; rw [List.take_of_length_le (by rw [HL.out]; exact Nat.le_refl _)]
      rw [hst.out] at ho hol
      have hyl : (catF xss).length < 256 ^ 3 := by simp only [Nat.reducePow]; omega
      have H := refvec_any av nv cv 3 (by decide) (catF xss) wr ho.rd.toRd hyl hlen
      clear hst hol hc hyl hlen
      go_wp2_with fail
      refine H.mono ?_
      rintro e w1 ⟨v1, rfl, ho1, hb1⟩
      go_wp2
      go_ret
      exact ⟨_, rfl, (show Own _ _ _ _ (listF xss) from ho1).mono (by rw [HB.out]; exact hBs), HBW.out.trans (hb1.mono HBW.out.size)⟩
end Go.Proofs.Ytcohcjhbkiangaa
