/-
  The program's Take: what it tells of any text. Conditions: those in each statement.
-/
import Derived.Test.YtpfhbkjjijmpaaaBaseB
import Derived.Deep.RegionLaw
namespace Go.Proofs.Ytpfhbkjjijmpaaa
open Go.RowKit

section
variable {P : Program} {T E : TypeId} (bt : BT P T E)
include bt
/-- make([]byte, 0, n) -/
theorem wl_make0 {ops : Array Oper} {rest : List Oper} {o : Oper} {a : Act} {Q : Exit → Act → World → Prop} {w : World} (hg : o.guard = none) (l c : Operand) (hop : o.op = Op.makeSlice T l c) (B : Nat) (n : Nat) (hl : a.eval l = .int .i64 0) (hc : a.eval c = .int .i64 n)
    (hn : n ≤ 281474976710656) (hB : B ≤ w.heap.size)
    (hK : ∀ w', Own w' B E (.slice (some ⟨w.heap.size, 0, none⟩) 0 n) [] → Below w.heap.size w w' → w'.heap.size = w.heap.size + 1 → wpList P ops Q rest (a.put o.dst (.slice (some ⟨w.heap.size, 0, none⟩) 0 n)) w') :
    wpList P ops Q (o :: rest) a w := by
  obtain ⟨i0, hi, hz0, hz1, hz2⟩ := info_parts bt.info
  refine wpList_plain hg fun K hK' => ?_
  have hrun := run_make (P := P) w T E i0 (.int .u8 0) bt.sl hi hz0 .i64 .i64 0 n (by omega) (by omega) (by rw [hz2]; omega) (by omega)
  unfold Oper.wp
  simp [execOp, hop, hl, hc, hrun, Result.andThen]
  refine hK' _ _ (hK _ ?_ ?_ ?_)
  · exact World.ownsRow_made w _ n hB (by unfold maxLen; omega) (by rw [hz1]; simp [madeCells, Value.cells])
  · exact (Below.refl _ _).alloc (Nat.le_refl _) _
  · simp
end

theorem boxed_to {w w' : World} {b : Nat} {t : TypeId} {v : Value} (h : Boxed w b t v) (hb : Below w.heap.size w w') : Boxed w' b t v := (hb.block b h.lt).trans h
/-- how much is left in a box that holds a text -/
def strAt (g : Nat) (w : World) : Nat := match w.heap[g]? with | some (.cells cs _ _) => (match cs[0]? with | some (Value.string t) => t.size | _ => 0) | _ => 0
theorem strAt_boxed {w : World} {g : Nat} {E : TypeId} {t : ByteArray} (h : Boxed w g E (.string t)) : strAt g w = t.size := by
  unfold strAt
  rw [show w.heap[g]? = _ from h]
  rfl
theorem own_kept {w w' : World} {B : Nat} {E : TypeId} {v : Value} {xs : List UInt8} (h : Own w B E v xs) {r : Nat} (hg : w.grownBy w' (some r)) (hr : r < B) : Own w' B E v xs := by
  refine World.ownsRow.kept h hg ?_
  obtain ⟨_, ⟨rfl, _⟩ | ⟨g, cap, cur, rfl, hbb, _⟩⟩ := h
  · exact .inl rfl
  · refine .inr fun e => ?_
    simp only [Value.ownBlock] at e
    injection e with e
    omega
theorem or_bits (x v : Nat) (hx : x < 64) (hv : v < 64) : bits BinOp.or IntKind.u32 ((x * 64 : Nat) : Int) (v : Int) = ((x * 64 + v : Nat) : Int) := by
  have h : ∀ a b : Fin 64, bits BinOp.or IntKind.u32 ((a.val * 64 : Nat) : Int) (b.val : Int) = ((a.val * 64 + b.val : Nat) : Int) := by decide +kernel
  exact h ⟨x, hx⟩ ⟨v, hv⟩

set_option maxRecDepth 100000 in
set_option maxHeartbeats 1600000 in
theorem Take_any (s : ByteArray) (w : World) (hs : s.size ≤ 187649984473088) : Calls Try.prog 7 #[.string s] w (TRes (takeB s.data.toList) w) := by
  have hls : s.data.toList.length = s.size := by simp
  have hun := Lib.hid (fun w => unpadded_any s w (by omega))
  obtain ⟨res, hr⟩ : ∃ r, r = takeB s.data.toList := ⟨_, rfl⟩
  rw [← hr]
  obtain ⟨l, hl⟩ : ∃ l, l = s.data.toList := ⟨_, rfl⟩
  rw [← hl] at hls hun hr
  clear hl
  have HR := Lib.hid hr
  clear hr
  obtain ⟨n, hn⟩ : ∃ n, n = s.size := ⟨_, rfl⟩
  have hsn : (s.size : Int) = (n : Int) := by omega
  rw [← hn] at hs hls
  have HN := Lib.hid hn
  clear hn
  by_cases h4 : n % 4 = 0
  · have h4' : (n : Int) % 4 = 0 := by omega
    have htr := trimP_pad l (by rw [hls]; exact h4)
    rw [hls] at htr
    rw [htr] at hun
    clear htr
    have hpl := padN_le l
    have hp0 : n = 0 → padN l = 0 := fun h => by unfold padN; rw [if_pos (by rw [hls]; exact h)]
    obtain ⟨P, hP⟩ : ∃ P, P = padN l := ⟨_, rfl⟩
    rw [← hP] at hun hpl hp0
    obtain ⟨m, hm⟩ : ∃ m, m = n - P := ⟨_, rfl⟩
    rw [← hm] at hun
    have hmn : m ≤ n := by omega
    have hPm : n = m + P := by omega
    have HP := Lib.hid hP
    have HM := Lib.hid hm
    clear hP hm
    have hmL : (l.take m).length = m := by rw [List.length_take]; omega
    obtain ⟨t0, ht0⟩ : ∃ t, t = bstr (l.take m) := ⟨_, rfl⟩
    have hts : (t0.size : Int) = (m : Int) := by rw [ht0, bstr_size, hmL]
    have htl : t0.data.toList = l.take m := by rw [ht0]; rfl
    rw [← ht0] at hun
    clear ht0
    obtain ⟨cap, hcap⟩ : ∃ c, c = n / 4 * 3 - P := ⟨_, rfl⟩
    have ec : (n : Int) / 4 * 3 - ((n : Int) - (m : Int)) = (cap : Int) := by omega
    have hcap2 : cap ≤ 140737488354816 := by omega
    clear hcap
    have HPM := Lib.hid hPm
    clear hPm
    go_enter Try.func7, Try.ntmps7
    go_wp2_with (first
      | (go_at_call 12; refine (hun.out _).mono ?_; rintro e w1 ⟨rfl, hw⟩; obtain rfl := hw.symm)
      | (at_make; refine wl_make0 bt rfl _ _ rfl (w.heap.size + 1) cap rfl rfl (by omega) (by simp) ?_; intro w2 ho2 hb2 hs2))
    have hx2 : Boxed w2 w.heap.size 9 (.string t0) := boxed_to (Boxed.new w 9 (.string t0)) hb2
    have hB2 : Below w.heap.size w w2 := ((Below.refl _ w).alloc (Nat.le_refl _) _).trans (hb2.mono (by simp))
    have hs2' : w.heap.size + 1 ≤ w2.heap.size := by rw [hs2]; simp
    simp only [World.size_alloc] at ho2
    generalize hg : w.heap.size = g at *
    have HG := Lib.hid hg
    clear hg hb2 hs2
    go_loopw [6, 7, 8] (fun o x h wr => ∃ (k : Nat) (t : ByteArray), k ≤ m ∧ t.data.toList = (l.take m).drop k ∧ Boxed wr g 9 (.string t) ∧ x = .int .u32 (leftB (bitsL (l.take k)) : Nat) ∧ h = .int .i64 (6 * k % 8 : Nat) ∧
      Own wr (g + 1) 5 o (outB (bitsL (l.take k)) (6 * k / 8)) ∧ Hid (∀ j, j < k → isL (l.getD j 0) = true) ∧ Below g w wr ∧ g + 1 ≤ wr.heap.size) (fun _ _ _ wr => strAt g wr)
    case atStart => exact ⟨0, t0, by omega, by rw [htl]; rfl, hx2, rfl, rfl, ho2, fun j hj => by omega, hB2, hs2'⟩
    case round =>
      clear hx2 hB2 hs2' ho2
      obtain ⟨k, t, hk, ht, hbx, rfl, rfl, ho, HL, hB, hsz⟩ := hrel
      have hcell := hbx.cell
      have htl2 : t.data.toList.length = t.size := by simp
      have htsz : t.size = m - k := by rw [← htl2, ht, List.length_drop, hmL]
      have hms := strAt_boxed hbx
      have hbit := bitsL_bit (l.take k)
      have hbl : (bitsL (l.take k)).length = 6 * k := by rw [bitsL_len, List.length_take]; omega
      by_cases hlt : k < m
      · have ht0 : 0 < t.size := by omega
        have hti : (0 : Int) < (t.size : Int) := by omega
        obtain ⟨c, hc⟩ : ∃ c, c = l.getD k 0 := ⟨_, rfl⟩
        have hcd : t.data.toList.getD 0 0 = c := by
          rw [hc, ht, List.getD_eq_getElem?_getD, List.getD_eq_getElem?_getD, List.getElem?_drop, List.getElem?_take, if_pos (by omega)]
          rfl
        have hnx := Lib.hid (next_any g t wr hbx ht0 (by omega))
        rw [hcd] at hnx
        clear hcd
        by_cases hL : isL c = true
        · obtain ⟨v, hv⟩ : ∃ v, v = num c := ⟨_, rfl⟩
          have hv64 : v < 64 := by rw [hv]; exact num_lt hL
          have hI : numI c % 4294967296 = (v : Int) := by unfold numI; rw [if_pos hL, hv]; omega
          rw [hI, hL] at hnx
          clear hI
          have htk : l.take (k + 1) = l.take k ++ [c] := by
            rw [List.take_succ_eq_append_getElem (by omega), hc, List.getD_eq_getElem?_getD, List.getElem?_eq_getElem (by omega)]
            rfl
          have hbs : bitsL (l.take (k + 1)) = bitsL (l.take k) ++ six v := by rw [htk, bitsL_snoc, hv]
          have hbit2 := bitsL_bit (l.take (k + 1))
          have HLn : Hid (∀ j, j < k + 1 → isL (l.getD j 0) = true) := fun j hj => by
            by_cases hjk : j = k
            · subst hjk; rw [← hc]; exact hL
            · exact HL.out j (by omega)
          have HT : Hid (t.data.toList = (l.take m).drop k) := ht
          have HMS := Lib.hid hms
          have HTS := Lib.hid htsz
          clear hc hv hL htk ht hms htl2 htsz HL
          have hxl := leftB_lt (bitsL (l.take k)) hbit
          have hf := step_few (bitsL (l.take k)) hv64
          have hb := fun e => step_byte (bitsL (l.take k)) (e := e) hv64
          rw [← hbs] at hf hb
          have hbl2 : (bitsL (l.take (k + 1))).length = 6 * k + 6 := by rw [hbs, List.length_append, hbl, six_len]
          rw [hbl2, hbl] at hf hb
          rw [hbl] at hxl
          have hol := outB_len (bitsL (l.take k)) (6 * k / 8)
          clear hbs hbl hbl2 hbit
          generalize outB (bitsL (l.take k)) (6 * k / 8) = O at *
          generalize leftB (bitsL (l.take k)) = X at *
          have HBIT := Lib.hid hbit2
          clear hbit2
          have hk4 : k % 4 = 0 ∨ k % 4 = 1 ∨ k % 4 = 2 ∨ k % 4 = 3 := by omega
          rcases hk4 with hk4 | hk4 | hk4 | hk4
          · have e6 : 6 * k % 8 = 0 := by omega
            rw [e6] at hxl hf hb ⊢
            have hX : X < 1 := by simpa using hxl
            obtain ⟨Y, hY⟩ : ∃ Y, Y = X * 64 + v := ⟨_, rfl⟩
            rw [← hY] at hf hb
            have hor : bits BinOp.or IntKind.u32 ((X : Int) * 64 % 4294967296) (v : Int) = (Y : Int) := by
              have := or_bits X v (by omega) hv64
              rw [hY, ← this]
              congr 1
              omega
            have hor2 : bits BinOp.or IntKind.u32 ((X : Int) * 64) (v : Int) = (Y : Int) := by
              have := or_bits X v (by omega) hv64
              rw [hY, ← this]
              congr 1
            have hY4 : Y < 64 := by omega
            have hkO : O.length ≤ 140737488355000 := by omega
            obtain ⟨hx1, ho1⟩ := hf (by omega)
            have HX1 := Lib.hid hx1
            have HO1 := Lib.hid ho1
            have hX0 : X = 0 := by omega
            subst hX0
            have hYv : Y = v := by omega
            subst hYv
            clear hf hb hY hxl hx1 ho1 hor hor2
            have hor : bits BinOp.or IntKind.u32 0 (Y : Int) = (Y : Int) := by
              have := or_bits 0 Y (by omega) hv64
              rw [Nat.zero_mul, Nat.zero_add] at this
              exact this
            go_wp2_with (go_at_call 13; refine hnx.out.mono ?_; rintro e w1 ⟨rfl, t1, ht1, hbx1, hg1⟩)
            have ho3 := own_kept ho hg1 (by omega)
            have hB3 := hB.grown hg1 (by omega) (by intro q e; injection e with e; omega)
            have hs3 := hg1.size
            have hms1 := strAt_boxed hbx1
            have htsz1 : t1.size = t.size - 1 := by
              have : t1.data.toList.length = t1.size := by simp
              rw [← this, ht1, List.length_drop]
              simp
            go_roundw
            case rel => exact ⟨k + 1, t1, by omega, by rw [ht1, HT.out, List.drop_drop], hbx1, by rw [HX1.out], by have e : 6 * (k + 1) % 8 = 6 := (by omega); rw [e]; rfl, by have e : 6 * (k + 1) / 8 = (6 * k + 6) / 8 := (by omega); rw [e, HO1.out]; exact ho3, HLn, hB3, by omega⟩
            case measure => rw [hms1, htsz1, HMS.out]; omega
          · have e6 : 6 * k % 8 = 6 := by omega
            rw [e6] at hxl hf hb ⊢
            have hX : X < 64 := by simpa using hxl
            obtain ⟨Y, hY⟩ : ∃ Y, Y = X * 64 + v := ⟨_, rfl⟩
            rw [← hY] at hf hb
            have hor : bits BinOp.or IntKind.u32 ((X : Int) * 64 % 4294967296) (v : Int) = (Y : Int) := by
              have := or_bits X v (by omega) hv64
              rw [hY, ← this]
              congr 1
              omega
            have hor2 : bits BinOp.or IntKind.u32 ((X : Int) * 64) (v : Int) = (Y : Int) := by
              have := or_bits X v (by omega) hv64
              rw [hY, ← this]
              congr 1
            have hY4 : Y < 4096 := by omega
            have hkO : O.length ≤ 140737488355000 := by omega
            obtain ⟨hx1, ho1⟩ := hb 4 (by omega) HBIT.out
            obtain ⟨Z, hZ⟩ : ∃ Z, Z = Y / 2 ^ 4 := ⟨_, rfl⟩
            obtain ⟨M, hM⟩ : ∃ M, M = Y % 2 ^ 4 := ⟨_, rfl⟩
            rw [← hM] at hx1
            rw [← hZ] at ho1
            have HX1 := Lib.hid hx1
            have HO1 := Lib.hid ho1
            have hz : (Y : Int) / 16 = (Z : Int) := by omega
            have hraw : Hid (((UInt8.ofNat Z).toNat : Int) = (Z : Int)) := by
              show _ = _
              rw [UInt8.toNat_ofNat']
              omega
            have hand : bits BinOp.and IntKind.u32 (Y : Int) 15 = (M : Int) := by
              have h0 : bits BinOp.and IntKind.u32 (Y : Int) 15 = (Y : Int) % 16 := bits_mask .u32 32 (by decide) (fun n h0 h1 => by rw [IntKind.wrap_u32]; omega) 4 (by omega) _ (by omega) (by omega)
              rw [h0]
              omega
            clear hf hb hY hxl hZ hM hx1 ho1
            go_wp2_with (first
              | (go_at_call 13; refine hnx.out.mono ?_; rintro e w1 ⟨rfl, t1, ht1, hbx1, hg1⟩)
              | (at_builtin; refine stand ?_))
            have ho3 := own_kept ho hg1 (by omega)
            have hB3 := hB.grown hg1 (by omega) (by intro q e; injection e with e; omega)
            have hs3 : g + 1 ≤ w1.heap.size := by have := hg1.size; omega
            have hrd : Rd (w1.alloc (.cells #[.int .u8 (Z : Int)] 5)) (some ⟨w1.heap.size, 0, none⟩) 1 1 [UInt8.ofNat Z] := by
              have h := rd_lit w1 [UInt8.ofNat Z] 5
              rw [show ([UInt8.ofNat Z].map bv).toArray = #[.int .u8 (Z : Int)] from by rw [← hraw.out]; rfl] at h
              exact h
            unfold Stand
            refine wl_append_g bt rfl (.tmp 49) (.tmp 54) rfl (g + 1) _ O (ho3.to ((Below.refl _ _).alloc (Nat.le_refl _) _)) rfl (some ⟨w1.heap.size, 0, none⟩) 1 1 [UInt8.ofNat Z] rfl hrd (by omega) (by rw [World.size_alloc]; omega) ?_
            intro v5 w5 ho5 hg5
            have hB5 := (hB3.alloc (by omega) _).grown hg5 (by rw [World.size_alloc]; omega) (fun q e => by have := (World.ownsRow.lt ho3 q e).1; omega)
            have hbx5 := Boxed.kept (Boxed.alloc hbx1 _) hg5 (Boxed.not_row hbx1 (show (9 : Nat) ≠ 5 by decide) ho3)
            have hs5 : g + 1 ≤ w5.heap.size := by have h := hg5.size; rw [World.size_alloc] at h; omega
            have hms1 := strAt_boxed hbx5
            have htsz1 : t1.size = t.size - 1 := by
              have : t1.data.toList.length = t1.size := by simp
              rw [← this, ht1, List.length_drop]
              simp
            clear ho ho3 hB hB3 hrd hg5 hbx hcell hbx1
            have hle : (O ++ [UInt8.ofNat Z]).length = 6 * k / 8 + 1 := by rw [List.length_append, hol]; rfl
            obtain ⟨p5, c5, rfl, -⟩ := ho5.shape
            rw [hle] at ho5 ⊢
            clear hle
            go_wp2_with fail
            go_roundw
            case rel => exact ⟨k + 1, t1, by omega, by rw [ht1, HT.out, List.drop_drop], hbx5, by rw [HX1.out], by have e : 6 * (k + 1) % 8 = 4 := (by omega); rw [e]; rfl, by have e : 6 * (k + 1) / 8 = (6 * k + 6) / 8 := (by omega); rw [e, HO1.out]; exact ho5, HLn, hB5, hs5⟩
            case measure => rw [hms1, htsz1, HMS.out]; omega
          · have e6 : 6 * k % 8 = 4 := by omega
            rw [e6] at hxl hf hb ⊢
            have hX : X < 16 := by simpa using hxl
            obtain ⟨Y, hY⟩ : ∃ Y, Y = X * 64 + v := ⟨_, rfl⟩
            rw [← hY] at hf hb
            have hor : bits BinOp.or IntKind.u32 ((X : Int) * 64 % 4294967296) (v : Int) = (Y : Int) := by
              have := or_bits X v (by omega) hv64
              rw [hY, ← this]
              congr 1
              omega
            have hor2 : bits BinOp.or IntKind.u32 ((X : Int) * 64) (v : Int) = (Y : Int) := by
              have := or_bits X v (by omega) hv64
              rw [hY, ← this]
              congr 1
            have hY4 : Y < 1024 := by omega
            have hkO : O.length ≤ 140737488355000 := by omega
            obtain ⟨hx1, ho1⟩ := hb 2 (by omega) HBIT.out
            obtain ⟨Z, hZ⟩ : ∃ Z, Z = Y / 2 ^ 2 := ⟨_, rfl⟩
            obtain ⟨M, hM⟩ : ∃ M, M = Y % 2 ^ 2 := ⟨_, rfl⟩
            rw [← hM] at hx1
            rw [← hZ] at ho1
            have HX1 := Lib.hid hx1
            have HO1 := Lib.hid ho1
            have hz : (Y : Int) / 4 = (Z : Int) := by omega
            have hraw : Hid (((UInt8.ofNat Z).toNat : Int) = (Z : Int)) := by
              show _ = _
              rw [UInt8.toNat_ofNat']
              omega
            have hand : bits BinOp.and IntKind.u32 (Y : Int) 3 = (M : Int) := by
              have h0 : bits BinOp.and IntKind.u32 (Y : Int) 3 = (Y : Int) % 4 := bits_mask .u32 32 (by decide) (fun n h0 h1 => by rw [IntKind.wrap_u32]; omega) 2 (by omega) _ (by omega) (by omega)
              rw [h0]
              omega
            clear hf hb hY hxl hZ hM hx1 ho1
            go_wp2_with (first
              | (go_at_call 13; refine hnx.out.mono ?_; rintro e w1 ⟨rfl, t1, ht1, hbx1, hg1⟩)
              | (at_builtin; refine stand ?_))
            have ho3 := own_kept ho hg1 (by omega)
            have hB3 := hB.grown hg1 (by omega) (by intro q e; injection e with e; omega)
            have hs3 : g + 1 ≤ w1.heap.size := by have := hg1.size; omega
            have hrd : Rd (w1.alloc (.cells #[.int .u8 (Z : Int)] 5)) (some ⟨w1.heap.size, 0, none⟩) 1 1 [UInt8.ofNat Z] := by
              have h := rd_lit w1 [UInt8.ofNat Z] 5
              rw [show ([UInt8.ofNat Z].map bv).toArray = #[.int .u8 (Z : Int)] from by rw [← hraw.out]; rfl] at h
              exact h
            unfold Stand
            refine wl_append_g bt rfl (.tmp 49) (.tmp 54) rfl (g + 1) _ O (ho3.to ((Below.refl _ _).alloc (Nat.le_refl _) _)) rfl (some ⟨w1.heap.size, 0, none⟩) 1 1 [UInt8.ofNat Z] rfl hrd (by omega) (by rw [World.size_alloc]; omega) ?_
            intro v5 w5 ho5 hg5
            have hB5 := (hB3.alloc (by omega) _).grown hg5 (by rw [World.size_alloc]; omega) (fun q e => by have := (World.ownsRow.lt ho3 q e).1; omega)
            have hbx5 := Boxed.kept (Boxed.alloc hbx1 _) hg5 (Boxed.not_row hbx1 (show (9 : Nat) ≠ 5 by decide) ho3)
            have hs5 : g + 1 ≤ w5.heap.size := by have h := hg5.size; rw [World.size_alloc] at h; omega
            have hms1 := strAt_boxed hbx5
            have htsz1 : t1.size = t.size - 1 := by
              have : t1.data.toList.length = t1.size := by simp
              rw [← this, ht1, List.length_drop]
              simp
            clear ho ho3 hB hB3 hrd hg5 hbx hcell hbx1
            have hle : (O ++ [UInt8.ofNat Z]).length = 6 * k / 8 + 1 := by rw [List.length_append, hol]; rfl
            obtain ⟨p5, c5, rfl, -⟩ := ho5.shape
            rw [hle] at ho5 ⊢
            clear hle
            go_wp2_with fail
            go_roundw
            case rel => exact ⟨k + 1, t1, by omega, by rw [ht1, HT.out, List.drop_drop], hbx5, by rw [HX1.out], by have e : 6 * (k + 1) % 8 = 2 := (by omega); rw [e]; rfl, by have e : 6 * (k + 1) / 8 = (6 * k + 6) / 8 := (by omega); rw [e, HO1.out]; exact ho5, HLn, hB5, hs5⟩
            case measure => rw [hms1, htsz1, HMS.out]; omega
          · have e6 : 6 * k % 8 = 2 := by omega
            rw [e6] at hxl hf hb ⊢
            have hX : X < 4 := by simpa using hxl
            obtain ⟨Y, hY⟩ : ∃ Y, Y = X * 64 + v := ⟨_, rfl⟩
            rw [← hY] at hf hb
            have hor : bits BinOp.or IntKind.u32 ((X : Int) * 64 % 4294967296) (v : Int) = (Y : Int) := by
              have := or_bits X v (by omega) hv64
              rw [hY, ← this]
              congr 1
              omega
            have hor2 : bits BinOp.or IntKind.u32 ((X : Int) * 64) (v : Int) = (Y : Int) := by
              have := or_bits X v (by omega) hv64
              rw [hY, ← this]
              congr 1
            have hY4 : Y < 256 := by omega
            have hkO : O.length ≤ 140737488355000 := by omega
            obtain ⟨hx1, ho1⟩ := hb 0 (by omega) HBIT.out
            obtain ⟨Z, hZ⟩ : ∃ Z, Z = Y / 2 ^ 0 := ⟨_, rfl⟩
            obtain ⟨M, hM⟩ : ∃ M, M = Y % 2 ^ 0 := ⟨_, rfl⟩
            rw [← hM] at hx1
            rw [← hZ] at ho1
            have HX1 := Lib.hid hx1
            have HO1 := Lib.hid ho1
            have hz : Z = Y := by omega
            subst hz
            have hraw : Hid (((UInt8.ofNat Z).toNat : Int) = (Z : Int)) := by
              show _ = _
              rw [UInt8.toNat_ofNat']
              omega
            have hm0 : M = 0 := by omega
            subst hm0
            have hand : bits BinOp.and IntKind.u32 (Z : Int) 0 = 0 := by
              have h0 : bits BinOp.and IntKind.u32 (Z : Int) 0 = (Z : Int) % 1 := bits_mask .u32 32 (by decide) (fun n h0 h1 => by rw [IntKind.wrap_u32]; omega) 0 (by omega) _ (by omega) (by omega)
              rw [h0]
              omega
            clear hf hb hY hxl hZ hM hx1 ho1
            go_wp2_with (first
              | (go_at_call 13; refine hnx.out.mono ?_; rintro e w1 ⟨rfl, t1, ht1, hbx1, hg1⟩)
              | (at_builtin; refine stand ?_))
            have ho3 := own_kept ho hg1 (by omega)
            have hB3 := hB.grown hg1 (by omega) (by intro q e; injection e with e; omega)
            have hs3 : g + 1 ≤ w1.heap.size := by have := hg1.size; omega
            have hrd : Rd (w1.alloc (.cells #[.int .u8 (Z : Int)] 5)) (some ⟨w1.heap.size, 0, none⟩) 1 1 [UInt8.ofNat Z] := by
              have h := rd_lit w1 [UInt8.ofNat Z] 5
              rw [show ([UInt8.ofNat Z].map bv).toArray = #[.int .u8 (Z : Int)] from by rw [← hraw.out]; rfl] at h
              exact h
            unfold Stand
            refine wl_append_g bt rfl (.tmp 49) (.tmp 54) rfl (g + 1) _ O (ho3.to ((Below.refl _ _).alloc (Nat.le_refl _) _)) rfl (some ⟨w1.heap.size, 0, none⟩) 1 1 [UInt8.ofNat Z] rfl hrd (by omega) (by rw [World.size_alloc]; omega) ?_
            intro v5 w5 ho5 hg5
            have hB5 := (hB3.alloc (by omega) _).grown hg5 (by rw [World.size_alloc]; omega) (fun q e => by have := (World.ownsRow.lt ho3 q e).1; omega)
            have hbx5 := Boxed.kept (Boxed.alloc hbx1 _) hg5 (Boxed.not_row hbx1 (show (9 : Nat) ≠ 5 by decide) ho3)
            have hs5 : g + 1 ≤ w5.heap.size := by have h := hg5.size; rw [World.size_alloc] at h; omega
            have hms1 := strAt_boxed hbx5
            have htsz1 : t1.size = t.size - 1 := by
              have : t1.data.toList.length = t1.size := by simp
              rw [← this, ht1, List.length_drop]
              simp
            clear ho ho3 hB hB3 hrd hg5 hbx hcell hbx1
            have hle : (O ++ [UInt8.ofNat Z]).length = 6 * k / 8 + 1 := by rw [List.length_append, hol]; rfl
            obtain ⟨p5, c5, rfl, -⟩ := ho5.shape
            rw [hle] at ho5 ⊢
            clear hle
            go_wp2_with fail
            go_roundw
            case rel => exact ⟨k + 1, t1, by omega, by rw [ht1, HT.out, List.drop_drop], hbx5, by rw [HX1.out]; rfl, by have e : 6 * (k + 1) % 8 = 0 := (by omega); rw [e]; rfl, by have e : 6 * (k + 1) / 8 = (6 * k + 6) / 8 := (by omega); rw [e, HO1.out]; exact ho5, HLn, hB5, hs5⟩
            case measure => rw [hms1, htsz1, HMS.out]; omega
        · have hlf : isL c = false := by simpa using hL
          have hr : res = none := by
            rw [HR.out]
            unfold takeB
            rw [hls, if_pos h4, if_neg]
            intro h
            have h1 := List.all_eq_true.1 h c (by
              rw [hc, ← HP.out, ← HM.out, List.getD_eq_getElem?_getD, List.getElem?_eq_getElem (by omega)]
              exact List.mem_take_iff_getElem.2 ⟨k, by omega, rfl⟩)
            exact hL h1
          rw [hr]
          rw [hlf] at hnx
          clear hr hc ht hms htl2 htsz hL hlf
          go_wp2_with (go_at_call 13; refine hnx.out.mono ?_; rintro e w1 ⟨rfl, t1, ht1, hbx1, hg1⟩)
          have hB3 := hB.grown hg1 (by omega) (by intro q e; injection e with e; omega)
          go_ret2
          exact ⟨_, rfl, Own.nil _ _ _, HG.out ▸ hB3⟩
      · have hkm : k = m := by omega
        have ht0 : t.size = 0 := by omega
        have hall : (l.take m).all isL = true := by
          rw [List.all_eq_true]
          intro x hx
          obtain ⟨i, hi, rfl⟩ := List.mem_take_iff_getElem.1 hx
          have := HL.out i (by omega)
          rw [List.getD_eq_getElem?_getD, List.getElem?_eq_getElem (by omega)] at this
          exact this
        have hr : res = if zeroB (bitsL (l.take m)) (8 * ((bitsL (l.take m)).length / 8)) = true then some (outB (bitsL (l.take m)) ((bitsL (l.take m)).length / 8)) else none := by
          rw [HR.out]
          unfold takeB
          rw [hls, if_pos h4, ← HP.out, ← HM.out, if_pos hall]
        have hz := zeroB_left (bitsL (l.take k))
        rw [← hkm] at hr
        rw [hbl] at hr hz
        have hxl := leftB_lt (bitsL (l.take k)) hbit
        have hol := outB_len (bitsL (l.take k)) (6 * k / 8)
        rw [hbl] at hxl
        clear hall hms htl2 htsz ht hbit hbl
        generalize outB (bitsL (l.take k)) (6 * k / 8) = O at *
        generalize leftB (bitsL (l.take k)) = X at *
        obtain ⟨p5, c5, rfl, -⟩ := ho.shape
        have HOL := Lib.hid hol
        clear hol
        by_cases hX : X = 0
        · rw [if_pos (hz.2 hX)] at hr
          subst hX hr
          clear hz
          go_wp2_with fail
          go_ret2
          exact ⟨_, rfl, ho.mono (by have := HG.out; omega), HG.out ▸ hB⟩
        · have hXi : ¬ (X : Int) = 0 := by omega
          rw [if_neg (fun h => hX (hz.1 h))] at hr
          subst hr
          clear hX hz
          go_wp2_with fail
          go_ret2
          exact ⟨_, rfl, Own.nil _ _ _, HG.out ▸ hB⟩
  · have h4' : ¬ (n : Int) % 4 = 0 := by omega
    have hr : res = none := by rw [HR.out]; exact takeB_mod (by rw [hls]; exact h4)
    rw [hr]
    clear hr
    go_enter Try.func7, Try.ntmps7
    go_wp2_with fail
    go_ret2
    exact ⟨_, rfl, Own.nil _ _ _, Below.refl _ _⟩
end Go.Proofs.Ytpfhbkjjijmpaaa
