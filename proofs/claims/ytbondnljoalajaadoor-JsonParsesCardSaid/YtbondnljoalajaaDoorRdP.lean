/-
  Layer 4: the document's reader: a text's value. Conditions: those in each statement.
-/
import Derived.Test.YtbondnljoalajaaDoorRdZ
import Derived.Test.YtbondnljoalajaaDoorRdA
namespace Go.Proofs.YtbondnljoalajaaDoor
open Go.RowKit

theorem val_tot {most : Nat} {b r : List UInt8} {x : JV} (h : valF most b = some (x, r)) : totV x + r.length ≤ b.length := (value_out _).1 _ _ _ _ (((value_both _).1 _ _ _ _).1 h)
theorem parse_val (b : List UInt8) : parseF b = match valF 8 b with | none => none | some (v, q) => if blanksF q = [] ∧ mayF v 8 = true then some v else none := by
  unfold parseF
  rw [val_fuel (by omega)]
  cases valF 8 b <;> rfl
set_option maxRecDepth 100000 in
set_option maxHeartbeats 12800000 in
theorem rParse_any (a : Option Addr) (n c : Nat) (bs : List UInt8) (w : World) (h : Rd w a n c bs) (hbig : c ≤ 9223372036854775807) :
    Calls Tryd.prog 21 #[.slice a n c] w fun e w' => ∃ cs, e = .returned (.tuple #[.agg cs.toArray, .int .i64 ((parseE bs).2 : Int)]) ∧ RV w' (parseE bs).1 cs ∧ Below w.heap.size w w' := by
  have hn := h.len
  subst hn
  have hA0 := Arr.new w 26 zC
  have hB0 : Below w.heap.size w (w.alloc (.cells zC.toArray 26)) := (Below.refl _ _).alloc (Nat.le_refl _) _
  obtain ⟨res, hres⟩ : ∃ res, res = parseE bs := ⟨_, rfl⟩
  rw [← hres]
  by_cases hl : 1048576 < bs.length
  · have HF : Hid (res = (JV.zero, 3)) := by show _ = _; rw [hres]; exact if_pos hl
    have hli : (1048576 : Int) < (bs.length : Int) := by omega
    have HBN := Lib.hid hB0
    generalize bs.length = n at *
    clear hres h
    go_enter Tryd.func21, Tryd.ntmps21
    go_wp2_with (first
      | ((with_reducible show wpList _ _ _ (⟨none, .store _ _ _, _, _, _, _⟩ :: _) _ _); refine wl_store rfl 26 _ _ rfl w.heap.size 0 rfl zC rfl 26 zC hA0 (by kernel_rfl) (by simp [zC]) (by simp [zC, Value.oneCell']) ?_; intro w9 hR9 hg9 hs9))
    rw [whole_store zC zC rfl] at hR9
    refine end_cell2 rfl w.heap.size 26 _ _ _ rfl hR9 Tryd.underlying26 rfl (by kernel_rfl) rfl rfl ?_
    rw [HF.out]
    exact ⟨zC, rfl, pv_rv _ _ (sv_pv _ _ (zero_sv (fun _ => True) _)), HBN.out.grown hg9 HBN.out.size (by intro k hk; cases hk; exact Nat.le_refl _)⟩
  · have hli : ¬ (1048576 : Int) < (bs.length : Int) := by omega
    have hle : bs.length ≤ 1048576 := by omega
    have hrp : res = match parseF bs with | some v => (v, 0) | none => (JV.zero, 5) := by rw [hres]; exact if_neg hl
    rw [parse_val] at hrp
    have HRP := Lib.hid hrp
    have hB2 : Below w.heap.size w ((w.alloc (.cells zC.toArray 26)).alloc (.cells #[.slice a bs.length c, .int .i64 0, .bool false] 73)) := hB0.alloc hB0.size _
    have hA2 : Arr ((w.alloc (.cells zC.toArray 26)).alloc (.cells #[.slice a bs.length c, .int .i64 0, .bool false] 73)) (w.heap.size + 1) 73 [.slice a bs.length c, .int .i64 0, .bool false] := by
      have := Arr.new (w.alloc (.cells zC.toArray 26)) 73 [.slice a bs.length c, .int .i64 0, .bool false]
      rw [World.size_alloc] at this
      exact this
    have hz2 := hA0.kept ((Below.refl _ (w.alloc (.cells zC.toArray 26))).alloc (Nat.le_refl _) (.cells #[.slice a bs.length c, .int .i64 0, .bool false] 73))
    have htx : TextAt ((w.alloc (.cells zC.toArray 26)).alloc (.cells #[.slice a bs.length c, .int .i64 0, .bool false] 73)) (w.heap.size + 1) a c bs := by
      refine ⟨h.le, hbig, fun h0 => ?_⟩
      obtain ⟨b, off, e, h1, h2⟩ := h.mem (by have := h.le; omega)
      exact ⟨b, off, e, by omega, Nat.lt_of_lt_of_le h1 hB2.size, fun j hj => (hB2.cell (p := ⟨b, off + j, none⟩) h1).trans (h2 j hj)⟩
    have hREF : RefAt ((w.alloc (.cells zC.toArray 26)).alloc (.cells #[.slice a bs.length c, .int .i64 0, .bool false] 73)) (w.heap.size + 1) bs a c 0 false := ⟨hA2, htx, Nat.zero_le _⟩
    have hVAL : Hid (Calls Tryd.prog 30 #[.pointer (some ⟨w.heap.size + 1, 0, none⟩), .int .i64 8] _ _) := rValue_any 8 (by decide) (w.heap.size + 1) bs a c 0 false _ hREF hle (by simp)
    have hs2 : Hid (((w.alloc (.cells zC.toArray 26)).alloc (.cells #[.slice a bs.length c, .int .i64 0, .bool false] 73)).heap.size = w.heap.size + 2) := by show _ = _; simp
    have HB2 := Lib.hid hB2
    have HZ2 := Lib.hid hz2
    have HLE := Lib.hid hle
    clear hres h hrp hA0 hB0 hB2 hA2 hz2 htx hREF hle hl
    go_enter Tryd.func21, Tryd.ntmps21
    go_upto_region 5 with (first
      | (go_at_call 30; refine hVAL.out.mono ?_; rintro e w3 ⟨hg3, v, cs, k3, bad3, rfl, hk3, hr3, hsv3, hs3, -, hz3⟩; obtain ⟨k1, s1, n1, a1, l1, c1, b1, m1, d1, rfl⟩ := five_of hsv3; have hV0 := Arr.new w3 26 zC)
      | ((with_reducible show wpList _ _ _ (⟨none, .store _ _ _, _, _, _, _⟩ :: _) _ _); refine wl_store rfl 26 _ _ rfl w3.heap.size 0 rfl [.int .i64 k1, .string s1, .int .u64 n1, .slice a1 l1 c1, .slice b1 m1 d1] rfl 26 zC hV0 (by kernel_rfl) (by simp [zC]) (by simp [Value.oneCell']) ?_; intro w4 hV4 hg4 hs4))
    rw [whole_store zC [.int .i64 k1, .string s1, .int .u64 n1, .slice a1 l1 c1, .slice b1 m1 d1] rfl] at hV4
    have hsz3 : Hid (w.heap.size + 2 ≤ w3.heap.size) := by show _ ≤ _; have := hg3.size; have := hs2.out; omega
    have HB3 : Hid (Below w.heap.size w w3) := HB2.out.grown hg3 HB2.out.size (by intro k hk; cases hk; omega)
    have hb34 : Below w3.heap.size w3 w4 := ((Below.refl _ _).alloc (Nat.le_refl _) _).grown hg4 (by simp) (by intro k hk; cases hk; exact Nat.le_refl _)
    have HB4 : Hid (Below w.heap.size w w4) := HB3.out.trans (hb34.mono HB3.out.size)
    have hz4 := ((HZ2.out.grown hg3 (by intro e; have := Option.some.inj e; omega)).kept hb34)
    have hr4 : RefAt w4 (w.heap.size + 1) bs a c k3 bad3 := hr3.tch (Tch.of_below hb34 []) (by simp)
    have HSV4 : Hid (SV (fun x => w.heap.size + 2 ≤ x ∧ x < w3.heap.size) w4 v [.int .i64 k1, .string s1, .int .u64 n1, .slice a1 l1 c1, .slice b1 m1 d1]) := sv_to (fun x hx hl => ⟨by have := hs2.out; omega, hl⟩) (Stay.of_below hb34) _ _ hsv3
    have h31 := Lib.hid (rBlanks_any (w.heap.size + 1) bs a c k3 bad3 w4 hr4)
    have HS3 := Lib.hid hs3
    have HZ3 := Lib.hid hz3
    have hg5x : Hid (w3.heap.size < w4.heap.size) := hV4.lt
    clear hV0 hg4 hs4 hr4 hsv3 hr3 hg3 hVAL hs3 hz3 HB2 HZ2 hb34
    obtain ⟨g5, hg5⟩ : ∃ g5, g5 = w3.heap.size := ⟨_, rfl⟩
    rw [← hg5] at hV4 hg5x hsz3 HSV4 ⊢
    have hgg : Hid (w.heap.size + 1 < g5) := by show _ < _; have := hsz3.out; omega
    clear hg5
    go_upto_region 6 with (go_at_call 31; refine h31.out.mono ?_; rintro e w5 ⟨rfl, hg5, k5, hk5, hr5, hd5⟩)
    have HB5 : Hid (Below w.heap.size w w5) := HB4.out.grown hg5 HB4.out.size (by intro k hk; cases hk; omega)
    have hz5 := hz4.grown hg5 (by intro e; have := Option.some.inj e; omega)
    have hV5 := hV4.grown hg5 (by intro e; have := Option.some.inj e; have := hgg.out; omega)
    have HSV5 : Hid (SV (fun x => w.heap.size + 2 ≤ x ∧ x < g5) w5 v [.int .i64 k1, .string s1, .int .u64 n1, .slice a1 l1 c1, .slice b1 m1 d1]) := sv_to (fun x hx _ => hx) (Stay.of_grown hg5 (fun k hk hS => by cases hk; have := hS.1; omega)) _ _ HSV4.out
    have HRV5 : Hid (RV w5 v [.int .i64 k1, .string s1, .int .u64 n1, .slice a1 l1 c1, .slice b1 m1 d1]) := pv_rv _ _ (sv_pv _ _ HSV5.out)
    have HD5 := Lib.hid hd5
    have ra1 := (hr5.arr.cell 1).trans (show _ = some (Value.int .i64 (k5 : Int)) from rfl)
    have ra2 := (hr5.arr.cell 2).trans (show _ = some (Value.bool bad3) from rfl)
    have hat := hr5.at_
    have e0 := (hV5.cell 0).trans (show _ = some (Value.int .i64 k1) from rfl)
    have e1 := (hV5.cell 1).trans (show _ = some (Value.string s1) from rfl)
    have e2 := (hV5.cell 2).trans (show _ = some (Value.int .u64 n1) from rfl)
    have e3 := (hV5.cell 3).trans (show _ = some (Value.slice a1 l1 c1) from rfl)
    have e4 := (hV5.cell 4).trans (show _ = some (Value.slice b1 m1 d1) from rfl)
    clear hg5 hr5 hd5 hk5 hz4 hV4 h31
    cases bad3 with
    | true =>
      have HF : Hid (res = (JV.zero, 5)) := by
        show _ = _
        rw [HRP.out]
        cases hv : valF 8 bs with
        | none => rfl
        | some p => have := (HS3.out p.1 p.2 (by simp) hv).2.1; cases this
      have HBN := HB5
      go_wp2_with (first
        | ((with_reducible show wpList _ _ _ (⟨none, .store _ _ _, _, _, _, _⟩ :: _) _ _); refine wl_store rfl 26 _ _ rfl w.heap.size 0 rfl zC rfl 26 zC hz5 (by kernel_rfl) (by simp [zC]) (by simp [zC, Value.oneCell']) ?_; intro w9 hR9 hg9 hs9))
      rw [whole_store zC zC rfl] at hR9
      refine end_cell2 rfl w.heap.size 26 _ _ _ rfl hR9 Tryd.underlying26 rfl (by kernel_rfl) rfl rfl ?_
      rw [HF.out]
      exact ⟨zC, rfl, pv_rv _ _ (sv_pv _ _ (zero_sv (fun _ => True) _)), HBN.out.grown hg9 HBN.out.size (by intro k hk; cases hk; exact Nat.le_refl _)⟩
    | false =>
      obtain ⟨r, hv, hd3⟩ : ∃ r, valF 8 bs = some (v, r) ∧ bs.drop k3 = r := by
        cases hv : valF 8 bs with
        | none => have := HZ3.out hv; cases this
        | some p =>
          obtain ⟨x, r⟩ := p
          obtain ⟨e1, -, e2⟩ := HS3.out x r (by simp) hv
          exact ⟨r, by rw [e1], e2⟩
      have hrp2 : res = if blanksF r = [] ∧ mayF v 8 = true then (v, 0) else (JV.zero, 5) := by
        rw [HRP.out, hv]
        simp only
        by_cases hc : blanksF r = [] ∧ mayF v 8 = true
        · rw [if_pos hc, if_pos hc]
        · rw [if_neg hc, if_neg hc]
      rw [← hd3, ← HD5.out] at hrp2
      have HRP2 := Lib.hid hrp2
      have HTOT : Hid (totV v ≤ 1048576) := by show _ ≤ _; have := val_tot hv; have := HLE.out; omega
      clear hrp2 hv hd3
      by_cases hkl : k5 < bs.length
      · have hki : (k5 : Int) < (bs.length : Int) := by omega
        have HF : Hid (res = (JV.zero, 5)) := by
          show _ = _
          rw [HRP2.out, if_neg]
          rintro ⟨h0, -⟩
          have := congrArg List.length h0
          rw [List.length_drop, List.length_nil] at this
          omega
        have HBN := HB5
        clear hkl
        go_wp2_with (first
          | ((with_reducible show wpList _ _ _ (⟨none, .store _ _ _, _, _, _, _⟩ :: _) _ _); refine wl_store rfl 26 _ _ rfl w.heap.size 0 rfl zC rfl 26 zC hz5 (by kernel_rfl) (by simp [zC]) (by simp [zC, Value.oneCell']) ?_; intro w9 hR9 hg9 hs9))
        rw [whole_store zC zC rfl] at hR9
        refine end_cell2 rfl w.heap.size 26 _ _ _ rfl hR9 Tryd.underlying26 rfl (by kernel_rfl) rfl rfl ?_
        rw [HF.out]
        exact ⟨zC, rfl, pv_rv _ _ (sv_pv _ _ (zero_sv (fun _ => True) _)), HBN.out.grown hg9 HBN.out.size (by intro k hk; cases hk; exact Nat.le_refl _)⟩
      · have hki : ¬ (k5 : Int) < (bs.length : Int) := by omega
        have hnil : bs.drop k5 = [] := List.drop_of_length_le (by omega)
        have HRP3 : Hid (res = if mayF v 8 = true then (v, 0) else (JV.zero, 5)) := by
          show _ = _
          rw [HRP2.out, hnil]
          simp
        have hMAY : Hid (Calls Tryd.prog 16 #[.agg #[.int .i64 k1, .string s1, .int .u64 n1, .slice a1 l1 c1, .slice b1 m1 d1]] w5 fun e w' => e = .returned (.bool (mayF v 8)) ∧ Below w5.heap.size w5 w') := rMay_any v [.int .i64 k1, .string s1, .int .u64 n1, .slice a1 l1 c1, .slice b1 m1 d1] w5 HRV5.out (tot_small v _ (by have := HTOT.out; omega)).1
        clear hkl hnil HRP2 HRP
        obtain ⟨mb, hmb⟩ : ∃ mb, mb = mayF v 8 := ⟨_, rfl⟩
        rw [← hmb] at HRP3 hMAY
        clear hmb
        cases mb with
        | false =>
          have HF : Hid (res = (JV.zero, 5)) := HRP3.out.trans (if_neg (by decide))
          go_wp2_with (first
            | (go_at_call 16; refine hMAY.out.mono ?_; rintro e w8 ⟨rfl, hb8⟩; have hz8 := hz5.kept hb8; have HBN : Hid (Below w.heap.size w w8) := HB5.out.trans (hb8.mono HB5.out.size))
            | ((with_reducible show wpList _ _ _ (⟨none, .store _ _ _, _, _, _, _⟩ :: _) _ _); refine wl_store rfl 26 _ _ rfl w.heap.size 0 rfl zC rfl 26 zC hz8 (by kernel_rfl) (by simp [zC]) (by simp [zC, Value.oneCell']) ?_; intro w9 hR9 hg9 hs9))
          rw [whole_store zC zC rfl] at hR9
          refine end_cell2 rfl w.heap.size 26 _ _ _ rfl hR9 Tryd.underlying26 rfl (by kernel_rfl) rfl rfl ?_
          rw [HF.out]
          exact ⟨zC, rfl, pv_rv _ _ (sv_pv _ _ (zero_sv (fun _ => True) _)), HBN.out.grown hg9 HBN.out.size (by intro k hk; cases hk; exact Nat.le_refl _)⟩
        | true =>
          have HF : Hid (res = (v, 0)) := HRP3.out.trans (if_pos rfl)
          go_wp2_with (first
            | (go_at_call 16; refine hMAY.out.mono ?_; rintro e w8 ⟨rfl, hb8⟩; have hz8 := hz5.kept hb8; have hV8 := hV5.kept hb8; have k0 := (hV8.cell 0).trans (show _ = some (Value.int .i64 k1) from rfl); have k1' := (hV8.cell 1).trans (show _ = some (Value.string s1) from rfl); have k2 := (hV8.cell 2).trans (show _ = some (Value.int .u64 n1) from rfl); have k3' := (hV8.cell 3).trans (show _ = some (Value.slice a1 l1 c1) from rfl); have k4 := (hV8.cell 4).trans (show _ = some (Value.slice b1 m1 d1) from rfl))
            | ((with_reducible show wpList _ _ _ (⟨none, .store _ _ _, _, _, _, _⟩ :: _) _ _); refine wl_store rfl 26 _ _ rfl w.heap.size 0 rfl [.int .i64 k1, .string s1, .int .u64 n1, .slice a1 l1 c1, .slice b1 m1 d1] rfl 26 zC hz8 (by kernel_rfl) (by simp [zC]) (by simp [Value.oneCell']) ?_; intro w9 hR9 hg9 hs9))
          rw [whole_store zC [.int .i64 k1, .string s1, .int .u64 n1, .slice a1 l1 c1, .slice b1 m1 d1] rfl] at hR9
          refine end_cell2 rfl w.heap.size 26 _ _ _ rfl hR9 Tryd.underlying26 rfl (by kernel_rfl) rfl rfl ?_
          rw [HF.out]
          have hb8' : Below w.heap.size w w8 := HB5.out.trans (hb8.mono HB5.out.size)
          exact ⟨_, rfl, pv_rv _ _ (sv_pv _ _ (sv_to (S' := fun x => w.heap.size + 2 ≤ x ∧ x < g5) (fun x hx _ => hx) (Stay.trans (Stay.of_below hb8) hb8.size (Stay.of_grown hg9 (fun k hk hS => by cases hk; have := hS.1; omega))) _ _ HSV5.out)), hb8'.grown hg9 hb8'.size (by intro k hk; cases hk; exact Nat.le_refl _)⟩
end Go.Proofs.YtbondnljoalajaaDoor
