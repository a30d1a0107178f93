/-
  WireLays holds, whatever the arguments: numbers and vectors are laid down as the document says, in new memory; the arguments read as they did.
-/
import Derived.Test.YtmhcmhhedmokjaaWireF
import Derived.Test.YtmhcmhhedmokjaaSized
import Derived.BigQuiet
import Derived.Lib.SmallJoins
import Derived.Deep.QuietTactic
namespace Go.Proofs.Ytmhcmhhedmokjaa
open Go.ChangeShapes Go.WideShapes Go.ChangeAt Go.RowKit

theorem xor_byte (y : UInt8) : bits BinOp.xor IntKind.u8 ((y.toNat : Nat) : Int) 255 = (((y ^^^ 255).toNat : Nat) : Int) := by
  have h : ∀ n : Fin 256, bits BinOp.xor IntKind.u8 ((n.val : Nat) : Int) 255 = (((UInt8.ofNat n.val ^^^ 255).toNat : Nat) : Int) := by decide +kernel
  have := h ⟨y.toNat, y.toNat_lt⟩
  simpa using this
theorem numF_len (xs : List UInt8) (num : Nat) (size : Int) : (numF xs num size).1.length ≤ xs.length + 8 := by
  unfold numF
  split
  · rename_i h
    obtain ⟨k, rfl, h1, h2⟩ := size_of size h
    split
    · simp [digits_len]; omega
    · simp
  · simp
theorem vecF_len (xs ys : List UInt8) (size : Int) : (vecF xs ys size).1.length ≤ xs.length + ys.length + 8 := by
  unfold vecF
  split
  · rename_i h
    obtain ⟨k, rfl, h1, h2⟩ := vec_of size h
    split
    · simp [digits_len]; omega
    · simp
  · simp

theorem below_drewN {B : Nat} {w w' : World} (h : Below B w w') (n : Nat) : Below B w (w'.drewN n) := ⟨h.os, h.tape, h.output, h.size, h.block⟩

theorem Own.lit0 (w : World) (E : TypeId) : Own (w.alloc (.cells #[] E)) w.heap.size E (.slice (some ⟨w.heap.size, 0, none⟩) 0 0) [] :=
  World.ownsRow_lit (base := w.heap.size) (e := E) (size := 1) w #[] 0 (Nat.le_refl _) (by simp) (by simp)

set_option maxHeartbeats 1600000 in
set_option maxRecDepth 100000 in
theorem Lays_any (a a' : Option Addr) (n cap n' cap' num : Nat) (size : Int) (xs ys : List UInt8) (w : World) (hm : n ≤ 140737488351232) (hm' : n' ≤ 140737488351232) (hnum : num ≤ 18446744073709551615) (hr : Rd w a n cap xs) (hr' : Rd w a' n' cap' ys) :
    Calls Try.prog 3 #[.agg #[.slice a n cap, .slice a' n' cap', .int .u64 num, .int .i64 size]] w fun e w' => e = .returned (.bool true) ∧ Below w.heap.size w w' := by
  go_enter Try.func3, Try.ntmps3
  go_wp2_with fail
  go_quiet (fail)
  generalize hw1 : World.drewN _ _ = w1
  have hb1 : Below w.heap.size w w1 := by
    rw [← hw1]
    exact below_drewN ((Below.refl _ _).alloc (Nat.le_refl _) _) _
  clear hw1
  have r1 := hr.to hb1
  have r1' := hr'.to hb1
  have hal : ∀ (W : World) o, Below W.heap.size W (W.alloc o) := fun W o => (Below.refl _ _).alloc (Nat.le_refl _) _
  have hl := hr.len
  have hl' := hr'.len
  have hcap := hr.le
  have HL := Lib.hid hl
  have HL' := Lib.hid hl'
  clear hl hl' r1'
  go_wp2_with (first
    | (at_builtin; refine wl_append bt rfl (.tmp 29) (.tmp 30) rfl w1.heap.size _ [] (Own.lit0 w1 _) rfl _ _ _ xs rfl (r1.to (hal _ _)) (by simp; omega) (by simp) ?_; intro own w2 ho2 hb2; rw [List.nil_append] at ho2; have s12 := (hal w1 _).trans hb2; have b2 := hb1.trans (s12.mono hb1.size); clear hb2)
    | (at_builtin; refine wl_append bt rfl (.tmp 32) (.tmp 33) rfl w2.heap.size _ [] (Own.lit0 w2 _) rfl _ _ _ ys rfl (Rd.to (hr'.to b2) (hal _ _)) (by simp; omega) (by simp) ?_; intro given w3 ho3 hb3; rw [List.nil_append] at ho3; have s23 := (hal w2 _).trans hb3; have b3 := b2.trans (s23.mono b2.size); clear hb3)
    | (at_builtin; refine wl_append bt rfl (.tmp 35) (.tmp 36) rfl w3.heap.size _ [] (Own.lit0 w3 _) rfl _ _ _ xs rfl (Rd.to (hr.to b3) (hal _ _)) (by simp; omega) (by simp) ?_; intro room w4 ho4 hb4; rw [List.nil_append] at ho4; have s34 := (hal w3 _).trans hb4; clear hb4)
    | (at_builtin; refine wl_append bt rfl (.tmp 37) (.tmp 38) rfl w3.heap.size _ _ (ho4.to (hal _ _)) rfl _ _ _ [1, 2, 3, 4, 5, 6, 7, 8, 9] rfl (rd_lit w4 [1, 2, 3, 4, 5, 6, 7, 8, 9] 5) (by simp [HL.out]; omega) (by have := s34.size; simp; omega) ?_; intro room2 w5 ho5 hb5; have s35 := s34.trans (((hal w4 _).mono s34.size).trans hb5); clear hb5 s34 ho4; obtain ⟨g5, c5, rfl, hg5, hg5', hc5⟩ := ho5.solid (by simp); have e5 : (xs ++ [1, 2, 3, 4, 5, 6, 7, 8, 9]).length = n + 9 := by { simp [HL.out] }; simp only [e5] at ho5 hc5 ⊢; clear e5))
  have b5 := b3.trans (s35.mono b3.size)
  have hro : Rd w5 (some ⟨g5, 0, none⟩) n c5 xs := by
    have := (ho5.rd.toRd).take n (by omega)
    rwa [List.take_left' HL.out] at this
  obtain ⟨N, HN⟩ : ∃ N, Hid (numF xs num size = N) := ⟨_, rfl⟩
  obtain ⟨V, HV⟩ : ∃ V, Hid (vecF xs ys size = V) := ⟨_, rfl⟩
  have hNl : N.fst.length ≤ 140737488351240 := by
    have := numF_len xs num size
    rw [HN.out, HL.out] at this
    omega
  have hVl : V.fst.length ≤ 281474976702472 := by
    have := vecF_len xs ys size
    rw [HV.out, HL.out, HL'.out] at this
    omega
  refine (Num_any _ n c5 num size xs _ (by omega) hnum hro).mono ?_
  rintro e w6 ⟨x, rfl, hx, s56⟩
  have b6 := b5.trans (s56.mono b5.size)
  rw [HN.out] at hx ⊢
  obtain ⟨ax, cx, rfl, hxs⟩ := hx.shape
  have HXS := Lib.hid hxs
  clear hxs
  go_wp2_with fail
  refine (refNum_any _ n cap num size xs _ (by omega) hnum (hr.to b6)).mono ?_
  rintro e w7 ⟨y, rfl, hy, s67⟩
  have b7 := b6.trans (s67.mono b6.size)
  rw [HN.out] at hy ⊢
  obtain ⟨ay, cy, rfl, -⟩ := hy.shape
  obtain ⟨ao, co, rfl, -⟩ := ho2.shape
  obtain ⟨ag, cg, rfl, -⟩ := ho3.shape
  simp only [HL.out, HL'.out] at ho2 ho3 ⊢
  have s57 := s56.trans (s67.mono s56.size)
  have s37 := s35.trans (s57.mono s35.size)
  have s27 := s23.trans (s37.mono s23.size)
  go_wp2_with fail
  refine (Vec_any _ _ n co n' cg size xs ys _ (by omega) (by omega) (ho2.rd.to s27).toRd (ho3.rd.to s37).toRd).mono ?_
  rintro e w8 ⟨z, rfl, hz, s78⟩
  have b8 := b7.trans (s78.mono b7.size)
  rw [HV.out] at hz ⊢
  obtain ⟨az, cz, rfl, -⟩ := hz.shape
  go_wp2_with fail
  refine (refVec_any _ _ n cap n' cap' size xs ys _ (by omega) (by omega) (hr.to b8) (hr'.to b8)).mono ?_
  rintro e w9 ⟨v, rfl, hv, s89⟩
  have b9 := b8.trans (s89.mono b8.size)
  rw [HV.out] at hv ⊢
  obtain ⟨av, cv, rfl, -⟩ := hv.shape
  have s79 := s78.trans (s89.mono s78.size)
  have s69 := s67.trans (s79.mono s67.size)
  have s59 := s56.trans (s69.mono s56.size)
  have rx := Lib.hid (hx.to s69).rd.toRd
  have ry := Lib.hid (hy.to s79).rd.toRd
  have rz := Lib.hid (hz.to s89).rd.toRd
  have rv := Lib.hid hv.rd.toRd
  have hro9 := Lib.hid (ho5.rd.to s59)
  clear hro
  have hcn : ¬ c5 = n := by omega
  have hx9 := hx.to s69
  have hz9 := hz.to s89
  clear hx hy hz hv
  go_wp2_with fail
  refine (Equal_any _ _ _ _ _ _ _ _ _ rx.out ry.out).mono ?_
  rintro e w10 ⟨rfl, rfl⟩
  go_wp2_with fail
  refine (Equal_any _ _ _ _ _ _ _ _ _ rz.out rv.out).mono ?_
  rintro e w10 ⟨rfl, rfl⟩
  go_wp2_with fail
  have hro10 : Rd w9 (some ⟨g5, n, none⟩) 9 (c5 - n) [1, 2, 3, 4, 5, 6, 7, 8, 9] := by
    have := hro9.out.drop n (by omega)
    rw [Nat.add_sub_cancel_left, List.drop_left' HL.out, Nat.zero_add] at this
    exact this.toRd
  refine (Equal_any _ _ _ _ _ _ _ _ _ (hro10.to (hal _ _)) (rd_lit w9 [1, 2, 3, 4, 5, 6, 7, 8, 9] 5)).mono ?_
  rintro e w10 ⟨rfl, rfl⟩
  go_wp2_with fail
  have hx0 := hx9.to (hal w9 (.cells #[bv 1, bv 2, bv 3, bv 4, bv 5, bv 6, bv 7, bv 8, bv 9] 5))
  have hz0 := hz9.to (hal w9 (.cells #[bv 1, bv 2, bv 3, bv 4, bv 5, bv 6, bv 7, bv 8, bv 9] 5))
  have b0 : Below w.heap.size w (w9.alloc (.cells #[bv 1, bv 2, bv 3, bv 4, bv 5, bv 6, bv 7, bv 8, bv 9] 5)) := b9.trans ((hal _ _).mono b9.size)
  have s50 : Below w5.heap.size w5 (w9.alloc (.cells #[bv 1, bv 2, bv 3, bv 4, bv 5, bv 6, bv 7, bv 8, bv 9] 5)) := s59.trans ((hal _ _).mono s59.size)
  have h67 := s67.size
  have h57 := s57.size
  clear hx9 hz9 hro9 hro10 rx ry rz rv
  generalize w9.alloc (.cells #[bv 1, bv 2, bv 3, bv 4, bv 5, bv 6, bv 7, bv 8, bv 9] 5) = w0 at *
  go_loopw [99] (fun i wr => ∃ (k : Nat) (zs : List UInt8), k ≤ N.fst.length ∧ i = .int .i64 k ∧ Own wr w5.heap.size 5 (.slice ax N.fst.length cx) zs ∧ Own wr w7.heap.size 5 (.slice az V.fst.length cz) V.fst ∧ Below w5.heap.size w5 wr) (fun i _ => N.fst.length - (intOf i).toNat)
  case atStart => exact ⟨0, _, Nat.zero_le _, rfl, hx0, hz0, s50⟩
  case round =>
    obtain ⟨k, zs, hk, rfl, ho, hoz, hb⟩ := hrel
    have hzl := ho.rd.len
    by_cases hlt : k < N.fst.length
    · obtain ⟨gx, cc, e, hB, hgl, _⟩ := ho.solid (by omega)
      injection e with e1 e2 e3
      subst e1
      have hcl := Own.cellAt ho k hlt
      have hfr := Own.frozenAt ho k
      have hst := Own.stored ho k (zs.getD k 0 ^^^ 255)
      rw [← xor_byte] at hst
      have hgx := (HXS.out _ rfl).2
      have hHZ : Hid (Own (wr.setCell ⟨gx, k, none⟩ (.int .u8 (bits BinOp.xor IntKind.u8 (((zs.getD k 0).toNat : Nat) : Int) 255))) w7.heap.size 5 (.slice az V.fst.length cz) V.fst) := Own.store_old hoz (Nat.lt_of_lt_of_le hgx h67)
      clear e2 e3 hzl
      generalize zs.getD k 0 = y at *
      have HS := Lib.hid hst
      clear hst ho hoz
      go_wp2
      go_roundw
      case rel => exact ⟨k + 1, _, by omega, by go_num, HS.out, hHZ.out, hb.setCell (by omega) _⟩
      case measure => simp [intOf]; omega
    · obtain rfl : k = N.fst.length := by omega
      clear hlt hzl ho hz0 hx0 s50 b0
      go_wp2_with fail
      go_loopw [111] (fun i wr => ∃ (k : Nat) (zs : List UInt8), k ≤ V.fst.length ∧ i = .int .i64 k ∧ Own wr w7.heap.size 5 (.slice az V.fst.length cz) zs ∧ Below w5.heap.size w5 wr) (fun i _ => V.fst.length - (intOf i).toNat)
      case atStart => exact ⟨0, _, Nat.zero_le _, rfl, hoz, hb⟩
      case round =>
        clear hoz hb
        obtain ⟨k, zs, hk, rfl, ho, hb⟩ := hrel
        have hzl := ho.rd.len
        by_cases hlt : k < V.fst.length
        · obtain ⟨gx, cc, e, hB, hgl, _⟩ := ho.solid (by omega)
          injection e with e1 e2 e3
          subst e1
          have hcl := Own.cellAt ho k hlt
          have hfr := Own.frozenAt ho k
          have hst := Own.stored ho k (zs.getD k 0 ^^^ 255)
          rw [← xor_byte] at hst
          clear e2 e3 hzl
          generalize zs.getD k 0 = y at *
          have HS := Lib.hid hst
          clear hst ho
          go_wp2
          go_roundw
          case rel => exact ⟨k + 1, _, by omega, by go_num, HS.out, hb.setCell (Nat.le_trans h57 hB) _⟩
          case measure => simp [intOf]; omega
        · obtain rfl : k = V.fst.length := by omega
          clear hlt hzl ho
          have brw : Below w.heap.size w wr := b5.trans (hb.mono b5.size)
          have HB5 := Lib.hid hb
          clear hb
          go_wp2_with fail
          refine (awake_any _).mono ?_
          rintro e w10 ⟨rfl, h10⟩
          have b10 := brw.trans (h10.mono brw.size)
          have s510 := HB5.out.trans (h10.mono HB5.out.size)
          have s35' := s35.trans (s510.mono s35.size)
          have s210 := s23.trans (s35'.mono s23.size)
          have q1 := Lib.hid (ho2.rd.to s210).toRd
          have q2 := Lib.hid (ho3.rd.to s35').toRd
          have q3 := Lib.hid ((ho5.rd.take n (by omega)).to s510).toRd
          rw [List.take_left' HL.out] at q3
          have p1 := Lib.hid (hr.to b10)
          have p2 := Lib.hid (hr'.to b10)
          clear ho2 ho3 ho5 hr hr'
          go_wp2_with fail
          refine (Equal_any _ _ _ _ _ _ _ _ _ q1.out p1.out).mono ?_
          rintro e w11 ⟨rfl, rfl⟩
          go_wp2_with fail
          refine (Equal_any _ _ _ _ _ _ _ _ _ q2.out p2.out).mono ?_
          rintro e w11 ⟨rfl, rfl⟩
          go_wp2_with fail
          refine (Equal_any _ _ _ _ _ _ _ _ _ q3.out p1.out).mono ?_
          rintro e w11 ⟨rfl, rfl⟩
          go_wp2_with fail
          go_ret
          exact ⟨ret_bool (by simp), b10⟩

theorem cells5L : Try.prog.cellsOf 5 = 1 := by kernel_rfl

theorem bytes1L : 1 ≤ Try.prog.bytesOf 5 := of_decide_eq_true (by kernel_rfl)
/-- the weights of a part of what came in are within the reach, too -/
def WOK {H : Type} (P : Program) (t : TypeId) (d : DataW H) : Prop := (d.weights P t).all (· ≤ reachBytes) = true
theorem wok_struct {H : Type} {P : Program} {t : TypeId} {fs : Array Field} {parts : List (DataW H)} (hu : P.underlying t = some (.struct fs)) (h : WOK P t (.agg parts)) {i : Nat} {f : Field} {d : DataW H} (hf : fs[i]? = some f) (hd : parts[i]? = some d) : WOK P f.type d := by
  unfold WOK at *
  rw [List.all_eq_true]
  intro n hn
  refine List.all_eq_true.1 h n ?_
  simp only [DataW.weights, hu]
  exact DataW.weights_mem_each (j := i) (by simp [hf]) hd n hn
theorem wok_top {H : Type} {P : Program} {ts : List TypeId} {ds : List (DataW H)} (h : (DataW.weightsEach P ts ds).all (· ≤ reachBytes) = true) {j : Nat} {t : TypeId} {d : DataW H} (ht : ts[j]? = some t) (hd : ds[j]? = some d) : WOK P t d := by
  unfold WOK
  rw [List.all_eq_true]
  intro n hn
  exact List.all_eq_true.1 h n (DataW.weights_mem_each ht hd n hn)
theorem wok_dlen {H : Type} {P : Program} {t e : TypeId} {d : DataW H} (hu : P.underlying t = some (.slice e)) (hb : 1 ≤ P.bytesOf e) (h : WOK P t d) : dlen d ≤ reachBytes := by
  cases d with
  | slice elems spare =>
    have := List.all_eq_true.1 h ((elems.length + spare.length) * P.bytesOf e) (by simp [DataW.weights, hu])
    exact Nat.le_trans (Nat.le_mul_of_pos_right _ hb) (of_decide_eq_true this)
  | _ => exact Nat.zero_le _
theorem fieldsLay : ∃ f0 f1 f2 f3 : Field, Try.prog.underlying 25 = some (.struct #[f0, f1, f2, f3]) ∧ f0.type = 22 ∧ f1.type = 22 ∧ f2.type = 23 ∧ f3.type = 3 := ⟨_, _, _, _, Try.underlying25, rfl, rfl, rfl, rfl⟩

theorem wireLays_full_lifted (os : Os) (started : os.Started) (H : Type) (enc : TypeId × Value → H) :
    ReturnsInHanded {} Try.checked os 3 .any (Rows.wireLaysSpec.pre6 enc Try.prog Try.f3 Rows.wireLaysRow.domain false) (Rows.wireLaysSpec.post enc Try.prog Try.f3 false true false false) := by
  refine returnsInHanded_of_change_sized (C := Try.checked) ownKnobs started (by kernel_rfl) Try.func3
    (ChangeSpec.witness6 (enc := enc) (C := Try.checked) false ⟨#[], #[.agg #[.slice none 0 0, .slice none 0 0, .int .u64 0, .int .i64 0]], []⟩ 8 (by kernel_rfl) (by kernel_rfl) (by kernel_rfl) (by kernel_rfl)) ?_
  intro W base args ds gs before hval hW hcond hsz _
  have hW' := hW
  obtain ⟨p, q, hA0, hV, rfl, _, _⟩ := hW
  have hA : DataW.TrodAll enc Try.prog W 0 (fun _ => true) true Try.f3.params.toList args.toList ds p := hA0
  have hval' := hval
  rw [Try.params3] at hA hval' hsz
  obtain ⟨v0, vs0, d0, ds0, p0, q0, hargs, rfl, rfl, h0, r0⟩ := trodAll_cons hA
  obtain ⟨rfl, rfl, rfl⟩ := trodAll_nil r0
  obtain rfl : args = #[v0] := by cases args; simp_all
  obtain ⟨rfl, rfl⟩ := trodVars_none hV
  have wk := wok_top hsz (j := 0) (t := 25) (d := d0) rfl rfl
  obtain ⟨f0, f1, f2, f3, hu, t0, t1, t2, t3⟩ := fieldsLay
  obtain ⟨x0, x1, x2, x3, y0, y1, y2, y3, fu, rfl, rfl, rfl, k0, k1, k2, k3⟩ := Joins.open_agg4 Try.underlying25 (by kernel_rfl) (by kernel_rfl) (hval' 0 25 v0 rfl rfl) h0
  have wa := wok_struct hu wk (i := 0) (f := f0) (d := y0.1) rfl rfl
  have wb := wok_struct hu wk (i := 1) (f := f1) (d := y1.1) rfl rfl
  rw [t0] at wa
  rw [t1] at wb
  have da := wok_dlen Try.underlying22 bytes1L wa
  have db := wok_dlen Try.underlying22 bytes1L wb
  simp only [reachBytes] at da db
  obtain ⟨a, n, cap, xs, rfl, hr, hn⟩ := rd_of_cells_d bt cells5L k0 (fun _ => rfl)
  obtain ⟨a', n', cap', ys, rfl, hr', hn'⟩ := rd_of_cells_d bt cells5L k1 (fun _ => rfl)
  obtain ⟨num, rfl, hwf⟩ := int_of_cells Try.underlying23 k2
  obtain ⟨m, rfl, hm⟩ := wf_u64 hwf
  obtain ⟨size, rfl, _⟩ := int_of_cells Try.underlying3 k3
  refine (Lays_any a a' n cap n' cap' m size xs ys W (by omega) (by omega) hm hr hr').mono fun e W' ⟨he, hw⟩ => ?_
  subst he
  exact ⟨_, rfl, law_post laidOuts (by kernel_rfl) rfl Try.underlying4 rfl hW' hw rfl⟩

theorem wireLays_full : Rows.WireLaysSaid :=
  OpenClaim.holds_of_wide 3 Try.f3 rfl rfl rfl rfl rfl rfl rfl ⟨rfl, rfl, rfl, rfl, rfl⟩ rfl rfl rfl rfl rfl (by kernel_rfl) Try.func3 (by kernel_rfl)
    (of_decide_eq_true (by kernel_rfl)) (by unfold Func.isWrapper; first | (rw [if_pos (by decide +kernel)]; kernel_rfl) | (rw [if_neg (by decide +kernel)]; exact ⟨rfl, rfl⟩))
    (fun os started H enc _ => wireLays_full_lifted os started H enc)
end Go.Proofs.Ytmhcmhhedmokjaa
