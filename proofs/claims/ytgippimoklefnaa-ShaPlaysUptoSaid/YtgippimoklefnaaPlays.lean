/-
  ShaPlays holds for arguments of bulk at most 1048576: what a state tells of any parts, asked between, and copied; the input reads as it did.
-/
import Derived.Test.YtgippimoklefnaaSums
import Derived.Test.YtgippimoklefnaaTopB
namespace Go.Proofs.Ytgippimoklefnaa
open Go.ChangeShapes Go.WideShapes Go.ChangeAt Go.RowKit

theorem xor_one (y : UInt8) : bits BinOp.xor IntKind.u8 ((y.toNat : Nat) : Int) 1 = (((y ^^^ 1).toNat : Nat) : Int) := by
  have h : ∀ n : Fin 256, bits BinOp.xor IntKind.u8 ((n.val : Nat) : Int) 1 = (((UInt8.ofNat n.val ^^^ 1).toNat : Nat) : Int) := by decide +kernel
  have := h ⟨y.toNat, y.toNat_lt⟩
  simpa using this

theorem Own.below {w w' : World} {B h0 : Nat} {E : TypeId} {v : Value} {xs : List UInt8} (h : Own w B E v xs) (hb : Below h0 w w') (hl : ∀ g, v.ownBlock = some g → g < h0) : Own w' B E v xs := by
  obtain ⟨h1, ⟨rfl, hn⟩ | ⟨g, cap, cur, rfl, hbb, hg, r⟩⟩ := h
  · exact ⟨h1, .inl ⟨rfl, hn⟩⟩
  · exact ⟨h1, .inr ⟨g, cap, cur, rfl, hbb, by rw [hb.block g (hl g rfl)]; exact hg, r⟩⟩
theorem Own.grown {w w' : World} {B : Nat} {E : TypeId} {v : Value} {xs : List UInt8} {r : Option Nat} (h : Own w B E v xs) (hb : w.grownBy w' r) (hr : ∀ g, v.ownBlock = some g → some g ≠ r) : Own w' B E v xs := by
  have hlt := World.ownsRow.lt h
  obtain ⟨h1, ⟨rfl, hn⟩ | ⟨g, cap, cur, rfl, hbb, hg, r⟩⟩ := h
  · exact ⟨h1, .inl ⟨rfl, hn⟩⟩
  · exact ⟨h1, .inr ⟨g, cap, cur, rfl, hbb, by rw [hb.block g (hlt g rfl).2 (hr g rfl)]; exact hg, r⟩⟩
/-- a row of bytes is no state -/
theorem Own.apart {w : World} {B r : Nat} {v : Value} {xs ys : List UInt8} (ho : Own w B 5 v xs) (h : St w r ys) : ∀ g, v.ownBlock = some g → some g ≠ some r := by
  obtain ⟨rest, -, ha⟩ := h
  obtain ⟨h1, ⟨rfl, hn⟩ | ⟨g, cap, cur, rfl, hbb, hg, -⟩⟩ := ho
  · intro g hg; cases hg
  · intro g' e e2
    obtain rfl : g = g' := Option.some.inj e
    obtain rfl : g = r := Option.some.inj e2
    unfold Arr at ha
    rw [ha] at hg
    injection hg with hg
    injection hg with h2 h3
    exact absurd h3 (by decide)

section
variable {P : Program} {T E : TypeId} (bt : BT P T E) {ops : Array Oper} {rest : List Oper} {o : Oper} {a : Act} {Q : Exit → Act → World → Prop} {w : World}
include bt
/-- append(dst, src...), dst nil or the call's own: nothing but dst's block is turned -/
theorem wl_append_g (hgd : o.guard = none) (d s : Operand) (ho : o.op = .call { callee := .builtin .append, args := #[d, s], argTypes := #[T, T] })
    (B : Nat) (v : Value) (ys : List UInt8) (hown : Own w B E v ys) (hd : a.eval d = v) (sp : Option Addr) (sLen sCap : Nat) (xs : List UInt8)
    (hs : a.eval s = .slice sp sLen sCap) (hrd : Rd w sp sLen sCap xs) (hb : ys.length + sLen ≤ 140737488355328) (hB : B ≤ w.heap.size)
    (hK : ∀ v' w', Own w' B E v' (ys ++ xs) → w.grownBy w' v.ownBlock → wpList P ops Q rest (a.put o.dst v') w') :
    wpList P ops Q (o :: rest) a w := by
  obtain ⟨i0, hi, hz0, hz1, hz2⟩ := info_parts bt.info
  cases sp with
  | none =>
    have h0 : sCap = 0 := hrd.nil rfl
    have h1 : sLen = 0 := by have := hrd.le; omega
    subst h0 h1
    have hx : xs = [] := List.eq_nil_of_length_eq_zero hrd.len
    subst hx
    refine wpList_append_own_none hgd d s T ho B E i0 1 bt.sl hi v _ _ hd hown hs ?_
    exact hK v w (by simpa using hown) (World.grownBy.refl _ _)
  | some ad =>
    refine wpList_append_own w hgd d s T ho B E i0 (.int .u8 0) 1 1 bt.sl hi hz0 hz1 hz2 rfl (by decide) v _ _ hd hown ad sLen sCap (xs.map bv) hs (by simp [hrd.len]) hrd.cells bv_oneCell (by unfold maxLen; omega) (by omega) hB ?_
    intro v' w' h1 h2 _
    refine hK v' w' ?_ h2
    unfold Own
    rw [List.length_append, List.map_append, hrd.len]
    exact h1
end

theorem own_block {aa : Option Addr} {n c q : Nat} (h : (Value.slice aa n c).ownBlock = some q) : ∃ ad, aa = some ad ∧ ad.block = q := by
  cases aa with
  | none => cases h
  | some ad => exact ⟨ad, rfl, Option.some.inj h⟩

/-- the first k parts -/
def tot (X : Nat → List UInt8) (k : Nat) : List UInt8 := (List.range k).flatMap X
theorem tot_zero (X : Nat → List UInt8) : tot X 0 = [] := rfl
theorem tot_succ (X : Nat → List UInt8) (k : Nat) : tot X k ++ X k = tot X (k + 1) := by
  unfold tot
  rw [List.range_succ, List.flatMap_append]
  simp
theorem tot_len {X : Nat → List UInt8} {n : Nat} (hX : ∀ i, i < n → (X i).length ≤ 1048576) : ∀ k, k ≤ n → (tot X k).length ≤ k * 1048576
  | 0, _ => by simp [tot_zero]
  | k + 1, h => by
    rw [← tot_succ, List.length_append]
    have := tot_len hX k (by omega)
    have := hX k (by omega)
    omega

/-- cells of an act -/
structure ActAt (w : World) (b o : Nat) (p : Option Addr) (m c : Nat) (s k : Bool) : Prop where
  c0 : w.cell? ⟨b, o, none⟩ = some (.slice p m c)
  c1 : w.cell? ⟨b, o + 1, none⟩ = some (.bool s)
  c2 : w.cell? ⟨b, o + 2, none⟩ = some (.bool k)

theorem ActAt.to {w w' : World} {b o g : Nat} {p : Option Addr} {m c : Nat} {s k : Bool} (h : ActAt w b o p m c s k) (hb : Below g w w') (hg : b < g) : ActAt w' b o p m c s k :=
  ⟨(hb.cell (p := ⟨b, o, none⟩) hg).trans h.c0, (hb.cell (p := ⟨b, o + 1, none⟩) hg).trans h.c1, (hb.cell (p := ⟨b, o + 2, none⟩) hg).trans h.c2⟩

set_option maxHeartbeats 1000000 in
set_option maxRecDepth 100000 in
theorem Plays_any (a : Option Addr) (n cap : Nat) (X : Nat → List UInt8) (w : World) (hn : n ≤ 1048576) (hX : ∀ i, i < n → (X i).length ≤ 1048576) (hnc : n ≤ cap)
    (hacts : 0 < n → ∃ b off, a = some ⟨b, off, none⟩ ∧ b < w.heap.size ∧ ∀ i, i < n → ∃ p m c s k, Rd w p m c (X i) ∧ ActAt w b (off + i * 3) p m c s k) :
    Calls Try.prog 4 #[.slice a n cap] w fun e w' => e = .returned (.bool true) ∧ Below w.heap.size w w' := by
  have HX := Lib.hid (tot_len hX)
  have HA := Lib.hid hacts
  clear hacts
  go_enter Try.func4, Try.ntmps4
  go_upto_region 3 with (first
    | (go_at_call 12; refine (New_any _).mono ?_; rintro e w1 ⟨r, rfl, hS1, hr1, hb1⟩)
    | (go_at_call 11; refine (wakes_any _).mono ?_; rintro e w2 ⟨rfl, hb2⟩))
  have hS := hS1.to hb2 hS1.lt
  have hB := hb1.trans (hb2.mono hb1.size)
  obtain ⟨g, hg⟩ : ∃ g, g = w.heap.size := ⟨_, rfl⟩
  rw [← hg] at hr1 hB
  have HG := Lib.hid hg
  clear hg hS1 hb1 hb2
  have hO : Own w2 g 5 (.slice none 0 0) [] := Own.nil _ _ _
  go_loopw [3, 4, 5] (fun s al i wr => ∃ (r k : Nat), k ≤ n ∧ s = .pointer (some ⟨r, 0, none⟩) ∧ i = .int .i64 k ∧ g ≤ r ∧ St wr r (tot X k) ∧ Own wr g 5 al (tot X k) ∧ Below g w wr) (fun _ _ i _ => n - (intOf i).toNat)
  case atStart => exact ⟨r, 0, Nat.zero_le _, rfl, rfl, hr1, by rw [tot_zero]; exact hS, by rw [tot_zero]; exact hO, hB⟩
  case round =>
    clear hS hB hO hr1
    obtain ⟨r, k, hk, rfl, rfl, hgr, hS, hO, hb⟩ := hrel
    have hrl := hS.lt
    by_cases h1 : k < n
    · have hc1 : (k : Int) < n := by omega
      obtain ⟨bb, off, rfl, hbb, hall⟩ := HA.out (by omega)
      rw [← HG.out] at hbb
      obtain ⟨p, m, c, s, kf, hRd, hAc⟩ := hall k h1
      have hR := Lib.hid (fun W (hw : Below g w W) => hRd.to (HG.out ▸ hw))
      have hC := Lib.hid (fun W (hw : Below g w W) => hAc.to hw hbb)
      have q0 := (hC.out _ hb).c0
      obtain ⟨aa, ca, rfl, hal⟩ := hO.shape
      have hlr := (hR.out _ hb)
      have hXk := hX k h1
      have hlen := hRd.len
      obtain ⟨T, hT⟩ : ∃ T, T = tot X k := ⟨_, rfl⟩
      obtain ⟨Y, hY⟩ : ∃ Y, Y = X k := ⟨_, rfl⟩
      have hTl : T.length ≤ 1099511627776 := by rw [hT]; have := HX.out k hk; omega
      have hU : Hid (T ++ Y = tot X (k + 1)) := by rw [hT, hY]; exact tot_succ X k
      rw [← hT] at hS hO ⊢
      rw [← hY] at hXk hlr hlen hR
      have HT := Lib.hid hT
      have HY := Lib.hid hY
      clear hT hY hall hRd hAc
      subst hlen
      go_upto_region 9 with (at_builtin; go_loud (refine wl_append bt rfl _ _ rfl wr.heap.size _ [] (Own.nil _ _ _) rfl p Y.length c Y rfl hlr (by simp; omega) (Nat.le_refl _) ?_); intro v1 w1 ho1 hb1; rw [List.nil_append] at ho1; obtain ⟨a1, c1, rfl, hs1⟩ := ho1.shape)
      have hS1 := hS.kept hb1
      have hO1 := hO.to hb1
      have hB1 := hb.trans (hb1.mono (by omega))
      have z1 := hb1.size
      obtain ⟨h, hh⟩ : ∃ h, h = wr.heap.size := ⟨_, rfl⟩
      rw [← hh] at hb1 ho1 hs1 hrl hal z1
      have HH := Lib.hid hh
      have hcap : Hid (T.length + Y.length ≤ 1152921504606846976) := by show _ ≤ _; omega
      have hne : ∀ ad, a1 = some ad → 0 < c1 → ad.block ≠ r := fun ad e _ => by have := (hs1 ad e).1; omega
      clear hh hS hO hb q0 hlr
      go_wp2_with (go_at_call 13; refine (Write_any r T Y a1 Y.length c1 w1 hcap.out ho1.rd.toRd hne hS1).mono ?_; rintro e w2 ⟨rfl, hS2, hg2⟩)
      have ho2 := ho1.grown hg2 (Own.apart ho1 hS1)
      have hO2 := hO1.grown hg2 (Own.apart hO1 hS1)
      have hB2 := hB1.grown hg2 (by omega) (by intro i e; injection e with e; omega)
      have z2 := hg2.size
      rw [hU.out] at hS2
      clear hg2 ho1 hO1 hB1 hS1 hb1 hne hcap
      have HS1 := Lib.hid hs1
      clear hs1
      go_loopw [7] (fun i wr => ∃ (j : Nat) (zs : List UInt8), j ≤ Y.length ∧ zs.length = Y.length ∧ i = .int .i64 j ∧ Own wr h 5 (.slice a1 Y.length c1) zs ∧ Below h w2 wr) (fun i _ => Y.length - (intOf i).toNat)
      case atStart => exact ⟨0, Y, Nat.zero_le _, rfl, rfl, ho2, Below.refl _ _⟩
      case round =>
        clear ho2
        obtain ⟨j, zs, hj, hzl, rfl, ho, hbx⟩ := hrel
        by_cases hlt : j < Y.length
        · have hc2 : (j : Int) < (Y.length : Int) := by omega
          rw [← hzl] at ho
          obtain ⟨gx, cc, e, hB, hgl, _⟩ := ho.solid (by omega)
          injection e with e1 e2 e3
          subst e1
          rw [hzl] at ho
          have hcl := Own.cellAt ho j hlt
          have hfr := Own.frozenAt ho j
          have hst := Own.stored ho j (zs.getD j 0 ^^^ 1)
          rw [← xor_one] at hst
          clear e2 e3
          generalize zs.getD j 0 = y at *
          have HST := Lib.hid hst
          have HZL := Lib.hid hzl
          clear hst ho hzl
          go_wp2
          go_roundw
          case rel => exact ⟨j + 1, _, by omega, by rw [List.length_set]; exact HZL.out, by go_num, HST.out, hbx.setCell hB _⟩
          case measure => simp [intOf]; omega
        · have hc2 : ¬ (j : Int) < (Y.length : Int) := by omega
          have hS3 := hS2.to hbx hrl
          have hO3 := hO2.below hbx (fun q e => by obtain ⟨ad, e1, e2⟩ := own_block e; have := (hal ad e1).2; omega)
          have hB3 := hB2.trans (hbx.mono (by omega))
          have z3 := hbx.size
          have q0 := (hC.out _ hB3).c0
          have hlr := hR.out _ hB3
          clear ho hlt hzl hj hbx hS2 hO2 hB2 hal
          go_upto_region 15 with (at_builtin; go_loud (refine wl_append_g bt rfl _ _ rfl g _ T hO3 rfl p Y.length c Y rfl hlr (by omega) (by omega) ?_); intro v4 w4 hO4 hg4; rw [hU.out] at hO4; obtain ⟨a4, c4, rfl, hs4⟩ := hO4.shape)
          have hS4 := hS3.grown hg4 (fun e => Own.apart hO3 hS3 r e.symm rfl)
          have hB4 := hB3.grown hg4 (by omega) (fun q e => (World.ownsRow.lt hO3 q e).1)
          have z4 := hg4.size
          have q1 := (hC.out _ hB4).c1
          have q2 := (hC.out _ hB4).c2
          obtain ⟨U, hUd⟩ : ∃ U, U = tot X (k + 1) := ⟨_, rfl⟩
          have hUl : U.length ≤ 1099511627776 := by rw [hUd]; have := HX.out (k + 1) (by omega); omega
          rw [← hUd] at hS4 hO4 ⊢
          have HU := Lib.hid hUd
          clear hUd hg4 hS3 hO3 hB3 hlr q0 hs4
          obtain ⟨S, hSd⟩ : ∃ S, S = shaL U := ⟨_, rfl⟩
          have hSl : S.length = 32 := by rw [hSd]; exact shaL_len _
          have K1 : Hid (∀ r w, St w r U → Calls Try.prog 15 #[.pointer (some ⟨r, 0, none⟩)] w fun e w' => e = .returned (.agg (bvs S).toArray) ∧ Below w.heap.size w w') := fun r w h => by rw [hSd]; exact Sum_any r _ w (by omega) h
          have K2 : Hid (∀ a n c w, Rd w a n c U → Calls Try.prog 10 #[.slice a n c] w fun e w' => e = .returned (.agg (bvs S).toArray) ∧ Below w.heap.size w w') := fun a n c w h => by rw [hSd]; exact rSum_any _ _ _ _ w (by omega) h
          have hneq : ∀ W, (binOp .neq 24 (.agg (bvs S).toArray) (.agg (bvs S).toArray)).run Try.prog W = .ok (.bool false) W := fun W => by rw [neD hSl hSl]; simp
          clear hSd hSl
          cases s
          case' false =>
            go_upto_region 17 with (go_at_call 14; refine (Len_any _ _ _ hS4).mono ?_; rintro e w5 ⟨rfl, rfl⟩)
            have hS5 := hS4
            have hO5 := hO4
            have hB5 := hB4
            have q3 := q2
          case' true =>
            go_upto_region 17 with (first
              | (go_at_call 14; refine (Len_any _ _ _ hS4).mono ?_; rintro e w5 ⟨rfl, rfl⟩)
              | (go_at_call 15; go_loud (refine (K1.out _ _ hS4).mono ?_); rintro e w6 ⟨rfl, hb6⟩; have hS6 := hS4.kept hb6; have hO6 := hO4.to hb6; have hB6 := hB4.trans (hb6.mono (by omega)); have z6 := hb6.size)
              | (go_at_call 10; go_loud (refine (K2.out _ _ _ _ hO6.rd.toRd).mono ?_); rintro e w5 ⟨rfl, hb5⟩; have hS5 := hS6.kept hb5; have hO5 := hO6.to hb5; have hB5 := hB6.trans (hb5.mono (by omega)); have q3 := (hC.out _ hB5).c2))
          all_goals (
            have z5 := hB5.size
            have hrl5 := hS5.lt
            clear q1 q2 hS4 hO4 hB4 K1 K2 hneq
            cases kf
            case false =>
              go_wp2_with fail
              go_roundw
              case rel => exact ⟨r, k + 1, by omega, rfl, by go_num, hgr, by rw [← HU.out]; exact hS5, by rw [← HU.out]; exact hO5, hB5⟩
              case measure => simp [intOf]; omega
            case true =>
              go_upto_region 21 with (go_at_call 16; refine (Copy_any _ _ _ hS5).mono ?_; rintro e w7 ⟨r', rfl, hX7, hr7, hb7⟩)
              have hS7 := hS5.kept hb7
              have hO7 := hO5.to hb7
              have hB7 := hB5.trans (hb7.mono (by omega))
              have z7 := hb7.size
              clear hS5 hO5 hB5 hb7 q3
              have kc := fun (C : Array Value) (n c : Nat) => Lib.run_convert_bytes_const (P := Try.prog) w7 22 5 C n c Try.underlying22 Try.underlying5
              have al := fun (o : Obj) => (Below.refl w7.heap.size w7).alloc (Nat.le_refl _) o
              go_wp2_with fail
              have hne8 : ∀ ad, some (⟨w7.heap.size, 0, none⟩ : Addr) = some ad → 0 < 6 → ad.block ≠ r := fun ad e _ => by
                cases e
                show w7.heap.size ≠ r
                omega
              refine (Write_any r U [111, 116, 104, 101, 114, 115] _ 6 6 _ (by simp; omega) (rd_lit _ [111, 116, 104, 101, 114, 115] _ (6, 7)) hne8 (hS7.kept (al _))).mono ?_
              rintro e w8 ⟨rfl, -, hg8⟩
              have hX8 := (hX7.kept (al _)).grown hg8 (by intro e; injection e with e; omega)
              have hap := Own.apart hO7 hS7
              have hO8 := (hO7.to (al _)).grown hg8 hap
              have hB8 := (hB7.trans ((al _).mono (by omega))).grown hg8 (by simp only [World.size_alloc]; omega) (by intro i e; injection e with e; omega)
              clear hap hS7 hO7 hB7 hX7 hne8 al kc
              go_wp2_with fail
              go_roundw
              case rel => exact ⟨r', k + 1, by omega, rfl, by go_num, by omega, by rw [← HU.out]; exact hX8, by rw [← HU.out]; exact hO8, hB8⟩
              case measure => simp [intOf]; omega)
    · have hc1 : ¬ (k : Int) < n := by omega
      obtain rfl : k = n := by omega
      obtain ⟨aa, ca, rfl, hal⟩ := hO.shape
      obtain ⟨U, hUd⟩ : ∃ U, U = tot X k := ⟨_, rfl⟩
      have hUl : U.length ≤ 1099511627776 := by rw [hUd]; have := HX.out k (Nat.le_refl _); omega
      rw [← hUd] at hS hO ⊢
      have HU := Lib.hid hUd
      obtain ⟨S, hSd⟩ : ∃ S, S = shaL U := ⟨_, rfl⟩
      have hSl : S.length = 32 := by rw [hSd]; exact shaL_len _
      have K1 : Hid (∀ r w, St w r U → Calls Try.prog 15 #[.pointer (some ⟨r, 0, none⟩)] w fun e w' => e = .returned (.agg (bvs S).toArray) ∧ Below w.heap.size w w') := fun r w h => by rw [hSd]; exact Sum_any r _ w (by omega) h
      have K2 : Hid (∀ a n c w, Rd w a n c U → Calls Try.prog 10 #[.slice a n c] w fun e w' => e = .returned (.agg (bvs S).toArray) ∧ Below w.heap.size w w') := fun a n c w h => by rw [hSd]; exact rSum_any _ _ _ _ w (by omega) h
      have heql : ∀ W, (binOp .eql 24 (.agg (bvs S).toArray) (.agg (bvs S).toArray)).run Try.prog W = .ok (.bool true) W := fun W => by rw [eqD hSl hSl]; simp
      clear hSd hSl hUd hal h1 hX hk
      have z0 := hb.size
      go_upto_region 99 with (first
        | (go_at_call 15; go_loud (refine (K1.out _ _ hS).mono ?_); rintro e w6 ⟨rfl, hb6⟩; have hO6 := hO.to hb6; have hB6 := hb.trans (hb6.mono (by omega)); have z6 := hb6.size)
        | (go_at_call 10; go_loud (refine (K2.out _ _ _ _ hO6.rd.toRd).mono ?_); rintro e w5 ⟨rfl, hb5⟩; have hB5 := hB6.trans (hb5.mono (by omega))))
      go_ret
      exact ⟨rfl, HG.out ▸ hB5⟩

theorem bool_of_cells {H : Type} {enc : TypeId × Value → H} {P : Program} {t : TypeId} (ht : P.underlying t = some .bool) {W : World} {v : Value} {y : DataW H × List MemPlace} {fuel : Nat} {sp : Nat → Bool}
    (hf : DataW.trod enc P W 0 sp true fuel t [v] = some y) : ∃ b, v = .bool b := by
  cases fuel with
  | zero => simp [DataW.trod] at hf
  | succ fuel =>
    unfold DataW.trod at hf
    rw [ht] at hf
    cases v <;> simp at hf
    exact ⟨_, rfl⟩

theorem shaPlays_contract (H : Type) (enc : TypeId × Value → H) (W : World) (base : Nat) (args : Array Value) (ds gs : List (DataW H)) (before : List MemPlace)
    (hval : ∀ (j : Nat) t v, Try.f4.params[j]? = some t → args[j]? = some v → Value.okWide Try.prog W .any base t v)
    (hW : DataW.Whole enc Try.prog Try.f4.params.toList Rows.shaPlaysSpec.vars false W args.toList ds gs before) (hk : Rows.uptoSmall H (ds ++ gs) = true) :
    Calls Try.prog 4 args W fun e W' => ∃ v, e = .returned v ∧ Rows.shaPlaysSpec.post enc Try.prog Try.f4 false true false false W args v W' := by
  have hW' := hW
  obtain ⟨p, q, hA0, hV, rfl, _, _⟩ := hW
  have hA : DataW.TrodAll enc Try.prog W 0 (fun _ => true) true Try.f4.params.toList args.toList ds p := hA0
  have hval' := hval
  rw [Try.params4] at hA hval'
  obtain ⟨v0, d0, rfl, rfl, h0⟩ := trodAll_one hA
  obtain ⟨rfl, rfl⟩ := trodVars_none hV
  obtain ⟨a, n, cap, rfl⟩ := okWide_slice Try.underlying28 (hval' 0 28 v0 rfl rfl)
  obtain ⟨fu, hf⟩ := h0
  obtain ⟨aX, nX, cX, e2, hnc, hnil, hnb, hcells⟩ := structs_of_cells_b Try.underlying28 Try.underlying32 (by kernel_rfl) (by kernel_rfl) (by decide) hf
  cases e2
  have hb := bulk_bound hk
  simp only [List.append_nil, Rows.uptoBulkAll] at hb
  have each : ∀ i, ∃ Y : List UInt8, i < n → Y.length ≤ 1048576 ∧ ∀ b off, a = some ⟨b, off, none⟩ → ∃ p m c s k, Rd W p m c Y ∧ ActAt W b (off + i * 3) p m c s k := by
    intro i
    by_cases hi : i < n
    · obtain ⟨b, off, rfl, hlt, hall⟩ := hcells (by omega)
      obtain ⟨u0, z0, m0, c0, t0, k0⟩ := hall i hi 0 _ rfl
      obtain ⟨u1, z1, m1, c1, t1, k1⟩ := hall i hi 1 _ rfl
      obtain ⟨u2, z2, m2, c2, t2, k2⟩ := hall i hi 2 _ rfl
      obtain ⟨p, m, c, ys, rfl, hr, hm⟩ := rd_of_cells bt cells1 t0 (fun _ => rfl)
      obtain ⟨s, rfl⟩ := bool_of_cells Try.underlying4 t1
      obtain ⟨k, rfl⟩ := bool_of_cells Try.underlying4 t2
      have hl := hr.len
      simp only at k0
      refine ⟨ys, fun _ => ⟨by omega, fun b' off' e => ?_⟩⟩
      cases e
      exact ⟨p, m, c, s, k, hr, c0, by rw [← Nat.add_assoc] at c1; exact c1, by rw [← Nat.add_assoc] at c2; exact c2⟩
    · exact ⟨[], fun h => absurd h hi⟩
  obtain ⟨X, hX⟩ := Classical.axiomOfChoice each
  refine (Plays_any a n cap X W (by simp only at hnb; omega) (fun i hi => (hX i hi).1) hnc (fun h0 => ?_)).mono fun e W' ⟨he, hw⟩ => ?_
  · obtain ⟨b, off, rfl, hlt, -⟩ := hcells h0
    exact ⟨b, off, rfl, hlt, fun i hi => (hX i hi).2 b off rfl⟩
  subst he
  exact ⟨_, rfl, law_post laidOuts (by kernel_rfl) rfl Try.underlying4 rfl hW' hw rfl⟩

set_option maxRecDepth 100000 in
theorem shaPlays_lifted (os : Os) (started : os.Started) (H : Type) (enc : TypeId × Value → H) (F : Stop.Interp) :
    ReturnsInHanded {} Try.checked os 4 .any ((Rows.OpenSpec.upto Rows.shaPlaysSpec).pre6 enc Try.prog Try.f4 Rows.shaPlaysUptoRow.domain false) (((Rows.OpenSpec.upto Rows.shaPlaysSpec).at F).post enc Try.prog Try.f4 false true false false) := by
  refine returnsInHanded_of_cond (C := Try.checked) (s := Rows.OpenSpec.upto Rows.shaPlaysSpec) (k := Rows.uptoSmall) rfl ownKnobs started (by kernel_rfl) Try.func4
    (OpenSpec.witness (enc := enc) (C := Try.checked) (s := Rows.OpenSpec.upto Rows.shaPlaysSpec) (k := Rows.uptoSmall) rfl false ⟨#[], #[.slice none 0 0], []⟩ 8 (by kernel_rfl) (by kernel_rfl) (by kernel_rfl)
      (x := ([.nil], [], [])) (by kernel_rfl) rfl (by kernel_rfl)) ?_
  intro W base args ds gs before hval hW _ hk _
  exact shaPlays_contract H enc W base args ds gs before hval hW hk

theorem shaPlays_proved : Rows.ShaPlaysUptoSaid :=
  OpenClaim.holds_of_cond 4 Try.f4 rfl rfl rfl rfl rfl rfl rfl ⟨rfl, rfl, rfl, rfl, rfl⟩ rfl rfl rfl rfl rfl (by kernel_rfl) Try.func4 (by kernel_rfl)
    (of_decide_eq_true (by kernel_rfl)) (by unfold Func.isWrapper; first | (rw [if_pos (by decide +kernel)]; kernel_rfl) | (rw [if_neg (by decide +kernel)]; exact ⟨rfl, rfl⟩))
    (fun os started H enc _ F => shaPlays_lifted os started H enc F)
end Go.Proofs.Ytgippimoklefnaa
