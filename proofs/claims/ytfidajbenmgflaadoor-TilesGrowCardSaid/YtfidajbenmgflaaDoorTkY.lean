/-
  The statement's side: any hashes as a tile, any bytes as one, a tile's head; what is handed in stays. Conditions: those in each statement.
-/
import Derived.Test.YtfidajbenmgflaaDoorTiJ
import Derived.Test.YtfidajbenmgflaaDoorTrD
import Derived.Test.YtfidajbenmgflaaDoorTrE
namespace Go.Proofs.YtfidajbenmgflaaDoor
open Go.RowKit

theorem run_guardEq (x y : Operand) (A B : Array Value) (w : World) : (eqGuard .eql 48 x y (.agg A) (.agg B)).run Tryd.prog w = .ok () w := by
  unfold eqGuard
  simp
section
variable {o : Oper} {a : Act} {K : Act → World → Prop} {Q : Exit → Act → World → Prop} {w : World} {ops : Array Oper} {rest : List Oper}
theorem wl_eqS (hw : Region.wanted o (yielded ops a.tmps) = true) (x y : Operand) (r : TypeId) (ho : o.op = .binOp .eql 48 x y r) (xs : List UInt8) (hl : xs.length = 32) (hx : a.eval x = .agg (bvs xs).toArray) (hy : a.eval y = .agg (bvs xs).toArray)
    (hK : wpList Tryd.prog ops Q rest (a.put o.dst (.bool true)) w) : wpList Tryd.prog ops Q (o :: rest) a w :=
  wpList_step fun _ hK' => by
    rw [if_pos hw]
    have h := eqD hl hl w
    rw [decide_eq_true rfl] at h
    unfold Oper.wp execOp
    simp only [ho, hx, hy, Sem.run_bind, Sem.run_pure, run_guardEq, h, Result.andThen_ok]
    exact hK' _ _ hK
end
theorem KB.own {S : Nat → Prop} {w w' : World} {B : Nat} {E : TypeId} {v : Value} {xs : List UInt8} (h : KB S w w') (ho : Own w B E v xs) (hs : ∀ k, v.ownBlock = some k → ¬ S k) : Own w' B E v xs := by
  have hlt := World.ownsRow.lt ho
  obtain ⟨h1, ⟨rfl, hn⟩ | ⟨g, cap, cur, rfl, hbb, hg, r⟩⟩ := ho
  · exact ⟨h1, .inl ⟨rfl, hn⟩⟩
  · exact ⟨h1, .inr ⟨g, cap, cur, rfl, hbb, by rw [h.block g (hlt g rfl).2 (hs g rfl)]; exact hg, r⟩⟩
set_option maxRecDepth 100000 in
set_option maxHeartbeats 12800000 in
theorem Bytes_any (L : List (List UInt8)) (b : List UInt8) (pl : Option Addr) (nl cl : Nat) (pb : Option Addr) (nb cb : Nat) (w : World) (hT : Tabs w) (hnl : nl ≤ 2 ^ 42) (hnb : nb ≤ 140737488355328)
    (hr : RdD w pl nl cl L) (hrb : Rd w pb nb cb b) :
    Calls Tryd.prog 4 #[.slice pl nl cl, .slice pb nb cb] w fun e w' => e = .returned (.bool true) ∧ Below w.heap.size w w' := by
  have HRB := Lib.hid hrb
  have HRL := Lib.hid hr
  have HNL := Lib.hid hnl
  have HNB := Lib.hid hnb
  have HW : Hid (∀ W, Below w.heap.size w W → Calls Tryd.prog 15 #[] W fun e w' => e = .returned (.bool true) ∧ Below W.heap.size W w') := fun W hb => wakes_any W (hT.to hb)
  clear hT hr hrb hnl hnb
  go_enter Tryd.func4, Tryd.ntmps4
  go_upto_region 2 with (first
    | ((with_reducible show wpList _ _ _ (⟨some 23, _, _, _, _, _⟩ :: _) _ _); go_loud (refine wl_rowD rfl _ _ rfl w.heap.size _ [] rfl (OwnD.nil _ _) pl nl cl L rfl HRL.out (by have := HNL.out; rw [List.length_nil]; omega) (Nat.le_refl _) ?_); intro v1 w1 ho1 hb1)
    | ((with_reducible show wpList _ _ _ (⟨some 25, _, _, _, _, _⟩ :: _) _ _); go_loud (refine wl_append bt rfl _ _ rfl w1.heap.size _ [] (Own.nil _ _ _) rfl pb nb cb b rfl (HRB.out.to hb1) (by have := HNB.out; rw [List.length_nil]; omega) (Nat.le_refl _) ?_); intro v2 w2 ho2 hb2))
  rw [List.nil_append] at ho1 ho2
  have hb02 : Below w.heap.size w w2 := hb1.trans (hb2.mono hb1.size)
  obtain ⟨a1, c1, e1, hr1⟩ := (ho1.to hb2).rd
  rw [HRL.out.len] at e1 hr1
  subst e1
  obtain ⟨a2, c2, e2, -⟩ := ho2.shape
  subst e2
  have hr2 := ho2.rd.toRd
  rw [HRB.out.len] at hr2 ⊢
  have HB02 := Lib.hid hb02
  have HR1 := Lib.hid hr1
  have HR2 := Lib.hid hr2
  clear ho1 ho2 hb1 hb2 hb02 hr1 hr2
  obtain ⟨T, hT⟩ : ∃ T, T = putT L := ⟨_, rfl⟩
  obtain ⟨tn, htn⟩ : ∃ n, n = T.length := ⟨_, rfl⟩
  obtain ⟨E, hE⟩ : ∃ E, E = putE L := ⟨_, rfl⟩
  obtain ⟨X, hX⟩ : ∃ X, X = tkL b := ⟨_, rfl⟩
  obtain ⟨xn, hxn⟩ : ∃ n, n = X.length := ⟨_, rfl⟩
  obtain ⟨F, hF⟩ : ∃ F, F = tkE b := ⟨_, rfl⟩
  obtain ⟨G, hG⟩ : ∃ G, G = hdT L := ⟨_, rfl⟩
  obtain ⟨I, hI⟩ : ∃ I, I = hdTE L := ⟨_, rfl⟩
  have HRLW : Hid (∀ W, Below w2.heap.size w2 W → RdD W pl nl cl L) := fun W hb => HRL.out.to (HB02.out.trans (hb.mono HB02.out.size))
  have HRBW : Hid (∀ W, Below w2.heap.size w2 W → Rd W pb nb cb b) := fun W hb => HRB.out.to (HB02.out.trans (hb.mono HB02.out.size))
  have HP : Hid (∀ W, Below w2.heap.size w2 W → Calls Tryd.prog 16 #[.slice a1 nl c1] W fun e w' => ∃ p c, e = .returned (.tuple #[.slice p tn c, .int .i64 E]) ∧ Own w' W.heap.size 5 (.slice p tn c) T ∧ Below W.heap.size W w') := fun W hb =>
    (Put_any L a1 nl c1 W (by have := HNL.out; omega) (HR1.out.to hb)).mono (by
      rintro e w' ⟨v, rfl, ho, hb'⟩
      rw [← hT] at ho
      obtain ⟨p, c, rfl, -⟩ := ho.shape
      rw [← htn] at ho ⊢
      exact ⟨p, c, by rw [hE], ho, hb'⟩)
  have HRP : Hid (∀ W, Below w2.heap.size w2 W → Calls Tryd.prog 17 #[.slice pl nl cl] W fun e w' => ∃ p c, e = .returned (.tuple #[.slice p tn c, .int .i64 E]) ∧ Own w' W.heap.size 5 (.slice p tn c) T ∧ Below W.heap.size W w') := fun W hb =>
    (rPut_any L pl nl cl W (HRLW.out W hb)).mono (by
      rintro e w' ⟨v, rfl, ho, hb'⟩
      rw [← hT] at ho
      obtain ⟨p, c, rfl, -⟩ := ho.shape
      rw [← htn] at ho ⊢
      exact ⟨p, c, by rw [hE], ho, hb'⟩)
  have HK : Hid (∀ W, Below w2.heap.size w2 W → Calls Tryd.prog 18 #[.slice a2 nb c2] W fun e w' => ∃ p c, e = .returned (.tuple #[.slice p xn c, .int .i64 F]) ∧ OwnD w' W.heap.size (.slice p xn c) X ∧ Below W.heap.size W w') := fun W hb =>
    (Take_any b a2 nb c2 HNB.out W (HR2.out.to hb)).mono (by
      rintro e w' ⟨v, rfl, ho, hb'⟩
      rw [← hX] at ho
      obtain ⟨p, c, rfl, -⟩ := ho.rd
      rw [← hxn] at ho ⊢
      exact ⟨p, c, by rw [hF], ho, hb'⟩)
  have HRK : Hid (∀ W, Below w2.heap.size w2 W → Calls Tryd.prog 19 #[.slice pb nb cb] W fun e w' => ∃ p c, e = .returned (.tuple #[.slice p xn c, .int .i64 F]) ∧ OwnD w' W.heap.size (.slice p xn c) X ∧ Below W.heap.size W w') := fun W hb =>
    (rTake_any b pb nb cb HNB.out W (HRBW.out W hb)).mono (by
      rintro e w' ⟨v, rfl, ho, hb'⟩
      rw [← hX] at ho
      obtain ⟨p, c, rfl, -⟩ := ho.rd
      rw [← hxn] at ho ⊢
      exact ⟨p, c, by rw [hF], ho, hb'⟩)
  have HH : Hid (∀ W, Below w2.heap.size w2 W → Calls Tryd.prog 20 #[.slice a1 nl c1] W fun e w' => e = .returned (.tuple #[.agg (bvs G).toArray, .int .i64 I]) ∧ Below W.heap.size W w') := fun W hb => by
    rw [hG, hI]; exact Head_any L a1 nl c1 W (by have := HNL.out; omega) (HR1.out.to hb)
  have HRH : Hid (∀ W, Below w2.heap.size w2 W → Calls Tryd.prog 21 #[.slice pl nl cl] W fun e w' => e = .returned (.tuple #[.agg (bvs G).toArray, .int .i64 I]) ∧ Below W.heap.size W w') := fun W hb => by
    rw [hG, hI]; exact rHead_any L pl nl cl W (by have := HNL.out; omega) (HRLW.out W hb)
  have HSL : Hid (∀ W, Below w2.heap.size w2 W → Calls Tryd.prog 22 #[.slice a1 nl c1, .slice pl nl cl] W fun e w' => e = .returned (.bool true) ∧ Below W.heap.size W w') := fun W hb => by
    have h := rSame_any L L a1 pl nl nl c1 cl W (HR1.out.to hb) (HRLW.out W hb) (by have := HNL.out; omega) (by have := HNL.out; omega)
    rwa [decide_eq_true rfl] at h
  have HGL : Hid (G.length = 32) := by show _ = _; rw [hG]; exact hdT_len HRL.out.all
  have HXL : Hid (X.length = xn) := hxn.symm
  have HTL : Hid (T.length = tn) := htn.symm
  have HXS : Hid (xn ≤ 2 ^ 48) := by
    show xn ≤ _
    rw [hxn, hX]
    unfold tkL
    split
    · rw [List.length_map, List.length_range]; omega
    · simp
  have HTS : Hid (tn ≤ 1000) := by
    show tn ≤ _
    rw [htn, hT]
    unfold putT
    split
    · rename_i h; rw [flat_len HRL.out.all]; omega
    · simp
  have h32 : Hid ((Tryd.prog.info? 48).map (·.size) = some (bvs G).length) := by show _ = _; rw [bvs_len, HGL.out]; exact sizeD
  have hG32 : Hid ((bvs G).length = 32) := by show _ = _; rw [bvs_len]; exact HGL.out
  clear hT htn hE hX hxn hF hG hI
  go_upto_region 6 with (first
    | (go_at_call 16; go_loud (refine (HP.out _ (Below.refl _ _)).mono ?_); rintro e w3 ⟨pp, cp, rfl, hop, b3⟩)
    | (go_at_call 17; go_loud (refine (HRP.out _ b3).mono ?_); rintro e w4 ⟨pq, cq, rfl, hoq, b4⟩; (have k4 := b3.trans (b4.mono b3.size)))
    | (go_at_call 18; go_loud (refine (HK.out _ k4).mono ?_); rintro e w5 ⟨px, cx, rfl, hox, b5⟩; (have k5 := k4.trans (b5.mono k4.size)))
    | (go_at_call 19; go_loud (refine (HRK.out _ k5).mono ?_); rintro e w6 ⟨py, cy, rfl, hoy, b6⟩; (have k6 := k5.trans (b6.mono k5.size))))
  have HPX : Hid (∀ k j, (Value.slice pp tn cp).ownBlock = some k → (Value.slice px xn cx).ownBlock = some j → ¬ k = j) := fun k j hk hj => by
    have h1 := (World.ownsRow.lt hop k hk).2
    have h2 := (World.ownsRow.lt hox.row j hj).1
    have h3 := b4.size
    omega
  have HXB : Hid (∀ j, (Value.slice px xn cx).ownBlock = some j → w2.heap.size ≤ j) := fun j hj => by
    have h2 := (World.ownsRow.lt hox.row j hj).1
    have h3 := k4.size
    omega
  have HPB : Hid (∀ j, (Value.slice pp tn cp).ownBlock = some j → w2.heap.size ≤ j) := fun j hj => (World.ownsRow.lt hop j hj).1
  have HOP := Lib.hid (((hop.to b4).to b5).to b6)
  have HOQ := Lib.hid ((hoq.to b5).to b6)
  have HOX := Lib.hid (hox.to b6)
  have HOY := Lib.hid hoy
  have K6 := Lib.hid k6
  clear hop hoq hox hoy b3 b4 b5 b6 k4 k5 k6 HP HRP HK HRK
  go_upto_region 8 with (first
    | (go_at_call 20; go_loud (refine (HH.out _ K6.out).mono ?_); rintro e w7 ⟨rfl, b7⟩)
    | ((with_reducible show wpList _ _ _ (⟨some 15, _, _, _, _, _⟩ :: _) _ _); go_loud (refine wl_alloc rfl 48 rfl (bvs (Z8 32)) 32 infoD1 ?_); intro w8 hA8 hb8 hs8)
    | ((with_reducible show wpList _ _ _ (⟨none, .store _ (.tmp 15) _, _, _, _, _⟩ :: _) _ _); go_loud (refine wl_store rfl 48 _ _ rfl w7.heap.size 0 rfl (bvs G) rfl 48 _ hA8 h32.out (by rw [hG32.out]; exact (by decide : 0 + 32 ≤ (bvs (Z8 32)).length)) (bvs_one _) ?_); intro w9 hA9 hg9 hs9; (have b9 : Below w7.heap.size w7 w9 := hb8.grown hg9 hb8.size (fun k hk => by injection hk with hk; omega)); (have b69 := b7.trans (b9.mono b7.size)); (have k9 := K6.out.trans (b69.mono K6.out.size)))
    | (go_at_call 21; go_loud (refine (HRH.out _ k9).mono ?_); rintro e w10 ⟨rfl, b10⟩)
    | ((with_reducible show wpList _ _ _ (⟨some 17, _, _, _, _, _⟩ :: _) _ _); go_loud (refine wl_alloc rfl 48 rfl (bvs (Z8 32)) 32 infoD1 ?_); intro w11 hA11 hb11 hs11)
    | ((with_reducible show wpList _ _ _ (⟨none, .store _ (.tmp 17) _, _, _, _, _⟩ :: _) _ _); go_loud (refine wl_store rfl 48 _ _ rfl w10.heap.size 0 rfl (bvs G) rfl 48 _ hA11 h32.out (by rw [hG32.out]; exact (by decide : 0 + 32 ≤ (bvs (Z8 32)).length)) (bvs_one _) ?_); intro w12 hA12 hg12 hs12; (have b12 : Below w10.heap.size w10 w12 := hb11.grown hg12 hb11.size (fun k hk => by injection hk with hk; omega))))
  go_simp
  rw [whole_store _ _ (by rw [hG32.out]; rfl)] at hA9 hA12
  have A15 := (hA9.kept b10).kept b12
  have b612 : Below w6.heap.size w6 w12 := (b69.trans (b10.mono b69.size)).trans (b12.mono (Nat.le_trans b69.size b10.size))
  obtain ⟨g15, hg15⟩ : ∃ g, g = w7.heap.size := ⟨_, rfl⟩
  obtain ⟨g17, hg17⟩ : ∃ g, g = w10.heap.size := ⟨_, rfl⟩
  rw [← hg15] at A15 ⊢
  rw [← hg17] at hA12 ⊢
  have HA15 := Lib.hid A15
  have HA17 := Lib.hid hA12
  have K12 := Lib.hid (K6.out.trans (b612.mono K6.out.size))
  have HOP2 := Lib.hid (HOP.out.to b612)
  have HOX2 := Lib.hid (HOX.out.to b612)
  have q1 : (convert 38 9 (.slice pp tn cp)).run Tryd.prog w12 = .ok (.string (bstr T)) w12 := run_bstr bt Tryd.underlying9 (by have h := (HOP.out.to b612).rd.toRd; exact h)
  have q2 : (convert 38 9 (.slice pq tn cq)).run Tryd.prog w12 = .ok (.string (bstr T)) w12 := run_bstr bt Tryd.underlying9 (by have h := (HOQ.out.to b612).rd.toRd; exact h)
  have HSX : Hid (Calls Tryd.prog 22 #[.slice px xn cx, .slice py xn cy] w12 fun e w' => e = .returned (.bool true) ∧ Below w12.heap.size w12 w') := by
    obtain ⟨x1, x2, e1, r1⟩ := (HOX.out.to b612).rd
    obtain ⟨y1, y2, e2, r2⟩ := (HOY.out.to b612).rd
    injection e1 with e1 e11 e12
    injection e2 with e2 e21 e22
    subst e1 e2 e12 e22
    rw [HXL.out] at r1 r2
    have h := rSame_any X X _ _ xn xn _ _ w12 r1 r2 (by have := HXS.out; omega) (by have := HXS.out; omega)
    rwa [decide_eq_true rfl] at h
  clear hA8 hA9 hA11 hA12 A15 hb8 hb11 hs8 hs9 hs11 hs12 hg9 hg12 hg15 hg17 b7 b9 b69 b10 b12 b612 k9 HH HRH HOP HOQ HOX HOY K6
  go_upto_region 9 with (first
    | (go_at_call 22; go_loud (refine HSX.out.mono ?_); rintro e w13 ⟨rfl, b13⟩)
    | ((with_reducible show wpList _ _ _ (⟨some 77, _, _, _, _, _⟩ :: _) _ _); go_loud (refine wl_loadG rfl 48 _ rfl g15 0 rfl 48 (bvs G) (bvs G) (HA15.out.kept b13) (fun j v h => (by rw [Nat.zero_add]; exact h)) (.array 32 5) Tryd.underlying48 rfl h32.out ?_))
    | ((with_reducible show wpList _ _ _ (⟨some 78, _, _, _, _, _⟩ :: _) _ _); go_loud (refine wl_loadG rfl 48 _ rfl g17 0 rfl 48 (bvs G) (bvs G) (HA17.out.kept b13) (fun j v h => (by rw [Nat.zero_add]; exact h)) (.array 32 5) Tryd.underlying48 rfl h32.out ?_))
    | ((with_reducible show wpList _ _ _ (⟨some 79, _, _, _, _, _⟩ :: _) _ _); go_loud (refine wl_eqS rfl _ _ _ rfl G HGL.out rfl rfl ?_)))
  have K13 := Lib.hid (K12.out.trans (b13.mono K12.out.size))
  have HOP3 := Lib.hid (HOP2.out.to b13)
  have HOX3 := Lib.hid (HOX2.out.to b13)
  clear q1 q2 b13 HOP2 HOX2 K12 HSX HA15 HA17 h32 hG32
  go_wp2_with fail
  go_loopw [20] (fun kk wq => ∃ (j : Nat) (M : List (List UInt8)), j ≤ xn ∧ kk = .int .i64 (j : Int) ∧ M.length = xn ∧ OwnD wq w4.heap.size (.slice px xn cx) M ∧ KB (fun q => (Value.slice px xn cx).ownBlock = some q) w13 wq) (fun kk _ => xn - (intOf kk).toNat)
  case atStart => exact ⟨0, X, Nat.zero_le _, rfl, HXL.out, HOX3.out, KB.refl _ _⟩
  case round =>
    obtain ⟨j, M, hj, rfl, hM, hOw, hKb⟩ := hrel
    by_cases hjl : j < xn
    · obtain ⟨gx, hgx⟩ : ∃ G, px = some ⟨G, 0, none⟩ := by
        obtain ⟨g, c, e, -⟩ := hOw.solid (by omega)
        injection e with e
        exact ⟨g, e⟩
      subst hgx
      have hj0 : (0 : Int) ≤ (j : Int) := by omega
      have hjl' : (j : Int) < (xn : Int) := by omega
      have hat := hOw.cellAt j hjl
      have hcl := hat.1
      have hfr := hat.2
      have hfl := hOw.flip j (by omega)
      have hgw := setCells_grown gx [(.int .u8 ((((M.getD j []).getD 0 0 ^^^ 1).toNat : Nat) : Int))] wr (j * 32)
      have hkf := hKb.grown hgw rfl
      obtain ⟨Y, hY⟩ : ∃ Y, Y = (M.getD j []).getD 0 0 := ⟨_, rfl⟩
      rw [← hY] at hcl hfl hkf
      rw [← xor_one] at hfl hkf
      have HFL := Lib.hid hfl
      have HKF := Lib.hid hkf
      have HML : Hid ((flipL M j).length = xn) := by show _ = _; rw [flipL_len]; exact hM
      have HJL := Lib.hid hjl
      have hlb := HXS.out
      clear hat hfl hgw hkf hOw hKb hM hY
      go_upto_region 12 with fail
      go_region
      go_wp2_with fail
      go_roundw
      case rel => exact ⟨j + 1, flipL M j, HJL.out, by go_num, HML.out, ⟨HFL.out.row, HFL.out.all⟩, HKF.out.drew⟩
      case measure => have := HJL.out; simp [intOf]; omega
    · obtain rfl : j = xn := by omega
      have hjl' : ¬ ((j : Int) < (j : Int)) := by omega
      have HOP4 := Lib.hid (hKb.own HOP3.out (fun k hk e => HPX.out k k hk e rfl))
      have K14 := Lib.hid (K13.out.trans (hKb.under HXB.out K13.out.size))
      clear hM hOw hKb HOP3 HOX3 K13 HPX HXL
      go_wp2_with fail
      obtain ⟨w14, hw14⟩ : ∃ W, W = wr := ⟨_, rfl⟩
      rw [← hw14] at HOP4 K14
      go_loopw [21] (fun kk wq => ∃ (i : Nat) (ys : List UInt8), i ≤ tn ∧ kk = .int .i64 (i : Int) ∧ ys.length = tn ∧ Own wq w2.heap.size 5 (.slice pp tn cp) ys ∧ KB (fun q => (Value.slice pp tn cp).ownBlock = some q) w14 wq) (fun kk _ => tn - (intOf kk).toNat)
      case atStart => exact ⟨0, T, Nat.zero_le _, rfl, HTL.out, (by rw [← hw14]; exact HOP4.out), (by rw [← hw14]; exact KB.refl _ _)⟩
      case round =>
        clear hw14
        obtain ⟨i, ys, hi, rfl, hys, hOw, hKb⟩ := hrel
        by_cases hil : i < tn
        · obtain ⟨gp, hgp⟩ : ∃ G, pp = some ⟨G, 0, none⟩ := by
            obtain ⟨g, c, e, -⟩ := hOw.solid (by omega)
            injection e with e
            exact ⟨g, e⟩
          subst hgp
          have hi0 : (0 : Int) ≤ (i : Int) := by omega
          have hil' : (i : Int) < (tn : Int) := by omega
          have hcl := hOw.cellAt i hil
          have hfr := hOw.frozenAt i
          obtain ⟨Y, hY⟩ : ∃ Y, Y = ys.getD i 0 := ⟨_, rfl⟩
          rw [← hY] at hcl
          have hst := hOw.stored i (Y ^^^ 1)
          have hgw := setCells_grown gp [(.int .u8 ((Y ^^^ 1).toNat : Int))] wr i
          have hkf := hKb.grown hgw rfl
          rw [← xor_one] at hst hkf
          have HST := Lib.hid hst
          have HKF := Lib.hid hkf
          have HYL : Hid ((ys.set i (Y ^^^ 1)).length = tn) := by show _ = _; rw [List.length_set]; exact hys
          have HIL := Lib.hid hil
          have hlb := HTS.out
          clear hst hgw hkf hOw hKb hys hY
          go_wp2_with fail
          go_roundw
          case rel => exact ⟨i + 1, ys.set i (Y ^^^ 1), HIL.out, by go_num, HYL.out, HST.out, HKF.out⟩
          case measure => have := HIL.out; simp [intOf]; omega
        · obtain rfl : i = tn := by omega
          have hil' : ¬ ((i : Int) < (i : Int)) := by omega
          have K15 := Lib.hid (K14.out.trans (hKb.under HPB.out K14.out.size))
          clear hys hOw hKb HOP4 K14 HPB HTL
          have HR2W : Hid (∀ W, Below w2.heap.size w2 W → Rd W a2 nb c2 b) := fun W hb => HR2.out.to hb
          go_wp2_with (first
            | (go_at_call 22; go_loud (refine (HSL.out _ K15.out).mono ?_); rintro e w16 ⟨rfl, b16⟩; (have k16 := K15.out.trans (b16.mono K15.out.size)); (have q1 : (convert 38 9 (.slice a2 nb c2)).run Tryd.prog w16 = .ok (.string (bstr b)) w16 := run_bstr bt Tryd.underlying9 (HR2W.out _ k16)); (have q2 : (convert 38 9 (.slice pb nb cb)).run Tryd.prog w16 = .ok (.string (bstr b)) w16 := run_bstr bt Tryd.underlying9 (HRBW.out _ k16)); (have K16 := Lib.hid (HB02.out.trans (k16.mono HB02.out.size))); clear k16 b16)
            | (go_at_call 15; go_loud (refine (HW.out _ K16.out).mono ?_); rintro e w17 ⟨rfl, b17⟩))
          go_ret
          exact ⟨rfl, K16.out.trans (b17.mono K16.out.size)⟩
end Go.Proofs.YtfidajbenmgflaaDoor
