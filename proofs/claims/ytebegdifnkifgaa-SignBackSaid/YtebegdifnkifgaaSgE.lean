/-
  Layer 6: Mark. Conditions: those in each statement.
-/
import Derived.Test.YtebegdifnkifgaaSgD
namespace Go.Proofs.Ytebegdifnkifgaa
open Go.RowKit

theorem ow_append {o : Oper} {a : Act} {K : Act → World → Prop} {Q : Exit → Act → World → Prop} {w : World} (d s : Operand) (ho : o.op = .call { callee := .builtin .append, args := #[d, s], argTypes := #[22, 22] })
    (B : Nat) (v : Value) (ys : List UInt8) (hown : Own w B 5 v ys) (hd : a.eval d = v) (ad : Addr) (sLen sCap : Nat) (xs : List UInt8)
    (hs : a.eval s = .slice (some ad) sLen sCap) (hrd : Rd w (some ad) sLen sCap xs) (hb : ys.length + sLen ≤ 140737488355328) (hB : B ≤ w.heap.size)
    (hK : ∀ v' w', Own w' B 5 v' (ys ++ xs) → Below B w w' → K (a.put o.dst v') w') : Oper.wp Try.prog o a w K Q := by
  obtain ⟨i0, hi, hz0, hz1, hz2⟩ := info_parts bt.info
  refine wp_append_own w d s 22 ho B 5 i0 (.int .u8 0) 1 1 bt.sl hi hz0 hz1 hz2 rfl (by decide) v _ _ hd hown ad sLen sCap (xs.map bv) hs (by simp [hrd.len]) hrd.cells bv_oneCell (by unfold maxLen; omega) (by omega) hB ?_
  intro v' w' h1 h2 _
  refine hK v' w' ?_ ((Below.refl _ _).grown h2 hB fun k hk => (World.ownsRow.lt hown k hk).1)
  unfold Own
  rw [List.length_append, List.map_append, hrd.len]
  exact h1

structure InvMk (B g : Nat) (sig : List UInt8) (w1 : World) (L : Nat → Bool) (v2 v3 v4 v5 : Value) (wx : World) : Prop where
  t0 : L 0 = true → L 2 = false → Own wx B 5 v3 mhead
  t1 : L 1 = true → v4 = .slice (some ⟨g, 0, none⟩) 64 64
  t2 : L 2 = true → Own wx B 5 v5 (mhead ++ sig)
  t3 : L 3 = true → Own wx B 5 v2 (mhead ++ sig)
  bw : Below B w1 wx

set_option maxHeartbeats 800000 in
theorem Mark_any (sig : List UInt8) (w : World) (hg : sig.length = 64) :
    Calls Try.prog 18 #[.agg (bvs sig).toArray] w fun e w' => ∃ v, e = .returned v ∧ Own w' w.heap.size 5 v (mhead ++ sig) ∧ Below w.heap.size w w' := by
  have HG := Lib.hid hg
  clear hg
  go_enter Try.func18, Try.ntmps18
  go_upto_region 1 with (((with_reducible show wpList _ _ _ (⟨some 1, .box _ _, _, _, _, _⟩ :: _) _ _); refine wl_box rfl 23 _ rfl (bvs sig) rfl ?_; intro w1 hA1 hb1 hs1))
  have hA1d := hA1
  obtain ⟨g, hgg⟩ : ∃ g, w.heap.size = g := ⟨_, rfl⟩
  obtain ⟨B, hB⟩ : ∃ B, w1.heap.size = B := ⟨_, rfl⟩
  have HGG := Lib.hid hgg
  have HB := Lib.hid hB
  rw [hgg] at hA1 hs1 hb1 ⊢
  rw [hB] at hs1
  clear hgg hB hA1d
  refine wp_region_steps [[], [], [0, 1], [2, 0, 1]] (by kernel_rfl) (by kernel_rfl) (fun L a wx => ∃ v2 v3 v4 v5, a = ⟨#[.agg (bvs sig).toArray, .pointer (some ⟨g, 0, none⟩), v2, v3, v4, v5], []⟩ ∧ InvMk B g sig w1 L v2 v3 v4 v5 wx) ?_ ⟨?_, ?_, ?_, ?_, trivial⟩ ?_
  · exact ⟨_, _, _, _, rfl, ⟨fun h => absurd h (by decide), fun h => absurd h (by decide), fun h => absurd h (by decide), fun h => absurd h (by decide), (Below.refl _ _).drew⟩⟩
  · rintro L a wx ⟨v2, v3, v4, v5, rfl, hI⟩ hL hdep hcl K hK
    go_simp
    refine (markHead_any wx).mono ?_
    rintro e w' ⟨v, rfl, ho, hb⟩
    exact hK _ _ ⟨v2, _, v4, v5, rfl, ⟨fun _ _ => ho.mono (Nat.le_trans (Nat.le_of_eq HB.out.symm) (HB.out ▸ hI.bw.size)), hI.t1, fun h => (hI.t2 h).to hb, fun h => (hI.t3 h).to hb, hI.bw.trans (hb.mono (HB.out ▸ hI.bw.size))⟩⟩
  · rintro L a wx ⟨v2, v3, v4, v5, rfl, hI⟩ hL hdep hcl K hK
    go_simp
    exact hK _ _ ⟨v2, v3, _, v5, rfl, ⟨hI.t0, fun _ => rfl, hI.t2, hI.t3, hI.bw⟩⟩
  · rintro L a wx ⟨v2, v3, v4, v5, rfl, hI⟩ hL hdep hcl K hK
    obtain rfl := hI.t1 (hdep 1 (by decide))
    have ho := hI.t0 (hdep 0 (by decide)) hL
    have hr := rd_arr (hA1.to hI.bw hs1)
    rw [HG.out] at hr
    refine ow_append _ _ rfl B _ _ ho rfl _ 64 64 sig rfl hr (by simp [mhead]) (HB.out ▸ hI.bw.size) ?_
    intro v' w' ho' hb'
    refine hK _ _ ⟨v2, v3, _, v', rfl, ⟨fun _ h => ?_, fun _ => rfl, fun _ => ho', fun h => ?_, hI.bw.trans hb'⟩⟩
    · simp [stepL] at h
    · have h3 : L 3 = true := by simpa [stepL] using h
      have := hcl 3 (by decide) h3 2 (by decide)
      rw [hL] at this
      cases this
  · rintro L a wx ⟨v2, v3, v4, v5, rfl, hI⟩ hL hdep hcl K hK
    have ho := hI.t2 (hdep 2 (by decide))
    go_simp
    exact hK _ _ ⟨_, v3, v4, v5, rfl, ⟨hI.t0, hI.t1, hI.t2, fun _ => ho, hI.bw⟩⟩
  · rintro a wx ⟨v2, v3, v4, v5, rfl, hI⟩
    have ho := hI.t3 rfl
    have hb := hI.bw
    clear hI
    go_wp2
    go_ret
    exact ⟨v2, rfl, by rw [HGG.out]; exact ho.mono (Nat.le_of_lt hs1), by rw [HGG.out]; exact hb1.trans (hb.mono (Nat.le_of_lt hs1))⟩
end Go.Proofs.Ytebegdifnkifgaa
