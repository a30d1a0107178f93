/-
  The program's lists of certificates as a part, and what is made of an entry: a contract for each call. Conditions: those in each statement.
-/
import Derived.Test.YtcohcjhbkiangaaEnC
namespace Go.Proofs.Ytcohcjhbkiangaa
open Go.RowKit

def vec3 (x : List UInt8) : List UInt8 := digits x.length 3 ++ x
/-- certificates, each as a vector, one behind the other -/
def catF (xss : List (List UInt8)) : List UInt8 := (xss.map vec3).flatten
def listF (xss : List (List UInt8)) : List UInt8 := vec3 (catF xss)

theorem vec3_len (x : List UInt8) : (vec3 x).length = x.length + 3 := by simp [vec3, digits_len]; omega
theorem cat_step {xss : List (List UInt8)} {k : Nat} (hk : k < xss.length) : catF (xss.take (k + 1)) = catF (xss.take k) ++ vec3 (xss.getD k []) := by
  unfold catF
  rw [List.take_succ_eq_append_getElem hk, List.map_append, List.flatten_append]
  simp [List.getD, hk]
theorem cat_le (xss : List (List UInt8)) (k : Nat) : (catF (xss.take k)).length ≤ (catF xss).length := by
  conv => rhs; rw [← List.take_append_drop k xss]
  unfold catF
  rw [List.map_append, List.flatten_append, List.length_append]
  omega
theorem cat_step_le {xss : List (List UInt8)} {k : Nat} (hk : k < xss.length) : (catF (xss.take k)).length + (xss.getD k []).length + 3 ≤ (catF xss).length := by
  have h := cat_le xss (k + 1)
  rw [cat_step hk, List.length_append, vec3_len] at h
  omega

theorem list_mk (a : Option Addr) (n cap : Nat) (w : World) : Calls Try.prog 37 #[.slice a n cap] w fun e w' =>
    ∃ p, e = .returned (.func (.func 57) #[] #[.pointer (some ⟨p, 0, none⟩)]) ∧ w'.cell? ⟨p, 0, none⟩ = some (.slice a n cap) ∧ p < w'.heap.size ∧ Below w.heap.size w w' := by
  have hb := hal w (.cells #[.slice a n cap] 23)
  go_enter Try.func37, Try.ntmps37
  go_wp2
  go_ret
  exact ⟨_, rfl, by simp, by simp, hb⟩

set_option maxHeartbeats 1000000 in
theorem list_any (a : Option Addr) (n cap : Nat) (xss : List (List UInt8)) (a' : Option Addr) (n' cap' : Nat) (ys : List UInt8) (p : Nat) (w : World) (hn : n ≤ 1000) (hlen : (catF xss).length ≤ 1048576) (hn' : n' ≤ 1048576)
    (hp : w.cell? ⟨p, 0, none⟩ = some (.slice a n cap)) (lp : p < w.heap.size) (h : Chn w a n cap xss) (hr : Rd w a' n' cap' ys) :
    Calls Try.prog 57 #[.slice a' n' cap', .pointer (some ⟨p, 0, none⟩)] w (BRes w (ys ++ listF xss, 0)) := by
  have hl := h.len
  have hcap := h.le
  have hc := h.mem
  have HL := Lib.hid hl
  clear hl h
  have hb0 := hal w (.cells #[.int .i64 0] 28)
  have hx0 : Boxed (w.alloc (.cells #[.int .i64 0] 28)) w.heap.size 28 (.int .i64 0) := Boxed.new _ _ _
  have hp0 := (hb0.cell (p := ⟨p, 0, none⟩) lp).trans hp
  go_enter Try.func57, Try.ntmps57
  go_wp2
  generalize hB : w.heap.size = B at *
  have HB := Lib.hid hB
  clear hB
  go_loopw [5, 12] (fun v i wr => ∃ (k : Nat) (av : Option Addr) (nv cv : Nat), k ≤ n ∧ i = .int .i64 k ∧ v = .slice av nv cv ∧ Own wr (B + 1) 5 (.slice av nv cv) (catF (xss.take k)) ∧ Boxed wr B 28 (.int .i64 0) ∧ Below B w wr) (fun _ i _ => n - (intOf i).toNat)
  case atStart => exact ⟨0, none, 0, 0, Nat.zero_le _, rfl, rfl, Own.nil _ _ _, by simpa using hx0, by simpa using hb0⟩
  case round =>
    obtain ⟨k, av, nv, cv, hk, rfl, rfl, ho, hx, hbr⟩ := hrel
    have hBs : B ≤ wr.heap.size := by have := hbr.size; rw [HB.out] at this; exact this
    have hBw : Below w.heap.size w wr := by rw [HB.out]; exact hbr
    have HBW := Lib.hid hBw
    have hol := ho.rd.len
    clear hBw
    by_cases hlt : k < n
    · obtain ⟨b, off, rfl, hb, hc⟩ := hc (by omega)
      obtain ⟨aj, nj, cj, hcl, hrj⟩ := hc k hlt
      have hcl' := (hbr.cell (p := ⟨b, off + k, none⟩) hb).trans hcl
      have hle := cat_step_le (xss := xss) (k := k) (by rw [HL.out]; exact hlt)
      have hst : Hid (catF (xss.take (k + 1)) = catF (xss.take k) ++ vec3 (xss.getD k [])) := cat_step (by rw [HL.out]; exact hlt)
      have hjl := hrj.len
      have hnv : nv ≤ 1048576 := by omega
      have hyl : (xss.getD k []).length < 256 ^ 3 := by simp only [Nat.reducePow]; omega
      have HYL := Lib.hid hyl
      have hyl2 : (xss.getD k []).length ≤ 1048576 := by omega
      have HYL2 := Lib.hid hyl2
      have HRJ := Lib.hid (hrj.to HBW.out)
      clear hcl hle hol hc hrj hjl hyl hyl2
      go_wp2_with fail
      refine (vector_mk _ _ _ _ _).mono ?_
      intro e w1 hmk
      obtain ⟨f, rfl, ⟨k', caps, rfl, he, hpart⟩, hb1⟩ := vector_part _ 3 (by decide) (xss.getD k []) ⟨aj, nj, cj, rfl, HRJ.out⟩ HYL.out HYL2.out hmk
      clear hmk
      go_wp2_with fail
      refine (kept_bb _ _ _ _).mono ?_
      rintro e w2 ⟨p2, q2, rfl, hp2, hq2, lp2, lq2, hb2⟩
      have hb12 := hb1.trans (hb2.mono hb1.size)
      have hx2 : Boxed w2 B 28 (.int .i64 0) := (hb12.block B hx.lt).trans hx
      have hpt : ∀ W, Below w2.heap.size w2 W → Calls Try.prog k' (#[.slice av nv cv] ++ caps) W (BRes W (catF (xss.take k) ++ vec3 (xss.getD k []), 0)) := fun W hW =>
        hpart W (hb2.trans (hW.mono hb2.size)) av nv cv _ ((ho.to (hb12.trans (hW.mono hb12.size))).rd.toRd) hnv
      go_wp2_with fail
      refine (keptBB_any k' caps he av nv cv _ p2 q2 B w2 hp2 hq2 hx2 lp2 lq2 hx2.lt hpt).mono ?_
      rintro e w3 ⟨v3, rfl, ho3, hx3, hg3⟩
      obtain ⟨a3, n3, c3, rfl, -⟩ := ho3.reads
      go_wp2
      go_roundw
      case rel =>
        refine ⟨k + 1, a3, n3, c3, by omega, by go_num, rfl, ?_, hx3, ?_⟩
        · rw [hst.out]
          exact ho3.mono (Nat.le_trans hx.lt hb12.size)
        · exact hbr.trans ((hb12.mono hBs).grown hg3 (Nat.le_trans hBs hb12.size) (fun k hk => by cases hk; exact Nat.le_refl _))
      case measure => simp [intOf]; omega
    · obtain rfl : k = n := by omega
      have hst : Hid (catF (xss.take k) = catF xss) := by show _ = _; rw [List.take_of_length_le (by rw [HL.out]; exact Nat.le_refl _)]
      rw [hst.out] at ho hol
      have hyl : (catF xss).length < 256 ^ 3 := by simp only [Nat.reducePow]; omega
      have HYL := Lib.hid hyl
      have HYL2 := Lib.hid hlen
      have hrr := hr.to HBW.out
      have hrr' := Lib.hid hrr
      clear hst hol hc hyl hlen hr hrr
      go_wp2_with fail
      refine (vector_mk _ _ _ _ _).mono ?_
      intro e w1 hmk
      obtain ⟨f, rfl, ⟨k', caps, rfl, he, hpart⟩, hb1⟩ := vector_part _ 3 (by decide) (catF xss) ⟨av, nv, cv, rfl, ho.rd.toRd⟩ HYL.out HYL2.out hmk
      clear hmk
      go_wp2_with fail
      refine (kept_bb _ _ _ _).mono ?_
      rintro e w2 ⟨p2, q2, rfl, hp2, hq2, lp2, lq2, hb2⟩
      have hb12 := hb1.trans (hb2.mono hb1.size)
      have hx2 : Boxed w2 B 28 (.int .i64 0) := (hb12.block B hx.lt).trans hx
      have hpt : ∀ W, Below w2.heap.size w2 W → Calls Try.prog k' (#[.slice a' n' cap'] ++ caps) W (BRes W (ys ++ listF xss, 0)) := fun W hW =>
        hpart W (hb2.trans (hW.mono hb2.size)) a' n' cap' _ (hrr'.out.to (hb12.trans (hW.mono hb12.size))) hn'
      go_wp2_with fail
      refine (keptBB_any k' caps he a' n' cap' _ p2 q2 B w2 hp2 hq2 hx2 lp2 lq2 hx2.lt hpt).mono ?_
      rintro e w3 ⟨v3, rfl, ho3, hx3, hg3⟩
      obtain ⟨a3, n3, c3, rfl, -⟩ := ho3.reads
      have hcf := hx3.cell
      have hb3 : Below B w w3 := hbr.trans ((hb12.mono hBs).grown hg3 (Nat.le_trans hBs hb12.size) (fun k hk => by cases hk; exact Nat.le_refl _))
      go_wp2_with fail
      go_region
      go_wp2
      go_ret2
      refine ⟨_, rfl, ?_, ?_⟩
      · rw [HB.out]
        exact (ho3.to (below_drew (Below.refl _ w3))).mono (Nat.le_trans hBs hb12.size)
      · rw [HB.out]; exact below_drew hb3
end Go.Proofs.Ytcohcjhbkiangaa
