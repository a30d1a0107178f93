/-
  The program's step that keeps the first error, over items: a contract. Conditions: those in each statement.
-/
import Derived.Test.YtcohcjhbkiangaaEnT
namespace Go.Proofs.Ytcohcjhbkiangaa
open Go.RowKit

theorem kept_ei (fn : Fn) (g : Option Addr) (w : World) : Calls Try.prog 52 #[.func fn #[] #[], .pointer g] w fun e w' =>
    ∃ p q, e = .returned (.func (.func 73) #[] #[.pointer (some ⟨p, 0, none⟩), .pointer (some ⟨q, 0, none⟩)]) ∧ Two w' w.heap.size p q (.pointer g) (.func fn #[] #[]) ∧ Below w.heap.size w w' := by
  have hb := (hal w (.cells #[.func fn #[] #[]] 36)).alloc (by simp) (.cells #[.pointer g] 73)
  go_enter Try.func52, Try.ntmps52
  go_wp2
  go_ret
  exact ⟨_, _, rfl, ⟨by simp, by simp, by (simp; try omega), by (simp; try omega), by omega, by omega⟩, hb⟩

/-- an item's two parts and the error's number, by the error that there was -/
def keptI (e0 : Int) (t : Nat) (xss : List (List UInt8)) : List UInt8 × List UInt8 × Int := if e0 = 0 then (itemL t xss, itemX xss, itemE t xss) else ([], [], e0)
def KItem (w : World) (fb : Nat) (f : List UInt8 × List UInt8 × Int) (e : Ending) (w' : World) : Prop :=
  ∃ a1 n1 c1 a2 n2 c2, e = .returned (.agg #[.slice a1 n1 c1, .slice a2 n2 c2]) ∧ Own w' w.heap.size 5 (.slice a1 n1 c1) f.1 ∧ Own w' w.heap.size 5 (.slice a2 n2 c2) f.2.1 ∧ Boxed w' fb 28 (.int .i64 f.2.2) ∧ w.grownBy w' (some fb)

structure InvKI (t : Nat) (al : Option Addr) (n cap : Nat) (xss : List (List UInt8)) (p q fb B : Nat) (w0 : World) (L : Nat → Bool) (v11 v12 v13 v14 v10 v15 v16 v17 : Value) (wx : World) : Prop where
  t0 : L 0 = true → v11 = .pointer (some ⟨fb, 0, none⟩)
  t1 : L 1 = true → v12 = .func (.func 18) #[] #[]
  t2 : L 2 = true → v13 = entV t al n cap
  t3 : L 3 = true → ∃ a1 n1 c1 a2 n2 c2, v14 = .tuple #[.agg #[.slice a1 n1 c1, .slice a2 n2 c2], .int .i64 (itemE t xss)] ∧ Own wx w0.heap.size 5 (.slice a1 n1 c1) (itemL t xss) ∧ Own wx w0.heap.size 5 (.slice a2 n2 c2) (itemX xss)
  t4 : L 4 = true → ∃ a1 n1 c1 a2 n2 c2, v10 = .tuple #[.agg #[.slice a1 n1 c1, .slice a2 n2 c2], .int .i64 (itemE t xss)] ∧ Own wx w0.heap.size 5 (.slice a1 n1 c1) (itemL t xss) ∧ Own wx w0.heap.size 5 (.slice a2 n2 c2) (itemX xss)
  t5 : L 5 = true → ∃ a1 n1 c1 a2 n2 c2, v15 = .agg #[.slice a1 n1 c1, .slice a2 n2 c2] ∧ Own wx w0.heap.size 5 (.slice a1 n1 c1) (itemL t xss) ∧ Own wx w0.heap.size 5 (.slice a2 n2 c2) (itemX xss)
  t6 : L 6 = true → v16 = .int .i64 (itemE t xss)
  t8 : L 8 = true → v17 = .pointer (some ⟨fb, 0, none⟩)
  kp : Fr [fb, B + 2] w0 wx
  bl : L 3 = false → wx = w0.drew
  bx : Boxed wx fb 28 (.int .i64 (if L 9 = true then itemE t xss else 0))
  ar : ∃ cur, Arr wx (B + 2) 34 cur ∧ cur.length = 2 ∧ (L 7 = true → ∃ a1 n1 c1 a2 n2 c2, cur = [.slice a1 n1 c1, .slice a2 n2 c2] ∧ Own wx w0.heap.size 5 (.slice a1 n1 c1) (itemL t xss) ∧ Own wx w0.heap.size 5 (.slice a2 n2 c2) (itemX xss))

set_option maxRecDepth 100000 in
set_option maxHeartbeats 2000000 in
theorem keptEI_any (e0 : Int) (t : Nat) (al : Option Addr) (n cap : Nat) (xss : List (List UInt8)) (p q fb : Nat) (w : World) (hm : n ≤ 70368744177664) (ht : t ≤ 18446744073709551615) (h : Chn w al n cap xss)
    (c1 : w.cell? ⟨p, 0, none⟩ = some (.pointer (some ⟨fb, 0, none⟩))) (c2 : w.cell? ⟨q, 0, none⟩ = some (.func (.func 18) #[] #[])) (hbx : Boxed w fb 28 (.int .i64 e0)) (lp : p < w.heap.size) (lq : q < w.heap.size) :
    Calls Try.prog 73 #[entV t al n cap, .pointer (some ⟨p, 0, none⟩), .pointer (some ⟨q, 0, none⟩)] w (KItem w fb (keptI e0 t xss)) := by
  have hc := hbx.cell
  have lf := hbx.lt
  have np : p ≠ fb := by rintro rfl; rw [hc] at c1; cases c1
  have nq : q ≠ fb := by rintro rfl; rw [hc] at c2; cases c2
  have hz : zI.toArray = #[.slice none 0 0, .slice none 0 0] := rfl
  have hb0 : Below w.heap.size w (((w.alloc (.cells #[.int .u64 (t : Int), .slice al n cap] 25)).alloc (.cells zI.toArray 34)).alloc (.cells zI.toArray 34)) := ((hal w _).alloc (by simp) _).alloc (by simp; omega) _
  have hE : Arr (((w.alloc (.cells #[.int .u64 (t : Int), .slice al n cap] 25)).alloc (.cells zI.toArray 34)).alloc (.cells zI.toArray 34)) w.heap.size 25 [.int .u64 (t : Int), .slice al n cap] :=
    (Arr.new w 25 [.int .u64 (t : Int), .slice al n cap]).kept ((hal _ _).alloc (by simp) _)
  have hR0 : Arr (((w.alloc (.cells #[.int .u64 (t : Int), .slice al n cap] 25)).alloc (.cells zI.toArray 34)).alloc (.cells zI.toArray 34)) (w.heap.size + 1) 34 zI := by
    have := (Arr.new (w.alloc (.cells #[.int .u64 (t : Int), .slice al n cap] 25)) 34 zI).kept (hal _ (.cells zI.toArray 34))
    simpa using this
  have hT0 : Arr (((w.alloc (.cells #[.int .u64 (t : Int), .slice al n cap] 25)).alloc (.cells zI.toArray 34)).alloc (.cells zI.toArray 34)) (w.heap.size + 2) 34 zI := by
    have := Arr.new ((w.alloc (.cells #[.int .u64 (t : Int), .slice al n cap] 25)).alloc (.cells zI.toArray 34)) 34 zI
    simpa using this
  have hs0 : (((w.alloc (.cells #[.int .u64 (t : Int), .slice al n cap] 25)).alloc (.cells zI.toArray 34)).alloc (.cells zI.toArray 34)).heap.size = w.heap.size + 3 := by simp
  rw [hz] at hb0 hE hR0 hT0 hs0
  by_cases h0 : e0 = 0
  · subst h0
    have e1 : keptI 0 t xss = (itemL t xss, itemX xss, itemE t xss) := rfl
    rw [e1]
    clear e1
    have H := Lib.hid (fun W (hW : Below w.heap.size w W) => Item_any t al n cap xss W hm ht (h.to hW))
    clear h
    have k1 := (hb0.cell (p := ⟨p, 0, none⟩) lp).trans c1
    have k2 := (hb0.cell (p := ⟨q, 0, none⟩) lq).trans c2
    have kf := (hb0.cell (p := ⟨fb, 0, none⟩) lf).trans hc
    have hx0 := (hb0.block fb lf).trans hbx
    go_enter Try.func73, Try.ntmps73
    go_wp2_with fail
    generalize hw0 : World.alloc (World.alloc (World.alloc w _) _) _ = w0 at *
    clear hw0
    have hx0 : Boxed w0 fb 28 (.int .i64 0) := hx0
    have k3 := hE.cell 0
    have k4 := hE.cell 1
    simp only [List.getElem?_cons_zero, List.getElem?_cons_succ] at k3 k4
    have hit := Lib.hid (H.out w0.drew (below_drew hb0))
    have HB0 := Lib.hid hb0
    clear H hb0 c1 c2 hc hE kf
    generalize hB : w.heap.size = B at *
    have HB := Lib.hid hB
    clear hB
    have hs3 : B + 3 ≤ w0.heap.size := by omega
    have HS := Lib.hid hs0
    clear hs0
    refine wp_region_steps [[], [], [], [1, 2], [3], [4], [4], [5], [0], [8, 6]] (by kernel_rfl) (by kernel_rfl) (fun L a wx => ∃ v11 v12 v13 v14 v10 v15 v16 v17, a = ⟨#[entV t al n cap, .pointer (some ⟨p, 0, none⟩), .pointer (some ⟨q, 0, none⟩), .pointer (some ⟨B, 0, none⟩), .pointer (some ⟨B + 1, 0, none⟩), .pointer (some ⟨B + 2, 0, none⟩), .pointer (some ⟨fb, 0, none⟩), .pointer (some ⟨fb, 0, none⟩), .int .i64 0, .bool true, v10, v11, v12, v13, v14, v15, v16, v17, undef], []⟩ ∧ InvKI t al n cap xss p q fb B w0 L v11 v12 v13 v14 v10 v15 v16 v17 wx) ?_ ⟨?_, ?_, ?_, ?_, ?_, ?_, ?_, ?_, ?_, ?_, trivial⟩ ?_
    · refine ⟨_, _, _, _, _, _, _, _, rfl, ⟨?_, ?_, ?_, ?_, ?_, ?_, ?_, ?_, (Fr.refl _ _).drew, fun _ => rfl, hx0, ⟨zI, hT0.drew, rfl, fun h => absurd h (by decide)⟩⟩⟩ <;> (intro h; exact absurd h (by decide))
    · rintro L a wx ⟨v11, v12, v13, v14, v10, v15, v16, v17, rfl, hI⟩ hL hdep hcl K hK
      have cc := hI.kp.cell k1 (by show p < _; omega) (by simp; omega)
      go_simp
      exact hK _ _ ⟨_, v12, v13, v14, v10, v15, v16, v17, rfl, ⟨fun _ => rfl, hI.t1, hI.t2, hI.t3, hI.t4, hI.t5, hI.t6, hI.t8, hI.kp, hI.bl, hI.bx, hI.ar⟩⟩
    · rintro L a wx ⟨v11, v12, v13, v14, v10, v15, v16, v17, rfl, hI⟩ hL hdep hcl K hK
      have cc := hI.kp.cell k2 (by show q < _; omega) (by simp; omega)
      go_simp
      exact hK _ _ ⟨v11, _, v13, v14, v10, v15, v16, v17, rfl, ⟨hI.t0, fun _ => rfl, hI.t2, hI.t3, hI.t4, hI.t5, hI.t6, hI.t8, hI.kp, hI.bl, hI.bx, hI.ar⟩⟩
    · rintro L a wx ⟨v11, v12, v13, v14, v10, v15, v16, v17, rfl, hI⟩ hL hdep hcl K hK
      have cc := hI.kp.cell k3 (by show B < _; omega) (by simp; omega)
      have cd := hI.kp.cell k4 (by show B < _; omega) (by simp; omega)
      go_simp
      exact hK _ _ ⟨v11, v12, _, v14, v10, v15, v16, v17, rfl, ⟨hI.t0, hI.t1, fun _ => rfl, hI.t3, hI.t4, hI.t5, hI.t6, hI.t8, hI.kp, hI.bl, hI.bx, hI.ar⟩⟩
    · rintro L a wx ⟨v11, v12, v13, v14, v10, v15, v16, v17, rfl, hI⟩ hL hdep hcl K hK
      obtain rfl := hI.t1 (hdep 1 (by decide))
      obtain rfl := hI.t2 (hdep 2 (by decide))
      have hwx := hI.bl hL
      go_simp
      subst hwx
      refine hit.out.mono ?_
      rintro e w' ⟨a1, n1, c1, a2, n2, c2, rfl, o1, o2, hb⟩
      have hf := Fr.of_below (rs := []) hb
      have hap : ∀ x ∈ [], Apart w0.drew w0.heap.size x := by intro x hx; simp at hx
      exact hK _ _ ⟨v11, _, _, _, v10, v15, v16, v17, rfl, ⟨hI.t0, hI.t1, hI.t2, fun _ => ⟨a1, n1, c1, a2, n2, c2, rfl, o1, o2⟩, fun h => let ⟨a1, n1, c1, a2, n2, c2, e, h1, h2⟩ := hI.t4 h; ⟨a1, n1, c1, a2, n2, c2, e, h1.fr hf hap, h2.fr hf hap⟩, fun h => let ⟨a1, n1, c1, a2, n2, c2, e, h1, h2⟩ := hI.t5 h; ⟨a1, n1, c1, a2, n2, c2, e, h1.fr hf hap, h2.fr hf hap⟩, hI.t6, hI.t8, (hI.kp).trans (hf.more (by simp)), fun h => absurd h (by simp [stepL]), hf.boxed hI.bx (by simp), let ⟨cur, h1, h2, h3⟩ := hI.ar; ⟨cur, hf.arr h1 (by simp <;> omega), h2, fun h => let ⟨a1, n1, c1, a2, n2, c2, e, h1, h2⟩ := h3 h; ⟨a1, n1, c1, a2, n2, c2, e, h1.fr hf hap, h2.fr hf hap⟩⟩⟩⟩
    · rintro L a wx ⟨v11, v12, v13, v14, v10, v15, v16, v17, rfl, hI⟩ hL hdep hcl K hK
      obtain ⟨a1, n1, c1, a2, n2, c2, rfl, o1, o2⟩ := hI.t3 (hdep 3 (by decide))
      go_simp
      exact hK _ _ ⟨v11, v12, v13, _, _, v15, v16, v17, rfl, ⟨hI.t0, hI.t1, hI.t2, fun _ => ⟨a1, n1, c1, a2, n2, c2, rfl, o1, o2⟩, fun _ => ⟨a1, n1, c1, a2, n2, c2, rfl, o1, o2⟩, hI.t5, hI.t6, hI.t8, hI.kp, hI.bl, hI.bx, hI.ar⟩⟩
    · rintro L a wx ⟨v11, v12, v13, v14, v10, v15, v16, v17, rfl, hI⟩ hL hdep hcl K hK
      obtain ⟨a1, n1, c1, a2, n2, c2, rfl, o1, o2⟩ := hI.t4 (hdep 4 (by decide))
      go_simp
      exact hK _ _ ⟨v11, v12, v13, v14, _, _, v16, v17, rfl, ⟨hI.t0, hI.t1, hI.t2, hI.t3, fun _ => ⟨a1, n1, c1, a2, n2, c2, rfl, o1, o2⟩, fun _ => ⟨a1, n1, c1, a2, n2, c2, rfl, o1, o2⟩, hI.t6, hI.t8, hI.kp, hI.bl, hI.bx, hI.ar⟩⟩
    · rintro L a wx ⟨v11, v12, v13, v14, v10, v15, v16, v17, rfl, hI⟩ hL hdep hcl K hK
      obtain ⟨a1, n1, c1, a2, n2, c2, rfl, o1, o2⟩ := hI.t4 (hdep 4 (by decide))
      go_simp
      exact hK _ _ ⟨v11, v12, v13, v14, _, v15, _, v17, rfl, ⟨hI.t0, hI.t1, hI.t2, hI.t3, fun _ => ⟨a1, n1, c1, a2, n2, c2, rfl, o1, o2⟩, hI.t5, fun _ => rfl, hI.t8, hI.kp, hI.bl, hI.bx, hI.ar⟩⟩
    · rintro L a wx ⟨v11, v12, v13, v14, v10, v15, v16, v17, rfl, hI⟩ hL hdep hcl K hK
      obtain ⟨a1, n1, c1, a2, n2, c2, rfl, o1, o2⟩ := hI.t5 (hdep 5 (by decide))
      obtain ⟨cur, hA, hl, -⟩ := hI.ar
      have hL3 : L 3 = true := hcl 4 (by decide) (hcl 5 (by decide) (hdep 5 (by decide)) 4 (by decide)) 3 (by decide)
      refine ow_store 34 _ _ rfl (B + 2) 0 rfl [.slice a1 n1 c1, .slice a2 n2 c2] rfl 34 cur hA sizeI (by rw [hl]; simp) (by simp [Value.oneCell']) ?_
      intro w' hA' hg hs
      rw [whole_store _ _ (by rw [hl]; rfl)] at hA'
      have hf : Fr [B + 2] wx w' := Fr.of_grown hg (by simp)
      have hap : ∀ x ∈ [B + 2], Apart wx w0.heap.size x := by intro x hx; simp at hx; subst hx; left; omega
      exact hK _ _ ⟨v11, v12, v13, v14, v10, _, v16, v17, rfl, ⟨hI.t0, hI.t1, hI.t2, fun h => let ⟨a1, n1, c1, a2, n2, c2, e, h1, h2⟩ := hI.t3 h; ⟨a1, n1, c1, a2, n2, c2, e, h1.fr hf hap, h2.fr hf hap⟩, fun h => let ⟨a1, n1, c1, a2, n2, c2, e, h1, h2⟩ := hI.t4 h; ⟨a1, n1, c1, a2, n2, c2, e, h1.fr hf hap, h2.fr hf hap⟩, fun _ => ⟨a1, n1, c1, a2, n2, c2, rfl, o1.fr hf hap, o2.fr hf hap⟩, hI.t6, hI.t8, (hI.kp).trans (hf.more (by simp)), fun h => absurd h (by simp [stepL, hL3]), hf.boxed hI.bx (by simp <;> omega), ⟨_, hA', rfl, fun _ => ⟨a1, n1, c1, a2, n2, c2, rfl, o1.fr hf hap, o2.fr hf hap⟩⟩⟩⟩
    · rintro L a wx ⟨v11, v12, v13, v14, v10, v15, v16, v17, rfl, hI⟩ hL hdep hcl K hK
      obtain rfl := hI.t0 (hdep 0 (by decide))
      go_simp
      exact hK _ _ ⟨_, v12, v13, v14, v10, v15, v16, _, rfl, ⟨hI.t0, hI.t1, hI.t2, hI.t3, hI.t4, hI.t5, hI.t6, fun _ => rfl, hI.kp, hI.bl, hI.bx, hI.ar⟩⟩
    · rintro L a wx ⟨v11, v12, v13, v14, v10, v15, v16, v17, rfl, hI⟩ hL hdep hcl K hK
      obtain rfl := hI.t8 (hdep 8 (by decide))
      obtain rfl := hI.t6 (hdep 6 (by decide))
      have hL3 : L 3 = true := hcl 4 (by decide) (hcl 6 (by decide) (hdep 6 (by decide)) 4 (by decide)) 3 (by decide)
      have hc := hI.bx.cell
      have hz := hI.bx.frozen
      have hx2 := hI.bx.set (.int .i64 (itemE t xss))
      have hf : Fr [fb] wx (wx.setCell ⟨fb, 0, none⟩ (.int .i64 (itemE t xss))) := (Fr.refl _ _).set (by simp) _
      have hap : ∀ x ∈ [fb], Apart wx w0.heap.size x := by intro x hx; simp at hx; subst hx; left; omega
      go_simp
      exact hK _ _ ⟨v11, v12, v13, v14, v10, v15, _, _, rfl, ⟨hI.t0, hI.t1, hI.t2, fun h => let ⟨a1, n1, c1, a2, n2, c2, e, h1, h2⟩ := hI.t3 h; ⟨a1, n1, c1, a2, n2, c2, e, h1.fr hf hap, h2.fr hf hap⟩, fun h => let ⟨a1, n1, c1, a2, n2, c2, e, h1, h2⟩ := hI.t4 h; ⟨a1, n1, c1, a2, n2, c2, e, h1.fr hf hap, h2.fr hf hap⟩, fun h => let ⟨a1, n1, c1, a2, n2, c2, e, h1, h2⟩ := hI.t5 h; ⟨a1, n1, c1, a2, n2, c2, e, h1.fr hf hap, h2.fr hf hap⟩, hI.t6, hI.t8, (hI.kp).trans (hf.more (by simp)), fun h => absurd h (by simp [stepL, hL3]), (by simpa [stepL] using hx2), let ⟨cur, h1, h2, h3⟩ := hI.ar; ⟨cur, hf.arr h1 (by simp <;> omega), h2, fun h => let ⟨a1, n1, c1, a2, n2, c2, e, h1, h2⟩ := h3 h; ⟨a1, n1, c1, a2, n2, c2, e, h1.fr hf hap, h2.fr hf hap⟩⟩⟩⟩
    · rintro a wx ⟨v11, v12, v13, v14, v10, v15, v16, v17, rfl, hI⟩
      obtain ⟨cur, hA, -, h4⟩ := hI.ar
      obtain ⟨a1, n1, c1, a2, n2, c2, rfl, o1, o2⟩ := h4 rfl
      have hbx' : Boxed wx fb 28 (.int .i64 (itemE t xss)) := hI.bx
      have hkp := hI.kp
      clear hI h4
      have hR := hkp.arr hR0 (by simp; omega)
      have y0 := hR.cell 0
      have y1 := hR.cell 1
      have z0 := hR.frozen 0
      have z1 := hR.frozen 1
      have x0 := hA.cell 0
      have x1 := hA.cell 1
      simp only [List.getElem?_cons_zero, List.getElem?_cons_succ, zI] at x0 x1 y0 y1
      go_wp2
      have g := setCells_grown (B + 1) [.slice a1 n1 c1, .slice a2 n2 c2] wx 0
      have gf : Fr [B + 1] wx ((wx.setCell ⟨B + 1, 0, none⟩ (.slice a1 n1 c1)).setCell ⟨B + 1, 1, none⟩ (.slice a2 n2 c2)) := Fr.of_grown g (by simp)
      refine end_cell rfl (B + 1) 34 [.slice a1 n1 c1, .slice a2 n2 c2] _ rfl ((hR.store 0 (.slice a1 n1 c1)).store 1 (.slice a2 n2 c2)) Try.underlying34 rfl sizeI rfl ?_
      have hap : ∀ x ∈ [B + 1], Apart wx w0.heap.size x := by intro x hx; simp at hx; subst hx; left; omega
      have hw : B ≤ w0.heap.size := by omega
      refine ⟨a1, n1, c1, a2, n2, c2, rfl, ?_, ?_, gf.boxed hbx' (by simp; omega), ?_⟩
      · rw [HB.out]; exact (o1.fr gf hap).mono hw
      · rw [HB.out]; exact (o2.fr gf hap).mono hw
      · have k := ((Fr.of_below (rs := [fb]) (by rw [HB.out]; exact HB0.out)).then hkp (by intro x hx; simp at hx; have := HB.out; rcases hx with rfl | rfl; exact .inr (by simp); left; omega)).then gf (by intro x hx; simp at hx; have := HB.out; subst hx; left; omega)
        exact ⟨k.os, k.tape, k.output, k.size, fun i hi hn => k.block i hi (by intro e; simp at e; exact hn (by rw [e]))⟩
  · have e1 : keptI e0 t xss = ([], [], e0) := by simp [keptI, h0]
    rw [e1]
    have hq : (e0 == 0) = false := by simpa using h0
    have k1 := (hb0.cell (p := ⟨p, 0, none⟩) lp).trans c1
    have k2 := (hb0.cell (p := ⟨fb, 0, none⟩) lf).trans hc
    have hx0 := (hb0.block fb lf).trans hbx
    go_enter Try.func73, Try.ntmps73
    go_wp2_with fail
    generalize hw0 : World.alloc (World.alloc (World.alloc w _) _) _ = w0 at *
    have y0 := hR0.cell 0
    have y1 := hR0.cell 1
    have z0 := hR0.frozen 0
    have z1 := hR0.frozen 1
    have x0 := hT0.cell 0
    have x1 := hT0.cell 1
    simp only [List.getElem?_cons_zero, List.getElem?_cons_succ, zI] at x0 x1 y0 y1
    clear hE hw0
    go_wp2
    refine end_cell rfl (w.heap.size + 1) 34 [.slice none 0 0, .slice none 0 0] _ rfl hR0 Try.underlying34 rfl sizeI rfl ?_
    exact ⟨none, 0, 0, none, 0, 0, rfl, Own.nil _ _ _, Own.nil _ _ _, hx0, grown_of hb0 _⟩
end Go.Proofs.Ytcohcjhbkiangaa
