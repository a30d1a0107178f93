/-
  An entry's item, by the program: a contract. Conditions: those in each statement.
-/
import Derived.Test.YtcohcjhbkiangaaEnI
namespace Go.Proofs.Ytcohcjhbkiangaa
open Go.RowKit

def zI : List Value := [.slice none 0 0, .slice none 0 0]
theorem infozI : (Try.prog.info? 34).map (fun i => (i.zero, i.size)) = some (some (.agg zI.toArray), 2) := by kernel_rfl
theorem sizeI : (Try.prog.info? 34).map (·.size) = some 2 := by kernel_rfl

/-- an item's two parts, and the error's number -/
def itemE (t : Nat) (xss : List (List UInt8)) : Int := (stampR t xss).2
def itemL (t : Nat) (xss : List (List UInt8)) : List UInt8 := (stampR t xss).1
def itemX (xss : List (List UInt8)) : List UInt8 := (extraR xss).1
def ItemRes (w : World) (t : Nat) (xss : List (List UInt8)) (e : Ending) (w' : World) : Prop :=
  ∃ a1 n1 c1 a2 n2 c2, e = .returned (.tuple #[.agg #[.slice a1 n1 c1, .slice a2 n2 c2], .int .i64 (itemE t xss)]) ∧ Own w' w.heap.size 5 (.slice a1 n1 c1) (itemL t xss) ∧ Own w' w.heap.size 5 (.slice a2 n2 c2) (itemX xss) ∧ Below w.heap.size w w'

theorem kept_extra (t : Nat) (xss : List (List UInt8)) : keptR (stampR t xss).2 (extraR xss) = ((extraR xss).1, (stampR t xss).2) := by
  unfold keptR stampR extraR
  cases mayB xss <;> rfl

theorem Boxed.up {w w' : World} {r F : Nat} {T : TypeId} {v : Value} (h : Boxed w F T v) (hg : w.grownBy w' (some r)) (hr : F ≠ r) : Boxed w' F T v := (hg.block F h.lt (by simpa using hr)).trans h
/-- what is owned in bytes stays when a block of another type is written -/
theorem own_arr {w w' : World} {B X : Nat} {T : TypeId} {v : Value} {xs : List UInt8} {cur : List Value} (h : Own w B 5 v xs) (hA : Arr w X T cur) (hg : w.grownBy w' (some X)) (hT : T ≠ 5 := by decide) : Own w' B 5 v xs := by
  refine World.ownsRow.kept h hg ?_
  obtain ⟨_, ⟨rfl, _⟩ | ⟨g, cap, cu, rfl, hbb, hgg, -⟩⟩ := h
  · exact .inl rfl
  · right
    intro e
    have e' : g = X := by simpa [Value.ownBlock] using e
    subst e'
    unfold Arr at hA
    rw [hA] at hgg
    injection hgg with hgg
    injection hgg with _ e2 _
    exact hT e2
theorem grown_new {w0 w w' : World} {F X : Nat} (h : w0.grownBy w (some F)) (hg : w.grownBy w' (some X)) (hX : w0.heap.size ≤ X) : w0.grownBy w' (some F) :=
  ⟨hg.os.trans h.os, hg.tape.trans h.tape, hg.output.trans h.output, Nat.le_trans h.size hg.size, fun k hk hne => (hg.block k (Nat.lt_of_lt_of_le hk h.size) (by simp; omega)).trans (h.block k hk hne)⟩

theorem below_grown {w w0 W : World} {B r : Nat} (h : Below B w w0) (hg : w0.grownBy W (some r)) (hr : B ≤ r) (hB : B ≤ w0.heap.size := by omega) : Below B w W :=
  h.grown hg hB (fun k hk => by cases hk; exact hr)

structure InvItem (t : Nat) (al : Option Addr) (n cap : Nat) (xss : List (List UInt8)) (B : Nat) (w0 : World) (L : Nat → Bool) (v6 v7 v8 v9 v10 v11 v12 v5 : Value) (wx : World) : Prop where
  t0 : L 0 = true → L 2 = false → ∃ p q, v6 = .func (.func 60) #[] #[.pointer (some ⟨p, 0, none⟩), .pointer (some ⟨q, 0, none⟩)] ∧ Two wx w0.heap.size p q (.pointer (some ⟨B + 2, 0, none⟩)) (.func (.func 10) #[] #[])
  t1 : L 1 = true → v7 = entV t al n cap
  t2 : L 2 = true → Own wx w0.heap.size 5 (v8) ((stampR t xss).1)
  t3 : L 3 = true → L 5 = false → ∃ p q, v9 = .func (.func 60) #[] #[.pointer (some ⟨p, 0, none⟩), .pointer (some ⟨q, 0, none⟩)] ∧ Two wx w0.heap.size p q (.pointer (some ⟨B + 2, 0, none⟩)) (.func (.func 12) #[] #[])
  t4 : L 4 = true → v10 = entV t al n cap
  t5 : L 5 = true → Own wx w0.heap.size 5 (v11) ((extraR xss).1)
  t6 : L 6 = true → ∃ a1 n1 c1 a2 n2 c2, v12 = .agg #[.slice a1 n1 c1, .slice a2 n2 c2] ∧ Own wx w0.heap.size 5 (.slice a1 n1 c1) ((stampR t xss).1) ∧ Own wx w0.heap.size 5 (.slice a2 n2 c2) ((extraR xss).1)
  t7 : L 7 = true → ∃ X cur, v5 = .pointer (some ⟨X, 0, none⟩) ∧ w0.heap.size ≤ X ∧ Arr wx X 34 cur ∧ cur.length = 2 ∧ (L 8 = true → ∃ a1 n1 c1 a2 n2 c2, cur = [.slice a1 n1 c1, .slice a2 n2 c2] ∧ Own wx w0.heap.size 5 (.slice a1 n1 c1) ((stampR t xss).1) ∧ Own wx w0.heap.size 5 (.slice a2 n2 c2) ((extraR xss).1))
  kp : w0.grownBy wx (some (B + 2))
  fx : Boxed wx (B + 2) 28 (.int .i64 (if L 2 = true then (stampR t xss).2 else 0))

set_option maxRecDepth 100000 in
set_option maxHeartbeats 2000000 in
theorem Item_any (t : Nat) (al : Option Addr) (n cap : Nat) (xss : List (List UInt8)) (w : World) (hm : n ≤ 70368744177664) (ht : t ≤ 18446744073709551615) (h : Chn w al n cap xss) :
    Calls Try.prog 18 #[entV t al n cap] w (ItemRes w t xss) := by
  have hb0 : Below w.heap.size w (((w.alloc (.cells #[.int .u64 (t : Int), .slice al n cap] 25)).alloc (.cells zI.toArray 34)).alloc (.cells #[.int .i64 0] 28)) := ((hal w _).alloc (by simp) _).alloc (by simp; omega) _
  have hR0 : Arr (((w.alloc (.cells #[.int .u64 (t : Int), .slice al n cap] 25)).alloc (.cells zI.toArray 34)).alloc (.cells #[.int .i64 0] 28)) (w.heap.size + 1) 34 zI := by
    have := (Arr.new (w.alloc (.cells #[.int .u64 (t : Int), .slice al n cap] 25)) 34 zI).kept (hal _ (.cells #[.int .i64 0] 28))
    simpa using this
  have hF0 : Boxed (((w.alloc (.cells #[.int .u64 (t : Int), .slice al n cap] 25)).alloc (.cells zI.toArray 34)).alloc (.cells #[.int .i64 0] 28)) (w.heap.size + 2) 28 (.int .i64 0) := by
    have := Boxed.new ((w.alloc (.cells #[.int .u64 (t : Int), .slice al n cap] 25)).alloc (.cells zI.toArray 34)) 28 (.int .i64 0)
    simpa using this
  have hE : Arr (((w.alloc (.cells #[.int .u64 (t : Int), .slice al n cap] 25)).alloc (.cells zI.toArray 34)).alloc (.cells #[.int .i64 0] 28)) w.heap.size 25 [.int .u64 (t : Int), .slice al n cap] :=
    (Arr.new w 25 [.int .u64 (t : Int), .slice al n cap]).kept ((hal _ _).alloc (by simp) _)
  have hs0 : (((w.alloc (.cells #[.int .u64 (t : Int), .slice al n cap] 25)).alloc (.cells zI.toArray 34)).alloc (.cells #[.int .i64 0] 28)).heap.size = w.heap.size + 3 := by simp
  have hz : zI.toArray = #[.slice none 0 0, .slice none 0 0] := rfl
  rw [hz] at hb0 hR0 hF0 hE hs0
  have hleaf := Lib.hid (fun W (hW : Below w.heap.size w W) => Leaf_any t al n cap xss W hm ht (h.to hW))
  have hextra := Lib.hid (fun W (hW : Below w.heap.size w W) => Extra_any t al n cap xss W hm (h.to hW))
  clear h
  go_enter Try.func18, Try.ntmps18
  go_wp2_with fail
  generalize hw0 : World.alloc (World.alloc (World.alloc w _) _) _ = w0 at *
  clear hw0
  have hleaf : Hid (∀ W, w0.grownBy W (some (w.heap.size + 2)) → Calls Try.prog 10 #[entV t al n cap] W (BRes W (stampR t xss))) := fun W hW => hleaf.out W (below_grown hb0 hW (by omega))
  have hextra : Hid (∀ W, w0.grownBy W (some (w.heap.size + 2)) → Calls Try.prog 12 #[entV t al n cap] W (BRes W (extraR xss))) := fun W hW => hextra.out W (below_grown hb0 hW (by omega))
  have hE0 := hE.cell 0
  have hE1 := hE.cell 1
  simp only [List.getElem?_cons_zero, List.getElem?_cons_succ] at hE0 hE1
  have HB0 := Lib.hid hb0
  clear hb0 hE
  generalize hB : w.heap.size = B at *
  have HB := Lib.hid hB
  clear hB
  have lF : B + 2 < w0.heap.size := by omega
  refine wp_region_steps [[], [], [0, 1], [2], [], [3, 4], [2, 5], [], [7, 6]] (by kernel_rfl) (by kernel_rfl) (fun L a wx => ∃ v6 v7 v8 v9 v10 v11 v12 v5, a = ⟨#[entV t al n cap, .pointer (some ⟨B, 0, none⟩), .pointer (some ⟨B + 1, 0, none⟩), .int .i64 0, .pointer (some ⟨B + 2, 0, none⟩), v5, v6, v7, v8, v9, v10, v11, v12, undef, undef], []⟩ ∧ InvItem t al n cap xss B w0 L v6 v7 v8 v9 v10 v11 v12 v5 wx) ?_ ⟨?_, ?_, ?_, ?_, ?_, ?_, ?_, ?_, ?_, trivial⟩ ?_
  · refine ⟨_, _, _, _, _, _, _, _, rfl, ⟨?_, ?_, ?_, ?_, ?_, ?_, ?_, ?_, grown_drew _ _, (show Boxed w0.drew (B + 2) 28 (.int .i64 0) from hF0)⟩⟩ <;> (intro h; exact absurd h (by decide))
  · rintro L a wx ⟨v6, v7, v8, v9, v10, v11, v12, v5, rfl, hI⟩ hL hdep hcl K hK
    go_simp
    refine (kept_eb _ _ wx).mono ?_
    rintro e w' ⟨p, q, rfl, h2, hb⟩
    have hg := grown_of hb (some (B + 2))
    exact hK _ _ ⟨_, v7, v8, v9, v10, v11, v12, v5, rfl, ⟨fun _ _ => ⟨p, q, rfl, h2.base hI.kp.size⟩, hI.t1, fun h => (hI.t2 h).grownLow hg lF, fun h => fun h9 => let ⟨p, q, e, h⟩ := hI.t3 h h9; ⟨p, q, e, h.up hg lF⟩, hI.t4, fun h => (hI.t5 h).grownLow hg lF, fun h => let ⟨a1, n1, c1, a2, n2, c2, e, h1, h2⟩ := hI.t6 h; ⟨a1, n1, c1, a2, n2, c2, e, h1.grownLow hg lF, h2.grownLow hg lF⟩, fun h => let ⟨X, cur, e, h1, h2, h3, h4⟩ := hI.t7 h; ⟨X, cur, e, h1, h2.grown hg (by simp; omega), h3, fun h => let ⟨a1, n1, c1, a2, n2, c2, e2, k1, k2⟩ := h4 h; ⟨a1, n1, c1, a2, n2, c2, e2, k1.grownLow hg lF, k2.grownLow hg lF⟩⟩, grown_trans (hI.kp) hg, (hb.block _ hI.fx.lt).trans hI.fx⟩⟩
  · rintro L a wx ⟨v6, v7, v8, v9, v10, v11, v12, v5, rfl, hI⟩ hL hdep hcl K hK
    have c0 : wx.cell? ⟨B, 0, none⟩ = _ := hI.kp.cell hE0 (by simp)
    have c1 : wx.cell? ⟨B, 1, none⟩ = _ := hI.kp.cell hE1 (by simp)
    go_simp
    exact hK _ _ ⟨v6, _, v8, v9, v10, v11, v12, v5, rfl, ⟨hI.t0, fun _ => rfl, hI.t2, hI.t3, hI.t4, hI.t5, hI.t6, hI.t7, hI.kp, hI.fx⟩⟩
  · rintro L a wx ⟨v6, v7, v8, v9, v10, v11, v12, v5, rfl, hI⟩ hL hdep hcl K hK
    obtain rfl := hI.t1 (hdep 1 (by decide))
    obtain ⟨p, q, rfl, h2⟩ := hI.t0 (hdep 0 (by decide)) hL
    have hF := hI.fx
    rw [if_neg (by rw [hL]; decide)] at hF
    go_simp
    refine (keptEB_any _ (enters_of Try.func10 (by kernel_rfl) rfl) 0 (stampR t xss) t al n cap p q (B + 2) wx h2.cp h2.cq hF h2.lp h2.lq (fun _ W hW => hleaf.out W (grown_then hI.kp hW))).mono ?_
    rintro e w' ⟨v, rfl, ho, hx2, hg⟩
    have hx2 : Boxed w' (B + 2) 28 (.int .i64 (stampR t xss).2) := hx2
    exact hK _ _ ⟨_, _, _, v9, v10, v11, v12, v5, rfl, ⟨fun _ h => absurd h (by simp [stepL]), hI.t1, fun _ => ho.mono hI.kp.size, fun h => fun h9 => let ⟨p, q, e, h⟩ := hI.t3 h h9; ⟨p, q, e, h.up hg lF⟩, hI.t4, fun h => (hI.t5 h).grownLow hg lF, fun h => let ⟨a1, n1, c1, a2, n2, c2, e, h1, h2⟩ := hI.t6 h; ⟨a1, n1, c1, a2, n2, c2, e, h1.grownLow hg lF, h2.grownLow hg lF⟩, fun h => let ⟨X, cur, e, h1, h2, h3, h4⟩ := hI.t7 h; ⟨X, cur, e, h1, h2.grown hg (by simp; omega), h3, fun h => let ⟨a1, n1, c1, a2, n2, c2, e2, k1, k2⟩ := h4 h; ⟨a1, n1, c1, a2, n2, c2, e2, k1.grownLow hg lF, k2.grownLow hg lF⟩⟩, grown_trans (hI.kp) hg, (by simpa [stepL] using hx2)⟩⟩
  · rintro L a wx ⟨v6, v7, v8, v9, v10, v11, v12, v5, rfl, hI⟩ hL hdep hcl K hK
    go_simp
    refine (kept_eb _ _ wx).mono ?_
    rintro e w' ⟨p, q, rfl, h2, hb⟩
    have hg := grown_of hb (some (B + 2))
    exact hK _ _ ⟨v6, v7, v8, _, v10, v11, v12, v5, rfl, ⟨fun h => fun h9 => let ⟨p, q, e, h⟩ := hI.t0 h h9; ⟨p, q, e, h.up hg lF⟩, hI.t1, fun h => (hI.t2 h).grownLow hg lF, fun _ _ => ⟨p, q, rfl, h2.base hI.kp.size⟩, hI.t4, fun h => (hI.t5 h).grownLow hg lF, fun h => let ⟨a1, n1, c1, a2, n2, c2, e, h1, h2⟩ := hI.t6 h; ⟨a1, n1, c1, a2, n2, c2, e, h1.grownLow hg lF, h2.grownLow hg lF⟩, fun h => let ⟨X, cur, e, h1, h2, h3, h4⟩ := hI.t7 h; ⟨X, cur, e, h1, h2.grown hg (by simp; omega), h3, fun h => let ⟨a1, n1, c1, a2, n2, c2, e2, k1, k2⟩ := h4 h; ⟨a1, n1, c1, a2, n2, c2, e2, k1.grownLow hg lF, k2.grownLow hg lF⟩⟩, grown_trans (hI.kp) hg, (hb.block _ hI.fx.lt).trans hI.fx⟩⟩
  · rintro L a wx ⟨v6, v7, v8, v9, v10, v11, v12, v5, rfl, hI⟩ hL hdep hcl K hK
    have c0 : wx.cell? ⟨B, 0, none⟩ = _ := hI.kp.cell hE0 (by simp)
    have c1 : wx.cell? ⟨B, 1, none⟩ = _ := hI.kp.cell hE1 (by simp)
    go_simp
    exact hK _ _ ⟨v6, v7, v8, v9, _, v11, v12, v5, rfl, ⟨hI.t0, hI.t1, hI.t2, hI.t3, fun _ => rfl, hI.t5, hI.t6, hI.t7, hI.kp, hI.fx⟩⟩
  · rintro L a wx ⟨v6, v7, v8, v9, v10, v11, v12, v5, rfl, hI⟩ hL hdep hcl K hK
    obtain rfl := hI.t4 (hdep 4 (by decide))
    obtain ⟨p, q, rfl, h2⟩ := hI.t3 (hdep 3 (by decide)) hL
    have hL2 := hcl 3 (by decide) (hdep 3 (by decide)) 2 (by decide)
    have hF := hI.fx
    rw [if_pos hL2] at hF
    go_simp
    refine (keptEB_any _ (enters_of Try.func12 (by kernel_rfl) rfl) (stampR t xss).2 (extraR xss) t al n cap p q (B + 2) wx h2.cp h2.cq hF h2.lp h2.lq (fun _ W hW => hextra.out W (grown_then hI.kp hW))).mono ?_
    rintro e w' ⟨v, rfl, ho, hx2, hg⟩
    rw [kept_extra] at ho hx2
    have hx2 : Boxed w' (B + 2) 28 (.int .i64 (stampR t xss).2) := hx2
    exact hK _ _ ⟨v6, v7, v8, _, _, _, v12, v5, rfl, ⟨fun h => fun h9 => let ⟨p, q, e, h⟩ := hI.t0 h h9; ⟨p, q, e, h.up hg lF⟩, hI.t1, fun h => (hI.t2 h).grownLow hg lF, fun _ h => absurd h (by simp [stepL]), hI.t4, fun _ => ho.mono hI.kp.size, fun h => let ⟨a1, n1, c1, a2, n2, c2, e, h1, h2⟩ := hI.t6 h; ⟨a1, n1, c1, a2, n2, c2, e, h1.grownLow hg lF, h2.grownLow hg lF⟩, fun h => let ⟨X, cur, e, h1, h2, h3, h4⟩ := hI.t7 h; ⟨X, cur, e, h1, h2.grown hg (by simp; omega), h3, fun h => let ⟨a1, n1, c1, a2, n2, c2, e2, k1, k2⟩ := h4 h; ⟨a1, n1, c1, a2, n2, c2, e2, k1.grownLow hg lF, k2.grownLow hg lF⟩⟩, grown_trans (hI.kp) hg, (by rw [show stepL L 5 2 = L 2 from rfl, if_pos hL2]; exact hx2)⟩⟩
  · rintro L a wx ⟨v6, v7, v8, v9, v10, v11, v12, v5, rfl, hI⟩ hL hdep hcl K hK
    have h1 := hI.t2 (hdep 2 (by decide))
    have h2 := hI.t5 (hdep 5 (by decide))
    obtain ⟨a1, n1, c1, rfl, -⟩ := h1.reads
    obtain ⟨a2, n2, c2, rfl, -⟩ := h2.reads
    go_simp
    exact hK _ _ ⟨v6, v7, _, v9, v10, _, _, v5, rfl, ⟨hI.t0, hI.t1, hI.t2, hI.t3, hI.t4, hI.t5, fun _ => ⟨a1, n1, c1, a2, n2, c2, rfl, h1, h2⟩, hI.t7, hI.kp, hI.fx⟩⟩
  · rintro L a wx ⟨v6, v7, v8, v9, v10, v11, v12, v5, rfl, hI⟩ hL hdep hcl K hK
    refine ow_alloc 34 rfl zI 2 infozI ?_
    intro w' hA hb hs
    have hg := grown_of hb (some (B + 2))
    exact hK _ _ ⟨v6, v7, v8, v9, v10, v11, v12, _, rfl, ⟨fun h => fun h9 => let ⟨p, q, e, h⟩ := hI.t0 h h9; ⟨p, q, e, h.up hg lF⟩, hI.t1, fun h => (hI.t2 h).grownLow hg lF, fun h => fun h9 => let ⟨p, q, e, h⟩ := hI.t3 h h9; ⟨p, q, e, h.up hg lF⟩, hI.t4, fun h => (hI.t5 h).grownLow hg lF, fun h => let ⟨a1, n1, c1, a2, n2, c2, e, h1, h2⟩ := hI.t6 h; ⟨a1, n1, c1, a2, n2, c2, e, h1.grownLow hg lF, h2.grownLow hg lF⟩, fun _ => ⟨_, _, rfl, hI.kp.size, hA, rfl, fun h => absurd (hcl 8 (by decide) h 7 (by decide)) (by rw [hL]; decide)⟩, grown_trans (hI.kp) hg, (hb.block _ hI.fx.lt).trans hI.fx⟩⟩
  · rintro L a wx ⟨v6, v7, v8, v9, v10, v11, v12, v5, rfl, hI⟩ hL hdep hcl K hK
    obtain ⟨X, cur, rfl, hX, hA, hl, -⟩ := hI.t7 (hdep 7 (by decide))
    obtain ⟨a1, n1, c1, a2, n2, c2, rfl, h1, h2⟩ := hI.t6 (hdep 6 (by decide))
    refine ow_store 34 _ _ rfl X 0 rfl [.slice a1 n1 c1, .slice a2 n2 c2] rfl 34 cur hA sizeI (by rw [hl]; simp) (by simp [Value.oneCell']) ?_
    intro w' hA' hg hs
    rw [whole_store _ _ (by rw [hl]; rfl)] at hA'
    have o1 := own_arr h1 hA hg
    have o2 := own_arr h2 hA hg
    exact hK _ _ ⟨v6, v7, v8, v9, v10, v11, _, _, rfl, ⟨fun _ h => absurd (hcl 6 (by decide) (hdep 6 (by decide)) 2 (by decide)) (by rw [show L 2 = false from h]; decide), hI.t1, fun h => own_arr (hI.t2 h) hA hg, fun _ h => absurd (hcl 6 (by decide) (hdep 6 (by decide)) 5 (by decide)) (by rw [show L 5 = false from h]; decide), hI.t4, fun h => own_arr (hI.t5 h) hA hg, fun _ => ⟨a1, n1, c1, a2, n2, c2, rfl, o1, o2⟩, fun _ => ⟨X, _, rfl, hX, hA', rfl, fun _ => ⟨a1, n1, c1, a2, n2, c2, rfl, o1, o2⟩⟩, grown_new hI.kp hg hX, (hg.block _ hI.fx.lt (by simp; omega)).trans hI.fx⟩⟩
  · rintro a wx ⟨v6, v7, v8, v9, v10, v11, v12, v5, rfl, hI⟩
    obtain ⟨X, cur, rfl, hX, hA, -, h4⟩ := hI.t7 rfl
    obtain ⟨a1, n1, c1, a2, n2, c2, rfl, o1, o2⟩ := h4 rfl
    have hfx := hI.fx
    have hkp := hI.kp
    clear hI
    rw [if_pos rfl] at hfx
    have hR := hR0.grown hkp (by simp)
    have cX0 := hA.cell 0
    have cX1 := hA.cell 1
    have cF := hfx.cell
    have cR0 := hR.cell 0
    have cR1 := hR.cell 1
    have fR0 := hR.frozen 0
    have fR1 := hR.frozen 1
    simp only [zI, List.getElem?_cons_zero, List.getElem?_cons_succ] at cX0 cX1 cR0 cR1
    go_wp2_with fail
    go_region
    go_wp2_with fail
    have hR3 := ((hR.store 0 (.slice a1 n1 c1)).store 1 (.slice a2 n2 c2)).drew
    have hgr : wx.grownBy ((wx.setCell ⟨B + 1, 0, none⟩ (.slice a1 n1 c1)).setCell ⟨B + 1, 1, none⟩ (.slice a2 n2 c2)).drew (some (B + 1)) :=
      grown_trans (setCells_grown (B + 1) [.slice a1 n1 c1, .slice a2 n2 c2] wx 0) (grown_drew _ _)
    have hbB : Below B w0 wx := below_grown (Below.refl _ _) hkp (by omega) (by omega)
    have hbE := hbB.grown hgr (by have := hbB.size; omega) (by intro k hk; cases hk; omega)
    refine end_cell2 rfl (B + 1) 34 [.slice a1 n1 c1, .slice a2 n2 c2] _ _ rfl hR3 Try.underlying34 rfl sizeI rfl rfl ?_
    refine ⟨a1, n1, c1, a2, n2, c2, rfl, ?_, ?_, ?_⟩
    · rw [HB.out]; exact (o1.grownLow hgr (by omega)).mono (by omega)
    · rw [HB.out]; exact (o2.grownLow hgr (by omega)).mono (by omega)
    · rw [HB.out]; exact HB0.out.trans hbE
end Go.Proofs.Ytcohcjhbkiangaa
