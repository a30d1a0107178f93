/-
  The program's fresh: a copy that shares nothing. Conditions: those in each statement.
-/
import Derived.Test.YtehlgflpkofooaaDoorJvA
namespace Go.Proofs.YtehlgflpkofooaaDoor
open Go.RowKit

theorem mapr_gb {K : TypeId} {G : World → Value → Prop} (hK : KeyOK K G) {w w' : World} {B q : Nat} {ps : List (Value × Value)} (h : MapR G w B ps) (hg : w.grownBy w' (some q)) (hq : q ≠ B) (hp : PlainB w' q) : MapR G w' B ps :=
  h.kept hK (hg.block B h.lt (fun e => hq (by cases e; rfl))) (fun x hx => by
    obtain ⟨cs, T, e⟩ := hx
    by_cases hxg : x = q
    · rw [hxg]; exact hp
    · exact ⟨cs, T, (hg.block x (Array.getElem?_eq_some_iff.1 e).1 (fun h => hxg (by cases h; rfl))).trans e⟩)

set_option maxRecDepth 100000 in
set_option maxHeartbeats 1600000 in
theorem fresh_of (k : Int) (s : List UInt8) (n : Nat) (l : List JV) (ks : List (List UInt8)) (a b : Option Addr) (c d : Nat) (w : World) (B : Nat) (ps : List (Value × Value))
    (hk : -9223372036854775808 ≤ k ∧ k ≤ 9223372036854775807 ∧ n < 18446744073709551616) (hks : RStr w ks b d) (hfew : ks.length ≤ 1099511627776) (hM : MapR GPlace w B ps)
    (hFL : ∀ W, w.grownBy W (some B) → MapR GPlace W B ps → Calls Tryd.prog 41 #[.slice a l.length c, .map (some B)] W fun e W' => ∃ a' c', e = .returned (.slice a' l.length c') ∧ SLi (fun x => W.heap.size ≤ x) W' l a' c' ∧ MapR GPlace W' B ps ∧ W.grownBy W' (some B)) :
    Calls Tryd.prog 26 #[.agg #[.int .i64 k, .string (bstr s), .int .u64 (n : Int), .slice a l.length c, .slice b ks.length d], .map (some B)] w fun e w' => ∃ cs, e = .returned (.agg cs.toArray) ∧ SV (fun x => w.heap.size ≤ x) w' (.mk k s n l ks) cs ∧ MapR GPlace w' B ps ∧ w.grownBy w' (some B) := by
  have hcl : Hid (∀ W, Below w.heap.size w W → Calls Tryd.prog 40 #[.slice b ks.length d] W fun e w' => ∃ a' c', e = .returned (.slice a' ks.length c') ∧ SStr (fun x => W.heap.size ≤ x) w' ks a' c' ∧ Below W.heap.size W w') := fun W hW => clone_any ks b d W (hks.to hW) hfew
  have HFL := Lib.hid hFL
  have HM := Lib.hid hM
  have HK := Lib.hid hk
  clear hFL hM hks hfew hk
  go_enter Tryd.func26, Tryd.ntmps26
  go_wp2_with fail
  have hA1 := (Arr.new w 30 [.int .i64 k, .string (bstr s), .int .u64 (n : Int), .slice a l.length c, .slice b ks.length d]).kept ((Below.refl _ _).alloc (Nat.le_refl _) (.cells #[.int .i64 0, .string ⟨#[]⟩, .int .u64 0, .slice none 0 0, .slice none 0 0] 30))
  have hR1 := Arr.new (w.alloc (.cells #[.int .i64 k, .string (bstr s), .int .u64 (n : Int), .slice a l.length c, .slice b ks.length d] 30)) 30 [.int .i64 0, .string ⟨#[]⟩, .int .u64 0, .slice none 0 0, .slice none 0 0]
  have hB1 : Below w.heap.size w ((w.alloc (.cells #[.int .i64 k, .string (bstr s), .int .u64 (n : Int), .slice a l.length c, .slice b ks.length d] 30)).alloc (.cells #[.int .i64 0, .string ⟨#[]⟩, .int .u64 0, .slice none 0 0, .slice none 0 0] 30)) := ((Below.refl _ _).alloc (Nat.le_refl _) _).alloc (by simp) _
  rw [World.size_alloc] at hR1
  have hs1 : Hid (((w.alloc (.cells #[.int .i64 k, .string (bstr s), .int .u64 (n : Int), .slice a l.length c, .slice b ks.length d] 30)).alloc (.cells #[.int .i64 0, .string ⟨#[]⟩, .int .u64 0, .slice none 0 0, .slice none 0 0] 30)).heap.size = w.heap.size + 2) := by show _ = _; simp
  generalize (w.alloc (.cells #[.int .i64 k, .string (bstr s), .int .u64 (n : Int), .slice a l.length c, .slice b ks.length d] 30)).alloc (.cells #[.int .i64 0, .string ⟨#[]⟩, .int .u64 0, .slice none 0 0, .slice none 0 0] 30) = W1 at *
  have HBW : Hid (B < w.heap.size) := HM.out.lt
  generalize hg : w.heap.size = g at *
  have HG := Lib.hid hg
  clear hg
  go_upto_region 2 with (go_at_call 40; refine (hcl.out _ hB1).mono ?_; rintro e W2 ⟨b', d', rfl, hs2, hb2⟩; have hA2 := hA1.kept hb2; have c4 := (hA2.cell 4).trans (show _ = some (Value.slice b ks.length d) from rfl); have f4 := hA2.frozen 4)
  have hR2 := hR1.kept hb2
  have hA3 := hA2.store 4 (.slice b' ks.length d')
  have hR3 := hR2.other ⟨g, 4, none⟩ (by show g ≠ g + 1; omega) (.slice b' ks.length d')
  have hg3 : Hid (W2.grownBy (W2.setCell ⟨g, 4, none⟩ (.slice b' ks.length d')) (some g)) := ⟨rfl, rfl, rfl, by rw [World.size_setCell]; exact Nat.le_refl _, fun i hi hr => Below.heap_setCell _ _ _ _ (fun e => hr (by rw [e]))⟩
  have hz3 : Hid ((W2.setCell ⟨g, 4, none⟩ (.slice b' ks.length d')).heap.size = W2.heap.size) := World.size_setCell _ _ _
  generalize W2.setCell ⟨g, 4, none⟩ (.slice b' ks.length d') = W3 at *
  have hB2 : Below g w W2 := HG.out ▸ hB1.trans (hb2.mono (HG.out ▸ hB1.size))
  have hGB : Hid (w.grownBy W3 (some B)) := gb_new (gb (HG.out.symm ▸ hB2) _) hg3.out (by rw [HG.out]; exact Nat.le_refl _)
  have hBg : Hid (B < g) := by show B < g; have := HBW.out; have := HG.out; omega
  have hM3 : MapR GPlace W3 B ps := mapr_gb place_ok (HM.out.below place_ok (HG.out.symm ▸ hB2)) hg3.out (by have := hBg.out; omega) ⟨_, _, hA3⟩
  have c3 := (hA3.cell 3).trans (show _ = some (Value.slice a l.length c) from rfl)
  clear c4 f4 hA2 hR2 hA1 hR1
  go_upto_region 3 with (go_at_call 41; refine (HFL.out _ hGB.out hM3).mono ?_; rintro e W4 ⟨a', c', rfl, hl4, hM4, hg4⟩; have hA4 := hA3.grown hg4 (by have := HBW.out; have := HG.out; intro h; cases h; omega); have c4 := (hA4.cell 3).trans (show _ = some (Value.slice a l.length c) from rfl); have f4 := hA4.frozen 3)
  have hR4 := hR3.grown hg4 (by have := HBW.out; have := HG.out; intro h; cases h; omega)
  have hA5 := hA4.store 3 (.slice a' l.length c')
  have hR5 := hR4.other ⟨g, 3, none⟩ (by show g ≠ g + 1; omega) (.slice a' l.length c')
  have hg5 : Hid (W4.grownBy (W4.setCell ⟨g, 3, none⟩ (.slice a' l.length c')) (some g)) := ⟨rfl, rfl, rfl, by rw [World.size_setCell]; exact Nat.le_refl _, fun i hi hr => Below.heap_setCell _ _ _ _ (fun e => hr (by rw [e]))⟩
  generalize W4.setCell ⟨g, 3, none⟩ (.slice a' l.length c') = W5 at *
  have e0 := (hA5.cell 0).trans (show _ = some (Value.int .i64 k) from rfl)
  have e1 := (hA5.cell 1).trans (show _ = some (Value.string (bstr s)) from rfl)
  have e2 := (hA5.cell 2).trans (show _ = some (Value.int .u64 (n : Int)) from rfl)
  have e3 := (hA5.cell 3).trans (show _ = some (Value.slice a' l.length c') from rfl)
  have e4 := (hA5.cell 4).trans (show _ = some (Value.slice b' ks.length d') from rfl)
  clear c3 c4 f4
  go_wp2_with ((with_reducible show wpList _ _ _ (⟨none, _, _, _, _, _⟩ :: _) _ _); refine wl_store rfl 30 _ _ rfl (g + 1) 0 rfl [.int .i64 k, .string (bstr s), .int .u64 (n : Int), .slice a' l.length c', .slice b' ks.length d'] rfl 30 _ hR5 (by kernel_rfl) (by simp) (by simp [Value.oneCell']) ?_; intro W6 hR6 hg6 hs6)
  rw [whole_store _ _ (by simp)] at hR6
  have hA6 := hA5.grown hg6 (by intro h; cases h)
  refine end_cell rfl (g + 1) 30 _ _ rfl hR6 Tryd.underlying30 rfl (by kernel_rfl) rfl ⟨_, rfl, ?_, ?_, ?_⟩
  · have z1 := hs1.out
    have z2 := hb2.size
    have z3 := hz3.out
    have z4 := hg4.size
    have z5 := hg5.out.size
    have zB := hBg.out
    have sA : Stay (fun x => W1.heap.size ≤ x) W2 W6 := by
      refine Stay.trans (Stay.of_grown hg3.out (fun k hk => by cases hk; omega)) (by omega) ?_
      refine Stay.trans (Stay.of_grown hg4 (fun k hk => by cases hk; omega)) (by omega) ?_
      refine Stay.trans (Stay.of_grown hg5.out (fun k hk => by cases hk; omega)) (by omega) ?_
      exact Stay.of_grown hg6 (fun k hk => by cases hk; omega)
    have sB : Stay (fun x => W3.heap.size ≤ x) W4 W6 := by
      refine Stay.trans (Stay.of_grown hg5.out (fun k hk => by cases hk; omega)) (by omega) ?_
      exact Stay.of_grown hg6 (fun k hk => by cases hk; omega)
    have hw := HG.out
    unfold SV
    obtain ⟨l1, l2, l3⟩ := hl4.to' (S' := fun x => w.heap.size ≤ x) (fun b hb _ => by omega) sB
    exact ⟨a', c', b', d', rfl, HK.out, hs2.to' (fun b hb _ => by omega) sA, l1, l2, l3⟩
  · exact mapr_gb place_ok (mapr_gb place_ok hM4 hg5.out (by have := hBg.out; omega) ⟨_, _, hA5⟩) hg6 (by have := hBg.out; omega) ⟨_, _, hR6⟩
  · have hw := HG.out
    exact gb_new (gb_new (gb_trans hGB.out hg4) hg5.out (by omega)) hg6 (by omega)
end Go.Proofs.YtehlgflpkofooaaDoor
