/-
  The program's Get and Same. Conditions: those in each statement.
-/
import Derived.Test.YtiadfijeglbdlaaDoorJyD
import Derived.Deep.LoopGhost
import Derived.Test.YtiadfijeglbdlaaDoorJyB
namespace Go.Proofs.YtiadfijeglbdlaaDoor
open Go.RowKit

/-- the blocks of S stay as they are -/
def Stay (S : Nat → Prop) (w w' : World) : Prop := ∀ b, S b → b < w.heap.size → w'.heap[b]? = w.heap[b]?
theorem Stay.trans {S : Nat → Prop} {a b c : World} (h : Stay S a b) (hs : a.heap.size ≤ b.heap.size) (k : Stay S b c) : Stay S a c := fun i hi hl => (k i hi (Nat.lt_of_lt_of_le hl hs)).trans (h i hi hl)
theorem Stay.of_below {S : Nat → Prop} {w w' : World} (h : Below w.heap.size w w') : Stay S w w' := fun b _ hl => h.block b hl
theorem Stay.of_grown {S : Nat → Prop} {w w' : World} {r : Option Nat} (h : w.grownBy w' r) (hr : ∀ k, r = some k → ¬ S k) : Stay S w w' := fun b hb hl => h.block b hl (fun e => hr b e.symm hb)
theorem Stay.cell {S : Nat → Prop} {w w' : World} (h : Stay S w w') {b o : Nat} {v : Value} (hb : S b) (hc : w.cell? ⟨b, o, none⟩ = some v) : w'.cell? ⟨b, o, none⟩ = some v :=
  (World.cell?_of_block (a := ⟨b, o, none⟩) (h b hb (World.block_lt_of_cell? w _ hc))).trans hc
theorem Stay.plain {S : Nat → Prop} {w w' : World} (h : Stay S w w') {b : Nat} (hb : S b) (hp : PlainB w b) : PlainB w' b := by
  obtain ⟨cs, T, e⟩ := hp
  exact ⟨cs, T, (h b hb (Array.getElem?_eq_some_iff.1 e).1).trans e⟩
theorem lt_of_cell {w : World} {b o : Nat} {v : Value} (h : w.cell? ⟨b, o, none⟩ = some v) : b < w.heap.size := World.block_lt_of_cell? w _ h

/-- a slice of texts in blocks of S -/
structure SStr (S : Nat → Prop) (w : World) (ks : List (List UInt8)) (a : Option Addr) (c : Nat) : Prop extends RStr w ks a c where
  inS : 0 < ks.length → ∃ b off, a = some ⟨b, off, none⟩ ∧ S b
theorem SStr.to' {S S' : Nat → Prop} {w w' : World} {ks : List (List UInt8)} {a : Option Addr} {c : Nat} (h : SStr S w ks a c) (hS : ∀ b, S b → b < w.heap.size → S' b) (hb : Stay S w w') : SStr S' w' ks a c := by
  refine ⟨⟨h.le, h.big, h.nil, fun h0 => ?_⟩, fun h0 => ?_⟩
  · obtain ⟨b, off, e, h1, h2⟩ := h.mem h0
    obtain ⟨b', off', e', h3⟩ := h.inS h0
    rw [e] at e'
    cases e'
    exact ⟨b, off, e, lt_of_cell (hb.cell h3 (h2 0 h0)), fun i hi => hb.cell h3 (h2 i hi)⟩
  · obtain ⟨b, off, e, h1, h2⟩ := h.mem h0
    obtain ⟨b', off', e', h3⟩ := h.inS h0
    rw [e] at e'
    cases e'
    exact ⟨b, off, e, hS b h3 h1⟩

mutual
/-- five cells read as a value, all of it in plain blocks of S -/
def SV (S : Nat → Prop) (w : World) : JV → List Value → Prop
  | .mk k s n l ks, cs => ∃ a c a' c', cs = [.int .i64 k, .string (bstr s), .int .u64 (n : Int), .slice a l.length c, .slice a' ks.length c'] ∧ (-9223372036854775808 ≤ k ∧ k ≤ 9223372036854775807 ∧ n < 18446744073709551616) ∧ SStr S w ks a' c' ∧
      (l.length ≤ c ∧ c ≤ 9223372036854775807) ∧ (a = none → c = 0) ∧ (0 < l.length → ∃ b off, a = some ⟨b, off, none⟩ ∧ S b ∧ PlainB w b ∧ SL S w l b off)
def SL (S : Nat → Prop) (w : World) : List JV → Nat → Nat → Prop
  | [], _, _ => True
  | v :: r, b, off => (∃ cs, cs.length = 5 ∧ (∀ j, j < 5 → w.cell? ⟨b, off + j, none⟩ = cs[j]?) ∧ SV S w v cs) ∧ SL S w r b (off + 5)
end
/-- the slice of values, in plain blocks of S -/
def SLi (S : Nat → Prop) (w : World) (l : List JV) (a : Option Addr) (c : Nat) : Prop :=
  (l.length ≤ c ∧ c ≤ 9223372036854775807) ∧ (a = none → c = 0) ∧ (0 < l.length → ∃ b off, a = some ⟨b, off, none⟩ ∧ S b ∧ PlainB w b ∧ SL S w l b off)
theorem sv_len {S : Nat → Prop} {w : World} {v : JV} {cs : List Value} (h : SV S w v cs) : cs.length = 5 := by
  obtain ⟨k, s, n, l, ks⟩ := v
  unfold SV at h
  obtain ⟨a, c, a', c', rfl, _⟩ := h
  rfl
mutual
theorem sv_pv {S : Nat → Prop} {w : World} : ∀ (v : JV) (cs : List Value), SV S w v cs → PV w v cs
  | .mk k s n l ks, cs, h => by
    unfold SV at h
    unfold PV
    obtain ⟨a, c, a', c', e, hk, hs, h1, h2, h3⟩ := h
    refine ⟨a, c, a', c', e, hk, hs.toRStr, h1, h2, fun h0 => ?_⟩
    obtain ⟨b, off, e1, _, e2, e3⟩ := h3 h0
    exact ⟨b, off, e1, e2, sl_pl l b off e3⟩
theorem sl_pl {S : Nat → Prop} {w : World} : ∀ (l : List JV) (b off : Nat), SL S w l b off → PL w l b off
  | [], _, _, _ => by unfold PL; trivial
  | v :: r, b, off, h => by
    unfold SL at h
    unfold PL
    obtain ⟨⟨cs, h1, h2, h3⟩, h4⟩ := h
    exact ⟨⟨cs, h1, h2, sv_pv v cs h3⟩, sl_pl r b (off + 5) h4⟩
end
mutual
theorem sv_to {S S' : Nat → Prop} {w w' : World} (hS : ∀ b, S b → b < w.heap.size → S' b) (hb : Stay S w w') : ∀ (v : JV) (cs : List Value), SV S w v cs → SV S' w' v cs
  | .mk k s n l ks, cs, h => by
    unfold SV at h ⊢
    obtain ⟨a, c, a', c', e, hk, hs, h1, h2, h3⟩ := h
    refine ⟨a, c, a', c', e, hk, hs.to' hS hb, h1, h2, fun h0 => ?_⟩
    obtain ⟨b, off, e1, e0, e2, e3⟩ := h3 h0
    exact ⟨b, off, e1, hS b e0 e2.lt, hb.plain e0 e2, sl_to hS hb l b off e0 e3⟩
theorem sl_to {S S' : Nat → Prop} {w w' : World} (hS : ∀ b, S b → b < w.heap.size → S' b) (hb : Stay S w w') : ∀ (l : List JV) (b off : Nat), S b → SL S w l b off → SL S' w' l b off
  | [], _, _, _, _ => by unfold SL; trivial
  | v :: r, b, off, hs, h => by
    unfold SL at h ⊢
    obtain ⟨⟨cs, h1, h2, h3⟩, h4⟩ := h
    refine ⟨⟨cs, h1, fun j hj => ?_, sv_to hS hb v cs h3⟩, sl_to hS hb r b (off + 5) hs h4⟩
    have e := h2 j hj
    rw [List.getElem?_eq_getElem (by omega)] at e ⊢
    exact hb.cell hs e
end
theorem sl_at {S : Nat → Prop} {w : World} : ∀ (l : List JV) (b off i : Nat) (v : JV), SL S w l b off → l[i]? = some v → ∃ cs, cs.length = 5 ∧ (∀ j, j < 5 → w.cell? ⟨b, off + (5 * i + j), none⟩ = cs[j]?) ∧ SV S w v cs
  | [], _, _, _, _, _, h => by simp at h
  | u :: r, b, off, 0, v, h, hi => by
    unfold SL at h
    obtain ⟨⟨cs, h1, h2, h3⟩, _⟩ := h
    cases hi
    exact ⟨cs, h1, fun j hj => by rw [Nat.mul_zero, Nat.zero_add]; exact h2 j hj, h3⟩
  | u :: r, b, off, i + 1, v, h, hi => by
    unfold SL at h
    obtain ⟨cs, h1, h2, h3⟩ := sl_at r b (off + 5) i v h.2 (by simpa using hi)
    exact ⟨cs, h1, fun j hj => by rw [show off + (5 * (i + 1) + j) = off + 5 + (5 * i + j) by omega]; exact h2 j hj, h3⟩
theorem sl_mk {S : Nat → Prop} {w : World} (b : Nat) : ∀ (l : List JV) (off : Nat), (∀ i v, l[i]? = some v → ∃ cs, cs.length = 5 ∧ (∀ j, j < 5 → w.cell? ⟨b, off + (5 * i + j), none⟩ = cs[j]?) ∧ SV S w v cs) → SL S w l b off
  | [], _, _ => by unfold SL; trivial
  | v :: r, off, h => by
    unfold SL
    refine ⟨?_, sl_mk b r (off + 5) fun i u hi => ?_⟩
    · obtain ⟨cs, h1, h2, h3⟩ := h 0 v rfl
      exact ⟨cs, h1, fun j hj => by have := h2 j hj; rwa [Nat.mul_zero, Nat.zero_add] at this, h3⟩
    · obtain ⟨cs, h1, h2, h3⟩ := h (i + 1) u (by simpa using hi)
      exact ⟨cs, h1, fun j hj => by rw [show off + 5 + (5 * i + j) = off + (5 * (i + 1) + j) by omega]; exact h2 j hj, h3⟩
theorem SLi.to' {S S' : Nat → Prop} {w w' : World} {l : List JV} {a : Option Addr} {c : Nat} (h : SLi S w l a c) (hS : ∀ b, S b → b < w.heap.size → S' b) (hb : Stay S w w') : SLi S' w' l a c := by
  obtain ⟨h1, h2, h3⟩ := h
  refine ⟨h1, h2, fun h0 => ?_⟩
  obtain ⟨b, off, e1, e0, e2, e3⟩ := h3 h0
  exact ⟨b, off, e1, hS b e0 e2.lt, hb.plain e0 e2, sl_to hS hb l b off e0 e3⟩
mutual
/-- all lists are so long at most -/
def fewV : JV → Nat → Prop
  | .mk _ _ _ l ks, m => l.length ≤ m ∧ ks.length ≤ m ∧ fewL l m
def fewL : List JV → Nat → Prop
  | [], _ => True
  | v :: r, m => fewV v m ∧ fewL r m
end
theorem few_at : ∀ (l : List JV) (m i : Nat) (v : JV), fewL l m → l[i]? = some v → fewV v m
  | [], _, _, _, _, h => by simp at h
  | u :: r, m, 0, v, h, hi => by
    unfold fewL at h
    cases hi
    exact h.1
  | u :: r, m, i + 1, v, h, hi => by
    unfold fewL at h
    exact few_at r m i v h.2 (by simpa using hi)
theorem gb_new {a b c : World} {r : Option Nat} {O : Nat} (h : a.grownBy b r) (k : b.grownBy c (some O)) (hO : a.heap.size ≤ O) : a.grownBy c r :=
  ⟨k.os.trans h.os, k.tape.trans h.tape, k.output.trans h.output, Nat.le_trans h.size k.size, fun i hi hr => (k.block i (Nat.lt_of_lt_of_le hi h.size) (fun e => by cases e; omega)).trans (h.block i hi hr)⟩

/-- slices.Clone of texts -/
theorem clone_any (ks : List (List UInt8)) (a : Option Addr) (c : Nat) (w : World) (h : RStr w ks a c) (hn : ks.length ≤ 1099511627776) :
    Calls Tryd.prog 40 #[.slice a ks.length c] w fun e w' => ∃ a' c', e = .returned (.slice a' ks.length c') ∧ SStr (fun b => w.heap.size ≤ b) w' ks a' c' ∧ Below w.heap.size w w' := by
  have key : ∀ w' v', w'.ownsRow w.heap.size 9 1 v' ks.length (ks.map fun k => Value.string (bstr k)) → ∃ a' c', v' = .slice a' ks.length c' ∧ SStr (fun b => w.heap.size ≤ b) w' ks a' c' := fun w' v' ho => by
    have hl := World.ownsRow.lt ho
    have hc := @World.ownsRow.cells _ _ _ _ _ _ _ ho
    obtain ⟨h1, ⟨rfl, hn0⟩ | ⟨g, cap, cur, rfl, hg1, hg2, hg3, hg4, -⟩⟩ := ho
    · refine ⟨none, 0, by rw [hn0], ⟨⟨by omega, by omega, fun _ => rfl, fun h0 => by omega⟩, fun h0 => by omega⟩⟩
    · refine ⟨some ⟨g, 0, none⟩, cap, rfl, ⟨⟨hg3, by unfold maxLen at hg4; omega, (by intro e; cases e), fun h0 => ?_⟩, fun h0 => ⟨g, 0, rfl, (hl g rfl).1⟩⟩⟩
      refine ⟨g, 0, rfl, (hl g rfl).2, fun i hi => ?_⟩
      have := hc (g := g) rfl i (.string (bstr (ks.getD i []))) (by simp [List.getD, hi])
      rw [Addr.add_lit] at this
      simpa using this
  cases a with
  | none =>
    have h0 := h.nil rfl
    have h1 := h.le
    have : ks.length = 0 := by omega
    refine (Tryd.slices_Clone_string_nil ks.length c w).mono ?_
    rintro e w' ⟨rfl, rfl⟩
    exact ⟨none, 0, by rw [this], ⟨⟨by omega, by omega, fun _ => rfl, fun h0 => by omega⟩, fun h0 => by omega⟩, Below.refl _ _⟩
  | some ad =>
    by_cases h0 : 0 < ks.length
    · obtain ⟨b, off, e, hb, hc⟩ := h.mem h0
      cases e
      refine (Tryd.slices_Clone_string b off ks.length c (ks.map bstr) w (by simp) (by omega) (fun j hj => ?_)).mono ?_
      · rw [List.length_map] at hj
        rw [hc j hj]
        simp [List.getD, hj]
      · rintro e w' ⟨v', rfl, ho, -, hB⟩
        obtain ⟨a', c', rfl, h2⟩ := key w' v' (by rw [List.take_of_length_le (by simp), List.map_map] at ho; exact ho)
        exact ⟨a', c', rfl, h2, hB⟩
    · have h1 : ks.length = 0 := by omega
      have h2 : ks = [] := List.eq_nil_of_length_eq_zero h1
      rw [h1]
      refine (Tryd.slices_Clone_string_zero ad c w).mono ?_
      rintro e w' ⟨v', rfl, ho, -, hB⟩
      obtain ⟨a', c', rfl, h2⟩ := key w' v' (by subst h2; exact ho)
      exact ⟨a', c', by rw [h1], h2, hB⟩
end Go.Proofs.YtiadfijeglbdlaaDoor

namespace Go.Proofs.YtiadfijeglbdlaaDoor
open Go.RowKit

theorem mapr_gb {K : TypeId} {G : World → Value → Prop} (hK : KeyOK K G) {w w' : World} {B q : Nat} {ps : List (Value × Value)} (h : MapR G w B ps) (hg : w.grownBy w' (some q)) (hq : q ≠ B) (hp : PlainB w' q) : MapR G w' B ps :=
  h.kept hK (hg.block B h.lt (fun e => hq (by cases e; rfl))) (fun x hx => by
    obtain ⟨cs, T, e⟩ := hx
    by_cases hxg : x = q
    · rw [hxg]; exact hp
    · exact ⟨cs, T, (hg.block x (Array.getElem?_eq_some_iff.1 e).1 (fun h => hxg (by cases h; rfl))).trans e⟩)

set_option maxRecDepth 100000 in
set_option maxHeartbeats 1600000 in
theorem fresh_of (k : Int) (s : List UInt8) (n : Nat) (l : List JV) (ks : List (List UInt8)) (a b : Option Addr) (c d : Nat) (w : World) (B : Nat) (ps : List (Value × Value))
    (hk : -9223372036854775808 ≤ k ∧ k ≤ 9223372036854775807 ∧ n < 18446744073709551616) (hks : RStr w ks b d) (hfew : ks.length ≤ 1099511627776) (hM : MapR GPlace w B ps)
    (hFL : ∀ W, w.grownBy W (some B) → MapR GPlace W B ps → Calls Tryd.prog 41 #[.slice a l.length c, .map (some B)] W fun e W' => ∃ a' c', e = .returned (.slice a' l.length c') ∧ SLi (fun x => W.heap.size ≤ x) W' l a' c' ∧ MapR GPlace W' B ps ∧ W.grownBy W' (some B)) :
    Calls Tryd.prog 26 #[.agg #[.int .i64 k, .string (bstr s), .int .u64 (n : Int), .slice a l.length c, .slice b ks.length d], .map (some B)] w fun e w' => ∃ cs, e = .returned (.agg cs.toArray) ∧ SV (fun x => w.heap.size ≤ x) w' (.mk k s n l ks) cs ∧ MapR GPlace w' B ps ∧ w.grownBy w' (some B) := by
  have hcl : Hid (∀ W, Below w.heap.size w W → Calls Tryd.prog 40 #[.slice b ks.length d] W fun e w' => ∃ a' c', e = .returned (.slice a' ks.length c') ∧ SStr (fun x => W.heap.size ≤ x) w' ks a' c' ∧ Below W.heap.size W w') := fun W hW => clone_any ks b d W (hks.to hW) hfew
  have HFL := Lib.hid hFL
  have HM := Lib.hid hM
  have HK := Lib.hid hk
  clear hFL hM hks hfew hk
  go_enter Tryd.func26, Tryd.ntmps26
  go_wp2_with fail
  have hA1 := (Arr.new w 30 [.int .i64 k, .string (bstr s), .int .u64 (n : Int), .slice a l.length c, .slice b ks.length d]).kept ((Below.refl _ _).alloc (Nat.le_refl _) (.cells #[.int .i64 0, .string ⟨#[]⟩, .int .u64 0, .slice none 0 0, .slice none 0 0] 30))
  have hR1 := Arr.new (w.alloc (.cells #[.int .i64 k, .string (bstr s), .int .u64 (n : Int), .slice a l.length c, .slice b ks.length d] 30)) 30 [.int .i64 0, .string ⟨#[]⟩, .int .u64 0, .slice none 0 0, .slice none 0 0]
  have hB1 : Below w.heap.size w ((w.alloc (.cells #[.int .i64 k, .string (bstr s), .int .u64 (n : Int), .slice a l.length c, .slice b ks.length d] 30)).alloc (.cells #[.int .i64 0, .string ⟨#[]⟩, .int .u64 0, .slice none 0 0, .slice none 0 0] 30)) := ((Below.refl _ _).alloc (Nat.le_refl _) _).alloc (by simp) _
  rw [World.size_alloc] at hR1
  have hs1 : Hid (((w.alloc (.cells #[.int .i64 k, .string (bstr s), .int .u64 (n : Int), .slice a l.length c, .slice b ks.length d] 30)).alloc (.cells #[.int .i64 0, .string ⟨#[]⟩, .int .u64 0, .slice none 0 0, .slice none 0 0] 30)).heap.size = w.heap.size + 2) := by show _ = _; simp
  generalize (w.alloc (.cells #[.int .i64 k, .string (bstr s), .int .u64 (n : Int), .slice a l.length c, .slice b ks.length d] 30)).alloc (.cells #[.int .i64 0, .string ⟨#[]⟩, .int .u64 0, .slice none 0 0, .slice none 0 0] 30) = W1 at *
  have HBW : Hid (B < w.heap.size) := HM.out.lt
  generalize hg : w.heap.size = g at *
  have HG := Lib.hid hg
  clear hg
  go_upto_region 2 with (go_at_call 40; refine (hcl.out _ hB1).mono ?_; rintro e W2 ⟨b', d', rfl, hs2, hb2⟩; have hA2 := hA1.kept hb2; have c4 := (hA2.cell 4).trans (show _ = some (Value.slice b ks.length d) from rfl); have f4 := hA2.frozen 4)
  have hR2 := hR1.kept hb2
  have hA3 := hA2.store 4 (.slice b' ks.length d')
  have hR3 := hR2.other ⟨g, 4, none⟩ (by show g ≠ g + 1; omega) (.slice b' ks.length d')
  have hg3 : Hid (W2.grownBy (W2.setCell ⟨g, 4, none⟩ (.slice b' ks.length d')) (some g)) := ⟨rfl, rfl, rfl, by rw [World.size_setCell]; exact Nat.le_refl _, fun i hi hr => Below.heap_setCell _ _ _ _ (fun e => hr (by rw [e]))⟩
  have hz3 : Hid ((W2.setCell ⟨g, 4, none⟩ (.slice b' ks.length d')).heap.size = W2.heap.size) := World.size_setCell _ _ _
  generalize W2.setCell ⟨g, 4, none⟩ (.slice b' ks.length d') = W3 at *
  have hB2 : Below g w W2 := HG.out ▸ hB1.trans (hb2.mono (HG.out ▸ hB1.size))
  have hGB : Hid (w.grownBy W3 (some B)) := gb_new (gb (HG.out.symm ▸ hB2) _) hg3.out (by rw [HG.out]; exact Nat.le_refl _)
  have hBg : Hid (B < g) := by show B < g; have := HBW.out; have := HG.out; omega
  have hM3 : MapR GPlace W3 B ps := mapr_gb place_ok (HM.out.below place_ok (HG.out.symm ▸ hB2)) hg3.out (by have := hBg.out; omega) ⟨_, _, hA3⟩
  have c3 := (hA3.cell 3).trans (show _ = some (Value.slice a l.length c) from rfl)
  clear c4 f4 hA2 hR2 hA1 hR1
  go_upto_region 3 with (go_at_call 41; refine (HFL.out _ hGB.out hM3).mono ?_; rintro e W4 ⟨a', c', rfl, hl4, hM4, hg4⟩; have hA4 := hA3.grown hg4 (by have := HBW.out; have := HG.out; intro h; cases h; omega); have c4 := (hA4.cell 3).trans (show _ = some (Value.slice a l.length c) from rfl); have f4 := hA4.frozen 3)
  have hR4 := hR3.grown hg4 (by have := HBW.out; have := HG.out; intro h; cases h; omega)
  have hA5 := hA4.store 3 (.slice a' l.length c')
  have hR5 := hR4.other ⟨g, 3, none⟩ (by show g ≠ g + 1; omega) (.slice a' l.length c')
  have hg5 : Hid (W4.grownBy (W4.setCell ⟨g, 3, none⟩ (.slice a' l.length c')) (some g)) := ⟨rfl, rfl, rfl, by rw [World.size_setCell]; exact Nat.le_refl _, fun i hi hr => Below.heap_setCell _ _ _ _ (fun e => hr (by rw [e]))⟩
  generalize W4.setCell ⟨g, 3, none⟩ (.slice a' l.length c') = W5 at *
  have e0 := (hA5.cell 0).trans (show _ = some (Value.int .i64 k) from rfl)
  have e1 := (hA5.cell 1).trans (show _ = some (Value.string (bstr s)) from rfl)
  have e2 := (hA5.cell 2).trans (show _ = some (Value.int .u64 (n : Int)) from rfl)
  have e3 := (hA5.cell 3).trans (show _ = some (Value.slice a' l.length c') from rfl)
  have e4 := (hA5.cell 4).trans (show _ = some (Value.slice b' ks.length d') from rfl)
  clear c3 c4 f4
  go_wp2_with ((with_reducible show wpList _ _ _ (⟨none, _, _, _, _, _⟩ :: _) _ _); refine wl_store rfl 30 _ _ rfl (g + 1) 0 rfl [.int .i64 k, .string (bstr s), .int .u64 (n : Int), .slice a' l.length c', .slice b' ks.length d'] rfl 30 _ hR5 (by kernel_rfl) (by simp) (by simp [Value.oneCell']) ?_; intro W6 hR6 hg6 hs6)
  rw [whole_store _ _ (by simp)] at hR6
  have hA6 := hA5.grown hg6 (by intro h; cases h)
  refine end_cell rfl (g + 1) 30 _ _ rfl hR6 Tryd.underlying30 rfl (by kernel_rfl) rfl ⟨_, rfl, ?_, ?_, ?_⟩
  · have z1 := hs1.out
    have z2 := hb2.size
    have z3 := hz3.out
    have z4 := hg4.size
    have z5 := hg5.out.size
    have zB := hBg.out
    have sA : Stay (fun x => W1.heap.size ≤ x) W2 W6 := by
      refine Stay.trans (Stay.of_grown hg3.out (fun k hk => by cases hk; omega)) (by omega) ?_
      refine Stay.trans (Stay.of_grown hg4 (fun k hk => by cases hk; omega)) (by omega) ?_
      refine Stay.trans (Stay.of_grown hg5.out (fun k hk => by cases hk; omega)) (by omega) ?_
      exact Stay.of_grown hg6 (fun k hk => by cases hk; omega)
    have sB : Stay (fun x => W3.heap.size ≤ x) W4 W6 := by
      refine Stay.trans (Stay.of_grown hg5.out (fun k hk => by cases hk; omega)) (by omega) ?_
      exact Stay.of_grown hg6 (fun k hk => by cases hk; omega)
    have hw := HG.out
    unfold SV
    obtain ⟨l1, l2, l3⟩ := hl4.to' (S' := fun x => w.heap.size ≤ x) (fun b hb _ => by omega) sB
    exact ⟨a', c', b', d', rfl, HK.out, hs2.to' (fun b hb _ => by omega) sA, l1, l2, l3⟩
  · exact mapr_gb place_ok (mapr_gb place_ok hM4 hg5.out (by have := hBg.out; omega) ⟨_, _, hA5⟩) hg6 (by have := hBg.out; omega) ⟨_, _, hR6⟩
  · have hw := HG.out
    exact gb_new (gb_new (gb_trans hGB.out hg4) hg5.out (by omega)) hg6 (by omega)
end Go.Proofs.YtiadfijeglbdlaaDoor

namespace Go.Proofs.YtiadfijeglbdlaaDoor
open Go.RowKit

/-- what met holds of the lists around -/
def Anc (w : World) (ps : List (Value × Value)) (sz : Nat) : Prop := ∀ q ∈ ps, ∀ b off (n : Int), q.1 = .agg #[.pointer (some ⟨b, off, none⟩), .int .i64 n] → ∃ l', PL w l' b off ∧ (l'.length : Int) = n ∧ sz < SizeOf.sizeOf l'
theorem zero_list (w : World) : (zeroValue 28).run Tryd.prog w = .ok (.slice none 0 0) w := by kernel_rfl

theorem pv_one_cell {w : World} {v : JV} {cs : List Value} (h : PV w v cs) : ∀ x ∈ cs, x.oneCell' = true := by
  obtain ⟨k, s, n, a, l, c, b, m, d, rfl⟩ := pv_shape h
  simp [Value.oneCell']
/-- make([]json.Value, n) -/
theorem wl_make_v {ops : Array Oper} {rest : List Oper} {o : Oper} {a : Act} {Q : Exit → Act → World → Prop} {w : World} (hg : o.guard = none) (l c : Operand) (hop : o.op = Op.makeSlice 28 l c) (n : Nat) (hl : a.eval l = .int .i64 n) (hc : a.eval c = .int .i64 n)
    (hn : n ≤ 1099511627776)
    (hK : ∀ w' xs, Arr w' w.heap.size 30 xs → xs.length = n * 5 → Below w.heap.size w w' → w'.heap.size = w.heap.size + 1 → wpList Tryd.prog ops Q rest (a.put o.dst (.slice (some ⟨w.heap.size, 0, none⟩) n n)) w') :
    wpList Tryd.prog ops Q (o :: rest) a w := by
  obtain ⟨i0, hi, hz0, hz1, hz2⟩ := info_parts (show (Tryd.prog.info? 30).map (fun i => (i.zero, i.size, i.bytes)) = some (some (.agg #[.int .i64 0, .string ⟨#[]⟩, .int .u64 0, .slice none 0 0, .slice none 0 0]), 5, 80) by kernel_rfl)
  refine wpList_plain hg fun K hK' => ?_
  have hrun := run_make (P := Tryd.prog) w 28 30 i0 _ Tryd.underlying28 hi hz0 .i64 .i64 n n (by omega) (by omega) (by rw [hz2]; omega) (by omega)
  unfold Oper.wp
  simp [execOp, hop, hl, hc, hrun, Result.andThen]
  refine hK' _ _ (hK _ (madeCells (Value.agg #[.int .i64 0, .string ⟨#[]⟩, .int .u64 0, .slice none 0 0, .slice none 0 0]).cells (n * 5)).toList ?_ ?_ ?_ ?_)
  · have := Arr.new w 30 (madeCells (Value.agg #[.int .i64 0, .string ⟨#[]⟩, .int .u64 0, .slice none 0 0, .slice none 0 0]).cells (n * 5)).toList
    rw [hz1]
    simpa using this
  · simp [size_madeCells]
  · exact (Below.refl _ _).alloc (Nat.le_refl _) _
  · simp

set_option maxRecDepth 100000 in
set_option maxHeartbeats 4000000 in
theorem freshList_all : ∀ (N : Nat) (l : List JV) (a : Option Addr) (c : Nat) (w : World) (B : Nat) (ps : List (Value × Value)), SizeOf.sizeOf l ≤ N → (l.length ≤ c ∧ c ≤ 9223372036854775807) →
    (0 < l.length → ∃ b off, a = some ⟨b, off, none⟩ ∧ PlainB w b ∧ PL w l b off) → l.length ≤ 1099511627776 → fewL l 1099511627776 → MapR GPlace w B ps → Anc w ps (SizeOf.sizeOf l) →
    Calls Tryd.prog 41 #[.slice a l.length c, .map (some B)] w fun e W' => ∃ a' c', e = .returned (.slice a' l.length c') ∧ SLi (fun x => w.heap.size ≤ x) W' l a' c' ∧ MapR GPlace W' B ps ∧ w.grownBy W' (some B) := by
  intro N
  induction N with
  | zero => intro l; intros; cases l <;> simp at *
  | succ N ih =>
    intro l a c w B ps hN hlc hl hlm hfew hM hAnc
    by_cases h0 : l.length = 0
    · have h0i : ((l.length : Int) == 0) = true := beq_iff_eq.2 (by omega)
      have hF : Hid (SLi (fun x => w.heap.size ≤ x) w l none 0 ∧ l.length = 0) := ⟨⟨⟨by omega, by omega⟩, fun _ => rfl, fun h => by omega⟩, h0⟩
      have HM := Lib.hid hM
      clear h0 ih hl hAnc hM
      go_enter Tryd.func41, Tryd.ntmps41
      go_wp2
      go_ret
      exact ⟨none, 0, by rw [hF.out.2]; rfl, hF.out.1, HM.out, World.grownBy.refl _ _⟩
    · have h0i : ((l.length : Int) == 0) = false := beq_eq_false_iff_ne.2 (by omega)
      obtain ⟨ab, ao, rfl, hab, hpl⟩ := hl (by omega)
      obtain ⟨KEY, hKEY⟩ : ∃ KEY : Value, KEY = .agg #[.pointer (some ⟨ab, ao, none⟩), .int .i64 (l.length : Int)] := ⟨_, rfl⟩
      have hpo : Hid (∀ W, Calls Tryd.prog 33 #[.slice (some ⟨ab, ao, none⟩) l.length c] W fun e w' => e = .returned (.agg #[.pointer (some ⟨ab, ao, none⟩), .int .i64 (l.length : Int)]) ∧ Below W.heap.size W w') := fun W => by
        have := placeOf_any (some ⟨ab, ao, none⟩) l.length c W (by omega) (fun _ => ⟨ab, ao, rfl⟩)
        unfold placeV at this
        rw [if_neg h0] at this
        exact this
      have HIN : Hid (∀ q ∈ ps, q.1 ≠ .agg #[.pointer (some ⟨ab, ao, none⟩), .int .i64 (l.length : Int)]) := fun q hq e => by
        obtain ⟨l', h1, h2, h3⟩ := hAnc q hq ab ao _ e
        rw [pl_one l l' ab ao hpl h1 (by omega)] at h3
        omega
      have hlp : Hid (0 < l.length) := by show 0 < _; omega
      have HPL := Lib.hid hpl
      have HAB := Lib.hid hab
      have HM := Lib.hid hM
      have HANC := Lib.hid hAnc
      have IH := Lib.hid ih
      have HFEW := Lib.hid hfew
      have HN := Lib.hid hN
      have hlb : l.length ≤ 9223372036854775807 := by omega
      clear h0 hl hpl hab hM hAnc ih hfew hN
      go_enter Tryd.func41, Tryd.ntmps41
      go_upto_region 4 with (go_at_call 33; refine (hpo.out _).mono ?_; rintro e w2 ⟨rfl, hb2⟩)
      have hH3 := Arr.new w2 80 [.pointer (some ⟨ab, ao, none⟩), .int .i64 (l.length : Int)]
      have hB3 : Below w.heap.size w (w2.alloc (.cells [.pointer (some ⟨ab, ao, none⟩), .int .i64 (l.length : Int)].toArray 80)) := hb2.alloc hb2.size _
      generalize w2.alloc (.cells [.pointer (some ⟨ab, ao, none⟩), .int .i64 (l.length : Int)].toArray 80) = W3 at *
      generalize hh : w2.heap.size = h at *
      have HHW : Hid (w.heap.size ≤ h) := hh ▸ hb2.size
      clear hh hb2
      have hM3 : MapR GPlace W3 B ps := HM.out.below place_ok hB3
      have hkey3 : GPlace W3 (.agg #[.pointer (some ⟨ab, ao, none⟩), .int .i64 (l.length : Int)]) := ⟨_, _, rfl, .inr ⟨ab, ao, rfl, (CellsKept.of_below hB3).plain ab HAB.out⟩⟩
      have q0 := (hH3.cell 0).trans (show _ = some (Value.pointer (some ⟨ab, ao, none⟩)) from rfl)
      have q1 := (hH3.cell 1).trans (show _ = some (Value.int .i64 (l.length : Int)) from rfl)
      go_upto_region 8 with (first
        | (at_lookup; refine wl_look_no place_ok Tryd.underlying64 rfl _ _ rfl B ps rfl hM3 _ _ rfl hkey3 (zero_list _) HIN.out ?_)
        | (at_make; refine wl_make_v rfl _ _ rfl l.length rfl rfl hlm ?_; intro W4 xs0 hO4 hxl hB4 hz4))
      have hlt3 := hH3.lt
      generalize hO : W3.heap.size = O at *
      have HO : Hid (w.heap.size ≤ O) := hO ▸ hB3.size
      clear hO
      have hB5 : Below w.heap.size w W4 := hB3.trans (hB4.mono (by have := HO.out; omega))
      have hM4 : MapR GPlace W4 B ps := HM.out.below place_ok hB5
      have hkey4 : GPlace W4 (.agg #[.pointer (some ⟨ab, ao, none⟩), .int .i64 (l.length : Int)]) := ⟨_, _, rfl, .inr ⟨ab, ao, rfl, (CellsKept.of_below hB5).plain ab HAB.out⟩⟩
      have hBw : Hid (B < w.heap.size) := HM.out.lt
      have hhO : Hid (h < O) := hlt3
      have hH4 : Arr W4 h 80 [.pointer (some ⟨ab, ao, none⟩), .int .i64 (l.length : Int)] := hH3.to hB4 hhO.out
      have r0 := (hH4.cell 0).trans (show _ = some (Value.pointer (some ⟨ab, ao, none⟩)) from rfl)
      have r1 := (hH4.cell 1).trans (show _ = some (Value.int .i64 (l.length : Int)) from rfl)
      have hg4 : Hid (w.grownBy W4 (some B)) := gb hB5 _
      have HXL := Lib.hid hxl
      clear hlt3 q0 q1 hM3 hkey3 hB3 hB4 hz4 hH3 hB5 hxl
      go_upto_region 9 with (at_mapUpdate; refine wl_put_new place_ok Tryd.underlying64 rfl _ _ _ rfl B ps rfl hM4 _ (.slice (some ⟨O, 0, none⟩) l.length l.length) rfl rfl hkey4 HIN.out ?_; intro W5 hM5 hg5 hs5)
      have hO5 := hO4.grown hg5 (by have := hBw.out; have := HO.out; intro e; cases e; omega)
      have hH5 := hH4.grown hg5 (by have := hBw.out; have := HHW.out; intro e; cases e; omega)
      have hG5 : Hid (w.grownBy W5 (some B)) := gb_trans hg4.out hg5
      clear hg5 hg4 hO4 hH4 hM4 hkey4 r0 r1 hs5
      go_upto_region 10 with fail
      go_loopw [32] (fun i wr => ∃ (m : Nat) (xs : List Value), m ≤ l.length ∧ i = .int .i64 m ∧ MapR GPlace wr B (ps ++ [(.agg #[.pointer (some ⟨ab, ao, none⟩), .int .i64 (l.length : Int)], .slice (some ⟨O, 0, none⟩) l.length l.length)]) ∧ Arr wr O 30 xs ∧ xs.length = l.length * 5 ∧ Hid (w.grownBy wr (some B)) ∧ Arr wr h 80 [.pointer (some ⟨ab, ao, none⟩), .int .i64 (l.length : Int)] ∧
          Hid (∀ i v, i < m → l[i]? = some v → ∃ cs, cs.length = 5 ∧ (∀ j, j < 5 → xs[5 * i + j]? = cs[j]?) ∧ SV (fun x => O < x) wr v cs)) (fun i _ => l.length - (intOf i).toNat)
      case atStart => exact ⟨0, xs0, by omega, rfl, hM5, hO5, HXL.out, hG5, hH5, fun i v hi => by omega⟩
      case round =>
        clear hM5 hO5 hG5 hH5
        obtain ⟨m, xs, hm, rfl, hMm, hOm, hxl, hGm, hHm, hE⟩ := hrel
        have hck : Hid (CellsKept w wr) := ck_gb HM.out hGm.out
        by_cases hlt : m < l.length
        · have hc : (m : Int) < (l.length : Int) := by omega
          obtain ⟨x, hx⟩ : ∃ x, l[m]? = some x := ⟨_, List.getElem?_eq_getElem hlt⟩
          obtain ⟨cx, hcx, hcx2, hpx⟩ := pl_at l ab ao m x HPL.out hx
          have hpx2 := hpx
          obtain ⟨xk, xs', xn, xl, xks⟩ := x
          unfold PV at hpx2
          obtain ⟨xa, xc, xb, xd, rfl, hxk, hxs, hxc, hxa, hxl2⟩ := hpx2
          have hmc : m < c := by omega
          have z := fun (j : Nat) (v : Value) (h : [Value.int .i64 xk, .string (bstr xs'), .int .u64 (xn : Int), .slice xa xl.length xc, .slice xb xks.length xd][j]? = some v) (hj : j < 5) => hck.out.cell ((hcx2 j hj).trans h)
          have qc0 : wr.cell? ⟨ab, ao + m * 5, none⟩ = some (.int .i64 xk) := by rw [show ao + m * 5 = ao + (5 * m + 0) by omega]; exact z 0 _ rfl (by omega)
          have qc1 : wr.cell? ⟨ab, ao + m * 5 + 1, none⟩ = some (.string (bstr xs')) := by rw [show ao + m * 5 + 1 = ao + (5 * m + 1) by omega]; exact z 1 _ rfl (by omega)
          have qc2 : wr.cell? ⟨ab, ao + m * 5 + 2, none⟩ = some (.int .u64 (xn : Int)) := by rw [show ao + m * 5 + 2 = ao + (5 * m + 2) by omega]; exact z 2 _ rfl (by omega)
          have qc3 : wr.cell? ⟨ab, ao + m * 5 + 3, none⟩ = some (.slice xa xl.length xc) := by rw [show ao + m * 5 + 3 = ao + (5 * m + 3) by omega]; exact z 3 _ rfl (by omega)
          have qc4 : wr.cell? ⟨ab, ao + m * 5 + 4, none⟩ = some (.slice xb xks.length xd) := by rw [show ao + m * 5 + 4 = ao + (5 * m + 4) by omega]; exact z 4 _ rfl (by omega)
          have hmem := List.sizeOf_lt_of_mem (List.mem_of_getElem? hx)
          have hfx := few_at l _ m _ HFEW.out hx
          unfold fewV at hfx
          have hwa : Hid (∀ o, Below wr.heap.size wr (wr.alloc o)) := fun o => (Below.refl _ _).alloc (Nat.le_refl _) _
          have hcall : Hid (∀ W, Below wr.heap.size wr W → Calls Tryd.prog 26 #[.agg #[.int .i64 xk, .string (bstr xs'), .int .u64 (xn : Int), .slice xa xl.length xc, .slice xb xks.length xd], .map (some B)] W fun e w' => ∃ cs, e = .returned (.agg cs.toArray) ∧ SV (fun x => W.heap.size ≤ x) w' (.mk xk xs' xn xl xks) cs ∧ MapR GPlace w' B (ps ++ [(.agg #[.pointer (some ⟨ab, ao, none⟩), .int .i64 (l.length : Int)], .slice (some ⟨O, 0, none⟩) l.length l.length)]) ∧ W.grownBy w' (some B)) := fun W hW => by
            have hMW := hMm.below place_ok hW
            have hkW : CellsKept w W := hck.out.trans (CellsKept.of_below hW)
            refine fresh_of xk xs' xn xl xks xa xb xc xd W B _ hxk (hxs.keep hkW) (by omega) hMW (fun V hV hMV => ?_)
            have hkV : CellsKept w V := hkW.trans (ck_gb hMW hV)
            have hsz : SizeOf.sizeOf xl < SizeOf.sizeOf l := by simp only [JV.mk.sizeOf_spec] at hmem; omega
            refine IH.out xl xa xc V B _ (by have := HN.out; omega) hxc (fun h => ?_) hfx.1 hfx.2.2 hMV ?_
            · obtain ⟨bb, off, e, h1, h2⟩ := hxl2 h
              exact ⟨bb, off, e, hkV.plain bb h1, pl_keep hkV xl bb off h2⟩
            · intro q hq b' off n' e
              rcases List.mem_append.1 hq with hq | hq
              · obtain ⟨l', h1, h2, h3⟩ := HANC.out q hq b' off n' e
                exact ⟨l', pl_keep hkV l' b' off h1, h2, by omega⟩
              · obtain rfl := List.mem_singleton.1 hq
                simp only [Value.agg.injEq, Array.mk.injEq, List.cons.injEq, Value.pointer.injEq, Value.int.injEq, true_and, and_true, Option.some.injEq, Addr.mk.injEq] at e
                obtain ⟨⟨rfl, rfl⟩, rfl⟩ := e
                exact ⟨l, pl_keep hkV l _ _ HPL.out, rfl, hsz⟩
          have HX := Lib.hid hx
          clear z hcx hcx2 hpx hxk hxs hxc hxa hxl2 hmem hfx hx
          have hBO : Hid (B < O) := by have := hBw.out; have := HO.out; show _ < _; omega
          have HE := Lib.hid hE.out
          go_wp2_with (first
            | (go_at_call 26; refine (hcall.out _ (hwa.out _)).mono ?_; rintro e W9 ⟨cs9, rfl, hs9, hM9, hg9⟩; have hO9 := (hOm.kept (hwa.out _)).grown hg9 (by have := hBO.out; intro e; cases e; omega); have hH9 := (hHm.kept (hwa.out _)).grown hg9 (by have := hBw.out; have := HHW.out; intro e; cases e; omega))
            | ((with_reducible show wpList _ _ _ (⟨none, _, _, _, _, _⟩ :: _) _ _); refine wl_store rfl 30 _ _ rfl O (m * 5) rfl cs9 rfl 30 xs hO9 (by rw [sv_len hs9]; kernel_rfl) (by rw [sv_len hs9, hxl]; omega) (pv_one_cell (sv_pv _ _ hs9)) ?_; intro W10 hO10 hg10 hs10))
          have hl9 := sv_len hs9
          have hGA : w.grownBy W9 (some B) := gb_trans hGm.out (gb_trans (gb (hwa.out _) _) hg9)
          have zO := hOm.lt
          go_roundw
          case rel =>
            refine ⟨m + 1, _, by omega, by go_num, mapr_gb place_ok hM9 hg10 (by have := hBO.out; omega) ⟨_, _, hO10⟩, hO10, ?_, gb_new hGA hg10 HO.out, hH9.grown hg10 (by have := hhO.out; intro e; cases e; omega), fun i v hi hv => ?_⟩
            · simp only [List.length_append, List.length_take, List.length_drop]; omega
            · have hg10s : Stay (fun x => O < x) W9 W10 := Stay.of_grown hg10 (fun k hk => by cases hk; omega)
              by_cases him : i = m
              · subst him
                rw [HX.out] at hv
                cases hv
                refine ⟨cs9, hl9, fun j hj => ?_, sv_to (fun b hb _ => ?_) (S := fun x => (wr.alloc (.cells #[.int .i64 xk, .string (bstr xs'), .int .u64 (xn : Int), .slice xa xl.length xc, .slice xb xks.length xd] 30)).heap.size ≤ x) ?_ _ _ hs9⟩
                · rw [List.append_assoc, List.getElem?_append_right (by rw [List.length_take]; omega), List.length_take, List.getElem?_append_left (by omega)]
                  congr 1
                  omega
                · rw [World.size_alloc] at hb
                  omega
                · exact Stay.of_grown hg10 (fun k hk => by cases hk; rw [World.size_alloc]; omega)
              · obtain ⟨cs, h1, h2, h3⟩ := HE.out i v (by omega) hv
                refine ⟨cs, h1, fun j hj => ?_, ?_⟩
                · rw [List.append_assoc, List.getElem?_append_left (by rw [List.length_take]; omega), List.getElem?_take_of_lt (by omega)]
                  exact h2 j hj
                · refine sv_to (fun b hb _ => hb) ?_ _ _ h3
                  refine Stay.trans (Stay.of_below (hwa.out _)) (hwa.out _).size (Stay.trans (Stay.of_grown hg9 (fun k hk => by cases hk; have := hBO.out; omega)) hg9.size hg10s)
          case measure => simp [intOf]; omega
        · have hc : ¬ (m : Int) < (l.length : Int) := by omega
          have hml : m = l.length := by omega
          have r0 := (hHm.cell 0).trans (show _ = some (Value.pointer (some ⟨ab, ao, none⟩)) from rfl)
          have r1 := (hHm.cell 1).trans (show _ = some (Value.int .i64 (l.length : Int)) from rfl)
          have hkeyR : GPlace wr (.agg #[.pointer (some ⟨ab, ao, none⟩), .int .i64 (l.length : Int)]) := ⟨_, _, rfl, .inr ⟨ab, ao, rfl, hck.out.plain ab HAB.out⟩⟩
          have hBO : Hid (B < O) := by have := hBw.out; have := HO.out; show _ < _; omega
          have HML := Lib.hid hml
          clear hml hm hlt
          go_wp2_with (at_delete; refine wl_drop place_ok Tryd.underlying64 rfl _ _ rfl B ps _ _ rfl hMm rfl hkeyR HIN.out ?_; intro W11 hM11 hg11 hs11)
          go_ret
          refine ⟨some ⟨O, 0, none⟩, l.length, rfl, ⟨⟨Nat.le_refl _, by omega⟩, (by intro e; cases e), fun _ => ⟨O, 0, rfl, HO.out, ?_, ?_⟩⟩, hM11, gb_trans hGm.out hg11⟩
          · exact ⟨_, _, (hOm.grown hg11 (by have := hBO.out; intro e; cases e; omega) : _)⟩
          · have hO11 := hOm.grown hg11 (by have := hBO.out; intro e; cases e; omega)
            refine sl_mk O l 0 fun i v hi => ?_
            obtain ⟨cs, h1, h2, h3⟩ := hE.out i v (by have := (List.getElem?_eq_some_iff.1 hi).1; have := HML.out; omega) hi
            refine ⟨cs, h1, fun j hj => ?_, sv_to (fun b hb _ => ?_) (Stay.of_grown hg11 (fun k hk => by cases hk; have := hBO.out; omega)) _ _ h3⟩
            · rw [hO11.cell, Nat.zero_add]
              exact h2 j hj
            · have := HO.out
              omega
end Go.Proofs.YtiadfijeglbdlaaDoor

namespace Go.Proofs.YtiadfijeglbdlaaDoor
open Go.RowKit

def idxF : List (List UInt8) → List UInt8 → Option Nat
  | [], _ => none
  | k :: r, x => if k = x then some 0 else (idxF r x).map (· + 1)
/-- the value of a name -/
def getF : JV → List UInt8 → Option JV
  | .mk k _ _ l ks, x => if k = 6 ∧ ks.length = l.length then (idxF ks x).bind fun i => l[i]? else none
theorem getF_eq (k : Int) (s : List UInt8) (n : Nat) (l : List JV) (ks : List (List UInt8)) (x : List UInt8) : getF (.mk k s n l ks) x = if k = 6 ∧ ks.length = l.length then (idxF ks x).bind fun i => l[i]? else none := rfl
theorem idx_lt : ∀ (ks : List (List UInt8)) (x : List UInt8) (i : Nat), idxF ks x = some i → i < ks.length
  | [], _, _, h => by cases h
  | k :: r, x, i, h => by
    unfold idxF at h
    split at h
    · cases h; simp
    · cases hr : idxF r x with
      | none => rw [hr] at h; cases h
      | some j =>
        rw [hr] at h
        cases h
        have := idx_lt r x j hr
        simp only [List.length_cons]
        omega
def idxI (o : Option Nat) : Int := match o with | some i => (i : Int) | none => -1
theorem idx_from : ∀ (ks : List (List UInt8)) (x : List UInt8) (i : Nat), Lib.idxFromS (ks.map bstr) (bstr x) i = match idxF ks x with | some j => ((i + j : Nat) : Int) | none => -1
  | [], _, _ => rfl
  | k :: r, x, i => by
    have ih := idx_from r x (i + 1)
    rw [List.map_cons, Lib.idxFromS, idxF]
    by_cases h : k = x
    · rw [if_pos (by rw [h]), if_pos h]; rfl
    · rw [if_neg (fun e => h (bstr_inj e)), if_neg h, ih]
      cases idxF r x with
      | none => rfl
      | some j => show ((i + 1 + j : Nat) : Int) = ((i + (j + 1) : Nat) : Int); omega
theorem index_any (ks : List (List UInt8)) (a : Option Addr) (c : Nat) (x : List UInt8) (w : World) (h : RStr w ks a c) :
    Calls Tryd.prog 25 #[.slice a ks.length c, .string (bstr x)] w fun e w' => e = .returned (.int .i64 (idxI (idxF ks x))) ∧ w' = w := by
  have hb := h.big
  have hl := h.le
  have key : Lib.idxOfS (ks.map bstr) (bstr x) = idxI (idxF ks x) := by
    unfold Lib.idxOfS idxI
    rw [idx_from]
    cases idxF ks x with
    | none => rfl
    | some j => show ((0 + j : Nat) : Int) = (j : Int); omega
  by_cases h0 : 0 < ks.length
  · obtain ⟨b, off, rfl, hb, hc⟩ := h.mem h0
    have := Tryd.slices_Index_string b off ks.length c (ks.map bstr) (bstr x) w (by simp) (by omega) (fun j hj => by
      rw [List.length_map] at hj
      rw [hc j hj]
      simp [List.getD, hj])
    rw [List.take_of_length_le (by simp), key] at this
    exact this
  · have e : ks = [] := List.eq_nil_of_length_eq_zero (by omega)
    subst e
    exact Tryd.slices_Index_string_empty a c (bstr x) w

/-- the end: two results, the first of which lies in a block -/
theorem end_cell2 {P : Program} {fn : Func} {R : Ending → World → Prop} {a : Act} {w : World} {p qq : Tmp} {ty : TypeId} (h : fn.results = #[.cell p ty, .tmp qq]) (g : Nat) (T : TypeId) (xs : List Value) (d : TypeDesc) (v : Value)
    (hp : a.tmps.getD p undef = .pointer (some ⟨g, 0, none⟩)) (hA : Arr w g T xs) (hu : P.underlying ty = some d) (hd : (match d with | .struct _ | .array _ _ => true | _ => false) = true) (hi : (P.info? ty).map (·.size) = some xs.length)
    (hq : a.tmps.getD qq undef = v) (hdf : a.defers = []) (hR : R (.returned (.tuple #[.agg xs.toArray, v])) w) : bodyPost P fn R .ret a w := by
  have hr : (results fn a.tmps).run P w = .ok (.tuple #[.agg xs.toArray, v]) w := by
    have hp' : a.tmps[p]?.getD undef = .pointer (some ⟨g, 0, none⟩) := by simpa using hp
    have hq' : a.tmps[qq]?.getD undef = v := by simpa using hq
    have hl := run_loadVar_row (P := P) w g T ty xs.toArray (0, 0) d hA hu hd (by simpa using hi)
    simp [results, h, hp', hq', asAddr, hl]
  exact bodyPost_ret hr hdf hR

theorem sv_zero (S : Nat → Prop) (w : World) : SV S w JV.zero [.int .i64 0, .string ⟨#[]⟩, .int .u64 0, .slice none 0 0, .slice none 0 0] := by
  unfold JV.zero SV
  exact ⟨none, 0, none, 0, rfl, by omega, ⟨⟨by simp, by omega, fun _ => rfl, fun h => by simp at h⟩, fun h => by simp at h⟩, ⟨by simp, by omega⟩, fun _ => rfl, fun h => by simp at h⟩

set_option maxRecDepth 100000 in
set_option maxHeartbeats 1600000 in
theorem Get_any (v : JV) (cs : List Value) (key : List UInt8) (w : World) (h : PV w v cs) (hf : fewV v 1099511627776) :
    Calls Tryd.prog 13 #[.agg cs.toArray, .string (bstr key)] w fun e w' => ∃ cx, e = .returned (.tuple #[.agg cx.toArray, .bool (getF v key).isSome]) ∧ SV (fun x => w.heap.size ≤ x) w' ((getF v key).getD JV.zero) cx ∧ Below w.heap.size w w' := by
  obtain ⟨k, s, n, l, ks⟩ := v
  unfold PV at h
  obtain ⟨a, c, b, d, rfl, ⟨hk0, hk1, hn⟩, hks, ⟨hlc, hcb⟩, hac, hl⟩ := h
  unfold fewV at hf
  obtain ⟨hf1, hf2, hf3⟩ := hf
  have hR0 := Arr.new (w.alloc (.cells #[.int .i64 k, .string (bstr s), .int .u64 (n : Int), .slice a l.length c, .slice b ks.length d] 30)) 30 [.int .i64 0, .string ⟨#[]⟩, .int .u64 0, .slice none 0 0, .slice none 0 0]
  rw [World.size_alloc] at hR0
  have hB0 : Below w.heap.size w ((w.alloc (.cells #[.int .i64 k, .string (bstr s), .int .u64 (n : Int), .slice a l.length c, .slice b ks.length d] 30)).alloc (.cells #[.int .i64 0, .string ⟨#[]⟩, .int .u64 0, .slice none 0 0, .slice none 0 0] 30)) := ((Below.refl _ _).alloc (Nat.le_refl _) _).alloc (by simp) _
  have hli : l.length ≤ 9223372036854775807 := by omega
  have hki : ks.length ≤ 9223372036854775807 := by omega
  have hz : getF (.mk k s n l ks) key = none → ∀ W, SV (fun x => w.heap.size ≤ x) W ((getF (.mk k s n l ks) key).getD JV.zero) [.int .i64 0, .string ⟨#[]⟩, .int .u64 0, .slice none 0 0, .slice none 0 0] := fun e W => by rw [e]; exact sv_zero _ _
  by_cases h6 : k = 6
  · subst h6
    by_cases hll : ks.length = l.length
    · have hix : Hid (∀ W, Below w.heap.size w W → Calls Tryd.prog 25 #[.slice b ks.length d, .string (bstr key)] W fun e w' => e = .returned (.int .i64 (idxI (idxF ks key))) ∧ w' = W) := fun W hW => index_any ks b d key W (hks.to hW)
      have hlli : (ks.length : Int) = (l.length : Int) := by omega
      cases hi : idxF ks key with
      | none =>
        have hg : Hid (getF (.mk 6 s n l ks) key = none) := by show _ = _; rw [getF_eq, if_pos ⟨rfl, hll⟩, hi]; rfl
        rw [hi] at hix
        have HZ := Lib.hid (hz hg.out)
        have hgs : Hid ((getF (.mk 6 s n l ks) key).isSome = false) := by show _ = _; rw [hg.out]; rfl
        rw [hgs.out]
        generalize (getF (.mk 6 s n l ks) key).getD JV.zero = gv at *
        clear hz hg hgs hi hll hks hl
        go_enter Tryd.func13, Tryd.ntmps13
        go_wp2_with (go_at_call 25; refine (hix.out _ hB0).mono ?_; rintro e w2 ⟨rfl, rfl⟩; simp only [idxI])
        refine end_cell2 rfl (w.heap.size + 1) 30 _ _ _ rfl hR0 Tryd.underlying30 rfl (by kernel_rfl) rfl rfl ⟨_, rfl, HZ.out _, hB0⟩
      | some i =>
        have hil := idx_lt ks key i hi
        obtain ⟨x, hx⟩ : ∃ x, l[i]? = some x := ⟨_, List.getElem?_eq_getElem (by omega)⟩
        have hg : Hid (getF (.mk 6 s n l ks) key = some x) := by show _ = _; rw [getF_eq, if_pos ⟨rfl, hll⟩, hi]; exact hx
        rw [hi] at hix
        have hgs : Hid ((getF (.mk 6 s n l ks) key).isSome = true) := by show _ = _; rw [hg.out]; rfl
        rw [hgs.out]
        have hgv : Hid ((getF (.mk 6 s n l ks) key).getD JV.zero = x) := by show _ = _; rw [hg.out]; rfl
        rw [hgv.out]
        obtain ⟨ab, ao, rfl, hab, hpl⟩ := hl (by omega)
        obtain ⟨cx, hcx, hcx2, hpx⟩ := pl_at l ab ao i x hpl hx
        have hfx := few_at l _ i x hf3 hx
        have hpx2 := hpx
        obtain ⟨xk, xs', xn, xl, xks⟩ := x
        unfold PV at hpx2
        obtain ⟨xa, xc, xb, xd, rfl, hxk, hxs, hxc, hxa, hxl2⟩ := hpx2
        unfold fewV at hfx
        have hic : i < c := by omega
        have hili : (i : Int) < (l.length : Int) := by omega
        have hil2 : i < l.length := by omega
        have hi63 : i ≤ 9223372036854775807 := by omega
        have hcall : Hid (∀ W B, B = W.heap.size → Below w.heap.size w W → Calls Tryd.prog 26 #[.agg #[.int .i64 xk, .string (bstr xs'), .int .u64 (xn : Int), .slice xa xl.length xc, .slice xb xks.length xd], .map (some B)] (W.alloc (.map #[] 0)) fun e w' => ∃ cs, e = .returned (.agg cs.toArray) ∧ SV (fun x => W.heap.size ≤ x) w' (.mk xk xs' xn xl xks) cs ∧ Below w.heap.size w w' ∧ (∀ G xs, Arr W G 30 xs → Arr w' G 30 xs)) := fun W B hBB hW => by
          subst hBB
          have hW2 : Below w.heap.size w (W.alloc (.map #[] 0)) := hW.alloc hW.size _
          have hk2 : CellsKept w (W.alloc (.map #[] 0)) := CellsKept.of_below hW2
          refine (fresh_of xk xs' xn xl xks xa xb xc xd (W.alloc (.map #[] 0)) W.heap.size [] hxk (hxs.keep hk2) (by omega) (MapR.new W) (fun V hV hMV => ?_)).mono ?_
          · have hkV : CellsKept w V := hk2.trans (ck_gb (MapR.new (G := GPlace) W) hV)
            refine freshList_all _ xl xa xc V _ [] (Nat.le_refl _) hxc (fun h => ?_) hfx.1 hfx.2.2 hMV (by intro q hq; cases hq)
            obtain ⟨bb, off, e, h1, h2⟩ := hxl2 h
            exact ⟨bb, off, e, hkV.plain bb h1, pl_keep hkV xl bb off h2⟩
          · rintro e w' ⟨cs, h1, h2, -, h4⟩
            have hsz : (W.alloc (.map #[] 0)).heap.size = W.heap.size + 1 := by simp
            refine ⟨cs, h1, sv_to (fun b hb _ => ?_) (S := fun x => (W.alloc (.map #[] 0)).heap.size ≤ x) (fun b _ _ => rfl) _ _ h2, hW2.grown h4 (by rw [hsz]; have := hW.size; omega) (fun k hk => by cases hk; exact hW.size), fun G xs hA => ?_⟩
            · omega
            · have := hA.lt
              exact (hA.kept ((Below.refl _ _).alloc (Nat.le_refl _) _)).grown h4 (by intro e; cases e; omega)
        have z := fun (j : Nat) (v : Value) (h : [Value.int .i64 xk, .string (bstr xs'), .int .u64 (xn : Int), .slice xa xl.length xc, .slice xb xks.length xd][j]? = some v) (hj : j < 5) => (CellsKept.of_below hB0).cell ((hcx2 j hj).trans h)
        have qc0 := (congrArg (fun o => World.cell? _ ⟨ab, o, none⟩) (show ao + i * 5 = ao + (5 * i + 0) by omega)).trans (z 0 _ rfl (by omega))
        have qc1 := (congrArg (fun o => World.cell? _ ⟨ab, o, none⟩) (show ao + i * 5 + 1 = ao + (5 * i + 1) by omega)).trans (z 1 _ rfl (by omega))
        have qc2 := (congrArg (fun o => World.cell? _ ⟨ab, o, none⟩) (show ao + i * 5 + 2 = ao + (5 * i + 2) by omega)).trans (z 2 _ rfl (by omega))
        have qc3 := (congrArg (fun o => World.cell? _ ⟨ab, o, none⟩) (show ao + i * 5 + 3 = ao + (5 * i + 3) by omega)).trans (z 3 _ rfl (by omega))
        have qc4 := (congrArg (fun o => World.cell? _ ⟨ab, o, none⟩) (show ao + i * 5 + 4 = ao + (5 * i + 4) by omega)).trans (z 4 _ rfl (by omega))
        have hmm : ∀ (w : World), (Instr.makeMap 64 none).run Tryd.prog w = .ok (.map (some w.heap.size)) (w.alloc (.map #[] 0)) := fun w => by
          simp [Instr.makeMap, Result.andThen]
        have HIL := Lib.hid hil2
        clear hz hg hgs hgv hi hll hks hl hil hx hpl hab hcx hcx2 hpx hfx hxk hxs hxc hxa hxl2 z hf1 hf2 hf3 hac
        go_enter Tryd.func13, Tryd.ntmps13
        go_wp2_with (go_at_call 25; refine (hix.out _ hB0).mono ?_; rintro e w2 ⟨rfl, rfl⟩; simp only [idxI])
        go_wp2_with (first
          | (go_at_call 26; refine (hcall.out _ _ (by simp) hB0).mono ?_; rintro e W9 ⟨cs9, rfl, hs9, hB9, hk9⟩; have hR9 := hk9 _ _ hR0)
          | ((with_reducible show wpList _ _ _ (⟨none, _, _, _, _, _⟩ :: _) _ _); refine wl_store rfl 30 _ _ rfl (w.heap.size + 1) 0 rfl cs9 rfl 30 _ hR9 (by rw [sv_len hs9]; kernel_rfl) (by rw [sv_len hs9]; simp) (pv_one_cell (sv_pv _ _ hs9)) ?_; intro W10 hR10 hg10 hs10))
        rw [whole_store _ _ (by rw [sv_len hs9]; rfl)] at hR10
        refine end_cell2 rfl (w.heap.size + 1) 30 _ _ _ rfl hR10 Tryd.underlying30 rfl (by rw [sv_len hs9]; kernel_rfl) rfl rfl ⟨cs9, rfl, ?_, hB9.grown hg10 hB9.size (fun k hk => by cases hk; omega)⟩
        refine sv_to (fun b hb _ => ?_) (Stay.of_grown hg10 (fun k hk => ?_)) _ _ hs9
        · simp at hb
          omega
        · cases hk
          simp
    · have hg : getF (.mk 6 s n l ks) key = none := by rw [getF_eq, if_neg (fun h => hll h.2)]
      have HZ := Lib.hid (hz hg)
      have hgs : Hid ((getF (.mk 6 s n l ks) key).isSome = false) := by show _ = _; rw [hg]; rfl
      rw [hgs.out]
      generalize (getF (.mk 6 s n l ks) key).getD JV.zero = gv at *
      have hne : ((ks.length : Int) == (l.length : Int)) = false := beq_eq_false_iff_ne.2 (by omega)
      clear hz hg hgs hll hks hl
      go_enter Tryd.func13, Tryd.ntmps13
      go_wp2
      refine end_cell2 rfl (w.heap.size + 1) 30 _ _ _ rfl hR0 Tryd.underlying30 rfl (by kernel_rfl) rfl rfl ⟨_, rfl, HZ.out _, hB0⟩
  · have hg : getF (.mk k s n l ks) key = none := by rw [getF_eq, if_neg (fun h => h6 h.1)]
    have HZ := Lib.hid (hz hg)
    have hgs : Hid ((getF (.mk k s n l ks) key).isSome = false) := by show _ = _; rw [hg]; rfl
    rw [hgs.out]
    generalize (getF (.mk k s n l ks) key).getD JV.zero = gv at *
    have hne : (k == 6) = false := beq_eq_false_iff_ne.2 h6
    clear hz hg hgs h6 hks hl
    go_enter Tryd.func13, Tryd.ntmps13
    go_wp2
    refine end_cell2 rfl (w.heap.size + 1) 30 _ _ _ rfl hR0 Tryd.underlying30 rfl (by kernel_rfl) rfl rfl ⟨_, rfl, HZ.out _, hB0⟩
end Go.Proofs.YtiadfijeglbdlaaDoor

namespace Go.Proofs.YtiadfijeglbdlaaDoor
open Go.RowKit

mutual
theorem pv_sv {w : World} : ∀ (v : JV) (cs : List Value), PV w v cs → SV (fun b => b < w.heap.size) w v cs
  | .mk k s n l ks, cs, h => by
    unfold PV at h
    unfold SV
    obtain ⟨a, c, a', c', e, hk, hs, h1, h2, h3⟩ := h
    refine ⟨a, c, a', c', e, hk, ⟨hs, fun h0 => ?_⟩, h1, h2, fun h0 => ?_⟩
    · obtain ⟨b, off, e1, e2, _⟩ := hs.mem h0
      exact ⟨b, off, e1, e2⟩
    · obtain ⟨b, off, e1, e2, e3⟩ := h3 h0
      exact ⟨b, off, e1, e2.lt, e2, pl_sl l b off e3⟩
theorem pl_sl {w : World} : ∀ (l : List JV) (b off : Nat), PL w l b off → SL (fun b => b < w.heap.size) w l b off
  | [], _, _, _ => by unfold SL; trivial
  | v :: r, b, off, h => by
    unfold PL at h
    unfold SL
    obtain ⟨⟨cs, h1, h2, h3⟩, h4⟩ := h
    exact ⟨⟨cs, h1, h2, pv_sv v cs h3⟩, pl_sl r b (off + 5) h4⟩
end

mutual
/-- how many lists there are in a value, its own counted -/
def wtV : JV → Nat
  | .mk _ _ _ l _ => 1 + wtS l
def wtS : List JV → Nat
  | [] => 0
  | v :: r => wtV v + wtS r
end
theorem wtS_eq (l : List JV) : 1 + wtS l = wtV (.mk 0 [] 0 l []) := by unfold wtV; rfl
theorem wtV_list (x : JV) : wtV x = 1 + wtS x.list := by obtain ⟨k, s, n, l, ks⟩ := x; unfold wtV; rfl
theorem wtS_drop : ∀ (l : List JV) (i : Nat) (x : JV), l[i]? = some x → wtS (l.drop i) = wtV x + wtS (l.drop (i + 1))
  | [], _, _, h => by simp at h
  | v :: r, 0, x, h => by
    cases h
    show wtS (v :: r) = _
    rw [wtS]
    rfl
  | v :: r, i + 1, x, h => wtS_drop r i x (by simpa using h)

/-- pairs of lists -/
abbrev LP := List JV × List JV
def wtP (st : List LP) : Nat := (st.map fun p => 1 + wtS p.1).sum
theorem wtP_len : ∀ (st : List LP), st.length ≤ wtP st
  | [] => by simp [wtP]
  | p :: r => by
    have := wtP_len r
    simp only [wtP, List.map_cons, List.sum_cons, List.length_cons] at this ⊢
    omega
theorem wtP_snoc (st : List LP) (p : LP) : wtP (st ++ [p]) = wtP st + (1 + wtS p.1) := by simp [wtP]

/-- all that is in a pair is alike, and what is further in was met -/
def DoneP (p : LP) (ms : List LP) : Prop := p.1.length = p.2.length ∧ ∀ (i : Nat) (x y : JV), p.1[i]? = some x → p.2[i]? = some y → alikeF x y = true ∧ (x.list, y.list) ∈ ms
theorem DoneP.mono {p : LP} {ms ms' : List LP} (h : DoneP p ms) (hm : ∀ q ∈ ms, q ∈ ms') : DoneP p ms' := ⟨h.1, fun i x y hx hy => ⟨(h.2 i x y hx hy).1, hm _ (h.2 i x y hx hy).2⟩⟩
theorem alike_iff (x y : JV) : alikeF x y = true ↔ (x.kind = y.kind ∧ x.str = y.str ∧ x.num = y.num ∧ x.keys = y.keys ∧ x.list.length = y.list.length) := by
  obtain ⟨k, s, n, l, ks⟩ := x
  obtain ⟨k', s', n', l', ks'⟩ := y
  unfold alikeF
  simp only [Bool.and_eq_true, decide_eq_true_eq]
  constructor
  · rintro ⟨⟨⟨⟨h1, h2⟩, h3⟩, h4⟩, h5⟩; exact ⟨h1, h2, h3, h4, h5⟩
  · rintro ⟨h1, h2, h3, h4, h5⟩; exact ⟨⟨⟨⟨h1, h2⟩, h3⟩, h4⟩, h5⟩
theorem done_same {ms : List LP} (p0 : LP) (h0 : DoneP p0 ms) (h : ∀ p ∈ ms, DoneP p ms) : p0.1 = p0.2 := by
  have key : ∀ (N : Nat) (p : LP), SizeOf.sizeOf p.1 ≤ N → DoneP p ms → p.1 = p.2 := by
    intro N
    induction N with
    | zero => intro p hp; exfalso; cases h : p.1 <;> rw [h] at hp <;> simp at hp
    | succ N ih =>
      intro p hp hd
      apply List.ext_getElem hd.1
      intro i h1 h2
      obtain ⟨e1, e2⟩ := hd.2 i _ _ (List.getElem?_eq_getElem h1) (List.getElem?_eq_getElem h2)
      rw [alike_iff] at e1
      have hmem := List.sizeOf_lt_of_mem (List.getElem_mem h1)
      have e3 := ih _ (by
        generalize p.1[i] = x at hmem ⊢
        obtain ⟨k, s, n, l, ks⟩ := x
        simp only [JV.mk.sizeOf_spec] at hmem
        show SizeOf.sizeOf l ≤ N
        omega) (h _ e2)
      generalize p.1[i] = x at e1 e3
      generalize p.2[i] = y at e1 e3
      obtain ⟨k, s, n, l, ks⟩ := x
      obtain ⟨k', s', n', l', ks'⟩ := y
      obtain ⟨f1, f2, f3, f4, -⟩ := e1
      have f5 : l = l' := e3
      cases f1
      cases f2
      cases f3
      cases f4
      rw [f5]
  exact key _ p0 (Nat.le_refl _) h0

/-- where a list lies -/
def PlW (S : Nat → Prop) (w : World) (l : List JV) (p : Option Addr) (n : Int) : Prop :=
  n = (l.length : Int) ∧ ((l = [] ∧ p = none) ∨ ∃ b off, p = some ⟨b, off, none⟩ ∧ S b ∧ PlainB w b ∧ SL S w l b off)
theorem PlW.one {S : Nat → Prop} {w : World} {l l' : List JV} {p : Option Addr} {n : Int} (h : PlW S w l p n) (h' : PlW S w l' p n) : l = l' := by
  obtain ⟨h1, h2⟩ := h
  obtain ⟨h1', h2'⟩ := h'
  rcases h2 with ⟨rfl, rfl⟩ | ⟨b, off, rfl, -, -, hl⟩
  · rcases h2' with ⟨rfl, -⟩ | ⟨b, off, e, -⟩
    · rfl
    · cases e
  · rcases h2' with ⟨-, e⟩ | ⟨b', off', e, -, -, hl'⟩
    · cases e
    · cases e
      exact pl_one l l' b off (sl_pl _ _ _ hl) (sl_pl _ _ _ hl') (by omega)
theorem PlW.to' {S : Nat → Prop} {w w' : World} {l : List JV} {p : Option Addr} {n : Int} (h : PlW S w l p n) (hb : Stay S w w') : PlW S w' l p n := by
  obtain ⟨h1, h2⟩ := h
  refine ⟨h1, h2.imp id ?_⟩
  rintro ⟨b, off, e, e0, e1, e2⟩
  exact ⟨b, off, e, e0, hb.plain e0 e1, sl_to (fun _ h _ => h) hb l b off e0 e2⟩
/-- a key of met, and the pair that it stands for -/
def KeyP (S : Nat → Prop) (w : World) (key : Value) (p : LP) : Prop := ∃ a n b m, key = .agg #[.pointer a, .int .i64 n, .pointer b, .int .i64 m] ∧ PlW S w p.1 a n ∧ PlW S w p.2 b m
theorem KeyP.one {S : Nat → Prop} {w : World} {key : Value} {p p' : LP} (h : KeyP S w key p) (h' : KeyP S w key p') : p = p' := by
  obtain ⟨a, n, b, m, rfl, h1, h2⟩ := h
  obtain ⟨a', n', b', m', e, h1', h2'⟩ := h'
  simp only [Value.agg.injEq, Array.mk.injEq, List.cons.injEq, Value.pointer.injEq, Value.int.injEq, true_and, and_true] at e
  obtain ⟨rfl, rfl, rfl, rfl⟩ := e
  exact Prod.ext (h1.one h1') (h2.one h2')
theorem KeyP.to' {S : Nat → Prop} {w w' : World} {key : Value} {p : LP} (h : KeyP S w key p) (hb : Stay S w w') : KeyP S w' key p := by
  obtain ⟨a, n, b, m, e, h1, h2⟩ := h
  exact ⟨a, n, b, m, e, h1.to' hb, h2.to' hb⟩
/-- what met holds -/
structure MetP (S : Nat → Prop) (w : World) (ps : List (Value × Value)) (ms : List LP) : Prop where
  unit : ∀ q ∈ ps, q.2 = .agg #[]
  key : ∀ q ∈ ps, ∃ p ∈ ms, KeyP S w q.1 p
  all : ∀ p ∈ ms, ∃ q ∈ ps, KeyP S w q.1 p
theorem MetP.to' {S : Nat → Prop} {w w' : World} {ps : List (Value × Value)} {ms : List LP} (h : MetP S w ps ms) (hb : Stay S w w') : MetP S w' ps ms :=
  ⟨h.unit, fun q hq => by obtain ⟨p, hp, hk⟩ := h.key q hq; exact ⟨p, hp, hk.to' hb⟩, fun p hp => by obtain ⟨q, hq, hk⟩ := h.all p hp; exact ⟨q, hq, hk.to' hb⟩⟩

/-- two cells that are a pair -/
def PairC (S : Nat → Prop) (w : World) (p : LP) (x y : Value) : Prop := ∃ a c b d, x = .slice a p.1.length c ∧ y = .slice b p.2.length d ∧ SLi S w p.1 a c ∧ SLi S w p.2 b d
theorem PairC.to' {S : Nat → Prop} {w w' : World} {p : LP} {x y : Value} (h : PairC S w p x y) (hb : Stay S w w') : PairC S w' p x y := by
  obtain ⟨a, c, b, d, h1, h2, h3, h4⟩ := h
  exact ⟨a, c, b, d, h1, h2, h3.to' (fun _ h _ => h) hb, h4.to' (fun _ h _ => h) hb⟩
/-- the row of what is open -/
def OpenR (S : Nat → Prop) (G : Nat) (w : World) (v : Value) (st : List LP) : Prop :=
  ∃ xs, w.ownsRow G 76 2 v st.length xs ∧ ∀ j p, st[j]? = some p → ∃ x y, xs[2 * j]? = some x ∧ xs[2 * j + 1]? = some y ∧ PairC S w p x y
theorem OpenR.to' {S : Nat → Prop} {G : Nat} {w w' : World} {v : Value} {st : List LP} (h : OpenR S G w v st) (hg : ∀ k, v.ownBlock = some k → w'.heap[k]? = w.heap[k]?) (hb : Stay S w w') : OpenR S G w' v st := by
  obtain ⟨xs, ho, hp⟩ := h
  refine ⟨xs, ?_, fun j p hj => ?_⟩
  · obtain ⟨h1, h2 | ⟨g, cap, cur, rfl, h3, h4, h5⟩⟩ := ho
    · exact ⟨h1, .inl h2⟩
    · exact ⟨h1, .inr ⟨g, cap, cur, rfl, h3, (hg g rfl).trans h4, h5⟩⟩
  · obtain ⟨x, y, e1, e2, e3⟩ := hp j p hj
    exact ⟨x, y, e1, e2, e3.to' hb⟩

theorem PlW.ptr {S : Nat → Prop} {w : World} {l : List JV} {p : Option Addr} {n : Int} (h : PlW S w l p n) : PtrOK w p := by
  rcases h.2 with ⟨-, e⟩ | ⟨b, off, e, -, h1, -⟩
  · exact .inl e
  · exact .inr ⟨b, off, e, h1⟩
theorem KeyP.both {S : Nat → Prop} {w : World} {key : Value} {p : LP} (h : KeyP S w key p) : GBoth w key := by
  obtain ⟨a, n, b, m, e, h1, h2⟩ := h
  exact ⟨a, n, b, m, e, h1.ptr, h2.ptr⟩
theorem mapr_met {S : Nat → Prop} {w w' : World} {B : Nat} {ps : List (Value × Value)} {ms : List LP} (h : MapR GBoth w B ps) (hm : MetP S w ps ms) (hs : Stay S w w') (hb : w'.heap[B]? = w.heap[B]?) : MapR GBoth w' B ps := by
  have hk : ∀ q ∈ ps, GBoth w' q.1 := fun q hq => by
    obtain ⟨p, -, hp⟩ := hm.key q hq
    exact (hp.to' hs).both
  obtain ⟨es, clock, h1, h2, h3⟩ := h
  exact ⟨es, clock, hb.trans h1, h2, hk⟩
theorem OpenR.below {S : Nat → Prop} {G : Nat} {w w' : World} {v : Value} {st : List LP} (h : OpenR S G w v st) (hb : Below w.heap.size w w') : OpenR S G w' v st :=
  h.to' (fun k hk => hb.block k (by obtain ⟨xs, ho, -⟩ := h; exact (World.ownsRow.lt ho k hk).2)) (Stay.of_below hb)
theorem OpenR.lo {S : Nat → Prop} {G : Nat} {w : World} {v : Value} {st : List LP} (h : OpenR S G w v st) : ∀ k, v.ownBlock = some k → G ≤ k ∧ k < w.heap.size := by obtain ⟨xs, ho, -⟩ := h; exact World.ownsRow.lt ho
theorem MetP.snoc {S : Nat → Prop} {w : World} {ps : List (Value × Value)} {ms : List LP} (h : MetP S w ps ms) {key : Value} {p : LP} (hk : KeyP S w key p) : MetP S w (ps ++ [(key, .agg #[])]) (ms ++ [p]) := by
  refine ⟨fun q hq => ?_, fun q hq => ?_, fun r hr => ?_⟩
  · rcases List.mem_append.1 hq with hq | hq
    · exact h.unit q hq
    · rw [List.mem_singleton.1 hq]
  · rcases List.mem_append.1 hq with hq | hq
    · obtain ⟨r, hr, e⟩ := h.key q hq
      exact ⟨r, List.mem_append_left _ hr, e⟩
    · rw [List.mem_singleton.1 hq]
      exact ⟨p, by simp, hk⟩
  · rcases List.mem_append.1 hr with hr | hr
    · obtain ⟨q, hq, e⟩ := h.all r hr
      exact ⟨q, List.mem_append_left _ hq, e⟩
    · rw [List.mem_singleton.1 hr]
      exact ⟨_, List.mem_append_right _ (List.mem_singleton.2 rfl), hk⟩

/-- one pair more is open -/
theorem wl_append_o {ops : Array Oper} {rest : List Oper} {o : Oper} {a : Act} {Q : Exit → Act → World → Prop} {w : World} (hgd : o.guard = none) (d s : Operand) (ho : o.op = .call { callee := .builtin .append, args := #[d, s], argTypes := #[77, 77] })
    (S : Nat → Prop) (G : Nat) (v : Value) (st : List LP) (hO : OpenR S G w v st) (hd : a.eval d = v) (ad : Addr) (p : LP) (x y : Value) (hs : a.eval s = .slice (some ad) 1 1) (hc : ∀ j u, [x, y][j]? = some u → w.cell? (ad.add j) = some u)
    (hp : PairC S w p x y) (hlen : st.length + 1 ≤ 2147483648) (hS : ∀ k, S k → k < G) (hG : G ≤ w.heap.size) (N : Nat) (A B : Value) (hN : Arr w N 76 [A, B]) (hNv : ∀ k, v.ownBlock = some k → k ≠ N) (hxA : x ≠ A)
    (hK : ∀ v' w', OpenR S G w' v' (st ++ [p]) → w.grownBy w' v.ownBlock → Stay S w w' → (∀ k, v'.ownBlock = some k → k ≠ N) → wpList Tryd.prog ops Q rest (a.put o.dst v') w') : wpList Tryd.prog ops Q (o :: rest) a w := by
  obtain ⟨xs, hown, hps⟩ := hO
  obtain ⟨i0, hi, hz0, hz1, hz2⟩ := info_parts (show (Tryd.prog.info? 76).map (fun i => (i.zero, i.size, i.bytes)) = some (some (.agg #[.slice none 0 0, .slice none 0 0]), 2, 48) by kernel_rfl)
  have hone : ∀ u ∈ [x, y], u.oneCell' = true := by
    obtain ⟨a1, c1, b1, d1, rfl, rfl, -⟩ := hp
    simp [Value.oneCell']
  have hb := World.ownsRow.lt hown
  refine wpList_append_own w hgd d s 77 ho G 76 i0 _ 2 48 Tryd.underlying77 hi hz0 hz1 hz2 rfl (by decide) v _ _ hd hown ad 1 1 [x, y] hs rfl hc hone (by unfold maxLen; omega) (by omega) hG ?_
  intro v' w' h1 h2 _
  have hst : Stay S w w' := Stay.of_grown h2 (fun k hk h => by have := hS k h; have := (hb k hk).1; omega)
  refine hK v' w' ⟨xs ++ [x, y], by rw [List.length_append, List.length_singleton]; exact h1, fun j q hq => ?_⟩ h2 hst (fun k hk e => ?_)
  rotate_left
  · subst e
    have hNN := h2.block k hN.lt (fun e => hNv k e.symm rfl)
    obtain ⟨hl1, hl2 | ⟨g, cap, cur, hv, hg, hc6, hn, hm, hcs, hct⟩⟩ := h1
    · rw [hl2.1] at hk; cases hk
    · rw [hv] at hk
      cases hk
      rw [hNN, show w.heap[g]? = _ from hN] at hc6
      simp only [Option.some.injEq, Obj.cells.injEq, and_true] at hc6
      subst hc6
      simp at hcs
      have hcap : cap = 1 := by omega
      have hst0 : st.length = 0 := by omega
      have hxs0 : xs = [] := List.eq_nil_of_length_eq_zero (by rw [hown.1, hst0])
      subst hxs0
      rw [hst0] at hct
      simp at hct
      exact hxA hct.1.symm
  have hxl := hown.1
  by_cases hj : j < st.length
  · rw [List.getElem?_append_left hj] at hq
    obtain ⟨x1, y1, e1, e2, e3⟩ := hps j q hq
    exact ⟨x1, y1, by rw [List.getElem?_append_left (by omega)]; exact e1, by rw [List.getElem?_append_left (by omega)]; exact e2, e3.to' hst⟩
  · have hj2 : j = st.length := by
      have := (List.getElem?_eq_some_iff.1 hq).1
      rw [List.length_append, List.length_singleton] at this
      omega
    subst hj2
    rw [List.getElem?_append_right (Nat.le_refl _), Nat.sub_self] at hq
    cases hq
    exact ⟨x, y, by rw [List.getElem?_append_right (by omega), show 2 * st.length - xs.length = 0 by omega]; rfl, by rw [List.getElem?_append_right (by omega), show 2 * st.length + 1 - xs.length = 1 by omega]; rfl, hp.to' hst⟩
end Go.Proofs.YtiadfijeglbdlaaDoor

namespace Go.Proofs.YtiadfijeglbdlaaDoor
open Go.RowKit

structure InvSame (xk1 : Int) (xs1 : List UInt8) (xn1 : Nat) (xa1 : Option Addr) (xl1 : List JV) (xc1 : Nat) (xb1 : Option Addr) (xks1 : List (List UInt8)) (xd1 : Nat) (yk1 : Int) (ys1 : List UInt8) (yn1 : Nat) (ya1 : Option Addr) (yl1 : List JV) (yc1 : Nat) (yb1 : Option Addr) (yks1 : List (List UInt8)) (yd1 : Nat) (xp yp : Option Addr) (NX NY : Nat) (w11 : World) (L : Nat → Bool) (v52 v53 v54 v55 v56 v57 v58 v11 : Value) (wx : World) : Prop where
  t0 : L 0 = true → v52 = .pointer (some ⟨NX, 3, none⟩)
  t1 : L 1 = true → v53 = .slice xa1 xl1.length xc1
  t2 : L 2 = true → v54 = .agg #[.pointer xp, .int .i64 (xl1.length : Int)]
  t3 : L 3 = true → v55 = .pointer (some ⟨NY, 3, none⟩)
  t4 : L 4 = true → v56 = .slice ya1 yl1.length yc1
  t5 : L 5 = true → v57 = .agg #[.pointer yp, .int .i64 (yl1.length : Int)]
  t6 : L 6 = true → v58 = .agg #[.pointer xp, .int .i64 (xl1.length : Int), .pointer yp, .int .i64 (yl1.length : Int)]
  t7 : L 7 = true → ∃ G zs, v11 = .pointer (some ⟨G, 0, none⟩) ∧ w11.heap.size ≤ G ∧ Arr wx G 82 zs ∧ zs.length = 4 ∧ (L 8 = true → zs = [.pointer xp, .int .i64 (xl1.length : Int), .pointer yp, .int .i64 (yl1.length : Int)])
  aX : Arr wx NX 30 [Value.int .i64 xk1, .string (bstr xs1), .int .u64 (xn1 : Int), .slice xa1 xl1.length xc1, .slice xb1 xks1.length xd1]
  aY : Arr wx NY 30 [Value.int .i64 yk1, .string (bstr ys1), .int .u64 (yn1 : Int), .slice ya1 yl1.length yc1, .slice yb1 yks1.length yd1]
  bl : Below w11.heap.size w11 wx

set_option maxRecDepth 100000 in
set_option maxHeartbeats 4000000 in
theorem Same_any (v v' : JV) (cs cs' : List Value) (w : World) (h : PV w v cs) (h' : PV w v' cs') (hwt : wtV v ≤ 1073741824) :
    Calls Tryd.prog 22 #[.agg cs.toArray, .agg cs'.toArray] w fun e w' => e = .returned (.bool (sameF v v')) ∧ Below w.heap.size w w' := by
  have hmm : ∀ (w : World), (Instr.makeMap 75 none).run Tryd.prog w = .ok (.map (some w.heap.size)) (w.alloc (.map #[] 0)) := fun w => by
    simp [Instr.makeMap, Result.andThen]
  have h0 := Lib.hid h
  have h0' := Lib.hid h'
  obtain ⟨xk, xs, xn, xa, xl, xc, xb, xm, xd, rfl⟩ := pv_shape h
  obtain ⟨yk, ys, yn, ya, yl, yc, yb, ym, yd, rfl⟩ := pv_shape h'
  clear h h'
  obtain ⟨R, hR⟩ : ∃ R, R = sameF v v' := ⟨_, rfl⟩
  rw [← hR]
  have HR := Lib.hid hR
  clear hR
  go_enter Tryd.func22, Tryd.ntmps22
  go_upto_region 3 with fail
  obtain ⟨W3, hW3⟩ : ∃ W3, W3 = ((w.alloc (.cells #[.int .i64 xk, .string xs, .int .u64 xn, .slice xa xl xc, .slice xb xm xd] 30)).alloc (.cells #[.int .i64 yk, .string ys, .int .u64 yn, .slice ya yl yc, .slice yb ym yd] 30)).alloc (.map #[] 0) := ⟨_, rfl⟩
  rw [← hW3]
  obtain ⟨g, hg⟩ : ∃ g, g = w.heap.size := ⟨_, rfl⟩
  have z3 : W3.heap.size = g + 3 := by rw [hW3, hg]; simp
  have hB3 : Below w.heap.size w W3 := by rw [hW3]; exact (((Below.refl _ _).alloc (Nat.le_refl _) _).alloc (by simp) _).alloc (by simp; omega) _
  have hM3 : MapR GBoth W3 (g + 2) [] := by
    have := MapR.new (G := GBoth) ((w.alloc (.cells #[.int .i64 xk, .string xs, .int .u64 xn, .slice xa xl xc, .slice xb xm xd] 30)).alloc (.cells #[.int .i64 yk, .string ys, .int .u64 yn, .slice ya yl yc, .slice yb ym yd] 30))
    rw [← hW3] at this
    rw [hg]
    simpa using this
  obtain ⟨W6, hW6⟩ : ∃ W6, W6 = ((W3.alloc (.cells #[.int .i64 xk, .string xs, .int .u64 xn, .slice xa xl xc, .slice xb xm xd] 30)).alloc (.cells #[.int .i64 yk, .string ys, .int .u64 yn, .slice ya yl yc, .slice yb ym yd] 30)).alloc (.cells #[.slice (some ⟨g + 3, 0, none⟩) 1 1, .slice (some ⟨g + 4, 0, none⟩) 1 1] 76) := ⟨_, rfl⟩
  have hP4 := Arr.new W3 30 [.int .i64 xk, .string xs, .int .u64 xn, .slice xa xl xc, .slice xb xm xd]
  have hQ5 := Arr.new (W3.alloc (.cells #[.int .i64 xk, .string xs, .int .u64 xn, .slice xa xl xc, .slice xb xm xd] 30)) 30 [.int .i64 yk, .string ys, .int .u64 yn, .slice ya yl yc, .slice yb ym yd]
  have hS6 := Arr.new ((W3.alloc (.cells #[.int .i64 xk, .string xs, .int .u64 xn, .slice xa xl xc, .slice xb xm xd] 30)).alloc (.cells #[.int .i64 yk, .string ys, .int .u64 yn, .slice ya yl yc, .slice yb ym yd] 30)) 76 [.slice (some ⟨g + 3, 0, none⟩) 1 1, .slice (some ⟨g + 4, 0, none⟩) 1 1]
  have hP6 : Arr W6 (g + 3) 30 [.int .i64 xk, .string xs, .int .u64 xn, .slice xa xl xc, .slice xb xm xd] := by
    rw [hW6, ← z3]
    exact (hP4.kept ((Below.refl _ _).alloc (Nat.le_refl _) _)).kept ((Below.refl _ _).alloc (Nat.le_refl _) _)
  have hQ6 : Arr W6 (g + 4) 30 [.int .i64 yk, .string ys, .int .u64 yn, .slice ya yl yc, .slice yb ym yd] := by
    have := hQ5.kept ((Below.refl _ _).alloc (Nat.le_refl _) (.cells #[.slice (some ⟨g + 3, 0, none⟩) 1 1, .slice (some ⟨g + 4, 0, none⟩) 1 1] 76))
    rw [World.size_alloc, z3] at this
    rw [hW6]
    exact this
  have hR6 : Arr W6 (g + 5) 76 [.slice (some ⟨g + 3, 0, none⟩) 1 1, .slice (some ⟨g + 4, 0, none⟩) 1 1] := by
    rw [World.size_alloc, World.size_alloc, z3] at hS6
    rw [hW6]
    exact hS6
  have hB36 : Below W3.heap.size W3 W6 := by rw [hW6]; exact (((Below.refl _ _).alloc (Nat.le_refl _) _).alloc (by simp) _).alloc (by simp; omega) _
  have hB6 : Below w.heap.size w W6 := hB3.trans (hB36.mono (by omega))
  have hM6 : MapR GBoth W6 (g + 2) [] := hM3.below both_ok hB36
  obtain ⟨S, hS⟩ : ∃ S : Nat → Prop, S = fun x => x < g + 5 ∧ x ≠ g + 2 := ⟨_, rfl⟩
  have hsv : SV S W6 v [.int .i64 xk, .string xs, .int .u64 xn, .slice xa xl xc, .slice xb xm xd] := sv_to (fun b hb _ => by rw [hS]; exact ⟨by omega, by omega⟩) (Stay.of_below hB6) _ _ (hg ▸ pv_sv v _ h0.out)
  have hsv' : SV S W6 v' [.int .i64 yk, .string ys, .int .u64 yn, .slice ya yl yc, .slice yb ym yd] := sv_to (fun b hb _ => by rw [hS]; exact ⟨by omega, by omega⟩) (Stay.of_below hB6) _ _ (hg ▸ pv_sv v' _ h0'.out)
  have hO6 : OpenR S (g + 5) W6 (.slice (some ⟨g + 5, 0, none⟩) 1 1) [([v], [v'])] := by
    refine ⟨[.slice (some ⟨g + 3, 0, none⟩) 1 1, .slice (some ⟨g + 4, 0, none⟩) 1 1], ⟨rfl, .inr ⟨g + 5, 1, _, rfl, Nat.le_refl _, hR6, Nat.le_refl _, by unfold maxLen; omega, rfl, rfl⟩⟩, fun j p hj => ?_⟩
    match j, hj with
    | 0, hj =>
      cases hj
      refine ⟨_, _, rfl, rfl, some ⟨g + 3, 0, none⟩, 1, some ⟨g + 4, 0, none⟩, 1, rfl, rfl, ⟨⟨by simp, by omega⟩, (by intro e; cases e), fun _ => ⟨g + 3, 0, rfl, by rw [hS]; exact ⟨by omega, by omega⟩, ⟨_, _, hP6⟩, ?_⟩⟩, ⟨⟨by simp, by omega⟩, (by intro e; cases e), fun _ => ⟨g + 4, 0, rfl, by rw [hS]; exact ⟨by omega, by omega⟩, ⟨_, _, hQ6⟩, ?_⟩⟩⟩
      · unfold SL
        exact ⟨⟨_, rfl, fun j hj => by rw [hP6.cell, Nat.zero_add], hsv⟩, by unfold SL; trivial⟩
      · unfold SL
        exact ⟨⟨_, rfl, fun j hj => by rw [hQ6.cell, Nat.zero_add], hsv'⟩, by unfold SL; trivial⟩
  have hlt6 : Hid (g + 5 < W6.heap.size) := hR6.lt
  rw [← hg, show g + 1 + 1 = g + 2 by omega, show g + 2 + 1 = g + 3 by omega, show g + 3 + 1 = g + 4 by omega, show g + 4 + 1 = g + 5 by omega, ← hW6]
  have HG := Lib.hid hg
  have HS := Lib.hid hS
  have HWT := Lib.hid hwt
  clear hW3 hg z3 hB3 hM3 hW6 hP4 hQ5 hS6 hP6 hQ6 hR6 hB36 hS hsv hsv' hwt
  go_loopg [6] (wtV v + 2) (fun gk vo wr => ∃ (st ms : List LP) (ps : List (Value × Value)), OpenR S (g + 5) wr vo st ∧ MapR GBoth wr (g + 2) ps ∧ Hid (MetP S wr ps ms) ∧ Hid (Below w.heap.size w wr) ∧ Hid (g + 5 < wr.heap.size) ∧ wtP st < gk ∧ Hid (wtP st ≤ 1073741825) ∧ Hid (v = v' → ∀ p ∈ st, p.1 = p.2) ∧ Hid (∀ p ∈ st, p.1.length = p.2.length) ∧ Hid (∀ p, p ∈ ms ∨ p = ([v], [v']) → p ∈ st ∨ DoneP p ms))
  case atStart =>
    have hw1 : wtP [([v], [v'])] = wtV v + 1 := by simp [wtP, wtS]; omega
    exact ⟨[([v], [v'])], [], [], hO6, hM6, ⟨fun q hq => (by cases hq), fun q hq => (by cases hq), fun p hp => (by cases hp)⟩, hB6, hlt6, by omega, (by show _ ≤ _; have := HWT.out; omega), fun e p hp => by
      obtain rfl := List.mem_singleton.1 hp
      rw [e], fun p hp => by
      obtain rfl := List.mem_singleton.1 hp
      rfl, fun p hp => by
      rcases hp with hp | hp
      · cases hp
      · exact .inl (by rw [hp]; simp)⟩
  case round =>
    clear hO6 hM6 hB6 hlt6
    obtain ⟨st, ms, ps, hO, hM, hMet, hB, hgl, hgk, hwb, hI1, hI2, hI3⟩ := hrel
    rcases List.eq_nil_or_concat st with rfl | ⟨st0, pr, rfl⟩
    · have HF : Hid (R = true) := by
        show _ = _
        rw [HR.out, same_eq]
        have hd := done_same (ms := ms) ([v], [v']) ((hI3.out _ (.inr rfl)).resolve_left (by simp)) (fun p hp => (hI3.out p (.inl hp)).resolve_left (by simp))
        simpa using hd
      obtain ⟨xs6, ⟨-, hv | ⟨g6, c6, cur, rfl, -⟩⟩, -⟩ := hO
      · obtain ⟨rfl, -⟩ := hv
        go_wp2
        go_ret
        exact ⟨by rw [HF.out]; rfl, hB.out⟩
      · go_wp2
        go_ret
        exact ⟨by rw [HF.out]; rfl, hB.out⟩
    · obtain ⟨la, lb⟩ := pr
      rw [List.concat_eq_append] at *
      obtain ⟨xs6, ⟨hx1, hv | ⟨g6, c6, cur, rfl, hg6, hc6, hn6, hm6, hcs, hct⟩⟩, hps⟩ := hO
      · exact absurd hv.2 (by simp)
      obtain ⟨X, Y, hX, hY, a, c, b, d, rfl, rfl, hla, hlb⟩ := hps st0.length (la, lb) (by simp)
      rw [List.length_append, List.length_singleton] at *
      have HCT := Lib.hid hct
      have HC6 := Lib.hid hc6
      have q0 : wr.cell? ⟨g6, st0.length * 2, none⟩ = some (.slice a la.length c) := by
        rw [cell_of_row _ g6 _ _ 76 (0, 0) hc6]
        rw [← hct, List.getElem?_take_of_lt (by omega)] at hX
        rw [← Array.getElem?_toList, Nat.mul_comm]
        exact hX
      have q1 : wr.cell? ⟨g6, st0.length * 2 + 1, none⟩ = some (.slice b lb.length d) := by
        rw [cell_of_row _ g6 _ _ 76 (0, 0) hc6]
        rw [← hct, List.getElem?_take_of_lt (by omega)] at hY
        rw [← Array.getElem?_toList, Nat.mul_comm]
        exact hY
      have hnb : Hid (st0.length + 1 ≤ 1073741825) := by show _ ≤ _; have := wtP_len (st0 ++ [(la, lb)]); have := hwb.out; simp at *; omega
      have hs1 : st0.length ≤ 9223372036854775806 := by have := hnb.out; omega
      have hs2 : st0.length < c6 := by omega
      clear hct hx1
      go_upto_region 6 with fail
      have hv7 : Hid (∀ k, (Value.slice (some ⟨g6, 0, none⟩) st0.length c6).ownBlock = some k → k ≠ wr.heap.size) := fun k hk => by
        cases hk
        have := (Array.getElem?_eq_some_iff.1 hc6).1
        show g6 ≠ _
        omega
      have hl2 : Hid (la.length = lb.length) := hI2.out (la, lb) (by simp)
      have hN7 := Arr.new wr 76 [.slice a la.length c, .slice b lb.length d]
      have hb7 : Below wr.heap.size wr (wr.alloc (.cells [.slice a la.length c, .slice b lb.length d].toArray 76)) := (Below.refl _ _).alloc (Nat.le_refl _) _
      have hO7 : OpenR S (g + 5) (wr.alloc (.cells [.slice a la.length c, .slice b lb.length d].toArray 76)) (.slice (some ⟨g6, 0, none⟩) st0.length c6) st0 := by
        refine OpenR.to' ⟨xs6.take (st0.length * 2), ⟨?_, .inr ⟨g6, c6, cur, rfl, hg6, HC6.out, by omega, hm6, hcs, ?_⟩⟩, fun j p hj => ?_⟩ (fun k hk => hb7.block k ?_) (Stay.of_below hb7)
        · have hcl : cur.toList.length = c6 * 2 := by rw [Array.length_toList]; exact hcs
          rw [← HCT.out, List.take_take, List.length_take, hcl]
          omega
        · rw [← HCT.out, List.take_take]
          congr 1
          omega
        · have hjl := (List.getElem?_eq_some_iff.1 hj).1
          obtain ⟨x, y, e1, e2, e3⟩ := hps j p (by rw [List.getElem?_append_left hjl]; exact hj)
          exact ⟨x, y, by rw [List.getElem?_take_of_lt (by omega)]; exact e1, by rw [List.getElem?_take_of_lt (by omega)]; exact e2, e3⟩
        · cases hk
          exact (Array.getElem?_eq_some_iff.1 HC6.out).1
      have hM7 := hM.below both_ok hb7
      have hMet7 := hMet.out.to' (Stay.of_below (S := S) hb7)
      have hB7 := hB.out.trans (hb7.mono hB.out.size)
      have hgl7 : Hid (g + 5 < (wr.alloc (.cells [.slice a la.length c, .slice b lb.length d].toArray 76)).heap.size) := Nat.lt_of_lt_of_le hgl.out hb7.size
      have hla7 := hla.to' (S' := S) (fun _ h _ => h) (Stay.of_below hb7)
      have hlb7 := hlb.to' (S' := S) (fun _ h _ => h) (Stay.of_below hb7)
      have hN0 : Hid (g + 5 < wr.heap.size) := hgl
      have hwt7 : wtP st0 + wtS la + 1 < gk := by have := hgk; rw [wtP_snoc] at this; simp at this; omega
      have hwb7 : Hid (wtP st0 + wtS la + 1 ≤ 1073741825) := by show _ ≤ _; have := hwb.out; rw [wtP_snoc] at this; simp at this; omega
      have hJ1 : Hid (v = v' → la = lb) := fun e => hI1.out e (la, lb) (by simp)
      have hK1 : Hid (v = v' → ∀ p ∈ st0, p.1 = p.2) := fun e p hp => hI1.out e p (by simp [hp])
      have hK2 : Hid (∀ p ∈ st0, p.1.length = p.2.length) := fun p hp => hI2.out p (by simp [hp])
      have hK3 : Hid (∀ p, p ∈ ms ∨ p = ([v], [v']) → p ∈ st0 ∨ DoneP p ms ∨ p = (la, lb)) := fun p hp => by
        rcases hI3.out p hp with h | h
        · rcases List.mem_append.1 h with h | h
          · exact .inl h
          · exact .inr (.inr (List.mem_singleton.1 h))
        · exact .inr (.inl h)
      have u0 := (hN7.cell 0).trans (show _ = some (Value.slice a la.length c) from rfl)
      generalize wr.alloc (.cells [.slice a la.length c, .slice b lb.length d].toArray 76) = W7 at *
      generalize hNN : wr.heap.size = N at *
      have hcl : la.length ≤ 9223372036854775807 := Nat.le_trans hla.1.1 hla.1.2
      have hdl : lb.length ≤ 9223372036854775807 := Nat.le_trans hlb.1.1 hlb.1.2
      have hlac : Hid (la.length ≤ c) := hla.1.1
      have hlbd : Hid (lb.length ≤ d) := hlb.1.1
      clear hM hMet hB hgl hgk hwb hI1 hI2 hI3 hX hY hps hla hlb q0 q1 hb7 hnb hNN HCT HC6 hg6 hn6 hm6 hcs hs1 hs2 hc6
      go_upto_region 7 with fail
      clear u0
      go_loopw [6, 38] (fun vo i wr => ∃ (m : Nat) (st ms : List LP) (ps : List (Value × Value)), m ≤ la.length ∧ i = .int .i64 m ∧ OpenR S (g + 5) wr vo st ∧ MapR GBoth wr (g + 2) ps ∧ Hid (MetP S wr ps ms) ∧ Hid (Below w.heap.size w wr) ∧ Hid (g + 5 < wr.heap.size) ∧ Arr wr N 76 [.slice a la.length c, .slice b lb.length d] ∧ Hid (SLi S wr la a c) ∧ Hid (SLi S wr lb b d) ∧
        wtP st + wtS (la.drop m) + 1 < gk ∧ Hid (wtP st + wtS (la.drop m) + 1 ≤ 1073741825) ∧ Hid (v = v' → ∀ p ∈ st, p.1 = p.2) ∧ Hid (∀ p ∈ st, p.1.length = p.2.length) ∧ Hid (∀ p, p ∈ ms ∨ p = ([v], [v']) → p ∈ st ∨ DoneP p ms ∨ p = (la, lb)) ∧ Hid (∀ j x y, j < m → la[j]? = some x → lb[j]? = some y → alikeF x y = true ∧ (x.list, y.list) ∈ ms) ∧ Hid (∀ k, vo.ownBlock = some k → k ≠ N)) (fun _ i _ => la.length - (intOf i).toNat)
      case atStart => exact ⟨0, st0, ms, ps, by omega, rfl, hO7, hM7, hMet7, hB7, hgl7, hN7, hla7, hlb7, hwt7, hwb7, hK1, hK2, hK3, fun j x y hj => by omega, hv7⟩
      case round =>
        clear hO7 hM7 hMet7 hB7 hgl7 hN7 hla7 hlb7 hwt7 hwb7 hK1 hK2 hK3 hv7
        obtain ⟨m, st, ms, ps, hm, rfl, hO, hM, hMet, hB, hgl, hN, hla, hlb, hgk, hwb, hI1, hI2, hI3, hE, hvN⟩ := hrel
        by_cases hlt : m < la.length
        · have hc : (m : Int) < (la.length : Int) := by omega
          obtain ⟨ab, ao, rfl, hab, hap, hal⟩ := hla.out.2.2 (by omega)
          obtain ⟨bb, bo, rfl, hbb, hbp, hbl⟩ := hlb.out.2.2 (by have := hl2.out; omega)
          obtain ⟨x, hx⟩ : ∃ x, la[m]? = some x := ⟨_, List.getElem?_eq_getElem hlt⟩
          obtain ⟨y, hy⟩ : ∃ y, lb[m]? = some y := ⟨_, List.getElem?_eq_getElem (by have := hl2.out; omega)⟩
          obtain ⟨cx, hcx, hcx2, hsx⟩ := sl_at la ab ao m x hal hx
          obtain ⟨cy, hcy, hcy2, hsy⟩ := sl_at lb bb bo m y hbl hy
          have hsx2 := hsx
          have hsy2 := hsy
          obtain ⟨xk1, xs1, xn1, xl1, xks1⟩ := x
          obtain ⟨yk1, ys1, yn1, yl1, yks1⟩ := y
          unfold SV at hsx2 hsy2
          obtain ⟨xa1, xc1, xb1, xd1, rfl, -, -, hxl⟩ := hsx2
          obtain ⟨ya1, yc1, yb1, yd1, rfl, -, -, hyl⟩ := hsy2
          have HXL : Hid (SLi S wr xl1 xa1 xc1) := hxl
          have HYL : Hid (SLi S wr yl1 ya1 yc1) := hyl
          have hmc : m < c := by have := hlac.out; omega
          have hmd : m < d := by have := hlbd.out; have := hl2.out; omega
          have hmlb : (m : Int) < (lb.length : Int) := by have := hl2.out; omega
          have z := fun (j : Nat) (v : Value) (h : [Value.int .i64 xk1, .string (bstr xs1), .int .u64 (xn1 : Int), .slice xa1 xl1.length xc1, .slice xb1 xks1.length xd1][j]? = some v) (hj : j < 5) => (hcx2 j hj).trans h
          have z' := fun (j : Nat) (v : Value) (h : [Value.int .i64 yk1, .string (bstr ys1), .int .u64 (yn1 : Int), .slice ya1 yl1.length yc1, .slice yb1 yks1.length yd1][j]? = some v) (hj : j < 5) => (hcy2 j hj).trans h
          have xc0 : wr.cell? ⟨ab, ao + m * 5, none⟩ = some (.int .i64 xk1) := by rw [show ao + m * 5 = ao + (5 * m + 0) by omega]; exact z 0 _ rfl (by omega)
          have xc1' : wr.cell? ⟨ab, ao + m * 5 + 1, none⟩ = some (.string (bstr xs1)) := by rw [show ao + m * 5 + 1 = ao + (5 * m + 1) by omega]; exact z 1 _ rfl (by omega)
          have xc2 : wr.cell? ⟨ab, ao + m * 5 + 2, none⟩ = some (.int .u64 (xn1 : Int)) := by rw [show ao + m * 5 + 2 = ao + (5 * m + 2) by omega]; exact z 2 _ rfl (by omega)
          have xc3 : wr.cell? ⟨ab, ao + m * 5 + 3, none⟩ = some (.slice xa1 xl1.length xc1) := by rw [show ao + m * 5 + 3 = ao + (5 * m + 3) by omega]; exact z 3 _ rfl (by omega)
          have xc4 : wr.cell? ⟨ab, ao + m * 5 + 4, none⟩ = some (.slice xb1 xks1.length xd1) := by rw [show ao + m * 5 + 4 = ao + (5 * m + 4) by omega]; exact z 4 _ rfl (by omega)
          go_upto_region 9 with fail
          have hAX := Arr.new wr 30 [Value.int .i64 xk1, .string (bstr xs1), .int .u64 (xn1 : Int), .slice xa1 xl1.length xc1, .slice xb1 xks1.length xd1]
          have hbX : Below wr.heap.size wr (wr.alloc (.cells [Value.int .i64 xk1, .string (bstr xs1), .int .u64 (xn1 : Int), .slice xa1 xl1.length xc1, .slice xb1 xks1.length xd1].toArray 30)) := (Below.refl _ _).alloc (Nat.le_refl _) _
          have hNX := hN.kept hbX
          have hck := CellsKept.of_below hbX
          have yc0 : (wr.alloc (.cells [Value.int .i64 xk1, .string (bstr xs1), .int .u64 (xn1 : Int), .slice xa1 xl1.length xc1, .slice xb1 xks1.length xd1].toArray 30)).cell? ⟨bb, bo + m * 5, none⟩ = some (.int .i64 yk1) := by rw [show bo + m * 5 = bo + (5 * m + 0) by omega]; exact hck.cell (z' 0 _ rfl (by omega))
          have yc1' : (wr.alloc (.cells [Value.int .i64 xk1, .string (bstr xs1), .int .u64 (xn1 : Int), .slice xa1 xl1.length xc1, .slice xb1 xks1.length xd1].toArray 30)).cell? ⟨bb, bo + m * 5 + 1, none⟩ = some (.string (bstr ys1)) := by rw [show bo + m * 5 + 1 = bo + (5 * m + 1) by omega]; exact hck.cell (z' 1 _ rfl (by omega))
          have yc2 : (wr.alloc (.cells [Value.int .i64 xk1, .string (bstr xs1), .int .u64 (xn1 : Int), .slice xa1 xl1.length xc1, .slice xb1 xks1.length xd1].toArray 30)).cell? ⟨bb, bo + m * 5 + 2, none⟩ = some (.int .u64 (yn1 : Int)) := by rw [show bo + m * 5 + 2 = bo + (5 * m + 2) by omega]; exact hck.cell (z' 2 _ rfl (by omega))
          have yc3 : (wr.alloc (.cells [Value.int .i64 xk1, .string (bstr xs1), .int .u64 (xn1 : Int), .slice xa1 xl1.length xc1, .slice xb1 xks1.length xd1].toArray 30)).cell? ⟨bb, bo + m * 5 + 3, none⟩ = some (.slice ya1 yl1.length yc1) := by rw [show bo + m * 5 + 3 = bo + (5 * m + 3) by omega]; exact hck.cell (z' 3 _ rfl (by omega))
          have yc4 : (wr.alloc (.cells [Value.int .i64 xk1, .string (bstr xs1), .int .u64 (xn1 : Int), .slice xa1 xl1.length xc1, .slice xb1 xks1.length xd1].toArray 30)).cell? ⟨bb, bo + m * 5 + 4, none⟩ = some (.slice yb1 yks1.length yd1) := by rw [show bo + m * 5 + 4 = bo + (5 * m + 4) by omega]; exact hck.cell (z' 4 _ rfl (by omega))
          have n1 := (hNX.cell 1).trans (show _ = some (Value.slice (some ⟨bb, bo, none⟩) lb.length d) from rfl)
          generalize wr.alloc (.cells [Value.int .i64 xk1, .string (bstr xs1), .int .u64 (xn1 : Int), .slice xa1 xl1.length xc1, .slice xb1 xks1.length xd1].toArray 30) = WX at *
          clear z z' xc0 xc1' xc2 xc3 xc4 hcx hcy hcx2 hcy2 hck
          go_upto_region 10 with fail
          have hAY := Arr.new WX 30 [Value.int .i64 yk1, .string (bstr ys1), .int .u64 (yn1 : Int), .slice ya1 yl1.length yc1, .slice yb1 yks1.length yd1]
          have hbY : Below WX.heap.size WX (WX.alloc (.cells [Value.int .i64 yk1, .string (bstr ys1), .int .u64 (yn1 : Int), .slice ya1 yl1.length yc1, .slice yb1 yks1.length yd1].toArray 30)) := (Below.refl _ _).alloc (Nat.le_refl _) _
          have hAX2 := hAX.kept hbY
          have hNY := hNX.kept hbY
          have hbXY : Below wr.heap.size wr (WX.alloc (.cells [Value.int .i64 yk1, .string (bstr ys1), .int .u64 (yn1 : Int), .slice ya1 yl1.length yc1, .slice yb1 yks1.length yd1].toArray 30)) := hbX.trans (hbY.mono hbX.size)
          generalize WX.alloc (.cells [Value.int .i64 yk1, .string (bstr ys1), .int .u64 (yn1 : Int), .slice ya1 yl1.length yc1, .slice yb1 yks1.length yd1].toArray 30) = WY at *
          generalize hNXe : wr.heap.size = NX at *
          generalize hNYe : WX.heap.size = NY at *
          clear yc0 yc1' yc2 yc3 yc4 n1 hAX hNX
          have HNX := Lib.hid hNXe
          have hal : Hid (Calls Tryd.prog 32 #[.agg #[Value.int .i64 xk1, .string (bstr xs1), .int .u64 (xn1 : Int), .slice xa1 xl1.length xc1, .slice xb1 xks1.length xd1], .agg #[Value.int .i64 yk1, .string (bstr ys1), .int .u64 (yn1 : Int), .slice ya1 yl1.length yc1, .slice yb1 yks1.length yd1]] WY fun e w' => e = .returned (.bool (alikeF (.mk xk1 xs1 xn1 xl1 xks1) (.mk yk1 ys1 yn1 yl1 yks1))) ∧ Below WY.heap.size WY w') := by
            subst hNXe
            exact alike_any _ _ _ _ WY (rv_to hbXY _ _ (pv_rv _ _ (sv_pv _ _ hsx))) (rv_to hbXY _ _ (pv_rv _ _ (sv_pv _ _ hsy)))
          have x0 := (hAX2.cell 0).trans (show _ = some (Value.int .i64 xk1) from rfl)
          have x1 := (hAX2.cell 1).trans (show _ = some (Value.string (bstr xs1)) from rfl)
          have x2 := (hAX2.cell 2).trans (show _ = some (Value.int .u64 (xn1 : Int)) from rfl)
          have x3 := (hAX2.cell 3).trans (show _ = some (Value.slice xa1 xl1.length xc1) from rfl)
          have x4 := (hAX2.cell 4).trans (show _ = some (Value.slice xb1 xks1.length xd1) from rfl)
          have y0 := (hAY.cell 0).trans (show _ = some (Value.int .i64 yk1) from rfl)
          have y1 := (hAY.cell 1).trans (show _ = some (Value.string (bstr ys1)) from rfl)
          have y2 := (hAY.cell 2).trans (show _ = some (Value.int .u64 (yn1 : Int)) from rfl)
          have y3 := (hAY.cell 3).trans (show _ = some (Value.slice ya1 yl1.length yc1) from rfl)
          have y4 := (hAY.cell 4).trans (show _ = some (Value.slice yb1 yks1.length yd1) from rfl)
          have HX := Lib.hid hx
          have HY := Lib.hid hy
          have hgX : Hid (g + 5 < NX) := HNX.out ▸ hgl.out
          have hgY : Hid (g + 5 < NY) := by show _ < _; have h1 := hgX.out; have h2 := hbX.size; omega
          have hBXY : Hid (Below w.heap.size w WY) := hB.out.trans (hbXY.mono (by have := HNX.out; have := hB.out.size; omega))
          clear hNXe hNYe hx hy hsx hsy hxl hyl
          cases hav : alikeF (.mk xk1 xs1 xn1 xl1 xks1) (.mk yk1 ys1 yn1 yl1 yks1) with
          | false =>
            have HF : Hid (R = false) := by
              show _ = _
              rw [HR.out]
              cases hs : sameF v v' with
              | false => rfl
              | true =>
                have e := hJ1.out ((same_eq v v').1 hs)
                have h1 := HX.out
                have h2 := HY.out
                rw [e] at h1
                rw [h1] at h2
                cases h2
                rw [(alike_iff _ _).2 ⟨rfl, rfl, rfl, rfl, rfl⟩] at hav
                cases hav
            rw [hav] at hal
            clear hav
            go_wp2_with (go_at_call 32; refine hal.out.mono ?_; rintro e w11 ⟨rfl, hb11⟩)
            go_ret
            exact ⟨by rw [HF.out]; rfl, hBXY.out.trans (hb11.mono hBXY.out.size)⟩
          | true =>
            have HAL := Lib.hid hav
            rw [hav] at hal
            clear hav
            go_upto_region 12 with (go_at_call 32; refine hal.out.mono ?_; rintro e w11 ⟨rfl, hb11⟩)
            have hA11 := hAX2.kept hb11
            have hY11 := hAY.kept hb11
            have hN11 := hNY.kept hb11
            have hB11 := hBXY.out.trans (hb11.mono hBXY.out.size)
            have hbX11 : Hid (Below NX wr w11) := by have h1 := HNX.out; show Below NX wr w11; exact hbXY.trans (hb11.mono (by rw [← h1]; exact Nat.le_trans (Nat.le_refl _) (hbXY.size)))
            clear x0 x1 x2 x3 x4 y0 y1 y2 y3 y4 hal hb11 hAX2 hAY hNY hbXY hbX hbY
            have x3 := (hA11.cell 3).trans (show _ = some (Value.slice xa1 xl1.length xc1) from rfl)
            have y3 := (hY11.cell 3).trans (show _ = some (Value.slice ya1 yl1.length yc1) from rfl)
            obtain ⟨xp, hxp, hxpl⟩ : ∃ xp, placeV xa1 xl1.length = .agg #[.pointer xp, .int .i64 (xl1.length : Int)] ∧ PlW S wr xl1 xp (xl1.length : Int) := by
              unfold placeV
              by_cases e0 : xl1.length = 0
              · exact ⟨none, by rw [if_pos e0, e0]; rfl, rfl, .inl ⟨List.eq_nil_of_length_eq_zero e0, rfl⟩⟩
              · obtain ⟨b1, o1, e1, e2, e3, e4⟩ := HXL.out.2.2 (by omega)
                exact ⟨xa1, by rw [if_neg e0], rfl, .inr ⟨b1, o1, e1, e2, e3, e4⟩⟩
            obtain ⟨yp, hyp, hypl⟩ : ∃ yp, placeV ya1 yl1.length = .agg #[.pointer yp, .int .i64 (yl1.length : Int)] ∧ PlW S wr yl1 yp (yl1.length : Int) := by
              unfold placeV
              by_cases e0 : yl1.length = 0
              · exact ⟨none, by rw [if_pos e0, e0]; rfl, rfl, .inl ⟨List.eq_nil_of_length_eq_zero e0, rfl⟩⟩
              · obtain ⟨b1, o1, e1, e2, e3, e4⟩ := HYL.out.2.2 (by omega)
                exact ⟨ya1, by rw [if_neg e0], rfl, .inr ⟨b1, o1, e1, e2, e3, e4⟩⟩
            have hpx : Hid (∀ W, Calls Tryd.prog 33 #[.slice xa1 xl1.length xc1] W fun e w' => e = .returned (.agg #[.pointer xp, .int .i64 (xl1.length : Int)]) ∧ Below W.heap.size W w') := fun W => by
              rw [← hxp]
              exact placeOf_any xa1 xl1.length xc1 W (Nat.le_trans HXL.out.1.1 HXL.out.1.2) (fun h => by obtain ⟨b1, o1, e1, -⟩ := HXL.out.2.2 h; exact ⟨b1, o1, e1⟩)
            have hpy : Hid (∀ W, Calls Tryd.prog 33 #[.slice ya1 yl1.length yc1] W fun e w' => e = .returned (.agg #[.pointer yp, .int .i64 (yl1.length : Int)]) ∧ Below W.heap.size W w') := fun W => by
              rw [← hyp]
              exact placeOf_any ya1 yl1.length yc1 W (Nat.le_trans HYL.out.1.1 HYL.out.1.2) (fun h => by obtain ⟨b1, o1, e1, -⟩ := HYL.out.2.2 h; exact ⟨b1, o1, e1⟩)
            have HXP := Lib.hid hxpl
            have HYP := Lib.hid hypl
            clear hxp hyp hxpl hypl
            have ltX : Hid (NX < w11.heap.size) := hA11.lt
            have ltY : Hid (NY < w11.heap.size) := hY11.lt
            have lX := ltX.out
            have lY := ltY.out
            refine wp_region_steps [[], [0], [1], [], [3], [4, 2], [2, 5], [], [7, 6]] (by kernel_rfl) (by kernel_rfl) (fun L a wx => ∃ v52 v53 v54 v55 v56 v57 v58 v11, a = ⟨#[Value.agg #[Value.int IntKind.i64 xk, Value.string xs, Value.int IntKind.u64 xn, Value.slice xa xl xc, Value.slice xb xm xd], Value.agg #[Value.int IntKind.i64 yk, Value.string ys, Value.int IntKind.u64 yn, Value.slice ya yl yc, Value.slice yb ym yd], Value.pointer (some ⟨g, 0, none⟩), Value.pointer (some ⟨g + 1, 0, none⟩), u4, Value.map (some (g + 2)), u6, Value.pointer (some ⟨N, 0, none⟩), Value.int IntKind.i64 (m : Int), Value.pointer (some ⟨NX, 0, none⟩), Value.pointer (some ⟨NY, 0, none⟩), v11, u12, u13, Value.map (some (g + 2)), Value.agg #[Value.int IntKind.i64 xk, Value.string xs, Value.int IntKind.u64 xn, Value.slice xa xl xc, Value.slice xb xm xd], Value.slice (some ⟨g + 3, 0, none⟩) 1 1, Value.agg #[Value.int IntKind.i64 yk, Value.string ys, Value.int IntKind.u64 yn, Value.slice ya yl yc, Value.slice yb ym yd], Value.slice (some ⟨g + 4, 0, none⟩) 1 1, Value.agg #[Value.slice (some ⟨g + 3, 0, none⟩) 1 1, Value.slice (some ⟨g + 4, 0, none⟩) 1 1], Value.slice (some ⟨g + 5, 0, none⟩) 1 1, Value.slice (some ⟨g6, 0, none⟩) (st0.length + 1) c6, Value.int IntKind.i64 ((st0.length : Int) + 1), Value.bool true, Value.slice (some ⟨g6, 0, none⟩) (st0.length + 1) c6, Value.slice (some ⟨g6, 0, none⟩) (st0.length + 1) c6, Value.int IntKind.i64 ((st0.length : Int) + 1), Value.int IntKind.i64 (st0.length : Int), Value.pointer (some ⟨g6, st0.length * 2, none⟩), Value.agg #[Value.slice (some ⟨ab, ao, none⟩) la.length c, Value.slice (some ⟨bb, bo, none⟩) lb.length d], Value.slice (some ⟨g6, 0, none⟩) (st0.length + 1) c6, Value.slice (some ⟨g6, 0, none⟩) (st0.length + 1) c6, Value.int IntKind.i64 ((st0.length : Int) + 1), Value.int IntKind.i64 (st0.length : Int), Value.slice (some ⟨g6, 0, none⟩) st0.length c6, Value.pointer (some ⟨N, 0, none⟩), Value.slice (some ⟨ab, ao, none⟩) la.length c, Value.int IntKind.i64 (la.length : Int), Value.int IntKind.i64 (m : Int), Value.bool true, Value.int IntKind.i64 (m : Int), Value.pointer (some ⟨ab, ao + m * 5, none⟩), Value.agg #[Value.int IntKind.i64 xk1, Value.string (bstr xs1), Value.int IntKind.u64 (xn1 : Int), Value.slice xa1 xl1.length xc1, Value.slice xb1 xks1.length xd1], Value.pointer (some ⟨N, 1, none⟩), Value.slice (some ⟨bb, bo, none⟩) lb.length d, Value.int IntKind.i64 (m : Int), Value.pointer (some ⟨bb, bo + m * 5, none⟩), Value.agg #[Value.int IntKind.i64 yk1, Value.string (bstr ys1), Value.int IntKind.u64 (yn1 : Int), Value.slice ya1 yl1.length yc1, Value.slice yb1 yks1.length yd1], Value.agg #[Value.int IntKind.i64 xk1, Value.string (bstr xs1), Value.int IntKind.u64 (xn1 : Int), Value.slice xa1 xl1.length xc1, Value.slice xb1 xks1.length xd1], Value.agg #[Value.int IntKind.i64 yk1, Value.string (bstr ys1), Value.int IntKind.u64 (yn1 : Int), Value.slice ya1 yl1.length yc1, Value.slice yb1 yks1.length yd1], Value.bool true, Value.bool false, v52, v53, v54, v55, v56, v57, v58, u59, u60, u61, u62, u63, u64, u65, u66, u67, u68, u69, u70, u71, u72, u73, u74, u75, u76, u77, u78], []⟩ ∧ InvSame xk1 xs1 xn1 xa1 xl1 xc1 xb1 xks1 xd1 yk1 ys1 yn1 ya1 yl1 yc1 yb1 yks1 yd1 xp yp NX NY w11 L v52 v53 v54 v55 v56 v57 v58 v11 wx) ?_ ⟨?_, ?_, ?_, ?_, ?_, ?_, ?_, ?_, ?_, trivial⟩ ?_
            · refine ⟨_, _, _, _, _, _, _, _, rfl, ⟨?_, ?_, ?_, ?_, ?_, ?_, ?_, ?_, hA11.drew, hY11.drew, (Below.refl _ _).drew⟩⟩ <;> (intro h; exact absurd h (by decide))
            · rintro L a wx ⟨v52, v53, v54, v55, v56, v57, v58, v11, rfl, hI⟩ hL hdep hcl K hK
              go_simp
              exact hK _ _ ⟨_, v53, v54, v55, v56, v57, v58, v11, rfl, ⟨fun _ => rfl, hI.t1, hI.t2, hI.t3, hI.t4, hI.t5, hI.t6, hI.t7, hI.aX, hI.aY, hI.bl⟩⟩
            · rintro L a wx ⟨v52, v53, v54, v55, v56, v57, v58, v11, rfl, hI⟩ hL hdep hcl K hK
              obtain rfl := hI.t0 (hdep 0 (by decide))
              have c3 := (hI.aX.cell 3).trans (show _ = some (Value.slice xa1 xl1.length xc1) from rfl)
              go_simp
              exact hK _ _ ⟨_, _, v54, v55, v56, v57, v58, v11, rfl, ⟨hI.t0, fun _ => rfl, hI.t2, hI.t3, hI.t4, hI.t5, hI.t6, hI.t7, hI.aX, hI.aY, hI.bl⟩⟩
            · rintro L a wx ⟨v52, v53, v54, v55, v56, v57, v58, v11, rfl, hI⟩ hL hdep hcl K hK
              obtain rfl := hI.t1 (hdep 1 (by decide))
              go_simp
              refine (hpx.out _).mono ?_
              rintro e w' ⟨rfl, hb⟩
              exact hK _ _ ⟨v52, _, _, v55, v56, v57, v58, v11, rfl, ⟨hI.t0, hI.t1, fun _ => rfl, hI.t3, hI.t4, hI.t5, hI.t6, fun h => (by obtain ⟨G, zs, e1, e2, e3, e4, e5⟩ := hI.t7 h; exact ⟨G, zs, e1, e2, e3.kept hb, e4, e5⟩), hI.aX.kept hb, hI.aY.kept hb, hI.bl.trans (hb.mono hI.bl.size)⟩⟩
            · rintro L a wx ⟨v52, v53, v54, v55, v56, v57, v58, v11, rfl, hI⟩ hL hdep hcl K hK
              go_simp
              exact hK _ _ ⟨v52, v53, v54, _, v56, v57, v58, v11, rfl, ⟨hI.t0, hI.t1, hI.t2, fun _ => rfl, hI.t4, hI.t5, hI.t6, hI.t7, hI.aX, hI.aY, hI.bl⟩⟩
            · rintro L a wx ⟨v52, v53, v54, v55, v56, v57, v58, v11, rfl, hI⟩ hL hdep hcl K hK
              obtain rfl := hI.t3 (hdep 3 (by decide))
              have c3 := (hI.aY.cell 3).trans (show _ = some (Value.slice ya1 yl1.length yc1) from rfl)
              go_simp
              exact hK _ _ ⟨v52, v53, v54, _, _, v57, v58, v11, rfl, ⟨hI.t0, hI.t1, hI.t2, hI.t3, fun _ => rfl, hI.t5, hI.t6, hI.t7, hI.aX, hI.aY, hI.bl⟩⟩
            · rintro L a wx ⟨v52, v53, v54, v55, v56, v57, v58, v11, rfl, hI⟩ hL hdep hcl K hK
              obtain rfl := hI.t4 (hdep 4 (by decide))
              obtain rfl := hI.t2 (hdep 2 (by decide))
              go_simp
              refine (hpy.out _).mono ?_
              rintro e w' ⟨rfl, hb⟩
              exact hK _ _ ⟨v52, v53, _, v55, _, _, v58, v11, rfl, ⟨hI.t0, hI.t1, hI.t2, hI.t3, hI.t4, fun _ => rfl, hI.t6, fun h => (by obtain ⟨G, zs, e1, e2, e3, e4, e5⟩ := hI.t7 h; exact ⟨G, zs, e1, e2, e3.kept hb, e4, e5⟩), hI.aX.kept hb, hI.aY.kept hb, hI.bl.trans (hb.mono hI.bl.size)⟩⟩
            · rintro L a wx ⟨v52, v53, v54, v55, v56, v57, v58, v11, rfl, hI⟩ hL hdep hcl K hK
              obtain rfl := hI.t2 (hdep 2 (by decide))
              obtain rfl := hI.t5 (hdep 5 (by decide))
              go_simp
              exact hK _ _ ⟨v52, v53, _, v55, v56, _, _, v11, rfl, ⟨hI.t0, hI.t1, hI.t2, hI.t3, hI.t4, hI.t5, fun _ => rfl, hI.t7, hI.aX, hI.aY, hI.bl⟩⟩
            · rintro L a wx ⟨v52, v53, v54, v55, v56, v57, v58, v11, rfl, hI⟩ hL hdep hcl K hK
              refine ow_alloc 82 rfl [.pointer none, .int .i64 0, .pointer none, .int .i64 0] 4 (by kernel_rfl) ?_
              intro w' hA hb hs
              exact hK _ _ ⟨v52, v53, v54, v55, v56, v57, v58, _, rfl, ⟨hI.t0, hI.t1, hI.t2, hI.t3, hI.t4, hI.t5, hI.t6, fun _ => ⟨_, _, rfl, hI.bl.size, hA, rfl, fun h => absurd (hcl 8 (by decide) h 7 (by decide)) (by rw [hL]; decide)⟩, hI.aX.kept hb, hI.aY.kept hb, hI.bl.trans (hb.mono hI.bl.size)⟩⟩
            · rintro L a wx ⟨v52, v53, v54, v55, v56, v57, v58, v11, rfl, hI⟩ hL hdep hcl K hK
              obtain rfl := hI.t6 (hdep 6 (by decide))
              obtain ⟨G, zs, rfl, e2, e3, e4, -⟩ := hI.t7 (hdep 7 (by decide))
              refine ow_store 82 _ _ rfl G 0 rfl [.pointer xp, .int .i64 (xl1.length : Int), .pointer yp, .int .i64 (yl1.length : Int)] rfl 82 zs e3 (by kernel_rfl) (by simp [e4]) (by simp [Value.oneCell']) ?_
              intro w' hA hg hs
              rw [whole_store _ _ (by rw [e4]; rfl)] at hA
              exact hK _ _ ⟨v52, v53, v54, v55, v56, v57, _, _, rfl, ⟨hI.t0, hI.t1, hI.t2, hI.t3, hI.t4, hI.t5, hI.t6, fun _ => ⟨G, _, rfl, e2, hA, rfl, fun _ => rfl⟩, hI.aX.grown hg (by intro e; cases e; omega), hI.aY.grown hg (by intro e; cases e; omega), hI.bl.grown hg hI.bl.size (fun k hk => by cases hk; exact e2)⟩⟩
            · rintro a wx ⟨v52, v53, v54, v55, v56, v57, v58, v11, rfl, hI⟩
              obtain rfl := hI.t6 rfl
              obtain rfl := hI.t5 rfl
              obtain rfl := hI.t4 rfl
              obtain rfl := hI.t3 rfl
              obtain rfl := hI.t2 rfl
              obtain rfl := hI.t1 rfl
              obtain rfl := hI.t0 rfl
              obtain ⟨G, zs, rfl, hG1, hG2, -, hG3⟩ := hI.t7 rfl
              obtain rfl := hG3 rfl
              have hAX := hI.aX
              have hAY := hI.aY
              have hbl := hI.bl
              clear hI hA11 hY11 x3 y3
              have hbw : Below wr.heap.size wr wx := by
                have h1 := HNX.out
                rw [h1]
                exact hbX11.out.trans (hbl.mono (Nat.le_of_lt lX))
              have hS : Hid (Stay S wr wx) := Stay.of_below hbw
              have hO2 := hO.below hbw
              have hM2 := hM.below both_ok hbw
              have hMet2 := hMet.out.to' hS.out
              have hKx : Hid (KeyP S wx (.agg #[.pointer xp, .int .i64 (xl1.length : Int), .pointer yp, .int .i64 (yl1.length : Int)]) (xl1, yl1)) := ⟨_, _, _, _, rfl, HXP.out.to' hS.out, HYP.out.to' hS.out⟩
              have hkG := hKx.out.both
              have hN2 := hN11.kept hbl
              have hB2 := hB11.trans (hbl.mono hB11.size)
              have hla2 := hla.out.to' (S' := S) (fun _ h _ => h) hS.out
              have hlb2 := hlb.out.to' (S' := S) (fun _ h _ => h) hS.out
              have hXL2 := HXL.out.to' (S' := S) (fun _ h _ => h) hS.out
              have hYL2 := HYL.out.to' (S' := S) (fun _ h _ => h) hS.out
              have hgl2 : Hid (g + 5 < wx.heap.size) := by show _ < _; have h1 := hgX.out; have h2 := hbw.size; have h3 := HNX.out; omega
              have hwd := wtS_drop la m _ HX.out
              rw [wtV_list] at hwd
              have hwd : wtS (la.drop m) = (1 + wtS xl1) + wtS (la.drop (m + 1)) := hwd
              have hgk2 : wtP st + (1 + wtS xl1) + wtS (la.drop (m + 1)) + 1 < gk := by show _ < _; omega
              have hwb2 : Hid (wtP st + (1 + wtS xl1) + wtS (la.drop (m + 1)) + 1 ≤ 1073741825) := by show _ ≤ _; have h2 := hwb.out; omega
              have HU : Hid (∀ q ∈ ps, q.2 = .agg #[]) := hMet.out.unit
              have HLE : Hid (m + 1 ≤ la.length) := hlt
              have q0 := (hG2.cell 0).trans (show _ = some (Value.pointer xp) from rfl)
              have q1 := (hG2.cell 1).trans (show _ = some (Value.int .i64 (xl1.length : Int)) from rfl)
              have q2 := (hG2.cell 2).trans (show _ = some (Value.pointer yp) from rfl)
              have q3 := (hG2.cell 3).trans (show _ = some (Value.int .i64 (yl1.length : Int)) from rfl)
              have hb13 : Below wx.heap.size wx (wx.alloc (.cells #[] 83)) := (Below.refl _ _).alloc (Nat.le_refl _) _
              have HE2 : Hid (∀ ms' : List LP, (∀ q ∈ ms, q ∈ ms') → (xl1, yl1) ∈ ms' → ∀ j x y, j < m + 1 → la[j]? = some x → lb[j]? = some y → alikeF x y = true ∧ (x.list, y.list) ∈ ms') := fun ms' hms hin j x y hj hx hy => by
                by_cases hjm : j = m
                · subst hjm
                  rw [HX.out] at hx
                  rw [HY.out] at hy
                  cases hx
                  cases hy
                  exact ⟨HAL.out, hin⟩
                · obtain ⟨e1, e2⟩ := hE.out j x y (by omega) hx hy
                  exact ⟨e1, hms _ e2⟩
              have hI1x : Hid (v = v' → xl1 = yl1) := fun e => by
                have e1 := hJ1.out e
                have h1 := HX.out
                have h2 := HY.out
                rw [e1, h2] at h1
                cases h1
                rfl
              clear hbw hO hM hMet hgl hN11 hB11 hla hlb hgk hwb hS hwd hlt hm hab hap hal hbb hbp hbl hE
              by_cases hin : ∃ q ∈ ps, q.1 = .agg #[.pointer xp, .int .i64 (xl1.length : Int), .pointer yp, .int .i64 (yl1.length : Int)]
              · have hmem : Hid ((xl1, yl1) ∈ ms) := by
                  obtain ⟨q, hq, e⟩ := hin
                  obtain ⟨p, hp, hk⟩ := hMet2.key q hq
                  rw [e] at hk
                  rw [hKx.out.one hk]
                  exact hp
                have HIN := Lib.hid hin
                clear hin
                go_wp2_with (at_lookup; refine wl_look_yes both_ok Tryd.underlying75 rfl _ _ rfl (g + 2) ps rfl hM2 _ _ (.agg #[]) rfl hkG (zero_unit _) HIN.out HU.out ?_)
                go_roundw
                case rel => exact ⟨m + 1, st, ms, ps, HLE.out, by go_num, hO2.below hb13, hM2.below both_ok hb13, hMet2.to' (Stay.of_below hb13), hB2.trans (hb13.mono hB2.size), Nat.lt_of_lt_of_le hgl2.out hb13.size, hN2.kept hb13, hla2.to' (fun _ h _ => h) (Stay.of_below hb13), hlb2.to' (fun _ h _ => h) (Stay.of_below hb13), by omega, (by show _ ≤ _; have := hwb2.out; omega), hI1, hI2, hI3, HE2.out ms (fun _ h => h) hmem.out, hvN⟩
                case measure => have := HLE.out; simp [intOf]; omega
              · have HIN : Hid (∀ q ∈ ps, q.1 ≠ .agg #[.pointer xp, .int .i64 (xl1.length : Int), .pointer yp, .int .i64 (yl1.length : Int)]) := fun q hq e => hin ⟨q, hq, e⟩
                clear hin
                go_upto_region 15 with (at_lookup; refine wl_look_no both_ok Tryd.underlying75 rfl _ _ rfl (g + 2) ps rfl hM2 _ _ rfl hkG (zero_unit _) HIN.out ?_)
                have hG13 := hG2.kept hb13
                have hAX13 := (hAX.kept hb13)
                have hAY13 := (hAY.kept hb13)
                have r0 := (hG13.cell 0).trans (show _ = some (Value.pointer xp) from rfl)
                have r1 := (hG13.cell 1).trans (show _ = some (Value.int .i64 (xl1.length : Int)) from rfl)
                have r2 := (hG13.cell 2).trans (show _ = some (Value.pointer yp) from rfl)
                have r3 := (hG13.cell 3).trans (show _ = some (Value.int .i64 (yl1.length : Int)) from rfl)
                have hM13 := hM2.below both_ok hb13
                have hO13 := hO2.below hb13
                have hMet13 := hMet2.to' (Stay.of_below (S := S) hb13)
                have hK13 : Hid (KeyP S (wx.alloc (.cells #[] 83)) _ (xl1, yl1)) := hKx.out.to' (Stay.of_below hb13)
                have hkG13 := hK13.out.both
                have hN13 := hN2.kept hb13
                have hB13 := hB2.trans (hb13.mono hB2.size)
                have hla13 := hla2.to' (S' := S) (fun _ h _ => h) (Stay.of_below hb13)
                have hlb13 := hlb2.to' (S' := S) (fun _ h _ => h) (Stay.of_below hb13)
                have hXL13 := hXL2.to' (S' := S) (fun _ h _ => h) (Stay.of_below hb13)
                have hYL13 := hYL2.to' (S' := S) (fun _ h _ => h) (Stay.of_below hb13)
                have hgl13 : Hid (g + 5 < (wx.alloc (.cells #[] 83)).heap.size) := Nat.lt_of_lt_of_le hgl2.out hb13.size
                generalize wx.alloc (.cells #[] 83) = w13 at *
                clear hG2 hAX hAY q0 q1 q2 q3 hM2 hO2 hMet2 hkG hN2 hB2 hla2 hlb2 hXL2 hYL2 hb13 hbl
                go_upto_region 16 with (at_mapUpdate; refine wl_put_new both_ok Tryd.underlying75 rfl _ _ _ rfl (g + 2) ps rfl hM13 _ (.agg #[]) rfl rfl hkG13 HIN.out ?_; intro w15 hM15 hg15 hs15)
                have hgB := HS.out
                have hs5 : Hid (Stay S w13 w15) := Stay.of_grown hg15 (fun k hk h => by cases hk; rw [hgB] at h; exact h.2 rfl)
                have hO15 := hO13.to' (fun k hk => hg15.block k (hO13.lo k hk).2 (fun e => by cases e; have := (hO13.lo _ hk).1; omega)) hs5.out
                have hMet15 := (hMet13.to' hs5.out).snoc (hK13.out.to' hs5.out)
                have hNg : Hid (g + 5 < N) := hN0
                have hN15 := hN13.grown hg15 (by have := hNg.out; intro e; cases e; omega)
                have hAX15 := hAX13.grown hg15 (by have := hgX.out; intro e; cases e; omega)
                have hAY15 := hAY13.grown hg15 (by have := hgY.out; intro e; cases e; omega)
                have hB15 := hB13.grown hg15 (by have := hB13.size; exact this) (fun k hk => by cases hk; have := HG.out; omega)
                have hla15 := hla13.to' (S' := S) (fun _ h _ => h) hs5.out
                have hlb15 := hlb13.to' (S' := S) (fun _ h _ => h) hs5.out
                have hXL15 := hXL13.to' (S' := S) (fun _ h _ => h) hs5.out
                have hYL15 := hYL13.to' (S' := S) (fun _ h _ => h) hs5.out
                have hgl15 : Hid (g + 5 < w15.heap.size) := by show _ < _; rw [hs15]; exact hgl13.out
                have x3 := (hAX15.cell 3).trans (show _ = some (Value.slice xa1 xl1.length xc1) from rfl)
                have y3 := (hAY15.cell 3).trans (show _ = some (Value.slice ya1 yl1.length yc1) from rfl)
                clear hG13 hAX13 hAY13 r0 r1 r2 r3 hM13 hO13 hMet13 hkG13 hN13 hB13 hla13 hlb13 hXL13 hYL13 hgl13 hg15 hs15 hgB
                have hb16 : Below w15.heap.size w15 (w15.alloc (.cells #[.slice xa1 xl1.length xc1, .slice ya1 yl1.length yc1] 76)) := (Below.refl _ _).alloc (Nat.le_refl _) _
                have hA16 : Arr (w15.alloc (.cells #[.slice xa1 xl1.length xc1, .slice ya1 yl1.length yc1] 76)) w15.heap.size 76 [.slice xa1 xl1.length xc1, .slice ya1 yl1.length yc1] := Arr.new w15 _ _
                have hc16 : Hid (∀ j u, [Value.slice xa1 xl1.length xc1, .slice ya1 yl1.length yc1][j]? = some u → (w15.alloc (.cells #[.slice xa1 xl1.length xc1, .slice ya1 yl1.length yc1] 76)).cell? ((⟨w15.heap.size, 0, none⟩ : Addr).add j) = some u) := fun j u h => by
                  rw [Addr.add_lit, Nat.zero_add, hA16.cell]
                  exact h
                have hs6 : Stay S w15 (w15.alloc (.cells #[.slice xa1 xl1.length xc1, .slice ya1 yl1.length yc1] 76)) := Stay.of_below hb16
                have hp16 : Hid (PairC S (w15.alloc (.cells #[.slice xa1 xl1.length xc1, .slice ya1 yl1.length yc1] 76)) (xl1, yl1) (.slice xa1 xl1.length xc1) (.slice ya1 yl1.length yc1)) := ⟨xa1, xc1, ya1, yc1, rfl, rfl, hXL15.to' (fun _ h _ => h) hs6, hYL15.to' (fun _ h _ => h) hs6⟩
                have hO16 := Lib.hid (hO15.below hb16)
                have hN16 := Lib.hid (hN15.kept hb16)
                have hM16 := Lib.hid (hM15.below both_ok hb16)
                have hMet16 := Lib.hid (hMet15.to' hs6)
                have hB16 := Lib.hid (hB15.trans (hb16.mono hB15.size))
                have hla16 := Lib.hid (hla15.to' (S' := S) (fun _ h _ => h) hs6)
                have hlb16 := Lib.hid (hlb15.to' (S' := S) (fun _ h _ => h) hs6)
                have hgl16 : Hid (g + 5 < (w15.alloc (.cells #[.slice xa1 xl1.length xc1, .slice ya1 yl1.length yc1] 76)).heap.size) := Nat.lt_of_lt_of_le hgl15.out hb16.size
                have hlen16 : Hid (st.length + 1 ≤ 2147483648) := by show _ ≤ _; have h1 := wtP_len st; have h2 := hwb2.out; omega
                have hSG : Hid (∀ k, S k → k < g + 5) := fun k hk => by rw [HS.out] at hk; exact hk.1
                have hxA : Hid (Value.slice xa1 xl1.length xc1 ≠ .slice (some ⟨ab, ao, none⟩) la.length c) := fun e => by
                  simp only [Value.slice.injEq] at e
                  obtain ⟨e1, e2, -⟩ := e
                  have hl0 := HLE.out
                  obtain ⟨b1, o1, e3, -, -, h3⟩ := hXL15.2.2 (by omega)
                  obtain ⟨b2, o2, e4, -, -, h4⟩ := hla15.2.2 (by omega)
                  rw [e1] at e3
                  rw [e3] at e4
                  cases e4
                  have e5 := pl_one xl1 la b1 o1 (sl_pl _ _ _ h3) (sl_pl _ _ _ h4) e2
                  have h5 := List.sizeOf_lt_of_mem (List.mem_of_getElem? HX.out)
                  simp only [JV.mk.sizeOf_spec] at h5
                  rw [e5] at h5
                  omega
                clear hO15 hN15 hM15 hMet15 hB15 hla15 hlb15 hXL15 hYL15 hA16 hs6
                go_wp2_with ((with_reducible show wpList _ _ _ (⟨some 77, _, _, _, _, _⟩ :: _) _ _); go_loud (refine wl_append_o rfl (.tmp 70) (.tmp 76) rfl S (g + 5) u6 st hO16.out rfl ⟨w15.heap.size, 0, none⟩ (xl1, yl1) (.slice xa1 xl1.length xc1) (.slice ya1 yl1.length yc1) rfl hc16.out hp16.out hlen16.out hSG.out (Nat.le_of_lt hgl16.out) N _ _ hN16.out hvN.out hxA.out ?_); intro v17 w17 hO17 hg17 hs17 hv17)
                have hlo := hO16.out.lo
                have hwt9 := wtP_snoc st (xl1, yl1)
                have HW9 : wtP (st ++ [(xl1, yl1)]) = wtP st + (1 + wtS xl1) := hwt9
                go_roundw
                case rel => exact ⟨m + 1, st ++ [(xl1, yl1)], ms ++ [(xl1, yl1)], _, HLE.out, by go_num, hO17, mapr_met hM16.out hMet16.out hs17 (hg17.block (g + 2) (by have := hgl16.out; omega) (fun e => by have := (hlo _ e.symm).1; omega)), hMet16.out.to' hs17, hB16.out.grown hg17 hB16.out.size (fun k hk => by have := (hlo k hk).1; have := HG.out; omega), Nat.lt_of_lt_of_le hgl16.out hg17.size, hN16.out.grown hg17 (fun e => hvN.out N e.symm rfl), hla16.out.to' (fun _ h _ => h) hs17, hlb16.out.to' (fun _ h _ => h) hs17, by omega, (by show _ ≤ _; have := hwb2.out; omega), fun e p hp => by
                  rcases List.mem_append.1 hp with hp | hp
                  · exact hI1.out e p hp
                  · rw [List.mem_singleton.1 hp]
                    exact hI1x.out e, fun p hp => by
                  rcases List.mem_append.1 hp with hp | hp
                  · exact hI2.out p hp
                  · rw [List.mem_singleton.1 hp]
                    exact ((alike_iff _ _).1 HAL.out).2.2.2.2, fun p hp => by
                  have key : p ∈ ms ∨ p = ([v], [v']) ∨ p = (xl1, yl1) := by
                    rcases hp with hp | hp
                    · rcases List.mem_append.1 hp with hp | hp
                      · exact .inl hp
                      · exact .inr (.inr (List.mem_singleton.1 hp))
                    · exact .inr (.inl hp)
                  have step : ∀ q, (q ∈ st ∨ DoneP q ms ∨ q = (la, lb)) → (q ∈ st ++ [(xl1, yl1)] ∨ DoneP q (ms ++ [(xl1, yl1)]) ∨ q = (la, lb)) := fun q h => by
                    rcases h with h | h | h
                    · exact .inl (List.mem_append_left _ h)
                    · exact .inr (.inl (h.mono (fun _ h => List.mem_append_left _ h)))
                    · exact .inr (.inr h)
                  rcases key with h | h | h
                  · exact step p (hI3.out p (.inl h))
                  · exact step p (hI3.out p (.inr h))
                  · exact .inl (by rw [h]; simp), HE2.out _ (fun _ h => List.mem_append_left _ h) (by simp), hv17⟩
                case measure => have := HLE.out; simp [intOf]; omega
        · have hc : ¬ (m : Int) < (la.length : Int) := by omega
          have hml : m = la.length := by omega
          have HD : Hid (DoneP (la, lb) ms) := ⟨hl2.out, fun i x y hx hy => hE.out i x y (by have : i < la.length := (List.getElem?_eq_some_iff.1 hx).1; omega) hx hy⟩
          have hgk2 : wtP st + 1 < gk := by omega
          have hwb2 : Hid (wtP st ≤ 1073741825) := by show _ ≤ _; have := hwb.out; omega
          clear hml hm hlt
          go_wp2_with fail
          go_roundg (wtP st + 1)
          case measure => omega
          case rel => exact ⟨st, ms, ps, hO, hM, hMet, hB, hgl, by omega, hwb2, hI1, hI2, fun p hp => by
            rcases hI3.out p hp with h | h | h
            · exact .inl h
            · exact .inr h
            · exact .inr (h ▸ HD.out)⟩
end Go.Proofs.YtiadfijeglbdlaaDoor
