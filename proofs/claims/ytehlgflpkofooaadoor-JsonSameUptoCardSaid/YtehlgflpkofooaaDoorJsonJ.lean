/-
  The tables that the library reads; the library's tests on texts. Conditions: those in each statement.
-/
import Derived.Test.YtehlgflpkofooaaDoorJsonKM
import Derived.Test.YtehlgflpkofooaaDoorJsonI
import Derived.Test.YtehlgflpkofooaaDoorShelf
namespace Go.Proofs.YtehlgflpkofooaaDoor
open Go.RowKit

/-- the library's tables and errors stand where they were laid -/
structure Tabs (w : World) : Prop where
  utf : Lib.Utf8Tabs 0 1 w
  pow : Lib.TabIs Tryd.prog w "internal/strconv.uint64pow10" .u64 Lib.pow10Tab
  syn : ∃ te pe, w.cell? ⟨5, 0, none⟩ = some (.iface te pe)
  rng : ∃ te pe, w.cell? ⟨6, 0, none⟩ = some (.iface te pe)

theorem var_below {w w' : World} (h : Below w.heap.size w w') (s : String) {cs : Array Value} (hv : w.var? Tryd.prog s = some cs) : w'.var? Tryd.prog s = some cs := by
  unfold World.var? at hv ⊢
  cases hg : Tryd.prog.globalNamed s with
  | none => rw [hg] at hv; cases hv
  | some g =>
    rw [hg] at hv
    simp only [Option.bind_some] at hv ⊢
    cases hh : w.heap[g]? with
    | none => rw [hh] at hv; cases hv
    | some o =>
      rw [h.block g (Array.getElem?_eq_some_iff.1 hh).1]
      exact hv
theorem Tabs.to {w w' : World} (h : Tabs w) (hb : Below w.heap.size w w') : Tabs w' := by
  have hc : ∀ b o v, w.cell? ⟨b, o, none⟩ = some v → w'.cell? ⟨b, o, none⟩ = some v := fun b o v hv => (hb.cell (p := ⟨b, o, none⟩) (World.block_lt_of_cell? w _ hv)).trans hv
  refine ⟨Utf8Tabs_below h.utf hb, var_below hb _ h.pow, ?_, ?_⟩
  · obtain ⟨te, pe, e⟩ := h.syn
    exact ⟨te, pe, hc _ _ _ e⟩
  · obtain ⟨te, pe, e⟩ := h.rng
    exact ⟨te, pe, hc _ _ _ e⟩
theorem bstr_data (s : List UInt8) : (bstr s).data.toList = s := by simp [bstr]
theorem bstr_size (s : List UInt8) : (bstr s).size = s.length := by show s.toArray.size = _; simp
theorem validString_any (s : List UInt8) (w : World) (hs : s.length ≤ 9223372036854775807) (hT : Tabs w) :
    Calls Tryd.prog 43 #[.string (bstr s)] w fun e w' => e = .returned (.bool (utf8F s)) ∧ Below w.heap.size w w' := by
  have h := Tryd.utf8_ValidString (bstr s) w (by rw [bstr_size]; exact hs) hT.utf
  rw [bstr_data, valid_eq] at h
  exact h

theorem equal_any (xs ys : List (List UInt8)) (a b : Option Addr) (c d : Nat) (w : World) (hx : RStr w xs a c) (hy : RStr w ys b d) :
    Calls Tryd.prog 57 #[.slice a xs.length c, .slice b ys.length d] w fun e w' => e = .returned (.bool (decide (xs = ys))) ∧ Below w.heap.size w w' := by
  have hxl := hx.le
  have hxb := hx.big
  have hyl := hy.le
  have hyb := hy.big
  by_cases hl : xs.length = ys.length
  · by_cases h0 : xs.length = 0
    · have e1 : xs = [] := List.eq_nil_of_length_eq_zero h0
      have e2 : ys = [] := List.eq_nil_of_length_eq_zero (by omega)
      subst e1
      subst e2
      refine (Tryd.slices_Equal_string_empty a b c 0 d w (by omega)).mono fun e w' ⟨h1, h2⟩ => ⟨by rw [h1]; rfl, h2 ▸ Below.refl _ _⟩
    · obtain ⟨b1, o1, rfl, hb1, hc1⟩ := hx.mem (by omega)
      obtain ⟨b2, o2, rfl, hb2, hc2⟩ := hy.mem (by omega)
      have g : ∀ (zs : List (List UInt8)) (j : Nat), j < zs.length → (zs.map bstr).getD j ByteArray.empty = bstr (zs.getD j []) := fun zs j hj => by
        simp [List.getD, hj]
      refine (Tryd.slices_Equal_string b1 o1 xs.length c b2 o2 ys.length d (xs.map bstr) (ys.map bstr) w (by simp) (by simp) (by omega) (by omega) (fun j hj => by rw [g xs j (by simpa using hj)]; exact hc1 j (by simpa using hj)) (fun j hj => by rw [g ys j (by simpa using hj)]; exact hc2 j (by simpa using hj))).mono ?_
      rintro e w' ⟨h1, q, h2⟩
      refine ⟨?_, ?_⟩
      · rw [h1]
        congr 2
        have inj : xs.map bstr = ys.map bstr ↔ xs = ys := by
          constructor
          · intro h
            have := congrArg (List.map ByteArray.toList) h
            simp only [List.map_map] at this
            have e : (ByteArray.toList ∘ bstr) = id := by funext z; exact bstr_toList z
            rw [e] at this
            simpa using this
          · rintro rfl; rfl
        rw [show (xs.map bstr).take xs.length = xs.map bstr by rw [List.take_of_length_le (by simp)], show (ys.map bstr).take ys.length = ys.map bstr by rw [List.take_of_length_le (by simp)]]
        simp only [inj]
      · rw [h2]
        exact below_drewNv (Below.refl _ _) q
  · refine (Tryd.slices_Equal_string_lens a b xs.length c ys.length d w hl).mono fun e w' ⟨h1, h2⟩ => ⟨by rw [h1, decide_eq_false (fun h => hl (by rw [h]))], h2 ▸ Below.refl _ _⟩

theorem bcell {W w1 : World} (hb : Below W.heap.size W w1) : (∀ b o, b < W.heap.size → w1.cell? ⟨b, o, none⟩ = W.cell? ⟨b, o, none⟩) ∧ (∀ b o, b < W.heap.size → w1.frozen? ⟨b, o, none⟩ = W.frozen? ⟨b, o, none⟩) :=
  ⟨fun b o h => hb.cell (p := ⟨b, o, none⟩) h, fun b o h => hb.frozen (p := ⟨b, o, none⟩) h⟩

/-- the same, but for what is in their lists -/
def alikeF : JV → JV → Bool
  | .mk k s n l ks, .mk k' s' n' l' ks' => decide (k = k') && decide (s = s') && decide (n = n') && decide (ks = ks') && decide (l.length = l'.length)

set_option maxRecDepth 100000 in
set_option maxHeartbeats 1600000 in
theorem alike_any (v v' : JV) (cs cs' : List Value) (w : World) (hv : RV w v cs) (hv' : RV w v' cs') :
    Calls Tryd.prog 32 #[.agg cs.toArray, .agg cs'.toArray] w fun e w' => e = .returned (.bool (alikeF v v')) ∧ Below w.heap.size w w' := by
  obtain ⟨k, s, n, l, ks⟩ := v
  obtain ⟨k', s', n', l', ks'⟩ := v'
  unfold RV at hv hv'
  obtain ⟨a, c, b, d, rfl, ⟨hk0, hk1, hn⟩, hks, ⟨hlc, hcb⟩, hac, -⟩ := hv
  obtain ⟨a', c', b', d', rfl, ⟨hk0', hk1', hn'⟩, hks', ⟨hlc', hcb'⟩, hac', -⟩ := hv'
  have hl1 : l.length ≤ 9223372036854775807 := by omega
  have hl2 : l'.length ≤ 9223372036854775807 := by omega
  have hE : ((bstr s).toList == (bstr s').toList) = decide (s = s') := by rw [bstr_toList, bstr_toList]; exact Bool.eq_iff_iff.2 (by simp)
  have hcall : Hid (∀ W, Below w.heap.size w W → Calls Tryd.prog 57 #[.slice b ks.length d, .slice b' ks'.length d'] W fun e w' => e = .returned (.bool (decide (ks = ks'))) ∧ Below W.heap.size W w') := fun W hW => equal_any ks ks' b b' d d' W (hks.to hW) (hks'.to hW)
  have hgoal : Hid (alikeF (.mk k s n l ks) (.mk k' s' n' l' ks') = (decide (k = k') && decide (s = s') && decide (n = n') && decide (ks = ks') && decide (l.length = l'.length))) := rfl
  rw [hgoal.out]
  generalize decide (ks = ks') = B4 at *
  clear hgoal hks hks' hac hac' hlc hcb hlc' hcb'
  by_cases e1 : k = k'
  · subst e1
    by_cases e2 : s = s'
    · subst e2
      by_cases e3 : n = n'
      · subst e3
        cases B4 with
        | true =>
          by_cases e5 : l.length = l'.length
          · rw [e5]
            have e5r : Hid ((decide (k = k) && decide (s = s) && decide (n = n) && true && decide (l'.length = l'.length)) = true) := by show _ = _; simp
            rw [e5r.out]
            clear e5 hE e5r
            generalize ks.length = kl at *
            generalize ks'.length = kl' at *
            generalize l'.length = ll at *
            go_enter Tryd.func32, Tryd.ntmps32
            go_wp2_with (go_at_call 57; refine (hcall.out _ ?_).mono ?_; (exact ((Below.refl _ _).alloc (Nat.le_refl _) _).alloc (by simp) _); rintro e w1 ⟨rfl, hb1⟩; obtain ⟨hc1, hf1⟩ := bcell hb1)
            go_ret
            exact ⟨rfl, (((Below.refl _ _).alloc (Nat.le_refl _) _).alloc (by simp) _).trans (hb1.mono (by simp; omega))⟩
          · have e5r : Hid ((decide (k = k) && decide (s = s) && decide (n = n) && true && decide (l.length = l'.length)) = false) := by show _ = _; simp [e5]
            have e5i : ((l.length : Int) == (l'.length : Int)) = false := beq_eq_false_iff_ne.2 (by omega)
            rw [e5r.out]
            clear e5 hE e5r
            generalize ks.length = kl at *
            generalize ks'.length = kl' at *
            go_enter Tryd.func32, Tryd.ntmps32
            go_wp2_with (go_at_call 57; refine (hcall.out _ ?_).mono ?_; (exact ((Below.refl _ _).alloc (Nat.le_refl _) _).alloc (by simp) _); rintro e w1 ⟨rfl, hb1⟩; obtain ⟨hc1, hf1⟩ := bcell hb1)
            go_ret
            exact ⟨rfl, (((Below.refl _ _).alloc (Nat.le_refl _) _).alloc (by simp) _).trans (hb1.mono (by simp; omega))⟩
        | false =>
          have e5r : Hid ((decide (k = k) && decide (s = s) && decide (n = n) && false && decide (l.length = l'.length)) = false) := by show _ = _; simp
          rw [e5r.out]
          clear hE e5r
          go_enter Tryd.func32, Tryd.ntmps32
          go_wp2_with (go_at_call 57; refine (hcall.out _ ?_).mono ?_; (exact ((Below.refl _ _).alloc (Nat.le_refl _) _).alloc (by simp) _); rintro e w1 ⟨rfl, hb1⟩; obtain ⟨hc1, hf1⟩ := bcell hb1)
          go_ret
          exact ⟨rfl, (((Below.refl _ _).alloc (Nat.le_refl _) _).alloc (by simp) _).trans (hb1.mono (by simp; omega))⟩
      · have e5r : Hid ((decide (k = k) && decide (s = s) && decide (n = n') && B4 && decide (l.length = l'.length)) = false) := by show _ = _; simp [e3]
        have e3i : ((n : Int) == (n' : Int)) = false := beq_eq_false_iff_ne.2 (by omega)
        rw [e5r.out]
        clear e3 hE e5r hcall
        go_enter Tryd.func32, Tryd.ntmps32
        go_wp2
        go_ret
        exact ⟨rfl, ((Below.refl _ _).alloc (Nat.le_refl _) _).alloc (by simp) _⟩
    · have e5r : Hid ((decide (k = k) && decide (s = s') && decide (n = n') && B4 && decide (l.length = l'.length)) = false) := by show _ = _; simp [e2]
      have hE2 : ((bstr s).toList == (bstr s').toList) = false := by rw [hE]; exact decide_eq_false e2
      rw [e5r.out]
      clear e2 hE e5r hcall
      generalize bstr s = S at *
      generalize bstr s' = S' at *
      go_enter Tryd.func32, Tryd.ntmps32
      go_wp2
      go_ret
      exact ⟨rfl, ((Below.refl _ _).alloc (Nat.le_refl _) _).alloc (by simp) _⟩
  · have e5r : Hid ((decide (k = k') && decide (s = s') && decide (n = n') && B4 && decide (l.length = l'.length)) = false) := by show _ = _; simp [e1]
    have e3i : (k == k') = false := beq_eq_false_iff_ne.2 e1
    rw [e5r.out]
    clear e1 hE e5r hcall
    go_enter Tryd.func32, Tryd.ntmps32
    go_wp2
    go_ret
    exact ⟨rfl, ((Below.refl _ _).alloc (Nat.le_refl _) _).alloc (by simp) _⟩
end Go.Proofs.YtehlgflpkofooaaDoor
