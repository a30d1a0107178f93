/-
  The program's mayName: whether texts may be the names of so many values. Conditions: those in each statement.
-/
import Derived.Test.YtehlgflpkofooaaDoorJsonJ
namespace Go.Proofs.YtehlgflpkofooaaDoor
open Go.RowKit

def ddS (acc : List (List UInt8)) (k : List UInt8) : List (List UInt8) := if k ∈ acc then acc else acc ++ [k]
/-- each once -/
def dd (l : List (List UInt8)) : List (List UInt8) := l.foldl ddS []
theorem dd_all : ∀ (l acc : List (List UInt8)), (l.foldl ddS acc).length ≤ acc.length + l.length ∧ ((l.foldl ddS acc).length = acc.length + l.length ↔ (l.Nodup ∧ ∀ x ∈ l, x ∉ acc))
  | [], acc => by simp
  | x :: r, acc => by
    rw [List.foldl_cons]
    unfold ddS
    by_cases h : x ∈ acc
    · rw [if_pos h]
      obtain ⟨h1, h2⟩ := dd_all r acc
      refine ⟨by simp; unfold ddS at h1; omega, ?_⟩
      constructor
      · intro e; simp at e; unfold ddS at h1; omega
      · rintro ⟨-, e⟩; exact absurd h (e x (by simp))
    · rw [if_neg h]
      obtain ⟨h1, h2⟩ := dd_all r (acc ++ [x])
      simp only [List.length_append, List.length_singleton] at h1 h2
      unfold ddS at h1 h2
      refine ⟨by simp; omega, ?_⟩
      rw [List.length_cons, show acc.length + (r.length + 1) = acc.length + 1 + r.length by omega, h2, List.nodup_cons]
      simp only [List.mem_append, List.mem_cons, List.not_mem_nil, or_false, not_or]
      constructor
      · rintro ⟨a, b⟩
        refine ⟨⟨fun hx => (b x hx).2 rfl, a⟩, ?_⟩
        rintro y (rfl | hy)
        · exact h
        · exact (b y hy).1
      · rintro ⟨⟨a, b⟩, c⟩
        exact ⟨b, fun y hy => ⟨c y (.inr hy), fun e => a (e ▸ hy)⟩⟩
theorem apart_nodup : ∀ l : List (List UInt8), apartF l = true ↔ l.Nodup
  | [] => by simp [apartF]
  | k :: r => by simp [apartF, apart_nodup r]
theorem dd_len (l : List (List UInt8)) : (dd l).length ≤ l.length ∧ ((dd l).length = l.length ↔ apartF l = true) := by
  have := dd_all l []
  rw [apart_nodup]
  simpa [dd] using this
theorem dd_snoc (l : List (List UInt8)) (k : List UInt8) : dd (l ++ [k]) = ddS (dd l) k := by simp [dd]
def ddP (l : List (List UInt8)) : List (Value × Value) := (dd l).map fun k => (.string (bstr k), .agg #[])
theorem bstr_inj {s t : List UInt8} (h : bstr s = bstr t) : s = t := by
  have := congrArg ByteArray.toList h
  rwa [bstr_toList, bstr_toList] at this
theorem ddP_step {l : List (List UInt8)} {k : List UInt8} {ps : List (Value × Value)} (h : (ps = ddP l ∧ ∃ p ∈ ddP l, p.1 = .string (bstr k)) ∨ (ps = ddP l ++ [(.string (bstr k), .agg #[])] ∧ ∀ p ∈ ddP l, p.1 ≠ .string (bstr k))) : ps = ddP (l ++ [k]) := by
  unfold ddP at *
  rw [dd_snoc]
  unfold ddS
  rcases h with ⟨rfl, p, hp, he⟩ | ⟨rfl, hn⟩
  · obtain ⟨x, hx, rfl⟩ := List.mem_map.1 hp
    have : k ∈ dd l := by have := bstr_inj (Value.string.inj he); rw [← this]; exact hx
    rw [if_pos this]
  · have : k ∉ dd l := fun hk => hn _ (List.mem_map.2 ⟨k, hk, rfl⟩) rfl
    rw [if_neg this]
    simp

theorem int_beq (a b : Nat) : ((a : Int) == (b : Int)) = decide (a = b) := by
  apply Bool.eq_iff_iff.2
  rw [beq_iff_eq, decide_eq_true_eq]
  omega
theorem zero_unit (w : World) : (zeroValue 83).run Tryd.prog w = .ok (.agg #[]) w := by kernel_rfl

set_option maxRecDepth 100000 in
set_option maxHeartbeats 1600000 in
theorem mayName_any (ks : List (List UInt8)) (a : Option Addr) (c n : Nat) (w : World) (hks : RStr w ks a c) (hn : n ≤ 9223372036854775807) (hsm : ∀ k ∈ ks, k.length ≤ 9223372036854775807) (hT : Tabs w) :
    Calls Tryd.prog 45 #[.slice a ks.length c, .int .i64 (n : Int)] w fun e w' => e = .returned (.bool (decide (ks.length = n) && ks.all utf8F && apartF ks)) ∧ Below w.heap.size w w' := by
  have hmm : ∀ (n : Int) (w : World), (Instr.makeMap 114 (some (.int .i64 n))).run Tryd.prog w = .ok (.map (some w.heap.size)) (w.alloc (.map #[] 0)) := fun n w => by
    simp [Instr.makeMap, run_underlying Tryd.underlying114, asInt, asIntOf, Result.andThen]
  have hle := hks.le
  have hbig := hks.big
  by_cases e0 : ks.length = n
  · have e1 : Hid ((decide (ks.length = n) && ks.all utf8F && apartF ks) = (ks.all utf8F && apartF ks)) := by show _ = _; rw [decide_eq_true e0, Bool.true_and]
    rw [e1.out]
    clear e1
    subst e0
    obtain ⟨R, hR⟩ : ∃ R, R = (ks.all utf8F && apartF ks) := ⟨_, rfl⟩
    rw [← hR]
    have HR := Lib.hid hR
    clear hR
    have HKS := Lib.hid hks
    have HT := Lib.hid hT
    have HSM := Lib.hid hsm
    clear hks hT hsm
    go_enter Tryd.func45, Tryd.ntmps45
    go_wp2
    have hM0 : MapR GStr (w.alloc (.map #[] 0)) w.heap.size [] := MapR.new w
    have hB0 : Below w.heap.size w (w.alloc (.map #[] 0)) := (Below.refl _ _).alloc (Nat.le_refl _) _
    generalize hg : w.heap.size = g at *
    have HG := Lib.hid hg
    clear hg
    go_loopw [16] (fun i wr => ∃ m : Nat, m ≤ ks.length ∧ i = .int .i64 m ∧ MapR GStr wr g (ddP (ks.take m)) ∧ Below g w wr ∧ Hid ((ks.take m).all utf8F = true)) (fun i _ => ks.length - (intOf i).toNat)
    case atStart => exact ⟨0, by omega, rfl, hM0, hB0, by show _ = _; simp⟩
    case round =>
      clear hM0 hB0
      obtain ⟨m, hm, rfl, hM, hB, HU⟩ := hrel
      have hgl : Hid (g < wr.heap.size) := hM.lt
      by_cases hlt : m < ks.length
      · have hc : (m : Int) < (ks.length : Int) := by omega
        have hwr : Below w.heap.size w wr := HG.out ▸ hB
        obtain ⟨b, off, rfl, hb, hcs⟩ := HKS.out.mem (by omega)
        have cx : wr.cell? ⟨b, off + m, none⟩ = some (.string (bstr (ks.getD m []))) := (hwr.cell (p := ⟨b, off + m, none⟩) hb).trans (hcs m hlt)
        have hmem : Hid (ks.getD m [] ∈ ks) := by show _ ∈ _; rw [List.getD, List.getElem?_eq_getElem hlt]; simp
        have hts : Hid (ks.take (m + 1) = ks.take m ++ [ks.getD m []]) := by show _ = _; rw [List.take_succ_eq_append_getElem hlt]; simp [List.getD, hlt]
        have hmc : m < c := by omega
        have hsm := Lib.hid (HSM.out _ hmem.out)
        clear hcs
        generalize hx : ks.getD m [] = x at *
        have HX := Lib.hid hx
        clear hx
        have hv : Hid (∀ W, Below w.heap.size w W → Calls Tryd.prog 43 #[.string (bstr x)] W fun e w' => e = .returned (.bool (utf8F x)) ∧ Below W.heap.size W w') := fun W hW => validString_any x W hsm.out (HT.out.to hW)
        cases hu : utf8F x with
        | true =>
          have HUX := Lib.hid hu
          rw [hu] at hv
          have hvs : Hid (∀ p ∈ ddP (ks.take m), p.2 = .agg #[]) := by
            show ∀ p ∈ _, _
            intro p hp
            unfold ddP at hp
            obtain ⟨y, -, rfl⟩ := List.mem_map.1 hp
            rfl
          have HM := Lib.hid hM
          have HB := Lib.hid hB
          clear hu hM hB hwr
          have HWR : Hid (Below w.heap.size w wr) := HG.out ▸ HB.out
          go_wp2_with (first
            | (go_at_call 43; refine (hv.out _ ?_).mono ?_; (exact HWR.out); rintro e w1 ⟨rfl, hb1⟩)
            | (at_mapUpdate; refine wl_put_set str_ok Tryd.underlying114 rfl _ _ _ rfl g _ rfl (HM.out.below str_ok hb1) (.string (bstr x)) (.agg #[]) rfl rfl ⟨_, rfl⟩ hvs.out ?_; intro w2 ps2 hM2 hg2 hs2 hst2))
          go_roundw
          case rel => exact ⟨m + 1, by omega, by go_num, by rw [hts.out, ← ddP_step hst2]; exact hM2, (HB.out.trans (hb1.mono (Nat.le_of_lt hgl.out))).grown hg2 (Nat.le_trans (Nat.le_of_lt hgl.out) hb1.size) (fun k hk => by cases hk; exact Nat.le_refl _), by show _ = _; rw [hts.out, List.all_append, HU.out]; simp [HUX.out]⟩
          case measure => simp [intOf]; omega
        | false =>
          have HF : Hid ((ks.all utf8F && apartF ks) = false) := by
            show _ = _
            have : ks.all utf8F = false := by
              rw [List.all_eq_false]
              exact ⟨x, hmem.out, by rw [hu]; simp⟩
            rw [this, Bool.false_and]
          rw [hu] at hv
          have HB := Lib.hid hB
          have HWR : Hid (Below w.heap.size w wr) := hwr
          clear hu hM hB hwr
          go_wp2_with (go_at_call 43; refine (hv.out _ ?_).mono ?_; (exact HWR.out); rintro e w1 ⟨rfl, hb1⟩)
          go_ret
          exact ⟨by rw [HR.out, HF.out]; rfl, HG.out ▸ HWR.out.trans (hb1.mono (HG.out ▸ Nat.le_of_lt hgl.out))⟩
      · have hc : ¬ (m : Int) < (ks.length : Int) := by omega
        have hmk : m = ks.length := by omega
        have hE : Hid ((ks.all utf8F && apartF ks) = decide ((ddP ks).length = ks.length)) := by
          show _ = _
          have h1 : ks.all utf8F = true := by have := HU.out; rwa [hmk, List.take_length] at this
          have h2 := (dd_len ks).2
          rw [h1, Bool.true_and]
          unfold ddP
          rw [List.length_map]
          apply Bool.eq_iff_iff.2
          rw [decide_eq_true_eq]
          exact h2.symm
        rw [hmk, List.take_length] at hM
        have HM := Lib.hid hM
        have HB := Lib.hid hB
        have hdl : (ddP ks).length ≤ ks.length := by unfold ddP; rw [List.length_map]; exact (dd_len ks).1
        clear hM hB hmk hm hlt
        go_wp2_with (at_len; refine wl_len Tryd.underlying114 rfl _ rfl g (ddP ks) rfl HM.out ?_)

        go_ret
        exact ⟨by rw [HR.out, hE.out, ← int_beq]; rfl, HG.out ▸ HB.out⟩
  · have e1 : Hid ((decide (ks.length = n) && ks.all utf8F && apartF ks) = false) := by show _ = _; rw [decide_eq_false e0, Bool.false_and, Bool.false_and]
    have e2 : ¬ (ks.length : Int) = (n : Int) := by omega
    rw [e1.out]
    clear e1 e0
    go_enter Tryd.func45, Tryd.ntmps45
    go_wp2
    go_ret
    exact ⟨rfl, Below.refl _ _⟩
end Go.Proofs.YtehlgflpkofooaaDoor
