/-
  Layer 9: the document's ranges in memory; New, Peaks. Conditions: those in each statement.
-/
import Derived.Test.YtlfncgpjgbpdjaaRnG
import Derived.Test.YtlfncgpjgbpdjaaGnA
namespace Go.Proofs.Ytlfncgpjgbpdjaa
open Go.RowKit

def encP (x : Nat × List UInt8) : List Value := .int .u64 (x.1 : Int) :: bvs x.2
theorem encP_len {x : Nat × List UInt8} (h : x.2.length = 32) : (encP x).length = 33 := by simp [encP, bvs_len, h]
theorem encP_one (x : Nat × List UInt8) : ∀ u ∈ encP x, u.oneCell' = true := by
  intro u hu
  rcases List.mem_cons.1 hu with rfl | hu
  · rfl
  · exact bvs_one _ u hu
def Zp : List Value := encP (0, Z8 32)
theorem infoPt : InfoG Try.prog 52 63 33 40 (.agg Zp.toArray) :=
  ⟨Try.underlying52, by kernel_rfl, by kernel_rfl, by decide⟩
theorem infoPa : (Try.prog.info? 63).map (fun i => (i.zero, i.size)) = some (some (.agg Zp.toArray), 33) := by kernel_rfl
theorem sizeP : (Try.prog.info? 63).map (·.size) = some 33 := by kernel_rfl
theorem infoPs : (Try.prog.info? 52).map (fun i => (i.zero, i.size)) = some (some (.slice none 0 0), 1) := by kernel_rfl
theorem sizePs : (Try.prog.info? 52).map (·.size) = some 1 := by kernel_rfl
abbrev OwnP (w : World) (B : Nat) (v : Value) (L : List (Nat × List UInt8)) : Prop := OwnG 63 33 encP w B v L
/-- the document's parts of a range -/
def partsF (n : Nat) (P : List (List UInt8)) : List (Nat × List UInt8) := (pkZ n P).reverse
theorem partsF_len {n : Nat} {P : List (List UInt8)} (h : P.length = popN n) : (partsF n P).length = P.length := by
  unfold partsF
  rw [List.length_reverse]
  exact pkZ_len h
theorem partsF_snd {n : Nat} {P : List (List UInt8)} (h : P.length = popN n) : (partsF n P).map (·.2) = P := by
  unfold partsF
  rw [List.map_reverse, show pkZ n P = (pkZ n P).drop 0 from rfl, pkZ_snd h, List.drop_zero, List.reverse_reverse]
theorem partsF_get {n k : Nat} {P : List (List UInt8)} (h : P.length = popN n) (hk : k < P.length) : ((partsF n P)[k]'(by rw [partsF_len h]; exact hk)).2 = P.getD k [] := by
  have e := partsF_snd h
  have h1 : k < ((partsF n P).map (·.2)).length := by rw [List.length_map, partsF_len h]; exact hk
  have h2 : ((partsF n P).map (·.2))[k] = P[k] := by simp [e]
  rw [List.getElem_map] at h2
  rw [h2]
  simp [List.getD, hk]
/-- the document's range at p -/
structure IsW (B : Nat) (w : World) (p n : Nat) (P : List (List UInt8)) : Prop where
  ex : ∃ v, Arr w p 54 [.int .u64 (n : Int), v] ∧ OwnP w B v (partsF n P)
  all : All32 P
  cnt : P.length = popN n
  le : n ≤ 1048576
  base : B ≤ p
theorem IsW.lt {B : Nat} {w : World} {p n : Nat} {P : List (List UInt8)} (h : IsW B w p n P) : p < w.heap.size := by
  obtain ⟨v, hA, -⟩ := h.ex
  exact hA.lt
theorem IsW.few {B : Nat} {w : World} {p n : Nat} {P : List (List UInt8)} (h : IsW B w p n P) : P.length ≤ 21 := by
  rw [h.cnt]
  exact lowP_len_lt 21 n 1 (by have := h.le; omega)
theorem OwnG.kb' {α : Type} {S : Nat} {enc : α → List Value} {T : TypeId} {Z : Nat → Prop} {w w' : World} {B : Nat} {v : Value} {L : List α} (h : OwnG T S enc w B v L) (hb : KB Z w w') (hz : ∀ k, B ≤ k → k < w.heap.size → ¬ Z k) : OwnG T S enc w' B v L :=
  h.kb hb fun g e => hz g (World.ownsRow.lt h.row g e).1 (World.ownsRow.lt h.row g e).2
theorem IsW.to {B : Nat} {w w' : World} {p n : Nat} {P : List (List UInt8)} (h : IsW B w p n P) (hb : Below w.heap.size w w') : IsW B w' p n P := by
  obtain ⟨v, hA, hO⟩ := h.ex
  exact ⟨⟨v, hA.kept hb, hO.to hb⟩, h.all, h.cnt, h.le, h.base⟩
theorem IsW.lower {B B' : Nat} {w : World} {p n : Nat} {P : List (List UInt8)} (h : IsW B w p n P) (hb : B' ≤ B) : IsW B' w p n P := by
  obtain ⟨v, hA, hO⟩ := h.ex
  exact ⟨⟨v, hA, hO.base hb⟩, h.all, h.cnt, h.le, Nat.le_trans hb h.base⟩

theorem built_wnew : Try.prog.built 54 [] = some #[.int .u64 0, .slice none 0 0] := by kernel_rfl
set_option maxHeartbeats 800000 in
theorem rNew_any (w : World) : Calls Try.prog 6 #[] w fun e w' => ∃ p, e = .returned (.pointer (some ⟨p, 0, none⟩)) ∧ IsW w.heap.size w' p 0 [] ∧ Below w.heap.size w w' := by
  go_enter Try.func6, Try.ntmps6
  go_wp2_with (first
    | ((with_reducible show wpList _ _ _ (⟨some 1, .build _ _, _, _, _, _⟩ :: _) _ _); refine wpList_buildTo rfl 54 _ rfl (some 1) rfl #[.int .u64 0, .slice none 0 0] (by simpa [Act.eval] using built_wnew) ?_)
    | ((with_reducible show wpList _ _ _ (⟨some 2, .box _ _, _, _, _, _⟩ :: _) _ _); refine wl_box rfl 54 _ rfl [.int .u64 0, .slice none 0 0] rfl ?_; intro w2 hA2 hb2 hs2))
  go_ret
  refine ⟨_, rfl, ⟨⟨.slice none 0 0, hA2, ?_⟩, All32.of (by simp), by rw [popN_zero]; rfl, by omega, Nat.le_refl _⟩, hb2⟩
  have e : partsF 0 [] = [] := by unfold partsF pkZ; rw [lowP_zero]; rfl
  rw [e]
  exact OwnG.nil _ _
/-- a part's head within its row -/
theorem RdG.head {w : World} {b off n cap : Nat} {L : List (Nat × List UInt8)} (h : RdG 33 encP w (some ⟨b, off, none⟩) n cap L) (k : Nat) (hk : k < L.length) : w.rangeAt b (off + k * 33 + 1) (bvs L[k].2) := by
  intro j v hv
  have := h.range k hk (j + 1) v (by simpa [encP] using hv)
  rw [show off + k * 33 + 1 + j = off + k * 33 + (j + 1) by omega]
  exact this
theorem RdG.num {w : World} {b off n cap : Nat} {L : List (Nat × List UInt8)} (h : RdG 33 encP w (some ⟨b, off, none⟩) n cap L) (k : Nat) (hk : k < L.length) : w.cell? ⟨b, off + k * 33, none⟩ = some (.int .u64 (L[k].1 : Int)) := by
  have := h.range k hk 0 (.int .u64 (L[k].1 : Int)) (by simp [encP])
  simpa using this
set_option maxRecDepth 100000 in
set_option maxHeartbeats 1600000 in
theorem rPeaks_any {B : Nat} (p n : Nat) (P : List (List UInt8)) (w : World) (h : IsW B w p n P) :
    Calls Try.prog 26 #[.pointer (some ⟨p, 0, none⟩)] w fun e w' => ∃ v, e = .returned v ∧ OwnD w' w.heap.size v P ∧ Below w.heap.size w w' := by
  have hfew := h.few
  have hcnt := h.cnt
  obtain ⟨v, hA, hO⟩ := h.ex
  obtain ⟨al, c, rfl, hr, -⟩ := hO.rd (by omega)
  have hlen := partsF_len hcnt
  rw [hlen] at hr hA
  have hall := h.all
  obtain ⟨m, hm⟩ : ∃ m, m = P.length := ⟨_, rfl⟩
  rw [← hm] at hr hA hfew
  have HM := Lib.hid hm
  have HC := Lib.hid hcnt
  have hpw := hA.lt
  clear hm h hcnt hO hlen
  go_enter Try.func26, Try.ntmps26
  go_wp2
  go_loopw [3, 4] (fun l i wr => ∃ k : Nat, k ≤ m ∧ i = .int .i64 (k : Int) ∧ OwnD wr w.heap.size l (P.take k) ∧ Below w.heap.size w wr) (fun _ i _ => m - (intOf i).toNat)
  case atStart => exact ⟨0, Nat.zero_le _, rfl, OwnD.nil _ _, Below.refl _ _⟩
  case round =>
    obtain ⟨k, hk, rfl, ho, hB⟩ := hrel
    have hA' := hA.to hB hpw
    have c1 := hA'.cell 1
    simp only [List.getElem?_cons_succ, List.getElem?_cons_zero] at c1
    by_cases hlt : k < m
    · have hlp := hr.len
      obtain ⟨b, off, rfl, hbl, -⟩ := hr.mem (by omega)
      have hr' := hr.to hB
      have hhd := hr'.head k (by omega)
      rw [partsF_get HC.out (by rw [← HM.out]; exact hlt)] at hhd
      have hx32 := hall k (by rw [← HM.out]; exact hlt)
      obtain ⟨X, hX⟩ : ∃ X, X = P.getD k [] := ⟨_, rfl⟩
      rw [← hX] at hhd hx32
      have h32 : Hid ((Try.prog.info? 29).map (·.size) = some (bvs X).length) := by show _ = _; rw [bvs_len, hx32]; exact sizeD
      have HX32 := Lib.hid hx32
      have HX := Lib.hid hX
      have g1 : (0 : Int) ≤ (k : Int) := by omega
      have g2 : (k : Int) < (m : Int) := by omega
      have HTK : Hid ((P.take k).length + 1 ≤ 6000000000000) := by show _ ≤ _; rw [List.length_take]; omega
      have HSZ := Lib.hid hB.size
      clear hX hx32 hA' hA hr hr' hall hlp
      go_wp2_with (first
        | ((with_reducible show wpList _ _ _ (⟨some 22, .load _ _, _, _, _, _⟩ :: _) _ _); refine wpList_load_mid rfl 29 _ rfl b (off + k * 33 + 1) rfl (bvs X) (.array 32 5) hhd Try.underlying29 rfl h32.out ?_)
        | ((with_reducible show wpList _ _ _ (⟨some 23, .buildSlice _ _ _, _, _, _, _⟩ :: _) _ _); refine wl_litD rfl 22 rfl X HX32.out rfl ?_; intro w1 hL1 hb1)
        | (at_builtin; refine wl_appendD rfl (.tmp 14) (.tmp 23) rfl w.heap.size _ (P.take k) rfl (ho.to hb1) wr.heap.size X rfl hL1 HX32.out HTK.out (by have := hb1.size; have := HSZ.out; omega) ?_; intro v2 w2 ho2 hb2))
      go_roundw
      case rel =>
        refine ⟨k + 1, by omega, by go_num, ?_, (hB.trans (hb1.mono HSZ.out)).trans hb2⟩
        have e : P.take (k + 1) = P.take k ++ [X] := by
          rw [List.take_add_one, HX.out]
          have : P[k]? = some (P.getD k []) := by simp [List.getD, show k < P.length by have := HM.out; omega]
          rw [this]; rfl
        rw [e]
        exact ho2
      case measure => simp [intOf]; omega
    · obtain rfl : k = m := by omega
      have hc : ¬ ((k : Int) < (k : Int)) := by omega
      rw [List.take_of_length_le (by rw [HM.out]; exact Nat.le_refl _)] at ho
      clear hA hA' hr
      go_wp2
      go_ret
      exact ⟨_, rfl, ho, hB⟩
end Go.Proofs.Ytlfncgpjgbpdjaa
