/-
  Layer 8: rows of byte slices in memory; the document's Leaves. Conditions: those in each statement.
-/
import Derived.Test.YtpnhflpajccbbaaMkG
import Derived.Great.CaseRows
namespace Go.Proofs.Ytpnhflpajccbbaa
open Go.RowKit

/-- the slice of n byte slices at a reads as B -/
structure RdR (w : World) (a : Option Addr) (n cap : Nat) (B : List (List UInt8)) : Prop where
  len : B.length = n
  le : n ≤ cap
  nil : a = none → cap = 0
  mem : 0 < n → ∃ b off, a = some ⟨b, off, none⟩ ∧ b < w.heap.size ∧ ∀ k, k < n → ∃ ak nk ck, w.cell? ⟨b, off + k, none⟩ = some (.slice ak nk ck) ∧ nk ≤ 140737488352000 ∧ Rd w ak nk ck (B.getD k [])
theorem RdR.to {w w' : World} {a : Option Addr} {n cap : Nat} {B : List (List UInt8)} (h : RdR w a n cap B) (hb : Below w.heap.size w w') : RdR w' a n cap B := by
  refine ⟨h.len, h.le, h.nil, fun h0 => ?_⟩
  obtain ⟨b, off, e, hlt, hc⟩ := h.mem h0
  refine ⟨b, off, e, Nat.lt_of_lt_of_le hlt hb.size, fun k hk => ?_⟩
  obtain ⟨ak, nk, ck, h1, h2, h3⟩ := hc k hk
  exact ⟨ak, nk, ck, (hb.cell (p := ⟨b, off + k, none⟩) hlt).trans h1, h2, h3.to hb⟩

section
variable {ops : Array Oper} {rest : List Oper} {o : Oper} {a : Act} {Q : Exit → Act → World → Prop} {w : World}
/-- a row of one hash, written out -/
theorem wl_litD (hg : o.guard = none) (i : Nat) (ho : o.op = .buildSlice 22 1 #[(0, .tmp i)]) (x : List UInt8) (hx : x.length = 32) (hev : a.eval (.tmp i) = .agg (bvs x).toArray)
    (hK : ∀ w', Arr w' w.heap.size 25 (bvs x) → Below w.heap.size w w' → wpList Try.prog ops Q rest (a.put o.dst (.slice (some ⟨w.heap.size, 0, none⟩) 1 1)) w') : wpList Try.prog ops Q (o :: rest) a w := by
  refine Great.wpList_buildRows hg 22 25 #[(0, .tmp i)] 32 [.agg (bvs x).toArray] ho (fun _ => i) _ rfl _ rfl Try.underlying22 sizeD (by kernel_rfl) (by decide) (by simp) (by simp) rfl ?_ ?_ ?_
  · intro v hv
    simp only [List.mem_singleton] at hv
    subst hv
    simp [Value.cells, bvs_len, hx]
  · intro j hj
    have : j = 0 := by simpa using hj
    subst this
    exact hev
  · refine hK _ ?_ ((Below.refl _ _).alloc (Nat.le_refl _) _)
    have e : ((([.agg (bvs x).toArray] : List Value).flatMap fun v => v.cells.toList).toArray) = (bvs x).toArray := by simp [Value.cells]
    rw [e]
    exact Arr.new _ _ _
end

set_option maxHeartbeats 3200000 in
theorem rLeaves_any (B : List (List UInt8)) (a : Option Addr) (n c : Nat) (w : World) (hn : n ≤ 5900000000000) (hr : RdR w a n c B) :
    Calls Try.prog 22 #[.slice a n c] w fun e w' => ∃ v, e = .returned v ∧ OwnD w' w.heap.size v (B.map leafH) ∧ Below w.heap.size w w' := by
  have hl := hr.len
  go_enter Try.func22, Try.ntmps22
  go_wp2
  go_loopw [3, 4] (fun out i wr => ∃ k : Nat, k ≤ n ∧ i = .int .i64 (k : Int) ∧ OwnD wr w.heap.size out ((B.take k).map leafH) ∧ Below w.heap.size w wr) (fun _ i _ => n - (intOf i).toNat)
  case atStart => exact ⟨0, Nat.zero_le _, rfl, OwnD.nil _ _, Below.refl _ _⟩
  case round =>
    obtain ⟨k, hk, rfl, hown, hB⟩ := hrel
    by_cases hlt : k < n
    · obtain ⟨b, off, rfl, hbl, hc⟩ := hr.mem (by omega)
      obtain ⟨ak, nk, ck, hck, hnk, hrk⟩ := hc k hlt
      obtain ⟨x, hx⟩ : ∃ x, x = B.getD k [] := ⟨_, rfl⟩
      rw [← hx] at hrk
      have hcell : wr.cell? ⟨b, off + k, none⟩ = some (.slice ak nk ck) := (hB.cell (p := ⟨b, off + k, none⟩) hbl).trans hck
      have hLf := rLeaf_any x ak nk ck wr hnk (hrk.to hB)
      have hL32 : (leafH x).length = 32 := shaL_len _
      have hki : (k : Int) < (n : Int) := by omega
      have hlen : ((B.take k).map leafH).length + 1 ≤ 6000000000000 := by simp; omega
      have hstep : Hid ((B.take k).map leafH ++ [leafH x] = (B.take (k + 1)).map leafH) := by
        show _ = _
        rw [List.take_add_one, List.map_append, hx]
        have : B[k]? = some (B.getD k []) := by simp [List.getD, show k < B.length by omega]
        rw [this]; rfl
      generalize leafH x = S at *
      generalize (B.take k).map leafH = M at *
      clear hc hr hck
      go_wp2_with (first
        | (go_at_call 18; refine hLf.mono ?_; rintro _ w1 ⟨rfl, h1⟩)
        | ((with_reducible show wpList _ _ _ (⟨some 17, .buildSlice _ _ _, _, _, _, _⟩ :: _) _ _); refine wl_litD rfl 16 rfl S hL32 rfl ?_; intro w2 hA2 h2)
        | (at_builtin; refine wl_appendD rfl (.tmp 11) (.tmp 17) rfl w.heap.size u3 M rfl ((hown.to h1).to h2) w1.heap.size S rfl hA2 hL32 hlen (by have := hB.size; have := h1.size; have := h2.size; omega) ?_; intro v3 w3 ho3 hb3))
      go_roundw
      case rel =>
        have z0 := hB.size
        have z1 := h1.size
        refine ⟨k + 1, hlt, by go_num, by rw [← hstep.out]; exact ho3, hB.trans (((h1.mono z0).trans (h2.mono (by omega))).trans hb3)⟩
      case measure => simp [intOf]; omega
    · obtain rfl : k = n := by omega
      have hc : ¬ ((k : Int) < (k : Int)) := by omega
      rw [List.take_of_length_le (by omega)] at hown
      go_wp2
      go_ret
      exact ⟨_, rfl, hown, hB⟩
end Go.Proofs.Ytpnhflpajccbbaa
