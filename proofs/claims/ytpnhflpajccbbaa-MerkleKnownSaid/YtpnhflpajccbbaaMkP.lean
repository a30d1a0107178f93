/-
  Layer 8: rows of hashes made with room; slices.Clone, the program's Leaves. Conditions: those in each statement.
-/
import Derived.Test.YtpnhflpajccbbaaMkM
import Derived.Test.YtpnhflpajccbbaaMkK
import Derived.Laws.OwnMore
import Derived.Lib.LazyBuf
namespace Go.Proofs.Ytpnhflpajccbbaa
open Go.RowKit

theorem dcs_zero (n : Nat) : dcs (List.replicate n (Z8 32)) = List.replicate (n * 32) (.int .u8 0) := by
  induction n with
  | zero => simp [dcs]
  | succ n ih =>
    rw [List.replicate_succ, show dcs (Z8 32 :: List.replicate n (Z8 32)) = bvs (Z8 32) ++ dcs (List.replicate n (Z8 32)) by simp [dcs], ih, show (n + 1) * 32 = 32 + n * 32 by omega, ← List.replicate_append_replicate]
    rfl
theorem made_dcs (n : Nat) : madeCells (bvs (Z8 32)).toArray (n * 32) = (dcs (List.replicate n (Z8 32))).toArray := by
  rw [dcs_zero]
  apply Array.ext
  · simp [madeCells]
  · intro i h1 h2
    have e : ∀ j, j < 32 → (bvs (Z8 32)).toArray[j]! = .int .u8 0 := by
      intro j hj
      have h1 : bvs (Z8 32) = List.replicate 32 (.int .u8 0) := rfl
      rw [h1]
      generalize 32 = q at *
      simp [hj]
    simp only [madeCells, Array.getElem_map, Array.getElem_range, List.getElem_toArray, List.getElem_replicate]
    exact e _ (Nat.mod_lt _ (by decide))

section
variable {ops : Array Oper} {rest : List Oper} {o : Oper} {a : Act} {Q : Exit → Act → World → Prop} {w : World}
/-- make([]Digest, m, cap) -/
theorem wl_makeD (hg : o.guard = none) (l c : Operand) (ho : o.op = .makeSlice 22 l c) (m cap : Nat) (hl : a.eval l = .int .i64 (m : Int)) (hc : a.eval c = .int .i64 (cap : Int)) (hm : m ≤ cap) (hcap : cap ≤ 2 ^ 43)
    (hK : ∀ w', Arr w' w.heap.size 25 (dcs (List.replicate cap (Z8 32))) → Below w.heap.size w w' → w'.heap.size = w.heap.size + 1 → wpList Try.prog ops Q rest (a.put o.dst (.slice (some ⟨w.heap.size, 0, none⟩) m cap)) w') :
    wpList Try.prog ops Q (o :: rest) a w := by
  obtain ⟨i0, hi, hz0, hz1, hz2⟩ := info_parts infoDg
  refine wpList_plain hg fun K hK' => ?_
  have hrun := run_make (P := Try.prog) (w := w) 22 25 i0 _ Try.underlying22 hi hz0 .i64 .i64 m cap (by omega) (by omega) (by rw [hz2]; omega) (by omega)
  rw [Int.toNat_natCast, Int.toNat_natCast, hz1, show (Value.agg (bvs (Z8 32)).toArray).cells = (bvs (Z8 32)).toArray from rfl, made_dcs] at hrun
  unfold Oper.wp execOp
  simp only [ho, hl, hc, Sem.run_bind, Sem.run_pure, hrun, Result.andThen_ok]
  exact hK' _ _ (hK _ (Arr.new _ _ _) ((Below.refl _ _).alloc (Nat.le_refl _) _) (by simp))
/-- append(row, hash) where there is room -/
theorem wl_fitD (hgd : o.guard = none) (d s : Operand) (ho : o.op = .call { callee := .builtin .append, args := #[d, s], argTypes := #[22, 22] })
    (B g cap k : Nat) (L : List (List UInt8)) (hd : a.eval d = .slice (some ⟨g, 0, none⟩) k cap) (hown : OwnD w B (.slice (some ⟨g, 0, none⟩) k cap) L) (hL : L.length = k) (h : Nat) (x : List UInt8) (hs : a.eval s = .slice (some ⟨h, 0, none⟩) 1 1)
    (hA : Arr w h 25 (bvs x)) (hx : x.length = 32) (hroom : k + 1 ≤ cap) (hB : B ≤ w.heap.size)
    (hK : ∀ w', OwnD w' B (.slice (some ⟨g, 0, none⟩) (k + 1) cap) (L ++ [x]) → Below B w w' → wpList Try.prog ops Q rest (a.put o.dst (.slice (some ⟨g, 0, none⟩) (k + 1) cap)) w') : wpList Try.prog ops Q (o :: rest) a w := by
  obtain ⟨i0, hi, hz0, hz1, hz2⟩ := info_parts infoDg
  have hrow := hown.row
  rw [hL] at hrow
  refine wpList_plain hgd fun K hK' => ?_
  obtain ⟨w', hr, h1, h2⟩ := run_append_fits (P := Try.prog) (w := w) B 22 o.type 25 i0 32 Try.underlying22 hi hz1 g k cap (dcs L) hrow ⟨h, 0, none⟩ 1 1 (bvs x) (by rw [bvs_len, hx])
    (fun j u hu => by rw [Addr.add_lit, Nat.zero_add, hA.cell]; exact hu) (bvs_one x) hroom
  unfold Oper.wp execOp
  simp only [ho, resolve, invoke, builtin, Sem.run_bind, Sem.run_pure, Result.andThen_ok, List.map_toArray, List.map_cons, List.map_nil, hd, hs, hr]
  refine hK' _ _ (hK w' ⟨?_, All32.of fun y hy => ?_⟩ ((Below.refl _ _).grown h2 hB fun q hq => (World.ownsRow.lt hown.row q hq).1))
  · rw [dcs_app, List.length_append, hL]
    exact h1
  · rcases List.mem_append.1 hy with h | h
    · exact hown.all.mem h
    · simp only [List.mem_singleton] at h
      rw [h]; exact hx
end
theorem OwnD.made {w : World} {B g cap : Nat} {L : List (List UInt8)} (h : Arr w g 25 (dcs L)) (hL : L.length = cap) (ha : All32 L) (hB : B ≤ g) (hc : cap ≤ maxLen) : OwnD w B (.slice (some ⟨g, 0, none⟩) cap cap) L := by
  refine ⟨⟨dcs_len ha, .inr ⟨g, cap, _, by rw [hL], hB, h, by omega, hc, by simp [dcs_len ha, hL], ?_⟩⟩, ha⟩
  rw [List.take_of_length_le (by simp [dcs_len ha])]
theorem OwnD.room {w : World} {B g cap : Nat} {M : List (List UInt8)} (h : Arr w g 25 (dcs M)) (hL : M.length = cap) (ha : All32 M) (hB : B ≤ g) (hc : cap ≤ maxLen) : OwnD w B (.slice (some ⟨g, 0, none⟩) 0 cap) [] := by
  refine ⟨⟨rfl, .inr ⟨g, cap, _, rfl, hB, h, Nat.zero_le _, hc, by simp [dcs_len ha, hL], by simp [dcs]⟩⟩, fun k hk => by simp at hk⟩
theorem zero32 (n : Nat) : All32 (List.replicate n (Z8 32)) := All32.of fun x hx => by rw [(List.mem_replicate.1 hx).2]; simp [Z8]

set_option maxHeartbeats 1600000 in
theorem Clone_any (L : List (List UInt8)) (b off n c : Nat) (w : World) (hn : n ≤ 2 ^ 42) (hr : RdD w (some ⟨b, off, none⟩) n c L) :
    Calls Try.prog 26 #[.slice (some ⟨b, off, none⟩) n c] w fun e w' => ∃ v, e = .returned v ∧ OwnD w' w.heap.size v L ∧ Below w.heap.size w w' := by
  have q22 : ∀ (w : World) (a : Option Addr) (n c : Nat), (binOp .eql 22 (.slice a n c) (.slice none 0 0)).run Try.prog w = .ok (.bool a.isNone) w := fun w a n c => run_eql_slice_nil w _ _ a n c Try.underlying22
  have h0 : Hid (OwnD (w.alloc (.cells #[] 25)) w.heap.size (.slice (some ⟨w.heap.size, 0, none⟩) 0 0) []) := ⟨World.ownsRow_made w #[] 0 (Nat.le_refl _) (Nat.zero_le _) rfl, fun k hk => by simp at hk⟩
  have hr1 : Hid (RdD (w.alloc (.cells #[] 25)) (some ⟨b, off, none⟩) n c L) := hr.to (hal w _)
  clear hr
  go_enter Try.func26, Try.ntmps26
  go_wp2_with (at_builtin; go_loud (refine wl_rowD rfl (.tmp 5) (.tmp 6) rfl w.heap.size _ [] rfl h0.out (some ⟨b, off, none⟩) n c L rfl hr1.out (by simpa using hn) (by simp) ?_); intro v3 w3 ho3 hb3)
  go_ret
  exact ⟨_, rfl, ho3, ((Below.refl _ w).alloc (Nat.le_refl _) _).trans hb3⟩

set_option maxHeartbeats 3200000 in
theorem Leaves_any (B : List (List UInt8)) (a : Option Addr) (n c : Nat) (w : World) (hn : n ≤ 2 ^ 43) (hr : RdR w a n c B) :
    Calls Try.prog 21 #[.slice a n c] w fun e w' => ∃ v, e = .returned v ∧ OwnD w' w.heap.size v (B.map leafH) ∧ Below w.heap.size w w' := by
  have hl := hr.len
  have HMX : Hid (n ≤ maxLen) := by show _ ≤ _; unfold maxLen; omega
  go_enter Try.func21, Try.ntmps21
  go_upto_region 2 with ((with_reducible show wpList _ _ _ (⟨some 8, .makeSlice _ _ _, _, _, _, _⟩ :: _) _ _); refine wl_makeD rfl (.const (.int .i64 0)) (.tmp 7) rfl 0 n rfl rfl (Nat.zero_le _) hn ?_; intro w1 hA1 hb1 hs1)
  have ho1 := OwnD.room (B := w.heap.size) hA1 (List.length_replicate ..) (zero32 n) (Nat.le_refl _) HMX.out
  obtain ⟨g, hg⟩ : ∃ g, g = w.heap.size := ⟨_, rfl⟩
  have hs1' : w.heap.size ≤ w1.heap.size := by omega
  rw [← hg] at ho1 hb1 hs1' ⊢
  have HG := Lib.hid hg
  clear hg hs1 hA1
  go_wp2_with fail
  go_loopw [3, 11] (fun out i wr => ∃ k : Nat, k ≤ n ∧ out = .slice (some ⟨g, 0, none⟩) k n ∧ i = .int .i64 (k : Int) ∧ OwnD wr g (.slice (some ⟨g, 0, none⟩) k n) ((B.take k).map leafH) ∧ Below g w wr ∧ g ≤ wr.heap.size) (fun _ i _ => n - (intOf i).toNat)
  case atStart => exact ⟨0, Nat.zero_le _, rfl, rfl, ho1, hb1, hs1'⟩
  case round =>
    clear ho1 hb1 hs1'
    obtain ⟨k, hk, rfl, rfl, hown, hB, hsz⟩ := hrel
    by_cases hlt : k < n
    · obtain ⟨b, off, rfl, hbl, hc⟩ := hr.mem (by omega)
      obtain ⟨ak, nk, ck, hck, hnk, hrk⟩ := hc k hlt
      obtain ⟨x, hx⟩ : ∃ x, x = B.getD k [] := ⟨_, rfl⟩
      rw [← hx] at hrk
      have hBw : Below w.heap.size w wr := by rw [← HG.out]; exact hB
      have hcell : wr.cell? ⟨b, off + k, none⟩ = some (.slice ak nk ck) := (hBw.cell (p := ⟨b, off + k, none⟩) hbl).trans hck
      have hLf := Leaf_any x ak nk ck wr (by omega) (hrk.to hBw)
      have hL32 : (leafH x).length = 32 := shaL_len _
      have hki : (k : Int) < (n : Int) := by omega
      have hMk : ((B.take k).map leafH).length = k := by simp; omega
      have hstep : Hid ((B.take k).map leafH ++ [leafH x] = (B.take (k + 1)).map leafH) := by
        show _ = _
        rw [List.take_add_one, List.map_append, hx]
        have : B[k]? = some (B.getD k []) := by simp [List.getD, show k < B.length by omega]
        rw [this]; rfl
      generalize leafH x = S at *
      generalize (B.take k).map leafH = M at *
      have HMk := Lib.hid hMk
      clear hc hr hck hMk
      go_wp2_with (first
        | (go_at_call 17; refine hLf.mono ?_; rintro _ w1 ⟨rfl, h1⟩)
        | ((with_reducible show wpList _ _ _ (⟨some 18, .buildSlice _ _ _, _, _, _, _⟩ :: _) _ _); refine wl_litD rfl 17 rfl S hL32 rfl ?_; intro w2 hA2 h2)
        | (at_builtin; refine wl_fitD rfl (.tmp 15) (.tmp 18) rfl g g n k M rfl ((hown.to h1).to h2) HMk.out w1.heap.size S rfl hA2 hL32 hlt (by have := h1.size; have := h2.size; omega) ?_; intro w3 ho3 hb3))
      go_roundw
      case rel =>
        have z1 := h1.size
        have z2 := h2.size
        have z3 := hb3.size
        refine ⟨k + 1, hlt, by go_num, by go_num, by rw [← hstep.out]; exact ho3, hB.trans (((h1.mono hsz).trans (h2.mono (by omega))).trans hb3), by omega⟩
      case measure => simp [intOf]; omega
    · obtain rfl : k = n := by omega
      have hc : ¬ ((k : Int) < (k : Int)) := by omega
      rw [List.take_of_length_le (by omega)] at hown
      go_wp2
      go_ret
      exact ⟨_, rfl, by rw [← HG.out]; exact hown, by rw [← HG.out]; exact hB⟩
end Go.Proofs.Ytpnhflpajccbbaa
