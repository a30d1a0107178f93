/-
  Layer 10: the statements' leaves. Conditions: those in each statement.
-/
import Derived.Test.YtcnnblhjgligbaaInK
namespace Go.Proofs.Ytcnnblhjgligbaa
open Go.RowKit

/-- the statements' leaves -/
def lvF (x : UInt8) (k : Nat) : List UInt8 := leafH [x, UInt8.ofNat k, UInt8.ofNat (k / 256)]
theorem lv_lit (x : UInt8) (k : Nat) (hk : k ≤ 200) : ([x, UInt8.ofNat k, UInt8.ofNat (k / 256)].map bv).toArray = #[.int .u8 (x.toNat : Int), .int .u8 (k : Int), .int .u8 ((k : Int) / 256)] := by
  have e1 : (UInt8.ofNat k).toNat = k := by rw [UInt8.toNat_ofNat']; omega
  have e2 : (UInt8.ofNat (k / 256)).toNat = k / 256 := by rw [UInt8.toNat_ofNat']; omega
  simp only [List.map_cons, List.map_nil, bv, e1, e2]
  rfl
theorem lv_call (x : UInt8) (k : Nat) (hk : k ≤ 200) (w : World) :
    Calls Try.prog 35 #[.slice (some ⟨w.heap.size, 0, none⟩) 3 3] (w.alloc (.cells #[.int .u8 (x.toNat : Int), .int .u8 (k : Int), .int .u8 ((k : Int) / 256)] 5)) fun e w' => e = .returned (.agg (bvs (lvF x k)).toArray) ∧ Below w.heap.size w w' := by
  have h := (LitB.new w [x, UInt8.ofNat k, UInt8.ofNat (k / 256)]).rd
  rw [lv_lit x k hk] at h
  refine (Leaf_any _ _ _ _ _ (by simp) h).mono fun e w' ⟨h1, h2⟩ => ⟨h1, ?_⟩
  exact ((Below.refl _ _).alloc (Nat.le_refl _) _).trans (h2.mono (by simp))
theorem Leaves_all (x : UInt8) (n : Nat) : All32 ((List.range n).map (lvF x)) := All32.of fun y hy => by
  obtain ⟨k, _, rfl⟩ := List.mem_map.1 hy
  exact shaL_len _
set_option maxRecDepth 100000 in
set_option maxHeartbeats 1600000 in
theorem Leaves_any (x : UInt8) (n : Nat) (w : World) (hn : n ≤ 200) :
    Calls Try.prog 25 #[.int .i64 (n : Int), .int .u8 (x.toNat : Int)] w fun e w' => ∃ v, e = .returned v ∧ OwnD w' w.heap.size v ((List.range n).map (lvF x)) ∧ Below w.heap.size w w' := by
  go_enter Try.func25, Try.ntmps25
  go_wp2
  go_loopw [5, 8] (fun out ix wr => ∃ k : Nat, k ≤ n ∧ ix = .int .i64 (k : Int) ∧ OwnD wr w.heap.size out ((List.range k).map (lvF x)) ∧ Below w.heap.size w wr) (fun _ ix _ => n - (intOf ix).toNat)
  case atStart => exact ⟨0, Nat.zero_le _, rfl, OwnD.nil _ _, Below.refl _ _⟩
  case round =>
    obtain ⟨k, hk, rfl, hown, hB⟩ := hrel
    by_cases hlt : k < n
    · have hki : (k : Int) < (n : Int) := by omega
      have hk0 : (0 : Int) ≤ (k : Int) := by omega
      have hk2 : (k : Int) ≤ 200 := by omega
      have hC := Lib.hid (lv_call x k (by omega) wr)
      have hSl : (lvF x k).length = 32 := shaL_len _
      have hstep : Hid ((List.range k).map (lvF x) ++ [lvF x k] = (List.range (k + 1)).map (lvF x)) := by show _ = _; rw [List.range_succ, List.map_append]; rfl
      have hMl : ((List.range k).map (lvF x)).length + 1 ≤ 6000000000000 := by simp; omega
      generalize lvF x k = S at *
      generalize (List.range k).map (lvF x) = M at *
      have HSL := Lib.hid hSl
      have HML := Lib.hid hMl
      clear hSl hMl
      go_wp2_with (first
        | (go_at_call 35; refine hC.out.mono ?_; rintro _ w1 ⟨rfl, h1⟩)
        | ((with_reducible show wpList _ _ _ (⟨some 20, .buildSlice _ _ _, _, _, _, _⟩ :: _) _ _); refine wl_litD rfl 19 rfl S HSL.out rfl ?_; intro w2 hA2 h2)
        | (at_builtin; refine wl_appendD rfl (.tmp 11) (.tmp 20) rfl w.heap.size u5 M rfl ((hown.to h1).to h2) w1.heap.size S rfl hA2 HSL.out HML.out (by have := hB.size; have := h1.size; have := h2.size; omega) ?_; intro v3 w3 ho3 hb3))
      go_roundw
      case rel =>
        have z0 := hB.size
        have z1 := h1.size
        refine ⟨k + 1, hlt, by go_num, by rw [← hstep.out]; exact ho3, hB.trans (((h1.mono z0).trans (h2.mono (by omega))).trans hb3)⟩
      case measure => simp [intOf]; omega
    · obtain rfl : k = n := by omega
      have hc : ¬ ((k : Int) < (k : Int)) := by omega
      go_wp2
      go_ret
      exact ⟨_, rfl, hown, hB⟩
end Go.Proofs.Ytcnnblhjgligbaa
