/-
  Package files: check, find, spend. Conditions: those in each statement.
-/
import Derived.Test.YtcnkgenhbnafjaaFiA
namespace Go.Proofs.Ytcnkgenhbnafjaa
open Go.RowKit

/-- texts in a row -/
abbrev encS (s : ByteArray) : List Value := [.string s]
abbrev RdS' (w : World) (a : Option Addr) (n cap : Nat) (ss : List ByteArray) : Prop := RdG 1 encS w a n cap ss
theorem rds_lit (w : World) (ss : List ByteArray) : RdS' (w.alloc (.cells (ss.map Value.string).toArray 9)) (some ⟨w.heap.size, 0, none⟩) ss.length ss.length ss := by
  have h : dcg encS ss = ss.map Value.string := by
    unfold dcg
    induction ss with
    | nil => rfl
    | cons x xs ih => rw [List.flatMap_cons, ih]; rfl
  have := rdg_arr (S := 1) (enc := encS) (L := ss) (T := 9) (g := w.heap.size) (w := w.alloc (.cells (ss.map Value.string).toArray 9)) (by rw [h]; exact Arr.new w _ _) (fun x _ => rfl)
  exact this
theorem RdS'.at {w : World} {b off n cap : Nat} {ss : List ByteArray} (h : RdS' w (some ⟨b, off, none⟩) n cap ss) (k : Nat) (hk : k < n) : w.cell? ⟨b, off + k, none⟩ = some (.string (ss.getD k ⟨#[]⟩)) := by
  have hl := h.len
  have := h.range k (by omega) 0 (.string (ss.getD k ⟨#[]⟩)) (by simp [encS, List.getD, hl, hk])
  simpa using this
/-- the first error of a call with these names -/
def chk (off : Bool) (ss : List ByteArray) : Int := if off then 8 else if ss.all nameB then 0 else 1
set_option maxRecDepth 100000 in
set_option maxHeartbeats 1600000 in
theorem check_any (w : World) (B r m : Nat) (fs : List FS) (t q u : Nat) (o : Bool) (h : IsD w B r m fs t q u o) (b off n cap : Nat) (ss : List ByteArray) (hr : RdS' w (some ⟨b, off, none⟩) n cap ss) (hn : n ≤ 100) (hs : ∀ s ∈ ss, s.size ≤ 140737488355328) :
    Calls Try.prog 35 #[.pointer (some ⟨r, 0, none⟩), .slice (some ⟨b, off, none⟩) n cap] w fun e w' => e = .returned (.int .i64 (chk o ss)) ∧ w = w' := by
  have H := is_any w B r m fs t q u o h
  obtain ⟨-, -, -, -, c4⟩ := h.cells
  have hl := hr.len
  have hle := hr.le
  have HR := Lib.hid hr
  clear h hr
  cases o with
  | true =>
    go_enter Try.func35, Try.ntmps35
    go_wp2_with (go_at_call 50; refine H.mono ?_; rintro e w' ⟨rfl, rfl⟩)
    go_ret
    exact ⟨rfl, rfl⟩
  | false =>
    go_enter Try.func35, Try.ntmps35
    go_wp2_with (go_at_call 50; refine H.mono ?_; rintro e w' ⟨rfl, rfl⟩)
    clear H c4
    go_loop [16] (fun i => ∃ k : Nat, k ≤ n ∧ i = .int .i64 k ∧ (ss.take k).all nameB = true) (fun i => n - (intOf i).toNat)
    case atStart => exact ⟨0, by omega, rfl, rfl⟩
    case round =>
      obtain ⟨k, hk, rfl, ha⟩ := hrel
      by_cases hlt : k < n
      · have c := HR.out.at k hlt
        obtain ⟨s, hse⟩ : ∃ s, s = ss.getD k ⟨#[]⟩ := ⟨_, rfl⟩
        rw [← hse] at c
        have hget : ss[k]? = some s := by rw [hse, List.getD, List.getElem?_eq_getElem (by omega)]; rfl
        have hmem : s ∈ ss := List.mem_of_getElem? hget
        have hN := isName_any s w (hs s hmem)
        have HT : Hid ((ss.take (k + 1)).all nameB = nameB s) := by
          show (ss.take (k + 1)).all nameB = nameB s
          rw [List.take_add_one, List.all_append, ha, Bool.true_and, hget]
          simp
        have HM : Hid (ss.all nameB = true → nameB s = true) := fun h => List.all_eq_true.1 h s hmem
        clear ha hse hget hmem
        cases hb : nameB s with
        | true =>
          rw [hb] at hN
          go_wp2_with (go_at_call 54; refine hN.mono ?_; rintro e w' ⟨rfl, rfl⟩)
          go_roundw
          case rel => exact ⟨k + 1, by omega, by go_num, by rw [HT.out, hb]⟩
          case measure => simp [intOf]; omega
        | false =>
          rw [hb] at hN
          go_wp2_with (go_at_call 54; refine hN.mono ?_; rintro e w' ⟨rfl, rfl⟩)
          go_ret
          refine ⟨ret_val ?_, rfl⟩
          have : ss.all nameB = false := by
            cases hx : ss.all nameB with
            | false => rfl
            | true => exact absurd (HM.out hx) (by rw [hb]; simp)
          rw [chk, this]
          rfl
      · obtain rfl : k = n := by omega
        rw [List.take_of_length_le (by omega)] at ha
        have HA := Lib.hid ha
        clear ha
        go_wp2_with fail
        go_ret
        refine ⟨ret_val ?_, rfl⟩
        rw [chk, HA.out]
        rfl
set_option maxRecDepth 100000 in
theorem check_none (w : World) (v : Value) (hv : ∃ a n c, v = .slice a n c) : Calls Try.prog 35 #[.pointer none, v] w fun e w' => e = .returned (.int .i64 2) ∧ w = w' := by
  obtain ⟨a, n, c, rfl⟩ := hv
  have H := is_none w
  go_enter Try.func35, Try.ntmps35
  go_wp2_with (go_at_call 50; refine H.mono ?_; rintro e w' ⟨rfl, rfl⟩)
  go_ret
  exact ⟨rfl, rfl⟩
end Go.Proofs.Ytcnkgenhbnafjaa
