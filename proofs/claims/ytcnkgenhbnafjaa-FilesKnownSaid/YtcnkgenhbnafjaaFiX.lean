/-
  Package files: Loose; the power goes at a Create. Conditions: those in each statement.
-/
import Derived.Test.YtcnkgenhbnafjaaFiW
namespace Go.Proofs.Ytcnkgenhbnafjaa
open Go.RowKit

set_option maxRecDepth 100000 in
theorem Loose_ok (w : World) (B r m : Nat) (fs : List FS) (t q u : Nat) (h : IsD w B r m fs t q u false) (s : ByteArray) (hs : nameB s = true) (f : FS) (hf : atF fs s = some f) (hlen : f.data.length ≤ 140737488355328) :
    Calls Try.prog 22 #[.pointer (some ⟨r, 0, none⟩), .string s] w fun e w' => e = .returned (.tuple #[.int .i64 (lse f : Int), .int .i64 0]) ∧ Below w.heap.size w w' := by
  have H := find_ok w B r m fs t q u h s hs f hf
  have hl : ∀ w1, Below w.heap.size w w1 → Calls Try.prog 49 #[.pointer (some ⟨f.fb, 0, none⟩)] w1 fun e w' => e = .returned (.int .i64 (lse f : Int)) ∧ w' = w1.drew := fun w1 hb => by
    have hF := (h.to hb).file f (atF_mem hf).1
    obtain ⟨a, c, e⟩ := own_slice hF.row
    have hA := hF.arr
    rw [e] at hA
    exact loose_any w1 f.fb a _ c f.lasts hA hF.le hlen
  clear h hf hs
  go_enter Try.func22, Try.ntmps22
  go_wp2_with (first
    | (go_at_call 42; go_loud (refine H.mono ?_); rintro e w1 ⟨rfl, hb1⟩)
    | (go_at_call 49; go_loud (refine (hl w1 hb1).mono ?_); rintro e w2 ⟨rfl, rfl⟩))
  go_ret2
  exact ⟨rfl, hb1.drew⟩
set_option maxRecDepth 100000 in
set_option maxHeartbeats 1600000 in
theorem Create_off (w : World) (B r m : Nat) (fs : List FS) (t q : Nat) (h : IsD w B r m fs t q 1 false) (s : ByteArray) (hs : nameB s = true) (hf : atF fs s ≠ none ∨ fs.length < 4096) :
    Calls Try.prog 9 #[.pointer (some ⟨r, 0, none⟩), .string s] w fun e w' => e = .returned (.int .i64 8) ∧ IsD w' B r m fs t q 0 true ∧ KB (fun k => k = r) w w' := by
  have hs2 : s.size ≤ 32 := by
    unfold nameB at hs
    simp only [Bool.and_eq_true, decide_eq_true_eq] at hs
    exact hs.1.2
  have hb : Below w.heap.size w (w.alloc (.cells #[.string s] 9)) := (Below.refl _ _).alloc (Nat.le_refl _) _
  have H := check_any _ B r m fs t q 1 false (h.to hb) _ _ _ _ [s] (rds_lit w [s]) (by simp) (by simp; omega)
  have hz : chk false [s] = 0 := by simp [chk, hs]
  rw [hz] at H
  have hsz : (w.alloc (.cells #[.string s] 9)).heap.size = w.heap.size + 1 := by simp
  have HH := Lib.hid h
  clear h hs hz
  go_enter Try.func9, Try.ntmps9
  go_wp2_with fail
  refine H.mono ?_
  clear H
  rintro e w1 ⟨rfl, hw1⟩
  rw [hw1] at hb hsz
  have hD1 := HH.out.to hb
  have hl := map_len0 hD1.map
  have hk := look0 hD1.map hD1.names s
  have c0 := hD1.cells.1
  have HS := spend_any w1 B r m fs t q 1 hD1 (by omega)
  unfold SpRes at HS
  simp only [ne_eq, not_true, decide_false, decide_true, Nat.sub_self] at HS
  have HB := Lib.hid hb
  have HSZ := Lib.hid hsz
  clear hb hw1 hsz hD1
  have hcase : (∃ f, atF fs s = some f) ∨ (atF fs s = none ∧ fs.length < 4096) := by
    cases hx : atF fs s with
    | some f => exact .inl ⟨f, rfl⟩
    | none => exact .inr ⟨rfl, hf.elim (fun h => absurd hx h) id⟩
  rcases hcase with ⟨f, hx⟩ | ⟨hx, hl4⟩
  · rw [hx] at hk
    have k2 : (Instr.lookup 61 (.map (some m)) (.string s) false).run Try.prog w1 = .ok (.pointer (some ⟨f.fb, 0, none⟩)) w1 := hk
    clear hk hl
    go_wp2_with (go_at_call 36; go_loud (refine HS.mono ?_); rintro e w2 ⟨rfl, hD2, hk2⟩)
    go_ret
    exact ⟨rfl, hD2, (KB.low0 HB.out).trans hk2⟩
  · rw [hx] at hk
    have k2 : (Instr.lookup 61 (.map (some m)) (.string s) false).run Try.prog w1 = .ok (.pointer none) w1 := hk
    have hl5 : ((4096 : Int) ≤ (fs.length : Int)) = False := by simp; omega
    have hlen := hl 3
    clear hk hl
    go_wp2_with (go_at_call 36; go_loud (refine HS.mono ?_); rintro e w2 ⟨rfl, hD2, hk2⟩)
    go_ret
    exact ⟨rfl, hD2, (KB.low0 HB.out).trans hk2⟩
end Go.Proofs.Ytcnkgenhbnafjaa
