/-
  Package files: the errors of find; Off, Quota, Fuse, Loose. Conditions: those in each statement.
-/
import Derived.Test.YtcnkgenhbnafjaaFiU
namespace Go.Proofs.Ytcnkgenhbnafjaa
open Go.RowKit

theorem find_two (w : World) (B r m : Nat) (fs : List FS) (t q u : Nat) (o : Bool) (h : IsD w B r m fs t q u o) (s s' : ByteArray) (hs : s.size ≤ 140737488355328) (hs' : s'.size ≤ 140737488355328) :
    Calls Try.prog 42 #[.pointer (some ⟨r, 0, none⟩), .slice (some ⟨w.heap.size, 0, none⟩) 2 2] (w.alloc (.cells #[.string s, .string s'] 9)) fun e w' => e = .returned (.tuple #[pF (fnd o [s, s'] fs).1, .int .i64 (fnd o [s, s'] fs).2]) ∧ Below w.heap.size w w' := by
  have hb : Below w.heap.size w (w.alloc (.cells #[.string s, .string s'] 9)) := (Below.refl _ _).alloc (Nat.le_refl _) _
  refine (find_any _ B r m fs t q u o (h.to hb) _ _ _ _ [s, s'] (rds_lit w [s, s']) (by simp) (by simp) (by intro x hx; simp at hx; rcases hx with rfl | rfl <;> assumption)).mono fun e w' ⟨h1, h2⟩ => ⟨h1, hb.trans (h2.mono (by simp))⟩
set_option maxRecDepth 100000 in
theorem Append_bad (w : World) (B r m : Nat) (fs : List FS) (t q u : Nat) (o : Bool) (h : IsD w B r m fs t q u o) (s : ByteArray) (hs : s.size ≤ 140737488355328) (v : Value) (hc : (fnd o [s] fs).2 ≠ 0) :
    Calls Try.prog 11 #[.pointer (some ⟨r, 0, none⟩), .string s, v] w fun e w' => e = .returned (.int .i64 (fnd o [s] fs).2) ∧ Below w.heap.size w w' := by
  have H := find_one w B r m fs t q u o h s hs
  have hz : ((fnd o [s] fs).2 == 0) = false := by simpa using hc
  obtain ⟨x, hx⟩ : ∃ x, x = (fnd o [s] fs).2 := ⟨_, rfl⟩
  obtain ⟨pf, hpf⟩ : ∃ pf, pf = pF (fnd o [s] fs).1 := ⟨_, rfl⟩
  rw [← hx, ← hpf] at H
  rw [← hx] at hz ⊢
  clear hx hc h hpf
  go_enter Try.func11, Try.ntmps11
  go_wp2_with (go_at_call 42; go_loud (refine H.mono ?_); rintro e w1 ⟨rfl, hb1⟩)
  go_ret
  exact ⟨rfl, hb1⟩
set_option maxRecDepth 100000 in
theorem Sync_bad (w : World) (B r m : Nat) (fs : List FS) (t q u : Nat) (o : Bool) (h : IsD w B r m fs t q u o) (s : ByteArray) (hs : s.size ≤ 140737488355328) (hc : (fnd o [s] fs).2 ≠ 0) :
    Calls Try.prog 13 #[.pointer (some ⟨r, 0, none⟩), .string s] w fun e w' => e = .returned (.int .i64 (fnd o [s] fs).2) ∧ Below w.heap.size w w' := by
  have H := find_one w B r m fs t q u o h s hs
  have hz : ((fnd o [s] fs).2 == 0) = false := by simpa using hc
  obtain ⟨x, hx⟩ : ∃ x, x = (fnd o [s] fs).2 := ⟨_, rfl⟩
  obtain ⟨pf, hpf⟩ : ∃ pf, pf = pF (fnd o [s] fs).1 := ⟨_, rfl⟩
  rw [← hx, ← hpf] at H
  rw [← hx] at hz ⊢
  clear hx hc h hpf
  go_enter Try.func13, Try.ntmps13
  go_wp2_with (go_at_call 42; go_loud (refine H.mono ?_); rintro e w1 ⟨rfl, hb1⟩)
  go_ret
  exact ⟨rfl, hb1⟩
set_option maxRecDepth 100000 in
theorem Read_bad (w : World) (B r m : Nat) (fs : List FS) (t q u : Nat) (o : Bool) (h : IsD w B r m fs t q u o) (s : ByteArray) (hs : s.size ≤ 140737488355328) (hc : (fnd o [s] fs).2 ≠ 0) :
    Calls Try.prog 19 #[.pointer (some ⟨r, 0, none⟩), .string s] w fun e w' => e = .returned (.tuple #[.slice none 0 0, .int .i64 (fnd o [s] fs).2]) ∧ Below w.heap.size w w' := by
  have H := find_one w B r m fs t q u o h s hs
  have hz : ((fnd o [s] fs).2 == 0) = false := by simpa using hc
  obtain ⟨x, hx⟩ : ∃ x, x = (fnd o [s] fs).2 := ⟨_, rfl⟩
  obtain ⟨pf, hpf⟩ : ∃ pf, pf = pF (fnd o [s] fs).1 := ⟨_, rfl⟩
  rw [← hx, ← hpf] at H
  rw [← hx] at hz ⊢
  clear hx hc h hpf
  go_enter Try.func19, Try.ntmps19
  go_wp2_with (go_at_call 42; go_loud (refine H.mono ?_); rintro e w1 ⟨rfl, hb1⟩)
  go_ret2
  exact ⟨rfl, hb1⟩
set_option maxRecDepth 100000 in
theorem Loose_bad (w : World) (B r m : Nat) (fs : List FS) (t q u : Nat) (o : Bool) (h : IsD w B r m fs t q u o) (s : ByteArray) (hs : s.size ≤ 140737488355328) (hc : (fnd o [s] fs).2 ≠ 0) :
    Calls Try.prog 22 #[.pointer (some ⟨r, 0, none⟩), .string s] w fun e w' => e = .returned (.tuple #[.int .i64 0, .int .i64 (fnd o [s] fs).2]) ∧ Below w.heap.size w w' := by
  have H := find_one w B r m fs t q u o h s hs
  have hz : ((fnd o [s] fs).2 == 0) = false := by simpa using hc
  obtain ⟨x, hx⟩ : ∃ x, x = (fnd o [s] fs).2 := ⟨_, rfl⟩
  obtain ⟨pf, hpf⟩ : ∃ pf, pf = pF (fnd o [s] fs).1 := ⟨_, rfl⟩
  rw [← hx, ← hpf] at H
  rw [← hx] at hz ⊢
  clear hx hc h hpf
  go_enter Try.func22, Try.ntmps22
  go_wp2_with (go_at_call 42; go_loud (refine H.mono ?_); rintro e w1 ⟨rfl, hb1⟩)
  go_ret2
  exact ⟨rfl, hb1⟩
set_option maxRecDepth 100000 in
theorem Remove_bad (w : World) (B r m : Nat) (fs : List FS) (t q u : Nat) (o : Bool) (h : IsD w B r m fs t q u o) (s : ByteArray) (hs : s.size ≤ 140737488355328) (hc : (fnd o [s] fs).2 ≠ 0) :
    Calls Try.prog 17 #[.pointer (some ⟨r, 0, none⟩), .string s] w fun e w' => e = .returned (.int .i64 (fnd o [s] fs).2) ∧ Below w.heap.size w w' := by
  have H := find_one w B r m fs t q u o h s hs
  have hz : ((fnd o [s] fs).2 == 0) = false := by simpa using hc
  obtain ⟨x, hx⟩ : ∃ x, x = (fnd o [s] fs).2 := ⟨_, rfl⟩
  obtain ⟨pf, hpf⟩ : ∃ pf, pf = pF (fnd o [s] fs).1 := ⟨_, rfl⟩
  rw [← hx, ← hpf] at H
  rw [← hx] at hz ⊢
  clear hx hc h hpf
  go_enter Try.func17, Try.ntmps17
  go_wp2_with (go_at_call 42; go_loud (refine H.mono ?_); rintro e w1 ⟨rfl, hb1⟩)
  go_ret
  exact ⟨rfl, hb1⟩
set_option maxRecDepth 100000 in
theorem Rename_bad (w : World) (B r m : Nat) (fs : List FS) (t q u : Nat) (o : Bool) (h : IsD w B r m fs t q u o) (s s' : ByteArray) (hs : s.size ≤ 140737488355328) (hs' : s'.size ≤ 140737488355328) (hc : (fnd o [s, s'] fs).2 ≠ 0) :
    Calls Try.prog 15 #[.pointer (some ⟨r, 0, none⟩), .string s, .string s'] w fun e w' => e = .returned (.int .i64 (fnd o [s, s'] fs).2) ∧ Below w.heap.size w w' := by
  have H := find_two w B r m fs t q u o h s s' hs hs'
  have hz : ((fnd o [s, s'] fs).2 == 0) = false := by simpa using hc
  obtain ⟨x, hx⟩ : ∃ x, x = (fnd o [s, s'] fs).2 := ⟨_, rfl⟩
  obtain ⟨pf, hpf⟩ : ∃ pf, pf = pF (fnd o [s, s'] fs).1 := ⟨_, rfl⟩
  rw [← hx, ← hpf] at H
  rw [← hx] at hz ⊢
  clear hx hc h hpf
  go_enter Try.func15, Try.ntmps15
  go_wp2_with (go_at_call 42; go_loud (refine H.mono ?_); rintro e w1 ⟨rfl, hb1⟩)
  go_ret
  exact ⟨rfl, hb1⟩
theorem Off_any (w : World) (B r m : Nat) (fs : List FS) (t q u : Nat) (o : Bool) (h : IsD w B r m fs t q u o) : Calls Try.prog 34 #[.pointer (some ⟨r, 0, none⟩)] w fun e w' => e = .returned (.bool o) ∧ w = w' := by
  have H := is_any w B r m fs t q u o h
  obtain ⟨-, -, -, -, c4⟩ := h.cells
  clear h
  go_enter Try.func34, Try.ntmps34
  go_wp2_with (go_at_call 50; refine H.mono ?_; rintro e w1 ⟨rfl, rfl⟩)
  go_ret
  exact ⟨rfl, rfl⟩
set_option maxRecDepth 100000 in
theorem Quota_any (w : World) (B r m : Nat) (fs : List FS) (t q u : Nat) (o : Bool) (h : IsD w B r m fs t q u o) (x : Nat) : Calls Try.prog 24 #[.pointer (some ⟨r, 0, none⟩), .int .i64 (x : Int)] w fun e w' => e = .returned (.tuple #[]) ∧ IsD w' B r m fs t x u o ∧ KB (fun k => k = r) w w' := by
  have H := is_any w B r m fs t q u o h
  have HA := h.arr
  have hx0 : max (x : Int) 0 = (x : Int) := by omega
  have HD := Lib.hid h
  clear h
  go_enter Try.func24, Try.ntmps24
  go_wp2_with (first
    | (go_at_call 50; refine H.mono ?_; rintro e w1 ⟨rfl, rfl⟩)
    | ((with_reducible show wpList _ _ _ (⟨none, .store _ _ _, _, _, _, _⟩ :: _) _ _); go_loud (refine wl_store1 rfl 3 _ _ rfl r 2 rfl (.int .i64 (x : Int)) rfl rfl rfl 63 _ HA infoD1 (by simp) ?_); intro w2 hA2 hg2 hs2; simp only [List.set_cons_succ, List.set_cons_zero] at hA2))
  have hk : KB (fun k => k = r) w w2 := (KB.refl (fun k => k = r) w).grown hg2 rfl
  exact bodyPost_end (results_none rfl _ _ _) rfl ⟨rfl, HD.out.turn1 hk hA2, hk⟩
set_option maxRecDepth 100000 in
theorem Fuse_any (w : World) (B r m : Nat) (fs : List FS) (t q u : Nat) (o : Bool) (h : IsD w B r m fs t q u o) (x : Nat) : Calls Try.prog 26 #[.pointer (some ⟨r, 0, none⟩), .int .i64 (x : Int)] w fun e w' => e = .returned (.tuple #[]) ∧ IsD w' B r m fs t q x o ∧ KB (fun k => k = r) w w' := by
  have H := is_any w B r m fs t q u o h
  have HA := h.arr
  have hx0 : max (x : Int) 0 = (x : Int) := by omega
  have HD := Lib.hid h
  clear h
  go_enter Try.func26, Try.ntmps26
  go_wp2_with (first
    | (go_at_call 50; refine H.mono ?_; rintro e w1 ⟨rfl, rfl⟩)
    | ((with_reducible show wpList _ _ _ (⟨none, .store _ _ _, _, _, _, _⟩ :: _) _ _); go_loud (refine wl_store1 rfl 3 _ _ rfl r 3 rfl (.int .i64 (x : Int)) rfl rfl rfl 63 _ HA infoD1 (by simp) ?_); intro w2 hA2 hg2 hs2; simp only [List.set_cons_succ, List.set_cons_zero] at hA2))
  have hk : KB (fun k => k = r) w w2 := (KB.refl (fun k => k = r) w).grown hg2 rfl
  exact bodyPost_end (results_none rfl _ _ _) rfl ⟨rfl, HD.out.turn1 hk hA2, hk⟩
end Go.Proofs.Ytcnkgenhbnafjaa
