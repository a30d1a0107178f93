/-
  Package files: Rename. Conditions: those in each statement.
-/
import Derived.Test.YtcnkgenhbnafjaaFiV
namespace Go.Proofs.Ytcnkgenhbnafjaa
open Go.RowKit

theorem fnd_two {s s' : ByteArray} {fs : List FS} {f : FS} (hs : nameB s = true) (hs' : nameB s' = true) (hf : atF fs s = some f) : fnd false [s, s'] fs = (some f, 0) := by
  unfold fnd
  rw [if_pos (by simp [chk, hs, hs'])]
  simp only [List.getD_cons_zero]
  rw [hf]
/-- a file under another name -/
abbrev named (f : FS) (s : ByteArray) : FS := { f with name := s }
set_option maxRecDepth 100000 in
set_option maxHeartbeats 1600000 in
theorem Rename_ok (w : World) (B r m : Nat) (fs : List FS) (t q u : Nat) (h : IsD w B r m fs t q u false) (s s' : ByteArray) (hs : nameB s = true) (hs' : nameB s' = true) (f : FS) (hf : atF fs s = some f) (ht : total fs ≤ t) (ht2 : t ≤ 9223372036854775807) (hu : u ≤ 9223372036854775807) (hu1 : u ≠ 1) :
    Calls Try.prog 15 #[.pointer (some ⟨r, 0, none⟩), .string s, .string s'] w fun e w' => e = .returned (.int .i64 0) ∧ IsD w' B r m (del (del fs s) s' ++ [named f s']) (t - ((atF (del fs s) s').elim 0 fun f => f.data.length)) q (u - 1) false ∧ KB (fun k => k = r ∨ k = m) w w' := by
  have H := find_two w B r m fs t q u false h s s' (by have := name_size hs; omega) (by have := name_size hs'; omega)
  rw [fnd_two hs hs' hf] at H
  have hlen' : s'.size ≤ 140737488355328 := by have := name_size hs'; omega
  have HH := Lib.hid h
  have HF := Lib.hid hf
  clear h hf hs hs'
  have H : Calls Try.prog 42 #[.pointer (some ⟨r, 0, none⟩), .slice (some ⟨w.heap.size, 0, none⟩) 2 2] (w.alloc (.cells #[.string s, .string s'] 9)) fun e w' => e = .returned (.tuple #[.pointer (some ⟨f.fb, 0, none⟩), .int .i64 0]) ∧ Below w.heap.size w w' := H
  obtain ⟨t', ht'⟩ : ∃ t', t' = t - ((atF (del fs s) s').elim 0 fun f => f.data.length) := ⟨_, rfl⟩
  rw [← ht']
  have HT := Lib.hid ht'
  clear ht'
  go_enter Try.func15, Try.ntmps15
  go_wp2_with fail
  refine H.mono ?_
  clear H
  rintro e w1 ⟨rfl, hb1⟩
  have hD1 := HH.out.to hb1
  have HS := spend_any w1 B r m fs t q u hD1 hu
  have e1 : decide (u ≠ 1) = true := by simpa using hu1
  have e2 : decide (u = 1) = false := by simpa using hu1
  unfold SpRes at HS
  rw [e1, e2] at HS
  have HB := Lib.hid hb1
  clear hD1 hb1 e1 e2
  go_upto_region 6 with (go_at_call 36; go_loud (refine HS.mono ?_); rintro e w2 ⟨rfl, hD2, hk2⟩)
  have c0 := hD2.cells.1
  have HD2 := Lib.hid hD2
  have hP : ∀ w3, MapR GStr w3 m ((del fs s).map ent) → w2.grownBy w3 (some m) → Calls Try.prog 37 #[.pointer (some ⟨r, 0, none⟩), .string s', .pointer (some ⟨f.fb, 0, none⟩)] w3 fun e w' => e = .returned (.tuple #[]) ∧ IsD w' B r m (del (del fs s) s' ++ [named f s']) t' q (u - 1) false ∧ KB (fun k => k = r ∨ k = m) w w' := fun w3 hm3 hg3 => by
    have hk3 : KB (fun k => k = r ∨ k = m) w2 w3 := (KB.refl _ w2).grown hg3 (.inr rfl)
    obtain ⟨p1, p2⟩ := HD2.out.apart
    obtain ⟨hfm, hfn⟩ := atF_mem HF.out
    obtain ⟨q1, q2, q3⟩ := p2 f hfm
    have hD3 := HD2.out.fewer s hk3 (HD2.out.arr.grown hg3 (by intro e; injection e with e; exact p1 e.symm)) hm3
    have hGf : IsF w3 B f := (HD2.out.file f hfm).kept (hk3.block _ (HD2.out.file f hfm).arr.lt (fun h => h.elim q1 q2)) fun k hk => hk3.block k (own_lt (HD2.out.file f hfm).row hk).2 (fun h => h.elim (q3 k hk).1 (q3 k hk).2.1)
    have hG : IsF w3 B (named f s') := ⟨hGf.arr, hGf.row, hGf.le, hGf.base⟩
    have htd := total_del HD2.out.names HF.out
    refine (put_any w3 B r m _ t q (u - 1) false hD3 (named f s') hlen' (by omega) ht2 hG (fun x hx _ => ?_) (fun x hx _ => ?_) ⟨q1, q2, fun k hk => ⟨(q3 k hk).1, (q3 k hk).2.1⟩⟩).mono fun e w' hres => ?_
    · obtain ⟨hx1, hx2⟩ := del_mem.1 hx
      exact (HD2.out.two hfm hx1 (by rw [hfn]; exact hx2)).1
    · obtain ⟨hx1, hx2⟩ := del_mem.1 hx
      exact (HD2.out.two hfm hx1 (by rw [hfn]; exact hx2)).2
    · obtain ⟨h1, h2, h3⟩ := hres
      refine ⟨h1, by rw [HT.out]; exact h2, ?_⟩
      exact (((KB.low0 HB.out).trans (hk2.mono fun k e => .inl e)).trans hk3).trans h3
  clear hD2 HS
  go_wp2_with (first
    | ((with_reducible show wpList _ _ _ (⟨none, .call _, _, _, _, _⟩ :: _) _ _); go_loud (refine wl_del rfl _ _ rfl rfl rfl HD2.out.map HD2.out.names HF.out ?_); intro w3 hm3 hg3 hs3)
    | (go_at_call 37; go_loud (refine (hP w3 hm3 hg3).mono ?_); rintro e w4 ⟨rfl, hD4, hk4⟩))
  go_ret
  exact ⟨rfl, hD4, hk4⟩
end Go.Proofs.Ytcnkgenhbnafjaa
