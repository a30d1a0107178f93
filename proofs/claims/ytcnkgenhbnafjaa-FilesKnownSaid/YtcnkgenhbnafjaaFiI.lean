/-
  Package files: Read, Used, Sync. Conditions: those in each statement.
-/
import Derived.Test.YtcnkgenhbnafjaaFiH
namespace Go.Proofs.Ytcnkgenhbnafjaa
open Go.RowKit

theorem cloneB_any (p : Option Addr) (n cap : Nat) (xs : List UInt8) (w : World) (hn : n ≤ 140737488355328) (hr : Rd w p n cap xs) :
    Calls Try.prog 48 #[.slice p n cap] w fun e w' => ∃ v, e = .returned v ∧ Own w' w.heap.size 5 v xs ∧ Below w.heap.size w w' := by
  have hl := hr.len
  have hle := hr.le
  cases p with
  | none =>
    have h0 := hr.nil rfl
    have hx : xs = [] := List.eq_nil_of_length_eq_zero (by omega)
    subst hx
    refine (Try.bytes_Clone_nil n cap w).mono ?_
    rintro e w' ⟨rfl, rfl⟩
    exact ⟨_, rfl, Own.nil _ _ _, Below.refl _ _⟩
  | some ad =>
    refine (Try.bytes_Clone_at ad n cap (xs.map fun x => (x.toNat : Int)) w (by simpa using hl) hn (fun i hi => ?_)).mono ?_
    · have := hr.cells i (.int .u8 ((xs.getD i 0).toNat : Int)) (by simp [bv, List.getD, hl, hi])
      rw [this]
      simp [List.getD, hl, hi]
    · rintro e w' ⟨v, rfl, ho, -, hb⟩
      refine ⟨v, rfl, ?_, hb⟩
      unfold Own
      rw [hl]
      have e2 : (xs.map fun x => (x.toNat : Int)).map (Value.int .u8) = xs.map bv := by rw [List.map_map]; rfl
      rw [e2] at ho
      exact ho
set_option maxRecDepth 100000 in
theorem Read_ok (w : World) (B r m : Nat) (fs : List FS) (t q u : Nat) (h : IsD w B r m fs t q u false) (s : ByteArray) (hs : nameB s = true) (f : FS) (hf : atF fs s = some f) (hlen : f.data.length ≤ 140737488355328) :
    Calls Try.prog 19 #[.pointer (some ⟨r, 0, none⟩), .string s] w fun e w' => ∃ v, e = .returned (.tuple #[v, .int .i64 0]) ∧ Own w' w.heap.size 5 v f.data ∧ Below w.heap.size w w' := by
  have H := find_ok w B r m fs t q u h s hs f hf
  have HH := Lib.hid h
  have HF := Lib.hid hf
  clear h hf hs
  go_enter Try.func19, Try.ntmps19
  go_wp2_with fail
  refine H.mono ?_
  clear H
  rintro e w1 ⟨rfl, hb1⟩
  have hF := (HH.out.to hb1).file f (atF_mem HF.out).1
  have cf := hF.arr.cell 0
  simp only [List.getElem?_cons_zero] at cf
  obtain ⟨a, c, e1⟩ := own_slice hF.row
  have hrow := hF.row
  rw [e1] at cf hrow
  have HC := cloneB_any a _ c f.data w1 hlen hrow.rd.toRd
  have HB := Lib.hid hb1
  clear hF hb1 hrow e1
  go_wp2_with (go_at_call 48; go_loud (refine HC.mono ?_); rintro e w2 ⟨v2, rfl, ho2, hb2⟩)
  go_ret2
  exact ⟨v2, rfl, ho2.mono HB.out.size, HB.out.trans (hb2.mono HB.out.size)⟩
set_option maxRecDepth 100000 in
theorem Used_any (w : World) (B r m : Nat) (fs : List FS) (t q u : Nat) (o : Bool) (h : IsD w B r m fs t q u o) : Calls Try.prog 32 #[.pointer (some ⟨r, 0, none⟩)] w fun e w' => e = .returned (.int .i64 (t : Int)) ∧ w = w' := by
  have H := is_any w B r m fs t q u o h
  have c1 := h.cells.2.1
  clear h
  go_enter Try.func32, Try.ntmps32
  go_wp2_with (go_at_call 50; refine H.mono ?_; rintro e w' ⟨rfl, rfl⟩)
  go_ret
  exact ⟨rfl, rfl⟩
/-- a file all of whose bytes last -/
abbrev synced (f : FS) : FS := { f with lasts := f.data.length }
set_option maxRecDepth 100000 in
set_option maxHeartbeats 1600000 in
theorem Sync_ok (w : World) (B r m : Nat) (fs : List FS) (t q u : Nat) (h : IsD w B r m fs t q u false) (s : ByteArray) (hs : nameB s = true) (f : FS) (hf : atF fs s = some f) (hu : u ≤ 9223372036854775807) (hu1 : u ≠ 1) :
    Calls Try.prog 13 #[.pointer (some ⟨r, 0, none⟩), .string s] w fun e w' => e = .returned (.int .i64 0) ∧ IsD w' B r m (upd1 fs (synced f)) t q (u - 1) false ∧ KB (fun k => k = r ∨ k = f.fb ∨ f.dv.ownBlock = some k) w w' := by
  have H := find_ok w B r m fs t q u h s hs f hf
  have HH := Lib.hid h
  have HF := Lib.hid hf
  clear h hf hs
  go_enter Try.func13, Try.ntmps13
  go_wp2_with fail
  refine H.mono ?_
  clear H
  rintro e w1 ⟨rfl, hb1⟩
  have hD1 := HH.out.to hb1
  have HS := spend_any w1 B r m fs t q u hD1 hu
  have e1 : decide (u ≠ 1) = true := by simpa using hu1
  have e2 : decide (u = 1) = false := by simpa using hu1
  unfold SpRes at HS
  rw [e1, e2] at HS
  have HB := Lib.hid hb1
  clear hD1 hb1 e1 e2
  go_upto_region 6 with (go_at_call 36; go_loud (refine HS.mono ?_); rintro e w2 ⟨rfl, hD2, hk2⟩)
  have hF := hD2.file f (atF_mem HF.out).1
  have cf := hF.arr.cell 0
  have hArr := hF.arr
  simp only [List.getElem?_cons_zero] at cf
  obtain ⟨a, c, e1⟩ := own_slice hF.row
  rw [e1] at cf
  have HDD := Lib.hid hD2
  have HFF := Lib.hid hF
  have HE := Lib.hid e1
  clear hD2 hF HS e1
  go_wp2_with ((with_reducible show wpList _ _ _ (⟨none, .store _ _ _, _, _, _, _⟩ :: _) _ _); go_loud (refine wl_store1 rfl 3 _ _ rfl f.fb 1 rfl (.int .i64 (f.data.length : Int)) rfl rfl rfl 71 _ hArr infoD1 (by simp) ?_); intro w3 hA3 hg3 hs3)
  go_ret
  simp only [List.set_cons_succ, List.set_cons_zero] at hA3
  obtain ⟨a1, a2⟩ := HDD.out.apart
  obtain ⟨b1, b2, b3⟩ := a2 f (atF_mem HF.out).1
  have hkb : KB (fun k => k = r ∨ k = f.fb ∨ f.dv.ownBlock = some k) w2 w3 := (KB.refl _ w2).grown hg3 (.inr (.inl rfl))
  have hG : IsF w3 B (synced f) := ⟨hA3, HFF.out.row.by' fun k hk => hg3.block k (own_lt HFF.out.row hk).2 (by intro e; injection e with e; exact (b3 k hk).2.2 f (atF_mem HF.out).1 e), Nat.le_refl _, HFF.out.base⟩
  refine ⟨rfl, HDD.out.upd (g := synced f) (atF_mem HF.out).1 rfl rfl hkb (HDD.out.arr.grown hg3 (by intro e; injection e with e; exact b1 e.symm)) hG (fun k hk => .inl hk), ?_⟩
  exact ((KB.low0 HB.out).trans (hk2.mono fun k e => .inl e)).trans hkb
end Go.Proofs.Ytcnkgenhbnafjaa
