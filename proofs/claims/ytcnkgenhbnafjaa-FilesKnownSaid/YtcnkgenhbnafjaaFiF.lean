/-
  Package files: New, Create. Conditions: those in each statement.
-/
import Derived.Test.YtcnkgenhbnafjaaFiE
namespace Go.Proofs.Ytcnkgenhbnafjaa
open Go.RowKit

theorem IsF.under {w : World} {B B' : Nat} {f : FS} (h : IsF w B f) (hb : B' ≤ B) : IsF w B' f := ⟨h.arr, h.row.mono hb, h.le, Nat.le_trans hb h.base⟩
theorem IsD.under {w : World} {B B' r m : Nat} {fs : List FS} {t q u : Nat} {o : Bool} (h : IsD w B r m fs t q u o) (hb : B' ≤ B) : IsD w B' r m fs t q u o :=
  ⟨h.arr, h.map, h.names, h.blocks, fun f hf => (h.file f hf).under hb, h.rows, Nat.le_trans hb h.base.1, Nat.le_trans hb h.base.2⟩
set_option maxRecDepth 100000 in
theorem New_any (q : Nat) (hq : q ≤ 9223372036854775807) (w : World) : Calls Try.prog 7 #[.int .i64 (q : Int)] w fun e w' => ∃ r m, e = .returned (.tuple #[.pointer (some ⟨r, 0, none⟩), .int .i64 0]) ∧ IsD w' w.heap.size r m [] 0 q 0 false ∧ Below w.heap.size w w' := by
  have hmm : ∀ (w : World), (Instr.makeMap 61 none).run Try.prog w = .ok (.map (some w.heap.size)) (w.alloc (.map #[] 0)) := fun w => by
    simp [Instr.makeMap, Result.andThen]
  have hq0 : ¬ ((q : Int) < 0) := by omega
  go_enter Try.func7, Try.ntmps7
  go_wp2
  go_ret2
  have h1 : MapR GStr ((w.alloc (.map #[] 0)).alloc (.cells #[.map (some w.heap.size), .int .i64 0, .int .i64 (q : Int), .int .i64 0, .bool false] 63)) w.heap.size [] := mapS (MapR.new w) (by
    have := Below.refl (w.alloc (.map #[] 0)).heap.size (w.alloc (.map #[] 0))
    exact (this.alloc (Nat.le_refl _) _).block _ (by simp))
  refine ⟨w.heap.size + 1, rfl, ⟨w.heap.size, ⟨?_, h1, by simp, by simp, by simp, by simp, by omega, by omega⟩⟩, ((Below.refl _ _).alloc (Nat.le_refl _) _).alloc (by simp) _⟩
  have := Arr.new (w.alloc (.map #[] 0)) 63 [.map (some w.heap.size), .int .i64 0, .int .i64 (q : Int), .int .i64 0, .bool false]
  rw [World.size_alloc] at this
  exact this
set_option maxRecDepth 100000 in
theorem New_bad (q : Int) (hq : q < 0) (w : World) : Calls Try.prog 7 #[.int .i64 q] w fun e w' => e = .returned (.tuple #[.pointer none, .int .i64 1]) ∧ w = w' := by
  go_enter Try.func7, Try.ntmps7
  go_wp2
  go_ret2
  exact ⟨rfl, rfl⟩
theorem KB.low0 {S : Nat → Prop} {w w' : World} (hb : Below w.heap.size w w') : KB S w w' := (KB.refl S w).below hb
set_option maxRecDepth 100000 in
theorem Create_bad (w : World) (B r m : Nat) (fs : List FS) (t q u : Nat) (o : Bool) (h : IsD w B r m fs t q u o) (s : ByteArray) (hs : s.size ≤ 140737488355328) (hc : chk o [s] ≠ 0) :
    Calls Try.prog 9 #[.pointer (some ⟨r, 0, none⟩), .string s] w fun e w' => e = .returned (.int .i64 (chk o [s])) ∧ Below w.heap.size w w' := by
  have hb : Below w.heap.size w (w.alloc (.cells ([s].map Value.string).toArray 9)) := (Below.refl _ _).alloc (Nat.le_refl _) _
  have H := check_any _ B r m fs t q u o (h.to hb) _ _ _ _ [s] (rds_lit w [s]) (by simp) (by simpa using hs)
  have hz : (chk o [s] == 0) = false := by simpa using hc
  obtain ⟨x, hx⟩ : ∃ x, x = chk o [s] := ⟨_, rfl⟩
  rw [← hx] at H hz ⊢
  clear hx hc h
  go_enter Try.func9, Try.ntmps9
  go_wp2_with (go_at_call 35; go_loud (refine H.mono ?_); rintro e w1 ⟨rfl, rfl⟩)
  go_ret
  exact ⟨rfl, hb⟩
theorem map_len0 {w : World} {m : Nat} {fs : List FS} (h : MapR GStr w m (fs.map ent)) (ty : TypeId) : (Builtin.len_ #[61] ty #[.map (some m)]).run Try.prog w = .ok (.int .i64 (fs.length : Int)) w := by
  have := map_len Try.underlying61 h ty
  rwa [List.length_map] at this
/-- a new file -/
abbrev fresh (s : ByteArray) (fb : Nat) : FS := ⟨s, fb, .slice none 0 0, [], 0⟩
set_option maxRecDepth 100000 in
set_option maxHeartbeats 1600000 in
theorem Create_ok (w : World) (B r m : Nat) (fs : List FS) (t q u : Nat) (h : IsD w B r m fs t q u false) (s : ByteArray) (hs : nameB s = true) (ht : total fs ≤ t) (ht2 : t ≤ 9223372036854775807) (hu : u ≤ 9223372036854775807) (hf : atF fs s ≠ none ∨ fs.length < 4096) (hu1 : u ≠ 1) :
    Calls Try.prog 9 #[.pointer (some ⟨r, 0, none⟩), .string s] w fun e w' => e = .returned (.int .i64 0) ∧ ∃ fb, w.heap.size ≤ fb ∧ IsD w' B r m (del fs s ++ [fresh s fb]) (t - ((atF fs s).elim 0 fun f => f.data.length)) q (u - 1) false ∧ KB (fun k => k = r ∨ k = m) w w' := by
  have hs2 : s.size ≤ 32 := by
    unfold nameB at hs
    simp only [Bool.and_eq_true, decide_eq_true_eq] at hs
    exact hs.1.2
  have hb : Below w.heap.size w (w.alloc (.cells #[.string s] 9)) := (Below.refl _ _).alloc (Nat.le_refl _) _
  have H := check_any _ B r m fs t q u false (h.to hb) _ _ _ _ [s] (rds_lit w [s]) (by simp) (by simp; omega)
  have hz : chk false [s] = 0 := by simp [chk, hs]
  rw [hz] at H
  have hsz : (w.alloc (.cells #[.string s] 9)).heap.size = w.heap.size + 1 := by simp
  obtain ⟨t', ht'⟩ : ∃ t', t' = t - ((atF fs s).elim 0 fun f => f.data.length) := ⟨_, rfl⟩
  rw [← ht']
  have e1 : decide (u ≠ 1) = true := by simpa using hu1
  have e2 : decide (u = 1) = false := by simpa using hu1
  have HT := Lib.hid ht'
  have HH := Lib.hid h
  clear ht' h hs hz
  go_enter Try.func9, Try.ntmps9
  go_wp2_with fail
  refine H.mono ?_
  clear H
  rintro e w1 ⟨rfl, hw1⟩
  rw [hw1] at hb hsz
  have hD1 := HH.out.to hb
  have hl := map_len0 hD1.map
  have hk := look0 hD1.map hD1.names s
  have c0 := hD1.cells.1
  have HS := spend_any w1 B r m fs t q u hD1 hu
  unfold SpRes at HS
  rw [e1, e2] at HS
  have HB := Lib.hid hb
  have HSZ := Lib.hid hsz
  clear hb hw1 hsz hD1 e1 e2
  have hcase : (∃ f, atF fs s = some f) ∨ (atF fs s = none ∧ fs.length < 4096) := by
    cases hx : atF fs s with
    | some f => exact .inl ⟨f, rfl⟩
    | none => exact .inr ⟨rfl, hf.elim (fun h => absurd hx h) id⟩
  have HP : Hid (∀ w2, IsD w2 B r m fs t q (u - 1) false → KB (fun k => k = r) w1 w2 → Calls Try.prog 37 #[.pointer (some ⟨r, 0, none⟩), .string s, .pointer (some ⟨w2.heap.size, 0, none⟩)] (w2.alloc (.cells #[.slice none 0 0, .int .i64 0] 71)) fun e w' => e = .returned (.tuple #[]) ∧ ∃ fb, w.heap.size ≤ fb ∧ IsD w' B r m (del fs s ++ [fresh s fb]) t' q (u - 1) false ∧ KB (fun k => k = r ∨ k = m) w w') := fun w2 hD2 hk2 => by
    have hb2 : Below w2.heap.size w2 (w2.alloc (.cells #[.slice none 0 0, .int .i64 0] 71)) := (Below.refl _ _).alloc (Nat.le_refl _) _
    have hD3 := hD2.to hb2
    have hlt : ∀ {k}, foot r m fs k → k < w2.heap.size := fun hk => (hD2.lt hk).1
    have hsz2 : w.heap.size < w2.heap.size := by have := hk2.size; have := HSZ.out; omega
    have hf0 : IsF (w2.alloc (.cells #[.slice none 0 0, .int .i64 0] 71)) B (fresh s w2.heap.size) := ⟨Arr.new w2 _ _, Own.nil _ _ _, Nat.le_refl _, by have := (hD2.lt (.inl rfl)); show B ≤ w2.heap.size; omega⟩
    refine (put_any _ B r m fs t q (u - 1) false hD3 (fresh s w2.heap.size) (by show s.size ≤ _; omega) ht ht2 hf0 (fun f hf _ e => ?_) (fun f hf _ k _ e => by cases e) ⟨fun e => ?_, fun e => ?_, fun k e => by cases e⟩).mono fun e w' hres => ?_
    · have h1 : f.fb < w2.heap.size := hlt (.inr (.inr ⟨f, hf, .inl rfl⟩))
      have h2 : f.fb = w2.heap.size := e
      omega
    · have h1 : r < w2.heap.size := hlt (.inl rfl)
      have h2 : w2.heap.size = r := e
      omega
    · have h1 : m < w2.heap.size := hlt (.inr (.inl rfl))
      have h2 : w2.heap.size = m := e
      omega
    · obtain ⟨h1, h2, h3⟩ := hres
      refine ⟨h1, w2.heap.size, by omega, by rw [HT.out]; exact h2, ?_⟩
      exact ((KB.low0 (S := fun k => k = r ∨ k = m) HB.out).trans ((hk2.mono fun k e => .inl e).below hb2)).trans h3
  rcases hcase with ⟨f, hx⟩ | ⟨hx, hl4⟩
  · rw [hx] at hk
    have k2 : (Instr.lookup 61 (.map (some m)) (.string s) false).run Try.prog w1 = .ok (.pointer (some ⟨f.fb, 0, none⟩)) w1 := hk
    clear hk hl
    go_wp2_with (first
      | (go_at_call 36; go_loud (refine HS.mono ?_); rintro e w2 ⟨rfl, hD2, hk2⟩; (have HP2 := HP.out w2 hD2 hk2))
      | (go_at_call 37; go_loud (refine HP2.mono ?_); rintro e w4 ⟨rfl, hR4⟩))
    go_ret
    exact ⟨rfl, hR4⟩
  · rw [hx] at hk
    have k2 : (Instr.lookup 61 (.map (some m)) (.string s) false).run Try.prog w1 = .ok (.pointer none) w1 := hk
    have hl5 : ((4096 : Int) ≤ (fs.length : Int)) = False := by simp; omega
    have hlen := hl 3
    clear hk hl
    go_wp2_with (first
      | (go_at_call 36; go_loud (refine HS.mono ?_); rintro e w2 ⟨rfl, hD2, hk2⟩; (have HP2 := HP.out w2 hD2 hk2))
      | (go_at_call 37; go_loud (refine HP2.mono ?_); rintro e w4 ⟨rfl, hR4⟩))
    go_ret
    exact ⟨rfl, hR4⟩
end Go.Proofs.Ytcnkgenhbnafjaa
