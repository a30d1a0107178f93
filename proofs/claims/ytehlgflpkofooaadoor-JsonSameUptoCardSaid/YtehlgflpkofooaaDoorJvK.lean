/-
  The program's reader: numbers. Conditions: those in each statement.
-/
import Derived.Test.YtehlgflpkofooaaDoorJvI
import Derived.Lib.AtoiErrMem
namespace Go.Proofs.YtehlgflpkofooaaDoor
open Go.RowKit

theorem fold_ge (l : List UInt8) : ∀ acc : Nat, acc ≤ l.foldl (fun n c => 10 * n + (c.toNat - 48)) acc := by
  induction l with
  | nil => intro acc; exact Nat.le_refl _
  | cons c r ih => intro acc; rw [List.foldl_cons]; exact Nat.le_trans (by omega) (ih _)
theorem parse_fold (l : List UInt8) : ∀ acc : Nat, (∀ c ∈ l, isDigit c = true) → acc < 18446744073709551616 → Lib.parseUintM (2 ^ 64 - 1) acc l = if l.foldl (fun n c => 10 * n + (c.toNat - 48)) acc < 18446744073709551616 then .ok (l.foldl (fun n c => 10 * n + (c.toNat - 48)) acc) else .range := by
  induction l with
  | nil => intro acc _ ha; rw [List.foldl_nil, if_pos ha]; rfl
  | cons c r ih =>
    intro acc hd ha
    have hc := hd c (List.mem_cons_self ..)
    have hc1 : 48 ≤ c.toNat ∧ c.toNat ≤ 57 := by simpa [isDigit] using hc
    unfold Lib.parseUintM
    rw [if_pos hc1, List.foldl_cons]
    have hge := fold_ge r (10 * acc + (c.toNat - 48))
    split
    · rw [if_neg (by omega)]
    · split
      · rw [if_neg (by omega)]
      · rw [show acc * 10 + (c.toNat - 48) = 10 * acc + (c.toNat - 48) by omega]
        exact ih _ (fun d hd' => hd d (List.mem_cons_of_mem _ hd')) (by omega)
theorem parse_digits (l : List UInt8) (h : ∀ c ∈ l, isDigit c = true) : Lib.parseUintB 64 l = if l = [] then Lib.NumEnd.syntax else if valD l < 18446744073709551616 then .ok (valD l) else .range := by
  unfold Lib.parseUintB
  split
  · rfl
  · exact parse_fold l 0 h (by omega)

/-- strconv.ParseUint of digits -/
theorem parse_any (l : List UInt8) (h : ∀ c ∈ l, isDigit c = true) (hl : l.length ≤ 281474976710656) (w : World) (hT : Tabs w) :
    Calls Tryd.prog 77 #[.string (bstr l), .int .i64 10, .int .i64 64] w fun e w' => Below w.heap.size w w' ∧
      ((l ≠ [] ∧ valD l < 18446744073709551616 ∧ e = .returned (.tuple #[.int .u64 (valD l : Int), .nilIface])) ∨ (¬ (l ≠ [] ∧ valD l < 18446744073709551616) ∧ ∃ (u : Int) (t : TypeId) (p : Value), e = .returned (.tuple #[.int .u64 u, .iface t p]))) := by
  have hp := parse_digits l h
  have hsz := bstr_size l
  rw [← bstr_data l] at hp
  by_cases h0 : l = []
  · rw [if_pos (by rw [bstr_data]; exact h0)] at hp
    obtain ⟨te, pe, he⟩ := hT.syn
    refine (Tryd.strconv_ParseUint_10_at64_syntax (bstr l) (by rw [hsz]; exact hl) hp _ w he (.inr ⟨te, pe, rfl⟩)).mono ?_
    rintro e w' ⟨N, rfl, -, -, hb⟩
    exact ⟨hb, .inr ⟨fun hh => hh.1 h0, _, _, _, rfl⟩⟩
  · rw [if_neg (by rw [bstr_data]; exact h0), bstr_data] at hp
    by_cases hv : valD l < 18446744073709551616
    · rw [if_pos hv] at hp
      refine (Tryd.strconv_ParseUint_10_at64_ok (bstr l) (by rw [hsz]; omega) _ (by rw [bstr_data]; exact hp) w).mono ?_
      rintro e w' ⟨rfl, hw⟩
      refine ⟨?_, .inl ⟨h0, hv, rfl⟩⟩
      rcases hw with rfl | rfl
      · exact Below.refl _ _
      · exact Lib.bytesWorld_below _ _ _
    · rw [if_neg hv] at hp
      obtain ⟨te, pe, he⟩ := hT.rng
      refine (Tryd.strconv_ParseUint_10_at64_range (bstr l) (by rw [hsz]; exact hl) (by rw [bstr_data]; exact hp) _ w he (.inr ⟨te, pe, rfl⟩)).mono ?_
      rintro e w' ⟨N, rfl, -, -, hb⟩
      exact ⟨hb, .inr ⟨fun hh => hv hh.2, _, _, _, rfl⟩⟩

/-- what a reader of values without others answers: kind, string, number, what is left -/
def FlatRes (res : Option (Nat × List UInt8 × Nat × List UInt8)) (w : World) (R : Nat) (e : Ending) (w' : World) : Prop :=
  w.grownBy w' (some R) ∧ match res with
  | some (k, s, n, r) => e = .returned (.tuple #[.agg (flatC (k : Int) s n).toArray, .bool true]) ∧ RdAt w' R r
  | none => ∃ (k : Int) (s : List UInt8) (n : Nat), e = .returned (.tuple #[.agg (flatC k s n).toArray, .bool false])

theorem span_split (xs : List UInt8) : xs = (spanD xs).1 ++ (spanD xs).2 ∧ (∀ c ∈ (spanD xs).1, isDigit c = true) ∧ (∀ c r, (spanD xs).2 = c :: r → isDigit c = false) := by
  induction xs with
  | nil => exact ⟨rfl, fun c hc => (nomatch hc), fun c r h => by cases h⟩
  | cons c r ih =>
    unfold spanD
    split
    · rename_i hc
      obtain ⟨h1, h2, h3⟩ := ih
      refine ⟨by simpa using h1, fun d hd => ?_, h3⟩
      rcases List.mem_cons.1 hd with rfl | hd
      · exact hc
      · exact h2 d hd
    · rename_i hc
      refine ⟨rfl, fun d hd => (nomatch hd), fun d r' h => ?_⟩
      cases h
      simpa using hc
theorem run_str0 (p : Option Addr) (c : Nat) (w : World) : (convert 32 9 (.slice p 0 c)).run Tryd.prog w = .ok (.string (bstr [])) w := by
  cases p with
  | none =>
    rw [run_convert_bytes_nil w 32 5 (by kernel_rfl) (by kernel_rfl) 0 c 9 (by kernel_rfl)]
    rfl
  | some ad =>
    have hl0 : (loadCells ad 0).run Tryd.prog w = .ok #[] w := by simp [loadCells, loadCellsFrom]
    rw [run_convert_bytes_string w 32 9 5 _ 0 c (by kernel_rfl) (by kernel_rfl) (by kernel_rfl), run_bytesToString w _ 0 c [] (by simpa using hl0)]
    rfl

/-- the reader's text as long as numbers are looked at: the first n bytes are digits, what is next is none -/
structure Span (w : World) (a : Option Addr) (c : Nat) (xs ds rest : List UInt8) : Prop where
  split : xs = ds ++ rest
  dig : ∀ c ∈ ds, isDigit c = true
  stop : ∀ c r, rest = c :: r → isDigit c = false
theorem Span.digit {w : World} {a : Option Addr} {c : Nat} {xs ds rest : List UInt8} (h : Span w a c xs ds rest) (m : Nat) (hm : m < ds.length) : m < xs.length ∧ 48 ≤ ((xs.getD m 0).toNat : Int) ∧ ((xs.getD m 0).toNat : Int) ≤ 57 := by
  have e : xs.getD m 0 = ds[m] := by
    rw [h.split]
    simp [List.getD, List.getElem?_append_left hm, hm]
  have := h.dig ds[m] (List.getElem_mem hm)
  rw [e]
  have h2 : 48 ≤ ds[m].toNat ∧ ds[m].toNat ≤ 57 := by simpa [isDigit] using this
  refine ⟨by rw [h.split, List.length_append]; omega, by omega, by omega⟩
theorem Span.stops {w : World} {a : Option Addr} {c : Nat} {xs ds rest : List UInt8} (h : Span w a c xs ds rest) : xs.length = ds.length ∨ (ds.length < xs.length ∧ ((xs.getD ds.length 0).toNat : Int) < 48) ∨ (ds.length < xs.length ∧ 57 < ((xs.getD ds.length 0).toNat : Int)) := by
  cases hr : rest with
  | nil => left; rw [h.split, hr]; simp
  | cons d r =>
    right
    have e : xs.getD ds.length 0 = d := by rw [h.split, hr]; simp [List.getD]
    have := h.stop d r hr
    have h2 : ¬ (48 ≤ d.toNat ∧ d.toNat ≤ 57) := by simpa [isDigit] using this
    have hl : ds.length < xs.length := by rw [h.split, hr]; simp
    rw [e]
    by_cases h3 : d.toNat < 48
    · exact .inl ⟨hl, by omega⟩
    · exact .inr ⟨hl, by omega⟩

set_option maxRecDepth 100000 in
set_option maxHeartbeats 6400000 in
/-- no digits -/
theorem number_none (R : Nat) (xs rest : List UInt8) (w : World) (h : RdAt w R xs) (hT : Tabs w) (hsp : ∀ a c, Span w a c xs [] rest) :
    Calls Tryd.prog 62 #[.pointer (some ⟨R, 0, none⟩)] w (FlatRes none w R) := by
  have hRw := h.lt
  have hB1 : Below w.heap.size w (w.alloc (.cells #[.int .i64 0, .string ⟨#[]⟩, .int .u64 0, .slice none 0 0, .slice none 0 0] 30)) := (Below.refl w.heap.size w).alloc (Nat.le_refl _) _
  have hR0 := Arr.new w 30 [.int .i64 0, .string ⟨#[]⟩, .int .u64 0, .slice none 0 0, .slice none 0 0]
  obtain ⟨a, c, hA, hX⟩ := h.kept (gb hB1 none) (by simp)
  have HT1 := Lib.hid (hT.to hB1)
  have hpu : Hid (∀ W, Tabs W → Calls Tryd.prog 77 #[.string (bstr []), .int .i64 10, .int .i64 64] W fun e w' => Below W.heap.size W w' ∧ ∃ (u : Int) (t : TypeId) (p : Value), e = .returned (.tuple #[.int .u64 u, .iface t p])) := fun W hW => by
    refine (parse_any [] (fun c hc => (nomatch hc)) (by simp) W hW).mono ?_
    rintro e w' ⟨hb, hh | hh⟩
    · exact absurd rfl hh.1
    · exact ⟨hb, hh.2⟩
  have hstr := run_str0
  have hxs := (hsp a c).stops
  rw [List.length_nil] at hxs
  have c0 := (hA.cell 0).trans (show _ = some (Value.slice a xs.length c) from rfl)
  have hle := hX.le
  have hbig := hX.big
  have hd0 : 0 < xs.length → ∃ b off, a = some ⟨b, off, none⟩ ∧ (w.alloc (.cells #[.int .i64 0, .string ⟨#[]⟩, .int .u64 0, .slice none 0 0, .slice none 0 0] 30)).cell? ⟨b, off, none⟩ = some (.int .u8 ((xs.getD 0 0).toNat : Int)) := fun h0 => by
    obtain ⟨b, off, e, -, -, h3⟩ := hX.mem h0
    exact ⟨b, off, e, h3 0 h0⟩
  clear h hA hX hT hsp
  generalize xs.getD 0 0 = x0 at *
  rcases hxs with hx | ⟨hx, hy⟩ | ⟨hx, hy⟩
  case' inl => have hx1 : ¬ (0 : Int) < (xs.length : Int) := by omega
  case' inr.inl => obtain ⟨b, off, rfl, d0⟩ := hd0 hx; have hx1 : (0 : Int) < (xs.length : Int) := (by omega); have hy1 : ¬ (48 : Int) ≤ (x0.toNat : Int) := by omega
  case' inr.inr => obtain ⟨b, off, rfl, d0⟩ := hd0 hx; have hx1 : (0 : Int) < (xs.length : Int) := (by omega); have hy1 : (48 : Int) ≤ (x0.toNat : Int) := (by omega); have hy2 : ¬ (x0.toNat : Int) ≤ 57 := by omega
  all_goals
    clear hd0
    go_enter Tryd.func62, Tryd.ntmps62
    go_upto_region 2 with fail
    go_loopw [4] (fun v wr => v = .int .i64 0 ∧ wr = w.alloc (.cells #[.int .i64 0, .string ⟨#[]⟩, .int .u64 0, .slice none 0 0, .slice none 0 0] 30)) (fun _ _ => 0)
    case atStart => exact ⟨rfl, rfl⟩
    case round =>
      obtain ⟨rfl, rfl⟩ := hrel
      go_wp2_with (first
        | (go_at_call 77; refine (hpu.out _ HT1.out).mono ?_; rintro e w2 ⟨hb2, u, t, p, rfl⟩; have hR2 := hR0.kept hb2)
        | ((with_reducible show wpList _ _ _ (⟨none, _, _, _, _, _⟩ :: _) _ _); refine wl_store rfl 30 _ _ rfl w.heap.size 0 rfl (flatC 0 [] 0) rfl 30 _ hR2 (by kernel_rfl) (by simp [flatC]) (by simp [flatC, Value.oneCell']) ?_; intro w4 hR4 hg4 hs4))
      rw [flat_store _ rfl] at hR4
      exact end_cell2 rfl w.heap.size 30 _ _ _ rfl hR4 Tryd.underlying30 rfl (by kernel_rfl) rfl rfl ⟨gb_new_row (gb hb2 _) hg4, 0, [], 0, rfl⟩
end Go.Proofs.YtehlgflpkofooaaDoor
