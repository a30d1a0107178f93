/-
  Maps whose keys are places: keys compared, looked up, stored, struck. Conditions: those in each statement.
-/
import Derived.Test.YtehlgflpkofooaaDoorJsonH
import Derived.Maps.Keyed
import Derived.LaidEql
import Derived.ChangeKeysEq
import Derived.Laws.StructEq
import Derived.Laws.Pointers
namespace Go.Proofs.YtehlgflpkofooaaDoor
open Go.RowKit

/-- a block of plain cells -/
def PlainB (w : World) (b : Nat) : Prop := ∃ cs T, w.heap[b]? = some (.cells cs T (0, 0))
/-- a pointer that may be compared -/
def PtrOK (w : World) (p : Option Addr) : Prop := p = none ∨ ∃ b off, p = some ⟨b, off, none⟩ ∧ PlainB w b

theorem eq_ptr (w : World) (d : Nat) (p q : Option Addr) (hp : PtrOK w p) (hq : PtrOK w q) :
    (Op.equalIn (d + 1) 78 (.pointer p) (.pointer q)).run Tryd.prog w = .ok (decide (p = q)) w := by
  rcases hp with rfl | ⟨b, off, rfl, cs, T, hb⟩
  · simp [Op.equalIn, run_underlying Tryd.underlying78]
    cases q <;> rfl
  · rcases hq with rfl | ⟨b', off', rfl, cs', T', hb'⟩
    · simp [Op.equalIn, run_underlying Tryd.underlying78]
    · have hs : (sizeOf 30).run Tryd.prog w = .ok 5 w := by kernel_rfl
      have key : (sameAddr ⟨b, off, none⟩ ⟨b', off', none⟩).run Tryd.prog w = .ok (decide ((⟨b, off, none⟩ : Addr) = ⟨b', off', none⟩)) w := by
        by_cases e : (⟨b, off, none⟩ : Addr) = ⟨b', off', none⟩
        · rw [e, run_sameAddr_same]; simp
        · rw [run_sameAddr_other w e hb hb', decide_eq_false e]
      simp [Op.equalIn, run_underlying Tryd.underlying78, hs, key]
set_option maxRecDepth 100000 in
theorem eq_place (w : World) (d : Nat) (p q : Option Addr) (n m : Int) (hp : PtrOK w p) (hq : PtrOK w q) :
    (Op.equalIn (d + 2) 80 (.agg #[.pointer p, .int .i64 n]) (.agg #[.pointer q, .int .i64 m])).run Tryd.prog w = .ok (decide (p = q) && decide (n = m)) w := by
  rw [run_equalIn_struct w (d + 1) 80 _ _ (by kernel_rfl) (by kernel_rfl)]
  have hf : ∃ f g : Field, (Tryd.prog.fieldsOf 80).toList = [f, g] ∧ f.name = "first" ∧ f.type = 78 ∧ f.offset = 0 ∧ g.name = "count" ∧ g.type = 3 ∧ g.offset = 1 := ⟨_, _, rfl, rfl, rfl, rfl, rfl, rfl, rfl⟩
  obtain ⟨f, g, hf, f1, f2, f3, g1, g2, g3⟩ := hf
  rw [hf]
  have p1 : ∀ xs : Array Value, ∀ v, xs[0]? = some v → (part 78 xs 0).run Tryd.prog w = .ok v w := fun xs v h => by
    have : (isAgg 78).run Tryd.prog w = .ok false w := by kernel_rfl
    simp [part, this, h]
  have p2 : ∀ xs : Array Value, ∀ v, xs[1]? = some v → (part 3 xs 1).run Tryd.prog w = .ok v w := fun xs v h => by
    have : (isAgg 3).run Tryd.prog w = .ok false w := by kernel_rfl
    simp [part, this, h]
  have e1 := eq_ptr w d p q hp hq
  have e2 := run_equalIn_int (P := Tryd.prog) w d 3 .i64 .i64 n m Tryd.underlying3
  simp [Op.eqFields, f1, f2, f3, g1, g2, g3, p1 #[.pointer p, .int .i64 n] (Value.pointer p) rfl, p1 #[.pointer q, .int .i64 m] (Value.pointer q) rfl, p2 #[.pointer p, .int .i64 n] (Value.int .i64 n) rfl, p2 #[.pointer q, .int .i64 m] (Value.int .i64 m) rfl, e1, e2]
  by_cases h : p = q <;> simp [h]
  by_cases h' : n = m <;> simp [h']
set_option maxRecDepth 100000 in
theorem eq_deep (w : World) (d : Nat) (p q : Option Addr) (n m i j : Int) (hp : PtrOK w p) (hq : PtrOK w q) :
    (Op.equalIn (d + 3) 98 (.agg #[.pointer p, .int .i64 n, .int .i64 i]) (.agg #[.pointer q, .int .i64 m, .int .i64 j])).run Tryd.prog w = .ok (decide (p = q) && decide (n = m) && decide (i = j)) w := by
  rw [run_equalIn_struct w (d + 2) 98 _ _ (by kernel_rfl) (by kernel_rfl)]
  have hf : ∃ f g : Field, (Tryd.prog.fieldsOf 98).toList = [f, g] ∧ f.name = "list" ∧ f.type = 80 ∧ f.offset = 0 ∧ g.name = "depth" ∧ g.type = 3 ∧ g.offset = 2 := ⟨_, _, rfl, rfl, rfl, rfl, rfl, rfl, rfl⟩
  obtain ⟨f, g, hf, f1, f2, f3, g1, g2, g3⟩ := hf
  rw [hf]
  have p1 : ∀ x y z : Value, (part 80 #[x, y, z] 0).run Tryd.prog w = .ok (.agg #[x, y]) w := fun x y z => by
    have h1 : (isAgg 80).run Tryd.prog w = .ok true w := by kernel_rfl
    simp [part, h1]
  have p2 : ∀ x y z : Value, (part 3 #[x, y, z] 2).run Tryd.prog w = .ok z w := fun x y z => by
    have : (isAgg 3).run Tryd.prog w = .ok false w := by kernel_rfl
    simp [part, this]
  have e1 := eq_place w d p q n m hp hq
  have e2 := run_equalIn_int (P := Tryd.prog) w (d + 1) 3 .i64 .i64 i j Tryd.underlying3
  simp [Op.eqFields, f1, f2, f3, g1, g2, g3, p1, p2, e1, e2]
  by_cases h : p = q <;> simp [h]
  by_cases h' : n = m <;> simp [h']
  by_cases h' : i = j <;> simp [h']
set_option maxRecDepth 100000 in
theorem eq_both (w : World) (d : Nat) (p q p' q' : Option Addr) (n m n' m' : Int) (hp : PtrOK w p) (hq : PtrOK w q) (hp' : PtrOK w p') (hq' : PtrOK w q') :
    (Op.equalIn (d + 3) 82 (.agg #[.pointer p, .int .i64 n, .pointer p', .int .i64 n']) (.agg #[.pointer q, .int .i64 m, .pointer q', .int .i64 m'])).run Tryd.prog w = .ok ((decide (p = q) && decide (n = m)) && (decide (p' = q') && decide (n' = m'))) w := by
  have hi : ∃ i, Tryd.prog.info? 80 = some i := ⟨_, rfl⟩
  obtain ⟨i, hi⟩ := hi
  have hc : Tryd.prog.cellsOf 80 = 2 := by kernel_rfl
  rw [run_equalIn_array w (d + 2) _ _ Tryd.underlying82 hi, hc]
  have h1 : (isAgg 80).run Tryd.prog w = .ok true w := by kernel_rfl
  have p1 : ∀ x y z t : Value, (part 80 #[x, y, z, t] 0).run Tryd.prog w = .ok (.agg #[x, y]) w := fun x y z t => by
    simp [part, h1]
  have p2 : ∀ x y z t : Value, (part 80 #[x, y, z, t] 2).run Tryd.prog w = .ok (.agg #[z, t]) w := fun x y z t => by
    simp [part, h1]
  have e1 := eq_place w d p q n m hp hq
  have e2 := eq_place w d p' q' n' m' hp' hq'
  simp [Op.eqItems, List.range, List.range.loop, p1, p2, e1, e2]
  by_cases h : p = q <;> simp [h]
  by_cases h' : n = m <;> simp [h']
  by_cases h : p' = q' <;> simp [h]
  by_cases h' : n' = m' <;> simp [h']

/-- keys of a map that the walk can compare -/
structure KeyOK (K : TypeId) (G : World → Value → Prop) : Prop where
  check : ∀ w a e, G w a → (Instr.checkKey e 10000 K a).run Tryd.prog w = .ok () w
  find : ∀ w x es, G w x → (∀ e ∈ es, G w e.key) → ((Instr.findKey K x es).run Tryd.prog w = .ok none w ∧ ∀ e ∈ es, e.key ≠ x) ∨
    ∃ j e, (Instr.findKey K x es).run Tryd.prog w = .ok (some (j, e.val)) w ∧ es[j]? = some e ∧ e.key = x ∧ ∀ i f, i < j → es[i]? = some f → f.key ≠ x
  stays : ∀ w a, G w a → (Instr.keyThatStays a a).run Tryd.prog w = .ok a w
  kept : ∀ w w' a, (∀ b, PlainB w b → PlainB w' b) → G w a → G w' a

theorem ask_ok {K : TypeId} {G : World → Value → Prop} (heq : ∀ w a b, G w a → G w b → ∃ r : Bool, (Op.equal K a b).run Tryd.prog w = .ok r w ∧ (r = true ↔ b = a)) (w : World) (x : Value) (hx : G w x) :
    ∀ (es : List MapEntry) (i : Nat), (∀ e ∈ es, G w e.key) →
      ((Instr.findAsking K x es i).run Tryd.prog w = .ok none w ∧ ∀ e ∈ es, e.key ≠ x) ∨
      ∃ j e, (Instr.findAsking K x es i).run Tryd.prog w = .ok (some (i + j, e.val)) w ∧ es[j]? = some e ∧ e.key = x ∧ ∀ k f, k < j → es[k]? = some f → f.key ≠ x
  | [], i, _ => Or.inl ⟨by simp [Instr.findAsking], by simp⟩
  | e :: es, i, hall => by
    obtain ⟨r, hr, hiff⟩ := heq w x e.key hx (hall e (by simp))
    cases r
    · have hne : e.key ≠ x := fun h => by have := hiff.2 h; cases this
      rcases ask_ok heq w x hx es (i + 1) (fun y hy => hall y (by simp [hy])) with ⟨h1, h2⟩ | ⟨j, e', h1, h2, h3, h4⟩
      · left
        refine ⟨by simp [Instr.findAsking, hr, h1], fun y hy => ?_⟩
        rcases List.mem_cons.1 hy with rfl | hy
        · exact hne
        · exact h2 y hy
      · right
        refine ⟨j + 1, e', by simp [Instr.findAsking, hr, h1, Nat.add_assoc, Nat.add_comm 1 j], by simpa using h2, h3, fun k f hk hf => ?_⟩
        cases k with
        | zero => simp at hf; subst hf; exact hne
        | succ k => exact h4 k f (by omega) (by simpa using hf)
    · right
      exact ⟨0, e, by simp [Instr.findAsking, hr], rfl, hiff.1 rfl, fun k f hk => by omega⟩

def GPlace (w : World) (a : Value) : Prop := ∃ p n, a = .agg #[.pointer p, .int .i64 n] ∧ PtrOK w p
def GDeep (w : World) (a : Value) : Prop := ∃ p n d, a = .agg #[.pointer p, .int .i64 n, .int .i64 d] ∧ PtrOK w p
def GBoth (w : World) (a : Value) : Prop := ∃ p n q m, a = .agg #[.pointer p, .int .i64 n, .pointer q, .int .i64 m] ∧ PtrOK w p ∧ PtrOK w q
theorem PtrOK.kept {w w' : World} (h : ∀ b, PlainB w b → PlainB w' b) {p : Option Addr} (hp : PtrOK w p) : PtrOK w' p := by
  rcases hp with rfl | ⟨b, off, rfl, hb⟩
  · exact .inl rfl
  · exact .inr ⟨b, off, rfl, h b hb⟩

theorem bits_agg (cs : Array Value) (h : ∀ x ∈ cs.toList, ∀ n, Instr.sameBits n x x = true) (w : World) : (Instr.keyThatStays (.agg cs) (.agg cs)).run Tryd.prog w = .ok (.agg cs) w := by
  have : Instr.sameBits 10000 (.agg cs) (.agg cs) = true := by
    show (cs.size == cs.size && (cs.toList.zip cs.toList).all fun (x, y) => Instr.sameBits 9999 x y) = true
    rw [beq_self_eq_true, Bool.true_and, List.all_eq_true]
    rintro ⟨x, y⟩ hxy
    obtain ⟨i, hi⟩ := List.mem_iff_getElem?.1 hxy
    rw [List.getElem?_zip_eq_some] at hi
    obtain ⟨h1, h2⟩ := hi
    rw [h1] at h2
    cases h2
    exact h x (List.mem_of_getElem? h1) 9999
  simp [Instr.keyThatStays, this]

theorem check_ptr (w : World) (e : Bool) (d : Nat) (p : Option Addr) : (Instr.checkKey e (d + 1) 78 (.pointer p)).run Tryd.prog w = .ok () w := by
  simp [Instr.checkKey, run_underlying Tryd.underlying78]
theorem check_int (w : World) (e : Bool) (d : Nat) (n : Int) : (Instr.checkKey e (d + 1) 3 (.int .i64 n)).run Tryd.prog w = .ok () w := by
  simp [Instr.checkKey, run_underlying Tryd.underlying3]
theorem part_ptr (w : World) (xs : Array Value) (i : Nat) (v : Value) (h : xs[i]? = some v) : (part 78 xs i).run Tryd.prog w = .ok v w := by
  have : (isAgg 78).run Tryd.prog w = .ok false w := by kernel_rfl
  simp [part, this, h]
theorem part_int (w : World) (xs : Array Value) (i : Nat) (v : Value) (h : xs[i]? = some v) : (part 3 xs i).run Tryd.prog w = .ok v w := by
  have : (isAgg 3).run Tryd.prog w = .ok false w := by kernel_rfl
  simp [part, this, h]
theorem part_place (w : World) (xs : Array Value) (i : Nat) (v : Array Value) (h : xs.extract i (i + 2) = v) : (part 80 xs i).run Tryd.prog w = .ok (.agg v) w := by
  have h1 : (isAgg 80).run Tryd.prog w = .ok true w := by kernel_rfl
  simp [part, h1, h]
theorem check_place (w : World) (e : Bool) (d : Nat) (p : Option Addr) (n : Int) : (Instr.checkKey e (d + 2) 80 (.agg #[.pointer p, .int .i64 n])).run Tryd.prog w = .ok () w := by
  simp [Instr.checkKey, run_underlying Tryd.underlying80, part_ptr w _ 0 (.pointer p), part_int w _ 1 (.int .i64 n)]
theorem check_deep (w : World) (e : Bool) (d : Nat) (p : Option Addr) (n i : Int) : (Instr.checkKey e (d + 3) 98 (.agg #[.pointer p, .int .i64 n, .int .i64 i])).run Tryd.prog w = .ok () w := by
  have h := check_place w e d p n
  have h2 := check_int w e (d + 1) i
  have p1 := part_place w #[.pointer p, .int .i64 n, .int .i64 i] 0 #[.pointer p, .int .i64 n] (by simp)
  have p2 := part_int w #[.pointer p, .int .i64 n, .int .i64 i] 2 (.int .i64 i) (by simp)
  rw [Instr.checkKey]
  simp only [Sem.run_bind, run_underlying Tryd.underlying98, Result.andThen_ok]
  simp [p1, p2, h, h2]
theorem check_both (w : World) (e : Bool) (d : Nat) (p q : Option Addr) (n m : Int) : (Instr.checkKey e (d + 3) 82 (.agg #[.pointer p, .int .i64 n, .pointer q, .int .i64 m])).run Tryd.prog w = .ok () w := by
  have h := check_place w e d p n
  have h2 := check_place w e d q m
  have p1 := part_place w #[.pointer p, .int .i64 n, .pointer q, .int .i64 m] 0 #[.pointer p, .int .i64 n] (by simp)
  have p2 := part_place w #[.pointer p, .int .i64 n, .pointer q, .int .i64 m] 2 #[.pointer q, .int .i64 m] (by simp)
  have hs : (sizeOf 80).run Tryd.prog w = .ok 2 w := by kernel_rfl
  rw [Instr.checkKey]
  simp only [Sem.run_bind, run_underlying Tryd.underlying82, Result.andThen_ok]
  simp [Std.Legacy.Range.forIn_eq_forIn_range', Std.Legacy.Range.size, List.range', hs, p1, p2, h, h2]

def GStr (_ : World) (a : Value) : Prop := ∃ s, a = .string s
theorem check_str (w : World) (e : Bool) (d : Nat) (s : ByteArray) : (Instr.checkKey e (d + 1) 9 (.string s)).run Tryd.prog w = .ok () w := by
  simp [Instr.checkKey, run_underlying Tryd.underlying9]
theorem str_ok : KeyOK 9 GStr where
  check := by
    rintro w _ e ⟨s, rfl⟩
    exact check_str w e 9999 s
  find := by
    intro w x es hx hes
    obtain ⟨s, rfl⟩ := hx
    have key : ∀ (es : List MapEntry) (i : Nat), (∀ e ∈ es, GStr w e.key) → (Instr.findNow .string (.string s) es i = some none ∧ ∀ e ∈ es, e.key ≠ .string s) ∨
        ∃ j e, Instr.findNow .string (.string s) es i = some (some (i + j, e.val)) ∧ es[j]? = some e ∧ e.key = .string s ∧ ∀ k f, k < j → es[k]? = some f → f.key ≠ .string s := by
      intro es
      induction es with
      | nil => intro i _; exact .inl ⟨rfl, by simp⟩
      | cons e es ih =>
        intro i hall
        obtain ⟨t, ht⟩ := hall e (by simp)
        by_cases hst : s = t
        · exact .inr ⟨0, e, by have hb : (s == t) = true := (MapKept.bytes_beq s t).2 hst; simp [Instr.findNow, Instr.sameNow, ht, hb], rfl, by rw [ht, hst], fun k f hk => by omega⟩
        · have hb : (s == t) = false := by
            cases hh : (s == t) with
            | false => rfl
            | true => exact absurd ((MapKept.bytes_beq s t).1 hh) hst
          have hne : e.key ≠ .string s := by rw [ht]; intro h; cases h; exact hst rfl
          rcases ih (i + 1) (fun y hy => hall y (by simp [hy])) with ⟨h1, h2⟩ | ⟨j, e', h1, h2, h3, h4⟩
          · left
            refine ⟨by simp [Instr.findNow, Instr.sameNow, ht, hb, h1], fun y hy => ?_⟩
            rcases List.mem_cons.1 hy with rfl | hy
            · exact hne
            · exact h2 y hy
          · right
            refine ⟨j + 1, e', by simp [Instr.findNow, Instr.sameNow, ht, hb, h1, Nat.add_assoc, Nat.add_comm 1 j], by simpa using h2, h3, fun k f hk hf => ?_⟩
            cases k with
            | zero => simp at hf; subst hf; exact hne
            | succ k => exact h4 k f (by omega) (by simpa using hf)
    rcases key es 0 hes with ⟨h1, h2⟩ | ⟨j, e, h1, h2, h3, h4⟩
    · exact .inl ⟨MapKept.run_findKey Tryd.underlying9 h1, h2⟩
    · exact .inr ⟨j, e, MapKept.run_findKey Tryd.underlying9 (by rw [Nat.zero_add] at h1; exact h1), h2, h3, h4⟩
  stays := by
    rintro w _ ⟨s, rfl⟩
    have : Instr.sameBits 10000 (.string s) (.string s) = true := (MapKept.bytes_beq s s).2 rfl
    simp [Instr.keyThatStays, this]
  kept := fun _ _ _ _ h => h
theorem place_ok : KeyOK 80 GPlace where
  check := by
    rintro w _ e ⟨p, n, rfl, -⟩
    exact check_place w e 9998 p n
  find := by
    intro w x es hx hes
    rw [run_findKey_eq w (by kernel_rfl)]
    have := ask_ok (K := 80) (G := GPlace) (fun w a b ha hb => by
      obtain ⟨p, n, rfl, hp⟩ := ha
      obtain ⟨q, m, rfl, hq⟩ := hb
      refine ⟨_, eq_place w 9998 p q n m hp hq, ?_⟩
      simp
      exact ⟨fun ⟨h1, h2⟩ => ⟨h1.symm, h2.symm⟩, fun ⟨h1, h2⟩ => ⟨h1.symm, h2.symm⟩⟩) w x hx es 0 hes
    simpa using this
  stays := by
    rintro w _ ⟨p, n, rfl, -⟩
    exact bits_agg _ (by intro x hx k; simp at hx; rcases hx with rfl | rfl <;> simp [Instr.sameBits]) w
  kept := by
    rintro w w' _ h ⟨p, n, rfl, hp⟩
    exact ⟨p, n, rfl, hp.kept h⟩
theorem deep_ok : KeyOK 98 GDeep where
  check := by
    rintro w _ e ⟨p, n, d, rfl, -⟩
    exact check_deep w e 9997 p n d
  find := by
    intro w x es hx hes
    rw [run_findKey_eq w (by kernel_rfl)]
    have := ask_ok (K := 98) (G := GDeep) (fun w a b ha hb => by
      obtain ⟨p, n, i, rfl, hp⟩ := ha
      obtain ⟨q, m, j, rfl, hq⟩ := hb
      refine ⟨_, eq_deep w 9997 p q n m i j hp hq, ?_⟩
      simp
      exact ⟨fun ⟨⟨h1, h2⟩, h3⟩ => ⟨h1.symm, h2.symm, h3.symm⟩, fun ⟨h1, h2, h3⟩ => ⟨⟨h1.symm, h2.symm⟩, h3.symm⟩⟩) w x hx es 0 hes
    simpa using this
  stays := by
    rintro w _ ⟨p, n, d, rfl, -⟩
    exact bits_agg _ (by intro x hx k; simp at hx; rcases hx with rfl | rfl | rfl <;> simp [Instr.sameBits]) w
  kept := by
    rintro w w' _ h ⟨p, n, d, rfl, hp⟩
    exact ⟨p, n, d, rfl, hp.kept h⟩
theorem both_ok : KeyOK 82 GBoth where
  check := by
    rintro w _ e ⟨p, n, q, m, rfl, -, -⟩
    exact check_both w e 9997 p q n m
  find := by
    intro w x es hx hes
    rw [run_findKey_eq w (by kernel_rfl)]
    have := ask_ok (K := 82) (G := GBoth) (fun w a b ha hb => by
      obtain ⟨p, n, p', n', rfl, hp, hp'⟩ := ha
      obtain ⟨q, m, q', m', rfl, hq, hq'⟩ := hb
      refine ⟨_, eq_both w 9997 p q p' q' n m n' m' hp hq hp' hq', ?_⟩
      simp
      exact ⟨fun ⟨⟨h1, h2⟩, h3, h4⟩ => ⟨h1.symm, h2.symm, h3.symm, h4.symm⟩, fun ⟨h1, h2, h3, h4⟩ => ⟨⟨h1.symm, h2.symm⟩, h3.symm, h4.symm⟩⟩) w x hx es 0 hes
    simpa using this
  stays := by
    rintro w _ ⟨p, n, q, m, rfl, -, -⟩
    exact bits_agg _ (by intro x hx k; simp at hx; rcases hx with rfl | rfl | rfl | rfl <;> simp [Instr.sameBits]) w
  kept := by
    rintro w w' _ h ⟨p, n, q, m, rfl, hp, hq⟩
    exact ⟨p, n, q, m, rfl, hp.kept h, hq.kept h⟩
end Go.Proofs.YtehlgflpkofooaaDoor
