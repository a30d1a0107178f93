/-
  Byte slices: what reads as bytes, what a call made itself; laws of the walk for make, copy, append over []byte. Conditions: none but those in each statement.
-/
import Derived.Test.YtfidajbenmgflaaDoorRows
import Derived.WalkKit
import Derived.Lib.Hide
import Derived.Laws.CopyOwn
import Derived.Laws.AppendOwnNone
import Derived.Laws.BytesArg
namespace Go.Proofs.YtfidajbenmgflaaDoor
open Go.RowKit

def bv (x : UInt8) : Value := .int .u8 (x.toNat : Int)

/-- what the dump says of []byte -/
structure BT (P : Program) (T E : TypeId) : Prop where
  sl : P.underlying T = some (.slice E)
  el : P.underlying E = some (.int .u8)
  info : (P.info? E).map (fun i => (i.zero, i.size, i.bytes)) = some (some (.int .u8 0), 1, 1)

/-- the slice of n bytes at a reads as xs -/
structure Rd (w : World) (a : Option Addr) (n cap : Nat) (xs : List UInt8) : Prop where
  len : xs.length = n
  le : n ≤ cap
  nil : a = none → cap = 0
  mem : 0 < cap → ∃ b off, a = some ⟨b, off, none⟩ ∧ b < w.heap.size ∧ ∀ j, j < n → w.cell? ⟨b, off + j, none⟩ = some (.int .u8 ((xs.getD j 0).toNat : Int))

/-- .. and its address, if it has one, leads into the memory (what came in with no capacity may lead anywhere) -/
structure RdS (w : World) (a : Option Addr) (n cap : Nat) (xs : List UInt8) : Prop extends Rd w a n cap xs where
  st : ∀ ad, a = some ad → ad.spot = none ∧ ad.block < w.heap.size

theorem RdS.adr {w : World} {a : Option Addr} {n cap : Nat} {xs : List UInt8} (h : RdS w a n cap xs) : ∀ ad, a = some ad → ad.spot = none ∧ ad.block < w.heap.size ∧ ∀ j, j < n → w.cell? ⟨ad.block, ad.off + j, none⟩ = some (.int .u8 ((xs.getD j 0).toNat : Int)) := by
  intro ad e
  obtain ⟨h1, h2⟩ := h.st ad e
  refine ⟨h1, h2, fun j hj => ?_⟩
  obtain ⟨b, off, e2, _, h3⟩ := h.mem (by have := h.le; omega)
  rw [e] at e2
  cases e2
  exact h3 j hj
theorem RdS.mk' {w : World} {a : Option Addr} {n cap : Nat} {xs : List UInt8} (len : xs.length = n) (le : n ≤ cap) (nil : a = none → cap = 0)
    (adr : ∀ ad, a = some ad → ad.spot = none ∧ ad.block < w.heap.size ∧ ∀ j, j < n → w.cell? ⟨ad.block, ad.off + j, none⟩ = some (.int .u8 ((xs.getD j 0).toNat : Int))) : RdS w a n cap xs := by
  refine ⟨⟨len, le, nil, fun hc => ?_⟩, fun ad e => ⟨(adr ad e).1, (adr ad e).2.1⟩⟩
  cases a with
  | none => have := nil rfl; omega
  | some ad =>
    obtain ⟨b, off, sp⟩ := ad
    obtain ⟨h1, h2, h3⟩ := adr _ rfl
    simp only at h1
    subst h1
    exact ⟨b, off, rfl, h2, h3⟩

def Own (w : World) (B : Nat) (E : TypeId) (v : Value) (xs : List UInt8) : Prop := w.ownsRow B E 1 v xs.length (xs.map bv)

theorem Rd.below {w w' : World} {a : Option Addr} {n cap : Nat} {xs : List UInt8} (h : Rd w a n cap xs) {B : Nat} (hb : Below B w w') (hB : ∀ ad, a = some ad → 0 < cap → ad.block < B) : Rd w' a n cap xs := by
  refine ⟨h.len, h.le, h.nil, fun hc => ?_⟩
  obtain ⟨b, off, e, h2, h3⟩ := h.mem hc
  exact ⟨b, off, e, Nat.lt_of_lt_of_le h2 hb.size, fun j hj => (hb.cell (p := ⟨b, off + j, none⟩) (show b < B from hB ⟨b, off, none⟩ e hc)).trans (h3 j hj)⟩
theorem Rd.to {w w' : World} {a : Option Addr} {n cap : Nat} {xs : List UInt8} (h : Rd w a n cap xs) (hb : Below w.heap.size w w') : Rd w' a n cap xs :=
  h.below hb fun ad e hc => by
    obtain ⟨b, off, e', h2, _⟩ := h.mem hc
    rw [e] at e'
    cases e'
    exact h2
theorem RdS.to {w w' : World} {a : Option Addr} {n cap : Nat} {xs : List UInt8} (h : RdS w a n cap xs) (hb : Below w.heap.size w w') : RdS w' a n cap xs :=
  ⟨h.toRd.to hb, fun ad e => ⟨(h.st ad e).1, Nat.lt_of_lt_of_le (h.st ad e).2 hb.size⟩⟩
theorem Rd.none (w : World) : Rd w none 0 0 [] := { len := rfl, le := Nat.le_refl _, nil := fun _ => rfl, mem := by intro h; omega }

theorem Own.nil (w : World) (B : Nat) (E : TypeId) : Own w B E (.slice none 0 0) [] := World.ownsRow_nil w B E 1

theorem Own.mono {w : World} {B B' : Nat} {E : TypeId} {v : Value} {xs : List UInt8} (h : Own w B E v xs) (hB : B' ≤ B) : Own w B' E v xs := by
  obtain ⟨h1, h2⟩ := h
  refine ⟨h1, h2.imp id ?_⟩
  rintro ⟨g, cap, cur, e, hb, r⟩
  exact ⟨g, cap, cur, e, Nat.le_trans hB hb, r⟩

theorem Own.reads {w : World} {B : Nat} {E : TypeId} {v : Value} {xs : List UInt8} (h : Own w B E v xs) : ∃ a n cap, v = .slice a n cap ∧ RdS w a n cap xs := by
  have h' := h
  obtain ⟨h1, ⟨rfl, hn⟩ | ⟨g, cap, cur, rfl, hb, hg, hn, hc, hs, ht⟩⟩ := h
  · have : xs = [] := List.eq_nil_of_length_eq_zero hn
    subst this
    exact ⟨none, 0, 0, rfl, Rd.none w, by intro ad e; cases e⟩
  · refine ⟨_, _, cap, rfl, RdS.mk' rfl hn (by intro e; cases e) ?_⟩
    rintro ad e
    obtain rfl := (Option.some.inj e).symm
    refine ⟨rfl, ?_, fun j hj => ?_⟩
    · have := (World.ownsRow.lt h' g rfl).2
      exact this
    · have := World.ownsRow.cellAt h' j (by simpa using hj)
      simp only [Nat.zero_add]
      rw [this]
      simp [bv, List.getD, hj]

theorem Own.rd {w : World} {B : Nat} {E : TypeId} {a : Option Addr} {n cap : Nat} {xs : List UInt8} (h : Own w B E (.slice a n cap) xs) : RdS w a n cap xs := by
  obtain ⟨a', n', cap', e, h⟩ := h.reads
  injection e with e1 e2 e3
  subst e1 e2 e3
  exact h

theorem Own.shape {w : World} {B : Nat} {E : TypeId} {v : Value} {xs : List UInt8} (h : Own w B E v xs) : ∃ a cap, v = .slice a xs.length cap ∧ ∀ ad, a = some ad → B ≤ ad.block ∧ ad.block < w.heap.size := by
  have hlt := World.ownsRow.lt h
  obtain ⟨h1, ⟨rfl, hn⟩ | ⟨g, cap, cur, rfl, hbb, hg, r⟩⟩ := h
  · exact ⟨none, 0, by rw [hn], by intro ad e; cases e⟩
  · exact ⟨_, cap, rfl, by intro ad e; cases e; exact hlt g rfl⟩

theorem Own.solid {w : World} {B : Nat} {E : TypeId} {v : Value} {xs : List UInt8} (h : Own w B E v xs) (hx : 0 < xs.length) : ∃ g cap, v = .slice (some ⟨g, 0, none⟩) xs.length cap ∧ B ≤ g ∧ g < w.heap.size ∧ xs.length ≤ cap := by
  have hlt := World.ownsRow.lt h
  obtain ⟨h1, ⟨rfl, hn⟩ | ⟨g, cap, cur, rfl, hbb, hg, hn, r⟩⟩ := h
  · omega
  · exact ⟨g, cap, rfl, hbb, (hlt g rfl).2, hn⟩

/-- what a call owns stays, if nothing of an older block (below the world's size) is turned -/
theorem Own.to {w w' : World} {B : Nat} {E : TypeId} {v : Value} {xs : List UInt8} (h : Own w B E v xs) (hb : Below w.heap.size w w') : Own w' B E v xs := by
  have hlt := World.ownsRow.lt h
  obtain ⟨h1, ⟨rfl, hn⟩ | ⟨g, cap, cur, rfl, hbb, hg, r⟩⟩ := h
  · exact ⟨h1, .inl ⟨rfl, hn⟩⟩
  · exact ⟨h1, .inr ⟨g, cap, cur, rfl, hbb, by rw [hb.block g (hlt g rfl).2]; exact hg, r⟩⟩

theorem Rd.take {w : World} {a : Option Addr} {n cap : Nat} {xs : List UInt8} (h : Rd w a n cap xs) (m : Nat) (hm : m ≤ n) : Rd w a m cap (xs.take m) := by
  have hl := h.len
  refine ⟨by simp; omega, by have := h.le; omega, h.nil, fun hc => ?_⟩
  obtain ⟨b, off, h1, h2, h3⟩ := h.mem hc
  refine ⟨b, off, h1, h2, fun j hj => ?_⟩
  rw [h3 j (by omega)]
  simp [List.getD, hj]
theorem RdS.take {w : World} {a : Option Addr} {n cap : Nat} {xs : List UInt8} (h : RdS w a n cap xs) (m : Nat) (hm : m ≤ n) : RdS w a m cap (xs.take m) := ⟨h.toRd.take m hm, h.st⟩
theorem RdS.drop {w : World} {b off n cap : Nat} {xs : List UInt8} (h : RdS w (some ⟨b, off, none⟩) n cap xs) (m : Nat) (hm : m ≤ n) : RdS w (some ⟨b, off + m, none⟩) (n - m) (cap - m) (xs.drop m) := by
  have hl := h.len
  refine RdS.mk' (by simp; omega) (by have := h.le; omega) (by (intro e; cases e)) fun ad e => ?_
  obtain ⟨h1, h2, h3⟩ := h.adr _ rfl
  obtain rfl := (Option.some.inj e).symm
  refine ⟨rfl, h2, fun j hj => ?_⟩
  have := h3 (m + j) (by omega)
  simp only [Nat.add_assoc] at this ⊢
  rw [this]
  simp [List.getD]
/-- nothing is left at a slice's end, wherever it points -/
theorem RdS.last {w : World} {b off n : Nat} {xs : List UInt8} (h : RdS w (some ⟨b, off, none⟩) n n xs) : RdS w (some ⟨b, off, none⟩) 0 0 (xs.drop n) := by
  have hl := h.len
  refine RdS.mk' (by simp; omega) (Nat.le_refl _) (fun _ => rfl) fun ad e => ?_
  obtain ⟨h1, h2, h3⟩ := h.adr ad e
  exact ⟨h1, h2, fun j hj => by omega⟩

theorem bv_oneCell {xs : List UInt8} : ∀ v ∈ xs.map bv, v.oneCell' = true := by
  intro v hv
  obtain ⟨x, _, rfl⟩ := List.mem_map.1 hv
  rfl

theorem Rd.cells {w : World} {ad : Addr} {n cap : Nat} {xs : List UInt8} (h : Rd w (some ad) n cap xs) : ∀ j u, (xs.map bv)[j]? = some u → w.cell? (ad.add j) = some u := by
  intro j u hu
  have hj : j < xs.length := by simpa using (List.getElem?_eq_some_iff.1 hu).1
  have hl := h.len
  obtain ⟨b, off, e, h2, h3⟩ := h.mem (by have := h.le; omega)
  cases e
  have := h3 j (by omega)
  rw [Addr.add_lit, this]
  simp [hj] at hu
  simp [hj, ← hu, bv]

section
variable {w : World} {B : Nat} {E : TypeId} {g n cap : Nat} {xs : List UInt8}
theorem Own.len (h : Own w B E (.slice (some ⟨g, 0, none⟩) n cap) xs) : xs.length = n := by
  obtain ⟨_, ⟨e, _⟩ | ⟨_, _, _, e, _⟩⟩ := h
  · cases e
  · injection e with _ e _; exact e.symm
theorem Own.cellAt (h : Own w B E (.slice (some ⟨g, 0, none⟩) n cap) xs) (j : Nat) (hj : j < n) : w.cell? ⟨g, j, none⟩ = some (.int .u8 ((xs.getD j 0).toNat : Int)) := by
  have hl := h.len
  subst hl
  rw [World.ownsRow.cellAt h j (by simpa using hj)]
  simp [bv, List.getD, hj]
theorem Own.frozenAt (h : Own w B E (.slice (some ⟨g, 0, none⟩) n cap) xs) (j : Nat) : w.frozen? ⟨g, j, none⟩ = false := by
  have hl := h.len
  subst hl
  exact World.ownsRow.frozenAt h j
theorem Own.stored (h : Own w B E (.slice (some ⟨g, 0, none⟩) n cap) xs) (j : Nat) (x : UInt8) : Own (w.setCell ⟨g, j, none⟩ (.int .u8 (x.toNat : Int))) B E (.slice (some ⟨g, 0, none⟩) n cap) (xs.set j x) := by
  have hl := h.len
  subst hl
  have := World.ownsRow.stored h j (bv x)
  unfold Own
  rw [List.length_set, List.map_set]
  exact this.1
theorem Own.base (h : Own w B E (.slice (some ⟨g, 0, none⟩) n cap) xs) : B ≤ g ∧ g < w.heap.size := World.ownsRow.lt h g rfl
end

/-- bytes as a text -/
def bstr (xs : List UInt8) : ByteArray := ⟨xs.toArray⟩
theorem toList_loop (bs : ByteArray) : ∀ (n i : Nat) (r : List UInt8), bs.size - i = n → ByteArray.toList.loop bs i r = r.reverse ++ bs.data.toList.drop i := by
  have e : bs.data.toList.length = bs.size := Array.length_toList
  intro n
  induction n with
  | zero =>
    intro i r h
    rw [ByteArray.toList.loop, if_neg (by omega), List.drop_of_length_le (by omega)]
    simp
  | succ n ih =>
    intro i r h
    rw [ByteArray.toList.loop, if_pos (by omega), ih (i + 1) _ (by omega)]
    have hi : i < bs.data.toList.length := by omega
    rw [List.drop_eq_getElem_cons hi]
    simp [ByteArray.get!]
    exact getElem!_pos bs.data i (by rw [Array.length_toList] at hi; exact hi)
theorem bstr_toList (xs : List UInt8) : (bstr xs).toList = xs := by
  rw [ByteArray.toList, toList_loop _ _ 0 [] rfl]
  simp [bstr]

section
variable {P : Program} {T E : TypeId} (bt : BT P T E) {ops : Array Oper} {rest : List Oper} {o : Oper} {a : Act} {Q : Exit → Act → World → Prop} {w : World}
include bt

/-- string(b) -/
theorem run_bstr {S : TypeId} (ht : P.underlying S = some .string) {p : Option Addr} {n cap : Nat} {xs : List UInt8} (hr : Rd w p n cap xs) : (convert T S (.slice p n cap)).run P w = .ok (.string (bstr xs)) w := by
  cases p with
  | none =>
    have hx : xs = [] := List.eq_nil_of_length_eq_zero (by have := hr.nil rfl; have := hr.le; have := hr.len; omega)
    subst hx
    rw [run_convert_bytes_nil w T E bt.sl bt.el n cap S ht]
    rfl
  | some ad =>
    by_cases hc : cap = 0
    · have hl := hr.len
      have hle := hr.le
      have hx : xs = [] := List.eq_nil_of_length_eq_zero (by omega)
      have hn : n = 0 := by omega
      subst hx hn
      have hl0 : (loadCells ad 0).run P w = .ok #[] w := by simp [loadCells, loadCellsFrom]
      rw [run_convert_bytes_string w T S E _ 0 cap bt.sl bt.el ht, run_bytesToString w _ 0 cap [] (by simpa using hl0)]
      rfl
    obtain ⟨b, off, e, h2, h3⟩ := hr.mem (by omega)
    cases e
    rw [run_convert_bytes_arg w T E bt.sl bt.el b off n cap (xs.map fun x => (x.toNat : Int)) (by simp [hr.len]) (fun i hi => by
      rw [h3 i hi]
      have : i < xs.length := by rw [hr.len]; exact hi
      simp [List.getD, this]) S ht]
    simp [strOfNums, bstr, Function.comp_def]

/-- make([]byte, n) -/
theorem wl_make (hg : o.guard = none) (l c : Operand) (hop : o.op = Op.makeSlice T l c) (B : Nat) (n : Nat) (hl : a.eval l = .int .i64 n) (hc : a.eval c = .int .i64 n)
    (hn : n ≤ 281474976710656) (hB : B ≤ w.heap.size)
    (hK : ∀ w', Own w' B E (.slice (some ⟨w.heap.size, 0, none⟩) n n) (List.replicate n 0) → Below w.heap.size w w' → w'.heap.size = w.heap.size + 1 → wpList P ops Q rest (a.put o.dst (.slice (some ⟨w.heap.size, 0, none⟩) n n)) w') :
    wpList P ops Q (o :: rest) a w := by
  obtain ⟨i0, hi, hz0, hz1, hz2⟩ := info_parts bt.info
  refine wpList_plain hg fun K hK' => ?_
  have hrun := run_make (P := P) w T E i0 (.int .u8 0) bt.sl hi hz0 .i64 .i64 n n (by omega) (by omega) (by rw [hz2]; omega) (by omega)
  unfold Oper.wp
  simp [execOp, hop, hl, hc, hrun, Result.andThen]
  refine hK' _ _ (hK _ ?_ ?_ ?_)
  · have := World.ownsRow_lit (base := B) (e := E) (size := 1) w (madeCells #[.int .u8 0] n) n hB (by unfold maxLen; omega) (by simp [madeCells])
    simp only [hz1, Value.cells, Nat.mul_one]
    unfold Own
    have e : (List.map bv (List.replicate n 0)) = (madeCells #[.int .u8 0] n).toList := by rw [toList_madeCells_one]; simp [bv]
    rw [e]
    simpa using this
  · exact (Below.refl _ _).alloc (Nat.le_refl _) _
  · simp

/-- copy(dst[off:], src), dst the call's own row, src what reads -/
theorem wl_copy (hgd : o.guard = none) (d s : Operand) (ho : o.op = .call { callee := .builtin .copy, args := #[d, s], argTypes := #[T, T] })
    (B : Nat) (v : Value) (ys : List UInt8) (hown : Own w B E v ys) (off : Nat) (dp sp : Option Addr) (dLen dCap sLen sCap : Nat) (xs : List UInt8)
    (hd : a.eval d = .slice dp dLen dCap) (hs : a.eval s = .slice sp sLen sCap) (hrd : Rd w sp sLen sCap xs) (hfit : off + sLen ≤ ys.length) (hdl : sLen ≤ dLen)
    (hdp : 0 < sLen → ∀ g, v.ownBlock = some g → dp = some ⟨g, off, none⟩)
    (hK : ∀ w', Own w' B E v (splice ys off xs) → Below B w w' → w'.heap.size = w.heap.size → wpList P ops Q rest (a.put o.dst (goInt sLen)) w') :
    wpList P ops Q (o :: rest) a w := by
  obtain ⟨i0, hi, hz0, hz1, hz2⟩ := info_parts bt.info
  have hsz : (P.info? E).map (·.size) = some 1 := by rw [hi]; simp [hz1]
  by_cases h0 : sLen = 0
  · subst h0
    have hx : xs = [] := List.eq_nil_of_length_eq_zero hrd.len
    subst hx
    refine wpList_copy_nothing hgd d s T T ho E bt.sl hsz dp sp dLen dCap 0 sCap hd hs (by simp) ?_
    exact hK w (by simpa [splice] using hown) (Below.refl _ _) rfl
  · obtain ⟨h1, ⟨rfl, hn⟩ | ⟨g, cap, cur, rfl, hbb, hg, hn, hcm, hcs, ht⟩⟩ := hown
    · omega
    · obtain rfl := hdp (by omega) g rfl
      cases sp with
      | none => have := hrd.nil rfl; have := hrd.le; omega
      | some ad =>
        refine wpList_copy_own hgd d s T T ho E bt.sl hsz g off dLen dCap ad sLen sCap hd hs cur E hg (xs.map bv) (by simp [hrd.len, Nat.min_eq_left hdl]) hrd.cells (by simp only [List.length_map, hrd.len]; omega) bv_oneCell ?_
        have hlen : (xs.map bv).length = sLen := by simp [hrd.len]
        rw [hlen]
        refine hK _ ⟨by simp, .inr ⟨g, cap, _, ?_, hbb, setRow_heap w g _ _ E _ hg, ?_, hcm, ?_, ?_⟩⟩ (below_setRow (Below.refl _ _) hbb _) (by simp [World.setRow])
        · rw [length_splice _ _ _ (by rw [hrd.len]; exact hfit)]
        · rw [length_splice _ _ _ (by rw [hrd.len]; exact hfit)]; exact hn
        · simp [hrd.len]; omega
        · rw [length_splice _ _ _ (by rw [hrd.len]; exact hfit)]
          simp only [Nat.mul_one] at ht
          have hlt : ys.length ≤ cur.toList.length := by simp; omega
          simp only [splice, List.map_append, List.map_take, List.map_drop, ← ht, Nat.mul_one, hrd.len]
          rw [List.take_append, List.take_append]
          simp only [List.length_take, List.length_map, hrd.len, List.take_take, List.drop_take, Array.length_toList]
          have e1 : min ys.length off = off := by omega
          have e2 : min off cur.size = off := by omega
          have e3 : List.take (ys.length - off) (List.map bv xs) = List.map bv xs := List.take_of_length_le (by simp [hrd.len]; omega)
          have e4 : min off ys.length = off := by omega
          rw [e1, e2, e3, e4]
          congr 3
          omega

/-- append(dst, src...), dst nil or the call's own, src what reads -/
theorem wl_append (hgd : o.guard = none) (d s : Operand) (ho : o.op = .call { callee := .builtin .append, args := #[d, s], argTypes := #[T, T] })
    (B : Nat) (v : Value) (ys : List UInt8) (hown : Own w B E v ys) (hd : a.eval d = v) (sp : Option Addr) (sLen sCap : Nat) (xs : List UInt8)
    (hs : a.eval s = .slice sp sLen sCap) (hrd : Rd w sp sLen sCap xs) (hb : ys.length + sLen ≤ 140737488355328) (hB : B ≤ w.heap.size)
    (hK : ∀ v' w', Own w' B E v' (ys ++ xs) → Below B w w' → wpList P ops Q rest (a.put o.dst v') w') :
    wpList P ops Q (o :: rest) a w := by
  obtain ⟨i0, hi, hz0, hz1, hz2⟩ := info_parts bt.info
  cases sp with
  | none =>
    have h0 : sCap = 0 := hrd.nil rfl
    have h1 : sLen = 0 := by have := hrd.le; omega
    subst h0 h1
    have hx : xs = [] := List.eq_nil_of_length_eq_zero hrd.len
    subst hx
    refine wpList_append_own_none hgd d s T ho B E i0 1 bt.sl hi v _ _ hd hown hs ?_
    exact hK v w (by simpa using hown) (Below.refl _ _)
  | some ad =>
    refine wpList_append_own w hgd d s T ho B E i0 (.int .u8 0) 1 1 bt.sl hi hz0 hz1 hz2 rfl (by decide) v _ _ hd hown ad sLen sCap (xs.map bv) hs (by simp [hrd.len]) hrd.cells bv_oneCell (by unfold maxLen; omega) (by omega) hB ?_
    intro v' w' h1 h2 _
    refine hK v' w' ?_ ((Below.refl _ _).grown h2 hB fun k hk => (World.ownsRow.lt hown k hk).1)
    unfold Own
    rw [List.length_append, List.map_append, hrd.len]
    exact h1
end
end Go.Proofs.YtfidajbenmgflaaDoor
