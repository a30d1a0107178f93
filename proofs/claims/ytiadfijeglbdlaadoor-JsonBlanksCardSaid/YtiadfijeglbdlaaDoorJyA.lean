/-
  Bytes, plain values, the plain writer and reader. Conditions: those in each statement.
-/
import Derived.Test.YtiadfijeglbdlaaDoorRows
import Derived.WalkKit
import Derived.Lib.Hide
import Derived.Laws.CopyOwn
import Derived.Laws.AppendOwnNone
import Derived.Laws.BytesArg
import Derived.ProofKit
import Derived.OpenShut
import Derived.JoinedCond
import Derived.Carry
import Derived.Lib.SlBytesRowKit
import Derived.Deep.Slices
import Derived.Deep.Fields
import Derived.SliceStrings
namespace Go.Proofs.YtiadfijeglbdlaaDoor
open Go.RowKit

def bv (x : UInt8) : Value := .int .u8 (x.toNat : Int)

/-- what the dump says of []byte -/
structure BT (P : Program) (T E : TypeId) : Prop where
  sl : P.underlying T = some (.slice E)
  el : P.underlying E = some (.int .u8)
  info : (P.info? E).map (fun i => (i.zero, i.size, i.bytes)) = some (some (.int .u8 0), 1, 1)

/-- the slice of n bytes at a reads as xs -/
structure Rd (w : World) (a : Option Addr) (n cap : Nat) (xs : List UInt8) : Prop where
  len : xs.length = n
  le : n ≤ cap
  nil : a = none → cap = 0
  mem : 0 < cap → ∃ b off, a = some ⟨b, off, none⟩ ∧ b < w.heap.size ∧ ∀ j, j < n → w.cell? ⟨b, off + j, none⟩ = some (.int .u8 ((xs.getD j 0).toNat : Int))

/-- .. and its address, if it has one, leads into the memory (what came in with no capacity may lead anywhere) -/
structure RdS (w : World) (a : Option Addr) (n cap : Nat) (xs : List UInt8) : Prop extends Rd w a n cap xs where
  st : ∀ ad, a = some ad → ad.spot = none ∧ ad.block < w.heap.size

theorem RdS.adr {w : World} {a : Option Addr} {n cap : Nat} {xs : List UInt8} (h : RdS w a n cap xs) : ∀ ad, a = some ad → ad.spot = none ∧ ad.block < w.heap.size ∧ ∀ j, j < n → w.cell? ⟨ad.block, ad.off + j, none⟩ = some (.int .u8 ((xs.getD j 0).toNat : Int)) := by
  intro ad e
  obtain ⟨h1, h2⟩ := h.st ad e
  refine ⟨h1, h2, fun j hj => ?_⟩
  obtain ⟨b, off, e2, _, h3⟩ := h.mem (by have := h.le; omega)
  rw [e] at e2
  cases e2
  exact h3 j hj
theorem RdS.mk' {w : World} {a : Option Addr} {n cap : Nat} {xs : List UInt8} (len : xs.length = n) (le : n ≤ cap) (nil : a = none → cap = 0)
    (adr : ∀ ad, a = some ad → ad.spot = none ∧ ad.block < w.heap.size ∧ ∀ j, j < n → w.cell? ⟨ad.block, ad.off + j, none⟩ = some (.int .u8 ((xs.getD j 0).toNat : Int))) : RdS w a n cap xs := by
  refine ⟨⟨len, le, nil, fun hc => ?_⟩, fun ad e => ⟨(adr ad e).1, (adr ad e).2.1⟩⟩
  cases a with
  | none => have := nil rfl; omega
  | some ad =>
    obtain ⟨b, off, sp⟩ := ad
    obtain ⟨h1, h2, h3⟩ := adr _ rfl
    simp only at h1
    subst h1
    exact ⟨b, off, rfl, h2, h3⟩

def Own (w : World) (B : Nat) (E : TypeId) (v : Value) (xs : List UInt8) : Prop := w.ownsRow B E 1 v xs.length (xs.map bv)

theorem Rd.below {w w' : World} {a : Option Addr} {n cap : Nat} {xs : List UInt8} (h : Rd w a n cap xs) {B : Nat} (hb : Below B w w') (hB : ∀ ad, a = some ad → 0 < cap → ad.block < B) : Rd w' a n cap xs := by
  refine ⟨h.len, h.le, h.nil, fun hc => ?_⟩
  obtain ⟨b, off, e, h2, h3⟩ := h.mem hc
  exact ⟨b, off, e, Nat.lt_of_lt_of_le h2 hb.size, fun j hj => (hb.cell (p := ⟨b, off + j, none⟩) (show b < B from hB ⟨b, off, none⟩ e hc)).trans (h3 j hj)⟩
theorem Rd.to {w w' : World} {a : Option Addr} {n cap : Nat} {xs : List UInt8} (h : Rd w a n cap xs) (hb : Below w.heap.size w w') : Rd w' a n cap xs :=
  h.below hb fun ad e hc => by
    obtain ⟨b, off, e', h2, _⟩ := h.mem hc
    rw [e] at e'
    cases e'
    exact h2
theorem RdS.to {w w' : World} {a : Option Addr} {n cap : Nat} {xs : List UInt8} (h : RdS w a n cap xs) (hb : Below w.heap.size w w') : RdS w' a n cap xs :=
  ⟨h.toRd.to hb, fun ad e => ⟨(h.st ad e).1, Nat.lt_of_lt_of_le (h.st ad e).2 hb.size⟩⟩
theorem Rd.none (w : World) : Rd w none 0 0 [] := { len := rfl, le := Nat.le_refl _, nil := fun _ => rfl, mem := by intro h; omega }

theorem Own.nil (w : World) (B : Nat) (E : TypeId) : Own w B E (.slice none 0 0) [] := World.ownsRow_nil w B E 1

theorem Own.mono {w : World} {B B' : Nat} {E : TypeId} {v : Value} {xs : List UInt8} (h : Own w B E v xs) (hB : B' ≤ B) : Own w B' E v xs := by
  obtain ⟨h1, h2⟩ := h
  refine ⟨h1, h2.imp id ?_⟩
  rintro ⟨g, cap, cur, e, hb, r⟩
  exact ⟨g, cap, cur, e, Nat.le_trans hB hb, r⟩

theorem Own.reads {w : World} {B : Nat} {E : TypeId} {v : Value} {xs : List UInt8} (h : Own w B E v xs) : ∃ a n cap, v = .slice a n cap ∧ RdS w a n cap xs := by
  have h' := h
  obtain ⟨h1, ⟨rfl, hn⟩ | ⟨g, cap, cur, rfl, hb, hg, hn, hc, hs, ht⟩⟩ := h
  · have : xs = [] := List.eq_nil_of_length_eq_zero hn
    subst this
    exact ⟨none, 0, 0, rfl, Rd.none w, by intro ad e; cases e⟩
  · refine ⟨_, _, cap, rfl, RdS.mk' rfl hn (by intro e; cases e) ?_⟩
    rintro ad e
    obtain rfl := (Option.some.inj e).symm
    refine ⟨rfl, ?_, fun j hj => ?_⟩
    · have := (World.ownsRow.lt h' g rfl).2
      exact this
    · have := World.ownsRow.cellAt h' j (by simpa using hj)
      simp only [Nat.zero_add]
      rw [this]
      simp [bv, List.getD, hj]

theorem Own.rd {w : World} {B : Nat} {E : TypeId} {a : Option Addr} {n cap : Nat} {xs : List UInt8} (h : Own w B E (.slice a n cap) xs) : RdS w a n cap xs := by
  obtain ⟨a', n', cap', e, h⟩ := h.reads
  injection e with e1 e2 e3
  subst e1 e2 e3
  exact h

theorem Own.shape {w : World} {B : Nat} {E : TypeId} {v : Value} {xs : List UInt8} (h : Own w B E v xs) : ∃ a cap, v = .slice a xs.length cap ∧ ∀ ad, a = some ad → B ≤ ad.block ∧ ad.block < w.heap.size := by
  have hlt := World.ownsRow.lt h
  obtain ⟨h1, ⟨rfl, hn⟩ | ⟨g, cap, cur, rfl, hbb, hg, r⟩⟩ := h
  · exact ⟨none, 0, by rw [hn], by intro ad e; cases e⟩
  · exact ⟨_, cap, rfl, by intro ad e; cases e; exact hlt g rfl⟩

theorem Own.solid {w : World} {B : Nat} {E : TypeId} {v : Value} {xs : List UInt8} (h : Own w B E v xs) (hx : 0 < xs.length) : ∃ g cap, v = .slice (some ⟨g, 0, none⟩) xs.length cap ∧ B ≤ g ∧ g < w.heap.size ∧ xs.length ≤ cap := by
  have hlt := World.ownsRow.lt h
  obtain ⟨h1, ⟨rfl, hn⟩ | ⟨g, cap, cur, rfl, hbb, hg, hn, r⟩⟩ := h
  · omega
  · exact ⟨g, cap, rfl, hbb, (hlt g rfl).2, hn⟩

/-- what a call owns stays, if nothing of an older block (below the world's size) is turned -/
theorem Own.to {w w' : World} {B : Nat} {E : TypeId} {v : Value} {xs : List UInt8} (h : Own w B E v xs) (hb : Below w.heap.size w w') : Own w' B E v xs := by
  have hlt := World.ownsRow.lt h
  obtain ⟨h1, ⟨rfl, hn⟩ | ⟨g, cap, cur, rfl, hbb, hg, r⟩⟩ := h
  · exact ⟨h1, .inl ⟨rfl, hn⟩⟩
  · exact ⟨h1, .inr ⟨g, cap, cur, rfl, hbb, by rw [hb.block g (hlt g rfl).2]; exact hg, r⟩⟩

theorem Rd.take {w : World} {a : Option Addr} {n cap : Nat} {xs : List UInt8} (h : Rd w a n cap xs) (m : Nat) (hm : m ≤ n) : Rd w a m cap (xs.take m) := by
  have hl := h.len
  refine ⟨by simp; omega, by have := h.le; omega, h.nil, fun hc => ?_⟩
  obtain ⟨b, off, h1, h2, h3⟩ := h.mem hc
  refine ⟨b, off, h1, h2, fun j hj => ?_⟩
  rw [h3 j (by omega)]
  simp [List.getD, hj]
theorem RdS.take {w : World} {a : Option Addr} {n cap : Nat} {xs : List UInt8} (h : RdS w a n cap xs) (m : Nat) (hm : m ≤ n) : RdS w a m cap (xs.take m) := ⟨h.toRd.take m hm, h.st⟩
theorem RdS.drop {w : World} {b off n cap : Nat} {xs : List UInt8} (h : RdS w (some ⟨b, off, none⟩) n cap xs) (m : Nat) (hm : m ≤ n) : RdS w (some ⟨b, off + m, none⟩) (n - m) (cap - m) (xs.drop m) := by
  have hl := h.len
  refine RdS.mk' (by simp; omega) (by have := h.le; omega) (by (intro e; cases e)) fun ad e => ?_
  obtain ⟨h1, h2, h3⟩ := h.adr _ rfl
  obtain rfl := (Option.some.inj e).symm
  refine ⟨rfl, h2, fun j hj => ?_⟩
  have := h3 (m + j) (by omega)
  simp only [Nat.add_assoc] at this ⊢
  rw [this]
  simp [List.getD]
/-- nothing is left at a slice's end, wherever it points -/
theorem RdS.last {w : World} {b off n : Nat} {xs : List UInt8} (h : RdS w (some ⟨b, off, none⟩) n n xs) : RdS w (some ⟨b, off, none⟩) 0 0 (xs.drop n) := by
  have hl := h.len
  refine RdS.mk' (by simp; omega) (Nat.le_refl _) (fun _ => rfl) fun ad e => ?_
  obtain ⟨h1, h2, h3⟩ := h.adr ad e
  exact ⟨h1, h2, fun j hj => by omega⟩

theorem bv_oneCell {xs : List UInt8} : ∀ v ∈ xs.map bv, v.oneCell' = true := by
  intro v hv
  obtain ⟨x, _, rfl⟩ := List.mem_map.1 hv
  rfl

theorem Rd.cells {w : World} {ad : Addr} {n cap : Nat} {xs : List UInt8} (h : Rd w (some ad) n cap xs) : ∀ j u, (xs.map bv)[j]? = some u → w.cell? (ad.add j) = some u := by
  intro j u hu
  have hj : j < xs.length := by simpa using (List.getElem?_eq_some_iff.1 hu).1
  have hl := h.len
  obtain ⟨b, off, e, h2, h3⟩ := h.mem (by have := h.le; omega)
  cases e
  have := h3 j (by omega)
  rw [Addr.add_lit, this]
  simp [hj] at hu
  simp [hj, ← hu, bv]

section
variable {w : World} {B : Nat} {E : TypeId} {g n cap : Nat} {xs : List UInt8}
theorem Own.len (h : Own w B E (.slice (some ⟨g, 0, none⟩) n cap) xs) : xs.length = n := by
  obtain ⟨_, ⟨e, _⟩ | ⟨_, _, _, e, _⟩⟩ := h
  · cases e
  · injection e with _ e _; exact e.symm
theorem Own.cellAt (h : Own w B E (.slice (some ⟨g, 0, none⟩) n cap) xs) (j : Nat) (hj : j < n) : w.cell? ⟨g, j, none⟩ = some (.int .u8 ((xs.getD j 0).toNat : Int)) := by
  have hl := h.len
  subst hl
  rw [World.ownsRow.cellAt h j (by simpa using hj)]
  simp [bv, List.getD, hj]
theorem Own.frozenAt (h : Own w B E (.slice (some ⟨g, 0, none⟩) n cap) xs) (j : Nat) : w.frozen? ⟨g, j, none⟩ = false := by
  have hl := h.len
  subst hl
  exact World.ownsRow.frozenAt h j
theorem Own.stored (h : Own w B E (.slice (some ⟨g, 0, none⟩) n cap) xs) (j : Nat) (x : UInt8) : Own (w.setCell ⟨g, j, none⟩ (.int .u8 (x.toNat : Int))) B E (.slice (some ⟨g, 0, none⟩) n cap) (xs.set j x) := by
  have hl := h.len
  subst hl
  have := World.ownsRow.stored h j (bv x)
  unfold Own
  rw [List.length_set, List.map_set]
  exact this.1
theorem Own.base (h : Own w B E (.slice (some ⟨g, 0, none⟩) n cap) xs) : B ≤ g ∧ g < w.heap.size := World.ownsRow.lt h g rfl
end

/-- bytes as a text -/
def bstr (xs : List UInt8) : ByteArray := ⟨xs.toArray⟩
theorem toList_loop (bs : ByteArray) : ∀ (n i : Nat) (r : List UInt8), bs.size - i = n → ByteArray.toList.loop bs i r = r.reverse ++ bs.data.toList.drop i := by
  have e : bs.data.toList.length = bs.size := Array.length_toList
  intro n
  induction n with
  | zero =>
    intro i r h
    rw [ByteArray.toList.loop, if_neg (by omega), List.drop_of_length_le (by omega)]
    simp
  | succ n ih =>
    intro i r h
    rw [ByteArray.toList.loop, if_pos (by omega), ih (i + 1) _ (by omega)]
    have hi : i < bs.data.toList.length := by omega
    rw [List.drop_eq_getElem_cons hi]
    simp [ByteArray.get!]
    exact getElem!_pos bs.data i (by rw [Array.length_toList] at hi; exact hi)
theorem bstr_toList (xs : List UInt8) : (bstr xs).toList = xs := by
  rw [ByteArray.toList, toList_loop _ _ 0 [] rfl]
  simp [bstr]

section
variable {P : Program} {T E : TypeId} (bt : BT P T E) {ops : Array Oper} {rest : List Oper} {o : Oper} {a : Act} {Q : Exit → Act → World → Prop} {w : World}
include bt

/-- string(b) -/
theorem run_bstr {S : TypeId} (ht : P.underlying S = some .string) {p : Option Addr} {n cap : Nat} {xs : List UInt8} (hr : Rd w p n cap xs) : (convert T S (.slice p n cap)).run P w = .ok (.string (bstr xs)) w := by
  cases p with
  | none =>
    have hx : xs = [] := List.eq_nil_of_length_eq_zero (by have := hr.nil rfl; have := hr.le; have := hr.len; omega)
    subst hx
    rw [run_convert_bytes_nil w T E bt.sl bt.el n cap S ht]
    rfl
  | some ad =>
    by_cases hc : cap = 0
    · have hl := hr.len
      have hle := hr.le
      have hx : xs = [] := List.eq_nil_of_length_eq_zero (by omega)
      have hn : n = 0 := by omega
      subst hx hn
      have hl0 : (loadCells ad 0).run P w = .ok #[] w := by simp [loadCells, loadCellsFrom]
      rw [run_convert_bytes_string w T S E _ 0 cap bt.sl bt.el ht, run_bytesToString w _ 0 cap [] (by simpa using hl0)]
      rfl
    obtain ⟨b, off, e, h2, h3⟩ := hr.mem (by omega)
    cases e
    rw [run_convert_bytes_arg w T E bt.sl bt.el b off n cap (xs.map fun x => (x.toNat : Int)) (by simp [hr.len]) (fun i hi => by
      rw [h3 i hi]
      have : i < xs.length := by rw [hr.len]; exact hi
      simp [List.getD, this]) S ht]
    simp [strOfNums, bstr, Function.comp_def]

/-- make([]byte, n) -/
theorem wl_make (hg : o.guard = none) (l c : Operand) (hop : o.op = Op.makeSlice T l c) (B : Nat) (n : Nat) (hl : a.eval l = .int .i64 n) (hc : a.eval c = .int .i64 n)
    (hn : n ≤ 281474976710656) (hB : B ≤ w.heap.size)
    (hK : ∀ w', Own w' B E (.slice (some ⟨w.heap.size, 0, none⟩) n n) (List.replicate n 0) → Below w.heap.size w w' → w'.heap.size = w.heap.size + 1 → wpList P ops Q rest (a.put o.dst (.slice (some ⟨w.heap.size, 0, none⟩) n n)) w') :
    wpList P ops Q (o :: rest) a w := by
  obtain ⟨i0, hi, hz0, hz1, hz2⟩ := info_parts bt.info
  refine wpList_plain hg fun K hK' => ?_
  have hrun := run_make (P := P) w T E i0 (.int .u8 0) bt.sl hi hz0 .i64 .i64 n n (by omega) (by omega) (by rw [hz2]; omega) (by omega)
  unfold Oper.wp
  simp [execOp, hop, hl, hc, hrun, Result.andThen]
  refine hK' _ _ (hK _ ?_ ?_ ?_)
  · have := World.ownsRow_lit (base := B) (e := E) (size := 1) w (madeCells #[.int .u8 0] n) n hB (by unfold maxLen; omega) (by simp [madeCells])
    simp only [hz1, Value.cells, Nat.mul_one]
    unfold Own
    have e : (List.map bv (List.replicate n 0)) = (madeCells #[.int .u8 0] n).toList := by rw [toList_madeCells_one]; simp [bv]
    rw [e]
    simpa using this
  · exact (Below.refl _ _).alloc (Nat.le_refl _) _
  · simp

/-- copy(dst[off:], src), dst the call's own row, src what reads -/
theorem wl_copy (hgd : o.guard = none) (d s : Operand) (ho : o.op = .call { callee := .builtin .copy, args := #[d, s], argTypes := #[T, T] })
    (B : Nat) (v : Value) (ys : List UInt8) (hown : Own w B E v ys) (off : Nat) (dp sp : Option Addr) (dLen dCap sLen sCap : Nat) (xs : List UInt8)
    (hd : a.eval d = .slice dp dLen dCap) (hs : a.eval s = .slice sp sLen sCap) (hrd : Rd w sp sLen sCap xs) (hfit : off + sLen ≤ ys.length) (hdl : sLen ≤ dLen)
    (hdp : 0 < sLen → ∀ g, v.ownBlock = some g → dp = some ⟨g, off, none⟩)
    (hK : ∀ w', Own w' B E v (splice ys off xs) → Below B w w' → w'.heap.size = w.heap.size → wpList P ops Q rest (a.put o.dst (goInt sLen)) w') :
    wpList P ops Q (o :: rest) a w := by
  obtain ⟨i0, hi, hz0, hz1, hz2⟩ := info_parts bt.info
  have hsz : (P.info? E).map (·.size) = some 1 := by rw [hi]; simp [hz1]
  by_cases h0 : sLen = 0
  · subst h0
    have hx : xs = [] := List.eq_nil_of_length_eq_zero hrd.len
    subst hx
    refine wpList_copy_nothing hgd d s T T ho E bt.sl hsz dp sp dLen dCap 0 sCap hd hs (by simp) ?_
    exact hK w (by simpa [splice] using hown) (Below.refl _ _) rfl
  · obtain ⟨h1, ⟨rfl, hn⟩ | ⟨g, cap, cur, rfl, hbb, hg, hn, hcm, hcs, ht⟩⟩ := hown
    · omega
    · obtain rfl := hdp (by omega) g rfl
      cases sp with
      | none => have := hrd.nil rfl; have := hrd.le; omega
      | some ad =>
        refine wpList_copy_own hgd d s T T ho E bt.sl hsz g off dLen dCap ad sLen sCap hd hs cur E hg (xs.map bv) (by simp [hrd.len, Nat.min_eq_left hdl]) hrd.cells (by simp only [List.length_map, hrd.len]; omega) bv_oneCell ?_
        have hlen : (xs.map bv).length = sLen := by simp [hrd.len]
        rw [hlen]
        refine hK _ ⟨by simp, .inr ⟨g, cap, _, ?_, hbb, setRow_heap w g _ _ E _ hg, ?_, hcm, ?_, ?_⟩⟩ (below_setRow (Below.refl _ _) hbb _) (by simp [World.setRow])
        · rw [length_splice _ _ _ (by rw [hrd.len]; exact hfit)]
        · rw [length_splice _ _ _ (by rw [hrd.len]; exact hfit)]; exact hn
        · simp [hrd.len]; omega
        · rw [length_splice _ _ _ (by rw [hrd.len]; exact hfit)]
          simp only [Nat.mul_one] at ht
          have hlt : ys.length ≤ cur.toList.length := by simp; omega
          simp only [splice, List.map_append, List.map_take, List.map_drop, ← ht, Nat.mul_one, hrd.len]
          rw [List.take_append, List.take_append]
          simp only [List.length_take, List.length_map, hrd.len, List.take_take, List.drop_take, Array.length_toList]
          have e1 : min ys.length off = off := by omega
          have e2 : min off cur.size = off := by omega
          have e3 : List.take (ys.length - off) (List.map bv xs) = List.map bv xs := List.take_of_length_le (by simp [hrd.len]; omega)
          have e4 : min off ys.length = off := by omega
          rw [e1, e2, e3, e4]
          congr 3
          omega

/-- append(dst, src...), dst nil or the call's own, src what reads -/
theorem wl_append (hgd : o.guard = none) (d s : Operand) (ho : o.op = .call { callee := .builtin .append, args := #[d, s], argTypes := #[T, T] })
    (B : Nat) (v : Value) (ys : List UInt8) (hown : Own w B E v ys) (hd : a.eval d = v) (sp : Option Addr) (sLen sCap : Nat) (xs : List UInt8)
    (hs : a.eval s = .slice sp sLen sCap) (hrd : Rd w sp sLen sCap xs) (hb : ys.length + sLen ≤ 140737488355328) (hB : B ≤ w.heap.size)
    (hK : ∀ v' w', Own w' B E v' (ys ++ xs) → Below B w w' → wpList P ops Q rest (a.put o.dst v') w') :
    wpList P ops Q (o :: rest) a w := by
  obtain ⟨i0, hi, hz0, hz1, hz2⟩ := info_parts bt.info
  cases sp with
  | none =>
    have h0 : sCap = 0 := hrd.nil rfl
    have h1 : sLen = 0 := by have := hrd.le; omega
    subst h0 h1
    have hx : xs = [] := List.eq_nil_of_length_eq_zero hrd.len
    subst hx
    refine wpList_append_own_none hgd d s T ho B E i0 1 bt.sl hi v _ _ hd hown hs ?_
    exact hK v w (by simpa using hown) (Below.refl _ _)
  | some ad =>
    refine wpList_append_own w hgd d s T ho B E i0 (.int .u8 0) 1 1 bt.sl hi hz0 hz1 hz2 rfl (by decide) v _ _ hd hown ad sLen sCap (xs.map bv) hs (by simp [hrd.len]) hrd.cells bv_oneCell (by unfold maxLen; omega) (by omega) hB ?_
    intro v' w' h1 h2 _
    refine hK v' w' ?_ ((Below.refl _ _).grown h2 hB fun k hk => (World.ownsRow.lt hown k hk).1)
    unfold Own
    rw [List.length_append, List.map_append, hrd.len]
    exact h1
end
end Go.Proofs.YtiadfijeglbdlaaDoor

namespace Go.Proofs.YtiadfijeglbdlaaDoor

/-- a value -/
inductive JV where
  | mk (kind : Int) (str : List UInt8) (num : Nat) (list : List JV) (keys : List (List UInt8)) : JV
abbrev JV.kind : JV → Int | .mk k _ _ _ _ => k
abbrev JV.str : JV → List UInt8 | .mk _ s _ _ _ => s
abbrev JV.num : JV → Nat | .mk _ _ n _ _ => n
abbrev JV.list : JV → List JV | .mk _ _ _ l _ => l
abbrev JV.keys : JV → List (List UInt8) | .mk _ _ _ _ ks => ks
def JV.zero : JV := .mk 0 [] 0 [] []

def cont (d : UInt8) : Bool := 128 ≤ d.toNat && d.toNat ≤ 191
/-- is it UTF-8? -/
def utf8F : List UInt8 → Bool
  | [] => true
  | c :: r =>
    if c.toNat < 128 then utf8F r
    else if 194 ≤ c.toNat ∧ c.toNat < 224 then
      match r with
      | d :: r1 => cont d && utf8F r1
      | _ => false
    else if 224 ≤ c.toNat ∧ c.toNat < 240 then
      match r with
      | d :: e :: r2 => cont d && cont e && decide (2048 ≤ 4096 * (c.toNat - 224) + 64 * (d.toNat - 128) + (e.toNat - 128)) && !(decide (55296 ≤ 4096 * (c.toNat - 224) + 64 * (d.toNat - 128) + (e.toNat - 128)) && decide (4096 * (c.toNat - 224) + 64 * (d.toNat - 128) + (e.toNat - 128) < 57344)) && utf8F r2
      | _ => false
    else if 240 ≤ c.toNat ∧ c.toNat < 245 then
      match r with
      | d :: e :: f :: r3 => cont d && cont e && cont f && decide (65536 ≤ 262144 * (c.toNat - 240) + 4096 * (d.toNat - 128) + 64 * (e.toNat - 128) + (f.toNat - 128)) && decide (262144 * (c.toNat - 240) + 4096 * (d.toNat - 128) + 64 * (e.toNat - 128) + (f.toNat - 128) ≤ 1114111) && utf8F r3
      | _ => false
    else false

/-- all names differ -/
def apartF : List (List UInt8) → Bool
  | [] => true
  | k :: r => !r.contains k && apartF r
/-- what may be of a value, but for what is in its list -/
def headF (k : Int) (s : List UInt8) (n : Nat) (l : List JV) (ks : List (List UInt8)) (most : Nat) : Bool :=
  decide (0 ≤ k) && decide (k ≤ 6) && (decide (k = 3) || decide (n = 0)) && (decide (k = 4) || s.isEmpty) && (decide (k = 6) || ks.isEmpty) && (decide (5 ≤ k) || l.isEmpty) &&
  (decide (k < 5) || decide (0 < most)) && utf8F s && (decide (k ≠ 6) || decide (ks.length = l.length)) && ks.all utf8F && apartF ks
mutual
def mayF : JV → Nat → Bool
  | .mk k s n l ks, most => headF k s n l ks most && mayL l (most - 1)
def mayL : List JV → Nat → Bool
  | [], _ => true
  | v :: r, most => mayF v most && mayL r most
end
mutual
def sameF : JV → JV → Bool
  | .mk k s n l ks, .mk k' s' n' l' ks' => decide (k = k') && decide (s = s') && decide (n = n') && decide (ks = ks') && sameL l l'
def sameL : List JV → List JV → Bool
  | [], [] => true
  | v :: r, v' :: r' => sameF v v' && sameL r r'
  | _, _ => false
end

def hexD (n : Nat) : UInt8 := if n < 10 then UInt8.ofNat (48 + n) else UInt8.ofNat (87 + n)
/-- a byte of a string, as text -/
def escF (c : UInt8) : List UInt8 := if c.toNat < 32 then [92, 117, 48, 48, hexD (c.toNat / 16), hexD (c.toNat % 16)] else if c = 34 ∨ c = 92 then [92, c] else [c]
def wordF (s : List UInt8) : List UInt8 := 34 :: (s.flatMap escF ++ [34])
/-- a number's digits -/
def digitsF (n : Nat) : List UInt8 := if n < 10 then [UInt8.ofNat (48 + n)] else digitsF (n / 10) ++ [UInt8.ofNat (48 + n % 10)]
mutual
/-- the plain text -/
def plainF : JV → List UInt8
  | .mk k s n l ks =>
    if k = 0 then [110, 117, 108, 108] else if k = 1 then [102, 97, 108, 115, 101] else if k = 2 then [116, 114, 117, 101] else if k = 3 then digitsF n else if k = 4 then wordF s
    else if k = 6 then 123 :: (plainO l ks ++ [125]) else 91 :: (plainA l ++ [93])
/-- values parted by commas -/
def plainA : List JV → List UInt8
  | [] => []
  | v :: r => plainF v ++ plainAt r
def plainAt : List JV → List UInt8
  | [] => []
  | v :: r => 44 :: (plainF v ++ plainAt r)
/-- members parted by commas -/
def plainO : List JV → List (List UInt8) → List UInt8
  | [], _ => []
  | v :: r, ks => wordF (ks.headD []) ++ 58 :: (plainF v ++ plainOt r ks.tail)
def plainOt : List JV → List (List UInt8) → List UInt8
  | [], _ => []
  | v :: r, ks => 44 :: (wordF (ks.headD []) ++ 58 :: (plainF v ++ plainOt r ks.tail))
end

def isBlank (c : UInt8) : Bool := c == 32 || c == 9 || c == 10 || c == 13
def blanksF : List UInt8 → List UInt8
  | [] => []
  | c :: r => if isBlank c then blanksF r else c :: r
/-- signs that must be next -/
def mustF : List UInt8 → List UInt8 → Option (List UInt8)
  | [], b => some b
  | _ :: _, [] => none
  | c :: r, d :: b => if c = d then mustF r b else none
def hexV (c : UInt8) : Option Nat :=
  if 48 ≤ c.toNat ∧ c.toNat ≤ 57 then some (c.toNat - 48) else if 97 ≤ c.toNat ∧ c.toNat ≤ 102 then some (c.toNat - 87) else if 65 ≤ c.toNat ∧ c.toNat ≤ 70 then some (c.toNat - 55) else none
/-- four digits to the base 16 -/
def fourF : List UInt8 → Option (Nat × List UInt8)
  | a :: b :: c :: d :: r => match hexV a, hexV b, hexV c, hexV d with
    | some x, some y, some z, some t => some (((x * 16 + y) * 16 + z) * 16 + t, r)
    | _, _, _, _ => none
  | _ => none
/-- a rune's bytes -/
def runeF (n : Nat) : List UInt8 :=
  if n < 128 then [UInt8.ofNat n] else if n < 2048 then [UInt8.ofNat (192 + n / 64), UInt8.ofNat (128 + n % 64)]
  else if n < 65536 then [UInt8.ofNat (224 + n / 4096), UInt8.ofNat (128 + n / 64 % 64), UInt8.ofNat (128 + n % 64)]
  else [UInt8.ofNat (240 + n / 262144), UInt8.ofNat (128 + n / 4096 % 64), UInt8.ofNat (128 + n / 64 % 64), UInt8.ofNat (128 + n % 64)]
/-- one sign that '\' tells for itself -/
def oneF (c : UInt8) : Option UInt8 :=
  if c = 34 ∨ c = 92 ∨ c = 47 then some c else if c = 98 then some 8 else if c = 102 then some 12 else if c = 110 then some 10 else if c = 114 then some 13 else if c = 116 then some 9 else none
/-- a string behind its first sign: what it says (UTF-8 is asked later), what is left -/
def strF : Nat → List UInt8 → Option (List UInt8 × List UInt8)
  | 0, _ => none
  | _ + 1, [] => none
  | f + 1, c :: r =>
    if c.toNat < 32 then none
    else if c = 34 then some ([], r)
    else if c ≠ 92 then (strF f r).map fun (s, q) => (c :: s, q)
    else match r with
      | [] => none
      | d :: r1 =>
        if d = 117 then
          match fourF r1 with
          | none => none
          | some (n, r2) =>
            if 55296 ≤ n ∧ n < 56320 then
              match mustF [92, 117] r2 with
              | none => none
              | some r3 =>
                match fourF r3 with
                | none => none
                | some (m, r4) => if 56320 ≤ m ∧ m ≤ 57343 then (strF f r4).map fun (s, q) => (runeF (65536 + 1024 * (n - 55296) + (m - 56320)) ++ s, q) else none
            else if 56320 ≤ n ∧ n < 57344 then none
            else (strF f r2).map fun (s, q) => (runeF n ++ s, q)
        else
          match oneF d with
          | none => none
          | some x => (strF f r1).map fun (s, q) => (x :: s, q)
def stringF (b : List UInt8) : Option (List UInt8 × List UInt8) :=
  match mustF [34] b with
  | none => none
  | some r => match strF (r.length + 1) r with
    | none => none
    | some (s, q) => if utf8F s then some (s, q) else none
def isDigit (c : UInt8) : Bool := 48 ≤ c.toNat && c.toNat ≤ 57
/-- digits, and what is left -/
def spanD : List UInt8 → List UInt8 × List UInt8
  | [] => ([], [])
  | c :: r => if isDigit c then (c :: (spanD r).1, (spanD r).2) else ([], c :: r)
def valD (l : List UInt8) : Nat := l.foldl (fun n c => 10 * n + (c.toNat - 48)) 0
def numF (b : List UInt8) : Option (Nat × List UInt8) :=
  if (spanD b).1 = [] then none else if (spanD b).1.headD 0 = 48 ∧ 1 < (spanD b).1.length then none
  else if valD (spanD b).1 < 18446744073709551616 then some (valD (spanD b).1, (spanD b).2) else none
mutual
/-- a value, that may have so many in one another -/
def valueF : Nat → Nat → List UInt8 → Option (JV × List UInt8)
  | 0, _, _ => none
  | f + 1, most, b0 =>
    match blanksF b0 with
    | [] => none
    | c :: r =>
      if c = 110 then (mustF [110, 117, 108, 108] (c :: r)).map fun q => (JV.mk 0 [] 0 [] [], q)
      else if c = 102 then (mustF [102, 97, 108, 115, 101] (c :: r)).map fun q => (JV.mk 1 [] 0 [] [], q)
      else if c = 116 then (mustF [116, 114, 117, 101] (c :: r)).map fun q => (JV.mk 2 [] 0 [] [], q)
      else if c = 34 then (stringF (c :: r)).map fun (s, q) => (JV.mk 4 s 0 [] [], q)
      else if c = 91 then
        if most = 0 then none
        else match blanksF r with
          | [] => none
          | d :: r1 => if d = 93 then some (JV.mk 5 [] 0 [] [], r1) else (itemsF f (most - 1) (d :: r1)).map fun (l, q) => (JV.mk 5 [] 0 l [], q)
      else if c = 123 then
        if most = 0 then none
        else match blanksF r with
          | [] => none
          | d :: r1 => if d = 125 then some (JV.mk 6 [] 0 [] [], r1) else (membersF f (most - 1) (d :: r1)).map fun (l, ks, q) => (JV.mk 6 [] 0 l ks, q)
      else (numF (c :: r)).map fun (n, q) => (JV.mk 3 [] n [] [], q)
/-- items of a list, up to its end -/
def itemsF : Nat → Nat → List UInt8 → Option (List JV × List UInt8)
  | 0, _, _ => none
  | f + 1, most, b =>
    match valueF f most b with
    | none => none
    | some (v, q) =>
      match blanksF q with
      | [] => none
      | c :: r => if c = 93 then some ([v], r) else if c = 44 then (itemsF f most r).map fun (l, q) => (v :: l, q) else none
/-- members of an object, up to its end -/
def membersF : Nat → Nat → List UInt8 → Option (List JV × List (List UInt8) × List UInt8)
  | 0, _, _ => none
  | f + 1, most, b =>
    match stringF (blanksF b) with
    | none => none
    | some (k, b1) =>
      match mustF [58] (blanksF b1) with
      | none => none
      | some b2 =>
        match valueF f most b2 with
        | none => none
        | some (v, q) =>
          match blanksF q with
          | [] => none
          | c :: r => if c = 125 then some ([v], [k], r) else if c = 44 then (membersF f most r).map fun (l, ks, q) => (v :: l, k :: ks, q) else none
end
/-- a text's value -/
def parseF (b : List UInt8) : Option JV :=
  match valueF (2 * b.length + 2) 8 b with
  | none => none
  | some (v, q) => if blanksF q = [] ∧ mayF v 8 = true then some v else none
end Go.Proofs.YtiadfijeglbdlaaDoor

namespace Go.Proofs.YtiadfijeglbdlaaDoor
open Go.ChangeShapes Go.WideShapes Go.ChangeAt Go.RowKit

theorem ownKnobs : ownKnob Tryd.prog.godebug = none := by kernel_rfl
theorem laidOuts : laidOutB Tryd.prog = true := by kernel_rfl

theorem trodAll_below {H : Type} {enc : TypeId × Value → H} {P : Program} (hl : laidOutB P = true) {W W' : World} (hb : Below W.heap.size W W') :
    ∀ (ts : List TypeId) (vs : List Value) (ds : List (DataW H)) (ps : List MemPlace), (∀ t ∈ ts, P.readableRec t = true ∧ t < P.types.size) →
      DataW.TrodAll enc P W 0 (fun _ => true) true ts vs ds ps → (∀ x ∈ ps, x.block < W.heap.size) → DataW.TrodAll enc P W' 0 (fun b => decide (b < W.heap.size)) true ts vs ds ps := by
  intro ts
  induction ts with
  | nil => intro vs ds ps _ h _; obtain ⟨rfl, rfl, rfl⟩ := trodAll_nil h; exact trodAll_mk0
  | cons t ts ih =>
    intro vs ds ps hr h hlt
    obtain ⟨v, vs', d, ds', p, q, rfl, rfl, rfl, h0, h1⟩ := trodAll_cons h
    obtain ⟨r1, r2⟩ := hr t (List.mem_cons_self ..)
    exact trodAll_cons_mk (Below.trod hl r1 r2 h0 hb fun x hx => hlt x (List.mem_append.2 (.inl hx))) (ih _ _ _ (fun t ht => hr t (List.mem_cons_of_mem _ ht)) h1 fun x hx => hlt x (List.mem_append.2 (.inr hx)))

/-- what a law's statement asks behind its call -/
theorem law_post {H : Type} {enc : TypeId × Value → H} {P : Program} {fn : Func} {s : ChangeSpec} {W W' : World} {args : Array Value} {ds gs : List (DataW H)} {before : List MemPlace} {tb : TypeId}
    (hl : laidOutB P = true) (hpar : fn.params.toList.all (fun t => P.readableRec t && decide (t < P.types.size)) = true) (hres : fn.resultTypes = #[tb]) (htb : P.underlying tb = some .bool) (hvars : s.vars = [])
    (hW : DataW.Whole enc P fn.params.toList s.vars false W args.toList ds gs before) (hb : Below W.heap.size W W')
    (hs : s.fn H (ds ++ gs) = { results := [.lit (.bool true)], args := ds }) : s.post enc P fn false true false false W args (.bool true) W' := by
  have hW' := hW
  obtain ⟨p, q, hA, hV, rfl, _, _⟩ := hW
  rw [hvars] at hV
  obtain ⟨rfl, rfl⟩ := trodVars_none hV
  simp only [List.append_nil] at hW'
  have hlt : ∀ x ∈ p, x.block < W.heap.size := fun x hx => by simpa using hW'.lt x hx
  have hp : ∀ t ∈ fn.params.toList, P.readableRec t = true ∧ t < P.types.size := fun t ht => by simpa using List.all_eq_true.1 hpar t ht
  have hA' := trodAll_below hl hb _ _ _ _ hp hA hlt
  refine ⟨ds, [], p, [], p, [], hW', ?_, ?_, ?_, hb.frame _, fun h => by cases h⟩
  · rw [hs, hres]
    exact trodAll_mk1 (shut_bool htb _)
  · rw [hs]; exact hA'
  · rw [hs, hvars]; rfl

theorem bulk_one {H : Type} (d : DataW H) : 1 ≤ Rows.uptoBulk d := by
  cases d with
  | lit l => cases l <;> simp [Rows.uptoBulk]
  | nil => simp [Rows.uptoBulk]
  | ptr d => simp [Rows.uptoBulk]
  | slice elems spare => simp [Rows.uptoBulk]
  | agg parts => simp [Rows.uptoBulk]
  | iface t d => simp [Rows.uptoBulk]
  | map entries => simp [Rows.uptoBulk]
  | held h => simp [Rows.uptoBulk]
theorem bulk_len {H : Type} (l : List (DataW H)) : l.length ≤ Rows.uptoBulkAll l := by
  induction l with
  | nil => simp [Rows.uptoBulkAll]
  | cons x r ih => have := bulk_one x; simp only [Rows.uptoBulkAll, List.length_cons]; omega
theorem bulk_bound {H : Type} {l : List (DataW H)} (hk : Rows.uptoSmall H l = true) : Rows.uptoBulkAll l ≤ 1048576 := of_decide_eq_true hk

/-- the slice of bytes that came in, as what reads as bytes; its bulk is at least its length -/
theorem rd_of_cells {H : Type} {enc : TypeId × Value → H} {P : Program} {T E : TypeId} (bt : BT P T E) (hc : P.cellsOf E = 1) {W : World} {v : Value} {y : DataW H × List MemPlace} {fuel : Nat} {sp : Nat → Bool}
    (hf : DataW.trod enc P W 0 sp true fuel T [v] = some y) (hsp : ∀ n, sp n = true) :
    ∃ a n cap xs, v = .slice a n cap ∧ Rd W a n cap xs ∧ n ≤ Rows.uptoBulk y.1 := by
  rcases open_ints bt.sl bt.el hc hf with ⟨hcs, rfl⟩ | ⟨a, len', cap', zs, hcs, _, hl, hm, hz, rfl, hcell, hwz⟩
  · obtain rfl : v = .slice none 0 0 := by simpa using hcs
    exact ⟨_, _, _, [], rfl, Rd.none W, Nat.zero_le _⟩
  · obtain rfl : v = .slice (some a) len' cap' := by simpa using hcs
    simp only [hsp, if_true] at hz
    refine ⟨_, _, _, (zs.take len').map fun x => UInt8.ofNat x.toNat, rfl, ⟨by simp; omega, hl, by (intro e; cases e), fun hc0 => ?_⟩, ?_⟩
    · have h00 := hcell 0 (by omega)
      have hspot : a.spot = none := by
        cases hs : a.spot with
        | none => rfl
        | some z =>
          have e : a.add 0 = a := rfl
          rw [e] at h00
          unfold World.cell? at h00
          split at h00
          · simp [hs] at h00
          · cases h00
      obtain ⟨b, off, spt⟩ := a
      simp only at hspot
      subst hspot
      refine ⟨b, off, rfl, World.block_lt_of_cell? W _ h00, fun j hj => ?_⟩
      have := hcell j (by omega)
      rw [Addr.add_lit] at this
      rw [this]
      have hjz : j < zs.length := by omega
      have hb := byte_of_wf (hwz zs[j] (List.getElem_mem hjz))
      simp [List.getD, hjz, hj]
      omega
    · have := bulk_len (H := H) (lits .u8 (zs.take len'))
      simp only [Rows.uptoBulk]
      simp [lits] at this ⊢
      omega
theorem rd_of_trod {H : Type} {enc : TypeId × Value → H} {P : Program} {T E : TypeId} (bt : BT P T E) (hc : P.cellsOf E = 1) {W : World} {v : Value} {d : DataW H} {p : List MemPlace} {b0 : Nat} {sp : Nat → Bool}
    (hval : Value.okWide P W .any b0 T v) (h0 : DataW.Trod enc P W 0 sp true T v d p) (hsp : ∀ n, sp n = true) :
    ∃ a n cap xs, v = .slice a n cap ∧ Rd W a n cap xs ∧ n ≤ Rows.uptoBulk d := by
  obtain ⟨a0, len, cap, rfl⟩ := okWide_slice bt.sl hval
  obtain ⟨fuel, hf⟩ := h0
  exact rd_of_cells (y := (d, p)) bt hc hf hsp
theorem int_of_cells {H : Type} {enc : TypeId × Value → H} {P : Program} {t : TypeId} {k : IntKind} (ht : P.underlying t = some (.int k)) {W : World} {v : Value} {y : DataW H × List MemPlace} {fuel : Nat} {sp : Nat → Bool}
    (hf : DataW.trod enc P W 0 sp true fuel t [v] = some y) : ∃ n, v = .int k n ∧ (Lit.int k n).wf = true := by
  cases fuel with
  | zero => simp [DataW.trod] at hf
  | succ fuel =>
    unfold DataW.trod at hf
    rw [ht] at hf
    cases v <;> simp at hf
    obtain ⟨⟨rfl, h⟩, _⟩ := hf
    exact ⟨_, rfl, h⟩
theorem spot_none {W : World} {a : Addr} {v : Value} (h : W.cell? a = some v) : a.spot = none := by
  cases hs : a.spot with
  | none => rfl
  | some z =>
    unfold World.cell? at h
    split at h
    · simp [hs] at h
    · cases h

/-- the slice of structs (of fields of one cell) that came in: every element's every field -/
theorem structs_of_cells {H : Type} {enc : TypeId × Value → H} {P : Program} {T e : TypeId} {fs : Array Field} (ht : P.underlying T = some (.slice e)) (he : P.underlying e = some (.struct fs)) (hone : Deep.oneCellFields P fs = true) (hC : P.cellsOf e = fs.size) (hpos : 0 < fs.size)
    {W : World} {v : Value} {y : DataW H × List MemPlace} {fuel : Nat} {sp : Nat → Bool} (hf : DataW.trod enc P W 0 sp true fuel T [v] = some y) :
    ∃ a n cap, v = .slice a n cap ∧ n ≤ cap ∧ (a = none → cap = 0) ∧ n ≤ Rows.uptoBulk y.1 ∧
      (0 < n → ∃ b off, a = some ⟨b, off, none⟩ ∧ b < W.heap.size ∧ ∀ i, i < n → ∀ (j : Nat) (f : Field), fs[j]? = some f → ∃ (u : Value) (z : DataW H × List MemPlace) (m : Nat), W.cell? ⟨b, off + (i * fs.size + j), none⟩ = some u ∧ DataW.trod enc P W 0 sp true m f.type [u] = some z) := by
  rcases Deep.open_slice ht hf with ⟨hcs, rfl⟩ | ⟨a, len, cap, m, n, D, Pl, hcs, _, hl, _, hmm, rfl, hi⟩
  · obtain rfl : v = .slice none 0 0 := by simpa using hcs
    exact ⟨_, _, _, rfl, Nat.le_refl _, fun _ => rfl, Nat.zero_le _, fun h => by omega⟩
  · obtain rfl : v = .slice (some a) len cap := by simpa using hcs
    have hml : len ≤ m := by rw [hmm]; split <;> omega
    have bulk : len ≤ Rows.uptoBulk (DataW.slice ((List.range len).map D) ((List.range (m - len)).map fun j => D (len + j))) := by
      have := bulk_len ((List.range len).map D)
      simp only [Rows.uptoBulk, List.length_map, List.length_range] at this ⊢
      omega
    refine ⟨_, _, _, rfl, hl, by (intro e; cases e), bulk, fun h0 => ?_⟩
    have cell : ∀ i, i < len → ∃ cs', (∀ j, j < fs.size → W.cell? ((a.add (i * fs.size)).add j) = cs'[j]?) ∧ cs'.length = fs.size ∧ DataW.trod enc P W 0 sp true n e cs' = some (D i, Pl i) := by
      intro i hil
      obtain ⟨cs', hc, ht'⟩ := hi i (by omega)
      rw [hC] at hc
      obtain ⟨_, hcl, hat⟩ := World.cells?_some hc
      exact ⟨cs', hat, hcl, ht'⟩
    obtain ⟨c0, h00, hl0, _⟩ := cell 0 h0
    have hc0 := h00 0 hpos
    rw [Nat.zero_mul, List.getElem?_eq_getElem (by omega)] at hc0
    have hspot := spot_none hc0
    obtain ⟨b, off, spt⟩ := a
    have e0 : ((⟨b, off, spt⟩ : Addr).add 0).add 0 = ⟨b, off, spt⟩ := rfl
    rw [e0] at hspot hc0
    simp only at hspot
    subst hspot
    refine ⟨b, off, rfl, World.block_lt_of_cell? W _ hc0, fun i hil j f hj => ?_⟩
    obtain ⟨cs', hat, hcl, ht'⟩ := cell i hil
    obtain ⟨ys, n', _, _, hlen, hyl, hfl⟩ := DataW.trod_struct he ht'
    obtain ⟨ho, hk⟩ := Deep.hone_of hone j f hj
    have hjl : j < fs.size := (Array.getElem?_eq_some_iff.1 hj).1
    have h1 := hfl j f hj
    rw [ho, hk] at h1
    have hcs : (cs'.drop j).take 1 = [cs'[j]'(by omega)] := by
      rw [List.drop_eq_getElem_cons (by omega)]
      rfl
    rw [hcs, List.getElem?_eq_getElem (show j < ys.length by omega)] at h1
    have hcell := hat j hjl
    rw [List.getElem?_eq_getElem (by omega), Addr.add_lit, Addr.add_lit, Nat.add_assoc] at hcell
    exact ⟨_, _, n', hcell, h1⟩

theorem wf_u64 {n : Int} (h : (Lit.int .u64 n).wf = true) : ∃ m : Nat, n = m ∧ m ≤ 18446744073709551615 := by
  have h1 : IntKind.u64.min = 0 := rfl
  have h2 : IntKind.u64.max = 18446744073709551615 := rfl
  simp only [Lit.wf, Bool.and_eq_true, decide_eq_true_eq] at h
  exact ⟨n.toNat, by omega, by omega⟩
end Go.Proofs.YtiadfijeglbdlaaDoor

namespace Go.Proofs.YtiadfijeglbdlaaDoor
open Go.ChangeShapes Go.WideShapes Go.ChangeAt Go.RowKit

theorem bulk_mem {H : Type} {d : DataW H} {l : List (DataW H)} (h : d ∈ l) : Rows.uptoBulk d ≤ Rows.uptoBulkAll l := by
  induction l with
  | nil => cases h
  | cons x r ih =>
    simp only [Rows.uptoBulkAll]
    rcases List.mem_cons.1 h with rfl | h
    · omega
    · have := ih h; omega

/-- the slice of structs (of fields of one cell) that came in: every element's every field, of no more bulk than the whole -/
theorem structs_of_cells_b {H : Type} {enc : TypeId × Value → H} {P : Program} {T e : TypeId} {fs : Array Field} (ht : P.underlying T = some (.slice e)) (he : P.underlying e = some (.struct fs)) (hone : Deep.oneCellFields P fs = true) (hC : P.cellsOf e = fs.size) (hpos : 0 < fs.size)
    {W : World} {v : Value} {y : DataW H × List MemPlace} {fuel : Nat} {sp : Nat → Bool} (hf : DataW.trod enc P W 0 sp true fuel T [v] = some y) :
    ∃ a n cap, v = .slice a n cap ∧ n ≤ cap ∧ (a = none → cap = 0) ∧ n ≤ Rows.uptoBulk y.1 ∧
      (0 < n → ∃ b off, a = some ⟨b, off, none⟩ ∧ b < W.heap.size ∧ ∀ i, i < n → ∀ (j : Nat) (f : Field), fs[j]? = some f → ∃ (u : Value) (z : DataW H × List MemPlace) (m : Nat), W.cell? ⟨b, off + (i * fs.size + j), none⟩ = some u ∧ DataW.trod enc P W 0 sp true m f.type [u] = some z ∧ Rows.uptoBulk z.1 ≤ Rows.uptoBulk y.1) := by
  rcases Deep.open_slice ht hf with ⟨hcs, rfl⟩ | ⟨a, len, cap, m, n, D, Pl, hcs, _, hl, _, hmm, rfl, hi⟩
  · obtain rfl : v = .slice none 0 0 := by simpa using hcs
    exact ⟨_, _, _, rfl, Nat.le_refl _, fun _ => rfl, Nat.zero_le _, fun h => by omega⟩
  · obtain rfl : v = .slice (some a) len cap := by simpa using hcs
    have hml : len ≤ m := by rw [hmm]; split <;> omega
    have bulk : len ≤ Rows.uptoBulk (DataW.slice ((List.range len).map D) ((List.range (m - len)).map fun j => D (len + j))) := by
      have := bulk_len ((List.range len).map D)
      simp only [Rows.uptoBulk, List.length_map, List.length_range] at this ⊢
      omega
    have bulkD : ∀ i, i < len → Rows.uptoBulk (D i) ≤ Rows.uptoBulk (DataW.slice ((List.range len).map D) ((List.range (m - len)).map fun j => D (len + j))) := fun i hil => by
      have := bulk_mem (d := D i) (l := (List.range len).map D) (List.mem_map.2 ⟨i, List.mem_range.2 hil, rfl⟩)
      simp only [Rows.uptoBulk]
      omega
    refine ⟨_, _, _, rfl, hl, by (intro e; cases e), bulk, fun h0 => ?_⟩
    have cell : ∀ i, i < len → ∃ cs', (∀ j, j < fs.size → W.cell? ((a.add (i * fs.size)).add j) = cs'[j]?) ∧ cs'.length = fs.size ∧ DataW.trod enc P W 0 sp true n e cs' = some (D i, Pl i) := by
      intro i hil
      obtain ⟨cs', hc, ht'⟩ := hi i (by omega)
      rw [hC] at hc
      obtain ⟨_, hcl, hat⟩ := World.cells?_some hc
      exact ⟨cs', hat, hcl, ht'⟩
    obtain ⟨c0, h00, hl0, _⟩ := cell 0 h0
    have hc0 := h00 0 hpos
    rw [Nat.zero_mul, List.getElem?_eq_getElem (by omega)] at hc0
    have hspot := spot_none hc0
    obtain ⟨b, off, spt⟩ := a
    have e0 : ((⟨b, off, spt⟩ : Addr).add 0).add 0 = ⟨b, off, spt⟩ := rfl
    rw [e0] at hspot hc0
    simp only at hspot
    subst hspot
    refine ⟨b, off, rfl, World.block_lt_of_cell? W _ hc0, fun i hil j f hj => ?_⟩
    obtain ⟨cs', hat, hcl, ht'⟩ := cell i hil
    obtain ⟨ys, n', _, hD, hlen, hyl, hfl⟩ := DataW.trod_struct he ht'
    obtain ⟨ho, hk⟩ := Deep.hone_of hone j f hj
    have hjl : j < fs.size := (Array.getElem?_eq_some_iff.1 hj).1
    have h1 := hfl j f hj
    rw [ho, hk] at h1
    have hcs : (cs'.drop j).take 1 = [cs'[j]'(by omega)] := by
      rw [List.drop_eq_getElem_cons (by omega)]
      rfl
    have hjy : j < ys.length := by omega
    rw [hcs, List.getElem?_eq_getElem hjy] at h1
    have hcell := hat j hjl
    rw [List.getElem?_eq_getElem (by omega), Addr.add_lit, Addr.add_lit, Nat.add_assoc] at hcell
    refine ⟨_, _, n', hcell, h1, Nat.le_trans ?_ (bulkD i hil)⟩
    have hD1 : D i = .agg (ys.map (·.1)) := congrArg Prod.fst hD
    rw [hD1]
    have := bulk_mem (d := ys[j].1) (l := ys.map (·.1)) (List.mem_map.2 ⟨ys[j], List.getElem_mem hjy, rfl⟩)
    simp only [Rows.uptoBulk]
    omega
end Go.Proofs.YtiadfijeglbdlaaDoor

namespace Go.Proofs.YtiadfijeglbdlaaDoor
open Go.ChangeShapes Go.WideShapes Go.ChangeAt Go.RowKit

/-- a slice of texts -/
structure RStr (w : World) (ks : List (List UInt8)) (a : Option Addr) (c : Nat) : Prop where
  le : ks.length ≤ c
  big : c ≤ 9223372036854775807
  nil : a = none → c = 0
  mem : 0 < ks.length → ∃ b off, a = some ⟨b, off, none⟩ ∧ b < w.heap.size ∧ ∀ i, i < ks.length → w.cell? ⟨b, off + i, none⟩ = some (.string (bstr (ks.getD i [])))
mutual
/-- five cells read as a value -/
def RV (w : World) : JV → List Value → Prop
  | .mk k s n l ks, cs => ∃ a c a' c', cs = [.int .i64 k, .string (bstr s), .int .u64 (n : Int), .slice a l.length c, .slice a' ks.length c'] ∧ (-9223372036854775808 ≤ k ∧ k ≤ 9223372036854775807 ∧ n < 18446744073709551616) ∧ RStr w ks a' c' ∧
      (l.length ≤ c ∧ c ≤ 9223372036854775807) ∧ (a = none → c = 0) ∧ (0 < l.length → ∃ b off, a = some ⟨b, off, none⟩ ∧ b < w.heap.size ∧ RL w l b off)
/-- the cells from an address on read as values, five cells each -/
def RL (w : World) : List JV → Nat → Nat → Prop
  | [], _, _ => True
  | v :: r, b, off => (∃ cs, cs.length = 5 ∧ (∀ j, j < 5 → w.cell? ⟨b, off + j, none⟩ = cs[j]?) ∧ RV w v cs) ∧ RL w r b (off + 5)
end
theorem RStr.to {w w' : World} {ks : List (List UInt8)} {a : Option Addr} {c : Nat} (h : RStr w ks a c) (hb : Below w.heap.size w w') : RStr w' ks a c := by
  refine ⟨h.le, h.big, h.nil, fun h0 => ?_⟩
  obtain ⟨b, off, e, h1, h2⟩ := h.mem h0
  exact ⟨b, off, e, Nat.lt_of_lt_of_le h1 hb.size, fun i hi => (hb.cell (p := ⟨b, off + i, none⟩) h1).trans (h2 i hi)⟩
mutual
theorem rv_to {w w' : World} (hb : Below w.heap.size w w') : ∀ (v : JV) (cs : List Value), RV w v cs → RV w' v cs
  | .mk k s n l ks, cs, h => by
    unfold RV at h ⊢
    obtain ⟨a, c, a', c', e, hk, hs, h1, h2, h3⟩ := h
    refine ⟨a, c, a', c', e, hk, hs.to hb, h1, h2, fun h0 => ?_⟩
    obtain ⟨b, off, e1, e2, e3⟩ := h3 h0
    exact ⟨b, off, e1, Nat.lt_of_lt_of_le e2 hb.size, rl_to hb l b off e2 e3⟩
theorem rl_to {w w' : World} (hb : Below w.heap.size w w') : ∀ (l : List JV) (b off : Nat), b < w.heap.size → RL w l b off → RL w' l b off
  | [], _, _, _, _ => by unfold RL; trivial
  | v :: r, b, off, hlt, h => by
    unfold RL at h ⊢
    obtain ⟨⟨cs, h1, h2, h3⟩, h4⟩ := h
    exact ⟨⟨cs, h1, fun j hj => (hb.cell (p := ⟨b, off + j, none⟩) hlt).trans (h2 j hj), rv_to hb v cs h3⟩, rl_to hb r b (off + 5) hlt h4⟩
end
theorem rl_at {w : World} : ∀ (l : List JV) (b off i : Nat) (v : JV), RL w l b off → l[i]? = some v → ∃ cs, cs.length = 5 ∧ (∀ j, j < 5 → w.cell? ⟨b, off + (5 * i + j), none⟩ = cs[j]?) ∧ RV w v cs
  | [], _, _, _, _, _, h => by simp at h
  | u :: r, b, off, 0, v, h, hi => by
    unfold RL at h
    obtain ⟨⟨cs, h1, h2, h3⟩, _⟩ := h
    cases hi
    exact ⟨cs, h1, fun j hj => by rw [Nat.mul_zero, Nat.zero_add]; exact h2 j hj, h3⟩
  | u :: r, b, off, i + 1, v, h, hi => by
    unfold RL at h
    obtain ⟨cs, h1, h2, h3⟩ := rl_at r b (off + 5) i v h.2 (by simpa using hi)
    exact ⟨cs, h1, fun j hj => by rw [show off + (5 * (i + 1) + j) = off + 5 + (5 * i + j) by omega]; exact h2 j hj, h3⟩
theorem rl_mk {w : World} (b : Nat) : ∀ (l : List JV) (off : Nat), (∀ i v, l[i]? = some v → ∃ cs, cs.length = 5 ∧ (∀ j, j < 5 → w.cell? ⟨b, off + (5 * i + j), none⟩ = cs[j]?) ∧ RV w v cs) → RL w l b off
  | [], _, _ => by unfold RL; trivial
  | v :: r, off, h => by
    unfold RL
    refine ⟨?_, rl_mk b r (off + 5) fun i u hi => ?_⟩
    · obtain ⟨cs, h1, h2, h3⟩ := h 0 v rfl
      exact ⟨cs, h1, fun j hj => by have := h2 j hj; rwa [Nat.mul_zero, Nat.zero_add] at this, h3⟩
    · obtain ⟨cs, h1, h2, h3⟩ := h (i + 1) u (by simpa using hi)
      exact ⟨cs, h1, fun j hj => by have := h2 j hj; rwa [show off + (5 * (i + 1) + j) = off + 5 + (5 * i + j) by omega] at this, h3⟩
theorem rv_len {w : World} {v : JV} {cs : List Value} (h : RV w v cs) : cs.length = 5 := by
  obtain ⟨k, s, n, l, ks⟩ := v
  unfold RV at h
  obtain ⟨a, c, a', c', rfl, -⟩ := h
  rfl
/-- what is in a list is smaller -/
theorem jv_mem {k : Int} {s : List UInt8} {n : Nat} {l : List JV} {ks : List (List UInt8)} {u : JV} (h : u ∈ l) : SizeOf.sizeOf u < SizeOf.sizeOf (JV.mk k s n l ks) := by
  have := List.sizeOf_lt_of_mem h
  simp only [JV.mk.sizeOf_spec]
  omega
theorem choose_list {α : Type} (n : Nat) (p : Nat → α → Prop) (h : ∀ i, i < n → ∃ v, p i v) : ∃ l : List α, l.length = n ∧ ∀ i v, l[i]? = some v → p i v := by
  induction n with
  | zero => exact ⟨[], rfl, fun i v h => by simp at h⟩
  | succ n ih =>
    obtain ⟨l, h1, h2⟩ := ih fun i hi => h i (by omega)
    obtain ⟨v, hv⟩ := h n (by omega)
    refine ⟨l ++ [v], by simp [h1], fun i u hi => ?_⟩
    by_cases hin : i < l.length
    · rw [List.getElem?_append_left hin] at hi
      exact h2 i u hi
    · rw [List.getElem?_append_right (by omega)] at hi
      have : i - l.length = 0 := by
        rcases Nat.eq_zero_or_pos (i - l.length) with h0 | h0
        · exact h0
        · rw [List.getElem?_eq_none (by simp; omega)] at hi
          cases hi
      rw [this] at hi
      cases hi
      have : i = n := by omega
      rw [this]
      exact hv
/-- the slice of texts that came in -/
theorem rstr_of_trod {H : Type} {enc : TypeId × Value → H} {P : Program} {T E : TypeId} (ht : P.underlying T = some (.slice E)) (he : P.underlying E = some .string) (hc : P.cellsOf E = 1) {W : World} {v : Value} {y : DataW H × List MemPlace} {fuel : Nat} {sp : Nat → Bool}
    (hf : DataW.trod enc P W 0 sp true fuel T [v] = some y) : ∃ a c ks, v = .slice a ks.length c ∧ RStr W ks a c := by
  rcases open_strings ht he hc hf with ⟨hcs, _⟩ | ⟨a, len, cap, ss, hcs, _, hl, hbig, hlen, _, hcell, _⟩
  · obtain rfl : v = .slice none 0 0 := by simpa using hcs
    exact ⟨none, 0, [], rfl, ⟨Nat.le_refl _, by omega, fun _ => rfl, fun h => absurd h (Nat.lt_irrefl _)⟩⟩
  · obtain rfl : v = .slice (some a) len cap := by simpa using hcs
    have hls : len ≤ ss.length := by rw [hlen]; split <;> omega
    have hkl : ((ss.take len).map fun s => s.data.toList).length = len := by rw [List.length_map, List.length_take]; omega
    refine ⟨some a, cap, (ss.take len).map fun s => s.data.toList, by rw [hkl], ⟨by rw [hkl]; exact hl, hbig, (by intro e; cases e), fun h0 => ?_⟩⟩
    rw [hkl] at h0
    have h00 := hcell 0 (by omega)
    have e0 : a.add 0 = a := rfl
    rw [e0] at h00
    have hspot := spot_none h00
    obtain ⟨b, off, spt⟩ := a
    simp only at hspot
    subst hspot
    refine ⟨b, off, rfl, World.block_lt_of_cell? W _ h00, fun i hi => ?_⟩
    rw [hkl] at hi
    have := hcell i (by omega)
    rw [Addr.add_lit] at this
    rw [this]
    have hin : i < ss.length := by omega
    simp [List.getD, hin, hi, bstr]

/-- the value that came in -/
theorem rv_of_trod {H : Type} {enc : TypeId × Value → H} {P : Program} {T TL TK TI TS TU : TypeId} {f0 f1 f2 f3 f4 : Field}
    (hT : P.underlying T = some (.struct #[f0, f1, f2, f3, f4])) (h0 : f0.type = TI) (h1 : f1.type = TS) (h2 : f2.type = TU) (h3 : f3.type = TL) (h4 : f4.type = TK) (hone : Deep.oneCellFields P #[f0, f1, f2, f3, f4] = true) (hC : P.cellsOf T = 5)
    (hI : P.underlying TI = some (.int .i64)) (hS : P.underlying TS = some .string) (hU : P.underlying TU = some (.int .u64)) (hL : P.underlying TL = some (.slice T)) (hK : P.underlying TK = some (.slice TS)) (hKc : P.cellsOf TS = 1) {W : World} {sp : Nat → Bool} :
    ∀ (N : Nat) (fuel : Nat) (cs : List Value) (y : DataW H × List MemPlace), Rows.uptoBulk y.1 ≤ N → DataW.trod enc P W 0 sp true fuel T cs = some y → ∃ v, RV W v cs := by
  intro N
  induction N with
  | zero => intro fuel cs y hN; have := bulk_one y.1; omega
  | succ N ih =>
    intro fuel cs y hN hf
    obtain ⟨ys, n, _, hy, hlen, hyl, hfl⟩ := DataW.trod_struct hT hf
    rw [hC] at hlen
    match cs, hlen with
    | [c0, c1, c2, c3, c4], _ =>
    have fld : ∀ (j : Nat) (f : Field) (c : Value), #[f0, f1, f2, f3, f4][j]? = some f → [c0, c1, c2, c3, c4][j]? = some c → ∃ z : DataW H × List MemPlace, ys[j]? = some z ∧ DataW.trod enc P W 0 sp true n f.type [c] = some z := fun j f c hj hcj => by
      obtain ⟨ho, hk⟩ := Deep.hone_of hone j f hj
      have hjl : j < 5 := (Array.getElem?_eq_some_iff.1 hj).1
      have hy5 : ys.length = 5 := hyl
      have h := hfl j f hj
      rw [ho, hk] at h
      have hcs : ([c0, c1, c2, c3, c4].drop j).take 1 = [c] := by
        obtain ⟨hjl2, e⟩ := List.getElem?_eq_some_iff.1 hcj
        rw [List.drop_eq_getElem_cons hjl2, e]
        rfl
      rw [hcs, List.getElem?_eq_getElem (by omega)] at h
      exact ⟨_, List.getElem?_eq_getElem (by omega), h⟩
    have sub : ∀ (j : Nat) (z : DataW H × List MemPlace), ys[j]? = some z → Rows.uptoBulk z.1 ≤ N := fun j z hz => by
      have hD1 : y.1 = .agg (ys.map (·.1)) := congrArg Prod.fst hy
      rw [hD1] at hN
      have := bulk_mem (d := z.1) (l := ys.map (·.1)) (List.mem_map.2 ⟨z, List.mem_of_getElem? hz, rfl⟩)
      simp only [Rows.uptoBulk] at hN
      omega
    obtain ⟨z0, _, t0⟩ := fld 0 f0 c0 rfl rfl
    obtain ⟨z1, _, t1⟩ := fld 1 f1 c1 rfl rfl
    obtain ⟨z2, _, t2⟩ := fld 2 f2 c2 rfl rfl
    obtain ⟨z3, e3, t3⟩ := fld 3 f3 c3 rfl rfl
    obtain ⟨z4, _, t4⟩ := fld 4 f4 c4 rfl rfl
    rw [h0] at t0
    rw [h1] at t1
    rw [h2] at t2
    rw [h3] at t3
    rw [h4] at t4
    obtain ⟨k, rfl, hk⟩ := int_of_cells hI t0
    obtain ⟨s, hs, _⟩ := DataW.trod_string hS t1
    obtain rfl : c1 = .string s := by simpa using hs
    obtain ⟨m, rfl, hm⟩ := int_of_cells hU t2
    obtain ⟨mn, rfl, hmn⟩ := wf_u64 hm
    obtain ⟨a', c', ks, rfl, hks⟩ := rstr_of_trod hK hS hKc t4
    have hk1 : -9223372036854775808 ≤ k ∧ k ≤ 9223372036854775807 := by
      have h1 : IntKind.i64.min = -9223372036854775808 := rfl
      have h2 : IntKind.i64.max = 9223372036854775807 := rfl
      simp only [Lit.wf, Bool.and_eq_true, decide_eq_true_eq] at hk
      omega
    have hb3 := sub 3 z3 e3
    rcases Deep.open_slice hL t3 with ⟨hcs, _⟩ | ⟨a, len, cap, mm, n', D, Pl, hcs, _, hl, hbig, hmm, hz3, hi⟩
    · obtain rfl : c3 = .slice none 0 0 := by simpa using hcs
      refine ⟨.mk k s.data.toList mn [] ks, ?_⟩
      unfold RV
      exact ⟨none, 0, a', c', rfl, ⟨hk1.1, hk1.2, by omega⟩, hks, ⟨Nat.le_refl _, by omega⟩, fun _ => rfl, fun h => absurd h (Nat.lt_irrefl _)⟩
    · obtain rfl : c3 = .slice (some a) len cap := by simpa using hcs
      have hml : len ≤ mm := by rw [hmm]; split <;> omega
      rw [hz3] at hb3
      have bulkD : ∀ i, i < len → Rows.uptoBulk (D i) ≤ N := fun i hil => by
        have := bulk_mem (d := D i) (l := (List.range len).map D) (List.mem_map.2 ⟨i, List.mem_range.2 hil, rfl⟩)
        simp only [Rows.uptoBulk] at hb3
        omega
      have cell : ∀ i, i < len → ∃ cs', (∀ j, j < 5 → W.cell? ((a.add (i * 5)).add j) = cs'[j]?) ∧ cs'.length = 5 ∧ ∃ v, RV W v cs' := by
        intro i hil
        obtain ⟨cs', hc, ht'⟩ := hi i (by omega)
        rw [hC] at hc
        obtain ⟨_, hcl, hat⟩ := World.cells?_some hc
        exact ⟨cs', hat, hcl, ih n' cs' (D i, Pl i) (bulkD i hil) ht'⟩
      obtain ⟨l, hll, hlv⟩ := choose_list len (fun i v => ∃ cs', (∀ j, j < 5 → W.cell? ((a.add (i * 5)).add j) = cs'[j]?) ∧ cs'.length = 5 ∧ RV W v cs') (fun i hil => by
        obtain ⟨cs', h1, h2, v, h3⟩ := cell i hil
        exact ⟨v, cs', h1, h2, h3⟩)
      refine ⟨.mk k s.data.toList mn l ks, ?_⟩
      unfold RV
      refine ⟨some a, cap, a', c', by rw [hll]; rfl, ⟨hk1.1, hk1.2, by omega⟩, hks, ⟨by rw [hll]; exact hl, hbig⟩, (by intro e; cases e), fun h0 => ?_⟩
      obtain ⟨cs', g1, g2, v0, g3⟩ := cell 0 (by omega)
      have hc0 := g1 0 (by omega)
      rw [Nat.zero_mul, List.getElem?_eq_getElem (by omega)] at hc0
      have hspot := spot_none hc0
      obtain ⟨b, off, spt⟩ := a
      have e0 : ((⟨b, off, spt⟩ : Addr).add 0).add 0 = ⟨b, off, spt⟩ := rfl
      rw [e0] at hspot hc0
      simp only at hspot
      subst hspot
      refine ⟨b, off, rfl, World.block_lt_of_cell? W _ hc0, rl_mk b l off fun i v hiv => ?_⟩
      obtain ⟨cs2, q1, q2, q3⟩ := hlv i v hiv
      refine ⟨cs2, q2, fun j hj => ?_, q3⟩
      have := q1 j hj
      rw [Addr.add_lit, Addr.add_lit, Nat.add_assoc, Nat.mul_comm i 5] at this
      exact this
end Go.Proofs.YtiadfijeglbdlaaDoor

namespace Go.Proofs.YtiadfijeglbdlaaDoor

theorem row_1 : (parseF [32, 91, 32, 49, 32, 44, 32, 34, 92, 117, 48, 48, 101, 57, 34, 32, 93, 32]).map (fun v => sameF v (.mk 5 [] 0 [.mk 3 [] 1 [] [], .mk 4 [195, 169] 0 [] []] [])) = some true := by decide +kernel
theorem row_2 : (parseF [48, 49]).isNone = true := by decide +kernel
theorem row_3 : (parseF [123, 34, 97, 34, 58, 49, 44, 34, 97, 34, 58, 50, 125]).isNone = true := by decide +kernel
theorem row_4 : plainF (.mk 6 [] 0 [.mk 3 [] 1 [] [], .mk 5 [] 0 [.mk 0 [] 0 [] [], .mk 4 [120] 0 [] []] []] [[97], [98]]) = [123, 34, 97, 34, 58, 49, 44, 34, 98, 34, 58, 91, 110, 117, 108, 108, 44, 34, 120, 34, 93, 125] := by decide +kernel

theorem hex_back : ∀ n : Fin 16, hexV (hexD n) = some n.val := by decide +kernel
theorem hexV_D {n : Nat} (h : n < 16) : hexV (hexD n) = some n := hex_back ⟨n, h⟩
theorem u8_same (c : UInt8) : UInt8.ofNat c.toNat = c := by simp

theorem four_low {c : UInt8} (hc : c.toNat < 32) (r : List UInt8) : fourF (48 :: 48 :: hexD (c.toNat / 16) :: hexD (c.toNat % 16) :: r) = some (c.toNat, r) := by
  have h0 : hexV 48 = some 0 := by decide
  have h1 : hexV (hexD (c.toNat / 16)) = some (c.toNat / 16) := hexV_D (by omega)
  have h2 : hexV (hexD (c.toNat % 16)) = some (c.toNat % 16) := hexV_D (by omega)
  simp only [fourF, h0, h1, h2]
  congr 2
  omega
theorem str_low (f : Nat) {c : UInt8} (hc : c.toNat < 32) (r : List UInt8) : strF (f + 1) (escF c ++ r) = (strF f r).map fun (s, q) => (c :: s, q) := by
  unfold escF
  rw [if_pos hc]
  simp only [List.cons_append, List.nil_append]
  conv => lhs; unfold strF
  have h1 : (92 : UInt8).toNat = 92 := rfl
  rw [if_neg (by rw [h1]; omega), if_neg (by decide), if_neg (by decide)]
  simp only [if_true]
  rw [four_low hc]
  simp only
  rw [if_neg (by omega), if_neg (by omega)]
  have hr : runeF c.toNat = [c] := by
    unfold runeF
    rw [if_pos (by omega), u8_same]
  rw [hr]
  rfl
theorem str_esc (f : Nat) {c : UInt8} (r : List UInt8) : strF (f + 1) (escF c ++ r) = (strF f r).map fun (s, q) => (c :: s, q) := by
  by_cases hc : c.toNat < 32
  · exact str_low f hc r
  · by_cases h2 : c = 34 ∨ c = 92
    · unfold escF
      rw [if_neg hc, if_pos h2]
      simp only [List.cons_append, List.nil_append]
      conv => lhs; unfold strF
      have h1 : (92 : UInt8).toNat = 92 := rfl
      rw [if_neg (by rw [h1]; omega), if_neg (by decide), if_neg (by decide)]
      have hd : c ≠ 117 := by rcases h2 with rfl | rfl <;> decide
      have ho : oneF c = some c := by rcases h2 with rfl | rfl <;> decide
      simp only [if_neg hd, ho]
    · unfold escF
      rw [if_neg hc, if_neg h2]
      simp only [List.cons_append, List.nil_append]
      conv => lhs; unfold strF
      rw [if_neg hc, if_neg (fun h => h2 (.inl h)), if_pos (fun h => h2 (.inr h))]
theorem str_word : ∀ (s : List UInt8) (f : Nat) (r : List UInt8), s.length + 1 ≤ f → strF f (s.flatMap escF ++ 34 :: r) = some (s, r)
  | [], f, r, h => by
    obtain ⟨f', rfl⟩ : ∃ f', f = f' + 1 := ⟨f - 1, by omega⟩
    simp only [List.flatMap_nil, List.nil_append]
    unfold strF
    rw [if_neg (by decide), if_pos rfl]
  | c :: s, f, r, h => by
    obtain ⟨f', rfl⟩ : ∃ f', f = f' + 1 := ⟨f - 1, by omega⟩
    rw [List.flatMap_cons, List.append_assoc, str_esc, str_word s f' r (by simp only [List.length_cons] at h; omega)]
    rfl
theorem esc_len (c : UInt8) : 1 ≤ (escF c).length := by
  unfold escF
  split
  · simp
  · split <;> simp
theorem escs_len (s : List UInt8) : s.length ≤ (s.flatMap escF).length := by
  induction s with
  | nil => simp
  | cons c r ih => have := esc_len c; rw [List.flatMap_cons, List.length_append, List.length_cons]; omega
theorem string_word (s r : List UInt8) (hu : utf8F s = true) : stringF (wordF s ++ r) = some (s, r) := by
  have he := escs_len s
  unfold stringF wordF
  simp only [List.cons_append, mustF, if_true]
  rw [List.append_assoc, List.cons_append, List.nil_append, str_word s _ r (by simp only [List.length_append, List.length_cons]; omega)]
  simp only [hu, if_true]

/-! digits -/
def noDig (r : List UInt8) : Prop := ∀ c q, r = c :: q → isDigit c = false
theorem digit_facts : ∀ n : Fin 10, isDigit (UInt8.ofNat (48 + n.val)) = true ∧ (UInt8.ofNat (48 + n.val)).toNat - 48 = n.val ∧ (UInt8.ofNat (48 + n.val) = 48 ↔ n.val = 0) := by decide +kernel
theorem digits_all (n : Nat) : ∀ c ∈ digitsF n, isDigit c = true := by
  induction n using Nat.strongRecOn with
  | _ n ih =>
    unfold digitsF
    split
    · rename_i h
      intro c hc
      simp only [List.mem_singleton] at hc
      subst hc
      exact (digit_facts ⟨n, h⟩).1
    · rename_i h
      intro c hc
      rcases List.mem_append.1 hc with hc | hc
      · exact ih (n / 10) (by omega) c hc
      · simp only [List.mem_singleton] at hc
        subst hc
        exact (digit_facts ⟨n % 10, by omega⟩).1
theorem span_all : ∀ (l r : List UInt8), (∀ c ∈ l, isDigit c = true) → noDig r → spanD (l ++ r) = (l, r)
  | [], r, _, hr => by
    cases r with
    | nil => rfl
    | cons c q => simp only [List.nil_append, spanD, hr c q rfl]; rfl
  | c :: l, r, hl, hr => by
    have ih := span_all l r (fun c hc => hl c (List.mem_cons_of_mem _ hc)) hr
    simp only [List.cons_append, spanD, hl c (List.mem_cons_self ..), if_true, ih]
theorem valD_snoc (l : List UInt8) (c : UInt8) : valD (l ++ [c]) = 10 * valD l + (c.toNat - 48) := by simp [valD]
theorem valD_digits (n : Nat) : valD (digitsF n) = n := by
  induction n using Nat.strongRecOn with
  | _ n ih =>
    unfold digitsF
    split
    · rename_i h
      have := (digit_facts ⟨n, h⟩).2.1
      simp only [valD, List.foldl_cons, List.foldl_nil] at this ⊢
      omega
    · rename_i h
      have := (digit_facts ⟨n % 10, by omega⟩).2.1
      simp only at this
      rw [valD_snoc, ih (n / 10) (by omega), this]
      omega
theorem digits_ne (n : Nat) : digitsF n ≠ [] := by
  unfold digitsF
  split <;> simp
/-- no nought ahead -/
theorem digits_head (n : Nat) : (digitsF n).headD 0 = 48 → n = 0 := by
  induction n using Nat.strongRecOn with
  | _ n ih =>
    unfold digitsF
    split
    · rename_i h
      intro e
      exact (digit_facts ⟨n, h⟩).2.2.1 e
    · rename_i h
      intro e
      have hne := digits_ne (n / 10)
      cases hd : digitsF (n / 10) with
      | nil => exact absurd hd hne
      | cons c l =>
        rw [hd] at e
        have := ih (n / 10) (by omega) (by rw [hd]; exact e)
        omega
theorem num_digits {n : Nat} (h : n < 18446744073709551616) (r : List UInt8) (hr : noDig r) : numF (digitsF n ++ r) = some (n, r) := by
  unfold numF
  rw [span_all _ _ (digits_all n) hr]
  simp only
  rw [if_neg (digits_ne n), if_neg, valD_digits, if_pos h]
  intro ⟨h1, h2⟩
  have := digits_head n h1
  subst this
  unfold digitsF at h2
  simp at h2
end Go.Proofs.YtiadfijeglbdlaaDoor

namespace Go.Proofs.YtiadfijeglbdlaaDoor

mutual
/-- numbers are below 2^64 -/
def wfF : JV → Bool
  | .mk _ _ n l _ => decide (n < 18446744073709551616) && wfL l
def wfL : List JV → Bool
  | [] => true
  | v :: r => wfF v && wfL r
end

/-- a head that may be, kind by kind -/
theorem head_cases {k : Int} {s : List UInt8} {n : Nat} {l : List JV} {ks : List (List UInt8)} {most : Nat} (h : headF k s n l ks most = true) :
    (k = 0 ∧ s = [] ∧ n = 0 ∧ l = [] ∧ ks = []) ∨ (k = 1 ∧ s = [] ∧ n = 0 ∧ l = [] ∧ ks = []) ∨ (k = 2 ∧ s = [] ∧ n = 0 ∧ l = [] ∧ ks = []) ∨ (k = 3 ∧ s = [] ∧ l = [] ∧ ks = []) ∨
    (k = 4 ∧ n = 0 ∧ l = [] ∧ ks = [] ∧ utf8F s = true) ∨ (k = 5 ∧ s = [] ∧ n = 0 ∧ ks = [] ∧ 0 < most) ∨ (k = 6 ∧ s = [] ∧ n = 0 ∧ ks.length = l.length ∧ ks.all utf8F = true ∧ 0 < most) := by
  unfold headF at h
  simp only [Bool.and_eq_true, Bool.or_eq_true, decide_eq_true_eq, List.isEmpty_iff] at h
  obtain ⟨⟨⟨⟨⟨⟨⟨⟨⟨⟨h0, h6⟩, hn⟩, hs⟩, hk⟩, hl⟩, hm⟩, hu⟩, hkl⟩, hku⟩, _⟩ := h
  have hk7 : k = 0 ∨ k = 1 ∨ k = 2 ∨ k = 3 ∨ k = 4 ∨ k = 5 ∨ k = 6 := by omega
  rcases hk7 with rfl | rfl | rfl | rfl | rfl | rfl | rfl
  · exact .inl ⟨rfl, by simpa using hs, by simpa using hn, by simpa using hl, by simpa using hk⟩
  · exact .inr (.inl ⟨rfl, by simpa using hs, by simpa using hn, by simpa using hl, by simpa using hk⟩)
  · exact .inr (.inr (.inl ⟨rfl, by simpa using hs, by simpa using hn, by simpa using hl, by simpa using hk⟩))
  · exact .inr (.inr (.inr (.inl ⟨rfl, by simpa using hs, by simpa using hl, by simpa using hk⟩)))
  · exact .inr (.inr (.inr (.inr (.inl ⟨rfl, by simpa using hn, by simpa using hl, by simpa using hk, hu⟩))))
  · exact .inr (.inr (.inr (.inr (.inr (.inl ⟨rfl, by simpa using hs, by simpa using hn, by simpa using hk, by simpa using hm⟩)))))
  · exact .inr (.inr (.inr (.inr (.inr (.inr ⟨rfl, by simpa using hs, by simpa using hn, by simpa using hkl, hku, by simpa using hm⟩)))))

theorem blanks_not {c : UInt8} {r : List UInt8} (h : isBlank c = false) : blanksF (c :: r) = c :: r := by
  unfold blanksF
  rw [h]
  rfl
theorem digits_cons (n : Nat) : ∃ c r, digitsF n = c :: r ∧ isDigit c = true := by
  cases h : digitsF n with
  | nil => exact absurd h (digits_ne n)
  | cons c r => exact ⟨c, r, rfl, digits_all n c (by rw [h]; exact List.mem_cons_self ..)⟩
theorem digit_not {c : UInt8} (h : isDigit c = true) : isBlank c = false ∧ c ≠ 110 ∧ c ≠ 102 ∧ c ≠ 116 ∧ c ≠ 34 ∧ c ≠ 91 ∧ c ≠ 123 ∧ c ≠ 93 ∧ c ≠ 125 ∧ c ≠ 44 := by
  have hh : ∀ n : Fin 256, isDigit (UInt8.ofNat n) = true → isBlank (UInt8.ofNat n) = false ∧ UInt8.ofNat n ≠ 110 ∧ UInt8.ofNat n ≠ 102 ∧ UInt8.ofNat n ≠ 116 ∧ UInt8.ofNat n ≠ 34 ∧ UInt8.ofNat n ≠ 91 ∧ UInt8.ofNat n ≠ 123 ∧ UInt8.ofNat n ≠ 93 ∧ UInt8.ofNat n ≠ 125 ∧ UInt8.ofNat n ≠ 44 := by decide +kernel
  have := hh ⟨c.toNat, c.toNat_lt⟩
  simp only [u8_same] at this
  exact this h
/-- a text's first sign -/
theorem plain_cons (v : JV) : ∃ c r, plainF v = c :: r ∧ isBlank c = false ∧ c ≠ 93 ∧ c ≠ 125 ∧ c ≠ 44 := by
  obtain ⟨k, s, n, l, ks⟩ := v
  unfold plainF
  split
  · exact ⟨_, _, rfl, by decide, by decide, by decide, by decide⟩
  · split
    · exact ⟨_, _, rfl, by decide, by decide, by decide, by decide⟩
    · split
      · exact ⟨_, _, rfl, by decide, by decide, by decide, by decide⟩
      · split
        · obtain ⟨c, r, e, hc⟩ := digits_cons n
          have := digit_not hc
          exact ⟨c, r, e, this.1, this.2.2.2.2.2.2.2.1, this.2.2.2.2.2.2.2.2.1, this.2.2.2.2.2.2.2.2.2⟩
        · split
          · exact ⟨34, _, rfl, by decide, by decide, by decide, by decide⟩
          · split
            · exact ⟨_, _, rfl, by decide, by decide, by decide, by decide⟩
            · exact ⟨_, _, rfl, by decide, by decide, by decide, by decide⟩
theorem noDig_cons {c : UInt8} {r : List UInt8} (h : isDigit c = false) : noDig (c :: r) := fun c' q e => by cases e; exact h
theorem noDig_nil : noDig [] := fun c q e => by cases e

theorem value_all : ∀ f : Nat,
    (∀ v most rest, mayF v most = true → wfF v = true → noDig rest → 2 * (plainF v).length + 1 ≤ f → valueF f most (plainF v ++ rest) = some (v, rest)) ∧
    (∀ v l most rest, mayF v most = true → mayL l most = true → wfF v = true → wfL l = true → 2 * (plainF v ++ plainAt l).length + 2 ≤ f → itemsF f most (plainF v ++ (plainAt l ++ 93 :: rest)) = some (v :: l, rest)) ∧
    (∀ v l k ks most rest, mayF v most = true → mayL l most = true → wfF v = true → wfL l = true → utf8F k = true → ks.all utf8F = true → ks.length = l.length →
      2 * (wordF k ++ 58 :: (plainF v ++ plainOt l ks)).length + 2 ≤ f → membersF f most (wordF k ++ 58 :: (plainF v ++ (plainOt l ks ++ 125 :: rest))) = some (v :: l, k :: ks, rest)) := by
  intro f
  induction f with
  | zero => exact ⟨fun _ _ _ _ _ _ h => by omega, fun _ _ _ _ _ _ _ _ h => by omega, fun _ _ _ _ _ _ _ _ _ _ _ _ _ h => by omega⟩
  | succ f ih =>
    obtain ⟨ihv, ihi, ihm⟩ := ih
    refine ⟨?_, ?_, ?_⟩
    · rintro ⟨k, s, n, l, ks⟩ most rest hmay hwf hr hf
      unfold mayF at hmay
      rw [Bool.and_eq_true] at hmay
      obtain ⟨hh, hl⟩ := hmay
      unfold wfF at hwf
      rw [Bool.and_eq_true, decide_eq_true_eq] at hwf
      rcases head_cases hh with ⟨rfl, rfl, rfl, rfl, rfl⟩ | ⟨rfl, rfl, rfl, rfl, rfl⟩ | ⟨rfl, rfl, rfl, rfl, rfl⟩ | ⟨rfl, rfl, rfl, rfl⟩ | ⟨rfl, rfl, rfl, rfl, hu⟩ | ⟨rfl, rfl, rfl, rfl, hm⟩ | ⟨rfl, rfl, rfl, hkl, hku, hm⟩
      · rfl
      · rfl
      · rfl
      · obtain ⟨c, r, e, hc⟩ := digits_cons n
        obtain ⟨g0, g1, g2, g3, g4, g5, g6, -⟩ := digit_not hc
        have hp : plainF (.mk 3 [] n [] []) = digitsF n := rfl
        have hn := num_digits hwf.1 rest hr
        rw [hp]
        rw [e] at hn ⊢
        rw [List.cons_append] at hn ⊢
        unfold valueF
        rw [blanks_not g0]
        simp only [g1, g2, g3, g4, g5, g6, if_false, hn]
        rfl
      · have hp : plainF (.mk 4 s 0 [] []) = wordF s := rfl
        have hn := string_word s rest hu
        rw [hp]
        unfold valueF
        have e : wordF s ++ rest = 34 :: (s.flatMap escF ++ [34] ++ rest) := rfl
        rw [e] at hn ⊢
        rw [blanks_not (by decide)]
        simp only [show (34 : UInt8) ≠ 110 by decide, show (34 : UInt8) ≠ 102 by decide, show (34 : UInt8) ≠ 116 by decide, if_false, if_true, hn]
        rfl
      · cases l with
        | nil =>
          have hp : plainF (.mk 5 [] 0 [] []) = [91, 93] := rfl
          rw [hp]
          unfold valueF
          simp only [List.cons_append, List.nil_append]
          rw [blanks_not (by decide)]
          simp only [show (91 : UInt8) ≠ 110 by decide, show (91 : UInt8) ≠ 102 by decide, show (91 : UInt8) ≠ 116 by decide, show (91 : UInt8) ≠ 34 by decide, if_false, if_true, show most ≠ 0 by omega]
          rw [blanks_not (by decide)]
          simp only [if_true]
        | cons v l =>
          have hp : plainF (.mk 5 [] 0 (v :: l) []) = 91 :: (plainF v ++ plainAt l ++ [93]) := rfl
          rw [hp] at hf ⊢
          unfold mayL at hl
          unfold wfL at hwf
          simp only [Bool.and_eq_true] at hl hwf
          have hi := ihi v l (most - 1) rest hl.1 hl.2 hwf.2.1 hwf.2.2 (by simp only [List.length_cons, List.length_append, List.length_nil] at hf ⊢; omega)
          obtain ⟨c, r, e, gb, g1, -⟩ := plain_cons v
          have e2 : (91 :: (plainF v ++ plainAt l ++ [93])) ++ rest = 91 :: (plainF v ++ (plainAt l ++ 93 :: rest)) := by simp
          rw [e2]
          unfold valueF
          rw [blanks_not (by decide)]
          simp only [show (91 : UInt8) ≠ 110 by decide, show (91 : UInt8) ≠ 102 by decide, show (91 : UInt8) ≠ 116 by decide, show (91 : UInt8) ≠ 34 by decide, if_false, if_true, show most ≠ 0 by omega]
          rw [e] at hi ⊢
          rw [List.cons_append] at hi ⊢
          rw [blanks_not gb]
          simp only [g1, if_false, hi]
          rfl
      · cases l with
        | nil =>
          have hks : ks = [] := List.eq_nil_of_length_eq_zero (by simpa using hkl)
          subst hks
          have hp : plainF (.mk 6 [] 0 [] []) = [123, 125] := rfl
          rw [hp]
          unfold valueF
          simp only [List.cons_append, List.nil_append]
          rw [blanks_not (by decide)]
          simp only [show (123 : UInt8) ≠ 110 by decide, show (123 : UInt8) ≠ 102 by decide, show (123 : UInt8) ≠ 116 by decide, show (123 : UInt8) ≠ 34 by decide, show (123 : UInt8) ≠ 91 by decide, if_false, if_true, show most ≠ 0 by omega]
          rw [blanks_not (by decide)]
          simp only [if_true]
        | cons v l =>
          cases ks with
          | nil => simp at hkl
          | cons key ks =>
            have hp : plainF (.mk 6 [] 0 (v :: l) (key :: ks)) = 123 :: (wordF key ++ 58 :: (plainF v ++ plainOt l ks) ++ [125]) := rfl
            rw [hp] at hf ⊢
            unfold mayL at hl
            unfold wfL at hwf
            simp only [Bool.and_eq_true] at hl hwf
            simp only [List.all_cons, Bool.and_eq_true] at hku
            have hi := ihm v l key ks (most - 1) rest hl.1 hl.2 hwf.2.1 hwf.2.2 hku.1 hku.2 (by simpa using hkl) (by simp only [List.length_cons, List.length_append, List.length_nil] at hf ⊢; omega)
            have e2 : (123 :: (wordF key ++ 58 :: (plainF v ++ plainOt l ks) ++ [125])) ++ rest = 123 :: (wordF key ++ 58 :: (plainF v ++ (plainOt l ks ++ 125 :: rest))) := by simp
            rw [e2]
            unfold valueF
            rw [blanks_not (by decide)]
            simp only [show (123 : UInt8) ≠ 110 by decide, show (123 : UInt8) ≠ 102 by decide, show (123 : UInt8) ≠ 116 by decide, show (123 : UInt8) ≠ 34 by decide, show (123 : UInt8) ≠ 91 by decide, if_false, if_true, show most ≠ 0 by omega]
            have e3 : ∀ t, wordF key ++ t = 34 :: (key.flatMap escF ++ [34] ++ t) := fun t => rfl
            rw [e3] at hi ⊢
            rw [blanks_not (by decide)]
            simp only [show (34 : UInt8) ≠ 125 by decide, if_false, hi]
            rfl
    · intro v l most rest hv hl wv wl hf
      have hv1 := ihv v most (plainAt l ++ 93 :: rest) hv wv (by
        cases l with
        | nil => exact noDig_cons (by decide)
        | cons v' l => exact noDig_cons (by decide)) (by simp only [List.length_append] at hf; omega)
      unfold itemsF
      rw [hv1]
      cases l with
      | nil =>
        have e : plainAt [] ++ 93 :: rest = 93 :: rest := rfl
        simp only [e]
        rw [blanks_not (by decide)]
        simp only [if_true]
      | cons v' l =>
        have e : plainAt (v' :: l) ++ 93 :: rest = 44 :: (plainF v' ++ (plainAt l ++ 93 :: rest)) := by
          show 44 :: (plainF v' ++ plainAt l) ++ 93 :: rest = _
          simp
        simp only [e]
        rw [blanks_not (by decide)]
        unfold mayL at hl
        unfold wfL at wl
        simp only [Bool.and_eq_true] at hl wl
        have hp : plainAt (v' :: l) = 44 :: (plainF v' ++ plainAt l) := rfl
        have hi := ihi v' l most rest hl.1 hl.2 wl.1 wl.2 (by rw [hp] at hf; simp only [List.length_append, List.length_cons] at hf ⊢; omega)
        simp only [show (44 : UInt8) ≠ 93 by decide, if_false, if_true, hi]
        rfl
    · intro v l k ks most rest hv hl wv wl hk hks hlen hf
      have hs := string_word k (58 :: (plainF v ++ (plainOt l ks ++ 125 :: rest))) hk
      have hv1 := ihv v most (plainOt l ks ++ 125 :: rest) hv wv (by
        cases l with
        | nil => exact noDig_cons (by decide)
        | cons v' l => exact noDig_cons (by decide)) (by simp only [List.length_append, List.length_cons] at hf; omega)
      unfold membersF
      have e3 : ∀ t, wordF k ++ t = 34 :: (k.flatMap escF ++ [34] ++ t) := fun t => rfl
      have eb : blanksF (wordF k ++ 58 :: (plainF v ++ (plainOt l ks ++ 125 :: rest))) = wordF k ++ 58 :: (plainF v ++ (plainOt l ks ++ 125 :: rest)) := by
        rw [e3]
        exact blanks_not (by decide)
      rw [eb, hs]
      simp only
      rw [blanks_not (by decide)]
      have hm : mustF [58] (58 :: (plainF v ++ (plainOt l ks ++ 125 :: rest))) = some (plainF v ++ (plainOt l ks ++ 125 :: rest)) := rfl
      rw [hm]
      simp only
      rw [hv1]
      cases l with
      | nil =>
        have hks0 : ks = [] := List.eq_nil_of_length_eq_zero (by simpa using hlen)
        subst hks0
        have e : plainOt [] [] ++ 125 :: rest = 125 :: rest := rfl
        simp only [e]
        rw [blanks_not (by decide)]
        simp only [if_true]
      | cons v' l =>
        cases ks with
        | nil => simp at hlen
        | cons k' ks =>
          have hp : plainOt (v' :: l) (k' :: ks) = 44 :: (wordF k' ++ 58 :: (plainF v' ++ plainOt l ks)) := rfl
          have e : plainOt (v' :: l) (k' :: ks) ++ 125 :: rest = 44 :: (wordF k' ++ 58 :: (plainF v' ++ (plainOt l ks ++ 125 :: rest))) := by
            rw [hp]
            simp
          simp only [e]
          rw [blanks_not (by decide)]
          unfold mayL at hl
          unfold wfL at wl
          simp only [Bool.and_eq_true] at hl wl
          simp only [List.all_cons, Bool.and_eq_true] at hks
          have hi := ihm v' l k' ks most rest hl.1 hl.2 wl.1 wl.2 hks.1 hks.2 (by simpa using hlen) (by rw [hp] at hf; simp only [List.length_append, List.length_cons] at hf ⊢; omega)
          simp only [show (44 : UInt8) ≠ 125 by decide, if_false, if_true, hi]
          rfl
/-- each value that may be comes back -/
theorem parse_plain (v : JV) (h : mayF v 8 = true) (hw : wfF v = true) : parseF (plainF v) = some v := by
  have := (value_all (2 * (plainF v).length + 2)).1 v 8 [] h hw noDig_nil (by omega)
  rw [List.append_nil] at this
  unfold parseF
  rw [this]
  simp only
  rw [if_pos ⟨rfl, h⟩]
end Go.Proofs.YtiadfijeglbdlaaDoor

namespace Go.Proofs.YtiadfijeglbdlaaDoor

theorem must_ext : ∀ (s b r q : List UInt8), mustF s b = some r → mustF s (b ++ q) = some (r ++ q)
  | [], b, r, q, h => by simp only [mustF] at h ⊢; cases h; rfl
  | _ :: _, [], r, q, h => by simp [mustF] at h
  | c :: s, d :: b, r, q, h => by
    simp only [mustF, List.cons_append] at h ⊢
    split at h
    · rename_i e
      rw [if_pos e]
      exact must_ext s b r q h
    · cases h
theorem four_ext (b : List UInt8) (n : Nat) (r q : List UInt8) (h : fourF b = some (n, r)) : fourF (b ++ q) = some (n, r ++ q) := by
  rcases b with _ | ⟨a, _ | ⟨b, _ | ⟨c, _ | ⟨d, t⟩⟩⟩⟩ <;> try (simp [fourF] at h; done)
  simp only [fourF, List.cons_append] at h ⊢
  split at h
  · cases h
    rfl
  · cases h
theorem str_ext : ∀ (f : Nat) (b s r q : List UInt8), strF f b = some (s, r) → ∀ g, f ≤ g → strF g (b ++ q) = some (s, r ++ q) := by
  intro f
  induction f with
  | zero => intro b s r q h; simp [strF] at h
  | succ f ih =>
    intro b s r q h g hg
    obtain ⟨g, rfl⟩ : ∃ g', g = g' + 1 := ⟨g - 1, by omega⟩
    have hfg : f ≤ g := by omega
    have ihm : ∀ (t : List UInt8) (k : List UInt8 → List UInt8), (strF f t).map (fun (s, q) => (k s, q)) = some (s, r) → (strF g (t ++ q)).map (fun (s, q) => (k s, q)) = some (s, r ++ q) := by
      intro t k hk
      cases ht : strF f t with
      | none => rw [ht] at hk; cases hk
      | some z =>
        obtain ⟨s1, r1⟩ := z
        rw [ht] at hk
        rw [ih t s1 r1 q ht g hfg]
        simp only [Option.map_some, Option.some.injEq, Prod.mk.injEq] at hk ⊢
        exact ⟨hk.1, by rw [hk.2]⟩
    cases b with
    | nil => simp [strF] at h
    | cons c b =>
      rw [List.cons_append]
      unfold strF at h ⊢
      split at h
      · cases h
      · rename_i h1
        rw [if_neg h1]
        split at h
        · rename_i h2
          rw [if_pos h2]
          cases h
          rfl
        · rename_i h2
          rw [if_neg h2]
          split at h
          · rename_i h3
            rw [if_pos h3]
            exact ihm b (c :: ·) h
          · rename_i h3
            rw [if_neg h3]
            cases b with
            | nil => simp at h
            | cons d b =>
              simp only [List.cons_append] at h ⊢
              split at h
              · rename_i h4
                rw [if_pos h4]
                cases hf : fourF b with
                | none => rw [hf] at h; cases h
                | some z =>
                  obtain ⟨n, r2⟩ := z
                  rw [hf] at h
                  rw [four_ext b n r2 q hf]
                  simp only at h ⊢
                  split at h
                  · rename_i h5
                    rw [if_pos h5]
                    cases hm : mustF [92, 117] r2 with
                    | none => rw [hm] at h; cases h
                    | some r3 =>
                      rw [hm] at h
                      rw [must_ext _ _ _ q hm]
                      simp only at h ⊢
                      cases hf2 : fourF r3 with
                      | none => rw [hf2] at h; cases h
                      | some z =>
                        obtain ⟨m, r4⟩ := z
                        rw [hf2] at h
                        rw [four_ext r3 m r4 q hf2]
                        simp only at h ⊢
                        split at h
                        · rename_i h6
                          rw [if_pos h6]
                          exact ihm r4 (runeF (65536 + 1024 * (n - 55296) + (m - 56320)) ++ ·) h
                        · cases h
                  · rename_i h5
                    rw [if_neg h5]
                    split at h
                    · cases h
                    · rename_i h6
                      rw [if_neg h6]
                      exact ihm r2 (runeF n ++ ·) h
              · rename_i h4
                rw [if_neg h4]
                cases ho : oneF d with
                | none => rw [ho] at h; cases h
                | some x =>
                  rw [ho] at h
                  simp only at h ⊢
                  exact ihm b (x :: ·) h
theorem string_ext (b s r q : List UInt8) (h : stringF b = some (s, r)) : stringF (b ++ q) = some (s, r ++ q) := by
  unfold stringF at h ⊢
  cases hm : mustF [34] b with
  | none => rw [hm] at h; cases h
  | some t =>
    rw [hm] at h
    rw [must_ext _ _ _ q hm]
    simp only at h ⊢
    cases hs : strF (t.length + 1) t with
    | none => rw [hs] at h; cases h
    | some z =>
      obtain ⟨s1, r1⟩ := z
      rw [hs] at h
      rw [str_ext _ _ _ _ q hs ((t ++ q).length + 1) (by rw [List.length_append]; omega)]
      simp only at h ⊢
      split at h
      · rename_i hu
        rw [if_pos hu]
        cases h
        rfl
      · cases h
theorem span_ext : ∀ (b q : List UInt8), (spanD b).2 ≠ [] → spanD (b ++ q) = ((spanD b).1, (spanD b).2 ++ q)
  | [], q, h => by simp [spanD] at h
  | c :: b, q, h => by
    simp only [List.cons_append]
    unfold spanD at h ⊢
    split
    · rename_i hd
      rw [if_pos hd] at h
      rw [span_ext b q h]
    · rfl
theorem num_ext (b r q : List UInt8) (n : Nat) (h : numF b = some (n, r)) (hr : r ≠ []) : numF (b ++ q) = some (n, r ++ q) := by
  have h2 : (spanD b).2 = r := by
    unfold numF at h
    split at h
    · cases h
    · split at h
      · cases h
      · split at h
        · cases h; rfl
        · cases h
  have he := span_ext b q (by rw [h2]; exact hr)
  unfold numF at h ⊢
  rw [he]
  simp only
  split at h
  · cases h
  · rename_i g1
    rw [if_neg g1]
    split at h
    · cases h
    · rename_i g2
      rw [if_neg g2]
      split at h
      · rename_i g3
        rw [if_pos g3]
        cases h
        rfl
      · cases h
theorem blanks_ext : ∀ (b q : List UInt8), blanksF b ≠ [] → blanksF (b ++ q) = blanksF b ++ q
  | [], q, h => by simp [blanksF] at h
  | c :: b, q, h => by
    simp only [List.cons_append]
    unfold blanksF at h ⊢
    split
    · rename_i hb
      rw [if_pos hb] at h
      exact blanks_ext b q h
    · rfl
theorem num_kind {b : List UInt8} {x : JV} {r : List UInt8} (h : (numF b).map (fun (n, q) => (JV.mk 3 [] n [] [], q)) = some (x, r)) : x.kind = 3 ∧ ∃ n, numF b = some (n, r) ∧ x = JV.mk 3 [] n [] [] := by
  cases hn : numF b with
  | none => rw [hn] at h; cases h
  | some z =>
    obtain ⟨n, q⟩ := z
    rw [hn] at h
    simp only [Option.map_some, Option.some.injEq, Prod.mk.injEq] at h
    obtain ⟨rfl, rfl⟩ := h
    exact ⟨rfl, n, rfl, rfl⟩
theorem map_ext {α β : Type} {x y : Option (α × List UInt8)} {z : β × List UInt8} (q : List UInt8) (k : α → β) (hxy : ∀ s r, x = some (s, r) → y = some (s, r ++ q)) (h : x.map (fun (s, t) => (k s, t)) = some z) : y.map (fun (s, t) => (k s, t)) = some (z.1, z.2 ++ q) := by
  cases hx : x with
  | none => rw [hx] at h; cases h
  | some w =>
    obtain ⟨s, t⟩ := w
    rw [hx] at h
    rw [hxy s t hx]
    simp only [Option.map_some, Option.some.injEq] at h
    subst h
    rfl

/-- what the reader tells stands, whatever comes behind (but digits behind a number), and with more fuel -/
theorem value_ext : ∀ f : Nat,
    (∀ most b x r q g, valueF f most b = some (x, r) → (r ≠ [] ∨ x.kind ≠ 3 ∨ q = []) → f ≤ g → valueF g most (b ++ q) = some (x, r ++ q)) ∧
    (∀ most b l r q g, itemsF f most b = some (l, r) → f ≤ g → itemsF g most (b ++ q) = some (l, r ++ q)) ∧
    (∀ most b l ks r q g, membersF f most b = some (l, ks, r) → f ≤ g → membersF g most (b ++ q) = some (l, ks, r ++ q)) := by
  intro f
  induction f with
  | zero => exact ⟨fun _ _ _ _ _ _ h => by simp [valueF] at h, fun _ _ _ _ _ _ h => by simp [itemsF] at h, fun _ _ _ _ _ _ _ h => by simp [membersF] at h⟩
  | succ f ih =>
    obtain ⟨ihv, ihi, ihm⟩ := ih
    refine ⟨?_, ?_, ?_⟩
    · intro most b x r q g h hr hg
      obtain ⟨g, rfl⟩ : ∃ g', g = g' + 1 := ⟨g - 1, by omega⟩
      have hfg : f ≤ g := by omega
      unfold valueF at h ⊢
      cases hb : blanksF b with
      | nil => rw [hb] at h; cases h
      | cons c t =>
        rw [hb] at h
        rw [blanks_ext b q (by rw [hb]; exact List.cons_ne_nil _ _), hb, List.cons_append]
        simp only at h ⊢
        split at h
        · rename_i h1
          rw [if_pos h1]
          cases hm : mustF [110, 117, 108, 108] (c :: t) with
          | none => rw [hm] at h; cases h
          | some z =>
            rw [hm] at h
            cases h
            have := must_ext _ _ _ q hm
            rw [List.cons_append] at this
            rw [this]
            rfl
        · rename_i h1
          rw [if_neg h1]
          split at h
          · rename_i h2
            rw [if_pos h2]
            cases hm : mustF [102, 97, 108, 115, 101] (c :: t) with
            | none => rw [hm] at h; cases h
            | some z =>
              rw [hm] at h
              cases h
              have := must_ext _ _ _ q hm
              rw [List.cons_append] at this
              rw [this]
              rfl
          · rename_i h2
            rw [if_neg h2]
            split at h
            · rename_i h3
              rw [if_pos h3]
              cases hm : mustF [116, 114, 117, 101] (c :: t) with
              | none => rw [hm] at h; cases h
              | some z =>
                rw [hm] at h
                cases h
                have := must_ext _ _ _ q hm
                rw [List.cons_append] at this
                rw [this]
                rfl
            · rename_i h3
              rw [if_neg h3]
              split at h
              · rename_i h4
                rw [if_pos h4]
                exact map_ext q (fun s => JV.mk 4 s 0 [] []) (fun s r hs => by have := string_ext _ _ _ q hs; rwa [List.cons_append] at this) h
              · rename_i h4
                rw [if_neg h4]
                split at h
                · rename_i h5
                  rw [if_pos h5]
                  split at h
                  · cases h
                  · rename_i h6
                    rw [if_neg h6]
                    cases ht : blanksF t with
                    | nil => rw [ht] at h; cases h
                    | cons d t1 =>
                      rw [ht] at h
                      rw [blanks_ext t q (by rw [ht]; exact List.cons_ne_nil _ _), ht, List.cons_append]
                      simp only at h ⊢
                      split at h
                      · rename_i h7
                        rw [if_pos h7]
                        cases h
                        rfl
                      · rename_i h7
                        rw [if_neg h7]
                        exact map_ext q (fun l => JV.mk 5 [] 0 l []) (fun l r hs => by have := ihi _ _ _ _ q g hs hfg; rwa [List.cons_append] at this) h
                · rename_i h5
                  rw [if_neg h5]
                  split at h
                  · rename_i h6
                    rw [if_pos h6]
                    split at h
                    · cases h
                    · rename_i h7
                      rw [if_neg h7]
                      cases ht : blanksF t with
                      | nil => rw [ht] at h; cases h
                      | cons d t1 =>
                        rw [ht] at h
                        rw [blanks_ext t q (by rw [ht]; exact List.cons_ne_nil _ _), ht, List.cons_append]
                        simp only at h ⊢
                        split at h
                        · rename_i h8
                          rw [if_pos h8]
                          cases h
                          rfl
                        · rename_i h8
                          rw [if_neg h8]
                          cases hm : membersF f (most - 1) (d :: t1) with
                          | none => rw [hm] at h; cases h
                          | some z =>
                            obtain ⟨l, ks, r1⟩ := z
                            rw [hm] at h
                            have := ihm _ _ _ _ _ q g hm hfg
                            rw [List.cons_append] at this
                            rw [this]
                            cases h
                            rfl
                  · rename_i h6
                    rw [if_neg h6]
                    obtain ⟨hk, n, hn, rfl⟩ := num_kind h
                    rcases hr with hr | hr | rfl
                    · have := num_ext _ _ q n hn hr
                      rw [List.cons_append] at this
                      rw [this]
                      rfl
                    · exact absurd hk hr
                    · rw [List.append_nil, hn, List.append_nil]
                      rfl
    · intro most b l r q g h hg
      obtain ⟨g, rfl⟩ : ∃ g', g = g' + 1 := ⟨g - 1, by omega⟩
      have hfg : f ≤ g := by omega
      unfold itemsF at h ⊢
      cases hv : valueF f most b with
      | none => rw [hv] at h; cases h
      | some z =>
        obtain ⟨v, t⟩ := z
        rw [hv] at h
        simp only at h
        cases ht : blanksF t with
        | nil => rw [ht] at h; cases h
        | cons c t1 =>
          have htn : t ≠ [] := by intro e; rw [e] at ht; cases ht
          rw [ihv most b v t q g hv (.inl htn) hfg]
          simp only
          rw [ht] at h
          rw [blanks_ext t q (by rw [ht]; exact List.cons_ne_nil _ _), ht, List.cons_append]
          simp only at h ⊢
          split at h
          · rename_i h1
            rw [if_pos h1]
            cases h
            rfl
          · rename_i h1
            rw [if_neg h1]
            split at h
            · rename_i h2
              rw [if_pos h2]
              exact map_ext q (fun l => v :: l) (fun l r hs => ihi _ _ _ _ q g hs hfg) h
            · cases h
    · intro most b l ks r q g h hg
      obtain ⟨g, rfl⟩ : ∃ g', g = g' + 1 := ⟨g - 1, by omega⟩
      have hfg : f ≤ g := by omega
      unfold membersF at h ⊢
      cases hk : stringF (blanksF b) with
      | none => rw [hk] at h; cases h
      | some z =>
        obtain ⟨k, b1⟩ := z
        have hbn : blanksF b ≠ [] := by
          intro e
          rw [e] at hk
          simp [stringF, mustF] at hk
        rw [hk] at h
        rw [blanks_ext b q hbn, string_ext _ _ _ q hk]
        simp only at h ⊢
        cases hm : mustF [58] (blanksF b1) with
        | none => rw [hm] at h; cases h
        | some b2 =>
          have hb1n : blanksF b1 ≠ [] := by
            intro e
            rw [e] at hm
            simp [mustF] at hm
          rw [hm] at h
          rw [blanks_ext b1 q hb1n, must_ext _ _ _ q hm]
          simp only at h ⊢
          cases hv : valueF f most b2 with
          | none => rw [hv] at h; cases h
          | some z =>
            obtain ⟨v, t⟩ := z
            rw [hv] at h
            simp only at h
            cases ht : blanksF t with
            | nil => rw [ht] at h; cases h
            | cons c t1 =>
              have htn : t ≠ [] := by intro e; rw [e] at ht; cases ht
              rw [ihv most b2 v t q g hv (.inl htn) hfg]
              simp only
              rw [ht] at h
              rw [blanks_ext t q (by rw [ht]; exact List.cons_ne_nil _ _), ht, List.cons_append]
              simp only at h ⊢
              split at h
              · rename_i h1
                rw [if_pos h1]
                cases h
                rfl
              · rename_i h1
                rw [if_neg h1]
                split at h
                · rename_i h2
                  rw [if_pos h2]
                  cases hmm : membersF f most t1 with
                  | none => rw [hmm] at h; cases h
                  | some z =>
                    obtain ⟨l1, ks1, r1⟩ := z
                    rw [hmm] at h
                    rw [ihm _ _ _ _ _ q g hmm hfg]
                    cases h
                    rfl
                · cases h
end Go.Proofs.YtiadfijeglbdlaaDoor

namespace Go.Proofs.YtiadfijeglbdlaaDoor

theorem value_mono {f g most : Nat} {b : List UInt8} {x : JV} {r : List UInt8} (h : valueF f most b = some (x, r)) (hg : f ≤ g) : valueF g most b = some (x, r) := by
  have := (value_ext f).1 most b x r [] g h (.inr (.inr rfl)) hg
  rwa [List.append_nil, List.append_nil] at this
theorem blanks_all : ∀ (g r : List UInt8), (∀ c ∈ g, isBlank c = true) → blanksF (g ++ r) = blanksF r
  | [], _, _ => rfl
  | c :: g, r, h => by
    rw [List.cons_append]
    show (if isBlank c then blanksF (g ++ r) else _) = _
    rw [h c (List.mem_cons_self ..), if_pos rfl]
    exact blanks_all g r fun c hc => h c (List.mem_cons_of_mem _ hc)
theorem value_blanks (g : List UInt8) (hg : ∀ c ∈ g, isBlank c = true) (f most : Nat) (b : List UInt8) : valueF f most (g ++ b) = valueF f most b := by
  cases f with
  | zero => rfl
  | succ f =>
    unfold valueF
    rw [blanks_all g b hg]
theorem noDig_blank (g : List UInt8) (hg : ∀ c ∈ g, isBlank c = true) : noDig g := by
  intro c q e
  have hc := hg c (by rw [e]; exact List.mem_cons_self ..)
  cases hd : isDigit c with
  | false => rfl
  | true => rw [(digit_not hd).1] at hc; cases hc
/-- blanks ahead of and behind a text change nothing -/
theorem parse_gaps (v : JV) (h : mayF v 8 = true) (hw : wfF v = true) (g1 g2 : List UInt8) (h1 : ∀ c ∈ g1, isBlank c = true) (h2 : ∀ c ∈ g2, isBlank c = true) : parseF (g1 ++ plainF v ++ g2) = some v := by
  have := (value_all (2 * (g1 ++ plainF v ++ g2).length + 2)).1 v 8 g2 h hw (noDig_blank g2 h2) (by simp only [List.length_append]; omega)
  unfold parseF
  rw [List.append_assoc, value_blanks g1 h1] at *
  rw [this]
  simp only
  have hb : blanksF g2 = [] := by
    have := blanks_all g2 [] h2
    rwa [List.append_nil] at this
  rw [if_pos ⟨hb, h⟩]
/-- a comma behind a text spoils it -/
theorem parse_comma (v : JV) (h : mayF v 8 = true) (hw : wfF v = true) : parseF (plainF v ++ [44]) = none := by
  have := (value_all (2 * (plainF v ++ [44]).length + 2)).1 v 8 [44] h hw (noDig_cons (by decide)) (by simp only [List.length_append]; omega)
  unfold parseF
  rw [this]
  simp only
  rw [if_neg]
  intro ⟨h1, _⟩
  revert h1
  decide
theorem num_first {f most : Nat} {b r : List UInt8} {x : JV} (h : valueF f most b = some (x, r)) (hk : x.kind = 3) : ∃ c t, blanksF b = c :: t ∧ isDigit c = true := by
  cases f with
  | zero => simp [valueF] at h
  | succ f =>
    unfold valueF at h
    cases hb : blanksF b with
    | nil => rw [hb] at h; cases h
    | cons c t =>
      rw [hb] at h
      refine ⟨c, t, rfl, ?_⟩
      have no : ∀ (o : Option (List UInt8)) (k : Int), k ≠ 3 → o.map (fun q => (JV.mk k [] 0 [] [], q)) ≠ some (x, r) := by
        intro o k hk3 e
        cases o with
        | none => cases e
        | some z => cases e; exact hk3 hk
      simp only at h
      split at h
      · exact absurd h (no _ 0 (by decide))
      · split at h
        · exact absurd h (no _ 1 (by decide))
        · split at h
          · exact absurd h (no _ 2 (by decide))
          · split at h
            · cases hs : stringF (c :: t) with
              | none => rw [hs] at h; cases h
              | some z => rw [hs] at h; cases h; cases hk
            · split at h
              · split at h
                · cases h
                · cases ht : blanksF t with
                  | nil => rw [ht] at h; cases h
                  | cons d t1 =>
                    rw [ht] at h
                    simp only at h
                    split at h
                    · cases h; cases hk
                    · cases hi : itemsF f (most - 1) (d :: t1) with
                      | none => rw [hi] at h; cases h
                      | some z => rw [hi] at h; cases h; cases hk
              · split at h
                · split at h
                  · cases h
                  · cases ht : blanksF t with
                    | nil => rw [ht] at h; cases h
                    | cons d t1 =>
                      rw [ht] at h
                      simp only at h
                      split at h
                      · cases h; cases hk
                      · cases hi : membersF f (most - 1) (d :: t1) with
                        | none => rw [hi] at h; cases h
                        | some z => rw [hi] at h; cases h; cases hk
                · obtain ⟨_, n, hn, _⟩ := num_kind h
                  unfold numF at hn
                  split at hn
                  · cases hn
                  · rename_i hne
                    cases hd : isDigit c with
                    | true => rfl
                    | false =>
                      exfalso
                      apply hne
                      unfold spanD
                      rw [hd]
                      rfl
theorem plain_first (v : JV) (h : mayF v 8 = true) {c : UInt8} {r : List UInt8} (e : plainF v = c :: r) (hd : isDigit c = true) : v.kind = 3 := by
  obtain ⟨k, s, n, l, ks⟩ := v
  unfold mayF at h
  rw [Bool.and_eq_true] at h
  rcases head_cases h.1 with ⟨rfl, rfl, rfl, rfl, rfl⟩ | ⟨rfl, rfl, rfl, rfl, rfl⟩ | ⟨rfl, rfl, rfl, rfl, rfl⟩ | ⟨rfl, rfl, rfl, rfl⟩ | ⟨rfl, rfl, rfl, rfl, hu⟩ | ⟨rfl, rfl, rfl, rfl, hm⟩ | ⟨rfl, rfl, rfl, hkl, hku, hm⟩
  · cases e; cases hd
  · cases e; cases hd
  · cases e; cases hd
  · rfl
  · cases e; cases hd
  · cases e; cases hd
  · cases e; cases hd
/-- a text that is cut off is none -/
theorem parse_cut (v : JV) (h : mayF v 8 = true) (hw : wfF v = true) (hk : v.kind ≠ 3) (k : Nat) (hlt : k < (plainF v).length) : parseF ((plainF v).take k) = none := by
  cases hp : parseF ((plainF v).take k) with
  | none => rfl
  | some x =>
    exfalso
    unfold parseF at hp
    cases hv : valueF (2 * ((plainF v).take k).length + 2) 8 ((plainF v).take k) with
    | none => rw [hv] at hp; cases hp
    | some z =>
      obtain ⟨y, r⟩ := z
      rw [hv] at hp
      simp only at hp
      split at hp
      · rename_i hc
        have full := (value_all (2 * (plainF v).length + 2)).1 v 8 [] h hw noDig_nil (by omega)
        rw [List.append_nil] at full
        have hy3 : y.kind ≠ 3 := by
          intro e
          obtain ⟨c, t, hb, hd⟩ := num_first hv e
          obtain ⟨c', t', ev, hb', -⟩ := plain_cons v
          rw [ev] at hb
          cases k with
          | zero => cases hb
          | succ k =>
            rw [List.take_succ_cons, blanks_not hb'] at hb
            cases hb
            exact hk (plain_first v h ev hd)
        have hx := (value_ext _).1 8 _ y r ((plainF v).drop k) (2 * (plainF v).length + 2) hv (.inr (.inl hy3)) (by rw [List.length_take]; omega)
        rw [List.take_append_drop, full] at hx
        have hx2 := Option.some.inj hx
        have hx3 := congrArg Prod.snd hx2
        simp only at hx3
        have hd := (List.append_eq_nil_iff.1 hx3.symm).2
        rw [List.drop_eq_nil_iff] at hd
        omega
      · cases hp
/-- what the reader tells has numbers below 2^64 -/
theorem value_wf : ∀ f : Nat, (∀ most b x r, valueF f most b = some (x, r) → wfF x = true) ∧ (∀ most b l r, itemsF f most b = some (l, r) → wfL l = true) ∧ (∀ most b l ks r, membersF f most b = some (l, ks, r) → wfL l = true) := by
  intro f
  induction f with
  | zero => exact ⟨fun _ _ _ _ h => by simp [valueF] at h, fun _ _ _ _ h => by simp [itemsF] at h, fun _ _ _ _ _ h => by simp [membersF] at h⟩
  | succ f ih =>
    obtain ⟨ihv, ihi, ihm⟩ := ih
    refine ⟨?_, ?_, ?_⟩
    · intro most b x r h
      unfold valueF at h
      cases hb : blanksF b with
      | nil => rw [hb] at h; cases h
      | cons c t =>
        rw [hb] at h
        have no : ∀ (o : Option (List UInt8)) (k : Int), o.map (fun q => (JV.mk k [] 0 [] [], q)) = some (x, r) → wfF x = true := by
          intro o k e
          cases o with
          | none => cases e
          | some z => cases e; rfl
        simp only at h
        split at h
        · exact no _ _ h
        · split at h
          · exact no _ _ h
          · split at h
            · exact no _ _ h
            · split at h
              · cases hs : stringF (c :: t) with
                | none => rw [hs] at h; cases h
                | some z => rw [hs] at h; cases h; rfl
              · split at h
                · split at h
                  · cases h
                  · cases ht : blanksF t with
                    | nil => rw [ht] at h; cases h
                    | cons d t1 =>
                      rw [ht] at h
                      simp only at h
                      split at h
                      · cases h; rfl
                      · cases hi : itemsF f (most - 1) (d :: t1) with
                        | none => rw [hi] at h; cases h
                        | some z =>
                          rw [hi] at h
                          cases h
                          unfold wfF
                          rw [ihi _ _ _ _ hi]
                          rfl
                · split at h
                  · split at h
                    · cases h
                    · cases ht : blanksF t with
                      | nil => rw [ht] at h; cases h
                      | cons d t1 =>
                        rw [ht] at h
                        simp only at h
                        split at h
                        · cases h; rfl
                        · cases hi : membersF f (most - 1) (d :: t1) with
                          | none => rw [hi] at h; cases h
                          | some z =>
                            rw [hi] at h
                            cases h
                            unfold wfF
                            rw [ihm _ _ _ _ _ hi]
                            rfl
                  · obtain ⟨_, n, hn, rfl⟩ := num_kind h
                    unfold numF at hn
                    split at hn
                    · cases hn
                    · split at hn
                      · cases hn
                      · split at hn
                        · rename_i hlt
                          cases hn
                          unfold wfF
                          rw [decide_eq_true hlt]
                          rfl
                        · cases hn
    · intro most b l r h
      unfold itemsF at h
      cases hv : valueF f most b with
      | none => rw [hv] at h; cases h
      | some z =>
        obtain ⟨v, t⟩ := z
        have wv := ihv _ _ _ _ hv
        rw [hv] at h
        simp only at h
        cases ht : blanksF t with
        | nil => rw [ht] at h; cases h
        | cons c t1 =>
          rw [ht] at h
          simp only at h
          split at h
          · cases h
            unfold wfL
            rw [wv]
            rfl
          · split at h
            · cases hi : itemsF f most t1 with
              | none => rw [hi] at h; cases h
              | some z =>
                rw [hi] at h
                cases h
                unfold wfL
                rw [wv, ihi _ _ _ _ hi]
                rfl
            · cases h
    · intro most b l ks r h
      unfold membersF at h
      cases hk : stringF (blanksF b) with
      | none => rw [hk] at h; cases h
      | some z =>
        obtain ⟨k, b1⟩ := z
        rw [hk] at h
        simp only at h
        cases hm : mustF [58] (blanksF b1) with
        | none => rw [hm] at h; cases h
        | some b2 =>
          rw [hm] at h
          simp only at h
          cases hv : valueF f most b2 with
          | none => rw [hv] at h; cases h
          | some z =>
            obtain ⟨v, t⟩ := z
            have wv := ihv _ _ _ _ hv
            rw [hv] at h
            simp only at h
            cases ht : blanksF t with
            | nil => rw [ht] at h; cases h
            | cons c t1 =>
              rw [ht] at h
              simp only at h
              split at h
              · cases h
                unfold wfL
                rw [wv]
                rfl
              · split at h
                · cases hi : membersF f most t1 with
                  | none => rw [hi] at h; cases h
                  | some z =>
                    rw [hi] at h
                    cases h
                    unfold wfL
                    rw [wv, ihm _ _ _ _ _ hi]
                    rfl
                · cases h
theorem parse_some {b : List UInt8} {x : JV} (h : parseF b = some x) : mayF x 8 = true ∧ wfF x = true := by
  unfold parseF at h
  cases hv : valueF (2 * b.length + 2) 8 b with
  | none => rw [hv] at h; cases h
  | some z =>
    obtain ⟨y, r⟩ := z
    rw [hv] at h
    simp only at h
    split at h
    · rename_i hc
      cases h
      exact ⟨hc.2, (value_wf _).1 _ _ _ _ hv⟩
    · cases h

mutual
theorem same_eq : ∀ v w : JV, sameF v w = true ↔ v = w
  | .mk k s n l ks, .mk k' s' n' l' ks' => by
    have := sameL_eq l l'
    unfold sameF
    simp only [Bool.and_eq_true, decide_eq_true_eq, this]
    constructor
    · rintro ⟨⟨⟨⟨rfl, rfl⟩, rfl⟩, rfl⟩, rfl⟩
      rfl
    · intro e
      cases e
      exact ⟨⟨⟨⟨rfl, rfl⟩, rfl⟩, rfl⟩, rfl⟩
theorem sameL_eq : ∀ l m : List JV, sameL l m = true ↔ l = m
  | [], [] => by simp [sameL]
  | [], _ :: _ => by simp [sameL]
  | _ :: _, [] => by simp [sameL]
  | v :: l, w :: m => by
    have h1 := same_eq v w
    have h2 := sameL_eq l m
    unfold sameL
    rw [Bool.and_eq_true, h1, h2]
    constructor
    · rintro ⟨rfl, rfl⟩; rfl
    · intro e; cases e; exact ⟨rfl, rfl⟩
end
end Go.Proofs.YtiadfijeglbdlaaDoor

namespace Go.Proofs.YtiadfijeglbdlaaDoor

theorem must_len : ∀ (s b r : List UInt8), mustF s b = some r → r.length + s.length = b.length
  | [], b, r, h => by simp only [mustF] at h; cases h; rfl
  | _ :: _, [], r, h => by simp [mustF] at h
  | c :: s, d :: b, r, h => by
    simp only [mustF] at h
    split at h
    · have := must_len s b r h
      simp only [List.length_cons]
      omega
    · cases h
theorem four_len (b : List UInt8) (n : Nat) (r : List UInt8) (h : fourF b = some (n, r)) : r.length + 4 = b.length := by
  rcases b with _ | ⟨a, _ | ⟨b, _ | ⟨c, _ | ⟨d, t⟩⟩⟩⟩ <;> try (simp [fourF] at h; done)
  simp only [fourF] at h
  split at h
  · cases h
    rfl
  · cases h
theorem str_len : ∀ (f : Nat) (b s r : List UInt8), strF f b = some (s, r) → r.length < b.length := by
  intro f
  induction f with
  | zero => intro b s r h; simp [strF] at h
  | succ f ih =>
    intro b s r h
    have ihm : ∀ (t : List UInt8) (k : List UInt8 → List UInt8), (strF f t).map (fun (s, q) => (k s, q)) = some (s, r) → r.length < t.length := by
      intro t k hk
      cases ht : strF f t with
      | none => rw [ht] at hk; cases hk
      | some z =>
        obtain ⟨s1, r1⟩ := z
        rw [ht] at hk
        cases hk
        exact ih t s1 r ht
    cases b with
    | nil => simp [strF] at h
    | cons c b =>
      unfold strF at h
      rw [List.length_cons]
      split at h
      · cases h
      · split at h
        · cases h
          omega
        · split at h
          · have := ihm b (c :: ·) h
            omega
          · cases b with
            | nil => simp at h
            | cons d b =>
              rw [List.length_cons]
              simp only at h
              split at h
              · cases hf : fourF b with
                | none => rw [hf] at h; cases h
                | some z =>
                  obtain ⟨n, r2⟩ := z
                  have h2 := four_len b n r2 hf
                  rw [hf] at h
                  simp only at h
                  split at h
                  · cases hm : mustF [92, 117] r2 with
                    | none => rw [hm] at h; cases h
                    | some r3 =>
                      have h3 := must_len _ _ _ hm
                      rw [hm] at h
                      simp only at h
                      cases hf2 : fourF r3 with
                      | none => rw [hf2] at h; cases h
                      | some z =>
                        obtain ⟨m, r4⟩ := z
                        have h4 := four_len r3 m r4 hf2
                        rw [hf2] at h
                        simp only at h
                        split at h
                        · have := ihm r4 (runeF (65536 + 1024 * (n - 55296) + (m - 56320)) ++ ·) h
                          omega
                        · cases h
                  · split at h
                    · cases h
                    · have := ihm r2 (runeF n ++ ·) h
                      omega
              · cases ho : oneF d with
                | none => rw [ho] at h; cases h
                | some x =>
                  rw [ho] at h
                  simp only at h
                  have := ihm b (x :: ·) h
                  omega
theorem string_len (b s r : List UInt8) (h : stringF b = some (s, r)) : r.length < b.length := by
  unfold stringF at h
  cases hm : mustF [34] b with
  | none => rw [hm] at h; cases h
  | some t =>
    have h1 := must_len _ _ _ hm
    rw [hm] at h
    simp only at h
    cases hs : strF (t.length + 1) t with
    | none => rw [hs] at h; cases h
    | some z =>
      obtain ⟨s1, r1⟩ := z
      have h2 := str_len _ _ _ _ hs
      rw [hs] at h
      simp only at h
      split at h
      · cases h
        omega
      · cases h
theorem span_len : ∀ b : List UInt8, (spanD b).1.length + (spanD b).2.length = b.length
  | [] => rfl
  | c :: b => by
    have := span_len b
    unfold spanD
    split
    · simp only [List.length_cons]
      omega
    · simp
theorem num_len (b r : List UInt8) (n : Nat) (h : numF b = some (n, r)) : r.length < b.length := by
  have hs := span_len b
  unfold numF at h
  split at h
  · cases h
  · rename_i hne
    have : 0 < (spanD b).1.length := List.length_pos_iff.2 hne
    split at h
    · cases h
    · split at h
      · cases h
        omega
      · cases h
theorem blanks_len : ∀ b : List UInt8, (blanksF b).length ≤ b.length
  | [] => Nat.le_refl _
  | c :: b => by
    unfold blanksF
    split
    · have := blanks_len b
      simp only [List.length_cons]
      omega
    · exact Nat.le_refl _
theorem map_len_u {α β : Type} {o : Option (α × List UInt8)} {k : α → β} {x : β} {r : List UInt8} (h : o.map (fun (s, t) => (k s, t)) = some (x, r)) : ∃ s, o = some (s, r) := by
  cases o with
  | none => cases h
  | some z =>
    obtain ⟨s, t⟩ := z
    cases h
    exact ⟨s, rfl⟩
/-- what is left is shorter -/
theorem value_len : ∀ f : Nat, (∀ most b x r, valueF f most b = some (x, r) → r.length < b.length) ∧ (∀ most b l r, itemsF f most b = some (l, r) → r.length < b.length) ∧ (∀ most b l ks r, membersF f most b = some (l, ks, r) → r.length < b.length) := by
  intro f
  induction f with
  | zero => exact ⟨fun _ _ _ _ h => by simp [valueF] at h, fun _ _ _ _ h => by simp [itemsF] at h, fun _ _ _ _ _ h => by simp [membersF] at h⟩
  | succ f ih =>
    obtain ⟨ihv, ihi, ihm⟩ := ih
    refine ⟨?_, ?_, ?_⟩
    · intro most b x r h
      have hbl := blanks_len b
      unfold valueF at h
      cases hb : blanksF b with
      | nil => rw [hb] at h; cases h
      | cons c t =>
        rw [hb] at h hbl
        rw [List.length_cons] at hbl
        have no : ∀ (s : List UInt8) (k : Int), 0 < s.length → (mustF s (c :: t)).map (fun q => (JV.mk k [] 0 [] [], q)) = some (x, r) → r.length < b.length := by
          intro s k hs e
          cases hm : mustF s (c :: t) with
          | none => rw [hm] at e; cases e
          | some z =>
            have := must_len _ _ _ hm
            rw [hm] at e
            cases e
            rw [List.length_cons] at this
            omega
        simp only at h
        split at h
        · exact no _ _ (by decide) h
        · split at h
          · exact no _ _ (by decide) h
          · split at h
            · exact no _ _ (by decide) h
            · split at h
              · obtain ⟨s, hs⟩ := map_len_u (k := fun s => JV.mk 4 s 0 [] []) h
                have := string_len _ _ _ hs
                rw [List.length_cons] at this
                omega
              · have htl := blanks_len t
                split at h
                · split at h
                  · cases h
                  · cases ht : blanksF t with
                    | nil => rw [ht] at h; cases h
                    | cons d t1 =>
                      rw [ht] at h htl
                      rw [List.length_cons] at htl
                      simp only at h
                      split at h
                      · cases h; omega
                      · obtain ⟨l, hl⟩ := map_len_u (k := fun l => JV.mk 5 [] 0 l []) h
                        have := ihi _ _ _ _ hl
                        rw [List.length_cons] at this
                        omega
                · split at h
                  · split at h
                    · cases h
                    · cases ht : blanksF t with
                      | nil => rw [ht] at h; cases h
                      | cons d t1 =>
                        rw [ht] at h htl
                        rw [List.length_cons] at htl
                        simp only at h
                        split at h
                        · cases h; omega
                        · cases hm : membersF f (most - 1) (d :: t1) with
                          | none => rw [hm] at h; cases h
                          | some z =>
                            obtain ⟨l, ks, r1⟩ := z
                            rw [hm] at h
                            cases h
                            have := ihm _ _ _ _ _ hm
                            rw [List.length_cons] at this
                            dsimp only
                            omega
                  · obtain ⟨n, hn⟩ := map_len_u (k := fun n => JV.mk 3 [] n [] []) h
                    have := num_len _ _ _ hn
                    rw [List.length_cons] at this
                    omega
    · intro most b l r h
      unfold itemsF at h
      cases hv : valueF f most b with
      | none => rw [hv] at h; cases h
      | some z =>
        obtain ⟨v, t⟩ := z
        have lv := ihv _ _ _ _ hv
        have htl := blanks_len t
        rw [hv] at h
        simp only at h
        cases ht : blanksF t with
        | nil => rw [ht] at h; cases h
        | cons c t1 =>
          rw [ht] at h htl
          rw [List.length_cons] at htl
          simp only at h
          split at h
          · cases h; omega
          · split at h
            · obtain ⟨l1, hl⟩ := map_len_u (k := fun l => v :: l) h
              have := ihi _ _ _ _ hl
              omega
            · cases h
    · intro most b l ks r h
      have hb0 := blanks_len b
      unfold membersF at h
      cases hk : stringF (blanksF b) with
      | none => rw [hk] at h; cases h
      | some z =>
        obtain ⟨k, b1⟩ := z
        have hk1 := string_len _ _ _ hk
        have hb1 := blanks_len b1
        rw [hk] at h
        simp only at h
        cases hm : mustF [58] (blanksF b1) with
        | none => rw [hm] at h; cases h
        | some b2 =>
          have hm1 := must_len _ _ _ hm
          rw [hm] at h
          simp only at h
          cases hv : valueF f most b2 with
          | none => rw [hv] at h; cases h
          | some z =>
            obtain ⟨v, t⟩ := z
            have lv := ihv _ _ _ _ hv
            have htl := blanks_len t
            rw [hv] at h
            simp only at h
            cases ht : blanksF t with
            | nil => rw [ht] at h; cases h
            | cons c t1 =>
              rw [ht] at h htl
              rw [List.length_cons] at htl
              simp only at h
              split at h
              · cases h; omega
              · split at h
                · cases hi : membersF f most t1 with
                  | none => rw [hi] at h; cases h
                  | some z =>
                    obtain ⟨l1, ks1, r1⟩ := z
                    rw [hi] at h
                    cases h
                    have := ihm _ _ _ _ _ hi
                    dsimp only
                    omega
                · cases h
/-- more fuel than the text is long tells nothing else -/
theorem value_fuel : ∀ f : Nat, (∀ most b g, 2 * b.length + 1 ≤ f → f ≤ g → valueF g most b = valueF f most b) ∧ (∀ most b g, 2 * b.length + 2 ≤ f → f ≤ g → itemsF g most b = itemsF f most b) ∧ (∀ most b g, 2 * b.length + 2 ≤ f → f ≤ g → membersF g most b = membersF f most b) := by
  intro f
  induction f with
  | zero => exact ⟨fun _ _ _ h => by omega, fun _ _ _ h => by omega, fun _ _ _ h => by omega⟩
  | succ f ih =>
    obtain ⟨ihv, ihi, ihm⟩ := ih
    refine ⟨?_, ?_, ?_⟩
    · intro most b g hf hg
      obtain ⟨g, rfl⟩ : ∃ g', g = g' + 1 := ⟨g - 1, by omega⟩
      have hbl := blanks_len b
      unfold valueF
      cases hb : blanksF b with
      | nil => rfl
      | cons c t =>
        rw [hb, List.length_cons] at hbl
        have htl := blanks_len t
        simp only
        cases ht : blanksF t with
        | nil => rfl
        | cons d t1 =>
          rw [ht] at htl
          simp only
          rw [ihi (most - 1) (d :: t1) g (by omega) (by omega), ihm (most - 1) (d :: t1) g (by omega) (by omega)]
    · intro most b g hf hg
      obtain ⟨g, rfl⟩ : ∃ g', g = g' + 1 := ⟨g - 1, by omega⟩
      unfold itemsF
      rw [ihv most b g (by omega) (by omega)]
      cases hv : valueF f most b with
      | none => rfl
      | some z =>
        obtain ⟨v, t⟩ := z
        have lv := (value_len f).1 _ _ _ _ hv
        have htl := blanks_len t
        simp only
        cases ht : blanksF t with
        | nil => rfl
        | cons c t1 =>
          rw [ht, List.length_cons] at htl
          simp only
          rw [ihi most t1 g (by omega) (by omega)]
    · intro most b g hf hg
      obtain ⟨g, rfl⟩ : ∃ g', g = g' + 1 := ⟨g - 1, by omega⟩
      have hb0 := blanks_len b
      unfold membersF
      cases hk : stringF (blanksF b) with
      | none => rfl
      | some z =>
        obtain ⟨k, b1⟩ := z
        have hk1 := string_len _ _ _ hk
        have hb1 := blanks_len b1
        simp only
        cases hm : mustF [58] (blanksF b1) with
        | none => rfl
        | some b2 =>
          have hm1 := must_len _ _ _ hm
          simp only
          rw [ihv most b2 g (by omega) (by omega)]
          cases hv : valueF f most b2 with
          | none => rfl
          | some z =>
            obtain ⟨v, t⟩ := z
            have lv := (value_len f).1 _ _ _ _ hv
            have htl := blanks_len t
            simp only
            cases ht : blanksF t with
            | nil => rfl
            | cons c t1 =>
              rw [ht, List.length_cons] at htl
              simp only
              rw [ihm most t1 g (by omega) (by omega)]
end Go.Proofs.YtiadfijeglbdlaaDoor
