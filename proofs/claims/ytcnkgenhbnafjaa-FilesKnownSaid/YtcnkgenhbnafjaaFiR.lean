/-
  A disk with two files, a and b: the calls on it. Conditions: those in each statement.
-/
import Derived.Test.YtcnkgenhbnafjaaFiQ
namespace Go.Proofs.Ytcnkgenhbnafjaa
open Go.RowKit

abbrev nB : ByteArray := ⟨#[98]⟩
/-- the file that is named: a or b -/
def nm : Bool → ByteArray
  | false => nA
  | true => nB
theorem nm_name (b : Bool) : nameB (nm b) = true := by cases b <;> decide
def pick2 (b : Bool) (f0 f1 : FS) : FS := match b with
  | false => f0
  | true => f1
/-- a disk with the files a and b -/
def Two (w : World) (B r m : Nat) (d : Bool → List UInt8) (q : Nat) : Prop :=
  ∃ f0 f1 : FS, f0.name = nA ∧ f1.name = nB ∧ f0.data = d false ∧ f1.data = d true ∧ IsD w B r m [f0, f1] ((d false).length + (d true).length) q 0 false
theorem Two.to {w w' : World} {B r m q : Nat} {d : Bool → List UInt8} (h : Two w B r m d q) (hb : Below w.heap.size w w') : Two w' B r m d q := by
  obtain ⟨f0, f1, h1, h2, h3, h4, h⟩ := h
  exact ⟨f0, f1, h1, h2, h3, h4, h.to hb⟩
theorem Two.base {w : World} {B r m q : Nat} {d : Bool → List UInt8} (h : Two w B r m d q) : B ≤ w.heap.size := by
  obtain ⟨f0, f1, -, -, -, -, h⟩ := h
  exact disk_base h
theorem at2 (b : Bool) {f0 f1 : FS} (h0 : f0.name = nA) (h1 : f1.name = nB) : atF [f0, f1] (nm b) = some (pick2 b f0 f1) := by
  have hne : ¬ nA = nB := by decide
  cases b <;> simp [atF, nm, pick2, h0, h1, hne]
def set2 (b : Bool) (f0 f1 g : FS) : List FS := match b with
  | false => [g, f1]
  | true => [f0, g]
theorem upd2 (b : Bool) {f0 f1 g : FS} (h0 : f0.name = nA) (h1 : f1.name = nB) (hg : g.name = nm b) : upd1 [f0, f1] g = set2 b f0 f1 g := by
  have hne : ¬ nA = nB := by decide
  have hne2 : ¬ nB = nA := by decide
  cases b <;> simp [upd1, set2, nm, h0, h1, hg, hne, hne2]
theorem create2 (w : World) (B r m q : Nat) (h : One w B r m nA [] 0 q 0) :
    Calls Try.prog 9 #[.pointer (some ⟨r, 0, none⟩), .string nB] w fun e w' => e = .returned (.int .i64 0) ∧ Two w' B r m (fun _ => []) q ∧ Below B w w' := by
  obtain ⟨fb, dv, h⟩ := h
  have hne : ¬ nA = nB := by decide
  refine (Create_ok w B r m _ 0 q 0 h nB (nm_name true) (by simp [total]) (by omega) (by omega) (.inr (by simp)) (by omega)).mono ?_
  rintro e w' ⟨e1, fb', -, hd, hk⟩
  have hat : atF [⟨nA, fb, dv, [], 0⟩] nB = none := by simp [atF, hne]
  have hdel : del [⟨nA, fb, dv, [], 0⟩] nB = [⟨nA, fb, dv, [], 0⟩] := del_none hat
  rw [hat, hdel] at hd
  exact ⟨e1, ⟨⟨nA, fb, dv, [], 0⟩, fresh nB fb', rfl, rfl, rfl, rfl, hd⟩, hk.under (fun _ e => by have := h.base; omega) (disk_base h)⟩
/-- the bytes of one of them are more -/
def put2 (b : Bool) (d : Bool → List UInt8) (xs : List UInt8) : Bool → List UInt8 := fun c => if c = b then d c ++ xs else d c
theorem put2_len (b : Bool) (d : Bool → List UInt8) (xs : List UInt8) : (put2 b d xs false).length + (put2 b d xs true).length = (d false).length + (d true).length + xs.length := by
  cases b <;> simp [put2] <;> omega
theorem append2 (W w : World) (B r m q : Nat) (b : Bool) (d : Bool → List UInt8) (h : Two W B r m d q) (p : Option Addr) (n cap : Nat) (xs : List UInt8) (hr : Rd w p n cap xs) (hb : Below W.heap.size W w)
    (hra : ∀ ad, p = some ad → 0 < n → ∀ j, B ≤ j → j < W.heap.size → ad.block ≠ j) (hq : q ≤ 140737488355328) (hfit : n = 0 ∨ (d false).length + (d true).length + n ≤ q) (hd : (d false).length + (d true).length ≤ q) :
    Calls Try.prog 11 #[.pointer (some ⟨r, 0, none⟩), .string (nm b), .slice p n cap] w fun e w' => e = .returned (.int .i64 0) ∧ Two w' B r m (put2 b d xs) q ∧ Below B w w' ∧ (∀ j, W.heap.size ≤ j → j < w.heap.size → w'.heap[j]? = w.heap[j]?) ∧ ∀ w2 : World, (∀ j, j < w'.heap.size → (j < W.heap.size ∨ w.heap.size ≤ j) → w2.heap[j]? = w'.heap[j]?) → Two w2 B r m (put2 b d xs) q := by
  obtain ⟨f0, f1, h0, h1, g0, g1, h⟩ := h
  have hl := hr.len
  have h' := h.to hb
  have hpl : (pick2 b f0 f1).data.length ≤ (d false).length + (d true).length := by cases b <;> simp [pick2, g0, g1]
  refine (Append_ok w B r m _ _ q 0 h' (nm b) (nm_name b) _ (at2 b h0 h1) p n cap xs hr (fun ad e hn hf => ?_) (by omega) (by omega) (by omega) (by omega) hfit (by omega)).mono ?_
  · have h2 := h.lt hf
    exact hra ad e hn _ h2.2 h2.1 rfl
  · rintro e w' ⟨e1, v, hd2, hk, hk3⟩
    rw [upd2 b h0 h1 (by cases b <;> assumption)] at hd2
    have hk : KB (foot r m [f0, f1]) w w' := hk.mono (by
      rintro j (e | e)
      · exact .inl e
      · exact .inr (.inr ⟨_, (atF_mem (at2 b h0 h1)).1, e⟩))
    refine ⟨e1, ?_, below_foot h' hk, fun j hj hj2 => hk.block j hj2 fun e => (by have := (h.lt e).1; omega), fun w2 hw2 => ?_⟩
    · unfold Two
      rw [put2_len]
      cases b
      · exact ⟨longer f0 v xs, f1, h0, h1, by simp [put2, g0], by simp [put2, g1], hd2⟩
      · exact ⟨f0, longer f1 v xs, h0, h1, by simp [put2, g0], by simp [put2, g1], hd2⟩
    · have hfar : ∀ j, foot r m (set2 b f0 f1 (longer (pick2 b f0 f1) v xs)) j → j < W.heap.size ∨ w.heap.size ≤ j := by
        intro j hj
        have hold : ∀ j, foot r m [f0, f1] j → j < W.heap.size := fun j hj => (h.lt hj).1
        rcases hj with e | e | ⟨f, hf, e⟩
        · exact .inl (hold j (.inl e))
        · exact .inl (hold j (.inr (.inl e)))
        · have hm : f = longer (pick2 b f0 f1) v xs ∨ f ∈ [f0, f1] := by
            cases b
            · rcases List.mem_cons.1 hf with e | e
              · exact .inl e
              · exact .inr (by rw [List.mem_singleton.1 e]; simp)
            · rcases List.mem_cons.1 hf with e | e
              · exact .inr (by rw [e]; simp)
              · exact .inl (List.mem_singleton.1 e)
          rcases hm with rfl | hm
          · rcases e with e | e
            · exact .inl (hold j (.inr (.inr ⟨_, (atF_mem (at2 b h0 h1)).1, .inl e⟩)))
            · rcases hk3 j e with e | e
              · exact .inl (hold j (.inr (.inr ⟨_, (atF_mem (at2 b h0 h1)).1, .inr e⟩)))
              · exact .inr e
          · exact .inl (hold j (.inr (.inr ⟨f, hm, e⟩)))
      have hd3 := hd2.kept (w' := w2) fun j hj => hw2 j (hd2.lt hj).1 (hfar j hj)
      unfold Two
      rw [put2_len]
      cases b
      · exact ⟨longer f0 v xs, f1, h0, h1, by simp [put2, g0], by simp [put2, g1], hd3⟩
      · exact ⟨f0, longer f1 v xs, h0, h1, by simp [put2, g0], by simp [put2, g1], hd3⟩
theorem appfull2 (W w : World) (B r m q : Nat) (b : Bool) (d : Bool → List UInt8) (h : Two W B r m d q) (p : Option Addr) (n cap : Nat) (xs : List UInt8) (hr : Rd w p n cap xs) (hb : Below W.heap.size W w)
    (hra : ∀ ad, p = some ad → 0 < n → ∀ j, B ≤ j → j < W.heap.size → ad.block ≠ j) (hq : q ≤ 140737488355328) (hd : (d false).length + (d true).length ≤ q) (h0 : 0 < n) (hn : n ≤ 140737488355328) (hfull : q < (d false).length + (d true).length + n) :
    Calls Try.prog 11 #[.pointer (some ⟨r, 0, none⟩), .string (nm b), .slice p n cap] w fun e w' => e = .returned (.int .i64 7) ∧ Two w' B r m d q ∧ Below w.heap.size w w' := by
  obtain ⟨f0, f1, k0, k1, g0, g1, h⟩ := h
  have h' := h.to hb
  refine (Append_full w B r m _ _ q 0 h' (nm b) (nm_name b) _ (at2 b k0 k1) p n cap xs hr (fun ad e hn hf => ?_) (by omega) (by omega) h0 hfull hn).mono ?_
  · have h2 := h.lt hf
    exact hra ad e hn _ h2.2 h2.1 rfl
  · rintro e w' ⟨e1, hb2⟩
    exact ⟨e1, ⟨f0, f1, k0, k1, g0, g1, h'.to hb2⟩, hb2⟩
theorem read2 (w : World) (B r m q : Nat) (b : Bool) (d : Bool → List UInt8) (h : Two w B r m d q) (hd : (d false).length + (d true).length ≤ 140737488355328) :
    Calls Try.prog 19 #[.pointer (some ⟨r, 0, none⟩), .string (nm b)] w fun e w' => ∃ v, e = .returned (.tuple #[v, .int .i64 0]) ∧ Own w' w.heap.size 5 v (d b) ∧ Below w.heap.size w w' := by
  obtain ⟨f0, f1, k0, k1, g0, g1, h⟩ := h
  have e : (pick2 b f0 f1).data = d b := by cases b <;> assumption
  have := Read_ok w B r m _ _ q 0 h (nm b) (nm_name b) _ (at2 b k0 k1) (by rw [e]; cases b <;> omega)
  rwa [e] at this
theorem used2 (w : World) (B r m q : Nat) (d : Bool → List UInt8) (h : Two w B r m d q) : Calls Try.prog 32 #[.pointer (some ⟨r, 0, none⟩)] w fun e w' => e = .returned (.int .i64 (((d false).length + (d true).length : Nat) : Int)) ∧ w = w' := by
  obtain ⟨f0, f1, -, -, -, -, h⟩ := h
  exact Used_any w B r m _ _ q 0 false h
end Go.Proofs.Ytcnkgenhbnafjaa
