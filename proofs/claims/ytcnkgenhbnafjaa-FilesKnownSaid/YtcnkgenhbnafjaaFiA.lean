/-
  Package files: a disk in memory, what it keeps, its names. Conditions: those in each statement.
-/
import Derived.Test.YtcnkgenhbnafjaaGnA
import Derived.StillTailTactics
import Derived.Deep.DeepCutAuto
import Derived.Deep.CutBlock
import Derived.Deep.RegionHeld3
import Derived.PlainAid
import Derived.Laws.Cover3
import Derived.BigQuiet
import Derived.Deep.QuietTactic
namespace Go.Proofs.Ytcnkgenhbnafjaa
open Go.RowKit

theorem ret_val {a b : Value} (h : a = b) : Ending.returned a = .returned b := by rw [h]
theorem bt : BT Try.prog 31 5 := ⟨by kernel_rfl, by kernel_rfl, by kernel_rfl⟩
/-- a file: its name, its block, its bytes' slice, its bytes, how many last -/
structure FS where
  name : ByteArray
  fb : Nat
  dv : Value
  data : List UInt8
  lasts : Nat
def ent (f : FS) : Value × Value := (.string f.name, .pointer (some ⟨f.fb, 0, none⟩))
def total (fs : List FS) : Nat := (fs.map fun f => f.data.length).sum
/-- a file in memory -/
structure IsF (w : World) (B : Nat) (f : FS) : Prop where
  arr : Arr w f.fb 71 [f.dv, .int .i64 (f.lasts : Int)]
  row : Own w B 5 f.dv f.data
  le : f.lasts ≤ f.data.length
  base : B ≤ f.fb
/-- a disk's blocks -/
def foot (r m : Nat) (fs : List FS) (k : Nat) : Prop := k = r ∨ k = m ∨ ∃ f ∈ fs, k = f.fb ∨ f.dv.ownBlock = some k
/-- a disk in memory -/
structure IsD (w : World) (B r m : Nat) (fs : List FS) (t quota fuse : Nat) (off : Bool) : Prop where
  arr : Arr w r 63 [.map (some m), .int .i64 (t : Int), .int .i64 (quota : Int), .int .i64 (fuse : Int), .bool off]
  map : MapR GStr w m (fs.map ent)
  names : (fs.map FS.name).Nodup
  blocks : (fs.map FS.fb).Nodup
  file : ∀ f ∈ fs, IsF w B f
  rows : fs.Pairwise (fun f g => ∀ k, f.dv.ownBlock = some k → g.dv.ownBlock ≠ some k)
  base : B ≤ r ∧ B ≤ m
theorem mapS {w w' : World} {m : Nat} {ps : List (Value × Value)} (h : MapR GStr w m ps) (hb : w'.heap[m]? = w.heap[m]?) : MapR GStr w' m ps := by
  obtain ⟨es, clock, h1, h2, h3, h4⟩ := h
  exact ⟨es, clock, hb.trans h1, h2, h3, h4⟩
theorem own_lt {w : World} {B : Nat} {v : Value} {xs : List UInt8} (h : Own w B 5 v xs) {k : Nat} (hk : v.ownBlock = some k) : B ≤ k ∧ k < w.heap.size := by
  unfold Own at h
  exact World.ownsRow.lt h k hk
theorem Own.by' {w w' : World} {B : Nat} {v : Value} {xs : List UInt8} (h : Own w B 5 v xs) (hb : ∀ k, v.ownBlock = some k → w'.heap[k]? = w.heap[k]?) : Own w' B 5 v xs := by
  obtain ⟨h1, ⟨rfl, hn⟩ | ⟨g, cap, cur, rfl, hbb, hg, r⟩⟩ := h
  · exact ⟨h1, .inl ⟨rfl, hn⟩⟩
  · exact ⟨h1, .inr ⟨g, cap, cur, rfl, hbb, by rw [hb g rfl]; exact hg, r⟩⟩
theorem IsF.kept {w w' : World} {B : Nat} {f : FS} (h : IsF w B f) (h1 : w'.heap[f.fb]? = w.heap[f.fb]?) (h2 : ∀ k, f.dv.ownBlock = some k → w'.heap[k]? = w.heap[k]?) : IsF w' B f :=
  ⟨by unfold Arr; rw [h1]; exact h.arr, h.row.by' h2, h.le, h.base⟩
theorem IsD.kept {w w' : World} {B r m : Nat} {fs : List FS} {t q u : Nat} {o : Bool} (h : IsD w B r m fs t q u o) (hb : ∀ k, foot r m fs k → w'.heap[k]? = w.heap[k]?) : IsD w' B r m fs t q u o :=
  ⟨by unfold Arr; rw [hb r (.inl rfl)]; exact h.arr, mapS h.map (hb m (.inr (.inl rfl))), h.names, h.blocks,
   fun f hf => (h.file f hf).kept (hb _ (.inr (.inr ⟨f, hf, .inl rfl⟩))) fun k hk => hb k (.inr (.inr ⟨f, hf, .inr hk⟩)), h.rows, h.base⟩
theorem IsD.lt {w : World} {B r m : Nat} {fs : List FS} {t q u : Nat} {o : Bool} (h : IsD w B r m fs t q u o) {k : Nat} (hk : foot r m fs k) : k < w.heap.size ∧ B ≤ k := by
  rcases hk with rfl | rfl | ⟨f, hf, rfl | hk⟩
  · exact ⟨h.arr.lt, h.base.1⟩
  · exact ⟨h.map.lt, h.base.2⟩
  · exact ⟨(h.file f hf).arr.lt, (h.file f hf).base⟩
  · have := own_lt (h.file f hf).row hk
    exact ⟨this.2, this.1⟩
theorem IsD.to {w w' : World} {B r m : Nat} {fs : List FS} {t q u : Nat} {o : Bool} (h : IsD w B r m fs t q u o) (hb : Below w.heap.size w w') : IsD w' B r m fs t q u o :=
  h.kept fun k hk => hb.block k (h.lt hk).1
theorem IsD.kb {Z : Nat → Prop} {w w' : World} {B r m : Nat} {fs : List FS} {t q u : Nat} {o : Bool} (h : IsD w B r m fs t q u o) (hb : KB Z w w') (hz : ∀ k, foot r m fs k → ¬ Z k) : IsD w' B r m fs t q u o :=
  h.kept fun k hk => hb.block k (h.lt hk).1 (hz k hk)
/-- the cells of a disk -/
theorem IsD.cells {w : World} {B r m : Nat} {fs : List FS} {t q u : Nat} {o : Bool} (h : IsD w B r m fs t q u o) :
    w.cell? ⟨r, 0, none⟩ = some (.map (some m)) ∧ w.cell? ⟨r, 1, none⟩ = some (.int .i64 (t : Int)) ∧ w.cell? ⟨r, 2, none⟩ = some (.int .i64 (q : Int)) ∧ w.cell? ⟨r, 3, none⟩ = some (.int .i64 (u : Int)) ∧ w.cell? ⟨r, 4, none⟩ = some (.bool o) := by
  have := h.arr.cell
  exact ⟨this 0, this 1, this 2, this 3, this 4⟩

set_option maxRecDepth 100000 in
theorem is_any (w : World) (B r m : Nat) (fs : List FS) (t q u : Nat) (o : Bool) (h : IsD w B r m fs t q u o) : Calls Try.prog 50 #[.pointer (some ⟨r, 0, none⟩)] w fun e w' => e = .returned (.bool true) ∧ w = w' := by
  obtain ⟨c0, -, -, -, -⟩ := h.cells
  have hn : (binOp .neq 61 (.map (some m)) (.map none)).run Try.prog w = .ok (.bool true) w := run_neq_map_nil w _ _ _ (some m) Try.underlying61
  clear h
  go_enter Try.func50, Try.ntmps50
  go_wp2
  go_ret
  exact ⟨rfl, rfl⟩
set_option maxRecDepth 100000 in
theorem is_none (w : World) : Calls Try.prog 50 #[.pointer none] w fun e w' => e = .returned (.bool false) ∧ w = w' := by
  go_enter Try.func50, Try.ntmps50
  go_wp2
  go_ret
  exact ⟨rfl, rfl⟩
def mayB (c : UInt8) : Bool := (decide (97 ≤ c.toNat) && decide (c.toNat ≤ 122)) || (decide (48 ≤ c.toNat) && decide (c.toNat ≤ 57)) || (decide (45 ≤ c.toNat) && decide (c.toNat ≤ 46))
set_option linter.unusedSimpArgs false in
set_option maxRecDepth 100000 in
theorem mayStand_any (c : UInt8) (w : World) : Calls Try.prog 59 #[.int .u8 (c.toNat : Int)] w fun e w' => e = .returned (.bool (mayB c)) ∧ w = w' := by
  have h := c.toNat_lt
  unfold mayB
  generalize c.toNat = n at *
  by_cases h1 : 97 ≤ n <;> by_cases h2 : n ≤ 122 <;> by_cases h3 : 48 ≤ n <;> by_cases h4 : n ≤ 57 <;> by_cases h5 : 45 ≤ n <;> by_cases h6 : n ≤ 46 <;> first | (exfalso; omega) | skip
  all_goals
    simp only [h1, h2, h3, h4, h5, h6, decide_true, decide_false, Bool.and_true, Bool.and_false, Bool.or_true, Bool.or_false, Bool.true_and, Bool.false_and]
    go_enter Try.func59, Try.ntmps59
    go_wp2
    go_ret
    refine ⟨ret_val ?_, rfl⟩
    first | rfl | (show Value.bool _ = Value.bool _; congr 1; simp <;> omega)
/-- whether a name may be -/
def nameB (s : ByteArray) : Bool := decide (1 ≤ s.size) && decide (s.size ≤ 32) && s.data.toList.all mayB
theorem str_index {P : Program} {t : TypeId} (ht : P.underlying t = some .string) (s : ByteArray) (i : Nat) (h : i < s.size) (w : World) :
    (Instr.index t (.string s) (.int .i64 (i : Int))).run P w = .ok (.int .u8 ((s.data.toList.getD i 0).toNat : Int)) w := by
  rw [run_index_string _ _ _ _ _ ht, dif_pos ⟨by omega, by omega⟩]
  congr 3
  simp only [Int.toNat_natCast]
  have hl : s.data.toList.length = s.size := Array.length_toList
  rw [List.getD, List.getElem?_eq_getElem (by omega)]
  rfl
set_option maxRecDepth 100000 in
theorem isName_any (s : ByteArray) (w : World) (hs : s.size ≤ 140737488355328) : Calls Try.prog 54 #[.string s] w fun e w' => e = .returned (.bool (nameB s)) ∧ w = w' := by
  have hl : s.data.toList.length = s.size := Array.length_toList
  by_cases h1 : 1 ≤ s.size
  · by_cases h2 : s.size ≤ 32
    · go_enter Try.func54, Try.ntmps54
      go_wp2_with fail
      go_loop [14] (fun i => ∃ k : Nat, k ≤ s.size ∧ i = .int .i64 k ∧ (s.data.toList.take k).all mayB = true) (fun i => s.size - (intOf i).toNat)
      case atStart => exact ⟨0, by omega, rfl, rfl⟩
      case round =>
        obtain ⟨k, hk, rfl, ha⟩ := hrel
        by_cases hlt : k < s.size
        · have hi := fun w => str_index (P := Try.prog) Try.underlying9 s k hlt w
          have hm := fun w => mayStand_any (s.data.toList.getD k 0) w
          have htk : (s.data.toList.take (k + 1)).all mayB = mayB (s.data.toList.getD k 0) := by
            rw [List.take_add_one, List.all_append, ha, Bool.true_and, List.getD, List.getElem?_eq_getElem (by omega)]
            simp
          have HA := Lib.hid ha
          obtain ⟨c, hc⟩ : ∃ c, c = s.data.toList.getD k 0 := ⟨_, rfl⟩
          rw [← hc] at hi hm htk
          have HT := Lib.hid htk
          have hall : Hid (nameB s = true → mayB c = true) := fun h => by
            unfold nameB at h
            simp only [Bool.and_eq_true, List.all_eq_true] at h
            refine h.2 c ?_
            rw [hc, List.getD, List.getElem?_eq_getElem (by omega)]
            exact List.getElem_mem _
          clear ha hc htk
          cases hb : mayB c with
          | true =>
            rw [hb] at hm
            go_wp2_with (go_at_call 59; refine (hm _).mono ?_; rintro e w' ⟨rfl, rfl⟩)
            go_roundw
            case rel => exact ⟨k + 1, by omega, by go_num, by rw [HT.out, hb]⟩
            case measure => simp [intOf]; omega
          | false =>
            rw [hb] at hm
            go_wp2_with (go_at_call 59; refine (hm _).mono ?_; rintro e w' ⟨rfl, rfl⟩)
            go_ret
            refine ⟨ret_val ?_, rfl⟩
            cases hn : nameB s with
            | false => rfl
            | true => exact absurd (hall.out hn) (by rw [hb]; simp)
        · obtain rfl : k = s.size := by omega
          have hn : nameB s = true := by
            unfold nameB
            rw [decide_eq_true h1, decide_eq_true h2]
            rwa [List.take_of_length_le (by omega)] at ha
          clear ha
          go_wp2_with fail
          go_ret
          exact ⟨rfl, rfl⟩
    · have hn : nameB s = false := by unfold nameB; simp [h2]
      rw [hn]
      go_enter Try.func54, Try.ntmps54
      go_wp2_with fail
      go_ret
      exact ⟨rfl, rfl⟩
  · have hn : nameB s = false := by unfold nameB; simp [h1]
    rw [hn]
    have h0 : s.size = 0 := by omega
    go_enter Try.func54, Try.ntmps54
    go_wp2_with fail
    go_ret
    exact ⟨rfl, rfl⟩
end Go.Proofs.Ytcnkgenhbnafjaa
