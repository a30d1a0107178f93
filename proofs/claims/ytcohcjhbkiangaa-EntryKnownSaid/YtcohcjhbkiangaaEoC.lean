/-
  The statements' helper that spoils what was answered: its contract. Conditions: those in each statement.
-/
import Derived.Test.YtcohcjhbkiangaaEoA
import Derived.Test.YtcohcjhbkiangaaEnL
import Derived.ArgAppend
namespace Go.Proofs.Ytcohcjhbkiangaa
open Go.RowKit

theorem Own.poke {w : World} {B : Nat} {v : Value} {xs : List UInt8} (h : Own w B 5 v xs) (g i : Nat) (x : UInt8) : ∃ xs' : List UInt8, xs'.length = xs.length ∧ Own (w.setCell ⟨g, i, none⟩ (.int .u8 (x.toNat : Int))) B 5 v xs' := by
  obtain ⟨h1, h2 | ⟨g', cap, cur, e, hbb, hg, r2⟩⟩ := h
  · exact ⟨xs, rfl, h1, .inl h2⟩
  · by_cases hgg : g' = g
    · subst hgg
      have h : Own w B 5 v xs := ⟨h1, .inr ⟨g', cap, cur, e, hbb, hg, r2⟩⟩
      subst e
      have := Own.stored h i x
      exact ⟨xs.set i x, by simp, this⟩
    · exact ⟨xs, rfl, h1, .inr ⟨g', cap, cur, e, hbb, by rw [heap_setCell_other w ⟨g, i, none⟩ g' _ (by simpa using hgg)]; exact hg, r2⟩⟩
/-- a chain of the call's own, its row told -/
def OwnV (w : World) (B : Nat) (v : Value) (vs : List Value) (xss : List (List UInt8)) : Prop :=
  w.ownsRow B 27 1 v vs.length vs ∧ vs.length = xss.length ∧ ∀ j, j < xss.length → Own w B 5 (vs.getD j undef) (xss.getD j [])
theorem OwnV.to {w w' : World} {B : Nat} {v : Value} {vs : List Value} {xss : List (List UInt8)} (h : OwnV w B v vs xss) (hb : Below w.heap.size w w') : OwnV w' B v vs xss := by
  obtain ⟨h1, h2, h3⟩ := h
  exact ⟨row_to h1 hb, h2, fun j hj => (h3 j hj).to hb⟩
theorem OwnV.poke {w : World} {B : Nat} {v : Value} {vs : List Value} {xss : List (List UInt8)} (h : OwnV w B v vs xss) {g n cap : Nat} {xs : List UInt8} (hx : Own w B 5 (.slice (some ⟨g, 0, none⟩) n cap) xs) (i : Nat) (x : UInt8) :
    ∃ xss' : List (List UInt8), xss'.length = xss.length ∧ (∀ j, (xss'.getD j []).length = (xss.getD j []).length) ∧ OwnV (w.setCell ⟨g, i, none⟩ (.int .u8 (x.toNat : Int))) B v vs xss' := by
  obtain ⟨h1, h2, h3⟩ := h
  have hne := rowC_ne hx h1
  have hg : w.grownBy (w.setCell ⟨g, i, none⟩ (.int .u8 (x.toNat : Int))) (some g) := setCells_grown g [.int .u8 (x.toNat : Int)] w i
  have h1' := World.ownsRow.kept h1 hg (by
    rcases hne with h | h
    · simp [Value.ownBlock] at h
    · right; intro e; exact h (by rw [e]; rfl))
  have key : ∃ X : Nat → List UInt8, ∀ j, j < xss.length → (X j).length = (xss.getD j []).length ∧ Own (w.setCell ⟨g, i, none⟩ (.int .u8 (x.toNat : Int))) B 5 (vs.getD j undef) (X j) := by
    refine ⟨fun j => if h : j < xss.length then ((h3 j h).poke g i x).choose else [], fun j hj => ?_⟩
    have := ((h3 j hj).poke g i x).choose_spec
    simpa only [hj, dif_pos] using this
  obtain ⟨X, hX⟩ := key
  refine ⟨(List.range xss.length).map X, by simp, fun j => ?_, h1', by simp [h2], fun j hj => ?_⟩
  · by_cases hj : j < xss.length
    · have := (hX j hj).1
      simpa [List.getD, hj] using this
    · simp [List.getD, hj]
  · have hj' : j < xss.length := by simpa using hj
    have := (hX j hj').2
    simpa [List.getD, hj'] using this

/-- what spoiling leaves: only blocks from B to C are touched -/
structure Mid (B C : Nat) (w w' : World) : Prop where
  low : Below B w w'
  high : ∀ k, C ≤ k → w'.heap[k]? = w.heap[k]?
def SpI (w : World) (B C : Nat) (v : Value) (vs : List Value) (wr : World) : Prop := ∃ xss : List (List UInt8), OwnV wr B v vs xss ∧ Mid B C w wr ∧ ∀ j, (xss.getD j []).length ≤ 140737488355328
theorem xor_byte (x : UInt8) : bits BinOp.xor IntKind.u8 ((x.toNat : Nat) : Int) 255 = (((x ^^^ 255).toNat : Nat) : Int) := by
  revert x
  have : ∀ n : Fin 256, bits BinOp.xor IntKind.u8 (((UInt8.ofNat n.val).toNat : Nat) : Int) 255 = (((UInt8.ofNat n.val ^^^ 255).toNat : Nat) : Int) := by decide +kernel
  intro x
  have h := this ⟨x.toNat, x.toNat_lt⟩
  simpa using h

set_option maxHeartbeats 1000000 in
theorem spoil_any (B : Nat) (a : Option Addr) (n cap : Nat) (xss : List (List UInt8)) (w0 w : World) (hO : OwnC w0 B (.slice a n cap) xss) (hb : Below w0.heap.size w0 w) (hn : n ≤ 70368744177664) (hl : ∀ x ∈ xss, x.length ≤ 140737488355328) :
    Calls Try.prog 25 #[.slice a n cap] w fun e w' => e = .returned (.tuple #[]) ∧ Mid B w0.heap.size w w' := by
  have hln := hO.len
  obtain ⟨vs, k1, k2, k3⟩ := hO
  have hup : ∀ j, j < vs.length → ∀ g, (vs.getD j undef).ownBlock = some g → g < w0.heap.size := fun j hj g hg => (World.ownsRow.lt (k3 j (by omega)) g hg).2
  obtain rfl : n = vs.length := by omega
  have HUP := Lib.hid hup
  have hst : SpI w B w0.heap.size (.slice a vs.length cap) vs w := ⟨xss, OwnV.to ⟨k1, k2, k3⟩ hb, ⟨Below.refl _ _, fun _ _ => rfl⟩, fun j => by
    by_cases hj : j < xss.length
    · exact hl _ (by simp [List.getD, hj])
    · simp [List.getD, hj]⟩
  generalize w0.heap.size = C at *
  clear hln hl k1 k2 k3 hb hup
  go_enter Try.func25, Try.ntmps25
  go_wp2_with fail
  go_loopw [7] (fun i wr => ∃ k : Nat, k ≤ vs.length ∧ i = .int .i64 k ∧ SpI w B C (.slice a vs.length cap) vs wr) (fun i _ => vs.length - (intOf i).toNat)
  case atStart => exact ⟨0, Nat.zero_le _, rfl, hst⟩
  case round =>
    obtain ⟨k, hk, rfl, yss, hO, hbr, hlen⟩ := hrel
    by_cases hlt : k < vs.length
    · have hO' := Lib.hid hO
      obtain ⟨h1, h2, h3⟩ := hO
      obtain ⟨g, cap', e⟩ := row_form h1 (by omega)
      cases e
      have hcl : wr.cell? ⟨g, k, none⟩ = some (vs.getD k undef) := by
        rw [World.ownsRow.cellAt h1 k (by omega)]
        simp [List.getD, hlt]
      have hk3 := h3 k (by omega)
      have hlk := hlen k
      have hupk := Lib.hid (HUP.out k hlt)
      obtain ⟨ak, nk, ck, e, hrk⟩ := hk3.reads
      rw [e] at hcl hk3 hupk
      have hnk : nk ≤ 140737488355328 := by have := hrk.len; omega
      have hin : ∃ X : List UInt8, X.length = nk ∧ Own wr B 5 (.slice ak nk ck) X ∧ SpI w B C (.slice (some ⟨g, 0, none⟩) vs.length cap) vs wr := ⟨_, hrk.len, hk3, yss, hO'.out, hbr, hlen⟩
      clear h1 h2 h3 hk3 hrk hO' hlk hlen e
      go_wp2_with fail
      go_loopw [13] (fun i wr => ∃ m : Nat, m ≤ nk ∧ i = .int .i64 m ∧ ∃ X : List UInt8, X.length = nk ∧ Own wr B 5 (.slice ak nk ck) X ∧ SpI w B C (.slice (some ⟨g, 0, none⟩) vs.length cap) vs wr) (fun i _ => nk - (intOf i).toNat)
      case atStart => exact ⟨0, Nat.zero_le _, rfl, hin⟩
      case round =>
        obtain ⟨m, hm, rfl, X, hX, hox, zss, hOz, hbz, hlz⟩ := hrel
        by_cases hmt : m < nk
        · obtain ⟨g2, c2, e, -, -, -⟩ := hox.solid (by omega)
          rw [hX] at e
          cases e
          have hc := Own.cellAt hox m hmt
          have hf := Own.frozenAt hox m
          have hx1 := xor_byte (X.getD m 0)
          generalize X.getD m 0 = y at *
          obtain ⟨X', hX', hox'⟩ := hox.poke g2 m (y ^^^ 255)
          obtain ⟨zss', hz1, hz2, hOz'⟩ := hOz.poke hox m (y ^^^ 255)
          have hgC : g2 < C := hupk.out g2 rfl
          have hbz' : Mid B C w (wr.setCell ⟨g2, m, none⟩ (.int .u8 ((y ^^^ 255).toNat : Int))) := by
            have hg2 := hox.base.1
            refine ⟨hbz.low.grown (setCells_grown g2 [.int .u8 ((y ^^^ 255).toNat : Int)] wr m) (by have := hox.base; omega) (by intro k hk; cases hk; exact hg2), fun k hk => ?_⟩
            rw [heap_setCell_other wr ⟨g2, m, none⟩ k _ (by show k ≠ g2; omega)]
            exact hbz.high k hk
          have HF : Hid (SpI w B C (.slice (some ⟨g, 0, none⟩) vs.length cap) vs (wr.setCell ⟨g2, m, none⟩ (.int .u8 ((y ^^^ 255).toNat : Int)))) := ⟨zss', hOz', hbz', fun j => by rw [hz2 j]; exact hlz j⟩
          have HX : Hid (X'.length = nk) := by show _ = _; omega
          have HO := Lib.hid hox'
          clear hox hox' hOz hOz' hbz hbz' hX hX' hz1 hz2 hlz hin hgC
          go_wp2_with fail
          go_roundw
          case rel => exact ⟨m + 1, by omega, by go_num, X', HX.out, HO.out, HF.out⟩
          case measure => simp [intOf]; omega
        · obtain rfl : m = nk := by omega
          have HF : Hid (SpI w B C (.slice (some ⟨g, 0, none⟩) vs.length cap) vs wr) := ⟨zss, hOz, hbz, hlz⟩
          clear hox hOz hbz hX hlz hin
          go_wp2_with fail
          go_roundw
          case rel => exact ⟨k + 1, by omega, by go_num, HF.out⟩
          case measure => simp [intOf]; omega
    · obtain rfl : k = vs.length := by omega
      clear hO hlen
      go_wp2_with fail
      go_end0
      exact ⟨rfl, hbr⟩

theorem OwnC.hi {w w' : World} {B C : Nat} {v : Value} {xss : List (List UInt8)} (h : OwnC w B v xss) (hk : ∀ k, C ≤ k → w'.heap[k]? = w.heap[k]?) (hC : C ≤ B) : OwnC w' B v xss := by
  have row : ∀ {E : TypeId} {v : Value} {n : Nat} {xs : List Value}, w.ownsRow B E 1 v n xs → w'.ownsRow B E 1 v n xs := by
    intro E v n xs h
    obtain ⟨h1, h2 | ⟨g, cap, cur, rfl, hbb, hg, r2⟩⟩ := h
    · exact ⟨h1, .inl h2⟩
    · exact ⟨h1, .inr ⟨g, cap, cur, rfl, hbb, by rw [hk g (by omega)]; exact hg, r2⟩⟩
  obtain ⟨vs, h1, h2, h3⟩ := h
  exact ⟨vs, row h1, h2, fun j hj => row (h3 j hj)⟩
theorem Arr.hi {w w' : World} {C g : Nat} {T : TypeId} {xs : List Value} (h : Arr w g T xs) (hk : ∀ k, C ≤ k → w'.heap[k]? = w.heap[k]?) (hC : C ≤ g) : Arr w' g T xs := by
  unfold Arr; rw [hk g hC]; exact h

section
variable {ops : Array Oper} {rest : List Oper} {o : Oper} {a : Act} {K : Act → World → Prop} {Q : Exit → Act → World → Prop} {w : World}
/-- append of bytes onto an empty slice without room: nothing that there was is turned -/
theorem ow_append0 (d s : Operand) (ho : o.op = .call { callee := .builtin .append, args := #[d, s], argTypes := #[27, 27] }) (g : Nat) (hd : a.eval d = .slice (some ⟨g, 0, none⟩) 0 0)
    (sp : Option Addr) (sLen sCap : Nat) (xs : List UInt8) (hs : a.eval s = .slice sp sLen sCap) (hrd : Rd w sp sLen sCap xs) (hb : sLen ≤ 140737488355328)
    (hK : ∀ a' n' c' w', Rd w' a' n' c' xs → Below w.heap.size w w' → K (a.put o.dst (.slice a' n' c')) w') : Oper.wp Try.prog o a w K Q := by
  obtain ⟨i0, hi, hz0, hz1, hz2⟩ := info_parts bt.info
  have hln := hrd.len
  have empty : xs = [] → Rd w (some ⟨g, 0, none⟩) 0 0 xs := by rintro rfl; exact ⟨rfl, Nat.le_refl _, by (intro e; cases e), by intro h; omega⟩
  cases sp with
  | none =>
    have h0 : sCap = 0 := hrd.nil rfl
    obtain rfl : sLen = 0 := by have := hrd.le; omega
    subst h0
    have hx : xs = [] := List.eq_nil_of_length_eq_zero hln
    have hrun : (Builtin.append_ #[27, 27] o.type #[.slice (some ⟨g, 0, none⟩) 0 0, .slice none 0 0]).run Try.prog w = .ok (.slice (some ⟨g, 0, none⟩) 0 0) w := by
      simp [Builtin.append_, run_underlying bt.sl, sizeOf, typeInfo, hi, Builtin.lenOf, Builtin.firstCells, storeCells]
    unfold Oper.wp
    simp [execOp, ho, resolve, invoke, builtin, hd, hs, hrun, Result.andThen]
    exact hK _ _ _ _ (empty hx) (Below.refl _ _)
  | some ad =>
    by_cases h0 : sLen = 0
    · subst h0
      have hx : xs = [] := List.eq_nil_of_length_eq_zero hln
      have hrun := run_append_room_cells (P := Try.prog) w 27 o.type 5 i0 bt.sl hi g 0 0 0 ad 0 sCap [] (by simp) (by simp) (by simp) (by omega) (by simp) (by simp)
      unfold Oper.wp
      simp [execOp, ho, resolve, invoke, builtin, hd, hs, hrun, Result.andThen]
      exact hK _ _ _ _ (empty hx) (Below.refl _ _)
    · obtain ⟨v', w', hrun, r1, r2⟩ := run_append_arg_grows (P := Try.prog) (w := w) 27 o.type 5 i0 _ 1 1 bt.sl hi hz0 hz1 hz2 rfl (by decide) ⟨g, 0, none⟩ 0 0 [] (by simp) (by simp) ad sLen sCap (xs.map bv) (by simp [hln]) hrd.cells (by omega) (by unfold maxLen; omega) (by omega)
      have ho' : Own w' w.heap.size 5 v' xs := by
        unfold Own
        rw [hln]
        simpa using r1
      obtain ⟨a', n', c', rfl, hr'⟩ := ho'.reads
      unfold Oper.wp
      simp [execOp, ho, resolve, invoke, builtin, hd, hs, hrun, Result.andThen]
      exact hK _ _ _ _ hr'.toRd ((Below.refl _ _).grown r2 (Nat.le_refl _) (by intro k hk; cases hk))
theorem wl_append0 (hgd : o.guard = none) (d s : Operand) (ho : o.op = .call { callee := .builtin .append, args := #[d, s], argTypes := #[27, 27] }) (g : Nat) (hd : a.eval d = .slice (some ⟨g, 0, none⟩) 0 0)
    (sp : Option Addr) (sLen sCap : Nat) (xs : List UInt8) (hs : a.eval s = .slice sp sLen sCap) (hrd : Rd w sp sLen sCap xs) (hb : sLen ≤ 140737488355328)
    (hK : ∀ a' n' c' w', Rd w' a' n' c' xs → Below w.heap.size w w' → wpList Try.prog ops Q rest (a.put o.dst (.slice a' n' c')) w') : wpList Try.prog ops Q (o :: rest) a w :=
  wpList_plain hgd fun _ hK' => ow_append0 d s ho g hd sp sLen sCap xs hs hrd hb fun a' n' c' w' h1 h2 => hK' _ _ (hK a' n' c' w' h1 h2)
end
end Go.Proofs.Ytcohcjhbkiangaa
