/-
  Layer 8: the document's Sub. Conditions: those in each statement.
-/
import Derived.Test.YtpnhflpajccbbaaMkE
namespace Go.Proofs.Ytpnhflpajccbbaa
open Go.RowKit

/-- whether a part may be asked for -/
def okP (n : Nat) (f t : Int) : Bool := decide (0 ≤ f) && decide (f < t) && decide (t ≤ (n : Int))
def subF (L : List (List UInt8)) (f t : Int) : List UInt8 := if okP L.length f t then rootF ((L.drop f.toNat).take (t.toNat - f.toNat)) else Z8 32
def subE (n : Nat) (f t : Int) : Int := if okP n f t then 0 else 1
theorem okP_yes {n : Nat} {f t : Int} (h : okP n f t = true) : ∃ a b : Nat, f = a ∧ t = b ∧ a < b ∧ b ≤ n := by
  simp [okP] at h
  exact ⟨f.toNat, t.toNat, by omega, by omega, by omega, by omega⟩
theorem okP_no {n : Nat} {f t : Int} (h : okP n f t = false) : f < 0 ∨ (0 ≤ f ∧ t ≤ f) ∨ (0 ≤ f ∧ f < t ∧ (n : Int) < t) := by
  simp [okP] at h
  omega
theorem subF_len {L : List (List UInt8)} (h : All32 L) (f t : Int) : (subF L f t).length = 32 := by
  unfold subF
  split
  · exact rootF_len ((h.drop _).take _)
  · simp [Z8]
/-- the end: a result that lies in a block, another value -/
theorem end_cell2 {P : Program} {fn : Func} {R : Ending → World → Prop} {a : Act} {w : World} {p qq : Tmp} {ty : TypeId} (h : fn.results = #[.cell p ty, .tmp qq]) (g : Nat) (T : TypeId) (xs : List Value) (d : TypeDesc) (v : Value)
    (hp : a.tmps.getD p undef = .pointer (some ⟨g, 0, none⟩)) (hA : Arr w g T xs) (hu : P.underlying ty = some d) (hd : (match d with | .struct _ | .array _ _ => true | _ => false) = true) (hi : (P.info? ty).map (·.size) = some xs.length)
    (hq : a.tmps.getD qq undef = v) (hdf : a.defers = []) (hR : R (.returned (.tuple #[.agg xs.toArray, v])) w) : bodyPost P fn R .ret a w := by
  have hr : (results fn a.tmps).run P w = .ok (.tuple #[.agg xs.toArray, v]) w := by
    have hp' : a.tmps[p]?.getD undef = .pointer (some ⟨g, 0, none⟩) := by simpa using hp
    have hq' : a.tmps[qq]?.getD undef = v := by simpa using hq
    have hl := run_loadVar_row (P := P) w g T ty xs.toArray (0, 0) d hA hu hd (by simpa using hi)
    simp [results, h, hp', hq', asAddr, hl]
  exact bodyPost_ret hr hdf hR

set_option maxRecDepth 100000 in
set_option maxHeartbeats 3200000 in
theorem rSub_any (L : List (List UInt8)) (a : Option Addr) (n cap : Nat) (f t : Int) (w : World) (hn : n ≤ 2 ^ 50) (hr : RdD w a n cap L) :
    Calls Try.prog 10 #[.slice a n cap, .int .i64 f, .int .i64 t] w fun e w' => e = .returned (.tuple #[.agg (bvs (subF L f t)).toArray, .int .i64 (subE n f t)]) ∧ Below w.heap.size w w' := by
  have hl := hr.len
  cases hm : okP n f t with
  | false =>
    have e1 : subF L f t = Z8 32 := by simp [subF, hl, hm]
    have e2 : subE n f t = 1 := by simp [subE, hm]
    rw [e1, e2]
    have h32 : Hid ((Try.prog.info? 25).map (·.size) = some (bvs (Z8 32)).length) := sizeD
    have key : ∀ (_ : (decide (f < 0) = true) ∨ (decide (f < 0) = false ∧ decide (t ≤ f) = true) ∨ (decide (f < 0) = false ∧ decide (t ≤ f) = false ∧ decide ((n : Int) < t) = true)), Calls Try.prog 10 #[.slice a n cap, .int .i64 f, .int .i64 t] w fun e w' => e = .returned (.tuple #[.agg (bvs (Z8 32)).toArray, .int .i64 1]) ∧ Below w.heap.size w w' := by
      intro h
      clear hm e1 e2 hl hr
      rcases h with h | ⟨h, h'⟩ | ⟨h, h', h''⟩ <;>
        (go_enter Try.func10, Try.ntmps10
         go_wp2_with (first
          | ((with_reducible show wpList _ _ _ (⟨some 6, .alloc _, _, _, _, _⟩ :: _) _ _); refine wl_alloc rfl 25 rfl (bvs (Z8 32)) 32 infoD ?_; intro w1 hA1 hb1 hs1)
          | ((with_reducible show wpList _ _ _ (⟨none, .store _ _ _, _, _, _, _⟩ :: _) _ _); refine wl_store rfl 25 _ _ rfl w.heap.size 0 rfl (bvs (Z8 32)) rfl 25 _ hA1 h32.out (by decide) (bvs_one _) ?_; intro w15 hR15 hg15 hs15))
         rw [whole_store _ _ (by rfl)] at hR15
         refine end_cell2 rfl w.heap.size 25 (bvs (Z8 32)) (.array 32 5) (.int .i64 1) rfl hR15 Try.underlying25 rfl h32.out rfl rfl ⟨rfl, ?_⟩
         exact hb1.grown hg15 hb1.size (by intro k e; injection e with e; omega))
    refine key ?_
    rcases okP_no hm with h | ⟨h, h'⟩ | ⟨h, h', h''⟩
    · exact .inl (decide_eq_true h)
    · exact .inr (.inl ⟨decide_eq_false (by omega), decide_eq_true h'⟩)
    · exact .inr (.inr ⟨decide_eq_false (by omega), decide_eq_false (by omega), decide_eq_true h''⟩)
  | true =>
    obtain ⟨x, y, rfl, rfl, hxy, hyn⟩ := okP_yes hm
    have e1 : subF L x y = rootF ((L.drop x).take (y - x)) := by
      unfold subF
      rw [hl, hm, if_pos rfl, Int.toNat_natCast, Int.toNat_natCast]
    have e2 : subE n x y = 0 := by simp [subE, hm]
    rw [e1, e2]
    obtain ⟨b, off, rfl, hbl, -⟩ := hr.mem (by omega)
    have hd := (hr.drop x (by omega)).take (y - x) (by omega)
    have hlen := rootF_len hd.all
    have hS : Hid (∀ w', Below w.heap.size w w' → Calls Try.prog 12 #[.slice (some ⟨b, off + x * 32, none⟩) (y - x) (cap - x)] w' fun e w'' => e = .returned (.agg (bvs (rootF ((L.drop x).take (y - x)))).toArray) ∧ Below w'.heap.size w' w'') := fun w' hb => rRoot_any _ _ (Nat.le_refl _) _ _ _ w' (by omega) (hd.to hb)
    have h32 : Hid ((Try.prog.info? 25).map (·.size) = some (bvs (rootF ((L.drop x).take (y - x)))).length) := by show _ = _; rw [bvs_len, hlen]; exact sizeD
    have L32 : Hid ((bvs (rootF ((L.drop x).take (y - x)))).length = 32) := by show _ = _; rw [bvs_len, hlen]
    have hcap := hr.le
    have hcx : ¬ (cap = x) := by omega
    clear e1 e2 hm hl hr hd hlen
    generalize rootF ((L.drop x).take (y - x)) = S at *
    have d1 : decide ((x : Int) < 0) = false := decide_eq_false (by omega)
    have d2 : decide ((y : Int) ≤ (x : Int)) = false := decide_eq_false (by omega)
    have d2' : decide (y ≤ x) = false := decide_eq_false (by omega)
    have d3 : decide ((n : Int) < (y : Int)) = false := decide_eq_false (by omega)
    have d3' : decide (n < y) = false := decide_eq_false (by omega)
    have c1 : (0 : Int) ≤ (x : Int) := by omega
    have c2 : (x : Int) ≤ (y : Int) := by omega
    have c3 : (y : Int) ≤ (cap : Int) := by omega
    go_enter Try.func10, Try.ntmps10
    go_wp2_with (first
      | ((with_reducible show wpList _ _ _ (⟨some 6, .alloc _, _, _, _, _⟩ :: _) _ _); refine wl_alloc rfl 25 rfl (bvs (Z8 32)) 32 infoD ?_; intro w1 hA1 hb1 hs1)
      | (go_at_call 12; refine (hS.out _ hb1).mono ?_; rintro e w5 ⟨rfl, hb5⟩)
      | ((with_reducible show wpList _ _ _ (⟨none, .store _ _ _, _, _, _, _⟩ :: _) _ _); refine wl_store rfl 25 _ _ rfl w.heap.size 0 rfl (bvs S) rfl 25 _ (hA1.kept hb5) h32.out (by rw [L32.out]; exact (by decide : 0 + 32 ≤ (bvs (Z8 32)).length)) (bvs_one _) ?_; intro w15 hR15 hg15 hs15))
    rw [whole_store _ _ (by rw [L32.out]; rfl)] at hR15
    refine end_cell2 rfl w.heap.size 25 (bvs S) (.array 32 5) (.int .i64 0) rfl hR15 Try.underlying25 rfl h32.out rfl rfl ⟨rfl, ?_⟩
    have hb' := hb1.trans (hb5.mono (by omega))
    exact hb'.grown hg15 hb'.size (by intro k e; injection e with e; omega)
end Go.Proofs.Ytpnhflpajccbbaa
