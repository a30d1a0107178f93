/-
  Layer 8: the document's Sub. Layer 8: rows of hashes of a call's own; two rows held against each other. Layer 8: rows of byte slices in memory; the document's Leaves. Layer 8: rows of rows of hashes of a call's own. Layer 8: the document's Levels. Layer 8: a list of hashes put behind a row; the law's own. Layer 8: MerkleHashes as a call, over what is known of the program's Leaf, Node, Leaves and of the chapter's rows. Conditions: those in each statement.
-/
import Derived.Test.YtfidajbenmgflaaDoorMgA
import Derived.Deep.DeepAppendWide
import Derived.Great.CaseRows
namespace Go.Proofs.YtfidajbenmgflaaDoor
open Go.RowKit

/-- whether a part may be asked for -/
def okP (n : Nat) (f t : Int) : Bool := decide (0 ≤ f) && decide (f < t) && decide (t ≤ (n : Int))
def subF (L : List (List UInt8)) (f t : Int) : List UInt8 := if okP L.length f t then rootF ((L.drop f.toNat).take (t.toNat - f.toNat)) else Z8 32
def subE (n : Nat) (f t : Int) : Int := if okP n f t then 0 else 1
theorem okP_yes {n : Nat} {f t : Int} (h : okP n f t = true) : ∃ a b : Nat, f = a ∧ t = b ∧ a < b ∧ b ≤ n := by
  simp [okP] at h
  exact ⟨f.toNat, t.toNat, by omega, by omega, by omega, by omega⟩
theorem okP_no {n : Nat} {f t : Int} (h : okP n f t = false) : f < 0 ∨ (0 ≤ f ∧ t ≤ f) ∨ (0 ≤ f ∧ f < t ∧ (n : Int) < t) := by
  simp [okP] at h
  omega
theorem subF_len {L : List (List UInt8)} (h : All32 L) (f t : Int) : (subF L f t).length = 32 := by
  unfold subF
  split
  · exact rootF_len ((h.drop _).take _)
  · simp [Z8]
/-- the end: a result that lies in a block, another value -/
theorem end_cell2 {P : Program} {fn : Func} {R : Ending → World → Prop} {a : Act} {w : World} {p qq : Tmp} {ty : TypeId} (h : fn.results = #[.cell p ty, .tmp qq]) (g : Nat) (T : TypeId) (xs : List Value) (d : TypeDesc) (v : Value)
    (hp : a.tmps.getD p undef = .pointer (some ⟨g, 0, none⟩)) (hA : Arr w g T xs) (hu : P.underlying ty = some d) (hd : (match d with | .struct _ | .array _ _ => true | _ => false) = true) (hi : (P.info? ty).map (·.size) = some xs.length)
    (hq : a.tmps.getD qq undef = v) (hdf : a.defers = []) (hR : R (.returned (.tuple #[.agg xs.toArray, v])) w) : bodyPost P fn R .ret a w := by
  have hr : (results fn a.tmps).run P w = .ok (.tuple #[.agg xs.toArray, v]) w := by
    have hp' : a.tmps[p]?.getD undef = .pointer (some ⟨g, 0, none⟩) := by simpa using hp
    have hq' : a.tmps[qq]?.getD undef = v := by simpa using hq
    have hl := run_loadVar_row (P := P) w g T ty xs.toArray (0, 0) d hA hu hd (by simpa using hi)
    simp [results, h, hp', hq', asAddr, hl]
  exact bodyPost_ret hr hdf hR

end Go.Proofs.YtfidajbenmgflaaDoor

namespace Go.Proofs.YtfidajbenmgflaaDoor
open Go.RowKit

def dcs (L : List (List UInt8)) : List Value := L.flatMap bvs
theorem dcs_len {L : List (List UInt8)} (h : All32 L) : (dcs L).length = L.length * 32 := by
  induction L with
  | nil => rfl
  | cons x L ih =>
    have h0 := h.mem (x := x) (by simp)
    have h1 : All32 L := All32.of fun y hy => h.mem (by simp [hy])
    have := ih h1
    simp only [dcs, List.flatMap_cons, List.length_append, List.length_cons] at this ⊢
    rw [this, bvs_len, h0]
    omega
theorem dcs_app (L : List (List UInt8)) (x : List UInt8) : dcs (L ++ [x]) = dcs L ++ bvs x := by simp [dcs]
theorem dcs_get {L : List (List UInt8)} : ∀ (_ : All32 L) (k j : Nat), k < L.length → j < 32 → (dcs L)[k * 32 + j]? = some (.int .u8 (((L.getD k []).getD j 0).toNat : Int)) := by
  induction L with
  | nil => intro h k j hk; simp at hk
  | cons x L ih =>
    intro h k j hk hj
    have h0 := h.mem (x := x) (by simp)
    have h1 : All32 L := All32.of fun y hy => h.mem (by simp [hy])
    have e : dcs (x :: L) = bvs x ++ dcs L := by simp [dcs]
    rw [e]
    cases k with
    | zero =>
      rw [Nat.zero_mul, Nat.zero_add, List.getElem?_append_left (by rw [bvs_len, h0]; exact hj)]
      exact bvs_get _ _ (by omega)
    | succ k =>
      rw [List.getElem?_append_right (by rw [bvs_len, h0]; omega), bvs_len, h0, show (k + 1) * 32 + j - 32 = k * 32 + j by omega]
      exact ih h1 k j (by simpa using hk) hj
/-- a call's own row of hashes -/
structure OwnD (w : World) (B : Nat) (v : Value) (L : List (List UInt8)) : Prop where
  row : w.ownsRow B 48 32 v L.length (dcs L)
  all : All32 L
theorem OwnD.nil (w : World) (B : Nat) : OwnD w B (.slice none 0 0) [] := ⟨World.ownsRow_nil w B 48 32, fun k hk => by simp at hk⟩
theorem OwnD.to {w w' : World} {B : Nat} {v : Value} {L : List (List UInt8)} (h : OwnD w B v L) (hb : Below w.heap.size w w') : OwnD w' B v L := by
  refine ⟨?_, h.all⟩
  have hlt := World.ownsRow.lt h.row
  obtain ⟨h1, ⟨rfl, hn⟩ | ⟨g, cap, cur, rfl, hbb, hg, r⟩⟩ := h.row
  · exact ⟨h1, .inl ⟨rfl, hn⟩⟩
  · exact ⟨h1, .inr ⟨g, cap, cur, rfl, hbb, by rw [hb.block g (hlt g rfl).2]; exact hg, r⟩⟩
theorem OwnD.rd {w : World} {B : Nat} {v : Value} {L : List (List UInt8)} (h : OwnD w B v L) : ∃ a cap, v = .slice a L.length cap ∧ RdD w a L.length cap L := by
  have h' := h.row
  have hl := dcs_len h.all
  obtain ⟨h1, ⟨rfl, hn⟩ | ⟨g, cap, cur, rfl, hb, hg, hn, hc, hs, ht⟩⟩ := h.row
  · exact ⟨none, 0, by rw [hn], by rw [hn]; exact ⟨hn, Nat.le_refl _, h.all, fun _ => rfl, fun h => by omega⟩⟩
  · refine ⟨_, cap, rfl, rfl, hn, h.all, (by intro e; cases e), fun _ => ⟨g, 0, rfl, (World.ownsRow.lt h' g rfl).2, fun k hk j hj => ?_⟩⟩
    have c := World.ownsRow.cellAt h' (k * 32 + j) (by omega)
    rw [Nat.zero_add]
    exact c.trans (dcs_get h.all k j hk hj)
section
variable {ops : Array Oper} {rest : List Oper} {o : Oper} {a : Act} {Q : Exit → Act → World → Prop} {w : World}
theorem infoDg : (Tryd.prog.info? 48).map (fun i => (i.zero, i.size, i.bytes)) = some (some (.agg (bvs (Z8 32)).toArray), 32, 32) := by kernel_rfl
/-- append(hashes, hash) -/
theorem wl_appendD (hgd : o.guard = none) (d s : Operand) (ho : o.op = .call { callee := .builtin .append, args := #[d, s], argTypes := #[37, 37] })
    (B : Nat) (v : Value) (L : List (List UInt8)) (hd : a.eval d = v) (hown : OwnD w B v L) (g : Nat) (x : List UInt8) (hs : a.eval s = .slice (some ⟨g, 0, none⟩) 1 1)
    (hA : Arr w g 48 (bvs x)) (hx : x.length = 32) (hlen : L.length + 1 ≤ 6000000000000) (hB : B ≤ w.heap.size)
    (hK : ∀ v' w', OwnD w' B v' (L ++ [x]) → Below B w w' → wpList Tryd.prog ops Q rest (a.put o.dst v') w') : wpList Tryd.prog ops Q (o :: rest) a w := by
  obtain ⟨i0, hi, hz0, hz1, hz2⟩ := info_parts infoDg
  refine wpList_append_own_wide w hgd d s 37 ho B 48 i0 _ 32 32 Tryd.underlying37 hi hz0 hz1 hz2 (by simp [Value.cells, bvs_len, Z8]) (by decide) v _ _ hd hown.row ⟨g, 0, none⟩ 1 1 (bvs x) hs (by rw [bvs_len, hx])
    (fun j u hu => by rw [Addr.add_lit, Nat.zero_add, hA.cell]; exact hu) (bvs_one x) (by unfold maxLen; omega) (by omega) hB ?_
  intro v' w' h1 h2 _
  refine hK v' w' ⟨?_, All32.of fun y hy => ?_⟩ ((Below.refl _ _).grown h2 hB fun k hk => (World.ownsRow.lt hown.row k hk).1)
  · rw [dcs_app, List.length_append]
    exact h1
  · rcases List.mem_append.1 hy with h | h
    · exact hown.all.mem h
    · simp only [List.mem_singleton] at h
      rw [h]; exact hx
end
theorem lists_eq {L M : List (List UInt8)} (hl : L.length = M.length) (h : ∀ k, k < L.length → L.getD k [] = M.getD k []) : L = M := by
  apply List.ext_getElem hl
  intro k h1 h2
  have := h k h1
  simpa [List.getD, h1, h2] using this
structure InvSame (n k ua uo uc va vo vc : Nat) (x y : List UInt8) (wb : World) (L : Nat → Bool) (v17 v18 v19 v20 v21 v22 v23 v24 v25 : Value) (wx : World) : Prop where
  t0 : L 0 = true → v17 = .slice (some ⟨ua, uo, none⟩) n uc
  t1 : L 1 = true → v18 = .int .i64 (k : Int)
  t2 : L 2 = true → v19 = .pointer (some ⟨ua, uo + k * 32, none⟩)
  t3 : L 3 = true → v20 = .agg (bvs x).toArray
  t4 : L 4 = true → v21 = .slice (some ⟨va, vo, none⟩) n vc
  t5 : L 5 = true → v22 = .int .i64 (k : Int)
  t6 : L 6 = true → v23 = .pointer (some ⟨va, vo + k * 32, none⟩)
  t7 : L 7 = true → v24 = .agg (bvs y).toArray
  t8 : L 8 = true → v25 = .bool (!decide (x = y))
  bw : Below wb.heap.size wb wx


set_option maxRecDepth 100000 in
set_option maxHeartbeats 6400000 in
theorem rSame_any (L M : List (List UInt8)) (a a' : Option Addr) (n n' uc vc : Nat) (w : World) (hu : RdD w a n uc L) (hv : RdD w a' n' vc M) (hnn : n ≤ 2 ^ 50) (hnn' : n' ≤ 2 ^ 50) :
    Calls Tryd.prog 22 #[.slice a n uc, .slice a' n' vc] w fun e w' => e = .returned (.bool (decide (L = M))) ∧ Below w.heap.size w w' := by
  have hlu := hu.len
  have hlv := hv.len
  by_cases hl : n = n'
  · subst hl
    go_enter Tryd.func22, Tryd.ntmps22
    go_wp2
    go_loopw [5] (fun i wr => ∃ k : Nat, k ≤ n ∧ i = .int .i64 (k : Int) ∧ (∀ j, j < k → L.getD j [] = M.getD j []) ∧ Below w.heap.size w wr) (fun i _ => n - (intOf i).toNat)
    case atStart => exact ⟨0, Nat.zero_le _, rfl, fun j hj => by omega, Below.refl _ _⟩
    case round =>
      obtain ⟨k, hk, rfl, hall, hB⟩ := hrel
      by_cases hlt : k < n
      · obtain ⟨ub, uo, rfl, hub, -⟩ := hu.mem (by omega)
        obtain ⟨vb, vo, rfl, hvb, -⟩ := hv.mem (by omega)
        have hru := hu.range k hlt
        have hrv := hv.range k hlt
        have hxl := hu.all k (by omega)
        have hyl := hv.all k (by omega)
        obtain ⟨x, hx⟩ : ∃ x, x = L.getD k [] := ⟨_, rfl⟩
        obtain ⟨y, hy⟩ : ∃ y, y = M.getD k [] := ⟨_, rfl⟩
        rw [← hx] at hru hxl
        rw [← hy] at hrv hyl
        have hrx : Hid (∀ wx, Below wr.heap.size wr wx → wx.rangeAt ub (uo + k * 32) (bvs x)) := fun wx hb j v hj => ((hB.trans (hb.mono hB.size)).cell (p := ⟨ub, uo + k * 32 + j, none⟩) hub).trans (hru j v hj)
        have hry : Hid (∀ wx, Below wr.heap.size wr wx → wx.rangeAt vb (vo + k * 32) (bvs y)) := fun wx hb j v hj => ((hB.trans (hb.mono hB.size)).cell (p := ⟨vb, vo + k * 32 + j, none⟩) hvb).trans (hrv j v hj)
        have h32x : Hid ((Tryd.prog.info? 48).map (·.size) = some (bvs x).length) := by show _ = _; rw [bvs_len, hxl]; exact sizeD
        have h32y : Hid ((Tryd.prog.info? 48).map (·.size) = some (bvs y).length) := by show _ = _; rw [bvs_len, hyl]; exact sizeD
        have HQ : Hid (∀ w : World, (binOp .neq 48 (.agg (bvs x).toArray) (.agg (bvs y).toArray)).run Tryd.prog w = .ok (.bool (!decide (x = y))) w) := fun w => run_neq_bytes Tryd.underlying48 Tryd.underlying5 cells1 infoSome hxl hyl
        have HK0 : Hid ((0 : Int) ≤ (k : Int)) := by show _ ≤ _; omega
        have HKN : Hid ((k : Int) < (n : Int)) := by show _ < _; omega
        have hkn : (k : Int) < (n : Int) := HKN.out
        have HALL := Lib.hid hall
        have HX := Lib.hid hx
        have HY := Lib.hid hy
        have HLT := Lib.hid hlt
        clear hx hy hru hrv hall hxl hyl hlt
        go_upto_region 6 with fail
        refine wp_region_steps [[], [], [0, 1], [2], [], [], [4, 5], [6], [3, 7]] (by kernel_rfl) (by kernel_rfl) (fun L a wx => ∃ v17 v18 v19 v20 v21 v22 v23 v24 v25, a = ⟨#[.slice (some ⟨ub, uo, none⟩) n uc, .slice (some ⟨vb, vo, none⟩) n vc, undef, undef, u4, .int .i64 ↑k, .slice (some ⟨ub, uo, none⟩) n uc, .int .i64 ↑n, .slice (some ⟨vb, vo, none⟩) n vc, .int .i64 ↑n, .bool false, .int .i64 ↑k, .slice (some ⟨ub, uo, none⟩) n uc, .int .i64 ↑n, .bool true, u15, u16, v17, v18, v19, v20, v21, v22, v23, v24, v25], []⟩ ∧ InvSame n k ub uo uc vb vo vc x y wr L v17 v18 v19 v20 v21 v22 v23 v24 v25 wx) ?_ ⟨?_, ?_, ?_, ?_, ?_, ?_, ?_, ?_, ?_, trivial⟩ ?_
        · refine ⟨_, _, _, _, _, _, _, _, _, rfl, ⟨?_, ?_, ?_, ?_, ?_, ?_, ?_, ?_, ?_, (Below.refl _ _).drew⟩⟩ <;> (intro h; exact absurd h (by decide))
        · rintro L a wx ⟨v17, v18, v19, v20, v21, v22, v23, v24, v25, rfl, hI⟩ hL hdep hcl K hK
          go_simp
          exact hK _ _ ⟨_, v18, v19, v20, v21, v22, v23, v24, v25, rfl, ⟨fun _ => rfl, hI.t1, hI.t2, hI.t3, hI.t4, hI.t5, hI.t6, hI.t7, hI.t8, hI.bw⟩⟩
        · rintro L a wx ⟨v17, v18, v19, v20, v21, v22, v23, v24, v25, rfl, hI⟩ hL hdep hcl K hK
          go_simp
          exact hK _ _ ⟨v17, _, v19, v20, v21, v22, v23, v24, v25, rfl, ⟨hI.t0, fun _ => rfl, hI.t2, hI.t3, hI.t4, hI.t5, hI.t6, hI.t7, hI.t8, hI.bw⟩⟩
        · rintro L a wx ⟨v17, v18, v19, v20, v21, v22, v23, v24, v25, rfl, hI⟩ hL hdep hcl K hK
          obtain rfl := hI.t0 (hdep 0 (by decide))
          obtain rfl := hI.t1 (hdep 1 (by decide))
          have h1 := HK0.out
          have h2 := HKN.out
          go_simp
          exact hK _ _ ⟨_, _, _, v20, v21, v22, v23, v24, v25, rfl, ⟨hI.t0, hI.t1, fun _ => rfl, hI.t3, hI.t4, hI.t5, hI.t6, hI.t7, hI.t8, hI.bw⟩⟩
        · rintro L a wx ⟨v17, v18, v19, v20, v21, v22, v23, v24, v25, rfl, hI⟩ hL hdep hcl K hK
          obtain rfl := hI.t2 (hdep 2 (by decide))
          refine wp_load_mid 48 _ rfl ub (uo + k * 32) rfl (bvs x) (.array 32 5) (hrx.out wx hI.bw) Tryd.underlying48 rfl h32x.out ?_
          exact hK _ _ ⟨v17, v18, _, _, v21, v22, v23, v24, v25, rfl, ⟨hI.t0, hI.t1, hI.t2, fun _ => rfl, hI.t4, hI.t5, hI.t6, hI.t7, hI.t8, hI.bw⟩⟩
        · rintro L a wx ⟨v17, v18, v19, v20, v21, v22, v23, v24, v25, rfl, hI⟩ hL hdep hcl K hK
          go_simp
          exact hK _ _ ⟨v17, v18, v19, v20, _, v22, v23, v24, v25, rfl, ⟨hI.t0, hI.t1, hI.t2, hI.t3, fun _ => rfl, hI.t5, hI.t6, hI.t7, hI.t8, hI.bw⟩⟩
        · rintro L a wx ⟨v17, v18, v19, v20, v21, v22, v23, v24, v25, rfl, hI⟩ hL hdep hcl K hK
          go_simp
          exact hK _ _ ⟨v17, v18, v19, v20, v21, _, v23, v24, v25, rfl, ⟨hI.t0, hI.t1, hI.t2, hI.t3, hI.t4, fun _ => rfl, hI.t6, hI.t7, hI.t8, hI.bw⟩⟩
        · rintro L a wx ⟨v17, v18, v19, v20, v21, v22, v23, v24, v25, rfl, hI⟩ hL hdep hcl K hK
          obtain rfl := hI.t4 (hdep 4 (by decide))
          obtain rfl := hI.t5 (hdep 5 (by decide))
          have h1 := HK0.out
          have h2 := HKN.out
          go_simp
          exact hK _ _ ⟨v17, v18, v19, v20, _, _, _, v24, v25, rfl, ⟨hI.t0, hI.t1, hI.t2, hI.t3, hI.t4, hI.t5, fun _ => rfl, hI.t7, hI.t8, hI.bw⟩⟩
        · rintro L a wx ⟨v17, v18, v19, v20, v21, v22, v23, v24, v25, rfl, hI⟩ hL hdep hcl K hK
          obtain rfl := hI.t6 (hdep 6 (by decide))
          refine wp_load_mid 48 _ rfl vb (vo + k * 32) rfl (bvs y) (.array 32 5) (hry.out wx hI.bw) Tryd.underlying48 rfl h32y.out ?_
          exact hK _ _ ⟨v17, v18, v19, v20, v21, v22, _, _, v25, rfl, ⟨hI.t0, hI.t1, hI.t2, hI.t3, hI.t4, hI.t5, hI.t6, fun _ => rfl, hI.t8, hI.bw⟩⟩
        · rintro L a wx ⟨v17, v18, v19, v20, v21, v22, v23, v24, v25, rfl, hI⟩ hL hdep hcl K hK
          obtain rfl := hI.t3 (hdep 3 (by decide))
          obtain rfl := hI.t7 (hdep 7 (by decide))
          have hq := HQ.out
          go_simp
          exact hK _ _ ⟨v17, v18, v19, _, v21, v22, v23, _, _, rfl, ⟨hI.t0, hI.t1, hI.t2, hI.t3, hI.t4, hI.t5, hI.t6, hI.t7, fun _ => rfl, hI.bw⟩⟩
        · rintro a wx ⟨v17, v18, v19, v20, v21, v22, v23, v24, v25, rfl, hI⟩
          have e := hI.t8 rfl
          have hbw := hI.bw
          clear hI
          by_cases hxy : x = y
          · rw [decide_eq_true hxy] at e
            subst e
            subst hxy
            go_wp2_with fail
            go_roundw
            case rel =>
              refine ⟨k + 1, by have := HLT.out; omega, by go_num, fun j hj => ?_, hB.trans (hbw.mono hB.size)⟩
              rcases Nat.lt_or_ge j k with h | h
              · exact HALL.out j h
              · obtain rfl : j = k := by omega
                rw [← HX.out, ← HY.out]
            case measure => have := HLT.out; simp [intOf]; omega
          · rw [decide_eq_false hxy] at e
            subst e
            have hne : Hid (L ≠ M) := by
              intro h
              have h1 := HX.out
              have h2 := HY.out
              rw [h, ← h2] at h1
              exact hxy h1
            go_wp2_with fail
            go_ret
            exact ⟨by rw [decide_eq_false hne.out]; rfl, hB.trans (hbw.mono hB.size)⟩
      · obtain rfl : k = n := by omega
        have hall' : Hid (L = M) := lists_eq (by omega) (fun j hj => hall j (by omega))
        have hc : ¬ ((k : Int) < (k : Int)) := by omega
        clear hall
        go_wp2
        go_ret
        refine ⟨?_, hB⟩
        rw [decide_eq_true hall'.out]
        rfl
  · have hne : L ≠ M := fun h => hl (by rw [← hlu, ← hlv, h])
    rw [decide_eq_false hne]
    have hd : ¬ ((n : Int) = (n' : Int)) := by omega
    clear hne hlu hlv hu hv
    go_enter Tryd.func22, Tryd.ntmps22
    go_wp2
    go_ret
    exact ⟨rfl, Below.refl _ _⟩
end Go.Proofs.YtfidajbenmgflaaDoor

namespace Go.Proofs.YtfidajbenmgflaaDoor
open Go.RowKit

/-- the slice of n byte slices at a reads as B -/
structure RdR (w : World) (a : Option Addr) (n cap : Nat) (B : List (List UInt8)) : Prop where
  len : B.length = n
  le : n ≤ cap
  nil : a = none → cap = 0
  mem : 0 < n → ∃ b off, a = some ⟨b, off, none⟩ ∧ b < w.heap.size ∧ ∀ k, k < n → ∃ ak nk ck, w.cell? ⟨b, off + k, none⟩ = some (.slice ak nk ck) ∧ nk ≤ 140737488352000 ∧ Rd w ak nk ck (B.getD k [])
theorem RdR.to {w w' : World} {a : Option Addr} {n cap : Nat} {B : List (List UInt8)} (h : RdR w a n cap B) (hb : Below w.heap.size w w') : RdR w' a n cap B := by
  refine ⟨h.len, h.le, h.nil, fun h0 => ?_⟩
  obtain ⟨b, off, e, hlt, hc⟩ := h.mem h0
  refine ⟨b, off, e, Nat.lt_of_lt_of_le hlt hb.size, fun k hk => ?_⟩
  obtain ⟨ak, nk, ck, h1, h2, h3⟩ := hc k hk
  exact ⟨ak, nk, ck, (hb.cell (p := ⟨b, off + k, none⟩) hlt).trans h1, h2, h3.to hb⟩

section
variable {ops : Array Oper} {rest : List Oper} {o : Oper} {a : Act} {Q : Exit → Act → World → Prop} {w : World}
/-- a row of one hash, written out -/
theorem wl_litD (hg : o.guard = none) (i : Nat) (ho : o.op = .buildSlice 37 1 #[(0, .tmp i)]) (x : List UInt8) (hx : x.length = 32) (hev : a.eval (.tmp i) = .agg (bvs x).toArray)
    (hK : ∀ w', Arr w' w.heap.size 48 (bvs x) → Below w.heap.size w w' → wpList Tryd.prog ops Q rest (a.put o.dst (.slice (some ⟨w.heap.size, 0, none⟩) 1 1)) w') : wpList Tryd.prog ops Q (o :: rest) a w := by
  refine Great.wpList_buildRows hg 37 48 #[(0, .tmp i)] 32 [.agg (bvs x).toArray] ho (fun _ => i) _ rfl _ rfl Tryd.underlying37 sizeD (by kernel_rfl) (by decide) (by simp) (by simp) rfl ?_ ?_ ?_
  · intro v hv
    simp only [List.mem_singleton] at hv
    subst hv
    simp [Value.cells, bvs_len, hx]
  · intro j hj
    have : j = 0 := by simpa using hj
    subst this
    exact hev
  · refine hK _ ?_ ((Below.refl _ _).alloc (Nat.le_refl _) _)
    have e : ((([.agg (bvs x).toArray] : List Value).flatMap fun v => v.cells.toList).toArray) = (bvs x).toArray := by simp [Value.cells]
    rw [e]
    exact Arr.new _ _ _
end

end Go.Proofs.YtfidajbenmgflaaDoor

namespace Go.Proofs.YtfidajbenmgflaaDoor
open Go.RowKit

theorem OwnD.base {w : World} {B B' : Nat} {v : Value} {L : List (List UInt8)} (h : OwnD w B v L) (hb : B' ≤ B) : OwnD w B' v L := by
  refine ⟨?_, h.all⟩
  obtain ⟨h1, h2 | ⟨g, cap, cur, rfl, hbb, r⟩⟩ := h.row
  · exact ⟨h1, .inl h2⟩
  · exact ⟨h1, .inr ⟨g, cap, cur, rfl, by omega, r⟩⟩
/-- two own rows of different elements lie in different blocks -/
theorem rows_apart {w : World} {B B' : Nat} {e e' : TypeId} {s s' n n' : Nat} {v v' : Value} {xs xs' : List Value} (h : w.ownsRow B e s v n xs) (h' : w.ownsRow B' e' s' v' n' xs') (he : e ≠ e') : v.ownBlock = none ∨ v.ownBlock ≠ v'.ownBlock := by
  obtain ⟨-, ⟨rfl, -⟩ | ⟨g, cap, cur, rfl, -, hg, -⟩⟩ := h
  · exact .inl rfl
  · right
    obtain ⟨-, ⟨rfl, -⟩ | ⟨g', cap', cur', rfl, -, hg', -⟩⟩ := h'
    · intro e; cases e
    · intro e
      have e : some g = some g' := e
      injection e with e
      subst e
      rw [hg] at hg'
      injection hg' with hg'
      injection hg' with _ h2
      exact he h2
theorem OwnD.by {w w' : World} {B : Nat} {v : Value} {L : List (List UInt8)} {row : Option Nat} (h : OwnD w B v L) (hg : w.grownBy w' row) (hne : v.ownBlock = none ∨ v.ownBlock ≠ row) : OwnD w' B v L := ⟨h.row.kept hg hne, h.all⟩
/-- a call's own row of its own rows of hashes -/
def OwnR (w : World) (B : Nat) (v : Value) (LL : List (List (List UInt8))) : Prop :=
  ∃ vs, w.ownsRow B 37 1 v LL.length vs ∧ ∀ k, k < LL.length → ∃ u, vs[k]? = some u ∧ OwnD w B u (LL.getD k [])
theorem OwnR.nil (w : World) (B : Nat) : OwnR w B (.slice none 0 0) [] := ⟨[], World.ownsRow_nil w B 37 1, fun k hk => by simp at hk⟩
theorem OwnR.to {w w' : World} {B : Nat} {v : Value} {LL : List (List (List UInt8))} (h : OwnR w B v LL) (hb : Below w.heap.size w w') : OwnR w' B v LL := by
  obtain ⟨vs, h1, h2⟩ := h
  have hlt := World.ownsRow.lt h1
  refine ⟨vs, ?_, fun k hk => ?_⟩
  · obtain ⟨h1, ⟨rfl, hn⟩ | ⟨g, cap, cur, rfl, hbb, hg, r⟩⟩ := h1
    · exact ⟨h1, .inl ⟨rfl, hn⟩⟩
    · exact ⟨h1, .inr ⟨g, cap, cur, rfl, hbb, by rw [hb.block g (hlt g rfl).2]; exact hg, r⟩⟩
  · obtain ⟨u, e, h⟩ := h2 k hk
    exact ⟨u, e, h.to hb⟩
section
variable {ops : Array Oper} {rest : List Oper} {o : Oper} {a : Act} {Q : Exit → Act → World → Prop} {w : World}
theorem infoDr : (Tryd.prog.info? 37).map (fun i => (i.zero, i.size, i.bytes)) = some (some (.slice none 0 0), 1, 24) := by kernel_rfl
end
end Go.Proofs.YtfidajbenmgflaaDoor

namespace Go.Proofs.YtfidajbenmgflaaDoor
open Go.RowKit

/-- the levels below i -/
def levs (L : List (List UInt8)) (i : Nat) : List (List (List UInt8)) := (List.range i).map (chunks L)
theorem levs_succ (L : List (List UInt8)) (i : Nat) : levs L (i + 1) = levs L i ++ [chunks L i] := by simp [levs, List.range_succ]

end Go.Proofs.YtfidajbenmgflaaDoor

namespace Go.Proofs.YtfidajbenmgflaaDoor
open Go.RowKit

section
variable {ops : Array Oper} {rest : List Oper} {o : Oper} {a : Act} {Q : Exit → Act → World → Prop} {w : World}
theorem RdD.cells {ad : Addr} {n cap : Nat} {L : List (List UInt8)} (h : RdD w (some ad) n cap L) : ∀ j u, (dcs L)[j]? = some u → w.cell? (ad.add j) = some u := by
  intro j u hu
  have hl := h.len
  have hj : j < L.length * 32 := by
    have := (List.getElem?_eq_some_iff.1 hu).1
    rw [dcs_len h.all] at this
    exact this
  obtain ⟨b, off, e, -, hc⟩ := h.mem (by omega)
  injection e with e
  subst e
  have hj2 : j / 32 * 32 + j % 32 = j := by omega
  have hc2 := hc (j / 32) (by omega) (j % 32) (Nat.mod_lt _ (by omega))
  rw [Nat.add_assoc, hj2] at hc2
  have h3 := dcs_get h.all (j / 32) (j % 32) (by omega) (Nat.mod_lt _ (by omega))
  rw [hj2, hu] at h3
  rw [Addr.add_lit, hc2, h3]
/-- append(hashes, hashes...) -/
theorem wl_rowD (hgd : o.guard = none) (d s : Operand) (ho : o.op = .call { callee := .builtin .append, args := #[d, s], argTypes := #[37, 37] })
    (B : Nat) (v : Value) (M : List (List UInt8)) (hd : a.eval d = v) (hown : OwnD w B v M) (sp : Option Addr) (sLen sCap : Nat) (L : List (List UInt8)) (hs : a.eval s = .slice sp sLen sCap)
    (hrd : RdD w sp sLen sCap L) (hlen : M.length + sLen ≤ 2 ^ 42) (hB : B ≤ w.heap.size)
    (hK : ∀ v' w', OwnD w' B v' (M ++ L) → Below B w w' → wpList Tryd.prog ops Q rest (a.put o.dst v') w') : wpList Tryd.prog ops Q (o :: rest) a w := by
  obtain ⟨i0, hi, hz0, hz1, hz2⟩ := info_parts infoDg
  have hl := hrd.len
  cases sp with
  | none =>
    have h0 : sCap = 0 := hrd.nil rfl
    have h1 : sLen = 0 := by have := hrd.le; omega
    subst h0 h1
    have hx : L = [] := List.eq_nil_of_length_eq_zero hl
    subst hx
    refine wpList_append_own_none hgd d s 37 ho B 48 i0 32 Tryd.underlying37 hi v _ _ hd hown.row hs ?_
    exact hK v w (by simpa using hown) (Below.refl _ _)
  | some ad =>
    refine wpList_append_own w hgd d s 37 ho B 48 i0 _ 32 32 Tryd.underlying37 hi hz0 hz1 hz2 (by simp [Value.cells, bvs_len, Z8]) (by decide) v _ _ hd hown.row ad sLen sCap (dcs L) hs (by rw [dcs_len hrd.all, hl])
      hrd.cells (fun u hu => ?_) (by unfold maxLen; omega) (by omega) hB ?_
    · simp only [dcs, List.mem_flatMap] at hu
      obtain ⟨x, -, hu⟩ := hu
      exact bvs_one x u hu
    intro v' w' h1 h2 _
    refine hK v' w' ⟨?_, All32.of fun y hy => ?_⟩ ((Below.refl _ _).grown h2 hB fun k hk => (World.ownsRow.lt hown.row k hk).1)
    · rw [show dcs (M ++ L) = dcs M ++ dcs L by simp [dcs], List.length_append, hl]
      exact h1
    · rcases List.mem_append.1 hy with h | h
      · exact hown.all.mem h
      · exact hrd.all.mem h
end
end Go.Proofs.YtfidajbenmgflaaDoor

namespace Go.Proofs.YtfidajbenmgflaaDoor
open Go.RowKit

theorem eqIn {xs : List UInt8} (hx : xs.length = 32) (w : World) : (Op.equalIn 10000 48 (.agg (bvs xs).toArray) (.agg (bvs xs).toArray)).run Tryd.prog w = .ok true w := by
  obtain ⟨i, hi⟩ := Option.isSome_iff_exists.1 infoSome
  have h := run_equalIn_array w 9999 (bvs xs).toArray (bvs xs).toArray Tryd.underlying48 hi
  rw [cells1, show (9999 : Nat) = 9998 + 1 from rfl, run_eqItems_bytes Tryd.underlying5 9998 xs xs _ (fun j hj => by have := List.mem_range.1 hj; omega), all_range hx hx] at h
  simpa using h
structure InvHashes (X Y S1 S2 : List UInt8) (LL : List (List UInt8)) (ab am al : Option Addr) (n c nm cm nl cl gx gy : Nat) (T : List UInt8) (wb : World) (L : Nat → Bool) (v12 v13 v14 v15 v16 v17 v18 v19 v20 v21 v22 v23 v24 v25 v26 v27 v28 v29 v30 v31 v32 v33 v34 v35 v36 v37 v38 v39 v40 v41 v42 v8 : Value) (wx : World) : Prop where
  t0 : L 0 = true → v12 = .slice am nm cm
  t1 : L 1 = true → v13 = .agg (bvs S1).toArray
  t2 : L 2 = true → v14 = .slice ab n c
  t3 : L 3 = true → v15 = .agg (bvs S1).toArray
  t4 : L 4 = true → v16 = .bool true
  t5 : L 5 = true → v17 = .bool true
  t6 : L 6 = true → v18 = .slice am nm cm
  t7 : L 7 = true → v19 = .string (bstr T)
  t8 : L 8 = true → v20 = .slice ab n c
  t9 : L 9 = true → v21 = .string (bstr T)
  t10 : L 10 = true → v22 = .bool true
  t11 : L 11 = true → v23 = .bool true
  t12 : L 12 = true → v24 = .bool true
  t13 : L 13 = true → v25 = .agg (bvs X).toArray
  t14 : L 14 = true → v26 = .agg (bvs Y).toArray
  t15 : L 15 = true → v27 = .agg (bvs S2).toArray
  t16 : L 16 = true → v28 = .agg (bvs X).toArray
  t17 : L 17 = true → v29 = .agg (bvs Y).toArray
  t18 : L 18 = true → v30 = .agg (bvs S2).toArray
  t19 : L 19 = true → v31 = .bool true
  t20 : L 20 = true → v32 = .bool true
  t21 : L 21 = true → v33 = .bool true
  t22 : L 22 = true → v34 = .slice al nl cl
  t23 : L 23 = true → ∃ (a1 : Option Addr) (c1 : Nat), v35 = .slice a1 LL.length c1 ∧ RdD wx a1 LL.length c1 LL
  t24 : L 24 = true → v36 = .slice al nl cl
  t25 : L 25 = true → ∃ (a1 : Option Addr) (c1 : Nat), v37 = .slice a1 LL.length c1 ∧ RdD wx a1 LL.length c1 LL
  t26 : L 26 = true → v38 = .bool true
  t27 : L 27 = true → v39 = .bool true
  t28 : L 28 = true → v40 = .bool true
  t29 : L 29 = true → v41 = .bool true
  t30 : L 30 = true → v42 = .bool true
  t31 : L 31 = true → v8 = .bool true
  bw : Below wb.heap.size wb wx


end Go.Proofs.YtfidajbenmgflaaDoor
