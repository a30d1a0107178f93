/-
  Layer 8: rows of hashes of a call's own; two rows held against each other. Conditions: those in each statement.
-/
import Derived.Test.YtlfncgpjgbpdjaaMkF
import Derived.Deep.DeepAppendWide
namespace Go.Proofs.Ytlfncgpjgbpdjaa
open Go.RowKit

def dcs (L : List (List UInt8)) : List Value := L.flatMap bvs
theorem dcs_len {L : List (List UInt8)} (h : All32 L) : (dcs L).length = L.length * 32 := by
  induction L with
  | nil => rfl
  | cons x L ih =>
    have h0 := h.mem (x := x) (by simp)
    have h1 : All32 L := All32.of fun y hy => h.mem (by simp [hy])
    have := ih h1
    simp only [dcs, List.flatMap_cons, List.length_append, List.length_cons] at this ⊢
    rw [this, bvs_len, h0]
    omega
theorem dcs_app (L : List (List UInt8)) (x : List UInt8) : dcs (L ++ [x]) = dcs L ++ bvs x := by simp [dcs]
theorem dcs_get {L : List (List UInt8)} : ∀ (_ : All32 L) (k j : Nat), k < L.length → j < 32 → (dcs L)[k * 32 + j]? = some (.int .u8 (((L.getD k []).getD j 0).toNat : Int)) := by
  induction L with
  | nil => intro h k j hk; simp at hk
  | cons x L ih =>
    intro h k j hk hj
    have h0 := h.mem (x := x) (by simp)
    have h1 : All32 L := All32.of fun y hy => h.mem (by simp [hy])
    have e : dcs (x :: L) = bvs x ++ dcs L := by simp [dcs]
    rw [e]
    cases k with
    | zero =>
      rw [Nat.zero_mul, Nat.zero_add, List.getElem?_append_left (by rw [bvs_len, h0]; exact hj)]
      exact bvs_get _ _ (by omega)
    | succ k =>
      rw [List.getElem?_append_right (by rw [bvs_len, h0]; omega), bvs_len, h0, show (k + 1) * 32 + j - 32 = k * 32 + j by omega]
      exact ih h1 k j (by simpa using hk) hj
/-- a call's own row of hashes -/
structure OwnD (w : World) (B : Nat) (v : Value) (L : List (List UInt8)) : Prop where
  row : w.ownsRow B 29 32 v L.length (dcs L)
  all : All32 L
theorem OwnD.nil (w : World) (B : Nat) : OwnD w B (.slice none 0 0) [] := ⟨World.ownsRow_nil w B 29 32, fun k hk => by simp at hk⟩
theorem OwnD.to {w w' : World} {B : Nat} {v : Value} {L : List (List UInt8)} (h : OwnD w B v L) (hb : Below w.heap.size w w') : OwnD w' B v L := by
  refine ⟨?_, h.all⟩
  have hlt := World.ownsRow.lt h.row
  obtain ⟨h1, ⟨rfl, hn⟩ | ⟨g, cap, cur, rfl, hbb, hg, r⟩⟩ := h.row
  · exact ⟨h1, .inl ⟨rfl, hn⟩⟩
  · exact ⟨h1, .inr ⟨g, cap, cur, rfl, hbb, by rw [hb.block g (hlt g rfl).2]; exact hg, r⟩⟩
theorem OwnD.rd {w : World} {B : Nat} {v : Value} {L : List (List UInt8)} (h : OwnD w B v L) : ∃ a cap, v = .slice a L.length cap ∧ RdD w a L.length cap L := by
  have h' := h.row
  have hl := dcs_len h.all
  obtain ⟨h1, ⟨rfl, hn⟩ | ⟨g, cap, cur, rfl, hb, hg, hn, hc, hs, ht⟩⟩ := h.row
  · exact ⟨none, 0, by rw [hn], by rw [hn]; exact ⟨hn, Nat.le_refl _, h.all, fun _ => rfl, fun h => by omega⟩⟩
  · refine ⟨_, cap, rfl, rfl, hn, h.all, (by intro e; cases e), fun _ => ⟨g, 0, rfl, (World.ownsRow.lt h' g rfl).2, fun k hk j hj => ?_⟩⟩
    have c := World.ownsRow.cellAt h' (k * 32 + j) (by omega)
    rw [Nat.zero_add]
    exact c.trans (dcs_get h.all k j hk hj)
section
variable {ops : Array Oper} {rest : List Oper} {o : Oper} {a : Act} {Q : Exit → Act → World → Prop} {w : World}
theorem infoDg : (Try.prog.info? 29).map (fun i => (i.zero, i.size, i.bytes)) = some (some (.agg (bvs (Z8 32)).toArray), 32, 32) := by kernel_rfl
/-- append(hashes, hash) -/
theorem wl_appendD (hgd : o.guard = none) (d s : Operand) (ho : o.op = .call { callee := .builtin .append, args := #[d, s], argTypes := #[30, 30] })
    (B : Nat) (v : Value) (L : List (List UInt8)) (hd : a.eval d = v) (hown : OwnD w B v L) (g : Nat) (x : List UInt8) (hs : a.eval s = .slice (some ⟨g, 0, none⟩) 1 1)
    (hA : Arr w g 29 (bvs x)) (hx : x.length = 32) (hlen : L.length + 1 ≤ 6000000000000) (hB : B ≤ w.heap.size)
    (hK : ∀ v' w', OwnD w' B v' (L ++ [x]) → Below B w w' → wpList Try.prog ops Q rest (a.put o.dst v') w') : wpList Try.prog ops Q (o :: rest) a w := by
  obtain ⟨i0, hi, hz0, hz1, hz2⟩ := info_parts infoDg
  refine wpList_append_own_wide w hgd d s 30 ho B 29 i0 _ 32 32 Try.underlying30 hi hz0 hz1 hz2 (by simp [Value.cells, bvs_len, Z8]) (by decide) v _ _ hd hown.row ⟨g, 0, none⟩ 1 1 (bvs x) hs (by rw [bvs_len, hx])
    (fun j u hu => by rw [Addr.add_lit, Nat.zero_add, hA.cell]; exact hu) (bvs_one x) (by unfold maxLen; omega) (by omega) hB ?_
  intro v' w' h1 h2 _
  refine hK v' w' ⟨?_, All32.of fun y hy => ?_⟩ ((Below.refl _ _).grown h2 hB fun k hk => (World.ownsRow.lt hown.row k hk).1)
  · rw [dcs_app, List.length_append]
    exact h1
  · rcases List.mem_append.1 hy with h | h
    · exact hown.all.mem h
    · simp only [List.mem_singleton] at h
      rw [h]; exact hx
end
theorem lists_eq {L M : List (List UInt8)} (hl : L.length = M.length) (h : ∀ k, k < L.length → L.getD k [] = M.getD k []) : L = M := by
  apply List.ext_getElem hl
  intro k h1 h2
  have := h k h1
  simpa [List.getD, h1, h2] using this
structure InvSame (n k ua uo uc va vo vc : Nat) (x y : List UInt8) (wb : World) (L : Nat → Bool) (v17 v18 v19 v20 v21 v22 v23 v24 v25 : Value) (wx : World) : Prop where
  t0 : L 0 = true → v17 = .slice (some ⟨ua, uo, none⟩) n uc
  t1 : L 1 = true → v18 = .int .i64 (k : Int)
  t2 : L 2 = true → v19 = .pointer (some ⟨ua, uo + k * 32, none⟩)
  t3 : L 3 = true → v20 = .agg (bvs x).toArray
  t4 : L 4 = true → v21 = .slice (some ⟨va, vo, none⟩) n vc
  t5 : L 5 = true → v22 = .int .i64 (k : Int)
  t6 : L 6 = true → v23 = .pointer (some ⟨va, vo + k * 32, none⟩)
  t7 : L 7 = true → v24 = .agg (bvs y).toArray
  t8 : L 8 = true → v25 = .bool (!decide (x = y))
  bw : Below wb.heap.size wb wx


set_option maxRecDepth 100000 in
set_option maxHeartbeats 6400000 in
theorem rSame_any (L M : List (List UInt8)) (a a' : Option Addr) (n n' uc vc : Nat) (w : World) (hu : RdD w a n uc L) (hv : RdD w a' n' vc M) (hnn : n ≤ 2 ^ 50) (hnn' : n' ≤ 2 ^ 50) :
    Calls Try.prog 11 #[.slice a n uc, .slice a' n' vc] w fun e w' => e = .returned (.bool (decide (L = M))) ∧ Below w.heap.size w w' := by
  have hlu := hu.len
  have hlv := hv.len
  by_cases hl : n = n'
  · subst hl
    go_enter Try.func11, Try.ntmps11
    go_wp2
    go_loopw [5] (fun i wr => ∃ k : Nat, k ≤ n ∧ i = .int .i64 (k : Int) ∧ (∀ j, j < k → L.getD j [] = M.getD j []) ∧ Below w.heap.size w wr) (fun i _ => n - (intOf i).toNat)
    case atStart => exact ⟨0, Nat.zero_le _, rfl, fun j hj => by omega, Below.refl _ _⟩
    case round =>
      obtain ⟨k, hk, rfl, hall, hB⟩ := hrel
      by_cases hlt : k < n
      · obtain ⟨ub, uo, rfl, hub, -⟩ := hu.mem (by omega)
        obtain ⟨vb, vo, rfl, hvb, -⟩ := hv.mem (by omega)
        have hru := hu.range k hlt
        have hrv := hv.range k hlt
        have hxl := hu.all k (by omega)
        have hyl := hv.all k (by omega)
        obtain ⟨x, hx⟩ : ∃ x, x = L.getD k [] := ⟨_, rfl⟩
        obtain ⟨y, hy⟩ : ∃ y, y = M.getD k [] := ⟨_, rfl⟩
        rw [← hx] at hru hxl
        rw [← hy] at hrv hyl
        have hrx : Hid (∀ wx, Below wr.heap.size wr wx → wx.rangeAt ub (uo + k * 32) (bvs x)) := fun wx hb j v hj => ((hB.trans (hb.mono hB.size)).cell (p := ⟨ub, uo + k * 32 + j, none⟩) hub).trans (hru j v hj)
        have hry : Hid (∀ wx, Below wr.heap.size wr wx → wx.rangeAt vb (vo + k * 32) (bvs y)) := fun wx hb j v hj => ((hB.trans (hb.mono hB.size)).cell (p := ⟨vb, vo + k * 32 + j, none⟩) hvb).trans (hrv j v hj)
        have h32x : Hid ((Try.prog.info? 29).map (·.size) = some (bvs x).length) := by show _ = _; rw [bvs_len, hxl]; exact sizeD
        have h32y : Hid ((Try.prog.info? 29).map (·.size) = some (bvs y).length) := by show _ = _; rw [bvs_len, hyl]; exact sizeD
        have HQ : Hid (∀ w : World, (binOp .neq 29 (.agg (bvs x).toArray) (.agg (bvs y).toArray)).run Try.prog w = .ok (.bool (!decide (x = y))) w) := fun w => run_neq_bytes Try.underlying29 Try.underlying5 cells1 infoSome hxl hyl
        have HK0 : Hid ((0 : Int) ≤ (k : Int)) := by show _ ≤ _; omega
        have HKN : Hid ((k : Int) < (n : Int)) := by show _ < _; omega
        have hkn : (k : Int) < (n : Int) := HKN.out
        have HALL := Lib.hid hall
        have HX := Lib.hid hx
        have HY := Lib.hid hy
        have HLT := Lib.hid hlt
        clear hx hy hru hrv hall hxl hyl hlt
        go_upto_region 6 with fail
        refine wp_region_steps [[], [], [0, 1], [2], [], [], [4, 5], [6], [3, 7]] (by kernel_rfl) (by kernel_rfl) (fun L a wx => ∃ v17 v18 v19 v20 v21 v22 v23 v24 v25, a = ⟨#[.slice (some ⟨ub, uo, none⟩) n uc, .slice (some ⟨vb, vo, none⟩) n vc, undef, undef, u4, .int .i64 ↑k, .slice (some ⟨ub, uo, none⟩) n uc, .int .i64 ↑n, .slice (some ⟨vb, vo, none⟩) n vc, .int .i64 ↑n, .bool false, .int .i64 ↑k, .slice (some ⟨ub, uo, none⟩) n uc, .int .i64 ↑n, .bool true, u15, u16, v17, v18, v19, v20, v21, v22, v23, v24, v25], []⟩ ∧ InvSame n k ub uo uc vb vo vc x y wr L v17 v18 v19 v20 v21 v22 v23 v24 v25 wx) ?_ ⟨?_, ?_, ?_, ?_, ?_, ?_, ?_, ?_, ?_, trivial⟩ ?_
        · refine ⟨_, _, _, _, _, _, _, _, _, rfl, ⟨?_, ?_, ?_, ?_, ?_, ?_, ?_, ?_, ?_, (Below.refl _ _).drew⟩⟩ <;> (intro h; exact absurd h (by decide))
        · rintro L a wx ⟨v17, v18, v19, v20, v21, v22, v23, v24, v25, rfl, hI⟩ hL hdep hcl K hK
          go_simp
          exact hK _ _ ⟨_, v18, v19, v20, v21, v22, v23, v24, v25, rfl, ⟨fun _ => rfl, hI.t1, hI.t2, hI.t3, hI.t4, hI.t5, hI.t6, hI.t7, hI.t8, hI.bw⟩⟩
        · rintro L a wx ⟨v17, v18, v19, v20, v21, v22, v23, v24, v25, rfl, hI⟩ hL hdep hcl K hK
          go_simp
          exact hK _ _ ⟨v17, _, v19, v20, v21, v22, v23, v24, v25, rfl, ⟨hI.t0, fun _ => rfl, hI.t2, hI.t3, hI.t4, hI.t5, hI.t6, hI.t7, hI.t8, hI.bw⟩⟩
        · rintro L a wx ⟨v17, v18, v19, v20, v21, v22, v23, v24, v25, rfl, hI⟩ hL hdep hcl K hK
          obtain rfl := hI.t0 (hdep 0 (by decide))
          obtain rfl := hI.t1 (hdep 1 (by decide))
          have h1 := HK0.out
          have h2 := HKN.out
          go_simp
          exact hK _ _ ⟨_, _, _, v20, v21, v22, v23, v24, v25, rfl, ⟨hI.t0, hI.t1, fun _ => rfl, hI.t3, hI.t4, hI.t5, hI.t6, hI.t7, hI.t8, hI.bw⟩⟩
        · rintro L a wx ⟨v17, v18, v19, v20, v21, v22, v23, v24, v25, rfl, hI⟩ hL hdep hcl K hK
          obtain rfl := hI.t2 (hdep 2 (by decide))
          refine wp_load_mid 29 _ rfl ub (uo + k * 32) rfl (bvs x) (.array 32 5) (hrx.out wx hI.bw) Try.underlying29 rfl h32x.out ?_
          exact hK _ _ ⟨v17, v18, _, _, v21, v22, v23, v24, v25, rfl, ⟨hI.t0, hI.t1, hI.t2, fun _ => rfl, hI.t4, hI.t5, hI.t6, hI.t7, hI.t8, hI.bw⟩⟩
        · rintro L a wx ⟨v17, v18, v19, v20, v21, v22, v23, v24, v25, rfl, hI⟩ hL hdep hcl K hK
          go_simp
          exact hK _ _ ⟨v17, v18, v19, v20, _, v22, v23, v24, v25, rfl, ⟨hI.t0, hI.t1, hI.t2, hI.t3, fun _ => rfl, hI.t5, hI.t6, hI.t7, hI.t8, hI.bw⟩⟩
        · rintro L a wx ⟨v17, v18, v19, v20, v21, v22, v23, v24, v25, rfl, hI⟩ hL hdep hcl K hK
          go_simp
          exact hK _ _ ⟨v17, v18, v19, v20, v21, _, v23, v24, v25, rfl, ⟨hI.t0, hI.t1, hI.t2, hI.t3, hI.t4, fun _ => rfl, hI.t6, hI.t7, hI.t8, hI.bw⟩⟩
        · rintro L a wx ⟨v17, v18, v19, v20, v21, v22, v23, v24, v25, rfl, hI⟩ hL hdep hcl K hK
          obtain rfl := hI.t4 (hdep 4 (by decide))
          obtain rfl := hI.t5 (hdep 5 (by decide))
          have h1 := HK0.out
          have h2 := HKN.out
          go_simp
          exact hK _ _ ⟨v17, v18, v19, v20, _, _, _, v24, v25, rfl, ⟨hI.t0, hI.t1, hI.t2, hI.t3, hI.t4, hI.t5, fun _ => rfl, hI.t7, hI.t8, hI.bw⟩⟩
        · rintro L a wx ⟨v17, v18, v19, v20, v21, v22, v23, v24, v25, rfl, hI⟩ hL hdep hcl K hK
          obtain rfl := hI.t6 (hdep 6 (by decide))
          refine wp_load_mid 29 _ rfl vb (vo + k * 32) rfl (bvs y) (.array 32 5) (hry.out wx hI.bw) Try.underlying29 rfl h32y.out ?_
          exact hK _ _ ⟨v17, v18, v19, v20, v21, v22, _, _, v25, rfl, ⟨hI.t0, hI.t1, hI.t2, hI.t3, hI.t4, hI.t5, hI.t6, fun _ => rfl, hI.t8, hI.bw⟩⟩
        · rintro L a wx ⟨v17, v18, v19, v20, v21, v22, v23, v24, v25, rfl, hI⟩ hL hdep hcl K hK
          obtain rfl := hI.t3 (hdep 3 (by decide))
          obtain rfl := hI.t7 (hdep 7 (by decide))
          have hq := HQ.out
          go_simp
          exact hK _ _ ⟨v17, v18, v19, _, v21, v22, v23, _, _, rfl, ⟨hI.t0, hI.t1, hI.t2, hI.t3, hI.t4, hI.t5, hI.t6, hI.t7, fun _ => rfl, hI.bw⟩⟩
        · rintro a wx ⟨v17, v18, v19, v20, v21, v22, v23, v24, v25, rfl, hI⟩
          have e := hI.t8 rfl
          have hbw := hI.bw
          clear hI
          by_cases hxy : x = y
          · rw [decide_eq_true hxy] at e
            subst e
            subst hxy
            go_wp2_with fail
            go_roundw
            case rel =>
              refine ⟨k + 1, by have := HLT.out; omega, by go_num, fun j hj => ?_, hB.trans (hbw.mono hB.size)⟩
              rcases Nat.lt_or_ge j k with h | h
              · exact HALL.out j h
              · obtain rfl : j = k := by omega
                rw [← HX.out, ← HY.out]
            case measure => have := HLT.out; simp [intOf]; omega
          · rw [decide_eq_false hxy] at e
            subst e
            have hne : Hid (L ≠ M) := by
              intro h
              have h1 := HX.out
              have h2 := HY.out
              rw [h, ← h2] at h1
              exact hxy h1
            go_wp2_with fail
            go_ret
            exact ⟨by rw [decide_eq_false hne.out]; rfl, hB.trans (hbw.mono hB.size)⟩
      · obtain rfl : k = n := by omega
        have hall' : Hid (L = M) := lists_eq (by omega) (fun j hj => hall j (by omega))
        have hc : ¬ ((k : Int) < (k : Int)) := by omega
        clear hall
        go_wp2
        go_ret
        refine ⟨?_, hB⟩
        rw [decide_eq_true hall'.out]
        rfl
  · have hne : L ≠ M := fun h => hl (by rw [← hlu, ← hlv, h])
    rw [decide_eq_false hne]
    have hd : ¬ ((n : Int) = (n' : Int)) := by omega
    clear hne hlu hlv hu hv
    go_enter Try.func11, Try.ntmps11
    go_wp2
    go_ret
    exact ⟨rfl, Below.refl _ _⟩
end Go.Proofs.Ytlfncgpjgbpdjaa
