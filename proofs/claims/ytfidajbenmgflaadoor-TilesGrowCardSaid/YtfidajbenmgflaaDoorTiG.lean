/-
  Package tiles: Put and Head. Conditions: those in each statement.
-/
import Derived.Test.YtfidajbenmgflaaDoorTiS
namespace Go.Proofs.YtfidajbenmgflaaDoor
open Go.RowKit

section
variable {ops : Array Oper} {rest : List Oper} {o : Oper} {a : Act} {Q : Exit → Act → World → Prop} {w : World}
/-- make([]byte, 0, n) -/
theorem wl_make0 (hg : o.guard = none) (l c : Operand) (hop : o.op = Op.makeSlice 38 l c) (B : Nat) (n : Nat) (hl : a.eval l = .int .i64 0) (hc : a.eval c = .int .i64 n)
    (hn : n ≤ 140737488355328) (hB : B ≤ w.heap.size)
    (hK : ∀ w', Own w' B 5 (.slice (some ⟨w.heap.size, 0, none⟩) 0 n) [] → Below w.heap.size w w' → w'.heap.size = w.heap.size + 1 → wpList Tryd.prog ops Q rest (a.put o.dst (.slice (some ⟨w.heap.size, 0, none⟩) 0 n)) w') :
    wpList Tryd.prog ops Q (o :: rest) a w := by
  obtain ⟨i0, hi, hz0, hz1, hz2⟩ := info_parts bt.info
  refine wpList_plain hg fun K hK' => ?_
  have hrun := run_make (P := Tryd.prog) w 38 5 i0 (.int .u8 0) bt.sl hi hz0 .i64 .i64 0 n (by omega) (by omega) (by rw [hz2]; omega) (by omega)
  rw [Int.toNat_natCast, hz1] at hrun
  unfold Oper.wp execOp
  simp only [hop, hl, hc, Sem.run_bind, Sem.run_pure, hrun, Result.andThen_ok]
  refine hK' _ _ (hK _ ?_ ((Below.refl _ _).alloc (Nat.le_refl _) _) (by simp))
  refine ⟨rfl, .inr ⟨w.heap.size, n, _, rfl, hB, heap_alloc_new w _, Nat.zero_le _, by unfold maxLen; omega, by simp [madeCells], by simp⟩⟩
end
theorem infoD1 : (Tryd.prog.info? 48).map (fun i => (i.zero, i.size)) = some (some (.agg (bvs (Z8 32)).toArray), 32) := by kernel_rfl
/-- the bytes of a tile -/
def putT (L : List (List UInt8)) : List UInt8 := if 1 ≤ L.length ∧ L.length ≤ 16 then L.flatten else []
def putE (L : List (List UInt8)) : Int := if 1 ≤ L.length ∧ L.length ≤ 16 then 0 else 1
theorem flat_len {L : List (List UInt8)} (h : All32 L) : L.flatten.length = 32 * L.length := by
  induction L with
  | nil => rfl
  | cons x L ih =>
    have h1 : x.length = 32 := h.mem List.mem_cons_self
    have h2 := ih (All32.of fun y hy => h.mem (List.mem_cons_of_mem _ hy))
    rw [List.flatten_cons, List.length_append, h1, h2, List.length_cons]
    omega
set_option maxRecDepth 100000 in
set_option maxHeartbeats 1600000 in
theorem Put_any (L : List (List UInt8)) (ad : Option Addr) (n cap : Nat) (w : World) (hn : n ≤ 2 ^ 50) (hr : RdD w ad n cap L) :
    Calls Tryd.prog 16 #[.slice ad n cap] w fun e w' => ∃ v, e = .returned (.tuple #[v, .int .i64 (putE L)]) ∧ Own w' w.heap.size 5 v (putT L) ∧ Below w.heap.size w w' := by
  have hlen := hr.len
  have HE : Hid (putE L = if 1 ≤ n ∧ n ≤ 16 then 0 else 1) := by show putE L = _; unfold putE; rw [hlen]
  have HP : Hid (putT L = if 1 ≤ n ∧ n ≤ 16 then L.flatten else []) := by show putT L = _; unfold putT; rw [hlen]
  generalize putE L = pe at HE ⊢
  generalize putT L = pt at HP ⊢
  have HR := Lib.hid hr
  have HL := Lib.hid hlen
  clear hr hlen
  go_enter Tryd.func16, Tryd.ntmps16
  by_cases h1 : n < 1
  · have h1' : (n : Int) < 1 := by omega
    have hx : pe = 1 := by rw [HE.out, if_neg (by omega)]
    have hy : pt = [] := by rw [HP.out, if_neg (by omega)]
    subst hx hy
    clear h1
    go_wp2_with fail
    go_ret2
    exact ⟨_, rfl, Own.nil _ _ _, Below.refl _ _⟩
  · have h1' : ¬ (n : Int) < 1 := by omega
    by_cases h2 : 16 < n
    · have h2' : (16 : Int) < (n : Int) := by omega
      have hx : pe = 1 := by rw [HE.out, if_neg (by omega)]
      have hy : pt = [] := by rw [HP.out, if_neg (by omega)]
      subst hx hy
      clear h1 h2
      go_wp2_with fail
      go_ret2
      exact ⟨_, rfl, Own.nil _ _ _, Below.refl _ _⟩
    · have h2' : ¬ (16 : Int) < (n : Int) := by omega
      have hx : pe = 0 := by rw [HE.out, if_pos (by omega)]
      have hy : Hid (pt = L.flatten) := by show pt = _; rw [HP.out, if_pos (by omega)]
      subst hx
      have HN : Hid (1 ≤ n ∧ n ≤ 16) := by show 1 ≤ n ∧ n ≤ 16; omega
      have hmul : IntKind.i64.wrap ((n : Int) * 32) = ((n * 32 : Nat) : Int) := by rw [IntKind.wrap_i64]; omega
      obtain ⟨pb, po, rfl, hpb, hpc⟩ := HR.out.mem (by omega)
      clear h1 h2 hpc
      go_upto_region 5 with ((with_reducible show wpList _ _ _ (⟨some 18, .makeSlice _ _ _, _, _, _, _⟩ :: _) _ _); go_loud (refine wl_make0 rfl _ _ rfl w.heap.size (n * 32) rfl rfl (by have := HN.out; omega) (Nat.le_refl _) ?_); intro w1 ho1 hb1 hs1)
      have HB1 := Lib.hid hb1
      clear hb1 hs1 hmul
      go_loopw [4, 21] (fun out ix wr => ∃ k : Nat, k ≤ n ∧ ix = .int .i64 (k : Int) ∧ Own wr w.heap.size 5 out ((L.take k).flatten) ∧ Below w.heap.size w wr) (fun _ ix _ => n - (intOf ix).toNat)
      case atStart => exact ⟨0, by omega, rfl, ho1, HB1.out⟩
      case round =>
        obtain ⟨k, hk, rfl, ho, hbr⟩ := hrel
        have HO := Lib.hid ho
        have HBR := Lib.hid hbr
        clear ho hbr
        by_cases hlt : k < n
        · have hlti : (k : Int) < (n : Int) := by omega
          obtain ⟨d, hd⟩ : ∃ d, d = L.getD k [] := ⟨_, rfl⟩
          have hrg : wr.rangeAt pb (po + k * 32) (bvs d) := by rw [hd]; exact (HR.out.to HBR.out).range k hlt
          have hd32 : d.length = 32 := by
            have hl := HL.out
            rw [hd]
            refine HR.out.all.mem ?_
            rw [List.getD, List.getElem?_eq_getElem (by omega)]
            exact List.getElem_mem _
          have h32 : Hid ((Tryd.prog.info? 48).map (·.size) = some (bvs d).length) := by show _ = _; rw [bvs_len, hd32]; exact sizeD
          have HT : Hid ((L.take (k + 1)).flatten = (L.take k).flatten ++ d) := by
            have hl := HL.out
            show (L.take (k + 1)).flatten = (L.take k).flatten ++ d
            rw [List.take_add_one, List.getElem?_eq_getElem (by omega), List.flatten_append, hd, List.getD, List.getElem?_eq_getElem (by omega)]
            simp
          have HTL : Hid (((L.take k).flatten).length ≤ 1000) := by
            show ((L.take k).flatten).length ≤ 1000
            rw [flat_len (HR.out.all.take k), List.length_take]
            have := HN.out
            omega
          have HD32 := Lib.hid hd32
          clear hd hd32
          go_upto_region 7 with (first
            | ((with_reducible show wpList _ _ _ (⟨some 24, .load _ _, _, _, _, _⟩ :: _) _ _); go_loud (refine wpList_load_mid rfl 48 _ rfl pb (po + k * 32) rfl (bvs d) (.array 32 5) hrg Tryd.underlying48 rfl h32.out ?_))
            | ((with_reducible show wpList _ _ _ (⟨some 6, .alloc _, _, _, _, _⟩ :: _) _ _); go_loud (refine wl_alloc rfl 48 rfl (bvs (Z8 32)) 32 infoD1 ?_); intro w2 hA2 hb2 hs2)
            | ((with_reducible show wpList _ _ _ (⟨none, .store _ _ _, _, _, _, _⟩ :: _) _ _); go_loud (refine wl_store rfl 48 _ _ rfl wr.heap.size 0 rfl (bvs d) rfl 48 _ hA2 h32.out (by rw [bvs_len, bvs_len, HD32.out]; exact (by decide : 0 + 32 ≤ (Z8 32).length)) (bvs_one _) ?_); intro w3 hA3 hg3 hs3))
          go_simp
          rw [whole_store _ _ (by rw [bvs_len, bvs_len, HD32.out]; rfl)] at hA3
          have hb3 : Below wr.heap.size wr w3 := hb2.grown hg3 hb2.size (fun k hk => by injection hk with hk; omega)
          have ho3 := HO.out.to hb3
          have hrd : Rd w3 (some ⟨wr.heap.size, 0, none⟩) 32 32 d := by have := rd_arr hA3; rwa [HD32.out] at this
          have hB3 := HBR.out.trans (hb3.mono HBR.out.size)
          have HB3 := Lib.hid hB3
          clear hA2 hA3 hb2 hb3 hs2 hs3 hg3 hB3 hrg
          go_wp2_with ((with_reducible show wpList _ _ _ (⟨some 27, _, _, _, _, _⟩ :: _) _ _); go_loud (refine wl_append bt rfl _ _ rfl w.heap.size _ _ ho3 rfl (some ⟨wr.heap.size, 0, none⟩) 32 32 d rfl hrd (by have := HTL.out; omega) HB3.out.size ?_); intro v4 w4 ho4 hb4)
          go_roundw
          case rel => exact ⟨k + 1, by omega, by go_num, by rw [HT.out]; exact ho4, HB3.out.trans hb4⟩
          case measure => simp [intOf]; omega
        · have e : k = n := by omega
          subst e
          go_wp2_with fail
          go_ret2
          refine ⟨_, rfl, ?_, HBR.out⟩
          have h := HO.out
          rw [List.take_of_length_le (by rw [HL.out]; exact Nat.le_refl _)] at h
          rw [hy.out]
          exact h
/-- the head of a whole tile -/
def hdT (L : List (List UInt8)) : List UInt8 := if L.length = 16 then rootF L else Z8 32
def hdTE (L : List (List UInt8)) : Int := if L.length = 16 then 0 else 1
theorem hdT_len {L : List (List UInt8)} (h : All32 L) : (hdT L).length = 32 := by
  unfold hdT
  split
  · exact rootF_len h
  · rfl
set_option maxRecDepth 100000 in
set_option maxHeartbeats 1600000 in
theorem Head_any (L : List (List UInt8)) (ad : Option Addr) (n cap : Nat) (w : World) (hn : n ≤ 2 ^ 50) (hr : RdD w ad n cap L) :
    Calls Tryd.prog 20 #[.slice ad n cap] w fun e w' => e = .returned (.tuple #[.agg (bvs (hdT L)).toArray, .int .i64 (hdTE L)]) ∧ Below w.heap.size w w' := by
  have hlen := hr.len
  have HX : Hid ((hdT L).length = 32) := hdT_len hr.all
  have h32 : Hid ((Tryd.prog.info? 48).map (·.size) = some (bvs (hdT L)).length) := by show _ = _; rw [bvs_len, HX.out]; exact sizeD
  have HR : Hid (∀ w1, Below w.heap.size w w1 → Calls Tryd.prog 23 #[.slice ad n cap] w1 fun e w' => e = .returned (.agg (bvs (rootF L)).toArray) ∧ Below w1.heap.size w1 w') := fun w1 hb => Root_any L.length L (Nat.le_refl _) ad n cap w1 hn (hr.to hb)
  have HE : Hid (hdTE L = if n = 16 then 0 else 1) := by show hdTE L = _; unfold hdTE; rw [hlen]
  have HP : Hid (hdT L = if n = 16 then rootF L else Z8 32) := by show hdT L = _; unfold hdT; rw [hlen]
  clear hr hlen hn
  generalize hdTE L = pe at HE ⊢
  generalize hdT L = pt at HP HX h32 ⊢
  go_enter Tryd.func20, Tryd.ntmps20
  by_cases h1 : n = 16
  · subst h1
    have hx : pe = 0 := by rw [HE.out, if_pos rfl]
    have hy : pt = rootF L := by rw [HP.out, if_pos rfl]
    subst hx
    rw [hy] at HX h32 ⊢
    clear hy HP
    generalize rootF L = pt at HX h32 HR ⊢
    go_wp2_with (first
      | ((with_reducible show wpList _ _ _ (⟨some 2, .alloc _, _, _, _, _⟩ :: _) _ _); go_loud (refine wl_alloc rfl 48 rfl (bvs (Z8 32)) 32 infoD1 ?_); intro w2 hA2 hb2 hs2)
      | (go_at_call 23; go_loud (refine (HR.out w2 hb2).mono ?_); rintro e w3 ⟨rfl, hb3⟩)
      | ((with_reducible show wpList _ _ _ (⟨none, .store _ _ _, _, _, _, _⟩ :: _) _ _); go_loud (refine wl_store rfl 48 _ _ rfl w.heap.size 0 rfl (bvs pt) rfl 48 _ (hA2.kept hb3) h32.out (by rw [bvs_len, bvs_len, HX.out]; exact (by decide : 0 + 32 ≤ (Z8 32).length)) (bvs_one _) ?_); intro w4 hA4 hg4 hs4))
    rw [whole_store _ _ (by rw [bvs_len, bvs_len, HX.out]; rfl)] at hA4
    refine end_cell2 rfl w.heap.size 48 (bvs pt) (.array 32 5) (.int .i64 0) rfl hA4 Tryd.underlying48 rfl h32.out rfl rfl ⟨rfl, ?_⟩
    exact (hb2.trans (hb3.mono hb2.size)).grown hg4 (Nat.le_trans hb2.size hb3.size) (fun k hk => by injection hk with hk; omega)
  · have h1' : ¬ (n : Int) = 16 := by omega
    have hx : pe = 1 := by rw [HE.out, if_neg h1]
    have hy : pt = Z8 32 := by rw [HP.out, if_neg h1]
    subst hx hy
    clear h1
    go_wp2_with (first
      | ((with_reducible show wpList _ _ _ (⟨some 2, .alloc _, _, _, _, _⟩ :: _) _ _); go_loud (refine wl_alloc rfl 48 rfl (bvs (Z8 32)) 32 infoD1 ?_); intro w2 hA2 hb2 hs2)
      | ((with_reducible show wpList _ _ _ (⟨none, .store _ _ _, _, _, _, _⟩ :: _) _ _); go_loud (refine wl_store rfl 48 _ _ rfl w.heap.size 0 rfl (bvs (Z8 32)) rfl 48 _ hA2 h32.out (by decide) (bvs_one _) ?_); intro w4 hA4 hg4 hs4))
    rw [whole_store _ _ rfl] at hA4
    refine end_cell2 rfl w.heap.size 48 (bvs (Z8 32)) (.array 32 5) (.int .i64 1) rfl hA4 Tryd.underlying48 rfl h32.out rfl rfl ⟨rfl, ?_⟩
    exact hb2.grown hg4 hb2.size (fun k hk => by injection hk with hk; omega)
end Go.Proofs.YtfidajbenmgflaaDoor
