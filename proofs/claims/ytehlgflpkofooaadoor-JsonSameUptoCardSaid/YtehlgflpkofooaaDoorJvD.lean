/-
  The program's Get: the value of a name. Conditions: those in each statement.
-/
import Derived.Test.YtehlgflpkofooaaDoorJvC
namespace Go.Proofs.YtehlgflpkofooaaDoor
open Go.RowKit

def idxF : List (List UInt8) → List UInt8 → Option Nat
  | [], _ => none
  | k :: r, x => if k = x then some 0 else (idxF r x).map (· + 1)
/-- the value of a name -/
def getF : JV → List UInt8 → Option JV
  | .mk k _ _ l ks, x => if k = 6 ∧ ks.length = l.length then (idxF ks x).bind fun i => l[i]? else none
theorem getF_eq (k : Int) (s : List UInt8) (n : Nat) (l : List JV) (ks : List (List UInt8)) (x : List UInt8) : getF (.mk k s n l ks) x = if k = 6 ∧ ks.length = l.length then (idxF ks x).bind fun i => l[i]? else none := rfl
theorem idx_lt : ∀ (ks : List (List UInt8)) (x : List UInt8) (i : Nat), idxF ks x = some i → i < ks.length
  | [], _, _, h => by cases h
  | k :: r, x, i, h => by
    unfold idxF at h
    split at h
    · cases h; simp
    · cases hr : idxF r x with
      | none => rw [hr] at h; cases h
      | some j =>
        rw [hr] at h
        cases h
        have := idx_lt r x j hr
        simp only [List.length_cons]
        omega
def idxI (o : Option Nat) : Int := match o with | some i => (i : Int) | none => -1
theorem idx_from : ∀ (ks : List (List UInt8)) (x : List UInt8) (i : Nat), Lib.idxFromS (ks.map bstr) (bstr x) i = match idxF ks x with | some j => ((i + j : Nat) : Int) | none => -1
  | [], _, _ => rfl
  | k :: r, x, i => by
    have ih := idx_from r x (i + 1)
    rw [List.map_cons, Lib.idxFromS, idxF]
    by_cases h : k = x
    · rw [if_pos (by rw [h]), if_pos h]; rfl
    · rw [if_neg (fun e => h (bstr_inj e)), if_neg h, ih]
      cases idxF r x with
      | none => rfl
      | some j => show ((i + 1 + j : Nat) : Int) = ((i + (j + 1) : Nat) : Int); omega
theorem index_any (ks : List (List UInt8)) (a : Option Addr) (c : Nat) (x : List UInt8) (w : World) (h : RStr w ks a c) :
    Calls Tryd.prog 25 #[.slice a ks.length c, .string (bstr x)] w fun e w' => e = .returned (.int .i64 (idxI (idxF ks x))) ∧ w' = w := by
  have hb := h.big
  have hl := h.le
  have key : Lib.idxOfS (ks.map bstr) (bstr x) = idxI (idxF ks x) := by
    unfold Lib.idxOfS idxI
    rw [idx_from]
    cases idxF ks x with
    | none => rfl
    | some j => show ((0 + j : Nat) : Int) = (j : Int); omega
  by_cases h0 : 0 < ks.length
  · obtain ⟨b, off, rfl, hb, hc⟩ := h.mem h0
    have := Tryd.slices_Index_string b off ks.length c (ks.map bstr) (bstr x) w (by simp) (by omega) (fun j hj => by
      rw [List.length_map] at hj
      rw [hc j hj]
      simp [List.getD, hj])
    rw [List.take_of_length_le (by simp), key] at this
    exact this
  · have e : ks = [] := List.eq_nil_of_length_eq_zero (by omega)
    subst e
    exact Tryd.slices_Index_string_empty a c (bstr x) w

/-- the end: two results, the first of which lies in a block -/
theorem end_cell2 {P : Program} {fn : Func} {R : Ending → World → Prop} {a : Act} {w : World} {p qq : Tmp} {ty : TypeId} (h : fn.results = #[.cell p ty, .tmp qq]) (g : Nat) (T : TypeId) (xs : List Value) (d : TypeDesc) (v : Value)
    (hp : a.tmps.getD p undef = .pointer (some ⟨g, 0, none⟩)) (hA : Arr w g T xs) (hu : P.underlying ty = some d) (hd : (match d with | .struct _ | .array _ _ => true | _ => false) = true) (hi : (P.info? ty).map (·.size) = some xs.length)
    (hq : a.tmps.getD qq undef = v) (hdf : a.defers = []) (hR : R (.returned (.tuple #[.agg xs.toArray, v])) w) : bodyPost P fn R .ret a w := by
  have hr : (results fn a.tmps).run P w = .ok (.tuple #[.agg xs.toArray, v]) w := by
    have hp' : a.tmps[p]?.getD undef = .pointer (some ⟨g, 0, none⟩) := by simpa using hp
    have hq' : a.tmps[qq]?.getD undef = v := by simpa using hq
    have hl := run_loadVar_row (P := P) w g T ty xs.toArray (0, 0) d hA hu hd (by simpa using hi)
    simp [results, h, hp', hq', asAddr, hl]
  exact bodyPost_ret hr hdf hR

theorem sv_zero (S : Nat → Prop) (w : World) : SV S w JV.zero [.int .i64 0, .string ⟨#[]⟩, .int .u64 0, .slice none 0 0, .slice none 0 0] := by
  unfold JV.zero SV
  exact ⟨none, 0, none, 0, rfl, by omega, ⟨⟨by simp, by omega, fun _ => rfl, fun h => by simp at h⟩, fun h => by simp at h⟩, ⟨by simp, by omega⟩, fun _ => rfl, fun h => by simp at h⟩

set_option maxRecDepth 100000 in
set_option maxHeartbeats 1600000 in
theorem Get_any (v : JV) (cs : List Value) (key : List UInt8) (w : World) (h : PV w v cs) (hf : fewV v 1099511627776) :
    Calls Tryd.prog 13 #[.agg cs.toArray, .string (bstr key)] w fun e w' => ∃ cx, e = .returned (.tuple #[.agg cx.toArray, .bool (getF v key).isSome]) ∧ SV (fun x => w.heap.size ≤ x) w' ((getF v key).getD JV.zero) cx ∧ Below w.heap.size w w' := by
  obtain ⟨k, s, n, l, ks⟩ := v
  unfold PV at h
  obtain ⟨a, c, b, d, rfl, ⟨hk0, hk1, hn⟩, hks, ⟨hlc, hcb⟩, hac, hl⟩ := h
  unfold fewV at hf
  obtain ⟨hf1, hf2, hf3⟩ := hf
  have hR0 := Arr.new (w.alloc (.cells #[.int .i64 k, .string (bstr s), .int .u64 (n : Int), .slice a l.length c, .slice b ks.length d] 30)) 30 [.int .i64 0, .string ⟨#[]⟩, .int .u64 0, .slice none 0 0, .slice none 0 0]
  rw [World.size_alloc] at hR0
  have hB0 : Below w.heap.size w ((w.alloc (.cells #[.int .i64 k, .string (bstr s), .int .u64 (n : Int), .slice a l.length c, .slice b ks.length d] 30)).alloc (.cells #[.int .i64 0, .string ⟨#[]⟩, .int .u64 0, .slice none 0 0, .slice none 0 0] 30)) := ((Below.refl _ _).alloc (Nat.le_refl _) _).alloc (by simp) _
  have hli : l.length ≤ 9223372036854775807 := by omega
  have hki : ks.length ≤ 9223372036854775807 := by omega
  have hz : getF (.mk k s n l ks) key = none → ∀ W, SV (fun x => w.heap.size ≤ x) W ((getF (.mk k s n l ks) key).getD JV.zero) [.int .i64 0, .string ⟨#[]⟩, .int .u64 0, .slice none 0 0, .slice none 0 0] := fun e W => by rw [e]; exact sv_zero _ _
  by_cases h6 : k = 6
  · subst h6
    by_cases hll : ks.length = l.length
    · have hix : Hid (∀ W, Below w.heap.size w W → Calls Tryd.prog 25 #[.slice b ks.length d, .string (bstr key)] W fun e w' => e = .returned (.int .i64 (idxI (idxF ks key))) ∧ w' = W) := fun W hW => index_any ks b d key W (hks.to hW)
      have hlli : (ks.length : Int) = (l.length : Int) := by omega
      cases hi : idxF ks key with
      | none =>
        have hg : Hid (getF (.mk 6 s n l ks) key = none) := by show _ = _; rw [getF_eq, if_pos ⟨rfl, hll⟩, hi]; rfl
        rw [hi] at hix
        have HZ := Lib.hid (hz hg.out)
        have hgs : Hid ((getF (.mk 6 s n l ks) key).isSome = false) := by show _ = _; rw [hg.out]; rfl
        rw [hgs.out]
        generalize (getF (.mk 6 s n l ks) key).getD JV.zero = gv at *
        clear hz hg hgs hi hll hks hl
        go_enter Tryd.func13, Tryd.ntmps13
        go_wp2_with (go_at_call 25; refine (hix.out _ hB0).mono ?_; rintro e w2 ⟨rfl, rfl⟩; simp only [idxI])
        refine end_cell2 rfl (w.heap.size + 1) 30 _ _ _ rfl hR0 Tryd.underlying30 rfl (by kernel_rfl) rfl rfl ⟨_, rfl, HZ.out _, hB0⟩
      | some i =>
        have hil := idx_lt ks key i hi
        obtain ⟨x, hx⟩ : ∃ x, l[i]? = some x := ⟨_, List.getElem?_eq_getElem (by omega)⟩
        have hg : Hid (getF (.mk 6 s n l ks) key = some x) := by show _ = _; rw [getF_eq, if_pos ⟨rfl, hll⟩, hi]; exact hx
        rw [hi] at hix
        have hgs : Hid ((getF (.mk 6 s n l ks) key).isSome = true) := by show _ = _; rw [hg.out]; rfl
        rw [hgs.out]
        have hgv : Hid ((getF (.mk 6 s n l ks) key).getD JV.zero = x) := by show _ = _; rw [hg.out]; rfl
        rw [hgv.out]
        obtain ⟨ab, ao, rfl, hab, hpl⟩ := hl (by omega)
        obtain ⟨cx, hcx, hcx2, hpx⟩ := pl_at l ab ao i x hpl hx
        have hfx := few_at l _ i x hf3 hx
        have hpx2 := hpx
        obtain ⟨xk, xs', xn, xl, xks⟩ := x
        unfold PV at hpx2
        obtain ⟨xa, xc, xb, xd, rfl, hxk, hxs, hxc, hxa, hxl2⟩ := hpx2
        unfold fewV at hfx
        have hic : i < c := by omega
        have hili : (i : Int) < (l.length : Int) := by omega
        have hil2 : i < l.length := by omega
        have hi63 : i ≤ 9223372036854775807 := by omega
        have hcall : Hid (∀ W B, B = W.heap.size → Below w.heap.size w W → Calls Tryd.prog 26 #[.agg #[.int .i64 xk, .string (bstr xs'), .int .u64 (xn : Int), .slice xa xl.length xc, .slice xb xks.length xd], .map (some B)] (W.alloc (.map #[] 0)) fun e w' => ∃ cs, e = .returned (.agg cs.toArray) ∧ SV (fun x => W.heap.size ≤ x) w' (.mk xk xs' xn xl xks) cs ∧ Below w.heap.size w w' ∧ (∀ G xs, Arr W G 30 xs → Arr w' G 30 xs)) := fun W B hBB hW => by
          subst hBB
          have hW2 : Below w.heap.size w (W.alloc (.map #[] 0)) := hW.alloc hW.size _
          have hk2 : CellsKept w (W.alloc (.map #[] 0)) := CellsKept.of_below hW2
          refine (fresh_of xk xs' xn xl xks xa xb xc xd (W.alloc (.map #[] 0)) W.heap.size [] hxk (hxs.keep hk2) (by omega) (MapR.new W) (fun V hV hMV => ?_)).mono ?_
          · have hkV : CellsKept w V := hk2.trans (ck_gb (MapR.new (G := GPlace) W) hV)
            refine freshList_all _ xl xa xc V _ [] (Nat.le_refl _) hxc (fun h => ?_) hfx.1 hfx.2.2 hMV (by intro q hq; cases hq)
            obtain ⟨bb, off, e, h1, h2⟩ := hxl2 h
            exact ⟨bb, off, e, hkV.plain bb h1, pl_keep hkV xl bb off h2⟩
          · rintro e w' ⟨cs, h1, h2, -, h4⟩
            have hsz : (W.alloc (.map #[] 0)).heap.size = W.heap.size + 1 := by simp
            refine ⟨cs, h1, sv_to (fun b hb _ => ?_) (S := fun x => (W.alloc (.map #[] 0)).heap.size ≤ x) (fun b _ _ => rfl) _ _ h2, hW2.grown h4 (by rw [hsz]; have := hW.size; omega) (fun k hk => by cases hk; exact hW.size), fun G xs hA => ?_⟩
            · omega
            · have := hA.lt
              exact (hA.kept ((Below.refl _ _).alloc (Nat.le_refl _) _)).grown h4 (by intro e; cases e; omega)
        have z := fun (j : Nat) (v : Value) (h : [Value.int .i64 xk, .string (bstr xs'), .int .u64 (xn : Int), .slice xa xl.length xc, .slice xb xks.length xd][j]? = some v) (hj : j < 5) => (CellsKept.of_below hB0).cell ((hcx2 j hj).trans h)
        have qc0 := (congrArg (fun o => World.cell? _ ⟨ab, o, none⟩) (show ao + i * 5 = ao + (5 * i + 0) by omega)).trans (z 0 _ rfl (by omega))
        have qc1 := (congrArg (fun o => World.cell? _ ⟨ab, o, none⟩) (show ao + i * 5 + 1 = ao + (5 * i + 1) by omega)).trans (z 1 _ rfl (by omega))
        have qc2 := (congrArg (fun o => World.cell? _ ⟨ab, o, none⟩) (show ao + i * 5 + 2 = ao + (5 * i + 2) by omega)).trans (z 2 _ rfl (by omega))
        have qc3 := (congrArg (fun o => World.cell? _ ⟨ab, o, none⟩) (show ao + i * 5 + 3 = ao + (5 * i + 3) by omega)).trans (z 3 _ rfl (by omega))
        have qc4 := (congrArg (fun o => World.cell? _ ⟨ab, o, none⟩) (show ao + i * 5 + 4 = ao + (5 * i + 4) by omega)).trans (z 4 _ rfl (by omega))
        have hmm : ∀ (w : World), (Instr.makeMap 64 none).run Tryd.prog w = .ok (.map (some w.heap.size)) (w.alloc (.map #[] 0)) := fun w => by
          simp [Instr.makeMap, Result.andThen]
        have HIL := Lib.hid hil2
        clear hz hg hgs hgv hi hll hks hl hil hx hpl hab hcx hcx2 hpx hfx hxk hxs hxc hxa hxl2 z hf1 hf2 hf3 hac
        go_enter Tryd.func13, Tryd.ntmps13
        go_wp2_with (go_at_call 25; refine (hix.out _ hB0).mono ?_; rintro e w2 ⟨rfl, rfl⟩; simp only [idxI])
        go_wp2_with (first
          | (go_at_call 26; refine (hcall.out _ _ (by simp) hB0).mono ?_; rintro e W9 ⟨cs9, rfl, hs9, hB9, hk9⟩; have hR9 := hk9 _ _ hR0)
          | ((with_reducible show wpList _ _ _ (⟨none, _, _, _, _, _⟩ :: _) _ _); refine wl_store rfl 30 _ _ rfl (w.heap.size + 1) 0 rfl cs9 rfl 30 _ hR9 (by rw [sv_len hs9]; kernel_rfl) (by rw [sv_len hs9]; simp) (pv_one_cell (sv_pv _ _ hs9)) ?_; intro W10 hR10 hg10 hs10))
        rw [whole_store _ _ (by rw [sv_len hs9]; rfl)] at hR10
        refine end_cell2 rfl (w.heap.size + 1) 30 _ _ _ rfl hR10 Tryd.underlying30 rfl (by rw [sv_len hs9]; kernel_rfl) rfl rfl ⟨cs9, rfl, ?_, hB9.grown hg10 hB9.size (fun k hk => by cases hk; omega)⟩
        refine sv_to (fun b hb _ => ?_) (Stay.of_grown hg10 (fun k hk => ?_)) _ _ hs9
        · simp at hb
          omega
        · cases hk
          simp
    · have hg : getF (.mk 6 s n l ks) key = none := by rw [getF_eq, if_neg (fun h => hll h.2)]
      have HZ := Lib.hid (hz hg)
      have hgs : Hid ((getF (.mk 6 s n l ks) key).isSome = false) := by show _ = _; rw [hg]; rfl
      rw [hgs.out]
      generalize (getF (.mk 6 s n l ks) key).getD JV.zero = gv at *
      have hne : ((ks.length : Int) == (l.length : Int)) = false := beq_eq_false_iff_ne.2 (by omega)
      clear hz hg hgs hll hks hl
      go_enter Tryd.func13, Tryd.ntmps13
      go_wp2
      refine end_cell2 rfl (w.heap.size + 1) 30 _ _ _ rfl hR0 Tryd.underlying30 rfl (by kernel_rfl) rfl rfl ⟨_, rfl, HZ.out _, hB0⟩
  · have hg : getF (.mk k s n l ks) key = none := by rw [getF_eq, if_neg (fun h => h6 h.1)]
    have HZ := Lib.hid (hz hg)
    have hgs : Hid ((getF (.mk k s n l ks) key).isSome = false) := by show _ = _; rw [hg]; rfl
    rw [hgs.out]
    generalize (getF (.mk k s n l ks) key).getD JV.zero = gv at *
    have hne : (k == 6) = false := beq_eq_false_iff_ne.2 h6
    clear hz hg hgs h6 hks hl
    go_enter Tryd.func13, Tryd.ntmps13
    go_wp2
    refine end_cell2 rfl (w.heap.size + 1) 30 _ _ _ rfl hR0 Tryd.underlying30 rfl (by kernel_rfl) rfl rfl ⟨_, rfl, HZ.out _, hB0⟩
end Go.Proofs.YtehlgflpkofooaaDoor
