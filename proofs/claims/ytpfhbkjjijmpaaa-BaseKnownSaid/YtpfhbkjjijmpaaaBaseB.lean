/-
  The document's Take: bits of letters, bytes of bits. Conditions: those in each statement.
-/
import Derived.Test.YtpfhbkjjijmpaaaBaseC
import Derived.Test.YtpfhbkjjijmpaaaBaseQ
import Derived.Lib.Hide
import Derived.Deep.AppendLies
namespace Go.Proofs.Ytpfhbkjjijmpaaa
open Go.RowKit

theorem infoI : (Try.prog.info? 3).map (fun i => (i.zero, i.size, i.bytes)) = some (some (.int .i64 0), 1, 8) := by kernel_rfl
theorem row_ne {w : World} {B B' : Nat} {E E' : TypeId} {sz sz' n n' : Nat} {v v' : Value} {xs xs' : List Value} (h : w.ownsRow B E sz v n xs) (h' : w.ownsRow B' E' sz' v' n' xs') (hE : E ≠ E') : v.ownBlock = none ∨ v.ownBlock ≠ v'.ownBlock := by
  obtain ⟨_, ⟨rfl, _⟩ | ⟨g, cap, cur, rfl, _, hg, _⟩⟩ := h
  · exact .inl rfl
  · refine .inr fun e => ?_
    obtain ⟨_, ⟨rfl, _⟩ | ⟨g', cap', cur', rfl, _, hg', _⟩⟩ := h'
    · cases e
    · simp only [Value.ownBlock] at e
      injection e with e
      rw [← e, hg] at hg'
      injection hg' with hg'
      injection hg' with _ h2
      exact hE h2
theorem row_shape {w : World} {B : Nat} {E : TypeId} {sz n : Nat} {v : Value} {xs : List Value} (h : w.ownsRow B E sz v n xs) : ∃ p cap, v = .slice p n cap ∧ n ≤ cap := by
  obtain ⟨h1, ⟨rfl, hn⟩ | ⟨g, cap, cur, rfl, hbb, hg, hn, r⟩⟩ := h
  · exact ⟨none, 0, by rw [hn], by omega⟩
  · exact ⟨_, cap, rfl, hn⟩
theorem row_at {w : World} {B : Nat} {E : TypeId} {sz n cap : Nat} {p : Option Addr} {xs : List Value} (h : w.ownsRow B E sz (.slice p n cap) n xs) (hn : 0 < n) : ∃ q, p = some ⟨q, 0, none⟩ ∧ q < w.heap.size ∧ ∀ k, k < xs.length → w.cell? ⟨q, k, none⟩ = xs[k]? := by
  obtain ⟨h1, ⟨e, hn0⟩ | ⟨q, cap', cur, e, hbb, hg, hnc, hcm, hcs, ht⟩⟩ := h
  · omega
  · injection e with e1 e2 e3
    subst e1 e3
    refine ⟨q, rfl, lt_of_block hg, fun k hk => ?_⟩
    rw [cell_of_row _ q _ _ _ (0, 0) hg, ← ht, List.getElem?_take_of_lt (by rw [h1] at hk; exact hk)]
    simp

/-- a goal at which the walk stands -/
def Stand (p : Prop) : Prop := p
theorem stand {p : Prop} (h : Stand p) : p := h

theorem bt : BT Try.prog 22 5 := ⟨Try.underlying22, Try.underlying5, by kernel_rfl⟩
def iv (x : Nat) : Value := .int .i64 (x : Int)
theorem and_one (x : Nat) (h : x < 64) : bits BinOp.and IntKind.i64 (x : Int) 1 = ((x % 2 : Nat) : Int) := by
  have hh : ∀ n : Fin 64, bits BinOp.and IntKind.i64 ((n.val : Nat) : Int) 1 = ((n.val % 2 : Nat) : Int) := by decide +kernel
  exact hh ⟨x, h⟩
theorem six_at (v j : Nat) (h : j < 6) : (six v).take (j + 1) = (six v).take j ++ [v / 2 ^ (5 - j) % 2] := by
  have : j = 0 ∨ j = 1 ∨ j = 2 ∨ j = 3 ∨ j = 4 ∨ j = 5 := by omega
  rcases this with rfl | rfl | rfl | rfl | rfl | rfl <;> simp [six]
def errOf (r : Option (List UInt8)) : Int := match r with | some _ => 0 | none => 5
def bytesOf (r : Option (List UInt8)) : List UInt8 := r.getD []
/-- what Take hands back -/
def TRes (r : Option (List UInt8)) (w : World) (e : Ending) (w' : World) : Prop := ∃ v, e = .returned (.tuple #[v, .int .i64 (errOf r)]) ∧ Own w' w.heap.size 5 v (bytesOf r) ∧ Below w.heap.size w w'
theorem TRes.none {w w' : World} (h : Below w.heap.size w w') : TRes none w (.returned (.tuple #[.slice .none 0 0, .int .i64 5])) w' := ⟨_, rfl, Own.nil _ _ _, h⟩

theorem rd_lit (w : World) (cs : List UInt8) (E : TypeId) (fr : Nat × Nat := (0, 0)) : Rd (w.alloc (.cells (cs.map bv).toArray E fr)) (some ⟨w.heap.size, 0, none⟩) cs.length cs.length cs := by
  refine ⟨rfl, Nat.le_refl _, by (intro e; cases e), fun _ => ⟨w.heap.size, 0, rfl, by simp, fun j hj => ?_⟩⟩
  rw [cell_of_row _ w.heap.size _ _ E fr (heap_alloc_new w _)]
  simp [bv, List.getD, hj]

section
variable {P : Program} {T E : TypeId} (bt : BT P T E) {ops : Array Oper} {rest : List Oper} {o : Oper} {a : Act} {Q : Exit → Act → World → Prop} {w : World}
include bt
/-- append(dst, src...), dst nil or the call's own: nothing but dst's block is turned -/
theorem wl_append_g (hgd : o.guard = none) (d s : Operand) (ho : o.op = .call { callee := .builtin .append, args := #[d, s], argTypes := #[T, T] })
    (B : Nat) (v : Value) (ys : List UInt8) (hown : Own w B E v ys) (hd : a.eval d = v) (sp : Option Addr) (sLen sCap : Nat) (xs : List UInt8)
    (hs : a.eval s = .slice sp sLen sCap) (hrd : Rd w sp sLen sCap xs) (hb : ys.length + sLen ≤ 140737488355328) (hB : B ≤ w.heap.size)
    (hK : ∀ v' w', Own w' B E v' (ys ++ xs) → w.grownBy w' v.ownBlock → wpList P ops Q rest (a.put o.dst v') w') :
    wpList P ops Q (o :: rest) a w := by
  obtain ⟨i0, hi, hz0, hz1, hz2⟩ := info_parts bt.info
  cases sp with
  | none =>
    have h0 : sCap = 0 := hrd.nil rfl
    have h1 : sLen = 0 := by have := hrd.le; omega
    subst h0 h1
    have hx : xs = [] := List.eq_nil_of_length_eq_zero hrd.len
    subst hx
    refine wpList_append_own_none hgd d s T ho B E i0 1 bt.sl hi v _ _ hd hown hs ?_
    exact hK v w (by simpa using hown) (World.grownBy.refl _ _)
  | some ad =>
    refine wpList_append_own w hgd d s T ho B E i0 (.int .u8 0) 1 1 bt.sl hi hz0 hz1 hz2 rfl (by decide) v _ _ hd hown ad sLen sCap (xs.map bv) hs (by simp [hrd.len]) hrd.cells bv_oneCell (by unfold maxLen; omega) (by omega) hB ?_
    intro v' w' h1 h2 _
    refine hK v' w' ?_ h2
    unfold Own
    rw [List.length_append, List.map_append, hrd.len]
    exact h1
end

theorem six_bit (v : Nat) : ∀ b ∈ six v, b < 2 := by
  intro b hb
  simp only [six, List.mem_cons, List.not_mem_nil, or_false] at hb
  rcases hb with rfl | rfl | rfl | rfl | rfl | rfl <;> omega
theorem bitsL_bit (l : List UInt8) (i : Nat) : (bitsL l).getD i 0 < 2 := by
  rw [List.getD_eq_getElem?_getD]
  cases h : (bitsL l)[i]? with
  | none => simp
  | some b =>
    have hm := List.mem_of_getElem? h
    obtain ⟨c, _, hc⟩ := List.mem_flatMap.1 hm
    exact six_bit _ b hc
theorem accB_lt (B : List Nat) (a : Nat) (h : ∀ i, B.getD i 0 < 2) : ∀ k, accB B a k < 2 ^ k
  | 0 => by simp [accB]
  | k + 1 => by
    have := accB_lt B a h k
    have := h (a + k)
    simp only [accB, Nat.pow_succ]
    omega
theorem outB_succ (B : List Nat) (j : Nat) : outB B (j + 1) = outB B j ++ [UInt8.ofNat (accB B (8 * j) 8)] := by
  unfold outB
  rw [List.range_succ, List.map_append]
  rfl
theorem outB_len (B : List Nat) (j : Nat) : (outB B j).length = j := by simp [outB]
theorem zeroB_at (B : List Nat) (a : Nat) : zeroB B a = true ↔ ∀ t, a ≤ t → t < B.length → B.getD t 0 = 0 := by
  unfold zeroB
  rw [List.all_eq_true]
  constructor
  · intro h t h1 h2
    have hm : B[t] ∈ B.drop a := List.mem_drop_iff_getElem.2 ⟨t - a, by omega, by congr 1; omega⟩
    have := h _ hm
    rw [List.getD_eq_getElem?_getD, List.getElem?_eq_getElem h2]
    simpa using this
  · intro h x hx
    obtain ⟨i, hi, rfl⟩ := List.mem_drop_iff_getElem.1 hx
    have := h (a + i) (by omega) (by omega)
    rw [List.getD_eq_getElem?_getD, List.getElem?_eq_getElem (by omega)] at this
    simpa using this

/-- one more '=' is seen -/
theorem padN_cases (l : List UInt8) (h4 : l.length % 4 = 0) : (l.length = 0 ∧ padN l = 0) ∨ (4 ≤ l.length ∧ l.getD (l.length - 1) 0 ≠ 61 ∧ padN l = 0) ∨ (4 ≤ l.length ∧ l.getD (l.length - 1) 0 = 61 ∧ l.getD (l.length - 2) 0 ≠ 61 ∧ padN l = 1) ∨ (4 ≤ l.length ∧ l.getD (l.length - 1) 0 = 61 ∧ l.getD (l.length - 2) 0 = 61 ∧ padN l = 2) := by
  unfold padN
  by_cases h0 : l.length = 0
  · exact .inl ⟨h0, by rw [if_pos h0]⟩
  · rw [if_neg h0]
    have : 4 ≤ l.length := by omega
    by_cases h1 : l.getD (l.length - 1) 0 = 61
    · rw [if_pos h1]
      by_cases h2 : l.getD (l.length - 2) 0 = 61
      · exact .inr (.inr (.inr ⟨this, h1, h2, by rw [if_pos h2]⟩))
      · exact .inr (.inr (.inl ⟨this, h1, h2, by rw [if_neg h2]⟩))
    · exact .inr (.inl ⟨this, h1, by rw [if_neg h1]⟩)

set_option maxRecDepth 100000 in
set_option maxHeartbeats 1600000 in
theorem rTake_any (s : ByteArray) (w : World) (hs : s.size ≤ 1048576) : Calls Try.prog 8 #[.string s] w (TRes (takeB s.data.toList) w) := by
  have hls : s.data.toList.length = s.size := by simp
  obtain ⟨r, hr⟩ : ∃ r, r = takeB s.data.toList := ⟨_, rfl⟩
  rw [← hr]
  have HR := Lib.hid hr
  clear hr
  have HIX := Lib.hid fun (i : Nat) (h : i < s.size) (W : World) => str_index (P := Try.prog) Try.underlying9 s i h W
  obtain ⟨l, hl⟩ : ∃ l, l = s.data.toList := ⟨_, rfl⟩
  rw [← hl] at HR HIX hls
  clear hl
  obtain ⟨n, hn⟩ : ∃ n, n = s.size := ⟨_, rfl⟩
  have hsn : (s.size : Int) = (n : Int) := by omega
  rw [← hn] at hs hls
  have HN := Lib.hid hn
  clear hn
  by_cases h4 : n % 4 = 0
  · have h4' : (n : Int) % 4 = 0 := by omega
    have hpc := padN_cases l (by rw [hls]; exact h4)
    rw [hls] at hpc
    obtain ⟨P, hP⟩ : ∃ P, P = padN l := ⟨_, rfl⟩
    rw [← hP] at hpc
    have HPD := Lib.hid hP
    clear hP
    go_enter Try.func8, Try.ntmps8
    go_upto_block 0 with fail
    clear h4'
    go_cut [4] (fun p wx => wx = w ∧ p = .int .i64 (P : Int))
    case first =>
      go_wp2_with fail
      go_loopw [4] (fun p wx => ∃ k : Nat, k ≤ P ∧ p = .int .i64 k ∧ wx = w) (fun p _ => 2 - (intOf p).toNat)
      case atStart => exact ⟨0, by omega, rfl, rfl⟩
      case round =>
        obtain ⟨k, hk, rfl, hw⟩ := hrel
        subst hw
        have hk3 : k = 0 ∨ k = 1 ∨ k = 2 := by omega
        rcases hpc with ⟨h0, hP⟩ | ⟨h0, hl1, hP⟩ | ⟨h0, hl1, hl2, hP⟩ | ⟨h0, hl1, hl2, hP⟩
        · subst hP
          obtain rfl : k = 0 := by omega
          rw [show ((0 : Nat) : Int) = 0 from rfl]
          have hz : ¬ (0 : Int) < (n : Int) := by omega
          clear h0
          go_wp2_with fail
          go_meet
          exact ⟨rfl, rfl⟩
        · subst hP
          obtain rfl : k = 0 := by omega
          rw [show ((0 : Nat) : Int) = 0 from rfl]
          obtain ⟨m, hm⟩ : ∃ m, m = n - 1 := ⟨_, rfl⟩
          have em : (n : Int) - 1 = (m : Int) := by omega
          have hz : (0 : Int) < (n : Int) := by omega
          have i0 := HIX.out m (by have := HN.out; omega)
          have hv : ¬ ((l.getD m 0).toNat : Int) = 61 := fun e => hl1 (by rw [← hm]; exact UInt8.toNat_inj.1 (by show _ = 61; omega))
          clear hm hl1
          generalize ((l.getD m 0).toNat : Int) = z at *
          go_wp2_with fail
          go_meet
          exact ⟨rfl, rfl⟩
        · subst hP
          obtain ⟨m, hm⟩ : ∃ m, m = n - 1 := ⟨_, rfl⟩
          have em : (n : Int) - 1 = (m : Int) := by omega
          obtain ⟨m2, hm2⟩ : ∃ m2, m2 = n - 2 := ⟨_, rfl⟩
          have em2 : (m : Int) - 1 = (m2 : Int) := by omega
          have hz : (0 : Int) < (n : Int) := by omega
          have hz1 : (1 : Int) < (n : Int) := by omega
          have i0 := HIX.out m (by have := HN.out; omega)
          have i1 := HIX.out m2 (by have := HN.out; omega)
          have hv : ((l.getD m 0).toNat : Int) = 61 := by rw [hm, hl1]; rfl
          have hv2 : ¬ ((l.getD m2 0).toNat : Int) = 61 := fun e => hl2 (by rw [← hm2]; exact UInt8.toNat_inj.1 (by show _ = 61; omega))
          rw [hv] at i0
          clear hm hl1 hm2 hl2 hv h0
          generalize ((l.getD m2 0).toNat : Int) = z at *
          rcases hk3 with rfl | rfl | rfl
          · rw [show ((0 : Nat) : Int) = 0 from rfl]
            go_wp2_with fail
            go_roundw
            case rel => exact ⟨1, by omega, rfl, trivial⟩
            case measure => simp [intOf]
          · rw [show ((1 : Nat) : Int) = 1 from rfl]
            go_wp2_with fail
            go_meet
            exact ⟨rfl, rfl⟩
          · omega
        · subst hP
          obtain ⟨m, hm⟩ : ∃ m, m = n - 1 := ⟨_, rfl⟩
          have em : (n : Int) - 1 = (m : Int) := by omega
          obtain ⟨m2, hm2⟩ : ∃ m2, m2 = n - 2 := ⟨_, rfl⟩
          have em2 : (m : Int) - 1 = (m2 : Int) := by omega
          have hz : (0 : Int) < (n : Int) := by omega
          have hz1 : (1 : Int) < (n : Int) := by omega
          have i0 := HIX.out m (by have := HN.out; omega)
          have i1 := HIX.out m2 (by have := HN.out; omega)
          have hv : ((l.getD m 0).toNat : Int) = 61 := by rw [hm, hl1]; rfl
          have hv2 : ((l.getD m2 0).toNat : Int) = 61 := by rw [hm2, hl2]; rfl
          rw [hv] at i0
          clear hm hl1 hm2 hl2 hv h0
          rw [hv2] at i1
          clear hv2
          rcases hk3 with rfl | rfl | rfl
          · rw [show ((0 : Nat) : Int) = 0 from rfl]
            go_wp2_with fail
            go_roundw
            case rel => exact ⟨1, by omega, rfl, trivial⟩
            case measure => simp [intOf]
          · rw [show ((1 : Nat) : Int) = 1 from rfl]
            go_wp2_with fail
            go_roundw
            case rel => exact ⟨2, by omega, rfl, trivial⟩
            case measure => simp [intOf]
          · rw [show ((2 : Nat) : Int) = 2 from rfl]
            go_wp2_with fail
            go_meet
            exact ⟨rfl, rfl⟩
    obtain ⟨rfl, rfl⟩ := hcut
    obtain ⟨m, hm⟩ : ∃ m, m = n - P := ⟨_, rfl⟩
    have hPn : P ≤ n := by omega
    have hmi : (n : Int) - (P : Int) = (m : Int) := by omega
    have hmn : m ≤ n := by omega
    have HM := Lib.hid hm
    obtain ⟨g, hg⟩ : ∃ g, g = wc.heap.size := ⟨_, rfl⟩
    have HG := Lib.hid hg
    have hB0 : Below g wc wc := Below.refl _ _
    have hr0 : wc.ownsRow g 3 1 (.slice none 0 0) 0 [] := World.ownsRow_nil ..
    obtain ⟨iI, hiI, zI0, zI1, zI2⟩ := info_parts infoI
    clear hpc hm hg hPn
    go_wp2_with fail
    go_loopw [5, 6] (fun bs i wr => ∃ k : Nat, k ≤ m ∧ i = .int .i64 k ∧ Hid (∀ j, j < k → isL (l.getD j 0) = true) ∧ wr.ownsRow g 3 1 bs (6 * k) ((bitsL (l.take k)).map iv) ∧ Below g wc wr) (fun _ i _ => m - (intOf i).toNat)
    case atStart => exact ⟨0, by omega, rfl, fun j hj => by omega, by simpa [bitsL] using hr0, hB0⟩
    case round =>
      clear hr0 hB0
      obtain ⟨k, hk, rfl, HL, hrow, hB⟩ := hrel
      by_cases hlt : k < m
      · have hc : (k : Int) < (m : Int) := by omega
        have i0 := HIX.out k (by have := HN.out; omega)
        obtain ⟨c, hcd⟩ : ∃ c, c = l.getD k 0 := ⟨_, rfl⟩
        rw [← hcd] at i0
        by_cases hL : isL c = true
        · obtain ⟨v, hv⟩ : ∃ v, v = num c := ⟨_, rfl⟩
          have hv64 : v < 64 := by rw [hv]; exact num_lt hL
          have hI : Hid (numI c = (v : Int)) := by show _ = _; unfold numI; rw [if_pos hL, hv]
          have hbits : bitsL (l.take (k + 1)) = bitsL (l.take k) ++ six v := by
            rw [List.take_succ_eq_append_getElem (by omega), hv, hcd]
            unfold bitsL
            rw [List.flatMap_append]
            simp only [List.flatMap_cons, List.flatMap_nil, List.append_nil]
            rw [List.getD_eq_getElem?_getD, List.getElem?_eq_getElem (by omega)]
            rfl
          have HB := Lib.hid hbits
          have HCD := Lib.hid hcd
          have HCL := Lib.hid hL
          clear hbits hcd hL hv
          have hlen : (bitsL (l.take k)).length = 6 * k := by rw [bitsL_len, List.length_take]; omega
          generalize bitsL (l.take k) = B at *
          have HBL := Lib.hid hlen
          clear hlen
          go_wp2_with (go_at_call 15; refine (rnumber_any c _).mono ?_; rintro e w1 ⟨rfl, rfl⟩; rw [hI.out])
          go_loopw [5, 8] (fun bs i wx => ∃ j : Nat, j ≤ 6 ∧ i = .int .i64 ((5 : Int) - (j : Int)) ∧ wx.ownsRow g 3 1 bs (6 * k + j) ((B ++ (six v).take j).map iv) ∧ Below g wc wx) (fun _ i _ => (intOf i + 1).toNat)
          case atStart => exact ⟨0, by omega, rfl, by simpa using hrow, hB⟩
          case round =>
            clear hrow hB
            obtain ⟨j, hj, rfl, hrow, hB⟩ := hrel
            by_cases hj6 : j < 6
            · obtain ⟨b, hb⟩ : ∃ b, b = 5 - j := ⟨_, rfl⟩
              have eb : (5 : Int) - (j : Int) = (b : Int) := by omega
              have hb0 : (0 : Int) ≤ (b : Int) := by omega
              have HBB := Lib.hid hb
              have hb5 : b ≤ 5 := by omega
              clear hb
              rw [eb]
              have hu2 : Hid (bits BinOp.and IntKind.i64 ((v : Int) / 2 ^ b) 1 = ((v / 2 ^ b % 2 : Nat) : Int)) := by
                have e : (v : Int) / 2 ^ b = ((v / 2 ^ b : Nat) : Int) := by rw [Int.natCast_ediv, Int.natCast_pow]; rfl
                have hlt : v / 2 ^ b < 64 := Nat.lt_of_le_of_lt (Nat.div_le_self _ _) hv64
                show _ = _
                rw [e]
                exact and_one _ hlt
              have hs6 := six_at v j hj6
              rw [← HBB.out] at hs6
              obtain ⟨u, hu⟩ : ∃ u, u = v / 2 ^ b % 2 := ⟨_, rfl⟩
              rw [← hu] at hu2 hs6
              have HS6 := Lib.hid hs6
              clear hs6 hu
              have hgs := hB.size
              have hgw : g ≤ wr.heap.size := by rw [HG.out]; exact hgs
              go_wp2_with (at_builtin; refine stand ?_)
              rw [hu2.out]
              unfold Stand
              refine wpList_append_own _ rfl (.tmp 56) (.tmp 62) 42 rfl g 3 iI _ 1 8 Try.underlying42 hiI zI0 zI1 zI2 rfl (by decide) _ (6 * k + j) _ rfl (World.ownsRow.alloc hrow _) ⟨wr.heap.size, 0, none⟩ 1 1 [iv u] rfl rfl (World.news_of_block (cs := #[iv u]) (heap_alloc_new wr _)) (by intro x hx; simp at hx; subst hx; rfl) (by unfold maxLen; omega) (by omega) (by rw [World.size_alloc]; omega) ?_
              intro bs' w5 hr5 hg5 _
              have hB5 := (hB.alloc hgw _).grown hg5 (by rw [World.size_alloc]; omega) (fun q e => (World.ownsRow.lt hrow q e).1)
              clear hrow hB hg5 hgs hgw
              go_wp2_with fail
              go_roundw
              case rel => exact ⟨j + 1, by omega, by show Value.int _ _ = Value.int _ _; congr 1; omega, by rw [HS6.out, ← List.append_assoc, List.map_append]; exact hr5, hB5⟩
              case measure => simp [intOf] <;> omega
            · have hj6' : j = 6 := by omega
              subst hj6'
              rw [show (5 : Int) - ((6 : Nat) : Int) = -1 from rfl]
              rw [show (six v).take 6 = six v from rfl, ← HB.out] at hrow
              go_wp2_with fail
              go_roundw
              case rel => exact ⟨k + 1, by omega, by go_num, fun j hj => by
                by_cases hjk : j = k
                · subst hjk; rw [← HCD.out]; exact HCL.out
                · exact HL.out j (by omega), hrow, hB⟩
              case measure => simp [intOf] <;> omega
        · have hI : Hid (numI c = -1) := by show _ = _; unfold numI; rw [if_neg hL]
          have hr : r = none := by
            rw [HR.out]
            unfold takeB
            rw [hls, if_pos h4, if_neg]
            intro h
            have h1 := List.all_eq_true.1 h c (by
              rw [hcd, ← HPD.out, ← HM.out, List.getD_eq_getElem?_getD, List.getElem?_eq_getElem (by omega)]
              exact List.mem_take_iff_getElem.2 ⟨k, by omega, rfl⟩)
            exact hL h1
          rw [hr]
          have HRN := Lib.hid hr
          clear hL hr hcd
          go_wp2_with (go_at_call 15; refine (rnumber_any c _).mono ?_; rintro e w1 ⟨rfl, rfl⟩; rw [hI.out])
          go_ret2
          exact ⟨_, rfl, Own.nil _ _ _, HG.out ▸ hB⟩
      · have hc : ¬ (k : Int) < (m : Int) := by omega
        have hkm : k = m := by omega
        rw [hkm] at hrow HL
        have hall : (l.take m).all isL = true := by
          rw [List.all_eq_true]
          intro x hx
          obtain ⟨i, hi, rfl⟩ := List.mem_take_iff_getElem.1 hx
          have := HL.out i (by omega)
          rw [List.getD_eq_getElem?_getD, List.getElem?_eq_getElem (by omega)] at this
          exact this
        have hBlen : (bitsL (l.take m)).length = 6 * m := by rw [bitsL_len, List.length_take]; omega
        have hbit := bitsL_bit (l.take m)
        have hr : r = if zeroB (bitsL (l.take m)) (8 * ((bitsL (l.take m)).length / 8)) = true then some (outB (bitsL (l.take m)) ((bitsL (l.take m)).length / 8)) else none := by
          rw [HR.out]
          unfold takeB
          rw [hls, if_pos h4, ← HPD.out, ← HM.out, if_pos hall]
        generalize bitsL (l.take m) = B at *
        obtain ⟨J, hJ⟩ : ∃ J, J = B.length / 8 := ⟨_, rfl⟩
        rw [← hJ] at hr
        obtain ⟨L, hL⟩ : ∃ L, L = 6 * m := ⟨_, rfl⟩
        rw [← hL] at hrow hBlen
        rw [hBlen] at hJ
        have hL6 : L ≤ 6291456 := by omega
        have HRR := Lib.hid hr
        have HBL := Lib.hid hBlen
        have HBT := Lib.hid hbit
        clear hr hBlen hbit hL hall HL hkm hlt hk
        obtain ⟨pb, cb, rfl, hcb⟩ := row_shape hrow
        have hgw : g ≤ wr.heap.size := by have := hB.size; rw [HG.out]; exact this
        have ho0 : Own wr g 5 (.slice none 0 0) (outB B 0) := Own.nil _ _ _
        go_wp2_with fail
        go_loopw [9, 10] (fun o a wr => ∃ j : Nat, j ≤ J ∧ a = .int .i64 ((8 * j : Nat) : Int) ∧ Own wr g 5 o (outB B j) ∧ wr.ownsRow g 3 1 (.slice pb L cb) L (B.map iv) ∧ Below g wc wr ∧ g ≤ wr.heap.size) (fun _ a _ => 8 * J - (intOf a).toNat)
        case atStart => exact ⟨0, by omega, rfl, ho0, hrow, hB, hgw⟩
        case round =>
          clear ho0 hrow hB hgw hc
          obtain ⟨j, hj, rfl, ho, hrow, hB, hgw⟩ := hrel
          obtain ⟨a, ha⟩ : ∃ a, a = 8 * j := ⟨_, rfl⟩
          rw [← ha]
          by_cases hjJ : j < J
          · have hc : (a : Int) + 8 ≤ (L : Int) := by omega
            have ha8 : a + 8 ≤ L := by omega
            obtain ⟨q, rfl, hq, hcells⟩ := row_at hrow (by omega)
            have HCE := Lib.hid hcells
            have HAA := Lib.hid ha
            clear hcells ha
            go_wp2_with fail
            obtain ⟨wo, hwo⟩ : ∃ wo : World, wo = wr := ⟨_, rfl⟩
            go_loopw [11, 12] (fun x i wx => ∃ k : Nat, k ≤ 8 ∧ i = .int .i64 k ∧ x = .int .i64 (accB B a k : Nat) ∧ wx = wo) (fun _ i _ => 8 - (intOf i).toNat)
            case atStart => exact ⟨0, by omega, rfl, rfl, hwo.symm⟩
            case round =>
              obtain ⟨k, hk, rfl, rfl, hw⟩ := hrel
              rw [hwo] at hw
              subst hw
              by_cases hk8 : k < 8
              · have hc8 : (k : Int) < 8 := by omega
                have hb2 := HBT.out (a + k)
                have ck := (HCE.out (a + k) (by rw [List.length_map, HBL.out]; omega)).trans (show (B.map iv)[a + k]? = some (.int .i64 (B.getD (a + k) 0 : Nat)) by
                  have hlt : a + k < B.length := by rw [HBL.out]; omega
                  rw [List.getElem?_map, List.getD_eq_getElem?_getD, List.getElem?_eq_getElem hlt]; rfl)
                have hx256 : accB B a k < 256 := Nat.lt_of_lt_of_le (accB_lt B a HBT.out k) (by
                  have : 2 ^ k ≤ 2 ^ 8 := Nat.pow_le_pow_right (by omega) (by omega)
                  exact this)
                have hsuc : accB B a (k + 1) = 2 * accB B a k + B.getD (a + k) 0 := rfl
                generalize accB B a k = x at *
                generalize B.getD (a + k) 0 = u at *
                have HSU := Lib.hid hsuc
                have hakL : a + k < L := by omega
                have hakI : (a : Int) + (k : Int) < (L : Int) := by omega
                clear hsuc
                go_wp2_with fail
                go_roundw
                case rel => exact ⟨k + 1, by omega, by go_num, by rw [HSU.out]; show Value.int _ _ = Value.int _ _; congr 1 <;> omega, hwo.symm⟩
                case measure => simp [intOf] <;> omega
              · have hc8 : ¬ (k : Int) < 8 := by omega
                have hk8' : k = 8 := by omega
                rw [hk8']
                have hx256 : accB B a 8 < 256 := accB_lt B a HBT.out 8
                have hos := outB_succ B j
                rw [← HAA.out] at hos
                have hol := outB_len B j
                generalize accB B a 8 = x at *
                have hraw : Hid (((UInt8.ofNat x).toNat : Int) = (x : Int)) := by
                  show _ = _
                  rw [UInt8.toNat_ofNat']
                  omega
                have HOS := Lib.hid hos
                clear hos hk8' hk hk8 hc8
                subst hwo
                generalize outB B j = O at *
                obtain ⟨oa, oc, rfl, -⟩ := ho.shape
                have hrd : Rd (wo.alloc (.cells #[.int .u8 (x : Int)] 5)) (some ⟨wo.heap.size, 0, none⟩) 1 1 [UInt8.ofNat x] := by
                  have h := rd_lit wo [UInt8.ofNat x] 5
                  rw [show ([UInt8.ofNat x].map bv).toArray = #[.int .u8 (x : Int)] from by rw [← hraw.out]; rfl] at h
                  exact h
                have HRD := Lib.hid hrd
                clear hrd
                go_wp2_with (at_builtin; refine stand ?_)
                unfold Stand
                refine wl_append_g bt rfl (.tmp 84) (.tmp 87) rfl g _ O (ho.to ((Below.refl _ _).alloc (Nat.le_refl _) _)) rfl (some ⟨wo.heap.size, 0, none⟩) 1 1 [UInt8.ofNat x] rfl HRD.out (by omega) (by rw [World.size_alloc]; omega) ?_
                intro v5 w5 ho5 hg5
                rw [← HOS.out] at ho5
                have hrow5 := World.ownsRow.kept (World.ownsRow.alloc hrow _) hg5 (row_ne hrow ho (show (3 : Nat) ≠ 5 by decide))
                have hB5 := (hB.alloc hgw _).grown hg5 (by rw [World.size_alloc]; omega) (fun q e => (World.ownsRow.lt ho q e).1)
                have hgw5 : g ≤ w5.heap.size := by have h := hg5.size; rw [World.size_alloc] at h; omega
                clear ho hrow hB hgw hg5
                go_wp2_with fail
                go_roundw
                case rel => exact ⟨j + 1, by omega, by have := HAA.out; show Value.int _ _ = Value.int _ _; congr 1; omega, ho5, hrow5, hB5, hgw5⟩
                case measure => simp [intOf] <;> omega
          · have hc : ¬ (a : Int) + 8 ≤ (L : Int) := by omega
            have hjJ' : j = J := by omega
            rw [hjJ'] at ho
            have hol := outB_len B J
            generalize outB B J = O at *
            obtain ⟨oa, oc, rfl, -⟩ := ho.shape
            rw [hol] at ho ⊢
            have HOL := Lib.hid hol
            have haB : a ≤ 8388608 := by omega
            have haI : (a : Int) ≤ 8388608 := by omega
            have hzL0 : 8 * J ≤ L := by omega
            clear hol hjJ' hj hjJ ha hJ
            obtain ⟨z, hz⟩ : ∃ z, z = 8 * J := ⟨_, rfl⟩
            have hzi : (8 : Int) * (J : Int) = (z : Int) := by omega
            rw [← hz] at HRR
            have hzL : z ≤ L := by omega
            clear hzL0
            have HZ := Lib.hid hz
            clear hz
            go_wp2_with fail
            go_loopw [13] (fun a wx => ∃ i : Nat, z ≤ i ∧ i ≤ L ∧ a = .int .i64 i ∧ Hid (∀ t, z ≤ t → t < i → B.getD t 0 = 0) ∧ Own wx g 5 (.slice oa J oc) O ∧ wx.ownsRow g 3 1 (.slice pb L cb) L (B.map iv) ∧ Below g wc wx) (fun a _ => L - (intOf a).toNat)
            case atStart => exact ⟨z, Nat.le_refl _, hzL, rfl, fun t h1 h2 => by omega, ho, hrow, hB⟩
            case round =>
              clear ho hrow hB
              obtain ⟨i, hzi2, hiL, rfl, HZR, ho, hrow, hB⟩ := hrel
              by_cases hi : i < L
              · have hci : (i : Int) < (L : Int) := by omega
                obtain ⟨q, rfl, hq, hcells⟩ := row_at hrow (by omega)
                have ck := (hcells i (by rw [List.length_map, HBL.out]; omega)).trans (show (B.map iv)[i]? = some (.int .i64 (B.getD i 0 : Nat)) by
                  have hlt : i < B.length := by rw [HBL.out]; omega
                  rw [List.getElem?_map, List.getD_eq_getElem?_getD, List.getElem?_eq_getElem hlt]; rfl)
                clear hcells
                obtain ⟨u, hu⟩ : ∃ u, u = B.getD i 0 := ⟨_, rfl⟩
                rw [← hu] at ck
                have HUU := Lib.hid hu
                clear hu
                by_cases hu0 : u = 0
                · have hui : (u : Int) = 0 := by omega
                  rw [hui] at ck
                  have HU0 := Lib.hid hu0
                  clear hui hu0
                  go_wp2_with fail
                  go_roundw
                  case rel => exact ⟨i + 1, by omega, by omega, by go_num, fun t h1 h2 => by
                    by_cases hti : t = i
                    · subst hti; rw [← HUU.out]; exact HU0.out
                    · exact HZR.out t h1 (by omega), ho, hrow, hB⟩
                  case measure => simp [intOf] <;> omega
                · have hui : ¬ (u : Int) = 0 := by omega
                  have hr : r = none := by
                    rw [HRR.out, if_neg]
                    intro h
                    exact hu0 (by rw [HUU.out]; exact (zeroB_at B z).1 h i hzi2 (by rw [HBL.out]; exact hi))
                  rw [hr]
                  clear hr
                  go_wp2_with fail
                  go_ret2
                  exact ⟨_, rfl, Own.nil _ _ _, HG.out ▸ hB⟩
              · have hci : ¬ (i : Int) < (L : Int) := by omega
                have hr : r = some O := by
                  rw [HRR.out, if_pos]
                  exact (zeroB_at B z).2 fun t h1 h2 => HZR.out t h1 (by rw [HBL.out] at h2; omega)
                have HRS := Lib.hid hr
                clear hr
                go_wp2_with fail
                go_ret2
                refine ⟨.slice oa J oc, ?_, ?_, HG.out ▸ hB⟩
                · rw [HRS.out]; rfl
                · rw [HRS.out]; exact HG.out ▸ ho
  · have h4' : ¬ (n : Int) % 4 = 0 := by omega
    have hr : r = none := by rw [HR.out]; exact takeB_mod (by rw [hls]; exact h4)
    rw [hr]
    clear hr
    go_enter Try.func8, Try.ntmps8
    go_wp2_with fail
    go_ret2
    exact ⟨_, rfl, Own.nil _ _ _, Below.refl _ _⟩
end Go.Proofs.Ytpfhbkjjijmpaaa
