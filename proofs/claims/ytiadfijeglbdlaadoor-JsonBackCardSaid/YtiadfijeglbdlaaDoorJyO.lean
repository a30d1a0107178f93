/-
  The program's reader: texts. Conditions: those in each statement.
-/
import Derived.Test.YtiadfijeglbdlaaDoorJyG
import Derived.Test.YtiadfijeglbdlaaDoorJyA
namespace Go.Proofs.YtiadfijeglbdlaaDoor
open Go.RowKit

/-- the frame of text: what was read, the first half of two -/
def FrT (R : Nat) (v s6 : Value) (a : Act) : Prop := ∃ u1 u2 u3 u5 u7 u8 u9 u10 u11 u12 u13 u14 u15 u16 u17 u18 u19 u20 u21 u22 u23 u24 u25 u26 u27 u28 u29 u30 u31 u32 u33 u34 u35 u36 u37 u38 u39 u40 u41 u42 u43 u44 u45 u46 u47 u48 u49 u50 u51 u52 u53 u54 u55 u56 u57 u58 u59 u60 u61 u62 u63 u64 u65 u66 u67 u68 u69 u70 u71 u72 u73 u74 u75 u76 u77 u78 u79 u80 u81 u82 u83 u84 : Value, a = ⟨#[(.pointer (some ⟨R, 0, none⟩)), u1, u2, u3, v, u5, s6, u7, u8, u9, u10, u11, u12, u13, u14, u15, u16, u17, u18, u19, u20, u21, u22, u23, u24, u25, u26, u27, u28, u29, u30, u31, u32, u33, u34, u35, u36, u37, u38, u39, u40, u41, u42, u43, u44, u45, u46, u47, u48, u49, u50, u51, u52, u53, u54, u55, u56, u57, u58, u59, u60, u61, u62, u63, u64, u65, u66, u67, u68, u69, u70, u71, u72, u73, u74, u75, u76, u77, u78, u79, u80, u81, u82, u83, u84], []⟩
/-- what text answers -/
def TextRes (res : Option (List UInt8 × List UInt8)) (w : World) (R : Nat) (e : Ending) (w' : World) : Prop :=
  w.grownBy w' (some R) ∧ match res with
  | some (s, q) => e = .returned (.tuple #[.string (bstr s), .bool true]) ∧ RdAt w' R q
  | none => e = .returned (.tuple #[.string ⟨#[]⟩, .bool false])
/-- between two labels: what was read (acc), what is left (ys) -/
structure TS (w : World) (R L : Nat) (acc ys : List UInt8) (f : Nat) (v : Value) (wr : World) : Prop where
  own : Own wr w.heap.size 5 v acc
  rd : RdAt wr R ys
  gb : w.grownBy wr (some R)
  len : acc.length + ys.length ≤ L
  lt : ys.length < f
/-- what holds at the labels -/
def TextJ (res : Option (List UInt8 × List UInt8)) (w : World) (R L : Nat) (l n : Nat) (a : Act) (wr : World) : Prop :=
  (l = 1 ∧ (∃ v s6, FrT R v s6 a) ∧ w.grownBy wr (some R) ∧ res = none ∧ n = 0) ∨
  ∃ acc ys f v s6, FrT R v s6 a ∧ TS w R L acc ys f v wr ∧ n = 2 * ys.length + 1 ∧ ((l = 2 ∧ res = aheadF acc (strF f ys)) ∨ (l = 0 ∧ res = aheadF acc (escT f ys)) ∨ (l = 3 ∧ res = aheadF acc (digF f ys)) ∨ (l = 4 ∧ ∃ m : Nat, s6 = .int .i32 (m : Int) ∧ 55296 ≤ m ∧ m < 56320 ∧ res = aheadF acc (pairF f m ys)))
theorem TextJ.lt {res : Option (List UInt8 × List UInt8)} {w : World} {R L l n : Nat} {a : Act} {wr : World} (h : TextJ res w R L l n a wr) : l < 5 := by
  rcases h with ⟨rfl, _⟩ | ⟨_, _, _, _, _, _, _, _, ⟨rfl, _⟩ | ⟨rfl, _⟩ | ⟨rfl, _⟩ | ⟨rfl, _⟩⟩ <;> omega
theorem Own.past {w w' : World} {B R : Nat} {v : Value} {xs : List UInt8} (h : Own w B 5 v xs) (hg : w.grownBy w' (some R)) (hR : R < B) : Own w' B 5 v xs := by
  refine World.ownsRow.kept h hg ?_
  by_cases hv : v.ownBlock = none
  · exact .inl hv
  · right
    intro e
    have := (World.ownsRow.lt h R e).1
    omega

theorem gb_below {w w2 w5 : World} {R : Nat} (h : w.grownBy w2 (some R)) (hb : Below w.heap.size w2 w5) : w.grownBy w5 (some R) :=
  ⟨hb.os.trans h.os, hb.tape.trans h.tape, hb.output.trans h.output, Nat.le_trans h.size hb.size, fun i hi hr => (hb.block i hi).trans (h.block i hi hr)⟩
theorem RdAt.below {w w' : World} {R B : Nat} {xs : List UInt8} (h : RdAt w R xs) (hb : Below B w w') (hR : R < B) : RdAt w' R xs := by
  obtain ⟨a, c, h1, h2⟩ := h
  refine ⟨a, c, h1.to hb hR, h2.le, h2.big, fun h0 => ?_⟩
  obtain ⟨b, off, e, k1, k2, k3⟩ := h2.mem h0
  exact ⟨b, off, e, k1, Nat.lt_of_lt_of_le k2 hb.size, fun j hj => (hb.cell (p := ⟨b, off + j, none⟩) (show b < B by omega)).trans (k3 j hj)⟩

theorem four_lt (xs : List UInt8) (m : Nat) (r : List UInt8) (h : fourF xs = some (m, r)) : m < 65536 := by
  unfold fourF at h
  split at h
  · split at h
    · rename_i h1 h2 h3 h4
      have := hexV_lt h1
      have := hexV_lt h2
      have := hexV_lt h3
      have := hexV_lt h4
      cases h
      omega
    · cases h
  · cases h
theorem rune_any (v : Value) (acc : List UInt8) (m : Nat) (W : World) (B : Nat) (h : Own W B 5 v acc) (hs : B ≤ W.heap.size) (h1 : ¬ (55296 ≤ m ∧ m < 57344)) (h2 : m ≤ 1114111) (hl : acc.length + 4 ≤ 140737488355328) :
    Calls Tryd.prog 74 #[v, .int .i32 (m : Int)] W fun e w' => ∃ v', e = .returned v' ∧ Own w' B 5 v' (acc ++ runeF m) ∧ Below B W w' := by
  refine (Tryd.utf8_AppendRune_plain B v acc.length (acc.map bv) (m : Int) (by omega) (by omega) W h hl hs).mono ?_
  rintro e w' ⟨v', rfl, ho, o, hg⟩
  refine ⟨v', rfl, ?_, ?_⟩
  · unfold Own
    rw [rune_cells m h1 h2] at ho
    rw [List.map_append, List.length_append]
    rw [List.length_map] at ho
    exact ho
  · refine ((Below.refl W.heap.size W).alloc (Nat.le_refl _) o |>.mono hs).trans ?_
    exact ⟨hg.os, hg.tape, hg.output, hg.size, fun i hi => hg.block i (by rw [World.size_alloc]; omega) (fun e => by have := World.ownsRow.lt h i e.symm; omega)⟩

set_option maxRecDepth 100000 in
set_option maxHeartbeats 6400000 in
theorem text_any (R : Nat) (xs : List UInt8) (w : World) (h : RdAt w R xs) (hlim : xs.length ≤ 140737488355000) :
    Calls Tryd.prog 60 #[.pointer (some ⟨R, 0, none⟩)] w (TextRes (strF (xs.length + 1) xs) w R) := by
  have hRw := h.lt
  obtain ⟨res, hres⟩ : ∃ res, res = strF (xs.length + 1) xs := ⟨_, rfl⟩
  rw [← hres]
  have HRES := Lib.hid hres
  clear hres
  go_enter Tryd.func60, Tryd.ntmps60
  go_wp2
  obtain ⟨L, hL⟩ : ∃ L, L = xs.length := ⟨_, rfl⟩
  have HL := Lib.hid hL
  clear hL
  refine wp_scope_five (TextJ res w R L) rfl rfl rfl rfl rfl (fun l n a w h => h.lt) ?_ ?_ ?_ ?_ ?_ ?_
  · go_wp2
    go_step3
    obtain ⟨f, hf⟩ : ∃ f, f = xs.length := ⟨_, rfl⟩
    obtain ⟨acc, hacc⟩ : ∃ acc : List UInt8, acc = [] := ⟨_, rfl⟩
    have he : Hid (res = aheadF acc (strF (f + 1) xs)) := by
      show _ = _
      rw [HRES.out, hf, hacc]
      cases strF (xs.length + 1) xs <;> rfl
    have ts : TS w R L acc xs (f + 1) (.slice none 0 0) w := ⟨by rw [hacc]; exact Own.nil _ _ _, h, World.grownBy.refl _ _, by have := HL.out; rw [hacc, List.length_nil]; omega, by omega⟩
    have hlimL : L ≤ 140737488355000 := by have := HL.out; omega
    clear h HL HRES hf hacc hlim
    obtain ⟨ys, hys⟩ : ∃ ys, ys = xs := ⟨_, rfl⟩
    rw [← hys] at he ts
    clear hys
    obtain ⟨own, rd, gb0, len, lt⟩ := ts
    have OWN := Lib.hid own
    have GB := Lib.hid gb0
    have LEN := Lib.hid len
    have LT := Lib.hid lt
    have HG := Lib.hid (Nat.le_refl w.heap.size)
    clear len lt
    cases ys with
    | nil =>
      have hnx : Hid (Calls Tryd.prog 69 #[.pointer (some ⟨R, 0, none⟩)] w fun e w' => e = .returned (.int .u8 0) ∧ RdAt w' R [] ∧ w.grownBy w' (some R)) := next_any R [] w rd
      have HF : Hid (res = none) := by show _ = _; rw [he.out]; rfl
      clear rd own gb0 he
      go_wp2_with (go_at_call 69; refine hnx.out.mono ?_; rintro e w2 ⟨rfl, hr2, hg2⟩)
      go_step3
      exact ⟨_, .inl ⟨rfl, ⟨_, _, ⟨_, _, _, _, _, _, _, _, _, _, _, _, _, _, _, _, _, _, _, _, _, _, _, _, _, _, _, _, _, _, _, _, _, _, _, _, _, _, _, _, _, _, _, _, _, _, _, _, _, _, _, _, _, _, _, _, _, _, _, _, _, _, _, _, _, _, _, _, _, _, _, _, _, _, _, _, _, _, _, _, _, _, rfl⟩⟩, gb_trans GB.out hg2, HF.out, rfl⟩⟩
    | cons c r =>
      have hnx : Hid (Calls Tryd.prog 69 #[.pointer (some ⟨R, 0, none⟩)] w fun e w' => e = .returned (.int .u8 (c.toNat : Int)) ∧ RdAt w' R r ∧ w.grownBy w' (some R)) := next_any R (c :: r) w rd
      rw [strF_cons] at he
      by_cases h34 : c = 34
      · subst h34
        have HF : Hid (res = some (acc, r)) := by show _ = _; rw [he.out]; rw [if_neg (by decide), if_pos rfl]; simp [aheadF]
        have hst : Hid (∀ w2, Own w2 w.heap.size 5 (.slice none 0 0) acc → (convert 32 9 (.slice none 0 0)).run Tryd.prog w2 = .ok (.string (bstr acc)) w2) := fun w2 ho2 => by
          obtain ⟨a, l, cap, e, hrd⟩ := ho2.reads
          cases e
          exact run_bstr bt (by kernel_rfl) hrd.toRd
        clear rd own gb0 he
        go_wp2_with (go_at_call 69; refine hnx.out.mono ?_; rintro e w2 ⟨rfl, hr2, hg2⟩; have hcv := hst.out w2 (OWN.out.past hg2 hRw))
        try simp only [jumps]
        go_ret2
        show TextRes _ _ _ _ _
        rw [HF.out]
        exact ⟨gb_trans GB.out hg2, rfl, hr2⟩
      · have i34 : ¬ (c.toNat : Int) = 34 := fun e => h34 (UInt8.toNat_inj.1 (by rw [show (34 : UInt8).toNat = 34 from rfl]; omega))
        have j34 : ((c.toNat : Int) == 34) = false := beq_eq_false_iff_ne.2 i34
        have k34 : ¬ c.toNat = 34 := fun e => i34 (by omega)
        by_cases h92 : c = 92
        · subst h92
          have HF : Hid (res = aheadF acc (escT f r)) := by show _ = _; rw [he.out]; rw [if_neg (by decide), if_neg (by decide), if_neg (by decide)]
          clear rd own gb0 he
          go_wp2_with (go_at_call 69; refine hnx.out.mono ?_; rintro e w2 ⟨rfl, hr2, hg2⟩)
          go_step3
          exact ⟨_, .inr ⟨_, _, _, _, _, ⟨_, _, _, _, _, _, _, _, _, _, _, _, _, _, _, _, _, _, _, _, _, _, _, _, _, _, _, _, _, _, _, _, _, _, _, _, _, _, _, _, _, _, _, _, _, _, _, _, _, _, _, _, _, _, _, _, _, _, _, _, _, _, _, _, _, _, _, _, _, _, _, _, _, _, _, _, _, _, _, _, _, _, rfl⟩, ⟨OWN.out.past hg2 hRw, hr2, gb_trans GB.out hg2, (by have := LEN.out; simp only [List.length_cons] at this; omega), (by have := LT.out; simp only [List.length_cons] at this; omega)⟩, rfl, .inr (.inl ⟨rfl, HF.out⟩)⟩⟩
        · have i92 : ¬ (c.toNat : Int) = 92 := fun e => h92 (UInt8.toNat_inj.1 (by rw [show (92 : UInt8).toNat = 92 from rfl]; omega))
          have j92 : ((c.toNat : Int) == 92) = false := beq_eq_false_iff_ne.2 i92
          have k92 : ¬ c.toNat = 92 := fun e => i92 (by omega)
          by_cases h32 : c.toNat < 32
          · have i32 : (c.toNat : Int) < 32 := by omega
            have HF : Hid (res = none) := by show _ = _; rw [he.out]; rw [if_pos h32]; rfl
            clear rd own gb0 he
            go_wp2_with (go_at_call 69; refine hnx.out.mono ?_; rintro e w2 ⟨rfl, hr2, hg2⟩)
            go_step3
            exact ⟨_, .inl ⟨rfl, ⟨_, _, ⟨_, _, _, _, _, _, _, _, _, _, _, _, _, _, _, _, _, _, _, _, _, _, _, _, _, _, _, _, _, _, _, _, _, _, _, _, _, _, _, _, _, _, _, _, _, _, _, _, _, _, _, _, _, _, _, _, _, _, _, _, _, _, _, _, _, _, _, _, _, _, _, _, _, _, _, _, _, _, _, _, _, _, rfl⟩⟩, gb_trans GB.out hg2, HF.out, rfl⟩⟩
          · have i32 : ¬ (c.toNat : Int) < 32 := by omega
            have HF : Hid (res = aheadF (acc ++ [c]) (strF f r)) := by show _ = _; rw [he.out]; rw [if_neg h32, if_neg h34, if_pos h92, ahead_one]
            clear rd own gb0 he
            go_wp2_with (first
              | (go_at_call 69; refine hnx.out.mono ?_; rintro e w2 ⟨rfl, hr2, hg2⟩)
              | (at_builtin; go_loud (refine wl_append_k bt rfl (.tmp 22) (.tmp 24) rfl w.heap.size _ _ ((OWN.out.past hg2 hRw).to ((Below.refl _ _).alloc (Nat.le_refl _) _)) rfl _ 1 1 [c] rfl (rd_lit _ [c] _) (by have := LEN.out; simp only [List.length_cons] at this; omega) (by have := HG.out; have := hg2.size; simp; omega) ?_); intro v5 w5 ho5 hb5))
            go_step3
            exact ⟨_, .inr ⟨_, _, _, _, _, ⟨_, _, _, _, _, _, _, _, _, _, _, _, _, _, _, _, _, _, _, _, _, _, _, _, _, _, _, _, _, _, _, _, _, _, _, _, _, _, _, _, _, _, _, _, _, _, _, _, _, _, _, _, _, _, _, _, _, _, _, _, _, _, _, _, _, _, _, _, _, _, _, _, _, _, _, _, _, _, _, _, _, _, rfl⟩, ⟨ho5, hr2.below (((Below.refl _ _).alloc (by have := HG.out; have := hg2.size; omega) _).trans hb5.1) hRw, gb_below (gb_trans GB.out hg2) (((Below.refl _ _).alloc (by have := HG.out; have := hg2.size; omega) _).trans hb5.1), (by have := LEN.out; simp only [List.length_cons] at this; simp; omega), (by have := LT.out; simp only [List.length_cons] at this; omega)⟩, rfl, .inl ⟨rfl, HF.out⟩⟩⟩
  · rintro n a wr (⟨hl, _⟩ | ⟨acc, ys, f, v, s6, ⟨u1, u2, u3, u5, u7, u8, u9, u10, u11, u12, u13, u14, u15, u16, u17, u18, u19, u20, u21, u22, u23, u24, u25, u26, u27, u28, u29, u30, u31, u32, u33, u34, u35, u36, u37, u38, u39, u40, u41, u42, u43, u44, u45, u46, u47, u48, u49, u50, u51, u52, u53, u54, u55, u56, u57, u58, u59, u60, u61, u62, u63, u64, u65, u66, u67, u68, u69, u70, u71, u72, u73, u74, u75, u76, u77, u78, u79, u80, u81, u82, u83, u84, rfl⟩, ts, hn, ⟨hl, _⟩ | ⟨_, he⟩ | ⟨hl, _⟩ | ⟨hl, _⟩⟩)
    · omega
    · omega
    · have hlimL : L ≤ 140737488355000 := by have := HL.out; omega
      have he := Lib.hid he
      have hn := Lib.hid hn
      obtain ⟨own, rd, gb0, len, lt⟩ := ts
      have OWN := Lib.hid own
      have GB := Lib.hid gb0
      have LEN := Lib.hid len
      have LT := Lib.hid lt
      have HG := Lib.hid gb0.size
      clear len lt
      cases ys with
      | nil =>
        have hnx : Hid (Calls Tryd.prog 69 #[.pointer (some ⟨R, 0, none⟩)] wr fun e w' => e = .returned (.int .u8 0) ∧ RdAt w' R [] ∧ wr.grownBy w' (some R)) := next_any R [] wr rd
        have hme : Hid (∀ W, Calls Tryd.prog 70 #[.int .u8 0] W fun e w' => e = .returned (.tuple #[.int .u8 0, .bool false]) ∧ w' = W) := fun W => meant_any 0 W
        have HF : Hid (res = none) := by show _ = _; rw [he.out]; rfl
        clear rd own gb0 he
        go_wp2_with (first | (go_at_call 69; refine hnx.out.mono ?_; rintro e w2 ⟨rfl, hr2, hg2⟩) | (go_at_call 70; refine (hme.out _).mono ?_; rintro e w3 ⟨rfl, rfl⟩))
        go_step3
        exact ⟨_, (by have := hn.out; omega), .inl ⟨rfl, ⟨_, _, ⟨_, _, _, _, _, _, _, _, _, _, _, _, _, _, _, _, _, _, _, _, _, _, _, _, _, _, _, _, _, _, _, _, _, _, _, _, _, _, _, _, _, _, _, _, _, _, _, _, _, _, _, _, _, _, _, _, _, _, _, _, _, _, _, _, _, _, _, _, _, _, _, _, _, _, _, _, _, _, _, _, _, _, rfl⟩⟩, gb_trans GB.out hg2, HF.out, rfl⟩⟩
      | cons d r =>
        have hnx : Hid (Calls Tryd.prog 69 #[.pointer (some ⟨R, 0, none⟩)] wr fun e w' => e = .returned (.int .u8 (d.toNat : Int)) ∧ RdAt w' R r ∧ wr.grownBy w' (some R)) := next_any R (d :: r) wr rd
        by_cases h117 : d = 117
        · subst h117
          have HF : Hid (res = aheadF acc (digF f r)) := by show _ = _; rw [he.out]; rfl
          clear rd own gb0 he
          go_wp2_with (go_at_call 69; refine hnx.out.mono ?_; rintro e w2 ⟨rfl, hr2, hg2⟩)
          go_step3
          exact ⟨_, (by have := hn.out; simp only [List.length_cons] at this; omega), .inr ⟨_, _, _, _, _, ⟨_, _, _, _, _, _, _, _, _, _, _, _, _, _, _, _, _, _, _, _, _, _, _, _, _, _, _, _, _, _, _, _, _, _, _, _, _, _, _, _, _, _, _, _, _, _, _, _, _, _, _, _, _, _, _, _, _, _, _, _, _, _, _, _, _, _, _, _, _, _, _, _, _, _, _, _, _, _, _, _, _, _, rfl⟩, ⟨OWN.out.past hg2 hRw, hr2, gb_trans GB.out hg2, (by have := LEN.out; simp only [List.length_cons] at this; omega), (by have := LT.out; simp only [List.length_cons] at this; omega)⟩, rfl, .inr (.inr (.inl ⟨rfl, HF.out⟩))⟩⟩
        · have i117 : ¬ (d.toNat : Int) = 117 := fun e => h117 (UInt8.toNat_inj.1 (by rw [show (117 : UInt8).toNat = 117 from rfl]; omega))
          have j117 : ((d.toNat : Int) == 117) = false := beq_eq_false_iff_ne.2 i117
          have k117 : ¬ d.toNat = 117 := fun e => i117 (by omega)
          have he2 : res = aheadF acc (match oneF d with | none => none | some x => (strF f r).map fun (s, q) => (x :: s, q)) := by rw [he.out]; unfold escT; simp only [if_neg h117]; cases oneF d <;> rfl
          cases ho : oneF d with
          | none =>
            have hme : Hid (∀ W, Calls Tryd.prog 70 #[.int .u8 (d.toNat : Int)] W fun e w' => e = .returned (.tuple #[.int .u8 0, .bool false]) ∧ w' = W) := fun W => by have := meant_any d W; rw [ho] at this; exact this
            have HF : Hid (res = none) := by show _ = _; rw [he2, ho]; rfl
            clear rd own gb0 he he2 ho
            go_wp2_with (first | (go_at_call 69; refine hnx.out.mono ?_; rintro e w2 ⟨rfl, hr2, hg2⟩) | (go_at_call 70; refine (hme.out _).mono ?_; rintro e w3 ⟨rfl, rfl⟩))
            go_step3
            exact ⟨_, (by have := hn.out; omega), .inl ⟨rfl, ⟨_, _, ⟨_, _, _, _, _, _, _, _, _, _, _, _, _, _, _, _, _, _, _, _, _, _, _, _, _, _, _, _, _, _, _, _, _, _, _, _, _, _, _, _, _, _, _, _, _, _, _, _, _, _, _, _, _, _, _, _, _, _, _, _, _, _, _, _, _, _, _, _, _, _, _, _, _, _, _, _, _, _, _, _, _, _, rfl⟩⟩, gb_trans GB.out hg2, HF.out, rfl⟩⟩
          | some x =>
            have hme : Hid (∀ W, Calls Tryd.prog 70 #[.int .u8 (d.toNat : Int)] W fun e w' => e = .returned (.tuple #[.int .u8 (x.toNat : Int), .bool true]) ∧ w' = W) := fun W => by have := meant_any d W; rw [ho] at this; exact this
            have HF : Hid (res = aheadF (acc ++ [x]) (strF f r)) := by show _ = _; rw [he2, ho]; exact ahead_one _ _ _
            clear rd own gb0 he he2 ho
            go_wp2_with (first
              | (go_at_call 69; refine hnx.out.mono ?_; rintro e w2 ⟨rfl, hr2, hg2⟩)
              | (go_at_call 70; refine (hme.out _).mono ?_; rintro e w3 ⟨rfl, rfl⟩)
              | (at_builtin; go_loud (refine wl_append_k bt rfl (.tmp 37) (.tmp 39) rfl w.heap.size _ _ ((OWN.out.past hg2 hRw).to ((Below.refl _ _).alloc (Nat.le_refl _) _)) rfl _ 1 1 [x] rfl (rd_lit _ [x] _) (by have := LEN.out; simp only [List.length_cons] at this; omega) (by have := HG.out; have := hg2.size; simp; omega) ?_); intro v5 w5 ho5 hb5))
            go_step3
            exact ⟨_, (by have := hn.out; simp only [List.length_cons] at this; omega), .inr ⟨_, _, _, _, _, ⟨_, _, _, _, _, _, _, _, _, _, _, _, _, _, _, _, _, _, _, _, _, _, _, _, _, _, _, _, _, _, _, _, _, _, _, _, _, _, _, _, _, _, _, _, _, _, _, _, _, _, _, _, _, _, _, _, _, _, _, _, _, _, _, _, _, _, _, _, _, _, _, _, _, _, _, _, _, _, _, _, _, _, rfl⟩, ⟨ho5, hr2.below (((Below.refl _ _).alloc (by have := HG.out; have := hg2.size; omega) _).trans hb5.1) hRw, gb_below (gb_trans GB.out hg2) (((Below.refl _ _).alloc (by have := HG.out; have := hg2.size; omega) _).trans hb5.1), (by have := LEN.out; simp only [List.length_cons] at this; simp; omega), (by have := LT.out; simp only [List.length_cons] at this; omega)⟩, rfl, .inl ⟨rfl, HF.out⟩⟩⟩
    · omega
    · omega
  · rintro n a wr (⟨_, ⟨v, s6, u1, u2, u3, u5, u7, u8, u9, u10, u11, u12, u13, u14, u15, u16, u17, u18, u19, u20, u21, u22, u23, u24, u25, u26, u27, u28, u29, u30, u31, u32, u33, u34, u35, u36, u37, u38, u39, u40, u41, u42, u43, u44, u45, u46, u47, u48, u49, u50, u51, u52, u53, u54, u55, u56, u57, u58, u59, u60, u61, u62, u63, u64, u65, u66, u67, u68, u69, u70, u71, u72, u73, u74, u75, u76, u77, u78, u79, u80, u81, u82, u83, u84, rfl⟩, gb0, he, -⟩ | ⟨acc, ys, f, v, s6, -, -, -, ⟨hl, _⟩ | ⟨hl, _⟩ | ⟨hl, _⟩ | ⟨hl, _⟩⟩)
    · have he := Lib.hid he
      go_wp2
      try simp only [jumps]
      go_ret2
      exact ⟨gb0, rfl⟩
    all_goals omega
  · rintro n a wr (⟨hl, _⟩ | ⟨acc, ys, f, v, s6, ⟨u1, u2, u3, u5, u7, u8, u9, u10, u11, u12, u13, u14, u15, u16, u17, u18, u19, u20, u21, u22, u23, u24, u25, u26, u27, u28, u29, u30, u31, u32, u33, u34, u35, u36, u37, u38, u39, u40, u41, u42, u43, u44, u45, u46, u47, u48, u49, u50, u51, u52, u53, u54, u55, u56, u57, u58, u59, u60, u61, u62, u63, u64, u65, u66, u67, u68, u69, u70, u71, u72, u73, u74, u75, u76, u77, u78, u79, u80, u81, u82, u83, u84, rfl⟩, ts, hn, ⟨_, he⟩ | ⟨hl, _⟩ | ⟨hl, _⟩ | ⟨hl, _⟩⟩)
    · omega
    · have hlimL : L ≤ 140737488355000 := by have := HL.out; omega
      have he := Lib.hid he
      have hn := Lib.hid hn
      obtain ⟨own, rd, gb0, len, lt⟩ := ts
      obtain ⟨f, rfl⟩ : ∃ f', f = f' + 1 := ⟨f - 1, by omega⟩
      have OWN := Lib.hid own
      have GB := Lib.hid gb0
      have LEN := Lib.hid len
      have LT := Lib.hid lt
      have HG := Lib.hid gb0.size
      clear len lt
      cases ys with
      | nil =>
        have hnx : Hid (Calls Tryd.prog 69 #[.pointer (some ⟨R, 0, none⟩)] wr fun e w' => e = .returned (.int .u8 0) ∧ RdAt w' R [] ∧ wr.grownBy w' (some R)) := next_any R [] wr rd
        have HF : Hid (res = none) := by show _ = _; rw [he.out]; rfl
        clear rd own gb0 he
        go_wp2_with (go_at_call 69; refine hnx.out.mono ?_; rintro e w2 ⟨rfl, hr2, hg2⟩)
        go_step3
        exact ⟨_, (by have := hn.out; omega), .inl ⟨rfl, ⟨_, _, ⟨_, _, _, _, _, _, _, _, _, _, _, _, _, _, _, _, _, _, _, _, _, _, _, _, _, _, _, _, _, _, _, _, _, _, _, _, _, _, _, _, _, _, _, _, _, _, _, _, _, _, _, _, _, _, _, _, _, _, _, _, _, _, _, _, _, _, _, _, _, _, _, _, _, _, _, _, _, _, _, _, _, _, rfl⟩⟩, gb_trans GB.out hg2, HF.out, rfl⟩⟩
      | cons c r =>
        have hnx : Hid (Calls Tryd.prog 69 #[.pointer (some ⟨R, 0, none⟩)] wr fun e w' => e = .returned (.int .u8 (c.toNat : Int)) ∧ RdAt w' R r ∧ wr.grownBy w' (some R)) := next_any R (c :: r) wr rd
        rw [strF_cons] at he
        by_cases h34 : c = 34
        · subst h34
          have HF : Hid (res = some (acc, r)) := by show _ = _; rw [he.out]; rw [if_neg (by decide), if_pos rfl]; simp [aheadF]
          have hst : Hid (∀ w2, Own w2 w.heap.size 5 v acc → (convert 32 9 v).run Tryd.prog w2 = .ok (.string (bstr acc)) w2) := fun w2 ho2 => by
            obtain ⟨a, l, cap, rfl, hrd⟩ := ho2.reads
            exact run_bstr bt (by kernel_rfl) hrd.toRd
          clear rd own gb0 he
          go_wp2_with (go_at_call 69; refine hnx.out.mono ?_; rintro e w2 ⟨rfl, hr2, hg2⟩; have hcv := hst.out w2 (OWN.out.past hg2 hRw))
          try simp only [jumps]
          go_ret2
          show TextRes _ _ _ _ _
          rw [HF.out]
          exact ⟨gb_trans GB.out hg2, rfl, hr2⟩
        · have i34 : ¬ (c.toNat : Int) = 34 := fun e => h34 (UInt8.toNat_inj.1 (by rw [show (34 : UInt8).toNat = 34 from rfl]; omega))
          have j34 : ((c.toNat : Int) == 34) = false := beq_eq_false_iff_ne.2 i34
          have k34 : ¬ c.toNat = 34 := fun e => i34 (by omega)
          by_cases h92 : c = 92
          · subst h92
            have HF : Hid (res = aheadF acc (escT f r)) := by show _ = _; rw [he.out]; rw [if_neg (by decide), if_neg (by decide), if_neg (by decide)]
            clear rd own gb0 he
            go_wp2_with (go_at_call 69; refine hnx.out.mono ?_; rintro e w2 ⟨rfl, hr2, hg2⟩)
            go_step3
            exact ⟨_, (by have := hn.out; simp only [List.length_cons] at this; omega), .inr ⟨_, _, _, _, _, ⟨_, _, _, _, _, _, _, _, _, _, _, _, _, _, _, _, _, _, _, _, _, _, _, _, _, _, _, _, _, _, _, _, _, _, _, _, _, _, _, _, _, _, _, _, _, _, _, _, _, _, _, _, _, _, _, _, _, _, _, _, _, _, _, _, _, _, _, _, _, _, _, _, _, _, _, _, _, _, _, _, _, _, rfl⟩, ⟨OWN.out.past hg2 hRw, hr2, gb_trans GB.out hg2, (by have := LEN.out; simp only [List.length_cons] at this; omega), (by have := LT.out; simp only [List.length_cons] at this; omega)⟩, rfl, .inr (.inl ⟨rfl, HF.out⟩)⟩⟩
          · have i92 : ¬ (c.toNat : Int) = 92 := fun e => h92 (UInt8.toNat_inj.1 (by rw [show (92 : UInt8).toNat = 92 from rfl]; omega))
            have j92 : ((c.toNat : Int) == 92) = false := beq_eq_false_iff_ne.2 i92
            have k92 : ¬ c.toNat = 92 := fun e => i92 (by omega)
            by_cases h32 : c.toNat < 32
            · have i32 : (c.toNat : Int) < 32 := by omega
              have HF : Hid (res = none) := by show _ = _; rw [he.out]; rw [if_pos h32]; rfl
              clear rd own gb0 he
              go_wp2_with (go_at_call 69; refine hnx.out.mono ?_; rintro e w2 ⟨rfl, hr2, hg2⟩)
              go_step3
              exact ⟨_, (by have := hn.out; omega), .inl ⟨rfl, ⟨_, _, ⟨_, _, _, _, _, _, _, _, _, _, _, _, _, _, _, _, _, _, _, _, _, _, _, _, _, _, _, _, _, _, _, _, _, _, _, _, _, _, _, _, _, _, _, _, _, _, _, _, _, _, _, _, _, _, _, _, _, _, _, _, _, _, _, _, _, _, _, _, _, _, _, _, _, _, _, _, _, _, _, _, _, _, rfl⟩⟩, gb_trans GB.out hg2, HF.out, rfl⟩⟩
            · have i32 : ¬ (c.toNat : Int) < 32 := by omega
              have HF : Hid (res = aheadF (acc ++ [c]) (strF f r)) := by show _ = _; rw [he.out]; rw [if_neg h32, if_neg h34, if_pos h92, ahead_one]
              clear rd own gb0 he
              go_wp2_with (first
                | (go_at_call 69; refine hnx.out.mono ?_; rintro e w2 ⟨rfl, hr2, hg2⟩)
                | (at_builtin; go_loud (refine wl_append_k bt rfl (.tmp 22) (.tmp 24) rfl w.heap.size _ _ ((OWN.out.past hg2 hRw).to ((Below.refl _ _).alloc (Nat.le_refl _) _)) rfl _ 1 1 [c] rfl (rd_lit _ [c] _) (by have := LEN.out; simp only [List.length_cons] at this; omega) (by have := HG.out; have := hg2.size; simp; omega) ?_); intro v5 w5 ho5 hb5))
              go_step3
              exact ⟨_, (by have := hn.out; simp only [List.length_cons] at this; omega), .inr ⟨_, _, _, _, _, ⟨_, _, _, _, _, _, _, _, _, _, _, _, _, _, _, _, _, _, _, _, _, _, _, _, _, _, _, _, _, _, _, _, _, _, _, _, _, _, _, _, _, _, _, _, _, _, _, _, _, _, _, _, _, _, _, _, _, _, _, _, _, _, _, _, _, _, _, _, _, _, _, _, _, _, _, _, _, _, _, _, _, _, rfl⟩, ⟨ho5, hr2.below (((Below.refl _ _).alloc (by have := HG.out; have := hg2.size; omega) _).trans hb5.1) hRw, gb_below (gb_trans GB.out hg2) (((Below.refl _ _).alloc (by have := HG.out; have := hg2.size; omega) _).trans hb5.1), (by have := LEN.out; simp only [List.length_cons] at this; simp; omega), (by have := LT.out; simp only [List.length_cons] at this; omega)⟩, rfl, .inl ⟨rfl, HF.out⟩⟩⟩
    · omega
    · omega
    · omega
  · rintro n a wr (⟨hl, _⟩ | ⟨acc, ys, f, v, s6, ⟨u1, u2, u3, u5, u7, u8, u9, u10, u11, u12, u13, u14, u15, u16, u17, u18, u19, u20, u21, u22, u23, u24, u25, u26, u27, u28, u29, u30, u31, u32, u33, u34, u35, u36, u37, u38, u39, u40, u41, u42, u43, u44, u45, u46, u47, u48, u49, u50, u51, u52, u53, u54, u55, u56, u57, u58, u59, u60, u61, u62, u63, u64, u65, u66, u67, u68, u69, u70, u71, u72, u73, u74, u75, u76, u77, u78, u79, u80, u81, u82, u83, u84, rfl⟩, ts, hn, ⟨hl, _⟩ | ⟨hl, _⟩ | ⟨_, he⟩ | ⟨hl, _⟩⟩)
    · omega
    · omega
    · omega
    · have hlimL : L ≤ 140737488355000 := by have := HL.out; omega
      have he := Lib.hid he
      have hn := Lib.hid hn
      obtain ⟨own, rd, gb0, len, lt⟩ := ts
      have OWN := Lib.hid own
      have GB := Lib.hid gb0
      have LEN := Lib.hid len
      have LT := Lib.hid lt
      have HG := Lib.hid gb0.size
      have hco0 := code_any R ys wr rd
      clear len lt
      cases h4 : fourF ys with
      | none =>
        rw [h4] at hco0
        have hco : Hid (Calls Tryd.prog 71 #[.pointer (some ⟨R, 0, none⟩)] wr fun e w' => wr.grownBy w' (some R) ∧ e = .returned (.tuple #[.int .i32 0, .bool false])) := hco0
        have HF : Hid (res = none) := by show _ = _; rw [he.out]; unfold digF; rw [h4]; rfl
        clear rd own gb0 he hco0
        go_wp2_with (go_at_call 71; refine hco.out.mono ?_; rintro e w2 ⟨hg2, rfl⟩)
        go_step3
        exact ⟨_, (by have := hn.out; omega), .inl ⟨rfl, ⟨_, _, ⟨_, _, _, _, _, _, _, _, _, _, _, _, _, _, _, _, _, _, _, _, _, _, _, _, _, _, _, _, _, _, _, _, _, _, _, _, _, _, _, _, _, _, _, _, _, _, _, _, _, _, _, _, _, _, _, _, _, _, _, _, _, _, _, _, _, _, _, _, _, _, _, _, _, _, _, _, _, _, _, _, _, _, rfl⟩⟩, gb_trans GB.out hg2, HF.out, rfl⟩⟩
      | some p =>
        obtain ⟨m, r2⟩ := p
        rw [h4] at hco0
        have hco : Hid (Calls Tryd.prog 71 #[.pointer (some ⟨R, 0, none⟩)] wr fun e w' => wr.grownBy w' (some R) ∧ e = .returned (.tuple #[.int .i32 (m : Int), .bool true]) ∧ RdAt w' R r2 ∧ m < 65536) := hco0
        have hm64 : m < 65536 := four_lt ys m r2 h4
        have H4 := Lib.hid (four_len ys m r2 h4)
        by_cases hh : 55296 ≤ m ∧ m < 56320
        · have hhi : Hid (∀ W, Calls Tryd.prog 72 #[.int .i32 (m : Int)] W fun e w' => e = .returned (.bool true) ∧ w' = W) := fun W => by have := isHigh_any m (by omega) W; rw [show (decide (55296 ≤ m) && decide (m ≤ 56319)) = true by simp; try omega] at this; exact this
          have HM := Lib.hid hh
          have HF : Hid (res = aheadF acc (pairF f m r2)) := by show _ = _; rw [he.out]; unfold digF; rw [h4]; simp only; rw [if_pos hh]
          clear rd own gb0 he hco0 hh
          go_wp2_with (first | (go_at_call 71; refine hco.out.mono ?_; rintro e w2 ⟨hg2, rfl, hr2, -⟩) | (go_at_call 72; refine (hhi.out _).mono ?_; rintro e w3 ⟨rfl, rfl⟩))
          go_step3
          exact ⟨_, (by have := hn.out; have := H4.out; omega), .inr ⟨_, _, _, _, _, ⟨_, _, _, _, _, _, _, _, _, _, _, _, _, _, _, _, _, _, _, _, _, _, _, _, _, _, _, _, _, _, _, _, _, _, _, _, _, _, _, _, _, _, _, _, _, _, _, _, _, _, _, _, _, _, _, _, _, _, _, _, _, _, _, _, _, _, _, _, _, _, _, _, _, _, _, _, _, _, _, _, _, _, rfl⟩, ⟨OWN.out.past hg2 hRw, hr2, gb_trans GB.out hg2, (by have := LEN.out; have := H4.out; omega), (by have := LT.out; have := H4.out; omega)⟩, rfl, .inr (.inr (.inr ⟨rfl, m, rfl, HM.out.1, HM.out.2, HF.out⟩))⟩⟩
        · have hhi : Hid (∀ W, Calls Tryd.prog 72 #[.int .i32 (m : Int)] W fun e w' => e = .returned (.bool false) ∧ w' = W) := fun W => by have := isHigh_any m (by omega) W; rw [show (decide (55296 ≤ m) && decide (m ≤ 56319)) = false by simp; try omega] at this; exact this
          by_cases hl : 56320 ≤ m ∧ m < 57344
          · have hlo : Hid (∀ W, Calls Tryd.prog 73 #[.int .i32 (m : Int)] W fun e w' => e = .returned (.bool true) ∧ w' = W) := fun W => by have := isLow_any m (by omega) W; rw [show (decide (56320 ≤ m) && decide (m ≤ 57343)) = true by simp; try omega] at this; exact this
            have HF : Hid (res = none) := by show _ = _; rw [he.out]; unfold digF; rw [h4]; simp only; rw [if_neg hh, if_pos hl]; rfl
            clear rd own gb0 he hco0 hh hl
            go_wp2_with (first | (go_at_call 71; refine hco.out.mono ?_; rintro e w2 ⟨hg2, rfl, hr2, -⟩) | (go_at_call 72; refine (hhi.out _).mono ?_; rintro e w3 ⟨rfl, rfl⟩) | (go_at_call 73; refine (hlo.out _).mono ?_; rintro e w4 ⟨rfl, rfl⟩))
            go_step3
            exact ⟨_, (by have := hn.out; omega), .inl ⟨rfl, ⟨_, _, ⟨_, _, _, _, _, _, _, _, _, _, _, _, _, _, _, _, _, _, _, _, _, _, _, _, _, _, _, _, _, _, _, _, _, _, _, _, _, _, _, _, _, _, _, _, _, _, _, _, _, _, _, _, _, _, _, _, _, _, _, _, _, _, _, _, _, _, _, _, _, _, _, _, _, _, _, _, _, _, _, _, _, _, rfl⟩⟩, gb_trans GB.out hg2, HF.out, rfl⟩⟩
          · have hlo : Hid (∀ W, Calls Tryd.prog 73 #[.int .i32 (m : Int)] W fun e w' => e = .returned (.bool false) ∧ w' = W) := fun W => by have := isLow_any m (by omega) W; rw [show (decide (56320 ≤ m) && decide (m ≤ 57343)) = false by simp; try omega] at this; exact this
            have HF : Hid (res = aheadF (acc ++ runeF m) (strF f r2)) := by show _ = _; rw [he.out]; unfold digF; rw [h4]; simp only; rw [if_neg hh, if_neg hl]; exact ahead_step _ _ _
            have har : Hid (∀ W, Own W w.heap.size 5 v acc → w.heap.size ≤ W.heap.size → Calls Tryd.prog 74 #[v, .int .i32 (m : Int)] W fun e w' => ∃ v', e = .returned v' ∧ Own w' w.heap.size 5 v' (acc ++ runeF m) ∧ Below w.heap.size W w') := fun W hW hs => rune_any v acc m W _ hW hs (by omega) (by omega) (by have := LEN.out; omega)
            clear rd own gb0 he hco0 hh hl
            go_wp2_with (first | (go_at_call 71; refine hco.out.mono ?_; rintro e w2 ⟨hg2, rfl, hr2, -⟩) | (go_at_call 72; refine (hhi.out _).mono ?_; rintro e w3 ⟨rfl, rfl⟩) | (go_at_call 73; refine (hlo.out _).mono ?_; rintro e w4 ⟨rfl, rfl⟩) | (go_at_call 74; refine (har.out _ (OWN.out.past hg2 hRw) (by have := HG.out; have := hg2.size; omega)).mono ?_; rintro e w5 ⟨v5, rfl, ho5, hb5⟩))
            go_step3
            exact ⟨_, (by have := hn.out; have := H4.out; omega), .inr ⟨_, _, _, _, _, ⟨_, _, _, _, _, _, _, _, _, _, _, _, _, _, _, _, _, _, _, _, _, _, _, _, _, _, _, _, _, _, _, _, _, _, _, _, _, _, _, _, _, _, _, _, _, _, _, _, _, _, _, _, _, _, _, _, _, _, _, _, _, _, _, _, _, _, _, _, _, _, _, _, _, _, _, _, _, _, _, _, _, _, rfl⟩, ⟨ho5, hr2.below hb5 hRw, gb_below (gb_trans GB.out hg2) hb5, (by have := LEN.out; have := H4.out; have := rune_len m; rw [List.length_append]; omega), (by have := LT.out; have := H4.out; omega)⟩, rfl, .inl ⟨rfl, HF.out⟩⟩⟩
    · omega
  · rintro n a wr (⟨hl, _⟩ | ⟨acc, ys, f, v, s6, ⟨u1, u2, u3, u5, u7, u8, u9, u10, u11, u12, u13, u14, u15, u16, u17, u18, u19, u20, u21, u22, u23, u24, u25, u26, u27, u28, u29, u30, u31, u32, u33, u34, u35, u36, u37, u38, u39, u40, u41, u42, u43, u44, u45, u46, u47, u48, u49, u50, u51, u52, u53, u54, u55, u56, u57, u58, u59, u60, u61, u62, u63, u64, u65, u66, u67, u68, u69, u70, u71, u72, u73, u74, u75, u76, u77, u78, u79, u80, u81, u82, u83, u84, rfl⟩, ts, hn, ⟨hl, _⟩ | ⟨hl, _⟩ | ⟨hl, _⟩ | ⟨_, m, rfl, hm1, hm2, he⟩⟩)
    · omega
    · omega
    · omega
    · omega
    · have hlimL : L ≤ 140737488355000 := by have := HL.out; omega
      have hm := And.intro hm1 hm2
      clear hm1 hm2
      have he := Lib.hid he
      have hn := Lib.hid hn
      obtain ⟨own, rd, gb0, len, lt⟩ := ts
      have OWN := Lib.hid own
      have GB := Lib.hid gb0
      have LEN := Lib.hid len
      have LT := Lib.hid lt
      have HG := Lib.hid gb0.size
      have HM := Lib.hid hm
      clear len lt hm
      cases ys with
      | nil =>
        have hnx : Hid (Calls Tryd.prog 69 #[.pointer (some ⟨R, 0, none⟩)] wr fun e w' => e = .returned (.int .u8 0) ∧ RdAt w' R [] ∧ wr.grownBy w' (some R)) := next_any R [] wr rd
        have HF : Hid (res = none) := by show _ = _; rw [he.out]; rfl
        clear rd own gb0 he
        go_wp2_with (go_at_call 69; refine hnx.out.mono ?_; rintro e w2 ⟨rfl, hr2, hg2⟩; clear hnx)
        go_step3
        exact ⟨_, (by have := hn.out; omega), .inl ⟨rfl, ⟨_, _, ⟨_, _, _, _, _, _, _, _, _, _, _, _, _, _, _, _, _, _, _, _, _, _, _, _, _, _, _, _, _, _, _, _, _, _, _, _, _, _, _, _, _, _, _, _, _, _, _, _, _, _, _, _, _, _, _, _, _, _, _, _, _, _, _, _, _, _, _, _, _, _, _, _, _, _, _, _, _, _, _, _, _, _, rfl⟩⟩, gb_trans GB.out hg2, HF.out, rfl⟩⟩
      | cons c r =>
        have hnx : Hid (Calls Tryd.prog 69 #[.pointer (some ⟨R, 0, none⟩)] wr fun e w' => e = .returned (.int .u8 (c.toNat : Int)) ∧ RdAt w' R r ∧ wr.grownBy w' (some R)) := next_any R (c :: r) wr rd
        by_cases h92 : c = 92
        · subst h92
          cases r with
          | nil =>
            have hnx2 : Hid (∀ W, RdAt W R [] → Calls Tryd.prog 69 #[.pointer (some ⟨R, 0, none⟩)] W fun e w' => e = .returned (.int .u8 0) ∧ RdAt w' R [] ∧ W.grownBy w' (some R)) := fun W h => next_any R [] W h
            have HF : Hid (res = none) := by show _ = _; rw [he.out]; rfl
            clear rd own gb0 he
            go_wp2_with (first | (go_at_call 69; refine hnx.out.mono ?_; rintro e w2 ⟨rfl, hr2, hg2⟩; clear hnx) | (go_at_call 69; refine (hnx2.out _ hr2).mono ?_; rintro e w3 ⟨rfl, hr3, hg3⟩; clear hnx2))
            go_step3
            exact ⟨_, (by have := hn.out; omega), .inl ⟨rfl, ⟨_, _, ⟨_, _, _, _, _, _, _, _, _, _, _, _, _, _, _, _, _, _, _, _, _, _, _, _, _, _, _, _, _, _, _, _, _, _, _, _, _, _, _, _, _, _, _, _, _, _, _, _, _, _, _, _, _, _, _, _, _, _, _, _, _, _, _, _, _, _, _, _, _, _, _, _, _, _, _, _, _, _, _, _, _, _, rfl⟩⟩, gb_trans (gb_trans GB.out hg2) hg3, HF.out, rfl⟩⟩
          | cons d r3 =>
            have hnx2 : Hid (∀ W, RdAt W R (d :: r3) → Calls Tryd.prog 69 #[.pointer (some ⟨R, 0, none⟩)] W fun e w' => e = .returned (.int .u8 (d.toNat : Int)) ∧ RdAt w' R r3 ∧ W.grownBy w' (some R)) := fun W h => next_any R (d :: r3) W h
            by_cases h117 : d = 117
            · subst h117
              have he2 : res = aheadF acc (match fourF r3 with | none => none | some (k, r4) => if 56320 ≤ k ∧ k ≤ 57343 then (strF f r4).map fun (s, q) => (runeF (65536 + 1024 * (m - 55296) + (k - 56320)) ++ s, q) else none) := he.out
              cases h4 : fourF r3 with
              | none =>
                have hco : Hid (∀ W, RdAt W R r3 → Calls Tryd.prog 71 #[.pointer (some ⟨R, 0, none⟩)] W fun e w' => W.grownBy w' (some R) ∧ e = .returned (.tuple #[.int .i32 0, .bool false])) := fun W h => by have := code_any R r3 W h; rw [h4] at this; exact this
                have HF : Hid (res = none) := by show _ = _; rw [he2, h4]; rfl
                clear rd own gb0 he he2 h4
                go_wp2_with (first | (go_at_call 69; refine hnx.out.mono ?_; rintro e w2 ⟨rfl, hr2, hg2⟩; clear hnx) | (go_at_call 69; refine (hnx2.out _ hr2).mono ?_; rintro e w3 ⟨rfl, hr3, hg3⟩; clear hnx2) | (go_at_call 71; refine (hco.out _ hr3).mono ?_; rintro e w4 ⟨hg4, rfl⟩))
                go_step3
                exact ⟨_, (by have := hn.out; omega), .inl ⟨rfl, ⟨_, _, ⟨_, _, _, _, _, _, _, _, _, _, _, _, _, _, _, _, _, _, _, _, _, _, _, _, _, _, _, _, _, _, _, _, _, _, _, _, _, _, _, _, _, _, _, _, _, _, _, _, _, _, _, _, _, _, _, _, _, _, _, _, _, _, _, _, _, _, _, _, _, _, _, _, _, _, _, _, _, _, _, _, _, _, rfl⟩⟩, gb_trans (gb_trans (gb_trans GB.out hg2) hg3) hg4, HF.out, rfl⟩⟩
              | some p =>
                obtain ⟨k, r4⟩ := p
                have hk64 := four_lt r3 k r4 h4
                have H4 := Lib.hid (four_len r3 k r4 h4)
                have hco : Hid (∀ W, RdAt W R r3 → Calls Tryd.prog 71 #[.pointer (some ⟨R, 0, none⟩)] W fun e w' => W.grownBy w' (some R) ∧ e = .returned (.tuple #[.int .i32 (k : Int), .bool true]) ∧ RdAt w' R r4) := fun W h => by have := code_any R r3 W h; rw [h4] at this; exact this.mono fun e w' h => ⟨h.1, h.2.1, h.2.2.1⟩
                by_cases hl : 56320 ≤ k ∧ k ≤ 57343
                · have hlo : Hid (∀ W, Calls Tryd.prog 73 #[.int .i32 (k : Int)] W fun e w' => e = .returned (.bool true) ∧ w' = W) := fun W => by have := isLow_any k (by omega) W; rw [show (decide (56320 ≤ k) && decide (k ≤ 57343)) = true by simp; try omega] at this; exact this
                  have hto : Hid (∀ W, Calls Tryd.prog 75 #[.int .i32 (m : Int), .int .i32 (k : Int)] W fun e w' => e = .returned (.int .i32 ((65536 + 1024 * (m - 55296) + (k - 56320) : Nat) : Int)) ∧ w' = W) := fun W => together_any m k HM.out.1 (by have := HM.out.2; omega) hl.1 hl.2 W
                  have hz : Hid (65536 + 1024 * (m - 55296) + (k - 56320) ≤ 1114111 ∧ 65536 ≤ 65536 + 1024 * (m - 55296) + (k - 56320)) := ⟨by have := HM.out; omega, by omega⟩
                  have he3 : res = aheadF (acc ++ runeF (65536 + 1024 * (m - 55296) + (k - 56320))) (strF f r4) := by rw [he2, h4]; simp only; rw [if_pos hl]; exact ahead_step _ _ _
                  obtain ⟨z, hzz⟩ : ∃ z, z = 65536 + 1024 * (m - 55296) + (k - 56320) := ⟨_, rfl⟩
                  rw [← hzz] at he3 hto hz
                  have HF := Lib.hid he3
                  have har : Hid (∀ W, Own W w.heap.size 5 v acc → w.heap.size ≤ W.heap.size → Calls Tryd.prog 74 #[v, .int .i32 (z : Int)] W fun e w' => ∃ v', e = .returned v' ∧ Own w' w.heap.size 5 v' (acc ++ runeF z) ∧ Below w.heap.size W w') := fun W hW hs => rune_any v acc z W _ hW hs (by have := hz.out; omega) hz.out.1 (by have := LEN.out; omega)
                  clear rd own gb0 he he2 he3 h4 hzz hl
                  go_wp2_with (first | (go_at_call 69; refine hnx.out.mono ?_; rintro e w2 ⟨rfl, hr2, hg2⟩; clear hnx) | (go_at_call 69; refine (hnx2.out _ hr2).mono ?_; rintro e w3 ⟨rfl, hr3, hg3⟩; clear hnx2) | (go_at_call 71; refine (hco.out _ hr3).mono ?_; rintro e w4 ⟨hg4, rfl, hr4⟩) | (go_at_call 73; refine (hlo.out _).mono ?_; rintro e w5 ⟨rfl, rfl⟩) | (go_at_call 75; refine (hto.out _).mono ?_; rintro e w6 ⟨rfl, rfl⟩) | (go_at_call 74; refine (har.out _ ((((OWN.out.past hg2 hRw).past hg3 hRw).past hg4 hRw)) (by have := HG.out; have := hg2.size; have := hg3.size; have := hg4.size; omega)).mono ?_; rintro e w7 ⟨v7, rfl, ho7, hb7⟩))
                  go_step3
                  exact ⟨_, (by have := hn.out; have := H4.out; simp only [List.length_cons] at *; omega), .inr ⟨_, _, _, _, _, ⟨_, _, _, _, _, _, _, _, _, _, _, _, _, _, _, _, _, _, _, _, _, _, _, _, _, _, _, _, _, _, _, _, _, _, _, _, _, _, _, _, _, _, _, _, _, _, _, _, _, _, _, _, _, _, _, _, _, _, _, _, _, _, _, _, _, _, _, _, _, _, _, _, _, _, _, _, _, _, _, _, _, _, rfl⟩, ⟨ho7, hr4.below hb7 hRw, gb_below (gb_trans (gb_trans (gb_trans GB.out hg2) hg3) hg4) hb7, (by have := LEN.out; have := H4.out; have := rune_len z; simp only [List.length_cons] at *; rw [List.length_append]; omega), (by have := LT.out; have := H4.out; simp only [List.length_cons] at *; omega)⟩, rfl, .inl ⟨rfl, HF.out⟩⟩⟩
                · have hlo : Hid (∀ W, Calls Tryd.prog 73 #[.int .i32 (k : Int)] W fun e w' => e = .returned (.bool false) ∧ w' = W) := fun W => by have := isLow_any k (by omega) W; rw [show (decide (56320 ≤ k) && decide (k ≤ 57343)) = false by simp; try omega] at this; exact this
                  have HF : Hid (res = none) := by show _ = _; rw [he2, h4]; simp only; rw [if_neg hl]; rfl
                  clear rd own gb0 he he2 h4 hl
                  go_wp2_with (first | (go_at_call 69; refine hnx.out.mono ?_; rintro e w2 ⟨rfl, hr2, hg2⟩; clear hnx) | (go_at_call 69; refine (hnx2.out _ hr2).mono ?_; rintro e w3 ⟨rfl, hr3, hg3⟩; clear hnx2) | (go_at_call 71; refine (hco.out _ hr3).mono ?_; rintro e w4 ⟨hg4, rfl, hr4⟩) | (go_at_call 73; refine (hlo.out _).mono ?_; rintro e w5 ⟨rfl, rfl⟩))
                  go_step3
                  exact ⟨_, (by have := hn.out; omega), .inl ⟨rfl, ⟨_, _, ⟨_, _, _, _, _, _, _, _, _, _, _, _, _, _, _, _, _, _, _, _, _, _, _, _, _, _, _, _, _, _, _, _, _, _, _, _, _, _, _, _, _, _, _, _, _, _, _, _, _, _, _, _, _, _, _, _, _, _, _, _, _, _, _, _, _, _, _, _, _, _, _, _, _, _, _, _, _, _, _, _, _, _, rfl⟩⟩, gb_trans (gb_trans (gb_trans GB.out hg2) hg3) hg4, HF.out, rfl⟩⟩
            · have i117 : ¬ (d.toNat : Int) = 117 := fun e => h117 (UInt8.toNat_inj.1 (by rw [show (117 : UInt8).toNat = 117 from rfl]; omega))
              have j117 : ((d.toNat : Int) == 117) = false := beq_eq_false_iff_ne.2 i117
              have k117 : ¬ d.toNat = 117 := fun e => i117 (by omega)
              have n117 : ((d.toNat : Int) != 117) = true := by rw [bne, j117]; rfl
              have HF : Hid (res = none) := by show _ = _; rw [he.out]; unfold pairF; rw [must_yes, must_no h117]; rfl
              clear rd own gb0 he
              go_wp2_with (first | (go_at_call 69; refine hnx.out.mono ?_; rintro e w2 ⟨rfl, hr2, hg2⟩; clear hnx) | (go_at_call 69; refine (hnx2.out _ hr2).mono ?_; rintro e w3 ⟨rfl, hr3, hg3⟩; clear hnx2))
              go_step3
              exact ⟨_, (by have := hn.out; omega), .inl ⟨rfl, ⟨_, _, ⟨_, _, _, _, _, _, _, _, _, _, _, _, _, _, _, _, _, _, _, _, _, _, _, _, _, _, _, _, _, _, _, _, _, _, _, _, _, _, _, _, _, _, _, _, _, _, _, _, _, _, _, _, _, _, _, _, _, _, _, _, _, _, _, _, _, _, _, _, _, _, _, _, _, _, _, _, _, _, _, _, _, _, rfl⟩⟩, gb_trans (gb_trans GB.out hg2) hg3, HF.out, rfl⟩⟩
        · have i92 : ¬ (c.toNat : Int) = 92 := fun e => h92 (UInt8.toNat_inj.1 (by rw [show (92 : UInt8).toNat = 92 from rfl]; omega))
          have j92 : ((c.toNat : Int) == 92) = false := beq_eq_false_iff_ne.2 i92
          have k92 : ¬ c.toNat = 92 := fun e => i92 (by omega)
          have n92 : ((c.toNat : Int) != 92) = true := by rw [bne, j92]; rfl
          have HF : Hid (res = none) := by show _ = _; rw [he.out]; unfold pairF; rw [must_no h92]; rfl
          clear rd own gb0 he
          go_wp2_with (go_at_call 69; refine hnx.out.mono ?_; rintro e w2 ⟨rfl, hr2, hg2⟩; clear hnx)
          go_step3
          exact ⟨_, (by have := hn.out; omega), .inl ⟨rfl, ⟨_, _, ⟨_, _, _, _, _, _, _, _, _, _, _, _, _, _, _, _, _, _, _, _, _, _, _, _, _, _, _, _, _, _, _, _, _, _, _, _, _, _, _, _, _, _, _, _, _, _, _, _, _, _, _, _, _, _, _, _, _, _, _, _, _, _, _, _, _, _, _, _, _, _, _, _, _, _, _, _, _, _, _, _, _, _, rfl⟩⟩, gb_trans GB.out hg2, HF.out, rfl⟩⟩
end Go.Proofs.YtiadfijeglbdlaaDoor
