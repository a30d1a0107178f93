/-
  JsonKnown holds. Conditions: those in each statement.
-/
import Derived.Test.YtehlgflpkofooaaDoorLBack
import Derived.Test.YtehlgflpkofooaaDoorJyA
import Derived.Deep.CutRange
import Derived.Deep.CutBlock
import Derived.Deep.DeepBigQuietO
import Derived.Test.YtehlgflpkofooaaDoorJzC
namespace Go.Proofs.YtehlgflpkofooaaDoor
open Go.RowKit

def bads : List (List UInt8) := [[], [32], [48, 49], [45, 49], [49, 46, 53], [49, 101, 53], [43, 49], [34, 92, 117, 100, 56, 48, 48, 34], [34, 92, 117, 100, 99, 48, 48, 34], [34, 92, 117, 100, 56, 48, 48, 92, 117, 48, 48, 52, 49, 34], [34, 1, 34], [34, 255, 34], [34, 97], [34, 92, 120, 34], [34, 92, 117, 49, 50, 103, 52, 34], [91, 49, 44, 93], [91, 44, 49, 93], [123, 34, 97, 34, 125], [123, 34, 97, 34, 58, 49, 44, 125], [123, 49, 58, 50, 125], [110, 117, 108], [116, 114, 117, 101, 32, 102, 97, 108, 115, 101]]
def goods : List (List UInt8) := [[34, 92, 34, 92, 92, 92, 47, 92, 98, 92, 102, 92, 110, 92, 114, 92, 116, 34], [34, 92, 117, 68, 56, 51, 68, 92, 117, 68, 69, 48, 48, 34], [34, 92, 117, 48, 48, 48, 48, 34], [49, 56, 52, 52, 54, 55, 52, 52, 48, 55, 51, 55, 48, 57, 53, 53, 49, 54, 49, 53], [123, 125], [91, 91, 91, 91, 91, 91, 91, 91, 93, 93, 93, 93, 93, 93, 93, 93]]
def wantL : List (List UInt8) := [[34, 92, 34, 92, 92, 47, 92, 117, 48, 48, 48, 56, 92, 117, 48, 48, 48, 99, 92, 117, 48, 48, 48, 97, 92, 117, 48, 48, 48, 100, 92, 117, 48, 48, 48, 57, 34], [34, 240, 159, 152, 128, 34], [34, 92, 117, 48, 48, 48, 48, 34], [49, 56, 52, 52, 54, 55, 52, 52, 48, 55, 51, 55, 48, 57, 53, 53, 49, 54, 49, 53], [123, 125], [91, 91, 91, 91, 91, 91, 91, 91, 93, 93, 93, 93, 93, 93, 93, 93]]
theorem bads_ok : ∀ i : Fin 22, (parseF (bads.getD i.val [])).isNone = true ∧ (bads.getD i.val []).length ≤ 100 := by decide +kernel
theorem goods_ok : ∀ i : Fin 6, (parseF (goods.getD i.val [])).map plainF = some (wantL.getD i.val []) ∧ (goods.getD i.val []).length ≤ 100 ∧ (wantL.getD i.val []).length ≤ 100 := by decide +kernel
theorem bad_row (i : Nat) (h : i < 22) : parseE (bads.getD i []) = (JV.zero, 5) := by
  obtain ⟨h1, h2⟩ := bads_ok ⟨i, h⟩
  simp only at h1 h2
  unfold parseE
  rw [if_neg (by omega), parse_none h1]
theorem good_row (i : Nat) (h : i < 6) : ∃ v, parseE (goods.getD i []) = (v, 0) ∧ textE v = 0 ∧ textB v = wantL.getD i [] ∧ totV v ≤ 100 := by
  obtain ⟨h1, h2, h3⟩ := goods_ok ⟨i, h⟩
  simp only at h1 h2 h3
  cases hp : parseF (goods.getD i []) with
  | none => rw [hp] at h1; cases h1
  | some v =>
    rw [hp] at h1
    simp only [Option.map_some, Option.some.injEq] at h1
    obtain ⟨hm, hw⟩ := parse_some hp
    have hs := parse_size _ hp
    refine ⟨v, ?_, ?_, ?_, by omega⟩
    · unfold parseE
      rw [if_neg (by omega), hp]
    · unfold textE
      rw [if_pos hm, h1, if_pos (by omega)]
    · unfold textB
      rw [h1, if_pos ⟨hm, by omega⟩]
def numK : List UInt8 := [49, 56, 52, 52, 54, 55, 52, 52, 48, 55, 51, 55, 48, 57, 53, 53, 49, 54, 49, 54]
def deepK : List UInt8 := [91, 91, 91, 91, 91, 91, 91, 91, 91, 93, 93, 93, 93, 93, 93, 93, 93, 93]
theorem numK_row : parseE numK = (JV.zero, 5) := by
  unfold parseE
  rw [if_neg (by decide), parse_none (by decide +kernel)]
theorem deepK_row : parseE deepK = (JV.zero, 5) := by
  unfold parseE
  rw [if_neg (by decide), parse_none (by decide +kernel)]
theorem long_row (n : Nat) (h : 1048576 < n) : parseE (List.replicate n 0) = (JV.zero, 3) := by
  unfold parseE
  rw [if_pos (by rw [List.length_replicate]; exact h)]
theorem utf8_zeros : ∀ n : Nat, utf8F (List.replicate n 0) = true
  | 0 => rfl
  | n + 1 => by
    rw [List.replicate_succ]
    unfold utf8F
    rw [if_pos (by decide)]
    exact utf8_zeros n
theorem word_zeros : ∀ n : Nat, ((List.replicate n (0 : UInt8)).flatMap escF).length = 6 * n
  | 0 => rfl
  | n + 1 => by
    rw [List.replicate_succ, List.flatMap_cons, List.length_append, word_zeros n, show (escF 0).length = 6 by decide]
    omega
theorem zeros_text (n : Nat) : mayF (.mk 4 (List.replicate n 0) 0 [] []) 8 = true ∧ (plainF (.mk 4 (List.replicate n 0) 0 [] [])).length = 6 * n + 2 := by
  constructor
  · unfold mayF headF mayL
    rw [utf8_zeros]
    rfl
  · unfold plainF wordF
    rw [if_neg (by decide), if_neg (by decide), if_neg (by decide), if_neg (by decide), if_pos rfl, List.length_cons, List.length_append, word_zeros]
    rfl
theorem zeros_long (n : Nat) (h : 1048576 < 6 * n + 2) : textE (.mk 4 (List.replicate n 0) 0 [] []) = 3 := by
  obtain ⟨h1, h2⟩ := zeros_text n
  unfold textE
  rw [if_pos h1, h2, if_neg (by omega)]
theorem zeros_fit (n : Nat) (h : 6 * n + 2 ≤ 1048576) : textE (.mk 4 (List.replicate n 0) 0 [] []) = 0 := by
  obtain ⟨h1, h2⟩ := zeros_text n
  unfold textE
  rw [if_pos h1, h2, if_pos h]
theorem may_true1 : mayF (.mk 2 [] 1 [] []) 8 = false := by decide +kernel
theorem may_seven : mayF (.mk 7 [] 0 [] []) 8 = false := by decide +kernel
theorem get_none : getF (.mk 6 [] 0 [] [[97]]) [97] = none := by decide +kernel
end Go.Proofs.YtehlgflpkofooaaDoor

namespace Go.Proofs.YtehlgflpkofooaaDoor
open Go.RowKit

theorem conv_bytes_c (s : ByteArray) (hs : s.size ≤ 1000) (w : World) : ∃ p c w', (convert 9 32 (.string s)).run Tryd.prog w = .ok (.slice p s.size c) w' ∧ Rd w' p s.size c s.data.toList ∧ Below w.heap.size w w' ∧ c ≤ 9223372036854775807 := by
  refine ⟨_, _, _, Lib.run_convert_string_bytes w 9 32 5 s Tryd.underlying9 Tryd.underlying32 Tryd.underlying5, ?_, ?_, ?_⟩
  · refine ⟨by simp, grownCap_ge _ _ _ _, (by intro e; cases e), fun _ => ⟨w.heap.size, 0, rfl, by rw [Lib.bytesWorld_size]; omega, fun j hj => ?_⟩⟩
    rw [Nat.zero_add]
    exact Lib.bytesWorld_cell w 5 s j hj
  · exact ⟨rfl, rfl, rfl, by rw [Lib.bytesWorld_size]; omega, fun k hk => Lib.bytesWorld_at_old w 5 s k hk⟩
  · have := grownCap_le_maxLen w s.size 0 5 (by unfold maxLen; omega)
    unfold maxLen at this
    omega
section
variable {ops : Array Oper} {rest : List Oper} {o : Oper} {a : Act} {Q : Exit → Act → World → Prop} {w : World}
/-- make of more bytes than Parse takes -/
theorem wl_make_long (n : Nat) (hn : 1048576 < n) (hn2 : n ≤ 2000000) (hg : o.guard = none) (l c : Operand) (hop : o.op = Op.makeSlice 32 l c) (hl : a.eval l = .int .i64 n) (hc : a.eval c = .int .i64 n)
    (hK : ∀ w' X, Own w' w.heap.size 5 (.slice (some ⟨w.heap.size, 0, none⟩) n n) X → parseE X = (JV.zero, 3) → Below w.heap.size w w' → wpList Tryd.prog ops Q rest (a.put o.dst (.slice (some ⟨w.heap.size, 0, none⟩) n n)) w') :
    wpList Tryd.prog ops Q (o :: rest) a w :=
  wl_make bt hg l c hop w.heap.size n hl hc (by omega) (Nat.le_refl _) fun w' h1 h2 _ => hK w' _ h1 (long_row n hn) h2
/-- make of as many bytes as a text is made of -/
theorem wl_make_text (n : Nat) (hn2 : n ≤ 2000000) (hg : o.guard = none) (l c : Operand) (hop : o.op = Op.makeSlice 32 l c) (hl : a.eval l = .int .i64 n) (hc : a.eval c = .int .i64 n)
    (hK : ∀ w' X, Own w' w.heap.size 5 (.slice (some ⟨w.heap.size, 0, none⟩) n n) X → (1048576 < 6 * n + 2 → textE (.mk 4 X 0 [] []) = 3) → (6 * n + 2 ≤ 1048576 → textE (.mk 4 X 0 [] []) = 0) → smallV (.mk 4 X 0 [] []) 9223372036854775000 → Below w.heap.size w w' → wpList Tryd.prog ops Q rest (a.put o.dst (.slice (some ⟨w.heap.size, 0, none⟩) n n)) w') :
    wpList Tryd.prog ops Q (o :: rest) a w :=
  wl_make bt hg l c hop w.heap.size n hl hc (by omega) (Nat.le_refl _) fun w' h1 h2 _ => hK w' _ h1 (zeros_long n) (zeros_fit n) (by unfold smallV smallL; exact ⟨by rw [List.length_replicate]; omega, (by intro k hk; cases hk), trivial⟩) h2
end
theorem flat7 (D : Nat → Prop) (w : World) : SV D w (.mk 7 [] 0 [] []) [.int .i64 7, .string ⟨#[]⟩, .int .u64 0, .slice none 0 0, .slice none 0 0] := by
  unfold SV
  exact ⟨none, 0, none, 0, rfl, by omega, ⟨⟨by simp, by omega, fun _ => rfl, fun h => by simp at h⟩, fun h => by simp at h⟩, ⟨by simp, by omega⟩, fun _ => rfl, fun h => by simp at h⟩
theorem key_sv (w : World) (g : Nat) (hk : Arr w g 9 [.string ⟨#[97]⟩]) : SV (fun _ => True) w (.mk 6 [] 0 [] [[97]]) [.int .i64 6, .string ⟨#[]⟩, .int .u64 0, .slice none 0 0, .slice (some ⟨g, 0, none⟩) 1 1] := by
  unfold SV
  refine ⟨none, 0, some ⟨g, 0, none⟩, 1, rfl, by omega, ⟨⟨by simp, by omega, (by intro e; cases e), fun _ => ⟨g, 0, rfl, hk.lt, fun i hi => ?_⟩⟩, fun _ => ⟨g, 0, rfl, trivial⟩⟩, ⟨by simp, by omega⟩, fun _ => rfl, fun h => by simp at h⟩
  rw [Nat.zero_add, hk.cell]
  match i, hi with
  | 0, _ => rfl
/-- the cells of a row of texts -/
theorem texts_cell (l : List (List UInt8)) (i : Nat) (h : i < l.length) : (l.map fun b => Value.string (bstr b))[i]? = some (.string (bstr (l.getD i []))) := by
  simp [List.getD, h]

set_option maxRecDepth 100000 in
set_option maxHeartbeats 1600000 in
theorem JsonKnown_any (w : World) (hT : Tabs w) : Calls Tryd.prog 8 #[] w fun e w' => e = .returned (.bool true) ∧ Below w.heap.size w w' := by
  have HT := Lib.hid hT
  clear hT
  have hwk : Hid (∀ W, Below w.heap.size w W → Calls Tryd.prog 19 #[] W fun e w' => e = .returned (.bool true) ∧ Below W.heap.size W w') := fun W hW => wakes_any W (HT.out.to hW)
  have hPar : Hid (∀ W a n c b x, Rd W a n c b → c ≤ 9223372036854775807 → Below w.heap.size w W → parseE b = x → Calls Tryd.prog 20 #[.slice a n c] W fun e w' => ∃ cs, e = .returned (.tuple #[.agg (List.toArray cs), .int .i64 (x.2 : Int)]) ∧ PV w' x.1 cs ∧ Below W.heap.size W w') := fun W a n c b x h hc hW hx => by
    subst hx
    exact (Parse_any a n c b W h hc (HT.out.to hW)).mono fun e w' ⟨cs, h1, h2, h3⟩ => ⟨cs, h1, sv_pv _ _ h2, h3⟩
  go_enter Tryd.func8, Tryd.ntmps8
  go_upto_region 2 with ((with_reducible show wpList _ _ _ (⟨none, _, _, _, _, _⟩ :: _) _ _); go_loud (refine wl_store rfl 57 _ _ rfl w.heap.size 0 rfl [.string ⟨#[]⟩, .string ⟨#[32]⟩, .string ⟨#[48, 49]⟩, .string ⟨#[45, 49]⟩, .string ⟨#[49, 46, 53]⟩, .string ⟨#[49, 101, 53]⟩, .string ⟨#[43, 49]⟩, .string ⟨#[34, 92, 117, 100, 56, 48, 48, 34]⟩, .string ⟨#[34, 92, 117, 100, 99, 48, 48, 34]⟩, .string ⟨#[34, 92, 117, 100, 56, 48, 48, 92, 117, 48, 48, 52, 49, 34]⟩, .string ⟨#[34, 1, 34]⟩, .string ⟨#[34, 255, 34]⟩, .string ⟨#[34, 97]⟩, .string ⟨#[34, 92, 120, 34]⟩, .string ⟨#[34, 92, 117, 49, 50, 103, 52, 34]⟩, .string ⟨#[91, 49, 44, 93]⟩, .string ⟨#[91, 44, 49, 93]⟩, .string ⟨#[123, 34, 97, 34, 125]⟩, .string ⟨#[123, 34, 97, 34, 58, 49, 44, 125]⟩, .string ⟨#[123, 49, 58, 50, 125]⟩, .string ⟨#[110, 117, 108]⟩, .string ⟨#[116, 114, 117, 101, 32, 102, 97, 108, 115, 101]⟩] rfl 57 [.string ⟨#[]⟩, .string ⟨#[]⟩, .string ⟨#[]⟩, .string ⟨#[]⟩, .string ⟨#[]⟩, .string ⟨#[]⟩, .string ⟨#[]⟩, .string ⟨#[]⟩, .string ⟨#[]⟩, .string ⟨#[]⟩, .string ⟨#[]⟩, .string ⟨#[]⟩, .string ⟨#[]⟩, .string ⟨#[]⟩, .string ⟨#[]⟩, .string ⟨#[]⟩, .string ⟨#[]⟩, .string ⟨#[]⟩, .string ⟨#[]⟩, .string ⟨#[]⟩, .string ⟨#[]⟩, .string ⟨#[]⟩] (Arr.new w 57 [.string ⟨#[]⟩, .string ⟨#[]⟩, .string ⟨#[]⟩, .string ⟨#[]⟩, .string ⟨#[]⟩, .string ⟨#[]⟩, .string ⟨#[]⟩, .string ⟨#[]⟩, .string ⟨#[]⟩, .string ⟨#[]⟩, .string ⟨#[]⟩, .string ⟨#[]⟩, .string ⟨#[]⟩, .string ⟨#[]⟩, .string ⟨#[]⟩, .string ⟨#[]⟩, .string ⟨#[]⟩, .string ⟨#[]⟩, .string ⟨#[]⟩, .string ⟨#[]⟩, .string ⟨#[]⟩, .string ⟨#[]⟩]) (by kernel_rfl) (by simp) (by simp [Value.oneCell']) ?_); intro w1 hA1 hg1 hs1)
  rw [whole_store [.string ⟨#[]⟩, .string ⟨#[]⟩, .string ⟨#[]⟩, .string ⟨#[]⟩, .string ⟨#[]⟩, .string ⟨#[]⟩, .string ⟨#[]⟩, .string ⟨#[]⟩, .string ⟨#[]⟩, .string ⟨#[]⟩, .string ⟨#[]⟩, .string ⟨#[]⟩, .string ⟨#[]⟩, .string ⟨#[]⟩, .string ⟨#[]⟩, .string ⟨#[]⟩, .string ⟨#[]⟩, .string ⟨#[]⟩, .string ⟨#[]⟩, .string ⟨#[]⟩, .string ⟨#[]⟩, .string ⟨#[]⟩] [.string ⟨#[]⟩, .string ⟨#[32]⟩, .string ⟨#[48, 49]⟩, .string ⟨#[45, 49]⟩, .string ⟨#[49, 46, 53]⟩, .string ⟨#[49, 101, 53]⟩, .string ⟨#[43, 49]⟩, .string ⟨#[34, 92, 117, 100, 56, 48, 48, 34]⟩, .string ⟨#[34, 92, 117, 100, 99, 48, 48, 34]⟩, .string ⟨#[34, 92, 117, 100, 56, 48, 48, 92, 117, 48, 48, 52, 49, 34]⟩, .string ⟨#[34, 1, 34]⟩, .string ⟨#[34, 255, 34]⟩, .string ⟨#[34, 97]⟩, .string ⟨#[34, 92, 120, 34]⟩, .string ⟨#[34, 92, 117, 49, 50, 103, 52, 34]⟩, .string ⟨#[91, 49, 44, 93]⟩, .string ⟨#[91, 44, 49, 93]⟩, .string ⟨#[123, 34, 97, 34, 125]⟩, .string ⟨#[123, 34, 97, 34, 58, 49, 44, 125]⟩, .string ⟨#[123, 49, 58, 50, 125]⟩, .string ⟨#[110, 117, 108]⟩, .string ⟨#[116, 114, 117, 101, 32, 102, 97, 108, 115, 101]⟩] rfl] at hA1
  have HA1 : Hid (Arr w1 w.heap.size 57 (bads.map fun b => Value.string (bstr b))) := hA1
  have HB1 : Hid (Below w.heap.size w w1) := ((Below.refl _ _).alloc (Nat.le_refl _) _).grown hg1 (by simp) (fun k hk => by cases hk; exact Nat.le_refl _)
  clear hA1 hg1 hs1
  go_wp2_with fail
  go_loopw [2] (fun i wr => ∃ m : Nat, m ≤ 22 ∧ i = .int .i64 m ∧ Below w1.heap.size w1 wr) (fun i _ => 22 - (intOf i).toNat)
  case atStart => exact ⟨0, by omega, rfl, Below.refl _ _⟩
  case round =>
    obtain ⟨m, hm, rfl, hb1⟩ := hrel
    have HBr : Hid (Below w1.heap.size w1 wr) := hb1
    have hAr := HA1.out.kept hb1
    have HBw : Hid (Below w.heap.size w wr) := HB1.out.trans (HBr.out.mono HB1.out.size)
    clear hb1
    by_cases hlt : m < 22
    · have i1 : (m : Int) < 22 := by omega
      have hce : wr.cell? ⟨w.heap.size, m, none⟩ = some (.string (bstr (bads.getD m []))) := (hAr.cell m).trans (texts_cell bads m hlt)
      have hsz := (bads_ok ⟨m, hlt⟩).2
      have hrow := Lib.hid (bad_row m hlt)
      simp only at hsz
      generalize bads.getD m [] = b at *
      obtain ⟨p, c, wc, hcv, hrd, hbc, hcc⟩ := conv_bytes_c (bstr b) (by rw [bstr_size]; omega) wr
      rw [bstr_data] at hrd
      have HRD := Lib.hid hrd
      have HBC := Lib.hid hbc
      have HCC := Lib.hid hcc
      generalize (bstr b).size = bn at *
      clear hrd hbc hcc hsz hAr
      go_upto_region 6 with (first
        | (go_at_call 20; go_loud (refine (hPar.out _ _ _ _ _ _ HRD.out HCC.out (HBw.out.trans (HBC.out.mono HBw.out.size)) hrow.out).mono ?_); rintro e w5' ⟨cs5, rfl, hp5, hb5⟩; obtain ⟨yk, ys, yn, ya, yl, yc, yb, ym, yd, rfl⟩ := pv_shape hp5; have hY0 := Arr.new w5' 30 zC)
        | ((with_reducible show wpList _ _ _ (⟨none, _, _, _, _, _⟩ :: _) _ _); go_loud (refine wl_store rfl 30 _ _ rfl w5'.heap.size 0 rfl [.int .i64 yk, .string ys, .int .u64 yn, .slice ya yl yc, .slice yb ym yd] rfl 30 zC hY0 (by kernel_rfl) (by simp [zC]) (by simp [Value.oneCell']) ?_); intro w5 hY hg5 hs5))
      have h5 : Hid (Below wc.heap.size wc w5) := (hb5.alloc hb5.size _).grown hg5 (by have := hb5.size; simp; omega) (by intro q hq; cases hq; exact hb5.size)
      clear hY hY0 hg5 hs5 hp5 hb5 hcv hce
      go_wp2_with fail
      go_roundw
      case rel => exact ⟨m + 1, by omega, by go_num, HBr.out.trans ((HBC.out.trans (h5.out.mono HBC.out.size)).mono HBr.out.size)⟩
      case measure => simp [intOf]; omega
    · obtain rfl : m = 22 := by omega
      clear hAr hlt hm HA1
      go_upto_region 9 with ((with_reducible show wpList _ _ _ (⟨none, _, _, _, _, _⟩ :: _) _ _); go_loud (refine wl_store rfl 58 _ _ rfl wr.heap.size 0 rfl [.string ⟨#[34, 92, 34, 92, 92, 92, 47, 92, 98, 92, 102, 92, 110, 92, 114, 92, 116, 34]⟩, .string ⟨#[34, 92, 117, 68, 56, 51, 68, 92, 117, 68, 69, 48, 48, 34]⟩, .string ⟨#[34, 92, 117, 48, 48, 48, 48, 34]⟩, .string ⟨#[49, 56, 52, 52, 54, 55, 52, 52, 48, 55, 51, 55, 48, 57, 53, 53, 49, 54, 49, 53]⟩, .string ⟨#[123, 125]⟩, .string ⟨#[91, 91, 91, 91, 91, 91, 91, 91, 93, 93, 93, 93, 93, 93, 93, 93]⟩] rfl 58 [.string ⟨#[]⟩, .string ⟨#[]⟩, .string ⟨#[]⟩, .string ⟨#[]⟩, .string ⟨#[]⟩, .string ⟨#[]⟩] (Arr.new wr 58 [.string ⟨#[]⟩, .string ⟨#[]⟩, .string ⟨#[]⟩, .string ⟨#[]⟩, .string ⟨#[]⟩, .string ⟨#[]⟩]) (by kernel_rfl) (by simp) (by simp [Value.oneCell']) ?_); intro w2 hA2 hg2 hs2)
      rw [whole_store [.string ⟨#[]⟩, .string ⟨#[]⟩, .string ⟨#[]⟩, .string ⟨#[]⟩, .string ⟨#[]⟩, .string ⟨#[]⟩] [.string ⟨#[34, 92, 34, 92, 92, 92, 47, 92, 98, 92, 102, 92, 110, 92, 114, 92, 116, 34]⟩, .string ⟨#[34, 92, 117, 68, 56, 51, 68, 92, 117, 68, 69, 48, 48, 34]⟩, .string ⟨#[34, 92, 117, 48, 48, 48, 48, 34]⟩, .string ⟨#[49, 56, 52, 52, 54, 55, 52, 52, 48, 55, 51, 55, 48, 57, 53, 53, 49, 54, 49, 53]⟩, .string ⟨#[123, 125]⟩, .string ⟨#[91, 91, 91, 91, 91, 91, 91, 91, 93, 93, 93, 93, 93, 93, 93, 93]⟩] rfl] at hA2
      have HA2 : Hid (Arr w2 wr.heap.size 58 (goods.map fun b => Value.string (bstr b))) := hA2
      have HB2 : Hid (Below w.heap.size w w2) := (HBw.out.alloc HBw.out.size _).grown hg2 (by have := HBw.out.size; simp; omega) (fun k hk => by cases hk; exact HBw.out.size)
      clear hA2 hg2 hs2
      go_upto_region 10 with ((with_reducible show wpList _ _ _ (⟨none, _, _, _, _, _⟩ :: _) _ _); go_loud (refine wl_store rfl 58 _ _ rfl w2.heap.size 0 rfl [.string ⟨#[34, 92, 34, 92, 92, 47, 92, 117, 48, 48, 48, 56, 92, 117, 48, 48, 48, 99, 92, 117, 48, 48, 48, 97, 92, 117, 48, 48, 48, 100, 92, 117, 48, 48, 48, 57, 34]⟩, .string ⟨#[34, 240, 159, 152, 128, 34]⟩, .string ⟨#[34, 92, 117, 48, 48, 48, 48, 34]⟩, .string ⟨#[49, 56, 52, 52, 54, 55, 52, 52, 48, 55, 51, 55, 48, 57, 53, 53, 49, 54, 49, 53]⟩, .string ⟨#[123, 125]⟩, .string ⟨#[91, 91, 91, 91, 91, 91, 91, 91, 93, 93, 93, 93, 93, 93, 93, 93]⟩] rfl 58 [.string ⟨#[]⟩, .string ⟨#[]⟩, .string ⟨#[]⟩, .string ⟨#[]⟩, .string ⟨#[]⟩, .string ⟨#[]⟩] (Arr.new w2 58 [.string ⟨#[]⟩, .string ⟨#[]⟩, .string ⟨#[]⟩, .string ⟨#[]⟩, .string ⟨#[]⟩, .string ⟨#[]⟩]) (by kernel_rfl) (by simp) (by simp [Value.oneCell']) ?_); intro w3 hA3 hg3 hs3)
      rw [whole_store [.string ⟨#[]⟩, .string ⟨#[]⟩, .string ⟨#[]⟩, .string ⟨#[]⟩, .string ⟨#[]⟩, .string ⟨#[]⟩] [.string ⟨#[34, 92, 34, 92, 92, 47, 92, 117, 48, 48, 48, 56, 92, 117, 48, 48, 48, 99, 92, 117, 48, 48, 48, 97, 92, 117, 48, 48, 48, 100, 92, 117, 48, 48, 48, 57, 34]⟩, .string ⟨#[34, 240, 159, 152, 128, 34]⟩, .string ⟨#[34, 92, 117, 48, 48, 48, 48, 34]⟩, .string ⟨#[49, 56, 52, 52, 54, 55, 52, 52, 48, 55, 51, 55, 48, 57, 53, 53, 49, 54, 49, 53]⟩, .string ⟨#[123, 125]⟩, .string ⟨#[91, 91, 91, 91, 91, 91, 91, 91, 93, 93, 93, 93, 93, 93, 93, 93]⟩] rfl] at hA3
      have HA3 : Hid (Arr w3 w2.heap.size 58 (wantL.map fun b => Value.string (bstr b))) := hA3
      have hB23 : Below w2.heap.size w2 w3 := ((Below.refl _ _).alloc (Nat.le_refl _) _).grown hg3 (by simp) (fun k hk => by cases hk; exact Nat.le_refl _)
      have HG3 : Hid (Arr w3 wr.heap.size 58 (goods.map fun b => Value.string (bstr b))) := HA2.out.kept hB23
      have HB3 : Hid (Below w.heap.size w w3) := HB2.out.trans (hB23.mono HB2.out.size)
      clear hA3 hg3 hs3 hB23 HA2
      go_wp2_with fail
      go_loopw [7] (fun i wq => ∃ m : Nat, m ≤ 6 ∧ i = .int .i64 m ∧ Below w3.heap.size w3 wq) (fun i _ => 6 - (intOf i).toNat)
      case atStart => exact ⟨0, by omega, rfl, Below.refl _ _⟩
      case round =>
        rename World => wq
        obtain ⟨m, hm, rfl, hb1⟩ := hrel
        have HBr3 : Hid (Below w3.heap.size w3 wq) := hb1
        have hGq := HG3.out.kept hb1
        have hWq := HA3.out.kept hb1
        have HBq : Hid (Below w.heap.size w wq) := HB3.out.trans (HBr3.out.mono HB3.out.size)
        clear hb1
        by_cases hlt : m < 6
        · have i1 : (m : Int) < 6 := by omega
          have hce : wq.cell? ⟨wr.heap.size, m, none⟩ = some (.string (bstr (goods.getD m []))) := (hGq.cell m).trans (texts_cell goods m hlt)
          have hsz := (goods_ok ⟨m, hlt⟩).2.1
          obtain ⟨v, h1, h2, h3, h4⟩ := good_row m hlt
          simp only at hsz
          have hWC : Hid (∀ W, Below wq.heap.size wq W → W.cell? ⟨w2.heap.size, m, none⟩ = some (.string (bstr (wantL.getD m [])))) := fun W hW => ((hWq.kept hW).cell m).trans (texts_cell wantL m hlt)
          generalize goods.getD m [] = b at *
          generalize wantL.getD m [] = u at *
          have hrow := Lib.hid h1
          have HTE := Lib.hid h2
          have HTB := Lib.hid h3
          have HSX := Lib.hid (tot_small v 9223372036854775000 (by omega)).1
          obtain ⟨p, c, wc, hcv, hrd, hbc, hcc⟩ := conv_bytes_c (bstr b) (by rw [bstr_size]; omega) wq
          rw [bstr_data] at hrd
          have HRD := Lib.hid hrd
          have HBC := Lib.hid hbc
          have HCC := Lib.hid hcc
          generalize (bstr b).size = bn at *
          clear hrd hbc hcc hsz hGq hWq h1 h2 h3 h4
          go_upto_region 14 with (first
            | (go_at_call 20; go_loud (refine (hPar.out _ _ _ _ _ _ HRD.out HCC.out (HBq.out.trans (HBC.out.mono HBq.out.size)) hrow.out).mono ?_); rintro e w5' ⟨cs5, rfl, hp5, hb5⟩; obtain ⟨yk, ys, yn, ya, yl, yc, yb, ym, yd, rfl⟩ := pv_shape hp5; have hY0 := Arr.new w5' 30 zC)
            | ((with_reducible show wpList _ _ _ (⟨none, _, _, _, _, _⟩ :: _) _ _); go_loud (refine wl_store rfl 30 _ _ rfl w5'.heap.size 0 rfl [.int .i64 yk, .string ys, .int .u64 yn, .slice ya yl yc, .slice yb ym yd] rfl 30 zC hY0 (by kernel_rfl) (by simp [zC]) (by simp [Value.oneCell']) ?_); intro w5 hY hg5 hs5))
          rw [whole_store zC [.int .i64 yk, .string ys, .int .u64 yn, .slice ya yl yc, .slice yb ym yd] rfl] at hY
          have h5 : Hid (Below wc.heap.size wc w5) := (hb5.alloc hb5.size _).grown hg5 (by have := hb5.size; simp; omega) (by intro q hq; cases hq; exact hb5.size)
          have HP5 : Hid (PV w5 v [.int .i64 yk, .string ys, .int .u64 yn, .slice ya yl yc, .slice yb ym yd]) := pv_keep (CellsKept.of_below (((Below.refl _ _).alloc (Nat.le_refl _) _).grown hg5 (by simp) (by intro q hq; cases hq; exact Nat.le_refl _))) _ _ hp5
          have HB15 : Hid (Below wq.heap.size wq w5) := HBC.out.trans (h5.out.mono HBC.out.size)
          have HB5 : Hid (Below w.heap.size w w5) := HBq.out.trans (HB15.out.mono HBq.out.size)
          have hTx : Hid (Calls Tryd.prog 11 #[.agg #[.int .i64 yk, .string ys, .int .u64 yn, .slice ya yl yc, .slice yb ym yd]] w5 fun e w' => ∃ vb, e = .returned (.tuple #[vb, .int .i64 0]) ∧ Own w' w5.heap.size 5 vb u ∧ Below w5.heap.size w5 w') := by
            have := Text_any v _ w5 HP5.out HSX.out (HT.out.to HB5.out)
            rw [HTE.out, HTB.out] at this
            exact this
          clear hY0 hg5 hs5 hp5 hb5 hcv hce
          have y0 := (hY.cell 0).trans (show _ = some (Value.int .i64 yk) from rfl)
          have y1 := (hY.cell 1).trans (show _ = some (Value.string ys) from rfl)
          have y2 := (hY.cell 2).trans (show _ = some (Value.int .u64 yn) from rfl)
          have y3 := (hY.cell 3).trans (show _ = some (Value.slice ya yl yc) from rfl)
          have y4 := (hY.cell 4).trans (show _ = some (Value.slice yb ym yd) from rfl)
          go_upto_region 15 with (go_at_call 11; go_loud (refine hTx.out.mono ?_); rintro e w6 ⟨vb, rfl, ho6, hb6⟩; obtain ⟨ta, tc, rfl, -⟩ := ho6.shape)
          have HB16 : Hid (Below wq.heap.size wq w6) := HB15.out.trans (hb6.mono HB15.out.size)
          have hst : (convert 32 9 (.slice ta u.length tc)).run Tryd.prog w6.drew = .ok (.string (bstr u)) w6.drew := run_bstr bt Tryd.underlying9 (show Rd w6.drew ta u.length tc u from ⟨ho6.rd.toRd.len, ho6.rd.toRd.le, ho6.rd.toRd.nil, ho6.rd.toRd.mem⟩)
          have hcw : w6.drew.cell? ⟨w2.heap.size, m, none⟩ = some (.string (bstr u)) := hWC.out w6 HB16.out
          have hcw2 : w6.cell? ⟨w2.heap.size, m, none⟩ = some (.string (bstr u)) := hWC.out _ HB16.out
          clear y0 y1 y2 y3 y4 hY ho6 hb6 hTx
          generalize u.length = un at *
          go_cut [71] from 41 to 71 (fun c wx => c = .bool false ∧ Below w6.heap.size w6 wx)
          case first =>
            go_region
            go_wp2
            go_meet
            exact ⟨rfl, (Below.refl _ _).drew⟩
          case rest =>
            obtain ⟨rfl, hb7⟩ := hcut
            have HB17 := Lib.hid (HB16.out.trans (hb7.mono HB16.out.size))
            clear hcw hcw2 hst hb7
            go_wp2_with fail
            go_roundw
            case rel => exact ⟨m + 1, by omega, by go_num, HBr3.out.trans (HB17.out.mono HBr3.out.size)⟩
            case measure => simp [intOf]; omega
        · obtain rfl : m = 6 := by omega
          clear hGq hWq hlt hm
          clear HBr HBr3 HBw HB1 HB2 HB3 HA3 HG3
          have kc := fun (w : World) (C : Array Value) (n c : Nat) => Lib.run_convert_bytes_const (P := Tryd.prog) w 32 5 C n c Tryd.underlying32 Tryd.underlying5
          have hN : Hid (∀ fr, Calls Tryd.prog 20 #[.slice (some ⟨wq.heap.size, 0, none⟩) 20 20] (wq.alloc (.cells (numK.map bv).toArray 5 fr)) fun e w' => ∃ cs, e = .returned (.tuple #[.agg (List.toArray cs), .int .i64 5]) ∧ PV w' JV.zero cs ∧ Below wq.heap.size wq w') := fun fr => by
            have hal := (Below.refl _ wq).alloc (Nat.le_refl _) (.cells (numK.map bv).toArray 5 fr)
            exact (hPar.out _ _ _ _ _ _ (rd_lit wq numK 5 fr) (by decide) (HBq.out.trans (hal.mono HBq.out.size)) numK_row).mono fun e w' ⟨cs, h1, h2, h3⟩ => ⟨cs, h1, h2, hal.trans (h3.mono hal.size)⟩
          go_upto_region 18 with (first
            | (go_at_call 20; go_loud (refine (hN.out _).mono ?_); rintro e w4' ⟨cs4, rfl, hp4, hb4⟩; obtain ⟨xk, xs, xn, xa, xl, xc, xb, xm, xd, rfl⟩ := pv_shape hp4; have hX0 := Arr.new w4' 30 zC)
            | ((with_reducible show wpList _ _ _ (⟨none, _, _, _, _, _⟩ :: _) _ _); go_loud (refine wl_store rfl 30 _ _ rfl w4'.heap.size 0 rfl [.int .i64 xk, .string xs, .int .u64 xn, .slice xa xl xc, .slice xb xm xd] rfl 30 zC hX0 (by kernel_rfl) (by simp [zC]) (by simp [Value.oneCell']) ?_); intro w4 hX hg4 hs4))
          have HB4 : Hid (Below w.heap.size w w4) := HBq.out.trans (((hb4.alloc hb4.size _).grown hg4 (by have := hb4.size; simp; omega) (by intro q hq; cases hq; exact hb4.size)).mono HBq.out.size)
          clear hX hX0 hg4 hs4 hp4 hb4 hN
          have hN : Hid (∀ fr, Calls Tryd.prog 20 #[.slice (some ⟨w4.heap.size, 0, none⟩) 18 18] (w4.alloc (.cells (deepK.map bv).toArray 5 fr)) fun e w' => ∃ cs, e = .returned (.tuple #[.agg (List.toArray cs), .int .i64 5]) ∧ PV w' JV.zero cs ∧ Below w4.heap.size w4 w') := fun fr => by
            have hal := (Below.refl _ w4).alloc (Nat.le_refl _) (.cells (deepK.map bv).toArray 5 fr)
            exact (hPar.out _ _ _ _ _ _ (rd_lit w4 deepK 5 fr) (by decide) (HB4.out.trans (hal.mono HB4.out.size)) deepK_row).mono fun e w' ⟨cs, h1, h2, h3⟩ => ⟨cs, h1, h2, hal.trans (h3.mono hal.size)⟩
          go_upto_region 19 with (first
            | (go_at_call 20; go_loud (refine (hN.out _).mono ?_); rintro e w5' ⟨cs5, rfl, hp5, hb5⟩; obtain ⟨yk, ys, yn, ya, yl, yc, yb, ym, yd, rfl⟩ := pv_shape hp5; have hY0 := Arr.new w5' 30 zC)
            | ((with_reducible show wpList _ _ _ (⟨none, _, _, _, _, _⟩ :: _) _ _); go_loud (refine wl_store rfl 30 _ _ rfl w5'.heap.size 0 rfl [.int .i64 yk, .string ys, .int .u64 yn, .slice ya yl yc, .slice yb ym yd] rfl 30 zC hY0 (by kernel_rfl) (by simp [zC]) (by simp [Value.oneCell']) ?_); intro w5 hY hg5 hs5))
          have HB5 : Hid (Below w.heap.size w w5) := HB4.out.trans (((hb5.alloc hb5.size _).grown hg5 (by have := hb5.size; simp; omega) (by intro q hq; cases hq; exact hb5.size)).mono HB4.out.size)
          clear hY hY0 hg5 hs5 hp5 hb5 hN
          go_upto_region 20 with (first
            | (at_make; refine wl_make_long 1048577 (by omega) (by omega) rfl _ _ rfl rfl rfl ?_; intro w6a X hx hpx hbx; have HPX := Lib.hid hpx; have HX := Lib.hid hx; clear hpx hx)
            | (go_at_call 20; go_loud (refine (hPar.out _ _ _ _ _ _ HX.out.rd.toRd (by decide) (HB5.out.trans (hbx.mono HB5.out.size)) HPX.out).mono ?_); rintro e w6' ⟨cs6, rfl, hp6, hb6⟩; obtain ⟨zk, zs, zn, za, zl, zc, zb, zm, zd, rfl⟩ := pv_shape hp6; have hZ0 := Arr.new w6' 30 zC)
            | ((with_reducible show wpList _ _ _ (⟨none, _, _, _, _, _⟩ :: _) _ _); go_loud (refine wl_store rfl 30 _ _ rfl w6'.heap.size 0 rfl [.int .i64 zk, .string zs, .int .u64 zn, .slice za zl zc, .slice zb zm zd] rfl 30 zC hZ0 (by kernel_rfl) (by simp [zC]) (by simp [Value.oneCell']) ?_); intro w6 hZ hg6 hs6))
          have HB6 : Hid (Below w.heap.size w w6) := HB5.out.trans ((hbx.trans (((hb6.alloc hb6.size _).grown hg6 (by have := hb6.size; simp; omega) (by intro q hq; cases hq; exact hb6.size)).mono hbx.size)).mono HB5.out.size)
          clear hZ hZ0 hg6 hs6 hp6 hb6 hbx HX HPX
          go_upto_region 21 with (first
            | (at_make; refine wl_make_text 174763 (by omega) rfl _ _ rfl rfl rfl ?_; intro w7a X7 hx7 hl7 hf7 hs7 hb7; have hst7 := run_bstr bt Tryd.underlying9 hx7.rd.toRd; have HX7 : Hid (textE (.mk 4 X7 0 [] []) = 3) := hl7 (by omega); clear hl7 hf7 hx7)
            | (go_at_call 11; go_loud (refine (Text_any (.mk 4 X7 0 [] []) (flatC 4 X7 0) _ (sv_pv _ _ (flat_sv (fun _ => True) _ 4 0 X7 (by omega) (by omega))) hs7 (HT.out.to (HB6.out.trans (hb7.mono HB6.out.size)))).mono ?_); rw [HX7.out]; rintro e w7 ⟨vb, rfl, ho, hc7⟩; obtain ⟨ta7, tc7, rfl, -⟩ := ho.shape; clear ho))
          have HB7 : Hid (Below w.heap.size w w7) := HB6.out.trans ((hb7.trans (hc7.mono hb7.size)).mono HB6.out.size)
          generalize (textB (.mk 4 X7 0 [] [])).length = tl7 at *
          clear hst7 hb7 hc7 hs7 HX7
          go_upto_region 22 with (first
            | (at_make; refine wl_make_text 174762 (by omega) rfl _ _ rfl rfl rfl ?_; intro w8a X8 hx8 hl8 hf8 hs8 hb8; have hst8 := run_bstr bt Tryd.underlying9 hx8.rd.toRd; have HX8 : Hid (textE (.mk 4 X8 0 [] []) = 0) := hf8 (by omega); clear hl8 hf8 hx8)
            | (go_at_call 11; go_loud (refine (Text_any (.mk 4 X8 0 [] []) (flatC 4 X8 0) _ (sv_pv _ _ (flat_sv (fun _ => True) _ 4 0 X8 (by omega) (by omega))) hs8 (HT.out.to (HB7.out.trans (hb8.mono HB7.out.size)))).mono ?_); rw [HX8.out]; rintro e w8 ⟨vb, rfl, ho, hc8⟩; obtain ⟨ta8, tc8, rfl, -⟩ := ho.shape; clear ho))
          have HB8 : Hid (Below w.heap.size w w8) := HB7.out.trans ((hb8.trans (hc8.mono hb8.size)).mono HB7.out.size)
          generalize (textB (.mk 4 X8 0 [] [])).length = tl8 at *
          clear hst8 hb8 hc8 hs8 HX8
          have hal : Hid (Below w8.heap.size w8 (w8.alloc (.cells #[.string ⟨#[97]⟩] 9))) := (Below.refl _ _).alloc (Nat.le_refl _) _
          have hGt : Hid (Calls Tryd.prog 13 #[.agg #[.int .i64 6, .string ⟨#[]⟩, .int .u64 0, .slice none 0 0, .slice (some ⟨w8.heap.size, 0, none⟩) 1 1], .string ⟨#[97]⟩] (w8.alloc (.cells #[.string ⟨#[97]⟩] 9)) fun e w' => ∃ cx, e = .returned (.tuple #[.agg (List.toArray cx), .bool false]) ∧ PV w' JV.zero cx ∧ Below w8.heap.size w8 w') := by
            have := Get_any (.mk 6 [] 0 [] [[97]]) [.int .i64 6, .string ⟨#[]⟩, .int .u64 0, .slice none 0 0, .slice (some ⟨w8.heap.size, 0, none⟩) 1 1] [97] (w8.alloc (.cells #[.string ⟨#[97]⟩] 9)) (sv_pv _ _ (key_sv _ _ (Arr.new w8 9 [.string ⟨#[97]⟩]))) (by unfold fewV fewL; exact ⟨by simp, by simp, trivial⟩)
            rw [get_none] at this
            exact this.mono fun e w' ⟨cs, h1, h2, h3⟩ => ⟨cs, h1, sv_pv _ _ h2, hal.out.trans (h3.mono hal.out.size)⟩
          go_upto_region 23 with (first
            | (go_at_call 13; go_loud (refine hGt.out.mono ?_); rintro e w9' ⟨cs9, rfl, hp9, hb9⟩; obtain ⟨qk, qs, qn, qa, ql, qc, qb, qm, qd, rfl⟩ := pv_shape hp9; have hQ0 := Arr.new w9' 30 zC)
            | ((with_reducible show wpList _ _ _ (⟨none, _, _, _, _, _⟩ :: _) _ _); go_loud (refine wl_store rfl 30 _ _ rfl w9'.heap.size 0 rfl [.int .i64 qk, .string qs, .int .u64 qn, .slice qa ql qc, .slice qb qm qd] rfl 30 zC hQ0 (by kernel_rfl) (by simp [zC]) (by simp [Value.oneCell']) ?_); intro w9 hQ hg9 hs9))
          have HB9 : Hid (Below w.heap.size w w9) := HB8.out.trans (((hb9.alloc hb9.size _).grown hg9 (by have := hb9.size; simp; omega) (by intro q hq; cases hq; exact hb9.size)).mono HB8.out.size)
          clear hQ hQ0 hg9 hs9 hp9 hb9 hGt hal
          have hm1 : Hid (∀ W, Below w9.heap.size w9 W → Calls Tryd.prog 15 #[.agg #[.int .i64 2, .string ⟨#[]⟩, .int .u64 1, .slice none 0 0, .slice none 0 0]] W fun e w' => e = .returned (.bool false) ∧ Below W.heap.size W w') := fun W hW => by
            have := May_any (.mk 2 [] 1 [] []) (flatC 2 [] 1) W (sv_pv _ _ (flat_sv (fun _ => True) W 2 1 [] (by omega) (by omega))) (by unfold smallV smallL; exact ⟨by simp, (by intro k hk; cases hk), trivial⟩) (HT.out.to (HB9.out.trans (hW.mono HB9.out.size)))
            rw [may_true1] at this
            exact this
          have hm2 : Hid (∀ W, Below w9.heap.size w9 W → Calls Tryd.prog 15 #[.agg #[.int .i64 7, .string ⟨#[]⟩, .int .u64 0, .slice none 0 0, .slice none 0 0]] W fun e w' => e = .returned (.bool false) ∧ Below W.heap.size W w') := fun W hW => by
            have := May_any (.mk 7 [] 0 [] []) _ W (sv_pv _ _ (flat7 (fun _ => True) W)) (by unfold smallV smallL; exact ⟨by simp, (by intro k hk; cases hk), trivial⟩) (HT.out.to (HB9.out.trans (hW.mono HB9.out.size)))
            rw [may_seven] at this
            exact this
          go_wp2_with (first
            | (go_at_call 15; refine (hm1.out _ (Below.refl _ _)).mono ?_; rintro e w10 ⟨rfl, hb10⟩)
            | (go_at_call 15; refine (hm2.out _ hb10).mono ?_; rintro e w11 ⟨rfl, hb11⟩; have HB11 : Hid (Below w.heap.size w w11) := HB9.out.trans ((hb10.trans (hb11.mono hb10.size)).mono HB9.out.size))
            | (go_at_call 19; go_loud (refine (hwk.out _ HB11.out).mono ?_); rintro e w12 ⟨rfl, hb12⟩))
          go_ret
          exact ⟨rfl, HB11.out.trans (hb12.mono HB11.out.size)⟩
end Go.Proofs.YtehlgflpkofooaaDoor

namespace Go.Proofs.YtehlgflpkofooaaDoor
open Go.ChangeShapes Go.WideShapes Go.ChangeAt Go.RowKit
set_option maxRecDepth 100000

theorem jsonKnown_contract (H : Type) (enc : TypeId × Value → H) (W : World) (args : Array Value) (ds gs : List (DataW H)) (before : List MemPlace)
    (hW : DataW.Whole enc Tryd.prog Tryd.f8.params.toList Rows.jsonKnownSpec.vars false W args.toList ds gs before) (hT : Tabs W) :
    Calls Tryd.prog 8 args W fun e W' => ∃ v, e = .returned v ∧ Rows.jsonKnownSpec.post enc Tryd.prog Tryd.f8 false true false false W args v W' := by
  have hW' := hW
  obtain ⟨p, q, hA0, hV, rfl, _, _⟩ := hW
  have hA : DataW.TrodAll enc Tryd.prog W 0 (fun _ => true) true Tryd.f8.params.toList args.toList ds p := hA0
  rw [Tryd.params8] at hA
  obtain ⟨hn, rfl, rfl⟩ := trodAll_nil hA
  obtain rfl : args = #[] := by cases args; simp_all
  obtain ⟨rfl, rfl⟩ := trodVars_none hV
  refine (JsonKnown_any W hT).mono fun e W' ⟨he, hw⟩ => ?_
  subst he
  exact ⟨_, rfl, law_post laidOuts (by kernel_rfl) rfl Tryd.underlying4 rfl hW' hw rfl⟩

theorem jsonKnown_lifted (os : Os) (started : os.Started) (H : Type) (enc : TypeId × Value → H) (F : Stop.Interp) :
    ReturnsInHanded {} Tryd.checked os 8 .any ((OpenSpec.ofChange Rows.jsonKnownSpec).preRow enc Tryd.prog Tryd.f8 Rows.jsonKnownRow.domain false Rows.jsonKnownRow.laid) (((OpenSpec.ofChange Rows.jsonKnownSpec).at F).post enc Tryd.prog Tryd.f8 false true false false) := by
  refine returnsInHanded_of_row (C := Tryd.checked) (s := OpenSpec.ofChange Rows.jsonKnownSpec) ownKnobs started (by kernel_rfl) Tryd.func8
    (witness_laid (enc := enc) (os := os) false #[] (by kernel_rfl)
      (OpenSpec.preRow_of_cond 8 (x := ([], [], [])) (by kernel_rfl) (by kernel_rfl) (fun k hk => by cases hk) (by kernel_rfl) (laid_any os #[]))) ?_
  intro W base args ds gs before _ hW _ _ _ hL _ _
  exact jsonKnown_contract H enc W args ds gs before hW (tabs_of_laid hL)

theorem jsonKnown_said : Rows.JsonKnownSaid :=
  OpenClaim.holds_of_cond 8 Tryd.f8 rfl rfl rfl rfl rfl rfl rfl ⟨rfl, rfl, rfl, rfl, rfl⟩ rfl rfl rfl rfl rfl (by kernel_rfl) Tryd.func8 (by kernel_rfl)
    (of_decide_eq_true (by kernel_rfl)) (by unfold Func.isWrapper; first | (rw [if_pos (by decide +kernel)]; kernel_rfl) | (rw [if_neg (by decide +kernel)]; exact ⟨rfl, rfl⟩))
    (fun os started H enc _ F => by rw [OpenClaim.pre_eq_preRow]; exact jsonKnown_lifted os started H enc F)

theorem jsonKnown_plain (f : FuncId) (fn : Func) (hf : Tryd.pinned.checked.prog.funcNamed "escritoire/escritoirelaw04.JsonKnown" = some f) (hfn : Tryd.pinned.checked.prog.funcs[f]? = some fn) :
    true = Tryd.pinned.checked.prog.looks [] ∧ ∀ (j : Nat) t, fn.params[j]? = some t → Tryd.pinned.checked.prog.wantsStandIn t = false := by
  obtain rfl : f = 8 := Option.some.inj ((show Tryd.prog.funcNamed "escritoire/escritoirelaw04.JsonKnown" = some 8 by kernel_rfl).symm.trans hf) |>.symm
  obtain rfl : fn = Tryd.f8 := (Option.some.inj (Tryd.func8.symm.trans hfn)).symm
  refine ⟨by kernel_rfl, fun j t ht => ?_⟩
  have hm : t ∈ Tryd.f8.params.toList := by simpa using Array.mem_of_getElem? ht
  have hall : (Tryd.f8.params.toList.all fun u => !Tryd.prog.wantsStandIn u) = true := by kernel_rfl
  exact (show Tryd.prog.wantsStandIn t = false by simpa using List.all_eq_true.1 hall t hm)

theorem jsonKnown_proved : Rows.JsonKnownCardSaid :=
  Claim7.holds_tied_plain_at .later [] _ _ _ _ jsonKnown_said (fun _ h => by cases h) (by kernel_rfl) (fun _ h => by cases h) jsonKnown_row_tie rfl ⟨rfl, rfl⟩ (by kernel_rfl) rfl jsonKnown_plain (by kernel_rfl)
end Go.Proofs.YtehlgflpkofooaaDoor
