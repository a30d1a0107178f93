/-
  Layer 6: the hash of one byte and the parts, one behind the other. Conditions: those in each statement.
-/
import Derived.Test.YtebegdifnkifgaaSgA
namespace Go.Proofs.Ytebegdifnkifgaa
open Go.RowKit

/-- the slices from cell 0 of block g on read as these parts -/
def PartsAt (w : World) (g : Nat) (ps : List (List UInt8)) : Prop := g < w.heap.size ∧ ∀ k, k < ps.length → ∃ a n cap, w.cell? ⟨g, k, none⟩ = some (.slice a n cap) ∧ Rd w a n cap (ps.getD k [])
theorem PartsAt.to {w w' : World} {g : Nat} {ps : List (List UInt8)} (h : PartsAt w g ps) (hb : Below w.heap.size w w') : PartsAt w' g ps :=
  ⟨Nat.lt_of_lt_of_le h.1 hb.size, fun k hk => by
    obtain ⟨a, n, cap, h1, h2⟩ := h.2 k hk
    exact ⟨a, n, cap, (hb.cell (p := ⟨g, k, none⟩) h.1).trans h1, h2.to hb⟩⟩
theorem flat_snoc (ps : List (List UInt8)) (k : Nat) (h : k < ps.length) : (ps.take (k + 1)).flatten = (ps.take k).flatten ++ ps.getD k [] := by
  rw [List.take_succ_eq_append_getElem h, List.flatten_append, List.flatten_singleton]
  congr 1
  simp [List.getD, h]
theorem flat_le (ps : List (List UInt8)) (k : Nat) (h : k < ps.length) : (ps.take k).flatten.length + (ps.getD k []).length ≤ ps.flatten.length := by
  have h1 : ps.flatten = (ps.take (k + 1)).flatten ++ (ps.drop (k + 1)).flatten := by rw [← List.flatten_append, List.take_append_drop]
  rw [h1, flat_snoc ps k h]
  simp only [List.length_append]
  omega

set_option maxHeartbeats 800000 in
theorem hash_any (f : UInt8) (g : Nat) (ps : List (List UInt8)) (cap : Nat) (w : World) (hp : PartsAt w g ps) (hpl : ps.length ≤ 1000) (hl : ps.flatten.length ≤ 1125899906842624) :
    Calls Try.prog 22 #[.int .u8 (f.toNat : Int), .slice (some ⟨g, 0, none⟩) ps.length cap] w (Hash (f :: ps.flatten) w) := by
  have hdl := bvs_len (shaL (f :: ps.flatten))
  rw [shaL_len] at hdl
  have h32 : Hid ((Try.prog.info? 30).map (·.size) = some (bvs (shaL (f :: ps.flatten))).length) := by show _ = _; rw [hdl]; exact sizeD
  have H1 := Lib.hid (bvs_one (shaL (f :: ps.flatten)))
  have HDL := Lib.hid hdl
  have hS : Hid (∀ r w, St w r (f :: ps.flatten) → Calls Try.prog 29 #[.pointer (some ⟨r, 0, none⟩)] w (Hash (f :: ps.flatten) w)) := fun r w h => Sum_any r _ w (by simp only [List.length_cons]; omega) h
  clear hdl
  unfold Hash at hS ⊢
  generalize shaL (f :: ps.flatten) = D at *
  have HP := Lib.hid hp
  clear hp
  go_enter Try.func22, Try.ntmps22
  go_upto_region 3 with (first
    | ((with_reducible show wpList _ _ _ (⟨some 4, .alloc _, _, _, _, _⟩ :: _) _ _); refine wl_alloc rfl 30 rfl (bvs (Z8 32)) 32 infoD ?_; intro w1 hA1 hb1 hs1)
    | (go_at_call 27; refine (New_any _).mono ?_; rintro e w2 ⟨r, rfl, hS2, hr2, hb2⟩)
    | (go_at_call 28; go_loud (refine (Write_any r [] [f] _ 1 1 _ (by simp) (rd_lit _ [f] _) (fun ad e h0 => (by obtain rfl := (Option.some.inj e).symm; have := hS2.lt; simp; omega)) (hS2.kept ((Below.refl _ _).alloc (Nat.le_refl _) _))).mono ?_); rintro e w3 ⟨rfl, hS3, hg3⟩))
  have x2 := hb2.size
  have x3 := hg3.size
  rw [World.size_alloc] at x3
  have hr1 : w.heap.size < r := by omega
  have hB3 : Below w.heap.size w w3 := ((hb1.trans (hb2.mono (by omega))).alloc (by omega) _).grown hg3 (by rw [World.size_alloc]; omega) (by intro k e; injection e with e; omega)
  have hA3 : Arr w3 w.heap.size 30 (bvs (Z8 32)) := ((hA1.kept hb2).kept ((Below.refl _ _).alloc (Nat.le_refl _) _)).grown hg3 (by intro e; injection e with e; omega)
  rw [List.nil_append] at hS3
  clear hA1 hb1 hb2 hg3 hS2 x2 x3 hr2 hs1
  go_wp2_with fail
  go_loopw [15] (fun i wr => ∃ k : Nat, k ≤ ps.length ∧ i = .int .i64 k ∧ Arr wr w.heap.size 30 (bvs (Z8 32)) ∧ St wr r (f :: (ps.take k).flatten) ∧ Below w.heap.size w wr) (fun i _ => ps.length - (intOf i).toNat)
  case atStart => exact ⟨0, Nat.zero_le _, rfl, hA3, by simpa using hS3, hB3⟩
  case round =>
    obtain ⟨k, hk, rfl, hA, hSt, hB⟩ := hrel
    by_cases hlt : k < ps.length
    · obtain ⟨a, n, c, hcell, hrd⟩ := HP.out.2 k hlt
      have hcw := (hB.cell (p := ⟨g, k, none⟩) HP.out.1).trans hcell
      have hrw := hrd.to hB
      have hfl := flat_le ps k hlt
      have hwr := Write_any r (f :: (ps.take k).flatten) (ps.getD k []) a n c wr (by simp only [List.length_cons]; omega) hrw (fun ad e h0 => by
        obtain ⟨b, off, e2, h2, _⟩ := hrd.mem h0
        rw [e] at e2
        cases e2
        simp only
        omega) hSt
      have hfs : Hid (f :: (ps.take k).flatten ++ ps.getD k [] = f :: (ps.take (k + 1)).flatten) := by show _ = _; rw [flat_snoc ps k hlt]; rfl
      rw [hfs.out] at hwr
      have HW := Lib.hid hwr
      have hlt' : (k : Int) < (ps.length : Int) := by omega
      clear hwr hcell hrd hrw hfl hSt
      go_wp2_with (go_at_call 28; refine (HW.out).mono ?_; rintro e w4 ⟨rfl, hS4, hg4⟩)
      go_roundw
      case rel => exact ⟨k + 1, hlt, by go_num, hA.grown hg4 (by intro e; injection e with e; omega), hS4, hB.grown hg4 (Nat.le_of_lt hA.lt) (by intro k e; injection e with e; omega)⟩
      case measure => simp [intOf]; omega
    · obtain rfl : k = ps.length := by omega
      rw [List.take_length] at hSt
      have hc : ¬ (ps.length : Int) < (ps.length : Int) := by omega
      go_wp2_with (first
        | (go_at_call 29; refine (hS.out r _ hSt).mono ?_; rintro e w5 ⟨rfl, hb5⟩)
        | ((with_reducible show wpList _ _ _ (⟨none, .store _ _ _, _, _, _, _⟩ :: _) _ _); refine wl_store rfl 30 _ _ rfl w.heap.size 0 rfl (bvs D) rfl 30 _ (hA.kept hb5) h32.out (by rw [HDL.out]; exact (by decide : 0 + 32 ≤ (bvs (Z8 32)).length)) H1.out ?_; intro w6 hA6 hg6 hs6))
      rw [whole_store _ _ (by rw [HDL.out]; rfl)] at hA6
      refine end_cell rfl w.heap.size 30 (bvs D) (.array 32 5) rfl hA6 Try.underlying30 rfl h32.out rfl ⟨rfl, ?_⟩
      have x5 := hb5.size
      have x6 := hA.lt
      exact (hB.trans (hb5.mono (by omega))).grown hg6 (by omega) (by intro k e; injection e with e; omega)
end Go.Proofs.Ytebegdifnkifgaa
