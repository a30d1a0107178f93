/-
  The program's Size, and the letters of a part of at most three bytes. Conditions: those in each statement.
-/
import Derived.Test.YtpfhbkjjijmpaaaBaseC
import Derived.Test.YtpfhbkjjijmpaaaArr
namespace Go.Proofs.Ytpfhbkjjijmpaaa
open Go.RowKit

/-- how many letters n bytes have -/
def sizeF (n : Int) : Int := if n < 1 then 0 else if (n - 1) / 3 + 1 > 2305843009213693951 then 9223372036854775807 else ((n - 1) / 3 + 1) * 4
theorem Size_any (n : Int) (w : World) (h0 : -9223372036854775808 ≤ n) (h1 : n ≤ 9223372036854775807) : Calls Try.prog 11 #[.int .i64 n] w fun e w' => e = .returned (.int .i64 (sizeF n)) ∧ w' = w := by
  unfold sizeF
  by_cases h : n < 1
  · rw [if_pos h]
    go_enter Try.func11, Try.ntmps11
    go_wp2
    go_ret
    exact ⟨rfl, rfl⟩
  · rw [if_neg h]
    have e : Int.tdiv (n - 1) 3 = (n - 1) / 3 := Int.tdiv_eq_ediv_of_nonneg (by omega)
    by_cases h2 : (n - 1) / 3 + 1 > 2305843009213693951
    · rw [if_pos h2]
      go_enter Try.func11, Try.ntmps11
      go_wp2
      go_ret
      exact ⟨rfl, rfl⟩
    · rw [if_neg h2]
      go_enter Try.func11, Try.ntmps11
      go_wp2
      go_ret
      exact ⟨by first | rfl | (congr 2; omega), rfl⟩

def bvs (xs : List UInt8) : List Value := xs.map bv
theorem bvs_one (xs : List UInt8) : ∀ v ∈ bvs xs, v.oneCell' = true := bv_oneCell
theorem bvs_len (xs : List UInt8) : (bvs xs).length = xs.length := by simp [bvs]
theorem bvs_get (xs : List UInt8) (j : Nat) (h : j < xs.length) : (bvs xs)[j]? = some (.int .u8 ((xs.getD j 0).toNat : Int)) := by
  simp [bvs, bv, List.getD, h]
theorem bvs_set (xs : List UInt8) (j : Nat) (x : UInt8) : (bvs xs).set j (.int .u8 (x.toNat : Int)) = bvs (xs.set j x) := by
  simp [bvs, List.map_set, bv]

theorem alpha_ltr : ∀ n : Fin 64, ([65, 66, 67, 68, 69, 70, 71, 72, 73, 74, 75, 76, 77, 78, 79, 80, 81, 82, 83, 84, 85, 86, 87, 88, 89, 90, 97, 98, 99, 100, 101, 102, 103, 104, 105, 106, 107, 108, 109, 110, 111, 112, 113, 114, 115, 116, 117, 118, 119, 120, 121, 122, 48, 49, 50, 51, 52, 53, 54, 55, 56, 57, 43, 47] : List UInt8).getD n.val 0 = ltr n.val := by decide +kernel
theorem alpha_index (n : Nat) (h : n < 64) (w : World) : (Instr.index 9 (.string ⟨#[65, 66, 67, 68, 69, 70, 71, 72, 73, 74, 75, 76, 77, 78, 79, 80, 81, 82, 83, 84, 85, 86, 87, 88, 89, 90, 97, 98, 99, 100, 101, 102, 103, 104, 105, 106, 107, 108, 109, 110, 111, 112, 113, 114, 115, 116, 117, 118, 119, 120, 121, 122, 48, 49, 50, 51, 52, 53, 54, 55, 56, 57, 43, 47]⟩) (.int .u32 (n : Int))).run Try.prog w = .ok (.int .u8 ((ltr n).toNat : Int)) w := by
  rw [run_index_string _ _ _ _ _ Try.underlying9, dif_pos ⟨by omega, by show (n : Int) < 64; omega⟩, ← alpha_ltr ⟨n, h⟩]
  congr 3
  simp only [Int.toNat_natCast]
  rw [List.getD, List.getElem?_eq_getElem (by simpa using h)]
  rfl

/-- the bits of a part, as a number -/
def grp (p : List UInt8) : Nat := (p.getD 0 0).toNat * 65536 + (p.getD 1 0).toNat * 256 + (p.getD 2 0).toNat
/-- .. of its first bytes -/
def grpK (p : List UInt8) (k : Nat) : Nat := grp (p.take k)
def letAt (p : List UInt8) (i : Nat) : UInt8 := if i ≤ p.length then ltr (grp p / 2 ^ (6 * (3 - i)) % 64) else 61
theorem put_part (p : List UInt8) (h0 : 0 < p.length) (h3 : p.length ≤ 3) : putF p = [letAt p 0, letAt p 1, letAt p 2, letAt p 3] := by
  rcases p with _ | ⟨a, _ | ⟨b, _ | ⟨c, _ | ⟨d, r⟩⟩⟩⟩
  · simp at h0
  · have ha := a.toNat_lt
    simp only [putF, letAt, grp, List.length_cons, List.length_nil, List.getD_cons_zero, List.getD_cons_succ, List.getD_nil]
    simp
    constructor <;> congr 1 <;> omega
  · have ha := a.toNat_lt
    have hb := b.toNat_lt
    simp only [putF, letAt, grp, List.length_cons, List.length_nil, List.getD_cons_zero, List.getD_cons_succ, List.getD_nil]
    simp
    refine ⟨?_, ?_, ?_⟩ <;> congr 1 <;> omega
  · have ha := a.toNat_lt
    have hb := b.toNat_lt
    have hc := c.toNat_lt
    simp only [putF, letAt, grp, List.length_cons, List.length_nil, List.getD_cons_zero, List.getD_cons_succ]
    simp
    refine ⟨?_, ?_, ?_, ?_⟩ <;> congr 1 <;> omega
  · simp at h3
theorem grp_lt (p : List UInt8) : grp p < 16777216 := by
  have h0 := (p.getD 0 0).toNat_lt
  have h1 := (p.getD 1 0).toNat_lt
  have h2 := (p.getD 2 0).toNat_lt
  unfold grp
  omega
theorem take_getD (p : List UInt8) (k j : Nat) : (p.take k).getD j 0 = if j < k then p.getD j 0 else 0 := by
  rw [List.getD_eq_getElem?_getD, List.getD_eq_getElem?_getD, List.getElem?_take]
  split <;> rfl
theorem grpK_vals (p : List UInt8) : grpK p 0 = 0 ∧ grpK p 1 = (p.getD 0 0).toNat * 65536 ∧ grpK p 2 = (p.getD 0 0).toNat * 65536 + (p.getD 1 0).toNat * 256 ∧ grpK p 3 = (p.getD 0 0).toNat * 65536 + (p.getD 1 0).toNat * 256 + (p.getD 2 0).toNat := by
  unfold grpK grp
  simp only [take_getD]
  refine ⟨?_, ?_, ?_, ?_⟩ <;> simp
theorem info4 : (Try.prog.info? 51).map (fun i => (i.zero, i.size)) = some (some (.agg (bvs [0, 0, 0, 0]).toArray), 4) := by kernel_rfl
theorem size4 : (Try.prog.info? 51).map (·.size) = some 4 := by kernel_rfl
/-- what the letters' loop has laid -/
def lay4 (p : List UInt8) : Nat → List UInt8
  | 0 => [0, 0, 0, 0]
  | 1 => [letAt p 0, 0, 0, 0]
  | 2 => [letAt p 0, letAt p 1, 0, 0]
  | 3 => [letAt p 0, letAt p 1, letAt p 2, 0]
  | _ => [letAt p 0, letAt p 1, letAt p 2, letAt p 3]
theorem lay4_len (p : List UInt8) : ∀ k, (lay4 p k).length = 4
  | 0 => rfl
  | 1 => rfl
  | 2 => rfl
  | 3 => rfl
  | _ + 4 => rfl

set_option maxRecDepth 100000 in
set_option maxHeartbeats 1600000 in
theorem letters_any (a : Option Addr) (n cap : Nat) (p : List UInt8) (w : World) (h0 : 0 < n) (h3 : n ≤ 3) (hr : Rd w a n cap p) :
    Calls Try.prog 18 #[.slice a n cap] w fun e w' => e = .returned (.agg (bvs (putF p)).toArray) ∧ Below w.heap.size w w' := by
  have hpl := hr.len
  have hpp := put_part p (by omega) (by omega)
  rw [hpp]
  have hput : Hid ([letAt p 0, letAt p 1, letAt p 2, letAt p 3] = lay4 p 4) := rfl
  rw [hput.out]
  have hl4 : Hid ((Try.prog.info? 51).map (·.size) = some (bvs (lay4 p 4)).length) := by show _ = _; rw [bvs_len, lay4_len]; exact size4
  have hnl : Hid ((bvs (lay4 p 4)).length = 4) := by show _ = _; rw [bvs_len, lay4_len]
  clear hpp
  obtain ⟨b, off, rfl, hbb, hcells⟩ := hr.mem (by have := hr.le; omega)
  obtain ⟨hg0, hg1, hg2, hg3⟩ := grpK_vals p
  obtain ⟨A, hA⟩ : ∃ A, A = (p.getD 0 0).toNat := ⟨_, rfl⟩
  obtain ⟨B, hB⟩ : ∃ B, B = (p.getD 1 0).toNat := ⟨_, rfl⟩
  obtain ⟨C, hC⟩ : ∃ C, C = (p.getD 2 0).toNat := ⟨_, rfl⟩
  have hx0 : A < 256 := by rw [hA]; exact (p.getD 0 0).toNat_lt
  have hx1 : B < 256 := by rw [hB]; exact (p.getD 1 0).toNat_lt
  have hx2 : C < 256 := by rw [hC]; exact (p.getD 2 0).toNat_lt
  rw [← hA] at hg1 hg2 hg3
  rw [← hB] at hg2 hg3
  rw [← hC] at hg3
  have HA := Lib.hid hA
  have HB := Lib.hid hB
  have HC2 := Lib.hid hC
  clear hA hB hC
  have HC := Lib.hid hcells
  have HL := Lib.hid hpl
  clear hcells hpl hr
  go_enter Try.func18, Try.ntmps18
  go_wp2_with (first
    | ((with_reducible show wpList _ _ _ (⟨some 2, .alloc _, _, _, _, _⟩ :: _) _ _); refine wl_alloc rfl 51 rfl (bvs [0, 0, 0, 0]) 4 info4 ?_; intro w1 hA1 hb1 hs1))
  generalize hgd : w.heap.size = g at *
  have HG := Lib.hid hgd
  clear hgd
  go_loopw [3, 10] (fun x i wr => ∃ k : Nat, k ≤ n ∧ i = .int .i64 k ∧ x = .int .u32 (grpK p k : Nat) ∧ wr = w1) (fun _ i _ => n - (intOf i).toNat)
  case atStart => exact ⟨0, by omega, rfl, by rw [hg0]; rfl, rfl⟩
  case round =>
    obtain ⟨k, hk, rfl, rfl, rfl⟩ := hrel
    by_cases hlt : k < n
    · have hc : (k : Int) < (n : Int) := by omega
      have ck := (hb1.cell (p := ⟨b, off + k, none⟩) hbb).trans (HC.out k hlt)
      have hk3 : k = 0 ∨ k = 1 ∨ k = 2 := by omega
      rcases hk3 with rfl | rfl | rfl
      · have ck0 : wr.cell? ⟨b, off, none⟩ = some (.int .u8 (A : Int)) := by rw [HA.out]; exact ck
        have hor : bits BinOp.or IntKind.u32 0 ((A : Int) * 65536) = ((A : Int) * 65536) := by
          rw [bits_join .u32 32 (by decide) (fun n h0 h1 => by rw [IntKind.wrap_u32]; omega) 24 _ _ (by omega) (by omega) (by omega) (by omega) (by omega) (by omega)]
          try omega
        have HN : Hid ((grpK p 1 : Int) = ((A : Int) * 65536)) := by show _ = _; rw [hg1]; omega
        rw [show (((grpK p 0 : Nat) : Int)) = 0 from by rw [hg0]; rfl]
        clear ck hg0 hg1 hg2 hg3
        go_wp2_with fail
        go_roundw
        case rel => exact ⟨1, by omega, rfl, by rw [HN.out], trivial⟩
        case measure => simp [intOf]; omega
      · have ck0 : wr.cell? ⟨b, off + 1, none⟩ = some (.int .u8 (B : Int)) := by rw [HB.out]; exact ck
        have hor : bits BinOp.or IntKind.u32 ((A : Int) * 65536) ((B : Int) * 256) = ((A : Int) * 65536 + (B : Int) * 256) := by
          rw [bits_join .u32 32 (by decide) (fun n h0 h1 => by rw [IntKind.wrap_u32]; omega) 16 _ _ (by omega) (by omega) (by omega) (by omega) (by omega) (by omega)]
          try omega
        have HN : Hid ((grpK p 2 : Int) = ((A : Int) * 65536 + (B : Int) * 256)) := by show _ = _; rw [hg2]; omega
        rw [show (((grpK p 1 : Nat) : Int)) = ((A : Int) * 65536) from by rw [hg1]; omega]
        clear ck hg0 hg1 hg2 hg3
        go_wp2_with fail
        go_roundw
        case rel => exact ⟨2, by omega, rfl, by rw [HN.out], trivial⟩
        case measure => simp [intOf]; omega
      · have ck0 : wr.cell? ⟨b, off + 2, none⟩ = some (.int .u8 (C : Int)) := by rw [HC2.out]; exact ck
        have hor : bits BinOp.or IntKind.u32 ((A : Int) * 65536 + (B : Int) * 256) (C : Int) = ((A : Int) * 65536 + (B : Int) * 256 + (C : Int)) := by
          rw [bits_join .u32 32 (by decide) (fun n h0 h1 => by rw [IntKind.wrap_u32]; omega) 8 _ _ (by omega) (by omega) (by omega) (by omega) (by omega) (by omega)]
          try omega
        have HN : Hid ((grpK p 3 : Int) = ((A : Int) * 65536 + (B : Int) * 256 + (C : Int))) := by show _ = _; rw [hg3]; omega
        rw [show (((grpK p 2 : Nat) : Int)) = ((A : Int) * 65536 + (B : Int) * 256) from by rw [hg2]; omega]
        clear ck hg0 hg1 hg2 hg3
        go_wp2_with fail
        go_roundw
        case rel => exact ⟨3, by omega, rfl, by rw [HN.out], trivial⟩
        case measure => simp [intOf]; omega
    · have hc : ¬ (k : Int) < (n : Int) := by omega
      have hkn : k = n := by omega
      have hX : Hid (grpK p n = grp p) := by show _ = _; unfold grpK; rw [List.take_of_length_le (by have := HL.out; omega)]
      rw [hkn, hX.out]
      have hXl := grp_lt p
      have hle : ∀ i, letAt p i = if i ≤ n then ltr (grp p / 2 ^ (6 * (3 - i)) % 64) else 61 := fun i => by unfold letAt; rw [HL.out]
      clear hkn hg0 hg1 hg2 hg3 hk hlt HC hX hc
      have l0 := hle 0
      have l1 := hle 1
      have l2 := hle 2
      have l3 := hle 3
      rw [if_pos (by omega)] at l0 l1
      generalize grp p = X at *
      have HL0 := Lib.hid l0
      have HL1 := Lib.hid l1
      have HL2 := Lib.hid l2
      have HL3 := Lib.hid l3
      clear l0 l1 l2 l3 hle HL
      go_wp2_with (first
        | ((with_reducible show wpList _ _ _ (⟨some 6, .alloc _, _, _, _, _⟩ :: _) _ _); refine wl_alloc rfl 51 rfl (bvs [0, 0, 0, 0]) 4 info4 ?_; intro w2 hA2 hb2 hs2))
      have hR2 := hA1.to hb2 hs1
      have hB2 := hb1.trans (hb2.mono (by omega))
      have hD2 : Arr w2 wr.heap.size 51 (bvs (lay4 p 0)) := hA2
      generalize hg3d : wr.heap.size = g3 at *
      clear hA1 hA2 hb1 hb2 hg3d
      go_loopw [24] (fun i wr => ∃ k : Nat, k ≤ 4 ∧ i = .int .i64 k ∧ Arr wr g 51 (bvs [0, 0, 0, 0]) ∧ Arr wr g3 51 (bvs (lay4 p k)) ∧ Below g w wr) (fun i _ => 4 - (intOf i).toNat)
      case atStart => exact ⟨0, by omega, rfl, hR2, hD2, hB2⟩
      case round =>
        clear hR2 hD2 hB2
        obtain ⟨k, hk, rfl, hR, hD, hB⟩ := hrel
        by_cases hlt : k < 4
        · have hf := hD.frozen k
          have cD := (hD.cell k).trans (bvs_get _ _ (by rw [lay4_len]; exact hlt))
          have hk4 : k = 0 ∨ k = 1 ∨ k = 2 ∨ k = 3 := by omega
          rcases hk4 with rfl | rfl | rfl | rfl
          · have hkn : (0 : Int) ≤ (n : Int) := by omega
            obtain ⟨Z, hZ⟩ : ∃ Z, Z = X / 2 ^ (6 * (3 - 0)) % 64 := ⟨_, rfl⟩
            have hZ64 : Z < 64 := by omega
            have hand : bits BinOp.and IntKind.u32 ((X : Int) / 262144) 63 = (Z : Int) := by
              have h0 : bits BinOp.and IntKind.u32 ((X : Int) / 262144) 63 = ((X : Int) / 262144) % 64 := bits_mask .u32 32 (by decide) (fun n h0 h1 => by rw [IntKind.wrap_u32]; omega) 6 (by omega) _ (by omega) (by omega)
              rw [h0, hZ]
              omega
            have hidx := fun W => alpha_index Z hZ64 W
            have hlet : letAt p 0 = ltr Z := by rw [HL0.out, hZ]
            have hst := (hD.store 0 (.int .u8 ((61 : UInt8).toNat : Int))).store 0 (.int .u8 ((ltr Z).toNat : Int))
            rw [bvs_set, bvs_set] at hst
            have hnx : Hid (((lay4 p 0).set 0 61).set 0 (ltr Z) = lay4 p 1) := by show _ = _; rw [← hlet]; rfl
            rw [hnx.out] at hst
            have HST := Lib.hid hst
            clear hst hlet hZ hnx
            go_wp2_with fail
            go_roundw
            case rel => exact ⟨1, by omega, rfl, (hR.other _ (by simp; omega) _).other _ (by simp; omega) _, HST.out, (hB.setCell (by simp; omega) _).setCell (by simp; omega) _⟩
            case measure => first | (simp [intOf]; done) | (simp [intOf]; omega)
          · have hkn : (1 : Int) ≤ (n : Int) := by omega
            obtain ⟨Z, hZ⟩ : ∃ Z, Z = X / 2 ^ (6 * (3 - 1)) % 64 := ⟨_, rfl⟩
            have hZ64 : Z < 64 := by omega
            have hand : bits BinOp.and IntKind.u32 ((X : Int) / 4096) 63 = (Z : Int) := by
              have h0 : bits BinOp.and IntKind.u32 ((X : Int) / 4096) 63 = ((X : Int) / 4096) % 64 := bits_mask .u32 32 (by decide) (fun n h0 h1 => by rw [IntKind.wrap_u32]; omega) 6 (by omega) _ (by omega) (by omega)
              rw [h0, hZ]
              omega
            have hidx := fun W => alpha_index Z hZ64 W
            have hlet : letAt p 1 = ltr Z := by rw [HL1.out, hZ]
            have hst := (hD.store 1 (.int .u8 ((61 : UInt8).toNat : Int))).store 1 (.int .u8 ((ltr Z).toNat : Int))
            rw [bvs_set, bvs_set] at hst
            have hnx : Hid (((lay4 p 1).set 1 61).set 1 (ltr Z) = lay4 p 2) := by show _ = _; rw [← hlet]; rfl
            rw [hnx.out] at hst
            have HST := Lib.hid hst
            clear hst hlet hZ hnx
            go_wp2_with fail
            go_roundw
            case rel => exact ⟨2, by omega, rfl, (hR.other _ (by simp; omega) _).other _ (by simp; omega) _, HST.out, (hB.setCell (by simp; omega) _).setCell (by simp; omega) _⟩
            case measure => first | (simp [intOf]; done) | (simp [intOf]; omega)
          · by_cases hkn : 2 ≤ n
            · have hki : (2 : Int) ≤ (n : Int) := by omega
              obtain ⟨Z, hZ⟩ : ∃ Z, Z = X / 2 ^ (6 * (3 - 2)) % 64 := ⟨_, rfl⟩
              have hZ64 : Z < 64 := by omega
              have hand : bits BinOp.and IntKind.u32 ((X : Int) / 64) 63 = (Z : Int) := by
                have h0 : bits BinOp.and IntKind.u32 ((X : Int) / 64) 63 = ((X : Int) / 64) % 64 := bits_mask .u32 32 (by decide) (fun n h0 h1 => by rw [IntKind.wrap_u32]; omega) 6 (by omega) _ (by omega) (by omega)
                rw [h0, hZ]
                omega
              have hidx := fun W => alpha_index Z hZ64 W
              have hlet : letAt p 2 = ltr Z := by rw [HL2.out, if_pos (by omega), hZ]
              have hst := (hD.store 2 (.int .u8 ((61 : UInt8).toNat : Int))).store 2 (.int .u8 ((ltr Z).toNat : Int))
              rw [bvs_set, bvs_set] at hst
              have hnx : Hid (((lay4 p 2).set 2 61).set 2 (ltr Z) = lay4 p 3) := by show _ = _; rw [← hlet]; rfl
              rw [hnx.out] at hst
              have HST := Lib.hid hst
              clear hst hlet hZ hnx
              go_wp2_with fail
              go_roundw
              case rel => exact ⟨3, by omega, rfl, (hR.other _ (by simp; omega) _).other _ (by simp; omega) _, HST.out, (hB.setCell (by simp; omega) _).setCell (by simp; omega) _⟩
              case measure => first | (simp [intOf]; done) | (simp [intOf]; omega)
            · have hki : ¬ (2 : Int) ≤ (n : Int) := by omega
              have hlet : letAt p 2 = 61 := by rw [HL2.out, if_neg (by omega)]
              have hst := hD.store 2 (.int .u8 ((61 : UInt8).toNat : Int))
              rw [bvs_set] at hst
              have hnx : Hid ((lay4 p 2).set 2 61 = lay4 p 3) := by show _ = _; rw [← hlet]; rfl
              rw [hnx.out] at hst
              have HST := Lib.hid hst
              clear hst hlet hnx
              go_wp2_with fail
              go_roundw
              case rel => exact ⟨3, by omega, rfl, hR.other _ (by simp; omega) _, HST.out, hB.setCell (by simp; omega) _⟩
              case measure => first | (simp [intOf]; done) | (simp [intOf]; omega)
          · by_cases hkn : 3 ≤ n
            · have hki : (3 : Int) ≤ (n : Int) := by omega
              obtain ⟨Z, hZ⟩ : ∃ Z, Z = X / 2 ^ (6 * (3 - 3)) % 64 := ⟨_, rfl⟩
              have hZ64 : Z < 64 := by omega
              have hand : bits BinOp.and IntKind.u32 (X : Int) 63 = (Z : Int) := by
                have h0 : bits BinOp.and IntKind.u32 (X : Int) 63 = (X : Int) % 64 := bits_mask .u32 32 (by decide) (fun n h0 h1 => by rw [IntKind.wrap_u32]; omega) 6 (by omega) _ (by omega) (by omega)
                rw [h0, hZ]
                omega
              have hidx := fun W => alpha_index Z hZ64 W
              have hlet : letAt p 3 = ltr Z := by rw [HL3.out, if_pos (by omega), hZ]
              have hst := (hD.store 3 (.int .u8 ((61 : UInt8).toNat : Int))).store 3 (.int .u8 ((ltr Z).toNat : Int))
              rw [bvs_set, bvs_set] at hst
              have hnx : Hid (((lay4 p 3).set 3 61).set 3 (ltr Z) = lay4 p 4) := by show _ = _; rw [← hlet]; rfl
              rw [hnx.out] at hst
              have HST := Lib.hid hst
              clear hst hlet hZ hnx
              go_wp2_with fail
              go_roundw
              case rel => exact ⟨4, by omega, rfl, (hR.other _ (by simp; omega) _).other _ (by simp; omega) _, HST.out, (hB.setCell (by simp; omega) _).setCell (by simp; omega) _⟩
              case measure => first | (simp [intOf]; done) | (simp [intOf]; omega)
            · have hki : ¬ (3 : Int) ≤ (n : Int) := by omega
              have hlet : letAt p 3 = 61 := by rw [HL3.out, if_neg (by omega)]
              have hst := hD.store 3 (.int .u8 ((61 : UInt8).toNat : Int))
              rw [bvs_set] at hst
              have hnx : Hid ((lay4 p 3).set 3 61 = lay4 p 4) := by show _ = _; rw [← hlet]; rfl
              rw [hnx.out] at hst
              have HST := Lib.hid hst
              clear hst hlet hnx
              go_wp2_with fail
              go_roundw
              case rel => exact ⟨4, by omega, rfl, hR.other _ (by simp; omega) _, HST.out, hB.setCell (by simp; omega) _⟩
              case measure => first | (simp [intOf]; done) | (simp [intOf]; omega)
        · have hk4 : k = 4 := by omega
          rw [hk4] at hD ⊢
          have h1 := bvs_one (lay4 p 4)
          clear hk4
          go_wp2_with (first
            | ((with_reducible show wpList _ _ _ (⟨some 44, .load _ _, _, _, _, _⟩ :: _) _ _); refine wl_load rfl 51 _ rfl g3 0 rfl 51 (bvs (lay4 p 4)) (bvs (lay4 p 4)) hD (fun j v h => by rw [Nat.zero_add]; exact h) (.array 4 5) Try.underlying51 rfl hl4.out ?_)
            | ((with_reducible show wpList _ _ _ (⟨none, .store _ _ _, _, _, _, _⟩ :: _) _ _); refine wl_store rfl 51 _ _ rfl g 0 rfl (bvs (lay4 p 4)) rfl 51 _ hR hl4.out (by rw [hnl.out]; exact (by decide : 0 + 4 ≤ (bvs [0, 0, 0, 0]).length)) h1 ?_; intro w5 hA5 hg5 hs5))
          rw [whole_store _ _ (by rw [hnl.out]; rfl)] at hA5
          exact end_cell rfl g 51 (bvs (lay4 p 4)) (.array 4 5) rfl hA5 Try.underlying51 rfl hl4.out rfl ⟨rfl, HG.out ▸ hB.grown hg5 (Nat.le_of_lt hR.lt) (by intro k e; cases e; omega)⟩
end Go.Proofs.Ytpfhbkjjijmpaaa
