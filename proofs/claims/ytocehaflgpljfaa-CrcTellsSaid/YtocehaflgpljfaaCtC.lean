/-
  CrcTells, as a call. Conditions: those in each statement.
-/
import Derived.Test.YtocehaflgpljfaaCtB
import Derived.Test.YtocehaflgpljfaaCrI
namespace Go.Proofs.Ytocehaflgpljfaa
open Go.RowKit

section
variable {P : Program} {ops : Array Oper} {rest : List Oper} {o : Oper} {a : Act} {K : Act → World → Prop} {Q : Exit → Act → World → Prop} {w : World}
theorem wl_box1 (hg : o.guard = none) (t : TypeId) (x : Operand) (ho : o.op = .box t x) (v : Value) (hx : a.eval x = v) (hv : v.cells = #[v])
    (hK : ∀ w', Arr w' w.heap.size t [v] → Below w.heap.size w w' → w'.heap.size = w.heap.size + 1 → wpList P ops Q rest (a.put o.dst (.pointer (some ⟨w.heap.size, 0, none⟩))) w') :
    wpList P ops Q (o :: rest) a w := by
  refine wpList_plain hg fun K hK' => ?_
  unfold Oper.wp execOp
  simp only [ho, hx, Sem.run_bind, Instr.box, newVar, newRow, run_newObj_alloc, Sem.run_pure, Result.andThen_ok, hv]
  exact hK' _ _ (hK _ (Arr.new w t [v]) ((Below.refl _ _).alloc (Nat.le_refl _) _) (by simp))
end
theorem first_of (x : Int) (N : Nat) (hN : 0 < N) : ∃ first : Nat, (IntKind.u64.wrap x).tmod (N : Int) = (first : Int) ∧ first < N := by
  have h : 0 ≤ IntKind.u64.wrap x := by rw [IntKind.wrap_u64]; omega
  obtain ⟨u, hu⟩ := Int.eq_ofNat_of_zero_le h
  refine ⟨u % N, ?_, Nat.mod_lt _ hN⟩
  rw [hu]
  exact (Int.ofNat_tmod u N).symm
set_option maxHeartbeats 3200000 in
set_option maxRecDepth 100000 in
theorem Tells_any (p : Option Addr) (n cap : Nat) (xs : List UInt8) (at_ : Int) (B0 : Nat) (w : World) (hn : n ≤ 140737488351232) (hB0 : B0 < 4294967296) (hr : Rd w p n cap xs) :
    Calls Try.prog 5 #[.slice p n cap, .int .i64 at_, .int .u32 (B0 : Int)] w fun e w' => e = .returned (.bool true) ∧ Below w.heap.size w w' := by
  have hl := hr.len
  subst hl
  have HR := Lib.hid hr
  clear hr
  go_enter Try.func5, Try.ntmps5
  go_upto_region 1 with (first
    | ((with_reducible show wpList _ _ _ (⟨some 4, .box _ _, _, _, _, _⟩ :: _) _ _); go_loud (refine wl_box1 rfl 3 _ rfl (.int .i64 at_) rfl rfl ?_); intro w1 hA1 hb1 hs1)
    | ((with_reducible show wpList _ _ _ (⟨some 5, .box _ _, _, _, _, _⟩ :: _) _ _); go_loud (refine wl_box1 rfl 23 _ rfl (.int .u32 (B0 : Int)) rfl rfl ?_); intro w2 hA2 hb2 hs2))
  have ca := (hA1.kept hb2).cell 0
  have cb := hA2.cell 0
  have fb := hA2.frozen 0
  simp only [List.getElem?_cons_zero] at ca cb
  have b02 : Below w.heap.size w w2 := hb1.trans (hb2.mono hb1.size)
  rw [hs1] at cb fb
  obtain ⟨ga, hga⟩ : ∃ ga, ga = w.heap.size := ⟨_, rfl⟩
  obtain ⟨gb, hgb⟩ : ∃ gb, gb = ga + 1 := ⟨_, rfl⟩
  rw [← hga] at ca cb fb
  rw [← hgb] at cb fb
  have hgbw : w.heap.size ≤ gb := by omega
  have hab : gb ≠ ga := by omega
  rw [← hga, ← hgb]
  have B02 := Lib.hid b02
  have HGA := Lib.hid hga
  clear hA1 hA2 hb1 hb2 hs1 hs2 b02 hga hgb
  by_cases hz : B0 = 0
  · subst hz
    have ca3 : (w2.setCell ⟨gb, 0, none⟩ (.int .u32 1)).cell? ⟨ga, 0, none⟩ = some (.int .i64 at_) := by
      rw [World.cell?_setCell_far _ _ _ _ hab]
      exact ca
    have cb3 : (w2.setCell ⟨gb, 0, none⟩ (.int .u32 1)).cell? ⟨gb, 0, none⟩ = some (.int .u32 ((1 : Nat) : Int)) := World.cell?_setCell_same (h := cb) ..
    have b03 : Below w.heap.size w (w2.setCell ⟨gb, 0, none⟩ (.int .u32 1)) := B02.out.setCell (p := ⟨gb, 0, none⟩) hgbw _
    have CA := Lib.hid ca3
    have CB := Lib.hid cb3
    have BB := Lib.hid b03
    clear ca3 cb3 b03 ca
    go_upto_region 3 with fail
    obtain ⟨w3, hw3⟩ : ∃ w3, w3 = w2.setCell ⟨gb, 0, none⟩ (.int .u32 1) := ⟨_, rfl⟩
    rw [← hw3] at CA CB BB
    obtain ⟨B, hB⟩ : ∃ B, B = 1 := ⟨_, rfl⟩
    have hBp : 0 < B := by omega
    have hBl : B < 4294967296 := by omega
    rw [← hB] at CB
    clear hB
    rw [← hw3]
    clear hw3
    obtain ⟨L, hL, hLB, hLn⟩ := lowB_ex B hBp (by simpa using hBl)
    by_cases hn0 : xs.length = 0
    · obtain rfl : xs = [] := List.eq_nil_of_length_eq_zero hn0
      have HS := HR.out
      have HP : Calls Try.prog 13 #[.slice p 0 cap] w3 fun e w' => ∃ ao c, e = .returned (.slice ao 4 c) ∧ Rd w' ao 4 c (putF []) ∧ Below w3.heap.size w3 w' := Put_any p 0 cap [] w3 (by omega) (HR.out.to BB.out)
      go_wp2_with fail
      refine HP.mono ?_
      clear HP
      rintro e w6 ⟨a6, c6, rfl, hr6, hb6⟩
      have BB6 := Lib.hid (BB.out.trans (hb6.mono BB.out.size))
      have CA6 : Hid (w6.cell? ⟨ga, 0, none⟩ = some (.int .i64 at_)) := (hb6.cell (p := ⟨ga, 0, none⟩) (World.block_lt_of_cell? _ _ CA.out)).trans CA.out
      obtain ⟨b6, o6, rfl, -, -⟩ := hr6.mem (by have := hr6.le; omega)
      clear hb6 CA BB
      have hpl := putF_len []
      obtain ⟨PX, hPX⟩ : ∃ PX, PX = putF [] := ⟨_, rfl⟩
      have TF : Hid (∀ k, k < 32 → takeF (flipN PX k) = none) := fun k hk => by rw [hPX]; exact take_flip [] k hk
      rw [← hPX] at hr6 hpl
      have HPL : Hid (PX.length = 4) := hpl
      clear hPX hpl
      go_upto_region 10 with ((with_reducible show wpList _ _ _ (⟨some 37, _, _, _, _, _⟩ :: _) _ _); go_loud (refine wl_append bt rfl _ _ rfl w6.heap.size _ [] (Own.nil _ _ _) rfl _ _ _ PX rfl hr6 (by first | (simp; done) | (simp; omega)) (Nat.le_refl _) ?_); intro v7 w7 ho7 hb7; rw [List.nil_append] at ho7)
      obtain ⟨g7, c7, rfl, hg7, hg7', hc7⟩ := ho7.solid (by rw [HPL.out]; omega)
      rw [HPL.out] at ho7 hc7 ⊢
      have BB7 := Lib.hid (BB6.out.trans (hb7.mono BB6.out.size))
      have ca7 := (hb7.cell (p := ⟨ga, 0, none⟩) (World.block_lt_of_cell? _ _ CA6.out)).trans CA6.out
      obtain ⟨k, hk1, hk2⟩ := first_of at_ 32 (by omega)
      have hk3 : (IntKind.u64.wrap at_).tmod 32 = (k : Int) := by rw [← hk1]; push_cast; rfl
      have HK := Lib.hid hk3
      have hg7w : w.heap.size ≤ g7 := Nat.le_trans BB6.out.size hg7
      have HO7 := Lib.hid ho7
      clear hk1 hk3 ho7 hb7 hr6 CA6 BB6
      go_upto_region 11 with fail
      rw [HK.out, show wrap64 (k : Int) = (k : Int) from w64_in _ (by omega) (by omega)]
      have cy := HO7.out.cellAt (k / 8) (by omega)
      have fy := HO7.out.frozenAt (k / 8)
      obtain ⟨cv, hcv⟩ : ∃ cv, cv = PX.getD (k / 8) 0 := ⟨_, rfl⟩
      rw [← hcv] at cy
      have hcl := cv.toNat_lt
      obtain ⟨z, hz⟩ : ∃ z, z = cv ^^^ UInt8.ofNat (2 ^ (k % 8)) := ⟨_, rfl⟩
      have XV : bits .xor .u8 (cv.toNat : Int) (2 ^ (k % 8) % 256) = (z.toNat : Int) := by rw [hz]; exact xor_pow cv (k % 8)
      have HZ : Hid (PX.set (k / 8) z = flipN PX k) := by
        show _ = flipN PX k
        rw [flipN, ← hcv, hz]
      have ho8 := HO7.out.stored (k / 8) z
      rw [HZ.out] at ho8
      have HO8 := Lib.hid ho8
      have BB8 := Lib.hid (BB7.out.setCell (p := ⟨g7, k / 8, none⟩) hg7w (.int .u8 (z.toNat : Int)))
      have HTk := Take_any _ _ _ _ _ (by omega) HO8.out.rd.toRd
      rw [TF.out k hk2] at HTk
      clear hcv hz ho8 HK HO7 BB7 TF
      go_wp2_with fail
      refine HTk.mono ?_
      clear HTk
      rintro e w9 ⟨a9, n9, c9, rfl, -, hb9⟩
      have BB9 := Lib.hid (BB8.out.trans (hb9.mono BB8.out.size))
      clear hb9 BB8 HO8
      go_wp2_with fail
      refine (wakes_any _).mono ?_
      rintro e w10 ⟨rfl, hb10⟩
      go_wp2_with fail
      go_ret
      exact ⟨rfl, BB9.out.trans (hb10.mono BB9.out.size)⟩
    · obtain ⟨first, hf1, hf2⟩ := first_of at_ (8 * xs.length) (by omega)
      have HT := turned_any p xs.length cap xs ga gb B L at_ first w3 (by omega) hn (HR.out.to BB.out) hBl CA.out CB.out hL hLB hLn (by rw [← hf1]; push_cast; rfl) hf2
      have HNE := flips_sum xs first L B (32 - L) hf2 (by omega) (by omega) hLB
      obtain ⟨Y, hY⟩ : ∃ Y, Y = flips xs first L B (32 - L) := ⟨_, rfl⟩
      have hYl : Y.length = xs.length := by rw [hY, flips_len]
      rw [← hY] at HT HNE
      have HYL := Lib.hid hYl
      clear hf1 hf2 hLB hLn hY hYl
      have hmf : ∀ (fn : Fn) (first cap : Array Value) (w : World), (Instr.makeFunc fn first cap).run Try.prog w = .ok (.func fn first cap) w := fun _ _ _ _ => rfl
      have S1 : Hid (∀ a c (w : World), Rd w a xs.length c Y → Calls Try.prog 9 #[.slice a xs.length c] w fun e w' => e = .returned (.int .u32 ((sumF Y).toNat : Int)) ∧ w = w') := fun a c w h => Sum_any a _ c Y w (by omega) h
      have S2 : Hid (∀ (w : World), Rd w p xs.length cap xs → Calls Try.prog 9 #[.slice p xs.length cap] w fun e w' => e = .returned (.int .u32 ((sumF xs).toNat : Int)) ∧ w = w') := fun w h => Sum_any p _ cap xs w (by omega) h
      have hne : (((sumF Y).toNat : Int) == ((sumF xs).toNat : Int)) = false := by
        have : (sumF Y).toNat ≠ (sumF xs).toNat := fun e => HNE (BitVec.eq_of_toNat_eq e)
        simp
        omega
      generalize sumF Y = XY at *
      obtain ⟨XX, hXX⟩ : ∃ XX, XX = sumF xs := ⟨_, rfl⟩
      rw [← hXX] at S2 hne HNE
      clear hXX HNE
      have h0 : (0 : Int) < (xs.length : Int) := by omega
      go_wp2_with fail
      refine HT.mono ?_
      rintro e w4 ⟨v4, rfl, ho4, hb4⟩
      clear HT
      obtain ⟨a4, c4, rfl, -⟩ := ho4.shape
      rw [HYL.out] at ho4 ⊢
      have R4 := Lib.hid ho4.rd.toRd
      have CA4 : Hid (w4.cell? ⟨ga, 0, none⟩ = some (.int .i64 at_)) := (hb4.cell (p := ⟨ga, 0, none⟩) (World.block_lt_of_cell? _ _ CA.out)).trans CA.out
      have BB4 := Lib.hid (BB.out.trans (hb4.mono BB.out.size))
      clear ho4 hb4 CA CB BB
      go_wp2_with fail
      refine (S1.out _ _ _ R4.out).mono ?_
      rintro e w5 ⟨rfl, rfl⟩
      go_wp2_with fail
      refine (S2.out _ (HR.out.to BB4.out)).mono ?_
      rintro e w5 ⟨rfl, rfl⟩
      clear S1 S2 R4 HYL h0
      have HP : Calls Try.prog 13 #[.slice p xs.length cap] w4 fun e w' => ∃ ao c, e = .returned (.slice ao (xs.length + 4) c) ∧ Rd w' ao (xs.length + 4) c (putF xs) ∧ Below w4.heap.size w4 w' := Put_any p xs.length cap xs w4 (by omega) (HR.out.to BB4.out)
      go_wp2_with fail
      refine HP.mono ?_
      clear HP
      rintro e w6 ⟨a6, c6, rfl, hr6, hb6⟩
      have BB6 := Lib.hid (BB4.out.trans (hb6.mono BB4.out.size))
      have CA6 : Hid (w6.cell? ⟨ga, 0, none⟩ = some (.int .i64 at_)) := (hb6.cell (p := ⟨ga, 0, none⟩) (World.block_lt_of_cell? _ _ CA4.out)).trans CA4.out
      obtain ⟨b6, o6, rfl, -, -⟩ := hr6.mem (by have := hr6.le; omega)
      clear hb6 CA4 BB4
      have hpl := putF_len xs
      obtain ⟨PX, hPX⟩ : ∃ PX, PX = putF xs := ⟨_, rfl⟩
      have TF : Hid (∀ k, k < (8 * (xs.length + 4)) → takeF (flipN PX k) = none) := fun k hk => by rw [hPX]; exact take_flip xs k hk
      rw [← hPX] at hr6 hpl
      have HPL : Hid (PX.length = (xs.length + 4)) := hpl
      clear hPX hpl
      go_upto_region 10 with ((with_reducible show wpList _ _ _ (⟨some 37, _, _, _, _, _⟩ :: _) _ _); go_loud (refine wl_append bt rfl _ _ rfl w6.heap.size _ [] (Own.nil _ _ _) rfl _ _ _ PX rfl hr6 (by first | (simp; done) | (simp; omega)) (Nat.le_refl _) ?_); intro v7 w7 ho7 hb7; rw [List.nil_append] at ho7)
      obtain ⟨g7, c7, rfl, hg7, hg7', hc7⟩ := ho7.solid (by rw [HPL.out]; omega)
      rw [HPL.out] at ho7 hc7 ⊢
      have BB7 := Lib.hid (BB6.out.trans (hb7.mono BB6.out.size))
      have ca7 := (hb7.cell (p := ⟨ga, 0, none⟩) (World.block_lt_of_cell? _ _ CA6.out)).trans CA6.out
      obtain ⟨k, hk1, hk2⟩ := first_of at_ (8 * (xs.length + 4)) (by omega)
      have hk3 : (IntKind.u64.wrap at_).tmod (8 * ((xs.length : Int) + 4)) = (k : Int) := by rw [← hk1]; push_cast; rfl
      have HK := Lib.hid hk3
      have hg7w : w.heap.size ≤ g7 := Nat.le_trans BB6.out.size hg7
      have HO7 := Lib.hid ho7
      clear hk1 hk3 ho7 hb7 hr6 CA6 BB6
      go_upto_region 11 with fail
      rw [HK.out, show wrap64 (k : Int) = (k : Int) from w64_in _ (by omega) (by omega)]
      have cy := HO7.out.cellAt (k / 8) (by omega)
      have fy := HO7.out.frozenAt (k / 8)
      obtain ⟨cv, hcv⟩ : ∃ cv, cv = PX.getD (k / 8) 0 := ⟨_, rfl⟩
      rw [← hcv] at cy
      have hcl := cv.toNat_lt
      obtain ⟨z, hz⟩ : ∃ z, z = cv ^^^ UInt8.ofNat (2 ^ (k % 8)) := ⟨_, rfl⟩
      have XV : bits .xor .u8 (cv.toNat : Int) (2 ^ (k % 8) % 256) = (z.toNat : Int) := by rw [hz]; exact xor_pow cv (k % 8)
      have HZ : Hid (PX.set (k / 8) z = flipN PX k) := by
        show _ = flipN PX k
        rw [flipN, ← hcv, hz]
      have ho8 := HO7.out.stored (k / 8) z
      rw [HZ.out] at ho8
      have HO8 := Lib.hid ho8
      have BB8 := Lib.hid (BB7.out.setCell (p := ⟨g7, k / 8, none⟩) hg7w (.int .u8 (z.toNat : Int)))
      have HTk := Take_any _ _ _ _ _ (by omega) HO8.out.rd.toRd
      rw [TF.out k hk2] at HTk
      clear hcv hz ho8 HK HO7 BB7 TF
      go_wp2_with fail
      refine HTk.mono ?_
      clear HTk
      rintro e w9 ⟨a9, n9, c9, rfl, -, hb9⟩
      have BB9 := Lib.hid (BB8.out.trans (hb9.mono BB8.out.size))
      clear hb9 BB8 HO8
      go_wp2_with fail
      refine (wakes_any _).mono ?_
      rintro e w10 ⟨rfl, hb10⟩
      go_wp2_with fail
      go_ret
      exact ⟨rfl, BB9.out.trans (hb10.mono BB9.out.size)⟩
  · have CA := Lib.hid ca
    have CB := Lib.hid cb
    have hBp : 0 < B0 := by omega
    have BB := B02
    have hbn : ((B0 : Int) == 0) = false := by simp; omega
    clear ca
    go_upto_region 3 with fail
    clear cb fb hbn
    obtain ⟨w3, hw3⟩ : ∃ w3, w3 = w2 := ⟨_, rfl⟩
    rw [← hw3] at CA CB BB
    obtain ⟨B, hB⟩ : ∃ B, B = B0 := ⟨_, rfl⟩
    rw [← hB] at CB hBp
    have hBl : B < 4294967296 := by omega
    clear hB
    rw [← hw3]
    clear hw3
    obtain ⟨L, hL, hLB, hLn⟩ := lowB_ex B hBp (by simpa using hBl)
    by_cases hn0 : xs.length = 0
    · obtain rfl : xs = [] := List.eq_nil_of_length_eq_zero hn0
      have HS := HR.out
      have HP : Calls Try.prog 13 #[.slice p 0 cap] w3 fun e w' => ∃ ao c, e = .returned (.slice ao 4 c) ∧ Rd w' ao 4 c (putF []) ∧ Below w3.heap.size w3 w' := Put_any p 0 cap [] w3 (by omega) (HR.out.to BB.out)
      go_wp2_with fail
      refine HP.mono ?_
      clear HP
      rintro e w6 ⟨a6, c6, rfl, hr6, hb6⟩
      have BB6 := Lib.hid (BB.out.trans (hb6.mono BB.out.size))
      have CA6 : Hid (w6.cell? ⟨ga, 0, none⟩ = some (.int .i64 at_)) := (hb6.cell (p := ⟨ga, 0, none⟩) (World.block_lt_of_cell? _ _ CA.out)).trans CA.out
      obtain ⟨b6, o6, rfl, -, -⟩ := hr6.mem (by have := hr6.le; omega)
      clear hb6 CA BB
      have hpl := putF_len []
      obtain ⟨PX, hPX⟩ : ∃ PX, PX = putF [] := ⟨_, rfl⟩
      have TF : Hid (∀ k, k < 32 → takeF (flipN PX k) = none) := fun k hk => by rw [hPX]; exact take_flip [] k hk
      rw [← hPX] at hr6 hpl
      have HPL : Hid (PX.length = 4) := hpl
      clear hPX hpl
      go_upto_region 10 with ((with_reducible show wpList _ _ _ (⟨some 37, _, _, _, _, _⟩ :: _) _ _); go_loud (refine wl_append bt rfl _ _ rfl w6.heap.size _ [] (Own.nil _ _ _) rfl _ _ _ PX rfl hr6 (by first | (simp; done) | (simp; omega)) (Nat.le_refl _) ?_); intro v7 w7 ho7 hb7; rw [List.nil_append] at ho7)
      obtain ⟨g7, c7, rfl, hg7, hg7', hc7⟩ := ho7.solid (by rw [HPL.out]; omega)
      rw [HPL.out] at ho7 hc7 ⊢
      have BB7 := Lib.hid (BB6.out.trans (hb7.mono BB6.out.size))
      have ca7 := (hb7.cell (p := ⟨ga, 0, none⟩) (World.block_lt_of_cell? _ _ CA6.out)).trans CA6.out
      obtain ⟨k, hk1, hk2⟩ := first_of at_ 32 (by omega)
      have hk3 : (IntKind.u64.wrap at_).tmod 32 = (k : Int) := by rw [← hk1]; push_cast; rfl
      have HK := Lib.hid hk3
      have hg7w : w.heap.size ≤ g7 := Nat.le_trans BB6.out.size hg7
      have HO7 := Lib.hid ho7
      clear hk1 hk3 ho7 hb7 hr6 CA6 BB6
      go_upto_region 11 with fail
      rw [HK.out, show wrap64 (k : Int) = (k : Int) from w64_in _ (by omega) (by omega)]
      have cy := HO7.out.cellAt (k / 8) (by omega)
      have fy := HO7.out.frozenAt (k / 8)
      obtain ⟨cv, hcv⟩ : ∃ cv, cv = PX.getD (k / 8) 0 := ⟨_, rfl⟩
      rw [← hcv] at cy
      have hcl := cv.toNat_lt
      obtain ⟨z, hz⟩ : ∃ z, z = cv ^^^ UInt8.ofNat (2 ^ (k % 8)) := ⟨_, rfl⟩
      have XV : bits .xor .u8 (cv.toNat : Int) (2 ^ (k % 8) % 256) = (z.toNat : Int) := by rw [hz]; exact xor_pow cv (k % 8)
      have HZ : Hid (PX.set (k / 8) z = flipN PX k) := by
        show _ = flipN PX k
        rw [flipN, ← hcv, hz]
      have ho8 := HO7.out.stored (k / 8) z
      rw [HZ.out] at ho8
      have HO8 := Lib.hid ho8
      have BB8 := Lib.hid (BB7.out.setCell (p := ⟨g7, k / 8, none⟩) hg7w (.int .u8 (z.toNat : Int)))
      have HTk := Take_any _ _ _ _ _ (by omega) HO8.out.rd.toRd
      rw [TF.out k hk2] at HTk
      clear hcv hz ho8 HK HO7 BB7 TF
      go_wp2_with fail
      refine HTk.mono ?_
      clear HTk
      rintro e w9 ⟨a9, n9, c9, rfl, -, hb9⟩
      have BB9 := Lib.hid (BB8.out.trans (hb9.mono BB8.out.size))
      clear hb9 BB8 HO8
      go_wp2_with fail
      refine (wakes_any _).mono ?_
      rintro e w10 ⟨rfl, hb10⟩
      go_wp2_with fail
      go_ret
      exact ⟨rfl, BB9.out.trans (hb10.mono BB9.out.size)⟩
    · obtain ⟨first, hf1, hf2⟩ := first_of at_ (8 * xs.length) (by omega)
      have HT := turned_any p xs.length cap xs ga gb B L at_ first w3 (by omega) hn (HR.out.to BB.out) hBl CA.out CB.out hL hLB hLn (by rw [← hf1]; push_cast; rfl) hf2
      have HNE := flips_sum xs first L B (32 - L) hf2 (by omega) (by omega) hLB
      obtain ⟨Y, hY⟩ : ∃ Y, Y = flips xs first L B (32 - L) := ⟨_, rfl⟩
      have hYl : Y.length = xs.length := by rw [hY, flips_len]
      rw [← hY] at HT HNE
      have HYL := Lib.hid hYl
      clear hf1 hf2 hLB hLn hY hYl
      have hmf : ∀ (fn : Fn) (first cap : Array Value) (w : World), (Instr.makeFunc fn first cap).run Try.prog w = .ok (.func fn first cap) w := fun _ _ _ _ => rfl
      have S1 : Hid (∀ a c (w : World), Rd w a xs.length c Y → Calls Try.prog 9 #[.slice a xs.length c] w fun e w' => e = .returned (.int .u32 ((sumF Y).toNat : Int)) ∧ w = w') := fun a c w h => Sum_any a _ c Y w (by omega) h
      have S2 : Hid (∀ (w : World), Rd w p xs.length cap xs → Calls Try.prog 9 #[.slice p xs.length cap] w fun e w' => e = .returned (.int .u32 ((sumF xs).toNat : Int)) ∧ w = w') := fun w h => Sum_any p _ cap xs w (by omega) h
      have hne : (((sumF Y).toNat : Int) == ((sumF xs).toNat : Int)) = false := by
        have : (sumF Y).toNat ≠ (sumF xs).toNat := fun e => HNE (BitVec.eq_of_toNat_eq e)
        simp
        omega
      generalize sumF Y = XY at *
      obtain ⟨XX, hXX⟩ : ∃ XX, XX = sumF xs := ⟨_, rfl⟩
      rw [← hXX] at S2 hne HNE
      clear hXX HNE
      have h0 : (0 : Int) < (xs.length : Int) := by omega
      go_wp2_with fail
      refine HT.mono ?_
      rintro e w4 ⟨v4, rfl, ho4, hb4⟩
      clear HT
      obtain ⟨a4, c4, rfl, -⟩ := ho4.shape
      rw [HYL.out] at ho4 ⊢
      have R4 := Lib.hid ho4.rd.toRd
      have CA4 : Hid (w4.cell? ⟨ga, 0, none⟩ = some (.int .i64 at_)) := (hb4.cell (p := ⟨ga, 0, none⟩) (World.block_lt_of_cell? _ _ CA.out)).trans CA.out
      have BB4 := Lib.hid (BB.out.trans (hb4.mono BB.out.size))
      clear ho4 hb4 CA CB BB
      go_wp2_with fail
      refine (S1.out _ _ _ R4.out).mono ?_
      rintro e w5 ⟨rfl, rfl⟩
      go_wp2_with fail
      refine (S2.out _ (HR.out.to BB4.out)).mono ?_
      rintro e w5 ⟨rfl, rfl⟩
      clear S1 S2 R4 HYL h0
      have HP : Calls Try.prog 13 #[.slice p xs.length cap] w4 fun e w' => ∃ ao c, e = .returned (.slice ao (xs.length + 4) c) ∧ Rd w' ao (xs.length + 4) c (putF xs) ∧ Below w4.heap.size w4 w' := Put_any p xs.length cap xs w4 (by omega) (HR.out.to BB4.out)
      go_wp2_with fail
      refine HP.mono ?_
      clear HP
      rintro e w6 ⟨a6, c6, rfl, hr6, hb6⟩
      have BB6 := Lib.hid (BB4.out.trans (hb6.mono BB4.out.size))
      have CA6 : Hid (w6.cell? ⟨ga, 0, none⟩ = some (.int .i64 at_)) := (hb6.cell (p := ⟨ga, 0, none⟩) (World.block_lt_of_cell? _ _ CA4.out)).trans CA4.out
      obtain ⟨b6, o6, rfl, -, -⟩ := hr6.mem (by have := hr6.le; omega)
      clear hb6 CA4 BB4
      have hpl := putF_len xs
      obtain ⟨PX, hPX⟩ : ∃ PX, PX = putF xs := ⟨_, rfl⟩
      have TF : Hid (∀ k, k < (8 * (xs.length + 4)) → takeF (flipN PX k) = none) := fun k hk => by rw [hPX]; exact take_flip xs k hk
      rw [← hPX] at hr6 hpl
      have HPL : Hid (PX.length = (xs.length + 4)) := hpl
      clear hPX hpl
      go_upto_region 10 with ((with_reducible show wpList _ _ _ (⟨some 37, _, _, _, _, _⟩ :: _) _ _); go_loud (refine wl_append bt rfl _ _ rfl w6.heap.size _ [] (Own.nil _ _ _) rfl _ _ _ PX rfl hr6 (by first | (simp; done) | (simp; omega)) (Nat.le_refl _) ?_); intro v7 w7 ho7 hb7; rw [List.nil_append] at ho7)
      obtain ⟨g7, c7, rfl, hg7, hg7', hc7⟩ := ho7.solid (by rw [HPL.out]; omega)
      rw [HPL.out] at ho7 hc7 ⊢
      have BB7 := Lib.hid (BB6.out.trans (hb7.mono BB6.out.size))
      have ca7 := (hb7.cell (p := ⟨ga, 0, none⟩) (World.block_lt_of_cell? _ _ CA6.out)).trans CA6.out
      obtain ⟨k, hk1, hk2⟩ := first_of at_ (8 * (xs.length + 4)) (by omega)
      have hk3 : (IntKind.u64.wrap at_).tmod (8 * ((xs.length : Int) + 4)) = (k : Int) := by rw [← hk1]; push_cast; rfl
      have HK := Lib.hid hk3
      have hg7w : w.heap.size ≤ g7 := Nat.le_trans BB6.out.size hg7
      have HO7 := Lib.hid ho7
      clear hk1 hk3 ho7 hb7 hr6 CA6 BB6
      go_upto_region 11 with fail
      rw [HK.out, show wrap64 (k : Int) = (k : Int) from w64_in _ (by omega) (by omega)]
      have cy := HO7.out.cellAt (k / 8) (by omega)
      have fy := HO7.out.frozenAt (k / 8)
      obtain ⟨cv, hcv⟩ : ∃ cv, cv = PX.getD (k / 8) 0 := ⟨_, rfl⟩
      rw [← hcv] at cy
      have hcl := cv.toNat_lt
      obtain ⟨z, hz⟩ : ∃ z, z = cv ^^^ UInt8.ofNat (2 ^ (k % 8)) := ⟨_, rfl⟩
      have XV : bits .xor .u8 (cv.toNat : Int) (2 ^ (k % 8) % 256) = (z.toNat : Int) := by rw [hz]; exact xor_pow cv (k % 8)
      have HZ : Hid (PX.set (k / 8) z = flipN PX k) := by
        show _ = flipN PX k
        rw [flipN, ← hcv, hz]
      have ho8 := HO7.out.stored (k / 8) z
      rw [HZ.out] at ho8
      have HO8 := Lib.hid ho8
      have BB8 := Lib.hid (BB7.out.setCell (p := ⟨g7, k / 8, none⟩) hg7w (.int .u8 (z.toNat : Int)))
      have HTk := Take_any _ _ _ _ _ (by omega) HO8.out.rd.toRd
      rw [TF.out k hk2] at HTk
      clear hcv hz ho8 HK HO7 BB7 TF
      go_wp2_with fail
      refine HTk.mono ?_
      clear HTk
      rintro e w9 ⟨a9, n9, c9, rfl, -, hb9⟩
      have BB9 := Lib.hid (BB8.out.trans (hb9.mono BB8.out.size))
      clear hb9 BB8 HO8
      go_wp2_with fail
      refine (wakes_any _).mono ?_
      rintro e w10 ⟨rfl, hb10⟩
      go_wp2_with fail
      go_ret
      exact ⟨rfl, BB9.out.trans (hb10.mono BB9.out.size)⟩
end Go.Proofs.Ytocehaflgpljfaa
