/-
  ShaKnown holds: the chapter's rows; the constants are the roots of primes that the document tells; no state; bytes about the end of a block. (A closed statement: no conditions.)
-/
import Derived.Test.YtgippimoklefnaaKnownA
import Derived.Test.YtgippimoklefnaaSums
import Derived.Deep.RegionHeld3
namespace Go.Proofs.Ytgippimoklefnaa
open Go.ChangeShapes Go.WideShapes Go.ChangeAt Go.RowKit

theorem undrewB {W w' : World} (h : Below W.drew.heap.size W.drew w') : Below W.heap.size W w' := ⟨h.os, h.tape, h.output, h.size, h.block⟩
def Zst : List Value := .bool false :: (qs (Z 8) ++ (bvs (Z8 64) ++ [.int .u64 0]))
theorem built_state : Try.prog.built 55 [] = some Zst.toArray := by kernel_rfl

set_option maxRecDepth 100000 in
set_option maxHeartbeats 1600000 in
theorem Known_any (w : World) :
    Calls Try.prog 8 #[] w fun e w' => e = .returned (.bool true) ∧ Below w.heap.size w w' := by
  obtain ⟨g, hg⟩ : ∃ g, g = w.heap.size := ⟨_, rfl⟩
  have HG := Lib.hid hg
  have hB0 : Below g w w := Below.refl _ _
  clear hg
  go_enter Try.func8, Try.ntmps8
  go_upto_region 2 with (first
    | (go_at_call 21; refine (rconsts_any _).mono ?_; rintro e w1 ⟨rfl, hb1⟩)
    | (go_at_call 22; refine (rfirst_any _).mono ?_; rintro e w2 ⟨rfl, hb2⟩)
    | ((with_reducible show wpList _ _ _ (⟨some 1, .alloc _, _, _, _, _⟩ :: _) _ _); refine wl_alloc rfl 47 rfl (qs (Z 64)) 64 info64 ?_; intro w3 hA3 hb3 hs3)
    | ((with_reducible show wpList _ _ _ (⟨some 2, .alloc _, _, _, _, _⟩ :: _) _ _); refine wl_alloc rfl 49 rfl (qs (Z 8)) 8 info8 ?_; intro w4 hA4 hb4 hs4)
    | ((with_reducible show wpList _ _ _ (⟨none, .store _ (.tmp 1) _, _, _, _, _⟩ :: _) _ _); refine wl_store rfl 47 _ _ rfl w2.heap.size 0 rfl (qs K64) rfl 47 _ (hA3.kept hb4) (by rw [size64]; rfl) (by decide) (qs_one _) ?_; intro w5 hA5 hg5 hs5)
    | ((with_reducible show wpList _ _ _ (⟨none, .store _ (.tmp 2) _, _, _, _, _⟩ :: _) _ _); refine wl_store rfl 49 _ _ rfl w3.heap.size 0 rfl (qs H0) rfl 49 _ (hA4.grown hg5 (by intro e; injection e with e; omega)) (by rw [size8]; rfl) (by decide) (qs_one _) ?_; intro w6 hA6 hg6 hs6))
  rw [whole_store _ _ (by rfl)] at hA5 hA6
  have hX6 := hA5.grown hg6 (by intro e; injection e with e; omega)
  have x1 := hb1.size
  have x2 := hb2.size
  have hB6 : Below w.heap.size w w6 := (((hb1.trans (hb2.mono x1)).trans (hb3.mono (by omega))).trans (hb4.mono (by omega))).grown hg5 (by omega) (by intro k e; injection e with e; omega) |>.grown hg6 (by omega) (by intro k e; injection e with e; omega)
  rw [← HG.out] at hB6
  generalize h1 : w2.heap.size = g1 at *
  generalize h2 : w3.heap.size = g2 at *
  have hl1 : g1 < w6.heap.size := hX6.lt
  clear hA3 hb3 hA4 hb4 hA5 hg5 hg6 hb1 hb2 x1 x2 hB0 h1 h2 hs3 hs4 hs5 hs6
  go_wp2_with fail
  go_loopw [3] (fun i wr => ∃ k : Nat, k ≤ 64 ∧ i = .int .i64 k ∧ Arr wr g1 47 (qs K64) ∧ Arr wr g2 49 (qs H0) ∧ Below g w wr ∧ g ≤ wr.heap.size) (fun i _ => 64 - (intOf i).toNat)
  case atStart => exact ⟨0, by omega, rfl, hX6, hA6, hB6, by rw [HG.out]; exact hB6.size⟩
  case round =>
    clear hX6 hA6 hB6
    obtain ⟨k, hk, rfl, hX, hY, hB, hgs⟩ := hrel
    by_cases hlt : k < 64
    · have hc : (k : Int) < 64 := by omega
      obtain ⟨v, hv⟩ : ∃ v, v = (K64.getD k 0).toNat := ⟨_, rfl⟩
      have cK : wr.cell? ⟨g1, k, none⟩ = some (.int .u32 (v : Int)) := by
        rw [hv]
        exact (hX.cell k).trans (qs_get K64 k (by show k < 64; exact hlt))
      have hxl := hX.lt
      have HP : Hid (∀ w, Calls Try.prog 24 #[.int .i64 (k : Int)] w fun e w' => (∃ p, p < 65536 ∧ Hid (rootN p 3 38 % 4294967296 = v) ∧ e = .returned (.int .u64 (p : Int))) ∧ Below w.heap.size w w') := fun w => by rw [hv]; exact prime3 k hlt w
      clear hv
      go_upto_region 5 with fail
      go_region_held3 (fun w' => w'.cell? ⟨g1, k, none⟩ = some (.int .u32 (v : Int)))
        (first
          | exact cK
          | exact (hbp.cell (p := ⟨g1, k, none⟩) hxl).trans cK
          | exact (hbr.cell (p := ⟨g1, k, none⟩) (Nat.lt_of_lt_of_le hxl hbp.size)).trans ((hbp.cell (p := ⟨g1, k, none⟩) hxl).trans cK)
          | go_keep)
        (first
          | (go_at_call 24; refine (HP.out _).mono ?_; rintro e wp ⟨⟨p, hp, hpv, rfl⟩, hbp0⟩; have hbp : Below wr.heap.size wr wp := undrewB hbp0; clear hbp0)
          | (go_at_call 23; refine (root3 p v _ hp hpv.out).mono ?_; rintro e wq ⟨rfl, hbr⟩))
      have hbq := hbp.trans (hbr.mono hbp.size)
      have hX2 := hX.kept hbq
      have hY2 := hY.kept hbq
      have hB2 := hB.trans (hbq.mono hgs)
      have hs2 := Nat.le_trans hgs hbq.size
      clear hX hY hB hbq hbp hbr cK
      go_wp2_with fail
      go_roundw
      case rel => exact ⟨k + 1, by omega, by go_num, hX2, hY2, hB2, hs2⟩
      case measure => simp [intOf] <;> omega
    · have hc : ¬ (k : Int) < 64 := by omega
      clear hlt hk
      go_wp2_with fail
      go_loopw [4] (fun i wr => ∃ k : Nat, k ≤ 8 ∧ i = .int .i64 k ∧ Arr wr g2 49 (qs H0) ∧ Below g w wr ∧ g ≤ wr.heap.size) (fun i _ => 8 - (intOf i).toNat)
      case atStart => exact ⟨0, by omega, rfl, hY, hB, hgs⟩
      case round =>
        clear hX hY hB hgs hc
        obtain ⟨k, hk, rfl, hY, hB, hgs⟩ := hrel
        by_cases hlt : k < 8
        · have hc : (k : Int) < 8 := by omega
          obtain ⟨v, hv⟩ : ∃ v, v = (H0.getD k 0).toNat := ⟨_, rfl⟩
          have cK : wr.cell? ⟨g2, k, none⟩ = some (.int .u32 (v : Int)) := by
            rw [hv]
            exact (hY.cell k).trans (qs_get H0 k (by show k < 8; exact hlt))
          have hyl := hY.lt
          have HP : Hid (∀ w, Calls Try.prog 24 #[.int .i64 (k : Int)] w fun e w' => (∃ p, p < 65536 ∧ Hid (rootN p 2 38 % 4294967296 = v) ∧ e = .returned (.int .u64 (p : Int))) ∧ Below w.heap.size w w') := fun w => by rw [hv]; exact prime2 k hlt w
          clear hv
          go_upto_region 10 with fail
          go_region_held3 (fun w' => w'.cell? ⟨g2, k, none⟩ = some (.int .u32 (v : Int)))
            (first
              | exact cK
              | exact (hbp.cell (p := ⟨g2, k, none⟩) hyl).trans cK
              | exact (hbr.cell (p := ⟨g2, k, none⟩) (Nat.lt_of_lt_of_le hyl hbp.size)).trans ((hbp.cell (p := ⟨g2, k, none⟩) hyl).trans cK)
              | go_keep)
            (first
              | (go_at_call 24; refine (HP.out _).mono ?_; rintro e wp ⟨⟨p, hp, hpv, rfl⟩, hbp0⟩; have hbp : Below wr.heap.size wr wp := undrewB hbp0; clear hbp0)
              | (go_at_call 23; refine (root2 p v _ hp hpv.out).mono ?_; rintro e wq ⟨rfl, hbr⟩))
          have hbq := hbp.trans (hbr.mono hbp.size)
          have hY2 := hY.kept hbq
          have hB2 := hB.trans (hbq.mono hgs)
          have hs2 := Nat.le_trans hgs hbq.size
          clear hY hB hbq hbp hbr cK
          go_wp2_with fail
          go_roundw
          case rel => exact ⟨k + 1, by omega, by go_num, hY2, hB2, hs2⟩
          case measure => simp [intOf] <;> omega
        · have hc : ¬ (k : Int) < 8 := by omega
          clear hlt hk hY
          go_wp2_with fail
          go_loopw [5] (fun i wr => ∃ k : Nat, 50 ≤ k ∧ k ≤ 140 ∧ i = .int .i64 k ∧ Below g w wr ∧ g ≤ wr.heap.size) (fun i _ => 140 - (intOf i).toNat)
          case atStart => exact ⟨50, by omega, by omega, rfl, hB, hgs⟩
          case round =>
            clear hB hgs hc
            obtain ⟨k, hk50, hk, rfl, hB, hgs⟩ := hrel
            by_cases hlt : k < 140
            · have hc : (k : Int) < 140 := by omega
              obtain ⟨m, hm⟩ : ∃ m, k = m + 1 := ⟨k - 1, by omega⟩
              have hcm : (k : Int) - 1 = (m : Int) := by omega
              have hmk : m < k := by omega
              have hmi : (m : Int) < (k : Int) := by omega
              clear hm
              go_upto_region 16 with ((with_reducible show wpList _ _ _ (⟨some 38, .makeSlice _ _ _, _, _, _, _⟩ :: _) _ _); refine wl_make bt rfl _ _ rfl g k rfl rfl (by omega) hgs ?_; intro w1 ho1 hb1 hs1)
              obtain ⟨gb, hgb⟩ : ∃ gb, gb = wr.heap.size := ⟨_, rfl⟩
              rw [← hgb] at ho1 ⊢
              have hcl := Own.cellAt ho1 m hmk
              have hfr := Own.frozenAt ho1 m
              have hst : Own (w1.setCell ⟨gb, m, none⟩ (.int .u8 1)) g 5 (.slice (some ⟨gb, 0, none⟩) k k) ((List.replicate k 0).set m 1) := Own.stored ho1 m 1
              have hB1 := (hB.trans (hb1.mono hgs)).setCell (p := ⟨gb, m, none⟩) (by show g ≤ gb; omega) (.int .u8 1)
              have hgs1 : g ≤ (w1.setCell ⟨gb, m, none⟩ (.int .u8 1)).heap.size := by simp; omega
              have hxl : ((List.replicate k (0 : UInt8)).set m 1).length = k := by simp
              clear hB hb1 hs1 ho1 hgb hgs
              generalize (List.replicate k (0 : UInt8)).set m 1 = xs at *
              have hs : Hid (∀ p m c (w : World), Rd w p m c xs → Calls Try.prog 9 #[.slice p m c] w (Hash xs w)) := fun p m c w h => shaSum_any xs p m c w (by omega) h
              have ht : Hid (∀ p m c (w : World), Rd w p m c xs → Calls Try.prog 10 #[.slice p m c] w (Hash xs w)) := fun p m c w h => rSum_any xs p m c w (by omega) h
              have hd := shaL_len xs
              unfold Hash at hs ht
              generalize shaL xs = D at *
              have hneq : ∀ W, (binOp .neq 24 (.agg (bvs D).toArray) (.agg (bvs D).toArray)).run Try.prog W = .ok (.bool false) W := fun W => by rw [neD hd hd]; simp
              clear hd hxl
              have HST := Lib.hid hst
              clear hst
              go_wp2_with fail
              refine (hs.out _ _ _ _ HST.out.rd.toRd).mono ?_
              rintro e w3 ⟨rfl, hb3⟩
              have ho3 := HST.out.to hb3
              have HO3 := Lib.hid ho3
              clear ho3
              go_wp2_with fail
              refine (ht.out _ _ _ _ HO3.out.rd.toRd).mono ?_
              rintro e w4 ⟨rfl, hb4⟩
              have hb34 := hb3.trans (hb4.mono hb3.size)
              clear hcl hfr
              go_wp2_with fail
              go_roundw
              case rel => exact ⟨k + 1, by omega, by omega, by go_num, hB1.trans (hb34.mono hgs1), Nat.le_trans hgs1 hb34.size⟩
              case measure => simp [intOf] <;> omega
            · have hc : ¬ (k : Int) < 140 := by omega
              clear hlt hk hk50
              have kc := fun (w : World) (C : Array Value) (n c : Nat) => Lib.run_convert_bytes_const (P := Try.prog) w 22 5 C n c Try.underlying22 Try.underlying5
              go_upto_region 22 with (first
                | ((with_reducible show wpList _ _ _ (⟨some 48, .build _ _, _, _, _, _⟩ :: _) _ _); refine wpList_buildTo rfl 55 _ rfl (some 48) rfl Zst.toArray (by simpa [Act.eval] using built_state) ?_)
                | ((with_reducible show wpList _ _ _ (⟨some 49, .box _ _, _, _, _, _⟩ :: _) _ _); refine wl_box rfl 55 _ rfl Zst rfl ?_; intro wz hAz hbz hsz)
                | (go_at_call 13; refine (Write_nil _ _ _ _).mono ?_; rintro e w20 ⟨rfl, hw20⟩))
              have al := fun (o : Obj) => (Below.refl wz.heap.size wz).alloc (Nat.le_refl _) o
              have hA20 : Arr w20 wr.heap.size 55 Zst := hw20 ▸ hAz.kept (al _)
              have hB20 : Below g w w20 := hw20 ▸ (hB.trans (hbz.mono hgs)).trans ((al _).mono (by omega))
              have hg20 : g ≤ w20.heap.size := by have h := (al (.cells #[Value.int .u8 97] 5 (1, 2))).size; rw [hw20] at h; omega
              obtain ⟨r, hr⟩ : ∃ r, r = wr.heap.size := ⟨_, rfl⟩
              rw [← hr] at hA20 ⊢
              clear hAz hbz hsz hw20 al hB hgs hr
              go_upto_region 23 with (go_at_call 13; refine (Write_zero r _ _ _ _ ?_).mono ?_; first | exact ((hA20.kept ((Below.refl w20.heap.size w20).alloc (Nat.le_refl _) _)).cell 0) | (rintro e w21 ⟨rfl, hw21⟩))
              rintro e w21 ⟨rfl, hw21⟩
              have al := fun (o : Obj) => (Below.refl w20.heap.size w20).alloc (Nat.le_refl _) o
              have hA21 : Arr w21 r 55 Zst := hw21 ▸ hA20.kept (al _)
              have hB21 : Below g w w21 := hw21 ▸ hB20.trans ((al _).mono (by omega))
              have hg21 : g ≤ w21.heap.size := by have h := (al (.cells #[Value.int .u8 97] 5 (1, 2))).size; rw [hw21] at h; omega
              have HC : Hid (∀ W, Below w21.heap.size w21 W → r < W.heap.size ∧ W.cell? ⟨r, 0, none⟩ = some (.bool false)) := fun W h => ⟨(hA21.kept h).lt, (hA21.kept h).cell 0⟩
              clear al hw21 hA20 hB20 hg20 hA21 kc
              have SN : Hid (∀ w, Calls Try.prog 15 #[.pointer none] w (Hash ([] : List UInt8) w)) := fun w => Sum_nil w
              have SZ : Hid (∀ r w, r < w.heap.size → w.cell? ⟨r, 0, none⟩ = some (.bool false) → Calls Try.prog 15 #[.pointer (some ⟨r, 0, none⟩)] w (Hash ([] : List UInt8) w)) := fun r w h1 h2 => Sum_zero r w h1 h2
              have SS : Hid (∀ w, Calls Try.prog 9 #[.slice none 0 0] w (Hash ([] : List UInt8) w)) := fun w => shaSum_any [] none 0 0 w (by simp) (Rd.none _)
              have hd := shaL_len ([] : List UInt8)
              unfold Hash at SN SZ SS
              generalize shaL ([] : List UInt8) = D at *
              have heql : ∀ W, (binOp .eql 24 (.agg (bvs D).toArray) (.agg (bvs D).toArray)).run Try.prog W = .ok (.bool true) W := fun W => by rw [eqD hd hd]; simp
              clear hd
              go_upto_region 99 with (first
                | (go_at_call 15; have hflag := ht23; refine (SZ.out r _ (HC.out _ ht23).1 (HC.out _ ht23).2).mono ?_; rintro e w24 ⟨rfl, hb24⟩; have ht24 := ht23.trans (hb24.mono ht23.size); clear hflag)
                | (go_at_call 15; refine (SN.out _).mono ?_; rintro e w22 ⟨rfl, ht22⟩)
                | (go_at_call 9; have hflag := ht24; refine (SS.out _).mono ?_; rintro e w25 ⟨rfl, hb25⟩; have ht25 := ht24.trans (hb25.mono ht24.size); clear hflag)
                | (go_at_call 9; refine (SS.out _).mono ?_; rintro e w23 ⟨rfl, hb23⟩; have ht23 := ht22.trans (hb23.mono ht22.size))
                | (go_at_call 14; have hflag := hLn; refine (Len_zero r _ (HC.out _ ht25).2).mono ?_; rintro e w26 ⟨rfl, rfl⟩)
                | (go_at_call 14; refine (Len_nil _).mono ?_; rintro e w26 ⟨rfl, rfl⟩; have hLn : True := trivial)
                | (go_at_call 16; have hflag := hCn; refine (Copy_zero r _ (HC.out _ ht25).2).mono ?_; rintro e w26 ⟨rfl, rfl⟩)
                | (go_at_call 16; refine (Copy_nil _).mono ?_; rintro e w26 ⟨rfl, rfl⟩; have hCn : True := trivial)
                | (go_at_call 11; refine (wakes_any _).mono ?_; rintro e w27 ⟨rfl, hb27⟩; have ht27 := ht25.trans (hb27.mono ht25.size)))
              go_ret
              exact ⟨rfl, HG.out ▸ hB21.trans (ht27.mono hg21)⟩

theorem shaKnown_lifted (os : Os) (started : os.Started) (H : Type) (enc : TypeId × Value → H) :
    ReturnsInHanded {} Try.checked os 8 .any (Rows.shaKnownSpec.pre6 enc Try.prog Try.f8 Rows.shaKnownRow.domain false) (Rows.shaKnownSpec.post enc Try.prog Try.f8 false true false false) := by
  refine returnsInHanded_of_change (C := Try.checked) ownKnobs started (by kernel_rfl) Try.func8
    (ChangeSpec.witness6 (enc := enc) (C := Try.checked) false ⟨#[], #[], []⟩ 8 (by kernel_rfl) (by kernel_rfl) (by kernel_rfl) (by kernel_rfl)) ?_
  intro W base args ds gs before hval0 hW _ _
  have hW' := hW
  obtain ⟨p, q, hA0, hV, rfl, _, _⟩ := hW
  have hA : DataW.TrodAll enc Try.prog W 0 (fun _ => true) true Try.f8.params.toList args.toList ds p := hA0
  rw [Try.params8] at hA
  obtain ⟨hargs, rfl, rfl⟩ := trodAll_nil hA
  obtain rfl : args = #[] := by cases args; simp_all
  obtain ⟨rfl, rfl⟩ := trodVars_none hV
  refine (Known_any W).mono fun e W' ⟨he, hw⟩ => ?_
  subst he
  exact ⟨_, rfl, law_post laidOuts (by kernel_rfl) rfl Try.underlying4 rfl hW' hw rfl⟩

theorem shaKnown_proved : Rows.ShaKnownSaid :=
  OpenClaim.holds_of_wide 8 Try.f8 rfl rfl rfl rfl rfl rfl rfl ⟨rfl, rfl, rfl, rfl, rfl⟩ rfl rfl rfl rfl rfl (by kernel_rfl) Try.func8 (by kernel_rfl)
    (of_decide_eq_true (by kernel_rfl)) (by unfold Func.isWrapper; first | (rw [if_pos (by decide +kernel)]; kernel_rfl) | (rw [if_neg (by decide +kernel)]; exact ⟨rfl, rfl⟩))
    (fun os started H enc _ => shaKnown_lifted os started H enc)
end Go.Proofs.Ytgippimoklefnaa
