/-
  WireReads holds: rows of calls of a reader are answered as the document says; the arguments read as they did.
-/
import Derived.Test.YtfcncojellhloaaLays
import Derived.Test.YtfcncojellhloaaSized
namespace Go.Proofs.Ytfcncojellhloaa
open Go.ChangeShapes Go.WideShapes Go.ChangeAt Go.RowKit

theorem Left_same (q : Option Nat) (r : Nat) (xs : List UInt8) (w : World) (n : Nat) (h : Rdr w 66 [.bool true] q r xs) :
    Calls Try.prog 22 #[.pointer (some ⟨r, 0, none⟩)] (w.drewN n) fun e w' => e = .returned (.int .i64 xs.length) ∧ w' = w.drewN n :=
  (Left_any q r xs (w.drewN n) (h.kept (Nat.le_refl _) (fun _ _ => rfl) rfl)).mono fun _ _ ⟨h1, h2⟩ => ⟨h1, h2.symm⟩

theorem Rdr.to {w w' : World} {T : TypeId} {hd : List Value} {q : Option Nat} {r : Nat} {xs : List UInt8} (h : Rdr w T hd q r xs) (hb : Below w.heap.size w w') : Rdr w' T hd q r xs := by
  obtain ⟨hne, hlt, a, n, cap, hg, hrd, ha⟩ := h
  exact ⟨hne, Nat.lt_of_lt_of_le hlt hb.size, a, n, cap, (hb.block r hlt).trans hg, hrd.to hb, ha⟩
theorem Rdr.other {w w' : World} {T : TypeId} {hd : List Value} {q : Option Nat} {r r2 : Nat} {xs : List UInt8} (h : Rdr w T hd q r xs) (hb : w.grownBy w' (some r2)) (h1 : r ≠ r2) (h2 : q ≠ some r2) : Rdr w' T hd q r xs := by
  obtain ⟨hne, hlt, a, n, cap, hg, hrd, ha⟩ := h
  exact ⟨hne, Nat.lt_of_lt_of_le hlt hb.size, a, n, cap, (hb.block r hlt (by simpa using h1)).trans hg, hrd.grown hb fun ad e e' => h2 (by rw [ha ad e, e']), ha⟩
theorem takeF_len (xs : List UInt8) (k : Int) : (takeF xs k).2.2.length ≤ xs.length ∧ (takeF xs k).1.length ≤ xs.length := by
  unfold takeF; split
  · simp
  · split <;> simp <;> omega
theorem rnumF_len (xs : List UInt8) (k : Int) : (rnumF xs k).2.2.length ≤ xs.length := by
  unfold rnumF; split
  · split <;> simp
  · simp
theorem rvecF_len (xs : List UInt8) (k : Int) : (rvecF xs k).2.2.length ≤ xs.length ∧ (rvecF xs k).1.length ≤ xs.length := by
  unfold rvecF; split
  · split
    · simp
    · split
      · simp
      · simp; omega
  · simp

set_option maxHeartbeats 3200000 in
set_option maxRecDepth 100000 in
theorem Reads_any (a a2 : Option Addr) (n cap m cap2 : Nat) (xs : List UInt8) (w : World) (hm : n ≤ 140737488351232) (hm2 : m ≤ 140737488351232) (hr : Rd w a n cap xs) (hmc : m ≤ cap2)
    (hacts : 0 < m → ∃ b off, a2 = some ⟨b, off, none⟩ ∧ b < w.heap.size ∧ ∀ i, i < m → ∃ x y : Int, w.cell? ⟨b, off + i * 2, none⟩ = some (.int .i64 x) ∧ w.cell? ⟨b, off + i * 2 + 1, none⟩ = some (.int .i64 y)) :
    Calls Try.prog 4 #[.slice a n cap, .slice a2 m cap2] w fun e w' => e = .returned (.bool true) ∧ Below w.heap.size w w' := by
  have hal : ∀ (W : World) o, Below W.heap.size W (W.alloc o) := fun W o => (Below.refl _ _).alloc (Nat.le_refl _) _
  have HL := Lib.hid hr.len
  have HA := Lib.hid hacts
  clear hacts
  go_enter Try.func4, Try.ntmps4
  go_wp2_with (at_builtin; refine wl_append bt rfl (.tmp 20) (.tmp 21) rfl w.heap.size _ [] (Own.lit0 w _) rfl _ _ _ xs rfl (hr.to (hal _ _)) (by simp; omega) (by simp) ?_; intro own w1 ho1 hb1; rw [List.nil_append] at ho1; have s01 := (hal w _).trans hb1; clear hb1)
  obtain ⟨ao, co, rfl, hos⟩ := ho1.shape
  simp only [HL.out] at ho1 ⊢
  have HOS := Lib.hid hos
  clear hos
  refine (New_any _ n co xs _ (by omega) ho1.rd.toRd).mono ?_
  rintro e w2 ⟨q, r, rfl, hrd, hq, hrs, s12⟩
  have s02 := s01.trans (s12.mono s01.size)
  go_wp2_with fail
  refine (refNew_any _ n cap xs _ (by omega) (hr.to s02)).mono ?_
  rintro e w3 ⟨q', r', rfl, hrd', hq', hrs', s23⟩
  have s03 := s02.trans (s23.mono s02.size)
  have hrd3 := hrd.kept (w' := w3) s23.size (fun k hk => s23.block k (hq k hk).2) (s23.block r hrd.lt)
  have ho3 := ho1.to (s12.trans (s23.mono s12.size))
  have hqr : (∀ k, q = some k → k ≠ r') ∧ r ≠ r' ∧ (∀ k, q' = some k → k ≠ r) := by
    have := hrd.lt
    refine ⟨fun k hk e => ?_, fun e => ?_, fun k hk e => ?_⟩
    · have := (hq k hk).2; omega
    · omega
    · have := (hq' k hk).1; omega
  have h12 := s12.size
  have h01 := s01.size
  have hbase : (∀ k, q = some k → w1.heap.size ≤ k) ∧ w1.heap.size ≤ r ∧ (∀ k, q' = some k → w1.heap.size ≤ k) ∧ w1.heap.size ≤ r' := ⟨fun k hk => (hq k hk).1, hrs, fun k hk => by have := (hq' k hk).1; omega, by omega⟩
  have HU : Hid ((∀ k, q = some k → k < w3.heap.size) ∧ (∀ k, q' = some k → k < w3.heap.size)) := ⟨fun k hk => by have := (hq k hk).2; have := s23.size; omega, fun k hk => (hq' k hk).2⟩
  have HQ := Lib.hid hqr
  have HB := Lib.hid hbase
  clear hq hq' hrs hrs' hqr hbase hrd ho1
  go_wp2_with fail
  go_loopw [29] (fun i wr => ∃ (k : Nat) (zs : List UInt8), k ≤ n ∧ i = .int .i64 k ∧ Own wr w.heap.size 5 (.slice ao n co) zs ∧ Rdr wr 66 [.bool true] q r xs ∧ Rdr wr 51 [] q' r' xs ∧ w3.heap.size ≤ wr.heap.size ∧ Below w.heap.size w wr) (fun i _ => n - (intOf i).toNat)
  case atStart => exact ⟨0, _, Nat.zero_le _, rfl, ho3, hrd3, hrd', Nat.le_refl _, s03⟩
  case round =>
    clear hrd3 hrd' ho3 s03
    obtain ⟨k, zs, hk, rfl, ho, hrd, hrd', hs3, hb⟩ := hrel
    have hzl := ho.rd.len
    by_cases hlt : k < n
    · obtain ⟨gx, cc, e, hB, hgl, _⟩ := ho.solid (by omega)
      injection e with e1 e2 e3
      subst e1
      have hcl := Own.cellAt ho k hlt
      have hfr := Own.frozenAt ho k
      have hst := Own.stored ho k (zs.getD k 0 ^^^ 255)
      rw [← xor_byte] at hst
      have hgx := (HOS.out _ rfl).2
      have hoth : ∀ u j, j ≠ gx → (wr.setCell ⟨gx, k, none⟩ u).heap[j]? = wr.heap[j]? := fun u j hj => heap_setCell_other wr ⟨gx, k, none⟩ j u hj
      have h1 := fun u => Lib.hid (hrd.kept (w' := wr.setCell ⟨gx, k, none⟩ u) (by simp) (fun j hj => hoth u j (by have := HB.out.1 j hj; simp only at hgx; omega)) (hoth u r (by have := HB.out.2.1; simp only at hgx; omega)))
      have h2 := fun u => Lib.hid (hrd'.kept (w' := wr.setCell ⟨gx, k, none⟩ u) (by simp) (fun j hj => hoth u j (by have := HB.out.2.2.1 j hj; simp only at hgx; omega)) (hoth u r' (by have := HB.out.2.2.2; simp only at hgx; omega)))
      clear e2 e3 hzl hoth
      generalize zs.getD k 0 = y at *
      have HS := Lib.hid hst
      clear hst ho hrd hrd'
      go_wp2
      go_roundw
      case rel => exact ⟨k + 1, _, by omega, by go_num, HS.out, (h1 _).out, (h2 _).out, by simpa using hs3, hb.setCell hB _⟩
      case measure => simp [intOf]; omega
    · obtain rfl : k = n := by omega
      clear hlt hzl ho
      go_wp2_with fail
      go_loopw [41] (fun i wr => ∃ (k : Nat) (rest : List UInt8), k ≤ m ∧ i = .int .i64 k ∧ rest.length ≤ 140737488351232 ∧ Rdr wr 66 [.bool true] q r rest ∧ Rdr wr 51 [] q' r' rest ∧ w3.heap.size ≤ wr.heap.size ∧ Below w.heap.size w wr) (fun i _ => m - (intOf i).toNat)
      case atStart => exact ⟨0, xs, Nat.zero_le _, rfl, by rw [HL.out]; exact hm, hrd, hrd', hs3, hb⟩
      case round =>
        clear hrd hrd' hb hs3
        obtain ⟨j, rest, hj, rfl, hrl, hrd, hrd', hs3, hb⟩ := hrel
        by_cases hlt : j < m
        · obtain ⟨b2, off2, rfl, hb2, hcells⟩ := HA.out (by omega)
          obtain ⟨x, y, hx, hy⟩ := hcells j hlt
          have hx' := (hb.cell (p := ⟨b2, off2 + j * 2, none⟩) hb2).trans hx
          have hy' := (hb.cell (p := ⟨b2, off2 + j * 2 + 1, none⟩) hb2).trans hy
          clear hcells hx hy
          by_cases h0 : x = 0
          · subst h0
            have hWb := hal wr (.cells #[.int .i64 0, .int .i64 y] 42)
            have cN : (wr.alloc (.cells #[.int .i64 0, .int .i64 y] 42)).cell? ⟨wr.heap.size, 1, none⟩ = some (.int .i64 y) := by rw [cell_of_row _ _ _ _ 42 (0, 0) (heap_alloc_new _ _)]; rfl
            have cW : (wr.alloc (.cells #[.int .i64 0, .int .i64 y] 42)).cell? ⟨wr.heap.size, 0, none⟩ = some (.int .i64 0) := by rw [cell_of_row _ _ _ _ 42 (0, 0) (heap_alloc_new _ _)]; rfl
            have hsz := hb.size
            have hrdW := hrd.to hWb
            have hrdW' := hrd'.to hWb
            have hbW := hb.trans (hWb.mono hsz)
            have hs0 := Nat.le_trans hs3 hWb.size
            have hrp : r ≠ wr.heap.size := Nat.ne_of_lt hrd.lt
            have hrp' : r' ≠ wr.heap.size := Nat.ne_of_lt hrd'.lt
            clear hWb hrd hrd' hb
            go_wp2_with fail
            clear hx' hy'
            generalize hp : wr.heap.size = p at *
            generalize wr.alloc (.cells #[.int .i64 0, .int .i64 y] 42) = W0 at *
            have HP := Lib.hid hp
            clear hp
            refine (RNum_any q r rest y W0 (by omega) hrdW).mono ?_
            rintro e W1 ⟨rfl, hrd1, hg1⟩
            have hrd1' := hrdW'.other hg1 (Ne.symm HQ.out.2.1) (fun e => HQ.out.2.2 r e rfl)
            have hb1 := hbW.grown hg1 hbW.size (by intro k e; cases e; exact Nat.le_trans h01 HB.out.2.1)
            have cN1 := hg1.cell cN (by simpa using Ne.symm hrp)
            have hlE := Nat.le_trans (rnumF_len rest y) hrl
            have hs1 := Nat.le_trans hs0 hg1.size
            clear hrdW hrdW' hbW cW cN hg1
            go_wp2_with fail
            refine (refRNum_any q' r' rest y W1 hrd1').mono ?_
            rintro e W2 ⟨rfl, hrdE', hg2⟩
            have hrdE := hrd1.other hg2 HQ.out.2.1 (fun e => HQ.out.1 r' e rfl)
            have hbE := hb1.grown hg2 hb1.size (by intro k e; cases e; exact Nat.le_trans h01 HB.out.2.2.2)
            have hsE := Nat.le_trans hs1 hg2.size
            clear hrd1 hrd1' hb1 hg2 cN1
            generalize (rnumF rest y).2.2 = restE at *
            obtain ⟨_, _, ae, ne, ce, hge, hrde, _⟩ := id hrdE'
            have cE : W2.cell? ⟨r', 0, none⟩ = some (.slice ae ne ce) := Rdr.cell (hd := []) hge
            have hne := hrde.len
            subst hne
            have HE1 := Lib.hid hrdE
            have HE2 := Lib.hid hrdE'
            have HE3 := Lib.hid hbE
            clear hrdE hrdE' hbE hge hrde
            have hleft := fun nq => Left_same q r _ W2 nq HE1.out
            go_wp2_with fail
            go_quiet ((go_at_call 22; exact Calls.quiet_of_same (hleft _)))
            go_wp2_with fail
            go_roundw
            case rel => exact ⟨j + 1, _, by omega, by go_num, hlE, HE1.out.kept (Nat.le_refl _) (fun _ _ => rfl) rfl, HE2.out.kept (Nat.le_refl _) (fun _ _ => rfl) rfl, hsE, below_drewN HE3.out _⟩
            case measure => simp [intOf]; omega
          · by_cases h1 : x = 1
            · subst h1
              have hWb := hal wr (.cells #[.int .i64 1, .int .i64 y] 42)
              have cN : (wr.alloc (.cells #[.int .i64 1, .int .i64 y] 42)).cell? ⟨wr.heap.size, 1, none⟩ = some (.int .i64 y) := by rw [cell_of_row _ _ _ _ 42 (0, 0) (heap_alloc_new _ _)]; rfl
              have cW : (wr.alloc (.cells #[.int .i64 1, .int .i64 y] 42)).cell? ⟨wr.heap.size, 0, none⟩ = some (.int .i64 1) := by rw [cell_of_row _ _ _ _ 42 (0, 0) (heap_alloc_new _ _)]; rfl
              have hsz := hb.size
              have hrdW := hrd.to hWb
              have hrdW' := hrd'.to hWb
              have hbW := hb.trans (hWb.mono hsz)
              have hs0 := Nat.le_trans hs3 hWb.size
              have hrp : r ≠ wr.heap.size := Nat.ne_of_lt hrd.lt
              have hrp' : r' ≠ wr.heap.size := Nat.ne_of_lt hrd'.lt
              clear hWb hrd hrd' hb
              go_wp2_with fail
              clear hx' hy'
              generalize hp : wr.heap.size = p at *
              generalize wr.alloc (.cells #[.int .i64 1, .int .i64 y] 42) = W0 at *
              have HP := Lib.hid hp
              clear hp
              refine (RVec_any q r rest y W0 (by omega) hrdW).mono ?_
              rintro e W1 ⟨v1, rfl, ho1, hrd1, hg1⟩
              have hrd1' := hrdW'.other hg1 (Ne.symm HQ.out.2.1) (fun e => HQ.out.2.2 r e rfl)
              have hb1 := hbW.grown hg1 hbW.size (by intro k e; cases e; exact Nat.le_trans h01 HB.out.2.1)
              have cN1 := hg1.cell cN (by simpa using Ne.symm hrp)
              have hlE := Nat.le_trans (rvecF_len rest y).1 hrl
              have hlo := Nat.le_trans (rvecF_len rest y).2 hrl
              have hs1 := Nat.le_trans hs0 hg1.size
              have hrlt := hrdW.lt
              have hw0 := hbW.size
              have hrlt' := hrdW'.lt
              obtain ⟨a1, c1, rfl, -⟩ := ho1.shape
              clear hrdW hrdW' hbW cW cN
              go_wp2_with fail
              refine (refRVec_any q' r' rest y W1 (by omega) hrd1').mono ?_
              rintro e W2 ⟨v2, rfl, ho2, hrdE', hg2⟩
              have hrdE := hrd1.other hg2 HQ.out.2.1 (fun e => HQ.out.1 r' e rfl)
              have hbE := hb1.grown hg2 hb1.size (by intro k e; cases e; exact Nat.le_trans h01 HB.out.2.2.2)
              have hsE := Nat.le_trans hs1 hg2.size
              have ho1' : Own W2 W0.heap.size 5 (.slice a1 (rvecF rest y).1.length c1) (rvecF rest y).1 := World.ownsRow.kept ho1 hg2 (by
                cases a1 with
                | none => exact .inl rfl
                | some ad => exact .inr (by have := (World.ownsRow.lt ho1 _ rfl).1; simp only [Value.ownBlock]; intro e; injection e with e; omega))
              obtain ⟨a2', c2, rfl, -⟩ := ho2.shape
              have R1 := Lib.hid ho1'.rd.toRd
              have R2 := Lib.hid ho2.rd.toRd
              have hg0 := Nat.le_trans hg1.size hg2.size
              clear hrd1 hrd1' hb1 hg2 cN1 ho1 ho2 hg1
              generalize rvecF rest y = F0 at *
              go_wp2_with fail
              refine (Equal_any _ _ _ _ _ _ _ _ _ R1.out R2.out).mono ?_
              rintro e W3 ⟨rfl, rfl⟩
              clear R1 R2
              go_wp2_with fail
              go_loopw [116] (fun i wr => ∃ (k : Nat) (zs : List UInt8), k ≤ F0.1.length ∧ i = .int .i64 k ∧ Own wr W0.heap.size 5 (.slice a1 F0.1.length c1) zs ∧ Rdr wr 66 [.bool true] q r F0.2.2 ∧ Rdr wr 51 [] q' r' F0.2.2 ∧ w3.heap.size ≤ wr.heap.size ∧ Below w.heap.size w wr) (fun i _ => F0.1.length - (intOf i).toNat)
              case atStart => exact ⟨0, _, Nat.zero_le _, rfl, ho1', hrdE, hrdE', hsE, hbE⟩
              case round =>
                clear ho1' hrdE hrdE' hsE hbE
                obtain ⟨k, zs, hk, rfl, ho, hrdE, hrdE', hsE, hbE⟩ := hrel
                have hzl := ho.rd.len
                by_cases hlt2 : k < F0.1.length
                · obtain ⟨gx, cc, e, hBx, hgl, _⟩ := ho.solid (by omega)
                  injection e with e1 e2 e3
                  subst e1
                  have hcl := Own.cellAt ho k hlt2
                  have hfr := Own.frozenAt ho k
                  have hst := Own.stored ho k (zs.getD k 0 ^^^ 255)
                  rw [← xor_byte] at hst
                  have hoth : ∀ u j, j ≠ gx → (wr.setCell ⟨gx, k, none⟩ u).heap[j]? = wr.heap[j]? := fun u j hj => heap_setCell_other wr ⟨gx, k, none⟩ j u hj
                  have hb2x := hbE.setCell (p := ⟨gx, k, none⟩) (by show w.heap.size ≤ gx; omega)
                  have h1 := fun u => Lib.hid (hrdE.kept (w' := wr.setCell ⟨gx, k, none⟩ u) (by simp) (fun j hj => hoth u j (by have := HU.out.1 j hj; omega)) (hoth u r (by omega)))
                  have h2 := fun u => Lib.hid (hrdE'.kept (w' := wr.setCell ⟨gx, k, none⟩ u) (by simp) (fun j hj => hoth u j (by have := HU.out.2 j hj; omega)) (hoth u r' (by omega)))
                  clear e2 e3 hzl hoth
                  generalize zs.getD k 0 = z at *
                  have HS := Lib.hid hst
                  clear hst ho hrdE hrdE'
                  go_wp2
                  go_roundw
                  case rel => exact ⟨k + 1, _, by omega, by go_num, HS.out, (h1 _).out, (h2 _).out, by simpa using hsE, hb2x _⟩
                  case measure => simp [intOf]; omega
                · obtain rfl : k = F0.1.length := by omega
                  clear hlt2 hzl ho
                  obtain ⟨_, _, ae, ne, ce, hge, hrde, _⟩ := id hrdE'
                  have cE : wr.cell? ⟨r', 0, none⟩ = some (.slice ae ne ce) := Rdr.cell (hd := []) hge
                  have hne := hrde.len
                  subst hne
                  have HE1 := Lib.hid hrdE
                  have HE2 := Lib.hid hrdE'
                  have HE3 := Lib.hid hbE
                  clear hrdE hrdE' hbE hge hrde
                  have hleft := fun nq => Left_same q r _ wr nq HE1.out
                  go_wp2_with fail
                  go_quiet ((go_at_call 22; exact Calls.quiet_of_same (hleft _)))
                  go_wp2_with fail
                  go_roundw
                  case rel => exact ⟨j + 1, _, by omega, by go_num, hlE, HE1.out.kept (Nat.le_refl _) (fun _ _ => rfl) rfl, HE2.out.kept (Nat.le_refl _) (fun _ _ => rfl) rfl, hsE, below_drewN HE3.out _⟩
                  case measure => simp [intOf]; omega
            · by_cases h2 : x = 2
              · subst h2
                have hWb := hal wr (.cells #[.int .i64 2, .int .i64 y] 42)
                have cN : (wr.alloc (.cells #[.int .i64 2, .int .i64 y] 42)).cell? ⟨wr.heap.size, 1, none⟩ = some (.int .i64 y) := by rw [cell_of_row _ _ _ _ 42 (0, 0) (heap_alloc_new _ _)]; rfl
                have cW : (wr.alloc (.cells #[.int .i64 2, .int .i64 y] 42)).cell? ⟨wr.heap.size, 0, none⟩ = some (.int .i64 2) := by rw [cell_of_row _ _ _ _ 42 (0, 0) (heap_alloc_new _ _)]; rfl
                have hsz := hb.size
                have hrdW := hrd.to hWb
                have hrdW' := hrd'.to hWb
                have hbW := hb.trans (hWb.mono hsz)
                have hs0 := Nat.le_trans hs3 hWb.size
                have hrp : r ≠ wr.heap.size := Nat.ne_of_lt hrd.lt
                have hrp' : r' ≠ wr.heap.size := Nat.ne_of_lt hrd'.lt
                clear hWb hrd hrd' hb
                go_wp2_with fail
                clear hx' hy'
                generalize hp : wr.heap.size = p at *
                generalize wr.alloc (.cells #[.int .i64 2, .int .i64 y] 42) = W0 at *
                have HP := Lib.hid hp
                clear hp
                refine (Take_any q r rest y W0 (by omega) hrdW).mono ?_
                rintro e W1 ⟨v1, rfl, ho1, hrd1, hg1⟩
                have hrd1' := hrdW'.other hg1 (Ne.symm HQ.out.2.1) (fun e => HQ.out.2.2 r e rfl)
                have hb1 := hbW.grown hg1 hbW.size (by intro k e; cases e; exact Nat.le_trans h01 HB.out.2.1)
                have cN1 := hg1.cell cN (by simpa using Ne.symm hrp)
                have hlE := Nat.le_trans (takeF_len rest y).1 hrl
                have hlo := Nat.le_trans (takeF_len rest y).2 hrl
                have hs1 := Nat.le_trans hs0 hg1.size
                have hrlt := hrdW.lt
                have hw0 := hbW.size
                have hrlt' := hrdW'.lt
                obtain ⟨a1, c1, rfl, -⟩ := ho1.shape
                clear hrdW hrdW' hbW cW cN
                go_wp2_with fail
                refine (refTake_any q' r' rest y W1 (by omega) hrd1').mono ?_
                rintro e W2 ⟨v2, rfl, ho2, hrdE', hg2⟩
                have hrdE := hrd1.other hg2 HQ.out.2.1 (fun e => HQ.out.1 r' e rfl)
                have hbE := hb1.grown hg2 hb1.size (by intro k e; cases e; exact Nat.le_trans h01 HB.out.2.2.2)
                have hsE := Nat.le_trans hs1 hg2.size
                have ho1' : Own W2 W0.heap.size 5 (.slice a1 (takeF rest y).1.length c1) (takeF rest y).1 := World.ownsRow.kept ho1 hg2 (by
                  cases a1 with
                  | none => exact .inl rfl
                  | some ad => exact .inr (by have := (World.ownsRow.lt ho1 _ rfl).1; simp only [Value.ownBlock]; intro e; injection e with e; omega))
                obtain ⟨a2', c2, rfl, -⟩ := ho2.shape
                have R1 := Lib.hid ho1'.rd.toRd
                have R2 := Lib.hid ho2.rd.toRd
                have hg0 := Nat.le_trans hg1.size hg2.size
                clear hrd1 hrd1' hb1 hg2 cN1 ho1 ho2 hg1
                generalize takeF rest y = F0 at *
                go_wp2_with fail
                refine (Equal_any _ _ _ _ _ _ _ _ _ R1.out R2.out).mono ?_
                rintro e W3 ⟨rfl, rfl⟩
                clear R1 R2
                go_wp2_with fail
                go_loopw [116] (fun i wr => ∃ (k : Nat) (zs : List UInt8), k ≤ F0.1.length ∧ i = .int .i64 k ∧ Own wr W0.heap.size 5 (.slice a1 F0.1.length c1) zs ∧ Rdr wr 66 [.bool true] q r F0.2.2 ∧ Rdr wr 51 [] q' r' F0.2.2 ∧ w3.heap.size ≤ wr.heap.size ∧ Below w.heap.size w wr) (fun i _ => F0.1.length - (intOf i).toNat)
                case atStart => exact ⟨0, _, Nat.zero_le _, rfl, ho1', hrdE, hrdE', hsE, hbE⟩
                case round =>
                  clear ho1' hrdE hrdE' hsE hbE
                  obtain ⟨k, zs, hk, rfl, ho, hrdE, hrdE', hsE, hbE⟩ := hrel
                  have hzl := ho.rd.len
                  by_cases hlt2 : k < F0.1.length
                  · obtain ⟨gx, cc, e, hBx, hgl, _⟩ := ho.solid (by omega)
                    injection e with e1 e2 e3
                    subst e1
                    have hcl := Own.cellAt ho k hlt2
                    have hfr := Own.frozenAt ho k
                    have hst := Own.stored ho k (zs.getD k 0 ^^^ 255)
                    rw [← xor_byte] at hst
                    have hoth : ∀ u j, j ≠ gx → (wr.setCell ⟨gx, k, none⟩ u).heap[j]? = wr.heap[j]? := fun u j hj => heap_setCell_other wr ⟨gx, k, none⟩ j u hj
                    have hb2x := hbE.setCell (p := ⟨gx, k, none⟩) (by show w.heap.size ≤ gx; omega)
                    have h1 := fun u => Lib.hid (hrdE.kept (w' := wr.setCell ⟨gx, k, none⟩ u) (by simp) (fun j hj => hoth u j (by have := HU.out.1 j hj; omega)) (hoth u r (by omega)))
                    have h2 := fun u => Lib.hid (hrdE'.kept (w' := wr.setCell ⟨gx, k, none⟩ u) (by simp) (fun j hj => hoth u j (by have := HU.out.2 j hj; omega)) (hoth u r' (by omega)))
                    clear e2 e3 hzl hoth
                    generalize zs.getD k 0 = z at *
                    have HS := Lib.hid hst
                    clear hst ho hrdE hrdE'
                    go_wp2
                    go_roundw
                    case rel => exact ⟨k + 1, _, by omega, by go_num, HS.out, (h1 _).out, (h2 _).out, by simpa using hsE, hb2x _⟩
                    case measure => simp [intOf]; omega
                  · obtain rfl : k = F0.1.length := by omega
                    clear hlt2 hzl ho
                    obtain ⟨_, _, ae, ne, ce, hge, hrde, _⟩ := id hrdE'
                    have cE : wr.cell? ⟨r', 0, none⟩ = some (.slice ae ne ce) := Rdr.cell (hd := []) hge
                    have hne := hrde.len
                    subst hne
                    have HE1 := Lib.hid hrdE
                    have HE2 := Lib.hid hrdE'
                    have HE3 := Lib.hid hbE
                    clear hrdE hrdE' hbE hge hrde
                    have hleft := fun nq => Left_same q r _ wr nq HE1.out
                    go_wp2_with fail
                    go_quiet ((go_at_call 22; exact Calls.quiet_of_same (hleft _)))
                    go_wp2_with fail
                    go_roundw
                    case rel => exact ⟨j + 1, _, by omega, by go_num, hlE, HE1.out.kept (Nat.le_refl _) (fun _ _ => rfl) rfl, HE2.out.kept (Nat.le_refl _) (fun _ _ => rfl) rfl, hsE, below_drewN HE3.out _⟩
                    case measure => simp [intOf]; omega
              · have hWb := hal wr (.cells #[.int .i64 x, .int .i64 y] 42)
                have cN : (wr.alloc (.cells #[.int .i64 x, .int .i64 y] 42)).cell? ⟨wr.heap.size, 1, none⟩ = some (.int .i64 y) := by rw [cell_of_row _ _ _ _ 42 (0, 0) (heap_alloc_new _ _)]; rfl
                have cW : (wr.alloc (.cells #[.int .i64 x, .int .i64 y] 42)).cell? ⟨wr.heap.size, 0, none⟩ = some (.int .i64 x) := by rw [cell_of_row _ _ _ _ 42 (0, 0) (heap_alloc_new _ _)]; rfl
                have hsz := hb.size
                have hrdW := hrd.to hWb
                have hrdW' := hrd'.to hWb
                have hbW := hb.trans (hWb.mono hsz)
                have hs0 := Nat.le_trans hs3 hWb.size
                have hrp : r ≠ wr.heap.size := Nat.ne_of_lt hrd.lt
                have hrp' : r' ≠ wr.heap.size := Nat.ne_of_lt hrd'.lt
                clear hWb hrd hrd' hb
                have e0 : (x == 0) = false := by simpa using h0
                have e1 : (x == 1) = false := by simpa using h1
                have e2 : (x == 2) = false := by simpa using h2
                have hrdE := hrdW
                have hrdE' := hrdW'
                have hbE := hbW
                have hsE := hs0
                have hlE := hrl
                clear hrdW hrdW' hbW h0 h1 h2
                generalize hWW : wr.alloc (.cells #[.int .i64 x, .int .i64 y] 42) = W0 at *
                have HWW := Lib.hid hWW
                clear hWW
                go_wp2_with fail
                rw [HWW.out]
                clear hx' hy'
                obtain ⟨_, _, ae, ne, ce, hge, hrde, _⟩ := id hrdE'
                have cE : W0.cell? ⟨r', 0, none⟩ = some (.slice ae ne ce) := Rdr.cell (hd := []) hge
                have hne := hrde.len
                subst hne
                have HE1 := Lib.hid hrdE
                have HE2 := Lib.hid hrdE'
                have HE3 := Lib.hid hbE
                clear hrdE hrdE' hbE hge hrde
                have hleft := fun nq => Left_same q r _ W0 nq HE1.out
                go_quiet ((go_at_call 22; exact Calls.quiet_of_same (hleft _)))
                go_wp2_with fail
                go_roundw
                case rel => exact ⟨j + 1, _, by omega, by go_num, hlE, HE1.out.kept (Nat.le_refl _) (fun _ _ => rfl) rfl, HE2.out.kept (Nat.le_refl _) (fun _ _ => rfl) rfl, hsE, below_drewN HE3.out _⟩
                case measure => simp [intOf]; omega
        · obtain rfl : j = m := by omega
          clear hlt hrd hrd'
          go_wp2_with fail
          refine (awake_any _).mono ?_
          rintro e w4 ⟨rfl, hb4⟩
          go_wp2_with fail
          go_ret
          exact ⟨rfl, hb.trans (hb4.mono hb.size)⟩

theorem bytes1F : 1 ≤ Try.prog.bytesOf 5 := of_decide_eq_true (by kernel_rfl)
theorem cells1F : Try.prog.cellsOf 5 = 1 := by kernel_rfl
theorem bytesAF : 1 ≤ Try.prog.bytesOf 42 := of_decide_eq_true (by kernel_rfl)
theorem wireReads_full_lifted (os : Os) (started : os.Started) (H : Type) (enc : TypeId × Value → H) :
    ReturnsInHanded {} Try.checked os 4 .any (Rows.wireReadsSpec.pre6 enc Try.prog Try.f4 Rows.wireReadsRow.domain false) (Rows.wireReadsSpec.post enc Try.prog Try.f4 false true false false) := by
  refine returnsInHanded_of_change_sized (C := Try.checked) ownKnobs started (by kernel_rfl) Try.func4
    (ChangeSpec.witness6 (enc := enc) (C := Try.checked) false ⟨#[], #[.slice none 0 0, .slice none 0 0], []⟩ 8 (by kernel_rfl) (by kernel_rfl) (by kernel_rfl) (by kernel_rfl)) ?_
  intro W base args ds gs before hval hW hcond hsz _
  have hW' := hW
  obtain ⟨p, q, hA0, hV, rfl, _, _⟩ := hW
  have hA : DataW.TrodAll enc Try.prog W 0 (fun _ => true) true Try.f4.params.toList args.toList ds p := hA0
  have hval' := hval
  rw [Try.params4] at hA hval' hsz
  obtain ⟨v0, v1, d0, d1, p0, p1, hargs, rfl, rfl, h0, h1⟩ := trodAll_two hA
  obtain rfl : args = #[v0, v1] := by cases args; simp_all
  obtain ⟨rfl, rfl⟩ := trodVars_none hV
  obtain ⟨a0, l0, c0, rfl⟩ := okWide_slice Try.underlying22 (hval' 0 22 v0 rfl rfl)
  obtain ⟨f0, hf0⟩ := h0
  obtain ⟨a, n, cap, xs, e0, hr, hn⟩ := rd_of_cells_d bt cells1F hf0 (fun _ => rfl)
  cases e0
  have b0 := dlen_reach hsz (j := 0) (t := 22) (e := 5) rfl rfl Try.underlying22 bytes1F
  simp only [reachBytes] at b0
  simp only at hn
  obtain ⟨aX, nX, cX, rfl⟩ := okWide_slice Try.underlying36 (hval' 1 36 v1 rfl rfl)
  obtain ⟨fu, hf1⟩ := h1
  have hnX := slice_len_d Try.underlying36 hf1
  have b1 := dlen_reach hsz (j := 1) (t := 36) (e := 42) rfl rfl Try.underlying36 bytesAF
  simp only [reachBytes] at b1
  simp only at hnX
  obtain ⟨a2, m, cap2, e2, hmc, hmn, hmb, hcells⟩ := structs_of_cells Try.underlying36 Try.underlying42 (by kernel_rfl) (by kernel_rfl) (by decide) hf1
  cases e2
  refine (Reads_any _ aX _ _ nX cX xs W (by omega) (by omega) hr hmc ?_).mono fun e W' ⟨he, hw⟩ => ?_
  · intro h0
    obtain ⟨b, off, e, hlt, hall⟩ := hcells h0
    refine ⟨b, off, e, hlt, fun i hi => ?_⟩
    obtain ⟨u, z, mm, c0, t0⟩ := hall i hi 0 _ rfl
    obtain ⟨u', z', mm', c1, t1⟩ := hall i hi 1 _ rfl
    obtain ⟨x, rfl, _⟩ := int_of_cells Try.underlying3 t0
    obtain ⟨y, rfl, _⟩ := int_of_cells Try.underlying3 t1
    exact ⟨x, y, c0, by rw [← Nat.add_assoc] at c1; exact c1⟩
  subst he
  exact ⟨_, rfl, law_post laidOuts (by kernel_rfl) rfl Try.underlying4 rfl hW' hw rfl⟩

theorem wireReads_full : Rows.WireReadsSaid :=
  OpenClaim.holds_of_wide 4 Try.f4 rfl rfl rfl rfl rfl rfl rfl ⟨rfl, rfl, rfl, rfl, rfl⟩ rfl rfl rfl rfl rfl (by kernel_rfl) Try.func4 (by kernel_rfl)
    (of_decide_eq_true (by kernel_rfl)) (by unfold Func.isWrapper; first | (rw [if_pos (by decide +kernel)]; kernel_rfl) | (rw [if_neg (by decide +kernel)]; exact ⟨rfl, rfl⟩))
    (fun os started H enc _ => wireReads_full_lifted os started H enc)
end Go.Proofs.Ytfcncojellhloaa
