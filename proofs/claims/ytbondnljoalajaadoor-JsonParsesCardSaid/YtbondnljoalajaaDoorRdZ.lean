/-
  Layer 4: the document's reader: values. Conditions: those in each statement.
-/
import Derived.Test.YtbondnljoalajaaDoorRdX
import Derived.Test.YtbondnljoalajaaDoorRdZs
namespace Go.Proofs.YtbondnljoalajaaDoor
open Go.RowKit

structure InvRow5 (W0 : World) (R : Nat) (bs : List UInt8) (a : Option Addr) (c q most g5 kd m : Nat) (bad : Bool) (most0 : Nat) (lv kv : Value) (xs : List Value) (L : Nat → Bool) (v120 v121 v122 v123 v124 v125 v126 v127 v128 : Value) (wx : World) : Prop where
  t0 : L 0 = true → v120 = .pointer (some ⟨g5, 3, none⟩)
  t1 : L 1 = true → v121 = lv
  t2 : L 2 = true → v122 = .pointer (some ⟨R, 0, none⟩)
  t3 : L 3 = true → v123 = .int .i64 (most0 : Int)
  t4 : L 4 = true → v124 = .int .i64 ((most0 : Int) - 1)
  t5 : L 5 = true → ∃ (k1 : Int) (s1 : ByteArray) (n1 : Int) (a1 : Option Addr) (l1 c1 : Nat) (b1 : Option Addr) (m1 d1 : Nat), v125 = .agg #[.int .i64 k1, .string s1, .int .u64 n1, .slice a1 l1 c1, .slice b1 m1 d1] ∧ VD R bs a c q most bad (fun x => W0.heap.size ≤ x ∧ x < wx.heap.size ∧ (L 7 = true → Value.ownBlock v127 ≠ some x)) [.int .i64 k1, .string s1, .int .u64 n1, .slice a1 l1 c1, .slice b1 m1 d1] wx
  t6 : L 6 = true → ∃ NB, v126 = .slice (some ⟨NB, 0, none⟩) 1 1 ∧ (L 7 = false → ∃ cells : List Value, v125 = .agg cells.toArray ∧ cells.length = 5 ∧ (∀ u ∈ cells, u.oneCell' = true) ∧ Arr wx NB 26 cells)
  t7 : L 7 = true → ∃ a3 c3 cells, v127 = .slice a3 (m + 1) c3 ∧ v125 = .agg (List.toArray cells) ∧ cells.length = 5 ∧ wx.ownsRow (g5 + 1) 26 5 v127 (m + 1) (xs ++ cells) ∧ (∀ x, Value.ownBlock v127 = some x → Value.ownBlock lv = some x ∨ W0.heap.size ≤ x)
  t8 : L 8 = true → v128 = .pointer (some ⟨g5, 3, none⟩)
  tch : Tch W0 wx (R :: g5 :: lv.ownBlock.toList)
  aO : ∃ curO, Arr wx g5 26 curO ∧ (L 9 = false → curO = [.int .i64 (kd : Int), .string ⟨#[]⟩, .int .u64 0, lv, kv]) ∧ (L 9 = true → curO = [.int .i64 (kd : Int), .string ⟨#[]⟩, .int .u64 0, v127, kv])
  n7 : L 7 = false → wx.ownsRow (g5 + 1) 26 5 lv m xs
  g7 : L 7 = false → W0.grownBy wx (some R)
  r5 : L 5 = false → RefAt wx R bs a c q bad
structure InvRow6 (W0 : World) (R : Nat) (bs : List UInt8) (a : Option Addr) (c q most g5 kd m : Nat) (bad : Bool) (most0 : Nat) (lv kv : Value) (xs : List Value) (L : Nat → Bool) (v120 v121 v122 v123 v124 v125 v126 v127 v128 : Value) (wx : World) : Prop where
  t0 : L 0 = true → v120 = .pointer (some ⟨g5, 3, none⟩)
  t1 : L 1 = true → v121 = lv
  t2 : L 2 = true → v122 = .pointer (some ⟨R, 0, none⟩)
  t3 : L 3 = true → v123 = .int .i64 (most0 : Int)
  t4 : L 4 = true → v124 = .int .i64 ((most0 : Int) - 1)
  t5 : L 5 = true → ∃ (k1 : Int) (s1 : ByteArray) (n1 : Int) (a1 : Option Addr) (l1 c1 : Nat) (b1 : Option Addr) (m1 d1 : Nat), v125 = .agg #[.int .i64 k1, .string s1, .int .u64 n1, .slice a1 l1 c1, .slice b1 m1 d1] ∧ VD R bs a c q most bad (fun x => W0.heap.size ≤ x ∧ x < wx.heap.size ∧ (L 7 = true → Value.ownBlock v127 ≠ some x)) [.int .i64 k1, .string s1, .int .u64 n1, .slice a1 l1 c1, .slice b1 m1 d1] wx
  t6 : L 6 = true → ∃ NB, v126 = .slice (some ⟨NB, 0, none⟩) 1 1 ∧ (L 7 = false → ∃ cells : List Value, v125 = .agg cells.toArray ∧ cells.length = 5 ∧ (∀ u ∈ cells, u.oneCell' = true) ∧ Arr wx NB 26 cells)
  t7 : L 7 = true → ∃ a3 c3 cells, v127 = .slice a3 (m + 1) c3 ∧ v125 = .agg (List.toArray cells) ∧ cells.length = 5 ∧ wx.ownsRow (g5 + 1) 26 5 v127 (m + 1) (xs ++ cells) ∧ (∀ x, Value.ownBlock v127 = some x → Value.ownBlock lv = some x ∨ W0.heap.size ≤ x)
  t8 : L 8 = true → v128 = .pointer (some ⟨g5, 3, none⟩)
  tch : Tch W0 wx (R :: g5 :: lv.ownBlock.toList)
  aO : ∃ curO, Arr wx g5 26 curO ∧ (L 9 = false → curO = [.int .i64 (kd : Int), .string ⟨#[]⟩, .int .u64 0, lv, kv]) ∧ (L 9 = true → curO = [.int .i64 (kd : Int), .string ⟨#[]⟩, .int .u64 0, v127, kv])
  n7 : L 7 = false → wx.ownsRow (g5 + 1) 26 5 lv m xs
  g7 : L 7 = false → W0.grownBy wx (some R)
  r5 : L 5 = false → RefAt wx R bs a c q bad
structure InvKey (W0 : World) (R : Nat) (bs : List UInt8) (a : Option Addr) (c q g5 : Nat) (lv kv : Value) (ks : List (List UInt8)) (L : Nat → Bool) (v109 v110 v111 v112 v113 v114 v115 : Value) (wx : World) : Prop where
  t0 : L 0 = true → v109 = .pointer (some ⟨g5, 4, none⟩)
  t1 : L 1 = true → v110 = kv
  t2 : L 2 = true → v111 = .pointer (some ⟨R, 0, none⟩)
  t3 : L 3 = true → ∃ s, v112 = .string (bstr s) ∧ SD R bs a c q s wx
  t4 : L 4 = true → ∃ NB, v113 = .slice (some ⟨NB, 0, none⟩) 1 1 ∧ (L 5 = false → ∃ s, v112 = .string (bstr s) ∧ wx.cell? ⟨NB, 0, none⟩ = some (.string (bstr s)))
  t5 : L 5 = true → ∃ a3 c3 s, v114 = .slice a3 (ks ++ [s]).length c3 ∧ v112 = .string (bstr s) ∧ wx.ownsRow (g5 + 1) 9 1 v114 (ks ++ [s]).length ((ks ++ [s]).map fun k => Value.string (bstr k)) ∧ (∀ x, Value.ownBlock v114 = some x → Value.ownBlock kv = some x ∨ W0.heap.size ≤ x)
  t6 : L 6 = true → v115 = .pointer (some ⟨g5, 4, none⟩)
  tch : Tch W0 wx (R :: g5 :: kv.ownBlock.toList)
  aO : ∃ curO, Arr wx g5 26 curO ∧ (L 7 = false → curO = [.int .i64 6, .string ⟨#[]⟩, .int .u64 0, lv, kv]) ∧ (L 7 = true → curO = [.int .i64 6, .string ⟨#[]⟩, .int .u64 0, lv, v114])
  n5 : L 5 = false → wx.ownsRow (g5 + 1) 9 1 kv ks.length (ks.map fun k => Value.string (bstr k))
  gf : L 5 = false → W0.grownBy wx (some R)
  r3 : L 3 = false → RefAt wx R bs a c q false
set_option maxRecDepth 100000 in
set_option maxHeartbeats 25600000 in
theorem rValue_any : ∀ (most : Nat), most ≤ 8 → ∀ (R : Nat) (bs : List UInt8) (a : Option Addr) (c k : Nat) (bad : Bool) (w : World), RefAt w R bs a c k bad → bs.length ≤ 1048576 → R < w.heap.size →
    Calls Tryd.prog 30 #[.pointer (some ⟨R, 0, none⟩), .int .i64 (most : Int)] w (ValP R bs a c k bad most w) := by
  intro most
  induction most using Nat.strongRecOn with
  | _ most ih =>
    intro hmost R bs a c k bad w h hlim hR
    have hBL := Lib.hid (fun W (hb : Below w.heap.size w W) => rBlanks_any R bs a c k bad W (h.below hb hR))
    have hle := h.text.le
    have HLE := Lib.hid hle
    clear h hle
    go_enter Tryd.func30, Tryd.ntmps30
    go_upto_region 2 with (first
      | ((with_reducible show wpList _ _ _ (⟨some 4, .alloc _, _, _, _, _⟩ :: _) _ _); refine wl_alloc rfl 26 rfl zC 5 infoV5 ?_; intro w1 hA1 hb1 hs1)
      | (go_at_call 31; refine (hBL.out _ hb1).mono ?_; rintro e w2 ⟨rfl, hg2, k2, hk2, hr2, hd2⟩))
    have GB2 := Lib.hid (gb_trans (gb_of_below hb1) hg2)
    have A4 := Lib.hid (hA1.grown hg2 (by intro e; injection e with e; omega))
    have HR2 := Lib.hid hr2
    have HK2 := Lib.hid hk2
    have HD2 := Lib.hid hd2
    have hsz : Hid (w.heap.size < w2.heap.size) := by show _ < _; have := hg2.size; omega
    have c0 := (hr2.arr.cell 0).trans (show _ = some (Value.slice a bs.length c) from rfl)
    have c1 := (hr2.arr.cell 1).trans (show _ = some (Value.int .i64 (k2 : Int)) from rfl)
    have c2 := (hr2.arr.cell 2).trans (show _ = some (Value.bool bad) from rfl)
    have f2 := hr2.arr.frozen 2
    have hat := hr2.at_
    have hk0 : (0 : Int) ≤ (k2 : Int) := by omega
    clear hA1 hb1 hs1 hg2 hr2 hk2 hd2 hBL
    go_simp
    obtain ⟨g4, hg4⟩ : ∃ g, g = w.heap.size := ⟨_, rfl⟩
    by_cases hbk : bad = true ∨ bs.length ≤ k2
    · have hend : Hid (∀ W, w2.grownBy W (some R) → RefAt W R bs a c k2 true → ∀ W', W.grownBy W' (some w.heap.size) → ValP R bs a c k bad most w (.returned (.agg (List.toArray zC))) W') := fun W hW hRW W' hW' =>
        ⟨gb_above (gb_trans GB2.out hW) hW' (Nat.le_refl _), JV.zero, zC, k2, true, rfl, HK2.out, hRW.past hW' hR, sv_plain (s := []) (n := 0) (by decide), (fun x r hb he => by
          rcases hbk with h | h
          · rw [h] at hb; cases hb
          · rw [val_eq, ← HD2.out, List.drop_of_length_le h] at he
            cases he), fun _ => rfl, fun _ => rfl⟩
      have hca : bad = true ∨ (bad = false ∧ bs.length ≤ k2) := by cases bad with | true => exact .inl rfl | false => exact .inr ⟨rfl, by rcases hbk with h | h; cases h; exact h⟩
      clear hbk
      rcases hca with rfl | ⟨rfl, hkl⟩
      · go_region
        all_goals
          have c2 : w2.drew.cell? ⟨R, 2, none⟩ = some (Value.bool true) := c2
          have f2 : w2.drew.frozen? ⟨R, 2, none⟩ = false := f2
          have hrb := Lib.hid (HR2.out.drew.bad true)
          have hgb := Lib.hid (gb_trans (gb_drew (World.grownBy.refl w2 (some R))) (gb_cellAt w2.drew R 2 (.bool true)))
          have hA4 := A4.out.drew.grown (gb_cellAt w2.drew R 2 (.bool true)) (by intro e; injection e with e; omega)
          go_wp2_with (first
            | ((with_reducible show wpList _ _ _ (⟨some 28, .build _ _, _, _, _, _⟩ :: _) _ _); refine wpList_buildTo rfl 26 _ rfl (some 28) rfl zC.toArray (by exact builtV0) ?_)
            | ((with_reducible show wpList _ _ _ (⟨none, .store _ (.tmp 4) _, _, _, _, _⟩ :: _) _ _); refine wl_store rfl 26 _ _ rfl w.heap.size 0 rfl zC rfl 26 zC hA4 (by kernel_rfl) (by simp [zC]) (by simp [zC, Value.oneCell']) ?_; intro w9 hR9 hg9 hs9))
          rw [whole_store zC zC rfl] at hR9
          exact end_cell rfl w.heap.size 26 zC _ rfl hR9 Tryd.underlying26 rfl (by kernel_rfl) rfl (hend.out _ hgb.out hrb.out _ hg9)
      · have hc : (k2 : Int) ≥ (bs.length : Int) := by omega
        clear hkl
        go_region
        all_goals
          have c2 : w2.drew.cell? ⟨R, 2, none⟩ = some (Value.bool false) := c2
          have f2 : w2.drew.frozen? ⟨R, 2, none⟩ = false := f2
          have hrb := Lib.hid (HR2.out.drew.bad true)
          have hgb := Lib.hid (gb_trans (gb_drew (World.grownBy.refl w2 (some R))) (gb_cellAt w2.drew R 2 (.bool true)))
          have hA4 := A4.out.drew.grown (gb_cellAt w2.drew R 2 (.bool true)) (by intro e; injection e with e; omega)
          go_wp2_with (first
            | ((with_reducible show wpList _ _ _ (⟨some 28, .build _ _, _, _, _, _⟩ :: _) _ _); refine wpList_buildTo rfl 26 _ rfl (some 28) rfl zC.toArray (by exact builtV0) ?_)
            | ((with_reducible show wpList _ _ _ (⟨none, .store _ (.tmp 4) _, _, _, _, _⟩ :: _) _ _); refine wl_store rfl 26 _ _ rfl w.heap.size 0 rfl zC rfl 26 zC hA4 (by kernel_rfl) (by simp [zC]) (by simp [zC, Value.oneCell']) ?_; intro w9 hR9 hg9 hs9))
          rw [whole_store zC zC rfl] at hR9
          exact end_cell rfl w.heap.size 26 zC _ rfl hR9 Tryd.underlying26 rfl (by kernel_rfl) rfl (hend.out _ hgb.out hrb.out _ hg9)
    · have hb0 : bad = false := by cases bad with | true => exact absurd (.inl rfl) hbk | false => rfl
      subst hb0
      have hlt : k2 < bs.length := by
        by_cases h : k2 < bs.length
        · exact h
        · exact absurd (.inr (by omega)) hbk
      have hc : ¬ (k2 : Int) ≥ (bs.length : Int) := by omega
      have hkn : (k2 : Int) < (bs.length : Int) := by omega
      obtain ⟨b, off, rfl, hbR, hbw, hcell⟩ := HR2.out.text.mem (by omega)
      have ck := hcell k2 hlt
      have hkc : k2 < c := by have := HLE.out; omega
      have hdr := drop_cons hlt
      obtain ⟨x, hx⟩ : ∃ x, x = bs.getD k2 0 := ⟨_, rfl⟩
      rw [← hx] at ck hdr
      have HX : Hid (bs.getD k2 0 = x) := hx.symm
      have HDR := Lib.hid hdr
      have HLT := Lib.hid hlt
      clear hbk hcell hx hlt hdr
      go_region
      all_goals
        have c0 : w2.drew.cell? ⟨R, 0, none⟩ = some (Value.slice (some ⟨b, off, none⟩) bs.length c) := c0
        have c1 : w2.drew.cell? ⟨R, 1, none⟩ = some (Value.int .i64 (k2 : Int)) := c1
        have ck : w2.drew.cell? ⟨b, off + k2, none⟩ = some (.int .u8 (x.toNat : Int)) := ck
        clear c2 f2
        go_upto_region 6 with (first
          | ((with_reducible show wpList _ _ _ (⟨some 29, .build _ _, _, _, _, _⟩ :: _) _ _); refine wpList_buildTo rfl 26 _ rfl (some 29) rfl zC.toArray (by exact builtV0) ?_)
          | ((with_reducible show wpList _ _ _ (⟨some 5, .alloc _, _, _, _, _⟩ :: _) _ _); refine wl_alloc rfl 26 rfl zC 5 infoV5 ?_; intro w3 hA3 hb3 hs3)
          | ((with_reducible show wpList _ _ _ (⟨none, .store _ (.tmp 5) _, _, _, _, _⟩ :: _) _ _); refine wl_store rfl 26 _ _ rfl w2.drew.heap.size 0 rfl zC rfl 26 zC hA3 (by kernel_rfl) (by simp [zC]) (by simp [zC, Value.oneCell']) ?_; intro w4 hA5 hg4' hs4))
        rw [whole_store zC zC rfl] at hA5
        have b24 : Below w2.drew.heap.size w2.drew w4 := hb3.grown hg4' hb3.size (by intro k e; injection e with e; omega)
        have GB4 := Lib.hid (gb_trans (gb_drew GB2.out) (gb_of_below (R := R) (show Below w2.drew.heap.size w2.drew w4 from b24)))
        have HR4 := Lib.hid (HR2.out.drew.below b24 (show R < w2.drew.heap.size by have := hsz.out; show R < w2.heap.size; omega))
        have c0 := (HR4.out.arr.cell 0).trans (show _ = some (Value.slice (some ⟨b, off, none⟩) bs.length c) from rfl)
        have c1 := (HR4.out.arr.cell 1).trans (show _ = some (Value.int .i64 (k2 : Int)) from rfl)
        have ck : w4.cell? ⟨b, off + k2, none⟩ = some (.int .u8 (x.toNat : Int)) := (b24.cell (p := ⟨b, off + k2, none⟩) hbw).trans ck
        have S4 := A4.out.drew.kept b24
        have hA5 : Arr w4 w2.heap.size 26 zC := hA5
        obtain ⟨g5, hg5⟩ : ∃ g, g = w2.heap.size := ⟨_, rfl⟩
        have H45 : Hid (w.heap.size < g5) := by show _ < _; rw [hg5]; exact hsz.out
        go_simp
        rw [← hg5] at hA5 ⊢
        clear hA3 hb3 hs3 hg4' hs4 b24 hg5 A4
        go_region
        all_goals
          have HR5 := Lib.hid HR4.out.drew
          have GB5 := Lib.hid (gb_drew GB4.out)
          have A4 := Lib.hid S4.drew
          have A5 := Lib.hid hA5.drew
          clear c0 c1 ck HR4 GB4 S4 hA5
          generalize w4.drew = W5 at *
          have hk := sign_kinds x
          rcases hk with rfl | rfl | rfl | rfl | rfl | rfl | hk
          · have hval : Hid (valF most (bs.drop k) = (mustF [110, 117, 108, 108] (bs.drop k2)).map fun q => (JV.mk 0 [] 0 [] [], q)) := by
              show _ = _
              rw [val_eq, ← HD2.out, HDR.out]
              rfl
            clear HDR
            have A6 := A5
            have HR6 := HR5
            have GB6 := GB5
            have S6 := A4
            generalize W5 = W6 at *
            clear A5 HR5 GB5 A4
            go_upto_region 45 with (go_at_call 53; refine (rMust_any R [110, 117, 108, 108] bs _ c k2 false W6 HR6.out (by simp)).mono ?_; rintro e w7 ⟨rfl, hg7, k7, bad7, hk7, hr7, hs7, hz7⟩)
            have HE : Hid (ValE R bs (some ⟨b, off, none⟩) c k most w g5 (JV.mk 0 [] 0 [] []) [.int .i64 0, .string ⟨#[]⟩, .int .u64 0, .slice none 0 0, .slice none 0 0] k7 bad7 w7) := {
              gb := gb_trans GB6.out hg7
              res := S6.out.grown hg7 (by intro e; injection e with e; omega)
              out := A6.out.grown hg7 (by intro e; injection e with e; have := H45.out; omega)
              ne := H45.out
              ref := hr7
              le := by have := HK2.out; omega
              sv := sv_plain (s := []) (n := 0) (by decide)
              ok := fun x r he => by
                rw [hval.out] at he
                cases hm : mustF [110, 117, 108, 108] (bs.drop k2) with
                | none => rw [hm] at he; cases he
                | some q => have hh := hs7 q hm; rw [hm] at he; cases he; exact ⟨rfl, hh⟩
              no := fun he => by
                rw [hval.out] at he
                cases hm : mustF [110, 117, 108, 108] (bs.drop k2) with
                | none => exact hz7 hm
                | some q => rw [hm] at he; cases he }
            clear hg7 hr7 hs7 hz7 hk7 A6 S6 GB6 HR6
            have hO := HE.out.out
            have hS := HE.out.res
            go_wp2_with (first
              | ((with_reducible show wpList _ _ _ (⟨some 137, .load _ _, _, _, _, _⟩ :: _) _ _); refine wl_load rfl 26 _ rfl g5 0 rfl 26 [.int .i64 0, .string ⟨#[]⟩, .int .u64 0, .slice none 0 0, .slice none 0 0] [.int .i64 0, .string ⟨#[]⟩, .int .u64 0, .slice none 0 0, .slice none 0 0] hO (fun j v h => (by rw [Nat.zero_add]; exact h)) _ Tryd.underlying26 rfl (by kernel_rfl) ?_)
              | ((with_reducible show wpList _ _ _ (⟨none, .store _ (.tmp 4) _, _, _, _, _⟩ :: _) _ _); refine wl_store rfl 26 _ _ rfl w.heap.size 0 rfl [.int .i64 0, .string ⟨#[]⟩, .int .u64 0, .slice none 0 0, .slice none 0 0] rfl 26 zC hS (by kernel_rfl) (by simp [zC]) (by simp [Value.oneCell']) ?_; intro w9 hR9 hg9 hs9))
            rw [whole_store zC [.int .i64 0, .string ⟨#[]⟩, .int .u64 0, .slice none 0 0, .slice none 0 0] rfl] at hR9
            exact end_cell rfl w.heap.size 26 _ _ rfl hR9 Tryd.underlying26 rfl (by kernel_rfl) rfl (HE.out.fin hR hg9)
          · have hval : Hid (valF most (bs.drop k) = (mustF [102, 97, 108, 115, 101] (bs.drop k2)).map fun q => (JV.mk 1 [] 0 [] [], q)) := by
              show _ = _
              rw [val_eq, ← HD2.out, HDR.out]
              rfl
            clear HDR
            have c50 := (A5.out.cell 0).trans (show _ = some (Value.int .i64 0) from rfl)
            have f50 := A5.out.frozen 0
            go_upto_region 13 with fail
            have hset := gb_cellAt W5 g5 0 (.int .i64 1)
            have A6 := Lib.hid (A5.out.store 0 (.int .i64 1))
            have HR6 := Lib.hid (HR5.out.past hset (by have := H45.out; omega))
            have GB6 := Lib.hid (gb_above GB5.out hset (by have := H45.out; omega))
            have S6 := Lib.hid (A4.out.grown hset (by intro e; injection e with e; have := H45.out; omega))
            generalize W5.setCell ⟨g5, 0, none⟩ (.int .i64 1) = W6 at *
            clear c50 f50 hset A5 HR5 GB5 A4
            go_upto_region 45 with (go_at_call 53; refine (rMust_any R [102, 97, 108, 115, 101] bs _ c k2 false W6 HR6.out (by simp)).mono ?_; rintro e w7 ⟨rfl, hg7, k7, bad7, hk7, hr7, hs7, hz7⟩)
            have HE : Hid (ValE R bs (some ⟨b, off, none⟩) c k most w g5 (JV.mk 1 [] 0 [] []) [.int .i64 1, .string ⟨#[]⟩, .int .u64 0, .slice none 0 0, .slice none 0 0] k7 bad7 w7) := {
              gb := gb_trans GB6.out hg7
              res := S6.out.grown hg7 (by intro e; injection e with e; omega)
              out := A6.out.grown hg7 (by intro e; injection e with e; have := H45.out; omega)
              ne := H45.out
              ref := hr7
              le := by have := HK2.out; omega
              sv := sv_plain (s := []) (n := 0) (by decide)
              ok := fun x r he => by
                rw [hval.out] at he
                cases hm : mustF [102, 97, 108, 115, 101] (bs.drop k2) with
                | none => rw [hm] at he; cases he
                | some q => have hh := hs7 q hm; rw [hm] at he; cases he; exact ⟨rfl, hh⟩
              no := fun he => by
                rw [hval.out] at he
                cases hm : mustF [102, 97, 108, 115, 101] (bs.drop k2) with
                | none => exact hz7 hm
                | some q => rw [hm] at he; cases he }
            clear hg7 hr7 hs7 hz7 hk7 A6 S6 GB6 HR6
            have hO := HE.out.out
            have hS := HE.out.res
            go_wp2_with (first
              | ((with_reducible show wpList _ _ _ (⟨some 137, .load _ _, _, _, _, _⟩ :: _) _ _); refine wl_load rfl 26 _ rfl g5 0 rfl 26 [.int .i64 1, .string ⟨#[]⟩, .int .u64 0, .slice none 0 0, .slice none 0 0] [.int .i64 1, .string ⟨#[]⟩, .int .u64 0, .slice none 0 0, .slice none 0 0] hO (fun j v h => (by rw [Nat.zero_add]; exact h)) _ Tryd.underlying26 rfl (by kernel_rfl) ?_)
              | ((with_reducible show wpList _ _ _ (⟨none, .store _ (.tmp 4) _, _, _, _, _⟩ :: _) _ _); refine wl_store rfl 26 _ _ rfl w.heap.size 0 rfl [.int .i64 1, .string ⟨#[]⟩, .int .u64 0, .slice none 0 0, .slice none 0 0] rfl 26 zC hS (by kernel_rfl) (by simp [zC]) (by simp [Value.oneCell']) ?_; intro w9 hR9 hg9 hs9))
            rw [whole_store zC [.int .i64 1, .string ⟨#[]⟩, .int .u64 0, .slice none 0 0, .slice none 0 0] rfl] at hR9
            exact end_cell rfl w.heap.size 26 _ _ rfl hR9 Tryd.underlying26 rfl (by kernel_rfl) rfl (HE.out.fin hR hg9)
          · have hval : Hid (valF most (bs.drop k) = (mustF [116, 114, 117, 101] (bs.drop k2)).map fun q => (JV.mk 2 [] 0 [] [], q)) := by
              show _ = _
              rw [val_eq, ← HD2.out, HDR.out]
              rfl
            clear HDR
            have c50 := (A5.out.cell 0).trans (show _ = some (Value.int .i64 0) from rfl)
            have f50 := A5.out.frozen 0
            go_upto_region 16 with fail
            have hset := gb_cellAt W5 g5 0 (.int .i64 2)
            have A6 := Lib.hid (A5.out.store 0 (.int .i64 2))
            have HR6 := Lib.hid (HR5.out.past hset (by have := H45.out; omega))
            have GB6 := Lib.hid (gb_above GB5.out hset (by have := H45.out; omega))
            have S6 := Lib.hid (A4.out.grown hset (by intro e; injection e with e; have := H45.out; omega))
            generalize W5.setCell ⟨g5, 0, none⟩ (.int .i64 2) = W6 at *
            clear c50 f50 hset A5 HR5 GB5 A4
            go_upto_region 45 with (go_at_call 53; refine (rMust_any R [116, 114, 117, 101] bs _ c k2 false W6 HR6.out (by simp)).mono ?_; rintro e w7 ⟨rfl, hg7, k7, bad7, hk7, hr7, hs7, hz7⟩)
            have HE : Hid (ValE R bs (some ⟨b, off, none⟩) c k most w g5 (JV.mk 2 [] 0 [] []) [.int .i64 2, .string ⟨#[]⟩, .int .u64 0, .slice none 0 0, .slice none 0 0] k7 bad7 w7) := {
              gb := gb_trans GB6.out hg7
              res := S6.out.grown hg7 (by intro e; injection e with e; omega)
              out := A6.out.grown hg7 (by intro e; injection e with e; have := H45.out; omega)
              ne := H45.out
              ref := hr7
              le := by have := HK2.out; omega
              sv := sv_plain (s := []) (n := 0) (by decide)
              ok := fun x r he => by
                rw [hval.out] at he
                cases hm : mustF [116, 114, 117, 101] (bs.drop k2) with
                | none => rw [hm] at he; cases he
                | some q => have hh := hs7 q hm; rw [hm] at he; cases he; exact ⟨rfl, hh⟩
              no := fun he => by
                rw [hval.out] at he
                cases hm : mustF [116, 114, 117, 101] (bs.drop k2) with
                | none => exact hz7 hm
                | some q => rw [hm] at he; cases he }
            clear hg7 hr7 hs7 hz7 hk7 A6 S6 GB6 HR6
            have hO := HE.out.out
            have hS := HE.out.res
            go_wp2_with (first
              | ((with_reducible show wpList _ _ _ (⟨some 137, .load _ _, _, _, _, _⟩ :: _) _ _); refine wl_load rfl 26 _ rfl g5 0 rfl 26 [.int .i64 2, .string ⟨#[]⟩, .int .u64 0, .slice none 0 0, .slice none 0 0] [.int .i64 2, .string ⟨#[]⟩, .int .u64 0, .slice none 0 0, .slice none 0 0] hO (fun j v h => (by rw [Nat.zero_add]; exact h)) _ Tryd.underlying26 rfl (by kernel_rfl) ?_)
              | ((with_reducible show wpList _ _ _ (⟨none, .store _ (.tmp 4) _, _, _, _, _⟩ :: _) _ _); refine wl_store rfl 26 _ _ rfl w.heap.size 0 rfl [.int .i64 2, .string ⟨#[]⟩, .int .u64 0, .slice none 0 0, .slice none 0 0] rfl 26 zC hS (by kernel_rfl) (by simp [zC]) (by simp [Value.oneCell']) ?_; intro w9 hR9 hg9 hs9))
            rw [whole_store zC [.int .i64 2, .string ⟨#[]⟩, .int .u64 0, .slice none 0 0, .slice none 0 0] rfl] at hR9
            exact end_cell rfl w.heap.size 26 _ _ rfl hR9 Tryd.underlying26 rfl (by kernel_rfl) rfl (HE.out.fin hR hg9)
          · have hval : Hid (valF most (bs.drop k) = (stringF (bs.drop k2)).map fun (s, q) => (JV.mk 4 s 0 [] [], q)) := by
              show _ = _
              rw [val_eq, ← HD2.out, HDR.out]
              rfl
            clear HDR
            have c50 := (A5.out.cell 0).trans (show _ = some (Value.int .i64 0) from rfl)
            have f50 := A5.out.frozen 0
            go_upto_region 19 with fail
            have hset := gb_cellAt W5 g5 0 (.int .i64 4)
            have A6 := Lib.hid (A5.out.store 0 (.int .i64 4))
            have HR6 := Lib.hid (HR5.out.past hset (by have := H45.out; omega))
            have GB6 := Lib.hid (gb_above GB5.out hset (by have := H45.out; omega))
            have S6 := Lib.hid (A4.out.grown hset (by intro e; injection e with e; have := H45.out; omega))
            generalize W5.setCell ⟨g5, 0, none⟩ (.int .i64 4) = W6 at *
            clear c50 f50 hset A5 HR5 GB5 A4
            go_upto_region 45 with (go_at_call 54; refine (rStr_any R bs _ c k2 W6 HR6.out hlim (by have := GB6.out.size; omega)).mono ?_; rintro e w7 ⟨hg7, s, k7, bad7, rfl, hk7, hr7, hsl7, hs7, hz7⟩; have A7 := Lib.hid (A6.out.grown hg7 (by intro e; injection e with e; have := H45.out; omega)); have c71 := (A7.out.cell 1).trans (show _ = some (Value.string ⟨#[]⟩) from rfl); have f71 := A7.out.frozen 1)
            have hset := gb_cellAt w7 g5 1 (.string (bstr s))
            have HE : Hid (ValE R bs (some ⟨b, off, none⟩) c k most w g5 (JV.mk 4 s 0 [] []) [.int .i64 4, .string (bstr s), .int .u64 0, .slice none 0 0, .slice none 0 0] k7 bad7 (w7.setCell ⟨g5, 1, none⟩ (.string (bstr s)))) := {
              gb := gb_above (gb_trans GB6.out hg7) hset (by have := H45.out; omega)
              res := (S6.out.grown hg7 (by intro e; injection e with e; omega)).grown hset (by intro e; injection e with e; have := H45.out; omega)
              out := A7.out.store 1 (.string (bstr s))
              ne := H45.out
              ref := hr7.past hset (by have := H45.out; omega)
              le := by have := HK2.out; omega
              sv := sv_plain (s := s) (n := 0) (by decide)
              ok := fun x r he => by
                rw [hval.out] at he
                cases hm : stringF (bs.drop k2) with
                | none => rw [hm] at he; cases he
                | some q => obtain ⟨s0, r0⟩ := q; obtain ⟨e1, e2, e3⟩ := hs7 s0 r0 hm; rw [hm] at he; cases he; exact ⟨by rw [e1], e2, e3⟩
              no := fun he => by
                rw [hval.out] at he
                cases hm : stringF (bs.drop k2) with
                | none => exact hz7 hm
                | some q => rw [hm] at he; cases he }
            generalize w7.setCell ⟨g5, 1, none⟩ (.string (bstr s)) = w8 at *
            clear hg7 hr7 hs7 hz7 hk7 hsl7 A6 A7 S6 GB6 HR6 c71 f71 hset
            have hO := HE.out.out
            have hS := HE.out.res
            go_wp2_with (first
              | ((with_reducible show wpList _ _ _ (⟨some 137, .load _ _, _, _, _, _⟩ :: _) _ _); refine wl_load rfl 26 _ rfl g5 0 rfl 26 [.int .i64 4, .string (bstr s), .int .u64 0, .slice none 0 0, .slice none 0 0] [.int .i64 4, .string (bstr s), .int .u64 0, .slice none 0 0, .slice none 0 0] hO (fun j v h => (by rw [Nat.zero_add]; exact h)) _ Tryd.underlying26 rfl (by kernel_rfl) ?_)
              | ((with_reducible show wpList _ _ _ (⟨none, .store _ (.tmp 4) _, _, _, _, _⟩ :: _) _ _); refine wl_store rfl 26 _ _ rfl w.heap.size 0 rfl [.int .i64 4, .string (bstr s), .int .u64 0, .slice none 0 0, .slice none 0 0] rfl 26 zC hS (by kernel_rfl) (by simp [zC]) (by simp [Value.oneCell']) ?_; intro w9 hR9 hg9 hs9))
            rw [whole_store zC [.int .i64 4, .string (bstr s), .int .u64 0, .slice none 0 0, .slice none 0 0] rfl] at hR9
            exact end_cell rfl w.heap.size 26 _ _ rfl hR9 Tryd.underlying26 rfl (by kernel_rfl) rfl (HE.out.fin hR hg9)
          · have hval : Hid (valF most (bs.drop k) = if most = 0 then none else lsF (most - 1) (bs.drop (k2 + 1))) := by
              show _ = _
              rw [val_eq, ← HD2.out, HDR.out]
              rfl
            clear HDR
            have c50 := (A5.out.cell 0).trans (show _ = some (Value.int .i64 0) from rfl)
            have f50 := A5.out.frozen 0
            go_upto_region 24 with fail
            have hset := gb_cellAt W5 g5 0 (.int .i64 5)
            have A6 := Lib.hid (A5.out.store 0 (.int .i64 5))
            have HR6 := Lib.hid (HR5.out.past hset (by have := H45.out; omega))
            have GB6 := Lib.hid (gb_above GB5.out hset (by have := H45.out; omega))
            have S6 := Lib.hid (A4.out.grown hset (by intro e; injection e with e; have := H45.out; omega))
            generalize W5.setCell ⟨g5, 0, none⟩ (.int .i64 5) = W6 at *
            clear c50 f50 hset A5 HR5 GB5 A4
            obtain ⟨b', off', eb, -, -, hck⟩ := HR6.out.text.mem (by have := HLT.out; omega)
            cases eb
            have ck : W6.cell? ⟨b, off + k2, none⟩ = some (.int .u8 ((91 : UInt8).toNat : Int)) := by have := hck k2 HLT.out; rw [HX.out] at this; exact this
            have c0 := (HR6.out.arr.cell 0).trans (show _ = some (Value.slice (some ⟨b, off, none⟩) bs.length c) from rfl)
            have c1 := (HR6.out.arr.cell 1).trans (show _ = some (Value.int .i64 (k2 : Int)) from rfl)
            clear hck
            go_region
            all_goals
              have HR7 := Lib.hid HR6.out.drew
              have GB7 := Lib.hid (gb_drew GB6.out)
              have S7 := Lib.hid S6.out.drew
              have A7 := Lib.hid A6.out.drew
              clear c0 c1 ck HR6 GB6 S6 A6
              generalize W6.drew = W7 at *
              have A8 := A7
              have HR8 := HR7
              have GB8 := GB7
              have S8 := S7
              generalize W7 = W8 at *
              clear A7 HR7 GB7 S7
              have c1 := (HR8.out.arr.cell 1).trans (show _ = some (Value.int .i64 (k2 : Int)) from rfl)
              have f1 := HR8.out.arr.frozen 1
              have hk1 : (k2 : Int) + 1 ≤ 9223372036854775807 := by omega
              go_upto_region 28 with fail
              have hmv : Hid (RefAt (W8.setCell ⟨R, 1, none⟩ (.int .i64 ((k2 : Int) + 1))) R bs (some ⟨b, off, none⟩) c (k2 + 1) false) := Lib.hid (by have := HR8.out.move (k2 + 1) HLT.out; simpa using this)
              have hset := gb_cellAt W8 R 1 (.int .i64 ((k2 : Int) + 1))
              have A9 : Hid (Arr (W8.setCell ⟨R, 1, none⟩ (.int .i64 ((k2 : Int) + 1))) g5 26 [.int .i64 5, .string ⟨#[]⟩, .int .u64 0, .slice none 0 0, .slice none 0 0]) := A8.out.grown hset (by intro e; injection e with e; have := H45.out; omega)
              have S9 := Lib.hid (S8.out.grown hset (by intro e; injection e with e; omega))
              have GB9 := Lib.hid (gb_trans GB8.out hset)
              generalize W8.setCell ⟨R, 1, none⟩ (.int .i64 ((k2 : Int) + 1)) = W9 at *
              clear c1 f1 hset A8 HR8 GB8 S8 hk1
              by_cases h0 : most = 0
              · have e0 : ((most : Int) == 0) = true := by rw [h0]; rfl
                have c2 := (hmv.out.arr.cell 2).trans (show _ = some (Value.bool false) from rfl)
                have f2 := hmv.out.arr.frozen 2
                have hno : Hid (valF most (bs.drop k) = none) := hval.out.trans (if_pos h0)
                clear h0 hval
                go_upto_region 30 with fail
                have hset := gb_cellAt W9 R 2 (.bool true)
                have HE : Hid (ValE R bs (some ⟨b, off, none⟩) c k most w g5 (JV.mk 5 [] 0 [] []) [.int .i64 5, .string ⟨#[]⟩, .int .u64 0, .slice none 0 0, .slice none 0 0] (k2 + 1) true (W9.setCell ⟨R, 2, none⟩ (.bool true))) := ⟨gb_trans GB9.out hset, S9.out.grown hset (by intro e; injection e with e; omega), A9.out.grown hset (by intro e; injection e with e; have := H45.out; omega), H45.out, hmv.out.bad true, by have := HK2.out; omega, sv_plain (s := []) (n := 0) (by decide), (fun x r he => by rw [hno.out] at he; cases he), fun _ => rfl⟩
                clear c2 f2 hset hmv A9 S9 GB9
                generalize W9.setCell ⟨R, 2, none⟩ (.bool true) = w8 at *
                have hO := HE.out.out
                have hS := HE.out.res
                go_wp2_with (first
                  | ((with_reducible show wpList _ _ _ (⟨some 92, .load _ _, _, _, _, _⟩ :: _) _ _); refine wl_load rfl 26 _ rfl g5 0 rfl 26 [.int .i64 5, .string ⟨#[]⟩, .int .u64 0, .slice none 0 0, .slice none 0 0] [.int .i64 5, .string ⟨#[]⟩, .int .u64 0, .slice none 0 0, .slice none 0 0] hO (fun j v h => (by rw [Nat.zero_add]; exact h)) _ Tryd.underlying26 rfl (by kernel_rfl) ?_)
                  | ((with_reducible show wpList _ _ _ (⟨none, .store _ (.tmp 4) _, _, _, _, _⟩ :: _) _ _); refine wl_store rfl 26 _ _ rfl w.heap.size 0 rfl [.int .i64 5, .string ⟨#[]⟩, .int .u64 0, .slice none 0 0, .slice none 0 0] rfl 26 zC hS (by kernel_rfl) (by simp [zC]) (by simp [Value.oneCell']) ?_; intro w9 hR9 hg9 hs9))
                rw [whole_store zC [.int .i64 5, .string ⟨#[]⟩, .int .u64 0, .slice none 0 0, .slice none 0 0] rfl] at hR9
                exact end_cell rfl w.heap.size 26 _ _ rfl hR9 Tryd.underlying26 rfl (by kernel_rfl) rfl (HE.out.fin hR hg9)
              · have e0 : ((most : Int) == 0) = false := beq_eq_false_iff_ne.2 (by omega)
                have hval2 : Hid (valF most (bs.drop k) = lsF (most - 1) (bs.drop (k2 + 1))) := hval.out.trans (if_neg h0)
                have H0 := Lib.hid h0
                clear hval h0
                go_upto_region 32 with (go_at_call 31; refine (rBlanks_any R bs _ c (k2 + 1) false W9 hmv.out).mono ?_; rintro e w10 ⟨rfl, hg10, k10, hk10, hr10, hd10⟩)
                have M10 : Hid (LsM R bs (some ⟨b, off, none⟩) c k w g5 5 [] [] k10 false (.slice none 0 0) (.slice none 0 0) [] w10) := by
                  have hA := A9.out.grown hg10 (by intro e; injection e with e; have := H45.out; omega)
                  exact ⟨gb_trans GB9.out hg10, S9.out.grown hg10 (by intro e; injection e with e; omega), hA, World.ownsRow_nil _ _ _ _, World.ownsRow_nil _ _ _ _, (fun x hx => by cases hx), hr10, by have := HK2.out; omega, H45.out, lt_of_cell ((hA.cell 0).trans (show _ = some (Value.int .i64 5) from rfl)), fun i v hi => by simp at hi⟩
                have HD10 := Lib.hid hd10
                have hIS : Hid (Calls Tryd.prog 55 #[.pointer (some ⟨R, 0, none⟩), .int .u8 93] w10 _) := rIs_any R 93 bs _ c k10 false w10 hr10
                clear hmv A9 S9 GB9 hg10 hk10 hr10 hd10
                go_upto_region 33 with (go_at_call 55; refine hIS.out.mono ?_; rintro e w11 ⟨hg11, ⟨rfl, hlt11, heq11, hr11⟩ | ⟨rfl, hne11, hr11⟩⟩)
                · have HE := Lib.hid (LsM.fin (most := most) (M10.out.past hR hg11 hr11 (Nat.le_succ _)) (by decide) (.inr ⟨rfl, ls_end hval2.out HD10.out hlt11 heq11⟩))
                  clear hg11 hlt11 heq11 hr11 hIS
                  have hO := HE.out.out
                  have hS := HE.out.res
                  go_wp2_with (first
                    | ((with_reducible show wpList _ _ _ (⟨some 98, .load _ _, _, _, _, _⟩ :: _) _ _); refine wl_load rfl 26 _ rfl g5 0 rfl 26 [.int .i64 5, .string ⟨#[]⟩, .int .u64 0, .slice none 0 0, .slice none 0 0] [.int .i64 5, .string ⟨#[]⟩, .int .u64 0, .slice none 0 0, .slice none 0 0] hO (fun j v h => (by rw [Nat.zero_add]; exact h)) _ Tryd.underlying26 rfl (by kernel_rfl) ?_)
                    | ((with_reducible show wpList _ _ _ (⟨none, .store _ (.tmp 4) _, _, _, _, _⟩ :: _) _ _); refine wl_store rfl 26 _ _ rfl w.heap.size 0 rfl [.int .i64 5, .string ⟨#[]⟩, .int .u64 0, .slice none 0 0, .slice none 0 0] rfl 26 zC hS (by kernel_rfl) (by simp [zC]) (by simp [Value.oneCell']) ?_; intro w9 hR9 hg9 hs9))
                  rw [whole_store zC [.int .i64 5, .string ⟨#[]⟩, .int .u64 0, .slice none 0 0, .slice none 0 0] rfl] at hR9
                  exact end_cell rfl w.heap.size 26 _ _ rfl hR9 Tryd.underlying26 rfl (by kernel_rfl) rfl (HE.out.fin hR hg9)
                · have M11 := Lib.hid (M10.out.past hR hg11 hr11 (Nat.le_refl _))
                  have L11 := Lib.hid (ls_start hval2.out HD10.out hne11)
                  clear hg11 hne11 hr11 hIS M10 HD10 hval2
                  go_loopw [] (fun wr => ∃ (l : List JV) (ks : List (List UInt8)) (q : Nat) (bad : Bool) (lv kv : Value) (xs : List Value), LsM R bs (some ⟨b, off, none⟩) c k w g5 5 l ks q bad lv kv xs wr ∧ LsR bs k most 5 l ks q bad) (fun wr => 2 * (bs.length - (intOf ((wr.cell? ⟨R, 1, none⟩).getD undef)).toNat) + (match wr.cell? ⟨R, 2, none⟩ with | some (.bool true) => 0 | _ => 1))
                  case atStart => exact ⟨[], [], k10, false, _, _, [], M11.out, L11.out⟩
                  case round =>
                    clear M11 L11
                    obtain ⟨l, ks, q, bad, lv, kv, xs, hM, hL⟩ := hrel
                    obtain ⟨al, cl, rfl⟩ := row_n hM.row
                    obtain ⟨ak, ckk, rfl⟩ := row_n hM.keys
                    have HM := Lib.hid hM
                    have HL := Lib.hid hL
                    have c2 := (hM.ref.arr.cell 2).trans (show _ = some (Value.bool bad) from rfl)
                    clear hM hL
                    cases bad with
                    | true =>
                      have HE : Hid (ValE R bs (some ⟨b, off, none⟩) c k most w g5 (JV.mk 5 [] 0 l ks) [.int .i64 5, .string ⟨#[]⟩, .int .u64 0, .slice al l.length cl, .slice ak ks.length ckk] q true wr) := LsM.fin (most := most) HM.out (by decide) (by
                        rcases HL.out with h | h
                        · exact .inl h
                        · cases h.1)
                      have hO := HE.out.out
                      have hS := HE.out.res
                      go_wp2_with (first
                        | ((with_reducible show wpList _ _ _ (⟨some 137, .load _ _, _, _, _, _⟩ :: _) _ _); refine wl_load rfl 26 _ rfl g5 0 rfl 26 [.int .i64 5, .string ⟨#[]⟩, .int .u64 0, .slice al l.length cl, .slice ak ks.length ckk] [.int .i64 5, .string ⟨#[]⟩, .int .u64 0, .slice al l.length cl, .slice ak ks.length ckk] hO (fun j v h => (by rw [Nat.zero_add]; exact h)) _ Tryd.underlying26 rfl (by kernel_rfl) ?_)
                        | ((with_reducible show wpList _ _ _ (⟨none, .store _ (.tmp 4) _, _, _, _, _⟩ :: _) _ _); refine wl_store rfl 26 _ _ rfl w.heap.size 0 rfl [.int .i64 5, .string ⟨#[]⟩, .int .u64 0, .slice al l.length cl, .slice ak ks.length ckk] rfl 26 zC hS (by kernel_rfl) (by simp [zC]) (by simp [Value.oneCell']) ?_; intro w9 hR9 hg9 hs9))
                      rw [whole_store zC [.int .i64 5, .string ⟨#[]⟩, .int .u64 0, .slice al l.length cl, .slice ak ks.length ckk] rfl] at hR9
                      exact end_cell rfl w.heap.size 26 _ _ rfl hR9 Tryd.underlying26 rfl (by kernel_rfl) rfl (HE.out.fin hR hg9)
                    | false =>
                      have hL2 : Hid (l.length ≤ q ∧ ks.length ≤ q ∧ valF most (bs.drop k) = (restF 5 (most - 1) (bs.drop q)).map fun (l2, ks2, r) => (JV.mk 5 [] 0 (l ++ l2) (ks ++ ks2), r)) := by
                        rcases HL.out with h | h
                        · cases h.1
                        · exact h.2
                      clear HL
                      have c50 := (HM.out.out.cell 0).trans (show _ = some (Value.int .i64 5) from rfl)
                      go_upto_region 40 with fail
                      have HQ : Hid (q ≤ q) := Nat.le_refl q
                      have HQL : Hid (l.length ≤ q ∧ ks.length ≤ q + 1) := ⟨hL2.out.1, by have := hL2.out.2.1; omega⟩
                      have HLV := Lib.hid (ls_v hL2.out.2.2)
                      have hCALL : Hid (∀ W, RefAt W R bs (some ⟨b, off, none⟩) c q false → R < W.heap.size → Calls Tryd.prog 30 #[.pointer (some ⟨R, 0, none⟩), .int .i64 ((most : Int) - 1)] W (ValP R bs (some ⟨b, off, none⟩) c q false (most - 1) W)) := fun W hW hRW => by
                        have := ih (most - 1) (by have := H0.out; omega) (by omega) R bs (some ⟨b, off, none⟩) c q false W hW hlim hRW
                        rw [show ((most - 1 : Nat) : Int) = (most : Int) - 1 by have := H0.out; omega] at this
                        exact this
                      have hDEEP : Hid (IntKind.i64.wrap ((most : Int) - 1) = (most : Int) - 1) := by show _ = _; rw [IntKind.wrap_i64]; have := H0.out; omega
                      have HRG : Hid (R < g5) := by have := H45.out; show _ < _; omega
                      have HRW : Hid (R < wr.heap.size) := by have := HM.out.lt; have := HRG.out; show _ < _; omega
                      have hm30 : Hid (l.length + 1 ≤ 1073741824) := by have := hL2.out.1; have := HM.out.ref.at_; have := HQ.out; show _ ≤ _; omega
                      have hOUT := HM.out.out
                      have hROW := HM.out.row
                      clear c50 c2
                      refine wp_region_steps [[], [0], [], [], [3], [2, 4], [5], [1, 6, 5], [0, 1, 2, 3, 4, 5, 6, 7], [8, 0, 1, 2, 3, 4, 5, 6, 7]] (by kernel_rfl) (by kernel_rfl) (fun L a wx => ∃ v120 v121 v122 v123 v124 v125 v126 v127 v128, a = ⟨#[.pointer (some ⟨R, 0, none⟩), .int .i64 (most : Int), undef, undef, .pointer (some ⟨w.heap.size, 0, none⟩), .pointer (some ⟨g5, 0, none⟩), .int .u8 93, .pointer (some ⟨R, 0, none⟩), .tuple #[], .pointer (some ⟨R, 0, none⟩), .pointer (some ⟨R, 0, none⟩), .pointer (some ⟨R, 2, none⟩), .bool false, .bool false, .pointer (some ⟨R, 0, none⟩), .pointer (some ⟨R, 0, none⟩), .pointer (some ⟨R, 1, none⟩), .int .i64 (k2 : Int), .pointer (some ⟨R, 0, none⟩), .pointer (some ⟨R, 0, none⟩), .pointer (some ⟨R, 0, none⟩), .slice (some ⟨b, off, none⟩) bs.length c, .int .i64 (bs.length : Int), .bool false, .bool false, undef, undef, undef, undef, .agg #[.int .i64 0, .string ⟨#[]⟩, .int .u64 0, .slice none 0 0, .slice none 0 0], .pointer (some ⟨R, 0, none⟩), .pointer (some ⟨R, 0, none⟩), .pointer (some ⟨R, 0, none⟩), .slice (some ⟨b, off, none⟩) bs.length c, .pointer (some ⟨R, 0, none⟩), .pointer (some ⟨R, 0, none⟩), .pointer (some ⟨R, 1, none⟩), .int .i64 (k2 : Int), .pointer (some ⟨b, off + k2, none⟩), .int .u8 91, undef, undef, undef, undef, .bool false, .bool false, undef, undef, .bool false, .bool false, undef, undef, undef, .bool false, .bool false, undef, undef, undef, .bool false, .bool false, undef, undef, undef, undef, .bool true, .bool true, undef, .pointer (some ⟨g5, 0, none⟩), .pointer (some ⟨R, 0, none⟩), .pointer (some ⟨R, 0, none⟩), .pointer (some ⟨R, 0, none⟩), .slice (some ⟨b, off, none⟩) bs.length c, .pointer (some ⟨R, 0, none⟩), .pointer (some ⟨R, 0, none⟩), .pointer (some ⟨R, 1, none⟩), .int .i64 (k2 : Int), .pointer (some ⟨b, off + k2, none⟩), .int .u8 91, .bool false, undef, .pointer (some ⟨R, 0, none⟩), .pointer (some ⟨R, 0, none⟩), .pointer (some ⟨R, 1, none⟩), .int .i64 (k2 : Int), .int .i64 ((k2 : Int) + 1), .pointer (some ⟨R, 0, none⟩), .pointer (some ⟨R, 1, none⟩), .int .i64 (most : Int), .bool false, undef, undef, undef, undef, .pointer (some ⟨R, 0, none⟩), .tuple #[], .pointer (some ⟨R, 0, none⟩), .int .u8 93, .bool false, undef, .pointer (some ⟨R, 0, none⟩), .pointer (some ⟨R, 0, none⟩), .pointer (some ⟨R, 2, none⟩), .bool false, .bool true, .pointer (some ⟨g5, 0, none⟩), .int .i64 5, .bool false, u107, u108, u109, u110, u111, u112, u113, u114, u115, u116, u117, u118, u119, v120, v121, v122, v123, v124, v125, v126, v127, v128, u129, u130, u131, u132, u133, u134, u135, u136, undef], []⟩ ∧ InvRow5 wr R bs (some ⟨b, off, none⟩) c q (most - 1) g5 5 l.length false most (.slice al l.length cl) (.slice ak ks.length ckk) xs L v120 v121 v122 v123 v124 v125 v126 v127 v128 wx) ?_ ⟨?_, ?_, ?_, ?_, ?_, ?_, ?_, ?_, ?_, ?_, trivial⟩ ?_
                      · refine ⟨_, _, _, _, _, _, _, _, _, rfl, ⟨?_, ?_, ?_, ?_, ?_, ?_, ?_, ?_, ?_, ⟨rfl, rfl, rfl, Nat.le_refl _, fun _ _ _ => rfl⟩, ⟨_, hOUT.drew, fun _ => rfl, fun h => absurd h (by decide)⟩, fun _ => hROW, fun _ => gb_drew (World.grownBy.refl _ _), fun _ => HM.out.ref.drew⟩⟩ <;> (intro h; exact absurd h (by decide))
                      · rintro L a wx ⟨v120, v121, v122, v123, v124, v125, v126, v127, v128, rfl, hI⟩ hL hdep hcl K hK
                        go_simp
                        exact hK _ _ ⟨_, v121, v122, v123, v124, v125, v126, v127, v128, rfl, ⟨fun _ => rfl, hI.t1, hI.t2, hI.t3, hI.t4, hI.t5, hI.t6, hI.t7, hI.t8, hI.tch, hI.aO, hI.n7, hI.g7, hI.r5⟩⟩
                      · rintro L a wx ⟨v120, v121, v122, v123, v124, v125, v126, v127, v128, rfl, hI⟩ hL hdep hcl K hK
                        obtain rfl := hI.t0 (hdep 0 (by decide))
                        obtain ⟨curO, o1, o2, o3⟩ := hI.aO
                        obtain rfl := o2 (by cases h9 : L 9 with | false => rfl | true => exact absurd (hcl 9 (by decide) h9 1 (by decide)) (by rw [hL]; decide))
                        have c0 := (o1.cell 3).trans (show _ = some (Value.slice al l.length cl) from rfl)
                        go_simp
                        exact hK _ _ ⟨_, _, v122, v123, v124, v125, v126, v127, v128, rfl, ⟨hI.t0, fun _ => rfl, hI.t2, hI.t3, hI.t4, hI.t5, hI.t6, hI.t7, hI.t8, hI.tch, ⟨_, o1, fun _ => rfl, o3⟩, hI.n7, hI.g7, hI.r5⟩⟩
                      · rintro L a wx ⟨v120, v121, v122, v123, v124, v125, v126, v127, v128, rfl, hI⟩ hL hdep hcl K hK
                        go_simp
                        exact hK _ _ ⟨v120, v121, _, v123, v124, v125, v126, v127, v128, rfl, ⟨hI.t0, hI.t1, fun _ => rfl, hI.t3, hI.t4, hI.t5, hI.t6, hI.t7, hI.t8, hI.tch, hI.aO, hI.n7, hI.g7, hI.r5⟩⟩
                      · rintro L a wx ⟨v120, v121, v122, v123, v124, v125, v126, v127, v128, rfl, hI⟩ hL hdep hcl K hK
                        go_simp
                        exact hK _ _ ⟨v120, v121, v122, _, v124, v125, v126, v127, v128, rfl, ⟨hI.t0, hI.t1, hI.t2, fun _ => rfl, hI.t4, hI.t5, hI.t6, hI.t7, hI.t8, hI.tch, hI.aO, hI.n7, hI.g7, hI.r5⟩⟩
                      · rintro L a wx ⟨v120, v121, v122, v123, v124, v125, v126, v127, v128, rfl, hI⟩ hL hdep hcl K hK
                        obtain rfl := hI.t3 (hdep 3 (by decide))
                        have hwr := hDEEP.out
                        go_simp
                        exact hK _ _ ⟨v120, v121, v122, _, _, v125, v126, v127, v128, rfl, ⟨hI.t0, hI.t1, hI.t2, hI.t3, fun _ => rfl, hI.t5, hI.t6, hI.t7, hI.t8, hI.tch, hI.aO, hI.n7, hI.g7, hI.r5⟩⟩
                      · rintro L a wx ⟨v120, v121, v122, v123, v124, v125, v126, v127, v128, rfl, hI⟩ hL hdep hcl K hK
                        obtain rfl := hI.t2 (hdep 2 (by decide))
                        obtain rfl := hI.t4 (hdep 4 (by decide))
                        have h7 : L 7 = false := by cases h7 : L 7 with | false => rfl | true => exact absurd (hcl 6 (by decide) (hcl 7 (by decide) h7 6 (by decide)) 5 (by decide)) (by rw [hL]; decide)
                        have hrf := hI.r5 hL
                        have hgg := hI.g7 h7
                        have hlvb := World.ownsRow.lt HM.out.row
                        have hgs := hgg.size
                        go_simp
                        refine (hCALL.out _ hrf (Nat.lt_of_lt_of_le HRW.out hgs)).mono ?_
                        rintro e w' ⟨hg', v', cs', k', bad', rfl, hk', hr', hsv, hs', hb', hz'⟩
                        obtain ⟨k1, s1, n1, a1, l1, c1, b1, m1, d1, rfl⟩ := pv_shape (sv_pv _ _ hsv)
                        exact hK _ _ ⟨v120, v121, _, v123, _, _, v126, v127, v128, rfl, ⟨hI.t0, hI.t1, hI.t2, hI.t3, hI.t4, fun _ => ⟨k1, s1, n1, a1, l1, c1, b1, m1, d1, rfl, v', k', bad', hk', hr', sv_to (fun x hx hxl => ⟨Nat.le_trans hgs hx, hxl, fun h => by rw [show L 7 = true from h] at h7; cases h7⟩) (fun _ _ _ => rfl) _ _ hsv, hs', hb', hz'⟩, (fun h => absurd (hcl 6 (by decide) h 5 (by decide)) (by rw [hL]; decide)), (fun h => by rw [show L 7 = true from h] at h7; cases h7), hI.t8, hI.tch.trans ((Tch.of_grown hg').mono (by simp)), (by obtain ⟨curO, o1, o2, o3⟩ := hI.aO; exact ⟨curO, o1.grown hg' (by intro e; injection e with e; have := HRG.out; omega), o2, o3⟩), fun h => (Tch.of_grown hg').row (hI.n7 h) (fun x hx e => by have := (hlvb x hx).1; have := HRG.out; simp at e; omega), fun h => gb_trans (hI.g7 h) hg', (fun h => Bool.noConfusion (show true = false from h))⟩⟩
                      · rintro L a wx ⟨v120, v121, v122, v123, v124, v125, v126, v127, v128, rfl, hI⟩ hL hdep hcl K hK
                        have h7 : L 7 = false := by cases h7 : L 7 with | false => rfl | true => exact absurd (hcl 7 (by decide) h7 6 (by decide)) (by rw [hL]; decide)
                        have h5 : L 5 = true := hdep 5 (by decide)
                        obtain ⟨k1, s1, n1, a1, l1, c1, b1, m1, d1, rfl, hvd⟩ := hI.t5 h5
                        have hb := (Below.refl wx.heap.size wx).alloc (Nat.le_refl _) (.cells #[.int .i64 k1, .string s1, .int .u64 n1, .slice a1 l1 c1, .slice b1 m1 d1] 26)
                        have hN := Arr.new wx 26 [.int .i64 k1, .string s1, .int .u64 n1, .slice a1 l1 c1, .slice b1 m1 d1]
                        go_simp
                        exact hK _ _ ⟨v120, v121, v122, v123, v124, _, _, v127, v128, rfl, ⟨hI.t0, hI.t1, hI.t2, hI.t3, hI.t4, fun _ => ⟨k1, s1, n1, a1, l1, c1, b1, m1, d1, rfl, hvd.to (Tch.of_below hb []) (by simp) (by simp) (fun x hx _ => ⟨hx.1, by have := hx.2.1; simp; omega, hx.2.2⟩)⟩, fun _ => ⟨_, rfl, fun _ => ⟨_, rfl, rfl, by simp [Value.oneCell'], hN⟩⟩, (fun h => by rw [show L 7 = true from h] at h7; cases h7), hI.t8, hI.tch.trans (Tch.of_below hb _), (by obtain ⟨curO, o1, o2, o3⟩ := hI.aO; exact ⟨curO, o1.kept hb, o2, o3⟩), fun h => (hI.n7 h).alloc _, fun h => gb_trans (hI.g7 h) (gb_of_below hb), (fun h => by rw [show L 5 = false from h] at h5; cases h5)⟩⟩
                      · rintro L a wx ⟨v120, v121, v122, v123, v124, v125, v126, v127, v128, rfl, hI⟩ hL hdep hcl K hK
                        obtain rfl := hI.t1 (hdep 1 (by decide))
                        have h5 : L 5 = true := hdep 5 (by decide)
                        obtain ⟨k1, s1, n1, a1, l1, c1, b1, m1, d1, rfl, hvd⟩ := hI.t5 h5
                        obtain ⟨NB, rfl, hNB⟩ := hI.t6 (hdep 6 (by decide))
                        obtain ⟨cells, hce, hc5, hone, hArr⟩ := hNB hL
                        have hcells : cells = [.int .i64 k1, .string s1, .int .u64 n1, .slice a1 l1 c1, .slice b1 m1 d1] := by have := Value.agg.inj hce; exact (by simpa using congrArg Array.toList this.symm)
                        subst hcells
                        have hrow := hI.n7 hL
                        have hgg := hI.g7 hL
                        have hsz := hgg.size
                        have hlvb := World.ownsRow.lt HM.out.row
                        have hlt0 := HM.out.lt
                        have hrg := HRG.out
                        refine ow_append_R (.tmp 121) (.tmp 126) rfl (g5 + 1) l.length _ _ hrow rfl NB 26 [.int .i64 k1, .string s1, .int .u64 n1, .slice a1 l1 c1, .slice b1 m1 d1] rfl (by simp [Value.oneCell']) rfl hArr hm30.out (by omega) ?_
                        intro v' w' h1 h2 h3
                        obtain ⟨a3, c3, rfl⟩ := row_n h1
                        have hX : ∀ x, Value.ownBlock (.slice a3 (l.length + 1) c3) = some x → (Value.ownBlock (.slice al l.length cl)) = some x ∨ wr.heap.size ≤ x := fun x hx => (h3 x hx).imp id (fun h => by omega)
                        exact hK _ _ ⟨v120, _, v122, v123, v124, _, _, _, v128, rfl, ⟨hI.t0, hI.t1, hI.t2, hI.t3, hI.t4, fun _ => ⟨k1, s1, n1, a1, l1, c1, b1, m1, d1, rfl, hvd.to h2 (fun x hx => by have := (hlvb x (by simpa using hx)).1; omega) (fun x hx hS => by have := (hlvb x (by simpa using hx)).2; have := hS.1; omega) (fun x hx hxl => ⟨hx.1, Nat.lt_of_lt_of_le hxl h2.size, fun _ e => by rcases h3 x e with h | h; have := (hlvb x h).2; have := hx.1; omega; omega⟩)⟩, fun _ => ⟨NB, rfl, (fun h => Bool.noConfusion (show true = false from h))⟩, fun _ => ⟨a3, c3, _, rfl, rfl, rfl, h1, hX⟩, hI.t8, hI.tch.trans (h2.mono (fun b hb => .inl (List.mem_cons_of_mem _ (List.mem_cons_of_mem _ hb)))), (by obtain ⟨curO, o1, o2, o3⟩ := hI.aO; exact ⟨curO, h2.arr o1 (fun e => by have := (hlvb _ (by simpa using e)).1; omega), o2, fun h => by have := hcl 9 (by decide) (show L 9 = true from h) 7 (by decide); rw [hL] at this; cases this⟩), (fun h => Bool.noConfusion (show true = false from h)), (fun h => Bool.noConfusion (show true = false from h)), (fun h => by rw [show L 5 = false from h] at h5; cases h5)⟩⟩
                      · rintro L a wx ⟨v120, v121, v122, v123, v124, v125, v126, v127, v128, rfl, hI⟩ hL hdep hcl K hK
                        obtain rfl := hI.t0 (hdep 0 (by decide))
                        obtain rfl := hI.t1 (hdep 1 (by decide))
                        obtain rfl := hI.t2 (hdep 2 (by decide))
                        obtain rfl := hI.t3 (hdep 3 (by decide))
                        obtain rfl := hI.t4 (hdep 4 (by decide))
                        go_simp
                        exact hK _ _ ⟨_, _, _, _, _, v125, v126, v127, _, rfl, ⟨hI.t0, hI.t1, hI.t2, hI.t3, hI.t4, hI.t5, hI.t6, hI.t7, fun _ => rfl, hI.tch, hI.aO, hI.n7, hI.g7, hI.r5⟩⟩
                      · rintro L a wx ⟨v120, v121, v122, v123, v124, v125, v126, v127, v128, rfl, hI⟩ hL hdep hcl K hK
                        obtain rfl := hI.t8 (hdep 8 (by decide))
                        obtain rfl := hI.t0 (hdep 0 (by decide))
                        obtain rfl := hI.t1 (hdep 1 (by decide))
                        obtain rfl := hI.t2 (hdep 2 (by decide))
                        obtain rfl := hI.t3 (hdep 3 (by decide))
                        obtain rfl := hI.t4 (hdep 4 (by decide))
                        have h5 : L 5 = true := hdep 5 (by decide)
                        obtain ⟨k1, s1, n1, a1, l1, c1, b1, m1, d1, rfl, hvd⟩ := hI.t5 h5
                        obtain ⟨NB, rfl, -⟩ := hI.t6 (hdep 6 (by decide))
                        have H7 : L 7 = true := hdep 7 (by decide)
                        obtain ⟨a3, c3, cells, rfl, hce, hc5, hrow, hX⟩ := hI.t7 H7
                        have hcells : cells = [.int .i64 k1, .string s1, .int .u64 n1, .slice a1 l1 c1, .slice b1 m1 d1] := by have := Value.agg.inj hce; exact (by simpa using congrArg Array.toList this.symm)
                        subst hcells
                        obtain ⟨curO, o1, o2, o3⟩ := hI.aO
                        obtain rfl := o2 hL
                        have hlt0 := HM.out.lt
                        have hrg := HRG.out
                        have c0 := (o1.cell 3).trans (show _ = some (Value.slice al l.length cl) from rfl)
                        have f0 := o1.frozen 3
                        have hrl := World.ownsRow.lt hrow
                        have htc := tch_cell wx ⟨g5, 3, none⟩ (.slice a3 (l.length + 1) c3)
                        have hrow2 := htc.row hrow (fun x hx e => by have := (hrl x hx).1; simp at e; omega)
                        have ho2 := o1.store 3 (.slice a3 (l.length + 1) c3)
                        go_simp
                        exact hK _ _ ⟨_, _, _, _, _, _, _, _, _, rfl, ⟨hI.t0, hI.t1, hI.t2, hI.t3, hI.t4, fun _ => ⟨k1, s1, n1, a1, l1, c1, b1, m1, d1, rfl, hvd.to htc (fun x hx => by simp at hx; omega) (fun x hx hS => by simp at hx; have := hS.1; omega) (fun x hx hxl => ⟨hx.1, by rw [World.size_setCell]; exact hx.2.1, hx.2.2⟩)⟩, (fun _ => ⟨NB, rfl, fun h => by rw [show L 7 = false from h] at H7; cases H7⟩), fun _ => ⟨a3, c3, _, rfl, rfl, rfl, hrow2, hX⟩, hI.t8, hI.tch.trans (htc.mono (fun b hb => .inl (by simp at hb; subst hb; exact List.mem_cons_of_mem _ (List.mem_cons_self ..)))), ⟨_, ho2, (fun h => Bool.noConfusion (show true = false from h)), fun _ => rfl⟩, (fun h => by rw [show L 7 = false from h] at H7; cases H7), (fun h => by rw [show L 7 = false from h] at H7; cases H7), (fun h => by rw [show L 5 = false from h] at h5; cases h5)⟩⟩
                      · rintro a wx ⟨v120, v121, v122, v123, v124, v125, v126, v127, v128, rfl, hI⟩
                        obtain ⟨a3, c3, cells, e127, hce, hc5, hrow9, hX⟩ := hI.t7 rfl
                        obtain ⟨k1, s1, n1, a1, l1, c1, b1, m1, d1, e125, v', k13, bad13, hk13, hr13, hsv13, hs13, hb13, hz13⟩ := hI.t5 rfl
                        subst e127
                        subst e125
                        have hcells : cells = [.int .i64 k1, .string s1, .int .u64 n1, .slice a1 l1 c1, .slice b1 m1 d1] := by have := Value.agg.inj hce; exact (by simpa using congrArg Array.toList this.symm)
                        subst hcells
                        obtain ⟨curO, hO9, -, o3⟩ := hI.aO
                        obtain rfl := o3 rfl
                        have htch := hI.tch
                        have M13 := Lib.hid (LsM.addL HM.out hR htch hO9 hrow9 hX hr13 hk13 (sv_to (fun x hx _ => ⟨hx.1, hx.2.1, hx.2.2 rfl⟩) (fun _ _ _ => rfl) _ _ hsv13))
                        have HK13 := Lib.hid hk13
                        have HV13 : Hid (VP bs q (most - 1) false v' k13 bad13) := Lib.hid ⟨hs13, hb13, hz13⟩
                        clear hI hce hc5 hrow9 hX hk13 hr13 hsv13 hs13 hb13 hz13 hO9 htch
                        go_upto_region 42 with (go_at_call 31; refine (rBlanks_any R bs _ c k13 bad13 wx M13.out.ref).mono ?_; rintro e w14 ⟨rfl, hg14, k14, hk14, hr14, hd14⟩)
                        have M14 := Lib.hid (M13.out.past hR hg14 hr14 hk14)
                        have HK14 := Lib.hid hk14
                        have HD14 := Lib.hid hd14
                        have hIS2 : Hid (Calls Tryd.prog 55 #[.pointer (some ⟨R, 0, none⟩), .int .u8 93] w14 _) := rIs_any R 93 bs _ c k14 bad13 w14 hr14
                        clear hg14 hk14 hr14 hd14 M13
                        go_upto_region 43 with (go_at_call 55; refine hIS2.out.mono ?_; rintro e w15 ⟨hg15, ⟨rfl, hlt15, heq15, hr15⟩ | ⟨rfl, hne15, hr15⟩⟩)
                        · have HE : Hid (ValE R bs (some ⟨b, off, none⟩) c k most w g5 (JV.mk 5 [] 0 (l ++ [v']) ks) [.int .i64 5, .string ⟨#[]⟩, .int .u64 0, .slice a3 (l.length + 1) c3, .slice ak ks.length ckk] (k14 + 1) bad13 w15) := LsM.fin (most := most) (M14.out.past hR hg15 hr15 (Nat.le_succ _)) (by decide) (lsv_close HLV.out HV13.out.1 HV13.out.2.1 HV13.out.2.2 HD14.out hlt15 heq15)
                          clear hg15 hlt15 heq15 hr15
                          have hO := HE.out.out
                          have hS := HE.out.res
                          go_wp2_with (first
                            | ((with_reducible show wpList _ _ _ (⟨some 134, .load _ _, _, _, _, _⟩ :: _) _ _); refine wl_load rfl 26 _ rfl g5 0 rfl 26 [.int .i64 5, .string ⟨#[]⟩, .int .u64 0, .slice a3 (l.length + 1) c3, .slice ak ks.length ckk] [.int .i64 5, .string ⟨#[]⟩, .int .u64 0, .slice a3 (l.length + 1) c3, .slice ak ks.length ckk] hO (fun j v h => (by rw [Nat.zero_add]; exact h)) _ Tryd.underlying26 rfl (by kernel_rfl) ?_)
                            | ((with_reducible show wpList _ _ _ (⟨none, .store _ (.tmp 4) _, _, _, _, _⟩ :: _) _ _); refine wl_store rfl 26 _ _ rfl w.heap.size 0 rfl [.int .i64 5, .string ⟨#[]⟩, .int .u64 0, .slice a3 (l.length + 1) c3, .slice ak ks.length ckk] rfl 26 zC hS (by kernel_rfl) (by simp [zC]) (by simp [Value.oneCell']) ?_; intro w9 hR9 hg9 hs9))
                          rw [whole_store zC [.int .i64 5, .string ⟨#[]⟩, .int .u64 0, .slice a3 (l.length + 1) c3, .slice ak ks.length ckk] rfl] at hR9
                          exact end_cell rfl w.heap.size 26 _ _ rfl hR9 Tryd.underlying26 rfl (by kernel_rfl) rfl (HE.out.fin hR hg9)
                        · have M15 := Lib.hid (M14.out.past hR hg15 hr15 (Nat.le_refl _))
                          have HNE15 := Lib.hid hne15
                          clear hg15 hr15 hne15
                          go_wp2_with (go_at_call 53; refine (rMust_any R [44] bs _ c k14 bad13 w15 M15.out.ref (by simp)).mono ?_; rintro e w16 ⟨rfl, hg16, k16, bad16, hk16, hr16, hs16, hz16⟩)
                          have M16 := M15.out.past hR hg16 hr16 hk16
                          have hstep := lsv_comma HLV.out HV13.out.1 HV13.out.2.1 HV13.out.2.2 HD14.out HNE15.out (Nat.le_trans HK13.out HK14.out) hk16 hr16.at_ hs16 hz16 HQL.out.1 HQL.out.2
                          go_roundw
                          case rel => exact ⟨l ++ [v'], ks, k16, bad16, _, _, _, M16, hstep.1⟩
                          case measure =>
                            have m1 := (hr16.arr.cell 1).trans (show _ = some (Value.int .i64 (k16 : Int)) from rfl)
                            have m2 := (HM.out.ref.arr.cell 1).trans (show _ = some (Value.int .i64 (q : Int)) from rfl)
                            have n1 := (hr16.arr.cell 2).trans (show _ = some (Value.bool bad16) from rfl)
                            have n2 := (HM.out.ref.arr.cell 2).trans (show _ = some (Value.bool false) from rfl)
                            have q1 := hr16.at_
                            have q2 := HQ.out
                            have q3 := HK13.out
                            have q4 := HK14.out
                            have q5 := hstep.2
                            simp only [m1, m2, n1, n2, Option.getD_some, intOf]
                            cases bad16 with
                            | true => simp only []; omega
                            | false => have := q5 rfl; simp only []; omega
          · have hval : Hid (valF most (bs.drop k) = if most = 0 then none else obF (most - 1) (bs.drop (k2 + 1))) := by
              show _ = _
              rw [val_eq, ← HD2.out, HDR.out]
              rfl
            clear HDR
            have c50 := (A5.out.cell 0).trans (show _ = some (Value.int .i64 0) from rfl)
            have f50 := A5.out.frozen 0
            go_upto_region 24 with fail
            have hset := gb_cellAt W5 g5 0 (.int .i64 5)
            have A6 := Lib.hid (A5.out.store 0 (.int .i64 5))
            have HR6 := Lib.hid (HR5.out.past hset (by have := H45.out; omega))
            have GB6 := Lib.hid (gb_above GB5.out hset (by have := H45.out; omega))
            have S6 := Lib.hid (A4.out.grown hset (by intro e; injection e with e; have := H45.out; omega))
            generalize W5.setCell ⟨g5, 0, none⟩ (.int .i64 5) = W6 at *
            clear c50 f50 hset A5 HR5 GB5 A4
            obtain ⟨b', off', eb, -, -, hck⟩ := HR6.out.text.mem (by have := HLT.out; omega)
            cases eb
            have ck : W6.cell? ⟨b, off + k2, none⟩ = some (.int .u8 ((123 : UInt8).toNat : Int)) := by have := hck k2 HLT.out; rw [HX.out] at this; exact this
            have c0 := (HR6.out.arr.cell 0).trans (show _ = some (Value.slice (some ⟨b, off, none⟩) bs.length c) from rfl)
            have c1 := (HR6.out.arr.cell 1).trans (show _ = some (Value.int .i64 (k2 : Int)) from rfl)
            clear hck
            go_region
            all_goals
              have HR7 := Lib.hid HR6.out.drew
              have GB7 := Lib.hid (gb_drew GB6.out)
              have S7 := Lib.hid S6.out.drew
              have A7 := Lib.hid A6.out.drew
              clear c0 c1 ck HR6 GB6 S6 A6
              generalize W6.drew = W7 at *
              have c70 := (A7.out.cell 0).trans (show _ = some (Value.int .i64 5) from rfl)
              have f70 := A7.out.frozen 0
              go_upto_region 27 with fail
              have hset := gb_cellAt W7 g5 0 (.int .i64 6)
              have A8 := Lib.hid (A7.out.store 0 (.int .i64 6))
              have HR8 := Lib.hid (HR7.out.past hset (by have := H45.out; omega))
              have GB8 := Lib.hid (gb_above GB7.out hset (by have := H45.out; omega))
              have S8 := Lib.hid (S7.out.grown hset (by intro e; injection e with e; have := H45.out; omega))
              generalize W7.setCell ⟨g5, 0, none⟩ (.int .i64 6) = W8 at *
              clear c70 f70 hset A7 HR7 GB7 S7
              have c1 := (HR8.out.arr.cell 1).trans (show _ = some (Value.int .i64 (k2 : Int)) from rfl)
              have f1 := HR8.out.arr.frozen 1
              have hk1 : (k2 : Int) + 1 ≤ 9223372036854775807 := by omega
              go_upto_region 28 with fail
              have hmv : Hid (RefAt (W8.setCell ⟨R, 1, none⟩ (.int .i64 ((k2 : Int) + 1))) R bs (some ⟨b, off, none⟩) c (k2 + 1) false) := Lib.hid (by have := HR8.out.move (k2 + 1) HLT.out; simpa using this)
              have hset := gb_cellAt W8 R 1 (.int .i64 ((k2 : Int) + 1))
              have A9 : Hid (Arr (W8.setCell ⟨R, 1, none⟩ (.int .i64 ((k2 : Int) + 1))) g5 26 [.int .i64 6, .string ⟨#[]⟩, .int .u64 0, .slice none 0 0, .slice none 0 0]) := A8.out.grown hset (by intro e; injection e with e; have := H45.out; omega)
              have S9 := Lib.hid (S8.out.grown hset (by intro e; injection e with e; omega))
              have GB9 := Lib.hid (gb_trans GB8.out hset)
              generalize W8.setCell ⟨R, 1, none⟩ (.int .i64 ((k2 : Int) + 1)) = W9 at *
              clear c1 f1 hset A8 HR8 GB8 S8 hk1
              by_cases h0 : most = 0
              · have e0 : ((most : Int) == 0) = true := by rw [h0]; rfl
                have c2 := (hmv.out.arr.cell 2).trans (show _ = some (Value.bool false) from rfl)
                have f2 := hmv.out.arr.frozen 2
                have hno : Hid (valF most (bs.drop k) = none) := hval.out.trans (if_pos h0)
                clear h0 hval
                go_upto_region 30 with fail
                have hset := gb_cellAt W9 R 2 (.bool true)
                have HE : Hid (ValE R bs (some ⟨b, off, none⟩) c k most w g5 (JV.mk 6 [] 0 [] []) [.int .i64 6, .string ⟨#[]⟩, .int .u64 0, .slice none 0 0, .slice none 0 0] (k2 + 1) true (W9.setCell ⟨R, 2, none⟩ (.bool true))) := ⟨gb_trans GB9.out hset, S9.out.grown hset (by intro e; injection e with e; omega), A9.out.grown hset (by intro e; injection e with e; have := H45.out; omega), H45.out, hmv.out.bad true, by have := HK2.out; omega, sv_plain (s := []) (n := 0) (by decide), (fun x r he => by rw [hno.out] at he; cases he), fun _ => rfl⟩
                clear c2 f2 hset hmv A9 S9 GB9
                generalize W9.setCell ⟨R, 2, none⟩ (.bool true) = w8 at *
                have hO := HE.out.out
                have hS := HE.out.res
                go_wp2_with (first
                  | ((with_reducible show wpList _ _ _ (⟨some 92, .load _ _, _, _, _, _⟩ :: _) _ _); refine wl_load rfl 26 _ rfl g5 0 rfl 26 [.int .i64 6, .string ⟨#[]⟩, .int .u64 0, .slice none 0 0, .slice none 0 0] [.int .i64 6, .string ⟨#[]⟩, .int .u64 0, .slice none 0 0, .slice none 0 0] hO (fun j v h => (by rw [Nat.zero_add]; exact h)) _ Tryd.underlying26 rfl (by kernel_rfl) ?_)
                  | ((with_reducible show wpList _ _ _ (⟨none, .store _ (.tmp 4) _, _, _, _, _⟩ :: _) _ _); refine wl_store rfl 26 _ _ rfl w.heap.size 0 rfl [.int .i64 6, .string ⟨#[]⟩, .int .u64 0, .slice none 0 0, .slice none 0 0] rfl 26 zC hS (by kernel_rfl) (by simp [zC]) (by simp [Value.oneCell']) ?_; intro w9 hR9 hg9 hs9))
                rw [whole_store zC [.int .i64 6, .string ⟨#[]⟩, .int .u64 0, .slice none 0 0, .slice none 0 0] rfl] at hR9
                exact end_cell rfl w.heap.size 26 _ _ rfl hR9 Tryd.underlying26 rfl (by kernel_rfl) rfl (HE.out.fin hR hg9)
              · have e0 : ((most : Int) == 0) = false := beq_eq_false_iff_ne.2 (by omega)
                have hval2 : Hid (valF most (bs.drop k) = obF (most - 1) (bs.drop (k2 + 1))) := hval.out.trans (if_neg h0)
                have H0 := Lib.hid h0
                clear hval h0
                go_upto_region 32 with (go_at_call 31; refine (rBlanks_any R bs _ c (k2 + 1) false W9 hmv.out).mono ?_; rintro e w10 ⟨rfl, hg10, k10, hk10, hr10, hd10⟩)
                have M10 : Hid (LsM R bs (some ⟨b, off, none⟩) c k w g5 6 [] [] k10 false (.slice none 0 0) (.slice none 0 0) [] w10) := by
                  have hA := A9.out.grown hg10 (by intro e; injection e with e; have := H45.out; omega)
                  exact ⟨gb_trans GB9.out hg10, S9.out.grown hg10 (by intro e; injection e with e; omega), hA, World.ownsRow_nil _ _ _ _, World.ownsRow_nil _ _ _ _, (fun x hx => by cases hx), hr10, by have := HK2.out; omega, H45.out, lt_of_cell ((hA.cell 0).trans (show _ = some (Value.int .i64 6) from rfl)), fun i v hi => by simp at hi⟩
                have HD10 := Lib.hid hd10
                have hIS : Hid (Calls Tryd.prog 55 #[.pointer (some ⟨R, 0, none⟩), .int .u8 125] w10 _) := rIs_any R 125 bs _ c k10 false w10 hr10
                clear hmv A9 S9 GB9 hg10 hk10 hr10 hd10
                go_upto_region 33 with (go_at_call 55; refine hIS.out.mono ?_; rintro e w11 ⟨hg11, ⟨rfl, hlt11, heq11, hr11⟩ | ⟨rfl, hne11, hr11⟩⟩)
                · have HE := Lib.hid (LsM.fin (most := most) (M10.out.past hR hg11 hr11 (Nat.le_succ _)) (by decide) (.inr ⟨rfl, ob_end hval2.out HD10.out hlt11 heq11⟩))
                  clear hg11 hlt11 heq11 hr11 hIS
                  have hO := HE.out.out
                  have hS := HE.out.res
                  go_wp2_with (first
                    | ((with_reducible show wpList _ _ _ (⟨some 98, .load _ _, _, _, _, _⟩ :: _) _ _); refine wl_load rfl 26 _ rfl g5 0 rfl 26 [.int .i64 6, .string ⟨#[]⟩, .int .u64 0, .slice none 0 0, .slice none 0 0] [.int .i64 6, .string ⟨#[]⟩, .int .u64 0, .slice none 0 0, .slice none 0 0] hO (fun j v h => (by rw [Nat.zero_add]; exact h)) _ Tryd.underlying26 rfl (by kernel_rfl) ?_)
                    | ((with_reducible show wpList _ _ _ (⟨none, .store _ (.tmp 4) _, _, _, _, _⟩ :: _) _ _); refine wl_store rfl 26 _ _ rfl w.heap.size 0 rfl [.int .i64 6, .string ⟨#[]⟩, .int .u64 0, .slice none 0 0, .slice none 0 0] rfl 26 zC hS (by kernel_rfl) (by simp [zC]) (by simp [Value.oneCell']) ?_; intro w9 hR9 hg9 hs9))
                  rw [whole_store zC [.int .i64 6, .string ⟨#[]⟩, .int .u64 0, .slice none 0 0, .slice none 0 0] rfl] at hR9
                  exact end_cell rfl w.heap.size 26 _ _ rfl hR9 Tryd.underlying26 rfl (by kernel_rfl) rfl (HE.out.fin hR hg9)
                · have M11 := Lib.hid (M10.out.past hR hg11 hr11 (Nat.le_refl _))
                  have L11 := Lib.hid (ob_start hval2.out HD10.out hne11)
                  clear hg11 hne11 hr11 hIS M10 HD10 hval2
                  go_loopw [] (fun wr => ∃ (l : List JV) (ks : List (List UInt8)) (q : Nat) (bad : Bool) (lv kv : Value) (xs : List Value), LsM R bs (some ⟨b, off, none⟩) c k w g5 6 l ks q bad lv kv xs wr ∧ LsR bs k most 6 l ks q bad) (fun wr => 2 * (bs.length - (intOf ((wr.cell? ⟨R, 1, none⟩).getD undef)).toNat) + (match wr.cell? ⟨R, 2, none⟩ with | some (.bool true) => 0 | _ => 1))
                  case atStart => exact ⟨[], [], k10, false, _, _, [], M11.out, L11.out⟩
                  case round =>
                    clear M11 L11
                    obtain ⟨l, ks, q, bad, lv, kv, xs, hM, hL⟩ := hrel
                    obtain ⟨al, cl, rfl⟩ := row_n hM.row
                    obtain ⟨ak, ckk, rfl⟩ := row_n hM.keys
                    have HM := Lib.hid hM
                    have HL := Lib.hid hL
                    have c2 := (hM.ref.arr.cell 2).trans (show _ = some (Value.bool bad) from rfl)
                    clear hM hL
                    cases bad with
                    | true =>
                      have HE : Hid (ValE R bs (some ⟨b, off, none⟩) c k most w g5 (JV.mk 6 [] 0 l ks) [.int .i64 6, .string ⟨#[]⟩, .int .u64 0, .slice al l.length cl, .slice ak ks.length ckk] q true wr) := LsM.fin (most := most) HM.out (by decide) (by
                        rcases HL.out with h | h
                        · exact .inl h
                        · cases h.1)
                      have hO := HE.out.out
                      have hS := HE.out.res
                      go_wp2_with (first
                        | ((with_reducible show wpList _ _ _ (⟨some 137, .load _ _, _, _, _, _⟩ :: _) _ _); refine wl_load rfl 26 _ rfl g5 0 rfl 26 [.int .i64 6, .string ⟨#[]⟩, .int .u64 0, .slice al l.length cl, .slice ak ks.length ckk] [.int .i64 6, .string ⟨#[]⟩, .int .u64 0, .slice al l.length cl, .slice ak ks.length ckk] hO (fun j v h => (by rw [Nat.zero_add]; exact h)) _ Tryd.underlying26 rfl (by kernel_rfl) ?_)
                        | ((with_reducible show wpList _ _ _ (⟨none, .store _ (.tmp 4) _, _, _, _, _⟩ :: _) _ _); refine wl_store rfl 26 _ _ rfl w.heap.size 0 rfl [.int .i64 6, .string ⟨#[]⟩, .int .u64 0, .slice al l.length cl, .slice ak ks.length ckk] rfl 26 zC hS (by kernel_rfl) (by simp [zC]) (by simp [Value.oneCell']) ?_; intro w9 hR9 hg9 hs9))
                      rw [whole_store zC [.int .i64 6, .string ⟨#[]⟩, .int .u64 0, .slice al l.length cl, .slice ak ks.length ckk] rfl] at hR9
                      exact end_cell rfl w.heap.size 26 _ _ rfl hR9 Tryd.underlying26 rfl (by kernel_rfl) rfl (HE.out.fin hR hg9)
                    | false =>
                      have hL2 : Hid (l.length ≤ q ∧ ks.length ≤ q ∧ valF most (bs.drop k) = (restF 6 (most - 1) (bs.drop q)).map fun (l2, ks2, r) => (JV.mk 6 [] 0 (l ++ l2) (ks ++ ks2), r)) := by
                        rcases HL.out with h | h
                        · cases h.1
                        · exact h.2
                      clear HL
                      have c50 := (HM.out.out.cell 0).trans (show _ = some (Value.int .i64 6) from rfl)
                      go_upto_region 37 with (go_at_call 31; refine (rBlanks_any R bs _ c q false wr HM.out.ref).mono ?_; rintro e w12 ⟨rfl, hg12, k12, hk12, hr12, hd12⟩)
                      have M12 := Lib.hid (HM.out.past hR hg12 hr12 hk12)
                      have HK12 := Lib.hid hk12
                      have HD12 := Lib.hid hd12
                      clear hg12 hk12 hr12 hd12 c50 c2
                      have hSTR : Hid (∀ W, RefAt W R bs (some ⟨b, off, none⟩) c k12 false → R < W.heap.size → Calls Tryd.prog 54 #[.pointer (some ⟨R, 0, none⟩)] W (StrP R bs (some ⟨b, off, none⟩) c k12 W)) := fun W h1 h2 => rStr_any R bs _ c k12 W h1 hlim h2
                      have HRG : Hid (R < g5) := by have := H45.out; show _ < _; omega
                      have HRW : Hid (R < w12.heap.size) := by have := M12.out.lt; have := HRG.out; show _ < _; omega
                      have hk30 : Hid (ks.length + 1 ≤ 1073741824) := by have := hL2.out.2.1; have := HM.out.ref.at_; show _ ≤ _; omega
                      have hOUT := M12.out.out
                      have hKEY := M12.out.keys
                      refine wp_region_steps [[], [0], [], [2], [3], [1, 4, 3], [0, 1, 2, 3, 4, 5], [6, 0, 1, 2, 3, 4, 5]] (by kernel_rfl) (by kernel_rfl) (fun L a wx => ∃ v109 v110 v111 v112 v113 v114 v115, a = ⟨#[.pointer (some ⟨R, 0, none⟩), .int .i64 (most : Int), undef, undef, .pointer (some ⟨w.heap.size, 0, none⟩), .pointer (some ⟨g5, 0, none⟩), .int .u8 125, .pointer (some ⟨R, 0, none⟩), .tuple #[], .pointer (some ⟨R, 0, none⟩), .pointer (some ⟨R, 0, none⟩), .pointer (some ⟨R, 2, none⟩), .bool false, .bool false, .pointer (some ⟨R, 0, none⟩), .pointer (some ⟨R, 0, none⟩), .pointer (some ⟨R, 1, none⟩), .int .i64 (k2 : Int), .pointer (some ⟨R, 0, none⟩), .pointer (some ⟨R, 0, none⟩), .pointer (some ⟨R, 0, none⟩), .slice (some ⟨b, off, none⟩) bs.length c, .int .i64 (bs.length : Int), .bool false, .bool false, undef, undef, undef, undef, .agg #[.int .i64 0, .string ⟨#[]⟩, .int .u64 0, .slice none 0 0, .slice none 0 0], .pointer (some ⟨R, 0, none⟩), .pointer (some ⟨R, 0, none⟩), .pointer (some ⟨R, 0, none⟩), .slice (some ⟨b, off, none⟩) bs.length c, .pointer (some ⟨R, 0, none⟩), .pointer (some ⟨R, 0, none⟩), .pointer (some ⟨R, 1, none⟩), .int .i64 (k2 : Int), .pointer (some ⟨b, off + k2, none⟩), .int .u8 123, undef, undef, undef, undef, .bool false, .bool false, undef, undef, .bool false, .bool false, undef, undef, undef, .bool false, .bool false, undef, undef, undef, .bool false, .bool false, undef, undef, undef, undef, .bool true, .bool false, .bool true, .pointer (some ⟨g5, 0, none⟩), .pointer (some ⟨R, 0, none⟩), .pointer (some ⟨R, 0, none⟩), .pointer (some ⟨R, 0, none⟩), .slice (some ⟨b, off, none⟩) bs.length c, .pointer (some ⟨R, 0, none⟩), .pointer (some ⟨R, 0, none⟩), .pointer (some ⟨R, 1, none⟩), .int .i64 (k2 : Int), .pointer (some ⟨b, off + k2, none⟩), .int .u8 123, .bool true, .pointer (some ⟨g5, 0, none⟩), .pointer (some ⟨R, 0, none⟩), .pointer (some ⟨R, 0, none⟩), .pointer (some ⟨R, 1, none⟩), .int .i64 (k2 : Int), .int .i64 ((k2 : Int) + 1), .pointer (some ⟨R, 0, none⟩), .pointer (some ⟨R, 1, none⟩), .int .i64 (most : Int), .bool false, undef, undef, undef, undef, .pointer (some ⟨R, 0, none⟩), .tuple #[], .pointer (some ⟨R, 0, none⟩), .int .u8 125, .bool false, undef, .pointer (some ⟨R, 0, none⟩), .pointer (some ⟨R, 0, none⟩), .pointer (some ⟨R, 2, none⟩), .bool false, .bool true, .pointer (some ⟨g5, 0, none⟩), .int .i64 6, .bool true, .pointer (some ⟨R, 0, none⟩), .tuple #[], v109, v110, v111, v112, v113, v114, v115, u116, u117, u118, u119, u120, u121, u122, u123, u124, u125, u126, u127, u128, u129, u130, u131, u132, u133, u134, u135, u136, undef], []⟩ ∧ InvKey w12 R bs (some ⟨b, off, none⟩) c k12 g5 (.slice al l.length cl) (.slice ak ks.length ckk) ks L v109 v110 v111 v112 v113 v114 v115 wx) ?_ ⟨?_, ?_, ?_, ?_, ?_, ?_, ?_, ?_, trivial⟩ ?_
                      · refine ⟨_, _, _, _, _, _, _, rfl, ⟨?_, ?_, ?_, ?_, ?_, ?_, ?_, ⟨rfl, rfl, rfl, Nat.le_refl _, fun _ _ _ => rfl⟩, ⟨_, hOUT.drew, fun _ => rfl, fun h => absurd h (by decide)⟩, fun _ => hKEY, fun _ => gb_drew (World.grownBy.refl _ _), fun _ => M12.out.ref.drew⟩⟩ <;> (intro h; exact absurd h (by decide))
                      · rintro L a wx ⟨v109, v110, v111, v112, v113, v114, v115, rfl, hI⟩ hL hdep hcl K hK
                        go_simp
                        exact hK _ _ ⟨_, v110, v111, v112, v113, v114, v115, rfl, ⟨fun _ => rfl, hI.t1, hI.t2, hI.t3, hI.t4, hI.t5, hI.t6, hI.tch, hI.aO, hI.n5, hI.gf, hI.r3⟩⟩
                      · rintro L a wx ⟨v109, v110, v111, v112, v113, v114, v115, rfl, hI⟩ hL hdep hcl K hK
                        obtain rfl := hI.t0 (hdep 0 (by decide))
                        obtain ⟨curO, o1, o2, o3⟩ := hI.aO
                        obtain rfl := o2 (by cases h9 : L 7 with | false => rfl | true => exact absurd (hcl 7 (by decide) h9 1 (by decide)) (by rw [hL]; decide))
                        have c0 := (o1.cell 4).trans (show _ = some (Value.slice ak ks.length ckk) from rfl)
                        go_simp
                        exact hK _ _ ⟨_, _, v111, v112, v113, v114, v115, rfl, ⟨hI.t0, fun _ => rfl, hI.t2, hI.t3, hI.t4, hI.t5, hI.t6, hI.tch, ⟨_, o1, fun _ => rfl, o3⟩, hI.n5, hI.gf, hI.r3⟩⟩
                      · rintro L a wx ⟨v109, v110, v111, v112, v113, v114, v115, rfl, hI⟩ hL hdep hcl K hK
                        go_simp
                        exact hK _ _ ⟨v109, v110, _, v112, v113, v114, v115, rfl, ⟨hI.t0, hI.t1, fun _ => rfl, hI.t3, hI.t4, hI.t5, hI.t6, hI.tch, hI.aO, hI.n5, hI.gf, hI.r3⟩⟩
                      · rintro L a wx ⟨v109, v110, v111, v112, v113, v114, v115, rfl, hI⟩ hL hdep hcl K hK
                        obtain rfl := hI.t2 (hdep 2 (by decide))
                        have h5 : L 5 = false := by cases h5 : L 5 with | false => rfl | true => exact absurd (hcl 4 (by decide) (hcl 5 (by decide) h5 4 (by decide)) 3 (by decide)) (by rw [hL]; decide)
                        have hrf := hI.r3 hL
                        have hgg := hI.gf h5
                        have hlvb := World.ownsRow.lt M12.out.keys
                        have hgs := hgg.size
                        go_simp
                        refine (hSTR.out _ hrf (Nat.lt_of_lt_of_le HRW.out hgs)).mono ?_
                        rintro e w' ⟨hg', s', k', bad', rfl, hk', hr', hsl', hs', hz'⟩
                        exact hK _ _ ⟨v109, v110, _, _, v113, v114, v115, rfl, ⟨hI.t0, hI.t1, hI.t2, fun _ => ⟨s', rfl, k', bad', hk', hr', hs', hz'⟩, (fun h => absurd (hcl 4 (by decide) h 3 (by decide)) (by rw [hL]; decide)), (fun h => by rw [show L 5 = true from h] at h5; cases h5), hI.t6, hI.tch.trans ((Tch.of_grown hg').mono (by simp)), (by obtain ⟨curO, o1, o2, o3⟩ := hI.aO; exact ⟨curO, o1.grown hg' (by intro e; injection e with e; have := HRG.out; omega), o2, o3⟩), fun h => (Tch.of_grown hg').row (hI.n5 h) (fun x hx e => by have := (hlvb x hx).1; have := HRG.out; simp at e; omega), fun h => gb_trans (hI.gf h) hg', (fun h => Bool.noConfusion (show true = false from h))⟩⟩
                      · rintro L a wx ⟨v109, v110, v111, v112, v113, v114, v115, rfl, hI⟩ hL hdep hcl K hK
                        have h5 : L 5 = false := by cases h5 : L 5 with | false => rfl | true => exact absurd (hcl 5 (by decide) h5 4 (by decide)) (by rw [hL]; decide)
                        have h3 : L 3 = true := hdep 3 (by decide)
                        obtain ⟨s', rfl, hvd⟩ := hI.t3 h3
                        have hb := (Below.refl wx.heap.size wx).alloc (Nat.le_refl _) (.cells #[.string (bstr s')] 9)
                        have hN := (Arr.new wx 9 [.string (bstr s')]).cell 0
                        go_simp
                        exact hK _ _ ⟨v109, v110, v111, _, _, v114, v115, rfl, ⟨hI.t0, hI.t1, hI.t2, fun _ => ⟨s', rfl, hvd.to (Tch.of_below hb []) (by simp)⟩, fun _ => ⟨_, rfl, fun _ => ⟨s', rfl, hN⟩⟩, (fun h => by rw [show L 5 = true from h] at h5; cases h5), hI.t6, hI.tch.trans (Tch.of_below hb _), (by obtain ⟨curO, o1, o2, o3⟩ := hI.aO; exact ⟨curO, o1.kept hb, o2, o3⟩), fun h => (hI.n5 h).alloc _, fun h => gb_trans (hI.gf h) (gb_of_below hb), (fun h => by rw [show L 3 = false from h] at h3; cases h3)⟩⟩
                      · rintro L a wx ⟨v109, v110, v111, v112, v113, v114, v115, rfl, hI⟩ hL hdep hcl K hK
                        obtain rfl := hI.t1 (hdep 1 (by decide))
                        have h3 : L 3 = true := hdep 3 (by decide)
                        obtain ⟨s', rfl, hvd⟩ := hI.t3 h3
                        obtain ⟨NB, rfl, hNB⟩ := hI.t4 (hdep 4 (by decide))
                        obtain ⟨s2, hs2, hcell⟩ := hNB hL
                        obtain rfl := vstr_inj hs2
                        have hrow := hI.n5 hL
                        have hgg := hI.gf hL
                        have hsz := hgg.size
                        have hlvb := World.ownsRow.lt M12.out.keys
                        have hlt0 := M12.out.lt
                        have hrg := HRG.out
                        refine ow_append_K (.tmp 110) (.tmp 113) rfl (g5 + 1) _ ks hrow rfl NB s' rfl hcell hk30.out (by omega) ?_
                        intro v' w' h1 h2 h3'
                        obtain ⟨a3, c3, rfl⟩ := row_n h1
                        have hX : ∀ x, Value.ownBlock (.slice a3 (ks ++ [s']).length c3) = some x → (Value.ownBlock (.slice ak ks.length ckk)) = some x ∨ w12.heap.size ≤ x := fun x hx => (h3' x hx).imp id (fun h => by omega)
                        exact hK _ _ ⟨v109, _, v111, _, _, _, v115, rfl, ⟨hI.t0, hI.t1, hI.t2, fun _ => ⟨s', rfl, hvd.to h2 (fun x hx => by have := (hlvb x (by simpa using hx)).1; omega)⟩, fun _ => ⟨NB, rfl, (fun h => Bool.noConfusion (show true = false from h))⟩, fun _ => ⟨a3, c3, s', rfl, rfl, h1, hX⟩, hI.t6, hI.tch.trans (h2.mono (fun b hb => .inl (List.mem_cons_of_mem _ (List.mem_cons_of_mem _ hb)))), (by obtain ⟨curO, o1, o2, o3⟩ := hI.aO; exact ⟨curO, h2.arr o1 (fun e => by have := (hlvb _ (by simpa using e)).1; omega), o2, fun h => by have := hcl 7 (by decide) (show L 7 = true from h) 5 (by decide); rw [hL] at this; cases this⟩), (fun h => Bool.noConfusion (show true = false from h)), (fun h => Bool.noConfusion (show true = false from h)), (fun h => by rw [show L 3 = false from h] at h3; cases h3)⟩⟩
                      · rintro L a wx ⟨v109, v110, v111, v112, v113, v114, v115, rfl, hI⟩ hL hdep hcl K hK
                        obtain rfl := hI.t0 (hdep 0 (by decide))
                        obtain rfl := hI.t1 (hdep 1 (by decide))
                        obtain rfl := hI.t2 (hdep 2 (by decide))
                        go_simp
                        exact hK _ _ ⟨_, _, _, v112, v113, v114, _, rfl, ⟨hI.t0, hI.t1, hI.t2, hI.t3, hI.t4, hI.t5, fun _ => rfl, hI.tch, hI.aO, hI.n5, hI.gf, hI.r3⟩⟩
                      · rintro L a wx ⟨v109, v110, v111, v112, v113, v114, v115, rfl, hI⟩ hL hdep hcl K hK
                        obtain rfl := hI.t6 (hdep 6 (by decide))
                        obtain rfl := hI.t0 (hdep 0 (by decide))
                        obtain rfl := hI.t1 (hdep 1 (by decide))
                        obtain rfl := hI.t2 (hdep 2 (by decide))
                        have h3 : L 3 = true := hdep 3 (by decide)
                        obtain ⟨s', rfl, hvd⟩ := hI.t3 h3
                        obtain ⟨NB, rfl, -⟩ := hI.t4 (hdep 4 (by decide))
                        have H5 : L 5 = true := hdep 5 (by decide)
                        obtain ⟨a3, c3, s2, rfl, hs2, hrow, hX⟩ := hI.t5 H5
                        obtain rfl := vstr_inj hs2
                        obtain ⟨curO, o1, o2, o3⟩ := hI.aO
                        obtain rfl := o2 hL
                        have hlt0 := M12.out.lt
                        have hrg := HRG.out
                        have c0 := (o1.cell 4).trans (show _ = some (Value.slice ak ks.length ckk) from rfl)
                        have f0 := o1.frozen 4
                        have hrl := World.ownsRow.lt hrow
                        have htc := tch_cell wx ⟨g5, 4, none⟩ (.slice a3 (ks ++ [s']).length c3)
                        have hrow2 := htc.row hrow (fun x hx e => by have := (hrl x hx).1; simp at e; omega)
                        have ho2 := o1.store 4 (.slice a3 (ks ++ [s']).length c3)
                        have hlenk : (ks ++ [s']).length = (ks ++ [s']).length := rfl
                        generalize hKN : (ks ++ [s']).length = KN at *
                        go_simp
                        exact hK _ _ ⟨_, _, _, _, _, _, _, rfl, ⟨hI.t0, hI.t1, hI.t2, fun _ => ⟨s', rfl, hvd.to htc (fun x hx => by simp at hx; omega)⟩, (fun _ => ⟨NB, rfl, fun h => by rw [show L 5 = false from h] at H5; cases H5⟩), fun _ => ⟨a3, c3, s', by rw [hKN], rfl, by rw [hKN]; exact hrow2, hX⟩, hI.t6, hI.tch.trans (htc.mono (fun b hb => .inl (by simp at hb; subst hb; exact List.mem_cons_of_mem _ (List.mem_cons_self ..)))), ⟨_, ho2, (fun h => Bool.noConfusion (show true = false from h)), fun _ => rfl⟩, (fun h => by rw [show L 5 = false from h] at H5; cases H5), (fun h => by rw [show L 5 = false from h] at H5; cases H5), (fun h => by rw [show L 3 = false from h] at h3; cases h3)⟩⟩
                      · rintro a wx ⟨v109, v110, v111, v112, v113, v114, v115, rfl, hI⟩
                        obtain ⟨ak2, ck2, s20, e114, es, hrow9, hX⟩ := hI.t5 rfl
                        obtain ⟨s21, es2, k13, bad13, hk13, hr13, hs13, hz13⟩ := hI.t3 rfl
                        subst e114
                        obtain rfl := vstr_inj (es.symm.trans es2)
                        subst es
                        obtain ⟨curO, hO9, -, o3⟩ := hI.aO
                        obtain rfl := o3 rfl
                        have htch := hI.tch
                        have M13 := Lib.hid (LsM.addK M12.out hR htch hO9 hrow9 hX hr13 hk13)
                        have HK13 := Lib.hid hk13
                        have HS13 := Lib.hid hs13
                        have HZ13 := Lib.hid hz13
                        clear hI es2 hrow9 hX hk13 hr13 hs13 hz13 hO9 htch
                        go_upto_region 39 with (go_at_call 31; refine (rBlanks_any R bs _ c k13 bad13 wx M13.out.ref).mono ?_; rintro e w14 ⟨rfl, hg14, k14, hk14, hr14, hd14⟩)
                        have M14 := Lib.hid (M13.out.past hR hg14 hr14 hk14)
                        have HK14 := Lib.hid hk14
                        have HD14 := Lib.hid hd14
                        clear hg14 hk14 hr14 hd14 M13
                        go_upto_region 40 with (go_at_call 53; refine (rMust_any R [58] bs _ c k14 bad13 w14 M14.out.ref (by simp)).mono ?_; rintro e w20 ⟨rfl, hg20, k20, bad20, hk20, hr20, hs20, hz20⟩)
                        have M20 := Lib.hid (M14.out.past hR hg20 hr20 hk20)
                        have HQ : Hid (q ≤ k20) := by have := HK12.out; have := HK13.out; have := HK14.out; show _ ≤ _; omega
                        have HQL : Hid (l.length ≤ k20 ∧ (ks ++ [s20]).length ≤ k20 + 1) := by have := hL2.out.1; have := hL2.out.2.1; have := HQ.out; show _ ∧ _; rw [List.length_append, List.length_singleton]; omega
                        have HLV := Lib.hid (ob_v hL2.out.2.2 HD12.out HS13.out HZ13.out HD14.out hs20 hz20)
                        clear hg20 hk20 hr20 hs20 hz20 M14 HK12 HK13 HK14 HS13 HZ13 HD12 HD14 M12 hOUT hKEY hSTR
                        have hCALL : Hid (∀ W, RefAt W R bs (some ⟨b, off, none⟩) c k20 bad20 → R < W.heap.size → Calls Tryd.prog 30 #[.pointer (some ⟨R, 0, none⟩), .int .i64 ((most : Int) - 1)] W (ValP R bs (some ⟨b, off, none⟩) c k20 bad20 (most - 1) W)) := fun W hW hRW => by
                          have := ih (most - 1) (by have := H0.out; omega) (by omega) R bs (some ⟨b, off, none⟩) c k20 bad20 W hW hlim hRW
                          rw [show ((most - 1 : Nat) : Int) = (most : Int) - 1 by have := H0.out; omega] at this
                          exact this
                        have hDEEP : Hid (IntKind.i64.wrap ((most : Int) - 1) = (most : Int) - 1) := by show _ = _; rw [IntKind.wrap_i64]; have := H0.out; omega
                        have HRG : Hid (R < g5) := by have := H45.out; show _ < _; omega
                        have HRW : Hid (R < w20.heap.size) := by have := M20.out.lt; have := HRG.out; show _ < _; omega
                        have hm30 : Hid (l.length + 1 ≤ 1073741824) := by have := hL2.out.1; have := M20.out.ref.at_; have := HQ.out; show _ ≤ _; omega
                        have hOUT := M20.out.out
                        have hROW := M20.out.row
                        refine wp_region_steps [[], [0], [], [], [3], [2, 4], [5], [1, 6, 5], [0, 1, 2, 3, 4, 5, 6, 7], [8, 0, 1, 2, 3, 4, 5, 6, 7]] (by kernel_rfl) (by kernel_rfl) (fun L a wx => ∃ v120 v121 v122 v123 v124 v125 v126 v127 v128, a = ⟨#[.pointer (some ⟨R, 0, none⟩), .int .i64 (most : Int), undef, undef, .pointer (some ⟨w.heap.size, 0, none⟩), .pointer (some ⟨g5, 0, none⟩), .int .u8 125, .pointer (some ⟨R, 0, none⟩), .tuple #[], .pointer (some ⟨R, 0, none⟩), .pointer (some ⟨R, 0, none⟩), .pointer (some ⟨R, 2, none⟩), .bool false, .bool false, .pointer (some ⟨R, 0, none⟩), .pointer (some ⟨R, 0, none⟩), .pointer (some ⟨R, 1, none⟩), .int .i64 (k2 : Int), .pointer (some ⟨R, 0, none⟩), .pointer (some ⟨R, 0, none⟩), .pointer (some ⟨R, 0, none⟩), .slice (some ⟨b, off, none⟩) bs.length c, .int .i64 (bs.length : Int), .bool false, .bool false, undef, undef, undef, undef, .agg #[.int .i64 0, .string ⟨#[]⟩, .int .u64 0, .slice none 0 0, .slice none 0 0], .pointer (some ⟨R, 0, none⟩), .pointer (some ⟨R, 0, none⟩), .pointer (some ⟨R, 0, none⟩), .slice (some ⟨b, off, none⟩) bs.length c, .pointer (some ⟨R, 0, none⟩), .pointer (some ⟨R, 0, none⟩), .pointer (some ⟨R, 1, none⟩), .int .i64 (k2 : Int), .pointer (some ⟨b, off + k2, none⟩), .int .u8 123, undef, undef, undef, undef, .bool false, .bool false, undef, undef, .bool false, .bool false, undef, undef, undef, .bool false, .bool false, undef, undef, undef, .bool false, .bool false, undef, undef, undef, undef, .bool true, .bool false, .bool true, .pointer (some ⟨g5, 0, none⟩), .pointer (some ⟨R, 0, none⟩), .pointer (some ⟨R, 0, none⟩), .pointer (some ⟨R, 0, none⟩), .slice (some ⟨b, off, none⟩) bs.length c, .pointer (some ⟨R, 0, none⟩), .pointer (some ⟨R, 0, none⟩), .pointer (some ⟨R, 1, none⟩), .int .i64 (k2 : Int), .pointer (some ⟨b, off + k2, none⟩), .int .u8 123, .bool true, .pointer (some ⟨g5, 0, none⟩), .pointer (some ⟨R, 0, none⟩), .pointer (some ⟨R, 0, none⟩), .pointer (some ⟨R, 1, none⟩), .int .i64 (k2 : Int), .int .i64 ((k2 : Int) + 1), .pointer (some ⟨R, 0, none⟩), .pointer (some ⟨R, 1, none⟩), .int .i64 (most : Int), .bool false, undef, undef, undef, undef, .pointer (some ⟨R, 0, none⟩), .tuple #[], .pointer (some ⟨R, 0, none⟩), .int .u8 125, .bool false, undef, .pointer (some ⟨R, 0, none⟩), .pointer (some ⟨R, 0, none⟩), .pointer (some ⟨R, 2, none⟩), .bool false, .bool true, .pointer (some ⟨g5, 0, none⟩), .int .i64 6, .bool true, .pointer (some ⟨R, 0, none⟩), .tuple #[], v109, v110, v111, .string (bstr s20), v113, .slice ak2 (ks.length + 1) ck2, v115, .pointer (some ⟨R, 0, none⟩), .tuple #[], .pointer (some ⟨R, 0, none⟩), .tuple #[], v120, v121, v122, v123, v124, v125, v126, v127, v128, u129, u130, u131, u132, u133, u134, u135, u136, undef], []⟩ ∧ InvRow6 w20 R bs (some ⟨b, off, none⟩) c k20 (most - 1) g5 6 l.length bad20 most (.slice al l.length cl) (.slice ak2 (ks ++ [s20]).length ck2) xs L v120 v121 v122 v123 v124 v125 v126 v127 v128 wx) ?_ ⟨?_, ?_, ?_, ?_, ?_, ?_, ?_, ?_, ?_, ?_, trivial⟩ ?_
                        · refine ⟨_, _, _, _, _, _, _, _, _, rfl, ⟨?_, ?_, ?_, ?_, ?_, ?_, ?_, ?_, ?_, ⟨rfl, rfl, rfl, Nat.le_refl _, fun _ _ _ => rfl⟩, ⟨_, hOUT.drew, fun _ => rfl, fun h => absurd h (by decide)⟩, fun _ => hROW, fun _ => gb_drew (World.grownBy.refl _ _), fun _ => M20.out.ref.drew⟩⟩ <;> (intro h; exact absurd h (by decide))
                        · rintro L a wx ⟨v120, v121, v122, v123, v124, v125, v126, v127, v128, rfl, hI⟩ hL hdep hcl K hK
                          go_simp
                          exact hK _ _ ⟨_, v121, v122, v123, v124, v125, v126, v127, v128, rfl, ⟨fun _ => rfl, hI.t1, hI.t2, hI.t3, hI.t4, hI.t5, hI.t6, hI.t7, hI.t8, hI.tch, hI.aO, hI.n7, hI.g7, hI.r5⟩⟩
                        · rintro L a wx ⟨v120, v121, v122, v123, v124, v125, v126, v127, v128, rfl, hI⟩ hL hdep hcl K hK
                          obtain rfl := hI.t0 (hdep 0 (by decide))
                          obtain ⟨curO, o1, o2, o3⟩ := hI.aO
                          obtain rfl := o2 (by cases h9 : L 9 with | false => rfl | true => exact absurd (hcl 9 (by decide) h9 1 (by decide)) (by rw [hL]; decide))
                          have c0 := (o1.cell 3).trans (show _ = some (Value.slice al l.length cl) from rfl)
                          go_simp
                          exact hK _ _ ⟨_, _, v122, v123, v124, v125, v126, v127, v128, rfl, ⟨hI.t0, fun _ => rfl, hI.t2, hI.t3, hI.t4, hI.t5, hI.t6, hI.t7, hI.t8, hI.tch, ⟨_, o1, fun _ => rfl, o3⟩, hI.n7, hI.g7, hI.r5⟩⟩
                        · rintro L a wx ⟨v120, v121, v122, v123, v124, v125, v126, v127, v128, rfl, hI⟩ hL hdep hcl K hK
                          go_simp
                          exact hK _ _ ⟨v120, v121, _, v123, v124, v125, v126, v127, v128, rfl, ⟨hI.t0, hI.t1, fun _ => rfl, hI.t3, hI.t4, hI.t5, hI.t6, hI.t7, hI.t8, hI.tch, hI.aO, hI.n7, hI.g7, hI.r5⟩⟩
                        · rintro L a wx ⟨v120, v121, v122, v123, v124, v125, v126, v127, v128, rfl, hI⟩ hL hdep hcl K hK
                          go_simp
                          exact hK _ _ ⟨v120, v121, v122, _, v124, v125, v126, v127, v128, rfl, ⟨hI.t0, hI.t1, hI.t2, fun _ => rfl, hI.t4, hI.t5, hI.t6, hI.t7, hI.t8, hI.tch, hI.aO, hI.n7, hI.g7, hI.r5⟩⟩
                        · rintro L a wx ⟨v120, v121, v122, v123, v124, v125, v126, v127, v128, rfl, hI⟩ hL hdep hcl K hK
                          obtain rfl := hI.t3 (hdep 3 (by decide))
                          have hwr := hDEEP.out
                          go_simp
                          exact hK _ _ ⟨v120, v121, v122, _, _, v125, v126, v127, v128, rfl, ⟨hI.t0, hI.t1, hI.t2, hI.t3, fun _ => rfl, hI.t5, hI.t6, hI.t7, hI.t8, hI.tch, hI.aO, hI.n7, hI.g7, hI.r5⟩⟩
                        · rintro L a wx ⟨v120, v121, v122, v123, v124, v125, v126, v127, v128, rfl, hI⟩ hL hdep hcl K hK
                          obtain rfl := hI.t2 (hdep 2 (by decide))
                          obtain rfl := hI.t4 (hdep 4 (by decide))
                          have h7 : L 7 = false := by cases h7 : L 7 with | false => rfl | true => exact absurd (hcl 6 (by decide) (hcl 7 (by decide) h7 6 (by decide)) 5 (by decide)) (by rw [hL]; decide)
                          have hrf := hI.r5 hL
                          have hgg := hI.g7 h7
                          have hlvb := World.ownsRow.lt M20.out.row
                          have hgs := hgg.size
                          go_simp
                          refine (hCALL.out _ hrf (Nat.lt_of_lt_of_le HRW.out hgs)).mono ?_
                          rintro e w' ⟨hg', v', cs', k', bad', rfl, hk', hr', hsv, hs', hb', hz'⟩
                          obtain ⟨k1, s1, n1, a1, l1, c1, b1, m1, d1, rfl⟩ := pv_shape (sv_pv _ _ hsv)
                          exact hK _ _ ⟨v120, v121, _, v123, _, _, v126, v127, v128, rfl, ⟨hI.t0, hI.t1, hI.t2, hI.t3, hI.t4, fun _ => ⟨k1, s1, n1, a1, l1, c1, b1, m1, d1, rfl, v', k', bad', hk', hr', sv_to (fun x hx hxl => ⟨Nat.le_trans hgs hx, hxl, fun h => by rw [show L 7 = true from h] at h7; cases h7⟩) (fun _ _ _ => rfl) _ _ hsv, hs', hb', hz'⟩, (fun h => absurd (hcl 6 (by decide) h 5 (by decide)) (by rw [hL]; decide)), (fun h => by rw [show L 7 = true from h] at h7; cases h7), hI.t8, hI.tch.trans ((Tch.of_grown hg').mono (by simp)), (by obtain ⟨curO, o1, o2, o3⟩ := hI.aO; exact ⟨curO, o1.grown hg' (by intro e; injection e with e; have := HRG.out; omega), o2, o3⟩), fun h => (Tch.of_grown hg').row (hI.n7 h) (fun x hx e => by have := (hlvb x hx).1; have := HRG.out; simp at e; omega), fun h => gb_trans (hI.g7 h) hg', (fun h => Bool.noConfusion (show true = false from h))⟩⟩
                        · rintro L a wx ⟨v120, v121, v122, v123, v124, v125, v126, v127, v128, rfl, hI⟩ hL hdep hcl K hK
                          have h7 : L 7 = false := by cases h7 : L 7 with | false => rfl | true => exact absurd (hcl 7 (by decide) h7 6 (by decide)) (by rw [hL]; decide)
                          have h5 : L 5 = true := hdep 5 (by decide)
                          obtain ⟨k1, s1, n1, a1, l1, c1, b1, m1, d1, rfl, hvd⟩ := hI.t5 h5
                          have hb := (Below.refl wx.heap.size wx).alloc (Nat.le_refl _) (.cells #[.int .i64 k1, .string s1, .int .u64 n1, .slice a1 l1 c1, .slice b1 m1 d1] 26)
                          have hN := Arr.new wx 26 [.int .i64 k1, .string s1, .int .u64 n1, .slice a1 l1 c1, .slice b1 m1 d1]
                          go_simp
                          exact hK _ _ ⟨v120, v121, v122, v123, v124, _, _, v127, v128, rfl, ⟨hI.t0, hI.t1, hI.t2, hI.t3, hI.t4, fun _ => ⟨k1, s1, n1, a1, l1, c1, b1, m1, d1, rfl, hvd.to (Tch.of_below hb []) (by simp) (by simp) (fun x hx _ => ⟨hx.1, by have := hx.2.1; simp; omega, hx.2.2⟩)⟩, fun _ => ⟨_, rfl, fun _ => ⟨_, rfl, rfl, by simp [Value.oneCell'], hN⟩⟩, (fun h => by rw [show L 7 = true from h] at h7; cases h7), hI.t8, hI.tch.trans (Tch.of_below hb _), (by obtain ⟨curO, o1, o2, o3⟩ := hI.aO; exact ⟨curO, o1.kept hb, o2, o3⟩), fun h => (hI.n7 h).alloc _, fun h => gb_trans (hI.g7 h) (gb_of_below hb), (fun h => by rw [show L 5 = false from h] at h5; cases h5)⟩⟩
                        · rintro L a wx ⟨v120, v121, v122, v123, v124, v125, v126, v127, v128, rfl, hI⟩ hL hdep hcl K hK
                          obtain rfl := hI.t1 (hdep 1 (by decide))
                          have h5 : L 5 = true := hdep 5 (by decide)
                          obtain ⟨k1, s1, n1, a1, l1, c1, b1, m1, d1, rfl, hvd⟩ := hI.t5 h5
                          obtain ⟨NB, rfl, hNB⟩ := hI.t6 (hdep 6 (by decide))
                          obtain ⟨cells, hce, hc5, hone, hArr⟩ := hNB hL
                          have hcells : cells = [.int .i64 k1, .string s1, .int .u64 n1, .slice a1 l1 c1, .slice b1 m1 d1] := by have := Value.agg.inj hce; exact (by simpa using congrArg Array.toList this.symm)
                          subst hcells
                          have hrow := hI.n7 hL
                          have hgg := hI.g7 hL
                          have hsz := hgg.size
                          have hlvb := World.ownsRow.lt M20.out.row
                          have hlt0 := M20.out.lt
                          have hrg := HRG.out
                          refine ow_append_R (.tmp 121) (.tmp 126) rfl (g5 + 1) l.length _ _ hrow rfl NB 26 [.int .i64 k1, .string s1, .int .u64 n1, .slice a1 l1 c1, .slice b1 m1 d1] rfl (by simp [Value.oneCell']) rfl hArr hm30.out (by omega) ?_
                          intro v' w' h1 h2 h3
                          obtain ⟨a3, c3, rfl⟩ := row_n h1
                          have hX : ∀ x, Value.ownBlock (.slice a3 (l.length + 1) c3) = some x → (Value.ownBlock (.slice al l.length cl)) = some x ∨ w20.heap.size ≤ x := fun x hx => (h3 x hx).imp id (fun h => by omega)
                          exact hK _ _ ⟨v120, _, v122, v123, v124, _, _, _, v128, rfl, ⟨hI.t0, hI.t1, hI.t2, hI.t3, hI.t4, fun _ => ⟨k1, s1, n1, a1, l1, c1, b1, m1, d1, rfl, hvd.to h2 (fun x hx => by have := (hlvb x (by simpa using hx)).1; omega) (fun x hx hS => by have := (hlvb x (by simpa using hx)).2; have := hS.1; omega) (fun x hx hxl => ⟨hx.1, Nat.lt_of_lt_of_le hxl h2.size, fun _ e => by rcases h3 x e with h | h; have := (hlvb x h).2; have := hx.1; omega; omega⟩)⟩, fun _ => ⟨NB, rfl, (fun h => Bool.noConfusion (show true = false from h))⟩, fun _ => ⟨a3, c3, _, rfl, rfl, rfl, h1, hX⟩, hI.t8, hI.tch.trans (h2.mono (fun b hb => .inl (List.mem_cons_of_mem _ (List.mem_cons_of_mem _ hb)))), (by obtain ⟨curO, o1, o2, o3⟩ := hI.aO; exact ⟨curO, h2.arr o1 (fun e => by have := (hlvb _ (by simpa using e)).1; omega), o2, fun h => by have := hcl 9 (by decide) (show L 9 = true from h) 7 (by decide); rw [hL] at this; cases this⟩), (fun h => Bool.noConfusion (show true = false from h)), (fun h => Bool.noConfusion (show true = false from h)), (fun h => by rw [show L 5 = false from h] at h5; cases h5)⟩⟩
                        · rintro L a wx ⟨v120, v121, v122, v123, v124, v125, v126, v127, v128, rfl, hI⟩ hL hdep hcl K hK
                          obtain rfl := hI.t0 (hdep 0 (by decide))
                          obtain rfl := hI.t1 (hdep 1 (by decide))
                          obtain rfl := hI.t2 (hdep 2 (by decide))
                          obtain rfl := hI.t3 (hdep 3 (by decide))
                          obtain rfl := hI.t4 (hdep 4 (by decide))
                          go_simp
                          exact hK _ _ ⟨_, _, _, _, _, v125, v126, v127, _, rfl, ⟨hI.t0, hI.t1, hI.t2, hI.t3, hI.t4, hI.t5, hI.t6, hI.t7, fun _ => rfl, hI.tch, hI.aO, hI.n7, hI.g7, hI.r5⟩⟩
                        · rintro L a wx ⟨v120, v121, v122, v123, v124, v125, v126, v127, v128, rfl, hI⟩ hL hdep hcl K hK
                          obtain rfl := hI.t8 (hdep 8 (by decide))
                          obtain rfl := hI.t0 (hdep 0 (by decide))
                          obtain rfl := hI.t1 (hdep 1 (by decide))
                          obtain rfl := hI.t2 (hdep 2 (by decide))
                          obtain rfl := hI.t3 (hdep 3 (by decide))
                          obtain rfl := hI.t4 (hdep 4 (by decide))
                          have h5 : L 5 = true := hdep 5 (by decide)
                          obtain ⟨k1, s1, n1, a1, l1, c1, b1, m1, d1, rfl, hvd⟩ := hI.t5 h5
                          obtain ⟨NB, rfl, -⟩ := hI.t6 (hdep 6 (by decide))
                          have H7 : L 7 = true := hdep 7 (by decide)
                          obtain ⟨a3, c3, cells, rfl, hce, hc5, hrow, hX⟩ := hI.t7 H7
                          have hcells : cells = [.int .i64 k1, .string s1, .int .u64 n1, .slice a1 l1 c1, .slice b1 m1 d1] := by have := Value.agg.inj hce; exact (by simpa using congrArg Array.toList this.symm)
                          subst hcells
                          obtain ⟨curO, o1, o2, o3⟩ := hI.aO
                          obtain rfl := o2 hL
                          have hlt0 := M20.out.lt
                          have hrg := HRG.out
                          have c0 := (o1.cell 3).trans (show _ = some (Value.slice al l.length cl) from rfl)
                          have f0 := o1.frozen 3
                          have hrl := World.ownsRow.lt hrow
                          have htc := tch_cell wx ⟨g5, 3, none⟩ (.slice a3 (l.length + 1) c3)
                          have hrow2 := htc.row hrow (fun x hx e => by have := (hrl x hx).1; simp at e; omega)
                          have ho2 := o1.store 3 (.slice a3 (l.length + 1) c3)
                          go_simp
                          exact hK _ _ ⟨_, _, _, _, _, _, _, _, _, rfl, ⟨hI.t0, hI.t1, hI.t2, hI.t3, hI.t4, fun _ => ⟨k1, s1, n1, a1, l1, c1, b1, m1, d1, rfl, hvd.to htc (fun x hx => by simp at hx; omega) (fun x hx hS => by simp at hx; have := hS.1; omega) (fun x hx hxl => ⟨hx.1, by rw [World.size_setCell]; exact hx.2.1, hx.2.2⟩)⟩, (fun _ => ⟨NB, rfl, fun h => by rw [show L 7 = false from h] at H7; cases H7⟩), fun _ => ⟨a3, c3, _, rfl, rfl, rfl, hrow2, hX⟩, hI.t8, hI.tch.trans (htc.mono (fun b hb => .inl (by simp at hb; subst hb; exact List.mem_cons_of_mem _ (List.mem_cons_self ..)))), ⟨_, ho2, (fun h => Bool.noConfusion (show true = false from h)), fun _ => rfl⟩, (fun h => by rw [show L 7 = false from h] at H7; cases H7), (fun h => by rw [show L 7 = false from h] at H7; cases H7), (fun h => by rw [show L 5 = false from h] at h5; cases h5)⟩⟩
                        · rintro a wx ⟨v120, v121, v122, v123, v124, v125, v126, v127, v128, rfl, hI⟩
                          obtain ⟨a3, c3, cells, e127, hce, hc5, hrow9, hX⟩ := hI.t7 rfl
                          obtain ⟨k1, s1, n1, a1, l1, c1, b1, m1, d1, e125, v', k13, bad13, hk13, hr13, hsv13, hs13, hb13, hz13⟩ := hI.t5 rfl
                          subst e127
                          subst e125
                          have hcells : cells = [.int .i64 k1, .string s1, .int .u64 n1, .slice a1 l1 c1, .slice b1 m1 d1] := by have := Value.agg.inj hce; exact (by simpa using congrArg Array.toList this.symm)
                          subst hcells
                          obtain ⟨curO, hO9, -, o3⟩ := hI.aO
                          obtain rfl := o3 rfl
                          have htch := hI.tch
                          have M13 := Lib.hid (LsM.addL M20.out hR htch hO9 hrow9 hX hr13 hk13 (sv_to (fun x hx _ => ⟨hx.1, hx.2.1, hx.2.2 rfl⟩) (fun _ _ _ => rfl) _ _ hsv13))
                          have HK13 := Lib.hid hk13
                          have HV13 : Hid (VP bs k20 (most - 1) bad20 v' k13 bad13) := Lib.hid ⟨hs13, hb13, hz13⟩
                          clear hI hce hc5 hrow9 hX hk13 hr13 hsv13 hs13 hb13 hz13 hO9 htch
                          go_upto_region 42 with (go_at_call 31; refine (rBlanks_any R bs _ c k13 bad13 wx M13.out.ref).mono ?_; rintro e w14 ⟨rfl, hg14, k14, hk14, hr14, hd14⟩)
                          have M14 := Lib.hid (M13.out.past hR hg14 hr14 hk14)
                          have HK14 := Lib.hid hk14
                          have HD14 := Lib.hid hd14
                          have hIS2 : Hid (Calls Tryd.prog 55 #[.pointer (some ⟨R, 0, none⟩), .int .u8 125] w14 _) := rIs_any R 125 bs _ c k14 bad13 w14 hr14
                          clear hg14 hk14 hr14 hd14 M13
                          go_upto_region 43 with (go_at_call 55; refine hIS2.out.mono ?_; rintro e w15 ⟨hg15, ⟨rfl, hlt15, heq15, hr15⟩ | ⟨rfl, hne15, hr15⟩⟩)
                          · have HE : Hid (ValE R bs (some ⟨b, off, none⟩) c k most w g5 (JV.mk 6 [] 0 (l ++ [v']) (ks ++ [s20])) [.int .i64 6, .string ⟨#[]⟩, .int .u64 0, .slice a3 (l.length + 1) c3, .slice ak2 (ks ++ [s20]).length ck2] (k14 + 1) bad13 w15) := LsM.fin (most := most) (M14.out.past hR hg15 hr15 (Nat.le_succ _)) (by decide) (lsv_close HLV.out HV13.out.1 HV13.out.2.1 HV13.out.2.2 HD14.out hlt15 heq15)
                            clear hg15 hlt15 heq15 hr15
                            have hO := HE.out.out
                            have hS := HE.out.res
                            go_wp2_with (first
                              | ((with_reducible show wpList _ _ _ (⟨some 134, .load _ _, _, _, _, _⟩ :: _) _ _); refine wl_load rfl 26 _ rfl g5 0 rfl 26 [.int .i64 6, .string ⟨#[]⟩, .int .u64 0, .slice a3 (l.length + 1) c3, .slice ak2 (ks ++ [s20]).length ck2] [.int .i64 6, .string ⟨#[]⟩, .int .u64 0, .slice a3 (l.length + 1) c3, .slice ak2 (ks ++ [s20]).length ck2] hO (fun j v h => (by rw [Nat.zero_add]; exact h)) _ Tryd.underlying26 rfl (by kernel_rfl) ?_)
                              | ((with_reducible show wpList _ _ _ (⟨none, .store _ (.tmp 4) _, _, _, _, _⟩ :: _) _ _); refine wl_store rfl 26 _ _ rfl w.heap.size 0 rfl [.int .i64 6, .string ⟨#[]⟩, .int .u64 0, .slice a3 (l.length + 1) c3, .slice ak2 (ks ++ [s20]).length ck2] rfl 26 zC hS (by kernel_rfl) (by simp [zC]) (by simp [Value.oneCell']) ?_; intro w9 hR9 hg9 hs9))
                            rw [whole_store zC [.int .i64 6, .string ⟨#[]⟩, .int .u64 0, .slice a3 (l.length + 1) c3, .slice ak2 (ks ++ [s20]).length ck2] rfl] at hR9
                            exact end_cell rfl w.heap.size 26 _ _ rfl hR9 Tryd.underlying26 rfl (by kernel_rfl) rfl (HE.out.fin hR hg9)
                          · have M15 := Lib.hid (M14.out.past hR hg15 hr15 (Nat.le_refl _))
                            have HNE15 := Lib.hid hne15
                            clear hg15 hr15 hne15
                            go_wp2_with (go_at_call 53; refine (rMust_any R [44] bs _ c k14 bad13 w15 M15.out.ref (by simp)).mono ?_; rintro e w16 ⟨rfl, hg16, k16, bad16, hk16, hr16, hs16, hz16⟩)
                            have M16 := M15.out.past hR hg16 hr16 hk16
                            have hstep := lsv_comma HLV.out HV13.out.1 HV13.out.2.1 HV13.out.2.2 HD14.out HNE15.out (Nat.le_trans HK13.out HK14.out) hk16 hr16.at_ hs16 hz16 HQL.out.1 HQL.out.2
                            go_roundw
                            case rel => exact ⟨l ++ [v'], (ks ++ [s20]), k16, bad16, _, _, _, M16, hstep.1⟩
                            case measure =>
                              have m1 := (hr16.arr.cell 1).trans (show _ = some (Value.int .i64 (k16 : Int)) from rfl)
                              have m2 := (HM.out.ref.arr.cell 1).trans (show _ = some (Value.int .i64 (q : Int)) from rfl)
                              have n1 := (hr16.arr.cell 2).trans (show _ = some (Value.bool bad16) from rfl)
                              have n2 := (HM.out.ref.arr.cell 2).trans (show _ = some (Value.bool false) from rfl)
                              have q1 := hr16.at_
                              have q2 := HQ.out
                              have q3 := HK13.out
                              have q4 := HK14.out
                              have q5 := hstep.2
                              simp only [m1, m2, n1, n2, Option.getD_some, intOf]
                              cases bad16 with
                              | true => simp only []; omega
                              | false => have := q5 rfl; simp only []; omega
          · obtain ⟨m1, m2, m3, m4, m5, m6⟩ := hk
            have hval : Hid (valF most (bs.drop k) = (numF (bs.drop k2)).map fun (n, q) => (JV.mk 3 [] n [] [], q)) := by
              show _ = _
              rw [val_eq, ← HD2.out, HDR.out]
              simp only [if_neg m1, if_neg m2, if_neg m3, if_neg m4, if_neg m5, if_neg m6]
            have e1 : ((x.toNat : Int) == 110) = false := beq_eq_false_iff_ne.2 (fun e => m1 ((u8_eq x 110).1 e))
            have e2 : ((x.toNat : Int) == 102) = false := beq_eq_false_iff_ne.2 (fun e => m2 ((u8_eq x 102).1 e))
            have e3 : ((x.toNat : Int) == 116) = false := beq_eq_false_iff_ne.2 (fun e => m3 ((u8_eq x 116).1 e))
            have e4 : ((x.toNat : Int) == 34) = false := beq_eq_false_iff_ne.2 (fun e => m4 ((u8_eq x 34).1 e))
            have e5 : ((x.toNat : Int) == 91) = false := beq_eq_false_iff_ne.2 (fun e => m5 ((u8_eq x 91).1 e))
            have e6 : ((x.toNat : Int) == 123) = false := beq_eq_false_iff_ne.2 (fun e => m6 ((u8_eq x 123).1 e))
            clear HDR m1 m2 m3 m4 m5 m6
            have c50 := (A5.out.cell 0).trans (show _ = some (Value.int .i64 0) from rfl)
            have f50 := A5.out.frozen 0
            go_upto_region 8 with fail
            have hset := gb_cellAt W5 g5 0 (.int .i64 3)
            have A6 := Lib.hid (A5.out.store 0 (.int .i64 3))
            have HR6 := Lib.hid (HR5.out.past hset (by have := H45.out; omega))
            have GB6 := Lib.hid (gb_above GB5.out hset (by have := H45.out; omega))
            have S6 := Lib.hid (A4.out.grown hset (by intro e; injection e with e; have := H45.out; omega))
            generalize W5.setCell ⟨g5, 0, none⟩ (.int .i64 3) = W6 at *
            clear c50 f50 hset A5 HR5 GB5 A4
            go_upto_region 45 with (go_at_call 56; refine (rNum_any R bs _ c k2 false W6 HR6.out).mono ?_; rintro e w7 ⟨hg7, n, k7, bad7, rfl, hn7, hk7, hr7, hs7, hz7⟩; have A7 := Lib.hid (A6.out.grown hg7 (by intro e; injection e with e; have := H45.out; omega)); have c72 := (A7.out.cell 2).trans (show _ = some (Value.int .u64 0) from rfl); have f72 := A7.out.frozen 2)
            have hset := gb_cellAt w7 g5 2 (.int .u64 (n : Int))
            have HE : Hid (ValE R bs (some ⟨b, off, none⟩) c k most w g5 (JV.mk 3 [] n [] []) [.int .i64 3, .string ⟨#[]⟩, .int .u64 (n : Int), .slice none 0 0, .slice none 0 0] k7 bad7 (w7.setCell ⟨g5, 2, none⟩ (.int .u64 (n : Int)))) := {
              gb := gb_above (gb_trans GB6.out hg7) hset (by have := H45.out; omega)
              res := (S6.out.grown hg7 (by intro e; injection e with e; omega)).grown hset (by intro e; injection e with e; have := H45.out; omega)
              out := A7.out.store 2 (.int .u64 (n : Int))
              ne := H45.out
              ref := hr7.past hset (by have := H45.out; omega)
              le := by have := HK2.out; omega
              sv := sv_plain (s := []) ⟨by decide, by decide, hn7⟩
              ok := fun x r he => by
                rw [hval.out] at he
                cases hm : numF (bs.drop k2) with
                | none => rw [hm] at he; cases he
                | some q => obtain ⟨s0, r0⟩ := q; obtain ⟨e1, e2, e3⟩ := hs7 s0 r0 hm; rw [hm] at he; cases he; exact ⟨by rw [e1], e2, e3⟩
              no := fun he => by
                rw [hval.out] at he
                cases hm : numF (bs.drop k2) with
                | none => exact hz7 hm
                | some q => rw [hm] at he; cases he }
            generalize w7.setCell ⟨g5, 2, none⟩ (.int .u64 (n : Int)) = w8 at *
            clear hg7 hr7 hs7 hz7 hk7 hn7 A6 A7 S6 GB6 HR6 c72 f72 hset
            have hO := HE.out.out
            have hS := HE.out.res
            go_wp2_with (first
              | ((with_reducible show wpList _ _ _ (⟨some 137, .load _ _, _, _, _, _⟩ :: _) _ _); refine wl_load rfl 26 _ rfl g5 0 rfl 26 [.int .i64 3, .string ⟨#[]⟩, .int .u64 (n : Int), .slice none 0 0, .slice none 0 0] [.int .i64 3, .string ⟨#[]⟩, .int .u64 (n : Int), .slice none 0 0, .slice none 0 0] hO (fun j v h => (by rw [Nat.zero_add]; exact h)) _ Tryd.underlying26 rfl (by kernel_rfl) ?_)
              | ((with_reducible show wpList _ _ _ (⟨none, .store _ (.tmp 4) _, _, _, _, _⟩ :: _) _ _); refine wl_store rfl 26 _ _ rfl w.heap.size 0 rfl [.int .i64 3, .string ⟨#[]⟩, .int .u64 (n : Int), .slice none 0 0, .slice none 0 0] rfl 26 zC hS (by kernel_rfl) (by simp [zC]) (by simp [Value.oneCell']) ?_; intro w9 hR9 hg9 hs9))
            rw [whole_store zC [.int .i64 3, .string ⟨#[]⟩, .int .u64 (n : Int), .slice none 0 0, .slice none 0 0] rfl] at hR9
            exact end_cell rfl w.heap.size 26 _ _ rfl hR9 Tryd.underlying26 rfl (by kernel_rfl) rfl (HE.out.fin hR hg9)
end Go.Proofs.YtbondnljoalajaaDoor
