/-
  The program's reader: numbers. Conditions: those in each statement.
-/
import Derived.Test.YtiadfijeglbdlaaDoorJyF
namespace Go.Proofs.YtiadfijeglbdlaaDoor
open Go.RowKit

theorem gb_self (w : World) (r : Option Nat) : w.grownBy w r := World.grownBy.refl _ _

set_option maxRecDepth 100000 in
set_option maxHeartbeats 6400000 in
/-- digits -/
theorem number_pos (R : Nat) (xs ds rest : List UInt8) (w : World) (h : RdAt w R xs) (hT : Tabs w) (hsp : ∀ a c, Span w a c xs ds rest) (h0 : ds ≠ []) (hlim : xs.length ≤ 281474976710656) :
    Calls Tryd.prog 62 #[.pointer (some ⟨R, 0, none⟩)] w (FlatRes (if ds.headD 0 = 48 ∧ 1 < ds.length then none else if valD ds < 18446744073709551616 then some (3, [], valD ds, rest) else none) w R) := by
  have hRw := h.lt
  have hB1 : Below w.heap.size w (w.alloc (.cells #[.int .i64 0, .string ⟨#[]⟩, .int .u64 0, .slice none 0 0, .slice none 0 0] 30)) := (Below.refl w.heap.size w).alloc (Nat.le_refl _) _
  have hR0 := Arr.new w 30 [.int .i64 0, .string ⟨#[]⟩, .int .u64 0, .slice none 0 0, .slice none 0 0]
  obtain ⟨a, c, hA, hX⟩ := h.kept (gb hB1 none) (by simp)
  have HT1 := Lib.hid (hT.to hB1)
  have HS := Lib.hid (hsp a c)
  have hxs := (hsp a c).stops
  have hsplit := (hsp a c).split
  have hpos : 0 < ds.length := by cases ds with | nil => exact absurd rfl h0 | cons _ _ => simp
  have hxl : xs.length = ds.length + rest.length := by rw [hsplit, List.length_append]
  have hhead : xs.getD 0 0 = ds.headD 0 := by
    rw [hsplit]
    cases ds with
    | nil => exact absurd rfl h0
    | cons _ _ => rfl
  obtain ⟨b, off, rfl, hbR, hbw, hcell⟩ := hX.mem (by omega)
  have hle := hX.le
  have hbig := hX.big
  have hpa := parse_any ds (hsp none 0).dig (by omega)
  have HRest : Hid (∃ a' c', RdAt (w.alloc (.cells #[.int .i64 0, .string ⟨#[]⟩, .int .u64 0, .slice none 0 0, .slice none 0 0] 30)) R xs ∧ TextAt (w.alloc (.cells #[.int .i64 0, .string ⟨#[]⟩, .int .u64 0, .slice none 0 0, .slice none 0 0] 30)) R a' c' rest ∧ c' = c - ds.length ∧ a' = if c = ds.length then some ⟨b, off, none⟩ else some ⟨b, off + ds.length, none⟩) := by
    have hdr : xs.drop ds.length = rest := by rw [hsplit]; simp
    refine ⟨_, _, ⟨_, _, hA, hX⟩, ?_, rfl, rfl⟩
    by_cases hc : c = ds.length
    · rw [if_pos hc]
      have : rest = [] := List.eq_nil_of_length_eq_zero (by omega)
      rw [this]
      exact TextAt.nil _ _ _ _ (by omega)
    · rw [if_neg hc]
      have := hX.drop ds.length (by omega) (by omega)
      rw [hdr] at this
      exact this
  have c0 := (hA.cell 0).trans (show _ = some (Value.slice (some ⟨b, off, none⟩) xs.length c) from rfl)
  have hstr : (convert 32 9 (.slice (some ⟨b, off, none⟩) ds.length c)).run Tryd.prog (w.alloc (.cells #[.int .i64 0, .string ⟨#[]⟩, .int .u64 0, .slice none 0 0, .slice none 0 0] 30)) = .ok (.string (bstr ds)) (w.alloc (.cells #[.int .i64 0, .string ⟨#[]⟩, .int .u64 0, .slice none 0 0, .slice none 0 0] 30)) := by
    refine run_bstr bt (by kernel_rfl) ⟨rfl, (by omega), (fun e => by cases e), fun _ => ⟨b, off, rfl, hbw, fun j hj => ?_⟩⟩
    rw [hcell j (by omega)]
    rw [hsplit]
    simp [List.getD, List.getElem?_append_left hj]
  have hnat : ds.length ≤ xs.length := by omega
  have hnx : ((ds.length : Nat) : Int) ≤ (xs.length : Int) := by omega
  have hi63 : xs.length ≤ 281474976710656 := hlim
  have HA := Lib.hid hA
  have HLEN : Hid (xs.length - ds.length = rest.length) := by show _ = _; omega
  have HTa : Hid (c = ds.length → TextAt (w.alloc (.cells #[.int .i64 0, .string ⟨#[]⟩, .int .u64 0, .slice none 0 0, .slice none 0 0] 30)) R (some ⟨b, off, none⟩) 0 rest) := fun e => by
    have : rest = [] := List.eq_nil_of_length_eq_zero (by omega)
    rw [this]
    exact TextAt.nil _ _ _ _ (by omega)
  have HTb : Hid (¬ c = ds.length → TextAt (w.alloc (.cells #[.int .i64 0, .string ⟨#[]⟩, .int .u64 0, .slice none 0 0, .slice none 0 0] 30)) R (some ⟨b, off + ds.length, none⟩) (c - ds.length) rest) := fun e => by
    have := hX.drop ds.length (by omega) (by omega)
    rw [show xs.drop ds.length = rest by rw [hsplit]; simp] at this
    exact this
  clear HRest hxl
  have d00 := hcell 0 (by omega)
  rw [Nat.add_zero, hhead] at d00
  have HC := Lib.hid hcell
  obtain ⟨res, hres⟩ : ∃ res, res = (if ds.headD 0 = 48 ∧ 1 < ds.length then none else if valD ds < 18446744073709551616 then some (3, ([] : List UInt8), valD ds, rest) else none) := ⟨_, rfl⟩
  rw [← hres]
  generalize hx0 : ds.headD 0 = x0 at *
  clear hx0 hhead hcell hA hX h hT hsp hsplit
  generalize hn : ds.length = n at *
  rcases hxs with hx | ⟨hx, hy⟩ | ⟨hx, hy⟩
  case' inl => have hx1 : ¬ ((n : Int) < (xs.length : Int)) := (by omega)
  case' inr.inl => have hx1 : ((n : Int) < (xs.length : Int)) := (by omega); have dn := HC.out n hx; generalize xs.getD n 0 = xn at *; have hy1 : ¬ (48 : Int) ≤ (xn.toNat : Int) := (by omega)
  case' inr.inr => have hx1 : ((n : Int) < (xs.length : Int)) := (by omega); have dn := HC.out n hx; generalize xs.getD n 0 = xn at *; have hy1 : (48 : Int) ≤ (xn.toNat : Int) := (by omega); have hy2 : ¬ ((xn.toNat : Int) ≤ 57) := (by omega)
  · have HN := Lib.hid hn
    clear hn
    by_cases h1 : 1 < n
    · have h1i : (1 : Int) < (n : Int) := by omega
      by_cases h48 : x0 = 48
      · have hre : res = none := by rw [hres, if_pos ⟨h48, h1⟩]
        have HRE := Lib.hid hre
        subst h48
        clear hpa hre hres
        go_enter Tryd.func62, Tryd.ntmps62
        go_upto_region 2 with fail
        go_loopw [4] (fun v wr => ∃ m, m ≤ n ∧ v = .int .i64 (m : Int) ∧ wr = (w.alloc (.cells #[.int .i64 0, .string ⟨#[]⟩, .int .u64 0, .slice none 0 0, .slice none 0 0] 30))) (fun v _ => n - (intOf v).toNat)
        case atStart => exact ⟨0, Nat.zero_le _, rfl, rfl⟩
        case round =>
          obtain ⟨m, hm, rfl, rfl⟩ := hrel
          by_cases hmn : m < n
          · have hg := HS.out.digit m (by rw [HN.out]; exact hmn)
            have dm := HC.out m hg.1
            generalize xs.getD m 0 = xm at *
            obtain ⟨hg1, hg2, hg3⟩ := hg
            have hmi : (m : Int) < (xs.length : Int) := by omega
            go_wp2
            go_roundw
            case rel => exact ⟨m + 1, hmn, (by push_cast; rfl), (by first | trivial | rfl)⟩
            case measure => simp [intOf]; omega
          · have hnm : n = m := by omega
            subst hnm
            clear hmn hm
            go_wp2_with (first
              | ((with_reducible show wpList _ _ _ (⟨none, _, _, _, _, _⟩ :: _) _ _); refine wl_store rfl 30 _ _ rfl w.heap.size 0 rfl (flatC 0 [] 0) rfl 30 _ hR0 (by kernel_rfl) (by simp [flatC]) (by simp [flatC, Value.oneCell']) ?_; intro w4 hR4 hg4 hs4))
            rw [flat_store _ rfl] at hR4
            refine end_cell2 rfl w.heap.size 30 _ _ _ rfl hR4 Tryd.underlying30 rfl (by kernel_rfl) rfl rfl ?_
            rw [HRE.out]
            exact ⟨gb_new_row (gb_self _ _) hg4, 0, [], 0, rfl⟩
      · have hre : res = (if valD ds < 18446744073709551616 then some (3, ([] : List UInt8), valD ds, rest) else none) := by rw [hres, if_neg (fun hh => h48 hh.1)]
        have h48i : ((x0.toNat : Int) == 48) = false := beq_eq_false_iff_ne.2 (fun e => h48 (UInt8.toNat_inj.1 (by rw [show (48 : UInt8).toNat = 48 from rfl]; omega)))
        have h48j : ¬ (x0.toNat : Int) = 48 := fun e => h48 (UInt8.toNat_inj.1 (by rw [show (48 : UInt8).toNat = 48 from rfl]; omega))
        have h48k : ¬ x0.toNat = 48 := fun e => h48 (UInt8.toNat_inj.1 e)
        by_cases hval : valD ds < 18446744073709551616
        · rw [if_pos hval] at hre
          have HRE := Lib.hid hre
          have hpu : Hid (∀ W, Tabs W → Calls Tryd.prog 77 #[.string (bstr ds), .int .i64 10, .int .i64 64] W fun e w' => Below W.heap.size W w' ∧ e = .returned (.tuple #[.int .u64 (valD ds : Int), .nilIface])) := fun W hW => by
            refine (hpa W hW).mono ?_
            rintro e w' ⟨hb, hh | hh⟩
            · exact ⟨hb, hh.2.2⟩
            · exact absurd ⟨h0, hval⟩ hh.1
          clear hpa hre hres
          by_cases hcn : c = n
          · exact absurd hx (by omega)
          · have HT := Lib.hid (HTb.out hcn)
            have hcn3 : n < c := by omega
            clear HTa HTb
            go_enter Tryd.func62, Tryd.ntmps62
            go_upto_region 2 with fail
            go_loopw [4] (fun v wr => ∃ m, m ≤ n ∧ v = .int .i64 (m : Int) ∧ wr = (w.alloc (.cells #[.int .i64 0, .string ⟨#[]⟩, .int .u64 0, .slice none 0 0, .slice none 0 0] 30))) (fun v _ => n - (intOf v).toNat)
            case atStart => exact ⟨0, Nat.zero_le _, rfl, rfl⟩
            case round =>
              obtain ⟨m, hm, rfl, rfl⟩ := hrel
              by_cases hmn : m < n
              · have hg := HS.out.digit m (by rw [HN.out]; exact hmn)
                have dm := HC.out m hg.1
                generalize xs.getD m 0 = xm at *
                obtain ⟨hg1, hg2, hg3⟩ := hg
                have hmi : (m : Int) < (xs.length : Int) := by omega
                go_wp2
                go_roundw
                case rel => exact ⟨m + 1, hmn, (by push_cast; rfl), (by first | trivial | rfl)⟩
                case measure => simp [intOf]; omega
              · have hnm : n = m := by omega
                subst hnm
                clear hmn hm
                go_wp2_with (first
                  | (go_at_call 77; refine (hpu.out _ HT1.out).mono ?_; rintro e w2 ⟨hb2, rfl⟩; have hR2 := hR0.kept hb2; have hA2 := HA.out.kept hb2; have q0 := (hA2.cell 0).trans (show _ = some (Value.slice (some ⟨b, off, none⟩) xs.length _) from rfl); have f0 := hA2.frozen 0)
                  | ((with_reducible show wpList _ _ _ (⟨none, _, _, _, _, _⟩ :: _) _ _); refine wl_store rfl 30 _ _ rfl w.heap.size 0 rfl (flatC 3 [] (valD ds)) rfl 30 _ (hR2.grown (gb_cell w2 R _) (by intro e; cases e; omega)) (by kernel_rfl) (by simp [flatC]) (by simp [flatC, Value.oneCell']) ?_; intro w4 hR4 hg4 hs4))
                rw [flat_store _ rfl] at hR4
                have e3 := rd_store hA2 (HT.out.kept (gb hb2 none) (by simp)) rfl
                rw [← HLEN.out] at e3
                refine end_cell2 rfl w.heap.size 30 _ _ _ rfl hR4 Tryd.underlying30 rfl (by kernel_rfl) rfl rfl ?_
                rw [HRE.out]
                exact ⟨gb_new_row (gb_trans (gb hb2 _) e3.2) hg4, rfl, e3.1.kept hg4 (by intro k hk; cases hk; exact hRw)⟩
        · rw [if_neg hval] at hre
          have HRE := Lib.hid hre
          have hpu : Hid (∀ W, Tabs W → Calls Tryd.prog 77 #[.string (bstr ds), .int .i64 10, .int .i64 64] W fun e w' => Below W.heap.size W w' ∧ ∃ (u : Int) (t : TypeId) (p : Value), e = .returned (.tuple #[.int .u64 u, .iface t p])) := fun W hW => by
            refine (hpa W hW).mono ?_
            rintro e w' ⟨hb, hh | hh⟩
            · exact absurd hh.2.1 hval
            · exact ⟨hb, hh.2⟩
          clear hpa hre hres
          go_enter Tryd.func62, Tryd.ntmps62
          go_upto_region 2 with fail
          go_loopw [4] (fun v wr => ∃ m, m ≤ n ∧ v = .int .i64 (m : Int) ∧ wr = (w.alloc (.cells #[.int .i64 0, .string ⟨#[]⟩, .int .u64 0, .slice none 0 0, .slice none 0 0] 30))) (fun v _ => n - (intOf v).toNat)
          case atStart => exact ⟨0, Nat.zero_le _, rfl, rfl⟩
          case round =>
            obtain ⟨m, hm, rfl, rfl⟩ := hrel
            by_cases hmn : m < n
            · have hg := HS.out.digit m (by rw [HN.out]; exact hmn)
              have dm := HC.out m hg.1
              generalize xs.getD m 0 = xm at *
              obtain ⟨hg1, hg2, hg3⟩ := hg
              have hmi : (m : Int) < (xs.length : Int) := by omega
              go_wp2
              go_roundw
              case rel => exact ⟨m + 1, hmn, (by push_cast; rfl), (by first | trivial | rfl)⟩
              case measure => simp [intOf]; omega
            · have hnm : n = m := by omega
              subst hnm
              clear hmn hm
              go_wp2_with (first
                | (go_at_call 77; refine (hpu.out _ HT1.out).mono ?_; rintro e w2 ⟨hb2, u, t, p, rfl⟩; have hR2 := hR0.kept hb2)
                | ((with_reducible show wpList _ _ _ (⟨none, _, _, _, _, _⟩ :: _) _ _); refine wl_store rfl 30 _ _ rfl w.heap.size 0 rfl (flatC 0 [] 0) rfl 30 _ hR2 (by kernel_rfl) (by simp [flatC]) (by simp [flatC, Value.oneCell']) ?_; intro w4 hR4 hg4 hs4))
              rw [flat_store _ rfl] at hR4
              refine end_cell2 rfl w.heap.size 30 _ _ _ rfl hR4 Tryd.underlying30 rfl (by kernel_rfl) rfl rfl ?_
              rw [HRE.out]
              exact ⟨gb_new_row (gb hb2 _) hg4, 0, [], 0, rfl⟩
    · have h1i : ¬ (1 : Int) < (n : Int) := by omega
      have hre : res = (if valD ds < 18446744073709551616 then some (3, ([] : List UInt8), valD ds, rest) else none) := by rw [hres, if_neg (fun hh => h1 hh.2)]
      by_cases hval : valD ds < 18446744073709551616
      · rw [if_pos hval] at hre
        have HRE := Lib.hid hre
        have hpu : Hid (∀ W, Tabs W → Calls Tryd.prog 77 #[.string (bstr ds), .int .i64 10, .int .i64 64] W fun e w' => Below W.heap.size W w' ∧ e = .returned (.tuple #[.int .u64 (valD ds : Int), .nilIface])) := fun W hW => by
          refine (hpa W hW).mono ?_
          rintro e w' ⟨hb, hh | hh⟩
          · exact ⟨hb, hh.2.2⟩
          · exact absurd ⟨h0, hval⟩ hh.1
        clear hpa hre hres
        by_cases hcn : c = n
        · exact absurd hx (by omega)
        · have HT := Lib.hid (HTb.out hcn)
          have hcn3 : n < c := by omega
          clear HTa HTb
          go_enter Tryd.func62, Tryd.ntmps62
          go_upto_region 2 with fail
          go_loopw [4] (fun v wr => ∃ m, m ≤ n ∧ v = .int .i64 (m : Int) ∧ wr = (w.alloc (.cells #[.int .i64 0, .string ⟨#[]⟩, .int .u64 0, .slice none 0 0, .slice none 0 0] 30))) (fun v _ => n - (intOf v).toNat)
          case atStart => exact ⟨0, Nat.zero_le _, rfl, rfl⟩
          case round =>
            obtain ⟨m, hm, rfl, rfl⟩ := hrel
            by_cases hmn : m < n
            · have hg := HS.out.digit m (by rw [HN.out]; exact hmn)
              have dm := HC.out m hg.1
              generalize xs.getD m 0 = xm at *
              obtain ⟨hg1, hg2, hg3⟩ := hg
              have hmi : (m : Int) < (xs.length : Int) := by omega
              go_wp2
              go_roundw
              case rel => exact ⟨m + 1, hmn, (by push_cast; rfl), (by first | trivial | rfl)⟩
              case measure => simp [intOf]; omega
            · have hnm : n = m := by omega
              subst hnm
              clear hmn hm
              go_wp2_with (first
                | (go_at_call 77; refine (hpu.out _ HT1.out).mono ?_; rintro e w2 ⟨hb2, rfl⟩; have hR2 := hR0.kept hb2; have hA2 := HA.out.kept hb2; have q0 := (hA2.cell 0).trans (show _ = some (Value.slice (some ⟨b, off, none⟩) xs.length _) from rfl); have f0 := hA2.frozen 0)
                | ((with_reducible show wpList _ _ _ (⟨none, _, _, _, _, _⟩ :: _) _ _); refine wl_store rfl 30 _ _ rfl w.heap.size 0 rfl (flatC 3 [] (valD ds)) rfl 30 _ (hR2.grown (gb_cell w2 R _) (by intro e; cases e; omega)) (by kernel_rfl) (by simp [flatC]) (by simp [flatC, Value.oneCell']) ?_; intro w4 hR4 hg4 hs4))
              rw [flat_store _ rfl] at hR4
              have e3 := rd_store hA2 (HT.out.kept (gb hb2 none) (by simp)) rfl
              rw [← HLEN.out] at e3
              refine end_cell2 rfl w.heap.size 30 _ _ _ rfl hR4 Tryd.underlying30 rfl (by kernel_rfl) rfl rfl ?_
              rw [HRE.out]
              exact ⟨gb_new_row (gb_trans (gb hb2 _) e3.2) hg4, rfl, e3.1.kept hg4 (by intro k hk; cases hk; exact hRw)⟩
      · rw [if_neg hval] at hre
        have HRE := Lib.hid hre
        have hpu : Hid (∀ W, Tabs W → Calls Tryd.prog 77 #[.string (bstr ds), .int .i64 10, .int .i64 64] W fun e w' => Below W.heap.size W w' ∧ ∃ (u : Int) (t : TypeId) (p : Value), e = .returned (.tuple #[.int .u64 u, .iface t p])) := fun W hW => by
          refine (hpa W hW).mono ?_
          rintro e w' ⟨hb, hh | hh⟩
          · exact absurd hh.2.1 hval
          · exact ⟨hb, hh.2⟩
        clear hpa hre hres
        go_enter Tryd.func62, Tryd.ntmps62
        go_upto_region 2 with fail
        go_loopw [4] (fun v wr => ∃ m, m ≤ n ∧ v = .int .i64 (m : Int) ∧ wr = (w.alloc (.cells #[.int .i64 0, .string ⟨#[]⟩, .int .u64 0, .slice none 0 0, .slice none 0 0] 30))) (fun v _ => n - (intOf v).toNat)
        case atStart => exact ⟨0, Nat.zero_le _, rfl, rfl⟩
        case round =>
          obtain ⟨m, hm, rfl, rfl⟩ := hrel
          by_cases hmn : m < n
          · have hg := HS.out.digit m (by rw [HN.out]; exact hmn)
            have dm := HC.out m hg.1
            generalize xs.getD m 0 = xm at *
            obtain ⟨hg1, hg2, hg3⟩ := hg
            have hmi : (m : Int) < (xs.length : Int) := by omega
            go_wp2
            go_roundw
            case rel => exact ⟨m + 1, hmn, (by push_cast; rfl), (by first | trivial | rfl)⟩
            case measure => simp [intOf]; omega
          · have hnm : n = m := by omega
            subst hnm
            clear hmn hm
            go_wp2_with (first
              | (go_at_call 77; refine (hpu.out _ HT1.out).mono ?_; rintro e w2 ⟨hb2, u, t, p, rfl⟩; have hR2 := hR0.kept hb2)
              | ((with_reducible show wpList _ _ _ (⟨none, _, _, _, _, _⟩ :: _) _ _); refine wl_store rfl 30 _ _ rfl w.heap.size 0 rfl (flatC 0 [] 0) rfl 30 _ hR2 (by kernel_rfl) (by simp [flatC]) (by simp [flatC, Value.oneCell']) ?_; intro w4 hR4 hg4 hs4))
            rw [flat_store _ rfl] at hR4
            refine end_cell2 rfl w.heap.size 30 _ _ _ rfl hR4 Tryd.underlying30 rfl (by kernel_rfl) rfl rfl ?_
            rw [HRE.out]
            exact ⟨gb_new_row (gb hb2 _) hg4, 0, [], 0, rfl⟩
  · have HN := Lib.hid hn
    clear hn
    by_cases h1 : 1 < n
    · have h1i : (1 : Int) < (n : Int) := by omega
      by_cases h48 : x0 = 48
      · have hre : res = none := by rw [hres, if_pos ⟨h48, h1⟩]
        have HRE := Lib.hid hre
        subst h48
        clear hpa hre hres
        go_enter Tryd.func62, Tryd.ntmps62
        go_upto_region 2 with fail
        go_loopw [4] (fun v wr => ∃ m, m ≤ n ∧ v = .int .i64 (m : Int) ∧ wr = (w.alloc (.cells #[.int .i64 0, .string ⟨#[]⟩, .int .u64 0, .slice none 0 0, .slice none 0 0] 30))) (fun v _ => n - (intOf v).toNat)
        case atStart => exact ⟨0, Nat.zero_le _, rfl, rfl⟩
        case round =>
          obtain ⟨m, hm, rfl, rfl⟩ := hrel
          by_cases hmn : m < n
          · have hg := HS.out.digit m (by rw [HN.out]; exact hmn)
            have dm := HC.out m hg.1
            generalize xs.getD m 0 = xm at *
            obtain ⟨hg1, hg2, hg3⟩ := hg
            have hmi : (m : Int) < (xs.length : Int) := by omega
            go_wp2
            go_roundw
            case rel => exact ⟨m + 1, hmn, (by push_cast; rfl), (by first | trivial | rfl)⟩
            case measure => simp [intOf]; omega
          · have hnm : n = m := by omega
            subst hnm
            clear hmn hm
            go_wp2_with (first
              | ((with_reducible show wpList _ _ _ (⟨none, _, _, _, _, _⟩ :: _) _ _); refine wl_store rfl 30 _ _ rfl w.heap.size 0 rfl (flatC 0 [] 0) rfl 30 _ hR0 (by kernel_rfl) (by simp [flatC]) (by simp [flatC, Value.oneCell']) ?_; intro w4 hR4 hg4 hs4))
            rw [flat_store _ rfl] at hR4
            refine end_cell2 rfl w.heap.size 30 _ _ _ rfl hR4 Tryd.underlying30 rfl (by kernel_rfl) rfl rfl ?_
            rw [HRE.out]
            exact ⟨gb_new_row (gb_self _ _) hg4, 0, [], 0, rfl⟩
      · have hre : res = (if valD ds < 18446744073709551616 then some (3, ([] : List UInt8), valD ds, rest) else none) := by rw [hres, if_neg (fun hh => h48 hh.1)]
        have h48i : ((x0.toNat : Int) == 48) = false := beq_eq_false_iff_ne.2 (fun e => h48 (UInt8.toNat_inj.1 (by rw [show (48 : UInt8).toNat = 48 from rfl]; omega)))
        have h48j : ¬ (x0.toNat : Int) = 48 := fun e => h48 (UInt8.toNat_inj.1 (by rw [show (48 : UInt8).toNat = 48 from rfl]; omega))
        have h48k : ¬ x0.toNat = 48 := fun e => h48 (UInt8.toNat_inj.1 e)
        by_cases hval : valD ds < 18446744073709551616
        · rw [if_pos hval] at hre
          have HRE := Lib.hid hre
          have hpu : Hid (∀ W, Tabs W → Calls Tryd.prog 77 #[.string (bstr ds), .int .i64 10, .int .i64 64] W fun e w' => Below W.heap.size W w' ∧ e = .returned (.tuple #[.int .u64 (valD ds : Int), .nilIface])) := fun W hW => by
            refine (hpa W hW).mono ?_
            rintro e w' ⟨hb, hh | hh⟩
            · exact ⟨hb, hh.2.2⟩
            · exact absurd ⟨h0, hval⟩ hh.1
          clear hpa hre hres
          by_cases hcn : c = n
          · exact absurd hx (by omega)
          · have HT := Lib.hid (HTb.out hcn)
            have hcn3 : n < c := by omega
            clear HTa HTb
            go_enter Tryd.func62, Tryd.ntmps62
            go_upto_region 2 with fail
            go_loopw [4] (fun v wr => ∃ m, m ≤ n ∧ v = .int .i64 (m : Int) ∧ wr = (w.alloc (.cells #[.int .i64 0, .string ⟨#[]⟩, .int .u64 0, .slice none 0 0, .slice none 0 0] 30))) (fun v _ => n - (intOf v).toNat)
            case atStart => exact ⟨0, Nat.zero_le _, rfl, rfl⟩
            case round =>
              obtain ⟨m, hm, rfl, rfl⟩ := hrel
              by_cases hmn : m < n
              · have hg := HS.out.digit m (by rw [HN.out]; exact hmn)
                have dm := HC.out m hg.1
                generalize xs.getD m 0 = xm at *
                obtain ⟨hg1, hg2, hg3⟩ := hg
                have hmi : (m : Int) < (xs.length : Int) := by omega
                go_wp2
                go_roundw
                case rel => exact ⟨m + 1, hmn, (by push_cast; rfl), (by first | trivial | rfl)⟩
                case measure => simp [intOf]; omega
              · have hnm : n = m := by omega
                subst hnm
                clear hmn hm
                go_wp2_with (first
                  | (go_at_call 77; refine (hpu.out _ HT1.out).mono ?_; rintro e w2 ⟨hb2, rfl⟩; have hR2 := hR0.kept hb2; have hA2 := HA.out.kept hb2; have q0 := (hA2.cell 0).trans (show _ = some (Value.slice (some ⟨b, off, none⟩) xs.length _) from rfl); have f0 := hA2.frozen 0)
                  | ((with_reducible show wpList _ _ _ (⟨none, _, _, _, _, _⟩ :: _) _ _); refine wl_store rfl 30 _ _ rfl w.heap.size 0 rfl (flatC 3 [] (valD ds)) rfl 30 _ (hR2.grown (gb_cell w2 R _) (by intro e; cases e; omega)) (by kernel_rfl) (by simp [flatC]) (by simp [flatC, Value.oneCell']) ?_; intro w4 hR4 hg4 hs4))
                rw [flat_store _ rfl] at hR4
                have e3 := rd_store hA2 (HT.out.kept (gb hb2 none) (by simp)) rfl
                rw [← HLEN.out] at e3
                refine end_cell2 rfl w.heap.size 30 _ _ _ rfl hR4 Tryd.underlying30 rfl (by kernel_rfl) rfl rfl ?_
                rw [HRE.out]
                exact ⟨gb_new_row (gb_trans (gb hb2 _) e3.2) hg4, rfl, e3.1.kept hg4 (by intro k hk; cases hk; exact hRw)⟩
        · rw [if_neg hval] at hre
          have HRE := Lib.hid hre
          have hpu : Hid (∀ W, Tabs W → Calls Tryd.prog 77 #[.string (bstr ds), .int .i64 10, .int .i64 64] W fun e w' => Below W.heap.size W w' ∧ ∃ (u : Int) (t : TypeId) (p : Value), e = .returned (.tuple #[.int .u64 u, .iface t p])) := fun W hW => by
            refine (hpa W hW).mono ?_
            rintro e w' ⟨hb, hh | hh⟩
            · exact absurd hh.2.1 hval
            · exact ⟨hb, hh.2⟩
          clear hpa hre hres
          go_enter Tryd.func62, Tryd.ntmps62
          go_upto_region 2 with fail
          go_loopw [4] (fun v wr => ∃ m, m ≤ n ∧ v = .int .i64 (m : Int) ∧ wr = (w.alloc (.cells #[.int .i64 0, .string ⟨#[]⟩, .int .u64 0, .slice none 0 0, .slice none 0 0] 30))) (fun v _ => n - (intOf v).toNat)
          case atStart => exact ⟨0, Nat.zero_le _, rfl, rfl⟩
          case round =>
            obtain ⟨m, hm, rfl, rfl⟩ := hrel
            by_cases hmn : m < n
            · have hg := HS.out.digit m (by rw [HN.out]; exact hmn)
              have dm := HC.out m hg.1
              generalize xs.getD m 0 = xm at *
              obtain ⟨hg1, hg2, hg3⟩ := hg
              have hmi : (m : Int) < (xs.length : Int) := by omega
              go_wp2
              go_roundw
              case rel => exact ⟨m + 1, hmn, (by push_cast; rfl), (by first | trivial | rfl)⟩
              case measure => simp [intOf]; omega
            · have hnm : n = m := by omega
              subst hnm
              clear hmn hm
              go_wp2_with (first
                | (go_at_call 77; refine (hpu.out _ HT1.out).mono ?_; rintro e w2 ⟨hb2, u, t, p, rfl⟩; have hR2 := hR0.kept hb2)
                | ((with_reducible show wpList _ _ _ (⟨none, _, _, _, _, _⟩ :: _) _ _); refine wl_store rfl 30 _ _ rfl w.heap.size 0 rfl (flatC 0 [] 0) rfl 30 _ hR2 (by kernel_rfl) (by simp [flatC]) (by simp [flatC, Value.oneCell']) ?_; intro w4 hR4 hg4 hs4))
              rw [flat_store _ rfl] at hR4
              refine end_cell2 rfl w.heap.size 30 _ _ _ rfl hR4 Tryd.underlying30 rfl (by kernel_rfl) rfl rfl ?_
              rw [HRE.out]
              exact ⟨gb_new_row (gb hb2 _) hg4, 0, [], 0, rfl⟩
    · have h1i : ¬ (1 : Int) < (n : Int) := by omega
      have hre : res = (if valD ds < 18446744073709551616 then some (3, ([] : List UInt8), valD ds, rest) else none) := by rw [hres, if_neg (fun hh => h1 hh.2)]
      by_cases hval : valD ds < 18446744073709551616
      · rw [if_pos hval] at hre
        have HRE := Lib.hid hre
        have hpu : Hid (∀ W, Tabs W → Calls Tryd.prog 77 #[.string (bstr ds), .int .i64 10, .int .i64 64] W fun e w' => Below W.heap.size W w' ∧ e = .returned (.tuple #[.int .u64 (valD ds : Int), .nilIface])) := fun W hW => by
          refine (hpa W hW).mono ?_
          rintro e w' ⟨hb, hh | hh⟩
          · exact ⟨hb, hh.2.2⟩
          · exact absurd ⟨h0, hval⟩ hh.1
        clear hpa hre hres
        by_cases hcn : c = n
        · exact absurd hx (by omega)
        · have HT := Lib.hid (HTb.out hcn)
          have hcn3 : n < c := by omega
          clear HTa HTb
          go_enter Tryd.func62, Tryd.ntmps62
          go_upto_region 2 with fail
          go_loopw [4] (fun v wr => ∃ m, m ≤ n ∧ v = .int .i64 (m : Int) ∧ wr = (w.alloc (.cells #[.int .i64 0, .string ⟨#[]⟩, .int .u64 0, .slice none 0 0, .slice none 0 0] 30))) (fun v _ => n - (intOf v).toNat)
          case atStart => exact ⟨0, Nat.zero_le _, rfl, rfl⟩
          case round =>
            obtain ⟨m, hm, rfl, rfl⟩ := hrel
            by_cases hmn : m < n
            · have hg := HS.out.digit m (by rw [HN.out]; exact hmn)
              have dm := HC.out m hg.1
              generalize xs.getD m 0 = xm at *
              obtain ⟨hg1, hg2, hg3⟩ := hg
              have hmi : (m : Int) < (xs.length : Int) := by omega
              go_wp2
              go_roundw
              case rel => exact ⟨m + 1, hmn, (by push_cast; rfl), (by first | trivial | rfl)⟩
              case measure => simp [intOf]; omega
            · have hnm : n = m := by omega
              subst hnm
              clear hmn hm
              go_wp2_with (first
                | (go_at_call 77; refine (hpu.out _ HT1.out).mono ?_; rintro e w2 ⟨hb2, rfl⟩; have hR2 := hR0.kept hb2; have hA2 := HA.out.kept hb2; have q0 := (hA2.cell 0).trans (show _ = some (Value.slice (some ⟨b, off, none⟩) xs.length _) from rfl); have f0 := hA2.frozen 0)
                | ((with_reducible show wpList _ _ _ (⟨none, _, _, _, _, _⟩ :: _) _ _); refine wl_store rfl 30 _ _ rfl w.heap.size 0 rfl (flatC 3 [] (valD ds)) rfl 30 _ (hR2.grown (gb_cell w2 R _) (by intro e; cases e; omega)) (by kernel_rfl) (by simp [flatC]) (by simp [flatC, Value.oneCell']) ?_; intro w4 hR4 hg4 hs4))
              rw [flat_store _ rfl] at hR4
              have e3 := rd_store hA2 (HT.out.kept (gb hb2 none) (by simp)) rfl
              rw [← HLEN.out] at e3
              refine end_cell2 rfl w.heap.size 30 _ _ _ rfl hR4 Tryd.underlying30 rfl (by kernel_rfl) rfl rfl ?_
              rw [HRE.out]
              exact ⟨gb_new_row (gb_trans (gb hb2 _) e3.2) hg4, rfl, e3.1.kept hg4 (by intro k hk; cases hk; exact hRw)⟩
      · rw [if_neg hval] at hre
        have HRE := Lib.hid hre
        have hpu : Hid (∀ W, Tabs W → Calls Tryd.prog 77 #[.string (bstr ds), .int .i64 10, .int .i64 64] W fun e w' => Below W.heap.size W w' ∧ ∃ (u : Int) (t : TypeId) (p : Value), e = .returned (.tuple #[.int .u64 u, .iface t p])) := fun W hW => by
          refine (hpa W hW).mono ?_
          rintro e w' ⟨hb, hh | hh⟩
          · exact absurd hh.2.1 hval
          · exact ⟨hb, hh.2⟩
        clear hpa hre hres
        go_enter Tryd.func62, Tryd.ntmps62
        go_upto_region 2 with fail
        go_loopw [4] (fun v wr => ∃ m, m ≤ n ∧ v = .int .i64 (m : Int) ∧ wr = (w.alloc (.cells #[.int .i64 0, .string ⟨#[]⟩, .int .u64 0, .slice none 0 0, .slice none 0 0] 30))) (fun v _ => n - (intOf v).toNat)
        case atStart => exact ⟨0, Nat.zero_le _, rfl, rfl⟩
        case round =>
          obtain ⟨m, hm, rfl, rfl⟩ := hrel
          by_cases hmn : m < n
          · have hg := HS.out.digit m (by rw [HN.out]; exact hmn)
            have dm := HC.out m hg.1
            generalize xs.getD m 0 = xm at *
            obtain ⟨hg1, hg2, hg3⟩ := hg
            have hmi : (m : Int) < (xs.length : Int) := by omega
            go_wp2
            go_roundw
            case rel => exact ⟨m + 1, hmn, (by push_cast; rfl), (by first | trivial | rfl)⟩
            case measure => simp [intOf]; omega
          · have hnm : n = m := by omega
            subst hnm
            clear hmn hm
            go_wp2_with (first
              | (go_at_call 77; refine (hpu.out _ HT1.out).mono ?_; rintro e w2 ⟨hb2, u, t, p, rfl⟩; have hR2 := hR0.kept hb2)
              | ((with_reducible show wpList _ _ _ (⟨none, _, _, _, _, _⟩ :: _) _ _); refine wl_store rfl 30 _ _ rfl w.heap.size 0 rfl (flatC 0 [] 0) rfl 30 _ hR2 (by kernel_rfl) (by simp [flatC]) (by simp [flatC, Value.oneCell']) ?_; intro w4 hR4 hg4 hs4))
            rw [flat_store _ rfl] at hR4
            refine end_cell2 rfl w.heap.size 30 _ _ _ rfl hR4 Tryd.underlying30 rfl (by kernel_rfl) rfl rfl ?_
            rw [HRE.out]
            exact ⟨gb_new_row (gb hb2 _) hg4, 0, [], 0, rfl⟩
  · have HN := Lib.hid hn
    clear hn
    by_cases h1 : 1 < n
    · have h1i : (1 : Int) < (n : Int) := by omega
      by_cases h48 : x0 = 48
      · have hre : res = none := by rw [hres, if_pos ⟨h48, h1⟩]
        have HRE := Lib.hid hre
        subst h48
        clear hpa hre hres
        go_enter Tryd.func62, Tryd.ntmps62
        go_upto_region 2 with fail
        go_loopw [4] (fun v wr => ∃ m, m ≤ n ∧ v = .int .i64 (m : Int) ∧ wr = (w.alloc (.cells #[.int .i64 0, .string ⟨#[]⟩, .int .u64 0, .slice none 0 0, .slice none 0 0] 30))) (fun v _ => n - (intOf v).toNat)
        case atStart => exact ⟨0, Nat.zero_le _, rfl, rfl⟩
        case round =>
          obtain ⟨m, hm, rfl, rfl⟩ := hrel
          by_cases hmn : m < n
          · have hg := HS.out.digit m (by rw [HN.out]; exact hmn)
            have dm := HC.out m hg.1
            generalize xs.getD m 0 = xm at *
            obtain ⟨hg1, hg2, hg3⟩ := hg
            have hmi : (m : Int) < (xs.length : Int) := by omega
            go_wp2
            go_roundw
            case rel => exact ⟨m + 1, hmn, (by push_cast; rfl), (by first | trivial | rfl)⟩
            case measure => simp [intOf]; omega
          · have hnm : n = m := by omega
            subst hnm
            clear hmn hm
            go_wp2_with (first
              | ((with_reducible show wpList _ _ _ (⟨none, _, _, _, _, _⟩ :: _) _ _); refine wl_store rfl 30 _ _ rfl w.heap.size 0 rfl (flatC 0 [] 0) rfl 30 _ hR0 (by kernel_rfl) (by simp [flatC]) (by simp [flatC, Value.oneCell']) ?_; intro w4 hR4 hg4 hs4))
            rw [flat_store _ rfl] at hR4
            refine end_cell2 rfl w.heap.size 30 _ _ _ rfl hR4 Tryd.underlying30 rfl (by kernel_rfl) rfl rfl ?_
            rw [HRE.out]
            exact ⟨gb_new_row (gb_self _ _) hg4, 0, [], 0, rfl⟩
      · have hre : res = (if valD ds < 18446744073709551616 then some (3, ([] : List UInt8), valD ds, rest) else none) := by rw [hres, if_neg (fun hh => h48 hh.1)]
        have h48i : ((x0.toNat : Int) == 48) = false := beq_eq_false_iff_ne.2 (fun e => h48 (UInt8.toNat_inj.1 (by rw [show (48 : UInt8).toNat = 48 from rfl]; omega)))
        have h48j : ¬ (x0.toNat : Int) = 48 := fun e => h48 (UInt8.toNat_inj.1 (by rw [show (48 : UInt8).toNat = 48 from rfl]; omega))
        have h48k : ¬ x0.toNat = 48 := fun e => h48 (UInt8.toNat_inj.1 e)
        by_cases hval : valD ds < 18446744073709551616
        · rw [if_pos hval] at hre
          have HRE := Lib.hid hre
          have hpu : Hid (∀ W, Tabs W → Calls Tryd.prog 77 #[.string (bstr ds), .int .i64 10, .int .i64 64] W fun e w' => Below W.heap.size W w' ∧ e = .returned (.tuple #[.int .u64 (valD ds : Int), .nilIface])) := fun W hW => by
            refine (hpa W hW).mono ?_
            rintro e w' ⟨hb, hh | hh⟩
            · exact ⟨hb, hh.2.2⟩
            · exact absurd ⟨h0, hval⟩ hh.1
          clear hpa hre hres
          by_cases hcn : c = n
          · have hcn2 : n = c := hcn.symm
            subst hcn2
            have HT := Lib.hid (HTa.out rfl)
            clear HTa HTb
            go_enter Tryd.func62, Tryd.ntmps62
            go_upto_region 2 with fail
            go_loopw [4] (fun v wr => ∃ m, m ≤ n ∧ v = .int .i64 (m : Int) ∧ wr = (w.alloc (.cells #[.int .i64 0, .string ⟨#[]⟩, .int .u64 0, .slice none 0 0, .slice none 0 0] 30))) (fun v _ => n - (intOf v).toNat)
            case atStart => exact ⟨0, Nat.zero_le _, rfl, rfl⟩
            case round =>
              obtain ⟨m, hm, rfl, rfl⟩ := hrel
              by_cases hmn : m < n
              · have hg := HS.out.digit m (by rw [HN.out]; exact hmn)
                have dm := HC.out m hg.1
                generalize xs.getD m 0 = xm at *
                obtain ⟨hg1, hg2, hg3⟩ := hg
                have hmi : (m : Int) < (xs.length : Int) := by omega
                go_wp2
                go_roundw
                case rel => exact ⟨m + 1, hmn, (by push_cast; rfl), (by first | trivial | rfl)⟩
                case measure => simp [intOf]; omega
              · have hnm : n = m := by omega
                subst hnm
                clear hmn hm
                go_wp2_with (first
                  | (go_at_call 77; refine (hpu.out _ HT1.out).mono ?_; rintro e w2 ⟨hb2, rfl⟩; have hR2 := hR0.kept hb2; have hA2 := HA.out.kept hb2; have q0 := (hA2.cell 0).trans (show _ = some (Value.slice (some ⟨b, off, none⟩) xs.length _) from rfl); have f0 := hA2.frozen 0)
                  | ((with_reducible show wpList _ _ _ (⟨none, _, _, _, _, _⟩ :: _) _ _); refine wl_store rfl 30 _ _ rfl w.heap.size 0 rfl (flatC 3 [] (valD ds)) rfl 30 _ (hR2.grown (gb_cell w2 R _) (by intro e; cases e; omega)) (by kernel_rfl) (by simp [flatC]) (by simp [flatC, Value.oneCell']) ?_; intro w4 hR4 hg4 hs4))
                rw [flat_store _ rfl] at hR4
                have e3 := rd_store hA2 (HT.out.kept (gb hb2 none) (by simp)) rfl
                rw [show rest.length = 0 by have := HLEN.out; omega] at e3
                refine end_cell2 rfl w.heap.size 30 _ _ _ rfl hR4 Tryd.underlying30 rfl (by kernel_rfl) rfl rfl ?_
                rw [HRE.out]
                exact ⟨gb_new_row (gb_trans (gb hb2 _) e3.2) hg4, rfl, e3.1.kept hg4 (by intro k hk; cases hk; exact hRw)⟩
          · have HT := Lib.hid (HTb.out hcn)
            have hcn3 : n < c := by omega
            clear HTa HTb
            go_enter Tryd.func62, Tryd.ntmps62
            go_upto_region 2 with fail
            go_loopw [4] (fun v wr => ∃ m, m ≤ n ∧ v = .int .i64 (m : Int) ∧ wr = (w.alloc (.cells #[.int .i64 0, .string ⟨#[]⟩, .int .u64 0, .slice none 0 0, .slice none 0 0] 30))) (fun v _ => n - (intOf v).toNat)
            case atStart => exact ⟨0, Nat.zero_le _, rfl, rfl⟩
            case round =>
              obtain ⟨m, hm, rfl, rfl⟩ := hrel
              by_cases hmn : m < n
              · have hg := HS.out.digit m (by rw [HN.out]; exact hmn)
                have dm := HC.out m hg.1
                generalize xs.getD m 0 = xm at *
                obtain ⟨hg1, hg2, hg3⟩ := hg
                have hmi : (m : Int) < (xs.length : Int) := by omega
                go_wp2
                go_roundw
                case rel => exact ⟨m + 1, hmn, (by push_cast; rfl), (by first | trivial | rfl)⟩
                case measure => simp [intOf]; omega
              · have hnm : n = m := by omega
                subst hnm
                clear hmn hm
                go_wp2_with (first
                  | (go_at_call 77; refine (hpu.out _ HT1.out).mono ?_; rintro e w2 ⟨hb2, rfl⟩; have hR2 := hR0.kept hb2; have hA2 := HA.out.kept hb2; have q0 := (hA2.cell 0).trans (show _ = some (Value.slice (some ⟨b, off, none⟩) xs.length _) from rfl); have f0 := hA2.frozen 0)
                  | ((with_reducible show wpList _ _ _ (⟨none, _, _, _, _, _⟩ :: _) _ _); refine wl_store rfl 30 _ _ rfl w.heap.size 0 rfl (flatC 3 [] (valD ds)) rfl 30 _ (hR2.grown (gb_cell w2 R _) (by intro e; cases e; omega)) (by kernel_rfl) (by simp [flatC]) (by simp [flatC, Value.oneCell']) ?_; intro w4 hR4 hg4 hs4))
                rw [flat_store _ rfl] at hR4
                have e3 := rd_store hA2 (HT.out.kept (gb hb2 none) (by simp)) rfl
                rw [show rest.length = 0 by have := HLEN.out; omega] at e3
                refine end_cell2 rfl w.heap.size 30 _ _ _ rfl hR4 Tryd.underlying30 rfl (by kernel_rfl) rfl rfl ?_
                rw [HRE.out]
                exact ⟨gb_new_row (gb_trans (gb hb2 _) e3.2) hg4, rfl, e3.1.kept hg4 (by intro k hk; cases hk; exact hRw)⟩
        · rw [if_neg hval] at hre
          have HRE := Lib.hid hre
          have hpu : Hid (∀ W, Tabs W → Calls Tryd.prog 77 #[.string (bstr ds), .int .i64 10, .int .i64 64] W fun e w' => Below W.heap.size W w' ∧ ∃ (u : Int) (t : TypeId) (p : Value), e = .returned (.tuple #[.int .u64 u, .iface t p])) := fun W hW => by
            refine (hpa W hW).mono ?_
            rintro e w' ⟨hb, hh | hh⟩
            · exact absurd hh.2.1 hval
            · exact ⟨hb, hh.2⟩
          clear hpa hre hres
          go_enter Tryd.func62, Tryd.ntmps62
          go_upto_region 2 with fail
          go_loopw [4] (fun v wr => ∃ m, m ≤ n ∧ v = .int .i64 (m : Int) ∧ wr = (w.alloc (.cells #[.int .i64 0, .string ⟨#[]⟩, .int .u64 0, .slice none 0 0, .slice none 0 0] 30))) (fun v _ => n - (intOf v).toNat)
          case atStart => exact ⟨0, Nat.zero_le _, rfl, rfl⟩
          case round =>
            obtain ⟨m, hm, rfl, rfl⟩ := hrel
            by_cases hmn : m < n
            · have hg := HS.out.digit m (by rw [HN.out]; exact hmn)
              have dm := HC.out m hg.1
              generalize xs.getD m 0 = xm at *
              obtain ⟨hg1, hg2, hg3⟩ := hg
              have hmi : (m : Int) < (xs.length : Int) := by omega
              go_wp2
              go_roundw
              case rel => exact ⟨m + 1, hmn, (by push_cast; rfl), (by first | trivial | rfl)⟩
              case measure => simp [intOf]; omega
            · have hnm : n = m := by omega
              subst hnm
              clear hmn hm
              go_wp2_with (first
                | (go_at_call 77; refine (hpu.out _ HT1.out).mono ?_; rintro e w2 ⟨hb2, u, t, p, rfl⟩; have hR2 := hR0.kept hb2)
                | ((with_reducible show wpList _ _ _ (⟨none, _, _, _, _, _⟩ :: _) _ _); refine wl_store rfl 30 _ _ rfl w.heap.size 0 rfl (flatC 0 [] 0) rfl 30 _ hR2 (by kernel_rfl) (by simp [flatC]) (by simp [flatC, Value.oneCell']) ?_; intro w4 hR4 hg4 hs4))
              rw [flat_store _ rfl] at hR4
              refine end_cell2 rfl w.heap.size 30 _ _ _ rfl hR4 Tryd.underlying30 rfl (by kernel_rfl) rfl rfl ?_
              rw [HRE.out]
              exact ⟨gb_new_row (gb hb2 _) hg4, 0, [], 0, rfl⟩
    · have h1i : ¬ (1 : Int) < (n : Int) := by omega
      have hre : res = (if valD ds < 18446744073709551616 then some (3, ([] : List UInt8), valD ds, rest) else none) := by rw [hres, if_neg (fun hh => h1 hh.2)]
      by_cases hval : valD ds < 18446744073709551616
      · rw [if_pos hval] at hre
        have HRE := Lib.hid hre
        have hpu : Hid (∀ W, Tabs W → Calls Tryd.prog 77 #[.string (bstr ds), .int .i64 10, .int .i64 64] W fun e w' => Below W.heap.size W w' ∧ e = .returned (.tuple #[.int .u64 (valD ds : Int), .nilIface])) := fun W hW => by
          refine (hpa W hW).mono ?_
          rintro e w' ⟨hb, hh | hh⟩
          · exact ⟨hb, hh.2.2⟩
          · exact absurd ⟨h0, hval⟩ hh.1
        clear hpa hre hres
        by_cases hcn : c = n
        · have hcn2 : n = c := hcn.symm
          subst hcn2
          have HT := Lib.hid (HTa.out rfl)
          clear HTa HTb
          go_enter Tryd.func62, Tryd.ntmps62
          go_upto_region 2 with fail
          go_loopw [4] (fun v wr => ∃ m, m ≤ n ∧ v = .int .i64 (m : Int) ∧ wr = (w.alloc (.cells #[.int .i64 0, .string ⟨#[]⟩, .int .u64 0, .slice none 0 0, .slice none 0 0] 30))) (fun v _ => n - (intOf v).toNat)
          case atStart => exact ⟨0, Nat.zero_le _, rfl, rfl⟩
          case round =>
            obtain ⟨m, hm, rfl, rfl⟩ := hrel
            by_cases hmn : m < n
            · have hg := HS.out.digit m (by rw [HN.out]; exact hmn)
              have dm := HC.out m hg.1
              generalize xs.getD m 0 = xm at *
              obtain ⟨hg1, hg2, hg3⟩ := hg
              have hmi : (m : Int) < (xs.length : Int) := by omega
              go_wp2
              go_roundw
              case rel => exact ⟨m + 1, hmn, (by push_cast; rfl), (by first | trivial | rfl)⟩
              case measure => simp [intOf]; omega
            · have hnm : n = m := by omega
              subst hnm
              clear hmn hm
              go_wp2_with (first
                | (go_at_call 77; refine (hpu.out _ HT1.out).mono ?_; rintro e w2 ⟨hb2, rfl⟩; have hR2 := hR0.kept hb2; have hA2 := HA.out.kept hb2; have q0 := (hA2.cell 0).trans (show _ = some (Value.slice (some ⟨b, off, none⟩) xs.length _) from rfl); have f0 := hA2.frozen 0)
                | ((with_reducible show wpList _ _ _ (⟨none, _, _, _, _, _⟩ :: _) _ _); refine wl_store rfl 30 _ _ rfl w.heap.size 0 rfl (flatC 3 [] (valD ds)) rfl 30 _ (hR2.grown (gb_cell w2 R _) (by intro e; cases e; omega)) (by kernel_rfl) (by simp [flatC]) (by simp [flatC, Value.oneCell']) ?_; intro w4 hR4 hg4 hs4))
              rw [flat_store _ rfl] at hR4
              have e3 := rd_store hA2 (HT.out.kept (gb hb2 none) (by simp)) rfl
              rw [show rest.length = 0 by have := HLEN.out; omega] at e3
              refine end_cell2 rfl w.heap.size 30 _ _ _ rfl hR4 Tryd.underlying30 rfl (by kernel_rfl) rfl rfl ?_
              rw [HRE.out]
              exact ⟨gb_new_row (gb_trans (gb hb2 _) e3.2) hg4, rfl, e3.1.kept hg4 (by intro k hk; cases hk; exact hRw)⟩
        · have HT := Lib.hid (HTb.out hcn)
          have hcn3 : n < c := by omega
          clear HTa HTb
          go_enter Tryd.func62, Tryd.ntmps62
          go_upto_region 2 with fail
          go_loopw [4] (fun v wr => ∃ m, m ≤ n ∧ v = .int .i64 (m : Int) ∧ wr = (w.alloc (.cells #[.int .i64 0, .string ⟨#[]⟩, .int .u64 0, .slice none 0 0, .slice none 0 0] 30))) (fun v _ => n - (intOf v).toNat)
          case atStart => exact ⟨0, Nat.zero_le _, rfl, rfl⟩
          case round =>
            obtain ⟨m, hm, rfl, rfl⟩ := hrel
            by_cases hmn : m < n
            · have hg := HS.out.digit m (by rw [HN.out]; exact hmn)
              have dm := HC.out m hg.1
              generalize xs.getD m 0 = xm at *
              obtain ⟨hg1, hg2, hg3⟩ := hg
              have hmi : (m : Int) < (xs.length : Int) := by omega
              go_wp2
              go_roundw
              case rel => exact ⟨m + 1, hmn, (by push_cast; rfl), (by first | trivial | rfl)⟩
              case measure => simp [intOf]; omega
            · have hnm : n = m := by omega
              subst hnm
              clear hmn hm
              go_wp2_with (first
                | (go_at_call 77; refine (hpu.out _ HT1.out).mono ?_; rintro e w2 ⟨hb2, rfl⟩; have hR2 := hR0.kept hb2; have hA2 := HA.out.kept hb2; have q0 := (hA2.cell 0).trans (show _ = some (Value.slice (some ⟨b, off, none⟩) xs.length _) from rfl); have f0 := hA2.frozen 0)
                | ((with_reducible show wpList _ _ _ (⟨none, _, _, _, _, _⟩ :: _) _ _); refine wl_store rfl 30 _ _ rfl w.heap.size 0 rfl (flatC 3 [] (valD ds)) rfl 30 _ (hR2.grown (gb_cell w2 R _) (by intro e; cases e; omega)) (by kernel_rfl) (by simp [flatC]) (by simp [flatC, Value.oneCell']) ?_; intro w4 hR4 hg4 hs4))
              rw [flat_store _ rfl] at hR4
              have e3 := rd_store hA2 (HT.out.kept (gb hb2 none) (by simp)) rfl
              rw [show rest.length = 0 by have := HLEN.out; omega] at e3
              refine end_cell2 rfl w.heap.size 30 _ _ _ rfl hR4 Tryd.underlying30 rfl (by kernel_rfl) rfl rfl ?_
              rw [HRE.out]
              exact ⟨gb_new_row (gb_trans (gb hb2 _) e3.2) hg4, rfl, e3.1.kept hg4 (by intro k hk; cases hk; exact hRw)⟩
      · rw [if_neg hval] at hre
        have HRE := Lib.hid hre
        have hpu : Hid (∀ W, Tabs W → Calls Tryd.prog 77 #[.string (bstr ds), .int .i64 10, .int .i64 64] W fun e w' => Below W.heap.size W w' ∧ ∃ (u : Int) (t : TypeId) (p : Value), e = .returned (.tuple #[.int .u64 u, .iface t p])) := fun W hW => by
          refine (hpa W hW).mono ?_
          rintro e w' ⟨hb, hh | hh⟩
          · exact absurd hh.2.1 hval
          · exact ⟨hb, hh.2⟩
        clear hpa hre hres
        go_enter Tryd.func62, Tryd.ntmps62
        go_upto_region 2 with fail
        go_loopw [4] (fun v wr => ∃ m, m ≤ n ∧ v = .int .i64 (m : Int) ∧ wr = (w.alloc (.cells #[.int .i64 0, .string ⟨#[]⟩, .int .u64 0, .slice none 0 0, .slice none 0 0] 30))) (fun v _ => n - (intOf v).toNat)
        case atStart => exact ⟨0, Nat.zero_le _, rfl, rfl⟩
        case round =>
          obtain ⟨m, hm, rfl, rfl⟩ := hrel
          by_cases hmn : m < n
          · have hg := HS.out.digit m (by rw [HN.out]; exact hmn)
            have dm := HC.out m hg.1
            generalize xs.getD m 0 = xm at *
            obtain ⟨hg1, hg2, hg3⟩ := hg
            have hmi : (m : Int) < (xs.length : Int) := by omega
            go_wp2
            go_roundw
            case rel => exact ⟨m + 1, hmn, (by push_cast; rfl), (by first | trivial | rfl)⟩
            case measure => simp [intOf]; omega
          · have hnm : n = m := by omega
            subst hnm
            clear hmn hm
            go_wp2_with (first
              | (go_at_call 77; refine (hpu.out _ HT1.out).mono ?_; rintro e w2 ⟨hb2, u, t, p, rfl⟩; have hR2 := hR0.kept hb2)
              | ((with_reducible show wpList _ _ _ (⟨none, _, _, _, _, _⟩ :: _) _ _); refine wl_store rfl 30 _ _ rfl w.heap.size 0 rfl (flatC 0 [] 0) rfl 30 _ hR2 (by kernel_rfl) (by simp [flatC]) (by simp [flatC, Value.oneCell']) ?_; intro w4 hR4 hg4 hs4))
            rw [flat_store _ rfl] at hR4
            refine end_cell2 rfl w.heap.size 30 _ _ _ rfl hR4 Tryd.underlying30 rfl (by kernel_rfl) rfl rfl ?_
            rw [HRE.out]
            exact ⟨gb_new_row (gb hb2 _) hg4, 0, [], 0, rfl⟩
end Go.Proofs.YtiadfijeglbdlaaDoor
