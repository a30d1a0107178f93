/-
  The answers' digits: a number to the base 10. Conditions: those in each statement.
-/
import Derived.Test.YtehlgflpkofooaaDoorJsonA
import Derived.Test.YtehlgflpkofooaaDoorJsonQ
namespace Go.Proofs.YtehlgflpkofooaaDoor
open Go.RowKit

theorem digits_max : ∀ (k n : Nat), n < 10 ^ (k + 1) → (digitsF n).length ≤ k + 1 := by
  intro k
  induction k with
  | zero => intro n h; unfold digitsF; rw [if_pos (by omega)]; simp
  | succ k ih =>
    intro n h
    unfold digitsF
    split
    · simp
    · have : n / 10 < 10 ^ (k + 1) := by rw [Nat.pow_succ] at h; omega
      have := ih _ this
      rw [List.length_append, List.length_singleton]
      omega
theorem digits_twenty (n : Nat) (h : n < 18446744073709551616) : (digitsF n).length ≤ 20 := digits_max 19 n (by omega)

theorem bt : BT Tryd.prog 32 5 := ⟨Tryd.underlying32, Tryd.underlying5, by kernel_rfl⟩

theorem own_one (w : World) (x : UInt8) (E : TypeId) : Own (w.alloc (.cells #[.int .u8 (x.toNat : Int)] E)) w.heap.size E (.slice (some ⟨w.heap.size, 0, none⟩) 1 1) [x] :=
  World.ownsRow_lit (base := w.heap.size) (e := E) (size := 1) w #[.int .u8 (x.toNat : Int)] 1 (Nat.le_refl _) (by simp [maxLen]) (by simp)

theorem digit_byte (m : Nat) : ((UInt8.ofNat (48 + m % 10)).toNat : Int) = 48 + (m : Int) % 10 := by
  simp only [UInt8.toNat_ofNat']
  omega

set_option maxHeartbeats 800000 in
theorem rDigits_any (n : Nat) (w : World) (hn : n < 18446744073709551616) :
    Calls Tryd.prog 38 #[.int .u64 (n : Int)] w fun e w' => ∃ v, e = .returned v ∧ Own w' w.heap.size 5 v (digitsF n) ∧ Below w.heap.size w w' := by
  have h20 := digits_twenty n hn
  go_enter Tryd.func38, Tryd.ntmps38
  go_wp2_with fail
  generalize hg : w.heap.size = g at *
  have HG := Lib.hid hg
  clear hg
  go_loopw [0, 3] (fun i v wr => ∃ (m : Nat) (ds : List UInt8), m < 18446744073709551616 ∧ i = .int .u64 m ∧ Hid (digitsF n = digitsF m ++ ds) ∧ Own wr g 5 v ds ∧ Below g w wr) (fun i _ _ => (intOf i).toNat)
  case atStart => exact ⟨n, [], hn, rfl, (List.append_nil _).symm, Own.nil _ _ _, HG.out ▸ Below.refl _ _⟩
  case round =>
    obtain ⟨m, ds, hm, rfl, hd, ho, hb⟩ := hrel
    obtain ⟨a, l, cap, rfl, hr⟩ := ho.reads
    have hdl : ds.length ≤ 20 := by have := hd.out; rw [this, List.length_append] at h20; omega
    have HR := Lib.hid hr
    have HM := Lib.hid hm
    have hby := Lib.hid (digit_byte m)
    clear hr
    have hlit : Hid (Own (wr.alloc (.cells #[.int .u8 (48 + (m : Int) % 10)] 5)) wr.heap.size 5 (.slice (some ⟨wr.heap.size, 0, none⟩) 1 1) [UInt8.ofNat (48 + m % 10)]) := by
      show Own _ _ _ _ _
      rw [← hby.out]
      exact own_one wr _ _
    have hg : g ≤ wr.heap.size := by rw [← HG.out]; exact hb.size
    have HGW := Lib.hid hg
    have hbW : Hid (∀ w1, Below wr.heap.size (wr.alloc (.cells #[.int .u8 (48 + (m : Int) % 10)] 5)) w1 → Below g w w1) := fun w1 h => hb.trans ((((Below.refl _ wr).alloc (Nat.le_refl _) _).trans h).mono HGW.out)
    clear hg hb ho
    by_cases hten : m < 10
    · have hq : Hid ((m : Int) / 10 = 0) := by show _ = _; omega
      have hF : Hid (digitsF n = [UInt8.ofNat (48 + m % 10)] ++ ds) := by
        show _ = _
        rw [hd.out]
        unfold digitsF
        rw [if_pos hten, Nat.mod_eq_of_lt hten]
      have hq2 := hq.out
      go_wp2_with (at_builtin; go_loud (refine wl_append bt rfl (.tmp 8) (.tmp 9) rfl wr.heap.size _ _ hlit.out rfl a l cap ds rfl (HR.out.toRd.to ((Below.refl _ _).alloc (Nat.le_refl _) _)) (by have := HR.out.len; simp only [List.length_singleton]; omega) (by simp) ?_); intro v' w1 ho1 hb1)
      go_ret
      exact ⟨_, rfl, by rw [hF.out, HG.out]; exact ho1.mono HGW.out, HG.out ▸ hbW.out _ hb1⟩
    · have hq : Hid ((m : Int) / 10 = ((m / 10 : Nat) : Int)) := by show _ = _; omega
      have hF : Hid (digitsF n = digitsF (m / 10) ++ ([UInt8.ofNat (48 + m % 10)] ++ ds)) := by
        show _ = _
        rw [hd.out]
        conv => lhs; unfold digitsF
        rw [if_neg hten, List.append_assoc]
      have hne : ¬ (m : Int) / 10 = 0 := by omega
      have HT := Lib.hid hten
      clear hten
      go_wp2_with (at_builtin; go_loud (refine wl_append bt rfl (.tmp 8) (.tmp 9) rfl wr.heap.size _ _ hlit.out rfl a l cap ds rfl (HR.out.toRd.to ((Below.refl _ _).alloc (Nat.le_refl _) _)) (by have := HR.out.len; simp only [List.length_singleton]; omega) (by simp) ?_); intro v' w1 ho1 hb1)
      go_roundw
      case rel => exact ⟨m / 10, _, by have := HM.out; omega, by rw [hq.out], hF, ho1.mono HGW.out, hbW.out _ hb1⟩
      case measure => have := HT.out; simp only [intOf]; omega
end Go.Proofs.YtehlgflpkofooaaDoor
