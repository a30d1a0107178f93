/-
  Layer 10: the program's Path. Conditions: those in each statement.
-/
import Derived.Test.YtcnnblhjgligbaaInI
namespace Go.Proofs.Ytcnnblhjgligbaa
open Go.RowKit

theorem path_ranges : ∀ (N : Nat) (L : List (List UInt8)) (i s : Nat), L.length ≤ N → i < L.length → pathF L i = (rgF i L.length s).map (fun r => rootF ((L.drop (r.1 - s)).take (r.2 - r.1))) := by
  intro N
  induction N using Nat.strongRecOn with
  | _ N ih =>
    intro L i s hN hi
    by_cases h1 : L.length ≤ 1
    · rw [pathF_one L i h1, rgF_one _ _ _ h1]; rfl
    · obtain ⟨b1, b2, b3⟩ := splK_bounds (n := L.length) (by omega)
      have ht : (L.take (splK L.length)).length = splK L.length := by rw [List.length_take]; omega
      have hd : (L.drop (splK L.length)).length = L.length - splK L.length := List.length_drop
      by_cases h : i < splK L.length
      · have e := ih (splK L.length) (by omega) (L.take (splK L.length)) i s (by omega) (by omega)
        rw [ht] at e
        rw [pathF_low L i (by omega) h, rgF_low _ _ _ (by omega) h, List.map_append, e]
        congr 1
        · refine List.map_congr_left fun r hr => ?_
          have := rg_in _ (splK L.length) i s (Nat.le_refl _) h r hr
          rw [List.drop_take, List.take_take, Nat.min_eq_left (by omega)]
        · show [_] = [_]
          congr 2
          rw [show s + splK L.length - s = splK L.length by omega, List.take_of_length_le (by simp only; omega)]
      · have e := ih (L.length - splK L.length) (by omega) (L.drop (splK L.length)) (i - splK L.length) (s + splK L.length) (by omega) (by omega)
        rw [hd] at e
        rw [pathF_high L i (by omega) h, rgF_high _ _ _ (by omega) h, List.map_append, e]
        congr 1
        · refine List.map_congr_left fun r hr => ?_
          have := rg_in _ (L.length - splK L.length) (i - splK L.length) (s + splK L.length) (Nat.le_refl _) (by omega) r hr
          rw [List.drop_drop, show splK L.length + (r.1 - (s + splK L.length)) = r.1 - s by omega]
        · show [_] = [_]
          congr 2
          simp
def pL (L : List (List UInt8)) (i : Nat) : List (List UInt8) := if okR i L.length then pathF L i else []
theorem pL_all {L : List (List UInt8)} (h : All32 L) (i : Nat) : All32 (pL L i) := by
  unfold pL
  split
  · exact path_all _ L i (Nat.le_refl _) h
  · exact All32.of (by simp)
theorem pL_len {L : List (List UInt8)} (i : Nat) : (pL L i).length = (rL i L.length).length := by
  unfold pL rL
  split
  · exact path_len _ L i 0 (Nat.le_refl _)
  · rfl
/-- one hash of a path -/
def rootR (L : List (List UInt8)) (r : Nat × Nat) : List UInt8 := rootF ((L.drop r.1).take (r.2 - r.1))
theorem OwnD.base' {w : World} {B B' : Nat} {v : Value} {L : List (List UInt8)} (h : OwnD w B v L) (hb : B' ≤ B) : OwnD w B' v L := by
  refine ⟨?_, h.all⟩
  obtain ⟨h1, h2 | ⟨g, cap, cur, rfl, hbb, r⟩⟩ := h.row
  · exact ⟨h1, .inl h2⟩
  · exact ⟨h1, .inr ⟨g, cap, cur, rfl, by omega, r⟩⟩

end Go.Proofs.Ytcnnblhjgligbaa
