/-
  The answers' Utf8: is a text UTF-8? Conditions: those in each statement.
-/
import Derived.Test.YtehlgflpkofooaaDoorJsonW
import Derived.Deep.DeepCutAuto
import Derived.Deep.CutBlock
namespace Go.Proofs.YtehlgflpkofooaaDoor
open Go.RowKit

/-- what a first byte says: how many bytes, the least number, the number's first bits -/
def firstF (c : Nat) : Option (Nat × Nat × Nat) :=
  if c < 128 then some (0, 0, c) else if 194 ≤ c ∧ c < 224 then some (1, 128, c - 192) else if 224 ≤ c ∧ c < 240 then some (2, 2048, c - 224) else if 240 ≤ c ∧ c < 245 then some (3, 65536, c - 240) else none
/-- so many bytes that continue -/
def contsF : Nat → Nat → List UInt8 → Option (Nat × List UInt8)
  | 0, v, l => some (v, l)
  | _ + 1, _, [] => none
  | n + 1, v, d :: l => if cont d then contsF n (64 * v + (d.toNat - 128)) l else none
def mayRune (least v : Nat) : Bool := decide (least ≤ v) && decide (v ≤ 1114111) && !(decide (55296 ≤ v) && decide (v < 57344))

theorem utf8_step (c : UInt8) (l : List UInt8) : utf8F (c :: l) = match firstF c.toNat with
    | none => false
    | some (n, least, v) => match contsF n v l with
      | none => false
      | some (u, rest) => mayRune least u && utf8F rest := by
  have hc := c.toNat_lt
  conv => lhs; unfold utf8F
  unfold firstF
  by_cases h1 : c.toNat < 128
  · rw [if_pos h1, if_pos h1]
    simp only [contsF]
    have : mayRune 0 c.toNat = true := by unfold mayRune; simp; omega
    rw [this, Bool.true_and]
  · rw [if_neg h1, if_neg h1]
    by_cases h2 : 194 ≤ c.toNat ∧ c.toNat < 224
    · rw [if_pos h2, if_pos h2]
      cases l with
      | nil => simp [contsF]
      | cons d l =>
        simp only [contsF]
        cases hd : cont d with
        | false => simp
        | true =>
          have hd' := hd
          unfold cont at hd'
          simp at hd'
          have : mayRune 128 (64 * (c.toNat - 192) + (d.toNat - 128)) = true := by unfold mayRune; simp; omega
          simp [this]
    · rw [if_neg h2, if_neg h2]
      by_cases h3 : 224 ≤ c.toNat ∧ c.toNat < 240
      · rw [if_pos h3, if_pos h3]
        match l with
        | [] => simp [contsF]
        | [d] => simp only [contsF]; cases cont d <;> simp
        | d :: e :: l =>
          simp only [contsF]
          cases hd : cont d with
          | false => simp
          | true =>
            cases he : cont e with
            | false => simp
            | true =>
              unfold cont at hd he
              simp at hd he
              have e1 : 64 * (64 * (c.toNat - 224) + (d.toNat - 128)) + (e.toNat - 128) = 4096 * (c.toNat - 224) + 64 * (d.toNat - 128) + (e.toNat - 128) := by omega
              simp only [if_true, e1]
              generalize hv : 4096 * (c.toNat - 224) + 64 * (d.toNat - 128) + (e.toNat - 128) = v
              have : v ≤ 1114111 := by omega
              unfold mayRune
              simp [this]
      · rw [if_neg h3, if_neg h3]
        by_cases h4 : 240 ≤ c.toNat ∧ c.toNat < 245
        · rw [if_pos h4, if_pos h4]
          match l with
          | [] => simp [contsF]
          | [d] => simp only [contsF]; cases cont d <;> simp
          | [d, e] => simp only [contsF]; cases cont d <;> cases cont e <;> simp
          | d :: e :: f :: l =>
            simp only [contsF]
            cases hd : cont d with
            | false => simp
            | true =>
              cases he : cont e with
              | false => simp
              | true =>
                cases hf : cont f with
                | false => simp
                | true =>
                  have e1 : 64 * (64 * (64 * (c.toNat - 240) + (d.toNat - 128)) + (e.toNat - 128)) + (f.toNat - 128) = 262144 * (c.toNat - 240) + 4096 * (d.toNat - 128) + 64 * (e.toNat - 128) + (f.toNat - 128) := by omega
                  simp only [if_true, e1]
                  generalize hv : 262144 * (c.toNat - 240) + 4096 * (d.toNat - 128) + 64 * (e.toNat - 128) + (f.toNat - 128) = v
                  unfold mayRune
                  by_cases hl : 65536 ≤ v
                  · have : ¬ v < 57344 := by omega
                    simp [hl, this]
                  · simp [hl]
        · rw [if_neg h4, if_neg h4]
/-- a number of so many bytes is short -/
theorem first_le {c n least v : Nat} (hc : c < 256) (h : firstF c = some (n, least, v)) : n ≤ 3 ∧ v < 256 ∧ least ≤ 65536 := by
  unfold firstF at h
  split at h
  · cases h; omega
  · split at h
    · cases h; omega
    · split at h
      · cases h; omega
      · split at h
        · cases h; omega
        · cases h
theorem conts_none : ∀ (n v : Nat) (l : List UInt8), l.length < n → contsF n v l = none
  | 0, _, _, h => by omega
  | n + 1, v, [], _ => rfl
  | n + 1, v, d :: l, h => by
    unfold contsF
    split
    · exact conts_none n _ l (by simpa using h)
    · rfl
theorem conts_rest : ∀ (n v : Nat) (l : List UInt8) (u : Nat) (r : List UInt8), contsF n v l = some (u, r) → r = l.drop n
  | 0, v, l, u, r, h => by cases h; rfl
  | n + 1, v, [], u, r, h => by cases h
  | n + 1, v, d :: l, u, r, h => by
    unfold contsF at h
    split at h
    · exact conts_rest n _ l u r h
    · cases h

theorem conts_step (n v : Nat) (s : List UInt8) (i : Nat) (h : i < s.length) : contsF (n + 1) v (s.drop i) = if cont (s.getD i 0) then contsF n (64 * v + ((s.getD i 0).toNat - 128)) (s.drop (i + 1)) else none := by
  rw [List.drop_eq_getElem_cons h]
  have e : s.getD i 0 = s[i] := by simp [List.getD, h]
  rw [e]
  rfl

set_option maxRecDepth 100000 in
set_option maxHeartbeats 1600000 in
theorem rUtf8_any (s : List UInt8) (w : World) (hs : s.length ≤ 9223372036854775000) :
    Calls Tryd.prog 46 #[.string (bstr s)] w fun e w' => e = .returned (.bool (utf8F s)) ∧ w' = w := by
  have hsz : (bstr s).size = s.length := by show s.toArray.size = _; simp
  go_enter Tryd.func46, Tryd.ntmps46
  go_wp2_with fail
  go_loopw [3] (fun i wr => ∃ (k : Nat), k ≤ s.length ∧ i = .int .i64 k ∧ Hid (utf8F s = utf8F (s.drop k)) ∧ wr = w) (fun i _ => s.length - (intOf i).toNat)
  case atStart => exact ⟨0, by omega, rfl, rfl, rfl⟩
  case round =>
    obtain ⟨k, hk, rfl, HF, hw⟩ := hrel
    subst hw
    by_cases hlt : k < s.length
    · have hc : (k : Int) < (s.length : Int) := by omega
      have hix := bstr_index s k hlt
      have hst : Hid (utf8F s = match firstF (s.getD k 0).toNat with
        | none => false
        | some (n, least, v) => match contsF n v (s.drop (k + 1)) with
          | none => false
          | some (u, rest) => mayRune least u && utf8F rest) := by
        show _ = _
        rw [HF.out, List.drop_eq_getElem_cons hlt, utf8_step]
        have e : s.getD k 0 = s[k] := by simp [List.getD, hlt]
        rw [e]
      have hy := (s.getD k 0).toNat_lt
      generalize (s.getD k 0).toNat = y at *
      have HY := Lib.hid hy
      go_upto_block 2 with fail
      go_cut [5, 6, 7] from 19 to 48 (fun a b c wx => wx = wr ∧ ∃ N L V : Nat, Hid (firstF y = some (N, L, V)) ∧ a = .int .i64 ((N + 1 : Nat) : Int) ∧ b = .int .i64 (L : Int) ∧ c = .int .i64 (V : Int))
      case first =>
        clear hix
        by_cases h1 : y < 128
        · have i1 : (y : Int) < 128 := by omega
          have hf : Hid (firstF y = some (0, 0, y)) := by show _ = _; unfold firstF; rw [if_pos h1]
          clear h1 hy
          go_wp2_with fail
          go_meet
          exact ⟨rfl, 0, 0, y, hf, rfl, rfl, rfl⟩
        · have i1 : ¬ (y : Int) < 128 := by omega
          by_cases h2 : 194 ≤ y ∧ y < 224
          · have i2 : 194 ≤ (y : Int) := by omega
            have i3 : (y : Int) < 224 := by omega
            have hf : Hid (firstF y = some (1, 128, y - 192)) := by show _ = _; unfold firstF; rw [if_neg h1, if_pos h2]
            have hv : Hid ((y : Int) - 192 = ((y - 192 : Nat) : Int)) := by show _ = _; omega
            clear h1 h2 hy
            go_wp2_with fail
            go_meet
            exact ⟨rfl, 1, 128, _, hf, rfl, rfl, by rw [hv.out]⟩
          · by_cases h3 : 224 ≤ y ∧ y < 240
            · have i2 : 224 ≤ (y : Int) := by omega
              have i3 : (y : Int) < 240 := by omega
              have i4 : 194 ≤ (y : Int) := by omega
              have i5 : ¬ (y : Int) < 224 := by omega
              have hf : Hid (firstF y = some (2, 2048, y - 224)) := by show _ = _; unfold firstF; rw [if_neg h1, if_neg h2, if_pos h3]
              have hv : Hid ((y : Int) - 224 = ((y - 224 : Nat) : Int)) := by show _ = _; omega
              clear h1 h2 h3 hy
              go_wp2_with fail
              go_meet
              exact ⟨rfl, 2, 2048, _, hf, rfl, rfl, by rw [hv.out]⟩
            · by_cases h4 : 240 ≤ y ∧ y < 245
              · have i2 : 240 ≤ (y : Int) := by omega
                have i3 : (y : Int) < 245 := by omega
                have i4 : 194 ≤ (y : Int) := by omega
                have i5 : ¬ (y : Int) < 224 := by omega
                have i6 : 224 ≤ (y : Int) := by omega
                have i7 : ¬ (y : Int) < 240 := by omega
                have hf : Hid (firstF y = some (3, 65536, y - 240)) := by show _ = _; unfold firstF; rw [if_neg h1, if_neg h2, if_neg h3, if_pos h4]
                have hv : Hid ((y : Int) - 240 = ((y - 240 : Nat) : Int)) := by show _ = _; omega
                clear h1 h2 h3 h4 hy
                go_wp2_with fail
                go_meet
                exact ⟨rfl, 3, 65536, _, hf, rfl, rfl, by rw [hv.out]⟩
              · have hF : Hid (utf8F s = false) := by
                  show _ = _
                  rw [hst.out]
                  have : firstF y = none := by unfold firstF; rw [if_neg h1, if_neg h2, if_neg h3, if_neg h4]
                  rw [this]
                have i2 : ¬ (194 ≤ (y : Int) ∧ (y : Int) < 224) := by omega
                have hw : y < 194 ∨ 245 ≤ y := by omega
                clear h1 h2 h3 h4 hy i2
                rcases hw with hw | hw
                · have i3 : ¬ 194 ≤ (y : Int) := by omega
                  have i4 : ¬ 224 ≤ (y : Int) := by omega
                  have i5 : ¬ 240 ≤ (y : Int) := by omega
                  clear hw
                  go_wp2_with fail
                  go_ret
                  exact ⟨by rw [hF.out]; rfl, rfl⟩
                · have i2 : 240 ≤ (y : Int) := by omega
                  have i3 : ¬ (y : Int) < 245 := by omega
                  have i4 : 194 ≤ (y : Int) := by omega
                  have i5 : ¬ (y : Int) < 224 := by omega
                  have i6 : 224 ≤ (y : Int) := by omega
                  have i7 : ¬ (y : Int) < 240 := by omega
                  clear hw
                  go_wp2_with fail
                  go_ret
                  exact ⟨by rw [hF.out]; rfl, rfl⟩
      case rest =>
        obtain ⟨rfl, N, L, V, hf, rfl, rfl, rfl⟩ := hcut
        have hle := first_le HY.out hf.out
        obtain ⟨hN, hV, hL⟩ := hle
        have hst2 : Hid (utf8F s = match contsF N V (s.drop (k + 1)) with
          | none => false
          | some (u, rest) => mayRune L u && utf8F rest) := by
          show _ = _
          rw [hst.out, hf.out]
        clear hst hf hix
        obtain ⟨M, hM⟩ : ∃ M, M = N + 1 := ⟨_, rfl⟩
        rw [← hM]
        by_cases hsh : s.length - k < M
        · have hc2 : (s.length : Int) - (k : Int) < (M : Int) := by omega
          have hF : Hid (utf8F s = false) := by
            show _ = _
            rw [hst2.out, conts_none _ _ _ (by rw [List.length_drop]; omega)]
          clear hsh
          go_wp2_with fail
          go_ret
          exact ⟨by rw [hF.out]; rfl, rfl⟩
        · have hc2 : ¬ (s.length : Int) - (k : Int) < (M : Int) := by omega
          have HM := Lib.hid hM
          have HS := Lib.hid hsh
          have HL := Lib.hid hL
          have hM4 : M ≤ 4 := by omega
          clear hM hsh hL hy
          go_wp2_with fail
          clear hc2
          go_loopw [7, 8] (fun r j wx => ∃ (K U : Nat), 1 ≤ K ∧ K ≤ M ∧ j = .int .i64 K ∧ r = .int .i64 U ∧ Hid (contsF N V (s.drop (k + 1)) = contsF (M - K) U (s.drop (k + K))) ∧ Hid (U < 256 * 64 ^ (K - 1)) ∧ wx = wc) (fun _ j _ => M - (intOf j).toNat)
          case atStart => exact ⟨1, V, by omega, by have := HM.out; omega, rfl, rfl, by show _ = _; rw [HM.out]; rfl, by show _ < _; omega, rfl⟩
          case round =>
            obtain ⟨K, U, hK1, hK, rfl, rfl, HC, HU, hw⟩ := hrel
            subst hw
            by_cases hkm : K < M
            · have hc3 : (K : Int) < (M : Int) := by omega
              have hin : k + K < s.length := by have := HS.out; omega
              have hix := bstr_index s (k + K) hin
              push_cast at hix
              have hCS : Hid (contsF N V (s.drop (k + 1)) = if cont (s.getD (k + K) 0) then contsF (M - (K + 1)) (64 * U + ((s.getD (k + K) 0).toNat - 128)) (s.drop (k + (K + 1))) else none) := by
                show _ = _
                rw [HC.out, show M - K = (M - (K + 1)) + 1 by omega, conts_step _ _ _ _ hin]
                rfl
              have hUb : U < 1048576 := by
                have h := HU.out
                have : K = 1 ∨ K = 2 ∨ K = 3 := by omega
                rcases this with rfl | rfl | rfl <;> simp at h <;> omega
              have hd := (s.getD (k + K) 0).toNat_lt
              have hcd : Hid (cont (s.getD (k + K) 0) = (decide (128 ≤ (s.getD (k + K) 0).toNat) && decide ((s.getD (k + K) 0).toNat ≤ 191))) := rfl
              generalize hcn : cont (s.getD (k + K) 0) = cn at *
              generalize (s.getD (k + K) 0).toNat = d at *
              clear hcn
              by_cases hd1 : d < 128
              · have i1 : (d : Int) < 128 := by omega
                have hF : Hid (utf8F s = false) := by
                  show _ = _
                  rw [hst2.out, hCS.out, hcd.out, decide_eq_false (by omega)]
                  rfl
                clear hd1
                go_wp2_with fail
                go_ret
                exact ⟨by rw [hF.out]; rfl, rfl⟩
              · have i1 : ¬ (d : Int) < 128 := by omega
                by_cases hd2 : 191 < d
                · have i2 : (d : Int) > 191 := by omega
                  have hF : Hid (utf8F s = false) := by
                    show _ = _
                    rw [hst2.out, hCS.out, hcd.out, decide_eq_false (p := d ≤ 191) (by omega), Bool.and_false]
                    rfl
                  clear hd1 hd2
                  go_wp2_with fail
                  go_ret
                  exact ⟨by rw [hF.out]; rfl, rfl⟩
                · have i2 : ¬ (d : Int) > 191 := by omega
                  have hct : Hid (contsF N V (s.drop (k + 1)) = contsF (M - (K + 1)) (64 * U + (d - 128)) (s.drop (k + (K + 1)))) := by
                    show _ = _
                    rw [hCS.out, hcd.out, decide_eq_true (by omega), decide_eq_true (by omega)]
                    rfl
                  have hnew : Hid (64 * (U : Int) + (d : Int) - 128 = ((64 * U + (d - 128) : Nat) : Int)) := by show _ = _; omega
                  have hub : Hid (64 * U + (d - 128) < 256 * 64 ^ (K + 1 - 1)) := by
                    show _ < _
                    have h := HU.out
                    obtain ⟨K', rfl⟩ : ∃ K', K = K' + 1 := ⟨K - 1, by omega⟩
                    rw [Nat.add_sub_cancel] at h ⊢
                    rw [Nat.pow_succ]
                    omega
                  have HK := Lib.hid hkm
                  clear hd1 hd2 hkm
                  go_wp2_with fail
                  go_roundw
                  case rel => exact ⟨K + 1, _, by omega, by have := HK.out; omega, by go_num, by rw [hnew.out], hct, hub, trivial⟩
                  case measure => have := HK.out; simp [intOf]; omega
            · have hc3 : ¬ (K : Int) < (M : Int) := by omega
              have hst3 : Hid (utf8F s = (mayRune L U && utf8F (s.drop (k + M)))) := by
                show _ = _
                rw [hst2.out, HC.out, show K = M by omega, Nat.sub_self]
                rfl
              have hUb : U < 4294967296 := by
                have h := HU.out
                have : K = 1 ∨ K = 2 ∨ K = 3 ∨ K = 4 := by omega
                rcases this with rfl | rfl | rfl | rfl <;> simp at h <;> omega
              have HUB := Lib.hid hUb
              by_cases a1 : U < L
              · have i1 : (U : Int) < (L : Int) := by omega
                have hF : Hid (utf8F s = false) := by show _ = _; rw [hst3.out]; unfold mayRune; simp; omega
                clear hUb
                clear a1
                go_wp2_with fail
                go_ret
                exact ⟨by rw [hF.out]; rfl, rfl⟩
              · have i1 : ¬ (U : Int) < (L : Int) := by omega
                by_cases a2 : 1114111 < U
                · have i2 : (U : Int) > 1114111 := by omega
                  have hF : Hid (utf8F s = false) := by show _ = _; rw [hst3.out]; unfold mayRune; simp; omega
                  clear hUb
                  clear a1 a2
                  go_wp2_with fail
                  go_ret
                  exact ⟨by rw [hF.out]; rfl, rfl⟩
                · have i2 : ¬ (U : Int) > 1114111 := by omega
                  by_cases a3 : 55296 ≤ U
                  · have i3 : (U : Int) ≥ 55296 := by omega
                    by_cases a4 : U < 57344
                    · have i4 : (U : Int) < 57344 := by omega
                      have hF : Hid (utf8F s = false) := by show _ = _; rw [hst3.out]; unfold mayRune; simp; omega
                      clear hUb
                      clear a1 a2 a3 a4
                      go_wp2_with fail
                      go_ret
                      exact ⟨by rw [hF.out]; rfl, rfl⟩
                    · have i4 : ¬ (U : Int) < 57344 := by omega
                      have hG : Hid (utf8F s = utf8F (s.drop (k + M))) := by
                        show _ = _
                        have : mayRune L U = true := by unfold mayRune; simp; omega
                        rw [hst3.out, this, Bool.true_and]
                      clear hUb
                      clear a1 a2 a3 a4
                      go_wp2_with fail
                      go_roundw
                      case rel => exact ⟨k + M, by have := HS.out; omega, by go_num, hG, trivial⟩
                      case measure => have := HM.out; have := HS.out; simp [intOf]; omega
                  · have i3 : ¬ (U : Int) ≥ 55296 := by omega
                    have hG : Hid (utf8F s = utf8F (s.drop (k + M))) := by
                      show _ = _
                      have : mayRune L U = true := by unfold mayRune; simp; omega
                      rw [hst3.out, this, Bool.true_and]
                    clear hUb
                    clear a1 a2 a3
                    go_wp2_with fail
                    go_roundw
                    case rel => exact ⟨k + M, by have := HS.out; omega, by go_num, hG, trivial⟩
                    case measure => have := HM.out; have := HS.out; simp [intOf]; omega
    · have hc : ¬ (k : Int) < (s.length : Int) := by omega
      have HT : Hid (utf8F s = true) := by
        show _ = _
        rw [HF.out, List.drop_of_length_le (by omega)]
        rfl
      go_wp2_with fail
      go_ret
      exact ⟨by rw [HT.out]; rfl, rfl⟩
end Go.Proofs.YtehlgflpkofooaaDoor
