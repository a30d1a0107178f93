/-
  The program's reader: escapes, words; the plain machine. Conditions: those in each statement.
-/
import Derived.Test.YtiadfijeglbdlaaDoorJyL
import Derived.Test.YtiadfijeglbdlaaDoorJyA
namespace Go.Proofs.YtiadfijeglbdlaaDoor
open Go.RowKit

theorem number_any (R : Nat) (xs : List UInt8) (w : World) (h : RdAt w R xs) (hT : Tabs w) (hlim : xs.length ≤ 281474976710656) :
    Calls Tryd.prog 62 #[.pointer (some ⟨R, 0, none⟩)] w (FlatRes ((numF xs).map fun p => (3, [], p.1, p.2)) w R) := by
  obtain ⟨h1, h2, h3⟩ := span_split xs
  unfold numF
  by_cases h0 : (spanD xs).1 = []
  · rw [if_pos h0]
    rw [h0] at h1 h2
    exact number_none R xs (spanD xs).2 w h hT (fun _ _ => ⟨h1, h2, h3⟩)
  · rw [if_neg h0]
    have := number_pos R xs (spanD xs).1 (spanD xs).2 w h hT (fun _ _ => ⟨h1, h2, h3⟩) h0 hlim
    have e : ∀ (p q : Prop) [Decidable p] [Decidable q] (v : Nat) (r : List UInt8), ((if p then none else if q then some (v, r) else none : Option (Nat × List UInt8)).map fun p => (3, ([] : List UInt8), p.1, p.2)) = (if p then none else if q then some (3, [], v, r) else none) := fun p q _ _ v r => by
      by_cases hp : p <;> by_cases hq : q <;> simp [hp, hq]
    rw [e]
    exact this
end Go.Proofs.YtiadfijeglbdlaaDoor

namespace Go.Proofs.YtiadfijeglbdlaaDoor
open Go.RowKit

theorem wp_scope_five {P : Program} {a : Act} {w : World} {Q : Exit → Act → World → Prop} {c r0 r1 r2 r3 r4 : Code} (J : Nat → Nat → Act → World → Prop)
    (h0 : findLabel c 0 = some r0) (h1 : findLabel c 1 = some r1) (h2 : findLabel c 2 = some r2) (h3 : findLabel c 3 = some r3) (h4 : findLabel c 4 = some r4) (hJ : ∀ l n a w, J l n a w → l < 5)
    (first : c.wp P (jumps (fun l a w => ∃ n, J l n a w) Q) a w)
    (p0 : ∀ n a w, J 0 n a w → r0.wp P (jumps (fun l' a' w' => ∃ n', n' < n ∧ J l' n' a' w') Q) a w)
    (p1 : ∀ n a w, J 1 n a w → r1.wp P (jumps (fun l' a' w' => ∃ n', n' < n ∧ J l' n' a' w') Q) a w)
    (p2 : ∀ n a w, J 2 n a w → r2.wp P (jumps (fun l' a' w' => ∃ n', n' < n ∧ J l' n' a' w') Q) a w)
    (p3 : ∀ n a w, J 3 n a w → r3.wp P (jumps (fun l' a' w' => ∃ n', n' < n ∧ J l' n' a' w') Q) a w)
    (p4 : ∀ n a w, J 4 n a w → r4.wp P (jumps (fun l' a' w' => ∃ n', n' < n ∧ J l' n' a' w') Q) a w) : (Code.scope c).wp P Q a w := by
  have hl : ∀ l, l < 5 → l = 0 ∨ l = 1 ∨ l = 2 ∨ l = 3 ∨ l = 4 := fun l h => by omega
  refine wp_scope_labels (fun l => match l with | 0 => r0 | 1 => r1 | 2 => r2 | 3 => r3 | _ => r4) J (fun l n a w h => ?_) first (fun l n a w h => ?_)
  · rcases hl l (hJ l n a w h) with rfl | rfl | rfl | rfl | rfl
    · exact h0
    · exact h1
    · exact h2
    · exact h3
    · exact h4
  · rcases hl l (hJ l n a w h) with rfl | rfl | rfl | rfl | rfl
    · exact p0 n a w h
    · exact p1 n a w h
    · exact p2 n a w h
    · exact p3 n a w h
    · exact p4 n a w h

theorem must_no {c d : UInt8} {s b : List UInt8} (h : d ≠ c) : mustF (c :: s) (d :: b) = none := by
  simp only [mustF]
  exact if_neg (fun e => h e.symm)
theorem must_yes {c : UInt8} {s b : List UInt8} : mustF (c :: s) (c :: b) = mustF s b := by
  simp only [mustF, if_true]
/-- behind a high half: its other half, and on -/
def pairF (f n : Nat) (r : List UInt8) : Option (List UInt8 × List UInt8) :=
  match mustF [92, 117] r with
  | none => none
  | some r3 =>
    match fourF r3 with
    | none => none
    | some (m, r4) => if 56320 ≤ m ∧ m ≤ 57343 then (strF f r4).map fun (s, q) => (runeF (65536 + 1024 * (n - 55296) + (m - 56320)) ++ s, q) else none
/-- behind '\u' -/
def digF (f : Nat) (r1 : List UInt8) : Option (List UInt8 × List UInt8) :=
  match fourF r1 with
  | none => none
  | some (n, r2) => if 55296 ≤ n ∧ n < 56320 then pairF f n r2 else if 56320 ≤ n ∧ n < 57344 then none else (strF f r2).map fun (s, q) => (runeF n ++ s, q)
/-- behind '\' -/
def escT (f : Nat) (r : List UInt8) : Option (List UInt8 × List UInt8) :=
  match r with
  | [] => none
  | d :: r1 => if d = 117 then digF f r1 else match oneF d with | none => none | some x => (strF f r1).map fun (s, q) => (x :: s, q)
theorem strF_cons (f : Nat) (c : UInt8) (r : List UInt8) : strF (f + 1) (c :: r) = if c.toNat < 32 then none else if c = 34 then some ([], r) else if c ≠ 92 then (strF f r).map fun (s, q) => (c :: s, q) else escT f r := by
  conv => lhs; unfold strF
  unfold escT digF pairF
  rfl
/-- with what was read before -/
def aheadF (acc : List UInt8) (o : Option (List UInt8 × List UInt8)) : Option (List UInt8 × List UInt8) := o.map fun (s, q) => (acc ++ s, q)
theorem ahead_step (acc x : List UInt8) (o : Option (List UInt8 × List UInt8)) : aheadF acc (o.map fun (s, q) => (x ++ s, q)) = aheadF (acc ++ x) o := by
  cases o with
  | none => rfl
  | some p => simp [aheadF]
theorem ahead_one (acc : List UInt8) (x : UInt8) (o : Option (List UInt8 × List UInt8)) : aheadF acc (o.map fun (s, q) => (x :: s, q)) = aheadF (acc ++ [x]) o := by
  cases o with
  | none => rfl
  | some p => simp [aheadF]
theorem ahead_none (acc : List UInt8) : aheadF acc none = none := rfl
/-- the bytes of a rune that is no half -/
theorem rune_cells (n : Nat) (h1 : ¬ (55296 ≤ n ∧ n < 57344)) (h2 : n ≤ 1114111) : Lib.runeCells (n : Int) = (runeF n).map bv := by
  unfold Lib.runeCells runeF
  have hb : ∀ (k : Nat) (z : Int), k < 256 → (k : Int) = z → Value.int .u8 z = bv (UInt8.ofNat k) := fun k z hk e => by
    unfold bv
    rw [UInt8.toNat_ofNat', Nat.mod_eq_of_lt (by omega), e]
  by_cases a1 : n < 128
  · rw [if_pos a1, Lib.encodeRuneZ_one (by omega) (by omega)]
    simp only [List.map_cons, List.map_nil]
    rw [hb n (n : Int) (by omega) rfl]
  · rw [if_neg a1]
    by_cases a2 : n < 2048
    · rw [if_pos a2, Lib.encodeRuneZ_two (by omega) (by omega)]
      simp only [List.map_cons, List.map_nil]
      rw [hb (192 + n / 64) (192 + (n : Int) / 64) (by omega) (by omega), hb (128 + n % 64) (128 + (n : Int) % 64) (by omega) (by omega)]
    · rw [if_neg a2]
      by_cases a3 : n < 65536
      · rw [if_pos a3, Lib.encodeRuneZ_three (by omega)]
        simp only [List.map_cons, List.map_nil]
        rw [hb (224 + n / 4096) (224 + (n : Int) / 4096) (by omega) (by omega), hb (128 + n / 64 % 64) (128 + (n : Int) / 64 % 64) (by omega) (by omega), hb (128 + n % 64) (128 + (n : Int) % 64) (by omega) (by omega)]
      · rw [if_neg a3, Lib.encodeRuneZ_four (by omega) (by omega)]
        simp only [List.map_cons, List.map_nil]
        rw [hb (240 + n / 262144) (240 + (n : Int) / 262144) (by omega) (by omega), hb (128 + n / 4096 % 64) (128 + (n : Int) / 4096 % 64) (by omega) (by omega), hb (128 + n / 64 % 64) (128 + (n : Int) / 64 % 64) (by omega) (by omega), hb (128 + n % 64) (128 + (n : Int) % 64) (by omega) (by omega)]
theorem rune_len (n : Nat) : (runeF n).length ≤ 4 := by
  unfold runeF
  split
  · simp
  · split
    · simp
    · split <;> simp
end Go.Proofs.YtiadfijeglbdlaaDoor

namespace Go.Proofs.YtiadfijeglbdlaaDoor
open Go.RowKit

/-- a string; whether it is UTF-8 is not asked -/
def stringG (b : List UInt8) : Option (List UInt8 × List UInt8) :=
  match mustF [34] b with
  | none => none
  | some r => strF (r.length + 1) r
mutual
/-- a value, that may have so many in one another -/
def valueG : Nat → Nat → List UInt8 → Option (JV × List UInt8)
  | 0, _, _ => none
  | f + 1, most, b0 =>
    match blanksF b0 with
    | [] => none
    | c :: r =>
      if c = 110 then (mustF [110, 117, 108, 108] (c :: r)).map fun q => (JV.mk 0 [] 0 [] [], q)
      else if c = 102 then (mustF [102, 97, 108, 115, 101] (c :: r)).map fun q => (JV.mk 1 [] 0 [] [], q)
      else if c = 116 then (mustF [116, 114, 117, 101] (c :: r)).map fun q => (JV.mk 2 [] 0 [] [], q)
      else if c = 34 then (stringG (c :: r)).map fun (s, q) => (JV.mk 4 s 0 [] [], q)
      else if c = 91 then
        if most = 0 then none
        else match blanksF r with
          | [] => none
          | d :: r1 => if d = 93 then some (JV.mk 5 [] 0 [] [], r1) else (itemsG f (most - 1) (d :: r1)).map fun (l, q) => (JV.mk 5 [] 0 l [], q)
      else if c = 123 then
        if most = 0 then none
        else match blanksF r with
          | [] => none
          | d :: r1 => if d = 125 then some (JV.mk 6 [] 0 [] [], r1) else (membersG f (most - 1) (d :: r1)).map fun (l, ks, q) => (JV.mk 6 [] 0 l ks, q)
      else (numF (c :: r)).map fun (n, q) => (JV.mk 3 [] n [] [], q)
/-- items of a list, up to its end -/
def itemsG : Nat → Nat → List UInt8 → Option (List JV × List UInt8)
  | 0, _, _ => none
  | f + 1, most, b =>
    match valueG f most b with
    | none => none
    | some (v, q) =>
      match blanksF q with
      | [] => none
      | c :: r => if c = 93 then some ([v], r) else if c = 44 then (itemsG f most r).map fun (l, q) => (v :: l, q) else none
/-- members of an object, up to its end -/
def membersG : Nat → Nat → List UInt8 → Option (List JV × List (List UInt8) × List UInt8)
  | 0, _, _ => none
  | f + 1, most, b =>
    match stringG (blanksF b) with
    | none => none
    | some (k, b1) =>
      match mustF [58] (blanksF b1) with
      | none => none
      | some b2 =>
        match valueG f most b2 with
        | none => none
        | some (v, q) =>
          match blanksF q with
          | [] => none
          | c :: r => if c = 125 then some ([v], [k], r) else if c = 44 then (membersG f most r).map fun (l, ks, q) => (v :: l, k :: ks, q) else none
end
theorem stringG_len (b s r : List UInt8) (h : stringG b = some (s, r)) : r.length < b.length := by
  unfold stringG at h
  cases hm : mustF [34] b with
  | none => rw [hm] at h; cases h
  | some t =>
    have h1 := must_len _ _ _ hm
    rw [hm] at h
    have := str_len _ _ _ _ h
    omega
/-- what is left is shorter -/
theorem valueG_len : ∀ f : Nat, (∀ most b x r, valueG f most b = some (x, r) → r.length < b.length) ∧ (∀ most b l r, itemsG f most b = some (l, r) → r.length < b.length) ∧ (∀ most b l ks r, membersG f most b = some (l, ks, r) → r.length < b.length) := by
  intro f
  induction f with
  | zero => exact ⟨fun _ _ _ _ h => by simp [valueG] at h, fun _ _ _ _ h => by simp [itemsG] at h, fun _ _ _ _ _ h => by simp [membersG] at h⟩
  | succ f ih =>
    obtain ⟨ihv, ihi, ihm⟩ := ih
    refine ⟨?_, ?_, ?_⟩
    · intro most b x r h
      have hbl := blanks_len b
      unfold valueG at h
      cases hb : blanksF b with
      | nil => rw [hb] at h; cases h
      | cons c t =>
        rw [hb] at h hbl
        rw [List.length_cons] at hbl
        have no : ∀ (s : List UInt8) (k : Int), 0 < s.length → (mustF s (c :: t)).map (fun q => (JV.mk k [] 0 [] [], q)) = some (x, r) → r.length < b.length := by
          intro s k hs e
          cases hm : mustF s (c :: t) with
          | none => rw [hm] at e; cases e
          | some z =>
            have := must_len _ _ _ hm
            rw [hm] at e
            cases e
            rw [List.length_cons] at this
            omega
        simp only at h
        split at h
        · exact no _ _ (by decide) h
        · split at h
          · exact no _ _ (by decide) h
          · split at h
            · exact no _ _ (by decide) h
            · split at h
              · obtain ⟨s, hs⟩ := map_len_u (k := fun s => JV.mk 4 s 0 [] []) h
                have := stringG_len _ _ _ hs
                rw [List.length_cons] at this
                omega
              · have htl := blanks_len t
                split at h
                · split at h
                  · cases h
                  · cases ht : blanksF t with
                    | nil => rw [ht] at h; cases h
                    | cons d t1 =>
                      rw [ht] at h htl
                      rw [List.length_cons] at htl
                      simp only at h
                      split at h
                      · cases h; omega
                      · obtain ⟨l, hl⟩ := map_len_u (k := fun l => JV.mk 5 [] 0 l []) h
                        have := ihi _ _ _ _ hl
                        rw [List.length_cons] at this
                        omega
                · split at h
                  · split at h
                    · cases h
                    · cases ht : blanksF t with
                      | nil => rw [ht] at h; cases h
                      | cons d t1 =>
                        rw [ht] at h htl
                        rw [List.length_cons] at htl
                        simp only at h
                        split at h
                        · cases h; omega
                        · cases hm : membersG f (most - 1) (d :: t1) with
                          | none => rw [hm] at h; cases h
                          | some z =>
                            obtain ⟨l, ks, r1⟩ := z
                            rw [hm] at h
                            cases h
                            have := ihm _ _ _ _ _ hm
                            rw [List.length_cons] at this
                            dsimp only
                            omega
                  · obtain ⟨n, hn⟩ := map_len_u (k := fun n => JV.mk 3 [] n [] []) h
                    have := num_len _ _ _ hn
                    rw [List.length_cons] at this
                    omega
    · intro most b l r h
      unfold itemsG at h
      cases hv : valueG f most b with
      | none => rw [hv] at h; cases h
      | some z =>
        obtain ⟨v, t⟩ := z
        have lv := ihv _ _ _ _ hv
        have htl := blanks_len t
        rw [hv] at h
        simp only at h
        cases ht : blanksF t with
        | nil => rw [ht] at h; cases h
        | cons c t1 =>
          rw [ht] at h htl
          rw [List.length_cons] at htl
          simp only at h
          split at h
          · cases h; omega
          · split at h
            · obtain ⟨l1, hl⟩ := map_len_u (k := fun l => v :: l) h
              have := ihi _ _ _ _ hl
              omega
            · cases h
    · intro most b l ks r h
      have hb0 := blanks_len b
      unfold membersG at h
      cases hk : stringG (blanksF b) with
      | none => rw [hk] at h; cases h
      | some z =>
        obtain ⟨k, b1⟩ := z
        have hk1 := stringG_len _ _ _ hk
        have hb1 := blanks_len b1
        rw [hk] at h
        simp only at h
        cases hm : mustF [58] (blanksF b1) with
        | none => rw [hm] at h; cases h
        | some b2 =>
          have hm1 := must_len _ _ _ hm
          rw [hm] at h
          simp only at h
          cases hv : valueG f most b2 with
          | none => rw [hv] at h; cases h
          | some z =>
            obtain ⟨v, t⟩ := z
            have lv := ihv _ _ _ _ hv
            have htl := blanks_len t
            rw [hv] at h
            simp only at h
            cases ht : blanksF t with
            | nil => rw [ht] at h; cases h
            | cons c t1 =>
              rw [ht] at h htl
              rw [List.length_cons] at htl
              simp only at h
              split at h
              · cases h; omega
              · split at h
                · cases hi : membersG f most t1 with
                  | none => rw [hi] at h; cases h
                  | some z =>
                    obtain ⟨l1, ks1, r1⟩ := z
                    rw [hi] at h
                    cases h
                    have := ihm _ _ _ _ _ hi
                    dsimp only
                    omega
                · cases h
/-- more fuel than the text is long tells nothing else -/
theorem valueG_fuel : ∀ f : Nat, (∀ most b g, 2 * b.length + 1 ≤ f → f ≤ g → valueG g most b = valueG f most b) ∧ (∀ most b g, 2 * b.length + 2 ≤ f → f ≤ g → itemsG g most b = itemsG f most b) ∧ (∀ most b g, 2 * b.length + 2 ≤ f → f ≤ g → membersG g most b = membersG f most b) := by
  intro f
  induction f with
  | zero => exact ⟨fun _ _ _ h => by omega, fun _ _ _ h => by omega, fun _ _ _ h => by omega⟩
  | succ f ih =>
    obtain ⟨ihv, ihi, ihm⟩ := ih
    refine ⟨?_, ?_, ?_⟩
    · intro most b g hf hg
      obtain ⟨g, rfl⟩ : ∃ g', g = g' + 1 := ⟨g - 1, by omega⟩
      have hbl := blanks_len b
      unfold valueG
      cases hb : blanksF b with
      | nil => rfl
      | cons c t =>
        rw [hb, List.length_cons] at hbl
        have htl := blanks_len t
        simp only
        cases ht : blanksF t with
        | nil => rfl
        | cons d t1 =>
          rw [ht] at htl
          simp only
          rw [ihi (most - 1) (d :: t1) g (by omega) (by omega), ihm (most - 1) (d :: t1) g (by omega) (by omega)]
    · intro most b g hf hg
      obtain ⟨g, rfl⟩ : ∃ g', g = g' + 1 := ⟨g - 1, by omega⟩
      unfold itemsG
      rw [ihv most b g (by omega) (by omega)]
      cases hv : valueG f most b with
      | none => rfl
      | some z =>
        obtain ⟨v, t⟩ := z
        have lv := (valueG_len f).1 _ _ _ _ hv
        have htl := blanks_len t
        simp only
        cases ht : blanksF t with
        | nil => rfl
        | cons c t1 =>
          rw [ht, List.length_cons] at htl
          simp only
          rw [ihi most t1 g (by omega) (by omega)]
    · intro most b g hf hg
      obtain ⟨g, rfl⟩ : ∃ g', g = g' + 1 := ⟨g - 1, by omega⟩
      have hb0 := blanks_len b
      unfold membersG
      cases hk : stringG (blanksF b) with
      | none => rfl
      | some z =>
        obtain ⟨k, b1⟩ := z
        have hk1 := stringG_len _ _ _ hk
        have hb1 := blanks_len b1
        simp only
        cases hm : mustF [58] (blanksF b1) with
        | none => rfl
        | some b2 =>
          have hm1 := must_len _ _ _ hm
          simp only
          rw [ihv most b2 g (by omega) (by omega)]
          cases hv : valueG f most b2 with
          | none => rfl
          | some z =>
            obtain ⟨v, t⟩ := z
            have lv := (valueG_len f).1 _ _ _ _ hv
            have htl := blanks_len t
            simp only
            cases ht : blanksF t with
            | nil => rfl
            | cons c t1 =>
              rw [ht, List.length_cons] at htl
              simp only
              rw [ihm most t1 g (by omega) (by omega)]

mutual
/-- all its strings are UTF-8 -/
def goodF : JV → Bool
  | .mk _ s _ l ks => utf8F s && ks.all utf8F && goodL l
def goodL : List JV → Bool
  | [] => true
  | v :: r => goodF v && goodL r
end
mutual
theorem good_may : ∀ (v : JV) (m : Nat), mayF v m = true → goodF v = true
  | .mk k s n l ks, m, h => by
    unfold mayF headF at h
    simp only [Bool.and_eq_true] at h
    unfold goodF
    rw [h.1.1.1.1.2, h.1.1.2, good_mayL l (m - 1) h.2]
    rfl
theorem good_mayL : ∀ (l : List JV) (m : Nat), mayL l m = true → goodL l = true
  | [], _, _ => rfl
  | v :: r, m, h => by
    unfold mayL at h
    rw [Bool.and_eq_true] at h
    unfold goodL
    rw [good_may v m h.1, good_mayL r m h.2]
    rfl
end
theorem string_G {b s r : List UInt8} (h : stringF b = some (s, r)) : stringG b = some (s, r) := by
  unfold stringF at h
  unfold stringG
  cases hm : mustF [34] b with
  | none => rw [hm] at h; cases h
  | some t =>
    rw [hm] at h
    simp only at h ⊢
    cases hs : strF (t.length + 1) t with
    | none => rw [hs] at h; cases h
    | some z =>
      obtain ⟨s1, r1⟩ := z
      rw [hs] at h
      simp only at h
      split at h
      · exact h
      · cases h
theorem string_F {b s r : List UInt8} (h : stringG b = some (s, r)) (hu : utf8F s = true) : stringF b = some (s, r) := by
  unfold stringG at h
  unfold stringF
  cases hm : mustF [34] b with
  | none => rw [hm] at h; cases h
  | some t =>
    rw [hm] at h
    simp only at h ⊢
    rw [h]
    simp only
    rw [if_pos hu]
theorem map_eq_some {α β : Type} {o o' : Option (α × List UInt8)} {k : α → β} {x : β} {r : List UInt8} (h : o.map (fun (s, t) => (k s, t)) = some (x, r)) (hh : ∀ s, k s = x → o = some (s, r) → o' = some (s, r)) : o'.map (fun (s, t) => (k s, t)) = some (x, r) := by
  cases o with
  | none => cases h
  | some z =>
    obtain ⟨s, t⟩ := z
    simp only [Option.map_some, Option.some.injEq, Prod.mk.injEq] at h
    obtain ⟨h1, rfl⟩ := h
    rw [hh s h1 rfl]
    simp only [Option.map_some, h1]
/-- both readers tell the same of strings that are UTF-8 -/
theorem value_both : ∀ f : Nat,
    (∀ most b v q, (valueF f most b = some (v, q) → valueG f most b = some (v, q)) ∧ (valueG f most b = some (v, q) → goodF v = true → valueF f most b = some (v, q))) ∧
    (∀ most b l q, (itemsF f most b = some (l, q) → itemsG f most b = some (l, q)) ∧ (itemsG f most b = some (l, q) → goodL l = true → itemsF f most b = some (l, q))) ∧
    (∀ most b l ks q, (membersF f most b = some (l, ks, q) → membersG f most b = some (l, ks, q)) ∧ (membersG f most b = some (l, ks, q) → goodL l = true → ks.all utf8F = true → membersF f most b = some (l, ks, q))) := by
  intro f
  induction f with
  | zero => exact ⟨fun _ _ _ _ => ⟨fun h => by simp [valueF] at h, fun h => by simp [valueG] at h⟩, fun _ _ _ _ => ⟨fun h => by simp [itemsF] at h, fun h => by simp [itemsG] at h⟩, fun _ _ _ _ _ => ⟨fun h => by simp [membersF] at h, fun h => by simp [membersG] at h⟩⟩
  | succ f ih =>
    obtain ⟨ihv, ihi, ihm⟩ := ih
    refine ⟨fun most b v q => ?_, fun most b l q => ?_, fun most b l ks q => ?_⟩
    · unfold valueF valueG
      cases hb : blanksF b with
      | nil => exact ⟨fun h => (by cases h), fun h _ => (by cases h)⟩
      | cons c t =>
        simp only
        split
        · exact ⟨id, fun h _ => h⟩
        · split
          · exact ⟨id, fun h _ => h⟩
          · split
            · exact ⟨id, fun h _ => h⟩
            · split
              · refine ⟨fun h => map_eq_some (k := fun s => JV.mk 4 s 0 [] []) h fun s _ hs => string_G hs, fun h hg => map_eq_some (k := fun s => JV.mk 4 s 0 [] []) h fun s hv hs => string_F hs ?_⟩
                subst hv
                unfold goodF at hg
                simp only [Bool.and_eq_true] at hg
                exact hg.1.1
              · split
                · split
                  · exact ⟨id, fun h _ => h⟩
                  · cases ht : blanksF t with
                    | nil => exact ⟨id, fun h _ => h⟩
                    | cons d t1 =>
                      simp only
                      split
                      · exact ⟨id, fun h _ => h⟩
                      · refine ⟨fun h => map_eq_some (k := fun l => JV.mk 5 [] 0 l []) h fun s _ hs => (ihi _ _ _ _).1 hs, fun h hg => map_eq_some (k := fun l => JV.mk 5 [] 0 l []) h fun s hv hs => (ihi _ _ _ _).2 hs ?_⟩
                        subst hv
                        unfold goodF at hg
                        simp only [Bool.and_eq_true] at hg
                        exact hg.2
                · split
                  · split
                    · exact ⟨id, fun h _ => h⟩
                    · cases ht : blanksF t with
                      | nil => exact ⟨id, fun h _ => h⟩
                      | cons d t1 =>
                        simp only
                        split
                        · exact ⟨id, fun h _ => h⟩
                        · constructor
                          · intro h
                            cases hm : membersF f (most - 1) (d :: t1) with
                            | none => rw [hm] at h; cases h
                            | some z =>
                              obtain ⟨l, ks, r1⟩ := z
                              rw [hm] at h
                              rw [(ihm _ _ _ _ _).1 hm]
                              exact h
                          · intro h hg
                            cases hm : membersG f (most - 1) (d :: t1) with
                            | none => rw [hm] at h; cases h
                            | some z =>
                              obtain ⟨l, ks, r1⟩ := z
                              rw [hm] at h
                              simp only [Option.map_some, Option.some.injEq, Prod.mk.injEq] at h
                              obtain ⟨rfl, rfl⟩ := h
                              unfold goodF at hg
                              simp only [Bool.and_eq_true] at hg
                              rw [(ihm _ _ _ _ _).2 hm hg.2 hg.1.2]
                              rfl
                  · exact ⟨id, fun h _ => h⟩
    · unfold itemsF itemsG
      constructor
      · intro h
        cases hv : valueF f most b with
        | none => rw [hv] at h; cases h
        | some z =>
          obtain ⟨v, t⟩ := z
          rw [hv] at h
          rw [(ihv _ _ _ _).1 hv]
          simp only at h ⊢
          cases ht : blanksF t with
          | nil => rw [ht] at h; cases h
          | cons c t1 =>
            rw [ht] at h
            simp only at h ⊢
            split at h
            · rename_i h1
              rw [if_pos h1]
              exact h
            · rename_i h1
              rw [if_neg h1]
              split at h
              · rename_i h2
                rw [if_pos h2]
                exact map_eq_some (k := fun l => v :: l) h fun s _ hs => (ihi _ _ _ _).1 hs
              · cases h
      · intro h hg
        cases hv : valueG f most b with
        | none => rw [hv] at h; cases h
        | some z =>
          obtain ⟨v, t⟩ := z
          rw [hv] at h
          simp only at h
          cases ht : blanksF t with
          | nil => rw [ht] at h; cases h
          | cons c t1 =>
            rw [ht] at h
            simp only at h
            have hgv : goodF v = true := by
              split at h
              · cases h
                unfold goodL at hg
                rw [Bool.and_eq_true] at hg
                exact hg.1
              · split at h
                · cases hi : itemsG f most t1 with
                  | none => rw [hi] at h; cases h
                  | some z =>
                    rw [hi] at h
                    cases h
                    unfold goodL at hg
                    rw [Bool.and_eq_true] at hg
                    exact hg.1
                · cases h
            rw [(ihv _ _ _ _).2 hv hgv]
            simp only
            rw [ht]
            simp only
            split at h
            · rename_i h1
              rw [if_pos h1]
              exact h
            · rename_i h1
              rw [if_neg h1]
              split at h
              · rename_i h2
                rw [if_pos h2]
                refine map_eq_some (k := fun l => v :: l) h fun s hs hi => (ihi _ _ _ _).2 hi ?_
                subst hs
                unfold goodL at hg
                rw [Bool.and_eq_true] at hg
                exact hg.2
              · cases h
    · unfold membersF membersG
      constructor
      · intro h
        cases hk : stringF (blanksF b) with
        | none => rw [hk] at h; cases h
        | some z =>
          obtain ⟨k, b1⟩ := z
          rw [hk] at h
          rw [string_G hk]
          simp only at h ⊢
          cases hm : mustF [58] (blanksF b1) with
          | none => rw [hm] at h; cases h
          | some b2 =>
            rw [hm] at h
            simp only at h ⊢
            cases hv : valueF f most b2 with
            | none => rw [hv] at h; cases h
            | some z =>
              obtain ⟨v, t⟩ := z
              rw [hv] at h
              rw [(ihv _ _ _ _).1 hv]
              simp only at h ⊢
              cases ht : blanksF t with
              | nil => rw [ht] at h; cases h
              | cons c t1 =>
                rw [ht] at h
                simp only at h ⊢
                split at h
                · rename_i h1
                  rw [if_pos h1]
                  exact h
                · rename_i h1
                  rw [if_neg h1]
                  split at h
                  · rename_i h2
                    rw [if_pos h2]
                    cases hi : membersF f most t1 with
                    | none => rw [hi] at h; cases h
                    | some z =>
                      obtain ⟨l1, ks1, r1⟩ := z
                      rw [hi] at h
                      rw [(ihm _ _ _ _ _).1 hi]
                      exact h
                  · cases h
      · intro h hg hks
        cases hk : stringG (blanksF b) with
        | none => rw [hk] at h; cases h
        | some z =>
          obtain ⟨k, b1⟩ := z
          rw [hk] at h
          simp only at h
          cases hm : mustF [58] (blanksF b1) with
          | none => rw [hm] at h; cases h
          | some b2 =>
            rw [hm] at h
            simp only at h
            cases hv : valueG f most b2 with
            | none => rw [hv] at h; cases h
            | some z =>
              obtain ⟨v, t⟩ := z
              rw [hv] at h
              simp only at h
              cases ht : blanksF t with
              | nil => rw [ht] at h; cases h
              | cons c t1 =>
                rw [ht] at h
                simp only at h
                have hgv : goodF v = true ∧ utf8F k = true := by
                  split at h
                  · cases h
                    unfold goodL at hg
                    rw [Bool.and_eq_true] at hg
                    simp only [List.all_cons, Bool.and_eq_true] at hks
                    exact ⟨hg.1, hks.1⟩
                  · split at h
                    · cases hi : membersG f most t1 with
                      | none => rw [hi] at h; cases h
                      | some z =>
                        rw [hi] at h
                        cases h
                        unfold goodL at hg
                        rw [Bool.and_eq_true] at hg
                        simp only [List.all_cons, Bool.and_eq_true] at hks
                        exact ⟨hg.1, hks.1⟩
                    · cases h
                rw [string_F hk hgv.2]
                simp only
                rw [hm]
                simp only
                rw [(ihv _ _ _ _).2 hv hgv.1]
                simp only
                rw [ht]
                simp only
                split at h
                · rename_i h1
                  rw [if_pos h1]
                  exact h
                · rename_i h1
                  rw [if_neg h1]
                  split at h
                  · rename_i h2
                    rw [if_pos h2]
                    cases hi : membersG f most t1 with
                    | none => rw [hi] at h; cases h
                    | some z =>
                      obtain ⟨l1, ks1, r1⟩ := z
                      rw [hi] at h
                      simp only [Option.map_some, Option.some.injEq, Prod.mk.injEq] at h
                      obtain ⟨rfl, rfl, rfl⟩ := h
                      unfold goodL at hg
                      rw [Bool.and_eq_true] at hg
                      simp only [List.all_cons, Bool.and_eq_true] at hks
                      rw [(ihm _ _ _ _ _).2 hi hg.2 hks.2]
                      rfl
                  · cases h
/-- a text's value, asked behind the reading -/
theorem parse_G (b : List UInt8) : parseF b = match valueG (2 * b.length + 2) 8 b with | none => none | some (v, q) => if blanksF q = [] ∧ mayF v 8 = true then some v else none := by
  unfold parseF
  cases hg : valueG (2 * b.length + 2) 8 b with
  | none =>
    cases hf : valueF (2 * b.length + 2) 8 b with
    | none => rfl
    | some z =>
      obtain ⟨v, q⟩ := z
      rw [((value_both _).1 _ _ _ _).1 hf] at hg
      cases hg
  | some z =>
    obtain ⟨v, q⟩ := z
    simp only
    cases hf : valueF (2 * b.length + 2) 8 b with
    | none =>
      simp only
      rw [if_neg]
      rintro ⟨-, h⟩
      rw [((value_both _).1 _ _ _ _).2 hg (good_may v 8 h)] at hf
      cases hf
    | some z =>
      obtain ⟨v2, q2⟩ := z
      rw [((value_both _).1 _ _ _ _).1 hf] at hg
      cases hg
      rfl
end Go.Proofs.YtiadfijeglbdlaaDoor

namespace Go.Proofs.YtiadfijeglbdlaaDoor
open Go.RowKit

theorem must_drop : ∀ (s b : List UInt8), mustF s b = if s.isPrefixOf b then some (b.drop s.length) else none
  | [], b => by simp [mustF]
  | _ :: _, [] => by simp [mustF]
  | c :: s, d :: b => by
    simp only [mustF, List.isPrefixOf, List.length_cons, List.drop_succ_cons]
    by_cases h : c = d
    · rw [if_pos h, must_drop s b]
      simp [h]
    · rw [if_neg h]
      simp [h]
theorem bytesOf_nat (xs : List UInt8) : Lib.bytesOf (xs.map fun x => (x.toNat : Int)) = xs := by
  unfold Lib.bytesOf
  rw [List.map_map]
  conv => rhs; rw [← List.map_id xs]
  apply List.map_congr_left
  intro x _
  simp
/-- one of the three words -/
def wordX : Nat → List UInt8
  | 0 => [110, 117, 108, 108]
  | 1 => [102, 97, 108, 115, 101]
  | _ => [116, 114, 117, 101]
/-- the first word from the k-th on that is next -/
def wordsF : Nat → Nat → List UInt8 → Option (Nat × List UInt8)
  | 0, _, _ => none
  | n + 1, k, ys => match mustF (wordX k) ys with | some q => some (k, q) | none => wordsF n (k + 1) ys
/-- a value without others -/
def singleF (xs : List UInt8) : Option (Nat × List UInt8 × Nat × List UInt8) :=
  if (takeF 34 xs).1 = true then (strF ((takeF 34 xs).2.length + 1) (takeF 34 xs).2).map fun (s, q) => (4, s, 0, q)
  else match wordsF 3 0 (takeF 34 xs).2 with
    | some (k, q) => some (k, [], 0, q)
    | none => (numF (takeF 34 xs).2).map fun p => (3, [], p.1, p.2)
theorem take_len (c : UInt8) (xs : List UInt8) : (takeF c xs).2.length ≤ xs.length := by
  have := blanks_len xs
  unfold takeF
  split
  · simp
  · rename_i d r h
    rw [h] at this
    split
    · simp at this ⊢
      omega
    · exact this
theorem take_less (c : UInt8) (xs : List UInt8) (h : (takeF c xs).1 = true) : (takeF c xs).2.length < xs.length := by
  have := blanks_len xs
  unfold takeF at h ⊢
  split
  · rename_i hh
    rw [hh] at h
    cases h
  · rename_i d r hh
    rw [hh] at this h
    simp only [List.length_cons] at this
    split
    · simp only
      omega
    · rename_i hd
      simp only [if_neg hd] at h
      cases h
end Go.Proofs.YtiadfijeglbdlaaDoor
