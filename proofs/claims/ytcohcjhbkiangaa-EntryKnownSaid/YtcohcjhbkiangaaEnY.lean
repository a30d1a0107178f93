/-
  The document's lists of certificates taken: a contract. Conditions: those in each statement.
-/
import Derived.Test.YtcohcjhbkiangaaEnX
namespace Go.Proofs.Ytcohcjhbkiangaa
open Go.RowKit

theorem cat_app (a b : List (List UInt8)) : catF (a ++ b) = catF a ++ catF b := by simp [catF]
theorem cat_len_mem {l : List (List UInt8)} {x : List UInt8} (h : x ∈ l) : x.length + 3 ≤ (catF l).length := by
  induction l with
  | nil => cases h
  | cons y r ih =>
    rw [cat_cons, List.length_append, vec3_len]
    rcases List.mem_cons.1 h with rfl | h
    · omega
    · have := ih h; omega
theorem cat_count (l : List (List UInt8)) : 3 * l.length ≤ (catF l).length := by
  induction l with
  | nil => simp
  | cons y r ih => rw [cat_cons, List.length_append, vec3_len, List.length_cons]; omega
/-- certificates that go ahead of others are read first -/
theorem cat_split : ∀ (done : List (List UInt8)) (rest : List UInt8) (l : List (List UInt8)), (∀ x ∈ done, x.length < 16777216) → (∀ x ∈ l, x.length < 16777216) → catF done ++ rest = catF l → ∃ m, l = done ++ m ∧ rest = catF m
  | [], rest, l, _, _, h => ⟨l, rfl, by simpa [catF] using h⟩
  | d :: ds, rest, [], _, _, h => by
    have := congrArg List.length h
    rw [List.length_append, cat_cons, List.length_append, vec3_len] at this
    simp [catF] at this
  | d :: ds, rest, x :: l, hd, hx, h => by
    rw [cat_cons, cat_cons, List.append_assoc] at h
    have h1 := rvec3_of d (catF ds ++ rest) (hd d (List.mem_cons_self ..))
    rw [h, rvec3_of x (catF l) (hx x (List.mem_cons_self ..))] at h1
    injection h1 with e1 e2
    injection e2 with _ e3
    obtain ⟨m, rfl, hm⟩ := cat_split ds rest l (fun y hy => hd y (List.mem_cons_of_mem _ hy)) (fun y hy => hx y (List.mem_cons_of_mem _ hy)) e3.symm
    exact ⟨m, by rw [e1]; rfl, hm⟩
/-- xs is a list of certificates -/
def IsList (xs : List UInt8) (l : List (List UInt8)) : Prop := (catF l).length < 16777216 ∧ xs = listF l
theorem isList_first {xs : List UInt8} {l : List (List UInt8)} (h : IsList xs l) : rvecF xs 3 = (catF l, 0, []) := by
  obtain ⟨h1, rfl⟩ := h
  have := rvec3_of (catF l) [] h1
  rwa [List.append_nil] at this

def CRes (w : World) (xs : List UInt8) (e : Ending) (w' : World) : Prop :=
  Below w.heap.size w w' ∧ ((∃ l v, IsList xs l ∧ e = .returned (.tuple #[v, .bool true]) ∧ OwnC w' w.heap.size v l) ∨ ((¬ ∃ l, IsList xs l) ∧ e = .returned (.tuple #[.slice none 0 0, .bool false])))

def CLI (ins : List UInt8) (S : Nat) (w0 : World) (q : Option Nat) (r : Nat) (v : Value) (wr : World) : Prop :=
  ∃ (av : Option Addr) (nv cv : Nat) (done : List (List UInt8)) (rest : List UInt8), v = .slice av nv cv ∧ OwnC wr S (.slice av nv cv) done ∧ Rdr wr 109 [] q r rest ∧ Fr [r] w0 wr ∧ S ≤ wr.heap.size ∧ rest.length ≤ 16777215 ∧ nv ≤ ins.length ∧ Hid (catF done ++ rest = ins ∧ ∀ x ∈ done, x.length < 16777216)

theorem rdr_cell {w : World} {q : Option Nat} {r : Nat} {xs : List UInt8} (h : Rdr w 109 [] q r xs) : ∃ a n c, w.cell? ⟨r, 0, none⟩ = some (.slice a n c) ∧ n = xs.length := by
  obtain ⟨_, _, a, n, cap, hg, hrd, _⟩ := h
  exact ⟨a, n, cap, Rdr.cell (hd := []) hg, hrd.len.symm⟩

set_option maxHeartbeats 1000000 in
theorem refCerts_any (a : Option Addr) (n cap : Nat) (xs : List UInt8) (w : World) (hm : n ≤ 140737488355328) (hr : Rd w a n cap xs) :
    Calls Try.prog 49 #[.slice a n cap] w (CRes w xs) := by
  have hln := hr.len
  have HR := Lib.hid hr
  have H1 := Lib.hid (refNew_any a n cap xs w hm hr)
  have hvl := rvec_len xs
  have hv1 := hvl.1
  clear hr hvl
  go_enter Try.func49, Try.ntmps49
  go_wp2_with fail
  refine H1.out.mono ?_
  rintro e w1 ⟨q, r, rfl, hr1, hq1, lr1, hb1⟩
  go_wp2_with fail
  refine (refRVec_any q r xs 3 w1 (by omega) hr1).mono ?_
  rintro e w2 ⟨v2, rfl, ho2, hr2, hg2⟩
  have hs1 := hb1.size
  have hs2 := hg2.size
  have hf2 := Fr.of_grown hg2 (rs := [r]) (by simp)
  have hb02 : Below w.heap.size w w2 := ((Fr.of_below (rs := [r]) hb1).trans hf2).below (Nat.le_refl _) (by simpa using lr1)
  have HB2 := Lib.hid hb02
  obtain ⟨a2, n2, c2, rfl, hrd2⟩ := ho2.reads
  obtain ⟨ar, nr, cr, hcr, hnr⟩ := rdr_cell hr2
  have hn2 : n2 = (rvecF xs 3).1.length := hrd2.len.symm
  have hn2' : n2 ≤ 16777215 := by omega
  have HN2 := Lib.hid hn2
  clear hn2
  have hno : ∀ W, Below w.heap.size w W → (¬ ∃ l, IsList xs l) → CRes w xs (.returned (.tuple #[.slice none 0 0, .bool false])) W := fun W hW h => ⟨hW, .inr ⟨h, rfl⟩⟩
  have HNO := Lib.hid hno
  have HRD := Lib.hid hrd2.toRd
  clear hb1 hg2 hf2 hb02 hno ho2 hrd2 hr1
  by_cases he : (rvecF xs 3).2.1 = 0
  · by_cases hz : nr = 0
    · rw [he]
      have HE := Lib.hid he
      have HX : Hid (xs = vec3 (rvecF xs 3).1) := by
        show _ = _
        have h0 : (rvecF xs 3).2.2 = [] := List.eq_nil_of_length_eq_zero (by omega)
        have := (rvec3_inv (xs := xs) (x := (rvecF xs 3).1) (r := []) (by rw [← HE.out, ← h0])).1
        simpa using this
      subst hz
      clear he hnr
      go_wp2_with fail
      refine (refNew_any a2 n2 c2 (rvecF xs 3).1 w2 (by omega) HRD.out).mono ?_
      rintro e w3 ⟨q3, r3, rfl, hr3, hq3, lr3, hb3⟩
      obtain ⟨ins, hins⟩ : ∃ ins, ins = (rvecF xs 3).1 := ⟨_, rfl⟩
      rw [← hins] at hr3 hv1 HX
      obtain ⟨S, hSe⟩ : ∃ S, S = w3.heap.size := ⟨_, rfl⟩
      have hSle : w3.heap.size ≤ S := Nat.le_of_eq hSe.symm
      have hs3 := hb3.size
      have hrS : r3 < S := by rw [hSe]; exact hr3.lt
      have HQ : Hid (∀ k, q3 = some k → k < S) := fun k e => by rw [hSe]; exact (hq3 k e).2
      have hr3B : w.heap.size ≤ r3 := by omega
      have hSB : w.heap.size ≤ S := by omega
      have HB3 := Lib.hid (HB2.out.trans (hb3.mono HB2.out.size))
      have hst : CLI ins S w3 q3 r3 (.slice none 0 0) w3 := ⟨none, 0, 0, [], ins, rfl, OwnC.nil _ _, hr3, Fr.refl _ _, Nat.le_of_eq hSe, by omega, Nat.zero_le _, ⟨by simp [catF], by simp⟩⟩
      clear hins hSe hr3 hb3 hq3 hcr
      go_wp2_with fail
      go_loopw [7] (fun v wr => CLI ins S w3 q3 r3 v wr) (fun v _ => ins.length + 1 - lenOf v)
      case atStart => exact hst
      case round =>
        obtain ⟨av, nv, cv, done, rest, rfl, hO, hR, hF, hS, hrl, hnv, hinv⟩ := hrel
        obtain ⟨ax, nx, cx, hcx, hnx⟩ := rdr_cell hR
        have HF := Lib.hid (HB3.out.trans ((hF.below (B := w.heap.size) (by have := HB3.out.size; omega) (by simpa using hr3B))))
        by_cases hz : nx = 0
        · have hfin : Hid (IsList xs done) := by
            have h0 : rest = [] := List.eq_nil_of_length_eq_zero (by omega)
            have h1 := hinv.out.1
            rw [h0, List.append_nil] at h1
            exact ⟨by rw [h1]; omega, by rw [HX.out, ← h1]; rfl⟩
          subst hz
          clear hnx
          go_wp2_with fail
          go_ret2
          exact ⟨HF.out, .inl ⟨done, _, hfin.out, rfl, hO.mono hSB⟩⟩
        · have hne : rest ≠ [] := by intro e; rw [e] at hnx; exact hz hnx
          have hgt : 0 < nx := by omega
          have hrv := rvec_len rest
          have hrv1 := hrv.1
          have hrv2 := hrv.2
          have hnxl := Lib.hid hnx
          have HNE := Lib.hid hne
          have hOl := hO.len
          have hcount : Hid (nv + 1 ≤ ins.length) := by
            show _ ≤ _
            have h1 := congrArg List.length hinv.out.1
            have h2 := cat_count done
            rw [List.length_append] at h1
            omega
          have HO := Lib.hid hO
          have HOL := Lib.hid hOl
          clear hrv hnx hne hz hO hOl
          go_wp2_with fail
          refine (refRVec_any q3 r3 rest 3 wr (by omega) hR).mono ?_
          rintro e w5 ⟨v5, rfl, ho5, hR5, hg5⟩
          have hf5 := Fr.of_grown hg5 (rs := [r3]) (by simp)
          obtain ⟨a5, n5, c5, rfl, -⟩ := ho5.reads
          have hs5 := hf5.size
          clear hg5 hcx
          by_cases he : (rvecF rest 3).2.1 = 0
          · rw [he]
            have hpar := Lib.hid (rvec3_inv (xs := rest) (x := (rvecF rest 3).1) (r := (rvecF rest 3).2.2) (by rw [← he]))
            have HO5 := Lib.hid (HO.out.fr hf5 (by intro x hx; simp at hx; subst hx; exact .inl hrS))
            have hU := Lib.hid (ownC_lit (B := S) (w := w5) (by omega) (ho5.mono hS))
            have hb6 := hal w5 (.cells #[.slice a5 n5 c5] 27)
            have HO6 := Lib.hid (HO5.out.to hb6)
            have hB6 : S ≤ (w5.alloc (.cells #[.slice a5 n5 c5] 27)).heap.size := Nat.le_trans (by omega) hb6.size
            clear he ho5
            go_wp2_with (at_builtin; refine wl_appendC rfl (.tmp 43) (.tmp 45) rfl S (.slice av nv cv) done HO6.out rfl (.slice (some ⟨w5.heap.size, 0, none⟩) 1 1) [(rvecF rest 3).1] hU.out rfl (by have := HOL.out; simp; omega) hB6 ?_; intro v7 w7 hO7 hb7; obtain ⟨a7, n7, c7, rfl, hch7⟩ := hO7.chn)
            have hb57 : Below S w5 w7 := (hb6.mono (by omega)).trans hb7
            go_roundw
            case rel =>
              refine ⟨a7, n7, c7, done ++ [(rvecF rest 3).1], (rvecF rest 3).2.2, rfl, hO7, hR5.kept hb57.size (fun k e => hb57.block k (HQ.out k e)) (hb57.block r3 hrS), ?_, ?_, by omega, ?_, ?_, ?_⟩
              · exact (hF.trans hf5).low hb57 hSle
              · have := hb57.size; omega
              · have := hO7.len
                have h2 := HOL.out
                have := hcount.out
                simp at *
                omega
              · obtain ⟨h1, h2⟩ := hpar.out
                rw [cat_app, List.append_assoc, ← hinv.out.1]
                conv => rhs; rw [h1]
                simp [catF]
              · intro x hx
                rcases List.mem_append.1 hx with h | h
                · exact hinv.out.2 x h
                · rw [List.mem_singleton.1 h]; exact hpar.out.2
            case measure =>
              have := hO7.len
              have h2 := HOL.out
              have := hcount.out
              simp [lenOf] at *
              omega
          · have hq : ((rvecF rest 3).2.1 != 0) = true := by simpa using he
            have hnl : Hid (¬ ∃ l, IsList xs l) := by
              rintro ⟨l, hl⟩
              have h1 := isList_first hl
              have h2 : ins = catF l := by
                have h3 := HX.out
                have h4 := rvec3_of ins [] (by omega)
                rw [List.append_nil, ← h3, h1] at h4
                injection h4 with h5 _
                exact h5.symm
              obtain ⟨m, hm1, hm2⟩ := cat_split done rest l hinv.out.2 (fun x hx => by have := cat_len_mem hx; have := hl.1; omega) (by rw [hinv.out.1, h2])
              cases m with
              | nil => exact HNE.out (by rw [hm2]; rfl)
              | cons x m =>
                have hxl : x ∈ l := by rw [hm1]; simp
                have hx3 : x.length < 16777216 := by have := cat_len_mem hxl; have := hl.1; omega
                rw [hm2, cat_cons, rvec3_of x (catF m) hx3] at he
                exact he rfl
            generalize (rvecF rest 3).2.1 = e5 at *
            clear he
            go_wp2_with fail
            go_ret2
            exact HNO.out _ (HF.out.trans (hf5.below (by have := HF.out.size; omega) (by simpa using hr3B))) hnl.out
    · have hgt : 0 < nr := by omega
      have hnl : Hid (¬ ∃ l, IsList xs l) := by
        rintro ⟨l, hl⟩
        rw [isList_first hl] at hnr
        exact hz hnr
      rw [he]
      clear he hz hnr
      go_wp2_with fail
      go_ret2
      exact HNO.out _ HB2.out hnl.out
  · have hq : ((rvecF xs 3).2.1 != 0) = true := by simpa using he
    have hnl : Hid (¬ ∃ l, IsList xs l) := by
      rintro ⟨l, hl⟩
      rw [isList_first hl] at he
      exact he rfl
    clear hnr hr2 HN2 HRD hn2' hv1 he
    generalize (rvecF xs 3).2.1 = e5 at *
    go_wp2_with fail
    go_ret2
    exact HNO.out _ HB2.out hnl.out
end Go.Proofs.Ytcohcjhbkiangaa
