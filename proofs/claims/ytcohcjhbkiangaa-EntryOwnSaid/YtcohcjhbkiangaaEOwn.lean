/-
  For every two entries and two heads: one leaf just for one time and certificate; nothing is signed both for an entry and for a head; what is signed for a head is its own. Conditions: none.
-/
import Derived.Test.YtcohcjhbkiangaaEnM
import Derived.Test.YtcohcjhbkiangaaEnDig
import Derived.Test.YtcohcjhbkiangaaRegF
namespace Go.Proofs.Ytcohcjhbkiangaa
open Go.ChangeShapes Go.WideShapes Go.ChangeAt Go.RowKit

theorem run_eqIn_bytes {P : Program} {w : World} {t e : TypeId} {n : Nat} (hu : P.underlying t = some (.array n e)) (he : P.underlying e = some (.int .u8)) (h1 : P.cellsOf e = 1) (hi : (P.info? e).isSome = true) {xs ys : List UInt8} (hx : xs.length = n) (hy : ys.length = n) :
    (Op.equalIn 10000 t (.agg (bvs xs).toArray) (.agg (bvs ys).toArray)).run P w = .ok (decide (xs = ys)) w := by
  obtain ⟨i, hi⟩ := Option.isSome_iff_exists.1 hi
  have h := run_equalIn_array w 9999 (bvs xs).toArray (bvs ys).toArray hu hi
  rw [h1, show (9999 : Nat) = 9998 + 1 from rfl, run_eqItems_bytes he 9998 xs ys _ (fun j hj => by have := List.mem_range.1 hj; omega), all_range hx hy] at h
  rw [show (10000 : Nat) = 9998 + 1 + 1 from rfl]
  exact h
theorem sizeHd : (Try.prog.info? 55).map (·.size) = some 98 := by kernel_rfl
theorem sizeDg : (Try.prog.info? 52).map (·.size) = some 32 := by kernel_rfl
theorem sizeE : (Try.prog.info? 25).map (·.size) = some 2 := by kernel_rfl
def zE : List Value := [.int .u64 0, .slice none 0 0]
def zH : List Value := hdL 0 0 (List.replicate 32 0) (List.replicate 64 0)
theorem len_zE : zE.length = 2 := rfl
theorem len_zH : zH.length = 98 := by kernel_rfl
theorem infozE : (Try.prog.info? 25).map (fun i => (i.zero, i.size)) = some (some (.agg zE.toArray), 2) := by kernel_rfl
theorem infozH : (Try.prog.info? 55).map (fun i => (i.zero, i.size)) = some (some (.agg zH.toArray), 98) := by kernel_rfl
/-- the cells of two entries and two heads -/
def ownL (ta : Nat) (aa : Option Addr) (na ca tb : Nat) (ab : Option Addr) (nb cb : Nat) (dH dK : List Value) : List Value := ([.int .u64 (ta : Int), .slice aa na ca] : List Value) ++ ([.int .u64 (tb : Int), .slice ab nb cb] : List Value) ++ dH ++ dK
theorem arr_ty {w : World} {g : Nat} {T U : TypeId} {xs ys : List Value} (h : Arr w g T xs) (k : Arr w g U ys) (hne : T ≠ U) : False := by
  unfold Arr at h k
  rw [h] at k
  injection k with k
  injection k with _ e _
  exact hne e

/-- a chain's first certificate, if the chain may be -/
theorem first_cert {w : World} {a : Option Addr} {n cap : Nat} {xss : List (List UInt8)} (h : Chn w a n cap xss) {e0 : Bool} (he : e0 = !mayB xss) :
    ∃ aj nj cj, e0 = false → 0 < n ∧ ∃ b off, a = some ⟨b, off, none⟩ ∧ b < w.heap.size ∧ w.cell? ⟨b, off, none⟩ = some (.slice aj nj cj) ∧ Rd w aj nj cj (xss.getD 0 []) := by
  cases hm : mayB xss with
  | false => exact ⟨none, 0, 0, fun h0 => by rw [he, hm] at h0; cases h0⟩
  | true =>
    obtain ⟨h1, -⟩ := mayB_parts hm
    have hl := h.len
    obtain ⟨b, off, e, hb, hc⟩ := h.mem (by omega)
    obtain ⟨aj, nj, cj, hcl, hr⟩ := hc 0 (by omega)
    exact ⟨aj, nj, cj, fun _ => ⟨by omega, b, off, e, hb, hcl, hr⟩⟩

theorem hd_part (sz tm : Nat) (root sig : List UInt8) : ∀ j v, (bvs root)[j]? = some v → (hdL sz tm root sig)[2 + j]? = some v := by
  intro j v h
  have hj := (List.getElem?_eq_some_iff.1 h).1
  have e : 2 + j = j + 1 + 1 := by omega
  rw [e, hdL, List.getElem?_cons_succ, List.getElem?_cons_succ, List.getElem?_append_left hj]
  exact h
theorem digits_snoc (n k : Nat) : digits n (k + 1) = digits (n / 256) k ++ [UInt8.ofNat n] := by
  unfold digits
  rw [List.range_succ, List.map_append]
  congr 1
  · apply List.map_congr_left
    intro i hi
    have := List.mem_range.1 hi
    unfold digit
    have e : k + 1 - 1 - i = (k - 1 - i) + 1 := by omega
    rw [e, Nat.pow_succ, Nat.mul_comm, ← Nat.div_div_eq_div_mul]
  · simp [digit]
theorem beNat_digits (n k : Nat) (h : n < 256 ^ k) : beNat (digits n k) = n := by
  induction k generalizing n with
  | zero => simp [digits, beNat]; omega
  | succ k ih =>
    rw [digits_snoc, beNat_snoc, ih (n / 256) (by rw [Nat.pow_succ] at h; omega), UInt8.toNat_ofNat']
    omega
theorem digits_inj {n m k : Nat} (hn : n < 256 ^ k) (hm : m < 256 ^ k) (h : digits n k = digits m k) : n = m := by
  rw [← beNat_digits n k hn, ← beNat_digits m k hm, h]
theorem u64_lt {n : Nat} (h : n ≤ 18446744073709551615) : n < 256 ^ 8 := by simpa using Nat.lt_succ_of_le h
theorem vec3_inj {x y r s : List UInt8} (hr : r.length = s.length) (h : vec3 x ++ r = vec3 y ++ s) : x = y := by
  have hl := congrArg List.length h
  simp only [List.length_append, vec3_len] at hl
  have h1 := List.append_inj_left h (by rw [vec3_len, vec3_len]; omega)
  unfold vec3 at h1
  exact List.append_inj_right h1 (by simp [digits_len])
theorem stamp_inj {ta tb : Nat} {x y : List UInt8} (hta : ta ≤ 18446744073709551615) (htb : tb ≤ 18446744073709551615) : decide (stampF ta x = stampF tb y) = (decide (ta = tb) && decide (x = y)) := by
  rw [Bool.eq_iff_iff, Bool.and_eq_true, decide_eq_true_eq, decide_eq_true_eq, decide_eq_true_eq]
  constructor
  · intro h
    rw [stampF_eq, stampF_eq] at h
    simp only [List.append_assoc] at h
    have h1 := List.append_cancel_left h
    have h2 := List.append_inj_left h1 (by simp [digits_len])
    have h3 := List.append_cancel_left (List.append_inj_right h1 (by simp [digits_len]))
    exact ⟨digits_inj (u64_lt hta) (u64_lt htb) h2, vec3_inj rfl h3⟩
  · rintro ⟨rfl, rfl⟩
    rfl
theorem head_inj {sz tm sz' tm' : Nat} {r r' : List UInt8} (h1 : sz ≤ 18446744073709551615) (h2 : tm ≤ 18446744073709551615) (h3 : sz' ≤ 18446744073709551615) (h4 : tm' ≤ 18446744073709551615) :
    decide (headF sz tm r = headF sz' tm' r') = ((decide (sz = sz') && decide (tm = tm')) && decide (r = r')) := by
  rw [Bool.eq_iff_iff, Bool.and_eq_true, Bool.and_eq_true, decide_eq_true_eq, decide_eq_true_eq, decide_eq_true_eq, decide_eq_true_eq]
  constructor
  · intro h
    unfold headF at h
    simp only [List.append_assoc] at h
    have e1 := List.append_cancel_left h
    have e2 := List.append_inj_left e1 (by simp [digits_len])
    have e3 := List.append_inj_right e1 (by simp [digits_len])
    have e4 := List.append_inj_left e3 (by simp [digits_len])
    have e5 := List.append_inj_right e3 (by simp [digits_len])
    exact ⟨⟨digits_inj (u64_lt h1) (u64_lt h3) e4, digits_inj (u64_lt h2) (u64_lt h4) e2⟩, e5⟩
  · rintro ⟨⟨rfl, rfl⟩, rfl⟩
    rfl
theorem stamp_head (t sz tm : Nat) (c r : List UInt8) : decide (stampF t c = headF sz tm r) = false := by
  rw [decide_eq_false_iff_not, stampF_eq]
  intro h
  unfold headF at h
  simp only [List.append_assoc] at h
  have e1 := List.append_inj_left h rfl
  exact absurd e1 (by decide)
theorem head_len (sz tm : Nat) (r : List UInt8) (h : r.length = 32) : (headF sz tm r).length = 50 := by simp [headF, digits_len, h]

structure InvOwn1 (ta : Nat) (aa : Option Addr) (na ca tb : Nat) (ab : Option Addr) (nb cb : Nat) (dH dK cs : List Value) (B : Nat) (w1 : World) (L : Nat → Bool) (v14 v15 v16 v17 v18 v19 v20 v21 v3 v4 v5 v6 : Value) (wx : World) : Prop where
  t0 : L 0 = true → v14 = .pointer (some ⟨B, 0, none⟩)
  t1 : L 1 = true → v15 = .agg #[.int .u64 (ta : Int), .slice aa na ca]
  t2 : L 2 = true → v16 = .pointer (some ⟨B, 2, none⟩)
  t3 : L 3 = true → v17 = .agg #[.int .u64 (tb : Int), .slice ab nb cb]
  t4 : L 4 = true → v18 = .pointer (some ⟨B, 4, none⟩)
  t5 : L 5 = true → v19 = .agg dH.toArray
  t6 : L 6 = true → v20 = .pointer (some ⟨B, 102, none⟩)
  t7 : L 7 = true → v21 = .agg dK.toArray
  t8 : L 8 = true → ∃ X cur, v3 = .pointer (some ⟨X, 0, none⟩) ∧ w1.heap.size ≤ X ∧ Arr wx X 25 cur ∧ cur.length = 2 ∧ (L 12 = true → cur = [.int .u64 (ta : Int), .slice aa na ca])
  t9 : L 9 = true → ∃ X cur, v4 = .pointer (some ⟨X, 0, none⟩) ∧ w1.heap.size ≤ X ∧ Arr wx X 25 cur ∧ cur.length = 2 ∧ (L 13 = true → cur = [.int .u64 (tb : Int), .slice ab nb cb])
  t10 : L 10 = true → ∃ X cur, v5 = .pointer (some ⟨X, 0, none⟩) ∧ w1.heap.size ≤ X ∧ Arr wx X 55 cur ∧ cur.length = 98 ∧ (L 14 = true → cur = dH)
  t11 : L 11 = true → ∃ X cur, v6 = .pointer (some ⟨X, 0, none⟩) ∧ w1.heap.size ≤ X ∧ Arr wx X 55 cur ∧ cur.length = 98 ∧ (L 15 = true → cur = dK)
  bw : Below w1.heap.size w1 wx
  ne34 : L 8 = true → L 9 = true → v3 ≠ v4
  ne56 : L 10 = true → L 11 = true → v5 ≠ v6

structure InvOwn4 (ta : Nat) (aa : Option Addr) (na ca tb : Nat) (ab : Option Addr) (nb cb : Nat) (e0 f0 tq q cq g6 g15 : Bool) (X3 X4 : Nat) (ax ay aj bj : Option Addr) (nx cx ny cy nj cj mj dj : Nat) (w3 : World) (L : Nat → Bool) (v : Nat → Value) (wx : World) : Prop where
  t0 : L 0 = true → (v 32) = .int .i64 (bif e0 then 1 else 0)
  t1 : L 1 = true → (v 33) = .bool (!e0)
  t2 : L 2 = true → (v 34) = .bool (!e0)
  t3 : L 3 = true → (v 35) = (bif !e0 then .int .i64 (bif f0 then 1 else 0) else undef)
  t4 : L 4 = true → (v 36) = (bif !e0 then .bool (!f0) else undef)
  t5 : L 5 = true → (v 37) = .bool g6
  t6 : L 6 = true → (v 38) = .bool g6
  t7 : L 7 = true → (v 39) = (bif g6 then .slice ax nx cx else undef)
  t8 : L 8 = true → (v 40) = (bif g6 then .slice ay ny cy else undef)
  t9 : L 9 = true → (v 41) = (bif g6 then .bool q else undef)
  t10 : L 10 = true → (v 42) = (bif g6 then .pointer (some ⟨X3, 0, none⟩) else undef)
  t11 : L 11 = true → (v 43) = (bif g6 then .int .u64 (ta : Int) else undef)
  t12 : L 12 = true → (v 44) = (bif g6 then .pointer (some ⟨X4, 0, none⟩) else undef)
  t13 : L 13 = true → (v 45) = (bif g6 then .int .u64 (tb : Int) else undef)
  t14 : L 14 = true → (v 46) = (bif g6 then .bool tq else undef)
  t15 : L 15 = true → (v 47) = (bif g6 then .bool tq else undef)
  t16 : L 16 = true → (v 48) = (bif g15 then .pointer (some ⟨X3, 1, none⟩) else undef)
  t17 : L 17 = true → (v 49) = (bif g15 then .slice aa na ca else undef)
  t18 : L 18 = true → (v 50) = (bif g15 then .pointer aa else undef)
  t19 : L 19 = true → (v 51) = (bif g15 then .slice aj nj cj else undef)
  t20 : L 20 = true → (v 52) = (bif g15 then .pointer (some ⟨X4, 1, none⟩) else undef)
  t21 : L 21 = true → (v 53) = (bif g15 then .slice ab nb cb else undef)
  t22 : L 22 = true → (v 54) = (bif g15 then .pointer ab else undef)
  t23 : L 23 = true → (v 55) = (bif g15 then .slice bj mj dj else undef)
  t24 : L 24 = true → (v 56) = (bif g15 then .bool cq else undef)
  t25 : L 25 = true → (v 57) = (bif g6 then .bool (tq && cq) else undef)
  t26 : L 26 = true → (v 58) = (bif g6 then .bool false else undef)
  t27 : L 27 = true → (v 59) = .bool false
  bw : Below w3.heap.size w3 wx
structure InvOwn7 (sz tm sz' tm' : Nat) (root root' : List UInt8) (dH dK : List Value) (w5 : World) (L : Nat → Bool) (v65 v66 v67 v68 v12 v13 : Value) (wx : World) : Prop where
  t0 : L 0 = true → v65 = .agg dH.toArray
  t1 : L 1 = true → ∃ a c, v66 = .slice a 50 c ∧ Rd wx a 50 c (headF sz tm root)
  t2 : L 2 = true → v67 = .agg dK.toArray
  t3 : L 3 = true → ∃ a c, v68 = .slice a 50 c ∧ Rd wx a 50 c (headF sz' tm' root')
  t4 : L 4 = true → ∃ a c, v12 = .slice a 50 c ∧ Rd wx a 50 c (headF sz tm root)
  t5 : L 5 = true → ∃ a c, v13 = .slice a 50 c ∧ Rd wx a 50 c (headF sz' tm' root')
  bw : Below w5.heap.size w5 wx
structure InvOwn8 (sz tm sz' tm' : Nat) (root root' : List UInt8) (e0 b1 b2 r3 g12 g3 : Bool) (X5 X6 : Nat) (as_ am an : Option Addr) (ns_ cs_ cm cn : Nat) (w6 : World) (L : Nat → Bool) (v : Nat → Value) (wx : World) : Prop where
  t0 : L 0 = true → (v 69) = .bool true
  t1 : L 1 = true → (v 70) = .bool true
  t2 : L 2 = true → (v 71) = .int .i64 (bif e0 then 1 else 0)
  t3 : L 3 = true → (v 72) = .bool e0
  t4 : L 4 = true → (v 73) = .bool e0
  t5 : L 5 = true → (v 74) = (bif e0 then undef else .slice as_ ns_ cs_)
  t6 : L 6 = true → (v 75) = (bif e0 then undef else .slice am 50 cm)
  t7 : L 7 = true → (v 76) = (bif e0 then undef else .bool false)
  t8 : L 8 = true → (v 77) = (bif e0 then undef else .bool true)
  t9 : L 9 = true → (v 78) = .bool true
  t10 : L 10 = true → (v 79) = .bool true
  t11 : L 11 = true → (v 80) = .bool true
  t12 : L 12 = true → (v 81) = .slice am 50 cm
  t13 : L 13 = true → (v 82) = .slice an 50 cn
  t14 : L 14 = true → (v 83) = .bool g3
  t15 : L 15 = true → (v 84) = .pointer (some ⟨X5, 0, none⟩)
  t16 : L 16 = true → (v 85) = .int .u64 (sz : Int)
  t17 : L 17 = true → (v 86) = .pointer (some ⟨X6, 0, none⟩)
  t18 : L 18 = true → (v 87) = .int .u64 (sz' : Int)
  t19 : L 19 = true → (v 88) = .bool b1
  t20 : L 20 = true → (v 89) = .bool b1
  t21 : L 21 = true → (v 90) = (bif b1 then .pointer (some ⟨X5, 1, none⟩) else undef)
  t22 : L 22 = true → (v 91) = (bif b1 then .int .u64 (tm : Int) else undef)
  t23 : L 23 = true → (v 92) = (bif b1 then .pointer (some ⟨X6, 1, none⟩) else undef)
  t24 : L 24 = true → (v 93) = (bif b1 then .int .u64 (tm' : Int) else undef)
  t25 : L 25 = true → (v 94) = (bif b1 then .bool b2 else undef)
  t26 : L 26 = true → (v 95) = .bool g12
  t27 : L 27 = true → (v 96) = .bool g12
  t28 : L 28 = true → (v 97) = (bif g12 then .pointer (some ⟨X5, 2, none⟩) else undef)
  t29 : L 29 = true → (v 98) = (bif g12 then .agg (bvs root).toArray else undef)
  t30 : L 30 = true → (v 99) = (bif g12 then .pointer (some ⟨X6, 2, none⟩) else undef)
  t31 : L 31 = true → (v 100) = (bif g12 then .agg (bvs root').toArray else undef)
  t32 : L 32 = true → (v 101) = (bif g12 then .bool r3 else undef)
  t33 : L 33 = true → (v 102) = .bool g3
  t34 : L 34 = true → (v 103) = .bool true
  t35 : L 35 = true → (v 104) = .bool true
  t36 : L 36 = true → (v 105) = .bool true
  t37 : L 37 = true → (v 106) = .slice am 50 cm
  t38 : L 38 = true → (v 107) = .int .i64 50
  t39 : L 39 = true → (v 108) = .bool true
  t40 : L 40 = true → (v 109) = .bool true
  t41 : L 41 = true → (v 2) = .bool true
  bw : Below w6.heap.size w6 wx

set_option maxRecDepth 100000 in
set_option maxHeartbeats 20000000 in
theorem Own_law (ta : Nat) (aa : Option Addr) (na ca : Nat) (A : List (List UInt8)) (tb : Nat) (ab : Option Addr) (nb cb : Nat) (Bc : List (List UInt8)) (sz tm : Nat) (root sig : List UInt8) (sz' tm' : Nat) (root' sig' : List UInt8) (w : World)
    (hta : ta ≤ 18446744073709551615) (htb : tb ≤ 18446744073709551615) (hna : na ≤ 70368744177664) (hnb : nb ≤ 70368744177664) (hA : Chn w aa na ca A) (hB : Chn w ab nb cb Bc)
    (hsz : sz ≤ 18446744073709551615) (htm : tm ≤ 18446744073709551615) (hroot : root.length = 32) (hsig : sig.length = 64) (hsz' : sz' ≤ 18446744073709551615) (htm' : tm' ≤ 18446744073709551615) (hroot' : root'.length = 32) (hsig' : sig'.length = 64) :
    Calls Try.prog 7 #[.agg (ownL ta aa na ca tb ab nb cb (hdL sz tm root sig) (hdL sz' tm' root' sig')).toArray] w fun e w' => e = .returned (.bool true) ∧ Below w.heap.size w w' := by
  have hS1 := Lib.hid (fun w => SignedHead_any sz tm root sig w hsz htm hroot)
  have hS2 := Lib.hid (fun w => SignedHead_any sz' tm' root' sig' w hsz' htm' hroot')
  have hlH : Hid ((hdL sz tm root sig).length = 98) := by show _ = _; simp [hdL, hroot, hsig]
  have hlK : Hid ((hdL sz' tm' root' sig').length = 98) := by show _ = _; simp [hdL, hroot', hsig']
  have hoH : Hid (∀ v ∈ hdL sz tm root sig, v.oneCell' = true) := hd_one sz tm root sig
  have hoK : Hid (∀ v ∈ hdL sz' tm' root' sig', v.oneCell' = true) := hd_one sz' tm' root' sig'
  have hH0 : (hdL sz tm root sig)[0]? = some (.int .u64 (sz : Int)) := rfl
  have hH1 : (hdL sz tm root sig)[1]? = some (.int .u64 (tm : Int)) := rfl
  have hK0 : (hdL sz' tm' root' sig')[0]? = some (.int .u64 (sz' : Int)) := rfl
  have hK1 : (hdL sz' tm' root' sig')[1]? = some (.int .u64 (tm' : Int)) := rfl
  have hpr : Hid (∀ j v, (bvs root)[j]? = some v → (hdL sz tm root sig)[2 + j]? = some v) := hd_part sz tm root sig
  have hpr' : Hid (∀ j v, (bvs root')[j]? = some v → (hdL sz' tm' root' sig')[2 + j]? = some v) := hd_part sz' tm' root' sig'
  obtain ⟨LA, hLA⟩ : ∃ LA, LA = (stampR ta A).1 := ⟨_, rfl⟩
  obtain ⟨LB, hLB⟩ : ∃ LB, LB = (stampR tb Bc).1 := ⟨_, rfl⟩
  obtain ⟨e0, he0⟩ : ∃ e0, e0 = !mayB A := ⟨_, rfl⟩
  obtain ⟨f0, hf0⟩ : ∃ f0, f0 = !mayB Bc := ⟨_, rfl⟩
  have hEA : stampR ta A = (LA, bif e0 then 1 else 0) := by rw [hLA, he0]; unfold stampR; cases mayB A <;> rfl
  have hEB : stampR tb Bc = (LB, bif f0 then 1 else 0) := by rw [hLB, hf0]; unfold stampR; cases mayB Bc <;> rfl
  have hL1 := Lib.hid (fun W (hW : Below w.heap.size w W) => hEA ▸ Leaf_any ta aa na ca A W hna hta (hA.to hW))
  have hL2 := Lib.hid (fun W (hW : Below w.heap.size w W) => hEB ▸ Leaf_any tb ab nb cb Bc W hnb htb (hB.to hW))
  have hL3 := Lib.hid (fun W (hW : Below w.heap.size w W) => hEA ▸ SCT_any ta aa na ca A W hna hta (hA.to hW))
  have hFA : Hid (e0 = false → LA = stampF ta (A.getD 0 [])) := by show _ → _; intro h; rw [hLA]; unfold stampR; rw [h] at he0; cases hm : mayB A with | true => rfl | false => (rw [hm] at he0; cases he0)
  have hFB : Hid (f0 = false → LB = stampF tb (Bc.getD 0 [])) := by show _ → _; intro h; rw [hLB]; unfold stampR; rw [h] at hf0; cases hm : mayB Bc with | true => rfl | false => (rw [hm] at hf0; cases hf0)
  have hqv : Hid (e0 = false → f0 = false → decide (LA = LB) = (decide (ta = tb) && decide (A.getD 0 [] = Bc.getD 0 []))) := by
    show _ → _ → _
    intro h1 h2
    rw [hFA.out h1, hFB.out h2]
    exact stamp_inj hta htb
  obtain ⟨aj, nj, cj, hcA⟩ := first_cert hA he0
  obtain ⟨bj, mj, dj, hcB⟩ := first_cert hB hf0
  have HCA := Lib.hid hcA
  have HCB := Lib.hid hcB
  clear hcA hcB hEA hEB hLA hLB he0 hf0
  have htq : ((ta : Int) == (tb : Int)) = decide (ta = tb) := by rw [Bool.eq_iff_iff]; simp; omega
  obtain ⟨q, hq⟩ : ∃ q, q = decide (LA = LB) := ⟨_, rfl⟩
  obtain ⟨cq, hcq⟩ : ∃ cq, cq = decide (A.getD 0 [] = Bc.getD 0 []) := ⟨_, rfl⟩
  obtain ⟨tq, htq0⟩ : ∃ tq, tq = decide (ta = tb) := ⟨_, rfl⟩
  have hqd : Hid (decide (LA = LB) = q) := hq.symm
  have hcqd : Hid (decide (A.getD 0 [] = Bc.getD 0 []) = cq) := hcq.symm
  rw [← htq0] at htq
  have hqv : Hid (e0 = false → f0 = false → q = (tq && cq)) := by rw [hq, hcq, htq0]; exact hqv.out
  clear hq hcq htq0
  generalize hdL sz tm root sig = dH at *
  generalize hdL sz' tm' root' sig' = dK at *
  have hzH : Hid ((Try.prog.info? 55).map (·.size) = some dH.length) := by show _ = _; rw [hlH.out]; exact sizeHd
  have hzK : Hid ((Try.prog.info? 55).map (·.size) = some dK.length) := by show _ = _; rw [hlK.out]; exact sizeHd
  obtain ⟨cs, hcs⟩ : ∃ cs, cs = ownL ta aa na ca tb ab nb cb dH dK := ⟨_, rfl⟩
  rw [← hcs]
  unfold ownL at hcs
  have hs0 : Hid (∀ j v, ([.int .u64 (ta : Int), .slice aa na ca] : List Value)[j]? = some v → cs[0 + j]? = some v) := by
    show ∀ _, _
    intro j v h
    rw [Nat.zero_add, hcs, List.append_assoc, List.append_assoc]
    exact (List.getElem?_append_left (by have := (List.getElem?_eq_some_iff.1 h).1; exact this)).trans h
  have hs2 : Hid (∀ j v, ([.int .u64 (tb : Int), .slice ab nb cb] : List Value)[j]? = some v → cs[2 + j]? = some v) := by
    show ∀ _, _
    intro j v h
    rw [hcs, List.append_assoc, List.append_assoc, List.getElem?_append_right (by simp)]
    rw [List.getElem?_append_left (by have := (List.getElem?_eq_some_iff.1 h).1; simp at this ⊢; omega)]
    simpa using h
  have hs4 : Hid (∀ j v, dH[j]? = some v → cs[4 + j]? = some v) := by
    show ∀ _, _
    intro j v h
    have hj := (List.getElem?_eq_some_iff.1 h).1
    rw [hcs, List.append_assoc, List.getElem?_append_right (by simp), List.getElem?_append_left (by simp; omega)]
    simpa using h
  have hs102 : Hid (∀ j v, dK[j]? = some v → cs[102 + j]? = some v) := by
    show ∀ _, _
    intro j v h
    have := hlH.out
    rw [hcs, List.getElem?_append_right (by simp; omega)]
    have e : 102 + j - (([.int .u64 (ta : Int), .slice aa na ca] : List Value) ++ ([.int .u64 (tb : Int), .slice ab nb cb] : List Value) ++ dH).length = j := by simp; omega
    rw [e]
    exact h
  have hz1 : ((sz : Int) == (sz' : Int)) = decide (sz = sz') := by rw [Bool.eq_iff_iff]; simp; omega
  have hz2 : ((tm : Int) == (tm' : Int)) = decide (tm = tm') := by rw [Bool.eq_iff_iff]; simp; omega
  have hmn : Hid (decide (headF sz tm root = headF sz' tm' root') = ((decide (sz = sz') && decide (tm = tm')) && decide (root = root'))) := head_inj hsz htm hsz' htm'
  have hrr : Hid (∀ W, (Op.equalIn 10000 52 (.agg (bvs root).toArray) (.agg (bvs root').toArray)).run Try.prog W = .ok (decide (root = root')) W) := fun W => run_eqIn_bytes Try.underlying52 Try.underlying5 (by kernel_rfl) (by kernel_rfl) hroot hroot'
  have hsm : Hid (e0 = false → decide (LA = headF sz tm root) = false) := by show _ → _; intro h; rw [hFA.out h]; exact stamp_head _ _ _ _ _
  have hn1 := Lib.hid (head_len sz tm root hroot)
  have hn2 := Lib.hid (head_len sz' tm' root' hroot')
  have hzr : Hid ((Try.prog.info? 52).map (·.size) = some (bvs root).length) := by show _ = _; rw [List.length_map, hroot]; exact sizeDg
  have hzr' : Hid ((Try.prog.info? 52).map (·.size) = some (bvs root').length) := by show _ = _; rw [List.length_map, hroot']; exact sizeDg
  obtain ⟨b1, hb1d⟩ : ∃ b1, b1 = decide (sz = sz') := ⟨_, rfl⟩
  obtain ⟨b2, hb2d⟩ : ∃ b2, b2 = decide (tm = tm') := ⟨_, rfl⟩
  obtain ⟨r3, hr3d⟩ : ∃ r3, r3 = decide (root = root') := ⟨_, rfl⟩
  rw [← hb1d] at hz1
  rw [← hb2d] at hz2
  rw [← hb1d, ← hb2d, ← hr3d] at hmn
  rw [← hr3d] at hrr
  obtain ⟨g6, hg6⟩ : ∃ g6, g6 = (!e0 && !f0) := ⟨_, rfl⟩
  obtain ⟨g15, hg15⟩ : ∃ g15, g15 = (g6 && tq) := ⟨_, rfl⟩
  obtain ⟨g12, hg12⟩ : ∃ g12, g12 = (b1 && b2) := ⟨_, rfl⟩
  obtain ⟨g3, hg3⟩ : ∃ g3, g3 = (g12 && r3) := ⟨_, rfl⟩
  have HE6 : Hid (g6 = true → e0 = false ∧ f0 = false) := by rw [hg6]; cases e0 <;> cases f0 <;> (intro h; first | exact ⟨rfl, rfl⟩ | cases h)
  have HE15 : Hid (g15 = true → e0 = false ∧ f0 = false) := by
    rw [hg15]
    intro h
    cases g6 with
    | true => exact HE6.out rfl
    | false => cases h
  rw [← hg12, ← hg3] at hmn
  have HG6 := Lib.hid hg6
  have HG15 := Lib.hid hg15
  have HG12 := Lib.hid hg12
  have HG3 := Lib.hid hg3
  clear hcs hA hB hb1d hb2d hr3d hFA hFB hg6 hg15 hg12 hg3
  go_enter Try.func7, Try.ntmps7
  go_wp2_with (((with_reducible show wpList _ _ _ (⟨some 1, .box _ _, _, _, _, _⟩ :: _) _ _); refine wl_box rfl 60 _ rfl cs rfl ?_; intro w1 hA1 hb1 lB))
  have HB1 := Lib.hid hb1
  clear hb1
  generalize hB : w.heap.size = B at lB hA1 ⊢
  have HB := Lib.hid hB
  clear hB
  refine wp_region_steps [[], [0], [], [2], [], [4], [], [6], [], [], [], [], [8, 1, 9], [9, 3, 8, 12], [10, 5, 11, 13], [11, 7, 10, 14]] (by kernel_rfl) (by kernel_rfl) (fun L a wx => ∃ v14 v15 v16 v17 v18 v19 v20 v21 v3 v4 v5 v6, a = ⟨#[.agg cs.toArray, .pointer (some ⟨B, 0, none⟩), .bool false, v3, v4, v5, v6, undef, undef, undef, undef, undef, undef, undef, v14, v15, v16, v17, v18, v19, v20, v21, undef, undef, undef, undef, undef, undef, undef, undef, undef, undef, undef, undef, undef, undef, undef, undef, undef, undef, undef, undef, undef, undef, undef, undef, undef, undef, undef, undef, undef, undef, undef, undef, undef, undef, undef, undef, undef, undef, undef, undef, undef, undef, undef, undef, undef, undef, undef, undef, undef, undef, undef, undef, undef, undef, undef, undef, undef, undef, undef, undef, undef, undef, undef, undef, undef, undef, undef, undef, undef, undef, undef, undef, undef, undef, undef, undef, undef, undef, undef, undef, undef, undef, undef, undef, undef, undef, undef, undef], []⟩ ∧ InvOwn1 ta aa na ca tb ab nb cb dH dK cs B w1 L v14 v15 v16 v17 v18 v19 v20 v21 v3 v4 v5 v6 wx) ?_ ⟨?_, ?_, ?_, ?_, ?_, ?_, ?_, ?_, ?_, ?_, ?_, ?_, ?_, ?_, ?_, ?_, trivial⟩ ?_
  · refine ⟨_, _, _, _, _, _, _, _, _, _, _, _, rfl, ⟨?_, ?_, ?_, ?_, ?_, ?_, ?_, ?_, ?_, ?_, ?_, ?_, below_drew (Below.refl _ _), fun h => absurd h (by decide), fun h => absurd h (by decide)⟩⟩ <;> (intro h; exact absurd h (by decide))
  · rintro L a wx ⟨v14, v15, v16, v17, v18, v19, v20, v21, v3, v4, v5, v6, rfl, hI⟩ hL hdep hcl K hK
    go_simp
    exact hK _ _ ⟨_, v15, v16, v17, v18, v19, v20, v21, v3, v4, v5, v6, rfl, ⟨fun _ => rfl, hI.t1, hI.t2, hI.t3, hI.t4, hI.t5, hI.t6, hI.t7, hI.t8, hI.t9, hI.t10, hI.t11, hI.bw, hI.ne34, hI.ne56⟩⟩
  · rintro L a wx ⟨v14, v15, v16, v17, v18, v19, v20, v21, v3, v4, v5, v6, rfl, hI⟩ hL hdep hcl K hK
    obtain rfl := hI.t0 (hdep 0 (by decide))
    refine ow_load 25 _ rfl B 0 rfl 60 cs [.int .u64 (ta : Int), .slice aa na ca] (hA1.to hI.bw lB) (hs0.out) _ Try.underlying25 rfl sizeE ?_
    exact hK _ _ ⟨_, _, v16, v17, v18, v19, v20, v21, v3, v4, v5, v6, rfl, ⟨hI.t0, fun _ => rfl, hI.t2, hI.t3, hI.t4, hI.t5, hI.t6, hI.t7, hI.t8, hI.t9, hI.t10, hI.t11, hI.bw, hI.ne34, hI.ne56⟩⟩
  · rintro L a wx ⟨v14, v15, v16, v17, v18, v19, v20, v21, v3, v4, v5, v6, rfl, hI⟩ hL hdep hcl K hK
    go_simp
    exact hK _ _ ⟨v14, v15, _, v17, v18, v19, v20, v21, v3, v4, v5, v6, rfl, ⟨hI.t0, hI.t1, fun _ => rfl, hI.t3, hI.t4, hI.t5, hI.t6, hI.t7, hI.t8, hI.t9, hI.t10, hI.t11, hI.bw, hI.ne34, hI.ne56⟩⟩
  · rintro L a wx ⟨v14, v15, v16, v17, v18, v19, v20, v21, v3, v4, v5, v6, rfl, hI⟩ hL hdep hcl K hK
    obtain rfl := hI.t2 (hdep 2 (by decide))
    refine ow_load 25 _ rfl B 2 rfl 60 cs [.int .u64 (tb : Int), .slice ab nb cb] (hA1.to hI.bw lB) (hs2.out) _ Try.underlying25 rfl sizeE ?_
    exact hK _ _ ⟨v14, v15, _, _, v18, v19, v20, v21, v3, v4, v5, v6, rfl, ⟨hI.t0, hI.t1, hI.t2, fun _ => rfl, hI.t4, hI.t5, hI.t6, hI.t7, hI.t8, hI.t9, hI.t10, hI.t11, hI.bw, hI.ne34, hI.ne56⟩⟩
  · rintro L a wx ⟨v14, v15, v16, v17, v18, v19, v20, v21, v3, v4, v5, v6, rfl, hI⟩ hL hdep hcl K hK
    go_simp
    exact hK _ _ ⟨v14, v15, v16, v17, _, v19, v20, v21, v3, v4, v5, v6, rfl, ⟨hI.t0, hI.t1, hI.t2, hI.t3, fun _ => rfl, hI.t5, hI.t6, hI.t7, hI.t8, hI.t9, hI.t10, hI.t11, hI.bw, hI.ne34, hI.ne56⟩⟩
  · rintro L a wx ⟨v14, v15, v16, v17, v18, v19, v20, v21, v3, v4, v5, v6, rfl, hI⟩ hL hdep hcl K hK
    obtain rfl := hI.t4 (hdep 4 (by decide))
    refine ow_load 55 _ rfl B 4 rfl 60 cs dH (hA1.to hI.bw lB) (hs4.out) _ Try.underlying55 rfl hzH.out ?_
    exact hK _ _ ⟨v14, v15, v16, v17, _, _, v20, v21, v3, v4, v5, v6, rfl, ⟨hI.t0, hI.t1, hI.t2, hI.t3, hI.t4, fun _ => rfl, hI.t6, hI.t7, hI.t8, hI.t9, hI.t10, hI.t11, hI.bw, hI.ne34, hI.ne56⟩⟩
  · rintro L a wx ⟨v14, v15, v16, v17, v18, v19, v20, v21, v3, v4, v5, v6, rfl, hI⟩ hL hdep hcl K hK
    go_simp
    exact hK _ _ ⟨v14, v15, v16, v17, v18, v19, _, v21, v3, v4, v5, v6, rfl, ⟨hI.t0, hI.t1, hI.t2, hI.t3, hI.t4, hI.t5, fun _ => rfl, hI.t7, hI.t8, hI.t9, hI.t10, hI.t11, hI.bw, hI.ne34, hI.ne56⟩⟩
  · rintro L a wx ⟨v14, v15, v16, v17, v18, v19, v20, v21, v3, v4, v5, v6, rfl, hI⟩ hL hdep hcl K hK
    obtain rfl := hI.t6 (hdep 6 (by decide))
    refine ow_load 55 _ rfl B 102 rfl 60 cs dK (hA1.to hI.bw lB) (hs102.out) _ Try.underlying55 rfl hzK.out ?_
    exact hK _ _ ⟨v14, v15, v16, v17, v18, v19, _, _, v3, v4, v5, v6, rfl, ⟨hI.t0, hI.t1, hI.t2, hI.t3, hI.t4, hI.t5, hI.t6, fun _ => rfl, hI.t8, hI.t9, hI.t10, hI.t11, hI.bw, hI.ne34, hI.ne56⟩⟩
  · rintro L a wx ⟨v14, v15, v16, v17, v18, v19, v20, v21, v3, v4, v5, v6, rfl, hI⟩ hL hdep hcl K hK
    refine ow_alloc 25 rfl zE 2 (infozE) ?_
    intro w' hA hb hs
    exact hK _ _ ⟨v14, v15, v16, v17, v18, v19, v20, v21, _, v4, v5, v6, rfl, ⟨hI.t0, hI.t1, hI.t2, hI.t3, hI.t4, hI.t5, hI.t6, hI.t7, fun _ => ⟨_, _, rfl, hI.bw.size, hA, len_zE, fun h => absurd (hcl 12 (by decide) h 8 (by decide)) (by rw [hL]; decide)⟩, fun h => let ⟨X, cur, e, h1, h2, h3, h4⟩ := hI.t9 h; ⟨X, cur, e, h1, h2.kept hb, h3, h4⟩, fun h => let ⟨X, cur, e, h1, h2, h3, h4⟩ := hI.t10 h; ⟨X, cur, e, h1, h2.kept hb, h3, h4⟩, fun h => let ⟨X, cur, e, h1, h2, h3, h4⟩ := hI.t11 h; ⟨X, cur, e, h1, h2.kept hb, h3, h4⟩, (hI.bw).trans (hb.mono hI.bw.size), fun h1 h2 => (by obtain ⟨X, cur, e, -, h3, -⟩ := hI.t9 h2; rw [e]; intro e'; have := h3.lt; injection e' with e'; injection e' with e'; injection e' with e' _ _; omega), hI.ne56⟩⟩
  · rintro L a wx ⟨v14, v15, v16, v17, v18, v19, v20, v21, v3, v4, v5, v6, rfl, hI⟩ hL hdep hcl K hK
    refine ow_alloc 25 rfl zE 2 (infozE) ?_
    intro w' hA hb hs
    exact hK _ _ ⟨v14, v15, v16, v17, v18, v19, v20, v21, v3, _, v5, v6, rfl, ⟨hI.t0, hI.t1, hI.t2, hI.t3, hI.t4, hI.t5, hI.t6, hI.t7, fun h => let ⟨X, cur, e, h1, h2, h3, h4⟩ := hI.t8 h; ⟨X, cur, e, h1, h2.kept hb, h3, h4⟩, fun _ => ⟨_, _, rfl, hI.bw.size, hA, len_zE, fun h => absurd (hcl 13 (by decide) h 9 (by decide)) (by rw [hL]; decide)⟩, fun h => let ⟨X, cur, e, h1, h2, h3, h4⟩ := hI.t10 h; ⟨X, cur, e, h1, h2.kept hb, h3, h4⟩, fun h => let ⟨X, cur, e, h1, h2, h3, h4⟩ := hI.t11 h; ⟨X, cur, e, h1, h2.kept hb, h3, h4⟩, (hI.bw).trans (hb.mono hI.bw.size), fun h1 h2 => (by obtain ⟨X, cur, e, -, h3, -⟩ := hI.t8 h1; rw [e]; intro e'; have := h3.lt; injection e' with e'; injection e' with e'; injection e' with e' _ _; omega), hI.ne56⟩⟩
  · rintro L a wx ⟨v14, v15, v16, v17, v18, v19, v20, v21, v3, v4, v5, v6, rfl, hI⟩ hL hdep hcl K hK
    refine ow_alloc 55 rfl zH 98 (infozH) ?_
    intro w' hA hb hs
    exact hK _ _ ⟨v14, v15, v16, v17, v18, v19, v20, v21, v3, v4, _, v6, rfl, ⟨hI.t0, hI.t1, hI.t2, hI.t3, hI.t4, hI.t5, hI.t6, hI.t7, fun h => let ⟨X, cur, e, h1, h2, h3, h4⟩ := hI.t8 h; ⟨X, cur, e, h1, h2.kept hb, h3, h4⟩, fun h => let ⟨X, cur, e, h1, h2, h3, h4⟩ := hI.t9 h; ⟨X, cur, e, h1, h2.kept hb, h3, h4⟩, fun _ => ⟨_, _, rfl, hI.bw.size, hA, len_zH, fun h => absurd (hcl 14 (by decide) h 10 (by decide)) (by rw [hL]; decide)⟩, fun h => let ⟨X, cur, e, h1, h2, h3, h4⟩ := hI.t11 h; ⟨X, cur, e, h1, h2.kept hb, h3, h4⟩, (hI.bw).trans (hb.mono hI.bw.size), hI.ne34, fun h1 h2 => (by obtain ⟨X, cur, e, -, h3, -⟩ := hI.t11 h2; rw [e]; intro e'; have := h3.lt; injection e' with e'; injection e' with e'; injection e' with e' _ _; omega)⟩⟩
  · rintro L a wx ⟨v14, v15, v16, v17, v18, v19, v20, v21, v3, v4, v5, v6, rfl, hI⟩ hL hdep hcl K hK
    refine ow_alloc 55 rfl zH 98 (infozH) ?_
    intro w' hA hb hs
    exact hK _ _ ⟨v14, v15, v16, v17, v18, v19, v20, v21, v3, v4, v5, _, rfl, ⟨hI.t0, hI.t1, hI.t2, hI.t3, hI.t4, hI.t5, hI.t6, hI.t7, fun h => let ⟨X, cur, e, h1, h2, h3, h4⟩ := hI.t8 h; ⟨X, cur, e, h1, h2.kept hb, h3, h4⟩, fun h => let ⟨X, cur, e, h1, h2, h3, h4⟩ := hI.t9 h; ⟨X, cur, e, h1, h2.kept hb, h3, h4⟩, fun h => let ⟨X, cur, e, h1, h2, h3, h4⟩ := hI.t10 h; ⟨X, cur, e, h1, h2.kept hb, h3, h4⟩, fun _ => ⟨_, _, rfl, hI.bw.size, hA, len_zH, fun h => absurd (hcl 15 (by decide) h 11 (by decide)) (by rw [hL]; decide)⟩, (hI.bw).trans (hb.mono hI.bw.size), hI.ne34, fun h1 h2 => (by obtain ⟨X, cur, e, -, h3, -⟩ := hI.t10 h1; rw [e]; intro e'; have := h3.lt; injection e' with e'; injection e' with e'; injection e' with e' _ _; omega)⟩⟩
  · rintro L a wx ⟨v14, v15, v16, v17, v18, v19, v20, v21, v3, v4, v5, v6, rfl, hI⟩ hL hdep hcl K hK
    obtain rfl := hI.t1 (hdep 1 (by decide))
    obtain ⟨X, cur, rfl, hX, hAx, hcl2, -⟩ := hI.t8 (hdep 8 (by decide))
    refine ow_store 25 _ _ rfl X 0 rfl [.int .u64 (ta : Int), .slice aa na ca] rfl 25 cur hAx sizeE (by rw [hcl2]; simp) (by simp [Value.oneCell']) ?_
    intro w' hA' hg hs
    rw [whole_store _ _ (by rw [hcl2]; simp)] at hA'
    exact hK _ _ ⟨v14, _, v16, v17, v18, v19, v20, v21, _, v4, v5, v6, rfl, ⟨hI.t0, hI.t1, hI.t2, hI.t3, hI.t4, hI.t5, hI.t6, hI.t7, fun _ => ⟨X, _, rfl, hX, hA', rfl, fun _ => rfl⟩, fun h => (by obtain ⟨X', cur', e0', h1, h2, h3, h4⟩ := hI.t9 h; exact ⟨X', cur', e0', h1, h2.grown hg (by intro e; injection e with e; exact hI.ne34 (hdep 8 (by decide)) (hdep 9 (by decide)) (by rw [e0']; exact congrArg (fun x => Value.pointer (some ⟨x, 0, none⟩)) e.symm)), h3, h4⟩), fun h => (by obtain ⟨X', cur', e0', h1, h2, h3, h4⟩ := hI.t10 h; exact ⟨X', cur', e0', h1, h2.grown hg (by intro e; injection e with e; subst e; exact arr_ty h2 hAx (by decide)), h3, h4⟩), fun h => (by obtain ⟨X', cur', e0', h1, h2, h3, h4⟩ := hI.t11 h; exact ⟨X', cur', e0', h1, h2.grown hg (by intro e; injection e with e; subst e; exact arr_ty h2 hAx (by decide)), h3, h4⟩), hI.bw.grown hg hI.bw.size (fun k hk => by cases hk; exact hX), hI.ne34, hI.ne56⟩⟩
  · rintro L a wx ⟨v14, v15, v16, v17, v18, v19, v20, v21, v3, v4, v5, v6, rfl, hI⟩ hL hdep hcl K hK
    obtain rfl := hI.t3 (hdep 3 (by decide))
    obtain ⟨X, cur, rfl, hX, hAx, hcl2, -⟩ := hI.t9 (hdep 9 (by decide))
    refine ow_store 25 _ _ rfl X 0 rfl [.int .u64 (tb : Int), .slice ab nb cb] rfl 25 cur hAx sizeE (by rw [hcl2]; simp) (by simp [Value.oneCell']) ?_
    intro w' hA' hg hs
    rw [whole_store _ _ (by rw [hcl2]; simp)] at hA'
    exact hK _ _ ⟨v14, v15, v16, _, v18, v19, v20, v21, v3, _, v5, v6, rfl, ⟨hI.t0, hI.t1, hI.t2, hI.t3, hI.t4, hI.t5, hI.t6, hI.t7, fun h => (by obtain ⟨X', cur', e0', h1, h2, h3, h4⟩ := hI.t8 h; exact ⟨X', cur', e0', h1, h2.grown hg (by intro e; injection e with e; exact hI.ne34 (hdep 8 (by decide)) (hdep 9 (by decide)) (by rw [e0']; exact congrArg (fun x => Value.pointer (some ⟨x, 0, none⟩)) e)), h3, h4⟩), fun _ => ⟨X, _, rfl, hX, hA', rfl, fun _ => rfl⟩, fun h => (by obtain ⟨X', cur', e0', h1, h2, h3, h4⟩ := hI.t10 h; exact ⟨X', cur', e0', h1, h2.grown hg (by intro e; injection e with e; subst e; exact arr_ty h2 hAx (by decide)), h3, h4⟩), fun h => (by obtain ⟨X', cur', e0', h1, h2, h3, h4⟩ := hI.t11 h; exact ⟨X', cur', e0', h1, h2.grown hg (by intro e; injection e with e; subst e; exact arr_ty h2 hAx (by decide)), h3, h4⟩), hI.bw.grown hg hI.bw.size (fun k hk => by cases hk; exact hX), hI.ne34, hI.ne56⟩⟩
  · rintro L a wx ⟨v14, v15, v16, v17, v18, v19, v20, v21, v3, v4, v5, v6, rfl, hI⟩ hL hdep hcl K hK
    obtain rfl := hI.t5 (hdep 5 (by decide))
    obtain ⟨X, cur, rfl, hX, hAx, hcl2, -⟩ := hI.t10 (hdep 10 (by decide))
    refine ow_store 55 _ _ rfl X 0 rfl dH rfl 55 cur hAx hzH.out (by rw [hcl2]; simp [hlH.out]) hoH.out ?_
    intro w' hA' hg hs
    rw [whole_store _ _ (by rw [hcl2]; simp [hlH.out])] at hA'
    exact hK _ _ ⟨v14, v15, v16, v17, v18, _, v20, v21, v3, v4, _, v6, rfl, ⟨hI.t0, hI.t1, hI.t2, hI.t3, hI.t4, hI.t5, hI.t6, hI.t7, fun h => (by obtain ⟨X', cur', e0', h1, h2, h3, h4⟩ := hI.t8 h; exact ⟨X', cur', e0', h1, h2.grown hg (by intro e; injection e with e; subst e; exact arr_ty h2 hAx (by decide)), h3, h4⟩), fun h => (by obtain ⟨X', cur', e0', h1, h2, h3, h4⟩ := hI.t9 h; exact ⟨X', cur', e0', h1, h2.grown hg (by intro e; injection e with e; subst e; exact arr_ty h2 hAx (by decide)), h3, h4⟩), fun _ => ⟨X, _, rfl, hX, hA', hlH.out, fun _ => rfl⟩, fun h => (by obtain ⟨X', cur', e0', h1, h2, h3, h4⟩ := hI.t11 h; exact ⟨X', cur', e0', h1, h2.grown hg (by intro e; injection e with e; exact hI.ne56 (hdep 10 (by decide)) (hdep 11 (by decide)) (by rw [e0']; exact congrArg (fun x => Value.pointer (some ⟨x, 0, none⟩)) e.symm)), h3, h4⟩), hI.bw.grown hg hI.bw.size (fun k hk => by cases hk; exact hX), hI.ne34, hI.ne56⟩⟩
  · rintro L a wx ⟨v14, v15, v16, v17, v18, v19, v20, v21, v3, v4, v5, v6, rfl, hI⟩ hL hdep hcl K hK
    obtain rfl := hI.t7 (hdep 7 (by decide))
    obtain ⟨X, cur, rfl, hX, hAx, hcl2, -⟩ := hI.t11 (hdep 11 (by decide))
    refine ow_store 55 _ _ rfl X 0 rfl dK rfl 55 cur hAx hzK.out (by rw [hcl2]; simp [hlK.out]) hoK.out ?_
    intro w' hA' hg hs
    rw [whole_store _ _ (by rw [hcl2]; simp [hlK.out])] at hA'
    exact hK _ _ ⟨v14, v15, v16, v17, v18, v19, v20, _, v3, v4, v5, _, rfl, ⟨hI.t0, hI.t1, hI.t2, hI.t3, hI.t4, hI.t5, hI.t6, hI.t7, fun h => (by obtain ⟨X', cur', e0', h1, h2, h3, h4⟩ := hI.t8 h; exact ⟨X', cur', e0', h1, h2.grown hg (by intro e; injection e with e; subst e; exact arr_ty h2 hAx (by decide)), h3, h4⟩), fun h => (by obtain ⟨X', cur', e0', h1, h2, h3, h4⟩ := hI.t9 h; exact ⟨X', cur', e0', h1, h2.grown hg (by intro e; injection e with e; subst e; exact arr_ty h2 hAx (by decide)), h3, h4⟩), fun h => (by obtain ⟨X', cur', e0', h1, h2, h3, h4⟩ := hI.t10 h; exact ⟨X', cur', e0', h1, h2.grown hg (by intro e; injection e with e; exact hI.ne56 (hdep 10 (by decide)) (hdep 11 (by decide)) (by rw [e0']; exact congrArg (fun x => Value.pointer (some ⟨x, 0, none⟩)) e)), h3, h4⟩), fun _ => ⟨X, _, rfl, hX, hA', hlK.out, fun _ => rfl⟩, hI.bw.grown hg hI.bw.size (fun k hk => by cases hk; exact hX), hI.ne34, hI.ne56⟩⟩
  · rintro a wx ⟨v14, v15, v16, v17, v18, v19, v20, v21, v3, v4, v5, v6, rfl, hI⟩
    obtain ⟨X3, cur3, rfl, l3, hX3, -, e3⟩ := hI.t8 rfl
    obtain ⟨X4, cur4, rfl, l4, hX4, -, e4⟩ := hI.t9 rfl
    obtain ⟨X5, cur5, rfl, l5, hX5, -, e5⟩ := hI.t10 rfl
    obtain ⟨X6, cur6, rfl, l6, hX6, -, e6⟩ := hI.t11 rfl
    obtain rfl := e3 rfl
    obtain rfl := e4 rfl
    obtain rfl := (e5 rfl).symm
    obtain rfl := (e6 rfl).symm
    have hbw := hI.bw
    clear hI
    have hbx := HB1.out.trans (hbw.mono HB1.out.size)
    have c30 := hX3.cell 0
    have c31 := hX3.cell 1
    simp only [List.getElem?_cons_zero, List.getElem?_cons_succ] at c30 c31
    go_wp2_with fail
    refine (hL1.out _ hbx).mono ?_
    rintro e w2 ⟨vx, rfl, hox, hb2⟩
    obtain ⟨ax, nx, cx, rfl, -⟩ := hox.reads
    have hX4' := hX4.kept hb2
    have c40 := hX4'.cell 0
    have c41 := hX4'.cell 1
    simp only [List.getElem?_cons_zero, List.getElem?_cons_succ] at c40 c41
    go_wp2_with fail
    refine (hL2.out _ (hbx.trans (hb2.mono hbx.size))).mono ?_
    rintro e w3 ⟨vy, rfl, hoy, hb3⟩
    obtain ⟨ay, ny, cy, rfl, hry⟩ := hoy.reads
    have hb23 := hb2.trans (hb3.mono hb2.size)
    have hY3 := hX3.kept hb23
    have hY4 := hX4.kept hb23
    have hY5 := hX5.kept hb23
    have hY6 := hX6.kept hb23
    have hb03 := hbx.trans (hb23.mono hbx.size)
    have hrx := (hox.to hb3).rd.toRd
    have hry' := hry.toRd
    clear c30 c31 c40 c41 hX4' hox hoy hX3 hX4 hX5 hX6 hry
    go_wp2_with fail
    have d30 := hY3.cell 0
    have d31 := hY3.cell 1
    have d40 := hY4.cell 0
    have d41 := hY4.cell 1
    simp only [List.getElem?_cons_zero, List.getElem?_cons_succ] at d30 d31 d40 d41
    have hrx : Hid (Rd w3 ax nx cx LA) := hrx
    have hry' : Hid (Rd w3 ay ny cy LB) := hry'
    refine wp_region_steps [[], [0], [1], [2], [3, 2], [2, 4], [5], [6], [6], [7, 8, 6], [6], [10, 6], [6], [12, 6], [11, 13, 6], [14, 6], [15], [16, 15], [17, 15], [18, 15], [15], [20, 15], [21, 15], [22, 15], [19, 23, 15], [15, 24, 6], [9, 25, 6], [6, 26]] (by kernel_rfl) (by kernel_rfl) (fun L a wx => ∃ v : Nat → Value, a = ⟨#[.agg cs.toArray, .pointer (some ⟨B, 0, none⟩), .bool false, .pointer (some ⟨X3, 0, none⟩), .pointer (some ⟨X4, 0, none⟩), .pointer (some ⟨X5, 0, none⟩), .pointer (some ⟨X6, 0, none⟩), .slice ax nx cx, .int .i64 (bif e0 then 1 else 0), .slice ay ny cy, .int .i64 (bif f0 then 1 else 0), undef, undef, undef, v14, v15, v16, v17, v18, v19, v20, v21, .tuple #[.slice ax nx cx, .int .i64 (bif e0 then 1 else 0)], .agg #[.int .u64 (ta : Int), .slice aa na ca], .tuple #[.slice ax nx cx, .int .i64 (bif e0 then 1 else 0)], .slice ax nx cx, .int .i64 (bif e0 then 1 else 0), .tuple #[.slice ay ny cy, .int .i64 (bif f0 then 1 else 0)], .agg #[.int .u64 (tb : Int), .slice ab nb cb], .tuple #[.slice ay ny cy, .int .i64 (bif f0 then 1 else 0)], .slice ay ny cy, .int .i64 (bif f0 then 1 else 0), v 32, v 33, v 34, v 35, v 36, v 37, v 38, v 39, v 40, v 41, v 42, v 43, v 44, v 45, v 46, v 47, v 48, v 49, v 50, v 51, v 52, v 53, v 54, v 55, v 56, v 57, v 58, v 59, undef, undef, undef, undef, undef, undef, undef, undef, undef, undef, undef, undef, undef, undef, undef, undef, undef, undef, undef, undef, undef, undef, undef, undef, undef, undef, undef, undef, undef, undef, undef, undef, undef, undef, undef, undef, undef, undef, undef, undef, undef, undef, undef, undef, undef, undef, undef, undef, undef, undef], []⟩ ∧ InvOwn4 ta aa na ca tb ab nb cb e0 f0 tq q cq g6 g15 X3 X4 ax ay aj bj nx cx ny cy nj cj mj dj w3 L v wx) ?_ ⟨?_, ?_, ?_, ?_, ?_, ?_, ?_, ?_, ?_, ?_, ?_, ?_, ?_, ?_, ?_, ?_, ?_, ?_, ?_, ?_, ?_, ?_, ?_, ?_, ?_, ?_, ?_, ?_, trivial⟩ ?_
    · refine ⟨fun _ => undef, rfl, ⟨?_, ?_, ?_, ?_, ?_, ?_, ?_, ?_, ?_, ?_, ?_, ?_, ?_, ?_, ?_, ?_, ?_, ?_, ?_, ?_, ?_, ?_, ?_, ?_, ?_, ?_, ?_, ?_, below_drew (Below.refl _ _)⟩⟩ <;> (intro h; exact absurd h (by decide))
    · rintro L a wx ⟨v, rfl, hI⟩ hL hdep hcl K hK
      go_simp
      exact hK _ _ ⟨(upd v 32 (.int .i64 (bif e0 then 1 else 0))), rfl, ⟨fun _ => rfl, hI.t1, hI.t2, hI.t3, hI.t4, hI.t5, hI.t6, hI.t7, hI.t8, hI.t9, hI.t10, hI.t11, hI.t12, hI.t13, hI.t14, hI.t15, hI.t16, hI.t17, hI.t18, hI.t19, hI.t20, hI.t21, hI.t22, hI.t23, hI.t24, hI.t25, hI.t26, hI.t27, hI.bw⟩⟩
    · rintro L a wx ⟨v, rfl, hI⟩ hL hdep hcl K hK
      have e0 := hI.t0 (hdep 0 (by decide))
      rw [e0]
      clear e0
      cases e0 <;> (go_simp; exact hK _ _ ⟨(upd (upd v 32 _) 33 _), rfl, ⟨fun _ => rfl, fun _ => rfl, hI.t2, hI.t3, hI.t4, hI.t5, hI.t6, hI.t7, hI.t8, hI.t9, hI.t10, hI.t11, hI.t12, hI.t13, hI.t14, hI.t15, hI.t16, hI.t17, hI.t18, hI.t19, hI.t20, hI.t21, hI.t22, hI.t23, hI.t24, hI.t25, hI.t26, hI.t27, hI.bw⟩⟩)
    · rintro L a wx ⟨v, rfl, hI⟩ hL hdep hcl K hK
      have e1 := hI.t1 (hdep 1 (by decide))
      rw [e1]
      go_simp
      exact hK _ _ ⟨(upd (upd v 33 (.bool (!e0))) 34 (.bool (!e0))), rfl, ⟨hI.t0, fun _ => rfl, fun _ => rfl, hI.t3, hI.t4, hI.t5, hI.t6, hI.t7, hI.t8, hI.t9, hI.t10, hI.t11, hI.t12, hI.t13, hI.t14, hI.t15, hI.t16, hI.t17, hI.t18, hI.t19, hI.t20, hI.t21, hI.t22, hI.t23, hI.t24, hI.t25, hI.t26, hI.t27, hI.bw⟩⟩
    · rintro L a wx ⟨v, rfl, hI⟩ hL hdep hcl K hK
      have e2 := hI.t2 (hdep 2 (by decide))
      rw [e2]
      clear e2
      cases e0 <;> first | (refine (if_neg (by exact fun h => Bool.noConfusion (show false = true from h))).mpr ?_; exact hK _ _ ⟨(upd (upd v 34 _) 35 _), rfl, ⟨hI.t0, hI.t1, fun _ => rfl, fun _ => rfl, hI.t4, hI.t5, hI.t6, hI.t7, hI.t8, hI.t9, hI.t10, hI.t11, hI.t12, hI.t13, hI.t14, hI.t15, hI.t16, hI.t17, hI.t18, hI.t19, hI.t20, hI.t21, hI.t22, hI.t23, hI.t24, hI.t25, hI.t26, hI.t27, hI.bw⟩⟩) | (refine (if_pos rfl).mpr ?_; go_simp; exact hK _ _ ⟨(upd (upd v 34 _) 35 _), rfl, ⟨hI.t0, hI.t1, fun _ => rfl, fun _ => rfl, hI.t4, hI.t5, hI.t6, hI.t7, hI.t8, hI.t9, hI.t10, hI.t11, hI.t12, hI.t13, hI.t14, hI.t15, hI.t16, hI.t17, hI.t18, hI.t19, hI.t20, hI.t21, hI.t22, hI.t23, hI.t24, hI.t25, hI.t26, hI.t27, hI.bw⟩⟩)
    · rintro L a wx ⟨v, rfl, hI⟩ hL hdep hcl K hK
      have e3 := hI.t3 (hdep 3 (by decide))
      have e2 := hI.t2 (hdep 2 (by decide))
      rw [e3, e2]
      clear e3 e2
      cases e0 <;> cases f0 <;> first | (refine (if_neg (by exact fun h => Bool.noConfusion (show false = true from h))).mpr ?_; exact hK _ _ ⟨(upd (upd (upd v 35 _) 34 _) 36 _), rfl, ⟨hI.t0, hI.t1, fun _ => rfl, fun _ => rfl, fun _ => rfl, hI.t5, hI.t6, hI.t7, hI.t8, hI.t9, hI.t10, hI.t11, hI.t12, hI.t13, hI.t14, hI.t15, hI.t16, hI.t17, hI.t18, hI.t19, hI.t20, hI.t21, hI.t22, hI.t23, hI.t24, hI.t25, hI.t26, hI.t27, hI.bw⟩⟩) | (refine (if_pos rfl).mpr ?_; go_simp; exact hK _ _ ⟨(upd (upd (upd v 35 _) 34 _) 36 _), rfl, ⟨hI.t0, hI.t1, fun _ => rfl, fun _ => rfl, fun _ => rfl, hI.t5, hI.t6, hI.t7, hI.t8, hI.t9, hI.t10, hI.t11, hI.t12, hI.t13, hI.t14, hI.t15, hI.t16, hI.t17, hI.t18, hI.t19, hI.t20, hI.t21, hI.t22, hI.t23, hI.t24, hI.t25, hI.t26, hI.t27, hI.bw⟩⟩)
    · rintro L a wx ⟨v, rfl, hI⟩ hL hdep hcl K hK
      have e2 := hI.t2 (hdep 2 (by decide))
      have e4 := hI.t4 (hdep 4 (by decide))
      rw [e2, e4]
      clear e2 e4
      cases e0 <;> cases f0 <;> (have hgx := HG6.out; subst hgx) <;> (go_simp; exact hK _ _ ⟨(upd (upd (upd v 34 _) 36 _) 37 _), rfl, ⟨hI.t0, hI.t1, fun _ => rfl, hI.t3, fun _ => rfl, fun _ => rfl, hI.t6, hI.t7, hI.t8, hI.t9, hI.t10, hI.t11, hI.t12, hI.t13, hI.t14, hI.t15, hI.t16, hI.t17, hI.t18, hI.t19, hI.t20, hI.t21, hI.t22, hI.t23, hI.t24, hI.t25, hI.t26, hI.t27, hI.bw⟩⟩)
    · rintro L a wx ⟨v, rfl, hI⟩ hL hdep hcl K hK
      have e5 := hI.t5 (hdep 5 (by decide))
      rw [e5]
      go_simp
      exact hK _ _ ⟨(upd (upd v 37 (.bool g6)) 38 (.bool g6)), rfl, ⟨hI.t0, hI.t1, hI.t2, hI.t3, hI.t4, fun _ => rfl, fun _ => rfl, hI.t7, hI.t8, hI.t9, hI.t10, hI.t11, hI.t12, hI.t13, hI.t14, hI.t15, hI.t16, hI.t17, hI.t18, hI.t19, hI.t20, hI.t21, hI.t22, hI.t23, hI.t24, hI.t25, hI.t26, hI.t27, hI.bw⟩⟩
    · rintro L a wx ⟨v, rfl, hI⟩ hL hdep hcl K hK
      have e6 := hI.t6 (hdep 6 (by decide))
      rw [e6]
      clear e6
      cases g6 <;> first | (refine (if_neg (by exact fun h => Bool.noConfusion (show false = true from h))).mpr ?_; exact hK _ _ ⟨(upd (upd v 38 _) 39 _), rfl, ⟨hI.t0, hI.t1, hI.t2, hI.t3, hI.t4, hI.t5, fun _ => rfl, fun _ => rfl, hI.t8, hI.t9, hI.t10, hI.t11, hI.t12, hI.t13, hI.t14, hI.t15, hI.t16, hI.t17, hI.t18, hI.t19, hI.t20, hI.t21, hI.t22, hI.t23, hI.t24, hI.t25, hI.t26, hI.t27, hI.bw⟩⟩) | (refine (if_pos rfl).mpr ?_; go_simp; exact hK _ _ ⟨(upd (upd v 38 _) 39 _), rfl, ⟨hI.t0, hI.t1, hI.t2, hI.t3, hI.t4, hI.t5, fun _ => rfl, fun _ => rfl, hI.t8, hI.t9, hI.t10, hI.t11, hI.t12, hI.t13, hI.t14, hI.t15, hI.t16, hI.t17, hI.t18, hI.t19, hI.t20, hI.t21, hI.t22, hI.t23, hI.t24, hI.t25, hI.t26, hI.t27, hI.bw⟩⟩)
    · rintro L a wx ⟨v, rfl, hI⟩ hL hdep hcl K hK
      have e6 := hI.t6 (hdep 6 (by decide))
      rw [e6]
      clear e6
      cases g6 <;> first | (refine (if_neg (by exact fun h => Bool.noConfusion (show false = true from h))).mpr ?_; exact hK _ _ ⟨(upd (upd v 38 _) 40 _), rfl, ⟨hI.t0, hI.t1, hI.t2, hI.t3, hI.t4, hI.t5, fun _ => rfl, hI.t7, fun _ => rfl, hI.t9, hI.t10, hI.t11, hI.t12, hI.t13, hI.t14, hI.t15, hI.t16, hI.t17, hI.t18, hI.t19, hI.t20, hI.t21, hI.t22, hI.t23, hI.t24, hI.t25, hI.t26, hI.t27, hI.bw⟩⟩) | (refine (if_pos rfl).mpr ?_; go_simp; exact hK _ _ ⟨(upd (upd v 38 _) 40 _), rfl, ⟨hI.t0, hI.t1, hI.t2, hI.t3, hI.t4, hI.t5, fun _ => rfl, hI.t7, fun _ => rfl, hI.t9, hI.t10, hI.t11, hI.t12, hI.t13, hI.t14, hI.t15, hI.t16, hI.t17, hI.t18, hI.t19, hI.t20, hI.t21, hI.t22, hI.t23, hI.t24, hI.t25, hI.t26, hI.t27, hI.bw⟩⟩)
    · rintro L a wx ⟨v, rfl, hI⟩ hL hdep hcl K hK
      have e7 := hI.t7 (hdep 7 (by decide))
      have e8 := hI.t8 (hdep 8 (by decide))
      have e6 := hI.t6 (hdep 6 (by decide))
      rw [e7, e8, e6]
      clear e7 e8 e6
      cases g6 <;> first | (refine (if_neg (by exact fun h => Bool.noConfusion (show false = true from h))).mpr ?_; exact hK _ _ ⟨(upd (upd (upd (upd v 39 _) 40 _) 38 _) 41 _), rfl, ⟨hI.t0, hI.t1, hI.t2, hI.t3, hI.t4, hI.t5, fun _ => rfl, fun _ => rfl, fun _ => rfl, fun _ => rfl, hI.t10, hI.t11, hI.t12, hI.t13, hI.t14, hI.t15, hI.t16, hI.t17, hI.t18, hI.t19, hI.t20, hI.t21, hI.t22, hI.t23, hI.t24, hI.t25, hI.t26, hI.t27, hI.bw⟩⟩) | (refine (if_pos rfl).mpr ?_; go_simp; refine (Equal_any _ _ _ _ _ _ _ _ wx (hrx.out.to hI.bw) (hry'.out.to hI.bw)).mono ?_; rw [hqd.out]; rintro e w' ⟨rfl, rfl⟩; exact hK _ _ ⟨(upd (upd (upd (upd v 39 _) 40 _) 38 _) 41 _), rfl, ⟨hI.t0, hI.t1, hI.t2, hI.t3, hI.t4, hI.t5, fun _ => rfl, fun _ => rfl, fun _ => rfl, fun _ => rfl, hI.t10, hI.t11, hI.t12, hI.t13, hI.t14, hI.t15, hI.t16, hI.t17, hI.t18, hI.t19, hI.t20, hI.t21, hI.t22, hI.t23, hI.t24, hI.t25, hI.t26, hI.t27, hI.bw⟩⟩)
    · rintro L a wx ⟨v, rfl, hI⟩ hL hdep hcl K hK
      have e6 := hI.t6 (hdep 6 (by decide))
      rw [e6]
      clear e6
      cases g6 <;> first | (refine (if_neg (by exact fun h => Bool.noConfusion (show false = true from h))).mpr ?_; exact hK _ _ ⟨(upd (upd v 38 _) 42 _), rfl, ⟨hI.t0, hI.t1, hI.t2, hI.t3, hI.t4, hI.t5, fun _ => rfl, hI.t7, hI.t8, hI.t9, fun _ => rfl, hI.t11, hI.t12, hI.t13, hI.t14, hI.t15, hI.t16, hI.t17, hI.t18, hI.t19, hI.t20, hI.t21, hI.t22, hI.t23, hI.t24, hI.t25, hI.t26, hI.t27, hI.bw⟩⟩) | (refine (if_pos rfl).mpr ?_; go_simp; exact hK _ _ ⟨(upd (upd v 38 _) 42 _), rfl, ⟨hI.t0, hI.t1, hI.t2, hI.t3, hI.t4, hI.t5, fun _ => rfl, hI.t7, hI.t8, hI.t9, fun _ => rfl, hI.t11, hI.t12, hI.t13, hI.t14, hI.t15, hI.t16, hI.t17, hI.t18, hI.t19, hI.t20, hI.t21, hI.t22, hI.t23, hI.t24, hI.t25, hI.t26, hI.t27, hI.bw⟩⟩)
    · rintro L a wx ⟨v, rfl, hI⟩ hL hdep hcl K hK
      have e10 := hI.t10 (hdep 10 (by decide))
      have e6 := hI.t6 (hdep 6 (by decide))
      rw [e10, e6]
      clear e10 e6
      cases g6 <;> first | (refine (if_neg (by exact fun h => Bool.noConfusion (show false = true from h))).mpr ?_; exact hK _ _ ⟨(upd (upd (upd v 42 _) 38 _) 43 _), rfl, ⟨hI.t0, hI.t1, hI.t2, hI.t3, hI.t4, hI.t5, fun _ => rfl, hI.t7, hI.t8, hI.t9, fun _ => rfl, fun _ => rfl, hI.t12, hI.t13, hI.t14, hI.t15, hI.t16, hI.t17, hI.t18, hI.t19, hI.t20, hI.t21, hI.t22, hI.t23, hI.t24, hI.t25, hI.t26, hI.t27, hI.bw⟩⟩) | (refine (if_pos rfl).mpr ?_; have cc := (hI.bw.cell (p := ⟨X3, 0, none⟩) hY3.lt).trans d30; go_simp; exact hK _ _ ⟨(upd (upd (upd v 42 _) 38 _) 43 _), rfl, ⟨hI.t0, hI.t1, hI.t2, hI.t3, hI.t4, hI.t5, fun _ => rfl, hI.t7, hI.t8, hI.t9, fun _ => rfl, fun _ => rfl, hI.t12, hI.t13, hI.t14, hI.t15, hI.t16, hI.t17, hI.t18, hI.t19, hI.t20, hI.t21, hI.t22, hI.t23, hI.t24, hI.t25, hI.t26, hI.t27, hI.bw⟩⟩)
    · rintro L a wx ⟨v, rfl, hI⟩ hL hdep hcl K hK
      have e6 := hI.t6 (hdep 6 (by decide))
      rw [e6]
      clear e6
      cases g6 <;> first | (refine (if_neg (by exact fun h => Bool.noConfusion (show false = true from h))).mpr ?_; exact hK _ _ ⟨(upd (upd v 38 _) 44 _), rfl, ⟨hI.t0, hI.t1, hI.t2, hI.t3, hI.t4, hI.t5, fun _ => rfl, hI.t7, hI.t8, hI.t9, hI.t10, hI.t11, fun _ => rfl, hI.t13, hI.t14, hI.t15, hI.t16, hI.t17, hI.t18, hI.t19, hI.t20, hI.t21, hI.t22, hI.t23, hI.t24, hI.t25, hI.t26, hI.t27, hI.bw⟩⟩) | (refine (if_pos rfl).mpr ?_; go_simp; exact hK _ _ ⟨(upd (upd v 38 _) 44 _), rfl, ⟨hI.t0, hI.t1, hI.t2, hI.t3, hI.t4, hI.t5, fun _ => rfl, hI.t7, hI.t8, hI.t9, hI.t10, hI.t11, fun _ => rfl, hI.t13, hI.t14, hI.t15, hI.t16, hI.t17, hI.t18, hI.t19, hI.t20, hI.t21, hI.t22, hI.t23, hI.t24, hI.t25, hI.t26, hI.t27, hI.bw⟩⟩)
    · rintro L a wx ⟨v, rfl, hI⟩ hL hdep hcl K hK
      have e12 := hI.t12 (hdep 12 (by decide))
      have e6 := hI.t6 (hdep 6 (by decide))
      rw [e12, e6]
      clear e12 e6
      cases g6 <;> first | (refine (if_neg (by exact fun h => Bool.noConfusion (show false = true from h))).mpr ?_; exact hK _ _ ⟨(upd (upd (upd v 44 _) 38 _) 45 _), rfl, ⟨hI.t0, hI.t1, hI.t2, hI.t3, hI.t4, hI.t5, fun _ => rfl, hI.t7, hI.t8, hI.t9, hI.t10, hI.t11, fun _ => rfl, fun _ => rfl, hI.t14, hI.t15, hI.t16, hI.t17, hI.t18, hI.t19, hI.t20, hI.t21, hI.t22, hI.t23, hI.t24, hI.t25, hI.t26, hI.t27, hI.bw⟩⟩) | (refine (if_pos rfl).mpr ?_; have cc := (hI.bw.cell (p := ⟨X4, 0, none⟩) hY4.lt).trans d40; go_simp; exact hK _ _ ⟨(upd (upd (upd v 44 _) 38 _) 45 _), rfl, ⟨hI.t0, hI.t1, hI.t2, hI.t3, hI.t4, hI.t5, fun _ => rfl, hI.t7, hI.t8, hI.t9, hI.t10, hI.t11, fun _ => rfl, fun _ => rfl, hI.t14, hI.t15, hI.t16, hI.t17, hI.t18, hI.t19, hI.t20, hI.t21, hI.t22, hI.t23, hI.t24, hI.t25, hI.t26, hI.t27, hI.bw⟩⟩)
    · rintro L a wx ⟨v, rfl, hI⟩ hL hdep hcl K hK
      have e11 := hI.t11 (hdep 11 (by decide))
      have e13 := hI.t13 (hdep 13 (by decide))
      have e6 := hI.t6 (hdep 6 (by decide))
      rw [e11, e13, e6]
      clear e11 e13 e6
      cases g6 <;> first | (refine (if_neg (by exact fun h => Bool.noConfusion (show false = true from h))).mpr ?_; exact hK _ _ ⟨(upd (upd (upd (upd v 43 _) 45 _) 38 _) 46 _), rfl, ⟨hI.t0, hI.t1, hI.t2, hI.t3, hI.t4, hI.t5, fun _ => rfl, hI.t7, hI.t8, hI.t9, hI.t10, fun _ => rfl, hI.t12, fun _ => rfl, fun _ => rfl, hI.t15, hI.t16, hI.t17, hI.t18, hI.t19, hI.t20, hI.t21, hI.t22, hI.t23, hI.t24, hI.t25, hI.t26, hI.t27, hI.bw⟩⟩) | (refine (if_pos rfl).mpr ?_; go_simp; exact hK _ _ ⟨(upd (upd (upd (upd v 43 _) 45 _) 38 _) 46 _), rfl, ⟨hI.t0, hI.t1, hI.t2, hI.t3, hI.t4, hI.t5, fun _ => rfl, hI.t7, hI.t8, hI.t9, hI.t10, fun _ => rfl, hI.t12, fun _ => rfl, fun _ => rfl, hI.t15, hI.t16, hI.t17, hI.t18, hI.t19, hI.t20, hI.t21, hI.t22, hI.t23, hI.t24, hI.t25, hI.t26, hI.t27, hI.bw⟩⟩)
    · rintro L a wx ⟨v, rfl, hI⟩ hL hdep hcl K hK
      have e14 := hI.t14 (hdep 14 (by decide))
      have e6 := hI.t6 (hdep 6 (by decide))
      rw [e14, e6]
      clear e14 e6
      cases g6 <;> first | (refine (if_neg (by exact fun h => Bool.noConfusion (show false = true from h))).mpr ?_; exact hK _ _ ⟨(upd (upd (upd v 46 _) 38 _) 47 _), rfl, ⟨hI.t0, hI.t1, hI.t2, hI.t3, hI.t4, hI.t5, fun _ => rfl, hI.t7, hI.t8, hI.t9, hI.t10, hI.t11, hI.t12, hI.t13, fun _ => rfl, fun _ => rfl, hI.t16, hI.t17, hI.t18, hI.t19, hI.t20, hI.t21, hI.t22, hI.t23, hI.t24, hI.t25, hI.t26, hI.t27, hI.bw⟩⟩) | (refine (if_pos rfl).mpr ?_; go_simp; exact hK _ _ ⟨(upd (upd (upd v 46 _) 38 _) 47 _), rfl, ⟨hI.t0, hI.t1, hI.t2, hI.t3, hI.t4, hI.t5, fun _ => rfl, hI.t7, hI.t8, hI.t9, hI.t10, hI.t11, hI.t12, hI.t13, fun _ => rfl, fun _ => rfl, hI.t16, hI.t17, hI.t18, hI.t19, hI.t20, hI.t21, hI.t22, hI.t23, hI.t24, hI.t25, hI.t26, hI.t27, hI.bw⟩⟩)
    · rintro L a wx ⟨v, rfl, hI⟩ hL hdep hcl K hK
      have e15 := hI.t15 (hdep 15 (by decide))
      rw [e15]
      clear e15
      cases g6 <;> cases tq <;> (have hgx := HG15.out; subst hgx) <;> first | (refine (if_neg (by exact fun h => Bool.noConfusion (show false = true from h))).mpr ?_; exact hK _ _ ⟨(upd (upd v 47 _) 48 _), rfl, ⟨hI.t0, hI.t1, hI.t2, hI.t3, hI.t4, hI.t5, hI.t6, hI.t7, hI.t8, hI.t9, hI.t10, hI.t11, hI.t12, hI.t13, hI.t14, fun _ => rfl, fun _ => rfl, hI.t17, hI.t18, hI.t19, hI.t20, hI.t21, hI.t22, hI.t23, hI.t24, hI.t25, hI.t26, hI.t27, hI.bw⟩⟩) | (refine (if_pos rfl).mpr ?_; go_simp; exact hK _ _ ⟨(upd (upd v 47 _) 48 _), rfl, ⟨hI.t0, hI.t1, hI.t2, hI.t3, hI.t4, hI.t5, hI.t6, hI.t7, hI.t8, hI.t9, hI.t10, hI.t11, hI.t12, hI.t13, hI.t14, fun _ => rfl, fun _ => rfl, hI.t17, hI.t18, hI.t19, hI.t20, hI.t21, hI.t22, hI.t23, hI.t24, hI.t25, hI.t26, hI.t27, hI.bw⟩⟩)
    · rintro L a wx ⟨v, rfl, hI⟩ hL hdep hcl K hK
      have e16 := hI.t16 (hdep 16 (by decide))
      have e15 := hI.t15 (hdep 15 (by decide))
      rw [e16, e15]
      clear e16 e15
      cases g6 <;> cases tq <;> (have hgx := HG15.out; subst hgx) <;> first | (refine (if_neg (by exact fun h => Bool.noConfusion (show false = true from h))).mpr ?_; exact hK _ _ ⟨(upd (upd (upd v 48 _) 47 _) 49 _), rfl, ⟨hI.t0, hI.t1, hI.t2, hI.t3, hI.t4, hI.t5, hI.t6, hI.t7, hI.t8, hI.t9, hI.t10, hI.t11, hI.t12, hI.t13, hI.t14, fun _ => rfl, fun _ => rfl, fun _ => rfl, hI.t18, hI.t19, hI.t20, hI.t21, hI.t22, hI.t23, hI.t24, hI.t25, hI.t26, hI.t27, hI.bw⟩⟩) | (refine (if_pos rfl).mpr ?_; have cc := (hI.bw.cell (p := ⟨X3, 1, none⟩) hY3.lt).trans d31; go_simp; exact hK _ _ ⟨(upd (upd (upd v 48 _) 47 _) 49 _), rfl, ⟨hI.t0, hI.t1, hI.t2, hI.t3, hI.t4, hI.t5, hI.t6, hI.t7, hI.t8, hI.t9, hI.t10, hI.t11, hI.t12, hI.t13, hI.t14, fun _ => rfl, fun _ => rfl, fun _ => rfl, hI.t18, hI.t19, hI.t20, hI.t21, hI.t22, hI.t23, hI.t24, hI.t25, hI.t26, hI.t27, hI.bw⟩⟩)
    · rintro L a wx ⟨v, rfl, hI⟩ hL hdep hcl K hK
      have e17 := hI.t17 (hdep 17 (by decide))
      have e15 := hI.t15 (hdep 15 (by decide))
      rw [e17, e15]
      clear e17 e15
      cases g6 <;> cases tq <;> (have hgx := HG15.out; subst hgx) <;> first | (refine (if_neg (by exact fun h => Bool.noConfusion (show false = true from h))).mpr ?_; exact hK _ _ ⟨(upd (upd (upd v 49 _) 47 _) 50 _), rfl, ⟨hI.t0, hI.t1, hI.t2, hI.t3, hI.t4, hI.t5, hI.t6, hI.t7, hI.t8, hI.t9, hI.t10, hI.t11, hI.t12, hI.t13, hI.t14, fun _ => rfl, hI.t16, fun _ => rfl, fun _ => rfl, hI.t19, hI.t20, hI.t21, hI.t22, hI.t23, hI.t24, hI.t25, hI.t26, hI.t27, hI.bw⟩⟩) | (refine (if_pos rfl).mpr ?_; obtain ⟨hn, b, off, rfl, -⟩ := HCA.out (HE15.out rfl).1; go_simp; exact hK _ _ ⟨(upd (upd (upd v 49 _) 47 _) 50 _), rfl, ⟨hI.t0, hI.t1, hI.t2, hI.t3, hI.t4, hI.t5, hI.t6, hI.t7, hI.t8, hI.t9, hI.t10, hI.t11, hI.t12, hI.t13, hI.t14, fun _ => rfl, hI.t16, fun _ => rfl, fun _ => rfl, hI.t19, hI.t20, hI.t21, hI.t22, hI.t23, hI.t24, hI.t25, hI.t26, hI.t27, hI.bw⟩⟩)
    · rintro L a wx ⟨v, rfl, hI⟩ hL hdep hcl K hK
      have e18 := hI.t18 (hdep 18 (by decide))
      have e15 := hI.t15 (hdep 15 (by decide))
      rw [e18, e15]
      clear e18 e15
      cases g6 <;> cases tq <;> (have hgx := HG15.out; subst hgx) <;> first | (refine (if_neg (by exact fun h => Bool.noConfusion (show false = true from h))).mpr ?_; exact hK _ _ ⟨(upd (upd (upd v 50 _) 47 _) 51 _), rfl, ⟨hI.t0, hI.t1, hI.t2, hI.t3, hI.t4, hI.t5, hI.t6, hI.t7, hI.t8, hI.t9, hI.t10, hI.t11, hI.t12, hI.t13, hI.t14, fun _ => rfl, hI.t16, hI.t17, fun _ => rfl, fun _ => rfl, hI.t20, hI.t21, hI.t22, hI.t23, hI.t24, hI.t25, hI.t26, hI.t27, hI.bw⟩⟩) | (refine (if_pos rfl).mpr ?_; obtain ⟨hn, b, off, rfl, hb, hcl, -⟩ := HCA.out (HE15.out rfl).1; have cc := ((hb03.trans (hI.bw.mono hb03.size)).cell (p := ⟨b, off, none⟩) hb).trans hcl; go_simp; exact hK _ _ ⟨(upd (upd (upd v 50 _) 47 _) 51 _), rfl, ⟨hI.t0, hI.t1, hI.t2, hI.t3, hI.t4, hI.t5, hI.t6, hI.t7, hI.t8, hI.t9, hI.t10, hI.t11, hI.t12, hI.t13, hI.t14, fun _ => rfl, hI.t16, hI.t17, fun _ => rfl, fun _ => rfl, hI.t20, hI.t21, hI.t22, hI.t23, hI.t24, hI.t25, hI.t26, hI.t27, hI.bw⟩⟩)
    · rintro L a wx ⟨v, rfl, hI⟩ hL hdep hcl K hK
      have e15 := hI.t15 (hdep 15 (by decide))
      rw [e15]
      clear e15
      cases g6 <;> cases tq <;> (have hgx := HG15.out; subst hgx) <;> first | (refine (if_neg (by exact fun h => Bool.noConfusion (show false = true from h))).mpr ?_; exact hK _ _ ⟨(upd (upd v 47 _) 52 _), rfl, ⟨hI.t0, hI.t1, hI.t2, hI.t3, hI.t4, hI.t5, hI.t6, hI.t7, hI.t8, hI.t9, hI.t10, hI.t11, hI.t12, hI.t13, hI.t14, fun _ => rfl, hI.t16, hI.t17, hI.t18, hI.t19, fun _ => rfl, hI.t21, hI.t22, hI.t23, hI.t24, hI.t25, hI.t26, hI.t27, hI.bw⟩⟩) | (refine (if_pos rfl).mpr ?_; go_simp; exact hK _ _ ⟨(upd (upd v 47 _) 52 _), rfl, ⟨hI.t0, hI.t1, hI.t2, hI.t3, hI.t4, hI.t5, hI.t6, hI.t7, hI.t8, hI.t9, hI.t10, hI.t11, hI.t12, hI.t13, hI.t14, fun _ => rfl, hI.t16, hI.t17, hI.t18, hI.t19, fun _ => rfl, hI.t21, hI.t22, hI.t23, hI.t24, hI.t25, hI.t26, hI.t27, hI.bw⟩⟩)
    · rintro L a wx ⟨v, rfl, hI⟩ hL hdep hcl K hK
      have e20 := hI.t20 (hdep 20 (by decide))
      have e15 := hI.t15 (hdep 15 (by decide))
      rw [e20, e15]
      clear e20 e15
      cases g6 <;> cases tq <;> (have hgx := HG15.out; subst hgx) <;> first | (refine (if_neg (by exact fun h => Bool.noConfusion (show false = true from h))).mpr ?_; exact hK _ _ ⟨(upd (upd (upd v 52 _) 47 _) 53 _), rfl, ⟨hI.t0, hI.t1, hI.t2, hI.t3, hI.t4, hI.t5, hI.t6, hI.t7, hI.t8, hI.t9, hI.t10, hI.t11, hI.t12, hI.t13, hI.t14, fun _ => rfl, hI.t16, hI.t17, hI.t18, hI.t19, fun _ => rfl, fun _ => rfl, hI.t22, hI.t23, hI.t24, hI.t25, hI.t26, hI.t27, hI.bw⟩⟩) | (refine (if_pos rfl).mpr ?_; have cc := (hI.bw.cell (p := ⟨X4, 1, none⟩) hY4.lt).trans d41; go_simp; exact hK _ _ ⟨(upd (upd (upd v 52 _) 47 _) 53 _), rfl, ⟨hI.t0, hI.t1, hI.t2, hI.t3, hI.t4, hI.t5, hI.t6, hI.t7, hI.t8, hI.t9, hI.t10, hI.t11, hI.t12, hI.t13, hI.t14, fun _ => rfl, hI.t16, hI.t17, hI.t18, hI.t19, fun _ => rfl, fun _ => rfl, hI.t22, hI.t23, hI.t24, hI.t25, hI.t26, hI.t27, hI.bw⟩⟩)
    · rintro L a wx ⟨v, rfl, hI⟩ hL hdep hcl K hK
      have e21 := hI.t21 (hdep 21 (by decide))
      have e15 := hI.t15 (hdep 15 (by decide))
      rw [e21, e15]
      clear e21 e15
      cases g6 <;> cases tq <;> (have hgx := HG15.out; subst hgx) <;> first | (refine (if_neg (by exact fun h => Bool.noConfusion (show false = true from h))).mpr ?_; exact hK _ _ ⟨(upd (upd (upd v 53 _) 47 _) 54 _), rfl, ⟨hI.t0, hI.t1, hI.t2, hI.t3, hI.t4, hI.t5, hI.t6, hI.t7, hI.t8, hI.t9, hI.t10, hI.t11, hI.t12, hI.t13, hI.t14, fun _ => rfl, hI.t16, hI.t17, hI.t18, hI.t19, hI.t20, fun _ => rfl, fun _ => rfl, hI.t23, hI.t24, hI.t25, hI.t26, hI.t27, hI.bw⟩⟩) | (refine (if_pos rfl).mpr ?_; obtain ⟨hn, b, off, rfl, -⟩ := HCB.out (HE15.out rfl).2; go_simp; exact hK _ _ ⟨(upd (upd (upd v 53 _) 47 _) 54 _), rfl, ⟨hI.t0, hI.t1, hI.t2, hI.t3, hI.t4, hI.t5, hI.t6, hI.t7, hI.t8, hI.t9, hI.t10, hI.t11, hI.t12, hI.t13, hI.t14, fun _ => rfl, hI.t16, hI.t17, hI.t18, hI.t19, hI.t20, fun _ => rfl, fun _ => rfl, hI.t23, hI.t24, hI.t25, hI.t26, hI.t27, hI.bw⟩⟩)
    · rintro L a wx ⟨v, rfl, hI⟩ hL hdep hcl K hK
      have e22 := hI.t22 (hdep 22 (by decide))
      have e15 := hI.t15 (hdep 15 (by decide))
      rw [e22, e15]
      clear e22 e15
      cases g6 <;> cases tq <;> (have hgx := HG15.out; subst hgx) <;> first | (refine (if_neg (by exact fun h => Bool.noConfusion (show false = true from h))).mpr ?_; exact hK _ _ ⟨(upd (upd (upd v 54 _) 47 _) 55 _), rfl, ⟨hI.t0, hI.t1, hI.t2, hI.t3, hI.t4, hI.t5, hI.t6, hI.t7, hI.t8, hI.t9, hI.t10, hI.t11, hI.t12, hI.t13, hI.t14, fun _ => rfl, hI.t16, hI.t17, hI.t18, hI.t19, hI.t20, hI.t21, fun _ => rfl, fun _ => rfl, hI.t24, hI.t25, hI.t26, hI.t27, hI.bw⟩⟩) | (refine (if_pos rfl).mpr ?_; obtain ⟨hn, b, off, rfl, hb, hcl, -⟩ := HCB.out (HE15.out rfl).2; have cc := ((hb03.trans (hI.bw.mono hb03.size)).cell (p := ⟨b, off, none⟩) hb).trans hcl; go_simp; exact hK _ _ ⟨(upd (upd (upd v 54 _) 47 _) 55 _), rfl, ⟨hI.t0, hI.t1, hI.t2, hI.t3, hI.t4, hI.t5, hI.t6, hI.t7, hI.t8, hI.t9, hI.t10, hI.t11, hI.t12, hI.t13, hI.t14, fun _ => rfl, hI.t16, hI.t17, hI.t18, hI.t19, hI.t20, hI.t21, fun _ => rfl, fun _ => rfl, hI.t24, hI.t25, hI.t26, hI.t27, hI.bw⟩⟩)
    · rintro L a wx ⟨v, rfl, hI⟩ hL hdep hcl K hK
      have e19 := hI.t19 (hdep 19 (by decide))
      have e23 := hI.t23 (hdep 23 (by decide))
      have e15 := hI.t15 (hdep 15 (by decide))
      rw [e19, e23, e15]
      clear e19 e23 e15
      cases g6 <;> cases tq <;> (have hgx := HG15.out; subst hgx) <;> first | (refine (if_neg (by exact fun h => Bool.noConfusion (show false = true from h))).mpr ?_; exact hK _ _ ⟨(upd (upd (upd (upd v 51 _) 55 _) 47 _) 56 _), rfl, ⟨hI.t0, hI.t1, hI.t2, hI.t3, hI.t4, hI.t5, hI.t6, hI.t7, hI.t8, hI.t9, hI.t10, hI.t11, hI.t12, hI.t13, hI.t14, fun _ => rfl, hI.t16, hI.t17, hI.t18, fun _ => rfl, hI.t20, hI.t21, hI.t22, fun _ => rfl, fun _ => rfl, hI.t25, hI.t26, hI.t27, hI.bw⟩⟩) | (refine (if_pos rfl).mpr ?_; obtain ⟨-, b, off, rfl, -, -, r1⟩ := HCA.out (HE15.out rfl).1; obtain ⟨-, b', off', rfl, -, -, r2⟩ := HCB.out (HE15.out rfl).2; have hbq := hb03.trans (hI.bw.mono hb03.size); go_simp; refine (Equal_any _ _ _ _ _ _ _ _ wx (r1.to hbq) (r2.to hbq)).mono ?_; rw [hcqd.out]; rintro e w' ⟨rfl, rfl⟩; exact hK _ _ ⟨(upd (upd (upd (upd v 51 _) 55 _) 47 _) 56 _), rfl, ⟨hI.t0, hI.t1, hI.t2, hI.t3, hI.t4, hI.t5, hI.t6, hI.t7, hI.t8, hI.t9, hI.t10, hI.t11, hI.t12, hI.t13, hI.t14, fun _ => rfl, hI.t16, hI.t17, hI.t18, fun _ => rfl, hI.t20, hI.t21, hI.t22, fun _ => rfl, fun _ => rfl, hI.t25, hI.t26, hI.t27, hI.bw⟩⟩)
    · rintro L a wx ⟨v, rfl, hI⟩ hL hdep hcl K hK
      have e15 := hI.t15 (hdep 15 (by decide))
      have e24 := hI.t24 (hdep 24 (by decide))
      have e6 := hI.t6 (hdep 6 (by decide))
      rw [e15, e24, e6]
      clear e15 e24 e6
      cases g6 <;> cases tq <;> (have hgx := HG15.out; subst hgx) <;> first | (refine (if_neg (by exact fun h => Bool.noConfusion (show false = true from h))).mpr ?_; exact hK _ _ ⟨(upd (upd (upd (upd v 47 _) 56 _) 38 _) 57 _), rfl, ⟨hI.t0, hI.t1, hI.t2, hI.t3, hI.t4, hI.t5, fun _ => rfl, hI.t7, hI.t8, hI.t9, hI.t10, hI.t11, hI.t12, hI.t13, hI.t14, fun _ => rfl, hI.t16, hI.t17, hI.t18, hI.t19, hI.t20, hI.t21, hI.t22, hI.t23, fun _ => rfl, fun _ => rfl, hI.t26, hI.t27, hI.bw⟩⟩) | (refine (if_pos rfl).mpr ?_; go_simp; exact hK _ _ ⟨(upd (upd (upd (upd v 47 _) 56 _) 38 _) 57 _), rfl, ⟨hI.t0, hI.t1, hI.t2, hI.t3, hI.t4, hI.t5, fun _ => rfl, hI.t7, hI.t8, hI.t9, hI.t10, hI.t11, hI.t12, hI.t13, hI.t14, fun _ => rfl, hI.t16, hI.t17, hI.t18, hI.t19, hI.t20, hI.t21, hI.t22, hI.t23, fun _ => rfl, fun _ => rfl, hI.t26, hI.t27, hI.bw⟩⟩)
    · rintro L a wx ⟨v, rfl, hI⟩ hL hdep hcl K hK
      have e9 := hI.t9 (hdep 9 (by decide))
      have e25 := hI.t25 (hdep 25 (by decide))
      have e6 := hI.t6 (hdep 6 (by decide))
      rw [e9, e25, e6]
      clear e9 e25 e6
      cases g6 <;> first | (refine (if_neg (by exact fun h => Bool.noConfusion (show false = true from h))).mpr ?_; exact hK _ _ ⟨(upd (upd (upd (upd v 41 _) 57 _) 38 _) 58 _), rfl, ⟨hI.t0, hI.t1, hI.t2, hI.t3, hI.t4, hI.t5, fun _ => rfl, hI.t7, hI.t8, fun _ => rfl, hI.t10, hI.t11, hI.t12, hI.t13, hI.t14, hI.t15, hI.t16, hI.t17, hI.t18, hI.t19, hI.t20, hI.t21, hI.t22, hI.t23, hI.t24, fun _ => rfl, fun _ => rfl, hI.t27, hI.bw⟩⟩) | (refine (if_pos rfl).mpr ?_; obtain rfl := hqv.out (HE6.out rfl).1 (HE6.out rfl).2; cases tq <;> cases cq <;> (go_simp; exact hK _ _ ⟨(upd (upd (upd (upd v 41 _) 57 _) 38 _) 58 _), rfl, ⟨hI.t0, hI.t1, hI.t2, hI.t3, hI.t4, hI.t5, fun _ => rfl, hI.t7, hI.t8, fun _ => rfl, hI.t10, hI.t11, hI.t12, hI.t13, hI.t14, hI.t15, hI.t16, hI.t17, hI.t18, hI.t19, hI.t20, hI.t21, hI.t22, hI.t23, hI.t24, fun _ => rfl, fun _ => rfl, hI.t27, hI.bw⟩⟩))
    · rintro L a wx ⟨v, rfl, hI⟩ hL hdep hcl K hK
      have e6 := hI.t6 (hdep 6 (by decide))
      have e26 := hI.t26 (hdep 26 (by decide))
      rw [e6, e26]
      clear e6 e26
      cases g6 <;> (go_simp; exact hK _ _ ⟨(upd (upd (upd v 38 _) 58 _) 59 _), rfl, ⟨hI.t0, hI.t1, hI.t2, hI.t3, hI.t4, hI.t5, fun _ => rfl, hI.t7, hI.t8, hI.t9, hI.t10, hI.t11, hI.t12, hI.t13, hI.t14, hI.t15, hI.t16, hI.t17, hI.t18, hI.t19, hI.t20, hI.t21, hI.t22, hI.t23, hI.t24, hI.t25, fun _ => rfl, fun _ => rfl, hI.bw⟩⟩)
    · rintro a wx ⟨u4, rfl, hI⟩
      have eEnd := hI.t27 rfl
      rw [eEnd]
      clear eEnd
      have hbw4 := hI.bw
      clear hI
      have hZ3 := hY3.kept hbw4
      have hZ5 := hY5.kept hbw4
      have hZ6 := hY6.kept hbw4
      have c30 := hZ3.cell 0
      have c31 := hZ3.cell 1
      simp only [List.getElem?_cons_zero, List.getElem?_cons_succ] at c30 c31
      have hb04 := hb03.trans (hbw4.mono hb03.size)
      go_wp2_with fail
      refine (hL3.out _ hb04).mono ?_
      rintro e w5 ⟨vs, rfl, hos, hb5⟩
      obtain ⟨as_, ns_, cs_, rfl, hrs⟩ := hos.reads
      have hZ5 := hZ5.kept hb5
      have hZ6 := hZ6.kept hb5
      have hb05 := hb04.trans (hb5.mono hb04.size)
      have hrs : Rd w5 as_ ns_ cs_ LA := hrs.toRd
      clear c30 c31 hZ3 hos
      go_wp2_with fail
      refine wp_region_steps [[], [0], [], [2, 1], [1, 3], [3]] (by kernel_rfl) (by kernel_rfl) (fun L a wx => ∃ v65 v66 v67 v68 v12 v13, a = ⟨#[.agg cs.toArray, .pointer (some ⟨B, 0, none⟩), .bool false, .pointer (some ⟨X3, 0, none⟩), .pointer (some ⟨X4, 0, none⟩), .pointer (some ⟨X5, 0, none⟩), .pointer (some ⟨X6, 0, none⟩), .slice ax nx cx, .int .i64 (bif e0 then 1 else 0), .slice ay ny cy, .int .i64 (bif f0 then 1 else 0), .slice as_ ns_ cs_, v12, v13, v14, v15, v16, v17, v18, v19, v20, v21, .tuple #[.slice ax nx cx, .int .i64 (bif e0 then 1 else 0)], .agg #[.int .u64 (ta : Int), .slice aa na ca], .tuple #[.slice ax nx cx, .int .i64 (bif e0 then 1 else 0)], .slice ax nx cx, .int .i64 (bif e0 then 1 else 0), .tuple #[.slice ay ny cy, .int .i64 (bif f0 then 1 else 0)], .agg #[.int .u64 (tb : Int), .slice ab nb cb], .tuple #[.slice ay ny cy, .int .i64 (bif f0 then 1 else 0)], .slice ay ny cy, .int .i64 (bif f0 then 1 else 0), u4 32, u4 33, u4 34, u4 35, u4 36, u4 37, u4 38, u4 39, u4 40, u4 41, u4 42, u4 43, u4 44, u4 45, u4 46, u4 47, u4 48, u4 49, u4 50, u4 51, u4 52, u4 53, u4 54, u4 55, u4 56, u4 57, u4 58, .bool false, .tuple #[.slice as_ ns_ cs_, .int .i64 (bif e0 then 1 else 0)], .agg #[.int .u64 (ta : Int), .slice aa na ca], .tuple #[.slice as_ ns_ cs_, .int .i64 (bif e0 then 1 else 0)], .slice as_ ns_ cs_, .int .i64 (bif e0 then 1 else 0), v65, v66, v67, v68, undef, undef, undef, undef, undef, undef, undef, undef, undef, undef, undef, undef, undef, undef, undef, undef, undef, undef, undef, undef, undef, undef, undef, undef, undef, undef, undef, undef, undef, undef, undef, undef, undef, undef, undef, undef, undef, undef, undef, undef, undef], []⟩ ∧ InvOwn7 sz tm sz' tm' root root' dH dK w5 L v65 v66 v67 v68 v12 v13 wx) ?_ ⟨?_, ?_, ?_, ?_, ?_, ?_, trivial⟩ ?_
      · refine ⟨_, _, _, _, _, _, rfl, ⟨?_, ?_, ?_, ?_, ?_, ?_, below_drew (Below.refl _ _)⟩⟩ <;> (intro h; exact absurd h (by decide))
      · rintro L a wx ⟨v65, v66, v67, v68, v12, v13, rfl, hI⟩ hL hdep hcl K hK
        refine ow_load 55 _ rfl X5 0 rfl 55 dH dH (hZ5.to hI.bw hZ5.lt) (fun j v h => by rw [Nat.zero_add]; exact h) _ Try.underlying55 rfl hzH.out ?_
        exact hK _ _ ⟨_, v66, v67, v68, v12, v13, rfl, ⟨fun _ => rfl, hI.t1, hI.t2, hI.t3, hI.t4, hI.t5, hI.bw⟩⟩
      · rintro L a wx ⟨v65, v66, v67, v68, v12, v13, rfl, hI⟩ hL hdep hcl K hK
        obtain rfl := hI.t0 (hdep 0 (by decide))
        go_simp
        refine (hS1.out wx).mono ?_
        rintro e w' ⟨v, rfl, ho, hb⟩
        obtain ⟨a, n, c, rfl, hr⟩ := ho.reads
        obtain rfl : n = 50 := hr.len.symm.trans hn1.out
        exact hK _ _ ⟨_, _, v67, v68, v12, v13, rfl, ⟨hI.t0, fun _ => ⟨a, c, rfl, hr.toRd⟩, hI.t2, fun h => let ⟨a, c, e, h⟩ := hI.t3 h; ⟨a, c, e, h.to hb⟩, fun h => let ⟨a, c, e, h⟩ := hI.t4 h; ⟨a, c, e, h.to hb⟩, fun h => let ⟨a, c, e, h⟩ := hI.t5 h; ⟨a, c, e, h.to hb⟩, (hI.bw).trans (hb.mono hI.bw.size)⟩⟩
      · rintro L a wx ⟨v65, v66, v67, v68, v12, v13, rfl, hI⟩ hL hdep hcl K hK
        refine ow_load 55 _ rfl X6 0 rfl 55 dK dK (hZ6.to hI.bw hZ6.lt) (fun j v h => by rw [Nat.zero_add]; exact h) _ Try.underlying55 rfl hzK.out ?_
        exact hK _ _ ⟨v65, v66, _, v68, v12, v13, rfl, ⟨hI.t0, hI.t1, fun _ => rfl, hI.t3, hI.t4, hI.t5, hI.bw⟩⟩
      · rintro L a wx ⟨v65, v66, v67, v68, v12, v13, rfl, hI⟩ hL hdep hcl K hK
        obtain rfl := hI.t2 (hdep 2 (by decide))
        go_simp
        refine (hS2.out wx).mono ?_
        rintro e w' ⟨v, rfl, ho, hb⟩
        obtain ⟨a, n, c, rfl, hr⟩ := ho.reads
        obtain rfl : n = 50 := hr.len.symm.trans hn2.out
        exact hK _ _ ⟨v65, v66, _, _, v12, v13, rfl, ⟨hI.t0, fun h => let ⟨a, c, e, h⟩ := hI.t1 h; ⟨a, c, e, h.to hb⟩, hI.t2, fun _ => ⟨a, c, rfl, hr.toRd⟩, fun h => let ⟨a, c, e, h⟩ := hI.t4 h; ⟨a, c, e, h.to hb⟩, fun h => let ⟨a, c, e, h⟩ := hI.t5 h; ⟨a, c, e, h.to hb⟩, (hI.bw).trans (hb.mono hI.bw.size)⟩⟩
      · rintro L a wx ⟨v65, v66, v67, v68, v12, v13, rfl, hI⟩ hL hdep hcl K hK
        obtain ⟨a, c, rfl, h⟩ := hI.t1 (hdep 1 (by decide))
        go_simp
        exact hK _ _ ⟨v65, _, v67, v68, _, v13, rfl, ⟨hI.t0, fun _ => ⟨a, c, rfl, h⟩, hI.t2, hI.t3, fun _ => ⟨a, c, rfl, h⟩, hI.t5, hI.bw⟩⟩
      · rintro L a wx ⟨v65, v66, v67, v68, v12, v13, rfl, hI⟩ hL hdep hcl K hK
        obtain ⟨a, c, rfl, h⟩ := hI.t3 (hdep 3 (by decide))
        go_simp
        exact hK _ _ ⟨v65, v66, v67, _, v12, _, rfl, ⟨hI.t0, hI.t1, hI.t2, fun _ => ⟨a, c, rfl, h⟩, hI.t4, fun _ => ⟨a, c, rfl, h⟩, hI.bw⟩⟩
      · rintro a w6 ⟨v65, v66, v67, v68, v12, v13, rfl, hI⟩
        obtain ⟨am, cm, rfl, hrm⟩ := hI.t4 rfl
        obtain ⟨an, cn, rfl, hrn⟩ := hI.t5 rfl
        have hbw7 := hI.bw
        clear hI
        have hW5 := hZ5.kept hbw7
        have hW6 := hZ6.kept hbw7
        have g50 := (hW5.cell 0).trans hH0
        have g51 := (hW5.cell 1).trans hH1
        have g60 := (hW6.cell 0).trans hK0
        have g61 := (hW6.cell 1).trans hK1
        have hrs := Lib.hid (hrs.to hbw7)
        have hrm := Lib.hid hrm
        have hrn := Lib.hid hrn
        have hb07 := hb05.trans (hbw7.mono hb05.size)
        go_wp2_with fail
        refine wp_region_steps [[], [0], [1], [2, 1], [3, 1], [4], [4], [5, 6, 4], [7, 4], [4, 8, 1], [1, 9], [10], [11], [11], [12, 13, 11], [11], [15, 11], [11], [17, 11], [16, 18, 11], [19, 14, 11], [20], [21, 20], [20], [23, 20], [22, 24, 20], [20, 25, 11], [26, 20, 11], [27], [28, 27], [27], [30, 27], [29, 31, 27], [27, 32, 11], [14, 33, 11], [11, 34], [35, 27], [36], [37, 36], [38, 36], [36, 39], [40]] (by kernel_rfl) (by kernel_rfl) (fun L a wx => ∃ v : Nat → Value, a = ⟨#[.agg cs.toArray, .pointer (some ⟨B, 0, none⟩), v 2, .pointer (some ⟨X3, 0, none⟩), .pointer (some ⟨X4, 0, none⟩), .pointer (some ⟨X5, 0, none⟩), .pointer (some ⟨X6, 0, none⟩), .slice ax nx cx, .int .i64 (bif e0 then 1 else 0), .slice ay ny cy, .int .i64 (bif f0 then 1 else 0), .slice as_ ns_ cs_, .slice am 50 cm, .slice an 50 cn, v14, v15, v16, v17, v18, v19, v20, v21, .tuple #[.slice ax nx cx, .int .i64 (bif e0 then 1 else 0)], .agg #[.int .u64 (ta : Int), .slice aa na ca], .tuple #[.slice ax nx cx, .int .i64 (bif e0 then 1 else 0)], .slice ax nx cx, .int .i64 (bif e0 then 1 else 0), .tuple #[.slice ay ny cy, .int .i64 (bif f0 then 1 else 0)], .agg #[.int .u64 (tb : Int), .slice ab nb cb], .tuple #[.slice ay ny cy, .int .i64 (bif f0 then 1 else 0)], .slice ay ny cy, .int .i64 (bif f0 then 1 else 0), u4 32, u4 33, u4 34, u4 35, u4 36, u4 37, u4 38, u4 39, u4 40, u4 41, u4 42, u4 43, u4 44, u4 45, u4 46, u4 47, u4 48, u4 49, u4 50, u4 51, u4 52, u4 53, u4 54, u4 55, u4 56, u4 57, u4 58, .bool false, .tuple #[.slice as_ ns_ cs_, .int .i64 (bif e0 then 1 else 0)], .agg #[.int .u64 (ta : Int), .slice aa na ca], .tuple #[.slice as_ ns_ cs_, .int .i64 (bif e0 then 1 else 0)], .slice as_ ns_ cs_, .int .i64 (bif e0 then 1 else 0), v65, v66, v67, v68, v 69, v 70, v 71, v 72, v 73, v 74, v 75, v 76, v 77, v 78, v 79, v 80, v 81, v 82, v 83, v 84, v 85, v 86, v 87, v 88, v 89, v 90, v 91, v 92, v 93, v 94, v 95, v 96, v 97, v 98, v 99, v 100, v 101, v 102, v 103, v 104, v 105, v 106, v 107, v 108, v 109], []⟩ ∧ InvOwn8 sz tm sz' tm' root root' e0 b1 b2 r3 g12 g3 X5 X6 as_ am an ns_ cs_ cm cn w6 L v wx) ?_ ⟨?_, ?_, ?_, ?_, ?_, ?_, ?_, ?_, ?_, ?_, ?_, ?_, ?_, ?_, ?_, ?_, ?_, ?_, ?_, ?_, ?_, ?_, ?_, ?_, ?_, ?_, ?_, ?_, ?_, ?_, ?_, ?_, ?_, ?_, ?_, ?_, ?_, ?_, ?_, ?_, ?_, ?_, trivial⟩ ?_
        · refine ⟨upd (fun _ => undef) 2 (.bool false), rfl, ⟨?_, ?_, ?_, ?_, ?_, ?_, ?_, ?_, ?_, ?_, ?_, ?_, ?_, ?_, ?_, ?_, ?_, ?_, ?_, ?_, ?_, ?_, ?_, ?_, ?_, ?_, ?_, ?_, ?_, ?_, ?_, ?_, ?_, ?_, ?_, ?_, ?_, ?_, ?_, ?_, ?_, ?_, below_drew (Below.refl _ _)⟩⟩ <;> (intro h; exact absurd h (by decide))
        · rintro L a wx ⟨v, rfl, hI⟩ hL hdep hcl K hK
          go_simp
          refine (awake_any wx).mono ?_
          rintro e w' ⟨rfl, hb⟩
          exact hK _ _ ⟨(upd v 69 (.bool true)), rfl, ⟨fun _ => rfl, hI.t1, hI.t2, hI.t3, hI.t4, hI.t5, hI.t6, hI.t7, hI.t8, hI.t9, hI.t10, hI.t11, hI.t12, hI.t13, hI.t14, hI.t15, hI.t16, hI.t17, hI.t18, hI.t19, hI.t20, hI.t21, hI.t22, hI.t23, hI.t24, hI.t25, hI.t26, hI.t27, hI.t28, hI.t29, hI.t30, hI.t31, hI.t32, hI.t33, hI.t34, hI.t35, hI.t36, hI.t37, hI.t38, hI.t39, hI.t40, hI.t41, (hI.bw).trans (hb.mono hI.bw.size)⟩⟩
        · rintro L a wx ⟨v, rfl, hI⟩ hL hdep hcl K hK
          have e0 := hI.t0 (hdep 0 (by decide))
          rw [e0]
          go_simp
          exact hK _ _ ⟨(upd (upd v 69 (.bool true)) 70 (.bool true)), rfl, ⟨fun _ => rfl, fun _ => rfl, hI.t2, hI.t3, hI.t4, hI.t5, hI.t6, hI.t7, hI.t8, hI.t9, hI.t10, hI.t11, hI.t12, hI.t13, hI.t14, hI.t15, hI.t16, hI.t17, hI.t18, hI.t19, hI.t20, hI.t21, hI.t22, hI.t23, hI.t24, hI.t25, hI.t26, hI.t27, hI.t28, hI.t29, hI.t30, hI.t31, hI.t32, hI.t33, hI.t34, hI.t35, hI.t36, hI.t37, hI.t38, hI.t39, hI.t40, hI.t41, hI.bw⟩⟩
        · rintro L a wx ⟨v, rfl, hI⟩ hL hdep hcl K hK
          have e1 := hI.t1 (hdep 1 (by decide))
          rw [e1]
          refine (if_pos rfl).mpr ?_
          go_simp
          exact hK _ _ ⟨(upd (upd v 70 (.bool true)) 71 (.int .i64 (bif e0 then 1 else 0))), rfl, ⟨hI.t0, fun _ => rfl, fun _ => rfl, hI.t3, hI.t4, hI.t5, hI.t6, hI.t7, hI.t8, hI.t9, hI.t10, hI.t11, hI.t12, hI.t13, hI.t14, hI.t15, hI.t16, hI.t17, hI.t18, hI.t19, hI.t20, hI.t21, hI.t22, hI.t23, hI.t24, hI.t25, hI.t26, hI.t27, hI.t28, hI.t29, hI.t30, hI.t31, hI.t32, hI.t33, hI.t34, hI.t35, hI.t36, hI.t37, hI.t38, hI.t39, hI.t40, hI.t41, hI.bw⟩⟩
        · rintro L a wx ⟨v, rfl, hI⟩ hL hdep hcl K hK
          have e2 := hI.t2 (hdep 2 (by decide))
          have e1 := hI.t1 (hdep 1 (by decide))
          rw [e2, e1]
          clear e2 e1
          cases e0 <;> first | (refine (if_neg (by exact fun h => Bool.noConfusion (show false = true from h))).mpr ?_; exact hK _ _ ⟨(upd (upd (upd v 71 _) 70 _) 72 _), rfl, ⟨hI.t0, fun _ => rfl, fun _ => rfl, fun _ => rfl, hI.t4, hI.t5, hI.t6, hI.t7, hI.t8, hI.t9, hI.t10, hI.t11, hI.t12, hI.t13, hI.t14, hI.t15, hI.t16, hI.t17, hI.t18, hI.t19, hI.t20, hI.t21, hI.t22, hI.t23, hI.t24, hI.t25, hI.t26, hI.t27, hI.t28, hI.t29, hI.t30, hI.t31, hI.t32, hI.t33, hI.t34, hI.t35, hI.t36, hI.t37, hI.t38, hI.t39, hI.t40, hI.t41, hI.bw⟩⟩) | (refine (if_pos rfl).mpr ?_; go_simp; exact hK _ _ ⟨(upd (upd (upd v 71 _) 70 _) 72 _), rfl, ⟨hI.t0, fun _ => rfl, fun _ => rfl, fun _ => rfl, hI.t4, hI.t5, hI.t6, hI.t7, hI.t8, hI.t9, hI.t10, hI.t11, hI.t12, hI.t13, hI.t14, hI.t15, hI.t16, hI.t17, hI.t18, hI.t19, hI.t20, hI.t21, hI.t22, hI.t23, hI.t24, hI.t25, hI.t26, hI.t27, hI.t28, hI.t29, hI.t30, hI.t31, hI.t32, hI.t33, hI.t34, hI.t35, hI.t36, hI.t37, hI.t38, hI.t39, hI.t40, hI.t41, hI.bw⟩⟩)
        · rintro L a wx ⟨v, rfl, hI⟩ hL hdep hcl K hK
          have e3 := hI.t3 (hdep 3 (by decide))
          have e1 := hI.t1 (hdep 1 (by decide))
          rw [e3, e1]
          clear e3 e1
          first | (refine (if_neg (by exact fun h => Bool.noConfusion (show false = true from h))).mpr ?_; exact hK _ _ ⟨(upd (upd (upd v 72 _) 70 _) 73 _), rfl, ⟨hI.t0, fun _ => rfl, hI.t2, fun _ => rfl, fun _ => rfl, hI.t5, hI.t6, hI.t7, hI.t8, hI.t9, hI.t10, hI.t11, hI.t12, hI.t13, hI.t14, hI.t15, hI.t16, hI.t17, hI.t18, hI.t19, hI.t20, hI.t21, hI.t22, hI.t23, hI.t24, hI.t25, hI.t26, hI.t27, hI.t28, hI.t29, hI.t30, hI.t31, hI.t32, hI.t33, hI.t34, hI.t35, hI.t36, hI.t37, hI.t38, hI.t39, hI.t40, hI.t41, hI.bw⟩⟩) | (refine (if_pos rfl).mpr ?_; go_simp; exact hK _ _ ⟨(upd (upd (upd v 72 _) 70 _) 73 _), rfl, ⟨hI.t0, fun _ => rfl, hI.t2, fun _ => rfl, fun _ => rfl, hI.t5, hI.t6, hI.t7, hI.t8, hI.t9, hI.t10, hI.t11, hI.t12, hI.t13, hI.t14, hI.t15, hI.t16, hI.t17, hI.t18, hI.t19, hI.t20, hI.t21, hI.t22, hI.t23, hI.t24, hI.t25, hI.t26, hI.t27, hI.t28, hI.t29, hI.t30, hI.t31, hI.t32, hI.t33, hI.t34, hI.t35, hI.t36, hI.t37, hI.t38, hI.t39, hI.t40, hI.t41, hI.bw⟩⟩)
        · rintro L a wx ⟨v, rfl, hI⟩ hL hdep hcl K hK
          have e4 := hI.t4 (hdep 4 (by decide))
          rw [e4]
          clear e4
          cases e0 <;> first | (refine (if_neg (by exact fun h => Bool.noConfusion (show false = true from h))).mpr ?_; exact hK _ _ ⟨(upd (upd v 73 _) 74 _), rfl, ⟨hI.t0, hI.t1, hI.t2, hI.t3, fun _ => rfl, fun _ => rfl, hI.t6, hI.t7, hI.t8, hI.t9, hI.t10, hI.t11, hI.t12, hI.t13, hI.t14, hI.t15, hI.t16, hI.t17, hI.t18, hI.t19, hI.t20, hI.t21, hI.t22, hI.t23, hI.t24, hI.t25, hI.t26, hI.t27, hI.t28, hI.t29, hI.t30, hI.t31, hI.t32, hI.t33, hI.t34, hI.t35, hI.t36, hI.t37, hI.t38, hI.t39, hI.t40, hI.t41, hI.bw⟩⟩) | (refine (if_pos rfl).mpr ?_; go_simp; exact hK _ _ ⟨(upd (upd v 73 _) 74 _), rfl, ⟨hI.t0, hI.t1, hI.t2, hI.t3, fun _ => rfl, fun _ => rfl, hI.t6, hI.t7, hI.t8, hI.t9, hI.t10, hI.t11, hI.t12, hI.t13, hI.t14, hI.t15, hI.t16, hI.t17, hI.t18, hI.t19, hI.t20, hI.t21, hI.t22, hI.t23, hI.t24, hI.t25, hI.t26, hI.t27, hI.t28, hI.t29, hI.t30, hI.t31, hI.t32, hI.t33, hI.t34, hI.t35, hI.t36, hI.t37, hI.t38, hI.t39, hI.t40, hI.t41, hI.bw⟩⟩)
        · rintro L a wx ⟨v, rfl, hI⟩ hL hdep hcl K hK
          have e4 := hI.t4 (hdep 4 (by decide))
          rw [e4]
          clear e4
          cases e0 <;> first | (refine (if_neg (by exact fun h => Bool.noConfusion (show false = true from h))).mpr ?_; exact hK _ _ ⟨(upd (upd v 73 _) 75 _), rfl, ⟨hI.t0, hI.t1, hI.t2, hI.t3, fun _ => rfl, hI.t5, fun _ => rfl, hI.t7, hI.t8, hI.t9, hI.t10, hI.t11, hI.t12, hI.t13, hI.t14, hI.t15, hI.t16, hI.t17, hI.t18, hI.t19, hI.t20, hI.t21, hI.t22, hI.t23, hI.t24, hI.t25, hI.t26, hI.t27, hI.t28, hI.t29, hI.t30, hI.t31, hI.t32, hI.t33, hI.t34, hI.t35, hI.t36, hI.t37, hI.t38, hI.t39, hI.t40, hI.t41, hI.bw⟩⟩) | (refine (if_pos rfl).mpr ?_; go_simp; exact hK _ _ ⟨(upd (upd v 73 _) 75 _), rfl, ⟨hI.t0, hI.t1, hI.t2, hI.t3, fun _ => rfl, hI.t5, fun _ => rfl, hI.t7, hI.t8, hI.t9, hI.t10, hI.t11, hI.t12, hI.t13, hI.t14, hI.t15, hI.t16, hI.t17, hI.t18, hI.t19, hI.t20, hI.t21, hI.t22, hI.t23, hI.t24, hI.t25, hI.t26, hI.t27, hI.t28, hI.t29, hI.t30, hI.t31, hI.t32, hI.t33, hI.t34, hI.t35, hI.t36, hI.t37, hI.t38, hI.t39, hI.t40, hI.t41, hI.bw⟩⟩)
        · rintro L a wx ⟨v, rfl, hI⟩ hL hdep hcl K hK
          have e5 := hI.t5 (hdep 5 (by decide))
          have e6 := hI.t6 (hdep 6 (by decide))
          have e4 := hI.t4 (hdep 4 (by decide))
          rw [e5, e6, e4]
          clear e5 e6 e4
          cases e0 <;> first | (refine (if_neg (by exact fun h => Bool.noConfusion (show false = true from h))).mpr ?_; exact hK _ _ ⟨(upd (upd (upd (upd v 74 _) 75 _) 73 _) 76 _), rfl, ⟨hI.t0, hI.t1, hI.t2, hI.t3, fun _ => rfl, fun _ => rfl, fun _ => rfl, fun _ => rfl, hI.t8, hI.t9, hI.t10, hI.t11, hI.t12, hI.t13, hI.t14, hI.t15, hI.t16, hI.t17, hI.t18, hI.t19, hI.t20, hI.t21, hI.t22, hI.t23, hI.t24, hI.t25, hI.t26, hI.t27, hI.t28, hI.t29, hI.t30, hI.t31, hI.t32, hI.t33, hI.t34, hI.t35, hI.t36, hI.t37, hI.t38, hI.t39, hI.t40, hI.t41, hI.bw⟩⟩) | (refine (if_pos rfl).mpr ?_; go_simp; refine (Equal_any _ _ _ _ _ _ _ _ wx (hrs.out.to hI.bw) (hrm.out.to hI.bw)).mono ?_; rw [hsm.out rfl]; rintro e w' ⟨rfl, rfl⟩; exact hK _ _ ⟨(upd (upd (upd (upd v 74 _) 75 _) 73 _) 76 _), rfl, ⟨hI.t0, hI.t1, hI.t2, hI.t3, fun _ => rfl, fun _ => rfl, fun _ => rfl, fun _ => rfl, hI.t8, hI.t9, hI.t10, hI.t11, hI.t12, hI.t13, hI.t14, hI.t15, hI.t16, hI.t17, hI.t18, hI.t19, hI.t20, hI.t21, hI.t22, hI.t23, hI.t24, hI.t25, hI.t26, hI.t27, hI.t28, hI.t29, hI.t30, hI.t31, hI.t32, hI.t33, hI.t34, hI.t35, hI.t36, hI.t37, hI.t38, hI.t39, hI.t40, hI.t41, hI.bw⟩⟩)
        · rintro L a wx ⟨v, rfl, hI⟩ hL hdep hcl K hK
          have e7 := hI.t7 (hdep 7 (by decide))
          have e4 := hI.t4 (hdep 4 (by decide))
          rw [e7, e4]
          clear e7 e4
          cases e0 <;> first | (refine (if_neg (by exact fun h => Bool.noConfusion (show false = true from h))).mpr ?_; exact hK _ _ ⟨(upd (upd (upd v 76 _) 73 _) 77 _), rfl, ⟨hI.t0, hI.t1, hI.t2, hI.t3, fun _ => rfl, hI.t5, hI.t6, fun _ => rfl, fun _ => rfl, hI.t9, hI.t10, hI.t11, hI.t12, hI.t13, hI.t14, hI.t15, hI.t16, hI.t17, hI.t18, hI.t19, hI.t20, hI.t21, hI.t22, hI.t23, hI.t24, hI.t25, hI.t26, hI.t27, hI.t28, hI.t29, hI.t30, hI.t31, hI.t32, hI.t33, hI.t34, hI.t35, hI.t36, hI.t37, hI.t38, hI.t39, hI.t40, hI.t41, hI.bw⟩⟩) | (refine (if_pos rfl).mpr ?_; go_simp; exact hK _ _ ⟨(upd (upd (upd v 76 _) 73 _) 77 _), rfl, ⟨hI.t0, hI.t1, hI.t2, hI.t3, fun _ => rfl, hI.t5, hI.t6, fun _ => rfl, fun _ => rfl, hI.t9, hI.t10, hI.t11, hI.t12, hI.t13, hI.t14, hI.t15, hI.t16, hI.t17, hI.t18, hI.t19, hI.t20, hI.t21, hI.t22, hI.t23, hI.t24, hI.t25, hI.t26, hI.t27, hI.t28, hI.t29, hI.t30, hI.t31, hI.t32, hI.t33, hI.t34, hI.t35, hI.t36, hI.t37, hI.t38, hI.t39, hI.t40, hI.t41, hI.bw⟩⟩)
        · rintro L a wx ⟨v, rfl, hI⟩ hL hdep hcl K hK
          have e4 := hI.t4 (hdep 4 (by decide))
          have e8 := hI.t8 (hdep 8 (by decide))
          have e1 := hI.t1 (hdep 1 (by decide))
          rw [e4, e8, e1]
          clear e4 e8 e1
          cases e0 <;> first | (refine (if_neg (by exact fun h => Bool.noConfusion (show false = true from h))).mpr ?_; exact hK _ _ ⟨(upd (upd (upd (upd v 73 _) 77 _) 70 _) 78 _), rfl, ⟨hI.t0, fun _ => rfl, hI.t2, hI.t3, fun _ => rfl, hI.t5, hI.t6, hI.t7, fun _ => rfl, fun _ => rfl, hI.t10, hI.t11, hI.t12, hI.t13, hI.t14, hI.t15, hI.t16, hI.t17, hI.t18, hI.t19, hI.t20, hI.t21, hI.t22, hI.t23, hI.t24, hI.t25, hI.t26, hI.t27, hI.t28, hI.t29, hI.t30, hI.t31, hI.t32, hI.t33, hI.t34, hI.t35, hI.t36, hI.t37, hI.t38, hI.t39, hI.t40, hI.t41, hI.bw⟩⟩) | (refine (if_pos rfl).mpr ?_; go_simp; exact hK _ _ ⟨(upd (upd (upd (upd v 73 _) 77 _) 70 _) 78 _), rfl, ⟨hI.t0, fun _ => rfl, hI.t2, hI.t3, fun _ => rfl, hI.t5, hI.t6, hI.t7, fun _ => rfl, fun _ => rfl, hI.t10, hI.t11, hI.t12, hI.t13, hI.t14, hI.t15, hI.t16, hI.t17, hI.t18, hI.t19, hI.t20, hI.t21, hI.t22, hI.t23, hI.t24, hI.t25, hI.t26, hI.t27, hI.t28, hI.t29, hI.t30, hI.t31, hI.t32, hI.t33, hI.t34, hI.t35, hI.t36, hI.t37, hI.t38, hI.t39, hI.t40, hI.t41, hI.bw⟩⟩)
        · rintro L a wx ⟨v, rfl, hI⟩ hL hdep hcl K hK
          have e1 := hI.t1 (hdep 1 (by decide))
          have e9 := hI.t9 (hdep 9 (by decide))
          rw [e1, e9]
          go_simp
          exact hK _ _ ⟨(upd (upd (upd v 70 (.bool true)) 78 (.bool true)) 79 (.bool true)), rfl, ⟨hI.t0, fun _ => rfl, hI.t2, hI.t3, hI.t4, hI.t5, hI.t6, hI.t7, hI.t8, fun _ => rfl, fun _ => rfl, hI.t11, hI.t12, hI.t13, hI.t14, hI.t15, hI.t16, hI.t17, hI.t18, hI.t19, hI.t20, hI.t21, hI.t22, hI.t23, hI.t24, hI.t25, hI.t26, hI.t27, hI.t28, hI.t29, hI.t30, hI.t31, hI.t32, hI.t33, hI.t34, hI.t35, hI.t36, hI.t37, hI.t38, hI.t39, hI.t40, hI.t41, hI.bw⟩⟩
        · rintro L a wx ⟨v, rfl, hI⟩ hL hdep hcl K hK
          have e10 := hI.t10 (hdep 10 (by decide))
          rw [e10]
          go_simp
          exact hK _ _ ⟨(upd (upd v 79 (.bool true)) 80 (.bool true)), rfl, ⟨hI.t0, hI.t1, hI.t2, hI.t3, hI.t4, hI.t5, hI.t6, hI.t7, hI.t8, hI.t9, fun _ => rfl, fun _ => rfl, hI.t12, hI.t13, hI.t14, hI.t15, hI.t16, hI.t17, hI.t18, hI.t19, hI.t20, hI.t21, hI.t22, hI.t23, hI.t24, hI.t25, hI.t26, hI.t27, hI.t28, hI.t29, hI.t30, hI.t31, hI.t32, hI.t33, hI.t34, hI.t35, hI.t36, hI.t37, hI.t38, hI.t39, hI.t40, hI.t41, hI.bw⟩⟩
        · rintro L a wx ⟨v, rfl, hI⟩ hL hdep hcl K hK
          have e11 := hI.t11 (hdep 11 (by decide))
          rw [e11]
          refine (if_pos rfl).mpr ?_
          go_simp
          exact hK _ _ ⟨(upd (upd v 80 (.bool true)) 81 (.slice am 50 cm)), rfl, ⟨hI.t0, hI.t1, hI.t2, hI.t3, hI.t4, hI.t5, hI.t6, hI.t7, hI.t8, hI.t9, hI.t10, fun _ => rfl, fun _ => rfl, hI.t13, hI.t14, hI.t15, hI.t16, hI.t17, hI.t18, hI.t19, hI.t20, hI.t21, hI.t22, hI.t23, hI.t24, hI.t25, hI.t26, hI.t27, hI.t28, hI.t29, hI.t30, hI.t31, hI.t32, hI.t33, hI.t34, hI.t35, hI.t36, hI.t37, hI.t38, hI.t39, hI.t40, hI.t41, hI.bw⟩⟩
        · rintro L a wx ⟨v, rfl, hI⟩ hL hdep hcl K hK
          have e11 := hI.t11 (hdep 11 (by decide))
          rw [e11]
          refine (if_pos rfl).mpr ?_
          go_simp
          exact hK _ _ ⟨(upd (upd v 80 (.bool true)) 82 (.slice an 50 cn)), rfl, ⟨hI.t0, hI.t1, hI.t2, hI.t3, hI.t4, hI.t5, hI.t6, hI.t7, hI.t8, hI.t9, hI.t10, fun _ => rfl, hI.t12, fun _ => rfl, hI.t14, hI.t15, hI.t16, hI.t17, hI.t18, hI.t19, hI.t20, hI.t21, hI.t22, hI.t23, hI.t24, hI.t25, hI.t26, hI.t27, hI.t28, hI.t29, hI.t30, hI.t31, hI.t32, hI.t33, hI.t34, hI.t35, hI.t36, hI.t37, hI.t38, hI.t39, hI.t40, hI.t41, hI.bw⟩⟩
        · rintro L a wx ⟨v, rfl, hI⟩ hL hdep hcl K hK
          have e12 := hI.t12 (hdep 12 (by decide))
          have e13 := hI.t13 (hdep 13 (by decide))
          have e11 := hI.t11 (hdep 11 (by decide))
          rw [e12, e13, e11]
          refine (if_pos rfl).mpr ?_
          go_simp
          refine (Equal_any _ _ _ _ _ _ _ _ wx (hrm.out.to hI.bw) (hrn.out.to hI.bw)).mono ?_
          rw [hmn.out]
          rintro e w' ⟨rfl, rfl⟩
          exact hK _ _ ⟨(upd (upd (upd (upd v 81 (.slice am 50 cm)) 82 (.slice an 50 cn)) 80 (.bool true)) 83 (.bool g3)), rfl, ⟨hI.t0, hI.t1, hI.t2, hI.t3, hI.t4, hI.t5, hI.t6, hI.t7, hI.t8, hI.t9, hI.t10, fun _ => rfl, fun _ => rfl, fun _ => rfl, fun _ => rfl, hI.t15, hI.t16, hI.t17, hI.t18, hI.t19, hI.t20, hI.t21, hI.t22, hI.t23, hI.t24, hI.t25, hI.t26, hI.t27, hI.t28, hI.t29, hI.t30, hI.t31, hI.t32, hI.t33, hI.t34, hI.t35, hI.t36, hI.t37, hI.t38, hI.t39, hI.t40, hI.t41, hI.bw⟩⟩
        · rintro L a wx ⟨v, rfl, hI⟩ hL hdep hcl K hK
          have e11 := hI.t11 (hdep 11 (by decide))
          rw [e11]
          refine (if_pos rfl).mpr ?_
          go_simp
          exact hK _ _ ⟨(upd (upd v 80 (.bool true)) 84 (.pointer (some ⟨X5, 0, none⟩))), rfl, ⟨hI.t0, hI.t1, hI.t2, hI.t3, hI.t4, hI.t5, hI.t6, hI.t7, hI.t8, hI.t9, hI.t10, fun _ => rfl, hI.t12, hI.t13, hI.t14, fun _ => rfl, hI.t16, hI.t17, hI.t18, hI.t19, hI.t20, hI.t21, hI.t22, hI.t23, hI.t24, hI.t25, hI.t26, hI.t27, hI.t28, hI.t29, hI.t30, hI.t31, hI.t32, hI.t33, hI.t34, hI.t35, hI.t36, hI.t37, hI.t38, hI.t39, hI.t40, hI.t41, hI.bw⟩⟩
        · rintro L a wx ⟨v, rfl, hI⟩ hL hdep hcl K hK
          have e15 := hI.t15 (hdep 15 (by decide))
          have e11 := hI.t11 (hdep 11 (by decide))
          rw [e15, e11]
          refine (if_pos rfl).mpr ?_
          have cc := (hI.bw.cell (p := ⟨X5, 0, none⟩) hW5.lt).trans g50
          go_simp
          exact hK _ _ ⟨(upd (upd (upd v 84 (.pointer (some ⟨X5, 0, none⟩))) 80 (.bool true)) 85 (.int .u64 (sz : Int))), rfl, ⟨hI.t0, hI.t1, hI.t2, hI.t3, hI.t4, hI.t5, hI.t6, hI.t7, hI.t8, hI.t9, hI.t10, fun _ => rfl, hI.t12, hI.t13, hI.t14, fun _ => rfl, fun _ => rfl, hI.t17, hI.t18, hI.t19, hI.t20, hI.t21, hI.t22, hI.t23, hI.t24, hI.t25, hI.t26, hI.t27, hI.t28, hI.t29, hI.t30, hI.t31, hI.t32, hI.t33, hI.t34, hI.t35, hI.t36, hI.t37, hI.t38, hI.t39, hI.t40, hI.t41, hI.bw⟩⟩
        · rintro L a wx ⟨v, rfl, hI⟩ hL hdep hcl K hK
          have e11 := hI.t11 (hdep 11 (by decide))
          rw [e11]
          refine (if_pos rfl).mpr ?_
          go_simp
          exact hK _ _ ⟨(upd (upd v 80 (.bool true)) 86 (.pointer (some ⟨X6, 0, none⟩))), rfl, ⟨hI.t0, hI.t1, hI.t2, hI.t3, hI.t4, hI.t5, hI.t6, hI.t7, hI.t8, hI.t9, hI.t10, fun _ => rfl, hI.t12, hI.t13, hI.t14, hI.t15, hI.t16, fun _ => rfl, hI.t18, hI.t19, hI.t20, hI.t21, hI.t22, hI.t23, hI.t24, hI.t25, hI.t26, hI.t27, hI.t28, hI.t29, hI.t30, hI.t31, hI.t32, hI.t33, hI.t34, hI.t35, hI.t36, hI.t37, hI.t38, hI.t39, hI.t40, hI.t41, hI.bw⟩⟩
        · rintro L a wx ⟨v, rfl, hI⟩ hL hdep hcl K hK
          have e17 := hI.t17 (hdep 17 (by decide))
          have e11 := hI.t11 (hdep 11 (by decide))
          rw [e17, e11]
          refine (if_pos rfl).mpr ?_
          have cc := (hI.bw.cell (p := ⟨X6, 0, none⟩) hW6.lt).trans g60
          go_simp
          exact hK _ _ ⟨(upd (upd (upd v 86 (.pointer (some ⟨X6, 0, none⟩))) 80 (.bool true)) 87 (.int .u64 (sz' : Int))), rfl, ⟨hI.t0, hI.t1, hI.t2, hI.t3, hI.t4, hI.t5, hI.t6, hI.t7, hI.t8, hI.t9, hI.t10, fun _ => rfl, hI.t12, hI.t13, hI.t14, hI.t15, hI.t16, fun _ => rfl, fun _ => rfl, hI.t19, hI.t20, hI.t21, hI.t22, hI.t23, hI.t24, hI.t25, hI.t26, hI.t27, hI.t28, hI.t29, hI.t30, hI.t31, hI.t32, hI.t33, hI.t34, hI.t35, hI.t36, hI.t37, hI.t38, hI.t39, hI.t40, hI.t41, hI.bw⟩⟩
        · rintro L a wx ⟨v, rfl, hI⟩ hL hdep hcl K hK
          have e16 := hI.t16 (hdep 16 (by decide))
          have e18 := hI.t18 (hdep 18 (by decide))
          have e11 := hI.t11 (hdep 11 (by decide))
          rw [e16, e18, e11]
          refine (if_pos rfl).mpr ?_
          go_simp
          exact hK _ _ ⟨(upd (upd (upd (upd v 85 (.int .u64 (sz : Int))) 87 (.int .u64 (sz' : Int))) 80 (.bool true)) 88 (.bool b1)), rfl, ⟨hI.t0, hI.t1, hI.t2, hI.t3, hI.t4, hI.t5, hI.t6, hI.t7, hI.t8, hI.t9, hI.t10, fun _ => rfl, hI.t12, hI.t13, hI.t14, hI.t15, fun _ => rfl, hI.t17, fun _ => rfl, fun _ => rfl, hI.t20, hI.t21, hI.t22, hI.t23, hI.t24, hI.t25, hI.t26, hI.t27, hI.t28, hI.t29, hI.t30, hI.t31, hI.t32, hI.t33, hI.t34, hI.t35, hI.t36, hI.t37, hI.t38, hI.t39, hI.t40, hI.t41, hI.bw⟩⟩
        · rintro L a wx ⟨v, rfl, hI⟩ hL hdep hcl K hK
          have e19 := hI.t19 (hdep 19 (by decide))
          have e14 := hI.t14 (hdep 14 (by decide))
          have e11 := hI.t11 (hdep 11 (by decide))
          rw [e19, e14, e11]
          refine (if_pos rfl).mpr ?_
          go_simp
          exact hK _ _ ⟨(upd (upd (upd (upd v 88 (.bool b1)) 83 (.bool g3)) 80 (.bool true)) 89 (.bool b1)), rfl, ⟨hI.t0, hI.t1, hI.t2, hI.t3, hI.t4, hI.t5, hI.t6, hI.t7, hI.t8, hI.t9, hI.t10, fun _ => rfl, hI.t12, hI.t13, fun _ => rfl, hI.t15, hI.t16, hI.t17, hI.t18, fun _ => rfl, fun _ => rfl, hI.t21, hI.t22, hI.t23, hI.t24, hI.t25, hI.t26, hI.t27, hI.t28, hI.t29, hI.t30, hI.t31, hI.t32, hI.t33, hI.t34, hI.t35, hI.t36, hI.t37, hI.t38, hI.t39, hI.t40, hI.t41, hI.bw⟩⟩
        · rintro L a wx ⟨v, rfl, hI⟩ hL hdep hcl K hK
          have e20 := hI.t20 (hdep 20 (by decide))
          rw [e20]
          clear e20
          cases b1 <;> first | (refine (if_neg (by exact fun h => Bool.noConfusion (show false = true from h))).mpr ?_; exact hK _ _ ⟨(upd (upd v 89 _) 90 _), rfl, ⟨hI.t0, hI.t1, hI.t2, hI.t3, hI.t4, hI.t5, hI.t6, hI.t7, hI.t8, hI.t9, hI.t10, hI.t11, hI.t12, hI.t13, hI.t14, hI.t15, hI.t16, hI.t17, hI.t18, hI.t19, fun _ => rfl, fun _ => rfl, hI.t22, hI.t23, hI.t24, hI.t25, hI.t26, hI.t27, hI.t28, hI.t29, hI.t30, hI.t31, hI.t32, hI.t33, hI.t34, hI.t35, hI.t36, hI.t37, hI.t38, hI.t39, hI.t40, hI.t41, hI.bw⟩⟩) | (refine (if_pos rfl).mpr ?_; go_simp; exact hK _ _ ⟨(upd (upd v 89 _) 90 _), rfl, ⟨hI.t0, hI.t1, hI.t2, hI.t3, hI.t4, hI.t5, hI.t6, hI.t7, hI.t8, hI.t9, hI.t10, hI.t11, hI.t12, hI.t13, hI.t14, hI.t15, hI.t16, hI.t17, hI.t18, hI.t19, fun _ => rfl, fun _ => rfl, hI.t22, hI.t23, hI.t24, hI.t25, hI.t26, hI.t27, hI.t28, hI.t29, hI.t30, hI.t31, hI.t32, hI.t33, hI.t34, hI.t35, hI.t36, hI.t37, hI.t38, hI.t39, hI.t40, hI.t41, hI.bw⟩⟩)
        · rintro L a wx ⟨v, rfl, hI⟩ hL hdep hcl K hK
          have e21 := hI.t21 (hdep 21 (by decide))
          have e20 := hI.t20 (hdep 20 (by decide))
          rw [e21, e20]
          clear e21 e20
          cases b1 <;> first | (refine (if_neg (by exact fun h => Bool.noConfusion (show false = true from h))).mpr ?_; exact hK _ _ ⟨(upd (upd (upd v 90 _) 89 _) 91 _), rfl, ⟨hI.t0, hI.t1, hI.t2, hI.t3, hI.t4, hI.t5, hI.t6, hI.t7, hI.t8, hI.t9, hI.t10, hI.t11, hI.t12, hI.t13, hI.t14, hI.t15, hI.t16, hI.t17, hI.t18, hI.t19, fun _ => rfl, fun _ => rfl, fun _ => rfl, hI.t23, hI.t24, hI.t25, hI.t26, hI.t27, hI.t28, hI.t29, hI.t30, hI.t31, hI.t32, hI.t33, hI.t34, hI.t35, hI.t36, hI.t37, hI.t38, hI.t39, hI.t40, hI.t41, hI.bw⟩⟩) | (refine (if_pos rfl).mpr ?_; have cc := (hI.bw.cell (p := ⟨X5, 1, none⟩) hW5.lt).trans g51; go_simp; exact hK _ _ ⟨(upd (upd (upd v 90 _) 89 _) 91 _), rfl, ⟨hI.t0, hI.t1, hI.t2, hI.t3, hI.t4, hI.t5, hI.t6, hI.t7, hI.t8, hI.t9, hI.t10, hI.t11, hI.t12, hI.t13, hI.t14, hI.t15, hI.t16, hI.t17, hI.t18, hI.t19, fun _ => rfl, fun _ => rfl, fun _ => rfl, hI.t23, hI.t24, hI.t25, hI.t26, hI.t27, hI.t28, hI.t29, hI.t30, hI.t31, hI.t32, hI.t33, hI.t34, hI.t35, hI.t36, hI.t37, hI.t38, hI.t39, hI.t40, hI.t41, hI.bw⟩⟩)
        · rintro L a wx ⟨v, rfl, hI⟩ hL hdep hcl K hK
          have e20 := hI.t20 (hdep 20 (by decide))
          rw [e20]
          clear e20
          cases b1 <;> first | (refine (if_neg (by exact fun h => Bool.noConfusion (show false = true from h))).mpr ?_; exact hK _ _ ⟨(upd (upd v 89 _) 92 _), rfl, ⟨hI.t0, hI.t1, hI.t2, hI.t3, hI.t4, hI.t5, hI.t6, hI.t7, hI.t8, hI.t9, hI.t10, hI.t11, hI.t12, hI.t13, hI.t14, hI.t15, hI.t16, hI.t17, hI.t18, hI.t19, fun _ => rfl, hI.t21, hI.t22, fun _ => rfl, hI.t24, hI.t25, hI.t26, hI.t27, hI.t28, hI.t29, hI.t30, hI.t31, hI.t32, hI.t33, hI.t34, hI.t35, hI.t36, hI.t37, hI.t38, hI.t39, hI.t40, hI.t41, hI.bw⟩⟩) | (refine (if_pos rfl).mpr ?_; go_simp; exact hK _ _ ⟨(upd (upd v 89 _) 92 _), rfl, ⟨hI.t0, hI.t1, hI.t2, hI.t3, hI.t4, hI.t5, hI.t6, hI.t7, hI.t8, hI.t9, hI.t10, hI.t11, hI.t12, hI.t13, hI.t14, hI.t15, hI.t16, hI.t17, hI.t18, hI.t19, fun _ => rfl, hI.t21, hI.t22, fun _ => rfl, hI.t24, hI.t25, hI.t26, hI.t27, hI.t28, hI.t29, hI.t30, hI.t31, hI.t32, hI.t33, hI.t34, hI.t35, hI.t36, hI.t37, hI.t38, hI.t39, hI.t40, hI.t41, hI.bw⟩⟩)
        · rintro L a wx ⟨v, rfl, hI⟩ hL hdep hcl K hK
          have e23 := hI.t23 (hdep 23 (by decide))
          have e20 := hI.t20 (hdep 20 (by decide))
          rw [e23, e20]
          clear e23 e20
          cases b1 <;> first | (refine (if_neg (by exact fun h => Bool.noConfusion (show false = true from h))).mpr ?_; exact hK _ _ ⟨(upd (upd (upd v 92 _) 89 _) 93 _), rfl, ⟨hI.t0, hI.t1, hI.t2, hI.t3, hI.t4, hI.t5, hI.t6, hI.t7, hI.t8, hI.t9, hI.t10, hI.t11, hI.t12, hI.t13, hI.t14, hI.t15, hI.t16, hI.t17, hI.t18, hI.t19, fun _ => rfl, hI.t21, hI.t22, fun _ => rfl, fun _ => rfl, hI.t25, hI.t26, hI.t27, hI.t28, hI.t29, hI.t30, hI.t31, hI.t32, hI.t33, hI.t34, hI.t35, hI.t36, hI.t37, hI.t38, hI.t39, hI.t40, hI.t41, hI.bw⟩⟩) | (refine (if_pos rfl).mpr ?_; have cc := (hI.bw.cell (p := ⟨X6, 1, none⟩) hW6.lt).trans g61; go_simp; exact hK _ _ ⟨(upd (upd (upd v 92 _) 89 _) 93 _), rfl, ⟨hI.t0, hI.t1, hI.t2, hI.t3, hI.t4, hI.t5, hI.t6, hI.t7, hI.t8, hI.t9, hI.t10, hI.t11, hI.t12, hI.t13, hI.t14, hI.t15, hI.t16, hI.t17, hI.t18, hI.t19, fun _ => rfl, hI.t21, hI.t22, fun _ => rfl, fun _ => rfl, hI.t25, hI.t26, hI.t27, hI.t28, hI.t29, hI.t30, hI.t31, hI.t32, hI.t33, hI.t34, hI.t35, hI.t36, hI.t37, hI.t38, hI.t39, hI.t40, hI.t41, hI.bw⟩⟩)
        · rintro L a wx ⟨v, rfl, hI⟩ hL hdep hcl K hK
          have e22 := hI.t22 (hdep 22 (by decide))
          have e24 := hI.t24 (hdep 24 (by decide))
          have e20 := hI.t20 (hdep 20 (by decide))
          rw [e22, e24, e20]
          clear e22 e24 e20
          cases b1 <;> first | (refine (if_neg (by exact fun h => Bool.noConfusion (show false = true from h))).mpr ?_; exact hK _ _ ⟨(upd (upd (upd (upd v 91 _) 93 _) 89 _) 94 _), rfl, ⟨hI.t0, hI.t1, hI.t2, hI.t3, hI.t4, hI.t5, hI.t6, hI.t7, hI.t8, hI.t9, hI.t10, hI.t11, hI.t12, hI.t13, hI.t14, hI.t15, hI.t16, hI.t17, hI.t18, hI.t19, fun _ => rfl, hI.t21, fun _ => rfl, hI.t23, fun _ => rfl, fun _ => rfl, hI.t26, hI.t27, hI.t28, hI.t29, hI.t30, hI.t31, hI.t32, hI.t33, hI.t34, hI.t35, hI.t36, hI.t37, hI.t38, hI.t39, hI.t40, hI.t41, hI.bw⟩⟩) | (refine (if_pos rfl).mpr ?_; go_simp; exact hK _ _ ⟨(upd (upd (upd (upd v 91 _) 93 _) 89 _) 94 _), rfl, ⟨hI.t0, hI.t1, hI.t2, hI.t3, hI.t4, hI.t5, hI.t6, hI.t7, hI.t8, hI.t9, hI.t10, hI.t11, hI.t12, hI.t13, hI.t14, hI.t15, hI.t16, hI.t17, hI.t18, hI.t19, fun _ => rfl, hI.t21, fun _ => rfl, hI.t23, fun _ => rfl, fun _ => rfl, hI.t26, hI.t27, hI.t28, hI.t29, hI.t30, hI.t31, hI.t32, hI.t33, hI.t34, hI.t35, hI.t36, hI.t37, hI.t38, hI.t39, hI.t40, hI.t41, hI.bw⟩⟩)
        · rintro L a wx ⟨v, rfl, hI⟩ hL hdep hcl K hK
          have e20 := hI.t20 (hdep 20 (by decide))
          have e25 := hI.t25 (hdep 25 (by decide))
          have e11 := hI.t11 (hdep 11 (by decide))
          rw [e20, e25, e11]
          clear e20 e25 e11
          cases b1 <;> (have hgx := HG12.out; subst hgx) <;> first | (refine (if_neg (by exact fun h => Bool.noConfusion (show false = true from h))).mpr ?_; exact hK _ _ ⟨(upd (upd (upd (upd v 89 _) 94 _) 80 _) 95 _), rfl, ⟨hI.t0, hI.t1, hI.t2, hI.t3, hI.t4, hI.t5, hI.t6, hI.t7, hI.t8, hI.t9, hI.t10, fun _ => rfl, hI.t12, hI.t13, hI.t14, hI.t15, hI.t16, hI.t17, hI.t18, hI.t19, fun _ => rfl, hI.t21, hI.t22, hI.t23, hI.t24, fun _ => rfl, fun _ => rfl, hI.t27, hI.t28, hI.t29, hI.t30, hI.t31, hI.t32, hI.t33, hI.t34, hI.t35, hI.t36, hI.t37, hI.t38, hI.t39, hI.t40, hI.t41, hI.bw⟩⟩) | (refine (if_pos rfl).mpr ?_; go_simp; exact hK _ _ ⟨(upd (upd (upd (upd v 89 _) 94 _) 80 _) 95 _), rfl, ⟨hI.t0, hI.t1, hI.t2, hI.t3, hI.t4, hI.t5, hI.t6, hI.t7, hI.t8, hI.t9, hI.t10, fun _ => rfl, hI.t12, hI.t13, hI.t14, hI.t15, hI.t16, hI.t17, hI.t18, hI.t19, fun _ => rfl, hI.t21, hI.t22, hI.t23, hI.t24, fun _ => rfl, fun _ => rfl, hI.t27, hI.t28, hI.t29, hI.t30, hI.t31, hI.t32, hI.t33, hI.t34, hI.t35, hI.t36, hI.t37, hI.t38, hI.t39, hI.t40, hI.t41, hI.bw⟩⟩)
        · rintro L a wx ⟨v, rfl, hI⟩ hL hdep hcl K hK
          have e26 := hI.t26 (hdep 26 (by decide))
          have e20 := hI.t20 (hdep 20 (by decide))
          have e11 := hI.t11 (hdep 11 (by decide))
          rw [e26, e20, e11]
          refine (if_pos rfl).mpr ?_
          go_simp
          exact hK _ _ ⟨(upd (upd (upd (upd v 95 (.bool g12)) 89 (.bool b1)) 80 (.bool true)) 96 (.bool g12)), rfl, ⟨hI.t0, hI.t1, hI.t2, hI.t3, hI.t4, hI.t5, hI.t6, hI.t7, hI.t8, hI.t9, hI.t10, fun _ => rfl, hI.t12, hI.t13, hI.t14, hI.t15, hI.t16, hI.t17, hI.t18, hI.t19, fun _ => rfl, hI.t21, hI.t22, hI.t23, hI.t24, hI.t25, fun _ => rfl, fun _ => rfl, hI.t28, hI.t29, hI.t30, hI.t31, hI.t32, hI.t33, hI.t34, hI.t35, hI.t36, hI.t37, hI.t38, hI.t39, hI.t40, hI.t41, hI.bw⟩⟩
        · rintro L a wx ⟨v, rfl, hI⟩ hL hdep hcl K hK
          have e27 := hI.t27 (hdep 27 (by decide))
          rw [e27]
          clear e27
          cases g12 <;> first | (refine (if_neg (by exact fun h => Bool.noConfusion (show false = true from h))).mpr ?_; exact hK _ _ ⟨(upd (upd v 96 _) 97 _), rfl, ⟨hI.t0, hI.t1, hI.t2, hI.t3, hI.t4, hI.t5, hI.t6, hI.t7, hI.t8, hI.t9, hI.t10, hI.t11, hI.t12, hI.t13, hI.t14, hI.t15, hI.t16, hI.t17, hI.t18, hI.t19, hI.t20, hI.t21, hI.t22, hI.t23, hI.t24, hI.t25, hI.t26, fun _ => rfl, fun _ => rfl, hI.t29, hI.t30, hI.t31, hI.t32, hI.t33, hI.t34, hI.t35, hI.t36, hI.t37, hI.t38, hI.t39, hI.t40, hI.t41, hI.bw⟩⟩) | (refine (if_pos rfl).mpr ?_; go_simp; exact hK _ _ ⟨(upd (upd v 96 _) 97 _), rfl, ⟨hI.t0, hI.t1, hI.t2, hI.t3, hI.t4, hI.t5, hI.t6, hI.t7, hI.t8, hI.t9, hI.t10, hI.t11, hI.t12, hI.t13, hI.t14, hI.t15, hI.t16, hI.t17, hI.t18, hI.t19, hI.t20, hI.t21, hI.t22, hI.t23, hI.t24, hI.t25, hI.t26, fun _ => rfl, fun _ => rfl, hI.t29, hI.t30, hI.t31, hI.t32, hI.t33, hI.t34, hI.t35, hI.t36, hI.t37, hI.t38, hI.t39, hI.t40, hI.t41, hI.bw⟩⟩)
        · rintro L a wx ⟨v, rfl, hI⟩ hL hdep hcl K hK
          have e28 := hI.t28 (hdep 28 (by decide))
          have e27 := hI.t27 (hdep 27 (by decide))
          rw [e28, e27]
          clear e28 e27
          cases g12 <;> first | (refine (if_neg (by exact fun h => Bool.noConfusion (show false = true from h))).mpr ?_; exact hK _ _ ⟨(upd (upd (upd v 97 _) 96 _) 98 _), rfl, ⟨hI.t0, hI.t1, hI.t2, hI.t3, hI.t4, hI.t5, hI.t6, hI.t7, hI.t8, hI.t9, hI.t10, hI.t11, hI.t12, hI.t13, hI.t14, hI.t15, hI.t16, hI.t17, hI.t18, hI.t19, hI.t20, hI.t21, hI.t22, hI.t23, hI.t24, hI.t25, hI.t26, fun _ => rfl, fun _ => rfl, fun _ => rfl, hI.t30, hI.t31, hI.t32, hI.t33, hI.t34, hI.t35, hI.t36, hI.t37, hI.t38, hI.t39, hI.t40, hI.t41, hI.bw⟩⟩) | (refine (if_pos rfl).mpr ?_; refine ow_load 52 _ rfl X5 2 rfl 55 dH (bvs root) (hW5.to hI.bw hW5.lt) hpr.out (.array 32 5) Try.underlying52 rfl hzr.out ?_; exact hK _ _ ⟨(upd (upd (upd v 97 _) 96 _) 98 _), rfl, ⟨hI.t0, hI.t1, hI.t2, hI.t3, hI.t4, hI.t5, hI.t6, hI.t7, hI.t8, hI.t9, hI.t10, hI.t11, hI.t12, hI.t13, hI.t14, hI.t15, hI.t16, hI.t17, hI.t18, hI.t19, hI.t20, hI.t21, hI.t22, hI.t23, hI.t24, hI.t25, hI.t26, fun _ => rfl, fun _ => rfl, fun _ => rfl, hI.t30, hI.t31, hI.t32, hI.t33, hI.t34, hI.t35, hI.t36, hI.t37, hI.t38, hI.t39, hI.t40, hI.t41, hI.bw⟩⟩)
        · rintro L a wx ⟨v, rfl, hI⟩ hL hdep hcl K hK
          have e27 := hI.t27 (hdep 27 (by decide))
          rw [e27]
          clear e27
          cases g12 <;> first | (refine (if_neg (by exact fun h => Bool.noConfusion (show false = true from h))).mpr ?_; exact hK _ _ ⟨(upd (upd v 96 _) 99 _), rfl, ⟨hI.t0, hI.t1, hI.t2, hI.t3, hI.t4, hI.t5, hI.t6, hI.t7, hI.t8, hI.t9, hI.t10, hI.t11, hI.t12, hI.t13, hI.t14, hI.t15, hI.t16, hI.t17, hI.t18, hI.t19, hI.t20, hI.t21, hI.t22, hI.t23, hI.t24, hI.t25, hI.t26, fun _ => rfl, hI.t28, hI.t29, fun _ => rfl, hI.t31, hI.t32, hI.t33, hI.t34, hI.t35, hI.t36, hI.t37, hI.t38, hI.t39, hI.t40, hI.t41, hI.bw⟩⟩) | (refine (if_pos rfl).mpr ?_; go_simp; exact hK _ _ ⟨(upd (upd v 96 _) 99 _), rfl, ⟨hI.t0, hI.t1, hI.t2, hI.t3, hI.t4, hI.t5, hI.t6, hI.t7, hI.t8, hI.t9, hI.t10, hI.t11, hI.t12, hI.t13, hI.t14, hI.t15, hI.t16, hI.t17, hI.t18, hI.t19, hI.t20, hI.t21, hI.t22, hI.t23, hI.t24, hI.t25, hI.t26, fun _ => rfl, hI.t28, hI.t29, fun _ => rfl, hI.t31, hI.t32, hI.t33, hI.t34, hI.t35, hI.t36, hI.t37, hI.t38, hI.t39, hI.t40, hI.t41, hI.bw⟩⟩)
        · rintro L a wx ⟨v, rfl, hI⟩ hL hdep hcl K hK
          have e30 := hI.t30 (hdep 30 (by decide))
          have e27 := hI.t27 (hdep 27 (by decide))
          rw [e30, e27]
          clear e30 e27
          cases g12 <;> first | (refine (if_neg (by exact fun h => Bool.noConfusion (show false = true from h))).mpr ?_; exact hK _ _ ⟨(upd (upd (upd v 99 _) 96 _) 100 _), rfl, ⟨hI.t0, hI.t1, hI.t2, hI.t3, hI.t4, hI.t5, hI.t6, hI.t7, hI.t8, hI.t9, hI.t10, hI.t11, hI.t12, hI.t13, hI.t14, hI.t15, hI.t16, hI.t17, hI.t18, hI.t19, hI.t20, hI.t21, hI.t22, hI.t23, hI.t24, hI.t25, hI.t26, fun _ => rfl, hI.t28, hI.t29, fun _ => rfl, fun _ => rfl, hI.t32, hI.t33, hI.t34, hI.t35, hI.t36, hI.t37, hI.t38, hI.t39, hI.t40, hI.t41, hI.bw⟩⟩) | (refine (if_pos rfl).mpr ?_; refine ow_load 52 _ rfl X6 2 rfl 55 dK (bvs root') (hW6.to hI.bw hW6.lt) hpr'.out (.array 32 5) Try.underlying52 rfl hzr'.out ?_; exact hK _ _ ⟨(upd (upd (upd v 99 _) 96 _) 100 _), rfl, ⟨hI.t0, hI.t1, hI.t2, hI.t3, hI.t4, hI.t5, hI.t6, hI.t7, hI.t8, hI.t9, hI.t10, hI.t11, hI.t12, hI.t13, hI.t14, hI.t15, hI.t16, hI.t17, hI.t18, hI.t19, hI.t20, hI.t21, hI.t22, hI.t23, hI.t24, hI.t25, hI.t26, fun _ => rfl, hI.t28, hI.t29, fun _ => rfl, fun _ => rfl, hI.t32, hI.t33, hI.t34, hI.t35, hI.t36, hI.t37, hI.t38, hI.t39, hI.t40, hI.t41, hI.bw⟩⟩)
        · rintro L a wx ⟨v, rfl, hI⟩ hL hdep hcl K hK
          have e29 := hI.t29 (hdep 29 (by decide))
          have e31 := hI.t31 (hdep 31 (by decide))
          have e27 := hI.t27 (hdep 27 (by decide))
          rw [e29, e31, e27]
          clear e29 e31 e27
          cases g12 <;> first | (refine (if_neg (by exact fun h => Bool.noConfusion (show false = true from h))).mpr ?_; exact hK _ _ ⟨(upd (upd (upd (upd v 98 _) 100 _) 96 _) 101 _), rfl, ⟨hI.t0, hI.t1, hI.t2, hI.t3, hI.t4, hI.t5, hI.t6, hI.t7, hI.t8, hI.t9, hI.t10, hI.t11, hI.t12, hI.t13, hI.t14, hI.t15, hI.t16, hI.t17, hI.t18, hI.t19, hI.t20, hI.t21, hI.t22, hI.t23, hI.t24, hI.t25, hI.t26, fun _ => rfl, hI.t28, fun _ => rfl, hI.t30, fun _ => rfl, fun _ => rfl, hI.t33, hI.t34, hI.t35, hI.t36, hI.t37, hI.t38, hI.t39, hI.t40, hI.t41, hI.bw⟩⟩) | (refine (if_pos rfl).mpr ?_; have heq := hrr.out wx; go_simp; exact hK _ _ ⟨(upd (upd (upd (upd v 98 _) 100 _) 96 _) 101 _), rfl, ⟨hI.t0, hI.t1, hI.t2, hI.t3, hI.t4, hI.t5, hI.t6, hI.t7, hI.t8, hI.t9, hI.t10, hI.t11, hI.t12, hI.t13, hI.t14, hI.t15, hI.t16, hI.t17, hI.t18, hI.t19, hI.t20, hI.t21, hI.t22, hI.t23, hI.t24, hI.t25, hI.t26, fun _ => rfl, hI.t28, fun _ => rfl, hI.t30, fun _ => rfl, fun _ => rfl, hI.t33, hI.t34, hI.t35, hI.t36, hI.t37, hI.t38, hI.t39, hI.t40, hI.t41, hI.bw⟩⟩)
        · rintro L a wx ⟨v, rfl, hI⟩ hL hdep hcl K hK
          have e27 := hI.t27 (hdep 27 (by decide))
          have e32 := hI.t32 (hdep 32 (by decide))
          have e11 := hI.t11 (hdep 11 (by decide))
          rw [e27, e32, e11]
          clear e27 e32 e11
          cases g12 <;> (have hgx := HG3.out; subst hgx) <;> first | (refine (if_neg (by exact fun h => Bool.noConfusion (show false = true from h))).mpr ?_; exact hK _ _ ⟨(upd (upd (upd (upd v 96 _) 101 _) 80 _) 102 _), rfl, ⟨hI.t0, hI.t1, hI.t2, hI.t3, hI.t4, hI.t5, hI.t6, hI.t7, hI.t8, hI.t9, hI.t10, fun _ => rfl, hI.t12, hI.t13, hI.t14, hI.t15, hI.t16, hI.t17, hI.t18, hI.t19, hI.t20, hI.t21, hI.t22, hI.t23, hI.t24, hI.t25, hI.t26, fun _ => rfl, hI.t28, hI.t29, hI.t30, hI.t31, fun _ => rfl, fun _ => rfl, hI.t34, hI.t35, hI.t36, hI.t37, hI.t38, hI.t39, hI.t40, hI.t41, hI.bw⟩⟩) | (refine (if_pos rfl).mpr ?_; go_simp; exact hK _ _ ⟨(upd (upd (upd (upd v 96 _) 101 _) 80 _) 102 _), rfl, ⟨hI.t0, hI.t1, hI.t2, hI.t3, hI.t4, hI.t5, hI.t6, hI.t7, hI.t8, hI.t9, hI.t10, fun _ => rfl, hI.t12, hI.t13, hI.t14, hI.t15, hI.t16, hI.t17, hI.t18, hI.t19, hI.t20, hI.t21, hI.t22, hI.t23, hI.t24, hI.t25, hI.t26, fun _ => rfl, hI.t28, hI.t29, hI.t30, hI.t31, fun _ => rfl, fun _ => rfl, hI.t34, hI.t35, hI.t36, hI.t37, hI.t38, hI.t39, hI.t40, hI.t41, hI.bw⟩⟩)
        · rintro L a wx ⟨v, rfl, hI⟩ hL hdep hcl K hK
          have e14 := hI.t14 (hdep 14 (by decide))
          have e33 := hI.t33 (hdep 33 (by decide))
          have e11 := hI.t11 (hdep 11 (by decide))
          rw [e14, e33, e11]
          clear e14 e33 e11
          cases g3 <;> first | (refine (if_neg (by exact fun h => Bool.noConfusion (show false = true from h))).mpr ?_; exact hK _ _ ⟨(upd (upd (upd (upd v 83 _) 102 _) 80 _) 103 _), rfl, ⟨hI.t0, hI.t1, hI.t2, hI.t3, hI.t4, hI.t5, hI.t6, hI.t7, hI.t8, hI.t9, hI.t10, fun _ => rfl, hI.t12, hI.t13, fun _ => rfl, hI.t15, hI.t16, hI.t17, hI.t18, hI.t19, hI.t20, hI.t21, hI.t22, hI.t23, hI.t24, hI.t25, hI.t26, hI.t27, hI.t28, hI.t29, hI.t30, hI.t31, hI.t32, fun _ => rfl, fun _ => rfl, hI.t35, hI.t36, hI.t37, hI.t38, hI.t39, hI.t40, hI.t41, hI.bw⟩⟩) | (refine (if_pos rfl).mpr ?_; go_simp; exact hK _ _ ⟨(upd (upd (upd (upd v 83 _) 102 _) 80 _) 103 _), rfl, ⟨hI.t0, hI.t1, hI.t2, hI.t3, hI.t4, hI.t5, hI.t6, hI.t7, hI.t8, hI.t9, hI.t10, fun _ => rfl, hI.t12, hI.t13, fun _ => rfl, hI.t15, hI.t16, hI.t17, hI.t18, hI.t19, hI.t20, hI.t21, hI.t22, hI.t23, hI.t24, hI.t25, hI.t26, hI.t27, hI.t28, hI.t29, hI.t30, hI.t31, hI.t32, fun _ => rfl, fun _ => rfl, hI.t35, hI.t36, hI.t37, hI.t38, hI.t39, hI.t40, hI.t41, hI.bw⟩⟩)
        · rintro L a wx ⟨v, rfl, hI⟩ hL hdep hcl K hK
          have e11 := hI.t11 (hdep 11 (by decide))
          have e34 := hI.t34 (hdep 34 (by decide))
          rw [e11, e34]
          go_simp
          exact hK _ _ ⟨(upd (upd (upd v 80 (.bool true)) 103 (.bool true)) 104 (.bool true)), rfl, ⟨hI.t0, hI.t1, hI.t2, hI.t3, hI.t4, hI.t5, hI.t6, hI.t7, hI.t8, hI.t9, hI.t10, fun _ => rfl, hI.t12, hI.t13, hI.t14, hI.t15, hI.t16, hI.t17, hI.t18, hI.t19, hI.t20, hI.t21, hI.t22, hI.t23, hI.t24, hI.t25, hI.t26, hI.t27, hI.t28, hI.t29, hI.t30, hI.t31, hI.t32, hI.t33, fun _ => rfl, fun _ => rfl, hI.t36, hI.t37, hI.t38, hI.t39, hI.t40, hI.t41, hI.bw⟩⟩
        · rintro L a wx ⟨v, rfl, hI⟩ hL hdep hcl K hK
          have e35 := hI.t35 (hdep 35 (by decide))
          have e27 := hI.t27 (hdep 27 (by decide))
          rw [e35, e27]
          go_simp
          exact hK _ _ ⟨(upd (upd (upd v 104 (.bool true)) 96 (.bool g12)) 105 (.bool true)), rfl, ⟨hI.t0, hI.t1, hI.t2, hI.t3, hI.t4, hI.t5, hI.t6, hI.t7, hI.t8, hI.t9, hI.t10, hI.t11, hI.t12, hI.t13, hI.t14, hI.t15, hI.t16, hI.t17, hI.t18, hI.t19, hI.t20, hI.t21, hI.t22, hI.t23, hI.t24, hI.t25, hI.t26, fun _ => rfl, hI.t28, hI.t29, hI.t30, hI.t31, hI.t32, hI.t33, hI.t34, fun _ => rfl, fun _ => rfl, hI.t37, hI.t38, hI.t39, hI.t40, hI.t41, hI.bw⟩⟩
        · rintro L a wx ⟨v, rfl, hI⟩ hL hdep hcl K hK
          have e36 := hI.t36 (hdep 36 (by decide))
          rw [e36]
          refine (if_pos rfl).mpr ?_
          go_simp
          exact hK _ _ ⟨(upd (upd v 105 (.bool true)) 106 (.slice am 50 cm)), rfl, ⟨hI.t0, hI.t1, hI.t2, hI.t3, hI.t4, hI.t5, hI.t6, hI.t7, hI.t8, hI.t9, hI.t10, hI.t11, hI.t12, hI.t13, hI.t14, hI.t15, hI.t16, hI.t17, hI.t18, hI.t19, hI.t20, hI.t21, hI.t22, hI.t23, hI.t24, hI.t25, hI.t26, hI.t27, hI.t28, hI.t29, hI.t30, hI.t31, hI.t32, hI.t33, hI.t34, hI.t35, fun _ => rfl, fun _ => rfl, hI.t38, hI.t39, hI.t40, hI.t41, hI.bw⟩⟩
        · rintro L a wx ⟨v, rfl, hI⟩ hL hdep hcl K hK
          have e37 := hI.t37 (hdep 37 (by decide))
          have e36 := hI.t36 (hdep 36 (by decide))
          rw [e37, e36]
          refine (if_pos rfl).mpr ?_
          go_simp
          exact hK _ _ ⟨(upd (upd (upd v 106 (.slice am 50 cm)) 105 (.bool true)) 107 (.int .i64 50)), rfl, ⟨hI.t0, hI.t1, hI.t2, hI.t3, hI.t4, hI.t5, hI.t6, hI.t7, hI.t8, hI.t9, hI.t10, hI.t11, hI.t12, hI.t13, hI.t14, hI.t15, hI.t16, hI.t17, hI.t18, hI.t19, hI.t20, hI.t21, hI.t22, hI.t23, hI.t24, hI.t25, hI.t26, hI.t27, hI.t28, hI.t29, hI.t30, hI.t31, hI.t32, hI.t33, hI.t34, hI.t35, fun _ => rfl, fun _ => rfl, fun _ => rfl, hI.t39, hI.t40, hI.t41, hI.bw⟩⟩
        · rintro L a wx ⟨v, rfl, hI⟩ hL hdep hcl K hK
          have e38 := hI.t38 (hdep 38 (by decide))
          have e36 := hI.t36 (hdep 36 (by decide))
          rw [e38, e36]
          refine (if_pos rfl).mpr ?_
          go_simp
          exact hK _ _ ⟨(upd (upd (upd v 107 (.int .i64 50)) 105 (.bool true)) 108 (.bool true)), rfl, ⟨hI.t0, hI.t1, hI.t2, hI.t3, hI.t4, hI.t5, hI.t6, hI.t7, hI.t8, hI.t9, hI.t10, hI.t11, hI.t12, hI.t13, hI.t14, hI.t15, hI.t16, hI.t17, hI.t18, hI.t19, hI.t20, hI.t21, hI.t22, hI.t23, hI.t24, hI.t25, hI.t26, hI.t27, hI.t28, hI.t29, hI.t30, hI.t31, hI.t32, hI.t33, hI.t34, hI.t35, fun _ => rfl, hI.t37, fun _ => rfl, fun _ => rfl, hI.t40, hI.t41, hI.bw⟩⟩
        · rintro L a wx ⟨v, rfl, hI⟩ hL hdep hcl K hK
          have e36 := hI.t36 (hdep 36 (by decide))
          have e39 := hI.t39 (hdep 39 (by decide))
          rw [e36, e39]
          go_simp
          exact hK _ _ ⟨(upd (upd (upd v 105 (.bool true)) 108 (.bool true)) 109 (.bool true)), rfl, ⟨hI.t0, hI.t1, hI.t2, hI.t3, hI.t4, hI.t5, hI.t6, hI.t7, hI.t8, hI.t9, hI.t10, hI.t11, hI.t12, hI.t13, hI.t14, hI.t15, hI.t16, hI.t17, hI.t18, hI.t19, hI.t20, hI.t21, hI.t22, hI.t23, hI.t24, hI.t25, hI.t26, hI.t27, hI.t28, hI.t29, hI.t30, hI.t31, hI.t32, hI.t33, hI.t34, hI.t35, fun _ => rfl, hI.t37, hI.t38, fun _ => rfl, fun _ => rfl, hI.t41, hI.bw⟩⟩
        · rintro L a wx ⟨v, rfl, hI⟩ hL hdep hcl K hK
          have e40 := hI.t40 (hdep 40 (by decide))
          rw [e40]
          go_simp
          exact hK _ _ ⟨(upd (upd v 109 (.bool true)) 2 (.bool true)), rfl, ⟨hI.t0, hI.t1, hI.t2, hI.t3, hI.t4, hI.t5, hI.t6, hI.t7, hI.t8, hI.t9, hI.t10, hI.t11, hI.t12, hI.t13, hI.t14, hI.t15, hI.t16, hI.t17, hI.t18, hI.t19, hI.t20, hI.t21, hI.t22, hI.t23, hI.t24, hI.t25, hI.t26, hI.t27, hI.t28, hI.t29, hI.t30, hI.t31, hI.t32, hI.t33, hI.t34, hI.t35, hI.t36, hI.t37, hI.t38, hI.t39, fun _ => rfl, fun _ => rfl, hI.bw⟩⟩
        · rintro a wx ⟨v, rfl, hI⟩
          have eEnd := hI.t41 rfl
          rw [eEnd]
          clear eEnd
          have hbw8 := hI.bw
          go_wp2
          go_ret
          exact ⟨rfl, hb07.trans (hbw8.mono hb07.size)⟩
end Go.Proofs.Ytcohcjhbkiangaa
