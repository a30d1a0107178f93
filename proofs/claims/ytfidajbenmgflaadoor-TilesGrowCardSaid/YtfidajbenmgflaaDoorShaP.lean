/-
  SHA-256 on plain lists: the numbers of a block, a block that goes in. Conditions: those in each statement.
-/
import Derived.Test.YtfidajbenmgflaaDoorShaB
namespace Go.Proofs.YtfidajbenmgflaaDoor
open Go.RowKit

def be4 (a b c d : UInt8) : UInt32 := UInt32.ofNat (((a.toNat * 256 + b.toNat) * 256 + c.toNat) * 256 + d.toNat)
def word (xs : List UInt8) (i : Nat) : UInt32 := be4 (xs.getD (4 * i) 0) (xs.getD (4 * i + 1) 0) (xs.getD (4 * i + 2) 0) (xs.getD (4 * i + 3) 0)
def words (xs : List UInt8) (k : Nat) : List UInt32 := (List.range k).map (word xs)
def shr (x : UInt32) (k : Nat) : UInt32 := UInt32.ofNat (x.toNat / 2 ^ k)
def sg0 (x : UInt32) : UInt32 := rot x 7 ^^^ rot x 18 ^^^ shr x 3
def sg1 (x : UInt32) : UInt32 := rot x 17 ^^^ rot x 19 ^^^ shr x 10
def nextW (ws : List UInt32) : UInt32 := ws.getD (ws.length - 16) 0 + ws.getD (ws.length - 7) 0 + sg0 (ws.getD (ws.length - 15) 0) + sg1 (ws.getD (ws.length - 2) 0)
def grow : Nat → List UInt32 → List UInt32
  | 0, ws => ws
  | k + 1, ws => grow k ws ++ [nextW (grow k ws)]
def sched (xs : List UInt8) : List UInt32 := grow 48 (words xs 16)

theorem be4_toNat (a b c d : UInt8) : (be4 a b c d).toNat = ((a.toNat * 256 + b.toNat) * 256 + c.toNat) * 256 + d.toNat := by
  have ha := a.toNat_lt
  have hb := b.toNat_lt
  have hc := c.toNat_lt
  have hd := d.toNat_lt
  unfold be4
  rw [UInt32.toNat_ofNat']
  omega
theorem shr_toNat (x : UInt32) (k : Nat) : (shr x k).toNat = x.toNat / 2 ^ k := by
  unfold shr
  rw [UInt32.toNat_ofNat']
  exact Nat.mod_eq_of_lt (Nat.lt_of_le_of_lt (Nat.div_le_self _ _) (u32_lt x))
theorem words_len (xs : List UInt8) (k : Nat) : (words xs k).length = k := by simp [words]
theorem words_snoc (xs : List UInt8) (k : Nat) : words xs (k + 1) = words xs k ++ [word xs k] := by simp [words, List.range_succ]
theorem grow_len (k : Nat) (ws : List UInt32) : (grow k ws).length = ws.length + k := by
  induction k with
  | zero => rfl
  | succ k ih => simp [grow, ih]; omega
theorem sched_len (xs : List UInt8) : (sched xs).length = 64 := by unfold sched; rw [grow_len, words_len]

/-- a list, and noughts behind it up to n -/
def padZ (ws : List UInt32) (n : Nat) : List UInt32 := ws ++ Z (n - ws.length)
theorem padZ_len (ws : List UInt32) (n : Nat) (h : ws.length ≤ n) : (padZ ws n).length = n := by simp [padZ, Z]; omega
theorem padZ_snoc (ws : List UInt32) (n : Nat) (x : UInt32) (h : ws.length < n) : (padZ ws n).set ws.length x = padZ (ws ++ [x]) n := by
  unfold padZ Z
  rw [List.set_append_right _ _ (Nat.le_refl _), Nat.sub_self, show n - ws.length = (n - (ws ++ [x]).length) + 1 from by simp; omega, List.replicate_succ]
  simp
theorem padZ_getD (ws : List UInt32) (n j : Nat) (h : j < ws.length) : (padZ ws n).getD j 0 = ws.getD j 0 := by
  simp only [padZ, List.getD]
  rw [List.getElem?_append_left h]
theorem padZ_full (ws : List UInt32) (n : Nat) (h : ws.length = n) : padZ ws n = ws := by simp [padZ, Z, h]

/-- the bytes of a number, joined by or -/
theorem or4 (a b c d : Nat) (ha : a < 256) (hb : b < 256) (hc : c < 256) (hd : d < 256) :
    bits .or .u32 (bits .or .u32 (bits .or .u32 ((a : Int) * 16777216) ((b : Int) * 65536)) ((c : Int) * 256)) (d : Int) = (((a * 256 + b) * 256 + c) * 256 + d : Nat) := by
  have j : ∀ (i : Nat) (x y : Int), i ≤ 32 → 0 ≤ x → x % 2 ^ i = 0 → x < 2 ^ 32 → 0 ≤ y → y < 2 ^ i → y < 2 ^ 32 → bits .or .u32 x y = x + y := fun i x y _ h1 h2 h3 h4 h5 h6 =>
    bits_join .u32 32 (by decide) (fun n h0 h1 => by rw [IntKind.wrap_u32]; omega) i x y h1 h2 h3 h4 h5 h6
  rw [j 24 ((a : Int) * 16777216) ((b : Int) * 65536) (by omega) (by omega) (by omega) (by omega) (by omega) (by omega) (by omega)]
  rw [j 16 _ ((c : Int) * 256) (by omega) (by omega) (by omega) (by omega) (by omega) (by omega) (by omega)]
  rw [j 8 _ (d : Int) (by omega) (by omega) (by omega) (by omega) (by omega) (by omega) (by omega)]
  omega
theorem shr_raw (x : UInt32) (k : Nat) : (x.toNat : Int) / ((2 ^ k : Nat) : Int) = ((shr x k).toNat : Int) := by rw [shr_toNat]; simp
theorem nextW_raw (x16 x7 x15 x2 : UInt32) :
    ((x16.toNat : Int) + (x7.toNat : Int) + bits .xor .u32 (bits .xor .u32 ((rot x15 7).toNat : Int) ((rot x15 18).toNat : Int)) ((x15.toNat : Int) / 8) +
      bits .xor .u32 (bits .xor .u32 ((rot x2 17).toNat : Int) ((rot x2 19).toNat : Int)) ((x2.toNat : Int) / 1024)) % 4294967296 = ((x16 + x7 + sg0 x15 + sg1 x2).toNat : Int) := by
  have e1 : (x15.toNat : Int) / 8 = ((shr x15 3).toNat : Int) := shr_raw x15 3
  have e2 : (x2.toNat : Int) / 1024 = ((shr x2 10).toNat : Int) := shr_raw x2 10
  rw [e1, e2, q_xor, q_xor, q_xor, q_xor]
  show _ = ((x16 + x7 + (rot x15 7 ^^^ rot x15 18 ^^^ shr x15 3) + (rot x2 17 ^^^ rot x2 19 ^^^ shr x2 10)).toNat : Int)
  simp only [UInt32.toNat_add]
  omega
/-- the state, as eight numbers -/
structure R8 where
  a : UInt32
  b : UInt32
  c : UInt32
  d : UInt32
  e : UInt32
  f : UInt32
  g : UInt32
  h : UInt32
def R8.list (s : R8) : List UInt32 := [s.a, s.b, s.c, s.d, s.e, s.f, s.g, s.h]
def R8.add (s t : R8) : R8 := ⟨s.a + t.a, s.b + t.b, s.c + t.c, s.d + t.d, s.e + t.e, s.f + t.f, s.g + t.g, s.h + t.h⟩
def R8.x (s : R8) (k w : UInt32) : UInt32 := s.h + (rot s.e 6 ^^^ rot s.e 11 ^^^ rot s.e 25) + ((s.e &&& s.f) ^^^ (~~~s.e &&& s.g)) + k + w
def R8.y (s : R8) : UInt32 := (rot s.a 2 ^^^ rot s.a 13 ^^^ rot s.a 22) + ((s.a &&& s.b) ^^^ (s.a &&& s.c) ^^^ (s.b &&& s.c))
def R8.step (s : R8) (k w : UInt32) : R8 := ⟨s.x k w + s.y, s.a, s.b, s.c, s.d + s.x k w, s.e, s.f, s.g⟩
def R8.run (s : R8) (ws : List UInt32) : Nat → R8
  | 0 => s
  | i + 1 => (s.run ws i).step (K64.getD i 0) (ws.getD i 0)
/-- the state behind a block -/
def blk (s : R8) (xs : List UInt8) : R8 := s.add (s.run (sched xs) 64)

theorem step_a (a b c d e f g h x y : UInt32) :
    (((h.toNat : Int) + bits .xor .u32 (bits .xor .u32 ((rot e 6).toNat : Int) ((rot e 11).toNat : Int)) ((rot e 25).toNat : Int) +
        bits .xor .u32 (bits .and .u32 (e.toNat : Int) (f.toNat : Int)) (bits .and .u32 (bits .xor .u32 (if IntKind.u32.signed = true then -1 else IntKind.u32.max) (e.toNat : Int)) (g.toNat : Int)) +
        (x.toNat : Int) + (y.toNat : Int)) % 4294967296 +
      (bits .xor .u32 (bits .xor .u32 ((rot a 2).toNat : Int) ((rot a 13).toNat : Int)) ((rot a 22).toNat : Int) +
        bits .xor .u32 (bits .xor .u32 (bits .and .u32 (a.toNat : Int) (b.toNat : Int)) (bits .and .u32 (a.toNat : Int) (c.toNat : Int))) (bits .and .u32 (b.toNat : Int) (c.toNat : Int))) % 4294967296) % 4294967296 =
    (((R8.mk a b c d e f g h).step x y).a.toNat : Int) := by
  simp only [q_xor, q_and, q_not, R8.step, R8.x, R8.y, UInt32.toNat_add]
  omega
theorem step_e (a b c d e f g h x y : UInt32) :
    ((d.toNat : Int) + ((h.toNat : Int) + bits .xor .u32 (bits .xor .u32 ((rot e 6).toNat : Int) ((rot e 11).toNat : Int)) ((rot e 25).toNat : Int) +
        bits .xor .u32 (bits .and .u32 (e.toNat : Int) (f.toNat : Int)) (bits .and .u32 (bits .xor .u32 (if IntKind.u32.signed = true then -1 else IntKind.u32.max) (e.toNat : Int)) (g.toNat : Int)) +
        (x.toNat : Int) + (y.toNat : Int)) % 4294967296) % 4294967296 =
    (((R8.mk a b c d e f g h).step x y).e.toNat : Int) := by
  simp only [q_xor, q_and, q_not, R8.step, R8.x, UInt32.toNat_add]
  omega
/-- the sum as a walk leaves it -/
def raw8 (s t : R8) : List Value := [.int .u32 (((s.a.toNat : Int) + (t.a.toNat : Int)) % 4294967296), .int .u32 (((s.b.toNat : Int) + (t.b.toNat : Int)) % 4294967296), .int .u32 (((s.c.toNat : Int) + (t.c.toNat : Int)) % 4294967296), .int .u32 (((s.d.toNat : Int) + (t.d.toNat : Int)) % 4294967296), .int .u32 (((s.e.toNat : Int) + (t.e.toNat : Int)) % 4294967296), .int .u32 (((s.f.toNat : Int) + (t.f.toNat : Int)) % 4294967296), .int .u32 (((s.g.toNat : Int) + (t.g.toNat : Int)) % 4294967296), .int .u32 (((s.h.toNat : Int) + (t.h.toNat : Int)) % 4294967296)]
theorem raw8_eq (s t : R8) : raw8 s t = qs (s.add t).list := by
  unfold raw8
  simp only [q_add]
  rfl
theorem raw8_one (s t : R8) : ∀ v ∈ raw8 s t, v.oneCell' = true := by rw [raw8_eq]; exact qs_one _
/-- the first bytes of a word -/
def pw (xs : List UInt8) (i : Nat) : Nat → UInt32
  | 0 => 0
  | j + 1 => 256 * pw xs i j + UInt32.ofNat (xs.getD (4 * i + j) 0).toNat
theorem pw_four (xs : List UInt8) (i : Nat) : pw xs i 4 = word xs i := by
  have b0 := (xs.getD (4 * i) 0).toNat_lt
  have b1 := (xs.getD (4 * i + 1) 0).toNat_lt
  have b2 := (xs.getD (4 * i + 2) 0).toNat_lt
  have b3 := (xs.getD (4 * i + 3) 0).toNat_lt
  apply UInt32.toNat_inj.1
  unfold word
  rw [be4_toNat]
  simp only [pw, Nat.add_zero]
  generalize xs.getD (4 * i) 0 = y0 at *
  generalize xs.getD (4 * i + 1) 0 = y1 at *
  generalize xs.getD (4 * i + 2) 0 = y2 at *
  generalize xs.getD (4 * i + 3) 0 = y3 at *
  simp only [ UInt32.toNat_add, UInt32.toNat_mul, UInt32.toNat_ofNat']
  simp
  omega
theorem pw_raw (xs : List UInt8) (i j : Nat) : (256 * ((pw xs i j).toNat : Int) + ((xs.getD (4 * i + j) 0).toNat : Int)) % 4294967296 = ((pw xs i (j + 1)).toNat : Int) := by
  have b0 := (xs.getD (4 * i + j) 0).toNat_lt
  simp only [pw, UInt32.toNat_add, UInt32.toNat_mul, UInt32.toNat_ofNat']
  generalize xs.getD (4 * i + j) 0 = y0 at *
  simp
theorem rnextW_raw (x16 x7 x15 x2 : UInt32) :
    ((x16.toNat : Int) + bits .xor .u32 (bits .xor .u32 ((rot x15 7).toNat : Int) ((rot x15 18).toNat : Int)) ((x15.toNat : Int) / 8) + (x7.toNat : Int) +
      bits .xor .u32 (bits .xor .u32 ((rot x2 17).toNat : Int) ((rot x2 19).toNat : Int)) ((x2.toNat : Int) / 1024)) % 4294967296 = ((x16 + x7 + sg0 x15 + sg1 x2).toNat : Int) := by
  rw [← nextW_raw]
  congr 1
  omega
theorem sg0_raw (x : UInt32) : bits .xor .u32 (bits .xor .u32 ((rot x 7).toNat : Int) ((rot x 18).toNat : Int)) ((x.toNat : Int) / 8) = ((sg0 x).toNat : Int) := by
  have e1 : (x.toNat : Int) / 8 = ((shr x 3).toNat : Int) := shr_raw x 3
  rw [e1, q_xor, q_xor]; rfl
theorem sg1_raw (x : UInt32) : bits .xor .u32 (bits .xor .u32 ((rot x 17).toNat : Int) ((rot x 19).toNat : Int)) ((x.toNat : Int) / 1024) = ((sg1 x).toNat : Int) := by
  have e1 : (x.toNat : Int) / 1024 = ((shr x 10).toNat : Int) := shr_raw x 10
  rw [e1, q_xor, q_xor]; rfl
theorem sum4_raw (a b c d : UInt32) : ((a.toNat : Int) + (c.toNat : Int) + (b.toNat : Int) + (d.toNat : Int)) % 4294967296 = ((a + b + c + d).toNat : Int) := by
  simp only [UInt32.toNat_add]
  omega
theorem blk_list (s : R8) (xs : List UInt8) : (blk s xs).list = (s.add (s.run (sched xs) 64)).list := rfl
end Go.Proofs.YtfidajbenmgflaaDoor
