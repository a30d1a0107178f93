/-
  JSON over plain values and lists of bytes: values, texts, a reader, there and back. Conditions: those in each statement.
-/
import Derived.Test.YtehlgflpkofooaaDoorBytes
namespace Go.Proofs.YtehlgflpkofooaaDoor

/-- a value -/
inductive JV where
  | mk (kind : Int) (str : List UInt8) (num : Nat) (list : List JV) (keys : List (List UInt8)) : JV
abbrev JV.kind : JV → Int | .mk k _ _ _ _ => k
abbrev JV.str : JV → List UInt8 | .mk _ s _ _ _ => s
abbrev JV.num : JV → Nat | .mk _ _ n _ _ => n
abbrev JV.list : JV → List JV | .mk _ _ _ l _ => l
abbrev JV.keys : JV → List (List UInt8) | .mk _ _ _ _ ks => ks
def JV.zero : JV := .mk 0 [] 0 [] []

def cont (d : UInt8) : Bool := 128 ≤ d.toNat && d.toNat ≤ 191
/-- is it UTF-8? -/
def utf8F : List UInt8 → Bool
  | [] => true
  | c :: r =>
    if c.toNat < 128 then utf8F r
    else if 194 ≤ c.toNat ∧ c.toNat < 224 then
      match r with
      | d :: r1 => cont d && utf8F r1
      | _ => false
    else if 224 ≤ c.toNat ∧ c.toNat < 240 then
      match r with
      | d :: e :: r2 => cont d && cont e && decide (2048 ≤ 4096 * (c.toNat - 224) + 64 * (d.toNat - 128) + (e.toNat - 128)) && !(decide (55296 ≤ 4096 * (c.toNat - 224) + 64 * (d.toNat - 128) + (e.toNat - 128)) && decide (4096 * (c.toNat - 224) + 64 * (d.toNat - 128) + (e.toNat - 128) < 57344)) && utf8F r2
      | _ => false
    else if 240 ≤ c.toNat ∧ c.toNat < 245 then
      match r with
      | d :: e :: f :: r3 => cont d && cont e && cont f && decide (65536 ≤ 262144 * (c.toNat - 240) + 4096 * (d.toNat - 128) + 64 * (e.toNat - 128) + (f.toNat - 128)) && decide (262144 * (c.toNat - 240) + 4096 * (d.toNat - 128) + 64 * (e.toNat - 128) + (f.toNat - 128) ≤ 1114111) && utf8F r3
      | _ => false
    else false

/-- all names differ -/
def apartF : List (List UInt8) → Bool
  | [] => true
  | k :: r => !r.contains k && apartF r
/-- what may be of a value, but for what is in its list -/
def headF (k : Int) (s : List UInt8) (n : Nat) (l : List JV) (ks : List (List UInt8)) (most : Nat) : Bool :=
  decide (0 ≤ k) && decide (k ≤ 6) && (decide (k = 3) || decide (n = 0)) && (decide (k = 4) || s.isEmpty) && (decide (k = 6) || ks.isEmpty) && (decide (5 ≤ k) || l.isEmpty) &&
  (decide (k < 5) || decide (0 < most)) && utf8F s && (decide (k ≠ 6) || decide (ks.length = l.length)) && ks.all utf8F && apartF ks
mutual
def mayF : JV → Nat → Bool
  | .mk k s n l ks, most => headF k s n l ks most && mayL l (most - 1)
def mayL : List JV → Nat → Bool
  | [], _ => true
  | v :: r, most => mayF v most && mayL r most
end
mutual
def sameF : JV → JV → Bool
  | .mk k s n l ks, .mk k' s' n' l' ks' => decide (k = k') && decide (s = s') && decide (n = n') && decide (ks = ks') && sameL l l'
def sameL : List JV → List JV → Bool
  | [], [] => true
  | v :: r, v' :: r' => sameF v v' && sameL r r'
  | _, _ => false
end

def hexD (n : Nat) : UInt8 := if n < 10 then UInt8.ofNat (48 + n) else UInt8.ofNat (87 + n)
/-- a byte of a string, as text -/
def escF (c : UInt8) : List UInt8 := if c.toNat < 32 then [92, 117, 48, 48, hexD (c.toNat / 16), hexD (c.toNat % 16)] else if c = 34 ∨ c = 92 then [92, c] else [c]
def wordF (s : List UInt8) : List UInt8 := 34 :: (s.flatMap escF ++ [34])
/-- a number's digits -/
def digitsF (n : Nat) : List UInt8 := if n < 10 then [UInt8.ofNat (48 + n)] else digitsF (n / 10) ++ [UInt8.ofNat (48 + n % 10)]
mutual
/-- the plain text -/
def plainF : JV → List UInt8
  | .mk k s n l ks =>
    if k = 0 then [110, 117, 108, 108] else if k = 1 then [102, 97, 108, 115, 101] else if k = 2 then [116, 114, 117, 101] else if k = 3 then digitsF n else if k = 4 then wordF s
    else if k = 6 then 123 :: (plainO l ks ++ [125]) else 91 :: (plainA l ++ [93])
/-- values parted by commas -/
def plainA : List JV → List UInt8
  | [] => []
  | v :: r => plainF v ++ plainAt r
def plainAt : List JV → List UInt8
  | [] => []
  | v :: r => 44 :: (plainF v ++ plainAt r)
/-- members parted by commas -/
def plainO : List JV → List (List UInt8) → List UInt8
  | [], _ => []
  | v :: r, ks => wordF (ks.headD []) ++ 58 :: (plainF v ++ plainOt r ks.tail)
def plainOt : List JV → List (List UInt8) → List UInt8
  | [], _ => []
  | v :: r, ks => 44 :: (wordF (ks.headD []) ++ 58 :: (plainF v ++ plainOt r ks.tail))
end

def isBlank (c : UInt8) : Bool := c == 32 || c == 9 || c == 10 || c == 13
def blanksF : List UInt8 → List UInt8
  | [] => []
  | c :: r => if isBlank c then blanksF r else c :: r
/-- signs that must be next -/
def mustF : List UInt8 → List UInt8 → Option (List UInt8)
  | [], b => some b
  | _ :: _, [] => none
  | c :: r, d :: b => if c = d then mustF r b else none
def hexV (c : UInt8) : Option Nat :=
  if 48 ≤ c.toNat ∧ c.toNat ≤ 57 then some (c.toNat - 48) else if 97 ≤ c.toNat ∧ c.toNat ≤ 102 then some (c.toNat - 87) else if 65 ≤ c.toNat ∧ c.toNat ≤ 70 then some (c.toNat - 55) else none
/-- four digits to the base 16 -/
def fourF : List UInt8 → Option (Nat × List UInt8)
  | a :: b :: c :: d :: r => match hexV a, hexV b, hexV c, hexV d with
    | some x, some y, some z, some t => some (((x * 16 + y) * 16 + z) * 16 + t, r)
    | _, _, _, _ => none
  | _ => none
/-- a rune's bytes -/
def runeF (n : Nat) : List UInt8 :=
  if n < 128 then [UInt8.ofNat n] else if n < 2048 then [UInt8.ofNat (192 + n / 64), UInt8.ofNat (128 + n % 64)]
  else if n < 65536 then [UInt8.ofNat (224 + n / 4096), UInt8.ofNat (128 + n / 64 % 64), UInt8.ofNat (128 + n % 64)]
  else [UInt8.ofNat (240 + n / 262144), UInt8.ofNat (128 + n / 4096 % 64), UInt8.ofNat (128 + n / 64 % 64), UInt8.ofNat (128 + n % 64)]
/-- one sign that '\' tells for itself -/
def oneF (c : UInt8) : Option UInt8 :=
  if c = 34 ∨ c = 92 ∨ c = 47 then some c else if c = 98 then some 8 else if c = 102 then some 12 else if c = 110 then some 10 else if c = 114 then some 13 else if c = 116 then some 9 else none
/-- a string behind its first sign: what it says (UTF-8 is asked later), what is left -/
def strF : Nat → List UInt8 → Option (List UInt8 × List UInt8)
  | 0, _ => none
  | _ + 1, [] => none
  | f + 1, c :: r =>
    if c.toNat < 32 then none
    else if c = 34 then some ([], r)
    else if c ≠ 92 then (strF f r).map fun (s, q) => (c :: s, q)
    else match r with
      | [] => none
      | d :: r1 =>
        if d = 117 then
          match fourF r1 with
          | none => none
          | some (n, r2) =>
            if 55296 ≤ n ∧ n < 56320 then
              match mustF [92, 117] r2 with
              | none => none
              | some r3 =>
                match fourF r3 with
                | none => none
                | some (m, r4) => if 56320 ≤ m ∧ m ≤ 57343 then (strF f r4).map fun (s, q) => (runeF (65536 + 1024 * (n - 55296) + (m - 56320)) ++ s, q) else none
            else if 56320 ≤ n ∧ n < 57344 then none
            else (strF f r2).map fun (s, q) => (runeF n ++ s, q)
        else
          match oneF d with
          | none => none
          | some x => (strF f r1).map fun (s, q) => (x :: s, q)
def stringF (b : List UInt8) : Option (List UInt8 × List UInt8) :=
  match mustF [34] b with
  | none => none
  | some r => match strF (r.length + 1) r with
    | none => none
    | some (s, q) => if utf8F s then some (s, q) else none
def isDigit (c : UInt8) : Bool := 48 ≤ c.toNat && c.toNat ≤ 57
/-- digits, and what is left -/
def spanD : List UInt8 → List UInt8 × List UInt8
  | [] => ([], [])
  | c :: r => if isDigit c then (c :: (spanD r).1, (spanD r).2) else ([], c :: r)
def valD (l : List UInt8) : Nat := l.foldl (fun n c => 10 * n + (c.toNat - 48)) 0
def numF (b : List UInt8) : Option (Nat × List UInt8) :=
  if (spanD b).1 = [] then none else if (spanD b).1.headD 0 = 48 ∧ 1 < (spanD b).1.length then none
  else if valD (spanD b).1 < 18446744073709551616 then some (valD (spanD b).1, (spanD b).2) else none
mutual
/-- a value, that may have so many in one another -/
def valueF : Nat → Nat → List UInt8 → Option (JV × List UInt8)
  | 0, _, _ => none
  | f + 1, most, b0 =>
    match blanksF b0 with
    | [] => none
    | c :: r =>
      if c = 110 then (mustF [110, 117, 108, 108] (c :: r)).map fun q => (JV.mk 0 [] 0 [] [], q)
      else if c = 102 then (mustF [102, 97, 108, 115, 101] (c :: r)).map fun q => (JV.mk 1 [] 0 [] [], q)
      else if c = 116 then (mustF [116, 114, 117, 101] (c :: r)).map fun q => (JV.mk 2 [] 0 [] [], q)
      else if c = 34 then (stringF (c :: r)).map fun (s, q) => (JV.mk 4 s 0 [] [], q)
      else if c = 91 then
        if most = 0 then none
        else match blanksF r with
          | [] => none
          | d :: r1 => if d = 93 then some (JV.mk 5 [] 0 [] [], r1) else (itemsF f (most - 1) (d :: r1)).map fun (l, q) => (JV.mk 5 [] 0 l [], q)
      else if c = 123 then
        if most = 0 then none
        else match blanksF r with
          | [] => none
          | d :: r1 => if d = 125 then some (JV.mk 6 [] 0 [] [], r1) else (membersF f (most - 1) (d :: r1)).map fun (l, ks, q) => (JV.mk 6 [] 0 l ks, q)
      else (numF (c :: r)).map fun (n, q) => (JV.mk 3 [] n [] [], q)
/-- items of a list, up to its end -/
def itemsF : Nat → Nat → List UInt8 → Option (List JV × List UInt8)
  | 0, _, _ => none
  | f + 1, most, b =>
    match valueF f most b with
    | none => none
    | some (v, q) =>
      match blanksF q with
      | [] => none
      | c :: r => if c = 93 then some ([v], r) else if c = 44 then (itemsF f most r).map fun (l, q) => (v :: l, q) else none
/-- members of an object, up to its end -/
def membersF : Nat → Nat → List UInt8 → Option (List JV × List (List UInt8) × List UInt8)
  | 0, _, _ => none
  | f + 1, most, b =>
    match stringF (blanksF b) with
    | none => none
    | some (k, b1) =>
      match mustF [58] (blanksF b1) with
      | none => none
      | some b2 =>
        match valueF f most b2 with
        | none => none
        | some (v, q) =>
          match blanksF q with
          | [] => none
          | c :: r => if c = 125 then some ([v], [k], r) else if c = 44 then (membersF f most r).map fun (l, ks, q) => (v :: l, k :: ks, q) else none
end
/-- a text's value -/
def parseF (b : List UInt8) : Option JV :=
  match valueF (2 * b.length + 2) 8 b with
  | none => none
  | some (v, q) => if blanksF q = [] ∧ mayF v 8 = true then some v else none
end Go.Proofs.YtehlgflpkofooaaDoor
