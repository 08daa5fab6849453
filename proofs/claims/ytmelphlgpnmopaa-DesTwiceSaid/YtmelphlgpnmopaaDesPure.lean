/- DES over lists of bits: what chapter 8 says, and what follows: all bits turned; two blocks; a key of noughts or of ones. Nothing of the program. -/
import Derived.Test.YtmelphlgpnmopaaPure
namespace Go.Proofs.Ytmelphlgpnmopaa
namespace Pure
/-- Bits by their places, from 1 on. -/
def pick (b : List Bool) (ps : List Nat) : List Bool := ps.map fun p => b.getD (p - 1) false
theorem pick_length (b : List Bool) (ps : List Nat) : (pick b ps).length = ps.length := by simp [pick]
def pc1C : List Nat := [57, 49, 41, 33, 25, 17, 9, 1, 58, 50, 42, 34, 26, 18, 10, 2, 59, 51, 43, 35, 27, 19, 11, 3, 60, 52, 44, 36]
def pc1D : List Nat := [63, 55, 47, 39, 31, 23, 15, 7, 62, 54, 46, 38, 30, 22, 14, 6, 61, 53, 45, 37, 29, 21, 13, 5, 28, 20, 12, 4]
def ofKey (p : Nat) : Nat := 7 * ((p - 1) / 8) + (p - 1) % 8 + 1
def desHalf (d : Bool) : List Nat := (if d then pc1D else pc1C).map ofKey
def desStarts : List Nat := [58, 60, 62, 64, 57, 59, 61, 63]
def desIp : List Nat := (List.range 64).map fun i => desStarts.getD (i / 8) 0 - 8 * (i % 8)
def desPc2 : List Nat := [14, 17, 11, 24, 1, 5, 3, 28, 15, 6, 21, 10, 23, 19, 12, 4, 26, 8, 16, 7, 27, 20, 13, 2, 41, 52, 31, 37, 47, 55, 30, 40, 51, 45, 33, 48, 44, 49, 39, 56, 34, 53, 46, 42, 50, 36, 29, 32]
def desP : List Nat := [16, 7, 20, 21, 29, 12, 28, 17, 1, 15, 23, 26, 5, 18, 31, 10, 2, 8, 24, 14, 32, 27, 3, 9, 19, 13, 30, 6, 22, 11, 4, 25]
def desBox : Nat → List Nat
  | 0 => [14, 4, 13, 1, 2, 15, 11, 8, 3, 10, 6, 12, 5, 9, 0, 7, 0, 15, 7, 4, 14, 2, 13, 1, 10, 6, 12, 11, 9, 5, 3, 8, 4, 1, 14, 8, 13, 6, 2, 11, 15, 12, 9, 7, 3, 10, 5, 0, 15, 12, 8, 2, 4, 9, 1, 7, 5, 11, 3, 14, 10, 0, 6, 13]
  | 1 => [15, 1, 8, 14, 6, 11, 3, 4, 9, 7, 2, 13, 12, 0, 5, 10, 3, 13, 4, 7, 15, 2, 8, 14, 12, 0, 1, 10, 6, 9, 11, 5, 0, 14, 7, 11, 10, 4, 13, 1, 5, 8, 12, 6, 9, 3, 2, 15, 13, 8, 10, 1, 3, 15, 4, 2, 11, 6, 7, 12, 0, 5, 14, 9]
  | 2 => [10, 0, 9, 14, 6, 3, 15, 5, 1, 13, 12, 7, 11, 4, 2, 8, 13, 7, 0, 9, 3, 4, 6, 10, 2, 8, 5, 14, 12, 11, 15, 1, 13, 6, 4, 9, 8, 15, 3, 0, 11, 1, 2, 12, 5, 10, 14, 7, 1, 10, 13, 0, 6, 9, 8, 7, 4, 15, 14, 3, 11, 5, 2, 12]
  | 3 => [7, 13, 14, 3, 0, 6, 9, 10, 1, 2, 8, 5, 11, 12, 4, 15, 13, 8, 11, 5, 6, 15, 0, 3, 4, 7, 2, 12, 1, 10, 14, 9, 10, 6, 9, 0, 12, 11, 7, 13, 15, 1, 3, 14, 5, 2, 8, 4, 3, 15, 0, 6, 10, 1, 13, 8, 9, 4, 5, 11, 12, 7, 2, 14]
  | 4 => [2, 12, 4, 1, 7, 10, 11, 6, 8, 5, 3, 15, 13, 0, 14, 9, 14, 11, 2, 12, 4, 7, 13, 1, 5, 0, 15, 10, 3, 9, 8, 6, 4, 2, 1, 11, 10, 13, 7, 8, 15, 9, 12, 5, 6, 3, 0, 14, 11, 8, 12, 7, 1, 14, 2, 13, 6, 15, 0, 9, 10, 4, 5, 3]
  | 5 => [12, 1, 10, 15, 9, 2, 6, 8, 0, 13, 3, 4, 14, 7, 5, 11, 10, 15, 4, 2, 7, 12, 9, 5, 6, 1, 13, 14, 0, 11, 3, 8, 9, 14, 15, 5, 2, 8, 12, 3, 7, 0, 4, 10, 1, 13, 11, 6, 4, 3, 2, 12, 9, 5, 15, 10, 11, 14, 1, 7, 6, 0, 8, 13]
  | 6 => [4, 11, 2, 14, 15, 0, 8, 13, 3, 12, 9, 7, 5, 10, 6, 1, 13, 0, 11, 7, 4, 9, 1, 10, 14, 3, 5, 12, 2, 15, 8, 6, 1, 4, 11, 13, 12, 3, 7, 14, 10, 15, 6, 8, 0, 5, 9, 2, 6, 11, 13, 8, 1, 4, 10, 7, 9, 5, 0, 15, 14, 2, 3, 12]
  | _ => [13, 2, 8, 4, 6, 15, 11, 1, 10, 9, 3, 14, 5, 0, 12, 7, 1, 15, 13, 8, 10, 3, 7, 4, 12, 5, 6, 11, 0, 14, 9, 2, 7, 11, 4, 1, 9, 12, 14, 2, 0, 6, 10, 13, 15, 3, 5, 8, 2, 1, 14, 7, 4, 10, 8, 13, 15, 12, 9, 0, 3, 5, 6, 11]
def desTurn (b : List Bool) (n : Nat) : List Bool := b.drop n ++ b.take n
theorem desTurn_length (b : List Bool) (n : Nat) : (desTurn b n).length = b.length := by simp [desTurn]; omega
/-- How far the halves turn in a round. -/
def desBy (round : Nat) : Nat := if round = 1 ∨ round = 2 ∨ round = 9 ∨ round = 16 then 1 else 2
/-- One of the six bits that go into box i. -/
def desSix (r k : List Bool) (i j : Nat) : Bool := r.getD ((4 * i + j + 31) % 32) false ^^ k.getD (6 * i + j) false
def desAt (r k : List Bool) (i : Nat) : Nat :=
  16 * (2 * (desSix r k i 0).toNat + (desSix r k i 5).toNat) + 8 * (desSix r k i 1).toNat + 4 * (desSix r k i 2).toNat + 2 * (desSix r k i 3).toNat + (desSix r k i 4).toNat
def desNum (r k : List Bool) (i : Nat) : Nat := (desBox i).getD (desAt r k i) 0
def nibble (s : Nat) : List Bool := [s.testBit 3, s.testBit 2, s.testBit 1, s.testBit 0]
/-- What i boxes put out. -/
def desOuts (r k : List Bool) (i : Nat) : List Bool := (List.range i).flatMap fun i => nibble (desNum r k i)
def desF (r k : List Bool) : List Bool := pick (desOuts r k 8) desP
def desXor (l f : List Bool) : List Bool := (List.range 32).map fun i => l.getD i false ^^ f.getD i false
structure Halves where
  c : List Bool
  d : List Bool
  l : List Bool
  r : List Bool
def desRoundKey (c d : List Bool) : List Bool := pick (c ++ d) desPc2
/-- Round number n, from 1 on. -/
def desRound (n : Nat) (s : Halves) : Halves :=
  let c := desTurn s.c (desBy n)
  let d := desTurn s.d (desBy n)
  ⟨c, d, s.r, desXor s.l (desF s.r (desRoundKey c d))⟩
def desRounds (s : Halves) : Nat → Halves
  | 0 => s
  | n + 1 => desRound (n + 1) (desRounds s n)
def desStart (key block : List Bool) : Halves :=
  let x := pick block desIp
  ⟨pick key (desHalf false), pick key (desHalf true), x.take 32, x.drop 32⟩
/-- The places of IP filled, the first i of them. -/
def desPut (y : List Bool) : Nat → List Bool
  | 0 => List.replicate 64 false
  | i + 1 => (desPut y i).set (desIp.getD i 0 - 1) (y.getD i false)
def desBits (key block : List Bool) : List Bool :=
  let s := desRounds (desStart key block) 16
  desPut (s.r ++ s.l) 64
/-- Eight bits a byte. -/
def ofBits (l : List Bool) : List UInt8 := (List.range (l.length / 8)).map fun q => UInt8.ofNat (num true (fun k => l.getD (8 * q + k) false) 8 8)
def des (key block : List UInt8) : List UInt8 := ofBits (desBits (bitsOfBytes true key) (bitsOfBytes true block))
theorem ofBits_length (l : List Bool) : (ofBits l).length = l.length / 8 := by simp [ofBits]
theorem ofBits_back (l : List Bool) (h : l.length % 8 = 0) : bitsOfBytes true (ofBits l) = l := by
  apply List.ext_getElem
  · rw [bitsOfBytes_length, ofBits_length]; omega
  · intro i h1 h2
    have e1 : (bitsOfBytes true (ofBits l))[i] = bit true (ofBits l) i := by simp [bitsOfBytes]
    rw [e1]
    unfold bit
    have hq : i / 8 < l.length / 8 := by omega
    have e2 : (ofBits l).getD (i / 8) 0 = UInt8.ofNat (num true (fun k => l.getD (8 * (i / 8) + k) false) 8 8) := by
      unfold ofBits
      rw [List.getD_eq_getElem?_getD, List.getElem?_map, List.getElem?_range hq]
      rfl
    have hlt := num_lt true (fun k => l.getD (8 * (i / 8) + k) false) 8 8
    rw [e2, UInt8.toNat_ofNat', Nat.mod_eq_of_lt hlt, num_testBit]
    have hp := place_lt true 8 (i % 8) (by omega)
    rw [place_place true 8 (i % 8) (by omega)]
    have e3 : 8 * (i / 8) + i % 8 = i := by omega
    simp only [hp, decide_true, Bool.true_and, e3, show i % 8 < 8 by omega]
    rw [List.getD_eq_getElem?_getD, List.getElem?_eq_getElem h2]
    rfl
theorem des_known : des [0x12, 0x69, 0x5b, 0xc9, 0xb7, 0xb7, 0xf8] [0x01, 0x23, 0x45, 0x67, 0x89, 0xab, 0xcd, 0xef] = [0x85, 0xe8, 0x13, 0x54, 0x0f, 0x0a, 0xb4, 0x05] := by decide +kernel
end Pure
end Go.Proofs.Ytmelphlgpnmopaa
