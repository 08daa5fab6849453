/- The digests of chapters 6 and 7 over lists of bytes: padding, words, steps, blocks. -/
import Derived.Test.YtkllaghfiofnjaaDoorBase
namespace Go.Proofs.YtkllaghfiofnjaaDoor
namespace Pure
/-- Behind the byte 128: noughts till the length is 56 modulo 64. -/
def noughts (n : Nat) : Nat := (119 - n % 64) % 64
theorem noughts_spec (n : Nat) : (n + 1 + noughts n) % 64 = 56 := by unfold noughts; omega
theorem noughts_least (n k : Nat) (h : k < noughts n) : (n + 1 + k) % 64 ≠ 56 := by unfold noughts at h; omega
/-- The number of bits in eight bytes: byte i. -/
def lenByte (low : Bool) (n i : Nat) : UInt8 := UInt8.ofNat (8 * n / 2 ^ (if low then 8 * i else 56 - 8 * i))
def lenBytes (low : Bool) (n k : Nat) : List UInt8 := (List.range k).map (lenByte low n)
def pad (low : Bool) (b : List UInt8) : List UInt8 := b ++ [128] ++ List.replicate (noughts b.length) 0 ++ lenBytes low b.length 8
theorem pad_length (low : Bool) (b : List UInt8) : (pad low b).length = b.length + 1 + noughts b.length + 8 := by simp [pad, lenBytes]; omega
theorem pad_blocks (low : Bool) (b : List UInt8) : (pad low b).length % 64 = 0 := by
  rw [pad_length]
  have := noughts_spec b.length
  omega
theorem pad_le (low : Bool) (b : List UInt8) : (pad low b).length ≤ b.length + 72 := by
  rw [pad_length]
  unfold noughts
  omega
/-- A word turned left. -/
def left (x : UInt32) (n : Nat) : UInt32 := x <<< UInt32.ofNat n ||| x >>> UInt32.ofNat (32 - n)

/-- MD4's words of the block at 'at', behind i of its bytes. -/
def wordsLow (m : List UInt8) (at' : Nat) : Nat → List UInt32
  | 0 => List.replicate 16 0
  | i + 1 => (wordsLow m at' i).set (i / 4) ((wordsLow m at' i).getD (i / 4) 0 ||| (m.getD (at' + i) 0).toUInt32 <<< UInt32.ofNat (8 * (i % 4)))
theorem wordsLow_length (m : List UInt8) (at' : Nat) : ∀ i, (wordsLow m at' i).length = 16
  | 0 => rfl
  | i + 1 => by simp only [wordsLow, List.length_set]; exact wordsLow_length m at' i
/-- Four words. -/
structure W4 where
  a : UInt32
  b : UInt32
  c : UInt32
  d : UInt32
def md4F (s : Nat) (b c d : UInt32) : UInt32 := if s < 16 then b &&& c ||| ~~~b &&& d else if s < 32 then b &&& c ||| b &&& d ||| c &&& d else b ^^^ c ^^^ d
def md4T (s : Nat) : UInt32 := if s < 16 then 0 else if s < 32 then 0x5a827999 else 0x6ed9eba1
def md4Order : List Nat := [0, 1, 2, 3, 4, 5, 6, 7, 8, 9, 10, 11, 12, 13, 14, 15, 0, 4, 8, 12, 1, 5, 9, 13, 2, 6, 10, 14, 3, 7, 11, 15, 0, 8, 4, 12, 2, 10, 6, 14, 1, 9, 5, 13, 3, 11, 7, 15]
def md4Turns : List Nat := [3, 7, 11, 19, 3, 5, 9, 13, 3, 9, 11, 15]
def md4Step (x : List UInt32) (s : Nat) (v : W4) : W4 :=
  ⟨v.d, left (v.a + md4F s v.b v.c v.d + x.getD (md4Order.getD s 0) 0 + md4T s) (md4Turns.getD (s / 16 * 4 + s % 4) 0), v.b, v.c⟩
def md4Steps (x : List UInt32) (v : W4) : Nat → W4
  | 0 => v
  | s + 1 => md4Step x s (md4Steps x v s)
def md4Start : W4 := ⟨0x67452301, 0xefcdab89, 0x98badcfe, 0x10325476⟩
/-- The state behind k blocks. -/
def md4Blocks (m : List UInt8) : Nat → W4
  | 0 => md4Start
  | k + 1 =>
    let h := md4Blocks m k
    let v := md4Steps (wordsLow m (64 * k) 64) h 48
    ⟨h.a + v.a, h.b + v.b, h.c + v.c, h.d + v.d⟩
def W4.list (v : W4) : List UInt32 := [v.a, v.b, v.c, v.d]
/-- Byte i of the digest. -/
def outLow (h : List UInt32) (i : Nat) : UInt8 := (h.getD (i / 4) 0 >>> UInt32.ofNat (8 * (i % 4))).toUInt8
def md4 (b : List UInt8) : List UInt8 := (List.range 16).map (outLow (md4Blocks (pad true b) ((pad true b).length / 64)).list)
theorem md4_length (b : List UInt8) : (md4 b).length = 16 := by simp [md4]

/-- SHA-1's words of the block at 'at', behind i of its bytes, and behind t words. -/
def wordsHigh (m : List UInt8) (at' : Nat) : Nat → List UInt32
  | 0 => List.replicate 80 0
  | i + 1 => (wordsHigh m at' i).set (i / 4) ((wordsHigh m at' i).getD (i / 4) 0 <<< 8 ||| (m.getD (at' + i) 0).toUInt32)
theorem wordsHigh_length (m : List UInt8) (at' : Nat) : ∀ i, (wordsHigh m at' i).length = 80
  | 0 => rfl
  | i + 1 => by simp only [wordsHigh, List.length_set]; exact wordsHigh_length m at' i
def shaMore (w : List UInt32) : Nat → List UInt32
  | 0 => w
  | k + 1 =>
    let v := shaMore w k
    let t := 16 + k
    v.set t (left (v.getD (t - 3) 0 ^^^ v.getD (t - 8) 0 ^^^ v.getD (t - 14) 0 ^^^ v.getD (t - 16) 0) 1)
theorem shaMore_length (w : List UInt32) : ∀ k, (shaMore w k).length = w.length
  | 0 => rfl
  | k + 1 => by simp only [shaMore, List.length_set]; exact shaMore_length w k
structure W5 where
  a : UInt32
  b : UInt32
  c : UInt32
  d : UInt32
  e : UInt32
def shaF (t : Nat) (b c d : UInt32) : UInt32 := if t < 20 then b &&& c ||| ~~~b &&& d else if t < 40 then b ^^^ c ^^^ d else if t < 60 then b &&& c ||| b &&& d ||| c &&& d else b ^^^ c ^^^ d
def shaK (t : Nat) : UInt32 := if t < 20 then 0x5a827999 else if t < 40 then 0x6ed9eba1 else if t < 60 then 0x8f1bbcdc else 0xca62c1d6
def shaStep (w : List UInt32) (t : Nat) (v : W5) : W5 := ⟨left v.a 5 + shaF t v.b v.c v.d + v.e + shaK t + w.getD t 0, v.a, left v.b 30, v.c, v.d⟩
def shaSteps (w : List UInt32) (v : W5) : Nat → W5
  | 0 => v
  | t + 1 => shaStep w t (shaSteps w v t)
def shaStart : W5 := ⟨0x67452301, 0xefcdab89, 0x98badcfe, 0x10325476, 0xc3d2e1f0⟩
def shaBlocks (m : List UInt8) : Nat → W5
  | 0 => shaStart
  | k + 1 =>
    let h := shaBlocks m k
    let v := shaSteps (shaMore (wordsHigh m (64 * k) 64) 64) h 80
    ⟨h.a + v.a, h.b + v.b, h.c + v.c, h.d + v.d, h.e + v.e⟩
def W5.list (v : W5) : List UInt32 := [v.a, v.b, v.c, v.d, v.e]
def outHigh (h : List UInt32) (i : Nat) : UInt8 := (h.getD (i / 4) 0 >>> UInt32.ofNat (24 - 8 * (i % 4))).toUInt8
def sha (b : List UInt8) : List UInt8 := (List.range 20).map (outHigh (shaBlocks (pad false b) ((pad false b).length / 64)).list)
theorem sha_length (b : List UInt8) : (sha b).length = 20 := by simp [sha]
end Pure
theorem md4_abc : Pure.md4 [97, 98, 99] = [0xa4, 0x48, 0x01, 0x7a, 0xaf, 0x21, 0xd8, 0x52, 0x5f, 0xc1, 0x0a, 0xe8, 0x7a, 0xa6, 0x72, 0x9d] := by decide +kernel
theorem sha_abc : Pure.sha [97, 98, 99] = [0xa9, 0x99, 0x3e, 0x36, 0x47, 0x06, 0x81, 0x6a, 0xba, 0x3e, 0x25, 0x71, 0x78, 0x50, 0xc2, 0x6c, 0x9c, 0xd0, 0xd8, 0x9d] := by decide +kernel
theorem md4_none : Pure.md4 [] = [0x31, 0xd6, 0xcf, 0xe0, 0xd1, 0x6a, 0xe9, 0x31, 0xb7, 0x3c, 0x59, 0xd7, 0xe0, 0xc0, 0x89, 0xc0] := by decide +kernel
theorem sha_none : Pure.sha [] = [0xda, 0x39, 0xa3, 0xee, 0x5e, 0x6b, 0x4b, 0x0d, 0x32, 0x55, 0xbf, 0xef, 0x95, 0x60, 0x18, 0x90, 0xaf, 0xd8, 0x07, 0x09] := by decide +kernel
end Go.Proofs.YtkllaghfiofnjaaDoor
