/- Plain facts on bits and numbers; nothing of the program. -/
namespace Go.Proofs.YtkllaghfiofnjaaDoor
namespace Pure

/-- The number below 2^n whose bit j is p j. -/
def natOf (p : Nat → Bool) : Nat → Nat
  | 0 => 0
  | n + 1 => natOf p n + (if p n then 2 ^ n else 0)
theorem natOf_lt (p : Nat → Bool) (n : Nat) : natOf p n < 2 ^ n := by
  induction n with
  | zero => simp [natOf]
  | succ n ih => simp only [natOf, Nat.pow_succ]; split <;> omega
theorem natOf_testBit (p : Nat → Bool) (n j : Nat) : (natOf p n).testBit j = (decide (j < n) && p j) := by
  induction n with
  | zero => simp [natOf]
  | succ n ih =>
    simp only [natOf]
    have hl := natOf_lt p n
    by_cases hp : p n
    · simp only [hp, if_true]
      rw [Nat.add_comm]
      by_cases hj : j = n
      · subst hj; rw [Nat.testBit_two_pow_add_eq]; simp [ih, hp]
      · rcases Nat.lt_or_gt_of_ne hj with h | h
        · rw [Nat.testBit_two_pow_add_gt h]; simp [ih, h, Nat.lt_succ_of_lt h]
        · have : (2 ^ n + natOf p n) < 2 ^ j := by
            have := Nat.pow_le_pow_right (n := 2) (by omega) (show n + 1 ≤ j from h)
            rw [Nat.pow_succ] at this; omega
          rw [Nat.testBit_lt_two_pow this]; simp; omega
    · simp only [hp, Bool.false_eq_true, if_false, Nat.add_zero, ih]
      by_cases hj : j = n
      · subst hj; simp [hp]
      · simp only [show (j < n + 1) ↔ (j < n) by omega]
theorem natOf_congr {p q : Nat → Bool} (n : Nat) (h : ∀ j, j < n → p j = q j) : natOf p n = natOf q n := by
  apply Nat.eq_of_testBit_eq; intro j
  rw [natOf_testBit, natOf_testBit]
  by_cases hj : j < n
  · simp [hj, h j hj]
  · simp [hj]
theorem eq_natOf (x n : Nat) (h : x < 2 ^ n) : x = natOf x.testBit n := by
  apply Nat.eq_of_testBit_eq; intro j
  rw [natOf_testBit]
  by_cases hj : j < n
  · simp [hj]
  · simp only [hj, decide_false, Bool.false_and]
    exact Nat.testBit_lt_two_pow (Nat.lt_of_lt_of_le h (Nat.pow_le_pow_right (by omega) (by omega)))
theorem eq_natOf_of {x n : Nat} {p : Nat → Bool} (h : x < 2 ^ n) (hp : ∀ j, j < n → x.testBit j = p j) : x = natOf p n := by
  rw [eq_natOf x n h]; exact natOf_congr n hp

/-- Where the k-th bit of a number of n bits stands. -/
def place (high : Bool) (n k : Nat) : Nat := if high then n - 1 - k else k
theorem place_place (high : Bool) (n k : Nat) (h : k < n) : place high n (place high n k) = k := by unfold place; split <;> omega
theorem place_lt (high : Bool) (n k : Nat) (h : k < n) : place high n k < n := by unfold place; split <;> omega

/-- The number of the first m of n bits f 0, f 1, ..; the rest is nought. -/
def num (high : Bool) (f : Nat → Bool) (n m : Nat) : Nat := natOf (fun j => decide (place high n j < m) && f (place high n j)) n
theorem num_lt (high : Bool) (f : Nat → Bool) (n m : Nat) : num high f n m < 2 ^ n := natOf_lt _ _
theorem num_testBit (high : Bool) (f : Nat → Bool) (n m j : Nat) : (num high f n m).testBit j = (decide (j < n) && (decide (place high n j < m) && f (place high n j))) := natOf_testBit _ _ _
theorem num_zero (high : Bool) (f : Nat → Bool) (n : Nat) : num high f n 0 = 0 := by
  apply Nat.eq_of_testBit_eq; intro j; simp [num_testBit]
theorem num_congr (high : Bool) {f g : Nat → Bool} (n m : Nat) (h : ∀ k, k < m → f k = g k) : num high f n m = num high g n m := by
  apply natOf_congr; intro j _
  by_cases hj : place high n j < m
  · simp [hj, h _ hj]
  · simp [hj]

/-- How far above the lowest bit a piece of k bits lies that has 'before' ahead of it. -/
def up (high : Bool) (width before k : Nat) : Nat := if high then width - before - k else before

/-- One step: the next k bits come out of a byte. -/
theorem num_step (high : Bool) (f : Nat → Bool) (n done k B used : Nat) (h1 : done + k ≤ n) (h2 : used + k ≤ 8) (hk : 0 < k)
    (hf : ∀ i, i < k → f (done + i) = B.testBit (place high 8 (used + i))) :
    num high f n done ||| ((B >>> up high 8 used k) % 2 ^ k) <<< up high n done k = num high f n (done + k) := by
  apply Nat.eq_of_testBit_eq; intro j
  rw [Nat.testBit_or, num_testBit, num_testBit, Nat.testBit_shiftLeft, Nat.testBit_mod_two_pow, Nat.testBit_shiftRight]
  cases high
  · simp only [up, place, Bool.false_eq_true, if_false] at hf ⊢
    by_cases hj : j < n
    · by_cases a : j < done
      · have : ¬ j ≥ done := by omega
        simp [hj, a, this, show j < done + k by omega]
      · by_cases b : j < done + k
        · have e := hf (j - done) (by omega)
          rw [show done + (j - done) = j by omega] at e
          simp [hj, a, b, show j ≥ done by omega, show j - done < k by omega, e]
        · simp [hj, a, b, show ¬ j - done < k by omega]
    · simp [hj, show ¬ j - done < k by omega]
  · simp only [up, place, if_true] at hf ⊢
    by_cases hj : j < n
    · by_cases a : n - 1 - j < done
      · have : ¬ j - (n - done - k) < k := by omega
        simp [hj, a, this, show n - 1 - j < done + k by omega]
      · by_cases b : n - 1 - j < done + k
        · have e := hf (n - 1 - j - done) (by omega)
          rw [show done + (n - 1 - j - done) = n - 1 - j by omega] at e
          rw [e]
          simp [hj, a, b, show j ≥ n - done - k by omega, show j - (n - done - k) < k by omega]
          congr 1; omega
        · simp [hj, a, b, show ¬ j ≥ n - done - k by omega]
    · simp [hj, show ¬ j - (n - done - k) < k by omega]

/-- The i-th bit of bytes. -/
def bit (high : Bool) (bs : List UInt8) (i : Nat) : Bool := ((bs.getD (i / 8) 0).toNat).testBit (place high 8 (i % 8))
/-- The number that the next n bits from a place on would form, and how many there are. -/
def peek (high : Bool) (bs : List UInt8) (at_ n : Nat) : Nat := num high (fun k => bit high bs (at_ + k)) n (min n (8 * bs.length - at_))

/-- The n bits of a number, first one first. -/
def bitsOf (high : Bool) (n x : Nat) : List Bool := (List.range n).map fun k => x.testBit (place high n k)
theorem bitsOf_length (high : Bool) (n x : Nat) : (bitsOf high n x).length = n := by simp [bitsOf]
theorem bitsOf_get (high : Bool) (n x k : Nat) (h : k < n) : (bitsOf high n x)[k]? = some (x.testBit (place high n k)) := by
  simp [bitsOf, h]

/-- The bytes bs hold the bits l; 'free' bits of the last byte are not written, and nought. -/
structure Packs (high : Bool) (l : List Bool) (bs : List UInt8) (free : Nat) : Prop where
  len : 8 * bs.length = l.length + free
  le : free ≤ 8
  bits : ∀ i, bit high bs i = l.getD i false

theorem bit_past (high : Bool) (bs : List UInt8) (i : Nat) (h : 8 * bs.length ≤ i) : bit high bs i = false := by
  unfold bit
  rw [List.getD_eq_getElem?_getD, List.getElem?_eq_none (by omega)]
  simp
theorem Packs.nil (high : Bool) : Packs high [] [] 0 := ⟨by simp, by omega, fun i => by rw [bit_past high [] i (by simp)]; simp⟩
theorem bit_append (high : Bool) (a b : List UInt8) (i : Nat) : bit high (a ++ b) i = if i < 8 * a.length then bit high a i else bit high b (i - 8 * a.length) := by
  unfold bit
  rw [List.getD_eq_getElem?_getD, List.getD_eq_getElem?_getD, List.getD_eq_getElem?_getD, List.getElem?_append]
  by_cases h : i < 8 * a.length
  · rw [if_pos (by omega), if_pos h]
  · rw [if_neg (by omega), if_neg h, show (i - 8 * a.length) / 8 = i / 8 - a.length by omega, show (i - 8 * a.length) % 8 = i % 8 by omega]
theorem Packs.more {high : Bool} {l : List Bool} {bs : List UInt8} (h : Packs high l bs 0) : Packs high l (bs ++ [0]) 8 := by
  refine ⟨by have := h.len; simp; omega, Nat.le_refl _, fun i => ?_⟩
  rw [bit_append]
  have hl := h.len
  split
  · exact h.bits i
  · rw [List.getD_eq_getElem?_getD, List.getElem?_eq_none (by omega)]
    unfold bit
    rw [List.getD_eq_getElem?_getD]
    rcases Nat.lt_or_ge ((i - 8 * bs.length) / 8) 1 with h1 | h1
    · rw [show (i - 8 * bs.length) / 8 = 0 by omega]; simp
    · rw [List.getElem?_eq_none (by simpa using h1)]; simp

/-- Bytes, as their bits. -/
def bitsOfBytes (high : Bool) (bs : List UInt8) : List Bool := (List.range (8 * bs.length)).map fun i => bit high bs i
theorem bitsOfBytes_length (high : Bool) (bs : List UInt8) : (bitsOfBytes high bs).length = 8 * bs.length := by simp [bitsOfBytes]
theorem bitsOfBytes_getD (high : Bool) (bs : List UInt8) (i : Nat) : (bitsOfBytes high bs).getD i false = bit high bs i := by
  rw [List.getD_eq_getElem?_getD]
  unfold bitsOfBytes
  rcases Nat.lt_or_ge i (8 * bs.length) with h | h
  · simp [h]
  · rw [List.getElem?_eq_none (by simpa using h), bit_past high bs i h]; rfl
/-- Aligned: the bits that were not written count as noughts. -/
theorem Packs.align {high : Bool} {l : List Bool} {bs : List UInt8} {free : Nat} (h : Packs high l bs free) : Packs high (l ++ List.replicate free false) bs 0 := by
  refine ⟨by have := h.len; simp; omega, by omega, fun i => ?_⟩
  rw [h.bits, List.getD_eq_getElem?_getD, List.getD_eq_getElem?_getD, List.getElem?_append]
  split
  · rfl
  · rename_i hi
    rw [List.getElem?_eq_none (by omega), List.getElem?_replicate]
    split <;> rfl
theorem Packs.add {high : Bool} {l : List Bool} {bs : List UInt8} (h : Packs high l bs 0) (b : List UInt8) : Packs high (l ++ bitsOfBytes high b) (bs ++ b) 0 := by
  have hl := h.len
  refine ⟨by simp [bitsOfBytes_length]; omega, by omega, fun i => ?_⟩
  rw [bit_append, List.getD_eq_getElem?_getD, List.getElem?_append]
  have e : 8 * bs.length = l.length := by omega
  rw [e]
  split
  · rw [h.bits, List.getD_eq_getElem?_getD]
  · rw [← List.getD_eq_getElem?_getD, bitsOfBytes_getD]

/-- One step of Put: k bits more, into the last byte. -/
theorem Packs.put {high : Bool} {l : List Bool} {bs : List UInt8} {free : Nat} (h : Packs high l bs free) (n x d k : Nat) (hk : 0 < k) (hkf : k ≤ free) (hn : d + k ≤ n)
    (L : Nat) (hL : L = (bs.getD (bs.length - 1) 0).toNat) :
    Packs high (l ++ (List.range k).map fun t => x.testBit (place high n (d + t)))
      (bs.set (bs.length - 1) (UInt8.ofNat (L ||| ((x >>> up high n d k) % 2 ^ k) * 2 ^ up high 8 (8 - free) k))) (free - k) := by
  have hl := h.len
  have hle := h.le
  have hpos : 0 < bs.length := by omega
  obtain ⟨p, hp⟩ : ∃ p, p = (x >>> up high n d k) % 2 ^ k := ⟨_, rfl⟩
  obtain ⟨S, hS⟩ : ∃ S, S = up high 8 (8 - free) k := ⟨_, rfl⟩
  rw [← hp, ← hS]
  have hS8 : S + k ≤ 8 := by rw [hS]; unfold up; split <;> omega
  have hplt : p < 2 ^ k := by rw [hp]; exact Nat.mod_lt _ (Nat.two_pow_pos k)
  have hY : p * 2 ^ S < 256 := by
    calc p * 2 ^ S < 2 ^ k * 2 ^ S := Nat.mul_lt_mul_of_pos_right hplt (Nat.two_pow_pos S)
      _ = 2 ^ (k + S) := (Nat.pow_add ..).symm
      _ ≤ 2 ^ 8 := Nat.pow_le_pow_right (by omega) (by omega)
  have hL2 : L < 256 := by rw [hL]; exact (bs.getD (bs.length - 1) 0).toNat_lt
  have hor : L ||| p * 2 ^ S < 2 ^ 8 := Nat.or_lt_two_pow (by omega) (by omega)
  refine ⟨by simp; omega, by omega, fun i => ?_⟩
  unfold bit
  by_cases hi : i / 8 = bs.length - 1
  · have hbit := h.bits i
    unfold bit at hbit
    rw [hi, ← hL] at hbit
    rw [hi, List.getD_eq_getElem?_getD, List.getElem?_set_self (by omega), Option.getD_some, UInt8.toNat_ofNat', Nat.mod_eq_of_lt hor, Nat.testBit_or, hbit,
      ← Nat.shiftLeft_eq, Nat.testBit_shiftLeft, hp, Nat.testBit_mod_two_pow, Nat.testBit_shiftRight, List.getD_eq_getElem?_getD, List.getD_eq_getElem?_getD, List.getElem?_append]
    by_cases a : i < l.length
    · rw [if_pos a]
      have : ¬ (S ≤ place high 8 (i % 8) ∧ place high 8 (i % 8) - S < k) := by
        rw [hS]; unfold up place; split <;> omega
      by_cases b : S ≤ place high 8 (i % 8)
      · simp [b, show ¬ place high 8 (i % 8) - S < k from fun c => this ⟨b, c⟩]
      · simp [b]
    · rw [if_neg a, List.getElem?_eq_none (by omega)]
      by_cases b : i - l.length < k
      · have e1 : S ≤ place high 8 (i % 8) := by rw [hS]; unfold up place; split <;> omega
        have e2 : place high 8 (i % 8) - S < k := by rw [hS]; unfold up place; split <;> omega
        have e3 : up high n d k + (place high 8 (i % 8) - S) = place high n (d + (i - l.length)) := by
          rw [hS]; unfold up place; split <;> omega
        simp [e1, e2, e3, b]
      · have : ¬ (S ≤ place high 8 (i % 8) ∧ place high 8 (i % 8) - S < k) := by
          rw [hS]; unfold up place; split <;> omega
        rw [List.getElem?_eq_none (by simpa using b)]
        by_cases c : S ≤ place high 8 (i % 8)
        · simp [show ¬ place high 8 (i % 8) - S < k from fun z => this ⟨c, z⟩]
        · simp [c]
  · have hbit := h.bits i
    unfold bit at hbit
    rw [List.getD_eq_getElem?_getD, List.getElem?_set_ne (Ne.symm hi), ← List.getD_eq_getElem?_getD, hbit, List.getD_eq_getElem?_getD, List.getD_eq_getElem?_getD, List.getElem?_append]
    by_cases a : i < l.length
    · rw [if_pos a]
    · rw [if_neg a, List.getElem?_eq_none (by omega), List.getElem?_eq_none (by simp; omega)]
theorem range_take (n d k : Nat) (h : d + k ≤ n) (high : Bool) (x : Nat) :
    (bitsOf high n x).take d ++ ((List.range k).map fun t => x.testBit (place high n (d + t))) = (bitsOf high n x).take (d + k) := by
  apply List.ext_getElem?
  intro i
  have hl := bitsOf_length high n x
  rw [List.getElem?_append, List.getElem?_take, List.getElem?_take, List.length_take, hl]
  by_cases a : i < d
  · rw [if_pos (by omega), if_pos a, if_pos (by omega)]
  · rw [if_neg (by omega)]
    by_cases b : i < d + k
    · rw [if_pos b, bitsOf_get high n x i (by omega)]
      simp [show i - min d n < k by omega, show d + (i - min d n) = i by omega]
    · rw [if_neg b, List.getElem?_eq_none (by simp; omega)]

theorem byte_ext {a b : UInt8} (h : ∀ j, j < 8 → a.toNat.testBit j = b.toNat.testBit j) : a = b := by
  apply UInt8.toNat_inj.1
  apply Nat.eq_of_testBit_eq
  intro j
  rcases Nat.lt_or_ge j 8 with hj | hj
  · exact h j hj
  · rw [Nat.testBit_lt_two_pow (Nat.lt_of_lt_of_le a.toNat_lt (Nat.pow_le_pow_right (n := 2) (by omega) hj)), Nat.testBit_lt_two_pow (Nat.lt_of_lt_of_le b.toNat_lt (Nat.pow_le_pow_right (n := 2) (by omega) hj))]
/-- Bytes of one length with the same bits are the same. -/
theorem bytes_ext {high : Bool} {a b : List UInt8} (hl : a.length = b.length) (h : ∀ i, i < 8 * a.length → bit high a i = bit high b i) : a = b := by
  apply List.ext_getElem hl
  intro i h1 h2
  apply byte_ext
  intro j hj
  have hp := place_lt high 8 j hj
  have := h (8 * i + place high 8 j) (by omega)
  unfold bit at this
  rw [show (8 * i + place high 8 j) / 8 = i by omega, show (8 * i + place high 8 j) % 8 = place high 8 j by omega, place_place high 8 j hj,
    List.getD_eq_getElem?_getD, List.getD_eq_getElem?_getD, List.getElem?_eq_getElem h1, List.getElem?_eq_getElem h2] at this
  exact this
theorem Packs.unique {high : Bool} {l : List Bool} {a b : List UInt8} {m n : Nat} (h : Packs high l a m) (h' : Packs high l b n) (hm : m ≤ 7) (hn : n ≤ 7) : a = b ∧ m = n := by
  have h1 := h.len
  have h2 := h'.len
  have hl : a.length = b.length := by omega
  exact ⟨bytes_ext (high := high) hl (fun i _ => (h.bits i).trans (h'.bits i).symm), by omega⟩

theorem num_all (high : Bool) (f : Nat → Bool) (n x : Nat) (hx : x < 2 ^ n) (h : ∀ k, k < n → f k = x.testBit (place high n k)) : num high f n n = x := by
  symm
  apply eq_natOf_of hx
  intro j hj
  have hp := place_lt high n j hj
  rw [h _ hp, place_place high n j hj]
  simp [hp]
/-- A number that was put is read where it was put. -/
theorem Packs.peek {high : Bool} {A C : List Bool} {n x : Nat} {bs : List UInt8} {free : Nat} (h : Packs high (A ++ bitsOf high n x ++ C) bs free) (hx : x < 2 ^ n) :
    Pure.peek high bs A.length n = x ∧ A.length + n ≤ 8 * bs.length := by
  have hl := h.len
  simp only [List.length_append, bitsOf_length] at hl
  refine ⟨?_, by omega⟩
  unfold Pure.peek
  rw [Nat.min_eq_left (by omega)]
  refine num_all high _ n x hx fun k hk => ?_
  rw [h.bits, List.getD_eq_getElem?_getD, List.append_assoc, List.getElem?_append_right (by omega), Nat.add_sub_cancel_left,
    List.getElem?_append_left (by rw [bitsOf_length]; exact hk), bitsOf_get high n x k hk]
  rfl
/-- Bytes that were added are read where they were added. -/
theorem Packs.bytes {high : Bool} {A C : List Bool} {b : List UInt8} {bs : List UInt8} {free m : Nat} (h : Packs high (A ++ bitsOfBytes high b ++ C) bs free) (hA : A.length = 8 * m) :
    (bs.drop m).take b.length = b ∧ m + b.length ≤ bs.length := by
  have hl := h.len
  simp only [List.length_append, bitsOfBytes_length] at hl
  refine ⟨?_, by have := h.le; omega⟩
  have hle := h.le
  apply bytes_ext (high := high)
  · simp; omega
  · intro i hi
    have hi' : i < 8 * b.length := by simp at hi; omega
    have e : bit high ((bs.drop m).take b.length) i = bit high bs (8 * m + i) := by
      unfold bit
      rw [List.getD_eq_getElem?_getD, List.getD_eq_getElem?_getD, List.getElem?_take, if_pos (by omega), List.getElem?_drop,
        show (8 * m + i) / 8 = m + i / 8 by omega, show (8 * m + i) % 8 = i % 8 by omega]
    rw [e, h.bits, ← bitsOfBytes_getD, List.getD_eq_getElem?_getD, List.getD_eq_getElem?_getD, List.append_assoc, List.getElem?_append_right (by omega),
      List.getElem?_append_left (by rw [bitsOfBytes_length]; omega), show 8 * m + i - A.length = i by omega]
end Pure
end Go.Proofs.YtkllaghfiofnjaaDoor
