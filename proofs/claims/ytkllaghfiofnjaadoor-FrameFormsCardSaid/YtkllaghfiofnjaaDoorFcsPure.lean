/- Check sums of 16 and of 32 bits, as plain numbers. -/
import Derived.Test.YtkllaghfiofnjaaDoorPure
namespace Go.Proofs.YtkllaghfiofnjaaDoor
namespace Pure

theorem testBit_half (r j : Nat) : (r / 2).testBit j = r.testBit (j + 1) := by
  rw [Nat.testBit_succ]
/-- One bit leaves the register. -/
def step (P r : Nat) : Nat := if r % 2 = 1 then (r / 2) ^^^ P else r / 2
theorem step_testBit (P r j : Nat) : (step P r).testBit j = (r.testBit (j + 1) ^^ (r.testBit 0 && P.testBit j)) := by
  unfold step
  have h0 : r.testBit 0 = decide (r % 2 = 1) := Nat.testBit_zero r
  by_cases h : r % 2 = 1
  · rw [if_pos h, Nat.testBit_xor, testBit_half, h0]; simp [h]
  · rw [if_neg h, testBit_half, h0]; simp [h]
theorem step_lt {W P r : Nat} (hP : P < 2 ^ W) (hr : r < 2 ^ W) : step P r < 2 ^ W := by
  unfold step
  have h : r / 2 < 2 ^ W := by omega
  split
  · exact Nat.xor_lt_two_pow h hP
  · exact h
theorem step_xor (P a b : Nat) : step P (a ^^^ b) = step P a ^^^ step P b := by
  apply Nat.eq_of_testBit_eq
  intro j
  rw [Nat.testBit_xor, step_testBit, step_testBit, step_testBit, Nat.testBit_xor, Nat.testBit_xor]
  cases a.testBit (j + 1) <;> cases b.testBit (j + 1) <;> cases a.testBit 0 <;> cases b.testBit 0 <;> cases P.testBit j <;> rfl
theorem step_zero (P : Nat) : step P 0 = 0 := rfl
/-- k bits leave it. -/
def steps (P : Nat) : Nat → Nat → Nat
  | 0, r => r
  | k + 1, r => step P (steps P k r)
theorem steps_lt {W P r : Nat} (hP : P < 2 ^ W) (hr : r < 2 ^ W) : ∀ k, steps P k r < 2 ^ W
  | 0 => hr
  | k + 1 => step_lt hP (steps_lt hP hr k)
theorem steps_xor (P a b : Nat) : ∀ k, steps P k (a ^^^ b) = steps P k a ^^^ steps P k b
  | 0 => rfl
  | k + 1 => by simp only [steps]; rw [steps_xor P a b k, step_xor]
theorem steps_zero (P : Nat) : ∀ k, steps P k 0 = 0
  | 0 => rfl
  | k + 1 => by simp only [steps]; rw [steps_zero P k, step_zero]
theorem steps_succ (P : Nat) : ∀ k r, steps P (k + 1) r = steps P k (step P r)
  | 0, _ => rfl
  | k + 1, r => by
    have := steps_succ P k r
    simp only [steps] at this ⊢
    rw [this]
theorem steps_add (P a r : Nat) : ∀ b, steps P (a + b) r = steps P b (steps P a r)
  | 0 => rfl
  | b + 1 => by
    show step P (steps P (a + b) r) = step P (steps P b (steps P a r))
    rw [steps_add P a r b]
/-- Bits that don't reach the end are moved down alone. -/
theorem steps_down (P : Nat) : ∀ k x, steps P k (x * 2 ^ k) = x
  | 0, x => by simp [steps]
  | k + 1, x => by
    rw [steps_succ]
    have : step P (x * 2 ^ (k + 1)) = x * 2 ^ k := by
      unfold step
      rw [Nat.pow_succ, show x * (2 ^ k * 2) = x * 2 ^ k * 2 by rw [Nat.mul_assoc]]
      rw [if_neg (by omega)]
      omega
    rw [this, steps_down P k x]
/-- Nothing but nought becomes nought. -/
theorem step_eq_zero {W P r : Nat} (hP : P.testBit W = true) (hr : r < 2 ^ (W + 1)) (h : step P r = 0) : r = 0 := by
  have h0 : r.testBit 0 = false := by
    have := step_testBit P r W
    rw [h, Nat.zero_testBit, hP, Nat.testBit_lt_two_pow (show r < 2 ^ (W + 1) from hr)] at this
    simpa using this.symm
  apply Nat.eq_of_testBit_eq
  intro j
  rw [Nat.zero_testBit]
  cases j with
  | zero => exact h0
  | succ j =>
    have := step_testBit P r j
    rw [h, Nat.zero_testBit, h0] at this
    simpa using this.symm
theorem steps_eq_zero {W P r : Nat} (hP : P.testBit W = true) (hP2 : P < 2 ^ (W + 1)) (hr : r < 2 ^ (W + 1)) : ∀ k, steps P k r = 0 → r = 0
  | 0, h => h
  | k + 1, h => steps_eq_zero hP hP2 hr k (step_eq_zero hP (steps_lt hP2 hr k) h)

/-- A byte goes in. -/
def feed (P r b : Nat) : Nat := steps P 8 (r ^^^ b)
def reg (P r : Nat) (l : List UInt8) : Nat := l.foldl (fun r b => feed P r b.toNat) r
def crc (P ones : Nat) (l : List UInt8) : Nat := reg P ones l ^^^ ones
theorem byte_lt {W : Nat} (hW : 8 ≤ W) (b : UInt8) : b.toNat < 2 ^ W := Nat.lt_of_lt_of_le b.toNat_lt (Nat.pow_le_pow_right (n := 2) (by omega) hW)
theorem feed_lt {W P r : Nat} (hW : 8 ≤ W) (hP : P < 2 ^ W) (hr : r < 2 ^ W) (b : UInt8) : feed P r b.toNat < 2 ^ W := steps_lt hP (Nat.xor_lt_two_pow hr (byte_lt hW b)) 8
theorem reg_lt {W P : Nat} (hW : 8 ≤ W) (hP : P < 2 ^ W) : ∀ (l : List UInt8) (r : Nat), r < 2 ^ W → reg P r l < 2 ^ W
  | [], _, h => h
  | b :: l, r, h => reg_lt hW hP l (feed P r b.toNat) (feed_lt hW hP h b)
theorem reg_append (P r : Nat) (a b : List UInt8) : reg P r (a ++ b) = reg P (reg P r a) b := by simp [reg, List.foldl_append]
theorem reg_snoc (P r : Nat) (a : List UInt8) (b : UInt8) : reg P r (a ++ [b]) = feed P (reg P r a) b.toNat := by simp [reg, List.foldl_append]
theorem crc_lt {W P : Nat} (hW : 8 ≤ W) (hP : P < 2 ^ W) {ones : Nat} (h1 : ones < 2 ^ W) (l : List UInt8) : crc P ones l < 2 ^ W := Nat.xor_lt_two_pow (reg_lt hW hP l _ h1) h1
theorem reg_xor3 (P : Nat) : ∀ (a b c : List UInt8) (r s t : Nat), a.length = b.length → a.length = c.length →
    reg P (r ^^^ s ^^^ t) ((a.zip (b.zip c)).map fun x => x.1 ^^^ x.2.1 ^^^ x.2.2) = reg P r a ^^^ reg P s b ^^^ reg P t c
  | [], [], [], _, _, _, _, _ => rfl
  | x :: a, y :: b, z :: c, r, s, t, h1, h2 => by
    have ih := reg_xor3 P a b c (feed P r x.toNat) (feed P s y.toNat) (feed P t z.toNat) (by simpa using h1) (by simpa using h2)
    show reg P (feed P (r ^^^ s ^^^ t) (x ^^^ y ^^^ z).toNat) _ = reg P (feed P r x.toNat) a ^^^ reg P (feed P s y.toNat) b ^^^ reg P (feed P t z.toNat) c
    rw [← ih]
    congr 1
    unfold feed
    rw [← steps_xor, ← steps_xor]
    congr 1
    simp only [UInt8.toNat_xor]
    apply Nat.eq_of_testBit_eq
    intro j
    simp only [Nat.testBit_xor]
    cases r.testBit j <;> cases s.testBit j <;> cases t.testBit j <;> cases x.toNat.testBit j <;> cases y.toNat.testBit j <;> cases z.toNat.testBit j <;> rfl
end Pure
end Go.Proofs.YtkllaghfiofnjaaDoor
