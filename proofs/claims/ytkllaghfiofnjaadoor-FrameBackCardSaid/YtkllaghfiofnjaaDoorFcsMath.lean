/- Check sums find what is turned: the register bit by bit. -/
import Derived.Test.YtkllaghfiofnjaaDoorFcsC
namespace Go.Proofs.YtkllaghfiofnjaaDoor
namespace Pure

/-- The register, bit by bit. -/
def regB (P r : Nat) (l : List Bool) : Nat := l.foldl (fun r b => step P (r ^^^ b.toNat)) r
theorem regB_append (P r : Nat) (a b : List Bool) : regB P r (a ++ b) = regB P (regB P r a) b := by simp [regB, List.foldl_append]
/-- The n lower bits of a number, the lowest one first. -/
def bitsLE (n x : Nat) : List Bool := (List.range n).map fun j => x.testBit j
theorem bitsLE_succ (n x : Nat) : bitsLE (n + 1) x = (x % 2 == 1) :: bitsLE n (x / 2) := by
  unfold bitsLE
  rw [List.range_succ_eq_map, List.map_cons, List.map_map]
  congr 1
  · rw [Nat.testBit_zero]
    by_cases h : x % 2 = 1 <;> simp [h]
  · apply List.map_congr_left
    intro j _
    simp [Nat.testBit_succ]
theorem low_high (r x : Nat) : r ^^^ x = (r ^^^ x % 2) ^^^ x / 2 * 2 := by
  apply Nat.eq_of_testBit_eq
  intro j
  rw [Nat.testBit_xor, Nat.testBit_xor, Nat.testBit_xor, Bool.xor_assoc]
  congr 1
  have e : x / 2 * 2 = (x / 2) <<< 1 := by rw [Nat.shiftLeft_eq]
  rw [e, Nat.testBit_shiftLeft]
  cases j with
  | zero => simp
  | succ j =>
    have : (x % 2).testBit (j + 1) = false := Nat.testBit_lt_two_pow (by have := Nat.one_lt_two_pow (n := j + 1) (by omega); omega)
    rw [this]
    simp [Nat.testBit_succ]
theorem regB_bits (P : Nat) : ∀ (n x r : Nat), x < 2 ^ n → regB P r (bitsLE n x) = steps P n (r ^^^ x)
  | 0, x, r, h => by
    have : x = 0 := by simpa using h
    subst this
    simp [regB, bitsLE, steps]
  | n + 1, x, r, h => by
    rw [bitsLE_succ]
    show regB P (step P (r ^^^ (x % 2 == 1).toNat)) (bitsLE n (x / 2)) = _
    rw [regB_bits P n (x / 2) _ (by rw [Nat.pow_succ] at h; omega), steps_succ]
    have e : (x % 2 == 1).toNat = x % 2 := by
      rcases Nat.mod_two_eq_zero_or_one x with h | h <;> simp [h]
    have e3 : step P (r ^^^ x) = step P (r ^^^ x % 2) ^^^ x / 2 := by
      rw [low_high r x, step_xor P (r ^^^ x % 2)]
      congr 1
      have := steps_down P 1 (x / 2)
      simpa [steps] using this
    rw [e, e3]
theorem feed_bits (P r : Nat) (b : UInt8) : feed P r b.toNat = regB P r (bitsLE 8 b.toNat) := (regB_bits P 8 b.toNat r b.toNat_lt).symm
theorem bitsOfBytes_cons (b : UInt8) (l : List UInt8) : bitsOfBytes false (b :: l) = bitsLE 8 b.toNat ++ bitsOfBytes false l := by
  apply List.ext_getElem?
  intro i
  rw [List.getElem?_append]
  unfold bitsOfBytes bitsLE
  simp only [List.length_map, List.length_range, List.getElem?_map, List.length_cons]
  by_cases h : i < 8
  · rw [if_pos h, List.getElem?_range h, List.getElem?_range (show i < 8 * (l.length + 1) by omega)]
    simp [bit, place, show i / 8 = 0 by omega, Nat.mod_eq_of_lt h]
  · rw [if_neg h]
    by_cases h2 : i < 8 * (l.length + 1)
    · rw [List.getElem?_range h2, List.getElem?_range (show i - 8 < 8 * l.length by omega)]
      simp [bit, place, show i / 8 = (i - 8) / 8 + 1 by omega, show i % 8 = (i - 8) % 8 by omega]
    · rw [List.getElem?_eq_none (by simpa using Nat.le_of_not_lt h2), List.getElem?_eq_none (by simp; omega)]
      rfl
theorem reg_bits (P : Nat) : ∀ (l : List UInt8) (r : Nat), reg P r l = regB P r (bitsOfBytes false l)
  | [], r => rfl
  | b :: l, r => by
    rw [bitsOfBytes_cons, regB_append, ← feed_bits, ← reg_bits P l]
    rfl
theorem regB_xor (P : Nat) : ∀ (a b : List Bool) (r s : Nat), a.length = b.length → regB P (r ^^^ s) (List.zipWith xor a b) = regB P r a ^^^ regB P s b
  | [], [], _, _, _ => rfl
  | x :: a, y :: b, r, s, h => by
    have ih := regB_xor P a b (step P (r ^^^ x.toNat)) (step P (s ^^^ y.toNat)) (by simpa using h)
    show regB P (step P (r ^^^ s ^^^ (xor x y).toNat)) (List.zipWith xor a b) = regB P (step P (r ^^^ x.toNat)) a ^^^ regB P (step P (s ^^^ y.toNat)) b
    rw [← ih, ← step_xor]
    congr 2
    apply Nat.eq_of_testBit_eq
    intro j
    cases x <;> cases y <;> simp <;> cases r.testBit j <;> cases s.testBit j <;> cases (Nat.testBit 1 j) <;> rfl
theorem regB_zeros (P : Nat) : ∀ n, regB P 0 (List.replicate n false) = 0
  | 0 => rfl
  | n + 1 => by
    show regB P (step P (0 ^^^ 0)) (List.replicate n false) = 0
    rw [show step P (0 ^^^ 0) = 0 from rfl, regB_zeros P n]

/-- Where a row of few bits is turned, and the register is the same, nothing is turned. -/
theorem burst {W P ones : Nat} (hP : P.testBit W = true) (hP2 : P < 2 ^ (W + 1)) (c c' : List UInt8) (at_ row : Nat) (hl : c'.length = c.length) (hat : at_ ≤ 8 * c.length) (hrow : row < 2 ^ (W + 1))
    (hb : ∀ j, j < 8 * c.length → bit false c' j = (bit false c j ^^ (decide (at_ ≤ j) && row.testBit (j - at_)))) (h : reg P ones c' = reg P ones c) : c' = c := by
  obtain ⟨m, hm⟩ : ∃ m, 8 * c.length = at_ + m := ⟨8 * c.length - at_, by omega⟩
  have he : bitsOfBytes false c' = List.zipWith xor (bitsOfBytes false c) (List.replicate at_ false ++ bitsLE m row) := by
    apply List.ext_getElem?
    intro i
    rw [List.getElem?_zipWith]
    rcases Nat.lt_or_ge i (8 * c.length) with hi | hi
    · have g1 : (bitsOfBytes false c')[i]? = some (bit false c' i) := by unfold bitsOfBytes; rw [List.getElem?_map, List.getElem?_range (by rw [hl]; exact hi)]; rfl
      have g2 : (bitsOfBytes false c)[i]? = some (bit false c i) := by unfold bitsOfBytes; rw [List.getElem?_map, List.getElem?_range hi]; rfl
      have g3 : (List.replicate at_ false ++ bitsLE m row)[i]? = some (decide (at_ ≤ i) && row.testBit (i - at_)) := by
        rw [List.getElem?_append]
        by_cases h2 : i < at_
        · simp [h2]; omega
        · rw [if_neg (by simpa using h2)]
          unfold bitsLE
          rw [List.getElem?_map, List.length_replicate, List.getElem?_range (by omega)]
          simp; omega
      rw [g1, g2, g3, hb i hi]
    · rw [List.getElem?_eq_none (by rw [bitsOfBytes_length, hl]; exact hi), List.getElem?_eq_none (by rw [bitsOfBytes_length]; exact hi)]
  have hlen : (bitsOfBytes false c).length = (List.replicate at_ false ++ bitsLE m row).length := by rw [bitsOfBytes_length]; simp [bitsLE]; omega
  have hx := regB_xor P (bitsOfBytes false c) (List.replicate at_ false ++ bitsLE m row) ones 0 hlen
  rw [Nat.xor_zero, ← he, ← reg_bits, ← reg_bits, h] at hx
  have h0 : regB P 0 (List.replicate at_ false ++ bitsLE m row) = 0 := by
    have := congrArg (fun x => reg P ones c ^^^ x) hx
    simp only [← Nat.xor_assoc, Nat.xor_self, Nat.zero_xor] at this
    exact this.symm
  rw [regB_append, regB_zeros] at h0
  have hbm : bitsLE m row = bitsLE m (row % 2 ^ m) := by
    unfold bitsLE
    apply List.map_congr_left
    intro j hj
    rw [Nat.testBit_mod_two_pow]
    simp [List.mem_range.1 hj]
  rw [hbm, regB_bits P m _ 0 (Nat.mod_lt _ (Nat.two_pow_pos m)), Nat.zero_xor] at h0
  have hz := steps_eq_zero hP hP2 (Nat.lt_of_le_of_lt (Nat.mod_le _ _) hrow) m h0
  refine bytes_ext (high := false) hl fun i hi => ?_
  rw [hl] at hi
  rw [hb i hi]
  by_cases h2 : at_ ≤ i
  · have : (row % 2 ^ m).testBit (i - at_) = false := by rw [hz]; exact Nat.zero_testBit _
    rw [Nat.testBit_mod_two_pow] at this
    have h3 : i - at_ < m := by omega
    simp [h3] at this
    simp [this]
  · simp [h2]

theorem le_succ (x n : Nat) : le x (n + 1) = UInt8.ofNat x :: le (x / 256) n := by
  unfold le
  rw [List.range_succ_eq_map, List.map_cons, List.map_map]
  congr 1
  · simp
  · apply List.map_congr_left
    intro j _
    simp only [Function.comp]
    rw [Nat.div_div_eq_div_mul, show 8 * (j + 1) = 8 + 8 * j by omega, Nat.pow_add]
theorem le_of (n : Nat) : ∀ (e : List UInt8), e.length = n → ∃ x, x < 2 ^ (8 * n) ∧ e = le x n := by
  induction n with
  | zero =>
    intro e h
    exact ⟨0, by simp, by rw [List.length_eq_zero_iff.1 h]; rfl⟩
  | succ n ih =>
    intro e h
    obtain ⟨b, e, rfl⟩ : ∃ b e', e = b :: e' := by cases e with | nil => simp at h | cons b e => exact ⟨b, e, rfl⟩
    obtain ⟨x, hx, rfl⟩ := ih e (by simpa using h)
    have hb := b.toNat_lt
    refine ⟨b.toNat + 256 * x, ?_, ?_⟩
    · rw [show 8 * (n + 1) = 8 * n + 8 by omega, Nat.pow_add]; omega
    · rw [le_succ]
      congr 1
      · rw [← UInt8.toNat_inj, UInt8.toNat_ofNat']; omega
      · congr 1; omega
theorem bitsLE_add (a b x : Nat) : bitsLE (a + b) x = bitsLE a x ++ bitsLE b (x / 2 ^ a) := by
  apply List.ext_getElem?
  intro i
  rw [List.getElem?_append]
  unfold bitsLE
  simp only [List.length_map, List.length_range, List.getElem?_map]
  by_cases h : i < a
  · rw [if_pos h, List.getElem?_range h, List.getElem?_range (show i < a + b by omega)]
  · rw [if_neg h]
    by_cases h2 : i < a + b
    · rw [List.getElem?_range h2, List.getElem?_range (show i - a < b by omega)]
      simp only [Option.map_some, Nat.testBit_div_two_pow]
      congr 2; omega
    · rw [List.getElem?_eq_none (by simpa using Nat.le_of_not_lt h2), List.getElem?_eq_none (by simp; omega)]
      rfl
theorem bitsLE_mod (n m x : Nat) (h : n ≤ m) : bitsLE n (x % 2 ^ m) = bitsLE n x := by
  unfold bitsLE
  apply List.map_congr_left
  intro j hj
  have := List.mem_range.1 hj
  rw [Nat.testBit_mod_two_pow]
  simp; omega
theorem le_bits : ∀ (n x : Nat), bitsOfBytes false (le x n) = bitsLE (8 * n) x
  | 0, _ => rfl
  | n + 1, x => by
    rw [le_succ, bitsOfBytes_cons, le_bits n, show 8 * (n + 1) = 8 + 8 * n by omega, bitsLE_add, show (2 : Nat) ^ 8 = 256 from rfl]
    congr 1
    rw [UInt8.toNat_ofNat']
    exact bitsLE_mod 8 8 x (by omega)
theorem reg_le (P r x n : Nat) (h : x < 2 ^ (8 * n)) : reg P r (le x n) = steps P (8 * n) (r ^^^ x) := by
  rw [reg_bits, le_bits, regB_bits P _ _ _ h]

/-- The sum is right just if the register comes to one number. -/
theorem ends_reg {W n P ones : Nat} (hW : W + 1 = 8 * n) (hn : 1 ≤ n) (hP : P.testBit W = true) (hP2 : P < 2 ^ (W + 1)) (ho : ones < 2 ^ (W + 1)) (bs : List UInt8) (h : n ≤ bs.length) :
    (bs.drop (bs.length - n) = le (crc P ones (bs.take (bs.length - n))) n) ↔ reg P ones bs = steps P (8 * n) ones := by
  obtain ⟨x, hx, he⟩ := le_of n (bs.drop (bs.length - n)) (by simp; omega)
  have hs := reg_lt (W := W + 1) (by omega) hP2 (bs.take (bs.length - n)) ones ho
  have hreg : reg P ones bs = steps P (8 * n) (reg P ones (bs.take (bs.length - n)) ^^^ x) := by
    conv => lhs; rw [← List.take_append_drop (bs.length - n) bs]
    rw [reg_append, he, reg_le P _ x n hx]
  obtain ⟨s, hsd⟩ : ∃ s, s = reg P ones (bs.take (bs.length - n)) := ⟨_, rfl⟩
  have hcrc : crc P ones (bs.take (bs.length - n)) = s ^^^ ones := by rw [hsd]; rfl
  rw [← hsd] at hs hreg
  rw [hcrc, he, hreg]
  rw [← hW] at hx ⊢
  have hso : s ^^^ ones < 2 ^ (W + 1) := Nat.xor_lt_two_pow hs ho
  constructor
  · intro e
    have h1 := reg_le P s x n (by rw [← hW]; exact hx)
    have h2 := reg_le P s (s ^^^ ones) n (by rw [← hW]; exact hso)
    rw [← hW] at h1 h2
    rw [← h1, e, h2, ← Nat.xor_assoc, Nat.xor_self, Nat.zero_xor]
  · intro e
    have h1 : steps P (W + 1) ((s ^^^ x) ^^^ ones) = 0 := by rw [steps_xor, e, Nat.xor_self]
    have h2 := steps_eq_zero hP hP2 (Nat.xor_lt_two_pow (Nat.xor_lt_two_pow hs hx) ho) _ h1
    have h3 : x = s ^^^ ones := by
      have := congrArg (fun y => s ^^^ (y ^^^ ones)) h2
      simp only [Nat.zero_xor] at this
      rw [← this]
      apply Nat.eq_of_testBit_eq
      intro j
      simp only [Nat.testBit_xor]
      cases s.testBit j <;> cases x.testBit j <;> cases ones.testBit j <;> rfl
    rw [h3]
end Pure
end Go.Proofs.YtkllaghfiofnjaaDoor
