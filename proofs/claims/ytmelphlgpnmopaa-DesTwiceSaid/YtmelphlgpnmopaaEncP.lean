/- Numbers as rows of bits, the first one the greatest, and chapter 8's steps on them. Nothing of the program. -/
import Derived.Test.YtmelphlgpnmopaaDesLaws
namespace Go.Proofs.Ytmelphlgpnmopaa
namespace Pure
/-- The number whose bits these are, the first one the greatest. -/
def val : List Bool → Nat
  | [] => 0
  | b :: l => b.toNat * 2 ^ l.length + val l
theorem val_append (a b : List Bool) : val (a ++ b) = val a * 2 ^ b.length + val b := by
  induction a with
  | nil => simp [val]
  | cons x a ih => simp [val, ih, Nat.pow_add, Nat.add_mul, Nat.mul_assoc, Nat.add_assoc]
theorem val_lt (l : List Bool) : val l < 2 ^ l.length := by
  induction l with
  | nil => simp [val]
  | cons x l ih =>
    rw [List.length_cons, Nat.pow_succ]
    cases x <;> simp [val] <;> omega
theorem val_snoc (l : List Bool) (b : Bool) : val (l ++ [b]) = 2 * val l + b.toNat := by
  rw [val_append]; simp [val]; omega
theorem val_parts (l : List Bool) (n : Nat) : val l = val (l.take n) * 2 ^ (l.length - n) + val (l.drop n) := by
  conv => lhs; rw [← List.take_append_drop n l]
  rw [val_append, List.length_drop]
theorem val_drop (l : List Bool) (n : Nat) : val (l.drop n) = val l % 2 ^ (l.length - n) := by
  have h := val_lt (l.drop n)
  rw [List.length_drop] at h
  rw [val_parts l n, Nat.mul_add_mod', Nat.mod_eq_of_lt h]
theorem val_take (l : List Bool) (n : Nat) : val (l.take n) = val l / 2 ^ (l.length - n) := by
  have h := val_lt (l.drop n)
  rw [List.length_drop] at h
  rw [val_parts l n, Nat.mul_comm, Nat.mul_add_div (Nat.two_pow_pos _), Nat.div_eq_of_lt h]; rfl
theorem val_bit (l : List Bool) (p : Nat) (h1 : 1 ≤ p) (h2 : p ≤ l.length) : val l / 2 ^ (l.length - p) % 2 = (l.getD (p - 1) false).toNat := by
  obtain ⟨q, rfl⟩ : ∃ q, p = q + 1 := ⟨p - 1, by omega⟩
  have e : l.take (q + 1) = l.take q ++ [l.getD q false] := by
    rw [List.take_succ_eq_append_getElem (by omega), List.getD_eq_getElem?_getD, List.getElem?_eq_getElem (by omega)]; rfl
  rw [← val_take, e, val_snoc, Nat.add_sub_cancel]
  cases l.getD q false <;> simp <;> omega
theorem val_testBit (l : List Bool) (j : Nat) (h : j < l.length) : (val l).testBit j = l.getD (l.length - 1 - j) false := by
  have hb := val_bit l (l.length - j) (by omega) (by omega)
  rw [show l.length - (l.length - j) = j by omega, show l.length - j - 1 = l.length - 1 - j by omega] at hb
  have ht := Nat.toNat_testBit (val l) j
  rw [hb] at ht
  revert ht
  cases (val l).testBit j <;> cases l.getD (l.length - 1 - j) false <;> simp
theorem val_testBit' (l : List Bool) (j : Nat) (h : l.length ≤ j) : (val l).testBit j = false :=
  Nat.testBit_lt_two_pow (Nat.lt_of_lt_of_le (val_lt l) (Nat.pow_le_pow_right (by omega) h))
/-- Two rows of bits, xor'd. -/
def xors (a b : List Bool) : List Bool := (List.range a.length).map fun i => a.getD i false ^^ b.getD i false
theorem xors_length (a b : List Bool) : (xors a b).length = a.length := by simp [xors]
theorem xors_getD (a b : List Bool) (i : Nat) (h : i < a.length) : (xors a b).getD i false = (a.getD i false ^^ b.getD i false) := by
  unfold xors
  rw [List.getD_eq_getElem?_getD, List.getElem?_map, List.getElem?_range h]; rfl
theorem val_xors (a b : List Bool) (h : a.length = b.length) : val (xors a b) = val a ^^^ val b := by
  apply Nat.eq_of_testBit_eq
  intro j
  rw [Nat.testBit_xor]
  by_cases hj : j < a.length
  · rw [val_testBit _ j (by rw [xors_length]; exact hj), val_testBit a j hj, val_testBit b j (by omega), xors_length, xors_getD _ _ _ (by omega), h]
  · rw [val_testBit' _ j (by rw [xors_length]; omega), val_testBit' a j (by omega), val_testBit' b j (by omega)]; rfl
theorem val_or (a b : List Bool) : val a * 2 ^ b.length ||| val b = val (a ++ b) := by
  rw [val_append, ← Nat.shiftLeft_eq, Nat.shiftLeft_add_eq_or_of_lt (val_lt b)]
theorem or_low (a n b : Nat) (h : b < 2 ^ n) : a * 2 ^ n ||| b = a * 2 ^ n + b := by
  rw [← Nat.shiftLeft_eq, Nat.shiftLeft_add_eq_or_of_lt h]
theorem val_turn (c : List Bool) (n : Nat) (hc : c.length = 28) (h1 : 1 ≤ n) (h2 : n ≤ 2) : (val c * 2 ^ n ||| val c / 2 ^ (28 - n)) % 2 ^ 28 = val (desTurn c n) := by
  have hl := val_lt c
  rw [hc] at hl
  have e : val (desTurn c n) = val c % 2 ^ (28 - n) * 2 ^ n + val c / 2 ^ (28 - n) := by
    unfold desTurn
    rw [val_append, val_drop, val_take, hc, List.length_take, hc, Nat.min_eq_left (by omega)]
  rw [e]
  rcases (show n = 1 ∨ n = 2 by omega) with rfl | rfl
  · rw [or_low _ _ _ (by omega)]; omega
  · rw [or_low _ _ _ (by omega)]; omega
/-- The bits of one byte behind others. -/
theorem bits_snoc (bs : List UInt8) (b : UInt8) : val (bitsOfBytes true (bs ++ [b])) = val (bitsOfBytes true bs) * 256 + b.toNat := by
  have e : bitsOfBytes true (bs ++ [b]) = bitsOfBytes true bs ++ bitsOfBytes true [b] := by
    apply list_ext false
    · simp [bitsOfBytes_length, Nat.mul_add]
    · intro t ht
      rw [bitsOfBytes_length, List.length_append] at ht
      rw [bitsOfBytes_getD, bit_append]
      by_cases h : t < 8 * bs.length
      · rw [if_pos h, ← bitsOfBytes_getD, List.getD_eq_getElem?_getD, List.getD_eq_getElem?_getD, List.getElem?_append_left (by rw [bitsOfBytes_length]; exact h)]
      · rw [if_neg h, ← bitsOfBytes_getD, List.getD_eq_getElem?_getD, List.getD_eq_getElem?_getD, List.getElem?_append_right (by rw [bitsOfBytes_length]; omega), bitsOfBytes_length]
  rw [e, val_append, bitsOfBytes_length]
  have e2 : ∀ b : UInt8, val (bitsOfBytes true [b]) = b.toNat := by
    have : ∀ n : Fin 256, val (bitsOfBytes true [UInt8.ofNat n.val]) = n.val := by decide +kernel
    intro b
    have h := this ⟨b.toNat, b.toNat_lt⟩
    simpa using h
  rw [e2]; rfl
theorem byte_of (l : List Bool) (hl : l.length = 64) (i : Nat) (h : i < 8) : ((ofBits l).getD i 0).toNat = val l / 2 ^ (8 * (7 - i)) % 256 := by
  unfold ofBits
  rw [List.getD_eq_getElem?_getD, List.getElem?_map, List.getElem?_range (by omega)]
  show (UInt8.ofNat (num true (fun k => l.getD (8 * i + k) false) 8 8)).toNat = _
  rw [num_all true _ 8 (val l / 2 ^ (8 * (7 - i)) % 256) (by omega)]
  · simp
  · intro k hk
    rw [show (256 : Nat) = 2 ^ 8 by rfl, Nat.testBit_mod_two_pow, Nat.testBit_div_two_pow]
    have hp : place true 8 k = 7 - k := by unfold place; simp
    rw [hp, val_testBit l _ (by omega), hl]
    simp only [show 7 - k < 8 by omega, decide_true, Bool.true_and]
    congr 1; omega
/-- The table that puts bits back, the first n of them. -/
def backs : Nat → List Nat
  | 0 => List.replicate 64 0
  | n + 1 => (backs n).set (desIp.getD n 0 - 1) (n + 1)
theorem backs_length : ∀ n, (backs n).length = 64
  | 0 => by simp [backs]
  | n + 1 => by simp [backs, backs_length n]
theorem backs_at : ∀ t < 64, (backs 64).getD (desIp.getD t 0 - 1) 0 = t + 1 := by decide +kernel
theorem backs_range : ∀ t < 64, 1 ≤ (backs 64).getD t 0 ∧ (backs 64).getD t 0 ≤ 64 := by decide +kernel
theorem pick_backs (y : List Bool) : pick y (backs 64) = desPut y 64 := by
  apply list_ext false
  · rw [pick_length, backs_length, desPut_length]
  · intro j hj
    rw [pick_length, backs_length] at hj
    obtain ⟨t, ht, rfl⟩ := ip_all j hj
    rw [pick_at _ _ _ (by rw [backs_length]; exact hj), backs_at t ht, desPut_at y 64 (Nat.le_refl _) t ht, Nat.add_sub_cancel]
def expand : List Nat := (List.range 48).map fun t => (4 * (t / 6) + t % 6 + 31) % 32 + 1
theorem expand_length : expand.length = 48 := by simp [expand]
theorem expand_range : ∀ t < 48, 1 ≤ expand.getD t 0 ∧ expand.getD t 0 ≤ 32 := by decide +kernel
theorem expand_at (t : Nat) (h : t < 48) : expand.getD t 0 = (4 * (t / 6) + t % 6 + 31) % 32 + 1 := by
  unfold expand
  rw [List.getD_eq_getElem?_getD, List.getElem?_map, List.getElem?_range h]; rfl
theorem mixed_at (r k : List Bool) (i j : Nat) (hi : i < 8) (hj : j < 6) : (xors (pick r expand) k).getD (6 * i + j) false = desSix r k i j := by
  rw [xors_getD _ _ _ (by rw [pick_length, expand_length]; omega), pick_at _ _ _ (by rw [expand_length]; omega), expand_at _ (by omega)]
  unfold desSix
  rw [show (6 * i + j) / 6 = i by omega, show (6 * i + j) % 6 = j by omega, Nat.add_sub_cancel]
/-- Six bits of a row of 48 bits, as a number. -/
theorem six_of (g : List Bool) (hg : g.length = 48) (i : Nat) (hi : i < 8) :
    val g / 2 ^ (6 * (7 - i)) % 64 = 32 * (g.getD (6 * i) false).toNat + 16 * (g.getD (6 * i + 1) false).toNat + 8 * (g.getD (6 * i + 2) false).toNat + 4 * (g.getD (6 * i + 3) false).toNat + 2 * (g.getD (6 * i + 4) false).toNat + (g.getD (6 * i + 5) false).toNat := by
  have key : ∀ j, j < 6 → val g / 2 ^ (6 * (7 - i)) / 2 ^ (5 - j) % 2 = (g.getD (6 * i + j) false).toNat := by
    intro j hj
    have h := val_bit g (6 * i + j + 1) (by omega) (by omega)
    rw [hg] at h
    rw [Nat.div_div_eq_div_mul, ← Nat.pow_add, show 6 * (7 - i) + (5 - j) = 48 - (6 * i + j + 1) by omega]
    simpa using h
  have k0 := key 0 (by omega)
  have k1 := key 1 (by omega)
  have k2 := key 2 (by omega)
  have k3 := key 3 (by omega)
  have k4 := key 4 (by omega)
  have k5 := key 5 (by omega)
  simp only [Nat.sub_zero, Nat.reduceSub, Nat.reducePow, Nat.add_zero, Nat.div_one] at k0 k1 k2 k3 k4 k5
  omega
/-- The rows of S-box i, each of sixteen digits. -/
def rowNum (i row : Nat) : Nat := (List.range 16).foldl (fun a c => 16 * a + (desBox i).getD (16 * row + c) 0) 0
theorem rowNum_at : ∀ i < 8, ∀ row < 4, ∀ c < 16, rowNum i row / 2 ^ (4 * (15 - c)) % 16 = (desBox i).getD (16 * row + c) 0 := by decide +kernel
theorem rowNum_lt : ∀ i < 8, ∀ row < 4, rowNum i row < 18446744073709551616 := by decide +kernel
theorem val_nibble : ∀ s < 16, val (nibble s) = s := by decide +kernel
theorem boxes_lt : ∀ i < 8, ∀ t < 64, (desBox i).getD t 0 < 16 := by decide +kernel
theorem desAt_lt (r k : List Bool) (i : Nat) : desAt r k i < 64 := by
  unfold desAt
  have h := fun j => show (desSix r k i j).toNat ≤ 1 from Bool.toNat_le _
  have h0 := h 0
  have h1 := h 1
  have h2 := h 2
  have h3 := h 3
  have h4 := h 4
  have h5 := h 5
  omega
theorem desOuts_snoc (r k : List Bool) (i : Nat) : desOuts r k (i + 1) = desOuts r k i ++ nibble (desNum r k i) := by
  simp [desOuts, List.range_succ]
theorem val_outs (r k : List Bool) (i : Nat) (h : i < 8) : val (desOuts r k i) * 16 ||| desNum r k i = val (desOuts r k (i + 1)) := by
  have hn : desNum r k i < 16 := boxes_lt i h _ (desAt_lt r k i)
  rw [desOuts_snoc]
  conv => lhs; rw [← val_nibble _ hn]
  exact val_or (desOuts r k i) (nibble (desNum r k i))
theorem keyTable_is : ([57, 49, 41, 33, 25, 17, 9, 1, 58, 50, 42, 34, 26, 18, 10, 2, 59, 51, 43, 35, 27, 19, 11, 3, 60, 52, 44, 36, 63, 55, 47, 39, 31, 23, 15, 7, 62, 54, 46, 38, 30, 22, 14, 6, 61, 53, 45, 37, 29, 21, 13, 5, 28, 20, 12, 4] : List Nat).map (fun p => p - (p - 1) / 8) = desHalf false ++ desHalf true := by decide +kernel
theorem pick_append (b : List Bool) (p q : List Nat) : pick b (p ++ q) = pick b p ++ pick b q := by simp [pick]
end Pure
end Go.Proofs.Ytmelphlgpnmopaa
