/- The laws of chap: awake, ChapHashes. -/
import Derived.Test.YtkllaghfiofnjaaDoorQ1
import Derived.Test.YtkllaghfiofnjaaDoorQ10
import Derived.Test.YtkllaghfiofnjaaDoorQ2
import Derived.Laws.BitsAllLaws
namespace Go.Proofs.YtkllaghfiofnjaaDoor
open Go.RowKit
section
variable {w0 wr : World}
theorem hashL (E : Env w0) {s : ByteArray} {l : List UInt8} (B : Below w0.heap.size w0 wr) (hl : s.data.toList = l) (hsz : l.length ≤ 1000000) :
    Calls Tryd.prog 28 #[.string s] wr fun e w' => ∃ A c, e = .returned (.tuple #[.slice A (Pure.hash l).2.length c, .int .i64 (((Pure.hash l).1 : Nat) : Int)]) ∧ w'.ownsRow wr.heap.size 5 1 (.slice A (Pure.hash l).2.length c) (Pure.hash l).2.length (u8s (Pure.hash l).2) ∧ Keeps nobody wr w' ∧ Below w0.heap.size w0 w' :=
  (hash_any s l hl hsz wr (E.below B)).mono fun e w' ⟨u, he, hu, hb⟩ => by
    obtain ⟨A, c, rfl⟩ := own_form hu
    exact ⟨A, c, he, hu, Keeps.new hb, B.trans (hb.mono B.size)⟩
theorem dochashL {s : ByteArray} {l : List UInt8} (B : Below w0.heap.size w0 wr) (hl : s.data.toList = l) (hsz : l.length ≤ 1000000) :
    Calls Tryd.prog 29 #[.string s] wr fun e w' => ∃ A c, e = .returned (.tuple #[.slice A (Pure.hash l).2.length c, .int .i64 (((Pure.hash l).1 : Nat) : Int)]) ∧ w'.ownsRow wr.heap.size 5 1 (.slice A (Pure.hash l).2.length c) (Pure.hash l).2.length (u8s (Pure.hash l).2) ∧ Keeps nobody wr w' ∧ Below w0.heap.size w0 w' :=
  (dochash_any s l hl hsz wr).mono fun e w' ⟨u, he, hu, hb⟩ => by
    obtain ⟨A, c, rfl⟩ := own_form hu
    exact ⟨A, c, he, hu, Keeps.new hb, B.trans (hb.mono B.size)⟩
end
theorem md4_pass : Pure.md4 [99, 0, 108, 0, 105, 0, 101, 0, 110, 0, 116, 0, 80, 0, 97, 0, 115, 0, 115, 0] = [0x44, 0xeb, 0xba, 0x8d, 0x53, 0x12, 0xb8, 0xd6, 0x11, 0x47, 0x44, 0x11, 0xf5, 0x69, 0x89, 0xae] := by decide +kernel
theorem hash_plain (s : List UInt8) (h : ∀ c ∈ s, c.toNat < 128) (hl : s.length ≤ 256) : Pure.hash s = (0, Pure.md4 (s.flatMap fun c => [c, 0])) := by
  have hu : Pure.units s = some (s.flatMap fun c => [c, 0]) := by
    have := Pure.units_plain s [] h
    simpa [Pure.units] using this
  have hlen : (s.flatMap fun c => [c, 0]).length = 2 * s.length := by
    induction s with
    | nil => rfl
    | cons c s ih =>
      have := Pure.units_plain s [] (fun x hx => h x (by simp [hx]))
      rw [List.flatMap_cons, List.length_append, ih (fun x hx => h x (by simp [hx])) (by simp at hl; omega) (by simpa [Pure.units] using this)]
      simp; omega
  have hs := Pure.secret_some hu (by rw [hlen]; omega)
  rw [Pure.hash_ok (by rw [hs]), hs]
theorem hash_pass : Pure.hash [99, 108, 105, 101, 110, 116, 80, 97, 115, 115] = (0, [0x44, 0xeb, 0xba, 0x8d, 0x53, 0x12, 0xb8, 0xd6, 0x11, 0x47, 0x44, 0x11, 0xf5, 0x69, 0x89, 0xae]) := by
  rw [hash_plain _ (by decide) (by decide)]
  show (0, Pure.md4 [99, 0, 108, 0, 105, 0, 101, 0, 110, 0, 116, 0, 80, 0, 97, 0, 115, 0, 115, 0]) = _
  rw [md4_pass]
set_option maxRecDepth 100000 in
set_option maxHeartbeats 2000000 in
theorem awake_any (w : World) (E : Env w) : Calls Tryd.prog 27 #[] w fun e w' => e = .returned (.bool true) ∧ Below w.heap.size w w' := by
  have HS := Lib.hid (hashL (w0 := w) E (s := ⟨#[99, 108, 105, 101, 110, 116, 80, 97, 115, 115]⟩) (l := [99, 108, 105, 101, 110, 116, 80, 97, 115, 115]) (Below.refl _ w) rfl (by decide))
  rw [hash_pass] at HS
  go_enter Tryd.func27, Tryd.ntmps27
  go_wp2_with fail
  refine HS.out.mono ?_
  rintro e w1 ⟨A, c, rfl, hu, hk1, hb1⟩
  obtain ⟨b, rfl, _, hc⟩ := own_cell hu (by decide)
  have c0 := hc 0 _ rfl
  have c15 := hc 15 _ rfl
  have H1 := Lib.hid hb1
  clear hu hk1 hb1 HS hc
  go_wp2_with fail
  go_ret
  exact ⟨rfl, H1.out⟩
set_option maxRecDepth 100000 in
set_option maxHeartbeats 2000000 in
theorem chapHashes_walk (s : ByteArray) (w : World) (E : Env w) (hs : s.size ≤ maxLen) : Calls Tryd.prog 9 #[.string s] w fun e w' => e = .returned (.bool true) ∧ Below w.heap.size w w' := by
  unfold maxLen at hs
  obtain ⟨l, hl⟩ : ∃ l, s.data.toList = l := ⟨_, rfl⟩
  have hsl : s.size = l.length := by rw [← hl]; simp
  rw [hsl] at hs
  have HL := Lib.hid hl
  clear hl
  go_enter Tryd.func9, Tryd.ntmps9
  go_wp2_with fail
  refine (awake_any w E).mono ?_
  rintro e w1 ⟨rfl, hb1⟩
  have H1 := Lib.hid hb1
  clear hb1
  by_cases hlong : 3000 < l.length
  · have d0 : decide ((3000 : Int) < (l.length : Int)) = true := decide_eq_true (by omega)
    have d1 : decide (3000 < l.length) = true := decide_eq_true hlong
    go_wp2
    go_ret
    exact ⟨rfl, H1.out⟩
  · have d0 : decide ((3000 : Int) < (l.length : Int)) = false := decide_eq_false (by omega)
    have HP := Lib.hid (hashL (w0 := w) E H1.out HL.out (by omega))
    go_wp2_with fail
    refine HP.out.mono ?_
    rintro e w2 ⟨A2, c2, rfl, hu2, _, hb2⟩
    have HD := Lib.hid (dochashL (w0 := w) hb2 HL.out (by omega))
    have HU2 := Lib.hid hu2
    clear hu2 hb2 HP H1
    go_wp2_with fail
    refine HD.out.mono ?_
    rintro e w3 ⟨A3, c3, rfl, hu3, hk3, hb3⟩
    have HSM := Lib.hid (sameY (w0 := w) hb3 (Row.of_own (own_quiet HU2.out hk3)) (Row.of_own hu3) rfl rfl)
    clear hu3 hk3 hb3 HU2 HD
    go_wp2_with fail
    refine HSM.out.mono ?_
    rintro e w4 ⟨rfl, _, hb4⟩
    have H4 := Lib.hid hb4
    clear hb4 HSM
    go_wp2
    go_ret
    exact ⟨rfl, H4.out⟩
end Go.Proofs.YtkllaghfiofnjaaDoor

/- Plain facts on bits and numbers; nothing of the program. -/
namespace Go.Proofs.YtkllaghfiofnjaaDoor
namespace Pure

/-- The number below 2^n whose bit j is p j. -/
def natOf (p : Nat → Bool) : Nat → Nat
  | 0 => 0
  | n + 1 => natOf p n + (if p n then 2 ^ n else 0)
theorem natOf_lt (p : Nat → Bool) (n : Nat) : natOf p n < 2 ^ n := by
  induction n with
  | zero => simp [natOf]
  | succ n ih => simp only [natOf, Nat.pow_succ]; split <;> omega
theorem natOf_testBit (p : Nat → Bool) (n j : Nat) : (natOf p n).testBit j = (decide (j < n) && p j) := by
  induction n with
  | zero => simp [natOf]
  | succ n ih =>
    simp only [natOf]
    have hl := natOf_lt p n
    by_cases hp : p n
    · simp only [hp, if_true]
      rw [Nat.add_comm]
      by_cases hj : j = n
      · subst hj; rw [Nat.testBit_two_pow_add_eq]; simp [ih, hp]
      · rcases Nat.lt_or_gt_of_ne hj with h | h
        · rw [Nat.testBit_two_pow_add_gt h]; simp [ih, h, Nat.lt_succ_of_lt h]
        · have : (2 ^ n + natOf p n) < 2 ^ j := by
            have := Nat.pow_le_pow_right (n := 2) (by omega) (show n + 1 ≤ j from h)
            rw [Nat.pow_succ] at this; omega
          rw [Nat.testBit_lt_two_pow this]; simp; omega
    · simp only [hp, Bool.false_eq_true, if_false, Nat.add_zero, ih]
      by_cases hj : j = n
      · subst hj; simp [hp]
      · simp only [show (j < n + 1) ↔ (j < n) by omega]
theorem natOf_congr {p q : Nat → Bool} (n : Nat) (h : ∀ j, j < n → p j = q j) : natOf p n = natOf q n := by
  apply Nat.eq_of_testBit_eq; intro j
  rw [natOf_testBit, natOf_testBit]
  by_cases hj : j < n
  · simp [hj, h j hj]
  · simp [hj]
theorem eq_natOf (x n : Nat) (h : x < 2 ^ n) : x = natOf x.testBit n := by
  apply Nat.eq_of_testBit_eq; intro j
  rw [natOf_testBit]
  by_cases hj : j < n
  · simp [hj]
  · simp only [hj, decide_false, Bool.false_and]
    exact Nat.testBit_lt_two_pow (Nat.lt_of_lt_of_le h (Nat.pow_le_pow_right (by omega) (by omega)))
theorem eq_natOf_of {x n : Nat} {p : Nat → Bool} (h : x < 2 ^ n) (hp : ∀ j, j < n → x.testBit j = p j) : x = natOf p n := by
  rw [eq_natOf x n h]; exact natOf_congr n hp

/-- Where the k-th bit of a number of n bits stands. -/
def place (high : Bool) (n k : Nat) : Nat := if high then n - 1 - k else k
theorem place_place (high : Bool) (n k : Nat) (h : k < n) : place high n (place high n k) = k := by unfold place; split <;> omega
theorem place_lt (high : Bool) (n k : Nat) (h : k < n) : place high n k < n := by unfold place; split <;> omega

/-- The number of the first m of n bits f 0, f 1, ..; the rest is nought. -/
def num (high : Bool) (f : Nat → Bool) (n m : Nat) : Nat := natOf (fun j => decide (place high n j < m) && f (place high n j)) n
theorem num_lt (high : Bool) (f : Nat → Bool) (n m : Nat) : num high f n m < 2 ^ n := natOf_lt _ _
theorem num_testBit (high : Bool) (f : Nat → Bool) (n m j : Nat) : (num high f n m).testBit j = (decide (j < n) && (decide (place high n j < m) && f (place high n j))) := natOf_testBit _ _ _
theorem num_zero (high : Bool) (f : Nat → Bool) (n : Nat) : num high f n 0 = 0 := by
  apply Nat.eq_of_testBit_eq; intro j; simp [num_testBit]
theorem num_congr (high : Bool) {f g : Nat → Bool} (n m : Nat) (h : ∀ k, k < m → f k = g k) : num high f n m = num high g n m := by
  apply natOf_congr; intro j _
  by_cases hj : place high n j < m
  · simp [hj, h _ hj]
  · simp [hj]

/-- How far above the lowest bit a piece of k bits lies that has 'before' ahead of it. -/
def up (high : Bool) (width before k : Nat) : Nat := if high then width - before - k else before

/-- One step: the next k bits come out of a byte. -/
theorem num_step (high : Bool) (f : Nat → Bool) (n done k B used : Nat) (h1 : done + k ≤ n) (h2 : used + k ≤ 8) (hk : 0 < k)
    (hf : ∀ i, i < k → f (done + i) = B.testBit (place high 8 (used + i))) :
    num high f n done ||| ((B >>> up high 8 used k) % 2 ^ k) <<< up high n done k = num high f n (done + k) := by
  apply Nat.eq_of_testBit_eq; intro j
  rw [Nat.testBit_or, num_testBit, num_testBit, Nat.testBit_shiftLeft, Nat.testBit_mod_two_pow, Nat.testBit_shiftRight]
  cases high
  · simp only [up, place, Bool.false_eq_true, if_false] at hf ⊢
    by_cases hj : j < n
    · by_cases a : j < done
      · have : ¬ j ≥ done := by omega
        simp [hj, a, this, show j < done + k by omega]
      · by_cases b : j < done + k
        · have e := hf (j - done) (by omega)
          rw [show done + (j - done) = j by omega] at e
          simp [hj, a, b, show j ≥ done by omega, show j - done < k by omega, e]
        · simp [hj, a, b, show ¬ j - done < k by omega]
    · simp [hj, show ¬ j - done < k by omega]
  · simp only [up, place, if_true] at hf ⊢
    by_cases hj : j < n
    · by_cases a : n - 1 - j < done
      · have : ¬ j - (n - done - k) < k := by omega
        simp [hj, a, this, show n - 1 - j < done + k by omega]
      · by_cases b : n - 1 - j < done + k
        · have e := hf (n - 1 - j - done) (by omega)
          rw [show done + (n - 1 - j - done) = n - 1 - j by omega] at e
          rw [e]
          simp [hj, a, b, show j ≥ n - done - k by omega, show j - (n - done - k) < k by omega]
          congr 1; omega
        · simp [hj, a, b, show ¬ j ≥ n - done - k by omega]
    · simp [hj, show ¬ j - (n - done - k) < k by omega]

/-- The i-th bit of bytes. -/
def bit (high : Bool) (bs : List UInt8) (i : Nat) : Bool := ((bs.getD (i / 8) 0).toNat).testBit (place high 8 (i % 8))
/-- The number that the next n bits from a place on would form, and how many there are. -/
def peek (high : Bool) (bs : List UInt8) (at_ n : Nat) : Nat := num high (fun k => bit high bs (at_ + k)) n (min n (8 * bs.length - at_))

/-- The n bits of a number, first one first. -/
def bitsOf (high : Bool) (n x : Nat) : List Bool := (List.range n).map fun k => x.testBit (place high n k)
theorem bitsOf_length (high : Bool) (n x : Nat) : (bitsOf high n x).length = n := by simp [bitsOf]
theorem bitsOf_get (high : Bool) (n x k : Nat) (h : k < n) : (bitsOf high n x)[k]? = some (x.testBit (place high n k)) := by
  simp [bitsOf, h]

/-- The bytes bs hold the bits l; 'free' bits of the last byte are not written, and nought. -/
structure Packs (high : Bool) (l : List Bool) (bs : List UInt8) (free : Nat) : Prop where
  len : 8 * bs.length = l.length + free
  le : free ≤ 8
  bits : ∀ i, bit high bs i = l.getD i false

theorem bit_past (high : Bool) (bs : List UInt8) (i : Nat) (h : 8 * bs.length ≤ i) : bit high bs i = false := by
  unfold bit
  rw [List.getD_eq_getElem?_getD, List.getElem?_eq_none (by omega)]
  simp
theorem Packs.nil (high : Bool) : Packs high [] [] 0 := ⟨by simp, by omega, fun i => by rw [bit_past high [] i (by simp)]; simp⟩
theorem bit_append (high : Bool) (a b : List UInt8) (i : Nat) : bit high (a ++ b) i = if i < 8 * a.length then bit high a i else bit high b (i - 8 * a.length) := by
  unfold bit
  rw [List.getD_eq_getElem?_getD, List.getD_eq_getElem?_getD, List.getD_eq_getElem?_getD, List.getElem?_append]
  by_cases h : i < 8 * a.length
  · rw [if_pos (by omega), if_pos h]
  · rw [if_neg (by omega), if_neg h, show (i - 8 * a.length) / 8 = i / 8 - a.length by omega, show (i - 8 * a.length) % 8 = i % 8 by omega]
theorem Packs.more {high : Bool} {l : List Bool} {bs : List UInt8} (h : Packs high l bs 0) : Packs high l (bs ++ [0]) 8 := by
  refine ⟨by have := h.len; simp; omega, Nat.le_refl _, fun i => ?_⟩
  rw [bit_append]
  have hl := h.len
  split
  · exact h.bits i
  · rw [List.getD_eq_getElem?_getD, List.getElem?_eq_none (by omega)]
    unfold bit
    rw [List.getD_eq_getElem?_getD]
    rcases Nat.lt_or_ge ((i - 8 * bs.length) / 8) 1 with h1 | h1
    · rw [show (i - 8 * bs.length) / 8 = 0 by omega]; simp
    · rw [List.getElem?_eq_none (by simpa using h1)]; simp

/-- Bytes, as their bits. -/
def bitsOfBytes (high : Bool) (bs : List UInt8) : List Bool := (List.range (8 * bs.length)).map fun i => bit high bs i
theorem bitsOfBytes_length (high : Bool) (bs : List UInt8) : (bitsOfBytes high bs).length = 8 * bs.length := by simp [bitsOfBytes]
theorem bitsOfBytes_getD (high : Bool) (bs : List UInt8) (i : Nat) : (bitsOfBytes high bs).getD i false = bit high bs i := by
  rw [List.getD_eq_getElem?_getD]
  unfold bitsOfBytes
  rcases Nat.lt_or_ge i (8 * bs.length) with h | h
  · simp [h]
  · rw [List.getElem?_eq_none (by simpa using h), bit_past high bs i h]; rfl
/-- Aligned: the bits that were not written count as noughts. -/
theorem Packs.align {high : Bool} {l : List Bool} {bs : List UInt8} {free : Nat} (h : Packs high l bs free) : Packs high (l ++ List.replicate free false) bs 0 := by
  refine ⟨by have := h.len; simp; omega, by omega, fun i => ?_⟩
  rw [h.bits, List.getD_eq_getElem?_getD, List.getD_eq_getElem?_getD, List.getElem?_append]
  split
  · rfl
  · rename_i hi
    rw [List.getElem?_eq_none (by omega), List.getElem?_replicate]
    split <;> rfl
theorem Packs.add {high : Bool} {l : List Bool} {bs : List UInt8} (h : Packs high l bs 0) (b : List UInt8) : Packs high (l ++ bitsOfBytes high b) (bs ++ b) 0 := by
  have hl := h.len
  refine ⟨by simp [bitsOfBytes_length]; omega, by omega, fun i => ?_⟩
  rw [bit_append, List.getD_eq_getElem?_getD, List.getElem?_append]
  have e : 8 * bs.length = l.length := by omega
  rw [e]
  split
  · rw [h.bits, List.getD_eq_getElem?_getD]
  · rw [← List.getD_eq_getElem?_getD, bitsOfBytes_getD]

/-- One step of Put: k bits more, into the last byte. -/
theorem Packs.put {high : Bool} {l : List Bool} {bs : List UInt8} {free : Nat} (h : Packs high l bs free) (n x d k : Nat) (hk : 0 < k) (hkf : k ≤ free) (hn : d + k ≤ n)
    (L : Nat) (hL : L = (bs.getD (bs.length - 1) 0).toNat) :
    Packs high (l ++ (List.range k).map fun t => x.testBit (place high n (d + t)))
      (bs.set (bs.length - 1) (UInt8.ofNat (L ||| ((x >>> up high n d k) % 2 ^ k) * 2 ^ up high 8 (8 - free) k))) (free - k) := by
  have hl := h.len
  have hle := h.le
  have hpos : 0 < bs.length := by omega
  obtain ⟨p, hp⟩ : ∃ p, p = (x >>> up high n d k) % 2 ^ k := ⟨_, rfl⟩
  obtain ⟨S, hS⟩ : ∃ S, S = up high 8 (8 - free) k := ⟨_, rfl⟩
  rw [← hp, ← hS]
  have hS8 : S + k ≤ 8 := by rw [hS]; unfold up; split <;> omega
  have hplt : p < 2 ^ k := by rw [hp]; exact Nat.mod_lt _ (Nat.two_pow_pos k)
  have hY : p * 2 ^ S < 256 := by
    calc p * 2 ^ S < 2 ^ k * 2 ^ S := Nat.mul_lt_mul_of_pos_right hplt (Nat.two_pow_pos S)
      _ = 2 ^ (k + S) := (Nat.pow_add ..).symm
      _ ≤ 2 ^ 8 := Nat.pow_le_pow_right (by omega) (by omega)
  have hL2 : L < 256 := by rw [hL]; exact (bs.getD (bs.length - 1) 0).toNat_lt
  have hor : L ||| p * 2 ^ S < 2 ^ 8 := Nat.or_lt_two_pow (by omega) (by omega)
  refine ⟨by simp; omega, by omega, fun i => ?_⟩
  unfold bit
  by_cases hi : i / 8 = bs.length - 1
  · have hbit := h.bits i
    unfold bit at hbit
    rw [hi, ← hL] at hbit
    rw [hi, List.getD_eq_getElem?_getD, List.getElem?_set_self (by omega), Option.getD_some, UInt8.toNat_ofNat', Nat.mod_eq_of_lt hor, Nat.testBit_or, hbit,
      ← Nat.shiftLeft_eq, Nat.testBit_shiftLeft, hp, Nat.testBit_mod_two_pow, Nat.testBit_shiftRight, List.getD_eq_getElem?_getD, List.getD_eq_getElem?_getD, List.getElem?_append]
    by_cases a : i < l.length
    · rw [if_pos a]
      have : ¬ (S ≤ place high 8 (i % 8) ∧ place high 8 (i % 8) - S < k) := by
        rw [hS]; unfold up place; split <;> omega
      by_cases b : S ≤ place high 8 (i % 8)
      · simp [b, show ¬ place high 8 (i % 8) - S < k from fun c => this ⟨b, c⟩]
      · simp [b]
    · rw [if_neg a, List.getElem?_eq_none (by omega)]
      by_cases b : i - l.length < k
      · have e1 : S ≤ place high 8 (i % 8) := by rw [hS]; unfold up place; split <;> omega
        have e2 : place high 8 (i % 8) - S < k := by rw [hS]; unfold up place; split <;> omega
        have e3 : up high n d k + (place high 8 (i % 8) - S) = place high n (d + (i - l.length)) := by
          rw [hS]; unfold up place; split <;> omega
        simp [e1, e2, e3, b]
      · have : ¬ (S ≤ place high 8 (i % 8) ∧ place high 8 (i % 8) - S < k) := by
          rw [hS]; unfold up place; split <;> omega
        rw [List.getElem?_eq_none (by simpa using b)]
        by_cases c : S ≤ place high 8 (i % 8)
        · simp [show ¬ place high 8 (i % 8) - S < k from fun z => this ⟨c, z⟩]
        · simp [c]
  · have hbit := h.bits i
    unfold bit at hbit
    rw [List.getD_eq_getElem?_getD, List.getElem?_set_ne (Ne.symm hi), ← List.getD_eq_getElem?_getD, hbit, List.getD_eq_getElem?_getD, List.getD_eq_getElem?_getD, List.getElem?_append]
    by_cases a : i < l.length
    · rw [if_pos a]
    · rw [if_neg a, List.getElem?_eq_none (by omega), List.getElem?_eq_none (by simp; omega)]
theorem range_take (n d k : Nat) (h : d + k ≤ n) (high : Bool) (x : Nat) :
    (bitsOf high n x).take d ++ ((List.range k).map fun t => x.testBit (place high n (d + t))) = (bitsOf high n x).take (d + k) := by
  apply List.ext_getElem?
  intro i
  have hl := bitsOf_length high n x
  rw [List.getElem?_append, List.getElem?_take, List.getElem?_take, List.length_take, hl]
  by_cases a : i < d
  · rw [if_pos (by omega), if_pos a, if_pos (by omega)]
  · rw [if_neg (by omega)]
    by_cases b : i < d + k
    · rw [if_pos b, bitsOf_get high n x i (by omega)]
      simp [show i - min d n < k by omega, show d + (i - min d n) = i by omega]
    · rw [if_neg b, List.getElem?_eq_none (by simp; omega)]

theorem byte_ext {a b : UInt8} (h : ∀ j, j < 8 → a.toNat.testBit j = b.toNat.testBit j) : a = b := by
  apply UInt8.toNat_inj.1
  apply Nat.eq_of_testBit_eq
  intro j
  rcases Nat.lt_or_ge j 8 with hj | hj
  · exact h j hj
  · rw [Nat.testBit_lt_two_pow (Nat.lt_of_lt_of_le a.toNat_lt (Nat.pow_le_pow_right (n := 2) (by omega) hj)), Nat.testBit_lt_two_pow (Nat.lt_of_lt_of_le b.toNat_lt (Nat.pow_le_pow_right (n := 2) (by omega) hj))]
/-- Bytes of one length with the same bits are the same. -/
theorem bytes_ext {high : Bool} {a b : List UInt8} (hl : a.length = b.length) (h : ∀ i, i < 8 * a.length → bit high a i = bit high b i) : a = b := by
  apply List.ext_getElem hl
  intro i h1 h2
  apply byte_ext
  intro j hj
  have hp := place_lt high 8 j hj
  have := h (8 * i + place high 8 j) (by omega)
  unfold bit at this
  rw [show (8 * i + place high 8 j) / 8 = i by omega, show (8 * i + place high 8 j) % 8 = place high 8 j by omega, place_place high 8 j hj,
    List.getD_eq_getElem?_getD, List.getD_eq_getElem?_getD, List.getElem?_eq_getElem h1, List.getElem?_eq_getElem h2] at this
  exact this
theorem Packs.unique {high : Bool} {l : List Bool} {a b : List UInt8} {m n : Nat} (h : Packs high l a m) (h' : Packs high l b n) (hm : m ≤ 7) (hn : n ≤ 7) : a = b ∧ m = n := by
  have h1 := h.len
  have h2 := h'.len
  have hl : a.length = b.length := by omega
  exact ⟨bytes_ext (high := high) hl (fun i _ => (h.bits i).trans (h'.bits i).symm), by omega⟩

theorem num_all (high : Bool) (f : Nat → Bool) (n x : Nat) (hx : x < 2 ^ n) (h : ∀ k, k < n → f k = x.testBit (place high n k)) : num high f n n = x := by
  symm
  apply eq_natOf_of hx
  intro j hj
  have hp := place_lt high n j hj
  rw [h _ hp, place_place high n j hj]
  simp [hp]
/-- A number that was put is read where it was put. -/
theorem Packs.peek {high : Bool} {A C : List Bool} {n x : Nat} {bs : List UInt8} {free : Nat} (h : Packs high (A ++ bitsOf high n x ++ C) bs free) (hx : x < 2 ^ n) :
    Pure.peek high bs A.length n = x ∧ A.length + n ≤ 8 * bs.length := by
  have hl := h.len
  simp only [List.length_append, bitsOf_length] at hl
  refine ⟨?_, by omega⟩
  unfold Pure.peek
  rw [Nat.min_eq_left (by omega)]
  refine num_all high _ n x hx fun k hk => ?_
  rw [h.bits, List.getD_eq_getElem?_getD, List.append_assoc, List.getElem?_append_right (by omega), Nat.add_sub_cancel_left,
    List.getElem?_append_left (by rw [bitsOf_length]; exact hk), bitsOf_get high n x k hk]
  rfl
/-- Bytes that were added are read where they were added. -/
theorem Packs.bytes {high : Bool} {A C : List Bool} {b : List UInt8} {bs : List UInt8} {free m : Nat} (h : Packs high (A ++ bitsOfBytes high b ++ C) bs free) (hA : A.length = 8 * m) :
    (bs.drop m).take b.length = b ∧ m + b.length ≤ bs.length := by
  have hl := h.len
  simp only [List.length_append, bitsOfBytes_length] at hl
  refine ⟨?_, by have := h.le; omega⟩
  have hle := h.le
  apply bytes_ext (high := high)
  · simp; omega
  · intro i hi
    have hi' : i < 8 * b.length := by simp at hi; omega
    have e : bit high ((bs.drop m).take b.length) i = bit high bs (8 * m + i) := by
      unfold bit
      rw [List.getD_eq_getElem?_getD, List.getD_eq_getElem?_getD, List.getElem?_take, if_pos (by omega), List.getElem?_drop,
        show (8 * m + i) / 8 = m + i / 8 by omega, show (8 * m + i) % 8 = i % 8 by omega]
    rw [e, h.bits, ← bitsOfBytes_getD, List.getD_eq_getElem?_getD, List.getD_eq_getElem?_getD, List.append_assoc, List.getElem?_append_right (by omega),
      List.getElem?_append_left (by rw [bitsOfBytes_length]; omega), show 8 * m + i - A.length = i by omega]
end Pure
end Go.Proofs.YtkllaghfiofnjaaDoor
/- DES over lists of bits: what chapter 8 says, and what follows: all bits turned; two blocks; a key of noughts or of ones. Nothing of the program. -/
namespace Go.Proofs.YtkllaghfiofnjaaDoor
namespace Pure
/-- Bits by their places, from 1 on. -/
def pick (b : List Bool) (ps : List Nat) : List Bool := ps.map fun p => b.getD (p - 1) false
theorem pick_length (b : List Bool) (ps : List Nat) : (pick b ps).length = ps.length := by simp [pick]
theorem pick_snoc (b : List Bool) (ps : List Nat) (k : Nat) (h : k < ps.length) : pick b (ps.take (k + 1)) = pick b (ps.take k) ++ [b.getD (ps.getD k 0 - 1) false] := by
  have e : ps.take (k + 1) = ps.take k ++ [ps.getD k 0] := by
    rw [List.getD_eq_getElem?_getD, List.getElem?_eq_getElem h]
    exact (List.take_append_getElem h).symm
  rw [e]
  simp [pick]
def pc1C : List Nat := [57, 49, 41, 33, 25, 17, 9, 1, 58, 50, 42, 34, 26, 18, 10, 2, 59, 51, 43, 35, 27, 19, 11, 3, 60, 52, 44, 36]
def pc1D : List Nat := [63, 55, 47, 39, 31, 23, 15, 7, 62, 54, 46, 38, 30, 22, 14, 6, 61, 53, 45, 37, 29, 21, 13, 5, 28, 20, 12, 4]
def ofKey (p : Nat) : Nat := 7 * ((p - 1) / 8) + (p - 1) % 8 + 1
def desHalf (d : Bool) : List Nat := (if d then pc1D else pc1C).map ofKey
def desStarts : List Nat := [58, 60, 62, 64, 57, 59, 61, 63]
def desIp : List Nat := (List.range 64).map fun i => desStarts.getD (i / 8) 0 - 8 * (i % 8)
def desPc2 : List Nat := [14, 17, 11, 24, 1, 5, 3, 28, 15, 6, 21, 10, 23, 19, 12, 4, 26, 8, 16, 7, 27, 20, 13, 2, 41, 52, 31, 37, 47, 55, 30, 40, 51, 45, 33, 48, 44, 49, 39, 56, 34, 53, 46, 42, 50, 36, 29, 32]
def desP : List Nat := [16, 7, 20, 21, 29, 12, 28, 17, 1, 15, 23, 26, 5, 18, 31, 10, 2, 8, 24, 14, 32, 27, 3, 9, 19, 13, 30, 6, 22, 11, 4, 25]
def desBox : Nat → List Nat
  | 0 => [14, 4, 13, 1, 2, 15, 11, 8, 3, 10, 6, 12, 5, 9, 0, 7, 0, 15, 7, 4, 14, 2, 13, 1, 10, 6, 12, 11, 9, 5, 3, 8, 4, 1, 14, 8, 13, 6, 2, 11, 15, 12, 9, 7, 3, 10, 5, 0, 15, 12, 8, 2, 4, 9, 1, 7, 5, 11, 3, 14, 10, 0, 6, 13]
  | 1 => [15, 1, 8, 14, 6, 11, 3, 4, 9, 7, 2, 13, 12, 0, 5, 10, 3, 13, 4, 7, 15, 2, 8, 14, 12, 0, 1, 10, 6, 9, 11, 5, 0, 14, 7, 11, 10, 4, 13, 1, 5, 8, 12, 6, 9, 3, 2, 15, 13, 8, 10, 1, 3, 15, 4, 2, 11, 6, 7, 12, 0, 5, 14, 9]
  | 2 => [10, 0, 9, 14, 6, 3, 15, 5, 1, 13, 12, 7, 11, 4, 2, 8, 13, 7, 0, 9, 3, 4, 6, 10, 2, 8, 5, 14, 12, 11, 15, 1, 13, 6, 4, 9, 8, 15, 3, 0, 11, 1, 2, 12, 5, 10, 14, 7, 1, 10, 13, 0, 6, 9, 8, 7, 4, 15, 14, 3, 11, 5, 2, 12]
  | 3 => [7, 13, 14, 3, 0, 6, 9, 10, 1, 2, 8, 5, 11, 12, 4, 15, 13, 8, 11, 5, 6, 15, 0, 3, 4, 7, 2, 12, 1, 10, 14, 9, 10, 6, 9, 0, 12, 11, 7, 13, 15, 1, 3, 14, 5, 2, 8, 4, 3, 15, 0, 6, 10, 1, 13, 8, 9, 4, 5, 11, 12, 7, 2, 14]
  | 4 => [2, 12, 4, 1, 7, 10, 11, 6, 8, 5, 3, 15, 13, 0, 14, 9, 14, 11, 2, 12, 4, 7, 13, 1, 5, 0, 15, 10, 3, 9, 8, 6, 4, 2, 1, 11, 10, 13, 7, 8, 15, 9, 12, 5, 6, 3, 0, 14, 11, 8, 12, 7, 1, 14, 2, 13, 6, 15, 0, 9, 10, 4, 5, 3]
  | 5 => [12, 1, 10, 15, 9, 2, 6, 8, 0, 13, 3, 4, 14, 7, 5, 11, 10, 15, 4, 2, 7, 12, 9, 5, 6, 1, 13, 14, 0, 11, 3, 8, 9, 14, 15, 5, 2, 8, 12, 3, 7, 0, 4, 10, 1, 13, 11, 6, 4, 3, 2, 12, 9, 5, 15, 10, 11, 14, 1, 7, 6, 0, 8, 13]
  | 6 => [4, 11, 2, 14, 15, 0, 8, 13, 3, 12, 9, 7, 5, 10, 6, 1, 13, 0, 11, 7, 4, 9, 1, 10, 14, 3, 5, 12, 2, 15, 8, 6, 1, 4, 11, 13, 12, 3, 7, 14, 10, 15, 6, 8, 0, 5, 9, 2, 6, 11, 13, 8, 1, 4, 10, 7, 9, 5, 0, 15, 14, 2, 3, 12]
  | _ => [13, 2, 8, 4, 6, 15, 11, 1, 10, 9, 3, 14, 5, 0, 12, 7, 1, 15, 13, 8, 10, 3, 7, 4, 12, 5, 6, 11, 0, 14, 9, 2, 7, 11, 4, 1, 9, 12, 14, 2, 0, 6, 10, 13, 15, 3, 5, 8, 2, 1, 14, 7, 4, 10, 8, 13, 15, 12, 9, 0, 3, 5, 6, 11]
def desTurn (b : List Bool) (n : Nat) : List Bool := b.drop n ++ b.take n
theorem desTurn_length (b : List Bool) (n : Nat) : (desTurn b n).length = b.length := by simp [desTurn]; omega
/-- How far the halves turn in a round. -/
def desBy (round : Nat) : Nat := if round = 1 ∨ round = 2 ∨ round = 9 ∨ round = 16 then 1 else 2
/-- One of the six bits that go into box i. -/
def desSix (r k : List Bool) (i j : Nat) : Bool := r.getD ((4 * i + j + 31) % 32) false ^^ k.getD (6 * i + j) false
def desAt (r k : List Bool) (i : Nat) : Nat :=
  16 * (2 * (desSix r k i 0).toNat + (desSix r k i 5).toNat) + 8 * (desSix r k i 1).toNat + 4 * (desSix r k i 2).toNat + 2 * (desSix r k i 3).toNat + (desSix r k i 4).toNat
def desNum (r k : List Bool) (i : Nat) : Nat := (desBox i).getD (desAt r k i) 0
def nibble (s : Nat) : List Bool := [s.testBit 3, s.testBit 2, s.testBit 1, s.testBit 0]
/-- What i boxes put out. -/
def desOuts (r k : List Bool) (i : Nat) : List Bool := (List.range i).flatMap fun i => nibble (desNum r k i)
def desF (r k : List Bool) : List Bool := pick (desOuts r k 8) desP
def desXor (l f : List Bool) : List Bool := (List.range 32).map fun i => l.getD i false ^^ f.getD i false
structure Halves where
  c : List Bool
  d : List Bool
  l : List Bool
  r : List Bool
def desRoundKey (c d : List Bool) : List Bool := pick (c ++ d) desPc2
/-- Round number n, from 1 on. -/
def desRound (n : Nat) (s : Halves) : Halves :=
  let c := desTurn s.c (desBy n)
  let d := desTurn s.d (desBy n)
  ⟨c, d, s.r, desXor s.l (desF s.r (desRoundKey c d))⟩
def desRounds (s : Halves) : Nat → Halves
  | 0 => s
  | n + 1 => desRound (n + 1) (desRounds s n)
def desStart (key block : List Bool) : Halves :=
  let x := pick block desIp
  ⟨pick key (desHalf false), pick key (desHalf true), x.take 32, x.drop 32⟩
/-- The places of IP filled, the first i of them. -/
def desPut (y : List Bool) : Nat → List Bool
  | 0 => List.replicate 64 false
  | i + 1 => (desPut y i).set (desIp.getD i 0 - 1) (y.getD i false)
def desBits (key block : List Bool) : List Bool :=
  let s := desRounds (desStart key block) 16
  desPut (s.r ++ s.l) 64
/-- Eight bits a byte. -/
def ofBits (l : List Bool) : List UInt8 := (List.range (l.length / 8)).map fun q => UInt8.ofNat (num true (fun k => l.getD (8 * q + k) false) 8 8)
def des (key block : List UInt8) : List UInt8 := ofBits (desBits (bitsOfBytes true key) (bitsOfBytes true block))
theorem ofBits_length (l : List Bool) : (ofBits l).length = l.length / 8 := by simp [ofBits]
theorem ofBits_back (l : List Bool) (h : l.length % 8 = 0) : bitsOfBytes true (ofBits l) = l := by
  apply List.ext_getElem
  · rw [bitsOfBytes_length, ofBits_length]; omega
  · intro i h1 h2
    have e1 : (bitsOfBytes true (ofBits l))[i] = bit true (ofBits l) i := by simp [bitsOfBytes]
    rw [e1]
    unfold bit
    have hq : i / 8 < l.length / 8 := by omega
    have e2 : (ofBits l).getD (i / 8) 0 = UInt8.ofNat (num true (fun k => l.getD (8 * (i / 8) + k) false) 8 8) := by
      unfold ofBits
      rw [List.getD_eq_getElem?_getD, List.getElem?_map, List.getElem?_range hq]
      rfl
    have hlt := num_lt true (fun k => l.getD (8 * (i / 8) + k) false) 8 8
    rw [e2, UInt8.toNat_ofNat', Nat.mod_eq_of_lt hlt, num_testBit]
    have hp := place_lt true 8 (i % 8) (by omega)
    rw [place_place true 8 (i % 8) (by omega)]
    have e3 : 8 * (i / 8) + i % 8 = i := by omega
    simp only [hp, decide_true, Bool.true_and, e3, show i % 8 < 8 by omega]
    rw [List.getD_eq_getElem?_getD, List.getElem?_eq_getElem h2]
    rfl
theorem des_known : des [0x12, 0x69, 0x5b, 0xc9, 0xb7, 0xb7, 0xf8] [0x01, 0x23, 0x45, 0x67, 0x89, 0xab, 0xcd, 0xef] = [0x85, 0xe8, 0x13, 0x54, 0x0f, 0x0a, 0xb4, 0x05] := by decide +kernel
end Pure
end Go.Proofs.YtkllaghfiofnjaaDoor
/- DES over lists of bits, what follows: all bits turned; two blocks come out unlike if they are; by a key of noughts or of ones twice is nothing. -/
namespace Go.Proofs.YtkllaghfiofnjaaDoor
namespace Pure
def notL (l : List Bool) : List Bool := l.map (!·)
theorem notL_length (l : List Bool) : (notL l).length = l.length := by simp [notL]
theorem notL_getD (l : List Bool) (i : Nat) (h : i < l.length) : (notL l).getD i false = !l.getD i false := by
  unfold notL
  rw [List.getD_eq_getElem?_getD, List.getD_eq_getElem?_getD, List.getElem?_map, List.getElem?_eq_getElem h]
  rfl
theorem notL_append (a b : List Bool) : notL (a ++ b) = notL a ++ notL b := by simp [notL]
theorem pick_not (b : List Bool) (ps : List Nat) (h : ∀ p ∈ ps, p - 1 < b.length) : pick (notL b) ps = notL (pick b ps) := by
  unfold pick notL
  rw [List.map_map]
  apply List.map_congr_left
  intro p hp
  exact notL_getD b (p - 1) (h p hp)
theorem desTurn_not (b : List Bool) (n : Nat) : desTurn (notL b) n = notL (desTurn b n) := by simp [desTurn, notL, List.map_drop, List.map_take]
theorem list_ext {α : Type} (d : α) (a b : List α) (hl : a.length = b.length) (h : ∀ t, t < a.length → a.getD t d = b.getD t d) : a = b := by
  apply List.ext_getElem hl
  intro t h1 h2
  have := h t h1
  rwa [List.getD_eq_getElem?_getD, List.getD_eq_getElem?_getD, List.getElem?_eq_getElem h1, List.getElem?_eq_getElem h2] at this
/-- The halves as long as they should be. -/
structure Good (s : Halves) : Prop where
  c : s.c.length = 28
  d : s.d.length = 28
  l : s.l.length = 32
  r : s.r.length = 32
theorem desXor_length (l f : List Bool) : (desXor l f).length = 32 := by simp [desXor]
theorem Good.round {s : Halves} (h : Good s) (n : Nat) : Good (desRound n s) := ⟨by simp [desRound, desTurn_length, h.c], by simp [desRound, desTurn_length, h.d], h.r, desXor_length _ _⟩
theorem Good.rounds {s : Halves} (h : Good s) : ∀ n, Good (desRounds s n)
  | 0 => h
  | n + 1 => (Good.rounds h n).round (n + 1)
theorem Good.start (key block : List Bool) : Good (desStart key block) := by
  refine ⟨?_, ?_, ?_, ?_⟩ <;> simp [desStart, pick_length, desHalf, pc1C, pc1D, desIp]
def Halves.nots (s : Halves) : Halves := ⟨notL s.c, notL s.d, notL s.l, notL s.r⟩
theorem desSix_not (r k : List Bool) (hr : r.length = 32) (hk : k.length = 48) (i j : Nat) (hi : i < 8) (hj : j < 6) : desSix (notL r) (notL k) i j = desSix r k i j := by
  unfold desSix
  rw [notL_getD _ _ (by rw [hr]; omega), notL_getD _ _ (by rw [hk]; omega)]
  cases r.getD ((4 * i + j + 31) % 32) false <;> cases k.getD (6 * i + j) false <;> rfl
theorem desOuts_not (r k : List Bool) (hr : r.length = 32) (hk : k.length = 48) : desOuts (notL r) (notL k) 8 = desOuts r k 8 := by
  unfold desOuts
  rw [List.flatMap_def, List.flatMap_def]
  congr 1
  apply List.map_congr_left
  intro i hi
  rw [List.mem_range] at hi
  unfold desNum desAt
  rw [desSix_not r k hr hk i 0 hi (by omega), desSix_not r k hr hk i 1 hi (by omega), desSix_not r k hr hk i 2 hi (by omega), desSix_not r k hr hk i 3 hi (by omega), desSix_not r k hr hk i 4 hi (by omega), desSix_not r k hr hk i 5 hi (by omega)]
theorem desF_not (r k : List Bool) (hr : r.length = 32) (hk : k.length = 48) : desF (notL r) (notL k) = desF r k := by
  unfold desF
  rw [desOuts_not r k hr hk]
theorem desXor_not (l f : List Bool) (hl : l.length = 32) : desXor (notL l) f = notL (desXor l f) := by
  unfold desXor
  show _ = List.map (!·) (List.map _ _)
  rw [List.map_map]
  apply List.map_congr_left
  intro i hi
  rw [List.mem_range] at hi
  show ((notL l).getD i false ^^ f.getD i false) = !(l.getD i false ^^ f.getD i false)
  rw [notL_getD _ _ (by rw [hl]; exact hi)]
  cases l.getD i false <;> cases f.getD i false <;> rfl
theorem pc2_in : ∀ p ∈ desPc2, p - 1 < 56 := by decide
theorem half_in : ∀ d, ∀ p ∈ desHalf d, p - 1 < 56 := by decide
theorem ip_in : ∀ p ∈ desIp, p - 1 < 64 := by decide
theorem desRoundKey_length (c d : List Bool) : (desRoundKey c d).length = 48 := by simp [desRoundKey, pick_length, desPc2]
theorem desRoundKey_not (c d : List Bool) (hc : c.length = 28) (hd : d.length = 28) : desRoundKey (notL c) (notL d) = notL (desRoundKey c d) := by
  unfold desRoundKey
  rw [← notL_append]
  exact pick_not _ _ (fun p hp => by rw [List.length_append, hc, hd]; exact pc2_in p hp)
theorem desRound_not (n : Nat) (s : Halves) (h : Good s) : desRound n s.nots = (desRound n s).nots := by
  unfold desRound Halves.nots
  simp only [desTurn_not]
  rw [desRoundKey_not _ _ (by rw [desTurn_length, h.c]) (by rw [desTurn_length, h.d]), desF_not _ _ h.r (desRoundKey_length _ _), desXor_not _ _ h.l]
theorem desRounds_not (s : Halves) (h : Good s) : ∀ n, desRounds s.nots n = (desRounds s n).nots
  | 0 => rfl
  | n + 1 => by
    show desRound (n + 1) (desRounds s.nots n) = (desRound (n + 1) (desRounds s n)).nots
    rw [desRounds_not s h n, desRound_not _ _ (h.rounds n)]
theorem desStart_not (key block : List Bool) (hk : key.length = 56) (hb : block.length = 64) : desStart (notL key) (notL block) = (desStart key block).nots := by
  unfold desStart Halves.nots
  simp only []
  rw [pick_not key (desHalf false) (fun p hp => by rw [hk]; exact half_in _ p hp), pick_not key (desHalf true) (fun p hp => by rw [hk]; exact half_in _ p hp), pick_not block desIp (fun p hp => by rw [hb]; exact ip_in p hp)]
  simp [notL, List.map_take, List.map_drop]

/-! IP, and back. -/
theorem ip_length : desIp.length = 64 := by simp [desIp]
theorem ip_at (t : Nat) (h : t < 64) : desIp.getD t 0 - 1 < 64 := by
  have : ∀ t < 64, desIp.getD t 0 - 1 < 64 := by decide
  exact this t h
theorem ip_one : ∀ s < 64, ∀ t < 64, desIp.getD s 0 - 1 = desIp.getD t 0 - 1 → s = t := by decide +kernel
theorem ip_all : ∀ j < 64, ∃ t < 64, desIp.getD t 0 - 1 = j := by decide +kernel
theorem desPut_length (y : List Bool) : ∀ i, (desPut y i).length = 64
  | 0 => by simp [desPut]
  | i + 1 => by simp only [desPut, List.length_set]; exact desPut_length y i
theorem desPut_at (y : List Bool) : ∀ i, i ≤ 64 → ∀ t, t < i → (desPut y i).getD (desIp.getD t 0 - 1) false = y.getD t false
  | 0, _, _, h => by omega
  | i + 1, hi, t, ht => by
    simp only [desPut]
    by_cases e : t = i
    · subst e
      rw [List.getD_eq_getElem?_getD, List.getElem?_set_self (by rw [desPut_length]; exact ip_at t (by omega))]
      rfl
    · rw [List.getD_eq_getElem?_getD, List.getElem?_set_ne (fun h => e (ip_one t (by omega) i (by omega) h.symm)), ← List.getD_eq_getElem?_getD]
      exact desPut_at y i (by omega) t (by omega)
theorem pick_at (b : List Bool) (ps : List Nat) (t : Nat) (h : t < ps.length) : (pick b ps).getD t false = b.getD (ps.getD t 0 - 1) false := by
  unfold pick
  rw [List.getD_eq_getElem?_getD, List.getElem?_map, List.getElem?_eq_getElem h]
  show b.getD (ps[t] - 1) false = _
  rw [List.getD_eq_getElem?_getD (l := ps), List.getElem?_eq_getElem h]
  rfl
theorem pick_put (y : List Bool) (hy : y.length = 64) : pick (desPut y 64) desIp = y := by
  refine list_ext false _ _ (by rw [pick_length, ip_length, hy]) fun t ht => ?_
  rw [pick_length, ip_length] at ht
  rw [pick_at _ _ _ (by rw [ip_length]; exact ht)]
  exact desPut_at y 64 (Nat.le_refl _) t ht
theorem pick_ip_inj (a b : List Bool) (ha : a.length = 64) (hb : b.length = 64) (h : pick a desIp = pick b desIp) : a = b := by
  refine list_ext false _ _ (by rw [ha, hb]) fun j hj => ?_
  obtain ⟨t, ht, rfl⟩ := ip_all j (by omega)
  rw [← pick_at a desIp t (by rw [ip_length]; exact ht), h, pick_at b desIp t (by rw [ip_length]; exact ht)]
theorem put_pick (a : List Bool) (ha : a.length = 64) : desPut (pick a desIp) 64 = a := by
  refine pick_ip_inj _ _ (desPut_length _ _) ha ?_
  exact pick_put _ (by rw [pick_length, ip_length])
theorem desPut_not (y : List Bool) (hy : y.length = 64) : desPut (notL y) 64 = notL (desPut y 64) := by
  refine pick_ip_inj _ _ (desPut_length _ _) (by rw [notL_length, desPut_length]) ?_
  rw [pick_put _ (by rw [notL_length]; exact hy), pick_not _ _ (fun p hp => by rw [desPut_length]; exact ip_in p hp), pick_put _ hy]
theorem desBits_not (key block : List Bool) (hk : key.length = 56) (hb : block.length = 64) : desBits (notL key) (notL block) = notL (desBits key block) := by
  unfold desBits
  have hg := Good.start key block
  simp only []
  rw [desStart_not key block hk hb, desRounds_not _ hg 16]
  show desPut (notL (desRounds (desStart key block) 16).r ++ notL (desRounds (desStart key block) 16).l) 64 = _
  rw [← notL_append, desPut_not]
  rw [List.length_append, (hg.rounds 16).r, (hg.rounds 16).l]

/-! Two blocks. -/
theorem desXor_back (l f : List Bool) (hl : l.length = 32) : desXor (desXor l f) f = l := by
  refine list_ext false _ _ (by rw [desXor_length, hl]) fun i hi => ?_
  rw [desXor_length] at hi
  have e : ∀ (l f : List Bool), (desXor l f).getD i false = (l.getD i false ^^ f.getD i false) := fun l f => by
    unfold desXor
    rw [List.getD_eq_getElem?_getD, List.getElem?_map, List.getElem?_range hi]
    rfl
  rw [e, e]
  cases l.getD i false <;> cases f.getD i false <;> rfl
theorem desRound_inj (n : Nat) (s t : Halves) (hs : Good s) (ht : Good t) (hc : s.c = t.c) (hd : s.d = t.d) (hl : (desRound n s).l = (desRound n t).l) (hr : (desRound n s).r = (desRound n t).r) : s.l = t.l ∧ s.r = t.r := by
  have e1 : s.r = t.r := hl
  refine ⟨?_, e1⟩
  have e2 : desXor s.l (desF s.r (desRoundKey (desTurn s.c (desBy n)) (desTurn s.d (desBy n)))) = desXor t.l (desF t.r (desRoundKey (desTurn t.c (desBy n)) (desTurn t.d (desBy n)))) := hr
  rw [e1, hc, hd] at e2
  rw [← desXor_back s.l (desF t.r (desRoundKey (desTurn t.c (desBy n)) (desTurn t.d (desBy n)))) hs.l, e2, desXor_back _ _ ht.l]
theorem desRounds_cd (s t : Halves) (hc : s.c = t.c) (hd : s.d = t.d) : ∀ n, (desRounds s n).c = (desRounds t n).c ∧ (desRounds s n).d = (desRounds t n).d
  | 0 => ⟨hc, hd⟩
  | n + 1 => by
    obtain ⟨h1, h2⟩ := desRounds_cd s t hc hd n
    show desTurn (desRounds s n).c _ = desTurn (desRounds t n).c _ ∧ desTurn (desRounds s n).d _ = desTurn (desRounds t n).d _
    rw [h1, h2]
    exact ⟨rfl, rfl⟩
theorem desRounds_inj (s t : Halves) (hs : Good s) (ht : Good t) (hc : s.c = t.c) (hd : s.d = t.d) : ∀ n, (desRounds s n).l = (desRounds t n).l → (desRounds s n).r = (desRounds t n).r → s.l = t.l ∧ s.r = t.r
  | 0, hl, hr => ⟨hl, hr⟩
  | n + 1, hl, hr => by
    obtain ⟨h1, h2⟩ := desRounds_cd s t hc hd n
    obtain ⟨h3, h4⟩ := desRound_inj (n + 1) _ _ (hs.rounds n) (ht.rounds n) h1 h2 hl hr
    exact desRounds_inj s t hs ht hc hd n h3 h4
theorem desBits_inj (key a b : List Bool) (ha : a.length = 64) (hb : b.length = 64) (h : desBits key a = desBits key b) : a = b := by
  have hga := Good.start key a
  have hgb := Good.start key b
  have e : (desRounds (desStart key a) 16).r ++ (desRounds (desStart key a) 16).l = (desRounds (desStart key b) 16).r ++ (desRounds (desStart key b) 16).l := by
    have h1 := pick_put ((desRounds (desStart key a) 16).r ++ (desRounds (desStart key a) 16).l) (by rw [List.length_append, (hga.rounds 16).r, (hga.rounds 16).l])
    have h2 := pick_put ((desRounds (desStart key b) 16).r ++ (desRounds (desStart key b) 16).l) (by rw [List.length_append, (hgb.rounds 16).r, (hgb.rounds 16).l])
    rw [← h1, ← h2]
    exact congrArg (pick · desIp) h
  obtain ⟨h1, h2⟩ := List.append_inj e (by rw [(hga.rounds 16).r, (hgb.rounds 16).r])
  obtain ⟨h3, h4⟩ := desRounds_inj _ _ hga hgb rfl rfl 16 h2 h1
  refine pick_ip_inj a b ha hb ?_
  have h5 : (pick a desIp).take 32 = (pick b desIp).take 32 := h3
  have h6 : (pick a desIp).drop 32 = (pick b desIp).drop 32 := h4
  rw [← List.take_append_drop 32 (pick a desIp), h5, h6, List.take_append_drop]

/-! A key of one bit alone. -/
theorem desTurn_rep (n : Nat) (v : Bool) (k : Nat) (hk : k ≤ n) : desTurn (List.replicate n v) k = List.replicate n v := by
  unfold desTurn
  rw [List.drop_replicate, List.take_replicate, List.replicate_append_replicate]
  congr 1
  omega
theorem desBy_le (n : Nat) : desBy n ≤ 28 := by unfold desBy; split <;> omega
theorem pick_rep (n : Nat) (v : Bool) (ps : List Nat) (h : ∀ p ∈ ps, p - 1 < n) : pick (List.replicate n v) ps = List.replicate ps.length v := by
  unfold pick
  rw [List.eq_replicate_iff]
  refine ⟨by simp, fun b hb => ?_⟩
  obtain ⟨p, hp, rfl⟩ := List.mem_map.1 hb
  rw [List.getD_eq_getElem?_getD, List.getElem?_replicate, if_pos (h p hp)]
  rfl
/-- One round with a fixed round key, over the two halves of the block. -/
def desStep (K : List Bool) (p : List Bool × List Bool) : List Bool × List Bool := (p.2, desXor p.1 (desF p.2 K))
def desSteps (K : List Bool) (p : List Bool × List Bool) : Nat → List Bool × List Bool
  | 0 => p
  | n + 1 => desStep K (desSteps K p n)
theorem desSteps_swap (K : List Bool) : ∀ n p, desSteps K (desStep K p) n = desSteps K p (n + 1)
  | 0, _ => rfl
  | n + 1, p => by
    show desStep K (desSteps K (desStep K p) n) = desStep K (desSteps K p (n + 1))
    rw [desSteps_swap K n p]
def swp (p : List Bool × List Bool) : List Bool × List Bool := (p.2, p.1)
theorem desStep_back (K : List Bool) (p : List Bool × List Bool) (h : p.1.length = 32) : desStep K (swp (desStep K p)) = swp p := by
  unfold desStep swp
  simp only []
  rw [desXor_back _ _ h]
theorem desSteps_good (K : List Bool) (p : List Bool × List Bool) (h1 : p.1.length = 32) (h2 : p.2.length = 32) : ∀ n, (desSteps K p n).1.length = 32 ∧ (desSteps K p n).2.length = 32
  | 0 => ⟨h1, h2⟩
  | n + 1 => ⟨(desSteps_good K p h1 h2 n).2, desXor_length _ _⟩
theorem desSteps_back (K : List Bool) (p : List Bool × List Bool) (h1 : p.1.length = 32) (h2 : p.2.length = 32) : ∀ n, desSteps K (swp (desSteps K p n)) n = swp p
  | 0 => rfl
  | n + 1 => by
    rw [← desSteps_swap]
    show desSteps K (desStep K (swp (desStep K (desSteps K p n)))) n = swp p
    rw [desStep_back K _ (desSteps_good K p h1 h2 n).1, desSteps_back K p h1 h2 n]
theorem desRounds_rep (v : Bool) (l r : List Bool) : ∀ n, desRounds ⟨List.replicate 28 v, List.replicate 28 v, l, r⟩ n = ⟨List.replicate 28 v, List.replicate 28 v, (desSteps (List.replicate 48 v) (l, r) n).1, (desSteps (List.replicate 48 v) (l, r) n).2⟩
  | 0 => rfl
  | n + 1 => by
    show desRound (n + 1) (desRounds _ n) = _
    rw [desRounds_rep v l r n]
    unfold desRound
    simp only []
    rw [desTurn_rep 28 v _ (desBy_le _)]
    have hk : desRoundKey (List.replicate 28 v) (List.replicate 28 v) = List.replicate 48 v := by
      unfold desRoundKey
      rw [List.replicate_append_replicate]
      exact pick_rep 56 v desPc2 pc2_in
    rw [hk]
    rfl
theorem desBits_twice (v : Bool) (a : List Bool) (ha : a.length = 64) : desBits (List.replicate 56 v) (desBits (List.replicate 56 v) a) = a := by
  have hC : ∀ d, pick (List.replicate 56 v) (desHalf d) = List.replicate 28 v := fun d => by
    rw [pick_rep 56 v _ (half_in d)]
    cases d <;> rfl
  have hS : ∀ b : List Bool, desStart (List.replicate 56 v) b = ⟨List.replicate 28 v, List.replicate 28 v, (pick b desIp).take 32, (pick b desIp).drop 32⟩ := fun b => by
    unfold desStart
    rw [hC, hC]
  have hB : ∀ b : List Bool, desBits (List.replicate 56 v) b = desPut ((desSteps (List.replicate 48 v) ((pick b desIp).take 32, (pick b desIp).drop 32) 16).2 ++ (desSteps (List.replicate 48 v) ((pick b desIp).take 32, (pick b desIp).drop 32) 16).1) 64 := fun b => by
    unfold desBits
    simp only []
    rw [hS, desRounds_rep]
  obtain ⟨p, hp⟩ : ∃ p, p = ((pick a desIp).take 32, (pick a desIp).drop 32) := ⟨_, rfl⟩
  have hpl : (pick a desIp).length = 64 := by rw [pick_length, ip_length]
  have h1 : p.1.length = 32 := by rw [hp]; simp [hpl]
  have h2 : p.2.length = 32 := by rw [hp]; simp [hpl]
  have hg := desSteps_good (List.replicate 48 v) p h1 h2 16
  rw [hB (desBits _ a), hB a, ← hp, pick_put _ (by rw [List.length_append, hg.1, hg.2])]
  rw [List.take_left' hg.2, List.drop_left' hg.2]
  have hb := desSteps_back (List.replicate 48 v) p h1 h2 16
  have e : ((desSteps (List.replicate 48 v) p 16).2, (desSteps (List.replicate 48 v) p 16).1) = swp (desSteps (List.replicate 48 v) p 16) := rfl
  rw [e, hb]
  show desPut (p.1 ++ p.2) 64 = a
  rw [hp, List.take_append_drop, put_pick a ha]

/-! Over bytes. -/
theorem bits_inj (a b : List UInt8) (h : bitsOfBytes true a = bitsOfBytes true b) : a = b := by
  have hl : a.length = b.length := by
    have := congrArg List.length h
    rw [bitsOfBytes_length, bitsOfBytes_length] at this
    omega
  refine bytes_ext (high := true) hl fun i _ => ?_
  rw [← bitsOfBytes_getD, ← bitsOfBytes_getD, h]
theorem bits_not (a : List UInt8) : bitsOfBytes true (a.map (~~~·)) = notL (bitsOfBytes true a) := by
  unfold bitsOfBytes notL
  rw [List.map_map, List.length_map]
  apply List.map_congr_left
  intro i hi
  rw [List.mem_range] at hi
  show bit true (a.map (~~~·)) i = !bit true a i
  unfold bit
  have hq : i / 8 < a.length := by omega
  rw [List.getD_eq_getElem?_getD, List.getD_eq_getElem?_getD, List.getElem?_map, List.getElem?_eq_getElem hq]
  show (~~~a[i / 8]).toNat.testBit _ = !(a[i / 8]).toNat.testBit _
  have hp := place_lt true 8 (i % 8) (by omega)
  generalize place true 8 (i % 8) = j at *
  generalize a[i / 8] = x at *
  rw [UInt8.toNat_not]
  have hx := x.toNat_lt
  have e : UInt8.size - 1 - x.toNat = 2 ^ 8 - (x.toNat + 1) := by show 255 - x.toNat = _; omega
  rw [e, Nat.testBit_two_pow_sub_succ hx]
  simp [hp]
theorem desBits_length (key block : List Bool) : (desBits key block).length = 64 := desPut_length _ _
theorem des_bits (key block : List UInt8) : bitsOfBytes true (des key block) = desBits (bitsOfBytes true key) (bitsOfBytes true block) := ofBits_back _ (by rw [desBits_length])
theorem des_length (key block : List UInt8) : (des key block).length = 8 := by unfold des; rw [ofBits_length, desBits_length]
theorem des_not (key block : List UInt8) (hk : key.length = 7) (hb : block.length = 8) : des (key.map (~~~·)) (block.map (~~~·)) = (des key block).map (~~~·) := by
  apply bits_inj
  rw [des_bits, bits_not, bits_not, bits_not, des_bits]
  exact desBits_not _ _ (by rw [bitsOfBytes_length, hk]) (by rw [bitsOfBytes_length, hb])
theorem des_inj (key a b : List UInt8) (ha : a.length = 8) (hb : b.length = 8) (h : des key a = des key b) : a = b := by
  apply bits_inj
  refine desBits_inj (bitsOfBytes true key) _ _ (by rw [bitsOfBytes_length, ha]) (by rw [bitsOfBytes_length, hb]) ?_
  rw [← des_bits, ← des_bits, h]
theorem des_twice (k : UInt8) (hk : k = 0 ∨ k = 255) (a : List UInt8) (ha : a.length = 8) : des (List.replicate 7 k) (des (List.replicate 7 k) a) = a := by
  apply bits_inj
  rw [des_bits, des_bits]
  obtain ⟨v, hv⟩ : ∃ v, bitsOfBytes true (List.replicate 7 k) = List.replicate 56 v := by
    rcases hk with rfl | rfl
    · exact ⟨false, by decide⟩
    · exact ⟨true, by decide⟩
  rw [hv]
  exact desBits_twice v _ (by rw [bitsOfBytes_length, ha])
end Pure
end Go.Proofs.YtkllaghfiofnjaaDoor
/- What chapter 9 says of answers: three blocks by three keys. Nothing of the program. -/
namespace Go.Proofs.YtkllaghfiofnjaaDoor
namespace Pure
/-- The i-th key of a hash. -/
def keyPart (h : List UInt8) (i : Nat) : List UInt8 := ((h ++ List.replicate 5 0).drop (7 * i)).take 7
def answer (c h : List UInt8) : List UInt8 := des (keyPart h 0) c ++ des (keyPart h 1) c ++ des (keyPart h 2) c
theorem keyPart_length (h : List UInt8) (hh : h.length = 16) (i : Nat) (hi : i < 3) : (keyPart h i).length = 7 := by
  unfold keyPart
  rw [List.length_take, List.length_drop, List.length_append, hh, List.length_replicate]
  omega
theorem answer_length (c h : List UInt8) : (answer c h).length = 24 := by
  unfold answer
  simp only [List.length_append, des_length]
/-- A block of an answer. -/
theorem answer_part (c h : List UInt8) (i : Nat) (hi : i < 3) : ((answer c h).drop (8 * i)).take 8 = des (keyPart h i) c := by
  have l := fun i => des_length (keyPart h i) c
  unfold answer
  rcases (show i = 0 ∨ i = 1 ∨ i = 2 by omega) with rfl | rfl | rfl
  · rw [List.drop_zero, List.append_assoc, List.take_append_of_le_length (by rw [l]; omega), List.take_of_length_le (by rw [l]; omega)]
  · rw [List.append_assoc, List.drop_append_of_le_length (by rw [l]; omega), List.drop_eq_nil_of_le (by rw [l]; omega), List.nil_append, List.take_append_of_le_length (by rw [l]; omega), List.take_of_length_le (by rw [l]; omega)]
  · rw [List.drop_append_of_le_length (by rw [List.length_append, l, l]; omega), List.drop_eq_nil_of_le (by rw [List.length_append, l, l]; omega), List.nil_append, List.take_of_length_le (by rw [l]; omega)]
/-- A byte of the hash that is turned turns its own key alone. -/
theorem keyPart_set (h : List UInt8) (hh : h.length = 16) (a : Nat) (ha : a < 16) (v : UInt8) (i : Nat) (hi : i ≠ a / 7) : keyPart (h.set a v) i = keyPart h i := by
  apply list_ext 0
  · unfold keyPart; simp
  · intro t ht
    unfold keyPart at ht ⊢
    rw [List.length_take, List.length_drop, List.length_append, List.length_set, hh, List.length_replicate] at ht
    simp only [List.getD_eq_getElem?_getD, List.getElem?_take, List.getElem?_drop]
    rw [if_pos (by omega), if_pos (by omega)]
    by_cases hx : 7 * i + t < 16
    · rw [List.getElem?_append_left (by rw [List.length_set]; omega), List.getElem?_append_left (by omega), List.getElem?_set_ne (by omega)]
    · rw [List.getElem?_append_right (by rw [List.length_set]; omega), List.getElem?_append_right (by omega), List.length_set]
theorem answer_set (c h : List UInt8) (hh : h.length = 16) (a : Nat) (ha : a < 16) (v : UInt8) (i : Nat) (hi3 : i < 3) (hi : i ≠ a / 7) : ((answer c (h.set a v)).drop (8 * i)).take 8 = ((answer c h).drop (8 * i)).take 8 := by
  rw [answer_part _ _ i hi3, answer_part _ _ i hi3, keyPart_set h hh a ha v i hi]
end Pure
end Go.Proofs.YtkllaghfiofnjaaDoor
/- Bytes and words as numbers: one bit of a word, a byte with one bit turned. -/
namespace Go.Proofs.YtkllaghfiofnjaaDoor
open Go.RowKit

theorem and1_u32 (B s : Nat) (hB : B < 4294967296) : bits .and .u32 ((B : Int) / 2 ^ s) 1 = if B.testBit s then 1 else 0 := by
  have e1 : ((B : Int) / 2 ^ s) = ((B >>> s : Nat) : Int) := by rw [Nat.shiftRight_eq_div_pow]; simp
  have hle : B >>> s < 4294967296 := Nat.lt_of_le_of_lt (by rw [Nat.shiftRight_eq_div_pow]; exact Nat.div_le_self _ _) hB
  have h := u32_and_nat (B >>> s) 1 hle (by omega)
  rw [nat_mask1] at h
  rw [e1]
  refine h.trans ?_
  have ht := Nat.toNat_testBit B s
  rw [← Nat.shiftRight_eq_div_pow] at ht
  rw [← ht]
  cases B.testBit s <;> rfl

theorem xor_u8 (c k : UInt8) : bits .xor .u8 (c.toNat : Int) (k.toNat : Int) = (((c ^^^ k).toNat : Nat) : Int) := by
  rw [u8_xor_nat c.toNat k.toNat c.toNat_lt k.toNat_lt, UInt8.toNat_xor]
theorem xor_u8_32 (c : UInt8) : bits .xor .u8 (c.toNat : Int) 32 = (((c ^^^ 32).toNat : Nat) : Int) := xor_u8 c 32
theorem and1_i64 (X : Nat) (s : Nat) (hX : X < 4294967296) : bits .and .i64 ((X : Int) / 2 ^ s) 1 = if X.testBit s then 1 else 0 := by
  have e1 : ((X : Int) / 2 ^ s) = ((X >>> s : Nat) : Int) := by rw [Nat.shiftRight_eq_div_pow]; simp
  have hle : X >>> s ≤ X := by rw [Nat.shiftRight_eq_div_pow]; exact Nat.div_le_self _ _
  have h := i64_and_nat (X >>> s) 1 (by omega) (by omega)
  rw [show X >>> s &&& 1 = X >>> s % 2 by simp [Nat.and_one_is_mod]] at h
  rw [e1]
  refine h.trans ?_
  have ht := Nat.toNat_testBit X s
  rw [← Nat.shiftRight_eq_div_pow] at ht
  rw [← ht]
  cases X.testBit s <;> rfl
end Go.Proofs.YtkllaghfiofnjaaDoor
