/- What chapter 9 says of secrets: letters in UTF-8, units of 16 bits. Nothing of the program. -/
import Derived.WalkKit
namespace Go.Proofs.YtkllaghfiofnjaaDoor
namespace Pure
/-- A byte behind a letter's first one. -/
def follows (s : List UInt8) (k : Nat) : Bool := decide (k < s.length) && (s.getD k 0).toNat / 64 == 2
/-- The six bits of it. -/
def six (s : List UInt8) (k : Nat) : Nat := (s.getD k 0).toNat % 64
/-- The first letter's number, and how many bytes it has; none: there is none. -/
def letter (s : List UInt8) : Nat × Nat :=
  let b := (s.getD 0 0).toNat
  if b < 128 then (b, 1)
  else if 194 ≤ b ∧ b ≤ 223 then
    if follows s 1 then (b % 32 * 64 + six s 1, 2) else (0, 0)
  else if 224 ≤ b ∧ b ≤ 239 then
    if follows s 1 && follows s 2 then
      if 2048 ≤ b % 16 * 4096 + six s 1 * 64 + six s 2 ∧ ¬ (55296 ≤ b % 16 * 4096 + six s 1 * 64 + six s 2 ∧ b % 16 * 4096 + six s 1 * 64 + six s 2 ≤ 57343) then (b % 16 * 4096 + six s 1 * 64 + six s 2, 3) else (0, 0)
    else (0, 0)
  else if 240 ≤ b ∧ b ≤ 244 then
    if follows s 1 && follows s 2 && follows s 3 then
      if 65536 ≤ b % 8 * 262144 + six s 1 * 4096 + six s 2 * 64 + six s 3 ∧ b % 8 * 262144 + six s 1 * 4096 + six s 2 * 64 + six s 3 ≤ 1114111 then (b % 8 * 262144 + six s 1 * 4096 + six s 2 * 64 + six s 3, 4) else (0, 0)
    else (0, 0)
  else (0, 0)
/-- How many bytes a first byte asks for, and its own bits. -/
def head (b : Nat) : Nat × Nat := if 194 ≤ b ∧ b ≤ 223 then (2, b % 32) else if 224 ≤ b ∧ b ≤ 239 then (3, b % 16) else if 240 ≤ b ∧ b ≤ 244 then (4, b % 8) else (0, 0)
/-- The number behind so many bytes. -/
def sum6 (s : List UInt8) (x : Nat) : Nat → Nat
  | 0 => x
  | k + 1 => sum6 s x k * 64 + six s (k + 1)
def least (n : Nat) : Nat := if n = 2 then 128 else if n = 3 then 2048 else 65536
theorem six_lt (s : List UInt8) (k : Nat) : six s k < 64 := Nat.mod_lt _ (by omega)
theorem follows_lt {s : List UInt8} {k : Nat} (h : follows s k = true) : k < s.length := by
  unfold follows at h
  simp at h
  exact h.1
theorem letter_size (s : List UInt8) (hs : s ≠ []) : (letter s).2 ≤ s.length ∧ (letter s).2 ≤ 4 := by
  have h0 : 0 < s.length := List.length_pos_iff.2 hs
  unfold letter
  simp only
  split
  · exact ⟨by simp; omega, by simp⟩
  split
  · split
    · rename_i h; have := follows_lt h; exact ⟨by simp; omega, by simp⟩
    · simp
  split
  · split
    · rename_i h; simp at h; have := follows_lt h.2; split
      · exact ⟨by simp; omega, by simp⟩
      · simp
    · simp
  split
  · split
    · rename_i h; simp at h; have := follows_lt h.2; split
      · exact ⟨by simp; omega, by simp⟩
      · simp
    · simp
  · simp
theorem letter_num (s : List UInt8) : (letter s).1 ≤ 1114111 := by
  have h1 := six_lt s 1
  have h2 := six_lt s 2
  have h3 := six_lt s 3
  unfold letter
  simp only
  split
  · dsimp only; omega
  split
  · split
    · dsimp only; omega
    · simp
  split
  · split
    · split
      · dsimp only; omega
      · simp
    · simp
  split
  · split
    · split
      · rename_i h; dsimp only; omega
      · simp
    · simp
  · simp
theorem head_cases (b : Nat) : (head b = (0, 0) ∧ (b < 194 ∨ 244 < b)) ∨ (head b = (2, b % 32) ∧ 194 ≤ b ∧ b ≤ 223) ∨ (head b = (3, b % 16) ∧ 224 ≤ b ∧ b ≤ 239) ∨ (head b = (4, b % 8) ∧ 240 ≤ b ∧ b ≤ 244) := by
  unfold head
  by_cases h1 : 194 ≤ b ∧ b ≤ 223
  · rw [if_pos h1]; exact Or.inr (Or.inl ⟨rfl, h1⟩)
  by_cases h2 : 224 ≤ b ∧ b ≤ 239
  · rw [if_neg h1, if_pos h2]; exact Or.inr (Or.inr (Or.inl ⟨rfl, h2⟩))
  by_cases h3 : 240 ≤ b ∧ b ≤ 244
  · rw [if_neg h1, if_neg h2, if_pos h3]; exact Or.inr (Or.inr (Or.inr ⟨rfl, h3⟩))
  · rw [if_neg h1, if_neg h2, if_neg h3]; exact Or.inl ⟨rfl, by omega⟩
theorem letter_none (s : List UInt8) (h : 128 ≤ (s.getD 0 0).toNat) (hh : (head (s.getD 0 0).toNat).1 = 0) : letter s = (0, 0) := by
  rcases head_cases (s.getD 0 0).toNat with ⟨e, h1⟩ | ⟨e, h1⟩ | ⟨e, h1⟩ | ⟨e, h1⟩
  · unfold letter
    simp only
    rw [if_neg (by omega), if_neg (by omega), if_neg (by omega), if_neg (by omega)]
  all_goals rw [e] at hh; simp at hh
theorem letter_bad (s : List UInt8) (h : 128 ≤ (s.getD 0 0).toNat) (j : Nat) (hj : 1 ≤ j) (hj2 : j < (head (s.getD 0 0).toNat).1) (hf : follows s j = false) : letter s = (0, 0) := by
  rcases head_cases (s.getD 0 0).toNat with ⟨e, h1⟩ | ⟨e, h1⟩ | ⟨e, h1⟩ | ⟨e, h1⟩
  · rw [e] at hj2; simp at hj2
  · rw [e] at hj2; simp at hj2
    obtain rfl : j = 1 := by omega
    unfold letter
    simp only
    rw [if_neg (by omega), if_pos h1, hf]; simp
  · rw [e] at hj2; simp at hj2
    unfold letter
    simp only
    rw [if_neg (by omega), if_neg (by omega), if_pos h1]
    rcases (show j = 1 ∨ j = 2 by omega) with rfl | rfl <;> simp [hf]
  · rw [e] at hj2; simp at hj2
    unfold letter
    simp only
    rw [if_neg (by omega), if_neg (by omega), if_neg (by omega), if_pos h1]
    rcases (show j = 1 ∨ j = 2 ∨ j = 3 by omega) with rfl | rfl | rfl <;> simp [hf]
theorem letter_good (s : List UInt8) (h : 128 ≤ (s.getD 0 0).toNat) (n x X : Nat) (hh : head (s.getD 0 0).toNat = (n, x)) (hn : n ≠ 0) (hf : ∀ j, 1 ≤ j → j < n → follows s j = true) (hX : X = sum6 s x (n - 1)) :
    letter s = if least n ≤ X ∧ X ≤ 1114111 ∧ ¬ (55296 ≤ X ∧ X ≤ 57343) then (X, n) else (0, 0) := by
  subst hX
  have s1 := six_lt s 1
  have s2 := six_lt s 2
  have s3 := six_lt s 3
  rcases head_cases (s.getD 0 0).toNat with ⟨e, h1⟩ | ⟨e, h1⟩ | ⟨e, h1⟩ | ⟨e, h1⟩
  · rw [e] at hh; simp at hh; omega
  · rw [e] at hh
    obtain ⟨rfl, rfl⟩ : 2 = n ∧ (s.getD 0 0).toNat % 32 = x := by simpa using hh
    have f1 := hf 1 (by omega) (by omega)
    have e1 : sum6 s ((s.getD 0 0).toNat % 32) (2 - 1) = (s.getD 0 0).toNat % 32 * 64 + six s 1 := rfl
    unfold letter
    simp only
    rw [if_neg (by omega), if_pos h1, if_pos f1, e1, if_pos (by unfold least; simp only [if_true]; omega)]
  · rw [e] at hh
    obtain ⟨rfl, rfl⟩ : 3 = n ∧ (s.getD 0 0).toNat % 16 = x := by simpa using hh
    have f1 := hf 1 (by omega) (by omega)
    have f2 := hf 2 (by omega) (by omega)
    have e1 : sum6 s ((s.getD 0 0).toNat % 16) (3 - 1) = (s.getD 0 0).toNat % 16 * 4096 + six s 1 * 64 + six s 2 := by
      show ((s.getD 0 0).toNat % 16 * 64 + six s 1) * 64 + six s 2 = _
      omega
    have e2 : least 3 = 2048 := rfl
    unfold letter
    simp only
    rw [if_neg (by omega), if_neg (by omega), if_pos h1, f1, f2, e1, e2]
    simp only [Bool.and_self, if_true]
    congr 1
    exact propext ⟨fun ⟨a, b⟩ => ⟨a, by omega, b⟩, fun ⟨a, _, b⟩ => ⟨a, b⟩⟩
  · rw [e] at hh
    obtain ⟨rfl, rfl⟩ : 4 = n ∧ (s.getD 0 0).toNat % 8 = x := by simpa using hh
    have f1 := hf 1 (by omega) (by omega)
    have f2 := hf 2 (by omega) (by omega)
    have f3 := hf 3 (by omega) (by omega)
    have e1 : sum6 s ((s.getD 0 0).toNat % 8) (4 - 1) = (s.getD 0 0).toNat % 8 * 262144 + six s 1 * 4096 + six s 2 * 64 + six s 3 := by
      show (((s.getD 0 0).toNat % 8 * 64 + six s 1) * 64 + six s 2) * 64 + six s 3 = _
      omega
    have e2 : least 4 = 65536 := rfl
    unfold letter
    simp only
    rw [if_neg (by omega), if_neg (by omega), if_neg (by omega), if_pos h1, f1, f2, f3, e1, e2]
    simp only [Bool.and_self, if_true]
    congr 1
    exact propext ⟨fun ⟨a, b⟩ => ⟨a, b, by omega⟩, fun ⟨a, b, _⟩ => ⟨a, b⟩⟩
theorem sum6_lt (s : List UInt8) (x k : Nat) (hx : x < 32) (hk : k ≤ 3) : sum6 s x k < 8388608 := by
  have s1 := six_lt s 1
  have s2 := six_lt s 2
  have s3 := six_lt s 3
  rcases (show k = 0 ∨ k = 1 ∨ k = 2 ∨ k = 3 by omega) with rfl | rfl | rfl | rfl <;> simp only [sum6, Nat.zero_add, Nat.reduceAdd] <;> omega
/-- A unit, its lowest byte first. -/
def unit (n : Nat) : List UInt8 := [UInt8.ofNat (n % 256), UInt8.ofNat (n / 256 % 256)]
/-- The units of a letter's number. -/
def unitsOf (n : Nat) : List UInt8 := if 65535 < n then unit (55296 + (n - 65536) / 1024) ++ unit (56320 + (n - 65536) % 1024) else unit n
theorem unitsOf_length (n : Nat) : (unitsOf n).length ≤ 4 := by unfold unitsOf; split <;> simp [unit]
def unitsGo : Nat → List UInt8 → List UInt8 → Option (List UInt8)
  | 0, _, acc => some acc
  | f + 1, s, acc => if s = [] then some acc else if (letter s).2 = 0 then none else unitsGo f (s.drop (letter s).2) (acc ++ unitsOf (letter s).1)
theorem unitsGo_fuel : ∀ (f g : Nat) (s acc : List UInt8), s.length ≤ f → s.length ≤ g → unitsGo f s acc = unitsGo g s acc
  | 0, 0, _, _, _, _ => rfl
  | 0, g + 1, s, acc, hf, _ => by
    have : s = [] := List.eq_nil_of_length_eq_zero (by omega)
    subst this; simp [unitsGo]
  | f + 1, 0, s, acc, _, hg => by
    have : s = [] := List.eq_nil_of_length_eq_zero (by omega)
    subst this; simp [unitsGo]
  | f + 1, g + 1, s, acc, hf, hg => by
    unfold unitsGo
    split
    · rfl
    · split
      · rfl
      · exact unitsGo_fuel f g _ _ (by rw [List.length_drop]; omega) (by rw [List.length_drop]; omega)
/-- What is left to be read, behind what was told. -/
def unitsFrom (s acc : List UInt8) : Option (List UInt8) := unitsGo s.length s acc
theorem unitsFrom_nil (acc : List UInt8) : unitsFrom [] acc = some acc := rfl
theorem unitsFrom_bad {s : List UInt8} (acc : List UInt8) (hs : s ≠ []) (h : (letter s).2 = 0) : unitsFrom s acc = none := by
  unfold unitsFrom
  have h0 : 0 < s.length := List.length_pos_iff.2 hs
  obtain ⟨n, hn⟩ : ∃ n, s.length = n + 1 := ⟨s.length - 1, by omega⟩
  rw [hn]
  simp [unitsGo, hs, h]
theorem unitsFrom_step {s : List UInt8} (acc : List UInt8) (hs : s ≠ []) (h : (letter s).2 ≠ 0) : unitsFrom s acc = unitsFrom (s.drop (letter s).2) (acc ++ unitsOf (letter s).1) := by
  unfold unitsFrom
  have h0 : 0 < s.length := List.length_pos_iff.2 hs
  obtain ⟨n, hn⟩ : ∃ n, s.length = n + 1 := ⟨s.length - 1, by omega⟩
  rw [hn]
  conv => lhs; unfold unitsGo
  rw [if_neg hs, if_neg h]
  exact unitsGo_fuel _ _ _ _ (by rw [List.length_drop]; omega) (Nat.le_refl _)
/-- A secret's units. -/
def units (s : List UInt8) : Option (List UInt8) := unitsFrom s []
/-- What is wrong with a secret, or nothing, and its units. -/
def secret (s : List UInt8) : Nat × List UInt8 := match units s with
  | none => (4, [])
  | some u => if 512 < u.length then (3, []) else (0, u)
theorem secret_none {s : List UInt8} (h : units s = none) : secret s = (4, []) := by unfold secret; rw [h]
theorem secret_long {s u : List UInt8} (h : units s = some u) (hl : 512 < u.length) : secret s = (3, []) := by unfold secret; rw [h]; simp [hl]
theorem secret_some {s u : List UInt8} (h : units s = some u) (hl : ¬ 512 < u.length) : secret s = (0, u) := by unfold secret; rw [h]; simp [hl]
/-- Of letters below 128. -/
theorem letter_plain (s : List UInt8) (h : (s.getD 0 0).toNat < 128) : letter s = ((s.getD 0 0).toNat, 1) := by
  unfold letter
  simp only
  rw [if_pos h]
theorem unitsOf_plain (c : UInt8) (h : c.toNat < 128) : unitsOf c.toNat = [c, 0] := by
  unfold unitsOf unit
  rw [if_neg (by omega), Nat.mod_eq_of_lt (by omega), show c.toNat / 256 % 256 = 0 by omega]
  simp
theorem units_plain (s : List UInt8) : ∀ (acc : List UInt8), (∀ c ∈ s, c.toNat < 128) → unitsFrom s acc = some (acc ++ s.flatMap fun c => [c, 0]) := by
  induction s with
  | nil => intro acc _; simp [unitsFrom_nil]
  | cons c s ih =>
    intro acc h
    have hc : c.toNat < 128 := h c (by simp)
    have hl : letter (c :: s) = (c.toNat, 1) := letter_plain _ hc
    rw [unitsFrom_step acc (by simp) (by rw [hl]; simp), hl]
    simp only [List.drop_succ_cons, List.drop_zero]
    rw [ih _ (fun x hx => h x (by simp [hx])), unitsOf_plain c hc]
    simp
end Pure
end Go.Proofs.YtkllaghfiofnjaaDoor
