/- What chapter 9 says of secrets: letters in UTF-8, units of 16 bits. Nothing of the program. -/
import Derived.WalkKit
import Derived.Test.YtkllaghfiofnjaaDoorQ1
import Derived.Lib.ValidLaws
import Derived.Test.YtkllaghfiofnjaaDoorRows
import Derived.Ground.NamesProg
import Derived.Shelf.Unicode.ValidAny
import Derived.Lib.SlBytesConst
import Derived.Lib.OthersKept
namespace Go.Proofs.YtkllaghfiofnjaaDoor
namespace Pure
/-- A byte behind a letter's first one. -/
def follows (s : List UInt8) (k : Nat) : Bool := decide (k < s.length) && (s.getD k 0).toNat / 64 == 2
/-- The six bits of it. -/
def six (s : List UInt8) (k : Nat) : Nat := (s.getD k 0).toNat % 64
/-- The first letter's number, and how many bytes it has; none: there is none. -/
def letter (s : List UInt8) : Nat × Nat :=
  let b := (s.getD 0 0).toNat
  if b < 128 then (b, 1)
  else if 194 ≤ b ∧ b ≤ 223 then
    if follows s 1 then (b % 32 * 64 + six s 1, 2) else (0, 0)
  else if 224 ≤ b ∧ b ≤ 239 then
    if follows s 1 && follows s 2 then
      if 2048 ≤ b % 16 * 4096 + six s 1 * 64 + six s 2 ∧ ¬ (55296 ≤ b % 16 * 4096 + six s 1 * 64 + six s 2 ∧ b % 16 * 4096 + six s 1 * 64 + six s 2 ≤ 57343) then (b % 16 * 4096 + six s 1 * 64 + six s 2, 3) else (0, 0)
    else (0, 0)
  else if 240 ≤ b ∧ b ≤ 244 then
    if follows s 1 && follows s 2 && follows s 3 then
      if 65536 ≤ b % 8 * 262144 + six s 1 * 4096 + six s 2 * 64 + six s 3 ∧ b % 8 * 262144 + six s 1 * 4096 + six s 2 * 64 + six s 3 ≤ 1114111 then (b % 8 * 262144 + six s 1 * 4096 + six s 2 * 64 + six s 3, 4) else (0, 0)
    else (0, 0)
  else (0, 0)
/-- How many bytes a first byte asks for, and its own bits. -/
def head (b : Nat) : Nat × Nat := if 194 ≤ b ∧ b ≤ 223 then (2, b % 32) else if 224 ≤ b ∧ b ≤ 239 then (3, b % 16) else if 240 ≤ b ∧ b ≤ 244 then (4, b % 8) else (0, 0)
/-- The number behind so many bytes. -/
def sum6 (s : List UInt8) (x : Nat) : Nat → Nat
  | 0 => x
  | k + 1 => sum6 s x k * 64 + six s (k + 1)
def least (n : Nat) : Nat := if n = 2 then 128 else if n = 3 then 2048 else 65536
theorem six_lt (s : List UInt8) (k : Nat) : six s k < 64 := Nat.mod_lt _ (by omega)
theorem follows_lt {s : List UInt8} {k : Nat} (h : follows s k = true) : k < s.length := by
  unfold follows at h
  simp at h
  exact h.1
theorem letter_size (s : List UInt8) (hs : s ≠ []) : (letter s).2 ≤ s.length ∧ (letter s).2 ≤ 4 := by
  have h0 : 0 < s.length := List.length_pos_iff.2 hs
  unfold letter
  simp only
  split
  · exact ⟨by simp; omega, by simp⟩
  split
  · split
    · rename_i h; have := follows_lt h; exact ⟨by simp; omega, by simp⟩
    · simp
  split
  · split
    · rename_i h; simp at h; have := follows_lt h.2; split
      · exact ⟨by simp; omega, by simp⟩
      · simp
    · simp
  split
  · split
    · rename_i h; simp at h; have := follows_lt h.2; split
      · exact ⟨by simp; omega, by simp⟩
      · simp
    · simp
  · simp
theorem letter_num (s : List UInt8) : (letter s).1 ≤ 1114111 := by
  have h1 := six_lt s 1
  have h2 := six_lt s 2
  have h3 := six_lt s 3
  unfold letter
  simp only
  split
  · dsimp only; omega
  split
  · split
    · dsimp only; omega
    · simp
  split
  · split
    · split
      · dsimp only; omega
      · simp
    · simp
  split
  · split
    · split
      · rename_i h; dsimp only; omega
      · simp
    · simp
  · simp
theorem head_cases (b : Nat) : (head b = (0, 0) ∧ (b < 194 ∨ 244 < b)) ∨ (head b = (2, b % 32) ∧ 194 ≤ b ∧ b ≤ 223) ∨ (head b = (3, b % 16) ∧ 224 ≤ b ∧ b ≤ 239) ∨ (head b = (4, b % 8) ∧ 240 ≤ b ∧ b ≤ 244) := by
  unfold head
  by_cases h1 : 194 ≤ b ∧ b ≤ 223
  · rw [if_pos h1]; exact Or.inr (Or.inl ⟨rfl, h1⟩)
  by_cases h2 : 224 ≤ b ∧ b ≤ 239
  · rw [if_neg h1, if_pos h2]; exact Or.inr (Or.inr (Or.inl ⟨rfl, h2⟩))
  by_cases h3 : 240 ≤ b ∧ b ≤ 244
  · rw [if_neg h1, if_neg h2, if_pos h3]; exact Or.inr (Or.inr (Or.inr ⟨rfl, h3⟩))
  · rw [if_neg h1, if_neg h2, if_neg h3]; exact Or.inl ⟨rfl, by omega⟩
theorem letter_none (s : List UInt8) (h : 128 ≤ (s.getD 0 0).toNat) (hh : (head (s.getD 0 0).toNat).1 = 0) : letter s = (0, 0) := by
  rcases head_cases (s.getD 0 0).toNat with ⟨e, h1⟩ | ⟨e, h1⟩ | ⟨e, h1⟩ | ⟨e, h1⟩
  · unfold letter
    simp only
    rw [if_neg (by omega), if_neg (by omega), if_neg (by omega), if_neg (by omega)]
  all_goals rw [e] at hh; simp at hh
theorem letter_bad (s : List UInt8) (h : 128 ≤ (s.getD 0 0).toNat) (j : Nat) (hj : 1 ≤ j) (hj2 : j < (head (s.getD 0 0).toNat).1) (hf : follows s j = false) : letter s = (0, 0) := by
  rcases head_cases (s.getD 0 0).toNat with ⟨e, h1⟩ | ⟨e, h1⟩ | ⟨e, h1⟩ | ⟨e, h1⟩
  · rw [e] at hj2; simp at hj2
  · rw [e] at hj2; simp at hj2
    obtain rfl : j = 1 := by omega
    unfold letter
    simp only
    rw [if_neg (by omega), if_pos h1, hf]; simp
  · rw [e] at hj2; simp at hj2
    unfold letter
    simp only
    rw [if_neg (by omega), if_neg (by omega), if_pos h1]
    rcases (show j = 1 ∨ j = 2 by omega) with rfl | rfl <;> simp [hf]
  · rw [e] at hj2; simp at hj2
    unfold letter
    simp only
    rw [if_neg (by omega), if_neg (by omega), if_neg (by omega), if_pos h1]
    rcases (show j = 1 ∨ j = 2 ∨ j = 3 by omega) with rfl | rfl | rfl <;> simp [hf]
theorem letter_good (s : List UInt8) (h : 128 ≤ (s.getD 0 0).toNat) (n x X : Nat) (hh : head (s.getD 0 0).toNat = (n, x)) (hn : n ≠ 0) (hf : ∀ j, 1 ≤ j → j < n → follows s j = true) (hX : X = sum6 s x (n - 1)) :
    letter s = if least n ≤ X ∧ X ≤ 1114111 ∧ ¬ (55296 ≤ X ∧ X ≤ 57343) then (X, n) else (0, 0) := by
  subst hX
  have s1 := six_lt s 1
  have s2 := six_lt s 2
  have s3 := six_lt s 3
  rcases head_cases (s.getD 0 0).toNat with ⟨e, h1⟩ | ⟨e, h1⟩ | ⟨e, h1⟩ | ⟨e, h1⟩
  · rw [e] at hh; simp at hh; omega
  · rw [e] at hh
    obtain ⟨rfl, rfl⟩ : 2 = n ∧ (s.getD 0 0).toNat % 32 = x := by simpa using hh
    have f1 := hf 1 (by omega) (by omega)
    have e1 : sum6 s ((s.getD 0 0).toNat % 32) (2 - 1) = (s.getD 0 0).toNat % 32 * 64 + six s 1 := rfl
    unfold letter
    simp only
    rw [if_neg (by omega), if_pos h1, if_pos f1, e1, if_pos (by unfold least; simp only [if_true]; omega)]
  · rw [e] at hh
    obtain ⟨rfl, rfl⟩ : 3 = n ∧ (s.getD 0 0).toNat % 16 = x := by simpa using hh
    have f1 := hf 1 (by omega) (by omega)
    have f2 := hf 2 (by omega) (by omega)
    have e1 : sum6 s ((s.getD 0 0).toNat % 16) (3 - 1) = (s.getD 0 0).toNat % 16 * 4096 + six s 1 * 64 + six s 2 := by
      show ((s.getD 0 0).toNat % 16 * 64 + six s 1) * 64 + six s 2 = _
      omega
    have e2 : least 3 = 2048 := rfl
    unfold letter
    simp only
    rw [if_neg (by omega), if_neg (by omega), if_pos h1, f1, f2, e1, e2]
    simp only [Bool.and_self, if_true]
    congr 1
    exact propext ⟨fun ⟨a, b⟩ => ⟨a, by omega, b⟩, fun ⟨a, _, b⟩ => ⟨a, b⟩⟩
  · rw [e] at hh
    obtain ⟨rfl, rfl⟩ : 4 = n ∧ (s.getD 0 0).toNat % 8 = x := by simpa using hh
    have f1 := hf 1 (by omega) (by omega)
    have f2 := hf 2 (by omega) (by omega)
    have f3 := hf 3 (by omega) (by omega)
    have e1 : sum6 s ((s.getD 0 0).toNat % 8) (4 - 1) = (s.getD 0 0).toNat % 8 * 262144 + six s 1 * 4096 + six s 2 * 64 + six s 3 := by
      show (((s.getD 0 0).toNat % 8 * 64 + six s 1) * 64 + six s 2) * 64 + six s 3 = _
      omega
    have e2 : least 4 = 65536 := rfl
    unfold letter
    simp only
    rw [if_neg (by omega), if_neg (by omega), if_neg (by omega), if_pos h1, f1, f2, f3, e1, e2]
    simp only [Bool.and_self, if_true]
    congr 1
    exact propext ⟨fun ⟨a, b⟩ => ⟨a, b, by omega⟩, fun ⟨a, b, _⟩ => ⟨a, b⟩⟩
theorem sum6_lt (s : List UInt8) (x k : Nat) (hx : x < 32) (hk : k ≤ 3) : sum6 s x k < 8388608 := by
  have s1 := six_lt s 1
  have s2 := six_lt s 2
  have s3 := six_lt s 3
  rcases (show k = 0 ∨ k = 1 ∨ k = 2 ∨ k = 3 by omega) with rfl | rfl | rfl | rfl <;> simp only [sum6, Nat.zero_add, Nat.reduceAdd] <;> omega
/-- A unit, its lowest byte first. -/
def unit (n : Nat) : List UInt8 := [UInt8.ofNat (n % 256), UInt8.ofNat (n / 256 % 256)]
/-- The units of a letter's number. -/
def unitsOf (n : Nat) : List UInt8 := if 65535 < n then unit (55296 + (n - 65536) / 1024) ++ unit (56320 + (n - 65536) % 1024) else unit n
theorem unitsOf_length (n : Nat) : (unitsOf n).length ≤ 4 := by unfold unitsOf; split <;> simp [unit]
def unitsGo : Nat → List UInt8 → List UInt8 → Option (List UInt8)
  | 0, _, acc => some acc
  | f + 1, s, acc => if s = [] then some acc else if (letter s).2 = 0 then none else unitsGo f (s.drop (letter s).2) (acc ++ unitsOf (letter s).1)
theorem unitsGo_fuel : ∀ (f g : Nat) (s acc : List UInt8), s.length ≤ f → s.length ≤ g → unitsGo f s acc = unitsGo g s acc
  | 0, 0, _, _, _, _ => rfl
  | 0, g + 1, s, acc, hf, _ => by
    have : s = [] := List.eq_nil_of_length_eq_zero (by omega)
    subst this; simp [unitsGo]
  | f + 1, 0, s, acc, _, hg => by
    have : s = [] := List.eq_nil_of_length_eq_zero (by omega)
    subst this; simp [unitsGo]
  | f + 1, g + 1, s, acc, hf, hg => by
    unfold unitsGo
    split
    · rfl
    · split
      · rfl
      · exact unitsGo_fuel f g _ _ (by rw [List.length_drop]; omega) (by rw [List.length_drop]; omega)
/-- What is left to be read, behind what was told. -/
def unitsFrom (s acc : List UInt8) : Option (List UInt8) := unitsGo s.length s acc
theorem unitsFrom_nil (acc : List UInt8) : unitsFrom [] acc = some acc := rfl
theorem unitsFrom_bad {s : List UInt8} (acc : List UInt8) (hs : s ≠ []) (h : (letter s).2 = 0) : unitsFrom s acc = none := by
  unfold unitsFrom
  have h0 : 0 < s.length := List.length_pos_iff.2 hs
  obtain ⟨n, hn⟩ : ∃ n, s.length = n + 1 := ⟨s.length - 1, by omega⟩
  rw [hn]
  simp [unitsGo, hs, h]
theorem unitsFrom_step {s : List UInt8} (acc : List UInt8) (hs : s ≠ []) (h : (letter s).2 ≠ 0) : unitsFrom s acc = unitsFrom (s.drop (letter s).2) (acc ++ unitsOf (letter s).1) := by
  unfold unitsFrom
  have h0 : 0 < s.length := List.length_pos_iff.2 hs
  obtain ⟨n, hn⟩ : ∃ n, s.length = n + 1 := ⟨s.length - 1, by omega⟩
  rw [hn]
  conv => lhs; unfold unitsGo
  rw [if_neg hs, if_neg h]
  exact unitsGo_fuel _ _ _ _ (by rw [List.length_drop]; omega) (Nat.le_refl _)
/-- A secret's units. -/
def units (s : List UInt8) : Option (List UInt8) := unitsFrom s []
/-- What is wrong with a secret, or nothing, and its units. -/
def secret (s : List UInt8) : Nat × List UInt8 := match units s with
  | none => (4, [])
  | some u => if 512 < u.length then (3, []) else (0, u)
theorem secret_none {s : List UInt8} (h : units s = none) : secret s = (4, []) := by unfold secret; rw [h]
theorem secret_long {s u : List UInt8} (h : units s = some u) (hl : 512 < u.length) : secret s = (3, []) := by unfold secret; rw [h]; simp [hl]
theorem secret_some {s u : List UInt8} (h : units s = some u) (hl : ¬ 512 < u.length) : secret s = (0, u) := by unfold secret; rw [h]; simp [hl]
/-- Of letters below 128. -/
theorem letter_plain (s : List UInt8) (h : (s.getD 0 0).toNat < 128) : letter s = ((s.getD 0 0).toNat, 1) := by
  unfold letter
  simp only
  rw [if_pos h]
theorem unitsOf_plain (c : UInt8) (h : c.toNat < 128) : unitsOf c.toNat = [c, 0] := by
  unfold unitsOf unit
  rw [if_neg (by omega), Nat.mod_eq_of_lt (by omega), show c.toNat / 256 % 256 = 0 by omega]
  simp
theorem units_plain (s : List UInt8) : ∀ (acc : List UInt8), (∀ c ∈ s, c.toNat < 128) → unitsFrom s acc = some (acc ++ s.flatMap fun c => [c, 0]) := by
  induction s with
  | nil => intro acc _; simp [unitsFrom_nil]
  | cons c s ih =>
    intro acc h
    have hc : c.toNat < 128 := h c (by simp)
    have hl : letter (c :: s) = (c.toNat, 1) := letter_plain _ hc
    rw [unitsFrom_step acc (by simp) (by rw [hl]; simp), hl]
    simp only [List.drop_succ_cons, List.drop_zero]
    rw [ih _ (fun x hx => h x (by simp [hx])), unitsOf_plain c hc]
    simp
end Pure
end Go.Proofs.YtkllaghfiofnjaaDoor
/- Rows of numbers of 16 bits: append; a letter's units as numbers. -/
namespace Go.Proofs.YtkllaghfiofnjaaDoor
open Go.RowKit
namespace Pure
/-- The units of a letter's number, as numbers. -/
def unit16 (n : Nat) : List Nat := if n ≤ 65535 then [n] else [55296 + (n - 65536) / 1024, 56320 + (n - 65536) % 1024]
/-- Units as bytes, the lowest first. -/
def low (us : List Nat) : List UInt8 := us.flatMap unit
theorem low_append (a b : List Nat) : low (a ++ b) = low a ++ low b := List.flatMap_append
theorem low_length (us : List Nat) : (low us).length = 2 * us.length := by
  induction us with
  | nil => rfl
  | cons a us ih =>
    have : low (a :: us) = unit a ++ low us := rfl
    rw [this, List.length_append, ih, show (unit a).length = 2 from rfl, List.length_cons]
    omega
theorem low_unit16 (n : Nat) : low (unit16 n) = unitsOf n := by
  unfold unit16 unitsOf low
  by_cases h : n ≤ 65535
  · rw [if_pos h, if_neg (by omega)]; simp
  · rw [if_neg h, if_pos (by omega)]; simp
theorem unit16_length (n : Nat) : 1 ≤ (unit16 n).length ∧ (unit16 n).length ≤ 2 := by unfold unit16; split <;> simp
theorem unit16_lt (n : Nat) (h : n ≤ 1114111) : ∀ u ∈ unit16 n, u < 65536 := by
  unfold unit16
  split
  · intro u hu; simp at hu; omega
  · intro u hu; simp at hu; omega
/-- What was told stays. -/
theorem unitsFrom_length : ∀ (k : Nat) (s acc u : List UInt8), s.length ≤ k → unitsFrom s acc = some u → acc.length ≤ u.length
  | 0, s, acc, u, hk, h => by
    have : s = [] := List.eq_nil_of_length_eq_zero (by omega)
    subst this
    rw [unitsFrom_nil] at h
    injection h with h
    rw [h]; exact Nat.le_refl _
  | k + 1, s, acc, u, hk, h => by
    by_cases hs : s = []
    · subst hs
      rw [unitsFrom_nil] at h
      injection h with h
      rw [h]; exact Nat.le_refl _
    · by_cases hz : (letter s).2 = 0
      · rw [unitsFrom_bad acc hs hz] at h; cases h
      · rw [unitsFrom_step acc hs hz] at h
        have h0 : 0 < s.length := List.length_pos_iff.2 hs
        have := unitsFrom_length k _ _ _ (by rw [List.length_drop]; omega) h
        rw [List.length_append] at this
        omega
end Pure
/-- The values of numbers of 16 bits. -/
abbrev u16s (l : List Nat) : List Value := l.map fun (b : Nat) => Value.int .u16 (b : Int)
theorem u16_info : (Tryd.prog.info? 52).map (fun i => (i.zero, i.size, i.bytes)) = some (some (.int .u16 0), 1, 2) := by kernel_rfl
theorem u16s_cells (l : List Nat) : ∀ u ∈ u16s l, u.oneCell' = true := by
  intro u hu
  obtain ⟨b, _, rfl⟩ := List.mem_map.1 hu
  rfl
theorem u16s_at (l : List Nat) (j : Nat) (h : j < l.length) : (u16s l)[j]? = some (.int .u16 ((l.getD j 0 : Nat) : Int)) := by
  rw [List.getElem?_map, List.getElem?_eq_getElem h, List.getD_eq_getElem?_getD, List.getElem?_eq_getElem h]; rfl
theorem u16row_new (w : World) (l : List Nat) (cs : Array Value) (n : Nat) (hc : cs = (u16s l).toArray) (hn : n = l.length) (hl : l.length ≤ 100000) : Row (w.alloc (.cells cs 52)) (fun b => b = w.heap.size) 1 (.slice (some ⟨w.heap.size, 0, none⟩) n n) l.length (u16s l) := by
  subst hc hn
  exact Row.block (Blk.new w 52 (u16s l).toArray) rfl (by simp) (by unfold maxLen; omega) (Nat.le_refl _)
section
variable {w : World} {ops : Array Oper} {rest : List Oper} {o : Oper} {a : Act} {Q : Exit → Act → World → Prop}
theorem wp_append_u16 (hgd : o.guard = none) (s x : Operand) (ho : o.op = .call { callee := .builtin .append, args := #[s, x], argTypes := #[102, 102] })
    (base : Nat) (v : Value) (n : Nat) (l : List Nat) (hn : l.length = n) (hs : a.eval s = v) (hown : w.ownsRow base 52 1 v n (u16s l))
    (F : Nat → Prop) (y : Value) (m : List Nat) (hx : a.eval x = y) (hr : Row w F 1 y m.length (u16s m)) (hlen : n + m.length ≤ 17592186044416) (hbase : base ≤ w.heap.size)
    (h : ∀ v' w', w'.ownsRow base 52 1 v' (l ++ m).length (u16s (l ++ m)) → w.grownBy w' v.ownBlock → (v'.ownBlock = v.ownBlock ∨ v'.ownBlock = some w.heap.size) → wpList Tryd.prog ops Q rest (a.put o.dst v') w') :
    wpList Tryd.prog ops Q (o :: rest) a w := by
  obtain ⟨i0, hi0, hz0, hz1, hz2⟩ := info_parts u16_info
  subst hn
  refine wpList_append_row hgd s x _ ho base 52 i0 _ 1 2 Tryd.underlying102 hi0 hz0 hz1 hz2 rfl (by omega) v _ (u16s l) hs hown F y m.length (u16s m) hx hr (u16s_cells m) (by simp only [maxLen]; omega) (by omega) hbase ?_
  intro v' w' h1 h2 h3
  refine h v' w' ?_ h2 h3
  rw [List.length_append]
  simpa using h1
end
/-- The units of one letter. -/
theorem unitsOfOne_any (n : Nat) (hn : n ≤ 1114111) (w : World) : Calls Tryd.prog 80 #[.int .i32 (n : Int)] w fun e w' => ∃ v, e = .returned v ∧ Row w' (fun b => b = w.heap.size) 1 v (Pure.unit16 n).length (u16s (Pure.unit16 n)) ∧ Below w.heap.size w w' := by
  by_cases h : n ≤ 65535
  · have e1 : Pure.unit16 n = [n] := by unfold Pure.unit16; rw [if_pos h]
    rw [e1]
    have d : decide ((n : Int) ≤ 65535) = true := decide_eq_true (by omega)
    have r := u16row_new w [n] _ 1 rfl rfl (by simp)
    have R := Lib.hid r
    clear r e1
    go_enter Tryd.func80, Tryd.ntmps80
    go_wp2
    go_ret
    exact ⟨_, rfl, R.out, (Below.refl _ _).alloc (Nat.le_refl _) _⟩
  · obtain ⟨m, hm⟩ : ∃ m, m = n - 65536 := ⟨_, rfl⟩
    obtain ⟨p, hp⟩ : ∃ p, p = 55296 + m / 1024 := ⟨_, rfl⟩
    obtain ⟨q, hq⟩ : ∃ q, q = 56320 + m % 1024 := ⟨_, rfl⟩
    have e1 : Pure.unit16 n = [p, q] := by unfold Pure.unit16; rw [if_neg h, ← hm, ← hp, ← hq]
    rw [e1]
    have d : decide ((n : Int) ≤ 65535) = false := decide_eq_false (by omega)
    have em : (n : Int) - 65536 = (m : Int) := by omega
    have ep : 55296 + (m : Int) / 1024 = (p : Int) := by omega
    have etm : (m : Int).tmod 1024 = (m : Int) % 1024 := Int.tmod_eq_emod_of_nonneg (by omega)
    have eq' : 56320 + (m : Int) % 1024 = (q : Int) := by omega
    have hp2 : p < 65536 := by omega
    have hq2 : q < 65536 := by omega
    have r := u16row_new w [p, q] _ 2 rfl rfl (by simp)
    have R := Lib.hid r
    clear r e1 hp hq hm h
    go_enter Tryd.func80, Tryd.ntmps80
    go_wp2
    go_ret
    exact ⟨_, rfl, R.out, (Below.refl _ _).alloc (Nat.le_refl _) _⟩
end Go.Proofs.YtkllaghfiofnjaaDoor
/- A secret's letters are what the model decodes; what may be decoded has units. Nothing of the program. -/
namespace Go.Proofs.YtkllaghfiofnjaaDoor
open Go Go.Lib
theorem letter_dec (l : List UInt8) : decodeL l = if (Pure.letter l).2 = 0 then (65533, 1) else Pure.letter l := by
  have h0 := (l.getD 0 0).toNat_lt
  have h1 := (l.getD 1 0).toNat_lt
  have h2 := (l.getD 2 0).toNat_lt
  have h3 := (l.getD 3 0).toNat_lt
  rw [decodeL_N]
  unfold Pure.letter Pure.follows Pure.six decodeN
  simp only [Bool.and_eq_true, decide_eq_true_eq, beq_iff_eq]
  generalize (l.getD 0 0).toNat = b0 at *
  generalize (l.getD 1 0).toNat = b1 at *
  generalize (l.getD 2 0).toNat = b2 at *
  generalize (l.getD 3 0).toNat = b3 at *
  generalize l.length = n at *
  by_cases c1 : b0 < 128
  · simp [c1]
  by_cases c2 : b0 < 224
  · by_cases c3 : 194 ≤ b0
    · rw [if_neg c1, if_neg c1, if_pos (show 194 ≤ b0 ∧ b0 ≤ 223 by omega)]
      by_cases c4 : 1 < n ∧ b1 / 64 = 2
      · rw [if_pos (show b0 / 32 = 6 ∧ 1 < n ∧ b1 / 64 = 2 from ⟨by omega, c4⟩), if_pos c4, if_pos (by omega)]
        simp
      · rw [if_neg (fun h => c4 h.2), if_neg c4, if_neg (by omega), if_neg (by omega)]
        simp
    · rw [if_neg c1, if_neg c1, if_neg (show ¬ (194 ≤ b0 ∧ b0 ≤ 223) by omega), if_neg (show ¬ (224 ≤ b0 ∧ b0 ≤ 239) by omega), if_neg (show ¬ (240 ≤ b0 ∧ b0 ≤ 244) by omega)]
      by_cases c4 : b0 / 32 = 6 ∧ 1 < n ∧ b1 / 64 = 2
      · rw [if_pos c4, if_neg (by omega)]
        simp
      · rw [if_neg c4, if_neg (by omega), if_neg (by omega)]
        simp
  by_cases c3 : b0 < 240
  · rw [if_neg c1, if_neg c1, if_neg (show ¬ (194 ≤ b0 ∧ b0 ≤ 223) by omega), if_pos (show (224 ≤ b0 ∧ b0 ≤ 239) by omega), if_neg (by omega)]
    by_cases c4 : (1 < n ∧ b1 / 64 = 2) ∧ 2 < n ∧ b2 / 64 = 2
    · rw [if_pos (show b0 / 16 = 14 ∧ (1 < n ∧ b1 / 64 = 2) ∧ 2 < n ∧ b2 / 64 = 2 from ⟨by omega, c4⟩), if_pos c4]
      by_cases c5 : 2048 ≤ b0 % 16 * 4096 + b1 % 64 * 64 + b2 % 64 ∧ ¬ (55296 ≤ b0 % 16 * 4096 + b1 % 64 * 64 + b2 % 64 ∧ b0 % 16 * 4096 + b1 % 64 * 64 + b2 % 64 ≤ 57343)
      · rw [if_pos c5, if_pos (by omega)]
        simp
      · rw [if_neg c5, if_neg (by omega)]
        simp
    · rw [if_neg (fun h => c4 h.2), if_neg c4, if_neg (by omega)]
      simp
  · rw [if_neg c1, if_neg c1, if_neg (show ¬ (194 ≤ b0 ∧ b0 ≤ 223) by omega), if_neg (show ¬ (224 ≤ b0 ∧ b0 ≤ 239) by omega), if_neg (by omega), if_neg (by omega)]
    by_cases c6 : b0 ≤ 244
    · rw [if_pos (show (240 ≤ b0 ∧ b0 ≤ 244) by omega)]
      by_cases c4 : ((1 < n ∧ b1 / 64 = 2) ∧ 2 < n ∧ b2 / 64 = 2) ∧ 3 < n ∧ b3 / 64 = 2
      · rw [if_pos (show b0 / 8 = 30 ∧ (1 < n ∧ b1 / 64 = 2) ∧ (2 < n ∧ b2 / 64 = 2) ∧ 3 < n ∧ b3 / 64 = 2 from ⟨by omega, c4.1.1, c4.1.2, c4.2⟩), if_pos c4]
        by_cases c5 : 65536 ≤ b0 % 8 * 262144 + b1 % 64 * 4096 + b2 % 64 * 64 + b3 % 64 ∧ b0 % 8 * 262144 + b1 % 64 * 4096 + b2 % 64 * 64 + b3 % 64 ≤ 1114111
        · rw [if_pos c5, if_pos (by omega)]
          simp
        · rw [if_neg c5, if_neg (by omega)]
          simp
      · rw [if_neg (fun h => c4 ⟨⟨h.2.1, h.2.2.1⟩, h.2.2.2⟩), if_neg c4]
        simp
    · rw [if_neg (show ¬ (240 ≤ b0 ∧ b0 ≤ 244) by omega)]
      split
      · rw [if_neg (by omega)]
        simp
      · simp
theorem letter_not (l : List UInt8) (h : (Pure.letter l).2 ≠ 0) : ¬ ((Pure.letter l).1 = 65533 ∧ (Pure.letter l).2 = 1) := by
  unfold Pure.letter at h ⊢
  simp only at h ⊢
  repeat' split
  all_goals first | (rintro ⟨h1, h2⟩; simp only at h1 h2; omega) | (rintro ⟨h1, h2⟩; simp at h2)
theorem letter_good' (l : List UInt8) (h : (Pure.letter l).2 ≠ 0) : decodeL l = Pure.letter l := by
  rw [letter_dec, if_neg h]
/-- What may be decoded has units, and nothing else has. -/
theorem valid_units : ∀ (k : Nat) (l acc : List UInt8), l.length ≤ k → (Pure.unitsFrom l acc).isSome = validD l
  | 0, l, acc, hk => by
    have : l = [] := List.eq_nil_of_length_eq_zero (by omega)
    subst this; rfl
  | k + 1, l, acc, hk => by
    by_cases hne : l = []
    · subst hne; rfl
    · rw [validD_step l hne, letter_dec]
      by_cases h : (Pure.letter l).2 = 0
      · rw [if_pos h, if_pos ⟨rfl, rfl⟩, Pure.unitsFrom_bad acc hne h]; rfl
      · rw [if_neg h, if_neg (letter_not l h), Pure.unitsFrom_step acc hne h]
        have h0 : 0 < l.length := List.length_pos_iff.2 hne
        exact valid_units k _ _ (by rw [List.length_drop]; omega)
theorem units_valid (l : List UInt8) : (Pure.units l).isSome = validD l := valid_units l.length l [] (Nat.le_refl _)
end Go.Proofs.YtkllaghfiofnjaaDoor
/- utf8.ValidString at this program: the library's contract, laid; the condition on the two tables, and that it stays. -/
namespace Go.Proofs.YtkllaghfiofnjaaDoor
open Go.Shelf Go.RowKit
def validRen : Go.Shelf.Ren := ⟨fun | 196 => 79 | 259 => 90 | n => n, fun | 9 => 9 | 4 => 4 | 3 => 3 | 5 => 5 | 12 => 12 | 119 => 149 | 0 => 0 | 46 => 50 | 139 => 152 | 138 => 151 | 53 => 108 | n => n, fun | 3 => 1 | 4 => 2 | n => n⟩
theorem validLays : Go.Proofs.Lays.n196 Tryd.prog validRen := {
  mixed := by kernel_rfl
  f196 := Tryd.func79.trans (congrArg some (by kernel_rfl))
  f259 := Tryd.func90.trans (congrArg some (by kernel_rfl))
  t0 := Tryd.underlying0
  a0 := Tryd.isAgg0
  z0 := Tryd.sizeOf0
  v0 := Tryd.zeroValue0
  t3 := Tryd.underlying3
  a3 := Tryd.isAgg3
  z3 := Tryd.sizeOf3
  v3 := Tryd.zeroValue3
  t4 := Tryd.underlying4
  a4 := Tryd.isAgg4
  z4 := Tryd.sizeOf4
  v4 := Tryd.zeroValue4
  t5 := Tryd.underlying5
  a5 := Tryd.isAgg5
  z5 := Tryd.sizeOf5
  v5 := Tryd.zeroValue5
  t9 := Tryd.underlying9
  a9 := Tryd.isAgg9
  z9 := Tryd.sizeOf9
  v9 := Tryd.zeroValue9
  t12 := Tryd.underlying12
  a12 := Tryd.isAgg12
  z12 := Tryd.sizeOf12
  v12 := Tryd.zeroValue12
  t46 := Tryd.underlying50
  a46 := Tryd.isAgg50
  z46 := Tryd.sizeOf50
  v46 := Tryd.zeroValue50
  t53 := Tryd.underlying108
  a53 := Tryd.isAgg108
  z53 := Tryd.sizeOf108
  v53 := Tryd.zeroValue108
  t119 := Tryd.underlying149
  a119 := Tryd.isAgg149
  z119 := Tryd.sizeOf149
  t138 := Tryd.underlying151
  a138 := Tryd.isAgg151
  z138 := Tryd.sizeOf151
  v138 := Tryd.zeroValue151
  t139 := Tryd.underlying152
  a139 := Tryd.isAgg152
  z139 := Tryd.sizeOf152
  v139 := Tryd.zeroValue152
  g3 := by kernel_rfl
  g4 := by kernel_rfl }
/-- What the two tables of package utf8 hold. -/
def Tabs (w : World) : Prop := Lib.Utf8Tabs 1 2 w
theorem Tabs.keeps {S : Nat → Prop} {w w' : World} (h : Tabs w) (k : Keeps S w w') (h1 : ¬ S 1) (h2 : ¬ S 2) : Tabs w' := by
  have one : ∀ g o u, ¬ S g → w.cell? ⟨g, o, none⟩ = some u → w'.cell? ⟨g, o, none⟩ = some u := fun g o u hS hc =>
    (World.cell?_of_block (w := w) (a := ⟨g, o, none⟩) (k.block g (cell_lt hc) hS)).trans hc
  exact ⟨fun c hc => one _ _ _ h1 (h.1 c hc), fun i hi => ⟨one _ _ _ h2 (h.2 i hi).1, one _ _ _ h2 (h.2 i hi).2⟩⟩
theorem Tabs.below {w w' : World} (h : Tabs w) (k : Below w.heap.size w w') : Tabs w' := h.keeps (Keeps.new k) (fun h => h) (fun h => h)
theorem valid_any (s : ByteArray) (l : List UInt8) (hl : s.data.toList = l) (hsz : l.length ≤ 1000000) (w : World) (hT : Tabs w) :
    Calls Tryd.prog 79 #[.string s] w fun e w' => e = .returned (.bool (Pure.units l).isSome) ∧ Below w.heap.size w w' := by
  rw [units_valid, ← hl]
  have hs : s.size = l.length := by rw [← hl]; simp
  exact Any.utf8_ValidString validLays s w (by omega) hT
end Go.Proofs.YtkllaghfiofnjaaDoor
/- errors.As of a *api.Fault at a **api.Fault: true, and the target is set. -/
namespace Go.Proofs.YtkllaghfiofnjaaDoor
open Go.RowKit Go.Extern.Stop Go.Stop Go.Extern

/-- A reflectlite.Value's cells: of a **api.Fault whose variable is block b. -/
noncomputable abbrev asVal (b : Nat) : Array Value := #[.pointer (some ⟨hB, 90, none⟩), .pointer (some ⟨b, 0, none⟩), .int .u64 150]
noncomputable abbrev asW2 (w : World) (t : Addr) : World := (w.alloc (.cells #[.pointer (some t)] 90)).alloc (.cells (asVal w.heap.size) 112)
noncomputable abbrev asW3 (w : World) (t : Addr) : World := (asW2 w t).alloc (.cells (asVal w.heap.size) 112)
noncomputable abbrev asW4 (w : World) (t e : Addr) : World := (asW3 w t).alloc (.cells #[.pointer (some e)] 88)
theorem as_below4 (w : World) (t e : Addr) : Below w.heap.size w (asW4 w t e) :=
  ((((Below.refl w.heap.size w).alloc (Nat.le_refl _) _).alloc (by simp) _).alloc (by simp; omega) _).alloc (by simp; omega) _

set_option maxHeartbeats 4000000 in
theorem as_fault (e t : Addr) (old : Value) (w : World) (hg : Handle w) (ht : w.cell? t = some old) (hf : w.frozen? t = false) :
    Calls Tryd.prog 55 #[.iface 88 (.pointer (some e)), .iface 90 (.pointer (some t))] w fun ev w' => ev = .returned (.bool true) ∧
      w' = (asW4 w t e).setCell t (.pointer (some e)) := by
  have h1 := @run_callFunc_extern Tryd.prog 70 _ (fun args => ReflectliteValue.unpack (args.getD 0 (.tuple #[]))) Tryd.func70 (by kernel_rfl) (by kernel_rfl) (by kernel_rfl) (by kernel_rfl)
  have h2 := @run_callFunc_extern Tryd.prog 71 _ (ReflectliteValue.methodAny (ReflectliteValue.valueError "reflectlite.Value.Type" 0) (fun t _ _ _ => ReflectliteType.toType t)) Tryd.func71 (by kernel_rfl) (by kernel_rfl) (by kernel_rfl) (by kernel_rfl)
  have h3 := @run_callFunc_extern Tryd.prog 72 _ (ReflectliteValue.method (ReflectliteValue.valueError "reflectlite.Value.IsNil" 0) ReflectliteValue.isNil) Tryd.func72 (by kernel_rfl) (by kernel_rfl) (by kernel_rfl) (by kernel_rfl)
  have h4 := @run_callFunc_extern Tryd.prog 134 _ (ReflectliteType.abiMethod fun t => do pure (.int .u8 (← Rtype.kind t))) Tryd.func134 (by kernel_rfl) (by kernel_rfl) (by kernel_rfl) (by kernel_rfl)
  have h5 := @run_callFunc_extern Tryd.prog 146 _ (ReflectliteType.method ReflectliteType.elem) Tryd.func146 (by kernel_rfl) (by kernel_rfl) (by kernel_rfl) (by kernel_rfl)
  have h6 := @run_callFunc_extern Tryd.prog 147 _ (ReflectliteType.relation "Implements" ReflectliteType.implements_) Tryd.func147 (by kernel_rfl) (by kernel_rfl) (by kernel_rfl) (by kernel_rfl)
  have h7 := @run_callFunc_extern Tryd.prog 86 _ ReflectliteType.typeOf Tryd.func86 (by kernel_rfl) (by kernel_rfl) (by kernel_rfl) (by kernel_rfl)
  have h8 := @run_callFunc_extern Tryd.prog 144 _ (ReflectliteType.relation "AssignableTo" ReflectliteType.assignableTo) Tryd.func144 (by kernel_rfl) (by kernel_rfl) (by kernel_rfl) (by kernel_rfl)
  have h9 := @run_callFunc_extern Tryd.prog 87 _ (ReflectliteValue.method (ReflectliteValue.valueError "reflectlite.Value.Elem" 0) ReflectliteValue.elem) Tryd.func87 (by kernel_rfl) (by kernel_rfl) (by kernel_rfl) (by kernel_rfl)
  have h10 := @run_callFunc_extern Tryd.prog 88 _ ReflectliteValue.set Tryd.func88 (by kernel_rfl) (by kernel_rfl) (by kernel_rfl) (by kernel_rfl)
  have k1 := as_unpackT
  have k2 := as_typeT
  have k3 := as_mKind
  have k4 := as_mElem
  have k5 := as_mImpl
  have k6 := as_mAssign
  have k7 := as_kindT
  have k8 := as_kindE
  have k9 := as_elemT
  have k10 := as_implE
  have k11 := as_typeOfE
  have k12 := as_assignE
  have k13 := as_unpackE
  have hlt := hg.lt
  have htl : t.block < w.heap.size := by
    rcases Nat.lt_or_ge t.block w.heap.size with h | h
    · exact h
    · simp [World.cell?, Array.getElem?_eq_none h] at ht
  have g2 : (asW2 w t).cell? ⟨0, 0, none⟩ = some (.iface 135 (.agg #[.pointer (some ⟨hB, 65, none⟩)])) := by
    rw [World.cell?_alloc_lt _ _ ⟨0, 0, none⟩ (by simp), World.cell?_alloc_lt _ _ ⟨0, 0, none⟩ hlt]; exact hg
  have n1 := as_isNil ⟨w.heap.size, 0, none⟩ t (asW2 w t) (by simp)
  have n2 := as_elemV ⟨w.heap.size, 0, none⟩ t (asW3 w t) (by rw [World.cell?_alloc_lt _ _ ⟨w.heap.size, 0, none⟩ (by simp; omega)]; simp)
  have n3 := as_set t ⟨w.heap.size + 1 + 1 + 1, 0, none⟩ e old (asW4 w t e)
    (by rw [World.cell?_alloc_at _ _ _ _ (by simp)]; rfl)
    (by rw [World.cell?_alloc_lt _ _ t (by simp; omega), World.cell?_alloc_lt _ _ t (by simp; omega), World.cell?_alloc_lt _ _ t (by simp; omega), World.cell?_alloc_lt _ _ t htl]; exact ht)
    (by rw [World.frozen?_alloc_old _ _ t (by simp; omega), World.frozen?_alloc_old _ _ t (by simp; omega), World.frozen?_alloc_old _ _ t (by simp; omega), World.frozen?_alloc_old _ _ t (Nat.ne_of_lt htl)]; exact hf)
  clear hg ht hf
  go_enter Tryd.func55, Tryd.ntmps55
  go_wp2
  refine wp_loop_rounds 1 ?_
  rw [rounds_succ]
  go_wp2
  go_ret
  exact ⟨rfl, rfl⟩
end Go.Proofs.YtkllaghfiofnjaaDoor
/- Package fault: what an error tells (ErrIs), Of, Number. -/
namespace Go.Proofs.YtkllaghfiofnjaaDoor
open Go.RowKit
/-- What an error of this package tells: nil, or a fault of that number. -/
def ErrIs (w : World) (v : Value) (k : Nat) : Prop :=
  (v = .nilIface ∧ k = 0) ∨ (k ≠ 0 ∧ ∃ b, v = .iface 88 (.pointer (some ⟨b, 0, none⟩)) ∧ w.cell? ⟨b, 1, none⟩ = some (.int .i64 k))
theorem ErrIs.keeps {S : Nat → Prop} {w w' : World} {v : Value} {k : Nat} (h : ErrIs w v k) (hk : Keeps S w w') (hS : ∀ b, ¬ S b) : ErrIs w' v k := by
  rcases h with h | ⟨h1, b, h2, h3⟩
  · exact .inl h
  · exact .inr ⟨h1, b, h2, (World.cell?_of_block (w := w) (a := ⟨b, 1, none⟩) (hk.block b (cell_lt h3) (hS b))).trans h3⟩

theorem of_any (s : ByteArray) (k : Nat) (w : World) (hk : k ≠ 0) : Calls Tryd.prog 56 #[.string s, .int .i64 k] w fun e w' => ∃ v, e = .returned v ∧ ErrIs w' v k ∧ Below w.heap.size w w' := by
  go_enter Tryd.func56, Tryd.ntmps56
  go_wp2
  go_ret
  exact ⟨_, rfl, .inr ⟨hk, w.heap.size, rfl, by simp⟩, (Below.refl _ _).alloc (Nat.le_refl _) _⟩

set_option maxHeartbeats 1000000 in
theorem number_any (v : Value) (k : Nat) (w : World) (hg : Handle w) (h : ErrIs w v k) : Calls Tryd.prog 32 #[v] w fun e w' => e = .returned (.int .i64 k) ∧ Below w.heap.size w w' := by
  have B1 := Lib.hid ((Below.refl w.heap.size w).alloc (Nat.le_refl _) (.cells #[.pointer none] 88))
  rcases h with ⟨rfl, rfl⟩ | ⟨h1, b, rfl, h3⟩
  · have HA := Lib.hid as_nil
    clear hg
    go_enter Tryd.func32, Tryd.ntmps32
    go_wp2_with fail
    refine (HA.out _ _).mono ?_
    rintro e w1 ⟨rfl, rfl⟩
    go_wp2
    go_ret
    exact ⟨rfl, B1.out⟩
  · have hb := cell_lt h3
    have hg1 : Handle (w.alloc (.cells #[.pointer none] 88)) := hg.below ((Below.refl w.heap.size w).alloc (Nat.le_refl _) _)
    have HA := Lib.hid (as_fault ⟨b, 0, none⟩ ⟨w.heap.size, 0, none⟩ (.pointer none) _ hg1 (by simp) (by simp))
    have k4 := as_below4 (w.alloc (.cells #[.pointer none] 88)) ⟨w.heap.size, 0, none⟩ ⟨b, 0, none⟩
    obtain ⟨W, hW⟩ : ∃ W, W = asW4 (w.alloc (.cells #[.pointer none] 88)) ⟨w.heap.size, 0, none⟩ ⟨b, 0, none⟩ := ⟨_, rfl⟩
    rw [← hW] at HA k4
    have hsz : (w.alloc (.cells #[.pointer none] 88)).heap.size = w.heap.size + 1 := by simp
    have hblk : Blk W w.heap.size 88 #[.pointer none] := (Blk.new w 88 #[.pointer none]).below k4 (by omega)
    have c0 : (W.setCell ⟨w.heap.size, 0, none⟩ (.pointer (some ⟨b, 0, none⟩))).cell? ⟨w.heap.size, 0, none⟩ = some (.pointer (some ⟨b, 0, none⟩)) := by
      rw [(hblk.set 0 _).cell]; rfl
    have hk : Keeps nobody w (W.setCell ⟨w.heap.size, 0, none⟩ (.pointer (some ⟨b, 0, none⟩))) :=
      ((Keeps.new ((B1.out).trans (k4.mono (by simp)))).store w.heap.size 0 (fun h => absurd h (by omega)) _)
    have c1 := (World.cell?_of_block (w := w) (a := ⟨b, 1, none⟩) (hk.block b hb (fun h => h))).trans h3
    have K := Lib.hid hk
    clear hg hg1 k4 hW hsz hblk hk h3
    go_enter Tryd.func32, Tryd.ntmps32
    go_wp2_with fail
    refine HA.out.mono ?_
    rintro e w1 ⟨rfl, rfl⟩
    go_wp2
    go_ret
    exact ⟨rfl, K.out.to_below⟩
end Go.Proofs.YtkllaghfiofnjaaDoor
/- The document's Copy. -/
namespace Go.Proofs.YtkllaghfiofnjaaDoor
open Go.RowKit

set_option maxHeartbeats 1000000 in
theorem copy_any (F : Nat → Prop) (x : Value) (bs : List UInt8) (w : World) (hr : Row w F 1 x bs.length (u8s bs)) (hF : ∀ b, F b → b < w.heap.size) (hl : bs.length ≤ 100000000000000) :
    Calls Tryd.prog 26 #[x] w fun e w' => ∃ u, e = .returned u ∧ w'.ownsRow w.heap.size 5 1 u bs.length (u8s bs) ∧ Below w.heap.size w w' := by
  obtain ⟨A, c, rfl, hc⟩ := hr.form
  have hm := hr.2.1
  unfold maxLen at hm
  have HR := Lib.hid hr
  have HF := Lib.hid hF
  clear hr hF
  obtain ⟨i0, hi0, hz0, hz1, hz2⟩ := info_parts u8_info
  have I := Lib.hid (And.intro hi0 (And.intro hz0 (And.intro hz1 hz2)))
  clear hi0 hz0 hz1 hz2
  go_enter Tryd.func26, Tryd.ntmps26
  go_wp2_with fail
  go_loopw [3, 4] (fun u i wr => ∃ k : Nat, k ≤ bs.length ∧ i = .int .i64 k ∧ wr.ownsRow w.heap.size 5 1 u k (u8s (bs.take k)) ∧ Below w.heap.size w wr) (fun _ i _ => bs.length - (intOf i).toNat)
  case atStart => exact ⟨0, by omega, rfl, ⟨by simp, .inl ⟨rfl, rfl⟩⟩, Below.refl _ _⟩
  case round =>
    obtain ⟨k, hk, rfl, hown, hb⟩ := hrel
    have O := Lib.hid hown
    have B := Lib.hid hb
    clear hown hb
    by_cases hlt : k < bs.length
    · obtain ⟨b, off, rfl, hbF, hcell⟩ := (HR.out.keeps (Keeps.new B.out) (fun _ _ h => h)).cellAt (by omega)
      have cb := hcell k _ (u8s_at bs k hlt)
      obtain ⟨X, hX⟩ : ∃ X : Nat, X = (bs.getD k 0).toNat := ⟨_, rfl⟩
      have hX2 : X < 256 := by rw [hX]; exact (bs.getD k 0).toNat_lt
      rw [← hX] at cb
      have HXX := Lib.hid hX
      have hi0 : (0 : Int) ≤ (k : Int) := by omega
      have hi1 : (k : Int) < (bs.length : Int) := by omega
      have hrow1 : Row (wr.alloc (.cells #[.int .u8 X] 5)) (fun _ => True) 1 (.slice (some ⟨wr.heap.size, 0, none⟩) 1 1) 1 [.int .u8 X] :=
        Row.block (Blk.new wr 5 #[.int .u8 X]) trivial rfl (by simp [maxLen]) (Nat.le_refl _)
      have HRow := Lib.hid hrow1
      have hsz := B.out.size
      clear hX hcell hrow1
      go_wp2_with (at_builtin; refine stopHere ?_)
      unfold Hid
      obtain ⟨hi0', hz0, hz1, hz2⟩ := I.out
      refine wpList_append_row rfl (.tmp 11) (.tmp 16) _ rfl w.heap.size 5 i0 _ 1 1 Tryd.underlying25 hi0' hz0 hz1 hz2 rfl (by omega) u3 k (u8s (bs.take k))
        rfl (O.out.alloc _) _ _ 1 [.int .u8 X] rfl HRow.out (by simp [Value.oneCell']) (by simp only [maxLen]; omega) (by omega) (by simp; omega) ?_
      intro v3 w3 hown3 hg3 hat3
      have hown3' : w3.ownsRow w.heap.size 5 1 v3 (k + 1) (u8s (bs.take (k + 1))) := by
        have e1 : u8s (bs.take k) ++ [.int .u8 X] = u8s (bs.take (k + 1)) := by
          rw [List.take_succ_eq_append_getElem hlt]
          have := HXX.out
          rw [List.getD_eq_getElem?_getD, List.getElem?_eq_getElem hlt] at this
          rw [this]
          simp only [List.map_append, List.map_cons, List.map_nil, Option.getD_some]
        rw [← e1]
        exact hown3
      have hb3 := Below.grown (B.out.alloc hsz (.cells #[.int .u8 X] 5)) hg3 (by simp; omega) (fun q hq => (ownsRow_ge O.out q hq))
      have O3 := Lib.hid hown3'
      have B3 := Lib.hid hb3
      clear hown3 hown3' hg3 hat3 hb3 hi0' hz0 hz1 hz2 cb
      go_wp2
      go_roundw
      case rel => exact ⟨k + 1, by omega, by go_num, O3.out, B3.out⟩
      case measure => simp [intOf]; omega
    · have hk' : k = bs.length := by omega
      have e : bs.take k = bs := by rw [hk', List.take_length]
      rw [e, hk'] at O
      clear e hk'
      go_wp2
      go_ret
      exact ⟨_, rfl, O.out, B.out⟩

end Go.Proofs.YtkllaghfiofnjaaDoor
/- A []byte constant: a row whose block bears a mark. -/
namespace Go.Proofs.YtkllaghfiofnjaaDoor
open Go.RowKit
theorem Row.marked {F : Nat → Prop} {n c : Nat} (w : World) (t : TypeId) (cs : Array Value) (m : Nat × Nat) (hF : F w.heap.size) (hn : cs.size = n) (hm : n ≤ maxLen) (hc : n ≤ c) :
    Row (w.alloc (.cells cs t m)) F 1 (.slice (some ⟨w.heap.size, 0, none⟩) n c) n cs.toList := by
  refine ⟨by simpa using hn, hm, _, c, rfl, hc, by simp, fun _ => ⟨w.heap.size, 0, rfl, hF, fun j u hu => ?_⟩⟩
  rw [Nat.zero_add]
  have h : (w.alloc (.cells cs t m)).heap[w.heap.size]? = some (.cells cs t m) := by
    show (w.heap.push _)[w.heap.size]? = _
    simp
  rw [Array.getElem?_toList] at hu
  simp only [World.cell?, h]
  exact hu
end Go.Proofs.YtkllaghfiofnjaaDoor
/- What laws on rows of bytes share: Same, Copy as a law wants them; rows that were made. -/
namespace Go.Proofs.YtkllaghfiofnjaaDoor
open Go.RowKit

/-- A slice of bytes that was just made. -/
theorem fresh_row {w : World} {base n : Nat} {u : Value} {l : List UInt8} (h : w.ownsRow base 5 1 u n (u8s l)) : Row w (fun b => base ≤ b) 1 u n (u8s l) := (Row.of_own h).mono (fun b hb => ownsRow_ge h b hb)

section
variable {w0 wr : World}
theorem sameL {F G : Nat → Prop} {x y : Value} {a b : List UInt8} (B : Below w0.heap.size w0 wr) (hx : Row wr F 1 x a.length (u8s a)) (hy : Row wr G 1 y b.length (u8s b)) :
    Calls Tryd.prog 15 #[x, y] wr fun e w' => e = .returned (.bool (decide (a = b))) ∧ Keeps nobody wr w' ∧ Below w0.heap.size w0 w' :=
  (same_any F G x y a b wr hx hy).mono fun e w' ⟨he, hK⟩ => ⟨he, hK, Below.quiet B hK B.size⟩
theorem sameN {F G : Nat → Prop} {x y : Value} {a b : List UInt8} {n m : Nat} (B : Below w0.heap.size w0 wr) (hx : Row wr F 1 x n (u8s a)) (hy : Row wr G 1 y m (u8s b)) (ha : a.length = n) (hb : b.length = m) :
    Calls Tryd.prog 15 #[x, y] wr fun e w' => e = .returned (.bool (decide (a = b))) ∧ Keeps nobody wr w' ∧ Below w0.heap.size w0 w' := by
  subst ha hb
  exact sameL B hx hy
theorem sameY {F G : Nat → Prop} {x y : Value} {a b : List UInt8} {n m : Nat} (B : Below w0.heap.size w0 wr) (hx : Row wr F 1 x n (u8s a)) (hy : Row wr G 1 y m (u8s b)) (ha : a.length = n) (hab : a = b) :
    Calls Tryd.prog 15 #[x, y] wr fun e w' => e = .returned (.bool true) ∧ Keeps nobody wr w' ∧ Below w0.heap.size w0 w' := by
  have hm : b.length = m := by have := hy.1; simpa using this
  exact (sameN B hx hy ha hm).mono fun e w' ⟨he, h⟩ => ⟨by rw [he, decide_eq_true hab], h⟩
theorem copyL {F : Nat → Prop} {x : Value} {bs : List UInt8} (B : Below w0.heap.size w0 wr) (hr : Row wr F 1 x bs.length (u8s bs)) (hF : ∀ b, F b → b < wr.heap.size) (hl : bs.length ≤ 100000000000000) :
    Calls Tryd.prog 26 #[x] wr fun e w' => ∃ A c, e = .returned (.slice A bs.length c) ∧ w'.ownsRow wr.heap.size 5 1 (.slice A bs.length c) bs.length (u8s bs) ∧ Keeps nobody wr w' ∧ Below w0.heap.size w0 w' :=
  (copy_any F x bs wr hr hF hl).mono fun e w' ⟨u, he, hu, hb⟩ => by
    obtain ⟨A, c, rfl⟩ := own_form hu
    exact ⟨A, c, he, hu, Keeps.new hb, B.trans (hb.mono B.size)⟩
end
theorem below_drew {B : Nat} {a w : World} (h : Below B a w) : Below B a w.drew := ⟨h.os, h.tape, h.output, h.size, h.block⟩
/-- A slice of bytes that was made, in a later world. -/
theorem own_only {w w' : World} {base g n : Nat} {u : Value} {l : List UInt8} (h : w.ownsRow base 5 1 u n (u8s l)) (k : Keeps (only g) w w') (hg : g < base) : w'.ownsRow base 5 1 u n (u8s l) :=
  ownsRow_keeps h k (fun b hb hs => by have := ownsRow_ge h b hb; unfold only at hs; omega)
theorem own_quiet {w w' : World} {base n : Nat} {u : Value} {l : List UInt8} (h : w.ownsRow base 5 1 u n (u8s l)) (k : Keeps nobody w w') : w'.ownsRow base 5 1 u n (u8s l) := ownsRow_keeps h k (fun _ _ h => h)

/-- Bytes that were just made, behind a mark. -/
theorem row_mark (w : World) (l : List UInt8) (cs : Array Value) (n : Nat) (m : Nat × Nat) (hc : cs = (u8s l).toArray) (hn : n = l.length) (hl : l.length ≤ 100000) : Row (w.alloc (.cells cs 5 m)) (fun b => b = w.heap.size) 1 (.slice (some ⟨w.heap.size, 0, none⟩) n n) l.length (u8s l) := by
  subst hc hn
  have h := Row.marked (F := fun b => b = w.heap.size) (n := l.length) (c := l.length) w 5 (u8s l).toArray m rfl (by simp) (by unfold maxLen; omega) (Nat.le_refl _)
  exact h

end Go.Proofs.YtkllaghfiofnjaaDoor
/- chap.unitsOf: the units of a secret, or what is wrong with it. -/
namespace Go.Proofs.YtkllaghfiofnjaaDoor
open Go.RowKit
/-- A string's iterator lies in no row's block. -/
theorem iter_apart {w : World} {g p base n : Nat} {s : ByteArray} {e : TypeId} {v : Value} {xs : List Value} (hk : w.heap[g]? = some (.stringIter s p)) (h : w.ownsRow base e 1 v n xs) : v.ownBlock ≠ some g := by
  rcases h.2 with ⟨rfl, _⟩ | ⟨g', cap, cur, rfl, _, hh, _⟩
  · simp [Value.ownBlock]
  · intro he
    have : g' = g := by simpa [Value.ownBlock] using he
    subst this
    rw [hk] at hh
    injection hh with hh
    cases hh
theorem keeps_iterAt (w : World) (g : Nat) (s : ByteArray) (p : Nat) : Keeps (only g) w (w.iterAt g s p) :=
  ⟨rfl, rfl, rfl, by rw [Lib.iterAt_size]; exact Nat.le_refl _, fun k _ hk => Lib.iterAt_other w g k s p hk⟩
theorem own_iterAt {w : World} {g p p' base n : Nat} {s : ByteArray} {e : TypeId} {v : Value} {xs : List Value} (hk : w.heap[g]? = some (.stringIter s p)) (h : w.ownsRow base e 1 v n xs) : (w.iterAt g s p').ownsRow base e 1 v n xs :=
  ownsRow_keeps h (keeps_iterAt w g s p') (fun k hv hg => by have hg : k = g := hg; subst hg; exact iter_apart hk h hv)
/-- What unitsOf answers. -/
def UnitsOk (w0 : World) (l : List UInt8) (e : Ending) (w' : World) : Prop :=
  ∃ v x us, e = .returned (.tuple #[v, x]) ∧ ErrIs w' x (Pure.secret l).1 ∧ ((Pure.secret l).1 = 0 → w'.ownsRow w0.heap.size 52 1 v us.length (u16s us) ∧ Pure.low us = (Pure.secret l).2 ∧ us.length ≤ 256) ∧ Below w0.heap.size w0 w'
set_option maxRecDepth 100000 in
set_option maxHeartbeats 4000000 in
theorem unitsOf_any (s : ByteArray) (l : List UInt8) (hl : s.data.toList = l) (hsz : l.length ≤ 1000000) (w : World) (hT : Tabs w) :
    Calls Tryd.prog 66 #[.string s] w (UnitsOk w l) := by
  have hs : s.size = l.length := by rw [← hl]; simp
  have HV := Lib.hid (valid_any s l hl hsz w hT)
  have HL := Lib.hid hl
  clear hl hT
  obtain ⟨U, hU⟩ : ∃ U, U = Pure.units l := ⟨_, rfl⟩
  rw [← hU] at HV
  have HU := Lib.hid hU
  clear hU
  cases U with
  | none =>
    have hsec := Pure.secret_none HU.out.symm
    have HSEC := Lib.hid hsec
    clear hsec
    go_enter Tryd.func66, Tryd.ntmps66
    go_wp2_with fail
    refine HV.out.mono ?_
    rintro e w1 ⟨rfl, hb1⟩
    have H1 := Lib.hid hb1
    clear hb1 HV
    go_wp2_with fail
    refine (of_any _ 4 _ (by omega)).mono ?_
    rintro e w2 ⟨v, rfl, he2, hb2⟩
    have HE2 := Lib.hid he2
    have H2 := Lib.hid (H1.out.trans (hb2.mono H1.out.size))
    clear he2 hb2
    go_wp2_with fail
    go_ret2
    refine ⟨_, _, [], rfl, ?_, fun h => ?_, H2.out⟩
    · rw [HSEC.out]; exact HE2.out
    · rw [HSEC.out] at h; cases h
  | some u =>
    go_enter Tryd.func66, Tryd.ntmps66
    go_wp2_with fail
    refine HV.out.mono ?_
    rintro e w1 ⟨rfl, hb1⟩
    have H1 := Lib.hid hb1
    have hgs := hb1.size
    clear hb1 HV
    go_wp2_with fail
    have hlen := fun k acc (h : Pure.unitsFrom (l.drop k) acc = some u) => Pure.unitsFrom_length _ _ acc u (Nat.le_refl _) h
    have HLEN := Lib.hid hlen
    have hit : (w1.iter s 0).heap[w1.heap.size]? = some (.stringIter s 0) := World.iter_heap w1 s 0
    have hi1 : Below w.heap.size w (w1.iter s 0) := H1.out.alloc H1.out.size _
    obtain ⟨g, hg⟩ : ∃ g, g = w1.heap.size := ⟨_, rfl⟩
    rw [← hg] at hit hgs
    obtain ⟨w2, hw2⟩ : ∃ w2, w2 = w1.iter s 0 := ⟨_, rfl⟩
    rw [← hw2] at hit hi1
    have HI := Lib.hid hit
    have HB := Lib.hid hi1
    clear hit hi1 hlen
    rw [← hg, ← hw2]
    clear hg hw2 H1
    have H0 := HU.out
    go_loopw [4] (fun v wr => ∃ (k : Nat) (us : List Nat), k ≤ l.length ∧ wr.heap[g]? = some (.stringIter s k) ∧ wr.ownsRow w.heap.size 52 1 v us.length (u16s us) ∧ us.length ≤ 256 ∧ Pure.unitsFrom (l.drop k) (Pure.low us) = some u ∧ Below w.heap.size w wr) (fun _ wr => l.length - wr.iterPos g)
    case atStart => exact ⟨0, [], by omega, HI.out, World.ownsRow_nil _ _ _ _, by simp, H0.symm, HB.out⟩
    case round =>
      obtain ⟨k, us, hk, hit, hW, hus, hR, hK⟩ := hrel
      obtain ⟨A2, c2, rfl⟩ := own_form hW
      have hmu : wr.iterPos g = k := by simp [World.iterPos, hit]
      have HIT := Lib.hid hit
      have HW := Lib.hid hW
      have HR := Lib.hid hR
      have HK := Lib.hid hK
      have HMU := Lib.hid hmu
      clear hit hW hR hK hmu H0 HI HB
      by_cases hkl : k < l.length
      · have hne : l.drop k ≠ [] := by
          intro e
          have := congrArg List.length e
          rw [List.length_drop] at this
          simp at this
          omega
        have hz : (Pure.letter (l.drop k)).2 ≠ 0 := by
          intro h
          have := HR.out
          rw [Pure.unitsFrom_bad _ hne h] at this
          cases this
        have hdec : Utf8.decode s k = Pure.letter (l.drop k) := by
          rw [← letter_good' _ hz, ← HL.out, Lib.decodeL_drop]
        have hstep := Pure.unitsFrom_step (Pure.low us) hne hz
        obtain ⟨z1, z2⟩ := Pure.letter_size (l.drop k) hne
        have hn := Pure.letter_num (l.drop k)
        rw [List.length_drop] at z1
        rw [List.drop_drop] at hstep
        have hnext : ∀ ty, (Instr.next (.pointer (some ⟨g, 0, none⟩)) true ty).run Tryd.prog wr = _ := fun ty => Lib.run_next_any_at wr g s k ty HIT.out (by omega)
        rw [hdec] at hnext
        obtain ⟨n, hn'⟩ : ∃ n, n = (Pure.letter (l.drop k)).1 := ⟨_, rfl⟩
        obtain ⟨z, hz'⟩ : ∃ z, z = (Pure.letter (l.drop k)).2 := ⟨_, rfl⟩
        rw [← hn'] at hn hstep hnext
        rw [← hz'] at z1 z2 hz hstep hnext
        have hR2 := hstep.symm.trans HR.out
        rw [← Pure.low_unit16, ← Pure.low_append] at hR2
        have HR2 := Lib.hid hR2
        have hit1 := Lib.iterAt_heap wr g s k (k + z) HIT.out
        have hW1 := own_iterAt (p' := k + z) HIT.out HW.out
        have hb1 := Lib.below_iterAt HK.out hgs s (k + z)
        obtain ⟨w3, hw3⟩ : ∃ w3, w3 = wr.iterAt g s (k + z) := ⟨_, rfl⟩
        rw [← hw3] at hnext hit1 hW1 hb1
        have HIT1 := Lib.hid hit1
        have HW1 := Lib.hid hW1
        have HB1 := Lib.hid hb1
        have HNL := Lib.hid (Pure.unit16_length n)
        clear hR2 hit1 hW1 hb1 hw3 hdec hstep hn' hz' HR HIT HW HK hne
        go_wp2_with fail
        refine (unitsOfOne_any n hn w3).mono ?_
        rintro e w4 ⟨v4, rfl, hr4, hb4⟩
        have HIT4 := Lib.hid ((hb4.block _ (Array.getElem?_eq_some_iff.1 HIT1.out).1).trans HIT1.out)
        have HW4 := Lib.hid (ownsRow_keeps HW1.out (Keeps.new hb4) (fun _ _ h => h))
        have HB4 := Lib.hid (HB1.out.trans (hb4.mono HB1.out.size))
        have HR4 := Lib.hid hr4
        clear hr4 hb4 hnext HIT1 HW1 HB1
        go_wp2_with (at_builtin; refine stopHere ?_)
        unfold Hid
        have hnl := HNL.out
        refine wp_append_u16 rfl (.tmp 16) (.tmp 18) rfl w.heap.size (.slice A2 us.length c2) us.length us rfl rfl HW4.out _ _ (Pure.unit16 n) rfl HR4.out (by omega) HB4.out.size ?_
        intro v5 w5 hown5 hg5 hat5
        have HB5 := Lib.hid (show Below w.heap.size w w5 from HB4.out.grown hg5 HB4.out.size (fun k hk => ownsRow_ge HW4.out k hk))
        have HIT5 := Lib.hid ((hg5.block _ (Array.getElem?_eq_some_iff.1 HIT4.out).1 (fun h => iter_apart HIT4.out HW4.out h.symm)).trans HIT4.out)
        obtain ⟨A5, c5, rfl⟩ := own_form hown5
        obtain ⟨vs, hvs⟩ : ∃ vs, vs = us ++ Pure.unit16 n := ⟨_, rfl⟩
        rw [← hvs] at hown5 HR2 ⊢
        have hvl : us.length < vs.length ∧ vs.length ≤ us.length + 2 := by rw [hvs, List.length_append]; omega
        have HO5 := Lib.hid hown5
        clear hown5 hg5 hat5 hvs HNL hnl HR4 HW4 HIT4 HB4
        by_cases hbig : 256 < vs.length
        · have d0 : decide ((256 : Int) < (vs.length : Int)) = true := decide_eq_true (by omega)
          have hl2 := HLEN.out _ _ HR2.out
          rw [Pure.low_length] at hl2
          have HSEC := Lib.hid (Pure.secret_long HU.out.symm (by omega))
          clear hl2
          go_wp2_with fail
          refine (of_any _ 3 _ (by omega)).mono ?_
          rintro e w6 ⟨v6, rfl, he6, hb6⟩
          have HE6 := Lib.hid he6
          have H6 := Lib.hid (HB5.out.trans (hb6.mono HB5.out.size))
          clear he6 hb6
          go_wp2_with fail
          go_ret2
          refine ⟨_, _, [], rfl, ?_, fun h => ?_, H6.out⟩
          · rw [HSEC.out]; exact HE6.out
          · rw [HSEC.out] at h; cases h
        · have d0 : decide ((256 : Int) < (vs.length : Int)) = false := decide_eq_false (by omega)
          go_wp2_with fail
          go_roundw
          case rel => exact ⟨k + z, vs, by omega, HIT5.out, HO5.out, by omega, HR2.out, HB5.out⟩
          case measure =>
            have e2 : w5.iterPos g = k + z := by simp [World.iterPos, HIT5.out]
            rw [HMU.out, e2]
            omega
      · have hkk : k = l.length := by omega
        subst hkk
        have hnext : ∀ ty, (Instr.next (.pointer (some ⟨g, 0, none⟩)) true ty).run Tryd.prog wr = _ := fun ty => Lib.run_next_end_at wr g s l.length ty HIT.out (by omega)
        have hend := HR.out
        rw [List.drop_length, Pure.unitsFrom_nil] at hend
        injection hend with hend
        have hsec : Pure.secret l = (0, Pure.low us) := by
          rw [Pure.secret_some HU.out.symm (by rw [← hend, Pure.low_length]; omega), hend]
        have HSEC := Lib.hid hsec
        clear hend hsec HR
        go_wp2_with fail
        go_ret2
        refine ⟨_, _, us, rfl, ?_, fun _ => ⟨HW.out, ?_, hus⟩, HK.out⟩
        · rw [HSEC.out]; exact .inl ⟨rfl, rfl⟩
        · rw [HSEC.out]
end Go.Proofs.YtkllaghfiofnjaaDoor
/- Rows of numbers: append, make; rows of bytes that make lays, known whole. -/
namespace Go.Proofs.YtkllaghfiofnjaaDoor
open Go.RowKit
/-- The values of small numbers. -/
abbrev ints (l : List Nat) : List Value := l.map fun (b : Nat) => Value.int .i64 (b : Int)
theorem ints_at (l : List Nat) (j : Nat) (h : j < l.length) : (ints l)[j]? = some (.int .i64 ((l.getD j 0 : Nat) : Int)) := by
  rw [List.getElem?_map, List.getElem?_eq_getElem h, List.getD_eq_getElem?_getD, List.getElem?_eq_getElem h]; rfl
theorem int_info : (Tryd.prog.info? 3).map (fun i => (i.zero, i.size, i.bytes)) = some (some (.int .i64 0), 1, 8) := by kernel_rfl
theorem ints_cells (l : List Nat) : ∀ u ∈ ints l, u.oneCell' = true := by
  intro u hu
  obtain ⟨b, _, rfl⟩ := List.mem_map.1 hu
  rfl
/-- Numbers that were just made. -/
theorem irow_new (w : World) (l : List Nat) (cs : Array Value) (n : Nat) (hc : cs = (ints l).toArray) (hn : n = l.length) (hl : l.length ≤ 100000) : Row (w.alloc (.cells cs 3)) (fun b => b = w.heap.size) 1 (.slice (some ⟨w.heap.size, 0, none⟩) n n) l.length (ints l) := by
  subst hc hn
  exact Row.block (Blk.new w 3 (ints l).toArray) rfl (by simp) (by unfold maxLen; omega) (Nat.le_refl _)
theorem cell_alloc {w : World} {o : Obj} {a : Addr} {v : Value} (h : w.cell? a = some v) : (w.alloc o).cell? a = some v :=
  (World.cell?_alloc_lt w o a (by rcases Nat.lt_or_ge a.block w.heap.size with hl | hg; exact hl; simp [World.cell?, Array.getElem?_eq_none hg] at h)).trans h
theorem take_snoc {α : Type} (l : List α) (d : α) (k : Nat) (h : k < l.length) : l.take (k + 1) = l.take k ++ [l.getD k d] := by
  rw [List.getD_eq_getElem?_getD, List.getElem?_eq_getElem h]
  exact (List.take_append_getElem h).symm
section
variable {w : World} {ops : Array Oper} {rest : List Oper} {o : Oper} {a : Act} {Q : Exit → Act → World → Prop}
theorem wp_append_int (hgd : o.guard = none) (s x : Operand) (ho : o.op = .call { callee := .builtin .append, args := #[s, x], argTypes := #[86, 86] })
    (base : Nat) (v : Value) (n : Nat) (l : List Nat) (hn : l.length = n) (hs : a.eval s = v) (hown : w.ownsRow base 3 1 v n (ints l))
    (F : Nat → Prop) (y : Value) (m : List Nat) (hx : a.eval x = y) (hr : Row w F 1 y m.length (ints m)) (hlen : n + m.length ≤ 17592186044416) (hbase : base ≤ w.heap.size)
    (h : ∀ v' w', w'.ownsRow base 3 1 v' (l ++ m).length (ints (l ++ m)) → w.grownBy w' v.ownBlock → (v'.ownBlock = v.ownBlock ∨ v'.ownBlock = some w.heap.size) → wpList Tryd.prog ops Q rest (a.put o.dst v') w') :
    wpList Tryd.prog ops Q (o :: rest) a w := by
  obtain ⟨i0, hi0, hz0, hz1, hz2⟩ := info_parts int_info
  subst hn
  refine wpList_append_row hgd s x _ ho base 3 i0 _ 1 8 Tryd.underlying86 hi0 hz0 hz1 hz2 rfl (by omega) v _ (ints l) hs hown F y m.length (ints m) hx hr (ints_cells m) (by simp only [maxLen]; omega) (by omega) hbase ?_
  intro v' w' h1 h2 h3
  refine h v' w' ?_ h2 h3
  rw [List.length_append]
  simpa using h1
theorem wpo_append_int {K : Act → World → Prop} (s x : Operand) (ho : o.op = .call { callee := .builtin .append, args := #[s, x], argTypes := #[86, 86] })
    (base : Nat) (v : Value) (n : Nat) (l : List Nat) (hn : l.length = n) (hs : a.eval s = v) (hown : w.ownsRow base 3 1 v n (ints l))
    (F : Nat → Prop) (y : Value) (m : List Nat) (hx : a.eval x = y) (hr : Row w F 1 y m.length (ints m)) (hlen : n + m.length ≤ 17592186044416) (hbase : base ≤ w.heap.size)
    (h : ∀ v' w', w'.ownsRow base 3 1 v' (l ++ m).length (ints (l ++ m)) → w.grownBy w' v.ownBlock → (v'.ownBlock = v.ownBlock ∨ v'.ownBlock = some w.heap.size) → K (a.put o.dst v') w') :
    o.wp Tryd.prog a w K Q := by
  obtain ⟨i0, hi0, hz0, hz1, hz2⟩ := info_parts int_info
  subst hn
  refine wp_append_row s x _ ho base 3 i0 _ 1 8 Tryd.underlying86 hi0 hz0 hz1 hz2 rfl (by omega) v _ (ints l) hs hown F y m.length (ints m) hx hr (ints_cells m) (by simp only [maxLen]; omega) (by omega) hbase ?_
  intro v' w' h1 h2 h3
  refine h v' w' ?_ h2 h3
  rw [List.length_append]
  simpa using h1
theorem made_ints (n : Nat) : madeCells (Value.int .i64 0).cells (n * 1) = (ints (List.replicate n 0)).toArray := by
  rw [show (Value.int .i64 0).cells = #[.int .i64 0] from rfl]
  apply Array.ext_getElem?
  intro i
  simp only [madeCells, Nat.mul_one]
  by_cases h : i < n
  · simp [h, Nat.mod_one]
  · simp [h]
theorem made_bytes (n : Nat) : madeCells (Value.int .u8 0).cells (n * 1) = (u8s (List.replicate n 0)).toArray := by
  rw [show (Value.int .u8 0).cells = #[.int .u8 0] from rfl]
  apply Array.ext_getElem?
  intro i
  simp only [madeCells, Nat.mul_one]
  by_cases h : i < n
  · simp [h, Nat.mod_one]
  · simp [h]
theorem wpList_make_ints (hg : o.guard = none) (l c : Operand) (hop : o.op = Op.makeSlice 86 l c) (n : Nat) (kl kc : IntKind) (hl : a.eval l = .int kl (n : Int)) (hc : a.eval c = .int kc (n : Int)) (hn : n ≤ 1000000)
    (hK : ∀ w', Blk w' w.heap.size 3 (ints (List.replicate n 0)).toArray → Keeps nobody w w' → w'.heap.size = w.heap.size + 1 → wpList Tryd.prog ops Q rest (a.put o.dst (.slice (some ⟨w.heap.size, 0, none⟩) n n)) w') :
    wpList Tryd.prog ops Q (o :: rest) a w := by
  obtain ⟨i0, hi0, hz0, hz1, hz2⟩ := info_parts int_info
  refine wpList_plain hg fun K hK' => ?_
  have hrun := run_make (P := Tryd.prog) w 86 3 i0 _ Tryd.underlying86 hi0 hz0 kl kc n n (by omega) (by omega) (by rw [hz2]; omega) (by omega)
  rw [hz1, Int.toNat_natCast, made_ints] at hrun
  obtain ⟨w', hw'⟩ : ∃ w', w' = w.alloc (.cells (ints (List.replicate n 0)).toArray 3) := ⟨_, rfl⟩
  rw [← hw'] at hrun
  unfold Oper.wp
  simp [execOp, hop, hl, hc, hrun, Result.andThen]
  exact hK' _ _ (hK w' (by rw [hw']; exact Blk.new w _ _) (by rw [hw']; exact (Keeps.refl _ w).alloc _) (by rw [hw']; simp))
theorem wpList_make_u8 (hg : o.guard = none) (l c : Operand) (hop : o.op = Op.makeSlice 25 l c) (n : Nat) (kl kc : IntKind) (hl : a.eval l = .int kl (n : Int)) (hc : a.eval c = .int kc (n : Int)) (hn : n ≤ 1000000)
    (hK : ∀ w', Blk w' w.heap.size 5 (u8s (List.replicate n 0)).toArray → Keeps nobody w w' → w'.heap.size = w.heap.size + 1 → wpList Tryd.prog ops Q rest (a.put o.dst (.slice (some ⟨w.heap.size, 0, none⟩) n n)) w') :
    wpList Tryd.prog ops Q (o :: rest) a w := by
  obtain ⟨i0, hi0, hz0, hz1, hz2⟩ := info_parts u8_info
  refine wpList_plain hg fun K hK' => ?_
  have hrun := run_make (P := Tryd.prog) w 25 5 i0 _ Tryd.underlying25 hi0 hz0 kl kc n n (by omega) (by omega) (by rw [hz2]; omega) (by omega)
  rw [hz1, Int.toNat_natCast, made_bytes] at hrun
  obtain ⟨w', hw'⟩ : ∃ w', w' = w.alloc (.cells (u8s (List.replicate n 0)).toArray 5) := ⟨_, rfl⟩
  rw [← hw'] at hrun
  unfold Oper.wp
  simp [execOp, hop, hl, hc, hrun, Result.andThen]
  exact hK' _ _ (hK w' (by rw [hw']; exact Blk.new w _ _) (by rw [hw']; exact (Keeps.refl _ w).alloc _) (by rw [hw']; simp))
end
end Go.Proofs.YtkllaghfiofnjaaDoor
