/- append to own rows of bytes; rows of bytes that were just made. -/
import Derived.Test.YtmgicbckgpdkcaaGreatDoorL1
namespace Go.Proofs.YtmgicbckgpdkcaaGreatDoor
open Go.RowKit
theorem y1f (w : World) (l : List UInt8) (cs : Array Value) (n : Nat) (hc : cs = (u8s l).toArray) (hn : n = l.length) (hl : l.length ≤ 100000) : Row (w.alloc (.cells cs 5)) (fun b => b = w.heap.size) 1 (.slice (some ⟨w.heap.size, 0, none⟩) n n) l.length (u8s l) := by
 subst hc hn
 exact Row.block (Blk.new w 5 (u8s l).toArray) rfl (by simp) (by unfold maxLen; omega) (Nat.le_refl _)
section
variable {w : World} {ops : Array Oper} {rest : List Oper} {o : Oper} {a : Act} {Q : Exit → Act → World → Prop}
theorem y0n (hgd : o.guard = none) (s x : Operand) (ho : o.op = .call { callee := .builtin .append, args := #[s, x], argTypes := #[29, 29] })
  (base : Nat) (v : Value) (n : Nat) (l : List UInt8) (hn : l.length = n) (hs : a.eval s = v) (hown : w.ownsRow base 5 1 v n (u8s l))
  (F : Nat → Prop) (y : Value) (m : List UInt8) (hx : a.eval x = y) (hr : Row w F 1 y m.length (u8s m)) (hlen : n + m.length ≤ 140737488355328) (hbase : base ≤ w.heap.size)
  (h : ∀ v' w', w'.ownsRow base 5 1 v' (l ++ m).length (u8s (l ++ m)) → w.grownBy w' v.ownBlock → (v'.ownBlock = v.ownBlock ∨ v'.ownBlock = some w.heap.size) → wpList Tryz.prog ops Q rest (a.put o.dst v') w') :
  wpList Tryz.prog ops Q (o :: rest) a w := by
 obtain ⟨i0, hi0, hz0, hz1, hz2⟩ := info_parts y1w
 subst hn
 refine y0r hgd s x _ ho base 5 i0 _ 1 1 Tryz.underlying29 hi0 hz0 hz1 hz2 rfl (by omega) v _ (u8s l) hs hown F y m.length (u8s m) hx hr (y2r m) (by simp only [maxLen]; omega) (by omega) hbase ?_
 intro v' w' h1 h2 h3
 refine h v' w' ?_ h2 h3
 rw [List.length_append]
 simpa using h1
end
theorem Row.strong {w : World} {F : Nat → Prop} {v : Value} {n : Nat} {xs : List Value} (h : Row w F 1 v n xs) : Row w (fun b => F b ∧ b < w.heap.size) 1 v n xs := by
 obtain ⟨h1, h0, A, c, h2, h3, h4, h5⟩ := h
 refine ⟨h1, h0, A, c, h2, h3, h4, fun hn => ?_⟩
 obtain ⟨b, off, e, f, g⟩ := h5 hn
 refine ⟨b, off, e, ⟨f, ?_⟩, g⟩
 exact y0l (g 0 xs[0] (List.getElem?_eq_getElem (by omega)))
theorem Row.one {w : World} {F : Nat → Prop} {v : Value} {n : Nat} {xs : List Value} (h : Row w F 1 v n xs) : v.oneCell' = true := by
 obtain ⟨_, _, A, c, rfl, _⟩ := h
 rfl
theorem y0z {w w' : World} {base : Nat} {e : TypeId} {size : Nat} {v : Value} {n : Nat} {xs : List Value} {row : Option Nat} (h : w.ownsRow base e size v n xs) (hg : w.grownBy w' row) (hr : ∀ b, v.ownBlock = some b → row ≠ some b) : w'.ownsRow base e size v n xs :=
 y0g h ((Keeps.refl (fun b => row = some b) w).grown hg (fun _ e _ => e)) (fun b hb e => hr b hb e)
namespace Pure
def follows (s : List UInt8) (k : Nat) : Bool := decide (k < s.length) && (s.getD k 0).toNat / 64 == 2
def six (s : List UInt8) (k : Nat) : Nat := (s.getD k 0).toNat % 64
def letter (s : List UInt8) : Nat × Nat :=
 let b := (s.getD 0 0).toNat
 if b < 128 then (b, 1)
 else if 194 ≤ b ∧ b ≤ 223 then
  if follows s 1 then (b % 32 * 64 + six s 1, 2) else (0, 0)
 else if 224 ≤ b ∧ b ≤ 239 then
  if follows s 1 && follows s 2 then
   if 2048 ≤ b % 16 * 4096 + six s 1 * 64 + six s 2 ∧ ¬ (55296 ≤ b % 16 * 4096 + six s 1 * 64 + six s 2 ∧ b % 16 * 4096 + six s 1 * 64 + six s 2 ≤ 57343) then (b % 16 * 4096 + six s 1 * 64 + six s 2, 3) else (0, 0)
  else (0, 0)
 else if 240 ≤ b ∧ b ≤ 244 then
  if follows s 1 && follows s 2 && follows s 3 then
   if 65536 ≤ b % 8 * 262144 + six s 1 * 4096 + six s 2 * 64 + six s 3 ∧ b % 8 * 262144 + six s 1 * 4096 + six s 2 * 64 + six s 3 ≤ 1114111 then (b % 8 * 262144 + six s 1 * 4096 + six s 2 * 64 + six s 3, 4) else (0, 0)
  else (0, 0)
 else (0, 0)
def head (b : Nat) : Nat × Nat := if 194 ≤ b ∧ b ≤ 223 then (2, b % 32) else if 224 ≤ b ∧ b ≤ 239 then (3, b % 16) else if 240 ≤ b ∧ b ≤ 244 then (4, b % 8) else (0, 0)
def sum6 (s : List UInt8) (x : Nat) : Nat → Nat
 | 0 => x
 | k + 1 => sum6 s x k * 64 + six s (k + 1)
def least (n : Nat) : Nat := if n = 2 then 128 else if n = 3 then 2048 else 65536
theorem y26 (s : List UInt8) (k : Nat) : six s k < 64 := Nat.mod_lt _ (by omega)
theorem y2z {s : List UInt8} {k : Nat} (h : follows s k = true) : k < s.length := by
 unfold follows at h
 simp at h
 exact h.1
theorem letter_size (s : List UInt8) (hs : s ≠ []) : (letter s).2 ≤ s.length ∧ (letter s).2 ≤ 4 := by
 have h0 : 0 < s.length := List.length_pos_iff.2 hs
 unfold letter
 simp only
 split
 ·exact ⟨by simp; omega, by simp⟩
 split
 ·split
  ·rename_i h; have := y2z h; exact ⟨by simp; omega, by simp⟩
  ·simp
 split
 ·split
  ·rename_i h; simp at h; have := y2z h.2; split
   ·exact ⟨by simp; omega, by simp⟩
   ·simp
  ·simp
 split
 ·split
  ·rename_i h; simp at h; have := y2z h.2; split
   ·exact ⟨by simp; omega, by simp⟩
   ·simp
  ·simp
 ·simp
theorem letter_num (s : List UInt8) : (letter s).1 ≤ 1114111 := by
 have h1 := y26 s 1
 have h2 := y26 s 2
 have h3 := y26 s 3
 unfold letter
 simp only
 split
 ·dsimp only; omega
 split
 ·split
  ·dsimp only; omega
  ·simp
 split
 ·split
  ·split
   ·dsimp only; omega
   ·simp
  ·simp
 split
 ·split
  ·split
   ·rename_i h; dsimp only; omega
   ·simp
  ·simp
 ·simp
theorem head_cases (b : Nat) : (head b = (0, 0) ∧ (b < 194 ∨ 244 < b)) ∨ (head b = (2, b % 32) ∧ 194 ≤ b ∧ b ≤ 223) ∨ (head b = (3, b % 16) ∧ 224 ≤ b ∧ b ≤ 239) ∨ (head b = (4, b % 8) ∧ 240 ≤ b ∧ b ≤ 244) := by
 unfold head
 by_cases h1 : 194 ≤ b ∧ b ≤ 223
 ·rw [if_pos h1]; exact Or.inr (Or.inl ⟨rfl, h1⟩)
 by_cases h2 : 224 ≤ b ∧ b ≤ 239
 ·rw [if_neg h1, if_pos h2]; exact Or.inr (Or.inr (Or.inl ⟨rfl, h2⟩))
 by_cases h3 : 240 ≤ b ∧ b ≤ 244
 ·rw [if_neg h1, if_neg h2, if_pos h3]; exact Or.inr (Or.inr (Or.inr ⟨rfl, h3⟩))
 ·rw [if_neg h1, if_neg h2, if_neg h3]; exact Or.inl ⟨rfl, by omega⟩
theorem letter_none (s : List UInt8) (h : 128 ≤ (s.getD 0 0).toNat) (hh : (head (s.getD 0 0).toNat).1 = 0) : letter s = (0, 0) := by
 rcases head_cases (s.getD 0 0).toNat with ⟨e, h1⟩ | ⟨e, h1⟩ | ⟨e, h1⟩ | ⟨e, h1⟩
 ·unfold letter
  simp only
  rw [if_neg (by omega), if_neg (by omega), if_neg (by omega), if_neg (by omega)]
 all_goals rw [e] at hh; simp at hh
theorem letter_bad (s : List UInt8) (_ : 128 ≤ (s.getD 0 0).toNat) (j : Nat) (hj : 1 ≤ j) (hj2 : j < (head (s.getD 0 0).toNat).1) (hf : follows s j = false) : letter s = (0, 0) := by
 rcases head_cases (s.getD 0 0).toNat with ⟨e, h1⟩ | ⟨e, h1⟩ | ⟨e, h1⟩ | ⟨e, h1⟩
 ·rw [e] at hj2; simp at hj2
 ·rw [e] at hj2; simp at hj2
  obtain rfl : j = 1 := by omega
  unfold letter
  simp only
  rw [if_neg (by omega), if_pos h1, hf]; simp
 ·rw [e] at hj2; simp at hj2
  unfold letter
  simp only
  rw [if_neg (by omega), if_neg (by omega), if_pos h1]
  rcases (show j = 1 ∨ j = 2 by omega) with rfl | rfl <;> simp [hf]
 ·rw [e] at hj2; simp at hj2
  unfold letter
  simp only
  rw [if_neg (by omega), if_neg (by omega), if_neg (by omega), if_pos h1]
  rcases (show j = 1 ∨ j = 2 ∨ j = 3 by omega) with rfl | rfl | rfl <;> simp [hf]
theorem letter_good (s : List UInt8) (_ : 128 ≤ (s.getD 0 0).toNat) (n x X : Nat) (hh : head (s.getD 0 0).toNat = (n, x)) (hn : n ≠ 0) (hf : ∀ j, 1 ≤ j → j < n → follows s j = true) (hX : X = sum6 s x (n - 1)) :
  letter s = if least n ≤ X ∧ X ≤ 1114111 ∧ ¬ (55296 ≤ X ∧ X ≤ 57343) then (X, n) else (0, 0) := by
 subst hX
 have s1 := y26 s 1
 have s2 := y26 s 2
 have s3 := y26 s 3
 rcases head_cases (s.getD 0 0).toNat with ⟨e, h1⟩ | ⟨e, h1⟩ | ⟨e, h1⟩ | ⟨e, h1⟩
 ·rw [e] at hh; simp at hh; omega
 ·rw [e] at hh
  obtain ⟨rfl, rfl⟩ : 2 = n ∧ (s.getD 0 0).toNat % 32 = x := by simpa using hh
  have f1 := hf 1 (by omega) (by omega)
  have e1 : sum6 s ((s.getD 0 0).toNat % 32) (2 - 1) = (s.getD 0 0).toNat % 32 * 64 + six s 1 := rfl
  unfold letter
  simp only
  rw [if_neg (by omega), if_pos h1, if_pos f1, e1, if_pos (by unfold least; simp only [if_true]; omega)]
 ·rw [e] at hh
  obtain ⟨rfl, rfl⟩ : 3 = n ∧ (s.getD 0 0).toNat % 16 = x := by simpa using hh
  have f1 := hf 1 (by omega) (by omega)
  have f2 := hf 2 (by omega) (by omega)
  have e1 : sum6 s ((s.getD 0 0).toNat % 16) (3 - 1) = (s.getD 0 0).toNat % 16 * 4096 + six s 1 * 64 + six s 2 := by
   show ((s.getD 0 0).toNat % 16 * 64 + six s 1) * 64 + six s 2 = _
   omega
  have e2 : least 3 = 2048 := rfl
  unfold letter
  simp only
  rw [if_neg (by omega), if_neg (by omega), if_pos h1, f1, f2, e1, e2]
  simp only [Bool.and_self, if_true]
  congr 1
  exact propext ⟨fun ⟨a, b⟩ => ⟨a, by omega, b⟩, fun ⟨a, _, b⟩ => ⟨a, b⟩⟩
 ·rw [e] at hh
  obtain ⟨rfl, rfl⟩ : 4 = n ∧ (s.getD 0 0).toNat % 8 = x := by simpa using hh
  have f1 := hf 1 (by omega) (by omega)
  have f2 := hf 2 (by omega) (by omega)
  have f3 := hf 3 (by omega) (by omega)
  have e1 : sum6 s ((s.getD 0 0).toNat % 8) (4 - 1) = (s.getD 0 0).toNat % 8 * 262144 + six s 1 * 4096 + six s 2 * 64 + six s 3 := by
   show (((s.getD 0 0).toNat % 8 * 64 + six s 1) * 64 + six s 2) * 64 + six s 3 = _
   omega
  have e2 : least 4 = 65536 := rfl
  unfold letter
  simp only
  rw [if_neg (by omega), if_neg (by omega), if_neg (by omega), if_pos h1, f1, f2, f3, e1, e2]
  simp only [Bool.and_self, if_true]
  congr 1
  exact propext ⟨fun ⟨a, b⟩ => ⟨a, b, by omega⟩, fun ⟨a, b, _⟩ => ⟨a, b⟩⟩
theorem sum6_lt (s : List UInt8) (x k : Nat) (hx : x < 32) (hk : k ≤ 3) : sum6 s x k < 8388608 := by
 have s1 := y26 s 1
 have s2 := y26 s 2
 have s3 := y26 s 3
 rcases (show k = 0 ∨ k = 1 ∨ k = 2 ∨ k = 3 by omega) with rfl | rfl | rfl | rfl <;> simp only [sum6, Nat.zero_add, Nat.reduceAdd] <;> omega
def unit (n : Nat) : List UInt8 := [UInt8.ofNat (n % 256), UInt8.ofNat (n / 256 % 256)]
def unitsOf (n : Nat) : List UInt8 := if 65535 < n then unit (55296 + (n - 65536) / 1024) ++ unit (56320 + (n - 65536) % 1024) else unit n
def y1n : Nat → List UInt8 → List UInt8 → Option (List UInt8)
 | 0, _, acc => some acc
 | f + 1, s, acc => if s = [] then some acc else if (letter s).2 = 0 then none else y1n f (s.drop (letter s).2) (acc ++ unitsOf (letter s).1)
theorem y3o : ∀ (f g : Nat) (s acc : List UInt8), s.length ≤ f → s.length ≤ g → y1n f s acc = y1n g s acc
 | 0, 0, _, _, _, _ => rfl
 | 0, g + 1, s, acc, hf, _ => by
  have : s = [] := List.eq_nil_of_length_eq_zero (by omega)
  subst this; simp [y1n]
 | f + 1, 0, s, acc, _, hg => by
  have : s = [] := List.eq_nil_of_length_eq_zero (by omega)
  subst this; simp [y1n]
 | f + 1, g + 1, s, acc, hf, hg => by
  unfold y1n
  split
  ·rfl
  ·split
   ·rfl
   ·exact y3o f g _ _ (by rw [List.length_drop]; omega) (by rw [List.length_drop]; omega)
def unitsFrom (s acc : List UInt8) : Option (List UInt8) := y1n s.length s acc
theorem unitsFrom_nil (acc : List UInt8) : unitsFrom [] acc = some acc := rfl
theorem unitsFrom_bad {s : List UInt8} (acc : List UInt8) (hs : s ≠ []) (h : (letter s).2 = 0) : unitsFrom s acc = none := by
 unfold unitsFrom
 have h0 : 0 < s.length := List.length_pos_iff.2 hs
 obtain ⟨n, hn⟩ : ∃ n, s.length = n + 1 := ⟨s.length - 1, by omega⟩
 rw [hn]
 simp [y1n, hs, h]
theorem unitsFrom_step {s : List UInt8} (acc : List UInt8) (hs : s ≠ []) (h : (letter s).2 ≠ 0) : unitsFrom s acc = unitsFrom (s.drop (letter s).2) (acc ++ unitsOf (letter s).1) := by
 unfold unitsFrom
 have h0 : 0 < s.length := List.length_pos_iff.2 hs
 obtain ⟨n, hn⟩ : ∃ n, s.length = n + 1 := ⟨s.length - 1, by omega⟩
 rw [hn]
 conv => lhs; unfold y1n
 rw [if_neg hs, if_neg h]
 exact y3o _ _ _ _ (by rw [List.length_drop]; omega) (Nat.le_refl _)
def units (s : List UInt8) : Option (List UInt8) := unitsFrom s []
def secret (s : List UInt8) : Nat × List UInt8 := match units s with
 | none => (4, [])
 | some u => if 512 < u.length then (3, []) else (0, u)
theorem secret_none {s : List UInt8} (h : units s = none) : secret s = (4, []) := by unfold secret; rw [h]
theorem secret_long {s u : List UInt8} (h : units s = some u) (hl : 512 < u.length) : secret s = (3, []) := by unfold secret; rw [h]; simp [hl]
theorem secret_some {s u : List UInt8} (h : units s = some u) (hl : ¬ 512 < u.length) : secret s = (0, u) := by unfold secret; rw [h]; simp [hl]
theorem letter_plain (s : List UInt8) (h : (s.getD 0 0).toNat < 128) : letter s = ((s.getD 0 0).toNat, 1) := by
 unfold letter
 simp only
 rw [if_pos h]
end Pure
namespace Pure
def unit16 (n : Nat) : List Nat := if n ≤ 65535 then [n] else [55296 + (n - 65536) / 1024, 56320 + (n - 65536) % 1024]
def low (us : List Nat) : List UInt8 := us.flatMap unit
theorem low_append (a b : List Nat) : low (a ++ b) = low a ++ low b := List.flatMap_append
theorem low_length (us : List Nat) : (low us).length = 2 * us.length := by
 induction us with
 | nil => rfl
 | cons a us ih =>
  have : low (a :: us) = unit a ++ low us := rfl
  rw [this, List.length_append, ih, show (unit a).length = 2 from rfl, List.length_cons]
  omega
theorem low_unit16 (n : Nat) : low (unit16 n) = unitsOf n := by
 unfold unit16 unitsOf low
 by_cases h : n ≤ 65535
 ·rw [if_pos h, if_neg (by omega)]; simp
 ·rw [if_neg h, if_pos (by omega)]; simp
theorem unit16_length (n : Nat) : 1 ≤ (unit16 n).length ∧ (unit16 n).length ≤ 2 := by unfold unit16; split <;> simp
theorem unitsFrom_length : ∀ (k : Nat) (s acc u : List UInt8), s.length ≤ k → unitsFrom s acc = some u → acc.length ≤ u.length
 | 0, s, acc, u, hk, h => by
  have : s = [] := List.eq_nil_of_length_eq_zero (by omega)
  subst this
  rw [unitsFrom_nil] at h
  injection h with h
  rw [h]; exact Nat.le_refl _
 | k + 1, s, acc, u, hk, h => by
  by_cases hs : s = []
  ·subst hs
   rw [unitsFrom_nil] at h
   injection h with h
   rw [h]; exact Nat.le_refl _
  ·by_cases hz : (letter s).2 = 0
   ·rw [unitsFrom_bad acc hs hz] at h; cases h
   ·rw [unitsFrom_step acc hs hz] at h
    have h0 : 0 < s.length := List.length_pos_iff.2 hs
    have := unitsFrom_length k _ _ _ (by rw [List.length_drop]; omega) h
    rw [List.length_append] at this
    omega
end Pure
abbrev u16s (l : List Nat) : List Value := l.map fun (b : Nat) => Value.int .u16 (b : Int)
theorem u16_info : (Tryz.prog.info? 100).map (fun i => (i.zero, i.size, i.bytes)) = some (some (.int .u16 0), 1, 2) := by kernel_rfl
theorem u16s_cells (l : List Nat) : ∀ u ∈ u16s l, u.oneCell' = true := by
 intro u hu
 obtain ⟨b, _, rfl⟩ := List.mem_map.1 hu
 rfl
theorem u16s_at (l : List Nat) (j : Nat) (h : j < l.length) : (u16s l)[j]? = some (.int .u16 ((l.getD j 0 : Nat) : Int)) := by
 rw [List.getElem?_map, List.getElem?_eq_getElem h, List.getD_eq_getElem?_getD, List.getElem?_eq_getElem h]; rfl
theorem y54 (w : World) (l : List Nat) (cs : Array Value) (n : Nat) (hc : cs = (u16s l).toArray) (hn : n = l.length) (hl : l.length ≤ 100000) : Row (w.alloc (.cells cs 100)) (fun b => b = w.heap.size) 1 (.slice (some ⟨w.heap.size, 0, none⟩) n n) l.length (u16s l) := by
 subst hc hn
 exact Row.block (Blk.new w 100 (u16s l).toArray) rfl (by simp) (by unfold maxLen; omega) (Nat.le_refl _)
section
variable {w : World} {ops : Array Oper} {rest : List Oper} {o : Oper} {a : Act} {Q : Exit → Act → World → Prop}
theorem y7j (hgd : o.guard = none) (s x : Operand) (ho : o.op = .call { callee := .builtin .append, args := #[s, x], argTypes := #[199, 199] })
  (base : Nat) (v : Value) (n : Nat) (l : List Nat) (hn : l.length = n) (hs : a.eval s = v) (hown : w.ownsRow base 100 1 v n (u16s l))
  (F : Nat → Prop) (y : Value) (m : List Nat) (hx : a.eval x = y) (hr : Row w F 1 y m.length (u16s m)) (hlen : n + m.length ≤ 17592186044416) (hbase : base ≤ w.heap.size)
  (h : ∀ v' w', w'.ownsRow base 100 1 v' (l ++ m).length (u16s (l ++ m)) → w.grownBy w' v.ownBlock → (v'.ownBlock = v.ownBlock ∨ v'.ownBlock = some w.heap.size) → wpList Tryz.prog ops Q rest (a.put o.dst v') w') :
  wpList Tryz.prog ops Q (o :: rest) a w := by
 obtain ⟨i0, hi0, hz0, hz1, hz2⟩ := info_parts u16_info
 subst hn
 refine y0r hgd s x _ ho base 100 i0 _ 1 2 Tryz.underlying199 hi0 hz0 hz1 hz2 rfl (by omega) v _ (u16s l) hs hown F y m.length (u16s m) hx hr (u16s_cells m) (by simp only [maxLen]; omega) (by omega) hbase ?_
 intro v' w' h1 h2 h3
 refine h v' w' ?_ h2 h3
 rw [List.length_append]
 simpa using h1
end
theorem y6g (n : Nat) (hn : n ≤ 1114111) (w : World) : Calls Tryz.prog 181 #[.int .i32 (n : Int)] w fun e w' => ∃ v, e = .returned v ∧ Row w' (fun b => b = w.heap.size) 1 v (Pure.unit16 n).length (u16s (Pure.unit16 n)) ∧ Below w.heap.size w w' := by
 by_cases h : n ≤ 65535
 ·have e1 : Pure.unit16 n = [n] := by unfold Pure.unit16; rw [if_pos h]
  rw [e1]
  have d : decide ((n : Int) ≤ 65535) = true := decide_eq_true (by omega)
  have r := y54 w [n] _ 1 rfl rfl (by simp)
  have R := Lib.hid r
  clear r e1
  go_enter Tryz.func181, Tryz.ntmps181
  go_wp2
  go_ret
  exact ⟨_, rfl, R.out, (Below.refl _ _).alloc (Nat.le_refl _) _⟩
 ·obtain ⟨m, hm⟩ : ∃ m, m = n - 65536 := ⟨_, rfl⟩
  obtain ⟨p, hp⟩ : ∃ p, p = 55296 + m / 1024 := ⟨_, rfl⟩
  obtain ⟨q, hq⟩ : ∃ q, q = 56320 + m % 1024 := ⟨_, rfl⟩
  have e1 : Pure.unit16 n = [p, q] := by unfold Pure.unit16; rw [if_neg h, ← hm, ← hp, ← hq]
  rw [e1]
  have d : decide ((n : Int) ≤ 65535) = false := decide_eq_false (by omega)
  have em : (n : Int) - 65536 = (m : Int) := by omega
  have ep : 55296 + (m : Int) / 1024 = (p : Int) := by omega
  have etm : (m : Int).tmod 1024 = (m : Int) % 1024 := Int.tmod_eq_emod_of_nonneg (by omega)
  have eq' : 56320 + (m : Int) % 1024 = (q : Int) := by omega
  have hp2 : p < 65536 := by omega
  have hq2 : q < 65536 := by omega
  have r := y54 w [p, q] _ 2 rfl rfl (by simp)
  have R := Lib.hid r
  clear r e1 hp hq hm h
  go_enter Tryz.func181, Tryz.ntmps181
  go_wp2
  go_ret
  exact ⟨_, rfl, R.out, (Below.refl _ _).alloc (Nat.le_refl _) _⟩
end Go.Proofs.YtmgicbckgpdkcaaGreatDoor
