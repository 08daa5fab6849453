/- append to own rows of bytes; rows of bytes that were just made. -/
import Derived.Test.YtmgicbckgpdkcaaGreatDoorK1
namespace Go.Proofs.YtmgicbckgpdkcaaGreatDoor
open Go.RowKit
theorem y2f (w : World) (l : List UInt8) (cs : Array Value) (n : Nat) (hc : cs = (u8s l).toArray) (hn : n = l.length) (hl : l.length ≤ 100000) : Row (w.alloc (.cells cs 5)) (fun b => b = w.heap.size) 1 (.slice (some ⟨w.heap.size, 0, none⟩) n n) l.length (u8s l) := by
 subst hc hn
 exact Row.block (Blk.new w 5 (u8s l).toArray) rfl (by simp) (by unfold maxLen; omega) (Nat.le_refl _)
section
variable {w : World} {ops : Array Oper} {rest : List Oper} {o : Oper} {a : Act} {Q : Exit → Act → World → Prop}
theorem y0w (hgd : o.guard = none) (s x : Operand) (ho : o.op = .call { callee := .builtin .append, args := #[s, x], argTypes := #[29, 29] })
  (base : Nat) (v : Value) (n : Nat) (l : List UInt8) (hn : l.length = n) (hs : a.eval s = v) (hown : w.ownsRow base 5 1 v n (u8s l))
  (F : Nat → Prop) (y : Value) (m : List UInt8) (hx : a.eval x = y) (hr : Row w F 1 y m.length (u8s m)) (hlen : n + m.length ≤ 140737488355328) (hbase : base ≤ w.heap.size)
  (h : ∀ v' w', w'.ownsRow base 5 1 v' (l ++ m).length (u8s (l ++ m)) → w.grownBy w' v.ownBlock → (v'.ownBlock = v.ownBlock ∨ v'.ownBlock = some w.heap.size) → wpList Tryz.prog ops Q rest (a.put o.dst v') w') :
  wpList Tryz.prog ops Q (o :: rest) a w := by
 obtain ⟨i0, hi0, hz0, hz1, hz2⟩ := info_parts y1q
 subst hn
 refine y0n hgd s x _ ho base 5 i0 _ 1 1 Tryz.underlying29 hi0 hz0 hz1 hz2 rfl (by omega) v _ (u8s l) hs hown F y m.length (u8s m) hx hr (y2p m) (by simp only [maxLen]; omega) (by omega) hbase ?_
 intro v' w' h1 h2 h3
 refine h v' w' ?_ h2 h3
 rw [List.length_append]
 simpa using h1
end
theorem Row.strong {w : World} {F : Nat → Prop} {v : Value} {n : Nat} {xs : List Value} (h : Row w F 1 v n xs) : Row w (fun b => F b ∧ b < w.heap.size) 1 v n xs := by
 obtain ⟨h1, h0, A, c, h2, h3, h4, h5⟩ := h
 refine ⟨h1, h0, A, c, h2, h3, h4, fun hn => ?_⟩
 obtain ⟨b, off, e, f, g⟩ := h5 hn
 refine ⟨b, off, e, ⟨f, ?_⟩, g⟩
 exact y0m (g 0 xs[0] (List.getElem?_eq_getElem (by omega)))
theorem Row.one {w : World} {F : Nat → Prop} {v : Value} {n : Nat} {xs : List Value} (h : Row w F 1 v n xs) : v.oneCell' = true := by
 obtain ⟨_, _, A, c, rfl, _⟩ := h
 rfl
theorem y29 {w w' : World} {base : Nat} {e : TypeId} {size : Nat} {v : Value} {n : Nat} {xs : List Value} {row : Option Nat} (h : w.ownsRow base e size v n xs) (hg : w.grownBy w' row) (hr : ∀ b, v.ownBlock = some b → row ≠ some b) : w'.ownsRow base e size v n xs :=
 y0f h ((Keeps.refl (fun b => row = some b) w).grown hg (fun _ e _ => e)) (fun b hb e => hr b hb e)
namespace Pure
def follows (s : List UInt8) (k : Nat) : Bool := decide (k < s.length) && (s.getD k 0).toNat / 64 == 2
def six (s : List UInt8) (k : Nat) : Nat := (s.getD k 0).toNat % 64
def letter (s : List UInt8) : Nat × Nat :=
 let b := (s.getD 0 0).toNat
 if b < 128 then (b, 1)
 else if 194 ≤ b ∧ b ≤ 223 then
  if follows s 1 then (b % 32 * 64 + six s 1, 2) else (0, 0)
 else if 224 ≤ b ∧ b ≤ 239 then
  if follows s 1 && follows s 2 then
   if 2048 ≤ b % 16 * 4096 + six s 1 * 64 + six s 2 ∧ ¬ (55296 ≤ b % 16 * 4096 + six s 1 * 64 + six s 2 ∧ b % 16 * 4096 + six s 1 * 64 + six s 2 ≤ 57343) then (b % 16 * 4096 + six s 1 * 64 + six s 2, 3) else (0, 0)
  else (0, 0)
 else if 240 ≤ b ∧ b ≤ 244 then
  if follows s 1 && follows s 2 && follows s 3 then
   if 65536 ≤ b % 8 * 262144 + six s 1 * 4096 + six s 2 * 64 + six s 3 ∧ b % 8 * 262144 + six s 1 * 4096 + six s 2 * 64 + six s 3 ≤ 1114111 then (b % 8 * 262144 + six s 1 * 4096 + six s 2 * 64 + six s 3, 4) else (0, 0)
  else (0, 0)
 else (0, 0)
def head (b : Nat) : Nat × Nat := if 194 ≤ b ∧ b ≤ 223 then (2, b % 32) else if 224 ≤ b ∧ b ≤ 239 then (3, b % 16) else if 240 ≤ b ∧ b ≤ 244 then (4, b % 8) else (0, 0)
theorem six_lt (s : List UInt8) (k : Nat) : six s k < 64 := Nat.mod_lt _ (by omega)
theorem y2y {s : List UInt8} {k : Nat} (h : follows s k = true) : k < s.length := by
 unfold follows at h
 simp at h
 exact h.1
theorem letter_size (s : List UInt8) (hs : s ≠ []) : (letter s).2 ≤ s.length ∧ (letter s).2 ≤ 4 := by
 have h0 : 0 < s.length := List.length_pos_iff.2 hs
 unfold letter
 simp only
 split
 ·exact ⟨by simp; omega, by simp⟩
 split
 ·split
  ·rename_i h; have := y2y h; exact ⟨by simp; omega, by simp⟩
  ·simp
 split
 ·split
  ·rename_i h; simp at h; have := y2y h.2; split
   ·exact ⟨by simp; omega, by simp⟩
   ·simp
  ·simp
 split
 ·split
  ·rename_i h; simp at h; have := y2y h.2; split
   ·exact ⟨by simp; omega, by simp⟩
   ·simp
  ·simp
 ·simp
theorem letter_num (s : List UInt8) : (letter s).1 ≤ 1114111 := by
 have h1 := six_lt s 1
 have h2 := six_lt s 2
 have h3 := six_lt s 3
 unfold letter
 simp only
 split
 ·dsimp only; omega
 split
 ·split
  ·dsimp only; omega
  ·simp
 split
 ·split
  ·split
   ·dsimp only; omega
   ·simp
  ·simp
 split
 ·split
  ·split
   ·rename_i h; dsimp only; omega
   ·simp
  ·simp
 ·simp
def unit (n : Nat) : List UInt8 := [UInt8.ofNat (n % 256), UInt8.ofNat (n / 256 % 256)]
def y3y (n : Nat) : List UInt8 := if 65535 < n then unit (55296 + (n - 65536) / 1024) ++ unit (56320 + (n - 65536) % 1024) else unit n
def y1f : Nat → List UInt8 → List UInt8 → Option (List UInt8)
 | 0, _, acc => some acc
 | f + 1, s, acc => if s = [] then some acc else if (letter s).2 = 0 then none else y1f f (s.drop (letter s).2) (acc ++ y3y (letter s).1)
theorem y3p : ∀ (f g : Nat) (s acc : List UInt8), s.length ≤ f → s.length ≤ g → y1f f s acc = y1f g s acc
 | 0, 0, _, _, _, _ => rfl
 | 0, g + 1, s, acc, hf, _ => by
  have : s = [] := List.eq_nil_of_length_eq_zero (by omega)
  subst this; simp [y1f]
 | f + 1, 0, s, acc, _, hg => by
  have : s = [] := List.eq_nil_of_length_eq_zero (by omega)
  subst this; simp [y1f]
 | f + 1, g + 1, s, acc, hf, hg => by
  unfold y1f
  split
  ·rfl
  ·split
   ·rfl
   ·exact y3p f g _ _ (by rw [List.length_drop]; omega) (by rw [List.length_drop]; omega)
def unitsFrom (s acc : List UInt8) : Option (List UInt8) := y1f s.length s acc
theorem unitsFrom_nil (acc : List UInt8) : unitsFrom [] acc = some acc := rfl
theorem unitsFrom_bad {s : List UInt8} (acc : List UInt8) (hs : s ≠ []) (h : (letter s).2 = 0) : unitsFrom s acc = none := by
 unfold unitsFrom
 have h0 : 0 < s.length := List.length_pos_iff.2 hs
 obtain ⟨n, hn⟩ : ∃ n, s.length = n + 1 := ⟨s.length - 1, by omega⟩
 rw [hn]
 simp [y1f, hs, h]
theorem unitsFrom_step {s : List UInt8} (acc : List UInt8) (hs : s ≠ []) (h : (letter s).2 ≠ 0) : unitsFrom s acc = unitsFrom (s.drop (letter s).2) (acc ++ y3y (letter s).1) := by
 unfold unitsFrom
 have h0 : 0 < s.length := List.length_pos_iff.2 hs
 obtain ⟨n, hn⟩ : ∃ n, s.length = n + 1 := ⟨s.length - 1, by omega⟩
 rw [hn]
 conv => lhs; unfold y1f
 rw [if_neg hs, if_neg h]
 exact y3p _ _ _ _ (by rw [List.length_drop]; omega) (Nat.le_refl _)
def units (s : List UInt8) : Option (List UInt8) := unitsFrom s []
def secret (s : List UInt8) : Nat × List UInt8 := match units s with
 | none => (4, [])
 | some u => if 512 < u.length then (3, []) else (0, u)
theorem secret_none {s : List UInt8} (h : units s = none) : secret s = (4, []) := by unfold secret; rw [h]
theorem secret_long {s u : List UInt8} (h : units s = some u) (hl : 512 < u.length) : secret s = (3, []) := by unfold secret; rw [h]; simp [hl]
theorem secret_some {s u : List UInt8} (h : units s = some u) (hl : ¬ 512 < u.length) : secret s = (0, u) := by unfold secret; rw [h]; simp [hl]
end Pure
namespace Pure
def unit16 (n : Nat) : List Nat := if n ≤ 65535 then [n] else [55296 + (n - 65536) / 1024, 56320 + (n - 65536) % 1024]
def low (us : List Nat) : List UInt8 := us.flatMap unit
theorem low_append (a b : List Nat) : low (a ++ b) = low a ++ low b := List.flatMap_append
theorem low_length (us : List Nat) : (low us).length = 2 * us.length := by
 induction us with
 | nil => rfl
 | cons a us ih =>
  have : low (a :: us) = unit a ++ low us := rfl
  rw [this, List.length_append, ih, show (unit a).length = 2 from rfl, List.length_cons]
  omega
theorem low_unit16 (n : Nat) : low (unit16 n) = y3y n := by
 unfold unit16 y3y low
 by_cases h : n ≤ 65535
 ·rw [if_pos h, if_neg (by omega)]; simp
 ·rw [if_neg h, if_pos (by omega)]; simp
theorem unit16_length (n : Nat) : 1 ≤ (unit16 n).length ∧ (unit16 n).length ≤ 2 := by unfold unit16; split <;> simp
theorem unitsFrom_length : ∀ (k : Nat) (s acc u : List UInt8), s.length ≤ k → unitsFrom s acc = some u → acc.length ≤ u.length
 | 0, s, acc, u, hk, h => by
  have : s = [] := List.eq_nil_of_length_eq_zero (by omega)
  subst this
  rw [unitsFrom_nil] at h
  injection h with h
  rw [h]; exact Nat.le_refl _
 | k + 1, s, acc, u, hk, h => by
  by_cases hs : s = []
  ·subst hs
   rw [unitsFrom_nil] at h
   injection h with h
   rw [h]; exact Nat.le_refl _
  ·by_cases hz : (letter s).2 = 0
   ·rw [unitsFrom_bad acc hs hz] at h; cases h
   ·rw [unitsFrom_step acc hs hz] at h
    have h0 : 0 < s.length := List.length_pos_iff.2 hs
    have := unitsFrom_length k _ _ _ (by rw [List.length_drop]; omega) h
    rw [List.length_append] at this
    omega
end Pure
abbrev u16s (l : List Nat) : List Value := l.map fun (b : Nat) => Value.int .u16 (b : Int)
theorem u16_info : (Tryz.prog.info? 100).map (fun i => (i.zero, i.size, i.bytes)) = some (some (.int .u16 0), 1, 2) := by kernel_rfl
theorem u16s_cells (l : List Nat) : ∀ u ∈ u16s l, u.oneCell' = true := by
 intro u hu
 obtain ⟨b, _, rfl⟩ := List.mem_map.1 hu
 rfl
theorem u16s_at (l : List Nat) (j : Nat) (h : j < l.length) : (u16s l)[j]? = some (.int .u16 ((l.getD j 0 : Nat) : Int)) := by
 rw [List.getElem?_map, List.getElem?_eq_getElem h, List.getD_eq_getElem?_getD, List.getElem?_eq_getElem h]; rfl
theorem y57 (w : World) (l : List Nat) (cs : Array Value) (n : Nat) (hc : cs = (u16s l).toArray) (hn : n = l.length) (hl : l.length ≤ 100000) : Row (w.alloc (.cells cs 100)) (fun b => b = w.heap.size) 1 (.slice (some ⟨w.heap.size, 0, none⟩) n n) l.length (u16s l) := by
 subst hc hn
 exact Row.block (Blk.new w 100 (u16s l).toArray) rfl (by simp) (by unfold maxLen; omega) (Nat.le_refl _)
section
variable {w : World} {ops : Array Oper} {rest : List Oper} {o : Oper} {a : Act} {Q : Exit → Act → World → Prop}
theorem y7o (hgd : o.guard = none) (s x : Operand) (ho : o.op = .call { callee := .builtin .append, args := #[s, x], argTypes := #[199, 199] })
  (base : Nat) (v : Value) (n : Nat) (l : List Nat) (hn : l.length = n) (hs : a.eval s = v) (hown : w.ownsRow base 100 1 v n (u16s l))
  (F : Nat → Prop) (y : Value) (m : List Nat) (hx : a.eval x = y) (hr : Row w F 1 y m.length (u16s m)) (hlen : n + m.length ≤ 17592186044416) (hbase : base ≤ w.heap.size)
  (h : ∀ v' w', w'.ownsRow base 100 1 v' (l ++ m).length (u16s (l ++ m)) → w.grownBy w' v.ownBlock → (v'.ownBlock = v.ownBlock ∨ v'.ownBlock = some w.heap.size) → wpList Tryz.prog ops Q rest (a.put o.dst v') w') :
  wpList Tryz.prog ops Q (o :: rest) a w := by
 obtain ⟨i0, hi0, hz0, hz1, hz2⟩ := info_parts u16_info
 subst hn
 refine y0n hgd s x _ ho base 100 i0 _ 1 2 Tryz.underlying199 hi0 hz0 hz1 hz2 rfl (by omega) v _ (u16s l) hs hown F y m.length (u16s m) hx hr (u16s_cells m) (by simp only [maxLen]; omega) (by omega) hbase ?_
 intro v' w' h1 h2 h3
 refine h v' w' ?_ h2 h3
 rw [List.length_append]
 simpa using h1
end
theorem y6i (n : Nat) (hn : n ≤ 1114111) (w : World) : Calls Tryz.prog 181 #[.int .i32 (n : Int)] w fun e w' => ∃ v, e = .returned v ∧ Row w' (fun b => b = w.heap.size) 1 v (Pure.unit16 n).length (u16s (Pure.unit16 n)) ∧ Below w.heap.size w w' := by
 by_cases h : n ≤ 65535
 ·have e1 : Pure.unit16 n = [n] := by unfold Pure.unit16; rw [if_pos h]
  rw [e1]
  have d : decide ((n : Int) ≤ 65535) = true := decide_eq_true (by omega)
  have r := y57 w [n] _ 1 rfl rfl (by simp)
  have R := Lib.hid r
  clear r e1
  go_enter Tryz.func181, Tryz.ntmps181
  go_wp2
  go_ret
  exact ⟨_, rfl, R.out, (Below.refl _ _).alloc (Nat.le_refl _) _⟩
 ·obtain ⟨m, hm⟩ : ∃ m, m = n - 65536 := ⟨_, rfl⟩
  obtain ⟨p, hp⟩ : ∃ p, p = 55296 + m / 1024 := ⟨_, rfl⟩
  obtain ⟨q, hq⟩ : ∃ q, q = 56320 + m % 1024 := ⟨_, rfl⟩
  have e1 : Pure.unit16 n = [p, q] := by unfold Pure.unit16; rw [if_neg h, ← hm, ← hp, ← hq]
  rw [e1]
  have d : decide ((n : Int) ≤ 65535) = false := decide_eq_false (by omega)
  have em : (n : Int) - 65536 = (m : Int) := by omega
  have ep : 55296 + (m : Int) / 1024 = (p : Int) := by omega
  have etm : (m : Int).tmod 1024 = (m : Int) % 1024 := Int.tmod_eq_emod_of_nonneg (by omega)
  have eq' : 56320 + (m : Int) % 1024 = (q : Int) := by omega
  have hp2 : p < 65536 := by omega
  have hq2 : q < 65536 := by omega
  have r := y57 w [p, q] _ 2 rfl rfl (by simp)
  have R := Lib.hid r
  clear r e1 hp hq hm h
  go_enter Tryz.func181, Tryz.ntmps181
  go_wp2
  go_ret
  exact ⟨_, rfl, R.out, (Below.refl _ _).alloc (Nat.le_refl _) _⟩
end Go.Proofs.YtmgicbckgpdkcaaGreatDoor
