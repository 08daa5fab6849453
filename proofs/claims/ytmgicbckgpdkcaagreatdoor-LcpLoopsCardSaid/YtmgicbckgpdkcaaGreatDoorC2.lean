/- append to own rows of bytes; rows of bytes that were just made. -/
import Derived.Lib.ValidLaws
import Derived.Ground.NamesProg
import Derived.Shelf.Unicode.ValidAny
import Derived.Lib.SlBytesConst
import Derived.Lib.OthersKept
import Derived.Laws.BitsAllLaws
import Derived.Test.YtmgicbckgpdkcaaGreatDoorC1
namespace Go.Proofs.YtmgicbckgpdkcaaGreatDoor
set_option maxRecDepth 100000
set_option maxHeartbeats 4000000
open _root_.Go.Lib renaming hid → xhd
open Go.RowKit
theorem y7g (w : World) (l : List UInt8) (cs : Array Value) (n : Nat) (hc : cs = (u8s l).toArray) (hn : n = l.length) (hl : l.length ≤ 100000) : Row (w.alloc (.cells cs 5)) (fun b => b = w.heap.size) 1 (.slice (some ⟨w.heap.size, 0, none⟩) n n) l.length (u8s l) := by
 subst hc hn
 exact Row.block (Blk.new w 5 (u8s l).toArray) rfl (by simp) (by unfold maxLen; omega) (Nat.le_refl _)
section
variable {w : World} {ops : Array Oper} {rest : List Oper} {o : Oper} {a : Act} {Q : Exit → Act → World → Prop}
theorem y1n (hgd : o.guard = none) (s x : Operand) (ho : o.op = .call { callee := .builtin .append, args := #[s, x], argTypes := #[29, 29] })
  (base : Nat) (v : Value) (n : Nat) (l : List UInt8) (hn : l.length = n) (hs : a.eval s = v) (hown : w.ownsRow base 5 1 v n (u8s l))
  (F : Nat → Prop) (y : Value) (m : List UInt8) (hx : a.eval x = y) (hr : Row w F 1 y m.length (u8s m)) (hlen : n + m.length ≤ 140737488355328) (hbase : base ≤ w.heap.size)
  (h : ∀ v' w', w'.ownsRow base 5 1 v' (l ++ m).length (u8s (l ++ m)) → w.grownBy w' v.ownBlock → (v'.ownBlock = v.ownBlock ∨ v'.ownBlock = some w.heap.size) → wpList Tryz.prog ops Q rest (a.put o.dst v') w') :
  wpList Tryz.prog ops Q (o :: rest) a w := by
 obtain ⟨i0, hi0, hz0, hz1, hz2⟩ := info_parts y5a
 subst hn
 refine y1a hgd s x _ ho base 5 i0 _ 1 1 Tryz.underlying29 hi0 hz0 hz1 hz2 rfl (by omega) v _ (u8s l) hs hown F y m.length (u8s m) hx hr (y73 m) (by simp only [maxLen]; omega) (by omega) hbase ?_
 intro v' w' h1 h2 h3
 refine h v' w' ?_ h2 h3
 rw [List.length_append]
 simpa using h1
end
theorem Row.strong {w : World} {F : Nat → Prop} {v : Value} {n : Nat} {xs : List Value} (h : Row w F 1 v n xs) : Row w (fun b => F b ∧ b < w.heap.size) 1 v n xs := by
 obtain ⟨h1, h0, A, c, h2, h3, h4, h5⟩ := h
 refine ⟨h1, h0, A, c, h2, h3, h4, fun hn => ?_⟩
 obtain ⟨b, off, e, f, g⟩ := h5 hn
 refine ⟨b, off, e, ⟨f, ?_⟩, g⟩
 exact y0x (g 0 xs[0] (List.getElem?_eq_getElem (by omega)))
theorem Row.one {w : World} {F : Nat → Prop} {v : Value} {n : Nat} {xs : List Value} (h : Row w F 1 v n xs) : v.oneCell' = true := by
 obtain ⟨_, _, A, c, rfl, _⟩ := h
 rfl
theorem y5p {w w' : World} {base : Nat} {e : TypeId} {size : Nat} {v : Value} {n : Nat} {xs : List Value} {row : Option Nat} (h : w.ownsRow base e size v n xs) (hg : w.grownBy w' row) (hr : ∀ b, v.ownBlock = some b → row ≠ some b) : w'.ownsRow base e size v n xs :=
 y0o h ((Keeps.refl (fun b => row = some b) w).grown hg (fun _ e _ => e)) (fun b hb e => hr b hb e)
namespace Pure
def follows (s : List UInt8) (k : Nat) : Bool := decide (k < s.length) && (s.getD k 0).toNat / 64 == 2
def six (s : List UInt8) (k : Nat) : Nat := (s.getD k 0).toNat % 64
def letter (s : List UInt8) : Nat × Nat :=
 let b := (s.getD 0 0).toNat
 if b < 128 then (b, 1)
 else if 194 ≤ b ∧ b ≤ 223 then
  if follows s 1 then (b % 32 * 64 + six s 1, 2) else (0, 0)
 else if 224 ≤ b ∧ b ≤ 239 then
  if follows s 1 && follows s 2 then
   if 2048 ≤ b % 16 * 4096 + six s 1 * 64 + six s 2 ∧ ¬ (55296 ≤ b % 16 * 4096 + six s 1 * 64 + six s 2 ∧ b % 16 * 4096 + six s 1 * 64 + six s 2 ≤ 57343) then (b % 16 * 4096 + six s 1 * 64 + six s 2, 3) else (0, 0)
  else (0, 0)
 else if 240 ≤ b ∧ b ≤ 244 then
  if follows s 1 && follows s 2 && follows s 3 then
   if 65536 ≤ b % 8 * 262144 + six s 1 * 4096 + six s 2 * 64 + six s 3 ∧ b % 8 * 262144 + six s 1 * 4096 + six s 2 * 64 + six s 3 ≤ 1114111 then (b % 8 * 262144 + six s 1 * 4096 + six s 2 * 64 + six s 3, 4) else (0, 0)
  else (0, 0)
 else (0, 0)
def head (b : Nat) : Nat × Nat := if 194 ≤ b ∧ b ≤ 223 then (2, b % 32) else if 224 ≤ b ∧ b ≤ 239 then (3, b % 16) else if 240 ≤ b ∧ b ≤ 244 then (4, b % 8) else (0, 0)
theorem six_lt (s : List UInt8) (k : Nat) : six s k < 64 := Nat.mod_lt _ (by omega)
theorem y7t {s : List UInt8} {k : Nat} (h : follows s k = true) : k < s.length := by
 unfold follows at h
 simp at h
 exact h.1
theorem letter_size (s : List UInt8) (hs : s ≠ []) : (letter s).2 ≤ s.length ∧ (letter s).2 ≤ 4 := by
 have h0 : 0 < s.length := List.length_pos_iff.2 hs
 unfold letter
 simp only
 split
 ·exact ⟨by simp; omega, by simp⟩
 split
 ·split
  ·rename_i h; have := y7t h; exact ⟨by simp; omega, by simp⟩
  ·simp
 split
 ·split
  ·rename_i h; simp at h; have := y7t h.2; split
   ·exact ⟨by simp; omega, by simp⟩
   ·simp
  ·simp
 split
 ·split
  ·rename_i h; simp at h; have := y7t h.2; split
   ·exact ⟨by simp; omega, by simp⟩
   ·simp
  ·simp
 ·simp
theorem letter_num (s : List UInt8) : (letter s).1 ≤ 1114111 := by
 have h1 := six_lt s 1
 have h2 := six_lt s 2
 have h3 := six_lt s 3
 unfold letter
 simp only
 split
 ·dsimp only; omega
 split
 ·split
  ·dsimp only; omega
  ·simp
 split
 ·split
  ·split
   ·dsimp only; omega
   ·simp
  ·simp
 split
 ·split
  ·split
   ·rename_i h; dsimp only; omega
   ·simp
  ·simp
 ·simp
def unit (n : Nat) : List UInt8 := [UInt8.ofNat (n % 256), UInt8.ofNat (n / 256 % 256)]
def y9o (n : Nat) : List UInt8 := if 65535 < n then unit (55296 + (n - 65536) / 1024) ++ unit (56320 + (n - 65536) % 1024) else unit n
def y3x : Nat → List UInt8 → List UInt8 → Option (List UInt8)
 | 0, _, acc => some acc
 | f + 1, s, acc => if s = [] then some acc else if (letter s).2 = 0 then none else y3x f (s.drop (letter s).2) (acc ++ y9o (letter s).1)
theorem y9a : ∀ (f g : Nat) (s acc : List UInt8), s.length ≤ f → s.length ≤ g → y3x f s acc = y3x g s acc
 | 0, 0, _, _, _, _ => rfl
 | 0, g + 1, s, acc, hf, _ => by
  have : s = [] := List.eq_nil_of_length_eq_zero (by omega)
  subst this; simp [y3x]
 | f + 1, 0, s, acc, _, hg => by
  have : s = [] := List.eq_nil_of_length_eq_zero (by omega)
  subst this; simp [y3x]
 | f + 1, g + 1, s, acc, hf, hg => by
  unfold y3x
  split
  ·rfl
  ·split
   ·rfl
   ·exact y9a f g _ _ (by rw [List.length_drop]; omega) (by rw [List.length_drop]; omega)
def unitsFrom (s acc : List UInt8) : Option (List UInt8) := y3x s.length s acc
theorem unitsFrom_nil (acc : List UInt8) : unitsFrom [] acc = some acc := rfl
theorem unitsFrom_bad {s : List UInt8} (acc : List UInt8) (hs : s ≠ []) (h : (letter s).2 = 0) : unitsFrom s acc = none := by
 unfold unitsFrom
 have h0 : 0 < s.length := List.length_pos_iff.2 hs
 obtain ⟨n, hn⟩ : ∃ n, s.length = n + 1 := ⟨s.length - 1, by omega⟩
 rw [hn]
 simp [y3x, hs, h]
theorem unitsFrom_step {s : List UInt8} (acc : List UInt8) (hs : s ≠ []) (h : (letter s).2 ≠ 0) : unitsFrom s acc = unitsFrom (s.drop (letter s).2) (acc ++ y9o (letter s).1) := by
 unfold unitsFrom
 have h0 : 0 < s.length := List.length_pos_iff.2 hs
 obtain ⟨n, hn⟩ : ∃ n, s.length = n + 1 := ⟨s.length - 1, by omega⟩
 rw [hn]
 conv => lhs; unfold y3x
 rw [if_neg hs, if_neg h]
 exact y9a _ _ _ _ (by rw [List.length_drop]; omega) (Nat.le_refl _)
def units (s : List UInt8) : Option (List UInt8) := unitsFrom s []
def secret (s : List UInt8) : Nat × List UInt8 := match units s with
 | none => (4, [])
 | some u => if 512 < u.length then (3, []) else (0, u)
theorem secret_none {s : List UInt8} (h : units s = none) : secret s = (4, []) := by unfold secret; rw [h]
theorem secret_long {s u : List UInt8} (h : units s = some u) (hl : 512 < u.length) : secret s = (3, []) := by unfold secret; rw [h]; simp [hl]
theorem secret_some {s u : List UInt8} (h : units s = some u) (hl : ¬ 512 < u.length) : secret s = (0, u) := by unfold secret; rw [h]; simp [hl]
end Pure
namespace Pure
def unit16 (n : Nat) : List Nat := if n ≤ 65535 then [n] else [55296 + (n - 65536) / 1024, 56320 + (n - 65536) % 1024]
def low (us : List Nat) : List UInt8 := us.flatMap unit
theorem low_append (a b : List Nat) : low (a ++ b) = low a ++ low b := List.flatMap_append
theorem low_length (us : List Nat) : (low us).length = 2 * us.length := by
 induction us with
 | nil => rfl
 | cons a us ih =>
  have : low (a :: us) = unit a ++ low us := rfl
  rw [this, List.length_append, ih, show (unit a).length = 2 from rfl, List.length_cons]
  omega
theorem low_unit16 (n : Nat) : low (unit16 n) = y9o n := by
 unfold unit16 y9o low
 by_cases h : n ≤ 65535
 ·rw [if_pos h, if_neg (by omega)]; simp
 ·rw [if_neg h, if_pos (by omega)]; simp
theorem unit16_length (n : Nat) : 1 ≤ (unit16 n).length ∧ (unit16 n).length ≤ 2 := by unfold unit16; split <;> simp
theorem unitsFrom_length : ∀ (k : Nat) (s acc u : List UInt8), s.length ≤ k → unitsFrom s acc = some u → acc.length ≤ u.length
 | 0, s, acc, u, hk, h => by
  have : s = [] := List.eq_nil_of_length_eq_zero (by omega)
  subst this
  rw [unitsFrom_nil] at h
  injection h with h
  rw [h]; exact Nat.le_refl _
 | k + 1, s, acc, u, hk, h => by
  by_cases hs : s = []
  ·subst hs
   rw [unitsFrom_nil] at h
   injection h with h
   rw [h]; exact Nat.le_refl _
  ·by_cases hz : (letter s).2 = 0
   ·rw [unitsFrom_bad acc hs hz] at h; cases h
   ·rw [unitsFrom_step acc hs hz] at h
    have h0 : 0 < s.length := List.length_pos_iff.2 hs
    have := unitsFrom_length k _ _ _ (by rw [List.length_drop]; omega) h
    rw [List.length_append] at this
    omega
end Pure
abbrev u16s (l : List Nat) : List Value := l.map fun (b : Nat) => Value.int .u16 (b : Int)
theorem u16_info : (Tryz.prog.info? 100).map (fun i => (i.zero, i.size, i.bytes)) = some (some (.int .u16 0), 1, 2) := by kernel_rfl
theorem u16s_cells (l : List Nat) : ∀ u ∈ u16s l, u.oneCell' = true := by
 intro u hu
 obtain ⟨b, _, rfl⟩ := List.mem_map.1 hu
 rfl
theorem u16s_at (l : List Nat) (j : Nat) (h : j < l.length) : (u16s l)[j]? = some (.int .u16 ((l.getD j 0 : Nat) : Int)) := by
 rw [List.getElem?_map, List.getElem?_eq_getElem h, List.getD_eq_getElem?_getD, List.getElem?_eq_getElem h]; rfl
theorem ybr (w : World) (l : List Nat) (cs : Array Value) (n : Nat) (hc : cs = (u16s l).toArray) (hn : n = l.length) (hl : l.length ≤ 100000) : Row (w.alloc (.cells cs 100)) (fun b => b = w.heap.size) 1 (.slice (some ⟨w.heap.size, 0, none⟩) n n) l.length (u16s l) := by
 subst hc hn
 exact Row.block (Blk.new w 100 (u16s l).toArray) rfl (by simp) (by unfold maxLen; omega) (Nat.le_refl _)
section
variable {w : World} {ops : Array Oper} {rest : List Oper} {o : Oper} {a : Act} {Q : Exit → Act → World → Prop}
theorem yet (hgd : o.guard = none) (s x : Operand) (ho : o.op = .call { callee := .builtin .append, args := #[s, x], argTypes := #[199, 199] })
  (base : Nat) (v : Value) (n : Nat) (l : List Nat) (hn : l.length = n) (hs : a.eval s = v) (hown : w.ownsRow base 100 1 v n (u16s l))
  (F : Nat → Prop) (y : Value) (m : List Nat) (hx : a.eval x = y) (hr : Row w F 1 y m.length (u16s m)) (hlen : n + m.length ≤ 17592186044416) (hbase : base ≤ w.heap.size)
  (h : ∀ v' w', w'.ownsRow base 100 1 v' (l ++ m).length (u16s (l ++ m)) → w.grownBy w' v.ownBlock → (v'.ownBlock = v.ownBlock ∨ v'.ownBlock = some w.heap.size) → wpList Tryz.prog ops Q rest (a.put o.dst v') w') :
  wpList Tryz.prog ops Q (o :: rest) a w := by
 obtain ⟨i0, hi0, hz0, hz1, hz2⟩ := info_parts u16_info
 subst hn
 refine y1a hgd s x _ ho base 100 i0 _ 1 2 Tryz.underlying199 hi0 hz0 hz1 hz2 rfl (by omega) v _ (u16s l) hs hown F y m.length (u16s m) hx hr (u16s_cells m) (by simp only [maxLen]; omega) (by omega) hbase ?_
 intro v' w' h1 h2 h3
 refine h v' w' ?_ h2 h3
 rw [List.length_append]
 simpa using h1
end
theorem yd6 (n : Nat) (hn : n ≤ 1114111) (w : World) : Calls Tryz.prog 181 #[.int .i32 (n : Int)] w fun e w' => ∃ v, e = .returned v ∧ Row w' (fun b => b = w.heap.size) 1 v (Pure.unit16 n).length (u16s (Pure.unit16 n)) ∧ Below w.heap.size w w' := by
 by_cases h : n ≤ 65535
 ·have e1 : Pure.unit16 n = [n] := by unfold Pure.unit16; rw [if_pos h]
  rw [e1]
  have d : decide ((n : Int) ≤ 65535) = true := decide_eq_true (by omega)
  have r := ybr w [n] _ 1 rfl rfl (by simp)
  have R := xhd r
  clear r e1
  go_enter Tryz.func181, Tryz.ntmps181
  go_wp2
  go_ret
  exact ⟨_, rfl, R.out, (Below.refl _ _).alloc (Nat.le_refl _) _⟩
 ·obtain ⟨m, hm⟩ : ∃ m, m = n - 65536 := ⟨_, rfl⟩
  obtain ⟨p, hp⟩ : ∃ p, p = 55296 + m / 1024 := ⟨_, rfl⟩
  obtain ⟨q, hq⟩ : ∃ q, q = 56320 + m % 1024 := ⟨_, rfl⟩
  have e1 : Pure.unit16 n = [p, q] := by unfold Pure.unit16; rw [if_neg h, ← hm, ← hp, ← hq]
  rw [e1]
  have d : decide ((n : Int) ≤ 65535) = false := decide_eq_false (by omega)
  have em : (n : Int) - 65536 = (m : Int) := by omega
  have ep : 55296 + (m : Int) / 1024 = (p : Int) := by omega
  have etm : (m : Int).tmod 1024 = (m : Int) % 1024 := Int.tmod_eq_emod_of_nonneg (by omega)
  have eq' : 56320 + (m : Int) % 1024 = (q : Int) := by omega
  have hp2 : p < 65536 := by omega
  have hq2 : q < 65536 := by omega
  have r := ybr w [p, q] _ 2 rfl rfl (by simp)
  have R := xhd r
  clear r e1 hp hq hm h
  go_enter Tryz.func181, Tryz.ntmps181
  go_wp2
  go_ret
  exact ⟨_, rfl, R.out, (Below.refl _ _).alloc (Nat.le_refl _) _⟩
open Go Go.Lib
theorem yb8 (l : List UInt8) : decodeL l = if (Pure.letter l).2 = 0 then (65533, 1) else Pure.letter l := by
 have h0 := (l.getD 0 0).toNat_lt
 have h1 := (l.getD 1 0).toNat_lt
 have h2 := (l.getD 2 0).toNat_lt
 have h3 := (l.getD 3 0).toNat_lt
 rw [decodeL_N]
 unfold Pure.letter Pure.follows Pure.six decodeN
 simp only [Bool.and_eq_true, decide_eq_true_eq, beq_iff_eq]
 generalize (l.getD 0 0).toNat = b0 at *
 generalize (l.getD 1 0).toNat = b1 at *
 generalize (l.getD 2 0).toNat = b2 at *
 generalize (l.getD 3 0).toNat = b3 at *
 generalize l.length = n at *
 by_cases c1 : b0 < 128
 ·simp [c1]
 by_cases c2 : b0 < 224
 ·by_cases c3 : 194 ≤ b0
  ·rw [if_neg c1, if_neg c1, if_pos (show 194 ≤ b0 ∧ b0 ≤ 223 by omega)]
   by_cases c4 : 1 < n ∧ b1 / 64 = 2
   ·rw [if_pos (show b0 / 32 = 6 ∧ 1 < n ∧ b1 / 64 = 2 from ⟨by omega, c4⟩), if_pos c4, if_pos (by omega)]
    simp
   ·rw [if_neg (fun h => c4 h.2), if_neg c4, if_neg (by omega), if_neg (by omega)]
    simp
  ·rw [if_neg c1, if_neg c1, if_neg (show ¬ (194 ≤ b0 ∧ b0 ≤ 223) by omega), if_neg (show ¬ (224 ≤ b0 ∧ b0 ≤ 239) by omega), if_neg (show ¬ (240 ≤ b0 ∧ b0 ≤ 244) by omega)]
   by_cases c4 : b0 / 32 = 6 ∧ 1 < n ∧ b1 / 64 = 2
   ·rw [if_pos c4, if_neg (by omega)]
    simp
   ·rw [if_neg c4, if_neg (by omega), if_neg (by omega)]
    simp
 by_cases c3 : b0 < 240
 ·rw [if_neg c1, if_neg c1, if_neg (show ¬ (194 ≤ b0 ∧ b0 ≤ 223) by omega), if_pos (show (224 ≤ b0 ∧ b0 ≤ 239) by omega), if_neg (by omega)]
  by_cases c4 : (1 < n ∧ b1 / 64 = 2) ∧ 2 < n ∧ b2 / 64 = 2
  ·rw [if_pos (show b0 / 16 = 14 ∧ (1 < n ∧ b1 / 64 = 2) ∧ 2 < n ∧ b2 / 64 = 2 from ⟨by omega, c4⟩), if_pos c4]
   by_cases c5 : 2048 ≤ b0 % 16 * 4096 + b1 % 64 * 64 + b2 % 64 ∧ ¬ (55296 ≤ b0 % 16 * 4096 + b1 % 64 * 64 + b2 % 64 ∧ b0 % 16 * 4096 + b1 % 64 * 64 + b2 % 64 ≤ 57343)
   ·rw [if_pos c5, if_pos (by omega)]
    simp
   ·rw [if_neg c5, if_neg (by omega)]
    simp
  ·rw [if_neg (fun h => c4 h.2), if_neg c4, if_neg (by omega)]
   simp
 ·rw [if_neg c1, if_neg c1, if_neg (show ¬ (194 ≤ b0 ∧ b0 ≤ 223) by omega), if_neg (show ¬ (224 ≤ b0 ∧ b0 ≤ 239) by omega), if_neg (by omega), if_neg (by omega)]
  by_cases c6 : b0 ≤ 244
  ·rw [if_pos (show (240 ≤ b0 ∧ b0 ≤ 244) by omega)]
   by_cases c4 : ((1 < n ∧ b1 / 64 = 2) ∧ 2 < n ∧ b2 / 64 = 2) ∧ 3 < n ∧ b3 / 64 = 2
   ·rw [if_pos (show b0 / 8 = 30 ∧ (1 < n ∧ b1 / 64 = 2) ∧ (2 < n ∧ b2 / 64 = 2) ∧ 3 < n ∧ b3 / 64 = 2 from ⟨by omega, c4.1.1, c4.1.2, c4.2⟩), if_pos c4]
    by_cases c5 : 65536 ≤ b0 % 8 * 262144 + b1 % 64 * 4096 + b2 % 64 * 64 + b3 % 64 ∧ b0 % 8 * 262144 + b1 % 64 * 4096 + b2 % 64 * 64 + b3 % 64 ≤ 1114111
    ·rw [if_pos c5, if_pos (by omega)]
     simp
    ·rw [if_neg c5, if_neg (by omega)]
     simp
   ·rw [if_neg (fun h => c4 ⟨⟨h.2.1, h.2.2.1⟩, h.2.2.2⟩), if_neg c4]
    simp
  ·rw [if_neg (show ¬ (240 ≤ b0 ∧ b0 ≤ 244) by omega)]
   split
   ·rw [if_neg (by omega)]
    simp
   ·simp
theorem letter_not (l : List UInt8) (_ : (Pure.letter l).2 ≠ 0) : ¬ ((Pure.letter l).1 = 65533 ∧ (Pure.letter l).2 = 1) := by
 unfold Pure.letter
 simp only
 repeat' split
 all_goals first | (rintro ⟨h1, h2⟩; simp only at h1 h2; omega) | (rintro ⟨h1, h2⟩; simp at h2)
theorem yf8 (l : List UInt8) (h : (Pure.letter l).2 ≠ 0) : decodeL l = Pure.letter l := by
 rw [yb8, if_neg h]
theorem ya9 : ∀ (k : Nat) (l acc : List UInt8), l.length ≤ k → (Pure.unitsFrom l acc).isSome = validD l
 | 0, l, acc, hk => by
  have : l = [] := List.eq_nil_of_length_eq_zero (by omega)
  subst this; rfl
 | k + 1, l, acc, hk => by
  by_cases hne : l = []
  ·subst hne; rfl
  ·rw [validD_step l hne, yb8]
   by_cases h : (Pure.letter l).2 = 0
   ·rw [if_pos h, if_pos ⟨rfl, rfl⟩, Pure.unitsFrom_bad acc hne h]; rfl
   ·rw [if_neg h, if_neg (letter_not l h), Pure.unitsFrom_step acc hne h]
    have h0 : 0 < l.length := List.length_pos_iff.2 hne
    exact ya9 k _ _ (by rw [List.length_drop]; omega)
theorem yht (l : List UInt8) : (Pure.units l).isSome = validD l := ya9 l.length l [] (Nat.le_refl _)
open Go.Shelf Go.RowKit
def validRen : Go.Shelf.Ren := ⟨fun | 196 => 179 | 259 => 206 | n => n, fun | 9 => 9 | 4 => 4 | 3 => 3 | 5 => 5 | 12 => 12 | 119 => 280 | 0 => 0 | 46 => 48 | 139 => 283 | 138 => 282 | 53 => 243 | n => n, fun | 3 => 2 | 4 => 3 | n => n⟩
theorem ydv : Go.Proofs.Lays.n196 Tryz.prog validRen := {
 mixed := by kernel_rfl
 f196 := Tryz.func179.trans (congrArg some (by kernel_rfl))
 f259 := Tryz.func206.trans (congrArg some (by kernel_rfl))
 t0 := Tryz.underlying0
 a0 := Tryz.isAgg0
 z0 := Tryz.sizeOf0
 v0 := Tryz.zeroValue0
 t3 := Tryz.underlying3
 a3 := Tryz.isAgg3
 z3 := Tryz.sizeOf3
 v3 := Tryz.zeroValue3
 t4 := Tryz.underlying4
 a4 := Tryz.isAgg4
 z4 := Tryz.sizeOf4
 v4 := Tryz.zeroValue4
 t5 := Tryz.underlying5
 a5 := Tryz.isAgg5
 z5 := Tryz.sizeOf5
 v5 := Tryz.zeroValue5
 t9 := Tryz.underlying9
 a9 := Tryz.isAgg9
 z9 := Tryz.sizeOf9
 v9 := Tryz.zeroValue9
 t12 := Tryz.underlying12
 a12 := Tryz.isAgg12
 z12 := Tryz.sizeOf12
 v12 := Tryz.zeroValue12
 t46 := Tryz.underlying48
 a46 := Tryz.isAgg48
 z46 := Tryz.sizeOf48
 v46 := Tryz.zeroValue48
 t53 := Tryz.underlying243
 a53 := Tryz.isAgg243
 z53 := Tryz.sizeOf243
 v53 := Tryz.zeroValue243
 t119 := Tryz.underlying280
 a119 := Tryz.isAgg280
 z119 := Tryz.sizeOf280
 t138 := Tryz.underlying282
 a138 := Tryz.isAgg282
 z138 := Tryz.sizeOf282
 v138 := Tryz.zeroValue282
 t139 := Tryz.underlying283
 a139 := Tryz.isAgg283
 z139 := Tryz.sizeOf283
 v139 := Tryz.zeroValue283
 g3 := by kernel_rfl
 g4 := by kernel_rfl }
def Tabs (w : World) : Prop := Lib.Utf8Tabs 2 3 w
theorem Tabs.keeps {S : Nat → Prop} {w w' : World} (h : Tabs w) (k : Keeps S w w') (h1 : ¬ S 2) (h2 : ¬ S 3) : Tabs w' := by
 have one : ∀ g o u, ¬ S g → w.cell? ⟨g, o, none⟩ = some u → w'.cell? ⟨g, o, none⟩ = some u := fun g o u hS hc =>
  (World.cell?_of_block (w := w) (a := ⟨g, o, none⟩) (k.block g (y0x hc) hS)).trans hc
 exact ⟨fun c hc => one _ _ _ h1 (h.1 c hc), fun i hi => ⟨one _ _ _ h2 (h.2 i hi).1, one _ _ _ h2 (h.2 i hi).2⟩⟩
theorem Tabs.below {w w' : World} (h : Tabs w) (k : Below w.heap.size w w') : Tabs w' := h.keeps (Keeps.new k) (fun h => h) (fun h => h)
theorem valid_any (s : ByteArray) (l : List UInt8) (hl : s.data.toList = l) (hsz : l.length ≤ 1000000) (w : World) (hT : Tabs w) :
  Calls Tryz.prog 179 #[.string s] w fun e w' => e = .returned (.bool (Pure.units l).isSome) ∧ Below w.heap.size w w' := by
 rw [yht, ← hl]
 have hs : s.size = l.length := by rw [← hl]; simp
 exact Any.utf8_ValidString ydv s w (by omega) hT
open Go.RowKit Go.Extern.Stop Go.Stop Go.Extern
noncomputable abbrev asVal (b : Nat) : Array Value := #[.pointer (some ⟨hB, 231, none⟩), .pointer (some ⟨b, 0, none⟩), .int .u64 150]
noncomputable abbrev asW2 (w : World) (t : Addr) : World := (w.alloc (.cells #[.pointer (some t)] 231)).alloc (.cells (asVal w.heap.size) 272)
noncomputable abbrev asW3 (w : World) (t : Addr) : World := (asW2 w t).alloc (.cells (asVal w.heap.size) 272)
noncomputable abbrev asW4 (w : World) (t e : Addr) : World := (asW3 w t).alloc (.cells #[.pointer (some e)] 229)
theorem as_below4 (w : World) (t e : Addr) : Below w.heap.size w (asW4 w t e) :=
 ((((Below.refl w.heap.size w).alloc (Nat.le_refl _) _).alloc (by simp) _).alloc (by simp; omega) _).alloc (by simp; omega) _
theorem as_fault (e t : Addr) (old : Value) (w : World) (hg : y17 w) (ht : w.cell? t = some old) (hf : w.frozen? t = false) :
  Calls Tryz.prog 178 #[.iface 229 (.pointer (some e)), .iface 231 (.pointer (some t))] w fun ev w' => ev = .returned (.bool true) ∧
   w' = (asW4 w t e).setCell t (.pointer (some e)) := by
 have h1 := @run_callFunc_extern Tryz.prog 202 _ (fun args => ReflectliteValue.unpack (args.getD 0 (.tuple #[]))) Tryz.func202 (by kernel_rfl) (by kernel_rfl) (by kernel_rfl) (by kernel_rfl)
 have h2 := @run_callFunc_extern Tryz.prog 203 _ (ReflectliteValue.methodAny (ReflectliteValue.valueError "reflectlite.Value.Type" 0) (fun t _ _ _ => ReflectliteType.toType t)) Tryz.func203 (by kernel_rfl) (by kernel_rfl) (by kernel_rfl) (by kernel_rfl)
 have h3 := @run_callFunc_extern Tryz.prog 204 _ (ReflectliteValue.method (ReflectliteValue.valueError "reflectlite.Value.IsNil" 0) ReflectliteValue.isNil) Tryz.func204 (by kernel_rfl) (by kernel_rfl) (by kernel_rfl) (by kernel_rfl)
 have h4 := @run_callFunc_extern Tryz.prog 262 _ (ReflectliteType.abiMethod fun t => do pure (.int .u8 (← Rtype.kind t))) Tryz.func262 (by kernel_rfl) (by kernel_rfl) (by kernel_rfl) (by kernel_rfl)
 have h5 := @run_callFunc_extern Tryz.prog 273 _ (ReflectliteType.method ReflectliteType.elem) Tryz.func273 (by kernel_rfl) (by kernel_rfl) (by kernel_rfl) (by kernel_rfl)
 have h6 := @run_callFunc_extern Tryz.prog 274 _ (ReflectliteType.relation "Implements" ReflectliteType.implements_) Tryz.func274 (by kernel_rfl) (by kernel_rfl) (by kernel_rfl) (by kernel_rfl)
 have h7 := @run_callFunc_extern Tryz.prog 172 _ ReflectliteType.typeOf Tryz.func172 (by kernel_rfl) (by kernel_rfl) (by kernel_rfl) (by kernel_rfl)
 have h8 := @run_callFunc_extern Tryz.prog 271 _ (ReflectliteType.relation "AssignableTo" ReflectliteType.assignableTo) Tryz.func271 (by kernel_rfl) (by kernel_rfl) (by kernel_rfl) (by kernel_rfl)
 have h9 := @run_callFunc_extern Tryz.prog 237 _ (ReflectliteValue.method (ReflectliteValue.valueError "reflectlite.Value.Elem" 0) ReflectliteValue.elem) Tryz.func237 (by kernel_rfl) (by kernel_rfl) (by kernel_rfl) (by kernel_rfl)
 have h10 := @run_callFunc_extern Tryz.prog 238 _ ReflectliteValue.set Tryz.func238 (by kernel_rfl) (by kernel_rfl) (by kernel_rfl) (by kernel_rfl)
 have k1 := as_unpackT
 have k2 := as_typeT
 have k3 := as_mKind
 have k4 := as_mElem
 have k5 := as_mImpl
 have k6 := as_mAssign
 have k7 := as_kindT
 have k8 := as_kindE
 have k9 := as_elemT
 have k10 := as_implE
 have k11 := as_typeOfE
 have k12 := as_assignE
 have k13 := as_unpackE
 have hlt := hg.lt
 have htl : t.block < w.heap.size := by
  rcases Nat.lt_or_ge t.block w.heap.size with h | h
  ·exact h
  ·simp [World.cell?, Array.getElem?_eq_none h] at ht
 have g2 : (asW2 w t).cell? ⟨1, 0, none⟩ = some (.iface 258 (.agg #[.pointer (some ⟨hB, 158, none⟩)])) := by
  rw [World.cell?_alloc_lt _ _ ⟨1, 0, none⟩ (by simp <;> omega), World.cell?_alloc_lt _ _ ⟨1, 0, none⟩ hlt]; exact hg
 have n1 := as_isNil ⟨w.heap.size, 0, none⟩ t (asW2 w t) (by simp)
 have n2 := as_elemV ⟨w.heap.size, 0, none⟩ t (asW3 w t) (by rw [World.cell?_alloc_lt _ _ ⟨w.heap.size, 0, none⟩ (by simp; omega)]; simp)
 have n3 := as_set t ⟨w.heap.size + 1 + 1 + 1, 0, none⟩ e old (asW4 w t e)
  (by rw [World.cell?_alloc_at _ _ _ _ (by simp)]; rfl)
  (by rw [World.cell?_alloc_lt _ _ t (by simp; omega), World.cell?_alloc_lt _ _ t (by simp; omega), World.cell?_alloc_lt _ _ t (by simp; omega), World.cell?_alloc_lt _ _ t htl]; exact ht)
  (by rw [World.frozen?_alloc_old _ _ t (by simp; omega), World.frozen?_alloc_old _ _ t (by simp; omega), World.frozen?_alloc_old _ _ t (by simp; omega), World.frozen?_alloc_old _ _ t (Nat.ne_of_lt htl)]; exact hf)
 clear hg ht hf
 go_enter Tryz.func178, Tryz.ntmps178
 go_wp2
 refine wp_loop_rounds 1 ?_
 rw [rounds_succ]
 go_wp2
 go_ret
 exact ⟨rfl, rfl⟩
def y1z (w : World) (v : Value) (k : Nat) : Prop :=
 (v = .nilIface ∧ k = 0) ∨ (k ≠ 0 ∧ ∃ b, v = .iface 229 (.pointer (some ⟨b, 0, none⟩)) ∧ w.cell? ⟨b, 1, none⟩ = some (.int .i64 k))
theorem y1z.keeps {S : Nat → Prop} {w w' : World} {v : Value} {k : Nat} (h : y1z w v k) (hk : Keeps S w w') (hS : ∀ b, ¬ S b) : y1z w' v k := by
 rcases h with h | ⟨h1, b, h2, h3⟩
 ·exact .inl h
 ·exact .inr ⟨h1, b, h2, (World.cell?_of_block (w := w) (a := ⟨b, 1, none⟩) (hk.block b (y0x h3) (hS b))).trans h3⟩
theorem y7e (s : ByteArray) (k : Nat) (w : World) (hk : k ≠ 0) : Calls Tryz.prog 180 #[.string s, .int .i64 k] w fun e w' => ∃ v, e = .returned v ∧ y1z w' v k ∧ Below w.heap.size w w' := by
 go_enter Tryz.func180, Tryz.ntmps180
 go_wp2
 go_ret
 exact ⟨_, rfl, .inr ⟨hk, w.heap.size, rfl, by simp⟩, (Below.refl _ _).alloc (Nat.le_refl _) _⟩
theorem ybh (v : Value) (k : Nat) (w : World) (hg : y17 w) (h : y1z w v k) : Calls Tryz.prog 148 #[v] w fun e w' => e = .returned (.int .i64 k) ∧ Below w.heap.size w w' := by
 have B1 := xhd ((Below.refl w.heap.size w).alloc (Nat.le_refl _) (.cells #[.pointer none] 229))
 rcases h with ⟨rfl, rfl⟩ | ⟨h1, b, rfl, h3⟩
 ·have HA := xhd as_nil
  clear hg
  go_enter Tryz.func148, Tryz.ntmps148
  go_wp2_with fail
  refine (HA.out _ _).mono ?_
  rintro e w1 ⟨rfl, rfl⟩
  go_wp2
  go_ret
  exact ⟨rfl, B1.out⟩
 ·have hb := y0x h3
  have hg1 : y17 (w.alloc (.cells #[.pointer none] 229)) := hg.below ((Below.refl w.heap.size w).alloc (Nat.le_refl _) _)
  have HA := xhd (as_fault ⟨b, 0, none⟩ ⟨w.heap.size, 0, none⟩ (.pointer none) _ hg1 (by simp) (by simp))
  have k4 := as_below4 (w.alloc (.cells #[.pointer none] 229)) ⟨w.heap.size, 0, none⟩ ⟨b, 0, none⟩
  obtain ⟨W, hW⟩ : ∃ W, W = asW4 (w.alloc (.cells #[.pointer none] 229)) ⟨w.heap.size, 0, none⟩ ⟨b, 0, none⟩ := ⟨_, rfl⟩
  rw [← hW] at HA k4
  have hsz : (w.alloc (.cells #[.pointer none] 229)).heap.size = w.heap.size + 1 := by simp
  have hblk : Blk W w.heap.size 229 #[.pointer none] := (Blk.new w 229 #[.pointer none]).below k4 (by omega)
  have c0 : (W.setCell ⟨w.heap.size, 0, none⟩ (.pointer (some ⟨b, 0, none⟩))).cell? ⟨w.heap.size, 0, none⟩ = some (.pointer (some ⟨b, 0, none⟩)) := by
   rw [(hblk.set 0 _).cell]; rfl
  have hk : Keeps y01 w (W.setCell ⟨w.heap.size, 0, none⟩ (.pointer (some ⟨b, 0, none⟩))) :=
   ((Keeps.new ((B1.out).trans (k4.mono (by simp)))).store w.heap.size 0 (fun h => absurd h (by omega)) _)
  have c1 := (World.cell?_of_block (w := w) (a := ⟨b, 1, none⟩) (hk.block b hb (fun h => h))).trans h3
  have K := xhd hk
  clear hg hg1 k4 hW hsz hblk hk h3
  go_enter Tryz.func148, Tryz.ntmps148
  go_wp2_with fail
  refine HA.out.mono ?_
  rintro e w1 ⟨rfl, rfl⟩
  go_wp2
  go_ret
  exact ⟨rfl, K.out.to_below⟩
section
variable {w0 wr : World}
end
theorem ydo {w w' : World} {base n : Nat} {u : Value} {l : List UInt8} (h : w.ownsRow base 5 1 u n (u8s l)) (k : Keeps y01 w w') : w'.ownsRow base 5 1 u n (u8s l) := y0o h k (fun _ _ h => h)
theorem yb2 {w : World} {g p base n : Nat} {s : ByteArray} {e : TypeId} {v : Value} {xs : List Value} (hk : w.heap[g]? = some (.stringIter s p)) (h : w.ownsRow base e 1 v n xs) : v.ownBlock ≠ some g := by
 rcases h.2 with ⟨rfl, _⟩ | ⟨g', cap, cur, rfl, _, hh, _⟩
 ·simp [Value.ownBlock]
 ·intro he
  have : g' = g := by simpa [Value.ownBlock] using he
  subst this
  rw [hk] at hh
  injection hh with hh
  cases hh
theorem yf6 (w : World) (g : Nat) (s : ByteArray) (p : Nat) : Keeps (only g) w (w.iterAt g s p) :=
 ⟨rfl, rfl, rfl, by rw [Lib.iterAt_size]; exact Nat.le_refl _, fun k _ hk => Lib.iterAt_other w g k s p hk⟩
theorem own_iterAt {w : World} {g p p' base n : Nat} {s : ByteArray} {e : TypeId} {v : Value} {xs : List Value} (hk : w.heap[g]? = some (.stringIter s p)) (h : w.ownsRow base e 1 v n xs) : (w.iterAt g s p').ownsRow base e 1 v n xs :=
 y0o h (yf6 w g s p') (fun k hv hg => by have hg : k = g := hg; subst hg; exact yb2 hk h hv)
def UnitsOk (w0 : World) (l : List UInt8) (e : Ending) (w' : World) : Prop :=
 ∃ v x us, e = .returned (.tuple #[v, x]) ∧ y1z w' x (Pure.secret l).1 ∧ ((Pure.secret l).1 = 0 → w'.ownsRow w0.heap.size 100 1 v us.length (u16s us) ∧ Pure.low us = (Pure.secret l).2 ∧ us.length ≤ 256) ∧ Below w0.heap.size w0 w'
theorem yhs (s : ByteArray) (l : List UInt8) (hl : s.data.toList = l) (hsz : l.length ≤ 1000000) (w : World) (hT : Tabs w) :
  Calls Tryz.prog 149 #[.string s] w (UnitsOk w l) := by
 have hs : s.size = l.length := by rw [← hl]; simp
 have HV := xhd (valid_any s l hl hsz w hT)
 have HL := xhd hl
 clear hl hT
 obtain ⟨U, hU⟩ : ∃ U, U = Pure.units l := ⟨_, rfl⟩
 rw [← hU] at HV
 have HU := xhd hU
 clear hU
 cases U with
 | none =>
  have hsec := Pure.secret_none HU.out.symm
  have HSEC := xhd hsec
  clear hsec
  go_enter Tryz.func149, Tryz.ntmps149
  go_wp2_with fail
  refine HV.out.mono ?_
  rintro e w1 ⟨rfl, hb1⟩
  have H1 := xhd hb1
  clear hb1 HV
  go_wp2_with fail
  refine (y7e _ 4 _ (by omega)).mono ?_
  rintro e w2 ⟨v, rfl, he2, hb2⟩
  have HE2 := xhd he2
  have H2 := xhd (H1.out.trans (hb2.mono H1.out.size))
  clear he2 hb2
  go_wp2_with fail
  go_ret2
  refine ⟨_, _, [], rfl, ?_, fun h => ?_, H2.out⟩
  ·rw [HSEC.out]; exact HE2.out
  ·rw [HSEC.out] at h; cases h
 | some u =>
  go_enter Tryz.func149, Tryz.ntmps149
  go_wp2_with fail
  refine HV.out.mono ?_
  rintro e w1 ⟨rfl, hb1⟩
  have H1 := xhd hb1
  have hgs := hb1.size
  clear hb1 HV
  go_wp2_with fail
  have hlen := fun k acc (h : Pure.unitsFrom (l.drop k) acc = some u) => Pure.unitsFrom_length _ _ acc u (Nat.le_refl _) h
  have HLEN := xhd hlen
  have hit : (w1.iter s 0).heap[w1.heap.size]? = some (.stringIter s 0) := World.iter_heap w1 s 0
  have hi1 : Below w.heap.size w (w1.iter s 0) := H1.out.alloc H1.out.size _
  obtain ⟨g, hg⟩ : ∃ g, g = w1.heap.size := ⟨_, rfl⟩
  rw [← hg] at hit hgs
  obtain ⟨w2, hw2⟩ : ∃ w2, w2 = w1.iter s 0 := ⟨_, rfl⟩
  rw [← hw2] at hit hi1
  have HI := xhd hit
  have HB := xhd hi1
  clear hit hi1 hlen
  rw [← hg, ← hw2]
  clear hg hw2 H1
  have H0 := HU.out
  go_loopw [4] (fun v wr => ∃ (k : Nat) (us : List Nat), k ≤ l.length ∧ wr.heap[g]? = some (.stringIter s k) ∧ wr.ownsRow w.heap.size 100 1 v us.length (u16s us) ∧ us.length ≤ 256 ∧ Pure.unitsFrom (l.drop k) (Pure.low us) = some u ∧ Below w.heap.size w wr) (fun _ wr => l.length - wr.iterPos g)
  case atStart => exact ⟨0, [], by omega, HI.out, World.ownsRow_nil _ _ _ _, by simp, H0.symm, HB.out⟩
  case round =>
   obtain ⟨k, us, hk, hit, hW, hus, hR, hK⟩ := hrel
   obtain ⟨A2, c2, rfl⟩ := y0c hW
   have hmu : wr.iterPos g = k := by simp [World.iterPos, hit]
   have HIT := xhd hit
   have HW := xhd hW
   have HR := xhd hR
   have HK := xhd hK
   have HMU := xhd hmu
   clear hit hW hR hK hmu H0 HI HB
   by_cases hkl : k < l.length
   ·have hne : l.drop k ≠ [] := by
     intro e
     have := congrArg List.length e
     rw [List.length_drop] at this
     simp at this
     omega
    have hz : (Pure.letter (l.drop k)).2 ≠ 0 := by
     intro h
     have := HR.out
     rw [Pure.unitsFrom_bad _ hne h] at this
     cases this
    have hdec : Utf8.decode s k = Pure.letter (l.drop k) := by
     rw [← yf8 _ hz, ← HL.out, Lib.decodeL_drop]
    have hstep := Pure.unitsFrom_step (Pure.low us) hne hz
    obtain ⟨z1, z2⟩ := Pure.letter_size (l.drop k) hne
    have hn := Pure.letter_num (l.drop k)
    rw [List.length_drop] at z1
    rw [List.drop_drop] at hstep
    have hnext : ∀ ty, (Instr.next (.pointer (some ⟨g, 0, none⟩)) true ty).run Tryz.prog wr = _ := fun ty => Lib.run_next_any_at wr g s k ty HIT.out (by omega)
    rw [hdec] at hnext
    obtain ⟨n, hn'⟩ : ∃ n, n = (Pure.letter (l.drop k)).1 := ⟨_, rfl⟩
    obtain ⟨z, hz'⟩ : ∃ z, z = (Pure.letter (l.drop k)).2 := ⟨_, rfl⟩
    rw [← hn'] at hn hstep hnext
    rw [← hz'] at z1 z2 hz hstep hnext
    have hR2 := hstep.symm.trans HR.out
    rw [← Pure.low_unit16, ← Pure.low_append] at hR2
    have HR2 := xhd hR2
    have hit1 := Lib.iterAt_heap wr g s k (k + z) HIT.out
    have hW1 := own_iterAt (p' := k + z) HIT.out HW.out
    have hb1 := Lib.below_iterAt HK.out hgs s (k + z)
    obtain ⟨w3, hw3⟩ : ∃ w3, w3 = wr.iterAt g s (k + z) := ⟨_, rfl⟩
    rw [← hw3] at hnext hit1 hW1 hb1
    have HIT1 := xhd hit1
    have HW1 := xhd hW1
    have HB1 := xhd hb1
    have HNL := xhd (Pure.unit16_length n)
    clear hR2 hit1 hW1 hb1 hw3 hdec hstep hn' hz' HR HIT HW HK hne
    go_wp2_with fail
    refine (yd6 n hn w3).mono ?_
    rintro e w4 ⟨v4, rfl, hr4, hb4⟩
    have HIT4 := xhd ((hb4.block _ (Array.getElem?_eq_some_iff.1 HIT1.out).1).trans HIT1.out)
    have HW4 := xhd (y0o HW1.out (Keeps.new hb4) (fun _ _ h => h))
    have HB4 := xhd (HB1.out.trans (hb4.mono HB1.out.size))
    have HR4 := xhd hr4
    clear hr4 hb4 hnext HIT1 HW1 HB1
    go_wp2_with (at_builtin; refine y0t ?_)
    unfold Hid
    have hnl := HNL.out
    refine yet rfl (.tmp 16) (.tmp 18) rfl w.heap.size (.slice A2 us.length c2) us.length us rfl rfl HW4.out _ _ (Pure.unit16 n) rfl HR4.out (by omega) HB4.out.size ?_
    intro v5 w5 hown5 hg5 hat5
    have HB5 := xhd (show Below w.heap.size w w5 from HB4.out.grown hg5 HB4.out.size (fun k hk => y0f HW4.out k hk))
    have HIT5 := xhd ((hg5.block _ (Array.getElem?_eq_some_iff.1 HIT4.out).1 (fun h => yb2 HIT4.out HW4.out h.symm)).trans HIT4.out)
    obtain ⟨A5, c5, rfl⟩ := y0c hown5
    obtain ⟨vs, hvs⟩ : ∃ vs, vs = us ++ Pure.unit16 n := ⟨_, rfl⟩
    rw [← hvs] at hown5 HR2 ⊢
    have hvl : us.length < vs.length ∧ vs.length ≤ us.length + 2 := by rw [hvs, List.length_append]; omega
    have HO5 := xhd hown5
    clear hown5 hg5 hat5 hvs HNL hnl HR4 HW4 HIT4 HB4
    by_cases hbig : 256 < vs.length
    ·have d0 : decide ((256 : Int) < (vs.length : Int)) = true := decide_eq_true (by omega)
     have hl2 := HLEN.out _ _ HR2.out
     rw [Pure.low_length] at hl2
     have HSEC := xhd (Pure.secret_long HU.out.symm (by omega))
     clear hl2
     go_wp2_with fail
     refine (y7e _ 3 _ (by omega)).mono ?_
     rintro e w6 ⟨v6, rfl, he6, hb6⟩
     have HE6 := xhd he6
     have H6 := xhd (HB5.out.trans (hb6.mono HB5.out.size))
     clear he6 hb6
     go_wp2_with fail
     go_ret2
     refine ⟨_, _, [], rfl, ?_, fun h => ?_, H6.out⟩
     ·rw [HSEC.out]; exact HE6.out
     ·rw [HSEC.out] at h; cases h
    ·have d0 : decide ((256 : Int) < (vs.length : Int)) = false := decide_eq_false (by omega)
     go_wp2_with fail
     go_roundw
     case rel => exact ⟨k + z, vs, by omega, HIT5.out, HO5.out, by omega, HR2.out, HB5.out⟩
     case measure =>
      have e2 : w5.iterPos g = k + z := by simp [World.iterPos, HIT5.out]
      rw [HMU.out, e2]
      omega
   ·have hkk : k = l.length := by omega
    subst hkk
    have hnext : ∀ ty, (Instr.next (.pointer (some ⟨g, 0, none⟩)) true ty).run Tryz.prog wr = _ := fun ty => Lib.run_next_end_at wr g s l.length ty HIT.out (by omega)
    have hend := HR.out
    rw [List.drop_length, Pure.unitsFrom_nil] at hend
    injection hend with hend
    have hsec : Pure.secret l = (0, Pure.low us) := by
     rw [Pure.secret_some HU.out.symm (by rw [← hend, Pure.low_length]; omega), hend]
    have HSEC := xhd hsec
    clear hend hsec HR
    go_wp2_with fail
    go_ret2
    refine ⟨_, _, us, rfl, ?_, fun _ => ⟨HW.out, ?_, hus⟩, HK.out⟩
    ·rw [HSEC.out]; exact .inl ⟨rfl, rfl⟩
    ·rw [HSEC.out]
abbrev ints (l : List Nat) : List Value := l.map fun (b : Nat) => Value.int .i64 (b : Int)
theorem ints_at (l : List Nat) (j : Nat) (h : j < l.length) : (ints l)[j]? = some (.int .i64 ((l.getD j 0 : Nat) : Int)) := by
 rw [List.getElem?_map, List.getElem?_eq_getElem h, List.getD_eq_getElem?_getD, List.getElem?_eq_getElem h]; rfl
theorem int_info : (Tryz.prog.info? 3).map (fun i => (i.zero, i.size, i.bytes)) = some (some (.int .i64 0), 1, 8) := by kernel_rfl
theorem irow_new (w : World) (l : List Nat) (cs : Array Value) (n : Nat) (hc : cs = (ints l).toArray) (hn : n = l.length) (hl : l.length ≤ 100000) : Row (w.alloc (.cells cs 3)) (fun b => b = w.heap.size) 1 (.slice (some ⟨w.heap.size, 0, none⟩) n n) l.length (ints l) := by
 subst hc hn
 exact Row.block (Blk.new w 3 (ints l).toArray) rfl (by simp) (by unfold maxLen; omega) (Nat.le_refl _)
theorem take_snoc {α : Type} (l : List α) (d : α) (k : Nat) (h : k < l.length) : l.take (k + 1) = l.take k ++ [l.getD k d] := by
 rw [List.getD_eq_getElem?_getD, List.getElem?_eq_getElem h]
 exact (List.take_append_getElem h).symm
section
variable {w : World} {ops : Array Oper} {rest : List Oper} {o : Oper} {a : Act} {Q : Exit → Act → World → Prop}
theorem made_bytes (n : Nat) : madeCells (Value.int .u8 0).cells (n * 1) = (u8s (List.replicate n 0)).toArray := by
 rw [show (Value.int .u8 0).cells = #[.int .u8 0] from rfl]
 apply Array.ext_getElem?
 intro i
 simp only [madeCells, Nat.mul_one]
 by_cases h : i < n
 ·simp [h, Nat.mod_one]
 ·simp [h]
theorem y7j (hg : o.guard = none) (l c : Operand) (hop : o.op = Op.makeSlice 29 l c) (n : Nat) (kl kc : IntKind) (hl : a.eval l = .int kl (n : Int)) (hc : a.eval c = .int kc (n : Int)) (hn : n ≤ 1000000)
  (hK : ∀ w', Blk w' w.heap.size 5 (u8s (List.replicate n 0)).toArray → Keeps y01 w w' → w'.heap.size = w.heap.size + 1 → wpList Tryz.prog ops Q rest (a.put o.dst (.slice (some ⟨w.heap.size, 0, none⟩) n n)) w') :
  wpList Tryz.prog ops Q (o :: rest) a w := by
 obtain ⟨i0, hi0, hz0, hz1, hz2⟩ := info_parts y5a
 refine wpList_plain hg fun K hK' => ?_
 have hrun := run_make (P := Tryz.prog) w 29 5 i0 _ Tryz.underlying29 hi0 hz0 kl kc n n (by omega) (by omega) (by rw [hz2]; omega) (by omega)
 rw [hz1, Int.toNat_natCast, made_bytes] at hrun
 obtain ⟨w', hw'⟩ : ∃ w', w' = w.alloc (.cells (u8s (List.replicate n 0)).toArray 5) := ⟨_, rfl⟩
 rw [← hw'] at hrun
 unfold Oper.wp
 simp [execOp, hop, hl, hc, hrun, Result.andThen]
 exact hK' _ _ (hK w' (by rw [hw']; exact Blk.new w _ _) (by rw [hw']; exact (Keeps.refl _ w).alloc _) (by rw [hw']; simp))
end
section
variable {P : Program} {ops : Array Oper} {Q : Exit → Act → World → Prop} {md : Region.Mode} {S : World → Prop} {z : Nat}
def y29 (P : Program) (md : Region.Mode) (ops : Array Oper) (Q : Exit → Act → World → Prop) (S : World → Prop) (z : Nat) : Nat → Array Bool → Act → World → Prop
 | 0, listed, a, w => Region.ready md ops listed = [] ∧ Q .normal a w
 | fuel + 1, listed, a, w =>
  (Region.ready md ops listed = [] → Q .normal a w) ∧
  ∀ i ∈ Region.ready md ops listed, wpOp P ops Q i (fun a' w' => (i ≠ z → S w') ∧ y29 P md ops Q S z fuel (listed.setIfInBounds i true) a' w') a w
theorem y88 : ∀ (fuel : Nat) (listed : Array Bool) (a : Act) (w : World), y29 P md ops Q S z fuel listed a w → wpAny P md ops Q fuel listed a w
 | 0, _, _, _, h => h
 | fuel + 1, _, _, _, h => ⟨h.1, fun i hi => wpOp_mono (fun a' w' h' => y88 fuel _ a' w' h'.2) (h.2 i hi)⟩
inductive Waits (md : Region.Mode) (ops : Array Oper) (z : Nat) : Nat → Prop
 | one {o : Oper} {e : Edge} (ho : ops[z]? = some o) (he : e ∈ o.after) (hb : Region.binds md e = true) : Waits md ops z e.on
 | more {k : Nat} {o : Oper} {e : Edge} (h : Waits md ops z k) (ho : ops[k]? = some o) (he : e ∈ o.after) (hb : Region.binds md e = true) : Waits md ops z e.on
def ycx (md : Region.Mode) : List Edge → Array Bool → Array Bool
 | [], r => r
 | e :: es, r => ycx md es (if Region.binds md e = true then r.setIfInBounds e.on true else r)
def y93 (md : Region.Mode) (ops : Array Oper) : Nat → Array Bool → Array Bool
 | 0, r => r
 | k + 1, r => y93 md ops k (if r.getD k false = true then (match ops[k]? with | some o => ycx md o.after.toList r | none => r) else r)
def y5b (md : Region.Mode) (ops : Array Oper) (z i : Nat) : Bool := (y93 md ops ops.size ((Array.replicate ops.size false).setIfInBounds z true)).getD i false && i != z
theorem y7d {r : Array Bool} {i j : Nat} (h : (r.setIfInBounds i true).getD j false = true) : j = i ∨ r.getD j false = true := by
 by_cases hij : i = j
 ·exact .inl hij.symm
 ·rw [getD_set_ne false hij] at h
  exact .inr h
theorem y8c {z : Nat} (hz : ∀ e, Region.binds md e = true → (∃ k o, ops[k]? = some o ∧ e ∈ o.after ∧ (k = z ∨ Waits md ops z k)) → Waits md ops z e.on) :
  ∀ (es : List Edge) (r : Array Bool), (∀ e ∈ es, ∃ k o, ops[k]? = some o ∧ e ∈ o.after ∧ (k = z ∨ Waits md ops z k)) → (∀ j, r.getD j false = true → j = z ∨ Waits md ops z j) →
   ∀ j, (ycx md es r).getD j false = true → j = z ∨ Waits md ops z j
 | [], _, _, hr => hr
 | e :: es, r, he, hr => by
  refine y8c hz es _ (fun e' h' => he e' (by simp [h'])) (fun j hj => ?_)
  split at hj
  ·rename_i hb
   rcases y7d hj with rfl | hj
   ·exact .inr (hz e hb (he e (by simp)))
   ·exact hr j hj
  ·exact hr j hj
theorem yer {z : Nat} (e : Edge) (hb : Region.binds md e = true) (h : ∃ k o, ops[k]? = some o ∧ e ∈ o.after ∧ (k = z ∨ Waits md ops z k)) : Waits md ops z e.on := by
 obtain ⟨k, o, ho, he, rfl | hk⟩ := h
 ·exact .one ho he hb
 ·exact .more hk ho he hb
theorem y6y {z : Nat} : ∀ (k : Nat) (r : Array Bool), (∀ j, r.getD j false = true → j = z ∨ Waits md ops z j) → ∀ j, (y93 md ops k r).getD j false = true → j = z ∨ Waits md ops z j
 | 0, _, hr => hr
 | k + 1, r, hr => by
  refine y6y k _ (fun j hj => ?_)
  split at hj
  ·rename_i hk
   cases ho : ops[k]? with
   | none => rw [ho] at hj; exact hr j hj
   | some o =>
    rw [ho] at hj
    exact y8c (fun e hb h => yer e hb h) o.after.toList r (fun e he => ⟨k, o, ho, by simpa using he, hr k hk⟩) hr j hj
  ·exact hr j hj
theorem rep_false (n j : Nat) : (Array.replicate n false).getD j false = false := by
 rw [Array.getD_eq_getD_getElem?, Array.getElem?_replicate]
 split <;> rfl
theorem y9q {z i : Nat} (h : y5b md ops z i = true) : Waits md ops z i := by
 unfold y5b at h
 simp only [Bool.and_eq_true, bne_iff_ne, ne_eq] at h
 rcases y6y (md := md) (ops := ops) (z := z) ops.size _ (fun j hj => by
  rcases y7d hj with rfl | hj
  ·exact .inl rfl
  ·rw [rep_false] at hj
   cases hj) i h.1 with h1 | h1
 ·exact absurd h1 h.2
 ·exact h1
def y61 (md : Region.Mode) (ops : Array Oper) (listed : Array Bool) : Prop :=
 ∀ (j : Nat) (o : Oper), ops[j]? = some o → listed.getD j false = true → ∀ e ∈ o.after, Region.binds md e = true → listed.getD e.on false = true
def y9j (md : Region.Mode) (ops : Array Oper) (listed : Array Bool) : Bool :=
 (List.range ops.size).all fun j => !listed.getD j false || match ops[j]? with
  | none => true
  | some o => o.after.all fun e => !Region.binds md e || listed.getD e.on false
theorem closed_of {listed : Array Bool} (h : y9j md ops listed = true) : y61 md ops listed := by
 intro j o ho hl e he hb
 simp only [y9j, List.all_eq_true, List.mem_range] at h
 have := h j (Array.getElem?_eq_some_iff.1 ho).1
 rw [hl, ho] at this
 simp only [Bool.not_true, Bool.false_or] at this
 have := Array.all_eq_true'.1 this e he
 rw [hb] at this
 simpa using this
theorem y61.set {listed : Array Bool} (h : y61 md ops listed) {i : Nat} (hr : i ∈ Region.ready md ops listed) : y61 md ops (listed.setIfInBounds i true) := by
 intro j o ho hl e he hb
 by_cases hij : i = j
 ·subst hij
  obtain ⟨_, o', ho', hall⟩ := mem_ready.1 hr
  rw [ho] at ho'
  injection ho' with ho'
  subst ho'
  exact getD_set_true (hall e he hb)
 ·rw [getD_set_ne false hij] at hl
  exact getD_set_true (h j o ho hl e he hb)
theorem yfk {listed : Array Bool} (hc : y61 md ops listed) {z i : Nat} (h : Waits md ops z i) (hz : ∀ o, ops[z]? = some o → ∀ e ∈ o.after, Region.binds md e = true → listed.getD e.on false = true) : listed.getD i false = true := by
 induction h with
 | one ho he hb => exact hz _ ho _ he hb
 | more _ ho he hb ih => exact hc _ _ ho ih _ he hb
theorem y9b {i : Nat} {listed : Array Bool} (hc : y61 md ops listed) (h : y5b md ops z i = true) (hi : listed.getD i true = false) (hs : i < listed.size) : z ∉ Region.ready md ops listed := by
 intro hz
 obtain ⟨_, o, ho, hall⟩ := mem_ready.1 hz
 have h1 := yfk hc (y9q h) (fun o' ho' e he hb => by
  rw [ho] at ho'
  injection ho' with ho'
  subst ho'
  exact hall e he hb)
 simp [hs] at h1 hi
 rw [hi] at h1
 cases h1
theorem yfm {i : Nat} {oi : Oper} {v : Value} (hi : ops[i]? = some oi) (hsel : ∀ (j : Nat) (o : Oper) cs b, ops[j]? = some o → o.op ≠ .select cs b)
  (hQ : ∀ c a w, Q (.panic c) (a.put oi.dst v) w → Q (.panic c) a w) (hz : y5b md ops z i = true) :
  ∀ (fuel : Nat) (listed : Array Bool) (a : Act) (w : World),
   (∀ j oj, ops[j]? = some oj → j ≠ i → listed.getD j true = false → (∀ e ∈ oj.after, Region.binds md e = true → e.on ≠ i) → oi.apart ops oj = true) →
   y61 md ops listed → i < listed.size → i ∈ Region.ready md ops listed → YieldsIf P ops S oi v a → S w →
   y29 P md ops Q S z fuel (listed.setIfInBounds i true) (a.put oi.dst v) w → y29 P md ops Q S z (fuel + 1) listed a w := by
 intro fuel
 induction fuel with
 | zero =>
  intro listed a w _ _ _ hr hy hS H
  refine ⟨fun h => (by rw [h] at hr; cases hr), fun j hj => ?_⟩
  by_cases hji : j = i
  ·subst hji; exact hy.wpOp hi hS ⟨fun _ => hS, H⟩
  ·have := ready_mono hj hji
   rw [H.1] at this
   cases this
 | succ fuel ih =>
  intro listed a w hfree hcl hsz hr hy hS H
  refine ⟨fun h => (by rw [h] at hr; cases hr), fun j hj => ?_⟩
  by_cases hji : j = i
  ·subst hji; exact hy.wpOp hi hS ⟨fun _ => hS, H⟩
  ·have hjz : j ≠ z := fun e => y9b hcl hz (mem_ready.1 hr).1 hsz (e ▸ hj)
   have h1 := H.2 j (ready_mono hj hji)
   obtain ⟨hjun, oj, hoj, hall⟩ := mem_ready.1 hj
   have hnot : ∀ e ∈ oj.after, Region.binds md e = true → e.on ≠ i := fun e he hb heq => by
    have h1 := hall e he hb
    have h0 := (mem_ready.1 hr).1
    rw [heq] at h1
    simp [hsz] at h0 h1
    rw [h0] at h1
    cases h1
   have h2 := wpOp_putIf hoj (hfree j oj hoj hji hjun hnot) (fun cs b => hsel i oi cs b hi) (fun cs b => hsel j oj cs b hoj) hQ hy h1
   have hfree' : ∀ k ok, ops[k]? = some ok → k ≠ i → (listed.setIfInBounds j true).getD k true = false →
     (∀ e ∈ ok.after, Region.binds md e = true → e.on ≠ i) → oi.apart ops ok = true := fun k ok hk hki hun hno => by
    refine hfree k ok hk hki ?_ hno
    by_cases hjk : j = k
    ·subst hjk; exact hjun
    ·rw [getD_set_ne true hjk] at hun; exact hun
   refine wpOp_mono (fun a' w' h3 => ⟨fun _ => h3.2.1 hjz, ih (listed.setIfInBounds j true) a' w' hfree' (hcl.set hj) (by simpa using hsz) (ready_mono hr (Ne.symm hji)) h3.1 (h3.2.1 hjz) ?_⟩) h2
   rw [Array.setIfInBounds_comm _ _ hji]
   exact h3.2.2
theorem y00 {i : Nat} {oi : Oper} {v : Value} {fuel : Nat} {listed : Array Bool} {a : Act} {w : World} (hi : ops[i]? = some oi)
  (hc : (Region.noSelect ops && Region.free md ops listed i && (Region.ready md ops listed).contains i && y5b md ops z i && decide (i < listed.size) && y9j md ops listed) = true)
  (hQ : ∀ c a w, Q (.panic c) (a.put oi.dst v) w → Q (.panic c) a w) (hy : YieldsIf P ops S oi v a) (hS : S w)
  (h : y29 P md ops Q S z fuel (listed.setIfInBounds i true) (a.put oi.dst v) w) : y29 P md ops Q S z (fuel + 1) listed a w := by
 simp only [Bool.and_eq_true, decide_eq_true_eq] at hc
 obtain ⟨⟨⟨⟨⟨h1, h2⟩, h3⟩, h4⟩, h5⟩, h6⟩ := hc
 exact yfm hi (Region.noSelect_spec h1) hQ h4 fuel listed a w (Region.free_spec hi h2) (closed_of h6) h5 (by simpa using h3) hy hS h
theorem y03 {i : Nat} {o : Oper} {fuel : Nat} {listed : Array Bool} {a : Act} {w : World} (hr : Region.ready md ops listed = [i]) (ho : ops[i]? = some o)
  (h : ∀ K' : Act → World → Prop, Shut (∀ a w, (i ≠ z → S w) → y29 P md ops Q S z fuel (listed.setIfInBounds i true) a w → K' a w) →
   if Region.wanted o (yielded ops a.tmps) = true then Oper.wp P o a w K' Q else K' (a.put o.dst undef) w) : y29 P md ops Q S z (fuel + 1) listed a w :=
 ⟨fun h0 => (by rw [h0] at hr; cases hr), fun j hj => by
  rw [hr] at hj
  obtain rfl : j = i := by simpa using hj
  exact wpOp_step ho (fun K' hK => h K' (fun a w hS hW => hK a w ⟨hS, hW⟩))⟩
def y45 (size : Nat) : Nat → Array Bool
 | 0 => Array.replicate size false
 | n + 1 => (y45 size n).setIfInBounds n true
theorem y2t {n size : Nat} {oi : Oper} {v : Value} {fuel : Nat} {a : Act} {w : World} (hi : ops[n]? = some oi)
  (hc : (Region.noSelect ops && Region.free md ops (y45 size n) n && (Region.ready md ops (y45 size n)).contains n && y5b md ops z n && decide (n < (y45 size n).size) && y9j md ops (y45 size n)) = true)
  (hQ : ∀ c a w, Q (.panic c) (a.put oi.dst v) w → Q (.panic c) a w) (hy : YieldsIf P ops S oi v a) (hS : S w)
  (h : y29 P md ops Q S z fuel (y45 size (n + 1)) (a.put oi.dst v) w) : y29 P md ops Q S z (fuel + 1) (y45 size n) a w :=
 y00 hi hc hQ hy hS h
theorem y41 {n size : Nat} {o : Oper} {fuel : Nat} {a : Act} {w : World} (hr : Region.ready md ops (y45 size n) = [n]) (ho : ops[n]? = some o)
  (h : ∀ K' : Act → World → Prop, Shut (∀ a w, (n ≠ z → S w) → y29 P md ops Q S z fuel (y45 size (n + 1)) a w → K' a w) →
   if Region.wanted o (yielded ops a.tmps) = true then Oper.wp P o a w K' Q else K' (a.put o.dst undef) w) : y29 P md ops Q S z (fuel + 1) (y45 size n) a w :=
 y03 hr ho h
theorem y09 {listed : Array Bool} {a : Act} {w : World} (hr : Region.ready md ops listed = []) (h : Q .normal a w) :
  ∀ fuel, y29 P md ops Q S z fuel listed a w
 | 0 => ⟨hr, h⟩
 | _ + 1 => ⟨fun _ => h, by rw [hr]; simp⟩
theorem y0b {id : Nat} {a : Act} {w : World} (S : World → Prop) (z size : Nat) (hsz : ops.size = size) (hm : P.follows .mixedOrders = true) (hS : S w.drew)
  (h : Go.RowKit.Hid (S w.drew) → y29 P .any ops Q S z size (y45 size 0) a w.drew) : (Code.region id ops true).wp P Q a w :=
 wp_region_any hm (by rw [hsz]; exact y88 size _ _ _ (h hS))
end
theorem y7b (x y : UInt32) : bits .and .u32 (x.toNat : Int) (y.toNat : Int) = (((x &&& y).toNat : Nat) : Int) := by
 rw [u32_and_nat x.toNat y.toNat x.toNat_lt y.toNat_lt, UInt32.toNat_and]
theorem y8z (x y : UInt32) : bits .or .u32 (x.toNat : Int) (y.toNat : Int) = (((x ||| y).toNat : Nat) : Int) := by
 rw [u32_or_nat x.toNat y.toNat x.toNat_lt y.toNat_lt, UInt32.toNat_or]
theorem yda (x y : UInt32) : bits .xor .u32 (x.toNat : Int) (y.toNat : Int) = (((x ^^^ y).toNat : Nat) : Int) := by
 rw [u32_xor_nat x.toNat y.toNat x.toNat_lt y.toNat_lt, UInt32.toNat_xor]
theorem not_u32 (x : UInt32) : bits .xor .u32 IntKind.u32.max (x.toNat : Int) = (((~~~x).toNat : Nat) : Int) := by
 have h : (-1 : UInt32).toNat = 4294967295 := by decide
 have h2 : ~~~x = (-1 : UInt32) ^^^ x := by
  apply UInt32.eq_of_toBitVec_eq
  simp
 have := yda (-1) x
 rw [h] at this
 rw [h2, ← this]
 rfl
theorem y3e (x y : UInt32) : ((x.toNat : Int) + (y.toNat : Int)) % 4294967296 = (((x + y).toNat : Nat) : Int) := by
 rw [UInt32.toNat_add]
 omega
theorem shl_u32 (x : UInt32) (n : Nat) (hn : n < 32) : (x.toNat : Int) * 2 ^ n % 4294967296 = (((x <<< UInt32.ofNat n).toNat : Nat) : Int) := by
 rw [UInt32.toNat_shiftLeft]
 have : (UInt32.ofNat n).toNat % 32 = n := by simp; omega
 rw [this, Nat.shiftLeft_eq, Int.natCast_emod, Int.natCast_mul, Int.natCast_pow]
 rfl
theorem shr_u32 (x : UInt32) (n : Nat) (hn : n < 32) : (x.toNat : Int) / 2 ^ n = (((x >>> UInt32.ofNat n).toNat : Nat) : Int) := by
 rw [UInt32.toNat_shiftRight]
 have : (UInt32.ofNat n).toNat % 32 = n := by simp; omega
 rw [this, Nat.shiftRight_eq_div_pow, Int.natCast_ediv, Int.natCast_pow]
 rfl
theorem wide_u8 (b : UInt8) : ((b.toNat : Nat) : Int) = ((b.toUInt32.toNat : Nat) : Int) := by simp
abbrev u32s (l : List UInt32) : List Value := l.map fun b => Value.int .u32 b.toNat
theorem y59 (l : List UInt32) (j : Nat) (h : j < l.length) : (u32s l)[j]? = some (.int .u32 ((l.getD j 0).toNat)) := by
 rw [List.getElem?_map, List.getElem?_eq_getElem h, List.getD_eq_getElem?_getD, List.getElem?_eq_getElem h]; rfl
theorem u32s_set (l : List UInt32) (j : Nat) (x : UInt32) : (u32s l).toArray.setIfInBounds j (.int .u32 x.toNat) = (u32s (l.set j x)).toArray := by
 apply Array.toList_inj.1
 simp [List.map_set]
end Go.Proofs.YtmgicbckgpdkcaaGreatDoor
