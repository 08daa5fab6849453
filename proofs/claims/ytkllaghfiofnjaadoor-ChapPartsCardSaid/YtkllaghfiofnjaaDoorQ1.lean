/- Small lemmas of my own: Go's int as a number, a block that is known whole, what a call leaves as it was. -/
import Derived.WalkKit
import Derived.Lib.Hide
import Derived.Deep.QuietTactic
import Derived.BigQuiet
import Derived.Deep.Draws
import Derived.Maps.AppendAt
import Derived.Laws.AppendOwnNone
import Derived.Deep.AppendLies
import Derived.WalkSpells
import Derived.WalkLawsBesides
import Derived.Deep.DeepCutAuto
import Derived.Deep.CutBlock
import Derived.Deep.RegionHeld3
import Derived.Deep.DeepFit
import Derived.Deep.Slices
import Derived.Deep.Fields
import Derived.ChangeSame
import Derived.ProofKit
import Derived.OpenShut
import Derived.Test.YtkllaghfiofnjaaDoorRows
import Derived.LaidEql
import Derived.Stop.Asserts
import Derived.RowKitTokens
import Derived.ChangeVars
import Derived.JoinedOf
import Derived.RowKit
import Derived.LaidLaws
import Derived.LaidHandle
import Derived.Stop.Joined
namespace Go.Proofs.YtkllaghfiofnjaaDoor
open Go.RowKit

theorem ofInt64_toNat (a : Nat) (ha : a < 18446744073709551616) : (BitVec.ofInt 64 (a : Int)).toNat = a := by
  rw [BitVec.toNat_ofInt]; omega

theorem i64_and_nat (a b : Nat) (ha : a < 9223372036854775808) (hb : b < 9223372036854775808) : bits .and .i64 (a : Int) (b : Int) = ((a &&& b : Nat) : Int) := by
  have h : a &&& b ≤ a := Nat.and_le_left
  show IntKind.i64.wrap (((BitVec.ofInt 64 (a : Int)) &&& (BitVec.ofInt 64 (b : Int))).toNat : Int) = _
  rw [BitVec.toNat_and, ofInt64_toNat a (by omega), ofInt64_toNat b (by omega)]
  exact IntWalk.i64_in _ (by omega)
theorem i64_or_nat (a b : Nat) (ha : a < 9223372036854775808) (hb : b < 9223372036854775808) : bits .or .i64 (a : Int) (b : Int) = ((a ||| b : Nat) : Int) := by
  have h : a ||| b < 2 ^ 63 := Nat.or_lt_two_pow (by omega) (by omega)
  show IntKind.i64.wrap (((BitVec.ofInt 64 (a : Int)) ||| (BitVec.ofInt 64 (b : Int))).toNat : Int) = _
  rw [BitVec.toNat_or, ofInt64_toNat a (by omega), ofInt64_toNat b (by omega)]
  exact IntWalk.i64_in _ (by omega)
theorem i64_and (a b : Int) (h1 : 0 ≤ a) (h2 : a < 9223372036854775808) (h3 : 0 ≤ b) (h4 : b < 9223372036854775808) : bits .and .i64 a b = ((a.toNat &&& b.toNat : Nat) : Int) := by
  have := i64_and_nat a.toNat b.toNat (by omega) (by omega)
  rwa [Int.toNat_of_nonneg h1, Int.toNat_of_nonneg h3] at this
theorem i64_or (a b : Int) (h1 : 0 ≤ a) (h2 : a < 9223372036854775808) (h3 : 0 ≤ b) (h4 : b < 9223372036854775808) : bits .or .i64 a b = ((a.toNat ||| b.toNat : Nat) : Int) := by
  have := i64_or_nat a.toNat b.toNat (by omega) (by omega)
  rwa [Int.toNat_of_nonneg h1, Int.toNat_of_nonneg h3] at this

theorem two_pow_le32 (n : Nat) (h : n ≤ 32) : (2 : Int) ^ n ≤ 4294967296 := by
  have : (2 : Nat) ^ n ≤ 2 ^ 32 := Nat.pow_le_pow_right (by omega) h
  have e : ((2 ^ n : Nat) : Int) = (2 : Int) ^ n := by simp
  omega
theorem two_pow_pos (n : Nat) : 0 < (2 : Int) ^ n := Int.pow_pos (by omega)
/-- x masked by 2^n - 1. -/
theorem mask_any (x : Int) (n : Nat) (hn : n ≤ 32) (h0 : 0 ≤ x) (h1 : x < 9223372036854775808) :
    bits .and .i64 x (wrap64 (wrap64 (2 ^ n) - 1)) = x % 2 ^ n := by
  have a := two_pow_le32 n hn
  have b := two_pow_pos n
  rw [IntWalk.wrap64_in (2 ^ n) (by omega), IntWalk.wrap64_in _ (by omega), i64_and _ _ h0 h1 (by omega) (by omega)]
  have e : ((2 : Int) ^ n - 1).toNat = 2 ^ n - 1 := by
    have : ((2 ^ n : Nat) : Int) = (2 : Int) ^ n := by simp
    have := Nat.one_le_two_pow (n := n); omega
  rw [e, Nat.and_two_pow_sub_one_eq_mod]
  have : x = ((x.toNat : Nat) : Int) := by omega
  rw [this]; simp

/-- To halt a walk at a place: the arm '(at_builtin; refine stopHere ?_)', then 'unfold Hid'. -/
theorem stopHere {p : Prop} (h : Hid p) : p := h
/-- Block g holds just the cells cs of element type t, none frozen. -/
def Blk (w : World) (g : Nat) (t : TypeId) (cs : Array Value) : Prop := w.heap[g]? = some (.cells cs t (0, 0))

section
variable {w w' : World} {g : Nat} {t : TypeId} {cs : Array Value}
theorem Blk.lt (h : Blk w g t cs) : g < w.heap.size := (Array.getElem?_eq_some_iff.1 h).1
theorem Blk.cell (h : Blk w g t cs) (i : Nat) : w.cell? ⟨g, i, none⟩ = cs[i]? := by
  unfold Blk at h; simp [World.cell?, h]
theorem Blk.frozen (h : Blk w g t cs) (i : Nat) : w.frozen? ⟨g, i, none⟩ = false := by
  unfold Blk at h; simp [World.frozen?, h]
theorem Blk.new (w : World) (t : TypeId) (cs : Array Value) : Blk (w.alloc (.cells cs t)) w.heap.size t cs := by
  show (w.heap.push _)[w.heap.size]? = _
  simp
theorem Blk.drew (h : Blk w g t cs) : Blk w.drew g t cs := h
theorem Blk.drewN (h : Blk w g t cs) (n : Nat) : Blk (w.drewN n) g t cs := h
theorem Blk.alloc (h : Blk w g t cs) (o : Obj) : Blk (w.alloc o) g t cs := (Below.heap_alloc w o g h.lt).trans h
theorem Blk.set (h : Blk w g t cs) (i : Nat) (u : Value) : Blk (w.setCell ⟨g, i, none⟩ u) g t (cs.setIfInBounds i u) := by
  unfold Blk at h ⊢
  simp [World.setCell, Array.getElem?_modify, h]
theorem Blk.far (h : Blk w g t cs) {p : Addr} (hp : g ≠ p.block) (u : Value) : Blk (w.setCell p u) g t cs := (Below.heap_setCell w p u g hp).trans h
end

/-- No block. -/
def nobody : Nat → Prop := fun _ => False
/-- The block g alone. -/
def only (g : Nat) : Nat → Prop := fun k => k = g
theorem only_self (g : Nat) : only g g := rfl
/-- Of the blocks that were there all but those of S are as they were. -/
structure Keeps (S : Nat → Prop) (w w' : World) : Prop where
  os : w'.os = w.os
  tape : w'.tape = w.tape
  output : w'.output = w.output
  size : w.heap.size ≤ w'.heap.size
  block : ∀ k, k < w.heap.size → ¬ S k → w'.heap[k]? = w.heap[k]?

theorem Keeps.refl (S : Nat → Prop) (w : World) : Keeps S w w := ⟨rfl, rfl, rfl, Nat.le_refl _, fun _ _ _ => rfl⟩
theorem Keeps.trans {S : Nat → Prop} {a b c : World} (h : Keeps S a b) (k : Keeps S b c) : Keeps S a c :=
  ⟨k.os.trans h.os, k.tape.trans h.tape, k.output.trans h.output, Nat.le_trans h.size k.size, fun i hi hs => (k.block i (Nat.lt_of_lt_of_le hi h.size) hs).trans (h.block i hi hs)⟩
/-- What the second step may turn lies in T, which is new to the first one's world or in S. -/
theorem Keeps.trans' {S T : Nat → Prop} {a b c : World} (h : Keeps S a b) (k : Keeps T b c) (hT : ∀ i, T i → i < a.heap.size → S i) : Keeps S a c :=
  ⟨k.os.trans h.os, k.tape.trans h.tape, k.output.trans h.output, Nat.le_trans h.size k.size,
    fun i hi hs => (k.block i (Nat.lt_of_lt_of_le hi h.size) (fun ht => hs (hT i ht hi))).trans (h.block i hi hs)⟩
theorem Keeps.mono {S T : Nat → Prop} {a b : World} (h : Keeps S a b) (hT : ∀ i, S i → T i) : Keeps T a b :=
  ⟨h.os, h.tape, h.output, h.size, fun i hi hs => h.block i hi (fun x => hs (hT i x))⟩
theorem Keeps.of_below {a b : World} (h : Below a.heap.size a b) : Keeps (fun _ => False) a b := ⟨h.os, h.tape, h.output, h.size, fun k hk _ => h.block k hk⟩
theorem Keeps.of_drewN {w w' : World} {n : Nat} (h : w' = w.drewN n) : Keeps nobody w w' := by subst h; exact ⟨rfl, rfl, rfl, Nat.le_refl _, fun _ _ _ => rfl⟩
theorem Keeps.new {a b : World} (h : Below a.heap.size a b) : Keeps nobody a b := Keeps.of_below h
theorem Below.quiet {B : Nat} {a b c : World} (h : Below B a b) (k : Keeps nobody b c) (hB : B ≤ b.heap.size) : Below B a c :=
  h.trans ⟨k.os, k.tape, k.output, k.size, fun i hi => k.block i (by omega) (fun x => x)⟩
theorem Keeps.to_below {a b : World} (h : Keeps (fun _ => False) a b) : Below a.heap.size a b := ⟨h.os, h.tape, h.output, h.size, fun k hk => h.block k hk (fun x => x)⟩
/-- Seen from an older world, whatever is newer may turn. -/
theorem Below.keeps {B : Nat} {S : Nat → Prop} {a b c : World} (h : Below B a b) (k : Keeps S b c) (hB : B ≤ b.heap.size) (hS : ∀ i, S i → B ≤ i) : Below B a c :=
  h.trans ⟨k.os, k.tape, k.output, k.size, fun i hi => k.block i (by omega) (fun x => by have := hS i x; omega)⟩
theorem Below.drewN {B : Nat} {a w : World} (h : Below B a w) (n : Nat) : Below B a (w.drewN n) := ⟨h.os, h.tape, h.output, h.size, h.block⟩
theorem Keeps.drew {S : Nat → Prop} {a w : World} (h : Keeps S a w) : Keeps S a w.drew := ⟨h.os, h.tape, h.output, h.size, h.block⟩
theorem Keeps.drewN {S : Nat → Prop} {a w : World} (h : Keeps S a w) (n : Nat) : Keeps S a (w.drewN n) := ⟨h.os, h.tape, h.output, h.size, h.block⟩
theorem Keeps.alloc {S : Nat → Prop} {a w : World} (h : Keeps S a w) (o : Obj) : Keeps S a (w.alloc o) :=
  h.trans ⟨rfl, rfl, rfl, by simp, fun k hk _ => Below.heap_alloc w o k hk⟩
theorem Keeps.setCell {S : Nat → Prop} {a w : World} (h : Keeps S a w) {p : Addr} (hp : p.block < a.heap.size → S p.block) (u : Value) : Keeps S a (w.setCell p u) :=
  ⟨h.os, h.tape, h.output, by simpa [World.setCell] using h.size, fun k hk hs =>
    (Below.heap_setCell w p u k (fun e => hs (e ▸ hp (e ▸ hk)))).trans (h.block k hk hs)⟩
theorem Keeps.store {S : Nat → Prop} {a w : World} (h : Keeps S a w) (g i : Nat) (hg : g < a.heap.size → S g) (u : Value) : Keeps S a (w.setCell ⟨g, i, none⟩ u) := h.setCell (p := ⟨g, i, none⟩) hg u
theorem Keeps.grown {S : Nat → Prop} {a w w' : World} {row : Option Nat} (h : Keeps S a w) (hg : w.grownBy w' row) (hr : ∀ k, row = some k → k < a.heap.size → S k) : Keeps S a w' :=
  ⟨hg.os.trans h.os, hg.tape.trans h.tape, hg.output.trans h.output, Nat.le_trans h.size hg.size,
    fun k hk hs => (hg.block k (Nat.lt_of_lt_of_le hk h.size) (fun e => hs (hr k e.symm hk))).trans (h.block k hk hs)⟩
theorem Blk.keeps {S : Nat → Prop} {w w' : World} {g : Nat} {t : TypeId} {cs : Array Value} (h : Blk w g t cs) (k : Keeps S w w') (hs : ¬ S g) : Blk w' g t cs :=
  (k.block g h.lt hs).trans h
theorem Blk.below {B : Nat} {w w' : World} {g : Nat} {t : TypeId} {cs : Array Value} (h : Blk w g t cs) (k : Below B w w') (hs : g < B) : Blk w' g t cs :=
  (k.block g hs).trans h
theorem Blk.grown {row : Option Nat} {w w' : World} {g : Nat} {t : TypeId} {cs : Array Value} (h : Blk w g t cs) (k : w.grownBy w' row) (hs : some g ≠ row) : Blk w' g t cs :=
  (k.block g h.lt hs).trans h

/-- A row of the call's own is as it was in a world that kept its block. -/
theorem ownsRow_keeps {S : Nat → Prop} {w w' : World} {base : Nat} {e : TypeId} {size : Nat} {v : Value} {n : Nat} {xs : List Value} (h : w.ownsRow base e size v n xs)
    (k : Keeps S w w') (hs : ∀ g, v.ownBlock = some g → ¬ S g) : w'.ownsRow base e size v n xs := by
  obtain ⟨h1, h2⟩ := h
  refine ⟨h1, ?_⟩
  rcases h2 with h2 | ⟨g, cap, cur, rfl, hg, hh, r⟩
  · exact .inl h2
  · have hb : Blk w g e cur := hh
    exact .inr ⟨g, cap, cur, rfl, hg, hb.keeps k (hs g rfl), r⟩
theorem ownsRow_lt {w : World} {base : Nat} {e : TypeId} {size : Nat} {v : Value} {n : Nat} {xs : List Value} (h : w.ownsRow base e size v n xs) (g : Nat) (hg : v.ownBlock = some g) : g < w.heap.size := by
  rcases h.2 with ⟨rfl, _⟩ | ⟨g', cap, cur, rfl, _, hh, _⟩
  · cases hg
  · have hb : Blk w g' e cur := hh
    have : g' = g := by simpa [Value.ownBlock] using hg
    exact this ▸ hb.lt
/-- Rows of unlike element types lie in unlike blocks. -/
theorem ownsRow_ne {w : World} {base : Nat} {e t : TypeId} {size : Nat} {v : Value} {n g : Nat} {xs : List Value} {cs : Array Value} (h : w.ownsRow base e size v n xs) (hb : Blk w g t cs) (hne : e ≠ t) : v.ownBlock ≠ some g := by
  rcases h.2 with ⟨rfl, _⟩ | ⟨g', cap, cur, rfl, _, hh, _⟩
  · simp [Value.ownBlock]
  · intro he
    have : g' = g := by simpa [Value.ownBlock] using he
    subst this
    rw [Blk, hh] at hb
    injection hb with hb
    injection hb with _ ht
    exact hne ht

/-- The slice value v, of n elements of so many cells each, reads as the cells xs; where it has elements they lie in a block of F. -/
def Row (w : World) (F : Nat → Prop) (size : Nat) (v : Value) (n : Nat) (xs : List Value) : Prop :=
  xs.length = n * size ∧ n ≤ maxLen ∧ ∃ A c, v = .slice A n c ∧ n ≤ c ∧ (A = none → n = 0) ∧
    (0 < n → ∃ b off, A = some ⟨b, off, none⟩ ∧ F b ∧ ∀ j u, xs[j]? = some u → w.cell? ⟨b, off + j, none⟩ = some u)

theorem Row.mono {w : World} {F G : Nat → Prop} {size : Nat} {v : Value} {n : Nat} {xs : List Value} (h : Row w F size v n xs) (hG : ∀ b, F b → G b) : Row w G size v n xs := by
  obtain ⟨h1, h0, A, c, h2, h3, h4, h5⟩ := h
  exact ⟨h1, h0, A, c, h2, h3, h4, fun hn => by obtain ⟨b, off, e, f, g⟩ := h5 hn; exact ⟨b, off, e, hG b f, g⟩⟩
theorem Row.cellsOf {w w' : World} {F : Nat → Prop} {size : Nat} {v : Value} {n : Nat} {xs : List Value} (h : Row w F size v n xs)
    (hk : ∀ (b off : Nat) (u : Value), F b → w.cell? ⟨b, off, none⟩ = some u → w'.cell? ⟨b, off, none⟩ = some u) : Row w' F size v n xs := by
  obtain ⟨h1, h0, A, c, h2, h3, h4, h5⟩ := h
  exact ⟨h1, h0, A, c, h2, h3, h4, fun hn => by
    obtain ⟨b, off, e, f, g⟩ := h5 hn
    exact ⟨b, off, e, f, fun j u hu => hk b _ u f (g j u hu)⟩⟩
theorem cell_lt {w : World} {b off : Nat} {u : Value} (h : w.cell? ⟨b, off, none⟩ = some u) : b < w.heap.size := by
  rcases Nat.lt_or_ge b w.heap.size with hl | hg
  · exact hl
  · simp [World.cell?, Array.getElem?_eq_none hg] at h
theorem Row.keeps {S : Nat → Prop} {w w' : World} {F : Nat → Prop} {size : Nat} {v : Value} {n : Nat} {xs : List Value} (h : Row w F size v n xs) (k : Keeps S w w') (hs : ∀ b, F b → ¬ S b) : Row w' F size v n xs :=
  h.cellsOf fun b off _ hf hu => (World.cell?_of_block (w := w) (a := ⟨b, off, none⟩) (k.block b (cell_lt hu) (hs b hf))).trans hu
theorem Row.of_own {w : World} {base : Nat} {e : TypeId} {size : Nat} {v : Value} {n : Nat} {xs : List Value} (h : w.ownsRow base e size v n xs) : Row w (fun b => v.ownBlock = some b) size v n xs := by
  obtain ⟨h1, h2⟩ := h
  rcases h2 with ⟨rfl, rfl⟩ | ⟨g, cap, cur, rfl, hg, hh, h3, h4, h5, h6⟩
  · exact ⟨h1, by simp [maxLen], none, 0, rfl, Nat.le_refl _, fun _ => rfl, fun h => absurd h (by omega)⟩
  · refine ⟨h1, by omega, _, cap, rfl, h3, by simp, fun _ => ⟨g, 0, rfl, rfl, fun j u hu => ?_⟩⟩
    have hb : Blk w g e cur := hh
    rw [hb.cell, Nat.zero_add, ← Array.getElem?_toList]
    rw [← h6, List.getElem?_take] at hu
    split at hu
    · exact hu
    · cases hu
theorem Row.nil (w : World) (F : Nat → Prop) (size : Nat) : Row w F size (.slice none 0 0) 0 [] :=
  ⟨by simp, by simp [maxLen], none, 0, rfl, Nat.le_refl _, fun _ => rfl, fun h => absurd h (by omega)⟩

theorem ownsRow_base {w : World} {base base' : Nat} {e : TypeId} {size : Nat} {v : Value} {n : Nat} {xs : List Value} (h : w.ownsRow base e size v n xs) (hb : base' ≤ base) : w.ownsRow base' e size v n xs := by
  obtain ⟨h1, h2⟩ := h
  refine ⟨h1, ?_⟩
  rcases h2 with h2 | ⟨g, cap, cur, rfl, hg, r⟩
  · exact .inl h2
  · exact .inr ⟨g, cap, cur, rfl, by omega, r⟩
theorem ownsRow_ge {w : World} {base : Nat} {e : TypeId} {size : Nat} {v : Value} {n : Nat} {xs : List Value} (h : w.ownsRow base e size v n xs) (g : Nat) (hg : v.ownBlock = some g) : base ≤ g := by
  rcases h.2 with ⟨rfl, _⟩ | ⟨g', cap, cur, rfl, hb, _⟩
  · cases hg
  · have : g' = g := by simpa [Value.ownBlock] using hg
    omega
theorem ownsRow_made (w : World) (base : Nat) (e : TypeId) (size : Nat) (hb : base ≤ w.heap.size) : (w.alloc (.cells #[] e)).ownsRow base e size (.slice (some ⟨w.heap.size, 0, none⟩) 0 0) 0 [] :=
  ⟨by simp, .inr ⟨w.heap.size, 0, #[], rfl, hb, Blk.new w e #[], Nat.le_refl _, by simp, by simp, by simp⟩⟩
theorem Row.block {w : World} {F : Nat → Prop} {size g n c : Nat} {t : TypeId} {cs : Array Value} (h : Blk w g t cs) (hF : F g) (hn : cs.size = n * size) (hm : n ≤ maxLen) (hc : n ≤ c) :
    Row w F size (.slice (some ⟨g, 0, none⟩) n c) n cs.toList :=
  ⟨by simpa using hn, hm, _, c, rfl, hc, by simp, fun _ => ⟨g, 0, rfl, hF, fun j u hu => by rw [h.cell, Nat.zero_add, ← Array.getElem?_toList]; exact hu⟩⟩
theorem addr_add (b off j : Nat) : (Addr.add ⟨b, off, none⟩ j) = ⟨b, off + j, none⟩ := by
  unfold Addr.add
  split
  · rename_i h; simp_all
  · rfl

/-- A piece of a slice, as the walk spells it: from the capacity on nothing is left, and the address stays. -/
theorem Row.cut {w : World} {F : Nat → Prop} {size : Nat} {A : Option Addr} {n c : Nat} {xs : List Value} (h : Row w F size (.slice A n c) n xs) (lo m : Nat) (hm : lo + m ≤ n) :
    Row w F size (.slice (A.map (fun x => x.add (lo * size))) m (c - lo)) m ((xs.drop (lo * size)).take (m * size)) := by
  obtain ⟨h1, h0, A', c', e, h3, h4, h5⟩ := h
  injection e with e1 _ e3
  subst e1 e3
  refine ⟨?_, by omega, _, _, rfl, by omega, fun e => ?_, fun h0m => ?_⟩
  · rw [List.length_take, List.length_drop, h1, ← Nat.sub_mul]
    exact Nat.min_eq_left (Nat.mul_le_mul_right _ (by omega))
  · have := h4 (by simpa using e)
    omega
  · obtain ⟨b, off, rfl, hf, hc⟩ := h5 (by omega)
    refine ⟨b, off + lo * size, by simp [addr_add], hf, fun j u hu => ?_⟩
    rw [List.getElem?_take] at hu
    split at hu
    · rw [List.getElem?_drop] at hu
      have := hc _ _ hu
      rwa [← Nat.add_assoc] at this
    · cases hu
theorem Row.cut1 {w : World} {F : Nat → Prop} {A : Option Addr} {n c : Nat} {xs : List Value} (h : Row w F 1 (.slice A n c) n xs) (lo m : Nat) (hm : lo + m ≤ n) :
    Row w F 1 (.slice (A.map (fun x => x.add lo)) m (c - lo)) m ((xs.drop lo).take m) := by
  simpa using h.cut lo m hm
theorem Row.cutEnd {w : World} {F : Nat → Prop} {A : Option Addr} {n c : Nat} {xs : List Value} (h : Row w F 1 (.slice A n c) n xs) (m : Nat) (hm : c + m ≤ n) :
    Row w F 1 (.slice A m 0) m ((xs.drop c).take m) := by
  obtain ⟨h1, h0, A', c', e, h3, h4, h5⟩ := h
  injection e with e1 _ e3
  subst e1 e3
  obtain rfl : m = 0 := by omega
  exact ⟨by simp, by omega, A, 0, rfl, Nat.le_refl _, fun _ => rfl, fun h => absurd h (by omega)⟩

section
variable {P : Program} {w : World}
theorem run_append_row (base : Nat) (t ty e : TypeId) (i : TypeInfo) (z : Value) (size bytes : Nat) (ht : P.underlying t = some (.slice e)) (hi : P.info? e = some i) (hz : i.zero = some z)
    (hsize : i.size = size) (hby : i.bytes = bytes) (hzs : z.cells.size = size) (hsz : 0 < size)
    (v : Value) (n : Nat) (xs : List Value) (hown : w.ownsRow base e size v n xs)
    (F : Nat → Prop) (x : Value) (m : Nat) (news : List Value) (hr : Row w F size x m news) (h1 : ∀ u ∈ news, u.oneCell' = true)
    (h63 : n + m ≤ maxLen) (hbytes : (n + m) * bytes ≤ 140737488355328) (hbase : base ≤ w.heap.size) :
    ∃ v' w', (Builtin.append_ #[t, t] ty #[v, x]).run P w = .ok v' w' ∧ w'.ownsRow base e size v' (n + m) (xs ++ news) ∧ w.grownBy w' v.ownBlock ∧
      (v'.ownBlock = v.ownBlock ∨ v'.ownBlock = some w.heap.size) := by
  obtain ⟨hl, _, A, c, rfl, hc, hA, hcell⟩ := hr
  rcases A with _ | ad
  · obtain rfl := hA rfl
    have hn : news = [] := List.eq_nil_of_length_eq_zero (by simpa using hl)
    subst hn
    refine ⟨v, w, ?_, by simpa using hown, World.grownBy.refl w _, .inl rfl⟩
    rcases hown.2 with ⟨rfl, rfl⟩ | ⟨g, cap, cur, rfl, _, _, hnc, _⟩
    · simp [Builtin.append_, run_underlying ht, sizeOf, typeInfo, hi, Builtin.lenOf, Builtin.firstCells]
    · simp [Builtin.append_, run_underlying ht, sizeOf, typeInfo, hi, Builtin.lenOf, Builtin.firstCells, hnc, storeCells]
  · have hcells : ∀ j u, news[j]? = some u → w.cell? (ad.add j) = some u := by
      intro j u hu
      rcases Nat.eq_zero_or_pos m with h0 | h0
      · subst h0
        have hn : news = [] := List.eq_nil_of_length_eq_zero (by simpa using hl)
        subst hn
        simp at hu
      · obtain ⟨b, off, e, _, hc⟩ := hcell h0
        injection e with e
        subst e
        rw [addr_add]
        exact hc j u hu
    obtain ⟨v', w', hrun, h2, h3, _, h5⟩ := run_append_own_at (P := P) w base t ty e i z size bytes ht hi hz hsize hby hzs hsz v n xs hown ad m c news hl hcells h1 h63 hbytes hbase
    exact ⟨v', w', hrun, h2, h3, h5⟩

theorem wp_append_row {o : Oper} {a : Act} {K : Act → World → Prop} {Q : Exit → Act → World → Prop} (s x : Operand) (t : TypeId)
    (ho : o.op = .call { callee := .builtin .append, args := #[s, x], argTypes := #[t, t] })
    (base : Nat) (e : TypeId) (i : TypeInfo) (z : Value) (size bytes : Nat) (ht : P.underlying t = some (.slice e)) (hi : P.info? e = some i) (hz : i.zero = some z)
    (hsize : i.size = size) (hby : i.bytes = bytes) (hzs : z.cells.size = size) (hsz : 0 < size)
    (v : Value) (n : Nat) (xs : List Value) (hs : a.eval s = v) (hown : w.ownsRow base e size v n xs)
    (F : Nat → Prop) (y : Value) (m : Nat) (news : List Value) (hx : a.eval x = y) (hr : Row w F size y m news) (h1 : ∀ u ∈ news, u.oneCell' = true)
    (h63 : n + m ≤ maxLen) (hbytes : (n + m) * bytes ≤ 140737488355328) (hbase : base ≤ w.heap.size)
    (h : ∀ v' w', w'.ownsRow base e size v' (n + m) (xs ++ news) → w.grownBy w' v.ownBlock → (v'.ownBlock = v.ownBlock ∨ v'.ownBlock = some w.heap.size) → K (a.put o.dst v') w') : o.wp P a w K Q := by
  obtain ⟨v', w', hrun, h2, h3, h4⟩ := run_append_row (P := P) base t o.type e i z size bytes ht hi hz hsize hby hzs hsz v n xs hown F y m news hr h1 h63 hbytes hbase
  unfold Oper.wp execOp
  simp only [ho, resolve, invoke, builtin, Sem.run_bind, Sem.run_pure, Result.andThen_ok, List.map_toArray, List.map_cons, List.map_nil, hs, hx, hrun]
  exact h v' w' h2 h3 h4

/-- append to a row of the call's own, from whatever slice. -/
theorem wpList_append_row {ops : Array Oper} {rest : List Oper} {o : Oper} {a : Act} {Q : Exit → Act → World → Prop} (hgd : o.guard = none) (s x : Operand) (t : TypeId)
    (ho : o.op = .call { callee := .builtin .append, args := #[s, x], argTypes := #[t, t] })
    (base : Nat) (e : TypeId) (i : TypeInfo) (z : Value) (size bytes : Nat) (ht : P.underlying t = some (.slice e)) (hi : P.info? e = some i) (hz : i.zero = some z)
    (hsize : i.size = size) (hby : i.bytes = bytes) (hzs : z.cells.size = size) (hsz : 0 < size)
    (v : Value) (n : Nat) (xs : List Value) (hs : a.eval s = v) (hown : w.ownsRow base e size v n xs)
    (F : Nat → Prop) (y : Value) (m : Nat) (news : List Value) (hx : a.eval x = y) (hr : Row w F size y m news) (h1 : ∀ u ∈ news, u.oneCell' = true)
    (h63 : n + m ≤ maxLen) (hbytes : (n + m) * bytes ≤ 140737488355328) (hbase : base ≤ w.heap.size)
    (h : ∀ v' w', w'.ownsRow base e size v' (n + m) (xs ++ news) → w.grownBy w' v.ownBlock → (v'.ownBlock = v.ownBlock ∨ v'.ownBlock = some w.heap.size) → wpList P ops Q rest (a.put o.dst v') w') :
    wpList P ops Q (o :: rest) a w :=
  wpList_plain hgd fun _ hK => wp_append_row s x t ho base e i z size bytes ht hi hz hsize hby hzs hsz v n xs hs hown F y m news hx hr h1 h63 hbytes hbase fun v' w' h2 h3 h4 => hK _ _ (h v' w' h2 h3 h4)
end
end Go.Proofs.YtkllaghfiofnjaaDoor
/- What a walk is told of a slice of integers that came in. -/
namespace Go.Proofs.YtkllaghfiofnjaaDoor
open Go.RowKit
/-- It is nil, or it leads to a row of 'cap' cells, the numbers zs: the first 'len' are its elements. -/
def IsRow (k : IntKind) (w : World) (a : Option Addr) (len cap : Nat) (zs : List Int) : Prop :=
  (a = none ∧ len = 0 ∧ cap = 0 ∧ zs = []) ∨
  ∃ x, a = some x ∧ len ≤ cap ∧ cap ≤ maxLen ∧ zs.length = cap ∧ (∀ i, i < zs.length → w.cell? (x.add i) = some (.int k (zs.getD i 0))) ∧ ∀ n ∈ zs, (Lit.int k n).wf = true

theorem addr_of_cell {w : World} {x : Addr} {u : Value} (h : w.cell? (x.add 0) = some u) : ∃ b off, x = ⟨b, off, none⟩ := by
  obtain ⟨b, off, spot⟩ := x
  cases spot with
  | none => exact ⟨b, off, rfl⟩
  | some s =>
    exfalso
    have hs : (Addr.add ⟨b, off, some s⟩ 0).spot = some s := rfl
    unfold World.cell? at h
    rw [hs] at h
    split at h
    · simp at h
    · cases h

/-- As a row of cells. -/
theorem IsRow.row {k : IntKind} {w : World} {a : Option Addr} {len cap : Nat} {zs : List Int} (h : IsRow k w a len cap zs) :
    Row w (fun b => b < w.heap.size) 1 (.slice a len cap) len ((zs.take len).map (Value.int k)) ∧ ∀ n ∈ zs.take len, (Lit.int k n).wf = true := by
  rcases h with ⟨rfl, rfl, rfl, rfl⟩ | ⟨x, rfl, hl, hm, hz, hc, hw⟩
  · exact ⟨⟨by simp, by simp [maxLen], none, 0, rfl, Nat.le_refl _, fun _ => rfl, fun h => absurd h (by omega)⟩, by simp⟩
  · refine ⟨⟨by simp; omega, by omega, _, cap, rfl, hl, by simp, fun hn => ?_⟩, fun n hn => hw n (List.mem_of_mem_take hn)⟩
    obtain ⟨b, off, rfl⟩ := addr_of_cell (hc 0 (by omega))
    have h0 := hc 0 (by omega)
    rw [addr_add] at h0
    refine ⟨b, off, rfl, cell_lt h0, fun j u hu => ?_⟩
    have hj : j < len := by
      have := (List.getElem?_eq_some_iff.1 hu).1
      simp at this
      omega
    have hcj := hc j (by omega)
    rw [addr_add] at hcj
    rw [hcj]
    rw [List.getElem?_map, List.getElem?_take, if_pos hj, List.getElem?_eq_getElem (by omega)] at hu
    rw [List.getD_eq_getElem?_getD, List.getElem?_eq_getElem (by omega)]
    exact hu

theorem u8_of_wf {n : Int} (h : (Lit.int .u8 n).wf = true) : 0 ≤ n ∧ n ≤ 255 := by
  simpa [Lit.wf, IntKind.min, IntKind.max, IntKind.signed, IntKind.bits] using h
/-- The bytes of a slice of bytes. -/
theorem IsRow.bytes {w : World} {a : Option Addr} {len cap : Nat} {zs : List Int} (h : IsRow .u8 w a len cap zs) :
    ∃ bs : List UInt8, bs.length = len ∧ Row w (fun b => b < w.heap.size) 1 (.slice a len cap) len (bs.map fun b => Value.int .u8 b.toNat) := by
  obtain ⟨hr, hw⟩ := h.row
  have hl := hr.1
  refine ⟨(zs.take len).map fun z => UInt8.ofNat z.toNat, by simpa using hl, ?_⟩
  have e : (((zs.take len).map fun z => UInt8.ofNat z.toNat).map fun b : UInt8 => Value.int .u8 b.toNat) = (zs.take len).map (Value.int .u8) := by
    rw [List.map_map]
    apply List.map_congr_left
    intro z hz
    have := u8_of_wf (hw z hz)
    have h2 : z.toNat < 2 ^ 8 := by omega
    simp only [Function.comp, UInt8.toNat_ofNat', Nat.mod_eq_of_lt h2]
    congr 1
    omega
  rw [e]
  exact hr

/-- The kinds of fields that are read. -/
inductive FK where
  | int (k : IntKind)
  | bool
  | str
  | row (k : IntKind)
/-- What is known of a field's cell. -/
def FK.ok (w : World) : FK → Value → Prop
  | .int k, v => ∃ n, v = .int k n ∧ (Lit.int k n).wf = true
  | .bool, v => ∃ b, v = .bool b
  | .str, v => ∃ s, v = .string s ∧ s.size ≤ maxLen
  | .row k, v => ∃ a len cap zs, v = .slice a len cap ∧ IsRow k w a len cap zs
/-- Is the type of that kind? -/
def FK.fits (P : Program) : FK → TypeId → Prop
  | .int k, t => P.underlying t = some (.int k)
  | .bool, t => P.underlying t = some .bool
  | .str, t => P.underlying t = some .string
  | .row k, t => ∃ e, P.underlying t = some (.slice e) ∧ P.underlying e = some (.int k) ∧ P.cellsOf e = 1
/-- Types and kinds, one by one. -/
def fitsAll (P : Program) : List FK → List Field → Prop
  | [], [] => True
  | k :: ks, f :: fs => k.fits P f.type ∧ fitsAll P ks fs
  | _, _ => False
theorem fitsAll_get {P : Program} : ∀ {ks : List FK} {fs : List Field}, fitsAll P ks fs → ks.length = fs.length ∧ ∀ (j : Nat) (k : FK), ks[j]? = some k → ∃ f, fs[j]? = some f ∧ k.fits P f.type
  | [], [], _ => ⟨rfl, fun j k h => by simp at h⟩
  | [], _ :: _, h => h.elim
  | _ :: _, [], h => h.elim
  | k :: ks, f :: fs, h => by
    obtain ⟨h1, h2⟩ := fitsAll_get h.2
    refine ⟨by simp [h1], fun j k' hj => ?_⟩
    cases j with
    | zero => simp at hj; subst hj; exact ⟨f, rfl, h.1⟩
    | succ j => exact h2 j k' (by simpa using hj)

open Go.ChangeShapes Go.WideShapes Go.Deep
section
variable {H : Type} {enc : TypeId × Value → H} {P : Program} {w : World} {base : Nat} {held : Bool}
theorem row_of {t e : TypeId} {k : IntKind} {fuel : Nat} {v : Value} {x : DataW H × List MemPlace} (ht : P.underlying t = some (.slice e)) (he : P.underlying e = some (.int k)) (hc : P.cellsOf e = 1)
    (h : DataW.trod enc P w base (fun _ => true) held fuel t [v] = some x) : ∃ a len cap zs, v = .slice a len cap ∧ IsRow k w a len cap zs := by
  rcases open_ints ht he hc h with ⟨hcs, _⟩ | ⟨a, len, cap, zs, hcs, _, hl, hm, hz, _, hcell, hwz⟩
  · simp at hcs
    exact ⟨none, 0, 0, [], hcs, .inl ⟨rfl, rfl, rfl, rfl⟩⟩
  · simp at hcs
    exact ⟨_, len, cap, zs, hcs, .inr ⟨a, rfl, hl, hm, by simpa using hz, hcell, hwz⟩⟩
theorem FK.read {fk : FK} {t : TypeId} {fuel : Nat} {v : Value} {x : DataW H × List MemPlace} (hf : fk.fits P t) (h : DataW.trod enc P w base (fun _ => true) held fuel t [v] = some x) : fk.ok w v := by
  cases fk with
  | int k => obtain ⟨n, e, _, hw⟩ := DataW.trod_int hf h; simp at e; exact ⟨n, e, hw⟩
  | bool => obtain ⟨b, e, _⟩ := DataW.trod_bool hf h; simp at e; exact ⟨b, e⟩
  | str => obtain ⟨s, e, _, hs⟩ := DataW.trod_string hf h; simp at e; exact ⟨s, e, hs⟩
  | row k => obtain ⟨e, h1, h2, h3⟩ := hf; exact row_of h1 h2 h3 h
end

/-- What the walk is told of a slice of structs: nil, or rows of cells, one a field. -/
def IsStructs (w : World) (ks : List FK) (a : Option Addr) (len cap : Nat) : Prop :=
  (a = none ∧ len = 0 ∧ cap = 0) ∨
  ∃ x, a = some x ∧ len ≤ cap ∧ cap ≤ maxLen ∧ ∀ i, i < len → ∀ (j : Nat) (k : FK), ks[j]? = some k → ∃ v, w.cell? (x.add (i * ks.length + j)) = some v ∧ k.ok w v

section
variable {H : Type} {enc : TypeId × Value → H} {P : Program} {w : World} {base : Nat} {held : Bool}
theorem structs_of {t e : TypeId} {fs : Array Field} {ks : List FK} {fuel : Nat} {v : Value} {x : DataW H × List MemPlace} (ht : P.underlying t = some (.slice e)) (he : P.underlying e = some (.struct fs))
    (hone : oneCellFields P fs = true) (hC : P.cellsOf e = fs.size) (hfit : fitsAll P ks fs.toList) (h : DataW.trod enc P w base (fun _ => true) held fuel t [v] = some x) :
    ∃ a len cap, v = .slice a len cap ∧ IsStructs w ks a len cap := by
  obtain ⟨hlen, hget⟩ := fitsAll_get hfit
  have hsz : ks.length = fs.size := by simpa using hlen
  rcases open_slice ht h with ⟨h0, _⟩ | ⟨a, len, cap, m, n, D, Pl, hcs, _, hl, hm, hmm, _, hi⟩
  · simp at h0
    exact ⟨none, 0, 0, h0, .inl ⟨rfl, rfl, rfl⟩⟩
  · simp at hcs
    refine ⟨_, len, cap, hcs, .inr ⟨a, rfl, hl, hm, fun i hil j k hk => ?_⟩⟩
    obtain ⟨f, hf, hfk⟩ := hget j k hk
    have hf' : fs[j]? = some f := by rw [← Array.getElem?_toList]; exact hf
    have hjl : j < fs.size := (Array.getElem?_eq_some_iff.1 hf').1
    obtain ⟨cs', hc, ht'⟩ := hi i (by rw [hmm]; simp; omega)
    rw [hC] at hc
    obtain ⟨ys, n', _, _, hcl', hyl, hfields⟩ := DataW.trod_struct he ht'
    obtain ⟨_, hcl, hat⟩ := World.cells?_some hc
    obtain ⟨ho, hk1⟩ := hone_of hone j f hf'
    have hcell := hat j hjl
    have h1 := hfields j f hf'
    rw [ho, hk1] at h1
    have hone' : (cs'.drop j).take 1 = [cs'[j]'(by omega)] := by
      rw [List.drop_eq_getElem_cons (by omega)]
      rfl
    rw [hone', List.getElem?_eq_getElem (show j < ys.length by omega)] at h1
    refine ⟨cs'[j]'(by omega), ?_, FK.read hfk h1⟩
    rw [hsz, ← Go.Deep.add_add, hcell]
    exact List.getElem?_eq_getElem (by omega)
end

section
variable {H : Type} {enc : TypeId × Value → H} {P : Program} {w : World} {base : Nat} {held : Bool}
/-- A slice of elements of one cell each (a [][]byte: k = .row .u8). -/
theorem slices_of {t e : TypeId} {k : FK} {fuel : Nat} {v : Value} {x : DataW H × List MemPlace} (ht : P.underlying t = some (.slice e)) (hC : P.cellsOf e = 1) (hk : k.fits P e)
    (h : DataW.trod enc P w base (fun _ => true) held fuel t [v] = some x) : ∃ a len cap, v = .slice a len cap ∧ IsStructs w [k] a len cap := by
  rcases open_slice ht h with ⟨h0, _⟩ | ⟨a, len, cap, m, n, D, Pl, hcs, _, hl, hm, hmm, _, hi⟩
  · simp at h0
    exact ⟨none, 0, 0, h0, .inl ⟨rfl, rfl, rfl⟩⟩
  · simp at hcs
    refine ⟨_, len, cap, hcs, .inr ⟨a, rfl, hl, hm, fun i hil j k' hk' => ?_⟩⟩
    obtain ⟨rfl, rfl⟩ : j = 0 ∧ k' = k := by
      cases j with
      | zero => simp at hk'; exact ⟨rfl, hk'.symm⟩
      | succ j => simp at hk'
    obtain ⟨cs', hc, ht'⟩ := hi i (by rw [hmm]; simp; omega)
    rw [hC] at hc
    obtain ⟨_, hcl, hat⟩ := World.cells?_some hc
    have hcell := hat 0 (by omega)
    obtain ⟨u, rfl⟩ : ∃ u, cs' = [u] := by
      match cs', hcl with
      | [u], _ => exact ⟨u, rfl⟩
    refine ⟨u, ?_, FK.read hk ht'⟩
    show w.cell? (a.add (i * 1 + 0)) = some u
    rw [← Go.Deep.add_add, hcell]
    rfl
end

theorem list_choice {α : Type} {P : Nat → α → Prop} : ∀ (n : Nat), (∀ i, i < n → ∃ d, P i d) → ∃ ds : List α, ds.length = n ∧ ∀ (i : Nat) (d : α), ds[i]? = some d → P i d
  | 0, _ => ⟨[], rfl, fun i d h => by simp at h⟩
  | n + 1, h => by
    obtain ⟨ds, hl, hp⟩ := list_choice n (fun i hi => h i (by omega))
    obtain ⟨d, hd⟩ := h n (by omega)
    refine ⟨ds ++ [d], by simp [hl], fun i d' hi => ?_⟩
    rw [List.getElem?_append] at hi
    split at hi
    · exact hp i d' hi
    · have : i = n := by
        have := (List.getElem?_eq_some_iff.1 hi).1
        simp at this
        omega
      subst this
      simp [hl] at hi
      exact hi ▸ hd
theorem i64_of_wf {n : Int} (h : (Lit.int .i64 n).wf = true) : -9223372036854775808 ≤ n ∧ n ≤ 9223372036854775807 := by
  simpa [Lit.wf, IntKind.min, IntKind.max, IntKind.signed, IntKind.bits] using h
theorem u32_of_wf {n : Int} (h : (Lit.int .u32 n).wf = true) : 0 ≤ n ∧ n ≤ 4294967295 := by
  simpa [Lit.wf, IntKind.min, IntKind.max, IntKind.signed, IntKind.bits] using h
theorem u16_of_wf {n : Int} (h : (Lit.int .u16 n).wf = true) : 0 ≤ n ∧ n ≤ 65535 := by
  simpa [Lit.wf, IntKind.min, IntKind.max, IntKind.signed, IntKind.bits] using h
end Go.Proofs.YtkllaghfiofnjaaDoor
/- errors.As at a target of type **api.Fault: what it answers of nil, and of a *api.Fault; after the guide's worked example on errors.As at a concrete target. -/
namespace Go.Proofs.YtkllaghfiofnjaaDoor
open Go.RowKit Go.Extern.Stop Go.Stop Go.Extern

/-- The block that a type's handle names: behind the variables. -/
noncomputable def hB : Nat := Tryd.prog.globals.size
/-- What start-up code lays in package errors' variable errorType. -/
def Handle (w : World) : Prop := w.cell? ⟨0, 0, none⟩ = some (.iface 135 (.agg #[.pointer (some ⟨hB, 65, none⟩)]))
theorem Handle.lt {w : World} (h : Handle w) : 0 < w.heap.size := cell_lt h
theorem Handle.below {w w' : World} (h : Handle w) (k : Below w.heap.size w w') : Handle w' :=
  (World.cell?_of_block (w := w) (a := ⟨0, 0, none⟩) (k.block _ h.lt)).trans h
theorem Handle.keeps {w w' : World} {S : Nat → Prop} (h : Handle w) (k : Keeps S w w') (hS : ¬ S 0) : Handle w' :=
  (World.cell?_of_block (w := w) (a := ⟨0, 0, none⟩) (k.block _ h.lt hS)).trans h

theorem as_nil (t : Value) (w : World) : Calls Tryd.prog 55 #[.nilIface, t] w fun e w' => e = .returned (.bool false) ∧ w = w' := by
  go_enter Tryd.func55, Tryd.ntmps55
  go_wp2
  go_ret
  exact ⟨rfl, rfl⟩

section
theorem as_unpackT (t : Addr) (w : World) : (ReflectliteValue.unpack (.iface 90 (.pointer (some t)))).run Tryd.prog w
    = .ok (.agg #[.pointer (some ⟨hB, 90, none⟩), .pointer (some ⟨w.heap.size, 0, none⟩), .int .u64 150]) (w.alloc (.cells #[.pointer (some t)] 90)) := by kernel_rfl
theorem as_typeT (a : Addr) (w : World) : (ReflectliteValue.methodAny (ReflectliteValue.valueError "reflectlite.Value.Type" 0) (fun t _ _ _ => ReflectliteType.toType t) #[.agg #[.pointer (some ⟨hB, 90, none⟩), .pointer (some a), .int .u64 150]]).run Tryd.prog w
    = .ok (.iface 135 (.agg #[.pointer (some ⟨hB, 90, none⟩)])) w := by kernel_rfl
theorem as_mKind (n : Nat) (h : Value) (w : World) : (Go.method (n + 1) 135 (.agg #[h]) "Kind").run Tryd.prog w = .ok (134, h) w := by kernel_rfl
theorem as_mElem (n : Nat) (h : Value) (w : World) : (Go.method (n + 1) 135 (.agg #[h]) "Elem").run Tryd.prog w = .ok (146, .agg #[h]) w := by kernel_rfl
theorem as_mImpl (n : Nat) (h : Value) (w : World) : (Go.method (n + 1) 135 (.agg #[h]) "Implements").run Tryd.prog w = .ok (147, .agg #[h]) w := by kernel_rfl
theorem as_mAssign (n : Nat) (h : Value) (w : World) : (Go.method (n + 1) 135 (.agg #[h]) "AssignableTo").run Tryd.prog w = .ok (144, .agg #[h]) w := by kernel_rfl
theorem as_kindT (w : World) : ((ReflectliteType.abiMethod fun t => (fun a : Nat => Value.int IntKind.u8 (a : Int)) <$> Rtype.kind t) #[.pointer (some ⟨hB, 90, none⟩)]).run Tryd.prog w = .ok (.int .u8 22) w := by kernel_rfl
theorem as_kindE (w : World) : ((ReflectliteType.abiMethod fun t => (fun a : Nat => Value.int IntKind.u8 (a : Int)) <$> Rtype.kind t) #[.pointer (some ⟨hB, 88, none⟩)]).run Tryd.prog w = .ok (.int .u8 22) w := by kernel_rfl
theorem as_elemT (w : World) : (ReflectliteType.method ReflectliteType.elem #[.agg #[.pointer (some ⟨hB, 90, none⟩)]]).run Tryd.prog w = .ok (.iface 135 (.agg #[.pointer (some ⟨hB, 88, none⟩)])) w := by kernel_rfl
theorem as_implE (w : World) : (ReflectliteType.relation "Implements" ReflectliteType.implements_ #[.agg #[.pointer (some ⟨hB, 88, none⟩)], .iface 135 (.agg #[.pointer (some ⟨hB, 65, none⟩)])]).run Tryd.prog w = .ok (.bool true) w := by kernel_rfl
theorem as_typeOfE (v : Value) (w : World) : (ReflectliteType.typeOf #[.iface 88 v]).run Tryd.prog w = .ok (.iface 135 (.agg #[.pointer (some ⟨hB, 88, none⟩)])) w := by kernel_rfl
theorem as_assignE (w : World) : (ReflectliteType.relation "AssignableTo" ReflectliteType.assignableTo #[.agg #[.pointer (some ⟨hB, 88, none⟩)], .iface 135 (.agg #[.pointer (some ⟨hB, 88, none⟩)])]).run Tryd.prog w = .ok (.bool true) w := by kernel_rfl
theorem as_unpackE (e : Addr) (w : World) : (ReflectliteValue.unpack (.iface 88 (.pointer (some e)))).run Tryd.prog w
    = .ok (.agg #[.pointer (some ⟨hB, 88, none⟩), .pointer (some ⟨w.heap.size, 0, none⟩), .int .u64 150]) (w.alloc (.cells #[.pointer (some e)] 88)) := by kernel_rfl
theorem as_partsT (a : Addr) (w : World) : (ReflectliteValue.parts (.agg #[.pointer (some ⟨hB, 90, none⟩), .pointer (some a), .int .u64 150])).run Tryd.prog w = .ok (some (90, a, 150)) w := by kernel_rfl
theorem as_partsE (a : Addr) (w : World) : (ReflectliteValue.parts (.agg #[.pointer (some ⟨hB, 88, none⟩), .pointer (some a), .int .u64 150])).run Tryd.prog w = .ok (some (88, a, 150)) w := by kernel_rfl
theorem as_partsA (a : Addr) (w : World) : (ReflectliteValue.parts (.agg #[.pointer (some ⟨hB, 88, none⟩), .pointer (some a), .int .u64 406])).run Tryd.prog w = .ok (some (88, a, 406)) w := by kernel_rfl
theorem as_elem? (w : World) : (Rtype.elem? 90).run Tryd.prog w = .ok (some 88) w := by kernel_rfl
theorem as_mk (p : Addr) (w : World) : (ReflectliteValue.mk 88 p ReflectliteValue.flagAddr).run Tryd.prog w = .ok (.agg #[.pointer (some ⟨hB, 88, none⟩), .pointer (some p), .int .u64 406]) w := by kernel_rfl
theorem as_direct (w : World) : (Rtype.directlyAssignable 88 88).run Tryd.prog w = .ok true w := by kernel_rfl

theorem as_isNil (a p : Addr) (W : World) (ha : W.cell? a = some (.pointer (some p))) :
    (ReflectliteValue.method (ReflectliteValue.valueError "reflectlite.Value.IsNil" 0) ReflectliteValue.isNil #[.agg #[.pointer (some ⟨hB, 90, none⟩), .pointer (some a), .int .u64 150]]).run Tryd.prog W = .ok (.bool false) W := by
  change (ReflectliteValue.parts (.agg #[.pointer (some ⟨hB, 90, none⟩), .pointer (some a), .int .u64 150]) >>= _).run Tryd.prog W = _
  simp only [Sem.run_bind, as_partsT, Result.andThen]
  simp [ReflectliteValue.isNil, loadVar, isAgg, underlying, Tryd.underlying90, ha, Result.andThen]
theorem as_elemV (a p : Addr) (W : World) (ha : W.cell? a = some (.pointer (some p))) :
    (ReflectliteValue.method (ReflectliteValue.valueError "reflectlite.Value.Elem" 0) ReflectliteValue.elem #[.agg #[.pointer (some ⟨hB, 90, none⟩), .pointer (some a), .int .u64 150]]).run Tryd.prog W
      = .ok (.agg #[.pointer (some ⟨hB, 88, none⟩), .pointer (some p), .int .u64 406]) W := by
  change (ReflectliteValue.parts (.agg #[.pointer (some ⟨hB, 90, none⟩), .pointer (some a), .int .u64 150]) >>= _).run Tryd.prog W = _
  simp only [Sem.run_bind, as_partsT, Result.andThen]
  simp [ReflectliteValue.elem, loadVar, isAgg, underlying, Tryd.underlying90, ha, Result.andThen, as_elem?, as_mk]
theorem as_set (ta b e : Addr) (old : Value) (W : World) (hb : W.cell? b = some (.pointer (some e))) (ht : W.cell? ta = some old) (hf : W.frozen? ta = false) :
    (ReflectliteValue.set #[.agg #[.pointer (some ⟨hB, 88, none⟩), .pointer (some ta), .int .u64 406], .agg #[.pointer (some ⟨hB, 88, none⟩), .pointer (some b), .int .u64 150]]).run Tryd.prog W
      = .ok (.tuple #[]) (W.setCell ta (.pointer (some e))) := by
  change (ReflectliteValue.parts (.agg #[.pointer (some ⟨hB, 88, none⟩), .pointer (some ta), .int .u64 406]) >>= fun _ => ReflectliteValue.parts (.agg #[.pointer (some ⟨hB, 88, none⟩), .pointer (some b), .int .u64 150]) >>= _).run Tryd.prog W = _
  simp only [Sem.run_bind, as_partsA, as_partsE, Result.andThen]
  simp [ReflectliteValue.flagAddr, loadVar, isAgg, underlying, Tryd.underlying88, hb, Result.andThen, as_direct, storeVar, Value.cells, storeCells, Addr.add]
  rw [run_store Tryd.prog W ta _ _ (by rfl)]
  simp [ht, hf]
end
end Go.Proofs.YtkllaghfiofnjaaDoor
/- What the frames of laws share whose rows list package errors' variable errorType (tied cards); arguments that are structs. -/
namespace Go.Proofs.YtkllaghfiofnjaaDoor
open Go.ChangeShapes Go.WideShapes Go.RowKit Go.Deep

theorem door_own : ownKnob Tryd.prog.godebug = none := by kernel_rfl
theorem door_laidOut : laidOutB Tryd.prog = true := by kernel_rfl
theorem door_et : Tryd.prog.globalNamed "errors.errorType" = some 0 := by kernel_rfl
/-- The name of reflectlite's type, out of what the rows list. -/
def rtName : String := match (Rows.laid_errors_errorType : DataW Unit) with
  | .iface s _ => s
  | _ => default
theorem door_rt : (Tryd.prog.cutTypes.find? (·.1 == rtName)).map (·.2) = some 135 := by kernel_rfl
theorem door_one : ((List.range Tryd.prog.types.size).filter fun t => Tryd.prog.rowNamed t [101, 114, 114, 111, 114]) = [65] := by kernel_rfl
/-- What the rows list. -/
def doorLaid : List (String × DataW Unit) := [("errors.errorType", Rows.laid_errors_errorType)]
/-- The condition gives the variable's one cell. -/
theorem door_handle {W : World} (h : laidMetH Tryd.prog doorLaid W) : Handle W := by
  have h' : laidMet Tryd.prog [] W ∧ handlesMet Tryd.prog doorLaid W := h
  obtain ⟨name, u, ty, e1, e2, e3, e4, e5⟩ := h'.2 _ (List.mem_singleton.2 rfl)
  have en : name = [101, 114, 114, 111, 114] := (Option.some.inj e1).symm
  subst en
  obtain rfl := Option.some.inj (door_rt.symm.trans e2)
  have hm : ty ∈ (List.range Tryd.prog.types.size).filter fun t => Tryd.prog.rowNamed t [101, 114, 114, 111, 114] := List.mem_filter.2 ⟨List.mem_range.2 e3, e4⟩
  rw [door_one] at hm
  obtain rfl := List.mem_singleton.1 hm
  have hh : typeHandle Tryd.prog 65 = .pointer (some ⟨hB, 65, none⟩) := by kernel_rfl
  rw [hh] at e5
  unfold Handle
  simpa using World.var?_cell door_et e5 0
/-- A world that meets it. -/
noncomputable def doorWorld (os : Os) : World :=
  let w0 := World.holding Tryd.prog os ⟨#[], #[], []⟩
  { w0 with heap := w0.heap.modify 0 fun
      | .cells _ t frozen => .cells #[.iface 135 (.agg #[.pointer (some ⟨hB, 65, none⟩)])] t frozen
      | o => o }
theorem doorWorld_met (os : Os) (args : Array Value) : laidMetH Tryd.prog doorLaid ((doorWorld os).forCall (fun _ _ => 0) ⟨#[], args, []⟩).memory :=
  laidMetH_of_parts (laidMet_nil _ _) (by kernel_rfl)

section
variable {H : Type} {enc : TypeId × Value → H} {P : Program} {w : World} {base : Nat} {held : Bool}
/-- The cells of a struct of one-cell fields. -/
theorem fields_of {t : TypeId} {fs : Array Field} {ks : List FK} {fuel : Nat} {cs : List Value} {x : DataW H × List MemPlace} (ht : P.underlying t = some (.struct fs))
    (hone : oneCellFields P fs = true) (hC : P.cellsOf t = fs.size) (hfit : fitsAll P ks fs.toList) (h : DataW.trod enc P w base (fun _ => true) held fuel t cs = some x) :
    cs.length = ks.length ∧ ∀ (j : Nat) (k : FK), ks[j]? = some k → ∃ v, cs[j]? = some v ∧ k.ok w v := by
  obtain ⟨hlen, hget⟩ := fitsAll_get hfit
  have hsz : ks.length = fs.size := by simpa using hlen
  obtain ⟨ys, n', _, _, hcl', hyl, hfields⟩ := DataW.trod_struct ht h
  refine ⟨by omega, fun j k hk => ?_⟩
  obtain ⟨f, hf, hfk⟩ := hget j k hk
  have hf' : fs[j]? = some f := by rw [← Array.getElem?_toList]; exact hf
  have hjl : j < fs.size := (Array.getElem?_eq_some_iff.1 hf').1
  have h1 := hfields j f hf'
  obtain ⟨ho, hk1⟩ := hone_of hone j f hf'
  rw [ho, hk1] at h1
  have hone' : (cs.drop j).take 1 = [cs[j]'(by omega)] := by
    rw [List.drop_eq_getElem_cons (by omega)]
    rfl
  rw [hone', List.getElem?_eq_getElem (show j < ys.length by omega)] at h1
  exact ⟨cs[j]'(by omega), List.getElem?_eq_getElem (by omega), FK.read hfk h1⟩
end
theorem form_of {H : Type} {enc : TypeId × Value → H} {w : World} {base : Nat} {held : Bool} {fuel : Nat} {cs : List Value} {x : DataW H × List MemPlace}
    (h : DataW.trod enc Tryd.prog w base (fun _ => true) held fuel 24 cs = some x) : ∃ a q, cs = [.bool a, .bool q] := by
  obtain ⟨hl, hk⟩ := fields_of (ks := [.bool, .bool]) Tryd.underlying24 (by kernel_rfl) (by kernel_rfl) ⟨Tryd.underlying4, Tryd.underlying4, trivial⟩ h
  obtain ⟨v0, h0, a, rfl⟩ := hk 0 _ rfl
  obtain ⟨v1, h1, q, rfl⟩ := hk 1 _ rfl
  match cs, hl with
  | [x, y], _ =>
    simp at h0 h1
    exact ⟨a, q, by rw [h0, h1]⟩
theorem three_of {cs : List Value} (h : cs.length = 3) : ∃ x y z, cs = [x, y, z] := by
  match cs, h with
  | [x, y, z], _ => exact ⟨x, y, z, rfl⟩
theorem wired_of {H : Type} {enc : TypeId × Value → H} {w : World} {base : Nat} {held : Bool} {fuel : Nat} {cs : List Value} {x : DataW H × List MemPlace}
    (h : DataW.trod enc Tryd.prog w base (fun _ => true) held fuel 40 cs = some x) : ∃ a q m, cs = [.bool a, .bool q, .int .u32 m] ∧ (Lit.int .u32 m).wf = true := by
  obtain ⟨y0, y1, n, _, hl, h0, h1⟩ := trod_struct2 Tryd.underlying40 h
  obtain ⟨a, q, e0⟩ := form_of h0
  obtain ⟨m, e1, _, hw⟩ := DataW.trod_int Tryd.underlying38 h1
  have e3 : Tryd.prog.cellsOf 40 = 3 := by kernel_rfl
  have hl3 : cs.length = 3 := hl.trans e3
  have ec : Tryd.prog.cellsOf 24 = 2 := by kernel_rfl
  have ed : Tryd.prog.cellsOf 38 = 1 := by kernel_rfl
  clear hl e3 h h0 h1
  obtain ⟨x, y, z, rfl⟩ := three_of hl3
  simp [ec] at e0
  simp [ed] at e1
  exact ⟨a, q, m, by rw [e0.1, e0.2, e1], hw⟩
end Go.Proofs.YtkllaghfiofnjaaDoor
/- Rows of bytes, slices as rows, and the document's Same. -/
namespace Go.Proofs.YtkllaghfiofnjaaDoor
open Go.RowKit

theorem u8_info : (Tryd.prog.info? 5).map (fun i => (i.zero, i.size, i.bytes)) = some (some (.int .u8 0), 1, 1) := by kernel_rfl

theorem u8s_cells (l : List UInt8) : ∀ u ∈ l.map (fun b => Value.int .u8 b.toNat), u.oneCell' = true := by
  intro u hu
  obtain ⟨b, _, rfl⟩ := List.mem_map.1 hu
  rfl
/-- The values of bytes. -/
abbrev u8s (l : List UInt8) : List Value := l.map fun b => Value.int .u8 b.toNat

theorem own_form {w : World} {base : Nat} {e : TypeId} {size : Nat} {v : Value} {n : Nat} {xs : List Value} (h : w.ownsRow base e size v n xs) : ∃ A c, v = .slice A n c := by
  rcases h.2 with ⟨rfl, rfl⟩ | ⟨g, cap, cur, rfl, _⟩
  · exact ⟨_, _, rfl⟩
  · exact ⟨_, _, rfl⟩

theorem own_cell {w : World} {base : Nat} {t : TypeId} {A : Option Addr} {n c : Nat} {xs : List Value} (h : w.ownsRow base t 1 (.slice A n c) n xs) (hn : 0 < n) :
    ∃ b, A = some ⟨b, 0, none⟩ ∧ b < w.heap.size ∧ ∀ j u, xs[j]? = some u → w.cell? ⟨b, j, none⟩ = some u := by
  have hr := Row.of_own h
  obtain ⟨_, _, A', c', e, _, _, hh⟩ := hr
  injection e with e1 e2 e3
  subst e1
  obtain ⟨b, off, rfl, hf, hc⟩ := hh hn
  rcases h.2 with ⟨e, _⟩ | ⟨g, cap, cur, e, _, hh, _⟩
  · cases e
  · injection e with e1 e2 e3
    injection e1 with e1
    injection e1 with e1 e4
    subst e1 e4
    have hb : Blk w b t cur := by assumption
    exact ⟨b, rfl, hb.lt, fun j u hu => by have := hc j u hu; rwa [Nat.zero_add] at this⟩
theorem u8s_at (bs : List UInt8) (j : Nat) (h : j < bs.length) : (u8s bs)[j]? = some (.int .u8 ((bs.getD j 0).toNat)) := by
  rw [List.getElem?_map, List.getElem?_eq_getElem h, List.getD_eq_getElem?_getD, List.getElem?_eq_getElem h]; rfl

theorem Row.take1 {w : World} {F : Nat → Prop} {A : Option Addr} {n c : Nat} {xs : List Value} (h : Row w F 1 (.slice A n c) n xs) (m : Nat) (hm : m ≤ n) : Row w F 1 (.slice A m c) m (xs.take m) := by
  obtain ⟨h1, h0, A', c', e, h3, h4, h5⟩ := h
  injection e with e1 _ e3
  subst e1 e3
  refine ⟨by simp; omega, by omega, _, _, rfl, by omega, fun e => by have := h4 e; omega, fun hn => ?_⟩
  obtain ⟨b, off, e, hf, hc⟩ := h5 (by omega)
  refine ⟨b, off, e, hf, fun j u hu => hc j u ?_⟩
  rw [List.getElem?_take] at hu
  split at hu
  · exact hu
  · cases hu
theorem u8s_take (l : List UInt8) (n : Nat) : u8s (l.take n) = (u8s l).take n := by simp


theorem Row.form {w : World} {F : Nat → Prop} {size n : Nat} {v : Value} {xs : List Value} (h : Row w F size v n xs) : ∃ A c, v = .slice A n c ∧ n ≤ c := by
  obtain ⟨_, _, A, c, rfl, hc, _⟩ := h
  exact ⟨A, c, rfl, hc⟩
theorem Row.cellAt {w : World} {F : Nat → Prop} {A : Option Addr} {n c : Nat} {xs : List Value} (h : Row w F 1 (.slice A n c) n xs) (hn : 0 < n) :
    ∃ b off, A = some ⟨b, off, none⟩ ∧ F b ∧ ∀ j u, xs[j]? = some u → w.cell? ⟨b, off + j, none⟩ = some u := by
  obtain ⟨_, _, A', c', e, _, _, h⟩ := h
  injection e with e1
  subst e1
  exact h hn

set_option maxHeartbeats 1000000 in
theorem same_q (F G : Nat → Prop) (x y : Value) (a b : List UInt8) (w : World) (hx : Row w F 1 x a.length (u8s a)) (hy : Row w G 1 y b.length (u8s b)) :
    Calls Tryd.prog 15 #[x, y] w fun e w' => e = .returned (.bool (decide (a = b))) ∧ ∃ n, w' = w.drewN n := by
  obtain ⟨A, c, rfl, hc⟩ := hx.form
  obtain ⟨B, d, rfl, hd⟩ := hy.form
  have ha := hx.2.1
  have hb := hy.2.1
  unfold maxLen at ha hb
  by_cases hl : a.length = b.length
  · have e1 : ((a.length : Int) != (b.length : Int)) = false := by rw [hl]; simp
    have HX := Lib.hid hx
    have HY := Lib.hid hy
    clear hx hy
    have HL := Lib.hid hl
    rw [← hl] at HY ⊢
    clear hl hb
    rw [← HL.out] at e1
    go_enter Tryd.func15, Tryd.ntmps15
    go_wp2
    clear e1
    go_loopw [5] (fun i wr => ∃ k : Nat, k ≤ a.length ∧ i = .int .i64 k ∧ a.take k = b.take k ∧ ∃ n, wr = w.drewN n) (fun i _ => a.length - (intOf i).toNat)
    case atStart => exact ⟨0, by omega, rfl, by simp, 0, rfl⟩
    case round =>
      obtain ⟨k, hk, rfl, htake, q, hq⟩ := hrel
      have HT := Lib.hid htake
      have HQ := Lib.hid hq
      have HK := Lib.hid (Keeps.of_drewN hq)
      clear htake hq
      by_cases hlt : k < a.length
      · obtain ⟨p, o, rfl, _, hcx⟩ := (HX.out.keeps HK.out (fun _ _ h => h)).cellAt (by omega)
        obtain ⟨p2, o2, rfl, _, hcy⟩ := (HY.out.keeps HK.out (fun _ _ h => h)).cellAt (by omega)
        have hlb : k < b.length := by have := HL.out; omega
        have c1 := hcx k _ (u8s_at a k hlt)
        have c2 := hcy k _ (u8s_at b k hlb)
        have hi0 : (0 : Int) ≤ (k : Int) := by omega
        have hi1 : (k : Int) < (a.length : Int) := by omega
        obtain ⟨X, hX⟩ : ∃ X : Nat, X = (a.getD k 0).toNat := ⟨_, rfl⟩
        obtain ⟨Y, hY⟩ : ∃ Y : Nat, Y = (b.getD k 0).toNat := ⟨_, rfl⟩
        rw [← hX] at c1
        rw [← hY] at c2
        have HX1 := Lib.hid hX
        have HY1 := Lib.hid hY
        clear hX hY hcx hcy
        by_cases hxy : X = Y
        · subst hxy
          have hne : ((X : Int) != (X : Int)) = false := by simp
          go_wp2_with fail
          go_quiet (fail)
          go_wp2
          go_roundw
          case rel =>
            refine ⟨k + 1, by omega, by go_num, ?_, _, by rw [HQ.out, World.drewN_drewN]⟩
            rw [List.take_succ_eq_append_getElem hlt, List.take_succ_eq_append_getElem hlb, HT.out]
            have : a[k] = b[k] := by
              apply UInt8.toNat_inj.1
              have h1 := HX1.out
              have h2 := HY1.out
              rw [List.getD_eq_getElem?_getD, List.getElem?_eq_getElem hlt] at h1
              rw [List.getD_eq_getElem?_getD, List.getElem?_eq_getElem hlb] at h2
              exact h1.symm.trans h2
            rw [this]
          case measure => simp [intOf]; omega
        · have hne : ((X : Int) != (Y : Int)) = true := by rw [bne_iff_ne]; omega
          have hno : decide (a = b) = false := by
            rw [decide_eq_false_iff_not]
            rintro rfl
            exact hxy (HX1.out.trans HY1.out.symm)
          have HNO := Lib.hid hno
          clear hno
          go_wp2_with fail
          go_quiet (fail)
          go_wp2
          go_ret
          exact ⟨by rw [HNO.out]; rfl, _, by rw [HQ.out, World.drewN_drewN]⟩
      · have hk' : k = a.length := by omega
        have hyes : decide (a = b) = true := by
          rw [decide_eq_true_eq]
          have := HT.out
          rw [hk', List.take_length, HL.out, List.take_length] at this
          exact this
        have HYES := Lib.hid hyes
        clear hyes hk'
        go_wp2
        go_ret
        exact ⟨by rw [HYES.out]; rfl, _, HQ.out⟩
  · have e1 : ((a.length : Int) != (b.length : Int)) = true := by rw [bne_iff_ne]; omega
    have hno : decide (a = b) = false := by
      rw [decide_eq_false_iff_not]
      rintro rfl
      exact hl rfl
    have HNO := Lib.hid hno
    clear hno hl hx hy
    go_enter Tryd.func15, Tryd.ntmps15
    go_wp2
    go_ret
    exact ⟨by rw [HNO.out]; rfl, 0, rfl⟩
theorem same_any (F G : Nat → Prop) (x y : Value) (a b : List UInt8) (w : World) (hx : Row w F 1 x a.length (u8s a)) (hy : Row w G 1 y b.length (u8s b)) :
    Calls Tryd.prog 15 #[x, y] w fun e w' => e = .returned (.bool (decide (a = b))) ∧ Keeps nobody w w' :=
  (same_q F G x y a b w hx hy).mono fun _ _ ⟨h, _, h2⟩ => ⟨h, Keeps.of_drewN h2⟩
end Go.Proofs.YtkllaghfiofnjaaDoor
/- append to own rows of bytes; rows of bytes that were just made. -/
namespace Go.Proofs.YtkllaghfiofnjaaDoor
open Go.RowKit

/-- Bytes that were just made. -/
theorem row_new (w : World) (l : List UInt8) (cs : Array Value) (n : Nat) (hc : cs = (u8s l).toArray) (hn : n = l.length) (hl : l.length ≤ 100000) : Row (w.alloc (.cells cs 5)) (fun b => b = w.heap.size) 1 (.slice (some ⟨w.heap.size, 0, none⟩) n n) l.length (u8s l) := by
  subst hc hn
  exact Row.block (Blk.new w 5 (u8s l).toArray) rfl (by simp) (by unfold maxLen; omega) (Nat.le_refl _)

section
variable {w : World} {ops : Array Oper} {rest : List Oper} {o : Oper} {a : Act} {Q : Exit → Act → World → Prop}
theorem wp_append_u8 (hgd : o.guard = none) (s x : Operand) (ho : o.op = .call { callee := .builtin .append, args := #[s, x], argTypes := #[25, 25] })
    (base : Nat) (v : Value) (n : Nat) (l : List UInt8) (hn : l.length = n) (hs : a.eval s = v) (hown : w.ownsRow base 5 1 v n (u8s l))
    (F : Nat → Prop) (y : Value) (m : List UInt8) (hx : a.eval x = y) (hr : Row w F 1 y m.length (u8s m)) (hlen : n + m.length ≤ 140737488355328) (hbase : base ≤ w.heap.size)
    (h : ∀ v' w', w'.ownsRow base 5 1 v' (l ++ m).length (u8s (l ++ m)) → w.grownBy w' v.ownBlock → (v'.ownBlock = v.ownBlock ∨ v'.ownBlock = some w.heap.size) → wpList Tryd.prog ops Q rest (a.put o.dst v') w') :
    wpList Tryd.prog ops Q (o :: rest) a w := by
  obtain ⟨i0, hi0, hz0, hz1, hz2⟩ := info_parts u8_info
  subst hn
  refine wpList_append_row hgd s x _ ho base 5 i0 _ 1 1 Tryd.underlying25 hi0 hz0 hz1 hz2 rfl (by omega) v _ (u8s l) hs hown F y m.length (u8s m) hx hr (u8s_cells m) (by simp only [maxLen]; omega) (by omega) hbase ?_
  intro v' w' h1 h2 h3
  refine h v' w' ?_ h2 h3
  rw [List.length_append]
  simpa using h1

theorem wpo_append_u8 {K : Act → World → Prop} (s x : Operand) (ho : o.op = .call { callee := .builtin .append, args := #[s, x], argTypes := #[25, 25] })
    (base : Nat) (v : Value) (n : Nat) (l : List UInt8) (hn : l.length = n) (hs : a.eval s = v) (hown : w.ownsRow base 5 1 v n (u8s l))
    (F : Nat → Prop) (y : Value) (m : List UInt8) (hx : a.eval x = y) (hr : Row w F 1 y m.length (u8s m)) (hlen : n + m.length ≤ 140737488355328) (hbase : base ≤ w.heap.size)
    (h : ∀ v' w', w'.ownsRow base 5 1 v' (l ++ m).length (u8s (l ++ m)) → w.grownBy w' v.ownBlock → (v'.ownBlock = v.ownBlock ∨ v'.ownBlock = some w.heap.size) → K (a.put o.dst v') w') :
    o.wp Tryd.prog a w K Q := by
  obtain ⟨i0, hi0, hz0, hz1, hz2⟩ := info_parts u8_info
  subst hn
  refine wp_append_row s x _ ho base 5 i0 _ 1 1 Tryd.underlying25 hi0 hz0 hz1 hz2 rfl (by omega) v _ (u8s l) hs hown F y m.length (u8s m) hx hr (u8s_cells m) (by simp only [maxLen]; omega) (by omega) hbase ?_
  intro v' w' h1 h2 h3
  refine h v' w' ?_ h2 h3
  rw [List.length_append]
  simpa using h1

end
theorem Row.strong {w : World} {F : Nat → Prop} {v : Value} {n : Nat} {xs : List Value} (h : Row w F 1 v n xs) : Row w (fun b => F b ∧ b < w.heap.size) 1 v n xs := by
  obtain ⟨h1, h0, A, c, h2, h3, h4, h5⟩ := h
  refine ⟨h1, h0, A, c, h2, h3, h4, fun hn => ?_⟩
  obtain ⟨b, off, e, f, g⟩ := h5 hn
  refine ⟨b, off, e, ⟨f, ?_⟩, g⟩
  exact cell_lt (g 0 xs[0] (List.getElem?_eq_getElem (by omega)))
theorem Row.one {w : World} {F : Nat → Prop} {v : Value} {n : Nat} {xs : List Value} (h : Row w F 1 v n xs) : v.oneCell' = true := by
  obtain ⟨_, _, A, c, rfl, _⟩ := h
  rfl
theorem own_grown {w w' : World} {base : Nat} {e : TypeId} {size : Nat} {v : Value} {n : Nat} {xs : List Value} {row : Option Nat} (h : w.ownsRow base e size v n xs) (hg : w.grownBy w' row) (hr : ∀ b, v.ownBlock = some b → row ≠ some b) : w'.ownsRow base e size v n xs :=
  ownsRow_keeps h ((Keeps.refl (fun b => row = some b) w).grown hg (fun _ e _ => e)) (fun b hb e => hr b hb e)
theorem own_store {w : World} {base g i : Nat} {e : TypeId} {size : Nat} {v u : Value} {n : Nat} {xs : List Value} (h : w.ownsRow base e size v n xs) (hg : v.ownBlock ≠ some g) : (w.setCell ⟨g, i, none⟩ u).ownsRow base e size v n xs :=
  ownsRow_keeps h ((Keeps.refl (only g) w).store g i (fun _ => only_self g) u) (fun b hb e => hg (by have e : b = g := e; rw [← e]; exact hb))
end Go.Proofs.YtkllaghfiofnjaaDoor
