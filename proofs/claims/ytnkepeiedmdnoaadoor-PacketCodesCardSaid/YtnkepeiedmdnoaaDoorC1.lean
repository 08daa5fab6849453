/- Small lemmas of my own: Go's int as a number, a block that is known whole, what a call leaves as it was. -/
import Derived.WalkKit
import Derived.Lib.Hide
import Derived.Deep.QuietTactic
import Derived.BigQuiet
import Derived.Deep.Draws
import Derived.Maps.AppendAt
import Derived.Laws.AppendOwnNone
import Derived.Deep.AppendLies
import Derived.WalkSpells
import Derived.WalkLawsBesides
import Derived.Deep.DeepCutAuto
import Derived.Deep.CutBlock
import Derived.Deep.RegionHeld3
import Derived.Deep.DeepFit
import Derived.Test.YtnkepeiedmdnoaaDoorRows
import Derived.LaidEql
import Derived.Stop.Asserts
import Derived.RowKitTokens
import Derived.ChangeSame
import Derived.ChangeVars
import Derived.JoinedOf
import Derived.RowKit
import Derived.LaidLaws
import Derived.LaidHandle
import Derived.Stop.Joined
import Derived.ProofKit
import Derived.OpenShut
import Derived.Deep.Slices
import Derived.Deep.Fields
namespace Go.Proofs.YtnkepeiedmdnoaaDoor
set_option maxRecDepth 100000
set_option maxHeartbeats 1000000
open _root_.Go.Lib renaming hid → xhd
open Go.RowKit
theorem y3f (a : Nat) (ha : a < 18446744073709551616) : (BitVec.ofInt 64 (a : Int)).toNat = a := by
 rw [BitVec.toNat_ofInt]; omega
theorem y3w (a b : Nat) (ha : a < 9223372036854775808) (hb : b < 9223372036854775808) : bits .or .i64 (a : Int) (b : Int) = ((a ||| b : Nat) : Int) := by
 have h : a ||| b < 2 ^ 63 := Nat.or_lt_two_pow (by omega) (by omega)
 show IntKind.i64.wrap (((BitVec.ofInt 64 (a : Int)) ||| (BitVec.ofInt 64 (b : Int))).toNat : Int) = _
 rw [BitVec.toNat_or, y3f a (by omega), y3f b (by omega)]
 exact IntWalk.i64_in _ (by omega)
theorem y0i {p : Prop} (h : Hid p) : p := h
def Blk (w : World) (g : Nat) (t : TypeId) (cs : Array Value) : Prop := w.heap[g]? = some (.cells cs t (0, 0))
section
variable {w w' : World} {g : Nat} {t : TypeId} {cs : Array Value}
theorem Blk.lt (h : Blk w g t cs) : g < w.heap.size := (Array.getElem?_eq_some_iff.1 h).1
theorem Blk.cell (h : Blk w g t cs) (i : Nat) : w.cell? ⟨g, i, none⟩ = cs[i]? := by
 unfold Blk at h; simp [World.cell?, h]
theorem Blk.frozen (h : Blk w g t cs) (i : Nat) : w.frozen? ⟨g, i, none⟩ = false := by
 unfold Blk at h; simp [World.frozen?, h]
theorem Blk.new (w : World) (t : TypeId) (cs : Array Value) : Blk (w.alloc (.cells cs t)) w.heap.size t cs := by
 show (w.heap.push _)[w.heap.size]? = _
 simp
theorem Blk.drew (h : Blk w g t cs) : Blk w.drew g t cs := h
theorem Blk.drewN (h : Blk w g t cs) (n : Nat) : Blk (w.drewN n) g t cs := h
theorem Blk.alloc (h : Blk w g t cs) (o : Obj) : Blk (w.alloc o) g t cs := (Below.heap_alloc w o g h.lt).trans h
theorem Blk.set (h : Blk w g t cs) (i : Nat) (u : Value) : Blk (w.setCell ⟨g, i, none⟩ u) g t (cs.setIfInBounds i u) := by
 unfold Blk at h ⊢
 simp [World.setCell, Array.getElem?_modify, h]
theorem Blk.far (h : Blk w g t cs) {p : Addr} (hp : g ≠ p.block) (u : Value) : Blk (w.setCell p u) g t cs := (Below.heap_setCell w p u g hp).trans h
end
def y03 : Nat → Prop := fun _ => False
def only (g : Nat) : Nat → Prop := fun k => k = g
structure Keeps (S : Nat → Prop) (w w' : World) : Prop where
 os : w'.os = w.os
 tape : w'.tape = w.tape
 output : w'.output = w.output
 size : w.heap.size ≤ w'.heap.size
 block : ∀ k, k < w.heap.size → ¬ S k → w'.heap[k]? = w.heap[k]?
theorem Keeps.refl (S : Nat → Prop) (w : World) : Keeps S w w := ⟨rfl, rfl, rfl, Nat.le_refl _, fun _ _ _ => rfl⟩
theorem Keeps.trans {S : Nat → Prop} {a b c : World} (h : Keeps S a b) (k : Keeps S b c) : Keeps S a c :=
 ⟨k.os.trans h.os, k.tape.trans h.tape, k.output.trans h.output, Nat.le_trans h.size k.size, fun i hi hs => (k.block i (Nat.lt_of_lt_of_le hi h.size) hs).trans (h.block i hi hs)⟩
theorem Keeps.mono {S T : Nat → Prop} {a b : World} (h : Keeps S a b) (hT : ∀ i, S i → T i) : Keeps T a b :=
 ⟨h.os, h.tape, h.output, h.size, fun i hi hs => h.block i hi (fun x => hs (hT i x))⟩
theorem Keeps.of_below {a b : World} (h : Below a.heap.size a b) : Keeps (fun _ => False) a b := ⟨h.os, h.tape, h.output, h.size, fun k hk _ => h.block k hk⟩
theorem Keeps.of_drewN {w w' : World} {n : Nat} (h : w' = w.drewN n) : Keeps y03 w w' := by subst h; exact ⟨rfl, rfl, rfl, Nat.le_refl _, fun _ _ _ => rfl⟩
theorem Keeps.new {a b : World} (h : Below a.heap.size a b) : Keeps y03 a b := Keeps.of_below h
theorem Below.quiet {B : Nat} {a b c : World} (h : Below B a b) (k : Keeps y03 b c) (hB : B ≤ b.heap.size) : Below B a c :=
 h.trans ⟨k.os, k.tape, k.output, k.size, fun i hi => k.block i (by omega) (fun x => x)⟩
theorem Keeps.to_below {a b : World} (h : Keeps (fun _ => False) a b) : Below a.heap.size a b := ⟨h.os, h.tape, h.output, h.size, fun k hk => h.block k hk (fun x => x)⟩
theorem Below.keeps {B : Nat} {S : Nat → Prop} {a b c : World} (h : Below B a b) (k : Keeps S b c) (hB : B ≤ b.heap.size) (hS : ∀ i, S i → B ≤ i) : Below B a c :=
 h.trans ⟨k.os, k.tape, k.output, k.size, fun i hi => k.block i (by omega) (fun x => by have := hS i x; omega)⟩
theorem Below.drewN {B : Nat} {a w : World} (h : Below B a w) (n : Nat) : Below B a (w.drewN n) := ⟨h.os, h.tape, h.output, h.size, h.block⟩
theorem Keeps.drew {S : Nat → Prop} {a w : World} (h : Keeps S a w) : Keeps S a w.drew := ⟨h.os, h.tape, h.output, h.size, h.block⟩
theorem Keeps.drewN {S : Nat → Prop} {a w : World} (h : Keeps S a w) (n : Nat) : Keeps S a (w.drewN n) := ⟨h.os, h.tape, h.output, h.size, h.block⟩
theorem Keeps.alloc {S : Nat → Prop} {a w : World} (h : Keeps S a w) (o : Obj) : Keeps S a (w.alloc o) :=
 h.trans ⟨rfl, rfl, rfl, by simp, fun k hk _ => Below.heap_alloc w o k hk⟩
theorem Keeps.setCell {S : Nat → Prop} {a w : World} (h : Keeps S a w) {p : Addr} (hp : p.block < a.heap.size → S p.block) (u : Value) : Keeps S a (w.setCell p u) :=
 ⟨h.os, h.tape, h.output, by simpa [World.setCell] using h.size, fun k hk hs =>
  (Below.heap_setCell w p u k (fun e => hs (e ▸ hp (e ▸ hk)))).trans (h.block k hk hs)⟩
theorem Keeps.store {S : Nat → Prop} {a w : World} (h : Keeps S a w) (g i : Nat) (hg : g < a.heap.size → S g) (u : Value) : Keeps S a (w.setCell ⟨g, i, none⟩ u) := h.setCell (p := ⟨g, i, none⟩) hg u
theorem Keeps.grown {S : Nat → Prop} {a w w' : World} {row : Option Nat} (h : Keeps S a w) (hg : w.grownBy w' row) (hr : ∀ k, row = some k → k < a.heap.size → S k) : Keeps S a w' :=
 ⟨hg.os.trans h.os, hg.tape.trans h.tape, hg.output.trans h.output, Nat.le_trans h.size hg.size,
  fun k hk hs => (hg.block k (Nat.lt_of_lt_of_le hk h.size) (fun e => hs (hr k e.symm hk))).trans (h.block k hk hs)⟩
theorem Blk.keeps {S : Nat → Prop} {w w' : World} {g : Nat} {t : TypeId} {cs : Array Value} (h : Blk w g t cs) (k : Keeps S w w') (hs : ¬ S g) : Blk w' g t cs :=
 (k.block g h.lt hs).trans h
theorem Blk.below {B : Nat} {w w' : World} {g : Nat} {t : TypeId} {cs : Array Value} (h : Blk w g t cs) (k : Below B w w') (hs : g < B) : Blk w' g t cs :=
 (k.block g hs).trans h
theorem Blk.grown {row : Option Nat} {w w' : World} {g : Nat} {t : TypeId} {cs : Array Value} (h : Blk w g t cs) (k : w.grownBy w' row) (hs : some g ≠ row) : Blk w' g t cs :=
 (k.block g h.lt hs).trans h
theorem y05 {S : Nat → Prop} {w w' : World} {base : Nat} {e : TypeId} {size : Nat} {v : Value} {n : Nat} {xs : List Value} (h : w.ownsRow base e size v n xs)
  (k : Keeps S w w') (hs : ∀ g, v.ownBlock = some g → ¬ S g) : w'.ownsRow base e size v n xs := by
 obtain ⟨h1, h2⟩ := h
 refine ⟨h1, ?_⟩
 rcases h2 with h2 | ⟨g, cap, cur, rfl, hg, hh, r⟩
 ·exact .inl h2
 ·have hb : Blk w g e cur := hh
  exact .inr ⟨g, cap, cur, rfl, hg, hb.keeps k (hs g rfl), r⟩
theorem y07 {w : World} {base : Nat} {e : TypeId} {size : Nat} {v : Value} {n : Nat} {xs : List Value} (h : w.ownsRow base e size v n xs) (g : Nat) (hg : v.ownBlock = some g) : g < w.heap.size := by
 rcases h.2 with ⟨rfl, _⟩ | ⟨g', cap, cur, rfl, _, hh, _⟩
 ·cases hg
 ·have hb : Blk w g' e cur := hh
  have : g' = g := by simpa [Value.ownBlock] using hg
  exact this ▸ hb.lt
def Row (w : World) (F : Nat → Prop) (size : Nat) (v : Value) (n : Nat) (xs : List Value) : Prop :=
 xs.length = n * size ∧ n ≤ maxLen ∧ ∃ A c, v = .slice A n c ∧ n ≤ c ∧ (A = none → n = 0) ∧
  (0 < n → ∃ b off, A = some ⟨b, off, none⟩ ∧ F b ∧ ∀ j u, xs[j]? = some u → w.cell? ⟨b, off + j, none⟩ = some u)
theorem Row.mono {w : World} {F G : Nat → Prop} {size : Nat} {v : Value} {n : Nat} {xs : List Value} (h : Row w F size v n xs) (hG : ∀ b, F b → G b) : Row w G size v n xs := by
 obtain ⟨h1, h0, A, c, h2, h3, h4, h5⟩ := h
 exact ⟨h1, h0, A, c, h2, h3, h4, fun hn => by obtain ⟨b, off, e, f, g⟩ := h5 hn; exact ⟨b, off, e, hG b f, g⟩⟩
theorem Row.cellsOf {w w' : World} {F : Nat → Prop} {size : Nat} {v : Value} {n : Nat} {xs : List Value} (h : Row w F size v n xs)
  (hk : ∀ (b off : Nat) (u : Value), F b → w.cell? ⟨b, off, none⟩ = some u → w'.cell? ⟨b, off, none⟩ = some u) : Row w' F size v n xs := by
 obtain ⟨h1, h0, A, c, h2, h3, h4, h5⟩ := h
 exact ⟨h1, h0, A, c, h2, h3, h4, fun hn => by
  obtain ⟨b, off, e, f, g⟩ := h5 hn
  exact ⟨b, off, e, f, fun j u hu => hk b _ u f (g j u hu)⟩⟩
theorem y0c {w : World} {b off : Nat} {u : Value} (h : w.cell? ⟨b, off, none⟩ = some u) : b < w.heap.size := by
 rcases Nat.lt_or_ge b w.heap.size with hl | hg
 ·exact hl
 ·simp [World.cell?, Array.getElem?_eq_none hg] at h
theorem Row.keeps {S : Nat → Prop} {w w' : World} {F : Nat → Prop} {size : Nat} {v : Value} {n : Nat} {xs : List Value} (h : Row w F size v n xs) (k : Keeps S w w') (hs : ∀ b, F b → ¬ S b) : Row w' F size v n xs :=
 h.cellsOf fun b off _ hf hu => (World.cell?_of_block (w := w) (a := ⟨b, off, none⟩) (k.block b (y0c hu) (hs b hf))).trans hu
theorem Row.of_own {w : World} {base : Nat} {e : TypeId} {size : Nat} {v : Value} {n : Nat} {xs : List Value} (h : w.ownsRow base e size v n xs) : Row w (fun b => v.ownBlock = some b) size v n xs := by
 obtain ⟨h1, h2⟩ := h
 rcases h2 with ⟨rfl, rfl⟩ | ⟨g, cap, cur, rfl, hg, hh, h3, h4, h5, h6⟩
 ·exact ⟨h1, by simp [maxLen], none, 0, rfl, Nat.le_refl _, fun _ => rfl, fun h => absurd h (by omega)⟩
 ·refine ⟨h1, by omega, _, cap, rfl, h3, by simp, fun _ => ⟨g, 0, rfl, rfl, fun j u hu => ?_⟩⟩
  have hb : Blk w g e cur := hh
  rw [hb.cell, Nat.zero_add, ← Array.getElem?_toList]
  rw [← h6, List.getElem?_take] at hu
  split at hu
  ·exact hu
  ·cases hu
theorem Row.nil (w : World) (F : Nat → Prop) (size : Nat) : Row w F size (.slice none 0 0) 0 [] :=
 ⟨by simp, by simp [maxLen], none, 0, rfl, Nat.le_refl _, fun _ => rfl, fun h => absurd h (by omega)⟩
theorem y1e {w : World} {base base' : Nat} {e : TypeId} {size : Nat} {v : Value} {n : Nat} {xs : List Value} (h : w.ownsRow base e size v n xs) (hb : base' ≤ base) : w.ownsRow base' e size v n xs := by
 obtain ⟨h1, h2⟩ := h
 refine ⟨h1, ?_⟩
 rcases h2 with h2 | ⟨g, cap, cur, rfl, hg, r⟩
 ·exact .inl h2
 ·exact .inr ⟨g, cap, cur, rfl, by omega, r⟩
theorem y04 {w : World} {base : Nat} {e : TypeId} {size : Nat} {v : Value} {n : Nat} {xs : List Value} (h : w.ownsRow base e size v n xs) (g : Nat) (hg : v.ownBlock = some g) : base ≤ g := by
 rcases h.2 with ⟨rfl, _⟩ | ⟨g', cap, cur, rfl, hb, _⟩
 ·cases hg
 ·have : g' = g := by simpa [Value.ownBlock] using hg
  omega
theorem y3j (w : World) (base : Nat) (e : TypeId) (size : Nat) (hb : base ≤ w.heap.size) : (w.alloc (.cells #[] e)).ownsRow base e size (.slice (some ⟨w.heap.size, 0, none⟩) 0 0) 0 [] :=
 ⟨by simp, .inr ⟨w.heap.size, 0, #[], rfl, hb, Blk.new w e #[], Nat.le_refl _, by simp, by simp, by simp⟩⟩
theorem Row.block {w : World} {F : Nat → Prop} {size g n c : Nat} {t : TypeId} {cs : Array Value} (h : Blk w g t cs) (hF : F g) (hn : cs.size = n * size) (hm : n ≤ maxLen) (hc : n ≤ c) :
  Row w F size (.slice (some ⟨g, 0, none⟩) n c) n cs.toList :=
 ⟨by simpa using hn, hm, _, c, rfl, hc, by simp, fun _ => ⟨g, 0, rfl, hF, fun j u hu => by rw [h.cell, Nat.zero_add, ← Array.getElem?_toList]; exact hu⟩⟩
theorem y0k (b off j : Nat) : (Addr.add ⟨b, off, none⟩ j) = ⟨b, off + j, none⟩ := by
 unfold Addr.add
 split
 ·rename_i h; simp_all
 ·rfl
theorem Row.cut {w : World} {F : Nat → Prop} {size : Nat} {A : Option Addr} {n c : Nat} {xs : List Value} (h : Row w F size (.slice A n c) n xs) (lo m : Nat) (hm : lo + m ≤ n) :
  Row w F size (.slice (A.map (fun x => x.add (lo * size))) m (c - lo)) m ((xs.drop (lo * size)).take (m * size)) := by
 obtain ⟨h1, h0, A', c', e, h3, h4, h5⟩ := h
 injection e with e1 _ e3
 subst e1 e3
 refine ⟨?_, by omega, _, _, rfl, by omega, fun e => ?_, fun h0m => ?_⟩
 ·rw [List.length_take, List.length_drop, h1, ← Nat.sub_mul]
  exact Nat.min_eq_left (Nat.mul_le_mul_right _ (by omega))
 ·have := h4 (by simpa using e)
  omega
 ·obtain ⟨b, off, rfl, hf, hc⟩ := h5 (by omega)
  refine ⟨b, off + lo * size, by simp [y0k], hf, fun j u hu => ?_⟩
  rw [List.getElem?_take] at hu
  split at hu
  ·rw [List.getElem?_drop] at hu
   have := hc _ _ hu
   rwa [← Nat.add_assoc] at this
  ·cases hu
theorem Row.cut1 {w : World} {F : Nat → Prop} {A : Option Addr} {n c : Nat} {xs : List Value} (h : Row w F 1 (.slice A n c) n xs) (lo m : Nat) (hm : lo + m ≤ n) :
  Row w F 1 (.slice (A.map (fun x => x.add lo)) m (c - lo)) m ((xs.drop lo).take m) := by
 simpa using h.cut lo m hm
theorem Row.cutEnd {w : World} {F : Nat → Prop} {A : Option Addr} {n c : Nat} {xs : List Value} (h : Row w F 1 (.slice A n c) n xs) (m : Nat) (hm : c + m ≤ n) :
  Row w F 1 (.slice A m 0) m ((xs.drop c).take m) := by
 obtain ⟨h1, h0, A', c', e, h3, h4, h5⟩ := h
 injection e with e1 _ e3
 subst e1 e3
 obtain rfl : m = 0 := by omega
 exact ⟨by simp, by omega, A, 0, rfl, Nat.le_refl _, fun _ => rfl, fun h => absurd h (by omega)⟩
section
variable {P : Program} {w : World}
theorem y44 (base : Nat) (t ty e : TypeId) (i : TypeInfo) (z : Value) (size bytes : Nat) (ht : P.underlying t = some (.slice e)) (hi : P.info? e = some i) (hz : i.zero = some z)
  (hsize : i.size = size) (hby : i.bytes = bytes) (hzs : z.cells.size = size) (hsz : 0 < size)
  (v : Value) (n : Nat) (xs : List Value) (hown : w.ownsRow base e size v n xs)
  (F : Nat → Prop) (x : Value) (m : Nat) (news : List Value) (hr : Row w F size x m news) (h1 : ∀ u ∈ news, u.oneCell' = true)
  (h63 : n + m ≤ maxLen) (hbytes : (n + m) * bytes ≤ 140737488355328) (hbase : base ≤ w.heap.size) :
  ∃ v' w', (Builtin.append_ #[t, t] ty #[v, x]).run P w = .ok v' w' ∧ w'.ownsRow base e size v' (n + m) (xs ++ news) ∧ w.grownBy w' v.ownBlock ∧
   (v'.ownBlock = v.ownBlock ∨ v'.ownBlock = some w.heap.size) := by
 obtain ⟨hl, _, A, c, rfl, hc, hA, hcell⟩ := hr
 rcases A with _ | ad
 ·obtain rfl := hA rfl
  have hn : news = [] := List.eq_nil_of_length_eq_zero (by simpa using hl)
  subst hn
  refine ⟨v, w, ?_, by simpa using hown, World.grownBy.refl w _, .inl rfl⟩
  rcases hown.2 with ⟨rfl, rfl⟩ | ⟨g, cap, cur, rfl, _, _, hnc, _⟩
  ·simp [Builtin.append_, run_underlying ht, sizeOf, typeInfo, hi, Builtin.lenOf, Builtin.firstCells]
  ·simp [Builtin.append_, run_underlying ht, sizeOf, typeInfo, hi, Builtin.lenOf, Builtin.firstCells, hnc, storeCells]
 ·have hcells : ∀ j u, news[j]? = some u → w.cell? (ad.add j) = some u := by
   intro j u hu
   rcases Nat.eq_zero_or_pos m with h0 | h0
   ·subst h0
    have hn : news = [] := List.eq_nil_of_length_eq_zero (by simpa using hl)
    subst hn
    simp at hu
   ·obtain ⟨b, off, e, _, hc⟩ := hcell h0
    injection e with e
    subst e
    rw [y0k]
    exact hc j u hu
  obtain ⟨v', w', hrun, h2, h3, _, h5⟩ := run_append_own_at (P := P) w base t ty e i z size bytes ht hi hz hsize hby hzs hsz v n xs hown ad m c news hl hcells h1 h63 hbytes hbase
  exact ⟨v', w', hrun, h2, h3, h5⟩
theorem y27 {o : Oper} {a : Act} {K : Act → World → Prop} {Q : Exit → Act → World → Prop} (s x : Operand) (t : TypeId)
  (ho : o.op = .call { callee := .builtin .append, args := #[s, x], argTypes := #[t, t] })
  (base : Nat) (e : TypeId) (i : TypeInfo) (z : Value) (size bytes : Nat) (ht : P.underlying t = some (.slice e)) (hi : P.info? e = some i) (hz : i.zero = some z)
  (hsize : i.size = size) (hby : i.bytes = bytes) (hzs : z.cells.size = size) (hsz : 0 < size)
  (v : Value) (n : Nat) (xs : List Value) (hs : a.eval s = v) (hown : w.ownsRow base e size v n xs)
  (F : Nat → Prop) (y : Value) (m : Nat) (news : List Value) (hx : a.eval x = y) (hr : Row w F size y m news) (h1 : ∀ u ∈ news, u.oneCell' = true)
  (h63 : n + m ≤ maxLen) (hbytes : (n + m) * bytes ≤ 140737488355328) (hbase : base ≤ w.heap.size)
  (h : ∀ v' w', w'.ownsRow base e size v' (n + m) (xs ++ news) → w.grownBy w' v.ownBlock → (v'.ownBlock = v.ownBlock ∨ v'.ownBlock = some w.heap.size) → K (a.put o.dst v') w') : o.wp P a w K Q := by
 obtain ⟨v', w', hrun, h2, h3, h4⟩ := y44 (P := P) base t o.type e i z size bytes ht hi hz hsize hby hzs hsz v n xs hown F y m news hr h1 h63 hbytes hbase
 unfold Oper.wp execOp
 simp only [ho, resolve, invoke, builtin, Sem.run_bind, Sem.run_pure, Result.andThen_ok, List.map_toArray, List.map_cons, List.map_nil, hs, hx, hrun]
 exact h v' w' h2 h3 h4
theorem y0b {ops : Array Oper} {rest : List Oper} {o : Oper} {a : Act} {Q : Exit → Act → World → Prop} (hgd : o.guard = none) (s x : Operand) (t : TypeId)
  (ho : o.op = .call { callee := .builtin .append, args := #[s, x], argTypes := #[t, t] })
  (base : Nat) (e : TypeId) (i : TypeInfo) (z : Value) (size bytes : Nat) (ht : P.underlying t = some (.slice e)) (hi : P.info? e = some i) (hz : i.zero = some z)
  (hsize : i.size = size) (hby : i.bytes = bytes) (hzs : z.cells.size = size) (hsz : 0 < size)
  (v : Value) (n : Nat) (xs : List Value) (hs : a.eval s = v) (hown : w.ownsRow base e size v n xs)
  (F : Nat → Prop) (y : Value) (m : Nat) (news : List Value) (hx : a.eval x = y) (hr : Row w F size y m news) (h1 : ∀ u ∈ news, u.oneCell' = true)
  (h63 : n + m ≤ maxLen) (hbytes : (n + m) * bytes ≤ 140737488355328) (hbase : base ≤ w.heap.size)
  (h : ∀ v' w', w'.ownsRow base e size v' (n + m) (xs ++ news) → w.grownBy w' v.ownBlock → (v'.ownBlock = v.ownBlock ∨ v'.ownBlock = some w.heap.size) → wpList P ops Q rest (a.put o.dst v') w') :
  wpList P ops Q (o :: rest) a w :=
 wpList_plain hgd fun _ hK => y27 s x t ho base e i z size bytes ht hi hz hsize hby hzs hsz v n xs hs hown F y m news hx hr h1 h63 hbytes hbase fun v' w' h2 h3 h4 => hK _ _ (h v' w' h2 h3 h4)
end
open Go.RowKit Go.Extern.Stop Go.Stop Go.Extern
noncomputable def hB : Nat := Tryd.prog.globals.size
def y0e (w : World) : Prop := w.cell? ⟨0, 0, none⟩ = some (.iface 99 (.agg #[.pointer (some ⟨hB, 59, none⟩)]))
theorem y0e.lt {w : World} (h : y0e w) : 0 < w.heap.size := y0c h
theorem y0e.below {w w' : World} (h : y0e w) (k : Below w.heap.size w w') : y0e w' :=
 (World.cell?_of_block (w := w) (a := ⟨0, 0, none⟩) (k.block _ h.lt)).trans h
theorem y0e.keeps {w w' : World} {S : Nat → Prop} (h : y0e w) (k : Keeps S w w') (hS : ¬ S 0) : y0e w' :=
 (World.cell?_of_block (w := w) (a := ⟨0, 0, none⟩) (k.block _ h.lt hS)).trans h
theorem as_nil (t : Value) (w : World) : Calls Tryd.prog 36 #[.nilIface, t] w fun e w' => e = .returned (.bool false) ∧ w = w' := by
 go_enter Tryd.func36, Tryd.ntmps36
 go_wp2
 go_ret
 exact ⟨rfl, rfl⟩
section
theorem as_unpackT (t : Addr) (w : World) : (ReflectliteValue.unpack (.iface 75 (.pointer (some t)))).run Tryd.prog w
  = .ok (.agg #[.pointer (some ⟨hB, 75, none⟩), .pointer (some ⟨w.heap.size, 0, none⟩), .int .u64 150]) (w.alloc (.cells #[.pointer (some t)] 75)) := by kernel_rfl
theorem as_typeT (a : Addr) (w : World) : (ReflectliteValue.methodAny (ReflectliteValue.valueError "reflectlite.Value.Type" 0) (fun t _ _ _ => ReflectliteType.toType t) #[.agg #[.pointer (some ⟨hB, 75, none⟩), .pointer (some a), .int .u64 150]]).run Tryd.prog w
  = .ok (.iface 99 (.agg #[.pointer (some ⟨hB, 75, none⟩)])) w := by kernel_rfl
theorem as_mKind (n : Nat) (h : Value) (w : World) : (Go.method (n + 1) 99 (.agg #[h]) "Kind").run Tryd.prog w = .ok (64, h) w := by kernel_rfl
theorem as_mElem (n : Nat) (h : Value) (w : World) : (Go.method (n + 1) 99 (.agg #[h]) "Elem").run Tryd.prog w = .ok (76, .agg #[h]) w := by kernel_rfl
theorem as_mImpl (n : Nat) (h : Value) (w : World) : (Go.method (n + 1) 99 (.agg #[h]) "Implements").run Tryd.prog w = .ok (77, .agg #[h]) w := by kernel_rfl
theorem as_mAssign (n : Nat) (h : Value) (w : World) : (Go.method (n + 1) 99 (.agg #[h]) "AssignableTo").run Tryd.prog w = .ok (74, .agg #[h]) w := by kernel_rfl
theorem as_kindT (w : World) : ((ReflectliteType.abiMethod fun t => (fun a : Nat => Value.int IntKind.u8 (a : Int)) <$> Rtype.kind t) #[.pointer (some ⟨hB, 75, none⟩)]).run Tryd.prog w = .ok (.int .u8 22) w := by kernel_rfl
theorem as_kindE (w : World) : ((ReflectliteType.abiMethod fun t => (fun a : Nat => Value.int IntKind.u8 (a : Int)) <$> Rtype.kind t) #[.pointer (some ⟨hB, 73, none⟩)]).run Tryd.prog w = .ok (.int .u8 22) w := by kernel_rfl
theorem as_elemT (w : World) : (ReflectliteType.method ReflectliteType.elem #[.agg #[.pointer (some ⟨hB, 75, none⟩)]]).run Tryd.prog w = .ok (.iface 99 (.agg #[.pointer (some ⟨hB, 73, none⟩)])) w := by kernel_rfl
theorem as_implE (w : World) : (ReflectliteType.relation "Implements" ReflectliteType.implements_ #[.agg #[.pointer (some ⟨hB, 73, none⟩)], .iface 99 (.agg #[.pointer (some ⟨hB, 59, none⟩)])]).run Tryd.prog w = .ok (.bool true) w := by kernel_rfl
theorem as_typeOfE (v : Value) (w : World) : (ReflectliteType.typeOf #[.iface 73 v]).run Tryd.prog w = .ok (.iface 99 (.agg #[.pointer (some ⟨hB, 73, none⟩)])) w := by kernel_rfl
theorem as_assignE (w : World) : (ReflectliteType.relation "AssignableTo" ReflectliteType.assignableTo #[.agg #[.pointer (some ⟨hB, 73, none⟩)], .iface 99 (.agg #[.pointer (some ⟨hB, 73, none⟩)])]).run Tryd.prog w = .ok (.bool true) w := by kernel_rfl
theorem as_unpackE (e : Addr) (w : World) : (ReflectliteValue.unpack (.iface 73 (.pointer (some e)))).run Tryd.prog w
  = .ok (.agg #[.pointer (some ⟨hB, 73, none⟩), .pointer (some ⟨w.heap.size, 0, none⟩), .int .u64 150]) (w.alloc (.cells #[.pointer (some e)] 73)) := by kernel_rfl
theorem y45 (a : Addr) (w : World) : (ReflectliteValue.parts (.agg #[.pointer (some ⟨hB, 75, none⟩), .pointer (some a), .int .u64 150])).run Tryd.prog w = .ok (some (75, a, 150)) w := by kernel_rfl
theorem as_partsE (a : Addr) (w : World) : (ReflectliteValue.parts (.agg #[.pointer (some ⟨hB, 73, none⟩), .pointer (some a), .int .u64 150])).run Tryd.prog w = .ok (some (73, a, 150)) w := by kernel_rfl
theorem as_partsA (a : Addr) (w : World) : (ReflectliteValue.parts (.agg #[.pointer (some ⟨hB, 73, none⟩), .pointer (some a), .int .u64 406])).run Tryd.prog w = .ok (some (73, a, 406)) w := by kernel_rfl
theorem as_elem? (w : World) : (Rtype.elem? 75).run Tryd.prog w = .ok (some 73) w := by kernel_rfl
theorem as_mk (p : Addr) (w : World) : (ReflectliteValue.mk 73 p ReflectliteValue.flagAddr).run Tryd.prog w = .ok (.agg #[.pointer (some ⟨hB, 73, none⟩), .pointer (some p), .int .u64 406]) w := by kernel_rfl
theorem as_direct (w : World) : (Rtype.directlyAssignable 73 73).run Tryd.prog w = .ok true w := by kernel_rfl
theorem as_isNil (a p : Addr) (W : World) (ha : W.cell? a = some (.pointer (some p))) :
  (ReflectliteValue.method (ReflectliteValue.valueError "reflectlite.Value.IsNil" 0) ReflectliteValue.isNil #[.agg #[.pointer (some ⟨hB, 75, none⟩), .pointer (some a), .int .u64 150]]).run Tryd.prog W = .ok (.bool false) W := by
 change (ReflectliteValue.parts (.agg #[.pointer (some ⟨hB, 75, none⟩), .pointer (some a), .int .u64 150]) >>= _).run Tryd.prog W = _
 simp only [Sem.run_bind, y45, Result.andThen]
 simp [ReflectliteValue.isNil, loadVar, isAgg, underlying, Tryd.underlying75, ha, Result.andThen]
theorem as_elemV (a p : Addr) (W : World) (ha : W.cell? a = some (.pointer (some p))) :
  (ReflectliteValue.method (ReflectliteValue.valueError "reflectlite.Value.Elem" 0) ReflectliteValue.elem #[.agg #[.pointer (some ⟨hB, 75, none⟩), .pointer (some a), .int .u64 150]]).run Tryd.prog W
   = .ok (.agg #[.pointer (some ⟨hB, 73, none⟩), .pointer (some p), .int .u64 406]) W := by
 change (ReflectliteValue.parts (.agg #[.pointer (some ⟨hB, 75, none⟩), .pointer (some a), .int .u64 150]) >>= _).run Tryd.prog W = _
 simp only [Sem.run_bind, y45, Result.andThen]
 simp [ReflectliteValue.elem, loadVar, isAgg, underlying, Tryd.underlying75, ha, Result.andThen, as_elem?, as_mk]
theorem as_set (ta b e : Addr) (old : Value) (W : World) (hb : W.cell? b = some (.pointer (some e))) (ht : W.cell? ta = some old) (hf : W.frozen? ta = false) :
  (ReflectliteValue.set #[.agg #[.pointer (some ⟨hB, 73, none⟩), .pointer (some ta), .int .u64 406], .agg #[.pointer (some ⟨hB, 73, none⟩), .pointer (some b), .int .u64 150]]).run Tryd.prog W
   = .ok (.tuple #[]) (W.setCell ta (.pointer (some e))) := by
 change (ReflectliteValue.parts (.agg #[.pointer (some ⟨hB, 73, none⟩), .pointer (some ta), .int .u64 406]) >>= fun _ => ReflectliteValue.parts (.agg #[.pointer (some ⟨hB, 73, none⟩), .pointer (some b), .int .u64 150]) >>= _).run Tryd.prog W = _
 simp only [Sem.run_bind, as_partsA, as_partsE, Result.andThen]
 simp [ReflectliteValue.flagAddr, loadVar, isAgg, underlying, Tryd.underlying73, hb, Result.andThen, as_direct, storeVar, Value.cells, storeCells, Addr.add]
 rw [run_store Tryd.prog W ta _ _ (by rfl)]
 simp [ht, hf]
end
open Go.ChangeShapes Go.WideShapes Go.RowKit Go.Deep
theorem y2q : ownKnob Tryd.prog.godebug = none := by kernel_rfl
theorem y1v : laidOutB Tryd.prog = true := by kernel_rfl
theorem door_et : Tryd.prog.globalNamed "errors.errorType" = some 0 := by kernel_rfl
def rtName : String := match (Rows.laid_errors_errorType : DataW Unit) with
 | .iface s _ => s
 | _ => default
theorem door_rt : (Tryd.prog.cutTypes.find? (·.1 == rtName)).map (·.2) = some 99 := by kernel_rfl
theorem door_one : ((List.range Tryd.prog.types.size).filter fun t => Tryd.prog.rowNamed t [101, 114, 114, 111, 114]) = [59] := by kernel_rfl
def y0o : List (String × DataW Unit) := [("errors.errorType", Rows.laid_errors_errorType)]
theorem y28 {W : World} (h : laidMetH Tryd.prog y0o W) : y0e W := by
 have h' : laidMet Tryd.prog [] W ∧ handlesMet Tryd.prog y0o W := h
 obtain ⟨name, u, ty, e1, e2, e3, e4, e5⟩ := h'.2 _ (List.mem_singleton.2 rfl)
 have en : name = [101, 114, 114, 111, 114] := (Option.some.inj e1).symm
 subst en
 obtain rfl := Option.some.inj (door_rt.symm.trans e2)
 have hm : ty ∈ (List.range Tryd.prog.types.size).filter fun t => Tryd.prog.rowNamed t [101, 114, 114, 111, 114] := List.mem_filter.2 ⟨List.mem_range.2 e3, e4⟩
 rw [door_one] at hm
 obtain rfl := List.mem_singleton.1 hm
 have hh : typeHandle Tryd.prog 59 = .pointer (some ⟨hB, 59, none⟩) := by kernel_rfl
 rw [hh] at e5
 unfold y0e
 simpa using World.var?_cell door_et e5 0
noncomputable def y2a (os : Os) : World :=
 let w0 := World.holding Tryd.prog os ⟨#[], #[], []⟩
 { w0 with heap := w0.heap.modify 0 fun
   | .cells _ t frozen => .cells #[.iface 99 (.agg #[.pointer (some ⟨hB, 59, none⟩)])] t frozen
   | o => o }
theorem y1f (os : Os) (args : Array Value) : laidMetH Tryd.prog y0o ((y2a os).forCall (fun _ _ => 0) ⟨#[], args, []⟩).memory :=
 laidMetH_of_parts (laidMet_nil _ _) (by kernel_rfl)
section
variable {H : Type} {enc : TypeId × Value → H} {P : Program} {w : World} {base : Nat} {held : Bool}
end
namespace Pure
structure Pkt where
 code : Int
 id : Int
 data : List UInt8
def Pkt.odd (p : Pkt) : Prop := p.code < 0 ∨ 255 < p.code ∨ p.id < 0 ∨ 255 < p.id
instance (p : Pkt) : Decidable p.odd := by unfold Pkt.odd; infer_instance
def Pkt.bytes (p : Pkt) : List UInt8 :=
 [UInt8.ofNat p.code.toNat, UInt8.ofNat p.id.toNat, UInt8.ofNat ((p.data.length + 4) / 256), UInt8.ofNat ((p.data.length + 4) % 256)] ++ p.data
def encode (p : Pkt) : Nat × List UInt8 := if p.odd then (1, []) else if 1496 < p.data.length then (3, []) else (0, p.bytes)
theorem encode_odd {p : Pkt} (h : p.odd) : encode p = (1, []) := if_pos h
theorem encode_long {p : Pkt} (h : ¬ p.odd) (hl : 1496 < p.data.length) : encode p = (3, []) := by unfold encode; rw [if_neg h, if_pos hl]
theorem encode_ok {p : Pkt} (h : ¬ p.odd) (hl : ¬ 1496 < p.data.length) : encode p = (0, p.bytes) := by unfold encode; rw [if_neg h, if_neg hl]
def noPkt : Pkt := ⟨0, 0, []⟩
def stated (b : List UInt8) : Nat := (b.getD 2 0).toNat * 256 + (b.getD 3 0).toNat
def decode (b : List UInt8) : Nat × Pkt :=
 if b.length < 4 then (2, noPkt) else if stated b < 4 then (4, noPkt) else if b.length < stated b then (2, noPkt) else if 1500 < stated b then (3, noPkt)
 else (0, ⟨(b.getD 0 0).toNat, (b.getD 1 0).toNat, (b.drop 4).take (stated b - 4)⟩)
theorem decode_short {b : List UInt8} (h : b.length < 4) : decode b = (2, noPkt) := if_pos h
theorem decode_form {b : List UInt8} (h : ¬ b.length < 4) (h2 : stated b < 4) : decode b = (4, noPkt) := by unfold decode; rw [if_neg h, if_pos h2]
theorem decode_cut {b : List UInt8} (h : ¬ b.length < 4) (h2 : ¬ stated b < 4) (h3 : b.length < stated b) : decode b = (2, noPkt) := by unfold decode; rw [if_neg h, if_neg h2, if_pos h3]
theorem decode_long {b : List UInt8} (h : ¬ b.length < 4) (h2 : ¬ stated b < 4) (h3 : ¬ b.length < stated b) (h4 : 1500 < stated b) : decode b = (3, noPkt) := by unfold decode; rw [if_neg h, if_neg h2, if_neg h3, if_pos h4]
theorem decode_ok {b : List UInt8} (h : ¬ b.length < 4) (h2 : ¬ stated b < 4) (h3 : ¬ b.length < stated b) (h4 : ¬ 1500 < stated b) : decode b = (0, ⟨(b.getD 0 0).toNat, (b.getD 1 0).toNat, (b.drop 4).take (stated b - 4)⟩) := by unfold decode; rw [if_neg h, if_neg h2, if_neg h3, if_neg h4]
abbrev Opt := Int × List UInt8
def Opt.odd (o : Opt) : Prop := o.1 < 0 ∨ 255 < o.1 ∨ 253 < o.2.length
instance (o : Opt) : Decidable (Opt.odd o) := by unfold Opt.odd; infer_instance
def Opt.bytes (o : Opt) : List UInt8 := [UInt8.ofNat o.1.toNat, UInt8.ofNat (o.2.length + 2)] ++ o.2
def joined (l : List Opt) : List UInt8 := l.flatMap Opt.bytes
def y0f : Nat → List UInt8 → List Opt → Nat × List Opt
 | 0, _, acc => (0, acc)
 | f + 1, b, acc =>
  if b = [] then (0, acc)
  else if acc.length = 32 then (3, [])
  else if b.length < 2 ∨ (b.getD 1 0).toNat < 2 ∨ b.length < (b.getD 1 0).toNat then (4, [])
  else y0f f (b.drop (b.getD 1 0).toNat) (acc ++ [(((b.getD 0 0).toNat : Int), (b.drop 2).take ((b.getD 1 0).toNat - 2))])
def splitFrom (b : List UInt8) (acc : List Opt) : Nat × List Opt := y0f b.length b acc
def split (b : List UInt8) : Nat × List Opt := splitFrom b []
end Pure
theorem y1c : (Tryd.prog.info? 5).map (fun i => (i.zero, i.size, i.bytes)) = some (some (.int .u8 0), 1, 1) := by kernel_rfl
theorem y1y (l : List UInt8) : ∀ u ∈ l.map (fun b => Value.int .u8 b.toNat), u.oneCell' = true := by
 intro u hu
 obtain ⟨b, _, rfl⟩ := List.mem_map.1 hu
 rfl
abbrev u8s (l : List UInt8) : List Value := l.map fun b => Value.int .u8 b.toNat
theorem y06 {w : World} {base : Nat} {e : TypeId} {size : Nat} {v : Value} {n : Nat} {xs : List Value} (h : w.ownsRow base e size v n xs) : ∃ A c, v = .slice A n c := by
 rcases h.2 with ⟨rfl, rfl⟩ | ⟨g, cap, cur, rfl, _⟩
 ·exact ⟨_, _, rfl⟩
 ·exact ⟨_, _, rfl⟩
theorem y10 (bs : List UInt8) (j : Nat) (h : j < bs.length) : (u8s bs)[j]? = some (.int .u8 ((bs.getD j 0).toNat)) := by
 rw [List.getElem?_map, List.getElem?_eq_getElem h, List.getD_eq_getElem?_getD, List.getElem?_eq_getElem h]; rfl
theorem Row.take1 {w : World} {F : Nat → Prop} {A : Option Addr} {n c : Nat} {xs : List Value} (h : Row w F 1 (.slice A n c) n xs) (m : Nat) (hm : m ≤ n) : Row w F 1 (.slice A m c) m (xs.take m) := by
 obtain ⟨h1, h0, A', c', e, h3, h4, h5⟩ := h
 injection e with e1 _ e3
 subst e1 e3
 refine ⟨by simp; omega, by omega, _, _, rfl, by omega, fun e => by have := h4 e; omega, fun hn => ?_⟩
 obtain ⟨b, off, e, hf, hc⟩ := h5 (by omega)
 refine ⟨b, off, e, hf, fun j u hu => hc j u ?_⟩
 rw [List.getElem?_take] at hu
 split at hu
 ·exact hu
 ·cases hu
theorem Row.form {w : World} {F : Nat → Prop} {size n : Nat} {v : Value} {xs : List Value} (h : Row w F size v n xs) : ∃ A c, v = .slice A n c ∧ n ≤ c := by
 obtain ⟨_, _, A, c, rfl, hc, _⟩ := h
 exact ⟨A, c, rfl, hc⟩
theorem Row.cellAt {w : World} {F : Nat → Prop} {A : Option Addr} {n c : Nat} {xs : List Value} (h : Row w F 1 (.slice A n c) n xs) (hn : 0 < n) :
  ∃ b off, A = some ⟨b, off, none⟩ ∧ F b ∧ ∀ j u, xs[j]? = some u → w.cell? ⟨b, off + j, none⟩ = some u := by
 obtain ⟨_, _, A', c', e, _, _, h⟩ := h
 injection e with e1
 subst e1
 exact h hn
theorem same_q (F G : Nat → Prop) (x y : Value) (a b : List UInt8) (w : World) (hx : Row w F 1 x a.length (u8s a)) (hy : Row w G 1 y b.length (u8s b)) :
  Calls Tryd.prog 13 #[x, y] w fun e w' => e = .returned (.bool (decide (a = b))) ∧ ∃ n, w' = w.drewN n := by
 obtain ⟨A, c, rfl, hc⟩ := hx.form
 obtain ⟨B, d, rfl, hd⟩ := hy.form
 have ha := hx.2.1
 have hb := hy.2.1
 unfold maxLen at ha hb
 by_cases hl : a.length = b.length
 ·have e1 : ((a.length : Int) != (b.length : Int)) = false := by rw [hl]; simp
  have HX := xhd hx
  have HY := xhd hy
  clear hx hy
  have HL := xhd hl
  rw [← hl] at HY ⊢
  clear hl hb
  rw [← HL.out] at e1
  go_enter Tryd.func13, Tryd.ntmps13
  go_wp2
  clear e1
  go_loopw [5] (fun i wr => ∃ k : Nat, k ≤ a.length ∧ i = .int .i64 k ∧ a.take k = b.take k ∧ ∃ n, wr = w.drewN n) (fun i _ => a.length - (intOf i).toNat)
  case atStart => exact ⟨0, by omega, rfl, by simp, 0, rfl⟩
  case round =>
   obtain ⟨k, hk, rfl, htake, q, hq⟩ := hrel
   have HT := xhd htake
   have HQ := xhd hq
   have HK := xhd (Keeps.of_drewN hq)
   clear htake hq
   by_cases hlt : k < a.length
   ·obtain ⟨p, o, rfl, _, hcx⟩ := (HX.out.keeps HK.out (fun _ _ h => h)).cellAt (by omega)
    obtain ⟨p2, o2, rfl, _, hcy⟩ := (HY.out.keeps HK.out (fun _ _ h => h)).cellAt (by omega)
    have hlb : k < b.length := by have := HL.out; omega
    have c1 := hcx k _ (y10 a k hlt)
    have c2 := hcy k _ (y10 b k hlb)
    have hi0 : (0 : Int) ≤ (k : Int) := by omega
    have hi1 : (k : Int) < (a.length : Int) := by omega
    obtain ⟨X, hX⟩ : ∃ X : Nat, X = (a.getD k 0).toNat := ⟨_, rfl⟩
    obtain ⟨Y, hY⟩ : ∃ Y : Nat, Y = (b.getD k 0).toNat := ⟨_, rfl⟩
    rw [← hX] at c1
    rw [← hY] at c2
    have HX1 := xhd hX
    have HY1 := xhd hY
    clear hX hY hcx hcy
    by_cases hxy : X = Y
    ·subst hxy
     have hne : ((X : Int) != (X : Int)) = false := by simp
     go_wp2_with fail
     go_quiet (fail)
     go_wp2
     go_roundw
     case rel =>
      refine ⟨k + 1, by omega, by go_num, ?_, _, by rw [HQ.out, World.drewN_drewN]⟩
      rw [List.take_succ_eq_append_getElem hlt, List.take_succ_eq_append_getElem hlb, HT.out]
      have : a[k] = b[k] := by
       apply UInt8.toNat_inj.1
       have h1 := HX1.out
       have h2 := HY1.out
       rw [List.getD_eq_getElem?_getD, List.getElem?_eq_getElem hlt] at h1
       rw [List.getD_eq_getElem?_getD, List.getElem?_eq_getElem hlb] at h2
       exact h1.symm.trans h2
      rw [this]
     case measure => simp [intOf]; omega
    ·have hne : ((X : Int) != (Y : Int)) = true := by rw [bne_iff_ne]; omega
     have hno : decide (a = b) = false := by
      rw [decide_eq_false_iff_not]
      rintro rfl
      exact hxy (HX1.out.trans HY1.out.symm)
     have HNO := xhd hno
     clear hno
     go_wp2_with fail
     go_quiet (fail)
     go_wp2
     go_ret
     exact ⟨by rw [HNO.out]; rfl, _, by rw [HQ.out, World.drewN_drewN]⟩
   ·have hk' : k = a.length := by omega
    have hyes : decide (a = b) = true := by
     rw [decide_eq_true_eq]
     have := HT.out
     rw [hk', List.take_length, HL.out, List.take_length] at this
     exact this
    have HYES := xhd hyes
    clear hyes hk'
    go_wp2
    go_ret
    exact ⟨by rw [HYES.out]; rfl, _, HQ.out⟩
 ·have e1 : ((a.length : Int) != (b.length : Int)) = true := by rw [bne_iff_ne]; omega
  have hno : decide (a = b) = false := by
   rw [decide_eq_false_iff_not]
   rintro rfl
   exact hl rfl
  have HNO := xhd hno
  clear hno hl hx hy
  go_enter Tryd.func13, Tryd.ntmps13
  go_wp2
  go_ret
  exact ⟨by rw [HNO.out]; rfl, 0, rfl⟩
theorem y33 (F G : Nat → Prop) (x y : Value) (a b : List UInt8) (w : World) (hx : Row w F 1 x a.length (u8s a)) (hy : Row w G 1 y b.length (u8s b)) :
  Calls Tryd.prog 13 #[x, y] w fun e w' => e = .returned (.bool (decide (a = b))) ∧ Keeps y03 w w' :=
 (same_q F G x y a b w hx hy).mono fun _ _ ⟨h, _, h2⟩ => ⟨h, Keeps.of_drewN h2⟩
end Go.Proofs.YtnkepeiedmdnoaaDoor
