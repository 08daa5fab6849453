/- What laws on rows of bytes share: Same, Copy as a law wants them; rows that were made. -/
import Derived.Test.YtaalbjbocbagcaaDoorBase
import Derived.Test.YtaalbjbocbagcaaDoorCopy
import Derived.Test.YtaalbjbocbagcaaDoorMarked
namespace Go.Proofs.YtaalbjbocbagcaaDoor
open Go.RowKit

/-- A slice of bytes that was just made. -/
theorem fresh_row {w : World} {base n : Nat} {u : Value} {l : List UInt8} (h : w.ownsRow base 5 1 u n (u8s l)) : Row w (fun b => base ≤ b) 1 u n (u8s l) := (Row.of_own h).mono (fun b hb => ownsRow_ge h b hb)

section
variable {w0 wr : World}
theorem sameL {F G : Nat → Prop} {x y : Value} {a b : List UInt8} (B : Below w0.heap.size w0 wr) (hx : Row wr F 1 x a.length (u8s a)) (hy : Row wr G 1 y b.length (u8s b)) :
    Calls Tryd.prog 13 #[x, y] wr fun e w' => e = .returned (.bool (decide (a = b))) ∧ Keeps nobody wr w' ∧ Below w0.heap.size w0 w' :=
  (same_any F G x y a b wr hx hy).mono fun e w' ⟨he, hK⟩ => ⟨he, hK, Below.quiet B hK B.size⟩
theorem sameN {F G : Nat → Prop} {x y : Value} {a b : List UInt8} {n m : Nat} (B : Below w0.heap.size w0 wr) (hx : Row wr F 1 x n (u8s a)) (hy : Row wr G 1 y m (u8s b)) (ha : a.length = n) (hb : b.length = m) :
    Calls Tryd.prog 13 #[x, y] wr fun e w' => e = .returned (.bool (decide (a = b))) ∧ Keeps nobody wr w' ∧ Below w0.heap.size w0 w' := by
  subst ha hb
  exact sameL B hx hy
theorem sameY {F G : Nat → Prop} {x y : Value} {a b : List UInt8} {n m : Nat} (B : Below w0.heap.size w0 wr) (hx : Row wr F 1 x n (u8s a)) (hy : Row wr G 1 y m (u8s b)) (ha : a.length = n) (hab : a = b) :
    Calls Tryd.prog 13 #[x, y] wr fun e w' => e = .returned (.bool true) ∧ Keeps nobody wr w' ∧ Below w0.heap.size w0 w' := by
  have hm : b.length = m := by have := hy.1; simpa using this
  exact (sameN B hx hy ha hm).mono fun e w' ⟨he, h⟩ => ⟨by rw [he, decide_eq_true hab], h⟩
theorem copyL {F : Nat → Prop} {x : Value} {bs : List UInt8} (B : Below w0.heap.size w0 wr) (hr : Row wr F 1 x bs.length (u8s bs)) (hF : ∀ b, F b → b < wr.heap.size) (hl : bs.length ≤ 100000000000000) :
    Calls Tryd.prog 23 #[x] wr fun e w' => ∃ A c, e = .returned (.slice A bs.length c) ∧ w'.ownsRow wr.heap.size 5 1 (.slice A bs.length c) bs.length (u8s bs) ∧ Keeps nobody wr w' ∧ Below w0.heap.size w0 w' :=
  (copy_any F x bs wr hr hF hl).mono fun e w' ⟨u, he, hu, hb⟩ => by
    obtain ⟨A, c, rfl⟩ := own_form hu
    exact ⟨A, c, he, hu, Keeps.new hb, B.trans (hb.mono B.size)⟩
end
theorem below_drew {B : Nat} {a w : World} (h : Below B a w) : Below B a w.drew := ⟨h.os, h.tape, h.output, h.size, h.block⟩
/-- A slice of bytes that was made, in a later world. -/
theorem own_only {w w' : World} {base g n : Nat} {u : Value} {l : List UInt8} (h : w.ownsRow base 5 1 u n (u8s l)) (k : Keeps (only g) w w') (hg : g < base) : w'.ownsRow base 5 1 u n (u8s l) :=
  ownsRow_keeps h k (fun b hb hs => by have := ownsRow_ge h b hb; unfold only at hs; omega)
theorem own_quiet {w w' : World} {base n : Nat} {u : Value} {l : List UInt8} (h : w.ownsRow base 5 1 u n (u8s l)) (k : Keeps nobody w w') : w'.ownsRow base 5 1 u n (u8s l) := ownsRow_keeps h k (fun _ _ h => h)

/-- Bytes that were just made, behind a mark. -/
theorem row_mark (w : World) (l : List UInt8) (cs : Array Value) (n : Nat) (m : Nat × Nat) (hc : cs = (u8s l).toArray) (hn : n = l.length) (hl : l.length ≤ 100000) : Row (w.alloc (.cells cs 5 m)) (fun b => b = w.heap.size) 1 (.slice (some ⟨w.heap.size, 0, none⟩) n n) l.length (u8s l) := by
  subst hc hn
  have h := Row.marked (F := fun b => b = w.heap.size) (n := l.length) (c := l.length) w 5 (u8s l).toArray m rfl (by simp) (by unfold maxLen; omega) (Nat.le_refl _)
  exact h

end Go.Proofs.YtaalbjbocbagcaaDoor
