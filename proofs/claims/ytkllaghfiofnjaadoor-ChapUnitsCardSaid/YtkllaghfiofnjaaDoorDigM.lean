/- MD4's words and sums, step by step. -/
import Derived.Test.YtkllaghfiofnjaaDoorDigPure
namespace Go.Proofs.YtkllaghfiofnjaaDoor
namespace Pure
/-- The state with the first i words of v added. -/
def sumTo (h v : W4) (i : Nat) : List UInt32 := [h.a + (if 0 < i then v.a else 0), h.b + (if 1 < i then v.b else 0), h.c + (if 2 < i then v.c else 0), h.d + (if 3 < i then v.d else 0)]
theorem sumTo_zero (h v : W4) : sumTo h v 0 = h.list := by simp [sumTo, W4.list]
theorem sumTo_four (h v : W4) : sumTo h v 4 = W4.list ⟨h.a + v.a, h.b + v.b, h.c + v.c, h.d + v.d⟩ := by simp [sumTo, W4.list]
theorem sumTo_succ (h v : W4) (i : Nat) (hi : i < 4) : sumTo h v (i + 1) = (sumTo h v i).set i ((sumTo h v i).getD i 0 + v.list.getD i 0) := by
  rcases (show i = 0 ∨ i = 1 ∨ i = 2 ∨ i = 3 by omega) with rfl | rfl | rfl | rfl <;> simp [sumTo, W4.list]
theorem sumTo_length (h v : W4) (i : Nat) : (sumTo h v i).length = 4 := rfl
theorem W4.list_length (v : W4) : v.list.length = 4 := rfl
theorem md4Turns_range (s : Nat) (hs : s < 48) : 1 ≤ md4Turns.getD (s / 16 * 4 + s % 4) 0 ∧ md4Turns.getD (s / 16 * 4 + s % 4) 0 < 32 := by
  have : ∀ s < 48, 1 ≤ md4Turns.getD (s / 16 * 4 + s % 4) 0 ∧ md4Turns.getD (s / 16 * 4 + s % 4) 0 < 32 := by decide
  exact this s hs
theorem md4Order_range (s : Nat) (hs : s < 48) : md4Order.getD s 0 < 16 := by
  have : ∀ s < 48, md4Order.getD s 0 < 16 := by decide
  exact this s hs
end Pure
end Go.Proofs.YtkllaghfiofnjaaDoor
