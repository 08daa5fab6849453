/- append to own rows of bytes; rows of bytes that were just made. -/
import Derived.Test.YtjeekhgkcphnpaaBase
namespace Go.Proofs.Ytjeekhgkcphnpaa
open Go.RowKit

/-- Bytes that were just made. -/
theorem row_new (w : World) (l : List UInt8) (cs : Array Value) (n : Nat) (hc : cs = (u8s l).toArray) (hn : n = l.length) (hl : l.length ≤ 100000) : Row (w.alloc (.cells cs 5)) (fun b => b = w.heap.size) 1 (.slice (some ⟨w.heap.size, 0, none⟩) n n) l.length (u8s l) := by
  subst hc hn
  exact Row.block (Blk.new w 5 (u8s l).toArray) rfl (by simp) (by unfold maxLen; omega) (Nat.le_refl _)

section
variable {w : World} {ops : Array Oper} {rest : List Oper} {o : Oper} {a : Act} {Q : Exit → Act → World → Prop}
theorem wp_append_u8 (hgd : o.guard = none) (s x : Operand) (ho : o.op = .call { callee := .builtin .append, args := #[s, x], argTypes := #[42, 42] })
    (base : Nat) (v : Value) (n : Nat) (l : List UInt8) (hn : l.length = n) (hs : a.eval s = v) (hown : w.ownsRow base 5 1 v n (u8s l))
    (F : Nat → Prop) (y : Value) (m : List UInt8) (hx : a.eval x = y) (hr : Row w F 1 y m.length (u8s m)) (hlen : n + m.length ≤ 140737488355328) (hbase : base ≤ w.heap.size)
    (h : ∀ v' w', w'.ownsRow base 5 1 v' (l ++ m).length (u8s (l ++ m)) → w.grownBy w' v.ownBlock → (v'.ownBlock = v.ownBlock ∨ v'.ownBlock = some w.heap.size) → wpList Try.prog ops Q rest (a.put o.dst v') w') :
    wpList Try.prog ops Q (o :: rest) a w := by
  obtain ⟨i0, hi0, hz0, hz1, hz2⟩ := info_parts u8_info
  subst hn
  refine wpList_append_row hgd s x _ ho base 5 i0 _ 1 1 Try.underlying42 hi0 hz0 hz1 hz2 rfl (by omega) v _ (u8s l) hs hown F y m.length (u8s m) hx hr (u8s_cells m) (by simp only [maxLen]; omega) (by omega) hbase ?_
  intro v' w' h1 h2 h3
  refine h v' w' ?_ h2 h3
  rw [List.length_append]
  simpa using h1

theorem wpo_append_u8 {K : Act → World → Prop} (s x : Operand) (ho : o.op = .call { callee := .builtin .append, args := #[s, x], argTypes := #[42, 42] })
    (base : Nat) (v : Value) (n : Nat) (l : List UInt8) (hn : l.length = n) (hs : a.eval s = v) (hown : w.ownsRow base 5 1 v n (u8s l))
    (F : Nat → Prop) (y : Value) (m : List UInt8) (hx : a.eval x = y) (hr : Row w F 1 y m.length (u8s m)) (hlen : n + m.length ≤ 140737488355328) (hbase : base ≤ w.heap.size)
    (h : ∀ v' w', w'.ownsRow base 5 1 v' (l ++ m).length (u8s (l ++ m)) → w.grownBy w' v.ownBlock → (v'.ownBlock = v.ownBlock ∨ v'.ownBlock = some w.heap.size) → K (a.put o.dst v') w') :
    o.wp Try.prog a w K Q := by
  obtain ⟨i0, hi0, hz0, hz1, hz2⟩ := info_parts u8_info
  subst hn
  refine wp_append_row s x _ ho base 5 i0 _ 1 1 Try.underlying42 hi0 hz0 hz1 hz2 rfl (by omega) v _ (u8s l) hs hown F y m.length (u8s m) hx hr (u8s_cells m) (by simp only [maxLen]; omega) (by omega) hbase ?_
  intro v' w' h1 h2 h3
  refine h v' w' ?_ h2 h3
  rw [List.length_append]
  simpa using h1

end
theorem Row.strong {w : World} {F : Nat → Prop} {v : Value} {n : Nat} {xs : List Value} (h : Row w F 1 v n xs) : Row w (fun b => F b ∧ b < w.heap.size) 1 v n xs := by
  obtain ⟨h1, h0, A, c, h2, h3, h4, h5⟩ := h
  refine ⟨h1, h0, A, c, h2, h3, h4, fun hn => ?_⟩
  obtain ⟨b, off, e, f, g⟩ := h5 hn
  refine ⟨b, off, e, ⟨f, ?_⟩, g⟩
  exact cell_lt (g 0 xs[0] (List.getElem?_eq_getElem (by omega)))
theorem Row.one {w : World} {F : Nat → Prop} {v : Value} {n : Nat} {xs : List Value} (h : Row w F 1 v n xs) : v.oneCell' = true := by
  obtain ⟨_, _, A, c, rfl, _⟩ := h
  rfl
theorem own_grown {w w' : World} {base : Nat} {e : TypeId} {size : Nat} {v : Value} {n : Nat} {xs : List Value} {row : Option Nat} (h : w.ownsRow base e size v n xs) (hg : w.grownBy w' row) (hr : ∀ b, v.ownBlock = some b → row ≠ some b) : w'.ownsRow base e size v n xs :=
  ownsRow_keeps h ((Keeps.refl (fun b => row = some b) w).grown hg (fun _ e _ => e)) (fun b hb e => hr b hb e)
theorem own_store {w : World} {base g i : Nat} {e : TypeId} {size : Nat} {v u : Value} {n : Nat} {xs : List Value} (h : w.ownsRow base e size v n xs) (hg : v.ownBlock ≠ some g) : (w.setCell ⟨g, i, none⟩ u).ownsRow base e size v n xs :=
  ownsRow_keeps h ((Keeps.refl (only g) w).store g i (fun _ => only_self g) u) (fun b hb e => hg (by have e : b = g := e; rw [← e]; exact hb))
end Go.Proofs.Ytjeekhgkcphnpaa
