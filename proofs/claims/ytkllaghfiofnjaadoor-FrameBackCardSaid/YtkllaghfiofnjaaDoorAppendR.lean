/- append to own rows of slices of bytes. -/
import Derived.Test.YtkllaghfiofnjaaDoorAppend
namespace Go.Proofs.YtkllaghfiofnjaaDoor
open Go.RowKit

section
variable {w : World} {ops : Array Oper} {rest : List Oper} {o : Oper} {a : Act} {Q : Exit → Act → World → Prop}
theorem rows_info : (Tryd.prog.info? 25).map (fun i => (i.zero, i.size, i.bytes)) = some (some (.slice none 0 0), 1, 24) := by kernel_rfl
theorem wp_append_rows (hgd : o.guard = none) (s x : Operand) (ho : o.op = .call { callee := .builtin .append, args := #[s, x], argTypes := #[47, 47] })
    (base : Nat) (v : Value) (n : Nat) (l : List Value) (hn : l.length = n) (hs : a.eval s = v) (hown : w.ownsRow base 25 1 v n l)
    (F : Nat → Prop) (y : Value) (m : List Value) (hx : a.eval x = y) (hr : Row w F 1 y m.length m) (hone : ∀ u ∈ m, u.oneCell' = true) (hlen : n + m.length ≤ 1000000000) (hbase : base ≤ w.heap.size)
    (h : ∀ v' w', w'.ownsRow base 25 1 v' (l ++ m).length (l ++ m) → w.grownBy w' v.ownBlock → (v'.ownBlock = v.ownBlock ∨ v'.ownBlock = some w.heap.size) → wpList Tryd.prog ops Q rest (a.put o.dst v') w') :
    wpList Tryd.prog ops Q (o :: rest) a w := by
  obtain ⟨i0, hi0, hz0, hz1, hz2⟩ := info_parts rows_info
  subst hn
  refine wpList_append_row hgd s x _ ho base 25 i0 _ 1 24 Tryd.underlying47 hi0 hz0 hz1 hz2 rfl (by omega) v _ l hs hown F y m.length m hx hr hone (by simp only [maxLen]; omega) (by omega) hbase ?_
  intro v' w' h1 h2 h3
  refine h v' w' ?_ h2 h3
  rw [List.length_append]
  simpa using h1
end
end Go.Proofs.YtkllaghfiofnjaaDoor
