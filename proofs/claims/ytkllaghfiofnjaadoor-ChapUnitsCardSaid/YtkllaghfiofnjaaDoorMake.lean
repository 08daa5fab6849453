/- A slice of words just made, known whole. -/
import Derived.Test.YtkllaghfiofnjaaDoorU32
import Derived.Test.YtkllaghfiofnjaaDoorInts
namespace Go.Proofs.YtkllaghfiofnjaaDoor
open Go.RowKit
theorem u32_info : (Tryd.prog.info? 38).map (fun i => (i.zero, i.size, i.bytes)) = some (some (.int .u32 0), 1, 4) := by kernel_rfl
theorem made_words (n : Nat) : madeCells (Value.int .u32 0).cells (n * 1) = (u32s (List.replicate n 0)).toArray := by
  rw [show (Value.int .u32 0).cells = #[.int .u32 0] from rfl]
  apply Array.ext_getElem?
  intro i
  simp only [madeCells, Nat.mul_one]
  by_cases h : i < n
  · simp [h, Nat.mod_one]
  · simp [h]
theorem wpList_make_words {w : World} {ops : Array Oper} {rest : List Oper} {o : Oper} {a : Act} {Q : Exit → Act → World → Prop}
    (hg : o.guard = none) (l c : Operand) (hop : o.op = Op.makeSlice 84 l c) (n : Nat) (kl kc : IntKind) (hl : a.eval l = .int kl (n : Int)) (hc : a.eval c = .int kc (n : Int)) (hn : n ≤ 1000000)
    (hK : ∀ w', Blk w' w.heap.size 38 (u32s (List.replicate n 0)).toArray → Keeps nobody w w' → w'.heap.size = w.heap.size + 1 → wpList Tryd.prog ops Q rest (a.put o.dst (.slice (some ⟨w.heap.size, 0, none⟩) n n)) w') :
    wpList Tryd.prog ops Q (o :: rest) a w := by
  obtain ⟨i0, hi0, hz0, hz1, hz2⟩ := info_parts u32_info
  refine wpList_plain hg fun K hK' => ?_
  have hrun := run_make (P := Tryd.prog) w 84 38 i0 _ Tryd.underlying84 hi0 hz0 kl kc n n (by omega) (by omega) (by rw [hz2]; omega) (by omega)
  rw [hz1, Int.toNat_natCast, made_words] at hrun
  obtain ⟨w', hw'⟩ : ∃ w', w' = w.alloc (.cells (u32s (List.replicate n 0)).toArray 38) := ⟨_, rfl⟩
  rw [← hw'] at hrun
  unfold Oper.wp
  simp [execOp, hop, hl, hc, hrun, Result.andThen]
  exact hK' _ _ (hK w' (by rw [hw']; exact Blk.new w _ _) (by rw [hw']; exact (Keeps.refl _ w).alloc _) (by rw [hw']; simp))
end Go.Proofs.YtkllaghfiofnjaaDoor
