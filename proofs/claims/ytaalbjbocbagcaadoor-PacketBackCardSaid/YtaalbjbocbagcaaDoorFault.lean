/- Package fault: what an error tells (ErrIs), Of, Number. -/
import Derived.Test.YtaalbjbocbagcaaDoorAs2
namespace Go.Proofs.YtaalbjbocbagcaaDoor
open Go.RowKit
/-- What an error of this package tells: nil, or a fault of that number. -/
def ErrIs (w : World) (v : Value) (k : Nat) : Prop :=
  (v = .nilIface ∧ k = 0) ∨ (k ≠ 0 ∧ ∃ b, v = .iface 73 (.pointer (some ⟨b, 0, none⟩)) ∧ w.cell? ⟨b, 1, none⟩ = some (.int .i64 k))
theorem ErrIs.keeps {S : Nat → Prop} {w w' : World} {v : Value} {k : Nat} (h : ErrIs w v k) (hk : Keeps S w w') (hS : ∀ b, ¬ S b) : ErrIs w' v k := by
  rcases h with h | ⟨h1, b, h2, h3⟩
  · exact .inl h
  · exact .inr ⟨h1, b, h2, (World.cell?_of_block (w := w) (a := ⟨b, 1, none⟩) (hk.block b (cell_lt h3) (hS b))).trans h3⟩

theorem of_any (s : ByteArray) (k : Nat) (w : World) (hk : k ≠ 0) : Calls Tryd.prog 34 #[.string s, .int .i64 k] w fun e w' => ∃ v, e = .returned v ∧ ErrIs w' v k ∧ Below w.heap.size w w' := by
  go_enter Tryd.func34, Tryd.ntmps34
  go_wp2
  go_ret
  exact ⟨_, rfl, .inr ⟨hk, w.heap.size, rfl, by simp⟩, (Below.refl _ _).alloc (Nat.le_refl _) _⟩

set_option maxHeartbeats 1000000 in
theorem number_any (v : Value) (k : Nat) (w : World) (hg : Handle w) (h : ErrIs w v k) : Calls Tryd.prog 27 #[v] w fun e w' => e = .returned (.int .i64 k) ∧ Below w.heap.size w w' := by
  have B1 := Lib.hid ((Below.refl w.heap.size w).alloc (Nat.le_refl _) (.cells #[.pointer none] 73))
  rcases h with ⟨rfl, rfl⟩ | ⟨h1, b, rfl, h3⟩
  · have HA := Lib.hid as_nil
    clear hg
    go_enter Tryd.func27, Tryd.ntmps27
    go_wp2_with fail
    refine (HA.out _ _).mono ?_
    rintro e w1 ⟨rfl, rfl⟩
    go_wp2
    go_ret
    exact ⟨rfl, B1.out⟩
  · have hb := cell_lt h3
    have hg1 : Handle (w.alloc (.cells #[.pointer none] 73)) := hg.below ((Below.refl w.heap.size w).alloc (Nat.le_refl _) _)
    have HA := Lib.hid (as_fault ⟨b, 0, none⟩ ⟨w.heap.size, 0, none⟩ (.pointer none) _ hg1 (by simp) (by simp))
    have k4 := as_below4 (w.alloc (.cells #[.pointer none] 73)) ⟨w.heap.size, 0, none⟩ ⟨b, 0, none⟩
    obtain ⟨W, hW⟩ : ∃ W, W = asW4 (w.alloc (.cells #[.pointer none] 73)) ⟨w.heap.size, 0, none⟩ ⟨b, 0, none⟩ := ⟨_, rfl⟩
    rw [← hW] at HA k4
    have hsz : (w.alloc (.cells #[.pointer none] 73)).heap.size = w.heap.size + 1 := by simp
    have hblk : Blk W w.heap.size 73 #[.pointer none] := (Blk.new w 73 #[.pointer none]).below k4 (by omega)
    have c0 : (W.setCell ⟨w.heap.size, 0, none⟩ (.pointer (some ⟨b, 0, none⟩))).cell? ⟨w.heap.size, 0, none⟩ = some (.pointer (some ⟨b, 0, none⟩)) := by
      rw [(hblk.set 0 _).cell]; rfl
    have hk : Keeps nobody w (W.setCell ⟨w.heap.size, 0, none⟩ (.pointer (some ⟨b, 0, none⟩))) :=
      ((Keeps.new ((B1.out).trans (k4.mono (by simp)))).store w.heap.size 0 (fun h => absurd h (by omega)) _)
    have c1 := (World.cell?_of_block (w := w) (a := ⟨b, 1, none⟩) (hk.block b hb (fun h => h))).trans h3
    have K := Lib.hid hk
    clear hg hg1 k4 hW hsz hblk hk h3
    go_enter Tryd.func27, Tryd.ntmps27
    go_wp2_with fail
    refine HA.out.mono ?_
    rintro e w1 ⟨rfl, rfl⟩
    go_wp2
    go_ret
    exact ⟨rfl, K.out.to_below⟩
end Go.Proofs.YtaalbjbocbagcaaDoor
