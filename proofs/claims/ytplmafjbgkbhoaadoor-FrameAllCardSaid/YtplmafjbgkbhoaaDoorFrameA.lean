/- Contracts of package frame: odd, May, fault, number, fits, sendable; the document's May. -/
import Derived.Test.YtplmafjbgkbhoaaDoorAs2
import Derived.Test.YtplmafjbgkbhoaaDoorFramePure
import Derived.Test.YtplmafjbgkbhoaaDoorNum
namespace Go.Proofs.YtplmafjbgkbhoaaDoor
open Go.RowKit

theorem odd_any (x : Nat) (w : World) (hx : x < 256) : Calls Tryd.prog 30 #[.int .u8 x] w fun e w' => e = .returned (.bool (decide (x % 2 = 1))) ∧ w = w' := by
  have ha : bits .and .u8 (x : Int) 1 = ((x % 2 : Nat) : Int) := by
    have := u8_and_nat x 1 hx (by omega)
    rwa [nat_mask1] at this
  by_cases h : x % 2 = 1
  · rw [h] at ha
    have hd : decide (x % 2 = 1) = true := by simpa using h
    rw [hd]
    clear h hd
    go_enter Tryd.func30, Tryd.ntmps30
    go_wp2
    go_ret
    exact ⟨rfl, rfl⟩
  · have h0 : x % 2 = 0 := by omega
    rw [h0] at ha
    have hd : decide (x % 2 = 1) = false := by simpa using h
    rw [hd]
    clear h h0 hd
    go_enter Tryd.func30, Tryd.ntmps30
    go_wp2
    go_ret
    exact ⟨rfl, rfl⟩

/-- What an error of this package tells: nil, or a fault of that number. -/
def ErrIs (w : World) (v : Value) (k : Nat) : Prop :=
  (v = .nilIface ∧ k = 0) ∨ (k ≠ 0 ∧ ∃ b, v = .iface 72 (.pointer (some ⟨b, 0, none⟩)) ∧ w.cell? ⟨b, 1, none⟩ = some (.int .i64 k))
theorem ErrIs.keeps {S : Nat → Prop} {w w' : World} {v : Value} {k : Nat} (h : ErrIs w v k) (hk : Keeps S w w') (hS : ∀ b, ¬ S b) : ErrIs w' v k := by
  rcases h with h | ⟨h1, b, h2, h3⟩
  · exact .inl h
  · exact .inr ⟨h1, b, h2, (World.cell?_of_block (w := w) (a := ⟨b, 1, none⟩) (hk.block b (cell_lt h3) (hS b))).trans h3⟩

theorem fault_any (k : Nat) (w : World) (hk : k ≠ 0) : Calls Tryd.prog 42 #[.int .i64 k] w fun e w' => ∃ v, e = .returned v ∧ ErrIs w' v k ∧ Below w.heap.size w w' := by
  go_enter Tryd.func42, Tryd.ntmps42
  go_wp2
  go_ret
  exact ⟨_, rfl, .inr ⟨hk, w.heap.size, rfl, by simp⟩, (Below.refl _ _).alloc (Nat.le_refl _) _⟩

set_option maxHeartbeats 1000000 in
theorem number_any (v : Value) (k : Nat) (w : World) (hg : Handle w) (h : ErrIs w v k) : Calls Tryd.prog 24 #[v] w fun e w' => e = .returned (.int .i64 k) ∧ Below w.heap.size w w' := by
  have B1 := Lib.hid ((Below.refl w.heap.size w).alloc (Nat.le_refl _) (.cells #[.pointer none] 72))
  rcases h with ⟨rfl, rfl⟩ | ⟨h1, b, rfl, h3⟩
  · have HA := Lib.hid as_nil
    clear hg
    go_enter Tryd.func24, Tryd.ntmps24
    go_wp2_with fail
    refine (HA.out _ _).mono ?_
    rintro e w1 ⟨rfl, rfl⟩
    go_wp2
    go_ret
    exact ⟨rfl, B1.out⟩
  · have hb := cell_lt h3
    have hg1 : Handle (w.alloc (.cells #[.pointer none] 72)) := hg.below ((Below.refl w.heap.size w).alloc (Nat.le_refl _) _)
    have HA := Lib.hid (as_fault ⟨b, 0, none⟩ ⟨w.heap.size, 0, none⟩ (.pointer none) _ hg1 (by simp) (by simp))
    have k4 := as_below4 (w.alloc (.cells #[.pointer none] 72)) ⟨w.heap.size, 0, none⟩ ⟨b, 0, none⟩
    obtain ⟨W, hW⟩ : ∃ W, W = asW4 (w.alloc (.cells #[.pointer none] 72)) ⟨w.heap.size, 0, none⟩ ⟨b, 0, none⟩ := ⟨_, rfl⟩
    rw [← hW] at HA k4
    have hsz : (w.alloc (.cells #[.pointer none] 72)).heap.size = w.heap.size + 1 := by simp
    have hblk : Blk W w.heap.size 72 #[.pointer none] := (Blk.new w 72 #[.pointer none]).below k4 (by omega)
    have c0 : (W.setCell ⟨w.heap.size, 0, none⟩ (.pointer (some ⟨b, 0, none⟩))).cell? ⟨w.heap.size, 0, none⟩ = some (.pointer (some ⟨b, 0, none⟩)) := by
      rw [(hblk.set 0 _).cell]; rfl
    have hk : Keeps nobody w (W.setCell ⟨w.heap.size, 0, none⟩ (.pointer (some ⟨b, 0, none⟩))) :=
      ((Keeps.new ((B1.out).trans (k4.mono (by simp)))).store w.heap.size 0 (fun h => absurd h (by omega)) _)
    have c1 := (World.cell?_of_block (w := w) (a := ⟨b, 1, none⟩) (hk.block b hb (fun h => h))).trans h3
    have K := Lib.hid hk
    clear hg hg1 k4 hW hsz hblk hk h3
    go_enter Tryd.func24, Tryd.ntmps24
    go_wp2_with fail
    refine HA.out.mono ?_
    rintro e w1 ⟨rfl, rfl⟩
    go_wp2
    go_ret
    exact ⟨rfl, K.out.to_below⟩
end Go.Proofs.YtplmafjbgkbhoaaDoor
