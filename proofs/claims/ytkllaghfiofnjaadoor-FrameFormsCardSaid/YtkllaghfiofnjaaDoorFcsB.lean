/- Contracts of package fcs: the bytes of a sum. -/
import Derived.Test.YtkllaghfiofnjaaDoorFcsA
import Derived.Test.YtkllaghfiofnjaaDoorSlices
namespace Go.Proofs.YtkllaghfiofnjaaDoor
open Go.RowKit
/-- The n bytes of a number, the least significant one first. -/
def Pure.le (s n : Nat) : List UInt8 := (List.range n).map fun i => UInt8.ofNat (s / 2 ^ (8 * i))
/-- The cells when k of them are written. -/
def leCells (s n k : Nat) : Array Value := ((List.range n).map fun i => if i < k then Value.int .u8 ((s / 2 ^ (8 * i) % 256 : Nat) : Int) else .int .u8 0).toArray
theorem leCells_get (s n k : Nat) (h : k < n) : (leCells s n k)[k]? = some (.int .u8 0) := by
  simp [leCells, h]
theorem leCells_set (s n k : Nat) (h : k < n) : (leCells s n k).setIfInBounds k (.int .u8 ((s : Int) / 2 ^ (8 * k) % 256)) = leCells s n (k + 1) := by
  apply Array.ext_getElem?
  intro i
  unfold leCells
  rw [Array.getElem?_setIfInBounds]
  by_cases hik : k = i
  · subst hik
    simp [h]
  · rw [if_neg hik]
    rcases Nat.lt_or_ge i n with hi | hi
    · simp [hi, show (i < k + 1) = (i < k) by simp; omega]
    · simp [hi]
theorem leCells_all (s n : Nat) : (leCells s n n).toList = u8s (Pure.le s n) := by
  unfold leCells Pure.le
  simp only [List.map_map]
  apply List.map_congr_left
  intro i hi
  rw [if_pos (List.mem_range.1 hi)]
  simp [UInt8.toNat_ofNat']

set_option maxHeartbeats 1000000 in
theorem split16_any (s : Nat) (w : World) :
    Calls Tryd.prog 61 #[.int .u16 s, .int .i64 2] w fun e w' => ∃ u, e = .returned u ∧ w'.ownsRow w.heap.size 5 1 u 2 (u8s (Pure.le s 2)) ∧ Below w.heap.size w w' := by
  have hblk0 : Blk (w.alloc (.cells #[.int .u8 0, .int .u8 0] 5)) w.heap.size 5 (leCells s 2 0) := Blk.new w _ _
  have HB0 := Lib.hid hblk0
  clear hblk0
  have hmk : ∀ w, (Instr.makeSlice 25 (.int .i64 2) (.int .i64 2)).run Tryd.prog w = .ok (.slice (some ⟨w.heap.size, 0, none⟩) 2 2) (w.alloc (.cells #[.int .u8 0, .int .u8 0] 5)) := fun _ => by kernel_rfl
  go_enter Tryd.func61, Tryd.ntmps61
  go_wp2_with fail
  clear hmk
  go_loopw [11] (fun i wr => ∃ k : Nat, k ≤ 2 ∧ i = .int .i64 k ∧ Blk wr w.heap.size 5 (leCells s 2 k) ∧ Below w.heap.size w wr) (fun i _ => 2 - (intOf i).toNat)
  case atStart => exact ⟨0, by omega, rfl, HB0.out, (Below.refl _ _).alloc (Nat.le_refl _) _⟩
  case round =>
    obtain ⟨k, hk, rfl, hblk, hb⟩ := hrel
    have HB := Lib.hid hblk
    have B := Lib.hid hb
    by_cases hlt : k < 2
    · have c0 : wr.cell? ⟨w.heap.size, k, none⟩ = some (.int .u8 0) := by rw [hblk.cell]; exact leCells_get s 2 k (by omega)
      have f0 : wr.frozen? ⟨w.heap.size, k, none⟩ = false := hblk.frozen k
      have hi0 : (0 : Int) ≤ (k : Int) := by omega
      have hi1 : (k : Int) < 2 := by omega
      clear hblk hb HB0
      go_wp2
      go_roundw
      case rel => exact ⟨k + 1, by omega, by go_num, by rw [← leCells_set s 2 k hlt]; exact HB.out.set k _, B.out.setCell (p := ⟨w.heap.size, k, none⟩) (Nat.le_refl _) _⟩
      case measure => simp [intOf]; omega
    · obtain rfl : k = 2 := by omega
      clear hblk hb HB0
      go_wp2
      go_ret
      exact ⟨_, rfl, ⟨by simp [Pure.le], .inr ⟨w.heap.size, 2, leCells s 2 2, rfl, Nat.le_refl _, HB.out, by omega, by simp [maxLen], by simp [leCells], by rw [leCells_all]; rfl⟩⟩, B.out⟩

end Go.Proofs.YtkllaghfiofnjaaDoor
