/- Contracts of package stuff: what is mapped, Stuff, the small functions of a deframer. -/
import Derived.OwnWalk
import Derived.Test.YtkllaghfiofnjaaDoorAppend
import Derived.Test.YtkllaghfiofnjaaDoorNum
import Derived.Test.YtkllaghfiofnjaaDoorStuffPure
namespace Go.Proofs.YtkllaghfiofnjaaDoor
open Go.RowKit

theorem mapped_any (c : UInt8) (m : Nat) (w : World) (hm : m < 4294967296) :
    Calls Tryd.prog 47 #[.int .u8 c.toNat, .int .u32 m] w fun e w' => e = .returned (.bool (Pure.mapd m c)) ∧ w = w' := by
  obtain ⟨X, hX⟩ : ∃ X : Nat, X = c.toNat := ⟨_, rfl⟩
  have hX2 : X < 256 := by rw [hX]; exact c.toNat_lt
  have ha := and1_u32 m X hm
  unfold Pure.mapd
  rw [← hX]
  clear hX
  by_cases h : X < 32
  · have hd : decide ((X : Int) < 32) = true := by simp; omega
    cases hb : m.testBit X
    · rw [hb] at ha
      simp only [Bool.false_eq_true, if_false] at ha
      go_enter Tryd.func47, Tryd.ntmps47
      go_wp2
      go_ret
      exact ⟨by simp, rfl⟩
    · rw [hb] at ha
      simp only [if_true] at ha
      go_enter Tryd.func47, Tryd.ntmps47
      go_wp2
      go_ret
      exact ⟨by simp [h], rfl⟩
  · have hd : decide ((X : Int) < 32) = false := by simp; omega
    go_enter Tryd.func47, Tryd.ntmps47
    go_wp2
    go_ret
    exact ⟨by simp [h], rfl⟩

/-- The deframer at block g: its frame, the slice v, holds one byte more than most at most. -/
structure DObj (w : World) (g : Nat) (v : Value) (d : Pure.DF) : Prop where
  blk : Blk w g 76 #[.int .u32 d.accm, .int .i64 d.most, v, .bool d.esc, .int .i64 d.dropped]
  own : w.ownsRow 0 5 1 v (d.frame.take (d.most + 1)).length (u8s (d.frame.take (d.most + 1)))
  accm : d.accm < 4294967296
  lo : 1 ≤ d.most
  hi : d.most ≤ 4096
theorem DObj.ne {w : World} {g : Nat} {v : Value} {d : Pure.DF} (h : DObj w g v d) : v.ownBlock ≠ some g := ownsRow_ne h.own h.blk (by decide)
theorem DObj.keeps {S : Nat → Prop} {w w' : World} {g : Nat} {v : Value} {d : Pure.DF} (h : DObj w g v d) (k : Keeps S w w') (h1 : ¬ S g) (h2 : ∀ b, v.ownBlock = some b → ¬ S b) : DObj w' g v d :=
  ⟨h.blk.keeps k h1, ownsRow_keeps h.own k h2, h.accm, h.lo, h.hi⟩
theorem DObj.lt {w : World} {g : Nat} {v : Value} {d : Pure.DF} (h : DObj w g v d) : g < w.heap.size := h.blk.lt
/-- What a deframer's functions may turn: it, and its frame. -/
def dfw (g : Nat) (v : Value) : Nat → Prop := fun b => b = g ∨ v.ownBlock = some b
theorem dfw_g (g : Nat) (v : Value) : dfw g v g := .inl rfl
/-- A slice that lies where the other lay, or in new memory. -/
def Fresh (w : World) (v v' : Value) : Prop := ∀ b, v'.ownBlock = some b → v.ownBlock = some b ∨ w.heap.size ≤ b

theorem made_any (g : Nat) (v : Value) (d : Pure.DF) (w : World) (h : DObj w g v d) :
    Calls Tryd.prog 45 #[.pointer (some ⟨g, 0, none⟩)] w fun e w' => e = .returned (.bool true) ∧ w = w' := by
  have c1 : w.cell? ⟨g, 1, none⟩ = some (.int .i64 d.most) := by rw [h.blk.cell]; rfl
  have h1 := h.lo
  have h2 := h.hi
  have h3 : decide (0 < d.most) = true := by simp; omega
  clear h
  go_enter Tryd.func45, Tryd.ntmps45
  go_wp2
  go_ret
  exact ⟨rfl, rfl⟩

theorem between_any (g : Nat) (v : Value) (d : Pure.DF) (w : World) (h : DObj w g v d) :
    Calls Tryd.prog 65 #[.pointer (some ⟨g, 0, none⟩)] w fun e w' => e = .returned (.tuple #[]) ∧
      DObj w' g (.slice none 0 0) { d with frame := [], esc := false } ∧ Keeps (only g) w w' := by
  have f2 : w.frozen? ⟨g, 2, none⟩ = false := h.blk.frozen 2
  have f3 : (w.setCell ⟨g, 2, none⟩ (.slice none 0 0)).frozen? ⟨g, 3, none⟩ = false := (h.blk.set 2 _).frozen 3
  have c2 : w.cell? ⟨g, 2, none⟩ = some v := by rw [h.blk.cell]; rfl
  have c3 : w.cell? ⟨g, 3, none⟩ = some (.bool d.esc) := by rw [h.blk.cell]; rfl
  have H := Lib.hid h
  have k1 : Keeps (only g) w ((w.setCell ⟨g, 2, none⟩ (.slice none 0 0)).setCell ⟨g, 3, none⟩ (.bool false)) := ((Keeps.refl _ w).store g 2 (fun _ => only_self g) _).store g 3 (fun _ => only_self g) _
  have K1 := Lib.hid k1
  clear h k1
  go_enter Tryd.func65, Tryd.ntmps65
  go_wp2
  go_end0
  refine ⟨rfl, ⟨?_, ⟨by simp, .inl ⟨rfl, rfl⟩⟩, H.out.accm, H.out.lo, H.out.hi⟩, K1.out⟩
  have := (H.out.blk.set 2 (.slice none 0 0)).set 3 (.bool false)
  simpa using this

theorem new_any (m : Nat) (n : Nat) (w : World) (h1 : 1 ≤ n) (h2 : n ≤ 4096) (hm : m < 4294967296) :
    Calls Tryd.prog 24 #[.int .u32 m, .int .i64 n] w fun e w' => e = .returned (.tuple #[.pointer (some ⟨w.heap.size, 0, none⟩), .int .i64 0]) ∧
      DObj w' w.heap.size (.slice none 0 0) ⟨m, n, [], false, 0⟩ ∧ Below w.heap.size w w' := by
  have h3 : ¬ (n : Int) < 1 := by omega
  have h4 : ¬ (n : Int) > 4096 := by omega
  go_enter Tryd.func24, Tryd.ntmps24
  go_wp2
  go_ret2
  refine ⟨rfl, ⟨Blk.new w _ _, ⟨by simp, .inl ⟨rfl, rfl⟩⟩, hm, h1, h2⟩, (Below.refl _ _).alloc (Nat.le_refl _) _⟩
theorem new_bad (m n : Int) (w : World) (h : n < 1 ∨ 4096 < n) :
    Calls Tryd.prog 24 #[.int .u32 m, .int .i64 n] w fun e w' => e = .returned (.tuple #[.pointer none, .int .i64 1]) ∧ w = w' := by
  by_cases h3 : n < 1
  · go_enter Tryd.func24, Tryd.ntmps24
    go_wp2
    go_ret2
    exact ⟨rfl, rfl⟩
  · have h4 : n > 4096 := by omega
    go_enter Tryd.func24, Tryd.ntmps24
    go_wp2
    go_ret2
    exact ⟨rfl, rfl⟩
end Go.Proofs.YtkllaghfiofnjaaDoor
