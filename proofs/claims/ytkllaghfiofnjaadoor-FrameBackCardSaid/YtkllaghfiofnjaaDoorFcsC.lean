/- Contracts of package fcs: Sum16, Sum32, Add, Add32. -/
import Derived.Test.YtkllaghfiofnjaaDoorFcsB
namespace Go.Proofs.YtkllaghfiofnjaaDoor
open Go.RowKit
/-- The sums, and bytes with their sum. -/
def Pure.crc16 (bs : List UInt8) : Nat := Pure.crc 33800 65535 bs
def Pure.crc32 (bs : List UInt8) : Nat := Pure.crc 3988292384 4294967295 bs
def Pure.add16 (bs : List UInt8) : List UInt8 := bs ++ Pure.le (Pure.crc16 bs) 2
def Pure.add32 (bs : List UInt8) : List UInt8 := bs ++ Pure.le (Pure.crc32 bs) 4

theorem Sum16_any (F : Nat → Prop) (x : Value) (bs : List UInt8) (w : World) (hr : Row w F 1 x bs.length (u8s bs)) :
    Calls Tryd.prog 62 #[x] w fun e w' => e = .returned (.int .u16 (Pure.crc16 bs)) ∧ w = w' := by
  have HS := Lib.hid (sum16_any F x bs w hr)
  obtain ⟨A, c, rfl, hc⟩ := hr.form
  clear hr
  go_enter Tryd.func62, Tryd.ntmps62
  go_wp2_with fail
  refine HS.out.mono ?_
  rintro e w' ⟨rfl, rfl⟩
  go_wp2
  go_ret
  exact ⟨rfl, rfl⟩

set_option maxHeartbeats 1000000 in
theorem add16_any (F : Nat → Prop) (x : Value) (bs : List UInt8) (w : World) (hr : Row w F 1 x bs.length (u8s bs)) (hF : ∀ b, F b → b < w.heap.size) (hl : bs.length ≤ 100000000000000) :
    Calls Tryd.prog 40 #[x] w fun e w' => ∃ u, e = .returned u ∧ w'.ownsRow w.heap.size 5 1 u (Pure.add16 bs).length (u8s (Pure.add16 bs)) ∧ Below w.heap.size w w' := by
  have HS := Lib.hid (Sum16_any F x bs w hr)
  obtain ⟨A, c, rfl, hc⟩ := hr.form
  have HR := Lib.hid hr
  have HF := Lib.hid hF
  clear hr hF
  go_enter Tryd.func40, Tryd.ntmps40
  go_wp2_with fail
  refine HS.out.mono ?_
  rintro e w' ⟨rfl, rfl⟩
  go_wp2_with fail
  refine (split16_any (Pure.crc16 bs) w).mono ?_
  rintro e w1 ⟨u1, rfl, hown1, hb1⟩
  obtain ⟨A1, c1, rfl⟩ := own_form hown1
  have hrow1 : Row w1 (fun b => b < w1.heap.size) 1 (.slice A1 2 c1) (Pure.le (Pure.crc16 bs) 2).length (u8s (Pure.le (Pure.crc16 bs) 2)) := by
    have := (Row.of_own hown1).mono (G := fun b => b < w1.heap.size) (fun b hb => ownsRow_lt hown1 b hb)
    rwa [show (Pure.le (Pure.crc16 bs) 2).length = 2 by simp [Pure.le]]
  have hrow0 : Row w1 (fun b => b < w1.heap.size) 1 (.slice A bs.length c) bs.length (u8s bs) :=
    (HR.out.keeps (Keeps.new hb1) (fun _ _ h => h)).mono (fun b hb => Nat.lt_of_lt_of_le (HF.out b hb) hb1.size)
  have hk := (Keeps.refl nobody w1).alloc (.cells #[.slice A bs.length c, (.slice A1 2 c1)] 25)
  have hparts : Parts (w1.alloc (.cells #[.slice A bs.length c, (.slice A1 2 c1)] 25)) w1.heap.size (fun b => b < w1.heap.size) [(.slice A bs.length c, bs), ((.slice A1 2 c1), Pure.le (Pure.crc16 bs) 2)] := by
    refine ⟨Blk.new w1 _ _, fun p hp => ?_⟩
    simp only [List.mem_cons, List.not_mem_nil, or_false] at hp
    rcases hp with rfl | rfl
    · exact hrow0.keeps hk (fun _ _ h => h)
    · exact hrow1.keeps hk (fun _ _ h => h)
  have hj : joined [(.slice A bs.length c, bs), ((.slice A1 2 c1), Pure.le (Pure.crc16 bs) 2)] = Pure.add16 bs := by simp [joined, Pure.add16]
  have HP := Lib.hid hparts
  have HJ := Lib.hid hj
  have B1 := Lib.hid hb1
  have hlen : (Pure.add16 bs).length = bs.length + 2 := by simp [Pure.add16, Pure.le]
  have HLEN := Lib.hid hlen
  clear hown1 hb1 hrow1 hrow0 hk hparts hj hlen
  go_wp2_with fail
  refine (concat_any (fun b => b < w1.heap.size) w1.heap.size [(.slice A bs.length c, bs), ((.slice A1 2 c1), Pure.le (Pure.crc16 bs) 2)] _ HP.out (fun b hb => by simp; omega) (by simp) (by rw [HJ.out, HLEN.out]; omega)).mono ?_
  rintro e w2 ⟨u2, rfl, hown2, hb2⟩
  rw [HJ.out] at hown2
  have O2 := Lib.hid (ownsRow_base (base' := w.heap.size) hown2 (by have := B1.out.size; simp; omega))
  have B2 := Lib.hid ((B1.out.alloc B1.out.size (.cells #[.slice A bs.length c, (.slice A1 2 c1)] 25)).trans (hb2.mono (by have := B1.out.size; simp; omega)))
  clear hown2 hb2
  go_wp2
  go_ret
  exact ⟨u2, rfl, O2.out, B2.out⟩

end Go.Proofs.YtkllaghfiofnjaaDoor
