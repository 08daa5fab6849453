/- What the laws on bits begin with. -/
import Derived.Test.YtkpagfeglpfhkaaBitsR2
import Derived.Test.YtkpagfeglpfhkaaBitsW2
namespace Go.Proofs.Ytkpagfeglpfhkaa
open Go.RowKit

theorem awakePacks : Pure.Packs true (Pure.bitsOf true 3 5 ++ Pure.bitsOf true 2 1) [168] 3 := by
  refine ⟨by decide, by decide, fun i => ?_⟩
  rcases Nat.lt_or_ge i 8 with h | h
  · have : ∀ i, i < 8 → Pure.bit true [168] i = (Pure.bitsOf true 3 5 ++ Pure.bitsOf true 2 1).getD i false := by decide
    exact this i h
  · rw [Pure.bit_past true _ i (by simpa using h), List.getD_eq_getElem?_getD, List.getElem?_eq_none (by simp [Pure.bitsOf_length]; omega)]; rfl

set_option maxHeartbeats 1000000 in
theorem awake_any (w : World) : Calls Try.prog 15 #[] w fun e w' => e = .returned (.bool true) ∧ Below w.heap.size w w' := by
  go_enter Try.func15, Try.ntmps15
  go_wp2_with fail
  refine (newWriter_ok true _).mono ?_
  rintro e w1 ⟨g, rfl, hg, ho1, hb1⟩
  have O1 := Lib.hid ho1
  have B1 := Lib.hid hb1
  clear ho1 hb1
  go_wp2_with fail
  refine (put_ok g _ true _ _ _ 5 3 w1 O1.out (by omega) (by omega) (by simp)).mono ?_
  rintro e w2 ⟨rfl, v2, bs2, f2, ho2, hk2, hv2⟩
  have O2 := Lib.hid ho2
  have B2 := Lib.hid (Below.keeps B1.out hk2 B1.out.size (fun i hi => by rcases hi with rfl | hi; exact hg; cases hi))
  have V2 := Lib.hid (fun b hb => by rcases hv2 b hb with h | h; cases h; exact Nat.le_trans B1.out.size h)
  clear ho2 hk2 hv2 O1 B1
  go_wp2_with fail
  refine (put_ok g _ true _ _ _ 1 2 w2 O2.out (by omega) (by omega) (by simp [Pure.bitsOf_length])).mono ?_
  rintro e w3 ⟨rfl, v3, bs3, f3, ho3, hk3, hv3⟩
  have B3 := Lib.hid (Below.keeps B2.out hk3 B2.out.size (fun i hi => by rcases hi with rfl | hi; exact hg; exact V2.out _ hi))
  have e3 := (Pure.Packs.unique ho3.packs awakePacks ho3.rest (by omega)).1
  subst e3
  have O3 := Lib.hid ho3
  clear ho3 hk3 hv3 O2 B2 V2
  go_wp2_with fail
  refine (wbytes_any g _ true _ _ _ w3 O3.out (by simp [Pure.bitsOf_length])).mono ?_
  rintro e w4 ⟨u, rfl, hown4, hb4⟩
  have B4 := Lib.hid (B3.out.trans (hb4.mono B3.out.size))
  obtain ⟨A, c, rfl⟩ := own_form hown4
  obtain ⟨b, rfl, hblt, hcell⟩ := own_cell hown4 (by simp)
  have c0 : w4.cell? ⟨b, 0, none⟩ = some (.int .u8 168) := hcell 0 _ rfl
  have HO4 := Lib.hid hown4
  clear hcell hb4 B3 O3 hown4
  go_wp2_with fail
  refine (newReader_any _ _ true [168] w4 (Row.of_own HO4.out) (by simp)).mono ?_
  rintro e w5 ⟨g5, v5, rfl, hg5, hr5, hv5, hb5⟩
  have c1 : w5.cell? ⟨b, 0, none⟩ = some (.int .u8 168) := (hb5.cell (p := ⟨b, 0, none⟩) hblt).trans c0
  have B5 := Lib.hid (B4.out.trans (hb5.mono B4.out.size))
  have R5 := Lib.hid hr5
  have hg5' : w.heap.size ≤ g5 := Nat.le_trans B4.out.size hg5
  clear hr5 hb5 hv5 B4 c0 HO4
  go_wp2_with fail
  refine (take_ok g5 v5 true [168] 0 3 w5 R5.out (by omega) (by simp)).mono ?_
  rintro e w6 ⟨rfl, hr6, hk6⟩
  have R6 := Lib.hid hr6
  have B6 := Lib.hid (Below.keeps B5.out hk6 B5.out.size (fun i hi => by have hi : i = g5 := hi; omega))
  clear hr6 hk6 R5 B5 c1
  rw [show Pure.peek true [168] 0 3 = 5 by decide]
  go_wp2_with (go_at_call 21; refine (left_any g5 v5 true [168] (0 + 3) w6 R6.out).mono ?_; rintro e w' ⟨rfl, nl, rfl⟩)
  go_ret
  exact ⟨rfl, Below.drewN B6.out _⟩
end Go.Proofs.Ytkpagfeglpfhkaa
