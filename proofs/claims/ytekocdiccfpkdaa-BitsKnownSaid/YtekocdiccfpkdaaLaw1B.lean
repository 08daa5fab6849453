/- The walk of the law BitsKnown. -/
import Derived.Test.YtekocdiccfpkdaaLaw1A
namespace Go.Proofs.Ytekocdiccfpkdaa
open Go.RowKit

theorem knownPacks : Pure.Packs false (Pure.bitsOf false 3 5 ++ Pure.bitsOf false 2 1) [13] 3 := by
  refine ⟨by decide, by decide, fun i => ?_⟩
  rcases Nat.lt_or_ge i 8 with h | h
  · have : ∀ i, i < 8 → Pure.bit false [13] i = (Pure.bitsOf false 3 5 ++ Pure.bitsOf false 2 1).getD i false := by decide
    exact this i h
  · rw [Pure.bit_past false _ i (by simpa using h), List.getD_eq_getElem?_getD, List.getElem?_eq_none (by simp [Pure.bitsOf_length]; omega)]; rfl

set_option maxRecDepth 100000 in
set_option maxHeartbeats 2000000 in
theorem bitsKnown_walk (w : World) : Calls Try.prog 3 #[] w fun e w' => e = .returned (.bool true) ∧ Below w.heap.size w w' := by
  go_enter Try.func3, Try.ntmps3
  go_wp2_with fail
  refine (awake_any w).mono ?_
  rintro e w0 ⟨rfl, hb0⟩
  have B0 := Lib.hid hb0
  clear hb0
  go_wp2_with fail
  refine (newWriter_ok false _).mono ?_
  rintro e w1 ⟨g, rfl, hg, ho1, hb1⟩
  have O1 := Lib.hid ho1
  have B1 := Lib.hid (B0.out.trans (hb1.mono B0.out.size))
  have hg' : w.heap.size ≤ g := Nat.le_trans B0.out.size hg
  clear ho1 hb1 B0 hg
  go_wp2_with fail
  refine (put_ok g _ false _ _ _ 5 3 w1 O1.out (by omega) (by omega) (by simp)).mono ?_
  rintro e w2 ⟨rfl, v2, bs2, f2, ho2, hk2, hv2⟩
  have O2 := Lib.hid ho2
  have B2 := Lib.hid (Below.keeps B1.out hk2 B1.out.size (fun i hi => by rcases hi with rfl | hi; exact hg'; cases hi))
  have V2 := Lib.hid (fun b hb => by rcases hv2 b hb with h | h; cases h; exact Nat.le_trans B1.out.size h)
  clear ho2 hk2 hv2 O1 B1
  go_wp2_with fail
  refine (put_ok g _ false _ _ _ 1 2 w2 O2.out (by omega) (by omega) (by simp [Pure.bitsOf_length])).mono ?_
  rintro e w3 ⟨rfl, v3, bs3, f3, ho3, hk3, hv3⟩
  have B3 := Lib.hid (Below.keeps B2.out hk3 B2.out.size (fun i hi => by rcases hi with rfl | hi; exact hg'; exact V2.out _ hi))
  have e3 := (Pure.Packs.unique ho3.packs knownPacks ho3.rest (by omega)).1
  subst e3
  have O3 := Lib.hid ho3
  clear ho3 hk3 hv3 O2 B2 V2
  go_wp2_with fail
  refine (wbytes_any g _ false _ _ _ w3 O3.out (by simp [Pure.bitsOf_length])).mono ?_
  rintro e w4 ⟨u, rfl, hown4, hb4⟩
  have B4 := Lib.hid (B3.out.trans (hb4.mono B3.out.size))
  have O4 := Lib.hid (O3.out.keeps (Keeps.of_below hb4) (fun _ _ h => h))
  obtain ⟨A, c, rfl⟩ := own_form hown4
  obtain ⟨b, rfl, hblt, hcell⟩ := own_cell hown4 (by simp)
  have c0 : w4.cell? ⟨b, 0, none⟩ = some (.int .u8 13) := hcell 0 _ rfl
  clear hcell hb4 B3 O3 hown4
  have hrow : Row (w4.alloc (.cells #[.int .u8 168] 5)) (fun _ => True) 1 (.slice (some ⟨w4.heap.size, 0, none⟩) 1 1) 1 (u8s [168]) :=
    Row.block (Blk.new w4 5 #[.int .u8 168]) trivial rfl (by simp [maxLen]) (Nat.le_refl _)
  have HR := Lib.hid hrow
  clear hrow
  go_wp2_with fail
  refine (newReader_any _ _ true [168] _ HR.out (by simp)).mono ?_
  rintro e w5 ⟨g5, v5, rfl, hg5, hr5, hv5, hb5⟩
  have hb45 : Below w4.heap.size w4 w5 := ((Below.refl _ w4).alloc (Nat.le_refl _) _).trans (hb5.mono (by simp))
  have c1 : w5.cell? ⟨b, 0, none⟩ = some (.int .u8 13) := (hb45.cell (p := ⟨b, 0, none⟩) hblt).trans c0
  have B5 := Lib.hid (B4.out.trans (hb45.mono B4.out.size))
  have O5 := Lib.hid (O4.out.keeps (Keeps.of_below hb45) (fun _ _ h => h))
  have R5 := Lib.hid hr5
  have hg5' : w4.heap.size < g5 := by simp at hg5; omega
  have hg6 : w.heap.size ≤ g5 := Nat.le_of_lt (Nat.lt_of_le_of_lt B4.out.size hg5')
  have D := Lib.hid (fun b (hb : fw g v3 b) => show ¬ only g5 b from fun e => by have e : b = g5 := e; have := fw_lt O4.out b hb; omega)
  clear hr5 hb5 hv5 B4 c0 hb45 O4 HR hg5
  go_wp2_with fail
  refine (take_ok g5 v5 true [168] 0 3 w5 R5.out (by omega) (by simp)).mono ?_
  rintro e w6 ⟨rfl, hr6, hk6⟩
  have R6 := Lib.hid hr6
  have B6 := Lib.hid (Below.keeps B5.out hk6 B5.out.size (fun i hi => by have hi : i = g5 := hi; omega))
  have O6 := Lib.hid (O5.out.keeps hk6 D.out)
  have c2 : w6.cell? ⟨b, 0, none⟩ = some (.int .u8 13) := by
    rw [← c1]
    exact World.cell?_of_block (w := w5) (a := ⟨b, 0, none⟩) (hk6.block b (cell_lt c1) (fun e => by have e : b = g5 := e; omega))
  clear hr6 hk6 R5 B5 c1 O5
  go_wp2_with fail
  refine (take_ok g5 v5 true [168] 3 2 w6 R6.out (by omega) (by simp)).mono ?_
  rintro e w7 ⟨rfl, hr7, hk7⟩
  have R7 := Lib.hid hr7
  have B7 := Lib.hid (Below.keeps B6.out hk7 B6.out.size (fun i hi => by have hi : i = g5 := hi; omega))
  have O7 := Lib.hid (O6.out.keeps hk7 D.out)
  have c3 : w7.cell? ⟨b, 0, none⟩ = some (.int .u8 13) := by
    rw [← c2]
    exact World.cell?_of_block (w := w6) (a := ⟨b, 0, none⟩) (hk7.block b (cell_lt c2) (fun e => by have e : b = g5 := e; omega))
  clear hr7 hk7 R6 B6 c2 O6
  rw [show Pure.peek true [168] 3 2 = 1 by decide]
  go_wp2_with fail
  refine (take_no g5 v5 true [168] 5 9 w7 R7.out (by omega) (by simp)).mono ?_
  rintro e w8 ⟨rfl, n8, hw8⟩
  have K8 := Keeps.of_drewN hw8
  have R8 := Lib.hid (R7.out.keeps K8 (fun h => h) (fun _ _ h => h))
  have B8 := Lib.hid (Below.quiet B7.out K8 B7.out.size)
  have O8 := Lib.hid (O7.out.keeps K8 (fun _ _ h => h))
  have c4 := (World.cell?_of_block (w := w7) (a := ⟨b, 0, none⟩) (K8.block b (cell_lt c3) (fun h => h))).trans c3
  clear R7 B7 O7 K8 hw8 c3
  go_wp2_with fail
  refine (left_any g5 v5 true [168] 5 _ R8.out).mono ?_
  rintro e w9 ⟨rfl, n9, hw9⟩
  have K9 := Keeps.of_drewN hw9
  have B9 := Lib.hid (Below.quiet B8.out K9 B8.out.size)
  have O9 := Lib.hid (O8.out.keeps K9 (fun _ _ h => h))
  clear R8 B8 O8 K9 hw9
  go_wp2_with fail
  refine (len_any g v3 false _ _ _ _ O9.out (by simp [Pure.bitsOf_length])).mono ?_
  rintro e w10 ⟨rfl, n10, hw10⟩
  have K10 := Keeps.of_drewN hw10
  have B10 := Lib.hid (Below.quiet B9.out K10 B9.out.size)
  have O10 := Lib.hid (O9.out.keeps K10 (fun _ _ h => h))
  clear O9 B9 K10 hw10
  have e5 : (([] ++ Pure.bitsOf false 3 5 ++ Pure.bitsOf false 2 1).length : Int) = 5 := by simp [Pure.bitsOf_length]
  rw [e5]
  clear e5
  go_wp2_with fail
  refine (put_no g v3 false _ _ _ 2 1 _ O10.out (.inr (.inr (.inr (by decide))))).mono ?_
  rintro e w11 ⟨rfl, rfl⟩
  go_wp2_with fail
  refine (put_no g v3 false _ _ _ 0 33 _ O10.out (by omega)).mono ?_
  rintro e w12 ⟨rfl, rfl⟩
  go_wp2_with fail
  go_ret
  exact ⟨rfl, B10.out⟩
end Go.Proofs.Ytekocdiccfpkdaa
