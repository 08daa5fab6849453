/- md4: a block. -/
import Derived.Test.YtkllaghfiofnjaaDoorDigD
import Derived.Test.YtkllaghfiofnjaaDoorDigP
namespace Go.Proofs.YtkllaghfiofnjaaDoor
open Go.RowKit
theorem orders_0 (W : World) : (Instr.build 158 #[(0, .int .i64 0), (1, .int .i64 1), (2, .int .i64 2), (3, .int .i64 3), (4, .int .i64 4), (5, .int .i64 5), (6, .int .i64 6), (7, .int .i64 7), (8, .int .i64 8), (9, .int .i64 9), (10, .int .i64 10), (11, .int .i64 11), (12, .int .i64 12), (13, .int .i64 13), (14, .int .i64 14), (15, .int .i64 15)]).run Tryd.prog W = .ok (.agg #[.int .i64 0, .int .i64 1, .int .i64 2, .int .i64 3, .int .i64 4, .int .i64 5, .int .i64 6, .int .i64 7, .int .i64 8, .int .i64 9, .int .i64 10, .int .i64 11, .int .i64 12, .int .i64 13, .int .i64 14, .int .i64 15]) W := by kernel_rfl
theorem turns_0 (W : World) : (Instr.build 159 #[(0, .int .i64 3), (1, .int .i64 7), (2, .int .i64 11), (3, .int .i64 19)]).run Tryd.prog W = .ok (.agg #[.int .i64 3, .int .i64 7, .int .i64 11, .int .i64 19]) W := by kernel_rfl
theorem rnd_0 (bx : Nat) (x : List UInt32) (hx : x.length = 16) (h : Pure.W4) (w : World) (hB : Blk w bx 155 (u32s x).toArray) :
    Calls Tryd.prog 93 #[.agg (u32s (Pure.md4Steps x h 0).list).toArray, .func (.func 95) #[] #[], .int .u32 0, .agg #[.int .i64 0, .int .i64 1, .int .i64 2, .int .i64 3, .int .i64 4, .int .i64 5, .int .i64 6, .int .i64 7, .int .i64 8, .int .i64 9, .int .i64 10, .int .i64 11, .int .i64 12, .int .i64 13, .int .i64 14, .int .i64 15], .agg #[.int .i64 3, .int .i64 7, .int .i64 11, .int .i64 19], .pointer (some ⟨bx, 0, none⟩)] w
      fun e w' => e = .returned (.agg (u32s (Pure.md4Steps x h 16).list).toArray) ∧ Below w.heap.size w w' :=
  round_0 0 (by omega) rfl bx x hx h w hB
theorem orders_1 (W : World) : (Instr.build 158 #[(0, .int .i64 0), (1, .int .i64 4), (2, .int .i64 8), (3, .int .i64 12), (4, .int .i64 1), (5, .int .i64 5), (6, .int .i64 9), (7, .int .i64 13), (8, .int .i64 2), (9, .int .i64 6), (10, .int .i64 10), (11, .int .i64 14), (12, .int .i64 3), (13, .int .i64 7), (14, .int .i64 11), (15, .int .i64 15)]).run Tryd.prog W = .ok (.agg #[.int .i64 0, .int .i64 4, .int .i64 8, .int .i64 12, .int .i64 1, .int .i64 5, .int .i64 9, .int .i64 13, .int .i64 2, .int .i64 6, .int .i64 10, .int .i64 14, .int .i64 3, .int .i64 7, .int .i64 11, .int .i64 15]) W := by kernel_rfl
theorem turns_1 (W : World) : (Instr.build 159 #[(0, .int .i64 3), (1, .int .i64 5), (2, .int .i64 9), (3, .int .i64 13)]).run Tryd.prog W = .ok (.agg #[.int .i64 3, .int .i64 5, .int .i64 9, .int .i64 13]) W := by kernel_rfl
theorem rnd_1 (bx : Nat) (x : List UInt32) (hx : x.length = 16) (h : Pure.W4) (w : World) (hB : Blk w bx 155 (u32s x).toArray) :
    Calls Tryd.prog 93 #[.agg (u32s (Pure.md4Steps x h 16).list).toArray, .func (.func 96) #[] #[], .int .u32 1518500249, .agg #[.int .i64 0, .int .i64 4, .int .i64 8, .int .i64 12, .int .i64 1, .int .i64 5, .int .i64 9, .int .i64 13, .int .i64 2, .int .i64 6, .int .i64 10, .int .i64 14, .int .i64 3, .int .i64 7, .int .i64 11, .int .i64 15], .agg #[.int .i64 3, .int .i64 5, .int .i64 9, .int .i64 13], .pointer (some ⟨bx, 0, none⟩)] w
      fun e w' => e = .returned (.agg (u32s (Pure.md4Steps x h 32).list).toArray) ∧ Below w.heap.size w w' :=
  round_1 1 (by omega) rfl bx x hx h w hB
theorem orders_2 (W : World) : (Instr.build 158 #[(0, .int .i64 0), (1, .int .i64 8), (2, .int .i64 4), (3, .int .i64 12), (4, .int .i64 2), (5, .int .i64 10), (6, .int .i64 6), (7, .int .i64 14), (8, .int .i64 1), (9, .int .i64 9), (10, .int .i64 5), (11, .int .i64 13), (12, .int .i64 3), (13, .int .i64 11), (14, .int .i64 7), (15, .int .i64 15)]).run Tryd.prog W = .ok (.agg #[.int .i64 0, .int .i64 8, .int .i64 4, .int .i64 12, .int .i64 2, .int .i64 10, .int .i64 6, .int .i64 14, .int .i64 1, .int .i64 9, .int .i64 5, .int .i64 13, .int .i64 3, .int .i64 11, .int .i64 7, .int .i64 15]) W := by kernel_rfl
theorem turns_2 (W : World) : (Instr.build 159 #[(0, .int .i64 3), (1, .int .i64 9), (2, .int .i64 11), (3, .int .i64 15)]).run Tryd.prog W = .ok (.agg #[.int .i64 3, .int .i64 9, .int .i64 11, .int .i64 15]) W := by kernel_rfl
theorem rnd_2 (bx : Nat) (x : List UInt32) (hx : x.length = 16) (h : Pure.W4) (w : World) (hB : Blk w bx 155 (u32s x).toArray) :
    Calls Tryd.prog 93 #[.agg (u32s (Pure.md4Steps x h 32).list).toArray, .func (.func 97) #[] #[], .int .u32 1859775393, .agg #[.int .i64 0, .int .i64 8, .int .i64 4, .int .i64 12, .int .i64 2, .int .i64 10, .int .i64 6, .int .i64 14, .int .i64 1, .int .i64 9, .int .i64 5, .int .i64 13, .int .i64 3, .int .i64 11, .int .i64 7, .int .i64 15], .agg #[.int .i64 3, .int .i64 9, .int .i64 11, .int .i64 15], .pointer (some ⟨bx, 0, none⟩)] w
      fun e w' => e = .returned (.agg (u32s (Pure.md4Steps x h 48).list).toArray) ∧ Below w.heap.size w w' :=
  round_2 2 (by omega) rfl bx x hx h w hB

set_option maxRecDepth 100000 in
set_option maxHeartbeats 4000000 in
theorem block_gen (x : List UInt32) (hx : x.length = 16) (h V1 V2 V3 : Pure.W4)
    (R0 : ∀ bx w, Blk w bx 155 (u32s x).toArray → Calls Tryd.prog 93 #[.agg (u32s h.list).toArray, .func (.func 95) #[] #[], .int .u32 0, .agg #[.int .i64 0, .int .i64 1, .int .i64 2, .int .i64 3, .int .i64 4, .int .i64 5, .int .i64 6, .int .i64 7, .int .i64 8, .int .i64 9, .int .i64 10, .int .i64 11, .int .i64 12, .int .i64 13, .int .i64 14, .int .i64 15], .agg #[.int .i64 3, .int .i64 7, .int .i64 11, .int .i64 19], .pointer (some ⟨bx, 0, none⟩)] w
      fun e w' => e = .returned (.agg (u32s V1.list).toArray) ∧ Below w.heap.size w w')
    (R1 : ∀ bx w, Blk w bx 155 (u32s x).toArray → Calls Tryd.prog 93 #[.agg (u32s V1.list).toArray, .func (.func 96) #[] #[], .int .u32 1518500249, .agg #[.int .i64 0, .int .i64 4, .int .i64 8, .int .i64 12, .int .i64 1, .int .i64 5, .int .i64 9, .int .i64 13, .int .i64 2, .int .i64 6, .int .i64 10, .int .i64 14, .int .i64 3, .int .i64 7, .int .i64 11, .int .i64 15], .agg #[.int .i64 3, .int .i64 5, .int .i64 9, .int .i64 13], .pointer (some ⟨bx, 0, none⟩)] w
      fun e w' => e = .returned (.agg (u32s V2.list).toArray) ∧ Below w.heap.size w w')
    (R2 : ∀ bx w, Blk w bx 155 (u32s x).toArray → Calls Tryd.prog 93 #[.agg (u32s V2.list).toArray, .func (.func 97) #[] #[], .int .u32 1859775393, .agg #[.int .i64 0, .int .i64 8, .int .i64 4, .int .i64 12, .int .i64 2, .int .i64 10, .int .i64 6, .int .i64 14, .int .i64 1, .int .i64 9, .int .i64 5, .int .i64 13, .int .i64 3, .int .i64 11, .int .i64 7, .int .i64 15], .agg #[.int .i64 3, .int .i64 9, .int .i64 11, .int .i64 15], .pointer (some ⟨bx, 0, none⟩)] w
      fun e w' => e = .returned (.agg (u32s V3.list).toArray) ∧ Below w.heap.size w w') (w : World) :
    Calls Tryd.prog 82 #[warr h.list, warr x] w
      fun e w' => e = .returned (warr (Pure.W4.list ⟨h.a + V3.a, h.b + V3.b, h.c + V3.c, h.d + V3.d⟩)) ∧ Below w.heap.size w w' := by
  have R0 := Lib.hid R0
  have R1 := Lib.hid R1
  have R2 := Lib.hid R2
  have ho0 := orders_0
  have ht0 := turns_0
  go_enter Tryd.func82, Tryd.ntmps82
  go_upto_region 2 with fail
  obtain ⟨b0, hb0⟩ : ∃ b0, b0 = w.heap.size := ⟨_, rfl⟩
  obtain ⟨w1, hw1⟩ : ∃ w1, w1 = ((w.alloc (.cells (u32s h.list).toArray 125)).alloc (.cells (u32s x).toArray 155)).alloc (.cells #[.int .u32 0, .int .u32 0, .int .u32 0, .int .u32 0] 125) := ⟨_, rfl⟩
  rw [← hw1, ← hb0]
  have h1 : Blk w1 b0 125 (u32s h.list).toArray := by rw [hw1, hb0]; exact ((Blk.new w _ _).alloc _).alloc _
  have h2 : Blk w1 (b0 + 1) 155 (u32s x).toArray := by
    rw [hw1, hb0]
    have := Blk.new (w.alloc (.cells (u32s h.list).toArray 125)) 155 (u32s x).toArray
    rw [World.size_alloc] at this
    exact this.alloc _
  have h3 : Blk w1 (b0 + 1 + 1) 125 (u32s [0, 0, 0, 0]).toArray := by
    rw [hw1, hb0]
    have := Blk.new ((w.alloc (.cells (u32s h.list).toArray 125)).alloc (.cells (u32s x).toArray 155)) 125 (u32s [0, 0, 0, 0]).toArray
    rw [World.size_alloc, World.size_alloc] at this
    exact this
  have hs1 : w1.heap.size = b0 + 1 + 1 + 1 := by rw [hw1, hb0]; simp
  have hk1 : Keeps nobody w w1 := by rw [hw1]; exact (((Keeps.refl _ w).alloc _).alloc _).alloc _
  have H1 := Lib.hid h1
  have H2 := Lib.hid h2
  have H3 := Lib.hid h3
  have HS1 := Lib.hid hs1
  have HB0 := Lib.hid hb0
  have HK1 := Lib.hid (Keeps.to_below hk1)
  clear hw1 h1 h2 h3 hs1 hk1 hb0
  apply wp_region_lit
  refine wpList_plain rfl (fun K hK => ?_)
  go_simp
  refine hK _ _ ?_
  clear hK K
  refine wpList_load_row rfl 125 (.tmp 2) rfl b0 rfl 125 _ (0, 0) _ H1.out Tryd.underlying125 rfl (by rw [state_info]; rfl) ?_
  go_wp2_with fail
  have hr0 := R0.out (b0 + 1) w1 H2.out
  obtain ⟨a1, b1, c1, d1⟩ := V1
  refine hr0.mono ?_
  rintro e w2 ⟨rfl, hb2⟩
  have HK2 := Lib.hid (HK1.out.trans (hb2.mono HK1.out.size))
  have H12 := Lib.hid (H1.out.below hb2 H1.out.lt)
  have H22 := Lib.hid (H2.out.below hb2 H2.out.lt)
  have H32 := Lib.hid (H3.out.below hb2 H3.out.lt)
  have hs2 := hb2.size
  have HS2 := Lib.hid (show b0 + 1 + 1 + 1 ≤ w2.heap.size by have := HS1.out; omega)
  clear hb2 H1 H2 H3 HK1 HS1 hs2 ho0 ht0 hr0 R0
  simp only [Pure.W4.list, List.map_cons, List.map_nil]
  go_upto_region 3 with fail
  obtain ⟨w3, hw3⟩ : ∃ w3, w3 = w2.alloc (.cells #[.int .u32 (a1.toNat : Int), .int .u32 (b1.toNat : Int), .int .u32 (c1.toNat : Int), .int .u32 (d1.toNat : Int)] 125) := ⟨_, rfl⟩
  obtain ⟨b6, hb6⟩ : ∃ b6, b6 = w2.heap.size := ⟨_, rfl⟩
  rw [← hw3, ← hb6]
  have hV3 : Blk w3 b6 125 (u32s [a1, b1, c1, d1]).toArray := by rw [hw3, hb6]; exact Blk.new w2 _ _
  have hk3 : Keeps nobody w2 w3 := by rw [hw3]; exact (Keeps.refl _ w2).alloc _
  have H13 := Lib.hid (H12.out.keeps hk3 (fun h => h))
  have H23 := Lib.hid (H22.out.keeps hk3 (fun h => h))
  have H33 := Lib.hid (H32.out.keeps hk3 (fun h => h))
  have HV3 := Lib.hid hV3
  have HK3 := Lib.hid (Below.quiet HK2.out hk3 HK2.out.size)
  have hb62 : b0 + 1 + 1 < b6 := by have := HS2.out; omega
  have ho1 := orders_1
  have ht1 := turns_1
  clear hw3 hb6 hV3 hk3 H12 H22 H32 HK2 HS2
  apply wp_region_lit
  refine wpList_plain rfl (fun K hK => ?_)
  go_simp
  refine hK _ _ ?_
  clear hK K
  refine wpList_load_row rfl 125 (.tmp 6) rfl b6 rfl 125 _ (0, 0) _ HV3.out Tryd.underlying125 rfl (by rw [state_info]; rfl) ?_
  go_wp2_with fail
  have hr1 := R1.out (b0 + 1) w3 H23.out
  obtain ⟨a2, b2, c2, d2⟩ := V2
  refine hr1.mono ?_
  rintro e w4 ⟨rfl, hb4⟩
  have HK4 := Lib.hid (HK3.out.trans (hb4.mono HK3.out.size))
  have H14 := Lib.hid (H13.out.below hb4 H13.out.lt)
  have H24 := Lib.hid (H23.out.below hb4 H23.out.lt)
  have H34 := Lib.hid (H33.out.below hb4 H33.out.lt)
  have hV4 := HV3.out.below hb4 HV3.out.lt
  have HV4 := Lib.hid hV4
  have k0 : w4.cell? ⟨b6, 0, none⟩ = some (.int .u32 a1.toNat) := by rw [hV4.cell]; rfl
  have k1 : w4.cell? ⟨b6, 1, none⟩ = some (.int .u32 b1.toNat) := by rw [hV4.cell]; rfl
  have k2 : w4.cell? ⟨b6, 2, none⟩ = some (.int .u32 c1.toNat) := by rw [hV4.cell]; rfl
  have k3 : w4.cell? ⟨b6, 3, none⟩ = some (.int .u32 d1.toNat) := by rw [hV4.cell]; rfl
  have f0 : w4.frozen? ⟨b6, 0, none⟩ = false := hV4.frozen 0
  have f1 : w4.frozen? ⟨b6, 1, none⟩ = false := hV4.frozen 1
  have f2 : w4.frozen? ⟨b6, 2, none⟩ = false := hV4.frozen 2
  have f3 : w4.frozen? ⟨b6, 3, none⟩ = false := hV4.frozen 3
  clear hb4 H13 H23 H33 HV3 HK3 ho1 ht1 hr1 R1 hV4
  simp only [Pure.W4.list, List.map_cons, List.map_nil]
  go_upto_region 4 with fail
  obtain ⟨w5, hw5⟩ : ∃ w, w = ((((w4.setCell ⟨b6, 0, none⟩ (.int .u32 (a2.toNat : Int))).setCell ⟨b6, 1, none⟩ (.int .u32 (b2.toNat : Int))).setCell ⟨b6, 2, none⟩ (.int .u32 (c2.toNat : Int))).setCell ⟨b6, 3, none⟩ (.int .u32 (d2.toNat : Int))) := ⟨_, rfl⟩
  rw [← hw5]
  have hVw5 : Blk w5 b6 125 (u32s [a2, b2, c2, d2]).toArray := by
    rw [hw5]
    have := ((((HV4.out.set 0 (.int .u32 (a2.toNat : Int))).set 1 (.int .u32 (b2.toNat : Int))).set 2 (.int .u32 (c2.toNat : Int))).set 3 (.int .u32 (d2.toNat : Int)))
    exact this
  have hkw5 : Keeps (only b6) w4 w5 := by
    rw [hw5]
    exact ((((Keeps.refl _ w4).store b6 0 (fun _ => only_self b6) _).store b6 1 (fun _ => only_self b6) _).store b6 2 (fun _ => only_self b6) _).store b6 3 (fun _ => only_self b6) _
  have H15 := Lib.hid (H14.out.keeps hkw5 (fun e => by have e : b0 = b6 := e; omega))
  have H25 := Lib.hid (H24.out.keeps hkw5 (fun e => by have e : b0 + 1 = b6 := e; omega))
  have H35 := Lib.hid (H34.out.keeps hkw5 (fun e => by have e : b0 + 1 + 1 = b6 := e; omega))
  have HV5 := Lib.hid hVw5
  have HK5 := Lib.hid (Below.keeps HK4.out hkw5 HK4.out.size (fun i hi => by have hi : i = b6 := hi; have := HB0.out; omega))
  have ho2 := orders_2
  have ht2 := turns_2
  clear hw5 hVw5 hkw5 H14 H24 H34 HK4 HV4 k0 k1 k2 k3 f0 f1 f2 f3
  apply wp_region_lit
  refine wpList_plain rfl (fun K hK => ?_)
  go_simp
  refine hK _ _ ?_
  clear hK K
  refine wpList_load_row rfl 125 (.tmp 6) rfl b6 rfl 125 _ (0, 0) _ HV5.out Tryd.underlying125 rfl (by rw [state_info]; rfl) ?_
  go_wp2_with fail
  have hr2 := R2.out (b0 + 1) w5 H25.out
  obtain ⟨a3, b3, c3, d3⟩ := V3
  refine hr2.mono ?_
  rintro e w6 ⟨rfl, hb6⟩
  have HK6 := Lib.hid (HK5.out.trans (hb6.mono HK5.out.size))
  have H16 := Lib.hid (H15.out.below hb6 H15.out.lt)
  have H36 := Lib.hid (H35.out.below hb6 H35.out.lt)
  have hV6 := HV5.out.below hb6 HV5.out.lt
  have HV6 := Lib.hid hV6
  have f0 : w6.frozen? ⟨b6, 0, none⟩ = false := hV6.frozen 0
  have f1 : w6.frozen? ⟨b6, 1, none⟩ = false := hV6.frozen 1
  have f2 : w6.frozen? ⟨b6, 2, none⟩ = false := hV6.frozen 2
  have f3 : w6.frozen? ⟨b6, 3, none⟩ = false := hV6.frozen 3
  have k0 : w6.cell? ⟨b6, 0, none⟩ = some (.int .u32 a2.toNat) := by rw [hV6.cell]; rfl
  have k1 : w6.cell? ⟨b6, 1, none⟩ = some (.int .u32 b2.toNat) := by rw [hV6.cell]; rfl
  have k2 : w6.cell? ⟨b6, 2, none⟩ = some (.int .u32 c2.toNat) := by rw [hV6.cell]; rfl
  have k3 : w6.cell? ⟨b6, 3, none⟩ = some (.int .u32 d2.toNat) := by rw [hV6.cell]; rfl
  clear hb6 H15 H25 H35 HV5 HK5 ho2 ht2 hr2 R2 hV6
  simp only [Pure.W4.list, List.map_cons, List.map_nil]
  go_upto_region 5 with fail
  obtain ⟨w7, hw7⟩ : ∃ w, w = ((((w6.setCell ⟨b6, 0, none⟩ (.int .u32 (a3.toNat : Int))).setCell ⟨b6, 1, none⟩ (.int .u32 (b3.toNat : Int))).setCell ⟨b6, 2, none⟩ (.int .u32 (c3.toNat : Int))).setCell ⟨b6, 3, none⟩ (.int .u32 (d3.toNat : Int))) := ⟨_, rfl⟩
  rw [← hw7]
  have hVw7 : Blk w7 b6 125 (u32s [a3, b3, c3, d3]).toArray := by
    rw [hw7]
    have := ((((HV6.out.set 0 (.int .u32 (a3.toNat : Int))).set 1 (.int .u32 (b3.toNat : Int))).set 2 (.int .u32 (c3.toNat : Int))).set 3 (.int .u32 (d3.toNat : Int)))
    exact this
  have hkw7 : Keeps (only b6) w6 w7 := by
    rw [hw7]
    exact ((((Keeps.refl _ w6).store b6 0 (fun _ => only_self b6) _).store b6 1 (fun _ => only_self b6) _).store b6 2 (fun _ => only_self b6) _).store b6 3 (fun _ => only_self b6) _
  have H17 := Lib.hid (H16.out.keeps hkw7 (fun e => by have e : b0 = b6 := e; omega))
  have H37 := Lib.hid (H36.out.keeps hkw7 (fun e => by have e : b0 + 1 + 1 = b6 := e; omega))
  have HV7 := Lib.hid hVw7
  have HK7 := Lib.hid (Below.keeps HK6.out hkw7 HK6.out.size (fun i hi => by have hi : i = b6 := hi; have := HB0.out; omega))
  clear hw7 hVw7 hkw7 H16 H36 HK6 HV6 k0 k1 k2 k3 f0 f1 f2 f3
  go_wp2_with fail
  go_loopw [24] (fun i wr => ∃ q : Nat, q ≤ 4 ∧ i = .int .i64 (q : Int) ∧ Blk wr b0 125 (u32s (Pure.sumTo h ⟨a3, b3, c3, d3⟩ q)).toArray ∧ Keeps (only b0) w7 wr) (fun i _ => 4 - (intOf i).toNat)
  case atStart => exact ⟨0, by omega, rfl, by rw [Pure.sumTo_zero]; exact H17.out, Keeps.refl _ w7⟩
  case round =>
    clear H17
    obtain ⟨q, hq, rfl, hS, hK⟩ := hrel
    by_cases hql : q < 4
    · have hi0 : (0 : Int) ≤ (q : Int) := by omega
      have hi1 : (q : Int) < 4 := by omega
      have hV := HV7.out.keeps hK (fun e => by have e : b6 = b0 := e; omega)
      have HK := Lib.hid hK
      have hnext := Pure.sumTo_succ h ⟨a3, b3, c3, d3⟩ q hql
      obtain ⟨S, hSS⟩ : ∃ S, S = Pure.sumTo h ⟨a3, b3, c3, d3⟩ q := ⟨_, rfl⟩
      have hS4 : S.length = 4 := by rw [hSS]; rfl
      rw [← hSS] at hS hnext
      obtain ⟨L, hL⟩ : ∃ L, L = Pure.W4.list ⟨a3, b3, c3, d3⟩ := ⟨_, rfl⟩
      have hL4 : L.length = 4 := by rw [hL]; rfl
      have hV : Blk wr b6 125 (u32s (Pure.W4.list ⟨a3, b3, c3, d3⟩)).toArray := hV
      rw [← hL] at hV hnext
      obtain ⟨y, hy⟩ : ∃ y, y = S.getD q 0 := ⟨_, rfl⟩
      obtain ⟨z, hz⟩ : ∃ z, z = L.getD q 0 := ⟨_, rfl⟩
      have k0 : wr.cell? ⟨b0, q, none⟩ = some (.int .u32 y.toNat) := by rw [hS.cell, hy, ← u32s_at S q (by omega)]; simp
      have k1 : wr.cell? ⟨b6, q, none⟩ = some (.int .u32 z.toNat) := by rw [hV.cell, hz, ← u32s_at L q (by omega)]; simp
      have f0 : wr.frozen? ⟨b0, q, none⟩ = false := hS.frozen q
      obtain ⟨s, hs⟩ : ∃ s, s = y + z := ⟨_, rfl⟩
      have a1 := add_u32 y z
      rw [← hs] at a1
      rw [← hy, ← hz, ← hs] at hnext
      have HS := Lib.hid hS
      have HN := Lib.hid hnext
      have A1 := Lib.hid a1
      clear hV hK hSS hS4 hL hL4 hy hz hs hS hnext a1
      go_wp2_with fail
      go_region
      go_wp2_with fail
      go_roundw
      case rel =>
        refine ⟨q + 1, by omega, by go_num, ?_, ?_⟩
        · rw [HN.out, ← u32s_set, A1.out]
          exact (HS.out.set q _).drew
        · exact (HK.out.store b0 q (fun _ => only_self b0) _).drew
      case measure => simp [intOf]; omega
    · have hqq : q = 4 := by omega
      subst hqq
      have hR := H37.out.keeps hK (fun e => by have e : b0 + 1 + 1 = b0 := e; omega)
      rw [Pure.sumTo_four] at hS
      have HS := Lib.hid hS
      have HR := Lib.hid hR
      have HK := Lib.hid hK
      clear hS hK hR hq hql
      go_upto_region 10 with fail
      apply wp_region_lit
      refine wpList_load_row rfl 125 (.tmp 2) rfl b0 rfl 125 _ (0, 0) _ HS.out Tryd.underlying125 rfl (by rw [state_info]; rfl) ?_
      refine wpList_store_row rfl 125 (.tmp 4) (.tmp 36) rfl (b0 + 1 + 1) _ rfl rfl 125 _ HR.out (by rw [state_info]; rfl) rfl (all_words _) ?_
      obtain ⟨w9, hw9⟩ : ∃ w9, w9 = wr.setRow (b0 + 1 + 1) (u32s [h.a + a3, h.b + b3, h.c + c3, h.d + d3]).toArray := ⟨_, rfl⟩
      have hb9 : Blk w9 (b0 + 1 + 1) 125 (u32s [h.a + a3, h.b + b3, h.c + c3, h.d + d3]).toArray := by rw [hw9]; exact Blk.rowSet HR.out _
      have hk9 : Below w.heap.size w w9 := by
        rw [hw9]
        have h1 := Below.keeps HK7.out HK.out HK7.out.size (fun i hi => by have hi : i = b0 := hi; have := HB0.out; omega)
        exact below_setRow h1 (by have := HB0.out; omega) _
      have HB9 := Lib.hid hb9
      have HK9 := Lib.hid hk9
      have e9 : wr.setRow (b0 + 1 + 1) (u32s (Pure.W4.list ⟨h.a + a3, h.b + b3, h.c + c3, h.d + d3⟩)).toArray = w9 := hw9.symm
      rw [e9]
      clear hw9 hb9 hk9 e9
      go_wp2
      refine bodyPost_ret (results_cell_row rfl _ _ (b0 + 1 + 1) 125 _ (0, 0) _ rfl HB9.out Tryd.underlying125 rfl (by rw [state_info]; rfl)) rfl ?_
      exact ⟨rfl, HK9.out⟩
theorem block_any (x : List UInt32) (hx : x.length = 16) (h : Pure.W4) (w : World) :
    Calls Tryd.prog 82 #[warr h.list, warr x] w
      fun e w' => e = .returned (warr (Pure.md4Blk x h).list) ∧ Below w.heap.size w w' :=
  block_gen x hx h (Pure.md4Steps x h 16) (Pure.md4Steps x h 32) (Pure.md4Steps x h 48) (fun bx w hB => rnd_0 bx x hx h w hB) (fun bx w hB => rnd_1 bx x hx h w hB) (fun bx w hB => rnd_2 bx x hx h w hB) w
theorem after_list (x s : List UInt32) (w : World) (hx : x.length = 16) (hs : s.length = 4) :
    Calls Tryd.prog 82 #[warr s, warr x] w fun e w' => e = .returned (warr (Pure.md4Of x s)) ∧ Below w.heap.size w w' := by
  have h := block_any x hx (Pure.w4of s) w
  rw [Pure.w4of_list s hs] at h
  exact h
end Go.Proofs.YtkllaghfiofnjaaDoor
