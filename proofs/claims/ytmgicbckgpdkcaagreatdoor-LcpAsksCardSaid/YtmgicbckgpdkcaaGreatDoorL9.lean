/- md4 over lists: the document's words and blocks are the program's. -/
import Derived.Test.YtmgicbckgpdkcaaGreatDoorL8
namespace Go.Proofs.YtmgicbckgpdkcaaGreatDoor
set_option maxRecDepth 100000
set_option maxHeartbeats 4000000
open _root_.Go.Lib renaming hid → xhd
open List renaming setIfInBounds_toArray → xqA, getElem_toArray → xqB, getElem_cons_succ → xqC, getElem_cons_zero → xqD, set_cons_succ → xqE, set_cons_zero → xqF
namespace Pure
def word (m : List UInt8) (p : Nat) : Nat → UInt32
 | 0 => 0
 | r + 1 => word m p r ||| (m.getD (p + r) 0).toUInt32 <<< UInt32.ofNat (8 * r)
theorem y55 {m m' : List UInt8} {p p' : Nat} : ∀ (n : Nat), (∀ r, r < n → m.getD (p + r) 0 = m'.getD (p' + r) 0) → word m p n = word m' p' n
 | 0, _ => rfl
 | n + 1, h => by
  simp only [word]
  rw [y55 n (fun r hr => h r (by omega)), h n (by omega)]
theorem y4g (m : List UInt8) (p : Nat) : ∀ (i : Nat), i ≤ 64 → ∀ t, t < 16 → (wordsLow m p i).getD t 0 = word m (p + 4 * t) (min 4 (i - 4 * t))
 | 0, _, t, ht => by
  rw [show min 4 (0 - 4 * t) = 0 by omega]
  show (List.replicate 16 (0 : UInt32)).getD t 0 = 0
  rw [List.getD_eq_getElem?_getD, List.getElem?_replicate, if_pos ht]
  rfl
 | i + 1, hi, t, ht => by
  have ih := y4g m p i (by omega)
  simp only [wordsLow]
  by_cases hti : t = i / 4
  ·subst hti
   rw [List.getD_eq_getElem?_getD, List.getElem?_set_self (by rw [wordsLow_length]; omega), Option.getD_some, ih (i / 4) (by omega),
    show min 4 (i - 4 * (i / 4)) = i % 4 by omega, show min 4 (i + 1 - 4 * (i / 4)) = i % 4 + 1 by omega]
   simp only [word]
   rw [show p + 4 * (i / 4) + i % 4 = p + i by omega]
  ·rw [List.getD_eq_getElem?_getD, List.getElem?_set_ne (by omega), ← List.getD_eq_getElem?_getD, ih t ht]
   congr 1
   omega
theorem y4x (b : List UInt8) : ∀ k, joinTo false b k = word b 0 k
 | 0 => rfl
 | k + 1 => by
  simp only [joinTo, word, y4x b k, Nat.zero_add]
  rfl
theorem ya0 (m : List UInt8) (k : Nat) : wordsOf false (blockOf m k) = wordsLow m (64 * k) 64 := by
 refine eq_of_getD 0 _ _ ((wordsOf_length _ _).trans (wordsLow_length _ _ _).symm) fun t h1 => ?_
 rw [wordsOf_length] at h1
 rw [y4g m (64 * k) 64 (Nat.le_refl _) t h1, show min 4 (64 - 4 * t) = 4 by omega]
 unfold wordsOf
 rw [getD_range _ _ _ _ h1, y4x]
 refine y55 4 fun r hr => ?_
 rw [Nat.zero_add, y4v _ _ _ _ hr, y6m, blockOf, y4v _ _ _ _ (by omega), y6m, Nat.add_assoc]
def md4Blk (x : List UInt32) (h : W4) : W4 :=
 let v := md4Steps x h 48
 ⟨h.a + v.a, h.b + v.b, h.c + v.c, h.d + v.d⟩
def w4of (s : List UInt32) : W4 := ⟨s.getD 0 0, s.getD 1 0, s.getD 2 0, s.getD 3 0⟩
theorem w4of_list (s : List UInt32) (hs : s.length = 4) : (w4of s).list = s := by
 match s, hs with
 | [a, b, c, d], _ => rfl
theorem list_w4of (h : W4) : w4of h.list = h := rfl
def md4Of (x s : List UInt32) : List UInt32 := (md4Blk x (w4of s)).list
theorem md4Of_length (x s : List UInt32) : (md4Of x s).length = 4 := rfl
theorem y3b (m : List UInt8) : ∀ K, (md4Blocks m K).list = via (fun c s => md4Of (wordsOf false c) s) md4Start.list m (List.range K)
 | 0 => rfl
 | K + 1 => by
  rw [List.range_succ, via_snoc, ← y3b m K]
  show (md4Blk (wordsLow m (64 * K) 64) (md4Blocks m K)).list = _
  rw [md4Of, list_w4of, ya0]
theorem y89 (l : List UInt32) (i : Nat) : bytesOf false (l.getD i 0).toNat 4 4 = (List.range 4).map fun r => outLow l (4 * i + r) := by
 unfold bytesOf
 apply List.map_congr_left
 intro r hr
 rw [List.mem_range] at hr
 unfold byteAt outLow shiftOf
 rw [show (4 * i + r) / 4 = i by omega, show (4 * i + r) % 4 = r by omega]
 apply UInt8.toNat_inj.1
 rw [UInt8.toNat_ofNat', UInt32.toNat_toUInt8, UInt32.toNat_shiftRight]
 have : (UInt32.ofNat (8 * r)).toNat % 32 = 8 * r := by
  rw [UInt32.toNat_ofNat']
  omega
 rw [this, Nat.shiftRight_eq_div_pow]
 rfl
theorem y3c (l : List UInt32) : ∀ k, k ≤ l.length → wordBytes false (l.take k) = (List.range (4 * k)).map (outLow l)
 | 0, _ => rfl
 | k + 1, hk => by
  have et : l.take (k + 1) = l.take k ++ [l.getD k 0] := by
   rw [List.getD_eq_getElem?_getD, List.getElem?_eq_getElem (by omega)]
   exact (List.take_append_getElem (by omega)).symm
  rw [et, wordBytes_snoc, y3c l k (by omega), y89, show 4 * (k + 1) = 4 * k + 4 by omega, List.range_add, List.map_append, List.map_map]
  rfl
theorem md4_fold (b : List UInt8) : md4 b = wordBytes false (foldOf false md4Of md4Start.list b) := by
 rw [foldOf_pad]
 show _ = wordBytes false (via (fun c s => md4Of (wordsOf false c) s) md4Start.list (pad true b) (List.range ((pad true b).length / 64)))
 rw [← y3b]
 obtain ⟨h, hh⟩ : ∃ h, h = md4Blocks (pad true b) ((pad true b).length / 64) := ⟨_, rfl⟩
 unfold md4
 rw [← hh]
 exact (y3c h.list 4 (Nat.le_refl 4)).symm
end Pure
open Go.RowKit
theorem orders_0 (W : World) : (Instr.build 292 #[(0, .int .i64 0), (1, .int .i64 1), (2, .int .i64 2), (3, .int .i64 3), (4, .int .i64 4), (5, .int .i64 5), (6, .int .i64 6), (7, .int .i64 7), (8, .int .i64 8), (9, .int .i64 9), (10, .int .i64 10), (11, .int .i64 11), (12, .int .i64 12), (13, .int .i64 13), (14, .int .i64 14), (15, .int .i64 15)]).run Tryz.prog W = .ok (.agg #[.int .i64 0, .int .i64 1, .int .i64 2, .int .i64 3, .int .i64 4, .int .i64 5, .int .i64 6, .int .i64 7, .int .i64 8, .int .i64 9, .int .i64 10, .int .i64 11, .int .i64 12, .int .i64 13, .int .i64 14, .int .i64 15]) W := by kernel_rfl
theorem turns_0 (W : World) : (Instr.build 293 #[(0, .int .i64 3), (1, .int .i64 7), (2, .int .i64 11), (3, .int .i64 19)]).run Tryz.prog W = .ok (.agg #[.int .i64 3, .int .i64 7, .int .i64 11, .int .i64 19]) W := by kernel_rfl
theorem rnd_0 (bx : Nat) (x : List UInt32) (hx : x.length = 16) (h : Pure.W4) (w : World) (hB : Blk w bx 289 (u32s x).toArray) :
  Calls Tryz.prog 210 #[.agg (u32s (Pure.md4Steps x h 0).list).toArray, .func (.func 212) #[] #[], .int .u32 0, .agg #[.int .i64 0, .int .i64 1, .int .i64 2, .int .i64 3, .int .i64 4, .int .i64 5, .int .i64 6, .int .i64 7, .int .i64 8, .int .i64 9, .int .i64 10, .int .i64 11, .int .i64 12, .int .i64 13, .int .i64 14, .int .i64 15], .agg #[.int .i64 3, .int .i64 7, .int .i64 11, .int .i64 19], .pointer (some ⟨bx, 0, none⟩)] w
   fun e w' => e = .returned (.agg (u32s (Pure.md4Steps x h 16).list).toArray) ∧ Below w.heap.size w w' :=
 round_0 0 (by omega) rfl bx x hx h w hB
theorem orders_1 (W : World) : (Instr.build 292 #[(0, .int .i64 0), (1, .int .i64 4), (2, .int .i64 8), (3, .int .i64 12), (4, .int .i64 1), (5, .int .i64 5), (6, .int .i64 9), (7, .int .i64 13), (8, .int .i64 2), (9, .int .i64 6), (10, .int .i64 10), (11, .int .i64 14), (12, .int .i64 3), (13, .int .i64 7), (14, .int .i64 11), (15, .int .i64 15)]).run Tryz.prog W = .ok (.agg #[.int .i64 0, .int .i64 4, .int .i64 8, .int .i64 12, .int .i64 1, .int .i64 5, .int .i64 9, .int .i64 13, .int .i64 2, .int .i64 6, .int .i64 10, .int .i64 14, .int .i64 3, .int .i64 7, .int .i64 11, .int .i64 15]) W := by kernel_rfl
theorem turns_1 (W : World) : (Instr.build 293 #[(0, .int .i64 3), (1, .int .i64 5), (2, .int .i64 9), (3, .int .i64 13)]).run Tryz.prog W = .ok (.agg #[.int .i64 3, .int .i64 5, .int .i64 9, .int .i64 13]) W := by kernel_rfl
theorem rnd_1 (bx : Nat) (x : List UInt32) (hx : x.length = 16) (h : Pure.W4) (w : World) (hB : Blk w bx 289 (u32s x).toArray) :
  Calls Tryz.prog 210 #[.agg (u32s (Pure.md4Steps x h 16).list).toArray, .func (.func 213) #[] #[], .int .u32 1518500249, .agg #[.int .i64 0, .int .i64 4, .int .i64 8, .int .i64 12, .int .i64 1, .int .i64 5, .int .i64 9, .int .i64 13, .int .i64 2, .int .i64 6, .int .i64 10, .int .i64 14, .int .i64 3, .int .i64 7, .int .i64 11, .int .i64 15], .agg #[.int .i64 3, .int .i64 5, .int .i64 9, .int .i64 13], .pointer (some ⟨bx, 0, none⟩)] w
   fun e w' => e = .returned (.agg (u32s (Pure.md4Steps x h 32).list).toArray) ∧ Below w.heap.size w w' :=
 round_1 1 (by omega) rfl bx x hx h w hB
theorem orders_2 (W : World) : (Instr.build 292 #[(0, .int .i64 0), (1, .int .i64 8), (2, .int .i64 4), (3, .int .i64 12), (4, .int .i64 2), (5, .int .i64 10), (6, .int .i64 6), (7, .int .i64 14), (8, .int .i64 1), (9, .int .i64 9), (10, .int .i64 5), (11, .int .i64 13), (12, .int .i64 3), (13, .int .i64 11), (14, .int .i64 7), (15, .int .i64 15)]).run Tryz.prog W = .ok (.agg #[.int .i64 0, .int .i64 8, .int .i64 4, .int .i64 12, .int .i64 2, .int .i64 10, .int .i64 6, .int .i64 14, .int .i64 1, .int .i64 9, .int .i64 5, .int .i64 13, .int .i64 3, .int .i64 11, .int .i64 7, .int .i64 15]) W := by kernel_rfl
theorem turns_2 (W : World) : (Instr.build 293 #[(0, .int .i64 3), (1, .int .i64 9), (2, .int .i64 11), (3, .int .i64 15)]).run Tryz.prog W = .ok (.agg #[.int .i64 3, .int .i64 9, .int .i64 11, .int .i64 15]) W := by kernel_rfl
theorem rnd_2 (bx : Nat) (x : List UInt32) (hx : x.length = 16) (h : Pure.W4) (w : World) (hB : Blk w bx 289 (u32s x).toArray) :
  Calls Tryz.prog 210 #[.agg (u32s (Pure.md4Steps x h 32).list).toArray, .func (.func 214) #[] #[], .int .u32 1859775393, .agg #[.int .i64 0, .int .i64 8, .int .i64 4, .int .i64 12, .int .i64 2, .int .i64 10, .int .i64 6, .int .i64 14, .int .i64 1, .int .i64 9, .int .i64 5, .int .i64 13, .int .i64 3, .int .i64 11, .int .i64 7, .int .i64 15], .agg #[.int .i64 3, .int .i64 9, .int .i64 11, .int .i64 15], .pointer (some ⟨bx, 0, none⟩)] w
   fun e w' => e = .returned (.agg (u32s (Pure.md4Steps x h 48).list).toArray) ∧ Below w.heap.size w w' :=
 round_2 2 (by omega) rfl bx x hx h w hB
theorem block_gen (x : List UInt32) (_ : x.length = 16) (h V1 V2 V3 : Pure.W4)
  (R0 : ∀ bx w, Blk w bx 289 (u32s x).toArray → Calls Tryz.prog 210 #[.agg (u32s h.list).toArray, .func (.func 212) #[] #[], .int .u32 0, .agg #[.int .i64 0, .int .i64 1, .int .i64 2, .int .i64 3, .int .i64 4, .int .i64 5, .int .i64 6, .int .i64 7, .int .i64 8, .int .i64 9, .int .i64 10, .int .i64 11, .int .i64 12, .int .i64 13, .int .i64 14, .int .i64 15], .agg #[.int .i64 3, .int .i64 7, .int .i64 11, .int .i64 19], .pointer (some ⟨bx, 0, none⟩)] w
   fun e w' => e = .returned (.agg (u32s V1.list).toArray) ∧ Below w.heap.size w w')
  (R1 : ∀ bx w, Blk w bx 289 (u32s x).toArray → Calls Tryz.prog 210 #[.agg (u32s V1.list).toArray, .func (.func 213) #[] #[], .int .u32 1518500249, .agg #[.int .i64 0, .int .i64 4, .int .i64 8, .int .i64 12, .int .i64 1, .int .i64 5, .int .i64 9, .int .i64 13, .int .i64 2, .int .i64 6, .int .i64 10, .int .i64 14, .int .i64 3, .int .i64 7, .int .i64 11, .int .i64 15], .agg #[.int .i64 3, .int .i64 5, .int .i64 9, .int .i64 13], .pointer (some ⟨bx, 0, none⟩)] w
   fun e w' => e = .returned (.agg (u32s V2.list).toArray) ∧ Below w.heap.size w w')
  (R2 : ∀ bx w, Blk w bx 289 (u32s x).toArray → Calls Tryz.prog 210 #[.agg (u32s V2.list).toArray, .func (.func 214) #[] #[], .int .u32 1859775393, .agg #[.int .i64 0, .int .i64 8, .int .i64 4, .int .i64 12, .int .i64 2, .int .i64 10, .int .i64 6, .int .i64 14, .int .i64 1, .int .i64 9, .int .i64 5, .int .i64 13, .int .i64 3, .int .i64 11, .int .i64 7, .int .i64 15], .agg #[.int .i64 3, .int .i64 9, .int .i64 11, .int .i64 15], .pointer (some ⟨bx, 0, none⟩)] w
   fun e w' => e = .returned (.agg (u32s V3.list).toArray) ∧ Below w.heap.size w w') (w : World) :
  Calls Tryz.prog 183 #[warr h.list, warr x] w
   fun e w' => e = .returned (warr (Pure.W4.list ⟨h.a + V3.a, h.b + V3.b, h.c + V3.c, h.d + V3.d⟩)) ∧ Below w.heap.size w w' := by
 have R0 := xhd R0
 have R1 := xhd R1
 have R2 := xhd R2
 have ho0 := orders_0
 have ht0 := turns_0
 go_enter Tryz.func183, Tryz.ntmps183
 go_upto_region 2 with fail
 obtain ⟨b0, hb0⟩ : ∃ b0, b0 = w.heap.size := ⟨_, rfl⟩
 obtain ⟨w1, hw1⟩ : ∃ w1, w1 = ((w.alloc (.cells (u32s h.list).toArray 238)).alloc (.cells (u32s x).toArray 289)).alloc (.cells #[.int .u32 0, .int .u32 0, .int .u32 0, .int .u32 0] 238) := ⟨_, rfl⟩
 rw [← hw1, ← hb0]
 have h1 : Blk w1 b0 238 (u32s h.list).toArray := by rw [hw1, hb0]; exact ((Blk.new w _ _).alloc _).alloc _
 have h2 : Blk w1 (b0 + 1) 289 (u32s x).toArray := by
  rw [hw1, hb0]
  have := Blk.new (w.alloc (.cells (u32s h.list).toArray 238)) 289 (u32s x).toArray
  rw [World.size_alloc] at this
  exact this.alloc _
 have h3 : Blk w1 (b0 + 1 + 1) 238 (u32s [0, 0, 0, 0]).toArray := by
  rw [hw1, hb0]
  have := Blk.new ((w.alloc (.cells (u32s h.list).toArray 238)).alloc (.cells (u32s x).toArray 289)) 238 (u32s [0, 0, 0, 0]).toArray
  rw [World.size_alloc, World.size_alloc] at this
  exact this
 have hs1 : w1.heap.size = b0 + 1 + 1 + 1 := by rw [hw1, hb0]; simp
 have hk1 : Keeps y01 w w1 := by rw [hw1]; exact (((Keeps.refl _ w).alloc _).alloc _).alloc _
 have H1 := xhd h1
 have H2 := xhd h2
 have H3 := xhd h3
 have HS1 := xhd hs1
 have HB0 := xhd hb0
 have HK1 := xhd (Keeps.to_below hk1)
 clear hw1 h1 h2 h3 hs1 hk1 hb0
 apply wp_region_lit
 refine wpList_plain rfl (fun K hK => ?_)
 go_simp
 refine hK _ _ ?_
 clear hK K
 refine wpList_load_row rfl 238 (.tmp 2) rfl b0 rfl 238 _ (0, 0) _ H1.out Tryz.underlying238 rfl (by rw [y0h]; rfl) ?_
 go_wp2_with fail
 have hr0 := R0.out (b0 + 1) w1 H2.out
 obtain ⟨a1, b1, c1, d1⟩ := V1
 refine hr0.mono ?_
 rintro e w2 ⟨rfl, hb2⟩
 have HK2 := xhd (HK1.out.trans (hb2.mono HK1.out.size))
 have H12 := xhd (H1.out.below hb2 H1.out.lt)
 have H22 := xhd (H2.out.below hb2 H2.out.lt)
 have H32 := xhd (H3.out.below hb2 H3.out.lt)
 have hs2 := hb2.size
 have HS2 := xhd (show b0 + 1 + 1 + 1 ≤ w2.heap.size by have := HS1.out; omega)
 clear hb2 H1 H2 H3 HK1 HS1 hs2 ho0 ht0 hr0 R0
 simp only [Pure.W4.list, List.map_cons, List.map_nil]
 go_upto_region 3 with fail
 obtain ⟨w3, hw3⟩ : ∃ w3, w3 = w2.alloc (.cells #[.int .u32 (a1.toNat : Int), .int .u32 (b1.toNat : Int), .int .u32 (c1.toNat : Int), .int .u32 (d1.toNat : Int)] 238) := ⟨_, rfl⟩
 obtain ⟨b6, hb6⟩ : ∃ b6, b6 = w2.heap.size := ⟨_, rfl⟩
 rw [← hw3, ← hb6]
 have hV3 : Blk w3 b6 238 (u32s [a1, b1, c1, d1]).toArray := by rw [hw3, hb6]; exact Blk.new w2 _ _
 have hk3 : Keeps y01 w2 w3 := by rw [hw3]; exact (Keeps.refl _ w2).alloc _
 have H13 := xhd (H12.out.keeps hk3 (fun h => h))
 have H23 := xhd (H22.out.keeps hk3 (fun h => h))
 have H33 := xhd (H32.out.keeps hk3 (fun h => h))
 have HV3 := xhd hV3
 have HK3 := xhd (Below.quiet HK2.out hk3 HK2.out.size)
 have hb62 : b0 + 1 + 1 < b6 := by have := HS2.out; omega
 have ho1 := orders_1
 have ht1 := turns_1
 clear hw3 hb6 hV3 hk3 H12 H22 H32 HK2 HS2
 apply wp_region_lit
 refine wpList_plain rfl (fun K hK => ?_)
 go_simp
 refine hK _ _ ?_
 clear hK K
 refine wpList_load_row rfl 238 (.tmp 6) rfl b6 rfl 238 _ (0, 0) _ HV3.out Tryz.underlying238 rfl (by rw [y0h]; rfl) ?_
 go_wp2_with fail
 have hr1 := R1.out (b0 + 1) w3 H23.out
 obtain ⟨a2, b2, c2, d2⟩ := V2
 refine hr1.mono ?_
 rintro e w4 ⟨rfl, hb4⟩
 have HK4 := xhd (HK3.out.trans (hb4.mono HK3.out.size))
 have H14 := xhd (H13.out.below hb4 H13.out.lt)
 have H24 := xhd (H23.out.below hb4 H23.out.lt)
 have H34 := xhd (H33.out.below hb4 H33.out.lt)
 have hV4 := HV3.out.below hb4 HV3.out.lt
 have HV4 := xhd hV4
 have k0 : w4.cell? ⟨b6, 0, none⟩ = some (.int .u32 a1.toNat) := by rw [hV4.cell]; rfl
 have k1 : w4.cell? ⟨b6, 1, none⟩ = some (.int .u32 b1.toNat) := by rw [hV4.cell]; rfl
 have k2 : w4.cell? ⟨b6, 2, none⟩ = some (.int .u32 c1.toNat) := by rw [hV4.cell]; rfl
 have k3 : w4.cell? ⟨b6, 3, none⟩ = some (.int .u32 d1.toNat) := by rw [hV4.cell]; rfl
 have f0 : w4.frozen? ⟨b6, 0, none⟩ = false := hV4.frozen 0
 have f1 : w4.frozen? ⟨b6, 1, none⟩ = false := hV4.frozen 1
 have f2 : w4.frozen? ⟨b6, 2, none⟩ = false := hV4.frozen 2
 have f3 : w4.frozen? ⟨b6, 3, none⟩ = false := hV4.frozen 3
 clear hb4 H13 H23 H33 HV3 HK3 ho1 ht1 hr1 R1 hV4
 simp only [Pure.W4.list, List.map_cons, List.map_nil]
 go_upto_region 4 with fail
 obtain ⟨w5, hw5⟩ : ∃ w, w = ((((w4.setCell ⟨b6, 0, none⟩ (.int .u32 (a2.toNat : Int))).setCell ⟨b6, 1, none⟩ (.int .u32 (b2.toNat : Int))).setCell ⟨b6, 2, none⟩ (.int .u32 (c2.toNat : Int))).setCell ⟨b6, 3, none⟩ (.int .u32 (d2.toNat : Int))) := ⟨_, rfl⟩
 rw [← hw5]
 have hVw5 : Blk w5 b6 238 (u32s [a2, b2, c2, d2]).toArray := by
  rw [hw5]
  have := ((((HV4.out.set 0 (.int .u32 (a2.toNat : Int))).set 1 (.int .u32 (b2.toNat : Int))).set 2 (.int .u32 (c2.toNat : Int))).set 3 (.int .u32 (d2.toNat : Int)))
  exact this
 have hkw5 : Keeps (only b6) w4 w5 := by
  rw [hw5]
  exact ((((Keeps.refl _ w4).store b6 0 (fun _ => y0p b6) _).store b6 1 (fun _ => y0p b6) _).store b6 2 (fun _ => y0p b6) _).store b6 3 (fun _ => y0p b6) _
 have H15 := xhd (H14.out.keeps hkw5 (fun e => by have e : b0 = b6 := e; omega))
 have H25 := xhd (H24.out.keeps hkw5 (fun e => by have e : b0 + 1 = b6 := e; omega))
 have H35 := xhd (H34.out.keeps hkw5 (fun e => by have e : b0 + 1 + 1 = b6 := e; omega))
 have HV5 := xhd hVw5
 have HK5 := xhd (Below.keeps HK4.out hkw5 HK4.out.size (fun i hi => by have hi : i = b6 := hi; have := HB0.out; omega))
 have ho2 := orders_2
 have ht2 := turns_2
 clear hw5 hVw5 hkw5 H14 H24 H34 HK4 HV4 k0 k1 k2 k3 f0 f1 f2 f3
 apply wp_region_lit
 refine wpList_plain rfl (fun K hK => ?_)
 go_simp
 refine hK _ _ ?_
 clear hK K
 refine wpList_load_row rfl 238 (.tmp 6) rfl b6 rfl 238 _ (0, 0) _ HV5.out Tryz.underlying238 rfl (by rw [y0h]; rfl) ?_
 go_wp2_with fail
 have hr2 := R2.out (b0 + 1) w5 H25.out
 obtain ⟨a3, b3, c3, d3⟩ := V3
 refine hr2.mono ?_
 rintro e w6 ⟨rfl, hb6⟩
 have HK6 := xhd (HK5.out.trans (hb6.mono HK5.out.size))
 have H16 := xhd (H15.out.below hb6 H15.out.lt)
 have H36 := xhd (H35.out.below hb6 H35.out.lt)
 have hV6 := HV5.out.below hb6 HV5.out.lt
 have HV6 := xhd hV6
 have f0 : w6.frozen? ⟨b6, 0, none⟩ = false := hV6.frozen 0
 have f1 : w6.frozen? ⟨b6, 1, none⟩ = false := hV6.frozen 1
 have f2 : w6.frozen? ⟨b6, 2, none⟩ = false := hV6.frozen 2
 have f3 : w6.frozen? ⟨b6, 3, none⟩ = false := hV6.frozen 3
 have k0 : w6.cell? ⟨b6, 0, none⟩ = some (.int .u32 a2.toNat) := by rw [hV6.cell]; rfl
 have k1 : w6.cell? ⟨b6, 1, none⟩ = some (.int .u32 b2.toNat) := by rw [hV6.cell]; rfl
 have k2 : w6.cell? ⟨b6, 2, none⟩ = some (.int .u32 c2.toNat) := by rw [hV6.cell]; rfl
 have k3 : w6.cell? ⟨b6, 3, none⟩ = some (.int .u32 d2.toNat) := by rw [hV6.cell]; rfl
 clear hb6 H15 H25 H35 HV5 HK5 ho2 ht2 hr2 R2 hV6
 simp only [Pure.W4.list, List.map_cons, List.map_nil]
 go_upto_region 5 with fail
 obtain ⟨w7, hw7⟩ : ∃ w, w = ((((w6.setCell ⟨b6, 0, none⟩ (.int .u32 (a3.toNat : Int))).setCell ⟨b6, 1, none⟩ (.int .u32 (b3.toNat : Int))).setCell ⟨b6, 2, none⟩ (.int .u32 (c3.toNat : Int))).setCell ⟨b6, 3, none⟩ (.int .u32 (d3.toNat : Int))) := ⟨_, rfl⟩
 rw [← hw7]
 have hVw7 : Blk w7 b6 238 (u32s [a3, b3, c3, d3]).toArray := by
  rw [hw7]
  have := ((((HV6.out.set 0 (.int .u32 (a3.toNat : Int))).set 1 (.int .u32 (b3.toNat : Int))).set 2 (.int .u32 (c3.toNat : Int))).set 3 (.int .u32 (d3.toNat : Int)))
  exact this
 have hkw7 : Keeps (only b6) w6 w7 := by
  rw [hw7]
  exact ((((Keeps.refl _ w6).store b6 0 (fun _ => y0p b6) _).store b6 1 (fun _ => y0p b6) _).store b6 2 (fun _ => y0p b6) _).store b6 3 (fun _ => y0p b6) _
 have H17 := xhd (H16.out.keeps hkw7 (fun e => by have e : b0 = b6 := e; omega))
 have H37 := xhd (H36.out.keeps hkw7 (fun e => by have e : b0 + 1 + 1 = b6 := e; omega))
 have HV7 := xhd hVw7
 have HK7 := xhd (Below.keeps HK6.out hkw7 HK6.out.size (fun i hi => by have hi : i = b6 := hi; have := HB0.out; omega))
 clear hw7 hVw7 hkw7 H16 H36 HK6 HV6 k0 k1 k2 k3 f0 f1 f2 f3
 go_wp2_with fail
 go_loopw [24] (fun i wr => ∃ q : Nat, q ≤ 4 ∧ i = .int .i64 (q : Int) ∧ Blk wr b0 238 (u32s (Pure.sumTo h ⟨a3, b3, c3, d3⟩ q)).toArray ∧ Keeps (only b0) w7 wr) (fun i _ => 4 - (intOf i).toNat)
 case atStart => exact ⟨0, by omega, rfl, by rw [Pure.sumTo_zero]; exact H17.out, Keeps.refl _ w7⟩
 case round =>
  clear H17
  obtain ⟨q, hq, rfl, hS, hK⟩ := hrel
  by_cases hql : q < 4
  ·have hi0 : (0 : Int) ≤ (q : Int) := by omega
   have hi1 : (q : Int) < 4 := by omega
   have hV := HV7.out.keeps hK (fun e => by have e : b6 = b0 := e; omega)
   have HK := xhd hK
   have hnext := Pure.sumTo_succ h ⟨a3, b3, c3, d3⟩ q hql
   obtain ⟨S, hSS⟩ : ∃ S, S = Pure.sumTo h ⟨a3, b3, c3, d3⟩ q := ⟨_, rfl⟩
   have hS4 : S.length = 4 := by rw [hSS]; rfl
   rw [← hSS] at hS hnext
   obtain ⟨L, hL⟩ : ∃ L, L = Pure.W4.list ⟨a3, b3, c3, d3⟩ := ⟨_, rfl⟩
   have hL4 : L.length = 4 := by rw [hL]; rfl
   have hV : Blk wr b6 238 (u32s (Pure.W4.list ⟨a3, b3, c3, d3⟩)).toArray := hV
   rw [← hL] at hV hnext
   obtain ⟨y, hy⟩ : ∃ y, y = S.getD q 0 := ⟨_, rfl⟩
   obtain ⟨z, hz⟩ : ∃ z, z = L.getD q 0 := ⟨_, rfl⟩
   have k0 : wr.cell? ⟨b0, q, none⟩ = some (.int .u32 y.toNat) := by rw [hS.cell, hy, ← y19 S q (by omega)]; simp
   have k1 : wr.cell? ⟨b6, q, none⟩ = some (.int .u32 z.toNat) := by rw [hV.cell, hz, ← y19 L q (by omega)]; simp
   have f0 : wr.frozen? ⟨b0, q, none⟩ = false := hS.frozen q
   obtain ⟨s, hs⟩ : ∃ s, s = y + z := ⟨_, rfl⟩
   have a1 := y13 y z
   rw [← hs] at a1
   rw [← hy, ← hz, ← hs] at hnext
   have HS := xhd hS
   have HN := xhd hnext
   have A1 := xhd a1
   clear hV hK hSS hS4 hL hL4 hy hz hs hS hnext a1
   go_wp2_with fail
   go_region
   go_wp2_with fail
   go_roundw
   case rel =>
    refine ⟨q + 1, by omega, by go_num, ?_, ?_⟩
    ·rw [HN.out, ← y36, A1.out]
     exact (HS.out.set q _).drew
    ·exact (HK.out.store b0 q (fun _ => y0p b0) _).drew
   case measure => simp [intOf]; omega
  ·have hqq : q = 4 := by omega
   subst hqq
   have hR := H37.out.keeps hK (fun e => by have e : b0 + 1 + 1 = b0 := e; omega)
   rw [Pure.sumTo_four] at hS
   have HS := xhd hS
   have HR := xhd hR
   have HK := xhd hK
   clear hS hK hR hq hql
   go_upto_region 10 with fail
   apply wp_region_lit
   refine wpList_load_row rfl 238 (.tmp 2) rfl b0 rfl 238 _ (0, 0) _ HS.out Tryz.underlying238 rfl (by rw [y0h]; rfl) ?_
   refine wpList_store_row rfl 238 (.tmp 4) (.tmp 36) rfl (b0 + 1 + 1) _ rfl rfl 238 _ HR.out (by rw [y0h]; rfl) rfl (y1a _) ?_
   obtain ⟨w9, hw9⟩ : ∃ w9, w9 = wr.setRow (b0 + 1 + 1) (u32s [h.a + a3, h.b + b3, h.c + c3, h.d + d3]).toArray := ⟨_, rfl⟩
   have hb9 : Blk w9 (b0 + 1 + 1) 238 (u32s [h.a + a3, h.b + b3, h.c + c3, h.d + d3]).toArray := by rw [hw9]; exact Blk.rowSet HR.out _
   have hk9 : Below w.heap.size w w9 := by
    rw [hw9]
    have h1 := Below.keeps HK7.out HK.out HK7.out.size (fun i hi => by have hi : i = b0 := hi; have := HB0.out; omega)
    exact below_setRow h1 (by have := HB0.out; omega) _
   have HB9 := xhd hb9
   have HK9 := xhd hk9
   have e9 : wr.setRow (b0 + 1 + 1) (u32s (Pure.W4.list ⟨h.a + a3, h.b + b3, h.c + c3, h.d + d3⟩)).toArray = w9 := hw9.symm
   rw [e9]
   clear hw9 hb9 hk9 e9
   go_wp2
   refine bodyPost_ret (results_cell_row rfl _ _ (b0 + 1 + 1) 238 _ (0, 0) _ rfl HB9.out Tryz.underlying238 rfl (by rw [y0h]; rfl)) rfl ?_
   exact ⟨rfl, HK9.out⟩
theorem block_any (x : List UInt32) (hx : x.length = 16) (h : Pure.W4) (w : World) :
  Calls Tryz.prog 183 #[warr h.list, warr x] w
   fun e w' => e = .returned (warr (Pure.md4Blk x h).list) ∧ Below w.heap.size w w' :=
 block_gen x hx h (Pure.md4Steps x h 16) (Pure.md4Steps x h 32) (Pure.md4Steps x h 48) (fun bx w hB => rnd_0 bx x hx h w hB) (fun bx w hB => rnd_1 bx x hx h w hB) (fun bx w hB => rnd_2 bx x hx h w hB) w
theorem after_list (x s : List UInt32) (w : World) (hx : x.length = 16) (hs : s.length = 4) :
  Calls Tryz.prog 183 #[warr s, warr x] w fun e w' => e = .returned (warr (Pure.md4Of x s)) ∧ Below w.heap.size w w' := by
 have h := block_any x hx (Pure.w4of s) w
 rw [Pure.w4of_list s hs] at h
 exact h
theorem made_cells {z : Array Value} (hz : z = #[.int .u8 0]) (n : Nat) : (madeCells z (n * 1)).toList = u8s (List.replicate n 0) := by
 subst hz
 simp only [madeCells, Nat.mul_one]
 apply List.ext_getElem?
 intro i
 rw [Array.toList_map, List.getElem?_map, List.getElem?_map]
 by_cases h : i < n
 ·simp [h, Nat.mod_one]
 ·simp [h]
theorem own_set {w : World} {base : Nat} {e : TypeId} {b n c k : Nat} {l : List UInt8} (h : w.ownsRow base e 1 (.slice (some ⟨b, 0, none⟩) n c) n (u8s l)) (x : UInt8) :
  (w.setCell ⟨b, k, none⟩ (.int .u8 x.toNat)).ownsRow base e 1 (.slice (some ⟨b, 0, none⟩) n c) n (u8s (l.set k x)) := by
 obtain ⟨h1, h2⟩ := h
 refine ⟨by simpa using h1, ?_⟩
 rcases h2 with ⟨e, _⟩ | ⟨g, cap, cur, e, hg, hh, h3, h4, h5, h6⟩
 ·cases e
 ·injection e with e1 e2 e3
  injection e1 with e1
  injection e1 with e1
  subst e1 e3
  have hb : Blk w b _ cur := hh
  refine .inr ⟨b, c, _, rfl, hg, hb.set k (.int .u8 x.toNat), h3, h4, by simpa using h5, ?_⟩
  rw [Array.toList_setIfInBounds, List.take_set, h6]
  simp [List.map_set]
theorem set_next (l : List UInt8) (n : Nat) (k : Nat) (hk : l.length = k) (hn : k < n) (V : UInt8) : (l ++ List.replicate (n - k) 0).set k V = (l ++ [V]) ++ List.replicate (n - (k + 1)) 0 := by
 subst hk
 have e : n - l.length = (n - (l.length + 1)) + 1 := by omega
 rw [e, List.replicate_succ, List.set_append_right _ _ (Nat.le_refl _), Nat.sub_self, xqF, List.append_assoc]
 rfl
theorem own_frozen {w : World} {base : Nat} {e : TypeId} {b n c : Nat} {xs : List Value} (h : w.ownsRow base e 1 (.slice (some ⟨b, 0, none⟩) n c) n xs) (k : Nat) : w.frozen? ⟨b, k, none⟩ = false := by
 rcases h.2 with ⟨e, _⟩ | ⟨g, cap, cur, e, _, hh, _⟩
 ·cases e
 ·injection e with e1 _ _
  injection e1 with e1
  injection e1 with e1
  subst e1
  have hb : Blk w b _ cur := hh
  exact hb.frozen k
theorem own_at {w : World} {base : Nat} {e : TypeId} {b n c : Nat} {l : List UInt8} (h : w.ownsRow base e 1 (.slice (some ⟨b, 0, none⟩) n c) n (u8s l)) (k : Nat) (hk : k < l.length) : w.cell? ⟨b, k, none⟩ = some (.int .u8 ((l.getD k 0).toNat)) := by
 obtain ⟨b', e, _, hc⟩ := own_cell h (by have := h.1; simp at this; omega)
 injection e with e
 injection e with e
 subst e
 exact hc k _ (y28 l k hk)
theorem y6r (high : Bool) (i n : Nat) (hi : i < n) (hn : n ≤ 8) (w : World) :
  Calls Tryz.prog 242 #[.int .i64 (i : Int), .int .i64 (n : Int), .bool high] w fun e w' => ∃ s : Nat, e = .returned (.int .i64 (s : Int)) ∧ Pure.shiftOf high i n = s ∧ w' = w := by
 have h0 : (0 : Int) ≤ (i : Int) := by omega
 have h1 : (i : Int) < (n : Int) := by omega
 have h2 : (n : Int) ≤ 8 := by omega
 cases high
 ·go_enter Tryz.func242, Tryz.ntmps242
  go_wp2
  go_ret
  exact ⟨8 * i, by go_num, rfl, rfl⟩
 ·go_enter Tryz.func242, Tryz.ntmps242
  go_wp2
  go_ret
  exact ⟨8 * (n - 1 - i), by go_num, rfl, rfl⟩
theorem y4s (high : Bool) (v n : Nat) (hv : v < 18446744073709551616) (hn : n ≤ 8) (h1 : 0 < n) (w : World) :
  Calls Tryz.prog 215 #[.int .u64 (v : Int), .int .i64 (n : Int), .bool high] w fun e w' => ∃ u, e = .returned u ∧ w'.ownsRow w.heap.size 5 1 u n (u8s (Pure.bytesOf high v n n)) ∧ Below w.heap.size w w' := by
 obtain ⟨i0, hi0, hz0, hz1, hz2⟩ := info_parts y1w
 have I := xhd (And.intro hi0 (And.intro hz0 (And.intro hz1 hz2)))
 clear hi0 hz0 hz1 hz2
 go_enter Tryz.func215, Tryz.ntmps215
 go_wp2_with (at_make; refine y0d ?_)
 unfold Hid
 obtain ⟨hi0, hz0, hz1, hz2⟩ := I.out
 refine wpList_make_full _ rfl _ _ 29 rfl w.heap.size 5 i0 _ 1 Tryz.underlying29 hi0 hz0 hz1 .i64 .i64 _ _ n rfl rfl (by omega) (by omega) (by rw [hz2]; omega) (by unfold maxLen; omega) (Nat.le_refl _) ?_
 intro w0 hown0 hg0
 rw [show (Value.int .u8 0).cells = #[.int .u8 0] from rfl, made_cells rfl] at hown0
 have O0 := xhd hown0
 have HK0 := xhd (Keeps.new (Below.grown (Below.refl _ w) hg0 (Nat.le_refl _) (by simp)))
 clear hown0 hg0 hi0 hz0 hz1 hz2 I
 go_wp2_with fail
 go_loopw [13] (fun i wr => ∃ k : Nat, k ≤ n ∧ i = .int .i64 (k : Int) ∧
  wr.ownsRow w.heap.size 5 1 (.slice (some ⟨w.heap.size, 0, none⟩) n n) n (u8s (Pure.bytesOf high v n k ++ List.replicate (n - k) 0)) ∧ Keeps y01 w wr) (fun i _ => n - (intOf i).toNat)
 case atStart => exact ⟨0, by omega, rfl, by simpa [Pure.bytesOf] using O0.out, HK0.out⟩
 case round =>
  clear O0 HK0
  obtain ⟨k, hk, rfl, hW, hK⟩ := hrel
  have HW := xhd hW
  have HK := xhd hK
  by_cases hkl : k < n
  ·have hi0 : (0 : Int) ≤ (k : Int) := by omega
   have hi1 : (k : Int) < (n : Int) := by omega
   have hk8 : k < 8 := by omega
   have HV := xhd hv
   have hfr := own_frozen hW k
   have hat := own_at hW k (by simp [Pure.bytesOf_length]; omega)
   obtain ⟨Y, hY⟩ : ∃ Y, Y = ((Pure.bytesOf high v n k ++ List.replicate (n - k) 0).getD k 0) := ⟨_, rfl⟩
   rw [← hY] at hat
   clear hW hK hY
   go_wp2_with fail
   refine (y6r high k n hkl hn wr).mono ?_
   rintro e w' ⟨s, rfl, hs, rfl⟩
   have hb := byteAt_int high v n k s hs
   obtain ⟨X, hX⟩ : ∃ X, X = Pure.byteAt high v n k := ⟨_, rfl⟩
   rw [← hX] at hb
   have HX := xhd hX
   have hs0 : (0 : Int) ≤ (s : Int) := by omega
   have hs1 : (s : Int) < 64 := by
    have : s < 64 := by rw [← hs]; unfold Pure.shiftOf; split <;> omega
    omega
   clear hX hs
   go_wp2_with fail
   go_roundw
   case rel =>
    refine ⟨k + 1, by omega, by go_num, ?_, ?_⟩
    ·have h1 := own_set HW.out (k := k) X
     rw [set_next _ n k (Pure.bytesOf_length high v n k) hkl, HX.out, ← Pure.bytesOf_succ] at h1
     rw [HX.out]
     exact h1
    ·exact HK.out.store w.heap.size k (fun h => by omega) _
   case measure => simp [intOf]; omega
  ·have hkk : k = n := by omega
   subst hkk
   clear hW hK hkl hk
   go_wp2
   go_ret
   refine ⟨_, rfl, ?_, HK.out.to_below⟩
   have := HW.out
   simpa using this
theorem join_any (high : Bool) (F : Nat → Prop) (x : Value) (bs : List UInt8) (hl : bs.length ≤ 4) (w : World) (hr : Row w F 1 x bs.length (u8s bs)) :
  Calls Tryz.prog 241 #[x, .bool high] w fun e w' => e = .returned (.int .u32 (Pure.joinTo high bs bs.length).toNat) ∧ w' = w := by
 obtain ⟨A, cA, rfl, hc⟩ := hr.form
 have HR := xhd hr
 clear hr
 go_enter Tryz.func241, Tryz.ntmps241
 go_wp2_with fail
 go_loopw [5, 10] (fun s i wr => ∃ k : Nat, k ≤ bs.length ∧ i = .int .i64 (k : Int) ∧ s = .int .u32 (Pure.joinTo high bs k).toNat ∧ wr = w) (fun _ i _ => bs.length - (intOf i).toNat)
 case atStart => exact ⟨0, by omega, rfl, rfl, rfl⟩
 case round =>
  obtain ⟨k, hk, rfl, rfl, rfl⟩ := hrel
  by_cases hkl : k < bs.length
  ·have hi0 : (0 : Int) ≤ (k : Int) := by omega
   have hi1 : (k : Int) < (bs.length : Int) := by omega
   have hk4 : k < 4 := by omega
   obtain ⟨b, off, rfl, _, hcx⟩ := HR.out.cellAt (by omega)
   have c1 := hcx k _ (y28 bs k hkl)
   obtain ⟨B, hB⟩ : ∃ B : UInt8, B = bs.getD k 0 := ⟨_, rfl⟩
   rw [← hB] at c1
   obtain ⟨V, hV⟩ : ∃ V, V = Pure.joinTo high bs k := ⟨_, rfl⟩
   rw [← hV]
   have HB := xhd hB
   have HV := xhd hV
   obtain ⟨L, hL⟩ : ∃ L, L = bs.length := ⟨_, rfl⟩
   have HL := xhd hL
   have hkl' : k < L := by omega
   have hi1 : (k : Int) < (L : Int) := by omega
   rw [← hL] at hc ⊢
   clear hcx hB hV HR hL
   go_wp2_with fail
   refine (y6r high k L hkl' (by have := HL.out; omega) _).mono ?_
   rintro e w' ⟨s, rfl, hs, rfl⟩
   have hs3 : s < 32 := by
    have := HL.out
    rw [← hs]
    unfold Pure.shiftOf
    split <;> omega
   have hs0 : (0 : Int) ≤ (s : Int) := by omega
   have hs1 : (s : Int) < 32 := by omega
   obtain ⟨Y, hY⟩ : ∃ Y : UInt32, Y = B.toUInt32 <<< UInt32.ofNat s := ⟨_, rfl⟩
   have hBl := B.toNat_lt
   have hv0 : (B.toNat : Int) % 4294967296 = (B.toNat : Int) := Int.emod_eq_of_lt (by omega) (by omega)
   have hv1 : (B.toNat : Int) * 2 ^ s % 4294967296 = (Y.toNat : Int) := by rw [hY, ← y6b _ _ hs3, wide_u8]
   obtain ⟨Z, hZ⟩ : ∃ Z : UInt32, Z = V ||| Y := ⟨_, rfl⟩
   have hv2 := y23 V Y
   rw [← hZ] at hv2
   have hnext : Pure.joinTo high bs (k + 1) = Z := by
    rw [hZ, hY, HV.out, HB.out, ← hs, HL.out]
    rfl
   have HN := xhd hnext
   clear hY hZ hnext hs
   go_wp2_with fail
   go_roundw
   case rel => exact ⟨k + 1, by have := HL.out; omega, by go_num, by rw [HN.out], trivial⟩
   case measure => simp [intOf]; omega
  ·have hkk : k = bs.length := by omega
   subst hkk
   go_wp2
   go_ret
   exact ⟨rfl, rfl⟩
theorem clone_any (F : Nat → Prop) (x : Value) (n : Nat) (l : List UInt8) (w : World) (hr : Row w F 1 x n (u8s l)) (hn : n ≤ 140737488355328) :
  Calls Tryz.prog 239 #[x] w fun e w' => ∃ v, e = .returned v ∧ w'.ownsRow w.heap.size 5 1 v n (u8s l) ∧ Below w.heap.size w w' := by
 obtain ⟨i0, hi0, hz0, hz1, hz2⟩ := info_parts y1w
 have hr' := hr
 obtain ⟨hl, hm, A, c, rfl, hc, hA, hcell⟩ := hr
 rcases A with _ | ad
 ·obtain rfl := hA rfl
  have hl0 : u8s l = [] := List.eq_nil_of_length_eq_zero (by simpa using hl)
  clear hcell hA hl
  have hq := fun (W : World) => Lib.run_eql_slice_nil (P := Tryz.prog) W 29 5 none 0 c 0 0 Tryz.underlying29
  go_enter Tryz.func239, Tryz.ntmps239
  go_wp2
  go_ret
  refine ⟨_, rfl, ⟨by rw [hl0]; rfl, .inl ⟨rfl, rfl⟩⟩, Below.refl _ _⟩
 ·have HL := xhd hl
  have hbw : Row (w.alloc (.cells #[] 5)) F 1 (.slice (some ad) n c) n (u8s l) :=
   hr'.cellsOf fun b off u _ hu => (World.cell?_alloc_lt w _ ⟨b, off, none⟩ (y0l hu)).trans hu
  clear hl hcell hA hr'
  have hq := fun (W : World) => Lib.run_eql_slice_nil (P := Tryz.prog) W 29 5 (some ad) n c 0 0 Tryz.underlying29
  go_enter Tryz.func239, Tryz.ntmps239
  go_wp2_with (at_builtin; refine y0d ?_)
  unfold Hid
  refine y0r rfl (.tmp 5) (.tmp 6) _ rfl w.heap.size 5 i0 _ 1 1 Tryz.underlying29 hi0 hz0 hz1 hz2 rfl (by omega) (.slice (some ⟨w.heap.size, 0, none⟩) 0 0) 0 []
   rfl (y3j _ _ _ _ (Nat.le_refl _)) F _ n (u8s l) rfl hbw (y2r l) (by omega) (by omega) (by simp) ?_
  intro v1 w1 hown1 hg1 hat1
  go_wp2
  go_ret
  refine ⟨v1, rfl, by simpa using hown1, ((Below.refl _ _).alloc (Nat.le_refl _) _).grown hg1 (by simp) ?_⟩
  intro k hk
  simp [Value.ownBlock] at hk
  omega
theorem y1x : (Tryz.prog.info? 289).map (·.size) = some 16 := by kernel_rfl
theorem padded_any (high : Bool) (F : Nat → Prop) (x : Value) (bs : List UInt8) (L : Nat) (hL : bs.length % 64 = L % 64) (hL2 : L ≤ 100000000) (hl : bs.length ≤ 64) (w : World) (hr : Row w F 1 x bs.length (u8s bs)) :
  Calls Tryz.prog 207 #[x, .int .i64 (L : Int), .bool high] w fun e w' => ∃ u, e = .returned u ∧
   w'.ownsRow w.heap.size 5 1 u (bs.length + 1 + Pure.noughts bs.length + 8) (u8s (bs ++ [128] ++ List.replicate (Pure.noughts bs.length) 0 ++ Pure.lenBytes (!high) L 8)) ∧ Below w.heap.size w w' := by
 obtain ⟨A, cA, rfl, hc⟩ := hr.form
 have HC := xhd (clone_any F _ bs.length bs w hr (by omega))
 clear hr
 go_enter Tryz.func207, Tryz.ntmps207
 go_wp2_with fail
 refine HC.out.mono ?_
 rintro e w1 ⟨u, rfl, hu, hb1⟩
 have HU := xhd hu
 have HB := xhd hb1
 clear HC hu hb1
 go_wp2_with (at_builtin; refine y0d ?_)
 unfold Hid
 have hsz := HB.out.size
 refine y0n rfl (.tmp 9) (.tmp 10) rfl w.heap.size u bs.length bs rfl rfl (y0z HU.out (World.grownBy_alloc w1 _ none) (by simp)) _ _ [128] rfl (new1 w1 128) (by simp; omega) (by simp; omega) ?_
 intro v2 w2 hown2 hg2 hat2
 have HO2 := xhd hown2
 have HB2 := xhd (show Below w.heap.size w w2 from ((HB.out.alloc hsz _).grown hg2 (by simp; omega) (fun k hk => y06 HU.out k hk)))
 clear HU HB hown2 hg2 hat2
 go_wp2_with fail
 go_loopw [7] (fun v wr => ∃ k : Nat, k ≤ Pure.noughts bs.length ∧ wr.ownsRow w.heap.size 5 1 v (bs.length + 1 + k) (u8s (bs ++ [128] ++ List.replicate k 0)) ∧ Below w.heap.size w wr) (fun v _ => bs.length + 1 + Pure.noughts bs.length - lenOf v)
 case atStart => exact ⟨0, by omega, by simpa using HO2.out, HB2.out⟩
 case round =>
  clear HO2 HB2
  obtain ⟨k, hk, hW, hK⟩ := hrel
  have HW := xhd hW
  have HK := xhd hK
  obtain ⟨A, c, rfl⟩ := y04 HW.out
  clear hW hK
  have hno : Pure.noughts bs.length < 64 := by unfold Pure.noughts; omega
  by_cases hkl : k < Pure.noughts bs.length
  ·have hne := Pure.noughts_least bs.length k hkl
   obtain ⟨N, hN⟩ : ∃ N, N = bs.length + 1 + k := ⟨_, rfl⟩
   rw [← hN] at HW hne ⊢
   have hN2 : N ≤ 200000000 := by omega
   have hm : ((N : Int) % 64 != 56) = true := by rw [bne_iff_ne]; omega
   have HN := xhd hN
   clear hN hne
   have hsz := HK.out.size
   go_wp2_with (at_builtin; refine y0d ?_)
   unfold Hid
   refine y0n rfl (.tmp 16) (.tmp 17) rfl w.heap.size (.slice A N c) N (bs ++ [128] ++ List.replicate k 0) (by simp; have := HN.out; omega) rfl (y0z HW.out (World.grownBy_alloc wr _ none) (by simp)) _ _ [0] rfl (new1 wr 0) (by simp; omega) (by simp; omega) ?_
   intro v3 w3 hown3 hg3 hat3
   have HO3 := xhd hown3
   have HB3 := xhd (show Below w.heap.size w w3 from ((HK.out.alloc hsz _).grown hg3 (by simp; omega) (fun k hk => y06 HW.out k hk)))
   clear hown3 hg3 hat3
   go_wp2_with fail
   go_roundw
   case rel =>
    refine ⟨k + 1, by omega, ?_, HB3.out⟩
    have h3 := HO3.out
    have e1 : (bs ++ [128] ++ List.replicate k 0 ++ [0]) = bs ++ [128] ++ List.replicate (k + 1) 0 := by rw [List.append_assoc _ (List.replicate k 0), List.replicate_succ']
    rw [e1] at h3
    have e2 : (bs ++ [128] ++ List.replicate (k + 1) 0).length = bs.length + 1 + (k + 1) := by simp; omega
    rw [e2] at h3
    exact h3
   case measure =>
    have h3 := HO3.out
    obtain ⟨A3, c3, rfl⟩ := y04 h3
    have := HN.out
    simp [lenOf]
    omega
  ·have hkk : k = Pure.noughts bs.length := by omega
   subst hkk
   have hsp := Pure.noughts_spec bs.length
   obtain ⟨N, hN⟩ : ∃ N, N = bs.length + 1 + Pure.noughts bs.length := ⟨_, rfl⟩
   rw [← hN] at HW hsp ⊢
   have hN2 : N ≤ 200000000 := by omega
   have hm : ((N : Int) % 64 != 56) = false := by
    have : (N : Int) % 64 = 56 := by omega
    rw [this]; rfl
   have HN := xhd hN
   obtain ⟨base, hbase⟩ : ∃ base, base = bs ++ [128] ++ List.replicate (Pure.noughts bs.length) 0 := ⟨_, rfl⟩
   have HBase := xhd hbase
   have hlb : base.length = N := by rw [hbase, hN]; simp; omega
   rw [← hbase] at HW
   have HL := xhd hlb
   have hsp2 := y4s high (8 * L) 8 (by omega) (by omega) (by omega) wr
   push_cast at hsp2
   have HSP := xhd hsp2
   clear hN hsp hsp2 hbase hlb hkl hk hno hL
   have hL0 : (0 : Int) ≤ (L : Int) := by omega
   have hL3 : (L : Int) ≤ 100000000 := by omega
   go_wp2_with fail
   refine HSP.out.mono ?_
   rintro e w5 ⟨u5, rfl, hu5, hb5⟩
   have hsz := HK.out.size
   have HU5 := xhd hu5
   have HB5 := xhd hb5
   have HW5 := xhd (y0g HW.out (Keeps.new hb5) (fun _ _ h => h))
   have HK5 := xhd (HK.out.trans (hb5.mono hsz))
   clear hu5 hb5 HSP HW HK
   go_wp2_with (at_builtin; refine y0d ?_)
   unfold Hid
   refine y0n rfl (.tmp 19) (.tmp 24) rfl w.heap.size (.slice A N c) N base HL.out rfl HW5.out _ u5 (Pure.bytesOf high (8 * L) 8 8) rfl (by rw [Pure.bytesOf_length]; exact Row.of_own HU5.out) (by rw [Pure.bytesOf_length]; omega) (by have := HB5.out.size; omega) ?_
   intro v3 w3 hown3 hg3 hat3
   have HO3 := xhd hown3
   have HB3 := xhd (show Below w.heap.size w w3 from (HK5.out.grown hg3 (by have := HB5.out.size; omega) (fun k hk => y06 HW5.out k hk)))
   clear hown3 hg3 hat3
   go_wp2
   go_ret
   refine ⟨_, rfl, ?_, HB3.out⟩
   have h3 := HO3.out
   rw [HBase.out, Pure.bytesOf_len] at h3
   have e2 : (bs ++ [128] ++ List.replicate (Pure.noughts bs.length) 0 ++ Pure.lenBytes (!high) L 8).length = bs.length + 1 + Pure.noughts bs.length + 8 := by simp [y0y]; omega
   rw [e2] at h3
   exact h3
theorem y9z (high : Bool) (F : Nat → Prop) (x : Value) (c : List UInt8) (hl : c.length = 64) (w : World) (hF : ∀ b, F b → b < w.heap.size) (hr : Row w F 1 x 64 (u8s c)) :
  Calls Tryz.prog 209 #[x, .bool high] w fun e w' => e = .returned (warr (Pure.wordsOf high c)) ∧ Below w.heap.size w w' := by
 obtain ⟨A, cA, rfl, hc⟩ := hr.form
 have HR := xhd hr
 have HF := xhd hF
 clear hr hF
 go_enter Tryz.func209, Tryz.ntmps209
 go_upto_region 2 with fail
 obtain ⟨b0, hb0⟩ : ∃ b0, b0 = w.heap.size := ⟨_, rfl⟩
 obtain ⟨w2, hw2⟩ : ∃ w2, w2 = (w.alloc (.cells (u32s (List.replicate 16 0)).toArray 289)).alloc (.cells (u32s (List.replicate 16 0)).toArray 289) := ⟨_, rfl⟩
 have e2 : (w.alloc (.cells #[.int .u32 0, .int .u32 0, .int .u32 0, .int .u32 0, .int .u32 0, .int .u32 0, .int .u32 0, .int .u32 0, .int .u32 0, .int .u32 0, .int .u32 0, .int .u32 0, .int .u32 0, .int .u32 0, .int .u32 0, .int .u32 0] 289)).alloc (.cells #[.int .u32 0, .int .u32 0, .int .u32 0, .int .u32 0, .int .u32 0, .int .u32 0, .int .u32 0, .int .u32 0, .int .u32 0, .int .u32 0, .int .u32 0, .int .u32 0, .int .u32 0, .int .u32 0, .int .u32 0, .int .u32 0] 289) = w2 := hw2.symm
 rw [e2, ← hb0]
 have hR : Blk w2 b0 289 (u32s (List.replicate 16 0)).toArray := by rw [hw2, hb0]; exact (Blk.new w _ _).alloc _
 have hX : Blk w2 (b0 + 1) 289 (u32s (Pure.wordsTo high c 0)).toArray := by
  rw [hw2, hb0, Pure.wordsTo_zero]
  have := Blk.new (w.alloc (.cells (u32s (List.replicate 16 0)).toArray 289)) 289 (u32s (List.replicate 16 0)).toArray
  rw [World.size_alloc] at this
  exact this
 have hk2 : Keeps y01 w w2 := by rw [hw2]; exact ((Keeps.refl _ w).alloc _).alloc _
 have HX := xhd hX
 have HRw := xhd hR
 have HK2 := xhd hk2
 have HB0 := xhd hb0
 clear hw2 e2 hR hX hk2 hb0
 go_wp2_with fail
 go_loopw [7] (fun i wr => ∃ q : Nat, q ≤ 16 ∧ i = .int .i64 (q : Int) ∧ Blk wr (b0 + 1) 289 (u32s (Pure.wordsTo high c q)).toArray ∧ Keeps (only (b0 + 1)) w2 wr) (fun i _ => 16 - (intOf i).toNat)
 case atStart => exact ⟨0, by omega, rfl, HX.out, Keeps.refl _ w2⟩
 case round =>
  clear HX
  obtain ⟨q, hq, rfl, hX, hK⟩ := hrel
  by_cases hql : q < 16
  ·have hi0 : (0 : Int) ≤ (q : Int) := by omega
   have hi1 : (q : Int) < 16 := by omega
   have hP := (HR.out.keeps HK2.out (fun _ _ h => h)).keeps hK (fun x hx e => by have e : x = b0 + 1 := e; have := HF.out x hx; have := HB0.out; omega)
   have k0 : wr.cell? ⟨b0 + 1, q, none⟩ = some (.int .u32 ((Pure.wordsTo high c q).getD q 0).toNat) := by rw [hX.cell, ← y19 _ q (by rw [Pure.wordsTo_length _ _ _ hq]; omega)]; simp
   obtain ⟨y, hy⟩ : ∃ y, y = (Pure.wordsTo high c q).getD q 0 := ⟨_, rfl⟩
   rw [← hy] at k0
   have f0 : wr.frozen? ⟨b0 + 1, q, none⟩ = false := hX.frozen q
   have hl4 : ((c.drop (4 * q)).take 4).length = 4 := by simp; omega
   obtain ⟨b, off, hA, hFb, _⟩ := HR.out.cellAt (by omega)
   subst hA
   have hJ := join_any high F (.slice (some ⟨b, off + 4 * q, none⟩) 4 (cA - 4 * q)) ((c.drop (4 * q)).take 4) (by omega) wr (by
    have := hP.cut1 (4 * q) 4 (by omega)
    rw [← List.map_drop, ← List.map_take] at this
    rw [hl4]
    simpa [y1k] using this)
   rw [hl4] at hJ
   obtain ⟨X, hX1⟩ : ∃ X, X = Pure.joinTo high ((c.drop (4 * q)).take 4) 4 := ⟨_, rfl⟩
   rw [← hX1] at hJ
   have HJ := xhd hJ
   have HX1 := xhd hX1
   have HXq := xhd hX
   have HK := xhd hK
   clear hX hK hP hy hl4 hJ hX1
   go_wp2_with fail
   rw [show 4 * (q + 1) - 4 * q = 4 by omega]
   refine HJ.out.mono ?_
   rintro e w3 ⟨rfl, rfl⟩
   clear HJ
   go_wp2_with fail
   go_roundw
   case rel =>
    refine ⟨q + 1, by omega, by go_num, ?_, ?_⟩
    ·rw [← Pure.wordsTo_succ high c q hql, ← HX1.out, ← y36]
     exact HXq.out.set q _
    ·exact HK.out.store (b0 + 1) q (fun _ => y0p (b0 + 1)) _
   case measure => simp [intOf]; omega
  ·have hqq : q = 16 := by omega
   subst hqq
   rw [Pure.wordsTo_all] at hX
   have hR := HRw.out.keeps hK (fun e => by have e : b0 = b0 + 1 := e; omega)
   have HX := xhd hX
   have HR2 := xhd hR
   have HK := xhd hK
   clear hX hK hR hql hq HRw
   go_upto_region 7 with fail
   apply wp_region_lit
   refine wpList_load_row rfl 289 (.tmp 5) rfl (b0 + 1) rfl 289 _ (0, 0) _ HX.out Tryz.underlying289 rfl (by rw [y1x]; simp [Pure.wordsOf_length]) ?_
   refine wpList_store_row rfl 289 (.tmp 4) (.tmp 22) rfl b0 _ rfl rfl 289 _ HR2.out (by rw [y1x]; simp [Pure.wordsOf_length]) (by simp [Pure.wordsOf_length]) (y1a _) ?_
   obtain ⟨w9, hw9⟩ : ∃ w9, w9 = wr.setRow b0 (u32s (Pure.wordsOf high c)).toArray := ⟨_, rfl⟩
   have hb9 : Blk w9 b0 289 (u32s (Pure.wordsOf high c)).toArray := by rw [hw9]; exact Blk.rowSet HR2.out _
   have hk9 : Below w.heap.size w w9 := by
    rw [hw9]
    have h1 := Below.keeps (Keeps.to_below HK2.out) HK.out HK2.out.size (fun i hi => by have hi : i = b0 + 1 := hi; have := HB0.out; omega)
    exact below_setRow h1 (by have := HB0.out; omega) _
   have HB9 := xhd hb9
   have HK9 := xhd hk9
   have e9 : wr.setRow b0 (u32s (Pure.wordsOf high c)).toArray = w9 := hw9.symm
   rw [e9]
   clear hw9 hb9 hk9 e9
   go_wp2
   refine bodyPost_ret (results_cell_row rfl _ _ b0 289 _ (0, 0) _ rfl HB9.out Tryz.underlying289 rfl (by rw [y1x]; simp [Pure.wordsOf_length])) rfl ?_
   exact ⟨rfl, HK9.out⟩
theorem bytes_any (high : Bool) (F : Nat → Prop) (x : Value) (l : List UInt32) (hl : l.length ≤ 8) (w : World) (hr : Row w F 1 x l.length (u32s l)) :
  Calls Tryz.prog 184 #[x, .bool high] w fun e w' => ∃ u, e = .returned u ∧ w'.ownsRow w.heap.size 5 1 u (4 * l.length) (u8s (Pure.wordBytes high l)) ∧ Below w.heap.size w w' := by
 obtain ⟨A, cA, rfl, hc⟩ := hr.form
 have HR := xhd hr
 clear hr
 obtain ⟨N, hN⟩ : ∃ N, N = l.length := ⟨_, rfl⟩
 rw [← hN] at hl ⊢
 have HN := xhd hN
 go_enter Tryz.func184, Tryz.ntmps184
 clear hN
 go_wp2_with fail
 go_loopw [5, 10] (fun v i wr => ∃ k : Nat, k ≤ N ∧ i = .int .i64 (k : Int) ∧ wr.ownsRow w.heap.size 5 1 v (4 * k) (u8s (Pure.wordBytes high (l.take k))) ∧ Below w.heap.size w wr) (fun _ i _ => N - (intOf i).toNat)
 case atStart => exact ⟨0, by omega, rfl, World.ownsRow_nil _ _ _ _, Below.refl _ w⟩
 case round =>
  obtain ⟨k, hk, rfl, hW, hK⟩ := hrel
  have HW1 := xhd hW
  have HK := xhd hK
  obtain ⟨A2, c2, rfl⟩ := y04 hW
  by_cases hkl : k < N
  ·have hi0 : (0 : Int) ≤ (k : Int) := by omega
   have hi1 : (k : Int) < (N : Int) := by omega
   obtain ⟨b, off, hA, _, hcx⟩ := (HR.out.keeps (Keeps.new hK) (fun _ _ h => h)).cellAt (by have := HN.out; omega)
   subst hA
   have c1 := hcx k _ (y19 l k (by have := HN.out; omega))
   obtain ⟨y, hy⟩ : ∃ y : UInt32, y = l.getD k 0 := ⟨_, rfl⟩
   rw [← hy] at c1
   have hyl := y.toNat_lt
   have hsp := y4s high y.toNat 4 (by omega) (by omega) (by omega) wr
   have HSP := xhd hsp
   have HY := xhd hy
   have hmod : (y.toNat : Int) % 18446744073709551616 = (y.toNat : Int) := Int.emod_eq_of_lt (by omega) (by omega)
   have hsz := HK.out.size
   clear hW hK hy hsp hcx
   go_wp2_with fail
   refine HSP.out.mono ?_
   rintro e w7 ⟨u7, rfl, hu7, hb7⟩
   have HU7 := xhd hu7
   have HO7 := xhd (y0g HW1.out (Keeps.new hb7) (fun _ _ h => h))
   have HK7 := xhd (HK.out.trans (hb7.mono hsz))
   have hsz7 := hb7.size
   clear hu7 hb7 HSP HW1 HK
   go_wp2_with (at_builtin; refine y0d ?_)
   unfold Hid
   have hlk : (l.take k).length = k := by rw [List.length_take]; have := HN.out; omega
   refine y0n rfl (.tmp 14) (.tmp 18) rfl w.heap.size (.slice A2 (4 * k) c2) (4 * k) (Pure.wordBytes high (l.take k)) (by rw [Pure.wordBytes_length, hlk]) rfl HO7.out _ u7 (Pure.bytesOf high y.toNat 4 4) rfl (by rw [Pure.bytesOf_length]; exact Row.of_own HU7.out) (by rw [Pure.bytesOf_length]; omega) (by omega) ?_
   intro v3 w8 hown3 hg3 hat3
   have HK8 := xhd (show Below w.heap.size w w8 from (HK7.out.grown hg3 (by omega) (fun k hk => y06 HO7.out k hk)))
   have hown4 : w8.ownsRow w.heap.size 5 1 v3 (4 * (k + 1)) (u8s (Pure.wordBytes high (l.take (k + 1)))) := by
    have et : l.take (k + 1) = l.take k ++ [y] := by
     have hlt : k < l.length := by have := HN.out; omega
     rw [HY.out, List.getD_eq_getElem?_getD, List.getElem?_eq_getElem hlt]
     exact (List.take_append_getElem hlt).symm
    rw [et, Pure.wordBytes_snoc]
    have e2 : (Pure.wordBytes high (l.take k) ++ Pure.bytesOf high y.toNat 4 4).length = 4 * (k + 1) := by rw [List.length_append, Pure.wordBytes_length, Pure.bytesOf_length, hlk]; omega
    rw [e2] at hown3
    exact hown3
   have HO8 := xhd hown4
   clear hown3 hown4 hg3 hat3 HO7 HK7 HU7 hlk
   go_wp2_with fail
   go_roundw
   case rel => exact ⟨k + 1, by omega, by go_num, HO8.out, HK8.out⟩
   case measure => simp [intOf]; omega
  ·have hkk : k = N := by omega
   subst hkk
   clear hW hK hkl hk
   go_wp2
   go_ret
   refine ⟨_, rfl, ?_, HK.out⟩
   have := HW1.out
   rw [List.take_of_length_le (by have := HN.out; omega)] at this
   exact this
end Go.Proofs.YtmgicbckgpdkcaaGreatDoor
