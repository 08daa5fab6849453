/- Contract of package slices' Clone over bytes. -/
import Derived.Test.YtmgicbckgpdkcaaGreatDoorQ2
import Derived.Test.YtmgicbckgpdkcaaGreatDoorQ8
import Derived.Test.YtmgicbckgpdkcaaGreatDoorQ5
namespace Go.Proofs.YtmgicbckgpdkcaaGreatDoor
set_option maxRecDepth 100000
set_option maxHeartbeats 2000000
open Lib renaming hid → xhd
open Go.RowKit
theorem clone_any (F : Nat → Prop) (x : Value) (n : Nat) (l : List UInt8) (w : World) (hr : Row w F 1 x n (u8s l)) (hn : n ≤ 140737488355328) :
  Calls Tryz.prog 239 #[x] w fun e w' => ∃ v, e = .returned v ∧ w'.ownsRow w.heap.size 5 1 v n (u8s l) ∧ Below w.heap.size w w' := by
 obtain ⟨i0, hi0, hz0, hz1, hz2⟩ := info_parts u8_info
 have hr' := hr
 obtain ⟨hl, hm, A, c, rfl, hc, hA, hcell⟩ := hr
 rcases A with _ | ad
 ·obtain rfl := hA rfl
  have hl0 : u8s l = [] := List.eq_nil_of_length_eq_zero (by simpa using hl)
  clear hcell hA hl
  have hq := fun (W : World) => Lib.run_eql_slice_nil (P := Tryz.prog) W 29 5 none 0 c 0 0 Tryz.underlying29
  go_enter Tryz.func239, Tryz.ntmps239
  go_wp2
  go_ret
  refine ⟨_, rfl, ⟨by rw [hl0]; rfl, .inl ⟨rfl, rfl⟩⟩, Below.refl _ _⟩
 ·have HL := xhd hl
  have hbw : Row (w.alloc (.cells #[] 5)) F 1 (.slice (some ad) n c) n (u8s l) :=
   hr'.cellsOf fun b off u _ hu => (World.cell?_alloc_lt w _ ⟨b, off, none⟩ (cell_lt hu)).trans hu
  clear hl hcell hA hr'
  have hq := fun (W : World) => Lib.run_eql_slice_nil (P := Tryz.prog) W 29 5 (some ad) n c 0 0 Tryz.underlying29
  go_enter Tryz.func239, Tryz.ntmps239
  go_wp2_with (at_builtin; refine stopHere ?_)
  unfold Hid
  refine wpList_append_row rfl (.tmp 5) (.tmp 6) _ rfl w.heap.size 5 i0 _ 1 1 Tryz.underlying29 hi0 hz0 hz1 hz2 rfl (by omega) (.slice (some ⟨w.heap.size, 0, none⟩) 0 0) 0 []
   rfl (ownsRow_made _ _ _ _ (Nat.le_refl _)) F _ n (u8s l) rfl hbw (u8s_cells l) (by omega) (by omega) (by simp) ?_
  intro v1 w1 hown1 hg1 hat1
  go_wp2
  go_ret
  refine ⟨v1, rfl, by simpa using hown1, ((Below.refl _ _).alloc (Nat.le_refl _) _).grown hg1 (by simp) ?_⟩
  intro k hk
  simp [Value.ownBlock] at hk
  omega
theorem blockWords_info : (Tryz.prog.info? 289).map (·.size) = some 16 := by kernel_rfl
theorem padded_any (high : Bool) (F : Nat → Prop) (x : Value) (bs : List UInt8) (L : Nat) (hL : bs.length % 64 = L % 64) (hL2 : L ≤ 100000000) (hl : bs.length ≤ 64) (w : World) (hr : Row w F 1 x bs.length (u8s bs)) :
  Calls Tryz.prog 207 #[x, .int .i64 (L : Int), .bool high] w fun e w' => ∃ u, e = .returned u ∧
   w'.ownsRow w.heap.size 5 1 u (bs.length + 1 + Pure.noughts bs.length + 8) (u8s (bs ++ [128] ++ List.replicate (Pure.noughts bs.length) 0 ++ Pure.lenBytes (!high) L 8)) ∧ Below w.heap.size w w' := by
 obtain ⟨A, cA, rfl, hc⟩ := hr.form
 have HC := xhd (clone_any F _ bs.length bs w hr (by omega))
 clear hr
 go_enter Tryz.func207, Tryz.ntmps207
 go_wp2_with fail
 refine HC.out.mono ?_
 rintro e w1 ⟨u, rfl, hu, hb1⟩
 have HU := xhd hu
 have HB := xhd hb1
 clear HC hu hb1
 go_wp2_with (at_builtin; refine stopHere ?_)
 unfold Hid
 have hsz := HB.out.size
 refine wp_append_u8 rfl (.tmp 9) (.tmp 10) rfl w.heap.size u bs.length bs rfl rfl (own_grown HU.out (World.grownBy_alloc w1 _ none) (by simp)) _ _ [128] rfl (new1 w1 128) (by simp; omega) (by simp; omega) ?_
 intro v2 w2 hown2 hg2 hat2
 have HO2 := xhd hown2
 have HB2 := xhd (show Below w.heap.size w w2 from ((HB.out.alloc hsz _).grown hg2 (by simp; omega) (fun k hk => ownsRow_ge HU.out k hk)))
 clear HU HB hown2 hg2 hat2
 go_wp2_with fail
 go_loopw [7] (fun v wr => ∃ k : Nat, k ≤ Pure.noughts bs.length ∧ wr.ownsRow w.heap.size 5 1 v (bs.length + 1 + k) (u8s (bs ++ [128] ++ List.replicate k 0)) ∧ Below w.heap.size w wr) (fun v _ => bs.length + 1 + Pure.noughts bs.length - lenOf v)
 case atStart => exact ⟨0, by omega, by simpa using HO2.out, HB2.out⟩
 case round =>
  clear HO2 HB2
  obtain ⟨k, hk, hW, hK⟩ := hrel
  have HW := xhd hW
  have HK := xhd hK
  obtain ⟨A, c, rfl⟩ := own_form HW.out
  clear hW hK
  have hno : Pure.noughts bs.length < 64 := by unfold Pure.noughts; omega
  by_cases hkl : k < Pure.noughts bs.length
  ·have hne := Pure.noughts_least bs.length k hkl
   obtain ⟨N, hN⟩ : ∃ N, N = bs.length + 1 + k := ⟨_, rfl⟩
   rw [← hN] at HW hne ⊢
   have hN2 : N ≤ 200000000 := by omega
   have hm : ((N : Int) % 64 != 56) = true := by rw [bne_iff_ne]; omega
   have HN := xhd hN
   clear hN hne
   have hsz := HK.out.size
   go_wp2_with (at_builtin; refine stopHere ?_)
   unfold Hid
   refine wp_append_u8 rfl (.tmp 16) (.tmp 17) rfl w.heap.size (.slice A N c) N (bs ++ [128] ++ List.replicate k 0) (by simp; have := HN.out; omega) rfl (own_grown HW.out (World.grownBy_alloc wr _ none) (by simp)) _ _ [0] rfl (new1 wr 0) (by simp; omega) (by simp; omega) ?_
   intro v3 w3 hown3 hg3 hat3
   have HO3 := xhd hown3
   have HB3 := xhd (show Below w.heap.size w w3 from ((HK.out.alloc hsz _).grown hg3 (by simp; omega) (fun k hk => ownsRow_ge HW.out k hk)))
   clear hown3 hg3 hat3
   go_wp2_with fail
   go_roundw
   case rel =>
    refine ⟨k + 1, by omega, ?_, HB3.out⟩
    have h3 := HO3.out
    have e1 : (bs ++ [128] ++ List.replicate k 0 ++ [0]) = bs ++ [128] ++ List.replicate (k + 1) 0 := by rw [List.append_assoc _ (List.replicate k 0), List.replicate_succ']
    rw [e1] at h3
    have e2 : (bs ++ [128] ++ List.replicate (k + 1) 0).length = bs.length + 1 + (k + 1) := by simp; omega
    rw [e2] at h3
    exact h3
   case measure =>
    have h3 := HO3.out
    obtain ⟨A3, c3, rfl⟩ := own_form h3
    have := HN.out
    simp [lenOf]
    omega
  ·have hkk : k = Pure.noughts bs.length := by omega
   subst hkk
   have hsp := Pure.noughts_spec bs.length
   obtain ⟨N, hN⟩ : ∃ N, N = bs.length + 1 + Pure.noughts bs.length := ⟨_, rfl⟩
   rw [← hN] at HW hsp ⊢
   have hN2 : N ≤ 200000000 := by omega
   have hm : ((N : Int) % 64 != 56) = false := by
    have : (N : Int) % 64 = 56 := by omega
    rw [this]; rfl
   have HN := xhd hN
   obtain ⟨base, hbase⟩ : ∃ base, base = bs ++ [128] ++ List.replicate (Pure.noughts bs.length) 0 := ⟨_, rfl⟩
   have HBase := xhd hbase
   have hlb : base.length = N := by rw [hbase, hN]; simp; omega
   rw [← hbase] at HW
   have HL := xhd hlb
   have hsp2 := bsplit_any high (8 * L) 8 (by omega) (by omega) (by omega) wr
   push_cast at hsp2
   have HSP := xhd hsp2
   clear hN hsp hsp2 hbase hlb hkl hk hno hL
   have hL0 : (0 : Int) ≤ (L : Int) := by omega
   have hL3 : (L : Int) ≤ 100000000 := by omega
   go_wp2_with fail
   refine HSP.out.mono ?_
   rintro e w5 ⟨u5, rfl, hu5, hb5⟩
   have hsz := HK.out.size
   have HU5 := xhd hu5
   have HB5 := xhd hb5
   have HW5 := xhd (ownsRow_keeps HW.out (Keeps.new hb5) (fun _ _ h => h))
   have HK5 := xhd (HK.out.trans (hb5.mono hsz))
   clear hu5 hb5 HSP HW HK
   go_wp2_with (at_builtin; refine stopHere ?_)
   unfold Hid
   refine wp_append_u8 rfl (.tmp 19) (.tmp 24) rfl w.heap.size (.slice A N c) N base HL.out rfl HW5.out _ u5 (Pure.bytesOf high (8 * L) 8 8) rfl (by rw [Pure.bytesOf_length]; exact Row.of_own HU5.out) (by rw [Pure.bytesOf_length]; omega) (by have := HB5.out.size; omega) ?_
   intro v3 w3 hown3 hg3 hat3
   have HO3 := xhd hown3
   have HB3 := xhd (show Below w.heap.size w w3 from (HK5.out.grown hg3 (by have := HB5.out.size; omega) (fun k hk => ownsRow_ge HW5.out k hk)))
   clear hown3 hg3 hat3
   go_wp2
   go_ret
   refine ⟨_, rfl, ?_, HB3.out⟩
   have h3 := HO3.out
   rw [HBase.out, Pure.bytesOf_len] at h3
   have e2 : (bs ++ [128] ++ List.replicate (Pure.noughts bs.length) 0 ++ Pure.lenBytes (!high) L 8).length = bs.length + 1 + Pure.noughts bs.length + 8 := by simp [lenBytes_length]; omega
   rw [e2] at h3
   exact h3
theorem wordsOf_any (high : Bool) (F : Nat → Prop) (x : Value) (c : List UInt8) (hl : c.length = 64) (w : World) (hF : ∀ b, F b → b < w.heap.size) (hr : Row w F 1 x 64 (u8s c)) :
  Calls Tryz.prog 209 #[x, .bool high] w fun e w' => e = .returned (warr (Pure.wordsOf high c)) ∧ Below w.heap.size w w' := by
 obtain ⟨A, cA, rfl, hc⟩ := hr.form
 have HR := xhd hr
 have HF := xhd hF
 clear hr hF
 go_enter Tryz.func209, Tryz.ntmps209
 go_upto_region 2 with fail
 obtain ⟨b0, hb0⟩ : ∃ b0, b0 = w.heap.size := ⟨_, rfl⟩
 obtain ⟨w2, hw2⟩ : ∃ w2, w2 = (w.alloc (.cells (u32s (List.replicate 16 0)).toArray 289)).alloc (.cells (u32s (List.replicate 16 0)).toArray 289) := ⟨_, rfl⟩
 have e2 : (w.alloc (.cells #[.int .u32 0, .int .u32 0, .int .u32 0, .int .u32 0, .int .u32 0, .int .u32 0, .int .u32 0, .int .u32 0, .int .u32 0, .int .u32 0, .int .u32 0, .int .u32 0, .int .u32 0, .int .u32 0, .int .u32 0, .int .u32 0] 289)).alloc (.cells #[.int .u32 0, .int .u32 0, .int .u32 0, .int .u32 0, .int .u32 0, .int .u32 0, .int .u32 0, .int .u32 0, .int .u32 0, .int .u32 0, .int .u32 0, .int .u32 0, .int .u32 0, .int .u32 0, .int .u32 0, .int .u32 0] 289) = w2 := hw2.symm
 rw [e2, ← hb0]
 have hR : Blk w2 b0 289 (u32s (List.replicate 16 0)).toArray := by rw [hw2, hb0]; exact (Blk.new w _ _).alloc _
 have hX : Blk w2 (b0 + 1) 289 (u32s (Pure.wordsTo high c 0)).toArray := by
  rw [hw2, hb0, Pure.wordsTo_zero]
  have := Blk.new (w.alloc (.cells (u32s (List.replicate 16 0)).toArray 289)) 289 (u32s (List.replicate 16 0)).toArray
  rw [World.size_alloc] at this
  exact this
 have hk2 : Keeps nobody w w2 := by rw [hw2]; exact ((Keeps.refl _ w).alloc _).alloc _
 have HX := xhd hX
 have HRw := xhd hR
 have HK2 := xhd hk2
 have HB0 := xhd hb0
 clear hw2 e2 hR hX hk2 hb0
 go_wp2_with fail
 go_loopw [7] (fun i wr => ∃ q : Nat, q ≤ 16 ∧ i = .int .i64 (q : Int) ∧ Blk wr (b0 + 1) 289 (u32s (Pure.wordsTo high c q)).toArray ∧ Keeps (only (b0 + 1)) w2 wr) (fun i _ => 16 - (intOf i).toNat)
 case atStart => exact ⟨0, by omega, rfl, HX.out, Keeps.refl _ w2⟩
 case round =>
  clear HX
  obtain ⟨q, hq, rfl, hX, hK⟩ := hrel
  by_cases hql : q < 16
  ·have hi0 : (0 : Int) ≤ (q : Int) := by omega
   have hi1 : (q : Int) < 16 := by omega
   have hP := (HR.out.keeps HK2.out (fun _ _ h => h)).keeps hK (fun x hx e => by have e : x = b0 + 1 := e; have := HF.out x hx; have := HB0.out; omega)
   have k0 : wr.cell? ⟨b0 + 1, q, none⟩ = some (.int .u32 ((Pure.wordsTo high c q).getD q 0).toNat) := by rw [hX.cell, ← u32s_at _ q (by rw [Pure.wordsTo_length _ _ _ hq]; omega)]; simp
   obtain ⟨y, hy⟩ : ∃ y, y = (Pure.wordsTo high c q).getD q 0 := ⟨_, rfl⟩
   rw [← hy] at k0
   have f0 : wr.frozen? ⟨b0 + 1, q, none⟩ = false := hX.frozen q
   have hl4 : ((c.drop (4 * q)).take 4).length = 4 := by simp; omega
   obtain ⟨b, off, hA, hFb, _⟩ := HR.out.cellAt (by omega)
   subst hA
   have hJ := join_any high F (.slice (some ⟨b, off + 4 * q, none⟩) 4 (cA - 4 * q)) ((c.drop (4 * q)).take 4) (by omega) wr (by
    have := hP.cut1 (4 * q) 4 (by omega)
    rw [← List.map_drop, ← List.map_take] at this
    rw [hl4]
    simpa [addr_add] using this)
   rw [hl4] at hJ
   obtain ⟨X, hX1⟩ : ∃ X, X = Pure.joinTo high ((c.drop (4 * q)).take 4) 4 := ⟨_, rfl⟩
   rw [← hX1] at hJ
   have HJ := xhd hJ
   have HX1 := xhd hX1
   have HXq := xhd hX
   have HK := xhd hK
   clear hX hK hP hy hl4 hJ hX1
   go_wp2_with fail
   rw [show 4 * (q + 1) - 4 * q = 4 by omega]
   refine HJ.out.mono ?_
   rintro e w3 ⟨rfl, rfl⟩
   clear HJ
   go_wp2_with fail
   go_roundw
   case rel =>
    refine ⟨q + 1, by omega, by go_num, ?_, ?_⟩
    ·rw [← Pure.wordsTo_succ high c q hql, ← HX1.out, ← u32s_set]
     exact HXq.out.set q _
    ·exact HK.out.store (b0 + 1) q (fun _ => only_self (b0 + 1)) _
   case measure => simp [intOf]; omega
  ·have hqq : q = 16 := by omega
   subst hqq
   rw [Pure.wordsTo_all] at hX
   have hR := HRw.out.keeps hK (fun e => by have e : b0 = b0 + 1 := e; omega)
   have HX := xhd hX
   have HR2 := xhd hR
   have HK := xhd hK
   clear hX hK hR hql hq HRw
   go_upto_region 7 with fail
   apply wp_region_lit
   refine wpList_load_row rfl 289 (.tmp 5) rfl (b0 + 1) rfl 289 _ (0, 0) _ HX.out Tryz.underlying289 rfl (by rw [blockWords_info]; simp [Pure.wordsOf_length]) ?_
   refine wpList_store_row rfl 289 (.tmp 4) (.tmp 22) rfl b0 _ rfl rfl 289 _ HR2.out (by rw [blockWords_info]; simp [Pure.wordsOf_length]) (by simp [Pure.wordsOf_length]) (all_words _) ?_
   obtain ⟨w9, hw9⟩ : ∃ w9, w9 = wr.setRow b0 (u32s (Pure.wordsOf high c)).toArray := ⟨_, rfl⟩
   have hb9 : Blk w9 b0 289 (u32s (Pure.wordsOf high c)).toArray := by rw [hw9]; exact Blk.rowSet HR2.out _
   have hk9 : Below w.heap.size w w9 := by
    rw [hw9]
    have h1 := Below.keeps (Keeps.to_below HK2.out) HK.out HK2.out.size (fun i hi => by have hi : i = b0 + 1 := hi; have := HB0.out; omega)
    exact below_setRow h1 (by have := HB0.out; omega) _
   have HB9 := xhd hb9
   have HK9 := xhd hk9
   have e9 : wr.setRow b0 (u32s (Pure.wordsOf high c)).toArray = w9 := hw9.symm
   rw [e9]
   clear hw9 hb9 hk9 e9
   go_wp2
   refine bodyPost_ret (results_cell_row rfl _ _ b0 289 _ (0, 0) _ rfl HB9.out Tryz.underlying289 rfl (by rw [blockWords_info]; simp [Pure.wordsOf_length])) rfl ?_
   exact ⟨rfl, HK9.out⟩
theorem bytes_any (high : Bool) (F : Nat → Prop) (x : Value) (l : List UInt32) (hl : l.length ≤ 8) (w : World) (hr : Row w F 1 x l.length (u32s l)) :
  Calls Tryz.prog 184 #[x, .bool high] w fun e w' => ∃ u, e = .returned u ∧ w'.ownsRow w.heap.size 5 1 u (4 * l.length) (u8s (Pure.wordBytes high l)) ∧ Below w.heap.size w w' := by
 obtain ⟨A, cA, rfl, hc⟩ := hr.form
 have HR := xhd hr
 clear hr
 obtain ⟨N, hN⟩ : ∃ N, N = l.length := ⟨_, rfl⟩
 rw [← hN] at hl ⊢
 have HN := xhd hN
 go_enter Tryz.func184, Tryz.ntmps184
 clear hN
 go_wp2_with fail
 go_loopw [5, 10] (fun v i wr => ∃ k : Nat, k ≤ N ∧ i = .int .i64 (k : Int) ∧ wr.ownsRow w.heap.size 5 1 v (4 * k) (u8s (Pure.wordBytes high (l.take k))) ∧ Below w.heap.size w wr) (fun _ i _ => N - (intOf i).toNat)
 case atStart => exact ⟨0, by omega, rfl, World.ownsRow_nil _ _ _ _, Below.refl _ w⟩
 case round =>
  obtain ⟨k, hk, rfl, hW, hK⟩ := hrel
  have HW1 := xhd hW
  have HK := xhd hK
  obtain ⟨A2, c2, rfl⟩ := own_form hW
  by_cases hkl : k < N
  ·have hi0 : (0 : Int) ≤ (k : Int) := by omega
   have hi1 : (k : Int) < (N : Int) := by omega
   obtain ⟨b, off, hA, _, hcx⟩ := (HR.out.keeps (Keeps.new hK) (fun _ _ h => h)).cellAt (by have := HN.out; omega)
   subst hA
   have c1 := hcx k _ (u32s_at l k (by have := HN.out; omega))
   obtain ⟨y, hy⟩ : ∃ y : UInt32, y = l.getD k 0 := ⟨_, rfl⟩
   rw [← hy] at c1
   have hyl := y.toNat_lt
   have hsp := bsplit_any high y.toNat 4 (by omega) (by omega) (by omega) wr
   have HSP := xhd hsp
   have HY := xhd hy
   have hmod : (y.toNat : Int) % 18446744073709551616 = (y.toNat : Int) := Int.emod_eq_of_lt (by omega) (by omega)
   have hsz := HK.out.size
   clear hW hK hy hsp hcx
   go_wp2_with fail
   refine HSP.out.mono ?_
   rintro e w7 ⟨u7, rfl, hu7, hb7⟩
   have HU7 := xhd hu7
   have HO7 := xhd (ownsRow_keeps HW1.out (Keeps.new hb7) (fun _ _ h => h))
   have HK7 := xhd (HK.out.trans (hb7.mono hsz))
   have hsz7 := hb7.size
   clear hu7 hb7 HSP HW1 HK
   go_wp2_with (at_builtin; refine stopHere ?_)
   unfold Hid
   have hlk : (l.take k).length = k := by rw [List.length_take]; have := HN.out; omega
   refine wp_append_u8 rfl (.tmp 14) (.tmp 18) rfl w.heap.size (.slice A2 (4 * k) c2) (4 * k) (Pure.wordBytes high (l.take k)) (by rw [Pure.wordBytes_length, hlk]) rfl HO7.out _ u7 (Pure.bytesOf high y.toNat 4 4) rfl (by rw [Pure.bytesOf_length]; exact Row.of_own HU7.out) (by rw [Pure.bytesOf_length]; omega) (by omega) ?_
   intro v3 w8 hown3 hg3 hat3
   have HK8 := xhd (show Below w.heap.size w w8 from (HK7.out.grown hg3 (by omega) (fun k hk => ownsRow_ge HO7.out k hk)))
   have hown4 : w8.ownsRow w.heap.size 5 1 v3 (4 * (k + 1)) (u8s (Pure.wordBytes high (l.take (k + 1)))) := by
    have et : l.take (k + 1) = l.take k ++ [y] := by
     have hlt : k < l.length := by have := HN.out; omega
     rw [HY.out, List.getD_eq_getElem?_getD, List.getElem?_eq_getElem hlt]
     exact (List.take_append_getElem hlt).symm
    rw [et, Pure.wordBytes_snoc]
    have e2 : (Pure.wordBytes high (l.take k) ++ Pure.bytesOf high y.toNat 4 4).length = 4 * (k + 1) := by rw [List.length_append, Pure.wordBytes_length, Pure.bytesOf_length, hlk]; omega
    rw [e2] at hown3
    exact hown3
   have HO8 := xhd hown4
   clear hown3 hown4 hg3 hat3 HO7 HK7 HU7 hlk
   go_wp2_with fail
   go_roundw
   case rel => exact ⟨k + 1, by omega, by go_num, HO8.out, HK8.out⟩
   case measure => simp [intOf]; omega
  ·have hkk : k = N := by omega
   subst hkk
   clear hW hK hkl hk
   go_wp2
   go_ret
   refine ⟨_, rfl, ?_, HK.out⟩
   have := HW1.out
   rw [List.take_of_length_le (by have := HN.out; omega)] at this
   exact this
end Go.Proofs.YtmgicbckgpdkcaaGreatDoor
