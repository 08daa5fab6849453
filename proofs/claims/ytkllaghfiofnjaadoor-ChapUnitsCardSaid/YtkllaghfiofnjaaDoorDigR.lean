/- The document's Md4. -/
import Derived.Test.YtkllaghfiofnjaaDoorDigR2
import Derived.Test.YtkllaghfiofnjaaDoorDigR3
import Derived.Test.YtkllaghfiofnjaaDoorDigR4
import Derived.Test.YtkllaghfiofnjaaDoorMake
namespace Go.Proofs.YtkllaghfiofnjaaDoor
open Go.RowKit
set_option maxRecDepth 100000 in
set_option maxHeartbeats 4000000 in
theorem docmd4_any (F : Nat → Prop) (x : Value) (bs : List UInt8) (w : World) (hF : ∀ b, F b → b < w.heap.size) (hbig : bs.length ≤ 10000000) (hr : Row w F 1 x bs.length (u8s bs)) :
    Calls Tryd.prog 31 #[x] w
      fun e w' => ∃ u, e = .returned u ∧ w'.ownsRow w.heap.size 5 1 u 16 (u8s (Pure.md4 bs)) ∧ Below w.heap.size w w' := by
  have HP := Lib.hid (pad_any true F x bs)
  have HR := Lib.hid hr
  have HF := Lib.hid hF
  have hwant : Pure.md4 bs = (List.range 16).map (Pure.outLow (Pure.md4Blocks (Pure.pad true bs) ((Pure.pad true bs).length / 64)).list) := rfl
  obtain ⟨m, hm⟩ : ∃ m, m = Pure.pad true bs := ⟨_, rfl⟩
  obtain ⟨K, hK⟩ : ∃ K, K = m.length / 64 := ⟨_, rfl⟩
  have hmK : m.length = 64 * K := by have := Pure.pad_blocks true bs; rw [← hm] at this; omega
  have hK2 : K ≤ 1000000 := by have := Pure.pad_le true bs; rw [← hm] at this; omega
  rw [← hm, ← hK] at hwant
  rw [← hm, hmK] at HP
  have HW := Lib.hid hwant
  have HM := Lib.hid hmK
  clear hr hF hwant hm hK hmK
  go_enter Tryd.func31, Tryd.ntmps31
  go_upto_region 2 with fail
  obtain ⟨bh, hbh⟩ : ∃ bh, bh = w.heap.size := ⟨_, rfl⟩
  obtain ⟨w1, hw1⟩ : ∃ w1, w1 = w.alloc (.cells (u32s Pure.md4Start.list).toArray 38) := ⟨_, rfl⟩
  have e1 : w.alloc (.cells #[.int .u32 1732584193, .int .u32 4023233417, .int .u32 2562383102, .int .u32 271733878] 38) = w1 := hw1.symm
  rw [e1, ← hbh]
  have h1 : Blk w1 bh 38 (u32s (Pure.md4Blocks m 0).list).toArray := by rw [hw1, hbh]; exact Blk.new w _ _
  have hk1 : Below w.heap.size w w1 := by rw [hw1]; exact Keeps.to_below ((Keeps.refl _ w).alloc _)
  have hs1 : w1.heap.size = bh + 1 := by rw [hw1, hbh]; simp
  have hP := HP.out w1 (HR.out.keeps (Keeps.new hk1) (fun _ _ h => h)) (fun b hb => Nat.lt_of_lt_of_le (HF.out b hb) hk1.size) (by omega)
  have HP' := Lib.hid hP
  have H1 := Lib.hid h1
  have HK1 := Lib.hid hk1
  have HBh := Lib.hid hbh
  clear hP HP hw1 e1 h1 hk1 hbh HR HF
  go_wp2_with fail
  refine HP'.out.mono ?_
  rintro e w2 ⟨u4, rfl, hu4, hb2⟩
  have hs2 : bh + 1 ≤ w2.heap.size := by have := hb2.size; omega
  obtain ⟨A, c, rfl⟩ := own_form hu4
  have HU4 := Lib.hid (Row.of_own hu4)
  have HO := Lib.hid (fun b (hb : (Value.slice A (64 * K) c).ownBlock = some b) => And.intro (ownsRow_ge hu4 b hb) (ownsRow_lt hu4 b hb))
  have H2 := Lib.hid (H1.out.below hb2 H1.out.lt)
  have HK2 := Lib.hid (HK1.out.trans (hb2.mono HK1.out.size))
  have HS1 := Lib.hid hs1
  clear HP' H1 HK1 hu4 hb2 hs1
  go_upto_region 5 with fail
  obtain ⟨bo, hbo⟩ : ∃ bo, bo = w2.heap.size := ⟨_, rfl⟩
  obtain ⟨w3, hw3⟩ : ∃ w3, w3 = (w2.alloc (.cells (ints Pure.md4Order).toArray 3)).alloc (.cells (ints Pure.md4Turns).toArray 3) := ⟨_, rfl⟩
  have hO3 : Blk w3 bo 3 (ints Pure.md4Order).toArray := by rw [hw3, hbo]; exact (Blk.new w2 _ _).alloc _
  have hT3 : Blk w3 (bo + 1) 3 (ints Pure.md4Turns).toArray := by
    rw [hw3, hbo]
    have := Blk.new (w2.alloc (.cells (ints Pure.md4Order).toArray 3)) 3 (ints Pure.md4Turns).toArray
    rw [World.size_alloc] at this
    exact this
  have hs3 : w3.heap.size = bo + 1 + 1 := by rw [hw3, hbo]; simp
  have hk3 : Keeps nobody w2 w3 := by rw [hw3]; exact ((Keeps.refl _ w2).alloc _).alloc _
  have H3 := Lib.hid (H2.out.keeps hk3 (fun h => h))
  have HU3 := Lib.hid ((HU4.out.strong.keeps hk3 (fun _ _ h => h)).mono (G := fun b => w1.heap.size ≤ b ∧ b < bo) (fun b hb => by rw [hbo]; exact HO.out b hb.1))
  have HK3 := Lib.hid (Below.quiet HK2.out hk3 HK2.out.size)
  have HO3 := Lib.hid hO3
  have HT3 := Lib.hid hT3
  have HS3 := Lib.hid hs3
  have HBo := Lib.hid (show bh < bo by omega)
  have HB1 := Lib.hid (show bh < w1.heap.size by have := HS1.out; omega)
  have HNw := Lib.hid (show w.heap.size ≤ bo by have := HBh.out; omega)
  have e3 : (w2.alloc (.cells #[.int .i64 0, .int .i64 1, .int .i64 2, .int .i64 3, .int .i64 4, .int .i64 5, .int .i64 6, .int .i64 7, .int .i64 8, .int .i64 9, .int .i64 10, .int .i64 11, .int .i64 12, .int .i64 13, .int .i64 14, .int .i64 15, .int .i64 0, .int .i64 4, .int .i64 8, .int .i64 12, .int .i64 1, .int .i64 5, .int .i64 9, .int .i64 13, .int .i64 2, .int .i64 6, .int .i64 10, .int .i64 14, .int .i64 3, .int .i64 7, .int .i64 11, .int .i64 15, .int .i64 0, .int .i64 8, .int .i64 4, .int .i64 12, .int .i64 2, .int .i64 10, .int .i64 6, .int .i64 14, .int .i64 1, .int .i64 9, .int .i64 5, .int .i64 13, .int .i64 3, .int .i64 11, .int .i64 7, .int .i64 15] 3)).alloc (.cells #[.int .i64 3, .int .i64 7, .int .i64 11, .int .i64 19, .int .i64 3, .int .i64 5, .int .i64 9, .int .i64 13, .int .i64 3, .int .i64 9, .int .i64 11, .int .i64 15] 3) = w3 := hw3.symm
  rw [e3, ← hbo]
  clear hbo hw3 e3 hO3 hT3 hs3 hk3 H2 HU4 HK2 HO hs2
  go_wp2_with fail
  go_loopw [7] (fun i wr => ∃ k : Nat, k ≤ K ∧ i = .int .i64 ((64 * k : Nat) : Int) ∧ Blk wr bh 38 (u32s (Pure.md4Blocks m k).list).toArray ∧ Keeps (only bh) w3 wr) (fun i _ => 64 * K - (intOf i).toNat)
  case atStart => exact ⟨0, by omega, rfl, H3.out, Keeps.refl _ _⟩
  case round =>
    clear H3
    obtain ⟨k, hk, rfl, hH, hK⟩ := hrel
    have HH := Lib.hid hH
    have HK := Lib.hid hK
    have HR := Lib.hid (HU3.out.keeps hK (fun b hb h => by have h : b = bh := h; have := HB1.out; omega))
    obtain ⟨p, hp⟩ : ∃ p, p = 64 * k := ⟨_, rfl⟩
    rw [← hp]
    have hp0 : (0 : Int) ≤ (p : Int) := by omega
    have hp1 : (p : Int) ≤ 64 * (K : Int) := by omega
    by_cases hkl : k < K
    · have hp2 : (p : Int) < 64 * (K : Int) := by omega
      have HP0 := Lib.hid hp
      clear hH hK hp hp1
      go_wp2_with (at_make; refine stopHere ?_)
      unfold Hid
      refine wpList_make_words rfl _ _ rfl 16 .i64 .i64 rfl rfl (by omega) ?_
      intro w4 hX4 hk4 hs4
      obtain ⟨bx, hbx⟩ : ∃ bx, bx = wr.heap.size := ⟨_, rfl⟩
      rw [← hbx] at hX4 hs4 ⊢
      have hw3r := HK.out.size
      have HX4 := Lib.hid hX4
      have HK4 := Lib.hid hk4
      have HS4 := Lib.hid hs4
      have HBx := Lib.hid hbx
      have HBx2 := Lib.hid (show bo + 1 < bx by have := HS3.out; omega)
      clear hX4 hk4 hs4 hbx hw3r
      go_wp2_with fail
      refine docWords_loop _ _ _ _ _ _ _ _ _ _ _ _ _ _ _ _ _ _ _ _ _ _ _ _ _ _ _ _ _ _ _ _ _ _ _ _ _ _ _ _ _ _ _ _ _ _ _ _ _ _ _ _ _ _ _ _ _ _ _ _ _ _ _ _ _ _ _ _ _ _ _ _ _ _ _ _ _ _ _ _ _ _ _ _ _ _ _ _ _ _ _ _ _ _ _ _ _ _ _ _ _ _ _ _ _ _ _ _ _ _ _ _ _ _ _ _ _ _ _ _ _ _ _ _ _ _ _ _ _ _ _ _ _ _ _ _ _ _ _ _ _ _ _ _ _ _ _ _ _ _ _ _ _ _ _ _ _ _ _ _ _ _ _ _ _ _ _ _ _ _ _ _ _ _ _ _ _ _ _ _ _ _ _ _ _ _ _ _ _ _ _ _ _ _ A c m K p bx (by have := HP0.out; omega) HM.out (by omega) (fun b => w1.heap.size ≤ b ∧ b < bo) (fun hb => by have := HBx2.out; omega) w4 (HR.out.keeps HK4.out (fun _ _ h => h)) HX4.out _ (fun _ _ d _ _ h => by cases d <;> exact h) ?_
      intros
      rename_i w5 hX5 hk5
      have HX5 := Lib.hid hX5
      have HK5 := Lib.hid ((HK4.out.mono (T := only bx) (fun _ h => h.elim)).trans hk5)
      have hH5 := HH.out.keeps HK5.out (fun e => by have e : bh = bx := e; have := HBx2.out; have := HBo.out; omega)
      have HH5 := Lib.hid hH5
      have s0 : w5.cell? ⟨bh, 0, none⟩ = some (.int .u32 (Pure.md4Blocks m k).a.toNat) := by rw [hH5.cell]; rfl
      have s1 : w5.cell? ⟨bh, 1, none⟩ = some (.int .u32 (Pure.md4Blocks m k).b.toNat) := by rw [hH5.cell]; rfl
      have s2 : w5.cell? ⟨bh, 2, none⟩ = some (.int .u32 (Pure.md4Blocks m k).c.toNat) := by rw [hH5.cell]; rfl
      have s3 : w5.cell? ⟨bh, 3, none⟩ = some (.int .u32 (Pure.md4Blocks m k).d.toNat) := by rw [hH5.cell]; rfl
      obtain ⟨st, hst⟩ : ∃ st, st = Pure.md4Blocks m k := ⟨_, rfl⟩
      rw [← hst] at s0 s1 s2 s3 HH5
      have HST := Lib.hid hst
      have hw5 : w5.heap.size = bx + 1 ∨ True := .inr trivial
      clear hst hX5 hk5 hH5 HH HR HX4 hw5
      go_upto_region 13 with fail
      refine wp_region_Z (fun w' => w'.cell? ⟨bh, 0, none⟩ = some (.int .u32 st.a.toNat) ∧ w'.cell? ⟨bh, 1, none⟩ = some (.int .u32 st.b.toNat) ∧ w'.cell? ⟨bh, 2, none⟩ = some (.int .u32 st.c.toNat) ∧ w'.cell? ⟨bh, 3, none⟩ = some (.int .u32 st.d.toNat)) 12 14 rfl (by kernel_rfl) ⟨s0, s1, s2, s3⟩ (fun hHeld => ?_)
      iterate 12
        refine wpAnyZ_next rfl (by kernel_rfl) (fun _ _ _ h => h) (Or.inl ⟨by rfl, by intro w hSw; obtain ⟨s0, s1, s2, s3⟩ := hSw; go_simp; try with_reducible rfl⟩) hHeld.out ?_
        simp only [Act.put, List.setIfInBounds_toArray, Nat.reduceAdd, List.getElem_toArray, List.getElem_cons_succ, List.getElem_cons_zero, List.set_cons_succ, List.set_cons_zero]
      refine wpAnyZ_step (by kernel_rfl) rfl (fun KK hKK => ?_)
      clear hHeld
      go_simp
      refine hKK.out _ _ (fun h => absurd rfl h) ?_
      clear hKK KK
      refine wpAnyZ_step (by kernel_rfl) rfl (fun KK hKK => ?_)
      go_simp
      refine hKK.out _ _ (fun _ => ⟨cell_alloc_old s0, cell_alloc_old s1, cell_alloc_old s2, cell_alloc_old s3⟩) ?_
      clear hKK KK
      refine wpAnyZ_done (by kernel_rfl) ?_ _
      go_wp2_with fail
      obtain ⟨bv, hbv⟩ : ∃ bv, bv = w5.heap.size := ⟨_, rfl⟩
      obtain ⟨w6, hw6⟩ : ∃ w6, w6 = (w5.alloc (.cells (u32s st.list).toArray 38)).drew := ⟨_, rfl⟩
      have e6 : (w5.alloc (.cells #[.int .u32 st.a.toNat, .int .u32 st.b.toNat, .int .u32 st.c.toNat, .int .u32 st.d.toNat] 38)).drew = w6 := hw6.symm
      rw [e6, ← hbv]
      have hV6 : Blk w6 bv 38 (u32s st.list).toArray := by rw [hw6, hbv]; exact (Blk.new w5 _ _).drew
      have hk6 : Keeps nobody w5 w6 := by rw [hw6]; exact ((Keeps.refl _ w5).alloc _).drew
      have hs6 : w6.heap.size = bv + 1 := by rw [hw6, hbv]; exact World.size_alloc _ _
      have hk6' := hk6.mono (T := only bx) (fun _ h => h.elim)
      have HK6 := Lib.hid (HK5.out.trans hk6')
      have HV6 := Lib.hid hV6
      have HX6 := Lib.hid (HX5.out.keeps hk6 (fun h => h))
      have HH6 := Lib.hid (HH5.out.keeps hk6 (fun h => h))
      have HS6 := Lib.hid hs6
      have HBv := Lib.hid (show bh < bv by have := HK5.out.size; have := HBx.out; have := HBx2.out; have := HBo.out; omega)
      have HBv2 := Lib.hid (show bx ≤ bv by have := HK5.out.size; have := HBx.out; omega)
      clear hbv hw6 e6 hV6 hk6 hs6 hk6' s0 s1 s2 s3 HX5 HH5 HK5 HK4 HS4
      have hO6 := (HO3.out.keeps HK.out (fun e => by have e : bo = bh := e; have := HBo.out; omega)).keeps HK6.out (fun e => by have e : bo = bx := e; have := HBx2.out; omega)
      have hT6 := (HT3.out.keeps HK.out (fun e => by have e : bo + 1 = bh := e; have := HBo.out; omega)).keeps HK6.out (fun e => by have e : bo + 1 = bx := e; have := HBx2.out; omega)
      refine docSteps_loop _ _ _ _ _ _ _ _ _ _ _ _ _ _ _ _ _ _ _ _ _ _ _ _ _ _ _ _ _ _ _ _ _ _ _ _ _ _ _ _ _ _ _ _ _ _ _ _ _ _ _ _ _ _ _ _ _ _ _ _ _ _ _ _ _ _ _ _ _ _ _ _ _ _ _ _ _ _ _ _ _ _ _ _ _ _ _ _ _ _ _ _ _ _ _ _ _ _ _ _ _ _ _ _ _ _ _ _ _ _ _ _ _ _ _ _ _ _ _ _ _ _ _ _ _ _ _ _ _ _ _ _ _ _ _ _ _ _ _ _ _ _ _ _ _ _ _ _ _ _ _ _ _ _ _ _ _ _ _ _ _ _ _ _ _ _ _ _ _ _ _ _ _ _ _ _ _ _ _ _ _ _ _ _ _ _ _ _ _ _ _ _ _ (Pure.wordsLow m p 64) (Pure.wordsLow_length _ _ _) st bo (bo + 1) bx bv w6 hO6 hT6 HX6.out HV6.out _ (fun _ _ d _ _ h => by cases d <;> exact h) ?_
      clear hO6 hT6
      intros
      rename_i bv2 w7 hV7 hb7 hq7
      have hne7 : bv2 ≠ bh := by have := HBv.out; have := HS6.out; omega
      have hlt6 := HH6.out.lt
      have hH7 := HH6.out.below hb7 HH6.out.lt
      have hp7 : Keeps (only bh) w3 w7 := by
        have k6 : Keeps (only bh) w3 w6 := HK.out.trans' HK6.out (fun i hi hlt => by have hi : i = bx := hi; have := HBx.out; have := HK.out.size; omega)
        exact k6.trans' (T := nobody) (Keeps.new hb7) (fun _ h => h.elim)
      have HK7 := Lib.hid hp7
      have HN7 := Lib.hid hne7
      have HV7 := Lib.hid hV7
      have HH7 := Lib.hid hH7
      clear hne7 hlt6 hH7 hp7 hV7 hb7 hq7 HH6 HV6 HX6 HK6 HS6 HBv HBv2
      go_wp2_with fail
      refine docSums_loop _ _ _ _ _ _ _ _ _ _ _ _ _ _ _ _ _ _ _ _ _ _ _ _ _ _ _ _ _ _ _ _ _ _ _ _ _ _ _ _ _ _ _ _ _ _ _ _ _ _ _ _ _ _ _ _ _ _ _ _ _ _ _ _ _ _ _ _ _ _ _ _ _ _ _ _ _ _ _ _ _ _ _ _ _ _ _ _ _ _ _ _ _ _ _ _ _ _ _ _ _ _ _ _ _ _ _ _ _ _ _ _ _ _ _ _ _ _ _ _ _ _ _ _ _ _ _ _ _ _ _ _ _ _ _ _ _ _ _ _ _ _ _ _ _ _ _ _ _ _ _ _ _ _ _ _ _ _ _ _ _ _ _ _ _ _ _ _ _ _ _ _ _ _ _ _ _ _ _ _ _ _ _ _ _ _ _ _ _ _ _ _ _ _ _ st (Pure.md4Steps (Pure.wordsLow m p 64) st 48) bh bv2 HN7.out w7 HH7.out HV7.out _ (fun _ _ d _ _ h => by cases d <;> exact h) ?_
      intros
      rename_i w8 hH8 hk8
      have hH8' : Blk w8 bh 38 (u32s (Pure.md4Blocks m (k + 1)).list).toArray := by
        have e : (⟨st.a + (Pure.md4Steps (Pure.wordsLow m p 64) st 48).a, st.b + (Pure.md4Steps (Pure.wordsLow m p 64) st 48).b, st.c + (Pure.md4Steps (Pure.wordsLow m p 64) st 48).c, st.d + (Pure.md4Steps (Pure.wordsLow m p 64) st 48).d⟩ : Pure.W4) = Pure.md4Blocks m (k + 1) := by
          rw [Pure.md4Blocks, ← HST.out, ← HP0.out]
        rw [← e]
        exact hH8
      have HH8 := Lib.hid hH8'
      have HK8 := Lib.hid (HK7.out.trans hk8)
      clear hH8 hH8' hk8 HH7 HV7 HN7 HK7
      go_wp2_with fail
      go_roundw
      case rel =>
        refine ⟨k + 1, by omega, ?_, HH8.out, HK8.out⟩
        have := HP0.out
        go_num
      case measure => simp [intOf]; omega
    · obtain rfl : k = K := by omega
      clear hkl hk
      go_wp2_with fail
      have hn0 : w.heap.size ≤ wr.heap.size := by have := hK.size; have := HS3.out; have := HNw.out; omega
      refine docOut_loop _ _ _ _ _ _ _ _ _ _ _ _ _ _ _ _ _ _ _ _ _ _ _ _ _ _ _ _ _ _ _ _ _ _ _ _ _ _ _ _ _ _ _ _ _ _ _ _ _ _ _ _ _ _ _ _ _ _ _ _ _ _ _ _ _ _ _ _ _ _ _ _ _ _ _ _ _ _ _ _ _ _ _ _ _ _ _ _ _ _ _ _ _ _ _ _ _ _ _ _ _ _ _ _ _ _ _ _ _ _ _ _ _ _ _ _ _ _ _ _ _ _ _ _ _ _ _ _ _ _ _ _ _ _ _ _ _ _ _ _ _ _ _ _ _ _ _ _ _ _ _ _ _ _ _ _ _ _ _ _ _ _ _ _ _ _ _ _ _ _ _ _ _ _ _ _ _ _ _ _ _ _ _ _ _ _ _ _ _ _ _ _ _ _ _ (Pure.md4Blocks m k) bh w.heap.size (.inr trivial) wr hH hn0 _ ?_ ?_
      · exact fun _ _ d _ _ h => by cases d <;> exact h
      · intros
        rename_i u8 w9 ho9 hb9
        have HO9 := Lib.hid ho9
        have HB9 := Lib.hid ((Below.keeps HK3.out hK HK3.out.size (fun i hi => by have hi : i = bh := hi; have := HBh.out; omega)).trans hb9)
        clear ho9 hb9 hH hK
        go_wp2
        go_ret
        refine ⟨_, rfl, ?_, HB9.out⟩
        rw [HW.out]
        exact HO9.out
end Go.Proofs.YtkllaghfiofnjaaDoor
