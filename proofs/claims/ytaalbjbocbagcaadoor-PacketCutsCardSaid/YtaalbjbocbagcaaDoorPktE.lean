/- Package packet: Decode. -/
import Derived.Test.YtaalbjbocbagcaaDoorPktD
namespace Go.Proofs.YtaalbjbocbagcaaDoor
open Go.RowKit
/-- A new reader. -/
theorem Rd.new {F : Nat → Prop} {v : Value} {l : List UInt8} {w : World} (hr : Row w F 1 v l.length (u8s l)) : Rd (w.alloc (.cells #[v] 57)) F w.heap.size l :=
  ⟨v, Blk.new w _ _, hr.keeps (Keeps.refl nobody w |>.alloc _) (fun _ _ h => h)⟩
theorem below_drew' {B : Nat} {a w : World} (h : Below B a w) : Below B a w.drew := ⟨h.os, h.tape, h.output, h.size, h.block⟩
set_option maxRecDepth 100000 in
set_option maxHeartbeats 4000000 in
theorem decode_any (F : Nat → Prop) (x : Value) (bs : List UInt8) (w : World) (hg : Handle w) (hF : ∀ b, F b → b < w.heap.size) (hr : Row w F 1 x bs.length (u8s bs)) :
    Calls Tryd.prog 12 #[x] w fun e w' => ∃ u, e = .returned (.tuple #[pktV (Pure.decode bs).2 u, .int .i64 (((Pure.decode bs).1 : Nat) : Int)]) ∧ Row w' (fun b => w.heap.size ≤ b) 1 u (Pure.decode bs).2.data.length (u8s (Pure.decode bs).2.data) ∧ Below w.heap.size w w' := by
  obtain ⟨A, cA, rfl, hc⟩ := hr.form
  have HR := Lib.hid hr
  have HF := Lib.hid hF
  have HH := Lib.hid hg
  clear hr hF hg
  have HI := Lib.hid pkt_info
  have HP0 := packet_any F
  obtain ⟨dd, hdd⟩ : ∃ d, d = Pure.decode bs := ⟨_, rfl⟩
  have HP := fun g w => HP0 g bs w
  rw [← hdd] at HP ⊢
  obtain ⟨k, cc, ii, D⟩ := dd
  have HP := Lib.hid HP
  clear hdd HP0
  obtain ⟨p, hp⟩ : ∃ p, p = w.heap.size := ⟨_, rfl⟩
  go_enter Tryd.func12, Tryd.ntmps12
  go_upto_region 1 with fail
  rw [← hp]
  generalize hw1 : w.alloc _ = w1
  have HB := Lib.hid (show Blk w1 p 28 #[.int .i64 0, .int .i64 0, .slice none 0 0] by rw [← hw1, hp]; exact Blk.new w _ _)
  have HK := Lib.hid (show Keeps nobody w w1 by rw [← hw1]; exact (Keeps.refl _ w).alloc _)
  have HG := Lib.hid hp
  clear hw1 hp
  go_upto_region 2 with fail
  obtain ⟨q, hq⟩ : ∃ q, q = w1.heap.size := ⟨_, rfl⟩
  rw [← hq]
  generalize hw2 : w1.alloc _ = w2
  have hrd : Rd w2 F q bs := by rw [← hw2, hq]; exact Rd.new (HR.out.keeps HK.out (fun _ _ h => h))
  have hk2 : Keeps nobody w1 w2 := by rw [← hw2]; exact (Keeps.refl _ w1).alloc _
  have hqw : w.heap.size ≤ q := by rw [hq]; exact HK.out.size
  have hpq : p ≠ q := by have := HB.out.lt; omega
  have HB2 := Lib.hid (HB.out.keeps hk2 (fun h => h))
  have HK2 := Lib.hid (HK.out.trans hk2)
  have HPW := Lib.hid (HP.out q w2 hrd (fun b hb => by have := HF.out b hb; omega) (fun b hb => Nat.lt_of_lt_of_le (HF.out b hb) HK2.out.size))
  clear hw2 hrd hk2 hq HB HK HP
  go_wp2_with fail
  refine HPW.out.mono ?_
  rintro e w3 ⟨u, v, rfl, hv, hu, hk3⟩
  obtain ⟨A3, c3, rfl, _⟩ := Row.form hu
  have HV := Lib.hid hv
  have hgw : ∀ i, only q i → w.heap.size ≤ i := fun i h => by have h : i = q := h; omega
  have HB3 := Lib.hid (HB2.out.keeps hk3 (fun h => hpq h))
  have HBl3 := Lib.hid (Below.keeps HK2.out.to_below hk3 HK2.out.size hgw)
  have HU := Lib.hid hu.strong
  clear hu hv hk3 HPW
  go_upto_region 3 with fail
  obtain ⟨r, hr⟩ : ∃ r, r = w3.heap.size := ⟨_, rfl⟩
  rw [← hr]
  generalize hw4 : w3.alloc _ = w4
  have hb4 : Blk w4 r 28 #[.int .i64 cc, .int .i64 ii, .slice A3 D.length c3] := by rw [← hw4, hr]; exact Blk.new w3 _ _
  have hk4 : Keeps nobody w3 w4 := by rw [← hw4]; exact (Keeps.refl _ w3).alloc _
  have hpr : p ≠ r := by have := HB3.out.lt; omega
  have HB4 := Lib.hid (HB3.out.keeps hk4 (fun h => h))
  have HBl4 := Lib.hid (Below.quiet HBl3.out hk4 HBl3.out.size)
  have HU4 := Lib.hid (HU.out.keeps hk4 (fun _ _ h => h))
  have HV4 := Lib.hid (HV.out.keeps hk4 (fun _ h => h))
  have HS4 := Lib.hid hb4
  have HPL := Lib.hid (And.intro HB2.out.lt HK2.out.size)
  clear hw4 hk4 hr HB3 HBl3 HU HV HB2
  refine wp_region_Z (fun w' => Blk w' r 28 #[.int .i64 cc, .int .i64 ii, .slice A3 D.length c3]) 4 5 rfl (by kernel_rfl) hb4.drew (fun hHeld => ?_)
  clear hb4
  refine wpAnyZ_take (i := 0) (v := .agg #[.int .i64 cc, .int .i64 ii, .slice A3 D.length c3]) rfl (by kernel_rfl) (fun _ _ _ h => h) (Or.inl ⟨by rfl, fun w' hSw => exec_load_row 28 (.tmp 5) rfl r rfl 28 _ (0, 0) _ hSw Tryd.underlying28 rfl (by rw [HI.out]; rfl)⟩) hHeld.out ?_
  simp only [Act.put, List.setIfInBounds_toArray, Nat.reduceAdd, List.getElem_toArray, List.getElem_cons_succ, List.getElem_cons_zero, List.set_cons_succ, List.set_cons_zero]
  refine wpAnyZ_take (i := 1) rfl (by kernel_rfl) (fun _ _ _ h => h) (Or.inl ⟨by rfl, by intro w hSw; go_simp; try with_reducible rfl⟩) hHeld.out ?_
  simp only [Act.put, List.setIfInBounds_toArray, Nat.reduceAdd, List.getElem_toArray, List.getElem_cons_succ, List.getElem_cons_zero, List.set_cons_succ, List.set_cons_zero]
  refine wpAnyZ_one (i := 2) (by kernel_rfl) rfl (fun K hK => ?_)
  go_simp
  have hBd : Below w.heap.size w w4.drew := below_drew' HBl4.out
  refine (number_any v k w4.drew (HH.out.below hBd) (HV4.out.keeps ((Keeps.refl nobody w4).drew) (fun _ h => h))).mono ?_
  rintro e w5 ⟨rfl, hb5⟩
  have hk5 : Keeps nobody w4 w5 := Keeps.new ⟨hb5.os, hb5.tape, hb5.output, hb5.size, hb5.block⟩
  have HS5 := Lib.hid (HS4.out.keeps hk5 (fun h => h))
  refine hK.out _ _ (fun _ => HS5.out) ?_
  clear hK K hHeld hBd
  have HB5 := Lib.hid (HB4.out.keeps hk5 (fun h => h))
  have HBl5 := Lib.hid (Below.quiet HBl4.out hk5 HBl4.out.size)
  have HU5 := Lib.hid (HU4.out.keeps hk5 (fun _ _ h => h))
  clear hk5 hb5
  refine wpAnyZ_one (i := 3) (by kernel_rfl) rfl (fun K hK => ?_)
  try rw [if_pos (by rfl)]
  refine wp_store_row 28 (.tmp 2) (.tmp 13) rfl p _ rfl rfl 28 _ HB5.out (by rw [HI.out]; rfl) rfl (by simp [Value.oneCell']) ?_
  obtain ⟨w6, hw6⟩ : ∃ w6, w6 = w5.setRow p #[.int .i64 cc, .int .i64 ii, .slice A3 D.length c3] := ⟨_, rfl⟩
  have hb6 : Blk w6 p 28 #[.int .i64 cc, .int .i64 ii, .slice A3 D.length c3] := by rw [hw6]; exact Blk.rowSet HB5.out _
  have hkg : Keeps (only p) w5 w6 := by rw [hw6]; exact (Keeps.refl (only p) w5).rowSet (fun _ => rfl) _
  have hk6 : Below w.heap.size w w6 := Below.keeps HBl5.out hkg HBl5.out.size (fun i h => by have h : i = p := h; have := HG.out; omega)
  have hu6 : Row w6 (fun b => w.heap.size ≤ b) 1 (.slice A3 D.length c3) D.length (u8s D) :=
    (HU5.out.keeps hkg (fun b hb hs => by have h2 : b = p := hs; have := HPL.out.1; omega)).mono (fun b hb => Nat.le_trans HPL.out.2 hb.1)
  have HS6 := Lib.hid (HS5.out.keeps hkg (fun h => hpr h.symm))
  have HB6 := Lib.hid hb6
  have HBl6 := Lib.hid hk6
  have HU6 := Lib.hid hu6
  refine hK.out _ _ (fun _ => ?_) ?_
  · rw [← hw6]; exact HS6.out
  rw [← hw6]
  simp only [Act.put]
  clear hK K hw6 hb6 hkg hk6 hu6
  refine wpAnyZ_one (i := 4) (by kernel_rfl) rfl (fun K hK => ?_)
  go_simp
  refine hK.out _ _ (fun _ => HS6.out) ?_
  clear hK K
  refine wpAnyZ_done (by kernel_rfl) ?_ _
  go_wp2_with fail
  refine bodyPost_ret (results_row_tmp rfl _ _ p 28 _ (0, 0) _ rfl HB6.out Tryd.underlying28 rfl (by rw [HI.out]; rfl)) rfl ?_
  exact ⟨.slice A3 D.length c3, rfl, HU6.out, HBl6.out⟩
end Go.Proofs.YtaalbjbocbagcaaDoor
