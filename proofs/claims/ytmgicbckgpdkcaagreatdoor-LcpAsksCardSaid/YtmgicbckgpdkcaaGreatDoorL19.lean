/- Package lcp: stated, 3. -/
import Derived.Test.YtmgicbckgpdkcaaGreatDoorL18
namespace Go.Proofs.YtmgicbckgpdkcaaGreatDoor
set_option maxRecDepth 100000
set_option maxHeartbeats 4000000
open _root_.Go.Lib renaming hid → xhd
open List renaming setIfInBounds_toArray → xqA, getElem_toArray → xqB, getElem_cons_succ → xqC, getElem_cons_zero → xqD, set_cons_succ → xqE, set_cons_zero → xqF
open Go.RowKit
theorem stated_3a (v : Pure.Vals) (n : Nat) (hn : n < 4294967296) (w : World) :
  Calls Tryz.prog 59 #[y0v v, .int .i64 3, .int .i64 (n : Int)] w fun e w' => e = .returned (y0v { v with auth := v.auth || decide (n = 12723073) }) ∧ Keeps y01 w w' := by
 have HI := xhd y16
 obtain ⟨vb, hvb⟩ : ∃ q, q = w.heap.size := ⟨_, rfl⟩
 obtain ⟨w1, hw1⟩ : ∃ q, q = (w.alloc (.cells (y08 v).toArray 39)).alloc (.cells #[.int .i64 0, .int .i64 0, .int .u32 0, .bool false, .bool false, .bool false, .bool false, .int .u32 0] 39) := ⟨_, rfl⟩
 have hk1 : Keeps y01 w w1 := by rw [hw1]; exact ((Keeps.refl _ w).alloc _).alloc _
 have hV : Blk w1 vb 39 (y08 v).toArray := by rw [hw1, hvb]; exact (Blk.new w _ _).alloc _
 have hO : Blk w1 (vb + 1) 39 #[.int .i64 0, .int .i64 0, .int .u32 0, .bool false, .bool false, .bool false, .bool false, .int .u32 0] := by
  rw [hw1, show vb + 1 = (w.alloc (.cells (y08 v).toArray 39)).heap.size by rw [hvb]; simp]
  exact Blk.new _ _ _
 have z3 : w1.cell? ⟨vb, 3, none⟩ = some (.bool v.auth) := by rw [hV.cell]; rfl
 have f3 := hV.frozen 3
 have e1 : ((n : Int) == 12723073) = decide (n = 12723073) := by
  by_cases h : n = 12723073
  ·subst h; rfl
  ·rw [decide_eq_false h, beq_eq_false_iff_ne]; omega
 obtain ⟨b2, hb2⟩ : ∃ b, b = decide (n = 12723073) := ⟨_, rfl⟩
 obtain ⟨b1, hb1⟩ : ∃ b, b = v.auth := ⟨_, rfl⟩
 rw [← hb2] at e1 ⊢
 rw [← hb1] at z3 ⊢
 obtain ⟨b3, hb3⟩ : ∃ b, b = (b1 || b2) := ⟨_, rfl⟩
 rw [← hb3]
 obtain ⟨wq, hwq⟩ : ∃ q, q = w1.setCell ⟨vb, 3, none⟩ (.bool b3) := ⟨_, rfl⟩
 have KQ : Keeps (only vb) w1 wq := by rw [hwq]; exact (Keeps.refl (only vb) w1).put 3 _
 have HVQ := xhd (show Blk wq vb 39 (y08 { v with auth := b3 }).toArray by rw [hwq]; exact hV.set 3 _)
 have HOQ := xhd (hO.keeps KQ (fun e => by have e : vb + 1 = vb := e; omega))
 have HKQ := xhd (hk1.trans' KQ (fun i hi hl => by have e : i = vb := hi; omega))
 have HVB := xhd hvb
 clear hk1 hV hO KQ hn
 go_enter Tryz.func59, Tryz.ntmps59
 go_upto_region 1 with fail
 rw [← hvb]
 rw [← hw1]
 clear hw1 hvb
 have HB1 := xhd hb1
 have HB2 := xhd hb2
 clear hb1 hb2
 cases b1 <;> cases b2 <;> simp only [Bool.or_false, Bool.or_true, Bool.or_self] at hb3 <;> subst hb3
 ·go_upto_region 18 with fail
  rw [← hwq]
  clear hwq
  have y0 : wq.cell? ⟨vb, 0, none⟩ = some (.int .i64 (v.mru : Int)) := by rw [HVQ.out.cell]; rfl
  have y1 : wq.cell? ⟨vb, 1, none⟩ = some (.int .i64 (v.mrru : Int)) := by rw [HVQ.out.cell]; rfl
  have y2 : wq.cell? ⟨vb, 2, none⟩ = some (.int .u32 (v.accm : Int)) := by rw [HVQ.out.cell]; rfl
  have y3 : wq.cell? ⟨vb, 3, none⟩ = some (.bool false) := by rw [HVQ.out.cell]; rfl
  have y4 : wq.cell? ⟨vb, 4, none⟩ = some (.bool v.pfc) := by rw [HVQ.out.cell]; rfl
  have y5 : wq.cell? ⟨vb, 5, none⟩ = some (.bool v.acfc) := by rw [HVQ.out.cell]; rfl
  have y6 : wq.cell? ⟨vb, 6, none⟩ = some (.bool v.short) := by rw [HVQ.out.cell]; rfl
  have y7 : wq.cell? ⟨vb, 7, none⟩ = some (.int .u32 (v.magic : Int)) := by rw [HVQ.out.cell]; rfl
  have o0 : wq.cell? ⟨vb + 1, 0, none⟩ = some (.int .i64 0) := by rw [HOQ.out.cell]; rfl
  have p0 := HOQ.out.frozen 0
  have o1 : wq.cell? ⟨vb + 1, 1, none⟩ = some (.int .i64 0) := by rw [HOQ.out.cell]; rfl
  have p1 := HOQ.out.frozen 1
  have o2 : wq.cell? ⟨vb + 1, 2, none⟩ = some (.int .u32 0) := by rw [HOQ.out.cell]; rfl
  have p2 := HOQ.out.frozen 2
  have o3 : wq.cell? ⟨vb + 1, 3, none⟩ = some (.bool false) := by rw [HOQ.out.cell]; rfl
  have p3 := HOQ.out.frozen 3
  have o4 : wq.cell? ⟨vb + 1, 4, none⟩ = some (.bool false) := by rw [HOQ.out.cell]; rfl
  have p4 := HOQ.out.frozen 4
  have o5 : wq.cell? ⟨vb + 1, 5, none⟩ = some (.bool false) := by rw [HOQ.out.cell]; rfl
  have p5 := HOQ.out.frozen 5
  have o6 : wq.cell? ⟨vb + 1, 6, none⟩ = some (.bool false) := by rw [HOQ.out.cell]; rfl
  have p6 := HOQ.out.frozen 6
  have o7 : wq.cell? ⟨vb + 1, 7, none⟩ = some (.int .u32 0) := by rw [HOQ.out.cell]; rfl
  have p7 := HOQ.out.frozen 7
  have HZ := xhd ((((((((HOQ.out.set 0 (.int .i64 (v.mru : Int))).set 1 (.int .i64 (v.mrru : Int))).set 2 (.int .u32 (v.accm : Int))).set 3 (.bool false)).set 4 (.bool v.pfc)).set 5 (.bool v.acfc)).set 6 (.bool v.short)).set 7 (.int .u32 (v.magic : Int)))
  have HKF := xhd (HKQ.out.trans' (((((((((Keeps.refl (only (vb + 1)) wq).put 0 (.int .i64 (v.mru : Int))).put 1 (.int .i64 (v.mrru : Int))).put 2 (.int .u32 (v.accm : Int))).put 3 (.bool false)).put 4 (.bool v.pfc)).put 5 (.bool v.acfc)).put 6 (.bool v.short)).put 7 (.int .u32 (v.magic : Int))) (fun i hi hl => by have e : i = vb + 1 := hi; have := HVB.out; omega))
  go_wp2_with fail
  refine bodyPost_ret (y0b rfl _ _ (vb + 1) 39 _ (0, 0) _ rfl HZ.out Tryz.underlying39 rfl (by rw [HI.out]; rfl)) rfl ?_
  exact ⟨rfl, HKF.out⟩
 ·go_upto_region 18 with fail
  rw [← hwq]
  clear hwq
  have y0 : wq.cell? ⟨vb, 0, none⟩ = some (.int .i64 (v.mru : Int)) := by rw [HVQ.out.cell]; rfl
  have y1 : wq.cell? ⟨vb, 1, none⟩ = some (.int .i64 (v.mrru : Int)) := by rw [HVQ.out.cell]; rfl
  have y2 : wq.cell? ⟨vb, 2, none⟩ = some (.int .u32 (v.accm : Int)) := by rw [HVQ.out.cell]; rfl
  have y3 : wq.cell? ⟨vb, 3, none⟩ = some (.bool true) := by rw [HVQ.out.cell]; rfl
  have y4 : wq.cell? ⟨vb, 4, none⟩ = some (.bool v.pfc) := by rw [HVQ.out.cell]; rfl
  have y5 : wq.cell? ⟨vb, 5, none⟩ = some (.bool v.acfc) := by rw [HVQ.out.cell]; rfl
  have y6 : wq.cell? ⟨vb, 6, none⟩ = some (.bool v.short) := by rw [HVQ.out.cell]; rfl
  have y7 : wq.cell? ⟨vb, 7, none⟩ = some (.int .u32 (v.magic : Int)) := by rw [HVQ.out.cell]; rfl
  have o0 : wq.cell? ⟨vb + 1, 0, none⟩ = some (.int .i64 0) := by rw [HOQ.out.cell]; rfl
  have p0 := HOQ.out.frozen 0
  have o1 : wq.cell? ⟨vb + 1, 1, none⟩ = some (.int .i64 0) := by rw [HOQ.out.cell]; rfl
  have p1 := HOQ.out.frozen 1
  have o2 : wq.cell? ⟨vb + 1, 2, none⟩ = some (.int .u32 0) := by rw [HOQ.out.cell]; rfl
  have p2 := HOQ.out.frozen 2
  have o3 : wq.cell? ⟨vb + 1, 3, none⟩ = some (.bool false) := by rw [HOQ.out.cell]; rfl
  have p3 := HOQ.out.frozen 3
  have o4 : wq.cell? ⟨vb + 1, 4, none⟩ = some (.bool false) := by rw [HOQ.out.cell]; rfl
  have p4 := HOQ.out.frozen 4
  have o5 : wq.cell? ⟨vb + 1, 5, none⟩ = some (.bool false) := by rw [HOQ.out.cell]; rfl
  have p5 := HOQ.out.frozen 5
  have o6 : wq.cell? ⟨vb + 1, 6, none⟩ = some (.bool false) := by rw [HOQ.out.cell]; rfl
  have p6 := HOQ.out.frozen 6
  have o7 : wq.cell? ⟨vb + 1, 7, none⟩ = some (.int .u32 0) := by rw [HOQ.out.cell]; rfl
  have p7 := HOQ.out.frozen 7
  have HZ := xhd ((((((((HOQ.out.set 0 (.int .i64 (v.mru : Int))).set 1 (.int .i64 (v.mrru : Int))).set 2 (.int .u32 (v.accm : Int))).set 3 (.bool true)).set 4 (.bool v.pfc)).set 5 (.bool v.acfc)).set 6 (.bool v.short)).set 7 (.int .u32 (v.magic : Int)))
  have HKF := xhd (HKQ.out.trans' (((((((((Keeps.refl (only (vb + 1)) wq).put 0 (.int .i64 (v.mru : Int))).put 1 (.int .i64 (v.mrru : Int))).put 2 (.int .u32 (v.accm : Int))).put 3 (.bool true)).put 4 (.bool v.pfc)).put 5 (.bool v.acfc)).put 6 (.bool v.short)).put 7 (.int .u32 (v.magic : Int))) (fun i hi hl => by have e : i = vb + 1 := hi; have := HVB.out; omega))
  go_wp2_with fail
  refine bodyPost_ret (y0b rfl _ _ (vb + 1) 39 _ (0, 0) _ rfl HZ.out Tryz.underlying39 rfl (by rw [HI.out]; rfl)) rfl ?_
  exact ⟨rfl, HKF.out⟩
 ·go_upto_region 18 with fail
  rw [← hwq]
  clear hwq
  have y0 : wq.cell? ⟨vb, 0, none⟩ = some (.int .i64 (v.mru : Int)) := by rw [HVQ.out.cell]; rfl
  have y1 : wq.cell? ⟨vb, 1, none⟩ = some (.int .i64 (v.mrru : Int)) := by rw [HVQ.out.cell]; rfl
  have y2 : wq.cell? ⟨vb, 2, none⟩ = some (.int .u32 (v.accm : Int)) := by rw [HVQ.out.cell]; rfl
  have y3 : wq.cell? ⟨vb, 3, none⟩ = some (.bool true) := by rw [HVQ.out.cell]; rfl
  have y4 : wq.cell? ⟨vb, 4, none⟩ = some (.bool v.pfc) := by rw [HVQ.out.cell]; rfl
  have y5 : wq.cell? ⟨vb, 5, none⟩ = some (.bool v.acfc) := by rw [HVQ.out.cell]; rfl
  have y6 : wq.cell? ⟨vb, 6, none⟩ = some (.bool v.short) := by rw [HVQ.out.cell]; rfl
  have y7 : wq.cell? ⟨vb, 7, none⟩ = some (.int .u32 (v.magic : Int)) := by rw [HVQ.out.cell]; rfl
  have o0 : wq.cell? ⟨vb + 1, 0, none⟩ = some (.int .i64 0) := by rw [HOQ.out.cell]; rfl
  have p0 := HOQ.out.frozen 0
  have o1 : wq.cell? ⟨vb + 1, 1, none⟩ = some (.int .i64 0) := by rw [HOQ.out.cell]; rfl
  have p1 := HOQ.out.frozen 1
  have o2 : wq.cell? ⟨vb + 1, 2, none⟩ = some (.int .u32 0) := by rw [HOQ.out.cell]; rfl
  have p2 := HOQ.out.frozen 2
  have o3 : wq.cell? ⟨vb + 1, 3, none⟩ = some (.bool false) := by rw [HOQ.out.cell]; rfl
  have p3 := HOQ.out.frozen 3
  have o4 : wq.cell? ⟨vb + 1, 4, none⟩ = some (.bool false) := by rw [HOQ.out.cell]; rfl
  have p4 := HOQ.out.frozen 4
  have o5 : wq.cell? ⟨vb + 1, 5, none⟩ = some (.bool false) := by rw [HOQ.out.cell]; rfl
  have p5 := HOQ.out.frozen 5
  have o6 : wq.cell? ⟨vb + 1, 6, none⟩ = some (.bool false) := by rw [HOQ.out.cell]; rfl
  have p6 := HOQ.out.frozen 6
  have o7 : wq.cell? ⟨vb + 1, 7, none⟩ = some (.int .u32 0) := by rw [HOQ.out.cell]; rfl
  have p7 := HOQ.out.frozen 7
  have HZ := xhd ((((((((HOQ.out.set 0 (.int .i64 (v.mru : Int))).set 1 (.int .i64 (v.mrru : Int))).set 2 (.int .u32 (v.accm : Int))).set 3 (.bool true)).set 4 (.bool v.pfc)).set 5 (.bool v.acfc)).set 6 (.bool v.short)).set 7 (.int .u32 (v.magic : Int)))
  have HKF := xhd (HKQ.out.trans' (((((((((Keeps.refl (only (vb + 1)) wq).put 0 (.int .i64 (v.mru : Int))).put 1 (.int .i64 (v.mrru : Int))).put 2 (.int .u32 (v.accm : Int))).put 3 (.bool true)).put 4 (.bool v.pfc)).put 5 (.bool v.acfc)).put 6 (.bool v.short)).put 7 (.int .u32 (v.magic : Int))) (fun i hi hl => by have e : i = vb + 1 := hi; have := HVB.out; omega))
  go_wp2_with fail
  refine bodyPost_ret (y0b rfl _ _ (vb + 1) 39 _ (0, 0) _ rfl HZ.out Tryz.underlying39 rfl (by rw [HI.out]; rfl)) rfl ?_
  exact ⟨rfl, HKF.out⟩
 ·go_upto_region 18 with fail
  rw [← hwq]
  clear hwq
  have y0 : wq.cell? ⟨vb, 0, none⟩ = some (.int .i64 (v.mru : Int)) := by rw [HVQ.out.cell]; rfl
  have y1 : wq.cell? ⟨vb, 1, none⟩ = some (.int .i64 (v.mrru : Int)) := by rw [HVQ.out.cell]; rfl
  have y2 : wq.cell? ⟨vb, 2, none⟩ = some (.int .u32 (v.accm : Int)) := by rw [HVQ.out.cell]; rfl
  have y3 : wq.cell? ⟨vb, 3, none⟩ = some (.bool true) := by rw [HVQ.out.cell]; rfl
  have y4 : wq.cell? ⟨vb, 4, none⟩ = some (.bool v.pfc) := by rw [HVQ.out.cell]; rfl
  have y5 : wq.cell? ⟨vb, 5, none⟩ = some (.bool v.acfc) := by rw [HVQ.out.cell]; rfl
  have y6 : wq.cell? ⟨vb, 6, none⟩ = some (.bool v.short) := by rw [HVQ.out.cell]; rfl
  have y7 : wq.cell? ⟨vb, 7, none⟩ = some (.int .u32 (v.magic : Int)) := by rw [HVQ.out.cell]; rfl
  have o0 : wq.cell? ⟨vb + 1, 0, none⟩ = some (.int .i64 0) := by rw [HOQ.out.cell]; rfl
  have p0 := HOQ.out.frozen 0
  have o1 : wq.cell? ⟨vb + 1, 1, none⟩ = some (.int .i64 0) := by rw [HOQ.out.cell]; rfl
  have p1 := HOQ.out.frozen 1
  have o2 : wq.cell? ⟨vb + 1, 2, none⟩ = some (.int .u32 0) := by rw [HOQ.out.cell]; rfl
  have p2 := HOQ.out.frozen 2
  have o3 : wq.cell? ⟨vb + 1, 3, none⟩ = some (.bool false) := by rw [HOQ.out.cell]; rfl
  have p3 := HOQ.out.frozen 3
  have o4 : wq.cell? ⟨vb + 1, 4, none⟩ = some (.bool false) := by rw [HOQ.out.cell]; rfl
  have p4 := HOQ.out.frozen 4
  have o5 : wq.cell? ⟨vb + 1, 5, none⟩ = some (.bool false) := by rw [HOQ.out.cell]; rfl
  have p5 := HOQ.out.frozen 5
  have o6 : wq.cell? ⟨vb + 1, 6, none⟩ = some (.bool false) := by rw [HOQ.out.cell]; rfl
  have p6 := HOQ.out.frozen 6
  have o7 : wq.cell? ⟨vb + 1, 7, none⟩ = some (.int .u32 0) := by rw [HOQ.out.cell]; rfl
  have p7 := HOQ.out.frozen 7
  have HZ := xhd ((((((((HOQ.out.set 0 (.int .i64 (v.mru : Int))).set 1 (.int .i64 (v.mrru : Int))).set 2 (.int .u32 (v.accm : Int))).set 3 (.bool true)).set 4 (.bool v.pfc)).set 5 (.bool v.acfc)).set 6 (.bool v.short)).set 7 (.int .u32 (v.magic : Int)))
  have HKF := xhd (HKQ.out.trans' (((((((((Keeps.refl (only (vb + 1)) wq).put 0 (.int .i64 (v.mru : Int))).put 1 (.int .i64 (v.mrru : Int))).put 2 (.int .u32 (v.accm : Int))).put 3 (.bool true)).put 4 (.bool v.pfc)).put 5 (.bool v.acfc)).put 6 (.bool v.short)).put 7 (.int .u32 (v.magic : Int))) (fun i hi hl => by have e : i = vb + 1 := hi; have := HVB.out; omega))
  go_wp2_with fail
  refine bodyPost_ret (y0b rfl _ _ (vb + 1) 39 _ (0, 0) _ rfl HZ.out Tryz.underlying39 rfl (by rw [HI.out]; rfl)) rfl ?_
  exact ⟨rfl, HKF.out⟩
theorem stated_5 (v : Pure.Vals) (n : Nat) (hn : n < 4294967296) (w : World) :
  Calls Tryz.prog 59 #[y0v v, .int .i64 5, .int .i64 (n : Int)] w fun e w' => e = .returned (y0v { v with magic := n }) ∧ Keeps y01 w w' := by
 have HI := xhd y16
 obtain ⟨vb, hvb⟩ : ∃ q, q = w.heap.size := ⟨_, rfl⟩
 obtain ⟨w1, hw1⟩ : ∃ q, q = (w.alloc (.cells (y08 v).toArray 39)).alloc (.cells #[.int .i64 0, .int .i64 0, .int .u32 0, .bool false, .bool false, .bool false, .bool false, .int .u32 0] 39) := ⟨_, rfl⟩
 have hk1 : Keeps y01 w w1 := by rw [hw1]; exact ((Keeps.refl _ w).alloc _).alloc _
 have hV : Blk w1 vb 39 (y08 v).toArray := by rw [hw1, hvb]; exact (Blk.new w _ _).alloc _
 have hO : Blk w1 (vb + 1) 39 #[.int .i64 0, .int .i64 0, .int .u32 0, .bool false, .bool false, .bool false, .bool false, .int .u32 0] := by
  rw [hw1, show vb + 1 = (w.alloc (.cells (y08 v).toArray 39)).heap.size by rw [hvb]; simp]
  exact Blk.new _ _ _
 have z7 : w1.cell? ⟨vb, 7, none⟩ = some (.int .u32 (v.magic : Int)) := by rw [hV.cell]; rfl
 have f7 := hV.frozen 7
 have e1 : IntKind.u32.wrap (n : Int) = (n : Int) := by show (n : Int) % 4294967296 = _; omega
 obtain ⟨wq, hwq⟩ : ∃ q, q = w1.setCell ⟨vb, 7, none⟩ (.int .u32 (n : Int)) := ⟨_, rfl⟩
 have KQ : Keeps (only vb) w1 wq := by rw [hwq]; exact (Keeps.refl (only vb) w1).put 7 _
 have HVQ := xhd (show Blk wq vb 39 (y08 { v with magic := n }).toArray by rw [hwq]; exact hV.set 7 _)
 have HOQ := xhd (hO.keeps KQ (fun e => by have e : vb + 1 = vb := e; omega))
 have HKQ := xhd (hk1.trans' KQ (fun i hi hl => by have e : i = vb := hi; omega))
 have HVB := xhd hvb
 clear hk1 hV hO KQ hn
 go_enter Tryz.func59, Tryz.ntmps59
 go_upto_region 1 with fail
 rw [← hvb]
 rw [← hw1]
 clear hw1 hvb
 go_upto_region 18 with fail
 rw [← hwq]
 clear hwq
 have y0 : wq.cell? ⟨vb, 0, none⟩ = some (.int .i64 (v.mru : Int)) := by rw [HVQ.out.cell]; rfl
 have y1 : wq.cell? ⟨vb, 1, none⟩ = some (.int .i64 (v.mrru : Int)) := by rw [HVQ.out.cell]; rfl
 have y2 : wq.cell? ⟨vb, 2, none⟩ = some (.int .u32 (v.accm : Int)) := by rw [HVQ.out.cell]; rfl
 have y3 : wq.cell? ⟨vb, 3, none⟩ = some (.bool v.auth) := by rw [HVQ.out.cell]; rfl
 have y4 : wq.cell? ⟨vb, 4, none⟩ = some (.bool v.pfc) := by rw [HVQ.out.cell]; rfl
 have y5 : wq.cell? ⟨vb, 5, none⟩ = some (.bool v.acfc) := by rw [HVQ.out.cell]; rfl
 have y6 : wq.cell? ⟨vb, 6, none⟩ = some (.bool v.short) := by rw [HVQ.out.cell]; rfl
 have y7 : wq.cell? ⟨vb, 7, none⟩ = some (.int .u32 (n : Int)) := by rw [HVQ.out.cell]; rfl
 have o0 : wq.cell? ⟨vb + 1, 0, none⟩ = some (.int .i64 0) := by rw [HOQ.out.cell]; rfl
 have p0 := HOQ.out.frozen 0
 have o1 : wq.cell? ⟨vb + 1, 1, none⟩ = some (.int .i64 0) := by rw [HOQ.out.cell]; rfl
 have p1 := HOQ.out.frozen 1
 have o2 : wq.cell? ⟨vb + 1, 2, none⟩ = some (.int .u32 0) := by rw [HOQ.out.cell]; rfl
 have p2 := HOQ.out.frozen 2
 have o3 : wq.cell? ⟨vb + 1, 3, none⟩ = some (.bool false) := by rw [HOQ.out.cell]; rfl
 have p3 := HOQ.out.frozen 3
 have o4 : wq.cell? ⟨vb + 1, 4, none⟩ = some (.bool false) := by rw [HOQ.out.cell]; rfl
 have p4 := HOQ.out.frozen 4
 have o5 : wq.cell? ⟨vb + 1, 5, none⟩ = some (.bool false) := by rw [HOQ.out.cell]; rfl
 have p5 := HOQ.out.frozen 5
 have o6 : wq.cell? ⟨vb + 1, 6, none⟩ = some (.bool false) := by rw [HOQ.out.cell]; rfl
 have p6 := HOQ.out.frozen 6
 have o7 : wq.cell? ⟨vb + 1, 7, none⟩ = some (.int .u32 0) := by rw [HOQ.out.cell]; rfl
 have p7 := HOQ.out.frozen 7
 have HZ := xhd ((((((((HOQ.out.set 0 (.int .i64 (v.mru : Int))).set 1 (.int .i64 (v.mrru : Int))).set 2 (.int .u32 (v.accm : Int))).set 3 (.bool v.auth)).set 4 (.bool v.pfc)).set 5 (.bool v.acfc)).set 6 (.bool v.short)).set 7 (.int .u32 (n : Int)))
 have HKF := xhd (HKQ.out.trans' (((((((((Keeps.refl (only (vb + 1)) wq).put 0 (.int .i64 (v.mru : Int))).put 1 (.int .i64 (v.mrru : Int))).put 2 (.int .u32 (v.accm : Int))).put 3 (.bool v.auth)).put 4 (.bool v.pfc)).put 5 (.bool v.acfc)).put 6 (.bool v.short)).put 7 (.int .u32 (n : Int))) (fun i hi hl => by have e : i = vb + 1 := hi; have := HVB.out; omega))
 go_wp2_with fail
 refine bodyPost_ret (y0b rfl _ _ (vb + 1) 39 _ (0, 0) _ rfl HZ.out Tryz.underlying39 rfl (by rw [HI.out]; rfl)) rfl ?_
 exact ⟨rfl, HKF.out⟩
theorem stated_7 (v : Pure.Vals) (n : Nat) (_ : n < 4294967296) (w : World) :
  Calls Tryz.prog 59 #[y0v v, .int .i64 7, .int .i64 (n : Int)] w fun e w' => e = .returned (y0v { v with pfc := true }) ∧ Keeps y01 w w' := by
 have HI := xhd y16
 obtain ⟨vb, hvb⟩ : ∃ q, q = w.heap.size := ⟨_, rfl⟩
 obtain ⟨w1, hw1⟩ : ∃ q, q = (w.alloc (.cells (y08 v).toArray 39)).alloc (.cells #[.int .i64 0, .int .i64 0, .int .u32 0, .bool false, .bool false, .bool false, .bool false, .int .u32 0] 39) := ⟨_, rfl⟩
 have hk1 : Keeps y01 w w1 := by rw [hw1]; exact ((Keeps.refl _ w).alloc _).alloc _
 have hV : Blk w1 vb 39 (y08 v).toArray := by rw [hw1, hvb]; exact (Blk.new w _ _).alloc _
 have hO : Blk w1 (vb + 1) 39 #[.int .i64 0, .int .i64 0, .int .u32 0, .bool false, .bool false, .bool false, .bool false, .int .u32 0] := by
  rw [hw1, show vb + 1 = (w.alloc (.cells (y08 v).toArray 39)).heap.size by rw [hvb]; simp]
  exact Blk.new _ _ _
 have z4 : w1.cell? ⟨vb, 4, none⟩ = some (.bool v.pfc) := by rw [hV.cell]; rfl
 have f4 := hV.frozen 4
 obtain ⟨wq, hwq⟩ : ∃ q, q = w1.setCell ⟨vb, 4, none⟩ (.bool true) := ⟨_, rfl⟩
 have KQ : Keeps (only vb) w1 wq := by rw [hwq]; exact (Keeps.refl (only vb) w1).put 4 _
 have HVQ := xhd (show Blk wq vb 39 (y08 { v with pfc := true }).toArray by rw [hwq]; exact hV.set 4 _)
 have HOQ := xhd (hO.keeps KQ (fun e => by have e : vb + 1 = vb := e; omega))
 have HKQ := xhd (hk1.trans' KQ (fun i hi hl => by have e : i = vb := hi; omega))
 have HVB := xhd hvb
 clear hk1 hV hO KQ
 go_enter Tryz.func59, Tryz.ntmps59
 go_upto_region 1 with fail
 rw [← hvb]
 rw [← hw1]
 clear hw1 hvb
 go_upto_region 18 with fail
 rw [← hwq]
 clear hwq
 have y0 : wq.cell? ⟨vb, 0, none⟩ = some (.int .i64 (v.mru : Int)) := by rw [HVQ.out.cell]; rfl
 have y1 : wq.cell? ⟨vb, 1, none⟩ = some (.int .i64 (v.mrru : Int)) := by rw [HVQ.out.cell]; rfl
 have y2 : wq.cell? ⟨vb, 2, none⟩ = some (.int .u32 (v.accm : Int)) := by rw [HVQ.out.cell]; rfl
 have y3 : wq.cell? ⟨vb, 3, none⟩ = some (.bool v.auth) := by rw [HVQ.out.cell]; rfl
 have y4 : wq.cell? ⟨vb, 4, none⟩ = some (.bool true) := by rw [HVQ.out.cell]; rfl
 have y5 : wq.cell? ⟨vb, 5, none⟩ = some (.bool v.acfc) := by rw [HVQ.out.cell]; rfl
 have y6 : wq.cell? ⟨vb, 6, none⟩ = some (.bool v.short) := by rw [HVQ.out.cell]; rfl
 have y7 : wq.cell? ⟨vb, 7, none⟩ = some (.int .u32 (v.magic : Int)) := by rw [HVQ.out.cell]; rfl
 have o0 : wq.cell? ⟨vb + 1, 0, none⟩ = some (.int .i64 0) := by rw [HOQ.out.cell]; rfl
 have p0 := HOQ.out.frozen 0
 have o1 : wq.cell? ⟨vb + 1, 1, none⟩ = some (.int .i64 0) := by rw [HOQ.out.cell]; rfl
 have p1 := HOQ.out.frozen 1
 have o2 : wq.cell? ⟨vb + 1, 2, none⟩ = some (.int .u32 0) := by rw [HOQ.out.cell]; rfl
 have p2 := HOQ.out.frozen 2
 have o3 : wq.cell? ⟨vb + 1, 3, none⟩ = some (.bool false) := by rw [HOQ.out.cell]; rfl
 have p3 := HOQ.out.frozen 3
 have o4 : wq.cell? ⟨vb + 1, 4, none⟩ = some (.bool false) := by rw [HOQ.out.cell]; rfl
 have p4 := HOQ.out.frozen 4
 have o5 : wq.cell? ⟨vb + 1, 5, none⟩ = some (.bool false) := by rw [HOQ.out.cell]; rfl
 have p5 := HOQ.out.frozen 5
 have o6 : wq.cell? ⟨vb + 1, 6, none⟩ = some (.bool false) := by rw [HOQ.out.cell]; rfl
 have p6 := HOQ.out.frozen 6
 have o7 : wq.cell? ⟨vb + 1, 7, none⟩ = some (.int .u32 0) := by rw [HOQ.out.cell]; rfl
 have p7 := HOQ.out.frozen 7
 have HZ := xhd ((((((((HOQ.out.set 0 (.int .i64 (v.mru : Int))).set 1 (.int .i64 (v.mrru : Int))).set 2 (.int .u32 (v.accm : Int))).set 3 (.bool v.auth)).set 4 (.bool true)).set 5 (.bool v.acfc)).set 6 (.bool v.short)).set 7 (.int .u32 (v.magic : Int)))
 have HKF := xhd (HKQ.out.trans' (((((((((Keeps.refl (only (vb + 1)) wq).put 0 (.int .i64 (v.mru : Int))).put 1 (.int .i64 (v.mrru : Int))).put 2 (.int .u32 (v.accm : Int))).put 3 (.bool v.auth)).put 4 (.bool true)).put 5 (.bool v.acfc)).put 6 (.bool v.short)).put 7 (.int .u32 (v.magic : Int))) (fun i hi hl => by have e : i = vb + 1 := hi; have := HVB.out; omega))
 go_wp2_with fail
 refine bodyPost_ret (y0b rfl _ _ (vb + 1) 39 _ (0, 0) _ rfl HZ.out Tryz.underlying39 rfl (by rw [HI.out]; rfl)) rfl ?_
 exact ⟨rfl, HKF.out⟩
theorem stated_8 (v : Pure.Vals) (n : Nat) (_ : n < 4294967296) (w : World) :
  Calls Tryz.prog 59 #[y0v v, .int .i64 8, .int .i64 (n : Int)] w fun e w' => e = .returned (y0v { v with acfc := true }) ∧ Keeps y01 w w' := by
 have HI := xhd y16
 obtain ⟨vb, hvb⟩ : ∃ q, q = w.heap.size := ⟨_, rfl⟩
 obtain ⟨w1, hw1⟩ : ∃ q, q = (w.alloc (.cells (y08 v).toArray 39)).alloc (.cells #[.int .i64 0, .int .i64 0, .int .u32 0, .bool false, .bool false, .bool false, .bool false, .int .u32 0] 39) := ⟨_, rfl⟩
 have hk1 : Keeps y01 w w1 := by rw [hw1]; exact ((Keeps.refl _ w).alloc _).alloc _
 have hV : Blk w1 vb 39 (y08 v).toArray := by rw [hw1, hvb]; exact (Blk.new w _ _).alloc _
 have hO : Blk w1 (vb + 1) 39 #[.int .i64 0, .int .i64 0, .int .u32 0, .bool false, .bool false, .bool false, .bool false, .int .u32 0] := by
  rw [hw1, show vb + 1 = (w.alloc (.cells (y08 v).toArray 39)).heap.size by rw [hvb]; simp]
  exact Blk.new _ _ _
 have z5 : w1.cell? ⟨vb, 5, none⟩ = some (.bool v.acfc) := by rw [hV.cell]; rfl
 have f5 := hV.frozen 5
 obtain ⟨wq, hwq⟩ : ∃ q, q = w1.setCell ⟨vb, 5, none⟩ (.bool true) := ⟨_, rfl⟩
 have KQ : Keeps (only vb) w1 wq := by rw [hwq]; exact (Keeps.refl (only vb) w1).put 5 _
 have HVQ := xhd (show Blk wq vb 39 (y08 { v with acfc := true }).toArray by rw [hwq]; exact hV.set 5 _)
 have HOQ := xhd (hO.keeps KQ (fun e => by have e : vb + 1 = vb := e; omega))
 have HKQ := xhd (hk1.trans' KQ (fun i hi hl => by have e : i = vb := hi; omega))
 have HVB := xhd hvb
 clear hk1 hV hO KQ
 go_enter Tryz.func59, Tryz.ntmps59
 go_upto_region 1 with fail
 rw [← hvb]
 rw [← hw1]
 clear hw1 hvb
 go_upto_region 18 with fail
 rw [← hwq]
 clear hwq
 have y0 : wq.cell? ⟨vb, 0, none⟩ = some (.int .i64 (v.mru : Int)) := by rw [HVQ.out.cell]; rfl
 have y1 : wq.cell? ⟨vb, 1, none⟩ = some (.int .i64 (v.mrru : Int)) := by rw [HVQ.out.cell]; rfl
 have y2 : wq.cell? ⟨vb, 2, none⟩ = some (.int .u32 (v.accm : Int)) := by rw [HVQ.out.cell]; rfl
 have y3 : wq.cell? ⟨vb, 3, none⟩ = some (.bool v.auth) := by rw [HVQ.out.cell]; rfl
 have y4 : wq.cell? ⟨vb, 4, none⟩ = some (.bool v.pfc) := by rw [HVQ.out.cell]; rfl
 have y5 : wq.cell? ⟨vb, 5, none⟩ = some (.bool true) := by rw [HVQ.out.cell]; rfl
 have y6 : wq.cell? ⟨vb, 6, none⟩ = some (.bool v.short) := by rw [HVQ.out.cell]; rfl
 have y7 : wq.cell? ⟨vb, 7, none⟩ = some (.int .u32 (v.magic : Int)) := by rw [HVQ.out.cell]; rfl
 have o0 : wq.cell? ⟨vb + 1, 0, none⟩ = some (.int .i64 0) := by rw [HOQ.out.cell]; rfl
 have p0 := HOQ.out.frozen 0
 have o1 : wq.cell? ⟨vb + 1, 1, none⟩ = some (.int .i64 0) := by rw [HOQ.out.cell]; rfl
 have p1 := HOQ.out.frozen 1
 have o2 : wq.cell? ⟨vb + 1, 2, none⟩ = some (.int .u32 0) := by rw [HOQ.out.cell]; rfl
 have p2 := HOQ.out.frozen 2
 have o3 : wq.cell? ⟨vb + 1, 3, none⟩ = some (.bool false) := by rw [HOQ.out.cell]; rfl
 have p3 := HOQ.out.frozen 3
 have o4 : wq.cell? ⟨vb + 1, 4, none⟩ = some (.bool false) := by rw [HOQ.out.cell]; rfl
 have p4 := HOQ.out.frozen 4
 have o5 : wq.cell? ⟨vb + 1, 5, none⟩ = some (.bool false) := by rw [HOQ.out.cell]; rfl
 have p5 := HOQ.out.frozen 5
 have o6 : wq.cell? ⟨vb + 1, 6, none⟩ = some (.bool false) := by rw [HOQ.out.cell]; rfl
 have p6 := HOQ.out.frozen 6
 have o7 : wq.cell? ⟨vb + 1, 7, none⟩ = some (.int .u32 0) := by rw [HOQ.out.cell]; rfl
 have p7 := HOQ.out.frozen 7
 have HZ := xhd ((((((((HOQ.out.set 0 (.int .i64 (v.mru : Int))).set 1 (.int .i64 (v.mrru : Int))).set 2 (.int .u32 (v.accm : Int))).set 3 (.bool v.auth)).set 4 (.bool v.pfc)).set 5 (.bool true)).set 6 (.bool v.short)).set 7 (.int .u32 (v.magic : Int)))
 have HKF := xhd (HKQ.out.trans' (((((((((Keeps.refl (only (vb + 1)) wq).put 0 (.int .i64 (v.mru : Int))).put 1 (.int .i64 (v.mrru : Int))).put 2 (.int .u32 (v.accm : Int))).put 3 (.bool v.auth)).put 4 (.bool v.pfc)).put 5 (.bool true)).put 6 (.bool v.short)).put 7 (.int .u32 (v.magic : Int))) (fun i hi hl => by have e : i = vb + 1 := hi; have := HVB.out; omega))
 go_wp2_with fail
 refine bodyPost_ret (y0b rfl _ _ (vb + 1) 39 _ (0, 0) _ rfl HZ.out Tryz.underlying39 rfl (by rw [HI.out]; rfl)) rfl ?_
 exact ⟨rfl, HKF.out⟩
theorem stated_17 (v : Pure.Vals) (n : Nat) (_ : n < 4294967296) (w : World) :
  Calls Tryz.prog 59 #[y0v v, .int .i64 17, .int .i64 (n : Int)] w fun e w' => e = .returned (y0v { v with mrru := n }) ∧ Keeps y01 w w' := by
 have HI := xhd y16
 obtain ⟨vb, hvb⟩ : ∃ q, q = w.heap.size := ⟨_, rfl⟩
 obtain ⟨w1, hw1⟩ : ∃ q, q = (w.alloc (.cells (y08 v).toArray 39)).alloc (.cells #[.int .i64 0, .int .i64 0, .int .u32 0, .bool false, .bool false, .bool false, .bool false, .int .u32 0] 39) := ⟨_, rfl⟩
 have hk1 : Keeps y01 w w1 := by rw [hw1]; exact ((Keeps.refl _ w).alloc _).alloc _
 have hV : Blk w1 vb 39 (y08 v).toArray := by rw [hw1, hvb]; exact (Blk.new w _ _).alloc _
 have hO : Blk w1 (vb + 1) 39 #[.int .i64 0, .int .i64 0, .int .u32 0, .bool false, .bool false, .bool false, .bool false, .int .u32 0] := by
  rw [hw1, show vb + 1 = (w.alloc (.cells (y08 v).toArray 39)).heap.size by rw [hvb]; simp]
  exact Blk.new _ _ _
 have z1 : w1.cell? ⟨vb, 1, none⟩ = some (.int .i64 (v.mrru : Int)) := by rw [hV.cell]; rfl
 have f1 := hV.frozen 1
 obtain ⟨wq, hwq⟩ : ∃ q, q = w1.setCell ⟨vb, 1, none⟩ (.int .i64 (n : Int)) := ⟨_, rfl⟩
 have KQ : Keeps (only vb) w1 wq := by rw [hwq]; exact (Keeps.refl (only vb) w1).put 1 _
 have HVQ := xhd (show Blk wq vb 39 (y08 { v with mrru := n }).toArray by rw [hwq]; exact hV.set 1 _)
 have HOQ := xhd (hO.keeps KQ (fun e => by have e : vb + 1 = vb := e; omega))
 have HKQ := xhd (hk1.trans' KQ (fun i hi hl => by have e : i = vb := hi; omega))
 have HVB := xhd hvb
 clear hk1 hV hO KQ
 go_enter Tryz.func59, Tryz.ntmps59
 go_upto_region 1 with fail
 rw [← hvb]
 rw [← hw1]
 clear hw1 hvb
 go_upto_region 18 with fail
 rw [← hwq]
 clear hwq
 have y0 : wq.cell? ⟨vb, 0, none⟩ = some (.int .i64 (v.mru : Int)) := by rw [HVQ.out.cell]; rfl
 have y1 : wq.cell? ⟨vb, 1, none⟩ = some (.int .i64 (n : Int)) := by rw [HVQ.out.cell]; rfl
 have y2 : wq.cell? ⟨vb, 2, none⟩ = some (.int .u32 (v.accm : Int)) := by rw [HVQ.out.cell]; rfl
 have y3 : wq.cell? ⟨vb, 3, none⟩ = some (.bool v.auth) := by rw [HVQ.out.cell]; rfl
 have y4 : wq.cell? ⟨vb, 4, none⟩ = some (.bool v.pfc) := by rw [HVQ.out.cell]; rfl
 have y5 : wq.cell? ⟨vb, 5, none⟩ = some (.bool v.acfc) := by rw [HVQ.out.cell]; rfl
 have y6 : wq.cell? ⟨vb, 6, none⟩ = some (.bool v.short) := by rw [HVQ.out.cell]; rfl
 have y7 : wq.cell? ⟨vb, 7, none⟩ = some (.int .u32 (v.magic : Int)) := by rw [HVQ.out.cell]; rfl
 have o0 : wq.cell? ⟨vb + 1, 0, none⟩ = some (.int .i64 0) := by rw [HOQ.out.cell]; rfl
 have p0 := HOQ.out.frozen 0
 have o1 : wq.cell? ⟨vb + 1, 1, none⟩ = some (.int .i64 0) := by rw [HOQ.out.cell]; rfl
 have p1 := HOQ.out.frozen 1
 have o2 : wq.cell? ⟨vb + 1, 2, none⟩ = some (.int .u32 0) := by rw [HOQ.out.cell]; rfl
 have p2 := HOQ.out.frozen 2
 have o3 : wq.cell? ⟨vb + 1, 3, none⟩ = some (.bool false) := by rw [HOQ.out.cell]; rfl
 have p3 := HOQ.out.frozen 3
 have o4 : wq.cell? ⟨vb + 1, 4, none⟩ = some (.bool false) := by rw [HOQ.out.cell]; rfl
 have p4 := HOQ.out.frozen 4
 have o5 : wq.cell? ⟨vb + 1, 5, none⟩ = some (.bool false) := by rw [HOQ.out.cell]; rfl
 have p5 := HOQ.out.frozen 5
 have o6 : wq.cell? ⟨vb + 1, 6, none⟩ = some (.bool false) := by rw [HOQ.out.cell]; rfl
 have p6 := HOQ.out.frozen 6
 have o7 : wq.cell? ⟨vb + 1, 7, none⟩ = some (.int .u32 0) := by rw [HOQ.out.cell]; rfl
 have p7 := HOQ.out.frozen 7
 have HZ := xhd ((((((((HOQ.out.set 0 (.int .i64 (v.mru : Int))).set 1 (.int .i64 (n : Int))).set 2 (.int .u32 (v.accm : Int))).set 3 (.bool v.auth)).set 4 (.bool v.pfc)).set 5 (.bool v.acfc)).set 6 (.bool v.short)).set 7 (.int .u32 (v.magic : Int)))
 have HKF := xhd (HKQ.out.trans' (((((((((Keeps.refl (only (vb + 1)) wq).put 0 (.int .i64 (v.mru : Int))).put 1 (.int .i64 (n : Int))).put 2 (.int .u32 (v.accm : Int))).put 3 (.bool v.auth)).put 4 (.bool v.pfc)).put 5 (.bool v.acfc)).put 6 (.bool v.short)).put 7 (.int .u32 (v.magic : Int))) (fun i hi hl => by have e : i = vb + 1 := hi; have := HVB.out; omega))
 go_wp2_with fail
 refine bodyPost_ret (y0b rfl _ _ (vb + 1) 39 _ (0, 0) _ rfl HZ.out Tryz.underlying39 rfl (by rw [HI.out]; rfl)) rfl ?_
 exact ⟨rfl, HKF.out⟩
theorem stated_18 (v : Pure.Vals) (n : Nat) (_ : n < 4294967296) (w : World) :
  Calls Tryz.prog 59 #[y0v v, .int .i64 18, .int .i64 (n : Int)] w fun e w' => e = .returned (y0v { v with short := true }) ∧ Keeps y01 w w' := by
 have HI := xhd y16
 obtain ⟨vb, hvb⟩ : ∃ q, q = w.heap.size := ⟨_, rfl⟩
 obtain ⟨w1, hw1⟩ : ∃ q, q = (w.alloc (.cells (y08 v).toArray 39)).alloc (.cells #[.int .i64 0, .int .i64 0, .int .u32 0, .bool false, .bool false, .bool false, .bool false, .int .u32 0] 39) := ⟨_, rfl⟩
 have hk1 : Keeps y01 w w1 := by rw [hw1]; exact ((Keeps.refl _ w).alloc _).alloc _
 have hV : Blk w1 vb 39 (y08 v).toArray := by rw [hw1, hvb]; exact (Blk.new w _ _).alloc _
 have hO : Blk w1 (vb + 1) 39 #[.int .i64 0, .int .i64 0, .int .u32 0, .bool false, .bool false, .bool false, .bool false, .int .u32 0] := by
  rw [hw1, show vb + 1 = (w.alloc (.cells (y08 v).toArray 39)).heap.size by rw [hvb]; simp]
  exact Blk.new _ _ _
 have z6 : w1.cell? ⟨vb, 6, none⟩ = some (.bool v.short) := by rw [hV.cell]; rfl
 have f6 := hV.frozen 6
 obtain ⟨wq, hwq⟩ : ∃ q, q = w1.setCell ⟨vb, 6, none⟩ (.bool true) := ⟨_, rfl⟩
 have KQ : Keeps (only vb) w1 wq := by rw [hwq]; exact (Keeps.refl (only vb) w1).put 6 _
 have HVQ := xhd (show Blk wq vb 39 (y08 { v with short := true }).toArray by rw [hwq]; exact hV.set 6 _)
 have HOQ := xhd (hO.keeps KQ (fun e => by have e : vb + 1 = vb := e; omega))
 have HKQ := xhd (hk1.trans' KQ (fun i hi hl => by have e : i = vb := hi; omega))
 have HVB := xhd hvb
 clear hk1 hV hO KQ
 go_enter Tryz.func59, Tryz.ntmps59
 go_upto_region 1 with fail
 rw [← hvb]
 rw [← hw1]
 clear hw1 hvb
 go_upto_region 18 with fail
 rw [← hwq]
 clear hwq
 have y0 : wq.cell? ⟨vb, 0, none⟩ = some (.int .i64 (v.mru : Int)) := by rw [HVQ.out.cell]; rfl
 have y1 : wq.cell? ⟨vb, 1, none⟩ = some (.int .i64 (v.mrru : Int)) := by rw [HVQ.out.cell]; rfl
 have y2 : wq.cell? ⟨vb, 2, none⟩ = some (.int .u32 (v.accm : Int)) := by rw [HVQ.out.cell]; rfl
 have y3 : wq.cell? ⟨vb, 3, none⟩ = some (.bool v.auth) := by rw [HVQ.out.cell]; rfl
 have y4 : wq.cell? ⟨vb, 4, none⟩ = some (.bool v.pfc) := by rw [HVQ.out.cell]; rfl
 have y5 : wq.cell? ⟨vb, 5, none⟩ = some (.bool v.acfc) := by rw [HVQ.out.cell]; rfl
 have y6 : wq.cell? ⟨vb, 6, none⟩ = some (.bool true) := by rw [HVQ.out.cell]; rfl
 have y7 : wq.cell? ⟨vb, 7, none⟩ = some (.int .u32 (v.magic : Int)) := by rw [HVQ.out.cell]; rfl
 have o0 : wq.cell? ⟨vb + 1, 0, none⟩ = some (.int .i64 0) := by rw [HOQ.out.cell]; rfl
 have p0 := HOQ.out.frozen 0
 have o1 : wq.cell? ⟨vb + 1, 1, none⟩ = some (.int .i64 0) := by rw [HOQ.out.cell]; rfl
 have p1 := HOQ.out.frozen 1
 have o2 : wq.cell? ⟨vb + 1, 2, none⟩ = some (.int .u32 0) := by rw [HOQ.out.cell]; rfl
 have p2 := HOQ.out.frozen 2
 have o3 : wq.cell? ⟨vb + 1, 3, none⟩ = some (.bool false) := by rw [HOQ.out.cell]; rfl
 have p3 := HOQ.out.frozen 3
 have o4 : wq.cell? ⟨vb + 1, 4, none⟩ = some (.bool false) := by rw [HOQ.out.cell]; rfl
 have p4 := HOQ.out.frozen 4
 have o5 : wq.cell? ⟨vb + 1, 5, none⟩ = some (.bool false) := by rw [HOQ.out.cell]; rfl
 have p5 := HOQ.out.frozen 5
 have o6 : wq.cell? ⟨vb + 1, 6, none⟩ = some (.bool false) := by rw [HOQ.out.cell]; rfl
 have p6 := HOQ.out.frozen 6
 have o7 : wq.cell? ⟨vb + 1, 7, none⟩ = some (.int .u32 0) := by rw [HOQ.out.cell]; rfl
 have p7 := HOQ.out.frozen 7
 have HZ := xhd ((((((((HOQ.out.set 0 (.int .i64 (v.mru : Int))).set 1 (.int .i64 (v.mrru : Int))).set 2 (.int .u32 (v.accm : Int))).set 3 (.bool v.auth)).set 4 (.bool v.pfc)).set 5 (.bool v.acfc)).set 6 (.bool true)).set 7 (.int .u32 (v.magic : Int)))
 have HKF := xhd (HKQ.out.trans' (((((((((Keeps.refl (only (vb + 1)) wq).put 0 (.int .i64 (v.mru : Int))).put 1 (.int .i64 (v.mrru : Int))).put 2 (.int .u32 (v.accm : Int))).put 3 (.bool v.auth)).put 4 (.bool v.pfc)).put 5 (.bool v.acfc)).put 6 (.bool true)).put 7 (.int .u32 (v.magic : Int))) (fun i hi hl => by have e : i = vb + 1 := hi; have := HVB.out; omega))
 go_wp2_with fail
 refine bodyPost_ret (y0b rfl _ _ (vb + 1) 39 _ (0, 0) _ rfl HZ.out Tryz.underlying39 rfl (by rw [HI.out]; rfl)) rfl ?_
 exact ⟨rfl, HKF.out⟩
theorem y9w (v : Pure.Vals) (k : Int) (h : k ≠ 1 ∧ k ≠ 2 ∧ k ≠ 3 ∧ k ≠ 5 ∧ k ≠ 7 ∧ k ≠ 8 ∧ k ≠ 17 ∧ k ≠ 18) (n : Nat) (w : World) :
  Calls Tryz.prog 59 #[y0v v, .int .i64 k, .int .i64 (n : Int)] w fun e w' => e = .returned (y0v v) ∧ Keeps y01 w w' := by
 have HI := xhd y16
 obtain ⟨vb, hvb⟩ : ∃ q, q = w.heap.size := ⟨_, rfl⟩
 obtain ⟨wq, hw1⟩ : ∃ q, q = (w.alloc (.cells (y08 v).toArray 39)).alloc (.cells #[.int .i64 0, .int .i64 0, .int .u32 0, .bool false, .bool false, .bool false, .bool false, .int .u32 0] 39) := ⟨_, rfl⟩
 have HKQ := xhd (show Keeps y01 w wq by rw [hw1]; exact ((Keeps.refl _ w).alloc _).alloc _)
 have HVQ := xhd (show Blk wq vb 39 (y08 v).toArray by rw [hw1, hvb]; exact (Blk.new w _ _).alloc _)
 have HOQ := xhd (show Blk wq (vb + 1) 39 #[.int .i64 0, .int .i64 0, .int .u32 0, .bool false, .bool false, .bool false, .bool false, .int .u32 0] by
  rw [hw1, show vb + 1 = (w.alloc (.cells (y08 v).toArray 39)).heap.size by rw [hvb]; simp]
  exact Blk.new _ _ _)
 have HVB := xhd hvb
 have b1 : (k == 1) = false := by rw [beq_eq_false_iff_ne]; omega
 have b2 : (k == 2) = false := by rw [beq_eq_false_iff_ne]; omega
 have b3 : (k == 3) = false := by rw [beq_eq_false_iff_ne]; omega
 have b5 : (k == 5) = false := by rw [beq_eq_false_iff_ne]; omega
 have b7 : (k == 7) = false := by rw [beq_eq_false_iff_ne]; omega
 have b8 : (k == 8) = false := by rw [beq_eq_false_iff_ne]; omega
 have b17 : (k == 17) = false := by rw [beq_eq_false_iff_ne]; omega
 have b18 : (k == 18) = false := by rw [beq_eq_false_iff_ne]; omega
 clear h
 go_enter Tryz.func59, Tryz.ntmps59
 go_upto_region 1 with fail
 rw [← hvb]
 rw [← hw1]
 clear hw1 hvb
 go_upto_region 18 with fail
 have y0 : wq.cell? ⟨vb, 0, none⟩ = some (.int .i64 (v.mru : Int)) := by rw [HVQ.out.cell]; rfl
 have y1 : wq.cell? ⟨vb, 1, none⟩ = some (.int .i64 (v.mrru : Int)) := by rw [HVQ.out.cell]; rfl
 have y2 : wq.cell? ⟨vb, 2, none⟩ = some (.int .u32 (v.accm : Int)) := by rw [HVQ.out.cell]; rfl
 have y3 : wq.cell? ⟨vb, 3, none⟩ = some (.bool v.auth) := by rw [HVQ.out.cell]; rfl
 have y4 : wq.cell? ⟨vb, 4, none⟩ = some (.bool v.pfc) := by rw [HVQ.out.cell]; rfl
 have y5 : wq.cell? ⟨vb, 5, none⟩ = some (.bool v.acfc) := by rw [HVQ.out.cell]; rfl
 have y6 : wq.cell? ⟨vb, 6, none⟩ = some (.bool v.short) := by rw [HVQ.out.cell]; rfl
 have y7 : wq.cell? ⟨vb, 7, none⟩ = some (.int .u32 (v.magic : Int)) := by rw [HVQ.out.cell]; rfl
 have o0 : wq.cell? ⟨vb + 1, 0, none⟩ = some (.int .i64 0) := by rw [HOQ.out.cell]; rfl
 have p0 := HOQ.out.frozen 0
 have o1 : wq.cell? ⟨vb + 1, 1, none⟩ = some (.int .i64 0) := by rw [HOQ.out.cell]; rfl
 have p1 := HOQ.out.frozen 1
 have o2 : wq.cell? ⟨vb + 1, 2, none⟩ = some (.int .u32 0) := by rw [HOQ.out.cell]; rfl
 have p2 := HOQ.out.frozen 2
 have o3 : wq.cell? ⟨vb + 1, 3, none⟩ = some (.bool false) := by rw [HOQ.out.cell]; rfl
 have p3 := HOQ.out.frozen 3
 have o4 : wq.cell? ⟨vb + 1, 4, none⟩ = some (.bool false) := by rw [HOQ.out.cell]; rfl
 have p4 := HOQ.out.frozen 4
 have o5 : wq.cell? ⟨vb + 1, 5, none⟩ = some (.bool false) := by rw [HOQ.out.cell]; rfl
 have p5 := HOQ.out.frozen 5
 have o6 : wq.cell? ⟨vb + 1, 6, none⟩ = some (.bool false) := by rw [HOQ.out.cell]; rfl
 have p6 := HOQ.out.frozen 6
 have o7 : wq.cell? ⟨vb + 1, 7, none⟩ = some (.int .u32 0) := by rw [HOQ.out.cell]; rfl
 have p7 := HOQ.out.frozen 7
 have HZ := xhd ((((((((HOQ.out.set 0 (.int .i64 (v.mru : Int))).set 1 (.int .i64 (v.mrru : Int))).set 2 (.int .u32 (v.accm : Int))).set 3 (.bool v.auth)).set 4 (.bool v.pfc)).set 5 (.bool v.acfc)).set 6 (.bool v.short)).set 7 (.int .u32 (v.magic : Int)))
 have HKF := xhd (HKQ.out.trans' (((((((((Keeps.refl (only (vb + 1)) wq).put 0 (.int .i64 (v.mru : Int))).put 1 (.int .i64 (v.mrru : Int))).put 2 (.int .u32 (v.accm : Int))).put 3 (.bool v.auth)).put 4 (.bool v.pfc)).put 5 (.bool v.acfc)).put 6 (.bool v.short)).put 7 (.int .u32 (v.magic : Int))) (fun i hi hl => by have e : i = vb + 1 := hi; have := HVB.out; omega))
 go_wp2_with fail
 refine bodyPost_ret (y0b rfl _ _ (vb + 1) 39 _ (0, 0) _ rfl HZ.out Tryz.underlying39 rfl (by rw [HI.out]; rfl)) rfl ?_
 exact ⟨rfl, HKF.out⟩
theorem stated_any (v : Pure.Vals) (k : Int) (n : Nat) (hn : n < 4294967296) (w : World) :
  Calls Tryz.prog 59 #[y0v v, .int .i64 k, .int .i64 (n : Int)] w fun e w' => e = .returned (y0v (Pure.statedP v k n)) ∧ Keeps y01 w w' := by
 unfold Pure.statedP
 by_cases h1 : k = 1
 ·subst h1; rw [if_pos rfl]; exact stated_1 v n hn w
 rw [if_neg h1]
 by_cases h2 : k = 2
 ·subst h2; rw [if_pos rfl]; exact stated_2 v n hn w
 rw [if_neg h2]
 by_cases h3 : k = 3
 ·subst h3; rw [if_pos rfl]; exact stated_3a v n hn w
 rw [if_neg h3]
 by_cases h5 : k = 5
 ·subst h5; rw [if_pos rfl]; exact stated_5 v n hn w
 rw [if_neg h5]
 by_cases h7 : k = 7
 ·subst h7; rw [if_pos rfl]; exact stated_7 v n hn w
 rw [if_neg h7]
 by_cases h8 : k = 8
 ·subst h8; rw [if_pos rfl]; exact stated_8 v n hn w
 rw [if_neg h8]
 by_cases h17 : k = 17
 ·subst h17; rw [if_pos rfl]; exact stated_17 v n hn w
 rw [if_neg h17]
 by_cases h18 : k = 18
 ·subst h18; rw [if_pos rfl]; exact stated_18 v n hn w
 rw [if_neg h18]
 exact y9w v k ⟨h1, h2, h3, h5, h7, h8, h17, h18⟩ n w
theorem y6p {zs : List (Value × Pure.Opt)} {k : Nat} {p : Value × Pure.Opt} (h : zs[k]? = some p) : (y02 zs).take (k + 1) = (y02 zs).take k ++ [p.2] := Pure.take_snoc _ k _ (by rw [List.getElem?_map, h]; rfl)
theorem lread_any (F : Nat → Prop) (x : Value) (zs : List (Value × Pure.Opt)) (w : World) (hx : ORow w F x zs) :
  Calls Tryz.prog 20 #[x] w fun e w' => e = .returned (y0v (Pure.readVals (y02 zs))) ∧ Keeps y01 w w' := by
 obtain ⟨X, cx, rfl, _⟩ := hx.form
 have hm := hx.out.2.1
 unfold maxLen at hm
 have HI := xhd y16
 obtain ⟨ro, hro⟩ : ∃ q, q = w.heap.size := ⟨_, rfl⟩
 obtain ⟨w1, hw1⟩ : ∃ q, q = (w.alloc (.cells #[.int .i64 0, .int .i64 0, .int .u32 0, .bool false, .bool false, .bool false, .bool false, .int .u32 0] 39)).alloc (.cells #[.int .i64 1500, .int .i64 0, .int .u32 4294967295, .bool false, .bool false, .bool false, .bool false, .int .u32 0] 39) := ⟨_, rfl⟩
 have hk1 : Keeps y01 w w1 := by rw [hw1]; exact ((Keeps.refl _ w).alloc _).alloc _
 have HO := xhd (show Blk w1 ro 39 #[.int .i64 0, .int .i64 0, .int .u32 0, .bool false, .bool false, .bool false, .bool false, .int .u32 0] by rw [hw1, hro]; exact (Blk.new w _ _).alloc _)
 have HV := xhd (show Blk w1 (ro + 1) 39 (y08 Pure.Vals.plain).toArray by
  rw [hw1, show ro + 1 = (w.alloc (.cells #[.int .i64 0, .int .i64 0, .int .u32 0, .bool false, .bool false, .bool false, .bool false, .int .u32 0] 39)).heap.size by rw [hro]; simp]
  exact Blk.new _ _ _)
 have HX := xhd hx
 have HK1 := xhd hk1
 have HRO := xhd hro
 clear hx hk1
 go_enter Tryz.func20, Tryz.ntmps20
 go_upto_region 2 with fail
 rw [← hro]
 rw [← hw1]
 clear hw1 hro
 have HST := xhd (fun (v : Pure.Vals) (k : Int) (n : Nat) (hn : n < 4294967296) (W : World) => stated_any v k n hn W)
 go_wp2_with fail
 go_loopw [9] (fun i wr => ∃ k : Nat, k ≤ zs.length ∧ i = .int .i64 (k : Int) ∧ Blk wr ro 39 #[.int .i64 0, .int .i64 0, .int .u32 0, .bool false, .bool false, .bool false, .bool false, .int .u32 0] ∧ Blk wr (ro + 1) 39 (y08 (Pure.readVals ((y02 zs).take k))).toArray ∧ Keeps y01 w wr) (fun i _ => zs.length - (intOf i).toNat)
 case atStart => exact ⟨0, by omega, rfl, HO.out, HV.out, HK1.out⟩
 case round =>
  clear HO HV HK1
  obtain ⟨k, hk, rfl, hO, hV, hK⟩ := hrel
  have HO := xhd hO
  have HK := xhd hK
  obtain ⟨V, hVe⟩ : ∃ V, V = Pure.readVals ((y02 zs).take k) := ⟨_, rfl⟩
  rw [← hVe] at hV
  have HVB := xhd hV
  have HVE := xhd hVe
  by_cases hkl : k < zs.length
  ·have i0 : (0 : Int) ≤ (k : Int) := by omega
   have i1 : (k : Int) < (zs.length : Int) := by omega
   have d1 : decide ((k : Int) < (zs.length : Int)) = true := decide_eq_true (by omega)
   have d2 : decide (k < zs.length) = true := decide_eq_true hkl
   obtain ⟨b, o, A1, c1, t, D, rfl, hFb, h1, h2, hrow, hpa⟩ := (HX.out.keeps hK (fun _ _ h => h)).pick k hkl
   have HTK := xhd (show Pure.readVals ((y02 zs).take (k + 1)) = Pure.readOne V (t, D) by rw [y6p hpa, Pure.readVals_snoc, ← hVe])
   have x0 : wr.cell? ⟨b, o + k * 2, none⟩ = some (.int .i64 t) := h1
   have x1 : wr.cell? ⟨b, o + k * 2 + 1, none⟩ = some (.slice A1 D.length c1) := h2
   have HROW := xhd hrow
   clear hO hV hK hVe h1 h2 hrow hpa hFb
   obtain ⟨ob, hob⟩ : ∃ q, q = wr.heap.size := ⟨_, rfl⟩
   obtain ⟨w2, hw2⟩ : ∃ q, q = wr.alloc (.cells #[.int .i64 t, .slice A1 D.length c1] 31) := ⟨_, rfl⟩
   go_upto_region 5 with fail
   rw [← hob, ← hw2]
   have hk2 : Keeps y01 wr w2 := by rw [hw2]; exact (Keeps.refl _ wr).alloc _
   have hb2 : Blk w2 ob 31 #[.int .i64 t, .slice A1 D.length c1] := by rw [hw2, hob]; exact Blk.new wr _ _
   have y0 : w2.cell? ⟨ob, 0, none⟩ = some (.int .i64 t) := by rw [hb2.cell]; rfl
   have y1 : w2.cell? ⟨ob, 1, none⟩ = some (.slice A1 D.length c1) := by rw [hb2.cell]; rfl
   have HSQ := xhd (fun W => (y3f t W).mono (fun e w' h => And.intro h.1 h.2.symm))
   have HO2 := xhd (HO.out.keeps hk2 (fun e => e))
   have HV2 := xhd (HVB.out.keeps hk2 (fun e => e))
   have HK2 := xhd (HK.out.trans hk2)
   have HR2 := xhd (HROW.out.keeps hk2 (fun _ _ e => e))
   clear hw2 hob hk2 hb2 x0 x1
   by_cases hq : D.length = Pure.psize t
   ·have q1 : (((D.length : Nat) : Int) == ((Pure.psize t : Nat) : Int)) = true := by rw [beq_iff_eq, hq]
    have HE := xhd (show Pure.readOne V (t, D) = Pure.statedP V t (Pure.bnum D) by rw [Pure.readOne_stated, if_pos hq])
    have HN4 := xhd (show D.length ≤ 4 by rw [hq]; exact Pure.psize_le t)
    have HSM := xhd (show Pure.bnum D < 4294967296 from Pure.bnum_small HN4.out)
    clear hq
    go_upto_region 6 with go_quiet (refine Calls.quiet_of_same (HSQ.out _))
    rename_i nq
    have hk3 : Keeps y01 w2 (w2.drewN nq) := Keeps.of_drewN rfl
    generalize hw3 : w2.drewN nq = w3 at hk3 ⊢
    have hO3 := HO2.out.keeps hk3 (fun e => e)
    have hV3 := HV2.out.keeps hk3 (fun e => e)
    have HK3 := xhd (HK2.out.trans hk3)
    have HR3 := xhd (HR2.out.keeps hk3 (fun _ _ e => e))
    have HC3 := xhd (And.intro hV3 (And.intro (y0x y0 hk3) (y0x y1 hk3)))
    have HO3 := xhd hO3
    have HKZ3 := xhd (Keeps.refl y01 w3)
    clear hO3 hV3 hk3 hw3 y0 y1 HO2 HV2 HK2 HR2
    refine y0i (fun w' => Blk w' (ro + 1) 39 (y08 V).toArray ∧ w'.cell? ⟨ob, 0, none⟩ = some (.int .i64 t) ∧ w'.cell? ⟨ob, 1, none⟩ = some (.slice A1 D.length c1)) 7 8 rfl (by kernel_rfl) ⟨HC3.out.1, HC3.out.2.1, HC3.out.2.2⟩ (fun hHeld => ?_)
    have HSW := hHeld
    clear hHeld
    have HK0d := xhd (HKZ3.out.drew)
    refine y00 (i := 0) rfl (by kernel_rfl) (fun _ _ _ h => h) (Or.inl ⟨by rfl, by intro w hSw; obtain ⟨sB, s0, s1⟩ := hSw; have c0 : w.cell? ⟨ro + 1, 0, none⟩ = some (.int .i64 (V.mru : Int)) := (by rw [Blk.cell sB]; rfl); have c1 : w.cell? ⟨ro + 1, 1, none⟩ = some (.int .i64 (V.mrru : Int)) := (by rw [Blk.cell sB]; rfl); have c2 : w.cell? ⟨ro + 1, 2, none⟩ = some (.int .u32 (V.accm : Int)) := (by rw [Blk.cell sB]; rfl); have c3 : w.cell? ⟨ro + 1, 3, none⟩ = some (.bool V.auth) := (by rw [Blk.cell sB]; rfl); have c4 : w.cell? ⟨ro + 1, 4, none⟩ = some (.bool V.pfc) := (by rw [Blk.cell sB]; rfl); have c5 : w.cell? ⟨ro + 1, 5, none⟩ = some (.bool V.acfc) := (by rw [Blk.cell sB]; rfl); have c6 : w.cell? ⟨ro + 1, 6, none⟩ = some (.bool V.short) := (by rw [Blk.cell sB]; rfl); have c7 : w.cell? ⟨ro + 1, 7, none⟩ = some (.int .u32 (V.magic : Int)) := (by rw [Blk.cell sB]; rfl); go_simp; try with_reducible rfl⟩) HSW.out ?_
    simp only [Act.put, xqA, xqB, xqD, xqE, xqF]
    refine y00 (i := 1) rfl (by kernel_rfl) (fun _ _ _ h => h) (Or.inl ⟨by rfl, by intro w hSw; obtain ⟨sB, s0, s1⟩ := hSw; go_simp; try with_reducible rfl⟩) HSW.out ?_
    simp only [Act.put, xqA, xqB, xqC, xqD, xqE, xqF]
    refine y00 (i := 2) rfl (by kernel_rfl) (fun _ _ _ h => h) (Or.inl ⟨by rfl, by intro w hSw; obtain ⟨sB, s0, s1⟩ := hSw; go_simp; try with_reducible rfl⟩) HSW.out ?_
    simp only [Act.put, xqA, xqB, xqC, xqD, xqE, xqF]
    refine y00 (i := 3) rfl (by kernel_rfl) (fun _ _ _ h => h) (Or.inl ⟨by rfl, by intro w hSw; obtain ⟨sB, s0, s1⟩ := hSw; go_simp; try with_reducible rfl⟩) HSW.out ?_
    simp only [Act.put, xqA, xqB, xqC, xqD, xqE, xqF]
    refine y00 (i := 4) rfl (by kernel_rfl) (fun _ _ _ h => h) (Or.inl ⟨by rfl, by intro w hSw; obtain ⟨sB, s0, s1⟩ := hSw; go_simp; try with_reducible rfl⟩) HSW.out ?_
    simp only [Act.put, xqA, xqB, xqC, xqD, xqE, xqF]
    refine y05 (i := 5) (by kernel_rfl) rfl (fun K hK => ?_)
    try rw [if_pos (by rfl)]
    go_simp
    refine (y8k F (.slice A1 D.length c1) D _ (HR3.out.keeps HK0d.out (fun _ _ e => e)) HN4.out).mono ?_
    rintro e w4 ⟨rfl, rfl⟩
    refine hK.out _ _ (fun _ => HSW.out) ?_
    clear hK K
    try simp only [Act.put, xqA, Nat.reduceAdd, xqB, xqC, xqD, xqE, xqF]
    refine y05 (i := 6) (by kernel_rfl) rfl (fun K hK => ?_)
    try rw [if_pos (by rfl)]
    go_simp
    refine (HST.out V t (Pure.bnum D) HSM.out _).mono ?_
    rintro e w5 ⟨rfl, hk5⟩
    have HS5 := xhd (And.intro (HSW.out.1.keeps hk5 (fun e => e)) (And.intro (y0x HSW.out.2.1 hk5) (y0x HSW.out.2.2 hk5)))
    have HK5 := xhd (HK0d.out.trans hk5)
    clear hk5
    refine hK.out _ _ (fun _ => HS5.out) ?_
    clear hK K
    try simp only [Act.put, xqA, Nat.reduceAdd, xqB, xqC, xqD, xqE, xqF]
    have hV5 := HS5.out.1
    skip
    have u0 : w5.cell? ⟨ro + 1, 0, none⟩ = some (.int .i64 (V.mru : Int)) := by rw [hV5.cell]; rfl
    have g0 := hV5.frozen 0
    have u1 : w5.cell? ⟨ro + 1, 1, none⟩ = some (.int .i64 (V.mrru : Int)) := by rw [hV5.cell]; rfl
    have g1 := hV5.frozen 1
    have u2 : w5.cell? ⟨ro + 1, 2, none⟩ = some (.int .u32 (V.accm : Int)) := by rw [hV5.cell]; rfl
    have g2 := hV5.frozen 2
    have u3 : w5.cell? ⟨ro + 1, 3, none⟩ = some (.bool V.auth) := by rw [hV5.cell]; rfl
    have g3 := hV5.frozen 3
    have u4 : w5.cell? ⟨ro + 1, 4, none⟩ = some (.bool V.pfc) := by rw [hV5.cell]; rfl
    have g4 := hV5.frozen 4
    have u5 : w5.cell? ⟨ro + 1, 5, none⟩ = some (.bool V.acfc) := by rw [hV5.cell]; rfl
    have g5 := hV5.frozen 5
    have u6 : w5.cell? ⟨ro + 1, 6, none⟩ = some (.bool V.short) := by rw [hV5.cell]; rfl
    have g6 := hV5.frozen 6
    have u7 : w5.cell? ⟨ro + 1, 7, none⟩ = some (.int .u32 (V.magic : Int)) := by rw [hV5.cell]; rfl
    have g7 := hV5.frozen 7
    obtain ⟨V2, hV2⟩ : ∃ q, q = Pure.statedP V t (Pure.bnum D) := ⟨_, rfl⟩
    have HVW := xhd hV2
    rw [← hV2]
    clear hV2
    have HZ5 := xhd ((((((((hV5.set 0 (.int .i64 (V2.mru : Int))).set 1 (.int .i64 (V2.mrru : Int))).set 2 (.int .u32 (V2.accm : Int))).set 3 (.bool V2.auth)).set 4 (.bool V2.pfc)).set 5 (.bool V2.acfc)).set 6 (.bool V2.short)).set 7 (.int .u32 (V2.magic : Int)))
    have KS := (((((((((Keeps.refl (only (ro + 1)) w5).put 0 (.int .i64 (V2.mru : Int))).put 1 (.int .i64 (V2.mrru : Int))).put 2 (.int .u32 (V2.accm : Int))).put 3 (.bool V2.auth)).put 4 (.bool V2.pfc)).put 5 (.bool V2.acfc)).put 6 (.bool V2.short)).put 7 (.int .u32 (V2.magic : Int)))
    have HO6 := xhd (((HO3.out.keeps HK5.out (fun e => e))).keeps KS (fun e => by have e : ro = ro + 1 := e; omega))
    have HK6 := xhd ((HK3.out.trans HK5.out).trans' KS (fun i hi hl => by have e : i = ro + 1 := hi; have := HRO.out; omega))
    clear hV5 KS
    refine y05 (i := 7) (by kernel_rfl) rfl (fun K hK => ?_)
    go_simp
    refine hK.out _ _ (fun h => absurd rfl h) ?_
    clear hK K
    refine y0f (by kernel_rfl) ?_ _
    go_wp2_with fail
    go_roundw
    case rel => exact ⟨k + 1, by omega, by go_num, HO6.out, by rw [HTK.out, HE.out, ← HVW.out]; exact HZ5.out, HK6.out⟩
    case measure => simp [intOf]; omega
   ·have q1 : (((D.length : Nat) : Int) == ((Pure.psize t : Nat) : Int)) = false := by rw [beq_eq_false_iff_ne]; omega
    have HE := xhd (show Pure.readOne V (t, D) = V by rw [Pure.readOne_stated, if_neg hq])
    clear hq
    go_wp2_with go_quiet (refine Calls.quiet_of_same (HSQ.out _))
    rename_i nq
    have hk3 : Keeps y01 w2 (w2.drewN nq) := Keeps.of_drewN rfl
    have HO3 := xhd (HO2.out.keeps hk3 (fun e => e))
    have HV3 := xhd (HV2.out.keeps hk3 (fun e => e))
    have HK3 := xhd (HK2.out.trans hk3)
    clear hk3
    refine ⟨⟨k + 1, by omega, by go_num, HO3.out, by rw [HTK.out, HE.out]; exact HV3.out, HK3.out⟩, ?_⟩
    simp [intOf]; omega
  ·have hkk : k = zs.length := by omega
   subst hkk
   have HE := xhd (show Pure.readVals (y02 zs) = V by rw [HVE.out, List.take_of_length_le (by simp)])
   clear hO hV hK hVe hkl
   have y0 : wr.cell? ⟨ro + 1, 0, none⟩ = some (.int .i64 (V.mru : Int)) := by rw [HVB.out.cell]; rfl
   have y1 : wr.cell? ⟨ro + 1, 1, none⟩ = some (.int .i64 (V.mrru : Int)) := by rw [HVB.out.cell]; rfl
   have y2 : wr.cell? ⟨ro + 1, 2, none⟩ = some (.int .u32 (V.accm : Int)) := by rw [HVB.out.cell]; rfl
   have y3 : wr.cell? ⟨ro + 1, 3, none⟩ = some (.bool V.auth) := by rw [HVB.out.cell]; rfl
   have y4 : wr.cell? ⟨ro + 1, 4, none⟩ = some (.bool V.pfc) := by rw [HVB.out.cell]; rfl
   have y5 : wr.cell? ⟨ro + 1, 5, none⟩ = some (.bool V.acfc) := by rw [HVB.out.cell]; rfl
   have y6 : wr.cell? ⟨ro + 1, 6, none⟩ = some (.bool V.short) := by rw [HVB.out.cell]; rfl
   have y7 : wr.cell? ⟨ro + 1, 7, none⟩ = some (.int .u32 (V.magic : Int)) := by rw [HVB.out.cell]; rfl
   have o0 : wr.cell? ⟨ro, 0, none⟩ = some (.int .i64 0) := by rw [HO.out.cell]; rfl
   have p0 := HO.out.frozen 0
   have o1 : wr.cell? ⟨ro, 1, none⟩ = some (.int .i64 0) := by rw [HO.out.cell]; rfl
   have p1 := HO.out.frozen 1
   have o2 : wr.cell? ⟨ro, 2, none⟩ = some (.int .u32 0) := by rw [HO.out.cell]; rfl
   have p2 := HO.out.frozen 2
   have o3 : wr.cell? ⟨ro, 3, none⟩ = some (.bool false) := by rw [HO.out.cell]; rfl
   have p3 := HO.out.frozen 3
   have o4 : wr.cell? ⟨ro, 4, none⟩ = some (.bool false) := by rw [HO.out.cell]; rfl
   have p4 := HO.out.frozen 4
   have o5 : wr.cell? ⟨ro, 5, none⟩ = some (.bool false) := by rw [HO.out.cell]; rfl
   have p5 := HO.out.frozen 5
   have o6 : wr.cell? ⟨ro, 6, none⟩ = some (.bool false) := by rw [HO.out.cell]; rfl
   have p6 := HO.out.frozen 6
   have o7 : wr.cell? ⟨ro, 7, none⟩ = some (.int .u32 0) := by rw [HO.out.cell]; rfl
   have p7 := HO.out.frozen 7
   have HZ := xhd ((((((((HO.out.set 0 (.int .i64 (V.mru : Int))).set 1 (.int .i64 (V.mrru : Int))).set 2 (.int .u32 (V.accm : Int))).set 3 (.bool V.auth)).set 4 (.bool V.pfc)).set 5 (.bool V.acfc)).set 6 (.bool V.short)).set 7 (.int .u32 (V.magic : Int)))
   have HKF := xhd (HK.out.trans' (((((((((Keeps.refl (only ro) wr).put 0 (.int .i64 (V.mru : Int))).put 1 (.int .i64 (V.mrru : Int))).put 2 (.int .u32 (V.accm : Int))).put 3 (.bool V.auth)).put 4 (.bool V.pfc)).put 5 (.bool V.acfc)).put 6 (.bool V.short)).put 7 (.int .u32 (V.magic : Int))) (fun i hi hl => by have e : i = ro := hi; have := HRO.out; omega))
   go_wp2_with fail
   refine bodyPost_ret (y0b rfl _ _ ro 39 _ (0, 0) _ rfl HZ.out Tryz.underlying39 rfl (by rw [HI.out]; rfl)) rfl ?_
   exact ⟨by rw [HE.out]; rfl, HKF.out⟩
end Go.Proofs.YtmgicbckgpdkcaaGreatDoor
