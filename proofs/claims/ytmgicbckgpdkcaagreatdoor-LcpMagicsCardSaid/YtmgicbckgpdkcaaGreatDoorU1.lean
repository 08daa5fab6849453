/- What a walk is told of a slice of integers that came in. -/
import Derived.Test.YtmgicbckgpdkcaaGreatDoorD2
namespace Go.Proofs.YtmgicbckgpdkcaaGreatDoor
set_option maxRecDepth 100000
set_option maxHeartbeats 4000000
open _root_.Go.Lib renaming hid → xhd
open Go.RowKit
open Go.ChangeShapes Go.WideShapes Go.Deep
section
variable {H : Type} {enc : TypeId × Value → H} {P : Program} {w : World} {base : Nat} {held : Bool}
end
section
variable {H : Type} {enc : TypeId × Value → H} {P : Program} {w : World} {base : Nat} {held : Bool}
end
section
variable {H : Type} {enc : TypeId × Value → H} {P : Program} {w : World} {base : Nat} {held : Bool}
end
theorem y99 {n : Int} (h : (Lit.int .u32 n).wf = true) : 0 ≤ n ∧ n ≤ 4294967295 := by
 simpa [Lit.wf, IntKind.min, IntKind.max, IntKind.signed, IntKind.bits] using h
namespace Pure
theorem hear_nak8 {n : Neg} {c l t u : Nat} {d : List UInt8} {r : List Opt} (hm : n.m = ⟨8, c, l, t, u⟩) (hw : n.waits = true) (hs : split d = (0, r)) :
  n.input ⟨3, n.asked, d⟩ = (anew n (naked n.rules n.request r) (t - 1) u, sends [⟨1, n.next, (options (naked n.rules n.request r)).2⟩]) := by
 have h1 : ¬ n.m.state ≤ 1 := by rw [hm]; simp
 have h2 : ¬ (split d).1 ≠ 0 := by rw [hs]; simp
 unfold Neg.input
 rw [if_neg h1, if_neg (show ¬ (3 : Int) = 1 by decide), if_pos (.inr (.inl rfl))]
 unfold Neg.answered
 rw [if_neg (by simp [hw]), if_neg (show ¬ (3 : Int) = 2 by decide), if_neg h2, if_neg (show ¬ (3 : Int) = 4 by decide), hs]
 unfold Neg.event anew
 dsimp only
 rw [hm, act_8_9]
 rfl
end Pure
theorem y7y (g : Nat) (R : Nat → Prop) (f : NF) (n : Pure.Neg) (w : World) (h : NObj w g R f n) :
  Calls Tryz.prog 100 #[.pointer (some ⟨g, 0, none⟩)] w fun e w' => Given w w' e n.given := by
 have HOP := xhd (y78 g R f n w h)
 obtain ⟨zs, hz, hze, hzw⟩ := h.given
 have HCP := xhd (y1v R f.given zs w hz hzw.len hzw.data)
 obtain ⟨X, cx, hX, _⟩ := hz.form
 have c0 : w.cell? ⟨g, 12, none⟩ = some f.given := h.blk.cell 12
 rw [hX] at HCP c0
 by_cases hs : n.m.state = 9
 ·have HE := xhd (show y02 zs = n.given by unfold Pure.Neg.given; rw [if_pos hs]; exact hze)
  have HW := xhd hzw
  rw [decide_eq_true hs] at HOP
  clear hs h hz hze hzw hX
  go_enter Tryz.func100, Tryz.ntmps100
  go_wp2_with fail
  refine HOP.out.mono ?_
  rintro e w1 ⟨rfl, rfl⟩
  go_wp2_with fail
  refine HCP.out.mono ?_
  rintro e w1 ⟨u, qs, rfl, hqs, hrd⟩
  have HQ := xhd hqs
  have HR := xhd hrd.row.strong
  have HK := xhd (show Keeps y01 w w1 from Keeps.new hrd.below)
  clear hqs hrd HCP c0
  go_wp2_with fail
  go_ret
  exact ⟨u, qs, rfl, HQ.out.trans HE.out, y7s HQ.out HW.out, HR.out, HK.out⟩
 ·have HE := xhd (show ([] : List Pure.Opt) = n.given by unfold Pure.Neg.given; rw [if_neg hs])
  rw [decide_eq_false hs] at HOP
  clear hs h hz hze hzw hX HCP c0
  go_enter Tryz.func100, Tryz.ntmps100
  go_wp2_with fail
  refine HOP.out.mono ?_
  rintro e w1 ⟨rfl, rfl⟩
  go_wp2_with fail
  go_ret
  exact ⟨_, [], rfl, HE.out, ⟨by simp, by simp⟩, ORow.nil _ _, Keeps.refl _ _⟩
namespace Pure
def Lcp.peer (x : Lcp) : Vals := readVals x.n.given
end Pure
namespace Pure
end Pure
section
variable {w : World} {k : LF} {R : Nat → Prop} {f : NF} {x : Pure.Lcp}
theorem y8p (h : LObj w k R f x) : Calls Tryz.prog 44 #[.pointer (some ⟨k.l, 0, none⟩)] w fun e w' => e = .returned (y0n x.peer) ∧ Keeps y01 w w' := by
 have HI := xhd y1s
 obtain ⟨ro, hro⟩ : ∃ q, q = w.heap.size := ⟨_, rfl⟩
 obtain ⟨w1, hw1⟩ : ∃ q, q = w.alloc (.cells #[.int .i64 0, .int .i64 0, .int .u32 0, .bool false, .bool false, .bool false, .bool false, .int .u32 0] 39) := ⟨_, rfl⟩
 have hk1 : Keeps y01 w w1 := by rw [hw1]; exact (Keeps.refl _ w).alloc _
 have HO := xhd (show Blk w1 ro 39 #[.int .i64 0, .int .i64 0, .int .u32 0, .bool false, .bool false, .bool false, .bool false, .int .u32 0] by rw [hw1, hro]; exact Blk.new w _ _)
 have h1 := h.quiet hk1
 have HMD := xhd (y8o h1)
 have HMI := xhd (y7y k.g R f x.n w1 h1.obj)
 have c0 : w1.cell? ⟨k.l, 0, none⟩ = some (.pointer (some ⟨k.g, 0, none⟩)) := h1.blk.cell 0
 have HK1 := xhd hk1
 have HRO := xhd hro
 clear h hk1 h1
 go_enter Tryz.func44, Tryz.ntmps44
 go_upto_region 1 with fail
 rw [← hro, ← hw1]
 clear hw1 hro
 go_wp2_with fail
 refine HMD.out.mono ?_
 rintro e w2 ⟨rfl, rfl⟩
 go_wp2_with fail
 refine HMI.out.mono ?_
 rintro e w2 ⟨u, qs, rfl, hqs, _, hrow, hk2⟩
 have hre := y5l _ u qs w2 hrow
 rw [hqs] at hre
 have HRE := xhd hre
 have HK2 := xhd hk2
 obtain ⟨U, cu, rfl, _⟩ := hrow.form
 clear hre hqs hrow hk2 c0 HMD HMI
 go_wp2_with fail
 refine HRE.out.mono ?_
 rintro e w3 ⟨rfl, hk3⟩
 have hO3 := HO.out.keeps (HK2.out.trans hk3) (fun e => e)
 obtain ⟨V, hV⟩ : ∃ q, q = Pure.readVals x.n.given := ⟨_, rfl⟩
 rw [← hV]
 have o0 : w3.cell? ⟨ro, 0, none⟩ = some (.int .i64 0) := by rw [hO3.cell]; rfl
 have p0 := hO3.frozen 0
 have o1 : w3.cell? ⟨ro, 1, none⟩ = some (.int .i64 0) := by rw [hO3.cell]; rfl
 have p1 := hO3.frozen 1
 have o2 : w3.cell? ⟨ro, 2, none⟩ = some (.int .u32 0) := by rw [hO3.cell]; rfl
 have p2 := hO3.frozen 2
 have o3 : w3.cell? ⟨ro, 3, none⟩ = some (.bool false) := by rw [hO3.cell]; rfl
 have p3 := hO3.frozen 3
 have o4 : w3.cell? ⟨ro, 4, none⟩ = some (.bool false) := by rw [hO3.cell]; rfl
 have p4 := hO3.frozen 4
 have o5 : w3.cell? ⟨ro, 5, none⟩ = some (.bool false) := by rw [hO3.cell]; rfl
 have p5 := hO3.frozen 5
 have o6 : w3.cell? ⟨ro, 6, none⟩ = some (.bool false) := by rw [hO3.cell]; rfl
 have p6 := hO3.frozen 6
 have o7 : w3.cell? ⟨ro, 7, none⟩ = some (.int .u32 0) := by rw [hO3.cell]; rfl
 have p7 := hO3.frozen 7
 have HZ := xhd ((((((((hO3.set 0 (.int .i64 (V.mru : Int))).set 1 (.int .i64 (V.mrru : Int))).set 2 (.int .u32 (V.accm : Int))).set 3 (.bool V.auth)).set 4 (.bool V.pfc)).set 5 (.bool V.acfc)).set 6 (.bool V.short)).set 7 (.int .u32 (V.magic : Int)))
 have HKF := xhd (((HK1.out.trans HK2.out).trans hk3).trans' (((((((((Keeps.refl (only ro) w3).put 0 (.int .i64 (V.mru : Int))).put 1 (.int .i64 (V.mrru : Int))).put 2 (.int .u32 (V.accm : Int))).put 3 (.bool V.auth)).put 4 (.bool V.pfc)).put 5 (.bool V.acfc)).put 6 (.bool V.short)).put 7 (.int .u32 (V.magic : Int))) (fun i hi hl => by have e : i = ro := hi; have := HRO.out; omega))
 have HV := xhd hV
 clear hO3 hk3 hV
 go_wp2_with fail
 refine bodyPost_ret (y07 rfl _ _ ro 39 _ (0, 0) _ rfl HZ.out Tryz.underlying39 rfl (by rw [HI.out]; rfl)) rfl ?_
 exact ⟨by show _ = Ending.returned (y0n (Pure.readVals x.n.given)); rw [← HV.out]; rfl, HKF.out⟩
end
namespace Pure
theorem y7n {c : Cfg} {m : Nat} (h : c.server = true) : (3, proofData) ∈ c.ask m := by unfold Cfg.ask; simp [h]
theorem ycu (b : Cfg) (d : List UInt8) : b.knows (3, d) = !b.server := by unfold Cfg.knows; show (ruleOf b.rules 3).isSome = _; rw [y95]; cases b.server <;> rfl
end Pure
section
variable {P : Nat → List Pure.Pkt → List Pure.Pkt → Pure.Lcp → Pure.Lcp → Prop} {M : Nat} {w0 w w' : World} {g mb k : Nat} {gx gy : LF}
end
section
variable {w0 w : World} {g mb i : Nat} {gx gy : LF} {Vm Vo : Value} {lm lo : List Pure.Pkt} {Mm Mo : Pure.Lcp}
theorem y0g.mines (h : y0g w0 w g mb i Vm Vo lm lo gx gy Mm Mo) : Calls Tryz.prog 42 #[.pointer (some ⟨gx.l, 0, none⟩)] w fun e w' => e = .returned (y0n Mm.mine) ∧ Keeps y01 w w' := by
 obtain ⟨R, f, h⟩ := h.at
 exact y3o h
theorem y0g.peers (h : y0g w0 w g mb i Vm Vo lm lo gx gy Mm Mo) : Calls Tryz.prog 44 #[.pointer (some ⟨gx.l, 0, none⟩)] w fun e w' => e = .returned (y0n Mm.peer) ∧ Keeps y01 w w' := by
 obtain ⟨R, f, h⟩ := h.at
 exact y8p h
end
theorem y7r : (Tryz.prog.info? 41).map (·.size) = some 8 := by kernel_rfl
theorem y4c (x : Nat) (hx : x < 2 ^ 64) : IntKind.i64.wrap (x : Int) % 2 = ((x % 2 : Nat) : Int) := by
 unfold IntKind.wrap
 have h1 : IntKind.i64.bits = 64 := rfl
 have h2 : IntKind.i64.signed = true := rfl
 rw [h1, h2]
 have h3 : ((x : Int) % (2 ^ 64 : Int)) = (x : Int) := Int.emod_eq_of_lt (by omega) (by omega)
 dsimp only
 rw [h3]
 split
 ·show ((x : Int) - 18446744073709551616) % 2 = _
  omega
 ·omega
theorem y8y (n : Int) : bits .or .i64 n 1 % 2 = 1 := by
 have key : (BitVec.ofInt 64 n ||| BitVec.ofInt 64 1).toNat % 2 = 1 := by
  rw [BitVec.toNat_or]
  have h1 : (BitVec.ofInt 64 1).toNat = 1 := by decide
  rw [h1]
  simp
 have hlt := (BitVec.ofInt 64 n ||| BitVec.ofInt 64 1).isLt
 show IntKind.i64.wrap ((BitVec.ofInt 64 n ||| BitVec.ofInt 64 1).toNat : Nat) % 2 = 1
 rw [y4c _ hlt, key]
 rfl
theorem y4i (n : Int) : bits .andNot .i64 n 1 % 2 = 0 := by
 have key : (BitVec.ofInt 64 n &&& ~~~ BitVec.ofInt 64 1).toNat % 2 = 0 := by
  rw [BitVec.toNat_and]
  have h1 : (~~~ BitVec.ofInt 64 1).toNat = 18446744073709551614 := by decide
  rw [h1]
  have := Nat.testBit_and (BitVec.ofInt 64 n).toNat 18446744073709551614 0
  simp only [Nat.testBit_zero] at this
  have h2 : (decide (18446744073709551614 % 2 = 1)) = false := by decide
  rw [h2, Bool.and_false, decide_eq_false_iff_not] at this
  omega
 have hlt := (BitVec.ofInt 64 n &&& ~~~ BitVec.ofInt 64 1).isLt
 show IntKind.i64.wrap ((BitVec.ofInt 64 n &&& ~~~ BitVec.ofInt 64 1).toNat : Nat) % 2 = 0
 rw [y4c _ hlt, key]
 rfl
theorem y3p (v : Pure.Vals) (w : World) : Calls Tryz.prog 19 #[y0n v, y0n v] w fun e w' => e = .returned (.bool true) ∧ Keeps y01 w w' := by
 obtain ⟨mru, mrru, accm, auth, pfc, acfc, short, magic⟩ := v
 have e1 : ((mru : Int) == (mru : Int)) = true := beq_self_eq_true _
 have e2 : ((mrru : Int) == (mrru : Int)) = true := beq_self_eq_true _
 have e3 : ((accm : Int) == (accm : Int)) = true := beq_self_eq_true _
 have e4 : (auth == auth) = true := beq_self_eq_true _
 have e5 : (pfc == pfc) = true := beq_self_eq_true _
 have e6 : (acfc == acfc) = true := beq_self_eq_true _
 have e7 : (short == short) = true := beq_self_eq_true _
 have e8 : ((magic : Int) == (magic : Int)) = true := beq_self_eq_true _
 obtain ⟨b1, hb1⟩ : ∃ q, q = w.heap.size := ⟨_, rfl⟩
 obtain ⟨b2, hb2⟩ : ∃ q, q = b1 + 1 := ⟨_, rfl⟩
 go_enter Tryz.func19, Tryz.ntmps19
 go_upto_region 1 with fail
 generalize hw1 : (w.alloc _).alloc _ = w1
 have HK := xhd (show Keeps y01 w w1 by rw [← hw1]; exact ((Keeps.refl _ w).alloc _).alloc _)
 have B1 : Blk w1 b1 39 #[.int .i64 (mru : Int), .int .i64 (mrru : Int), .int .u32 (accm : Int), .bool auth, .bool pfc, .bool acfc, .bool short, .int .u32 (magic : Int)] := by rw [← hw1, hb1]; exact (Blk.new w _ _).alloc _
 have B2 : Blk w1 b2 41 #[.int .i64 (mru : Int), .int .i64 (mrru : Int), .int .u32 (accm : Int), .bool auth, .bool pfc, .bool acfc, .bool short, .int .u32 (magic : Int)] := by
  rw [← hw1, hb2, show b1 + 1 = (w.alloc (.cells #[.int .i64 (mru : Int), .int .i64 (mrru : Int), .int .u32 (accm : Int), .bool auth, .bool pfc, .bool acfc, .bool short, .int .u32 (magic : Int)] 39)).heap.size by rw [hb1]; simp]
  exact Blk.new _ _ _
 have x0 : w1.cell? ⟨b1, 0, none⟩ = some (.int .i64 (mru : Int)) := by rw [B1.cell]; rfl
 have x1 : w1.cell? ⟨b1, 1, none⟩ = some (.int .i64 (mrru : Int)) := by rw [B1.cell]; rfl
 have x2 : w1.cell? ⟨b1, 2, none⟩ = some (.int .u32 (accm : Int)) := by rw [B1.cell]; rfl
 have x3 : w1.cell? ⟨b1, 3, none⟩ = some (.bool auth) := by rw [B1.cell]; rfl
 have x4 : w1.cell? ⟨b1, 4, none⟩ = some (.bool pfc) := by rw [B1.cell]; rfl
 have x5 : w1.cell? ⟨b1, 5, none⟩ = some (.bool acfc) := by rw [B1.cell]; rfl
 have x6 : w1.cell? ⟨b1, 6, none⟩ = some (.bool short) := by rw [B1.cell]; rfl
 have x7 : w1.cell? ⟨b1, 7, none⟩ = some (.int .u32 (magic : Int)) := by rw [B1.cell]; rfl
 have y0 : w1.cell? ⟨b2, 0, none⟩ = some (.int .i64 (mru : Int)) := by rw [B2.cell]; rfl
 have y1 : w1.cell? ⟨b2, 1, none⟩ = some (.int .i64 (mrru : Int)) := by rw [B2.cell]; rfl
 have y2 : w1.cell? ⟨b2, 2, none⟩ = some (.int .u32 (accm : Int)) := by rw [B2.cell]; rfl
 have y3 : w1.cell? ⟨b2, 3, none⟩ = some (.bool auth) := by rw [B2.cell]; rfl
 have y4 : w1.cell? ⟨b2, 4, none⟩ = some (.bool pfc) := by rw [B2.cell]; rfl
 have y5 : w1.cell? ⟨b2, 5, none⟩ = some (.bool acfc) := by rw [B2.cell]; rfl
 have y6 : w1.cell? ⟨b2, 6, none⟩ = some (.bool short) := by rw [B2.cell]; rfl
 have y7 : w1.cell? ⟨b2, 7, none⟩ = some (.int .u32 (magic : Int)) := by rw [B2.cell]; rfl
 rw [← hb1, ← hb2]
 clear B1 B2 hw1 hb1 hb2
 go_wp2_with fail
 go_ret
 exact ⟨rfl, HK.out⟩
theorem y4r (v : Pure.Vals) (w : World) : Calls Tryz.prog 46 #[y0n v] w fun e w' => e = .returned (y0n v) ∧ Keeps y01 w w' := by
 obtain ⟨mru, mrru, accm, auth, pfc, acfc, short, magic⟩ := v
 obtain ⟨b1, hb1⟩ : ∃ q, q = w.heap.size := ⟨_, rfl⟩
 obtain ⟨b2, hb2⟩ : ∃ q, q = b1 + 1 := ⟨_, rfl⟩
 go_enter Tryz.func46, Tryz.ntmps46
 go_upto_region 1 with fail
 rw [← hb1, ← hb2]
 generalize hw1 : (w.alloc _).alloc _ = w1
 have HK := xhd (show Keeps y01 w w1 by rw [← hw1]; exact ((Keeps.refl _ w).alloc _).alloc _)
 have B1 : Blk w1 b1 39 #[.int .i64 (mru : Int), .int .i64 (mrru : Int), .int .u32 (accm : Int), .bool auth, .bool pfc, .bool acfc, .bool short, .int .u32 (magic : Int)] := by rw [← hw1, hb1]; exact (Blk.new w _ _).alloc _
 have HB2 := xhd (show Blk w1 b2 41 #[.int .i64 0, .int .i64 0, .int .u32 0, .bool false, .bool false, .bool false, .bool false, .int .u32 0] by
  rw [← hw1, hb2, show b1 + 1 = (w.alloc (.cells #[.int .i64 (mru : Int), .int .i64 (mrru : Int), .int .u32 (accm : Int), .bool auth, .bool pfc, .bool acfc, .bool short, .int .u32 (magic : Int)] 39)).heap.size by rw [hb1]; simp]
  exact Blk.new _ _ _)
 have x0 : w1.cell? ⟨b1, 0, none⟩ = some (.int .i64 (mru : Int)) := by rw [B1.cell]; rfl
 have x1 : w1.cell? ⟨b1, 1, none⟩ = some (.int .i64 (mrru : Int)) := by rw [B1.cell]; rfl
 have x2 : w1.cell? ⟨b1, 2, none⟩ = some (.int .u32 (accm : Int)) := by rw [B1.cell]; rfl
 have x3 : w1.cell? ⟨b1, 3, none⟩ = some (.bool auth) := by rw [B1.cell]; rfl
 have x4 : w1.cell? ⟨b1, 4, none⟩ = some (.bool pfc) := by rw [B1.cell]; rfl
 have x5 : w1.cell? ⟨b1, 5, none⟩ = some (.bool acfc) := by rw [B1.cell]; rfl
 have x6 : w1.cell? ⟨b1, 6, none⟩ = some (.bool short) := by rw [B1.cell]; rfl
 have x7 : w1.cell? ⟨b1, 7, none⟩ = some (.int .u32 (magic : Int)) := by rw [B1.cell]; rfl
 have hn : w.heap.size ≤ b2 := by omega
 have HI := xhd y7r
 have o0 : w1.cell? ⟨b2, 0, none⟩ = some (.int .i64 0) := by rw [HB2.out.cell]; rfl
 have p0 := HB2.out.frozen 0
 have o1 : w1.cell? ⟨b2, 1, none⟩ = some (.int .i64 0) := by rw [HB2.out.cell]; rfl
 have p1 := HB2.out.frozen 1
 have o2 : w1.cell? ⟨b2, 2, none⟩ = some (.int .u32 0) := by rw [HB2.out.cell]; rfl
 have p2 := HB2.out.frozen 2
 have o3 : w1.cell? ⟨b2, 3, none⟩ = some (.bool false) := by rw [HB2.out.cell]; rfl
 have p3 := HB2.out.frozen 3
 have o4 : w1.cell? ⟨b2, 4, none⟩ = some (.bool false) := by rw [HB2.out.cell]; rfl
 have p4 := HB2.out.frozen 4
 have o5 : w1.cell? ⟨b2, 5, none⟩ = some (.bool false) := by rw [HB2.out.cell]; rfl
 have p5 := HB2.out.frozen 5
 have o6 : w1.cell? ⟨b2, 6, none⟩ = some (.bool false) := by rw [HB2.out.cell]; rfl
 have p6 := HB2.out.frozen 6
 have o7 : w1.cell? ⟨b2, 7, none⟩ = some (.int .u32 0) := by rw [HB2.out.cell]; rfl
 have p7 := HB2.out.frozen 7
 have HZ := xhd ((((((((HB2.out.set 0 (.int .i64 (mru : Int))).set 1 (.int .i64 (mrru : Int))).set 2 (.int .u32 (accm : Int))).set 3 (.bool auth)).set 4 (.bool pfc)).set 5 (.bool acfc)).set 6 (.bool short)).set 7 (.int .u32 (magic : Int)))
 have HKF := xhd (show Keeps y01 w _ from HK.out.trans' (((((((((Keeps.refl (only b2) w1).put 0 (.int .i64 (mru : Int))).put 1 (.int .i64 (mrru : Int))).put 2 (.int .u32 (accm : Int))).put 3 (.bool auth)).put 4 (.bool pfc)).put 5 (.bool acfc)).put 6 (.bool short)).put 7 (.int .u32 (magic : Int))) (fun i hi hl => by have e : i = b2 := hi; omega))
 clear B1 hw1 hb1 hb2 hn
 go_wp2_with fail
 refine bodyPost_ret (y07 rfl _ _ b2 41 _ (0, 0) _ rfl HZ.out Tryz.underlying41 rfl (by rw [HI.out]; rfl)) rfl ?_
 exact ⟨rfl, HKF.out⟩
namespace Pure
structure Conv where
 full : Bool
 mg : Option Nat
 ph : Nat
def y15 (m : Nat) : Nat → Nat
 | 0 => m
 | i + 1 => nextMagic (y15 m i)
theorem ycz (m : Nat) (h0 : m ≠ 0) (hm : m < 4294967296) : nextMagic m = (m - 1 + 1) % 4294967295 + 1 := by
 unfold nextMagic
 split <;> omega
theorem y39 (m : Nat) (h0 : m ≠ 0) (hm : m < 4294967296) : ∀ i, y15 m i = (m - 1 + i) % 4294967295 + 1
 | 0 => by show m = _; omega
 | i + 1 => by
  have ih := y39 m h0 hm i
  show nextMagic (y15 m i) = _
  rw [ycz _ (by omega) (by omega), ih]
  omega
theorem y6k {m i j : Nat} (h0 : m ≠ 0) (hm : m < 4294967296) (hi : i ≤ 1000) (hj : j ≤ 1000) (h : y15 m i = y15 m j) : i = j := by
 rw [y39 m h0 hm, y39 m h0 hm] at h
 omega
theorem y2i {m : Nat} (h0 : m ≠ 0) (hm : m < 4294967296) (i : Nat) : y15 m i ≠ 0 ∧ y15 m i < 4294967296 := by
 rw [y39 m h0 hm]
 omega
def mgc (m : Nat) : Option Nat → Nat
 | none => 0
 | some i => y15 m i
theorem mgc_lt {m : Nat} (h0 : m ≠ 0) (hm : m < 4294967296) (o : Option Nat) : mgc m o < 4294967296 := by
 cases o with
 | none => show 0 < 4294967296; decide
 | some i => exact (y2i h0 hm i).2
def y0q (a b : Cfg) (m : Nat) (c : Conv) : List Opt := if c.full = true then a.ask (mgc m c.mg) else (a.ask (mgc m c.mg)).filter b.knows
structure Conv.Ok (r : Bool) (c : Conv) : Prop where
 full : c.full = true → r = true ∧ c.mg = some 0 ∧ c.ph ≤ 1
 idx : ∀ i, c.mg = some i → i ≤ 4
 ph : c.ph ≤ 5
 rejU : c.ph = 1 → c.full = true
 nak : c.ph = 2 → ∃ i, c.mg = some i ∧ i ≤ 3
 rejM : c.ph = 3 → c.mg = some 4
def midx : Option Nat → Nat
 | none => 5
 | some i => i
def idM (r : Bool) (c : Conv) : Nat := 1 + (if r = true ∧ c.full = false then 1 else 0) + midx c.mg
def y2n (c : Conv) : Nat :=
 match c.mg with
 | none => 4
 | some i => if c.ph = 2 then i + 1 else i
def stM (cx cy : Conv) : Nat := if cx.ph = 5 then (if 4 ≤ cy.ph then 9 else 7) else (if 4 ≤ cy.ph then 8 else 6)
def y0m (rules : List Rule) (first reqx reqy : List Opt) (r : Bool) (u : Nat) (cx cy : Conv) : Neg :=
 ⟨rules, first, reqx, ⟨stM cx cy, if cx.ph = 5 then 4 else 3, if cx.ph = 5 ∧ 4 ≤ cy.ph then 0 else u, 4, u⟩, idM r cx, idM r cx, y2n cy, decide (cx.ph ≠ 5), if cx.ph = 5 then reqx else [], if 4 ≤ cy.ph then reqy else [], 0, (options reqx).2⟩
def y0y (a b : Cfg) (m u : Nat) (cx cy : Conv) : Lcp := ⟨a, y0m a.rules (a.ask m) (y0q a b m cx) (y0q b a m cy) (rOf a b m) u cx cy⟩
def mpkt (a b : Cfg) (m : Nat) (c : Conv) : Pkt :=
 if c.ph = 0 then ⟨1, (idM (rOf a b m) c : Nat), (options (y0q a b m c)).2⟩
 else if c.ph = 1 then ⟨4, (idM (rOf a b m) c : Nat), (options (y5x a b m)).2⟩
 else if c.ph = 2 then ⟨3, (idM (rOf a b m) c : Nat), (options [(5, wide (y15 m (midx c.mg + 1)) 4)]).2⟩
 else if c.ph = 3 then ⟨4, (idM (rOf a b m) c : Nat), (options [(5, wide (y15 m 4) 4)]).2⟩
 else ⟨2, (idM (rOf a b m) c : Nat), (options (y0q a b m c)).2⟩
def y1r (c : Conv) : Conv :=
 if c.ph = 1 then ⟨false, some 0, 0⟩ else if c.ph = 2 then ⟨false, some (midx c.mg + 1), 0⟩ else if c.ph = 3 then ⟨false, none, 0⟩ else { c with ph := 5 }
def y0v (cx cy : Conv) : Conv :=
 { cy with ph := if cy.full = true then 1 else if cx.mg ≠ none ∧ cx.mg = cy.mg then (if cy.mg = some 4 then 3 else 2) else 4 }
theorem y6m (v : Nat) : Fine [((5 : Int), wide v 4)] := ⟨by simp, fun o ho => by
 rw [List.mem_singleton.1 ho]
 unfold Opt.odd
 simp [wide_length]⟩
theorem y4x (a b : Cfg) (m : Nat) (c : Conv) : Fine (y0q a b m c) := by
 unfold y0q
 split
 ·exact ask_fine _ _
 ·exact y0w (ask_fine _ _) _
theorem mag_up (rules : List Rule) (first reqx reqy : List Opt) (r : Bool) (u : Nat) (cx cy : Conv) : 1 < (y0m rules first reqx reqy r u cx cy).m.state := by
 show 1 < stM cx cy
 unfold stM
 split <;> split <;> decide
theorem ask_judged {a b : Cfg} (ha : a.fine = true) (hs : a.server = !b.server) (v : Nat) (rj : Bool) :
  judge b.rules (a.ask v) rj = if ((a.ask v).filter fun o => !b.knows o) = [] then (2, a.ask v) else (4, (a.ask v).filter fun o => !b.knows o) := by
 have hn : ∀ r ∈ b.rules, r.need = true → ∃ o ∈ a.ask v, o.1 = r.type := fun r hr hn => by
  obtain ⟨rfl, hb⟩ := y86 hr hn
  exact ⟨(3, proofData), y7n (by rw [hs, hb]; rfl), rfl⟩
 exact y7w b.knows (fun j o hj => y5z (y8h a v) (y8i ha b v) j o hj) (fun _ r hr hr2 => by obtain ⟨o, ho, ht⟩ := hn r hr hr2; exact y27 ho ht)
theorem yhm {a b : Cfg} (ha : a.fine = true) (hs : a.server = !b.server) (v : Nat) (rj : Bool) :
  judge b.rules ((a.ask v).filter b.knows) rj = (2, (a.ask v).filter b.knows) := by
 have hl2 : Apart ((a.ask v).filter b.knows) := List.Pairwise.filter _ (y8h a v)
 have hk2 : ∀ o ∈ (a.ask v).filter b.knows, (b.knows o = true ∧ ∃ r, ruleOf b.rules o.1 = some r ∧ r.fits o.2) ∨ (b.knows o = false ∧ ruleOf b.rules o.1 = none) := fun o ho => y8i ha b v o (List.mem_filter.1 ho).1
 have hno : (((a.ask v).filter b.knows).filter fun o => !b.knows o) = [] := by
  rw [List.filter_eq_nil_iff]
  intro o ho
  simp [(List.mem_filter.1 ho).2]
 rw [y7w b.knows (fun j o hj => y5z hl2 hk2 j o hj) (fun _ r hr hr2 => by
  obtain ⟨rfl, hb⟩ := y86 hr hr2
  exact y27 (List.mem_filter.2 ⟨y7n (by rw [hs, hb]; rfl), by rw [ycu, hb]; rfl⟩) rfl), if_pos hno]
theorem y6z {a b : Cfg} {m : Nat} (h0 : m ≠ 0) (hm : m < 4294967296) (c : Conv) : (readVals (y0q a b m c)).magic = mgc m c.mg := by
 have key : ∀ (v : Nat), v < 4294967296 → (readVals (a.ask v)).magic = v ∧ (readVals ((a.ask v).filter b.knows)).magic = v := fun v hv => by
  by_cases hz : v = 0
  ·subst hz
   have h5 : ∀ o ∈ a.ask 0, o.1 ≠ 5 := fun o ho h5 => by
    rcases y3j ho with ⟨rfl, _⟩ | ⟨rfl, _⟩ | ⟨rfl, _⟩ | ⟨rfl, h⟩ | ⟨rfl, _⟩ | ⟨rfl, _⟩ | ⟨rfl, _⟩ | ⟨rfl, _⟩ <;> first | exact h rfl | (simp at h5)
   have hno : ∀ l : List Opt, (∀ o ∈ l, o.1 ≠ 5) → hasType l 5 = false := fun l hl => by
    unfold hasType
    rw [List.any_eq_false]
    intro o ho
    simp [hl o ho]
   unfold readVals
   rw [y3u (m := 0) (by decide) _ _ y62, y3u (m := 0) (by decide) _ _ (fun o ho => y62 o (List.mem_filter.1 ho).1), hno _ h5, hno _ (fun o ho => h5 o (List.mem_filter.1 ho).1)]
   exact ⟨rfl, rfl⟩
  ·exact ⟨y31 hv hz, rest_magic hv hz⟩
 unfold y0q
 split
 ·exact (key _ (mgc_lt h0 hm _)).1
 ·exact (key _ (mgc_lt h0 hm _)).2
theorem y68 {n : Neg} {c l t u k s : Nat} {p : Pkt} {o a : List Opt} (hm : n.m = ⟨s, c, l, t, u⟩) (hs : s = 6 ∨ s = 7) (hk : k ≠ 2) :
  n.judgedAs p o (k, a) = ({ n with naks := if k = 3 then n.naks + 1 else n.naks }, sends [⟨k, p.id, (options a).2⟩]) := by
 unfold Neg.judgedAs
 dsimp only
 rw [if_neg hk, if_neg (fun h => hk h.1)]
 unfold Neg.event
 rw [hm]
 rcases hs with rfl | rfl
 ·rw [y9e, ← hm]
  rfl
 ·rw [y9f, ← hm]
  rfl
theorem hear_nak6 {n : Neg} {c l t u : Nat} {d : List UInt8} {r : List Opt} (hm : n.m = ⟨6, c, l, t, u⟩) (hw : n.waits = true) (hs : split d = (0, r)) :
  n.input ⟨3, n.asked, d⟩ = (y44 n (naked n.rules n.request r) (t - 1) u, sends [⟨1, n.next, (options (naked n.rules n.request r)).2⟩]) := by
 have h1 : ¬ n.m.state ≤ 1 := by rw [hm]; simp
 have h2 : ¬ (split d).1 ≠ 0 := by rw [hs]; simp
 unfold Neg.input
 rw [if_neg h1, if_neg (show ¬ (3 : Int) = 1 by decide), if_pos (.inr (.inl rfl))]
 unfold Neg.answered
 rw [if_neg (by simp [hw]), if_neg (show ¬ (3 : Int) = 2 by decide), if_neg h2, if_neg (show ¬ (3 : Int) = 4 by decide), hs]
 unfold Neg.event y44
 dsimp only
 rw [hm, act_6_9]
 rfl
theorem yg7 {a b : Cfg} {x v : Nat} (h0 : x ≠ 0) (hv : v ≠ 0) : naked a.rules ((a.ask x).filter b.knows) [(5, wide v 4)] = (a.ask v).filter b.knows := by
 have hf : ∀ o, nakedOne a.rules [((5 : Int), wide v 4)] o = if o.1 = 5 then (5, wide v 4) else o := fun o => by
  unfold nakedOne
  by_cases h : o.1 = 5
  ·rw [if_pos h]
   simp only [List.find?, h, decide_true]
   rw [y7h]
   rfl
  ·have : decide ((5 : Int) = o.1) = false := decide_eq_false (fun e => h e.symm)
   rw [if_neg h]
   simp only [List.find?, this]
 have hask : (a.ask x).map (nakedOne a.rules [((5 : Int), wide v 4)]) = a.ask v := by
  have h1 : ∀ (p : Prop) [Decidable p] (o : Opt), o.1 ≠ 5 → (if p then ([] : List Opt) else [o]).map (nakedOne a.rules [((5 : Int), wide v 4)]) = if p then [] else [o] := fun p _ o ho => by
   split
   ·rfl
   ·rw [List.map_singleton, hf, if_neg ho]
  have h2 : ∀ (p : Bool) (o : Opt), o.1 ≠ 5 → (if p then [o] else ([] : List Opt)).map (nakedOne a.rules [((5 : Int), wide v 4)]) = if p then [o] else [] := fun p o ho => by
   split
   ·rw [List.map_singleton, hf, if_neg ho]
   ·rfl
  have h3 : (if x = 0 then ([] : List Opt) else [(5, wide x 4)]).map (nakedOne a.rules [((5 : Int), wide v 4)]) = if v = 0 then [] else [(5, wide v 4)] := by
   rw [if_neg h0, if_neg hv, List.map_singleton, hf, if_pos rfl]
  have h4 : (if a.mrru = 0 then ([] : List Opt) else if a.short then [(18, [])] else []).map (nakedOne a.rules [((5 : Int), wide v 4)]) = if a.mrru = 0 then [] else if a.short then [(18, [])] else [] := by
   split
   ·rfl
   ·exact h2 _ _ (by decide)
  unfold Cfg.ask
  simp only [List.map_append]
  rw [h1 _ _ (by simp), h1 _ _ (by simp), h2 _ _ (by simp), h3, h2 _ _ (by simp), h2 _ _ (by simp), h1 _ _ (by simp), h4]
 unfold naked
 rw [← hask, List.filter_map]
 congr 1
 apply List.filter_congr
 intro o _
 show b.knows o = b.knows _
 rw [hf]
 unfold Cfg.knows
 split
 ·rename_i h; rw [h]
 ·rfl
theorem left_magic {a b : Cfg} {x : Nat} (h0 : x ≠ 0) : left a.rules ((a.ask x).filter b.knows) [(5, wide x 4)] = (a.ask 0).filter b.knows := by
 have hst : ∀ o, stays a.rules [((5 : Int), wide x 4)] o = !decide (o = (5, wide x 4)) := fun o => by
  unfold stays
  by_cases h : o = (5, wide x 4)
  ·subst h
   have : y6x a.rules 5 = false := by unfold y6x; rw [y7h]; rfl
   simp [this]
  ·simp [h]
 unfold left
 rw [List.filter_filter]
 have e : (a.ask x).filter (fun o => stays a.rules [((5 : Int), wide x 4)] o && b.knows o) = ((a.ask x).filter (stays a.rules [((5 : Int), wide x 4)])).filter b.knows := by
  rw [List.filter_filter]
  apply List.filter_congr
  intro o _
  rw [Bool.and_comm]
 rw [e]
 congr 1
 have h1 : ∀ (p : Prop) [Decidable p] (o : Opt), o.1 ≠ 5 → (if p then ([] : List Opt) else [o]).filter (stays a.rules [((5 : Int), wide x 4)]) = if p then [] else [o] := fun p _ o ho => by
  have : stays a.rules [((5 : Int), wide x 4)] o = true := by rw [hst]; simp; intro h; exact absurd (congrArg Prod.fst h) ho
  split
  ·rfl
  ·simp [this]
 have h2 : ∀ (p : Bool) (o : Opt), o.1 ≠ 5 → (if p then [o] else ([] : List Opt)).filter (stays a.rules [((5 : Int), wide x 4)]) = if p then [o] else [] := fun p o ho => by
  have : stays a.rules [((5 : Int), wide x 4)] o = true := by rw [hst]; simp; intro h; exact absurd (congrArg Prod.fst h) ho
  split
  ·simp [this]
  ·rfl
 have h3 : (if x = 0 then ([] : List Opt) else [(5, wide x 4)]).filter (stays a.rules [((5 : Int), wide x 4)]) = [] := by
  rw [if_neg h0]
  simp [hst]
 have h4 : (if a.mrru = 0 then ([] : List Opt) else if a.short then [(18, [])] else []).filter (stays a.rules [((5 : Int), wide x 4)]) = if a.mrru = 0 then [] else if a.short then [(18, [])] else [] := by
  split
  ·rfl
  ·exact h2 _ _ (by decide)
 unfold Cfg.ask
 simp only [List.filter_append]
 rw [h1 _ _ (by simp), h1 _ _ (by simp), h2 _ _ (by simp), h3, h2 _ _ (by simp), h2 _ _ (by simp), h1 _ _ (by simp), h4, if_pos trivial]
end Pure
namespace Pure
section
variable {rules : List Rule} {first reqx reqy l : List Opt} {r : Bool} {u : Nat} {cx cx' cy cy' : Conv}
theorem ydj (h5 : cx.ph ≠ 5) (h0 : cx'.ph = 0) (hid : idM r cx' = (idM r cx + 1) % 256) (hy : ¬ 4 ≤ cy.ph) : y44 (y0m rules first reqx reqy r u cx cy) l 3 u = y0m rules first l reqy r u cx' cy := by
 unfold y44 y0m stM Neg.next
 simp [h5, h0, hy, hid]
theorem ydk (h5 : cx.ph ≠ 5) (h0 : cx'.ph = 0) (hid : idM r cx' = (idM r cx + 1) % 256) (hy : 4 ≤ cy.ph) : anew (y0m rules first reqx reqy r u cx cy) l 3 u = y0m rules first l reqy r u cx' cy := by
 unfold anew y0m stM Neg.next
 simp [h5, h0, hy, hid]
theorem mag_m (h5 : cx.ph ≠ 5) : (y0m rules first reqx reqy r u cx cy).m = ⟨if 4 ≤ cy.ph then 8 else 6, 3, u, 4, u⟩ := by
 unfold y0m stM
 simp [h5]
theorem y4d (h5 : cx.ph ≠ 5) : (y0m rules first reqx reqy r u cx cy).waits = true := by
 unfold y0m
 simp [h5]
theorem mag_nak {d : List UInt8} {o : List Opt} (h5 : cx.ph ≠ 5) (h0 : cx'.ph = 0) (hid : idM r cx' = (idM r cx + 1) % 256) (hs : split d = (0, o)) (hl : naked rules reqx o = l) :
  y10 (y0m rules first reqx reqy r u cx cy) ⟨3, (idM r cx : Nat), d⟩ = (y0m rules first l reqy r u cx' cy, [⟨1, (idM r cx' : Nat), (options l).2⟩]) := by
 subst hl
 have hn : ((y0m rules first reqx reqy r u cx cy).next : Nat) = idM r cx' := hid.symm
 by_cases hy : 4 ≤ cy.ph
 ·have hm := mag_m (rules := rules) (first := first) (reqx := reqx) (reqy := reqy) (r := r) (u := u) (cy := cy) h5
  rw [if_pos hy] at hm
  refine y0k (hear_nak8 (n := y0m rules first reqx reqy r u cx cy) hm (y4d h5) hs) rfl |>.trans ?_
  rw [hn]
  exact Prod.ext (ydk h5 h0 hid hy) rfl
 ·have hm := mag_m (rules := rules) (first := first) (reqx := reqx) (reqy := reqy) (r := r) (u := u) (cy := cy) h5
  rw [if_neg hy] at hm
  refine y0k (hear_nak6 (n := y0m rules first reqx reqy r u cx cy) hm (y4d h5) hs) rfl |>.trans ?_
  rw [hn]
  exact Prod.ext (ydj h5 h0 hid hy) rfl
theorem mag_rej {d : List UInt8} {o : List Opt} (h5 : cx.ph ≠ 5) (h0 : cx'.ph = 0) (hid : idM r cx' = (idM r cx + 1) % 256) (hs : split d = (0, o)) (hf : Fine reqx) (hin : ∀ x ∈ o, x ∈ reqx) (hl : left rules reqx o = l) :
  y10 (y0m rules first reqx reqy r u cx cy) ⟨4, (idM r cx : Nat), d⟩ = (y0m rules first l reqy r u cx' cy, [⟨1, (idM r cx' : Nat), (options l).2⟩]) := by
 subst hl
 have hn : ((y0m rules first reqx reqy r u cx cy).next : Nat) = idM r cx' := hid.symm
 have hall : o.all (fun x => (split (y0m rules first reqx reqy r u cx cy).ours).2.any fun q => decide (x = q)) = true := by
  have e : (split (y0m rules first reqx reqy r u cx cy).ours).2 = reqx := by
   show (split (options reqx).2).2 = reqx
   rw [y0e hf]
  rw [e, List.all_eq_true]
  intro x hx
  rw [List.any_eq_true]
  exact ⟨x, hin x hx, decide_eq_true rfl⟩
 by_cases hy : 4 ≤ cy.ph
 ·have hm := mag_m (rules := rules) (first := first) (reqx := reqx) (reqy := reqy) (r := r) (u := u) (cy := cy) h5
  rw [if_pos hy] at hm
  refine y0k (y6q (n := y0m rules first reqx reqy r u cx cy) hm (y4d h5) hs hall) rfl |>.trans ?_
  rw [hn]
  exact Prod.ext (ydk h5 h0 hid hy) rfl
 ·have hm := mag_m (rules := rules) (first := first) (reqx := reqx) (reqy := reqy) (r := r) (u := u) (cy := cy) h5
  rw [if_neg hy] at hm
  refine y0k (y6p (n := y0m rules first reqx reqy r u cx cy) hm (y4d h5) hs hall) rfl |>.trans ?_
  rw [hn]
  exact Prod.ext (ydj h5 h0 hid hy) rfl
theorem mag_ack (h5 : cx.ph ≠ 5) (h0 : cx'.ph = 5) (hid : idM r cx' = idM r cx) (hf : Fine reqx) :
  y10 (y0m rules first reqx reqy r u cx cy) ⟨2, (idM r cx : Nat), (options reqx).2⟩ = (y0m rules first reqx reqy r u cx' cy, []) := by
 have ho : (split (y0m rules first reqx reqy r u cx cy).ours).2 = reqx := by
  show (split (options reqx).2).2 = reqx
  rw [y0e hf]
 by_cases hy : 4 ≤ cy.ph
 ·have hm := mag_m (rules := rules) (first := first) (reqx := reqx) (reqy := reqy) (r := r) (u := u) (cy := cy) h5
  rw [if_pos hy] at hm
  refine y0k (y6o (n := y0m rules first reqx reqy r u cx cy) hm (y4d h5)) rfl |>.trans ?_
  rw [ho]
  unfold y0m stM
  simp [h0, hy, hid]
 ·have hm := mag_m (rules := rules) (first := first) (reqx := reqx) (reqy := reqy) (r := r) (u := u) (cy := cy) h5
  rw [if_neg hy] at hm
  refine y0k (y6n (n := y0m rules first reqx reqy r u cx cy) hm (y4d h5)) rfl |>.trans ?_
  rw [ho]
  unfold y0m stM
  simp [h0, hy, hid]
  rfl
end
section
variable {a b : Cfg} {m u : Nat} {cx cy : Conv}
theorem y5e {n : Neg} {p : Pkt} {l : List Pkt} (hc : p.code = 2 ∨ p.code = 3 ∨ p.code = 4) (h : y10 (y0y a b m u cx cy).n p = (n, l)) : y1q (y0y a b m u cx cy) p = (⟨a, n⟩, l) :=
 y1t (y5w (mag_up _ _ _ _ _ _ _ _) hc) h
theorem rOf_mem (h : rOf a b m = true) : y5x a b m ≠ [] := by simpa [rOf] using h
theorem mag_heard (ha : a.fine = true) (hs : a.server = !b.server) (h0 : m ≠ 0) (hm : m < 4294967296) (hx : cx.Ok (rOf a b m)) (h1 : 1 ≤ cx.ph) (h4 : cx.ph ≤ 4) :
  y1q (y0y a b m u cx cy) (mpkt a b m cx) = (y0y a b m u (y1r cx) cy, if cx.ph = 4 then [] else [mpkt a b m (y1r cx)]) := by
 obtain ⟨fu, mg, ph⟩ := cx
 obtain ⟨k1, k2, k3, k4, k5, k6⟩ := hx
 dsimp only at k1 k2 k3 k4 k5 k6 h1 h4
 obtain rfl | rfl | rfl | rfl : ph = 1 ∨ ph = 2 ∨ ph = 3 ∨ ph = 4 := by omega
 ·have hf := k4 rfl
  subst hf
  obtain ⟨hr, rfl, _⟩ := k1 rfl
  have e : y0q a b m ⟨true, some 0, 1⟩ = a.ask m := rfl
  refine y5e (.inr (.inr rfl)) ?_
  show y10 (y0m a.rules (a.ask m) (a.ask m) (y0q b a m cy) (rOf a b m) u ⟨true, some 0, 1⟩ cy) _ = _
  refine mag_rej (cx' := ⟨false, some 0, 0⟩) (l := y0q a b m ⟨false, some 0, 0⟩) (by simp) rfl ?_ (y0e (y0w (ask_fine a m) fun o => !b.knows o)) (ask_fine a m) (fun x hx => (List.mem_filter.1 hx).1) ?_ |>.trans ?_
  ·unfold idM midx; rw [hr]; simp
  ·exact (y4a ha hs m).left hr
  ·rfl
 ·have hf : fu = false := by
   cases fu
   ·rfl
   ·have := (k1 rfl).2.2; omega
  subst hf
  obtain ⟨i, rfl, hi⟩ := k5 rfl
  refine y5e (.inr (.inl rfl)) ?_
  refine mag_nak (cx' := ⟨false, some (i + 1), 0⟩) (l := y0q a b m ⟨false, some (i + 1), 0⟩) (by simp) rfl ?_ (y0e (y6m _)) ?_ |>.trans ?_
  ·unfold idM midx
   dsimp only
   split <;> omega
  ·exact yg7 (y2i h0 hm i).1 (y2i h0 hm (i + 1)).1
  ·rfl
 ·have hf : fu = false := by
   cases fu
   ·rfl
   ·have := (k1 rfl).2.2; omega
  subst hf
  have hmg := k6 rfl
  subst hmg
  refine y5e (.inr (.inr rfl)) ?_
  refine mag_rej (cx' := ⟨false, none, 0⟩) (l := y0q a b m ⟨false, none, 0⟩) (by simp) rfl ?_ (y0e (y6m _)) (y4x _ _ _ _) (fun x hx => ?_) ?_ |>.trans ?_
  ·unfold idM midx
   dsimp only
   split <;> omega
  ·rw [List.mem_singleton.1 hx]
   exact List.mem_filter.2 ⟨yac (y2i h0 hm 4).1, knows_5 b _⟩
  ·exact left_magic (y2i h0 hm 4).1
  ·rfl
 ·refine y5e (.inl rfl) ?_
  exact mag_ack (cx' := ⟨fu, mg, 5⟩) (by simp) rfl rfl (y4x _ _ _ _)
theorem ybd {c : Conv} {p : Nat} (h0 : c.ph = 0) (hp : p ≠ 2) : y2n { c with ph := p } = y2n c := by
 unfold y2n
 dsimp only
 rw [h0]
 cases c.mg with
 | none => rfl
 | some i => simp [hp]
theorem mag_bad {rules : List Rule} {first reqx reqy : List Opt} {r : Bool} {p : Nat} (hc : cy.ph = 0) (hp : p = 1 ∨ p = 3) :
  ({ y0m rules first reqx reqy r u cx cy with naks := (y0m rules first reqx reqy r u cx cy).naks } : Neg) = y0m rules first reqx reqy r u cx { cy with ph := p } := by
 have hn := ybd (c := cy) (p := p) hc (by omega)
 have h4 : ¬ 4 ≤ p := by omega
 unfold y0m stM
 rw [hn, hc]
 simp [h4]
theorem mag_noted {rules : List Rule} {first reqx reqy : List Opt} {r : Bool} {i : Nat} (hc : cy.ph = 0) (hi : cy.mg = some i) :
  ({ y0m rules first reqx reqy r u cx cy with naks := (y0m rules first reqx reqy r u cx cy).naks + 1 } : Neg) = y0m rules first reqx reqy r u cx { cy with ph := 2 } := by
 have hn : y2n { cy with ph := 2 } = y2n cy + 1 := by
  unfold y2n
  dsimp only
  rw [hi, hc]
  simp
 unfold y0m stM
 rw [hn, hc]
 simp
theorem mag_m67 {rules : List Rule} {first reqx reqy : List Opt} {r : Bool} (hc : cy.ph = 0) : ∃ s c, (y0m rules first reqx reqy r u cx cy).m = ⟨s, c, u, 4, u⟩ ∧ (s = 6 ∧ cx.ph ≠ 5 ∨ s = 7 ∧ cx.ph = 5) := by
 unfold y0m stM
 rw [hc]
 by_cases h : cx.ph = 5
 ·exact ⟨7, 4, by simp [h], .inr ⟨rfl, h⟩⟩
 ·exact ⟨6, 3, by simp [h], .inl ⟨rfl, h⟩⟩
theorem mag_good {rules : List Rule} {first reqx reqy : List Opt} {r : Bool} {s c : Nat} (hc : cy.ph = 0) (hf : Fine reqy) (hj : ∀ rj, judge rules reqy rj = (2, reqy)) (hm : (y0m rules first reqx [] r u cx cy).m = ⟨s, c, u, 4, u⟩) (hs : s = 6 ∧ cx.ph ≠ 5 ∨ s = 7 ∧ cx.ph = 5) (id : Int) :
  y10 (y0m rules first reqx [] r u cx cy) ⟨1, id, (options reqy).2⟩ = (y0m rules first reqx reqy r u cx { cy with ph := 4 }, [⟨2, id, (options reqy).2⟩]) := by
 have hn := ybd (c := cy) (p := 4) hc (by omega)
 rcases hs with ⟨rfl, h5⟩ | ⟨rfl, h5⟩
 ·refine y0k (y7u (n := y0m rules first reqx [] r u cx cy) hm (y0e hf) (hj _)) rfl |>.trans ?_
  refine Prod.ext ?_ rfl
  have hc2 : c = 3 := by
   have := hm
   unfold y0m stM at this
   simp [h5] at this
   exact this.2.symm
  subst hc2
  unfold y0m stM
  rw [hn]
  simp [h5]
 ·refine y0k (y6r (n := y0m rules first reqx [] r u cx cy) hm (y0e hf) (hj _)) rfl |>.trans ?_
  refine Prod.ext ?_ rfl
  have hc2 : c = 4 := by
   have := hm
   unfold y0m stM at this
   simp [h5] at this
   exact this.2.1.symm
  subst hc2
  unfold y0m stM
  rw [hn]
  simp [h5]
theorem mag_empty {rules : List Rule} {first reqx reqy : List Opt} {r : Bool} (hc : cy.ph = 0) : y0m rules first reqx reqy r u cx cy = y0m rules first reqx [] r u cx cy := by
 unfold y0m
 rw [hc]
 simp
theorem mag_asked (hb : b.fine = true) (hs : a.server = !b.server) (h0 : m ≠ 0) (hm : m < 4294967296) (hx : cx.Ok (rOf a b m)) (hy : cy.Ok (rOf b a m)) (hc : cy.ph = 0) :
  y1q (y0y a b m u cx cy) (mpkt b a m cy) = (y0y a b m u cx (y0v cx cy), [mpkt b a m (y0v cx cy)]) := by
 have hs' : b.server = !a.server := by rw [hs, Bool.not_not]
 have hup := mag_up a.rules (a.ask m) (y0q a b m cx) (y0q b a m cy) (rOf a b m) u cx cy
 have hfy := y4x b a m cy
 have hp : mpkt b a m cy = ⟨1, (idM (rOf b a m) cy : Nat), (options (y0q b a m cy)).2⟩ := by unfold mpkt; rw [if_pos hc]
 have hmine : (readVals (split (y0y a b m u cx cy).n.ours).2).magic = mgc m cx.mg := by
  show (readVals (split (options (y0q a b m cx)).2).2).magic = _
  rw [y0e (y4x a b m cx)]
  exact y6z h0 hm cx
 have htheirs : (readVals (split (options (y0q b a m cy)).2).2).magic = mgc m cy.mg := by
  rw [y0e hfy]
  exact y6z h0 hm cy
 obtain ⟨s, c, hmm, hst⟩ := mag_m67 (rules := a.rules) (first := a.ask m) (reqx := y0q a b m cx) (reqy := y0q b a m cy) (r := rOf a b m) (u := u) (cx := cx) hc
 have hs67 : s = 6 ∨ s = 7 := by rcases hst with h | h; exact .inl h.1; exact .inr h.1
 have hs1 : (split (options (y0q b a m cy)).2).1 = 0 := by rw [y0e hfy]
 have hs2 : (split (options (y0q b a m cy)).2).2 = y0q b a m cy := by rw [y0e hfy]
 rw [hp]
 have hin : (y0y a b m u cx cy).input ⟨1, (idM (rOf b a m) cy : Nat), (options (y0q b a m cy)).2⟩ = (y0y a b m u cx cy).with ((y0y a b m u cx cy).request ⟨1, (idM (rOf b a m) cy : Nat), (options (y0q b a m cy)).2⟩) := y5d hup rfl
 have close : ∀ {n : Neg} {o : Said} {l : List Pkt}, (y0y a b m u cx cy).request ⟨1, (idM (rOf b a m) cy : Nat), (options (y0q b a m cy)).2⟩ = (n, o) → o.send = l → y1q (y0y a b m u cx cy) ⟨1, (idM (rOf b a m) cy : Nat), (options (y0q b a m cy)).2⟩ = (⟨a, n⟩, l) := fun h hl => by
  unfold y1q
  rw [hin, h]
  subst hl
  rfl
 by_cases hfull : cy.full = true
 ·-- the unknown is rejected
  obtain ⟨hr, hmg, _⟩ := hy.full hfull
  have hreq : y0q b a m cy = b.ask m := by unfold y0q; rw [if_pos hfull, hmg]; rfl
  have hj : ∀ rj, judge a.rules (y0q b a m cy) rj = (4, y5x b a m) := fun rj => by rw [hreq, ask_judged hb hs', if_neg (rOf_mem hr)]
  have hans : y0v cx cy = { cy with ph := 1 } := by unfold y0v; rw [if_pos hfull]
  have hreq4 : (y0y a b m u cx cy).request ⟨1, (idM (rOf b a m) cy : Nat), (options (y0q b a m cy)).2⟩ = (y0y a b m u cx cy).n.judgedAs ⟨1, (idM (rOf b a m) cy : Nat), (options (y0q b a m cy)).2⟩ (y0q b a m cy) (4, y5x b a m) := by
   unfold Lcp.request
   rw [if_neg (by rw [hs1]; simp), hs2]
   split
   ·rw [y6t]
    rw [show (y0y a b m u cx cy).n.rules = a.rules from rfl, hj]
   ·unfold looped
    rw [show (y0y a b m u cx cy).n.rules = a.rules from rfl, if_pos (by rw [hj]), hj]
  refine (close (hreq4.trans (y68 hmm hs67 (by decide))) rfl).trans ?_
  rw [hans, if_neg (by decide)]
  refine Prod.ext ?_ ?_
  ·show (⟨a, _⟩ : Lcp) = ⟨a, _⟩
   congr 1
   exact (mag_bad hc (.inl rfl)).trans rfl
  ·rfl
 ·have hfull : cy.full = false := by simpa using hfull
  have hreq : y0q b a m cy = (b.ask (mgc m cy.mg)).filter a.knows := by unfold y0q; rw [if_neg (by rw [hfull]; decide)]
  have hj : ∀ rj, judge a.rules (y0q b a m cy) rj = (2, y0q b a m cy) := fun rj => by rw [hreq, yhm hb hs']
  by_cases he : cx.mg ≠ none ∧ cx.mg = cy.mg
  ·obtain ⟨i, hi⟩ : ∃ i, cx.mg = some i := by
    cases h : cx.mg with
    | none => exact absurd h he.1
    | some i => exact ⟨i, rfl⟩
   have hyi : cy.mg = some i := he.2 ▸ hi
   have hi4 := hy.idx i hyi
   have hnk : y2n cy = i := by unfold y2n; rw [hyi, hc]; simp
   have hreqL : (y0y a b m u cx cy).request ⟨1, (idM (rOf b a m) cy : Nat), (options (y0q b a m cy)).2⟩ = (y0y a b m u cx cy).n.judgedAs ⟨1, (idM (rOf b a m) cy : Nat), (options (y0q b a m cy)).2⟩ (y0q b a m cy) (if i = 4 then (4, [(5, wide (y15 m 4) 4)]) else (3, [(5, wide (y15 m (i + 1)) 4)])) := by
    unfold Lcp.request
    rw [if_neg (by rw [hs1]; simp), if_neg (by
     rw [hmine, htheirs, hi, hyi]
     rintro (h | h)
     ·exact (y2i h0 hm i).1 h
     ·exact h rfl), hs2, hmine, hi]
    congr 1
    unfold looped
    rw [show (y0y a b m u cx cy).n.rules = a.rules from rfl, hj, if_neg (by simp)]
    rw [show (y0y a b m u cx cy).n.naks = y2n cy from rfl, hnk]
    have ht : (y0y a b m u cx cy).n.m.tries = 4 := rfl
    rw [ht]
    by_cases h4 : i = 4
    ·subst h4
     rfl
    ·rw [if_neg (by simp; omega), if_neg h4]
     rfl
   by_cases h4 : i = 4
   ·subst h4
    have hans : y0v cx cy = { cy with ph := 3 } := by unfold y0v; rw [if_neg (by rw [hfull]; decide), if_pos he, if_pos hyi]
    rw [if_pos rfl] at hreqL
    refine (close (hreqL.trans (y68 hmm hs67 (by decide))) rfl).trans ?_
    rw [hans, if_neg (by decide)]
    refine Prod.ext ?_ ?_
    ·show (⟨a, _⟩ : Lcp) = ⟨a, _⟩
     congr 1
     exact (mag_bad hc (.inr rfl)).trans rfl
    ·rfl
   ·have hans : y0v cx cy = { cy with ph := 2 } := by unfold y0v; rw [if_neg (by rw [hfull]; decide), if_pos he, if_neg (by rw [hyi]; intro h; injection h with h; exact h4 h)]
    rw [if_neg h4] at hreqL
    refine (close (hreqL.trans (y68 hmm hs67 (by decide))) rfl).trans ?_
    rw [hans, if_pos rfl]
    refine Prod.ext ?_ ?_
    ·show (⟨a, _⟩ : Lcp) = ⟨a, _⟩
     congr 1
     exact (mag_noted hc hyi).trans rfl
    ·show [_] = [_]
     have e : mpkt b a m { cy with ph := 2 } = ⟨3, (idM (rOf b a m) cy : Nat), (options [(5, wide (y15 m (midx cy.mg + 1)) 4)]).2⟩ := rfl
     rw [e, hyi]
     rfl
  ·have hans : y0v cx cy = { cy with ph := 4 } := by unfold y0v; rw [if_neg (by rw [hfull]; decide), if_neg he]
   have hunl : (readVals (split (y0y a b m u cx cy).n.ours).2).magic = 0 ∨ (readVals (split (options (y0q b a m cy)).2).2).magic ≠ (readVals (split (y0y a b m u cx cy).n.ours).2).magic := by
    rw [hmine, htheirs]
    cases hxm : cx.mg with
    | none => exact .inl rfl
    | some i =>
     refine .inr ?_
     cases hym : cy.mg with
     | none => exact fun e => (y2i h0 hm i).1 e.symm
     | some j =>
      intro e
      have e : y15 m j = y15 m i := e
      have := y6k h0 hm (by have := hy.idx j hym; omega) (by have := hx.idx i hxm; omega) e
      subst this
      exact he ⟨by rw [hxm]; simp, by rw [hxm, hym]⟩
   have hreqU := y3v (x := y0y a b m u cx cy) (p := ⟨1, (idM (rOf b a m) cy : Nat), (options (y0q b a m cy)).2⟩) hup rfl hunl
   have hmm2 : (y0m a.rules (a.ask m) (y0q a b m cx) [] (rOf a b m) u cx cy).m = ⟨s, c, u, 4, u⟩ := hmm
   have hg := mag_good (rules := a.rules) (first := a.ask m) (reqx := y0q a b m cx) (r := rOf a b m) hc hfy hj hmm2 hst (idM (rOf b a m) cy : Nat)
   rw [← mag_empty (reqy := y0q b a m cy) hc] at hg
   unfold y10 at hg
   injection hg with g1 g2
   refine (close (hreqU.trans (Prod.ext g1 rfl)) g2).trans ?_
   rw [hans]
   refine Prod.ext ?_ ?_
   ·rfl
   ·show [_] = [_]
    unfold mpkt
    simp only [if_neg (show ¬ (4 : Nat) = 0 by decide), if_neg (show ¬ (4 : Nat) = 1 by decide), if_neg (show ¬ (4 : Nat) = 2 by decide), if_neg (show ¬ (4 : Nat) = 3 by decide)]
    rfl
theorem mag_still (hx : cx.Ok (rOf a b m)) (h1 : 1 ≤ cx.ph) (h4 : cx.ph ≤ 4) : y0y b a m u cy (y1r cx) = y0y b a m u cy cx := by
 obtain ⟨fu, mg, ph⟩ := cx
 obtain ⟨k1, k2, k3, k4, k5, k6⟩ := hx
 dsimp only at k1 k2 k3 k4 k5 k6 h1 h4
 obtain rfl | rfl | rfl | rfl : ph = 1 ∨ ph = 2 ∨ ph = 3 ∨ ph = 4 := by omega
 ·have hf := k4 rfl
  subst hf
  obtain ⟨_, rfl, _⟩ := k1 rfl
  unfold y0y y0m stM y1r y2n
  simp
 ·obtain ⟨i, rfl, hi⟩ := k5 rfl
  unfold y0y y0m stM y1r y2n midx
  simp
 ·have hmg := k6 rfl
  subst hmg
  unfold y0y y0m stM y1r y2n
  simp
 ·unfold y0y y0m stM y1r y2n
  simp
  rfl
theorem mag_own (hc : cy.ph = 0) : y0y b a m u (y0v cx cy) cx = y0y b a m u cy cx := by
 have h5 : (y0v cx cy).ph ≠ 5 := by
  unfold y0v
  dsimp only
  split
  ·decide
  ·split
   ·split <;> decide
   ·decide
 have hp0 : cy.ph ≠ 5 := by omega
 unfold y0y y0m stM
 have e1 : y0q b a m (y0v cx cy) = y0q b a m cy := rfl
 have e2 : idM (rOf b a m) (y0v cx cy) = idM (rOf b a m) cy := rfl
 rw [e1, e2]
 simp [h5, hp0]
end
end Pure
end Go.Proofs.YtmgicbckgpdkcaaGreatDoor
