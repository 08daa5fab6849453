/- Chapter 14's statements: opened. -/
import Derived.Test.YtmgicbckgpdkcaaGreatDoorV2
namespace Go.Proofs.YtmgicbckgpdkcaaGreatDoor
set_option maxRecDepth 100000
set_option maxHeartbeats 16000000
open _root_.Go.Lib renaming hid → xhd
open List renaming setIfInBounds_toArray → xqA, getElem_toArray → xqB, getElem_cons_succ → xqC, getElem_cons_zero → xqD, set_cons_succ → xqE, set_cons_zero → xqF
open Go.RowKit
abbrev y0z : Array Value := (y0d ⟨false, [], [], 0, false, false, 0, 0, false, 0, false, false, false, false, false, 0, 0, 0⟩ ByteArray.empty ByteArray.empty).toArray
theorem y19 (ρ : Operand → Value) (d : Option Tmp) (ty : TypeId) (ps : String) (af : Array _) (w : World) :
  (execOp ρ { dst := d, op := .alloc 25, type := ty, pos := ps, after := af, guard := none }).run Tryz.prog w = .ok (.value (.pointer (some ⟨w.heap.size, 0, none⟩))) (w.alloc (.cells y0z 25)) := by
 kernel_rfl
theorem y80 (n : Int) (w : World) (env : Env14 w) :
  Calls Tryz.prog 47 #[.int .i64 n] w fun e w' => ∃ gx gy a b, e = .returned (.tuple #[.pointer (some ⟨gx.l, 0, none⟩), .pointer (some ⟨gy.l, 0, none⟩)]) ∧ LTwo w w' gx gy (Pure.linkAt a b 11 12 4 2 4 4) (Pure.linkAt b a 12 11 4 2 4 4) ∧ MadeIs a true 4 ∧ MadeIs b false 4 := by
 have HENV := xhd env
 have HMA := xhd (y2m (bits .or .i64 n 1) 3 w)
 have HI := xhd y24
 clear env
 go_enter Tryz.func47, Tryz.ntmps47
 go_upto_region 1 with fail
 refine wp_region_list ?_
 refine Go.Great.wpList_runTo rfl (some 16) rfl (.int .i64 n) w rfl ?_
 refine Go.Great.wpList_runTo rfl (some 17) rfl (.int .i64 (bits .or .i64 n 1)) w (by kernel_rfl) ?_
 refine y1m rfl (some 18) rfl 13 #[.int .i64 (bits .or .i64 n 1), .int .i64 3] (by kernel_rfl) HMA.out ?_
 rintro e w1 ⟨a, rfl, ha, hk⟩
 refine ⟨_, rfl, ?_⟩
 rw [y8y] at ha
 have HAA := xhd (show MadeIs a true 4 from ha)
 have HK1 := xhd hk
 have HMB := xhd (y2m (bits .andNot .i64 n 1) 3 w1)
 clear ha hk HMA
 refine Go.Great.wpList_runTo rfl (some 19) rfl (.int .i64 n) w1 rfl ?_
 refine Go.Great.wpList_runTo rfl (some 20) rfl (.int .i64 (bits .andNot .i64 n 1)) w1 (by kernel_rfl) ?_
 refine y1m rfl (some 21) rfl 13 #[.int .i64 (bits .andNot .i64 n 1), .int .i64 3] (by kernel_rfl) HMB.out ?_
 rintro e w2 ⟨b, rfl, hb, hk⟩
 refine ⟨_, rfl, ?_⟩
 rw [y4i] at hb
 have HBB := xhd (show MadeIs b false 4 from hb)
 have HK2 := xhd (HK1.out.trans hk)
 clear hb hk HMB HK1
 obtain ⟨ab, hab⟩ : ∃ q, q = w2.heap.size := ⟨_, rfl⟩
 obtain ⟨bb, hbb⟩ : ∃ q, q = (w2.alloc (.cells y0z 25)).heap.size := ⟨_, rfl⟩
 have hne : bb ≠ ab := by rw [hbb, hab]; simp
 refine Go.Great.wpList_runTo rfl (some 4) rfl _ _ (y19 _ _ _ _ _ _) ?_
 refine Go.Great.wpList_runTo rfl (some 5) rfl _ _ (y19 _ _ _ _ _ _) ?_
 rw [← hab, ← hbb]
 obtain ⟨w3, hw3⟩ : ∃ q, q = (w2.alloc (.cells y0z 25)).alloc (.cells y0z 25) := ⟨_, rfl⟩
 rw [← hw3]
 have za : Blk w3 ab 25 y0z := by rw [hw3, hab]; exact (Blk.new w2 _ _).alloc _
 have zb : Blk w3 bb 25 y0z := by rw [hw3, hbb]; exact Blk.new _ _ _
 have k3 : Keeps y01 w2 w3 := by rw [hw3]; exact ((Keeps.refl _ w2).alloc _).alloc _
 obtain ⟨w4, hw4⟩ : ∃ q, q = w3.setRow ab (y0d a nmN scS).toArray := ⟨_, rfl⟩
 have ba : Blk w4 ab 25 (y0d a nmN scS).toArray := by rw [hw4]; exact za.rowSet _
 have k4 : Keeps (only ab) w3 w4 := by rw [hw4]; exact (Keeps.refl (only ab) w3).rowSet (fun _ => rfl) _
 have zb4 := zb.keeps k4 (fun e => by have e : bb = ab := e; exact hne e)
 obtain ⟨w5, hw5⟩ : ∃ q, q = w4.setRow bb (y0d b nmN scS).toArray := ⟨_, rfl⟩
 have bb5 : Blk w5 bb 25 (y0d b nmN scS).toArray := by rw [hw5]; exact zb4.rowSet _
 have k5 : Keeps (only bb) w4 w5 := by rw [hw5]; exact (Keeps.refl (only bb) w4).rowSet (fun _ => rfl) _
 have ba5 := ba.keeps k5 (fun e => by have e : ab = bb := e; exact hne e.symm)
 have HBA := xhd ba5
 have HBB5 := xhd bb5
 have HK5 := xhd (show Keeps y01 w2 w5 from (k3.trans' k4 (fun i hi hl => by have e : i = ab := hi; omega)).trans' k5 (fun i hi hl => by have e : i = bb := hi; have := hbb; simp at this; omega))
 have HNE := xhd hne
 have HABO := xhd (show w2.heap.size ≤ ab ∧ w2.heap.size ≤ bb from ⟨Nat.le_of_eq hab.symm, by rw [hbb]; simp⟩)
 simp only [Act.put, xqA, xqE, xqF]
 refine wpList_store_row rfl 25 (.tmp 4) (.tmp 18) rfl ab _ rfl rfl 25 _ za (by rw [HI.out]; rfl) rfl (by rw [List.all_toArray]; rfl) ?_
 rw [← hw4]
 refine wpList_store_row rfl 25 (.tmp 5) (.tmp 21) rfl bb _ rfl rfl 25 _ zb4 (by rw [HI.out]; rfl) rfl (by rw [List.all_toArray]; rfl) ?_
 rw [← hw5]
 clear hab hbb hne hw3 za zb k3 hw4 ba k4 zb4 hw5 bb5 k5 ba5
 go_upto_region 2 with fail
 have HKA := xhd (HK2.out.trans HK5.out)
 clear HK2 HK5 HNE HABO
 have HNX := xhd (y1u a true 4 HAA.out (by decide) 11 (by decide) w5 ((HENV.out.keeps HKA.out).env))
 refine wp_region_list ?_
 refine wpList_load_mid rfl 25 (.tmp 4) rfl ab 0 rfl (y0d a nmN scS) _ (fun j v hv => by rw [Nat.zero_add, HBA.out.cell, List.getElem?_toArray]; exact hv) Tryz.underlying25 rfl HI.out ?_
 go_wp2_with fail
 refine HNX.out.mono ?_
 rintro e w6 ⟨gx, fx, Rx, rfl, hx, x0, x1, x2, x3, hk6⟩
 have HX := xhd (And.intro hx (And.intro x0 (And.intro x1 x2)))
 have HBB6 := xhd (HBB5.out.keeps hk6 (fun e => e))
 have HK6 := xhd hk6
 have HNY := xhd (y1u b false 4 HBB.out (by decide) 12 (by decide) w6 ((HENV.out.keeps (HKA.out.trans hk6)).env))
 clear hx x0 x1 x2 x3 hk6 HNX HBA HBB5
 go_upto_region 3 with fail
 refine wp_region_list ?_
 refine wpList_load_mid rfl 25 (.tmp 5) rfl bb 0 rfl (y0d b nmN scS) _ (fun j v hv => by rw [Nat.zero_add, HBB6.out.cell, List.getElem?_toArray]; exact hv) Tryz.underlying25 rfl HI.out ?_
 go_wp2_with fail
 refine HNY.out.mono ?_
 rintro e w7 ⟨gy, fy, Ry, rfl, hy, y0, y1, y2, y3, hk7⟩
 have hTN := y72 HENV.out HKA.out.to_below HK6.out HX.out.1 HX.out.2.1 HX.out.2.2.1 HX.out.2.2.2 (Keeps.refl _ w6) hk7 hy y0 y1 y2 y3 (Keeps.refl _ w7)
 clear hy y0 y1 y2 y3 hk7 HNY HX HKA HK6 HBB6
 have HP := xhd (y4w hTN)
 obtain ⟨X1, Y1, hbeg⟩ := y6u a b (11) (12)
 have h0 : Pure.duoP a b 11 12 4 2 4 2 0 [⟨1, 1, (Pure.options (b.ask 12)).2⟩] [⟨1, 1, (Pure.options (a.ask 11)).2⟩] ⟨a, Pure.begun a.rules (a.ask 11) a.tries.toNat a.timeout.toNat⟩ ⟨b, Pure.begun b.rules (b.ask 12) b.tries.toNat b.timeout.toNat⟩ := by rw [HAA.out.tries, HBB.out.tries, HAA.out.timeout, HBB.out.timeout]; exact Pure.duo_start 4 2 4 2
 have hE : ∀ k X Y, Pure.duoP a b 11 12 4 2 4 2 k [] [] X Y → (X = Pure.linkAt a b 11 12 4 2 4 4 ∧ Y = Pure.linkAt b a 12 11 4 2 4 4) := fun k X Y h => Pure.duo_done h
 have hT := Pure.duo_talks (a := a) (b := b) (ma := 11) (mb := 12) (HAA.out.fine (by decide)) (HBB.out.fine (by decide)) (by rw [HAA.out.server, HBB.out.server]; rfl) (by decide) (by decide) (by decide) (by decide) (by decide) (t := 4) (t' := 4) (by decide) (by decide) 2 2
 obtain ⟨P, hPP⟩ : ∃ P, P = Pure.duoP a b 11 12 4 2 4 2 := ⟨_, rfl⟩
 rw [← hPP] at h0 hE hT
 obtain ⟨XX, hXX⟩ : ∃ q, q = Pure.newLcp a (11) := ⟨_, rfl⟩
 obtain ⟨YY, hYY⟩ : ∃ q, q = Pure.newLcp b (12) := ⟨_, rfl⟩
 rw [← hXX, ← hYY] at HP hbeg
 obtain ⟨X2, hX2⟩ : ∃ q : Pure.Lcp, q = ⟨a, Pure.begun a.rules (a.ask (11)) a.tries.toNat a.timeout.toNat⟩ := ⟨_, rfl⟩
 obtain ⟨Y2, hY2⟩ : ∃ q : Pure.Lcp, q = ⟨b, Pure.begun b.rules (b.ask (12)) b.tries.toNat b.timeout.toNat⟩ := ⟨_, rfl⟩
 rw [← hX2, ← hY2] at hbeg h0
 obtain ⟨sx, hsx⟩ : ∃ q, q = [(⟨1, 1, (Pure.options (a.ask (11))).2⟩ : Pure.Pkt)] := ⟨_, rfl⟩
 obtain ⟨sy, hsy⟩ : ∃ q, q = [(⟨1, 1, (Pure.options (b.ask (12))).2⟩ : Pure.Pkt)] := ⟨_, rfl⟩
 obtain ⟨ox2, hox2⟩ : ∃ q : Pure.LSaid, q = .of (Pure.sends [⟨1, 1, (Pure.options (a.ask (11))).2⟩]) := ⟨_, rfl⟩
 obtain ⟨oy2, hoy2⟩ : ∃ q : Pure.LSaid, q = .of (Pure.sends [⟨1, 1, (Pure.options (b.ask (12))).2⟩]) := ⟨_, rfl⟩
 obtain ⟨ox1, hox1⟩ : ∃ q, q = Pure.LSaid.of Pure.mute := ⟨_, rfl⟩
 obtain ⟨oy1, hoy1⟩ : ∃ q, q = Pure.LSaid.of Pure.mute := ⟨_, rfl⟩
 have hbeg2 : y8f XX X1 X2 YY Y1 Y2 ox1 ox2 oy1 oy2 sx sy := by rw [hox1, hoy1, hox2, hoy2, hsx, hsy]; exact hbeg
 rw [← hsx, ← hsy] at h0
 have HA := xhd (show (XX.n.naks ≤ 1000 ∧ X1.n.naks ≤ 1000 ∧ XX.act 0 = (X1, ox1) ∧ X1.act 2 = (X2, ox2) ∧ sx = ox1.said.send ++ ox2.said.send ∧ ox1.said.send.length ≤ 10) ∧ (YY.n.naks ≤ 1000 ∧ Y1.n.naks ≤ 1000 ∧ YY.act 0 = (Y1, oy1) ∧ Y1.act 2 = (Y2, oy2) ∧ sy = oy1.said.send ++ oy2.said.send ∧ oy1.said.send.length ≤ 10) from hbeg2)
 have HQ0 := xhd h0
 have HT := xhd hT
 have HE := xhd hE
 clear hXX hYY hX2 hY2 hsx hsy hox1 hoy1 hox2 hoy2 hbeg hbeg2 h0 hT hE hPP hTN
 have hmake := y5y
 go_wp2_with fail
 clear hmake
 generalize (w7.alloc (.cells #[.pointer (some ⟨gx.l, 0, none⟩), .pointer (some ⟨gy.l, 0, none⟩)] 49)).alloc (.cells #[.slice none 0 0, .slice none 0 0] 57) = W at HP ⊢
 generalize w7.heap.size + 1 = g at HP ⊢
 generalize w7.heap.size = mb at HP ⊢
 go_loopw [12] (fun i wr => ∃ k : Nat, k ≤ 2 ∧ i = .int .i64 (k : Int) ∧ ∃ V0 V1, y0g w wr g mb 0 V0 V1 (if k = 2 then sy else []) (if 1 ≤ k then sx else []) gx gy (if 1 ≤ k then X2 else XX) (if k = 2 then Y2 else YY)) (fun i _ => 2 - (intOf i).toNat)
 case atStart => exact ⟨0, by omega, rfl, _, _, HP.out⟩
 case round =>
  obtain ⟨k, hk, rfl, V0, V1, hP⟩ := hrel
  have HP := xhd hP
  clear hP
  by_cases hk2 : k < 2
  ·have HD : ∃ Vm Vo lm hx ox Z Z1 o1 Z2 o2 sz Mo, Hid (y0g w wr g mb k Vm Vo lm [] hx ox Z Mo ∧ (Z.n.naks ≤ 1000 ∧ Z1.n.naks ≤ 1000 ∧ Z.act 0 = (Z1, o1) ∧ Z1.act 2 = (Z2, o2) ∧ sz = o1.said.send ++ o2.said.send ∧ o1.said.send.length ≤ 10) ∧ ∀ W' Vo', y0g w W' g mb k Vm Vo' lm sz hx ox Z2 Mo → ∃ V0 V1, y0g w W' g mb 0 V0 V1 (if k + 1 = 2 then sy else []) (if 1 ≤ k + 1 then sx else []) gx gy (if 1 ≤ k + 1 then X2 else XX) (if k + 1 = 2 then Y2 else YY)) := by
    obtain rfl | rfl : k = 0 ∨ k = 1 := by omega
    ·exact ⟨V0, V1, [], gx, gy, XX, X1, ox1, X2, ox2, sx, YY, xhd ⟨HP.out, HA.out.1, fun W' Vo' h => ⟨_, _, h⟩⟩⟩
    ·exact ⟨V1, V0, sx, gy, gx, YY, Y1, oy1, Y2, oy2, sy, X2, xhd ⟨HP.out.swap, HA.out.2, fun W' Vo' h => ⟨_, _, h.swap⟩⟩⟩
   obtain ⟨Vm, Vo, lm, hx, ox, Z, Z1, o1, Z2, o2, sz, Mo, HD⟩ := HD
   have HQ := xhd HD.out.1
   clear HP
   obtain ⟨j, hj⟩ : ∃ j, j = 1 - k := ⟨_, rfl⟩
   have hj1 : j ≤ 1 := by omega
   have k0 : (0 : Int) ≤ (k : Int) := by omega
   have k1 : (k : Int) < 2 := by omega
   have j0 : (0 : Int) ≤ (j : Int) := by omega
   have j1 : (j : Int) < 2 := by omega
   have e1 : (1 : Int) - (k : Int) = (j : Int) := by omega
   have lw : wrap64 (j : Int) = (j : Int) := IntWalk.wrap64_in _ (by omega)
   have lw2 : IntKind.i64.wrap (j : Int) = (j : Int) := IntWalk.i64_in _ (by omega)
   have lw3 : IntKind.i64.wrap (k : Int) = (k : Int) := IntWalk.i64_in _ (by omega)
   have d0 : decide ((k : Int) < 2) = true := decide_eq_true k1
   have HJ := xhd hj
   clear hj
   obtain ⟨VO8, hvo⟩ : ∃ v, v = Vo := ⟨_, rfl⟩
   have co : wr.cell? ⟨g, j, none⟩ = some VO8 := by rw [hvo, HJ.out]; exact HQ.out.other
   have cm := HQ.out.neg
   obtain ⟨AO, cO, hO⟩ := HQ.out.swap.form
   rw [hvo.trans hO] at co
   have HVO := xhd (show Vo = .slice AO 0 cO from hO)
   rw [hO] at HQ
   clear hvo hO VO8
   have hsent := y3a
   have hlsent := y2p
   have HKZ0 := xhd (Keeps.refl y01 wr)
   go_wp2_with fail
   refine y0b (fun w' => w'.cell? ⟨g, j, none⟩ = some (.slice AO 0 cO) ∧ w'.cell? ⟨mb, k, none⟩ = some (.pointer (some ⟨hx.l, 0, none⟩))) 17 18 rfl (by kernel_rfl) ⟨co, cm⟩ (fun hHeld => ?_)
   have HSW := hHeld
   clear hHeld
   have HK0d := xhd (HKZ0.out.drew)
   refine y00 (i := 0) rfl (by kernel_rfl) (fun _ _ _ h => h) (Or.inl ⟨by rfl, by intro w hSw; obtain ⟨s0, s1⟩ := hSw; go_simp; try with_reducible rfl⟩) HSW.out ?_
   simp only [Act.put, xqA, xqB, xqD, xqE, xqF]
   refine y00 (i := 1) rfl (by kernel_rfl) (fun _ _ _ h => h) (Or.inl ⟨by rfl, by intro w hSw; obtain ⟨s0, s1⟩ := hSw; go_simp; try with_reducible rfl⟩) HSW.out ?_
   simp only [Act.put, xqA, xqB, xqC, xqD, xqE, xqF]
   refine y00 (i := 2) rfl (by kernel_rfl) (fun _ _ _ h => h) (Or.inl ⟨by rfl, by intro w hSw; obtain ⟨s0, s1⟩ := hSw; go_simp; try with_reducible rfl⟩) HSW.out ?_
   simp only [Act.put, xqA, xqB, xqC, xqD, xqE, xqF]
   refine y00 (i := 3) rfl (by kernel_rfl) (fun _ _ _ h => h) (Or.inl ⟨by rfl, by intro w hSw; obtain ⟨s0, s1⟩ := hSw; go_simp; try with_reducible rfl⟩) HSW.out ?_
   simp only [Act.put, xqA, xqB, xqC, xqD, xqE, xqF]
   refine y00 (i := 4) rfl (by kernel_rfl) (fun _ _ _ h => h) (Or.inl ⟨by rfl, by intro w hSw; obtain ⟨s0, s1⟩ := hSw; go_simp; try with_reducible rfl⟩) HSW.out ?_
   simp only [Act.put, xqA, xqB, xqC, xqD, xqE, xqF]
   refine y00 (i := 5) rfl (by kernel_rfl) (fun _ _ _ h => h) (Or.inl ⟨by rfl, by intro w hSw; obtain ⟨s0, s1⟩ := hSw; go_simp; try with_reducible rfl⟩) HSW.out ?_
   simp only [Act.put, xqA, xqB, xqC, xqD, xqE, xqF]
   refine y00 (i := 6) rfl (by kernel_rfl) (fun _ _ _ h => h) (Or.inl ⟨by rfl, by intro w hSw; obtain ⟨s0, s1⟩ := hSw; go_simp; try with_reducible rfl⟩) HSW.out ?_
   simp only [Act.put, xqA, xqB, xqC, xqD, xqE, xqF]
   refine y00 (i := 7) rfl (by kernel_rfl) (fun _ _ _ h => h) (Or.inl ⟨by rfl, by intro w hSw; obtain ⟨s0, s1⟩ := hSw; go_simp; try with_reducible rfl⟩) HSW.out ?_
   simp only [Act.put, xqA, xqB, xqC, xqD, xqE, xqF]
   refine y00 (i := 8) rfl (by kernel_rfl) (fun _ _ _ h => h) (Or.inl ⟨by rfl, by intro w hSw; obtain ⟨s0, s1⟩ := hSw; go_simp; try with_reducible rfl⟩) HSW.out ?_
   simp only [Act.put, xqA, xqB, xqC, xqD, xqE, xqF]
   refine y00 (i := 9) rfl (by kernel_rfl) (fun _ _ _ h => h) (Or.inl ⟨by rfl, by intro w hSw; obtain ⟨s0, s1⟩ := hSw; go_simp; try with_reducible rfl⟩) HSW.out ?_
   simp only [Act.put, xqA, xqB, xqC, xqD, xqE, xqF]
   refine y00 (i := 10) rfl (by kernel_rfl) (fun _ _ _ h => h) (Or.inl ⟨by rfl, by intro w hSw; obtain ⟨s0, s1⟩ := hSw; go_simp; try with_reducible rfl⟩) HSW.out ?_
   simp only [Act.put, xqA, xqB, xqC, xqD, xqE, xqF]
   refine y00 (i := 11) rfl (by kernel_rfl) (fun _ _ _ h => h) (Or.inl ⟨by rfl, by intro w hSw; obtain ⟨s0, s1⟩ := hSw; go_simp; try with_reducible rfl⟩) HSW.out ?_
   simp only [Act.put, xqA, xqB, xqC, xqD, xqE, xqF]
   refine y03 (i := 12) (by kernel_rfl) rfl (fun K hK => ?_)
   try rw [if_pos (by rfl)]
   go_simp
   refine ((HQ.out.quiet HK0d.out).acts 0 (by omega) HD.out.2.1.1 HD.out.2.1.2.2.1).mono ?_
   rintro e w8a ⟨sv, rfl, hpend⟩
   obtain ⟨AS, cS, rfl⟩ := hpend.form
   have HPD := xhd hpend
   have HSA := xhd (And.intro (show w8a.cell? ⟨g, j, none⟩ = some (.slice AO 0 cO) from by have := hpend.pair.other; rwa [← HJ.out] at this) hpend.pair.neg)
   clear hpend
   refine hK.out _ _ (fun _ => HSA.out) ?_
   clear hK K
   try simp only [Act.put, xqA, Nat.reduceAdd, xqB, xqC, xqD, xqE, xqF]
   refine y00 (i := 13) rfl (by kernel_rfl) (fun _ _ _ h => h) (Or.inl ⟨by rfl, by intro w hSw; obtain ⟨s0, s1⟩ := hSw; go_simp; try with_reducible rfl⟩) HSA.out ?_
   simp only [Act.put, xqA, xqB, xqC, xqD, xqE, xqF]
   refine y00 (i := 14) rfl (by kernel_rfl) (fun _ _ _ h => h) (Or.inl ⟨by rfl, by intro w hSw; obtain ⟨s0, s1⟩ := hSw; go_simp; try with_reducible rfl⟩) HSA.out ?_
   simp only [Act.put, xqA, xqB, xqC, xqD, xqE, xqF]
   refine y03 (i := 15) (by kernel_rfl) rfl (fun K hK => ?_)
   rw [if_pos (by rfl)]
   obtain ⟨Fo, G, xs, ys, hwo, hsr, h1c, hlen, hput⟩ := HPD.out.put (by simp)
   refine y0u (.tmp 53) (.tmp 60) rfl rfl rfl hwo hsr h1c hlen ?_
   intro v8 w8b hwin hkc
   obtain ⟨cc, ff, mm, hPc⟩ := hput v8 w8b hwin hkc
   rw [← HJ.out] at cc ff hPc
   obtain ⟨A8, k8, hv8, _⟩ := hwin.form
   subst hv8
   have HPC := xhd hPc
   have HSB := xhd (And.intro cc mm)
   clear hPc hput hwin hkc hwo hsr h1c mm HPD
   refine hK.out _ _ (fun _ => HSB.out) ?_
   clear hK K
   try simp only [Act.put, xqA, xqB, xqC, xqD, xqE, xqF]
   refine y00 (i := 16) rfl (by kernel_rfl) (fun _ _ _ h => h) (Or.inl ⟨by rfl, by intro w hSw; obtain ⟨s0, s1⟩ := hSw; go_simp; try with_reducible rfl⟩) HSB.out ?_
   simp only [Act.put, xqA, xqB, xqC, xqD, xqE, xqF]
   refine y03 (i := 17) (by kernel_rfl) rfl (fun K hK => ?_)
   go_simp
   refine hK.out _ _ (fun h => absurd rfl h) ?_
   clear hK K
   refine y09 (by kernel_rfl) ?_ _
   have HQ2 := xhd (show y0g w (w8b.setCell ⟨g, j, none⟩ (.slice A8 ([] ++ o1.said.send).length k8)) g mb k Vm (.slice A8 ([] ++ o1.said.send).length k8) lm ([] ++ o1.said.send) hx ox Z1 Mo by rw [List.length_append]; exact HPC.out)
   rw [List.nil_append] at HQ2
   obtain ⟨L8, hL8⟩ : ∃ L, L = o1.said.send.length := ⟨_, rfl⟩
   have HL8 := xhd hL8
   generalize hV8 : Value.slice A8 _ k8 = V8 at HQ2 ⊢
   generalize w8b.setCell ⟨g, j, none⟩ V8 = w8 at HQ2 ⊢
   clear HPC HSA HSB HQ cc ff co cm hV8 hL8 L8 HL8 HKZ0 HK0d HSW
   obtain ⟨AP, cP, hP8⟩ := HQ2.out.swap.form
   have co : w8.cell? ⟨g, j, none⟩ = some V8 := by rw [HJ.out]; exact HQ2.out.other
   have cm := HQ2.out.neg
   obtain ⟨L8, hL8⟩ : ∃ L, L = o1.said.send.length := ⟨_, rfl⟩
   rw [hP8] at co HQ2 ⊢
   have HKZ0 := xhd (Keeps.refl y01 w8)
   have d0 : decide ((k : Int) < 2) = true := decide_eq_true k1
   go_wp2_with fail
   refine y0b (fun w' => w'.cell? ⟨g, j, none⟩ = some (.slice AP o1.said.send.length cP) ∧ w'.cell? ⟨mb, k, none⟩ = some (.pointer (some ⟨hx.l, 0, none⟩))) 17 18 rfl (by kernel_rfl) ⟨co, cm⟩ (fun hHeld => ?_)
   have HSW := hHeld
   clear hHeld
   have HK0d := xhd (HKZ0.out.drew)
   refine y00 (i := 0) rfl (by kernel_rfl) (fun _ _ _ h => h) (Or.inl ⟨by rfl, by intro w hSw; obtain ⟨s0, s1⟩ := hSw; go_simp; try with_reducible rfl⟩) HSW.out ?_
   simp only [Act.put, xqA, xqB, xqD, xqE, xqF]
   refine y00 (i := 1) rfl (by kernel_rfl) (fun _ _ _ h => h) (Or.inl ⟨by rfl, by intro w hSw; obtain ⟨s0, s1⟩ := hSw; go_simp; try with_reducible rfl⟩) HSW.out ?_
   simp only [Act.put, xqA, xqB, xqC, xqD, xqE, xqF]
   refine y00 (i := 2) rfl (by kernel_rfl) (fun _ _ _ h => h) (Or.inl ⟨by rfl, by intro w hSw; obtain ⟨s0, s1⟩ := hSw; go_simp; try with_reducible rfl⟩) HSW.out ?_
   simp only [Act.put, xqA, xqB, xqC, xqD, xqE, xqF]
   refine y00 (i := 3) rfl (by kernel_rfl) (fun _ _ _ h => h) (Or.inl ⟨by rfl, by intro w hSw; obtain ⟨s0, s1⟩ := hSw; go_simp; try with_reducible rfl⟩) HSW.out ?_
   simp only [Act.put, xqA, xqB, xqC, xqD, xqE, xqF]
   refine y00 (i := 4) rfl (by kernel_rfl) (fun _ _ _ h => h) (Or.inl ⟨by rfl, by intro w hSw; obtain ⟨s0, s1⟩ := hSw; go_simp; try with_reducible rfl⟩) HSW.out ?_
   simp only [Act.put, xqA, xqB, xqC, xqD, xqE, xqF]
   refine y00 (i := 5) rfl (by kernel_rfl) (fun _ _ _ h => h) (Or.inl ⟨by rfl, by intro w hSw; obtain ⟨s0, s1⟩ := hSw; go_simp; try with_reducible rfl⟩) HSW.out ?_
   simp only [Act.put, xqA, xqB, xqC, xqD, xqE, xqF]
   refine y00 (i := 6) rfl (by kernel_rfl) (fun _ _ _ h => h) (Or.inl ⟨by rfl, by intro w hSw; obtain ⟨s0, s1⟩ := hSw; go_simp; try with_reducible rfl⟩) HSW.out ?_
   simp only [Act.put, xqA, xqB, xqC, xqD, xqE, xqF]
   refine y00 (i := 7) rfl (by kernel_rfl) (fun _ _ _ h => h) (Or.inl ⟨by rfl, by intro w hSw; obtain ⟨s0, s1⟩ := hSw; go_simp; try with_reducible rfl⟩) HSW.out ?_
   simp only [Act.put, xqA, xqB, xqC, xqD, xqE, xqF]
   refine y00 (i := 8) rfl (by kernel_rfl) (fun _ _ _ h => h) (Or.inl ⟨by rfl, by intro w hSw; obtain ⟨s0, s1⟩ := hSw; go_simp; try with_reducible rfl⟩) HSW.out ?_
   simp only [Act.put, xqA, xqB, xqC, xqD, xqE, xqF]
   refine y00 (i := 9) rfl (by kernel_rfl) (fun _ _ _ h => h) (Or.inl ⟨by rfl, by intro w hSw; obtain ⟨s0, s1⟩ := hSw; go_simp; try with_reducible rfl⟩) HSW.out ?_
   simp only [Act.put, xqA, xqB, xqC, xqD, xqE, xqF]
   refine y00 (i := 10) rfl (by kernel_rfl) (fun _ _ _ h => h) (Or.inl ⟨by rfl, by intro w hSw; obtain ⟨s0, s1⟩ := hSw; go_simp; try with_reducible rfl⟩) HSW.out ?_
   simp only [Act.put, xqA, xqB, xqC, xqD, xqE, xqF]
   refine y00 (i := 11) rfl (by kernel_rfl) (fun _ _ _ h => h) (Or.inl ⟨by rfl, by intro w hSw; obtain ⟨s0, s1⟩ := hSw; go_simp; try with_reducible rfl⟩) HSW.out ?_
   simp only [Act.put, xqA, xqB, xqC, xqD, xqE, xqF]
   refine y03 (i := 12) (by kernel_rfl) rfl (fun K hK => ?_)
   try rw [if_pos (by rfl)]
   go_simp
   refine ((HQ2.out.quiet HK0d.out).acts 2 (by omega) HD.out.2.1.2.1 HD.out.2.1.2.2.2.1).mono ?_
   rintro e w9a ⟨sv, rfl, hpend⟩
   obtain ⟨AS, cS, rfl⟩ := hpend.form
   have HPD := xhd hpend
   have HSA := xhd (And.intro (show w9a.cell? ⟨g, j, none⟩ = some (.slice AP o1.said.send.length cP) from by have := hpend.pair.other; rwa [← HJ.out] at this) hpend.pair.neg)
   clear hpend
   refine hK.out _ _ (fun _ => HSA.out) ?_
   clear hK K
   try simp only [Act.put, xqA, Nat.reduceAdd, xqB, xqC, xqD, xqE, xqF]
   refine y00 (i := 13) rfl (by kernel_rfl) (fun _ _ _ h => h) (Or.inl ⟨by rfl, by intro w hSw; obtain ⟨s0, s1⟩ := hSw; go_simp; try with_reducible rfl⟩) HSA.out ?_
   simp only [Act.put, xqA, xqB, xqC, xqD, xqE, xqF]
   refine y00 (i := 14) rfl (by kernel_rfl) (fun _ _ _ h => h) (Or.inl ⟨by rfl, by intro w hSw; obtain ⟨s0, s1⟩ := hSw; go_simp; try with_reducible rfl⟩) HSA.out ?_
   simp only [Act.put, xqA, xqB, xqC, xqD, xqE, xqF]
   refine y03 (i := 15) (by kernel_rfl) rfl (fun K hK => ?_)
   rw [if_pos (by rfl)]
   obtain ⟨Fo, G, xs, ys, hwo, hsr, h1c, hlen, hput⟩ := HPD.out.put (by have := HD.out.2.1.2.2.2.2.2; omega)
   refine y0u (.tmp 70) (.tmp 77) rfl rfl rfl hwo hsr h1c hlen ?_
   intro v9 w9b hwin hkc
   obtain ⟨cc, ff, mm, hPc⟩ := hput v9 w9b hwin hkc
   rw [← HJ.out] at cc ff hPc
   obtain ⟨A9, k9, hv8, _⟩ := hwin.form
   subst hv8
   have HPC := xhd hPc
   have HSB := xhd (And.intro cc mm)
   clear hPc hput hwin hkc hwo hsr h1c mm HPD
   refine hK.out _ _ (fun _ => HSB.out) ?_
   clear hK K
   try simp only [Act.put, xqA, xqB, xqC, xqD, xqE, xqF]
   refine y00 (i := 16) rfl (by kernel_rfl) (fun _ _ _ h => h) (Or.inl ⟨by rfl, by intro w hSw; obtain ⟨s0, s1⟩ := hSw; go_simp; try with_reducible rfl⟩) HSB.out ?_
   simp only [Act.put, xqA, xqB, xqC, xqD, xqE, xqF]
   refine y03 (i := 17) (by kernel_rfl) rfl (fun K hK => ?_)
   go_simp
   refine hK.out _ _ (fun h => absurd rfl h) ?_
   clear hK K
   refine y09 (by kernel_rfl) ?_ _
   have HP9 := xhd (show ∃ V0 V1, y0g w (w9b.setCell ⟨g, j, none⟩ (.slice A9 (o1.said.send.length + o2.said.send.length) k9)) g mb 0 V0 V1 (if k + 1 = 2 then sy else []) (if 1 ≤ k + 1 then sx else []) gx gy (if 1 ≤ k + 1 then X2 else XX) (if k + 1 = 2 then Y2 else YY) from HD.out.2.2 _ _ (by rw [HD.out.2.1.2.2.2.2.1]; exact HPC.out))
   generalize w9b.setCell ⟨g, j, none⟩ (.slice A9 (o1.said.send.length + o2.said.send.length) k9) = w9 at HP9 ⊢
   clear HPC HSA HSB HQ2 cc ff co cm HKZ0 HK0d HSW
   go_wp2_with fail
   go_roundw
   case rel => exact ⟨k + 1, by omega, by go_num, HP9.out⟩
   case measure => simp [intOf]; omega
  ·have hkk : k = 2 := by omega
   subst hkk
   have HT0 := xhd (show LSit P w wr g mb 0 gx gy from ⟨V0, V1, sy, sx, X2, Y2, HP.out, HQ0.out⟩)
   clear HP hk hk2 HA HQ0
   go_wp2_with fail
   go_loopw [13] (fun i wr2 => ∃ k : Nat, i = .int .i64 (k : Int) ∧ LSit P w wr2 g mb k gx gy) (fun i _ => 80 - (intOf i).toNat)
   case atStart => exact ⟨0, rfl, HT0.out⟩
   case round =>
    obtain ⟨k, rfl, hS⟩ := hrel
    have HS := xhd hS
    obtain ⟨V0, V1, q0, q1, X, Y, hP, hPP⟩ := hS
    obtain ⟨A0, z0, hf0⟩ := hP.form
    obtain ⟨A1, z1, hf1⟩ := hP.swap.form
    have c0 := hP.mine
    have c1 : wr.cell? ⟨g, 1, none⟩ = some V1 := hP.other
    rw [hf0] at c0
    rw [hf1] at c1
    obtain ⟨⟨l0, l1⟩, _⟩ := HT.out.qs hPP
    have HP := xhd hP
    have HPP := xhd hPP
    obtain ⟨n0, hn0⟩ : ∃ n, n = q0.length := ⟨_, rfl⟩
    obtain ⟨n1, hn1⟩ : ∃ n, n = q1.length := ⟨_, rfl⟩
    rw [← hn0] at c0 l0
    rw [← hn1] at c1 l1
    obtain ⟨N, hN⟩ : ∃ N, N = n0 + n1 := ⟨_, rfl⟩
    have e1 : (n0 : Int) + (n1 : Int) = (N : Int) := by omega
    have lw : wrap64 (N : Int) = (N : Int) := IntWalk.wrap64_in _ (by omega)
    have HN := xhd hN
    have HN0 := xhd hn0
    have HN1 := xhd hn1
    clear hP hPP hN hn0 hn1 hf0 hf1 HT0
    by_cases hz : 0 < N
    ·have HKM := xhd (HT.out.short HPP.out (by rw [← HN0.out, ← HN1.out, ← HN.out]; exact hz))
     have HKN : Hid (k < 80) := xhd (Nat.lt_of_lt_of_le HKM.out (by decide))
     have dk : decide ((k : Int) < 80) = true := decide_eq_true (by have := HKN.out; omega)
     have dz : decide ((0 : Int) < (N : Int)) = true := decide_eq_true (Int.natCast_pos.2 hz)
     have dz2 : decide (0 < N) = true := decide_eq_true hz
     have HS := xhd (show y38 P w wr g mb k gx gy from ⟨V0, V1, q0, q1, X, Y, HP.out, HPP.out, by rw [← HN0.out, ← HN1.out, ← HN.out]; exact hz⟩)
     clear HP HPP HN HN0 HN1 l0 l1 hz
     go_wp2_with fail
     go_quiet (fail)
     clear c0 c1 e1 lw dz dz2 dk
     have HS2 := xhd (HS.out.quiet (Keeps.of_drewN (n := nq) rfl))
     have HB2 := xhd HS2.out.below
     generalize wr.drewN nq = wd at HS2 HB2 ⊢
     clear HS
     have wand : bits .and .i64 (k : Int) 1 = ((k % 2 : Nat) : Int) := by rw [y9h]; rfl
     obtain ⟨pj, hpj⟩ : ∃ q, q = k % 2 := ⟨_, rfl⟩
     rw [← hpj] at wand
     have hp1 : pj ≤ 1 := by omega
     clear hpj
     obtain ⟨Am, nm, zm, cmm, hnm, hpick0, hpick1⟩ := y38.pick HT.out HS2.out hp1
     have HP0 := xhd hpick0
     have HP1 := xhd hpick1
     have i0 : (0 : Int) ≤ (pj : Int) := by omega
     have i1 : (pj : Int) < 2 := by omega
     have HPJ := xhd hp1
     clear hpick0 hpick1 HS2
     go_upto_if 103 with fail
     go_cut [14] from 98 to 137 (fun v wx => wx = wd ∧ ∃ i : Nat, i ≤ 1 ∧ v = .int .i64 (i : Int) ∧ y6h w wd g mb i (fun W => LSit P w W g mb (k + 1) gx gy))
     case first =>
      by_cases hz : nm = 0
      ·have HX0 := xhd (HP0.out hz)
       have dn : ((nm : Int) == 0) = true := by rw [beq_iff_eq, hz]; rfl
       have e1 : (1 : Int) - (pj : Int) = ((1 - pj : Nat) : Int) := by have := HPJ.out; omega
       have e2 : 1 - pj ≤ 1 := by omega
       generalize 1 - pj = j at HX0 e1 e2
       have lw : wrap64 (j : Int) = (j : Int) := IntWalk.wrap64_in _ (by omega)
       clear hz
       go_wp2_with fail
       go_meet
       exact ⟨rfl, j, e2, rfl, HX0.out⟩
      ·have HX1 := xhd (HP1.out hz)
       have dn : ((nm : Int) == 0) = false := by rw [beq_eq_false_iff_ne]; omega
       clear hz
       go_wp2_with fail
       go_meet
       exact ⟨rfl, pj, HPJ.out, rfl, HX1.out⟩
     case rest =>
     clear cmm hnm HP0 HP1 i0 i1 hp1
     obtain ⟨rfl, i, hi, rfl, hN⟩ := hcut
     obtain ⟨Vm, Vo, p, t, lo, hx, ox, Mm, Mo, n', o', hP, htame, hlo, hin, hback⟩ := hN
     obtain ⟨bb, oo, zc, d, hV, hzc, hcell, hpop⟩ := hP.head'
     have cmv := hP.mine
     rw [hV] at cmv
     have x0 : wc.cell? ⟨bb, oo, none⟩ = some (.int .i64 p.code) := hcell 0 _ rfl
     have x1 : wc.cell? ⟨bb, oo + 1, none⟩ = some (.int .i64 p.id) := hcell 1 _ rfl
     have x2 : wc.cell? ⟨bb, oo + 2, none⟩ = some d := hcell 2 _ rfl
     have i0 : (0 : Int) ≤ (i : Int) := by omega
     have i1 : (i : Int) < 2 := by omega
     obtain ⟨T, hT⟩ : ∃ T, T = t.length := ⟨_, rfl⟩
     rw [← hT] at cmv hzc hpop
     have z0 : (0 : Int) < ((T + 1 : Nat) : Int) := by omega
     have z1 : 0 < T + 1 := by omega
     have hslice := y50 (some ⟨bb, oo, none⟩) T zc hzc
     obtain ⟨DA, dl, dc, hd⟩ : ∃ A n c, d = .slice A n c := by
      obtain ⟨_, _, A, c, e, _⟩ := (hpop wc (Keeps.refl _ _)).1
      exact ⟨A, _, c, e⟩
     subst hd
     have HP2 := xhd hP
     have HPOP := xhd hpop
     have HTAME := xhd htame
     have HLO := xhd hlo
     have HIN := xhd hin
     have HBACK := xhd hback
     have HTT := xhd hT
     clear hP hpop htame hlo hin hback hcell hT hzc hV
     obtain ⟨AV, cV, hVV⟩ := y6l (some ⟨bb, oo, none⟩) zc 1 T 3
     rw [hVV] at HPOP hslice
     clear hVV
     obtain ⟨pc, pi, pd⟩ := p
     dsimp only at x0 x1
     go_upto_region 20 with fail
     obtain ⟨gp, hgp⟩ : ∃ q, q = wc.heap.size := ⟨_, rfl⟩
     rw [← hgp]
     generalize hwx : wc.alloc (.cells #[.int .i64 pc, .int .i64 pi, .slice DA dl dc] 56) = wx
     have hkx : Keeps y01 wc wx := by rw [← hwx]; exact (Keeps.refl _ wc).alloc _
     have hbx : Blk wx gp 56 #[.int .i64 pc, .int .i64 pi, .slice DA dl dc] := by rw [← hwx, hgp]; exact Blk.new wc _ _
     have hPx := HP2.out.quiet hkx
     have cmv := y04 cmv hkx
     have fmv := hPx.free i
     obtain ⟨hh, hp2⟩ := HPOP.out wx hkx
     have HH := xhd hh
     have HP3 := xhd hp2
     have hgg : gp ≠ g := by have := hbx.lt; have h2 := y0x (HP2.out.mine); omega
     have HBX := xhd ((hbx.far (p := ⟨g, i, none⟩) hgg (.slice AV T cV)))
     clear hwx hkx hbx hPx hh hp2 hgg x0 x1 x2 HP2 HPOP hgp
     go_upto_region 21 with fail
     clear cmv fmv hslice z0 z1
     generalize wx.setCell ⟨g, i, none⟩ (.slice AV T cV) = w8 at HP3 HH HBX ⊢
     generalize Value.slice AV T cV = VV at HP3 ⊢
     obtain ⟨j, hj⟩ : ∃ j, j = 1 - i := ⟨_, rfl⟩
     have hj1 : j ≤ 1 := by omega
     have j0 : (0 : Int) ≤ (j : Int) := by omega
     have j1 : (j : Int) < 2 := by omega
     have e1 : (1 : Int) - (i : Int) = (j : Int) := by omega
     have lw : wrap64 (j : Int) = (j : Int) := IntWalk.wrap64_in _ (by omega)
     have lw2 : IntKind.i64.wrap (j : Int) = (j : Int) := IntWalk.i64_in _ (by omega)
     have lw3 : IntKind.i64.wrap (i : Int) = (i : Int) := IntWalk.i64_in _ (by omega)
     have HJ := xhd hj
     clear hj
     obtain ⟨AO, cO, hO⟩ := HP3.out.swap.form
     have co : w8.cell? ⟨g, j, none⟩ = some Vo := by rw [HJ.out]; exact HP3.out.other
     have cm := HP3.out.neg
     rw [hO] at co HP3
     clear hO
     have hsent := y3a
     have hlsent := y2p
     have b0 : w8.cell? ⟨gp, 0, none⟩ = some (.int .i64 pc) := by rw [HBX.out.cell]; rfl
     have b1 : w8.cell? ⟨gp, 1, none⟩ = some (.int .i64 pi) := by rw [HBX.out.cell]; rfl
     have b2 : w8.cell? ⟨gp, 2, none⟩ = some (.slice DA dl dc) := by rw [HBX.out.cell]; rfl
     have HKZ0 := xhd (Keeps.refl y01 w8)
     refine y0b (fun w' => w'.cell? ⟨g, j, none⟩ = some (.slice AO lo.length cO) ∧ w'.cell? ⟨mb, i, none⟩ = some (.pointer (some ⟨hx.l, 0, none⟩))) 18 19 rfl (by kernel_rfl) ⟨co, cm⟩ (fun hHeld => ?_)
     have HSW := hHeld
     clear hHeld
     have HK0d := xhd (HKZ0.out.drew)
     refine y00 (i := 0) rfl (by kernel_rfl) (fun _ _ _ h => h) (Or.inl ⟨by rfl, by intro w hSw; obtain ⟨s0, s1⟩ := hSw; go_simp; try with_reducible rfl⟩) HSW.out ?_
     simp only [Act.put, xqA, xqB, xqD, xqE, xqF]
     refine y00 (i := 1) rfl (by kernel_rfl) (fun _ _ _ h => h) (Or.inl ⟨by rfl, by intro w hSw; obtain ⟨s0, s1⟩ := hSw; go_simp; try with_reducible rfl⟩) HSW.out ?_
     simp only [Act.put, xqA, xqB, xqC, xqD, xqE, xqF]
     refine y00 (i := 2) rfl (by kernel_rfl) (fun _ _ _ h => h) (Or.inl ⟨by rfl, by intro w hSw; obtain ⟨s0, s1⟩ := hSw; go_simp; try with_reducible rfl⟩) HSW.out ?_
     simp only [Act.put, xqA, xqB, xqC, xqD, xqE, xqF]
     refine y00 (i := 3) rfl (by kernel_rfl) (fun _ _ _ h => h) (Or.inl ⟨by rfl, by intro w hSw; obtain ⟨s0, s1⟩ := hSw; go_simp; try with_reducible rfl⟩) HSW.out ?_
     simp only [Act.put, xqA, xqB, xqC, xqD, xqE, xqF]
     refine y00 (i := 4) rfl (by kernel_rfl) (fun _ _ _ h => h) (Or.inl ⟨by rfl, by intro w hSw; obtain ⟨s0, s1⟩ := hSw; go_simp; try with_reducible rfl⟩) HSW.out ?_
     simp only [Act.put, xqA, xqB, xqC, xqD, xqE, xqF]
     refine y00 (i := 5) rfl (by kernel_rfl) (fun _ _ _ h => h) (Or.inl ⟨by rfl, by intro w hSw; obtain ⟨s0, s1⟩ := hSw; go_simp; try with_reducible rfl⟩) HSW.out ?_
     simp only [Act.put, xqA, xqB, xqC, xqD, xqE, xqF]
     refine y00 (i := 6) rfl (by kernel_rfl) (fun _ _ _ h => h) (Or.inl ⟨by rfl, by intro w hSw; obtain ⟨s0, s1⟩ := hSw; go_simp; try with_reducible rfl⟩) HSW.out ?_
     simp only [Act.put, xqA, xqB, xqC, xqD, xqE, xqF]
     refine y00 (i := 7) rfl (by kernel_rfl) (fun _ _ _ h => h) (Or.inl ⟨by rfl, by intro w hSw; obtain ⟨s0, s1⟩ := hSw; go_simp; try with_reducible rfl⟩) HSW.out ?_
     simp only [Act.put, xqA, xqB, xqC, xqD, xqE, xqF]
     refine y00 (i := 8) rfl (by kernel_rfl) (fun _ _ _ h => h) (Or.inl ⟨by rfl, by intro w hSw; obtain ⟨s0, s1⟩ := hSw; go_simp; try with_reducible rfl⟩) HSW.out ?_
     simp only [Act.put, xqA, xqB, xqC, xqD, xqE, xqF]
     refine y00 (i := 9) rfl (by kernel_rfl) (fun _ _ _ h => h) (Or.inl ⟨by rfl, by intro w hSw; obtain ⟨s0, s1⟩ := hSw; go_simp; try with_reducible rfl⟩) HSW.out ?_
     simp only [Act.put, xqA, xqB, xqC, xqD, xqE, xqF]
     refine y00 (i := 10) rfl (by kernel_rfl) (fun _ _ _ h => h) (Or.inl ⟨by rfl, by intro w hSw; obtain ⟨s0, s1⟩ := hSw; go_simp; try with_reducible rfl⟩) HSW.out ?_
     simp only [Act.put, xqA, xqB, xqC, xqD, xqE, xqF]
     refine y00 (i := 11) rfl (by kernel_rfl) (fun _ _ _ h => h) (Or.inl ⟨by rfl, by intro w hSw; obtain ⟨s0, s1⟩ := hSw; go_simp; try with_reducible rfl⟩) HSW.out ?_
     simp only [Act.put, xqA, xqB, xqC, xqD, xqE, xqF]
     refine y03 (i := 12) (by kernel_rfl) rfl (fun K hK => ?_)
     try rw [if_pos (by rfl)]
     go_simp
     refine hK.out _ _ (fun _ => HSW.out) ?_
     clear hK K
     try simp only [Act.put, xqA, Nat.reduceAdd, xqB, xqC, xqD, xqE, xqF]
     refine y03 (i := 13) (by kernel_rfl) rfl (fun K hK => ?_)
     try rw [if_pos (by rfl)]
     go_simp
     refine ((HP3.out.quiet HK0d.out).hears (.slice DA dl dc) ⟨pc, pi, pd⟩ ((HH.out.keeps HK0d.out (fun _ _ h => h)).mono (fun b hb => ⟨Nat.lt_of_lt_of_le hb.1 HK0d.out.size, hb.2⟩)) HTAME.out.1 HTAME.out.2.1 HTAME.out.2.2 HIN.out).mono ?_
     rintro e w10a ⟨sv, rfl, hpend⟩
     obtain ⟨AS, cS, rfl⟩ := hpend.form
     have HPD := xhd hpend
     have HSA := xhd (And.intro (show w10a.cell? ⟨g, j, none⟩ = some (.slice AO lo.length cO) from by have := hpend.pair.other; rwa [← HJ.out] at this) hpend.pair.neg)
     clear hpend
     refine hK.out _ _ (fun _ => HSA.out) ?_
     clear hK K
     try simp only [Act.put, xqA, Nat.reduceAdd, xqB, xqC, xqD, xqE, xqF]
     refine y00 (i := 14) rfl (by kernel_rfl) (fun _ _ _ h => h) (Or.inl ⟨by rfl, by intro w hSw; obtain ⟨s0, s1⟩ := hSw; go_simp; try with_reducible rfl⟩) HSA.out ?_
     simp only [Act.put, xqA, xqB, xqC, xqD, xqE, xqF]
     refine y00 (i := 15) rfl (by kernel_rfl) (fun _ _ _ h => h) (Or.inl ⟨by rfl, by intro w hSw; obtain ⟨s0, s1⟩ := hSw; go_simp; try with_reducible rfl⟩) HSA.out ?_
     simp only [Act.put, xqA, xqB, xqC, xqD, xqE, xqF]
     refine y03 (i := 16) (by kernel_rfl) rfl (fun K hK => ?_)
     rw [if_pos (by rfl)]
     obtain ⟨Fo, G, xs, ys, hwo, hsr, h1c, hlen, hput⟩ := HPD.out.put HLO.out
     refine y0u (.tmp 127) (.tmp 135) rfl rfl rfl hwo hsr h1c hlen ?_
     intro v10 w10b hwin hkc
     obtain ⟨cc, ff, mm, hPc⟩ := hput v10 w10b hwin hkc
     rw [← HJ.out] at cc ff hPc
     obtain ⟨A10, k10, hv8, _⟩ := hwin.form
     subst hv8
     have HPC := xhd hPc
     have HSB := xhd (And.intro cc mm)
     clear hPc hput hwin hkc hwo hsr h1c mm HPD
     refine hK.out _ _ (fun _ => HSB.out) ?_
     clear hK K
     try simp only [Act.put, xqA, xqB, xqC, xqD, xqE, xqF]
     refine y00 (i := 17) rfl (by kernel_rfl) (fun _ _ _ h => h) (Or.inl ⟨by rfl, by intro w hSw; obtain ⟨s0, s1⟩ := hSw; go_simp; try with_reducible rfl⟩) HSB.out ?_
     simp only [Act.put, xqA, xqB, xqC, xqD, xqE, xqF]
     refine y03 (i := 18) (by kernel_rfl) rfl (fun K hK => ?_)
     go_simp
     refine hK.out _ _ (fun h => absurd rfl h) ?_
     clear hK K
     refine y09 (by kernel_rfl) ?_ _
     have HS9 := xhd (HBACK.out _ _ _ HPC.out)
     generalize w10b.setCell ⟨g, j, none⟩ (.slice A10 (lo.length + o'.said.send.length) k10) = w9 at HS9 ⊢
     clear HPC HSA HSB HP3 HH HBX HTAME HLO HIN HBACK HTT e1 lw lw2 lw3 j0 j1 i0 i1 HJ co cm cc ff HKZ0 HK0d HSW b0 b1 b2
     have hk3 := HKN.out
     go_wp2_with fail
     go_roundw
     case rel => exact ⟨k + 1, (Int.natCast_succ k).symm, HS9.out⟩
     case measure => exact y2x HKN.out
    ·have dz : decide ((0 : Int) < (N : Int)) = false := decide_eq_false (fun h => hz (Int.natCast_pos.1 h))
     have dz2 : decide (0 < N) = false := decide_eq_false hz
     have hz0 : n0 + n1 = 0 := by rw [← HN.out]; exact Nat.eq_zero_of_not_pos hz
     have hq0 : q0 = [] := List.eq_nil_of_length_eq_zero (by rw [← HN0.out]; exact (Nat.add_eq_zero_iff.1 hz0).1)
     have hq1 : q1 = [] := List.eq_nil_of_length_eq_zero (by rw [← HN1.out]; exact (Nat.add_eq_zero_iff.1 hz0).2)
     have HKM := xhd (Nat.le_trans (HT.out.most HPP.out) (show 8 ≤ 80 - 1 by decide))
     have HEND := xhd (HE.out k X Y (by have h := HPP.out; rw [hq0, hq1] at h; exact h))
     have HPE := xhd (fun n => HP.out.quiet (Keeps.of_drewN (n := n) rfl))
     clear hz0 hq0 hq1 HP HPP HE HN HN0 HN1 hz HS
     have dk : decide ((k : Int) < 80) = true := decide_eq_true (by have := HKM.out; omega)
     clear HKM
     go_wp2_with fail
     go_quiet (fail)
     clear c0 c1 e1 lw dz dz2 dk l0 l1
     have HPF := xhd (HPE.out nq)
     generalize wr.drewN nq = wd at HPF ⊢
     clear HPE
     obtain ⟨e1, e2⟩ := HEND.out
     subst e1 e2
     have HSX := xhd (show Calls Tryz.prog 40 #[.pointer (some ⟨gx.l, 0, none⟩)] wd fun e w' => e = .returned (.int .i64 9) ∧ wd = w' from HPF.out.state)
     have HSY := xhd (show Calls Tryz.prog 40 #[.pointer (some ⟨gy.l, 0, none⟩)] wd fun e w' => e = .returned (.int .i64 9) ∧ wd = w' from HPF.out.swap.state)
     have HTWO := xhd HPF.out.two
     clear HPF HEND
     go_wp2_with fail
     refine HSX.out.mono ?_
     rintro e w' ⟨rfl, rfl⟩
     go_wp2_with fail
     refine HSY.out.mono ?_
     rintro e w' ⟨rfl, rfl⟩
     go_wp2_with fail
     go_ret2
     exact ⟨gx, gy, a, b, rfl, HTWO.out, HAA.out, HBB.out⟩
namespace Pure
section
variable {x : Lcp} {c l t u : Nat}
theorem act_9_15 (c l t u : Nat) : (⟨9, c, l, t, u⟩ : Mach).act2 (15 : Nat) = ([12], ⟨9, c, 0, t, u⟩) := rfl
theorem open_echo (hm : x.n.m = ⟨9, c, l, t, u⟩) (i : Int) (d : List UInt8) (hd : 4 ≤ d.length) :
  x.input ⟨9, i, d⟩ = ({ x with n := { x.n with m := ⟨9, c, 0, t, u⟩ } }, .of (sends [⟨10, i, wide x.mine.magic 4 ++ d.drop 4⟩])) := by
 unfold Lcp.input
 rw [if_neg (by rw [hm]; simp), if_neg (by simp), if_neg (by simp), if_pos rfl, if_neg (by dsimp only; omega), if_pos (by rw [hm])]
 unfold Neg.by Neg.event
 rw [hm, act_9_15]
 rfl
theorem open_quiet (hm : x.n.m = ⟨9, c, l, t, u⟩) (k i : Int) (hk : k = 10 ∨ k = 11) (d : List UInt8) : x.input ⟨k, i, d⟩ = (x, .of mute) := by
 unfold Lcp.input
 rw [if_neg (by rw [hm]; simp), if_neg (by dsimp only; omega), if_neg (by dsimp only; omega), if_neg (by dsimp only; omega), if_pos hk, if_pos (by rw [hm])]
end
end Pure
theorem y4k {w w' : World} {g m b off : Nat} {u : Value} (k : Keeps (fun b => b = g ∨ b = m) w w') (h1 : b ≠ g) (h2 : b ≠ m) (h : w.cell? ⟨b, off, none⟩ = some u) : w'.cell? ⟨b, off, none⟩ = some u := by
 have hl := y0x h
 unfold World.cell? at h ⊢
 rw [k.block b hl (fun e => e.elim h1 h2)]
 exact h
theorem yfu (x n : Nat) (w : World) (hn : n ≤ 4) (_ : x < 4294967296) :
  Calls Tryz.prog 48 #[.int .i64 x, .int .i64 n] w fun e w' => ∃ u, e = .returned u ∧ w'.ownsRow w.heap.size 5 1 u n (u8s (Pure.wide x n)) ∧ Below w.heap.size w w' := by
 have e0 : wrap64 ((n : Int) - 1) = (n : Int) - 1 := IntWalk.wrap64_in _ (by omega)
 go_enter Tryz.func48, Tryz.ntmps48
 go_wp2_with fail
 go_loopw [5, 6] (fun v i wr => ∃ k : Nat, k ≤ n ∧ i = .int .i64 ((n : Int) - 1 - (k : Int)) ∧ wr.ownsRow w.heap.size 5 1 v k (u8s ((Pure.wide x n).take k)) ∧ Below w.heap.size w wr) (fun _ i _ => (intOf i + 1).toNat)
 case atStart => exact ⟨0, by omega, by simp, World.ownsRow_nil _ _ _ _, Below.refl _ _⟩
 case round =>
  obtain ⟨k, hk, rfl, hW, hB⟩ := hrel
  have HW := xhd hW
  have HB := xhd hB
  obtain ⟨A5, c5, rfl⟩ := y0c hW
  clear hW hB e0
  by_cases hkl : k < n
  ·obtain ⟨j, hj⟩ : ∃ j, n - 1 - k = j := ⟨_, rfl⟩
   have hji : (n : Int) - 1 - (k : Int) = (j : Int) := by omega
   have hj3 : j ≤ 3 := by omega
   rw [hji]
   have d0 : decide ((0 : Int) ≤ (j : Int)) = true := decide_eq_true (by omega)
   have e1 : wrap64 (8 * (j : Int)) = ((8 * j : Nat) : Int) := by rw [IntWalk.wrap64_in _ (by omega)]; omega
   have htk : (Pure.wide x n).take (k + 1) = (Pure.wide x n).take k ++ [UInt8.ofNat (x / 256 ^ j % 256)] := by
    rw [List.take_add_one]
    congr 1
    unfold Pure.wide
    rw [List.getElem?_map, List.getElem?_range hkl]
    show [UInt8.ofNat (x / 256 ^ (n - 1 - k) % 256)] = _
    rw [hj]
   obtain ⟨B, hBe⟩ : ∃ B, B = UInt8.ofNat (x / 256 ^ j % 256) := ⟨_, rfl⟩
   rw [← hBe] at htk
   have hbv : ((x : Int) / 2 ^ (8 * j) % 256) = (B.toNat : Int) := by
    rw [hBe, show (UInt8.ofNat (x / 256 ^ j % 256)).toNat = x / 256 ^ j % 256 by simp, show (256 : Nat) ^ j = 2 ^ (8 * j) by rw [Nat.pow_mul]]
    simp
   have hlen : ((Pure.wide x n).take k).length = k := by rw [List.length_take, Pure.wide_length]; omega
   have HTK := xhd htk
   have HRow := xhd (y7g wr [B] #[.int .u8 B.toNat] 1 rfl rfl (by simp))
   have hsz := HB.out.size
   clear htk hBe
   go_wp2_with (at_builtin; refine y0t ?_)
   unfold Hid
   rw [hbv]
   refine y1n rfl (.tmp 13) (.tmp 20) rfl w.heap.size _ k ((Pure.wide x n).take k) hlen rfl (HW.out.alloc _) _ _ [B] rfl HRow.out (by simp; omega) (by simp; omega) ?_
   intro v3 w3 hown3 hg3 hat3
   rw [← HTK.out] at hown3
   have O3 := xhd (show w3.ownsRow w.heap.size 5 1 v3 (k + 1) (u8s ((Pure.wide x n).take (k + 1))) by
    have e : ((Pure.wide x n).take (k + 1)).length = k + 1 := by rw [List.length_take, Pure.wide_length]; omega
    rw [e] at hown3
    exact hown3)
   have B3 := xhd (Below.grown (HB.out.alloc hsz (.cells #[.int .u8 B.toNat] 5)) hg3 (by simp; omega) (fun q hq => (y0f HW.out q hq)))
   have hjk : wrap64 ((j : Int) - 1) = (n : Int) - 1 - ((k + 1 : Nat) : Int) := by rw [IntWalk.wrap64_in _ (by omega)]; omega
   clear hown3 hg3 hat3 HRow e1
   go_wp2_with fail
   go_roundw
   case rel => exact ⟨k + 1, by omega, congrArg (Value.int .i64) (by omega), O3.out, B3.out⟩
   case measure => simp [intOf] <;> omega
  ·have hkk : k = n := by omega
   subst hkk
   have hm1 : (k : Int) - 1 - (k : Int) = -1 := by omega
   rw [hm1]
   have e : (Pure.wide x k).take k = Pure.wide x k := by rw [List.take_of_length_le (by rw [Pure.wide_length]; omega)]
   have HW2 := xhd (show wr.ownsRow w.heap.size 5 1 (.slice A5 k c5) k (u8s (Pure.wide x k)) by have := HW.out; rw [e] at this; exact this)
   clear e hm1
   go_wp2
   go_ret
   exact ⟨_, rfl, HW2.out, HB.out⟩
end Go.Proofs.YtmgicbckgpdkcaaGreatDoor
