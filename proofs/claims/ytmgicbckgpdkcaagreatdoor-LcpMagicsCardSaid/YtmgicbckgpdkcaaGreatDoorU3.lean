/- Chapter 14's statements: LcpMagics. -/
import Derived.Test.YtmgicbckgpdkcaaGreatDoorU2
namespace Go.Proofs.YtmgicbckgpdkcaaGreatDoor
set_option maxRecDepth 100000
set_option maxHeartbeats 16000000
open _root_.Go.Lib renaming hid → xhd
open List renaming setIfInBounds_toArray → xqA, getElem_toArray → xqB, getElem_cons_succ → xqC, getElem_cons_zero → xqD, set_cons_succ → xqE, set_cons_zero → xqF
open Go.RowKit
theorem yb7 (n : Int) (m : Nat) (hm : m < 4294967296) (o : Value) (bs : List UInt8) (w : World) (env : Env14 w) (ho : Row w (fun b => b < w.heap.size) 1 o bs.length (u8s bs)) :
  Calls Tryz.prog 11 #[.int .i64 n, .int .u32 (m : Int), o] w fun e w' => e = .returned (.bool true) ∧ Below w.heap.size w w' := by
 obtain ⟨OO, co0, rfl, _⟩ := ho.form
 have HO := xhd ho
 have HENV := xhd env
 have HMM := xhd hm
 have HAW := xhd (y4p w env.env)
 obtain ⟨on, hon⟩ : ∃ q, q = bs.length := ⟨_, rfl⟩
 have HON := xhd hon
 rw [← hon] at HO ⊢
 clear ho env hon hm
 go_enter Tryz.func11, Tryz.ntmps11
 go_wp2_with fail
 refine HAW.out.mono ?_
 rintro e w1 ⟨rfl, hk1⟩
 have HK1 := xhd hk1
 clear hk1 HAW
 by_cases hol : 60 < on
 ·have d1 : decide ((60 : Int) < (on : Int)) = true := decide_eq_true (by omega)
  have d2 : decide (60 < on) = true := decide_eq_true hol
  go_wp2_with fail
  go_ret
  exact ⟨rfl, HK1.out.to_below⟩
 have d1 : decide ((60 : Int) < (on : Int)) = false := decide_eq_false (by omega)
 have d2 : decide (60 < on) = false := decide_eq_false hol
 have HOL := xhd hol
 clear hol
 by_cases hm0 : m = 0
 ·have d3 : ((m : Int) == 0) = true := by rw [beq_iff_eq]; omega
  clear hm0
  go_wp2_with fail
  go_ret
  exact ⟨rfl, HK1.out.to_below⟩
 have d3 : ((m : Int) == 0) = false := by rw [beq_eq_false_iff_ne]; omega
 have HM0 := xhd hm0
 clear hm0
 have HMA := xhd (y2m (bits .or .i64 n 1) 3 w1)
 go_wp2_with fail
 refine HMA.out.mono ?_
 rintro e w2 ⟨a, rfl, ha, hk2⟩
 rw [y8y] at ha
 have HAA := xhd (show MadeIs a true 4 from ha)
 have HK2 := xhd (HK1.out.trans hk2)
 have HNX := xhd (y1u a true 4 HAA.out (by decide) m HMM.out w2 ((HENV.out.keeps HK2.out).env))
 clear ha hk2 HMA HK1 d1 d2 d3
 go_wp2_with fail
 refine HNX.out.mono ?_
 rintro e w3 ⟨gx, fx, Rx, rfl, hx, x0, x1, x2, x3, hk3⟩
 have HX := xhd (And.intro hx (And.intro x0 (And.intro x1 x2)))
 have HK3 := xhd hk3
 have HMB := xhd (y2m (bits .andNot .i64 n 1) 3 w3)
 clear hx x0 x1 x2 x3 hk3 HNX
 go_wp2_with fail
 refine HMB.out.mono ?_
 rintro e w4 ⟨b, rfl, hb, hk4⟩
 rw [y4i] at hb
 have HBB := xhd (show MadeIs b false 4 from hb)
 have HK4 := xhd hk4
 have HNY := xhd (y1u b false 4 HBB.out (by decide) m HMM.out w4 ((HENV.out.keeps ((HK2.out.trans HK3.out).trans hk4)).env))
 clear hb hk4 HMB
 go_wp2_with fail
 refine HNY.out.mono ?_
 rintro e w5 ⟨gy, fy, Ry, rfl, hy, y0, y1, y2, y3, hk5⟩
 have hTN := y72 HENV.out HK2.out.to_below HK3.out HX.out.1 HX.out.2.1 HX.out.2.2.1 HX.out.2.2.2 HK4.out hk5 hy y0 y1 y2 y3 (Keeps.refl _ w5)
 clear hy y0 y1 y2 y3 hk5 HNY HX HK2 HK3 HK4
 have HP := xhd (y4w hTN)
 obtain ⟨X1, Y1, hbeg⟩ := y6u a b (m) (m)
 have h0 : Pure.magP a b m a.timeout.toNat b.timeout.toNat 0 [⟨1, 1, (Pure.options (b.ask m)).2⟩] [⟨1, 1, (Pure.options (a.ask m)).2⟩] ⟨a, Pure.begun a.rules (a.ask m) a.tries.toNat a.timeout.toNat⟩ ⟨b, Pure.begun b.rules (b.ask m) b.tries.toNat b.timeout.toNat⟩ := by rw [HAA.out.tries, HBB.out.tries]; exact Pure.mag_start a b m a.timeout.toNat b.timeout.toNat
 have hE : ∀ k X Y, Pure.magP a b m a.timeout.toNat b.timeout.toNat k [] [] X Y → (X.n.m.state = 9 ∧ Y.n.m.state = 9 ∧ X.mine = Y.peer ∧ Y.mine = X.peer ∧ (X.mine.magic ≠ Y.mine.magic ∨ X.mine.magic = 0 ∨ Y.mine.magic = 0)) := fun k X Y h => Pure.mag_done HM0.out HMM.out h
 have hT := Pure.mag_talks (HAA.out.fine (by decide)) (HBB.out.fine (by decide)) (by rw [HAA.out.server, HBB.out.server]; rfl) HM0.out HMM.out a.timeout.toNat b.timeout.toNat
 obtain ⟨P, hPP⟩ : ∃ P, P = Pure.magP a b m a.timeout.toNat b.timeout.toNat := ⟨_, rfl⟩
 rw [← hPP] at h0 hE hT
 obtain ⟨XX, hXX⟩ : ∃ q, q = Pure.newLcp a (m) := ⟨_, rfl⟩
 obtain ⟨YY, hYY⟩ : ∃ q, q = Pure.newLcp b (m) := ⟨_, rfl⟩
 rw [← hXX, ← hYY] at HP hbeg
 obtain ⟨X2, hX2⟩ : ∃ q : Pure.Lcp, q = ⟨a, Pure.begun a.rules (a.ask (m)) a.tries.toNat a.timeout.toNat⟩ := ⟨_, rfl⟩
 obtain ⟨Y2, hY2⟩ : ∃ q : Pure.Lcp, q = ⟨b, Pure.begun b.rules (b.ask (m)) b.tries.toNat b.timeout.toNat⟩ := ⟨_, rfl⟩
 rw [← hX2, ← hY2] at hbeg h0
 obtain ⟨sx, hsx⟩ : ∃ q, q = [(⟨1, 1, (Pure.options (a.ask (m))).2⟩ : Pure.Pkt)] := ⟨_, rfl⟩
 obtain ⟨sy, hsy⟩ : ∃ q, q = [(⟨1, 1, (Pure.options (b.ask (m))).2⟩ : Pure.Pkt)] := ⟨_, rfl⟩
 obtain ⟨ox2, hox2⟩ : ∃ q : Pure.LSaid, q = .of (Pure.sends [⟨1, 1, (Pure.options (a.ask (m))).2⟩]) := ⟨_, rfl⟩
 obtain ⟨oy2, hoy2⟩ : ∃ q : Pure.LSaid, q = .of (Pure.sends [⟨1, 1, (Pure.options (b.ask (m))).2⟩]) := ⟨_, rfl⟩
 obtain ⟨ox1, hox1⟩ : ∃ q, q = Pure.LSaid.of Pure.mute := ⟨_, rfl⟩
 obtain ⟨oy1, hoy1⟩ : ∃ q, q = Pure.LSaid.of Pure.mute := ⟨_, rfl⟩
 have hbeg2 : y8f XX X1 X2 YY Y1 Y2 ox1 ox2 oy1 oy2 sx sy := by rw [hox1, hoy1, hox2, hoy2, hsx, hsy]; exact hbeg
 rw [← hsx, ← hsy] at h0
 have HA := xhd (show (XX.n.naks ≤ 1000 ∧ X1.n.naks ≤ 1000 ∧ XX.act 0 = (X1, ox1) ∧ X1.act 2 = (X2, ox2) ∧ sx = ox1.said.send ++ ox2.said.send ∧ ox1.said.send.length ≤ 10) ∧ (YY.n.naks ≤ 1000 ∧ Y1.n.naks ≤ 1000 ∧ YY.act 0 = (Y1, oy1) ∧ Y1.act 2 = (Y2, oy2) ∧ sy = oy1.said.send ++ oy2.said.send ∧ oy1.said.send.length ≤ 10) from hbeg2)
 have HQ0 := xhd h0
 have HT := xhd hT
 have HE := xhd hE
 clear hXX hYY hX2 hY2 hsx hsy hox1 hoy1 hox2 hoy2 hbeg hbeg2 h0 hT hE hPP hTN
 have hmake := y5y
 go_wp2_with fail
 clear hmake
 generalize (w5.alloc (.cells #[.pointer (some ⟨gx.l, 0, none⟩), .pointer (some ⟨gy.l, 0, none⟩)] 49)).alloc (.cells #[.slice none 0 0, .slice none 0 0] 57) = W at HP ⊢
 generalize w5.heap.size + 1 = g at HP ⊢
 generalize w5.heap.size = mb at HP ⊢
 go_loopw [13] (fun i wr => ∃ k : Nat, k ≤ 2 ∧ i = .int .i64 (k : Int) ∧ ∃ V0 V1, y0g w wr g mb 0 V0 V1 (if k = 2 then sy else []) (if 1 ≤ k then sx else []) gx gy (if 1 ≤ k then X2 else XX) (if k = 2 then Y2 else YY)) (fun i _ => 2 - (intOf i).toNat)
 case atStart => exact ⟨0, by omega, rfl, _, _, HP.out⟩
 case round =>
  obtain ⟨k, hk, rfl, V0, V1, hP⟩ := hrel
  have HP := xhd hP
  clear hP
  by_cases hk2 : k < 2
  ·have HD : ∃ Vm Vo lm hx ox Z Z1 o1 Z2 o2 sz Mo, Hid (y0g w wr g mb k Vm Vo lm [] hx ox Z Mo ∧ (Z.n.naks ≤ 1000 ∧ Z1.n.naks ≤ 1000 ∧ Z.act 0 = (Z1, o1) ∧ Z1.act 2 = (Z2, o2) ∧ sz = o1.said.send ++ o2.said.send ∧ o1.said.send.length ≤ 10) ∧ ∀ W' Vo', y0g w W' g mb k Vm Vo' lm sz hx ox Z2 Mo → ∃ V0 V1, y0g w W' g mb 0 V0 V1 (if k + 1 = 2 then sy else []) (if 1 ≤ k + 1 then sx else []) gx gy (if 1 ≤ k + 1 then X2 else XX) (if k + 1 = 2 then Y2 else YY)) := by
    obtain rfl | rfl : k = 0 ∨ k = 1 := by omega
    ·exact ⟨V0, V1, [], gx, gy, XX, X1, ox1, X2, ox2, sx, YY, xhd ⟨HP.out, HA.out.1, fun W' Vo' h => ⟨_, _, h⟩⟩⟩
    ·exact ⟨V1, V0, sx, gy, gx, YY, Y1, oy1, Y2, oy2, sy, X2, xhd ⟨HP.out.swap, HA.out.2, fun W' Vo' h => ⟨_, _, h.swap⟩⟩⟩
   obtain ⟨Vm, Vo, lm, hx, ox, Z, Z1, o1, Z2, o2, sz, Mo, HD⟩ := HD
   have HQ := xhd HD.out.1
   clear HP
   obtain ⟨j, hj⟩ : ∃ j, j = 1 - k := ⟨_, rfl⟩
   have hj1 : j ≤ 1 := by omega
   have k0 : (0 : Int) ≤ (k : Int) := by omega
   have k1 : (k : Int) < 2 := by omega
   have j0 : (0 : Int) ≤ (j : Int) := by omega
   have j1 : (j : Int) < 2 := by omega
   have e1 : (1 : Int) - (k : Int) = (j : Int) := by omega
   have lw : wrap64 (j : Int) = (j : Int) := IntWalk.wrap64_in _ (by omega)
   have lw2 : IntKind.i64.wrap (j : Int) = (j : Int) := IntWalk.i64_in _ (by omega)
   have lw3 : IntKind.i64.wrap (k : Int) = (k : Int) := IntWalk.i64_in _ (by omega)
   have d0 : decide ((k : Int) < 2) = true := decide_eq_true k1
   have HJ := xhd hj
   clear hj
   obtain ⟨VO8, hvo⟩ : ∃ v, v = Vo := ⟨_, rfl⟩
   have co : wr.cell? ⟨g, j, none⟩ = some VO8 := by rw [hvo, HJ.out]; exact HQ.out.other
   have cm := HQ.out.neg
   obtain ⟨AO, cO, hO⟩ := HQ.out.swap.form
   rw [hvo.trans hO] at co
   have HVO := xhd (show Vo = .slice AO 0 cO from hO)
   rw [hO] at HQ
   clear hvo hO VO8
   have hsent := y3a
   have hlsent := y2p
   have HKZ0 := xhd (Keeps.refl y01 wr)
   go_wp2_with fail
   refine y0b (fun w' => w'.cell? ⟨g, j, none⟩ = some (.slice AO 0 cO) ∧ w'.cell? ⟨mb, k, none⟩ = some (.pointer (some ⟨hx.l, 0, none⟩))) 17 18 rfl (by kernel_rfl) ⟨co, cm⟩ (fun hHeld => ?_)
   have HSW := hHeld
   clear hHeld
   have HK0d := xhd (HKZ0.out.drew)
   refine y00 (i := 0) rfl (by kernel_rfl) (fun _ _ _ h => h) (Or.inl ⟨by rfl, by intro w hSw; obtain ⟨s0, s1⟩ := hSw; go_simp; try with_reducible rfl⟩) HSW.out ?_
   simp only [Act.put, xqA, xqB, xqD, xqE, xqF]
   refine y00 (i := 1) rfl (by kernel_rfl) (fun _ _ _ h => h) (Or.inl ⟨by rfl, by intro w hSw; obtain ⟨s0, s1⟩ := hSw; go_simp; try with_reducible rfl⟩) HSW.out ?_
   simp only [Act.put, xqA, xqB, xqC, xqD, xqE, xqF]
   refine y00 (i := 2) rfl (by kernel_rfl) (fun _ _ _ h => h) (Or.inl ⟨by rfl, by intro w hSw; obtain ⟨s0, s1⟩ := hSw; go_simp; try with_reducible rfl⟩) HSW.out ?_
   simp only [Act.put, xqA, xqB, xqC, xqD, xqE, xqF]
   refine y00 (i := 3) rfl (by kernel_rfl) (fun _ _ _ h => h) (Or.inl ⟨by rfl, by intro w hSw; obtain ⟨s0, s1⟩ := hSw; go_simp; try with_reducible rfl⟩) HSW.out ?_
   simp only [Act.put, xqA, xqB, xqC, xqD, xqE, xqF]
   refine y00 (i := 4) rfl (by kernel_rfl) (fun _ _ _ h => h) (Or.inl ⟨by rfl, by intro w hSw; obtain ⟨s0, s1⟩ := hSw; go_simp; try with_reducible rfl⟩) HSW.out ?_
   simp only [Act.put, xqA, xqB, xqC, xqD, xqE, xqF]
   refine y00 (i := 5) rfl (by kernel_rfl) (fun _ _ _ h => h) (Or.inl ⟨by rfl, by intro w hSw; obtain ⟨s0, s1⟩ := hSw; go_simp; try with_reducible rfl⟩) HSW.out ?_
   simp only [Act.put, xqA, xqB, xqC, xqD, xqE, xqF]
   refine y00 (i := 6) rfl (by kernel_rfl) (fun _ _ _ h => h) (Or.inl ⟨by rfl, by intro w hSw; obtain ⟨s0, s1⟩ := hSw; go_simp; try with_reducible rfl⟩) HSW.out ?_
   simp only [Act.put, xqA, xqB, xqC, xqD, xqE, xqF]
   refine y00 (i := 7) rfl (by kernel_rfl) (fun _ _ _ h => h) (Or.inl ⟨by rfl, by intro w hSw; obtain ⟨s0, s1⟩ := hSw; go_simp; try with_reducible rfl⟩) HSW.out ?_
   simp only [Act.put, xqA, xqB, xqC, xqD, xqE, xqF]
   refine y00 (i := 8) rfl (by kernel_rfl) (fun _ _ _ h => h) (Or.inl ⟨by rfl, by intro w hSw; obtain ⟨s0, s1⟩ := hSw; go_simp; try with_reducible rfl⟩) HSW.out ?_
   simp only [Act.put, xqA, xqB, xqC, xqD, xqE, xqF]
   refine y00 (i := 9) rfl (by kernel_rfl) (fun _ _ _ h => h) (Or.inl ⟨by rfl, by intro w hSw; obtain ⟨s0, s1⟩ := hSw; go_simp; try with_reducible rfl⟩) HSW.out ?_
   simp only [Act.put, xqA, xqB, xqC, xqD, xqE, xqF]
   refine y00 (i := 10) rfl (by kernel_rfl) (fun _ _ _ h => h) (Or.inl ⟨by rfl, by intro w hSw; obtain ⟨s0, s1⟩ := hSw; go_simp; try with_reducible rfl⟩) HSW.out ?_
   simp only [Act.put, xqA, xqB, xqC, xqD, xqE, xqF]
   refine y00 (i := 11) rfl (by kernel_rfl) (fun _ _ _ h => h) (Or.inl ⟨by rfl, by intro w hSw; obtain ⟨s0, s1⟩ := hSw; go_simp; try with_reducible rfl⟩) HSW.out ?_
   simp only [Act.put, xqA, xqB, xqC, xqD, xqE, xqF]
   refine y03 (i := 12) (by kernel_rfl) rfl (fun K hK => ?_)
   try rw [if_pos (by rfl)]
   go_simp
   refine ((HQ.out.quiet HK0d.out).acts 0 (by omega) HD.out.2.1.1 HD.out.2.1.2.2.1).mono ?_
   rintro e w8a ⟨sv, rfl, hpend⟩
   obtain ⟨AS, cS, rfl⟩ := hpend.form
   have HPD := xhd hpend
   have HSA := xhd (And.intro (show w8a.cell? ⟨g, j, none⟩ = some (.slice AO 0 cO) from by have := hpend.pair.other; rwa [← HJ.out] at this) hpend.pair.neg)
   clear hpend
   refine hK.out _ _ (fun _ => HSA.out) ?_
   clear hK K
   try simp only [Act.put, xqA, Nat.reduceAdd, xqB, xqC, xqD, xqE, xqF]
   refine y00 (i := 13) rfl (by kernel_rfl) (fun _ _ _ h => h) (Or.inl ⟨by rfl, by intro w hSw; obtain ⟨s0, s1⟩ := hSw; go_simp; try with_reducible rfl⟩) HSA.out ?_
   simp only [Act.put, xqA, xqB, xqC, xqD, xqE, xqF]
   refine y00 (i := 14) rfl (by kernel_rfl) (fun _ _ _ h => h) (Or.inl ⟨by rfl, by intro w hSw; obtain ⟨s0, s1⟩ := hSw; go_simp; try with_reducible rfl⟩) HSA.out ?_
   simp only [Act.put, xqA, xqB, xqC, xqD, xqE, xqF]
   refine y03 (i := 15) (by kernel_rfl) rfl (fun K hK => ?_)
   rw [if_pos (by rfl)]
   obtain ⟨Fo, G, xs, ys, hwo, hsr, h1c, hlen, hput⟩ := HPD.out.put (by simp)
   refine y0u (.tmp 65) (.tmp 72) rfl rfl rfl hwo hsr h1c hlen ?_
   intro v8 w8b hwin hkc
   obtain ⟨cc, ff, mm, hPc⟩ := hput v8 w8b hwin hkc
   rw [← HJ.out] at cc ff hPc
   obtain ⟨A8, k8, hv8, _⟩ := hwin.form
   subst hv8
   have HPC := xhd hPc
   have HSB := xhd (And.intro cc mm)
   clear hPc hput hwin hkc hwo hsr h1c mm HPD
   refine hK.out _ _ (fun _ => HSB.out) ?_
   clear hK K
   try simp only [Act.put, xqA, xqB, xqC, xqD, xqE, xqF]
   refine y00 (i := 16) rfl (by kernel_rfl) (fun _ _ _ h => h) (Or.inl ⟨by rfl, by intro w hSw; obtain ⟨s0, s1⟩ := hSw; go_simp; try with_reducible rfl⟩) HSB.out ?_
   simp only [Act.put, xqA, xqB, xqC, xqD, xqE, xqF]
   refine y03 (i := 17) (by kernel_rfl) rfl (fun K hK => ?_)
   go_simp
   refine hK.out _ _ (fun h => absurd rfl h) ?_
   clear hK K
   refine y09 (by kernel_rfl) ?_ _
   have HQ2 := xhd (show y0g w (w8b.setCell ⟨g, j, none⟩ (.slice A8 ([] ++ o1.said.send).length k8)) g mb k Vm (.slice A8 ([] ++ o1.said.send).length k8) lm ([] ++ o1.said.send) hx ox Z1 Mo by rw [List.length_append]; exact HPC.out)
   rw [List.nil_append] at HQ2
   obtain ⟨L8, hL8⟩ : ∃ L, L = o1.said.send.length := ⟨_, rfl⟩
   have HL8 := xhd hL8
   generalize hV8 : Value.slice A8 _ k8 = V8 at HQ2 ⊢
   generalize w8b.setCell ⟨g, j, none⟩ V8 = w8 at HQ2 ⊢
   clear HPC HSA HSB HQ cc ff co cm hV8 hL8 L8 HL8 HKZ0 HK0d HSW
   obtain ⟨AP, cP, hP8⟩ := HQ2.out.swap.form
   have co : w8.cell? ⟨g, j, none⟩ = some V8 := by rw [HJ.out]; exact HQ2.out.other
   have cm := HQ2.out.neg
   obtain ⟨L8, hL8⟩ : ∃ L, L = o1.said.send.length := ⟨_, rfl⟩
   rw [hP8] at co HQ2 ⊢
   have HKZ0 := xhd (Keeps.refl y01 w8)
   have d0 : decide ((k : Int) < 2) = true := decide_eq_true k1
   go_wp2_with fail
   refine y0b (fun w' => w'.cell? ⟨g, j, none⟩ = some (.slice AP o1.said.send.length cP) ∧ w'.cell? ⟨mb, k, none⟩ = some (.pointer (some ⟨hx.l, 0, none⟩))) 17 18 rfl (by kernel_rfl) ⟨co, cm⟩ (fun hHeld => ?_)
   have HSW := hHeld
   clear hHeld
   have HK0d := xhd (HKZ0.out.drew)
   refine y00 (i := 0) rfl (by kernel_rfl) (fun _ _ _ h => h) (Or.inl ⟨by rfl, by intro w hSw; obtain ⟨s0, s1⟩ := hSw; go_simp; try with_reducible rfl⟩) HSW.out ?_
   simp only [Act.put, xqA, xqB, xqD, xqE, xqF]
   refine y00 (i := 1) rfl (by kernel_rfl) (fun _ _ _ h => h) (Or.inl ⟨by rfl, by intro w hSw; obtain ⟨s0, s1⟩ := hSw; go_simp; try with_reducible rfl⟩) HSW.out ?_
   simp only [Act.put, xqA, xqB, xqC, xqD, xqE, xqF]
   refine y00 (i := 2) rfl (by kernel_rfl) (fun _ _ _ h => h) (Or.inl ⟨by rfl, by intro w hSw; obtain ⟨s0, s1⟩ := hSw; go_simp; try with_reducible rfl⟩) HSW.out ?_
   simp only [Act.put, xqA, xqB, xqC, xqD, xqE, xqF]
   refine y00 (i := 3) rfl (by kernel_rfl) (fun _ _ _ h => h) (Or.inl ⟨by rfl, by intro w hSw; obtain ⟨s0, s1⟩ := hSw; go_simp; try with_reducible rfl⟩) HSW.out ?_
   simp only [Act.put, xqA, xqB, xqC, xqD, xqE, xqF]
   refine y00 (i := 4) rfl (by kernel_rfl) (fun _ _ _ h => h) (Or.inl ⟨by rfl, by intro w hSw; obtain ⟨s0, s1⟩ := hSw; go_simp; try with_reducible rfl⟩) HSW.out ?_
   simp only [Act.put, xqA, xqB, xqC, xqD, xqE, xqF]
   refine y00 (i := 5) rfl (by kernel_rfl) (fun _ _ _ h => h) (Or.inl ⟨by rfl, by intro w hSw; obtain ⟨s0, s1⟩ := hSw; go_simp; try with_reducible rfl⟩) HSW.out ?_
   simp only [Act.put, xqA, xqB, xqC, xqD, xqE, xqF]
   refine y00 (i := 6) rfl (by kernel_rfl) (fun _ _ _ h => h) (Or.inl ⟨by rfl, by intro w hSw; obtain ⟨s0, s1⟩ := hSw; go_simp; try with_reducible rfl⟩) HSW.out ?_
   simp only [Act.put, xqA, xqB, xqC, xqD, xqE, xqF]
   refine y00 (i := 7) rfl (by kernel_rfl) (fun _ _ _ h => h) (Or.inl ⟨by rfl, by intro w hSw; obtain ⟨s0, s1⟩ := hSw; go_simp; try with_reducible rfl⟩) HSW.out ?_
   simp only [Act.put, xqA, xqB, xqC, xqD, xqE, xqF]
   refine y00 (i := 8) rfl (by kernel_rfl) (fun _ _ _ h => h) (Or.inl ⟨by rfl, by intro w hSw; obtain ⟨s0, s1⟩ := hSw; go_simp; try with_reducible rfl⟩) HSW.out ?_
   simp only [Act.put, xqA, xqB, xqC, xqD, xqE, xqF]
   refine y00 (i := 9) rfl (by kernel_rfl) (fun _ _ _ h => h) (Or.inl ⟨by rfl, by intro w hSw; obtain ⟨s0, s1⟩ := hSw; go_simp; try with_reducible rfl⟩) HSW.out ?_
   simp only [Act.put, xqA, xqB, xqC, xqD, xqE, xqF]
   refine y00 (i := 10) rfl (by kernel_rfl) (fun _ _ _ h => h) (Or.inl ⟨by rfl, by intro w hSw; obtain ⟨s0, s1⟩ := hSw; go_simp; try with_reducible rfl⟩) HSW.out ?_
   simp only [Act.put, xqA, xqB, xqC, xqD, xqE, xqF]
   refine y00 (i := 11) rfl (by kernel_rfl) (fun _ _ _ h => h) (Or.inl ⟨by rfl, by intro w hSw; obtain ⟨s0, s1⟩ := hSw; go_simp; try with_reducible rfl⟩) HSW.out ?_
   simp only [Act.put, xqA, xqB, xqC, xqD, xqE, xqF]
   refine y03 (i := 12) (by kernel_rfl) rfl (fun K hK => ?_)
   try rw [if_pos (by rfl)]
   go_simp
   refine ((HQ2.out.quiet HK0d.out).acts 2 (by omega) HD.out.2.1.2.1 HD.out.2.1.2.2.2.1).mono ?_
   rintro e w9a ⟨sv, rfl, hpend⟩
   obtain ⟨AS, cS, rfl⟩ := hpend.form
   have HPD := xhd hpend
   have HSA := xhd (And.intro (show w9a.cell? ⟨g, j, none⟩ = some (.slice AP o1.said.send.length cP) from by have := hpend.pair.other; rwa [← HJ.out] at this) hpend.pair.neg)
   clear hpend
   refine hK.out _ _ (fun _ => HSA.out) ?_
   clear hK K
   try simp only [Act.put, xqA, Nat.reduceAdd, xqB, xqC, xqD, xqE, xqF]
   refine y00 (i := 13) rfl (by kernel_rfl) (fun _ _ _ h => h) (Or.inl ⟨by rfl, by intro w hSw; obtain ⟨s0, s1⟩ := hSw; go_simp; try with_reducible rfl⟩) HSA.out ?_
   simp only [Act.put, xqA, xqB, xqC, xqD, xqE, xqF]
   refine y00 (i := 14) rfl (by kernel_rfl) (fun _ _ _ h => h) (Or.inl ⟨by rfl, by intro w hSw; obtain ⟨s0, s1⟩ := hSw; go_simp; try with_reducible rfl⟩) HSA.out ?_
   simp only [Act.put, xqA, xqB, xqC, xqD, xqE, xqF]
   refine y03 (i := 15) (by kernel_rfl) rfl (fun K hK => ?_)
   rw [if_pos (by rfl)]
   obtain ⟨Fo, G, xs, ys, hwo, hsr, h1c, hlen, hput⟩ := HPD.out.put (by have := HD.out.2.1.2.2.2.2.2; omega)
   refine y0u (.tmp 82) (.tmp 89) rfl rfl rfl hwo hsr h1c hlen ?_
   intro v9 w9b hwin hkc
   obtain ⟨cc, ff, mm, hPc⟩ := hput v9 w9b hwin hkc
   rw [← HJ.out] at cc ff hPc
   obtain ⟨A9, k9, hv8, _⟩ := hwin.form
   subst hv8
   have HPC := xhd hPc
   have HSB := xhd (And.intro cc mm)
   clear hPc hput hwin hkc hwo hsr h1c mm HPD
   refine hK.out _ _ (fun _ => HSB.out) ?_
   clear hK K
   try simp only [Act.put, xqA, xqB, xqC, xqD, xqE, xqF]
   refine y00 (i := 16) rfl (by kernel_rfl) (fun _ _ _ h => h) (Or.inl ⟨by rfl, by intro w hSw; obtain ⟨s0, s1⟩ := hSw; go_simp; try with_reducible rfl⟩) HSB.out ?_
   simp only [Act.put, xqA, xqB, xqC, xqD, xqE, xqF]
   refine y03 (i := 17) (by kernel_rfl) rfl (fun K hK => ?_)
   go_simp
   refine hK.out _ _ (fun h => absurd rfl h) ?_
   clear hK K
   refine y09 (by kernel_rfl) ?_ _
   have HP9 := xhd (show ∃ V0 V1, y0g w (w9b.setCell ⟨g, j, none⟩ (.slice A9 (o1.said.send.length + o2.said.send.length) k9)) g mb 0 V0 V1 (if k + 1 = 2 then sy else []) (if 1 ≤ k + 1 then sx else []) gx gy (if 1 ≤ k + 1 then X2 else XX) (if k + 1 = 2 then Y2 else YY) from HD.out.2.2 _ _ (by rw [HD.out.2.1.2.2.2.2.1]; exact HPC.out))
   generalize w9b.setCell ⟨g, j, none⟩ (.slice A9 (o1.said.send.length + o2.said.send.length) k9) = w9 at HP9 ⊢
   clear HPC HSA HSB HQ2 cc ff co cm HKZ0 HK0d HSW
   go_wp2_with fail
   go_roundw
   case rel => exact ⟨k + 1, by omega, by go_num, HP9.out⟩
   case measure => simp [intOf]; omega
  ·have hkk : k = 2 := by omega
   subst hkk
   have HT0 := xhd (show LSit P w wr g mb 0 gx gy from ⟨V0, V1, sy, sx, X2, Y2, HP.out, HQ0.out⟩)
   clear HP hk hk2 HA HQ0
   go_wp2_with fail
   go_loopw [14] (fun i wr2 => ∃ k : Nat, i = .int .i64 (k : Int) ∧ LSit P w wr2 g mb k gx gy) (fun i _ => 300 - (intOf i).toNat)
   case atStart => exact ⟨0, rfl, HT0.out⟩
   case round =>
    obtain ⟨k, rfl, hS⟩ := hrel
    have HS := xhd hS
    obtain ⟨V0, V1, q0, q1, X, Y, hP, hPP⟩ := hS
    obtain ⟨A0, z0, hf0⟩ := hP.form
    obtain ⟨A1, z1, hf1⟩ := hP.swap.form
    have c0 := hP.mine
    have c1 : wr.cell? ⟨g, 1, none⟩ = some V1 := hP.other
    rw [hf0] at c0
    rw [hf1] at c1
    obtain ⟨⟨l0, l1⟩, _⟩ := HT.out.qs hPP
    have HP := xhd hP
    have HPP := xhd hPP
    obtain ⟨n0, hn0⟩ : ∃ n, n = q0.length := ⟨_, rfl⟩
    obtain ⟨n1, hn1⟩ : ∃ n, n = q1.length := ⟨_, rfl⟩
    rw [← hn0] at c0 l0
    rw [← hn1] at c1 l1
    obtain ⟨N, hN⟩ : ∃ N, N = n0 + n1 := ⟨_, rfl⟩
    have e1 : (n0 : Int) + (n1 : Int) = (N : Int) := by omega
    have lw : wrap64 (N : Int) = (N : Int) := IntWalk.wrap64_in _ (by omega)
    have HN := xhd hN
    have HN0 := xhd hn0
    have HN1 := xhd hn1
    clear hP hPP hN hn0 hn1 hf0 hf1 HT0
    by_cases hz : 0 < N
    ·have HKM := xhd (HT.out.short HPP.out (by rw [← HN0.out, ← HN1.out, ← HN.out]; exact hz))
     have HKN : Hid (k < 300) := xhd (Nat.lt_of_lt_of_le HKM.out (by decide))
     have dk : decide ((k : Int) < 300) = true := decide_eq_true (by have := HKN.out; omega)
     have dz : decide ((0 : Int) < (N : Int)) = true := decide_eq_true (Int.natCast_pos.2 hz)
     have dz2 : decide (0 < N) = true := decide_eq_true hz
     have HS := xhd (show y38 P w wr g mb k gx gy from ⟨V0, V1, q0, q1, X, Y, HP.out, HPP.out, by rw [← HN0.out, ← HN1.out, ← HN.out]; exact hz⟩)
     clear HP HPP HN HN0 HN1 l0 l1 hz
     go_wp2_with fail
     go_quiet (fail)
     clear c0 c1 e1 lw dz dz2 dk
     have HS2 := xhd (HS.out.quiet (Keeps.of_drewN (n := nq) rfl))
     have HB2 := xhd HS2.out.below
     generalize wr.drewN nq = wd at HS2 HB2 ⊢
     clear HS
     go_upto_if 111 with fail
     go_cut [15] from 112 to 157 (fun v wx => wx = wd ∧ ∃ i : Nat, i ≤ 1 ∧ v = .int .i64 (i : Int))
     case first =>
      by_cases hkl : k < on
      ·obtain ⟨bX, oX, rfl, _, hcell⟩ := ((show Row w (fun b => b < w.heap.size) 1 (.slice OO bs.length co0) bs.length (u8s bs) by have h := HO.out; rw [HON.out] at h; exact h).keeps (Keeps.new HB2.out) (fun _ _ h => h)).cellAt (by have := HON.out; omega)
       have cX := hcell k _ (y3t bs k (by have := HON.out; omega))
       have d1 : decide ((k : Int) < (on : Int)) = true := decide_eq_true (by omega)
       have d2 : decide (k < on) = true := decide_eq_true hkl
       have k0 : (0 : Int) ≤ (k : Int) := by omega
       have k1 : (k : Int) < (on : Int) := by omega
       obtain ⟨yy, hyy⟩ : ∃ q, q = (bs.getD k 0).toNat := ⟨_, rfl⟩
       have hyl : yy < 256 := by rw [hyy]; exact (bs.getD k 0).toNat_lt
       rw [← hyy] at cX
       clear hcell hyy
       have hand : bits .and .i64 (yy : Int) 1 = ((yy % 2 : Nat) : Int) := by rw [y9h]; rfl
       go_wp2_with fail
       go_meet
       exact ⟨rfl, yy % 2, Nat.le_of_lt_succ (Nat.mod_lt _ (by decide)), rfl⟩
      ·have d1 : decide ((k : Int) < (on : Int)) = false := decide_eq_false (by omega)
       have d2 : decide (k < on) = false := decide_eq_false hkl
       go_wp2_with fail
       go_meet
       exact ⟨rfl, 0, by decide, rfl⟩
     case rest =>
     obtain ⟨rfl, pj, hp1, rfl⟩ := hcut
     obtain ⟨Am, nm, zm, cmm, hnm, hpick0, hpick1⟩ := y38.pick HT.out HS2.out hp1
     have HP0 := xhd hpick0
     have HP1 := xhd hpick1
     have i0 : (0 : Int) ≤ (pj : Int) := by omega
     have i1 : (pj : Int) < 2 := by omega
     have HPJ := xhd hp1
     clear hpick0 hpick1 HS2
     go_upto_if 123 with fail
     go_cut [15] from 112 to 157 (fun v wx => wx = wc ∧ ∃ i : Nat, i ≤ 1 ∧ v = .int .i64 (i : Int) ∧ y6h w wc g mb i (fun W => LSit P w W g mb (k + 1) gx gy))
     case first =>
      by_cases hz : nm = 0
      ·have HX0 := xhd (HP0.out hz)
       have dn : ((nm : Int) == 0) = true := by rw [beq_iff_eq, hz]; rfl
       have e1 : (1 : Int) - (pj : Int) = ((1 - pj : Nat) : Int) := by have := HPJ.out; omega
       have e2 : 1 - pj ≤ 1 := by omega
       generalize 1 - pj = j at HX0 e1 e2
       have lw : wrap64 (j : Int) = (j : Int) := IntWalk.wrap64_in _ (by omega)
       clear hz
       go_wp2_with fail
       go_meet
       exact ⟨rfl, j, e2, rfl, HX0.out⟩
      ·have HX1 := xhd (HP1.out hz)
       have dn : ((nm : Int) == 0) = false := by rw [beq_eq_false_iff_ne]; omega
       clear hz
       go_wp2_with fail
       go_meet
       exact ⟨rfl, pj, HPJ.out, rfl, HX1.out⟩
     case rest =>
     clear cmm hnm HP0 HP1 i0 i1 hp1
     obtain ⟨rfl, i, hi, rfl, hN⟩ := hcut
     obtain ⟨Vm, Vo, p, t, lo, hx, ox, Mm, Mo, n', o', hP, htame, hlo, hin, hback⟩ := hN
     obtain ⟨bb, oo, zc, d, hV, hzc, hcell, hpop⟩ := hP.head'
     have cmv := hP.mine
     rw [hV] at cmv
     have x0 : wc.cell? ⟨bb, oo, none⟩ = some (.int .i64 p.code) := hcell 0 _ rfl
     have x1 : wc.cell? ⟨bb, oo + 1, none⟩ = some (.int .i64 p.id) := hcell 1 _ rfl
     have x2 : wc.cell? ⟨bb, oo + 2, none⟩ = some d := hcell 2 _ rfl
     have i0 : (0 : Int) ≤ (i : Int) := by omega
     have i1 : (i : Int) < 2 := by omega
     obtain ⟨T, hT⟩ : ∃ T, T = t.length := ⟨_, rfl⟩
     rw [← hT] at cmv hzc hpop
     have z0 : (0 : Int) < ((T + 1 : Nat) : Int) := by omega
     have z1 : 0 < T + 1 := by omega
     have hslice := y50 (some ⟨bb, oo, none⟩) T zc hzc
     obtain ⟨DA, dl, dc, hd⟩ : ∃ A n c, d = .slice A n c := by
      obtain ⟨_, _, A, c, e, _⟩ := (hpop wc (Keeps.refl _ _)).1
      exact ⟨A, _, c, e⟩
     subst hd
     have HP2 := xhd hP
     have HPOP := xhd hpop
     have HTAME := xhd htame
     have HLO := xhd hlo
     have HIN := xhd hin
     have HBACK := xhd hback
     have HTT := xhd hT
     clear hP hpop htame hlo hin hback hcell hT hzc hV
     obtain ⟨AV, cV, hVV⟩ := y6l (some ⟨bb, oo, none⟩) zc 1 T 3
     rw [hVV] at HPOP hslice
     clear hVV
     obtain ⟨pc, pi, pd⟩ := p
     dsimp only at x0 x1
     go_upto_region 25 with fail
     obtain ⟨gp, hgp⟩ : ∃ q, q = wc.heap.size := ⟨_, rfl⟩
     rw [← hgp]
     generalize hwx : wc.alloc (.cells #[.int .i64 pc, .int .i64 pi, .slice DA dl dc] 56) = wx
     have hkx : Keeps y01 wc wx := by rw [← hwx]; exact (Keeps.refl _ wc).alloc _
     have hbx : Blk wx gp 56 #[.int .i64 pc, .int .i64 pi, .slice DA dl dc] := by rw [← hwx, hgp]; exact Blk.new wc _ _
     have hPx := HP2.out.quiet hkx
     have cmv := y04 cmv hkx
     have fmv := hPx.free i
     obtain ⟨hh, hp2⟩ := HPOP.out wx hkx
     have HH := xhd hh
     have HP3 := xhd hp2
     have hgg : gp ≠ g := by have := hbx.lt; have h2 := y0x (HP2.out.mine); omega
     have HBX := xhd ((hbx.far (p := ⟨g, i, none⟩) hgg (.slice AV T cV)))
     clear hwx hkx hbx hPx hh hp2 hgg x0 x1 x2 HP2 HPOP hgp
     go_upto_region 26 with fail
     clear cmv fmv hslice z0 z1
     generalize wx.setCell ⟨g, i, none⟩ (.slice AV T cV) = w8 at HP3 HH HBX ⊢
     generalize Value.slice AV T cV = VV at HP3 ⊢
     obtain ⟨j, hj⟩ : ∃ j, j = 1 - i := ⟨_, rfl⟩
     have hj1 : j ≤ 1 := by omega
     have j0 : (0 : Int) ≤ (j : Int) := by omega
     have j1 : (j : Int) < 2 := by omega
     have e1 : (1 : Int) - (i : Int) = (j : Int) := by omega
     have lw : wrap64 (j : Int) = (j : Int) := IntWalk.wrap64_in _ (by omega)
     have lw2 : IntKind.i64.wrap (j : Int) = (j : Int) := IntWalk.i64_in _ (by omega)
     have lw3 : IntKind.i64.wrap (i : Int) = (i : Int) := IntWalk.i64_in _ (by omega)
     have HJ := xhd hj
     clear hj
     obtain ⟨AO, cO, hO⟩ := HP3.out.swap.form
     have co : w8.cell? ⟨g, j, none⟩ = some Vo := by rw [HJ.out]; exact HP3.out.other
     have cm := HP3.out.neg
     rw [hO] at co HP3
     clear hO
     have hsent := y3a
     have hlsent := y2p
     have b0 : w8.cell? ⟨gp, 0, none⟩ = some (.int .i64 pc) := by rw [HBX.out.cell]; rfl
     have b1 : w8.cell? ⟨gp, 1, none⟩ = some (.int .i64 pi) := by rw [HBX.out.cell]; rfl
     have b2 : w8.cell? ⟨gp, 2, none⟩ = some (.slice DA dl dc) := by rw [HBX.out.cell]; rfl
     have HKZ0 := xhd (Keeps.refl y01 w8)
     refine y0b (fun w' => w'.cell? ⟨g, j, none⟩ = some (.slice AO lo.length cO) ∧ w'.cell? ⟨mb, i, none⟩ = some (.pointer (some ⟨hx.l, 0, none⟩))) 18 19 rfl (by kernel_rfl) ⟨co, cm⟩ (fun hHeld => ?_)
     have HSW := hHeld
     clear hHeld
     have HK0d := xhd (HKZ0.out.drew)
     refine y00 (i := 0) rfl (by kernel_rfl) (fun _ _ _ h => h) (Or.inl ⟨by rfl, by intro w hSw; obtain ⟨s0, s1⟩ := hSw; go_simp; try with_reducible rfl⟩) HSW.out ?_
     simp only [Act.put, xqA, xqB, xqD, xqE, xqF]
     refine y00 (i := 1) rfl (by kernel_rfl) (fun _ _ _ h => h) (Or.inl ⟨by rfl, by intro w hSw; obtain ⟨s0, s1⟩ := hSw; go_simp; try with_reducible rfl⟩) HSW.out ?_
     simp only [Act.put, xqA, xqB, xqC, xqD, xqE, xqF]
     refine y00 (i := 2) rfl (by kernel_rfl) (fun _ _ _ h => h) (Or.inl ⟨by rfl, by intro w hSw; obtain ⟨s0, s1⟩ := hSw; go_simp; try with_reducible rfl⟩) HSW.out ?_
     simp only [Act.put, xqA, xqB, xqC, xqD, xqE, xqF]
     refine y00 (i := 3) rfl (by kernel_rfl) (fun _ _ _ h => h) (Or.inl ⟨by rfl, by intro w hSw; obtain ⟨s0, s1⟩ := hSw; go_simp; try with_reducible rfl⟩) HSW.out ?_
     simp only [Act.put, xqA, xqB, xqC, xqD, xqE, xqF]
     refine y00 (i := 4) rfl (by kernel_rfl) (fun _ _ _ h => h) (Or.inl ⟨by rfl, by intro w hSw; obtain ⟨s0, s1⟩ := hSw; go_simp; try with_reducible rfl⟩) HSW.out ?_
     simp only [Act.put, xqA, xqB, xqC, xqD, xqE, xqF]
     refine y00 (i := 5) rfl (by kernel_rfl) (fun _ _ _ h => h) (Or.inl ⟨by rfl, by intro w hSw; obtain ⟨s0, s1⟩ := hSw; go_simp; try with_reducible rfl⟩) HSW.out ?_
     simp only [Act.put, xqA, xqB, xqC, xqD, xqE, xqF]
     refine y00 (i := 6) rfl (by kernel_rfl) (fun _ _ _ h => h) (Or.inl ⟨by rfl, by intro w hSw; obtain ⟨s0, s1⟩ := hSw; go_simp; try with_reducible rfl⟩) HSW.out ?_
     simp only [Act.put, xqA, xqB, xqC, xqD, xqE, xqF]
     refine y00 (i := 7) rfl (by kernel_rfl) (fun _ _ _ h => h) (Or.inl ⟨by rfl, by intro w hSw; obtain ⟨s0, s1⟩ := hSw; go_simp; try with_reducible rfl⟩) HSW.out ?_
     simp only [Act.put, xqA, xqB, xqC, xqD, xqE, xqF]
     refine y00 (i := 8) rfl (by kernel_rfl) (fun _ _ _ h => h) (Or.inl ⟨by rfl, by intro w hSw; obtain ⟨s0, s1⟩ := hSw; go_simp; try with_reducible rfl⟩) HSW.out ?_
     simp only [Act.put, xqA, xqB, xqC, xqD, xqE, xqF]
     refine y00 (i := 9) rfl (by kernel_rfl) (fun _ _ _ h => h) (Or.inl ⟨by rfl, by intro w hSw; obtain ⟨s0, s1⟩ := hSw; go_simp; try with_reducible rfl⟩) HSW.out ?_
     simp only [Act.put, xqA, xqB, xqC, xqD, xqE, xqF]
     refine y00 (i := 10) rfl (by kernel_rfl) (fun _ _ _ h => h) (Or.inl ⟨by rfl, by intro w hSw; obtain ⟨s0, s1⟩ := hSw; go_simp; try with_reducible rfl⟩) HSW.out ?_
     simp only [Act.put, xqA, xqB, xqC, xqD, xqE, xqF]
     refine y00 (i := 11) rfl (by kernel_rfl) (fun _ _ _ h => h) (Or.inl ⟨by rfl, by intro w hSw; obtain ⟨s0, s1⟩ := hSw; go_simp; try with_reducible rfl⟩) HSW.out ?_
     simp only [Act.put, xqA, xqB, xqC, xqD, xqE, xqF]
     refine y03 (i := 12) (by kernel_rfl) rfl (fun K hK => ?_)
     try rw [if_pos (by rfl)]
     go_simp
     refine hK.out _ _ (fun _ => HSW.out) ?_
     clear hK K
     try simp only [Act.put, xqA, Nat.reduceAdd, xqB, xqC, xqD, xqE, xqF]
     refine y03 (i := 13) (by kernel_rfl) rfl (fun K hK => ?_)
     try rw [if_pos (by rfl)]
     go_simp
     refine ((HP3.out.quiet HK0d.out).hears (.slice DA dl dc) ⟨pc, pi, pd⟩ ((HH.out.keeps HK0d.out (fun _ _ h => h)).mono (fun b hb => ⟨Nat.lt_of_lt_of_le hb.1 HK0d.out.size, hb.2⟩)) HTAME.out.1 HTAME.out.2.1 HTAME.out.2.2 HIN.out).mono ?_
     rintro e w10a ⟨sv, rfl, hpend⟩
     obtain ⟨AS, cS, rfl⟩ := hpend.form
     have HPD := xhd hpend
     have HSA := xhd (And.intro (show w10a.cell? ⟨g, j, none⟩ = some (.slice AO lo.length cO) from by have := hpend.pair.other; rwa [← HJ.out] at this) hpend.pair.neg)
     clear hpend
     refine hK.out _ _ (fun _ => HSA.out) ?_
     clear hK K
     try simp only [Act.put, xqA, Nat.reduceAdd, xqB, xqC, xqD, xqE, xqF]
     refine y00 (i := 14) rfl (by kernel_rfl) (fun _ _ _ h => h) (Or.inl ⟨by rfl, by intro w hSw; obtain ⟨s0, s1⟩ := hSw; go_simp; try with_reducible rfl⟩) HSA.out ?_
     simp only [Act.put, xqA, xqB, xqC, xqD, xqE, xqF]
     refine y00 (i := 15) rfl (by kernel_rfl) (fun _ _ _ h => h) (Or.inl ⟨by rfl, by intro w hSw; obtain ⟨s0, s1⟩ := hSw; go_simp; try with_reducible rfl⟩) HSA.out ?_
     simp only [Act.put, xqA, xqB, xqC, xqD, xqE, xqF]
     refine y03 (i := 16) (by kernel_rfl) rfl (fun K hK => ?_)
     rw [if_pos (by rfl)]
     obtain ⟨Fo, G, xs, ys, hwo, hsr, h1c, hlen, hput⟩ := HPD.out.put HLO.out
     refine y0u (.tmp 147) (.tmp 155) rfl rfl rfl hwo hsr h1c hlen ?_
     intro v10 w10b hwin hkc
     obtain ⟨cc, ff, mm, hPc⟩ := hput v10 w10b hwin hkc
     rw [← HJ.out] at cc ff hPc
     obtain ⟨A10, k10, hv8, _⟩ := hwin.form
     subst hv8
     have HPC := xhd hPc
     have HSB := xhd (And.intro cc mm)
     clear hPc hput hwin hkc hwo hsr h1c mm HPD
     refine hK.out _ _ (fun _ => HSB.out) ?_
     clear hK K
     try simp only [Act.put, xqA, xqB, xqC, xqD, xqE, xqF]
     refine y00 (i := 17) rfl (by kernel_rfl) (fun _ _ _ h => h) (Or.inl ⟨by rfl, by intro w hSw; obtain ⟨s0, s1⟩ := hSw; go_simp; try with_reducible rfl⟩) HSB.out ?_
     simp only [Act.put, xqA, xqB, xqC, xqD, xqE, xqF]
     refine y03 (i := 18) (by kernel_rfl) rfl (fun K hK => ?_)
     go_simp
     refine hK.out _ _ (fun h => absurd rfl h) ?_
     clear hK K
     refine y09 (by kernel_rfl) ?_ _
     have HS9 := xhd (HBACK.out _ _ _ HPC.out)
     generalize w10b.setCell ⟨g, j, none⟩ (.slice A10 (lo.length + o'.said.send.length) k10) = w9 at HS9 ⊢
     clear HPC HSA HSB HP3 HH HBX HTAME HLO HIN HBACK HTT e1 lw lw2 lw3 j0 j1 i0 i1 HJ co cm cc ff HKZ0 HK0d HSW b0 b1 b2
     have hk3 := HKN.out
     go_wp2_with fail
     go_roundw
     case rel => exact ⟨k + 1, (Int.natCast_succ k).symm, HS9.out⟩
     case measure => exact y2x HKN.out
    ·have dz : decide ((0 : Int) < (N : Int)) = false := decide_eq_false (fun h => hz (Int.natCast_pos.1 h))
     have dz2 : decide (0 < N) = false := decide_eq_false hz
     have hz0 : n0 + n1 = 0 := by rw [← HN.out]; exact Nat.eq_zero_of_not_pos hz
     have hq0 : q0 = [] := List.eq_nil_of_length_eq_zero (by rw [← HN0.out]; exact (Nat.add_eq_zero_iff.1 hz0).1)
     have hq1 : q1 = [] := List.eq_nil_of_length_eq_zero (by rw [← HN1.out]; exact (Nat.add_eq_zero_iff.1 hz0).2)
     have HKM := xhd (Nat.le_trans (HT.out.most HPP.out) (show 140 ≤ 300 - 1 by decide))
     have HEND := xhd (HE.out k X Y (by have h := HPP.out; rw [hq0, hq1] at h; exact h))
     have HPE := xhd (fun n => HP.out.quiet (Keeps.of_drewN (n := n) rfl))
     clear hz0 hq0 hq1 HP HPP HE HN HN0 HN1 hz HS
     have dk : decide ((k : Int) < 300) = true := decide_eq_true (by have := HKM.out; omega)
     clear HKM
     go_wp2_with fail
     go_quiet (fail)
     clear c0 c1 e1 lw dz dz2 dk l0 l1
     have HPF := xhd (HPE.out nq)
     generalize wr.drewN nq = wd at HPF ⊢
     clear HPE
     obtain ⟨v1, hv1⟩ : ∃ v, v = X.mine := ⟨_, rfl⟩
     obtain ⟨v2, hv2⟩ : ∃ v, v = Y.mine := ⟨_, rfl⟩
     have HEND := HEND.out
     obtain ⟨s1, s2, p1, p2, hmag⟩ := HEND
     have HSX := xhd (show Calls Tryz.prog 40 #[.pointer (some ⟨gx.l, 0, none⟩)] wd fun e w' => e = .returned (.int .i64 9) ∧ wd = w' from by have h := HPF.out.state; rw [s1] at h; exact h)
     have HSY := xhd (show Calls Tryz.prog 40 #[.pointer (some ⟨gy.l, 0, none⟩)] wd fun e w' => e = .returned (.int .i64 9) ∧ wd = w' from by have h := HPF.out.swap.state; rw [s2] at h; exact h)
     have HMX := xhd (fun (W : World) (K : Keeps y01 wd W) => show Calls Tryz.prog 42 #[.pointer (some ⟨gx.l, 0, none⟩)] W fun e w' => e = .returned (y0n v1) ∧ Keeps y01 W w' from by rw [hv1]; exact (HPF.out.quiet K).mines)
     have HMY := xhd (fun (W : World) (K : Keeps y01 wd W) => show Calls Tryz.prog 42 #[.pointer (some ⟨gy.l, 0, none⟩)] W fun e w' => e = .returned (y0n v2) ∧ Keeps y01 W w' from by rw [hv2]; exact ((HPF.out.quiet K).swap).mines)
     have HPY := xhd (fun (W : World) (K : Keeps y01 wd W) => show Calls Tryz.prog 44 #[.pointer (some ⟨gy.l, 0, none⟩)] W fun e w' => e = .returned (y0n v1) ∧ Keeps y01 W w' from by rw [hv1, p1]; exact ((HPF.out.quiet K).swap).peers)
     have HPX := xhd (fun (W : World) (K : Keeps y01 wd W) => show Calls Tryz.prog 44 #[.pointer (some ⟨gx.l, 0, none⟩)] W fun e w' => e = .returned (y0n v2) ∧ Keeps y01 W w' from by rw [hv2, p2]; exact (HPF.out.quiet K).peers)
     obtain ⟨z1, hz1⟩ : ∃ z : Int, z = (v1.magic : Int) := ⟨_, rfl⟩
     obtain ⟨z2, hz2⟩ : ∃ z : Int, z = (v2.magic : Int) := ⟨_, rfl⟩
     have HMG := xhd (show z1 ≠ z2 ∨ z1 = 0 from by rw [hz1, hz2, hv1, hv2]; omega)
     have HBW := xhd (HPF.out.below)
     clear hv1 hv2 s1 s2 p1 p2 hmag HPF
     go_wp2_with fail
     refine HSX.out.mono ?_
     rintro e w' ⟨rfl, rfl⟩
     go_wp2_with fail
     refine HSY.out.mono ?_
     rintro e w' ⟨rfl, rfl⟩
     clear HSX HSY
     have HKV := xhd (Keeps.refl y01 wd)
     have hf1 : ∀ w, (Instr.field 39 (y0n v1) 7).run Tryz.prog w = .ok (.int .u32 z1) w := fun w => by rw [hz1]; exact y4f v1 w
     have hf2 : ∀ w, (Instr.field 39 (y0n v2) 7).run Tryz.prog w = .ok (.int .u32 z2) w := fun w => by rw [hz2]; exact y4f v2 w
     clear hz1 hz2
     have HC := xhd (HMX.out wd HKV.out)
     go_wp2_with fail
     refine HC.out.mono ?_
     rintro e u1 ⟨rfl, hkm⟩
     have HKV := xhd (HKV.out.trans hkm)
     clear hkm HC
     have HC := xhd (HMY.out u1 HKV.out)
     go_wp2_with fail
     refine HC.out.mono ?_
     rintro e u2 ⟨rfl, hkm⟩
     have HKV := xhd (HKV.out.trans hkm)
     clear hkm HC
     have HC := xhd (HMX.out u2 HKV.out)
     go_wp2_with fail
     refine HC.out.mono ?_
     rintro e u3 ⟨rfl, hkm⟩
     have HKV := xhd (HKV.out.trans hkm)
     clear hkm HC
     have HC := xhd (HPY.out u3 HKV.out)
     go_wp2_with fail
     refine HC.out.mono ?_
     rintro e u4 ⟨rfl, hkm⟩
     have HKV := xhd (HKV.out.trans hkm)
     clear hkm HC
     have HC := xhd (y4r v1 u4)
     go_wp2_with fail
     refine HC.out.mono ?_
     rintro e u5 ⟨rfl, hkm⟩
     have HKV := xhd (HKV.out.trans hkm)
     clear hkm HC
     have HC := xhd (y3p v1 u5)
     go_wp2_with fail
     refine HC.out.mono ?_
     rintro e u6 ⟨rfl, hkm⟩
     have HKV := xhd (HKV.out.trans hkm)
     clear hkm HC
     have HC := xhd (HMY.out u6 HKV.out)
     go_wp2_with fail
     refine HC.out.mono ?_
     rintro e u7 ⟨rfl, hkm⟩
     have HKV := xhd (HKV.out.trans hkm)
     clear hkm HC
     have HC := xhd (HPX.out u7 HKV.out)
     go_wp2_with fail
     refine HC.out.mono ?_
     rintro e u8 ⟨rfl, hkm⟩
     have HKV := xhd (HKV.out.trans hkm)
     clear hkm HC
     have HC := xhd (y4r v2 u8)
     go_wp2_with fail
     refine HC.out.mono ?_
     rintro e u9 ⟨rfl, hkm⟩
     have HKV := xhd (HKV.out.trans hkm)
     clear hkm HC
     have HC := xhd (y3p v2 u9)
     go_wp2_with fail
     refine HC.out.mono ?_
     rintro e u10 ⟨rfl, hkm⟩
     have HKV := xhd (HKV.out.trans hkm)
     clear hkm HC
     by_cases hmm : z1 = z2
     ·subst hmm
      have hz0 : z1 = 0 := by have := HMG.out; omega
      subst hz0
      clear HMG
      go_wp2_with fail
      go_ret
      exact ⟨rfl, Below.quiet HBW.out HKV.out HBW.out.size⟩
     ·have q1 : (z1 == z2) = false := by rw [beq_eq_false_iff_ne]; exact hmm
      clear HMG
      go_wp2_with fail
      go_ret
      exact ⟨rfl, Below.quiet HBW.out HKV.out HBW.out.size⟩
theorem lcpMagics_walk (a0 a1 : Int) (a2 : Option Addr) (len2 cap2 : Nat) (z2 : List Int) (w : World) (hg : Env14 w) (_ : (Lit.int .i64 a0).wf = true) (h1 : (Lit.int .u32 a1).wf = true) (w2 : y42 .u8 w a2 len2 cap2 z2) :
  Calls Tryz.prog 11 #[.int .i64 a0, .int .u32 a1, .slice a2 len2 cap2] w fun e w' => e = .returned (.bool true) ∧ Below w.heap.size w w' := by
 obtain ⟨b1, c1⟩ := y99 h1
 obtain ⟨m, rfl⟩ : ∃ n : Nat, a1 = (n : Int) := ⟨a1.toNat, by omega⟩
 obtain ⟨l, hl, hr⟩ := w2.bytes
 subst hl
 exact yb7 a0 m (by omega) _ l w hg hr
end Go.Proofs.YtmgicbckgpdkcaaGreatDoor
