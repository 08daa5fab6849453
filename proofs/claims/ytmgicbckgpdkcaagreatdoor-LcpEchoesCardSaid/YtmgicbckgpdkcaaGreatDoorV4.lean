/- Chapter 14's statements: LcpEchoes. -/
import Derived.Test.YtmgicbckgpdkcaaGreatDoorV3
namespace Go.Proofs.YtmgicbckgpdkcaaGreatDoor
set_option maxRecDepth 100000
set_option maxHeartbeats 16000000
open _root_.Go.Lib renaming hid → xhd
open Go.RowKit
theorem own_new14 (w : World) (l : List UInt8) (cs : Array Value) (n : Nat) (hc : cs = (u8s l).toArray) (hn : n = l.length) (hl : l.length ≤ 100000) :
  (w.alloc (.cells cs 5)).ownsRow w.heap.size 5 1 (.slice (some ⟨w.heap.size, 0, none⟩) n n) l.length (u8s l) := by
 subst hc hn
 refine ⟨by simp, .inr ⟨w.heap.size, l.length, (u8s l).toArray, rfl, Nat.le_refl _, Blk.new w 5 (u8s l).toArray, Nat.le_refl _, by unfold maxLen; omega, by simp, by simp [List.take_of_length_le]⟩⟩
theorem yb6 (n : Int) (i : Nat) (hi : i < 256) (o : Value) (bs : List UInt8) (w : World) (env : Env14 w) (ho : Row w (fun b => b < w.heap.size) 1 o bs.length (u8s bs)) :
  Calls Tryz.prog 7 #[.int .i64 n, .int .u8 (i : Int), o] w fun e w' => e = .returned (.bool true) ∧ Below w.heap.size w w' := by
 have HI := xhd hi
 clear hi
 obtain ⟨OO, co0, rfl, _⟩ := ho.form
 have HO := xhd ho
 have HENV := xhd env
 have HAW := xhd (y4p w env.env)
 obtain ⟨on, hon⟩ : ∃ q, q = bs.length := ⟨_, rfl⟩
 have HON := xhd hon
 rw [← hon] at HO ⊢
 clear ho env hon
 go_enter Tryz.func7, Tryz.ntmps7
 go_wp2_with fail
 refine HAW.out.mono ?_
 rintro e w1 ⟨rfl, hk1⟩
 have HK1 := xhd hk1
 have HENV1 := xhd (HENV.out.keeps hk1)
 clear hk1 HAW HENV
 by_cases hol : 500 < on
 ·have d1 : decide ((500 : Int) < (on : Int)) = true := decide_eq_true (by omega)
  have d2 : decide (500 < on) = true := decide_eq_true hol
  go_wp2_with fail
  go_ret
  exact ⟨rfl, HK1.out.to_below⟩
 have d1 : decide ((500 : Int) < (on : Int)) = false := decide_eq_false (by omega)
 have d2 : decide (500 < on) = false := decide_eq_false hol
 have HOL := xhd hol
 clear hol
 have HOP := xhd (y80 n w1 HENV1.out)
 go_wp2_with fail
 refine HOP.out.mono ?_
 rintro e w2 ⟨gx, gy, a, b, rfl, hT, ha, hb⟩
 have HT := xhd hT
 have HHA := xhd ha
 have HHB := xhd hb
 clear hT ha hb HOP d1 d2
 obtain ⟨X, hX⟩ : ∃ q, q = Pure.linkAt a b 11 12 4 2 4 4 := ⟨_, rfl⟩
 obtain ⟨Y, hY⟩ : ∃ q, q = Pure.linkAt b a 12 11 4 2 4 4 := ⟨_, rfl⟩
 rw [← hX, ← hY] at HT
 have HMAG := xhd (show X.mine.magic = 11 by rw [hX]; exact Pure.rest_magic (by decide) (by decide))
 have HX := xhd (show X.n.m = ⟨9, 4, 0, 4, 2⟩ ∧ X.n.naks = 0 ∧ X.n.dropped = 0 by rw [hX]; exact ⟨rfl, rfl, rfl⟩)
 have HY := xhd (show Y.n.m = ⟨9, 4, 0, 4, 2⟩ ∧ Y.n.naks = 0 ∧ Y.n.dropped = 0 by rw [hY]; exact ⟨rfl, rfl, rfl⟩)
 clear hX hY
 have HO2 := xhd ((HO.out.keeps (Keeps.new (y1p HK1.out HT.out.below)) (fun _ _ e => e)).mono (G := fun b => b < w2.heap.size) (fun b hb => Nat.lt_of_lt_of_le hb (y1p HK1.out HT.out.below).size))
 have HGX := xhd HT.out.lt
 have HOLD := xhd HT.out.old
 have HO1 := xhd ((HO.out.keeps (Keeps.new (y1p HK1.out HT.out.below)) (fun _ _ e => e)))
 obtain ⟨D, hD⟩ : ∃ q : List UInt8, q = [9, 9, 9, 9] ++ bs := ⟨_, rfl⟩
 have HD := xhd hD
 have HDL := xhd (show D.length ≤ 1000 by rw [hD, List.length_append]; have := HOL.out; have := HON.out; simp; omega)
 have HD4 := xhd (show 4 ≤ D.length by rw [hD, List.length_append]; simp)
 clear hD
 go_wp2_with (at_builtin; refine y0t ?_)
 unfold Hid
 refine y1n rfl (.tmp 30) (.tmp 31) rfl w2.heap.size (.slice (some ⟨w2.heap.size, 0, none⟩) 4 4) 4 [9, 9, 9, 9] rfl rfl (own_new14 w2 [9, 9, 9, 9] _ 4 rfl rfl (by simp)) (fun b => b < w.heap.size) (.slice OO on co0) bs rfl (by have h := HO1.out.keeps ((Keeps.refl y01 w2).alloc (.cells #[.int .u8 9, .int .u8 9, .int .u8 9, .int .u8 9] 5)) (fun _ _ e => e); rw [HON.out] at h ⊢; exact h) (by have := HOL.out; have := HON.out; omega) (by simp) ?_
 intro dv w3 hown hg _
 have hk3 : Keeps y01 w2 w3 := ((Keeps.refl y01 w2).alloc _).grown hg (fun k hk hl => absurd (show w2.heap.size = k from Option.some.inj hk) (by omega))
 rw [← HD.out] at hown
 obtain ⟨DA, dc, rfl⟩ := y0c hown
 have HDR := xhd ((Row.of_own hown).mono (G := fun b => w2.heap.size ≤ b ∧ b < w3.heap.size) (fun b hb => ⟨y0f hown b hb, y12 hown b hb⟩))
 obtain ⟨dn, hdn⟩ : ∃ q, q = D.length := ⟨_, rfl⟩
 rw [← hdn]
 have HDN := xhd hdn
 have HT3a := xhd (HT.out.quiet hk3)
 have HK3 := xhd hk3
 clear hown hg hk3 hdn
 obtain ⟨E, hE⟩ : ∃ q, q = Pure.wide 11 4 ++ bs := ⟨_, rfl⟩
 have e1 : X.input ⟨9, (i : Int), D⟩ = (X, .of (Pure.sends [⟨10, (i : Int), E⟩])) := by rw [Pure.open_echo HX.out.1 _ D HD4.out, HMAG.out, hE, HD.out, ← HX.out.1]; rfl
 have e2 : X.input ⟨10, (i : Int), E⟩ = (X, .of Pure.mute) := Pure.open_quiet HX.out.1 _ _ (.inl rfl) _
 have e3 : X.input ⟨11, 1, D⟩ = (X, .of Pure.mute) := Pure.open_quiet HX.out.1 _ _ (.inr rfl) _
 have HE2 := xhd e2
 have HE3 := xhd e3
 have HE := xhd hE
 have HEL := xhd (show E.length ≤ 1000 by rw [hE, List.length_append, Pure.wide_length]; have := HOL.out; have := HON.out; omega)
 clear e2 e3 hE
 have iw : IntKind.i64.wrap (i : Int) = (i : Int) := IntWalk.i64_in _ (by have := HI.out; omega)
 have iw2 : wrap64 (i : Int) = (i : Int) := IntWalk.wrap64_in _ (by have := HI.out; omega)
 have HC1 := xhd (show Calls Tryz.prog 30 #[.pointer (some ⟨gx.l, 0, none⟩), pktV ⟨9, (i : Int), D⟩ (.slice DA D.length dc)] w3 fun r w' => ∃ sv, ∃ ps : List (Value × Pure.Pkt), r = .returned (.agg #[sv, .bool false, .bool false, .bool false, .bool false, .int .i64 0]) ∧ ps.map Prod.snd = [⟨10, (i : Int), E⟩] ∧ PRow w' (fun b => w3.heap.size ≤ b ∧ b < w'.heap.size) sv ps ∧ LTwo w1 w' gx gy X Y ∧ Keeps (fun b => b = gx.g ∨ b = gx.gm) w3 w' from (by have h := HT3a.out.hears (fun b => w2.heap.size ≤ b ∧ b < w3.heap.size) ⟨9, (i : Int), D⟩ (.slice DA D.length dc) (fun b hb => ⟨hb.2, by have := HGX.out.1; omega, by have := HGX.out.2; omega⟩) HDR.out (by rw [HX.out.2.1]; decide) (by rw [HX.out.2.2]; decide) (by have := HDL.out; show D.length ≤ 1000000; omega) e1; exact h))
 have hpv : pktV ⟨9, (i : Int), D⟩ (.slice DA D.length dc) = .agg #[.int .i64 9, .int .i64 (i : Int), .slice DA dn dc] := by rw [HDN.out]
 rw [hpv] at HC1
 clear hpv e1
 go_wp2_with fail
 with_reducible refine HC1.out.mono ?_
 rintro e w4 ⟨sv1, ps1, rfl, hps, hpr, hT1, hk⟩
 obtain ⟨q1, r1, c1, A1, z1, rfl, pq1, p1a, p1b, p1c, hrow⟩ := y57 hpr hps
 have HT1 := xhd hT1
 have HROW1 := xhd hrow
 have HP1 := xhd (And.intro p1a (And.intro p1b p1c))
 have HQ1 := xhd pq1
 have HKS1 := xhd hk
 clear hps hpr hT1 hk hrow p1a p1b p1c pq1
 go_upto_region 10 with fail
 obtain ⟨ob1, hob⟩ : ∃ q, q = w4.heap.size := ⟨_, rfl⟩
 rw [← hob]
 have HOB1 := xhd (show w4.heap.size ≤ ob1 from Nat.le_of_eq hob.symm)
 generalize hwn : w4.alloc _ = w4o
 have hkn : Keeps y01 w4 w4o := by rw [← hwn]; exact (Keeps.refl _ _).alloc _
 have hB : Blk w4o ob1 61 #[.slice (some ⟨q1, r1, none⟩) 1 c1, .bool false, .bool false, .bool false, .bool false, .int .i64 0] := by rw [← hwn, hob]; exact Blk.new _ _ _
 have HB1 := xhd hB
 have HKN1 := xhd hkn
 clear hob hwn hkn hB
 obtain ⟨en, hen⟩ : ∃ q, q = E.length := ⟨_, rfl⟩
 have HEN := xhd hen
 have u10 : w4o.cell? ⟨ob1, 0, none⟩ = some (.slice (some ⟨q1, r1, none⟩) 1 c1) := HB1.out.cell 0
 have u1a : w4o.cell? ⟨q1, r1, none⟩ = some (.int .i64 10) := y04 HP1.out.1 HKN1.out
 have u1b : w4o.cell? ⟨q1, r1 + 1, none⟩ = some (.int .i64 (i : Int)) := y04 HP1.out.2.1 HKN1.out
 have u1c : w4o.cell? ⟨q1, r1 + 2, none⟩ = some (.slice A1 E.length z1) := y04 HP1.out.2.2 HKN1.out
 rw [← hen] at u1c
 clear hen
 have HT1o := xhd (HT1.out.quiet HKN1.out)
 have d5 : ((i : Int) == (i : Int)) = true := beq_self_eq_true _
 have HST := xhd (show Calls Tryz.prog 40 #[.pointer (some ⟨gx.l, 0, none⟩)] w4o fun e w' => e = .returned (.int .i64 9) ∧ w4o = w' from by have h := HT1o.out.state; rw [HX.out.1] at h; exact h)
 go_wp2_with fail
 with_reducible refine HST.out.mono ?_
 rintro e w' ⟨rfl, rfl⟩
 clear HST
 obtain ⟨v1, hv1⟩ : ∃ v, v = X.mine := ⟨_, rfl⟩
 have HMI := xhd (show Calls Tryz.prog 42 #[.pointer (some ⟨gx.l, 0, none⟩)] w4o fun e w' => e = .returned (y0n v1) ∧ Keeps y01 w4o w' from by rw [hv1]; exact HT1o.out.mines)
 have hf1 : ∀ w, (Instr.field 39 (y0n v1) 7).run Tryz.prog w = .ok (.int .u32 11) w := fun w => by have h := y4f v1 w; rw [hv1, HMAG.out] at h; rw [hv1]; exact h
 clear hv1
 go_wp2_with fail
 with_reducible refine HMI.out.mono ?_
 rintro e w5 ⟨rfl, hk5⟩
 have HK5 := xhd hk5
 have HWI := xhd (show Calls Tryz.prog 48 #[.int .i64 11, .int .i64 4] w5 _ from yfu 11 4 w5 (by decide) (by decide))
 clear hk5 HMI
 go_wp2_with fail
 with_reducible refine HWI.out.mono ?_
 rintro e w6 ⟨wu, rfl, howu, hbu⟩
 obtain ⟨WA, wc0, rfl⟩ := y0c howu
 have HBU := xhd hbu
 have HOW := xhd howu
 have HK6 := xhd (HK5.out.trans (Keeps.new hbu))
 have HSZ6 := xhd hbu.size
 clear howu hbu HWI hf1
 go_wp2_with (at_builtin; refine y0t ?_)
 unfold Hid
 refine y1n rfl (.tmp 73) (.tmp 74) rfl w5.heap.size _ 4 (Pure.wide 11 4) rfl rfl HOW.out (fun b => b < w.heap.size) (.slice OO on co0) bs rfl (by have h := (((HO1.out.keeps HK3.out (fun _ _ e => e)).keeps HKS1.out (fun b hb e => by have := HOLD.out; have := HK1.out.size; omega)).keeps HKN1.out (fun _ _ e => e)).keeps HK6.out (fun _ _ e => e); rw [HON.out] at h ⊢; exact h) (by have := HOL.out; have := HON.out; omega) HSZ6.out ?_
 intro ev w7 hown hg _
 have hk7 : Keeps y01 w5 w7 := ((Keeps.new (HBU.out))).grown hg (fun k hk hl => absurd (y0f HOW.out k hk) (by omega))
 rw [← HE.out] at hown
 obtain ⟨VA, vc, rfl⟩ := y0c hown
 have HVR := xhd ((Row.of_own hown).mono (G := fun b => w5.heap.size ≤ b) (fun b hb => y0f hown b hb))
 rw [← HEN.out]
 have HK7 := xhd (HK5.out.trans hk7)
 clear hown hg hk7
 have HT7 := xhd (HT1o.out.quiet HK7.out)
 have s1a := y04 u1a HK7.out
 have s1b := y04 u1b HK7.out
 have s1c := y04 u1c HK7.out
 have s10 := y04 u10 HK7.out
 have HER := xhd ((HROW1.out.keeps HKN1.out (fun _ _ e => e)).keeps HK7.out (fun _ _ e => e))
 clear u1a u1b u1c u10 d5
 have HG4 := xhd (show w2.heap.size ≤ w3.heap.size ∧ w3.heap.size ≤ w4.heap.size ∧ w4.heap.size ≤ w4o.heap.size ∧ w4o.heap.size ≤ w5.heap.size ∧ w4o.heap.size ≤ w7.heap.size from ⟨HK3.out.size, HKS1.out.size, HKN1.out.size, HK5.out.size, HK7.out.size⟩)
 have HC2 := xhd (show Calls Tryz.prog 30 #[.pointer (some ⟨gx.l, 0, none⟩), pktV ⟨10, (i : Int), E⟩ (.slice A1 E.length z1)] w7 fun r w' => ∃ sv, ∃ ps : List (Value × Pure.Pkt), r = .returned (.agg #[sv, .bool false, .bool false, .bool false, .bool false, .int .i64 0]) ∧ ps.map Prod.snd = [] ∧ PRow w' (fun b => w7.heap.size ≤ b ∧ b < w'.heap.size) sv ps ∧ LTwo w1 w' gx gy X Y ∧ Keeps (fun b => b = gx.g ∨ b = gx.gm) w7 w' from (by have h := HT7.out.hears (fun b => w3.heap.size ≤ b ∧ b < w4.heap.size) ⟨10, (i : Int), E⟩ (.slice A1 E.length z1) (fun b hb => ⟨by have := HG4.out; omega, by have := HGX.out; have := HG4.out; omega, by have := HGX.out; have := HG4.out; omega⟩) HER.out (by rw [HX.out.2.1]; decide) (by rw [HX.out.2.2]; decide) (by have := HEL.out; show E.length ≤ 1000000; omega) HE2.out; exact h))
 have hpv : pktV ⟨10, (i : Int), E⟩ (.slice A1 E.length z1) = .agg #[.int .i64 10, .int .i64 (i : Int), .slice A1 en z1] := by rw [HEN.out]
 rw [hpv] at HC2
 clear hpv
 go_wp2_with fail
 with_reducible refine HC2.out.mono ?_
 rintro e w8 ⟨sv2, ps2, rfl, hps, hpr, hT2, hk⟩
 obtain ⟨A2, z2, rfl⟩ := y5r hpr hps
 have HT2 := xhd hT2
 have HKS2 := xhd hk
 clear hps hpr hT2 hk
 go_upto_region 14 with fail
 obtain ⟨ob2, hob⟩ : ∃ q, q = w8.heap.size := ⟨_, rfl⟩
 rw [← hob]
 have HOB2 := xhd (show w8.heap.size ≤ ob2 from Nat.le_of_eq hob.symm)
 generalize hwn : w8.alloc _ = w8o
 have hkn : Keeps y01 w8 w8o := by rw [← hwn]; exact (Keeps.refl _ _).alloc _
 have hB : Blk w8o ob2 61 #[.slice A2 0 z2, .bool false, .bool false, .bool false, .bool false, .int .i64 0] := by rw [← hwn, hob]; exact Blk.new _ _ _
 have HB2 := xhd hB
 have HKN2 := xhd hkn
 clear hob hwn hkn hB
 clear s1a s1b s1c s10
 have HT8 := xhd (HT2.out.quiet HKN2.out)
 have HDR8 := xhd (((((HDR.out.keeps HKS1.out (fun b hb e => by have := HGX.out; omega)).keeps HKN1.out (fun _ _ e => e)).keeps HK7.out (fun _ _ e => e)).keeps HKS2.out (fun b hb e => by have := HGX.out; omega)).keeps HKN2.out (fun _ _ e => e))
 have HC3 := xhd (show Calls Tryz.prog 30 #[.pointer (some ⟨gx.l, 0, none⟩), pktV ⟨11, 1, D⟩ (.slice DA D.length dc)] w8o fun r w' => ∃ sv, ∃ ps : List (Value × Pure.Pkt), r = .returned (.agg #[sv, .bool false, .bool false, .bool false, .bool false, .int .i64 0]) ∧ ps.map Prod.snd = [] ∧ PRow w' (fun b => w8o.heap.size ≤ b ∧ b < w'.heap.size) sv ps ∧ LTwo w1 w' gx gy X Y ∧ Keeps (fun b => b = gx.g ∨ b = gx.gm) w8o w' from (by have h := HT8.out.hears (fun b => w2.heap.size ≤ b ∧ b < w3.heap.size) ⟨11, 1, D⟩ (.slice DA D.length dc) (fun b hb => ⟨by have := HG4.out; have := HKS2.out.size; have := HKN2.out.size; omega, by have := HGX.out.1; omega, by have := HGX.out.2; omega⟩) HDR8.out (by rw [HX.out.2.1]; decide) (by rw [HX.out.2.2]; decide) (by have := HDL.out; show D.length ≤ 1000000; omega) HE3.out; exact h))
 have hpv : pktV ⟨11, 1, D⟩ (.slice DA D.length dc) = .agg #[.int .i64 11, .int .i64 1, .slice DA dn dc] := by rw [HDN.out]
 rw [hpv] at HC3
 clear hpv
 go_wp2_with fail
 with_reducible refine HC3.out.mono ?_
 rintro e w9 ⟨sv3, ps3, rfl, hps, hpr, hT3, hk⟩
 obtain ⟨A3, z3, rfl⟩ := y5r hpr hps
 have HT3 := xhd hT3
 have HKS3 := xhd hk
 clear hps hpr hT3 hk
 go_upto_region 15 with fail
 obtain ⟨ob3, hob⟩ : ∃ q, q = w9.heap.size := ⟨_, rfl⟩
 rw [← hob]
 have HOB3 := xhd (show w9.heap.size ≤ ob3 from Nat.le_of_eq hob.symm)
 generalize hwn : w9.alloc _ = w9o
 have hkn : Keeps y01 w9 w9o := by rw [← hwn]; exact (Keeps.refl _ _).alloc _
 have hB : Blk w9o ob3 61 #[.slice A3 0 z3, .bool false, .bool false, .bool false, .bool false, .int .i64 0] := by rw [← hwn, hob]; exact Blk.new _ _ _
 have HB3 := xhd hB
 have HKN3 := xhd hkn
 clear hob hwn hkn hB
 have HT9 := xhd (HT3.out.quiet HKN3.out)
 have HKF := xhd (show Keeps (fun b => b = gx.g ∨ b = gx.gm) w4o w9o from ((((HK7.out.mono (fun _ e => e.elim)).trans HKS2.out).trans (HKN2.out.mono (fun _ e => e.elim))).trans HKS3.out).trans (HKN3.out.mono (fun _ e => e.elim)))
 have HKG := xhd (show Keeps (fun b => b = gx.g ∨ b = gx.gm) w7 w9o from (((HKS2.out).trans (HKN2.out.mono (fun _ e => e.elim))).trans HKS3.out).trans (HKN3.out.mono (fun _ e => e.elim)))
 have y0 : w9o.cell? ⟨ob1, 0, none⟩ = some (.slice (some ⟨q1, r1, none⟩) 1 c1) := y4k HKF.out (by have := HGX.out; have := HG4.out; have := HOB1.out; omega) (by have := HGX.out; have := HG4.out; have := HOB1.out; omega) (HB1.out.cell 0)
 have y1 : w9o.cell? ⟨q1, r1 + 2, none⟩ = some (.slice A1 en z1) := y4k HKF.out (by have := HGX.out; have := HG4.out; have := HQ1.out; omega) (by have := HGX.out; have := HG4.out; have := HQ1.out; omega) (y04 (by rw [HEN.out]; exact HP1.out.2.2) HKN1.out)
 have y2 : w9o.cell? ⟨ob2, 0, none⟩ = some (.slice A2 0 z2) := y4k (HKS3.out.trans (HKN3.out.mono (fun _ e => e.elim))) (by have := HGX.out; have := HG4.out; have := HOB2.out; have := HKS2.out.size; omega) (by have := HGX.out; have := HG4.out; have := HOB2.out; have := HKS2.out.size; omega) (HB2.out.cell 0)
 have y3 : w9o.cell? ⟨ob3, 0, none⟩ = some (.slice A3 0 z3) := HB3.out.cell 0
 have HER9 := xhd (HER.out.keeps HKG.out (fun b hb e => by have := HGX.out; have := HG4.out; omega))
 have HVR9 := xhd (HVR.out.keeps HKG.out (fun b hb e => by have := HGX.out; have := HG4.out; omega))
 have HSA := xhd (show Calls Tryz.prog 15 #[.slice A1 en z1, .slice VA en vc] w9o fun e w' => e = .returned (.bool true) ∧ Keeps y01 w9o w' from by have h := same_any _ _ _ _ E E w9o HER9.out (by exact HVR9.out); rw [decide_eq_true (rfl : E = E), ← HEN.out] at h; exact h)
 go_wp2_with fail
 with_reducible refine HSA.out.mono ?_
 rintro e w10 ⟨rfl, hk10⟩
 have y2b := y04 y2 hk10
 have y3b := y04 y3 hk10
 have HT10 := xhd (HT9.out.quiet hk10)
 clear y0 y1 y2 y3 hk10 HSA
 have HST := xhd (show Calls Tryz.prog 40 #[.pointer (some ⟨gx.l, 0, none⟩)] w10 fun e w' => e = .returned (.int .i64 9) ∧ w10 = w' from by have h := HT10.out.state; rw [HX.out.1] at h; exact h)
 go_wp2_with fail
 with_reducible refine HST.out.mono ?_
 rintro e w' ⟨rfl, rfl⟩
 go_wp2_with fail
 go_ret
 exact ⟨rfl, y1p HK1.out HT10.out.below⟩
theorem lcpEchoes_walk (a0 a1 : Int) (a2 : Option Addr) (len2 cap2 : Nat) (z2 : List Int) (w : World) (hg : Env14 w) (_ : (Lit.int .i64 a0).wf = true) (h1 : (Lit.int .u8 a1).wf = true) (w2 : y42 .u8 w a2 len2 cap2 z2) :
  Calls Tryz.prog 7 #[.int .i64 a0, .int .u8 a1, .slice a2 len2 cap2] w fun e w' => e = .returned (.bool true) ∧ Below w.heap.size w w' := by
 obtain ⟨b1, c1⟩ := yao h1
 obtain ⟨m, rfl⟩ : ∃ n : Nat, a1 = (n : Int) := ⟨a1.toNat, by omega⟩
 obtain ⟨l, hl, hr⟩ := w2.bytes
 subst hl
 exact yb6 a0 m (by omega) _ l w hg hr
end Go.Proofs.YtmgicbckgpdkcaaGreatDoor
