/- Package lcp: Rules. -/
import Derived.Deep.MidRow
import Derived.Test.YtmgicbckgpdkcaaGreatDoorK18
import Derived.Test.YtmgicbckgpdkcaaGreatDoorK17
namespace Go.Proofs.YtmgicbckgpdkcaaGreatDoor
set_option maxRecDepth 100000
set_option maxHeartbeats 16000000
open _root_.Go.Lib renaming hid → xhd
open Go.RowKit
theorem run_data (t : Int) (v : Value) (w : World) : (Instr.field 31 (.agg #[.int .i64 t, v]) 1).run Tryz.prog w = .ok v w := by kernel_rfl
theorem y0y (b : Bool) (k : Int) (r : Pure.Rule) (D : Value) (L : List Pure.Rule) (hL : L = if b then [{ r with type := k, len := (Pure.psize k : Int) }] else []) (w0 : World) (lb : Nat) (P : Nat → Prop) (v : Value) (us : List (Value × Pure.Rule)) (w : World) (h : RVar w0 w lb P v us) (hq : us.length ≤ 100) (hone : D.oneCell' = true) (hD : Row w (fun b => P b) 1 D r.want.length (u8s r.want)) :
  Calls Tryz.prog 113 #[.bool b, .int .i64 k, y16 (D, r), .pointer (some ⟨lb, 0, none⟩)] w fun e w' => e = .returned (.tuple #[]) ∧ ∃ v' us', RVar w0 w' lb P v' us' ∧ y09 us' = y09 us ++ L ∧ us'.length ≤ us.length + 1 ∧ Keeps (fun i => w0.heap.size ≤ i ∧ ¬ P i) w w' := by
 rw [hL]
 exact allow1_any b k r D w0 lb P v us w h hq hone hD
theorem lrules_any (c : Pure.Cfg) (nm sc : ByteArray) (w : World) :
  Calls Tryz.prog 64 #[cfgV c nm sc] w fun e w' => ∃ v, ∃ us : List (Value × Pure.Rule), e = .returned v ∧ y09 us = c.rules ∧ RRead w w' (fun b => w.heap.size ≤ b) v us := by
 obtain ⟨cb, hcb⟩ : ∃ q, q = w.heap.size := ⟨_, rfl⟩
 obtain ⟨w1, hw1⟩ : ∃ q, q = ((((w.alloc (.cells (y0g c nm sc).toArray 25)).alloc (.cells #[.slice none 0 0] 118)).alloc (.cells #[.int .i64 0, .int .i64 0, .int .i64 1, .int .i64 0, .int .i64 0, .slice none 0 0, .bool false] 122)).alloc (.cells #[.int .i64 0, .int .i64 0, .int .i64 2, .int .i64 64, .int .i64 1500, .slice none 0 0, .bool false] 122)) := ⟨_, rfl⟩
 have hk1 : Keeps y01 w w1 := by rw [hw1]; exact ((((Keeps.refl _ w).alloc _).alloc _).alloc _).alloc _
 have hs1 : w1.heap.size = cb + 4 := by rw [hw1, hcb]; simp
 have hC : Blk w1 cb 25 (y0g c nm sc).toArray := by rw [hw1, hcb]; exact (((Blk.new w _ _).alloc _).alloc _).alloc _
 have hL : Blk w1 (cb + 1) 118 #[.slice none 0 0] := by
  rw [hw1, show cb + 1 = (w.alloc (.cells (y0g c nm sc).toArray 25)).heap.size by rw [hcb]; simp]
  exact ((Blk.new _ _ _).alloc _).alloc _
 have hF : Blk w1 (cb + 1 + 1) 122 #[.int .i64 0, .int .i64 0, .int .i64 1, .int .i64 0, .int .i64 0, .slice none 0 0, .bool false] := by
  rw [hw1, show cb + 1 + 1 = ((w.alloc (.cells (y0g c nm sc).toArray 25)).alloc (.cells #[.slice none 0 0] 118)).heap.size by rw [hcb]; simp]
  exact (Blk.new _ _ _).alloc _
 have hU : Blk w1 (cb + 1 + 1 + 1) 122 #[.int .i64 0, .int .i64 0, .int .i64 2, .int .i64 64, .int .i64 1500, .slice none 0 0, .bool false] := by
  rw [hw1, show cb + 1 + 1 + 1 = (((w.alloc (.cells (y0g c nm sc).toArray 25)).alloc (.cells #[.slice none 0 0] 118)).alloc (.cells #[.int .i64 0, .int .i64 0, .int .i64 1, .int .i64 0, .int .i64 0, .slice none 0 0, .bool false] 122)).heap.size by rw [hcb]; simp]
  exact Blk.new _ _ _
 have HOP := xhd (show Calls Tryz.prog 52 #[.int .i64 3, .int .i64 12723073] w1 fun e w' => ∃ A c, e = .returned (.agg #[.int .i64 3, .slice A 3 c]) ∧ Row w' (fun b => w1.heap.size ≤ b) 1 (.slice A 3 c) 3 (u8s Pure.proofData) ∧ Keeps y01 w1 w' from y46 3 12723073 (by decide) w1)
 have HC1 := xhd hC
 have HL1 := xhd hL
 have HF1 := xhd hF
 have HU1 := xhd hU
 have HK1 := xhd hk1
 have HS1 := xhd hs1
 have HCB := xhd hcb
 clear hk1 hs1 hC hL hF hU
 go_enter Tryz.func64, Tryz.ntmps64
 go_upto_region 5 with fail
 rw [← hcb, ← hw1]
 clear hw1 hcb
 go_wp2_with fail
 refine HOP.out.mono ?_
 rintro e w2 ⟨AD, cD, rfl, hD, hk2⟩
 have hsz2 := hk2.size
 have hfld := run_data 3 (.slice AD 3 cD) w2
 go_upto_region 6 with fail
 obtain ⟨pb, hpb⟩ : ∃ q, q = w2.heap.size := ⟨_, rfl⟩
 obtain ⟨wa, hwa⟩ : ∃ q, q = w2.alloc (.cells #[.int .i64 0, .int .i64 0, .int .i64 3, .int .i64 0, .int .i64 0, .slice AD 3 cD, .bool true] 122) := ⟨_, rfl⟩
 rw [← hpb, ← hwa]
 have hka : Keeps y01 w2 wa := by rw [hwa]; exact (Keeps.refl _ w2).alloc _
 have hsa : wa.heap.size = pb + 1 := by rw [hwa, hpb]; simp
 have HPa := xhd (show Blk wa pb 122 #[.int .i64 0, .int .i64 0, .int .i64 3, .int .i64 0, .int .i64 0, .slice AD 3 cD, .bool true] by rw [hwa, hpb]; exact Blk.new w2 _ _)
 have hk2a := hk2.trans hka
 have HCa := xhd (HC1.out.keeps hk2a (fun e => e))
 have HFa := xhd (HF1.out.keeps hk2a (fun e => e))
 have HUa := xhd (HU1.out.keeps hk2a (fun e => e))
 obtain ⟨P, hP⟩ : ∃ P : Nat → Prop, P = fun b => b = cb ∨ b = cb + 1 + 1 ∨ b = cb + 1 + 1 + 1 ∨ b = pb ∨ (w1.heap.size ≤ b ∧ b < pb) := ⟨_, rfl⟩
 have HPC := xhd (show P cb by rw [hP]; exact .inl rfl)
 have HPF := xhd (show P (cb + 1 + 1) by rw [hP]; exact .inr (.inl rfl))
 have HPU := xhd (show P (cb + 1 + 1 + 1) by rw [hP]; exact .inr (.inr (.inl rfl)))
 have HPP := xhd (show P pb by rw [hP]; exact .inr (.inr (.inr (.inl rfl))))
 have HPG := xhd (show ∀ b, P b → w.heap.size ≤ b from fun b hb => by
  rw [hP] at hb
  have h1 := HCB.out
  have h2 := HS1.out
  rcases hb with h | h | h | h | h <;> omega)
 have HDa := xhd (show Row wa (fun b => P b) 1 (.slice AD 3 cD) (Pure.proofRule).want.length (u8s (Pure.proofRule).want) from ((hD.strongN (by omega)).keeps hka (fun _ _ e => e)).mono (fun b hb => by rw [hP]; exact .inr (.inr (.inr (.inr ⟨hb.1, by omega⟩)))))
 have HAa := xhd (show RVar w wa (cb + 1) P (.slice none 0 0) [] from ⟨⟨World.ownsRow_nil _ _ _ _, by simp, HK1.out.trans hk2a⟩, fun b e => (by cases e), by have := HCB.out; omega, fun b hb => by
  rw [hP] at hb
  have h2 := HS1.out
  rcases hb with h | h | h | h | h <;> omega, HL1.out.keeps hk2a (fun e => e)⟩)
 clear hfld hD hk2 hsz2 hpb hwa hka hsa hk2a hP HC1 HL1 HF1 HU1 HOP
 have hq1 := y0y true 1 ⟨0, 0, 2, 64, 1500, [], false⟩ (.slice none 0 0) [Pure.rangeOf 1] (rfl) w (cb + 1) P _ [] wa HAa.out (by simp) rfl (Row.nil _ _ _)
 have r0 : wa.cell? ⟨cb + 1 + 1 + 1, 0, none⟩ = some (.int .i64 0) := by rw [HUa.out.cell]; rfl
 have r1 : wa.cell? ⟨cb + 1 + 1 + 1, 1, none⟩ = some (.int .i64 0) := by rw [HUa.out.cell]; rfl
 have r2 : wa.cell? ⟨cb + 1 + 1 + 1, 2, none⟩ = some (.int .i64 2) := by rw [HUa.out.cell]; rfl
 have r3 : wa.cell? ⟨cb + 1 + 1 + 1, 3, none⟩ = some (.int .i64 64) := by rw [HUa.out.cell]; rfl
 have r4 : wa.cell? ⟨cb + 1 + 1 + 1, 4, none⟩ = some (.int .i64 1500) := by rw [HUa.out.cell]; rfl
 have r5 : wa.cell? ⟨cb + 1 + 1 + 1, 5, none⟩ = some (.slice none 0 0) := by rw [HUa.out.cell]; rfl
 have r6 : wa.cell? ⟨cb + 1 + 1 + 1, 6, none⟩ = some (.bool false) := by rw [HUa.out.cell]; rfl
 go_wp2_with fail
 refine hq1.mono ?_
 rintro e x1 ⟨rfl, v1, q1, ha1, he1, hn1, hk1⟩
 have HA1 := xhd ha1
 have HE1 := xhd he1
 have HN1 := xhd (show q1.length ≤ 1 from (by simpa using hn1))
 have HC1 := xhd (HCa.out.keeps hk1 (fun e => e.2 HPC.out))
 have HF1 := xhd (HFa.out.keeps hk1 (fun e => e.2 HPF.out))
 have HU1 := xhd (HUa.out.keeps hk1 (fun e => e.2 HPU.out))
 have HP1 := xhd (HPa.out.keeps hk1 (fun e => e.2 HPP.out))
 have HD1 := xhd (HDa.out.keeps hk1 (fun b hb e => e.2 hb))
 clear ha1 he1 hn1 hk1 hq1  r0 r1 r2 r3 r4 r5 r6 HAa HCa HFa HUa HPa HDa
 have hq2 := y0y true 2 ⟨0, 0, 1, 0, 0, [], false⟩ (.slice none 0 0) [Pure.passOf 2 4] (rfl) w (cb + 1) P _ q1 x1 HA1.out (by have := HN1.out; omega) rfl (Row.nil _ _ _)
 have r0 : x1.cell? ⟨cb + 1 + 1, 0, none⟩ = some (.int .i64 0) := by rw [HF1.out.cell]; rfl
 have r1 : x1.cell? ⟨cb + 1 + 1, 1, none⟩ = some (.int .i64 0) := by rw [HF1.out.cell]; rfl
 have r2 : x1.cell? ⟨cb + 1 + 1, 2, none⟩ = some (.int .i64 1) := by rw [HF1.out.cell]; rfl
 have r3 : x1.cell? ⟨cb + 1 + 1, 3, none⟩ = some (.int .i64 0) := by rw [HF1.out.cell]; rfl
 have r4 : x1.cell? ⟨cb + 1 + 1, 4, none⟩ = some (.int .i64 0) := by rw [HF1.out.cell]; rfl
 have r5 : x1.cell? ⟨cb + 1 + 1, 5, none⟩ = some (.slice none 0 0) := by rw [HF1.out.cell]; rfl
 have r6 : x1.cell? ⟨cb + 1 + 1, 6, none⟩ = some (.bool false) := by rw [HF1.out.cell]; rfl
 go_wp2_with fail
 refine hq2.mono ?_
 rintro e x2 ⟨rfl, v2, q2, ha2, he2, hn2, hk2⟩
 have HA2 := xhd ha2
 have HE2 := xhd he2
 have HN2 := xhd (show q2.length ≤ 2 from (by have := HN1.out; omega))
 have HC2 := xhd (HC1.out.keeps hk2 (fun e => e.2 HPC.out))
 have HF2 := xhd (HF1.out.keeps hk2 (fun e => e.2 HPF.out))
 have HU2 := xhd (HU1.out.keeps hk2 (fun e => e.2 HPU.out))
 have HP2 := xhd (HP1.out.keeps hk2 (fun e => e.2 HPP.out))
 have HD2 := xhd (HD1.out.keeps hk2 (fun b hb e => e.2 hb))
 clear ha2 he2 hn2 hk2 hq2  r0 r1 r2 r3 r4 r5 r6 HA1 HC1 HF1 HU1 HP1 HD1
 have hq3 := y0y (!c.server) 3 ⟨0, 0, 3, 0, 0, Pure.proofData, true⟩ (.slice AD 3 cD) (if c.server then [] else [Pure.proofRule]) (by cases c.server <;> rfl) w (cb + 1) P _ q2 x2 HA2.out (by have := HN2.out; omega) rfl HD2.out
 have c0 : x2.cell? ⟨cb, 0, none⟩ = some (.bool c.server) := by rw [HC2.out.cell]; rfl
 have r0 : x2.cell? ⟨pb, 0, none⟩ = some (.int .i64 0) := by rw [HP2.out.cell]; rfl
 have r1 : x2.cell? ⟨pb, 1, none⟩ = some (.int .i64 0) := by rw [HP2.out.cell]; rfl
 have r2 : x2.cell? ⟨pb, 2, none⟩ = some (.int .i64 3) := by rw [HP2.out.cell]; rfl
 have r3 : x2.cell? ⟨pb, 3, none⟩ = some (.int .i64 0) := by rw [HP2.out.cell]; rfl
 have r4 : x2.cell? ⟨pb, 4, none⟩ = some (.int .i64 0) := by rw [HP2.out.cell]; rfl
 have r5 : x2.cell? ⟨pb, 5, none⟩ = some (.slice AD 3 cD) := by rw [HP2.out.cell]; rfl
 have r6 : x2.cell? ⟨pb, 6, none⟩ = some (.bool true) := by rw [HP2.out.cell]; rfl
 go_wp2_with fail
 refine hq3.mono ?_
 rintro e x3 ⟨rfl, v3, q3, ha3, he3, hn3, hk3⟩
 have HA3 := xhd ha3
 have HE3 := xhd he3
 have HN3 := xhd (show q3.length ≤ 3 from (by have := HN2.out; omega))
 have HC3 := xhd (HC2.out.keeps hk3 (fun e => e.2 HPC.out))
 have HF3 := xhd (HF2.out.keeps hk3 (fun e => e.2 HPF.out))
 have HU3 := xhd (HU2.out.keeps hk3 (fun e => e.2 HPU.out))
 have HP3 := xhd (HP2.out.keeps hk3 (fun e => e.2 HPP.out))
 have HD3 := xhd (HD2.out.keeps hk3 (fun b hb e => e.2 hb))
 clear ha3 he3 hn3 hk3 hq3 c0 r0 r1 r2 r3 r4 r5 r6 HA2 HC2 HF2 HU2 HP2 HD2
 have hq4 := y0y true 5 ⟨0, 0, 1, 0, 0, [], false⟩ (.slice none 0 0) [Pure.passOf 5 4] (rfl) w (cb + 1) P _ q3 x3 HA3.out (by have := HN3.out; omega) rfl (Row.nil _ _ _)
 have r0 : x3.cell? ⟨cb + 1 + 1, 0, none⟩ = some (.int .i64 0) := by rw [HF3.out.cell]; rfl
 have r1 : x3.cell? ⟨cb + 1 + 1, 1, none⟩ = some (.int .i64 0) := by rw [HF3.out.cell]; rfl
 have r2 : x3.cell? ⟨cb + 1 + 1, 2, none⟩ = some (.int .i64 1) := by rw [HF3.out.cell]; rfl
 have r3 : x3.cell? ⟨cb + 1 + 1, 3, none⟩ = some (.int .i64 0) := by rw [HF3.out.cell]; rfl
 have r4 : x3.cell? ⟨cb + 1 + 1, 4, none⟩ = some (.int .i64 0) := by rw [HF3.out.cell]; rfl
 have r5 : x3.cell? ⟨cb + 1 + 1, 5, none⟩ = some (.slice none 0 0) := by rw [HF3.out.cell]; rfl
 have r6 : x3.cell? ⟨cb + 1 + 1, 6, none⟩ = some (.bool false) := by rw [HF3.out.cell]; rfl
 go_wp2_with fail
 refine hq4.mono ?_
 rintro e x4 ⟨rfl, v4, q4, ha4, he4, hn4, hk4⟩
 have HA4 := xhd ha4
 have HE4 := xhd he4
 have HN4 := xhd (show q4.length ≤ 4 from (by have := HN3.out; omega))
 have HC4 := xhd (HC3.out.keeps hk4 (fun e => e.2 HPC.out))
 have HF4 := xhd (HF3.out.keeps hk4 (fun e => e.2 HPF.out))
 have HU4 := xhd (HU3.out.keeps hk4 (fun e => e.2 HPU.out))
 have HP4 := xhd (HP3.out.keeps hk4 (fun e => e.2 HPP.out))
 have HD4 := xhd (HD3.out.keeps hk4 (fun b hb e => e.2 hb))
 clear ha4 he4 hn4 hk4 hq4  r0 r1 r2 r3 r4 r5 r6 HA3 HC3 HF3 HU3 HP3 HD3
 have hq5 := y0y c.pfc 7 ⟨0, 0, 1, 0, 0, [], false⟩ (.slice none 0 0) (if c.pfc then [Pure.passOf 7 0] else []) (by cases c.pfc <;> rfl) w (cb + 1) P _ q4 x4 HA4.out (by have := HN4.out; omega) rfl (Row.nil _ _ _)
 have c4 : x4.cell? ⟨cb, 4, none⟩ = some (.bool c.pfc) := by rw [HC4.out.cell]; rfl
 have r0 : x4.cell? ⟨cb + 1 + 1, 0, none⟩ = some (.int .i64 0) := by rw [HF4.out.cell]; rfl
 have r1 : x4.cell? ⟨cb + 1 + 1, 1, none⟩ = some (.int .i64 0) := by rw [HF4.out.cell]; rfl
 have r2 : x4.cell? ⟨cb + 1 + 1, 2, none⟩ = some (.int .i64 1) := by rw [HF4.out.cell]; rfl
 have r3 : x4.cell? ⟨cb + 1 + 1, 3, none⟩ = some (.int .i64 0) := by rw [HF4.out.cell]; rfl
 have r4 : x4.cell? ⟨cb + 1 + 1, 4, none⟩ = some (.int .i64 0) := by rw [HF4.out.cell]; rfl
 have r5 : x4.cell? ⟨cb + 1 + 1, 5, none⟩ = some (.slice none 0 0) := by rw [HF4.out.cell]; rfl
 have r6 : x4.cell? ⟨cb + 1 + 1, 6, none⟩ = some (.bool false) := by rw [HF4.out.cell]; rfl
 go_wp2_with fail
 refine hq5.mono ?_
 rintro e x5 ⟨rfl, v5, q5, ha5, he5, hn5, hk5⟩
 have HA5 := xhd ha5
 have HE5 := xhd he5
 have HN5 := xhd (show q5.length ≤ 5 from (by have := HN4.out; omega))
 have HC5 := xhd (HC4.out.keeps hk5 (fun e => e.2 HPC.out))
 have HF5 := xhd (HF4.out.keeps hk5 (fun e => e.2 HPF.out))
 have HU5 := xhd (HU4.out.keeps hk5 (fun e => e.2 HPU.out))
 have HP5 := xhd (HP4.out.keeps hk5 (fun e => e.2 HPP.out))
 have HD5 := xhd (HD4.out.keeps hk5 (fun b hb e => e.2 hb))
 clear ha5 he5 hn5 hk5 hq5 c4 r0 r1 r2 r3 r4 r5 r6 HA4 HC4 HF4 HU4 HP4 HD4
 have hq6 := y0y c.acfc 8 ⟨0, 0, 1, 0, 0, [], false⟩ (.slice none 0 0) (if c.acfc then [Pure.passOf 8 0] else []) (by cases c.acfc <;> rfl) w (cb + 1) P _ q5 x5 HA5.out (by have := HN5.out; omega) rfl (Row.nil _ _ _)
 have c5 : x5.cell? ⟨cb, 5, none⟩ = some (.bool c.acfc) := by rw [HC5.out.cell]; rfl
 have r0 : x5.cell? ⟨cb + 1 + 1, 0, none⟩ = some (.int .i64 0) := by rw [HF5.out.cell]; rfl
 have r1 : x5.cell? ⟨cb + 1 + 1, 1, none⟩ = some (.int .i64 0) := by rw [HF5.out.cell]; rfl
 have r2 : x5.cell? ⟨cb + 1 + 1, 2, none⟩ = some (.int .i64 1) := by rw [HF5.out.cell]; rfl
 have r3 : x5.cell? ⟨cb + 1 + 1, 3, none⟩ = some (.int .i64 0) := by rw [HF5.out.cell]; rfl
 have r4 : x5.cell? ⟨cb + 1 + 1, 4, none⟩ = some (.int .i64 0) := by rw [HF5.out.cell]; rfl
 have r5 : x5.cell? ⟨cb + 1 + 1, 5, none⟩ = some (.slice none 0 0) := by rw [HF5.out.cell]; rfl
 have r6 : x5.cell? ⟨cb + 1 + 1, 6, none⟩ = some (.bool false) := by rw [HF5.out.cell]; rfl
 go_wp2_with fail
 refine hq6.mono ?_
 rintro e x6 ⟨rfl, v6, q6, ha6, he6, hn6, hk6⟩
 have HA6 := xhd ha6
 have HE6 := xhd he6
 have HN6 := xhd (show q6.length ≤ 6 from (by have := HN5.out; omega))
 have HC6 := xhd (HC5.out.keeps hk6 (fun e => e.2 HPC.out))
 have HF6 := xhd (HF5.out.keeps hk6 (fun e => e.2 HPF.out))
 have HU6 := xhd (HU5.out.keeps hk6 (fun e => e.2 HPU.out))
 have HP6 := xhd (HP5.out.keeps hk6 (fun e => e.2 HPP.out))
 have HD6 := xhd (HD5.out.keeps hk6 (fun b hb e => e.2 hb))
 clear ha6 he6 hn6 hk6 hq6 c5 r0 r1 r2 r3 r4 r5 r6 HA5 HC5 HF5 HU5 HP5 HD5
 have hq7 := y0y (c.mrru != 0) 17 ⟨0, 0, 2, 64, 1500, [], false⟩ (.slice none 0 0) (if c.mrru = 0 then [] else [Pure.rangeOf 17]) (by by_cases h : c.mrru = 0 <;> simp [h, Pure.rangeOf, Pure.psize]) w (cb + 1) P _ q6 x6 HA6.out (by have := HN6.out; omega) rfl (Row.nil _ _ _)
 have c7 : x6.cell? ⟨cb, 7, none⟩ = some (.int .i64 c.mrru) := by rw [HC6.out.cell]; rfl
 have r0 : x6.cell? ⟨cb + 1 + 1 + 1, 0, none⟩ = some (.int .i64 0) := by rw [HU6.out.cell]; rfl
 have r1 : x6.cell? ⟨cb + 1 + 1 + 1, 1, none⟩ = some (.int .i64 0) := by rw [HU6.out.cell]; rfl
 have r2 : x6.cell? ⟨cb + 1 + 1 + 1, 2, none⟩ = some (.int .i64 2) := by rw [HU6.out.cell]; rfl
 have r3 : x6.cell? ⟨cb + 1 + 1 + 1, 3, none⟩ = some (.int .i64 64) := by rw [HU6.out.cell]; rfl
 have r4 : x6.cell? ⟨cb + 1 + 1 + 1, 4, none⟩ = some (.int .i64 1500) := by rw [HU6.out.cell]; rfl
 have r5 : x6.cell? ⟨cb + 1 + 1 + 1, 5, none⟩ = some (.slice none 0 0) := by rw [HU6.out.cell]; rfl
 have r6 : x6.cell? ⟨cb + 1 + 1 + 1, 6, none⟩ = some (.bool false) := by rw [HU6.out.cell]; rfl
 go_wp2_with fail
 refine hq7.mono ?_
 rintro e x7 ⟨rfl, v7, q7, ha7, he7, hn7, hk7⟩
 have HA7 := xhd ha7
 have HE7 := xhd he7
 have HN7 := xhd (show q7.length ≤ 7 from (by have := HN6.out; omega))
 have HC7 := xhd (HC6.out.keeps hk7 (fun e => e.2 HPC.out))
 have HF7 := xhd (HF6.out.keeps hk7 (fun e => e.2 HPF.out))
 have HU7 := xhd (HU6.out.keeps hk7 (fun e => e.2 HPU.out))
 have HP7 := xhd (HP6.out.keeps hk7 (fun e => e.2 HPP.out))
 have HD7 := xhd (HD6.out.keeps hk7 (fun b hb e => e.2 hb))
 clear ha7 he7 hn7 hk7 hq7 c7 r0 r1 r2 r3 r4 r5 r6 HA6 HC6 HF6 HU6 HP6 HD6
 have hq8 := y0y (c.mrru != 0) 18 ⟨0, 0, 1, 0, 0, [], false⟩ (.slice none 0 0) (if c.mrru = 0 then [] else [Pure.passOf 18 0]) (by by_cases h : c.mrru = 0 <;> simp [h, Pure.passOf, Pure.psize]) w (cb + 1) P _ q7 x7 HA7.out (by have := HN7.out; omega) rfl (Row.nil _ _ _)
 have c7 : x7.cell? ⟨cb, 7, none⟩ = some (.int .i64 c.mrru) := by rw [HC7.out.cell]; rfl
 have r0 : x7.cell? ⟨cb + 1 + 1, 0, none⟩ = some (.int .i64 0) := by rw [HF7.out.cell]; rfl
 have r1 : x7.cell? ⟨cb + 1 + 1, 1, none⟩ = some (.int .i64 0) := by rw [HF7.out.cell]; rfl
 have r2 : x7.cell? ⟨cb + 1 + 1, 2, none⟩ = some (.int .i64 1) := by rw [HF7.out.cell]; rfl
 have r3 : x7.cell? ⟨cb + 1 + 1, 3, none⟩ = some (.int .i64 0) := by rw [HF7.out.cell]; rfl
 have r4 : x7.cell? ⟨cb + 1 + 1, 4, none⟩ = some (.int .i64 0) := by rw [HF7.out.cell]; rfl
 have r5 : x7.cell? ⟨cb + 1 + 1, 5, none⟩ = some (.slice none 0 0) := by rw [HF7.out.cell]; rfl
 have r6 : x7.cell? ⟨cb + 1 + 1, 6, none⟩ = some (.bool false) := by rw [HF7.out.cell]; rfl
 go_wp2_with fail
 refine hq8.mono ?_
 rintro e x8 ⟨rfl, v8, q8, ha8, he8, hn8, hk8⟩
 have HA8 := xhd ha8
 have HE8 := xhd he8
 have HN8 := xhd (show q8.length ≤ 8 from (by have := HN7.out; omega))
 have HC8 := xhd (HC7.out.keeps hk8 (fun e => e.2 HPC.out))
 have HF8 := xhd (HF7.out.keeps hk8 (fun e => e.2 HPF.out))
 have HU8 := xhd (HU7.out.keeps hk8 (fun e => e.2 HPU.out))
 have HP8 := xhd (HP7.out.keeps hk8 (fun e => e.2 HPP.out))
 have HD8 := xhd (HD7.out.keeps hk8 (fun b hb e => e.2 hb))
 clear ha8 he8 hn8 hk8 hq8 c7 r0 r1 r2 r3 r4 r5 r6 HA7 HC7 HF7 HU7 HP7 HD7
 have HFIN := xhd (show y09 q8 = c.rules by
  rw [HE8.out, HE7.out, HE6.out, HE5.out, HE4.out, HE3.out, HE2.out, HE1.out]
  unfold Pure.Cfg.rules
  by_cases h : c.mrru = 0
  ·simp [h, y09]
  ·simp [h, y09])
 obtain ⟨A8, c8, rfl⟩ := y07 HA8.out.row.own
 have l0 : x8.cell? ⟨cb + 1, 0, none⟩ = some (.slice A8 q8.length c8) := by rw [HA8.out.blk.cell]; rfl
 have HR := xhd (show RRead w x8 (fun b => w.heap.size ≤ b) (.slice A8 q8.length c8) q8 from ⟨HA8.out.row.own, fun p hp => (HA8.out.row.rows p hp).mono (fun b hb => ⟨HPG.out b hb.1, hb.2⟩), HA8.out.row.kept⟩)
 go_wp2_with fail
 go_ret
 exact ⟨_, q8, rfl, HFIN.out, HR.out⟩
abbrev byLink (l : Nat) : Value := .func (.func 68) #[.pointer (some ⟨l, 0, none⟩)] #[]
abbrev y4j (g : Nat) (c : Pure.Cfg) (nm sc : ByteArray) (rv : Value) : List Value := .pointer (some ⟨g, 0, none⟩) :: (y0g c nm sc ++ [rv])
def LBlk (w : World) (l g : Nat) (c : Pure.Cfg) (nm sc : ByteArray) (rv : Value) : Prop := Blk w l 125 (y4j g c nm sc rv).toArray
theorem LBlk.cell {w : World} {l g : Nat} {c : Pure.Cfg} {nm sc : ByteArray} {rv : Value} (h : LBlk w l g c nm sc rv) (j : Nat) : w.cell? ⟨l, j, none⟩ = (y4j g c nm sc rv)[j]? := by
 have : Blk w l 125 (y4j g c nm sc rv).toArray := h
 rw [this.cell, List.getElem?_toArray]
theorem LBlk.keeps {S : Nat → Prop} {w w' : World} {l g : Nat} {c : Pure.Cfg} {nm sc : ByteArray} {rv : Value} (h : LBlk w l g c nm sc rv) (k : Keeps S w w') (hs : ¬ S l) : LBlk w' l g c nm sc rv := Blk.keeps h k hs
theorem LBlk.lt {w : World} {l g : Nat} {c : Pure.Cfg} {nm sc : ByteArray} {rv : Value} (h : LBlk w l g c nm sc rv) : l < w.heap.size := Blk.lt h
theorem y7k (v : Value) (w : World) : (binOp .neq 129 (.func (.func 68) #[v] #[]) .nilFunc).run Tryz.prog w = .ok (.bool true) w := by kernel_rfl
structure LF where
 l : Nat
 g : Nat
 gm : Nat
 nm : ByteArray
 sc : ByteArray
 rv : Value
structure LObj (w : World) (k : LF) (R : Nat → Prop) (f : NF) (x : Pure.Lcp) : Prop where
 blk : LBlk w k.l k.g x.c k.nm k.sc k.rv
 obj : NObj w k.g R f x.n
 gm : f.gm = ⟨k.gm, byLink k.l⟩
 rules : ∃ us, RRow w R k.rv us ∧ y09 us = x.n.rules ∧ FewRules us
 same : x.n.rules = x.c.rules
 fine : x.c.fine = true
 accm : x.c.accm < 4294967296
 nl : ¬ R k.l
 lg : k.l ≠ k.g
 lm : k.l ≠ k.gm
theorem LObj.gm' {w : World} {k : LF} {R : Nat → Prop} {f : NF} {x : Pure.Lcp} (h : LObj w k R f x) : f.gm.m = k.gm := by rw [h.gm]
theorem LObj.keeps {w w' : World} {k : LF} {R S : Nat → Prop} {f : NF} {x : Pure.Lcp} (h : LObj w k R f x) (K : Keeps S w w') (hl : ¬ S k.l) (hg : ¬ S k.g) (hm : ¬ S k.gm) (hs : ∀ b, R b → ¬ S b) : LObj w' k R f x := by
 obtain ⟨us, r1, r2, r3⟩ := h.rules
 exact ⟨h.blk.keeps K hl, h.obj.keeps K hg (by rw [h.gm']; exact hm) hs, h.gm, ⟨us, r1.keeps K hs, r2, r3⟩, h.same, h.fine, h.accm, h.nl, h.lg, h.lm⟩
theorem LObj.quiet {w w' : World} {k : LF} {R : Nat → Prop} {f : NF} {x : Pure.Lcp} (h : LObj w k R f x) (K : Keeps y01 w w') : LObj w' k R f x := h.keeps K (fun e => e) (fun e => e) (fun e => e) (fun _ _ e => e)
def y21 (w w' : World) (k : LF) (R : Nat → Prop) (x : Pure.Lcp) : Prop :=
 ∃ f' R', LObj w' k R' f' x ∧ (∀ b, R' b → R b ∨ w.heap.size ≤ b) ∧ Keeps (fun b => b = k.g ∨ b = k.gm) w w'
theorem LObj.turned {w w' : World} {k : LF} {R : Nat → Prop} {f : NF} {x : Pure.Lcp} {n' : Pure.Neg} (h : LObj w k R f x) (hr : n'.rules = x.n.rules) (hb : y10 w w' k.g R f n') : y21 w w' k R { x with n := n' } := by
 obtain ⟨f', R', hn, hgm, hsub, K⟩ := hb
 obtain ⟨us, r1, r2, r3⟩ := h.rules
 have hll := h.blk.lt
 have K2 : Keeps (fun b => b = k.g ∨ b = k.gm) w w' := by rw [h.gm'] at K; exact K
 have hS : ∀ b, R b → ¬ (b = k.g ∨ b = k.gm) := fun b hb e => by
  rcases e with e | e
  ·exact h.obj.ng (e ▸ hb)
  ·exact h.obj.nm (by rw [h.gm', ← e]; exact hb)
 refine ⟨f', fun b => (R' b ∨ R b) ∧ b < w'.heap.size, ⟨h.blk.keeps K2 (fun e => e.elim h.lg h.lm), ?_, hgm.trans h.gm, ⟨us, (r1.keeps K2 hS).mono (fun b hb => ⟨.inr hb, Nat.lt_of_lt_of_le (h.obj.lt b hb) K.size⟩), by rw [r2]; exact hr.symm, r3⟩, hr.trans h.same, h.fine, h.accm, ?_, h.lg, h.lm⟩, ?_, K2⟩
 ·obtain ⟨vs, s1, s2, s3⟩ := hn.rules
  have hsub2 : ∀ b, R' b → (R' b ∨ R b) ∧ b < w'.heap.size := fun b hb => ⟨.inl hb, hn.lt b hb⟩
  refine ⟨hn.blk, hn.mach, hn.well, hn.e1, hn.e2, hn.e3, hn.e4, hn.e5, hn.e6, ⟨vs, s1.mono hsub2, s2, s3⟩, hn.first.mono hsub2, hn.request.mono hsub2, hn.aopts.mono hsub2, hn.mine.mono hsub2, hn.given.mono hsub2, fun b hb => hb.2, ?_, ?_, hn.ne⟩
  ·rintro ⟨e | e, _⟩
   ·exact hn.ng e
   ·exact h.obj.ng e
  ·rintro ⟨e | e, _⟩
   ·exact hn.nm e
   ·rw [hgm] at e; exact h.obj.nm e
 ·rintro ⟨e | e, _⟩
  ·rcases hsub _ e with e | e
   ·exact h.nl e
   ·omega
  ·exact h.nl e
 ·rintro b ⟨e | e, _⟩
  ·exact hsub b e
  ·exact .inl e
theorem LObj.stays {w w' : World} {k : LF} {R : Nat → Prop} {f : NF} {x : Pure.Lcp} (h : LObj w k R f x) (K : Keeps y01 w w') : y21 w w' k R x :=
 ⟨f, R, h.quiet K, fun _ hb => .inl hb, K.mono (fun _ e => e.elim)⟩
section
variable {w : World} {k : LF} {R : Nat → Prop} {f : NF} {x : Pure.Lcp}
theorem y2t (h : LObj w k R f x) : Calls Tryz.prog 70 #[.pointer (some ⟨k.l, 0, none⟩)] w fun e w' => e = .returned (.pointer (some ⟨k.g, 0, none⟩)) ∧ w = w' := by
 have c0 : w.cell? ⟨k.l, 0, none⟩ = some (.pointer (some ⟨k.g, 0, none⟩)) := h.blk.cell 0
 clear h
 go_enter Tryz.func70, Tryz.ntmps70
 go_wp2_with fail
 go_ret
 exact ⟨rfl, rfl⟩
theorem lstate_any (h : LObj w k R f x) : Calls Tryz.prog 40 #[.pointer (some ⟨k.l, 0, none⟩)] w fun e w' => e = .returned (.int .i64 (x.n.m.state : Nat)) ∧ w = w' := by
 have HN := xhd (y2t h)
 have HS := xhd (nstate_any k.g R f x.n w h.obj)
 clear h
 go_enter Tryz.func40, Tryz.ntmps40
 go_wp2_with fail
 refine HN.out.mono ?_
 rintro e w1 ⟨rfl, rfl⟩
 go_wp2_with fail
 refine HS.out.mono ?_
 rintro e w1 ⟨rfl, rfl⟩
 go_wp2_with fail
 go_ret
 exact ⟨rfl, rfl⟩
end
namespace Pure
def Lcp.verdict (x : Lcp) (l : List Opt) (rejects : Bool) : Nat × List Opt :=
 if (readVals (split x.n.ours).2).magic = 0 ∨ (readVals l).magic ≠ (readVals (split x.n.ours).2).magic then judge x.n.rules l rejects else looped x.n.rules l rejects (readVals (split x.n.ours).2).magic
end Pure
namespace Pure
theorem y43 (n : Neg) (e : Nat) (r : Option Reply) : (n.event e r).1.rules = n.rules := (acts_keeps r _ ({ n with m := (n.m.act2 e).2 }, mute)).rules
theorem act_rules (n : Neg) (e : Int) : (n.act e).1.rules = n.rules := by
 unfold Neg.act
 split
 ·rfl
 split
 ·exact y43 n.again 0 none
 ·exact y43 n e.toNat none
end Pure
theorem lout_info : (Tryz.prog.info? 61).map (·.size) = some 6 := by kernel_rfl
def LOuts (w w' : World) (v : Value) (o : Pure.LSaid) : Prop :=
 ∃ sv, ∃ ps : List (Value × Pure.Pkt), v = .agg #[sv, .bool o.said.up, .bool o.said.down, .bool o.said.start, .bool o.said.done, .int .i64 (o.reject : Int)] ∧ PRow w' (fun b => w.heap.size ≤ b ∧ b < w'.heap.size) sv ps ∧ ps.map Prod.snd = o.said.send ∧ ps.length ≤ 100
abbrev lzero : List Value := [.slice none 0 0, .bool false, .bool false, .bool false, .bool false, .int .i64 0]
section
variable {w : World} {k : LF} {R : Nat → Prop} {f : NF} {x : Pure.Lcp}
theorem ldo_any (h : LObj w k R f x) (e : Int) (he : e = 0 ∨ e = 1 ∨ e = 2 ∨ e = 3) (hnk : x.n.naks ≤ 1000) :
  Calls Tryz.prog 28 #[.pointer (some ⟨k.l, 0, none⟩), .int .i64 e] w fun r w' => ∃ v, r = .returned v ∧ LOuts w w' v (x.act e).2 ∧ y21 w w' k R (x.act e).1 := by
 have HI := xhd lout_info
 obtain ⟨ro, hro⟩ : ∃ q, q = w.heap.size := ⟨_, rfl⟩
 obtain ⟨w1, hw1⟩ : ∃ q, q = w.alloc (.cells lzero.toArray 61) := ⟨_, rfl⟩
 have hk1 : Keeps y01 w w1 := by rw [hw1]; exact (Keeps.refl _ w).alloc _
 have HO := xhd (show Blk w1 ro 61 lzero.toArray by rw [hw1, hro]; exact Blk.new w _ _)
 have h1 := h.quiet hk1
 have HN := xhd (y2t h1)
 have hgl := h.obj.blk.lt
 have hml := Blk.lt h.obj.mach
 have HRG := xhd (show ro ≠ k.g by omega)
 have HRM := xhd (show ro ≠ f.gm by omega)
 have HNR := xhd (show ¬ R ro from fun e => by have := h.obj.lt ro e; omega)
 have HRL := xhd (show ro < w1.heap.size from HO.out.lt)
 have HR0 := xhd (show w.heap.size ≤ ro by omega)
 have HH := xhd h
 have HK1 := xhd hk1
 have HCALL := xhd (show Calls Tryz.prog 71 #[.pointer (some ⟨k.g, 0, none⟩), .int .i64 e] w1 fun r w' => ∃ v, r = .returned v ∧ Outs w1 w' v (x.n.act e).2 ∧ y10 w1 w' k.g R f (x.n.act e).1 from by
  rcases he with rfl | he
  ·exact do_up k.g R f x.n w1 h1.obj
  ·exact do_other k.g R f x.n e he w1 h1.obj hnk)
 clear he hnk
 clear h hk1 h1 hgl hml
 go_enter Tryz.func28, Tryz.ntmps28
 go_upto_region 1 with fail
 rw [← hro]
 rw [show w.alloc (.cells #[.slice none 0 0, .bool false, .bool false, .bool false, .bool false, .int .i64 0] 61) = w1 from hw1.symm]
 clear hw1 hro
 go_wp2_with fail
 refine HN.out.mono ?_
 rintro e' w2 ⟨rfl, rfl⟩
 go_wp2_with fail
 refine HCALL.out.mono ?_
 rintro e' w5 ⟨v, rfl, hout, hbec⟩
 clear HCALL HN
 have hRo : Blk w5 ro 61 lzero.toArray := by
  obtain ⟨_, _, _, _, _, hk⟩ := hbec
  exact HO.out.keeps hk (fun e => by rcases e with e | e; exact HRG.out e; exact HRM.out e)
 have hfar := fun w'' (K : Keeps (only ro) w5 w'') => (hout.far K HRL.out).since HK1.out.size
 have hcl := fun w'' (K : Keeps (only ro) w5 w'') => hbec.close (f := f) rfl (fun b hb => .inl hb) (HK1.out.mono (fun _ e => e.elim)) K HR0.out HRL.out (fun e => HRG.out e.symm) (fun e => HRM.out e.symm) HNR.out
 obtain ⟨sv, ps, rfl, hprow, hpk, hfw⟩ := hout
 obtain ⟨A6, c6, rfl, _⟩ := hprow.form
 have z0 : w5.cell? ⟨ro, 0, none⟩ = some (.slice none 0 0) := by rw [hRo.cell]; rfl
 have f0 := hRo.frozen 0
 have z1 : w5.cell? ⟨ro, 1, none⟩ = some (.bool false) := by rw [hRo.cell]; rfl
 have f1 := hRo.frozen 1
 have z2 : w5.cell? ⟨ro, 2, none⟩ = some (.bool false) := by rw [hRo.cell]; rfl
 have f2 := hRo.frozen 2
 have z3 : w5.cell? ⟨ro, 3, none⟩ = some (.bool false) := by rw [hRo.cell]; rfl
 have f3 := hRo.frozen 3
 have z4 : w5.cell? ⟨ro, 4, none⟩ = some (.bool false) := by rw [hRo.cell]; rfl
 have f4 := hRo.frozen 4
 have z5 : w5.cell? ⟨ro, 5, none⟩ = some (.int .i64 0) := by rw [hRo.cell]; rfl
 have f5 := hRo.frozen 5
 obtain ⟨O1, hO1⟩ : ∃ b, b = ((x.n.act e).2).up := ⟨_, rfl⟩
 obtain ⟨O2, hO2⟩ : ∃ b, b = ((x.n.act e).2).down := ⟨_, rfl⟩
 obtain ⟨O3, hO3⟩ : ∃ b, b = ((x.n.act e).2).start := ⟨_, rfl⟩
 obtain ⟨O4, hO4⟩ : ∃ b, b = ((x.n.act e).2).done := ⟨_, rfl⟩
 rw [← hO1, ← hO2, ← hO3, ← hO4] at hfar ⊢
 have HZ := xhd ((((((hRo.set 0 (.slice A6 ps.length c6)).set 1 (.bool O1)).set 2 (.bool O2)).set 3 (.bool O3)).set 4 (.bool O4)).set 5 (.int .i64 0))
 have KR := (((((((Keeps.refl (only ro) w5).put 0 (.slice A6 ps.length c6)).put 1 (.bool O1)).put 2 (.bool O2)).put 3 (.bool O3)).put 4 (.bool O4)).put 5 (.int .i64 0))
 have HFAR := xhd (hfar _ KR)
 have HCL := xhd (HH.out.turned (Pure.act_rules x.n e) (hcl _ KR))
 have HO1 := xhd hO1
 have HO2 := xhd hO2
 have HO3 := xhd hO3
 have HO4 := xhd hO4
 clear hRo hfar hcl hprow hpk hfw KR hO1 hO2 hO3 hO4 hbec
 go_wp2_with fail
 refine bodyPost_ret (y0i rfl _ _ ro 61 _ (0, 0) _ rfl HZ.out Tryz.underlying61 rfl (by rw [HI.out]; rfl)) rfl ?_
 obtain ⟨sv', ps', e', hp', hs', hf'⟩ := HFAR.out
 injection e' with e'
 have e0 : sv' = .slice A6 ps.length c6 := by
  have := congrArg (fun a => a[0]?) e'
  simpa using this.symm
 subst e0
 refine ⟨_, rfl, ⟨_, ps', ?_, hp', hs', hf'⟩, HCL.out⟩
 show Value.agg _ = Value.agg #[_, .bool ((x.n.act e).2).up, .bool ((x.n.act e).2).down, .bool ((x.n.act e).2).start, .bool ((x.n.act e).2).done, .int .i64 0]
 rw [← HO1.out, ← HO2.out, ← HO3.out, ← HO4.out]
 rfl
end
theorem ya7 (c : Pure.Cfg) : c.rules.length ≤ 1000 := by
 unfold Pure.Cfg.rules
 cases c.server <;> cases c.pfc <;> cases c.acfc <;> by_cases h : c.mrru = 0 <;> simp [h]
section
variable {w : World} {k : LF} {R : Nat → Prop} {f : NF} {x : Pure.Lcp}
end
theorem y21.close {w0 W w' w'' : World} {k : LF} {R : Nat → Prop} {x : Pure.Lcp} {ro : Nat} (hB : y21 W w' k R x) (k0 : Keeps y01 w0 W) (K : Keeps (only ro) w' w'') (h0 : w0.heap.size ≤ ro) (hW : ro < W.heap.size) (hl : ro ≠ k.l) (hg : ro ≠ k.g) (hm : ro ≠ k.gm) (hR : ¬ R ro) : y21 w0 w'' k R x := by
 obtain ⟨f', R', h1, h2, h3⟩ := hB
 refine ⟨f', R', h1.keeps K (fun e => hl (by have e : k.l = ro := e; exact e.symm)) (fun e => hg (by have e : k.g = ro := e; exact e.symm)) (fun e => hm (by have e : k.gm = ro := e; exact e.symm)) (fun b hb e => ?_), fun b hb => ?_, ?_⟩
 ·have e : b = ro := e
  subst e
  rcases h2 _ hb with h | h
  ·exact hR h
  ·omega
 ·rcases h2 b hb with h | h
  ·exact .inl h
  ·exact .inr (Nat.le_trans k0.size h)
 ·exact ((k0.mono (fun _ e => e.elim)).trans h3).trans' K (fun i hi hl => by have e : i = ro := hi; omega)
theorem LOuts.close {w0 W w' w'' : World} {v : Value} {o : Pure.LSaid} {ro : Nat} (h : LOuts W w' v o) (K : Keeps (only ro) w' w'') (hs : w0.heap.size ≤ W.heap.size) (hW : ro < W.heap.size) : LOuts w0 w'' v o := by
 obtain ⟨sv, ps, h1, h2, h3, h4⟩ := h
 exact ⟨sv, ps, h1, (h2.keeps K (fun b hb e => by have e : b = ro := e; have := hb.1; omega)).mono (fun b hb => ⟨Nat.le_trans hs hb.1, Nat.lt_of_lt_of_le hb.2 K.size⟩), h3, h4⟩
section
variable {w : World} {k : LF} {R : Nat → Prop} {f : NF} {x : Pure.Lcp}
end
theorem lwithin_as (c : Pure.Cfg) (nm sc : ByteArray) (b1 b2 b3 b4 b5 b6 z1 z2 z3 : Bool) (h1 : (decide (64 ≤ c.mru) && decide (c.mru ≤ 1500)) = b1) (h2 : (decide (64 ≤ c.mrru) && decide (c.mrru ≤ 1500)) = b2) (h3 : (decide (c.bits = 40) || decide (c.bits = 56) || decide (c.bits = 128)) = b3) (h4 : (decide (1 ≤ c.timeout) && decide (c.timeout ≤ 1000)) = b4) (h5 : (decide (1 ≤ c.tries) && decide (c.tries ≤ 1000)) = b5) (h6 : (decide (16 ≤ c.fragment) && decide (c.fragment ≤ 1500)) = b6) (q1 : (c.mrru == 0) = z1) (q2 : (c.bits == 0) = z2) (q3 : (c.fragment == 0) = z3) (w : World) :
  Calls Tryz.prog 54 #[cfgV c nm sc] w fun e w' => e = .returned (.bool (b1 && (z1 || b2) && (z2 || b3) && b4 && b5 && (z3 || b6))) ∧ Keeps y01 w w' := by
 obtain ⟨cb, hcb⟩ : ∃ q, q = w.heap.size := ⟨_, rfl⟩
 obtain ⟨w1, hw1⟩ : ∃ q, q = w.alloc (.cells (y0g c nm sc).toArray 25) := ⟨_, rfl⟩
 have HK := xhd (show Keeps y01 w w1 by rw [hw1]; exact (Keeps.refl _ w).alloc _)
 have hC : Blk w1 cb 25 (y0g c nm sc).toArray := by rw [hw1, hcb]; exact Blk.new w _ _
 have c3 : w1.cell? ⟨cb, 3, none⟩ = some (.int .i64 c.mru) := by rw [hC.cell]; rfl
 have c7 : w1.cell? ⟨cb, 7, none⟩ = some (.int .i64 c.mrru) := by rw [hC.cell]; rfl
 have c9 : w1.cell? ⟨cb, 9, none⟩ = some (.int .i64 c.bits) := by rw [hC.cell]; rfl
 have c15 : w1.cell? ⟨cb, 15, none⟩ = some (.int .i64 c.timeout) := by rw [hC.cell]; rfl
 have c16 : w1.cell? ⟨cb, 16, none⟩ = some (.int .i64 c.tries) := by rw [hC.cell]; rfl
 have c17 : w1.cell? ⟨cb, 17, none⟩ = some (.int .i64 c.fragment) := by rw [hC.cell]; rfl
 have H1 := xhd (y1v c.mru 64 1500 w1)
 have H2 := xhd (y1v c.mrru 64 1500 w1)
 have H3 := xhd (y68 c.bits w1)
 have H4 := xhd (y1v c.timeout 1 1000 w1)
 have H5 := xhd (y1v c.tries 1 1000 w1)
 have H6 := xhd (y1v c.fragment 16 1500 w1)
 rw [h1] at H1
 rw [h2] at H2
 rw [h3] at H3
 rw [h4] at H4
 rw [h5] at H5
 rw [h6] at H6
 clear hC h1 h2 h3 h4 h5 h6
 go_enter Tryz.func54, Tryz.ntmps54
 go_upto_region 1 with fail
 rw [← hcb, ← hw1]
 clear hcb hw1
 go_wp2_with fail
 refine H1.out.mono ?_
 rintro e w2 ⟨rfl, rfl⟩
 cases b1
 ·go_wp2_with fail
  go_ret
  exact ⟨rfl, HK.out⟩
 ·cases z1
  ·go_wp2_with fail
   refine H2.out.mono ?_
   rintro e w2 ⟨rfl, rfl⟩
   cases b2
   ·go_wp2_with fail
    go_ret
    exact ⟨rfl, HK.out⟩
   ·cases z2
    ·go_wp2_with fail
     refine H3.out.mono ?_
     rintro e w2 ⟨rfl, rfl⟩
     cases b3
     ·go_wp2_with fail
      go_ret
      exact ⟨rfl, HK.out⟩
     ·go_wp2_with fail
      refine H4.out.mono ?_
      rintro e w2 ⟨rfl, rfl⟩
      cases b4
      ·go_wp2_with fail
       go_ret
       exact ⟨rfl, HK.out⟩
      ·go_wp2_with fail
       refine H5.out.mono ?_
       rintro e w2 ⟨rfl, rfl⟩
       cases b5
       ·go_wp2_with fail
        go_ret
        exact ⟨rfl, HK.out⟩
       ·cases z3
        ·go_wp2_with fail
         refine H6.out.mono ?_
         rintro e w2 ⟨rfl, rfl⟩
         cases b6
         ·go_wp2_with fail
          go_ret
          exact ⟨rfl, HK.out⟩
         ·go_wp2_with fail
          go_ret
          exact ⟨rfl, HK.out⟩
        ·go_wp2_with fail
         go_ret
         exact ⟨rfl, HK.out⟩
    ·go_wp2_with fail
     refine H4.out.mono ?_
     rintro e w2 ⟨rfl, rfl⟩
     cases b4
     ·go_wp2_with fail
      go_ret
      exact ⟨rfl, HK.out⟩
     ·go_wp2_with fail
      refine H5.out.mono ?_
      rintro e w2 ⟨rfl, rfl⟩
      cases b5
      ·go_wp2_with fail
       go_ret
       exact ⟨rfl, HK.out⟩
      ·cases z3
       ·go_wp2_with fail
        refine H6.out.mono ?_
        rintro e w2 ⟨rfl, rfl⟩
        cases b6
        ·go_wp2_with fail
         go_ret
         exact ⟨rfl, HK.out⟩
        ·go_wp2_with fail
         go_ret
         exact ⟨rfl, HK.out⟩
       ·go_wp2_with fail
        go_ret
        exact ⟨rfl, HK.out⟩
  ·cases z2
   ·go_wp2_with fail
    refine H3.out.mono ?_
    rintro e w2 ⟨rfl, rfl⟩
    cases b3
    ·go_wp2_with fail
     go_ret
     exact ⟨rfl, HK.out⟩
    ·go_wp2_with fail
     refine H4.out.mono ?_
     rintro e w2 ⟨rfl, rfl⟩
     cases b4
     ·go_wp2_with fail
      go_ret
      exact ⟨rfl, HK.out⟩
     ·go_wp2_with fail
      refine H5.out.mono ?_
      rintro e w2 ⟨rfl, rfl⟩
      cases b5
      ·go_wp2_with fail
       go_ret
       exact ⟨rfl, HK.out⟩
      ·cases z3
       ·go_wp2_with fail
        refine H6.out.mono ?_
        rintro e w2 ⟨rfl, rfl⟩
        cases b6
        ·go_wp2_with fail
         go_ret
         exact ⟨rfl, HK.out⟩
        ·go_wp2_with fail
         go_ret
         exact ⟨rfl, HK.out⟩
       ·go_wp2_with fail
        go_ret
        exact ⟨rfl, HK.out⟩
   ·go_wp2_with fail
    refine H4.out.mono ?_
    rintro e w2 ⟨rfl, rfl⟩
    cases b4
    ·go_wp2_with fail
     go_ret
     exact ⟨rfl, HK.out⟩
    ·go_wp2_with fail
     refine H5.out.mono ?_
     rintro e w2 ⟨rfl, rfl⟩
     cases b5
     ·go_wp2_with fail
      go_ret
      exact ⟨rfl, HK.out⟩
     ·cases z3
      ·go_wp2_with fail
       refine H6.out.mono ?_
       rintro e w2 ⟨rfl, rfl⟩
       cases b6
       ·go_wp2_with fail
        go_ret
        exact ⟨rfl, HK.out⟩
       ·go_wp2_with fail
        go_ret
        exact ⟨rfl, HK.out⟩
      ·go_wp2_with fail
       go_ret
       exact ⟨rfl, HK.out⟩
theorem y69 (c : Pure.Cfg) (nm sc : ByteArray) (z1 z2 z3 : Bool) (q1 : (c.mrru == 0) = z1) (q2 : (c.bits == 0) = z2) (q3 : (c.fragment == 0) = z3) (w : World) :
  Calls Tryz.prog 55 #[cfgV c nm sc] w fun e w' => e = .returned (.bool ((z3 || !z1) && (!(c.must || c.stateless || c.symbol) || !z2))) ∧ Keeps y01 w w' := by
 obtain ⟨cb, hcb⟩ : ∃ q, q = w.heap.size := ⟨_, rfl⟩
 obtain ⟨w1, hw1⟩ : ∃ q, q = w.alloc (.cells (y0g c nm sc).toArray 25) := ⟨_, rfl⟩
 have HK := xhd (show Keeps y01 w w1 by rw [hw1]; exact (Keeps.refl _ w).alloc _)
 have hC : Blk w1 cb 25 (y0g c nm sc).toArray := by rw [hw1, hcb]; exact Blk.new w _ _
 have c7 : w1.cell? ⟨cb, 7, none⟩ = some (.int .i64 c.mrru) := by rw [hC.cell]; rfl
 have c9 : w1.cell? ⟨cb, 9, none⟩ = some (.int .i64 c.bits) := by rw [hC.cell]; rfl
 have c17 : w1.cell? ⟨cb, 17, none⟩ = some (.int .i64 c.fragment) := by rw [hC.cell]; rfl
 have c13 : w1.cell? ⟨cb, 13, none⟩ = some (.bool c.must) := by rw [hC.cell]; rfl
 have c10 : w1.cell? ⟨cb, 10, none⟩ = some (.bool c.stateless) := by rw [hC.cell]; rfl
 have c14 : w1.cell? ⟨cb, 14, none⟩ = some (.bool c.symbol) := by rw [hC.cell]; rfl
 have n1 : (c.mrru != 0) = !z1 := by rw [← q1]; rfl
 have n2 : (c.bits != 0) = !z2 := by rw [← q2]; rfl
 generalize c.must = m1 at *
 generalize c.stateless = m2 at *
 generalize c.symbol = m3 at *
 clear hC q1 q2
 go_enter Tryz.func55, Tryz.ntmps55
 go_upto_region 1 with fail
 rw [← hcb, ← hw1]
 clear hcb hw1
 cases m1 <;> cases m2 <;> cases m3 <;> cases z3 <;> cases z1 <;> cases z2
 all_goals
  go_wp2_with fail
  go_ret
  exact ⟨rfl, HK.out⟩
theorem y7b (c : Pure.Cfg) : c.fine = (((decide (64 ≤ c.mru) && decide (c.mru ≤ 1500)) && ((c.mrru == 0) || (decide (64 ≤ c.mrru) && decide (c.mrru ≤ 1500))) && ((c.bits == 0) || (decide (c.bits = 40) || decide (c.bits = 56) || decide (c.bits = 128))) && (decide (1 ≤ c.timeout) && decide (c.timeout ≤ 1000)) && (decide (1 ≤ c.tries) && decide (c.tries ≤ 1000)) && ((c.fragment == 0) || (decide (16 ≤ c.fragment) && decide (c.fragment ≤ 1500)))) && (((c.fragment == 0) || !(c.mrru == 0)) && (!(c.must || c.stateless || c.symbol) || !(c.bits == 0)))) := by
 unfold Pure.Cfg.fine Pure.inInfo
 generalize (c.must || c.stateless || c.symbol) = m
 rw [Bool.eq_iff_iff]
 cases m
 ·simp only [Bool.and_eq_true, Bool.or_eq_true, decide_eq_true_eq, beq_iff_eq, Bool.not_eq_true', beq_eq_false_iff_ne, Bool.not_false, ne_eq, true_or, or_true, and_true]
  omega
 ·simp only [Bool.and_eq_true, Bool.or_eq_true, decide_eq_true_eq, beq_iff_eq, Bool.not_eq_true', beq_eq_false_iff_ne, Bool.not_true, ne_eq, Bool.false_eq_true, or_false, false_or]
  omega
theorem y19 : (Tryz.prog.info? 25).map (·.size) = some 18 := by kernel_rfl
theorem hash_code (l : List UInt8) : (Pure.hash l).1 = (Pure.secret l).1 := by
 by_cases h : (Pure.secret l).1 = 0
 ·rw [Pure.hash_ok h, h]
 ·rw [Pure.hash_bad h]
theorem y51 {P : Program} {ops : Array Oper} {rest : List Oper} {op : Oper} {a : Act} {w : World} {Q : Exit → Act → World → Prop} (hgw : Region.wanted op (yielded ops a.tmps) = true) (ty : TypeId) (x : Operand) (ho : op.op = .load ty x)
  (b o : Nat) (hx : a.eval x = .pointer (some ⟨b, o, none⟩)) (cs : List Value) (V : Value) (hV : V = .agg cs.toArray) (d : TypeDesc) (hc : w.rangeAt b o cs)
  (hu : P.underlying ty = some d) (hd : d.isRow = true) (hi : (P.info? ty).map (·.size) = some cs.length)
  (h : wpList P ops Q rest (a.put op.dst V) w) : wpList P ops Q (op :: rest) a w := by
 subst hV
 exact wpList_step fun K hK => by rw [if_pos hgw]; exact wp_load_mid ty x ho b o hx cs d hc hu hd hi (hK _ _ h)
theorem lcheck_any (c : Pure.Cfg) (nm sc : ByteArray) (hn : nm.data.toList = c.name) (hs : sc.data.toList = c.secret) (hl : c.secret.length ≤ 1000000) (w : World) (E : Env w) :
  Calls Tryz.prog 16 #[cfgV c nm sc] w fun e w' => e = .returned (.int .i64 (c.check : Int)) ∧ Keeps y01 w w' := by
 obtain ⟨cb, hcb⟩ : ∃ q, q = w.heap.size := ⟨_, rfl⟩
 obtain ⟨w1, hw1⟩ : ∃ q, q = w.alloc (.cells (y0g c nm sc).toArray 25) := ⟨_, rfl⟩
 have hk1 : Keeps y01 w w1 := by rw [hw1]; exact (Keeps.refl _ w).alloc _
 have hC : Blk w1 cb 25 (y0g c nm sc).toArray := by rw [hw1, hcb]; exact Blk.new w _ _
 have c1 : w1.cell? ⟨cb, 1, none⟩ = some (.string nm) := by rw [hC.cell]; rfl
 have c2 : w1.cell? ⟨cb, 2, none⟩ = some (.string sc) := by rw [hC.cell]; rfl
 have hsz : nm.size = c.name.length := by rw [← hn]; rfl
 have HA := xhd (hash_any sc c.secret hs hl w1 (E.below hk1.to_below))
 rw [hash_code] at HA
 have HC := xhd hC
 have HK := xhd hk1
 obtain ⟨CK, hCK⟩ : ∃ q, q = c.check := ⟨_, rfl⟩
 rw [← hCK]
 have HCK := xhd hCK
 clear hn hs hl hk1 hC hCK E
 go_enter Tryz.func16, Tryz.ntmps16
 go_upto_region 1 with fail
 rw [← hcb, ← hw1]
 clear hcb hw1
 obtain ⟨CV, hCV⟩ : ∃ q, q = cfgV c nm sc := ⟨_, rfl⟩
 rw [← hCV]
 have HCV := xhd hCV
 clear hCV
 by_cases h1 : 64 < c.name.length
 ·have d1 : decide ((64 : Int) < (nm.size : Int)) = true := decide_eq_true (by rw [hsz]; omega)
  have d2 : decide (64 < nm.size) = true := decide_eq_true (by rw [hsz]; exact h1)
  have HE := xhd (show CK = 3 from HCK.out.trans (if_pos h1))
  clear h1 hsz
  go_wp2_with fail
  go_ret
  exact ⟨by rw [HE.out]; rfl, HK.out⟩
 have d1 : decide ((64 : Int) < (nm.size : Int)) = false := decide_eq_false (by rw [hsz]; omega)
 have d2 : decide (64 < nm.size) = false := decide_eq_false (by rw [hsz]; exact h1)
 have H1 := xhd h1
 clear h1 hsz
 go_wp2_with fail
 refine HA.out.mono ?_
 rintro e w2 ⟨v, rfl, hown, hbel⟩
 obtain ⟨A2, c22, rfl⟩ := y07 hown
 have hk2 : Keeps y01 w1 w2 := Keeps.new hbel
 have hC2 := HC.out.keeps hk2 (fun e => e)
 have HK2 := xhd (HK.out.trans hk2)
 have HC2 := xhd hC2
 obtain ⟨kk, hkk⟩ : ∃ q, q = (Pure.secret c.secret).1 := ⟨_, rfl⟩
 rw [← hkk]
 have HKK := xhd hkk
 clear hown hbel hk2 hC2 hkk c1 c2
 by_cases h0 : kk = 0
 case neg =>
  have qn : (((kk : Nat) : Int) != 0) = true := by rw [bne_iff_ne]; omega
  have HE := xhd (show CK = kk from HCK.out.trans ((if_neg H1.out).trans ((if_pos (by rw [← HKK.out]; exact h0)).trans HKK.out.symm)))
  clear h0
  go_wp2_with fail
  go_ret
  exact ⟨by rw [HE.out]; rfl, HK2.out⟩
 case pos =>
  subst h0
  have HE := xhd (show CK = if c.fine then 0 else 1 from HCK.out.trans ((if_neg H1.out).trans (if_neg (by rw [← HKK.out]; decide))))
  obtain ⟨f1, hf1⟩ : ∃ b, b = ((decide (64 ≤ c.mru) && decide (c.mru ≤ 1500)) && ((c.mrru == 0) || (decide (64 ≤ c.mrru) && decide (c.mrru ≤ 1500))) && ((c.bits == 0) || (decide (c.bits = 40) || decide (c.bits = 56) || decide (c.bits = 128))) && (decide (1 ≤ c.timeout) && decide (c.timeout ≤ 1000)) && (decide (1 ≤ c.tries) && decide (c.tries ≤ 1000)) && ((c.fragment == 0) || (decide (16 ≤ c.fragment) && decide (c.fragment ≤ 1500)))) := ⟨_, rfl⟩
  obtain ⟨f2, hf2⟩ : ∃ b, b = (((c.fragment == 0) || !(c.mrru == 0)) && (!(c.must || c.stateless || c.symbol) || !(c.bits == 0))) := ⟨_, rfl⟩
  have HFF := xhd (show c.fine = (f1 && f2) by rw [hf1, hf2]; exact y7b c)
  have hwi := lwithin_as c nm sc _ _ _ _ _ _ _ _ _ rfl rfl rfl rfl rfl rfl rfl rfl rfl w2
  rw [← hf1, ← HCV.out] at hwi
  have HWI := xhd hwi
  have HCO := xhd (fun W => y69 c nm sc _ _ _ rfl rfl rfl W)
  rw [← hf2, ← HCV.out] at HCO
  clear hf1 hf2 hwi
  go_upto_region 6 with fail
  refine wp_region_list ?_
  refine wpList_load_mid rfl 25 (.tmp 1) rfl cb 0 rfl (y0g c nm sc) _ (fun j v hv => by rw [Nat.zero_add, HC2.out.cell, List.getElem?_toArray]; exact hv) Tryz.underlying25 rfl y19 ?_
  rw [show Value.agg (y0g c nm sc).toArray = CV from HCV.out.symm]
  go_wp2_with fail
  refine HWI.out.mono ?_
  rintro e w3 ⟨rfl, hk3⟩
  have HK3 := xhd (HK2.out.trans hk3)
  have HC3 := xhd (HC2.out.keeps hk3 (fun e => e))
  clear hk3
  cases f1
  ·have HE2 := xhd (show CK = 1 by rw [HE.out, HFF.out]; rfl)
   go_wp2_with fail
   go_ret
   exact ⟨by rw [HE2.out]; rfl, HK3.out⟩
  ·have hco := HCO.out w3
   go_wp2_with (refine y51 (by rfl) 25 (.tmp 1) rfl cb 0 rfl (y0g c nm sc) CV HCV.out _ (fun j v hv => by rw [Nat.zero_add, HC3.out.cell, List.getElem?_toArray]; exact hv) Tryz.underlying25 rfl y19 ?_)
   refine hco.mono ?_
   rintro e w4 ⟨rfl, hk4⟩
   have HK4 := xhd (HK3.out.trans hk4)
   clear hk4 hco
   cases f2
   ·have HE2 := xhd (show CK = 1 by rw [HE.out, HFF.out]; rfl)
    go_wp2_with fail
    go_ret
    exact ⟨by rw [HE2.out]; rfl, HK4.out⟩
   ·have HE2 := xhd (show CK = 0 by rw [HE.out, HFF.out]; rfl)
    go_wp2_with fail
    go_ret
    exact ⟨by rw [HE2.out]; rfl, HK4.out⟩
section
variable {w : World} {k : LF} {R : Nat → Prop} {f : NF} {x : Pure.Lcp}
end
theorem newneg_any (Fu Fx : Nat → Prop) (xu x : Value) (us : List (Value × Pure.Rule)) (zs : List (Value × Pure.Opt)) (t u : Nat) (w : World) (hu : RRow w Fu xu us) (hx : ORow w Fx x zs) (hF : ∀ b, Fx b → b < w.heap.size) (hfu : FewRules us) (hfx : Pure.Fine (y02 zs)) (hm : y2m t u) :
  Calls Tryz.prog 66 #[xu, x, .int .i64 (t : Int), .int .i64 (u : Int)] w fun e w' => ∃ g f R, e = .returned (.tuple #[.pointer (some ⟨g, 0, none⟩), .int .i64 0]) ∧ NObj w' g R f (Pure.newNeg (y09 us) (y02 zs) t u) ∧ w.heap.size ≤ g ∧ (w.heap.size ≤ f.gm ∧ f.gm.j = y3u g) ∧ (∀ b, R b → w.heap.size ≤ b) ∧ Keeps y01 w w' := by
 obtain ⟨X, cx, rfl, _⟩ := hx.form
 obtain ⟨U, cu, rfl, _⟩ := hu.form
 have HX := xhd hx
 have HU := xhd hu
 have HF := xhd hF
 have HFU := xhd hfu
 have HFX := xhd hfx
 have HMB := xhd hm
 have HN := xhd (new_ok t u w hm)
 have hzl := hfx.len
 have hzl2 : zs.length ≤ 32 := by simpa using hzl
 clear hu hx hF hfu hfx hm hzl
 go_enter Tryz.func66, Tryz.ntmps66
 go_wp2_with fail
 refine HN.out.mono ?_
 rintro e w1 ⟨rfl, hm1, hk1⟩
 obtain ⟨gm, hgm⟩ : ∃ q, q = w.heap.size := ⟨_, rfl⟩
 rw [← hgm] at hm1 ⊢
 have HM1 := xhd hm1
 have HK1 := xhd hk1
 have HGM := xhd hgm
 have HIR := xhd (y7c Fx (.slice X zs.length cx) zs w1 (fun b hb => Nat.lt_of_lt_of_le (HF.out b hb) hk1.size) (HX.out.keeps hk1 (fun _ _ h => h)))
 have HD := decide_eq_true (show (Pure.options (y02 zs)).1 = 0 from Pure.fine_options HFX.out)
 rw [HD] at HIR
 clear hm1 hk1 hgm HN HD
 go_wp2_with fail
 refine HIR.out.mono ?_
 rintro e w2 ⟨rfl, hk2⟩
 have HM2 := xhd (HM1.out.keeps hk2 (fun h => h))
 have HK2 := xhd (HK1.out.trans hk2)
 have HCR := xhd (y3z Fu (.slice U us.length cu) us w2 (HU.out.keeps HK2.out (fun _ _ h => h)) HFU.out)
 clear hk2 HIR HM1
 go_wp2_with fail
 refine HCR.out.mono ?_
 rintro e w3 ⟨u3, q3, rfl, hq3, hr3⟩
 obtain ⟨A3, c3, rfl⟩ := y07 hr3.own
 have HQ3 := xhd hq3
 have HR3 := xhd hr3.row
 have HM3 := xhd (HM2.out.keeps hr3.kept (fun h => h))
 have HK3 := xhd (HK2.out.trans hr3.kept)
 have HS23 := xhd hr3.kept.size
 have HGW2 := xhd (show gm < w2.heap.size from Blk.lt HM2.out)
 have HCP := xhd (y2d Fx (.slice X zs.length cx) zs w3 (HX.out.keeps HK3.out (fun _ _ h => h)) (by omega) (y1m HFX.out).data)
 clear hq3 hr3 HCR
 go_wp2_with fail
 refine HCP.out.mono ?_
 rintro e w4 ⟨u4, q4, rfl, hq4, hr4⟩
 obtain ⟨A4, c4, rfl⟩ := y07 hr4.own
 have hk34 : Keeps y01 w3 w4 := Keeps.new hr4.below
 have HQ4 := xhd hq4
 have HR4 := xhd hr4.row.strong
 have HR3b := xhd (HR3.out.keeps hk34 (fun _ _ h => h))
 have HM4 := xhd (HM3.out.keeps hk34 (fun h => h))
 have HK4 := xhd (HK3.out.trans hk34)
 have HS34 := xhd hk34.size
 clear hq4 hr4 hk34 HCP HR3
 go_upto_region 7 with fail
 obtain ⟨w5a, hw5a⟩ : ∃ q, q = w4.alloc (.cells #[.pointer (some ⟨gm, 0, none⟩), .slice A3 q3.length c3, .nilFunc, .int .i64 (t : Int), .slice A4 q4.length c4, .slice none 0 0, .int .i64 0, .slice none 0 0, .bool false, .int .i64 0, .int .i64 0, .slice none 0 0, .slice none 0 0, .int .i64 0] 171) := ⟨_, rfl⟩
 obtain ⟨g, hg⟩ : ∃ q, q = w4.heap.size := ⟨_, rfl⟩
 rw [← hw5a, ← hg]
 have hk5a : Keeps y01 w4 w5a := by rw [hw5a]; exact (Keeps.refl _ w4).alloc _
 have hs5a : w5a.heap.size = g + 1 := by rw [hw5a, hg]; simp
 have hB5a : Blk w5a g 171 (⟨⟨gm, .nilFunc⟩, .slice A3 q3.length c3, t, .slice A4 q4.length c4, .slice none 0 0, 0, .slice none 0 0, false, 0, 0, .slice none 0 0, .slice none 0 0, 0⟩ : NF).list.toArray := by
  rw [hw5a, hg]
  exact Blk.new w4 _ _
 have c2 : w5a.cell? ⟨g, 2, none⟩ = some .nilFunc := by rw [hB5a.cell]; rfl
 have f2 := hB5a.frozen 2
 obtain ⟨w5, hw5⟩ : ∃ q, q = w5a.setCell ⟨g, 2, none⟩ (y3u g) := ⟨_, rfl⟩
 have hk5 : Keeps y01 w4 w5 := by rw [hw5]; exact hk5a.trans' ((Keeps.refl (only g) w5a).put 2 _) (fun i hi hl => by have e : i = g := hi; omega)
 have hs5 : w5.heap.size = g + 1 := by rw [hw5]; simp [hs5a]
 have HB5 := xhd (show NBlk w5 g (⟨⟨gm, y3u g⟩, .slice A3 q3.length c3, t, .slice A4 q4.length c4, .slice none 0 0, 0, .slice none 0 0, false, 0, 0, .slice none 0 0, .slice none 0 0, 0⟩ : NF) by
  rw [hw5]
  exact hB5a.set 2 (y3u g))
 clear hk5a hs5a hB5a hw5a
 have HM5 := xhd (HM4.out.keeps hk5 (fun h => h))
 have HR35 := xhd (HR3b.out.keeps hk5 (fun _ _ h => h))
 have HR45 := xhd (HR4.out.keeps hk5 (fun _ _ h => h))
 have HK5 := xhd (HK4.out.trans hk5)
 have HG := xhd hg
 have HS5 := xhd hs5
 have hl4 : q4.length = zs.length := by have := congrArg List.length HQ4.out; simpa using this
 have HF4 := xhd (y1m (zs := q4) (by rw [HQ4.out]; exact HFX.out))
 have HBG := xhd (y3d (fun b => w3.heap.size ≤ b ∧ b < w4.heap.size) g _ q4 w5 HB5.out HR45.out HF4.out)
 clear hg hk5 hs5 HM4 HR3b HR4 hl4
 go_upto_region 8 with fail
 rw [← hw5]
 clear hw5 c2 f2
 go_wp2_with fail
 refine HBG.out.mono ?_
 rintro e w6 ⟨rfl, u6, q6, hq6, hr6, hb6, hk6⟩
 obtain ⟨B6, c6, rfl, _⟩ := hr6.form
 have hg6 : g < w5.heap.size := HB5.out.lt
 have hgm6 : gm < w2.heap.size := HGW2.out
 have HOBJ := xhd (show NObj w6 g (fun b => w2.heap.size ≤ b ∧ b < w6.heap.size ∧ b ≠ g) _ (Pure.newNeg (y09 us) (y02 zs) t u) from by
  have hks : ∀ b, b ≠ g → ¬ only g b := fun b hb e => hb e
  have hw := hk6.size
  have hS5 := HS5.out
  have hG := HG.out
  have h34 := HS34.out
  have h23 := HS23.out
  have hmb := HMB.out
  unfold y2m at hmb
  have hW : (Pure.newNeg (y09 us) (y02 zs) t u).Well := ⟨Pure.newMach_good (by omega) (by omega), by show t ≤ 1000; omega, by show u ≤ 1000; omega, by show 0 < 256; omega, HFX.out, HFX.out, Pure.fine_nil, rfl⟩
  refine ⟨hb6, HM5.out.keeps hk6 (fun e => by have e : gm = g := e; omega), hW, rfl, rfl, rfl, rfl, rfl, rfl, ⟨q3, ?_, HQ3.out, ?_⟩, ?_, ?_, ?_, ?_, ?_, fun b hb => hb.2.1, fun h => h.2.2 rfl, fun h => by have h1 : w2.heap.size ≤ gm := h.1; omega, by show g ≠ gm; omega⟩
  ·exact (HR35.out.keeps hk6 (fun b hb e => by have e : b = g := e; have := hb.2; omega)).mono (fun b hb => ⟨by rcases hb.1 with h | h <;> exact h, by have := hb.2; omega, by have := hb.2; omega⟩)
  ·refine ⟨?_, fun p hp => ?_⟩
   ·have := congrArg List.length HQ3.out
    simp at this
    rw [this]; exact HFU.out.len
   ·have h1 : p.2 ∈ y09 us := by rw [← HQ3.out]; exact List.mem_map.2 ⟨p, hp, rfl⟩
    obtain ⟨q, hq, he⟩ := List.mem_map.1 h1
    rw [← he]
    exact HFU.out.ok q hq
  ·exact ⟨q4, (HR45.out.keeps hk6 (fun b hb e => by have e : b = g := e; have := hb.2; omega)).mono (fun b hb => ⟨by have := hb.1; omega, by have := hb.2; omega, by have := hb.2; omega⟩), HQ4.out, HF4.out⟩
  ·refine ⟨q6, hr6.strong.mono (fun b hb => ⟨by have := hb.1; omega, hb.2, by have := hb.1; omega⟩), hq6.trans HQ4.out, y1m ?_⟩
   rw [hq6, HQ4.out]; exact HFX.out
  ·exact ⟨[], ORow.nil _ _, rfl, by simp, by simp⟩
  ·exact ⟨[], ORow.nil _ _, rfl, by simp, by simp⟩
  ·exact ⟨[], ORow.nil _ _, rfl, by simp, by simp⟩)
 have HKF := xhd (show Keeps y01 w w6 from HK5.out.trans' hk6 (fun i hi hl => by have e : i = g := hi; have := HG.out; have := HK4.out.size; omega))
 have HGW := xhd (show w.heap.size ≤ g by have := HG.out; have := HK4.out.size; omega)
 have HMW := xhd (show w.heap.size ≤ gm by have := HGM.out; omega)
 have HRW := xhd (show ∀ b, (w2.heap.size ≤ b ∧ b < w6.heap.size ∧ b ≠ g) → w.heap.size ≤ b from fun b hb => Nat.le_trans HK2.out.size hb.1)
 clear hq6 hr6 hb6 hk6 hg6 hgm6 HBG
 go_wp2_with fail
 go_ret2
 exact ⟨g, _, _, rfl, HOBJ.out, HGW.out, ⟨HMW.out, rfl⟩, HRW.out, HKF.out⟩
end Go.Proofs.YtmgicbckgpdkcaaGreatDoor
