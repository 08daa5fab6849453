/- Package lcp: Rules. -/
import Derived.Test.YtmgicbckgpdkcaaGreatDoorQ28
import Derived.Test.YtmgicbckgpdkcaaGreatDoorQ29
import Derived.Test.YtmgicbckgpdkcaaGreatDoorQ27
import Derived.Test.YtmgicbckgpdkcaaGreatDoorQ26
namespace Go.Proofs.YtmgicbckgpdkcaaGreatDoor
set_option maxRecDepth 100000
set_option maxHeartbeats 8000000
open _root_.Go.Lib renaming hid → xhd
open Go.RowKit
theorem run_data (t : Int) (v : Value) (w : World) : (Instr.field 31 (.agg #[.int .i64 t, v]) 1).run Tryz.prog w = .ok v w := by kernel_rfl
theorem allow1_rule (b : Bool) (k : Int) (r : Pure.Rule) (D : Value) (L : List Pure.Rule) (hL : L = if b then [{ r with type := k, len := (Pure.psize k : Int) }] else []) (w0 : World) (lb : Nat) (P : Nat → Prop) (v : Value) (us : List (Value × Pure.Rule)) (w : World) (h : RVar w0 w lb P v us) (hq : us.length ≤ 100) (hone : D.oneCell' = true) (hD : Row w (fun b => P b) 1 D r.want.length (u8s r.want)) :
  Calls Tryz.prog 113 #[.bool b, .int .i64 k, ruleV (D, r), .pointer (some ⟨lb, 0, none⟩)] w fun e w' => e = .returned (.tuple #[]) ∧ ∃ v' us', RVar w0 w' lb P v' us' ∧ rulesOf us' = rulesOf us ++ L ∧ us'.length ≤ us.length + 1 ∧ Keeps (fun i => w0.heap.size ≤ i ∧ ¬ P i) w w' := by
 rw [hL]
 exact allow1_any b k r D w0 lb P v us w h hq hone hD
theorem lrules_any (c : Pure.Cfg) (nm sc : ByteArray) (w : World) :
  Calls Tryz.prog 64 #[cfgV c nm sc] w fun e w' => ∃ v, ∃ us : List (Value × Pure.Rule), e = .returned v ∧ rulesOf us = c.rules ∧ RRead w w' (fun b => w.heap.size ≤ b) v us := by
 obtain ⟨cb, hcb⟩ : ∃ q, q = w.heap.size := ⟨_, rfl⟩
 obtain ⟨w1, hw1⟩ : ∃ q, q = ((((w.alloc (.cells (cfgCells c nm sc).toArray 25)).alloc (.cells #[.slice none 0 0] 118)).alloc (.cells #[.int .i64 0, .int .i64 0, .int .i64 1, .int .i64 0, .int .i64 0, .slice none 0 0, .bool false] 122)).alloc (.cells #[.int .i64 0, .int .i64 0, .int .i64 2, .int .i64 64, .int .i64 1500, .slice none 0 0, .bool false] 122)) := ⟨_, rfl⟩
 have hk1 : Keeps nobody w w1 := by rw [hw1]; exact ((((Keeps.refl _ w).alloc _).alloc _).alloc _).alloc _
 have hs1 : w1.heap.size = cb + 4 := by rw [hw1, hcb]; simp
 have hC : Blk w1 cb 25 (cfgCells c nm sc).toArray := by rw [hw1, hcb]; exact (((Blk.new w _ _).alloc _).alloc _).alloc _
 have hL : Blk w1 (cb + 1) 118 #[.slice none 0 0] := by
  rw [hw1, show cb + 1 = (w.alloc (.cells (cfgCells c nm sc).toArray 25)).heap.size by rw [hcb]; simp]
  exact ((Blk.new _ _ _).alloc _).alloc _
 have hF : Blk w1 (cb + 1 + 1) 122 #[.int .i64 0, .int .i64 0, .int .i64 1, .int .i64 0, .int .i64 0, .slice none 0 0, .bool false] := by
  rw [hw1, show cb + 1 + 1 = ((w.alloc (.cells (cfgCells c nm sc).toArray 25)).alloc (.cells #[.slice none 0 0] 118)).heap.size by rw [hcb]; simp]
  exact (Blk.new _ _ _).alloc _
 have hU : Blk w1 (cb + 1 + 1 + 1) 122 #[.int .i64 0, .int .i64 0, .int .i64 2, .int .i64 64, .int .i64 1500, .slice none 0 0, .bool false] := by
  rw [hw1, show cb + 1 + 1 + 1 = (((w.alloc (.cells (cfgCells c nm sc).toArray 25)).alloc (.cells #[.slice none 0 0] 118)).alloc (.cells #[.int .i64 0, .int .i64 0, .int .i64 1, .int .i64 0, .int .i64 0, .slice none 0 0, .bool false] 122)).heap.size by rw [hcb]; simp]
  exact Blk.new _ _ _
 have HOP := xhd (show Calls Tryz.prog 52 #[.int .i64 3, .int .i64 12723073] w1 fun e w' => ∃ A c, e = .returned (.agg #[.int .i64 3, .slice A 3 c]) ∧ Row w' (fun b => w1.heap.size ≤ b) 1 (.slice A 3 c) 3 (u8s Pure.proofData) ∧ Keeps nobody w1 w' from loption_any 3 12723073 (by decide) w1)
 have HC1 := xhd hC
 have HL1 := xhd hL
 have HF1 := xhd hF
 have HU1 := xhd hU
 have HK1 := xhd hk1
 have HS1 := xhd hs1
 have HCB := xhd hcb
 clear hk1 hs1 hC hL hF hU
 go_enter Tryz.func64, Tryz.ntmps64
 go_upto_region 5 with fail
 rw [← hcb, ← hw1]
 clear hw1 hcb
 go_wp2_with fail
 refine HOP.out.mono ?_
 rintro e w2 ⟨AD, cD, rfl, hD, hk2⟩
 have hsz2 := hk2.size
 have hfld := run_data 3 (.slice AD 3 cD) w2
 go_upto_region 6 with fail
 obtain ⟨pb, hpb⟩ : ∃ q, q = w2.heap.size := ⟨_, rfl⟩
 obtain ⟨wa, hwa⟩ : ∃ q, q = w2.alloc (.cells #[.int .i64 0, .int .i64 0, .int .i64 3, .int .i64 0, .int .i64 0, .slice AD 3 cD, .bool true] 122) := ⟨_, rfl⟩
 rw [← hpb, ← hwa]
 have hka : Keeps nobody w2 wa := by rw [hwa]; exact (Keeps.refl _ w2).alloc _
 have hsa : wa.heap.size = pb + 1 := by rw [hwa, hpb]; simp
 have HPa := xhd (show Blk wa pb 122 #[.int .i64 0, .int .i64 0, .int .i64 3, .int .i64 0, .int .i64 0, .slice AD 3 cD, .bool true] by rw [hwa, hpb]; exact Blk.new w2 _ _)
 have hk2a := hk2.trans hka
 have HCa := xhd (HC1.out.keeps hk2a (fun e => e))
 have HFa := xhd (HF1.out.keeps hk2a (fun e => e))
 have HUa := xhd (HU1.out.keeps hk2a (fun e => e))
 obtain ⟨P, hP⟩ : ∃ P : Nat → Prop, P = fun b => b = cb ∨ b = cb + 1 + 1 ∨ b = cb + 1 + 1 + 1 ∨ b = pb ∨ (w1.heap.size ≤ b ∧ b < pb) := ⟨_, rfl⟩
 have HPC := xhd (show P cb by rw [hP]; exact .inl rfl)
 have HPF := xhd (show P (cb + 1 + 1) by rw [hP]; exact .inr (.inl rfl))
 have HPU := xhd (show P (cb + 1 + 1 + 1) by rw [hP]; exact .inr (.inr (.inl rfl)))
 have HPP := xhd (show P pb by rw [hP]; exact .inr (.inr (.inr (.inl rfl))))
 have HPG := xhd (show ∀ b, P b → w.heap.size ≤ b from fun b hb => by
  rw [hP] at hb
  have h1 := HCB.out
  have h2 := HS1.out
  rcases hb with h | h | h | h | h <;> omega)
 have HDa := xhd (show Row wa (fun b => P b) 1 (.slice AD 3 cD) (Pure.proofRule).want.length (u8s (Pure.proofRule).want) from ((hD.strongN (by omega)).keeps hka (fun _ _ e => e)).mono (fun b hb => by rw [hP]; exact .inr (.inr (.inr (.inr ⟨hb.1, by omega⟩)))))
 have HAa := xhd (show RVar w wa (cb + 1) P (.slice none 0 0) [] from ⟨⟨World.ownsRow_nil _ _ _ _, by simp, HK1.out.trans hk2a⟩, fun b e => (by cases e), by have := HCB.out; omega, fun b hb => by
  rw [hP] at hb
  have h2 := HS1.out
  rcases hb with h | h | h | h | h <;> omega, HL1.out.keeps hk2a (fun e => e)⟩)
 clear hfld hD hk2 hsz2 hpb hwa hka hsa hk2a hP HC1 HL1 HF1 HU1 HOP
 have hq1 := allow1_rule true 1 ⟨0, 0, 2, 64, 1500, [], false⟩ (.slice none 0 0) [Pure.rangeOf 1] (rfl) w (cb + 1) P _ [] wa HAa.out (by simp) rfl (Row.nil _ _ _)
 have r0 : wa.cell? ⟨cb + 1 + 1 + 1, 0, none⟩ = some (.int .i64 0) := by rw [HUa.out.cell]; rfl
 have r1 : wa.cell? ⟨cb + 1 + 1 + 1, 1, none⟩ = some (.int .i64 0) := by rw [HUa.out.cell]; rfl
 have r2 : wa.cell? ⟨cb + 1 + 1 + 1, 2, none⟩ = some (.int .i64 2) := by rw [HUa.out.cell]; rfl
 have r3 : wa.cell? ⟨cb + 1 + 1 + 1, 3, none⟩ = some (.int .i64 64) := by rw [HUa.out.cell]; rfl
 have r4 : wa.cell? ⟨cb + 1 + 1 + 1, 4, none⟩ = some (.int .i64 1500) := by rw [HUa.out.cell]; rfl
 have r5 : wa.cell? ⟨cb + 1 + 1 + 1, 5, none⟩ = some (.slice none 0 0) := by rw [HUa.out.cell]; rfl
 have r6 : wa.cell? ⟨cb + 1 + 1 + 1, 6, none⟩ = some (.bool false) := by rw [HUa.out.cell]; rfl
 go_wp2_with fail
 refine hq1.mono ?_
 rintro e x1 ⟨rfl, v1, q1, ha1, he1, hn1, hk1⟩
 have HA1 := xhd ha1
 have HE1 := xhd he1
 have HN1 := xhd (show q1.length ≤ 1 from (by simpa using hn1))
 have HC1 := xhd (HCa.out.keeps hk1 (fun e => e.2 HPC.out))
 have HF1 := xhd (HFa.out.keeps hk1 (fun e => e.2 HPF.out))
 have HU1 := xhd (HUa.out.keeps hk1 (fun e => e.2 HPU.out))
 have HP1 := xhd (HPa.out.keeps hk1 (fun e => e.2 HPP.out))
 have HD1 := xhd (HDa.out.keeps hk1 (fun b hb e => e.2 hb))
 clear ha1 he1 hn1 hk1 hq1  r0 r1 r2 r3 r4 r5 r6 HAa HCa HFa HUa HPa HDa
 have hq2 := allow1_rule true 2 ⟨0, 0, 1, 0, 0, [], false⟩ (.slice none 0 0) [Pure.passOf 2 4] (rfl) w (cb + 1) P _ q1 x1 HA1.out (by have := HN1.out; omega) rfl (Row.nil _ _ _)
 have r0 : x1.cell? ⟨cb + 1 + 1, 0, none⟩ = some (.int .i64 0) := by rw [HF1.out.cell]; rfl
 have r1 : x1.cell? ⟨cb + 1 + 1, 1, none⟩ = some (.int .i64 0) := by rw [HF1.out.cell]; rfl
 have r2 : x1.cell? ⟨cb + 1 + 1, 2, none⟩ = some (.int .i64 1) := by rw [HF1.out.cell]; rfl
 have r3 : x1.cell? ⟨cb + 1 + 1, 3, none⟩ = some (.int .i64 0) := by rw [HF1.out.cell]; rfl
 have r4 : x1.cell? ⟨cb + 1 + 1, 4, none⟩ = some (.int .i64 0) := by rw [HF1.out.cell]; rfl
 have r5 : x1.cell? ⟨cb + 1 + 1, 5, none⟩ = some (.slice none 0 0) := by rw [HF1.out.cell]; rfl
 have r6 : x1.cell? ⟨cb + 1 + 1, 6, none⟩ = some (.bool false) := by rw [HF1.out.cell]; rfl
 go_wp2_with fail
 refine hq2.mono ?_
 rintro e x2 ⟨rfl, v2, q2, ha2, he2, hn2, hk2⟩
 have HA2 := xhd ha2
 have HE2 := xhd he2
 have HN2 := xhd (show q2.length ≤ 2 from (by have := HN1.out; omega))
 have HC2 := xhd (HC1.out.keeps hk2 (fun e => e.2 HPC.out))
 have HF2 := xhd (HF1.out.keeps hk2 (fun e => e.2 HPF.out))
 have HU2 := xhd (HU1.out.keeps hk2 (fun e => e.2 HPU.out))
 have HP2 := xhd (HP1.out.keeps hk2 (fun e => e.2 HPP.out))
 have HD2 := xhd (HD1.out.keeps hk2 (fun b hb e => e.2 hb))
 clear ha2 he2 hn2 hk2 hq2  r0 r1 r2 r3 r4 r5 r6 HA1 HC1 HF1 HU1 HP1 HD1
 have hq3 := allow1_rule (!c.server) 3 ⟨0, 0, 3, 0, 0, Pure.proofData, true⟩ (.slice AD 3 cD) (if c.server then [] else [Pure.proofRule]) (by cases c.server <;> rfl) w (cb + 1) P _ q2 x2 HA2.out (by have := HN2.out; omega) rfl HD2.out
 have c0 : x2.cell? ⟨cb, 0, none⟩ = some (.bool c.server) := by rw [HC2.out.cell]; rfl
 have r0 : x2.cell? ⟨pb, 0, none⟩ = some (.int .i64 0) := by rw [HP2.out.cell]; rfl
 have r1 : x2.cell? ⟨pb, 1, none⟩ = some (.int .i64 0) := by rw [HP2.out.cell]; rfl
 have r2 : x2.cell? ⟨pb, 2, none⟩ = some (.int .i64 3) := by rw [HP2.out.cell]; rfl
 have r3 : x2.cell? ⟨pb, 3, none⟩ = some (.int .i64 0) := by rw [HP2.out.cell]; rfl
 have r4 : x2.cell? ⟨pb, 4, none⟩ = some (.int .i64 0) := by rw [HP2.out.cell]; rfl
 have r5 : x2.cell? ⟨pb, 5, none⟩ = some (.slice AD 3 cD) := by rw [HP2.out.cell]; rfl
 have r6 : x2.cell? ⟨pb, 6, none⟩ = some (.bool true) := by rw [HP2.out.cell]; rfl
 go_wp2_with fail
 refine hq3.mono ?_
 rintro e x3 ⟨rfl, v3, q3, ha3, he3, hn3, hk3⟩
 have HA3 := xhd ha3
 have HE3 := xhd he3
 have HN3 := xhd (show q3.length ≤ 3 from (by have := HN2.out; omega))
 have HC3 := xhd (HC2.out.keeps hk3 (fun e => e.2 HPC.out))
 have HF3 := xhd (HF2.out.keeps hk3 (fun e => e.2 HPF.out))
 have HU3 := xhd (HU2.out.keeps hk3 (fun e => e.2 HPU.out))
 have HP3 := xhd (HP2.out.keeps hk3 (fun e => e.2 HPP.out))
 have HD3 := xhd (HD2.out.keeps hk3 (fun b hb e => e.2 hb))
 clear ha3 he3 hn3 hk3 hq3 c0 r0 r1 r2 r3 r4 r5 r6 HA2 HC2 HF2 HU2 HP2 HD2
 have hq4 := allow1_rule true 5 ⟨0, 0, 1, 0, 0, [], false⟩ (.slice none 0 0) [Pure.passOf 5 4] (rfl) w (cb + 1) P _ q3 x3 HA3.out (by have := HN3.out; omega) rfl (Row.nil _ _ _)
 have r0 : x3.cell? ⟨cb + 1 + 1, 0, none⟩ = some (.int .i64 0) := by rw [HF3.out.cell]; rfl
 have r1 : x3.cell? ⟨cb + 1 + 1, 1, none⟩ = some (.int .i64 0) := by rw [HF3.out.cell]; rfl
 have r2 : x3.cell? ⟨cb + 1 + 1, 2, none⟩ = some (.int .i64 1) := by rw [HF3.out.cell]; rfl
 have r3 : x3.cell? ⟨cb + 1 + 1, 3, none⟩ = some (.int .i64 0) := by rw [HF3.out.cell]; rfl
 have r4 : x3.cell? ⟨cb + 1 + 1, 4, none⟩ = some (.int .i64 0) := by rw [HF3.out.cell]; rfl
 have r5 : x3.cell? ⟨cb + 1 + 1, 5, none⟩ = some (.slice none 0 0) := by rw [HF3.out.cell]; rfl
 have r6 : x3.cell? ⟨cb + 1 + 1, 6, none⟩ = some (.bool false) := by rw [HF3.out.cell]; rfl
 go_wp2_with fail
 refine hq4.mono ?_
 rintro e x4 ⟨rfl, v4, q4, ha4, he4, hn4, hk4⟩
 have HA4 := xhd ha4
 have HE4 := xhd he4
 have HN4 := xhd (show q4.length ≤ 4 from (by have := HN3.out; omega))
 have HC4 := xhd (HC3.out.keeps hk4 (fun e => e.2 HPC.out))
 have HF4 := xhd (HF3.out.keeps hk4 (fun e => e.2 HPF.out))
 have HU4 := xhd (HU3.out.keeps hk4 (fun e => e.2 HPU.out))
 have HP4 := xhd (HP3.out.keeps hk4 (fun e => e.2 HPP.out))
 have HD4 := xhd (HD3.out.keeps hk4 (fun b hb e => e.2 hb))
 clear ha4 he4 hn4 hk4 hq4  r0 r1 r2 r3 r4 r5 r6 HA3 HC3 HF3 HU3 HP3 HD3
 have hq5 := allow1_rule c.pfc 7 ⟨0, 0, 1, 0, 0, [], false⟩ (.slice none 0 0) (if c.pfc then [Pure.passOf 7 0] else []) (by cases c.pfc <;> rfl) w (cb + 1) P _ q4 x4 HA4.out (by have := HN4.out; omega) rfl (Row.nil _ _ _)
 have c4 : x4.cell? ⟨cb, 4, none⟩ = some (.bool c.pfc) := by rw [HC4.out.cell]; rfl
 have r0 : x4.cell? ⟨cb + 1 + 1, 0, none⟩ = some (.int .i64 0) := by rw [HF4.out.cell]; rfl
 have r1 : x4.cell? ⟨cb + 1 + 1, 1, none⟩ = some (.int .i64 0) := by rw [HF4.out.cell]; rfl
 have r2 : x4.cell? ⟨cb + 1 + 1, 2, none⟩ = some (.int .i64 1) := by rw [HF4.out.cell]; rfl
 have r3 : x4.cell? ⟨cb + 1 + 1, 3, none⟩ = some (.int .i64 0) := by rw [HF4.out.cell]; rfl
 have r4 : x4.cell? ⟨cb + 1 + 1, 4, none⟩ = some (.int .i64 0) := by rw [HF4.out.cell]; rfl
 have r5 : x4.cell? ⟨cb + 1 + 1, 5, none⟩ = some (.slice none 0 0) := by rw [HF4.out.cell]; rfl
 have r6 : x4.cell? ⟨cb + 1 + 1, 6, none⟩ = some (.bool false) := by rw [HF4.out.cell]; rfl
 go_wp2_with fail
 refine hq5.mono ?_
 rintro e x5 ⟨rfl, v5, q5, ha5, he5, hn5, hk5⟩
 have HA5 := xhd ha5
 have HE5 := xhd he5
 have HN5 := xhd (show q5.length ≤ 5 from (by have := HN4.out; omega))
 have HC5 := xhd (HC4.out.keeps hk5 (fun e => e.2 HPC.out))
 have HF5 := xhd (HF4.out.keeps hk5 (fun e => e.2 HPF.out))
 have HU5 := xhd (HU4.out.keeps hk5 (fun e => e.2 HPU.out))
 have HP5 := xhd (HP4.out.keeps hk5 (fun e => e.2 HPP.out))
 have HD5 := xhd (HD4.out.keeps hk5 (fun b hb e => e.2 hb))
 clear ha5 he5 hn5 hk5 hq5 c4 r0 r1 r2 r3 r4 r5 r6 HA4 HC4 HF4 HU4 HP4 HD4
 have hq6 := allow1_rule c.acfc 8 ⟨0, 0, 1, 0, 0, [], false⟩ (.slice none 0 0) (if c.acfc then [Pure.passOf 8 0] else []) (by cases c.acfc <;> rfl) w (cb + 1) P _ q5 x5 HA5.out (by have := HN5.out; omega) rfl (Row.nil _ _ _)
 have c5 : x5.cell? ⟨cb, 5, none⟩ = some (.bool c.acfc) := by rw [HC5.out.cell]; rfl
 have r0 : x5.cell? ⟨cb + 1 + 1, 0, none⟩ = some (.int .i64 0) := by rw [HF5.out.cell]; rfl
 have r1 : x5.cell? ⟨cb + 1 + 1, 1, none⟩ = some (.int .i64 0) := by rw [HF5.out.cell]; rfl
 have r2 : x5.cell? ⟨cb + 1 + 1, 2, none⟩ = some (.int .i64 1) := by rw [HF5.out.cell]; rfl
 have r3 : x5.cell? ⟨cb + 1 + 1, 3, none⟩ = some (.int .i64 0) := by rw [HF5.out.cell]; rfl
 have r4 : x5.cell? ⟨cb + 1 + 1, 4, none⟩ = some (.int .i64 0) := by rw [HF5.out.cell]; rfl
 have r5 : x5.cell? ⟨cb + 1 + 1, 5, none⟩ = some (.slice none 0 0) := by rw [HF5.out.cell]; rfl
 have r6 : x5.cell? ⟨cb + 1 + 1, 6, none⟩ = some (.bool false) := by rw [HF5.out.cell]; rfl
 go_wp2_with fail
 refine hq6.mono ?_
 rintro e x6 ⟨rfl, v6, q6, ha6, he6, hn6, hk6⟩
 have HA6 := xhd ha6
 have HE6 := xhd he6
 have HN6 := xhd (show q6.length ≤ 6 from (by have := HN5.out; omega))
 have HC6 := xhd (HC5.out.keeps hk6 (fun e => e.2 HPC.out))
 have HF6 := xhd (HF5.out.keeps hk6 (fun e => e.2 HPF.out))
 have HU6 := xhd (HU5.out.keeps hk6 (fun e => e.2 HPU.out))
 have HP6 := xhd (HP5.out.keeps hk6 (fun e => e.2 HPP.out))
 have HD6 := xhd (HD5.out.keeps hk6 (fun b hb e => e.2 hb))
 clear ha6 he6 hn6 hk6 hq6 c5 r0 r1 r2 r3 r4 r5 r6 HA5 HC5 HF5 HU5 HP5 HD5
 have hq7 := allow1_rule (c.mrru != 0) 17 ⟨0, 0, 2, 64, 1500, [], false⟩ (.slice none 0 0) (if c.mrru = 0 then [] else [Pure.rangeOf 17]) (by by_cases h : c.mrru = 0 <;> simp [h, Pure.rangeOf, Pure.psize]) w (cb + 1) P _ q6 x6 HA6.out (by have := HN6.out; omega) rfl (Row.nil _ _ _)
 have c7 : x6.cell? ⟨cb, 7, none⟩ = some (.int .i64 c.mrru) := by rw [HC6.out.cell]; rfl
 have r0 : x6.cell? ⟨cb + 1 + 1 + 1, 0, none⟩ = some (.int .i64 0) := by rw [HU6.out.cell]; rfl
 have r1 : x6.cell? ⟨cb + 1 + 1 + 1, 1, none⟩ = some (.int .i64 0) := by rw [HU6.out.cell]; rfl
 have r2 : x6.cell? ⟨cb + 1 + 1 + 1, 2, none⟩ = some (.int .i64 2) := by rw [HU6.out.cell]; rfl
 have r3 : x6.cell? ⟨cb + 1 + 1 + 1, 3, none⟩ = some (.int .i64 64) := by rw [HU6.out.cell]; rfl
 have r4 : x6.cell? ⟨cb + 1 + 1 + 1, 4, none⟩ = some (.int .i64 1500) := by rw [HU6.out.cell]; rfl
 have r5 : x6.cell? ⟨cb + 1 + 1 + 1, 5, none⟩ = some (.slice none 0 0) := by rw [HU6.out.cell]; rfl
 have r6 : x6.cell? ⟨cb + 1 + 1 + 1, 6, none⟩ = some (.bool false) := by rw [HU6.out.cell]; rfl
 go_wp2_with fail
 refine hq7.mono ?_
 rintro e x7 ⟨rfl, v7, q7, ha7, he7, hn7, hk7⟩
 have HA7 := xhd ha7
 have HE7 := xhd he7
 have HN7 := xhd (show q7.length ≤ 7 from (by have := HN6.out; omega))
 have HC7 := xhd (HC6.out.keeps hk7 (fun e => e.2 HPC.out))
 have HF7 := xhd (HF6.out.keeps hk7 (fun e => e.2 HPF.out))
 have HU7 := xhd (HU6.out.keeps hk7 (fun e => e.2 HPU.out))
 have HP7 := xhd (HP6.out.keeps hk7 (fun e => e.2 HPP.out))
 have HD7 := xhd (HD6.out.keeps hk7 (fun b hb e => e.2 hb))
 clear ha7 he7 hn7 hk7 hq7 c7 r0 r1 r2 r3 r4 r5 r6 HA6 HC6 HF6 HU6 HP6 HD6
 have hq8 := allow1_rule (c.mrru != 0) 18 ⟨0, 0, 1, 0, 0, [], false⟩ (.slice none 0 0) (if c.mrru = 0 then [] else [Pure.passOf 18 0]) (by by_cases h : c.mrru = 0 <;> simp [h, Pure.passOf, Pure.psize]) w (cb + 1) P _ q7 x7 HA7.out (by have := HN7.out; omega) rfl (Row.nil _ _ _)
 have c7 : x7.cell? ⟨cb, 7, none⟩ = some (.int .i64 c.mrru) := by rw [HC7.out.cell]; rfl
 have r0 : x7.cell? ⟨cb + 1 + 1, 0, none⟩ = some (.int .i64 0) := by rw [HF7.out.cell]; rfl
 have r1 : x7.cell? ⟨cb + 1 + 1, 1, none⟩ = some (.int .i64 0) := by rw [HF7.out.cell]; rfl
 have r2 : x7.cell? ⟨cb + 1 + 1, 2, none⟩ = some (.int .i64 1) := by rw [HF7.out.cell]; rfl
 have r3 : x7.cell? ⟨cb + 1 + 1, 3, none⟩ = some (.int .i64 0) := by rw [HF7.out.cell]; rfl
 have r4 : x7.cell? ⟨cb + 1 + 1, 4, none⟩ = some (.int .i64 0) := by rw [HF7.out.cell]; rfl
 have r5 : x7.cell? ⟨cb + 1 + 1, 5, none⟩ = some (.slice none 0 0) := by rw [HF7.out.cell]; rfl
 have r6 : x7.cell? ⟨cb + 1 + 1, 6, none⟩ = some (.bool false) := by rw [HF7.out.cell]; rfl
 go_wp2_with fail
 refine hq8.mono ?_
 rintro e x8 ⟨rfl, v8, q8, ha8, he8, hn8, hk8⟩
 have HA8 := xhd ha8
 have HE8 := xhd he8
 have HN8 := xhd (show q8.length ≤ 8 from (by have := HN7.out; omega))
 have HC8 := xhd (HC7.out.keeps hk8 (fun e => e.2 HPC.out))
 have HF8 := xhd (HF7.out.keeps hk8 (fun e => e.2 HPF.out))
 have HU8 := xhd (HU7.out.keeps hk8 (fun e => e.2 HPU.out))
 have HP8 := xhd (HP7.out.keeps hk8 (fun e => e.2 HPP.out))
 have HD8 := xhd (HD7.out.keeps hk8 (fun b hb e => e.2 hb))
 clear ha8 he8 hn8 hk8 hq8 c7 r0 r1 r2 r3 r4 r5 r6 HA7 HC7 HF7 HU7 HP7 HD7
 have HFIN := xhd (show rulesOf q8 = c.rules by
  rw [HE8.out, HE7.out, HE6.out, HE5.out, HE4.out, HE3.out, HE2.out, HE1.out]
  unfold Pure.Cfg.rules
  by_cases h : c.mrru = 0
  ·simp [h, rulesOf]
  ·simp [h, rulesOf])
 obtain ⟨A8, c8, rfl⟩ := own_form HA8.out.row.own
 have l0 : x8.cell? ⟨cb + 1, 0, none⟩ = some (.slice A8 q8.length c8) := by rw [HA8.out.blk.cell]; rfl
 have HR := xhd (show RRead w x8 (fun b => w.heap.size ≤ b) (.slice A8 q8.length c8) q8 from ⟨HA8.out.row.own, fun p hp => (HA8.out.row.rows p hp).mono (fun b hb => ⟨HPG.out b hb.1, hb.2⟩), HA8.out.row.kept⟩)
 go_wp2_with fail
 go_ret
 exact ⟨_, q8, rfl, HFIN.out, HR.out⟩
abbrev byLink (l : Nat) : Value := .func (.func 68) #[.pointer (some ⟨l, 0, none⟩)] #[]
abbrev lcpCells (g : Nat) (c : Pure.Cfg) (nm sc : ByteArray) (rv : Value) : List Value := .pointer (some ⟨g, 0, none⟩) :: (cfgCells c nm sc ++ [rv])
def LBlk (w : World) (l g : Nat) (c : Pure.Cfg) (nm sc : ByteArray) (rv : Value) : Prop := Blk w l 125 (lcpCells g c nm sc rv).toArray
theorem LBlk.cell {w : World} {l g : Nat} {c : Pure.Cfg} {nm sc : ByteArray} {rv : Value} (h : LBlk w l g c nm sc rv) (j : Nat) : w.cell? ⟨l, j, none⟩ = (lcpCells g c nm sc rv)[j]? := by
 have : Blk w l 125 (lcpCells g c nm sc rv).toArray := h
 rw [this.cell, List.getElem?_toArray]
theorem LBlk.keeps {S : Nat → Prop} {w w' : World} {l g : Nat} {c : Pure.Cfg} {nm sc : ByteArray} {rv : Value} (h : LBlk w l g c nm sc rv) (k : Keeps S w w') (hs : ¬ S l) : LBlk w' l g c nm sc rv := Blk.keeps h k hs
theorem LBlk.lt {w : World} {l g : Nat} {c : Pure.Cfg} {nm sc : ByteArray} {rv : Value} (h : LBlk w l g c nm sc rv) : l < w.heap.size := Blk.lt h
theorem run_judge_neq (v : Value) (w : World) : (binOp .neq 129 (.func (.func 68) #[v] #[]) .nilFunc).run Tryz.prog w = .ok (.bool true) w := by kernel_rfl
structure LF where
 l : Nat
 g : Nat
 gm : Nat
 nm : ByteArray
 sc : ByteArray
 rv : Value
structure LObj (w : World) (k : LF) (R : Nat → Prop) (f : NF) (x : Pure.Lcp) : Prop where
 blk : LBlk w k.l k.g x.c k.nm k.sc k.rv
 obj : NObj w k.g R f x.n
 gm : f.gm = ⟨k.gm, byLink k.l⟩
 rules : ∃ us, RRow w R k.rv us ∧ rulesOf us = x.n.rules ∧ FewRules us
 same : x.n.rules = x.c.rules
 fine : x.c.fine = true
 accm : x.c.accm < 4294967296
 nl : ¬ R k.l
 lg : k.l ≠ k.g
 lm : k.l ≠ k.gm
theorem LObj.gm' {w : World} {k : LF} {R : Nat → Prop} {f : NF} {x : Pure.Lcp} (h : LObj w k R f x) : f.gm.m = k.gm := by rw [h.gm]
theorem LObj.keeps {w w' : World} {k : LF} {R S : Nat → Prop} {f : NF} {x : Pure.Lcp} (h : LObj w k R f x) (K : Keeps S w w') (hl : ¬ S k.l) (hg : ¬ S k.g) (hm : ¬ S k.gm) (hs : ∀ b, R b → ¬ S b) : LObj w' k R f x := by
 obtain ⟨us, r1, r2, r3⟩ := h.rules
 exact ⟨h.blk.keeps K hl, h.obj.keeps K hg (by rw [h.gm']; exact hm) hs, h.gm, ⟨us, r1.keeps K hs, r2, r3⟩, h.same, h.fine, h.accm, h.nl, h.lg, h.lm⟩
theorem LObj.quiet {w w' : World} {k : LF} {R : Nat → Prop} {f : NF} {x : Pure.Lcp} (h : LObj w k R f x) (K : Keeps nobody w w') : LObj w' k R f x := h.keeps K (fun e => e) (fun e => e) (fun e => e) (fun _ _ e => e)
def LBecomes (w w' : World) (k : LF) (R : Nat → Prop) (x : Pure.Lcp) : Prop :=
 ∃ f' R', LObj w' k R' f' x ∧ (∀ b, R' b → R b ∨ w.heap.size ≤ b) ∧ Keeps (fun b => b = k.g ∨ b = k.gm) w w'
theorem LObj.turned {w w' : World} {k : LF} {R : Nat → Prop} {f : NF} {x : Pure.Lcp} {n' : Pure.Neg} (h : LObj w k R f x) (hr : n'.rules = x.n.rules) (hb : Becomes w w' k.g R f n') : LBecomes w w' k R { x with n := n' } := by
 obtain ⟨f', R', hn, hgm, hsub, K⟩ := hb
 obtain ⟨us, r1, r2, r3⟩ := h.rules
 have hll := h.blk.lt
 have K2 : Keeps (fun b => b = k.g ∨ b = k.gm) w w' := by rw [h.gm'] at K; exact K
 have hS : ∀ b, R b → ¬ (b = k.g ∨ b = k.gm) := fun b hb e => by
  rcases e with e | e
  ·exact h.obj.ng (e ▸ hb)
  ·exact h.obj.nm (by rw [h.gm', ← e]; exact hb)
 refine ⟨f', fun b => (R' b ∨ R b) ∧ b < w'.heap.size, ⟨h.blk.keeps K2 (fun e => e.elim h.lg h.lm), ?_, hgm.trans h.gm, ⟨us, (r1.keeps K2 hS).mono (fun b hb => ⟨.inr hb, Nat.lt_of_lt_of_le (h.obj.lt b hb) K.size⟩), by rw [r2]; exact hr.symm, r3⟩, hr.trans h.same, h.fine, h.accm, ?_, h.lg, h.lm⟩, ?_, K2⟩
 ·obtain ⟨vs, s1, s2, s3⟩ := hn.rules
  have hsub2 : ∀ b, R' b → (R' b ∨ R b) ∧ b < w'.heap.size := fun b hb => ⟨.inl hb, hn.lt b hb⟩
  refine ⟨hn.blk, hn.mach, hn.well, hn.e1, hn.e2, hn.e3, hn.e4, hn.e5, hn.e6, ⟨vs, s1.mono hsub2, s2, s3⟩, hn.first.mono hsub2, hn.request.mono hsub2, hn.aopts.mono hsub2, hn.mine.mono hsub2, hn.given.mono hsub2, fun b hb => hb.2, ?_, ?_, hn.ne⟩
  ·rintro ⟨e | e, _⟩
   ·exact hn.ng e
   ·exact h.obj.ng e
  ·rintro ⟨e | e, _⟩
   ·exact hn.nm e
   ·rw [hgm] at e; exact h.obj.nm e
 ·rintro ⟨e | e, _⟩
  ·rcases hsub _ e with e | e
   ·exact h.nl e
   ·omega
  ·exact h.nl e
 ·rintro b ⟨e | e, _⟩
  ·exact hsub b e
  ·exact .inl e
theorem LObj.stays {w w' : World} {k : LF} {R : Nat → Prop} {f : NF} {x : Pure.Lcp} (h : LObj w k R f x) (K : Keeps nobody w w') : LBecomes w w' k R x :=
 ⟨f, R, h.quiet K, fun _ hb => .inl hb, K.mono (fun _ e => e.elim)⟩
section
variable {w : World} {k : LF} {R : Nat → Prop} {f : NF} {x : Pure.Lcp}
theorem negotiator_any (h : LObj w k R f x) : Calls Tryz.prog 70 #[.pointer (some ⟨k.l, 0, none⟩)] w fun e w' => e = .returned (.pointer (some ⟨k.g, 0, none⟩)) ∧ w = w' := by
 have c0 : w.cell? ⟨k.l, 0, none⟩ = some (.pointer (some ⟨k.g, 0, none⟩)) := h.blk.cell 0
 clear h
 go_enter Tryz.func70, Tryz.ntmps70
 go_wp2_with fail
 go_ret
 exact ⟨rfl, rfl⟩
theorem lstate_any (h : LObj w k R f x) : Calls Tryz.prog 40 #[.pointer (some ⟨k.l, 0, none⟩)] w fun e w' => e = .returned (.int .i64 (x.n.m.state : Nat)) ∧ w = w' := by
 have HN := xhd (negotiator_any h)
 have HS := xhd (nstate_any k.g R f x.n w h.obj)
 clear h
 go_enter Tryz.func40, Tryz.ntmps40
 go_wp2_with fail
 refine HN.out.mono ?_
 rintro e w1 ⟨rfl, rfl⟩
 go_wp2_with fail
 refine HS.out.mono ?_
 rintro e w1 ⟨rfl, rfl⟩
 go_wp2_with fail
 go_ret
 exact ⟨rfl, rfl⟩
end
namespace Pure
end Pure
namespace Pure
def Lcp.verdict (x : Lcp) (l : List Opt) (rejects : Bool) : Nat × List Opt :=
 if (readVals (split x.n.ours).2).magic = 0 ∨ (readVals l).magic ≠ (readVals (split x.n.ours).2).magic then judge x.n.rules l rejects else looped x.n.rules l rejects (readVals (split x.n.ours).2).magic
end Pure
end Go.Proofs.YtmgicbckgpdkcaaGreatDoor
