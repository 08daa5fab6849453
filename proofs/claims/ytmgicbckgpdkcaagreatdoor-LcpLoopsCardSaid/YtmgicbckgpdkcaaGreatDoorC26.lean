/- Package lcp: echo. -/
import Derived.Test.YtmgicbckgpdkcaaGreatDoorC25
namespace Go.Proofs.YtmgicbckgpdkcaaGreatDoor
set_option maxRecDepth 100000
set_option maxHeartbeats 16000000
open _root_.Go.Lib renaming hid → xhd
open List renaming setIfInBounds_toArray → xqA, getElem_toArray → xqB, getElem_cons_succ → xqC, getElem_cons_zero → xqD, set_cons_succ → xqE, set_cons_zero → xqF
open Go.RowKit
theorem cutV_form (a : Option Addr) (c lo m : Nat) : ∃ A c', cutV a c lo m = .slice A m c' := by
 unfold cutV
 split
 ·exact ⟨_, _, rfl⟩
 ·exact ⟨_, _, rfl⟩
section
variable {w : World} {k : LF} {R : Nat → Prop} {f : NF} {x : Pure.Lcp}
theorem lecho_any (h : LObj w k R f x) (F : Nat → Prop) (p : Pure.Pkt) (d : Value) (hd : Row w F 1 d p.data.length (u8s p.data)) (_ : ∀ b, F b → b < w.heap.size) (h4 : 4 ≤ p.data.length) (hL : p.data.length ≤ 1000000) :
  Calls Tryz.prog 75 #[.pointer (some ⟨k.l, 0, none⟩), pktV p d] w fun e w' => ∃ v, e = .returned v ∧ y3g w w' v (.of (if x.n.m.state = 9 then ⟨[⟨10, p.id, Pure.wide x.mine.magic 4 ++ p.data.drop 4⟩], false, false, false, false⟩ else Pure.mute)) ∧ Keeps y01 w w' := by
 obtain ⟨D, cd, rfl, hcap⟩ := hd.form
 obtain ⟨pc, pi, pd⟩ := p
 dsimp only at hd hcap h4 hL ⊢
 have HI := xhd y35
 obtain ⟨pb, hpb⟩ : ∃ q, q = w.heap.size := ⟨_, rfl⟩
 obtain ⟨ro, hro⟩ : ∃ q, q = pb + 1 := ⟨_, rfl⟩
 obtain ⟨w1, hw1⟩ : ∃ q, q = (w.alloc (.cells #[.int .i64 pc, .int .i64 pi, .slice D pd.length cd] 56)).alloc (.cells y23.toArray 61) := ⟨_, rfl⟩
 have hk1 : Keeps y01 w w1 := by rw [hw1]; exact ((Keeps.refl _ w).alloc _).alloc _
 have HP := xhd (show Blk w1 pb 56 #[.int .i64 pc, .int .i64 pi, .slice D pd.length cd] by rw [hw1, hpb]; exact (Blk.new w _ _).alloc _)
 have HO := xhd (show Blk w1 ro 61 y23.toArray by
  rw [hw1, hro, show pb + 1 = (w.alloc (.cells #[.int .i64 pc, .int .i64 pi, .slice D pd.length cd] 56)).heap.size by rw [hpb]; simp]
  exact Blk.new _ _ _)
 have h1 := h.quiet hk1
 have HOP := xhd (y76 h1)
 have HMI := xhd (y3o h1)
 have HD := xhd (hd.strongN (by omega))
 have HK1 := xhd hk1
 have HRO := xhd (show w.heap.size ≤ ro by omega)
 have HPB := xhd (show pb = w.heap.size from hpb)
 have HRP := xhd hro
 obtain ⟨M, hM⟩ : ∃ q, q = x.mine := ⟨_, rfl⟩
 rw [← hM] at HMI ⊢
 have HML := xhd (show M.magic < 4294967296 by rw [hM]; exact yaj _)
 have H4 := xhd h4
 have HL := xhd hL
 have HCAP := xhd hcap
 obtain ⟨SS, hSS⟩ : ∃ q, q = (if x.n.m.state = 9 then (⟨[⟨10, pi, Pure.wide M.magic 4 ++ pd.drop 4⟩], false, false, false, false⟩ : Pure.Said) else Pure.mute) := ⟨_, rfl⟩
 rw [← hSS]
 have HSS := xhd hSS
 clear h hk1 h1 hd hM h4 hL hcap hSS
 go_enter Tryz.func75, Tryz.ntmps75
 go_upto_region 1 with fail
 rw [← hpb, ← hro]
 rw [show (w.alloc (.cells #[.int .i64 pc, .int .i64 pi, .slice D pd.length cd] 56)).alloc (.cells #[.slice none 0 0, .bool false, .bool false, .bool false, .bool false, .int .i64 0] 61) = w1 from hw1.symm]
 clear hw1 hpb hro
 go_wp2_with fail
 refine HOP.out.mono ?_
 rintro e w2 ⟨rfl, rfl⟩
 by_cases hs : x.n.m.state = 9
 case neg =>
  rw [decide_eq_false hs]
  have HN := xhd (show SS = Pure.mute from HSS.out.trans (if_neg hs))
  clear hs HSS HMI
  have z0 : (w1).cell? ⟨ro, 0, none⟩ = some (.slice none 0 0) := by rw [HO.out.cell]; rfl
  have f0 := HO.out.frozen 0
  have z1 : (w1).cell? ⟨ro, 1, none⟩ = some (.bool false) := by rw [HO.out.cell]; rfl
  have f1 := HO.out.frozen 1
  have z2 : (w1).cell? ⟨ro, 2, none⟩ = some (.bool false) := by rw [HO.out.cell]; rfl
  have f2 := HO.out.frozen 2
  have z3 : (w1).cell? ⟨ro, 3, none⟩ = some (.bool false) := by rw [HO.out.cell]; rfl
  have f3 := HO.out.frozen 3
  have z4 : (w1).cell? ⟨ro, 4, none⟩ = some (.bool false) := by rw [HO.out.cell]; rfl
  have f4 := HO.out.frozen 4
  have z5 : (w1).cell? ⟨ro, 5, none⟩ = some (.int .i64 0) := by rw [HO.out.cell]; rfl
  have f5 := HO.out.frozen 5
  obtain ⟨w9, hw9⟩ : ∃ q, q = (World.setCell ((World.setCell ((World.setCell ((World.setCell ((World.setCell ((World.setCell (w1) ⟨ro, 0, none⟩ (.slice none 0 0))) ⟨ro, 1, none⟩ (.bool false))) ⟨ro, 2, none⟩ (.bool false))) ⟨ro, 3, none⟩ (.bool false))) ⟨ro, 4, none⟩ (.bool false))) ⟨ro, 5, none⟩ (.int .i64 0)) := ⟨_, rfl⟩
  have HZ := xhd (show Blk w9 (ro) 61 #[.slice none 0 0, .bool false, .bool false, .bool false, .bool false, .int .i64 0] by rw [hw9]; exact ((((((HO.out.set 0 (.slice none 0 0)).set 1 (.bool false)).set 2 (.bool false)).set 3 (.bool false)).set 4 (.bool false)).set 5 (.int .i64 0)))
  have KR : Keeps (only (ro)) (w1) w9 := by rw [hw9]; exact (((((((Keeps.refl (only (ro)) (w1)).put 0 (.slice none 0 0)).put 1 (.bool false)).put 2 (.bool false)).put 3 (.bool false)).put 4 (.bool false)).put 5 (.int .i64 0))
  have HKF := xhd (show Keeps y01 w w9 from HK1.out.trans' KR (fun i hi hl => by have e : i = ro := hi; have := HRO.out; omega))
  clear KR
  go_wp2_with fail
  rw [← hw9]
  refine bodyPost_ret (y07 rfl _ _ ro 61 _ (0, 0) _ rfl HZ.out Tryz.underlying61 rfl (by rw [HI.out]; rfl)) rfl ?_
  rw [HN.out]
  exact ⟨_, rfl, ⟨_, [], rfl, PRow.nil _ _, rfl, by simp⟩, HKF.out⟩
 case pos =>
  rw [decide_eq_true hs]
  have HN := xhd (show SS = ⟨[⟨10, pi, Pure.wide M.magic 4 ++ pd.drop 4⟩], false, false, false, false⟩ from HSS.out.trans (if_pos hs))
  clear hs HSS
  go_wp2_with fail
  refine HMI.out.mono ?_
  rintro e w3 ⟨rfl, hk3⟩
  have hfld := y4f M w3
  have eM : wrap64 ((M.magic : Nat) : Int) = ((M.magic : Nat) : Int) := IntWalk.wrap64_in _ (by have := HML.out; omega)
  have HS5 := xhd (show ∀ W, Calls Tryz.prog 58 #[.int .i64 5] W fun e w' => e = .returned (.int .i64 4) ∧ W = w' from fun W => y5m 5 W)
  have hs5 := HS5.out w3
  have HEN := xhd (show Calls Tryz.prog 92 #[.int .i64 ((M.magic : Nat) : Int), .int .i64 4] w3 fun e w' => ∃ A c, e = .returned (.slice A 4 c) ∧ Row w' (fun b => w3.heap.size ≤ b) 1 (.slice A 4 c) 4 (u8s (Pure.wide M.magic 4)) ∧ Keeps y01 w3 w' from y75 M.magic 4 w3 (by omega) HML.out)
  have HK3 := xhd (HK1.out.trans hk3)
  have HP3 := xhd (HP.out.keeps hk3 (fun e => e))
  have HO3 := xhd (HO.out.keeps hk3 (fun e => e))
  clear hk3 HMI HP HO HOP
  go_wp2_with fail
  refine hs5.mono ?_
  rintro e w4 ⟨rfl, rfl⟩
  go_wp2_with fail
  refine HEN.out.mono ?_
  rintro e w4 ⟨A1, c1, rfl, hr4, hk4⟩
  have HK4 := xhd (HK3.out.trans hk4)
  have HP4 := xhd (HP3.out.keeps hk4 (fun e => e))
  have HO4 := xhd (HO3.out.keeps hk4 (fun e => e))
  have HA4 := xhd (hr4.strongN (by omega))
  have HD4 := xhd (HD.out.keeps HK4.out (fun _ _ e => e))
  have HS34 := xhd HK3.out.size
  have c2 : w4.cell? ⟨pb, 2, none⟩ = some (.slice D pd.length cd) := by rw [HP4.out.cell]; rfl
  have HC2 := xhd c2
  have HKZ4 := xhd (Keeps.refl y01 w4)
  clear hr4 hk4 hfld hs5 HEN HK3 HP3 HO3 c2
  go_upto_region 4 with fail
  have h4 := H4.out
  have h4i : (4 : Int) ≤ (pd.length : Int) := by have := H4.out; omega
  have hcap := HCAP.out
  have hL := HL.out
  obtain ⟨AC, cC, hAC⟩ := cutV_form D cd 4 (pd.length - 4)
  have HDC := xhd (hAC ▸ HD4.out.cutV 4 (pd.length - 4) (by omega))
  have hcv := (yax D cd 4 (pd.length - 4)).trans hAC
  have hcA : (if cd = 4 then D else Option.map (fun x => x.add 4) D) = AC := by injection hcv
  have hcC : cd - 4 = cC := by injection hcv
  clear hAC hcv
  obtain ⟨L, hLe⟩ : ∃ q, q = Pure.wide M.magic 4 ++ pd.drop 4 := ⟨_, rfl⟩
  have HLE := xhd hLe
  clear hLe
  refine y0b (fun w' => w'.cell? ⟨pb, 2, none⟩ = some (.slice D pd.length cd)) 7 8 rfl (by kernel_rfl) HC2.out (fun hHeld => ?_)
  have HSW := hHeld
  clear hHeld
  have HK0d := xhd (HKZ4.out.drew)
  refine y00 (i := 0) rfl (by kernel_rfl) (fun _ _ _ h => h) (Or.inl ⟨by rfl, by intro w hSw; skip; go_simp; try with_reducible rfl⟩) HSW.out ?_
  simp only [Act.put, xqA, xqB, xqD, xqE, xqF]
  refine y00 (i := 1) rfl (by kernel_rfl) (fun _ _ _ h => h) (Or.inl ⟨by rfl, by intro w hSw; skip; go_simp; try with_reducible rfl⟩) HSW.out ?_
  simp only [Act.put, xqA, xqB, xqC, xqD, xqE, xqF]
  refine y00 (i := 2) rfl (by kernel_rfl) (fun _ _ _ h => h) (Or.inl ⟨by rfl, by intro w hSw; skip; go_simp; try with_reducible rfl⟩) HSW.out ?_
  simp only [Act.put, xqA, xqB, xqC, xqD, xqE, xqF]
  refine y03 (i := 3) (by kernel_rfl) rfl (fun K hK => ?_)
  try rw [if_pos (by rfl)]
  go_simp
  refine (HS5.out _).mono ?_
  rintro e w5 ⟨rfl, rfl⟩
  refine hK.out _ _ (fun _ => HSW.out) ?_
  clear hK K
  try simp only [Act.put, xqA, Nat.reduceAdd, xqB, xqC, xqD, xqE, xqF]
  refine y00 (i := 4) (v := .slice AC (pd.length - 4) cC) rfl (by kernel_rfl) (fun _ _ _ h => h) (Or.inl ⟨by rfl, by intro w hSw; skip; go_simp; first | exact hcA | rfl⟩) HSW.out ?_
  simp only [Act.put, xqA, xqB, xqC, xqD, xqE, xqF]
  refine y03 (i := 5) (by kernel_rfl) rfl (fun K hK => ?_)
  try rw [if_pos (by rfl)]
  go_simp
  obtain ⟨sb, hsb⟩ : ∃ q, q = w4.heap.size := ⟨_, rfl⟩
  have hk46 : Keeps y01 w4 (w4.alloc (.cells #[.slice A1 4 c1, .slice AC (pd.length - 4) cC] 29)).drew := ((Keeps.refl _ _).alloc _).drew
  have hB6 : Blk (w4.alloc (.cells #[.slice A1 4 c1, .slice AC (pd.length - 4) cC] 29)).drew w4.heap.size 29 #[.slice A1 4 c1, .slice AC (pd.length - 4) cC] := Blk.new w4 _ _
  generalize hw6 : (w4.alloc (.cells #[.slice A1 4 c1, .slice AC (pd.length - 4) cC] 29)).drew = w6 at hk46 hB6 ⊢
  have HPT := xhd (show Parts w6 sb (fun b => b < w6.heap.size) [((.slice A1 4 c1 : Value), Pure.wide M.magic 4), (.slice AC (pd.length - 4) cC, pd.drop 4)] from ⟨by rw [hsb]; exact hB6, fun q hq => by
   simp only [List.mem_cons, List.not_mem_nil, or_false] at hq
   rcases hq with rfl | rfl
   ·have := (HA4.out.keeps hk46 (fun _ _ e => e)).mono (G := fun b => b < w6.heap.size) (fun b hb => Nat.lt_of_lt_of_le hb.2 hk46.size)
    rw [show (Pure.wide M.magic 4).length = 4 from Pure.wide_length _ _]
    exact this
   ·have := (HDC.out.keeps hk46 (fun _ _ e => e)).mono (G := fun b => b < w6.heap.size) (fun b hb => Nat.lt_of_lt_of_le hb.2 (Nat.le_trans HK4.out.size hk46.size))
    rw [List.take_of_length_le (by rw [List.length_drop]; omega)] at this
    rw [List.length_drop]
    exact this⟩)
  have HS6 := xhd (y04 HC2.out hk46)
  have HK6 := xhd (HK4.out.trans hk46)
  have HP6 := xhd (HP4.out.keeps hk46 (fun e => e))
  have HO6 := xhd (HO4.out.keeps hk46 (fun e => e))
  rw [← hsb]
  clear hB6 hw6 hk46 hsb
  refine hK.out _ _ (fun _ => HS6.out) ?_
  clear hK K
  try simp only [Act.put, xqA, Nat.reduceAdd, xqB, xqC, xqD, xqE, xqF]
  refine y03 (i := 6) (by kernel_rfl) rfl (fun K hK => ?_)
  try rw [if_pos (by rfl)]
  go_simp
  have HJ := xhd (show joined [((.slice A1 4 c1 : Value), Pure.wide M.magic 4), (.slice AC (pd.length - 4) cC, pd.drop 4)] = L by rw [HLE.out]; simp [joined])
  refine (y7p (fun b => b < w6.heap.size) sb [((.slice A1 4 c1 : Value), Pure.wide M.magic 4), (.slice AC (pd.length - 4) cC, pd.drop 4)] w6 HPT.out (fun b hb => hb) (by simp) (by rw [HJ.out, HLE.out, List.length_append, Pure.wide_length, List.length_drop]; omega)).mono ?_
  rintro e w7 ⟨u7, rfl, hown7, hbl7⟩
  rw [HJ.out] at hown7
  obtain ⟨A7, c7, rfl⟩ := y0c hown7
  have hk7 : Keeps y01 w6 w7 := Keeps.new hbl7
  have HS7 := xhd (y04 HS6.out hk7)
  have HK7 := xhd (HK6.out.trans hk7)
  have HP7 := xhd (HP6.out.keeps hk7 (fun e => e))
  have HO7 := xhd (HO6.out.keeps hk7 (fun e => e))
  have HR7 := xhd ((Row.of_own hown7).strongN (by omega))
  have HG7 := xhd (fun b hb => y0f hown7 b hb)
  clear hown7 hbl7 hk7
  refine hK.out _ _ (fun _ => HS7.out) ?_
  clear hK K
  try simp only [Act.put, xqA, Nat.reduceAdd, xqB, xqC, xqD, xqE, xqF]
  refine y03 (i := 7) (by kernel_rfl) rfl (fun K hK => ?_)
  go_simp
  refine hK.out _ _ (fun h => absurd rfl h) ?_
  clear hK K
  refine y09 (by kernel_rfl) ?_ _
  have c1 : w7.cell? ⟨pb, 1, none⟩ = some (.int .i64 pi) := by rw [HP7.out.cell]; rfl
  have HSE := xhd (yba (fun b => (Value.slice A7 L.length c7).ownBlock = some b ∧ b < w7.heap.size) ⟨10, pi, L⟩ (.slice A7 L.length c7) w7 HR7.out)
  go_wp2_with fail
  refine HSE.out.mono ?_
  rintro e w8 ⟨s8, rfl, hp8, hk8⟩
  have hO8 := HO7.out.keeps hk8 (fun e => e)
  have z0 : (w8).cell? ⟨ro, 0, none⟩ = some (.slice none 0 0) := by rw [hO8.cell]; rfl
  have f0 := hO8.frozen 0
  have z1 : (w8).cell? ⟨ro, 1, none⟩ = some (.bool false) := by rw [hO8.cell]; rfl
  have f1 := hO8.frozen 1
  have z2 : (w8).cell? ⟨ro, 2, none⟩ = some (.bool false) := by rw [hO8.cell]; rfl
  have f2 := hO8.frozen 2
  have z3 : (w8).cell? ⟨ro, 3, none⟩ = some (.bool false) := by rw [hO8.cell]; rfl
  have f3 := hO8.frozen 3
  have z4 : (w8).cell? ⟨ro, 4, none⟩ = some (.bool false) := by rw [hO8.cell]; rfl
  have f4 := hO8.frozen 4
  have z5 : (w8).cell? ⟨ro, 5, none⟩ = some (.int .i64 0) := by rw [hO8.cell]; rfl
  have f5 := hO8.frozen 5
  obtain ⟨w9, hw9⟩ : ∃ q, q = (World.setCell ((World.setCell ((World.setCell ((World.setCell ((World.setCell ((World.setCell (w8) ⟨ro, 0, none⟩ (.slice (some ⟨s8, 0, none⟩) 1 1))) ⟨ro, 1, none⟩ (.bool false))) ⟨ro, 2, none⟩ (.bool false))) ⟨ro, 3, none⟩ (.bool false))) ⟨ro, 4, none⟩ (.bool false))) ⟨ro, 5, none⟩ (.int .i64 0)) := ⟨_, rfl⟩
  have HZ := xhd (show Blk w9 (ro) 61 #[.slice (some ⟨s8, 0, none⟩) 1 1, .bool false, .bool false, .bool false, .bool false, .int .i64 0] by rw [hw9]; exact ((((((hO8.set 0 (.slice (some ⟨s8, 0, none⟩) 1 1)).set 1 (.bool false)).set 2 (.bool false)).set 3 (.bool false)).set 4 (.bool false)).set 5 (.int .i64 0)))
  have KR : Keeps (only (ro)) (w8) w9 := by rw [hw9]; exact (((((((Keeps.refl (only (ro)) (w8)).put 0 (.slice (some ⟨s8, 0, none⟩) 1 1)).put 1 (.bool false)).put 2 (.bool false)).put 3 (.bool false)).put 4 (.bool false)).put 5 (.int .i64 0))
  have HKF := xhd (show Keeps y01 w w9 from (HK7.out.trans hk8).trans' KR (fun i hi hl => by have e : i = ro := hi; have := HRO.out; omega))
  have hlt := HO7.out.lt
  have hl67 : ro < w6.heap.size := HO6.out.lt
  have HPF := xhd ((hp8.keeps KR (fun b hb e => by
   have e : b = ro := e
   rcases hb.1 with h | h
   ·have := HG7.out b h.1; omega
   ·omega)).mono (G := fun b => w.heap.size ≤ b ∧ b < w9.heap.size) (fun b hb => ⟨by
   rcases hb.1 with h | h
   ·have := HG7.out b h.1; have := HK6.out.size; omega
   ·have := HK7.out.size; omega, Nat.lt_of_lt_of_le hb.2 KR.size⟩))
  clear KR hO8 hp8 hk8
  go_wp2_with fail
  rw [← hw9]
  refine bodyPost_ret (y07 rfl _ _ ro 61 _ (0, 0) _ rfl HZ.out Tryz.underlying61 rfl (by rw [HI.out]; rfl)) rfl ?_
  rw [HN.out, ← HLE.out]
  exact ⟨_, rfl, ⟨_, _, rfl, HPF.out, rfl, by simp⟩, HKF.out⟩
end
theorem ya7 (c : Pure.Cfg) : c.rules.length ≤ 1000 := by
 unfold Pure.Cfg.rules
 cases c.server <;> cases c.pfc <;> cases c.acfc <;> by_cases h : c.mrru = 0 <;> simp [h]
section
variable {w : World} {k : LF} {R : Nat → Prop} {f : NF} {x : Pure.Lcp}
theorem yhu (h : LObj w k R f x) {l : List Pure.Opt} (hl : Pure.Fine l) (B : Bool) (qs : List (Value × Pure.Opt)) (hq : y02 qs = (x.verdict l B).2) : FewOpts qs := by
 have hj : ∀ qs : List (Value × Pure.Opt), y02 qs = (Pure.judge x.n.rules l B).2 → FewOpts qs := fun qs hq => judged_few h.obj (by rw [h.same]; exact ya7 _) hl qs hq
 have h1 : ∀ (qs : List (Value × Pure.Opt)) (t : Int) (m n : Nat), y02 qs = [(t, Pure.wide m n)] → n ≤ 4 → FewOpts qs := fun qs t m n hq hn => by
  have hlen := congrArg List.length hq
  simp at hlen
  refine ⟨by omega, fun p hp => ?_⟩
  have h2 : p.2 ∈ y02 qs := List.mem_map.2 ⟨p, hp, rfl⟩
  rw [hq] at h2
  rw [List.mem_singleton.1 h2]
  show (Pure.wide m n).length ≤ _
  rw [Pure.wide_length]; omega
 unfold Pure.Lcp.verdict at hq
 split at hq
 ·exact hj qs hq
 ·unfold Pure.looped at hq
  split at hq
  ·exact hj qs hq
  ·split at hq
   ·exact h1 qs _ _ _ hq (by omega)
   ·exact h1 qs _ _ _ hq (by omega)
theorem yg1 (h : LObj w k R f x) (Fz : Nat → Prop) (u : Value) (zs : List (Value × Pure.Opt)) (B : Bool) (hz : ORow w Fz u zs) (hfz : Pure.Fine (y02 zs)) : y7l f.gm.j w u B (x.verdict (y02 zs) B) :=
 ⟨_, _, by rw [h.gm], run_judge, fun w' K => ljudge_any (h.quiet K) Fz u zs B (hz.keeps K (fun _ _ e => e)) hfz⟩
theorem ybf (h : LObj w k R f x) (F : Nat → Prop) (p : Pure.Pkt) (d : Value) (a : Addr) (hg : y17 w) (hs : y2d w a) (hF : ∀ b, F b → b < w.heap.size ∧ b ≠ k.g ∧ b ≠ k.gm) (hd : Row w F 1 d p.data.length (u8s p.data)) (hnk : x.n.naks ≤ 1000) (hdr : x.n.dropped ≤ 1000000) (hc : p.code < 8 ∨ 11 < p.code) :
  ∃ N : Pure.Neg × Pure.Said, N.1.rules = x.n.rules ∧ x.input p = x.with N ∧
   Calls Tryz.prog 77 #[.pointer (some ⟨k.g, 0, none⟩), pktV p d] w fun e w' => ∃ v, e = .returned v ∧ Outs w w' v N.2 ∧ y18 w w' k.g R f N.1 := by
 by_cases hr : x.n.refuses p
 ·refine ⟨x.n.drop, rfl, Pure.lcp_refused h.obj.well hc hr, ?_⟩
  have := yfz F R k.g f x.n d p a w hg hs h.obj (fun b hb => (hF b hb).1) hd hr hdr
  rw [Pure.input_refused h.obj.well hr] at this
  exact this
 ·refine ⟨_, ?_, Pure.lcp_heeded h.obj.well hc hr, ?_⟩
  ·rw [Pure.eventP_rules]
   exact (yb0 x.n p _).2.2.1
  ·have hfine : p.code = 1 → Pure.Fine (Pure.split p.data).2 := fun hc => Pure.fine_of_split (Classical.byContradiction fun e => hr (.inr (.inl ⟨hc, e⟩)))
   exact input_by F R k.g f x.n d p _ a w hg hs h.obj (fun b hb => ⟨(hF b hb).1, (hF b hb).2.1, by rw [h.gm']; exact (hF b hb).2.2⟩) hd hr hnk
    (fun hc Fz uv zs W hW K hz he => by
     have he : y02 zs = (Pure.split p.data).2 := he.trans (y4n (.inl hc))
     rw [← he]
     exact yg1 (h.quiet K) Fz uv zs _ hz (by rw [he]; exact hfine hc))
    (fun hc qs hq => yhu h (hfine hc) _ qs hq)
theorem yed (h : LObj w k R f x) (Q : Nat) (a : Addr) (hg : y17 w) (hs : y2d w a) (hnk : x.n.naks ≤ 1000) (hdr : x.n.dropped ≤ 1000000) :
  Calls Tryz.prog 76 #[.pointer (some ⟨k.l, 0, none⟩), .int .i64 (Q : Int)] w fun r w' => ∃ v, r = .returned v ∧ y3g w w' v (if Q = 49185 then x.input ⟨7, 0, [1]⟩ else (x, ⟨Pure.mute, Q⟩)).2 ∧ y1k w w' k R (if Q = 49185 then x.input ⟨7, 0, [1]⟩ else (x, ⟨Pure.mute, Q⟩)).1 := by
 have HI := xhd y35
 obtain ⟨ro, hro⟩ : ∃ q, q = w.heap.size := ⟨_, rfl⟩
 obtain ⟨w1, hw1⟩ : ∃ q, q = w.alloc (.cells y23.toArray 61) := ⟨_, rfl⟩
 have hk1 : Keeps y01 w w1 := by rw [hw1]; exact (Keeps.refl _ w).alloc _
 have HO := xhd (show Blk w1 ro 61 y23.toArray by rw [hw1, hro]; exact Blk.new w _ _)
 have h1 := h.quiet hk1
 have hgl := h.obj.blk.lt
 have hml := Blk.lt h.obj.mach
 have hgm := h.gm'
 have HRG := xhd (show ro ≠ k.g by omega)
 have HRM := xhd (show ro ≠ f.gm by omega)
 have HNR := xhd (show ¬ R ro from fun e => by have := h.obj.lt ro e; omega)
 have HRL := xhd (show ro < w1.heap.size from HO.out.lt)
 have HR0 := xhd (show w.heap.size ≤ ro by omega)
 have HH := xhd h
 have HK1 := xhd hk1
 by_cases hq : Q = 49185
 case neg =>
  have qn : ((Q : Int) == 49185) = false := by rw [beq_eq_false_iff_ne]; omega
  rw [if_neg hq]
  have hO1 := HO.out
  have HRO := HR0
  clear h hk1 h1 hgl hml hgm hnk hdr hg hs hq
  have z0 : (w1).cell? ⟨ro, 0, none⟩ = some (.slice none 0 0) := by rw [hO1.cell]; rfl
  have f0 := hO1.frozen 0
  have z1 : (w1).cell? ⟨ro, 1, none⟩ = some (.bool false) := by rw [hO1.cell]; rfl
  have f1 := hO1.frozen 1
  have z2 : (w1).cell? ⟨ro, 2, none⟩ = some (.bool false) := by rw [hO1.cell]; rfl
  have f2 := hO1.frozen 2
  have z3 : (w1).cell? ⟨ro, 3, none⟩ = some (.bool false) := by rw [hO1.cell]; rfl
  have f3 := hO1.frozen 3
  have z4 : (w1).cell? ⟨ro, 4, none⟩ = some (.bool false) := by rw [hO1.cell]; rfl
  have f4 := hO1.frozen 4
  have z5 : (w1).cell? ⟨ro, 5, none⟩ = some (.int .i64 0) := by rw [hO1.cell]; rfl
  have f5 := hO1.frozen 5
  obtain ⟨w9, hw9⟩ : ∃ q, q = (World.setCell ((World.setCell ((World.setCell ((World.setCell ((World.setCell ((World.setCell (w1) ⟨ro, 0, none⟩ (.slice none 0 0))) ⟨ro, 1, none⟩ (.bool false))) ⟨ro, 2, none⟩ (.bool false))) ⟨ro, 3, none⟩ (.bool false))) ⟨ro, 4, none⟩ (.bool false))) ⟨ro, 5, none⟩ (.int .i64 (Q : Int))) := ⟨_, rfl⟩
  have HZ := xhd (show Blk w9 (ro) 61 #[.slice none 0 0, .bool false, .bool false, .bool false, .bool false, .int .i64 (Q : Int)] by rw [hw9]; exact ((((((hO1.set 0 (.slice none 0 0)).set 1 (.bool false)).set 2 (.bool false)).set 3 (.bool false)).set 4 (.bool false)).set 5 (.int .i64 (Q : Int))))
  have KR : Keeps (only (ro)) (w1) w9 := by rw [hw9]; exact (((((((Keeps.refl (only (ro)) (w1)).put 0 (.slice none 0 0)).put 1 (.bool false)).put 2 (.bool false)).put 3 (.bool false)).put 4 (.bool false)).put 5 (.int .i64 (Q : Int)))
  have HKF := xhd (show Keeps y01 w w9 from HK1.out.trans' KR (fun i hi hl => by have e : i = ro := hi; have := HRO.out; omega))
  clear KR hO1
  go_enter Tryz.func76, Tryz.ntmps76
  go_upto_region 1 with fail
  rw [← hro]
  rw [show w.alloc (.cells #[.slice none 0 0, .bool false, .bool false, .bool false, .bool false, .int .i64 0] 61) = w1 from hw1.symm]
  clear hw1 hro
  go_wp2_with fail
  rw [← hw9]
  refine bodyPost_ret (y07 rfl _ _ ro 61 _ (0, 0) _ rfl HZ.out Tryz.underlying61 rfl (by rw [HI.out]; rfl)) rfl ?_
  exact ⟨_, rfl, ⟨_, [], rfl, PRow.nil _ _, rfl, by simp⟩, HH.out.stays HKF.out⟩
 case pos =>
  subst hq
  rw [if_pos rfl]
  obtain ⟨bb, hbb⟩ : ∃ q, q = w1.heap.size := ⟨_, rfl⟩
  obtain ⟨wq, hwq⟩ : ∃ q, q = w1.alloc (.cells #[.int .u8 1] 5) := ⟨_, rfl⟩
  have hkq : Keeps y01 w1 wq := by rw [hwq]; exact (Keeps.refl _ w1).alloc _
  have hBq : Blk wq bb 5 #[.int .u8 1] := by rw [hwq, hbb]; exact Blk.new w1 _ _
  have hk0q := hk1.trans hkq
  have hrow : Row wq (fun b => b = bb) 1 (.slice (some ⟨bb, 0, none⟩) 1 1) 1 (u8s [1]) := Row.block (F := fun b => b = bb) (n := 1) (c := 1) (size := 1) hBq rfl rfl (by unfold maxLen; omega) (Nat.le_refl _)
  have hbl := hBq.lt
  obtain ⟨N, hNr, hNx, hNc⟩ := ybf (h.quiet hk0q) (fun b => b = bb) ⟨7, 0, [1]⟩ (.slice (some ⟨bb, 0, none⟩) 1 1) a (hg.keeps hk0q (fun e => e)) (hs.keeps hk0q (fun e => e)) (fun b hb => ⟨by rw [hb]; exact hbl, by have := HRL.out; omega, by have := HRL.out; omega⟩) hrow hnk hdr (.inl (by decide))
  have HNR2 := xhd hNr
  have HNX := xhd hNx
  have HNC := xhd hNc
  obtain ⟨XX, hXX⟩ : ∃ q, q = x.input ⟨7, 0, [1]⟩ := ⟨_, rfl⟩
  rw [← hXX]
  have HXX := xhd hXX
  have c0 : w1.cell? ⟨k.l, 0, none⟩ = some (.pointer (some ⟨k.g, 0, none⟩)) := h1.blk.cell 0
  have HK1Q := xhd hk0q
  have HO1 := HO
  have HO := xhd (HO1.out.keeps hkq (fun e => e))
  have HRLQ := xhd (show ro < wq.heap.size from HO.out.lt)
  clear h hk1 h1 hgl hml hgm hnk hdr hg hs hkq hBq hk0q hrow hbl hNr hNx hNc hXX HO1 HRL
  have HRL := HRLQ
  go_enter Tryz.func76, Tryz.ntmps76
  go_upto_region 1 with fail
  rw [← hro]
  rw [show w.alloc (.cells #[.slice none 0 0, .bool false, .bool false, .bool false, .bool false, .int .i64 0] 61) = w1 from hw1.symm]
  clear hw1 hro
  go_wp2_with fail
  rw [← hbb, ← hwq]
  clear hbb hwq
  refine HNC.out.mono ?_
  rintro e' w5 ⟨v, rfl, hout, hbec⟩
  clear HNC
  have hRo : Blk w5 ro 61 y23.toArray := by
   obtain ⟨_, _, _, _, _, hk⟩ := hbec
   exact HO.out.keeps hk (fun e => by rcases e with e | e; exact HRG.out e; exact HRM.out e)
  have hfar := fun w'' (K : Keeps (only ro) w5 w'') => (hout.far K HRL.out).since HK1Q.out.size
  have hcl := fun w'' (K : Keeps (only ro) w5 w'') => hbec.close (f := f) rfl (fun b hb => .inl hb) (HK1Q.out.mono (fun _ e => e.elim)) K HR0.out HRL.out (fun e => HRG.out e.symm) (fun e => HRM.out e.symm) HNR.out
  obtain ⟨sv, ps, rfl, hprow, hpk, hfw⟩ := hout
  obtain ⟨A6, c6, rfl, _⟩ := hprow.form
  have z0 : w5.cell? ⟨ro, 0, none⟩ = some (.slice none 0 0) := by rw [hRo.cell]; rfl
  have f0 := hRo.frozen 0
  have z1 : w5.cell? ⟨ro, 1, none⟩ = some (.bool false) := by rw [hRo.cell]; rfl
  have f1 := hRo.frozen 1
  have z2 : w5.cell? ⟨ro, 2, none⟩ = some (.bool false) := by rw [hRo.cell]; rfl
  have f2 := hRo.frozen 2
  have z3 : w5.cell? ⟨ro, 3, none⟩ = some (.bool false) := by rw [hRo.cell]; rfl
  have f3 := hRo.frozen 3
  have z4 : w5.cell? ⟨ro, 4, none⟩ = some (.bool false) := by rw [hRo.cell]; rfl
  have f4 := hRo.frozen 4
  have z5 : w5.cell? ⟨ro, 5, none⟩ = some (.int .i64 0) := by rw [hRo.cell]; rfl
  have f5 := hRo.frozen 5
  obtain ⟨O1, hO1⟩ : ∃ b, b = (N.2).up := ⟨_, rfl⟩
  obtain ⟨O2, hO2⟩ : ∃ b, b = (N.2).down := ⟨_, rfl⟩
  obtain ⟨O3, hO3⟩ : ∃ b, b = (N.2).start := ⟨_, rfl⟩
  obtain ⟨O4, hO4⟩ : ∃ b, b = (N.2).done := ⟨_, rfl⟩
  rw [← hO1, ← hO2, ← hO3, ← hO4] at hfar ⊢
  have HZ := xhd ((((((hRo.set 0 (.slice A6 ps.length c6)).set 1 (.bool O1)).set 2 (.bool O2)).set 3 (.bool O3)).set 4 (.bool O4)).set 5 (.int .i64 0))
  have KR := (((((((Keeps.refl (only ro) w5).put 0 (.slice A6 ps.length c6)).put 1 (.bool O1)).put 2 (.bool O2)).put 3 (.bool O3)).put 4 (.bool O4)).put 5 (.int .i64 0))
  have HFAR := xhd (hfar _ KR)
  have HCL := xhd (HH.out.turned HNR2.out (hcl _ KR))
  have HO1 := xhd hO1
  have HO2 := xhd hO2
  have HO3 := xhd hO3
  have HO4 := xhd hO4
  clear hRo hfar hcl hprow hpk hfw KR hO1 hO2 hO3 hO4 hbec
  go_wp2_with fail
  refine bodyPost_ret (y07 rfl _ _ ro 61 _ (0, 0) _ rfl HZ.out Tryz.underlying61 rfl (by rw [HI.out]; rfl)) rfl ?_
  obtain ⟨sv', ps', e', hp', hs', hf'⟩ := HFAR.out
  injection e' with e'
  have e0 : sv' = .slice A6 ps.length c6 := by
   have := congrArg (fun a => a[0]?) e'
   simpa using this.symm
  subst e0
  rw [HXX.out, HNX.out]
  refine ⟨_, rfl, ⟨_, ps', ?_, hp', hs', hf'⟩, HCL.out⟩
  show Value.agg _ = Value.agg #[_, .bool (N.2).up, .bool (N.2).down, .bool (N.2).start, .bool (N.2).done, .int .i64 0]
  rw [← HO1.out, ← HO2.out, ← HO3.out, ← HO4.out]
  rfl
end
theorem y1k.close {w0 W w' w'' : World} {k : LF} {R : Nat → Prop} {x : Pure.Lcp} {ro : Nat} (hB : y1k W w' k R x) (k0 : Keeps y01 w0 W) (K : Keeps (only ro) w' w'') (h0 : w0.heap.size ≤ ro) (hW : ro < W.heap.size) (hl : ro ≠ k.l) (hg : ro ≠ k.g) (hm : ro ≠ k.gm) (hR : ¬ R ro) : y1k w0 w'' k R x := by
 obtain ⟨f', R', h1, h2, h3⟩ := hB
 refine ⟨f', R', h1.keeps K (fun e => hl (by have e : k.l = ro := e; exact e.symm)) (fun e => hg (by have e : k.g = ro := e; exact e.symm)) (fun e => hm (by have e : k.gm = ro := e; exact e.symm)) (fun b hb e => ?_), fun b hb => ?_, ?_⟩
 ·have e : b = ro := e
  subst e
  rcases h2 _ hb with h | h
  ·exact hR h
  ·omega
 ·rcases h2 b hb with h | h
  ·exact .inl h
  ·exact .inr (Nat.le_trans k0.size h)
 ·exact ((k0.mono (fun _ e => e.elim)).trans h3).trans' K (fun i hi hl => by have e : i = ro := hi; omega)
theorem y3g.close {w0 W w' w'' : World} {v : Value} {o : Pure.LSaid} {ro : Nat} (h : y3g W w' v o) (K : Keeps (only ro) w' w'') (hs : w0.heap.size ≤ W.heap.size) (hW : ro < W.heap.size) : y3g w0 w'' v o := by
 obtain ⟨sv, ps, h1, h2, h3, h4⟩ := h
 exact ⟨sv, ps, h1, (h2.keeps K (fun b hb e => by have e : b = ro := e; have := hb.1; omega)).mono (fun b hb => ⟨Nat.le_trans hs hb.1, Nat.lt_of_lt_of_le hb.2 K.size⟩), h3, h4⟩
theorem yg0 {w : World} {k : LF} {R : Nat → Prop} {f : NF} {x : Pure.Lcp} (_ : LObj w k R f x) {pi : Int} {pd : List UInt8} (hb : ¬ x.passes ⟨8, pi, pd⟩) : x.input ⟨7, 0, [1]⟩ = x.with (x.n.input ⟨7, 0, [1]⟩) := by
 have h9 : x.n.m.state = 9 := Classical.byContradiction fun e => hb (.inr (.inl ⟨rfl, .inr e⟩))
 unfold Pure.Lcp.input
 rw [if_neg (by omega), if_neg (show ¬ (7 : Int) = 1 by decide), if_neg (show ¬ (7 : Int) = 8 by decide), if_neg (show ¬ (7 : Int) = 9 by decide), if_neg (show ¬ ((7 : Int) = 10 ∨ (7 : Int) = 11) by decide)]
section
variable {w : World} {k : LF} {R : Nat → Prop} {f : NF} {x : Pure.Lcp}
theorem y4q (h : LObj w k R f x) (F : Nat → Prop) (p : Pure.Pkt) (d : Value) (a : Addr) (hg : y17 w) (hs : y2d w a) (hF : ∀ b, F b → b < w.heap.size ∧ b ≠ k.g ∧ b ≠ k.gm) (hd : Row w F 1 d p.data.length (u8s p.data)) (hnk : x.n.naks ≤ 1000) (hdr : x.n.dropped ≤ 1000000) (hL : p.data.length ≤ 1000000) :
  Calls Tryz.prog 30 #[.pointer (some ⟨k.l, 0, none⟩), pktV p d] w fun r w' => ∃ v, r = .returned v ∧ y3g w w' v (x.input p).2 ∧ y1k w w' k R (x.input p).1 := by
 obtain ⟨D, cd, rfl, hcap⟩ := hd.form
 obtain ⟨pc, pi, pd⟩ := p
 dsimp only at hd hcap hL
 have HI := xhd y35
 have hgl := h.obj.blk.lt
 have hml := Blk.lt h.obj.mach
 have hll := h.blk.lt
 have hgm := h.gm'
 obtain ⟨pb, hpb⟩ : ∃ q, q = w.heap.size := ⟨_, rfl⟩
 obtain ⟨ro, hro⟩ : ∃ q, q = pb + 1 := ⟨_, rfl⟩
 obtain ⟨w1, hw1⟩ : ∃ q, q = (w.alloc (.cells #[.int .i64 pc, .int .i64 pi, .slice D pd.length cd] 56)).alloc (.cells y23.toArray 61) := ⟨_, rfl⟩
 have hk1 : Keeps y01 w w1 := by rw [hw1]; exact ((Keeps.refl _ w).alloc _).alloc _
 have hP : Blk w1 pb 56 #[.int .i64 pc, .int .i64 pi, .slice D pd.length cd] := by rw [hw1, hpb]; exact (Blk.new w _ _).alloc _
 have HO := xhd (show Blk w1 ro 61 y23.toArray by
  rw [hw1, hro, show pb + 1 = (w.alloc (.cells #[.int .i64 pc, .int .i64 pi, .slice D pd.length cd] 56)).heap.size by rw [hpb]; simp]
  exact Blk.new _ _ _)
 have c0 : w1.cell? ⟨pb, 0, none⟩ = some (.int .i64 pc) := by rw [hP.cell]; rfl
 have c1 : w1.cell? ⟨pb, 1, none⟩ = some (.int .i64 pi) := by rw [hP.cell]; rfl
 have c2 : w1.cell? ⟨pb, 2, none⟩ = some (.slice D pd.length cd) := by rw [hP.cell]; rfl
 have HC := xhd (And.intro c0 (And.intro c1 c2))
 have h1 := h.quiet hk1
 have HDR := xhd (ldrops_any h1 ⟨pc, pi, pd⟩ D cd)
 have HH := xhd h
 have HG := xhd hg
 have HS := xhd hs
 have HF := xhd hF
 have HD := xhd hd
 have HK1 := xhd hk1
 have HRO := xhd (show w.heap.size ≤ ro by omega)
 have HRP := xhd (show ro = w.heap.size + 1 by omega)
 have HPB := xhd (show pb = w.heap.size from hpb)
 have HRN := xhd (show ro ≠ k.l ∧ ro ≠ k.g ∧ ro ≠ k.gm ∧ pb ≠ k.g ∧ pb ≠ k.gm by omega)
 have HNR := xhd (show ¬ R ro from fun e => by have := h.obj.lt ro e; omega)
 have HNK := xhd hnk
 have HDD := xhd hdr
 have HL := xhd hL
 have HCAP := xhd hcap
 obtain ⟨XX, hXX⟩ : ∃ q, q = x.input ⟨pc, pi, pd⟩ := ⟨_, rfl⟩
 rw [← hXX]
 have HXX := xhd hXX
 clear h hk1 hP h1 hg hs hF hd hnk hdr hL hcap hXX hgl hml hll hgm
 go_enter Tryz.func30, Tryz.ntmps30
 go_upto_region 1 with fail
 rw [← hpb, ← hro]
 rw [show (w.alloc (.cells #[.int .i64 pc, .int .i64 pi, .slice D pd.length cd] 56)).alloc (.cells #[.slice none 0 0, .bool false, .bool false, .bool false, .bool false, .int .i64 0] 61) = w1 from hw1.symm]
 clear hw1 hpb hro
 go_wp2_with fail
 refine HDR.out.mono ?_
 rintro e w2 ⟨bd, rfl, hbd, hk2⟩
 have HK2 := xhd (HK1.out.trans hk2)
 have HO2 := xhd (HO.out.keeps hk2 (fun e => e))
 have HC2 := xhd (And.intro (y04 HC.out.1 hk2) (And.intro (y04 HC.out.2.1 hk2) (y04 HC.out.2.2 hk2)))
 have HBD := xhd hbd
 have H2 := xhd (HH.out.quiet HK2.out)
 have HW2 := xhd (show ro < w2.heap.size from HO2.out.lt)
 clear hbd hk2 HO HC HDR c0 c1 c2
 cases bd
 case true =>
  have HN := xhd (show XX = x.with x.n.drop from HXX.out.trans (Pure.lcp_drop (HBD.out.1 rfl)))
  have HNG := xhd (y1y H2.out)
  have HDP := xhd (ndrop_any k.g R f x.n w2 H2.out.obj HDD.out)
  clear HBD HXX
  go_wp2_with fail
  refine HNG.out.mono ?_
  rintro e w3 ⟨rfl, rfl⟩
  go_wp2_with fail
  refine HDP.out.mono ?_
  rintro e w3 ⟨rfl, hbec⟩
  have hk3 : Keeps (fun b => b = k.g ∨ b = k.gm) w2 w3 := by
   obtain ⟨_, _, _, _, _, hk⟩ := hbec
   rw [HH.out.gm'] at hk
   exact hk
  have hO3 := HO2.out.keeps hk3 (fun e => e.elim HRN.out.2.1 HRN.out.2.2.1)
  have hLB := H2.out.turned (n' := x.n.drop.1) rfl hbec
  have HLB := xhd hLB
  clear hbec hLB
  have z0 : (w3).cell? ⟨ro, 0, none⟩ = some (.slice none 0 0) := by rw [hO3.cell]; rfl
  have f0 := hO3.frozen 0
  have z1 : (w3).cell? ⟨ro, 1, none⟩ = some (.bool false) := by rw [hO3.cell]; rfl
  have f1 := hO3.frozen 1
  have z2 : (w3).cell? ⟨ro, 2, none⟩ = some (.bool false) := by rw [hO3.cell]; rfl
  have f2 := hO3.frozen 2
  have z3 : (w3).cell? ⟨ro, 3, none⟩ = some (.bool false) := by rw [hO3.cell]; rfl
  have f3 := hO3.frozen 3
  have z4 : (w3).cell? ⟨ro, 4, none⟩ = some (.bool false) := by rw [hO3.cell]; rfl
  have f4 := hO3.frozen 4
  have z5 : (w3).cell? ⟨ro, 5, none⟩ = some (.int .i64 0) := by rw [hO3.cell]; rfl
  have f5 := hO3.frozen 5
  obtain ⟨w9, hw9⟩ : ∃ q, q = (World.setCell ((World.setCell ((World.setCell ((World.setCell ((World.setCell ((World.setCell (w3) ⟨ro, 0, none⟩ (.slice none 0 0))) ⟨ro, 1, none⟩ (.bool false))) ⟨ro, 2, none⟩ (.bool false))) ⟨ro, 3, none⟩ (.bool false))) ⟨ro, 4, none⟩ (.bool false))) ⟨ro, 5, none⟩ (.int .i64 0)) := ⟨_, rfl⟩
  have HZ := xhd (show Blk w9 (ro) 61 #[.slice none 0 0, .bool false, .bool false, .bool false, .bool false, .int .i64 0] by rw [hw9]; exact ((((((hO3.set 0 (.slice none 0 0)).set 1 (.bool false)).set 2 (.bool false)).set 3 (.bool false)).set 4 (.bool false)).set 5 (.int .i64 0)))
  have KR : Keeps (only (ro)) (w3) w9 := by rw [hw9]; exact (((((((Keeps.refl (only (ro)) (w3)).put 0 (.slice none 0 0)).put 1 (.bool false)).put 2 (.bool false)).put 3 (.bool false)).put 4 (.bool false)).put 5 (.int .i64 0))
  have HCL := xhd (HLB.out.close HK2.out KR HRO.out HW2.out HRN.out.1 HRN.out.2.1 HRN.out.2.2.1 HNR.out)
  clear KR hO3 hk3
  go_wp2_with fail
  rw [← hw9]
  refine bodyPost_ret (y07 rfl _ _ ro 61 _ (0, 0) _ rfl HZ.out Tryz.underlying61 rfl (by rw [HI.out]; rfl)) rfl ?_
  rw [HN.out]
  exact ⟨_, rfl, ⟨_, [], rfl, PRow.nil _ _, rfl, by simp⟩, HCL.out⟩
 case false =>
  have HBF := xhd (show ¬ x.passes ⟨pc, pi, pd⟩ from fun e => by have := HBD.out.2 e; cases this)
  clear HBD
  obtain ⟨c0, c1, c2⟩ := HC2.out
  by_cases h9 : pc = 9
  ·subst h9
   have HN := xhd (show XX = (x, .of (if x.n.m.state = 9 then ⟨[⟨10, pi, Pure.wide x.mine.magic 4 ++ pd.drop 4⟩], false, false, false, false⟩ else Pure.mute)) from HXX.out.trans (Pure.lcp_echo HH.out.obj.well.good rfl HBF.out))
   have HEC := xhd (lecho_any H2.out F ⟨9, pi, pd⟩ (.slice D pd.length cd) (HD.out.keeps HK2.out (fun _ _ e => e)) (fun b hb => Nat.lt_of_lt_of_le (HF.out b hb).1 HK2.out.size) (Classical.byContradiction fun e => HBF.out (.inl ⟨rfl, .inr (by show pd.length < 4; have e : ¬ 4 ≤ pd.length := e; omega)⟩)) HL.out)
   clear HBF HXX
   go_wp2_with fail
   refine HEC.out.mono ?_
   rintro e w3 ⟨v, rfl, hlo, hk3⟩
   have hO3 := HO2.out.keeps hk3 (fun e => e)
   have HLB := xhd (H2.out.stays hk3)
   have HLO := xhd hlo
   obtain ⟨sv, ps, rfl, hp3, _, _⟩ := hlo
   obtain ⟨A3, c3, rfl, _⟩ := hp3.form
   obtain ⟨SS, hSS⟩ : ∃ q, q = (Pure.LSaid.of (if x.n.m.state = 9 then ⟨[⟨10, pi, Pure.wide x.mine.magic 4 ++ pd.drop 4⟩], false, false, false, false⟩ else Pure.mute)) := ⟨_, rfl⟩
   rw [← hSS] at HLO HN ⊢
   obtain ⟨O1, hO1⟩ : ∃ b, b = SS.said.up := ⟨_, rfl⟩
   obtain ⟨O2, hO2⟩ : ∃ b, b = SS.said.down := ⟨_, rfl⟩
   obtain ⟨O3, hO3b⟩ : ∃ b, b = SS.said.start := ⟨_, rfl⟩
   obtain ⟨O4, hO4⟩ : ∃ b, b = SS.said.done := ⟨_, rfl⟩
   obtain ⟨O5, hO5⟩ : ∃ b, b = (SS.reject : Int) := ⟨_, rfl⟩
   rw [← hO1, ← hO2, ← hO3b, ← hO4, ← hO5] at HLO ⊢
   clear hO1 hO2 hO3b hO4 hO5 hSS hp3
   have z0 : (w3).cell? ⟨ro, 0, none⟩ = some (.slice none 0 0) := by rw [hO3.cell]; rfl
   have f0 := hO3.frozen 0
   have z1 : (w3).cell? ⟨ro, 1, none⟩ = some (.bool false) := by rw [hO3.cell]; rfl
   have f1 := hO3.frozen 1
   have z2 : (w3).cell? ⟨ro, 2, none⟩ = some (.bool false) := by rw [hO3.cell]; rfl
   have f2 := hO3.frozen 2
   have z3 : (w3).cell? ⟨ro, 3, none⟩ = some (.bool false) := by rw [hO3.cell]; rfl
   have f3 := hO3.frozen 3
   have z4 : (w3).cell? ⟨ro, 4, none⟩ = some (.bool false) := by rw [hO3.cell]; rfl
   have f4 := hO3.frozen 4
   have z5 : (w3).cell? ⟨ro, 5, none⟩ = some (.int .i64 0) := by rw [hO3.cell]; rfl
   have f5 := hO3.frozen 5
   obtain ⟨w9, hw9⟩ : ∃ q, q = (World.setCell ((World.setCell ((World.setCell ((World.setCell ((World.setCell ((World.setCell (w3) ⟨ro, 0, none⟩ (.slice A3 ps.length c3))) ⟨ro, 1, none⟩ (.bool O1))) ⟨ro, 2, none⟩ (.bool O2))) ⟨ro, 3, none⟩ (.bool O3))) ⟨ro, 4, none⟩ (.bool O4))) ⟨ro, 5, none⟩ (.int .i64 O5)) := ⟨_, rfl⟩
   have HZ := xhd (show Blk w9 (ro) 61 #[.slice A3 ps.length c3, .bool O1, .bool O2, .bool O3, .bool O4, .int .i64 O5] by rw [hw9]; exact ((((((hO3.set 0 (.slice A3 ps.length c3)).set 1 (.bool O1)).set 2 (.bool O2)).set 3 (.bool O3)).set 4 (.bool O4)).set 5 (.int .i64 O5)))
   have KR : Keeps (only (ro)) (w3) w9 := by rw [hw9]; exact (((((((Keeps.refl (only (ro)) (w3)).put 0 (.slice A3 ps.length c3)).put 1 (.bool O1)).put 2 (.bool O2)).put 3 (.bool O3)).put 4 (.bool O4)).put 5 (.int .i64 O5))
   have HCL := xhd (HLB.out.close HK2.out KR HRO.out HW2.out HRN.out.1 HRN.out.2.1 HRN.out.2.2.1 HNR.out)
   have HLC := xhd (HLO.out.close KR HK2.out.size HW2.out)
   clear KR hO3
   go_wp2_with fail
   rw [← hw9]
   refine bodyPost_ret (y07 rfl _ _ ro 61 _ (0, 0) _ rfl HZ.out Tryz.underlying61 rfl (by rw [HI.out]; rfl)) rfl ?_
   rw [HN.out]
   exact ⟨_, rfl, HLC.out, HCL.out⟩
  have b9 : (pc == 9) = false := by rw [beq_eq_false_iff_ne]; exact h9
  by_cases h10 : pc = 10
  ·subst h10
   have HN := xhd (show XX = (x, .of Pure.mute) from HXX.out.trans (Pure.lcp_mute (.inl rfl) HBF.out))
   have hO2 := HO2.out
   have HLB := xhd (HH.out.stays HK2.out)
   clear HBF HXX h9
   have z0 : (w2).cell? ⟨ro, 0, none⟩ = some (.slice none 0 0) := by rw [hO2.cell]; rfl
   have f0 := hO2.frozen 0
   have z1 : (w2).cell? ⟨ro, 1, none⟩ = some (.bool false) := by rw [hO2.cell]; rfl
   have f1 := hO2.frozen 1
   have z2 : (w2).cell? ⟨ro, 2, none⟩ = some (.bool false) := by rw [hO2.cell]; rfl
   have f2 := hO2.frozen 2
   have z3 : (w2).cell? ⟨ro, 3, none⟩ = some (.bool false) := by rw [hO2.cell]; rfl
   have f3 := hO2.frozen 3
   have z4 : (w2).cell? ⟨ro, 4, none⟩ = some (.bool false) := by rw [hO2.cell]; rfl
   have f4 := hO2.frozen 4
   have z5 : (w2).cell? ⟨ro, 5, none⟩ = some (.int .i64 0) := by rw [hO2.cell]; rfl
   have f5 := hO2.frozen 5
   obtain ⟨w9, hw9⟩ : ∃ q, q = (World.setCell ((World.setCell ((World.setCell ((World.setCell ((World.setCell ((World.setCell (w2) ⟨ro, 0, none⟩ (.slice none 0 0))) ⟨ro, 1, none⟩ (.bool false))) ⟨ro, 2, none⟩ (.bool false))) ⟨ro, 3, none⟩ (.bool false))) ⟨ro, 4, none⟩ (.bool false))) ⟨ro, 5, none⟩ (.int .i64 0)) := ⟨_, rfl⟩
   have HZ := xhd (show Blk w9 (ro) 61 #[.slice none 0 0, .bool false, .bool false, .bool false, .bool false, .int .i64 0] by rw [hw9]; exact ((((((hO2.set 0 (.slice none 0 0)).set 1 (.bool false)).set 2 (.bool false)).set 3 (.bool false)).set 4 (.bool false)).set 5 (.int .i64 0)))
   have KR : Keeps (only (ro)) (w2) w9 := by rw [hw9]; exact (((((((Keeps.refl (only (ro)) (w2)).put 0 (.slice none 0 0)).put 1 (.bool false)).put 2 (.bool false)).put 3 (.bool false)).put 4 (.bool false)).put 5 (.int .i64 0))
   have HCL := xhd (H2.out.stays (Keeps.refl y01 w2))
   have HCL := xhd (HCL.out.close HK2.out KR HRO.out HW2.out HRN.out.1 HRN.out.2.1 HRN.out.2.2.1 HNR.out)
   clear KR hO2
   go_wp2_with fail
   rw [← hw9]
   refine bodyPost_ret (y07 rfl _ _ ro 61 _ (0, 0) _ rfl HZ.out Tryz.underlying61 rfl (by rw [HI.out]; rfl)) rfl ?_
   rw [HN.out]
   exact ⟨_, rfl, ⟨_, [], rfl, PRow.nil _ _, rfl, by simp⟩, HCL.out⟩
  have b10 : (pc == 10) = false := by rw [beq_eq_false_iff_ne]; exact h10
  by_cases h11 : pc = 11
  ·subst h11
   have HN := xhd (show XX = (x, .of Pure.mute) from HXX.out.trans (Pure.lcp_mute (.inr rfl) HBF.out))
   have hO2 := HO2.out
   have HLB := xhd (HH.out.stays HK2.out)
   clear HBF HXX h9
   have z0 : (w2).cell? ⟨ro, 0, none⟩ = some (.slice none 0 0) := by rw [hO2.cell]; rfl
   have f0 := hO2.frozen 0
   have z1 : (w2).cell? ⟨ro, 1, none⟩ = some (.bool false) := by rw [hO2.cell]; rfl
   have f1 := hO2.frozen 1
   have z2 : (w2).cell? ⟨ro, 2, none⟩ = some (.bool false) := by rw [hO2.cell]; rfl
   have f2 := hO2.frozen 2
   have z3 : (w2).cell? ⟨ro, 3, none⟩ = some (.bool false) := by rw [hO2.cell]; rfl
   have f3 := hO2.frozen 3
   have z4 : (w2).cell? ⟨ro, 4, none⟩ = some (.bool false) := by rw [hO2.cell]; rfl
   have f4 := hO2.frozen 4
   have z5 : (w2).cell? ⟨ro, 5, none⟩ = some (.int .i64 0) := by rw [hO2.cell]; rfl
   have f5 := hO2.frozen 5
   obtain ⟨w9, hw9⟩ : ∃ q, q = (World.setCell ((World.setCell ((World.setCell ((World.setCell ((World.setCell ((World.setCell (w2) ⟨ro, 0, none⟩ (.slice none 0 0))) ⟨ro, 1, none⟩ (.bool false))) ⟨ro, 2, none⟩ (.bool false))) ⟨ro, 3, none⟩ (.bool false))) ⟨ro, 4, none⟩ (.bool false))) ⟨ro, 5, none⟩ (.int .i64 0)) := ⟨_, rfl⟩
   have HZ := xhd (show Blk w9 (ro) 61 #[.slice none 0 0, .bool false, .bool false, .bool false, .bool false, .int .i64 0] by rw [hw9]; exact ((((((hO2.set 0 (.slice none 0 0)).set 1 (.bool false)).set 2 (.bool false)).set 3 (.bool false)).set 4 (.bool false)).set 5 (.int .i64 0)))
   have KR : Keeps (only (ro)) (w2) w9 := by rw [hw9]; exact (((((((Keeps.refl (only (ro)) (w2)).put 0 (.slice none 0 0)).put 1 (.bool false)).put 2 (.bool false)).put 3 (.bool false)).put 4 (.bool false)).put 5 (.int .i64 0))
   have HCL := xhd (H2.out.stays (Keeps.refl y01 w2))
   have HCL := xhd (HCL.out.close HK2.out KR HRO.out HW2.out HRN.out.1 HRN.out.2.1 HRN.out.2.2.1 HNR.out)
   clear KR hO2
   go_wp2_with fail
   rw [← hw9]
   refine bodyPost_ret (y07 rfl _ _ ro 61 _ (0, 0) _ rfl HZ.out Tryz.underlying61 rfl (by rw [HI.out]; rfl)) rfl ?_
   rw [HN.out]
   exact ⟨_, rfl, ⟨_, [], rfl, PRow.nil _ _, rfl, by simp⟩, HCL.out⟩
  have b11 : (pc == 11) = false := by rw [beq_eq_false_iff_ne]; exact h11
  by_cases h8 : pc = 8
  ·subst h8
   have h2l : 2 ≤ pd.length := Classical.byContradiction fun e => HBF.out (.inr (.inl ⟨rfl, .inl (by show pd.length < 2; omega)⟩))
   have h2i : (2 : Int) ≤ (pd.length : Int) := by omega
   have hci : (2 : Int) ≤ (cd : Int) := by have := HCAP.out; omega
   obtain ⟨Q, hQ⟩ : ∃ q, q = Pure.bnum (pd.take 2) := ⟨_, rfl⟩
   have HN := xhd (show XX = (if Q = 49185 then x.input ⟨7, 0, [1]⟩ else (x, ⟨Pure.mute, Q⟩)) from HXX.out.trans (by rw [Pure.lcp_rejected HH.out.obj.well.good rfl HBF.out, hQ, yg0 HH.out HBF.out]))
   have hT : Row w2 F 1 (.slice D 2 cd) 2 (u8s (pd.take 2)) := by
    have := (HD.out.keeps HK2.out (fun _ _ e => e)).take1 2 h2l
    rw [← List.map_take] at this
    exact this
   have hOF := y3z F (.slice D 2 cd) (pd.take 2) w2 (by rw [List.length_take, Nat.min_eq_left h2l]; exact hT) (by rw [List.length_take]; omega)
   rw [← hQ] at hOF
   have HOF := xhd hOF
   have HRJ := xhd (yed H2.out Q a (HG.out.keeps HK2.out (fun e => e)) (HS.out.keeps HK2.out (fun e => e)) HNK.out HDD.out)
   obtain ⟨NN, hNN⟩ : ∃ q, q = (if Q = 49185 then x.input ⟨7, 0, [1]⟩ else (x, ⟨Pure.mute, Q⟩)) := ⟨_, rfl⟩
   rw [← hNN] at HRJ HN
   clear HBF HXX h9 h10 h11 hQ hT hOF hNN
   go_wp2_with fail
   refine HOF.out.mono ?_
   rintro e w3 ⟨rfl, rfl⟩
   go_wp2_with fail
   refine HRJ.out.mono ?_
   rintro e w3 ⟨v, rfl, hlo, hlb⟩
   have hk3 : Keeps (fun b => b = k.g ∨ b = k.gm) w2 w3 := by
    obtain ⟨_, _, _, _, hk⟩ := hlb
    exact hk
   have hO3 := HO2.out.keeps hk3 (fun e => e.elim HRN.out.2.1 HRN.out.2.2.1)
   have HLB := xhd hlb
   have HLO := xhd hlo
   obtain ⟨sv, ps, rfl, hp3, _, _⟩ := hlo
   obtain ⟨A3, c3, rfl, _⟩ := hp3.form
   obtain ⟨O1, hO1⟩ : ∃ b, b = NN.2.said.up := ⟨_, rfl⟩
   obtain ⟨O2, hO2⟩ : ∃ b, b = NN.2.said.down := ⟨_, rfl⟩
   obtain ⟨O3, hO3b⟩ : ∃ b, b = NN.2.said.start := ⟨_, rfl⟩
   obtain ⟨O4, hO4⟩ : ∃ b, b = NN.2.said.done := ⟨_, rfl⟩
   obtain ⟨O5, hO5⟩ : ∃ b, b = (NN.2.reject : Int) := ⟨_, rfl⟩
   rw [← hO1, ← hO2, ← hO3b, ← hO4, ← hO5] at HLO ⊢
   clear hO1 hO2 hO3b hO4 hO5 hp3 hlb hk3
   have z0 : (w3).cell? ⟨ro, 0, none⟩ = some (.slice none 0 0) := by rw [hO3.cell]; rfl
   have f0 := hO3.frozen 0
   have z1 : (w3).cell? ⟨ro, 1, none⟩ = some (.bool false) := by rw [hO3.cell]; rfl
   have f1 := hO3.frozen 1
   have z2 : (w3).cell? ⟨ro, 2, none⟩ = some (.bool false) := by rw [hO3.cell]; rfl
   have f2 := hO3.frozen 2
   have z3 : (w3).cell? ⟨ro, 3, none⟩ = some (.bool false) := by rw [hO3.cell]; rfl
   have f3 := hO3.frozen 3
   have z4 : (w3).cell? ⟨ro, 4, none⟩ = some (.bool false) := by rw [hO3.cell]; rfl
   have f4 := hO3.frozen 4
   have z5 : (w3).cell? ⟨ro, 5, none⟩ = some (.int .i64 0) := by rw [hO3.cell]; rfl
   have f5 := hO3.frozen 5
   obtain ⟨w9, hw9⟩ : ∃ q, q = (World.setCell ((World.setCell ((World.setCell ((World.setCell ((World.setCell ((World.setCell (w3) ⟨ro, 0, none⟩ (.slice A3 ps.length c3))) ⟨ro, 1, none⟩ (.bool O1))) ⟨ro, 2, none⟩ (.bool O2))) ⟨ro, 3, none⟩ (.bool O3))) ⟨ro, 4, none⟩ (.bool O4))) ⟨ro, 5, none⟩ (.int .i64 O5)) := ⟨_, rfl⟩
   have HZ := xhd (show Blk w9 (ro) 61 #[.slice A3 ps.length c3, .bool O1, .bool O2, .bool O3, .bool O4, .int .i64 O5] by rw [hw9]; exact ((((((hO3.set 0 (.slice A3 ps.length c3)).set 1 (.bool O1)).set 2 (.bool O2)).set 3 (.bool O3)).set 4 (.bool O4)).set 5 (.int .i64 O5)))
   have KR : Keeps (only (ro)) (w3) w9 := by rw [hw9]; exact (((((((Keeps.refl (only (ro)) (w3)).put 0 (.slice A3 ps.length c3)).put 1 (.bool O1)).put 2 (.bool O2)).put 3 (.bool O3)).put 4 (.bool O4)).put 5 (.int .i64 O5))
   have HCL := xhd (HLB.out.close HK2.out KR HRO.out HW2.out HRN.out.1 HRN.out.2.1 HRN.out.2.2.1 HNR.out)
   have HLC := xhd (HLO.out.close KR HK2.out.size HW2.out)
   clear KR hO3
   go_wp2_with fail
   rw [← hw9]
   refine bodyPost_ret (y07 rfl _ _ ro 61 _ (0, 0) _ rfl HZ.out Tryz.underlying61 rfl (by rw [HI.out]; rfl)) rfl ?_
   rw [HN.out]
   exact ⟨_, rfl, HLC.out, HCL.out⟩
  have b8 : (pc == 8) = false := by rw [beq_eq_false_iff_ne]; exact h8
  have hF2 : ∀ b, F b → b < w2.drew.heap.size ∧ b ≠ k.g ∧ b ≠ k.gm := fun b hb => ⟨Nat.lt_of_lt_of_le (HF.out b hb).1 HK2.out.size, (HF.out b hb).2⟩
  have hkd : Keeps y01 w2 w2.drew := (Keeps.refl y01 w2).drew
  obtain ⟨N, hNr, hNx, hNc⟩ := ybf (H2.out.quiet hkd) F ⟨pc, pi, pd⟩ (.slice D pd.length cd) a ((HG.out.keeps HK2.out (fun e => e)).keeps hkd (fun e => e)) ((HS.out.keeps HK2.out (fun e => e)).keeps hkd (fun e => e)) hF2 ((HD.out.keeps HK2.out (fun _ _ e => e)).keeps hkd (fun _ _ e => e)) HNK.out HDD.out (show pc < 8 ∨ 11 < pc by omega)
  have HN := xhd (show XX = x.with N from HXX.out.trans hNx)
  have HNR2 := xhd hNr
  have HNC := xhd hNc
  have HNG := xhd (y1y (H2.out.quiet hkd))
  have HC0 := HC2
  have HKZ2 := xhd (Keeps.refl y01 w2)
  clear HBF HXX h9 h10 h11 h8 hF2 hkd hNr hNx hNc c1 c2
  go_upto_region 12 with fail
  clear c0 b9 b10 b11 b8
  refine y0b (fun w' => w'.cell? ⟨pb, 0, none⟩ = some (.int .i64 pc) ∧ w'.cell? ⟨pb, 1, none⟩ = some (.int .i64 pi) ∧ w'.cell? ⟨pb, 2, none⟩ = some (.slice D pd.length cd)) 5 6 rfl (by kernel_rfl) ⟨HC0.out.1, HC0.out.2.1, HC0.out.2.2⟩ (fun hHeld => ?_)
  have HSW := hHeld
  clear hHeld
  have HK0d := xhd (HKZ2.out.drew)
  refine y00 (i := 0) rfl (by kernel_rfl) (fun _ _ _ h => h) (Or.inl ⟨by rfl, by intro w hSw; obtain ⟨s0, s1, s2⟩ := hSw; go_simp; try with_reducible rfl⟩) HSW.out ?_
  simp only [Act.put, xqA, xqB, xqD, xqE, xqF]
  refine y00 (i := 2) rfl (by kernel_rfl) (fun _ _ _ h => h) (Or.inl ⟨by rfl, by intro w hSw; obtain ⟨s0, s1, s2⟩ := hSw; go_simp; try with_reducible rfl⟩) HSW.out ?_
  simp only [Act.put, xqA, xqB, xqC, xqD, xqE, xqF]
  refine y03 (i := 1) (by kernel_rfl) rfl (fun K hK => ?_)
  try rw [if_pos (by rfl)]
  go_simp
  refine HNG.out.mono ?_
  rintro e w3 ⟨rfl, rfl⟩
  refine hK.out _ _ (fun _ => HSW.out) ?_
  clear hK K
  try simp only [Act.put, xqA, Nat.reduceAdd, xqB, xqC, xqD, xqE, xqF]
  refine y03 (i := 3) (by kernel_rfl) rfl (fun K hK => ?_)
  try rw [if_pos (by rfl)]
  go_simp
  refine HNC.out.mono ?_
  rintro e w5 ⟨v, rfl, hout, hbec⟩
  have hk5 : Keeps (fun b => b = k.g ∨ b = k.gm) w2.drew w5 := by
   obtain ⟨_, _, _, _, _, hk⟩ := hbec
   rw [HH.out.gm'] at hk
   exact hk
  have HO5 := xhd ((HO2.out.keeps ((Keeps.refl y01 w2).drew) (fun e => e)).keeps hk5 (fun e => e.elim HRN.out.2.1 HRN.out.2.2.1))
  have HLB := xhd ((H2.out.quiet ((Keeps.refl y01 w2).drew)).turned HNR2.out hbec)
  have HLO := xhd hout
  obtain ⟨sv, ps, rfl, hp5, _, _⟩ := hout
  obtain ⟨A3, c3, rfl, _⟩ := hp5.form
  have HS5 := xhd (show w5.cell? ⟨pb, 0, none⟩ = some (.int .i64 pc) ∧ w5.cell? ⟨pb, 1, none⟩ = some (.int .i64 pi) ∧ w5.cell? ⟨pb, 2, none⟩ = some (.slice D pd.length cd) from ⟨y1l hk5 HSW.out.1 (fun e => e.elim HRN.out.2.2.2.1 HRN.out.2.2.2.2), y1l hk5 HSW.out.2.1 (fun e => e.elim HRN.out.2.2.2.1 HRN.out.2.2.2.2), y1l hk5 HSW.out.2.2 (fun e => e.elim HRN.out.2.2.2.1 HRN.out.2.2.2.2)⟩)
  obtain ⟨O1, hO1⟩ : ∃ b, b = N.2.up := ⟨_, rfl⟩
  obtain ⟨O2, hO2⟩ : ∃ b, b = N.2.down := ⟨_, rfl⟩
  obtain ⟨O3, hO3⟩ : ∃ b, b = N.2.start := ⟨_, rfl⟩
  obtain ⟨O4, hO4⟩ : ∃ b, b = N.2.done := ⟨_, rfl⟩
  rw [← hO1, ← hO2, ← hO3, ← hO4] at HLO ⊢
  have HOE1 := xhd hO1
  have HOE2 := xhd hO2
  have HOE3 := xhd hO3
  have HOE4 := xhd hO4
  clear hp5 hbec hk5 hO1 hO2 hO3 hO4
  refine hK.out _ _ (fun _ => HS5.out) ?_
  clear hK K
  try simp only [Act.put, xqA, Nat.reduceAdd, xqB, xqC, xqD, xqE, xqF]
  refine y00 (i := 4) rfl (by kernel_rfl) (fun _ _ _ h => h) (Or.inl ⟨by rfl, by intro w hSw; obtain ⟨s0, s1, s2⟩ := hSw; go_simp; try with_reducible rfl⟩) HS5.out ?_
  simp only [Act.put, xqA, xqB, xqC, xqD, xqE, xqF]
  have hO5 := HO5.out
  have z0 : (w5).cell? ⟨ro, 0, none⟩ = some (.slice none 0 0) := by rw [hO5.cell]; rfl
  have f0 := hO5.frozen 0
  have z1 : (w5).cell? ⟨ro, 1, none⟩ = some (.bool false) := by rw [hO5.cell]; rfl
  have f1 := hO5.frozen 1
  have z2 : (w5).cell? ⟨ro, 2, none⟩ = some (.bool false) := by rw [hO5.cell]; rfl
  have f2 := hO5.frozen 2
  have z3 : (w5).cell? ⟨ro, 3, none⟩ = some (.bool false) := by rw [hO5.cell]; rfl
  have f3 := hO5.frozen 3
  have z4 : (w5).cell? ⟨ro, 4, none⟩ = some (.bool false) := by rw [hO5.cell]; rfl
  have f4 := hO5.frozen 4
  have z5 : (w5).cell? ⟨ro, 5, none⟩ = some (.int .i64 0) := by rw [hO5.cell]; rfl
  have f5 := hO5.frozen 5
  obtain ⟨w9, hw9⟩ : ∃ q, q = (World.setCell ((World.setCell ((World.setCell ((World.setCell ((World.setCell ((World.setCell (w5) ⟨ro, 0, none⟩ (.slice A3 ps.length c3))) ⟨ro, 1, none⟩ (.bool O1))) ⟨ro, 2, none⟩ (.bool O2))) ⟨ro, 3, none⟩ (.bool O3))) ⟨ro, 4, none⟩ (.bool O4))) ⟨ro, 5, none⟩ (.int .i64 0)) := ⟨_, rfl⟩
  have HZ := xhd (show Blk w9 (ro) 61 #[.slice A3 ps.length c3, .bool O1, .bool O2, .bool O3, .bool O4, .int .i64 0] by rw [hw9]; exact ((((((hO5.set 0 (.slice A3 ps.length c3)).set 1 (.bool O1)).set 2 (.bool O2)).set 3 (.bool O3)).set 4 (.bool O4)).set 5 (.int .i64 0)))
  have KR : Keeps (only (ro)) (w5) w9 := by rw [hw9]; exact (((((((Keeps.refl (only (ro)) (w5)).put 0 (.slice A3 ps.length c3)).put 1 (.bool O1)).put 2 (.bool O2)).put 3 (.bool O3)).put 4 (.bool O4)).put 5 (.int .i64 0))
  have HKR := xhd KR
  have HW9 := xhd hw9
  clear KR hO5 hw9
  refine y03 (i := 5) (by kernel_rfl) rfl (fun K hK => ?_)
  go_simp
  refine hK.out _ _ (fun h => absurd rfl h) ?_
  clear hK K
  refine y09 (by kernel_rfl) ?_ _
  rw [← HW9.out]
  go_wp2_with fail
  refine bodyPost_ret (y07 rfl _ _ ro 61 _ (0, 0) _ rfl HZ.out Tryz.underlying61 rfl (by rw [HI.out]; rfl)) rfl ?_
  rw [HN.out]
  have hcl := HLB.out.close (w0 := w) (HK2.out.drew) HKR.out HRO.out HW2.out HRN.out.1 HRN.out.2.1 HRN.out.2.2.1 HNR.out
  obtain ⟨sv', ps', e', hp', hs', hf'⟩ := HLO.out
  injection e' with e'
  have e0 : sv' = .slice A3 ps.length c3 := by
   have := congrArg (fun a => a[0]?) e'
   simpa using this.symm
  subst e0
  refine ⟨_, rfl, ⟨_, ps', ?_, (hp'.keeps HKR.out (fun b hb e => by have e : b = ro := e; have h1 := hb.1; have h2 := HW2.out; have h3 : w2.drew.heap.size = w2.heap.size := rfl; omega)).mono (fun b hb => ⟨Nat.le_trans HK2.out.size hb.1, Nat.lt_of_lt_of_le hb.2 HKR.out.size⟩), hs', hf'⟩, hcl⟩
  show Value.agg _ = Value.agg #[_, .bool N.2.up, .bool N.2.down, .bool N.2.start, .bool N.2.done, .int .i64 0]
  rw [← HOE1.out, ← HOE2.out, ← HOE3.out, ← HOE4.out]
end
end Go.Proofs.YtmgicbckgpdkcaaGreatDoor
