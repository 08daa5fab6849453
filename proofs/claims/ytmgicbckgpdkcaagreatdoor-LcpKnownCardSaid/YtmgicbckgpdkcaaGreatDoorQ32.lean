/- Package nego: New. -/
import Derived.Test.YtmgicbckgpdkcaaGreatDoorQ27
import Derived.Laws.EntriesVeiled
namespace Go.Proofs.YtmgicbckgpdkcaaGreatDoor
set_option maxRecDepth 100000
set_option maxHeartbeats 8000000
open _root_.Go.Lib renaming hid → xhd
open Go.RowKit
theorem newneg_any (Fu Fx : Nat → Prop) (xu x : Value) (us : List (Value × Pure.Rule)) (zs : List (Value × Pure.Opt)) (t u : Nat) (w : World) (hu : RRow w Fu xu us) (hx : ORow w Fx x zs) (hF : ∀ b, Fx b → b < w.heap.size) (hfu : FewRules us) (hfx : Pure.Fine (optsOf zs)) (hm : mayBe t u) :
  Calls Tryz.prog 66 #[xu, x, .int .i64 (t : Int), .int .i64 (u : Int)] w fun e w' => ∃ g f R, e = .returned (.tuple #[.pointer (some ⟨g, 0, none⟩), .int .i64 0]) ∧ NObj w' g R f (Pure.newNeg (rulesOf us) (optsOf zs) t u) ∧ w.heap.size ≤ g ∧ (w.heap.size ≤ f.gm ∧ f.gm.j = byRules g) ∧ (∀ b, R b → w.heap.size ≤ b) ∧ Keeps nobody w w' := by
 obtain ⟨X, cx, rfl, _⟩ := hx.form
 obtain ⟨U, cu, rfl, _⟩ := hu.form
 have HX := xhd hx
 have HU := xhd hu
 have HF := xhd hF
 have HFU := xhd hfu
 have HFX := xhd hfx
 have HMB := xhd hm
 have HN := xhd (new_ok t u w hm)
 have hzl := hfx.len
 have hzl2 : zs.length ≤ 32 := by simpa using hzl
 clear hu hx hF hfu hfx hm hzl
 go_enter Tryz.func66, Tryz.ntmps66
 go_wp2_with fail
 refine HN.out.mono ?_
 rintro e w1 ⟨rfl, hm1, hk1⟩
 obtain ⟨gm, hgm⟩ : ∃ q, q = w.heap.size := ⟨_, rfl⟩
 rw [← hgm] at hm1 ⊢
 have HM1 := xhd hm1
 have HK1 := xhd hk1
 have HGM := xhd hgm
 have HIR := xhd (isRequest_any Fx (.slice X zs.length cx) zs w1 (fun b hb => Nat.lt_of_lt_of_le (HF.out b hb) hk1.size) (HX.out.keeps hk1 (fun _ _ h => h)))
 have HD := decide_eq_true (show (Pure.options (optsOf zs)).1 = 0 from Pure.fine_options HFX.out)
 rw [HD] at HIR
 clear hm1 hk1 hgm HN HD
 go_wp2_with fail
 refine HIR.out.mono ?_
 rintro e w2 ⟨rfl, hk2⟩
 have HM2 := xhd (HM1.out.keeps hk2 (fun h => h))
 have HK2 := xhd (HK1.out.trans hk2)
 have HCR := xhd (copiesOfRules_any Fu (.slice U us.length cu) us w2 (HU.out.keeps HK2.out (fun _ _ h => h)) HFU.out)
 clear hk2 HIR HM1
 go_wp2_with fail
 refine HCR.out.mono ?_
 rintro e w3 ⟨u3, q3, rfl, hq3, hr3⟩
 obtain ⟨A3, c3, rfl⟩ := own_form hr3.own
 have HQ3 := xhd hq3
 have HR3 := xhd hr3.row
 have HM3 := xhd (HM2.out.keeps hr3.kept (fun h => h))
 have HK3 := xhd (HK2.out.trans hr3.kept)
 have HS23 := xhd hr3.kept.size
 have HGW2 := xhd (show gm < w2.heap.size from Blk.lt HM2.out)
 have HCP := xhd (copies_any Fx (.slice X zs.length cx) zs w3 (HX.out.keeps HK3.out (fun _ _ h => h)) (by omega) (fine_few HFX.out).data)
 clear hq3 hr3 HCR
 go_wp2_with fail
 refine HCP.out.mono ?_
 rintro e w4 ⟨u4, q4, rfl, hq4, hr4⟩
 obtain ⟨A4, c4, rfl⟩ := own_form hr4.own
 have hk34 : Keeps nobody w3 w4 := Keeps.new hr4.below
 have HQ4 := xhd hq4
 have HR4 := xhd hr4.row.strong
 have HR3b := xhd (HR3.out.keeps hk34 (fun _ _ h => h))
 have HM4 := xhd (HM3.out.keeps hk34 (fun h => h))
 have HK4 := xhd (HK3.out.trans hk34)
 have HS34 := xhd hk34.size
 clear hq4 hr4 hk34 HCP HR3
 go_upto_region 7 with fail
 obtain ⟨w5a, hw5a⟩ : ∃ q, q = w4.alloc (.cells #[.pointer (some ⟨gm, 0, none⟩), .slice A3 q3.length c3, .nilFunc, .int .i64 (t : Int), .slice A4 q4.length c4, .slice none 0 0, .int .i64 0, .slice none 0 0, .bool false, .int .i64 0, .int .i64 0, .slice none 0 0, .slice none 0 0, .int .i64 0] 171) := ⟨_, rfl⟩
 obtain ⟨g, hg⟩ : ∃ q, q = w4.heap.size := ⟨_, rfl⟩
 rw [← hw5a, ← hg]
 have hk5a : Keeps nobody w4 w5a := by rw [hw5a]; exact (Keeps.refl _ w4).alloc _
 have hs5a : w5a.heap.size = g + 1 := by rw [hw5a, hg]; simp
 have hB5a : Blk w5a g 171 (⟨⟨gm, .nilFunc⟩, .slice A3 q3.length c3, t, .slice A4 q4.length c4, .slice none 0 0, 0, .slice none 0 0, false, 0, 0, .slice none 0 0, .slice none 0 0, 0⟩ : NF).list.toArray := by
  rw [hw5a, hg]
  exact Blk.new w4 _ _
 have c2 : w5a.cell? ⟨g, 2, none⟩ = some .nilFunc := by rw [hB5a.cell]; rfl
 have f2 := hB5a.frozen 2
 obtain ⟨w5, hw5⟩ : ∃ q, q = w5a.setCell ⟨g, 2, none⟩ (byRules g) := ⟨_, rfl⟩
 have hk5 : Keeps nobody w4 w5 := by rw [hw5]; exact hk5a.trans' ((Keeps.refl (only g) w5a).put 2 _) (fun i hi hl => by have e : i = g := hi; omega)
 have hs5 : w5.heap.size = g + 1 := by rw [hw5]; simp [hs5a]
 have HB5 := xhd (show NBlk w5 g (⟨⟨gm, byRules g⟩, .slice A3 q3.length c3, t, .slice A4 q4.length c4, .slice none 0 0, 0, .slice none 0 0, false, 0, 0, .slice none 0 0, .slice none 0 0, 0⟩ : NF) by
  rw [hw5]
  exact hB5a.set 2 (byRules g))
 clear hk5a hs5a hB5a hw5a
 have HM5 := xhd (HM4.out.keeps hk5 (fun h => h))
 have HR35 := xhd (HR3b.out.keeps hk5 (fun _ _ h => h))
 have HR45 := xhd (HR4.out.keeps hk5 (fun _ _ h => h))
 have HK5 := xhd (HK4.out.trans hk5)
 have HG := xhd hg
 have HS5 := xhd hs5
 have hl4 : q4.length = zs.length := by have := congrArg List.length HQ4.out; simpa using this
 have HF4 := xhd (fine_few (zs := q4) (by rw [HQ4.out]; exact HFX.out))
 have HBG := xhd (begin_any (fun b => w3.heap.size ≤ b ∧ b < w4.heap.size) g _ q4 w5 HB5.out HR45.out HF4.out)
 clear hg hk5 hs5 HM4 HR3b HR4 hl4
 go_upto_region 8 with fail
 rw [← hw5]
 clear hw5 c2 f2
 go_wp2_with fail
 refine HBG.out.mono ?_
 rintro e w6 ⟨rfl, u6, q6, hq6, hr6, hb6, hk6⟩
 obtain ⟨B6, c6, rfl, _⟩ := hr6.form
 have hg6 : g < w5.heap.size := HB5.out.lt
 have hgm6 : gm < w2.heap.size := HGW2.out
 have HOBJ := xhd (show NObj w6 g (fun b => w2.heap.size ≤ b ∧ b < w6.heap.size ∧ b ≠ g) _ (Pure.newNeg (rulesOf us) (optsOf zs) t u) from by
  have hks : ∀ b, b ≠ g → ¬ only g b := fun b hb e => hb e
  have hw := hk6.size
  have hS5 := HS5.out
  have hG := HG.out
  have h34 := HS34.out
  have h23 := HS23.out
  have hmb := HMB.out
  unfold mayBe at hmb
  have hW : (Pure.newNeg (rulesOf us) (optsOf zs) t u).Well := ⟨Pure.newMach_good (by omega) (by omega), by show t ≤ 1000; omega, by show u ≤ 1000; omega, by show 0 < 256; omega, HFX.out, HFX.out, Pure.fine_nil, rfl⟩
  refine ⟨hb6, HM5.out.keeps hk6 (fun e => by have e : gm = g := e; omega), hW, rfl, rfl, rfl, rfl, rfl, rfl, ⟨q3, ?_, HQ3.out, ?_⟩, ?_, ?_, ?_, ?_, ?_, fun b hb => hb.2.1, fun h => h.2.2 rfl, fun h => by have h1 : w2.heap.size ≤ gm := h.1; omega, by show g ≠ gm; omega⟩
  ·exact (HR35.out.keeps hk6 (fun b hb e => by have e : b = g := e; have := hb.2; omega)).mono (fun b hb => ⟨by rcases hb.1 with h | h <;> exact h, by have := hb.2; omega, by have := hb.2; omega⟩)
  ·refine ⟨?_, fun p hp => ?_⟩
   ·have := congrArg List.length HQ3.out
    simp at this
    rw [this]; exact HFU.out.len
   ·have h1 : p.2 ∈ rulesOf us := by rw [← HQ3.out]; exact List.mem_map.2 ⟨p, hp, rfl⟩
    obtain ⟨q, hq, he⟩ := List.mem_map.1 h1
    rw [← he]
    exact HFU.out.ok q hq
  ·exact ⟨q4, (HR45.out.keeps hk6 (fun b hb e => by have e : b = g := e; have := hb.2; omega)).mono (fun b hb => ⟨by have := hb.1; omega, by have := hb.2; omega, by have := hb.2; omega⟩), HQ4.out, HF4.out⟩
  ·refine ⟨q6, hr6.strong.mono (fun b hb => ⟨by have := hb.1; omega, hb.2, by have := hb.1; omega⟩), hq6.trans HQ4.out, fine_few ?_⟩
   rw [hq6, HQ4.out]; exact HFX.out
  ·exact ⟨[], ORow.nil _ _, rfl, by simp, by simp⟩
  ·exact ⟨[], ORow.nil _ _, rfl, by simp, by simp⟩
  ·exact ⟨[], ORow.nil _ _, rfl, by simp, by simp⟩)
 have HKF := xhd (show Keeps nobody w w6 from HK5.out.trans' hk6 (fun i hi hl => by have e : i = g := hi; have := HG.out; have := HK4.out.size; omega))
 have HGW := xhd (show w.heap.size ≤ g by have := HG.out; have := HK4.out.size; omega)
 have HMW := xhd (show w.heap.size ≤ gm by have := HGM.out; omega)
 have HRW := xhd (show ∀ b, (w2.heap.size ≤ b ∧ b < w6.heap.size ∧ b ≠ g) → w.heap.size ≤ b from fun b hb => Nat.le_trans HK2.out.size hb.1)
 clear hq6 hr6 hb6 hk6 hg6 hgm6 HBG
 go_wp2_with fail
 go_ret2
 exact ⟨g, _, _, rfl, HOBJ.out, HGW.out, ⟨HMW.out, rfl⟩, HRW.out, HKF.out⟩
end Go.Proofs.YtmgicbckgpdkcaaGreatDoor
