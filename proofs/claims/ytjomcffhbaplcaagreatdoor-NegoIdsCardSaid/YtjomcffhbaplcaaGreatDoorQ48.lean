/- Package nego: New. -/
import Derived.Test.YtjomcffhbaplcaaGreatDoorQ35
import Derived.Laws.EntriesVeiled
namespace Go.Proofs.YtjomcffhbaplcaaGreatDoor
open Go.RowKit
set_option maxRecDepth 100000 in
set_option maxHeartbeats 8000000 in
theorem newneg_any (Fu Fx : Nat → Prop) (xu x : Value) (us : List (Value × Pure.Rule)) (zs : List (Value × Pure.Opt)) (t u : Nat) (w : World) (hu : RRow w Fu xu us) (hx : ORow w Fx x zs) (hF : ∀ b, Fx b → b < w.heap.size) (hfu : FewRules us) (hfx : Pure.Fine (optsOf zs)) (hm : mayBe t u) :
    Calls Tryz.prog 13 #[xu, x, .int .i64 (t : Int), .int .i64 (u : Int)] w fun e w' => ∃ g f R, e = .returned (.tuple #[.pointer (some ⟨g, 0, none⟩), .int .i64 0]) ∧ NObj w' g R f (Pure.newNeg (rulesOf us) (optsOf zs) t u) ∧ w.heap.size ≤ g ∧ (w.heap.size ≤ f.gm ∧ f.gm.j = byRules g) ∧ (∀ b, R b → w.heap.size ≤ b) ∧ Keeps nobody w w' := by
  obtain ⟨X, cx, rfl, _⟩ := hx.form
  obtain ⟨U, cu, rfl, _⟩ := hu.form
  have HX := Lib.hid hx
  have HU := Lib.hid hu
  have HF := Lib.hid hF
  have HFU := Lib.hid hfu
  have HFX := Lib.hid hfx
  have HMB := Lib.hid hm
  have HN := Lib.hid (new_ok t u w hm)
  have hzl := hfx.len
  have hzl2 : zs.length ≤ 32 := by simpa using hzl
  clear hu hx hF hfu hfx hm hzl
  go_enter Tryz.func13, Tryz.ntmps13
  go_wp2_with fail
  refine HN.out.mono ?_
  rintro e w1 ⟨rfl, hm1, hk1⟩
  obtain ⟨gm, hgm⟩ : ∃ q, q = w.heap.size := ⟨_, rfl⟩
  rw [← hgm] at hm1 ⊢
  have HM1 := Lib.hid hm1
  have HK1 := Lib.hid hk1
  have HGM := Lib.hid hgm
  have HIR := Lib.hid (isRequest_any Fx (.slice X zs.length cx) zs w1 (fun b hb => Nat.lt_of_lt_of_le (HF.out b hb) hk1.size) (HX.out.keeps hk1 (fun _ _ h => h)))
  have HD := decide_eq_true (show (Pure.options (optsOf zs)).1 = 0 from Pure.fine_options HFX.out)
  rw [HD] at HIR
  clear hm1 hk1 hgm HN HD
  go_wp2_with fail
  refine HIR.out.mono ?_
  rintro e w2 ⟨rfl, hk2⟩
  have HM2 := Lib.hid (HM1.out.keeps hk2 (fun h => h))
  have HK2 := Lib.hid (HK1.out.trans hk2)
  have HCR := Lib.hid (copiesOfRules_any Fu (.slice U us.length cu) us w2 (HU.out.keeps HK2.out (fun _ _ h => h)) HFU.out)
  clear hk2 HIR HM1
  go_wp2_with fail
  refine HCR.out.mono ?_
  rintro e w3 ⟨u3, q3, rfl, hq3, hr3⟩
  obtain ⟨A3, c3, rfl⟩ := own_form hr3.own
  have HQ3 := Lib.hid hq3
  have HR3 := Lib.hid hr3.row
  have HM3 := Lib.hid (HM2.out.keeps hr3.kept (fun h => h))
  have HK3 := Lib.hid (HK2.out.trans hr3.kept)
  have HS23 := Lib.hid hr3.kept.size
  have HGW2 := Lib.hid (show gm < w2.heap.size from Blk.lt HM2.out)
  have HCP := Lib.hid (copies_any Fx (.slice X zs.length cx) zs w3 (HX.out.keeps HK3.out (fun _ _ h => h)) (by omega) (fine_few HFX.out).data)
  clear hq3 hr3 HCR
  go_wp2_with fail
  refine HCP.out.mono ?_
  rintro e w4 ⟨u4, q4, rfl, hq4, hr4⟩
  obtain ⟨A4, c4, rfl⟩ := own_form hr4.own
  have hk34 : Keeps nobody w3 w4 := Keeps.new hr4.below
  have HQ4 := Lib.hid hq4
  have HR4 := Lib.hid hr4.row.strong
  have HR3b := Lib.hid (HR3.out.keeps hk34 (fun _ _ h => h))
  have HM4 := Lib.hid (HM3.out.keeps hk34 (fun h => h))
  have HK4 := Lib.hid (HK3.out.trans hk34)
  have HS34 := Lib.hid hk34.size
  clear hq4 hr4 hk34 HCP HR3
  go_upto_region 7 with fail
  obtain ⟨w5a, hw5a⟩ : ∃ q, q = w4.alloc (.cells #[.pointer (some ⟨gm, 0, none⟩), .slice A3 q3.length c3, .nilFunc, .int .i64 (t : Int), .slice A4 q4.length c4, .slice none 0 0, .int .i64 0, .slice none 0 0, .bool false, .int .i64 0, .int .i64 0, .slice none 0 0, .slice none 0 0, .int .i64 0] 77) := ⟨_, rfl⟩
  obtain ⟨g, hg⟩ : ∃ q, q = w4.heap.size := ⟨_, rfl⟩
  rw [← hw5a, ← hg]
  have hk5a : Keeps nobody w4 w5a := by rw [hw5a]; exact (Keeps.refl _ w4).alloc _
  have hs5a : w5a.heap.size = g + 1 := by rw [hw5a, hg]; simp
  have hB5a : Blk w5a g 77 (⟨⟨gm, .nilFunc⟩, .slice A3 q3.length c3, t, .slice A4 q4.length c4, .slice none 0 0, 0, .slice none 0 0, false, 0, 0, .slice none 0 0, .slice none 0 0, 0⟩ : NF).list.toArray := by
    rw [hw5a, hg]
    exact Blk.new w4 _ _
  have c2 : w5a.cell? ⟨g, 2, none⟩ = some .nilFunc := by rw [hB5a.cell]; rfl
  have f2 := hB5a.frozen 2
  obtain ⟨w5, hw5⟩ : ∃ q, q = w5a.setCell ⟨g, 2, none⟩ (byRules g) := ⟨_, rfl⟩
  have hk5 : Keeps nobody w4 w5 := by rw [hw5]; exact hk5a.trans' ((Keeps.refl (only g) w5a).put 2 _) (fun i hi hl => by have e : i = g := hi; omega)
  have hs5 : w5.heap.size = g + 1 := by rw [hw5]; simp [hs5a]
  have HB5 := Lib.hid (show NBlk w5 g (⟨⟨gm, byRules g⟩, .slice A3 q3.length c3, t, .slice A4 q4.length c4, .slice none 0 0, 0, .slice none 0 0, false, 0, 0, .slice none 0 0, .slice none 0 0, 0⟩ : NF) by
    rw [hw5]
    exact hB5a.set 2 (byRules g))
  clear hk5a hs5a hB5a hw5a
  have HM5 := Lib.hid (HM4.out.keeps hk5 (fun h => h))
  have HR35 := Lib.hid (HR3b.out.keeps hk5 (fun _ _ h => h))
  have HR45 := Lib.hid (HR4.out.keeps hk5 (fun _ _ h => h))
  have HK5 := Lib.hid (HK4.out.trans hk5)
  have HG := Lib.hid hg
  have HS5 := Lib.hid hs5
  have hl4 : q4.length = zs.length := by have := congrArg List.length HQ4.out; simpa using this
  have HF4 := Lib.hid (fine_few (zs := q4) (by rw [HQ4.out]; exact HFX.out))
  have HBG := Lib.hid (begin_any (fun b => w3.heap.size ≤ b ∧ b < w4.heap.size) g _ q4 w5 HB5.out HR45.out HF4.out)
  clear hg hk5 hs5 HM4 HR3b HR4 hl4
  go_upto_region 8 with fail
  rw [← hw5]
  clear hw5 c2 f2
  go_wp2_with fail
  refine HBG.out.mono ?_
  rintro e w6 ⟨rfl, u6, q6, hq6, hr6, hb6, hk6⟩
  obtain ⟨B6, c6, rfl, _⟩ := hr6.form
  have hg6 : g < w5.heap.size := HB5.out.lt
  have hgm6 : gm < w2.heap.size := HGW2.out
  have HOBJ := Lib.hid (show NObj w6 g (fun b => w2.heap.size ≤ b ∧ b < w6.heap.size ∧ b ≠ g) _ (Pure.newNeg (rulesOf us) (optsOf zs) t u) from by
    have hks : ∀ b, b ≠ g → ¬ only g b := fun b hb e => hb e
    have hw := hk6.size
    have hS5 := HS5.out
    have hG := HG.out
    have h34 := HS34.out
    have h23 := HS23.out
    have hmb := HMB.out
    unfold mayBe at hmb
    have hW : (Pure.newNeg (rulesOf us) (optsOf zs) t u).Well := ⟨Pure.newMach_good (by omega) (by omega), by show t ≤ 1000; omega, by show u ≤ 1000; omega, by show 0 < 256; omega, HFX.out, HFX.out, Pure.fine_nil, rfl⟩
    refine ⟨hb6, HM5.out.keeps hk6 (fun e => by have e : gm = g := e; omega), hW, rfl, rfl, rfl, rfl, rfl, rfl, ⟨q3, ?_, HQ3.out, ?_⟩, ?_, ?_, ?_, ?_, ?_, fun b hb => hb.2.1, fun h => h.2.2 rfl, fun h => by have h1 : w2.heap.size ≤ gm := h.1; omega, by show g ≠ gm; omega⟩
    · exact (HR35.out.keeps hk6 (fun b hb e => by have e : b = g := e; have := hb.2; omega)).mono (fun b hb => ⟨by rcases hb.1 with h | h <;> exact h, by have := hb.2; omega, by have := hb.2; omega⟩)
    · refine ⟨?_, fun p hp => ?_⟩
      · have := congrArg List.length HQ3.out
        simp at this
        rw [this]; exact HFU.out.len
      · have h1 : p.2 ∈ rulesOf us := by rw [← HQ3.out]; exact List.mem_map.2 ⟨p, hp, rfl⟩
        obtain ⟨q, hq, he⟩ := List.mem_map.1 h1
        rw [← he]
        exact HFU.out.ok q hq
    · exact ⟨q4, (HR45.out.keeps hk6 (fun b hb e => by have e : b = g := e; have := hb.2; omega)).mono (fun b hb => ⟨by have := hb.1; omega, by have := hb.2; omega, by have := hb.2; omega⟩), HQ4.out, HF4.out⟩
    · refine ⟨q6, hr6.strong.mono (fun b hb => ⟨by have := hb.1; omega, hb.2, by have := hb.1; omega⟩), hq6.trans HQ4.out, fine_few ?_⟩
      rw [hq6, HQ4.out]; exact HFX.out
    · exact ⟨[], ORow.nil _ _, rfl, by simp, by simp⟩
    · exact ⟨[], ORow.nil _ _, rfl, by simp, by simp⟩
    · exact ⟨[], ORow.nil _ _, rfl, by simp, by simp⟩)
  have HKF := Lib.hid (show Keeps nobody w w6 from HK5.out.trans' hk6 (fun i hi hl => by have e : i = g := hi; have := HG.out; have := HK4.out.size; omega))
  have HGW := Lib.hid (show w.heap.size ≤ g by have := HG.out; have := HK4.out.size; omega)
  have HMW := Lib.hid (show w.heap.size ≤ gm by have := HGM.out; omega)
  have HRW := Lib.hid (show ∀ b, (w2.heap.size ≤ b ∧ b < w6.heap.size ∧ b ≠ g) → w.heap.size ≤ b from fun b hb => Nat.le_trans HK2.out.size hb.1)
  clear hq6 hr6 hb6 hk6 hg6 hgm6 HBG
  go_wp2_with fail
  go_ret2
  exact ⟨g, _, _, rfl, HOBJ.out, HGW.out, ⟨HMW.out, rfl⟩, HRW.out, HKF.out⟩
set_option maxRecDepth 100000 in
set_option maxHeartbeats 8000000 in
theorem newneg_bad (Fu Fx : Nat → Prop) (xu x : Value) (us : List (Value × Pure.Rule)) (zs : List (Value × Pure.Opt)) (t u : Nat) (w : World) (hu : RRow w Fu xu us) (hx : ORow w Fx x zs) (hF : ∀ b, Fx b → b < w.heap.size) (hfx : (Pure.options (optsOf zs)).1 ≠ 0) (hm : mayBe t u) :
    Calls Tryz.prog 13 #[xu, x, .int .i64 (t : Int), .int .i64 (u : Int)] w fun e w' => e = .returned (.tuple #[.pointer none, .int .i64 1]) ∧ Keeps nobody w w' := by
  obtain ⟨X, cx, rfl, _⟩ := hx.form
  obtain ⟨U, cu, rfl, _⟩ := hu.form
  have HX := Lib.hid hx
  have HF := Lib.hid hF
  have HN := Lib.hid (new_ok t u w hm)
  have HD := Lib.hid (decide_eq_false hfx)
  clear hu hx hF hfx hm
  go_enter Tryz.func13, Tryz.ntmps13
  go_wp2_with fail
  refine HN.out.mono ?_
  rintro e w1 ⟨rfl, hm1, hk1⟩
  have HK1 := Lib.hid hk1
  have HIR := Lib.hid (isRequest_any Fx (.slice X zs.length cx) zs w1 (fun b hb => Nat.lt_of_lt_of_le (HF.out b hb) hk1.size) (HX.out.keeps hk1 (fun _ _ h => h)))
  rw [HD.out] at HIR
  clear hm1 hk1 HN
  go_wp2_with fail
  refine HIR.out.mono ?_
  rintro e w2 ⟨rfl, hk2⟩
  have HK2 := Lib.hid (HK1.out.trans hk2)
  clear hk2 HIR
  go_wp2_with fail
  go_ret2
  exact ⟨rfl, HK2.out⟩
end Go.Proofs.YtjomcffhbaplcaaGreatDoor
/- The statements' rules, Rules. -/
namespace Go.Proofs.YtjomcffhbaplcaaGreatDoor
open Go.RowKit
set_option maxHeartbeats 2000000 in
theorem rules_any (w : World) : Calls Tryz.prog 28 #[] w fun e w' => ∃ u us, e = .returned u ∧ RRow w' (fun b => w.heap.size ≤ b ∧ b < w'.heap.size) u us ∧ rulesOf us = Pure.fewRules ∧ Keeps nobody w w' := by
  go_enter Tryz.func28, Tryz.ntmps28
  go_wp2_with fail
  go_ret
  have hb : Blk (w.alloc (.cells #[.int .i64 1, .int .i64 2, .int .i64 2, .int .i64 64, .int .i64 1500, .slice none 0 0, .bool false, .int .i64 5, .int .i64 4, .int .i64 1, .int .i64 0, .int .i64 0, .slice none 0 0, .bool false] 92)) w.heap.size 92 (rulesCells [(.slice none 0 0, Pure.rangeRule 64 1500), (.slice none 0 0, ⟨5, 4, 1, 0, 0, [], false⟩)]).toArray := Blk.new w _ _
  refine ⟨_, [(.slice none 0 0, Pure.rangeRule 64 1500), (.slice none 0 0, ⟨5, 4, 1, 0, 0, [], false⟩)], rfl, ⟨?_, fun p hp => ?_⟩, rfl, (Keeps.refl _ w).alloc _⟩
  · exact Row.block (F := fun b => w.heap.size ≤ b ∧ b < (w.alloc _).heap.size) (n := 2) (c := 2) (size := 7) hb ⟨Nat.le_refl _, by simp⟩ rfl (by unfold maxLen; omega) (Nat.le_refl _)
  · simp at hp
    rcases hp with rfl | rfl
    · exact Row.nil _ _ _
    · exact Row.nil _ _ _
theorem few_rules {us : List (Value × Pure.Rule)} (h : rulesOf us = Pure.fewRules) : FewRules us := by
  refine ⟨by have := congrArg List.length h; simp [Pure.fewRules] at this; omega, fun p hp => ?_⟩
  have h1 : p.2 ∈ Pure.fewRules := by rw [← h]; exact List.mem_map.2 ⟨p, hp, rfl⟩
  unfold Pure.fewRules at h1
  rcases List.mem_cons.1 h1 with h1 | h1
  · rw [h1]
    exact ⟨fun _ _ => by show (0 : Int) ≤ 64 ∧ (64 : Int) ≤ 1500 ∧ (1500 : Int) < 4294967296; omega, by simp [Pure.rangeRule]⟩
  · rw [List.mem_singleton.1 h1]
    exact ⟨fun _ _ => by show (0 : Int) ≤ 0 ∧ (0 : Int) ≤ 0 ∧ (0 : Int) < 4294967296; omega, by simp⟩
set_option maxRecDepth 100000 in
set_option maxHeartbeats 4000000 in
theorem asRules_any (F : Nat → Prop) (x : Value) (us : List (Value × Pure.Rule)) (w : World) (hx : RRow w F x us) (hF : ∀ b, F b → b < w.heap.size) (hul : us.length ≤ 100000) :
    Calls Tryz.prog 27 #[x] w fun e w' => ∃ u, ∃ qs : List (Value × Pure.Rule), e = .returned u ∧ rulesOf qs = rulesOf us ∧ RRead w w' F u qs := by
  obtain ⟨X, cx, rfl, _⟩ := hx.form
  have HX := Lib.hid hx
  have HF := Lib.hid hF
  clear hx hF
  go_enter Tryz.func27, Tryz.ntmps27
  go_wp2_with fail
  go_loopw [3, 4] (fun v i wr => ∃ k : Nat, k ≤ us.length ∧ i = .int .i64 (k : Int) ∧ ∃ qs : List (Value × Pure.Rule), rulesOf qs = (rulesOf us).take k ∧ qs.length = k ∧ RRead w wr F v qs) (fun _ i _ => us.length - (intOf i).toNat)
  case atStart => exact ⟨0, by omega, rfl, [], rfl, rfl, ⟨World.ownsRow_nil _ _ _ _, by simp, Keeps.refl _ _⟩⟩
  case round =>
    obtain ⟨k, hk, rfl, qs, hqs, rfl, hrd⟩ := hrel
    obtain ⟨A2, c2, rfl⟩ := own_form hrd.own
    have HQS := Lib.hid hqs
    have HRD := Lib.hid hrd
    clear hqs hrd
    by_cases hkl : qs.length < us.length
    · have i0' : (0 : Int) ≤ (qs.length : Int) := by omega
      have i1 : (qs.length : Int) < (us.length : Int) := by omega
      have d1 : decide ((qs.length : Int) < (us.length : Int)) = true := decide_eq_true (by omega)
      have d2 : decide (qs.length < us.length) = true := decide_eq_true hkl
      obtain ⟨bx, ox, pA, pc, pr, rfl, hFb, hcell, hwant, hpa⟩ := (HX.out.keeps HRD.out.kept (fun _ _ h => h)).pick qs.length hkl
      have HTK := Lib.hid (show (rulesOf us).take (qs.length + 1) = (rulesOf us).take qs.length ++ [pr] from Pure.take_snoc _ qs.length _ (by rw [List.getElem?_map, hpa]; rfl))
      have HRW := Lib.hid hwant
      have x0 : wr.cell? ⟨bx, ox + qs.length * 7, none⟩ = some (.int .i64 pr.type) := hcell 0 _ rfl
      have x1 := hcell 1 _ rfl
      have x2 := hcell 2 _ rfl
      have x3 := hcell 3 _ rfl
      have x4 := hcell 4 _ rfl
      have x5 := hcell 5 _ rfl
      have x6 := hcell 6 _ rfl
      clear hcell hwant hpa
      go_upto_region 6 with fail
      obtain ⟨w3, hw3⟩ : ∃ w3, w3 = wr.alloc (.cells (ruleCells (.slice pA pr.want.length pc, pr)).toArray 92) := ⟨_, rfl⟩
      obtain ⟨gr, hgr⟩ : ∃ gr, gr = wr.heap.size := ⟨_, rfl⟩
      rw [show wr.alloc (.cells #[.int .i64 pr.type, .int .i64 pr.len, .int .i64 pr.how, .int .i64 pr.lo, .int .i64 pr.hi, .slice pA pr.want.length pc, .bool pr.need] 92) = w3 from hw3.symm, ← hgr]
      have hk3 : Keeps nobody wr w3 := by rw [hw3]; exact (Keeps.refl _ wr).alloc _
      have HB5 := Lib.hid (show Blk w3 gr 92 (ruleCells (.slice pA pr.want.length pc, pr)).toArray by rw [hw3, hgr]; exact Blk.new wr _ _)
      have HR5 := Lib.hid (HRD.out.keeps hk3)
      have HD5 := Lib.hid ((HRW.out.keeps hk3 (fun _ _ h => h)).mono (G := fun b => F b ∧ (Value.slice A2 qs.length c2).ownBlock ≠ some b ∧ b < w3.heap.size) (fun b hb => by
        have h1 := HF.out b hb
        have h2 := HRD.out.kept.size
        have h3 := hk3.size
        exact ⟨hb, fun e => by have := ownsRow_ge HRD.out.own b e; omega, by omega⟩))
      have b0 : w3.cell? ⟨gr, 0, none⟩ = some (.int .i64 pr.type) := by rw [HB5.out.cell]; rfl
      have b1 : w3.cell? ⟨gr, 1, none⟩ = some (.int .i64 pr.len) := by rw [HB5.out.cell]; rfl
      have b2 : w3.cell? ⟨gr, 2, none⟩ = some (.int .i64 pr.how) := by rw [HB5.out.cell]; rfl
      have b3 : w3.cell? ⟨gr, 3, none⟩ = some (.int .i64 pr.lo) := by rw [HB5.out.cell]; rfl
      have b4 : w3.cell? ⟨gr, 4, none⟩ = some (.int .i64 pr.hi) := by rw [HB5.out.cell]; rfl
      have b5 : w3.cell? ⟨gr, 5, none⟩ = some (.slice pA pr.want.length pc) := by rw [HB5.out.cell]; rfl
      have b6 : w3.cell? ⟨gr, 6, none⟩ = some (.bool pr.need) := by rw [HB5.out.cell]; rfl
      clear hw3 hgr hk3 x0 x1 x2 x3 x4 x5 x6
      go_wp2_with (at_builtin; refine stopHere ?_)
      unfold Hid
      refine wp_append_rule rfl (.tmp 16) (.tmp 32) rfl w.heap.size (.slice A2 qs.length c2) qs (.slice pA pr.want.length pc) pr rfl rfl rfl HR5.out.own (by omega) HR5.out.kept.size ?_
      intro A6 c6 w6 hown6 hk6 hob6
      have HR6 := Lib.hid (HR5.out.more HD5.out hown6 hk6 hob6)
      have lw : wrap64 ((qs.length : Int) + 1) = ((qs.length + 1 : Nat) : Int) := by rw [IntWalk.wrap64_in _ (by omega)]; omega
      clear hown6 hk6 hob6 b0 b1 b2 b3 b4 b5 b6
      go_wp2_with fail
      go_roundw
      case rel => exact ⟨qs.length + 1, by omega, by go_num, qs ++ [(.slice pA pr.want.length pc, pr)], by rw [HTK.out, ← HQS.out]; simp [rulesOf], by simp, HR6.out⟩
      case measure => simp [intOf] <;> omega
    · have hkk : qs.length = us.length := by omega
      have d1 : decide ((qs.length : Int) < (us.length : Int)) = false := decide_eq_false (by omega)
      have d2 : decide (qs.length < us.length) = false := decide_eq_false (by omega)
      have HE := Lib.hid (show rulesOf qs = rulesOf us by rw [HQS.out]; exact List.take_of_length_le (by simp; omega))
      go_wp2
      go_ret
      exact ⟨_, qs, rfl, HE.out, HRD.out⟩
/-- The few rules as the program has them. -/
theorem few_made {F : Nat → Prop} {w0 w : World} {u : Value} {qs us : List (Value × Pure.Rule)} (h : RRead w0 w F u qs) (he : rulesOf qs = rulesOf us) (hf : rulesOf us = Pure.fewRules) : RRow w (fun b => (F b ∨ w0.heap.size ≤ b) ∧ b < w.heap.size) u qs ∧ rulesOf qs = Pure.fewRules ∧ FewRules qs :=
  ⟨h.row, he.trans hf, few_rules (he.trans hf)⟩
end Go.Proofs.YtjomcffhbaplcaaGreatDoor
/- Chapter 13's statements: awake. -/
namespace Go.Proofs.YtjomcffhbaplcaaGreatDoor
open Go.RowKit
/-- A literal list of one option. -/
theorem one_opt {w : World} {b b2 : Nat} {t : Int} {l : List UInt8} (h1 : Blk w b 5 (u8s l).toArray) (h2 : Blk w b2 54 #[.int .i64 t, .slice (some ⟨b, 0, none⟩) l.length l.length]) (hl : l.length ≤ 1000) :
    ORow w (fun x => x = b ∨ x = b2) (.slice (some ⟨b2, 0, none⟩) 1 1) [(.slice (some ⟨b, 0, none⟩) l.length l.length, (t, l))] := by
  refine ⟨Row.block (F := fun x => x = b ∨ x = b2) (n := 1) (c := 1) (size := 2) (cs := #[.int .i64 t, .slice (some ⟨b, 0, none⟩) l.length l.length]) h2 (.inr rfl) rfl (by unfold maxLen; omega) (Nat.le_refl _), fun p hp => ?_⟩
  simp at hp
  subst hp
  have h := Row.block (F := fun x => x = b ∨ x = b2) (n := l.length) (c := l.length) (size := 1) h1 (.inl rfl) (by simp) (by unfold maxLen; omega) (Nat.le_refl _)
  simpa using h
theorem lit_one (W : World) (cs : Array Value) (t : Int) (l : List UInt8) (n : Nat) (hc : cs = (u8s l).toArray) (hn : n = l.length) (hl : l.length ≤ 1000) :
    ORow ((W.alloc (.cells cs 5)).alloc (.cells #[.int .i64 t, .slice (some ⟨W.heap.size, 0, none⟩) n n] 54)) (fun x => W.heap.size ≤ x ∧ x < W.heap.size + 2) (.slice (some ⟨W.heap.size + 1, 0, none⟩) 1 1) [(.slice (some ⟨W.heap.size, 0, none⟩) n n, (t, l))] ∧
      Keeps nobody W ((W.alloc (.cells cs 5)).alloc (.cells #[.int .i64 t, .slice (some ⟨W.heap.size, 0, none⟩) n n] 54)) ∧ ((W.alloc (.cells cs 5)).alloc (.cells #[.int .i64 t, .slice (some ⟨W.heap.size, 0, none⟩) n n] 54)).heap.size = W.heap.size + 2 := by
  subst hc hn
  have e : (W.alloc (.cells (u8s l).toArray 5)).heap.size = W.heap.size + 1 := by simp
  have h1 := (Blk.new W 5 (u8s l).toArray).alloc (.cells #[.int .i64 t, .slice (some ⟨W.heap.size, 0, none⟩) l.length l.length] 54)
  have h2 := Blk.new (W.alloc (.cells (u8s l).toArray 5)) 54 #[.int .i64 t, .slice (some ⟨W.heap.size, 0, none⟩) l.length l.length]
  rw [e] at h2
  exact ⟨(one_opt h1 h2 hl).mono (fun x hx => by omega), ((Keeps.refl _ W).alloc _).alloc _, by simp⟩
/-- A list of one option. -/
theorem one_of {qs : List (Value × Pure.Opt)} {o : Pure.Opt} (h : optsOf qs = [o]) : ∃ v, qs = [(v, o)] := by
  match qs, h with
  | [(v, o')], h =>
    injection h with h1 _
    exact ⟨v, by rw [← h1]⟩
/-- A list of one packet. -/
theorem one_pkt {qs : List (Value × Pure.Pkt)} {o : Pure.Pkt} (h : qs.map Prod.snd = [o]) : ∃ v, qs = [(v, o)] := by
  match qs, h with
  | [(v, o')], h =>
    injection h with h1 _
    exact ⟨v, by rw [← h1]⟩
theorem fine_five : Pure.Fine [((5 : Int), [(0 : UInt8), 0, 0, 1])] := ⟨by decide, by decide +kernel⟩
theorem judge_awake : Pure.judge Pure.fewRules [((1 : Int), [(7 : UInt8), 208])] false = (3, [(1, [5, 220])]) := by
  have h := Pure.few_great (b := [(7 : UInt8), 208]) rfl (by decide +kernel) false
  rw [h]
  decide +kernel
set_option maxRecDepth 100000 in
set_option maxHeartbeats 8000000 in
theorem awake_any (w : World) : Calls Tryz.prog 10 #[] w fun e w' => e = .returned (.bool true) ∧ Keeps nobody w w' := by
  have HR1 := Lib.hid (rules_any w)
  go_enter Tryz.func10, Tryz.ntmps10
  go_wp2_with fail
  refine HR1.out.mono ?_
  rintro e w1 ⟨u1, us1, rfl, hrow1, hus1, hk1⟩
  obtain ⟨A1, c1, rfl, _⟩ := hrow1.form
  have HUS1 := Lib.hid hus1
  have HK1 := Lib.hid hk1
  have HA1 := Lib.hid (asRules_any _ _ us1 w1 hrow1 (fun b hb => hb.2) (few_rules hus1).len)
  clear hrow1 hus1 hk1 HR1
  go_wp2_with fail
  refine HA1.out.mono ?_
  rintro e w2 ⟨u2, qs2, rfl, hq2, hr2⟩
  obtain ⟨A2, c2, rfl⟩ := own_form hr2.own
  obtain ⟨hrow2, hf2, hfw2⟩ := few_made hr2 hq2 HUS1.out
  have HROW2 := Lib.hid hrow2
  have HF2 := Lib.hid hf2
  have HW2 := Lib.hid hfw2
  have HK2 := Lib.hid (HK1.out.trans hr2.kept)
  have HJ := Lib.hid (fun (W : World) (hk : Keeps nobody w2 W) (G : Nat → Prop) (x : Value) (zs : List (Value × Pure.Opt)) (hz : ORow W G x zs) (hfz : FewOpts zs) => judge_any _ G _ _ qs2 zs false W (hrow2.keeps hk (fun _ _ h => h)) hz hfw2 hfz)
  clear hq2 hr2 hrow2 hf2 hfw2 HA1 HUS1 HK1
  go_wp2_with fail
  obtain ⟨hz1, hkz1, _⟩ := lit_one w2 #[.int .u8 7, .int .u8 208] 1 [7, 208] 2 rfl rfl (by decide)
  have HJ1 := HJ.out _ hkz1 _ _ _ hz1 ⟨by simp, by simp⟩
  rw [HF2.out, show optsOf [((.slice (some ⟨w2.heap.size, 0, none⟩) 2 2 : Value), (((1 : Int), [(7 : UInt8), 208]) : Pure.Opt))] = [((1 : Int), [(7 : UInt8), 208])] from rfl, judge_awake] at HJ1
  have HJ1 := Lib.hid HJ1
  have HKZ1 := Lib.hid (HK2.out.trans hkz1)
  clear hz1 hkz1 HJ
  refine HJ1.out.mono ?_
  rintro e w3 ⟨A3, c3, qs3, rfl, hq3, hr3⟩
  obtain ⟨v3, rfl⟩ := one_of hq3
  have HR3 := Lib.hid hr3
  have HK3 := Lib.hid (HKZ1.out.trans (Keeps.new hr3.below))
  have HRU := Lib.hid (rules_any w3)
  clear hq3 hr3 HJ1 HKZ1 HROW2 HF2 HW2 HK2
  rw [show ([(v3, ((1 : Int), [(5 : UInt8), 220]))] : List (Value × Pure.Opt)).length = 1 from rfl]
  go_wp2_with fail
  refine HRU.out.mono ?_
  rintro e w4 ⟨u4, us4, rfl, hrow4, hus4, hk4⟩
  obtain ⟨A4, c4, rfl, _⟩ := hrow4.form
  have HUS4 := Lib.hid hus4
  have HK4 := Lib.hid (HK3.out.trans hk4)
  have HR4 := Lib.hid (HR3.out.keeps hk4)
  have HA4 := Lib.hid (asRules_any _ _ us4 w4 hrow4 (fun b hb => hb.2) (few_rules hus4).len)
  clear hrow4 hus4 hk4 HRU HR3 HK3
  go_wp2_with fail
  refine HA4.out.mono ?_
  rintro e w5 ⟨u5, qs5, rfl, hq5, hr5⟩
  obtain ⟨A5, c5, rfl⟩ := own_form hr5.own
  obtain ⟨hrow5, hf5, hfw5⟩ := few_made hr5 hq5 HUS4.out
  have HK5 := Lib.hid (HK4.out.trans hr5.kept)
  have HR5 := Lib.hid (HR4.out.keeps hr5.kept)
  obtain ⟨hz5, hkz5, hs5⟩ := lit_one w5 #[.int .u8 0, .int .u8 0, .int .u8 0, .int .u8 1] 5 [0, 0, 0, 1] 4 rfl rfl (by decide)
  have HNEW := newneg_any _ _ _ _ qs5 _ 3 3 _ (hrow5.keeps hkz5 (fun _ _ h => h)) hz5 (fun b hb => by rw [hs5]; exact hb.2) hfw5 fine_five ⟨by decide, by decide, by decide, by decide⟩
  rw [hf5, show optsOf [((.slice (some ⟨w5.heap.size, 0, none⟩) 4 4 : Value), (((5 : Int), [(0 : UInt8), 0, 0, 1]) : Pure.Opt))] = [((5 : Int), [(0 : UInt8), 0, 0, 1])] from rfl] at HNEW
  have HNEW := Lib.hid HNEW
  have HKZ5 := Lib.hid (HK5.out.trans hkz5)
  have HR5z := Lib.hid (HR5.out.keeps hkz5)
  clear hq5 hr5 hrow5 hf5 hfw5 hz5 hkz5 hs5 HA4 HUS4 HK4 HR4 HK5 HR5
  go_wp2_with fail
  refine HNEW.out.mono ?_
  rintro e w6 ⟨g, f, R, rfl, hobj, hgw, hmw, hRw, hk6⟩
  have HOBJ := Lib.hid hobj
  have HK6 := Lib.hid (HKZ5.out.trans hk6)
  have HR6 := Lib.hid (HR5z.out.keeps hk6)
  have HGW := Lib.hid (And.intro (Nat.le_trans HKZ5.out.size hgw) (And.intro (Nat.le_trans HKZ5.out.size hmw.1) hRw))
  clear hobj hgw hmw hRw hk6 HNEW
  have hrow6 := HR6.out.row
  obtain ⟨bq, oq, B3, d3, t3, l3, hA3, _, y0, y1, hrd, hpd⟩ := hrow6.pick 0 (by simp)
  subst hA3
  obtain ⟨rfl, rfl, rfl⟩ : v3 = .slice B3 l3.length d3 ∧ t3 = 1 ∧ l3 = [5, 220] := by
    have h : some (v3, ((1 : Int), [(5 : UInt8), 220])) = some (.slice B3 l3.length d3, (t3, l3)) := hpd
    injection h with h
    injection h with h1 h2
    injection h2 with h2 h3
    exact ⟨by rw [h1], h2.symm, h3.symm⟩
  rw [Nat.zero_mul, Nat.add_zero] at y0 y1
  have HRD := Lib.hid hrd
  clear hrow6 hrd hpd
  have HSM := Lib.hid (fun (W : World) (hk : Keeps nobody w6 W) (y : Value) (hy : Row W (fun b => True) 1 y ([5, 220] : List UInt8).length (u8s [5, 220])) => same_any _ _ _ y [5, 220] [5, 220] W (HRD.out.keeps hk (fun _ _ h => h)) hy)
  clear HRD HR6 HR5z HKZ5
  go_wp2_with fail
  have hk7 := (Keeps.refl nobody w6).alloc (.cells #[.int .u8 5, .int .u8 220] 5)
  have hb7 := Blk.new w6 5 #[.int .u8 5, .int .u8 220]
  have HS7 := HSM.out _ hk7 (.slice (some ⟨w6.heap.size, 0, none⟩) 2 2) (Row.block (F := fun _ => True) (n := 2) (c := 2) (size := 1) hb7 trivial rfl (by unfold maxLen; omega) (Nat.le_refl _))
  have HS7 := Lib.hid HS7
  have HOB7 := Lib.hid (HOBJ.out.keeps hk7 (fun h => h) (fun h => h) (fun _ _ h => h))
  have HK7 := Lib.hid (HK6.out.trans hk7)
  clear hk7 hb7 HSM HOBJ HK6
  refine HS7.out.mono ?_
  rintro e w8 ⟨rfl, hk8⟩
  have HOB8 := Lib.hid (HOB7.out.keeps hk8 (fun h => h) (fun h => h) (fun _ _ h => h))
  have HK8 := Lib.hid (HK7.out.trans hk8)
  clear hk8 HS7 HOB7 HK7
  have HUP := Lib.hid (do_up g R f _ w8 HOB8.out)
  go_wp2_with fail
  refine HUP.out.mono ?_
  rintro e w9 ⟨v9, rfl, hout9, hbec9⟩
  obtain ⟨sv9, ps9, rfl, _, _, _⟩ := hout9
  obtain ⟨f9, R9, hobj9, hgm9, hsub9, hk9⟩ := hbec9
  have HOB9 := Lib.hid hobj9
  have HK9 := Lib.hid (show Keeps nobody w w9 from HK8.out.trans' hk9 (fun i hi hl => by have h1 := HGW.out.1; have h2 := HGW.out.2.1; rcases hi with e | e <;> omega))
  have HG9 := Lib.hid (show w.heap.size ≤ f9.gm by rw [hgm9]; exact HGW.out.2.1)
  rw [Pure.neg_up] at HOB9
  have HOP := Lib.hid (do_other g R9 f9 _ 2 (.inr (.inl rfl)) w9 HOB9.out (by decide))
  clear hobj9 hgm9 hsub9 hk9 HUP HOB8 HK8
  rw [Pure.neg_open] at HOP
  go_wp2_with fail
  refine HOP.out.mono ?_
  rintro e w10 ⟨v10, rfl, hout10, hbec10⟩
  obtain ⟨sv10, ps10, rfl, hpr10, hps10, _⟩ := hout10
  obtain ⟨f10, R10, hobj10, hgm10, hsub10, hk10⟩ := hbec10
  have HK10 := Lib.hid (show Keeps nobody w w10 from HK9.out.trans' hk10 (fun i hi hl => by have h1 := HGW.out.1; have h2 := HG9.out; rcases hi with e | e <;> omega))
  have e4 : (Pure.options [((5 : Int), [(0 : UInt8), 0, 0, 1])]).2 = [5, 6, 0, 0, 0, 1] := by decide +kernel
  rw [e4] at *
  obtain ⟨v11, rfl⟩ := one_pkt (show ps10.map Prod.snd = [(⟨1, 1, [5, 6, 0, 0, 0, 1]⟩ : Pure.Pkt)] from hps10)
  obtain ⟨_, _, X10, c10, rfl, _, _, _⟩ := hpr10.out
  obtain ⟨bp, op, B5, d5, q5, hX5, _, z5, hr5, hp5⟩ := hpr10.pick 0 (by simp)
  subst hX5
  obtain ⟨rfl, rfl⟩ : v11 = .slice B5 q5.data.length d5 ∧ q5 = ⟨1, 1, [5, 6, 0, 0, 0, 1]⟩ := by
    have h : some (v11, (⟨1, 1, [5, 6, 0, 0, 0, 1]⟩ : Pure.Pkt)) = some (.slice B5 q5.data.length d5, q5) := hp5
    injection h with h
    injection h with h1 h2
    exact ⟨h1, h2.symm⟩
  rw [Nat.zero_mul, Nat.add_zero] at z5
  have z50 : w10.cell? ⟨bp, op, none⟩ = some (.int .i64 1) := z5 0 _ rfl
  have z51 : w10.cell? ⟨bp, op + 1, none⟩ = some (.int .i64 1) := z5 1 _ rfl
  have z52 : w10.cell? ⟨bp, op + 2, none⟩ = some (.slice B5 6 d5) := z5 2 _ rfl
  clear z5 hr5 hp5 hpr10 hps10 hobj10 hgm10 hsub10 hk10 HOP HOB9 HK9 HG9 HGW
  rw [show (Pure.sends [(⟨1, 1, [5, 6, 0, 0, 0, 1]⟩ : Pure.Pkt)]).up = false from rfl, show (Pure.sends [(⟨1, 1, [5, 6, 0, 0, 0, 1]⟩ : Pure.Pkt)]).down = false from rfl, show (Pure.sends [(⟨1, 1, [5, 6, 0, 0, 0, 1]⟩ : Pure.Pkt)]).start = false from rfl, show (Pure.sends [(⟨1, 1, [5, 6, 0, 0, 0, 1]⟩ : Pure.Pkt)]).done = false from rfl]
  rw [show ([(.slice B5 (⟨1, 1, [5, 6, 0, 0, 0, 1]⟩ : Pure.Pkt).data.length d5, (⟨1, 1, [5, 6, 0, 0, 0, 1]⟩ : Pure.Pkt))] : List (Value × Pure.Pkt)).length = 1 from rfl]
  go_wp2_with fail
  go_ret
  exact ⟨rfl, HK10.out.alloc _⟩
end Go.Proofs.YtjomcffhbaplcaaGreatDoor
