/- Package lcp: New. -/
import Derived.Test.YtmgicbckgpdkcaaGreatDoorQ31
import Derived.Test.YtmgicbckgpdkcaaGreatDoorQ50
import Derived.Test.YtmgicbckgpdkcaaGreatDoorQ32
namespace Go.Proofs.YtmgicbckgpdkcaaGreatDoor
set_option maxRecDepth 100000
set_option maxHeartbeats 16000000
open _root_.Go.Lib renaming hid → xhd
open List renaming setIfInBounds_toArray → xqA, getElem_toArray → xqB, getElem_cons_succ → xqC, getElem_cons_zero → xqD, set_cons_succ → xqE, set_cons_zero → xqF
open Go.RowKit
theorem NObj.widen {w : World} {g : Nat} {R G : Nat → Prop} {f : NF} {n : Pure.Neg} (h : NObj w g R f n) (hg : ¬ G g) (hm : ¬ G f.gm) : NObj w g (fun b => (R b ∨ G b) ∧ b < w.heap.size) f n := by
 obtain ⟨vs, s1, s2, s3⟩ := h.rules
 have hsub : ∀ b, R b → (R b ∨ G b) ∧ b < w.heap.size := fun b hb => ⟨.inl hb, h.lt b hb⟩
 refine ⟨h.blk, h.mach, h.well, h.e1, h.e2, h.e3, h.e4, h.e5, h.e6, ⟨vs, s1.mono hsub, s2, s3⟩, h.first.mono hsub, h.request.mono hsub, h.aopts.mono hsub, h.mine.mono hsub, h.given.mono hsub, fun b hb => hb.2, ?_, ?_, h.ne⟩
 ·rintro ⟨e | e, _⟩
  ·exact h.ng e
  ·exact hg e
 ·rintro ⟨e | e, _⟩
  ·exact h.nm e
  ·exact hm e
theorem rules_few (c : Pure.Cfg) {us : List (Value × Pure.Rule)} (h : rulesOf us = c.rules) : FewRules us := by
 have hl := congrArg List.length h
 simp at hl
 refine ⟨by rw [hl]; have := rules_short c; omega, fun p hp => ?_⟩
 have h1 : p.2 ∈ c.rules := by rw [← h]; exact List.mem_map.2 ⟨p, hp, rfl⟩
 have key : ∀ r ∈ c.rules, r.Ok ∧ r.want.length ≤ 100000 := by
  have a1 : ∀ t, (Pure.rangeOf t).Ok ∧ (Pure.rangeOf t).want.length ≤ 100000 := fun t => ⟨by unfold Pure.Rule.Ok Pure.rangeOf; dsimp only; omega, by simp [Pure.rangeOf]⟩
  have a2 : ∀ t l, (Pure.passOf t l).Ok ∧ (Pure.passOf t l).want.length ≤ 100000 := fun t l => ⟨by unfold Pure.Rule.Ok Pure.passOf; dsimp only; omega, by simp [Pure.passOf]⟩
  have a3 : Pure.proofRule.Ok ∧ Pure.proofRule.want.length ≤ 100000 := ⟨by unfold Pure.Rule.Ok Pure.proofRule; dsimp only; omega, by decide⟩
  unfold Pure.Cfg.rules
  intro r hr
  simp only [List.mem_append, List.mem_cons, List.not_mem_nil, or_false] at hr
  rcases hr with ((((( rfl | rfl) | hr) | rfl) | hr) | hr) | hr
  ·exact a1 1
  ·exact a2 2 4
  ·split at hr
   ·simp at hr
   ·rw [List.mem_singleton.1 hr]; exact a3
  ·exact a2 5 4
  ·split at hr
   ·rw [List.mem_singleton.1 hr]; exact a2 7 0
   ·simp at hr
  ·split at hr
   ·rw [List.mem_singleton.1 hr]; exact a2 8 0
   ·simp at hr
  ·split at hr
   ·simp at hr
   ·simp at hr
    rcases hr with rfl | rfl
    ·exact a1 17
    ·exact a2 18 0
 exact key p.2 h1
theorem lnew_any (c : Pure.Cfg) (nm sc : ByteArray) (hn : nm.data.toList = c.name) (hs : sc.data.toList = c.secret) (hl : c.secret.length ≤ 1000000) (hck : c.check = 0) (hf : c.fine = true) (ha : c.accm < 4294967296) (m : Nat) (hm : m < 4294967296) (w : World) (E : Env w) :
  Calls Tryz.prog 26 #[cfgV c nm sc, .int .u32 (m : Int)] w fun e w' => ∃ k f R, e = .returned (.tuple #[.pointer (some ⟨k.l, 0, none⟩), .int .i64 0]) ∧ LObj w' k R f (Pure.newLcp c m) ∧ w.heap.size ≤ k.l ∧ w.heap.size ≤ k.g ∧ w.heap.size ≤ k.gm ∧ (∀ b, R b → w.heap.size ≤ b) ∧ Keeps nobody w w' := by
 obtain ⟨cb, hcb⟩ : ∃ q, q = w.heap.size := ⟨_, rfl⟩
 obtain ⟨w1, hw1⟩ : ∃ q, q = w.alloc (.cells (cfgCells c nm sc).toArray 25) := ⟨_, rfl⟩
 have hk1 : Keeps nobody w w1 := by rw [hw1]; exact (Keeps.refl _ w).alloc _
 have hC : Blk w1 cb 25 (cfgCells c nm sc).toArray := by rw [hw1, hcb]; exact Blk.new w _ _
 have HCH := xhd (lcheck_any c nm sc hn hs hl w1 ⟨E.hd.keeps hk1 (fun e => e), E.tb.below hk1.to_below⟩)
 rw [hck] at HCH
 have HRU := xhd (fun W => lrules_any c nm sc W)
 have HAS := xhd (fun W => lask_any c nm sc hf ha m hm W)
 have HC1 := xhd hC
 have HK1 := xhd hk1
 have HCB := xhd hcb
 have HF := xhd hf
 have HA := xhd ha
 have hnum : 1 ≤ c.tries ∧ c.tries ≤ 1000 ∧ 1 ≤ c.timeout ∧ c.timeout ≤ 1000 := by
  have h := hf
  unfold Pure.Cfg.fine at h
  simp only [Bool.and_eq_true, decide_eq_true_eq] at h
  omega
 have etr : c.tries = ((c.tries.toNat : Nat) : Int) := by omega
 have eti : c.timeout = ((c.timeout.toNat : Nat) : Int) := by omega
 have HMB := xhd (show mayBe c.tries.toNat c.timeout.toNat by unfold mayBe; omega)
 have HNW := xhd (fun (Fu Fx : Nat → Prop) (xu x : Value) (us : List (Value × Pure.Rule)) (zs : List (Value × Pure.Opt)) (W : World) (hu : RRow W Fu xu us) (hx : ORow W Fx x zs) (hF : ∀ b, Fx b → b < W.heap.size) (hfu : FewRules us) (hfx : Pure.Fine (optsOf zs)) => show Calls Tryz.prog 66 #[xu, x, .int .i64 c.tries, .int .i64 c.timeout] W _ from by
  rw [etr, eti]
  exact newneg_any Fu Fx xu x us zs c.tries.toNat c.timeout.toNat W hu hx hF hfu hfx HMB.out)
 clear hn hs hl hck hf ha hm E hk1 hC hnum etr eti
 go_enter Tryz.func26, Tryz.ntmps26
 go_upto_region 1 with fail
 rw [← hcb, ← hw1]
 clear hcb hw1
 refine wp_region_list ?_
 refine wpList_load_mid rfl 25 (.tmp 2) rfl cb 0 rfl (cfgCells c nm sc) _ (fun j v hv => by rw [Nat.zero_add, HC1.out.cell, List.getElem?_toArray]; exact hv) Tryz.underlying25 rfl cfg_info ?_
 go_wp2_with fail
 refine HCH.out.mono ?_
 rintro e w2 ⟨rfl, hk2⟩
 have HK2 := xhd (HK1.out.trans hk2)
 have HC2 := xhd (HC1.out.keeps hk2 (fun e => e))
 have HKZ2 := xhd (Keeps.refl nobody w2)
 clear hk2 HCH HC1 HK1
 go_upto_region 4 with fail
 refine wp_region_Z (fun w' => Blk w' cb 25 (cfgCells c nm sc).toArray) 5 6 rfl (by kernel_rfl) HC2.out (fun hHeld => ?_)
 have HSW := hHeld
 clear hHeld
 have HK0d := xhd (HKZ2.out.drew)
 refine wpAnyZ_take (i := 0) rfl (by kernel_rfl) (fun _ _ _ h => h) (yieldsIf_load_mid rfl 25 (.tmp 2) rfl cb 0 rfl (cfgCells c nm sc) _ (fun W hW j v hv => by rw [Nat.zero_add, Blk.cell (hW), List.getElem?_toArray]; exact hv) Tryz.underlying25 rfl cfg_info) HSW.out ?_
 simp only [Act.put, xqA, xqB, xqD, xqE, xqF]
 refine wpAnyZ_take (i := 1) rfl (by kernel_rfl) (fun _ _ _ h => h) (yieldsIf_load_mid rfl 25 (.tmp 2) rfl cb 0 rfl (cfgCells c nm sc) _ (fun W hW j v hv => by rw [Nat.zero_add, Blk.cell (hW), List.getElem?_toArray]; exact hv) Tryz.underlying25 rfl cfg_info) HSW.out ?_
 simp only [Act.put, xqA, xqB, xqC, xqD, xqE, xqF]
 refine wpAnyZ_one (i := 2) (by kernel_rfl) rfl (fun K hK => ?_)
 try rw [if_pos (by rfl)]
 go_simp
 refine (HRU.out _).mono ?_
 rintro e w3 ⟨v3, us, rfl, hus, hrr⟩
 obtain ⟨A3, c3r, rfl⟩ := own_form hrr.own
 have HS3 := xhd (HSW.out.keeps hrr.kept (fun e => e))
 have HUS := xhd hus
 have HRR := xhd hrr.row
 have HK3 := xhd (HK2.out.trans (HK0d.out.trans hrr.kept))
 clear hus hrr
 refine hK.out _ _ (fun _ => HS3.out) ?_
 clear hK K
 try simp only [Act.put, xqA, Nat.reduceAdd, xqB, xqC, xqD, xqE, xqF]
 refine wpAnyZ_take (i := 3) rfl (by kernel_rfl) (fun _ _ _ h => h) (Or.inl ⟨by rfl, by intro w hSw; skip; go_simp; try with_reducible rfl⟩) HS3.out ?_
 simp only [Act.put, xqA, xqB, xqC, xqD, xqE, xqF]
 refine wpAnyZ_one (i := 4) (by kernel_rfl) rfl (fun K hK => ?_)
 try rw [if_pos (by rfl)]
 go_simp
 obtain ⟨lb, hlb⟩ : ∃ q, q = w3.heap.size := ⟨_, rfl⟩
 obtain ⟨w4, hw4⟩ : ∃ q, q = w3.alloc (.cells #[.pointer none, .bool c.server, .string nm, .string sc, .int .i64 c.mru, .bool c.pfc, .bool c.acfc, .int .u32 (c.accm : Int), .int .i64 c.mrru, .bool c.short, .int .i64 c.bits, .bool c.stateless, .bool c.mppc, .bool c.deflate, .bool c.must, .bool c.symbol, .int .i64 c.timeout, .int .i64 c.tries, .int .i64 c.fragment, .slice A3 us.length c3r] 125) := ⟨_, rfl⟩
 rw [← hlb, ← hw4]
 have hk4 : Keeps nobody w3 w4 := by rw [hw4]; exact (Keeps.refl _ w3).alloc _
 have HL4 := xhd (show Blk w4 lb 125 #[.pointer none, .bool c.server, .string nm, .string sc, .int .i64 c.mru, .bool c.pfc, .bool c.acfc, .int .u32 (c.accm : Int), .int .i64 c.mrru, .bool c.short, .int .i64 c.bits, .bool c.stateless, .bool c.mppc, .bool c.deflate, .bool c.must, .bool c.symbol, .int .i64 c.timeout, .int .i64 c.tries, .int .i64 c.fragment, .slice A3 us.length c3r] by rw [hw4, hlb]; exact Blk.new w3 _ _)
 have HS4 := xhd (HS3.out.keeps hk4 (fun e => e))
 have HK4 := xhd (HK3.out.trans hk4)
 have HR4 := xhd (HRR.out.keeps hk4 (fun _ _ e => e))
 have HLB := xhd hlb
 clear hk4 hw4 hlb
 refine hK.out _ _ (fun _ => HS4.out) ?_
 clear hK K
 try simp only [Act.put, xqA, Nat.reduceAdd, xqB, xqC, xqD, xqE, xqF]
 refine wpAnyZ_one (i := 5) (by kernel_rfl) rfl (fun K hK => ?_)
 go_simp
 refine hK.out _ _ (fun h => absurd rfl h) ?_
 clear hK K
 refine wpAnyZ_done (by kernel_rfl) ?_ _
 have HKZ4 := xhd (Keeps.refl nobody w4)
 have HNC := xhd (show cb ≠ lb from fun e => by have h1 := HS3.out.lt; have h2 := HLB.out; omega)
 clear HKZ2
 go_upto_region 5 with fail
 refine wp_region_Z (fun w' => Blk w' cb 25 (cfgCells c nm sc).toArray ∧ Blk w' lb 125 #[.pointer none, .bool c.server, .string nm, .string sc, .int .i64 c.mru, .bool c.pfc, .bool c.acfc, .int .u32 (c.accm : Int), .int .i64 c.mrru, .bool c.short, .int .i64 c.bits, .bool c.stateless, .bool c.mppc, .bool c.deflate, .bool c.must, .bool c.symbol, .int .i64 c.timeout, .int .i64 c.tries, .int .i64 c.fragment, .slice A3 us.length c3r]) 16 17 rfl (by kernel_rfl) ⟨HS4.out, HL4.out⟩ (fun hHeld => ?_)
 have HSW := hHeld
 clear hHeld
 have HK0d := xhd (HKZ4.out.drew)
 refine wpAnyZ_take (i := 0) rfl (by kernel_rfl) (fun _ _ _ h => h) (Or.inl ⟨by rfl, by intro w hSw; obtain ⟨sB, sL⟩ := hSw; have g15 : w.cell? ⟨cb, 15, none⟩ = some (.int .i64 c.timeout) := (by rw [sB.cell]; rfl); have g16 : w.cell? ⟨cb, 16, none⟩ = some (.int .i64 c.tries) := (by rw [sB.cell]; rfl); have l19 : w.cell? ⟨lb, 19, none⟩ = some (.slice A3 us.length c3r) := (by rw [sL.cell]; rfl); go_simp; try with_reducible rfl⟩) HSW.out ?_
 simp only [Act.put, xqA, xqB, xqD, xqE, xqF]
 refine wpAnyZ_take (i := 1) rfl (by kernel_rfl) (fun _ _ _ h => h) (Or.inl ⟨by rfl, by intro w hSw; obtain ⟨sB, sL⟩ := hSw; have g15 : w.cell? ⟨cb, 15, none⟩ = some (.int .i64 c.timeout) := (by rw [sB.cell]; rfl); have g16 : w.cell? ⟨cb, 16, none⟩ = some (.int .i64 c.tries) := (by rw [sB.cell]; rfl); have l19 : w.cell? ⟨lb, 19, none⟩ = some (.slice A3 us.length c3r) := (by rw [sL.cell]; rfl); go_simp; try with_reducible rfl⟩) HSW.out ?_
 simp only [Act.put, xqA, xqB, xqC, xqD, xqE, xqF]
 refine wpAnyZ_take (i := 2) rfl (by kernel_rfl) (fun _ _ _ h => h) (Or.inl ⟨by rfl, by intro w hSw; obtain ⟨sB, sL⟩ := hSw; have g15 : w.cell? ⟨cb, 15, none⟩ = some (.int .i64 c.timeout) := (by rw [sB.cell]; rfl); have g16 : w.cell? ⟨cb, 16, none⟩ = some (.int .i64 c.tries) := (by rw [sB.cell]; rfl); have l19 : w.cell? ⟨lb, 19, none⟩ = some (.slice A3 us.length c3r) := (by rw [sL.cell]; rfl); go_simp; try with_reducible rfl⟩) HSW.out ?_
 simp only [Act.put, xqA, xqB, xqC, xqD, xqE, xqF]
 refine wpAnyZ_take (i := 3) rfl (by kernel_rfl) (fun _ _ _ h => h) (Or.inl ⟨by rfl, by intro w hSw; obtain ⟨sB, sL⟩ := hSw; have g15 : w.cell? ⟨cb, 15, none⟩ = some (.int .i64 c.timeout) := (by rw [sB.cell]; rfl); have g16 : w.cell? ⟨cb, 16, none⟩ = some (.int .i64 c.tries) := (by rw [sB.cell]; rfl); have l19 : w.cell? ⟨lb, 19, none⟩ = some (.slice A3 us.length c3r) := (by rw [sL.cell]; rfl); go_simp; try with_reducible rfl⟩) HSW.out ?_
 simp only [Act.put, xqA, xqB, xqC, xqD, xqE, xqF]
 refine wpAnyZ_take (i := 4) rfl (by kernel_rfl) (fun _ _ _ h => h) (yieldsIf_load_mid rfl 25 (.tmp 2) rfl cb 0 rfl (cfgCells c nm sc) _ (fun W hW j v hv => by rw [Nat.zero_add, Blk.cell (hW.1), List.getElem?_toArray]; exact hv) Tryz.underlying25 rfl cfg_info) HSW.out ?_
 simp only [Act.put, xqA, xqB, xqC, xqD, xqE, xqF]
 refine wpAnyZ_take (i := 5) rfl (by kernel_rfl) (fun _ _ _ h => h) (Or.inl ⟨by rfl, by intro w hSw; obtain ⟨sB, sL⟩ := hSw; have g15 : w.cell? ⟨cb, 15, none⟩ = some (.int .i64 c.timeout) := (by rw [sB.cell]; rfl); have g16 : w.cell? ⟨cb, 16, none⟩ = some (.int .i64 c.tries) := (by rw [sB.cell]; rfl); have l19 : w.cell? ⟨lb, 19, none⟩ = some (.slice A3 us.length c3r) := (by rw [sL.cell]; rfl); go_simp; try with_reducible rfl⟩) HSW.out ?_
 simp only [Act.put, xqA, xqB, xqC, xqD, xqE, xqF]
 refine wpAnyZ_take (i := 7) rfl (by kernel_rfl) (fun _ _ _ h => h) (Or.inl ⟨by rfl, by intro w hSw; obtain ⟨sB, sL⟩ := hSw; have g15 : w.cell? ⟨cb, 15, none⟩ = some (.int .i64 c.timeout) := (by rw [sB.cell]; rfl); have g16 : w.cell? ⟨cb, 16, none⟩ = some (.int .i64 c.tries) := (by rw [sB.cell]; rfl); have l19 : w.cell? ⟨lb, 19, none⟩ = some (.slice A3 us.length c3r) := (by rw [sL.cell]; rfl); go_simp; try with_reducible rfl⟩) HSW.out ?_
 simp only [Act.put, xqA, xqB, xqC, xqD, xqE, xqF]
 refine wpAnyZ_take (i := 8) rfl (by kernel_rfl) (fun _ _ _ h => h) (Or.inl ⟨by rfl, by intro w hSw; obtain ⟨sB, sL⟩ := hSw; have g15 : w.cell? ⟨cb, 15, none⟩ = some (.int .i64 c.timeout) := (by rw [sB.cell]; rfl); have g16 : w.cell? ⟨cb, 16, none⟩ = some (.int .i64 c.tries) := (by rw [sB.cell]; rfl); have l19 : w.cell? ⟨lb, 19, none⟩ = some (.slice A3 us.length c3r) := (by rw [sL.cell]; rfl); go_simp; try with_reducible rfl⟩) HSW.out ?_
 simp only [Act.put, xqA, xqB, xqC, xqD, xqE, xqF]
 refine wpAnyZ_take (i := 9) rfl (by kernel_rfl) (fun _ _ _ h => h) (Or.inl ⟨by rfl, by intro w hSw; obtain ⟨sB, sL⟩ := hSw; have g15 : w.cell? ⟨cb, 15, none⟩ = some (.int .i64 c.timeout) := (by rw [sB.cell]; rfl); have g16 : w.cell? ⟨cb, 16, none⟩ = some (.int .i64 c.tries) := (by rw [sB.cell]; rfl); have l19 : w.cell? ⟨lb, 19, none⟩ = some (.slice A3 us.length c3r) := (by rw [sL.cell]; rfl); go_simp; try with_reducible rfl⟩) HSW.out ?_
 simp only [Act.put, xqA, xqB, xqC, xqD, xqE, xqF]
 refine wpAnyZ_take (i := 10) rfl (by kernel_rfl) (fun _ _ _ h => h) (Or.inl ⟨by rfl, by intro w hSw; obtain ⟨sB, sL⟩ := hSw; have g15 : w.cell? ⟨cb, 15, none⟩ = some (.int .i64 c.timeout) := (by rw [sB.cell]; rfl); have g16 : w.cell? ⟨cb, 16, none⟩ = some (.int .i64 c.tries) := (by rw [sB.cell]; rfl); have l19 : w.cell? ⟨lb, 19, none⟩ = some (.slice A3 us.length c3r) := (by rw [sL.cell]; rfl); go_simp; try with_reducible rfl⟩) HSW.out ?_
 simp only [Act.put, xqA, xqB, xqC, xqD, xqE, xqF]
 refine wpAnyZ_one (i := 6) (by kernel_rfl) rfl (fun K hK => ?_)
 try rw [if_pos (by rfl)]
 go_simp
 refine (HAS.out _).mono ?_
 rintro e w5 ⟨v5, qs, rfl, hqs, hrd⟩
 obtain ⟨A5, c5r, rfl⟩ := own_form hrd.own
 have hk5 : Keeps nobody w4.drew w5 := Keeps.new hrd.below
 have HS5 := xhd (And.intro (HSW.out.1.keeps hk5 (fun e => e)) (HSW.out.2.keeps hk5 (fun e => e)))
 have HQS := xhd hqs
 have HRD := xhd hrd.row.strong
 have HK5 := xhd (HK4.out.trans (HK0d.out.trans hk5))
 have HR5 := xhd ((HR4.out.keeps HK0d.out (fun _ _ e => e)).keeps hk5 (fun _ _ e => e))
 clear hqs hrd hk5
 refine hK.out _ _ (fun _ => HS5.out) ?_
 clear hK K
 try simp only [Act.put, xqA, Nat.reduceAdd, xqB, xqC, xqD, xqE, xqF]
 refine wpAnyZ_one (i := 11) (by kernel_rfl) rfl (fun K hK => ?_)
 try rw [if_pos (by rfl)]
 go_simp
 refine (HNW.out _ _ _ _ us qs w5 HR5.out HRD.out (fun b hb => hb.2) (rules_few c HUS.out) (by rw [HQS.out]; exact Pure.ask_fine c m)).mono ?_
 rintro e w6 ⟨g, f, R, rfl, hobj, hg, hgm, hR, hk6⟩
 rw [HUS.out, HQS.out] at hobj
 have HS6 := xhd (And.intro (HS5.out.1.keeps hk6 (fun e => e)) (HS5.out.2.keeps hk6 (fun e => e)))
 have HK6 := xhd (HK5.out.trans hk6)
 have HR6 := xhd (HR5.out.keeps hk6 (fun _ _ e => e))
 have HOB := xhd hobj
 have HGN := xhd hg
 have HGM := xhd hgm
 have HRN := xhd hR
 have HS56 := xhd hk6.size
 clear hobj hg hgm hR hk6
 refine hK.out _ _ (fun _ => HS6.out) ?_
 clear hK K
 try simp only [Act.put, xqA, Nat.reduceAdd, xqB, xqC, xqD, xqE, xqF]
 refine wpAnyZ_take (i := 12) rfl (by kernel_rfl) (fun _ _ _ h => h) (Or.inl ⟨by rfl, by intro w hSw; obtain ⟨sB, sL⟩ := hSw; have g15 : w.cell? ⟨cb, 15, none⟩ = some (.int .i64 c.timeout) := (by rw [sB.cell]; rfl); have g16 : w.cell? ⟨cb, 16, none⟩ = some (.int .i64 c.tries) := (by rw [sB.cell]; rfl); have l19 : w.cell? ⟨lb, 19, none⟩ = some (.slice A3 us.length c3r) := (by rw [sL.cell]; rfl); go_simp; try with_reducible rfl⟩) HS6.out ?_
 simp only [Act.put, xqA, xqB, xqC, xqD, xqE, xqF]
 refine wpAnyZ_take (i := 13) rfl (by kernel_rfl) (fun _ _ _ h => h) (Or.inl ⟨by rfl, by intro w hSw; obtain ⟨sB, sL⟩ := hSw; have g15 : w.cell? ⟨cb, 15, none⟩ = some (.int .i64 c.timeout) := (by rw [sB.cell]; rfl); have g16 : w.cell? ⟨cb, 16, none⟩ = some (.int .i64 c.tries) := (by rw [sB.cell]; rfl); have l19 : w.cell? ⟨lb, 19, none⟩ = some (.slice A3 us.length c3r) := (by rw [sL.cell]; rfl); go_simp; try with_reducible rfl⟩) HS6.out ?_
 simp only [Act.put, xqA, xqB, xqC, xqD, xqE, xqF]
 refine wpAnyZ_take (i := 14) rfl (by kernel_rfl) (fun _ _ _ h => h) (Or.inl ⟨by rfl, by intro w hSw; obtain ⟨sB, sL⟩ := hSw; have g15 : w.cell? ⟨cb, 15, none⟩ = some (.int .i64 c.timeout) := (by rw [sB.cell]; rfl); have g16 : w.cell? ⟨cb, 16, none⟩ = some (.int .i64 c.tries) := (by rw [sB.cell]; rfl); have l19 : w.cell? ⟨lb, 19, none⟩ = some (.slice A3 us.length c3r) := (by rw [sL.cell]; rfl); go_simp; try with_reducible rfl⟩) HS6.out ?_
 simp only [Act.put, xqA, xqB, xqC, xqD, xqE, xqF]
 refine wpAnyZ_take (i := 15) rfl (by kernel_rfl) (fun _ _ _ h => h) (Or.inl ⟨by rfl, by intro w hSw; obtain ⟨sB, sL⟩ := hSw; have g15 : w.cell? ⟨cb, 15, none⟩ = some (.int .i64 c.timeout) := (by rw [sB.cell]; rfl); have g16 : w.cell? ⟨cb, 16, none⟩ = some (.int .i64 c.tries) := (by rw [sB.cell]; rfl); have l19 : w.cell? ⟨lb, 19, none⟩ = some (.slice A3 us.length c3r) := (by rw [sL.cell]; rfl); go_simp; try with_reducible rfl⟩) HS6.out ?_
 simp only [Act.put, xqA, xqB, xqC, xqD, xqE, xqF]
 refine wpAnyZ_one (i := 16) (by kernel_rfl) rfl (fun K hK => ?_)
 go_simp
 refine hK.out _ _ (fun h => absurd rfl h) ?_
 clear hK K
 refine wpAnyZ_done (by kernel_rfl) ?_ _
 have HJB := xhd (judgeBy2_any g R f _ 68 (.pointer (some ⟨lb, 0, none⟩)) w6 HOB.out (fun W => run_judge_neq _ W))
 go_wp2_with fail
 refine HJB.out.mono ?_
 rintro e w7 ⟨rfl, hob7, hk7⟩
 have hlg : lb ≠ g := fun e => by have h1 := HS5.out.2.lt; have h2 := HGN.out; omega
 have hL7 := HS6.out.2.keeps hk7 (fun e => hlg (by have e : lb = g := e; exact e))
 have l0 : w7.cell? ⟨lb, 0, none⟩ = some (.pointer none) := by rw [hL7.cell]; rfl
 have fl0 := hL7.frozen 0
 obtain ⟨w8, hw8⟩ : ∃ q, q = w7.setCell ⟨lb, 0, none⟩ (.pointer (some ⟨g, 0, none⟩)) := ⟨_, rfl⟩
 have K8 : Keeps (only lb) w7 w8 := by rw [hw8]; exact (Keeps.refl (only lb) w7).put 0 _
 have hL8 : LBlk w8 lb g c nm sc (.slice A3 us.length c3r) := by rw [hw8]; exact hL7.set 0 (.pointer (some ⟨g, 0, none⟩))
 have hlm : lb ≠ f.gm.m := fun e => by have h1 := HS5.out.2.lt; have h2 := HGM.out.1; omega
 have hlR : ¬ R lb := fun e => by have h1 := HS5.out.2.lt; have h2 := HRN.out lb e; omega
 have hob8 := hob7.keeps K8 (fun e => hlg (by have e : g = lb := e; exact e.symm)) (fun e => hlm (by have e : f.gm.m = lb := e; exact e.symm)) (fun b hb e => by have e : b = lb := e; exact hlR (e ▸ hb))
 have hRW : ∀ b, (w2.drew.heap.size ≤ b ∨ w2.drew.heap.size ≤ b) ∧ b < w3.heap.size → b < lb := fun b hb => by have := HLB.out; omega
 have HR8 := (HR6.out.keeps hk7 (fun b hb e => by have e : b = g := e; have h1 := HLB.out; have h2 := HGN.out; have h3 := HS5.out.2.lt; have := hb.2; omega)).keeps K8 (fun b hb e => by have e : b = lb := e; have h1 := HLB.out; have := hb.2; omega)
 have hobW := hob8.widen (G := fun b => (w2.drew.heap.size ≤ b ∨ w2.drew.heap.size ≤ b) ∧ b < w3.heap.size) (fun e => by have h1 := HLB.out; have h2 := HGN.out; have h3 := HS5.out.2.lt; have := e.2; omega) (fun e => by have h1 := HLB.out; have h2 := HGM.out.1; have h3 := HS5.out.2.lt; have e : _ ∧ f.gm.m < w3.heap.size := e; have := e.2; omega)
 have hkF : Keeps nobody w w8 := (HK6.out.trans' hk7 (fun i hi hl => by have e : i = g := hi; have h2 := HGN.out; have := HK5.out.size; omega)).trans' K8 (fun i hi hl => by have e : i = lb := hi; have h1 := HLB.out; have := HK3.out.size; omega)
 have HLO := xhd (show LObj w8 ⟨lb, g, f.gm.m, nm, sc, .slice A3 us.length c3r⟩ _ _ (Pure.newLcp c m) from ⟨hL8, hobW, rfl, ⟨us, HR8.mono (fun b hb => ⟨.inr hb, by have h1 := HLB.out; have := hb.2; have := hL8.lt; omega⟩), HUS.out, rules_few c HUS.out⟩, rfl, HF.out, HA.out, (by rintro ⟨e | e, _⟩; exact hlR e; have h1 := HLB.out; have e2 : lb < w3.heap.size := e.2; omega), hlg, hlm⟩)
 have HKF := xhd hkF
 have HSZ := xhd (show w.heap.size ≤ lb ∧ w.heap.size ≤ g ∧ w.heap.size ≤ f.gm.m from by have h1 := HLB.out; have h2 := HGN.out; have h3 := HGM.out.1; have h4 := HK3.out.size; have h5 := HK5.out.size; omega)
 have HRS := xhd (show ∀ b, ((R b ∨ ((w2.drew.heap.size ≤ b ∨ w2.drew.heap.size ≤ b) ∧ b < w3.heap.size)) ∧ b < w8.heap.size) → w.heap.size ≤ b from fun b hb => by
  have h2 : w2.drew.heap.size = w2.heap.size := rfl
  have h4 := HK2.out.size
  have h5 := HK5.out.size
  rcases hb.1 with e | e
  ·have := HRN.out b e; omega
  ·omega)
 clear hob7 hk7 hL7 K8 hL8 hlm hlR hob8 hRW HR8 hobW hkF
 go_upto_region 10 with fail
 rw [← hw8]
 clear hw8 l0 fl0
 go_wp2_with fail
 go_ret2
 exact ⟨⟨lb, g, f.gm.m, nm, sc, .slice A3 us.length c3r⟩, _, _, rfl, HLO.out, HSZ.out.1, HSZ.out.2.1, HSZ.out.2.2, HRS.out, HKF.out⟩
abbrev nmN : ByteArray := { data := #[110] }
abbrev scS : ByteArray := { data := #[115, 101, 99, 114, 101, 116] }
structure MadeIs (c : Pure.Cfg) (srv : Bool) (tr : Int) : Prop where
 server : c.server = srv
 name : c.name = [110]
 secret : c.secret = [115, 101, 99, 114, 101, 116]
 mru : c.mru = 1500 ∨ c.mru = 500
 accm : c.accm = 4294967295 ∨ c.accm = 0
 mrru : (c.mrru = 0 ∧ c.short = false ∧ c.fragment = 0) ∨ (c.mrru = 1500 ∧ (c.fragment = 0 ∨ (16 ≤ c.fragment ∧ c.fragment ≤ 79)))
 bits : (c.bits = 0 ∧ c.stateless = false ∧ c.must = false) ∨ c.bits = 40 ∨ c.bits = 56 ∨ c.bits = 128
 none : c.mppc = false ∧ c.deflate = false ∧ c.symbol = false
 timeout : c.timeout = 2
 tries : c.tries = tr
def MS (w wx : World) (cb rb : Nat) (P : Pure.Cfg → Prop) : Prop := ∃ c, Blk wx cb 25 (cfgCells c nmN scS).toArray ∧ P c ∧ Keeps nobody w wx ∧ w.heap.size ≤ cb ∧ (∃ zs, Blk wx rb 25 zs ∧ zs.size = 18) ∧ w.heap.size ≤ rb ∧ rb ≠ cb
theorem MS.set {w wx : World} {cb rb : Nat} {P Q : Pure.Cfg → Prop} (h : MS w wx cb rb P) (i : Nat) (u : Value) (f : Pure.Cfg → Pure.Cfg) (hf : ∀ c, P c → Q (f c)) (he : ∀ c, (cfgCells c nmN scS).toArray.setIfInBounds i u = (cfgCells (f c) nmN scS).toArray) : MS w (wx.setCell ⟨cb, i, none⟩ u) cb rb Q := by
 obtain ⟨c, h1, h2, h3, h4, ⟨zs, h5, h6⟩, h7, h8⟩ := h
 refine ⟨f c, ?_, hf c h2, h3.store cb i (fun e => by omega) u, h4, ⟨zs, h5.far (p := ⟨cb, i, none⟩) h8 u, h6⟩, h7, h8⟩
 rw [← he c]
 exact h1.set i u
theorem MS.mono {w wx : World} {cb rb : Nat} {P Q : Pure.Cfg → Prop} (h : MS w wx cb rb P) (hf : ∀ c, P c → Q c) : MS w wx cb rb Q := by
 obtain ⟨c, h1, h2, h3⟩ := h
 exact ⟨c, h1, hf c h2, h3⟩
abbrev Any (s : Bool) (t : Int) (c : Pure.Cfg) : Prop := MadeIs c s t ∧ c.bits = 0
section
variable {s : Bool} {t : Int} {c : Pure.Cfg}
end
abbrev cfg13 : Pure.Cfg := ⟨true, [110], [115, 101, 99, 114, 101, 116], 1500, false, false, 4294967295, 0, false, 0, false, false, false, false, false, 2, 4, 0⟩
theorem made13_any (w : World) : Calls Tryz.prog 13 #[.int .i64 1, .int .i64 3] w fun e w' => e = .returned (cfgV cfg13 nmN scS) ∧ Keeps nobody w w' := by
 have a1 : bits .and .i64 1 268435455 = 1 := by decide
 have a2 : bits .and .i64 1 1 = 1 := by decide
 have a3 : bits .and .i64 1 2 = 0 := by decide
 have a4 : bits .and .i64 1 4 = 0 := by decide
 have a5 : bits .and .i64 3 3 = 3 := by decide
 have a6 : bits .and .i64 1 8 = 0 := by decide
 have a7 : bits .and .i64 1 16 = 0 := by decide
 have a8 : bits .and .i64 1 32 = 0 := by decide
 have a9 : bits .and .i64 0 3 = 0 := by decide
 go_enter Tryz.func13, Tryz.ntmps13
 go_upto_region 2 with fail
 obtain ⟨rb, hrb⟩ : ∃ q, q = w.heap.size := ⟨_, rfl⟩
 generalize hw1 : w.alloc _ = w1
 have HK1 := xhd (show Keeps nobody w w1 ∧ (∃ zs, Blk w1 rb 25 zs ∧ zs.size = 18) ∧ w.heap.size ≤ rb ∧ rb < w1.heap.size from by
  subst hw1 hrb
  exact ⟨(Keeps.refl _ w).alloc _, ⟨_, Blk.new w _ _, rfl⟩, Nat.le_refl _, by simp⟩)
 rw [← hrb]
 clear hw1 hrb
 go_upto_region 3 with fail
 obtain ⟨cb, hcb⟩ : ∃ q, q = w1.heap.size := ⟨_, rfl⟩
 generalize hw2 : w1.alloc _ = w2
 have HS := xhd (show MS w w2 cb rb (fun c => c = cfg13) from by
  subst hw2 hcb
  obtain ⟨k1, ⟨zs, k2, k3⟩, k4, k5⟩ := HK1.out
  exact ⟨cfg13, Blk.new w1 _ _, rfl, k1.alloc _, k1.size, ⟨zs, k2.alloc _, k3⟩, k4, Nat.ne_of_lt k5⟩)
 rw [← hcb]
 clear hw2 hcb HK1
 obtain ⟨c, hb, rfl, hk, hcb, ⟨zs, hz, hzs⟩, hrb, hne⟩ := HS.out
 have cz : w2.cell? ⟨cb, 9, none⟩ = some (.int .i64 0) := hb.cell 9
 have HI := xhd cfg_info
 have HB := xhd hb
 have HZ := xhd hz
 have HZS := xhd hzs
 obtain ⟨w9, hw9⟩ : ∃ w9, w9 = w2.setRow rb (cfgCells cfg13 nmN scS).toArray := ⟨_, rfl⟩
 have HB9 := xhd (show Blk w9 rb 25 (cfgCells cfg13 nmN scS).toArray by rw [hw9]; exact Blk.rowSet hz _)
 have HK9 := xhd (show Keeps nobody w w9 by rw [hw9]; exact hk.rowSet (fun e => by omega) _)
 have HW9 := xhd hw9
 clear hb hk hcb hz hzs hrb hne hw9 HS
 go_upto_region 22 with fail
 refine wp_region_list ?_
 refine wpList_load_mid rfl 25 (.tmp 5) rfl cb 0 rfl (cfgCells cfg13 nmN scS) _ (fun j v hv => by rw [Nat.zero_add, HB.out.cell, List.getElem?_toArray]; exact hv) Tryz.underlying25 rfl HI.out ?_
 refine wpList_store_row rfl 25 (.tmp 4) (.tmp 70) rfl rb _ rfl rfl 25 _ HZ.out (by rw [HI.out]; rfl) (by rw [HZS.out]; rfl) (by rw [List.all_toArray]; rfl) ?_
 rw [← HW9.out]
 go_wp2
 refine bodyPost_ret (results_row1 rfl _ _ rb 25 _ (0, 0) _ rfl HB9.out Tryz.underlying25 rfl (by rw [HI.out]; rfl)) rfl ?_
 exact ⟨rfl, HK9.out⟩
end Go.Proofs.YtmgicbckgpdkcaaGreatDoor
