/- Package lcp: New. -/
import Derived.Great.Walk
import Derived.Test.YtmgicbckgpdkcaaGreatDoorK19
namespace Go.Proofs.YtmgicbckgpdkcaaGreatDoor
set_option maxRecDepth 100000
set_option maxHeartbeats 16000000
open _root_.Go.Lib renaming hid → xhd
open List renaming setIfInBounds_toArray → xqA, getElem_toArray → xqB, getElem_cons_succ → xqC, getElem_cons_zero → xqD, set_cons_succ → xqE, set_cons_zero → xqF
open Go.RowKit
theorem NObj.widen {w : World} {g : Nat} {R G : Nat → Prop} {f : NF} {n : Pure.Neg} (h : NObj w g R f n) (hg : ¬ G g) (hm : ¬ G f.gm) : NObj w g (fun b => (R b ∨ G b) ∧ b < w.heap.size) f n := by
 obtain ⟨vs, s1, s2, s3⟩ := h.rules
 have hsub : ∀ b, R b → (R b ∨ G b) ∧ b < w.heap.size := fun b hb => ⟨.inl hb, h.lt b hb⟩
 refine ⟨h.blk, h.mach, h.well, h.e1, h.e2, h.e3, h.e4, h.e5, h.e6, ⟨vs, s1.mono hsub, s2, s3⟩, h.first.mono hsub, h.request.mono hsub, h.aopts.mono hsub, h.mine.mono hsub, h.given.mono hsub, fun b hb => hb.2, ?_, ?_, h.ne⟩
 ·rintro ⟨e | e, _⟩
  ·exact h.ng e
  ·exact hg e
 ·rintro ⟨e | e, _⟩
  ·exact h.nm e
  ·exact hm e
theorem y3n (c : Pure.Cfg) {us : List (Value × Pure.Rule)} (h : y09 us = c.rules) : FewRules us := by
 have hl := congrArg List.length h
 simp at hl
 refine ⟨by rw [hl]; have := ya7 c; omega, fun p hp => ?_⟩
 have h1 : p.2 ∈ c.rules := by rw [← h]; exact List.mem_map.2 ⟨p, hp, rfl⟩
 have key : ∀ r ∈ c.rules, r.Ok ∧ r.want.length ≤ 100000 := by
  have a1 : ∀ t, (Pure.rangeOf t).Ok ∧ (Pure.rangeOf t).want.length ≤ 100000 := fun t => ⟨by unfold Pure.Rule.Ok Pure.rangeOf; dsimp only; omega, by simp [Pure.rangeOf]⟩
  have a2 : ∀ t l, (Pure.passOf t l).Ok ∧ (Pure.passOf t l).want.length ≤ 100000 := fun t l => ⟨by unfold Pure.Rule.Ok Pure.passOf; dsimp only; omega, by simp [Pure.passOf]⟩
  have a3 : Pure.proofRule.Ok ∧ Pure.proofRule.want.length ≤ 100000 := ⟨by unfold Pure.Rule.Ok Pure.proofRule; dsimp only; omega, by decide⟩
  unfold Pure.Cfg.rules
  intro r hr
  simp only [List.mem_append, List.mem_cons, List.not_mem_nil, or_false] at hr
  rcases hr with ((((( rfl | rfl) | hr) | rfl) | hr) | hr) | hr
  ·exact a1 1
  ·exact a2 2 4
  ·split at hr
   ·simp at hr
   ·rw [List.mem_singleton.1 hr]; exact a3
  ·exact a2 5 4
  ·split at hr
   ·rw [List.mem_singleton.1 hr]; exact a2 7 0
   ·simp at hr
  ·split at hr
   ·rw [List.mem_singleton.1 hr]; exact a2 8 0
   ·simp at hr
  ·split at hr
   ·simp at hr
   ·simp at hr
    rcases hr with rfl | rfl
    ·exact a1 17
    ·exact a2 18 0
 exact key p.2 h1
theorem lnew_any (c : Pure.Cfg) (nm sc : ByteArray) (hn : nm.data.toList = c.name) (hs : sc.data.toList = c.secret) (hl : c.secret.length ≤ 1000000) (hck : c.check = 0) (hf : c.fine = true) (ha : c.accm < 4294967296) (m : Nat) (hm : m < 4294967296) (w : World) (E : Env w) :
  Calls Tryz.prog 26 #[cfgV c nm sc, .int .u32 (m : Int)] w fun e w' => ∃ k f R, e = .returned (.tuple #[.pointer (some ⟨k.l, 0, none⟩), .int .i64 0]) ∧ LObj w' k R f (Pure.newLcp c m) ∧ w.heap.size ≤ k.l ∧ w.heap.size ≤ k.g ∧ w.heap.size ≤ k.gm ∧ (∀ b, R b → w.heap.size ≤ b) ∧ Keeps y01 w w' := by
 obtain ⟨cb, hcb⟩ : ∃ q, q = w.heap.size := ⟨_, rfl⟩
 obtain ⟨w1, hw1⟩ : ∃ q, q = w.alloc (.cells (y0g c nm sc).toArray 25) := ⟨_, rfl⟩
 have hk1 : Keeps y01 w w1 := by rw [hw1]; exact (Keeps.refl _ w).alloc _
 have hC : Blk w1 cb 25 (y0g c nm sc).toArray := by rw [hw1, hcb]; exact Blk.new w _ _
 have HCH := xhd (lcheck_any c nm sc hn hs hl w1 ⟨E.hd.keeps hk1 (fun e => e), E.tb.below hk1.to_below⟩)
 rw [hck] at HCH
 have HRU := xhd (fun W => lrules_any c nm sc W)
 have HAS := xhd (fun W => lask_any c nm sc hf ha m hm W)
 have HC1 := xhd hC
 have HK1 := xhd hk1
 have HCB := xhd hcb
 have HF := xhd hf
 have HA := xhd ha
 have hnum : 1 ≤ c.tries ∧ c.tries ≤ 1000 ∧ 1 ≤ c.timeout ∧ c.timeout ≤ 1000 := by
  have h := hf
  unfold Pure.Cfg.fine at h
  simp only [Bool.and_eq_true, decide_eq_true_eq] at h
  omega
 have etr : c.tries = ((c.tries.toNat : Nat) : Int) := by omega
 have eti : c.timeout = ((c.timeout.toNat : Nat) : Int) := by omega
 have HMB := xhd (show y2m c.tries.toNat c.timeout.toNat by unfold y2m; omega)
 have HNW := xhd (fun (Fu Fx : Nat → Prop) (xu x : Value) (us : List (Value × Pure.Rule)) (zs : List (Value × Pure.Opt)) (W : World) (hu : RRow W Fu xu us) (hx : ORow W Fx x zs) (hF : ∀ b, Fx b → b < W.heap.size) (hfu : FewRules us) (hfx : Pure.Fine (y02 zs)) => show Calls Tryz.prog 66 #[xu, x, .int .i64 c.tries, .int .i64 c.timeout] W _ from by
  rw [etr, eti]
  exact newneg_any Fu Fx xu x us zs c.tries.toNat c.timeout.toNat W hu hx hF hfu hfx HMB.out)
 clear hn hs hl hck hf ha hm E hk1 hC hnum etr eti
 go_enter Tryz.func26, Tryz.ntmps26
 go_upto_region 1 with fail
 rw [← hcb, ← hw1]
 clear hcb hw1
 refine wp_region_list ?_
 refine wpList_load_mid rfl 25 (.tmp 2) rfl cb 0 rfl (y0g c nm sc) _ (fun j v hv => by rw [Nat.zero_add, HC1.out.cell, List.getElem?_toArray]; exact hv) Tryz.underlying25 rfl y19 ?_
 go_wp2_with fail
 refine HCH.out.mono ?_
 rintro e w2 ⟨rfl, hk2⟩
 have HK2 := xhd (HK1.out.trans hk2)
 have HC2 := xhd (HC1.out.keeps hk2 (fun e => e))
 have HKZ2 := xhd (Keeps.refl y01 w2)
 clear hk2 HCH HC1 HK1
 go_upto_region 4 with fail
 refine y0d (fun w' => Blk w' cb 25 (y0g c nm sc).toArray) 5 6 rfl (by kernel_rfl) HC2.out (fun hHeld => ?_)
 have HSW := hHeld
 clear hHeld
 have HK0d := xhd (HKZ2.out.drew)
 refine y00 (i := 0) rfl (by kernel_rfl) (fun _ _ _ h => h) (yieldsIf_load_mid rfl 25 (.tmp 2) rfl cb 0 rfl (y0g c nm sc) _ (fun W hW j v hv => by rw [Nat.zero_add, Blk.cell (hW), List.getElem?_toArray]; exact hv) Tryz.underlying25 rfl y19) HSW.out ?_
 simp only [Act.put, xqA, xqB, xqD, xqE, xqF]
 refine y00 (i := 1) rfl (by kernel_rfl) (fun _ _ _ h => h) (yieldsIf_load_mid rfl 25 (.tmp 2) rfl cb 0 rfl (y0g c nm sc) _ (fun W hW j v hv => by rw [Nat.zero_add, Blk.cell (hW), List.getElem?_toArray]; exact hv) Tryz.underlying25 rfl y19) HSW.out ?_
 simp only [Act.put, xqA, xqB, xqC, xqD, xqE, xqF]
 refine y05 (i := 2) (by kernel_rfl) rfl (fun K hK => ?_)
 try rw [if_pos (by rfl)]
 go_simp
 refine (HRU.out _).mono ?_
 rintro e w3 ⟨v3, us, rfl, hus, hrr⟩
 obtain ⟨A3, c3r, rfl⟩ := y07 hrr.own
 have HS3 := xhd (HSW.out.keeps hrr.kept (fun e => e))
 have HUS := xhd hus
 have HRR := xhd hrr.row
 have HK3 := xhd (HK2.out.trans (HK0d.out.trans hrr.kept))
 clear hus hrr
 refine hK.out _ _ (fun _ => HS3.out) ?_
 clear hK K
 try simp only [Act.put, xqA, Nat.reduceAdd, xqB, xqC, xqD, xqE, xqF]
 refine y00 (i := 3) rfl (by kernel_rfl) (fun _ _ _ h => h) (Or.inl ⟨by rfl, by intro w hSw; skip; go_simp; try with_reducible rfl⟩) HS3.out ?_
 simp only [Act.put, xqA, xqB, xqC, xqD, xqE, xqF]
 refine y05 (i := 4) (by kernel_rfl) rfl (fun K hK => ?_)
 try rw [if_pos (by rfl)]
 go_simp
 obtain ⟨lb, hlb⟩ : ∃ q, q = w3.heap.size := ⟨_, rfl⟩
 obtain ⟨w4, hw4⟩ : ∃ q, q = w3.alloc (.cells #[.pointer none, .bool c.server, .string nm, .string sc, .int .i64 c.mru, .bool c.pfc, .bool c.acfc, .int .u32 (c.accm : Int), .int .i64 c.mrru, .bool c.short, .int .i64 c.bits, .bool c.stateless, .bool c.mppc, .bool c.deflate, .bool c.must, .bool c.symbol, .int .i64 c.timeout, .int .i64 c.tries, .int .i64 c.fragment, .slice A3 us.length c3r] 125) := ⟨_, rfl⟩
 rw [← hlb, ← hw4]
 have hk4 : Keeps y01 w3 w4 := by rw [hw4]; exact (Keeps.refl _ w3).alloc _
 have HL4 := xhd (show Blk w4 lb 125 #[.pointer none, .bool c.server, .string nm, .string sc, .int .i64 c.mru, .bool c.pfc, .bool c.acfc, .int .u32 (c.accm : Int), .int .i64 c.mrru, .bool c.short, .int .i64 c.bits, .bool c.stateless, .bool c.mppc, .bool c.deflate, .bool c.must, .bool c.symbol, .int .i64 c.timeout, .int .i64 c.tries, .int .i64 c.fragment, .slice A3 us.length c3r] by rw [hw4, hlb]; exact Blk.new w3 _ _)
 have HS4 := xhd (HS3.out.keeps hk4 (fun e => e))
 have HK4 := xhd (HK3.out.trans hk4)
 have HR4 := xhd (HRR.out.keeps hk4 (fun _ _ e => e))
 have HLB := xhd hlb
 clear hk4 hw4 hlb
 refine hK.out _ _ (fun _ => HS4.out) ?_
 clear hK K
 try simp only [Act.put, xqA, Nat.reduceAdd, xqB, xqC, xqD, xqE, xqF]
 refine y05 (i := 5) (by kernel_rfl) rfl (fun K hK => ?_)
 go_simp
 refine hK.out _ _ (fun h => absurd rfl h) ?_
 clear hK K
 refine y0c (by kernel_rfl) ?_ _
 have HKZ4 := xhd (Keeps.refl y01 w4)
 have HNC := xhd (show cb ≠ lb from fun e => by have h1 := HS3.out.lt; have h2 := HLB.out; omega)
 clear HKZ2
 go_upto_region 5 with fail
 refine y0d (fun w' => Blk w' cb 25 (y0g c nm sc).toArray ∧ Blk w' lb 125 #[.pointer none, .bool c.server, .string nm, .string sc, .int .i64 c.mru, .bool c.pfc, .bool c.acfc, .int .u32 (c.accm : Int), .int .i64 c.mrru, .bool c.short, .int .i64 c.bits, .bool c.stateless, .bool c.mppc, .bool c.deflate, .bool c.must, .bool c.symbol, .int .i64 c.timeout, .int .i64 c.tries, .int .i64 c.fragment, .slice A3 us.length c3r]) 16 17 rfl (by kernel_rfl) ⟨HS4.out, HL4.out⟩ (fun hHeld => ?_)
 have HSW := hHeld
 clear hHeld
 have HK0d := xhd (HKZ4.out.drew)
 refine y00 (i := 0) rfl (by kernel_rfl) (fun _ _ _ h => h) (Or.inl ⟨by rfl, by intro w hSw; obtain ⟨sB, sL⟩ := hSw; have g15 : w.cell? ⟨cb, 15, none⟩ = some (.int .i64 c.timeout) := (by rw [sB.cell]; rfl); have g16 : w.cell? ⟨cb, 16, none⟩ = some (.int .i64 c.tries) := (by rw [sB.cell]; rfl); have l19 : w.cell? ⟨lb, 19, none⟩ = some (.slice A3 us.length c3r) := (by rw [sL.cell]; rfl); go_simp; try with_reducible rfl⟩) HSW.out ?_
 simp only [Act.put, xqA, xqB, xqD, xqE, xqF]
 refine y00 (i := 1) rfl (by kernel_rfl) (fun _ _ _ h => h) (Or.inl ⟨by rfl, by intro w hSw; obtain ⟨sB, sL⟩ := hSw; have g15 : w.cell? ⟨cb, 15, none⟩ = some (.int .i64 c.timeout) := (by rw [sB.cell]; rfl); have g16 : w.cell? ⟨cb, 16, none⟩ = some (.int .i64 c.tries) := (by rw [sB.cell]; rfl); have l19 : w.cell? ⟨lb, 19, none⟩ = some (.slice A3 us.length c3r) := (by rw [sL.cell]; rfl); go_simp; try with_reducible rfl⟩) HSW.out ?_
 simp only [Act.put, xqA, xqB, xqC, xqD, xqE, xqF]
 refine y00 (i := 2) rfl (by kernel_rfl) (fun _ _ _ h => h) (Or.inl ⟨by rfl, by intro w hSw; obtain ⟨sB, sL⟩ := hSw; have g15 : w.cell? ⟨cb, 15, none⟩ = some (.int .i64 c.timeout) := (by rw [sB.cell]; rfl); have g16 : w.cell? ⟨cb, 16, none⟩ = some (.int .i64 c.tries) := (by rw [sB.cell]; rfl); have l19 : w.cell? ⟨lb, 19, none⟩ = some (.slice A3 us.length c3r) := (by rw [sL.cell]; rfl); go_simp; try with_reducible rfl⟩) HSW.out ?_
 simp only [Act.put, xqA, xqB, xqC, xqD, xqE, xqF]
 refine y00 (i := 3) rfl (by kernel_rfl) (fun _ _ _ h => h) (Or.inl ⟨by rfl, by intro w hSw; obtain ⟨sB, sL⟩ := hSw; have g15 : w.cell? ⟨cb, 15, none⟩ = some (.int .i64 c.timeout) := (by rw [sB.cell]; rfl); have g16 : w.cell? ⟨cb, 16, none⟩ = some (.int .i64 c.tries) := (by rw [sB.cell]; rfl); have l19 : w.cell? ⟨lb, 19, none⟩ = some (.slice A3 us.length c3r) := (by rw [sL.cell]; rfl); go_simp; try with_reducible rfl⟩) HSW.out ?_
 simp only [Act.put, xqA, xqB, xqC, xqD, xqE, xqF]
 refine y00 (i := 4) rfl (by kernel_rfl) (fun _ _ _ h => h) (yieldsIf_load_mid rfl 25 (.tmp 2) rfl cb 0 rfl (y0g c nm sc) _ (fun W hW j v hv => by rw [Nat.zero_add, Blk.cell (hW.1), List.getElem?_toArray]; exact hv) Tryz.underlying25 rfl y19) HSW.out ?_
 simp only [Act.put, xqA, xqB, xqC, xqD, xqE, xqF]
 refine y00 (i := 5) rfl (by kernel_rfl) (fun _ _ _ h => h) (Or.inl ⟨by rfl, by intro w hSw; obtain ⟨sB, sL⟩ := hSw; have g15 : w.cell? ⟨cb, 15, none⟩ = some (.int .i64 c.timeout) := (by rw [sB.cell]; rfl); have g16 : w.cell? ⟨cb, 16, none⟩ = some (.int .i64 c.tries) := (by rw [sB.cell]; rfl); have l19 : w.cell? ⟨lb, 19, none⟩ = some (.slice A3 us.length c3r) := (by rw [sL.cell]; rfl); go_simp; try with_reducible rfl⟩) HSW.out ?_
 simp only [Act.put, xqA, xqB, xqC, xqD, xqE, xqF]
 refine y00 (i := 7) rfl (by kernel_rfl) (fun _ _ _ h => h) (Or.inl ⟨by rfl, by intro w hSw; obtain ⟨sB, sL⟩ := hSw; have g15 : w.cell? ⟨cb, 15, none⟩ = some (.int .i64 c.timeout) := (by rw [sB.cell]; rfl); have g16 : w.cell? ⟨cb, 16, none⟩ = some (.int .i64 c.tries) := (by rw [sB.cell]; rfl); have l19 : w.cell? ⟨lb, 19, none⟩ = some (.slice A3 us.length c3r) := (by rw [sL.cell]; rfl); go_simp; try with_reducible rfl⟩) HSW.out ?_
 simp only [Act.put, xqA, xqB, xqC, xqD, xqE, xqF]
 refine y00 (i := 8) rfl (by kernel_rfl) (fun _ _ _ h => h) (Or.inl ⟨by rfl, by intro w hSw; obtain ⟨sB, sL⟩ := hSw; have g15 : w.cell? ⟨cb, 15, none⟩ = some (.int .i64 c.timeout) := (by rw [sB.cell]; rfl); have g16 : w.cell? ⟨cb, 16, none⟩ = some (.int .i64 c.tries) := (by rw [sB.cell]; rfl); have l19 : w.cell? ⟨lb, 19, none⟩ = some (.slice A3 us.length c3r) := (by rw [sL.cell]; rfl); go_simp; try with_reducible rfl⟩) HSW.out ?_
 simp only [Act.put, xqA, xqB, xqC, xqD, xqE, xqF]
 refine y00 (i := 9) rfl (by kernel_rfl) (fun _ _ _ h => h) (Or.inl ⟨by rfl, by intro w hSw; obtain ⟨sB, sL⟩ := hSw; have g15 : w.cell? ⟨cb, 15, none⟩ = some (.int .i64 c.timeout) := (by rw [sB.cell]; rfl); have g16 : w.cell? ⟨cb, 16, none⟩ = some (.int .i64 c.tries) := (by rw [sB.cell]; rfl); have l19 : w.cell? ⟨lb, 19, none⟩ = some (.slice A3 us.length c3r) := (by rw [sL.cell]; rfl); go_simp; try with_reducible rfl⟩) HSW.out ?_
 simp only [Act.put, xqA, xqB, xqC, xqD, xqE, xqF]
 refine y00 (i := 10) rfl (by kernel_rfl) (fun _ _ _ h => h) (Or.inl ⟨by rfl, by intro w hSw; obtain ⟨sB, sL⟩ := hSw; have g15 : w.cell? ⟨cb, 15, none⟩ = some (.int .i64 c.timeout) := (by rw [sB.cell]; rfl); have g16 : w.cell? ⟨cb, 16, none⟩ = some (.int .i64 c.tries) := (by rw [sB.cell]; rfl); have l19 : w.cell? ⟨lb, 19, none⟩ = some (.slice A3 us.length c3r) := (by rw [sL.cell]; rfl); go_simp; try with_reducible rfl⟩) HSW.out ?_
 simp only [Act.put, xqA, xqB, xqC, xqD, xqE, xqF]
 refine y05 (i := 6) (by kernel_rfl) rfl (fun K hK => ?_)
 try rw [if_pos (by rfl)]
 go_simp
 refine (HAS.out _).mono ?_
 rintro e w5 ⟨v5, qs, rfl, hqs, hrd⟩
 obtain ⟨A5, c5r, rfl⟩ := y07 hrd.own
 have hk5 : Keeps y01 w4.drew w5 := Keeps.new hrd.below
 have HS5 := xhd (And.intro (HSW.out.1.keeps hk5 (fun e => e)) (HSW.out.2.keeps hk5 (fun e => e)))
 have HQS := xhd hqs
 have HRD := xhd hrd.row.strong
 have HK5 := xhd (HK4.out.trans (HK0d.out.trans hk5))
 have HR5 := xhd ((HR4.out.keeps HK0d.out (fun _ _ e => e)).keeps hk5 (fun _ _ e => e))
 clear hqs hrd hk5
 refine hK.out _ _ (fun _ => HS5.out) ?_
 clear hK K
 try simp only [Act.put, xqA, Nat.reduceAdd, xqB, xqC, xqD, xqE, xqF]
 refine y05 (i := 11) (by kernel_rfl) rfl (fun K hK => ?_)
 try rw [if_pos (by rfl)]
 go_simp
 refine (HNW.out _ _ _ _ us qs w5 HR5.out HRD.out (fun b hb => hb.2) (y3n c HUS.out) (by rw [HQS.out]; exact Pure.ask_fine c m)).mono ?_
 rintro e w6 ⟨g, f, R, rfl, hobj, hg, hgm, hR, hk6⟩
 rw [HUS.out, HQS.out] at hobj
 have HS6 := xhd (And.intro (HS5.out.1.keeps hk6 (fun e => e)) (HS5.out.2.keeps hk6 (fun e => e)))
 have HK6 := xhd (HK5.out.trans hk6)
 have HR6 := xhd (HR5.out.keeps hk6 (fun _ _ e => e))
 have HOB := xhd hobj
 have HGN := xhd hg
 have HGM := xhd hgm
 have HRN := xhd hR
 have HS56 := xhd hk6.size
 clear hobj hg hgm hR hk6
 refine hK.out _ _ (fun _ => HS6.out) ?_
 clear hK K
 try simp only [Act.put, xqA, Nat.reduceAdd, xqB, xqC, xqD, xqE, xqF]
 refine y00 (i := 12) rfl (by kernel_rfl) (fun _ _ _ h => h) (Or.inl ⟨by rfl, by intro w hSw; obtain ⟨sB, sL⟩ := hSw; have g15 : w.cell? ⟨cb, 15, none⟩ = some (.int .i64 c.timeout) := (by rw [sB.cell]; rfl); have g16 : w.cell? ⟨cb, 16, none⟩ = some (.int .i64 c.tries) := (by rw [sB.cell]; rfl); have l19 : w.cell? ⟨lb, 19, none⟩ = some (.slice A3 us.length c3r) := (by rw [sL.cell]; rfl); go_simp; try with_reducible rfl⟩) HS6.out ?_
 simp only [Act.put, xqA, xqB, xqC, xqD, xqE, xqF]
 refine y00 (i := 13) rfl (by kernel_rfl) (fun _ _ _ h => h) (Or.inl ⟨by rfl, by intro w hSw; obtain ⟨sB, sL⟩ := hSw; have g15 : w.cell? ⟨cb, 15, none⟩ = some (.int .i64 c.timeout) := (by rw [sB.cell]; rfl); have g16 : w.cell? ⟨cb, 16, none⟩ = some (.int .i64 c.tries) := (by rw [sB.cell]; rfl); have l19 : w.cell? ⟨lb, 19, none⟩ = some (.slice A3 us.length c3r) := (by rw [sL.cell]; rfl); go_simp; try with_reducible rfl⟩) HS6.out ?_
 simp only [Act.put, xqA, xqB, xqC, xqD, xqE, xqF]
 refine y00 (i := 14) rfl (by kernel_rfl) (fun _ _ _ h => h) (Or.inl ⟨by rfl, by intro w hSw; obtain ⟨sB, sL⟩ := hSw; have g15 : w.cell? ⟨cb, 15, none⟩ = some (.int .i64 c.timeout) := (by rw [sB.cell]; rfl); have g16 : w.cell? ⟨cb, 16, none⟩ = some (.int .i64 c.tries) := (by rw [sB.cell]; rfl); have l19 : w.cell? ⟨lb, 19, none⟩ = some (.slice A3 us.length c3r) := (by rw [sL.cell]; rfl); go_simp; try with_reducible rfl⟩) HS6.out ?_
 simp only [Act.put, xqA, xqB, xqC, xqD, xqE, xqF]
 refine y00 (i := 15) rfl (by kernel_rfl) (fun _ _ _ h => h) (Or.inl ⟨by rfl, by intro w hSw; obtain ⟨sB, sL⟩ := hSw; have g15 : w.cell? ⟨cb, 15, none⟩ = some (.int .i64 c.timeout) := (by rw [sB.cell]; rfl); have g16 : w.cell? ⟨cb, 16, none⟩ = some (.int .i64 c.tries) := (by rw [sB.cell]; rfl); have l19 : w.cell? ⟨lb, 19, none⟩ = some (.slice A3 us.length c3r) := (by rw [sL.cell]; rfl); go_simp; try with_reducible rfl⟩) HS6.out ?_
 simp only [Act.put, xqA, xqB, xqC, xqD, xqE, xqF]
 refine y05 (i := 16) (by kernel_rfl) rfl (fun K hK => ?_)
 go_simp
 refine hK.out _ _ (fun h => absurd rfl h) ?_
 clear hK K
 refine y0c (by kernel_rfl) ?_ _
 have HJB := xhd (y7z g R f _ 68 (.pointer (some ⟨lb, 0, none⟩)) w6 HOB.out (fun W => y7k _ W))
 go_wp2_with fail
 refine HJB.out.mono ?_
 rintro e w7 ⟨rfl, hob7, hk7⟩
 have hlg : lb ≠ g := fun e => by have h1 := HS5.out.2.lt; have h2 := HGN.out; omega
 have hL7 := HS6.out.2.keeps hk7 (fun e => hlg (by have e : lb = g := e; exact e))
 have l0 : w7.cell? ⟨lb, 0, none⟩ = some (.pointer none) := by rw [hL7.cell]; rfl
 have fl0 := hL7.frozen 0
 obtain ⟨w8, hw8⟩ : ∃ q, q = w7.setCell ⟨lb, 0, none⟩ (.pointer (some ⟨g, 0, none⟩)) := ⟨_, rfl⟩
 have K8 : Keeps (only lb) w7 w8 := by rw [hw8]; exact (Keeps.refl (only lb) w7).put 0 _
 have hL8 : LBlk w8 lb g c nm sc (.slice A3 us.length c3r) := by rw [hw8]; exact hL7.set 0 (.pointer (some ⟨g, 0, none⟩))
 have hlm : lb ≠ f.gm.m := fun e => by have h1 := HS5.out.2.lt; have h2 := HGM.out.1; omega
 have hlR : ¬ R lb := fun e => by have h1 := HS5.out.2.lt; have h2 := HRN.out lb e; omega
 have hob8 := hob7.keeps K8 (fun e => hlg (by have e : g = lb := e; exact e.symm)) (fun e => hlm (by have e : f.gm.m = lb := e; exact e.symm)) (fun b hb e => by have e : b = lb := e; exact hlR (e ▸ hb))
 have hRW : ∀ b, (w2.drew.heap.size ≤ b ∨ w2.drew.heap.size ≤ b) ∧ b < w3.heap.size → b < lb := fun b hb => by have := HLB.out; omega
 have HR8 := (HR6.out.keeps hk7 (fun b hb e => by have e : b = g := e; have h1 := HLB.out; have h2 := HGN.out; have h3 := HS5.out.2.lt; have := hb.2; omega)).keeps K8 (fun b hb e => by have e : b = lb := e; have h1 := HLB.out; have := hb.2; omega)
 have hobW := hob8.widen (G := fun b => (w2.drew.heap.size ≤ b ∨ w2.drew.heap.size ≤ b) ∧ b < w3.heap.size) (fun e => by have h1 := HLB.out; have h2 := HGN.out; have h3 := HS5.out.2.lt; have := e.2; omega) (fun e => by have h1 := HLB.out; have h2 := HGM.out.1; have h3 := HS5.out.2.lt; have e : _ ∧ f.gm.m < w3.heap.size := e; have := e.2; omega)
 have hkF : Keeps y01 w w8 := (HK6.out.trans' hk7 (fun i hi hl => by have e : i = g := hi; have h2 := HGN.out; have := HK5.out.size; omega)).trans' K8 (fun i hi hl => by have e : i = lb := hi; have h1 := HLB.out; have := HK3.out.size; omega)
 have HLO := xhd (show LObj w8 ⟨lb, g, f.gm.m, nm, sc, .slice A3 us.length c3r⟩ _ _ (Pure.newLcp c m) from ⟨hL8, hobW, rfl, ⟨us, HR8.mono (fun b hb => ⟨.inr hb, by have h1 := HLB.out; have := hb.2; have := hL8.lt; omega⟩), HUS.out, y3n c HUS.out⟩, rfl, HF.out, HA.out, (by rintro ⟨e | e, _⟩; exact hlR e; have h1 := HLB.out; have e2 : lb < w3.heap.size := e.2; omega), hlg, hlm⟩)
 have HKF := xhd hkF
 have HSZ := xhd (show w.heap.size ≤ lb ∧ w.heap.size ≤ g ∧ w.heap.size ≤ f.gm.m from by have h1 := HLB.out; have h2 := HGN.out; have h3 := HGM.out.1; have h4 := HK3.out.size; have h5 := HK5.out.size; omega)
 have HRS := xhd (show ∀ b, ((R b ∨ ((w2.drew.heap.size ≤ b ∨ w2.drew.heap.size ≤ b) ∧ b < w3.heap.size)) ∧ b < w8.heap.size) → w.heap.size ≤ b from fun b hb => by
  have h2 : w2.drew.heap.size = w2.heap.size := rfl
  have h4 := HK2.out.size
  have h5 := HK5.out.size
  rcases hb.1 with e | e
  ·have := HRN.out b e; omega
  ·omega)
 clear hob7 hk7 hL7 K8 hL8 hlm hlR hob8 hRW HR8 hobW hkF
 go_upto_region 10 with fail
 rw [← hw8]
 clear hw8 l0 fl0
 go_wp2_with fail
 go_ret2
 exact ⟨⟨lb, g, f.gm.m, nm, sc, .slice A3 us.length c3r⟩, _, _, rfl, HLO.out, HSZ.out.1, HSZ.out.2.1, HSZ.out.2.2, HRS.out, HKF.out⟩
abbrev nmN : ByteArray := { data := #[110] }
abbrev scS : ByteArray := { data := #[115, 101, 99, 114, 101, 116] }
structure MadeIs (c : Pure.Cfg) (srv : Bool) (tr : Int) : Prop where
 server : c.server = srv
 name : c.name = [110]
 secret : c.secret = [115, 101, 99, 114, 101, 116]
 mru : c.mru = 1500 ∨ c.mru = 500
 accm : c.accm = 4294967295 ∨ c.accm = 0
 mrru : (c.mrru = 0 ∧ c.short = false ∧ c.fragment = 0) ∨ (c.mrru = 1500 ∧ (c.fragment = 0 ∨ (16 ≤ c.fragment ∧ c.fragment ≤ 79)))
 bits : (c.bits = 0 ∧ c.stateless = false ∧ c.must = false) ∨ c.bits = 40 ∨ c.bits = 56 ∨ c.bits = 128
 none : c.mppc = false ∧ c.deflate = false ∧ c.symbol = false
 timeout : c.timeout = 2
 tries : c.tries = tr
theorem y3t (j : Nat) (n : Int) (hj : j ≤ 60) : bits .and .i64 n ((2 ^ j - 1 : Nat) : Int) = n % (2 ^ j : Nat) := by
 have hp : 2 ^ j ≤ 2 ^ 60 := Nat.pow_le_pow_right (by decide) hj
 have hq : 0 < 2 ^ j := Nat.two_pow_pos j
 have hb : (BitVec.ofInt 64 ((2 ^ j - 1 : Nat) : Int)).toNat = 2 ^ j - 1 := by
  rw [BitVec.toNat_ofInt]
  omega
 have key : (BitVec.ofInt 64 n &&& BitVec.ofInt 64 ((2 ^ j - 1 : Nat) : Int)).toNat = (n % ((2 ^ 64 : Nat) : Int)).toNat % 2 ^ j := by
  rw [BitVec.toNat_and, BitVec.toNat_ofInt, hb, Nat.and_two_pow_sub_one_eq_mod]
 show IntKind.i64.wrap ((BitVec.ofInt 64 n &&& BitVec.ofInt 64 ((2 ^ j - 1 : Nat) : Int)).toNat : Nat) = n % (2 ^ j : Nat)
 have hlt : (n % ((2 ^ 64 : Nat) : Int)).toNat % 2 ^ j < 2 ^ j := Nat.mod_lt _ hq
 rw [key, IntWalk.i64_in _ (by omega)]
 have hd : ((2 ^ j : Nat) : Int) ∣ ((2 ^ 64 : Nat) : Int) := Int.natCast_dvd_natCast.2 (Nat.pow_dvd_pow 2 (by omega))
 have h0 : 0 ≤ n % ((2 ^ 64 : Nat) : Int) := Int.emod_nonneg _ (by decide)
 rw [Int.natCast_emod, Int.toNat_of_nonneg h0, Int.emod_emod_of_dvd _ hd]
theorem and_one (n : Int) : bits .and .i64 n 1 = n % 2 := y3t 1 n (by decide)
theorem and_three (n : Int) : bits .and .i64 n 3 = n % 4 := y3t 2 n (by decide)
theorem and_63 (n : Int) : bits .and .i64 n 63 = n % 64 := y3t 6 n (by decide)
theorem and_28 (n : Int) : bits .and .i64 n 268435455 = n % 268435456 := y3t 28 n (by decide)
def MS (w wx : World) (cb rb : Nat) (P : Pure.Cfg → Prop) : Prop := ∃ c, Blk wx cb 25 (y0g c nmN scS).toArray ∧ P c ∧ Keeps y01 w wx ∧ w.heap.size ≤ cb ∧ (∃ zs, Blk wx rb 25 zs ∧ zs.size = 18) ∧ w.heap.size ≤ rb ∧ rb ≠ cb
theorem MS.set {w wx : World} {cb rb : Nat} {P Q : Pure.Cfg → Prop} (h : MS w wx cb rb P) (i : Nat) (u : Value) (f : Pure.Cfg → Pure.Cfg) (hf : ∀ c, P c → Q (f c)) (he : ∀ c, (y0g c nmN scS).toArray.setIfInBounds i u = (y0g (f c) nmN scS).toArray) : MS w (wx.setCell ⟨cb, i, none⟩ u) cb rb Q := by
 obtain ⟨c, h1, h2, h3, h4, ⟨zs, h5, h6⟩, h7, h8⟩ := h
 refine ⟨f c, ?_, hf c h2, h3.store cb i (fun e => by omega) u, h4, ⟨zs, h5.far (p := ⟨cb, i, none⟩) h8 u, h6⟩, h7, h8⟩
 rw [← he c]
 exact h1.set i u
theorem MS.mono {w wx : World} {cb rb : Nat} {P Q : Pure.Cfg → Prop} (h : MS w wx cb rb P) (hf : ∀ c, P c → Q c) : MS w wx cb rb Q := by
 obtain ⟨c, h1, h2, h3⟩ := h
 exact ⟨c, h1, hf c h2, h3⟩
abbrev y2i (s : Bool) (t : Int) (c : Pure.Cfg) : Prop := MadeIs c s t ∧ c.mrru = 0 ∧ c.bits = 0
abbrev Multi (s : Bool) (t : Int) (c : Pure.Cfg) : Prop := MadeIs c s t ∧ c.mrru = 1500 ∧ c.bits = 0
abbrev Any (s : Bool) (t : Int) (c : Pure.Cfg) : Prop := MadeIs c s t ∧ c.bits = 0
abbrev Bit (s : Bool) (t : Int) (c : Pure.Cfg) : Prop := MadeIs c s t ∧ 0 < c.bits
section
variable {s : Bool} {t : Int} {c : Pure.Cfg}
theorem plain_mru (h : y2i s t c) : y2i s t { c with mru := 500 } := ⟨⟨h.1.server, h.1.name, h.1.secret, .inr rfl, h.1.accm, h.1.mrru, h.1.bits, h.1.none, h.1.timeout, h.1.tries⟩, h.2⟩
theorem plain_accm (h : y2i s t c) : y2i s t { c with accm := 0 } := ⟨⟨h.1.server, h.1.name, h.1.secret, h.1.mru, .inr rfl, h.1.mrru, h.1.bits, h.1.none, h.1.timeout, h.1.tries⟩, h.2⟩
theorem ya2 (h : y2i s t c) : Multi s t { c with mrru := 1500 } := ⟨⟨h.1.server, h.1.name, h.1.secret, h.1.mru, h.1.accm, .inr ⟨rfl, .inl (by rcases h.1.mrru with e | e; exact e.2.2; have := h.2.1; omega)⟩, h.1.bits, h.1.none, h.1.timeout, h.1.tries⟩, rfl, h.2.2⟩
theorem y8o (b : Bool) (h : Multi s t c) : Multi s t { c with short := b } := ⟨⟨h.1.server, h.1.name, h.1.secret, h.1.mru, h.1.accm, .inr (by rcases h.1.mrru with e | e; have := h.2.1; omega; exact e), h.1.bits, h.1.none, h.1.timeout, h.1.tries⟩, h.2⟩
theorem y6b (q : Int) (hq : 16 ≤ q ∧ q ≤ 79) (h : Multi s t c) : Multi s t { c with fragment := q } := ⟨⟨h.1.server, h.1.name, h.1.secret, h.1.mru, h.1.accm, .inr ⟨h.2.1, .inr hq⟩, h.1.bits, h.1.none, h.1.timeout, h.1.tries⟩, h.2⟩
theorem y4h (q : Int) (hq : q = 40 ∨ q = 56 ∨ q = 128) (h : Any s t c) : Bit s t { c with bits := q } := ⟨⟨h.1.server, h.1.name, h.1.secret, h.1.mru, h.1.accm, h.1.mrru, .inr hq, h.1.none, h.1.timeout, h.1.tries⟩, by show 0 < q; omega⟩
theorem y6z (b : Bool) (h : Bit s t c) : Bit s t { c with stateless := b } := ⟨⟨h.1.server, h.1.name, h.1.secret, h.1.mru, h.1.accm, h.1.mrru, (by rcases h.1.bits with e | e; have := h.2; omega; exact .inr e), h.1.none, h.1.timeout, h.1.tries⟩, h.2⟩
theorem bit_must (b : Bool) (h : Bit s t c) : Bit s t { c with must := b } := ⟨⟨h.1.server, h.1.name, h.1.secret, h.1.mru, h.1.accm, h.1.mrru, (by rcases h.1.bits with e | e; have := h.2; omega; exact .inr e), h.1.none, h.1.timeout, h.1.tries⟩, h.2⟩
end
theorem madeC_any (n t : Int) (w : World) : Calls Tryz.prog 13 #[.int .i64 n, .int .i64 t] w fun e w' => ∃ c, e = .returned (cfgV c nmN scS) ∧ MadeIs c (n % 2 == 1) (1 + t % 4) ∧ Keeps y01 w w' := by
 have ht : wrap64 (1 + t % 4) = 1 + t % 4 := IntWalk.wrap64_in _ (by omega)
 have HT := xhd ht
 clear ht
 go_enter Tryz.func13, Tryz.ntmps13
 go_upto_region 2 with fail
 rw [and_28]
 have HM := xhd (show n % 268435456 % 2 = n % 2 by omega)
 generalize n % 268435456 = m at HM ⊢
 obtain ⟨rb, hrb⟩ : ∃ q, q = w.heap.size := ⟨_, rfl⟩
 generalize hw1 : w.alloc _ = w1
 have HK1 := xhd (show Keeps y01 w w1 ∧ (∃ zs, Blk w1 rb 25 zs ∧ zs.size = 18) ∧ w.heap.size ≤ rb ∧ rb < w1.heap.size from by
  subst hw1 hrb
  exact ⟨(Keeps.refl _ w).alloc _, ⟨_, Blk.new w _ _, rfl⟩, Nat.le_refl _, by simp⟩)
 rw [← hrb]
 clear hw1 hrb
 go_upto_if 23 with fail
 rw [and_one, and_three, HT.out, HM.out]
 obtain ⟨cb, hcb⟩ : ∃ q, q = w1.heap.size := ⟨_, rfl⟩
 generalize hw2 : w1.alloc _ = w2
 have HS := xhd (show MS w w2 cb rb (y2i (n % 2 == 1) (1 + t % 4)) from by
  subst hw2 hcb
  obtain ⟨k1, ⟨zs, k2, k3⟩, k4, k5⟩ := HK1.out
  exact ⟨⟨n % 2 == 1, [110], [115, 101, 99, 114, 101, 116], 1500, bits .and .i64 m 2 != 0, bits .and .i64 m 4 != 0, 4294967295, 0, false, 0, false, false, false, false, false, 2, 1 + t % 4, 0⟩, Blk.new w1 _ _, ⟨⟨rfl, rfl, rfl, .inl rfl, .inl rfl, .inl ⟨rfl, rfl, rfl⟩, .inl ⟨rfl, rfl, rfl⟩, ⟨rfl, rfl, rfl⟩, rfl, rfl⟩, rfl, rfl⟩, k1.alloc _, k1.size, ⟨zs, k2.alloc _, k3⟩, k4, Nat.ne_of_lt k5⟩)
 rw [← hcb]
 clear hw2 hcb HK1 HM
 generalize bits .and .i64 m 2 = m2
 generalize bits .and .i64 m 4 = m4
 go_cut [] (fun wx => MS w wx cb rb (y2i (n % 2 == 1) (1 + t % 4)))
 case first =>
  generalize (bits BinOp.and IntKind.i64 m 8 != 0) = q
  obtain ⟨c0, hb0, _⟩ := HS.out
  have fz := hb0.frozen 3
  have cz : w2.cell? ⟨cb, 3, none⟩ = some (.int .i64 c0.mru) := hb0.cell 3
  clear hb0
  have HSS := xhd (HS.out.set 3 (.int .i64 500) (fun c => { c with mru := 500 }) (fun _ => plain_mru) (fun _ => rfl))
  cases q
  ·go_wp2
   go_meet
   exact HS.out
  ·go_wp2
   go_meet
   exact HSS.out
 case rest =>
  have HS3 := xhd hcut
  clear hcut HS
  go_upto_if 27 with fail
  generalize (bits BinOp.and IntKind.i64 m 16 != 0) = q
  go_cut [] (fun wx => MS w wx cb rb (y2i (n % 2 == 1) (1 + t % 4)))
  case first =>
   obtain ⟨c0, hb0, _⟩ := HS3.out
   have fz := hb0.frozen 6
   have cz : wc.cell? ⟨cb, 6, none⟩ = some (.int .u32 (c0.accm : Int)) := hb0.cell 6
   clear hb0
   have HSS := xhd (HS3.out.set 6 (.int .u32 0) (fun c => { c with accm := 0 }) (fun _ => plain_accm) (fun _ => rfl))
   cases q
   ·go_wp2
    go_meet
    exact HS3.out
   ·go_wp2
    go_meet
    exact HSS.out
  case rest =>
   have HS4 := xhd hcut
   clear hcut HS3
   go_upto_if 31 with fail
   generalize (bits BinOp.and IntKind.i64 m 32 != 0) = q2
   go_cut [] (fun wx => MS w wx cb rb (Any (n % 2 == 1) (1 + t % 4)))
   case first =>
    obtain ⟨c0, hb0, _⟩ := HS4.out
    have fz := hb0.frozen 7
    have cz : wc.cell? ⟨cb, 7, none⟩ = some (.int .i64 c0.mrru) := hb0.cell 7
    have fz1 := hb0.frozen 8
    have cz1 : wc.cell? ⟨cb, 8, none⟩ = some (.bool c0.short) := hb0.cell 8
    clear hb0
    have HSS := xhd (HS4.out.set 7 (.int .i64 1500) (fun c => { c with mrru := 1500 }) (fun _ => ya2) (fun _ => rfl))
    cases q2
    ·go_wp2
     go_meet
     exact HS4.out.mono (fun _ h => ⟨h.1, h.2.2⟩)
    ·go_upto_if 39 with fail
     generalize (bits BinOp.and IntKind.i64 m 64 != 0) = q3
     have HS5 := xhd (HSS.out.set 8 (.bool q3) (fun c => { c with short := q3 }) (fun _ => y8o q3) (fun _ => rfl))
     clear HSS HS4 fz cz fz1 cz1
     generalize hw5 : World.setCell _ _ _ = w5 at HS5 ⊢
     clear hw5
     generalize (bits BinOp.and IntKind.i64 m 128 != 0) = q4
     obtain ⟨c1, hb0, _⟩ := HS5.out
     have fz := hb0.frozen 17
     have cz : w5.cell? ⟨cb, 17, none⟩ = some (.int .i64 c1.fragment) := hb0.cell 17
     clear hb0
     cases q4
     ·go_wp2
      go_meet
      exact HS5.out.mono (fun _ h => ⟨h.1, h.2.2⟩)
     ·go_wp2
      go_meet
      refine MS.mono (HS5.out.set 17 _ (fun c => { c with fragment := wrap64 (16 + bits .and .i64 (m / 1048576) 63) }) (fun _ => y6b _ ?_) (fun _ => rfl)) (fun _ h => ⟨h.1, h.2.2⟩)
      rw [and_63, IntWalk.wrap64_in _ (by omega)]
      omega
   case rest =>
    have HS5 := xhd hcut
    clear hcut HS4
    go_upto_block 0 with fail
    generalize (bits BinOp.and IntKind.i64 _ 3) = x8
    go_cut [] (fun wx => MS w wx cb rb (fun c => MadeIs c (n % 2 == 1) (1 + t % 4)))
    case first =>
     obtain ⟨c0, hb0, _⟩ := HS5.out
     have fz := hb0.frozen 9
     have cz : wc.cell? ⟨cb, 9, none⟩ = some (.int .i64 c0.bits) := hb0.cell 9
     clear hb0
     have HS40 := xhd (MS.mono (HS5.out.set 9 (.int .i64 40) (fun c => { c with bits := 40 }) (fun _ => y4h 40 (.inl rfl)) (fun _ => rfl)) (fun _ h => h.1))
     have HS56 := xhd (MS.mono (HS5.out.set 9 (.int .i64 56) (fun c => { c with bits := 56 }) (fun _ => y4h 56 (.inr (.inl rfl))) (fun _ => rfl)) (fun _ h => h.1))
     have HS128 := xhd (MS.mono (HS5.out.set 9 (.int .i64 128) (fun c => { c with bits := 128 }) (fun _ => y4h 128 (.inr (.inr rfl))) (fun _ => rfl)) (fun _ h => h.1))
     by_cases e1 : x8 = 1
     ·subst e1
      go_wp2
      go_meet
      exact HS40.out
     ·have e1 : (x8 == 1) = false := by simp [e1]
      by_cases e2 : x8 = 2
      ·subst e2
       clear e1
       go_wp2
       go_meet
       exact HS56.out
      ·have e2 : (x8 == 2) = false := by simp [e2]
       by_cases e3 : x8 = 3
       ·subst e3
        clear e1 e2
        go_wp2
        go_meet
        exact HS128.out
       ·have e3 : (x8 == 3) = false := by simp [e3]
        go_wp2
        go_meet
        exact HS5.out.mono (fun _ h => h.1)
    case rest =>
     have HS6 := xhd hcut
     clear hcut HS5
     obtain ⟨c0, hb0, hc0, hrest⟩ := HS6.out
     have cz : wc.cell? ⟨cb, 9, none⟩ = some (.int .i64 c0.bits) := hb0.cell 9
     have fz1 := hb0.frozen 10
     have cz1 : wc.cell? ⟨cb, 10, none⟩ = some (.bool c0.stateless) := hb0.cell 10
     have fz2 := hb0.frozen 13
     have cz2 : wc.cell? ⟨cb, 13, none⟩ = some (.bool c0.must) := hb0.cell 13
     have HB := xhd (show 0 < c0.bits → MS w wc cb rb (Bit (n % 2 == 1) (1 + t % 4)) from fun h => ⟨c0, hb0, ⟨hc0, h⟩, hrest⟩)
     clear hb0 hc0 hrest
     go_upto_if 59 with fail
     go_cut [] (fun wx => MS w wx cb rb (fun c => MadeIs c (n % 2 == 1) (1 + t % 4)))
     case first =>
      generalize hq : decide (0 < c0.bits) = qq
      have HQ := xhd hq
      clear hq
      cases qq
      ·go_wp2
       go_meet
       exact HS6.out
      ·have hp : 0 < c0.bits := by simpa using HQ.out
       have HBB := xhd (HB.out hp)
       clear hp
       go_wp2
       go_meet
       refine MS.mono (MS.set (HBB.out.set 10 _ (fun c => { c with stateless := bits .and .i64 (m / 1024) 1 == 1 }) (fun _ => y6z _) (fun _ => rfl)) 13 _ (fun c => { c with must := bits .and .i64 (m / 2048) 1 == 1 }) (fun _ => bit_must _) (fun _ => rfl)) (fun _ h => h.1)
     case rest =>
      clear HB fz1 fz2 cz cz1 cz2 c0
      obtain ⟨c, hb, hc, hk, hcb, ⟨zs, hz, hzs⟩, hrb, hne⟩ := hcut
      have HI := xhd y19
      have HB := xhd hb
      have HC := xhd hc
      have HZ := xhd hz
      have HZS := xhd hzs
      obtain ⟨w9, hw9⟩ : ∃ w9, w9 = wc.setRow rb (y0g c nmN scS).toArray := ⟨_, rfl⟩
      have HB9 := xhd (show Blk w9 rb 25 (y0g c nmN scS).toArray by rw [hw9]; exact Blk.rowSet hz _)
      have HK9 := xhd (show Keeps y01 w w9 by rw [hw9]; exact hk.rowSet (fun e => by omega) _)
      have HW9 := xhd hw9
      clear hb hc hk hcb hz hzs hrb hne hw9 HS6
      go_upto_region 22 with fail
      refine wp_region_list ?_
      refine wpList_load_mid rfl 25 (.tmp 5) rfl cb 0 rfl (y0g c nmN scS) _ (fun j v hv => by rw [Nat.zero_add, HB.out.cell, List.getElem?_toArray]; exact hv) Tryz.underlying25 rfl HI.out ?_
      refine wpList_store_row rfl 25 (.tmp 4) (.tmp 70) rfl rb _ rfl rfl 25 _ HZ.out (by rw [HI.out]; rfl) (by rw [HZS.out]; rfl) (by rw [List.all_toArray]; rfl) ?_
      rw [← HW9.out]
      go_wp2
      refine bodyPost_ret (y0i rfl _ _ rb 25 _ (0, 0) _ rfl HB9.out Tryz.underlying25 rfl (by rw [HI.out]; rfl)) rfl ?_
      exact ⟨c, rfl, HC.out, HK9.out⟩
abbrev y1s : Pure.Cfg := ⟨true, [110], [115, 101, 99, 114, 101, 116], 1500, false, false, 4294967295, 0, false, 0, false, false, false, false, false, 2, 4, 0⟩
theorem made13_any (w : World) : Calls Tryz.prog 13 #[.int .i64 1, .int .i64 3] w fun e w' => e = .returned (cfgV y1s nmN scS) ∧ Keeps y01 w w' := by
 have a1 : bits .and .i64 1 268435455 = 1 := by decide
 have a2 : bits .and .i64 1 1 = 1 := by decide
 have a3 : bits .and .i64 1 2 = 0 := by decide
 have a4 : bits .and .i64 1 4 = 0 := by decide
 have a5 : bits .and .i64 3 3 = 3 := by decide
 have a6 : bits .and .i64 1 8 = 0 := by decide
 have a7 : bits .and .i64 1 16 = 0 := by decide
 have a8 : bits .and .i64 1 32 = 0 := by decide
 have a9 : bits .and .i64 0 3 = 0 := by decide
 go_enter Tryz.func13, Tryz.ntmps13
 go_upto_region 2 with fail
 obtain ⟨rb, hrb⟩ : ∃ q, q = w.heap.size := ⟨_, rfl⟩
 generalize hw1 : w.alloc _ = w1
 have HK1 := xhd (show Keeps y01 w w1 ∧ (∃ zs, Blk w1 rb 25 zs ∧ zs.size = 18) ∧ w.heap.size ≤ rb ∧ rb < w1.heap.size from by
  subst hw1 hrb
  exact ⟨(Keeps.refl _ w).alloc _, ⟨_, Blk.new w _ _, rfl⟩, Nat.le_refl _, by simp⟩)
 rw [← hrb]
 clear hw1 hrb
 go_upto_region 3 with fail
 obtain ⟨cb, hcb⟩ : ∃ q, q = w1.heap.size := ⟨_, rfl⟩
 generalize hw2 : w1.alloc _ = w2
 have HS := xhd (show MS w w2 cb rb (fun c => c = y1s) from by
  subst hw2 hcb
  obtain ⟨k1, ⟨zs, k2, k3⟩, k4, k5⟩ := HK1.out
  exact ⟨y1s, Blk.new w1 _ _, rfl, k1.alloc _, k1.size, ⟨zs, k2.alloc _, k3⟩, k4, Nat.ne_of_lt k5⟩)
 rw [← hcb]
 clear hw2 hcb HK1
 obtain ⟨c, hb, rfl, hk, hcb, ⟨zs, hz, hzs⟩, hrb, hne⟩ := HS.out
 have cz : w2.cell? ⟨cb, 9, none⟩ = some (.int .i64 0) := hb.cell 9
 have HI := xhd y19
 have HB := xhd hb
 have HZ := xhd hz
 have HZS := xhd hzs
 obtain ⟨w9, hw9⟩ : ∃ w9, w9 = w2.setRow rb (y0g y1s nmN scS).toArray := ⟨_, rfl⟩
 have HB9 := xhd (show Blk w9 rb 25 (y0g y1s nmN scS).toArray by rw [hw9]; exact Blk.rowSet hz _)
 have HK9 := xhd (show Keeps y01 w w9 by rw [hw9]; exact hk.rowSet (fun e => by omega) _)
 have HW9 := xhd hw9
 clear hb hk hcb hz hzs hrb hne hw9 HS
 go_upto_region 22 with fail
 refine wp_region_list ?_
 refine wpList_load_mid rfl 25 (.tmp 5) rfl cb 0 rfl (y0g y1s nmN scS) _ (fun j v hv => by rw [Nat.zero_add, HB.out.cell, List.getElem?_toArray]; exact hv) Tryz.underlying25 rfl HI.out ?_
 refine wpList_store_row rfl 25 (.tmp 4) (.tmp 70) rfl rb _ rfl rfl 25 _ HZ.out (by rw [HI.out]; rfl) (by rw [HZS.out]; rfl) (by rw [List.all_toArray]; rfl) ?_
 rw [← HW9.out]
 go_wp2
 refine bodyPost_ret (y0i rfl _ _ rb 25 _ (0, 0) _ rfl HB9.out Tryz.underlying25 rfl (by rw [HI.out]; rfl)) rfl ?_
 exact ⟨rfl, HK9.out⟩
theorem MadeIs.fine {c : Pure.Cfg} {s : Bool} {t : Int} (h : MadeIs c s t) (ht : 1 ≤ t ∧ t ≤ 4) : c.fine = true := by
 obtain ⟨_, _, _, h4, _, h6, h7, ⟨n1, n2, n3⟩, h9, h10⟩ := h
 unfold Pure.Cfg.fine Pure.inInfo
 rw [n3, h9, h10]
 rcases h4 with e | e <;> rcases h6 with ⟨a1, a2, a3⟩ | ⟨a1, a3 | ⟨a3, a4⟩⟩ <;> rcases h7 with ⟨b1, b2, b3⟩ | b1 | b1 | b1 <;> simp_all <;> omega
theorem MadeIs.check {c : Pure.Cfg} {s : Bool} {t : Int} (h : MadeIs c s t) (ht : 1 ≤ t ∧ t ≤ 4) : c.check = 0 := by
 unfold Pure.Cfg.check
 rw [h.fine ht, h.name, h.secret]
 decide +kernel
theorem MadeIs.accm4 {c : Pure.Cfg} {s : Bool} {t : Int} (h : MadeIs c s t) : c.accm < 4294967296 := by
 rcases h.accm with e | e <;> omega
theorem lone_pkt {qs : List (Value × Pure.Pkt)} {o : Pure.Pkt} (h : qs.map Prod.snd = [o]) : ∃ v, qs = [(v, o)] := by
 match qs, h with
 | [(v, o')], h =>
  injection h with h1 _
  exact ⟨v, by rw [← h1]⟩
theorem y8p (c : Pure.Cfg) (s : Bool) (t : Int) (h : MadeIs c s t) (ht : 1 ≤ t ∧ t ≤ 4) (m : Nat) (hm : m < 4294967296) (w : World) (E : Env w) :
  Calls Tryz.prog 26 #[cfgV c nmN scS, .int .u32 (m : Int)] w fun e w' => ∃ k f R, e = .returned (.tuple #[.pointer (some ⟨k.l, 0, none⟩), .int .i64 0]) ∧ LObj w' k R f (Pure.newLcp c m) ∧ w.heap.size ≤ k.l ∧ w.heap.size ≤ k.g ∧ w.heap.size ≤ k.gm ∧ (∀ b, R b → w.heap.size ≤ b) ∧ Keeps y01 w w' :=
 lnew_any c nmN scS (by rw [h.name]) (by rw [h.secret]) (by rw [h.secret]; decide) (h.check ht) (h.fine ht) h.accm4 m hm w E
theorem cfg13_is : MadeIs y1s true 4 := ⟨rfl, rfl, rfl, .inl rfl, .inl rfl, .inl ⟨rfl, rfl, rfl⟩, .inl ⟨rfl, rfl, rfl⟩, ⟨rfl, rfl, rfl⟩, rfl, rfl⟩
theorem Env.quiet {w w' : World} (h : Env w) (k : Keeps y01 w w') : Env w' := ⟨h.hd.keeps k (fun e => e), h.tb.below k.to_below⟩
theorem lcp_up (c : Pure.Cfg) (m : Nat) : (Pure.newLcp c m).act 0 = (⟨c, ⟨c.rules, c.ask m, c.ask m, ⟨2, 0, 0, c.tries.toNat, c.timeout.toNat⟩, 0, 0, 0, false, [], [], 0, []⟩⟩, .of Pure.mute) := rfl
theorem lcp_open (c : Pure.Cfg) (m : Nat) : (⟨c, ⟨c.rules, c.ask m, c.ask m, ⟨2, 0, 0, c.tries.toNat, c.timeout.toNat⟩, 0, 0, 0, false, [], [], 0, []⟩⟩ : Pure.Lcp).act 2 = (⟨c, Pure.begun c.rules (c.ask m) c.tries.toNat c.timeout.toNat⟩, .of (Pure.sends [⟨1, 1, (Pure.options (c.ask m)).2⟩])) := rfl
theorem data13 : (Pure.options (y1s.ask 7)).2 = [3, 5, 194, 35, 129, 5, 6, 0, 0, 0, 7] := by decide +kernel
theorem lawake_any (w : World) (E : Env w) : Calls Tryz.prog 12 #[] w fun e w' => e = .returned (.bool true) ∧ Keeps y01 w w' := by
 have HM := xhd (made13_any w)
 have HE := xhd E
 clear E
 go_enter Tryz.func12, Tryz.ntmps12
 go_wp2_with fail
 refine HM.out.mono ?_
 rintro e w1 ⟨rfl, hk1⟩
 have HK1 := xhd hk1
 have HNW := xhd (y8p y1s true 4 cfg13_is (by decide) 7 (by decide) w1 (HE.out.quiet hk1))
 clear hk1 HM
 go_wp2_with fail
 refine HNW.out.mono ?_
 rintro e w2 ⟨k, f, R, rfl, hobj, hl, hg, hm, hR, hk2⟩
 have HOB := xhd hobj
 have HNG := xhd (show w.heap.size ≤ k.g ∧ w.heap.size ≤ k.gm from ⟨Nat.le_trans HK1.out.size hg, Nat.le_trans HK1.out.size hm⟩)
 have HK2 := xhd (HK1.out.trans hk2)
 have HUP := xhd (ldo_any hobj 0 (.inl rfl) (by decide))
 clear hobj hl hg hm hR hk2 HNW HK1
 rw [lcp_up] at HUP
 go_wp2_with fail
 refine HUP.out.mono ?_
 rintro e w3 ⟨v3, rfl, hout3, f3, R3, hobj3, hsub3, hk3⟩
 obtain ⟨sv3, ps3, rfl, _⟩ := hout3
 have HOB3 := xhd hobj3
 have HK3 := xhd (show Keeps y01 w w3 from HK2.out.trans' hk3 (fun i hi hl => by have h1 := HNG.out.1; have h2 := HNG.out.2; rcases hi with e | e <;> omega))
 have HOP := xhd (ldo_any hobj3 2 (.inr (.inr (.inl rfl))) (by decide))
 clear hobj3 hsub3 hk3 HUP HOB HK2
 rw [lcp_open] at HOP
 go_wp2_with fail
 refine HOP.out.mono ?_
 rintro e w4 ⟨v4, rfl, hout4, f4, R4, hobj4, hsub4, hk4⟩
 obtain ⟨sv4, ps4, rfl, hpr4, hps4, _⟩ := hout4
 have HK4 := xhd (show Keeps y01 w w4 from HK3.out.trans' hk4 (fun i hi hl => by have h1 := HNG.out.1; have h2 := HNG.out.2; rcases hi with e | e <;> omega))
 rw [show (Pure.LSaid.of (Pure.sends [⟨1, 1, (Pure.options (y1s.ask 7)).2⟩])).said = Pure.sends [⟨1, 1, (Pure.options (y1s.ask 7)).2⟩] from rfl, data13] at hps4
 obtain ⟨v11, rfl⟩ := lone_pkt (show ps4.map Prod.snd = [(⟨1, 1, [3, 5, 194, 35, 129, 5, 6, 0, 0, 0, 7]⟩ : Pure.Pkt)] from hps4)
 obtain ⟨_, _, X10, c10, rfl, _, _, _⟩ := hpr4.out
 obtain ⟨bp, op, B5, d5, q5, hX5, _, z5, hr5, hp5⟩ := hpr4.pick 0 (by simp)
 subst hX5
 obtain ⟨rfl, rfl⟩ : v11 = .slice B5 q5.data.length d5 ∧ q5 = ⟨1, 1, [3, 5, 194, 35, 129, 5, 6, 0, 0, 0, 7]⟩ := by
  have h : some (v11, (⟨1, 1, [3, 5, 194, 35, 129, 5, 6, 0, 0, 0, 7]⟩ : Pure.Pkt)) = some (.slice B5 q5.data.length d5, q5) := hp5
  injection h with h
  injection h with h1 h2
  exact ⟨h1, h2.symm⟩
 rw [Nat.zero_mul, Nat.add_zero] at z5
 have z50 : w4.cell? ⟨bp, op, none⟩ = some (.int .i64 1) := z5 0 _ rfl
 have z51 : w4.cell? ⟨bp, op + 1, none⟩ = some (.int .i64 1) := z5 1 _ rfl
 have z52 : w4.cell? ⟨bp, op + 2, none⟩ = some (.slice B5 11 d5) := z5 2 _ rfl
 have HST := xhd (fun (W : World) (hk : Keeps y01 w4 W) => show Calls Tryz.prog 40 #[.pointer (some ⟨k.l, 0, none⟩)] W fun e w' => e = .returned (.int .i64 6) ∧ W = w' from lstate_any (hobj4.quiet hk))
 clear z5 hr5 hp5 hpr4 hps4 hobj4 hsub4 hk4 HOP HOB3 HK3 HNG
 rw [show ([(.slice B5 (⟨1, 1, [3, 5, 194, 35, 129, 5, 6, 0, 0, 0, 7]⟩ : Pure.Pkt).data.length d5, (⟨1, 1, [3, 5, 194, 35, 129, 5, 6, 0, 0, 0, 7]⟩ : Pure.Pkt))] : List (Value × Pure.Pkt)).length = 1 from rfl]
 go_upto_region 6 with fail
 have hk5 : Keeps y01 w4 (w4.alloc (.cells #[.slice (some ⟨bp, op, none⟩) 1 c10, .bool false, .bool false, .bool false, .bool false, .int .i64 0] 61)) := (Keeps.refl _ w4).alloc _
 have HS5 := xhd (HST.out _ hk5)
 have HK5 := xhd (HK4.out.trans hk5)
 clear hk5 HST HK4
 go_wp2_with fail
 refine HS5.out.mono ?_
 rintro e w6 ⟨rfl, rfl⟩
 go_wp2_with fail
 go_ret
 exact ⟨rfl, HK5.out⟩
abbrev zeroCfg : Array Value := (y0g ⟨false, [], [], 0, false, false, 0, 0, false, 0, false, false, false, false, false, 0, 0, 0⟩ ByteArray.empty ByteArray.empty).toArray
theorem y7i (ρ : Operand → Value) (d : Option Tmp) (ty : TypeId) (ps : String) (af : Array _) (w : World) :
  (execOp ρ { dst := d, op := .alloc 25, type := ty, pos := ps, after := af, guard := none }).run Tryz.prog w = .ok (.value (.pointer (some ⟨w.heap.size, 0, none⟩))) (w.alloc (.cells zeroCfg 25)) := by
 kernel_rfl
theorem y2e (F : Nat → Prop) (x : Value) (l : List UInt8) (w : World) (hr : Row w F 1 x l.length (u8s l)) (hl : l.length ≤ 4) :
  Calls Tryz.prog 61 #[x] w fun e w' => e = .returned (.int .i64 (Pure.bnum l : Nat)) ∧ w = w' := by
 obtain ⟨A, c, rfl, hc⟩ := hr.form
 have HR := xhd hr
 have HT := xhd (fun (k : Nat) (h : k ≤ l.length) => show Pure.bnum (l.take k) < 4294967296 from Pure.bnum_small (by rw [List.length_take]; omega))
 have HT3 := xhd (fun (k : Nat) (h : k < l.length) => show Pure.bnum (l.take k) < 16777216 from Nat.lt_of_lt_of_le (Pure.bnum_lt _) (show 256 ^ (l.take k).length ≤ 256 ^ 3 from Nat.pow_le_pow_right (by omega) (by rw [List.length_take]; omega)))
 clear hr
 go_enter Tryz.func61, Tryz.ntmps61
 go_wp2_with fail
 go_loopw [3, 4] (fun v i wr => ∃ k : Nat, k ≤ l.length ∧ i = .int .i64 (k : Int) ∧ v = .int .i64 (Pure.bnum (l.take k) : Nat) ∧ wr = w) (fun _ i _ => l.length - (intOf i).toNat)
 case atStart => exact ⟨0, by omega, rfl, rfl, rfl⟩
 case round =>
  obtain ⟨k, hk, rfl, rfl, rfl⟩ := hrel
  by_cases hkl : k < l.length
  ·have i0 : (0 : Int) ≤ (k : Int) := by omega
   have i1 : (k : Int) < (l.length : Int) := by omega
   obtain ⟨b, off, rfl, _, hcx⟩ := HR.out.cellAt (by omega)
   have b0 := hcx k _ (y2b l k hkl)
   have hx := (l.getD k 0).toNat_lt
   have hN := HT3.out k hkl
   have hsn : Pure.bnum (l.take (k + 1)) = Pure.bnum (l.take k) * 256 + (l.getD k 0).toNat := by
    rw [List.take_succ_eq_append_getElem hkl, Pure.bnum_snoc]
    simp [List.getD_eq_getElem?_getD, hkl]
   have hM := HT.out (k + 1) (by omega)
   obtain ⟨N, hN'⟩ : ∃ N, N = Pure.bnum (l.take k) := ⟨_, rfl⟩
   obtain ⟨M, hM'⟩ : ∃ N, N = Pure.bnum (l.take (k + 1)) := ⟨_, rfl⟩
   obtain ⟨X, hX⟩ : ∃ N, N = (l.getD k 0).toNat := ⟨_, rfl⟩
   rw [← hN', ← hM', ← hX] at hsn
   rw [← hN'] at hN ⊢
   rw [← hM'] at hM
   rw [← hX] at b0 hx
   have eor : bits .or .i64 ((N : Int) * 256) (X : Int) = (M : Int) := by
    have h := y4x (N * 256) X (by omega) (by omega)
    rw [show N * 256 ||| X = M by rw [hsn, show (256 : Nat) = 2 ^ 8 by rfl, ← Nat.shiftLeft_eq, Nat.shiftLeft_add_eq_or_of_lt (show X < 2 ^ 8 by omega)]] at h
    simpa using h
   have HM := xhd hM'
   clear hcx hN' hM' hX hsn hM
   go_wp2_with fail
   go_roundw
   case rel => exact ⟨k + 1, by omega, by go_num, by rw [← HM.out], trivial⟩
   case measure => simp [intOf]; omega
  ·have hkk : k = l.length := by omega
   have HE := xhd (show Pure.bnum (l.take k) = Pure.bnum l by rw [hkk, List.take_length])
   subst hkk
   clear hkl hk
   go_wp2
   go_ret
   exact ⟨by rw [← HE.out]; rfl, rfl⟩
theorem y1e (F : Nat → Prop) (v x : Value) (r : Pure.Rule) (l : List UInt8) (w : World) (hr : Row w F 1 x l.length (u8s l)) :
  Calls Tryz.prog 147 #[y16 (v, r), x] w fun e w' => e = .returned (.bool (decide (r.numbered l))) ∧ Keeps y01 w w' := by
 obtain ⟨A, c, rfl, _⟩ := hr.form
 have HK := xhd ((Keeps.refl y01 w).alloc (.cells (y04 (v, r)).toArray 148))
 have hb := Blk.new w 148 (y04 (v, r)).toArray
 have c1 : (w.alloc (.cells (y04 (v, r)).toArray 148)).cell? ⟨w.heap.size, 1, none⟩ = some (.int .i64 r.len) := by rw [hb.cell]; rfl
 clear hr hb
 by_cases h1 : 1 ≤ r.len
 ·have d1 : decide (1 ≤ r.len) = true := decide_eq_true h1
  by_cases h4 : r.len ≤ 4
  ·have d4 : decide (r.len ≤ 4) = true := decide_eq_true h4
   by_cases hl : (l.length : Int) = r.len
   ·have dl : ((l.length : Int) == r.len) = true := by rw [beq_iff_eq]; exact hl
    have HD := xhd (show decide (r.numbered l) = true from decide_eq_true ⟨h1, h4, hl⟩)
    clear h1 h4 hl
    go_enter Tryz.func147, Tryz.ntmps147
    go_wp2
    go_ret
    exact ⟨by rw [HD.out]; rfl, HK.out⟩
   ·have dl : ((l.length : Int) == r.len) = false := by rw [beq_eq_false_iff_ne]; exact hl
    have HD := xhd (show decide (r.numbered l) = false from decide_eq_false fun h => hl h.2.2)
    clear h1 h4 hl
    go_enter Tryz.func147, Tryz.ntmps147
    go_wp2
    go_ret
    exact ⟨by rw [HD.out]; rfl, HK.out⟩
  ·have d4 : decide (r.len ≤ 4) = false := decide_eq_false h4
   have HD := xhd (show decide (r.numbered l) = false from decide_eq_false fun h => h4 h.2.1)
   clear h1 h4
   go_enter Tryz.func147, Tryz.ntmps147
   go_wp2
   go_ret
   exact ⟨by rw [HD.out]; rfl, HK.out⟩
 ·have d1 : decide (1 ≤ r.len) = false := decide_eq_false h1
  have HD := xhd (show decide (r.numbered l) = false from decide_eq_false fun h => h1 h.1)
  clear h1
  go_enter Tryz.func147, Tryz.ntmps147
  go_wp2
  go_ret
  exact ⟨by rw [HD.out]; rfl, HK.out⟩
theorem y2x (F : Nat → Prop) (x : Value) (ps : List (Value × Pure.Opt)) (n : Nat) (t : Int) (w : World) (hx : ORow w F x ps) (hn : n ≤ ps.length) :
  Calls Tryz.prog 103 #[x, .int .i64 n, .int .i64 t] w fun e w' => e = .returned (.bool (Pure.hasType ((ps.map Prod.snd).take n) t)) ∧ w = w' := by
 obtain ⟨A, c, rfl, _⟩ := hx.form
 have hm := hx.out.2.1
 unfold maxLen at hm
 have HX := xhd hx
 clear hx
 go_enter Tryz.func103, Tryz.ntmps103
 go_wp2_with fail
 go_loopw [7] (fun i wr => ∃ k : Nat, k ≤ n ∧ i = .int .i64 (k : Int) ∧ Pure.hasType ((ps.map Prod.snd).take k) t = false ∧ wr = w) (fun i _ => n - (intOf i).toNat)
 case atStart => exact ⟨0, by omega, rfl, rfl, rfl⟩
 case round =>
  obtain ⟨k, hk, rfl, hH, rfl⟩ := hrel
  have HH := xhd hH
  clear hH
  by_cases hkl : k < n
  ·have i0 : (0 : Int) ≤ (k : Int) := by omega
   have i1 : (k : Int) < (ps.length : Int) := by omega
   have d1 : decide ((k : Int) < (n : Int)) = true := decide_eq_true (by omega)
   have d2 : decide (k < n) = true := decide_eq_true hkl
   obtain ⟨p, o, A1, c1, s, la, rfl, hFp, x0, x1, hra, hpa⟩ := HX.out.pick k (by omega)
   have htk : (ps.map Prod.snd).take (k + 1) = (ps.map Prod.snd).take k ++ [(s, la)] := by
    rw [List.take_add_one, List.getElem?_map, hpa]; rfl
   have hstep : Pure.hasType ((ps.map Prod.snd).take (k + 1)) t = decide (s = t) := by
    rw [htk]
    unfold Pure.hasType
    rw [List.any_append]
    have := HH.out
    unfold Pure.hasType at this
    rw [this]
    simp
   have HS := xhd hstep
   clear hra hpa x1 htk hstep
   by_cases hst : s = t
   ·subst hst
    have HE := xhd (show Pure.hasType ((ps.map Prod.snd).take n) s = true by
     have h := HS.out
     rw [decide_eq_true rfl] at h
     unfold Pure.hasType at h ⊢
     rw [List.any_eq_true] at h ⊢
     obtain ⟨q, hq, hq2⟩ := h
     have ht : ((ps.map Prod.snd).take n).take (k + 1) = (ps.map Prod.snd).take (k + 1) := by rw [List.take_take, Nat.min_eq_left (by omega)]
     rw [← ht] at hq
     exact ⟨q, List.mem_of_mem_take hq, hq2⟩)
    have dq : (s == s) = true := beq_self_eq_true s
    go_wp2_with fail
    go_ret
    exact ⟨by rw [HE.out]; rfl, rfl⟩
   ·have dq : (s == t) = false := by rw [beq_eq_false_iff_ne]; exact hst
    go_wp2_with fail
    go_roundw
    case rel => exact ⟨k + 1, by omega, by go_num, by rw [HS.out]; exact decide_eq_false hst, trivial⟩
    case measure => simp [intOf]; omega
  ·have hkk : k = n := by omega
   subst hkk
   have d1 : decide ((k : Int) < (k : Int)) = false := decide_eq_false (by omega)
   have d2 : decide (k < k) = false := decide_eq_false (by omega)
   go_wp2
   go_ret
   exact ⟨by rw [HH.out]; rfl, rfl⟩
end Go.Proofs.YtmgicbckgpdkcaaGreatDoor
