/- Package lcp: New. -/
import Derived.Laws.OwnMore
import Derived.Test.YtmgicbckgpdkcaaGreatDoorL21
namespace Go.Proofs.YtmgicbckgpdkcaaGreatDoor
set_option maxRecDepth 100000
set_option maxHeartbeats 16000000
open _root_.Go.Lib renaming hid → xhd
open List renaming setIfInBounds_toArray → xqA, getElem_toArray → xqB, getElem_cons_succ → xqC, getElem_cons_zero → xqD, set_cons_succ → xqE, set_cons_zero → xqF
open Go.RowKit
theorem NObj.widen {w : World} {g : Nat} {R G : Nat → Prop} {f : NF} {n : Pure.Neg} (h : NObj w g R f n) (hg : ¬ G g) (hm : ¬ G f.gm) : NObj w g (fun b => (R b ∨ G b) ∧ b < w.heap.size) f n := by
 obtain ⟨vs, s1, s2, s3⟩ := h.rules
 have hsub : ∀ b, R b → (R b ∨ G b) ∧ b < w.heap.size := fun b hb => ⟨.inl hb, h.lt b hb⟩
 refine ⟨h.blk, h.mach, h.well, h.e1, h.e2, h.e3, h.e4, h.e5, h.e6, ⟨vs, s1.mono hsub, s2, s3⟩, h.first.mono hsub, h.request.mono hsub, h.aopts.mono hsub, h.mine.mono hsub, h.given.mono hsub, fun b hb => hb.2, ?_, ?_, h.ne⟩
 ·rintro ⟨e | e, _⟩
  ·exact h.ng e
  ·exact hg e
 ·rintro ⟨e | e, _⟩
  ·exact h.nm e
  ·exact hm e
theorem y6q (c : Pure.Cfg) {us : List (Value × Pure.Rule)} (h : y0e us = c.rules) : FewRules us := by
 have hl := congrArg List.length h
 simp at hl
 refine ⟨by rw [hl]; have := y9v c; omega, fun p hp => ?_⟩
 have h1 : p.2 ∈ c.rules := by rw [← h]; exact List.mem_map.2 ⟨p, hp, rfl⟩
 have key : ∀ r ∈ c.rules, r.Ok ∧ r.want.length ≤ 100000 := by
  have a1 : ∀ t, (Pure.rangeOf t).Ok ∧ (Pure.rangeOf t).want.length ≤ 100000 := fun t => ⟨by unfold Pure.Rule.Ok Pure.rangeOf; dsimp only; omega, by simp [Pure.rangeOf]⟩
  have a2 : ∀ t l, (Pure.passOf t l).Ok ∧ (Pure.passOf t l).want.length ≤ 100000 := fun t l => ⟨by unfold Pure.Rule.Ok Pure.passOf; dsimp only; omega, by simp [Pure.passOf]⟩
  have a3 : Pure.proofRule.Ok ∧ Pure.proofRule.want.length ≤ 100000 := ⟨by unfold Pure.Rule.Ok Pure.proofRule; dsimp only; omega, by decide⟩
  unfold Pure.Cfg.rules
  intro r hr
  simp only [List.mem_append, List.mem_cons, List.not_mem_nil, or_false] at hr
  rcases hr with ((((( rfl | rfl) | hr) | rfl) | hr) | hr) | hr
  ·exact a1 1
  ·exact a2 2 4
  ·split at hr
   ·simp at hr
   ·rw [List.mem_singleton.1 hr]; exact a3
  ·exact a2 5 4
  ·split at hr
   ·rw [List.mem_singleton.1 hr]; exact a2 7 0
   ·simp at hr
  ·split at hr
   ·rw [List.mem_singleton.1 hr]; exact a2 8 0
   ·simp at hr
  ·split at hr
   ·simp at hr
   ·simp at hr
    rcases hr with rfl | rfl
    ·exact a1 17
    ·exact a2 18 0
 exact key p.2 h1
theorem lnew_any (c : Pure.Cfg) (nm sc : ByteArray) (hn : nm.data.toList = c.name) (hs : sc.data.toList = c.secret) (hl : c.secret.length ≤ 1000000) (hck : c.check = 0) (hf : c.fine = true) (ha : c.accm < 4294967296) (m : Nat) (hm : m < 4294967296) (w : World) (E : Env w) :
  Calls Tryz.prog 26 #[cfgV c nm sc, .int .u32 (m : Int)] w fun e w' => ∃ k f R, e = .returned (.tuple #[.pointer (some ⟨k.l, 0, none⟩), .int .i64 0]) ∧ LObj w' k R f (Pure.newLcp c m) ∧ w.heap.size ≤ k.l ∧ w.heap.size ≤ k.g ∧ w.heap.size ≤ k.gm ∧ (∀ b, R b → w.heap.size ≤ b) ∧ Keeps y01 w w' := by
 obtain ⟨cb, hcb⟩ : ∃ q, q = w.heap.size := ⟨_, rfl⟩
 obtain ⟨w1, hw1⟩ : ∃ q, q = w.alloc (.cells (y07 c nm sc).toArray 25) := ⟨_, rfl⟩
 have hk1 : Keeps y01 w w1 := by rw [hw1]; exact (Keeps.refl _ w).alloc _
 have hC : Blk w1 cb 25 (y07 c nm sc).toArray := by rw [hw1, hcb]; exact Blk.new w _ _
 have HCH := xhd (y4y c nm sc hn hs hl w1 ⟨E.hd.keeps hk1 (fun e => e), E.tb.below hk1.to_below⟩)
 rw [hck] at HCH
 have HRU := xhd (fun W => y51 c nm sc W)
 have HAS := xhd (fun W => lask_any c nm sc hf ha m hm W)
 have HC1 := xhd hC
 have HK1 := xhd hk1
 have HCB := xhd hcb
 have HF := xhd hf
 have HA := xhd ha
 have hnum : 1 ≤ c.tries ∧ c.tries ≤ 1000 ∧ 1 ≤ c.timeout ∧ c.timeout ≤ 1000 := by
  have h := hf
  unfold Pure.Cfg.fine at h
  simp only [Bool.and_eq_true, decide_eq_true_eq] at h
  omega
 have etr : c.tries = ((c.tries.toNat : Nat) : Int) := by omega
 have eti : c.timeout = ((c.timeout.toNat : Nat) : Int) := by omega
 have HMB := xhd (show y2n c.tries.toNat c.timeout.toNat by unfold y2n; omega)
 have HNW := xhd (fun (Fu Fx : Nat → Prop) (xu x : Value) (us : List (Value × Pure.Rule)) (zs : List (Value × Pure.Opt)) (W : World) (hu : RRow W Fu xu us) (hx : ORow W Fx x zs) (hF : ∀ b, Fx b → b < W.heap.size) (hfu : FewRules us) (hfx : Pure.Fine (y02 zs)) => show Calls Tryz.prog 66 #[xu, x, .int .i64 c.tries, .int .i64 c.timeout] W _ from by
  rw [etr, eti]
  exact newneg_any Fu Fx xu x us zs c.tries.toNat c.timeout.toNat W hu hx hF hfu hfx HMB.out)
 clear hn hs hl hck hf ha hm E hk1 hC hnum etr eti
 go_enter Tryz.func26, Tryz.ntmps26
 go_upto_region 1 with fail
 rw [← hcb, ← hw1]
 clear hcb hw1
 refine wp_region_list ?_
 refine wpList_load_mid rfl 25 (.tmp 2) rfl cb 0 rfl (y07 c nm sc) _ (fun j v hv => by rw [Nat.zero_add, HC1.out.cell, List.getElem?_toArray]; exact hv) Tryz.underlying25 rfl y1c ?_
 go_wp2_with fail
 refine HCH.out.mono ?_
 rintro e w2 ⟨rfl, hk2⟩
 have HK2 := xhd (HK1.out.trans hk2)
 have HC2 := xhd (HC1.out.keeps hk2 (fun e => e))
 have HKZ2 := xhd (Keeps.refl y01 w2)
 clear hk2 HCH HC1 HK1
 go_upto_region 4 with fail
 refine y0i (fun w' => Blk w' cb 25 (y07 c nm sc).toArray) 5 6 rfl (by kernel_rfl) HC2.out (fun hHeld => ?_)
 have HSW := hHeld
 clear hHeld
 have HK0d := xhd (HKZ2.out.drew)
 refine y00 (i := 0) rfl (by kernel_rfl) (fun _ _ _ h => h) (yieldsIf_load_mid rfl 25 (.tmp 2) rfl cb 0 rfl (y07 c nm sc) _ (fun W hW j v hv => by rw [Nat.zero_add, Blk.cell (hW), List.getElem?_toArray]; exact hv) Tryz.underlying25 rfl y1c) HSW.out ?_
 simp only [Act.put, xqA, xqB, xqD, xqE, xqF]
 refine y00 (i := 1) rfl (by kernel_rfl) (fun _ _ _ h => h) (yieldsIf_load_mid rfl 25 (.tmp 2) rfl cb 0 rfl (y07 c nm sc) _ (fun W hW j v hv => by rw [Nat.zero_add, Blk.cell (hW), List.getElem?_toArray]; exact hv) Tryz.underlying25 rfl y1c) HSW.out ?_
 simp only [Act.put, xqA, xqB, xqC, xqD, xqE, xqF]
 refine y05 (i := 2) (by kernel_rfl) rfl (fun K hK => ?_)
 try rw [if_pos (by rfl)]
 go_simp
 refine (HRU.out _).mono ?_
 rintro e w3 ⟨v3, us, rfl, hus, hrr⟩
 obtain ⟨A3, c3r, rfl⟩ := y04 hrr.own
 have HS3 := xhd (HSW.out.keeps hrr.kept (fun e => e))
 have HUS := xhd hus
 have HRR := xhd hrr.row
 have HK3 := xhd (HK2.out.trans (HK0d.out.trans hrr.kept))
 clear hus hrr
 refine hK.out _ _ (fun _ => HS3.out) ?_
 clear hK K
 try simp only [Act.put, xqA, Nat.reduceAdd, xqB, xqC, xqD, xqE, xqF]
 refine y00 (i := 3) rfl (by kernel_rfl) (fun _ _ _ h => h) (Or.inl ⟨by rfl, by intro w hSw; skip; go_simp; try with_reducible rfl⟩) HS3.out ?_
 simp only [Act.put, xqA, xqB, xqC, xqD, xqE, xqF]
 refine y05 (i := 4) (by kernel_rfl) rfl (fun K hK => ?_)
 try rw [if_pos (by rfl)]
 go_simp
 obtain ⟨lb, hlb⟩ : ∃ q, q = w3.heap.size := ⟨_, rfl⟩
 obtain ⟨w4, hw4⟩ : ∃ q, q = w3.alloc (.cells #[.pointer none, .bool c.server, .string nm, .string sc, .int .i64 c.mru, .bool c.pfc, .bool c.acfc, .int .u32 (c.accm : Int), .int .i64 c.mrru, .bool c.short, .int .i64 c.bits, .bool c.stateless, .bool c.mppc, .bool c.deflate, .bool c.must, .bool c.symbol, .int .i64 c.timeout, .int .i64 c.tries, .int .i64 c.fragment, .slice A3 us.length c3r] 125) := ⟨_, rfl⟩
 rw [← hlb, ← hw4]
 have hk4 : Keeps y01 w3 w4 := by rw [hw4]; exact (Keeps.refl _ w3).alloc _
 have HL4 := xhd (show Blk w4 lb 125 #[.pointer none, .bool c.server, .string nm, .string sc, .int .i64 c.mru, .bool c.pfc, .bool c.acfc, .int .u32 (c.accm : Int), .int .i64 c.mrru, .bool c.short, .int .i64 c.bits, .bool c.stateless, .bool c.mppc, .bool c.deflate, .bool c.must, .bool c.symbol, .int .i64 c.timeout, .int .i64 c.tries, .int .i64 c.fragment, .slice A3 us.length c3r] by rw [hw4, hlb]; exact Blk.new w3 _ _)
 have HS4 := xhd (HS3.out.keeps hk4 (fun e => e))
 have HK4 := xhd (HK3.out.trans hk4)
 have HR4 := xhd (HRR.out.keeps hk4 (fun _ _ e => e))
 have HLB := xhd hlb
 clear hk4 hw4 hlb
 refine hK.out _ _ (fun _ => HS4.out) ?_
 clear hK K
 try simp only [Act.put, xqA, Nat.reduceAdd, xqB, xqC, xqD, xqE, xqF]
 refine y05 (i := 5) (by kernel_rfl) rfl (fun K hK => ?_)
 go_simp
 refine hK.out _ _ (fun h => absurd rfl h) ?_
 clear hK K
 refine y0f (by kernel_rfl) ?_ _
 have HKZ4 := xhd (Keeps.refl y01 w4)
 have HNC := xhd (show cb ≠ lb from fun e => by have h1 := HS3.out.lt; have h2 := HLB.out; omega)
 clear HKZ2
 go_upto_region 5 with fail
 refine y0i (fun w' => Blk w' cb 25 (y07 c nm sc).toArray ∧ Blk w' lb 125 #[.pointer none, .bool c.server, .string nm, .string sc, .int .i64 c.mru, .bool c.pfc, .bool c.acfc, .int .u32 (c.accm : Int), .int .i64 c.mrru, .bool c.short, .int .i64 c.bits, .bool c.stateless, .bool c.mppc, .bool c.deflate, .bool c.must, .bool c.symbol, .int .i64 c.timeout, .int .i64 c.tries, .int .i64 c.fragment, .slice A3 us.length c3r]) 16 17 rfl (by kernel_rfl) ⟨HS4.out, HL4.out⟩ (fun hHeld => ?_)
 have HSW := hHeld
 clear hHeld
 have HK0d := xhd (HKZ4.out.drew)
 refine y00 (i := 0) rfl (by kernel_rfl) (fun _ _ _ h => h) (Or.inl ⟨by rfl, by intro w hSw; obtain ⟨sB, sL⟩ := hSw; have g15 : w.cell? ⟨cb, 15, none⟩ = some (.int .i64 c.timeout) := (by rw [sB.cell]; rfl); have g16 : w.cell? ⟨cb, 16, none⟩ = some (.int .i64 c.tries) := (by rw [sB.cell]; rfl); have l19 : w.cell? ⟨lb, 19, none⟩ = some (.slice A3 us.length c3r) := (by rw [sL.cell]; rfl); go_simp; try with_reducible rfl⟩) HSW.out ?_
 simp only [Act.put, xqA, xqB, xqD, xqE, xqF]
 refine y00 (i := 1) rfl (by kernel_rfl) (fun _ _ _ h => h) (Or.inl ⟨by rfl, by intro w hSw; obtain ⟨sB, sL⟩ := hSw; have g15 : w.cell? ⟨cb, 15, none⟩ = some (.int .i64 c.timeout) := (by rw [sB.cell]; rfl); have g16 : w.cell? ⟨cb, 16, none⟩ = some (.int .i64 c.tries) := (by rw [sB.cell]; rfl); have l19 : w.cell? ⟨lb, 19, none⟩ = some (.slice A3 us.length c3r) := (by rw [sL.cell]; rfl); go_simp; try with_reducible rfl⟩) HSW.out ?_
 simp only [Act.put, xqA, xqB, xqC, xqD, xqE, xqF]
 refine y00 (i := 2) rfl (by kernel_rfl) (fun _ _ _ h => h) (Or.inl ⟨by rfl, by intro w hSw; obtain ⟨sB, sL⟩ := hSw; have g15 : w.cell? ⟨cb, 15, none⟩ = some (.int .i64 c.timeout) := (by rw [sB.cell]; rfl); have g16 : w.cell? ⟨cb, 16, none⟩ = some (.int .i64 c.tries) := (by rw [sB.cell]; rfl); have l19 : w.cell? ⟨lb, 19, none⟩ = some (.slice A3 us.length c3r) := (by rw [sL.cell]; rfl); go_simp; try with_reducible rfl⟩) HSW.out ?_
 simp only [Act.put, xqA, xqB, xqC, xqD, xqE, xqF]
 refine y00 (i := 3) rfl (by kernel_rfl) (fun _ _ _ h => h) (Or.inl ⟨by rfl, by intro w hSw; obtain ⟨sB, sL⟩ := hSw; have g15 : w.cell? ⟨cb, 15, none⟩ = some (.int .i64 c.timeout) := (by rw [sB.cell]; rfl); have g16 : w.cell? ⟨cb, 16, none⟩ = some (.int .i64 c.tries) := (by rw [sB.cell]; rfl); have l19 : w.cell? ⟨lb, 19, none⟩ = some (.slice A3 us.length c3r) := (by rw [sL.cell]; rfl); go_simp; try with_reducible rfl⟩) HSW.out ?_
 simp only [Act.put, xqA, xqB, xqC, xqD, xqE, xqF]
 refine y00 (i := 4) rfl (by kernel_rfl) (fun _ _ _ h => h) (yieldsIf_load_mid rfl 25 (.tmp 2) rfl cb 0 rfl (y07 c nm sc) _ (fun W hW j v hv => by rw [Nat.zero_add, Blk.cell (hW.1), List.getElem?_toArray]; exact hv) Tryz.underlying25 rfl y1c) HSW.out ?_
 simp only [Act.put, xqA, xqB, xqC, xqD, xqE, xqF]
 refine y00 (i := 5) rfl (by kernel_rfl) (fun _ _ _ h => h) (Or.inl ⟨by rfl, by intro w hSw; obtain ⟨sB, sL⟩ := hSw; have g15 : w.cell? ⟨cb, 15, none⟩ = some (.int .i64 c.timeout) := (by rw [sB.cell]; rfl); have g16 : w.cell? ⟨cb, 16, none⟩ = some (.int .i64 c.tries) := (by rw [sB.cell]; rfl); have l19 : w.cell? ⟨lb, 19, none⟩ = some (.slice A3 us.length c3r) := (by rw [sL.cell]; rfl); go_simp; try with_reducible rfl⟩) HSW.out ?_
 simp only [Act.put, xqA, xqB, xqC, xqD, xqE, xqF]
 refine y00 (i := 7) rfl (by kernel_rfl) (fun _ _ _ h => h) (Or.inl ⟨by rfl, by intro w hSw; obtain ⟨sB, sL⟩ := hSw; have g15 : w.cell? ⟨cb, 15, none⟩ = some (.int .i64 c.timeout) := (by rw [sB.cell]; rfl); have g16 : w.cell? ⟨cb, 16, none⟩ = some (.int .i64 c.tries) := (by rw [sB.cell]; rfl); have l19 : w.cell? ⟨lb, 19, none⟩ = some (.slice A3 us.length c3r) := (by rw [sL.cell]; rfl); go_simp; try with_reducible rfl⟩) HSW.out ?_
 simp only [Act.put, xqA, xqB, xqC, xqD, xqE, xqF]
 refine y00 (i := 8) rfl (by kernel_rfl) (fun _ _ _ h => h) (Or.inl ⟨by rfl, by intro w hSw; obtain ⟨sB, sL⟩ := hSw; have g15 : w.cell? ⟨cb, 15, none⟩ = some (.int .i64 c.timeout) := (by rw [sB.cell]; rfl); have g16 : w.cell? ⟨cb, 16, none⟩ = some (.int .i64 c.tries) := (by rw [sB.cell]; rfl); have l19 : w.cell? ⟨lb, 19, none⟩ = some (.slice A3 us.length c3r) := (by rw [sL.cell]; rfl); go_simp; try with_reducible rfl⟩) HSW.out ?_
 simp only [Act.put, xqA, xqB, xqC, xqD, xqE, xqF]
 refine y00 (i := 9) rfl (by kernel_rfl) (fun _ _ _ h => h) (Or.inl ⟨by rfl, by intro w hSw; obtain ⟨sB, sL⟩ := hSw; have g15 : w.cell? ⟨cb, 15, none⟩ = some (.int .i64 c.timeout) := (by rw [sB.cell]; rfl); have g16 : w.cell? ⟨cb, 16, none⟩ = some (.int .i64 c.tries) := (by rw [sB.cell]; rfl); have l19 : w.cell? ⟨lb, 19, none⟩ = some (.slice A3 us.length c3r) := (by rw [sL.cell]; rfl); go_simp; try with_reducible rfl⟩) HSW.out ?_
 simp only [Act.put, xqA, xqB, xqC, xqD, xqE, xqF]
 refine y00 (i := 10) rfl (by kernel_rfl) (fun _ _ _ h => h) (Or.inl ⟨by rfl, by intro w hSw; obtain ⟨sB, sL⟩ := hSw; have g15 : w.cell? ⟨cb, 15, none⟩ = some (.int .i64 c.timeout) := (by rw [sB.cell]; rfl); have g16 : w.cell? ⟨cb, 16, none⟩ = some (.int .i64 c.tries) := (by rw [sB.cell]; rfl); have l19 : w.cell? ⟨lb, 19, none⟩ = some (.slice A3 us.length c3r) := (by rw [sL.cell]; rfl); go_simp; try with_reducible rfl⟩) HSW.out ?_
 simp only [Act.put, xqA, xqB, xqC, xqD, xqE, xqF]
 refine y05 (i := 6) (by kernel_rfl) rfl (fun K hK => ?_)
 try rw [if_pos (by rfl)]
 go_simp
 refine (HAS.out _).mono ?_
 rintro e w5 ⟨v5, qs, rfl, hqs, hrd⟩
 obtain ⟨A5, c5r, rfl⟩ := y04 hrd.own
 have hk5 : Keeps y01 w4.drew w5 := Keeps.new hrd.below
 have HS5 := xhd (And.intro (HSW.out.1.keeps hk5 (fun e => e)) (HSW.out.2.keeps hk5 (fun e => e)))
 have HQS := xhd hqs
 have HRD := xhd hrd.row.strong
 have HK5 := xhd (HK4.out.trans (HK0d.out.trans hk5))
 have HR5 := xhd ((HR4.out.keeps HK0d.out (fun _ _ e => e)).keeps hk5 (fun _ _ e => e))
 clear hqs hrd hk5
 refine hK.out _ _ (fun _ => HS5.out) ?_
 clear hK K
 try simp only [Act.put, xqA, Nat.reduceAdd, xqB, xqC, xqD, xqE, xqF]
 refine y05 (i := 11) (by kernel_rfl) rfl (fun K hK => ?_)
 try rw [if_pos (by rfl)]
 go_simp
 refine (HNW.out _ _ _ _ us qs w5 HR5.out HRD.out (fun b hb => hb.2) (y6q c HUS.out) (by rw [HQS.out]; exact Pure.ask_fine c m)).mono ?_
 rintro e w6 ⟨g, f, R, rfl, hobj, hg, hgm, hR, hk6⟩
 rw [HUS.out, HQS.out] at hobj
 have HS6 := xhd (And.intro (HS5.out.1.keeps hk6 (fun e => e)) (HS5.out.2.keeps hk6 (fun e => e)))
 have HK6 := xhd (HK5.out.trans hk6)
 have HR6 := xhd (HR5.out.keeps hk6 (fun _ _ e => e))
 have HOB := xhd hobj
 have HGN := xhd hg
 have HGM := xhd hgm
 have HRN := xhd hR
 have HS56 := xhd hk6.size
 clear hobj hg hgm hR hk6
 refine hK.out _ _ (fun _ => HS6.out) ?_
 clear hK K
 try simp only [Act.put, xqA, Nat.reduceAdd, xqB, xqC, xqD, xqE, xqF]
 refine y00 (i := 12) rfl (by kernel_rfl) (fun _ _ _ h => h) (Or.inl ⟨by rfl, by intro w hSw; obtain ⟨sB, sL⟩ := hSw; have g15 : w.cell? ⟨cb, 15, none⟩ = some (.int .i64 c.timeout) := (by rw [sB.cell]; rfl); have g16 : w.cell? ⟨cb, 16, none⟩ = some (.int .i64 c.tries) := (by rw [sB.cell]; rfl); have l19 : w.cell? ⟨lb, 19, none⟩ = some (.slice A3 us.length c3r) := (by rw [sL.cell]; rfl); go_simp; try with_reducible rfl⟩) HS6.out ?_
 simp only [Act.put, xqA, xqB, xqC, xqD, xqE, xqF]
 refine y00 (i := 13) rfl (by kernel_rfl) (fun _ _ _ h => h) (Or.inl ⟨by rfl, by intro w hSw; obtain ⟨sB, sL⟩ := hSw; have g15 : w.cell? ⟨cb, 15, none⟩ = some (.int .i64 c.timeout) := (by rw [sB.cell]; rfl); have g16 : w.cell? ⟨cb, 16, none⟩ = some (.int .i64 c.tries) := (by rw [sB.cell]; rfl); have l19 : w.cell? ⟨lb, 19, none⟩ = some (.slice A3 us.length c3r) := (by rw [sL.cell]; rfl); go_simp; try with_reducible rfl⟩) HS6.out ?_
 simp only [Act.put, xqA, xqB, xqC, xqD, xqE, xqF]
 refine y00 (i := 14) rfl (by kernel_rfl) (fun _ _ _ h => h) (Or.inl ⟨by rfl, by intro w hSw; obtain ⟨sB, sL⟩ := hSw; have g15 : w.cell? ⟨cb, 15, none⟩ = some (.int .i64 c.timeout) := (by rw [sB.cell]; rfl); have g16 : w.cell? ⟨cb, 16, none⟩ = some (.int .i64 c.tries) := (by rw [sB.cell]; rfl); have l19 : w.cell? ⟨lb, 19, none⟩ = some (.slice A3 us.length c3r) := (by rw [sL.cell]; rfl); go_simp; try with_reducible rfl⟩) HS6.out ?_
 simp only [Act.put, xqA, xqB, xqC, xqD, xqE, xqF]
 refine y00 (i := 15) rfl (by kernel_rfl) (fun _ _ _ h => h) (Or.inl ⟨by rfl, by intro w hSw; obtain ⟨sB, sL⟩ := hSw; have g15 : w.cell? ⟨cb, 15, none⟩ = some (.int .i64 c.timeout) := (by rw [sB.cell]; rfl); have g16 : w.cell? ⟨cb, 16, none⟩ = some (.int .i64 c.tries) := (by rw [sB.cell]; rfl); have l19 : w.cell? ⟨lb, 19, none⟩ = some (.slice A3 us.length c3r) := (by rw [sL.cell]; rfl); go_simp; try with_reducible rfl⟩) HS6.out ?_
 simp only [Act.put, xqA, xqB, xqC, xqD, xqE, xqF]
 refine y05 (i := 16) (by kernel_rfl) rfl (fun K hK => ?_)
 go_simp
 refine hK.out _ _ (fun h => absurd rfl h) ?_
 clear hK K
 refine y0f (by kernel_rfl) ?_ _
 have HJB := xhd (y7t g R f _ 68 (.pointer (some ⟨lb, 0, none⟩)) w6 HOB.out (fun W => y7e _ W))
 go_wp2_with fail
 refine HJB.out.mono ?_
 rintro e w7 ⟨rfl, hob7, hk7⟩
 have hlg : lb ≠ g := fun e => by have h1 := HS5.out.2.lt; have h2 := HGN.out; omega
 have hL7 := HS6.out.2.keeps hk7 (fun e => hlg (by have e : lb = g := e; exact e))
 have l0 : w7.cell? ⟨lb, 0, none⟩ = some (.pointer none) := by rw [hL7.cell]; rfl
 have fl0 := hL7.frozen 0
 obtain ⟨w8, hw8⟩ : ∃ q, q = w7.setCell ⟨lb, 0, none⟩ (.pointer (some ⟨g, 0, none⟩)) := ⟨_, rfl⟩
 have K8 : Keeps (only lb) w7 w8 := by rw [hw8]; exact (Keeps.refl (only lb) w7).put 0 _
 have hL8 : LBlk w8 lb g c nm sc (.slice A3 us.length c3r) := by rw [hw8]; exact hL7.set 0 (.pointer (some ⟨g, 0, none⟩))
 have hlm : lb ≠ f.gm.m := fun e => by have h1 := HS5.out.2.lt; have h2 := HGM.out.1; omega
 have hlR : ¬ R lb := fun e => by have h1 := HS5.out.2.lt; have h2 := HRN.out lb e; omega
 have hob8 := hob7.keeps K8 (fun e => hlg (by have e : g = lb := e; exact e.symm)) (fun e => hlm (by have e : f.gm.m = lb := e; exact e.symm)) (fun b hb e => by have e : b = lb := e; exact hlR (e ▸ hb))
 have hRW : ∀ b, (w2.drew.heap.size ≤ b ∨ w2.drew.heap.size ≤ b) ∧ b < w3.heap.size → b < lb := fun b hb => by have := HLB.out; omega
 have HR8 := (HR6.out.keeps hk7 (fun b hb e => by have e : b = g := e; have h1 := HLB.out; have h2 := HGN.out; have h3 := HS5.out.2.lt; have := hb.2; omega)).keeps K8 (fun b hb e => by have e : b = lb := e; have h1 := HLB.out; have := hb.2; omega)
 have hobW := hob8.widen (G := fun b => (w2.drew.heap.size ≤ b ∨ w2.drew.heap.size ≤ b) ∧ b < w3.heap.size) (fun e => by have h1 := HLB.out; have h2 := HGN.out; have h3 := HS5.out.2.lt; have := e.2; omega) (fun e => by have h1 := HLB.out; have h2 := HGM.out.1; have h3 := HS5.out.2.lt; have e : _ ∧ f.gm.m < w3.heap.size := e; have := e.2; omega)
 have hkF : Keeps y01 w w8 := (HK6.out.trans' hk7 (fun i hi hl => by have e : i = g := hi; have h2 := HGN.out; have := HK5.out.size; omega)).trans' K8 (fun i hi hl => by have e : i = lb := hi; have h1 := HLB.out; have := HK3.out.size; omega)
 have HLO := xhd (show LObj w8 ⟨lb, g, f.gm.m, nm, sc, .slice A3 us.length c3r⟩ _ _ (Pure.newLcp c m) from ⟨hL8, hobW, rfl, ⟨us, HR8.mono (fun b hb => ⟨.inr hb, by have h1 := HLB.out; have := hb.2; have := hL8.lt; omega⟩), HUS.out, y6q c HUS.out⟩, rfl, HF.out, HA.out, (by rintro ⟨e | e, _⟩; exact hlR e; have h1 := HLB.out; have e2 : lb < w3.heap.size := e.2; omega), hlg, hlm⟩)
 have HKF := xhd hkF
 have HSZ := xhd (show w.heap.size ≤ lb ∧ w.heap.size ≤ g ∧ w.heap.size ≤ f.gm.m from by have h1 := HLB.out; have h2 := HGN.out; have h3 := HGM.out.1; have h4 := HK3.out.size; have h5 := HK5.out.size; omega)
 have HRS := xhd (show ∀ b, ((R b ∨ ((w2.drew.heap.size ≤ b ∨ w2.drew.heap.size ≤ b) ∧ b < w3.heap.size)) ∧ b < w8.heap.size) → w.heap.size ≤ b from fun b hb => by
  have h2 : w2.drew.heap.size = w2.heap.size := rfl
  have h4 := HK2.out.size
  have h5 := HK5.out.size
  rcases hb.1 with e | e
  ·have := HRN.out b e; omega
  ·omega)
 clear hob7 hk7 hL7 K8 hL8 hlm hlR hob8 hRW HR8 hobW hkF
 go_upto_region 10 with fail
 rw [← hw8]
 clear hw8 l0 fl0
 go_wp2_with fail
 go_ret2
 exact ⟨⟨lb, g, f.gm.m, nm, sc, .slice A3 us.length c3r⟩, _, _, rfl, HLO.out, HSZ.out.1, HSZ.out.2.1, HSZ.out.2.2, HRS.out, HKF.out⟩
abbrev nmN : ByteArray := { data := #[110] }
abbrev scS : ByteArray := { data := #[115, 101, 99, 114, 101, 116] }
structure MadeIs (c : Pure.Cfg) (srv : Bool) (tr : Int) : Prop where
 server : c.server = srv
 name : c.name = [110]
 secret : c.secret = [115, 101, 99, 114, 101, 116]
 mru : c.mru = 1500 ∨ c.mru = 500
 accm : c.accm = 4294967295 ∨ c.accm = 0
 mrru : (c.mrru = 0 ∧ c.short = false ∧ c.fragment = 0) ∨ (c.mrru = 1500 ∧ (c.fragment = 0 ∨ (16 ≤ c.fragment ∧ c.fragment ≤ 79)))
 bits : (c.bits = 0 ∧ c.stateless = false ∧ c.must = false) ∨ c.bits = 40 ∨ c.bits = 56 ∨ c.bits = 128
 none : c.mppc = false ∧ c.deflate = false ∧ c.symbol = false
 timeout : c.timeout = 2
 tries : c.tries = tr
def MS (w wx : World) (cb rb : Nat) (P : Pure.Cfg → Prop) : Prop := ∃ c, Blk wx cb 25 (y07 c nmN scS).toArray ∧ P c ∧ Keeps y01 w wx ∧ w.heap.size ≤ cb ∧ (∃ zs, Blk wx rb 25 zs ∧ zs.size = 18) ∧ w.heap.size ≤ rb ∧ rb ≠ cb
theorem MS.set {w wx : World} {cb rb : Nat} {P Q : Pure.Cfg → Prop} (h : MS w wx cb rb P) (i : Nat) (u : Value) (f : Pure.Cfg → Pure.Cfg) (hf : ∀ c, P c → Q (f c)) (he : ∀ c, (y07 c nmN scS).toArray.setIfInBounds i u = (y07 (f c) nmN scS).toArray) : MS w (wx.setCell ⟨cb, i, none⟩ u) cb rb Q := by
 obtain ⟨c, h1, h2, h3, h4, ⟨zs, h5, h6⟩, h7, h8⟩ := h
 refine ⟨f c, ?_, hf c h2, h3.store cb i (fun e => by omega) u, h4, ⟨zs, h5.far (p := ⟨cb, i, none⟩) h8 u, h6⟩, h7, h8⟩
 rw [← he c]
 exact h1.set i u
theorem MS.mono {w wx : World} {cb rb : Nat} {P Q : Pure.Cfg → Prop} (h : MS w wx cb rb P) (hf : ∀ c, P c → Q c) : MS w wx cb rb Q := by
 obtain ⟨c, h1, h2, h3⟩ := h
 exact ⟨c, h1, hf c h2, h3⟩
abbrev Any (s : Bool) (t : Int) (c : Pure.Cfg) : Prop := MadeIs c s t ∧ c.bits = 0
section
variable {s : Bool} {t : Int} {c : Pure.Cfg}
end
abbrev y1y : Pure.Cfg := ⟨true, [110], [115, 101, 99, 114, 101, 116], 1500, false, false, 4294967295, 0, false, 0, false, false, false, false, false, 2, 4, 0⟩
theorem made13_any (w : World) : Calls Tryz.prog 13 #[.int .i64 1, .int .i64 3] w fun e w' => e = .returned (cfgV y1y nmN scS) ∧ Keeps y01 w w' := by
 have a1 : bits .and .i64 1 268435455 = 1 := by decide
 have a2 : bits .and .i64 1 1 = 1 := by decide
 have a3 : bits .and .i64 1 2 = 0 := by decide
 have a4 : bits .and .i64 1 4 = 0 := by decide
 have a5 : bits .and .i64 3 3 = 3 := by decide
 have a6 : bits .and .i64 1 8 = 0 := by decide
 have a7 : bits .and .i64 1 16 = 0 := by decide
 have a8 : bits .and .i64 1 32 = 0 := by decide
 have a9 : bits .and .i64 0 3 = 0 := by decide
 go_enter Tryz.func13, Tryz.ntmps13
 go_upto_region 2 with fail
 obtain ⟨rb, hrb⟩ : ∃ q, q = w.heap.size := ⟨_, rfl⟩
 generalize hw1 : w.alloc _ = w1
 have HK1 := xhd (show Keeps y01 w w1 ∧ (∃ zs, Blk w1 rb 25 zs ∧ zs.size = 18) ∧ w.heap.size ≤ rb ∧ rb < w1.heap.size from by
  subst hw1 hrb
  exact ⟨(Keeps.refl _ w).alloc _, ⟨_, Blk.new w _ _, rfl⟩, Nat.le_refl _, by simp⟩)
 rw [← hrb]
 clear hw1 hrb
 go_upto_region 3 with fail
 obtain ⟨cb, hcb⟩ : ∃ q, q = w1.heap.size := ⟨_, rfl⟩
 generalize hw2 : w1.alloc _ = w2
 have HS := xhd (show MS w w2 cb rb (fun c => c = y1y) from by
  subst hw2 hcb
  obtain ⟨k1, ⟨zs, k2, k3⟩, k4, k5⟩ := HK1.out
  exact ⟨y1y, Blk.new w1 _ _, rfl, k1.alloc _, k1.size, ⟨zs, k2.alloc _, k3⟩, k4, Nat.ne_of_lt k5⟩)
 rw [← hcb]
 clear hw2 hcb HK1
 obtain ⟨c, hb, rfl, hk, hcb, ⟨zs, hz, hzs⟩, hrb, hne⟩ := HS.out
 have cz : w2.cell? ⟨cb, 9, none⟩ = some (.int .i64 0) := hb.cell 9
 have HI := xhd y1c
 have HB := xhd hb
 have HZ := xhd hz
 have HZS := xhd hzs
 obtain ⟨w9, hw9⟩ : ∃ w9, w9 = w2.setRow rb (y07 y1y nmN scS).toArray := ⟨_, rfl⟩
 have HB9 := xhd (show Blk w9 rb 25 (y07 y1y nmN scS).toArray by rw [hw9]; exact Blk.rowSet hz _)
 have HK9 := xhd (show Keeps y01 w w9 by rw [hw9]; exact hk.rowSet (fun e => by omega) _)
 have HW9 := xhd hw9
 clear hb hk hcb hz hzs hrb hne hw9 HS
 go_upto_region 22 with fail
 refine wp_region_list ?_
 refine wpList_load_mid rfl 25 (.tmp 5) rfl cb 0 rfl (y07 y1y nmN scS) _ (fun j v hv => by rw [Nat.zero_add, HB.out.cell, List.getElem?_toArray]; exact hv) Tryz.underlying25 rfl HI.out ?_
 refine wpList_store_row rfl 25 (.tmp 4) (.tmp 70) rfl rb _ rfl rfl 25 _ HZ.out (by rw [HI.out]; rfl) (by rw [HZS.out]; rfl) (by rw [List.all_toArray]; rfl) ?_
 rw [← HW9.out]
 go_wp2
 refine bodyPost_ret (y0b rfl _ _ rb 25 _ (0, 0) _ rfl HB9.out Tryz.underlying25 rfl (by rw [HI.out]; rfl)) rfl ?_
 exact ⟨rfl, HK9.out⟩
theorem MadeIs.fine {c : Pure.Cfg} {s : Bool} {t : Int} (h : MadeIs c s t) (ht : 1 ≤ t ∧ t ≤ 4) : c.fine = true := by
 obtain ⟨_, _, _, h4, _, h6, h7, ⟨n1, n2, n3⟩, h9, h10⟩ := h
 unfold Pure.Cfg.fine Pure.inInfo
 rw [n3, h9, h10]
 rcases h4 with e | e <;> rcases h6 with ⟨a1, a2, a3⟩ | ⟨a1, a3 | ⟨a3, a4⟩⟩ <;> rcases h7 with ⟨b1, b2, b3⟩ | b1 | b1 | b1 <;> simp_all <;> omega
theorem MadeIs.check {c : Pure.Cfg} {s : Bool} {t : Int} (h : MadeIs c s t) (ht : 1 ≤ t ∧ t ≤ 4) : c.check = 0 := by
 unfold Pure.Cfg.check
 rw [h.fine ht, h.name, h.secret]
 decide +kernel
theorem MadeIs.accm4 {c : Pure.Cfg} {s : Bool} {t : Int} (h : MadeIs c s t) : c.accm < 4294967296 := by
 rcases h.accm with e | e <;> omega
theorem lone_pkt {qs : List (Value × Pure.Pkt)} {o : Pure.Pkt} (h : qs.map Prod.snd = [o]) : ∃ v, qs = [(v, o)] := by
 match qs, h with
 | [(v, o')], h =>
  injection h with h1 _
  exact ⟨v, by rw [← h1]⟩
theorem y8j (c : Pure.Cfg) (s : Bool) (t : Int) (h : MadeIs c s t) (ht : 1 ≤ t ∧ t ≤ 4) (m : Nat) (hm : m < 4294967296) (w : World) (E : Env w) :
  Calls Tryz.prog 26 #[cfgV c nmN scS, .int .u32 (m : Int)] w fun e w' => ∃ k f R, e = .returned (.tuple #[.pointer (some ⟨k.l, 0, none⟩), .int .i64 0]) ∧ LObj w' k R f (Pure.newLcp c m) ∧ w.heap.size ≤ k.l ∧ w.heap.size ≤ k.g ∧ w.heap.size ≤ k.gm ∧ (∀ b, R b → w.heap.size ≤ b) ∧ Keeps y01 w w' :=
 lnew_any c nmN scS (by rw [h.name]) (by rw [h.secret]) (by rw [h.secret]; decide) (h.check ht) (h.fine ht) h.accm4 m hm w E
theorem cfg13_is : MadeIs y1y true 4 := ⟨rfl, rfl, rfl, .inl rfl, .inl rfl, .inl ⟨rfl, rfl, rfl⟩, .inl ⟨rfl, rfl, rfl⟩, ⟨rfl, rfl, rfl⟩, rfl, rfl⟩
theorem Env.quiet {w w' : World} (h : Env w) (k : Keeps y01 w w') : Env w' := ⟨h.hd.keeps k (fun e => e), h.tb.below k.to_below⟩
theorem lcp_up (c : Pure.Cfg) (m : Nat) : (Pure.newLcp c m).act 0 = (⟨c, ⟨c.rules, c.ask m, c.ask m, ⟨2, 0, 0, c.tries.toNat, c.timeout.toNat⟩, 0, 0, 0, false, [], [], 0, []⟩⟩, .of Pure.mute) := rfl
theorem lcp_open (c : Pure.Cfg) (m : Nat) : (⟨c, ⟨c.rules, c.ask m, c.ask m, ⟨2, 0, 0, c.tries.toNat, c.timeout.toNat⟩, 0, 0, 0, false, [], [], 0, []⟩⟩ : Pure.Lcp).act 2 = (⟨c, Pure.begun c.rules (c.ask m) c.tries.toNat c.timeout.toNat⟩, .of (Pure.sends [⟨1, 1, (Pure.options (c.ask m)).2⟩])) := rfl
theorem data13 : (Pure.options (y1y.ask 7)).2 = [3, 5, 194, 35, 129, 5, 6, 0, 0, 0, 7] := by decide +kernel
theorem lawake_any (w : World) (E : Env w) : Calls Tryz.prog 12 #[] w fun e w' => e = .returned (.bool true) ∧ Keeps y01 w w' := by
 have HM := xhd (made13_any w)
 have HE := xhd E
 clear E
 go_enter Tryz.func12, Tryz.ntmps12
 go_wp2_with fail
 refine HM.out.mono ?_
 rintro e w1 ⟨rfl, hk1⟩
 have HK1 := xhd hk1
 have HNW := xhd (y8j y1y true 4 cfg13_is (by decide) 7 (by decide) w1 (HE.out.quiet hk1))
 clear hk1 HM
 go_wp2_with fail
 refine HNW.out.mono ?_
 rintro e w2 ⟨k, f, R, rfl, hobj, hl, hg, hm, hR, hk2⟩
 have HOB := xhd hobj
 have HNG := xhd (show w.heap.size ≤ k.g ∧ w.heap.size ≤ k.gm from ⟨Nat.le_trans HK1.out.size hg, Nat.le_trans HK1.out.size hm⟩)
 have HK2 := xhd (HK1.out.trans hk2)
 have HUP := xhd (ldo_any hobj 0 (.inl rfl) (by decide))
 clear hobj hl hg hm hR hk2 HNW HK1
 rw [lcp_up] at HUP
 go_wp2_with fail
 refine HUP.out.mono ?_
 rintro e w3 ⟨v3, rfl, hout3, f3, R3, hobj3, hsub3, hk3⟩
 obtain ⟨sv3, ps3, rfl, _⟩ := hout3
 have HOB3 := xhd hobj3
 have HK3 := xhd (show Keeps y01 w w3 from HK2.out.trans' hk3 (fun i hi hl => by have h1 := HNG.out.1; have h2 := HNG.out.2; rcases hi with e | e <;> omega))
 have HOP := xhd (ldo_any hobj3 2 (.inr (.inr (.inl rfl))) (by decide))
 clear hobj3 hsub3 hk3 HUP HOB HK2
 rw [lcp_open] at HOP
 go_wp2_with fail
 refine HOP.out.mono ?_
 rintro e w4 ⟨v4, rfl, hout4, f4, R4, hobj4, hsub4, hk4⟩
 obtain ⟨sv4, ps4, rfl, hpr4, hps4, _⟩ := hout4
 have HK4 := xhd (show Keeps y01 w w4 from HK3.out.trans' hk4 (fun i hi hl => by have h1 := HNG.out.1; have h2 := HNG.out.2; rcases hi with e | e <;> omega))
 rw [show (Pure.LSaid.of (Pure.sends [⟨1, 1, (Pure.options (y1y.ask 7)).2⟩])).said = Pure.sends [⟨1, 1, (Pure.options (y1y.ask 7)).2⟩] from rfl, data13] at hps4
 obtain ⟨v11, rfl⟩ := lone_pkt (show ps4.map Prod.snd = [(⟨1, 1, [3, 5, 194, 35, 129, 5, 6, 0, 0, 0, 7]⟩ : Pure.Pkt)] from hps4)
 obtain ⟨_, _, X10, c10, rfl, _, _, _⟩ := hpr4.out
 obtain ⟨bp, op, B5, d5, q5, hX5, _, z5, hr5, hp5⟩ := hpr4.pick 0 (by simp)
 subst hX5
 obtain ⟨rfl, rfl⟩ : v11 = .slice B5 q5.data.length d5 ∧ q5 = ⟨1, 1, [3, 5, 194, 35, 129, 5, 6, 0, 0, 0, 7]⟩ := by
  have h : some (v11, (⟨1, 1, [3, 5, 194, 35, 129, 5, 6, 0, 0, 0, 7]⟩ : Pure.Pkt)) = some (.slice B5 q5.data.length d5, q5) := hp5
  injection h with h
  injection h with h1 h2
  exact ⟨h1, h2.symm⟩
 rw [Nat.zero_mul, Nat.add_zero] at z5
 have z50 : w4.cell? ⟨bp, op, none⟩ = some (.int .i64 1) := z5 0 _ rfl
 have z51 : w4.cell? ⟨bp, op + 1, none⟩ = some (.int .i64 1) := z5 1 _ rfl
 have z52 : w4.cell? ⟨bp, op + 2, none⟩ = some (.slice B5 11 d5) := z5 2 _ rfl
 have HST := xhd (fun (W : World) (hk : Keeps y01 w4 W) => show Calls Tryz.prog 40 #[.pointer (some ⟨k.l, 0, none⟩)] W fun e w' => e = .returned (.int .i64 6) ∧ W = w' from lstate_any (hobj4.quiet hk))
 clear z5 hr5 hp5 hpr4 hps4 hobj4 hsub4 hk4 HOP HOB3 HK3 HNG
 rw [show ([(.slice B5 (⟨1, 1, [3, 5, 194, 35, 129, 5, 6, 0, 0, 0, 7]⟩ : Pure.Pkt).data.length d5, (⟨1, 1, [3, 5, 194, 35, 129, 5, 6, 0, 0, 0, 7]⟩ : Pure.Pkt))] : List (Value × Pure.Pkt)).length = 1 from rfl]
 go_upto_region 6 with fail
 have hk5 : Keeps y01 w4 (w4.alloc (.cells #[.slice (some ⟨bp, op, none⟩) 1 c10, .bool false, .bool false, .bool false, .bool false, .int .i64 0] 61)) := (Keeps.refl _ w4).alloc _
 have HS5 := xhd (HST.out _ hk5)
 have HK5 := xhd (HK4.out.trans hk5)
 clear hk5 HST HK4
 go_wp2_with fail
 refine HS5.out.mono ?_
 rintro e w6 ⟨rfl, rfl⟩
 go_wp2_with fail
 go_ret
 exact ⟨rfl, HK5.out⟩
theorem docnum_any (F : Nat → Prop) (x : Value) (l : List UInt8) (w : World) (hr : Row w F 1 x l.length (u8s l)) (hl : l.length ≤ 4) :
  Calls Tryz.prog 61 #[x] w fun e w' => e = .returned (.int .i64 (Pure.bnum l : Nat)) ∧ w = w' := by
 obtain ⟨A, c, rfl, hc⟩ := hr.form
 have HR := xhd hr
 have HT := xhd (fun (k : Nat) (h : k ≤ l.length) => show Pure.bnum (l.take k) < 4294967296 from Pure.bnum_small (by rw [List.length_take]; omega))
 have HT3 := xhd (fun (k : Nat) (h : k < l.length) => show Pure.bnum (l.take k) < 16777216 from Nat.lt_of_lt_of_le (Pure.bnum_lt _) (show 256 ^ (l.take k).length ≤ 256 ^ 3 from Nat.pow_le_pow_right (by omega) (by rw [List.length_take]; omega)))
 clear hr
 go_enter Tryz.func61, Tryz.ntmps61
 go_wp2_with fail
 go_loopw [3, 4] (fun v i wr => ∃ k : Nat, k ≤ l.length ∧ i = .int .i64 (k : Int) ∧ v = .int .i64 (Pure.bnum (l.take k) : Nat) ∧ wr = w) (fun _ i _ => l.length - (intOf i).toNat)
 case atStart => exact ⟨0, by omega, rfl, rfl, rfl⟩
 case round =>
  obtain ⟨k, hk, rfl, rfl, rfl⟩ := hrel
  by_cases hkl : k < l.length
  ·have i0 : (0 : Int) ≤ (k : Int) := by omega
   have i1 : (k : Int) < (l.length : Int) := by omega
   obtain ⟨b, off, rfl, _, hcx⟩ := HR.out.cellAt (by omega)
   have b0 := hcx k _ (y28 l k hkl)
   have hx := (l.getD k 0).toNat_lt
   have hN := HT3.out k hkl
   have hsn : Pure.bnum (l.take (k + 1)) = Pure.bnum (l.take k) * 256 + (l.getD k 0).toNat := by
    rw [List.take_succ_eq_append_getElem hkl, Pure.bnum_snoc]
    simp [List.getD_eq_getElem?_getD, hkl]
   have hM := HT.out (k + 1) (by omega)
   obtain ⟨N, hN'⟩ : ∃ N, N = Pure.bnum (l.take k) := ⟨_, rfl⟩
   obtain ⟨M, hM'⟩ : ∃ N, N = Pure.bnum (l.take (k + 1)) := ⟨_, rfl⟩
   obtain ⟨X, hX⟩ : ∃ N, N = (l.getD k 0).toNat := ⟨_, rfl⟩
   rw [← hN', ← hM', ← hX] at hsn
   rw [← hN'] at hN ⊢
   rw [← hM'] at hM
   rw [← hX] at b0 hx
   have eor : bits .or .i64 ((N : Int) * 256) (X : Int) = (M : Int) := by
    have h := y30 (N * 256) X (by omega) (by omega)
    rw [show N * 256 ||| X = M by rw [hsn, show (256 : Nat) = 2 ^ 8 by rfl, ← Nat.shiftLeft_eq, Nat.shiftLeft_add_eq_or_of_lt (show X < 2 ^ 8 by omega)]] at h
    simpa using h
   have HM := xhd hM'
   clear hcx hN' hM' hX hsn hM
   go_wp2_with fail
   go_roundw
   case rel => exact ⟨k + 1, by omega, by go_num, by rw [← HM.out], trivial⟩
   case measure => simp [intOf]; omega
  ·have hkk : k = l.length := by omega
   have HE := xhd (show Pure.bnum (l.take k) = Pure.bnum l by rw [hkk, List.take_length])
   subst hkk
   clear hkl hk
   go_wp2
   go_ret
   exact ⟨by rw [← HE.out]; rfl, rfl⟩
theorem y2e (x n : Nat) (w : World) (hn : n ≤ 4) (_ : x < 4294967296) :
  Calls Tryz.prog 48 #[.int .i64 x, .int .i64 n] w fun e w' => ∃ u, e = .returned u ∧ w'.ownsRow w.heap.size 5 1 u n (u8s (Pure.wide x n)) ∧ Below w.heap.size w w' := by
 have e0 : wrap64 ((n : Int) - 1) = (n : Int) - 1 := IntWalk.wrap64_in _ (by omega)
 go_enter Tryz.func48, Tryz.ntmps48
 go_wp2_with fail
 go_loopw [5, 6] (fun v i wr => ∃ k : Nat, k ≤ n ∧ i = .int .i64 ((n : Int) - 1 - (k : Int)) ∧ wr.ownsRow w.heap.size 5 1 v k (u8s ((Pure.wide x n).take k)) ∧ Below w.heap.size w wr) (fun _ i _ => (intOf i + 1).toNat)
 case atStart => exact ⟨0, by omega, by simp, World.ownsRow_nil _ _ _ _, Below.refl _ _⟩
 case round =>
  obtain ⟨k, hk, rfl, hW, hB⟩ := hrel
  have HW := xhd hW
  have HB := xhd hB
  obtain ⟨A5, c5, rfl⟩ := y04 hW
  clear hW hB e0
  by_cases hkl : k < n
  ·obtain ⟨j, hj⟩ : ∃ j, n - 1 - k = j := ⟨_, rfl⟩
   have hji : (n : Int) - 1 - (k : Int) = (j : Int) := by omega
   have hj3 : j ≤ 3 := by omega
   rw [hji]
   have d0 : decide ((0 : Int) ≤ (j : Int)) = true := decide_eq_true (by omega)
   have e1 : wrap64 (8 * (j : Int)) = ((8 * j : Nat) : Int) := by rw [IntWalk.wrap64_in _ (by omega)]; omega
   have htk : (Pure.wide x n).take (k + 1) = (Pure.wide x n).take k ++ [UInt8.ofNat (x / 256 ^ j % 256)] := by
    rw [List.take_add_one]
    congr 1
    unfold Pure.wide
    rw [List.getElem?_map, List.getElem?_range hkl]
    show [UInt8.ofNat (x / 256 ^ (n - 1 - k) % 256)] = _
    rw [hj]
   obtain ⟨B, hBe⟩ : ∃ B, B = UInt8.ofNat (x / 256 ^ j % 256) := ⟨_, rfl⟩
   rw [← hBe] at htk
   have hbv : ((x : Int) / 2 ^ (8 * j) % 256) = (B.toNat : Int) := by
    rw [hBe, show (UInt8.ofNat (x / 256 ^ j % 256)).toNat = x / 256 ^ j % 256 by simp, show (256 : Nat) ^ j = 2 ^ (8 * j) by rw [Nat.pow_mul]]
    simp
   have hlen : ((Pure.wide x n).take k).length = k := by rw [List.length_take, Pure.wide_length]; omega
   have HTK := xhd htk
   have HRow := xhd (y1f wr [B] #[.int .u8 B.toNat] 1 rfl rfl (by simp))
   have hsz := HB.out.size
   clear htk hBe
   go_wp2_with (at_builtin; refine y0d ?_)
   unfold Hid
   rw [hbv]
   refine y0n rfl (.tmp 13) (.tmp 20) rfl w.heap.size _ k ((Pure.wide x n).take k) hlen rfl (HW.out.alloc _) _ _ [B] rfl HRow.out (by simp; omega) (by simp; omega) ?_
   intro v3 w3 hown3 hg3 hat3
   rw [← HTK.out] at hown3
   have O3 := xhd (show w3.ownsRow w.heap.size 5 1 v3 (k + 1) (u8s ((Pure.wide x n).take (k + 1))) by
    have e : ((Pure.wide x n).take (k + 1)).length = k + 1 := by rw [List.length_take, Pure.wide_length]; omega
    rw [e] at hown3
    exact hown3)
   have B3 := xhd (Below.grown (HB.out.alloc hsz (.cells #[.int .u8 B.toNat] 5)) hg3 (by simp; omega) (fun q hq => (y06 HW.out q hq)))
   have hjk : wrap64 ((j : Int) - 1) = (n : Int) - 1 - ((k + 1 : Nat) : Int) := by rw [IntWalk.wrap64_in _ (by omega)]; omega
   clear hown3 hg3 hat3 HRow e1
   go_wp2_with fail
   go_roundw
   case rel => exact ⟨k + 1, by omega, congrArg (Value.int .i64) (by omega), O3.out, B3.out⟩
   case measure => simp [intOf] <;> omega
  ·have hkk : k = n := by omega
   subst hkk
   have hm1 : (k : Int) - 1 - (k : Int) = -1 := by omega
   rw [hm1]
   have e : (Pure.wide x k).take k = Pure.wide x k := by rw [List.take_of_length_le (by rw [Pure.wide_length]; omega)]
   have HW2 := xhd (show wr.ownsRow w.heap.size 5 1 (.slice A5 k c5) k (u8s (Pure.wide x k)) by have := HW.out; rw [e] at this; exact this)
   clear e hm1
   go_wp2
   go_ret
   exact ⟨_, rfl, HW2.out, HB.out⟩
theorem drule_all : (Tryz.prog.info? 148).map (fun i => (i.zero, i.size, i.bytes)) = some (some (.agg #[.int .i64 0, .int .i64 0, .int .i64 0, .int .i64 0, .int .i64 0, .slice none 0 0, .bool false]), 7, 72) := by kernel_rfl
theorem y38 (ps : List (Value × Pure.Rule)) : (y0a ps).length = ps.length * 7 := by
 induction ps with
 | nil => rfl
 | cons p ps ih =>
  show (y0c p ++ y0a ps).length = _
  rw [List.length_append, ih]
  simp only [List.length_cons, List.length_nil]
  omega
section
variable {w : World} {o : Oper} {a : Act} {Q : Exit → Act → World → Prop}
theorem y18 {ops : Array Oper} {rest : List Oper} (hgd : o.guard = none) (s x : Operand) (ho : o.op = .call { callee := .builtin .append, args := #[s, x], argTypes := #[81, 81] })
  (base : Nat) (v : Value) (qs ps : List (Value × Pure.Rule)) (k : Nat) (cs : Array Value) (hcs : cs = (y0a ps).toArray) (hk : ps.length = k) (h10 : k ≤ 10) (hone : ∀ p ∈ ps, p.1.oneCell' = true) (hs : a.eval s = v) (hx : a.eval x = .slice (some ⟨w.heap.size, 0, none⟩) k k) (hR : w.ownsRow base 148 7 v qs.length (y0a qs)) (hq : qs.length ≤ 1000000) (hb : base ≤ w.heap.size)
  (h : ∀ A c w', w'.ownsRow base 148 7 (.slice A (qs.length + k) c) (qs.length + k) (y0a (qs ++ ps)) → Keeps (fun b => v.ownBlock = some b) w w' → (∀ b, (Value.slice A (qs.length + k) c).ownBlock = some b → v.ownBlock = some b ∨ w.heap.size ≤ b) → wpList Tryz.prog ops Q rest (a.put o.dst (.slice A (qs.length + k) c)) w') :
  wpList Tryz.prog ops Q (o :: rest) a (w.alloc (.cells cs 148)) := by
 obtain ⟨i0, hi0, hz0, hz1, hz2⟩ := info_parts drule_all
 subst hcs
 obtain ⟨wb, hwb⟩ : ∃ wb, wb = w.alloc (.cells (y0a ps).toArray 148) := ⟨_, rfl⟩
 have hwb' : w.alloc (.cells (y0a ps).toArray 148) = wb := hwb.symm
 rw [hwb']
 have hkb : Keeps y01 w wb := by rw [hwb]; exact (Keeps.refl _ w).alloc _
 have hbb : Blk wb w.heap.size 148 (y0a ps).toArray := by rw [hwb]; exact Blk.new w _ _
 have hrb : Row wb (fun b => b = w.heap.size) 7 (.slice (some ⟨w.heap.size, 0, none⟩) k k) k (y0a ps) := by
  have h := Row.block (F := fun b => b = w.heap.size) (n := k) (c := k) (size := 7) hbb rfl (by rw [List.size_toArray, y38, hk]) (by unfold maxLen; omega) (Nat.le_refl _)
  exact h
 have hownb : wb.ownsRow base 148 7 v qs.length (y0a qs) := y0g hR hkb (fun _ _ h => h)
 refine y0r hgd s x _ ho base 148 i0 _ 7 72 Tryz.underlying81 hi0 hz0 hz1 hz2 rfl (by omega) v _ (y0a qs) hs hownb _ _ k (y0a ps) hx hrb (y2x _ hone) (by unfold maxLen; omega) (by omega) (Nat.le_trans hb hkb.size) ?_
 intro v3 w3 hown3 hg3 hat3
 have hcat : y0a qs ++ y0a ps = y0a (qs ++ ps) := by simp [y0a]
 rw [hcat] at hown3
 have hkw : Keeps (fun b => v.ownBlock = some b) wb w3 := (Keeps.refl _ wb).grown hg3 (fun k hk _ => hk)
 have hwbs : w.heap.size < wb.heap.size := by rw [hwb]; simp
 obtain ⟨A4, c4, rfl⟩ := y04 hown3
 refine h A4 c4 w3 hown3 ((hkb.mono (fun _ h => h.elim)).trans hkw) (fun b hb => ?_)
 rcases hat3 with e | e
 ·exact .inl (e ▸ hb)
 ·rw [e] at hb; injection hb with hb; exact .inr (by omega)
end
structure DRead (w0 w : World) (v : Value) (us : List (Value × Pure.Rule)) : Prop where
 own : w.ownsRow w0.heap.size 148 7 v us.length (y0a us)
 rows : ∀ p ∈ us, Row w (fun b => w0.heap.size ≤ b ∧ v.ownBlock ≠ some b ∧ b < w.heap.size) 1 p.1 p.2.want.length (u8s p.2.want)
 kept : Keeps y01 w0 w
theorem DRead.keeps {w0 w w' : World} {v : Value} {us : List (Value × Pure.Rule)} (h : DRead w0 w v us) (k : Keeps y01 w w') : DRead w0 w' v us :=
 ⟨y0g h.own k (fun _ _ h => h), fun p hp => ((h.rows p hp).keeps k (fun _ _ h => h)).mono (fun _ hb => ⟨hb.1, hb.2.1, Nat.lt_of_lt_of_le hb.2.2 k.size⟩), h.kept.trans k⟩
theorem DRead.row {w0 w : World} {v : Value} {us : List (Value × Pure.Rule)} (h : DRead w0 w v us) : RRow w (fun b => w0.heap.size ≤ b ∧ b < w.heap.size) v us :=
 ⟨(Row.of_own h.own).mono (fun b hb => ⟨y06 h.own b hb, y0o h.own b hb⟩), fun p hp => (h.rows p hp).mono (fun _ hb => ⟨hb.1, hb.2.2⟩)⟩
theorem DRead.more {w0 w w' : World} {v v' : Value} {us ps : List (Value × Pure.Rule)} {k : Nat} (h : DRead w0 w v us) (hk : ps.length = k) (hd : ∀ p ∈ ps, Row w (fun b => w0.heap.size ≤ b ∧ v.ownBlock ≠ some b ∧ b < w.heap.size) 1 p.1 p.2.want.length (u8s p.2.want))
  (ho : w'.ownsRow w0.heap.size 148 7 v' (us.length + k) (y0a (us ++ ps))) (k : Keeps (fun b => v.ownBlock = some b) w w') (hb : ∀ b, v'.ownBlock = some b → v.ownBlock = some b ∨ w.heap.size ≤ b) : DRead w0 w' v' (us ++ ps) := by
 refine ⟨by rw [List.length_append, hk]; exact ho, fun p hp => ?_, h.kept.trans' k (fun i hi hl => by have := y06 h.own i hi; omega)⟩
 have hrow : Row w (fun b => w0.heap.size ≤ b ∧ v.ownBlock ≠ some b ∧ b < w.heap.size) 1 p.1 p.2.want.length (u8s p.2.want) := by
  rcases List.mem_append.1 hp with hp | hp
  ·exact h.rows p hp
  ·exact hd p hp
 refine (hrow.keeps k (fun b hb => hb.2.1)).mono (fun b hx => ⟨hx.1, fun e => ?_, Nat.lt_of_lt_of_le hx.2.2 k.size⟩)
 rcases hb b e with e | e
 ·exact hx.2.1 e
 ·omega
theorem DRead.lit (w0 w : World) (k0 : Keeps y01 w0 w) (us : List (Value × Pure.Rule)) (cs : Array Value) (n : Nat) (hcs : cs = (y0a us).toArray) (hn : us.length = n) (h10 : n ≤ 10) (hd : ∀ p ∈ us, p.1 = .slice none 0 0 ∧ p.2.want = []) : DRead w0 (w.alloc (.cells cs 148)) (.slice (some ⟨w.heap.size, 0, none⟩) n n) us := by
 subst hcs
 refine ⟨?_, fun p hp => ?_, k0.alloc _⟩
 ·have h := World.ownsRow_lit (base := w0.heap.size) (e := 148) (size := 7) w (y0a us).toArray n k0.size (by unfold maxLen; omega) (by rw [List.size_toArray, y38, hn])
  rw [hn]
  exact h
 ·rw [(hd p hp).1, (hd p hp).2]
  exact Row.nil _ _ _
end Go.Proofs.YtmgicbckgpdkcaaGreatDoor
