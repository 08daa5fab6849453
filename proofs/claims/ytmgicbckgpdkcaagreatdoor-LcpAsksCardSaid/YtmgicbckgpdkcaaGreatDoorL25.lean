/- Chapter 14's statements' Values and sameRules. -/
import Derived.Test.YtmgicbckgpdkcaaGreatDoorL24
namespace Go.Proofs.YtmgicbckgpdkcaaGreatDoor
set_option maxRecDepth 100000
set_option maxHeartbeats 16000000
open _root_.Go.Lib renaming hid → xhd
open List renaming setIfInBounds_toArray → xqA, getElem_toArray → xqB, getElem_cons_succ → xqC, getElem_cons_zero → xqD, set_cons_succ → xqE, set_cons_zero → xqF
open Go.RowKit
theorem y74 (V : Pure.Vals) (w : World) : Calls Tryz.prog 19 #[y0v V, y0v V] w fun e w' => e = .returned (.bool true) ∧ Keeps y01 w w' := by
 obtain ⟨ab, hab⟩ : ∃ q, q = w.heap.size := ⟨_, rfl⟩
 obtain ⟨w1, hw1⟩ : ∃ q, q = (w.alloc (.cells (y08 V).toArray 39)).alloc (.cells (y08 V).toArray 41) := ⟨_, rfl⟩
 have HK := xhd (show Keeps y01 w w1 by rw [hw1]; exact ((Keeps.refl _ w).alloc _).alloc _)
 have HA := xhd (show Blk w1 ab 39 (y08 V).toArray by rw [hw1, hab]; exact (Blk.new w _ _).alloc _)
 have HB := xhd (show Blk w1 (ab + 1) 41 (y08 V).toArray by
  rw [hw1, show ab + 1 = (w.alloc (.cells (y08 V).toArray 39)).heap.size by rw [hab]; simp]
  exact Blk.new _ _ _)
 have a0 : w1.cell? ⟨ab, 0, none⟩ = some (.int .i64 (V.mru : Int)) := by rw [HA.out.cell]; rfl
 have b0 : w1.cell? ⟨ab + 1, 0, none⟩ = some (.int .i64 (V.mru : Int)) := by rw [HB.out.cell]; rfl
 have e0 : ((V.mru : Int) == (V.mru : Int)) = true := beq_self_eq_true _
 have a1 : w1.cell? ⟨ab, 1, none⟩ = some (.int .i64 (V.mrru : Int)) := by rw [HA.out.cell]; rfl
 have b1 : w1.cell? ⟨ab + 1, 1, none⟩ = some (.int .i64 (V.mrru : Int)) := by rw [HB.out.cell]; rfl
 have e1 : ((V.mrru : Int) == (V.mrru : Int)) = true := beq_self_eq_true _
 have a2 : w1.cell? ⟨ab, 2, none⟩ = some (.int .u32 (V.accm : Int)) := by rw [HA.out.cell]; rfl
 have b2 : w1.cell? ⟨ab + 1, 2, none⟩ = some (.int .u32 (V.accm : Int)) := by rw [HB.out.cell]; rfl
 have e2 : ((V.accm : Int) == (V.accm : Int)) = true := beq_self_eq_true _
 have a3 : w1.cell? ⟨ab, 3, none⟩ = some (.bool V.auth) := by rw [HA.out.cell]; rfl
 have b3 : w1.cell? ⟨ab + 1, 3, none⟩ = some (.bool V.auth) := by rw [HB.out.cell]; rfl
 have e3 : (V.auth == V.auth) = true := beq_self_eq_true _
 have a4 : w1.cell? ⟨ab, 4, none⟩ = some (.bool V.pfc) := by rw [HA.out.cell]; rfl
 have b4 : w1.cell? ⟨ab + 1, 4, none⟩ = some (.bool V.pfc) := by rw [HB.out.cell]; rfl
 have e4 : (V.pfc == V.pfc) = true := beq_self_eq_true _
 have a5 : w1.cell? ⟨ab, 5, none⟩ = some (.bool V.acfc) := by rw [HA.out.cell]; rfl
 have b5 : w1.cell? ⟨ab + 1, 5, none⟩ = some (.bool V.acfc) := by rw [HB.out.cell]; rfl
 have e5 : (V.acfc == V.acfc) = true := beq_self_eq_true _
 have a6 : w1.cell? ⟨ab, 6, none⟩ = some (.bool V.short) := by rw [HA.out.cell]; rfl
 have b6 : w1.cell? ⟨ab + 1, 6, none⟩ = some (.bool V.short) := by rw [HB.out.cell]; rfl
 have e6 : (V.short == V.short) = true := beq_self_eq_true _
 have a7 : w1.cell? ⟨ab, 7, none⟩ = some (.int .u32 (V.magic : Int)) := by rw [HA.out.cell]; rfl
 have b7 : w1.cell? ⟨ab + 1, 7, none⟩ = some (.int .u32 (V.magic : Int)) := by rw [HB.out.cell]; rfl
 have e7 : ((V.magic : Int) == (V.magic : Int)) = true := beq_self_eq_true _
 go_enter Tryz.func19, Tryz.ntmps19
 go_upto_region 1 with fail
 rw [← hab]
 rw [← hw1]
 clear hw1 hab
 go_wp2_with fail
 go_ret
 exact ⟨rfl, HK.out⟩
theorem y1j : (Tryz.prog.info? 122).map (·.size) = some 7 := by kernel_rfl
theorem y7x {n k : Nat} (h : k < n) : n - (intOf (.int .i64 ((k + 1 : Nat) : Int))).toNat < n - (intOf (.int .i64 (k : Int))).toNat := by simp [intOf]; omega
theorem y1b {w w' : World} {g b o : Nat} {v : Value} (h : w.cell? ⟨b, o, none⟩ = some v) (k : Keeps (only g) w w') (hg : b < g) : w'.cell? ⟨b, o, none⟩ = some v := by
 have hl := y0l h
 unfold World.cell? at h ⊢
 rw [k.block b hl (fun e => by have e : b = g := e; omega)]
 exact h
theorem y4a (c : Pure.Cfg) : c.rules.length ≤ 8 := by
 unfold Pure.Cfg.rules
 cases c.server <;> cases c.pfc <;> cases c.acfc <;> (by_cases h : c.mrru = 0) <;> simp [h]
theorem y7f (c : Pure.Cfg) (nm sc : ByteArray) (w : World) : Calls Tryz.prog 24 #[cfgV c nm sc] w fun e w' => e = .returned (.bool true) ∧ Keeps y01 w w' := by
 obtain ⟨cb, hcb⟩ : ∃ q, q = w.heap.size := ⟨_, rfl⟩
 obtain ⟨w1, hw1⟩ : ∃ q, q = w.alloc (.cells (y07 c nm sc).toArray 25) := ⟨_, rfl⟩
 have HK1 := xhd (show Keeps y01 w w1 by rw [hw1]; exact (Keeps.refl _ w).alloc _)
 have HC1 := xhd (show Blk w1 cb 25 (y07 c nm sc).toArray by rw [hw1, hcb]; exact Blk.new w _ _)
 have HI := xhd y1c
 have HLR := xhd (y51 c nm sc w1)
 go_enter Tryz.func24, Tryz.ntmps24
 go_upto_region 1 with fail
 rw [← hcb, ← hw1]
 clear hcb hw1
 obtain ⟨CV, hCV⟩ : ∃ q, q = cfgV c nm sc := ⟨_, rfl⟩
 rw [← hCV]
 have HCV := xhd hCV
 rw [← HCV.out] at HLR
 clear hCV
 refine wp_region_list ?_
 refine wpList_load_mid rfl 25 (.tmp 1) rfl cb 0 rfl (y07 c nm sc) _ (fun j v hv => by rw [Nat.zero_add, HC1.out.cell, List.getElem?_toArray]; exact hv) Tryz.underlying25 rfl HI.out ?_
 rw [show Value.agg (y07 c nm sc).toArray = CV from HCV.out.symm]
 go_wp2_with fail
 refine HLR.out.mono ?_
 rintro e w2 ⟨v, us, rfl, hus, hrd⟩
 obtain ⟨A1, c1, rfl⟩ := y04 hrd.own
 have HUS := xhd hus
 have HU2 := xhd hrd.row
 have HK2 := xhd (HK1.out.trans hrd.kept)
 have HC2 := xhd (HC1.out.keeps hrd.kept (fun e => e))
 have HDR := xhd (y7o c nm sc w2)
 rw [← HCV.out] at HDR
 clear hus hrd HLR HK1 HC1
 go_upto_region 2 with fail
 refine wp_region_list ?_
 refine wpList_load_mid rfl 25 (.tmp 1) rfl cb 0 rfl (y07 c nm sc) _ (fun j v hv => by rw [Nat.zero_add, HC2.out.cell, List.getElem?_toArray]; exact hv) Tryz.underlying25 rfl HI.out ?_
 rw [show Value.agg (y07 c nm sc).toArray = CV from HCV.out.symm]
 go_wp2_with fail
 refine HDR.out.mono ?_
 rintro e w3 ⟨vd, ds, rfl, hds, hdd⟩
 obtain ⟨Ad, cd, rfl⟩ := y04 hdd.own
 have hdl : ds.length ≤ 8 := by
  have h := congrArg List.length hds
  simp only [y0e, List.length_map] at h
  rw [h]
  exact y4a c
 have HAS := xhd (y88 _ _ ds w3 hdd.row (fun b hb => hb.2) (by omega))
 have HDS := xhd hds
 have HU3 := xhd (HU2.out.keeps hdd.kept (fun _ _ e => e))
 have HK3 := xhd (HK2.out.trans hdd.kept)
 clear hds hdd hdl HDR HU2 HK2 HC2
 go_wp2_with fail
 refine HAS.out.mono ?_
 rintro e w4 ⟨vq, qs, rfl, hqs, hqq⟩
 obtain ⟨Aq, cq, rfl⟩ := y04 hqq.own
 have HQS := xhd (show y0e qs = y0e us by rw [hqs, HDS.out, HUS.out])
 have hlen : qs.length = us.length := by
  have h := congrArg List.length HQS.out
  simpa [y0e] using h
 have hul : us.length ≤ 8 := by
  have h := congrArg List.length HUS.out
  simp only [y0e, List.length_map] at h
  rw [h]
  exact y4a c
 have hqr := hqq.row
 rw [hlen] at hqr ⊢
 have HQ4 := xhd hqr
 have HU4 := xhd (HU3.out.keeps hqq.kept (fun _ _ e => e))
 have HK4 := xhd (HK3.out.trans hqq.kept)
 have HLN := xhd hlen
 have ne : ((us.length : Int) != (us.length : Int)) = false := bne_self_eq_false _
 clear hqs hqq hqr hlen HAS HDS HU3 HK3
 go_wp2_with fail
 clear ne
 go_loopw [5] (fun i wr => ∃ k : Nat, k ≤ us.length ∧ i = .int .i64 (k : Int) ∧ Keeps y01 w4 wr) (fun i _ => us.length - (intOf i).toNat)
 case atStart => exact ⟨0, by omega, rfl, Keeps.refl _ _⟩
 case round =>
  obtain ⟨k, hk, rfl, hkr⟩ := hrel
  have HKR := xhd hkr
  have HQr := xhd (HQ4.out.keeps hkr (fun _ _ e => e))
  have HUr := xhd (HU4.out.keeps hkr (fun _ _ e => e))
  clear hkr
  by_cases hkl : k < us.length
  ·have i0 : (0 : Int) ≤ (k : Int) := by omega
   have i1 : (k : Int) < (us.length : Int) := by omega
   have d1 : decide ((k : Int) < (us.length : Int)) = true := decide_eq_true (by omega)
   have d2 : decide (k < us.length) = true := decide_eq_true hkl
   obtain ⟨bp, bo, pA, pc, r, rfl, hFb, hcb, hwb, hpb⟩ := HUr.out.pick k hkl
   obtain ⟨qp, qo, qA, qc, r2, rfl, hFq, hcq, hwq, hpq⟩ := HQr.out.pick k (by rw [HLN.out]; exact hkl)
   obtain rfl : r2 = r := by
    have h := congrArg (fun l => l[k]?) HQS.out
    simp only [y0e, List.getElem?_map, hpb, hpq] at h
    injection h
   have HX := xhd (show (∀ j u, (y0c (.slice pA r2.want.length pc, r2))[j]? = some u → wr.cell? ⟨bp, bo + k * 7 + j, none⟩ = some u) ∧ (∀ j u, (y0c (.slice qA r2.want.length qc, r2))[j]? = some u → wr.cell? ⟨qp, qo + k * 7 + j, none⟩ = some u) from ⟨hcb, hcq⟩)
   have HWB := xhd hwb
   have HWQ := xhd hwq
   have HKL := xhd hkl
   have HLW := xhd (show wrap64 ((k : Int) + 1) = ((k + 1 : Nat) : Int) by rw [IntWalk.wrap64_in _ (by omega)]; omega)
   have HKZ := xhd (Keeps.refl y01 wr)
   clear hFb hFq hcb hcq hwb hwq hpb hpq hk hkl hul
   go_upto_region 8 with fail
   go_cut [6, 7] (fun s6 s7 wx => ∃ t6 t7 wa4, s6 = .pointer (some ⟨t6, 0, none⟩) ∧ s7 = .pointer (some ⟨t7, 0, none⟩) ∧ wa4 = wx ∧ Blk wa4 t6 122 #[.int .i64 r2.type, .int .i64 r2.len, .int .i64 r2.how, .int .i64 r2.lo, .int .i64 r2.hi, .slice pA r2.want.length pc, .bool r2.need] ∧ Blk wa4 t7 122 #[.int .i64 r2.type, .int .i64 r2.len, .int .i64 r2.how, .int .i64 r2.lo, .int .i64 r2.hi, .slice qA r2.want.length qc, .bool r2.need] ∧ Keeps y01 wr wa4)
   case first =>
    refine y0i (fun w' => (∀ j u, (y0c (.slice pA r2.want.length pc, r2))[j]? = some u → w'.cell? ⟨bp, bo + k * 7 + j, none⟩ = some u) ∧ (∀ j u, (y0c (.slice qA r2.want.length qc, r2))[j]? = some u → w'.cell? ⟨qp, qo + k * 7 + j, none⟩ = some u)) 11 12 rfl (by kernel_rfl) ⟨HX.out.1, HX.out.2⟩ (fun hHeld => ?_)
    have HSW := hHeld
    clear hHeld
    have HK0d := xhd (HKZ.out.drew)
    refine y00 (i := 0) rfl (by kernel_rfl) (fun _ _ _ h => h) (Or.inl ⟨by rfl, by intro w hSw; skip; go_simp; try with_reducible rfl⟩) HSW.out ?_
    simp only [Act.put, xqA, Nat.reduceAdd, xqB, xqC, xqD, xqE, xqF]
    refine y00 (i := 1) rfl (by kernel_rfl) (fun _ _ _ h => h) (Or.inl ⟨by rfl, by intro w hSw; skip; go_simp; try with_reducible rfl⟩) HSW.out ?_
    simp only [Act.put, xqA, Nat.reduceAdd, xqB, xqC, xqD, xqE, xqF]
    refine y00 (i := 2) rfl (by kernel_rfl) (fun _ _ _ h => h) (Or.inl ⟨by rfl, by intro w hSw; skip; go_simp; try with_reducible rfl⟩) HSW.out ?_
    simp only [Act.put, xqA, Nat.reduceAdd, xqB, xqC, xqD, xqE, xqF]
    refine y00 (i := 3) rfl (by kernel_rfl) (fun _ _ _ h => h) (yieldsIf_load_mid rfl 122 (.tmp 26) rfl bp (bo + k * 7) rfl (y0c (.slice pA r2.want.length pc, r2)) _ (fun W hW j v hv => hW.1 j v hv) Tryz.underlying122 rfl y1j) HSW.out ?_
    simp only [Act.put, xqA, Nat.reduceAdd, xqB, xqC, xqD, xqE, xqF]
    refine y00 (i := 4) rfl (by kernel_rfl) (fun _ _ _ h => h) (Or.inl ⟨by rfl, by intro w hSw; skip; go_simp; try with_reducible rfl⟩) HSW.out ?_
    simp only [Act.put, xqA, Nat.reduceAdd, xqB, xqC, xqD, xqE, xqF]
    refine y00 (i := 5) rfl (by kernel_rfl) (fun _ _ _ h => h) (Or.inl ⟨by rfl, by intro w hSw; skip; go_simp; try with_reducible rfl⟩) HSW.out ?_
    simp only [Act.put, xqA, Nat.reduceAdd, xqB, xqC, xqD, xqE, xqF]
    refine y00 (i := 6) rfl (by kernel_rfl) (fun _ _ _ h => h) (Or.inl ⟨by rfl, by intro w hSw; skip; go_simp; try with_reducible rfl⟩) HSW.out ?_
    simp only [Act.put, xqA, Nat.reduceAdd, xqB, xqC, xqD, xqE, xqF]
    refine y00 (i := 7) rfl (by kernel_rfl) (fun _ _ _ h => h) (yieldsIf_load_mid rfl 122 (.tmp 30) rfl qp (qo + k * 7) rfl (y0c (.slice qA r2.want.length qc, r2)) _ (fun W hW j v hv => hW.2 j v hv) Tryz.underlying122 rfl y1j) HSW.out ?_
    simp only [Act.put, xqA, Nat.reduceAdd, xqB, xqC, xqD, xqE, xqF]
    refine wpAnyZ_two (i := 8) (j := 9) (by kernel_rfl) rfl rfl (fun K hK => ?_) (fun K hK => ?_)
    ·try rw [if_pos (by rfl)]
     go_simp
     obtain ⟨t6, ht6⟩ : ∃ q, q = (World.heap wr).size := ⟨_, rfl⟩
     obtain ⟨wa1, hwa1⟩ : ∃ q, q = World.drew (World.alloc wr (.cells #[.int .i64 0, .int .i64 0, .int .i64 0, .int .i64 0, .int .i64 0, .slice none 0 0, .bool false] 122)) := ⟨_, rfl⟩
     rw [← ht6, ← hwa1]
     have hka0 : Keeps y01 wr wa1 := by rw [hwa1]; exact ((Keeps.refl _ _).alloc _).drew
     have HBt61 := xhd (show Blk wa1 t6 122 #[.int .i64 0, .int .i64 0, .int .i64 0, .int .i64 0, .int .i64 0, .slice none 0 0, .bool false] by rw [hwa1, ht6]; exact Blk.new wr _ _)
     have HS1 := xhd (show (∀ j u, (y0c (.slice pA r2.want.length pc, r2))[j]? = some u → wa1.cell? ⟨bp, bo + k * 7 + j, none⟩ = some u) ∧ (∀ j u, (y0c (.slice qA r2.want.length qc, r2))[j]? = some u → wa1.cell? ⟨qp, qo + k * 7 + j, none⟩ = some u) from ⟨fun j u h => y0m (HX.out.1 j u h) hka0, fun j u h => y0m (HX.out.2 j u h) hka0⟩)
     have HKa1 := xhd hka0
     have HFt6 := xhd (show wr.heap.size ≤ t6 by rw [ht6]; exact Nat.le_refl _)
     clear hka0 hwa1 ht6
     refine hK.out _ _ (fun _ => HS1.out) ?_
     clear hK K
     try simp only [Act.put, xqA, Nat.reduceAdd, xqB, xqC, xqD, xqE, xqF]
     refine y05 (i := 9) (by kernel_rfl) rfl (fun K hK => ?_)
     try rw [if_pos (by rfl)]
     go_simp
     obtain ⟨t7, ht7⟩ : ∃ q, q = (World.heap wa1).size := ⟨_, rfl⟩
     obtain ⟨wa2, hwa2⟩ : ∃ q, q = World.alloc wa1 (.cells #[.int .i64 0, .int .i64 0, .int .i64 0, .int .i64 0, .int .i64 0, .slice none 0 0, .bool false] 122) := ⟨_, rfl⟩
     rw [← ht7, ← hwa2]
     have hka1 : Keeps y01 wa1 wa2 := by rw [hwa2]; exact (Keeps.refl _ _).alloc _
     have HBt72 := xhd (show Blk wa2 t7 122 #[.int .i64 0, .int .i64 0, .int .i64 0, .int .i64 0, .int .i64 0, .slice none 0 0, .bool false] by rw [hwa2, ht7]; exact Blk.new wa1 _ _)
     have HS2 := xhd (show (∀ j u, (y0c (.slice pA r2.want.length pc, r2))[j]? = some u → wa2.cell? ⟨bp, bo + k * 7 + j, none⟩ = some u) ∧ (∀ j u, (y0c (.slice qA r2.want.length qc, r2))[j]? = some u → wa2.cell? ⟨qp, qo + k * 7 + j, none⟩ = some u) from ⟨fun j u h => y0m (HS1.out.1 j u h) hka1, fun j u h => y0m (HS1.out.2 j u h) hka1⟩)
     have HKa2 := xhd (HKa1.out.trans hka1)
     have HBt62 := xhd (HBt61.out.keeps hka1 (fun e => e))
     have hne : t7 ≠ t6 := fun e => by have h := HBt61.out.lt; rw [ht7] at e; exact absurd e.symm (Nat.ne_of_lt h)
     have HNT := xhd (show t7 ≠ t6 from hne)
     clear hne
     have HFt7 := xhd (show wr.heap.size ≤ t7 by rw [ht7]; exact HKa1.out.size)
     clear hka1 hwa2 ht7
     refine hK.out _ _ (fun _ => HS2.out) ?_
     clear hK K
     try simp only [Act.put, xqA, Nat.reduceAdd, xqB, xqC, xqD, xqE, xqF]
     refine y05 (i := 10) (by kernel_rfl) rfl (fun K hK => ?_)
     rw [if_pos (by rfl)]
     refine wp_store_row 122 (.tmp 6) (.tmp 27) rfl t6 #[.int .i64 r2.type, .int .i64 r2.len, .int .i64 r2.how, .int .i64 r2.lo, .int .i64 r2.hi, .slice pA r2.want.length pc, .bool r2.need] rfl rfl 122 _ HBt62.out (by rw [y1j]; rfl) rfl (by simp [Value.oneCell']) ?_
     obtain ⟨wa3, hwa3⟩ : ∃ q, q = World.setRow wa2 t6 #[.int .i64 r2.type, .int .i64 r2.len, .int .i64 r2.how, .int .i64 r2.lo, .int .i64 r2.hi, .slice pA r2.want.length pc, .bool r2.need] := ⟨_, rfl⟩
     rw [← hwa3]
     have HBt63 := xhd (show Blk wa3 t6 122 #[.int .i64 r2.type, .int .i64 r2.len, .int .i64 r2.how, .int .i64 r2.lo, .int .i64 r2.hi, .slice pA r2.want.length pc, .bool r2.need] by rw [hwa3]; exact HBt62.out.rowSet _)
     have KS : Keeps (only t6) wa2 wa3 := by rw [hwa3]; exact (Keeps.refl (only t6) wa2).rowSet (fun _ => rfl) _
     have HBt73 := xhd (HBt72.out.keeps KS (fun e => HNT.out (by have e : t7 = t6 := e; exact e)))
     have HKa3 := xhd (HKa2.out.trans' KS (fun i hi hl => by have e : i = t6 := hi; have := HFt6.out; omega))
     have HS3 := xhd (show (∀ j u, (y0c (.slice pA r2.want.length pc, r2))[j]? = some u → wa3.cell? ⟨bp, bo + k * 7 + j, none⟩ = some u) ∧ (∀ j u, (y0c (.slice qA r2.want.length qc, r2))[j]? = some u → wa3.cell? ⟨qp, qo + k * 7 + j, none⟩ = some u) from ⟨fun j u h => y1b (HS2.out.1 j u h) KS (Nat.lt_of_lt_of_le (y0l (HX.out.1 0 _ rfl)) HFt6.out), fun j u h => y1b (HS2.out.2 j u h) KS (Nat.lt_of_lt_of_le (y0l (HX.out.2 0 _ rfl)) HFt6.out)⟩)
     clear KS hwa3
     refine hK.out _ _ (fun _ => HS3.out) ?_
     clear hK K
     try simp only [Act.put, xqA, Nat.reduceAdd, xqB, xqC, xqD, xqE, xqF]
     refine y05 (i := 11) (by kernel_rfl) rfl (fun K hK => ?_)
     rw [if_pos (by rfl)]
     refine wp_store_row 122 (.tmp 7) (.tmp 31) rfl t7 #[.int .i64 r2.type, .int .i64 r2.len, .int .i64 r2.how, .int .i64 r2.lo, .int .i64 r2.hi, .slice qA r2.want.length qc, .bool r2.need] rfl rfl 122 _ HBt73.out (by rw [y1j]; rfl) rfl (by simp [Value.oneCell']) ?_
     obtain ⟨wa4, hwa4⟩ : ∃ q, q = World.setRow wa3 t7 #[.int .i64 r2.type, .int .i64 r2.len, .int .i64 r2.how, .int .i64 r2.lo, .int .i64 r2.hi, .slice qA r2.want.length qc, .bool r2.need] := ⟨_, rfl⟩
     rw [← hwa4]
     have HBt74 := xhd (show Blk wa4 t7 122 #[.int .i64 r2.type, .int .i64 r2.len, .int .i64 r2.how, .int .i64 r2.lo, .int .i64 r2.hi, .slice qA r2.want.length qc, .bool r2.need] by rw [hwa4]; exact HBt73.out.rowSet _)
     have KS : Keeps (only t7) wa3 wa4 := by rw [hwa4]; exact (Keeps.refl (only t7) wa3).rowSet (fun _ => rfl) _
     have HBt64 := xhd (HBt63.out.keeps KS (fun e => HNT.out (by have e : t6 = t7 := e; exact e.symm)))
     have HKa4 := xhd (HKa3.out.trans' KS (fun i hi hl => by have e : i = t7 := hi; have := HFt7.out; omega))
     have HS4 := xhd (show (∀ j u, (y0c (.slice pA r2.want.length pc, r2))[j]? = some u → wa4.cell? ⟨bp, bo + k * 7 + j, none⟩ = some u) ∧ (∀ j u, (y0c (.slice qA r2.want.length qc, r2))[j]? = some u → wa4.cell? ⟨qp, qo + k * 7 + j, none⟩ = some u) from ⟨fun j u h => y1b (HS3.out.1 j u h) KS (Nat.lt_of_lt_of_le (y0l (HX.out.1 0 _ rfl)) HFt7.out), fun j u h => y1b (HS3.out.2 j u h) KS (Nat.lt_of_lt_of_le (y0l (HX.out.2 0 _ rfl)) HFt7.out)⟩)
     clear KS hwa4
     refine hK.out _ _ (fun h => absurd rfl h) ?_
     clear hK K
     refine y0f (by kernel_rfl) ?_ _
     go_wp2_with fail
     go_meet
     exact ⟨t6, t7, wa4, rfl, rfl, rfl, HBt64.out, HBt74.out, HKa4.out⟩
    ·try rw [if_pos (by rfl)]
     go_simp
     obtain ⟨t7, ht7⟩ : ∃ q, q = (World.heap wr).size := ⟨_, rfl⟩
     obtain ⟨wa1, hwa1⟩ : ∃ q, q = World.drew (World.alloc wr (.cells #[.int .i64 0, .int .i64 0, .int .i64 0, .int .i64 0, .int .i64 0, .slice none 0 0, .bool false] 122)) := ⟨_, rfl⟩
     rw [← ht7, ← hwa1]
     have hka0 : Keeps y01 wr wa1 := by rw [hwa1]; exact ((Keeps.refl _ _).alloc _).drew
     have HBt71 := xhd (show Blk wa1 t7 122 #[.int .i64 0, .int .i64 0, .int .i64 0, .int .i64 0, .int .i64 0, .slice none 0 0, .bool false] by rw [hwa1, ht7]; exact Blk.new wr _ _)
     have HS1 := xhd (show (∀ j u, (y0c (.slice pA r2.want.length pc, r2))[j]? = some u → wa1.cell? ⟨bp, bo + k * 7 + j, none⟩ = some u) ∧ (∀ j u, (y0c (.slice qA r2.want.length qc, r2))[j]? = some u → wa1.cell? ⟨qp, qo + k * 7 + j, none⟩ = some u) from ⟨fun j u h => y0m (HX.out.1 j u h) hka0, fun j u h => y0m (HX.out.2 j u h) hka0⟩)
     have HKa1 := xhd hka0
     have HFt7 := xhd (show wr.heap.size ≤ t7 by rw [ht7]; exact Nat.le_refl _)
     clear hka0 hwa1 ht7
     refine hK.out _ _ (fun _ => HS1.out) ?_
     clear hK K
     try simp only [Act.put, xqA, Nat.reduceAdd, xqB, xqC, xqD, xqE, xqF]
     refine y05 (i := 8) (by kernel_rfl) rfl (fun K hK => ?_)
     try rw [if_pos (by rfl)]
     go_simp
     obtain ⟨t6, ht6⟩ : ∃ q, q = (World.heap wa1).size := ⟨_, rfl⟩
     obtain ⟨wa2, hwa2⟩ : ∃ q, q = World.alloc wa1 (.cells #[.int .i64 0, .int .i64 0, .int .i64 0, .int .i64 0, .int .i64 0, .slice none 0 0, .bool false] 122) := ⟨_, rfl⟩
     rw [← ht6, ← hwa2]
     have hka1 : Keeps y01 wa1 wa2 := by rw [hwa2]; exact (Keeps.refl _ _).alloc _
     have HBt62 := xhd (show Blk wa2 t6 122 #[.int .i64 0, .int .i64 0, .int .i64 0, .int .i64 0, .int .i64 0, .slice none 0 0, .bool false] by rw [hwa2, ht6]; exact Blk.new wa1 _ _)
     have HS2 := xhd (show (∀ j u, (y0c (.slice pA r2.want.length pc, r2))[j]? = some u → wa2.cell? ⟨bp, bo + k * 7 + j, none⟩ = some u) ∧ (∀ j u, (y0c (.slice qA r2.want.length qc, r2))[j]? = some u → wa2.cell? ⟨qp, qo + k * 7 + j, none⟩ = some u) from ⟨fun j u h => y0m (HS1.out.1 j u h) hka1, fun j u h => y0m (HS1.out.2 j u h) hka1⟩)
     have HKa2 := xhd (HKa1.out.trans hka1)
     have HBt72 := xhd (HBt71.out.keeps hka1 (fun e => e))
     have hne : t6 ≠ t7 := fun e => by have h := HBt71.out.lt; rw [ht6] at e; exact absurd e.symm (Nat.ne_of_lt h)
     have HNT := xhd (show t7 ≠ t6 from hne.symm)
     clear hne
     have HFt6 := xhd (show wr.heap.size ≤ t6 by rw [ht6]; exact HKa1.out.size)
     clear hka1 hwa2 ht6
     refine hK.out _ _ (fun _ => HS2.out) ?_
     clear hK K
     try simp only [Act.put, xqA, Nat.reduceAdd, xqB, xqC, xqD, xqE, xqF]
     refine y05 (i := 10) (by kernel_rfl) rfl (fun K hK => ?_)
     rw [if_pos (by rfl)]
     refine wp_store_row 122 (.tmp 6) (.tmp 27) rfl t6 #[.int .i64 r2.type, .int .i64 r2.len, .int .i64 r2.how, .int .i64 r2.lo, .int .i64 r2.hi, .slice pA r2.want.length pc, .bool r2.need] rfl rfl 122 _ HBt62.out (by rw [y1j]; rfl) rfl (by simp [Value.oneCell']) ?_
     obtain ⟨wa3, hwa3⟩ : ∃ q, q = World.setRow wa2 t6 #[.int .i64 r2.type, .int .i64 r2.len, .int .i64 r2.how, .int .i64 r2.lo, .int .i64 r2.hi, .slice pA r2.want.length pc, .bool r2.need] := ⟨_, rfl⟩
     rw [← hwa3]
     have HBt63 := xhd (show Blk wa3 t6 122 #[.int .i64 r2.type, .int .i64 r2.len, .int .i64 r2.how, .int .i64 r2.lo, .int .i64 r2.hi, .slice pA r2.want.length pc, .bool r2.need] by rw [hwa3]; exact HBt62.out.rowSet _)
     have KS : Keeps (only t6) wa2 wa3 := by rw [hwa3]; exact (Keeps.refl (only t6) wa2).rowSet (fun _ => rfl) _
     have HBt73 := xhd (HBt72.out.keeps KS (fun e => HNT.out (by have e : t7 = t6 := e; exact e)))
     have HKa3 := xhd (HKa2.out.trans' KS (fun i hi hl => by have e : i = t6 := hi; have := HFt6.out; omega))
     have HS3 := xhd (show (∀ j u, (y0c (.slice pA r2.want.length pc, r2))[j]? = some u → wa3.cell? ⟨bp, bo + k * 7 + j, none⟩ = some u) ∧ (∀ j u, (y0c (.slice qA r2.want.length qc, r2))[j]? = some u → wa3.cell? ⟨qp, qo + k * 7 + j, none⟩ = some u) from ⟨fun j u h => y1b (HS2.out.1 j u h) KS (Nat.lt_of_lt_of_le (y0l (HX.out.1 0 _ rfl)) HFt6.out), fun j u h => y1b (HS2.out.2 j u h) KS (Nat.lt_of_lt_of_le (y0l (HX.out.2 0 _ rfl)) HFt6.out)⟩)
     clear KS hwa3
     refine hK.out _ _ (fun _ => HS3.out) ?_
     clear hK K
     try simp only [Act.put, xqA, Nat.reduceAdd, xqB, xqC, xqD, xqE, xqF]
     refine y05 (i := 11) (by kernel_rfl) rfl (fun K hK => ?_)
     rw [if_pos (by rfl)]
     refine wp_store_row 122 (.tmp 7) (.tmp 31) rfl t7 #[.int .i64 r2.type, .int .i64 r2.len, .int .i64 r2.how, .int .i64 r2.lo, .int .i64 r2.hi, .slice qA r2.want.length qc, .bool r2.need] rfl rfl 122 _ HBt73.out (by rw [y1j]; rfl) rfl (by simp [Value.oneCell']) ?_
     obtain ⟨wa4, hwa4⟩ : ∃ q, q = World.setRow wa3 t7 #[.int .i64 r2.type, .int .i64 r2.len, .int .i64 r2.how, .int .i64 r2.lo, .int .i64 r2.hi, .slice qA r2.want.length qc, .bool r2.need] := ⟨_, rfl⟩
     rw [← hwa4]
     have HBt74 := xhd (show Blk wa4 t7 122 #[.int .i64 r2.type, .int .i64 r2.len, .int .i64 r2.how, .int .i64 r2.lo, .int .i64 r2.hi, .slice qA r2.want.length qc, .bool r2.need] by rw [hwa4]; exact HBt73.out.rowSet _)
     have KS : Keeps (only t7) wa3 wa4 := by rw [hwa4]; exact (Keeps.refl (only t7) wa3).rowSet (fun _ => rfl) _
     have HBt64 := xhd (HBt63.out.keeps KS (fun e => HNT.out (by have e : t6 = t7 := e; exact e.symm)))
     have HKa4 := xhd (HKa3.out.trans' KS (fun i hi hl => by have e : i = t7 := hi; have := HFt7.out; omega))
     have HS4 := xhd (show (∀ j u, (y0c (.slice pA r2.want.length pc, r2))[j]? = some u → wa4.cell? ⟨bp, bo + k * 7 + j, none⟩ = some u) ∧ (∀ j u, (y0c (.slice qA r2.want.length qc, r2))[j]? = some u → wa4.cell? ⟨qp, qo + k * 7 + j, none⟩ = some u) from ⟨fun j u h => y1b (HS3.out.1 j u h) KS (Nat.lt_of_lt_of_le (y0l (HX.out.1 0 _ rfl)) HFt7.out), fun j u h => y1b (HS3.out.2 j u h) KS (Nat.lt_of_lt_of_le (y0l (HX.out.2 0 _ rfl)) HFt7.out)⟩)
     clear KS hwa4
     refine hK.out _ _ (fun h => absurd rfl h) ?_
     clear hK K
     refine y0f (by kernel_rfl) ?_ _
     go_wp2_with fail
     go_meet
     exact ⟨t6, t7, wa4, rfl, rfl, rfl, HBt64.out, HBt74.out, HKa4.out⟩
   case rest =>
    obtain ⟨t6, t7, wa4, rfl, rfl, rfl, hb6, hb7, hka4⟩ := hcut
    have HBt64 := xhd hb6
    have HBt74 := xhd hb7
    have HKa4 := xhd hka4
    clear hb6 hb7 hka4 HX HKZ
    have s0 : World.cell? wa4 ⟨t6, 0, none⟩ = some (.int .i64 r2.type) := by rw [HBt64.out.cell]; rfl
    have u0 : World.cell? wa4 ⟨t7, 0, none⟩ = some (.int .i64 r2.type) := by rw [HBt74.out.cell]; rfl
    have s1 : World.cell? wa4 ⟨t6, 1, none⟩ = some (.int .i64 r2.len) := by rw [HBt64.out.cell]; rfl
    have u1 : World.cell? wa4 ⟨t7, 1, none⟩ = some (.int .i64 r2.len) := by rw [HBt74.out.cell]; rfl
    have s2 : World.cell? wa4 ⟨t6, 2, none⟩ = some (.int .i64 r2.how) := by rw [HBt64.out.cell]; rfl
    have u2 : World.cell? wa4 ⟨t7, 2, none⟩ = some (.int .i64 r2.how) := by rw [HBt74.out.cell]; rfl
    have s3 : World.cell? wa4 ⟨t6, 3, none⟩ = some (.int .i64 r2.lo) := by rw [HBt64.out.cell]; rfl
    have u3 : World.cell? wa4 ⟨t7, 3, none⟩ = some (.int .i64 r2.lo) := by rw [HBt74.out.cell]; rfl
    have s4 : World.cell? wa4 ⟨t6, 4, none⟩ = some (.int .i64 r2.hi) := by rw [HBt64.out.cell]; rfl
    have u4 : World.cell? wa4 ⟨t7, 4, none⟩ = some (.int .i64 r2.hi) := by rw [HBt74.out.cell]; rfl
    have s5 : World.cell? wa4 ⟨t6, 5, none⟩ = some (.slice pA r2.want.length pc) := by rw [HBt64.out.cell]; rfl
    have u5 : World.cell? wa4 ⟨t7, 5, none⟩ = some (.slice qA r2.want.length qc) := by rw [HBt74.out.cell]; rfl
    have s6 : World.cell? wa4 ⟨t6, 6, none⟩ = some (.bool r2.need) := by rw [HBt64.out.cell]; rfl
    have u6 : World.cell? wa4 ⟨t7, 6, none⟩ = some (.bool r2.need) := by rw [HBt74.out.cell]; rfl
    have etype : (r2.type != r2.type) = false := bne_self_eq_false _
    have ehow : (r2.how != r2.how) = false := bne_self_eq_false _
    have elo : (r2.lo != r2.lo) = false := bne_self_eq_false _
    have ehi : (r2.hi != r2.hi) = false := bne_self_eq_false _
    have eneed : (r2.need != r2.need) = false := bne_self_eq_false _
    have HSM := xhd (y35 _ _ _ _ r2.want r2.want wa4 (HWB.out.keeps HKa4.out (fun _ _ e => e)) (HWQ.out.keeps HKa4.out (fun _ _ e => e)))
    rw [decide_eq_true (rfl : r2.want = r2.want)] at HSM
    have HKF := xhd (HKR.out.trans HKa4.out)
    clear HBt64 HBt74 HKa4 HWB HWQ
    go_wp2_with fail
    refine HSM.out.mono ?_
    rintro e w9 ⟨rfl, hk9⟩
    have HK9 := xhd (HKF.out.trans hk9)
    clear hk9 HSM HKF s0 u0 s1 u1 s2 u2 s3 u3 s4 u4 s5 u5 s6 u6
    have lw := HLW.out
    go_wp2_with fail
    go_roundw
    case rel => exact ⟨k + 1, HKL.out, by go_num, HK9.out⟩
    case measure => rw [HLW.out]; exact y7x HKL.out
  ·have hkk : k = us.length := by omega
   have d1 : decide ((k : Int) < (us.length : Int)) = false := decide_eq_false (by omega)
   have d2 : decide (k < us.length) = false := decide_eq_false (by omega)
   have HKF := xhd (HK4.out.trans HKR.out)
   clear hkk
   go_wp2_with fail
   go_ret
   exact ⟨rfl, HKF.out⟩
def y1m (l : List Pure.Opt) : Prop := l.length ≤ 60 ∧ ∀ o ∈ l, o.2.length ≤ 300
instance (l : List Pure.Opt) : Decidable (y1m l) := by unfold y1m; infer_instance
theorem small_any (F : Nat → Prop) (x : Value) (ps : List (Value × Pure.Opt)) (w : World) (hx : ORow w F x ps) :
  Calls Tryz.prog 17 #[x] w fun e w' => e = .returned (.bool (decide (y1m (y02 ps)))) ∧ w' = w := by
 obtain ⟨A, cA, rfl, hc⟩ := hx.form
 have hm := hx.out.2.1
 unfold maxLen at hm
 have HX := xhd hx
 have hlen : (y02 ps).length = ps.length := by simp
 clear hx
 go_enter Tryz.func17, Tryz.ntmps17
 by_cases h60 : 60 < ps.length
 ·have HO := xhd (show decide (y1m (y02 ps)) = false from decide_eq_false (fun h => by have := h.1; omega))
  have d0 : decide ((60 : Int) < (ps.length : Int)) = true := decide_eq_true (by omega)
  clear hlen
  go_wp2
  go_ret
  exact ⟨by rw [HO.out]; rfl, rfl⟩
 ·have d0 : decide ((60 : Int) < (ps.length : Int)) = false := decide_eq_false (by omega)
  have HLen := xhd hlen
  clear hlen
  go_wp2_with fail
  go_loopw [3] (fun i wr => ∃ k : Nat, k ≤ ps.length ∧ i = .int .i64 (k : Int) ∧ (∀ o ∈ (y02 ps).take k, o.2.length ≤ 300) ∧ wr = w) (fun i _ => ps.length - (intOf i).toNat)
  case atStart => exact ⟨0, by omega, rfl, by simp, rfl⟩
  case round =>
   obtain ⟨k, hk, rfl, hE, rfl⟩ := hrel
   have HE := xhd hE
   clear hE
   by_cases hkl : k < ps.length
   ·have i0 : (0 : Int) ≤ (k : Int) := by omega
    have i1 : (k : Int) < (ps.length : Int) := by omega
    obtain ⟨p, o, A1, c1, s, la, rfl, hFp, x0, x1, hra, hpa⟩ := HX.out.pick k hkl
    have hps : (y02 ps)[k]? = some (s, la) := by rw [List.getElem?_map, hpa]; rfl
    have HPS := xhd hps
    clear hra hpa hps
    by_cases hla : 300 < la.length
    ·have HO := xhd (show decide (y1m (y02 ps)) = false from decide_eq_false (fun h => by have := h.2 _ (List.mem_of_getElem? HPS.out); dsimp only at this; omega))
     have d1 : decide ((300 : Int) < (la.length : Int)) = true := decide_eq_true (by omega)
     clear HPS
     go_wp2
     go_ret
     exact ⟨by rw [HO.out]; rfl, rfl⟩
    ·have d1 : decide ((300 : Int) < (la.length : Int)) = false := decide_eq_false (by omega)
     have HE' := xhd (show ∀ q ∈ (y02 ps).take (k + 1), q.2.length ≤ 300 by
      intro q hq
      have hk2 := (List.getElem?_eq_some_iff.1 HPS.out).1
      rw [List.take_succ_eq_append_getElem hk2] at hq
      rcases List.mem_append.1 hq with h | h
      ·exact HE.out q h
      ·simp only [List.mem_singleton] at h
       have := HPS.out
       rw [List.getElem?_eq_getElem hk2] at this
       injection this with this
       rw [h, this]; dsimp only; omega)
     clear HPS HE
     go_wp2_with fail
     go_roundw
     case rel => exact ⟨k + 1, by omega, by go_num, HE'.out, trivial⟩
     case measure => simp [intOf]; omega
   ·have hkk : k = ps.length := by omega
    have HO := xhd (show decide (y1m (y02 ps)) = true from decide_eq_true ⟨by rw [HLen.out]; omega, by
     have h := HE.out
     rwa [List.take_of_length_le (by rw [HLen.out]; omega)] at h⟩)
    subst hkk
    clear hkl hk HE
    go_wp2
    go_ret
    exact ⟨by rw [HO.out]; rfl, rfl⟩
theorem asks_fine {c : Pure.Cfg} (h : c.check = 0) : c.fine = true := by
 unfold Pure.Cfg.check at h
 split at h
 ·cases h
 ·split at h
  ·rename_i h1; exact absurd h h1
  ·split at h
   ·assumption
   ·cases h
theorem y29 {ops : Array Oper} {S : World → Prop} {op : Oper} {a : Act} (hw : Region.wanted op (yielded ops a.tmps) = true) (x : Operand) (ho : op.op = .load 25 x) (cb : Nat) (hx : a.eval x = .pointer (some ⟨cb, 0, none⟩))
  (c : Pure.Cfg) (nm sc : ByteArray) (V : Value) (hV : V = cfgV c nm sc) (hS : ∀ w, S w → Blk w cb 25 (y07 c nm sc).toArray) : YieldsIf Tryz.prog ops S op V a := by
 subst hV
 exact yieldsIf_load_mid hw 25 x ho cb 0 hx (y07 c nm sc) _ (fun W hW j v hv => by rw [Nat.zero_add, (hS W hW).cell, List.getElem?_toArray]; exact hv) Tryz.underlying25 rfl y1c
theorem asks14_any (c : Pure.Cfg) (nm sc : ByteArray) (hn : nm.data.toList = c.name) (hs : sc.data.toList = c.secret) (ha : c.accm < 4294967296) (m : Nat) (hm : m < 4294967296) (F : Nat → Prop) (x : Value) (zs : List (Value × Pure.Opt)) (w : World) (E : Env w) (hx : ORow w F x zs) :
  Calls Tryz.prog 4 #[cfgV c nm sc, .int .u32 (m : Int), x] w fun e w' => e = .returned (.bool true) ∧ Keeps y01 w w' := by
 obtain ⟨X, cx, rfl, _⟩ := hx.form
 obtain ⟨cb, hcb⟩ : ∃ q, q = w.heap.size := ⟨_, rfl⟩
 obtain ⟨w1, hw1⟩ : ∃ q, q = w.alloc (.cells (y07 c nm sc).toArray 25) := ⟨_, rfl⟩
 have hk1 : Keeps y01 w w1 := by rw [hw1]; exact (Keeps.refl _ w).alloc _
 have HC1 := xhd (show Blk w1 cb 25 (y07 c nm sc).toArray by rw [hw1, hcb]; exact Blk.new w _ _)
 have HE1 := xhd (E.quiet hk1)
 have HX1 := xhd (hx.keeps hk1 (fun _ _ e => e))
 have HK1 := xhd hk1
 have HN := xhd hn
 have HSC := xhd hs
 have HAC := xhd ha
 have hsz : nm.size = c.name.length := by rw [← hn]; rfl
 have hsz2 : sc.size = c.secret.length := by rw [← hs]; rfl
 have HSZ := xhd (And.intro hsz hsz2)
 have HAW := xhd (lawake_any w1 HE1.out)
 clear hk1 E hx hn hs ha hsz hsz2
 go_enter Tryz.func4, Tryz.ntmps4
 go_upto_region 1 with fail
 rw [← hcb, ← hw1]
 clear hcb hw1
 obtain ⟨CV, hCV⟩ : ∃ q, q = cfgV c nm sc := ⟨_, rfl⟩
 rw [← hCV]
 have HCV := xhd hCV
 clear hCV
 go_wp2_with fail
 refine HAW.out.mono ?_
 rintro e w2 ⟨rfl, hk2⟩
 have HK2 := xhd (HK1.out.trans hk2)
 have HC2 := xhd (HC1.out.keeps hk2 (fun e => e))
 have HE2 := xhd (HE1.out.quiet hk2)
 have HX2 := xhd (HX1.out.keeps hk2 (fun _ _ e => e))
 clear hk2 HAW HK1 HC1 HE1 HX1
 go_upto_region 3 with fail
 have c1 : w2.cell? ⟨cb, 1, none⟩ = some (.string nm) := by rw [HC2.out.cell]; rfl
 have c2 : w2.cell? ⟨cb, 2, none⟩ = some (.string sc) := by rw [HC2.out.cell]; rfl
 have HSM := xhd (small_any F (.slice X zs.length cx) zs w2 HX2.out)
 by_cases h1 : 300 < c.name.length
 ·have d1 : decide ((300 : Int) < (nm.size : Int)) = true := decide_eq_true (by rw [HSZ.out.1]; omega)
  have d2 : decide (300 < nm.size) = true := decide_eq_true (by rw [HSZ.out.1]; exact h1)
  clear h1
  go_wp2_with fail
  go_ret
  exact ⟨rfl, HK2.out⟩
 have d1 : decide ((300 : Int) < (nm.size : Int)) = false := decide_eq_false (by rw [HSZ.out.1]; omega)
 have d2 : decide (300 < nm.size) = false := decide_eq_false (by rw [HSZ.out.1]; exact h1)
 clear h1
 by_cases h2 : 2000 < c.secret.length
 ·have d3 : decide ((2000 : Int) < (sc.size : Int)) = true := decide_eq_true (by rw [HSZ.out.2]; omega)
  have d4 : decide (2000 < sc.size) = true := decide_eq_true (by rw [HSZ.out.2]; exact h2)
  clear h2
  go_wp2_with fail
  go_ret
  exact ⟨rfl, HK2.out⟩
 have d3 : decide ((2000 : Int) < (sc.size : Int)) = false := decide_eq_false (by rw [HSZ.out.2]; omega)
 have d4 : decide (2000 < sc.size) = false := decide_eq_false (by rw [HSZ.out.2]; exact h2)
 have HSL := xhd (show c.secret.length ≤ 1000000 by omega)
 clear h2
 obtain ⟨S, hS⟩ : ∃ q, q = decide (y1m (y02 zs)) := ⟨_, rfl⟩
 rw [← hS] at HSM
 clear hS
 have HSM := xhd (show Calls Tryz.prog 17 #[.slice X zs.length cx] w2 fun e w' => e = .returned (.bool S) ∧ w2 = w' from HSM.out.mono fun _ _ h => ⟨h.1, h.2.symm⟩)
 cases S
 ·go_wp2_with fail
  refine HSM.out.mono ?_
  rintro e wq ⟨rfl, rfl⟩
  go_wp2_with fail
  go_ret
  exact ⟨rfl, HK2.out⟩
 go_wp2_with fail
 refine HSM.out.mono ?_
 rintro e wq ⟨rfl, rfl⟩
 clear c1 c2 d1 d2 d3 d4 HSM
 obtain ⟨CK, hCK⟩ : ∃ q : Int, q = (c.check : Int) := ⟨_, rfl⟩
 have HCK := xhd hCK
 have HP := xhd (fun (W : World) (k : Keeps y01 w2 W) => (show Calls Tryz.prog 16 #[CV] W fun e w' => e = .returned (.int .i64 CK) ∧ Keeps y01 W w' from by rw [HCV.out, HCK.out]; exact y4y c nm sc HN.out HSC.out HSL.out W (HE2.out.quiet k)))
 have HQ := xhd (fun (W : World) => (show Calls Tryz.prog 18 #[CV] W fun e w' => e = .returned (.int .i64 CK) ∧ Keeps y01 W w' from by rw [HCV.out, HCK.out]; exact y7m c nm sc HN.out HSC.out HSL.out W))
 have ne : (CK != CK) = false := bne_self_eq_false _
 have HKZ := xhd (Keeps.refl y01 w2)
 clear hCK
 go_upto_region 5 with fail
 obtain ⟨VV, hVV⟩ : ∃ q, q = y0v (Pure.readVals (y02 zs)) := ⟨_, rfl⟩
 have HVV := xhd hVV
 have HVL := xhd (fun (W : World) => (show Calls Tryz.prog 19 #[VV, VV] W fun e w' => e = .returned (.bool true) ∧ Keeps y01 W w' from by rw [HVV.out]; exact y74 _ W))
 clear hVV
 refine y0i (fun w' => Blk w' cb 25 (y07 c nm sc).toArray) 12 13 rfl (by kernel_rfl) HC2.out (fun hHeld => ?_)
 have HSW := hHeld
 clear hHeld
 have HK0d := xhd (HKZ.out.drew)
 refine y00 (i := 0) rfl (by kernel_rfl) (fun _ _ _ h => h) (y29 rfl (.tmp 3) rfl cb rfl c nm sc CV HCV.out (fun W hW => hW)) HSW.out ?_
 simp only [Act.put, xqA, Nat.reduceAdd, xqB, xqC, xqD, xqE, xqF]
 refine y00 (i := 2) rfl (by kernel_rfl) (fun _ _ _ h => h) (y29 rfl (.tmp 3) rfl cb rfl c nm sc CV HCV.out (fun W hW => hW)) HSW.out ?_
 simp only [Act.put, xqA, Nat.reduceAdd, xqB, xqC, xqD, xqE, xqF]
 refine y05 (i := 1) (by kernel_rfl) rfl (fun K hK => ?_)
 try rw [if_pos (by rfl)]
 go_simp
 refine (HP.out _ HK0d.out).mono ?_
 rintro e wza1 ⟨rfl, hk⟩
 have HSa1 := xhd (HSW.out.keeps hk (fun e => e))
 have HZa1 := xhd (HK0d.out.trans hk)
 clear hk
 refine hK.out _ _ (fun _ => HSa1.out) ?_
 clear hK K
 try simp only [Act.put, xqA, Nat.reduceAdd, xqB, xqC, xqD, xqE, xqF]
 refine y05 (i := 3) (by kernel_rfl) rfl (fun K hK => ?_)
 try rw [if_pos (by rfl)]
 go_simp
 refine (HQ.out _).mono ?_
 rintro e wza2 ⟨rfl, hk⟩
 have HSa2 := xhd (HSa1.out.keeps hk (fun e => e))
 have HZa2 := xhd (HZa1.out.trans hk)
 clear hk
 refine hK.out _ _ (fun _ => HSa2.out) ?_
 clear hK K
 try simp only [Act.put, xqA, Nat.reduceAdd, xqB, xqC, xqD, xqE, xqF]
 refine y00 (i := 4) rfl (by kernel_rfl) (fun _ _ _ h => h) (Or.inl ⟨by rfl, by intro w hSw; skip; go_simp; try with_reducible rfl⟩) HSa2.out ?_
 simp only [Act.put, xqA, Nat.reduceAdd, xqB, xqC, xqD, xqE, xqF]
 refine y00 (i := 5) rfl (by kernel_rfl) (fun _ _ _ h => h) (Or.inl ⟨by rfl, by intro w hSw; skip; go_simp; try with_reducible rfl⟩) HSa2.out ?_
 simp only [Act.put, xqA, Nat.reduceAdd, xqB, xqC, xqD, xqE, xqF]
 refine y00 (i := 6) rfl (by kernel_rfl) (fun _ _ _ h => h) (Or.inl ⟨by rfl, by intro w hSw; skip; go_simp; try with_reducible rfl⟩) HSa2.out ?_
 simp only [Act.put, xqA, Nat.reduceAdd, xqB, xqC, xqD, xqE, xqF]
 refine y00 (i := 8) rfl (by kernel_rfl) (fun _ _ _ h => h) (Or.inl ⟨by rfl, by intro w hSw; skip; go_simp; try with_reducible rfl⟩) HSa2.out ?_
 simp only [Act.put, xqA, Nat.reduceAdd, xqB, xqC, xqD, xqE, xqF]
 refine y05 (i := 7) (by kernel_rfl) rfl (fun K hK => ?_)
 try rw [if_pos (by rfl)]
 go_simp
 have hrd := lread_any F (.slice X zs.length cx) zs _ (HX2.out.keeps HZa2.out (fun _ _ e => e))
 rw [← HVV.out] at hrd
 refine hrd.mono ?_
 rintro e wza3 ⟨rfl, hk⟩
 have HSa3 := xhd (HSa2.out.keeps hk (fun e => e))
 have HZa3 := xhd (HZa2.out.trans hk)
 clear hrd hk
 refine hK.out _ _ (fun _ => HSa3.out) ?_
 clear hK K
 try simp only [Act.put, xqA, Nat.reduceAdd, xqB, xqC, xqD, xqE, xqF]
 refine y05 (i := 9) (by kernel_rfl) rfl (fun K hK => ?_)
 try rw [if_pos (by rfl)]
 go_simp
 have hrd := y8d F (.slice X zs.length cx) zs _ (HX2.out.keeps HZa3.out (fun _ _ e => e))
 rw [← HVV.out] at hrd
 refine hrd.mono ?_
 rintro e wza4 ⟨rfl, hk⟩
 have HSa4 := xhd (HSa3.out.keeps hk (fun e => e))
 have HZa4 := xhd (HZa3.out.trans hk)
 clear hrd hk
 refine hK.out _ _ (fun _ => HSa4.out) ?_
 clear hK K
 try simp only [Act.put, xqA, Nat.reduceAdd, xqB, xqC, xqD, xqE, xqF]
 refine y05 (i := 10) (by kernel_rfl) rfl (fun K hK => ?_)
 try rw [if_pos (by rfl)]
 go_simp
 refine (HVL.out _).mono ?_
 rintro e wza5 ⟨rfl, hk⟩
 have HSa5 := xhd (HSa4.out.keeps hk (fun e => e))
 have HZa5 := xhd (HZa4.out.trans hk)
 clear hk
 refine hK.out _ _ (fun _ => HSa5.out) ?_
 clear hK K
 try simp only [Act.put, xqA, Nat.reduceAdd, xqB, xqC, xqD, xqE, xqF]
 refine y00 (i := 11) rfl (by kernel_rfl) (fun _ _ _ h => h) (Or.inl ⟨by rfl, by intro w hSw; skip; go_simp; try with_reducible rfl⟩) HSa5.out ?_
 simp only [Act.put, xqA, Nat.reduceAdd, xqB, xqC, xqD, xqE, xqF]
 refine y05 (i := 12) (by kernel_rfl) rfl (fun K hK => ?_)
 go_simp
 refine hK.out _ _ (fun h => absurd rfl h) ?_
 clear hK K
 refine y0f (by kernel_rfl) ?_ _
 have HK3 := xhd (HK2.out.trans HZa5.out)
 have HC3 := HSa5
 have HX3 := xhd (HX2.out.keeps HZa5.out (fun _ _ e => e))
 obtain ⟨w3, hw3⟩ : ∃ q, q = wza5 := ⟨_, rfl⟩
 rw [← hw3] at HK3 HC3 HX3 ⊢
 clear hw3 HE2 HP HVL HVV ne
 go_upto_region 7 with fail
 refine wp_region_list ?_
 refine wpList_load_mid rfl 25 (.tmp 3) rfl cb 0 rfl (y07 c nm sc) _ (fun j v hv => by rw [Nat.zero_add, HC3.out.cell, List.getElem?_toArray]; exact hv) Tryz.underlying25 rfl y1c ?_
 rw [show Value.agg (y07 c nm sc).toArray = CV from HCV.out.symm]
 go_wp2_with fail
 refine (HQ.out _).mono ?_
 rintro e w4 ⟨rfl, hk4⟩
 have HK4 := xhd (HK3.out.trans hk4)
 have HC4 := xhd (HC3.out.keeps hk4 (fun e => e))
 clear hk4 HK3 HC3 HX3 HQ
 by_cases hz : CK = 0
 case neg =>
  have nz : (CK != 0) = true := by simp [hz]
  clear hz
  go_wp2_with fail
  go_ret
  exact ⟨rfl, HK4.out⟩
 case pos =>
  have nz : (CK != 0) = false := by simp [hz]
  have HFN := xhd (asks_fine (show c.check = 0 by have h := HCK.out; omega))
  have HA1 := xhd (fun (W : World) => (show Calls Tryz.prog 14 #[CV, .int .u32 (m : Int)] W fun e w' => ∃ v, ∃ qs : List (Value × Pure.Opt), e = .returned v ∧ y02 qs = c.ask m ∧ Read W w' v qs from by rw [HCV.out]; exact lask_any c nm sc HFN.out HAC.out m hm W))
  have HA2 := xhd (fun (W : World) => (show Calls Tryz.prog 23 #[CV, .int .u32 (m : Int)] W fun e w' => ∃ v, ∃ qs : List (Value × Pure.Opt), e = .returned v ∧ y02 qs = c.ask m ∧ Read W w' v qs from by rw [HCV.out]; exact docask_any c nm sc HFN.out HAC.out m hm W))
  have HA3 := xhd (fun (W : World) => (show Calls Tryz.prog 24 #[CV] W fun e w' => e = .returned (.bool true) ∧ Keeps y01 W w' from by rw [HCV.out]; exact y7f c nm sc W))
  have HKZ4 := xhd (Keeps.refl y01 w4)
  clear hz HCK HSL HN HSC HSZ HAC HFN HKZ
  go_upto_region 9 with fail
  refine y0i (fun w' => Blk w' cb 25 (y07 c nm sc).toArray) 11 12 rfl (by kernel_rfl) HC4.out (fun hHeld => ?_)
  have HSW := hHeld
  clear hHeld
  have HK0d := xhd (HKZ4.out.drew)
  refine y00 (i := 0) rfl (by kernel_rfl) (fun _ _ _ h => h) (y29 rfl (.tmp 3) rfl cb rfl c nm sc CV HCV.out (fun W hW => hW)) HSW.out ?_
  simp only [Act.put, xqA, Nat.reduceAdd, xqB, xqC, xqD, xqE, xqF]
  refine y00 (i := 1) rfl (by kernel_rfl) (fun _ _ _ h => h) (Or.inl ⟨by rfl, by intro w hSw; skip; go_simp; try with_reducible rfl⟩) HSW.out ?_
  simp only [Act.put, xqA, Nat.reduceAdd, xqB, xqC, xqD, xqE, xqF]
  refine y00 (i := 3) rfl (by kernel_rfl) (fun _ _ _ h => h) (y29 rfl (.tmp 3) rfl cb rfl c nm sc CV HCV.out (fun W hW => hW)) HSW.out ?_
  simp only [Act.put, xqA, Nat.reduceAdd, xqB, xqC, xqD, xqE, xqF]
  refine y00 (i := 4) rfl (by kernel_rfl) (fun _ _ _ h => h) (Or.inl ⟨by rfl, by intro w hSw; skip; go_simp; try with_reducible rfl⟩) HSW.out ?_
  simp only [Act.put, xqA, Nat.reduceAdd, xqB, xqC, xqD, xqE, xqF]
  refine y05 (i := 2) (by kernel_rfl) rfl (fun K hK => ?_)
  try rw [if_pos (by rfl)]
  go_simp
  refine (HA1.out _).mono ?_
  rintro e wzb1 ⟨v1, qs1, rfl, hq1, hr1⟩
  obtain ⟨B1, e1, rfl⟩ := y04 hr1.own
  have HQ1 := xhd hq1
  have HR1 := xhd hr1.row
  clear hq1
  have HSb1 := xhd (HSW.out.keeps (Keeps.new hr1.below) (fun e => e))
  have HZb1 := xhd (HK0d.out.trans (Keeps.new hr1.below))
  clear hr1
  refine hK.out _ _ (fun _ => HSb1.out) ?_
  clear hK K
  try simp only [Act.put, xqA, Nat.reduceAdd, xqB, xqC, xqD, xqE, xqF]
  refine y05 (i := 5) (by kernel_rfl) rfl (fun K hK => ?_)
  try rw [if_pos (by rfl)]
  go_simp
  refine (HA2.out _).mono ?_
  rintro e wzb2 ⟨v2, qs2, rfl, hq2, hr2⟩
  obtain ⟨B2, e2, rfl⟩ := y04 hr2.own
  have HQ2 := xhd hq2
  have HR2 := xhd hr2.row
  have HR1 := xhd (HR1.out.keeps (Keeps.new hr2.below) (fun _ _ e => e))
  clear hq2
  have HSb2 := xhd (HSb1.out.keeps (Keeps.new hr2.below) (fun e => e))
  have HZb2 := xhd (HZb1.out.trans (Keeps.new hr2.below))
  clear hr2
  refine hK.out _ _ (fun _ => HSb2.out) ?_
  clear hK K
  try simp only [Act.put, xqA, Nat.reduceAdd, xqB, xqC, xqD, xqE, xqF]
  refine y05 (i := 6) (by kernel_rfl) rfl (fun K hK => ?_)
  try rw [if_pos (by rfl)]
  go_simp
  have hsm := y7n _ _ _ _ qs1 qs2 _ HR1.out HR2.out
  rw [HQ1.out, HQ2.out, decide_eq_true rfl] at hsm
  refine hsm.mono ?_
  rintro e wzb3 ⟨rfl, hk⟩
  have HSb3 := xhd (HSb2.out.keeps hk (fun e => e))
  have HZb3 := xhd (HZb2.out.trans hk)
  clear hk hsm
  refine hK.out _ _ (fun _ => HSb3.out) ?_
  clear hK K
  try simp only [Act.put, xqA, Nat.reduceAdd, xqB, xqC, xqD, xqE, xqF]
  refine y00 (i := 7) rfl (by kernel_rfl) (fun _ _ _ h => h) (Or.inl ⟨by rfl, by intro w hSw; skip; go_simp; try with_reducible rfl⟩) HSb3.out ?_
  simp only [Act.put, xqA, Nat.reduceAdd, xqB, xqC, xqD, xqE, xqF]
  refine y00 (i := 8) rfl (by kernel_rfl) (fun _ _ _ h => h) (y29 rfl (.tmp 3) rfl cb rfl c nm sc CV HCV.out (fun W hW => hW)) HSb3.out ?_
  simp only [Act.put, xqA, Nat.reduceAdd, xqB, xqC, xqD, xqE, xqF]
  refine y05 (i := 9) (by kernel_rfl) rfl (fun K hK => ?_)
  try rw [if_pos (by rfl)]
  go_simp
  refine (HA3.out _).mono ?_
  rintro e wzb4 ⟨rfl, hk⟩
  have HSb4 := xhd (HSb3.out.keeps hk (fun e => e))
  have HZb4 := xhd (HZb3.out.trans hk)
  clear hk
  refine hK.out _ _ (fun _ => HSb4.out) ?_
  clear hK K
  try simp only [Act.put, xqA, Nat.reduceAdd, xqB, xqC, xqD, xqE, xqF]
  refine y00 (i := 10) rfl (by kernel_rfl) (fun _ _ _ h => h) (Or.inl ⟨by rfl, by intro w hSw; skip; go_simp; try with_reducible rfl⟩) HSb4.out ?_
  simp only [Act.put, xqA, Nat.reduceAdd, xqB, xqC, xqD, xqE, xqF]
  refine y05 (i := 11) (by kernel_rfl) rfl (fun K hK => ?_)
  go_simp
  refine hK.out _ _ (fun h => absurd rfl h) ?_
  clear hK K
  refine y0f (by kernel_rfl) ?_ _
  have HKF := xhd (HK4.out.trans HZb4.out)
  go_wp2_with fail
  go_ret
  exact ⟨rfl, HKF.out⟩
open Go.ChangeShapes Go.WideShapes Go.Deep
section
variable {H : Type} {enc : TypeId × Value → H} {P : Program} {w : World} {base : Nat} {held : Bool}
theorem cells_of {t : TypeId} {fs : Array Field} {ks : List FK} {fuel : Nat} {cs : List Value} {x : DataW H × List MemPlace} (ht : P.underlying t = some (.struct fs))
  (hone : oneCellFields P fs = true) (hC : P.cellsOf t = fs.size) (hfit : y3u P ks fs.toList) (h : DataW.trod enc P w base (fun _ => true) held fuel t cs = some x) :
  cs.length = ks.length ∧ ∀ (j : Nat) (k : FK), ks[j]? = some k → ∃ v, cs[j]? = some v ∧ k.ok w v := by
 obtain ⟨hlen, hget⟩ := y2s hfit
 have hsz : ks.length = fs.size := by simpa using hlen
 obtain ⟨ys, n', _, _, hcl', hyl, hfields⟩ := DataW.trod_struct ht h
 refine ⟨by omega, fun j k hk => ?_⟩
 obtain ⟨f, hf, hfk⟩ := hget j k hk
 have hf' : fs[j]? = some f := by rw [← Array.getElem?_toList]; exact hf
 have hjl : j < fs.size := (Array.getElem?_eq_some_iff.1 hf').1
 have h1 := hfields j f hf'
 obtain ⟨ho, hk1⟩ := hone_of hone j f hf'
 rw [ho, hk1] at h1
 have hone' : (cs.drop j).take 1 = [cs[j]'(by omega)] := by
  rw [List.drop_eq_getElem_cons (by omega)]
  rfl
 rw [hone', List.getElem?_eq_getElem (show j < ys.length by omega)] at h1
 exact ⟨cs[j]'(by omega), List.getElem?_eq_getElem (by omega), FK.read hfk h1⟩
end
theorem config_of {H : Type} {enc : TypeId × Value → H} {w : World} {base : Nat} {held : Bool} {fuel : Nat} {cs : List Value} {x : DataW H × List MemPlace}
  (h : DataW.trod enc Tryz.prog w base (fun _ => true) held fuel 25 cs = some x) :
  ∃ (c : Pure.Cfg) (nm sc : ByteArray), cs = y07 c nm sc ∧ nm.data.toList = c.name ∧ sc.data.toList = c.secret ∧ c.accm < 4294967296 := by
 obtain ⟨hl, hk⟩ := cells_of (ks := [.bool, .str, .str, .int .i64, .bool, .bool, .int .u32, .int .i64, .bool, .int .i64, .bool, .bool, .bool, .bool, .bool, .int .i64, .int .i64, .int .i64]) Tryz.underlying25 (by kernel_rfl) (by kernel_rfl)
  ⟨Tryz.underlying4, Tryz.underlying9, Tryz.underlying9, Tryz.underlying3, Tryz.underlying4, Tryz.underlying4, Tryz.underlying23, Tryz.underlying3, Tryz.underlying4, Tryz.underlying3, Tryz.underlying4, Tryz.underlying4, Tryz.underlying4, Tryz.underlying4, Tryz.underlying4, Tryz.underlying3, Tryz.underlying3, Tryz.underlying3, trivial⟩ h
 obtain ⟨_, h0, b0, rfl⟩ := hk 0 _ rfl
 obtain ⟨_, h1, nm, rfl, _⟩ := hk 1 _ rfl
 obtain ⟨_, h2, sc, rfl, _⟩ := hk 2 _ rfl
 obtain ⟨_, h3, n3, rfl, _⟩ := hk 3 _ rfl
 obtain ⟨_, h4, b4, rfl⟩ := hk 4 _ rfl
 obtain ⟨_, h5, b5, rfl⟩ := hk 5 _ rfl
 obtain ⟨_, h6, n6, rfl, w6⟩ := hk 6 _ rfl
 obtain ⟨_, h7, n7, rfl, _⟩ := hk 7 _ rfl
 obtain ⟨_, h8, b8, rfl⟩ := hk 8 _ rfl
 obtain ⟨_, h9, n9, rfl, _⟩ := hk 9 _ rfl
 obtain ⟨_, h10, b10, rfl⟩ := hk 10 _ rfl
 obtain ⟨_, h11, b11, rfl⟩ := hk 11 _ rfl
 obtain ⟨_, h12, b12, rfl⟩ := hk 12 _ rfl
 obtain ⟨_, h13, b13, rfl⟩ := hk 13 _ rfl
 obtain ⟨_, h14, b14, rfl⟩ := hk 14 _ rfl
 obtain ⟨_, h15, n15, rfl, _⟩ := hk 15 _ rfl
 obtain ⟨_, h16, n16, rfl, _⟩ := hk 16 _ rfl
 obtain ⟨_, h17, n17, rfl, _⟩ := hk 17 _ rfl
 obtain ⟨u1, u2⟩ := y6u w6
 obtain ⟨k6, rfl⟩ : ∃ k : Nat, n6 = (k : Int) := ⟨n6.toNat, by omega⟩
 have hl' : cs.length = 18 := hl
 refine ⟨⟨b0, nm.data.toList, sc.data.toList, n3, b4, b5, k6, n7, b8, n9, b10, b11, b12, b13, b14, n15, n16, n17⟩, nm, sc, List.ext_getElem? (fun j => ?_), rfl, rfl, by show k6 < 4294967296; omega⟩
 match j with
 | 0 => exact h0
 | 1 => exact h1
 | 2 => exact h2
 | 3 => exact h3
 | 4 => exact h4
 | 5 => exact h5
 | 6 => exact h6
 | 7 => exact h7
 | 8 => exact h8
 | 9 => exact h9
 | 10 => exact h10
 | 11 => exact h11
 | 12 => exact h12
 | 13 => exact h13
 | 14 => exact h14
 | 15 => exact h15
 | 16 => exact h16
 | 17 => exact h17
 | j + 18 =>
  rw [List.getElem?_eq_none (by omega)]
  rfl
theorem lcpAsks_walk (c0 : Pure.Cfg) (nm0 sc0 : ByteArray) (a1 : Int) (a2 : Option Addr) (len2 cap2 : Nat) (w : World) (E : Env w) (n0 : nm0.data.toList = c0.name) (s0 : sc0.data.toList = c0.secret) (w0 : c0.accm < 4294967296) (w1 : (Lit.int .u32 a1).wf = true) (w2 : y2l w [.int .i64, .row .u8] a2 len2 cap2) :
  Calls Tryz.prog 4 #[cfgV c0 nm0 sc0, .int .u32 a1, .slice a2 len2 cap2] w fun e w' => e = .returned (.bool true) ∧ Below w.heap.size w w' := by
 obtain ⟨b1, c1⟩ := y6u w1
 obtain ⟨m, rfl⟩ : ∃ n : Nat, a1 = (n : Int) := ⟨a1.toNat, by omega⟩
 obtain ⟨ps, _, hp, _⟩ := opts_of w2
 exact (asks14_any c0 nm0 sc0 n0 s0 w0 m (by omega) _ _ ps w E hp).mono fun _ _ ⟨h, k⟩ => ⟨h, k.to_below⟩
end Go.Proofs.YtmgicbckgpdkcaaGreatDoor
