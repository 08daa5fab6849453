/- Package nego: answer. -/
import Derived.Test.YtmgicbckgpdkcaaGreatDoorQ21
namespace Go.Proofs.YtmgicbckgpdkcaaGreatDoor
set_option maxRecDepth 100000
set_option maxHeartbeats 8000000
open Lib renaming hid → xhd
open List renaming setIfInBounds_toArray → xqA, getElem_toArray → xqB, getElem_cons_succ → xqC, getElem_cons_zero → xqD, set_cons_succ → xqE, set_cons_zero → xqF
open Go.RowKit
def AnsTo (w w' : World) (f : NF) (code : Int) (zs : List (Value × Pure.Opt)) (f' : NF) : Prop :=
 (code = 2 ∧ ∃ u, ∃ qs : List (Value × Pure.Opt), f' = { f with given := u } ∧ optsOf qs = optsOf zs ∧ ORow w' (fun b => w.heap.size ≤ b) u qs) ∨ (code = 3 ∧ f' = { f with naks := f.naks + 1 }) ∨ (code ≠ 2 ∧ code ≠ 3 ∧ f' = f)
theorem answer_any (F : Nat → Prop) (g : Nat) (f : NF) (p : Pure.Pkt) (d : Value) (code : Int) (ov : Value) (zs : List (Value × Pure.Opt)) (w : World) (h : NBlk w g f) (hF : ∀ b, F b → b < w.heap.size ∧ b ≠ g) (hx : ORow w F ov zs) (hfx : FewOpts zs) (hnk : f.naks ≤ 1000000) :
  Calls Tryz.prog 162 #[.pointer (some ⟨g, 0, none⟩), causeV p d code ov] w fun e w' => ∃ B cb f', e = .returned (.agg #[.int .i64 code, .int .i64 p.id, .slice B (Pure.options (optsOf zs)).2.length cb]) ∧
   Row w' (fun b => w.heap.size ≤ b) 1 (.slice B (Pure.options (optsOf zs)).2.length cb) (Pure.options (optsOf zs)).2.length (u8s (Pure.options (optsOf zs)).2) ∧ AnsTo w w' f code zs f' ∧ NBlk w' g f' ∧ Keeps (only g) w w' := by
 obtain ⟨X, cx, rfl, _⟩ := hx.form
 obtain ⟨pc, pi, pd⟩ := p
 dsimp only
 have HX := xhd hx
 have HFX := xhd hfx
 have HF := xhd hF
 have HI := xhd npkt_info
 have hgl := h.lt
 obtain ⟨rc, hrc⟩ : ∃ r, r = w.heap.size := ⟨_, rfl⟩
 obtain ⟨ro, hro⟩ : ∃ r, r = rc + 1 := ⟨_, rfl⟩
 go_enter Tryz.func162, Tryz.ntmps162
 go_upto_region 1 with fail
 rw [← hrc, ← hro]
 generalize hw1 : (w.alloc _).alloc _ = w1
 have hk1 : Keeps nobody w w1 := by rw [← hw1]; exact ((Keeps.refl _ w).alloc _).alloc _
 have HC1 := xhd (show Blk w1 rc 180 #[.int .i64 pc, .int .i64 pi, d, .int .i64 code, .slice X zs.length cx] by rw [← hw1, hrc]; exact (Blk.new w _ _).alloc _)
 have HO1 := xhd (show Blk w1 ro 56 #[.int .i64 0, .int .i64 0, .slice none 0 0] by
  rw [← hw1, show ro = (w.alloc (.cells #[.int .i64 pc, .int .i64 pi, d, .int .i64 code, .slice X zs.length cx] 180)).heap.size by rw [hro, hrc]; simp]
  exact Blk.new _ _ _)
 have HN1 := xhd (h.keeps hk1 (fun h => h))
 have HK1 := xhd (show Keeps (only g) w w1 from hk1.mono (fun _ h => h.elim))
 have HKN := xhd hk1
 have HRO := xhd (show w.heap.size < ro by omega)
 have HOG := xhd (show ro ≠ g by omega)
 have HCG := xhd (show rc ≠ g by omega)
 have HW1 := xhd (show w1.heap.size = ro + 1 by rw [← hw1, hro, hrc]; simp)
 have HCP := xhd (copies_any F (.slice X zs.length cx) zs w1 (hx.keeps hk1 (fun _ _ h => h)) hfx.len hfx.data)
 have q3 : w1.cell? ⟨rc, 3, none⟩ = some (.int .i64 code) := by rw [HC1.out.cell]; rfl
 have q4 : w1.cell? ⟨rc, 4, none⟩ = some (.slice X zs.length cx) := by rw [HC1.out.cell]; rfl
 clear hw1 hk1 h hF hx hfx hrc hgl hro
 by_cases h2 : code = 2
 ·have e2 : (code == 2) = true := by rw [beq_iff_eq]; exact h2
  have H2 := xhd h2
  clear h2
  go_wp2_with fail
  refine HCP.out.mono ?_
  rintro e w2 ⟨u, qs, rfl, hqs, hrd⟩
  obtain ⟨A5, c5, rfl⟩ := own_form hrd.own
  have hk2 : Keeps nobody w1 w2 := Keeps.new hrd.below
  have hN2 : Blk w2 g 171 f.list.toArray := HN1.out.keeps hk2 (fun h => h)
  have k11 : w2.cell? ⟨g, 12, none⟩ = some f.given := by rw [hN2.cell]; rfl
  have l11 := hN2.frozen 12
  have KG := (Keeps.refl (only g) w2).put 12 (.slice A5 qs.length c5)
  have HN4 := xhd (show NBlk (w2.setCell ⟨g, 12, none⟩ (.slice A5 qs.length c5)) g { f with given := .slice A5 qs.length c5 } from hN2.set 12 _)
  have HC4 := xhd ((HC1.out.keeps hk2 (fun h => h)).keeps KG HCG.out)
  have HO4 := xhd ((HO1.out.keeps hk2 (fun h => h)).keeps KG HOG.out)
  have HKA := xhd ((HK1.out.trans (hk2.mono (fun _ h => h.elim))).trans KG)
  have HQ4 := xhd (hrd.row.keeps KG (fun b hb e => by have e : b = g := e; have := HN1.out.lt; omega))
  have HQS := xhd hqs
  clear hqs hrd hk2 hN2 KG q3 q4
  go_upto_region 6 with fail
  clear k11 l11
  obtain ⟨w4, hw4⟩ : ∃ w4, w4 = w2.setCell ⟨g, 12, none⟩ (.slice A5 qs.length c5) := ⟨_, rfl⟩
  rw [← hw4] at HC4 HO4 HN4 HKA HQ4 ⊢
  have HKZ := xhd (Keeps.refl nobody w4)
  have HOL := xhd (show ro < w4.heap.size from HO4.out.lt)
  clear hw4
  refine wp_region_Z (fun w' => Blk w' rc 180 #[.int .i64 pc, .int .i64 pi, d, .int .i64 code, .slice X zs.length cx] ∧ Blk w' ro 56 #[.int .i64 0, .int .i64 0, .slice none 0 0]) 9 10 rfl (by kernel_rfl) ⟨HC4.out, HO4.out⟩ (fun hHeld => ?_)
  have HSW := hHeld
  clear hHeld
  have HK0d := xhd (HKZ.out.drew)
  refine wpAnyZ_take (i := 0) rfl (by kernel_rfl) (fun _ _ _ h => h) (Or.inl ⟨by rfl, by intro w hSw; obtain ⟨s0, s1⟩ := hSw; have q0 : w.cell? ⟨rc, 0, none⟩ = some (.int .i64 pc) := by {rw [s0.cell]; rfl}; have q1 : w.cell? ⟨rc, 1, none⟩ = some (.int .i64 pi) := by {rw [s0.cell]; rfl}; have q3 : w.cell? ⟨rc, 3, none⟩ = some (.int .i64 code) := by {rw [s0.cell]; rfl}; have q4 : w.cell? ⟨rc, 4, none⟩ = some (.slice X zs.length cx) := by {rw [s0.cell]; rfl}; go_simp; try with_reducible rfl⟩) HSW.out ?_
  simp only [Act.put, xqA, xqB, xqD, xqE, xqF]
  refine wpAnyZ_take (i := 1) rfl (by kernel_rfl) (fun _ _ _ h => h) (Or.inl ⟨by rfl, by intro w hSw; obtain ⟨s0, s1⟩ := hSw; have q0 : w.cell? ⟨rc, 0, none⟩ = some (.int .i64 pc) := by {rw [s0.cell]; rfl}; have q1 : w.cell? ⟨rc, 1, none⟩ = some (.int .i64 pi) := by {rw [s0.cell]; rfl}; have q3 : w.cell? ⟨rc, 3, none⟩ = some (.int .i64 code) := by {rw [s0.cell]; rfl}; have q4 : w.cell? ⟨rc, 4, none⟩ = some (.slice X zs.length cx) := by {rw [s0.cell]; rfl}; go_simp; try with_reducible rfl⟩) HSW.out ?_
  simp only [Act.put, xqA, xqB, xqC, xqD, xqE, xqF]
  refine wpAnyZ_take (i := 2) rfl (by kernel_rfl) (fun _ _ _ h => h) (Or.inl ⟨by rfl, by intro w hSw; obtain ⟨s0, s1⟩ := hSw; have q0 : w.cell? ⟨rc, 0, none⟩ = some (.int .i64 pc) := by {rw [s0.cell]; rfl}; have q1 : w.cell? ⟨rc, 1, none⟩ = some (.int .i64 pi) := by {rw [s0.cell]; rfl}; have q3 : w.cell? ⟨rc, 3, none⟩ = some (.int .i64 code) := by {rw [s0.cell]; rfl}; have q4 : w.cell? ⟨rc, 4, none⟩ = some (.slice X zs.length cx) := by {rw [s0.cell]; rfl}; go_simp; try with_reducible rfl⟩) HSW.out ?_
  simp only [Act.put, xqA, xqB, xqC, xqD, xqE, xqF]
  refine wpAnyZ_take (i := 3) rfl (by kernel_rfl) (fun _ _ _ h => h) (Or.inl ⟨by rfl, by intro w hSw; obtain ⟨s0, s1⟩ := hSw; have q0 : w.cell? ⟨rc, 0, none⟩ = some (.int .i64 pc) := by {rw [s0.cell]; rfl}; have q1 : w.cell? ⟨rc, 1, none⟩ = some (.int .i64 pi) := by {rw [s0.cell]; rfl}; have q3 : w.cell? ⟨rc, 3, none⟩ = some (.int .i64 code) := by {rw [s0.cell]; rfl}; have q4 : w.cell? ⟨rc, 4, none⟩ = some (.slice X zs.length cx) := by {rw [s0.cell]; rfl}; go_simp; try with_reducible rfl⟩) HSW.out ?_
  simp only [Act.put, xqA, xqB, xqC, xqD, xqE, xqF]
  refine wpAnyZ_take (i := 4) rfl (by kernel_rfl) (fun _ _ _ h => h) (Or.inl ⟨by rfl, by intro w hSw; obtain ⟨s0, s1⟩ := hSw; have q0 : w.cell? ⟨rc, 0, none⟩ = some (.int .i64 pc) := by {rw [s0.cell]; rfl}; have q1 : w.cell? ⟨rc, 1, none⟩ = some (.int .i64 pi) := by {rw [s0.cell]; rfl}; have q3 : w.cell? ⟨rc, 3, none⟩ = some (.int .i64 code) := by {rw [s0.cell]; rfl}; have q4 : w.cell? ⟨rc, 4, none⟩ = some (.slice X zs.length cx) := by {rw [s0.cell]; rfl}; go_simp; try with_reducible rfl⟩) HSW.out ?_
  simp only [Act.put, xqA, xqB, xqC, xqD, xqE, xqF]
  refine wpAnyZ_take (i := 5) rfl (by kernel_rfl) (fun _ _ _ h => h) (Or.inl ⟨by rfl, by intro w hSw; obtain ⟨s0, s1⟩ := hSw; have q0 : w.cell? ⟨rc, 0, none⟩ = some (.int .i64 pc) := by {rw [s0.cell]; rfl}; have q1 : w.cell? ⟨rc, 1, none⟩ = some (.int .i64 pi) := by {rw [s0.cell]; rfl}; have q3 : w.cell? ⟨rc, 3, none⟩ = some (.int .i64 code) := by {rw [s0.cell]; rfl}; have q4 : w.cell? ⟨rc, 4, none⟩ = some (.slice X zs.length cx) := by {rw [s0.cell]; rfl}; go_simp; try with_reducible rfl⟩) HSW.out ?_
  simp only [Act.put, xqA, xqB, xqC, xqD, xqE, xqF]
  refine wpAnyZ_take (i := 6) rfl (by kernel_rfl) (fun _ _ _ h => h) (Or.inl ⟨by rfl, by intro w hSw; obtain ⟨s0, s1⟩ := hSw; have q0 : w.cell? ⟨rc, 0, none⟩ = some (.int .i64 pc) := by {rw [s0.cell]; rfl}; have q1 : w.cell? ⟨rc, 1, none⟩ = some (.int .i64 pi) := by {rw [s0.cell]; rfl}; have q3 : w.cell? ⟨rc, 3, none⟩ = some (.int .i64 code) := by {rw [s0.cell]; rfl}; have q4 : w.cell? ⟨rc, 4, none⟩ = some (.slice X zs.length cx) := by {rw [s0.cell]; rfl}; go_simp; try with_reducible rfl⟩) HSW.out ?_
  simp only [Act.put, xqA, xqB, xqC, xqD, xqE, xqF]
  refine wpAnyZ_one (i := 7) (by kernel_rfl) rfl (fun K hK => ?_)
  try rw [if_pos (by rfl)]
  go_simp
  refine (bytesOf_any F (.slice X zs.length cx) zs _ (fun b hb => Nat.lt_of_lt_of_le (HF.out b hb).1 (Nat.le_trans HKA.out.size HK0d.out.size)) ((HX.out.keeps HKA.out (fun b hb e => (HF.out b hb).2 e)).keeps HK0d.out (fun _ _ h => h))).mono ?_
  rintro e w5 ⟨B, cb, rfl, hrb, hk5⟩
  have HK5 := xhd (HK0d.out.trans hk5)
  have HRB := xhd (hrb.mono (G := fun b => w4.heap.size ≤ b) (fun b hb => Nat.le_trans HK0d.out.size hb))
  have HS5 := xhd (And.intro (HSW.out.1.keeps hk5 (fun h => h)) (HSW.out.2.keeps hk5 (fun h => h)))
  clear hrb hk5
  refine hK.out _ _ (fun _ => HS5.out) ?_
  clear hK K
  try simp only [Act.put, xqA, Nat.reduceAdd, xqB, xqC, xqD, xqE, xqF]
  refine wpAnyZ_take (i := 8) rfl (by kernel_rfl) (fun _ _ _ h => h) (Or.inl ⟨by rfl, by intro w hSw; obtain ⟨s0, s1⟩ := hSw; have q0 : w.cell? ⟨rc, 0, none⟩ = some (.int .i64 pc) := by {rw [s0.cell]; rfl}; have q1 : w.cell? ⟨rc, 1, none⟩ = some (.int .i64 pi) := by {rw [s0.cell]; rfl}; have q3 : w.cell? ⟨rc, 3, none⟩ = some (.int .i64 code) := by {rw [s0.cell]; rfl}; have q4 : w.cell? ⟨rc, 4, none⟩ = some (.slice X zs.length cx) := by {rw [s0.cell]; rfl}; go_simp; try with_reducible rfl⟩) HS5.out ?_
  simp only [Act.put, xqA, xqB, xqC, xqD, xqE, xqF]
  have hO := HS5.out.2
  have o0 : w5.cell? ⟨ro, 0, none⟩ = some (.int .i64 0) := by rw [hO.cell]; rfl
  have o1 : w5.cell? ⟨ro, 1, none⟩ = some (.int .i64 0) := by rw [hO.cell]; rfl
  have o2 : w5.cell? ⟨ro, 2, none⟩ = some (.slice none 0 0) := by rw [hO.cell]; rfl
  have g0 := hO.frozen 0
  have g1 := hO.frozen 1
  have g2 := hO.frozen 2
  have HZ := xhd (((hO.set 0 (.int .i64 code)).set 1 (.int .i64 pi)).set 2 (.slice B (Pure.options (optsOf zs)).2.length cb))
  have KR := (((Keeps.refl (only ro) w5).put 0 (.int .i64 code)).put 1 (.int .i64 pi)).put 2 (.slice B (Pure.options (optsOf zs)).2.length cb)
  have HN7 := xhd ((HN4.out.keeps HK5.out (fun h => h)).keeps KR (fun e => HOG.out (Eq.symm e)))
  have HRB7 := xhd ((HRB.out.keeps KR (fun b hb e => by have e : b = ro := e; have := HOL.out; omega)).mono (G := fun b => w.heap.size ≤ b) (fun b hb => Nat.le_trans HKA.out.size hb))
  have HK7 := xhd (show Keeps (only g) w _ from (HKA.out.trans (HK5.out.mono (fun _ h => h.elim))).trans' KR (fun i hi hl => by have e : i = ro := hi; have := HRO.out; omega))
  skip
  clear hO
  refine wpAnyZ_one (i := 9) (by kernel_rfl) rfl (fun K hK => ?_)
  go_simp
  refine hK.out _ _ (fun h => absurd rfl h) ?_
  clear hK K
  refine wpAnyZ_done (by kernel_rfl) ?_ _
  have HAN := xhd (show AnsTo w _ f code zs _ from .inl ⟨H2.out, _, qs, rfl, HQS.out, ((HQ4.out.keeps HK5.out (fun _ _ h => h)).keeps KR (fun b hb e => by have e : b = ro := e; have := HW1.out; omega)).mono (fun b hb => by have := HW1.out; have := HRO.out; omega)⟩)
  clear KR
  go_wp2_with fail
  refine bodyPost_ret (results_row1 rfl _ _ ro 56 _ (0, 0) _ rfl HZ.out Tryz.underlying56 rfl (by rw [HI.out]; rfl)) rfl ?_
  exact ⟨B, cb, _, rfl, HRB7.out, HAN.out, HN7.out, HK7.out⟩
 ·have e2 : (code == 2) = false := by rw [beq_eq_false_iff_ne]; exact h2
  by_cases h3 : code = 3
  ·have e3 : (code == 3) = true := by rw [beq_iff_eq]; exact h3
   have H3 := xhd h3
   clear h3 h2
   have hN2 : Blk w1 g 171 f.list.toArray := HN1.out
   have k9 : w1.cell? ⟨g, 10, none⟩ = some (.int .i64 (f.naks : Int)) := by rw [hN2.cell]; rfl
   have l9 := hN2.frozen 10
   have wr9 : wrap64 ((f.naks : Int) + 1) = ((f.naks + 1 : Nat) : Int) := by rw [IntWalk.wrap64_in _ (by omega)]; omega
   have cst : ((f.naks : Int) + 1) = ((f.naks + 1 : Nat) : Int) := by omega
   have KG := (Keeps.refl (only g) w1).put 10 (.int .i64 ((f.naks : Int) + 1))
   have HN4 := xhd (show NBlk (w1.setCell ⟨g, 10, none⟩ (.int .i64 ((f.naks : Int) + 1))) g { f with naks := f.naks + 1 } from hN2.set 10 _)
   have HC4 := xhd (HC1.out.keeps KG HCG.out)
   have HO4 := xhd (HO1.out.keeps KG HOG.out)
   have HKA := xhd (HK1.out.trans KG)
   clear hN2 KG q4 wr9 cst
   go_upto_region 6 with fail
   clear k9 l9 q3
   obtain ⟨w4, hw4⟩ : ∃ w4, w4 = w1.setCell ⟨g, 10, none⟩ (.int .i64 ((f.naks : Int) + 1)) := ⟨_, rfl⟩
   rw [← hw4] at HC4 HO4 HN4 HKA ⊢
   have HKZ := xhd (Keeps.refl nobody w4)
   have HOL := xhd (show ro < w4.heap.size from HO4.out.lt)
   clear hw4
   refine wp_region_Z (fun w' => Blk w' rc 180 #[.int .i64 pc, .int .i64 pi, d, .int .i64 code, .slice X zs.length cx] ∧ Blk w' ro 56 #[.int .i64 0, .int .i64 0, .slice none 0 0]) 9 10 rfl (by kernel_rfl) ⟨HC4.out, HO4.out⟩ (fun hHeld => ?_)
   have HSW := hHeld
   clear hHeld
   have HK0d := xhd (HKZ.out.drew)
   refine wpAnyZ_take (i := 0) rfl (by kernel_rfl) (fun _ _ _ h => h) (Or.inl ⟨by rfl, by intro w hSw; obtain ⟨s0, s1⟩ := hSw; have q0 : w.cell? ⟨rc, 0, none⟩ = some (.int .i64 pc) := by {rw [s0.cell]; rfl}; have q1 : w.cell? ⟨rc, 1, none⟩ = some (.int .i64 pi) := by {rw [s0.cell]; rfl}; have q3 : w.cell? ⟨rc, 3, none⟩ = some (.int .i64 code) := by {rw [s0.cell]; rfl}; have q4 : w.cell? ⟨rc, 4, none⟩ = some (.slice X zs.length cx) := by {rw [s0.cell]; rfl}; go_simp; try with_reducible rfl⟩) HSW.out ?_
   simp only [Act.put, xqA, xqB, xqD, xqE, xqF]
   refine wpAnyZ_take (i := 1) rfl (by kernel_rfl) (fun _ _ _ h => h) (Or.inl ⟨by rfl, by intro w hSw; obtain ⟨s0, s1⟩ := hSw; have q0 : w.cell? ⟨rc, 0, none⟩ = some (.int .i64 pc) := by {rw [s0.cell]; rfl}; have q1 : w.cell? ⟨rc, 1, none⟩ = some (.int .i64 pi) := by {rw [s0.cell]; rfl}; have q3 : w.cell? ⟨rc, 3, none⟩ = some (.int .i64 code) := by {rw [s0.cell]; rfl}; have q4 : w.cell? ⟨rc, 4, none⟩ = some (.slice X zs.length cx) := by {rw [s0.cell]; rfl}; go_simp; try with_reducible rfl⟩) HSW.out ?_
   simp only [Act.put, xqA, xqB, xqC, xqD, xqE, xqF]
   refine wpAnyZ_take (i := 2) rfl (by kernel_rfl) (fun _ _ _ h => h) (Or.inl ⟨by rfl, by intro w hSw; obtain ⟨s0, s1⟩ := hSw; have q0 : w.cell? ⟨rc, 0, none⟩ = some (.int .i64 pc) := by {rw [s0.cell]; rfl}; have q1 : w.cell? ⟨rc, 1, none⟩ = some (.int .i64 pi) := by {rw [s0.cell]; rfl}; have q3 : w.cell? ⟨rc, 3, none⟩ = some (.int .i64 code) := by {rw [s0.cell]; rfl}; have q4 : w.cell? ⟨rc, 4, none⟩ = some (.slice X zs.length cx) := by {rw [s0.cell]; rfl}; go_simp; try with_reducible rfl⟩) HSW.out ?_
   simp only [Act.put, xqA, xqB, xqC, xqD, xqE, xqF]
   refine wpAnyZ_take (i := 3) rfl (by kernel_rfl) (fun _ _ _ h => h) (Or.inl ⟨by rfl, by intro w hSw; obtain ⟨s0, s1⟩ := hSw; have q0 : w.cell? ⟨rc, 0, none⟩ = some (.int .i64 pc) := by {rw [s0.cell]; rfl}; have q1 : w.cell? ⟨rc, 1, none⟩ = some (.int .i64 pi) := by {rw [s0.cell]; rfl}; have q3 : w.cell? ⟨rc, 3, none⟩ = some (.int .i64 code) := by {rw [s0.cell]; rfl}; have q4 : w.cell? ⟨rc, 4, none⟩ = some (.slice X zs.length cx) := by {rw [s0.cell]; rfl}; go_simp; try with_reducible rfl⟩) HSW.out ?_
   simp only [Act.put, xqA, xqB, xqC, xqD, xqE, xqF]
   refine wpAnyZ_take (i := 4) rfl (by kernel_rfl) (fun _ _ _ h => h) (Or.inl ⟨by rfl, by intro w hSw; obtain ⟨s0, s1⟩ := hSw; have q0 : w.cell? ⟨rc, 0, none⟩ = some (.int .i64 pc) := by {rw [s0.cell]; rfl}; have q1 : w.cell? ⟨rc, 1, none⟩ = some (.int .i64 pi) := by {rw [s0.cell]; rfl}; have q3 : w.cell? ⟨rc, 3, none⟩ = some (.int .i64 code) := by {rw [s0.cell]; rfl}; have q4 : w.cell? ⟨rc, 4, none⟩ = some (.slice X zs.length cx) := by {rw [s0.cell]; rfl}; go_simp; try with_reducible rfl⟩) HSW.out ?_
   simp only [Act.put, xqA, xqB, xqC, xqD, xqE, xqF]
   refine wpAnyZ_take (i := 5) rfl (by kernel_rfl) (fun _ _ _ h => h) (Or.inl ⟨by rfl, by intro w hSw; obtain ⟨s0, s1⟩ := hSw; have q0 : w.cell? ⟨rc, 0, none⟩ = some (.int .i64 pc) := by {rw [s0.cell]; rfl}; have q1 : w.cell? ⟨rc, 1, none⟩ = some (.int .i64 pi) := by {rw [s0.cell]; rfl}; have q3 : w.cell? ⟨rc, 3, none⟩ = some (.int .i64 code) := by {rw [s0.cell]; rfl}; have q4 : w.cell? ⟨rc, 4, none⟩ = some (.slice X zs.length cx) := by {rw [s0.cell]; rfl}; go_simp; try with_reducible rfl⟩) HSW.out ?_
   simp only [Act.put, xqA, xqB, xqC, xqD, xqE, xqF]
   refine wpAnyZ_take (i := 6) rfl (by kernel_rfl) (fun _ _ _ h => h) (Or.inl ⟨by rfl, by intro w hSw; obtain ⟨s0, s1⟩ := hSw; have q0 : w.cell? ⟨rc, 0, none⟩ = some (.int .i64 pc) := by {rw [s0.cell]; rfl}; have q1 : w.cell? ⟨rc, 1, none⟩ = some (.int .i64 pi) := by {rw [s0.cell]; rfl}; have q3 : w.cell? ⟨rc, 3, none⟩ = some (.int .i64 code) := by {rw [s0.cell]; rfl}; have q4 : w.cell? ⟨rc, 4, none⟩ = some (.slice X zs.length cx) := by {rw [s0.cell]; rfl}; go_simp; try with_reducible rfl⟩) HSW.out ?_
   simp only [Act.put, xqA, xqB, xqC, xqD, xqE, xqF]
   refine wpAnyZ_one (i := 7) (by kernel_rfl) rfl (fun K hK => ?_)
   try rw [if_pos (by rfl)]
   go_simp
   refine (bytesOf_any F (.slice X zs.length cx) zs _ (fun b hb => Nat.lt_of_lt_of_le (HF.out b hb).1 (Nat.le_trans HKA.out.size HK0d.out.size)) ((HX.out.keeps HKA.out (fun b hb e => (HF.out b hb).2 e)).keeps HK0d.out (fun _ _ h => h))).mono ?_
   rintro e w5 ⟨B, cb, rfl, hrb, hk5⟩
   have HK5 := xhd (HK0d.out.trans hk5)
   have HRB := xhd (hrb.mono (G := fun b => w4.heap.size ≤ b) (fun b hb => Nat.le_trans HK0d.out.size hb))
   have HS5 := xhd (And.intro (HSW.out.1.keeps hk5 (fun h => h)) (HSW.out.2.keeps hk5 (fun h => h)))
   clear hrb hk5
   refine hK.out _ _ (fun _ => HS5.out) ?_
   clear hK K
   try simp only [Act.put, xqA, Nat.reduceAdd, xqB, xqC, xqD, xqE, xqF]
   refine wpAnyZ_take (i := 8) rfl (by kernel_rfl) (fun _ _ _ h => h) (Or.inl ⟨by rfl, by intro w hSw; obtain ⟨s0, s1⟩ := hSw; have q0 : w.cell? ⟨rc, 0, none⟩ = some (.int .i64 pc) := by {rw [s0.cell]; rfl}; have q1 : w.cell? ⟨rc, 1, none⟩ = some (.int .i64 pi) := by {rw [s0.cell]; rfl}; have q3 : w.cell? ⟨rc, 3, none⟩ = some (.int .i64 code) := by {rw [s0.cell]; rfl}; have q4 : w.cell? ⟨rc, 4, none⟩ = some (.slice X zs.length cx) := by {rw [s0.cell]; rfl}; go_simp; try with_reducible rfl⟩) HS5.out ?_
   simp only [Act.put, xqA, xqB, xqC, xqD, xqE, xqF]
   have hO := HS5.out.2
   have o0 : w5.cell? ⟨ro, 0, none⟩ = some (.int .i64 0) := by rw [hO.cell]; rfl
   have o1 : w5.cell? ⟨ro, 1, none⟩ = some (.int .i64 0) := by rw [hO.cell]; rfl
   have o2 : w5.cell? ⟨ro, 2, none⟩ = some (.slice none 0 0) := by rw [hO.cell]; rfl
   have g0 := hO.frozen 0
   have g1 := hO.frozen 1
   have g2 := hO.frozen 2
   have HZ := xhd (((hO.set 0 (.int .i64 code)).set 1 (.int .i64 pi)).set 2 (.slice B (Pure.options (optsOf zs)).2.length cb))
   have KR := (((Keeps.refl (only ro) w5).put 0 (.int .i64 code)).put 1 (.int .i64 pi)).put 2 (.slice B (Pure.options (optsOf zs)).2.length cb)
   have HN7 := xhd ((HN4.out.keeps HK5.out (fun h => h)).keeps KR (fun e => HOG.out (Eq.symm e)))
   have HRB7 := xhd ((HRB.out.keeps KR (fun b hb e => by have e : b = ro := e; have := HOL.out; omega)).mono (G := fun b => w.heap.size ≤ b) (fun b hb => Nat.le_trans HKA.out.size hb))
   have HK7 := xhd (show Keeps (only g) w _ from (HKA.out.trans (HK5.out.mono (fun _ h => h.elim))).trans' KR (fun i hi hl => by have e : i = ro := hi; have := HRO.out; omega))
   skip
   clear hO
   refine wpAnyZ_one (i := 9) (by kernel_rfl) rfl (fun K hK => ?_)
   go_simp
   refine hK.out _ _ (fun h => absurd rfl h) ?_
   clear hK K
   refine wpAnyZ_done (by kernel_rfl) ?_ _
   have HAN := xhd (fun W => show AnsTo w W f code zs { f with naks := f.naks + 1 } from .inr (.inl ⟨H3.out, rfl⟩))
   clear KR
   go_wp2_with fail
   refine bodyPost_ret (results_row1 rfl _ _ ro 56 _ (0, 0) _ rfl HZ.out Tryz.underlying56 rfl (by rw [HI.out]; rfl)) rfl ?_
   exact ⟨B, cb, _, rfl, HRB7.out, HAN.out _, HN7.out, HK7.out⟩
  ·have e3 : (code == 3) = false := by rw [beq_eq_false_iff_ne]; exact h3
   have H23 := xhd (And.intro h2 h3)
   clear h2 h3
   go_upto_region 6 with fail
   have HN4 := xhd HN1.out
   have HC4 := xhd HC1.out
   have HO4 := xhd HO1.out
   have HKA := xhd HK1.out
   clear q3 q4 HN1 HC1 HO1 HK1
   obtain ⟨w4, hw4⟩ : ∃ w4, w4 = w1 := ⟨_, rfl⟩
   rw [← hw4] at HC4 HO4 HN4 HKA ⊢
   have HKZ := xhd (Keeps.refl nobody w4)
   have HOL := xhd (show ro < w4.heap.size from HO4.out.lt)
   clear hw4
   refine wp_region_Z (fun w' => Blk w' rc 180 #[.int .i64 pc, .int .i64 pi, d, .int .i64 code, .slice X zs.length cx] ∧ Blk w' ro 56 #[.int .i64 0, .int .i64 0, .slice none 0 0]) 9 10 rfl (by kernel_rfl) ⟨HC4.out, HO4.out⟩ (fun hHeld => ?_)
   have HSW := hHeld
   clear hHeld
   have HK0d := xhd (HKZ.out.drew)
   refine wpAnyZ_take (i := 0) rfl (by kernel_rfl) (fun _ _ _ h => h) (Or.inl ⟨by rfl, by intro w hSw; obtain ⟨s0, s1⟩ := hSw; have q0 : w.cell? ⟨rc, 0, none⟩ = some (.int .i64 pc) := by {rw [s0.cell]; rfl}; have q1 : w.cell? ⟨rc, 1, none⟩ = some (.int .i64 pi) := by {rw [s0.cell]; rfl}; have q3 : w.cell? ⟨rc, 3, none⟩ = some (.int .i64 code) := by {rw [s0.cell]; rfl}; have q4 : w.cell? ⟨rc, 4, none⟩ = some (.slice X zs.length cx) := by {rw [s0.cell]; rfl}; go_simp; try with_reducible rfl⟩) HSW.out ?_
   simp only [Act.put, xqA, xqB, xqD, xqE, xqF]
   refine wpAnyZ_take (i := 1) rfl (by kernel_rfl) (fun _ _ _ h => h) (Or.inl ⟨by rfl, by intro w hSw; obtain ⟨s0, s1⟩ := hSw; have q0 : w.cell? ⟨rc, 0, none⟩ = some (.int .i64 pc) := by {rw [s0.cell]; rfl}; have q1 : w.cell? ⟨rc, 1, none⟩ = some (.int .i64 pi) := by {rw [s0.cell]; rfl}; have q3 : w.cell? ⟨rc, 3, none⟩ = some (.int .i64 code) := by {rw [s0.cell]; rfl}; have q4 : w.cell? ⟨rc, 4, none⟩ = some (.slice X zs.length cx) := by {rw [s0.cell]; rfl}; go_simp; try with_reducible rfl⟩) HSW.out ?_
   simp only [Act.put, xqA, xqB, xqC, xqD, xqE, xqF]
   refine wpAnyZ_take (i := 2) rfl (by kernel_rfl) (fun _ _ _ h => h) (Or.inl ⟨by rfl, by intro w hSw; obtain ⟨s0, s1⟩ := hSw; have q0 : w.cell? ⟨rc, 0, none⟩ = some (.int .i64 pc) := by {rw [s0.cell]; rfl}; have q1 : w.cell? ⟨rc, 1, none⟩ = some (.int .i64 pi) := by {rw [s0.cell]; rfl}; have q3 : w.cell? ⟨rc, 3, none⟩ = some (.int .i64 code) := by {rw [s0.cell]; rfl}; have q4 : w.cell? ⟨rc, 4, none⟩ = some (.slice X zs.length cx) := by {rw [s0.cell]; rfl}; go_simp; try with_reducible rfl⟩) HSW.out ?_
   simp only [Act.put, xqA, xqB, xqC, xqD, xqE, xqF]
   refine wpAnyZ_take (i := 3) rfl (by kernel_rfl) (fun _ _ _ h => h) (Or.inl ⟨by rfl, by intro w hSw; obtain ⟨s0, s1⟩ := hSw; have q0 : w.cell? ⟨rc, 0, none⟩ = some (.int .i64 pc) := by {rw [s0.cell]; rfl}; have q1 : w.cell? ⟨rc, 1, none⟩ = some (.int .i64 pi) := by {rw [s0.cell]; rfl}; have q3 : w.cell? ⟨rc, 3, none⟩ = some (.int .i64 code) := by {rw [s0.cell]; rfl}; have q4 : w.cell? ⟨rc, 4, none⟩ = some (.slice X zs.length cx) := by {rw [s0.cell]; rfl}; go_simp; try with_reducible rfl⟩) HSW.out ?_
   simp only [Act.put, xqA, xqB, xqC, xqD, xqE, xqF]
   refine wpAnyZ_take (i := 4) rfl (by kernel_rfl) (fun _ _ _ h => h) (Or.inl ⟨by rfl, by intro w hSw; obtain ⟨s0, s1⟩ := hSw; have q0 : w.cell? ⟨rc, 0, none⟩ = some (.int .i64 pc) := by {rw [s0.cell]; rfl}; have q1 : w.cell? ⟨rc, 1, none⟩ = some (.int .i64 pi) := by {rw [s0.cell]; rfl}; have q3 : w.cell? ⟨rc, 3, none⟩ = some (.int .i64 code) := by {rw [s0.cell]; rfl}; have q4 : w.cell? ⟨rc, 4, none⟩ = some (.slice X zs.length cx) := by {rw [s0.cell]; rfl}; go_simp; try with_reducible rfl⟩) HSW.out ?_
   simp only [Act.put, xqA, xqB, xqC, xqD, xqE, xqF]
   refine wpAnyZ_take (i := 5) rfl (by kernel_rfl) (fun _ _ _ h => h) (Or.inl ⟨by rfl, by intro w hSw; obtain ⟨s0, s1⟩ := hSw; have q0 : w.cell? ⟨rc, 0, none⟩ = some (.int .i64 pc) := by {rw [s0.cell]; rfl}; have q1 : w.cell? ⟨rc, 1, none⟩ = some (.int .i64 pi) := by {rw [s0.cell]; rfl}; have q3 : w.cell? ⟨rc, 3, none⟩ = some (.int .i64 code) := by {rw [s0.cell]; rfl}; have q4 : w.cell? ⟨rc, 4, none⟩ = some (.slice X zs.length cx) := by {rw [s0.cell]; rfl}; go_simp; try with_reducible rfl⟩) HSW.out ?_
   simp only [Act.put, xqA, xqB, xqC, xqD, xqE, xqF]
   refine wpAnyZ_take (i := 6) rfl (by kernel_rfl) (fun _ _ _ h => h) (Or.inl ⟨by rfl, by intro w hSw; obtain ⟨s0, s1⟩ := hSw; have q0 : w.cell? ⟨rc, 0, none⟩ = some (.int .i64 pc) := by {rw [s0.cell]; rfl}; have q1 : w.cell? ⟨rc, 1, none⟩ = some (.int .i64 pi) := by {rw [s0.cell]; rfl}; have q3 : w.cell? ⟨rc, 3, none⟩ = some (.int .i64 code) := by {rw [s0.cell]; rfl}; have q4 : w.cell? ⟨rc, 4, none⟩ = some (.slice X zs.length cx) := by {rw [s0.cell]; rfl}; go_simp; try with_reducible rfl⟩) HSW.out ?_
   simp only [Act.put, xqA, xqB, xqC, xqD, xqE, xqF]
   refine wpAnyZ_one (i := 7) (by kernel_rfl) rfl (fun K hK => ?_)
   try rw [if_pos (by rfl)]
   go_simp
   refine (bytesOf_any F (.slice X zs.length cx) zs _ (fun b hb => Nat.lt_of_lt_of_le (HF.out b hb).1 (Nat.le_trans HKA.out.size HK0d.out.size)) ((HX.out.keeps HKA.out (fun b hb e => (HF.out b hb).2 e)).keeps HK0d.out (fun _ _ h => h))).mono ?_
   rintro e w5 ⟨B, cb, rfl, hrb, hk5⟩
   have HK5 := xhd (HK0d.out.trans hk5)
   have HRB := xhd (hrb.mono (G := fun b => w4.heap.size ≤ b) (fun b hb => Nat.le_trans HK0d.out.size hb))
   have HS5 := xhd (And.intro (HSW.out.1.keeps hk5 (fun h => h)) (HSW.out.2.keeps hk5 (fun h => h)))
   clear hrb hk5
   refine hK.out _ _ (fun _ => HS5.out) ?_
   clear hK K
   try simp only [Act.put, xqA, Nat.reduceAdd, xqB, xqC, xqD, xqE, xqF]
   refine wpAnyZ_take (i := 8) rfl (by kernel_rfl) (fun _ _ _ h => h) (Or.inl ⟨by rfl, by intro w hSw; obtain ⟨s0, s1⟩ := hSw; have q0 : w.cell? ⟨rc, 0, none⟩ = some (.int .i64 pc) := by {rw [s0.cell]; rfl}; have q1 : w.cell? ⟨rc, 1, none⟩ = some (.int .i64 pi) := by {rw [s0.cell]; rfl}; have q3 : w.cell? ⟨rc, 3, none⟩ = some (.int .i64 code) := by {rw [s0.cell]; rfl}; have q4 : w.cell? ⟨rc, 4, none⟩ = some (.slice X zs.length cx) := by {rw [s0.cell]; rfl}; go_simp; try with_reducible rfl⟩) HS5.out ?_
   simp only [Act.put, xqA, xqB, xqC, xqD, xqE, xqF]
   have hO := HS5.out.2
   have o0 : w5.cell? ⟨ro, 0, none⟩ = some (.int .i64 0) := by rw [hO.cell]; rfl
   have o1 : w5.cell? ⟨ro, 1, none⟩ = some (.int .i64 0) := by rw [hO.cell]; rfl
   have o2 : w5.cell? ⟨ro, 2, none⟩ = some (.slice none 0 0) := by rw [hO.cell]; rfl
   have g0 := hO.frozen 0
   have g1 := hO.frozen 1
   have g2 := hO.frozen 2
   have HZ := xhd (((hO.set 0 (.int .i64 code)).set 1 (.int .i64 pi)).set 2 (.slice B (Pure.options (optsOf zs)).2.length cb))
   have KR := (((Keeps.refl (only ro) w5).put 0 (.int .i64 code)).put 1 (.int .i64 pi)).put 2 (.slice B (Pure.options (optsOf zs)).2.length cb)
   have HN7 := xhd ((HN4.out.keeps HK5.out (fun h => h)).keeps KR (fun e => HOG.out (Eq.symm e)))
   have HRB7 := xhd ((HRB.out.keeps KR (fun b hb e => by have e : b = ro := e; have := HOL.out; omega)).mono (G := fun b => w.heap.size ≤ b) (fun b hb => Nat.le_trans HKA.out.size hb))
   have HK7 := xhd (show Keeps (only g) w _ from (HKA.out.trans (HK5.out.mono (fun _ h => h.elim))).trans' KR (fun i hi hl => by have e : i = ro := hi; have := HRO.out; omega))
   skip
   clear hO
   refine wpAnyZ_one (i := 9) (by kernel_rfl) rfl (fun K hK => ?_)
   go_simp
   refine hK.out _ _ (fun h => absurd rfl h) ?_
   clear hK K
   refine wpAnyZ_done (by kernel_rfl) ?_ _
   have HAN := xhd (fun W => show AnsTo w W f code zs f from .inr (.inr ⟨H23.out.1, H23.out.2, rfl⟩))
   clear KR
   go_wp2_with fail
   refine bodyPost_ret (results_row1 rfl _ _ ro 56 _ (0, 0) _ rfl HZ.out Tryz.underlying56 rfl (by rw [HI.out]; rfl)) rfl ?_
   exact ⟨B, cb, _, rfl, HRB7.out, HAN.out _, HN7.out, HK7.out⟩
end Go.Proofs.YtmgicbckgpdkcaaGreatDoor
