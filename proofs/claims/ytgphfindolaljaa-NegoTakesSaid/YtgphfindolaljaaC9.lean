/- Package nego: answer. -/
import Derived.Test.YtgphfindolaljaaC8
namespace Go.Proofs.Ytgphfindolaljaa
set_option maxRecDepth 100000
set_option maxHeartbeats 8000000
open _root_.Go.Lib renaming hid → xhd
open List renaming setIfInBounds_toArray → xqA, getElem_toArray → xqB, getElem_cons_succ → xqC, getElem_cons_zero → xqD, set_cons_succ → xqE, set_cons_zero → xqF
open Go.RowKit
def AnsTo (w w' : World) (f : NF) (code : Int) (zs : List (Value × Pure.Opt)) (f' : NF) : Prop :=
 (code = 2 ∧ ∃ u, ∃ qs : List (Value × Pure.Opt), f' = { f with given := u } ∧ y01 qs = y01 zs ∧ ORow w' (fun b => w.heap.size ≤ b) u qs) ∨ (code = 3 ∧ f' = { f with naks := f.naks + 1 }) ∨ (code ≠ 2 ∧ code ≠ 3 ∧ f' = f)
theorem y3x (F : Nat → Prop) (g : Nat) (f : NF) (p : Pure.Pkt) (d : Value) (code : Int) (ov : Value) (zs : List (Value × Pure.Opt)) (w : World) (h : NBlk w g f) (hF : ∀ b, F b → b < w.heap.size ∧ b ≠ g) (hx : ORow w F ov zs) (hfx : FewOpts zs) (hnk : f.naks ≤ 1000000) :
  Calls Try.prog 64 #[.pointer (some ⟨g, 0, none⟩), causeV p d code ov] w fun e w' => ∃ B cb f', e = .returned (.agg #[.int .i64 code, .int .i64 p.id, .slice B (Pure.options (y01 zs)).2.length cb]) ∧
   Row w' (fun b => w.heap.size ≤ b) 1 (.slice B (Pure.options (y01 zs)).2.length cb) (Pure.options (y01 zs)).2.length (u8s (Pure.options (y01 zs)).2) ∧ AnsTo w w' f code zs f' ∧ NBlk w' g f' ∧ Keeps (only g) w w' := by
 obtain ⟨X, cx, rfl, _⟩ := hx.form
 obtain ⟨pc, pi, pd⟩ := p
 dsimp only
 have HX := xhd hx
 have HFX := xhd hfx
 have HF := xhd hF
 have HI := xhd y1r
 have hgl := h.lt
 obtain ⟨rc, hrc⟩ : ∃ r, r = w.heap.size := ⟨_, rfl⟩
 obtain ⟨ro, hro⟩ : ∃ r, r = rc + 1 := ⟨_, rfl⟩
 go_enter Try.func64, Try.ntmps64
 go_upto_region 1 with fail
 rw [← hrc, ← hro]
 generalize hw1 : (w.alloc _).alloc _ = w1
 have hk1 : Keeps y02 w w1 := by rw [← hw1]; exact ((Keeps.refl _ w).alloc _).alloc _
 have HC1 := xhd (show Blk w1 rc 88 #[.int .i64 pc, .int .i64 pi, d, .int .i64 code, .slice X zs.length cx] by rw [← hw1, hrc]; exact (Blk.new w _ _).alloc _)
 have HO1 := xhd (show Blk w1 ro 51 #[.int .i64 0, .int .i64 0, .slice none 0 0] by
  rw [← hw1, show ro = (w.alloc (.cells #[.int .i64 pc, .int .i64 pi, d, .int .i64 code, .slice X zs.length cx] 88)).heap.size by rw [hro, hrc]; simp]
  exact Blk.new _ _ _)
 have HN1 := xhd (h.keeps hk1 (fun h => h))
 have HK1 := xhd (show Keeps (only g) w w1 from hk1.mono (fun _ h => h.elim))
 have HKN := xhd hk1
 have HRO := xhd (show w.heap.size < ro by omega)
 have HOG := xhd (show ro ≠ g by omega)
 have HCG := xhd (show rc ≠ g by omega)
 have HW1 := xhd (show w1.heap.size = ro + 1 by rw [← hw1, hro, hrc]; simp)
 have HCP := xhd (y16 F (.slice X zs.length cx) zs w1 (hx.keeps hk1 (fun _ _ h => h)) hfx.len hfx.data)
 have q3 : w1.cell? ⟨rc, 3, none⟩ = some (.int .i64 code) := by rw [HC1.out.cell]; rfl
 have q4 : w1.cell? ⟨rc, 4, none⟩ = some (.slice X zs.length cx) := by rw [HC1.out.cell]; rfl
 clear hw1 hk1 h hF hx hfx hrc hgl hro
 by_cases h2 : code = 2
 ·have e2 : (code == 2) = true := by rw [beq_iff_eq]; exact h2
  have H2 := xhd h2
  clear h2
  go_wp2_with fail
  refine HCP.out.mono ?_
  rintro e w2 ⟨u, qs, rfl, hqs, hrd⟩
  obtain ⟨A5, c5, rfl⟩ := y0b hrd.own
  have hk2 : Keeps y02 w1 w2 := Keeps.new hrd.below
  have hN2 : Blk w2 g 83 f.list.toArray := HN1.out.keeps hk2 (fun h => h)
  have k11 : w2.cell? ⟨g, 12, none⟩ = some f.given := by rw [hN2.cell]; rfl
  have l11 := hN2.frozen 12
  have KG := (Keeps.refl (only g) w2).put 12 (.slice A5 qs.length c5)
  have HN4 := xhd (show NBlk (w2.setCell ⟨g, 12, none⟩ (.slice A5 qs.length c5)) g { f with given := .slice A5 qs.length c5 } from hN2.set 12 _)
  have HC4 := xhd ((HC1.out.keeps hk2 (fun h => h)).keeps KG HCG.out)
  have HO4 := xhd ((HO1.out.keeps hk2 (fun h => h)).keeps KG HOG.out)
  have HKA := xhd ((HK1.out.trans (hk2.mono (fun _ h => h.elim))).trans KG)
  have HQ4 := xhd (hrd.row.keeps KG (fun b hb e => by have e : b = g := e; have := HN1.out.lt; omega))
  have HQS := xhd hqs
  clear hqs hrd hk2 hN2 KG q3 q4
  go_upto_region 6 with fail
  clear k11 l11
  obtain ⟨w4, hw4⟩ : ∃ w4, w4 = w2.setCell ⟨g, 12, none⟩ (.slice A5 qs.length c5) := ⟨_, rfl⟩
  rw [← hw4] at HC4 HO4 HN4 HKA HQ4 ⊢
  have HKZ := xhd (Keeps.refl y02 w4)
  have HOL := xhd (show ro < w4.heap.size from HO4.out.lt)
  clear hw4
  refine y0e (fun w' => Blk w' rc 88 #[.int .i64 pc, .int .i64 pi, d, .int .i64 code, .slice X zs.length cx] ∧ Blk w' ro 51 #[.int .i64 0, .int .i64 0, .slice none 0 0]) 9 10 rfl (by kernel_rfl) ⟨HC4.out, HO4.out⟩ (fun hHeld => ?_)
  have HSW := hHeld
  clear hHeld
  have HK0d := xhd (HKZ.out.drew)
  refine y00 (i := 0) rfl (by kernel_rfl) (fun _ _ _ h => h) (Or.inl ⟨by rfl, by intro w hSw; obtain ⟨s0, s1⟩ := hSw; have q0 : w.cell? ⟨rc, 0, none⟩ = some (.int .i64 pc) := by {rw [s0.cell]; rfl}; have q1 : w.cell? ⟨rc, 1, none⟩ = some (.int .i64 pi) := by {rw [s0.cell]; rfl}; have q3 : w.cell? ⟨rc, 3, none⟩ = some (.int .i64 code) := by {rw [s0.cell]; rfl}; have q4 : w.cell? ⟨rc, 4, none⟩ = some (.slice X zs.length cx) := by {rw [s0.cell]; rfl}; go_simp; try with_reducible rfl⟩) HSW.out ?_
  simp only [Act.put, xqA, xqB, xqD, xqE, xqF]
  refine y00 (i := 1) rfl (by kernel_rfl) (fun _ _ _ h => h) (Or.inl ⟨by rfl, by intro w hSw; obtain ⟨s0, s1⟩ := hSw; have q0 : w.cell? ⟨rc, 0, none⟩ = some (.int .i64 pc) := by {rw [s0.cell]; rfl}; have q1 : w.cell? ⟨rc, 1, none⟩ = some (.int .i64 pi) := by {rw [s0.cell]; rfl}; have q3 : w.cell? ⟨rc, 3, none⟩ = some (.int .i64 code) := by {rw [s0.cell]; rfl}; have q4 : w.cell? ⟨rc, 4, none⟩ = some (.slice X zs.length cx) := by {rw [s0.cell]; rfl}; go_simp; try with_reducible rfl⟩) HSW.out ?_
  simp only [Act.put, xqA, xqB, xqC, xqD, xqE, xqF]
  refine y00 (i := 2) rfl (by kernel_rfl) (fun _ _ _ h => h) (Or.inl ⟨by rfl, by intro w hSw; obtain ⟨s0, s1⟩ := hSw; have q0 : w.cell? ⟨rc, 0, none⟩ = some (.int .i64 pc) := by {rw [s0.cell]; rfl}; have q1 : w.cell? ⟨rc, 1, none⟩ = some (.int .i64 pi) := by {rw [s0.cell]; rfl}; have q3 : w.cell? ⟨rc, 3, none⟩ = some (.int .i64 code) := by {rw [s0.cell]; rfl}; have q4 : w.cell? ⟨rc, 4, none⟩ = some (.slice X zs.length cx) := by {rw [s0.cell]; rfl}; go_simp; try with_reducible rfl⟩) HSW.out ?_
  simp only [Act.put, xqA, xqB, xqC, xqD, xqE, xqF]
  refine y00 (i := 3) rfl (by kernel_rfl) (fun _ _ _ h => h) (Or.inl ⟨by rfl, by intro w hSw; obtain ⟨s0, s1⟩ := hSw; have q0 : w.cell? ⟨rc, 0, none⟩ = some (.int .i64 pc) := by {rw [s0.cell]; rfl}; have q1 : w.cell? ⟨rc, 1, none⟩ = some (.int .i64 pi) := by {rw [s0.cell]; rfl}; have q3 : w.cell? ⟨rc, 3, none⟩ = some (.int .i64 code) := by {rw [s0.cell]; rfl}; have q4 : w.cell? ⟨rc, 4, none⟩ = some (.slice X zs.length cx) := by {rw [s0.cell]; rfl}; go_simp; try with_reducible rfl⟩) HSW.out ?_
  simp only [Act.put, xqA, xqB, xqC, xqD, xqE, xqF]
  refine y00 (i := 4) rfl (by kernel_rfl) (fun _ _ _ h => h) (Or.inl ⟨by rfl, by intro w hSw; obtain ⟨s0, s1⟩ := hSw; have q0 : w.cell? ⟨rc, 0, none⟩ = some (.int .i64 pc) := by {rw [s0.cell]; rfl}; have q1 : w.cell? ⟨rc, 1, none⟩ = some (.int .i64 pi) := by {rw [s0.cell]; rfl}; have q3 : w.cell? ⟨rc, 3, none⟩ = some (.int .i64 code) := by {rw [s0.cell]; rfl}; have q4 : w.cell? ⟨rc, 4, none⟩ = some (.slice X zs.length cx) := by {rw [s0.cell]; rfl}; go_simp; try with_reducible rfl⟩) HSW.out ?_
  simp only [Act.put, xqA, xqB, xqC, xqD, xqE, xqF]
  refine y00 (i := 5) rfl (by kernel_rfl) (fun _ _ _ h => h) (Or.inl ⟨by rfl, by intro w hSw; obtain ⟨s0, s1⟩ := hSw; have q0 : w.cell? ⟨rc, 0, none⟩ = some (.int .i64 pc) := by {rw [s0.cell]; rfl}; have q1 : w.cell? ⟨rc, 1, none⟩ = some (.int .i64 pi) := by {rw [s0.cell]; rfl}; have q3 : w.cell? ⟨rc, 3, none⟩ = some (.int .i64 code) := by {rw [s0.cell]; rfl}; have q4 : w.cell? ⟨rc, 4, none⟩ = some (.slice X zs.length cx) := by {rw [s0.cell]; rfl}; go_simp; try with_reducible rfl⟩) HSW.out ?_
  simp only [Act.put, xqA, xqB, xqC, xqD, xqE, xqF]
  refine y00 (i := 6) rfl (by kernel_rfl) (fun _ _ _ h => h) (Or.inl ⟨by rfl, by intro w hSw; obtain ⟨s0, s1⟩ := hSw; have q0 : w.cell? ⟨rc, 0, none⟩ = some (.int .i64 pc) := by {rw [s0.cell]; rfl}; have q1 : w.cell? ⟨rc, 1, none⟩ = some (.int .i64 pi) := by {rw [s0.cell]; rfl}; have q3 : w.cell? ⟨rc, 3, none⟩ = some (.int .i64 code) := by {rw [s0.cell]; rfl}; have q4 : w.cell? ⟨rc, 4, none⟩ = some (.slice X zs.length cx) := by {rw [s0.cell]; rfl}; go_simp; try with_reducible rfl⟩) HSW.out ?_
  simp only [Act.put, xqA, xqB, xqC, xqD, xqE, xqF]
  refine y05 (i := 7) (by kernel_rfl) rfl (fun K hK => ?_)
  try rw [if_pos (by rfl)]
  go_simp
  refine (y1n F (.slice X zs.length cx) zs _ (fun b hb => Nat.lt_of_lt_of_le (HF.out b hb).1 (Nat.le_trans HKA.out.size HK0d.out.size)) ((HX.out.keeps HKA.out (fun b hb e => (HF.out b hb).2 e)).keeps HK0d.out (fun _ _ h => h))).mono ?_
  rintro e w5 ⟨B, cb, rfl, hrb, hk5⟩
  have HK5 := xhd (HK0d.out.trans hk5)
  have HRB := xhd (hrb.mono (G := fun b => w4.heap.size ≤ b) (fun b hb => Nat.le_trans HK0d.out.size hb))
  have HS5 := xhd (And.intro (HSW.out.1.keeps hk5 (fun h => h)) (HSW.out.2.keeps hk5 (fun h => h)))
  clear hrb hk5
  refine hK.out _ _ (fun _ => HS5.out) ?_
  clear hK K
  try simp only [Act.put, xqA, Nat.reduceAdd, xqB, xqC, xqD, xqE, xqF]
  refine y00 (i := 8) rfl (by kernel_rfl) (fun _ _ _ h => h) (Or.inl ⟨by rfl, by intro w hSw; obtain ⟨s0, s1⟩ := hSw; have q0 : w.cell? ⟨rc, 0, none⟩ = some (.int .i64 pc) := by {rw [s0.cell]; rfl}; have q1 : w.cell? ⟨rc, 1, none⟩ = some (.int .i64 pi) := by {rw [s0.cell]; rfl}; have q3 : w.cell? ⟨rc, 3, none⟩ = some (.int .i64 code) := by {rw [s0.cell]; rfl}; have q4 : w.cell? ⟨rc, 4, none⟩ = some (.slice X zs.length cx) := by {rw [s0.cell]; rfl}; go_simp; try with_reducible rfl⟩) HS5.out ?_
  simp only [Act.put, xqA, xqB, xqC, xqD, xqE, xqF]
  have hO := HS5.out.2
  have o0 : w5.cell? ⟨ro, 0, none⟩ = some (.int .i64 0) := by rw [hO.cell]; rfl
  have o1 : w5.cell? ⟨ro, 1, none⟩ = some (.int .i64 0) := by rw [hO.cell]; rfl
  have o2 : w5.cell? ⟨ro, 2, none⟩ = some (.slice none 0 0) := by rw [hO.cell]; rfl
  have g0 := hO.frozen 0
  have g1 := hO.frozen 1
  have g2 := hO.frozen 2
  have HZ := xhd (((hO.set 0 (.int .i64 code)).set 1 (.int .i64 pi)).set 2 (.slice B (Pure.options (y01 zs)).2.length cb))
  have KR := (((Keeps.refl (only ro) w5).put 0 (.int .i64 code)).put 1 (.int .i64 pi)).put 2 (.slice B (Pure.options (y01 zs)).2.length cb)
  have HN7 := xhd ((HN4.out.keeps HK5.out (fun h => h)).keeps KR (fun e => HOG.out (Eq.symm e)))
  have HRB7 := xhd ((HRB.out.keeps KR (fun b hb e => by have e : b = ro := e; have := HOL.out; omega)).mono (G := fun b => w.heap.size ≤ b) (fun b hb => Nat.le_trans HKA.out.size hb))
  have HK7 := xhd (show Keeps (only g) w _ from (HKA.out.trans (HK5.out.mono (fun _ h => h.elim))).trans' KR (fun i hi hl => by have e : i = ro := hi; have := HRO.out; omega))
  skip
  clear hO
  refine y05 (i := 9) (by kernel_rfl) rfl (fun K hK => ?_)
  go_simp
  refine hK.out _ _ (fun h => absurd rfl h) ?_
  clear hK K
  refine y0d (by kernel_rfl) ?_ _
  have HAN := xhd (show AnsTo w _ f code zs _ from .inl ⟨H2.out, _, qs, rfl, HQS.out, ((HQ4.out.keeps HK5.out (fun _ _ h => h)).keeps KR (fun b hb e => by have e : b = ro := e; have := HW1.out; omega)).mono (fun b hb => by have := HW1.out; have := HRO.out; omega)⟩)
  clear KR
  go_wp2_with fail
  refine bodyPost_ret (y0l rfl _ _ ro 51 _ (0, 0) _ rfl HZ.out Try.underlying51 rfl (by rw [HI.out]; rfl)) rfl ?_
  exact ⟨B, cb, _, rfl, HRB7.out, HAN.out, HN7.out, HK7.out⟩
 ·have e2 : (code == 2) = false := by rw [beq_eq_false_iff_ne]; exact h2
  by_cases h3 : code = 3
  ·have e3 : (code == 3) = true := by rw [beq_iff_eq]; exact h3
   have H3 := xhd h3
   clear h3 h2
   have hN2 : Blk w1 g 83 f.list.toArray := HN1.out
   have k9 : w1.cell? ⟨g, 10, none⟩ = some (.int .i64 (f.naks : Int)) := by rw [hN2.cell]; rfl
   have l9 := hN2.frozen 10
   have wr9 : wrap64 ((f.naks : Int) + 1) = ((f.naks + 1 : Nat) : Int) := by rw [IntWalk.wrap64_in _ (by omega)]; omega
   have cst : ((f.naks : Int) + 1) = ((f.naks + 1 : Nat) : Int) := by omega
   have KG := (Keeps.refl (only g) w1).put 10 (.int .i64 ((f.naks : Int) + 1))
   have HN4 := xhd (show NBlk (w1.setCell ⟨g, 10, none⟩ (.int .i64 ((f.naks : Int) + 1))) g { f with naks := f.naks + 1 } from hN2.set 10 _)
   have HC4 := xhd (HC1.out.keeps KG HCG.out)
   have HO4 := xhd (HO1.out.keeps KG HOG.out)
   have HKA := xhd (HK1.out.trans KG)
   clear hN2 KG q4 wr9 cst
   go_upto_region 6 with fail
   clear k9 l9 q3
   obtain ⟨w4, hw4⟩ : ∃ w4, w4 = w1.setCell ⟨g, 10, none⟩ (.int .i64 ((f.naks : Int) + 1)) := ⟨_, rfl⟩
   rw [← hw4] at HC4 HO4 HN4 HKA ⊢
   have HKZ := xhd (Keeps.refl y02 w4)
   have HOL := xhd (show ro < w4.heap.size from HO4.out.lt)
   clear hw4
   refine y0e (fun w' => Blk w' rc 88 #[.int .i64 pc, .int .i64 pi, d, .int .i64 code, .slice X zs.length cx] ∧ Blk w' ro 51 #[.int .i64 0, .int .i64 0, .slice none 0 0]) 9 10 rfl (by kernel_rfl) ⟨HC4.out, HO4.out⟩ (fun hHeld => ?_)
   have HSW := hHeld
   clear hHeld
   have HK0d := xhd (HKZ.out.drew)
   refine y00 (i := 0) rfl (by kernel_rfl) (fun _ _ _ h => h) (Or.inl ⟨by rfl, by intro w hSw; obtain ⟨s0, s1⟩ := hSw; have q0 : w.cell? ⟨rc, 0, none⟩ = some (.int .i64 pc) := by {rw [s0.cell]; rfl}; have q1 : w.cell? ⟨rc, 1, none⟩ = some (.int .i64 pi) := by {rw [s0.cell]; rfl}; have q3 : w.cell? ⟨rc, 3, none⟩ = some (.int .i64 code) := by {rw [s0.cell]; rfl}; have q4 : w.cell? ⟨rc, 4, none⟩ = some (.slice X zs.length cx) := by {rw [s0.cell]; rfl}; go_simp; try with_reducible rfl⟩) HSW.out ?_
   simp only [Act.put, xqA, xqB, xqD, xqE, xqF]
   refine y00 (i := 1) rfl (by kernel_rfl) (fun _ _ _ h => h) (Or.inl ⟨by rfl, by intro w hSw; obtain ⟨s0, s1⟩ := hSw; have q0 : w.cell? ⟨rc, 0, none⟩ = some (.int .i64 pc) := by {rw [s0.cell]; rfl}; have q1 : w.cell? ⟨rc, 1, none⟩ = some (.int .i64 pi) := by {rw [s0.cell]; rfl}; have q3 : w.cell? ⟨rc, 3, none⟩ = some (.int .i64 code) := by {rw [s0.cell]; rfl}; have q4 : w.cell? ⟨rc, 4, none⟩ = some (.slice X zs.length cx) := by {rw [s0.cell]; rfl}; go_simp; try with_reducible rfl⟩) HSW.out ?_
   simp only [Act.put, xqA, xqB, xqC, xqD, xqE, xqF]
   refine y00 (i := 2) rfl (by kernel_rfl) (fun _ _ _ h => h) (Or.inl ⟨by rfl, by intro w hSw; obtain ⟨s0, s1⟩ := hSw; have q0 : w.cell? ⟨rc, 0, none⟩ = some (.int .i64 pc) := by {rw [s0.cell]; rfl}; have q1 : w.cell? ⟨rc, 1, none⟩ = some (.int .i64 pi) := by {rw [s0.cell]; rfl}; have q3 : w.cell? ⟨rc, 3, none⟩ = some (.int .i64 code) := by {rw [s0.cell]; rfl}; have q4 : w.cell? ⟨rc, 4, none⟩ = some (.slice X zs.length cx) := by {rw [s0.cell]; rfl}; go_simp; try with_reducible rfl⟩) HSW.out ?_
   simp only [Act.put, xqA, xqB, xqC, xqD, xqE, xqF]
   refine y00 (i := 3) rfl (by kernel_rfl) (fun _ _ _ h => h) (Or.inl ⟨by rfl, by intro w hSw; obtain ⟨s0, s1⟩ := hSw; have q0 : w.cell? ⟨rc, 0, none⟩ = some (.int .i64 pc) := by {rw [s0.cell]; rfl}; have q1 : w.cell? ⟨rc, 1, none⟩ = some (.int .i64 pi) := by {rw [s0.cell]; rfl}; have q3 : w.cell? ⟨rc, 3, none⟩ = some (.int .i64 code) := by {rw [s0.cell]; rfl}; have q4 : w.cell? ⟨rc, 4, none⟩ = some (.slice X zs.length cx) := by {rw [s0.cell]; rfl}; go_simp; try with_reducible rfl⟩) HSW.out ?_
   simp only [Act.put, xqA, xqB, xqC, xqD, xqE, xqF]
   refine y00 (i := 4) rfl (by kernel_rfl) (fun _ _ _ h => h) (Or.inl ⟨by rfl, by intro w hSw; obtain ⟨s0, s1⟩ := hSw; have q0 : w.cell? ⟨rc, 0, none⟩ = some (.int .i64 pc) := by {rw [s0.cell]; rfl}; have q1 : w.cell? ⟨rc, 1, none⟩ = some (.int .i64 pi) := by {rw [s0.cell]; rfl}; have q3 : w.cell? ⟨rc, 3, none⟩ = some (.int .i64 code) := by {rw [s0.cell]; rfl}; have q4 : w.cell? ⟨rc, 4, none⟩ = some (.slice X zs.length cx) := by {rw [s0.cell]; rfl}; go_simp; try with_reducible rfl⟩) HSW.out ?_
   simp only [Act.put, xqA, xqB, xqC, xqD, xqE, xqF]
   refine y00 (i := 5) rfl (by kernel_rfl) (fun _ _ _ h => h) (Or.inl ⟨by rfl, by intro w hSw; obtain ⟨s0, s1⟩ := hSw; have q0 : w.cell? ⟨rc, 0, none⟩ = some (.int .i64 pc) := by {rw [s0.cell]; rfl}; have q1 : w.cell? ⟨rc, 1, none⟩ = some (.int .i64 pi) := by {rw [s0.cell]; rfl}; have q3 : w.cell? ⟨rc, 3, none⟩ = some (.int .i64 code) := by {rw [s0.cell]; rfl}; have q4 : w.cell? ⟨rc, 4, none⟩ = some (.slice X zs.length cx) := by {rw [s0.cell]; rfl}; go_simp; try with_reducible rfl⟩) HSW.out ?_
   simp only [Act.put, xqA, xqB, xqC, xqD, xqE, xqF]
   refine y00 (i := 6) rfl (by kernel_rfl) (fun _ _ _ h => h) (Or.inl ⟨by rfl, by intro w hSw; obtain ⟨s0, s1⟩ := hSw; have q0 : w.cell? ⟨rc, 0, none⟩ = some (.int .i64 pc) := by {rw [s0.cell]; rfl}; have q1 : w.cell? ⟨rc, 1, none⟩ = some (.int .i64 pi) := by {rw [s0.cell]; rfl}; have q3 : w.cell? ⟨rc, 3, none⟩ = some (.int .i64 code) := by {rw [s0.cell]; rfl}; have q4 : w.cell? ⟨rc, 4, none⟩ = some (.slice X zs.length cx) := by {rw [s0.cell]; rfl}; go_simp; try with_reducible rfl⟩) HSW.out ?_
   simp only [Act.put, xqA, xqB, xqC, xqD, xqE, xqF]
   refine y05 (i := 7) (by kernel_rfl) rfl (fun K hK => ?_)
   try rw [if_pos (by rfl)]
   go_simp
   refine (y1n F (.slice X zs.length cx) zs _ (fun b hb => Nat.lt_of_lt_of_le (HF.out b hb).1 (Nat.le_trans HKA.out.size HK0d.out.size)) ((HX.out.keeps HKA.out (fun b hb e => (HF.out b hb).2 e)).keeps HK0d.out (fun _ _ h => h))).mono ?_
   rintro e w5 ⟨B, cb, rfl, hrb, hk5⟩
   have HK5 := xhd (HK0d.out.trans hk5)
   have HRB := xhd (hrb.mono (G := fun b => w4.heap.size ≤ b) (fun b hb => Nat.le_trans HK0d.out.size hb))
   have HS5 := xhd (And.intro (HSW.out.1.keeps hk5 (fun h => h)) (HSW.out.2.keeps hk5 (fun h => h)))
   clear hrb hk5
   refine hK.out _ _ (fun _ => HS5.out) ?_
   clear hK K
   try simp only [Act.put, xqA, Nat.reduceAdd, xqB, xqC, xqD, xqE, xqF]
   refine y00 (i := 8) rfl (by kernel_rfl) (fun _ _ _ h => h) (Or.inl ⟨by rfl, by intro w hSw; obtain ⟨s0, s1⟩ := hSw; have q0 : w.cell? ⟨rc, 0, none⟩ = some (.int .i64 pc) := by {rw [s0.cell]; rfl}; have q1 : w.cell? ⟨rc, 1, none⟩ = some (.int .i64 pi) := by {rw [s0.cell]; rfl}; have q3 : w.cell? ⟨rc, 3, none⟩ = some (.int .i64 code) := by {rw [s0.cell]; rfl}; have q4 : w.cell? ⟨rc, 4, none⟩ = some (.slice X zs.length cx) := by {rw [s0.cell]; rfl}; go_simp; try with_reducible rfl⟩) HS5.out ?_
   simp only [Act.put, xqA, xqB, xqC, xqD, xqE, xqF]
   have hO := HS5.out.2
   have o0 : w5.cell? ⟨ro, 0, none⟩ = some (.int .i64 0) := by rw [hO.cell]; rfl
   have o1 : w5.cell? ⟨ro, 1, none⟩ = some (.int .i64 0) := by rw [hO.cell]; rfl
   have o2 : w5.cell? ⟨ro, 2, none⟩ = some (.slice none 0 0) := by rw [hO.cell]; rfl
   have g0 := hO.frozen 0
   have g1 := hO.frozen 1
   have g2 := hO.frozen 2
   have HZ := xhd (((hO.set 0 (.int .i64 code)).set 1 (.int .i64 pi)).set 2 (.slice B (Pure.options (y01 zs)).2.length cb))
   have KR := (((Keeps.refl (only ro) w5).put 0 (.int .i64 code)).put 1 (.int .i64 pi)).put 2 (.slice B (Pure.options (y01 zs)).2.length cb)
   have HN7 := xhd ((HN4.out.keeps HK5.out (fun h => h)).keeps KR (fun e => HOG.out (Eq.symm e)))
   have HRB7 := xhd ((HRB.out.keeps KR (fun b hb e => by have e : b = ro := e; have := HOL.out; omega)).mono (G := fun b => w.heap.size ≤ b) (fun b hb => Nat.le_trans HKA.out.size hb))
   have HK7 := xhd (show Keeps (only g) w _ from (HKA.out.trans (HK5.out.mono (fun _ h => h.elim))).trans' KR (fun i hi hl => by have e : i = ro := hi; have := HRO.out; omega))
   skip
   clear hO
   refine y05 (i := 9) (by kernel_rfl) rfl (fun K hK => ?_)
   go_simp
   refine hK.out _ _ (fun h => absurd rfl h) ?_
   clear hK K
   refine y0d (by kernel_rfl) ?_ _
   have HAN := xhd (fun W => show AnsTo w W f code zs { f with naks := f.naks + 1 } from .inr (.inl ⟨H3.out, rfl⟩))
   clear KR
   go_wp2_with fail
   refine bodyPost_ret (y0l rfl _ _ ro 51 _ (0, 0) _ rfl HZ.out Try.underlying51 rfl (by rw [HI.out]; rfl)) rfl ?_
   exact ⟨B, cb, _, rfl, HRB7.out, HAN.out _, HN7.out, HK7.out⟩
  ·have e3 : (code == 3) = false := by rw [beq_eq_false_iff_ne]; exact h3
   have H23 := xhd (And.intro h2 h3)
   clear h2 h3
   go_upto_region 6 with fail
   have HN4 := xhd HN1.out
   have HC4 := xhd HC1.out
   have HO4 := xhd HO1.out
   have HKA := xhd HK1.out
   clear q3 q4 HN1 HC1 HO1 HK1
   obtain ⟨w4, hw4⟩ : ∃ w4, w4 = w1 := ⟨_, rfl⟩
   rw [← hw4] at HC4 HO4 HN4 HKA ⊢
   have HKZ := xhd (Keeps.refl y02 w4)
   have HOL := xhd (show ro < w4.heap.size from HO4.out.lt)
   clear hw4
   refine y0e (fun w' => Blk w' rc 88 #[.int .i64 pc, .int .i64 pi, d, .int .i64 code, .slice X zs.length cx] ∧ Blk w' ro 51 #[.int .i64 0, .int .i64 0, .slice none 0 0]) 9 10 rfl (by kernel_rfl) ⟨HC4.out, HO4.out⟩ (fun hHeld => ?_)
   have HSW := hHeld
   clear hHeld
   have HK0d := xhd (HKZ.out.drew)
   refine y00 (i := 0) rfl (by kernel_rfl) (fun _ _ _ h => h) (Or.inl ⟨by rfl, by intro w hSw; obtain ⟨s0, s1⟩ := hSw; have q0 : w.cell? ⟨rc, 0, none⟩ = some (.int .i64 pc) := by {rw [s0.cell]; rfl}; have q1 : w.cell? ⟨rc, 1, none⟩ = some (.int .i64 pi) := by {rw [s0.cell]; rfl}; have q3 : w.cell? ⟨rc, 3, none⟩ = some (.int .i64 code) := by {rw [s0.cell]; rfl}; have q4 : w.cell? ⟨rc, 4, none⟩ = some (.slice X zs.length cx) := by {rw [s0.cell]; rfl}; go_simp; try with_reducible rfl⟩) HSW.out ?_
   simp only [Act.put, xqA, xqB, xqD, xqE, xqF]
   refine y00 (i := 1) rfl (by kernel_rfl) (fun _ _ _ h => h) (Or.inl ⟨by rfl, by intro w hSw; obtain ⟨s0, s1⟩ := hSw; have q0 : w.cell? ⟨rc, 0, none⟩ = some (.int .i64 pc) := by {rw [s0.cell]; rfl}; have q1 : w.cell? ⟨rc, 1, none⟩ = some (.int .i64 pi) := by {rw [s0.cell]; rfl}; have q3 : w.cell? ⟨rc, 3, none⟩ = some (.int .i64 code) := by {rw [s0.cell]; rfl}; have q4 : w.cell? ⟨rc, 4, none⟩ = some (.slice X zs.length cx) := by {rw [s0.cell]; rfl}; go_simp; try with_reducible rfl⟩) HSW.out ?_
   simp only [Act.put, xqA, xqB, xqC, xqD, xqE, xqF]
   refine y00 (i := 2) rfl (by kernel_rfl) (fun _ _ _ h => h) (Or.inl ⟨by rfl, by intro w hSw; obtain ⟨s0, s1⟩ := hSw; have q0 : w.cell? ⟨rc, 0, none⟩ = some (.int .i64 pc) := by {rw [s0.cell]; rfl}; have q1 : w.cell? ⟨rc, 1, none⟩ = some (.int .i64 pi) := by {rw [s0.cell]; rfl}; have q3 : w.cell? ⟨rc, 3, none⟩ = some (.int .i64 code) := by {rw [s0.cell]; rfl}; have q4 : w.cell? ⟨rc, 4, none⟩ = some (.slice X zs.length cx) := by {rw [s0.cell]; rfl}; go_simp; try with_reducible rfl⟩) HSW.out ?_
   simp only [Act.put, xqA, xqB, xqC, xqD, xqE, xqF]
   refine y00 (i := 3) rfl (by kernel_rfl) (fun _ _ _ h => h) (Or.inl ⟨by rfl, by intro w hSw; obtain ⟨s0, s1⟩ := hSw; have q0 : w.cell? ⟨rc, 0, none⟩ = some (.int .i64 pc) := by {rw [s0.cell]; rfl}; have q1 : w.cell? ⟨rc, 1, none⟩ = some (.int .i64 pi) := by {rw [s0.cell]; rfl}; have q3 : w.cell? ⟨rc, 3, none⟩ = some (.int .i64 code) := by {rw [s0.cell]; rfl}; have q4 : w.cell? ⟨rc, 4, none⟩ = some (.slice X zs.length cx) := by {rw [s0.cell]; rfl}; go_simp; try with_reducible rfl⟩) HSW.out ?_
   simp only [Act.put, xqA, xqB, xqC, xqD, xqE, xqF]
   refine y00 (i := 4) rfl (by kernel_rfl) (fun _ _ _ h => h) (Or.inl ⟨by rfl, by intro w hSw; obtain ⟨s0, s1⟩ := hSw; have q0 : w.cell? ⟨rc, 0, none⟩ = some (.int .i64 pc) := by {rw [s0.cell]; rfl}; have q1 : w.cell? ⟨rc, 1, none⟩ = some (.int .i64 pi) := by {rw [s0.cell]; rfl}; have q3 : w.cell? ⟨rc, 3, none⟩ = some (.int .i64 code) := by {rw [s0.cell]; rfl}; have q4 : w.cell? ⟨rc, 4, none⟩ = some (.slice X zs.length cx) := by {rw [s0.cell]; rfl}; go_simp; try with_reducible rfl⟩) HSW.out ?_
   simp only [Act.put, xqA, xqB, xqC, xqD, xqE, xqF]
   refine y00 (i := 5) rfl (by kernel_rfl) (fun _ _ _ h => h) (Or.inl ⟨by rfl, by intro w hSw; obtain ⟨s0, s1⟩ := hSw; have q0 : w.cell? ⟨rc, 0, none⟩ = some (.int .i64 pc) := by {rw [s0.cell]; rfl}; have q1 : w.cell? ⟨rc, 1, none⟩ = some (.int .i64 pi) := by {rw [s0.cell]; rfl}; have q3 : w.cell? ⟨rc, 3, none⟩ = some (.int .i64 code) := by {rw [s0.cell]; rfl}; have q4 : w.cell? ⟨rc, 4, none⟩ = some (.slice X zs.length cx) := by {rw [s0.cell]; rfl}; go_simp; try with_reducible rfl⟩) HSW.out ?_
   simp only [Act.put, xqA, xqB, xqC, xqD, xqE, xqF]
   refine y00 (i := 6) rfl (by kernel_rfl) (fun _ _ _ h => h) (Or.inl ⟨by rfl, by intro w hSw; obtain ⟨s0, s1⟩ := hSw; have q0 : w.cell? ⟨rc, 0, none⟩ = some (.int .i64 pc) := by {rw [s0.cell]; rfl}; have q1 : w.cell? ⟨rc, 1, none⟩ = some (.int .i64 pi) := by {rw [s0.cell]; rfl}; have q3 : w.cell? ⟨rc, 3, none⟩ = some (.int .i64 code) := by {rw [s0.cell]; rfl}; have q4 : w.cell? ⟨rc, 4, none⟩ = some (.slice X zs.length cx) := by {rw [s0.cell]; rfl}; go_simp; try with_reducible rfl⟩) HSW.out ?_
   simp only [Act.put, xqA, xqB, xqC, xqD, xqE, xqF]
   refine y05 (i := 7) (by kernel_rfl) rfl (fun K hK => ?_)
   try rw [if_pos (by rfl)]
   go_simp
   refine (y1n F (.slice X zs.length cx) zs _ (fun b hb => Nat.lt_of_lt_of_le (HF.out b hb).1 (Nat.le_trans HKA.out.size HK0d.out.size)) ((HX.out.keeps HKA.out (fun b hb e => (HF.out b hb).2 e)).keeps HK0d.out (fun _ _ h => h))).mono ?_
   rintro e w5 ⟨B, cb, rfl, hrb, hk5⟩
   have HK5 := xhd (HK0d.out.trans hk5)
   have HRB := xhd (hrb.mono (G := fun b => w4.heap.size ≤ b) (fun b hb => Nat.le_trans HK0d.out.size hb))
   have HS5 := xhd (And.intro (HSW.out.1.keeps hk5 (fun h => h)) (HSW.out.2.keeps hk5 (fun h => h)))
   clear hrb hk5
   refine hK.out _ _ (fun _ => HS5.out) ?_
   clear hK K
   try simp only [Act.put, xqA, Nat.reduceAdd, xqB, xqC, xqD, xqE, xqF]
   refine y00 (i := 8) rfl (by kernel_rfl) (fun _ _ _ h => h) (Or.inl ⟨by rfl, by intro w hSw; obtain ⟨s0, s1⟩ := hSw; have q0 : w.cell? ⟨rc, 0, none⟩ = some (.int .i64 pc) := by {rw [s0.cell]; rfl}; have q1 : w.cell? ⟨rc, 1, none⟩ = some (.int .i64 pi) := by {rw [s0.cell]; rfl}; have q3 : w.cell? ⟨rc, 3, none⟩ = some (.int .i64 code) := by {rw [s0.cell]; rfl}; have q4 : w.cell? ⟨rc, 4, none⟩ = some (.slice X zs.length cx) := by {rw [s0.cell]; rfl}; go_simp; try with_reducible rfl⟩) HS5.out ?_
   simp only [Act.put, xqA, xqB, xqC, xqD, xqE, xqF]
   have hO := HS5.out.2
   have o0 : w5.cell? ⟨ro, 0, none⟩ = some (.int .i64 0) := by rw [hO.cell]; rfl
   have o1 : w5.cell? ⟨ro, 1, none⟩ = some (.int .i64 0) := by rw [hO.cell]; rfl
   have o2 : w5.cell? ⟨ro, 2, none⟩ = some (.slice none 0 0) := by rw [hO.cell]; rfl
   have g0 := hO.frozen 0
   have g1 := hO.frozen 1
   have g2 := hO.frozen 2
   have HZ := xhd (((hO.set 0 (.int .i64 code)).set 1 (.int .i64 pi)).set 2 (.slice B (Pure.options (y01 zs)).2.length cb))
   have KR := (((Keeps.refl (only ro) w5).put 0 (.int .i64 code)).put 1 (.int .i64 pi)).put 2 (.slice B (Pure.options (y01 zs)).2.length cb)
   have HN7 := xhd ((HN4.out.keeps HK5.out (fun h => h)).keeps KR (fun e => HOG.out (Eq.symm e)))
   have HRB7 := xhd ((HRB.out.keeps KR (fun b hb e => by have e : b = ro := e; have := HOL.out; omega)).mono (G := fun b => w.heap.size ≤ b) (fun b hb => Nat.le_trans HKA.out.size hb))
   have HK7 := xhd (show Keeps (only g) w _ from (HKA.out.trans (HK5.out.mono (fun _ h => h.elim))).trans' KR (fun i hi hl => by have e : i = ro := hi; have := HRO.out; omega))
   skip
   clear hO
   refine y05 (i := 9) (by kernel_rfl) rfl (fun K hK => ?_)
   go_simp
   refine hK.out _ _ (fun h => absurd rfl h) ?_
   clear hK K
   refine y0d (by kernel_rfl) ?_ _
   have HAN := xhd (fun W => show AnsTo w W f code zs f from .inr (.inr ⟨H23.out.1, H23.out.2, rfl⟩))
   clear KR
   go_wp2_with fail
   refine bodyPost_ret (y0l rfl _ _ ro 51 _ (0, 0) _ rfl HZ.out Try.underlying51 rfl (by rw [HI.out]; rfl)) rfl ?_
   exact ⟨B, cb, _, rfl, HRB7.out, HAN.out _, HN7.out, HK7.out⟩
abbrev y2l (p : Value × Pure.Pkt) : List Value := [.int .i64 p.2.code, .int .i64 p.2.id, p.1]
abbrev y0p (ps : List (Value × Pure.Pkt)) : List Value := ps.flatMap y2l
theorem y6m (ps : List (Value × Pure.Pkt)) (k j : Nat) (p : Value × Pure.Pkt) (h : ps[k]? = some p) (hj : j < 3) : (y0p ps)[k * 3 + j]? = (y2l p)[j]? := flat_at y2l 3 (fun _ => rfl) ps k j p h hj
structure PRow (w : World) (F : Nat → Prop) (x : Value) (ps : List (Value × Pure.Pkt)) : Prop where
 out : Row w F 3 x ps.length (y0p ps)
 rows : ∀ p ∈ ps, Row w F 1 p.1 p.2.data.length (u8s p.2.data)
theorem PRow.keeps {S F : Nat → Prop} {w w' : World} {x : Value} {ps : List (Value × Pure.Pkt)} (h : PRow w F x ps) (k : Keeps S w w') (hs : ∀ b, F b → ¬ S b) : PRow w' F x ps :=
 ⟨h.out.keeps k hs, fun p hp => (h.rows p hp).keeps k hs⟩
theorem PRow.mono {F G : Nat → Prop} {w : World} {x : Value} {ps : List (Value × Pure.Pkt)} (h : PRow w F x ps) (hG : ∀ b, F b → G b) : PRow w G x ps :=
 ⟨h.out.mono hG, fun p hp => (h.rows p hp).mono hG⟩
theorem PRow.nil (w : World) (F : Nat → Prop) : PRow w F (.slice none 0 0) [] := ⟨Row.nil _ _ _, by simp⟩
theorem PRow.form {w : World} {F : Nat → Prop} {x : Value} {ps : List (Value × Pure.Pkt)} (h : PRow w F x ps) : ∃ A c, x = .slice A ps.length c ∧ ps.length ≤ c := by
 obtain ⟨_, _, A, c, rfl, hc, _⟩ := h.out
 exact ⟨A, c, rfl, hc⟩
theorem PRow.pick {w : World} {F : Nat → Prop} {X : Option Addr} {n cx : Nat} {ps : List (Value × Pure.Pkt)} (h : PRow w F (.slice X n cx) ps) (k : Nat) (hk : k < ps.length) :
  ∃ p o A c q, X = some ⟨p, o, none⟩ ∧ F p ∧ (∀ j u, (y2l (.slice A q.data.length c, q))[j]? = some u → w.cell? ⟨p, o + k * 3 + j, none⟩ = some u) ∧ Row w F 1 (.slice A q.data.length c) q.data.length (u8s q.data) ∧ ps[k]? = some (.slice A q.data.length c, q) := by
 obtain ⟨_, _, A', c', e, _, _, hh⟩ := h.out
 obtain ⟨p, o, rfl, hF, hc⟩ := hh (by omega)
 injection e with e1 _ _
 have hget := List.getElem?_eq_getElem hk
 have hr := h.rows ps[k] (List.getElem_mem hk)
 obtain ⟨A, c, hform, _⟩ := hr.form
 refine ⟨p, o, A, c, ps[k].2, e1, hF, fun j u hu => ?_, by rw [← hform]; exact hr, by rw [hget, ← hform]⟩
 rw [← hform] at hu
 have hj : j < 3 := (List.getElem?_eq_some_iff.1 hu).1
 rw [Nat.add_assoc]
 exact hc (k * 3 + j) u ((y6m ps k j _ hget hj).trans hu)
theorem y89 : (Try.prog.info? 51).map (fun i => (i.zero, i.size, i.bytes)) = some (some (.agg #[.int .i64 0, .int .i64 0, .slice none 0 0]), 3, 40) := by kernel_rfl
structure PSent (w0 w : World) (v : Value) (ps : List (Value × Pure.Pkt)) : Prop where
 own : w.ownsRow w0.heap.size 51 3 v ps.length (y0p ps)
 rows : ∀ p ∈ ps, Row w (fun b => w0.heap.size ≤ b ∧ v.ownBlock ≠ some b ∧ b < w.heap.size) 1 p.1 p.2.data.length (u8s p.2.data)
 size : w0.heap.size ≤ w.heap.size
theorem PSent.keeps {w0 w w' : World} {v : Value} {ps : List (Value × Pure.Pkt)} (h : PSent w0 w v ps) (k : Keeps y02 w w') : PSent w0 w' v ps :=
 ⟨y0f h.own k (fun _ _ h => h), fun p hp => ((h.rows p hp).keeps k (fun _ _ h => h)).mono (fun _ hb => ⟨hb.1, hb.2.1, Nat.lt_of_lt_of_le hb.2.2 k.size⟩), Nat.le_trans h.size k.size⟩
theorem PSent.other {w0 w w' : World} {S : Nat → Prop} {v : Value} {ps : List (Value × Pure.Pkt)} (h : PSent w0 w v ps) (k : Keeps S w w') (hS : ∀ b, S b → b < w0.heap.size) : PSent w0 w' v ps :=
 ⟨y0f h.own k (fun g hg hs => by have := hS g hs; have := y0c h.own g hg; omega), fun p hp => ((h.rows p hp).keeps k (fun b hb hs => by have := hS b hs; omega)).mono (fun _ hb => ⟨hb.1, hb.2.1, Nat.lt_of_lt_of_le hb.2.2 k.size⟩), Nat.le_trans h.size k.size⟩
theorem PSent.far {w0 w w' : World} {g : Nat} {v : Value} {ps : List (Value × Pure.Pkt)} (h : PSent w0 w v ps) (k : Keeps (only g) w w') (hv : v.ownBlock ≠ some g) (hd : ∀ p ∈ ps, Row w (fun b => b ≠ g) 1 p.1 p.2.data.length (u8s p.2.data)) : PSent w0 w' v ps := by
 refine ⟨y0f h.own k (fun q hq e => hv (by have e : q = g := e; rw [← e]; exact hq)), fun p hp => ?_, Nat.le_trans h.size k.size⟩
 obtain ⟨h1, h0, A, c, e, h3, h4, h5⟩ := h.rows p hp
 obtain ⟨_, _, A', c', e', _, _, h5'⟩ := hd p hp
 refine ⟨h1, h0, A, c, e, h3, h4, fun hn => ?_⟩
 obtain ⟨b, off, ea, hb, hc⟩ := h5 hn
 obtain ⟨b', off', ea', hb', _⟩ := h5' hn
 rw [e] at e'
 injection e' with e1 _ _
 rw [ea, ea'] at e1
 injection e1 with e1
 injection e1 with e1 e2
 subst e1
 exact ⟨b, off, ea, ⟨hb.1, hb.2.1, Nat.lt_of_lt_of_le hb.2.2 k.size⟩, fun j u hu => (World.cell?_of_block (w := w) (a := ⟨b, off + j, none⟩) (k.block b hb.2.2 hb')).trans (hc j u hu)⟩
theorem PSent.nil (w : World) : PSent w w (.slice none 0 0) [] := ⟨World.ownsRow_nil _ _ _ _, by simp, Nat.le_refl _⟩
theorem PSent.row {w0 w : World} {v : Value} {ps : List (Value × Pure.Pkt)} (h : PSent w0 w v ps) : PRow w (fun b => w0.heap.size ≤ b ∧ b < w.heap.size) v ps :=
 ⟨(Row.of_own h.own).mono (fun b hb => ⟨y0c h.own b hb, y0i h.own b hb⟩), fun p hp => (h.rows p hp).mono (fun _ hb => ⟨hb.1, hb.2.2⟩)⟩
theorem y1q {S : Nat → Prop} {w w' : World} {b off : Nat} {u : Value} (k : Keeps S w w') (h : w.cell? ⟨b, off, none⟩ = some u) (hb : ¬ S b) : w'.cell? ⟨b, off, none⟩ = some u :=
 (World.cell?_of_block (w := w) (a := ⟨b, off, none⟩) (k.block b (y0n h) hb)).trans h
theorem Row.drew {w : World} {F : Nat → Prop} {size : Nat} {v : Value} {n : Nat} {xs : List Value} (h : Row w F size v n xs) : Row w.drew F size v n xs := h
theorem y66 (ps : List (Value × Pure.Pkt)) (h : ∀ p ∈ ps, p.1.oneCell' = true) : ∀ u ∈ y0p ps, u.oneCell' = true := by
 intro u hu
 obtain ⟨p, hp, hu⟩ := List.mem_flatMap.1 hu
 simp at hu
 rcases hu with rfl | rfl | rfl
 ·rfl
 ·rfl
 ·exact h p hp
section
variable {w0 w : World} {o : Oper} {a : Act} {Q : Exit → Act → World → Prop}
theorem y5n {K : Act → World → Prop} (s x : Operand) (ho : o.op = .call { callee := .builtin .append, args := #[s, x], argTypes := #[46, 46] })
  (v : Value) (qs : List (Value × Pure.Pkt)) (A3 : Option Addr) (c3 : Nat) (p : Pure.Pkt) (hs : a.eval s = v) (hx : a.eval x = .slice (some ⟨w.heap.size, 0, none⟩) 1 1) (hR : PSent w0 w v qs) (hq : qs.length ≤ 1000000)
  (hd : Row w (fun b => w0.heap.size ≤ b ∧ v.ownBlock ≠ some b ∧ b < w.heap.size) 1 (.slice A3 p.data.length c3) p.data.length (u8s p.data))
  (h : ∀ A c w', PSent w0 w' (.slice A (qs.length + 1) c) (qs ++ [(.slice A3 p.data.length c3, p)]) → Keeps (fun b => v.ownBlock = some b) w w' → (∀ b, (Value.slice A (qs.length + 1) c).ownBlock = some b → v.ownBlock = some b ∨ w.heap.size ≤ b) → K (a.put o.dst (.slice A (qs.length + 1) c)) w') :
  o.wp Try.prog a (w.alloc (.cells #[.int .i64 p.code, .int .i64 p.id, .slice A3 p.data.length c3] 51)) K Q := by
 obtain ⟨i0, hi0, hz0, hz1, hz2⟩ := info_parts y89
 obtain ⟨wb, hwb⟩ : ∃ wb, wb = w.alloc (.cells (y0p [(.slice A3 p.data.length c3, p)]).toArray 51) := ⟨_, rfl⟩
 have hwb' : w.alloc (.cells #[.int .i64 p.code, .int .i64 p.id, .slice A3 p.data.length c3] 51) = wb := hwb.symm
 rw [hwb']
 have hkb : Keeps y02 w wb := by rw [hwb]; exact (Keeps.refl _ w).alloc _
 have hbb : Blk wb w.heap.size 51 (y0p [(.slice A3 p.data.length c3, p)]).toArray := by rw [hwb]; exact Blk.new w _ _
 have hrb : Row wb (fun b => b = w.heap.size) 3 (.slice (some ⟨w.heap.size, 0, none⟩) 1 1) 1 (y0p [(.slice A3 p.data.length c3, p)]) := by
  have h := Row.block (F := fun b => b = w.heap.size) (n := 1) (c := 1) (size := 3) hbb rfl rfl (by unfold maxLen; omega) (Nat.le_refl _)
  exact h
 have hownb : wb.ownsRow w0.heap.size 51 3 v qs.length (y0p qs) := y0f hR.own hkb (fun _ _ h => h)
 have hone : ∀ q ∈ ([(.slice A3 p.data.length c3, p)] : List (Value × Pure.Pkt)), q.1.oneCell' = true := by
  intro q hq
  simp at hq
  subst hq
  rfl
 refine y1c s x _ ho w0.heap.size 51 i0 _ 3 40 Try.underlying46 hi0 hz0 hz1 hz2 rfl (by omega) v _ (y0p qs) hs hownb _ _ 1 (y0p [(.slice A3 p.data.length c3, p)]) hx hrb (y66 _ hone) (by unfold maxLen; omega) (by omega) (Nat.le_trans hR.size hkb.size) ?_
 intro v3 w3 hown3 hg3 hat3
 have hcat : y0p qs ++ y0p [(.slice A3 p.data.length c3, p)] = y0p (qs ++ [(.slice A3 p.data.length c3, p)]) := by simp [y0p]
 rw [hcat] at hown3
 have hkw : Keeps (fun b => v.ownBlock = some b) wb w3 := (Keeps.refl _ wb).grown hg3 (fun k hk _ => hk)
 have hwbs : w.heap.size < wb.heap.size := by rw [hwb]; simp
 have hread : PSent w0 w3 v3 (qs ++ [(.slice A3 p.data.length c3, p)]) := by
  refine ⟨by rw [List.length_append]; exact hown3, fun q hq => ?_, Nat.le_trans (Nat.le_trans hR.size hkb.size) hkw.size⟩
  have hrow : Row w (fun b => w0.heap.size ≤ b ∧ v.ownBlock ≠ some b ∧ b < w.heap.size) 1 q.1 q.2.data.length (u8s q.2.data) := by
   rcases List.mem_append.1 hq with hq | hq
   ·exact hR.rows q hq
   ·simp at hq
    subst hq
    exact hd
  have h1 := (hrow.keeps hkb (fun _ _ h => h)).keeps hkw (fun b hb => hb.2.1)
  refine h1.mono (fun b hb => ⟨hb.1, ?_, by have := hkw.size; omega⟩)
  rcases hat3 with e | e
  ·rw [e]; exact hb.2.1
  ·rw [e]; intro h; injection h with h; omega
 obtain ⟨A4, c4, rfl⟩ := y0b hown3
 refine h A4 c4 w3 hread ((hkb.mono (fun _ h => h.elim)).trans hkw) (fun b hb => ?_)
 rcases hat3 with e | e
 ·exact .inl (e ▸ hb)
 ·rw [e] at hb; injection hb with hb; exact .inr (by omega)
end
theorem send_any (go : Nat) (w0 w : World) (sv d : Value) (ps : List (Value × Pure.Pkt)) (p : Pure.Pkt) (up dn st dne : Bool) (hO : Blk w go 48 #[sv, .bool up, .bool dn, .bool st, .bool dne]) (hps : PSent w0 w sv ps) (hgo : go < w0.heap.size) (hq : ps.length ≤ 1000)
  (hd : Row w (fun b => w0.heap.size ≤ b ∧ sv.ownBlock ≠ some b ∧ b < w.heap.size) 1 d p.data.length (u8s p.data)) :
  Calls Try.prog 62 #[.pointer (some ⟨go, 0, none⟩), pktV p d] w fun e w' => e = .returned (.tuple #[]) ∧ ∃ sv', Blk w' go 48 #[sv', .bool up, .bool dn, .bool st, .bool dne] ∧ PSent w0 w' sv' (ps ++ [(d, p)]) ∧ (∀ b, sv'.ownBlock = some b → sv.ownBlock = some b ∨ w.heap.size ≤ b) ∧ Keeps (fun b => b = go ∨ sv.ownBlock = some b) w w' := by
 obtain ⟨A2, c2, rfl⟩ := y0b hps.own
 obtain ⟨A3, c3, rfl, _⟩ := hd.form
 obtain ⟨rp, hrp⟩ : ∃ r, r = w.heap.size := ⟨_, rfl⟩
 have hown := hps.own
 go_enter Try.func62, Try.ntmps62
 go_upto_region 1 with fail
 rw [← hrp]
 generalize hw1 : w.alloc _ = w1
 have hk1 : Keeps y02 w w1 := by rw [← hw1]; exact (Keeps.refl _ w).alloc _
 have hP : Blk w1 rp 51 #[.int .i64 p.code, .int .i64 p.id, .slice A3 p.data.length c3] := by rw [← hw1, hrp]; exact Blk.new w _ _
 have hO1 := hO.keeps hk1 (fun h => h)
 have HC := xhd (show w1.cell? ⟨go, 0, none⟩ = some (.slice A2 ps.length c2) ∧ w1.cell? ⟨rp, 0, none⟩ = some (.int .i64 p.code) ∧ w1.cell? ⟨rp, 1, none⟩ = some (.int .i64 p.id) ∧ w1.cell? ⟨rp, 2, none⟩ = some (.slice A3 p.data.length c3) from ⟨by rw [hO1.cell]; rfl, by rw [hP.cell]; rfl, by rw [hP.cell]; rfl, by rw [hP.cell]; rfl⟩)
 have HO := xhd hO1
 have HPS := xhd (hps.keeps hk1)
 have HD := xhd ((hd.keeps hk1 (fun _ _ h => h)).mono (G := fun b => w0.heap.size ≤ b ∧ (Value.slice A2 ps.length c2).ownBlock ≠ some b ∧ b < w1.heap.size) (fun b hb => ⟨hb.1, hb.2.1, Nat.lt_of_lt_of_le hb.2.2 hk1.size⟩))
 have HGO := xhd (show ¬ (Value.slice A2 ps.length c2).ownBlock = some go from fun e => by have := y0c hown go e; omega)
 have HGP := xhd (show ¬ (Value.slice A2 ps.length c2).ownBlock = some rp from fun e => by have := y0i hown rp e; omega)
 have HLT := xhd hgo
 have HKR := xhd hk1
 have HKZ0 := xhd (Keeps.refl y02 w1)
 clear hw1 hk1 hP hO1 hO hps hd hown hgo hrp
 refine y0e (fun w' => w'.cell? ⟨go, 0, none⟩ = some (.slice A2 ps.length c2) ∧ w'.cell? ⟨rp, 0, none⟩ = some (.int .i64 p.code) ∧ w'.cell? ⟨rp, 1, none⟩ = some (.int .i64 p.id) ∧ w'.cell? ⟨rp, 2, none⟩ = some (.slice A3 p.data.length c3)) 10 11 rfl (by kernel_rfl) ⟨HC.out.1, HC.out.2.1, HC.out.2.2.1, HC.out.2.2.2⟩ (fun hHeld => ?_)
 have HSW := hHeld
 clear hHeld
 have HK0d := xhd (HKZ0.out.drew)
 refine y00 (i := 0) rfl (by kernel_rfl) (fun _ _ _ h => h) (Or.inl ⟨by rfl, by intro w hSw; obtain ⟨s0, s1, s2, s3⟩ := hSw; go_simp; try with_reducible rfl⟩) HSW.out ?_
 simp only [Act.put, xqA, xqB, xqD, xqE, xqF]
 refine y00 (i := 1) rfl (by kernel_rfl) (fun _ _ _ h => h) (Or.inl ⟨by rfl, by intro w hSw; obtain ⟨s0, s1, s2, s3⟩ := hSw; go_simp; try with_reducible rfl⟩) HSW.out ?_
 simp only [Act.put, xqA, xqB, xqC, xqD, xqE, xqF]
 refine y00 (i := 2) rfl (by kernel_rfl) (fun _ _ _ h => h) (Or.inl ⟨by rfl, by intro w hSw; obtain ⟨s0, s1, s2, s3⟩ := hSw; go_simp; try with_reducible rfl⟩) HSW.out ?_
 simp only [Act.put, xqA, xqB, xqC, xqD, xqE, xqF]
 refine y00 (i := 3) rfl (by kernel_rfl) (fun _ _ _ h => h) (Or.inl ⟨by rfl, by intro w hSw; obtain ⟨s0, s1, s2, s3⟩ := hSw; go_simp; try with_reducible rfl⟩) HSW.out ?_
 simp only [Act.put, xqA, xqB, xqC, xqD, xqE, xqF]
 refine y00 (i := 4) rfl (by kernel_rfl) (fun _ _ _ h => h) (Or.inl ⟨by rfl, by intro w hSw; obtain ⟨s0, s1, s2, s3⟩ := hSw; go_simp; try with_reducible rfl⟩) HSW.out ?_
 simp only [Act.put, xqA, xqB, xqC, xqD, xqE, xqF]
 refine y00 (i := 5) rfl (by kernel_rfl) (fun _ _ _ h => h) (Or.inl ⟨by rfl, by intro w hSw; obtain ⟨s0, s1, s2, s3⟩ := hSw; go_simp; try with_reducible rfl⟩) HSW.out ?_
 simp only [Act.put, xqA, xqB, xqC, xqD, xqE, xqF]
 refine y05 (i := 6) (by kernel_rfl) rfl (fun K hK => ?_)
 try rw [if_pos (by rfl)]
 go_simp
 have HSB := xhd (And.intro (y0y (o := .cells #[.int .i64 p.code, .int .i64 p.id, .slice A3 p.data.length c3] 51) HSW.out.1) (And.intro (y0y (o := .cells #[.int .i64 p.code, .int .i64 p.id, .slice A3 p.data.length c3] 51) HSW.out.2.1) (And.intro (y0y (o := .cells #[.int .i64 p.code, .int .i64 p.id, .slice A3 p.data.length c3] 51) HSW.out.2.2.1) (y0y (o := .cells #[.int .i64 p.code, .int .i64 p.id, .slice A3 p.data.length c3] 51) HSW.out.2.2.2))))
 refine hK.out _ _ (fun _ => HSB.out) ?_
 clear hK K
 try simp only [Act.put, xqA, Nat.reduceAdd, xqB, xqC, xqD, xqE, xqF]
 refine y05 (i := 7) (by kernel_rfl) rfl (fun K hK => ?_)
 rw [if_pos (by rfl)]
 refine y5n (w0 := w0) (w := w1.drew) (.tmp 8) (.tmp 10) rfl (.slice A2 ps.length c2) ps A3 c3 p rfl rfl (HPS.out.keeps HK0d.out) (by omega) (HD.out.drew) ?_
 intro A4 c4 w3 hps hkx hob
 have HOB := xhd hob
 clear hob
 have HPS3 := xhd hps
 have HKX := xhd hkx
 have HS3 := xhd (And.intro (y1q hkx HSW.out.1 HGO.out) (And.intro (y1q hkx HSW.out.2.1 HGP.out) (And.intro (y1q hkx HSW.out.2.2.1 HGP.out) (y1q hkx HSW.out.2.2.2 HGP.out))))
 clear hps hkx
 refine hK.out _ _ (fun _ => HS3.out) ?_
 clear hK K
 try simp only [Act.put, xqA, xqB, xqC, xqD, xqE, xqF]
 refine y00 (i := 8) rfl (by kernel_rfl) (fun _ _ _ h => h) (Or.inl ⟨by rfl, by intro w hSw; obtain ⟨s0, s1, s2, s3⟩ := hSw; go_simp; try with_reducible rfl⟩) HS3.out ?_
 simp only [Act.put, xqA, xqB, xqC, xqD, xqE, xqF]
 refine y00 (i := 9) rfl (by kernel_rfl) (fun _ _ _ h => h) (Or.inl ⟨by rfl, by intro w hSw; obtain ⟨s0, s1, s2, s3⟩ := hSw; go_simp; try with_reducible rfl⟩) HS3.out ?_
 simp only [Act.put, xqA, xqB, xqC, xqD, xqE, xqF]
 have hO3 := HO.out.keeps HK0d.out (fun h => h)
 have hO3 := hO3.keeps HKX.out HGO.out
 have f0 := hO3.frozen 0
 have o0 : w3.cell? ⟨go, 0, none⟩ = some (.slice A2 ps.length c2) := by rw [hO3.cell]; rfl
 have HZ := xhd (hO3.set 0 (.slice A4 (ps.length + 1) c4))
 have KG := (Keeps.refl (only go) w3).put 0 (.slice A4 (ps.length + 1) c4)
 have HPZ := xhd (HPS3.out.other KG (fun b e => by have e : b = go := e; rw [e]; exact HLT.out))
 have HKZ := xhd (((HKR.out.trans HK0d.out).mono (T := fun b => b = go ∨ (Value.slice A2 ps.length c2).ownBlock = some b) (fun _ h => h.elim)).trans ((HKX.out.mono (fun b h => .inr h)).trans (KG.mono (fun b h => .inl h))))
 clear hO3 KG
 refine y05 (i := 10) (by kernel_rfl) rfl (fun K hK => ?_)
 go_simp
 refine hK.out _ _ (fun h => absurd rfl h) ?_
 clear hK K
 refine y0d (by kernel_rfl) ?_ _
 go_wp2_with fail
 go_end0
 exact ⟨rfl, _, HZ.out, HPZ.out, fun b hb => (HOB.out b hb).imp (fun h => h) (fun h => Nat.le_trans HKR.out.size h), HKZ.out⟩
end Go.Proofs.Ytgphfindolaljaa
