/- Package nego: settle. -/
import Derived.Test.YtmgicbckgpdkcaaGreatDoorC19
namespace Go.Proofs.YtmgicbckgpdkcaaGreatDoor
set_option maxRecDepth 100000
set_option maxHeartbeats 4000000
open _root_.Go.Lib renaming hid → xhd
open List renaming setIfInBounds_toArray → xqA, getElem_toArray → xqB, getElem_cons_succ → xqC, getElem_cons_zero → xqD, set_cons_succ → xqE, set_cons_zero → xqF
open Go.RowKit
def y7a (w : World) (g : Nat) (R : Nat → Prop) (f : NF) (n' : Pure.Neg) (w' : World) : Prop :=
 ∃ f', NObj w' g (y1c w w' R) f' n' ∧ f'.gm = f.gm ∧ Keeps (only g) w w'
theorem y7a.keeps {w w' : World} {g : Nat} {R : Nat → Prop} {f : NF} {n' : Pure.Neg} (h : y7a w g R f n' w') : Keeps (only g) w w' := by obtain ⟨_, _, _, h⟩ := h; exact h
theorem y49 {w w' : World} {g b off : Nat} (k : Keeps (only g) w w') (hb : b ≠ g) {u : Value} (h : w.cell? ⟨b, off, none⟩ = some u) : w'.cell? ⟨b, off, none⟩ = some u :=
 (World.cell?_of_block (w := w) (a := ⟨b, off, none⟩) (k.block b (y0x h) (fun e => hb e))).trans h
theorem Opts.read {w0 w w' : World} {R : Nat → Prop} {v : Value} {qs : List (Value × Pure.Opt)} {l : List Pure.Opt} (h : ORow w' (fun b => w0.heap.size ≤ b) v qs) (he : y02 qs = l) (hf : Pure.Fine l) (hs : w.heap.size ≤ w0.heap.size) : Opts w' (y1c w w' R) v l :=
 ⟨qs, h.strong.mono (fun _ hb => ⟨.inr (Nat.le_trans hs hb.1), hb.2⟩), he, y2r (by rw [he]; exact hf)⟩
theorem settle_ack (R : Nat → Prop) (g : Nat) (f : NF) (n : Pure.Neg) (uv : Value) (w : World) (h : NObj w g R f n) :
  Calls Tryz.prog 174 #[.pointer (some ⟨g, 0, none⟩), .int .i64 2, uv] w fun e w' => e = .returned (.int .i64 8) ∧ y7a w g R f { n with waits := false, acked := (Pure.split n.ours).2 } w' := by
 have hb : Blk w g 171 f.list.toArray := h.blk
 obtain ⟨w1, hw1⟩ : ∃ q, q = w.setCell ⟨g, 8, none⟩ (.bool false) := ⟨_, rfl⟩
 have c7 : w.cell? ⟨g, 8, none⟩ = some (.bool f.aopen) := h.blk.cell 8
 have f7 := hb.frozen 8
 have hb1 : Blk w1 g 171 ({ f with aopen := false } : NF).list.toArray := by rw [hw1]; exact hb.set 8 (.bool false)
 have c6 : w1.cell? ⟨g, 7, none⟩ = some f.aopts := by rw [hb1.cell]; rfl
 have c10 : w1.cell? ⟨g, 11, none⟩ = some f.mine := by rw [hb1.cell]; rfl
 have f10 := hb1.frozen 11
 have k1 : Keeps (only g) w w1 := by rw [hw1]; exact (Keeps.refl (only g) w).put 8 _
 have HB2 := xhd (show NBlk (w1.setCell ⟨g, 11, none⟩ f.aopts) g { f with aopen := false, mine := f.aopts } from hb1.set 11 f.aopts)
 have HK2 := xhd (show Keeps (only g) w (w1.setCell ⟨g, 11, none⟩ f.aopts) from k1.put 11 _)
 obtain ⟨zs, hz, hze, hzw⟩ := h.aopts
 obtain ⟨A, c, hA, _⟩ := hz.form
 have HA := xhd hA
 have H := xhd h
 clear h hb hb1 k1 hz hze hzw
 rw [hA] at c6
 go_enter Tryz.func174, Tryz.ntmps174
 go_upto_region 2 with fail
 rw [← hw1]
 clear hw1 c7 f7
 go_wp2_with fail
 go_ret
 rw [← HA.out]
 refine ⟨rfl, _, H.out.turn HK2.out HB2.out ⟨H.out.well.good, H.out.well.tries, H.out.well.timeout, H.out.well.id, H.out.well.first, H.out.well.request, H.out.well.asked, H.out.well.ours⟩ rfl rfl rfl rfl rfl H.out.e2 H.out.e3 H.out.e4 rfl H.out.e6
  (H.out.first.later HK2.out H.out.ng H.out.lt) (H.out.request.later HK2.out H.out.ng H.out.lt) (H.out.aopts.later HK2.out H.out.ng H.out.lt) (H.out.aopts.later HK2.out H.out.ng H.out.lt) (H.out.given.later HK2.out H.out.ng H.out.lt), rfl, HK2.out⟩
theorem settle_nak (R Fz : Nat → Prop) (g : Nat) (f : NF) (n : Pure.Neg) (uv : Value) (zs : List (Value × Pure.Opt)) (w : World) (h : NObj w g R f n) (hz : ORow w Fz uv zs) (hfz : Pure.Fine (y02 zs)) (hFz : ∀ b, Fz b → b ≠ g) :
  Calls Tryz.prog 174 #[.pointer (some ⟨g, 0, none⟩), .int .i64 3, uv] w fun e w' => e = .returned (.int .i64 9) ∧ y7a w g R f { n with waits := false, request := Pure.naked n.rules n.request (y02 zs) } w' := by
 have hb : Blk w g 171 f.list.toArray := h.blk
 obtain ⟨w1, hw1⟩ : ∃ q, q = w.setCell ⟨g, 8, none⟩ (.bool false) := ⟨_, rfl⟩
 obtain ⟨us, hu, hue, hfu⟩ := h.rules
 obtain ⟨zq, hx, hxe, hfx⟩ := h.request
 obtain ⟨U, cu, hU, _⟩ := hu.form
 obtain ⟨X, cx, hX, _⟩ := hx.form
 obtain ⟨Z, cz, rfl, _⟩ := hz.form
 have c7 : w.cell? ⟨g, 8, none⟩ = some (.bool f.aopen) := h.blk.cell 8
 have f7 := hb.frozen 8
 have hb1 : Blk w1 g 171 ({ f with aopen := false } : NF).list.toArray := by rw [hw1]; exact hb.set 8 (.bool false)
 have c1 : w1.cell? ⟨g, 1, none⟩ = some f.rules := by rw [hb1.cell]; rfl
 have c4 : w1.cell? ⟨g, 5, none⟩ = some f.request := by rw [hb1.cell]; rfl
 rw [hU] at c1 hu
 rw [hX] at c4 hx
 have k1 : Keeps (only g) w w1 := by rw [hw1]; exact (Keeps.refl (only g) w).put 8 _
 have HB1 := xhd (show NBlk w1 g { f with aopen := false } from hb1)
 have HGL := xhd (show g < w1.heap.size from hb1.lt)
 have HK1 := xhd k1
 have KS := xhd (fun (W : World) (k : Keeps y01 w1 W) => (k1.trans (k.mono (fun _ h => h.elim)) : Keeps (only g) w W))
 have HU := xhd hu
 have HX := xhd hx
 have HZ := xhd hz
 have HUE := xhd hue
 have HXE := xhd hxe
 have HFU := xhd hfu
 have HFX := xhd hfx
 have HFN := xhd hfz
 have HFZ := xhd (y2r hfz)
 have HRG := xhd (show ∀ b, R b → ¬ only g b from fun b hb e => h.ng (by have e : b = g := e; exact e ▸ hb))
 have HFG := xhd (show ∀ b, Fz b → ¬ only g b from fun b hb e => hFz b hb e)
 have HKZ0 := xhd (Keeps.refl y01 w1)
 have H := xhd h
 clear h hb hb1 k1 hu hx hz hue hxe hfu hfx hfz hFz hU hX
 go_enter Tryz.func174, Tryz.ntmps174
 go_upto_region 2 with fail
 rw [← hw1]
 clear hw1 c7 f7
 go_wp2_with fail
 refine y0b (fun w' => w'.cell? ⟨g, 1, none⟩ = some (.slice U us.length cu) ∧ w'.cell? ⟨g, 5, none⟩ = some (.slice X zq.length cx) ∧ NBlk w' g { f with aopen := false }) 13 14 rfl (by kernel_rfl) ⟨c1, c4, HB1.out⟩ (fun hHeld => ?_)
 have HSW := hHeld
 clear hHeld
 have HK0d := xhd (HKZ0.out.drew)
 refine y00 (i := 0) rfl (by kernel_rfl) (fun _ _ _ h => h) (Or.inl ⟨by rfl, by intro w hSw; obtain ⟨s0, s1, _⟩ := hSw; go_simp; try with_reducible rfl⟩) HSW.out ?_
 simp only [Act.put, xqA, xqB, xqD, xqE, xqF]
 refine y00 (i := 1) rfl (by kernel_rfl) (fun _ _ _ h => h) (Or.inl ⟨by rfl, by intro w hSw; obtain ⟨s0, s1, _⟩ := hSw; go_simp; try with_reducible rfl⟩) HSW.out ?_
 simp only [Act.put, xqA, xqB, xqC, xqD, xqE, xqF]
 refine y00 (i := 2) rfl (by kernel_rfl) (fun _ _ _ h => h) (Or.inl ⟨by rfl, by intro w hSw; obtain ⟨s0, s1, _⟩ := hSw; go_simp; try with_reducible rfl⟩) HSW.out ?_
 simp only [Act.put, xqA, xqB, xqC, xqD, xqE, xqF]
 refine y00 (i := 3) rfl (by kernel_rfl) (fun _ _ _ h => h) (Or.inl ⟨by rfl, by intro w hSw; obtain ⟨s0, s1, _⟩ := hSw; go_simp; try with_reducible rfl⟩) HSW.out ?_
 simp only [Act.put, xqA, xqB, xqC, xqD, xqE, xqF]
 refine y00 (i := 4) rfl (by kernel_rfl) (fun _ _ _ h => h) (Or.inl ⟨by rfl, by intro w hSw; obtain ⟨s0, s1, _⟩ := hSw; go_simp; try with_reducible rfl⟩) HSW.out ?_
 simp only [Act.put, xqA, xqB, xqC, xqD, xqE, xqF]
 refine y00 (i := 5) rfl (by kernel_rfl) (fun _ _ _ h => h) (Or.inl ⟨by rfl, by intro w hSw; obtain ⟨s0, s1, _⟩ := hSw; go_simp; try with_reducible rfl⟩) HSW.out ?_
 simp only [Act.put, xqA, xqB, xqC, xqD, xqE, xqF]
 refine y00 (i := 6) rfl (by kernel_rfl) (fun _ _ _ h => h) (Or.inl ⟨by rfl, by intro w hSw; obtain ⟨s0, s1, _⟩ := hSw; go_simp; try with_reducible rfl⟩) HSW.out ?_
 simp only [Act.put, xqA, xqB, xqC, xqD, xqE, xqF]
 refine y00 (i := 7) rfl (by kernel_rfl) (fun _ _ _ h => h) (Or.inl ⟨by rfl, by intro w hSw; obtain ⟨s0, s1, _⟩ := hSw; go_simp; try with_reducible rfl⟩) HSW.out ?_
 simp only [Act.put, xqA, xqB, xqC, xqD, xqE, xqF]
 refine y00 (i := 8) rfl (by kernel_rfl) (fun _ _ _ h => h) (Or.inl ⟨by rfl, by intro w hSw; obtain ⟨s0, s1, _⟩ := hSw; go_simp; try with_reducible rfl⟩) HSW.out ?_
 simp only [Act.put, xqA, xqB, xqC, xqD, xqE, xqF]
 refine y00 (i := 9) rfl (by kernel_rfl) (fun _ _ _ h => h) (Or.inl ⟨by rfl, by intro w hSw; obtain ⟨s0, s1, _⟩ := hSw; go_simp; try with_reducible rfl⟩) HSW.out ?_
 simp only [Act.put, xqA, xqB, xqC, xqD, xqE, xqF]
 refine y03 (i := 10) (by kernel_rfl) rfl (fun K hK => ?_)
 try rw [if_pos (by rfl)]
 go_simp
 refine (naked_any R R Fz _ _ _ us zq zs _ (HU.out.keeps (KS.out _ HK0d.out) HRG.out) (HX.out.keeps (KS.out _ HK0d.out) HRG.out) (HZ.out.keeps (KS.out _ HK0d.out) HFG.out) HFU.out HFX.out HFZ.out).mono ?_
 rintro e w2 ⟨u, qs, rfl, hqs, hrd⟩
 obtain ⟨A5, c5, rfl⟩ := y0c hrd.own
 have hk5 := Keeps.new hrd.below
 have HQS := xhd hqs
 have HK5 := xhd (HK0d.out.trans hk5)
 have HRQ := xhd (hrd.row.mono (G := fun b => w1.heap.size ≤ b) (fun b hb => Nat.le_trans HK0d.out.size hb))
 have HS5 := xhd (And.intro (y04 HSW.out.1 hk5) (And.intro (y04 HSW.out.2.1 hk5) (HSW.out.2.2.keeps hk5 (fun h => h))))
 clear hqs hrd hk5
 refine hK.out _ _ (fun _ => HS5.out) ?_
 clear hK K
 try simp only [Act.put, xqA, Nat.reduceAdd, xqB, xqC, xqD, xqE, xqF]
 refine y00 (i := 11) rfl (by kernel_rfl) (fun _ _ _ h => h) (Or.inl ⟨by rfl, by intro w hSw; obtain ⟨s0, s1, _⟩ := hSw; go_simp; try with_reducible rfl⟩) HS5.out ?_
 simp only [Act.put, xqA, xqB, xqC, xqD, xqE, xqF]
 refine y00 (i := 12) rfl (by kernel_rfl) (fun _ _ _ h => h) (Or.inl ⟨by rfl, by intro w hSw; obtain ⟨s0, s1, _⟩ := hSw; go_simp; try with_reducible rfl⟩) HS5.out ?_
 simp only [Act.put, xqA, xqB, xqC, xqD, xqE, xqF]
 have hN : Blk w2 g 171 ({ f with aopen := false } : NF).list.toArray := HS5.out.2.2
 have k4 : w2.cell? ⟨g, 5, none⟩ = some f.request := by rw [hN.cell]; rfl
 have l4 := hN.frozen 5
 have HB2 := xhd (show NBlk (w2.setCell ⟨g, 5, none⟩ (.slice A5 qs.length c5)) g { f with aopen := false, request := .slice A5 qs.length c5 } from hN.set 5 (.slice A5 qs.length c5))
 have HK2 := xhd (show Keeps (only g) w (w2.setCell ⟨g, 5, none⟩ (.slice A5 qs.length c5)) from (HK1.out.trans (HK5.out.mono (fun _ h => h.elim))).put 5 _)
 have HRQ6 := xhd (HRQ.out.keeps ((Keeps.refl (only g) w2).put 5 (.slice A5 qs.length c5)) (fun b hb e => by have e : b = g := e; have := HGL.out; omega))
 clear hN
 refine y03 (i := 13) (by kernel_rfl) rfl (fun K hK => ?_)
 go_simp
 refine hK.out _ _ (fun h => absurd rfl h) ?_
 clear hK K
 refine y09 (by kernel_rfl) ?_ _
 go_wp2_with fail
 go_ret
 have hqe : y02 qs = Pure.naked n.rules n.request (y02 zs) := by rw [HQS.out, HUE.out, HXE.out]
 have hfn : Pure.Fine (Pure.naked n.rules n.request (y02 zs)) := Pure.fine_naked H.out.well.request HFN.out
 refine ⟨rfl, _, H.out.turn (n' := { n with waits := false, request := Pure.naked n.rules n.request (y02 zs) }) HK2.out HB2.out ⟨H.out.well.good, H.out.well.tries, H.out.well.timeout, H.out.well.id, H.out.well.first, hfn, H.out.well.asked, H.out.well.ours⟩ rfl rfl rfl rfl rfl H.out.e2 H.out.e3 H.out.e4 rfl H.out.e6 (H.out.first.later HK2.out H.out.ng H.out.lt) (Opts.read HRQ6.out hqe hfn HK1.out.size) (H.out.aopts.later HK2.out H.out.ng H.out.lt) (H.out.mine.later HK2.out H.out.ng H.out.lt) (H.out.given.later HK2.out H.out.ng H.out.lt), rfl, HK2.out⟩
theorem settle_rej (R Fz : Nat → Prop) (g : Nat) (f : NF) (n : Pure.Neg) (uv : Value) (zs : List (Value × Pure.Opt)) (w : World) (h : NObj w g R f n) (hz : ORow w Fz uv zs) (hfz : Pure.Fine (y02 zs)) (hFz : ∀ b, Fz b → b ≠ g) :
  Calls Tryz.prog 174 #[.pointer (some ⟨g, 0, none⟩), .int .i64 4, uv] w fun e w' => e = .returned (.int .i64 9) ∧ y7a w g R f { n with waits := false, request := Pure.left n.rules n.request (y02 zs) } w' := by
 have hb : Blk w g 171 f.list.toArray := h.blk
 obtain ⟨w1, hw1⟩ : ∃ q, q = w.setCell ⟨g, 8, none⟩ (.bool false) := ⟨_, rfl⟩
 obtain ⟨us, hu, hue, hfu⟩ := h.rules
 obtain ⟨zq, hx, hxe, hfx⟩ := h.request
 obtain ⟨U, cu, hU, _⟩ := hu.form
 obtain ⟨X, cx, hX, _⟩ := hx.form
 obtain ⟨Z, cz, rfl, _⟩ := hz.form
 have c7 : w.cell? ⟨g, 8, none⟩ = some (.bool f.aopen) := h.blk.cell 8
 have f7 := hb.frozen 8
 have hb1 : Blk w1 g 171 ({ f with aopen := false } : NF).list.toArray := by rw [hw1]; exact hb.set 8 (.bool false)
 have c1 : w1.cell? ⟨g, 1, none⟩ = some f.rules := by rw [hb1.cell]; rfl
 have c4 : w1.cell? ⟨g, 5, none⟩ = some f.request := by rw [hb1.cell]; rfl
 rw [hU] at c1 hu
 rw [hX] at c4 hx
 have k1 : Keeps (only g) w w1 := by rw [hw1]; exact (Keeps.refl (only g) w).put 8 _
 have HB1 := xhd (show NBlk w1 g { f with aopen := false } from hb1)
 have HGL := xhd (show g < w1.heap.size from hb1.lt)
 have HK1 := xhd k1
 have KS := xhd (fun (W : World) (k : Keeps y01 w1 W) => (k1.trans (k.mono (fun _ h => h.elim)) : Keeps (only g) w W))
 have HU := xhd hu
 have HX := xhd hx
 have HZ := xhd hz
 have HUE := xhd hue
 have HXE := xhd hxe
 have HFU := xhd hfu
 have HFX := xhd hfx
 have HFN := xhd hfz
 have HFZ := xhd (y2r hfz)
 have HRG := xhd (show ∀ b, R b → ¬ only g b from fun b hb e => h.ng (by have e : b = g := e; exact e ▸ hb))
 have HFG := xhd (show ∀ b, Fz b → ¬ only g b from fun b hb e => hFz b hb e)
 have HKZ0 := xhd (Keeps.refl y01 w1)
 have H := xhd h
 clear h hb hb1 k1 hu hx hz hue hxe hfu hfx hfz hFz hU hX
 go_enter Tryz.func174, Tryz.ntmps174
 go_upto_region 2 with fail
 rw [← hw1]
 clear hw1 c7 f7
 go_wp2_with fail
 refine y0b (fun w' => w'.cell? ⟨g, 1, none⟩ = some (.slice U us.length cu) ∧ w'.cell? ⟨g, 5, none⟩ = some (.slice X zq.length cx) ∧ NBlk w' g { f with aopen := false }) 13 14 rfl (by kernel_rfl) ⟨c1, c4, HB1.out⟩ (fun hHeld => ?_)
 have HSW := hHeld
 clear hHeld
 have HK0d := xhd (HKZ0.out.drew)
 refine y00 (i := 0) rfl (by kernel_rfl) (fun _ _ _ h => h) (Or.inl ⟨by rfl, by intro w hSw; obtain ⟨s0, s1, _⟩ := hSw; go_simp; try with_reducible rfl⟩) HSW.out ?_
 simp only [Act.put, xqA, xqB, xqD, xqE, xqF]
 refine y00 (i := 1) rfl (by kernel_rfl) (fun _ _ _ h => h) (Or.inl ⟨by rfl, by intro w hSw; obtain ⟨s0, s1, _⟩ := hSw; go_simp; try with_reducible rfl⟩) HSW.out ?_
 simp only [Act.put, xqA, xqB, xqC, xqD, xqE, xqF]
 refine y00 (i := 2) rfl (by kernel_rfl) (fun _ _ _ h => h) (Or.inl ⟨by rfl, by intro w hSw; obtain ⟨s0, s1, _⟩ := hSw; go_simp; try with_reducible rfl⟩) HSW.out ?_
 simp only [Act.put, xqA, xqB, xqC, xqD, xqE, xqF]
 refine y00 (i := 3) rfl (by kernel_rfl) (fun _ _ _ h => h) (Or.inl ⟨by rfl, by intro w hSw; obtain ⟨s0, s1, _⟩ := hSw; go_simp; try with_reducible rfl⟩) HSW.out ?_
 simp only [Act.put, xqA, xqB, xqC, xqD, xqE, xqF]
 refine y00 (i := 4) rfl (by kernel_rfl) (fun _ _ _ h => h) (Or.inl ⟨by rfl, by intro w hSw; obtain ⟨s0, s1, _⟩ := hSw; go_simp; try with_reducible rfl⟩) HSW.out ?_
 simp only [Act.put, xqA, xqB, xqC, xqD, xqE, xqF]
 refine y00 (i := 5) rfl (by kernel_rfl) (fun _ _ _ h => h) (Or.inl ⟨by rfl, by intro w hSw; obtain ⟨s0, s1, _⟩ := hSw; go_simp; try with_reducible rfl⟩) HSW.out ?_
 simp only [Act.put, xqA, xqB, xqC, xqD, xqE, xqF]
 refine y00 (i := 6) rfl (by kernel_rfl) (fun _ _ _ h => h) (Or.inl ⟨by rfl, by intro w hSw; obtain ⟨s0, s1, _⟩ := hSw; go_simp; try with_reducible rfl⟩) HSW.out ?_
 simp only [Act.put, xqA, xqB, xqC, xqD, xqE, xqF]
 refine y00 (i := 7) rfl (by kernel_rfl) (fun _ _ _ h => h) (Or.inl ⟨by rfl, by intro w hSw; obtain ⟨s0, s1, _⟩ := hSw; go_simp; try with_reducible rfl⟩) HSW.out ?_
 simp only [Act.put, xqA, xqB, xqC, xqD, xqE, xqF]
 refine y00 (i := 8) rfl (by kernel_rfl) (fun _ _ _ h => h) (Or.inl ⟨by rfl, by intro w hSw; obtain ⟨s0, s1, _⟩ := hSw; go_simp; try with_reducible rfl⟩) HSW.out ?_
 simp only [Act.put, xqA, xqB, xqC, xqD, xqE, xqF]
 refine y00 (i := 9) rfl (by kernel_rfl) (fun _ _ _ h => h) (Or.inl ⟨by rfl, by intro w hSw; obtain ⟨s0, s1, _⟩ := hSw; go_simp; try with_reducible rfl⟩) HSW.out ?_
 simp only [Act.put, xqA, xqB, xqC, xqD, xqE, xqF]
 refine y03 (i := 10) (by kernel_rfl) rfl (fun K hK => ?_)
 try rw [if_pos (by rfl)]
 go_simp
 refine (left_any R R Fz _ _ _ us zq zs _ (HU.out.keeps (KS.out _ HK0d.out) HRG.out) (HX.out.keeps (KS.out _ HK0d.out) HRG.out) (HZ.out.keeps (KS.out _ HK0d.out) HFG.out) HFX.out).mono ?_
 rintro e w2 ⟨u, qs, rfl, hqs, hrd⟩
 obtain ⟨A5, c5, rfl⟩ := y0c hrd.own
 have hk5 := Keeps.new hrd.below
 have HQS := xhd hqs
 have HK5 := xhd (HK0d.out.trans hk5)
 have HRQ := xhd (hrd.row.mono (G := fun b => w1.heap.size ≤ b) (fun b hb => Nat.le_trans HK0d.out.size hb))
 have HS5 := xhd (And.intro (y04 HSW.out.1 hk5) (And.intro (y04 HSW.out.2.1 hk5) (HSW.out.2.2.keeps hk5 (fun h => h))))
 clear hqs hrd hk5
 refine hK.out _ _ (fun _ => HS5.out) ?_
 clear hK K
 try simp only [Act.put, xqA, Nat.reduceAdd, xqB, xqC, xqD, xqE, xqF]
 refine y00 (i := 11) rfl (by kernel_rfl) (fun _ _ _ h => h) (Or.inl ⟨by rfl, by intro w hSw; obtain ⟨s0, s1, _⟩ := hSw; go_simp; try with_reducible rfl⟩) HS5.out ?_
 simp only [Act.put, xqA, xqB, xqC, xqD, xqE, xqF]
 refine y00 (i := 12) rfl (by kernel_rfl) (fun _ _ _ h => h) (Or.inl ⟨by rfl, by intro w hSw; obtain ⟨s0, s1, _⟩ := hSw; go_simp; try with_reducible rfl⟩) HS5.out ?_
 simp only [Act.put, xqA, xqB, xqC, xqD, xqE, xqF]
 have hN : Blk w2 g 171 ({ f with aopen := false } : NF).list.toArray := HS5.out.2.2
 have k4 : w2.cell? ⟨g, 5, none⟩ = some f.request := by rw [hN.cell]; rfl
 have l4 := hN.frozen 5
 have HB2 := xhd (show NBlk (w2.setCell ⟨g, 5, none⟩ (.slice A5 qs.length c5)) g { f with aopen := false, request := .slice A5 qs.length c5 } from hN.set 5 (.slice A5 qs.length c5))
 have HK2 := xhd (show Keeps (only g) w (w2.setCell ⟨g, 5, none⟩ (.slice A5 qs.length c5)) from (HK1.out.trans (HK5.out.mono (fun _ h => h.elim))).put 5 _)
 have HRQ6 := xhd (HRQ.out.keeps ((Keeps.refl (only g) w2).put 5 (.slice A5 qs.length c5)) (fun b hb e => by have e : b = g := e; have := HGL.out; omega))
 clear hN
 refine y03 (i := 13) (by kernel_rfl) rfl (fun K hK => ?_)
 go_simp
 refine hK.out _ _ (fun h => absurd rfl h) ?_
 clear hK K
 refine y09 (by kernel_rfl) ?_ _
 go_wp2_with fail
 go_ret
 have hqe : y02 qs = Pure.left n.rules n.request (y02 zs) := by rw [HQS.out, HUE.out, HXE.out]
 have hfn : Pure.Fine (Pure.left n.rules n.request (y02 zs)) := Pure.fine_left H.out.well.request
 refine ⟨rfl, _, H.out.turn (n' := { n with waits := false, request := Pure.left n.rules n.request (y02 zs) }) HK2.out HB2.out ⟨H.out.well.good, H.out.well.tries, H.out.well.timeout, H.out.well.id, H.out.well.first, hfn, H.out.well.asked, H.out.well.ours⟩ rfl rfl rfl rfl rfl H.out.e2 H.out.e3 H.out.e4 rfl H.out.e6 (H.out.first.later HK2.out H.out.ng H.out.lt) (Opts.read HRQ6.out hqe hfn HK1.out.size) (H.out.aopts.later HK2.out H.out.ng H.out.lt) (H.out.mine.later HK2.out H.out.ng H.out.lt) (H.out.given.later HK2.out H.out.ng H.out.lt), rfl, HK2.out⟩
theorem y1h {P : Program} {fn : Func} {p u : Tmp} {ty : TypeId} (h : fn.results = #[.tmp u, .cell p ty]) (tmps : Array Value) (w : World) (g : Nat) (t : TypeId) (cs : Array Value) (fr : Nat × Nat) (d : TypeDesc)
  (hp : tmps.getD p undef = .pointer (some ⟨g, 0, none⟩)) (hg : w.heap[g]? = some (.cells cs t fr))
  (hu : P.underlying ty = some d) (hd : (match d with | .struct _ | .array _ _ => true | _ => false) = true) (hi : (P.info? ty).map (·.size) = some cs.size) :
  (results fn tmps).run P w = .ok (.tuple #[tmps.getD u undef, .agg cs]) w := by
 have hp' : tmps[p]?.getD undef = .pointer (some ⟨g, 0, none⟩) := by simpa using hp
 simp [results, h, hp', asAddr, run_loadVar_row w g t ty cs fr d hg hu hd hi, Result.andThen]
theorem y2h : (Tryz.prog.info? 180).map (·.size) = some 5 := by kernel_rfl
theorem y37 (w : World) (a b c : Array Value) (ta tb tc : TypeId) : ∃ w1, w1 = ((w.alloc (.cells a ta)).alloc (.cells b tb)).alloc (.cells c tc) ∧ Blk w1 w.heap.size ta a ∧ Blk w1 (w.heap.size + 1) tb b ∧ Blk w1 (w.heap.size + 1 + 1) tc c ∧ Keeps y01 w w1 := by
 refine ⟨_, rfl, ((Blk.new w ta a).alloc _).alloc _, ?_, ?_, (((Keeps.refl _ w).alloc _).alloc _).alloc _⟩
 ·have h := (Blk.new (w.alloc (.cells a ta)) tb b).alloc (.cells c tc)
  rw [show (w.alloc (.cells a ta)).heap.size = w.heap.size + 1 by simp] at h
  exact h
 ·have h := Blk.new ((w.alloc (.cells a ta)).alloc (.cells b tb)) tc c
  rw [show ((w.alloc (.cells a ta)).alloc (.cells b tb)).heap.size = w.heap.size + 1 + 1 by simp] at h
  exact h
def y4g (w : World) (g : Nat) (R : Nat → Prop) (f : NF) (p : Pure.Pkt) (d : Value) (h : Nat × Pure.Neg × Pure.Reply) (e : Ending) (w' : World) : Prop :=
 ∃ ov, ∃ zo : List (Value × Pure.Opt), ∃ f' R', e = .returned (.tuple #[.int .i64 (h.1 : Int), y8j p d (h.2.2.code : Int) ov]) ∧ ORow w' (fun b => w.heap.size ≤ b ∧ b < w'.heap.size) ov zo ∧ y02 zo = h.2.2.l ∧ FewOpts zo ∧
  NObj w' g R' f' h.2.1 ∧ f'.gm = f.gm ∧ (∀ b, R' b → R b ∨ w.heap.size ≤ b) ∧ Keeps (only g) w w'
namespace Pure
theorem y8v {r : Rule} {b : List UInt8} {p : Opt} (h : r.offers b = some p) (hw : r.want.length ≤ 100000) : p.2.length ≤ 100000 := by
 unfold Rule.offers at h
 split at h
 ·injection h with h; subst h; dsimp only; rw [wide_length]; omega
 ·split at h
  ·injection h with h; subst h; exact hw
  ·split at h
   ·injection h with h; subst h; dsimp only; rw [wide_length]; omega
   ·cases h
theorem yeq {rules : List Rule} {rejects : Bool} {before : List Opt} {o p : Opt} (h : verdict rules rejects before o = .offer p) (hw : ∀ r ∈ rules, r.want.length ≤ 100000) : p.2.length ≤ 100000 := by
 unfold verdict at h
 split at h
 ·cases h
 ·rename_i r hr
  have hm : r ∈ rules := List.mem_of_find?_eq_some hr
  split at h
  ·cases h
  ·split at h
   ·cases h
   ·split at h
    ·cases h
    ·rename_i q hq
     split at h
     ·cases h
     ·injection h with h; subst h; exact y8v hq (hw r hm)
theorem y8b {rules : List Rule} {rejects : Bool} {l : List Opt} (hw : ∀ r ∈ rules, r.want.length ≤ 100000) : ∀ k, (judgeTo rules rejects l k).1.length ≤ k ∧ (judgeTo rules rejects l k).2.length ≤ k ∧ (∀ o ∈ (judgeTo rules rejects l k).1, o ∈ l) ∧ ∀ o ∈ (judgeTo rules rejects l k).2, o.2.length ≤ 100000
 | 0 => ⟨Nat.le_refl _, Nat.le_refl _, (by intro o ho; cases ho), (by intro o ho; cases ho)⟩
 | k + 1 => by
  obtain ⟨h1, h2, h3, h4⟩ := y8b hw k
  unfold judgeTo
  split
  ·exact ⟨by omega, by omega, h3, h4⟩
  ·rename_i o ho
   split
   ·exact ⟨by omega, by omega, h3, h4⟩
   ·refine ⟨by simp; omega, by dsimp only; omega, ?_, h4⟩
    intro x hx
    rcases List.mem_append.1 hx with hx | hx
    ·exact h3 x hx
    ·rw [List.mem_singleton.1 hx]; exact List.mem_of_getElem? ho
   ·rename_i p hp
    refine ⟨by dsimp only; omega, by simp; omega, h3, ?_⟩
    intro x hx
    rcases List.mem_append.1 hx with hx | hx
    ·exact h4 x hx
    ·rw [List.mem_singleton.1 hx]; exact yeq hp hw
theorem y8r {rules : List Rule} {l nak : List Opt} (hw : ∀ r ∈ rules, r.want.length ≤ 100000) (hn : ∀ o ∈ nak, o.2.length ≤ 100000) : ∀ k, (y1f rules l nak k).length ≤ nak.length + k ∧ ∀ o ∈ y1f rules l nak k, o.2.length ≤ 100000
 | 0 => ⟨Nat.le_refl _, hn⟩
 | k + 1 => by
  obtain ⟨h1, h2⟩ := y8r hw hn k
  have hs : (y1f rules l nak k).length ≤ nak.length + (k + 1) ∧ ∀ o ∈ y1f rules l nak k, o.2.length ≤ 100000 := ⟨by omega, h2⟩
  unfold y1f
  split
  ·exact hs
  ·split
   ·exact hs
   ·split
    ·exact hs
    ·rename_i f hf
     split
     ·exact hs
     ·split
      ·exact hs
      ·rename_i p hp
       refine ⟨by simp; omega, ?_⟩
       intro x hx
       rcases List.mem_append.1 hx with hx | hx
       ·exact h2 x hx
       ·rw [List.mem_singleton.1 hx]; exact y8v hp (hw f (List.mem_of_find?_eq_some hf))
theorem judge_small {rules : List Rule} {l : List Opt} {rejects : Bool} (hr : rules.length ≤ 1000) (hw : ∀ r ∈ rules, r.want.length ≤ 100000) (hl : Fine l) : (judge rules l rejects).2.length ≤ 2000 ∧ ∀ o ∈ (judge rules l rejects).2, o.2.length ≤ 100000 := by
 have hll := hl.len
 have hd : ∀ o ∈ l, o.2.length ≤ 100000 := fun o ho => by have := hl.odd o ho; unfold Opt.odd at this; omega
 obtain ⟨h1, h2, h3, h4⟩ := y8b (rejects := rejects) (l := l) hw l.length
 obtain ⟨n1, n2⟩ := y8r (l := l) hw h4 rules.length
 unfold judge
 dsimp only
 by_cases c1 : (judgeTo rules rejects l l.length).1 ≠ []
 ·rw [if_pos c1]; exact ⟨by dsimp only; omega, fun o ho => hd o (h3 o ho)⟩
 ·rw [if_neg c1]
  by_cases c2 : rejects = true
  ·rw [if_pos c2]
   by_cases c3 : (judgeTo rules rejects l l.length).2 ≠ []
   ·rw [if_pos c3]; exact ⟨by dsimp only; omega, h4⟩
   ·rw [if_neg c3]; exact ⟨by dsimp only; omega, hd⟩
  ·rw [if_neg c2]
   by_cases c3 : y1f rules l (judgeTo rules rejects l l.length).2 rules.length ≠ []
   ·rw [if_pos c3]; exact ⟨by dsimp only; omega, n2⟩
   ·rw [if_neg c3]; exact ⟨by dsimp only; omega, hd⟩
end Pure
theorem heed_end (R : Nat → Prop) (g : Nat) (f : NF) (n : Pure.Neg) (pi : Int) (pd : List UInt8) (DA : Option Addr) (dc : Nat) (uv : Value) (w : World) (h : NObj w g R f n) :
  Calls Tryz.prog 133 #[.pointer (some ⟨g, 0, none⟩), pktV ⟨5, pi, pd⟩ (.slice DA pd.length dc), uv] w fun e w' => y4g w g R f ⟨5, pi, pd⟩ (.slice DA pd.length dc) (10, n, ⟨⟨5, pi, pd⟩, 0, []⟩) e w' := by
 have HI := xhd y2h
 obtain ⟨w1, hw1, hP, hO, hC, hk1⟩ := y37 w #[.int .i64 5, .int .i64 pi, .slice DA pd.length dc] #[.int .i64 0, .int .i64 0, .slice none 0 0, .int .i64 0, .slice none 0 0] #[.int .i64 5, .int .i64 pi, .slice DA pd.length dc, .int .i64 0, .slice none 0 0] 56 180 180
 obtain ⟨rp, hrp⟩ : ∃ q, q = w.heap.size := ⟨_, rfl⟩
 rw [← hrp] at hP hO hC
 have hgl := h.blk.lt
 have hml := Blk.lt h.mach
 have H1 := xhd (h.keeps hk1 (fun h => h) (fun h => h) (fun _ _ h => h))
 have HP := xhd hP
 have HO := xhd hO
 have HC := xhd hC
 have HK1 := xhd hk1
 have HRL := xhd (show ∀ b, R b → b < rp by rw [hrp]; exact h.lt)
 have HGL := xhd (show g < rp by omega)
 have HML := xhd (show f.gm < rp by omega)
 have HRP := xhd (show w.heap.size = rp from hrp.symm)
 have HKZ0 := xhd (Keeps.refl y01 w1)
 have q0 : w1.cell? ⟨rp, 0, none⟩ = some (.int .i64 5) := by rw [hP.cell]; rfl
 go_enter Tryz.func133, Tryz.ntmps133
 go_upto_region 2 with fail
 rw [← hrp]
 rw [← hw1]
 clear hw1 hP hO hC hk1 hgl hml hrp h
 go_wp2_with fail
 refine y0b (fun w' => Blk w' (rp + 1 + 1) 180 #[.int .i64 5, .int .i64 pi, .slice DA pd.length dc, .int .i64 0, .slice none 0 0]) 2 3 rfl (by kernel_rfl) HC.out (fun hHeld => ?_)
 have HSW := hHeld
 clear hHeld
 have HK0d := xhd (HKZ0.out.drew)
 refine y00 (i := 0) rfl (by kernel_rfl) (fun _ _ _ h => h) (Or.inl ⟨by rfl, by intro w hSw; have s0 : w.cell? ⟨rp + 1 + 1, 0, none⟩ = some (.int .i64 5) := (by rw [Blk.cell hSw]; rfl); have s1 : w.cell? ⟨rp + 1 + 1, 1, none⟩ = some (.int .i64 pi) := (by rw [Blk.cell hSw]; rfl); have s2 : w.cell? ⟨rp + 1 + 1, 2, none⟩ = some (.slice DA pd.length dc) := (by rw [Blk.cell hSw]; rfl); have s3 : w.cell? ⟨rp + 1 + 1, 3, none⟩ = some (.int .i64 0) := (by rw [Blk.cell hSw]; rfl); have s4 : w.cell? ⟨rp + 1 + 1, 4, none⟩ = some (.slice none 0 0) := (by rw [Blk.cell hSw]; rfl); go_simp; try with_reducible rfl⟩) HSW.out ?_
 simp only [Act.put, xqA, xqB, xqD, xqE, xqF]
 refine y00 (i := 1) rfl (by kernel_rfl) (fun _ _ _ h => h) (Or.inl ⟨by rfl, by intro w hSw; skip; go_simp; try with_reducible rfl⟩) HSW.out ?_
 simp only [Act.put, xqA, xqB, xqC, xqD, xqE, xqF]
 have hOz := HO.out
 have y0 : w1.cell? ⟨rp + 1, 0, none⟩ = some (.int .i64 0) := by rw [hOz.cell]; rfl
 have v0 := hOz.frozen 0
 have y1 : w1.cell? ⟨rp + 1, 1, none⟩ = some (.int .i64 0) := by rw [hOz.cell]; rfl
 have v1 := hOz.frozen 1
 have y2 : w1.cell? ⟨rp + 1, 2, none⟩ = some (.slice none 0 0) := by rw [hOz.cell]; rfl
 have v2 := hOz.frozen 2
 have y3 : w1.cell? ⟨rp + 1, 3, none⟩ = some (.int .i64 0) := by rw [hOz.cell]; rfl
 have v3 := hOz.frozen 3
 have y4 : w1.cell? ⟨rp + 1, 4, none⟩ = some (.slice none 0 0) := by rw [hOz.cell]; rfl
 have v4 := hOz.frozen 4
 have HZ := xhd (((((hOz.set 0 (.int .i64 5)).set 1 (.int .i64 pi)).set 2 (.slice DA pd.length dc)).set 3 (.int .i64 0)).set 4 (.slice none 0 0))
 have HKR := xhd (((((((Keeps.refl (only (rp + 1)) w1).put 0 (.int .i64 5)).put 1 (.int .i64 pi)).put 2 (.slice DA pd.length dc)).put 3 (.int .i64 0)).put 4 (.slice none 0 0)).drew)
 clear hOz
 refine y03 (i := 2) (by kernel_rfl) rfl (fun K hK => ?_)
 go_simp
 refine hK.out _ _ (fun h => absurd rfl h) ?_
 clear hK K
 refine y09 (by kernel_rfl) ?_ _
 go_wp2_with fail
 refine bodyPost_ret (y1h rfl _ _ (rp + 1) 180 _ (0, 0) _ rfl HZ.out Tryz.underlying180 rfl (by rw [HI.out]; rfl)) rfl ?_
 exact ⟨_, [], f, R, rfl, ORow.nil _ _, rfl, ⟨by simp, by simp⟩, (H1.out.keeps HKR.out (fun e => by have e : g = rp + 1 := e; have := HGL.out; omega) (fun e => by have e : f.gm = rp + 1 := e; have := HML.out; omega) (fun b hb e => by have e : b = rp + 1 := e; have := HRL.out b hb; omega)), rfl, fun b hb => .inl hb, (HK1.out.mono (fun _ h => h.elim)).trans' HKR.out (fun i hi hl => by have e : i = rp + 1 := hi; have := HRP.out; omega)⟩
theorem heed_ended (R : Nat → Prop) (g : Nat) (f : NF) (n : Pure.Neg) (pi : Int) (pd : List UInt8) (DA : Option Addr) (dc : Nat) (uv : Value) (w : World) (h : NObj w g R f n) :
  Calls Tryz.prog 133 #[.pointer (some ⟨g, 0, none⟩), pktV ⟨6, pi, pd⟩ (.slice DA pd.length dc), uv] w fun e w' => y4g w g R f ⟨6, pi, pd⟩ (.slice DA pd.length dc) (11, n, ⟨⟨6, pi, pd⟩, 0, []⟩) e w' := by
 have HI := xhd y2h
 obtain ⟨w1, hw1, hP, hO, hC, hk1⟩ := y37 w #[.int .i64 6, .int .i64 pi, .slice DA pd.length dc] #[.int .i64 0, .int .i64 0, .slice none 0 0, .int .i64 0, .slice none 0 0] #[.int .i64 6, .int .i64 pi, .slice DA pd.length dc, .int .i64 0, .slice none 0 0] 56 180 180
 obtain ⟨rp, hrp⟩ : ∃ q, q = w.heap.size := ⟨_, rfl⟩
 rw [← hrp] at hP hO hC
 have hgl := h.blk.lt
 have hml := Blk.lt h.mach
 have H1 := xhd (h.keeps hk1 (fun h => h) (fun h => h) (fun _ _ h => h))
 have HP := xhd hP
 have HO := xhd hO
 have HC := xhd hC
 have HK1 := xhd hk1
 have HRL := xhd (show ∀ b, R b → b < rp by rw [hrp]; exact h.lt)
 have HGL := xhd (show g < rp by omega)
 have HML := xhd (show f.gm < rp by omega)
 have HRP := xhd (show w.heap.size = rp from hrp.symm)
 have HKZ0 := xhd (Keeps.refl y01 w1)
 have q0 : w1.cell? ⟨rp, 0, none⟩ = some (.int .i64 6) := by rw [hP.cell]; rfl
 go_enter Tryz.func133, Tryz.ntmps133
 go_upto_region 2 with fail
 rw [← hrp]
 rw [← hw1]
 clear hw1 hP hO hC hk1 hgl hml hrp h
 go_wp2_with fail
 refine y0b (fun w' => Blk w' (rp + 1 + 1) 180 #[.int .i64 6, .int .i64 pi, .slice DA pd.length dc, .int .i64 0, .slice none 0 0]) 2 3 rfl (by kernel_rfl) HC.out (fun hHeld => ?_)
 have HSW := hHeld
 clear hHeld
 have HK0d := xhd (HKZ0.out.drew)
 refine y00 (i := 0) rfl (by kernel_rfl) (fun _ _ _ h => h) (Or.inl ⟨by rfl, by intro w hSw; have s0 : w.cell? ⟨rp + 1 + 1, 0, none⟩ = some (.int .i64 6) := (by rw [Blk.cell hSw]; rfl); have s1 : w.cell? ⟨rp + 1 + 1, 1, none⟩ = some (.int .i64 pi) := (by rw [Blk.cell hSw]; rfl); have s2 : w.cell? ⟨rp + 1 + 1, 2, none⟩ = some (.slice DA pd.length dc) := (by rw [Blk.cell hSw]; rfl); have s3 : w.cell? ⟨rp + 1 + 1, 3, none⟩ = some (.int .i64 0) := (by rw [Blk.cell hSw]; rfl); have s4 : w.cell? ⟨rp + 1 + 1, 4, none⟩ = some (.slice none 0 0) := (by rw [Blk.cell hSw]; rfl); go_simp; try with_reducible rfl⟩) HSW.out ?_
 simp only [Act.put, xqA, xqB, xqD, xqE, xqF]
 refine y00 (i := 1) rfl (by kernel_rfl) (fun _ _ _ h => h) (Or.inl ⟨by rfl, by intro w hSw; skip; go_simp; try with_reducible rfl⟩) HSW.out ?_
 simp only [Act.put, xqA, xqB, xqC, xqD, xqE, xqF]
 have hOz := HO.out
 have y0 : w1.cell? ⟨rp + 1, 0, none⟩ = some (.int .i64 0) := by rw [hOz.cell]; rfl
 have v0 := hOz.frozen 0
 have y1 : w1.cell? ⟨rp + 1, 1, none⟩ = some (.int .i64 0) := by rw [hOz.cell]; rfl
 have v1 := hOz.frozen 1
 have y2 : w1.cell? ⟨rp + 1, 2, none⟩ = some (.slice none 0 0) := by rw [hOz.cell]; rfl
 have v2 := hOz.frozen 2
 have y3 : w1.cell? ⟨rp + 1, 3, none⟩ = some (.int .i64 0) := by rw [hOz.cell]; rfl
 have v3 := hOz.frozen 3
 have y4 : w1.cell? ⟨rp + 1, 4, none⟩ = some (.slice none 0 0) := by rw [hOz.cell]; rfl
 have v4 := hOz.frozen 4
 have HZ := xhd (((((hOz.set 0 (.int .i64 6)).set 1 (.int .i64 pi)).set 2 (.slice DA pd.length dc)).set 3 (.int .i64 0)).set 4 (.slice none 0 0))
 have HKR := xhd (((((((Keeps.refl (only (rp + 1)) w1).put 0 (.int .i64 6)).put 1 (.int .i64 pi)).put 2 (.slice DA pd.length dc)).put 3 (.int .i64 0)).put 4 (.slice none 0 0)).drew)
 clear hOz
 refine y03 (i := 2) (by kernel_rfl) rfl (fun K hK => ?_)
 go_simp
 refine hK.out _ _ (fun h => absurd rfl h) ?_
 clear hK K
 refine y09 (by kernel_rfl) ?_ _
 go_wp2_with fail
 refine bodyPost_ret (y1h rfl _ _ (rp + 1) 180 _ (0, 0) _ rfl HZ.out Tryz.underlying180 rfl (by rw [HI.out]; rfl)) rfl ?_
 exact ⟨_, [], f, R, rfl, ORow.nil _ _, rfl, ⟨by simp, by simp⟩, (H1.out.keeps HKR.out (fun e => by have e : g = rp + 1 := e; have := HGL.out; omega) (fun e => by have e : f.gm = rp + 1 := e; have := HML.out; omega) (fun b hb e => by have e : b = rp + 1 := e; have := HRL.out b hb; omega)), rfl, fun b hb => .inl hb, (HK1.out.mono (fun _ h => h.elim)).trans' HKR.out (fun i hi hl => by have e : i = rp + 1 := hi; have := HRP.out; omega)⟩
theorem yf3 (R : Nat → Prop) (g : Nat) (f : NF) (n : Pure.Neg) (pc : Int) (pi : Int) (pd : List UInt8) (DA : Option Addr) (dc : Nat) (uv : Value) (w : World) (h : NObj w g R f n) (hpc : pc < 1 ∨ 7 < pc) :
  Calls Tryz.prog 133 #[.pointer (some ⟨g, 0, none⟩), pktV ⟨pc, pi, pd⟩ (.slice DA pd.length dc), uv] w fun e w' => y4g w g R f ⟨pc, pi, pd⟩ (.slice DA pd.length dc) (12, n, ⟨⟨pc, pi, pd⟩, 0, []⟩) e w' := by
 have r1 : (pc == 1) = false := by rw [beq_eq_false_iff_ne]; omega
 have r2 : (pc == 2) = false := by rw [beq_eq_false_iff_ne]; omega
 have r3 : (pc == 3) = false := by rw [beq_eq_false_iff_ne]; omega
 have r4 : (pc == 4) = false := by rw [beq_eq_false_iff_ne]; omega
 have r5 : (pc == 5) = false := by rw [beq_eq_false_iff_ne]; omega
 have r6 : (pc == 6) = false := by rw [beq_eq_false_iff_ne]; omega
 have r7 : (pc == 7) = false := by rw [beq_eq_false_iff_ne]; omega
 clear hpc
 have HI := xhd y2h
 obtain ⟨w1, hw1, hP, hO, hC, hk1⟩ := y37 w #[.int .i64 pc, .int .i64 pi, .slice DA pd.length dc] #[.int .i64 0, .int .i64 0, .slice none 0 0, .int .i64 0, .slice none 0 0] #[.int .i64 pc, .int .i64 pi, .slice DA pd.length dc, .int .i64 0, .slice none 0 0] 56 180 180
 obtain ⟨rp, hrp⟩ : ∃ q, q = w.heap.size := ⟨_, rfl⟩
 rw [← hrp] at hP hO hC
 have hgl := h.blk.lt
 have hml := Blk.lt h.mach
 have H1 := xhd (h.keeps hk1 (fun h => h) (fun h => h) (fun _ _ h => h))
 have HP := xhd hP
 have HO := xhd hO
 have HC := xhd hC
 have HK1 := xhd hk1
 have HRL := xhd (show ∀ b, R b → b < rp by rw [hrp]; exact h.lt)
 have HGL := xhd (show g < rp by omega)
 have HML := xhd (show f.gm < rp by omega)
 have HRP := xhd (show w.heap.size = rp from hrp.symm)
 have HKZ0 := xhd (Keeps.refl y01 w1)
 have q0 : w1.cell? ⟨rp, 0, none⟩ = some (.int .i64 pc) := by rw [hP.cell]; rfl
 go_enter Tryz.func133, Tryz.ntmps133
 go_upto_region 2 with fail
 rw [← hrp]
 rw [← hw1]
 clear hw1 hP hO hC hk1 hgl hml hrp h
 go_wp2_with fail
 refine y0b (fun w' => Blk w' (rp + 1 + 1) 180 #[.int .i64 pc, .int .i64 pi, .slice DA pd.length dc, .int .i64 0, .slice none 0 0]) 2 3 rfl (by kernel_rfl) HC.out (fun hHeld => ?_)
 have HSW := hHeld
 clear hHeld
 have HK0d := xhd (HKZ0.out.drew)
 refine y00 (i := 0) rfl (by kernel_rfl) (fun _ _ _ h => h) (Or.inl ⟨by rfl, by intro w hSw; have s0 : w.cell? ⟨rp + 1 + 1, 0, none⟩ = some (.int .i64 pc) := (by rw [Blk.cell hSw]; rfl); have s1 : w.cell? ⟨rp + 1 + 1, 1, none⟩ = some (.int .i64 pi) := (by rw [Blk.cell hSw]; rfl); have s2 : w.cell? ⟨rp + 1 + 1, 2, none⟩ = some (.slice DA pd.length dc) := (by rw [Blk.cell hSw]; rfl); have s3 : w.cell? ⟨rp + 1 + 1, 3, none⟩ = some (.int .i64 0) := (by rw [Blk.cell hSw]; rfl); have s4 : w.cell? ⟨rp + 1 + 1, 4, none⟩ = some (.slice none 0 0) := (by rw [Blk.cell hSw]; rfl); go_simp; try with_reducible rfl⟩) HSW.out ?_
 simp only [Act.put, xqA, xqB, xqD, xqE, xqF]
 refine y00 (i := 1) rfl (by kernel_rfl) (fun _ _ _ h => h) (Or.inl ⟨by rfl, by intro w hSw; skip; go_simp; try with_reducible rfl⟩) HSW.out ?_
 simp only [Act.put, xqA, xqB, xqC, xqD, xqE, xqF]
 have hOz := HO.out
 have y0 : w1.cell? ⟨rp + 1, 0, none⟩ = some (.int .i64 0) := by rw [hOz.cell]; rfl
 have v0 := hOz.frozen 0
 have y1 : w1.cell? ⟨rp + 1, 1, none⟩ = some (.int .i64 0) := by rw [hOz.cell]; rfl
 have v1 := hOz.frozen 1
 have y2 : w1.cell? ⟨rp + 1, 2, none⟩ = some (.slice none 0 0) := by rw [hOz.cell]; rfl
 have v2 := hOz.frozen 2
 have y3 : w1.cell? ⟨rp + 1, 3, none⟩ = some (.int .i64 0) := by rw [hOz.cell]; rfl
 have v3 := hOz.frozen 3
 have y4 : w1.cell? ⟨rp + 1, 4, none⟩ = some (.slice none 0 0) := by rw [hOz.cell]; rfl
 have v4 := hOz.frozen 4
 have HZ := xhd (((((hOz.set 0 (.int .i64 pc)).set 1 (.int .i64 pi)).set 2 (.slice DA pd.length dc)).set 3 (.int .i64 0)).set 4 (.slice none 0 0))
 have HKR := xhd (((((((Keeps.refl (only (rp + 1)) w1).put 0 (.int .i64 pc)).put 1 (.int .i64 pi)).put 2 (.slice DA pd.length dc)).put 3 (.int .i64 0)).put 4 (.slice none 0 0)).drew)
 clear hOz
 refine y03 (i := 2) (by kernel_rfl) rfl (fun K hK => ?_)
 go_simp
 refine hK.out _ _ (fun h => absurd rfl h) ?_
 clear hK K
 refine y09 (by kernel_rfl) ?_ _
 go_wp2_with fail
 refine bodyPost_ret (y1h rfl _ _ (rp + 1) 180 _ (0, 0) _ rfl HZ.out Tryz.underlying180 rfl (by rw [HI.out]; rfl)) rfl ?_
 exact ⟨_, [], f, R, rfl, ORow.nil _ _, rfl, ⟨by simp, by simp⟩, (H1.out.keeps HKR.out (fun e => by have e : g = rp + 1 := e; have := HGL.out; omega) (fun e => by have e : f.gm = rp + 1 := e; have := HML.out; omega) (fun b hb e => by have e : b = rp + 1 := e; have := HRL.out b hb; omega)), rfl, fun b hb => .inl hb, (HK1.out.mono (fun _ h => h.elim)).trans' HKR.out (fun i hi hl => by have e : i = rp + 1 := hi; have := HRP.out; omega)⟩
theorem ye8 (R : Nat → Prop) (g : Nat) (f : NF) (n : Pure.Neg) (pi : Int) (b : UInt8) (r : List UInt8) (db doff dc ev : Nat) (uv : Value) (w : World) (h : NObj w g R f n) (hev : ev = if 1 ≤ b.toNat ∧ b.toNat ≤ 7 then 14 else 13) (hb : w.cell? ⟨db, doff, none⟩ = some (.int .u8 (b.toNat : Nat))) :
  Calls Tryz.prog 133 #[.pointer (some ⟨g, 0, none⟩), pktV ⟨7, pi, b :: r⟩ (.slice (some ⟨db, doff, none⟩) (r.length + 1) dc), uv] w fun e w' => y4g w g R f ⟨7, pi, b :: r⟩ (.slice (some ⟨db, doff, none⟩) (r.length + 1) dc) (ev, n, ⟨⟨7, pi, b :: r⟩, 0, []⟩) e w' := by
 have i1 : (0 : Int) < ((r.length + 1 : Nat) : Int) := by omega
 have HRJ := xhd (fun W : World => (show Calls Tryz.prog 175 #[.int .u8 (b.toNat : Nat)] W fun e w' => e = .returned (.int .i64 (ev : Int)) ∧ W = w' by rw [hev]; exact yej b W))
 clear hev
 have HI := xhd y2h
 obtain ⟨w1, hw1, hP, hO, hC, hk1⟩ := y37 w #[.int .i64 7, .int .i64 pi, .slice (some ⟨db, doff, none⟩) (r.length + 1) dc] #[.int .i64 0, .int .i64 0, .slice none 0 0, .int .i64 0, .slice none 0 0] #[.int .i64 7, .int .i64 pi, .slice (some ⟨db, doff, none⟩) (r.length + 1) dc, .int .i64 0, .slice none 0 0] 56 180 180
 obtain ⟨rp, hrp⟩ : ∃ q, q = w.heap.size := ⟨_, rfl⟩
 rw [← hrp] at hP hO hC
 have hgl := h.blk.lt
 have hml := Blk.lt h.mach
 have H1 := xhd (h.keeps hk1 (fun h => h) (fun h => h) (fun _ _ h => h))
 have HP := xhd hP
 have HO := xhd hO
 have HC := xhd hC
 have HK1 := xhd hk1
 have HRL := xhd (show ∀ b, R b → b < rp by rw [hrp]; exact h.lt)
 have HGL := xhd (show g < rp by omega)
 have HML := xhd (show f.gm < rp by omega)
 have HRP := xhd (show w.heap.size = rp from hrp.symm)
 have HKZ0 := xhd (Keeps.refl y01 w1)
 have HSB := xhd (show w1.cell? ⟨db, doff, none⟩ = some (.int .u8 (b.toNat : Nat)) from y04 hb hk1)
 have HQ2 := xhd (show w1.cell? ⟨rp, 2, none⟩ = some (.slice (some ⟨db, doff, none⟩) (r.length + 1) dc) by rw [hP.cell]; rfl)
 have q0 : w1.cell? ⟨rp, 0, none⟩ = some (.int .i64 7) := by rw [hP.cell]; rfl
 go_enter Tryz.func133, Tryz.ntmps133
 go_upto_region 2 with fail
 rw [← hrp]
 rw [← hw1]
 clear hw1 hP hO hC hk1 hgl hml hrp h hb
 go_wp2_with fail
 refine y0b (fun w' => (Blk w' (rp + 1 + 1) 180 #[.int .i64 7, .int .i64 pi, .slice (some ⟨db, doff, none⟩) (r.length + 1) dc, .int .i64 0, .slice none 0 0]) ∧ w'.cell? ⟨rp, 2, none⟩ = some (.slice (some ⟨db, doff, none⟩) (r.length + 1) dc) ∧ w'.cell? ⟨db, doff, none⟩ = some (.int .u8 (b.toNat : Nat))) 7 8 rfl (by kernel_rfl) ⟨HC.out, HQ2.out, HSB.out⟩ (fun hHeld => ?_)
 have HSW := hHeld
 clear hHeld
 have HK0d := xhd (HKZ0.out.drew)
 refine y00 (i := 0) rfl (by kernel_rfl) (fun _ _ _ h => h) (Or.inl ⟨by rfl, by intro w hSw; skip; go_simp; try with_reducible rfl⟩) HSW.out ?_
 simp only [Act.put, xqA, xqB, xqD, xqE, xqF]
 refine y00 (i := 1) rfl (by kernel_rfl) (fun _ _ _ h => h) (Or.inl ⟨by rfl, by intro w hSw; have s2 := hSw.2.1; go_simp; try with_reducible rfl⟩) HSW.out ?_
 simp only [Act.put, xqA, xqB, xqC, xqD, xqE, xqF]
 refine y00 (i := 2) rfl (by kernel_rfl) (fun _ _ _ h => h) (Or.inl ⟨by rfl, by intro w hSw; skip; go_simp; try with_reducible rfl⟩) HSW.out ?_
 simp only [Act.put, xqA, xqB, xqC, xqD, xqE, xqF]
 refine y00 (i := 3) rfl (by kernel_rfl) (fun _ _ _ h => h) (Or.inl ⟨by rfl, by intro w hSw; have sb := hSw.2.2; go_simp; try with_reducible rfl⟩) HSW.out ?_
 simp only [Act.put, xqA, xqB, xqC, xqD, xqE, xqF]
 refine y00 (i := 5) rfl (by kernel_rfl) (fun _ _ _ h => h) (Or.inl ⟨by rfl, by intro w hSw; have s0 : w.cell? ⟨rp + 1 + 1, 0, none⟩ = some (.int .i64 7) := (by rw [Blk.cell hSw.1]; rfl); have s1 : w.cell? ⟨rp + 1 + 1, 1, none⟩ = some (.int .i64 pi) := (by rw [Blk.cell hSw.1]; rfl); have s2 : w.cell? ⟨rp + 1 + 1, 2, none⟩ = some (.slice (some ⟨db, doff, none⟩) (r.length + 1) dc) := (by rw [Blk.cell hSw.1]; rfl); have s3 : w.cell? ⟨rp + 1 + 1, 3, none⟩ = some (.int .i64 0) := (by rw [Blk.cell hSw.1]; rfl); have s4 : w.cell? ⟨rp + 1 + 1, 4, none⟩ = some (.slice none 0 0) := (by rw [Blk.cell hSw.1]; rfl); go_simp; try with_reducible rfl⟩) HSW.out ?_
 simp only [Act.put, xqA, xqB, xqC, xqD, xqE, xqF]
 refine y03 (i := 4) (by kernel_rfl) rfl (fun K hK => ?_)
 try rw [if_pos (by rfl)]
 go_simp
 refine (HRJ.out _).mono ?_
 rintro e w2 ⟨rfl, rfl⟩
 refine hK.out _ _ (fun _ => HSW.out) ?_
 clear hK K
 try simp only [Act.put, xqA, Nat.reduceAdd, xqB, xqC, xqD, xqE, xqF]
 refine y00 (i := 6) rfl (by kernel_rfl) (fun _ _ _ h => h) (Or.inl ⟨by rfl, by intro w hSw; skip; go_simp; try with_reducible rfl⟩) HSW.out ?_
 simp only [Act.put, xqA, xqB, xqC, xqD, xqE, xqF]
 have hOz := HO.out
 have y0 : w1.cell? ⟨rp + 1, 0, none⟩ = some (.int .i64 0) := by rw [hOz.cell]; rfl
 have v0 := hOz.frozen 0
 have y1 : w1.cell? ⟨rp + 1, 1, none⟩ = some (.int .i64 0) := by rw [hOz.cell]; rfl
 have v1 := hOz.frozen 1
 have y2 : w1.cell? ⟨rp + 1, 2, none⟩ = some (.slice none 0 0) := by rw [hOz.cell]; rfl
 have v2 := hOz.frozen 2
 have y3 : w1.cell? ⟨rp + 1, 3, none⟩ = some (.int .i64 0) := by rw [hOz.cell]; rfl
 have v3 := hOz.frozen 3
 have y4 : w1.cell? ⟨rp + 1, 4, none⟩ = some (.slice none 0 0) := by rw [hOz.cell]; rfl
 have v4 := hOz.frozen 4
 have HZ := xhd (((((hOz.set 0 (.int .i64 7)).set 1 (.int .i64 pi)).set 2 (.slice (some ⟨db, doff, none⟩) (r.length + 1) dc)).set 3 (.int .i64 0)).set 4 (.slice none 0 0))
 have HKR := xhd (((((((Keeps.refl (only (rp + 1)) w1).put 0 (.int .i64 7)).put 1 (.int .i64 pi)).put 2 (.slice (some ⟨db, doff, none⟩) (r.length + 1) dc)).put 3 (.int .i64 0)).put 4 (.slice none 0 0)).drew)
 clear hOz
 refine y03 (i := 7) (by kernel_rfl) rfl (fun K hK => ?_)
 go_simp
 refine hK.out _ _ (fun h => absurd rfl h) ?_
 clear hK K
 refine y09 (by kernel_rfl) ?_ _
 go_wp2_with fail
 refine bodyPost_ret (y1h rfl _ _ (rp + 1) 180 _ (0, 0) _ rfl HZ.out Tryz.underlying180 rfl (by rw [HI.out]; rfl)) rfl ?_
 exact ⟨_, [], f, R, rfl, ORow.nil _ _, rfl, ⟨by simp, by simp⟩, (H1.out.keeps HKR.out (fun e => by have e : g = rp + 1 := e; have := HGL.out; omega) (fun e => by have e : f.gm = rp + 1 := e; have := HML.out; omega) (fun b hb e => by have e : b = rp + 1 := e; have := HRL.out b hb; omega)), rfl, fun b hb => .inl hb, (HK1.out.mono (fun _ h => h.elim)).trans' HKR.out (fun i hi hl => by have e : i = rp + 1 := hi; have := HRP.out; omega)⟩
end Go.Proofs.YtmgicbckgpdkcaaGreatDoor
