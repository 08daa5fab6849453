/- Package nego: settle. -/
import Derived.Test.YtjomcffhbaplcaaGreatDoorQ36
namespace Go.Proofs.YtjomcffhbaplcaaGreatDoor
open Go.RowKit
/-- What it is behind an answer. -/
def Settled (w : World) (g : Nat) (R : Nat → Prop) (f : NF) (n' : Pure.Neg) (w' : World) : Prop :=
  ∃ f', NObj w' g (Later w w' R) f' n' ∧ f'.gm = f.gm ∧ Keeps (only g) w w'
theorem Settled.keeps {w w' : World} {g : Nat} {R : Nat → Prop} {f : NF} {n' : Pure.Neg} (h : Settled w g R f n' w') : Keeps (only g) w w' := by obtain ⟨_, _, _, h⟩ := h; exact h
/-- A cell of another block. -/
theorem cell_far {w w' : World} {g b off : Nat} (k : Keeps (only g) w w') (hb : b ≠ g) {u : Value} (h : w.cell? ⟨b, off, none⟩ = some u) : w'.cell? ⟨b, off, none⟩ = some u :=
  (World.cell?_of_block (w := w) (a := ⟨b, off, none⟩) (k.block b (cell_lt h) (fun e => hb e))).trans h
theorem Opts.read {w0 w w' : World} {R : Nat → Prop} {v : Value} {qs : List (Value × Pure.Opt)} {l : List Pure.Opt} (h : ORow w' (fun b => w0.heap.size ≤ b) v qs) (he : optsOf qs = l) (hf : Pure.Fine l) (hs : w.heap.size ≤ w0.heap.size) : Opts w' (Later w w' R) v l :=
  ⟨qs, h.strong.mono (fun _ hb => ⟨.inr (Nat.le_trans hs hb.1), hb.2⟩), he, fine_few (by rw [he]; exact hf)⟩
set_option maxRecDepth 100000 in
set_option maxHeartbeats 4000000 in
theorem settle_ack (R : Nat → Prop) (g : Nat) (f : NF) (n : Pure.Neg) (uv : Value) (w : World) (h : NObj w g R f n) :
    Calls Tryz.prog 66 #[.pointer (some ⟨g, 0, none⟩), .int .i64 2, uv] w fun e w' => e = .returned (.int .i64 8) ∧ Settled w g R f { n with waits := false, acked := (Pure.split n.ours).2 } w' := by
  have hb : Blk w g 77 f.list.toArray := h.blk
  obtain ⟨w1, hw1⟩ : ∃ q, q = w.setCell ⟨g, 8, none⟩ (.bool false) := ⟨_, rfl⟩
  have c7 : w.cell? ⟨g, 8, none⟩ = some (.bool f.aopen) := h.blk.cell 8
  have f7 := hb.frozen 8
  have hb1 : Blk w1 g 77 ({ f with aopen := false } : NF).list.toArray := by rw [hw1]; exact hb.set 8 (.bool false)
  have c6 : w1.cell? ⟨g, 7, none⟩ = some f.aopts := by rw [hb1.cell]; rfl
  have c10 : w1.cell? ⟨g, 11, none⟩ = some f.mine := by rw [hb1.cell]; rfl
  have f10 := hb1.frozen 11
  have k1 : Keeps (only g) w w1 := by rw [hw1]; exact (Keeps.refl (only g) w).put 8 _
  have HB2 := Lib.hid (show NBlk (w1.setCell ⟨g, 11, none⟩ f.aopts) g { f with aopen := false, mine := f.aopts } from hb1.set 11 f.aopts)
  have HK2 := Lib.hid (show Keeps (only g) w (w1.setCell ⟨g, 11, none⟩ f.aopts) from k1.put 11 _)
  obtain ⟨zs, hz, hze, hzw⟩ := h.aopts
  obtain ⟨A, c, hA, _⟩ := hz.form
  have HA := Lib.hid hA
  have H := Lib.hid h
  clear h hb hb1 k1 hz hze hzw
  rw [hA] at c6
  go_enter Tryz.func66, Tryz.ntmps66
  go_upto_region 2 with fail
  rw [← hw1]
  clear hw1 c7 f7
  go_wp2_with fail
  go_ret
  rw [← HA.out]
  refine ⟨rfl, _, H.out.turn HK2.out HB2.out ⟨H.out.well.good, H.out.well.tries, H.out.well.timeout, H.out.well.id, H.out.well.first, H.out.well.request, H.out.well.asked, H.out.well.ours⟩ rfl rfl rfl rfl rfl H.out.e2 H.out.e3 H.out.e4 rfl H.out.e6
    (H.out.first.later HK2.out H.out.ng H.out.lt) (H.out.request.later HK2.out H.out.ng H.out.lt) (H.out.aopts.later HK2.out H.out.ng H.out.lt) (H.out.aopts.later HK2.out H.out.ng H.out.lt) (H.out.given.later HK2.out H.out.ng H.out.lt), rfl, HK2.out⟩
set_option maxRecDepth 100000 in
set_option maxHeartbeats 4000000 in
theorem settle_nak (R Fz : Nat → Prop) (g : Nat) (f : NF) (n : Pure.Neg) (uv : Value) (zs : List (Value × Pure.Opt)) (w : World) (h : NObj w g R f n) (hz : ORow w Fz uv zs) (hfz : Pure.Fine (optsOf zs)) (hFz : ∀ b, Fz b → b ≠ g) :
    Calls Tryz.prog 66 #[.pointer (some ⟨g, 0, none⟩), .int .i64 3, uv] w fun e w' => e = .returned (.int .i64 9) ∧ Settled w g R f { n with waits := false, request := Pure.naked n.rules n.request (optsOf zs) } w' := by
  have hb : Blk w g 77 f.list.toArray := h.blk
  obtain ⟨w1, hw1⟩ : ∃ q, q = w.setCell ⟨g, 8, none⟩ (.bool false) := ⟨_, rfl⟩
  obtain ⟨us, hu, hue, hfu⟩ := h.rules
  obtain ⟨zq, hx, hxe, hfx⟩ := h.request
  obtain ⟨U, cu, hU, _⟩ := hu.form
  obtain ⟨X, cx, hX, _⟩ := hx.form
  obtain ⟨Z, cz, rfl, _⟩ := hz.form
  have c7 : w.cell? ⟨g, 8, none⟩ = some (.bool f.aopen) := h.blk.cell 8
  have f7 := hb.frozen 8
  have hb1 : Blk w1 g 77 ({ f with aopen := false } : NF).list.toArray := by rw [hw1]; exact hb.set 8 (.bool false)
  have c1 : w1.cell? ⟨g, 1, none⟩ = some f.rules := by rw [hb1.cell]; rfl
  have c4 : w1.cell? ⟨g, 5, none⟩ = some f.request := by rw [hb1.cell]; rfl
  rw [hU] at c1 hu
  rw [hX] at c4 hx
  have k1 : Keeps (only g) w w1 := by rw [hw1]; exact (Keeps.refl (only g) w).put 8 _
  have HB1 := Lib.hid (show NBlk w1 g { f with aopen := false } from hb1)
  have HGL := Lib.hid (show g < w1.heap.size from hb1.lt)
  have HK1 := Lib.hid k1
  have KS := Lib.hid (fun (W : World) (k : Keeps nobody w1 W) => (k1.trans (k.mono (fun _ h => h.elim)) : Keeps (only g) w W))
  have HU := Lib.hid hu
  have HX := Lib.hid hx
  have HZ := Lib.hid hz
  have HUE := Lib.hid hue
  have HXE := Lib.hid hxe
  have HFU := Lib.hid hfu
  have HFX := Lib.hid hfx
  have HFN := Lib.hid hfz
  have HFZ := Lib.hid (fine_few hfz)
  have HRG := Lib.hid (show ∀ b, R b → ¬ only g b from fun b hb e => h.ng (by have e : b = g := e; exact e ▸ hb))
  have HFG := Lib.hid (show ∀ b, Fz b → ¬ only g b from fun b hb e => hFz b hb e)
  have HKZ0 := Lib.hid (Keeps.refl nobody w1)
  have H := Lib.hid h
  clear h hb hb1 k1 hu hx hz hue hxe hfu hfx hfz hFz hU hX
  go_enter Tryz.func66, Tryz.ntmps66
  go_upto_region 2 with fail
  rw [← hw1]
  clear hw1 c7 f7
  go_wp2_with fail
  refine wp_region_Z (fun w' => w'.cell? ⟨g, 1, none⟩ = some (.slice U us.length cu) ∧ w'.cell? ⟨g, 5, none⟩ = some (.slice X zq.length cx) ∧ NBlk w' g { f with aopen := false }) 13 14 rfl (by kernel_rfl) ⟨c1, c4, HB1.out⟩ (fun hHeld => ?_)
  have HSW := hHeld
  clear hHeld
  have HK0d := Lib.hid (HKZ0.out.drew)
  refine wpAnyZ_take (i := 0) rfl (by kernel_rfl) (fun _ _ _ h => h) (Or.inl ⟨by rfl, by intro w hSw; obtain ⟨s0, s1, _⟩ := hSw; go_simp; try with_reducible rfl⟩) HSW.out ?_
  simp only [Act.put, List.setIfInBounds_toArray, List.getElem_toArray, List.getElem_cons_zero, List.set_cons_succ, List.set_cons_zero]
  refine wpAnyZ_take (i := 1) rfl (by kernel_rfl) (fun _ _ _ h => h) (Or.inl ⟨by rfl, by intro w hSw; obtain ⟨s0, s1, _⟩ := hSw; go_simp; try with_reducible rfl⟩) HSW.out ?_
  simp only [Act.put, List.setIfInBounds_toArray, List.getElem_toArray, List.getElem_cons_succ, List.getElem_cons_zero, List.set_cons_succ, List.set_cons_zero]
  refine wpAnyZ_take (i := 2) rfl (by kernel_rfl) (fun _ _ _ h => h) (Or.inl ⟨by rfl, by intro w hSw; obtain ⟨s0, s1, _⟩ := hSw; go_simp; try with_reducible rfl⟩) HSW.out ?_
  simp only [Act.put, List.setIfInBounds_toArray, List.getElem_toArray, List.getElem_cons_succ, List.getElem_cons_zero, List.set_cons_succ, List.set_cons_zero]
  refine wpAnyZ_take (i := 3) rfl (by kernel_rfl) (fun _ _ _ h => h) (Or.inl ⟨by rfl, by intro w hSw; obtain ⟨s0, s1, _⟩ := hSw; go_simp; try with_reducible rfl⟩) HSW.out ?_
  simp only [Act.put, List.setIfInBounds_toArray, List.getElem_toArray, List.getElem_cons_succ, List.getElem_cons_zero, List.set_cons_succ, List.set_cons_zero]
  refine wpAnyZ_take (i := 4) rfl (by kernel_rfl) (fun _ _ _ h => h) (Or.inl ⟨by rfl, by intro w hSw; obtain ⟨s0, s1, _⟩ := hSw; go_simp; try with_reducible rfl⟩) HSW.out ?_
  simp only [Act.put, List.setIfInBounds_toArray, List.getElem_toArray, List.getElem_cons_succ, List.getElem_cons_zero, List.set_cons_succ, List.set_cons_zero]
  refine wpAnyZ_take (i := 5) rfl (by kernel_rfl) (fun _ _ _ h => h) (Or.inl ⟨by rfl, by intro w hSw; obtain ⟨s0, s1, _⟩ := hSw; go_simp; try with_reducible rfl⟩) HSW.out ?_
  simp only [Act.put, List.setIfInBounds_toArray, List.getElem_toArray, List.getElem_cons_succ, List.getElem_cons_zero, List.set_cons_succ, List.set_cons_zero]
  refine wpAnyZ_take (i := 6) rfl (by kernel_rfl) (fun _ _ _ h => h) (Or.inl ⟨by rfl, by intro w hSw; obtain ⟨s0, s1, _⟩ := hSw; go_simp; try with_reducible rfl⟩) HSW.out ?_
  simp only [Act.put, List.setIfInBounds_toArray, List.getElem_toArray, List.getElem_cons_succ, List.getElem_cons_zero, List.set_cons_succ, List.set_cons_zero]
  refine wpAnyZ_take (i := 7) rfl (by kernel_rfl) (fun _ _ _ h => h) (Or.inl ⟨by rfl, by intro w hSw; obtain ⟨s0, s1, _⟩ := hSw; go_simp; try with_reducible rfl⟩) HSW.out ?_
  simp only [Act.put, List.setIfInBounds_toArray, List.getElem_toArray, List.getElem_cons_succ, List.getElem_cons_zero, List.set_cons_succ, List.set_cons_zero]
  refine wpAnyZ_take (i := 8) rfl (by kernel_rfl) (fun _ _ _ h => h) (Or.inl ⟨by rfl, by intro w hSw; obtain ⟨s0, s1, _⟩ := hSw; go_simp; try with_reducible rfl⟩) HSW.out ?_
  simp only [Act.put, List.setIfInBounds_toArray, List.getElem_toArray, List.getElem_cons_succ, List.getElem_cons_zero, List.set_cons_succ, List.set_cons_zero]
  refine wpAnyZ_take (i := 9) rfl (by kernel_rfl) (fun _ _ _ h => h) (Or.inl ⟨by rfl, by intro w hSw; obtain ⟨s0, s1, _⟩ := hSw; go_simp; try with_reducible rfl⟩) HSW.out ?_
  simp only [Act.put, List.setIfInBounds_toArray, List.getElem_toArray, List.getElem_cons_succ, List.getElem_cons_zero, List.set_cons_succ, List.set_cons_zero]
  refine wpAnyZ_one (i := 10) (by kernel_rfl) rfl (fun K hK => ?_)
  try rw [if_pos (by rfl)]
  go_simp
  refine (naked_any R R Fz _ _ _ us zq zs _ (HU.out.keeps (KS.out _ HK0d.out) HRG.out) (HX.out.keeps (KS.out _ HK0d.out) HRG.out) (HZ.out.keeps (KS.out _ HK0d.out) HFG.out) HFU.out HFX.out HFZ.out).mono ?_
  rintro e w2 ⟨u, qs, rfl, hqs, hrd⟩
  obtain ⟨A5, c5, rfl⟩ := own_form hrd.own
  have hk5 := Keeps.new hrd.below
  have HQS := Lib.hid hqs
  have HK5 := Lib.hid (HK0d.out.trans hk5)
  have HRQ := Lib.hid (hrd.row.mono (G := fun b => w1.heap.size ≤ b) (fun b hb => Nat.le_trans HK0d.out.size hb))
  have HS5 := Lib.hid (And.intro (cell_quiet HSW.out.1 hk5) (And.intro (cell_quiet HSW.out.2.1 hk5) (HSW.out.2.2.keeps hk5 (fun h => h))))
  clear hqs hrd hk5
  refine hK.out _ _ (fun _ => HS5.out) ?_
  clear hK K
  try simp only [Act.put, List.setIfInBounds_toArray, Nat.reduceAdd, List.getElem_toArray, List.getElem_cons_succ, List.getElem_cons_zero, List.set_cons_succ, List.set_cons_zero]
  refine wpAnyZ_take (i := 11) rfl (by kernel_rfl) (fun _ _ _ h => h) (Or.inl ⟨by rfl, by intro w hSw; obtain ⟨s0, s1, _⟩ := hSw; go_simp; try with_reducible rfl⟩) HS5.out ?_
  simp only [Act.put, List.setIfInBounds_toArray, List.getElem_toArray, List.getElem_cons_succ, List.getElem_cons_zero, List.set_cons_succ, List.set_cons_zero]
  refine wpAnyZ_take (i := 12) rfl (by kernel_rfl) (fun _ _ _ h => h) (Or.inl ⟨by rfl, by intro w hSw; obtain ⟨s0, s1, _⟩ := hSw; go_simp; try with_reducible rfl⟩) HS5.out ?_
  simp only [Act.put, List.setIfInBounds_toArray, List.getElem_toArray, List.getElem_cons_succ, List.getElem_cons_zero, List.set_cons_succ, List.set_cons_zero]
  have hN : Blk w2 g 77 ({ f with aopen := false } : NF).list.toArray := HS5.out.2.2
  have k4 : w2.cell? ⟨g, 5, none⟩ = some f.request := by rw [hN.cell]; rfl
  have l4 := hN.frozen 5
  have HB2 := Lib.hid (show NBlk (w2.setCell ⟨g, 5, none⟩ (.slice A5 qs.length c5)) g { f with aopen := false, request := .slice A5 qs.length c5 } from hN.set 5 (.slice A5 qs.length c5))
  have HK2 := Lib.hid (show Keeps (only g) w (w2.setCell ⟨g, 5, none⟩ (.slice A5 qs.length c5)) from (HK1.out.trans (HK5.out.mono (fun _ h => h.elim))).put 5 _)
  have HRQ6 := Lib.hid (HRQ.out.keeps ((Keeps.refl (only g) w2).put 5 (.slice A5 qs.length c5)) (fun b hb e => by have e : b = g := e; have := HGL.out; omega))
  clear hN
  refine wpAnyZ_one (i := 13) (by kernel_rfl) rfl (fun K hK => ?_)
  go_simp
  refine hK.out _ _ (fun h => absurd rfl h) ?_
  clear hK K
  refine wpAnyZ_done (by kernel_rfl) ?_ _
  go_wp2_with fail
  go_ret
  have hqe : optsOf qs = Pure.naked n.rules n.request (optsOf zs) := by rw [HQS.out, HUE.out, HXE.out]
  have hfn : Pure.Fine (Pure.naked n.rules n.request (optsOf zs)) := Pure.fine_naked H.out.well.request HFN.out
  refine ⟨rfl, _, H.out.turn (n' := { n with waits := false, request := Pure.naked n.rules n.request (optsOf zs) }) HK2.out HB2.out ⟨H.out.well.good, H.out.well.tries, H.out.well.timeout, H.out.well.id, H.out.well.first, hfn, H.out.well.asked, H.out.well.ours⟩ rfl rfl rfl rfl rfl H.out.e2 H.out.e3 H.out.e4 rfl H.out.e6 (H.out.first.later HK2.out H.out.ng H.out.lt) (Opts.read HRQ6.out hqe hfn HK1.out.size) (H.out.aopts.later HK2.out H.out.ng H.out.lt) (H.out.mine.later HK2.out H.out.ng H.out.lt) (H.out.given.later HK2.out H.out.ng H.out.lt), rfl, HK2.out⟩
set_option maxRecDepth 100000 in
set_option maxHeartbeats 4000000 in
theorem settle_rej (R Fz : Nat → Prop) (g : Nat) (f : NF) (n : Pure.Neg) (uv : Value) (zs : List (Value × Pure.Opt)) (w : World) (h : NObj w g R f n) (hz : ORow w Fz uv zs) (hfz : Pure.Fine (optsOf zs)) (hFz : ∀ b, Fz b → b ≠ g) :
    Calls Tryz.prog 66 #[.pointer (some ⟨g, 0, none⟩), .int .i64 4, uv] w fun e w' => e = .returned (.int .i64 9) ∧ Settled w g R f { n with waits := false, request := Pure.left n.rules n.request (optsOf zs) } w' := by
  have hb : Blk w g 77 f.list.toArray := h.blk
  obtain ⟨w1, hw1⟩ : ∃ q, q = w.setCell ⟨g, 8, none⟩ (.bool false) := ⟨_, rfl⟩
  obtain ⟨us, hu, hue, hfu⟩ := h.rules
  obtain ⟨zq, hx, hxe, hfx⟩ := h.request
  obtain ⟨U, cu, hU, _⟩ := hu.form
  obtain ⟨X, cx, hX, _⟩ := hx.form
  obtain ⟨Z, cz, rfl, _⟩ := hz.form
  have c7 : w.cell? ⟨g, 8, none⟩ = some (.bool f.aopen) := h.blk.cell 8
  have f7 := hb.frozen 8
  have hb1 : Blk w1 g 77 ({ f with aopen := false } : NF).list.toArray := by rw [hw1]; exact hb.set 8 (.bool false)
  have c1 : w1.cell? ⟨g, 1, none⟩ = some f.rules := by rw [hb1.cell]; rfl
  have c4 : w1.cell? ⟨g, 5, none⟩ = some f.request := by rw [hb1.cell]; rfl
  rw [hU] at c1 hu
  rw [hX] at c4 hx
  have k1 : Keeps (only g) w w1 := by rw [hw1]; exact (Keeps.refl (only g) w).put 8 _
  have HB1 := Lib.hid (show NBlk w1 g { f with aopen := false } from hb1)
  have HGL := Lib.hid (show g < w1.heap.size from hb1.lt)
  have HK1 := Lib.hid k1
  have KS := Lib.hid (fun (W : World) (k : Keeps nobody w1 W) => (k1.trans (k.mono (fun _ h => h.elim)) : Keeps (only g) w W))
  have HU := Lib.hid hu
  have HX := Lib.hid hx
  have HZ := Lib.hid hz
  have HUE := Lib.hid hue
  have HXE := Lib.hid hxe
  have HFU := Lib.hid hfu
  have HFX := Lib.hid hfx
  have HFN := Lib.hid hfz
  have HFZ := Lib.hid (fine_few hfz)
  have HRG := Lib.hid (show ∀ b, R b → ¬ only g b from fun b hb e => h.ng (by have e : b = g := e; exact e ▸ hb))
  have HFG := Lib.hid (show ∀ b, Fz b → ¬ only g b from fun b hb e => hFz b hb e)
  have HKZ0 := Lib.hid (Keeps.refl nobody w1)
  have H := Lib.hid h
  clear h hb hb1 k1 hu hx hz hue hxe hfu hfx hfz hFz hU hX
  go_enter Tryz.func66, Tryz.ntmps66
  go_upto_region 2 with fail
  rw [← hw1]
  clear hw1 c7 f7
  go_wp2_with fail
  refine wp_region_Z (fun w' => w'.cell? ⟨g, 1, none⟩ = some (.slice U us.length cu) ∧ w'.cell? ⟨g, 5, none⟩ = some (.slice X zq.length cx) ∧ NBlk w' g { f with aopen := false }) 13 14 rfl (by kernel_rfl) ⟨c1, c4, HB1.out⟩ (fun hHeld => ?_)
  have HSW := hHeld
  clear hHeld
  have HK0d := Lib.hid (HKZ0.out.drew)
  refine wpAnyZ_take (i := 0) rfl (by kernel_rfl) (fun _ _ _ h => h) (Or.inl ⟨by rfl, by intro w hSw; obtain ⟨s0, s1, _⟩ := hSw; go_simp; try with_reducible rfl⟩) HSW.out ?_
  simp only [Act.put, List.setIfInBounds_toArray, List.getElem_toArray, List.getElem_cons_zero, List.set_cons_succ, List.set_cons_zero]
  refine wpAnyZ_take (i := 1) rfl (by kernel_rfl) (fun _ _ _ h => h) (Or.inl ⟨by rfl, by intro w hSw; obtain ⟨s0, s1, _⟩ := hSw; go_simp; try with_reducible rfl⟩) HSW.out ?_
  simp only [Act.put, List.setIfInBounds_toArray, List.getElem_toArray, List.getElem_cons_succ, List.getElem_cons_zero, List.set_cons_succ, List.set_cons_zero]
  refine wpAnyZ_take (i := 2) rfl (by kernel_rfl) (fun _ _ _ h => h) (Or.inl ⟨by rfl, by intro w hSw; obtain ⟨s0, s1, _⟩ := hSw; go_simp; try with_reducible rfl⟩) HSW.out ?_
  simp only [Act.put, List.setIfInBounds_toArray, List.getElem_toArray, List.getElem_cons_succ, List.getElem_cons_zero, List.set_cons_succ, List.set_cons_zero]
  refine wpAnyZ_take (i := 3) rfl (by kernel_rfl) (fun _ _ _ h => h) (Or.inl ⟨by rfl, by intro w hSw; obtain ⟨s0, s1, _⟩ := hSw; go_simp; try with_reducible rfl⟩) HSW.out ?_
  simp only [Act.put, List.setIfInBounds_toArray, List.getElem_toArray, List.getElem_cons_succ, List.getElem_cons_zero, List.set_cons_succ, List.set_cons_zero]
  refine wpAnyZ_take (i := 4) rfl (by kernel_rfl) (fun _ _ _ h => h) (Or.inl ⟨by rfl, by intro w hSw; obtain ⟨s0, s1, _⟩ := hSw; go_simp; try with_reducible rfl⟩) HSW.out ?_
  simp only [Act.put, List.setIfInBounds_toArray, List.getElem_toArray, List.getElem_cons_succ, List.getElem_cons_zero, List.set_cons_succ, List.set_cons_zero]
  refine wpAnyZ_take (i := 5) rfl (by kernel_rfl) (fun _ _ _ h => h) (Or.inl ⟨by rfl, by intro w hSw; obtain ⟨s0, s1, _⟩ := hSw; go_simp; try with_reducible rfl⟩) HSW.out ?_
  simp only [Act.put, List.setIfInBounds_toArray, List.getElem_toArray, List.getElem_cons_succ, List.getElem_cons_zero, List.set_cons_succ, List.set_cons_zero]
  refine wpAnyZ_take (i := 6) rfl (by kernel_rfl) (fun _ _ _ h => h) (Or.inl ⟨by rfl, by intro w hSw; obtain ⟨s0, s1, _⟩ := hSw; go_simp; try with_reducible rfl⟩) HSW.out ?_
  simp only [Act.put, List.setIfInBounds_toArray, List.getElem_toArray, List.getElem_cons_succ, List.getElem_cons_zero, List.set_cons_succ, List.set_cons_zero]
  refine wpAnyZ_take (i := 7) rfl (by kernel_rfl) (fun _ _ _ h => h) (Or.inl ⟨by rfl, by intro w hSw; obtain ⟨s0, s1, _⟩ := hSw; go_simp; try with_reducible rfl⟩) HSW.out ?_
  simp only [Act.put, List.setIfInBounds_toArray, List.getElem_toArray, List.getElem_cons_succ, List.getElem_cons_zero, List.set_cons_succ, List.set_cons_zero]
  refine wpAnyZ_take (i := 8) rfl (by kernel_rfl) (fun _ _ _ h => h) (Or.inl ⟨by rfl, by intro w hSw; obtain ⟨s0, s1, _⟩ := hSw; go_simp; try with_reducible rfl⟩) HSW.out ?_
  simp only [Act.put, List.setIfInBounds_toArray, List.getElem_toArray, List.getElem_cons_succ, List.getElem_cons_zero, List.set_cons_succ, List.set_cons_zero]
  refine wpAnyZ_take (i := 9) rfl (by kernel_rfl) (fun _ _ _ h => h) (Or.inl ⟨by rfl, by intro w hSw; obtain ⟨s0, s1, _⟩ := hSw; go_simp; try with_reducible rfl⟩) HSW.out ?_
  simp only [Act.put, List.setIfInBounds_toArray, List.getElem_toArray, List.getElem_cons_succ, List.getElem_cons_zero, List.set_cons_succ, List.set_cons_zero]
  refine wpAnyZ_one (i := 10) (by kernel_rfl) rfl (fun K hK => ?_)
  try rw [if_pos (by rfl)]
  go_simp
  refine (left_any R R Fz _ _ _ us zq zs _ (HU.out.keeps (KS.out _ HK0d.out) HRG.out) (HX.out.keeps (KS.out _ HK0d.out) HRG.out) (HZ.out.keeps (KS.out _ HK0d.out) HFG.out) HFX.out).mono ?_
  rintro e w2 ⟨u, qs, rfl, hqs, hrd⟩
  obtain ⟨A5, c5, rfl⟩ := own_form hrd.own
  have hk5 := Keeps.new hrd.below
  have HQS := Lib.hid hqs
  have HK5 := Lib.hid (HK0d.out.trans hk5)
  have HRQ := Lib.hid (hrd.row.mono (G := fun b => w1.heap.size ≤ b) (fun b hb => Nat.le_trans HK0d.out.size hb))
  have HS5 := Lib.hid (And.intro (cell_quiet HSW.out.1 hk5) (And.intro (cell_quiet HSW.out.2.1 hk5) (HSW.out.2.2.keeps hk5 (fun h => h))))
  clear hqs hrd hk5
  refine hK.out _ _ (fun _ => HS5.out) ?_
  clear hK K
  try simp only [Act.put, List.setIfInBounds_toArray, Nat.reduceAdd, List.getElem_toArray, List.getElem_cons_succ, List.getElem_cons_zero, List.set_cons_succ, List.set_cons_zero]
  refine wpAnyZ_take (i := 11) rfl (by kernel_rfl) (fun _ _ _ h => h) (Or.inl ⟨by rfl, by intro w hSw; obtain ⟨s0, s1, _⟩ := hSw; go_simp; try with_reducible rfl⟩) HS5.out ?_
  simp only [Act.put, List.setIfInBounds_toArray, List.getElem_toArray, List.getElem_cons_succ, List.getElem_cons_zero, List.set_cons_succ, List.set_cons_zero]
  refine wpAnyZ_take (i := 12) rfl (by kernel_rfl) (fun _ _ _ h => h) (Or.inl ⟨by rfl, by intro w hSw; obtain ⟨s0, s1, _⟩ := hSw; go_simp; try with_reducible rfl⟩) HS5.out ?_
  simp only [Act.put, List.setIfInBounds_toArray, List.getElem_toArray, List.getElem_cons_succ, List.getElem_cons_zero, List.set_cons_succ, List.set_cons_zero]
  have hN : Blk w2 g 77 ({ f with aopen := false } : NF).list.toArray := HS5.out.2.2
  have k4 : w2.cell? ⟨g, 5, none⟩ = some f.request := by rw [hN.cell]; rfl
  have l4 := hN.frozen 5
  have HB2 := Lib.hid (show NBlk (w2.setCell ⟨g, 5, none⟩ (.slice A5 qs.length c5)) g { f with aopen := false, request := .slice A5 qs.length c5 } from hN.set 5 (.slice A5 qs.length c5))
  have HK2 := Lib.hid (show Keeps (only g) w (w2.setCell ⟨g, 5, none⟩ (.slice A5 qs.length c5)) from (HK1.out.trans (HK5.out.mono (fun _ h => h.elim))).put 5 _)
  have HRQ6 := Lib.hid (HRQ.out.keeps ((Keeps.refl (only g) w2).put 5 (.slice A5 qs.length c5)) (fun b hb e => by have e : b = g := e; have := HGL.out; omega))
  clear hN
  refine wpAnyZ_one (i := 13) (by kernel_rfl) rfl (fun K hK => ?_)
  go_simp
  refine hK.out _ _ (fun h => absurd rfl h) ?_
  clear hK K
  refine wpAnyZ_done (by kernel_rfl) ?_ _
  go_wp2_with fail
  go_ret
  have hqe : optsOf qs = Pure.left n.rules n.request (optsOf zs) := by rw [HQS.out, HUE.out, HXE.out]
  have hfn : Pure.Fine (Pure.left n.rules n.request (optsOf zs)) := Pure.fine_left H.out.well.request
  refine ⟨rfl, _, H.out.turn (n' := { n with waits := false, request := Pure.left n.rules n.request (optsOf zs) }) HK2.out HB2.out ⟨H.out.well.good, H.out.well.tries, H.out.well.timeout, H.out.well.id, H.out.well.first, hfn, H.out.well.asked, H.out.well.ours⟩ rfl rfl rfl rfl rfl H.out.e2 H.out.e3 H.out.e4 rfl H.out.e6 (H.out.first.later HK2.out H.out.ng H.out.lt) (Opts.read HRQ6.out hqe hfn HK1.out.size) (H.out.aopts.later HK2.out H.out.ng H.out.lt) (H.out.mine.later HK2.out H.out.ng H.out.lt) (H.out.given.later HK2.out H.out.ng H.out.lt), rfl, HK2.out⟩
end Go.Proofs.YtjomcffhbaplcaaGreatDoor
