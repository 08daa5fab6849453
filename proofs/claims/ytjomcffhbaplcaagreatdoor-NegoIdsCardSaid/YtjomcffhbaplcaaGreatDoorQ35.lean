/- Package nego: Do. -/
import Derived.Test.YtjomcffhbaplcaaGreatDoorQ30
import Derived.Test.YtjomcffhbaplcaaGreatDoorQ20
namespace Go.Proofs.YtjomcffhbaplcaaGreatDoor
open Go.RowKit
set_option maxRecDepth 100000 in
set_option maxHeartbeats 8000000 in
theorem do_up (g : Nat) (R : Nat → Prop) (f : NF) (n : Pure.Neg) (w : World) (h : NObj w g R f n) :
    Calls Tryz.prog 14 #[.pointer (some ⟨g, 0, none⟩), .int .i64 0] w fun r w' => ∃ v, r = .returned v ∧ Outs w w' v (n.act 0).2 ∧ Becomes w w' g R f (n.act 0).1 := by
  have HI := Lib.hid out_info
  have hgl := h.blk.lt
  have hml := Blk.lt h.mach
  obtain ⟨zf, hzf, hze, hzw⟩ := h.first
  have HZE := Lib.hid hze
  have HAE := Lib.hid (show n.act 0 = ({ n.again with m := (n.m.act2 (0 : Int)).2 } : Pure.Neg).acts (n.m.act2 (0 : Int)).1 none from rfl)
  obtain ⟨ro, hro⟩ : ∃ q, q = w.heap.size := ⟨_, rfl⟩
  rw [HAE.out]
  have HMA0 := Lib.hid (fun (W : World) (f2 : NF) (R2 : Nat → Prop) (hW : NObj W g R2 f2 n.again) => prog_do_any f2.gm 0 n.m W hW.mach hW.well.good hW.well.tries)
  have HGD := Lib.hid (Pure.act2_good h.well.good (0 : Int))
  have hpl : ∀ a ∈ (n.m.act2 (0 : Int)).1, a ≠ 7 ∧ a ≠ 8 ∧ a ≠ 11 := Pure.act2_plain h.well.good (by omega)
  have HPL := Lib.hid hpl
  have HFW := Lib.hid (Pure.act2_few h.well.good (0 : Int))
  obtain ⟨l, hl⟩ : ∃ l, l = (n.m.act2 (0 : Int)).1 := ⟨_, rfl⟩
  obtain ⟨m', hm'⟩ : ∃ m', m' = (n.m.act2 (0 : Int)).2 := ⟨_, rfl⟩
  rw [← hl] at HPL HFW HMA0 ⊢
  rw [← hm'] at HMA0 HGD ⊢
  clear hl hm' hpl
  go_enter Tryz.func14, Tryz.ntmps14
  go_upto_region 1 with fail
  rw [← hro]
  generalize hw1 : w.alloc _ = w1
  have hk1 : Keeps nobody w w1 := by rw [← hw1]; exact (Keeps.refl _ w).alloc _
  have hs1 : w1.heap.size = ro + 1 := by rw [← hw1, hro]; simp
  have HRO1 := Lib.hid (show Blk w1 ro 37 #[.slice none 0 0, .bool false, .bool false, .bool false, .bool false] by rw [← hw1, hro]; exact Blk.new w _ _)
  have H1 := Lib.hid (h.keeps hk1 (fun h => h) (fun h => h) (fun _ _ h => h))
  have HK1 := Lib.hid hk1
  have HMD := Lib.hid (nmade_any g f w1 H1.out.blk)
  have HBG := Lib.hid (begin_any R g f zf w1 H1.out.blk (hzf.keeps hk1 (fun _ _ h => h)) hzw)
  have HRG := Lib.hid (show ro ≠ g by omega)
  have HRM := Lib.hid (show ro ≠ f.gm by omega)
  have HR0 := Lib.hid (show w.heap.size ≤ ro by omega)
  have HS1 := Lib.hid hs1
  have HLTR := Lib.hid (show ¬ R ro from fun e => by have := h.lt ro e; omega)
  have HGW := Lib.hid hgl
  clear hw1 hk1 hs1 hro hgl hml hzf hze hzw h
  go_wp2_with fail
  refine HMD.out.mono ?_
  rintro e' w' ⟨rfl, rfl⟩
  go_wp2_with fail
  refine HBG.out.mono ?_
  rintro e' w2 ⟨rfl, u2, q2, hq2, hr2, hb2, hk2⟩
  have HN2 := Lib.hid (H1.out.begun hk2 (hq2.trans HZE.out) hr2 hb2)
  have HRO2 := Lib.hid (HRO1.out.keeps hk2 (fun e => HRG.out e))
  have HK2 := Lib.hid (show Keeps (fun b => b = g ∨ b = f.gm) w w2 from (HK1.out.mono (fun _ h => h.elim)).trans (hk2.mono (fun b e => .inl e)))
  have HNR := Lib.hid (show ¬ Later w1 w2 R ro from fun e => by rcases e.1 with e | e; exact HLTR.out e; have := HS1.out; omega)
  have HSUB := Lib.hid (show ∀ b, Later w1 w2 R b → R b ∨ w.heap.size ≤ b from fun b hb => hb.1.imp (fun h => h) (fun h => Nat.le_trans HK1.out.size h))
  clear hq2 hr2 hb2 hk2 HBG HMD H1 HRO1 HZE
  have c0 : w2.cell? ⟨g, 0, none⟩ = some (.pointer (some ⟨f.gm, 0, none⟩)) := HN2.out.blk.cell 0
  have HMA := Lib.hid (HMA0.out w2 _ _ HN2.out)
  clear HMA0
  go_wp2_with fail
  refine HMA.out.mono ?_
  rintro e' w4 ⟨LA, lc, rfl, hrow4, hm4, hk4⟩
  have HN4 := Lib.hid (HN2.out.machine (m' := m') hk4 hm4 HGD.out.1 HGD.out.2.1 HGD.out.2.2)
  have HROW := Lib.hid (HRO2.out.keeps hk4 (fun e => HRM.out e))
  have HKW := Lib.hid (show Keeps (fun b => b = g ∨ b = f.gm) w w4 from HK2.out.trans (hk4.mono (fun b e => .inr e)))
  have HRL := Lib.hid (show ro < w4.heap.size from HROW.out.lt)
  have HPF := Lib.hid (perform_none g 0 _ _ n.again m' l w4 w2 HN4.out HPL.out HFW.out (Nat.zero_le _) HN2.out.blk.lt LA lc hrow4)
  clear hrow4 hm4 hk4 HMA HN2 HRO2 HK2 c0
  go_wp2_with fail
  refine HPF.out.mono ?_
  rintro e' w5 ⟨v, rfl, hout, hbec⟩
  have hRo : Blk w5 ro 37 #[.slice none 0 0, .bool false, .bool false, .bool false, .bool false] := by
    obtain ⟨_, _, _, _, _, hk⟩ := hbec
    exact HROW.out.keeps hk (fun e => by rcases e with e | e; exact HRG.out e; exact HRM.out e)
  have hfar := fun w'' (k : Keeps (only ro) w5 w'') => (hout.far k HRL.out).since HKW.out.size
  have hcl := fun w'' (k : Keeps (only ro) w5 w'') => hbec.close (f := f) rfl HSUB.out HKW.out k HR0.out HRL.out (fun e => HRG.out e.symm) (fun e => HRM.out e.symm) HNR.out
  obtain ⟨sv, ps, rfl, hprow, hpk, hfw⟩ := hout
  obtain ⟨A6, c6, rfl, _⟩ := hprow.form
  skip
  have z0 : w5.cell? ⟨ro, 0, none⟩ = some (.slice none 0 0) := by rw [hRo.cell]; rfl
  have z1 : w5.cell? ⟨ro, 1, none⟩ = some (.bool false) := by rw [hRo.cell]; rfl
  have z2 : w5.cell? ⟨ro, 2, none⟩ = some (.bool false) := by rw [hRo.cell]; rfl
  have z3 : w5.cell? ⟨ro, 3, none⟩ = some (.bool false) := by rw [hRo.cell]; rfl
  have z4 : w5.cell? ⟨ro, 4, none⟩ = some (.bool false) := by rw [hRo.cell]; rfl
  have f0 := hRo.frozen 0
  have f1 := hRo.frozen 1
  have f2 := hRo.frozen 2
  have f3 := hRo.frozen 3
  have f4 := hRo.frozen 4
  obtain ⟨O1, hO1⟩ : ∃ b, b = (Pure.Neg.acts { n.again with m := m' } l none).2.up := ⟨_, rfl⟩
  obtain ⟨O2, hO2⟩ : ∃ b, b = (Pure.Neg.acts { n.again with m := m' } l none).2.down := ⟨_, rfl⟩
  obtain ⟨O3, hO3⟩ : ∃ b, b = (Pure.Neg.acts { n.again with m := m' } l none).2.start := ⟨_, rfl⟩
  obtain ⟨O4, hO4⟩ : ∃ b, b = (Pure.Neg.acts { n.again with m := m' } l none).2.done := ⟨_, rfl⟩
  rw [← hO1, ← hO2, ← hO3, ← hO4] at hfar ⊢
  have HZ := Lib.hid (((((hRo.set 0 (.slice A6 ps.length c6)).set 1 (.bool O1)).set 2 (.bool O2)).set 3 (.bool O3)).set 4 (.bool O4))
  have KR := (((((Keeps.refl (only ro) w5).put 0 (.slice A6 ps.length c6)).put 1 (.bool O1)).put 2 (.bool O2)).put 3 (.bool O3)).put 4 (.bool O4)
  have HFAR := Lib.hid (hfar _ KR)
  have HCL := Lib.hid (hcl _ KR)
  clear hRo hfar hcl hprow hpk hfw KR hO1 hO2 hO3 hO4 hbec HPF
  go_wp2_with fail
  refine bodyPost_ret (results_row1 rfl _ _ ro 37 _ (0, 0) _ rfl HZ.out Tryz.underlying37 rfl (by rw [HI.out]; rfl)) rfl ?_
  exact ⟨_, rfl, HFAR.out, HCL.out⟩
set_option maxRecDepth 100000 in
set_option maxHeartbeats 8000000 in
theorem do_other (g : Nat) (R : Nat → Prop) (f : NF) (n : Pure.Neg) (e : Int) (he : e = 1 ∨ e = 2 ∨ e = 3) (w : World) (h : NObj w g R f n) (hnk : n.naks ≤ 1000) :
    Calls Tryz.prog 14 #[.pointer (some ⟨g, 0, none⟩), .int .i64 e] w fun r w' => ∃ v, r = .returned v ∧ Outs w w' v (n.act e).2 ∧ Becomes w w' g R f (n.act e).1 := by
  have HI := Lib.hid out_info
  have hgl := h.blk.lt
  have hml := Blk.lt h.mach
  have HAE := Lib.hid (show n.act e = ({ n with m := (n.m.act2 e).2 } : Pure.Neg).acts (n.m.act2 e).1 none by rcases he with rfl | rfl | rfl <;> rfl)
  have hpl : ∀ a ∈ (n.m.act2 e).1, a ≠ 7 ∧ a ≠ 8 ∧ a ≠ 11 := Pure.act2_plain h.well.good (by omega)
  obtain ⟨ro, hro⟩ : ∃ q, q = w.heap.size := ⟨_, rfl⟩
  rw [HAE.out]
  have HPL0 := Lib.hid hpl
  have HMA0 := Lib.hid (fun (W : World) (hW : NObj W g R f n) => prog_do_any f.gm e n.m W hW.mach hW.well.good hW.well.tries)
  have HGD := Lib.hid (Pure.act2_good h.well.good e)
  have HFW0 := Lib.hid (Pure.act2_few h.well.good e)
  obtain ⟨l, hl⟩ : ∃ l, l = (n.m.act2 e).1 := ⟨_, rfl⟩
  obtain ⟨m', hm'⟩ : ∃ m', m' = (n.m.act2 e).2 := ⟨_, rfl⟩
  rw [← hl] at HPL0 HFW0 HMA0 ⊢
  rw [← hm'] at HMA0 HGD ⊢
  clear hl hm' hpl
  have HNK := Lib.hid hnk
  clear hnk
  rcases he with rfl | rfl | rfl
  all_goals
    go_enter Tryz.func14, Tryz.ntmps14
    go_upto_region 1 with fail
    rw [← hro]
    generalize hw1 : w.alloc _ = w1
    have hk1 : Keeps nobody w w1 := by rw [← hw1]; exact (Keeps.refl _ w).alloc _
    have HRO1 := Lib.hid (show Blk w1 ro 37 #[.slice none 0 0, .bool false, .bool false, .bool false, .bool false] by rw [← hw1, hro]; exact Blk.new w _ _)
    have H1 := Lib.hid (h.keeps hk1 (fun h => h) (fun h => h) (fun _ _ h => h))
    have HK1 := Lib.hid hk1
    have HMD := Lib.hid (nmade_any g f w1 H1.out.blk)
    have HRG := Lib.hid (show ro ≠ g by omega)
    have HRM := Lib.hid (show ro ≠ f.gm by omega)
    have HR0 := Lib.hid (show w.heap.size ≤ ro by omega)
    have HNR := Lib.hid (show ¬ R ro from fun e => by have := h.lt ro e; omega)
    have HSUB := Lib.hid (show ∀ b, R b → R b ∨ w.heap.size ≤ b from fun b hb => .inl hb)
    have c0 : w1.cell? ⟨g, 0, none⟩ = some (.pointer (some ⟨f.gm, 0, none⟩)) := H1.out.blk.cell 0
    have HMA := Lib.hid (HMA0.out w1 H1.out)
    clear hw1 hk1 hro hgl hml h HMA0
    go_wp2_with fail
    refine HMD.out.mono ?_
    rintro e' w' ⟨rfl, rfl⟩
    go_wp2_with fail
    refine HMA.out.mono ?_
    rintro e' w4 ⟨LA, lc, rfl, hrow4, hm4, hk4⟩
    have HN4 := Lib.hid (H1.out.machine (m' := m') hk4 hm4 HGD.out.1 HGD.out.2.1 HGD.out.2.2)
    have HROW := Lib.hid (HRO1.out.keeps hk4 (fun e => HRM.out e))
    have HKW := Lib.hid (show Keeps (fun b => b = g ∨ b = f.gm) w w4 from (HK1.out.mono (fun _ h => h.elim)).trans (hk4.mono (fun b e => .inr e)))
    have HRL := Lib.hid (show ro < w4.heap.size from HROW.out.lt)
    have HPF := Lib.hid (perform_none g 0 _ _ n m' l w4 w1 HN4.out HPL0.out HFW0.out HNK.out H1.out.blk.lt LA lc hrow4)
    clear hrow4 hm4 hk4 HMA HRO1 c0
    go_wp2_with fail
    refine HPF.out.mono ?_
    rintro e' w5 ⟨v, rfl, hout, hbec⟩
    have hRo : Blk w5 ro 37 #[.slice none 0 0, .bool false, .bool false, .bool false, .bool false] := by
      obtain ⟨_, _, _, _, _, hk⟩ := hbec
      exact HROW.out.keeps hk (fun e => by rcases e with e | e; exact HRG.out e; exact HRM.out e)
    have hfar := fun w'' (k : Keeps (only ro) w5 w'') => (hout.far k HRL.out).since HKW.out.size
    have hcl := fun w'' (k : Keeps (only ro) w5 w'') => hbec.close (f := f) rfl HSUB.out HKW.out k HR0.out HRL.out (fun e => HRG.out e.symm) (fun e => HRM.out e.symm) HNR.out
    obtain ⟨sv, ps, rfl, hprow, hpk, hfw⟩ := hout
    obtain ⟨A6, c6, rfl, _⟩ := hprow.form
    skip
    have z0 : w5.cell? ⟨ro, 0, none⟩ = some (.slice none 0 0) := by rw [hRo.cell]; rfl
    have z1 : w5.cell? ⟨ro, 1, none⟩ = some (.bool false) := by rw [hRo.cell]; rfl
    have z2 : w5.cell? ⟨ro, 2, none⟩ = some (.bool false) := by rw [hRo.cell]; rfl
    have z3 : w5.cell? ⟨ro, 3, none⟩ = some (.bool false) := by rw [hRo.cell]; rfl
    have z4 : w5.cell? ⟨ro, 4, none⟩ = some (.bool false) := by rw [hRo.cell]; rfl
    have f0 := hRo.frozen 0
    have f1 := hRo.frozen 1
    have f2 := hRo.frozen 2
    have f3 := hRo.frozen 3
    have f4 := hRo.frozen 4
    obtain ⟨O1, hO1⟩ : ∃ b, b = (Pure.Neg.acts { n with m := m' } l none).2.up := ⟨_, rfl⟩
    obtain ⟨O2, hO2⟩ : ∃ b, b = (Pure.Neg.acts { n with m := m' } l none).2.down := ⟨_, rfl⟩
    obtain ⟨O3, hO3⟩ : ∃ b, b = (Pure.Neg.acts { n with m := m' } l none).2.start := ⟨_, rfl⟩
    obtain ⟨O4, hO4⟩ : ∃ b, b = (Pure.Neg.acts { n with m := m' } l none).2.done := ⟨_, rfl⟩
    rw [← hO1, ← hO2, ← hO3, ← hO4] at hfar ⊢
    have HZ := Lib.hid (((((hRo.set 0 (.slice A6 ps.length c6)).set 1 (.bool O1)).set 2 (.bool O2)).set 3 (.bool O3)).set 4 (.bool O4))
    have KR := (((((Keeps.refl (only ro) w5).put 0 (.slice A6 ps.length c6)).put 1 (.bool O1)).put 2 (.bool O2)).put 3 (.bool O3)).put 4 (.bool O4)
    have HFAR := Lib.hid (hfar _ KR)
    have HCL := Lib.hid (hcl _ KR)
    clear hRo hfar hcl hprow hpk hfw KR hO1 hO2 hO3 hO4 hbec HPF
    go_wp2_with fail
    refine bodyPost_ret (results_row1 rfl _ _ ro 37 _ (0, 0) _ rfl HZ.out Tryz.underlying37 rfl (by rw [HI.out]; rfl)) rfl ?_
    exact ⟨_, rfl, HFAR.out, HCL.out⟩
end Go.Proofs.YtjomcffhbaplcaaGreatDoor
/- Package nego: Tick, State, opened, Mine, Given, Dropped. -/
namespace Go.Proofs.YtjomcffhbaplcaaGreatDoor
open Go.RowKit
theorem nstate_any (g : Nat) (R : Nat → Prop) (f : NF) (n : Pure.Neg) (w : World) (h : NObj w g R f n) :
    Calls Tryz.prog 16 #[.pointer (some ⟨g, 0, none⟩)] w fun e w' => e = .returned (.int .i64 (n.m.state : Nat)) ∧ w = w' := by
  have HMD := Lib.hid (nmade_any g f w h.blk)
  have HST := Lib.hid (state_any f.gm n.m w h.mach h.well.good.tries)
  have c0 : w.cell? ⟨g, 0, none⟩ = some (.pointer (some ⟨f.gm, 0, none⟩)) := h.blk.cell 0
  clear h
  go_enter Tryz.func16, Tryz.ntmps16
  go_wp2_with fail
  refine HMD.out.mono ?_
  rintro e w1 ⟨rfl, rfl⟩
  go_wp2_with fail
  refine HST.out.mono ?_
  rintro e w1 ⟨rfl, rfl⟩
  go_wp2_with fail
  go_ret
  exact ⟨rfl, rfl⟩
theorem nopened_any (g : Nat) (R : Nat → Prop) (f : NF) (n : Pure.Neg) (w : World) (h : NObj w g R f n) :
    Calls Tryz.prog 45 #[.pointer (some ⟨g, 0, none⟩)] w fun e w' => e = .returned (.bool (decide (n.m.state = 9))) ∧ w = w' := by
  have HST := Lib.hid (nstate_any g R f n w h)
  clear h
  by_cases hs : n.m.state = 9
  · have HD := Lib.hid (decide_eq_true hs)
    rw [hs] at HST
    clear hs
    go_enter Tryz.func45, Tryz.ntmps45
    go_wp2_with fail
    refine HST.out.mono ?_
    rintro e w1 ⟨rfl, rfl⟩
    go_wp2_with fail
    go_ret
    exact ⟨by rw [HD.out]; rfl, rfl⟩
  · have HD := Lib.hid (decide_eq_false hs)
    have q : (((n.m.state : Nat) : Int) == 9) = false := by rw [beq_eq_false_iff_ne]; omega
    clear hs
    go_enter Tryz.func45, Tryz.ntmps45
    go_wp2_with fail
    refine HST.out.mono ?_
    rintro e w1 ⟨rfl, rfl⟩
    go_wp2_with fail
    go_ret
    exact ⟨by rw [HD.out]; rfl, rfl⟩
theorem ndropped_any (g : Nat) (R : Nat → Prop) (f : NF) (n : Pure.Neg) (w : World) (h : NObj w g R f n) :
    Calls Tryz.prog 23 #[.pointer (some ⟨g, 0, none⟩)] w fun e w' => e = .returned (.int .i64 (n.dropped : Nat)) ∧ w = w' := by
  have HMD := Lib.hid (nmade_any g f w h.blk)
  have c0 : w.cell? ⟨g, 13, none⟩ = some (.int .i64 (n.dropped : Nat)) := by rw [h.blk.cell]; show some (Value.int .i64 (f.dropped : Int)) = _; rw [h.e6]
  clear h
  go_enter Tryz.func23, Tryz.ntmps23
  go_wp2_with fail
  refine HMD.out.mono ?_
  rintro e w1 ⟨rfl, rfl⟩
  go_wp2_with fail
  go_ret
  exact ⟨rfl, rfl⟩
/-- A slice of options that a call made. -/
def Given (w w' : World) (e : Ending) (l : List Pure.Opt) : Prop :=
  ∃ u, ∃ qs : List (Value × Pure.Opt), e = .returned u ∧ optsOf qs = l ∧ FewOpts qs ∧ ORow w' (fun b => w.heap.size ≤ b ∧ b < w'.heap.size) u qs ∧ Keeps nobody w w'
theorem few_like {qs zs : List (Value × Pure.Opt)} (h : optsOf qs = optsOf zs) (hf : FewOpts zs) : FewOpts qs := by
  refine ⟨?_, fun p hp => ?_⟩
  · have := congrArg List.length h
    simp at this
    rw [this]; exact hf.len
  · have h1 : p.2 ∈ optsOf zs := by rw [← h]; exact List.mem_map.2 ⟨p, hp, rfl⟩
    obtain ⟨z, hz1, hz2⟩ := List.mem_map.1 h1
    rw [← hz2]; exact hf.data z hz1
theorem nmine_any (g : Nat) (R : Nat → Prop) (f : NF) (n : Pure.Neg) (w : World) (h : NObj w g R f n) :
    Calls Tryz.prog 18 #[.pointer (some ⟨g, 0, none⟩)] w fun e w' => Given w w' e n.mine := by
  have HOP := Lib.hid (nopened_any g R f n w h)
  obtain ⟨zs, hz, hze, hzw⟩ := h.mine
  have HCP := Lib.hid (copies_any R f.mine zs w hz hzw.len hzw.data)
  obtain ⟨X, cx, hX, _⟩ := hz.form
  have c0 : w.cell? ⟨g, 11, none⟩ = some f.mine := h.blk.cell 11
  rw [hX] at HCP c0
  by_cases hs : n.m.state = 9
  · have HE := Lib.hid (show optsOf zs = n.mine by unfold Pure.Neg.mine; rw [if_pos hs]; exact hze)
    have HW := Lib.hid hzw
    rw [decide_eq_true hs] at HOP
    clear hs h hz hze hzw hX
    go_enter Tryz.func18, Tryz.ntmps18
    go_wp2_with fail
    refine HOP.out.mono ?_
    rintro e w1 ⟨rfl, rfl⟩
    go_wp2_with fail
    refine HCP.out.mono ?_
    rintro e w1 ⟨u, qs, rfl, hqs, hrd⟩
    have HQ := Lib.hid hqs
    have HR := Lib.hid hrd.row.strong
    have HK := Lib.hid (show Keeps nobody w w1 from Keeps.new hrd.below)
    clear hqs hrd HCP c0
    go_wp2_with fail
    go_ret
    exact ⟨u, qs, rfl, HQ.out.trans HE.out, few_like HQ.out HW.out, HR.out, HK.out⟩
  · have HE := Lib.hid (show ([] : List Pure.Opt) = n.mine by unfold Pure.Neg.mine; rw [if_neg hs])
    rw [decide_eq_false hs] at HOP
    clear hs h hz hze hzw hX HCP c0
    go_enter Tryz.func18, Tryz.ntmps18
    go_wp2_with fail
    refine HOP.out.mono ?_
    rintro e w1 ⟨rfl, rfl⟩
    go_wp2_with fail
    go_ret
    exact ⟨_, [], rfl, HE.out, ⟨by simp, by simp⟩, ORow.nil _ _, Keeps.refl _ _⟩
theorem ngiven_any (g : Nat) (R : Nat → Prop) (f : NF) (n : Pure.Neg) (w : World) (h : NObj w g R f n) :
    Calls Tryz.prog 19 #[.pointer (some ⟨g, 0, none⟩)] w fun e w' => Given w w' e n.given := by
  have HOP := Lib.hid (nopened_any g R f n w h)
  obtain ⟨zs, hz, hze, hzw⟩ := h.given
  have HCP := Lib.hid (copies_any R f.given zs w hz hzw.len hzw.data)
  obtain ⟨X, cx, hX, _⟩ := hz.form
  have c0 : w.cell? ⟨g, 12, none⟩ = some f.given := h.blk.cell 12
  rw [hX] at HCP c0
  by_cases hs : n.m.state = 9
  · have HE := Lib.hid (show optsOf zs = n.given by unfold Pure.Neg.given; rw [if_pos hs]; exact hze)
    have HW := Lib.hid hzw
    rw [decide_eq_true hs] at HOP
    clear hs h hz hze hzw hX
    go_enter Tryz.func19, Tryz.ntmps19
    go_wp2_with fail
    refine HOP.out.mono ?_
    rintro e w1 ⟨rfl, rfl⟩
    go_wp2_with fail
    refine HCP.out.mono ?_
    rintro e w1 ⟨u, qs, rfl, hqs, hrd⟩
    have HQ := Lib.hid hqs
    have HR := Lib.hid hrd.row.strong
    have HK := Lib.hid (show Keeps nobody w w1 from Keeps.new hrd.below)
    clear hqs hrd HCP c0
    go_wp2_with fail
    go_ret
    exact ⟨u, qs, rfl, HQ.out.trans HE.out, few_like HQ.out HW.out, HR.out, HK.out⟩
  · have HE := Lib.hid (show ([] : List Pure.Opt) = n.given by unfold Pure.Neg.given; rw [if_neg hs])
    rw [decide_eq_false hs] at HOP
    clear hs h hz hze hzw hX HCP c0
    go_enter Tryz.func19, Tryz.ntmps19
    go_wp2_with fail
    refine HOP.out.mono ?_
    rintro e w1 ⟨rfl, rfl⟩
    go_wp2_with fail
    go_ret
    exact ⟨_, [], rfl, HE.out, ⟨by simp, by simp⟩, ORow.nil _ _, Keeps.refl _ _⟩
end Go.Proofs.YtjomcffhbaplcaaGreatDoor
