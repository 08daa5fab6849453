/- Package nego: Do. -/
import Derived.Test.YtjomcffhbaplcaaQ29
import Derived.Laws.EntriesVeiled
namespace Go.Proofs.Ytjomcffhbaplcaa
open Go.RowKit
set_option maxRecDepth 100000 in
set_option maxHeartbeats 8000000 in
theorem do_up (g : Nat) (R : Nat → Prop) (f : NF) (n : Pure.Neg) (w : World) (h : NObj w g R f n) :
    Calls Try.prog 20 #[.pointer (some ⟨g, 0, none⟩), .int .i64 0] w fun r w' => ∃ v, r = .returned v ∧ Outs w w' v (n.act 0).2 ∧ Becomes w w' g R f (n.act 0).1 := by
  have HI := Lib.hid out_info
  have hgl := h.blk.lt
  have hml := Blk.lt h.mach
  obtain ⟨zf, hzf, hze, hzw⟩ := h.first
  have HZE := Lib.hid hze
  have HAE := Lib.hid (show n.act 0 = ({ n.again with m := (n.m.act2 (0 : Int)).2 } : Pure.Neg).acts (n.m.act2 (0 : Int)).1 none from rfl)
  obtain ⟨ro, hro⟩ : ∃ q, q = w.heap.size := ⟨_, rfl⟩
  rw [HAE.out]
  have HMA0 := Lib.hid (fun (W : World) (f2 : NF) (R2 : Nat → Prop) (hW : NObj W g R2 f2 n.again) => prog_do_any f2.gm 0 n.m W hW.mach hW.well.good hW.well.tries)
  have HGD := Lib.hid (Pure.act2_good h.well.good (0 : Int))
  have hpl : ∀ a ∈ (n.m.act2 (0 : Int)).1, a ≠ 7 ∧ a ≠ 8 ∧ a ≠ 11 := Pure.act2_plain h.well.good (by omega)
  have HPL := Lib.hid hpl
  have HFW := Lib.hid (Pure.act2_few h.well.good (0 : Int))
  obtain ⟨l, hl⟩ : ∃ l, l = (n.m.act2 (0 : Int)).1 := ⟨_, rfl⟩
  obtain ⟨m', hm'⟩ : ∃ m', m' = (n.m.act2 (0 : Int)).2 := ⟨_, rfl⟩
  rw [← hl] at HPL HFW HMA0 ⊢
  rw [← hm'] at HMA0 HGD ⊢
  clear hl hm' hpl
  go_enter Try.func20, Try.ntmps20
  go_upto_region 1 with fail
  rw [← hro]
  generalize hw1 : w.alloc _ = w1
  have hk1 : Keeps nobody w w1 := by rw [← hw1]; exact (Keeps.refl _ w).alloc _
  have hs1 : w1.heap.size = ro + 1 := by rw [← hw1, hro]; simp
  have HRO1 := Lib.hid (show Blk w1 ro 48 #[.slice none 0 0, .bool false, .bool false, .bool false, .bool false] by rw [← hw1, hro]; exact Blk.new w _ _)
  have H1 := Lib.hid (h.keeps hk1 (fun h => h) (fun h => h) (fun _ _ h => h))
  have HK1 := Lib.hid hk1
  have HMD := Lib.hid (nmade_any g f w1 H1.out.blk)
  have HBG := Lib.hid (begin_any R g f zf w1 H1.out.blk (hzf.keeps hk1 (fun _ _ h => h)) hzw)
  have HRG := Lib.hid (show ro ≠ g by omega)
  have HRM := Lib.hid (show ro ≠ f.gm by omega)
  have HR0 := Lib.hid (show w.heap.size ≤ ro by omega)
  have HS1 := Lib.hid hs1
  have HLTR := Lib.hid (show ¬ R ro from fun e => by have := h.lt ro e; omega)
  have HGW := Lib.hid hgl
  clear hw1 hk1 hs1 hro hgl hml hzf hze hzw h
  go_wp2_with fail
  refine HMD.out.mono ?_
  rintro e' w' ⟨rfl, rfl⟩
  go_wp2_with fail
  refine HBG.out.mono ?_
  rintro e' w2 ⟨rfl, u2, q2, hq2, hr2, hb2, hk2⟩
  have HN2 := Lib.hid (H1.out.begun hk2 (hq2.trans HZE.out) hr2 hb2)
  have HRO2 := Lib.hid (HRO1.out.keeps hk2 (fun e => HRG.out e))
  have HK2 := Lib.hid (show Keeps (fun b => b = g ∨ b = f.gm) w w2 from (HK1.out.mono (fun _ h => h.elim)).trans (hk2.mono (fun b e => .inl e)))
  have HNR := Lib.hid (show ¬ Later w1 w2 R ro from fun e => by rcases e.1 with e | e; exact HLTR.out e; have := HS1.out; omega)
  have HSUB := Lib.hid (show ∀ b, Later w1 w2 R b → R b ∨ w.heap.size ≤ b from fun b hb => hb.1.imp (fun h => h) (fun h => Nat.le_trans HK1.out.size h))
  clear hq2 hr2 hb2 hk2 HBG HMD H1 HRO1 HZE
  have c0 : w2.cell? ⟨g, 0, none⟩ = some (.pointer (some ⟨f.gm, 0, none⟩)) := HN2.out.blk.cell 0
  have HMA := Lib.hid (HMA0.out w2 _ _ HN2.out)
  clear HMA0
  go_wp2_with fail
  refine HMA.out.mono ?_
  rintro e' w4 ⟨LA, lc, rfl, hrow4, hm4, hk4⟩
  have HN4 := Lib.hid (HN2.out.machine (m' := m') hk4 hm4 HGD.out.1 HGD.out.2.1 HGD.out.2.2)
  have HROW := Lib.hid (HRO2.out.keeps hk4 (fun e => HRM.out e))
  have HKW := Lib.hid (show Keeps (fun b => b = g ∨ b = f.gm) w w4 from HK2.out.trans (hk4.mono (fun b e => .inr e)))
  have HRL := Lib.hid (show ro < w4.heap.size from HROW.out.lt)
  have HPF := Lib.hid (perform_none g 0 _ _ n.again m' l w4 w2 HN4.out HPL.out HFW.out (Nat.zero_le _) HN2.out.blk.lt LA lc hrow4)
  clear hrow4 hm4 hk4 HMA HN2 HRO2 HK2 c0
  go_wp2_with fail
  refine HPF.out.mono ?_
  rintro e' w5 ⟨v, rfl, hout, hbec⟩
  have hRo : Blk w5 ro 48 #[.slice none 0 0, .bool false, .bool false, .bool false, .bool false] := by
    obtain ⟨_, _, _, _, _, hk⟩ := hbec
    exact HROW.out.keeps hk (fun e => by rcases e with e | e; exact HRG.out e; exact HRM.out e)
  have hfar := fun w'' (k : Keeps (only ro) w5 w'') => (hout.far k HRL.out).since HKW.out.size
  have hcl := fun w'' (k : Keeps (only ro) w5 w'') => hbec.close (f := f) rfl HSUB.out HKW.out k HR0.out HRL.out (fun e => HRG.out e.symm) (fun e => HRM.out e.symm) HNR.out
  obtain ⟨sv, ps, rfl, hprow, hpk, hfw⟩ := hout
  obtain ⟨A6, c6, rfl, _⟩ := hprow.form
  skip
  have z0 : w5.cell? ⟨ro, 0, none⟩ = some (.slice none 0 0) := by rw [hRo.cell]; rfl
  have z1 : w5.cell? ⟨ro, 1, none⟩ = some (.bool false) := by rw [hRo.cell]; rfl
  have z2 : w5.cell? ⟨ro, 2, none⟩ = some (.bool false) := by rw [hRo.cell]; rfl
  have z3 : w5.cell? ⟨ro, 3, none⟩ = some (.bool false) := by rw [hRo.cell]; rfl
  have z4 : w5.cell? ⟨ro, 4, none⟩ = some (.bool false) := by rw [hRo.cell]; rfl
  have f0 := hRo.frozen 0
  have f1 := hRo.frozen 1
  have f2 := hRo.frozen 2
  have f3 := hRo.frozen 3
  have f4 := hRo.frozen 4
  obtain ⟨O1, hO1⟩ : ∃ b, b = (Pure.Neg.acts { n.again with m := m' } l none).2.up := ⟨_, rfl⟩
  obtain ⟨O2, hO2⟩ : ∃ b, b = (Pure.Neg.acts { n.again with m := m' } l none).2.down := ⟨_, rfl⟩
  obtain ⟨O3, hO3⟩ : ∃ b, b = (Pure.Neg.acts { n.again with m := m' } l none).2.start := ⟨_, rfl⟩
  obtain ⟨O4, hO4⟩ : ∃ b, b = (Pure.Neg.acts { n.again with m := m' } l none).2.done := ⟨_, rfl⟩
  rw [← hO1, ← hO2, ← hO3, ← hO4] at hfar ⊢
  have HZ := Lib.hid (((((hRo.set 0 (.slice A6 ps.length c6)).set 1 (.bool O1)).set 2 (.bool O2)).set 3 (.bool O3)).set 4 (.bool O4))
  have KR := (((((Keeps.refl (only ro) w5).put 0 (.slice A6 ps.length c6)).put 1 (.bool O1)).put 2 (.bool O2)).put 3 (.bool O3)).put 4 (.bool O4)
  have HFAR := Lib.hid (hfar _ KR)
  have HCL := Lib.hid (hcl _ KR)
  clear hRo hfar hcl hprow hpk hfw KR hO1 hO2 hO3 hO4 hbec HPF
  go_wp2_with fail
  refine bodyPost_ret (results_row1 rfl _ _ ro 48 _ (0, 0) _ rfl HZ.out Try.underlying48 rfl (by rw [HI.out]; rfl)) rfl ?_
  exact ⟨_, rfl, HFAR.out, HCL.out⟩
set_option maxRecDepth 100000 in
set_option maxHeartbeats 8000000 in
theorem do_other (g : Nat) (R : Nat → Prop) (f : NF) (n : Pure.Neg) (e : Int) (he : e = 1 ∨ e = 2 ∨ e = 3) (w : World) (h : NObj w g R f n) (hnk : n.naks ≤ 1000) :
    Calls Try.prog 20 #[.pointer (some ⟨g, 0, none⟩), .int .i64 e] w fun r w' => ∃ v, r = .returned v ∧ Outs w w' v (n.act e).2 ∧ Becomes w w' g R f (n.act e).1 := by
  have HI := Lib.hid out_info
  have hgl := h.blk.lt
  have hml := Blk.lt h.mach
  have HAE := Lib.hid (show n.act e = ({ n with m := (n.m.act2 e).2 } : Pure.Neg).acts (n.m.act2 e).1 none by rcases he with rfl | rfl | rfl <;> rfl)
  have hpl : ∀ a ∈ (n.m.act2 e).1, a ≠ 7 ∧ a ≠ 8 ∧ a ≠ 11 := Pure.act2_plain h.well.good (by omega)
  obtain ⟨ro, hro⟩ : ∃ q, q = w.heap.size := ⟨_, rfl⟩
  rw [HAE.out]
  have HPL0 := Lib.hid hpl
  have HMA0 := Lib.hid (fun (W : World) (hW : NObj W g R f n) => prog_do_any f.gm e n.m W hW.mach hW.well.good hW.well.tries)
  have HGD := Lib.hid (Pure.act2_good h.well.good e)
  have HFW0 := Lib.hid (Pure.act2_few h.well.good e)
  obtain ⟨l, hl⟩ : ∃ l, l = (n.m.act2 e).1 := ⟨_, rfl⟩
  obtain ⟨m', hm'⟩ : ∃ m', m' = (n.m.act2 e).2 := ⟨_, rfl⟩
  rw [← hl] at HPL0 HFW0 HMA0 ⊢
  rw [← hm'] at HMA0 HGD ⊢
  clear hl hm' hpl
  have HNK := Lib.hid hnk
  clear hnk
  rcases he with rfl | rfl | rfl
  all_goals
    go_enter Try.func20, Try.ntmps20
    go_upto_region 1 with fail
    rw [← hro]
    generalize hw1 : w.alloc _ = w1
    have hk1 : Keeps nobody w w1 := by rw [← hw1]; exact (Keeps.refl _ w).alloc _
    have HRO1 := Lib.hid (show Blk w1 ro 48 #[.slice none 0 0, .bool false, .bool false, .bool false, .bool false] by rw [← hw1, hro]; exact Blk.new w _ _)
    have H1 := Lib.hid (h.keeps hk1 (fun h => h) (fun h => h) (fun _ _ h => h))
    have HK1 := Lib.hid hk1
    have HMD := Lib.hid (nmade_any g f w1 H1.out.blk)
    have HRG := Lib.hid (show ro ≠ g by omega)
    have HRM := Lib.hid (show ro ≠ f.gm by omega)
    have HR0 := Lib.hid (show w.heap.size ≤ ro by omega)
    have HNR := Lib.hid (show ¬ R ro from fun e => by have := h.lt ro e; omega)
    have HSUB := Lib.hid (show ∀ b, R b → R b ∨ w.heap.size ≤ b from fun b hb => .inl hb)
    have c0 : w1.cell? ⟨g, 0, none⟩ = some (.pointer (some ⟨f.gm, 0, none⟩)) := H1.out.blk.cell 0
    have HMA := Lib.hid (HMA0.out w1 H1.out)
    clear hw1 hk1 hro hgl hml h HMA0
    go_wp2_with fail
    refine HMD.out.mono ?_
    rintro e' w' ⟨rfl, rfl⟩
    go_wp2_with fail
    refine HMA.out.mono ?_
    rintro e' w4 ⟨LA, lc, rfl, hrow4, hm4, hk4⟩
    have HN4 := Lib.hid (H1.out.machine (m' := m') hk4 hm4 HGD.out.1 HGD.out.2.1 HGD.out.2.2)
    have HROW := Lib.hid (HRO1.out.keeps hk4 (fun e => HRM.out e))
    have HKW := Lib.hid (show Keeps (fun b => b = g ∨ b = f.gm) w w4 from (HK1.out.mono (fun _ h => h.elim)).trans (hk4.mono (fun b e => .inr e)))
    have HRL := Lib.hid (show ro < w4.heap.size from HROW.out.lt)
    have HPF := Lib.hid (perform_none g 0 _ _ n m' l w4 w1 HN4.out HPL0.out HFW0.out HNK.out H1.out.blk.lt LA lc hrow4)
    clear hrow4 hm4 hk4 HMA HRO1 c0
    go_wp2_with fail
    refine HPF.out.mono ?_
    rintro e' w5 ⟨v, rfl, hout, hbec⟩
    have hRo : Blk w5 ro 48 #[.slice none 0 0, .bool false, .bool false, .bool false, .bool false] := by
      obtain ⟨_, _, _, _, _, hk⟩ := hbec
      exact HROW.out.keeps hk (fun e => by rcases e with e | e; exact HRG.out e; exact HRM.out e)
    have hfar := fun w'' (k : Keeps (only ro) w5 w'') => (hout.far k HRL.out).since HKW.out.size
    have hcl := fun w'' (k : Keeps (only ro) w5 w'') => hbec.close (f := f) rfl HSUB.out HKW.out k HR0.out HRL.out (fun e => HRG.out e.symm) (fun e => HRM.out e.symm) HNR.out
    obtain ⟨sv, ps, rfl, hprow, hpk, hfw⟩ := hout
    obtain ⟨A6, c6, rfl, _⟩ := hprow.form
    skip
    have z0 : w5.cell? ⟨ro, 0, none⟩ = some (.slice none 0 0) := by rw [hRo.cell]; rfl
    have z1 : w5.cell? ⟨ro, 1, none⟩ = some (.bool false) := by rw [hRo.cell]; rfl
    have z2 : w5.cell? ⟨ro, 2, none⟩ = some (.bool false) := by rw [hRo.cell]; rfl
    have z3 : w5.cell? ⟨ro, 3, none⟩ = some (.bool false) := by rw [hRo.cell]; rfl
    have z4 : w5.cell? ⟨ro, 4, none⟩ = some (.bool false) := by rw [hRo.cell]; rfl
    have f0 := hRo.frozen 0
    have f1 := hRo.frozen 1
    have f2 := hRo.frozen 2
    have f3 := hRo.frozen 3
    have f4 := hRo.frozen 4
    obtain ⟨O1, hO1⟩ : ∃ b, b = (Pure.Neg.acts { n with m := m' } l none).2.up := ⟨_, rfl⟩
    obtain ⟨O2, hO2⟩ : ∃ b, b = (Pure.Neg.acts { n with m := m' } l none).2.down := ⟨_, rfl⟩
    obtain ⟨O3, hO3⟩ : ∃ b, b = (Pure.Neg.acts { n with m := m' } l none).2.start := ⟨_, rfl⟩
    obtain ⟨O4, hO4⟩ : ∃ b, b = (Pure.Neg.acts { n with m := m' } l none).2.done := ⟨_, rfl⟩
    rw [← hO1, ← hO2, ← hO3, ← hO4] at hfar ⊢
    have HZ := Lib.hid (((((hRo.set 0 (.slice A6 ps.length c6)).set 1 (.bool O1)).set 2 (.bool O2)).set 3 (.bool O3)).set 4 (.bool O4))
    have KR := (((((Keeps.refl (only ro) w5).put 0 (.slice A6 ps.length c6)).put 1 (.bool O1)).put 2 (.bool O2)).put 3 (.bool O3)).put 4 (.bool O4)
    have HFAR := Lib.hid (hfar _ KR)
    have HCL := Lib.hid (hcl _ KR)
    clear hRo hfar hcl hprow hpk hfw KR hO1 hO2 hO3 hO4 hbec HPF
    go_wp2_with fail
    refine bodyPost_ret (results_row1 rfl _ _ ro 48 _ (0, 0) _ rfl HZ.out Try.underlying48 rfl (by rw [HI.out]; rfl)) rfl ?_
    exact ⟨_, rfl, HFAR.out, HCL.out⟩
end Go.Proofs.Ytjomcffhbaplcaa
/- Package nego: New. -/
namespace Go.Proofs.Ytjomcffhbaplcaa
open Go.RowKit
set_option maxRecDepth 100000 in
set_option maxHeartbeats 8000000 in
theorem newneg_any (Fu Fx : Nat → Prop) (xu x : Value) (us : List (Value × Pure.Rule)) (zs : List (Value × Pure.Opt)) (t u : Nat) (w : World) (hu : RRow w Fu xu us) (hx : ORow w Fx x zs) (hF : ∀ b, Fx b → b < w.heap.size) (hfu : FewRules us) (hfx : Pure.Fine (optsOf zs)) (hm : mayBe t u) :
    Calls Try.prog 18 #[xu, x, .int .i64 (t : Int), .int .i64 (u : Int)] w fun e w' => ∃ g f R, e = .returned (.tuple #[.pointer (some ⟨g, 0, none⟩), .int .i64 0]) ∧ NObj w' g R f (Pure.newNeg (rulesOf us) (optsOf zs) t u) ∧ w.heap.size ≤ g ∧ (w.heap.size ≤ f.gm ∧ f.gm.j = byRules g) ∧ (∀ b, R b → w.heap.size ≤ b) ∧ Keeps nobody w w' := by
  obtain ⟨X, cx, rfl, _⟩ := hx.form
  obtain ⟨U, cu, rfl, _⟩ := hu.form
  have HX := Lib.hid hx
  have HU := Lib.hid hu
  have HF := Lib.hid hF
  have HFU := Lib.hid hfu
  have HFX := Lib.hid hfx
  have HMB := Lib.hid hm
  have HN := Lib.hid (new_ok t u w hm)
  have hzl := hfx.len
  have hzl2 : zs.length ≤ 32 := by simpa using hzl
  clear hu hx hF hfu hfx hm hzl
  go_enter Try.func18, Try.ntmps18
  go_wp2_with fail
  refine HN.out.mono ?_
  rintro e w1 ⟨rfl, hm1, hk1⟩
  obtain ⟨gm, hgm⟩ : ∃ q, q = w.heap.size := ⟨_, rfl⟩
  rw [← hgm] at hm1 ⊢
  have HM1 := Lib.hid hm1
  have HK1 := Lib.hid hk1
  have HGM := Lib.hid hgm
  have HIR := Lib.hid (isRequest_any Fx (.slice X zs.length cx) zs w1 (fun b hb => Nat.lt_of_lt_of_le (HF.out b hb) hk1.size) (HX.out.keeps hk1 (fun _ _ h => h)))
  have HD := decide_eq_true (show (Pure.options (optsOf zs)).1 = 0 from Pure.fine_options HFX.out)
  rw [HD] at HIR
  clear hm1 hk1 hgm HN HD
  go_wp2_with fail
  refine HIR.out.mono ?_
  rintro e w2 ⟨rfl, hk2⟩
  have HM2 := Lib.hid (HM1.out.keeps hk2 (fun h => h))
  have HK2 := Lib.hid (HK1.out.trans hk2)
  have HCR := Lib.hid (copiesOfRules_any Fu (.slice U us.length cu) us w2 (HU.out.keeps HK2.out (fun _ _ h => h)) HFU.out)
  clear hk2 HIR HM1
  go_wp2_with fail
  refine HCR.out.mono ?_
  rintro e w3 ⟨u3, q3, rfl, hq3, hr3⟩
  obtain ⟨A3, c3, rfl⟩ := own_form hr3.own
  have HQ3 := Lib.hid hq3
  have HR3 := Lib.hid hr3.row
  have HM3 := Lib.hid (HM2.out.keeps hr3.kept (fun h => h))
  have HK3 := Lib.hid (HK2.out.trans hr3.kept)
  have HS23 := Lib.hid hr3.kept.size
  have HGW2 := Lib.hid (show gm < w2.heap.size from Blk.lt HM2.out)
  have HCP := Lib.hid (copies_any Fx (.slice X zs.length cx) zs w3 (HX.out.keeps HK3.out (fun _ _ h => h)) (by omega) (fine_few HFX.out).data)
  clear hq3 hr3 HCR
  go_wp2_with fail
  refine HCP.out.mono ?_
  rintro e w4 ⟨u4, q4, rfl, hq4, hr4⟩
  obtain ⟨A4, c4, rfl⟩ := own_form hr4.own
  have hk34 : Keeps nobody w3 w4 := Keeps.new hr4.below
  have HQ4 := Lib.hid hq4
  have HR4 := Lib.hid hr4.row.strong
  have HR3b := Lib.hid (HR3.out.keeps hk34 (fun _ _ h => h))
  have HM4 := Lib.hid (HM3.out.keeps hk34 (fun h => h))
  have HK4 := Lib.hid (HK3.out.trans hk34)
  have HS34 := Lib.hid hk34.size
  clear hq4 hr4 hk34 HCP HR3
  go_upto_region 7 with fail
  obtain ⟨w5a, hw5a⟩ : ∃ q, q = w4.alloc (.cells #[.pointer (some ⟨gm, 0, none⟩), .slice A3 q3.length c3, .nilFunc, .int .i64 (t : Int), .slice A4 q4.length c4, .slice none 0 0, .int .i64 0, .slice none 0 0, .bool false, .int .i64 0, .int .i64 0, .slice none 0 0, .slice none 0 0, .int .i64 0] 83) := ⟨_, rfl⟩
  obtain ⟨g, hg⟩ : ∃ q, q = w4.heap.size := ⟨_, rfl⟩
  rw [← hw5a, ← hg]
  have hk5a : Keeps nobody w4 w5a := by rw [hw5a]; exact (Keeps.refl _ w4).alloc _
  have hs5a : w5a.heap.size = g + 1 := by rw [hw5a, hg]; simp
  have hB5a : Blk w5a g 83 (⟨⟨gm, .nilFunc⟩, .slice A3 q3.length c3, t, .slice A4 q4.length c4, .slice none 0 0, 0, .slice none 0 0, false, 0, 0, .slice none 0 0, .slice none 0 0, 0⟩ : NF).list.toArray := by
    rw [hw5a, hg]
    exact Blk.new w4 _ _
  have c2 : w5a.cell? ⟨g, 2, none⟩ = some .nilFunc := by rw [hB5a.cell]; rfl
  have f2 := hB5a.frozen 2
  obtain ⟨w5, hw5⟩ : ∃ q, q = w5a.setCell ⟨g, 2, none⟩ (byRules g) := ⟨_, rfl⟩
  have hk5 : Keeps nobody w4 w5 := by rw [hw5]; exact hk5a.trans' ((Keeps.refl (only g) w5a).put 2 _) (fun i hi hl => by have e : i = g := hi; omega)
  have hs5 : w5.heap.size = g + 1 := by rw [hw5]; simp [hs5a]
  have HB5 := Lib.hid (show NBlk w5 g (⟨⟨gm, byRules g⟩, .slice A3 q3.length c3, t, .slice A4 q4.length c4, .slice none 0 0, 0, .slice none 0 0, false, 0, 0, .slice none 0 0, .slice none 0 0, 0⟩ : NF) by
    rw [hw5]
    exact hB5a.set 2 (byRules g))
  clear hk5a hs5a hB5a hw5a
  have HM5 := Lib.hid (HM4.out.keeps hk5 (fun h => h))
  have HR35 := Lib.hid (HR3b.out.keeps hk5 (fun _ _ h => h))
  have HR45 := Lib.hid (HR4.out.keeps hk5 (fun _ _ h => h))
  have HK5 := Lib.hid (HK4.out.trans hk5)
  have HG := Lib.hid hg
  have HS5 := Lib.hid hs5
  have hl4 : q4.length = zs.length := by have := congrArg List.length HQ4.out; simpa using this
  have HF4 := Lib.hid (fine_few (zs := q4) (by rw [HQ4.out]; exact HFX.out))
  have HBG := Lib.hid (begin_any (fun b => w3.heap.size ≤ b ∧ b < w4.heap.size) g _ q4 w5 HB5.out HR45.out HF4.out)
  clear hg hk5 hs5 HM4 HR3b HR4 hl4
  go_upto_region 8 with fail
  rw [← hw5]
  clear hw5 c2 f2
  go_wp2_with fail
  refine HBG.out.mono ?_
  rintro e w6 ⟨rfl, u6, q6, hq6, hr6, hb6, hk6⟩
  obtain ⟨B6, c6, rfl, _⟩ := hr6.form
  have hg6 : g < w5.heap.size := HB5.out.lt
  have hgm6 : gm < w2.heap.size := HGW2.out
  have HOBJ := Lib.hid (show NObj w6 g (fun b => w2.heap.size ≤ b ∧ b < w6.heap.size ∧ b ≠ g) _ (Pure.newNeg (rulesOf us) (optsOf zs) t u) from by
    have hks : ∀ b, b ≠ g → ¬ only g b := fun b hb e => hb e
    have hw := hk6.size
    have hS5 := HS5.out
    have hG := HG.out
    have h34 := HS34.out
    have h23 := HS23.out
    have hmb := HMB.out
    unfold mayBe at hmb
    have hW : (Pure.newNeg (rulesOf us) (optsOf zs) t u).Well := ⟨Pure.newMach_good (by omega) (by omega), by show t ≤ 1000; omega, by show u ≤ 1000; omega, by show 0 < 256; omega, HFX.out, HFX.out, Pure.fine_nil, rfl⟩
    refine ⟨hb6, HM5.out.keeps hk6 (fun e => by have e : gm = g := e; omega), hW, rfl, rfl, rfl, rfl, rfl, rfl, ⟨q3, ?_, HQ3.out, ?_⟩, ?_, ?_, ?_, ?_, ?_, fun b hb => hb.2.1, fun h => h.2.2 rfl, fun h => by have h1 : w2.heap.size ≤ gm := h.1; omega, by show g ≠ gm; omega⟩
    · exact (HR35.out.keeps hk6 (fun b hb e => by have e : b = g := e; have := hb.2; omega)).mono (fun b hb => ⟨by rcases hb.1 with h | h <;> exact h, by have := hb.2; omega, by have := hb.2; omega⟩)
    · refine ⟨?_, fun p hp => ?_⟩
      · have := congrArg List.length HQ3.out
        simp at this
        rw [this]; exact HFU.out.len
      · have h1 : p.2 ∈ rulesOf us := by rw [← HQ3.out]; exact List.mem_map.2 ⟨p, hp, rfl⟩
        obtain ⟨q, hq, he⟩ := List.mem_map.1 h1
        rw [← he]
        exact HFU.out.ok q hq
    · exact ⟨q4, (HR45.out.keeps hk6 (fun b hb e => by have e : b = g := e; have := hb.2; omega)).mono (fun b hb => ⟨by have := hb.1; omega, by have := hb.2; omega, by have := hb.2; omega⟩), HQ4.out, HF4.out⟩
    · refine ⟨q6, hr6.strong.mono (fun b hb => ⟨by have := hb.1; omega, hb.2, by have := hb.1; omega⟩), hq6.trans HQ4.out, fine_few ?_⟩
      rw [hq6, HQ4.out]; exact HFX.out
    · exact ⟨[], ORow.nil _ _, rfl, by simp, by simp⟩
    · exact ⟨[], ORow.nil _ _, rfl, by simp, by simp⟩
    · exact ⟨[], ORow.nil _ _, rfl, by simp, by simp⟩)
  have HKF := Lib.hid (show Keeps nobody w w6 from HK5.out.trans' hk6 (fun i hi hl => by have e : i = g := hi; have := HG.out; have := HK4.out.size; omega))
  have HGW := Lib.hid (show w.heap.size ≤ g by have := HG.out; have := HK4.out.size; omega)
  have HMW := Lib.hid (show w.heap.size ≤ gm by have := HGM.out; omega)
  have HRW := Lib.hid (show ∀ b, (w2.heap.size ≤ b ∧ b < w6.heap.size ∧ b ≠ g) → w.heap.size ≤ b from fun b hb => Nat.le_trans HK2.out.size hb.1)
  clear hq6 hr6 hb6 hk6 hg6 hgm6 HBG
  go_wp2_with fail
  go_ret2
  exact ⟨g, _, _, rfl, HOBJ.out, HGW.out, ⟨HMW.out, rfl⟩, HRW.out, HKF.out⟩
set_option maxRecDepth 100000 in
set_option maxHeartbeats 8000000 in
theorem newneg_bad (Fu Fx : Nat → Prop) (xu x : Value) (us : List (Value × Pure.Rule)) (zs : List (Value × Pure.Opt)) (t u : Nat) (w : World) (hu : RRow w Fu xu us) (hx : ORow w Fx x zs) (hF : ∀ b, Fx b → b < w.heap.size) (hfx : (Pure.options (optsOf zs)).1 ≠ 0) (hm : mayBe t u) :
    Calls Try.prog 18 #[xu, x, .int .i64 (t : Int), .int .i64 (u : Int)] w fun e w' => e = .returned (.tuple #[.pointer none, .int .i64 1]) ∧ Keeps nobody w w' := by
  obtain ⟨X, cx, rfl, _⟩ := hx.form
  obtain ⟨U, cu, rfl, _⟩ := hu.form
  have HX := Lib.hid hx
  have HF := Lib.hid hF
  have HN := Lib.hid (new_ok t u w hm)
  have HD := Lib.hid (decide_eq_false hfx)
  clear hu hx hF hfx hm
  go_enter Try.func18, Try.ntmps18
  go_wp2_with fail
  refine HN.out.mono ?_
  rintro e w1 ⟨rfl, hm1, hk1⟩
  have HK1 := Lib.hid hk1
  have HIR := Lib.hid (isRequest_any Fx (.slice X zs.length cx) zs w1 (fun b hb => Nat.lt_of_lt_of_le (HF.out b hb) hk1.size) (HX.out.keeps hk1 (fun _ _ h => h)))
  rw [HD.out] at HIR
  clear hm1 hk1 HN
  go_wp2_with fail
  refine HIR.out.mono ?_
  rintro e w2 ⟨rfl, hk2⟩
  have HK2 := Lib.hid (HK1.out.trans hk2)
  clear hk2 HIR
  go_wp2_with fail
  go_ret2
  exact ⟨rfl, HK2.out⟩
end Go.Proofs.Ytjomcffhbaplcaa
/- The statements' rules, Rules. -/
namespace Go.Proofs.Ytjomcffhbaplcaa
open Go.RowKit
set_option maxHeartbeats 2000000 in
theorem rules_any (w : World) : Calls Try.prog 8 #[] w fun e w' => ∃ u us, e = .returned u ∧ RRow w' (fun b => w.heap.size ≤ b ∧ b < w'.heap.size) u us ∧ rulesOf us = Pure.fewRules ∧ Keeps nobody w w' := by
  go_enter Try.func8, Try.ntmps8
  go_wp2_with fail
  go_ret
  have hb : Blk (w.alloc (.cells #[.int .i64 1, .int .i64 2, .int .i64 2, .int .i64 64, .int .i64 1500, .slice none 0 0, .bool false, .int .i64 5, .int .i64 4, .int .i64 1, .int .i64 0, .int .i64 0, .slice none 0 0, .bool false] 53)) w.heap.size 53 (rulesCells [(.slice none 0 0, Pure.rangeRule 64 1500), (.slice none 0 0, ⟨5, 4, 1, 0, 0, [], false⟩)]).toArray := Blk.new w _ _
  refine ⟨_, [(.slice none 0 0, Pure.rangeRule 64 1500), (.slice none 0 0, ⟨5, 4, 1, 0, 0, [], false⟩)], rfl, ⟨?_, fun p hp => ?_⟩, rfl, (Keeps.refl _ w).alloc _⟩
  · exact Row.block (F := fun b => w.heap.size ≤ b ∧ b < (w.alloc _).heap.size) (n := 2) (c := 2) (size := 7) hb ⟨Nat.le_refl _, by simp⟩ rfl (by unfold maxLen; omega) (Nat.le_refl _)
  · simp at hp
    rcases hp with rfl | rfl
    · exact Row.nil _ _ _
    · exact Row.nil _ _ _
theorem few_rules {us : List (Value × Pure.Rule)} (h : rulesOf us = Pure.fewRules) : FewRules us := by
  refine ⟨by have := congrArg List.length h; simp [Pure.fewRules] at this; omega, fun p hp => ?_⟩
  have h1 : p.2 ∈ Pure.fewRules := by rw [← h]; exact List.mem_map.2 ⟨p, hp, rfl⟩
  unfold Pure.fewRules at h1
  rcases List.mem_cons.1 h1 with h1 | h1
  · rw [h1]
    exact ⟨fun _ _ => by show (0 : Int) ≤ 64 ∧ (64 : Int) ≤ 1500 ∧ (1500 : Int) < 4294967296; omega, by simp [Pure.rangeRule]⟩
  · rw [List.mem_singleton.1 h1]
    exact ⟨fun _ _ => by show (0 : Int) ≤ 0 ∧ (0 : Int) ≤ 0 ∧ (0 : Int) < 4294967296; omega, by simp⟩
set_option maxRecDepth 100000 in
set_option maxHeartbeats 4000000 in
theorem asRules_any (F : Nat → Prop) (x : Value) (us : List (Value × Pure.Rule)) (w : World) (hx : RRow w F x us) (hF : ∀ b, F b → b < w.heap.size) (hul : us.length ≤ 100000) :
    Calls Try.prog 7 #[x] w fun e w' => ∃ u, ∃ qs : List (Value × Pure.Rule), e = .returned u ∧ rulesOf qs = rulesOf us ∧ RRead w w' F u qs := by
  obtain ⟨X, cx, rfl, _⟩ := hx.form
  have HX := Lib.hid hx
  have HF := Lib.hid hF
  clear hx hF
  go_enter Try.func7, Try.ntmps7
  go_wp2_with fail
  go_loopw [3, 4] (fun v i wr => ∃ k : Nat, k ≤ us.length ∧ i = .int .i64 (k : Int) ∧ ∃ qs : List (Value × Pure.Rule), rulesOf qs = (rulesOf us).take k ∧ qs.length = k ∧ RRead w wr F v qs) (fun _ i _ => us.length - (intOf i).toNat)
  case atStart => exact ⟨0, by omega, rfl, [], rfl, rfl, ⟨World.ownsRow_nil _ _ _ _, by simp, Keeps.refl _ _⟩⟩
  case round =>
    obtain ⟨k, hk, rfl, qs, hqs, rfl, hrd⟩ := hrel
    obtain ⟨A2, c2, rfl⟩ := own_form hrd.own
    have HQS := Lib.hid hqs
    have HRD := Lib.hid hrd
    clear hqs hrd
    by_cases hkl : qs.length < us.length
    · have i0' : (0 : Int) ≤ (qs.length : Int) := by omega
      have i1 : (qs.length : Int) < (us.length : Int) := by omega
      have d1 : decide ((qs.length : Int) < (us.length : Int)) = true := decide_eq_true (by omega)
      have d2 : decide (qs.length < us.length) = true := decide_eq_true hkl
      obtain ⟨bx, ox, pA, pc, pr, rfl, hFb, hcell, hwant, hpa⟩ := (HX.out.keeps HRD.out.kept (fun _ _ h => h)).pick qs.length hkl
      have HTK := Lib.hid (show (rulesOf us).take (qs.length + 1) = (rulesOf us).take qs.length ++ [pr] from Pure.take_snoc _ qs.length _ (by rw [List.getElem?_map, hpa]; rfl))
      have HRW := Lib.hid hwant
      have x0 : wr.cell? ⟨bx, ox + qs.length * 7, none⟩ = some (.int .i64 pr.type) := hcell 0 _ rfl
      have x1 := hcell 1 _ rfl
      have x2 := hcell 2 _ rfl
      have x3 := hcell 3 _ rfl
      have x4 := hcell 4 _ rfl
      have x5 := hcell 5 _ rfl
      have x6 := hcell 6 _ rfl
      clear hcell hwant hpa
      go_upto_region 6 with fail
      obtain ⟨w3, hw3⟩ : ∃ w3, w3 = wr.alloc (.cells (ruleCells (.slice pA pr.want.length pc, pr)).toArray 53) := ⟨_, rfl⟩
      obtain ⟨gr, hgr⟩ : ∃ gr, gr = wr.heap.size := ⟨_, rfl⟩
      rw [show wr.alloc (.cells #[.int .i64 pr.type, .int .i64 pr.len, .int .i64 pr.how, .int .i64 pr.lo, .int .i64 pr.hi, .slice pA pr.want.length pc, .bool pr.need] 53) = w3 from hw3.symm, ← hgr]
      have hk3 : Keeps nobody wr w3 := by rw [hw3]; exact (Keeps.refl _ wr).alloc _
      have HB5 := Lib.hid (show Blk w3 gr 53 (ruleCells (.slice pA pr.want.length pc, pr)).toArray by rw [hw3, hgr]; exact Blk.new wr _ _)
      have HR5 := Lib.hid (HRD.out.keeps hk3)
      have HD5 := Lib.hid ((HRW.out.keeps hk3 (fun _ _ h => h)).mono (G := fun b => F b ∧ (Value.slice A2 qs.length c2).ownBlock ≠ some b ∧ b < w3.heap.size) (fun b hb => by
        have h1 := HF.out b hb
        have h2 := HRD.out.kept.size
        have h3 := hk3.size
        exact ⟨hb, fun e => by have := ownsRow_ge HRD.out.own b e; omega, by omega⟩))
      have b0 : w3.cell? ⟨gr, 0, none⟩ = some (.int .i64 pr.type) := by rw [HB5.out.cell]; rfl
      have b1 : w3.cell? ⟨gr, 1, none⟩ = some (.int .i64 pr.len) := by rw [HB5.out.cell]; rfl
      have b2 : w3.cell? ⟨gr, 2, none⟩ = some (.int .i64 pr.how) := by rw [HB5.out.cell]; rfl
      have b3 : w3.cell? ⟨gr, 3, none⟩ = some (.int .i64 pr.lo) := by rw [HB5.out.cell]; rfl
      have b4 : w3.cell? ⟨gr, 4, none⟩ = some (.int .i64 pr.hi) := by rw [HB5.out.cell]; rfl
      have b5 : w3.cell? ⟨gr, 5, none⟩ = some (.slice pA pr.want.length pc) := by rw [HB5.out.cell]; rfl
      have b6 : w3.cell? ⟨gr, 6, none⟩ = some (.bool pr.need) := by rw [HB5.out.cell]; rfl
      clear hw3 hgr hk3 x0 x1 x2 x3 x4 x5 x6
      go_wp2_with (at_builtin; refine stopHere ?_)
      unfold Hid
      refine wp_append_rule rfl (.tmp 16) (.tmp 32) rfl w.heap.size (.slice A2 qs.length c2) qs (.slice pA pr.want.length pc) pr rfl rfl rfl HR5.out.own (by omega) HR5.out.kept.size ?_
      intro A6 c6 w6 hown6 hk6 hob6
      have HR6 := Lib.hid (HR5.out.more HD5.out hown6 hk6 hob6)
      have lw : wrap64 ((qs.length : Int) + 1) = ((qs.length + 1 : Nat) : Int) := by rw [IntWalk.wrap64_in _ (by omega)]; omega
      clear hown6 hk6 hob6 b0 b1 b2 b3 b4 b5 b6
      go_wp2_with fail
      go_roundw
      case rel => exact ⟨qs.length + 1, by omega, by go_num, qs ++ [(.slice pA pr.want.length pc, pr)], by rw [HTK.out, ← HQS.out]; simp [rulesOf], by simp, HR6.out⟩
      case measure => simp [intOf] <;> omega
    · have hkk : qs.length = us.length := by omega
      have d1 : decide ((qs.length : Int) < (us.length : Int)) = false := decide_eq_false (by omega)
      have d2 : decide (qs.length < us.length) = false := decide_eq_false (by omega)
      have HE := Lib.hid (show rulesOf qs = rulesOf us by rw [HQS.out]; exact List.take_of_length_le (by simp; omega))
      go_wp2
      go_ret
      exact ⟨_, qs, rfl, HE.out, HRD.out⟩
/-- The few rules as the program has them. -/
theorem few_made {F : Nat → Prop} {w0 w : World} {u : Value} {qs us : List (Value × Pure.Rule)} (h : RRead w0 w F u qs) (he : rulesOf qs = rulesOf us) (hf : rulesOf us = Pure.fewRules) : RRow w (fun b => (F b ∨ w0.heap.size ≤ b) ∧ b < w.heap.size) u qs ∧ rulesOf qs = Pure.fewRules ∧ FewRules qs :=
  ⟨h.row, he.trans hf, few_rules (he.trans hf)⟩
end Go.Proofs.Ytjomcffhbaplcaa
