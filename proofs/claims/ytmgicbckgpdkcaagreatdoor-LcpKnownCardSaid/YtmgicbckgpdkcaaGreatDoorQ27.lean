/- Package nego: Do. -/
import Derived.Test.YtmgicbckgpdkcaaGreatDoorQ26
import Derived.Test.YtmgicbckgpdkcaaGreatDoorQ17
import Derived.Test.YtmgicbckgpdkcaaGreatDoorQ2
import Derived.Test.YtmgicbckgpdkcaaGreatDoorQ13
import Derived.PinnedBridge
import Derived.Lay
import Derived.LaidMore
import Derived.Lib.LaidU8T
import Derived.Stop.LaidErr
import Derived.Laws.EntriesVeiled
import Derived.Test.YtmgicbckgpdkcaaGreatDoorQ25
namespace Go.Proofs.YtmgicbckgpdkcaaGreatDoor
set_option maxRecDepth 100000
set_option maxHeartbeats 8000000
open _root_.Go.Lib renaming hid → xhd
open Go.RowKit
theorem do_up (g : Nat) (R : Nat → Prop) (f : NF) (n : Pure.Neg) (w : World) (h : NObj w g R f n) :
  Calls Tryz.prog 71 #[.pointer (some ⟨g, 0, none⟩), .int .i64 0] w fun r w' => ∃ v, r = .returned v ∧ Outs w w' v (n.act 0).2 ∧ Becomes w w' g R f (n.act 0).1 := by
 have HI := xhd out_info
 have hgl := h.blk.lt
 have hml := Blk.lt h.mach
 obtain ⟨zf, hzf, hze, hzw⟩ := h.first
 have HZE := xhd hze
 have HAE := xhd (show n.act 0 = ({ n.again with m := (n.m.act2 (0 : Int)).2 } : Pure.Neg).acts (n.m.act2 (0 : Int)).1 none from rfl)
 obtain ⟨ro, hro⟩ : ∃ q, q = w.heap.size := ⟨_, rfl⟩
 rw [HAE.out]
 have HMA0 := xhd (fun (W : World) (f2 : NF) (R2 : Nat → Prop) (hW : NObj W g R2 f2 n.again) => prog_do_any f2.gm 0 n.m W hW.mach hW.well.good hW.well.tries)
 have HGD := xhd (Pure.act2_good h.well.good (0 : Int))
 have hpl : ∀ a ∈ (n.m.act2 (0 : Int)).1, a ≠ 7 ∧ a ≠ 8 ∧ a ≠ 11 := Pure.act2_plain h.well.good (by omega)
 have HPL := xhd hpl
 have HFW := xhd (Pure.act2_few h.well.good (0 : Int))
 obtain ⟨l, hl⟩ : ∃ l, l = (n.m.act2 (0 : Int)).1 := ⟨_, rfl⟩
 obtain ⟨m', hm'⟩ : ∃ m', m' = (n.m.act2 (0 : Int)).2 := ⟨_, rfl⟩
 rw [← hl] at HPL HFW HMA0 ⊢
 rw [← hm'] at HMA0 HGD ⊢
 clear hl hm' hpl
 go_enter Tryz.func71, Tryz.ntmps71
 go_upto_region 1 with fail
 rw [← hro]
 generalize hw1 : w.alloc _ = w1
 have hk1 : Keeps nobody w w1 := by rw [← hw1]; exact (Keeps.refl _ w).alloc _
 have hs1 : w1.heap.size = ro + 1 := by rw [← hw1, hro]; simp
 have HRO1 := xhd (show Blk w1 ro 59 #[.slice none 0 0, .bool false, .bool false, .bool false, .bool false] by rw [← hw1, hro]; exact Blk.new w _ _)
 have H1 := xhd (h.keeps hk1 (fun h => h) (fun h => h) (fun _ _ h => h))
 have HK1 := xhd hk1
 have HMD := xhd (nmade_any g f w1 H1.out.blk)
 have HBG := xhd (begin_any R g f zf w1 H1.out.blk (hzf.keeps hk1 (fun _ _ h => h)) hzw)
 have HRG := xhd (show ro ≠ g by omega)
 have HRM := xhd (show ro ≠ f.gm by omega)
 have HR0 := xhd (show w.heap.size ≤ ro by omega)
 have HS1 := xhd hs1
 have HLTR := xhd (show ¬ R ro from fun e => by have := h.lt ro e; omega)
 have HGW := xhd hgl
 clear hw1 hk1 hs1 hro hgl hml hzf hze hzw h
 go_wp2_with fail
 refine HMD.out.mono ?_
 rintro e' w' ⟨rfl, rfl⟩
 go_wp2_with fail
 refine HBG.out.mono ?_
 rintro e' w2 ⟨rfl, u2, q2, hq2, hr2, hb2, hk2⟩
 have HN2 := xhd (H1.out.begun hk2 (hq2.trans HZE.out) hr2 hb2)
 have HRO2 := xhd (HRO1.out.keeps hk2 (fun e => HRG.out e))
 have HK2 := xhd (show Keeps (fun b => b = g ∨ b = f.gm) w w2 from (HK1.out.mono (fun _ h => h.elim)).trans (hk2.mono (fun b e => .inl e)))
 have HNR := xhd (show ¬ Later w1 w2 R ro from fun e => by rcases e.1 with e | e; exact HLTR.out e; have := HS1.out; omega)
 have HSUB := xhd (show ∀ b, Later w1 w2 R b → R b ∨ w.heap.size ≤ b from fun b hb => hb.1.imp (fun h => h) (fun h => Nat.le_trans HK1.out.size h))
 clear hq2 hr2 hb2 hk2 HBG HMD H1 HRO1 HZE
 have c0 : w2.cell? ⟨g, 0, none⟩ = some (.pointer (some ⟨f.gm, 0, none⟩)) := HN2.out.blk.cell 0
 have HMA := xhd (HMA0.out w2 _ _ HN2.out)
 clear HMA0
 go_wp2_with fail
 refine HMA.out.mono ?_
 rintro e' w4 ⟨LA, lc, rfl, hrow4, hm4, hk4⟩
 have HN4 := xhd (HN2.out.machine (m' := m') hk4 hm4 HGD.out.1 HGD.out.2.1 HGD.out.2.2)
 have HROW := xhd (HRO2.out.keeps hk4 (fun e => HRM.out e))
 have HKW := xhd (show Keeps (fun b => b = g ∨ b = f.gm) w w4 from HK2.out.trans (hk4.mono (fun b e => .inr e)))
 have HRL := xhd (show ro < w4.heap.size from HROW.out.lt)
 have HPF := xhd (perform_none g 0 _ _ n.again m' l w4 w2 HN4.out HPL.out HFW.out (Nat.zero_le _) HN2.out.blk.lt LA lc hrow4)
 clear hrow4 hm4 hk4 HMA HN2 HRO2 HK2 c0
 go_wp2_with fail
 refine HPF.out.mono ?_
 rintro e' w5 ⟨v, rfl, hout, hbec⟩
 have hRo : Blk w5 ro 59 #[.slice none 0 0, .bool false, .bool false, .bool false, .bool false] := by
  obtain ⟨_, _, _, _, _, hk⟩ := hbec
  exact HROW.out.keeps hk (fun e => by rcases e with e | e; exact HRG.out e; exact HRM.out e)
 have hfar := fun w'' (k : Keeps (only ro) w5 w'') => (hout.far k HRL.out).since HKW.out.size
 have hcl := fun w'' (k : Keeps (only ro) w5 w'') => hbec.close (f := f) rfl HSUB.out HKW.out k HR0.out HRL.out (fun e => HRG.out e.symm) (fun e => HRM.out e.symm) HNR.out
 obtain ⟨sv, ps, rfl, hprow, hpk, hfw⟩ := hout
 obtain ⟨A6, c6, rfl, _⟩ := hprow.form
 skip
 have z0 : w5.cell? ⟨ro, 0, none⟩ = some (.slice none 0 0) := by rw [hRo.cell]; rfl
 have z1 : w5.cell? ⟨ro, 1, none⟩ = some (.bool false) := by rw [hRo.cell]; rfl
 have z2 : w5.cell? ⟨ro, 2, none⟩ = some (.bool false) := by rw [hRo.cell]; rfl
 have z3 : w5.cell? ⟨ro, 3, none⟩ = some (.bool false) := by rw [hRo.cell]; rfl
 have z4 : w5.cell? ⟨ro, 4, none⟩ = some (.bool false) := by rw [hRo.cell]; rfl
 have f0 := hRo.frozen 0
 have f1 := hRo.frozen 1
 have f2 := hRo.frozen 2
 have f3 := hRo.frozen 3
 have f4 := hRo.frozen 4
 obtain ⟨O1, hO1⟩ : ∃ b, b = (Pure.Neg.acts { n.again with m := m' } l none).2.up := ⟨_, rfl⟩
 obtain ⟨O2, hO2⟩ : ∃ b, b = (Pure.Neg.acts { n.again with m := m' } l none).2.down := ⟨_, rfl⟩
 obtain ⟨O3, hO3⟩ : ∃ b, b = (Pure.Neg.acts { n.again with m := m' } l none).2.start := ⟨_, rfl⟩
 obtain ⟨O4, hO4⟩ : ∃ b, b = (Pure.Neg.acts { n.again with m := m' } l none).2.done := ⟨_, rfl⟩
 rw [← hO1, ← hO2, ← hO3, ← hO4] at hfar ⊢
 have HZ := xhd (((((hRo.set 0 (.slice A6 ps.length c6)).set 1 (.bool O1)).set 2 (.bool O2)).set 3 (.bool O3)).set 4 (.bool O4))
 have KR := (((((Keeps.refl (only ro) w5).put 0 (.slice A6 ps.length c6)).put 1 (.bool O1)).put 2 (.bool O2)).put 3 (.bool O3)).put 4 (.bool O4)
 have HFAR := xhd (hfar _ KR)
 have HCL := xhd (hcl _ KR)
 clear hRo hfar hcl hprow hpk hfw KR hO1 hO2 hO3 hO4 hbec HPF
 go_wp2_with fail
 refine bodyPost_ret (results_row1 rfl _ _ ro 59 _ (0, 0) _ rfl HZ.out Tryz.underlying59 rfl (by rw [HI.out]; rfl)) rfl ?_
 exact ⟨_, rfl, HFAR.out, HCL.out⟩
theorem do_other (g : Nat) (R : Nat → Prop) (f : NF) (n : Pure.Neg) (e : Int) (he : e = 1 ∨ e = 2 ∨ e = 3) (w : World) (h : NObj w g R f n) (hnk : n.naks ≤ 1000) :
  Calls Tryz.prog 71 #[.pointer (some ⟨g, 0, none⟩), .int .i64 e] w fun r w' => ∃ v, r = .returned v ∧ Outs w w' v (n.act e).2 ∧ Becomes w w' g R f (n.act e).1 := by
 have HI := xhd out_info
 have hgl := h.blk.lt
 have hml := Blk.lt h.mach
 have HAE := xhd (show n.act e = ({ n with m := (n.m.act2 e).2 } : Pure.Neg).acts (n.m.act2 e).1 none by rcases he with rfl | rfl | rfl <;> rfl)
 have hpl : ∀ a ∈ (n.m.act2 e).1, a ≠ 7 ∧ a ≠ 8 ∧ a ≠ 11 := Pure.act2_plain h.well.good (by omega)
 obtain ⟨ro, hro⟩ : ∃ q, q = w.heap.size := ⟨_, rfl⟩
 rw [HAE.out]
 have HPL0 := xhd hpl
 have HMA0 := xhd (fun (W : World) (hW : NObj W g R f n) => prog_do_any f.gm e n.m W hW.mach hW.well.good hW.well.tries)
 have HGD := xhd (Pure.act2_good h.well.good e)
 have HFW0 := xhd (Pure.act2_few h.well.good e)
 obtain ⟨l, hl⟩ : ∃ l, l = (n.m.act2 e).1 := ⟨_, rfl⟩
 obtain ⟨m', hm'⟩ : ∃ m', m' = (n.m.act2 e).2 := ⟨_, rfl⟩
 rw [← hl] at HPL0 HFW0 HMA0 ⊢
 rw [← hm'] at HMA0 HGD ⊢
 clear hl hm' hpl
 have HNK := xhd hnk
 clear hnk
 rcases he with rfl | rfl | rfl
 all_goals
  go_enter Tryz.func71, Tryz.ntmps71
  go_upto_region 1 with fail
  rw [← hro]
  generalize hw1 : w.alloc _ = w1
  have hk1 : Keeps nobody w w1 := by rw [← hw1]; exact (Keeps.refl _ w).alloc _
  have HRO1 := xhd (show Blk w1 ro 59 #[.slice none 0 0, .bool false, .bool false, .bool false, .bool false] by rw [← hw1, hro]; exact Blk.new w _ _)
  have H1 := xhd (h.keeps hk1 (fun h => h) (fun h => h) (fun _ _ h => h))
  have HK1 := xhd hk1
  have HMD := xhd (nmade_any g f w1 H1.out.blk)
  have HRG := xhd (show ro ≠ g by omega)
  have HRM := xhd (show ro ≠ f.gm by omega)
  have HR0 := xhd (show w.heap.size ≤ ro by omega)
  have HNR := xhd (show ¬ R ro from fun e => by have := h.lt ro e; omega)
  have HSUB := xhd (show ∀ b, R b → R b ∨ w.heap.size ≤ b from fun b hb => .inl hb)
  have c0 : w1.cell? ⟨g, 0, none⟩ = some (.pointer (some ⟨f.gm, 0, none⟩)) := H1.out.blk.cell 0
  have HMA := xhd (HMA0.out w1 H1.out)
  clear hw1 hk1 hro hgl hml h HMA0
  go_wp2_with fail
  refine HMD.out.mono ?_
  rintro e' w' ⟨rfl, rfl⟩
  go_wp2_with fail
  refine HMA.out.mono ?_
  rintro e' w4 ⟨LA, lc, rfl, hrow4, hm4, hk4⟩
  have HN4 := xhd (H1.out.machine (m' := m') hk4 hm4 HGD.out.1 HGD.out.2.1 HGD.out.2.2)
  have HROW := xhd (HRO1.out.keeps hk4 (fun e => HRM.out e))
  have HKW := xhd (show Keeps (fun b => b = g ∨ b = f.gm) w w4 from (HK1.out.mono (fun _ h => h.elim)).trans (hk4.mono (fun b e => .inr e)))
  have HRL := xhd (show ro < w4.heap.size from HROW.out.lt)
  have HPF := xhd (perform_none g 0 _ _ n m' l w4 w1 HN4.out HPL0.out HFW0.out HNK.out H1.out.blk.lt LA lc hrow4)
  clear hrow4 hm4 hk4 HMA HRO1 c0
  go_wp2_with fail
  refine HPF.out.mono ?_
  rintro e' w5 ⟨v, rfl, hout, hbec⟩
  have hRo : Blk w5 ro 59 #[.slice none 0 0, .bool false, .bool false, .bool false, .bool false] := by
   obtain ⟨_, _, _, _, _, hk⟩ := hbec
   exact HROW.out.keeps hk (fun e => by rcases e with e | e; exact HRG.out e; exact HRM.out e)
  have hfar := fun w'' (k : Keeps (only ro) w5 w'') => (hout.far k HRL.out).since HKW.out.size
  have hcl := fun w'' (k : Keeps (only ro) w5 w'') => hbec.close (f := f) rfl HSUB.out HKW.out k HR0.out HRL.out (fun e => HRG.out e.symm) (fun e => HRM.out e.symm) HNR.out
  obtain ⟨sv, ps, rfl, hprow, hpk, hfw⟩ := hout
  obtain ⟨A6, c6, rfl, _⟩ := hprow.form
  skip
  have z0 : w5.cell? ⟨ro, 0, none⟩ = some (.slice none 0 0) := by rw [hRo.cell]; rfl
  have z1 : w5.cell? ⟨ro, 1, none⟩ = some (.bool false) := by rw [hRo.cell]; rfl
  have z2 : w5.cell? ⟨ro, 2, none⟩ = some (.bool false) := by rw [hRo.cell]; rfl
  have z3 : w5.cell? ⟨ro, 3, none⟩ = some (.bool false) := by rw [hRo.cell]; rfl
  have z4 : w5.cell? ⟨ro, 4, none⟩ = some (.bool false) := by rw [hRo.cell]; rfl
  have f0 := hRo.frozen 0
  have f1 := hRo.frozen 1
  have f2 := hRo.frozen 2
  have f3 := hRo.frozen 3
  have f4 := hRo.frozen 4
  obtain ⟨O1, hO1⟩ : ∃ b, b = (Pure.Neg.acts { n with m := m' } l none).2.up := ⟨_, rfl⟩
  obtain ⟨O2, hO2⟩ : ∃ b, b = (Pure.Neg.acts { n with m := m' } l none).2.down := ⟨_, rfl⟩
  obtain ⟨O3, hO3⟩ : ∃ b, b = (Pure.Neg.acts { n with m := m' } l none).2.start := ⟨_, rfl⟩
  obtain ⟨O4, hO4⟩ : ∃ b, b = (Pure.Neg.acts { n with m := m' } l none).2.done := ⟨_, rfl⟩
  rw [← hO1, ← hO2, ← hO3, ← hO4] at hfar ⊢
  have HZ := xhd (((((hRo.set 0 (.slice A6 ps.length c6)).set 1 (.bool O1)).set 2 (.bool O2)).set 3 (.bool O3)).set 4 (.bool O4))
  have KR := (((((Keeps.refl (only ro) w5).put 0 (.slice A6 ps.length c6)).put 1 (.bool O1)).put 2 (.bool O2)).put 3 (.bool O3)).put 4 (.bool O4)
  have HFAR := xhd (hfar _ KR)
  have HCL := xhd (hcl _ KR)
  clear hRo hfar hcl hprow hpk hfw KR hO1 hO2 hO3 hO4 hbec HPF
  go_wp2_with fail
  refine bodyPost_ret (results_row1 rfl _ _ ro 59 _ (0, 0) _ rfl HZ.out Tryz.underlying59 rfl (by rw [HI.out]; rfl)) rfl ?_
  exact ⟨_, rfl, HFAR.out, HCL.out⟩
theorem nstate_any (g : Nat) (R : Nat → Prop) (f : NF) (n : Pure.Neg) (w : World) (h : NObj w g R f n) :
  Calls Tryz.prog 96 #[.pointer (some ⟨g, 0, none⟩)] w fun e w' => e = .returned (.int .i64 (n.m.state : Nat)) ∧ w = w' := by
 have HMD := xhd (nmade_any g f w h.blk)
 have HST := xhd (state_any f.gm n.m w h.mach h.well.good.tries)
 have c0 : w.cell? ⟨g, 0, none⟩ = some (.pointer (some ⟨f.gm, 0, none⟩)) := h.blk.cell 0
 clear h
 go_enter Tryz.func96, Tryz.ntmps96
 go_wp2_with fail
 refine HMD.out.mono ?_
 rintro e w1 ⟨rfl, rfl⟩
 go_wp2_with fail
 refine HST.out.mono ?_
 rintro e w1 ⟨rfl, rfl⟩
 go_wp2_with fail
 go_ret
 exact ⟨rfl, rfl⟩
theorem Opts.read {w0 w w' : World} {R : Nat → Prop} {v : Value} {qs : List (Value × Pure.Opt)} {l : List Pure.Opt} (h : ORow w' (fun b => w0.heap.size ≤ b) v qs) (he : optsOf qs = l) (hf : Pure.Fine l) (hs : w.heap.size ≤ w0.heap.size) : Opts w' (Later w w' R) v l :=
 ⟨qs, h.strong.mono (fun _ hb => ⟨.inr (Nat.le_trans hs hb.1), hb.2⟩), he, fine_few (by rw [he]; exact hf)⟩
namespace Pure
end Pure
open Go.RowKit Go.Extern.Stop Go.Stop Go.Extern
open Go.ChangeShapes Go.WideShapes Go.RowKit Go.Deep Go.Shelf
abbrev laid9 : List (String × DataW Unit) := Rows.lcpKnownRow.laid
abbrev plain9 : List (String × DataW Unit) := laid9.filter fun x => x.2.handleName?.isNone
theorem first_same : Rows.laid_unicode_utf8_first = Lib.firstData := Pinned.utf8First_eq
theorem accept_same : (Rows.laid_unicode_utf8_acceptRanges : DataW Unit) = Lib.acceptData := by kernel_rfl
theorem door9_handle {W : World} (h : laidMetH Tryz.prog laid9 W) : Handle W := by
 have h' : laidMet Tryz.prog plain9 W ∧ handlesMet Tryz.prog (laid9.filter fun x => x.2.handleName?.isSome) W := h
 exact door_handle (show laidMet Tryz.prog [] W ∧ handlesMet Tryz.prog doorLaid W from ⟨laidMet_nil _ _, h'.2⟩)
theorem door9_tabs {W : World} (h : laidMetH Tryz.prog laid9 W) : Tabs W := by
 have h' : laidMet Tryz.prog plain9 W ∧ handlesMet Tryz.prog (laid9.filter fun x => x.2.handleName?.isSome) W := h
 have h4 := Lib.laidMet.reads h'.1 (List.Mem.head _)
 have h3 := Lib.laidMet.reads h'.1 (List.Mem.tail _ (List.Mem.head _))
 rw [accept_same] at h4
 rw [first_same] at h3
 exact utf8Tabs_of_readsT (U8Types.of196 validLays) ⟨by kernel_rfl, by kernel_rfl, by kernel_rfl, by kernel_rfl, by kernel_rfl, by kernel_rfl, by kernel_rfl⟩ h3 h4
theorem door9_env {W : World} (h : laidMetH Tryz.prog laid9 W) : Env W := ⟨door9_handle h, door9_tabs h⟩
noncomputable def doorWorld9 (os : Os) : World := (doorWorld os).layVars Tryz.prog plain9
theorem doorWorld9_os (os : Os) : (doorWorld9 os).os = os := World.layVars_os _ _ _
theorem doorWorld9_shaped (os : Os) (args : Array Value) : ((doorWorld9 os).forCall (fun _ _ => 0) ⟨#[], args, []⟩).Shaped Tryz.prog :=
 World.shaped_of_ZipB (by kernel_rfl) (by kernel_rfl)
theorem doorWorld9_met (os : Os) (args : Array Value) : laidMetH Tryz.prog laid9 ((doorWorld9 os).forCall (fun _ _ => 0) ⟨#[], args, []⟩).memory := by
 refine laidMetH_of_parts ?_ (by kernel_rfl)
 have e1 : (plain9.filter fun x => (plain9.map (·.1)).contains x.1) = plain9 := List.filter_eq_self.2 fun x hx => List.contains_iff_mem.2 (List.mem_map.2 ⟨x, hx, rfl⟩)
 have e2 : (plain9.filter fun x => !(plain9.map (·.1)).contains x.1) = [] := List.filter_eq_nil_iff.2 fun x hx => by rw [List.contains_iff_mem.2 (List.mem_map.2 ⟨x, hx, rfl⟩)]; simp
 have h : laidMet Tryz.prog plain9 (doorWorld9 os) := laidMet_layVars (w0 := doorWorld os) (plain9.map (·.1)) [] (by rw [e1]; rfl) (by rw [e1]; kernel_rfl) (by rw [e1]; kernel_rfl) (by rw [e2]; exact LaidIn.none)
 exact h.of_heap (by simp [World.memory, World.forCall, Input.heap])
namespace Pure
end Pure
theorem NObj.judgedBy {w w' : World} {g : Nat} {R : Nat → Prop} {f : NF} {n : Pure.Neg} (h : NObj w g R f n) (j : Value) (k : Keeps (only g) w w') (hb : NBlk w' g { f with gm := ⟨f.gm.m, j⟩ }) : NObj w' g R { f with gm := ⟨f.gm.m, j⟩ } n := by
 obtain ⟨us, r1, r2, r3⟩ := h.rules
 have hkR : ∀ b, R b → ¬ only g b := fun b hb e => h.ng (by have e : b = g := e; exact e ▸ hb)
 exact ⟨hb, h.mach.keeps k (fun e => h.ne (by have e : f.gm.m = g := e; exact e.symm)), h.well, h.e1, h.e2, h.e3, h.e4, h.e5, h.e6, ⟨us, r1.keeps k hkR, r2, r3⟩, h.first.keeps k hkR, h.request.keeps k hkR, h.aopts.keeps k hkR, h.mine.keeps k hkR, h.given.keeps k hkR, fun b hb => Nat.lt_of_lt_of_le (h.lt b hb) k.size, h.ng, h.nm, h.ne⟩
theorem judgeBy2_any (g : Nat) (R : Nat → Prop) (f : NF) (n : Pure.Neg) (fn : FuncId) (cv : Value) (w : World) (h : NObj w g R f n) (hneq : ∀ w, (binOp .neq 129 (.func (.func fn) #[cv] #[]) .nilFunc).run Tryz.prog w = .ok (.bool true) w) :
  Calls Tryz.prog 67 #[.pointer (some ⟨g, 0, none⟩), .func (.func fn) #[cv] #[]] w fun e w' => e = .returned (.tuple #[]) ∧ NObj w' g R { f with gm := ⟨f.gm.m, .func (.func fn) #[cv] #[]⟩ } n ∧ Keeps (only g) w w' := by
 have HMD := xhd (nmade_any g f w h.blk)
 have hb : Blk w g 171 f.list.toArray := h.blk
 have c2 : w.cell? ⟨g, 2, none⟩ = some f.gm.j := h.blk.cell 2
 have f2 := h.blk.frozen 2
 have K := (Keeps.refl (only g) w).put 2 (.func (.func fn) #[cv] #[])
 have HN := xhd (h.judgedBy (.func (.func fn) #[cv] #[]) K (show NBlk _ g { f with gm := ⟨f.gm.m, .func (.func fn) #[cv] #[]⟩ } from hb.set 2 _))
 have HK := xhd K
 clear h hb K
 go_enter Tryz.func67, Tryz.ntmps67
 go_wp2_with fail
 refine HMD.out.mono ?_
 rintro e w1 ⟨rfl, rfl⟩
 go_wp2_with fail
 go_end0
 exact ⟨rfl, HN.out, HK.out⟩
namespace Pure
structure Cfg where
 server : Bool
 name : List UInt8
 secret : List UInt8
 mru : Int
 pfc : Bool
 acfc : Bool
 accm : Nat
 mrru : Int
 short : Bool
 bits : Int
 stateless : Bool
 mppc : Bool
 deflate : Bool
 must : Bool
 symbol : Bool
 timeout : Int
 tries : Int
 fragment : Int
def inInfo (lo x : Int) : Bool := decide (lo ≤ x) && decide (x ≤ 1500)
def Cfg.fine (c : Cfg) : Bool :=
 inInfo 64 c.mru && (decide (c.mrru = 0) || inInfo 64 c.mrru) && (decide (c.bits = 0) || decide (c.bits = 40) || decide (c.bits = 56) || decide (c.bits = 128)) &&
  (decide (1 ≤ c.timeout) && decide (c.timeout ≤ 1000)) && (decide (1 ≤ c.tries) && decide (c.tries ≤ 1000)) &&
  (decide (c.fragment = 0) || inInfo 16 c.fragment && decide (0 < c.mrru)) && (decide (0 < c.bits) || !(c.must || c.stateless || c.symbol))
def Cfg.check (c : Cfg) : Nat := if 64 < c.name.length then 3 else if (Pure.secret c.secret).1 ≠ 0 then (Pure.secret c.secret).1 else if c.fine then 0 else 1
def proofData : List UInt8 := [194, 35, 129]
def Cfg.ask (c : Cfg) (magic : Nat) : List Opt :=
 (if c.mru = 1500 then [] else [(1, wide c.mru.toNat 2)]) ++ (if c.accm = 4294967295 then [] else [(2, wide c.accm 4)]) ++ (if c.server then [(3, proofData)] else []) ++
  (if magic = 0 then [] else [(5, wide magic 4)]) ++ (if c.pfc then [(7, [])] else []) ++ (if c.acfc then [(8, [])] else []) ++
  (if c.mrru = 0 then [] else [(17, wide c.mrru.toNat 2)]) ++ (if c.mrru = 0 then [] else if c.short then [(18, [])] else [])
def rangeOf (t : Int) : Rule := ⟨t, 2, 2, 64, 1500, [], false⟩
def passOf (t len : Int) : Rule := ⟨t, len, 1, 0, 0, [], false⟩
def proofRule : Rule := ⟨3, 3, 3, 0, 0, proofData, true⟩
def Cfg.rules (c : Cfg) : List Rule :=
 [rangeOf 1, passOf 2 4] ++ (if c.server then [] else [proofRule]) ++ [passOf 5 4] ++ (if c.pfc then [passOf 7 0] else []) ++ (if c.acfc then [passOf 8 0] else []) ++
  (if c.mrru = 0 then [] else [rangeOf 17, passOf 18 0])
structure Vals where
 mru : Nat
 mrru : Nat
 accm : Nat
 auth : Bool
 pfc : Bool
 acfc : Bool
 short : Bool
 magic : Nat
def Vals.plain : Vals := ⟨1500, 0, 4294967295, false, false, false, false, 0⟩
def readOne (v : Vals) (o : Opt) : Vals :=
 if o.1 = 1 ∧ o.2.length = 2 then { v with mru := bnum o.2 }
 else if o.1 = 2 ∧ o.2.length = 4 then { v with accm := bnum o.2 }
 else if o.1 = 3 ∧ o.2 = proofData then { v with auth := true }
 else if o.1 = 5 ∧ o.2.length = 4 then { v with magic := bnum o.2 }
 else if o.1 = 7 ∧ o.2.length = 0 then { v with pfc := true }
 else if o.1 = 8 ∧ o.2.length = 0 then { v with acfc := true }
 else if o.1 = 17 ∧ o.2.length = 2 then { v with mrru := bnum o.2 }
 else if o.1 = 18 ∧ o.2.length = 0 then { v with short := true }
 else v
def readVals (l : List Opt) : Vals := l.foldl readOne Vals.plain
structure Lcp where
 c : Cfg
 n : Neg
structure LSaid where
 said : Said
 reject : Nat
def LSaid.of (o : Said) : LSaid := ⟨o, 0⟩
def newLcp (c : Cfg) (magic : Nat) : Lcp := ⟨c, newNeg c.rules (c.ask magic) c.tries.toNat c.timeout.toNat⟩
def Lcp.with (x : Lcp) (r : Neg × Said) : Lcp × LSaid := ({ x with n := r.1 }, .of r.2)
def Lcp.act (x : Lcp) (e : Int) : Lcp × LSaid := x.with (x.n.act e)
def Lcp.tick (x : Lcp) : Lcp × LSaid := x.with x.n.tick
def Lcp.mine (x : Lcp) : Vals := readVals x.n.mine
def Neg.judgedAs (n : Neg) (p : Pkt) (l : List Opt) (j : Nat × List Opt) : Neg × Said :=
 let s := n.event (if j.1 = 2 then 6 else 7) (some ⟨p, j.1, j.2⟩)
 if j.1 = 2 ∧ (s.1.m.state = 8 ∨ s.1.m.state = 9) then ({ s.1 with theirs := l }, s.2) else s
def nextMagic (m : Nat) : Nat := if (m + 1) % 4294967296 = 0 then 1 else (m + 1) % 4294967296
def looped (rules : List Rule) (l : List Opt) (rejects : Bool) (m : Nat) : Nat × List Opt :=
 if (judge rules l rejects).1 = 4 then judge rules l rejects else if rejects then (4, [(5, wide m 4)]) else (3, [(5, wide (nextMagic m) 4)])
def Lcp.request (x : Lcp) (p : Pkt) : Neg × Said :=
 if (split p.data).1 ≠ 0 then x.n.drop
 else if (readVals (split x.n.ours).2).magic = 0 ∨ (readVals (split p.data).2).magic ≠ (readVals (split x.n.ours).2).magic then x.n.judged p (split p.data).2
 else x.n.judgedAs p (split p.data).2 (looped x.n.rules (split p.data).2 (decide (x.n.m.tries ≤ x.n.naks)) (readVals (split x.n.ours).2).magic)
def Neg.by (n : Neg) (e : Nat) (p : Pkt) : Neg × Said := n.event e (some ⟨p, 0, []⟩)
end Pure
end Go.Proofs.YtmgicbckgpdkcaaGreatDoor
