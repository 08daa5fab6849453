/- Package nego: New, Do. -/
import Derived.OwnWalk
import Derived.Lib.IfaceEq
import Derived.PinnedBridge
import Derived.Lay
import Derived.LaidMore
import Derived.Lib.LaidU8T
import Derived.Stop.LaidErr
import Derived.Laws.EntriesVeiled
import Derived.Test.YtmgicbckgpdkcaaGreatDoorL17
namespace Go.Proofs.YtmgicbckgpdkcaaGreatDoor
set_option maxRecDepth 100000
set_option maxHeartbeats 8000000
open _root_.Go.Lib renaming hid → xhd
open Go.RowKit
namespace Pure
theorem actP_none (s : Neg × Said) : ∀ a, negActP none s a = y2u none s a
 | 0 => rfl | 1 => rfl | 2 => rfl | 3 => rfl | 4 => rfl | 5 => rfl | 6 => rfl | 7 => rfl | 8 => rfl | 9 => rfl | 10 => rfl | 11 => rfl
 | _ + 12 => rfl
theorem actsP_none (n : Neg) (l : List Nat) : n.actsP l none = n.acts l none := by
 unfold Neg.actsP Neg.acts
 have h : negActP none = y2u none := funext fun s => funext fun a => actP_none s a
 rw [h]
theorem fsm_few : ∀ s < 10, ∀ e < 16, (fsmAt s e).1.length ≤ 10 := by decide +kernel
theorem fsm_plain : ∀ s < 10, ∀ e < 6, ∀ a ∈ (fsmAt s e).1, a ≠ 7 ∧ a ≠ 8 ∧ a ≠ 11 := by decide +kernel
theorem act2_fst (m : Mach) (e : Int) : (m.act2 e).1 = if does e then (fsmAt m.state e.toNat).1 else [] := by
 unfold Mach.act2
 split <;> rfl
theorem act2_few {m : Mach} (h : m.Good) (e : Int) : (m.act2 e).1.length ≤ 100 := by
 rw [act2_fst]
 split
 ·rename_i hd
  unfold does at hd
  have := fsm_few m.state (by have := h.state; omega) e.toNat (by omega)
  omega
 ·simp
theorem act2_plain {m : Mach} (h : m.Good) {e : Int} (he : e < 6) : ∀ a ∈ (m.act2 e).1, a ≠ 7 ∧ a ≠ 8 ∧ a ≠ 11 := by
 rw [act2_fst]
 split
 ·rename_i hd
  unfold does at hd
  exact fsm_plain m.state (by have := h.state; omega) e.toNat (by omega)
 ·simp
end Pure
theorem NObj.machine {w w' : World} {g : Nat} {R : Nat → Prop} {f : NF} {n : Pure.Neg} (h : NObj w g R f n) {m' : Pure.Mach} (k : Keeps (only f.gm) w w') (hm : y0q w' f.gm m') (hg : m'.Good) (ht : m'.tries = n.m.tries) (hu : m'.timeout = n.m.timeout) :
  NObj w' g R f { n with m := m' } := by
 obtain ⟨us, r1, r2, r3⟩ := h.rules
 have hs : ∀ b, R b → ¬ only f.gm b := fun b hb e => h.nm (by have e : b = f.gm := e; exact e ▸ hb)
 have hw : ({ n with m := m' } : Pure.Neg).Well := ⟨hg, by show m'.tries ≤ 1000; rw [ht]; exact h.well.tries, by show m'.timeout ≤ 1000; rw [hu]; exact h.well.timeout, h.well.id, h.well.first, h.well.request, h.well.asked, h.well.ours⟩
 exact ⟨h.blk.keeps k (fun e => h.ne e), hm, hw, by rw [h.e1]; exact ht.symm, h.e2, h.e3, h.e4, h.e5, h.e6, ⟨us, r1.keeps k hs, r2, r3⟩, h.first.keeps k hs, h.request.keeps k hs, h.aopts.keeps k hs, h.mine.keeps k hs, h.given.keeps k hs, fun b hb => Nat.lt_of_lt_of_le (h.lt b hb) k.size, h.ng, h.nm, h.ne⟩
theorem y17.trans {w0 w1 w2 : World} {g : Nat} {R R1 : Nat → Prop} {f f1 : NF} {n : Pure.Neg} (hgm : f1.gm = f.gm) (hs : ∀ b, R1 b → R b ∨ w0.heap.size ≤ b) (k : Keeps (fun b => b = g ∨ b = f.gm) w0 w1) (h : y17 w1 w2 g R1 f1 n) : y17 w0 w2 g R f n := by
 obtain ⟨f2, R2, h1, h2, h3, h4⟩ := h
 refine ⟨f2, R2, h1, by rw [h2, hgm], fun b hb => ?_, k.trans (h4.mono (fun b e => by rw [hgm] at e; exact e))⟩
 rcases h3 b hb with h | h
 ·exact hs b h
 ·exact .inr (Nat.le_trans k.size h)
theorem Outs.since {w0 w1 w2 : World} {v : Value} {o : Pure.Said} (hk : w0.heap.size ≤ w1.heap.size) (h : Outs w1 w2 v o) : Outs w0 w2 v o := by
 obtain ⟨sv, ps, h1, h2, h3, h4⟩ := h
 exact ⟨sv, ps, h1, h2.mono (fun b hb => ⟨Nat.le_trans hk hb.1, hb.2⟩), h3, h4⟩
theorem Outs.far {w0 w w' : World} {r : Nat} {v : Value} {o : Pure.Said} (h : Outs w0 w v o) (k : Keeps (only r) w w') (hr : r < w0.heap.size) : Outs w0 w' v o := by
 obtain ⟨sv, ps, h1, h2, h3, h4⟩ := h
 refine ⟨sv, ps, h1, (h2.keeps k (fun b hb e => by have e : b = r := e; have := hb.1; omega)).mono (fun b hb => ⟨hb.1, Nat.lt_of_lt_of_le hb.2 k.size⟩), h3, h4⟩
theorem y17.close {w0 W w' w'' : World} {g ro : Nat} {R R1 : Nat → Prop} {f f1 : NF} {n : Pure.Neg} (hB : y17 W w' g R1 f1 n) (hgm : f1.gm = f.gm) (hs : ∀ b, R1 b → R b ∨ w0.heap.size ≤ b) (k0 : Keeps (fun b => b = g ∨ b = f.gm) w0 W) (k : Keeps (only ro) w' w'') (h0 : w0.heap.size ≤ ro) (hW : ro < W.heap.size)
  (hg : g ≠ ro) (hm : f.gm ≠ ro) (hR : ¬ R1 ro) : y17 w0 w'' g R f n := by
 obtain ⟨f', R', h1, h2, h3, h4⟩ := hB
 refine ⟨f', R', h1.keeps k (fun e => hg e) (fun e => hm (by have e : f'.gm = ro := e; rw [h2, hgm] at e; exact e)) (fun b hb e => ?_), by rw [h2, hgm], fun b hb => ?_, ?_⟩
 ·have e : b = ro := e
  subst e
  rcases h3 _ hb with h | h
  ·exact hR h
  ·omega
 ·rcases h3 b hb with h | h
  ·exact hs b h
  ·exact .inr (Nat.le_trans k0.size h)
 ·exact (k0.trans (h4.mono (fun b e => by rw [hgm] at e; exact e))).trans' k (fun i hi hl => by have e : i = ro := hi; omega)
theorem y3k (g _ : Nat) (R1 : Nat → Prop) (f1 : NF) (n1 : Pure.Neg) (m' : Pure.Mach) (l : List Nat) (W W0 : World) (h1 : NObj W g R1 f1 { n1 with m := m' }) (hp : ∀ a ∈ l, a ≠ 7 ∧ a ≠ 8 ∧ a ≠ 11) (hf : l.length ≤ 100) (hk1 : n1.naks ≤ 1000) (hW0 : g < W0.heap.size) (A : Option Addr) (c : Nat) (hl : Row W (fun b => W0.heap.size ≤ b) 1 (.slice A l.length c) l.length (ints l)) :
  Calls Tryz.prog 125 #[.pointer (some ⟨g, 0, none⟩), .slice A l.length c, .agg #[.int .i64 0, .int .i64 0, .slice none 0 0, .int .i64 0, .slice none 0 0]] W fun e' w' => ∃ v, e' = .returned v ∧ Outs W w' v (({ n1 with m := m' } : Pure.Neg).acts l none).2 ∧ y17 W w' g R1 f1 (({ n1 with m := m' } : Pure.Neg).acts l none).1 := by
 have hp := y9s g R1 (fun b => W0.heap.size ≤ b) y01 f1 { n1 with m := m' } _ (.slice none 0 0) (.slice none 0 0) l ⟨0, 0, []⟩ 0 [] none W h1 hl (fun b hb => by omega) (Row.nil _ _ _) (ORow.nil _ _) ⟨by simp, by simp⟩ (fun b hb => hb.elim)
  (.inl ⟨rfl, by decide, hp⟩) hf hk1
 rw [Pure.actsP_none] at hp
 exact hp
namespace Pure
def Neg.heedsBy (n : Neg) (p : Pkt) (j : Nat × List Opt) : Nat × Neg × Reply :=
 if p.code = 1 then (if j.1 = 2 then 6 else 7, n, ⟨p, j.1, j.2⟩)
 else if p.code = 2 then (8, { n with waits := false, acked := (split n.ours).2 }, ⟨p, 0, []⟩)
 else if p.code = 3 then (9, { n with waits := false, request := naked n.rules n.request (split p.data).2 }, ⟨p, 0, []⟩)
 else if p.code = 4 then (9, { n with waits := false, request := left n.rules n.request (split p.data).2 }, ⟨p, 0, []⟩)
 else if p.code = 5 then (10, n, ⟨p, 0, []⟩)
 else if p.code = 6 then (11, n, ⟨p, 0, []⟩)
 else if p.code = 7 then (if 1 ≤ (p.data.headD 0).toNat ∧ (p.data.headD 0).toNat ≤ 7 then 14 else 13, n, ⟨p, 0, []⟩)
 else (12, n, ⟨p, 0, []⟩)
def Neg.heeds (n : Neg) (p : Pkt) : Nat × Neg × Reply := n.heedsBy p (judge n.rules (split p.data).2 (decide (n.m.tries ≤ n.naks)))
end Pure
namespace Pure
end Pure
theorem y1p.far {w w' : World} {v : Value} {k p : Nat} (h : y1p w v k) (hk : Keeps (only p) w w') (hz : ∀ n : Int, n ≠ 0 → w.cell? ⟨p, 1, none⟩ ≠ some (.int .i64 n)) : y1p w' v k := by
 rcases h with h | ⟨h1, b, h2, h3⟩
 ·exact .inl h
 ·have hb : b ≠ p := fun e => hz k (by omega) (e ▸ h3)
  exact .inr ⟨h1, b, h2, (World.cell?_of_block (w := w) (a := ⟨b, 1, none⟩) (hk.block b (y0l h3) (fun e => hb e))).trans h3⟩
theorem do_up (g : Nat) (R : Nat → Prop) (f : NF) (n : Pure.Neg) (w : World) (h : NObj w g R f n) :
  Calls Tryz.prog 71 #[.pointer (some ⟨g, 0, none⟩), .int .i64 0] w fun r w' => ∃ v, r = .returned v ∧ Outs w w' v (n.act 0).2 ∧ y17 w w' g R f (n.act 0).1 := by
 have HI := xhd y4n
 have hgl := h.blk.lt
 have hml := Blk.lt h.mach
 obtain ⟨zf, hzf, hze, hzw⟩ := h.first
 have HZE := xhd hze
 have HAE := xhd (show n.act 0 = ({ n.again with m := (n.m.act2 (0 : Int)).2 } : Pure.Neg).acts (n.m.act2 (0 : Int)).1 none from rfl)
 obtain ⟨ro, hro⟩ : ∃ q, q = w.heap.size := ⟨_, rfl⟩
 rw [HAE.out]
 have HMA0 := xhd (fun (W : World) (f2 : NF) (R2 : Nat → Prop) (hW : NObj W g R2 f2 n.again) => y49 f2.gm 0 n.m W hW.mach hW.well.good hW.well.tries)
 have HGD := xhd (Pure.act2_good h.well.good (0 : Int))
 have hpl : ∀ a ∈ (n.m.act2 (0 : Int)).1, a ≠ 7 ∧ a ≠ 8 ∧ a ≠ 11 := Pure.act2_plain h.well.good (by omega)
 have HPL := xhd hpl
 have HFW := xhd (Pure.act2_few h.well.good (0 : Int))
 obtain ⟨l, hl⟩ : ∃ l, l = (n.m.act2 (0 : Int)).1 := ⟨_, rfl⟩
 obtain ⟨m', hm'⟩ : ∃ m', m' = (n.m.act2 (0 : Int)).2 := ⟨_, rfl⟩
 rw [← hl] at HPL HFW HMA0 ⊢
 rw [← hm'] at HMA0 HGD ⊢
 clear hl hm' hpl
 go_enter Tryz.func71, Tryz.ntmps71
 go_upto_region 1 with fail
 rw [← hro]
 generalize hw1 : w.alloc _ = w1
 have hk1 : Keeps y01 w w1 := by rw [← hw1]; exact (Keeps.refl _ w).alloc _
 have hs1 : w1.heap.size = ro + 1 := by rw [← hw1, hro]; simp
 have HRO1 := xhd (show Blk w1 ro 59 #[.slice none 0 0, .bool false, .bool false, .bool false, .bool false] by rw [← hw1, hro]; exact Blk.new w _ _)
 have H1 := xhd (h.keeps hk1 (fun h => h) (fun h => h) (fun _ _ h => h))
 have HK1 := xhd hk1
 have HMD := xhd (y2o g f w1 H1.out.blk)
 have HBG := xhd (y3e R g f zf w1 H1.out.blk (hzf.keeps hk1 (fun _ _ h => h)) hzw)
 have HRG := xhd (show ro ≠ g by omega)
 have HRM := xhd (show ro ≠ f.gm by omega)
 have HR0 := xhd (show w.heap.size ≤ ro by omega)
 have HS1 := xhd hs1
 have HLTR := xhd (show ¬ R ro from fun e => by have := h.lt ro e; omega)
 have HGW := xhd hgl
 clear hw1 hk1 hs1 hro hgl hml hzf hze hzw h
 go_wp2_with fail
 refine HMD.out.mono ?_
 rintro e' w' ⟨rfl, rfl⟩
 go_wp2_with fail
 refine HBG.out.mono ?_
 rintro e' w2 ⟨rfl, u2, q2, hq2, hr2, hb2, hk2⟩
 have HN2 := xhd (H1.out.begun hk2 (hq2.trans HZE.out) hr2 hb2)
 have HRO2 := xhd (HRO1.out.keeps hk2 (fun e => HRG.out e))
 have HK2 := xhd (show Keeps (fun b => b = g ∨ b = f.gm) w w2 from (HK1.out.mono (fun _ h => h.elim)).trans (hk2.mono (fun b e => .inl e)))
 have HNR := xhd (show ¬ y10 w1 w2 R ro from fun e => by rcases e.1 with e | e; exact HLTR.out e; have := HS1.out; omega)
 have HSUB := xhd (show ∀ b, y10 w1 w2 R b → R b ∨ w.heap.size ≤ b from fun b hb => hb.1.imp (fun h => h) (fun h => Nat.le_trans HK1.out.size h))
 clear hq2 hr2 hb2 hk2 HBG HMD H1 HRO1 HZE
 have c0 : w2.cell? ⟨g, 0, none⟩ = some (.pointer (some ⟨f.gm, 0, none⟩)) := HN2.out.blk.cell 0
 have HMA := xhd (HMA0.out w2 _ _ HN2.out)
 clear HMA0
 go_wp2_with fail
 refine HMA.out.mono ?_
 rintro e' w4 ⟨LA, lc, rfl, hrow4, hm4, hk4⟩
 have HN4 := xhd (HN2.out.machine (m' := m') hk4 hm4 HGD.out.1 HGD.out.2.1 HGD.out.2.2)
 have HROW := xhd (HRO2.out.keeps hk4 (fun e => HRM.out e))
 have HKW := xhd (show Keeps (fun b => b = g ∨ b = f.gm) w w4 from HK2.out.trans (hk4.mono (fun b e => .inr e)))
 have HRL := xhd (show ro < w4.heap.size from HROW.out.lt)
 have HPF := xhd (y3k g 0 _ _ n.again m' l w4 w2 HN4.out HPL.out HFW.out (Nat.zero_le _) HN2.out.blk.lt LA lc hrow4)
 clear hrow4 hm4 hk4 HMA HN2 HRO2 HK2 c0
 go_wp2_with fail
 refine HPF.out.mono ?_
 rintro e' w5 ⟨v, rfl, hout, hbec⟩
 have hRo : Blk w5 ro 59 #[.slice none 0 0, .bool false, .bool false, .bool false, .bool false] := by
  obtain ⟨_, _, _, _, _, hk⟩ := hbec
  exact HROW.out.keeps hk (fun e => by rcases e with e | e; exact HRG.out e; exact HRM.out e)
 have hfar := fun w'' (k : Keeps (only ro) w5 w'') => (hout.far k HRL.out).since HKW.out.size
 have hcl := fun w'' (k : Keeps (only ro) w5 w'') => hbec.close (f := f) rfl HSUB.out HKW.out k HR0.out HRL.out (fun e => HRG.out e.symm) (fun e => HRM.out e.symm) HNR.out
 obtain ⟨sv, ps, rfl, hprow, hpk, hfw⟩ := hout
 obtain ⟨A6, c6, rfl, _⟩ := hprow.form
 skip
 have z0 : w5.cell? ⟨ro, 0, none⟩ = some (.slice none 0 0) := by rw [hRo.cell]; rfl
 have z1 : w5.cell? ⟨ro, 1, none⟩ = some (.bool false) := by rw [hRo.cell]; rfl
 have z2 : w5.cell? ⟨ro, 2, none⟩ = some (.bool false) := by rw [hRo.cell]; rfl
 have z3 : w5.cell? ⟨ro, 3, none⟩ = some (.bool false) := by rw [hRo.cell]; rfl
 have z4 : w5.cell? ⟨ro, 4, none⟩ = some (.bool false) := by rw [hRo.cell]; rfl
 have f0 := hRo.frozen 0
 have f1 := hRo.frozen 1
 have f2 := hRo.frozen 2
 have f3 := hRo.frozen 3
 have f4 := hRo.frozen 4
 obtain ⟨O1, hO1⟩ : ∃ b, b = (Pure.Neg.acts { n.again with m := m' } l none).2.up := ⟨_, rfl⟩
 obtain ⟨O2, hO2⟩ : ∃ b, b = (Pure.Neg.acts { n.again with m := m' } l none).2.down := ⟨_, rfl⟩
 obtain ⟨O3, hO3⟩ : ∃ b, b = (Pure.Neg.acts { n.again with m := m' } l none).2.start := ⟨_, rfl⟩
 obtain ⟨O4, hO4⟩ : ∃ b, b = (Pure.Neg.acts { n.again with m := m' } l none).2.done := ⟨_, rfl⟩
 rw [← hO1, ← hO2, ← hO3, ← hO4] at hfar ⊢
 have HZ := xhd (((((hRo.set 0 (.slice A6 ps.length c6)).set 1 (.bool O1)).set 2 (.bool O2)).set 3 (.bool O3)).set 4 (.bool O4))
 have KR := (((((Keeps.refl (only ro) w5).put 0 (.slice A6 ps.length c6)).put 1 (.bool O1)).put 2 (.bool O2)).put 3 (.bool O3)).put 4 (.bool O4)
 have HFAR := xhd (hfar _ KR)
 have HCL := xhd (hcl _ KR)
 clear hRo hfar hcl hprow hpk hfw KR hO1 hO2 hO3 hO4 hbec HPF
 go_wp2_with fail
 refine bodyPost_ret (y0b rfl _ _ ro 59 _ (0, 0) _ rfl HZ.out Tryz.underlying59 rfl (by rw [HI.out]; rfl)) rfl ?_
 exact ⟨_, rfl, HFAR.out, HCL.out⟩
theorem do_other (g : Nat) (R : Nat → Prop) (f : NF) (n : Pure.Neg) (e : Int) (he : e = 1 ∨ e = 2 ∨ e = 3) (w : World) (h : NObj w g R f n) (hnk : n.naks ≤ 1000) :
  Calls Tryz.prog 71 #[.pointer (some ⟨g, 0, none⟩), .int .i64 e] w fun r w' => ∃ v, r = .returned v ∧ Outs w w' v (n.act e).2 ∧ y17 w w' g R f (n.act e).1 := by
 have HI := xhd y4n
 have hgl := h.blk.lt
 have hml := Blk.lt h.mach
 have HAE := xhd (show n.act e = ({ n with m := (n.m.act2 e).2 } : Pure.Neg).acts (n.m.act2 e).1 none by rcases he with rfl | rfl | rfl <;> rfl)
 have hpl : ∀ a ∈ (n.m.act2 e).1, a ≠ 7 ∧ a ≠ 8 ∧ a ≠ 11 := Pure.act2_plain h.well.good (by omega)
 obtain ⟨ro, hro⟩ : ∃ q, q = w.heap.size := ⟨_, rfl⟩
 rw [HAE.out]
 have HPL0 := xhd hpl
 have HMA0 := xhd (fun (W : World) (hW : NObj W g R f n) => y49 f.gm e n.m W hW.mach hW.well.good hW.well.tries)
 have HGD := xhd (Pure.act2_good h.well.good e)
 have HFW0 := xhd (Pure.act2_few h.well.good e)
 obtain ⟨l, hl⟩ : ∃ l, l = (n.m.act2 e).1 := ⟨_, rfl⟩
 obtain ⟨m', hm'⟩ : ∃ m', m' = (n.m.act2 e).2 := ⟨_, rfl⟩
 rw [← hl] at HPL0 HFW0 HMA0 ⊢
 rw [← hm'] at HMA0 HGD ⊢
 clear hl hm' hpl
 have HNK := xhd hnk
 clear hnk
 rcases he with rfl | rfl | rfl
 all_goals
  go_enter Tryz.func71, Tryz.ntmps71
  go_upto_region 1 with fail
  rw [← hro]
  generalize hw1 : w.alloc _ = w1
  have hk1 : Keeps y01 w w1 := by rw [← hw1]; exact (Keeps.refl _ w).alloc _
  have HRO1 := xhd (show Blk w1 ro 59 #[.slice none 0 0, .bool false, .bool false, .bool false, .bool false] by rw [← hw1, hro]; exact Blk.new w _ _)
  have H1 := xhd (h.keeps hk1 (fun h => h) (fun h => h) (fun _ _ h => h))
  have HK1 := xhd hk1
  have HMD := xhd (y2o g f w1 H1.out.blk)
  have HRG := xhd (show ro ≠ g by omega)
  have HRM := xhd (show ro ≠ f.gm by omega)
  have HR0 := xhd (show w.heap.size ≤ ro by omega)
  have HNR := xhd (show ¬ R ro from fun e => by have := h.lt ro e; omega)
  have HSUB := xhd (show ∀ b, R b → R b ∨ w.heap.size ≤ b from fun b hb => .inl hb)
  have c0 : w1.cell? ⟨g, 0, none⟩ = some (.pointer (some ⟨f.gm, 0, none⟩)) := H1.out.blk.cell 0
  have HMA := xhd (HMA0.out w1 H1.out)
  clear hw1 hk1 hro hgl hml h HMA0
  go_wp2_with fail
  refine HMD.out.mono ?_
  rintro e' w' ⟨rfl, rfl⟩
  go_wp2_with fail
  refine HMA.out.mono ?_
  rintro e' w4 ⟨LA, lc, rfl, hrow4, hm4, hk4⟩
  have HN4 := xhd (H1.out.machine (m' := m') hk4 hm4 HGD.out.1 HGD.out.2.1 HGD.out.2.2)
  have HROW := xhd (HRO1.out.keeps hk4 (fun e => HRM.out e))
  have HKW := xhd (show Keeps (fun b => b = g ∨ b = f.gm) w w4 from (HK1.out.mono (fun _ h => h.elim)).trans (hk4.mono (fun b e => .inr e)))
  have HRL := xhd (show ro < w4.heap.size from HROW.out.lt)
  have HPF := xhd (y3k g 0 _ _ n m' l w4 w1 HN4.out HPL0.out HFW0.out HNK.out H1.out.blk.lt LA lc hrow4)
  clear hrow4 hm4 hk4 HMA HRO1 c0
  go_wp2_with fail
  refine HPF.out.mono ?_
  rintro e' w5 ⟨v, rfl, hout, hbec⟩
  have hRo : Blk w5 ro 59 #[.slice none 0 0, .bool false, .bool false, .bool false, .bool false] := by
   obtain ⟨_, _, _, _, _, hk⟩ := hbec
   exact HROW.out.keeps hk (fun e => by rcases e with e | e; exact HRG.out e; exact HRM.out e)
  have hfar := fun w'' (k : Keeps (only ro) w5 w'') => (hout.far k HRL.out).since HKW.out.size
  have hcl := fun w'' (k : Keeps (only ro) w5 w'') => hbec.close (f := f) rfl HSUB.out HKW.out k HR0.out HRL.out (fun e => HRG.out e.symm) (fun e => HRM.out e.symm) HNR.out
  obtain ⟨sv, ps, rfl, hprow, hpk, hfw⟩ := hout
  obtain ⟨A6, c6, rfl, _⟩ := hprow.form
  skip
  have z0 : w5.cell? ⟨ro, 0, none⟩ = some (.slice none 0 0) := by rw [hRo.cell]; rfl
  have z1 : w5.cell? ⟨ro, 1, none⟩ = some (.bool false) := by rw [hRo.cell]; rfl
  have z2 : w5.cell? ⟨ro, 2, none⟩ = some (.bool false) := by rw [hRo.cell]; rfl
  have z3 : w5.cell? ⟨ro, 3, none⟩ = some (.bool false) := by rw [hRo.cell]; rfl
  have z4 : w5.cell? ⟨ro, 4, none⟩ = some (.bool false) := by rw [hRo.cell]; rfl
  have f0 := hRo.frozen 0
  have f1 := hRo.frozen 1
  have f2 := hRo.frozen 2
  have f3 := hRo.frozen 3
  have f4 := hRo.frozen 4
  obtain ⟨O1, hO1⟩ : ∃ b, b = (Pure.Neg.acts { n with m := m' } l none).2.up := ⟨_, rfl⟩
  obtain ⟨O2, hO2⟩ : ∃ b, b = (Pure.Neg.acts { n with m := m' } l none).2.down := ⟨_, rfl⟩
  obtain ⟨O3, hO3⟩ : ∃ b, b = (Pure.Neg.acts { n with m := m' } l none).2.start := ⟨_, rfl⟩
  obtain ⟨O4, hO4⟩ : ∃ b, b = (Pure.Neg.acts { n with m := m' } l none).2.done := ⟨_, rfl⟩
  rw [← hO1, ← hO2, ← hO3, ← hO4] at hfar ⊢
  have HZ := xhd (((((hRo.set 0 (.slice A6 ps.length c6)).set 1 (.bool O1)).set 2 (.bool O2)).set 3 (.bool O3)).set 4 (.bool O4))
  have KR := (((((Keeps.refl (only ro) w5).put 0 (.slice A6 ps.length c6)).put 1 (.bool O1)).put 2 (.bool O2)).put 3 (.bool O3)).put 4 (.bool O4)
  have HFAR := xhd (hfar _ KR)
  have HCL := xhd (hcl _ KR)
  clear hRo hfar hcl hprow hpk hfw KR hO1 hO2 hO3 hO4 hbec HPF
  go_wp2_with fail
  refine bodyPost_ret (y0b rfl _ _ ro 59 _ (0, 0) _ rfl HZ.out Tryz.underlying59 rfl (by rw [HI.out]; rfl)) rfl ?_
  exact ⟨_, rfl, HFAR.out, HCL.out⟩
theorem nstate_any (g : Nat) (R : Nat → Prop) (f : NF) (n : Pure.Neg) (w : World) (h : NObj w g R f n) :
  Calls Tryz.prog 96 #[.pointer (some ⟨g, 0, none⟩)] w fun e w' => e = .returned (.int .i64 (n.m.state : Nat)) ∧ w = w' := by
 have HMD := xhd (y2o g f w h.blk)
 have HST := xhd (state_any f.gm n.m w h.mach h.well.good.tries)
 have c0 : w.cell? ⟨g, 0, none⟩ = some (.pointer (some ⟨f.gm, 0, none⟩)) := h.blk.cell 0
 clear h
 go_enter Tryz.func96, Tryz.ntmps96
 go_wp2_with fail
 refine HMD.out.mono ?_
 rintro e w1 ⟨rfl, rfl⟩
 go_wp2_with fail
 refine HST.out.mono ?_
 rintro e w1 ⟨rfl, rfl⟩
 go_wp2_with fail
 go_ret
 exact ⟨rfl, rfl⟩
theorem Opts.read {w0 w w' : World} {R : Nat → Prop} {v : Value} {qs : List (Value × Pure.Opt)} {l : List Pure.Opt} (h : ORow w' (fun b => w0.heap.size ≤ b) v qs) (he : y02 qs = l) (hf : Pure.Fine l) (hs : w.heap.size ≤ w0.heap.size) : Opts w' (y10 w w' R) v l :=
 ⟨qs, h.strong.mono (fun _ hb => ⟨.inr (Nat.le_trans hs hb.1), hb.2⟩), he, y1u (by rw [he]; exact hf)⟩
open Go.ChangeShapes Go.WideShapes Go.RowKit Go.Deep Go.Shelf
abbrev y2f : List (String × DataW Unit) := Rows.lcpKnownRow.laid
abbrev y1o : List (String × DataW Unit) := y2f.filter fun x => x.2.handleName?.isNone
theorem first_same : Rows.laid_unicode_utf8_first = Lib.firstData := Pinned.utf8First_eq
theorem y87 : (Rows.laid_unicode_utf8_acceptRanges : DataW Unit) = Lib.acceptData := by kernel_rfl
theorem y7q {W : World} (h : laidMetH Tryz.prog y2f W) : y14 W := by
 have h' : laidMet Tryz.prog y1o W ∧ handlesMet Tryz.prog (y2f.filter fun x => x.2.handleName?.isSome) W := h
 exact y8f (show laidMet Tryz.prog [] W ∧ handlesMet Tryz.prog y4i W from ⟨laidMet_nil _ _, h'.2⟩)
theorem door9_tabs {W : World} (h : laidMetH Tryz.prog y2f W) : Tabs W := by
 have h' : laidMet Tryz.prog y1o W ∧ handlesMet Tryz.prog (y2f.filter fun x => x.2.handleName?.isSome) W := h
 have h4 := Lib.laidMet.reads h'.1 (List.Mem.head _)
 have h3 := Lib.laidMet.reads h'.1 (List.Mem.tail _ (List.Mem.head _))
 rw [y87] at h4
 rw [first_same] at h3
 exact utf8Tabs_of_readsT (U8Types.of196 y6v) ⟨by kernel_rfl, by kernel_rfl, by kernel_rfl, by kernel_rfl, by kernel_rfl, by kernel_rfl, by kernel_rfl⟩ h3 h4
theorem door9_env {W : World} (h : laidMetH Tryz.prog y2f W) : Env W := ⟨y7q h, door9_tabs h⟩
noncomputable def y20 (os : Os) : World := (y6l os).layVars Tryz.prog y1o
theorem y75 (os : Os) : (y20 os).os = os := World.layVars_os _ _ _
theorem y3y (os : Os) (args : Array Value) : ((y20 os).forCall (fun _ _ => 0) ⟨#[], args, []⟩).Shaped Tryz.prog :=
 World.shaped_of_ZipB (by kernel_rfl) (by kernel_rfl)
theorem y63 (os : Os) (args : Array Value) : laidMetH Tryz.prog y2f ((y20 os).forCall (fun _ _ => 0) ⟨#[], args, []⟩).memory := by
 refine laidMetH_of_parts ?_ (by kernel_rfl)
 have e1 : (y1o.filter fun x => (y1o.map (·.1)).contains x.1) = y1o := List.filter_eq_self.2 fun x hx => List.contains_iff_mem.2 (List.mem_map.2 ⟨x, hx, rfl⟩)
 have e2 : (y1o.filter fun x => !(y1o.map (·.1)).contains x.1) = [] := List.filter_eq_nil_iff.2 fun x hx => by rw [List.contains_iff_mem.2 (List.mem_map.2 ⟨x, hx, rfl⟩)]; simp
 have h : laidMet Tryz.prog y1o (y20 os) := laidMet_layVars (w0 := y6l os) (y1o.map (·.1)) [] (by rw [e1]; rfl) (by rw [e1]; kernel_rfl) (by rw [e1]; kernel_rfl) (by rw [e2]; exact LaidIn.none)
 exact h.of_heap (by simp [World.memory, World.forCall, Input.heap])
theorem NObj.judgedBy {w w' : World} {g : Nat} {R : Nat → Prop} {f : NF} {n : Pure.Neg} (h : NObj w g R f n) (j : Value) (k : Keeps (only g) w w') (hb : NBlk w' g { f with gm := ⟨f.gm.m, j⟩ }) : NObj w' g R { f with gm := ⟨f.gm.m, j⟩ } n := by
 obtain ⟨us, r1, r2, r3⟩ := h.rules
 have hkR : ∀ b, R b → ¬ only g b := fun b hb e => h.ng (by have e : b = g := e; exact e ▸ hb)
 exact ⟨hb, h.mach.keeps k (fun e => h.ne (by have e : f.gm.m = g := e; exact e.symm)), h.well, h.e1, h.e2, h.e3, h.e4, h.e5, h.e6, ⟨us, r1.keeps k hkR, r2, r3⟩, h.first.keeps k hkR, h.request.keeps k hkR, h.aopts.keeps k hkR, h.mine.keeps k hkR, h.given.keeps k hkR, fun b hb => Nat.lt_of_lt_of_le (h.lt b hb) k.size, h.ng, h.nm, h.ne⟩
theorem y7t (g : Nat) (R : Nat → Prop) (f : NF) (n : Pure.Neg) (fn : FuncId) (cv : Value) (w : World) (h : NObj w g R f n) (hneq : ∀ w, (binOp .neq 129 (.func (.func fn) #[cv] #[]) .nilFunc).run Tryz.prog w = .ok (.bool true) w) :
  Calls Tryz.prog 67 #[.pointer (some ⟨g, 0, none⟩), .func (.func fn) #[cv] #[]] w fun e w' => e = .returned (.tuple #[]) ∧ NObj w' g R { f with gm := ⟨f.gm.m, .func (.func fn) #[cv] #[]⟩ } n ∧ Keeps (only g) w w' := by
 have HMD := xhd (y2o g f w h.blk)
 have hb : Blk w g 171 f.list.toArray := h.blk
 have c2 : w.cell? ⟨g, 2, none⟩ = some f.gm.j := h.blk.cell 2
 have f2 := h.blk.frozen 2
 have K := (Keeps.refl (only g) w).put 2 (.func (.func fn) #[cv] #[])
 have HN := xhd (h.judgedBy (.func (.func fn) #[cv] #[]) K (show NBlk _ g { f with gm := ⟨f.gm.m, .func (.func fn) #[cv] #[]⟩ } from hb.set 2 _))
 have HK := xhd K
 clear h hb K
 go_enter Tryz.func67, Tryz.ntmps67
 go_wp2_with fail
 refine HMD.out.mono ?_
 rintro e w1 ⟨rfl, rfl⟩
 go_wp2_with fail
 go_end0
 exact ⟨rfl, HN.out, HK.out⟩
namespace Pure
structure Cfg where
 server : Bool
 name : List UInt8
 secret : List UInt8
 mru : Int
 pfc : Bool
 acfc : Bool
 accm : Nat
 mrru : Int
 short : Bool
 bits : Int
 stateless : Bool
 mppc : Bool
 deflate : Bool
 must : Bool
 symbol : Bool
 timeout : Int
 tries : Int
 fragment : Int
def inInfo (lo x : Int) : Bool := decide (lo ≤ x) && decide (x ≤ 1500)
def Cfg.fine (c : Cfg) : Bool :=
 inInfo 64 c.mru && (decide (c.mrru = 0) || inInfo 64 c.mrru) && (decide (c.bits = 0) || decide (c.bits = 40) || decide (c.bits = 56) || decide (c.bits = 128)) &&
  (decide (1 ≤ c.timeout) && decide (c.timeout ≤ 1000)) && (decide (1 ≤ c.tries) && decide (c.tries ≤ 1000)) &&
  (decide (c.fragment = 0) || inInfo 16 c.fragment && decide (0 < c.mrru)) && (decide (0 < c.bits) || !(c.must || c.stateless || c.symbol))
def Cfg.check (c : Cfg) : Nat := if 64 < c.name.length then 3 else if (Pure.secret c.secret).1 ≠ 0 then (Pure.secret c.secret).1 else if c.fine then 0 else 1
def proofData : List UInt8 := [194, 35, 129]
def Cfg.ask (c : Cfg) (magic : Nat) : List Opt :=
 (if c.mru = 1500 then [] else [(1, wide c.mru.toNat 2)]) ++ (if c.accm = 4294967295 then [] else [(2, wide c.accm 4)]) ++ (if c.server then [(3, proofData)] else []) ++
  (if magic = 0 then [] else [(5, wide magic 4)]) ++ (if c.pfc then [(7, [])] else []) ++ (if c.acfc then [(8, [])] else []) ++
  (if c.mrru = 0 then [] else [(17, wide c.mrru.toNat 2)]) ++ (if c.mrru = 0 then [] else if c.short then [(18, [])] else [])
def rangeOf (t : Int) : Rule := ⟨t, 2, 2, 64, 1500, [], false⟩
def passOf (t len : Int) : Rule := ⟨t, len, 1, 0, 0, [], false⟩
def proofRule : Rule := ⟨3, 3, 3, 0, 0, proofData, true⟩
def Cfg.rules (c : Cfg) : List Rule :=
 [rangeOf 1, passOf 2 4] ++ (if c.server then [] else [proofRule]) ++ [passOf 5 4] ++ (if c.pfc then [passOf 7 0] else []) ++ (if c.acfc then [passOf 8 0] else []) ++
  (if c.mrru = 0 then [] else [rangeOf 17, passOf 18 0])
structure Vals where
 mru : Nat
 mrru : Nat
 accm : Nat
 auth : Bool
 pfc : Bool
 acfc : Bool
 short : Bool
 magic : Nat
def Vals.plain : Vals := ⟨1500, 0, 4294967295, false, false, false, false, 0⟩
def readOne (v : Vals) (o : Opt) : Vals :=
 if o.1 = 1 ∧ o.2.length = 2 then { v with mru := bnum o.2 }
 else if o.1 = 2 ∧ o.2.length = 4 then { v with accm := bnum o.2 }
 else if o.1 = 3 ∧ o.2 = proofData then { v with auth := true }
 else if o.1 = 5 ∧ o.2.length = 4 then { v with magic := bnum o.2 }
 else if o.1 = 7 ∧ o.2.length = 0 then { v with pfc := true }
 else if o.1 = 8 ∧ o.2.length = 0 then { v with acfc := true }
 else if o.1 = 17 ∧ o.2.length = 2 then { v with mrru := bnum o.2 }
 else if o.1 = 18 ∧ o.2.length = 0 then { v with short := true }
 else v
def readVals (l : List Opt) : Vals := l.foldl readOne Vals.plain
structure Lcp where
 c : Cfg
 n : Neg
structure LSaid where
 said : Said
 reject : Nat
def LSaid.of (o : Said) : LSaid := ⟨o, 0⟩
def newLcp (c : Cfg) (magic : Nat) : Lcp := ⟨c, newNeg c.rules (c.ask magic) c.tries.toNat c.timeout.toNat⟩
def Lcp.with (x : Lcp) (r : Neg × Said) : Lcp × LSaid := ({ x with n := r.1 }, .of r.2)
def Lcp.act (x : Lcp) (e : Int) : Lcp × LSaid := x.with (x.n.act e)
def Lcp.tick (x : Lcp) : Lcp × LSaid := x.with x.n.tick
def Lcp.mine (x : Lcp) : Vals := readVals x.n.mine
def Neg.judgedAs (n : Neg) (p : Pkt) (l : List Opt) (j : Nat × List Opt) : Neg × Said :=
 let s := n.event (if j.1 = 2 then 6 else 7) (some ⟨p, j.1, j.2⟩)
 if j.1 = 2 ∧ (s.1.m.state = 8 ∨ s.1.m.state = 9) then ({ s.1 with theirs := l }, s.2) else s
def nextMagic (m : Nat) : Nat := if (m + 1) % 4294967296 = 0 then 1 else (m + 1) % 4294967296
def looped (rules : List Rule) (l : List Opt) (rejects : Bool) (m : Nat) : Nat × List Opt :=
 if (judge rules l rejects).1 = 4 then judge rules l rejects else if rejects then (4, [(5, wide m 4)]) else (3, [(5, wide (nextMagic m) 4)])
def Lcp.request (x : Lcp) (p : Pkt) : Neg × Said :=
 if (split p.data).1 ≠ 0 then x.n.drop
 else if (readVals (split x.n.ours).2).magic = 0 ∨ (readVals (split p.data).2).magic ≠ (readVals (split x.n.ours).2).magic then x.n.judged p (split p.data).2
 else x.n.judgedAs p (split p.data).2 (looped x.n.rules (split p.data).2 (decide (x.n.m.tries ≤ x.n.naks)) (readVals (split x.n.ours).2).magic)
def Neg.by (n : Neg) (e : Nat) (p : Pkt) : Neg × Said := n.event e (some ⟨p, 0, []⟩)
end Pure
namespace Pure
def psize (k : Int) : Nat := if k = 1 then 2 else if k = 17 then 2 else if k = 3 then 3 else if k = 2 then 4 else if k = 5 then 4 else 0
theorem psize_le (k : Int) : psize k ≤ 4 := by
 unfold psize
 split
 ·omega
 split
 ·omega
 split
 ·omega
 split
 ·omega
 split <;> omega
end Pure
theorem y3f (k : Int) (w : World) : Calls Tryz.prog 58 #[.int .i64 k] w fun e w' => e = .returned (.int .i64 (Pure.psize k : Int)) ∧ w = w' := by
 by_cases h1 : k = 1
 ·subst h1
  go_enter Tryz.func58, Tryz.ntmps58
  go_wp2_with fail
  go_ret
  exact ⟨rfl, rfl⟩
 by_cases h2 : k = 17
 ·subst h2
  go_enter Tryz.func58, Tryz.ntmps58
  go_wp2_with fail
  go_ret
  exact ⟨rfl, rfl⟩
 by_cases h3 : k = 3
 ·subst h3
  go_enter Tryz.func58, Tryz.ntmps58
  go_wp2_with fail
  go_ret
  exact ⟨rfl, rfl⟩
 by_cases h4 : k = 2
 ·subst h4
  go_enter Tryz.func58, Tryz.ntmps58
  go_wp2_with fail
  go_ret
  exact ⟨rfl, rfl⟩
 by_cases h5 : k = 5
 ·subst h5
  go_enter Tryz.func58, Tryz.ntmps58
  go_wp2_with fail
  go_ret
  exact ⟨rfl, rfl⟩
 have b1 : (k == 1) = false := by rw [beq_eq_false_iff_ne]; exact h1
 have b2 : (k == 17) = false := by rw [beq_eq_false_iff_ne]; exact h2
 have b3 : (k == 3) = false := by rw [beq_eq_false_iff_ne]; exact h3
 have b4 : (k == 2) = false := by rw [beq_eq_false_iff_ne]; exact h4
 have b5 : (k == 5) = false := by rw [beq_eq_false_iff_ne]; exact h5
 have HE := xhd (show Pure.psize k = 0 by unfold Pure.psize; rw [if_neg h1, if_neg h2, if_neg h3, if_neg h4, if_neg h5])
 clear h1 h2 h3 h4 h5
 go_enter Tryz.func58, Tryz.ntmps58
 go_wp2_with fail
 go_ret
 exact ⟨by rw [HE.out]; rfl, rfl⟩
theorem y21 (n lo hi : Int) (w : World) : Calls Tryz.prog 109 #[.int .i64 n, .int .i64 lo, .int .i64 hi] w fun e w' => e = .returned (.bool (decide (lo ≤ n) && decide (n ≤ hi))) ∧ w = w' := by
 obtain ⟨b1, h1⟩ : ∃ b, decide (lo ≤ n) = b := ⟨_, rfl⟩
 obtain ⟨b2, h2⟩ : ∃ b, decide (n ≤ hi) = b := ⟨_, rfl⟩
 rw [h1, h2]
 cases b1 <;> cases b2
 all_goals
  go_enter Tryz.func109, Tryz.ntmps109
  go_wp2_with fail
  go_ret
  exact ⟨rfl, rfl⟩
theorem y65 (n : Int) (w : World) : Calls Tryz.prog 110 #[.int .i64 n] w fun e w' => e = .returned (.bool (decide (n = 40) || decide (n = 56) || decide (n = 128))) ∧ w = w' := by
 by_cases h1 : n = 40
 ·subst h1
  go_enter Tryz.func110, Tryz.ntmps110
  go_wp2_with fail
  go_ret
  exact ⟨rfl, rfl⟩
 by_cases h2 : n = 56
 ·subst h2
  go_enter Tryz.func110, Tryz.ntmps110
  go_wp2_with fail
  go_ret
  exact ⟨rfl, rfl⟩
 by_cases h3 : n = 128
 ·subst h3
  go_enter Tryz.func110, Tryz.ntmps110
  go_wp2_with fail
  go_ret
  exact ⟨rfl, rfl⟩
 have b1 : (n == 40) = false := by rw [beq_eq_false_iff_ne]; exact h1
 have b2 : (n == 56) = false := by rw [beq_eq_false_iff_ne]; exact h2
 have b3 : (n == 128) = false := by rw [beq_eq_false_iff_ne]; exact h3
 have HE := xhd (show (decide (n = 40) || decide (n = 56) || decide (n = 128)) = false by simp [h1, h2, h3])
 clear h1 h2 h3
 go_enter Tryz.func110, Tryz.ntmps110
 go_wp2_with fail
 go_ret
 exact ⟨by rw [HE.out]; rfl, rfl⟩
theorem y46 (k : Int) (x : Nat) (hx : x < 4294967296) (w : World) :
  Calls Tryz.prog 52 #[.int .i64 k, .int .i64 (x : Int)] w fun e w' => ∃ A c, e = .returned (.agg #[.int .i64 k, .slice A (Pure.psize k) c]) ∧ Row w' (fun b => w.heap.size ≤ b) 1 (.slice A (Pure.psize k) c) (Pure.psize k) (u8s (Pure.wide x (Pure.psize k))) ∧ Keeps y01 w w' := by
 obtain ⟨n, hn⟩ : ∃ n, n = Pure.psize k := ⟨_, rfl⟩
 have HSZ := xhd (fun W => hn ▸ y3f k W)
 have HEN := xhd (fun W => y8g x n W (by rw [hn]; exact Pure.psize_le k) hx)
 rw [← hn]
 have HI := xhd y3h
 clear hn hx
 obtain ⟨g, hg⟩ : ∃ g, g = w.heap.size := ⟨_, rfl⟩
 go_enter Tryz.func52, Tryz.ntmps52
 go_upto_region 1 with fail
 generalize hw1 : w.alloc _ = w1
 rw [← hg]
 have HK := xhd (show Keeps y01 w w1 by rw [← hw1]; exact (Keeps.refl y01 w).alloc _)
 have HB := xhd (show Blk w1 g 31 #[.int .i64 0, .slice none 0 0] by rw [← hw1, hg]; exact Blk.new w _ _)
 have HG := xhd hg
 have hs := HSZ.out w1
 clear hw1 hg
 go_wp2_with fail
 refine hs.mono ?_
 rintro e w2 ⟨rfl, rfl⟩
 have he := HEN.out w1
 clear hs
 go_wp2_with fail
 refine he.mono ?_
 rintro e w2 ⟨A, c, rfl, hr, hk2⟩
 have hB := HB.out.keeps hk2 (fun h => h)
 have o0 : w2.cell? ⟨g, 0, none⟩ = some (.int .i64 0) := by rw [hB.cell]; rfl
 have o1 : w2.cell? ⟨g, 1, none⟩ = some (.slice none 0 0) := by rw [hB.cell]; rfl
 have f0 := hB.frozen 0
 have f1 := hB.frozen 1
 have HZ := xhd ((hB.set 0 (.int .i64 k)).set 1 (.slice A n c))
 have KS := ((Keeps.refl (only g) w2).put 0 (.int .i64 k)).put 1 (.slice A n c)
 have HR := xhd (hr.keeps KS (fun b hb e => by have e : b = g := e; have := HB.out.lt; omega))
 have HRB := xhd (show ∀ b, w1.heap.size ≤ b → w.heap.size ≤ b from fun b hb => Nat.le_trans HK.out.size hb)
 have HKS := xhd (show Keeps y01 w _ from (HK.out.trans hk2).trans' KS (fun i hi hl => by have e : i = g := hi; have := HG.out; omega))
 clear hB KS hr hk2 he
 go_wp2_with fail
 refine bodyPost_ret (y0b rfl _ _ g 31 _ (0, 0) _ rfl HZ.out Tryz.underlying31 rfl (by rw [HI.out]; rfl)) rfl ?_
 exact ⟨A, c, rfl, HR.out.mono HRB.out, HKS.out⟩
namespace Pure
def statedP (v : Vals) (k : Int) (n : Nat) : Vals :=
 if k = 1 then { v with mru := n }
 else if k = 2 then { v with accm := n }
 else if k = 3 then { v with auth := v.auth || decide (n = 12723073) }
 else if k = 5 then { v with magic := n }
 else if k = 7 then { v with pfc := true }
 else if k = 8 then { v with acfc := true }
 else if k = 17 then { v with mrru := n }
 else if k = 18 then { v with short := true }
 else v
theorem y4r {l : List UInt8} (h : l.length = 3) : bnum l = 12723073 ↔ l = proofData := by
 obtain ⟨a, l, rfl⟩ := List.exists_cons_of_length_eq_add_one h
 obtain ⟨b, l, rfl⟩ := List.exists_cons_of_length_eq_add_one (show l.length = 1 + 1 by simpa using h)
 obtain ⟨c, l, rfl⟩ := List.exists_cons_of_length_eq_add_one (show l.length = 0 + 1 by simpa using h)
 obtain rfl : l = [] := List.eq_nil_of_length_eq_zero (by simpa using h)
 have ha := a.toNat_lt
 have hb := b.toNat_lt
 have hc := c.toNat_lt
 have e : bnum [a, b, c] = (a.toNat * 256 + b.toNat) * 256 + c.toNat := by simp [bnum]
 rw [e]
 constructor
 ·intro h
  have h1 : a.toNat = 194 := by omega
  have h2 : b.toNat = 35 := by omega
  have h3 : c.toNat = 129 := by omega
  have h1 : a = 194 := UInt8.toNat_inj.1 h1
  have h2 : b = 35 := UInt8.toNat_inj.1 h2
  have h3 : c = 129 := UInt8.toNat_inj.1 h3
  rw [h1, h2, h3]; rfl
 ·intro h
  have h : [a, b, c] = [194, 35, 129] := h
  simp only [List.cons.injEq, and_true] at h
  obtain ⟨h1, h2, h3⟩ := h
  have e1 : a.toNat = 194 := by rw [h1]; rfl
  have e2 : b.toNat = 35 := by rw [h2]; rfl
  have e3 : c.toNat = 129 := by rw [h3]; rfl
  omega
theorem readOne_stated (v : Vals) (o : Opt) : readOne v o = if o.2.length = psize o.1 then statedP v o.1 (bnum o.2) else v := by
 obtain ⟨k, l⟩ := o
 dsimp only
 unfold readOne
 dsimp only
 by_cases h1 : k = 1
 ·subst h1
  by_cases hl : l.length = 2
  ·rw [if_pos ⟨rfl, hl⟩, if_pos (show l.length = psize 1 from hl)]; simp [statedP]
  ·rw [if_neg (fun e => hl e.2), if_neg (show ¬ l.length = psize 1 from hl)]; simp
 rw [if_neg (fun e => h1 e.1)]
 by_cases h2 : k = 2
 ·subst h2
  by_cases hl : l.length = 4
  ·rw [if_pos ⟨rfl, hl⟩, if_pos (show l.length = psize 2 from hl)]; simp [statedP]
  ·rw [if_neg (fun e => hl e.2), if_neg (show ¬ l.length = psize 2 from hl)]; simp
 rw [if_neg (fun e => h2 e.1)]
 by_cases h3 : k = 3
 ·subst h3
  by_cases hl : l.length = 3
  ·have e3 : statedP v 3 (bnum l) = { v with auth := v.auth || decide (bnum l = 12723073) } := by simp [statedP]
   rw [if_pos (show l.length = psize 3 from hl), e3]
   by_cases hp : l = proofData
   ·rw [if_pos ⟨rfl, hp⟩, decide_eq_true ((y4r hl).2 hp)]; simp
   ·rw [if_neg (fun e => hp e.2), decide_eq_false (fun e => hp ((y4r hl).1 e))]; simp
  ·rw [if_neg (fun e => hl (by rw [e.2]; rfl)), if_neg (show ¬ l.length = psize 3 from hl)]; simp
 rw [if_neg (fun e => h3 e.1)]
 by_cases h5 : k = 5
 ·subst h5
  by_cases hl : l.length = 4
  ·rw [if_pos ⟨rfl, hl⟩, if_pos (show l.length = psize 5 from hl)]; simp [statedP]
  ·rw [if_neg (fun e => hl e.2), if_neg (show ¬ l.length = psize 5 from hl)]; simp
 rw [if_neg (fun e => h5 e.1)]
 by_cases h7 : k = 7
 ·subst h7
  by_cases hl : l.length = 0
  ·rw [if_pos ⟨rfl, hl⟩, if_pos (show l.length = psize 7 from hl)]; simp [statedP]
  ·rw [if_neg (fun e => hl e.2), if_neg (show ¬ l.length = psize 7 from hl)]; simp
 rw [if_neg (fun e => h7 e.1)]
 by_cases h8 : k = 8
 ·subst h8
  by_cases hl : l.length = 0
  ·rw [if_pos ⟨rfl, hl⟩, if_pos (show l.length = psize 8 from hl)]; simp [statedP]
  ·rw [if_neg (fun e => hl e.2), if_neg (show ¬ l.length = psize 8 from hl)]; simp
 rw [if_neg (fun e => h8 e.1)]
 by_cases h17 : k = 17
 ·subst h17
  by_cases hl : l.length = 2
  ·rw [if_pos ⟨rfl, hl⟩, if_pos (show l.length = psize 17 from hl)]; simp [statedP]
  ·rw [if_neg (fun e => hl e.2), if_neg (show ¬ l.length = psize 17 from hl)]; simp
 rw [if_neg (fun e => h17 e.1)]
 by_cases h18 : k = 18
 ·subst h18
  by_cases hl : l.length = 0
  ·rw [if_pos ⟨rfl, hl⟩, if_pos (show l.length = psize 18 from hl)]; simp [statedP]
  ·rw [if_neg (fun e => hl e.2), if_neg (show ¬ l.length = psize 18 from hl)]
 rw [if_neg (fun e => h18 e.1)]
 unfold statedP
 rw [if_neg h1, if_neg h2, if_neg h3, if_neg h5, if_neg h7, if_neg h8, if_neg h17, if_neg h18]
 split <;> rfl
theorem readVals_snoc (l : List Opt) (o : Opt) : readVals (l ++ [o]) = readOne (readVals l) o := by unfold readVals; rw [List.foldl_append]; rfl
end Pure
abbrev y08 (v : Pure.Vals) : List Value := [.int .i64 (v.mru : Int), .int .i64 (v.mrru : Int), .int .u32 (v.accm : Int), .bool v.auth, .bool v.pfc, .bool v.acfc, .bool v.short, .int .u32 (v.magic : Int)]
abbrev y0v (v : Pure.Vals) : Value := .agg (y08 v).toArray
theorem y16 : (Tryz.prog.info? 39).map (·.size) = some 8 := by kernel_rfl
theorem stated_1 (v : Pure.Vals) (n : Nat) (_ : n < 4294967296) (w : World) :
  Calls Tryz.prog 59 #[y0v v, .int .i64 1, .int .i64 (n : Int)] w fun e w' => e = .returned (y0v { v with mru := n }) ∧ Keeps y01 w w' := by
 have HI := xhd y16
 obtain ⟨vb, hvb⟩ : ∃ q, q = w.heap.size := ⟨_, rfl⟩
 obtain ⟨w1, hw1⟩ : ∃ q, q = (w.alloc (.cells (y08 v).toArray 39)).alloc (.cells #[.int .i64 0, .int .i64 0, .int .u32 0, .bool false, .bool false, .bool false, .bool false, .int .u32 0] 39) := ⟨_, rfl⟩
 have hk1 : Keeps y01 w w1 := by rw [hw1]; exact ((Keeps.refl _ w).alloc _).alloc _
 have hV : Blk w1 vb 39 (y08 v).toArray := by rw [hw1, hvb]; exact (Blk.new w _ _).alloc _
 have hO : Blk w1 (vb + 1) 39 #[.int .i64 0, .int .i64 0, .int .u32 0, .bool false, .bool false, .bool false, .bool false, .int .u32 0] := by
  rw [hw1, show vb + 1 = (w.alloc (.cells (y08 v).toArray 39)).heap.size by rw [hvb]; simp]
  exact Blk.new _ _ _
 have z0 : w1.cell? ⟨vb, 0, none⟩ = some (.int .i64 (v.mru : Int)) := by rw [hV.cell]; rfl
 have f0 := hV.frozen 0
 obtain ⟨wq, hwq⟩ : ∃ q, q = w1.setCell ⟨vb, 0, none⟩ (.int .i64 (n : Int)) := ⟨_, rfl⟩
 have KQ : Keeps (only vb) w1 wq := by rw [hwq]; exact (Keeps.refl (only vb) w1).put 0 _
 have HVQ := xhd (show Blk wq vb 39 (y08 { v with mru := n }).toArray by rw [hwq]; exact hV.set 0 _)
 have HOQ := xhd (hO.keeps KQ (fun e => by have e : vb + 1 = vb := e; omega))
 have HKQ := xhd (hk1.trans' KQ (fun i hi hl => by have e : i = vb := hi; omega))
 have HVB := xhd hvb
 clear hk1 hV hO KQ
 go_enter Tryz.func59, Tryz.ntmps59
 go_upto_region 1 with fail
 rw [← hvb]
 rw [← hw1]
 clear hw1 hvb
 go_upto_region 18 with fail
 rw [← hwq]
 clear hwq
 have y0 : wq.cell? ⟨vb, 0, none⟩ = some (.int .i64 (n : Int)) := by rw [HVQ.out.cell]; rfl
 have y1 : wq.cell? ⟨vb, 1, none⟩ = some (.int .i64 (v.mrru : Int)) := by rw [HVQ.out.cell]; rfl
 have y2 : wq.cell? ⟨vb, 2, none⟩ = some (.int .u32 (v.accm : Int)) := by rw [HVQ.out.cell]; rfl
 have y3 : wq.cell? ⟨vb, 3, none⟩ = some (.bool v.auth) := by rw [HVQ.out.cell]; rfl
 have y4 : wq.cell? ⟨vb, 4, none⟩ = some (.bool v.pfc) := by rw [HVQ.out.cell]; rfl
 have y5 : wq.cell? ⟨vb, 5, none⟩ = some (.bool v.acfc) := by rw [HVQ.out.cell]; rfl
 have y6 : wq.cell? ⟨vb, 6, none⟩ = some (.bool v.short) := by rw [HVQ.out.cell]; rfl
 have y7 : wq.cell? ⟨vb, 7, none⟩ = some (.int .u32 (v.magic : Int)) := by rw [HVQ.out.cell]; rfl
 have o0 : wq.cell? ⟨vb + 1, 0, none⟩ = some (.int .i64 0) := by rw [HOQ.out.cell]; rfl
 have p0 := HOQ.out.frozen 0
 have o1 : wq.cell? ⟨vb + 1, 1, none⟩ = some (.int .i64 0) := by rw [HOQ.out.cell]; rfl
 have p1 := HOQ.out.frozen 1
 have o2 : wq.cell? ⟨vb + 1, 2, none⟩ = some (.int .u32 0) := by rw [HOQ.out.cell]; rfl
 have p2 := HOQ.out.frozen 2
 have o3 : wq.cell? ⟨vb + 1, 3, none⟩ = some (.bool false) := by rw [HOQ.out.cell]; rfl
 have p3 := HOQ.out.frozen 3
 have o4 : wq.cell? ⟨vb + 1, 4, none⟩ = some (.bool false) := by rw [HOQ.out.cell]; rfl
 have p4 := HOQ.out.frozen 4
 have o5 : wq.cell? ⟨vb + 1, 5, none⟩ = some (.bool false) := by rw [HOQ.out.cell]; rfl
 have p5 := HOQ.out.frozen 5
 have o6 : wq.cell? ⟨vb + 1, 6, none⟩ = some (.bool false) := by rw [HOQ.out.cell]; rfl
 have p6 := HOQ.out.frozen 6
 have o7 : wq.cell? ⟨vb + 1, 7, none⟩ = some (.int .u32 0) := by rw [HOQ.out.cell]; rfl
 have p7 := HOQ.out.frozen 7
 have HZ := xhd ((((((((HOQ.out.set 0 (.int .i64 (n : Int))).set 1 (.int .i64 (v.mrru : Int))).set 2 (.int .u32 (v.accm : Int))).set 3 (.bool v.auth)).set 4 (.bool v.pfc)).set 5 (.bool v.acfc)).set 6 (.bool v.short)).set 7 (.int .u32 (v.magic : Int)))
 have HKF := xhd (HKQ.out.trans' (((((((((Keeps.refl (only (vb + 1)) wq).put 0 (.int .i64 (n : Int))).put 1 (.int .i64 (v.mrru : Int))).put 2 (.int .u32 (v.accm : Int))).put 3 (.bool v.auth)).put 4 (.bool v.pfc)).put 5 (.bool v.acfc)).put 6 (.bool v.short)).put 7 (.int .u32 (v.magic : Int))) (fun i hi hl => by have e : i = vb + 1 := hi; have := HVB.out; omega))
 go_wp2_with fail
 refine bodyPost_ret (y0b rfl _ _ (vb + 1) 39 _ (0, 0) _ rfl HZ.out Tryz.underlying39 rfl (by rw [HI.out]; rfl)) rfl ?_
 exact ⟨rfl, HKF.out⟩
theorem stated_2 (v : Pure.Vals) (n : Nat) (hn : n < 4294967296) (w : World) :
  Calls Tryz.prog 59 #[y0v v, .int .i64 2, .int .i64 (n : Int)] w fun e w' => e = .returned (y0v { v with accm := n }) ∧ Keeps y01 w w' := by
 have HI := xhd y16
 obtain ⟨vb, hvb⟩ : ∃ q, q = w.heap.size := ⟨_, rfl⟩
 obtain ⟨w1, hw1⟩ : ∃ q, q = (w.alloc (.cells (y08 v).toArray 39)).alloc (.cells #[.int .i64 0, .int .i64 0, .int .u32 0, .bool false, .bool false, .bool false, .bool false, .int .u32 0] 39) := ⟨_, rfl⟩
 have hk1 : Keeps y01 w w1 := by rw [hw1]; exact ((Keeps.refl _ w).alloc _).alloc _
 have hV : Blk w1 vb 39 (y08 v).toArray := by rw [hw1, hvb]; exact (Blk.new w _ _).alloc _
 have hO : Blk w1 (vb + 1) 39 #[.int .i64 0, .int .i64 0, .int .u32 0, .bool false, .bool false, .bool false, .bool false, .int .u32 0] := by
  rw [hw1, show vb + 1 = (w.alloc (.cells (y08 v).toArray 39)).heap.size by rw [hvb]; simp]
  exact Blk.new _ _ _
 have z2 : w1.cell? ⟨vb, 2, none⟩ = some (.int .u32 (v.accm : Int)) := by rw [hV.cell]; rfl
 have f2 := hV.frozen 2
 have e1 : IntKind.u32.wrap (n : Int) = (n : Int) := by show (n : Int) % 4294967296 = _; omega
 obtain ⟨wq, hwq⟩ : ∃ q, q = w1.setCell ⟨vb, 2, none⟩ (.int .u32 (n : Int)) := ⟨_, rfl⟩
 have KQ : Keeps (only vb) w1 wq := by rw [hwq]; exact (Keeps.refl (only vb) w1).put 2 _
 have HVQ := xhd (show Blk wq vb 39 (y08 { v with accm := n }).toArray by rw [hwq]; exact hV.set 2 _)
 have HOQ := xhd (hO.keeps KQ (fun e => by have e : vb + 1 = vb := e; omega))
 have HKQ := xhd (hk1.trans' KQ (fun i hi hl => by have e : i = vb := hi; omega))
 have HVB := xhd hvb
 clear hk1 hV hO KQ hn
 go_enter Tryz.func59, Tryz.ntmps59
 go_upto_region 1 with fail
 rw [← hvb]
 rw [← hw1]
 clear hw1 hvb
 go_upto_region 18 with fail
 rw [← hwq]
 clear hwq
 have y0 : wq.cell? ⟨vb, 0, none⟩ = some (.int .i64 (v.mru : Int)) := by rw [HVQ.out.cell]; rfl
 have y1 : wq.cell? ⟨vb, 1, none⟩ = some (.int .i64 (v.mrru : Int)) := by rw [HVQ.out.cell]; rfl
 have y2 : wq.cell? ⟨vb, 2, none⟩ = some (.int .u32 (n : Int)) := by rw [HVQ.out.cell]; rfl
 have y3 : wq.cell? ⟨vb, 3, none⟩ = some (.bool v.auth) := by rw [HVQ.out.cell]; rfl
 have y4 : wq.cell? ⟨vb, 4, none⟩ = some (.bool v.pfc) := by rw [HVQ.out.cell]; rfl
 have y5 : wq.cell? ⟨vb, 5, none⟩ = some (.bool v.acfc) := by rw [HVQ.out.cell]; rfl
 have y6 : wq.cell? ⟨vb, 6, none⟩ = some (.bool v.short) := by rw [HVQ.out.cell]; rfl
 have y7 : wq.cell? ⟨vb, 7, none⟩ = some (.int .u32 (v.magic : Int)) := by rw [HVQ.out.cell]; rfl
 have o0 : wq.cell? ⟨vb + 1, 0, none⟩ = some (.int .i64 0) := by rw [HOQ.out.cell]; rfl
 have p0 := HOQ.out.frozen 0
 have o1 : wq.cell? ⟨vb + 1, 1, none⟩ = some (.int .i64 0) := by rw [HOQ.out.cell]; rfl
 have p1 := HOQ.out.frozen 1
 have o2 : wq.cell? ⟨vb + 1, 2, none⟩ = some (.int .u32 0) := by rw [HOQ.out.cell]; rfl
 have p2 := HOQ.out.frozen 2
 have o3 : wq.cell? ⟨vb + 1, 3, none⟩ = some (.bool false) := by rw [HOQ.out.cell]; rfl
 have p3 := HOQ.out.frozen 3
 have o4 : wq.cell? ⟨vb + 1, 4, none⟩ = some (.bool false) := by rw [HOQ.out.cell]; rfl
 have p4 := HOQ.out.frozen 4
 have o5 : wq.cell? ⟨vb + 1, 5, none⟩ = some (.bool false) := by rw [HOQ.out.cell]; rfl
 have p5 := HOQ.out.frozen 5
 have o6 : wq.cell? ⟨vb + 1, 6, none⟩ = some (.bool false) := by rw [HOQ.out.cell]; rfl
 have p6 := HOQ.out.frozen 6
 have o7 : wq.cell? ⟨vb + 1, 7, none⟩ = some (.int .u32 0) := by rw [HOQ.out.cell]; rfl
 have p7 := HOQ.out.frozen 7
 have HZ := xhd ((((((((HOQ.out.set 0 (.int .i64 (v.mru : Int))).set 1 (.int .i64 (v.mrru : Int))).set 2 (.int .u32 (n : Int))).set 3 (.bool v.auth)).set 4 (.bool v.pfc)).set 5 (.bool v.acfc)).set 6 (.bool v.short)).set 7 (.int .u32 (v.magic : Int)))
 have HKF := xhd (HKQ.out.trans' (((((((((Keeps.refl (only (vb + 1)) wq).put 0 (.int .i64 (v.mru : Int))).put 1 (.int .i64 (v.mrru : Int))).put 2 (.int .u32 (n : Int))).put 3 (.bool v.auth)).put 4 (.bool v.pfc)).put 5 (.bool v.acfc)).put 6 (.bool v.short)).put 7 (.int .u32 (v.magic : Int))) (fun i hi hl => by have e : i = vb + 1 := hi; have := HVB.out; omega))
 go_wp2_with fail
 refine bodyPost_ret (y0b rfl _ _ (vb + 1) 39 _ (0, 0) _ rfl HZ.out Tryz.underlying39 rfl (by rw [HI.out]; rfl)) rfl ?_
 exact ⟨rfl, HKF.out⟩
end Go.Proofs.YtmgicbckgpdkcaaGreatDoor
