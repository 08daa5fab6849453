/- Chapter 13's statements' Rules: the document's rules as the program's. -/
import Derived.Laws.EntriesVeiled
import Derived.Test.YtgphfindolaljaaC10
namespace Go.Proofs.Ytgphfindolaljaa
set_option maxRecDepth 100000
set_option maxHeartbeats 8000000
open _root_.Go.Lib renaming hid → xhd
open Go.RowKit
theorem y1b (F : Nat → Prop) (x : Value) (us : List (Value × Pure.Rule)) (w : World) (hx : RRow w F x us) (hF : ∀ b, F b → b < w.heap.size) (hul : us.length ≤ 100000) :
  Calls Try.prog 9 #[x] w fun e w' => ∃ u, ∃ qs : List (Value × Pure.Rule), e = .returned u ∧ y06 qs = y06 us ∧ RRead w w' F u qs := by
 obtain ⟨X, cx, rfl, _⟩ := hx.form
 have HX := xhd hx
 have HF := xhd hF
 clear hx hF
 go_enter Try.func9, Try.ntmps9
 go_wp2_with fail
 go_loopw [3, 4] (fun v i wr => ∃ k : Nat, k ≤ us.length ∧ i = .int .i64 (k : Int) ∧ ∃ qs : List (Value × Pure.Rule), y06 qs = (y06 us).take k ∧ qs.length = k ∧ RRead w wr F v qs) (fun _ i _ => us.length - (intOf i).toNat)
 case atStart => exact ⟨0, by omega, rfl, [], rfl, rfl, ⟨World.ownsRow_nil _ _ _ _, by simp, Keeps.refl _ _⟩⟩
 case round =>
  obtain ⟨k, hk, rfl, qs, hqs, rfl, hrd⟩ := hrel
  obtain ⟨A2, c2, rfl⟩ := y0b hrd.own
  have HQS := xhd hqs
  have HRD := xhd hrd
  clear hqs hrd
  by_cases hkl : qs.length < us.length
  ·have i0' : (0 : Int) ≤ (qs.length : Int) := by omega
   have i1 : (qs.length : Int) < (us.length : Int) := by omega
   have d1 : decide ((qs.length : Int) < (us.length : Int)) = true := decide_eq_true (by omega)
   have d2 : decide (qs.length < us.length) = true := decide_eq_true hkl
   obtain ⟨bx, ox, pA, pc, pr, rfl, hFb, hcell, hwant, hpa⟩ := (HX.out.keeps HRD.out.kept (fun _ _ h => h)).pick qs.length hkl
   have HTK := xhd (show (y06 us).take (qs.length + 1) = (y06 us).take qs.length ++ [pr] from Pure.take_snoc _ qs.length _ (by rw [List.getElem?_map, hpa]; rfl))
   have HRW := xhd hwant
   have x0 : wr.cell? ⟨bx, ox + qs.length * 7, none⟩ = some (.int .i64 pr.type) := hcell 0 _ rfl
   have x1 := hcell 1 _ rfl
   have x2 := hcell 2 _ rfl
   have x3 := hcell 3 _ rfl
   have x4 := hcell 4 _ rfl
   have x5 := hcell 5 _ rfl
   have x6 := hcell 6 _ rfl
   clear hcell hwant hpa
   go_upto_region 6 with fail
   obtain ⟨w3, hw3⟩ : ∃ w3, w3 = wr.alloc (.cells (y04 (.slice pA pr.want.length pc, pr)).toArray 53) := ⟨_, rfl⟩
   obtain ⟨gr, hgr⟩ : ∃ gr, gr = wr.heap.size := ⟨_, rfl⟩
   rw [show wr.alloc (.cells #[.int .i64 pr.type, .int .i64 pr.len, .int .i64 pr.how, .int .i64 pr.lo, .int .i64 pr.hi, .slice pA pr.want.length pc, .bool pr.need] 53) = w3 from hw3.symm, ← hgr]
   have hk3 : Keeps y02 wr w3 := by rw [hw3]; exact (Keeps.refl _ wr).alloc _
   have HB5 := xhd (show Blk w3 gr 53 (y04 (.slice pA pr.want.length pc, pr)).toArray by rw [hw3, hgr]; exact Blk.new wr _ _)
   have HR5 := xhd (HRD.out.keeps hk3)
   have HD5 := xhd ((HRW.out.keeps hk3 (fun _ _ h => h)).mono (G := fun b => F b ∧ (Value.slice A2 qs.length c2).ownBlock ≠ some b ∧ b < w3.heap.size) (fun b hb => by
    have h1 := HF.out b hb
    have h2 := HRD.out.kept.size
    have h3 := hk3.size
    exact ⟨hb, fun e => by have := y0c HRD.out.own b e; omega, by omega⟩))
   have b0 : w3.cell? ⟨gr, 0, none⟩ = some (.int .i64 pr.type) := by rw [HB5.out.cell]; rfl
   have b1 : w3.cell? ⟨gr, 1, none⟩ = some (.int .i64 pr.len) := by rw [HB5.out.cell]; rfl
   have b2 : w3.cell? ⟨gr, 2, none⟩ = some (.int .i64 pr.how) := by rw [HB5.out.cell]; rfl
   have b3 : w3.cell? ⟨gr, 3, none⟩ = some (.int .i64 pr.lo) := by rw [HB5.out.cell]; rfl
   have b4 : w3.cell? ⟨gr, 4, none⟩ = some (.int .i64 pr.hi) := by rw [HB5.out.cell]; rfl
   have b5 : w3.cell? ⟨gr, 5, none⟩ = some (.slice pA pr.want.length pc) := by rw [HB5.out.cell]; rfl
   have b6 : w3.cell? ⟨gr, 6, none⟩ = some (.bool pr.need) := by rw [HB5.out.cell]; rfl
   clear hw3 hgr hk3 x0 x1 x2 x3 x4 x5 x6
   go_wp2_with (at_builtin; refine y0j ?_)
   unfold Hid
   refine y2g rfl (.tmp 16) (.tmp 32) rfl w.heap.size (.slice A2 qs.length c2) qs (.slice pA pr.want.length pc) pr rfl rfl rfl HR5.out.own (by omega) HR5.out.kept.size ?_
   intro A6 c6 w6 hown6 hk6 hob6
   have HR6 := xhd (HR5.out.more HD5.out hown6 hk6 hob6)
   have lw : wrap64 ((qs.length : Int) + 1) = ((qs.length + 1 : Nat) : Int) := by rw [IntWalk.wrap64_in _ (by omega)]; omega
   clear hown6 hk6 hob6 b0 b1 b2 b3 b4 b5 b6
   go_wp2_with fail
   go_roundw
   case rel => exact ⟨qs.length + 1, by omega, by go_num, qs ++ [(.slice pA pr.want.length pc, pr)], by rw [HTK.out, ← HQS.out]; simp [y06], by simp, HR6.out⟩
   case measure => simp [intOf] <;> omega
  ·have hkk : qs.length = us.length := by omega
   have d1 : decide ((qs.length : Int) < (us.length : Int)) = false := decide_eq_false (by omega)
   have d2 : decide (qs.length < us.length) = false := decide_eq_false (by omega)
   have HE := xhd (show y06 qs = y06 us by rw [HQS.out]; exact List.take_of_length_le (by simp; omega))
   go_wp2
   go_ret
   exact ⟨_, qs, rfl, HE.out, HRD.out⟩
namespace Pure
theorem actP_none (s : Neg × Said) : ∀ a, negActP none s a = negAct none s a
 | 0 => rfl | 1 => rfl | 2 => rfl | 3 => rfl | 4 => rfl | 5 => rfl | 6 => rfl | 7 => rfl | 8 => rfl | 9 => rfl | 10 => rfl | 11 => rfl
 | _ + 12 => rfl
theorem actsP_none (n : Neg) (l : List Nat) : n.actsP l none = n.acts l none := by
 unfold Neg.actsP Neg.acts
 have h : negActP none = negAct none := funext fun s => funext fun a => actP_none s a
 rw [h]
theorem fsm_few : ∀ s < 10, ∀ e < 16, (fsmAt s e).1.length ≤ 10 := by decide +kernel
theorem fsm_plain : ∀ s < 10, ∀ e < 6, ∀ a ∈ (fsmAt s e).1, a ≠ 7 ∧ a ≠ 8 ∧ a ≠ 11 := by decide +kernel
theorem act2_fst (m : Mach) (e : Int) : (m.act2 e).1 = if does e then (fsmAt m.state e.toNat).1 else [] := by
 unfold Mach.act2
 split <;> rfl
theorem act2_few {m : Mach} (h : m.Good) (e : Int) : (m.act2 e).1.length ≤ 100 := by
 rw [act2_fst]
 split
 ·rename_i hd
  unfold does at hd
  have := fsm_few m.state (by have := h.state; omega) e.toNat (by omega)
  omega
 ·simp
theorem act2_plain {m : Mach} (h : m.Good) {e : Int} (he : e < 6) : ∀ a ∈ (m.act2 e).1, a ≠ 7 ∧ a ≠ 8 ∧ a ≠ 11 := by
 rw [act2_fst]
 split
 ·rename_i hd
  unfold does at hd
  exact fsm_plain m.state (by have := h.state; omega) e.toNat (by omega)
 ·simp
end Pure
theorem NObj.machine {w w' : World} {g : Nat} {R : Nat → Prop} {f : NF} {n : Pure.Neg} (h : NObj w g R f n) {m' : Pure.Mach} (k : Keeps (only f.gm) w w') (hm : y0o w' f.gm m') (hg : m'.Good) (ht : m'.tries = n.m.tries) (hu : m'.timeout = n.m.timeout) :
  NObj w' g R f { n with m := m' } := by
 obtain ⟨us, r1, r2, r3⟩ := h.rules
 have hs : ∀ b, R b → ¬ only f.gm b := fun b hb e => h.nm (by have e : b = f.gm := e; exact e ▸ hb)
 have hw : ({ n with m := m' } : Pure.Neg).Well := ⟨hg, by show m'.tries ≤ 1000; rw [ht]; exact h.well.tries, by show m'.timeout ≤ 1000; rw [hu]; exact h.well.timeout, h.well.id, h.well.first, h.well.request, h.well.asked, h.well.ours⟩
 exact ⟨h.blk.keeps k (fun e => h.ne e), hm, hw, by rw [h.e1]; exact ht.symm, h.e2, h.e3, h.e4, h.e5, h.e6, ⟨us, r1.keeps k hs, r2, r3⟩, h.first.keeps k hs, h.request.keeps k hs, h.aopts.keeps k hs, h.mine.keeps k hs, h.given.keeps k hs, fun b hb => Nat.lt_of_lt_of_le (h.lt b hb) k.size, h.ng, h.nm, h.ne⟩
theorem y10.trans {w0 w1 w2 : World} {g : Nat} {R R1 : Nat → Prop} {f f1 : NF} {n : Pure.Neg} (hgm : f1.gm = f.gm) (hs : ∀ b, R1 b → R b ∨ w0.heap.size ≤ b) (k : Keeps (fun b => b = g ∨ b = f.gm) w0 w1) (h : y10 w1 w2 g R1 f1 n) : y10 w0 w2 g R f n := by
 obtain ⟨f2, R2, h1, h2, h3, h4⟩ := h
 refine ⟨f2, R2, h1, by rw [h2, hgm], fun b hb => ?_, k.trans (h4.mono (fun b e => by rw [hgm] at e; exact e))⟩
 rcases h3 b hb with h | h
 ·exact hs b h
 ·exact .inr (Nat.le_trans k.size h)
theorem Outs.since {w0 w1 w2 : World} {v : Value} {o : Pure.Said} (hk : w0.heap.size ≤ w1.heap.size) (h : Outs w1 w2 v o) : Outs w0 w2 v o := by
 obtain ⟨sv, ps, h1, h2, h3, h4⟩ := h
 exact ⟨sv, ps, h1, h2.mono (fun b hb => ⟨Nat.le_trans hk hb.1, hb.2⟩), h3, h4⟩
theorem Outs.far {w0 w w' : World} {r : Nat} {v : Value} {o : Pure.Said} (h : Outs w0 w v o) (k : Keeps (only r) w w') (hr : r < w0.heap.size) : Outs w0 w' v o := by
 obtain ⟨sv, ps, h1, h2, h3, h4⟩ := h
 refine ⟨sv, ps, h1, (h2.keeps k (fun b hb e => by have e : b = r := e; have := hb.1; omega)).mono (fun b hb => ⟨hb.1, Nat.lt_of_lt_of_le hb.2 k.size⟩), h3, h4⟩
theorem y10.close {w0 W w' w'' : World} {g ro : Nat} {R R1 : Nat → Prop} {f f1 : NF} {n : Pure.Neg} (hB : y10 W w' g R1 f1 n) (hgm : f1.gm = f.gm) (hs : ∀ b, R1 b → R b ∨ w0.heap.size ≤ b) (k0 : Keeps (fun b => b = g ∨ b = f.gm) w0 W) (k : Keeps (only ro) w' w'') (h0 : w0.heap.size ≤ ro) (hW : ro < W.heap.size)
  (hg : g ≠ ro) (hm : f.gm ≠ ro) (hR : ¬ R1 ro) : y10 w0 w'' g R f n := by
 obtain ⟨f', R', h1, h2, h3, h4⟩ := hB
 refine ⟨f', R', h1.keeps k (fun e => hg e) (fun e => hm (by have e : f'.gm = ro := e; rw [h2, hgm] at e; exact e)) (fun b hb e => ?_), by rw [h2, hgm], fun b hb => ?_, ?_⟩
 ·have e : b = ro := e
  subst e
  rcases h3 _ hb with h | h
  ·exact hR h
  ·omega
 ·rcases h3 b hb with h | h
  ·exact hs b h
  ·exact .inr (Nat.le_trans k0.size h)
 ·exact (k0.trans (h4.mono (fun b e => by rw [hgm] at e; exact e))).trans' k (fun i hi hl => by have e : i = ro := hi; omega)
theorem y2y (g _ : Nat) (R1 : Nat → Prop) (f1 : NF) (n1 : Pure.Neg) (m' : Pure.Mach) (l : List Nat) (W W0 : World) (h1 : NObj W g R1 f1 { n1 with m := m' }) (hp : ∀ a ∈ l, a ≠ 7 ∧ a ≠ 8 ∧ a ≠ 11) (hf : l.length ≤ 100) (hk1 : n1.naks ≤ 1000) (hW0 : g < W0.heap.size) (A : Option Addr) (c : Nat) (hl : Row W (fun b => W0.heap.size ≤ b) 1 (.slice A l.length c) l.length (ints l)) :
  Calls Try.prog 45 #[.pointer (some ⟨g, 0, none⟩), .slice A l.length c, .agg #[.int .i64 0, .int .i64 0, .slice none 0 0, .int .i64 0, .slice none 0 0]] W fun e' w' => ∃ v, e' = .returned v ∧ Outs W w' v (({ n1 with m := m' } : Pure.Neg).acts l none).2 ∧ y10 W w' g R1 f1 (({ n1 with m := m' } : Pure.Neg).acts l none).1 := by
 have hp := y8a g R1 (fun b => W0.heap.size ≤ b) y02 f1 { n1 with m := m' } _ (.slice none 0 0) (.slice none 0 0) l ⟨0, 0, []⟩ 0 [] none W h1 hl (fun b hb => by omega) (Row.nil _ _ _) (ORow.nil _ _) ⟨by simp, by simp⟩ (fun b hb => hb.elim)
  (.inl ⟨rfl, by decide, hp⟩) hf hk1
 rw [Pure.actsP_none] at hp
 exact hp
theorem do_up (g : Nat) (R : Nat → Prop) (f : NF) (n : Pure.Neg) (w : World) (h : NObj w g R f n) :
  Calls Try.prog 19 #[.pointer (some ⟨g, 0, none⟩), .int .i64 0] w fun r w' => ∃ v, r = .returned v ∧ Outs w w' v (n.act 0).2 ∧ y10 w w' g R f (n.act 0).1 := by
 have HI := xhd y3u
 have hgl := h.blk.lt
 have hml := Blk.lt h.mach
 obtain ⟨zf, hzf, hze, hzw⟩ := h.first
 have HZE := xhd hze
 have HAE := xhd (show n.act 0 = ({ n.again with m := (n.m.act2 (0 : Int)).2 } : Pure.Neg).acts (n.m.act2 (0 : Int)).1 none from rfl)
 obtain ⟨ro, hro⟩ : ∃ q, q = w.heap.size := ⟨_, rfl⟩
 rw [HAE.out]
 have HMA0 := xhd (fun (W : World) (f2 : NF) (R2 : Nat → Prop) (hW : NObj W g R2 f2 n.again) => y3i f2.gm 0 n.m W hW.mach hW.well.good hW.well.tries)
 have HGD := xhd (Pure.act2_good h.well.good (0 : Int))
 have hpl : ∀ a ∈ (n.m.act2 (0 : Int)).1, a ≠ 7 ∧ a ≠ 8 ∧ a ≠ 11 := Pure.act2_plain h.well.good (by omega)
 have HPL := xhd hpl
 have HFW := xhd (Pure.act2_few h.well.good (0 : Int))
 obtain ⟨l, hl⟩ : ∃ l, l = (n.m.act2 (0 : Int)).1 := ⟨_, rfl⟩
 obtain ⟨m', hm'⟩ : ∃ m', m' = (n.m.act2 (0 : Int)).2 := ⟨_, rfl⟩
 rw [← hl] at HPL HFW HMA0 ⊢
 rw [← hm'] at HMA0 HGD ⊢
 clear hl hm' hpl
 go_enter Try.func19, Try.ntmps19
 go_upto_region 1 with fail
 rw [← hro]
 generalize hw1 : w.alloc _ = w1
 have hk1 : Keeps y02 w w1 := by rw [← hw1]; exact (Keeps.refl _ w).alloc _
 have hs1 : w1.heap.size = ro + 1 := by rw [← hw1, hro]; simp
 have HRO1 := xhd (show Blk w1 ro 48 #[.slice none 0 0, .bool false, .bool false, .bool false, .bool false] by rw [← hw1, hro]; exact Blk.new w _ _)
 have H1 := xhd (h.keeps hk1 (fun h => h) (fun h => h) (fun _ _ h => h))
 have HK1 := xhd hk1
 have HMD := xhd (y5r g f w1 H1.out.blk)
 have HBG := xhd (y2q R g f zf w1 H1.out.blk (hzf.keeps hk1 (fun _ _ h => h)) hzw)
 have HRG := xhd (show ro ≠ g by omega)
 have HRM := xhd (show ro ≠ f.gm by omega)
 have HR0 := xhd (show w.heap.size ≤ ro by omega)
 have HS1 := xhd hs1
 have HLTR := xhd (show ¬ R ro from fun e => by have := h.lt ro e; omega)
 have HGW := xhd hgl
 clear hw1 hk1 hs1 hro hgl hml hzf hze hzw h
 go_wp2_with fail
 refine HMD.out.mono ?_
 rintro e' w' ⟨rfl, rfl⟩
 go_wp2_with fail
 refine HBG.out.mono ?_
 rintro e' w2 ⟨rfl, u2, q2, hq2, hr2, hb2, hk2⟩
 have HN2 := xhd (H1.out.begun hk2 (hq2.trans HZE.out) hr2 hb2)
 have HRO2 := xhd (HRO1.out.keeps hk2 (fun e => HRG.out e))
 have HK2 := xhd (show Keeps (fun b => b = g ∨ b = f.gm) w w2 from (HK1.out.mono (fun _ h => h.elim)).trans (hk2.mono (fun b e => .inl e)))
 have HNR := xhd (show ¬ y0s w1 w2 R ro from fun e => by rcases e.1 with e | e; exact HLTR.out e; have := HS1.out; omega)
 have HSUB := xhd (show ∀ b, y0s w1 w2 R b → R b ∨ w.heap.size ≤ b from fun b hb => hb.1.imp (fun h => h) (fun h => Nat.le_trans HK1.out.size h))
 clear hq2 hr2 hb2 hk2 HBG HMD H1 HRO1 HZE
 have c0 : w2.cell? ⟨g, 0, none⟩ = some (.pointer (some ⟨f.gm, 0, none⟩)) := HN2.out.blk.cell 0
 have HMA := xhd (HMA0.out w2 _ _ HN2.out)
 clear HMA0
 go_wp2_with fail
 refine HMA.out.mono ?_
 rintro e' w4 ⟨LA, lc, rfl, hrow4, hm4, hk4⟩
 have HN4 := xhd (HN2.out.machine (m' := m') hk4 hm4 HGD.out.1 HGD.out.2.1 HGD.out.2.2)
 have HROW := xhd (HRO2.out.keeps hk4 (fun e => HRM.out e))
 have HKW := xhd (show Keeps (fun b => b = g ∨ b = f.gm) w w4 from HK2.out.trans (hk4.mono (fun b e => .inr e)))
 have HRL := xhd (show ro < w4.heap.size from HROW.out.lt)
 have HPF := xhd (y2y g 0 _ _ n.again m' l w4 w2 HN4.out HPL.out HFW.out (Nat.zero_le _) HN2.out.blk.lt LA lc hrow4)
 clear hrow4 hm4 hk4 HMA HN2 HRO2 HK2 c0
 go_wp2_with fail
 refine HPF.out.mono ?_
 rintro e' w5 ⟨v, rfl, hout, hbec⟩
 have hRo : Blk w5 ro 48 #[.slice none 0 0, .bool false, .bool false, .bool false, .bool false] := by
  obtain ⟨_, _, _, _, _, hk⟩ := hbec
  exact HROW.out.keeps hk (fun e => by rcases e with e | e; exact HRG.out e; exact HRM.out e)
 have hfar := fun w'' (k : Keeps (only ro) w5 w'') => (hout.far k HRL.out).since HKW.out.size
 have hcl := fun w'' (k : Keeps (only ro) w5 w'') => hbec.close (f := f) rfl HSUB.out HKW.out k HR0.out HRL.out (fun e => HRG.out e.symm) (fun e => HRM.out e.symm) HNR.out
 obtain ⟨sv, ps, rfl, hprow, hpk, hfw⟩ := hout
 obtain ⟨A6, c6, rfl, _⟩ := hprow.form
 skip
 have z0 : w5.cell? ⟨ro, 0, none⟩ = some (.slice none 0 0) := by rw [hRo.cell]; rfl
 have z1 : w5.cell? ⟨ro, 1, none⟩ = some (.bool false) := by rw [hRo.cell]; rfl
 have z2 : w5.cell? ⟨ro, 2, none⟩ = some (.bool false) := by rw [hRo.cell]; rfl
 have z3 : w5.cell? ⟨ro, 3, none⟩ = some (.bool false) := by rw [hRo.cell]; rfl
 have z4 : w5.cell? ⟨ro, 4, none⟩ = some (.bool false) := by rw [hRo.cell]; rfl
 have f0 := hRo.frozen 0
 have f1 := hRo.frozen 1
 have f2 := hRo.frozen 2
 have f3 := hRo.frozen 3
 have f4 := hRo.frozen 4
 obtain ⟨O1, hO1⟩ : ∃ b, b = (Pure.Neg.acts { n.again with m := m' } l none).2.up := ⟨_, rfl⟩
 obtain ⟨O2, hO2⟩ : ∃ b, b = (Pure.Neg.acts { n.again with m := m' } l none).2.down := ⟨_, rfl⟩
 obtain ⟨O3, hO3⟩ : ∃ b, b = (Pure.Neg.acts { n.again with m := m' } l none).2.start := ⟨_, rfl⟩
 obtain ⟨O4, hO4⟩ : ∃ b, b = (Pure.Neg.acts { n.again with m := m' } l none).2.done := ⟨_, rfl⟩
 rw [← hO1, ← hO2, ← hO3, ← hO4] at hfar ⊢
 have HZ := xhd (((((hRo.set 0 (.slice A6 ps.length c6)).set 1 (.bool O1)).set 2 (.bool O2)).set 3 (.bool O3)).set 4 (.bool O4))
 have KR := (((((Keeps.refl (only ro) w5).put 0 (.slice A6 ps.length c6)).put 1 (.bool O1)).put 2 (.bool O2)).put 3 (.bool O3)).put 4 (.bool O4)
 have HFAR := xhd (hfar _ KR)
 have HCL := xhd (hcl _ KR)
 clear hRo hfar hcl hprow hpk hfw KR hO1 hO2 hO3 hO4 hbec HPF
 go_wp2_with fail
 refine bodyPost_ret (y0l rfl _ _ ro 48 _ (0, 0) _ rfl HZ.out Try.underlying48 rfl (by rw [HI.out]; rfl)) rfl ?_
 exact ⟨_, rfl, HFAR.out, HCL.out⟩
theorem do_other (g : Nat) (R : Nat → Prop) (f : NF) (n : Pure.Neg) (e : Int) (he : e = 1 ∨ e = 2 ∨ e = 3) (w : World) (h : NObj w g R f n) (hnk : n.naks ≤ 1000) :
  Calls Try.prog 19 #[.pointer (some ⟨g, 0, none⟩), .int .i64 e] w fun r w' => ∃ v, r = .returned v ∧ Outs w w' v (n.act e).2 ∧ y10 w w' g R f (n.act e).1 := by
 have HI := xhd y3u
 have hgl := h.blk.lt
 have hml := Blk.lt h.mach
 have HAE := xhd (show n.act e = ({ n with m := (n.m.act2 e).2 } : Pure.Neg).acts (n.m.act2 e).1 none by rcases he with rfl | rfl | rfl <;> rfl)
 have hpl : ∀ a ∈ (n.m.act2 e).1, a ≠ 7 ∧ a ≠ 8 ∧ a ≠ 11 := Pure.act2_plain h.well.good (by omega)
 obtain ⟨ro, hro⟩ : ∃ q, q = w.heap.size := ⟨_, rfl⟩
 rw [HAE.out]
 have HPL0 := xhd hpl
 have HMA0 := xhd (fun (W : World) (hW : NObj W g R f n) => y3i f.gm e n.m W hW.mach hW.well.good hW.well.tries)
 have HGD := xhd (Pure.act2_good h.well.good e)
 have HFW0 := xhd (Pure.act2_few h.well.good e)
 obtain ⟨l, hl⟩ : ∃ l, l = (n.m.act2 e).1 := ⟨_, rfl⟩
 obtain ⟨m', hm'⟩ : ∃ m', m' = (n.m.act2 e).2 := ⟨_, rfl⟩
 rw [← hl] at HPL0 HFW0 HMA0 ⊢
 rw [← hm'] at HMA0 HGD ⊢
 clear hl hm' hpl
 have HNK := xhd hnk
 clear hnk
 rcases he with rfl | rfl | rfl
 all_goals
  go_enter Try.func19, Try.ntmps19
  go_upto_region 1 with fail
  rw [← hro]
  generalize hw1 : w.alloc _ = w1
  have hk1 : Keeps y02 w w1 := by rw [← hw1]; exact (Keeps.refl _ w).alloc _
  have HRO1 := xhd (show Blk w1 ro 48 #[.slice none 0 0, .bool false, .bool false, .bool false, .bool false] by rw [← hw1, hro]; exact Blk.new w _ _)
  have H1 := xhd (h.keeps hk1 (fun h => h) (fun h => h) (fun _ _ h => h))
  have HK1 := xhd hk1
  have HMD := xhd (y5r g f w1 H1.out.blk)
  have HRG := xhd (show ro ≠ g by omega)
  have HRM := xhd (show ro ≠ f.gm by omega)
  have HR0 := xhd (show w.heap.size ≤ ro by omega)
  have HNR := xhd (show ¬ R ro from fun e => by have := h.lt ro e; omega)
  have HSUB := xhd (show ∀ b, R b → R b ∨ w.heap.size ≤ b from fun b hb => .inl hb)
  have c0 : w1.cell? ⟨g, 0, none⟩ = some (.pointer (some ⟨f.gm, 0, none⟩)) := H1.out.blk.cell 0
  have HMA := xhd (HMA0.out w1 H1.out)
  clear hw1 hk1 hro hgl hml h HMA0
  go_wp2_with fail
  refine HMD.out.mono ?_
  rintro e' w' ⟨rfl, rfl⟩
  go_wp2_with fail
  refine HMA.out.mono ?_
  rintro e' w4 ⟨LA, lc, rfl, hrow4, hm4, hk4⟩
  have HN4 := xhd (H1.out.machine (m' := m') hk4 hm4 HGD.out.1 HGD.out.2.1 HGD.out.2.2)
  have HROW := xhd (HRO1.out.keeps hk4 (fun e => HRM.out e))
  have HKW := xhd (show Keeps (fun b => b = g ∨ b = f.gm) w w4 from (HK1.out.mono (fun _ h => h.elim)).trans (hk4.mono (fun b e => .inr e)))
  have HRL := xhd (show ro < w4.heap.size from HROW.out.lt)
  have HPF := xhd (y2y g 0 _ _ n m' l w4 w1 HN4.out HPL0.out HFW0.out HNK.out H1.out.blk.lt LA lc hrow4)
  clear hrow4 hm4 hk4 HMA HRO1 c0
  go_wp2_with fail
  refine HPF.out.mono ?_
  rintro e' w5 ⟨v, rfl, hout, hbec⟩
  have hRo : Blk w5 ro 48 #[.slice none 0 0, .bool false, .bool false, .bool false, .bool false] := by
   obtain ⟨_, _, _, _, _, hk⟩ := hbec
   exact HROW.out.keeps hk (fun e => by rcases e with e | e; exact HRG.out e; exact HRM.out e)
  have hfar := fun w'' (k : Keeps (only ro) w5 w'') => (hout.far k HRL.out).since HKW.out.size
  have hcl := fun w'' (k : Keeps (only ro) w5 w'') => hbec.close (f := f) rfl HSUB.out HKW.out k HR0.out HRL.out (fun e => HRG.out e.symm) (fun e => HRM.out e.symm) HNR.out
  obtain ⟨sv, ps, rfl, hprow, hpk, hfw⟩ := hout
  obtain ⟨A6, c6, rfl, _⟩ := hprow.form
  skip
  have z0 : w5.cell? ⟨ro, 0, none⟩ = some (.slice none 0 0) := by rw [hRo.cell]; rfl
  have z1 : w5.cell? ⟨ro, 1, none⟩ = some (.bool false) := by rw [hRo.cell]; rfl
  have z2 : w5.cell? ⟨ro, 2, none⟩ = some (.bool false) := by rw [hRo.cell]; rfl
  have z3 : w5.cell? ⟨ro, 3, none⟩ = some (.bool false) := by rw [hRo.cell]; rfl
  have z4 : w5.cell? ⟨ro, 4, none⟩ = some (.bool false) := by rw [hRo.cell]; rfl
  have f0 := hRo.frozen 0
  have f1 := hRo.frozen 1
  have f2 := hRo.frozen 2
  have f3 := hRo.frozen 3
  have f4 := hRo.frozen 4
  obtain ⟨O1, hO1⟩ : ∃ b, b = (Pure.Neg.acts { n with m := m' } l none).2.up := ⟨_, rfl⟩
  obtain ⟨O2, hO2⟩ : ∃ b, b = (Pure.Neg.acts { n with m := m' } l none).2.down := ⟨_, rfl⟩
  obtain ⟨O3, hO3⟩ : ∃ b, b = (Pure.Neg.acts { n with m := m' } l none).2.start := ⟨_, rfl⟩
  obtain ⟨O4, hO4⟩ : ∃ b, b = (Pure.Neg.acts { n with m := m' } l none).2.done := ⟨_, rfl⟩
  rw [← hO1, ← hO2, ← hO3, ← hO4] at hfar ⊢
  have HZ := xhd (((((hRo.set 0 (.slice A6 ps.length c6)).set 1 (.bool O1)).set 2 (.bool O2)).set 3 (.bool O3)).set 4 (.bool O4))
  have KR := (((((Keeps.refl (only ro) w5).put 0 (.slice A6 ps.length c6)).put 1 (.bool O1)).put 2 (.bool O2)).put 3 (.bool O3)).put 4 (.bool O4)
  have HFAR := xhd (hfar _ KR)
  have HCL := xhd (hcl _ KR)
  clear hRo hfar hcl hprow hpk hfw KR hO1 hO2 hO3 hO4 hbec HPF
  go_wp2_with fail
  refine bodyPost_ret (y0l rfl _ _ ro 48 _ (0, 0) _ rfl HZ.out Try.underlying48 rfl (by rw [HI.out]; rfl)) rfl ?_
  exact ⟨_, rfl, HFAR.out, HCL.out⟩
theorem newneg_any (Fu Fx : Nat → Prop) (xu x : Value) (us : List (Value × Pure.Rule)) (zs : List (Value × Pure.Opt)) (t u : Nat) (w : World) (hu : RRow w Fu xu us) (hx : ORow w Fx x zs) (hF : ∀ b, Fx b → b < w.heap.size) (hfu : FewRules us) (hfx : Pure.Fine (y01 zs)) (hm : mayBe t u) :
  Calls Try.prog 17 #[xu, x, .int .i64 (t : Int), .int .i64 (u : Int)] w fun e w' => ∃ g f R, e = .returned (.tuple #[.pointer (some ⟨g, 0, none⟩), .int .i64 0]) ∧ NObj w' g R f (Pure.newNeg (y06 us) (y01 zs) t u) ∧ w.heap.size ≤ g ∧ (w.heap.size ≤ f.gm ∧ f.gm.j = y38 g) ∧ (∀ b, R b → w.heap.size ≤ b) ∧ Keeps y02 w w' := by
 obtain ⟨X, cx, rfl, _⟩ := hx.form
 obtain ⟨U, cu, rfl, _⟩ := hu.form
 have HX := xhd hx
 have HU := xhd hu
 have HF := xhd hF
 have HFU := xhd hfu
 have HFX := xhd hfx
 have HMB := xhd hm
 have HN := xhd (new_ok t u w hm)
 have hzl := hfx.len
 have hzl2 : zs.length ≤ 32 := by simpa using hzl
 clear hu hx hF hfu hfx hm hzl
 go_enter Try.func17, Try.ntmps17
 go_wp2_with fail
 refine HN.out.mono ?_
 rintro e w1 ⟨rfl, hm1, hk1⟩
 obtain ⟨gm, hgm⟩ : ∃ q, q = w.heap.size := ⟨_, rfl⟩
 rw [← hgm] at hm1 ⊢
 have HM1 := xhd hm1
 have HK1 := xhd hk1
 have HGM := xhd hgm
 have HIR := xhd (y65 Fx (.slice X zs.length cx) zs w1 (fun b hb => Nat.lt_of_lt_of_le (HF.out b hb) hk1.size) (HX.out.keeps hk1 (fun _ _ h => h)))
 have HD := decide_eq_true (show (Pure.options (y01 zs)).1 = 0 from Pure.fine_options HFX.out)
 rw [HD] at HIR
 clear hm1 hk1 hgm HN HD
 go_wp2_with fail
 refine HIR.out.mono ?_
 rintro e w2 ⟨rfl, hk2⟩
 have HM2 := xhd (HM1.out.keeps hk2 (fun h => h))
 have HK2 := xhd (HK1.out.trans hk2)
 have HCR := xhd (y39 Fu (.slice U us.length cu) us w2 (HU.out.keeps HK2.out (fun _ _ h => h)) HFU.out)
 clear hk2 HIR HM1
 go_wp2_with fail
 refine HCR.out.mono ?_
 rintro e w3 ⟨u3, q3, rfl, hq3, hr3⟩
 obtain ⟨A3, c3, rfl⟩ := y0b hr3.own
 have HQ3 := xhd hq3
 have HR3 := xhd hr3.row
 have HM3 := xhd (HM2.out.keeps hr3.kept (fun h => h))
 have HK3 := xhd (HK2.out.trans hr3.kept)
 have HS23 := xhd hr3.kept.size
 have HGW2 := xhd (show gm < w2.heap.size from Blk.lt HM2.out)
 have HCP := xhd (y16 Fx (.slice X zs.length cx) zs w3 (HX.out.keeps HK3.out (fun _ _ h => h)) (by omega) (y20 HFX.out).data)
 clear hq3 hr3 HCR
 go_wp2_with fail
 refine HCP.out.mono ?_
 rintro e w4 ⟨u4, q4, rfl, hq4, hr4⟩
 obtain ⟨A4, c4, rfl⟩ := y0b hr4.own
 have hk34 : Keeps y02 w3 w4 := Keeps.new hr4.below
 have HQ4 := xhd hq4
 have HR4 := xhd hr4.row.strong
 have HR3b := xhd (HR3.out.keeps hk34 (fun _ _ h => h))
 have HM4 := xhd (HM3.out.keeps hk34 (fun h => h))
 have HK4 := xhd (HK3.out.trans hk34)
 have HS34 := xhd hk34.size
 clear hq4 hr4 hk34 HCP HR3
 go_upto_region 7 with fail
 obtain ⟨w5a, hw5a⟩ : ∃ q, q = w4.alloc (.cells #[.pointer (some ⟨gm, 0, none⟩), .slice A3 q3.length c3, .nilFunc, .int .i64 (t : Int), .slice A4 q4.length c4, .slice none 0 0, .int .i64 0, .slice none 0 0, .bool false, .int .i64 0, .int .i64 0, .slice none 0 0, .slice none 0 0, .int .i64 0] 83) := ⟨_, rfl⟩
 obtain ⟨g, hg⟩ : ∃ q, q = w4.heap.size := ⟨_, rfl⟩
 rw [← hw5a, ← hg]
 have hk5a : Keeps y02 w4 w5a := by rw [hw5a]; exact (Keeps.refl _ w4).alloc _
 have hs5a : w5a.heap.size = g + 1 := by rw [hw5a, hg]; simp
 have hB5a : Blk w5a g 83 (⟨⟨gm, .nilFunc⟩, .slice A3 q3.length c3, t, .slice A4 q4.length c4, .slice none 0 0, 0, .slice none 0 0, false, 0, 0, .slice none 0 0, .slice none 0 0, 0⟩ : NF).list.toArray := by
  rw [hw5a, hg]
  exact Blk.new w4 _ _
 have c2 : w5a.cell? ⟨g, 2, none⟩ = some .nilFunc := by rw [hB5a.cell]; rfl
 have f2 := hB5a.frozen 2
 obtain ⟨w5, hw5⟩ : ∃ q, q = w5a.setCell ⟨g, 2, none⟩ (y38 g) := ⟨_, rfl⟩
 have hk5 : Keeps y02 w4 w5 := by rw [hw5]; exact hk5a.trans' ((Keeps.refl (only g) w5a).put 2 _) (fun i hi hl => by have e : i = g := hi; omega)
 have hs5 : w5.heap.size = g + 1 := by rw [hw5]; simp [hs5a]
 have HB5 := xhd (show NBlk w5 g (⟨⟨gm, y38 g⟩, .slice A3 q3.length c3, t, .slice A4 q4.length c4, .slice none 0 0, 0, .slice none 0 0, false, 0, 0, .slice none 0 0, .slice none 0 0, 0⟩ : NF) by
  rw [hw5]
  exact hB5a.set 2 (y38 g))
 clear hk5a hs5a hB5a hw5a
 have HM5 := xhd (HM4.out.keeps hk5 (fun h => h))
 have HR35 := xhd (HR3b.out.keeps hk5 (fun _ _ h => h))
 have HR45 := xhd (HR4.out.keeps hk5 (fun _ _ h => h))
 have HK5 := xhd (HK4.out.trans hk5)
 have HG := xhd hg
 have HS5 := xhd hs5
 have hl4 : q4.length = zs.length := by have := congrArg List.length HQ4.out; simpa using this
 have HF4 := xhd (y20 (zs := q4) (by rw [HQ4.out]; exact HFX.out))
 have HBG := xhd (y2q (fun b => w3.heap.size ≤ b ∧ b < w4.heap.size) g _ q4 w5 HB5.out HR45.out HF4.out)
 clear hg hk5 hs5 HM4 HR3b HR4 hl4
 go_upto_region 8 with fail
 rw [← hw5]
 clear hw5 c2 f2
 go_wp2_with fail
 refine HBG.out.mono ?_
 rintro e w6 ⟨rfl, u6, q6, hq6, hr6, hb6, hk6⟩
 obtain ⟨B6, c6, rfl, _⟩ := hr6.form
 have hg6 : g < w5.heap.size := HB5.out.lt
 have hgm6 : gm < w2.heap.size := HGW2.out
 have HOBJ := xhd (show NObj w6 g (fun b => w2.heap.size ≤ b ∧ b < w6.heap.size ∧ b ≠ g) _ (Pure.newNeg (y06 us) (y01 zs) t u) from by
  have hks : ∀ b, b ≠ g → ¬ only g b := fun b hb e => hb e
  have hw := hk6.size
  have hS5 := HS5.out
  have hG := HG.out
  have h34 := HS34.out
  have h23 := HS23.out
  have hmb := HMB.out
  unfold mayBe at hmb
  have hW : (Pure.newNeg (y06 us) (y01 zs) t u).Well := ⟨Pure.newMach_good (by omega) (by omega), by show t ≤ 1000; omega, by show u ≤ 1000; omega, by show 0 < 256; omega, HFX.out, HFX.out, Pure.fine_nil, rfl⟩
  refine ⟨hb6, HM5.out.keeps hk6 (fun e => by have e : gm = g := e; omega), hW, rfl, rfl, rfl, rfl, rfl, rfl, ⟨q3, ?_, HQ3.out, ?_⟩, ?_, ?_, ?_, ?_, ?_, fun b hb => hb.2.1, fun h => h.2.2 rfl, fun h => by have h1 : w2.heap.size ≤ gm := h.1; omega, by show g ≠ gm; omega⟩
  ·exact (HR35.out.keeps hk6 (fun b hb e => by have e : b = g := e; have := hb.2; omega)).mono (fun b hb => ⟨by rcases hb.1 with h | h <;> exact h, by have := hb.2; omega, by have := hb.2; omega⟩)
  ·refine ⟨?_, fun p hp => ?_⟩
   ·have := congrArg List.length HQ3.out
    simp at this
    rw [this]; exact HFU.out.len
   ·have h1 : p.2 ∈ y06 us := by rw [← HQ3.out]; exact List.mem_map.2 ⟨p, hp, rfl⟩
    obtain ⟨q, hq, he⟩ := List.mem_map.1 h1
    rw [← he]
    exact HFU.out.ok q hq
  ·exact ⟨q4, (HR45.out.keeps hk6 (fun b hb e => by have e : b = g := e; have := hb.2; omega)).mono (fun b hb => ⟨by have := hb.1; omega, by have := hb.2; omega, by have := hb.2; omega⟩), HQ4.out, HF4.out⟩
  ·refine ⟨q6, hr6.strong.mono (fun b hb => ⟨by have := hb.1; omega, hb.2, by have := hb.1; omega⟩), hq6.trans HQ4.out, y20 ?_⟩
   rw [hq6, HQ4.out]; exact HFX.out
  ·exact ⟨[], ORow.nil _ _, rfl, by simp, by simp⟩
  ·exact ⟨[], ORow.nil _ _, rfl, by simp, by simp⟩
  ·exact ⟨[], ORow.nil _ _, rfl, by simp, by simp⟩)
 have HKF := xhd (show Keeps y02 w w6 from HK5.out.trans' hk6 (fun i hi hl => by have e : i = g := hi; have := HG.out; have := HK4.out.size; omega))
 have HGW := xhd (show w.heap.size ≤ g by have := HG.out; have := HK4.out.size; omega)
 have HMW := xhd (show w.heap.size ≤ gm by have := HGM.out; omega)
 have HRW := xhd (show ∀ b, (w2.heap.size ≤ b ∧ b < w6.heap.size ∧ b ≠ g) → w.heap.size ≤ b from fun b hb => Nat.le_trans HK2.out.size hb.1)
 clear hq6 hr6 hb6 hk6 hg6 hgm6 HBG
 go_wp2_with fail
 go_ret2
 exact ⟨g, _, _, rfl, HOBJ.out, HGW.out, ⟨HMW.out, rfl⟩, HRW.out, HKF.out⟩
theorem y5u (w : World) : Calls Try.prog 16 #[] w fun e w' => ∃ u us, e = .returned u ∧ RRow w' (fun b => w.heap.size ≤ b ∧ b < w'.heap.size) u us ∧ y06 us = Pure.fewRules ∧ Keeps y02 w w' := by
 go_enter Try.func16, Try.ntmps16
 go_wp2_with fail
 go_ret
 have hb : Blk (w.alloc (.cells #[.int .i64 1, .int .i64 2, .int .i64 2, .int .i64 64, .int .i64 1500, .slice none 0 0, .bool false, .int .i64 5, .int .i64 4, .int .i64 1, .int .i64 0, .int .i64 0, .slice none 0 0, .bool false] 53)) w.heap.size 53 (y0h [(.slice none 0 0, Pure.rangeRule 64 1500), (.slice none 0 0, ⟨5, 4, 1, 0, 0, [], false⟩)]).toArray := Blk.new w _ _
 refine ⟨_, [(.slice none 0 0, Pure.rangeRule 64 1500), (.slice none 0 0, ⟨5, 4, 1, 0, 0, [], false⟩)], rfl, ⟨?_, fun p hp => ?_⟩, rfl, (Keeps.refl _ w).alloc _⟩
 ·exact Row.block (F := fun b => w.heap.size ≤ b ∧ b < (w.alloc _).heap.size) (n := 2) (c := 2) (size := 7) hb ⟨Nat.le_refl _, by simp⟩ rfl (by unfold maxLen; omega) (Nat.le_refl _)
 ·simp at hp
  rcases hp with rfl | rfl
  ·exact Row.nil _ _ _
  ·exact Row.nil _ _ _
theorem y2r {us : List (Value × Pure.Rule)} (h : y06 us = Pure.fewRules) : FewRules us := by
 refine ⟨by have := congrArg List.length h; simp [Pure.fewRules] at this; omega, fun p hp => ?_⟩
 have h1 : p.2 ∈ Pure.fewRules := by rw [← h]; exact List.mem_map.2 ⟨p, hp, rfl⟩
 unfold Pure.fewRules at h1
 rcases List.mem_cons.1 h1 with h1 | h1
 ·rw [h1]
  exact ⟨fun _ _ => by show (0 : Int) ≤ 64 ∧ (64 : Int) ≤ 1500 ∧ (1500 : Int) < 4294967296; omega, by simp [Pure.rangeRule]⟩
 ·rw [List.mem_singleton.1 h1]
  exact ⟨fun _ _ => by show (0 : Int) ≤ 0 ∧ (0 : Int) ≤ 0 ∧ (0 : Int) < 4294967296; omega, by simp⟩
theorem few_made {F : Nat → Prop} {w0 w : World} {u : Value} {qs us : List (Value × Pure.Rule)} (h : RRead w0 w F u qs) (he : y06 qs = y06 us) (hf : y06 us = Pure.fewRules) : RRow w (fun b => (F b ∨ w0.heap.size ≤ b) ∧ b < w.heap.size) u qs ∧ y06 qs = Pure.fewRules ∧ FewRules qs :=
 ⟨h.row, he.trans hf, y2r (he.trans hf)⟩
theorem one_opt {w : World} {b b2 : Nat} {t : Int} {l : List UInt8} (h1 : Blk w b 5 (u8s l).toArray) (h2 : Blk w b2 40 #[.int .i64 t, .slice (some ⟨b, 0, none⟩) l.length l.length]) (hl : l.length ≤ 1000) :
  ORow w (fun x => x = b ∨ x = b2) (.slice (some ⟨b2, 0, none⟩) 1 1) [(.slice (some ⟨b, 0, none⟩) l.length l.length, (t, l))] := by
 refine ⟨Row.block (F := fun x => x = b ∨ x = b2) (n := 1) (c := 1) (size := 2) (cs := #[.int .i64 t, .slice (some ⟨b, 0, none⟩) l.length l.length]) h2 (.inr rfl) rfl (by unfold maxLen; omega) (Nat.le_refl _), fun p hp => ?_⟩
 simp at hp
 subst hp
 have h := Row.block (F := fun x => x = b ∨ x = b2) (n := l.length) (c := l.length) (size := 1) h1 (.inl rfl) (by simp) (by unfold maxLen; omega) (Nat.le_refl _)
 simpa using h
theorem lit_one (W : World) (cs : Array Value) (t : Int) (l : List UInt8) (n : Nat) (hc : cs = (u8s l).toArray) (hn : n = l.length) (hl : l.length ≤ 1000) :
  ORow ((W.alloc (.cells cs 5)).alloc (.cells #[.int .i64 t, .slice (some ⟨W.heap.size, 0, none⟩) n n] 40)) (fun x => W.heap.size ≤ x ∧ x < W.heap.size + 2) (.slice (some ⟨W.heap.size + 1, 0, none⟩) 1 1) [(.slice (some ⟨W.heap.size, 0, none⟩) n n, (t, l))] ∧
   Keeps y02 W ((W.alloc (.cells cs 5)).alloc (.cells #[.int .i64 t, .slice (some ⟨W.heap.size, 0, none⟩) n n] 40)) ∧ ((W.alloc (.cells cs 5)).alloc (.cells #[.int .i64 t, .slice (some ⟨W.heap.size, 0, none⟩) n n] 40)).heap.size = W.heap.size + 2 := by
 subst hc hn
 have e : (W.alloc (.cells (u8s l).toArray 5)).heap.size = W.heap.size + 1 := by simp
 have h1 := (Blk.new W 5 (u8s l).toArray).alloc (.cells #[.int .i64 t, .slice (some ⟨W.heap.size, 0, none⟩) l.length l.length] 40)
 have h2 := Blk.new (W.alloc (.cells (u8s l).toArray 5)) 40 #[.int .i64 t, .slice (some ⟨W.heap.size, 0, none⟩) l.length l.length]
 rw [e] at h2
 exact ⟨(one_opt h1 h2 hl).mono (fun x hx => by omega), ((Keeps.refl _ W).alloc _).alloc _, by simp⟩
theorem one_of {qs : List (Value × Pure.Opt)} {o : Pure.Opt} (h : y01 qs = [o]) : ∃ v, qs = [(v, o)] := by
 match qs, h with
 | [(v, o')], h =>
  injection h with h1 _
  exact ⟨v, by rw [← h1]⟩
theorem one_pkt {qs : List (Value × Pure.Pkt)} {o : Pure.Pkt} (h : qs.map Prod.snd = [o]) : ∃ v, qs = [(v, o)] := by
 match qs, h with
 | [(v, o')], h =>
  injection h with h1 _
  exact ⟨v, by rw [← h1]⟩
theorem fine_five : Pure.Fine [((5 : Int), [(0 : UInt8), 0, 0, 1])] := ⟨by decide, by decide +kernel⟩
theorem y70 : Pure.judge Pure.fewRules [((1 : Int), [(7 : UInt8), 208])] false = (3, [(1, [5, 220])]) := by
 have h := Pure.few_great (b := [(7 : UInt8), 208]) rfl (by decide +kernel) false
 rw [h]
 decide +kernel
theorem y5o (w : World) : Calls Try.prog 5 #[] w fun e w' => e = .returned (.bool true) ∧ Keeps y02 w w' := by
 have HR1 := xhd (y5u w)
 go_enter Try.func5, Try.ntmps5
 go_wp2_with fail
 refine HR1.out.mono ?_
 rintro e w1 ⟨u1, us1, rfl, hrow1, hus1, hk1⟩
 obtain ⟨A1, c1, rfl, _⟩ := hrow1.form
 have HUS1 := xhd hus1
 have HK1 := xhd hk1
 have HA1 := xhd (y1b _ _ us1 w1 hrow1 (fun b hb => hb.2) (y2r hus1).len)
 clear hrow1 hus1 hk1 HR1
 go_wp2_with fail
 refine HA1.out.mono ?_
 rintro e w2 ⟨u2, qs2, rfl, hq2, hr2⟩
 obtain ⟨A2, c2, rfl⟩ := y0b hr2.own
 obtain ⟨hrow2, hf2, hfw2⟩ := few_made hr2 hq2 HUS1.out
 have HROW2 := xhd hrow2
 have HF2 := xhd hf2
 have HW2 := xhd hfw2
 have HK2 := xhd (HK1.out.trans hr2.kept)
 have HJ := xhd (fun (W : World) (hk : Keeps y02 w2 W) (G : Nat → Prop) (x : Value) (zs : List (Value × Pure.Opt)) (hz : ORow W G x zs) (hfz : FewOpts zs) => y5p _ G _ _ qs2 zs false W (hrow2.keeps hk (fun _ _ h => h)) hz hfw2 hfz)
 clear hq2 hr2 hrow2 hf2 hfw2 HA1 HUS1 HK1
 go_wp2_with fail
 obtain ⟨hz1, hkz1, _⟩ := lit_one w2 #[.int .u8 7, .int .u8 208] 1 [7, 208] 2 rfl rfl (by decide)
 have HJ1 := HJ.out _ hkz1 _ _ _ hz1 ⟨by simp, by simp⟩
 rw [HF2.out, show y01 [((.slice (some ⟨w2.heap.size, 0, none⟩) 2 2 : Value), (((1 : Int), [(7 : UInt8), 208]) : Pure.Opt))] = [((1 : Int), [(7 : UInt8), 208])] from rfl, y70] at HJ1
 have HJ1 := xhd HJ1
 have HKZ1 := xhd (HK2.out.trans hkz1)
 clear hz1 hkz1 HJ
 refine HJ1.out.mono ?_
 rintro e w3 ⟨A3, c3, qs3, rfl, hq3, hr3⟩
 obtain ⟨v3, rfl⟩ := one_of hq3
 have HR3 := xhd hr3
 have HK3 := xhd (HKZ1.out.trans (Keeps.new hr3.below))
 have HRU := xhd (y5u w3)
 clear hq3 hr3 HJ1 HKZ1 HROW2 HF2 HW2 HK2
 rw [show ([(v3, ((1 : Int), [(5 : UInt8), 220]))] : List (Value × Pure.Opt)).length = 1 from rfl]
 go_wp2_with fail
 refine HRU.out.mono ?_
 rintro e w4 ⟨u4, us4, rfl, hrow4, hus4, hk4⟩
 obtain ⟨A4, c4, rfl, _⟩ := hrow4.form
 have HUS4 := xhd hus4
 have HK4 := xhd (HK3.out.trans hk4)
 have HR4 := xhd (HR3.out.keeps hk4)
 have HA4 := xhd (y1b _ _ us4 w4 hrow4 (fun b hb => hb.2) (y2r hus4).len)
 clear hrow4 hus4 hk4 HRU HR3 HK3
 go_wp2_with fail
 refine HA4.out.mono ?_
 rintro e w5 ⟨u5, qs5, rfl, hq5, hr5⟩
 obtain ⟨A5, c5, rfl⟩ := y0b hr5.own
 obtain ⟨hrow5, hf5, hfw5⟩ := few_made hr5 hq5 HUS4.out
 have HK5 := xhd (HK4.out.trans hr5.kept)
 have HR5 := xhd (HR4.out.keeps hr5.kept)
 obtain ⟨hz5, hkz5, hs5⟩ := lit_one w5 #[.int .u8 0, .int .u8 0, .int .u8 0, .int .u8 1] 5 [0, 0, 0, 1] 4 rfl rfl (by decide)
 have HNEW := newneg_any _ _ _ _ qs5 _ 3 3 _ (hrow5.keeps hkz5 (fun _ _ h => h)) hz5 (fun b hb => by rw [hs5]; exact hb.2) hfw5 fine_five ⟨by decide, by decide, by decide, by decide⟩
 rw [hf5, show y01 [((.slice (some ⟨w5.heap.size, 0, none⟩) 4 4 : Value), (((5 : Int), [(0 : UInt8), 0, 0, 1]) : Pure.Opt))] = [((5 : Int), [(0 : UInt8), 0, 0, 1])] from rfl] at HNEW
 have HNEW := xhd HNEW
 have HKZ5 := xhd (HK5.out.trans hkz5)
 have HR5z := xhd (HR5.out.keeps hkz5)
 clear hq5 hr5 hrow5 hf5 hfw5 hz5 hkz5 hs5 HA4 HUS4 HK4 HR4 HK5 HR5
 go_wp2_with fail
 refine HNEW.out.mono ?_
 rintro e w6 ⟨g, f, R, rfl, hobj, hgw, hmw, hRw, hk6⟩
 have HOBJ := xhd hobj
 have HK6 := xhd (HKZ5.out.trans hk6)
 have HR6 := xhd (HR5z.out.keeps hk6)
 have HGW := xhd (And.intro (Nat.le_trans HKZ5.out.size hgw) (And.intro (Nat.le_trans HKZ5.out.size hmw.1) hRw))
 clear hobj hgw hmw hRw hk6 HNEW
 have hrow6 := HR6.out.row
 obtain ⟨bq, oq, B3, d3, t3, l3, hA3, _, y0, y1, hrd, hpd⟩ := hrow6.pick 0 (by simp)
 subst hA3
 obtain ⟨rfl, rfl, rfl⟩ : v3 = .slice B3 l3.length d3 ∧ t3 = 1 ∧ l3 = [5, 220] := by
  have h : some (v3, ((1 : Int), [(5 : UInt8), 220])) = some (.slice B3 l3.length d3, (t3, l3)) := hpd
  injection h with h
  injection h with h1 h2
  injection h2 with h2 h3
  exact ⟨by rw [h1], h2.symm, h3.symm⟩
 rw [Nat.zero_mul, Nat.add_zero] at y0 y1
 have HRD := xhd hrd
 clear hrow6 hrd hpd
 have HSM := xhd (fun (W : World) (hk : Keeps y02 w6 W) (y : Value) (hy : Row W (fun b => True) 1 y ([5, 220] : List UInt8).length (u8s [5, 220])) => y3v _ _ _ y [5, 220] [5, 220] W (HRD.out.keeps hk (fun _ _ h => h)) hy)
 clear HRD HR6 HR5z HKZ5
 go_wp2_with fail
 have hk7 := (Keeps.refl y02 w6).alloc (.cells #[.int .u8 5, .int .u8 220] 5)
 have hb7 := Blk.new w6 5 #[.int .u8 5, .int .u8 220]
 have HS7 := HSM.out _ hk7 (.slice (some ⟨w6.heap.size, 0, none⟩) 2 2) (Row.block (F := fun _ => True) (n := 2) (c := 2) (size := 1) hb7 trivial rfl (by unfold maxLen; omega) (Nat.le_refl _))
 have HS7 := xhd HS7
 have HOB7 := xhd (HOBJ.out.keeps hk7 (fun h => h) (fun h => h) (fun _ _ h => h))
 have HK7 := xhd (HK6.out.trans hk7)
 clear hk7 hb7 HSM HOBJ HK6
 refine HS7.out.mono ?_
 rintro e w8 ⟨rfl, hk8⟩
 have HOB8 := xhd (HOB7.out.keeps hk8 (fun h => h) (fun h => h) (fun _ _ h => h))
 have HK8 := xhd (HK7.out.trans hk8)
 clear hk8 HS7 HOB7 HK7
 have HUP := xhd (do_up g R f _ w8 HOB8.out)
 go_wp2_with fail
 refine HUP.out.mono ?_
 rintro e w9 ⟨v9, rfl, hout9, hbec9⟩
 obtain ⟨sv9, ps9, rfl, _, _, _⟩ := hout9
 obtain ⟨f9, R9, hobj9, hgm9, hsub9, hk9⟩ := hbec9
 have HOB9 := xhd hobj9
 have HK9 := xhd (show Keeps y02 w w9 from HK8.out.trans' hk9 (fun i hi hl => by have h1 := HGW.out.1; have h2 := HGW.out.2.1; rcases hi with e | e <;> omega))
 have HG9 := xhd (show w.heap.size ≤ f9.gm by rw [hgm9]; exact HGW.out.2.1)
 rw [Pure.neg_up] at HOB9
 have HOP := xhd (do_other g R9 f9 _ 2 (.inr (.inl rfl)) w9 HOB9.out (by decide))
 clear hobj9 hgm9 hsub9 hk9 HUP HOB8 HK8
 rw [Pure.neg_open] at HOP
 go_wp2_with fail
 refine HOP.out.mono ?_
 rintro e w10 ⟨v10, rfl, hout10, hbec10⟩
 obtain ⟨sv10, ps10, rfl, hpr10, hps10, _⟩ := hout10
 obtain ⟨f10, R10, hobj10, hgm10, hsub10, hk10⟩ := hbec10
 have HK10 := xhd (show Keeps y02 w w10 from HK9.out.trans' hk10 (fun i hi hl => by have h1 := HGW.out.1; have h2 := HG9.out; rcases hi with e | e <;> omega))
 have e4 : (Pure.options [((5 : Int), [(0 : UInt8), 0, 0, 1])]).2 = [5, 6, 0, 0, 0, 1] := by decide +kernel
 rw [e4] at *
 obtain ⟨v11, rfl⟩ := one_pkt (show ps10.map Prod.snd = [(⟨1, 1, [5, 6, 0, 0, 0, 1]⟩ : Pure.Pkt)] from hps10)
 obtain ⟨_, _, X10, c10, rfl, _, _, _⟩ := hpr10.out
 obtain ⟨bp, op, B5, d5, q5, hX5, _, z5, hr5, hp5⟩ := hpr10.pick 0 (by simp)
 subst hX5
 obtain ⟨rfl, rfl⟩ : v11 = .slice B5 q5.data.length d5 ∧ q5 = ⟨1, 1, [5, 6, 0, 0, 0, 1]⟩ := by
  have h : some (v11, (⟨1, 1, [5, 6, 0, 0, 0, 1]⟩ : Pure.Pkt)) = some (.slice B5 q5.data.length d5, q5) := hp5
  injection h with h
  injection h with h1 h2
  exact ⟨h1, h2.symm⟩
 rw [Nat.zero_mul, Nat.add_zero] at z5
 have z50 : w10.cell? ⟨bp, op, none⟩ = some (.int .i64 1) := z5 0 _ rfl
 have z51 : w10.cell? ⟨bp, op + 1, none⟩ = some (.int .i64 1) := z5 1 _ rfl
 have z52 : w10.cell? ⟨bp, op + 2, none⟩ = some (.slice B5 6 d5) := z5 2 _ rfl
 clear z5 hr5 hp5 hpr10 hps10 hobj10 hgm10 hsub10 hk10 HOP HOB9 HK9 HG9 HGW
 rw [show (Pure.sends [(⟨1, 1, [5, 6, 0, 0, 0, 1]⟩ : Pure.Pkt)]).up = false from rfl, show (Pure.sends [(⟨1, 1, [5, 6, 0, 0, 0, 1]⟩ : Pure.Pkt)]).down = false from rfl, show (Pure.sends [(⟨1, 1, [5, 6, 0, 0, 0, 1]⟩ : Pure.Pkt)]).start = false from rfl, show (Pure.sends [(⟨1, 1, [5, 6, 0, 0, 0, 1]⟩ : Pure.Pkt)]).done = false from rfl]
 rw [show ([(.slice B5 (⟨1, 1, [5, 6, 0, 0, 0, 1]⟩ : Pure.Pkt).data.length d5, (⟨1, 1, [5, 6, 0, 0, 0, 1]⟩ : Pure.Pkt))] : List (Value × Pure.Pkt)).length = 1 from rfl]
 go_wp2_with fail
 go_ret
 exact ⟨rfl, HK10.out.alloc _⟩
theorem y3q (F : Nat → Prop) (x : Value) (bs : List UInt8) (w : World) (hr : Row w F 1 x bs.length (u8s bs)) (hF : ∀ b, F b → b < w.heap.size) (hl : bs.length ≤ 100000000000000) :
  Calls Try.prog 33 #[x] w fun e w' => ∃ u, e = .returned u ∧ w'.ownsRow w.heap.size 5 1 u bs.length (u8s bs) ∧ Below w.heap.size w w' := by
 obtain ⟨A, c, rfl, hc⟩ := hr.form
 have hm := hr.2.1
 unfold maxLen at hm
 have HR := xhd hr
 have HF := xhd hF
 clear hr hF
 obtain ⟨i0, hi0, hz0, hz1, hz2⟩ := info_parts y1w
 have I := xhd (And.intro hi0 (And.intro hz0 (And.intro hz1 hz2)))
 clear hi0 hz0 hz1 hz2
 go_enter Try.func33, Try.ntmps33
 go_wp2_with fail
 go_loopw [3, 4] (fun u i wr => ∃ k : Nat, k ≤ bs.length ∧ i = .int .i64 k ∧ wr.ownsRow w.heap.size 5 1 u k (u8s (bs.take k)) ∧ Below w.heap.size w wr) (fun _ i _ => bs.length - (intOf i).toNat)
 case atStart => exact ⟨0, by omega, rfl, ⟨by simp, .inl ⟨rfl, rfl⟩⟩, Below.refl _ _⟩
 case round =>
  obtain ⟨k, hk, rfl, hown, hb⟩ := hrel
  have O := xhd hown
  have B := xhd hb
  clear hown hb
  by_cases hlt : k < bs.length
  ·obtain ⟨b, off, rfl, hbF, hcell⟩ := (HR.out.keeps (Keeps.new B.out) (fun _ _ h => h)).cellAt (by omega)
   have cb := hcell k _ (y2f bs k hlt)
   obtain ⟨X, hX⟩ : ∃ X : Nat, X = (bs.getD k 0).toNat := ⟨_, rfl⟩
   have hX2 : X < 256 := by rw [hX]; exact (bs.getD k 0).toNat_lt
   rw [← hX] at cb
   have HXX := xhd hX
   have hi0 : (0 : Int) ≤ (k : Int) := by omega
   have hi1 : (k : Int) < (bs.length : Int) := by omega
   have hrow1 : Row (wr.alloc (.cells #[.int .u8 X] 5)) (fun _ => True) 1 (.slice (some ⟨wr.heap.size, 0, none⟩) 1 1) 1 [.int .u8 X] :=
    Row.block (Blk.new wr 5 #[.int .u8 X]) trivial rfl (by simp [maxLen]) (Nat.le_refl _)
   have HRow := xhd hrow1
   have hsz := B.out.size
   clear hX hcell hrow1
   go_wp2_with (at_builtin; refine y0j ?_)
   unfold Hid
   obtain ⟨hi0', hz0, hz1, hz2⟩ := I.out
   refine y0k rfl (.tmp 11) (.tmp 16) _ rfl w.heap.size 5 i0 _ 1 1 Try.underlying38 hi0' hz0 hz1 hz2 rfl (by omega) u3 k (u8s (bs.take k))
    rfl (O.out.alloc _) _ _ 1 [.int .u8 X] rfl HRow.out (by simp [Value.oneCell']) (by simp only [maxLen]; omega) (by omega) (by simp; omega) ?_
   intro v3 w3 hown3 hg3 hat3
   have hown3' : w3.ownsRow w.heap.size 5 1 v3 (k + 1) (u8s (bs.take (k + 1))) := by
    have e1 : u8s (bs.take k) ++ [.int .u8 X] = u8s (bs.take (k + 1)) := by
     rw [List.take_succ_eq_append_getElem hlt]
     have := HXX.out
     rw [List.getD_eq_getElem?_getD, List.getElem?_eq_getElem hlt] at this
     rw [this]
     simp only [List.map_append, List.map_cons, List.map_nil, Option.getD_some]
    rw [← e1]
    exact hown3
   have hb3 := Below.grown (B.out.alloc hsz (.cells #[.int .u8 X] 5)) hg3 (by simp; omega) (fun q hq => (y0c O.out q hq))
   have O3 := xhd hown3'
   have B3 := xhd hb3
   clear hown3 hown3' hg3 hat3 hb3 hi0' hz0 hz1 hz2 cb
   go_wp2
   go_roundw
   case rel => exact ⟨k + 1, by omega, by go_num, O3.out, B3.out⟩
   case measure => simp [intOf]; omega
  ·have hk' : k = bs.length := by omega
   have e : bs.take k = bs := by rw [hk', List.take_length]
   rw [e, hk'] at O
   clear e hk'
   go_wp2
   go_ret
   exact ⟨_, rfl, O.out, B.out⟩
end Go.Proofs.Ytgphfindolaljaa
