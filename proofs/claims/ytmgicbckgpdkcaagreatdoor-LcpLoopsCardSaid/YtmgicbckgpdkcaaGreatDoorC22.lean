/- Package nego: heed, of whatever is not dropped. -/
import Derived.Laws.EntriesVeiled
import Derived.Test.YtmgicbckgpdkcaaGreatDoorC21
namespace Go.Proofs.YtmgicbckgpdkcaaGreatDoor
set_option maxRecDepth 100000
set_option maxHeartbeats 8000000
open _root_.Go.Lib renaming hid → xhd
open List renaming setIfInBounds_toArray → xqA, getElem_toArray → xqB, getElem_cons_succ → xqC, getElem_cons_zero → xqD, set_cons_succ → xqE, set_cons_zero → xqF
open Go.RowKit
theorem yb0 (n : Pure.Neg) (p : Pure.Pkt) (j : Nat × List Pure.Opt) : (n.heedsBy p j).2.1.m = n.m ∧ (n.heedsBy p j).2.1.naks = n.naks ∧ (n.heedsBy p j).2.1.rules = n.rules ∧ (n.heedsBy p j).2.2.p = p := by
 unfold Pure.Neg.heedsBy
 split
 ·exact ⟨rfl, rfl, rfl, rfl⟩
 split
 ·exact ⟨rfl, rfl, rfl, rfl⟩
 split
 ·exact ⟨rfl, rfl, rfl, rfl⟩
 split
 ·exact ⟨rfl, rfl, rfl, rfl⟩
 split
 ·exact ⟨rfl, rfl, rfl, rfl⟩
 split
 ·exact ⟨rfl, rfl, rfl, rfl⟩
 split <;> exact ⟨rfl, rfl, rfl, rfl⟩
theorem heed_by (R F Fz : Nat → Prop) (g : Nat) (f : NF) (n : Pure.Neg) (p : Pure.Pkt) (J : Nat × List Pure.Opt) (d uv : Value) (zs : List (Value × Pure.Opt)) (w : World) (h : NObj w g R f n) (hd : Row w F 1 d p.data.length (u8s p.data)) (hz : ORow w Fz uv zs) (he : y02 zs = hears p) (hFz : ∀ b, Fz b → b ≠ g) (hnr : ¬ n.refuses p)
  (hJ : p.code = 1 → y7l f.gm.j w uv (decide (n.m.tries ≤ n.naks)) J) (hfq : p.code = 1 → ∀ qs : List (Value × Pure.Opt), y02 qs = J.2 → FewOpts qs) :
  Calls Tryz.prog 133 #[.pointer (some ⟨g, 0, none⟩), pktV p d, uv] w fun e w' => y4g w g R f p d (n.heedsBy p J) e w' := by
 obtain ⟨pc, pi, pd⟩ := p
 dsimp only at hd
 obtain ⟨DA, dc, hform, _⟩ := hd.form
 unfold Pure.Neg.heedsBy
 dsimp only
 by_cases c1 : pc = 1
 ·subst c1
  rw [if_pos rfl, hform]
  exact heed_req R Fz g f n zs J pi pd DA dc uv w h hz (hJ rfl) (hfq rfl) _ rfl
 rw [if_neg c1]
 by_cases c2 : pc = 2
 ·subst c2
  rw [if_pos rfl, hform]
  exact heed_ack R g f n pi pd DA dc uv w h
 rw [if_neg c2]
 by_cases c3 : pc = 3
 ·subst c3
  have hs : (Pure.split pd).1 = 0 := Classical.byContradiction fun e => hnr (.inr (.inr (.inl ⟨.inr (.inl rfl), .inr (.inl e)⟩)))
  have he : y02 zs = (Pure.split pd).2 := he.trans (y4n (.inr (.inr (.inl rfl))))
  rw [if_pos rfl, ← he, hform]
  exact heed_nak R g f n Fz zs pi pd DA dc uv w h hz (by rw [he]; exact Pure.fine_of_split hs) hFz
 rw [if_neg c3]
 by_cases c4 : pc = 4
 ·subst c4
  have hs : (Pure.split pd).1 = 0 := Classical.byContradiction fun e => hnr (.inr (.inr (.inl ⟨.inr (.inr rfl), .inr (.inl e)⟩)))
  have he : y02 zs = (Pure.split pd).2 := he.trans (y4n (.inr (.inr (.inr rfl))))
  rw [if_pos rfl, ← he, hform]
  exact heed_rej R g f n Fz zs pi pd DA dc uv w h hz (by rw [he]; exact Pure.fine_of_split hs) hFz
 rw [if_neg c4]
 by_cases c5 : pc = 5
 ·subst c5
  rw [if_pos rfl, hform]
  exact heed_end R g f n pi pd DA dc uv w h
 rw [if_neg c5]
 by_cases c6 : pc = 6
 ·subst c6
  rw [if_pos rfl, hform]
  exact heed_ended R g f n pi pd DA dc uv w h
 rw [if_neg c6]
 by_cases c7 : pc = 7
 ·subst c7
  rw [if_pos rfl]
  have hne : pd ≠ [] := fun e => hnr (.inr (.inr (.inr ⟨rfl, e⟩)))
  cases pd with
  | nil => exact absurd rfl hne
  | cons b r =>
   rw [hform] at hd ⊢
   obtain ⟨_, _, A', c', e, _, _, hh⟩ := hd
   obtain ⟨db, doff, rfl, _, hc⟩ := hh (by simp)
   injection e with e1 _ _
   subst e1
   have h0 : w.cell? ⟨db, doff, none⟩ = some (.int .u8 (b.toNat : Nat)) := hc 0 _ rfl
   rw [List.headD_cons]
   exact ye8 R g f n pi b r db doff dc _ uv w h rfl h0
 ·rw [if_neg c7, hform]
  exact yf3 R g f n pc pi pd DA dc uv w h (by omega)
theorem NObj.dropsOne {w w' : World} {g : Nat} {R : Nat → Prop} {f : NF} {n : Pure.Neg} (h : NObj w g R f n) (k : Keeps (only g) w w') (hb : NBlk w' g { f with dropped := f.dropped + 1 }) : NObj w' g (y1c w w' R) { f with dropped := f.dropped + 1 } { n with dropped := n.dropped + 1 } :=
 h.turn k hb ⟨h.well.good, h.well.tries, h.well.timeout, h.well.id, h.well.first, h.well.request, h.well.asked, h.well.ours⟩ rfl rfl rfl rfl rfl h.e2 h.e3 h.e4 h.e5 (by show f.dropped + 1 = n.dropped + 1; rw [h.e6]) (h.first.later k h.ng h.lt) (h.request.later k h.ng h.lt) (h.aopts.later k h.ng h.lt) (h.mine.later k h.ng h.lt) (h.given.later k h.ng h.lt)
theorem yfz (F R : Nat → Prop) (g : Nat) (f : NF) (n : Pure.Neg) (d : Value) (p : Pure.Pkt) (a : Addr) (w : World) (hg : y17 w) (hs : y2d w a) (h : NObj w g R f n) (hF : ∀ b, F b → b < w.heap.size) (hd : Row w F 1 d p.data.length (u8s p.data)) (hr : n.refuses p) (hdr : n.dropped ≤ 1000000) :
  Calls Tryz.prog 77 #[.pointer (some ⟨g, 0, none⟩), pktV p d] w fun e w' => ∃ v, e = .returned v ∧ Outs w w' v (n.input p).2 ∧ y18 w w' g R f (n.input p).1 := by
 have HIN := xhd (Pure.input_refused h.well hr)
 rw [HIN.out]
 have HI := xhd y3q
 obtain ⟨DA, dc, rfl, _⟩ := hd.form
 have hgl := h.blk.lt
 have hml := Blk.lt h.mach
 have hgs := hs.lt
 obtain ⟨rp, hrp⟩ : ∃ q, q = w.heap.size := ⟨_, rfl⟩
 obtain ⟨pc, pi, pd⟩ := p
 dsimp only at hd ⊢
 obtain ⟨w1, hw1⟩ : ∃ q, q = (w.alloc (.cells #[.int .i64 pc, .int .i64 pi, .slice DA pd.length dc] 56)).alloc (.cells #[.slice none 0 0, .bool false, .bool false, .bool false, .bool false] 59) := ⟨_, rfl⟩
 have hk1 : Keeps y01 w w1 := by rw [hw1]; exact ((Keeps.refl _ w).alloc _).alloc _
 have hP : Blk w1 rp 56 #[.int .i64 pc, .int .i64 pi, .slice DA pd.length dc] := by rw [hw1, hrp]; exact (Blk.new w _ _).alloc _
 have hO : Blk w1 (rp + 1) 59 #[.slice none 0 0, .bool false, .bool false, .bool false, .bool false] := by
  rw [hw1, show rp + 1 = (w.alloc (.cells #[.int .i64 pc, .int .i64 pi, .slice DA pd.length dc] 56)).heap.size by rw [hrp]; simp]
  exact Blk.new _ _ _
 have p0 : w1.cell? ⟨rp, 0, none⟩ = some (.int .i64 pc) := by rw [hP.cell]; rfl
 have p1 : w1.cell? ⟨rp, 1, none⟩ = some (.int .i64 pi) := by rw [hP.cell]; rfl
 have p2 : w1.cell? ⟨rp, 2, none⟩ = some (.slice DA pd.length dc) := by rw [hP.cell]; rfl
 have H1 := xhd (h.keeps hk1 (fun h => h) (fun h => h) (fun _ _ h => h))
 have HAC := xhd (yaq F R g f n _ ⟨pc, pi, pd⟩ w1 (hg.keeps hk1 (fun h => h)) H1.out (fun b hb => Nat.lt_of_lt_of_le (hF b hb) hk1.size) (hd.keeps hk1 (fun _ _ h => h)))
 have HMD := xhd (y22 g f w1 H1.out.blk)
 have HS1 := xhd (hs.keeps hk1 (fun h => h))
 have HO := xhd hO
 have HK1 := xhd hk1
 have HRP := xhd hrp
 have HRL := xhd (show ∀ b, R b → b < rp by rw [hrp]; exact h.lt)
 have HGL := xhd (show g < rp by omega)
 have HML := xhd (show f.gm < rp by omega)
 have HRF := xhd hr
 have hDR : f.dropped ≤ 1000000 := by rw [h.e6]; exact hdr
 have HDR := xhd hDR
 clear hk1 hP hO h hg hs hF hd hr hdr hgl hml hgs hDR
 go_enter Tryz.func77, Tryz.ntmps77
 go_upto_region 1 with fail
 rw [← hrp]
 rw [← hw1]
 clear hw1 hrp
 go_wp2_with fail
 refine HMD.out.mono ?_
 rintro e w2 ⟨rfl, rfl⟩
 go_wp2_with fail
 refine HAC.out.mono ?_
 rintro e w2 (⟨_, v, rfl, ⟨b, k, rfl, hv⟩, hk2⟩ | ⟨hno, _⟩)
 case inr => exact absurd HRF.out hno
 have hs2 := HS1.out.keeps hk2 (fun h => h)
 have g0 : w2.cell? ⟨0, 0, none⟩ = some (.iface 324 (.pointer (some a))) := hs2
 have HDI := xhd (drop_is b k a w2 hs2 hv)
 have HN2 := xhd (H1.out.keeps hk2 (fun h => h) (fun h => h) (fun _ _ h => h))
 have HO2 := xhd (HO.out.keeps hk2 (fun h => h))
 have HK2 := xhd (HK1.out.trans hk2)
 clear hs2 hv hk2 HAC HMD H1 HO p0 p1 p2
 go_wp2_with fail
 refine HDI.out.mono ?_
 rintro e w3 ⟨rfl, hk3⟩
 have HN3 := xhd (HN2.out.keeps hk3 (fun h => h) (fun h => h) (fun _ _ h => h))
 have HO3 := xhd (HO2.out.keeps hk3 (fun h => h))
 have HK3 := xhd (HK2.out.trans hk3)
 have hN3 : Blk w3 g 171 f.list.toArray := HN3.out.blk
 have c12 : w3.cell? ⟨g, 13, none⟩ = some (.int .i64 (f.dropped : Int)) := by rw [hN3.cell]; rfl
 have f12 := hN3.frozen 13
 have e1 : wrap64 ((f.dropped : Int) + 1) = ((f.dropped + 1 : Nat) : Int) := by rw [IntWalk.wrap64_in _ (by have := HDR.out; omega)]; omega
 have HB4 := xhd (show NBlk (w3.setCell ⟨g, 13, none⟩ (.int .i64 ((f.dropped + 1 : Nat) : Int))) g { f with dropped := f.dropped + 1 } from hN3.set 13 _)
 have HKG := xhd (show Keeps (only g) w3 (w3.setCell ⟨g, 13, none⟩ (.int .i64 ((f.dropped + 1 : Nat) : Int))) from (Keeps.refl (only g) w3).put 13 _)
 obtain ⟨nd, hnd⟩ : ∃ q, q = ((f.dropped + 1 : Nat) : Int) := ⟨_, rfl⟩
 rw [← hnd] at e1 HB4 HKG
 clear hnd hk3 hN3 HDI HN2 HO2 HK2 g0
 go_upto_region 6 with fail
 generalize hw4 : World.setCell w3 ⟨g, 13, none⟩ _ = w4 at HB4 HKG ⊢
 have hO4 := HO3.out.keeps HKG.out (fun e => by have e : rp + 1 = g := e; have := HGL.out; omega)
 have z0 : w4.cell? ⟨rp + 1, 0, none⟩ = some (.slice none 0 0) := by rw [hO4.cell]; rfl
 have z1 : w4.cell? ⟨rp + 1, 1, none⟩ = some (.bool false) := by rw [hO4.cell]; rfl
 have z2 : w4.cell? ⟨rp + 1, 2, none⟩ = some (.bool false) := by rw [hO4.cell]; rfl
 have z3 : w4.cell? ⟨rp + 1, 3, none⟩ = some (.bool false) := by rw [hO4.cell]; rfl
 have z4 : w4.cell? ⟨rp + 1, 4, none⟩ = some (.bool false) := by rw [hO4.cell]; rfl
 have f0 := hO4.frozen 0
 have f1 := hO4.frozen 1
 have f2 := hO4.frozen 2
 have f3 := hO4.frozen 3
 have f4 := hO4.frozen 4
 have HZ := xhd (((((hO4.set 0 (.slice none 0 0)).set 1 (.bool false)).set 2 (.bool false)).set 3 (.bool false)).set 4 (.bool false))
 have HKR := xhd ((((((Keeps.refl (only (rp + 1)) w4).put 0 (.slice none 0 0)).put 1 (.bool false)).put 2 (.bool false)).put 3 (.bool false)).put 4 (.bool false))
 have HN4 := xhd (HN3.out.dropsOne HKG.out HB4.out)
 clear hO4 hw4 e1 c12 f12
 go_wp2_with fail
 refine bodyPost_ret (y07 rfl _ _ (rp + 1) 59 _ (0, 0) _ rfl HZ.out Tryz.underlying59 rfl (by rw [HI.out]; rfl)) rfl ?_
 refine ⟨_, rfl, ⟨.slice none 0 0, [], rfl, PRow.nil _ _, rfl, by simp⟩, ?_⟩
 have hbg : g ≠ rp + 1 := by have := HGL.out; omega
 have hbm : f.gm ≠ rp + 1 := by have := HML.out; omega
 refine ⟨_, _, HN4.out.keeps HKR.out hbg hbm (fun b hb e => ?_), rfl, fun b hb => hb.1.imp (fun h => h) (fun h => Nat.le_trans HK3.out.size h), ?_⟩
 ·have e : b = rp + 1 := e
  subst e
  rcases hb.1 with hb | hb
  ·have := HRL.out _ hb; omega
  ·have := HO3.out.lt; omega
 ·exact (((HK3.out.mono (T := fun b => b = g ∨ b = f.gm) (fun _ h => h.elim)).trans (HKG.out.mono (fun b e => .inl e)))).trans' HKR.out (fun i hi hl => by have e : i = rp + 1 := hi; have := HRP.out; omega)
theorem input_by (F R : Nat → Prop) (g : Nat) (f : NF) (n : Pure.Neg) (d : Value) (p : Pure.Pkt) (J : Nat × List Pure.Opt) (a : Addr) (w : World) (hg : y17 w) (hs : y2d w a) (h : NObj w g R f n) (hF : ∀ b, F b → b < w.heap.size ∧ b ≠ g ∧ b ≠ f.gm) (hd : Row w F 1 d p.data.length (u8s p.data)) (hr : ¬ n.refuses p) (hnk : n.naks ≤ 1000)
  (hJ : p.code = 1 → ∀ (Fz : Nat → Prop) (uv : Value) (zs : List (Value × Pure.Opt)) (W : World), NObj W g R f n → Keeps y01 w W → ORow W Fz uv zs → y02 zs = hears p → y7l f.gm.j W uv (decide (n.m.tries ≤ n.naks)) J) (hfq : p.code = 1 → ∀ qs : List (Value × Pure.Opt), y02 qs = J.2 → FewOpts qs) :
  Calls Tryz.prog 77 #[.pointer (some ⟨g, 0, none⟩), pktV p d] w fun e w' => ∃ v, e = .returned v ∧ Outs w w' v ((n.heedsBy p J).2.1.eventP (n.heedsBy p J).1 (some (n.heedsBy p J).2.2)).2 ∧ y18 w w' g R f ((n.heedsBy p J).2.1.eventP (n.heedsBy p J).1 (some (n.heedsBy p J).2.2)).1 := by
 have HI := xhd y3q
 obtain ⟨DA, dc, rfl, _⟩ := hd.form
 have hgl := h.blk.lt
 have hml := Blk.lt h.mach
 have hne := h.ne
 obtain ⟨rp, hrp⟩ : ∃ q, q = w.heap.size := ⟨_, rfl⟩
 obtain ⟨pc, pi, pd⟩ := p
 dsimp only at hd ⊢
 obtain ⟨hm1, hn1, hr1, hp1⟩ := yb0 n ⟨pc, pi, pd⟩ J
 have HHA0 := xhd (fun (Fz : Nat → Prop) (uv : Value) (zs : List (Value × Pure.Opt)) (W : World) (hW : NObj W g R f n) (hkW : Keeps y01 w W) (hdW : Row W F 1 (.slice DA pd.length dc) pd.length (u8s pd)) (hz : ORow W Fz uv zs) (he : y02 zs = hears ⟨pc, pi, pd⟩) (hFz : ∀ b, Fz b → b ≠ g) => heed_by R F Fz g f n ⟨pc, pi, pd⟩ J (.slice DA pd.length dc) uv zs W hW hdW hz he hFz hr (fun hc => hJ hc Fz uv zs W hW hkW hz he) hfq)
 have hwell := Pure.heeds_well h.well hr J
 obtain ⟨E, hE⟩ : ∃ q, q = n.heedsBy ⟨pc, pi, pd⟩ J := ⟨_, rfl⟩
 rw [← hE] at HHA0 hm1 hn1 hr1 hp1 hwell ⊢
 clear hE
 obtain ⟨ev, n1, rq, code, rl⟩ := E
 dsimp only at hm1 hn1 hr1 hp1 hwell ⊢
 subst hp1
 unfold Pure.Neg.eventP
 have hpl := Pure.act2_few hwell.good (ev : Int)
 have HGD := xhd (Pure.act2_good hwell.good (ev : Int))
 have HMA0 := xhd (fun (W : World) (R' : Nat → Prop) (f' : NF) (hW : NObj W g R' f' n1) => y5h f'.gm (ev : Int) n1.m W hW.mach hW.well.good hW.well.tries)
 obtain ⟨l, hl⟩ : ∃ l, l = (n1.m.act2 (ev : Int)).1 := ⟨_, rfl⟩
 obtain ⟨m', hm'⟩ : ∃ m', m' = (n1.m.act2 (ev : Int)).2 := ⟨_, rfl⟩
 rw [← hl] at hpl HMA0 ⊢
 rw [← hm'] at HMA0 HGD ⊢
 have HFW := xhd hpl
 clear hl hm' hpl
 obtain ⟨w1, hw1⟩ : ∃ q, q = (w.alloc (.cells #[.int .i64 pc, .int .i64 pi, .slice DA pd.length dc] 56)).alloc (.cells #[.slice none 0 0, .bool false, .bool false, .bool false, .bool false] 59) := ⟨_, rfl⟩
 have hk1 : Keeps y01 w w1 := by rw [hw1]; exact ((Keeps.refl _ w).alloc _).alloc _
 have hP : Blk w1 rp 56 #[.int .i64 pc, .int .i64 pi, .slice DA pd.length dc] := by rw [hw1, hrp]; exact (Blk.new w _ _).alloc _
 have hO : Blk w1 (rp + 1) 59 #[.slice none 0 0, .bool false, .bool false, .bool false, .bool false] := by
  rw [hw1, show rp + 1 = (w.alloc (.cells #[.int .i64 pc, .int .i64 pi, .slice DA pd.length dc] 56)).heap.size by rw [hrp]; simp]
  exact Blk.new _ _ _
 have p0 : w1.cell? ⟨rp, 0, none⟩ = some (.int .i64 pc) := by rw [hP.cell]; rfl
 have p1 : w1.cell? ⟨rp, 1, none⟩ = some (.int .i64 pi) := by rw [hP.cell]; rfl
 have p2 : w1.cell? ⟨rp, 2, none⟩ = some (.slice DA pd.length dc) := by rw [hP.cell]; rfl
 have H1 := xhd (h.keeps hk1 (fun h => h) (fun h => h) (fun _ _ h => h))
 have HAC := xhd (yaq F R g f n _ ⟨pc, pi, pd⟩ w1 (hg.keeps hk1 (fun h => h)) H1.out (fun b hb => Nat.lt_of_lt_of_le (hF b hb).1 hk1.size) (hd.keeps hk1 (fun _ _ h => h)))
 have HMD := xhd (y22 g f w1 H1.out.blk)
 have HS1 := xhd (hs.keeps hk1 (fun h => h))
 have HD1 := xhd (hd.keeps hk1 (fun _ _ h => h))
 have HFF := xhd hF
 have HO := xhd hO
 have HPB := xhd hP
 have HK1 := xhd hk1
 have HRP := xhd hrp
 have HRL := xhd (show ∀ b, R b → b < rp by rw [hrp]; exact h.lt)
 have HGL := xhd (show g < rp by omega)
 have HML := xhd (show f.gm < rp by omega)
 have HRF := xhd hr
 have HNE0 := xhd hne
 have HM1 := xhd hm1
 have HNK := xhd (show n1.naks ≤ 1000 by rw [hn1]; exact hnk)
 clear hk1 hP hO h hg hs hF hd hr hgl hml hne hm1 hn1 hr1 hnk hJ hfq hwell
 go_enter Tryz.func77, Tryz.ntmps77
 go_upto_region 1 with fail
 rw [← hrp]
 rw [← hw1]
 clear hw1 hrp
 go_wp2_with fail
 refine HMD.out.mono ?_
 rintro e w2 ⟨rfl, rfl⟩
 go_wp2_with fail
 refine HAC.out.mono ?_
 rintro e w2 (⟨hyes, _⟩ | ⟨_, u, zs, rfl, hze, hzr, hk2⟩)
 case inl => exact absurd hyes HRF.out
 obtain ⟨UA, uc, rfl, _⟩ := hzr.form
 have hs2 := HS1.out.keeps hk2 (fun h => h)
 have g0 : w2.cell? ⟨0, 0, none⟩ = some (.iface 324 (.pointer (some a))) := hs2
 have HDI := xhd (none_is a w2)
 have HN2 := xhd (H1.out.keeps hk2 (fun h => h) (fun h => h) (fun _ _ h => h))
 have HO2 := xhd (HO.out.keeps hk2 (fun h => h))
 have HK2 := xhd (HK1.out.trans hk2)
 have HD2 := xhd (HD1.out.keeps hk2 (fun _ _ h => h))
 have p0 : w2.cell? ⟨rp, 0, none⟩ = some (.int .i64 pc) := by rw [(HPB.out.keeps hk2 (fun h => h)).cell]; rfl
 have p1 : w2.cell? ⟨rp, 1, none⟩ = some (.int .i64 pi) := by rw [(HPB.out.keeps hk2 (fun h => h)).cell]; rfl
 have p2 : w2.cell? ⟨rp, 2, none⟩ = some (.slice DA pd.length dc) := by rw [(HPB.out.keeps hk2 (fun h => h)).cell]; rfl
 have HHA := xhd (HHA0.out _ _ zs w2 HN2.out HK2.out HD2.out hzr hze (fun b hb => by have := hb.1; have := HGL.out; have := HO.out.lt; omega))
 clear hs2 hze hzr hk2 HAC HMD H1 HO HHA0 HS1 HD1
 go_wp2_with fail
 refine HDI.out.mono ?_
 rintro e w3 ⟨rfl, rfl⟩
 go_wp2_with fail
 refine HHA.out.mono ?_
 rintro e w3 ⟨ov, zo, f', R', rfl, hzo, hzoe, hzof, hn3, hgm, hsub, hk3⟩
 dsimp only at hzoe hn3 ⊢
 subst hzoe
 obtain ⟨OA, oc, rfl, _⟩ := hzo.form
 have HFZ := xhd hzof
 have HGM := xhd hgm
 have hO3 := HO2.out.keeps hk3 (fun e => by have e : rp + 1 = g := e; have := HGL.out; omega)
 have HO3 := xhd hO3
 have HN3 := xhd hn3
 have HK3 := xhd hk3
 have HSUB := xhd (show ∀ b, R' b → R b ∨ w.heap.size ≤ b from fun b hb => (hsub b hb).imp (fun h => h) (fun h => Nat.le_trans HK2.out.size h))
 have HRO := xhd (show ¬ R' (rp + 1) from fun e => by
  rcases hsub _ e with h | h
  ·have := HRL.out _ h; omega
  ·have := HO2.out.lt; omega)
 have HZ3 := xhd (hzo.mono (G := fun b => b < w3.heap.size ∧ b ≠ g ∧ b ≠ f'.gm) (fun b hb => ⟨hb.2, by have := hb.1; have := HGL.out; have := HO2.out.lt; omega, by rw [hgm]; have := hb.1; have := HML.out; have := HO2.out.lt; omega⟩))
 have HD3 := xhd ((HD2.out.keeps hk3 (fun b hb e => (HFF.out b hb).2.1 e)).mono (G := fun b => b < w3.heap.size ∧ b ≠ g ∧ b ≠ f'.gm) (fun b hb => ⟨Nat.lt_of_lt_of_le (HFF.out b hb).1 (Nat.le_trans HK2.out.size hk3.size), (HFF.out b hb).2.1, by rw [hgm]; exact (HFF.out b hb).2.2⟩))
 obtain ⟨gc, hgc⟩ : ∃ q, q = w3.heap.size := ⟨_, rfl⟩
 obtain ⟨w4, hw4⟩ : ∃ q, q = w3.alloc (.cells #[.int .i64 pc, .int .i64 pi, .slice DA pd.length dc, .int .i64 (code : Int), .slice OA zo.length oc] 180) := ⟨_, rfl⟩
 have hk4 : Keeps y01 w3 w4 := by rw [hw4]; exact (Keeps.refl _ w3).alloc _
 have HCB := xhd (show Blk w4 gc 180 #[.int .i64 pc, .int .i64 pi, .slice DA pd.length dc, .int .i64 (code : Int), .slice OA zo.length oc] by rw [hw4, hgc]; exact Blk.new w3 _ _)
 have HN4 := xhd (hn3.keeps hk4 (fun h => h) (fun h => h) (fun _ _ h => h))
 have HO4 := xhd (hO3.keeps hk4 (fun h => h))
 have HZO := xhd ((HZ3.out.keeps hk4 (fun _ _ h => h)).mono (G := fun b => b < w4.heap.size ∧ b ≠ g ∧ b ≠ f'.gm) (fun b hb => ⟨Nat.lt_of_lt_of_le hb.1 hk4.size, hb.2⟩))
 have HD4 := xhd ((HD3.out.keeps hk4 (fun _ _ h => h)).mono (G := fun b => b < w4.heap.size ∧ b ≠ g ∧ b ≠ f'.gm) (fun b hb => ⟨Nat.lt_of_lt_of_le hb.1 hk4.size, hb.2⟩))
 have c0 : w4.cell? ⟨g, 0, none⟩ = some (.pointer (some ⟨f'.gm, 0, none⟩)) := HN4.out.blk.cell 0
 have HG4 := xhd (show g < w4.heap.size from HN4.out.blk.lt)
 have HNE := xhd (show g ≠ f'.gm by rw [hgm]; exact HNE0.out)
 have HNC := xhd (show gc ≠ f'.gm by have := Blk.lt hn3.mach; omega)
 have HGC := xhd (show gc ≠ g by have := hn3.blk.lt; omega)
 have HOM := xhd (show rp + 1 ≠ f'.gm by rw [hgm]; have := HML.out; omega)
 have HOG := xhd (show rp + 1 ≠ g by have := HGL.out; omega)
 have HGO := xhd (show g ≠ rp + 1 by have := HGL.out; omega)
 have HMO := xhd (show f.gm ≠ rp + 1 by have := HML.out; omega)
 have HKW := xhd (show Keeps (fun b => b = g ∨ b = f.gm) w w4 from ((HK2.out.mono (fun _ h => h.elim)).trans (hk3.mono (fun b e => .inl e))).trans (hk4.mono (fun _ h => h.elim)))
 have HMA := xhd (fun (W : World) (k : Keeps y01 w4 W) => HMA0.out W _ _ (HN4.out.keeps k (fun h => h) (fun h => h) (fun _ _ h => h)))
 have HKZ4 := xhd (Keeps.refl y01 w4)
 clear hzo hzof hn3 hgm hsub hk3 hO3 hk4 HMA0 HHA HDI HN2 HO2 HD2 p0 p1 p2 g0
 go_upto_region 8 with fail
 rw [← hw4, ← hgc]
 clear hw4 hgc
 refine y0b (fun w' => w'.cell? ⟨g, 0, none⟩ = some (.pointer (some ⟨f'.gm, 0, none⟩)) ∧ Blk w' gc 180 #[.int .i64 pc, .int .i64 pi, .slice DA pd.length dc, .int .i64 (code : Int), .slice OA zo.length oc]) 9 10 rfl (by kernel_rfl) ⟨c0, HCB.out⟩ (fun hHeld => ?_)
 have HSW := hHeld
 clear hHeld
 have HK0d := xhd (HKZ4.out.drew)
 refine y00 (i := 0) rfl (by kernel_rfl) (fun _ _ _ h => h) (Or.inl ⟨by rfl, by intro w hSw; obtain ⟨s0, sB⟩ := hSw; go_simp; try with_reducible rfl⟩) HSW.out ?_
 simp only [Act.put, xqA, xqB, xqD, xqE, xqF]
 refine y00 (i := 1) rfl (by kernel_rfl) (fun _ _ _ h => h) (Or.inl ⟨by rfl, by intro w hSw; obtain ⟨s0, sB⟩ := hSw; go_simp; try with_reducible rfl⟩) HSW.out ?_
 simp only [Act.put, xqA, xqB, xqC, xqD, xqE, xqF]
 refine y00 (i := 2) rfl (by kernel_rfl) (fun _ _ _ h => h) (Or.inl ⟨by rfl, by intro w hSw; obtain ⟨s0, sB⟩ := hSw; go_simp; try with_reducible rfl⟩) HSW.out ?_
 simp only [Act.put, xqA, xqB, xqC, xqD, xqE, xqF]
 refine y00 (i := 3) rfl (by kernel_rfl) (fun _ _ _ h => h) (Or.inl ⟨by rfl, by intro w hSw; obtain ⟨s0, sB⟩ := hSw; go_simp; try with_reducible rfl⟩) HSW.out ?_
 simp only [Act.put, xqA, xqB, xqC, xqD, xqE, xqF]
 refine y00 (i := 4) rfl (by kernel_rfl) (fun _ _ _ h => h) (Or.inl ⟨by rfl, by intro w hSw; obtain ⟨s0, sB⟩ := hSw; go_simp; try with_reducible rfl⟩) HSW.out ?_
 simp only [Act.put, xqA, xqB, xqC, xqD, xqE, xqF]
 refine y00 (i := 5) rfl (by kernel_rfl) (fun _ _ _ h => h) (Or.inl ⟨by rfl, by intro w hSw; obtain ⟨s0, sB⟩ := hSw; go_simp; try with_reducible rfl⟩) HSW.out ?_
 simp only [Act.put, xqA, xqB, xqC, xqD, xqE, xqF]
 refine y00 (i := 7) rfl (by kernel_rfl) (fun _ _ _ h => h) (Or.inl ⟨by rfl, by intro w hSw; obtain ⟨s0, sB⟩ := hSw; have t0 : w.cell? ⟨gc, 0, none⟩ = some (.int .i64 pc) := (by rw [Blk.cell sB]; rfl); have t1 : w.cell? ⟨gc, 1, none⟩ = some (.int .i64 pi) := (by rw [Blk.cell sB]; rfl); have t2 : w.cell? ⟨gc, 2, none⟩ = some (.slice DA pd.length dc) := (by rw [Blk.cell sB]; rfl); have t3 : w.cell? ⟨gc, 3, none⟩ = some (.int .i64 (code : Int)) := (by rw [Blk.cell sB]; rfl); have t4 : w.cell? ⟨gc, 4, none⟩ = some (.slice OA zo.length oc) := (by rw [Blk.cell sB]; rfl); go_simp; try with_reducible rfl⟩) HSW.out ?_
 simp only [Act.put, xqA, xqB, xqC, xqD, xqE, xqF]
 refine y03 (i := 6) (by kernel_rfl) rfl (fun K hK => ?_)
 try rw [if_pos (by rfl)]
 go_simp
 refine (HMA.out _ HK0d.out).mono ?_
 rintro e w5 ⟨LA, lc, rfl, hrow5, hm5, hk5⟩
 have HN5 := xhd ((HN4.out.keeps HK0d.out (fun h => h) (fun h => h) (fun _ _ h => h)).machine (m' := m') hk5 hm5 HGD.out.1 HGD.out.2.1 HGD.out.2.2)
 have HK5 := xhd (show Keeps (only f'.gm) w4 w5 from (HK0d.out.mono (fun _ h => h.elim)).trans hk5)
 have HS5 := xhd (And.intro (y49 hk5 HNE.out HSW.out.1) (HSW.out.2.keeps hk5 (fun e => HNC.out e)))
 have HROW := xhd (hrow5.mono (G := fun b => w4.heap.size ≤ b) (fun b hb => Nat.le_trans HK0d.out.size hb))
 have HL5 := xhd (show rp + 1 < w5.heap.size from Nat.lt_of_lt_of_le HO4.out.lt HK5.out.size)
 clear hrow5 hm5 hk5
 refine hK.out _ _ (fun _ => HS5.out) ?_
 clear hK K
 try simp only [Act.put, xqA, Nat.reduceAdd, xqB, xqC, xqD, xqE, xqF]
 refine y03 (i := 8) (by kernel_rfl) rfl (fun K hK => ?_)
 try rw [if_pos (by rfl)]
 go_simp
 refine (ya3 g R' (fun b => w4.heap.size ≤ b) (fun b => b < w5.heap.size ∧ b ≠ g) f' { n1 with m := m' } (.slice LA l.length lc) (.slice DA pd.length dc) (.slice OA zo.length oc) l ⟨pc, pi, pd⟩ code zo (some ⟨⟨pc, pi, pd⟩, code, y02 zo⟩) w5 HN5.out HROW.out (fun b hb => by have := HG4.out; omega) ((HD4.out.keeps HK5.out (fun b hb e => hb.2.2 e)).mono (fun b hb => ⟨Nat.lt_of_lt_of_le hb.1 HK5.out.size, hb.2.1⟩)) ((HZO.out.keeps HK5.out (fun b hb e => hb.2.2 e)).mono (fun b hb => ⟨Nat.lt_of_lt_of_le hb.1 HK5.out.size, hb.2.1⟩)) HFZ.out (fun b hb => hb) (.inr rfl) HFW.out HNK.out).mono ?_
 rintro e w6 ⟨v6, rfl, hout, hbec⟩
 have HOUT := xhd hout
 have HBEC := xhd hbec
 have hk6 : Keeps (fun b => b = g ∨ b = f'.gm) w5 w6 := by obtain ⟨_, _, _, _, _, hk⟩ := hbec; exact hk
 obtain ⟨sv, ps, rfl, hprow, _, _⟩ := hout
 obtain ⟨A6, c6, rfl, _⟩ := hprow.form
 have HO6 := xhd ((HO4.out.keeps HK5.out (fun e => HOM.out e)).keeps hk6 (fun e => by rcases e with e | e; exact HOG.out e; exact HOM.out e))
 have hc6 : w6.cell? ⟨g, 0, none⟩ = some (.pointer (some ⟨f'.gm, 0, none⟩)) := by obtain ⟨f'', _, ho, hgm2, _, _⟩ := hbec; rw [ho.blk.cell 0, ← hgm2]; rfl
 have HS6 := xhd (And.intro hc6 (HS5.out.2.keeps hk6 (fun e => by rcases e with e | e; exact HGC.out e; exact HNC.out e)))
 clear hbec hprow hk6 hc6
 refine hK.out _ _ (fun _ => HS6.out) ?_
 clear hK K
 try simp only [Act.put, xqA, Nat.reduceAdd, xqB, xqC, xqD, xqE, xqF]
 have hO6 := HO6.out
 have y0 : w6.cell? ⟨rp + 1, 0, none⟩ = some (.slice none 0 0) := by rw [hO6.cell]; rfl
 have v0 := hO6.frozen 0
 have y1 : w6.cell? ⟨rp + 1, 1, none⟩ = some (.bool false) := by rw [hO6.cell]; rfl
 have v1 := hO6.frozen 1
 have y2 : w6.cell? ⟨rp + 1, 2, none⟩ = some (.bool false) := by rw [hO6.cell]; rfl
 have v2 := hO6.frozen 2
 have y3 : w6.cell? ⟨rp + 1, 3, none⟩ = some (.bool false) := by rw [hO6.cell]; rfl
 have v3 := hO6.frozen 3
 have y4 : w6.cell? ⟨rp + 1, 4, none⟩ = some (.bool false) := by rw [hO6.cell]; rfl
 have v4 := hO6.frozen 4
 obtain ⟨O1, hO1⟩ : ∃ b, b = (({ n1 with m := m' } : Pure.Neg).actsP l (some ⟨⟨pc, pi, pd⟩, code, y02 zo⟩)).2.up := ⟨_, rfl⟩
 obtain ⟨O2, hO2⟩ : ∃ b, b = (({ n1 with m := m' } : Pure.Neg).actsP l (some ⟨⟨pc, pi, pd⟩, code, y02 zo⟩)).2.down := ⟨_, rfl⟩
 obtain ⟨O3, hO3⟩ : ∃ b, b = (({ n1 with m := m' } : Pure.Neg).actsP l (some ⟨⟨pc, pi, pd⟩, code, y02 zo⟩)).2.start := ⟨_, rfl⟩
 obtain ⟨O4, hO4⟩ : ∃ b, b = (({ n1 with m := m' } : Pure.Neg).actsP l (some ⟨⟨pc, pi, pd⟩, code, y02 zo⟩)).2.done := ⟨_, rfl⟩
 rw [← hO1, ← hO2, ← hO3, ← hO4] at HOUT ⊢
 have HZ := xhd (((((hO6.set 0 (.slice A6 ps.length c6)).set 1 (.bool O1)).set 2 (.bool O2)).set 3 (.bool O3)).set 4 (.bool O4))
 have HKR := xhd ((((((Keeps.refl (only (rp + 1)) w6).put 0 (.slice A6 ps.length c6)).put 1 (.bool O1)).put 2 (.bool O2)).put 3 (.bool O3)).put 4 (.bool O4))
 clear hO6 hO1 hO2 hO3 hO4
 refine y03 (i := 9) (by kernel_rfl) rfl (fun K hK => ?_)
 go_simp
 refine hK.out _ _ (fun h => absurd rfl h) ?_
 clear hK K
 refine y09 (by kernel_rfl) ?_ _
 go_wp2_with fail
 refine bodyPost_ret (y07 rfl _ _ (rp + 1) 59 _ (0, 0) _ rfl HZ.out Tryz.underlying59 rfl (by rw [HI.out]; rfl)) rfl ?_
 have k06 : Keeps (fun b => b = g ∨ b = f.gm) w w5 := HKW.out.trans (HK5.out.mono (fun b e => .inr (by rw [← HGM.out]; exact e)))
 exact ⟨_, rfl, (HOUT.out.far HKR.out HL5.out).since k06.size, HBEC.out.close HGM.out HSUB.out k06 HKR.out (by have := HRP.out; omega) HL5.out HGO.out HMO.out HRO.out⟩
theorem NObj.judgedBy {w w' : World} {g : Nat} {R : Nat → Prop} {f : NF} {n : Pure.Neg} (h : NObj w g R f n) (j : Value) (k : Keeps (only g) w w') (hb : NBlk w' g { f with gm := ⟨f.gm.m, j⟩ }) : NObj w' g R { f with gm := ⟨f.gm.m, j⟩ } n := by
 obtain ⟨us, r1, r2, r3⟩ := h.rules
 have hkR : ∀ b, R b → ¬ only g b := fun b hb e => h.ng (by have e : b = g := e; exact e ▸ hb)
 exact ⟨hb, h.mach.keeps k (fun e => h.ne (by have e : f.gm.m = g := e; exact e.symm)), h.well, h.e1, h.e2, h.e3, h.e4, h.e5, h.e6, ⟨us, r1.keeps k hkR, r2, r3⟩, h.first.keeps k hkR, h.request.keeps k hkR, h.aopts.keeps k hkR, h.mine.keeps k hkR, h.given.keeps k hkR, fun b hb => Nat.lt_of_lt_of_le (h.lt b hb) k.size, h.ng, h.nm, h.ne⟩
theorem yf5 (g : Nat) (R : Nat → Prop) (f : NF) (n : Pure.Neg) (fn : FuncId) (cv : Value) (w : World) (h : NObj w g R f n) (hneq : ∀ w, (binOp .neq 129 (.func (.func fn) #[cv] #[]) .nilFunc).run Tryz.prog w = .ok (.bool true) w) :
  Calls Tryz.prog 67 #[.pointer (some ⟨g, 0, none⟩), .func (.func fn) #[cv] #[]] w fun e w' => e = .returned (.tuple #[]) ∧ NObj w' g R { f with gm := ⟨f.gm.m, .func (.func fn) #[cv] #[]⟩ } n ∧ Keeps (only g) w w' := by
 have HMD := xhd (y22 g f w h.blk)
 have hb : Blk w g 171 f.list.toArray := h.blk
 have c2 : w.cell? ⟨g, 2, none⟩ = some f.gm.j := h.blk.cell 2
 have f2 := h.blk.frozen 2
 have K := (Keeps.refl (only g) w).put 2 (.func (.func fn) #[cv] #[])
 have HN := xhd (h.judgedBy (.func (.func fn) #[cv] #[]) K (show NBlk _ g { f with gm := ⟨f.gm.m, .func (.func fn) #[cv] #[]⟩ } from hb.set 2 _))
 have HK := xhd K
 clear h hb K
 go_enter Tryz.func67, Tryz.ntmps67
 go_wp2_with fail
 refine HMD.out.mono ?_
 rintro e w1 ⟨rfl, rfl⟩
 go_wp2_with fail
 go_end0
 exact ⟨rfl, HN.out, HK.out⟩
theorem asked_any (g : Nat) (R : Nat → Prop) (f : NF) (n : Pure.Neg) (w : World) (h : NObj w g R f n) :
  Calls Tryz.prog 122 #[.pointer (some ⟨g, 0, none⟩)] w fun e w' => Given w w' e (Pure.split n.ours).2 := by
 have HMD := xhd (y22 g f w h.blk)
 obtain ⟨zs, hz, hze, hzw⟩ := h.aopts
 have HCP := xhd (y1v R f.aopts zs w hz hzw.len hzw.data)
 obtain ⟨X, cx, hX, _⟩ := hz.form
 have c0 : w.cell? ⟨g, 7, none⟩ = some f.aopts := h.blk.cell 7
 rw [hX] at HCP c0
 have HE := xhd hze
 have HW := xhd hzw
 clear h hz hze hzw hX
 go_enter Tryz.func122, Tryz.ntmps122
 go_wp2_with fail
 refine HMD.out.mono ?_
 rintro e w1 ⟨rfl, rfl⟩
 go_wp2_with fail
 refine HCP.out.mono ?_
 rintro e w1 ⟨u, qs, rfl, hqs, hrd⟩
 have HQ := xhd hqs
 have HR := xhd hrd.row.strong
 have HK := xhd (show Keeps y01 w w1 from Keeps.new hrd.below)
 clear hqs hrd HCP c0
 go_wp2_with fail
 go_ret
 exact ⟨u, qs, rfl, HQ.out.trans HE.out, y7s HQ.out HW.out, HR.out, HK.out⟩
theorem ndrop_any (g : Nat) (R : Nat → Prop) (f : NF) (n : Pure.Neg) (w : World) (h : NObj w g R f n) (hdr : n.dropped ≤ 1000000) :
  Calls Tryz.prog 74 #[.pointer (some ⟨g, 0, none⟩)] w fun e w' => e = .returned (.tuple #[]) ∧ y18 w w' g R f n.drop.1 := by
 have HMD := xhd (y22 g f w h.blk)
 have hb : Blk w g 171 f.list.toArray := h.blk
 have hDR : f.dropped ≤ 1000000 := by rw [h.e6]; exact hdr
 have c13 : w.cell? ⟨g, 13, none⟩ = some (.int .i64 (f.dropped : Int)) := h.blk.cell 13
 have f13 := h.blk.frozen 13
 have e1 : wrap64 ((f.dropped : Int) + 1) = (f.dropped : Int) + 1 := by rw [IntWalk.wrap64_in _ (by omega)]
 have K := (Keeps.refl (only g) w).put 13 (.int .i64 ((f.dropped : Int) + 1))
 have HN := xhd (h.dropsOne K (show NBlk _ g { f with dropped := f.dropped + 1 } from hb.set 13 (.int .i64 ((f.dropped : Int) + 1))))
 have HK := xhd (K.mono (T := fun b => b = g ∨ b = f.gm) (fun b e => .inl e))
 clear h hb K hDR hdr
 go_enter Tryz.func74, Tryz.ntmps74
 go_wp2_with fail
 refine HMD.out.mono ?_
 rintro e w1 ⟨rfl, rfl⟩
 go_wp2_with fail
 go_end0
 exact ⟨rfl, _, _, HN.out, rfl, fun b hb => hb.1, HK.out⟩
namespace Pure
structure Cfg where
 server : Bool
 name : List UInt8
 secret : List UInt8
 mru : Int
 pfc : Bool
 acfc : Bool
 accm : Nat
 mrru : Int
 short : Bool
 bits : Int
 stateless : Bool
 mppc : Bool
 deflate : Bool
 must : Bool
 symbol : Bool
 timeout : Int
 tries : Int
 fragment : Int
def inInfo (lo x : Int) : Bool := decide (lo ≤ x) && decide (x ≤ 1500)
def Cfg.fine (c : Cfg) : Bool :=
 inInfo 64 c.mru && (decide (c.mrru = 0) || inInfo 64 c.mrru) && (decide (c.bits = 0) || decide (c.bits = 40) || decide (c.bits = 56) || decide (c.bits = 128)) &&
  (decide (1 ≤ c.timeout) && decide (c.timeout ≤ 1000)) && (decide (1 ≤ c.tries) && decide (c.tries ≤ 1000)) &&
  (decide (c.fragment = 0) || inInfo 16 c.fragment && decide (0 < c.mrru)) && (decide (0 < c.bits) || !(c.must || c.stateless || c.symbol))
def Cfg.check (c : Cfg) : Nat := if 64 < c.name.length then 3 else if (Pure.secret c.secret).1 ≠ 0 then (Pure.secret c.secret).1 else if c.fine then 0 else 1
def proofData : List UInt8 := [194, 35, 129]
def Cfg.ask (c : Cfg) (magic : Nat) : List Opt :=
 (if c.mru = 1500 then [] else [(1, wide c.mru.toNat 2)]) ++ (if c.accm = 4294967295 then [] else [(2, wide c.accm 4)]) ++ (if c.server then [(3, proofData)] else []) ++
  (if magic = 0 then [] else [(5, wide magic 4)]) ++ (if c.pfc then [(7, [])] else []) ++ (if c.acfc then [(8, [])] else []) ++
  (if c.mrru = 0 then [] else [(17, wide c.mrru.toNat 2)]) ++ (if c.mrru = 0 then [] else if c.short then [(18, [])] else [])
def rangeOf (t : Int) : Rule := ⟨t, 2, 2, 64, 1500, [], false⟩
def passOf (t len : Int) : Rule := ⟨t, len, 1, 0, 0, [], false⟩
def proofRule : Rule := ⟨3, 3, 3, 0, 0, proofData, true⟩
def Cfg.rules (c : Cfg) : List Rule :=
 [rangeOf 1, passOf 2 4] ++ (if c.server then [] else [proofRule]) ++ [passOf 5 4] ++ (if c.pfc then [passOf 7 0] else []) ++ (if c.acfc then [passOf 8 0] else []) ++
  (if c.mrru = 0 then [] else [rangeOf 17, passOf 18 0])
structure Vals where
 mru : Nat
 mrru : Nat
 accm : Nat
 auth : Bool
 pfc : Bool
 acfc : Bool
 short : Bool
 magic : Nat
def Vals.plain : Vals := ⟨1500, 0, 4294967295, false, false, false, false, 0⟩
def readOne (v : Vals) (o : Opt) : Vals :=
 if o.1 = 1 ∧ o.2.length = 2 then { v with mru := bnum o.2 }
 else if o.1 = 2 ∧ o.2.length = 4 then { v with accm := bnum o.2 }
 else if o.1 = 3 ∧ o.2 = proofData then { v with auth := true }
 else if o.1 = 5 ∧ o.2.length = 4 then { v with magic := bnum o.2 }
 else if o.1 = 7 ∧ o.2.length = 0 then { v with pfc := true }
 else if o.1 = 8 ∧ o.2.length = 0 then { v with acfc := true }
 else if o.1 = 17 ∧ o.2.length = 2 then { v with mrru := bnum o.2 }
 else if o.1 = 18 ∧ o.2.length = 0 then { v with short := true }
 else v
def readVals (l : List Opt) : Vals := l.foldl readOne Vals.plain
structure Lcp where
 c : Cfg
 n : Neg
structure LSaid where
 said : Said
 reject : Nat
def LSaid.of (o : Said) : LSaid := ⟨o, 0⟩
def newLcp (c : Cfg) (magic : Nat) : Lcp := ⟨c, newNeg c.rules (c.ask magic) c.tries.toNat c.timeout.toNat⟩
def Lcp.with (x : Lcp) (r : Neg × Said) : Lcp × LSaid := ({ x with n := r.1 }, .of r.2)
def Lcp.act (x : Lcp) (e : Int) : Lcp × LSaid := x.with (x.n.act e)
def Lcp.tick (x : Lcp) : Lcp × LSaid := x.with x.n.tick
def Lcp.mine (x : Lcp) : Vals := readVals x.n.mine
def Neg.judgedAs (n : Neg) (p : Pkt) (l : List Opt) (j : Nat × List Opt) : Neg × Said :=
 let s := n.event (if j.1 = 2 then 6 else 7) (some ⟨p, j.1, j.2⟩)
 if j.1 = 2 ∧ (s.1.m.state = 8 ∨ s.1.m.state = 9) then ({ s.1 with theirs := l }, s.2) else s
theorem y6t (n : Neg) (p : Pkt) (l : List Opt) : n.judged p l = n.judgedAs p l (judge n.rules l (decide (n.m.tries ≤ n.naks))) := rfl
def nextMagic (m : Nat) : Nat := if (m + 1) % 4294967296 = 0 then 1 else (m + 1) % 4294967296
def looped (rules : List Rule) (l : List Opt) (rejects : Bool) (m : Nat) : Nat × List Opt :=
 if (judge rules l rejects).1 = 4 then judge rules l rejects else if rejects then (4, [(5, wide m 4)]) else (3, [(5, wide (nextMagic m) 4)])
def Lcp.request (x : Lcp) (p : Pkt) : Neg × Said :=
 if (split p.data).1 ≠ 0 then x.n.drop
 else if (readVals (split x.n.ours).2).magic = 0 ∨ (readVals (split p.data).2).magic ≠ (readVals (split x.n.ours).2).magic then x.n.judged p (split p.data).2
 else x.n.judgedAs p (split p.data).2 (looped x.n.rules (split p.data).2 (decide (x.n.m.tries ≤ x.n.naks)) (readVals (split x.n.ours).2).magic)
def Neg.by (n : Neg) (e : Nat) (p : Pkt) : Neg × Said := n.event e (some ⟨p, 0, []⟩)
def Lcp.input (x : Lcp) (p : Pkt) : Lcp × LSaid :=
 if x.n.m.state ≤ 1 then x.with x.n.drop
 else if p.code = 1 then x.with (x.request p)
 else if p.code = 8 then
  (if x.n.m.state ≠ 9 ∨ p.data.length < 2 then x.with x.n.drop
  else if bnum (p.data.take 2) = 49185 then x.with (x.n.by 14 p)
  else ({ x with n := (x.n.by 13 p).1 }, ⟨(x.n.by 13 p).2, bnum (p.data.take 2)⟩))
 else if p.code = 9 then
  (if p.data.length < 4 then x.with x.n.drop
  else if x.n.m.state = 9 then ({ x with n := (x.n.by 15 p).1 }, .of ((x.n.by 15 p).2.more ⟨10, p.id, wide x.mine.magic 4 ++ p.data.drop 4⟩))
  else x.with (x.n.by 15 p))
 else if p.code = 10 ∨ p.code = 11 then (if x.n.m.state = 9 then (x, .of mute) else x.with x.n.drop)
 else x.with (x.n.input p)
end Pure
namespace Pure
def psize (k : Int) : Nat := if k = 1 then 2 else if k = 17 then 2 else if k = 3 then 3 else if k = 2 then 4 else if k = 5 then 4 else 0
theorem psize_le (k : Int) : psize k ≤ 4 := by
 unfold psize
 split
 ·omega
 split
 ·omega
 split
 ·omega
 split
 ·omega
 split <;> omega
end Pure
theorem y5m (k : Int) (w : World) : Calls Tryz.prog 58 #[.int .i64 k] w fun e w' => e = .returned (.int .i64 (Pure.psize k : Int)) ∧ w = w' := by
 by_cases h1 : k = 1
 ·subst h1
  go_enter Tryz.func58, Tryz.ntmps58
  go_wp2_with fail
  go_ret
  exact ⟨rfl, rfl⟩
 by_cases h2 : k = 17
 ·subst h2
  go_enter Tryz.func58, Tryz.ntmps58
  go_wp2_with fail
  go_ret
  exact ⟨rfl, rfl⟩
 by_cases h3 : k = 3
 ·subst h3
  go_enter Tryz.func58, Tryz.ntmps58
  go_wp2_with fail
  go_ret
  exact ⟨rfl, rfl⟩
 by_cases h4 : k = 2
 ·subst h4
  go_enter Tryz.func58, Tryz.ntmps58
  go_wp2_with fail
  go_ret
  exact ⟨rfl, rfl⟩
 by_cases h5 : k = 5
 ·subst h5
  go_enter Tryz.func58, Tryz.ntmps58
  go_wp2_with fail
  go_ret
  exact ⟨rfl, rfl⟩
 have b1 : (k == 1) = false := by rw [beq_eq_false_iff_ne]; exact h1
 have b2 : (k == 17) = false := by rw [beq_eq_false_iff_ne]; exact h2
 have b3 : (k == 3) = false := by rw [beq_eq_false_iff_ne]; exact h3
 have b4 : (k == 2) = false := by rw [beq_eq_false_iff_ne]; exact h4
 have b5 : (k == 5) = false := by rw [beq_eq_false_iff_ne]; exact h5
 have HE := xhd (show Pure.psize k = 0 by unfold Pure.psize; rw [if_neg h1, if_neg h2, if_neg h3, if_neg h4, if_neg h5])
 clear h1 h2 h3 h4 h5
 go_enter Tryz.func58, Tryz.ntmps58
 go_wp2_with fail
 go_ret
 exact ⟨by rw [HE.out]; rfl, rfl⟩
theorem y4o (n lo hi : Int) (w : World) : Calls Tryz.prog 109 #[.int .i64 n, .int .i64 lo, .int .i64 hi] w fun e w' => e = .returned (.bool (decide (lo ≤ n) && decide (n ≤ hi))) ∧ w = w' := by
 obtain ⟨b1, h1⟩ : ∃ b, decide (lo ≤ n) = b := ⟨_, rfl⟩
 obtain ⟨b2, h2⟩ : ∃ b, decide (n ≤ hi) = b := ⟨_, rfl⟩
 rw [h1, h2]
 cases b1 <;> cases b2
 all_goals
  go_enter Tryz.func109, Tryz.ntmps109
  go_wp2_with fail
  go_ret
  exact ⟨rfl, rfl⟩
theorem yct (n : Int) (w : World) : Calls Tryz.prog 110 #[.int .i64 n] w fun e w' => e = .returned (.bool (decide (n = 40) || decide (n = 56) || decide (n = 128))) ∧ w = w' := by
 by_cases h1 : n = 40
 ·subst h1
  go_enter Tryz.func110, Tryz.ntmps110
  go_wp2_with fail
  go_ret
  exact ⟨rfl, rfl⟩
 by_cases h2 : n = 56
 ·subst h2
  go_enter Tryz.func110, Tryz.ntmps110
  go_wp2_with fail
  go_ret
  exact ⟨rfl, rfl⟩
 by_cases h3 : n = 128
 ·subst h3
  go_enter Tryz.func110, Tryz.ntmps110
  go_wp2_with fail
  go_ret
  exact ⟨rfl, rfl⟩
 have b1 : (n == 40) = false := by rw [beq_eq_false_iff_ne]; exact h1
 have b2 : (n == 56) = false := by rw [beq_eq_false_iff_ne]; exact h2
 have b3 : (n == 128) = false := by rw [beq_eq_false_iff_ne]; exact h3
 have HE := xhd (show (decide (n = 40) || decide (n = 56) || decide (n = 128)) = false by simp [h1, h2, h3])
 clear h1 h2 h3
 go_enter Tryz.func110, Tryz.ntmps110
 go_wp2_with fail
 go_ret
 exact ⟨by rw [HE.out]; rfl, rfl⟩
theorem lnext_any (m : Nat) (hm : m < 4294967296) (w : World) : Calls Tryz.prog 123 #[.int .u32 (m : Int)] w fun e w' => e = .returned (.int .u32 (Pure.nextMagic m : Nat)) ∧ w = w' := by
 by_cases h : m = 4294967295
 ·subst h
  go_enter Tryz.func123, Tryz.ntmps123
  go_wp2_with fail
  go_ret
  exact ⟨rfl, rfl⟩
 ·have e1 : IntKind.u32.wrap ((m : Int) + 1) = (m : Int) + 1 := by show ((m : Int) + 1) % 4294967296 = _; omega
  have HE := xhd (show ((Pure.nextMagic m : Nat) : Int) = (m : Int) + 1 by unfold Pure.nextMagic; rw [if_neg (by omega)]; omega)
  clear h
  go_enter Tryz.func123, Tryz.ntmps123
  go_wp2_with fail
  go_ret
  refine ⟨?_, rfl⟩
  rw [HE.out]
  show Ending.returned (Value.int IntKind.u32 _) = _
  congr 2
  first | omega | (split at * <;> omega) | trace_state
theorem y5f (k : Int) (x : Nat) (hx : x < 4294967296) (w : World) :
  Calls Tryz.prog 52 #[.int .i64 k, .int .i64 (x : Int)] w fun e w' => ∃ A c, e = .returned (.agg #[.int .i64 k, .slice A (Pure.psize k) c]) ∧ Row w' (fun b => w.heap.size ≤ b) 1 (.slice A (Pure.psize k) c) (Pure.psize k) (u8s (Pure.wide x (Pure.psize k))) ∧ Keeps y01 w w' := by
 obtain ⟨n, hn⟩ : ∃ n, n = Pure.psize k := ⟨_, rfl⟩
 have HSZ := xhd (fun W => hn ▸ y5m k W)
 have HEN := xhd (fun W => y75 x n W (by rw [hn]; exact Pure.psize_le k) hx)
 rw [← hn]
 have HI := xhd y8x
 clear hn hx
 obtain ⟨g, hg⟩ : ∃ g, g = w.heap.size := ⟨_, rfl⟩
 go_enter Tryz.func52, Tryz.ntmps52
 go_upto_region 1 with fail
 generalize hw1 : w.alloc _ = w1
 rw [← hg]
 have HK := xhd (show Keeps y01 w w1 by rw [← hw1]; exact (Keeps.refl y01 w).alloc _)
 have HB := xhd (show Blk w1 g 31 #[.int .i64 0, .slice none 0 0] by rw [← hw1, hg]; exact Blk.new w _ _)
 have HG := xhd hg
 have hs := HSZ.out w1
 clear hw1 hg
 go_wp2_with fail
 refine hs.mono ?_
 rintro e w2 ⟨rfl, rfl⟩
 have he := HEN.out w1
 clear hs
 go_wp2_with fail
 refine he.mono ?_
 rintro e w2 ⟨A, c, rfl, hr, hk2⟩
 have hB := HB.out.keeps hk2 (fun h => h)
 have o0 : w2.cell? ⟨g, 0, none⟩ = some (.int .i64 0) := by rw [hB.cell]; rfl
 have o1 : w2.cell? ⟨g, 1, none⟩ = some (.slice none 0 0) := by rw [hB.cell]; rfl
 have f0 := hB.frozen 0
 have f1 := hB.frozen 1
 have HZ := xhd ((hB.set 0 (.int .i64 k)).set 1 (.slice A n c))
 have KS := ((Keeps.refl (only g) w2).put 0 (.int .i64 k)).put 1 (.slice A n c)
 have HR := xhd (hr.keeps KS (fun b hb e => by have e : b = g := e; have := HB.out.lt; omega))
 have HRB := xhd (show ∀ b, w1.heap.size ≤ b → w.heap.size ≤ b from fun b hb => Nat.le_trans HK.out.size hb)
 have HKS := xhd (show Keeps y01 w _ from (HK.out.trans hk2).trans' KS (fun i hi hl => by have e : i = g := hi; have := HG.out; omega))
 clear hB KS hr hk2 he
 go_wp2_with fail
 refine bodyPost_ret (y07 rfl _ _ g 31 _ (0, 0) _ rfl HZ.out Tryz.underlying31 rfl (by rw [HI.out]; rfl)) rfl ?_
 exact ⟨A, c, rfl, HR.out.mono HRB.out, HKS.out⟩
namespace Pure
def statedP (v : Vals) (k : Int) (n : Nat) : Vals :=
 if k = 1 then { v with mru := n }
 else if k = 2 then { v with accm := n }
 else if k = 3 then { v with auth := v.auth || decide (n = 12723073) }
 else if k = 5 then { v with magic := n }
 else if k = 7 then { v with pfc := true }
 else if k = 8 then { v with acfc := true }
 else if k = 17 then { v with mrru := n }
 else if k = 18 then { v with short := true }
 else v
theorem yat {l : List UInt8} (h : l.length = 3) : bnum l = 12723073 ↔ l = proofData := by
 obtain ⟨a, l, rfl⟩ := List.exists_cons_of_length_eq_add_one h
 obtain ⟨b, l, rfl⟩ := List.exists_cons_of_length_eq_add_one (show l.length = 1 + 1 by simpa using h)
 obtain ⟨c, l, rfl⟩ := List.exists_cons_of_length_eq_add_one (show l.length = 0 + 1 by simpa using h)
 obtain rfl : l = [] := List.eq_nil_of_length_eq_zero (by simpa using h)
 have ha := a.toNat_lt
 have hb := b.toNat_lt
 have hc := c.toNat_lt
 have e : bnum [a, b, c] = (a.toNat * 256 + b.toNat) * 256 + c.toNat := by simp [bnum]
 rw [e]
 constructor
 ·intro h
  have h1 : a.toNat = 194 := by omega
  have h2 : b.toNat = 35 := by omega
  have h3 : c.toNat = 129 := by omega
  have h1 : a = 194 := UInt8.toNat_inj.1 h1
  have h2 : b = 35 := UInt8.toNat_inj.1 h2
  have h3 : c = 129 := UInt8.toNat_inj.1 h3
  rw [h1, h2, h3]; rfl
 ·intro h
  have h : [a, b, c] = [194, 35, 129] := h
  simp only [List.cons.injEq, and_true] at h
  obtain ⟨h1, h2, h3⟩ := h
  have e1 : a.toNat = 194 := by rw [h1]; rfl
  have e2 : b.toNat = 35 := by rw [h2]; rfl
  have e3 : c.toNat = 129 := by rw [h3]; rfl
  omega
theorem readOne_stated (v : Vals) (o : Opt) : readOne v o = if o.2.length = psize o.1 then statedP v o.1 (bnum o.2) else v := by
 obtain ⟨k, l⟩ := o
 dsimp only
 unfold readOne
 dsimp only
 by_cases h1 : k = 1
 ·subst h1
  by_cases hl : l.length = 2
  ·rw [if_pos ⟨rfl, hl⟩, if_pos (show l.length = psize 1 from hl)]; simp [statedP]
  ·rw [if_neg (fun e => hl e.2), if_neg (show ¬ l.length = psize 1 from hl)]; simp
 rw [if_neg (fun e => h1 e.1)]
 by_cases h2 : k = 2
 ·subst h2
  by_cases hl : l.length = 4
  ·rw [if_pos ⟨rfl, hl⟩, if_pos (show l.length = psize 2 from hl)]; simp [statedP]
  ·rw [if_neg (fun e => hl e.2), if_neg (show ¬ l.length = psize 2 from hl)]; simp
 rw [if_neg (fun e => h2 e.1)]
 by_cases h3 : k = 3
 ·subst h3
  by_cases hl : l.length = 3
  ·have e3 : statedP v 3 (bnum l) = { v with auth := v.auth || decide (bnum l = 12723073) } := by simp [statedP]
   rw [if_pos (show l.length = psize 3 from hl), e3]
   by_cases hp : l = proofData
   ·rw [if_pos ⟨rfl, hp⟩, decide_eq_true ((yat hl).2 hp)]; simp
   ·rw [if_neg (fun e => hp e.2), decide_eq_false (fun e => hp ((yat hl).1 e))]; simp
  ·rw [if_neg (fun e => hl (by rw [e.2]; rfl)), if_neg (show ¬ l.length = psize 3 from hl)]; simp
 rw [if_neg (fun e => h3 e.1)]
 by_cases h5 : k = 5
 ·subst h5
  by_cases hl : l.length = 4
  ·rw [if_pos ⟨rfl, hl⟩, if_pos (show l.length = psize 5 from hl)]; simp [statedP]
  ·rw [if_neg (fun e => hl e.2), if_neg (show ¬ l.length = psize 5 from hl)]; simp
 rw [if_neg (fun e => h5 e.1)]
 by_cases h7 : k = 7
 ·subst h7
  by_cases hl : l.length = 0
  ·rw [if_pos ⟨rfl, hl⟩, if_pos (show l.length = psize 7 from hl)]; simp [statedP]
  ·rw [if_neg (fun e => hl e.2), if_neg (show ¬ l.length = psize 7 from hl)]; simp
 rw [if_neg (fun e => h7 e.1)]
 by_cases h8 : k = 8
 ·subst h8
  by_cases hl : l.length = 0
  ·rw [if_pos ⟨rfl, hl⟩, if_pos (show l.length = psize 8 from hl)]; simp [statedP]
  ·rw [if_neg (fun e => hl e.2), if_neg (show ¬ l.length = psize 8 from hl)]; simp
 rw [if_neg (fun e => h8 e.1)]
 by_cases h17 : k = 17
 ·subst h17
  by_cases hl : l.length = 2
  ·rw [if_pos ⟨rfl, hl⟩, if_pos (show l.length = psize 17 from hl)]; simp [statedP]
  ·rw [if_neg (fun e => hl e.2), if_neg (show ¬ l.length = psize 17 from hl)]; simp
 rw [if_neg (fun e => h17 e.1)]
 by_cases h18 : k = 18
 ·subst h18
  by_cases hl : l.length = 0
  ·rw [if_pos ⟨rfl, hl⟩, if_pos (show l.length = psize 18 from hl)]; simp [statedP]
  ·rw [if_neg (fun e => hl e.2), if_neg (show ¬ l.length = psize 18 from hl)]
 rw [if_neg (fun e => h18 e.1)]
 unfold statedP
 rw [if_neg h1, if_neg h2, if_neg h3, if_neg h5, if_neg h7, if_neg h8, if_neg h17, if_neg h18]
 split <;> rfl
theorem readVals_snoc (l : List Opt) (o : Opt) : readVals (l ++ [o]) = readOne (readVals l) o := by unfold readVals; rw [List.foldl_append]; rfl
end Pure
abbrev y0j (v : Pure.Vals) : List Value := [.int .i64 (v.mru : Int), .int .i64 (v.mrru : Int), .int .u32 (v.accm : Int), .bool v.auth, .bool v.pfc, .bool v.acfc, .bool v.short, .int .u32 (v.magic : Int)]
abbrev y0n (v : Pure.Vals) : Value := .agg (y0j v).toArray
theorem y1s : (Tryz.prog.info? 39).map (·.size) = some 8 := by kernel_rfl
theorem stated_1 (v : Pure.Vals) (n : Nat) (_ : n < 4294967296) (w : World) :
  Calls Tryz.prog 59 #[y0n v, .int .i64 1, .int .i64 (n : Int)] w fun e w' => e = .returned (y0n { v with mru := n }) ∧ Keeps y01 w w' := by
 have HI := xhd y1s
 obtain ⟨vb, hvb⟩ : ∃ q, q = w.heap.size := ⟨_, rfl⟩
 obtain ⟨w1, hw1⟩ : ∃ q, q = (w.alloc (.cells (y0j v).toArray 39)).alloc (.cells #[.int .i64 0, .int .i64 0, .int .u32 0, .bool false, .bool false, .bool false, .bool false, .int .u32 0] 39) := ⟨_, rfl⟩
 have hk1 : Keeps y01 w w1 := by rw [hw1]; exact ((Keeps.refl _ w).alloc _).alloc _
 have hV : Blk w1 vb 39 (y0j v).toArray := by rw [hw1, hvb]; exact (Blk.new w _ _).alloc _
 have hO : Blk w1 (vb + 1) 39 #[.int .i64 0, .int .i64 0, .int .u32 0, .bool false, .bool false, .bool false, .bool false, .int .u32 0] := by
  rw [hw1, show vb + 1 = (w.alloc (.cells (y0j v).toArray 39)).heap.size by rw [hvb]; simp]
  exact Blk.new _ _ _
 have z0 : w1.cell? ⟨vb, 0, none⟩ = some (.int .i64 (v.mru : Int)) := by rw [hV.cell]; rfl
 have f0 := hV.frozen 0
 obtain ⟨wq, hwq⟩ : ∃ q, q = w1.setCell ⟨vb, 0, none⟩ (.int .i64 (n : Int)) := ⟨_, rfl⟩
 have KQ : Keeps (only vb) w1 wq := by rw [hwq]; exact (Keeps.refl (only vb) w1).put 0 _
 have HVQ := xhd (show Blk wq vb 39 (y0j { v with mru := n }).toArray by rw [hwq]; exact hV.set 0 _)
 have HOQ := xhd (hO.keeps KQ (fun e => by have e : vb + 1 = vb := e; omega))
 have HKQ := xhd (hk1.trans' KQ (fun i hi hl => by have e : i = vb := hi; omega))
 have HVB := xhd hvb
 clear hk1 hV hO KQ
 go_enter Tryz.func59, Tryz.ntmps59
 go_upto_region 1 with fail
 rw [← hvb]
 rw [← hw1]
 clear hw1 hvb
 go_upto_region 18 with fail
 rw [← hwq]
 clear hwq
 have y0 : wq.cell? ⟨vb, 0, none⟩ = some (.int .i64 (n : Int)) := by rw [HVQ.out.cell]; rfl
 have y1 : wq.cell? ⟨vb, 1, none⟩ = some (.int .i64 (v.mrru : Int)) := by rw [HVQ.out.cell]; rfl
 have y2 : wq.cell? ⟨vb, 2, none⟩ = some (.int .u32 (v.accm : Int)) := by rw [HVQ.out.cell]; rfl
 have y3 : wq.cell? ⟨vb, 3, none⟩ = some (.bool v.auth) := by rw [HVQ.out.cell]; rfl
 have y4 : wq.cell? ⟨vb, 4, none⟩ = some (.bool v.pfc) := by rw [HVQ.out.cell]; rfl
 have y5 : wq.cell? ⟨vb, 5, none⟩ = some (.bool v.acfc) := by rw [HVQ.out.cell]; rfl
 have y6 : wq.cell? ⟨vb, 6, none⟩ = some (.bool v.short) := by rw [HVQ.out.cell]; rfl
 have y7 : wq.cell? ⟨vb, 7, none⟩ = some (.int .u32 (v.magic : Int)) := by rw [HVQ.out.cell]; rfl
 have o0 : wq.cell? ⟨vb + 1, 0, none⟩ = some (.int .i64 0) := by rw [HOQ.out.cell]; rfl
 have p0 := HOQ.out.frozen 0
 have o1 : wq.cell? ⟨vb + 1, 1, none⟩ = some (.int .i64 0) := by rw [HOQ.out.cell]; rfl
 have p1 := HOQ.out.frozen 1
 have o2 : wq.cell? ⟨vb + 1, 2, none⟩ = some (.int .u32 0) := by rw [HOQ.out.cell]; rfl
 have p2 := HOQ.out.frozen 2
 have o3 : wq.cell? ⟨vb + 1, 3, none⟩ = some (.bool false) := by rw [HOQ.out.cell]; rfl
 have p3 := HOQ.out.frozen 3
 have o4 : wq.cell? ⟨vb + 1, 4, none⟩ = some (.bool false) := by rw [HOQ.out.cell]; rfl
 have p4 := HOQ.out.frozen 4
 have o5 : wq.cell? ⟨vb + 1, 5, none⟩ = some (.bool false) := by rw [HOQ.out.cell]; rfl
 have p5 := HOQ.out.frozen 5
 have o6 : wq.cell? ⟨vb + 1, 6, none⟩ = some (.bool false) := by rw [HOQ.out.cell]; rfl
 have p6 := HOQ.out.frozen 6
 have o7 : wq.cell? ⟨vb + 1, 7, none⟩ = some (.int .u32 0) := by rw [HOQ.out.cell]; rfl
 have p7 := HOQ.out.frozen 7
 have HZ := xhd ((((((((HOQ.out.set 0 (.int .i64 (n : Int))).set 1 (.int .i64 (v.mrru : Int))).set 2 (.int .u32 (v.accm : Int))).set 3 (.bool v.auth)).set 4 (.bool v.pfc)).set 5 (.bool v.acfc)).set 6 (.bool v.short)).set 7 (.int .u32 (v.magic : Int)))
 have HKF := xhd (HKQ.out.trans' (((((((((Keeps.refl (only (vb + 1)) wq).put 0 (.int .i64 (n : Int))).put 1 (.int .i64 (v.mrru : Int))).put 2 (.int .u32 (v.accm : Int))).put 3 (.bool v.auth)).put 4 (.bool v.pfc)).put 5 (.bool v.acfc)).put 6 (.bool v.short)).put 7 (.int .u32 (v.magic : Int))) (fun i hi hl => by have e : i = vb + 1 := hi; have := HVB.out; omega))
 go_wp2_with fail
 refine bodyPost_ret (y07 rfl _ _ (vb + 1) 39 _ (0, 0) _ rfl HZ.out Tryz.underlying39 rfl (by rw [HI.out]; rfl)) rfl ?_
 exact ⟨rfl, HKF.out⟩
theorem stated_2 (v : Pure.Vals) (n : Nat) (hn : n < 4294967296) (w : World) :
  Calls Tryz.prog 59 #[y0n v, .int .i64 2, .int .i64 (n : Int)] w fun e w' => e = .returned (y0n { v with accm := n }) ∧ Keeps y01 w w' := by
 have HI := xhd y1s
 obtain ⟨vb, hvb⟩ : ∃ q, q = w.heap.size := ⟨_, rfl⟩
 obtain ⟨w1, hw1⟩ : ∃ q, q = (w.alloc (.cells (y0j v).toArray 39)).alloc (.cells #[.int .i64 0, .int .i64 0, .int .u32 0, .bool false, .bool false, .bool false, .bool false, .int .u32 0] 39) := ⟨_, rfl⟩
 have hk1 : Keeps y01 w w1 := by rw [hw1]; exact ((Keeps.refl _ w).alloc _).alloc _
 have hV : Blk w1 vb 39 (y0j v).toArray := by rw [hw1, hvb]; exact (Blk.new w _ _).alloc _
 have hO : Blk w1 (vb + 1) 39 #[.int .i64 0, .int .i64 0, .int .u32 0, .bool false, .bool false, .bool false, .bool false, .int .u32 0] := by
  rw [hw1, show vb + 1 = (w.alloc (.cells (y0j v).toArray 39)).heap.size by rw [hvb]; simp]
  exact Blk.new _ _ _
 have z2 : w1.cell? ⟨vb, 2, none⟩ = some (.int .u32 (v.accm : Int)) := by rw [hV.cell]; rfl
 have f2 := hV.frozen 2
 have e1 : IntKind.u32.wrap (n : Int) = (n : Int) := by show (n : Int) % 4294967296 = _; omega
 obtain ⟨wq, hwq⟩ : ∃ q, q = w1.setCell ⟨vb, 2, none⟩ (.int .u32 (n : Int)) := ⟨_, rfl⟩
 have KQ : Keeps (only vb) w1 wq := by rw [hwq]; exact (Keeps.refl (only vb) w1).put 2 _
 have HVQ := xhd (show Blk wq vb 39 (y0j { v with accm := n }).toArray by rw [hwq]; exact hV.set 2 _)
 have HOQ := xhd (hO.keeps KQ (fun e => by have e : vb + 1 = vb := e; omega))
 have HKQ := xhd (hk1.trans' KQ (fun i hi hl => by have e : i = vb := hi; omega))
 have HVB := xhd hvb
 clear hk1 hV hO KQ hn
 go_enter Tryz.func59, Tryz.ntmps59
 go_upto_region 1 with fail
 rw [← hvb]
 rw [← hw1]
 clear hw1 hvb
 go_upto_region 18 with fail
 rw [← hwq]
 clear hwq
 have y0 : wq.cell? ⟨vb, 0, none⟩ = some (.int .i64 (v.mru : Int)) := by rw [HVQ.out.cell]; rfl
 have y1 : wq.cell? ⟨vb, 1, none⟩ = some (.int .i64 (v.mrru : Int)) := by rw [HVQ.out.cell]; rfl
 have y2 : wq.cell? ⟨vb, 2, none⟩ = some (.int .u32 (n : Int)) := by rw [HVQ.out.cell]; rfl
 have y3 : wq.cell? ⟨vb, 3, none⟩ = some (.bool v.auth) := by rw [HVQ.out.cell]; rfl
 have y4 : wq.cell? ⟨vb, 4, none⟩ = some (.bool v.pfc) := by rw [HVQ.out.cell]; rfl
 have y5 : wq.cell? ⟨vb, 5, none⟩ = some (.bool v.acfc) := by rw [HVQ.out.cell]; rfl
 have y6 : wq.cell? ⟨vb, 6, none⟩ = some (.bool v.short) := by rw [HVQ.out.cell]; rfl
 have y7 : wq.cell? ⟨vb, 7, none⟩ = some (.int .u32 (v.magic : Int)) := by rw [HVQ.out.cell]; rfl
 have o0 : wq.cell? ⟨vb + 1, 0, none⟩ = some (.int .i64 0) := by rw [HOQ.out.cell]; rfl
 have p0 := HOQ.out.frozen 0
 have o1 : wq.cell? ⟨vb + 1, 1, none⟩ = some (.int .i64 0) := by rw [HOQ.out.cell]; rfl
 have p1 := HOQ.out.frozen 1
 have o2 : wq.cell? ⟨vb + 1, 2, none⟩ = some (.int .u32 0) := by rw [HOQ.out.cell]; rfl
 have p2 := HOQ.out.frozen 2
 have o3 : wq.cell? ⟨vb + 1, 3, none⟩ = some (.bool false) := by rw [HOQ.out.cell]; rfl
 have p3 := HOQ.out.frozen 3
 have o4 : wq.cell? ⟨vb + 1, 4, none⟩ = some (.bool false) := by rw [HOQ.out.cell]; rfl
 have p4 := HOQ.out.frozen 4
 have o5 : wq.cell? ⟨vb + 1, 5, none⟩ = some (.bool false) := by rw [HOQ.out.cell]; rfl
 have p5 := HOQ.out.frozen 5
 have o6 : wq.cell? ⟨vb + 1, 6, none⟩ = some (.bool false) := by rw [HOQ.out.cell]; rfl
 have p6 := HOQ.out.frozen 6
 have o7 : wq.cell? ⟨vb + 1, 7, none⟩ = some (.int .u32 0) := by rw [HOQ.out.cell]; rfl
 have p7 := HOQ.out.frozen 7
 have HZ := xhd ((((((((HOQ.out.set 0 (.int .i64 (v.mru : Int))).set 1 (.int .i64 (v.mrru : Int))).set 2 (.int .u32 (n : Int))).set 3 (.bool v.auth)).set 4 (.bool v.pfc)).set 5 (.bool v.acfc)).set 6 (.bool v.short)).set 7 (.int .u32 (v.magic : Int)))
 have HKF := xhd (HKQ.out.trans' (((((((((Keeps.refl (only (vb + 1)) wq).put 0 (.int .i64 (v.mru : Int))).put 1 (.int .i64 (v.mrru : Int))).put 2 (.int .u32 (n : Int))).put 3 (.bool v.auth)).put 4 (.bool v.pfc)).put 5 (.bool v.acfc)).put 6 (.bool v.short)).put 7 (.int .u32 (v.magic : Int))) (fun i hi hl => by have e : i = vb + 1 := hi; have := HVB.out; omega))
 go_wp2_with fail
 refine bodyPost_ret (y07 rfl _ _ (vb + 1) 39 _ (0, 0) _ rfl HZ.out Tryz.underlying39 rfl (by rw [HI.out]; rfl)) rfl ?_
 exact ⟨rfl, HKF.out⟩
end Go.Proofs.YtmgicbckgpdkcaaGreatDoor
