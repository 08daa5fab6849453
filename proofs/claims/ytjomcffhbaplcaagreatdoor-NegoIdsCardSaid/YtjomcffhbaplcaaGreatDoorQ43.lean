/- Package nego: Input. -/
import Derived.Test.YtjomcffhbaplcaaGreatDoorQ41
import Derived.Test.YtjomcffhbaplcaaGreatDoorQ42
import Derived.Test.YtjomcffhbaplcaaGreatDoorQ40
namespace Go.Proofs.YtjomcffhbaplcaaGreatDoor
open Go.RowKit
/-- A packet that is dropped is counted. -/
theorem NObj.dropsOne {w w' : World} {g : Nat} {R : Nat → Prop} {f : NF} {n : Pure.Neg} (h : NObj w g R f n) (k : Keeps (only g) w w') (hb : NBlk w' g { f with dropped := f.dropped + 1 }) : NObj w' g (Later w w' R) { f with dropped := f.dropped + 1 } { n with dropped := n.dropped + 1 } :=
  h.turn k hb ⟨h.well.good, h.well.tries, h.well.timeout, h.well.id, h.well.first, h.well.request, h.well.asked, h.well.ours⟩ rfl rfl rfl rfl rfl h.e2 h.e3 h.e4 h.e5 (by show f.dropped + 1 = n.dropped + 1; rw [h.e6]) (h.first.later k h.ng h.lt) (h.request.later k h.ng h.lt) (h.aopts.later k h.ng h.lt) (h.mine.later k h.ng h.lt) (h.given.later k h.ng h.lt)
set_option maxRecDepth 100000 in
set_option maxHeartbeats 8000000 in
theorem input_drops (F R : Nat → Prop) (g : Nat) (f : NF) (n : Pure.Neg) (d : Value) (p : Pure.Pkt) (a : Addr) (w : World) (hg : Handle w) (hs : SentAt w a) (h : NObj w g R f n) (hF : ∀ b, F b → b < w.heap.size) (hd : Row w F 1 d p.data.length (u8s p.data)) (hr : n.refuses p) (hdr : n.dropped ≤ 1000000) :
    Calls Tryz.prog 15 #[.pointer (some ⟨g, 0, none⟩), pktV p d] w fun e w' => ∃ v, e = .returned v ∧ Outs w w' v (n.input p).2 ∧ Becomes w w' g R f (n.input p).1 := by
  have HIN := Lib.hid (Pure.input_refused h.well hr)
  rw [HIN.out]
  have HI := Lib.hid out_info
  obtain ⟨DA, dc, rfl, _⟩ := hd.form
  have hgl := h.blk.lt
  have hml := Blk.lt h.mach
  have hgs := hs.lt
  obtain ⟨rp, hrp⟩ : ∃ q, q = w.heap.size := ⟨_, rfl⟩
  obtain ⟨pc, pi, pd⟩ := p
  dsimp only at hd ⊢
  obtain ⟨w1, hw1⟩ : ∃ q, q = (w.alloc (.cells #[.int .i64 pc, .int .i64 pi, .slice DA pd.length dc] 40)).alloc (.cells #[.slice none 0 0, .bool false, .bool false, .bool false, .bool false] 37) := ⟨_, rfl⟩
  have hk1 : Keeps nobody w w1 := by rw [hw1]; exact ((Keeps.refl _ w).alloc _).alloc _
  have hP : Blk w1 rp 40 #[.int .i64 pc, .int .i64 pi, .slice DA pd.length dc] := by rw [hw1, hrp]; exact (Blk.new w _ _).alloc _
  have hO : Blk w1 (rp + 1) 37 #[.slice none 0 0, .bool false, .bool false, .bool false, .bool false] := by
    rw [hw1, show rp + 1 = (w.alloc (.cells #[.int .i64 pc, .int .i64 pi, .slice DA pd.length dc] 40)).heap.size by rw [hrp]; simp]
    exact Blk.new _ _ _
  have p0 : w1.cell? ⟨rp, 0, none⟩ = some (.int .i64 pc) := by rw [hP.cell]; rfl
  have p1 : w1.cell? ⟨rp, 1, none⟩ = some (.int .i64 pi) := by rw [hP.cell]; rfl
  have p2 : w1.cell? ⟨rp, 2, none⟩ = some (.slice DA pd.length dc) := by rw [hP.cell]; rfl
  have H1 := Lib.hid (h.keeps hk1 (fun h => h) (fun h => h) (fun _ _ h => h))
  have HAC := Lib.hid (accept_any F R g f n _ ⟨pc, pi, pd⟩ w1 (hg.keeps hk1 (fun h => h)) H1.out (fun b hb => Nat.lt_of_lt_of_le (hF b hb) hk1.size) (hd.keeps hk1 (fun _ _ h => h)))
  have HMD := Lib.hid (nmade_any g f w1 H1.out.blk)
  have HS1 := Lib.hid (hs.keeps hk1 (fun h => h))
  have HO := Lib.hid hO
  have HK1 := Lib.hid hk1
  have HRP := Lib.hid hrp
  have HRL := Lib.hid (show ∀ b, R b → b < rp by rw [hrp]; exact h.lt)
  have HGL := Lib.hid (show g < rp by omega)
  have HML := Lib.hid (show f.gm < rp by omega)
  have HRF := Lib.hid hr
  have hDR : f.dropped ≤ 1000000 := by rw [h.e6]; exact hdr
  have HDR := Lib.hid hDR
  clear hk1 hP hO h hg hs hF hd hr hdr hgl hml hgs hDR
  go_enter Tryz.func15, Tryz.ntmps15
  go_upto_region 1 with fail
  rw [← hrp]
  rw [← hw1]
  clear hw1 hrp
  go_wp2_with fail
  refine HMD.out.mono ?_
  rintro e w2 ⟨rfl, rfl⟩
  go_wp2_with fail
  refine HAC.out.mono ?_
  rintro e w2 (⟨_, v, rfl, ⟨b, k, rfl, hv⟩, hk2⟩ | ⟨hno, _⟩)
  case inr => exact absurd HRF.out hno
  have hs2 := HS1.out.keeps hk2 (fun h => h)
  have g0 : w2.cell? ⟨0, 0, none⟩ = some (.iface 187 (.pointer (some a))) := hs2
  have HDI := Lib.hid (drop_is b k a w2 hs2 hv)
  have HN2 := Lib.hid (H1.out.keeps hk2 (fun h => h) (fun h => h) (fun _ _ h => h))
  have HO2 := Lib.hid (HO.out.keeps hk2 (fun h => h))
  have HK2 := Lib.hid (HK1.out.trans hk2)
  clear hs2 hv hk2 HAC HMD H1 HO p0 p1 p2
  go_wp2_with fail
  refine HDI.out.mono ?_
  rintro e w3 ⟨rfl, hk3⟩
  have HN3 := Lib.hid (HN2.out.keeps hk3 (fun h => h) (fun h => h) (fun _ _ h => h))
  have HO3 := Lib.hid (HO2.out.keeps hk3 (fun h => h))
  have HK3 := Lib.hid (HK2.out.trans hk3)
  have hN3 : Blk w3 g 77 f.list.toArray := HN3.out.blk
  have c12 : w3.cell? ⟨g, 13, none⟩ = some (.int .i64 (f.dropped : Int)) := by rw [hN3.cell]; rfl
  have f12 := hN3.frozen 13
  have e1 : wrap64 ((f.dropped : Int) + 1) = ((f.dropped + 1 : Nat) : Int) := by rw [IntWalk.wrap64_in _ (by have := HDR.out; omega)]; omega
  have HB4 := Lib.hid (show NBlk (w3.setCell ⟨g, 13, none⟩ (.int .i64 ((f.dropped + 1 : Nat) : Int))) g { f with dropped := f.dropped + 1 } from hN3.set 13 _)
  have HKG := Lib.hid (show Keeps (only g) w3 (w3.setCell ⟨g, 13, none⟩ (.int .i64 ((f.dropped + 1 : Nat) : Int))) from (Keeps.refl (only g) w3).put 13 _)
  obtain ⟨nd, hnd⟩ : ∃ q, q = ((f.dropped + 1 : Nat) : Int) := ⟨_, rfl⟩
  rw [← hnd] at e1 HB4 HKG
  clear hnd hk3 hN3 HDI HN2 HO2 HK2 g0
  go_upto_region 6 with fail
  generalize hw4 : World.setCell w3 ⟨g, 13, none⟩ _ = w4 at HB4 HKG ⊢
  have hO4 := HO3.out.keeps HKG.out (fun e => by have e : rp + 1 = g := e; have := HGL.out; omega)
  have z0 : w4.cell? ⟨rp + 1, 0, none⟩ = some (.slice none 0 0) := by rw [hO4.cell]; rfl
  have z1 : w4.cell? ⟨rp + 1, 1, none⟩ = some (.bool false) := by rw [hO4.cell]; rfl
  have z2 : w4.cell? ⟨rp + 1, 2, none⟩ = some (.bool false) := by rw [hO4.cell]; rfl
  have z3 : w4.cell? ⟨rp + 1, 3, none⟩ = some (.bool false) := by rw [hO4.cell]; rfl
  have z4 : w4.cell? ⟨rp + 1, 4, none⟩ = some (.bool false) := by rw [hO4.cell]; rfl
  have f0 := hO4.frozen 0
  have f1 := hO4.frozen 1
  have f2 := hO4.frozen 2
  have f3 := hO4.frozen 3
  have f4 := hO4.frozen 4
  have HZ := Lib.hid (((((hO4.set 0 (.slice none 0 0)).set 1 (.bool false)).set 2 (.bool false)).set 3 (.bool false)).set 4 (.bool false))
  have HKR := Lib.hid ((((((Keeps.refl (only (rp + 1)) w4).put 0 (.slice none 0 0)).put 1 (.bool false)).put 2 (.bool false)).put 3 (.bool false)).put 4 (.bool false))
  have HN4 := Lib.hid (HN3.out.dropsOne HKG.out HB4.out)
  clear hO4 hw4 e1 c12 f12
  go_wp2_with fail
  refine bodyPost_ret (results_row1 rfl _ _ (rp + 1) 37 _ (0, 0) _ rfl HZ.out Tryz.underlying37 rfl (by rw [HI.out]; rfl)) rfl ?_
  refine ⟨_, rfl, ⟨.slice none 0 0, [], rfl, PRow.nil _ _, rfl, by simp⟩, ?_⟩
  have hbg : g ≠ rp + 1 := by have := HGL.out; omega
  have hbm : f.gm ≠ rp + 1 := by have := HML.out; omega
  refine ⟨_, _, HN4.out.keeps HKR.out hbg hbm (fun b hb e => ?_), rfl, fun b hb => hb.1.imp (fun h => h) (fun h => Nat.le_trans HK3.out.size h), ?_⟩
  · have e : b = rp + 1 := e
    subst e
    rcases hb.1 with hb | hb
    · have := HRL.out _ hb; omega
    · have := HO3.out.lt; omega
  · exact (((HK3.out.mono (T := fun b => b = g ∨ b = f.gm) (fun _ h => h.elim)).trans (HKG.out.mono (fun b e => .inl e)))).trans' HKR.out (fun i hi hl => by have e : i = rp + 1 := hi; have := HRP.out; omega)
set_option maxRecDepth 100000 in
set_option maxHeartbeats 8000000 in
theorem input_by (F R : Nat → Prop) (g : Nat) (f : NF) (n : Pure.Neg) (d : Value) (p : Pure.Pkt) (J : Nat × List Pure.Opt) (a : Addr) (w : World) (hg : Handle w) (hs : SentAt w a) (h : NObj w g R f n) (hF : ∀ b, F b → b < w.heap.size ∧ b ≠ g ∧ b ≠ f.gm) (hd : Row w F 1 d p.data.length (u8s p.data)) (hr : ¬ n.refuses p) (hnk : n.naks ≤ 1000)
    (hJ : p.code = 1 → ∀ (Fz : Nat → Prop) (uv : Value) (zs : List (Value × Pure.Opt)) (W : World), NObj W g R f n → Keeps nobody w W → ORow W Fz uv zs → optsOf zs = hears p → JudgedBy f.gm.j W uv (decide (n.m.tries ≤ n.naks)) J) (hfq : p.code = 1 → ∀ qs : List (Value × Pure.Opt), optsOf qs = J.2 → FewOpts qs) :
    Calls Tryz.prog 15 #[.pointer (some ⟨g, 0, none⟩), pktV p d] w fun e w' => ∃ v, e = .returned v ∧ Outs w w' v ((n.heedsBy p J).2.1.eventP (n.heedsBy p J).1 (some (n.heedsBy p J).2.2)).2 ∧ Becomes w w' g R f ((n.heedsBy p J).2.1.eventP (n.heedsBy p J).1 (some (n.heedsBy p J).2.2)).1 := by
  have HI := Lib.hid out_info
  obtain ⟨DA, dc, rfl, _⟩ := hd.form
  have hgl := h.blk.lt
  have hml := Blk.lt h.mach
  have hne := h.ne
  obtain ⟨rp, hrp⟩ : ∃ q, q = w.heap.size := ⟨_, rfl⟩
  obtain ⟨pc, pi, pd⟩ := p
  dsimp only at hd ⊢
  obtain ⟨hm1, hn1, hr1, hp1⟩ := heeds_same n ⟨pc, pi, pd⟩ J
  have HHA0 := Lib.hid (fun (Fz : Nat → Prop) (uv : Value) (zs : List (Value × Pure.Opt)) (W : World) (hW : NObj W g R f n) (hkW : Keeps nobody w W) (hdW : Row W F 1 (.slice DA pd.length dc) pd.length (u8s pd)) (hz : ORow W Fz uv zs) (he : optsOf zs = hears ⟨pc, pi, pd⟩) (hFz : ∀ b, Fz b → b ≠ g) => heed_by R F Fz g f n ⟨pc, pi, pd⟩ J (.slice DA pd.length dc) uv zs W hW hdW hz he hFz hr (fun hc => hJ hc Fz uv zs W hW hkW hz he) hfq)
  have hwell := Pure.heeds_well h.well hr J
  obtain ⟨E, hE⟩ : ∃ q, q = n.heedsBy ⟨pc, pi, pd⟩ J := ⟨_, rfl⟩
  rw [← hE] at HHA0 hm1 hn1 hr1 hp1 hwell ⊢
  clear hE
  obtain ⟨ev, n1, rq, code, rl⟩ := E
  dsimp only at hm1 hn1 hr1 hp1 hwell ⊢
  subst hp1
  unfold Pure.Neg.eventP
  have hpl := Pure.act2_few hwell.good (ev : Int)
  have HGD := Lib.hid (Pure.act2_good hwell.good (ev : Int))
  have HMA0 := Lib.hid (fun (W : World) (R' : Nat → Prop) (f' : NF) (hW : NObj W g R' f' n1) => prog_do_any f'.gm (ev : Int) n1.m W hW.mach hW.well.good hW.well.tries)
  obtain ⟨l, hl⟩ : ∃ l, l = (n1.m.act2 (ev : Int)).1 := ⟨_, rfl⟩
  obtain ⟨m', hm'⟩ : ∃ m', m' = (n1.m.act2 (ev : Int)).2 := ⟨_, rfl⟩
  rw [← hl] at hpl HMA0 ⊢
  rw [← hm'] at HMA0 HGD ⊢
  have HFW := Lib.hid hpl
  clear hl hm' hpl
  obtain ⟨w1, hw1⟩ : ∃ q, q = (w.alloc (.cells #[.int .i64 pc, .int .i64 pi, .slice DA pd.length dc] 40)).alloc (.cells #[.slice none 0 0, .bool false, .bool false, .bool false, .bool false] 37) := ⟨_, rfl⟩
  have hk1 : Keeps nobody w w1 := by rw [hw1]; exact ((Keeps.refl _ w).alloc _).alloc _
  have hP : Blk w1 rp 40 #[.int .i64 pc, .int .i64 pi, .slice DA pd.length dc] := by rw [hw1, hrp]; exact (Blk.new w _ _).alloc _
  have hO : Blk w1 (rp + 1) 37 #[.slice none 0 0, .bool false, .bool false, .bool false, .bool false] := by
    rw [hw1, show rp + 1 = (w.alloc (.cells #[.int .i64 pc, .int .i64 pi, .slice DA pd.length dc] 40)).heap.size by rw [hrp]; simp]
    exact Blk.new _ _ _
  have p0 : w1.cell? ⟨rp, 0, none⟩ = some (.int .i64 pc) := by rw [hP.cell]; rfl
  have p1 : w1.cell? ⟨rp, 1, none⟩ = some (.int .i64 pi) := by rw [hP.cell]; rfl
  have p2 : w1.cell? ⟨rp, 2, none⟩ = some (.slice DA pd.length dc) := by rw [hP.cell]; rfl
  have H1 := Lib.hid (h.keeps hk1 (fun h => h) (fun h => h) (fun _ _ h => h))
  have HAC := Lib.hid (accept_any F R g f n _ ⟨pc, pi, pd⟩ w1 (hg.keeps hk1 (fun h => h)) H1.out (fun b hb => Nat.lt_of_lt_of_le (hF b hb).1 hk1.size) (hd.keeps hk1 (fun _ _ h => h)))
  have HMD := Lib.hid (nmade_any g f w1 H1.out.blk)
  have HS1 := Lib.hid (hs.keeps hk1 (fun h => h))
  have HD1 := Lib.hid (hd.keeps hk1 (fun _ _ h => h))
  have HFF := Lib.hid hF
  have HO := Lib.hid hO
  have HPB := Lib.hid hP
  have HK1 := Lib.hid hk1
  have HRP := Lib.hid hrp
  have HRL := Lib.hid (show ∀ b, R b → b < rp by rw [hrp]; exact h.lt)
  have HGL := Lib.hid (show g < rp by omega)
  have HML := Lib.hid (show f.gm < rp by omega)
  have HRF := Lib.hid hr
  have HNE0 := Lib.hid hne
  have HM1 := Lib.hid hm1
  have HNK := Lib.hid (show n1.naks ≤ 1000 by rw [hn1]; exact hnk)
  clear hk1 hP hO h hg hs hF hd hr hgl hml hne hm1 hn1 hr1 hnk hJ hfq hwell
  go_enter Tryz.func15, Tryz.ntmps15
  go_upto_region 1 with fail
  rw [← hrp]
  rw [← hw1]
  clear hw1 hrp
  go_wp2_with fail
  refine HMD.out.mono ?_
  rintro e w2 ⟨rfl, rfl⟩
  go_wp2_with fail
  refine HAC.out.mono ?_
  rintro e w2 (⟨hyes, _⟩ | ⟨_, u, zs, rfl, hze, hzr, hk2⟩)
  case inl => exact absurd hyes HRF.out
  obtain ⟨UA, uc, rfl, _⟩ := hzr.form
  have hs2 := HS1.out.keeps hk2 (fun h => h)
  have g0 : w2.cell? ⟨0, 0, none⟩ = some (.iface 187 (.pointer (some a))) := hs2
  have HDI := Lib.hid (none_is a w2)
  have HN2 := Lib.hid (H1.out.keeps hk2 (fun h => h) (fun h => h) (fun _ _ h => h))
  have HO2 := Lib.hid (HO.out.keeps hk2 (fun h => h))
  have HK2 := Lib.hid (HK1.out.trans hk2)
  have HD2 := Lib.hid (HD1.out.keeps hk2 (fun _ _ h => h))
  have p0 : w2.cell? ⟨rp, 0, none⟩ = some (.int .i64 pc) := by rw [(HPB.out.keeps hk2 (fun h => h)).cell]; rfl
  have p1 : w2.cell? ⟨rp, 1, none⟩ = some (.int .i64 pi) := by rw [(HPB.out.keeps hk2 (fun h => h)).cell]; rfl
  have p2 : w2.cell? ⟨rp, 2, none⟩ = some (.slice DA pd.length dc) := by rw [(HPB.out.keeps hk2 (fun h => h)).cell]; rfl
  have HHA := Lib.hid (HHA0.out _ _ zs w2 HN2.out HK2.out HD2.out hzr hze (fun b hb => by have := hb.1; have := HGL.out; have := HO.out.lt; omega))
  clear hs2 hze hzr hk2 HAC HMD H1 HO HHA0 HS1 HD1
  go_wp2_with fail
  refine HDI.out.mono ?_
  rintro e w3 ⟨rfl, rfl⟩
  go_wp2_with fail
  refine HHA.out.mono ?_
  rintro e w3 ⟨ov, zo, f', R', rfl, hzo, hzoe, hzof, hn3, hgm, hsub, hk3⟩
  dsimp only at hzoe hn3 ⊢
  subst hzoe
  obtain ⟨OA, oc, rfl, _⟩ := hzo.form
  have HFZ := Lib.hid hzof
  have HGM := Lib.hid hgm
  have hO3 := HO2.out.keeps hk3 (fun e => by have e : rp + 1 = g := e; have := HGL.out; omega)
  have HO3 := Lib.hid hO3
  have HN3 := Lib.hid hn3
  have HK3 := Lib.hid hk3
  have HSUB := Lib.hid (show ∀ b, R' b → R b ∨ w.heap.size ≤ b from fun b hb => (hsub b hb).imp (fun h => h) (fun h => Nat.le_trans HK2.out.size h))
  have HRO := Lib.hid (show ¬ R' (rp + 1) from fun e => by
    rcases hsub _ e with h | h
    · have := HRL.out _ h; omega
    · have := HO2.out.lt; omega)
  have HZ3 := Lib.hid (hzo.mono (G := fun b => b < w3.heap.size ∧ b ≠ g ∧ b ≠ f'.gm) (fun b hb => ⟨hb.2, by have := hb.1; have := HGL.out; have := HO2.out.lt; omega, by rw [hgm]; have := hb.1; have := HML.out; have := HO2.out.lt; omega⟩))
  have HD3 := Lib.hid ((HD2.out.keeps hk3 (fun b hb e => (HFF.out b hb).2.1 e)).mono (G := fun b => b < w3.heap.size ∧ b ≠ g ∧ b ≠ f'.gm) (fun b hb => ⟨Nat.lt_of_lt_of_le (HFF.out b hb).1 (Nat.le_trans HK2.out.size hk3.size), (HFF.out b hb).2.1, by rw [hgm]; exact (HFF.out b hb).2.2⟩))
  obtain ⟨gc, hgc⟩ : ∃ q, q = w3.heap.size := ⟨_, rfl⟩
  obtain ⟨w4, hw4⟩ : ∃ q, q = w3.alloc (.cells #[.int .i64 pc, .int .i64 pi, .slice DA pd.length dc, .int .i64 (code : Int), .slice OA zo.length oc] 82) := ⟨_, rfl⟩
  have hk4 : Keeps nobody w3 w4 := by rw [hw4]; exact (Keeps.refl _ w3).alloc _
  have HCB := Lib.hid (show Blk w4 gc 82 #[.int .i64 pc, .int .i64 pi, .slice DA pd.length dc, .int .i64 (code : Int), .slice OA zo.length oc] by rw [hw4, hgc]; exact Blk.new w3 _ _)
  have HN4 := Lib.hid (hn3.keeps hk4 (fun h => h) (fun h => h) (fun _ _ h => h))
  have HO4 := Lib.hid (hO3.keeps hk4 (fun h => h))
  have HZO := Lib.hid ((HZ3.out.keeps hk4 (fun _ _ h => h)).mono (G := fun b => b < w4.heap.size ∧ b ≠ g ∧ b ≠ f'.gm) (fun b hb => ⟨Nat.lt_of_lt_of_le hb.1 hk4.size, hb.2⟩))
  have HD4 := Lib.hid ((HD3.out.keeps hk4 (fun _ _ h => h)).mono (G := fun b => b < w4.heap.size ∧ b ≠ g ∧ b ≠ f'.gm) (fun b hb => ⟨Nat.lt_of_lt_of_le hb.1 hk4.size, hb.2⟩))
  have c0 : w4.cell? ⟨g, 0, none⟩ = some (.pointer (some ⟨f'.gm, 0, none⟩)) := HN4.out.blk.cell 0
  have HG4 := Lib.hid (show g < w4.heap.size from HN4.out.blk.lt)
  have HNE := Lib.hid (show g ≠ f'.gm by rw [hgm]; exact HNE0.out)
  have HNC := Lib.hid (show gc ≠ f'.gm by have := Blk.lt hn3.mach; omega)
  have HGC := Lib.hid (show gc ≠ g by have := hn3.blk.lt; omega)
  have HOM := Lib.hid (show rp + 1 ≠ f'.gm by rw [hgm]; have := HML.out; omega)
  have HOG := Lib.hid (show rp + 1 ≠ g by have := HGL.out; omega)
  have HGO := Lib.hid (show g ≠ rp + 1 by have := HGL.out; omega)
  have HMO := Lib.hid (show f.gm ≠ rp + 1 by have := HML.out; omega)
  have HKW := Lib.hid (show Keeps (fun b => b = g ∨ b = f.gm) w w4 from ((HK2.out.mono (fun _ h => h.elim)).trans (hk3.mono (fun b e => .inl e))).trans (hk4.mono (fun _ h => h.elim)))
  have HMA := Lib.hid (fun (W : World) (k : Keeps nobody w4 W) => HMA0.out W _ _ (HN4.out.keeps k (fun h => h) (fun h => h) (fun _ _ h => h)))
  have HKZ4 := Lib.hid (Keeps.refl nobody w4)
  clear hzo hzof hn3 hgm hsub hk3 hO3 hk4 HMA0 HHA HDI HN2 HO2 HD2 p0 p1 p2 g0
  go_upto_region 8 with fail
  rw [← hw4, ← hgc]
  clear hw4 hgc
  refine wp_region_Z (fun w' => w'.cell? ⟨g, 0, none⟩ = some (.pointer (some ⟨f'.gm, 0, none⟩)) ∧ Blk w' gc 82 #[.int .i64 pc, .int .i64 pi, .slice DA pd.length dc, .int .i64 (code : Int), .slice OA zo.length oc]) 9 10 rfl (by kernel_rfl) ⟨c0, HCB.out⟩ (fun hHeld => ?_)
  have HSW := hHeld
  clear hHeld
  have HK0d := Lib.hid (HKZ4.out.drew)
  refine wpAnyZ_take (i := 0) rfl (by kernel_rfl) (fun _ _ _ h => h) (Or.inl ⟨by rfl, by intro w hSw; obtain ⟨s0, sB⟩ := hSw; go_simp; try with_reducible rfl⟩) HSW.out ?_
  simp only [Act.put, List.setIfInBounds_toArray, List.getElem_toArray, List.getElem_cons_zero, List.set_cons_succ, List.set_cons_zero]
  refine wpAnyZ_take (i := 1) rfl (by kernel_rfl) (fun _ _ _ h => h) (Or.inl ⟨by rfl, by intro w hSw; obtain ⟨s0, sB⟩ := hSw; go_simp; try with_reducible rfl⟩) HSW.out ?_
  simp only [Act.put, List.setIfInBounds_toArray, List.getElem_toArray, List.getElem_cons_succ, List.getElem_cons_zero, List.set_cons_succ, List.set_cons_zero]
  refine wpAnyZ_take (i := 2) rfl (by kernel_rfl) (fun _ _ _ h => h) (Or.inl ⟨by rfl, by intro w hSw; obtain ⟨s0, sB⟩ := hSw; go_simp; try with_reducible rfl⟩) HSW.out ?_
  simp only [Act.put, List.setIfInBounds_toArray, List.getElem_toArray, List.getElem_cons_succ, List.getElem_cons_zero, List.set_cons_succ, List.set_cons_zero]
  refine wpAnyZ_take (i := 3) rfl (by kernel_rfl) (fun _ _ _ h => h) (Or.inl ⟨by rfl, by intro w hSw; obtain ⟨s0, sB⟩ := hSw; go_simp; try with_reducible rfl⟩) HSW.out ?_
  simp only [Act.put, List.setIfInBounds_toArray, List.getElem_toArray, List.getElem_cons_succ, List.getElem_cons_zero, List.set_cons_succ, List.set_cons_zero]
  refine wpAnyZ_take (i := 4) rfl (by kernel_rfl) (fun _ _ _ h => h) (Or.inl ⟨by rfl, by intro w hSw; obtain ⟨s0, sB⟩ := hSw; go_simp; try with_reducible rfl⟩) HSW.out ?_
  simp only [Act.put, List.setIfInBounds_toArray, List.getElem_toArray, List.getElem_cons_succ, List.getElem_cons_zero, List.set_cons_succ, List.set_cons_zero]
  refine wpAnyZ_take (i := 5) rfl (by kernel_rfl) (fun _ _ _ h => h) (Or.inl ⟨by rfl, by intro w hSw; obtain ⟨s0, sB⟩ := hSw; go_simp; try with_reducible rfl⟩) HSW.out ?_
  simp only [Act.put, List.setIfInBounds_toArray, List.getElem_toArray, List.getElem_cons_succ, List.getElem_cons_zero, List.set_cons_succ, List.set_cons_zero]
  refine wpAnyZ_take (i := 7) rfl (by kernel_rfl) (fun _ _ _ h => h) (Or.inl ⟨by rfl, by intro w hSw; obtain ⟨s0, sB⟩ := hSw; have t0 : w.cell? ⟨gc, 0, none⟩ = some (.int .i64 pc) := (by rw [Blk.cell sB]; rfl); have t1 : w.cell? ⟨gc, 1, none⟩ = some (.int .i64 pi) := (by rw [Blk.cell sB]; rfl); have t2 : w.cell? ⟨gc, 2, none⟩ = some (.slice DA pd.length dc) := (by rw [Blk.cell sB]; rfl); have t3 : w.cell? ⟨gc, 3, none⟩ = some (.int .i64 (code : Int)) := (by rw [Blk.cell sB]; rfl); have t4 : w.cell? ⟨gc, 4, none⟩ = some (.slice OA zo.length oc) := (by rw [Blk.cell sB]; rfl); go_simp; try with_reducible rfl⟩) HSW.out ?_
  simp only [Act.put, List.setIfInBounds_toArray, List.getElem_toArray, List.getElem_cons_succ, List.getElem_cons_zero, List.set_cons_succ, List.set_cons_zero]
  refine wpAnyZ_one (i := 6) (by kernel_rfl) rfl (fun K hK => ?_)
  try rw [if_pos (by rfl)]
  go_simp
  refine (HMA.out _ HK0d.out).mono ?_
  rintro e w5 ⟨LA, lc, rfl, hrow5, hm5, hk5⟩
  have HN5 := Lib.hid ((HN4.out.keeps HK0d.out (fun h => h) (fun h => h) (fun _ _ h => h)).machine (m' := m') hk5 hm5 HGD.out.1 HGD.out.2.1 HGD.out.2.2)
  have HK5 := Lib.hid (show Keeps (only f'.gm) w4 w5 from (HK0d.out.mono (fun _ h => h.elim)).trans hk5)
  have HS5 := Lib.hid (And.intro (cell_far hk5 HNE.out HSW.out.1) (HSW.out.2.keeps hk5 (fun e => HNC.out e)))
  have HROW := Lib.hid (hrow5.mono (G := fun b => w4.heap.size ≤ b) (fun b hb => Nat.le_trans HK0d.out.size hb))
  have HL5 := Lib.hid (show rp + 1 < w5.heap.size from Nat.lt_of_lt_of_le HO4.out.lt HK5.out.size)
  clear hrow5 hm5 hk5
  refine hK.out _ _ (fun _ => HS5.out) ?_
  clear hK K
  try simp only [Act.put, List.setIfInBounds_toArray, Nat.reduceAdd, List.getElem_toArray, List.getElem_cons_succ, List.getElem_cons_zero, List.set_cons_succ, List.set_cons_zero]
  refine wpAnyZ_one (i := 8) (by kernel_rfl) rfl (fun K hK => ?_)
  try rw [if_pos (by rfl)]
  go_simp
  refine (perform_all g R' (fun b => w4.heap.size ≤ b) (fun b => b < w5.heap.size ∧ b ≠ g) f' { n1 with m := m' } (.slice LA l.length lc) (.slice DA pd.length dc) (.slice OA zo.length oc) l ⟨pc, pi, pd⟩ code zo (some ⟨⟨pc, pi, pd⟩, code, optsOf zo⟩) w5 HN5.out HROW.out (fun b hb => by have := HG4.out; omega) ((HD4.out.keeps HK5.out (fun b hb e => hb.2.2 e)).mono (fun b hb => ⟨Nat.lt_of_lt_of_le hb.1 HK5.out.size, hb.2.1⟩)) ((HZO.out.keeps HK5.out (fun b hb e => hb.2.2 e)).mono (fun b hb => ⟨Nat.lt_of_lt_of_le hb.1 HK5.out.size, hb.2.1⟩)) HFZ.out (fun b hb => hb) (.inr rfl) HFW.out HNK.out).mono ?_
  rintro e w6 ⟨v6, rfl, hout, hbec⟩
  have HOUT := Lib.hid hout
  have HBEC := Lib.hid hbec
  have hk6 : Keeps (fun b => b = g ∨ b = f'.gm) w5 w6 := by obtain ⟨_, _, _, _, _, hk⟩ := hbec; exact hk
  obtain ⟨sv, ps, rfl, hprow, _, _⟩ := hout
  obtain ⟨A6, c6, rfl, _⟩ := hprow.form
  have HO6 := Lib.hid ((HO4.out.keeps HK5.out (fun e => HOM.out e)).keeps hk6 (fun e => by rcases e with e | e; exact HOG.out e; exact HOM.out e))
  have hc6 : w6.cell? ⟨g, 0, none⟩ = some (.pointer (some ⟨f'.gm, 0, none⟩)) := by obtain ⟨f'', _, ho, hgm2, _, _⟩ := hbec; rw [ho.blk.cell 0, ← hgm2]; rfl
  have HS6 := Lib.hid (And.intro hc6 (HS5.out.2.keeps hk6 (fun e => by rcases e with e | e; exact HGC.out e; exact HNC.out e)))
  clear hbec hprow hk6 hc6
  refine hK.out _ _ (fun _ => HS6.out) ?_
  clear hK K
  try simp only [Act.put, List.setIfInBounds_toArray, Nat.reduceAdd, List.getElem_toArray, List.getElem_cons_succ, List.getElem_cons_zero, List.set_cons_succ, List.set_cons_zero]
  have hO6 := HO6.out
  have y0 : w6.cell? ⟨rp + 1, 0, none⟩ = some (.slice none 0 0) := by rw [hO6.cell]; rfl
  have v0 := hO6.frozen 0
  have y1 : w6.cell? ⟨rp + 1, 1, none⟩ = some (.bool false) := by rw [hO6.cell]; rfl
  have v1 := hO6.frozen 1
  have y2 : w6.cell? ⟨rp + 1, 2, none⟩ = some (.bool false) := by rw [hO6.cell]; rfl
  have v2 := hO6.frozen 2
  have y3 : w6.cell? ⟨rp + 1, 3, none⟩ = some (.bool false) := by rw [hO6.cell]; rfl
  have v3 := hO6.frozen 3
  have y4 : w6.cell? ⟨rp + 1, 4, none⟩ = some (.bool false) := by rw [hO6.cell]; rfl
  have v4 := hO6.frozen 4
  obtain ⟨O1, hO1⟩ : ∃ b, b = (({ n1 with m := m' } : Pure.Neg).actsP l (some ⟨⟨pc, pi, pd⟩, code, optsOf zo⟩)).2.up := ⟨_, rfl⟩
  obtain ⟨O2, hO2⟩ : ∃ b, b = (({ n1 with m := m' } : Pure.Neg).actsP l (some ⟨⟨pc, pi, pd⟩, code, optsOf zo⟩)).2.down := ⟨_, rfl⟩
  obtain ⟨O3, hO3⟩ : ∃ b, b = (({ n1 with m := m' } : Pure.Neg).actsP l (some ⟨⟨pc, pi, pd⟩, code, optsOf zo⟩)).2.start := ⟨_, rfl⟩
  obtain ⟨O4, hO4⟩ : ∃ b, b = (({ n1 with m := m' } : Pure.Neg).actsP l (some ⟨⟨pc, pi, pd⟩, code, optsOf zo⟩)).2.done := ⟨_, rfl⟩
  rw [← hO1, ← hO2, ← hO3, ← hO4] at HOUT ⊢
  have HZ := Lib.hid (((((hO6.set 0 (.slice A6 ps.length c6)).set 1 (.bool O1)).set 2 (.bool O2)).set 3 (.bool O3)).set 4 (.bool O4))
  have HKR := Lib.hid ((((((Keeps.refl (only (rp + 1)) w6).put 0 (.slice A6 ps.length c6)).put 1 (.bool O1)).put 2 (.bool O2)).put 3 (.bool O3)).put 4 (.bool O4))
  clear hO6 hO1 hO2 hO3 hO4
  refine wpAnyZ_one (i := 9) (by kernel_rfl) rfl (fun K hK => ?_)
  go_simp
  refine hK.out _ _ (fun h => absurd rfl h) ?_
  clear hK K
  refine wpAnyZ_done (by kernel_rfl) ?_ _
  go_wp2_with fail
  refine bodyPost_ret (results_row1 rfl _ _ (rp + 1) 37 _ (0, 0) _ rfl HZ.out Tryz.underlying37 rfl (by rw [HI.out]; rfl)) rfl ?_
  have k06 : Keeps (fun b => b = g ∨ b = f.gm) w w5 := HKW.out.trans (HK5.out.mono (fun b e => .inr (by rw [← HGM.out]; exact e)))
  exact ⟨_, rfl, (HOUT.out.far HKR.out HL5.out).since k06.size, HBEC.out.close HGM.out HSUB.out k06 HKR.out (by have := HRP.out; omega) HL5.out HGO.out HMO.out HRO.out⟩
/-- .. where it judges by its own rules. -/
theorem input_heeds (F R : Nat → Prop) (g : Nat) (f : NF) (n : Pure.Neg) (d : Value) (p : Pure.Pkt) (a : Addr) (w : World) (hg : Handle w) (hs : SentAt w a) (h : NObj w g R f n) (hj : f.gm.j = byRules g) (hF : ∀ b, F b → b < w.heap.size ∧ b ≠ g ∧ b ≠ f.gm) (hd : Row w F 1 d p.data.length (u8s p.data)) (hr : ¬ n.refuses p) (hnk : n.naks ≤ 1000) (hrl : n.rules.length ≤ 1000) :
    Calls Tryz.prog 15 #[.pointer (some ⟨g, 0, none⟩), pktV p d] w fun e w' => ∃ v, e = .returned v ∧ Outs w w' v (n.input p).2 ∧ Becomes w w' g R f (n.input p).1 := by
  rw [Pure.input_heeded h.well hr]
  have hfine : p.code = 1 → Pure.Fine (Pure.split p.data).2 := fun hc => Pure.fine_of_split (Classical.byContradiction fun e => hr (.inr (.inl ⟨hc, e⟩)))
  exact input_by F R g f n d p _ a w hg hs h hF hd hr hnk (fun hc Fz uv zs W hW _ hz he => by
    have he : optsOf zs = (Pure.split p.data).2 := he.trans (hears_some (.inl hc))
    rw [hj, ← he]
    exact byRules_judges R Fz g f n uv zs _ W hW hz (by rw [he]; exact hfine hc)) (fun hc => judged_few h hrl (hfine hc))
end Go.Proofs.YtjomcffhbaplcaaGreatDoor
