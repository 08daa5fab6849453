/- Package nego: perform. -/
import Derived.Test.YtmgicbckgpdkcaaGreatDoorC16
namespace Go.Proofs.YtmgicbckgpdkcaaGreatDoor
set_option maxRecDepth 100000
set_option maxHeartbeats 16000000
open _root_.Go.Lib renaming hid → xhd
open Go.RowKit
theorem y3q : (Tryz.prog.info? 59).map (·.size) = some 5 := by kernel_rfl
def Outs (w w' : World) (v : Value) (o : Pure.Said) : Prop :=
 ∃ sv, ∃ ps : List (Value × Pure.Pkt), v = .agg #[sv, .bool o.up, .bool o.down, .bool o.start, .bool o.done] ∧ PRow w' (fun b => w.heap.size ≤ b ∧ b < w'.heap.size) sv ps ∧ ps.map Prod.snd = o.send ∧ ps.length ≤ 100
def y18 (w w' : World) (g : Nat) (R : Nat → Prop) (f : NF) (n : Pure.Neg) : Prop :=
 ∃ f' R', NObj w' g R' f' n ∧ f'.gm = f.gm ∧ (∀ b, R' b → R b ∨ w.heap.size ≤ b) ∧ Keeps (fun b => b = g ∨ b = f.gm) w w'
theorem PI.more {w1 w : World} {g go : Nat} {R R' : Nat → Prop} {m : Nat} {gm : GM} {s : Pure.Neg × Pure.Said} {f : NF} {sv : Value} {ps : List (Value × Pure.Pkt)} (h : PI w1 w g go R gm s m f R' sv ps) : PI w1 w g go R gm s (m + 1) f R' sv ps :=
 ⟨h.obj, h.gm, h.sub, h.out, h.sent, h.pkts, Nat.le_succ_of_le h.few, h.apart, h.kept, by have := h.naks; omega⟩
theorem act_else (r : Option Pure.Reply) (s : Pure.Neg × Pure.Said) (X : Nat) (h : X ≠ 0 ∧ X ≠ 1 ∧ X ≠ 2 ∧ X ≠ 3 ∧ X ≠ 6 ∧ X ≠ 7 ∧ X ≠ 8 ∧ X ≠ 9 ∧ X ≠ 10 ∧ X ≠ 11) : Pure.negActP r s X = s := by
 unfold Pure.negActP
 split <;> first | rfl | omega
theorem ya3 (g : Nat) (R Fl Fc : Nat → Prop) (f : NF) (n : Pure.Neg) (lv d ov : Value) (l : List Nat) (p : Pure.Pkt) (code : Nat) (zs : List (Value × Pure.Opt)) (r : Option Pure.Reply) (w : World) (h : NObj w g R f n)
  (hl : Row w Fl 1 lv l.length (ints l)) (hFl : ∀ b, Fl b → b ≠ g) (hd : Row w Fc 1 d p.data.length (u8s p.data)) (hz : ORow w Fc ov zs) (hfz : FewOpts zs) (hFc : ∀ b, Fc b → b < w.heap.size ∧ b ≠ g)
  (hr : (r = none ∧ p.code ≠ 5 ∧ ∀ a ∈ l, a ≠ 7 ∧ a ≠ 8 ∧ a ≠ 11) ∨ r = some ⟨p, code, y02 zs⟩) (hll : l.length ≤ 100) (hnk : n.naks ≤ 1000) :
  Calls Tryz.prog 125 #[.pointer (some ⟨g, 0, none⟩), lv, y8j p d (code : Int) ov] w fun e w' => ∃ v, e = .returned v ∧ Outs w w' v (n.actsP l r).2 ∧ y18 w w' g R f (n.actsP l r).1 := by
 obtain ⟨LA, lc, rfl, _⟩ := hl.form
 obtain ⟨D, cd, rfl, _⟩ := hd.form
 obtain ⟨O, co, rfl, _⟩ := hz.form
 have hgl := h.blk.lt
 have hml := Blk.lt h.mach
 have HI := xhd y3q
 obtain ⟨rc, hrc⟩ : ∃ q, q = w.heap.size := ⟨_, rfl⟩
 obtain ⟨ro, hro⟩ : ∃ q, q = rc + 1 := ⟨_, rfl⟩
 obtain ⟨go, hgo⟩ : ∃ q, q = ro + 1 := ⟨_, rfl⟩
 go_enter Tryz.func125, Tryz.ntmps125
 go_upto_region 2 with fail
 simp only [← hrc, ← hro, ← hgo]
 generalize hw1 : ((w.alloc _).alloc _).alloc _ = w1
 have hk1 : Keeps y01 w w1 := by rw [← hw1]; exact (((Keeps.refl _ w).alloc _).alloc _).alloc _
 have hC1 : Blk w1 rc 180 #[.int .i64 p.code, .int .i64 p.id, .slice D p.data.length cd, .int .i64 (code : Int), .slice O zs.length co] := by rw [← hw1, hrc]; exact ((Blk.new w _ _).alloc _).alloc _
 have hR1 : Blk w1 ro 59 #[.slice none 0 0, .bool false, .bool false, .bool false, .bool false] := by
  rw [← hw1, show ro = (w.alloc (.cells #[.int .i64 p.code, .int .i64 p.id, .slice D p.data.length cd, .int .i64 (code : Int), .slice O zs.length co] 180)).heap.size by rw [hro, hrc]; simp]
  exact (Blk.new _ _ _).alloc _
 have hO1 : Blk w1 go 59 #[.slice none 0 0, .bool false, .bool false, .bool false, .bool false] := by
  rw [← hw1, show go = ((w.alloc (.cells #[.int .i64 p.code, .int .i64 p.id, .slice D p.data.length cd, .int .i64 (code : Int), .slice O zs.length co] 180)).alloc (.cells #[.slice none 0 0, .bool false, .bool false, .bool false, .bool false] 59)).heap.size by rw [hgo, hro, hrc]; simp]
  exact Blk.new _ _ _
 have hs1 : w1.heap.size = rc + 3 := by rw [← hw1, hrc]; simp
 have HPS := xhd (show PS w1 g go R f.gm from ⟨by omega, by omega, by omega, by omega, by omega, fun e => by have := h.lt go e; omega⟩)
 have HPI0 := xhd (show PI w1 w1 g go R f.gm (n, Pure.mute) 0 f R (.slice none 0 0) [] from
  ⟨h.keeps hk1 (fun h => h) (fun h => h) (fun _ _ h => h), rfl, fun b hb => .inl hb, hO1, PSent.nil w1, rfl, by simp, fun b _ e => (by cases e), Keeps.refl _ _, (by show n.naks ≤ 1000 + 0; omega)⟩)
 have HKW1 := xhd hk1
 have HC1 := xhd hC1
 have HR1 := xhd hR1
 have HL1 := xhd (hl.keeps hk1 (fun _ _ h => h))
 have HD1 := xhd (hd.keeps hk1 (fun _ _ h => h))
 have HZ1 := xhd (hz.keeps hk1 (fun _ _ h => h))
 have HFL := xhd (show ∀ b, Fl b → b < w.heap.size → ¬ (b = g ∨ b = go) from fun b hb hlt e => by rcases e with e | e; exact hFl b hb e; omega)
 have HFC := xhd hFc
 have HFZ := xhd hfz
 have HR := xhd hr
 have HRCN := xhd (show ¬ (rc = g ∨ rc = go) by omega)
 have HRON := xhd (show ¬ (ro = g ∨ ro = go) by omega)
 have HGW := xhd (show go = w.heap.size + 2 by omega)
 have HRW := xhd (show ro = w.heap.size + 1 by omega)
 have HLS := xhd (hl.strongN (by omega))
 have HMG := xhd (show f.gm < w.heap.size by omega)
 have HLT := xhd (fun b (hb : R b) => show b < w.heap.size from by have := h.lt b hb; omega)
 clear hw1 hk1 hC1 hR1 hO1 h hl hFl hd hz hfz hFc hr hgl hml hs1 hrc hro hgo
 go_wp2_with fail
 go_loopw [12] (fun i wr => ∃ k : Nat, k ≤ l.length ∧ i = .int .i64 (k : Int) ∧ ∃ f' R' sv ps, PI w1 wr g go R f.gm ((l.take k).foldl (Pure.negActP r) (n, Pure.mute)) k f' R' sv ps) (fun i _ => l.length - (intOf i).toNat)
 case atStart => exact ⟨0, by omega, rfl, f, R, _, [], HPI0.out⟩
 case round =>
  clear HPI0
  obtain ⟨k, hk, rfl, f', R', sv, ps, hpi⟩ := hrel
  obtain ⟨s, hs⟩ : ∃ s, s = (l.take k).foldl (Pure.negActP r) (n, Pure.mute) := ⟨_, rfl⟩
  rw [← hs] at hpi
  have HSS := xhd hs
  have HPI := xhd hpi
  clear hs hpi
  by_cases hkl : k < l.length
  ·have i0 : (0 : Int) ≤ (k : Int) := by omega
   have i1 : (k : Int) < (l.length : Int) := by omega
   obtain ⟨bl, ol, rfl, hFb, hcl⟩ := (HLS.out.keeps HKW1.out (fun _ _ h => h)).cellAt (by omega)
   have hcx : wr.cell? ⟨bl, ol + k, none⟩ = some (.int .i64 ((l.getD k 0 : Nat) : Int)) := y1l HPI.out.kept (hcl k _ (ints_at l k hkl)) (HFL.out bl hFb.1 hFb.2)
   obtain ⟨X, hX⟩ : ∃ X, X = l.getD k 0 := ⟨_, rfl⟩
   rw [← hX] at hcx
   have hlk : l[k]? = some X := by rw [hX, List.getD_eq_getElem?_getD, List.getElem?_eq_getElem hkl]; rfl
   have HMEM := xhd (show X ∈ l from List.mem_of_getElem? hlk)
   have HFOLD := xhd (show (l.take (k + 1)).foldl (Pure.negActP r) (n, Pure.mute) = Pure.negActP r s X by rw [Pure.take_snoc l k X hlk, List.foldl_append, ← HSS.out]; rfl)
   have HCB := xhd (HC1.out.keeps HPI.out.kept HRCN.out)
   have HDR := xhd (HD1.out.keeps HPI.out.kept (fun b hb e => by have h1 := HFC.out b hb; have := HGW.out; rcases e with e | e; exact h1.2 e; omega))
   have HZR := xhd (HZ1.out.keeps HPI.out.kept (fun b hb e => by have h1 := HFC.out b hb; have := HGW.out; rcases e with e | e; exact h1.2 e; omega))
   clear hcl hFb hX hlk
   by_cases q0 : X = 0
   ·subst q0
    have HC0 := HCB
    have HP2 := xhd (HPI.out.flag HPS.out 1 true s.2.down s.2.start s.2.done rfl)
    have c0 : wr.cell? ⟨go, 1, none⟩ = some (.bool s.2.up) := by rw [HPI.out.out.cell]; rfl
    have f0 := HPI.out.out.frozen 1
    go_wp2_with fail
    go_roundw
    case rel => exact ⟨k + 1, by omega, by go_num, _, _, _, _, by rw [HFOLD.out]; exact HP2.out.more⟩
    case measure => simp [intOf] <;> omega
   have e0 : ((X : Int) == 0) = false := by rw [beq_eq_false_iff_ne]; omega
   by_cases q1 : X = 1
   ·subst q1
    have HC0 := HCB
    have HP2 := xhd (HPI.out.flag HPS.out 2 s.2.up true s.2.start s.2.done rfl)
    have c0 : wr.cell? ⟨go, 2, none⟩ = some (.bool s.2.down) := by rw [HPI.out.out.cell]; rfl
    have f0 := HPI.out.out.frozen 2
    go_wp2_with fail
    go_roundw
    case rel => exact ⟨k + 1, by omega, by go_num, _, _, _, _, by rw [HFOLD.out]; exact HP2.out.more⟩
    case measure => simp [intOf] <;> omega
   have e1 : ((X : Int) == 1) = false := by rw [beq_eq_false_iff_ne]; omega
   by_cases q2 : X = 2
   ·subst q2
    have HC0 := HCB
    have HP2 := xhd (HPI.out.flag HPS.out 3 s.2.up s.2.down true s.2.done rfl)
    have c0 : wr.cell? ⟨go, 3, none⟩ = some (.bool s.2.start) := by rw [HPI.out.out.cell]; rfl
    have f0 := HPI.out.out.frozen 3
    obtain ⟨zf, hzf, hze, hzw⟩ := HP2.out.obj.first
    have HBG := xhd (y6j R' g f' zf _ HP2.out.obj.blk hzf hzw)
    have HZE := xhd hze
    clear hzf hze hzw
    go_wp2_with fail
    refine HBG.out.mono ?_
    rintro e w8 ⟨rfl, u8', q8, hq8, hr8, hb8, hk8⟩
    have HP8 := xhd (HP2.out.turned HPS.out (HP2.out.obj.begun hk8 (hq8.trans HZE.out) hr8 hb8) rfl hk8 (Nat.zero_le _))
    clear hq8 hr8 hb8 hk8 HBG c0 f0
    go_wp2_with fail
    go_roundw
    case rel => exact ⟨k + 1, by omega, by go_num, _, _, _, _, by rw [HFOLD.out]; exact HP8.out.more⟩
    case measure => simp [intOf] <;> omega
   have e2 : ((X : Int) == 2) = false := by rw [beq_eq_false_iff_ne]; omega
   by_cases q3 : X = 3
   ·subst q3
    have HC0 := HCB
    have HP2 := xhd (HPI.out.flag HPS.out 4 s.2.up s.2.down s.2.start true rfl)
    have c0 : wr.cell? ⟨go, 4, none⟩ = some (.bool s.2.done) := by rw [HPI.out.out.cell]; rfl
    have f0 := HPI.out.out.frozen 4
    go_wp2_with fail
    go_roundw
    case rel => exact ⟨k + 1, by omega, by go_num, _, _, _, _, by rw [HFOLD.out]; exact HP2.out.more⟩
    case measure => simp [intOf] <;> omega
   have e3 : ((X : Int) == 3) = false := by rw [beq_eq_false_iff_ne]; omega
   by_cases q6 : X = 6
   ·subst q6
    have HC0 := HCB
    obtain ⟨zq, hzq, hqe, hqw⟩ := HPI.out.obj.request
    have HAS := xhd (ask_as R' g f' zq s.1.next wr HPI.out.obj.blk (fun b hb => ⟨HPI.out.obj.lt b hb, fun e => HPI.out.obj.ng (e ▸ hb)⟩) hzq hqw (by rw [HPI.out.obj.e2]; exact HPI.out.obj.well.id) (by rw [HPI.out.obj.e2]; rfl))
    rw [hqe] at HAS
    have HQE := xhd hqe
    clear hzq hqe hqw
    go_wp2_with fail
    refine HAS.out.mono ?_
    rintro e w8 ⟨B, cb, u8', q8, rfl, hrow8, hq8, hr8, hb8, hk8⟩
    have HSN := xhd (HPI.out.sends HPS.out (HPI.out.obj.asks hk8 hq8 hr8 hb8) rfl hk8 ⟨1, (s.1.next : Nat), (Pure.options s.1.request).2⟩ (.slice B (Pure.options s.1.request).2.length cb) hrow8 (by omega) (Nat.le_succ _))
    clear hrow8 hq8 hr8 hb8 hk8 HAS
    go_wp2_with fail
    refine HSN.out.mono ?_
    rintro e w9 ⟨rfl, sv9, ps9, hpi9⟩
    have HP9 := xhd hpi9
    clear hpi9 HSN
    go_wp2_with fail
    go_roundw
    case rel => exact ⟨k + 1, by omega, by go_num, _, _, _, _, by rw [HFOLD.out]; exact HP9.out⟩
    case measure => simp [intOf] <;> omega
   have e6 : ((X : Int) == 6) = false := by rw [beq_eq_false_iff_ne]; omega
   by_cases q7 : X = 7
   ·subst q7
    have HC0 := HCB
    have b0 : wr.cell? ⟨rc, 0, none⟩ = some (.int .i64 p.code) := by rw [HCB.out.cell]; rfl
    have b1 : wr.cell? ⟨rc, 1, none⟩ = some (.int .i64 p.id) := by rw [HCB.out.cell]; rfl
    have b2 : wr.cell? ⟨rc, 2, none⟩ = some (.slice D p.data.length cd) := by rw [HCB.out.cell]; rfl
    have b3 : wr.cell? ⟨rc, 3, none⟩ = some (.int .i64 (code : Int)) := by rw [HCB.out.cell]; rfl
    have b4 : wr.cell? ⟨rc, 4, none⟩ = some (.slice O zs.length co) := by rw [HCB.out.cell]; rfl
    have hrs : r = some ⟨p, code, y02 zs⟩ := by
     rcases HR.out with ⟨_, _, hn⟩ | h
     ·have := hn _ HMEM.out; omega
     ·exact h
    have HFOLD := xhd (HFOLD.out.trans (show Pure.negActP r s 7 = ({ s.1 with naks := if code = 3 then s.1.naks + 1 else s.1.naks, theirs := if code = 2 then y02 zs else s.1.theirs }, s.2.more ⟨code, p.id, (Pure.options (y02 zs)).2⟩) by rw [hrs]; rfl))
    have HAN := xhd (yas Fc g f' p (.slice D p.data.length cd) (code : Int) (.slice O zs.length co) zs wr HPI.out.obj.blk (fun b hb => ⟨Nat.lt_of_lt_of_le (HFC.out b hb).1 (Nat.le_trans HKW1.out.size HPI.out.kept.size), (HFC.out b hb).2⟩) HZR.out HFZ.out (by rw [HPI.out.obj.e3]; have := HPI.out.naks; omega))
    clear hrs
    go_wp2_with fail
    refine HAN.out.mono ?_
    rintro e w8 ⟨B, cb, f8, rfl, hrow8, ha8, hb8, hk8⟩
    obtain ⟨ho8, hg8⟩ := HPI.out.obj.answers (q := ⟨p, code, y02 zs⟩) hk8 rfl HFZ.out ha8 hb8
    have HSN := xhd (HPI.out.sends HPS.out ho8 hg8 hk8 ⟨code, p.id, (Pure.options (y02 zs)).2⟩ (.slice B (Pure.options (y02 zs)).2.length cb) hrow8 (by omega) (by show (if code = 3 then s.1.naks + 1 else s.1.naks) ≤ _; split <;> omega))
    clear hrow8 ha8 hb8 hk8 HAN ho8 hg8
    clear b0 b1 b2 b3 b4
    go_wp2_with fail
    refine HSN.out.mono ?_
    rintro e w9 ⟨rfl, sv9, ps9, hpi9⟩
    have HP9 := xhd hpi9
    clear hpi9 HSN
    go_wp2_with fail
    go_roundw
    case rel => exact ⟨k + 1, by omega, by go_num, _, _, _, _, by rw [HFOLD.out]; exact HP9.out⟩
    case measure => simp [intOf] <;> omega
   have e7 : ((X : Int) == 7) = false := by rw [beq_eq_false_iff_ne]; omega
   by_cases q8 : X = 8
   ·subst q8
    have HC0 := HCB
    have b0 : wr.cell? ⟨rc, 0, none⟩ = some (.int .i64 p.code) := by rw [HCB.out.cell]; rfl
    have b1 : wr.cell? ⟨rc, 1, none⟩ = some (.int .i64 p.id) := by rw [HCB.out.cell]; rfl
    have b2 : wr.cell? ⟨rc, 2, none⟩ = some (.slice D p.data.length cd) := by rw [HCB.out.cell]; rfl
    have b3 : wr.cell? ⟨rc, 3, none⟩ = some (.int .i64 (code : Int)) := by rw [HCB.out.cell]; rfl
    have b4 : wr.cell? ⟨rc, 4, none⟩ = some (.slice O zs.length co) := by rw [HCB.out.cell]; rfl
    have hrs : r = some ⟨p, code, y02 zs⟩ := by
     rcases HR.out with ⟨_, _, hn⟩ | h
     ·have := hn _ HMEM.out; omega
     ·exact h
    have HFOLD := xhd (HFOLD.out.trans (show Pure.negActP r s 8 = ({ s.1 with naks := if code = 3 then s.1.naks + 1 else s.1.naks, theirs := if code = 2 then y02 zs else s.1.theirs }, s.2.more ⟨code, p.id, (Pure.options (y02 zs)).2⟩) by rw [hrs]; rfl))
    have HAN := xhd (yas Fc g f' p (.slice D p.data.length cd) (code : Int) (.slice O zs.length co) zs wr HPI.out.obj.blk (fun b hb => ⟨Nat.lt_of_lt_of_le (HFC.out b hb).1 (Nat.le_trans HKW1.out.size HPI.out.kept.size), (HFC.out b hb).2⟩) HZR.out HFZ.out (by rw [HPI.out.obj.e3]; have := HPI.out.naks; omega))
    clear hrs
    go_wp2_with fail
    refine HAN.out.mono ?_
    rintro e w8 ⟨B, cb, f8, rfl, hrow8, ha8, hb8, hk8⟩
    obtain ⟨ho8, hg8⟩ := HPI.out.obj.answers (q := ⟨p, code, y02 zs⟩) hk8 rfl HFZ.out ha8 hb8
    have HSN := xhd (HPI.out.sends HPS.out ho8 hg8 hk8 ⟨code, p.id, (Pure.options (y02 zs)).2⟩ (.slice B (Pure.options (y02 zs)).2.length cb) hrow8 (by omega) (by show (if code = 3 then s.1.naks + 1 else s.1.naks) ≤ _; split <;> omega))
    clear hrow8 ha8 hb8 hk8 HAN ho8 hg8
    clear b0 b1 b2 b3 b4
    go_wp2_with fail
    refine HSN.out.mono ?_
    rintro e w9 ⟨rfl, sv9, ps9, hpi9⟩
    have HP9 := xhd hpi9
    clear hpi9 HSN
    go_wp2_with fail
    go_roundw
    case rel => exact ⟨k + 1, by omega, by go_num, _, _, _, _, by rw [HFOLD.out]; exact HP9.out⟩
    case measure => simp [intOf] <;> omega
   have e8 : ((X : Int) == 8) = false := by rw [beq_eq_false_iff_ne]; omega
   by_cases q9 : X = 9
   ·subst q9
    have HC0 := HCB
    have HOW := xhd (y90 g f' 5 none 0 0 s.1.next wr HPI.out.obj.blk (by rw [HPI.out.obj.e2]; exact HPI.out.obj.well.id) (by rw [HPI.out.obj.e2]; rfl))
    go_wp2_with fail
    refine HOW.out.mono ?_
    rintro e w8 ⟨rfl, hb8, hk8⟩
    have HSN := xhd (HPI.out.sends HPS.out (HPI.out.obj.owned hk8 hb8) rfl hk8 ⟨5, (s.1.next : Nat), []⟩ (.slice none 0 0) (Row.nil _ _ _) (by omega) (Nat.le_succ _))
    clear hb8 hk8 HOW
    go_wp2_with fail
    refine HSN.out.mono ?_
    rintro e w9 ⟨rfl, sv9, ps9, hpi9⟩
    have HP9 := xhd hpi9
    clear hpi9 HSN
    go_wp2_with fail
    go_roundw
    case rel => exact ⟨k + 1, by omega, by go_num, _, _, _, _, by rw [HFOLD.out]; exact HP9.out⟩
    case measure => simp [intOf] <;> omega
   have e9 : ((X : Int) == 9) = false := by rw [beq_eq_false_iff_ne]; omega
   by_cases q10 : X = 10
   ·subst q10
    have HC0 := HCB
    have b0 : wr.cell? ⟨rc, 0, none⟩ = some (.int .i64 p.code) := by rw [HCB.out.cell]; rfl
    have b1 : wr.cell? ⟨rc, 1, none⟩ = some (.int .i64 p.id) := by rw [HCB.out.cell]; rfl
    have b2 : wr.cell? ⟨rc, 2, none⟩ = some (.slice D p.data.length cd) := by rw [HCB.out.cell]; rfl
    have b3 : wr.cell? ⟨rc, 3, none⟩ = some (.int .i64 (code : Int)) := by rw [HCB.out.cell]; rfl
    have b4 : wr.cell? ⟨rc, 4, none⟩ = some (.slice O zs.length co) := by rw [HCB.out.cell]; rfl
    by_cases h5 : p.code = 5
    ·have HFOLD := xhd (HFOLD.out.trans (show Pure.negActP r s 10 = (s.1, s.2.more ⟨6, p.id, []⟩) by
      rcases HR.out with ⟨_, hn, _⟩ | rfl
      ·exact absurd h5 hn
      ·show (if p.code = 5 then (s.1, s.2.more ⟨6, p.id, []⟩) else Pure.sendOwn s 6 []) = _
       rw [if_pos h5]))
     have HOW := xhd (yd5 g f' p (.slice D p.data.length cd) (code : Int) (.slice O zs.length co) wr HPI.out.obj.blk h5)
     clear h5
     go_wp2_with fail
     refine HOW.out.mono ?_
     rintro e w8 ⟨rfl, hb8, hk8⟩
     have HSN := xhd (HPI.out.sends HPS.out (HPI.out.obj.same hk8 hb8) rfl hk8 ⟨6, p.id, []⟩ (.slice none 0 0) (Row.nil _ _ _) (by omega) (Nat.le_succ _))
     clear hb8 hk8 HOW
     clear b0 b1 b2 b3 b4
     go_wp2_with fail
     refine HSN.out.mono ?_
     rintro e w9 ⟨rfl, sv9, ps9, hpi9⟩
     have HP9 := xhd hpi9
     clear hpi9 HSN
     go_wp2_with fail
     go_roundw
     case rel => exact ⟨k + 1, by omega, by go_num, _, _, _, _, by rw [HFOLD.out]; exact HP9.out⟩
     case measure => simp [intOf] <;> omega
    ·have HFOLD := xhd (HFOLD.out.trans (show Pure.negActP r s 10 = Pure.sendOwn s 6 [] by
      rcases HR.out with ⟨rfl, _⟩ | rfl
      ·rfl
      ·show (if p.code = 5 then (s.1, s.2.more ⟨6, p.id, []⟩) else Pure.sendOwn s 6 []) = _
       rw [if_neg h5]))
     have HOW := xhd (yd4 g f' p (.slice D p.data.length cd) (code : Int) (.slice O zs.length co) s.1.next wr HPI.out.obj.blk (by rw [HPI.out.obj.e2]; exact HPI.out.obj.well.id) (by rw [HPI.out.obj.e2]; rfl) h5)
     clear h5
     go_wp2_with fail
     refine HOW.out.mono ?_
     rintro e w8 ⟨rfl, hb8, hk8⟩
     have HSN := xhd (HPI.out.sends HPS.out (HPI.out.obj.owned hk8 hb8) rfl hk8 ⟨6, (s.1.next : Nat), []⟩ (.slice none 0 0) (Row.nil _ _ _) (by omega) (Nat.le_succ _))
     clear hb8 hk8 HOW
     clear b0 b1 b2 b3 b4
     go_wp2_with fail
     refine HSN.out.mono ?_
     rintro e w9 ⟨rfl, sv9, ps9, hpi9⟩
     have HP9 := xhd hpi9
     clear hpi9 HSN
     go_wp2_with fail
     go_roundw
     case rel => exact ⟨k + 1, by omega, by go_num, _, _, _, _, by rw [HFOLD.out]; exact HP9.out⟩
     case measure => simp [intOf] <;> omega
   have e10 : ((X : Int) == 10) = false := by rw [beq_eq_false_iff_ne]; omega
   by_cases q11 : X = 11
   ·subst q11
    have HC0 := HCB
    have b0 : wr.cell? ⟨rc, 0, none⟩ = some (.int .i64 p.code) := by rw [HCB.out.cell]; rfl
    have b1 : wr.cell? ⟨rc, 1, none⟩ = some (.int .i64 p.id) := by rw [HCB.out.cell]; rfl
    have b2 : wr.cell? ⟨rc, 2, none⟩ = some (.slice D p.data.length cd) := by rw [HCB.out.cell]; rfl
    have b3 : wr.cell? ⟨rc, 3, none⟩ = some (.int .i64 (code : Int)) := by rw [HCB.out.cell]; rfl
    have b4 : wr.cell? ⟨rc, 4, none⟩ = some (.slice O zs.length co) := by rw [HCB.out.cell]; rfl
    have hrs : r = some ⟨p, code, y02 zs⟩ := by
     rcases HR.out with ⟨_, _, hn⟩ | h
     ·have := hn _ HMEM.out; omega
     ·exact h
    obtain ⟨E, hE⟩ : ∃ E, E = (Pure.encode p).2.take 1496 := ⟨_, rfl⟩
    have HFOLD := xhd (HFOLD.out.trans (show Pure.negActP r s 11 = Pure.sendOwn s 7 E by rw [hrs, hE]; rfl))
    have HRT := xhd (yff Fc (.slice D p.data.length cd) p wr (fun b hb => Nat.lt_of_lt_of_le (HFC.out b hb).1 (Nat.le_trans HKW1.out.size HPI.out.kept.size)) HDR.out)
    rw [← hE] at HRT
    clear hrs hE
    go_wp2_with fail
    refine HRT.out.mono ?_
    rintro e w7 ⟨B, cb, rfl, hrow7, hk7⟩
    have HOW := xhd (y90 g f' 7 B E.length cb s.1.next w7 (HPI.out.obj.blk.keeps hk7 (fun h => h)) (by rw [HPI.out.obj.e2]; exact HPI.out.obj.well.id) (by rw [HPI.out.obj.e2]; rfl))
    have HR7 := xhd hrow7
    have HK7 := xhd hk7
    clear hrow7 hk7 HRT
    go_wp2_with fail
    refine HOW.out.mono ?_
    rintro e w8 ⟨rfl, hb8, hk8⟩
    have hk78 : Keeps (only g) wr w8 := (HK7.out.mono (fun _ h => h.elim)).trans hk8
    have hrow8 := HR7.out.keeps hk8 (fun b hb e => by have e : b = g := e; have := HPI.out.obj.blk.lt; omega)
    have HSN := xhd (HPI.out.sends HPS.out (HPI.out.obj.owned hk78 hb8) rfl hk78 ⟨7, (s.1.next : Nat), E⟩ (.slice B E.length cb) hrow8 (by omega) (Nat.le_succ _))
    clear hb8 hk8 HOW hk78 hrow8 HR7 HK7
    clear b0 b1 b2 b3 b4
    go_wp2_with fail
    refine HSN.out.mono ?_
    rintro e w9 ⟨rfl, sv9, ps9, hpi9⟩
    have HP9 := xhd hpi9
    clear hpi9 HSN
    go_wp2_with fail
    go_roundw
    case rel => exact ⟨k + 1, by omega, by go_num, _, _, _, _, by rw [HFOLD.out]; exact HP9.out⟩
    case measure => simp [intOf] <;> omega
   have e11 : ((X : Int) == 11) = false := by rw [beq_eq_false_iff_ne]; omega
   have HFOLD := xhd (HFOLD.out.trans (act_else r s X ⟨q0, q1, q2, q3, q6, q7, q8, q9, q10, q11⟩))
   have HP9 := xhd (show PI w1 wr g go R f.gm s (k + 1) f' R' sv ps from ⟨HPI.out.obj, HPI.out.gm, HPI.out.sub, HPI.out.out, HPI.out.sent, HPI.out.pkts, Nat.le_succ_of_le HPI.out.few, HPI.out.apart, HPI.out.kept, by have := HPI.out.naks; omega⟩)
   clear q0 q1 q2 q3 q6 q7 q8 q9 q10 q11
   go_wp2_with fail
   go_roundw
   case rel => exact ⟨k + 1, by omega, by go_num, _, _, _, _, by rw [HFOLD.out]; exact HP9.out⟩
   case measure => simp [intOf] <;> omega
  ·have hkk : k = l.length := by omega
   subst hkk
   have HE := xhd (show s = n.actsP l r by rw [HSS.out, List.take_length]; rfl)
   have hO := HPI.out.out
   have hRo := HR1.out.keeps HPI.out.kept HRON.out
   have x0 : wr.cell? ⟨go, 0, none⟩ = some sv := by rw [hO.cell]; rfl
   have x1 : wr.cell? ⟨go, 1, none⟩ = some (.bool s.2.up) := by rw [hO.cell]; rfl
   have x2 : wr.cell? ⟨go, 2, none⟩ = some (.bool s.2.down) := by rw [hO.cell]; rfl
   have x3 : wr.cell? ⟨go, 3, none⟩ = some (.bool s.2.start) := by rw [hO.cell]; rfl
   have x4 : wr.cell? ⟨go, 4, none⟩ = some (.bool s.2.done) := by rw [hO.cell]; rfl
   have z0 : wr.cell? ⟨ro, 0, none⟩ = some (.slice none 0 0) := by rw [hRo.cell]; rfl
   have z1 : wr.cell? ⟨ro, 1, none⟩ = some (.bool false) := by rw [hRo.cell]; rfl
   have z2 : wr.cell? ⟨ro, 2, none⟩ = some (.bool false) := by rw [hRo.cell]; rfl
   have z3 : wr.cell? ⟨ro, 3, none⟩ = some (.bool false) := by rw [hRo.cell]; rfl
   have z4 : wr.cell? ⟨ro, 4, none⟩ = some (.bool false) := by rw [hRo.cell]; rfl
   have f0 := hRo.frozen 0
   have f1 := hRo.frozen 1
   have f2 := hRo.frozen 2
   have f3 := hRo.frozen 3
   have f4 := hRo.frozen 4
   obtain ⟨A2, c2, hsv⟩ := y0c HPI.out.sent.own
   rw [hsv] at x0
   have HZ := xhd (((((hRo.set 0 (.slice A2 ps.length c2)).set 1 (.bool s.2.up)).set 2 (.bool s.2.down)).set 3 (.bool s.2.start)).set 4 (.bool s.2.done))
   have KR := (((((Keeps.refl (only ro) wr).put 0 (.slice A2 ps.length c2)).put 1 (.bool s.2.up)).put 2 (.bool s.2.down)).put 3 (.bool s.2.start)).put 4 (.bool s.2.done)
   have HROW := xhd (((HPI.out.sent.other KR (fun b e => by have e : b = ro := e; have := HRW.out; have := HGW.out; have := HPS.out.go1; omega)).row).mono (G := fun b => w.heap.size ≤ b ∧ b < _) (fun b hb => ⟨Nat.le_trans HKW1.out.size hb.1, hb.2⟩))
   have HB := xhd (show y18 w _ g R f s.1 from ⟨f', R', HPI.out.obj.keeps KR (fun e => by have e : g = ro := e; exact HRON.out (.inl e.symm)) (fun e => by
     have e : f'.gm = ro := e
     rw [HPI.out.gm] at e
     have := HPS.out.gm1
     have h1 := HMG.out
     have := HRW.out
     omega) (fun b hb e => by
     have e : b = ro := e
     rcases HPI.out.sub b hb with h1 | h1
     ·have := HLT.out b h1; have := HRW.out; omega
     ·have := HRW.out; have := HGW.out; have := HPS.out.go1; omega), HPI.out.gm, fun b hb => (HPI.out.sub b hb).imp (fun h => h) (fun h => Nat.le_trans HKW1.out.size h),
    (((HKW1.out.mono (T := fun b => b = g ∨ b = f.gm) (fun _ h => h.elim)).trans' HPI.out.kept (fun i hi hl => by rcases hi with e | e; exact .inl e; have := HGW.out; omega)).trans' KR (fun i hi hl => by have e : i = ro := hi; have := HRW.out; omega))⟩)
   have HPK := xhd HPI.out.pkts
   have HFW := xhd (show ps.length ≤ 100 by have := HPI.out.few; omega)
   rw [hsv] at HROW
   clear KR hO hRo hsv
   go_wp2_with fail
   refine bodyPost_ret (y07 rfl _ _ ro 59 _ (0, 0) _ rfl HZ.out Tryz.underlying59 rfl (by rw [HI.out]; rfl)) rfl ?_
   rw [← HE.out]
   exact ⟨_, rfl, ⟨_, ps, rfl, HROW.out, HPK.out, HFW.out⟩, HB.out⟩
theorem ydn : (Tryz.prog.info? 122).map (fun i => (i.zero, i.size, i.bytes)) = some (some (.agg #[.int .i64 0, .int .i64 0, .int .i64 0, .int .i64 0, .int .i64 0, .slice none 0 0, .bool false]), 7, 72) := by kernel_rfl
theorem yd1 (ps : List (Value × Pure.Rule)) (h : ∀ p ∈ ps, p.1.oneCell' = true) : ∀ u ∈ y13 ps, u.oneCell' = true := by
 intro u hu
 obtain ⟨p, hp, hu⟩ := List.mem_flatMap.1 hu
 simp at hu
 rcases hu with rfl | rfl | rfl | rfl | rfl | rfl | rfl
 ·rfl
 ·rfl
 ·rfl
 ·rfl
 ·rfl
 ·exact h p hp
 ·rfl
section
variable {w : World} {o : Oper} {a : Act} {Q : Exit → Act → World → Prop}
theorem y7k {ops : Array Oper} {rest : List Oper} (hgd : o.guard = none) (s x : Operand) (ho : o.op = .call { callee := .builtin .append, args := #[s, x], argTypes := #[118, 118] })
  (base : Nat) (v : Value) (qs : List (Value × Pure.Rule)) (D : Value) (r : Pure.Rule) (hone : D.oneCell' = true) (hs : a.eval s = v) (hx : a.eval x = .slice (some ⟨w.heap.size, 0, none⟩) 1 1) (hR : w.ownsRow base 122 7 v qs.length (y13 qs)) (hq : qs.length ≤ 1000000) (hb : base ≤ w.heap.size)
  (h : ∀ A c w', w'.ownsRow base 122 7 (.slice A (qs.length + 1) c) (qs.length + 1) (y13 (qs ++ [(D, r)])) → Keeps (fun b => v.ownBlock = some b) w w' → (∀ b, (Value.slice A (qs.length + 1) c).ownBlock = some b → v.ownBlock = some b ∨ w.heap.size ≤ b) → wpList Tryz.prog ops Q rest (a.put o.dst (.slice A (qs.length + 1) c)) w') :
  wpList Tryz.prog ops Q (o :: rest) a (w.alloc (.cells #[.int .i64 r.type, .int .i64 r.len, .int .i64 r.how, .int .i64 r.lo, .int .i64 r.hi, D, .bool r.need] 122)) := by
 obtain ⟨i0, hi0, hz0, hz1, hz2⟩ := info_parts ydn
 obtain ⟨wb, hwb⟩ : ∃ wb, wb = w.alloc (.cells (y13 [(D, r)]).toArray 122) := ⟨_, rfl⟩
 have hwb' : w.alloc (.cells #[.int .i64 r.type, .int .i64 r.len, .int .i64 r.how, .int .i64 r.lo, .int .i64 r.hi, D, .bool r.need] 122) = wb := hwb.symm
 rw [hwb']
 have hkb : Keeps y01 w wb := by rw [hwb]; exact (Keeps.refl _ w).alloc _
 have hbb : Blk wb w.heap.size 122 (y13 [(D, r)]).toArray := by rw [hwb]; exact Blk.new w _ _
 have hrb : Row wb (fun b => b = w.heap.size) 7 (.slice (some ⟨w.heap.size, 0, none⟩) 1 1) 1 (y13 [(D, r)]) := by
  have h := Row.block (F := fun b => b = w.heap.size) (n := 1) (c := 1) (size := 7) hbb rfl rfl (by unfold maxLen; omega) (Nat.le_refl _)
  exact h
 have hownb : wb.ownsRow base 122 7 v qs.length (y13 qs) := y0o hR hkb (fun _ _ h => h)
 have hone' : ∀ q ∈ ([(D, r)] : List (Value × Pure.Rule)), q.1.oneCell' = true := by
  intro q hq
  simp at hq
  subst hq
  exact hone
 refine y1a hgd s x _ ho base 122 i0 _ 7 72 Tryz.underlying118 hi0 hz0 hz1 hz2 rfl (by omega) v _ (y13 qs) hs hownb _ _ 1 (y13 [(D, r)]) hx hrb (yd1 _ hone') (by unfold maxLen; omega) (by omega) (Nat.le_trans hb hkb.size) ?_
 intro v3 w3 hown3 hg3 hat3
 have hcat : y13 qs ++ y13 [(D, r)] = y13 (qs ++ [(D, r)]) := by simp [y13]
 rw [hcat] at hown3
 have hkw : Keeps (fun b => v.ownBlock = some b) wb w3 := (Keeps.refl _ wb).grown hg3 (fun k hk _ => hk)
 have hwbs : w.heap.size < wb.heap.size := by rw [hwb]; simp
 obtain ⟨A4, c4, rfl⟩ := y0c hown3
 refine h A4 c4 w3 hown3 ((hkb.mono (fun _ h => h.elim)).trans hkw) (fun b hb => ?_)
 rcases hat3 with e | e
 ·exact .inl (e ▸ hb)
 ·rw [e] at hb; injection hb with hb; exact .inr (by omega)
end
structure RRead (w0 w : World) (F : Nat → Prop) (v : Value) (us : List (Value × Pure.Rule)) : Prop where
 own : w.ownsRow w0.heap.size 122 7 v us.length (y13 us)
 rows : ∀ p ∈ us, Row w (fun b => F b ∧ v.ownBlock ≠ some b ∧ b < w.heap.size) 1 p.1 p.2.want.length (u8s p.2.want)
 kept : Keeps y01 w0 w
theorem RRead.keeps {w0 w w' : World} {F : Nat → Prop} {v : Value} {us : List (Value × Pure.Rule)} (h : RRead w0 w F v us) (k : Keeps y01 w w') : RRead w0 w' F v us :=
 ⟨y0o h.own k (fun _ _ h => h), fun p hp => ((h.rows p hp).keeps k (fun _ _ h => h)).mono (fun _ hb => ⟨hb.1, hb.2.1, Nat.lt_of_lt_of_le hb.2.2 k.size⟩), h.kept.trans k⟩
theorem RRead.row {w0 w : World} {F : Nat → Prop} {v : Value} {us : List (Value × Pure.Rule)} (h : RRead w0 w F v us) : RRow w (fun b => (F b ∨ w0.heap.size ≤ b) ∧ b < w.heap.size) v us :=
 ⟨(Row.of_own h.own).mono (fun b hb => ⟨.inr (y0f h.own b hb), y12 h.own b hb⟩), fun p hp => (h.rows p hp).mono (fun _ hb => ⟨.inl hb.1, hb.2.2⟩)⟩
theorem RRead.more {w0 w w' : World} {F : Nat → Prop} {v v' D : Value} {us : List (Value × Pure.Rule)} {r : Pure.Rule} (h : RRead w0 w F v us) (hd : Row w (fun b => F b ∧ v.ownBlock ≠ some b ∧ b < w.heap.size) 1 D r.want.length (u8s r.want))
  (ho : w'.ownsRow w0.heap.size 122 7 v' (us.length + 1) (y13 (us ++ [(D, r)]))) (k : Keeps (fun b => v.ownBlock = some b) w w') (hb : ∀ b, v'.ownBlock = some b → v.ownBlock = some b ∨ w.heap.size ≤ b) : RRead w0 w' F v' (us ++ [(D, r)]) := by
 refine ⟨by rw [List.length_append]; exact ho, fun p hp => ?_, h.kept.trans' k (fun i hi hl => by have := y0f h.own i hi; omega)⟩
 have hrow : Row w (fun b => F b ∧ v.ownBlock ≠ some b ∧ b < w.heap.size) 1 p.1 p.2.want.length (u8s p.2.want) := by
  rcases List.mem_append.1 hp with hp | hp
  ·exact h.rows p hp
  ·simp at hp
   subst hp
   exact hd
 refine (hrow.keeps k (fun b hb => hb.2.1)).mono (fun b hx => ⟨hx.1, fun e => ?_, Nat.lt_of_lt_of_le hx.2.2 k.size⟩)
 rcases hb b e with e | e
 ·exact hx.2.1 e
 ·omega
theorem made_rules (w : World) (n : Nat) (hn : n ≤ 1000000) (F : Nat → Prop) : ∃ cs, (Instr.makeSlice 118 (.int .i64 0) (.int .i64 (n : Int))).run Tryz.prog w = .ok (.slice (some ⟨w.heap.size, 0, none⟩) 0 n) (w.alloc (.cells cs 122)) ∧
  RRead w (w.alloc (.cells cs 122)) F (.slice (some ⟨w.heap.size, 0, none⟩) 0 n) [] := by
 obtain ⟨i0, hi0, hz0, hz1, hz2⟩ := info_parts ydn
 have hrun := run_make (P := Tryz.prog) w 118 122 i0 _ Tryz.underlying118 hi0 hz0 .i64 .i64 0 n (by omega) (by omega) (by rw [hz2]; omega) (by omega)
 rw [hz1, Int.toNat_natCast, show Int.toNat 0 = 0 from rfl] at hrun
 refine ⟨_, hrun, ⟨⟨by simp, .inr ⟨w.heap.size, n, _, rfl, Nat.le_refl _, Blk.new w _ _, by simp, by unfold maxLen; omega, by simp [madeCells], by simp⟩⟩, by simp, (Keeps.refl _ w).alloc _⟩⟩
theorem y9p (F : Nat → Prop) (x : Value) (us : List (Value × Pure.Rule)) (w : World) (hx : RRow w F x us) (hfu : FewRules us) :
  Calls Tryz.prog 116 #[x] w fun e w' => ∃ u, ∃ qs : List (Value × Pure.Rule), e = .returned u ∧ y08 qs = y08 us ∧ RRead w w' (fun b => w.heap.size ≤ b) u qs := by
 obtain ⟨X, cx, rfl, _⟩ := hx.form
 have hm := hx.out.2.1
 unfold maxLen at hm
 have HX := xhd hx
 have HFU := xhd hfu
 have hul := hfu.len
 clear hx hfu
 obtain ⟨cs, hrun, hrd0⟩ := made_rules w us.length (by omega) (fun b => w.heap.size ≤ b)
 obtain ⟨w1, hw1⟩ : ∃ w1, w1 = w.alloc (.cells cs 122) := ⟨_, rfl⟩
 rw [← hw1] at hrun hrd0
 have HRD0 := xhd hrd0
 clear hrd0 hw1
 go_enter Tryz.func116, Tryz.ntmps116
 go_wp2_with fail
 go_loopw [3, 11] (fun v i wr => ∃ k : Nat, k ≤ us.length ∧ i = .int .i64 (k : Int) ∧ ∃ qs : List (Value × Pure.Rule), y08 qs = (y08 us).take k ∧ qs.length = k ∧ RRead w wr (fun b => w.heap.size ≤ b) v qs) (fun _ i _ => us.length - (intOf i).toNat)
 case atStart => exact ⟨0, by omega, rfl, [], rfl, rfl, HRD0.out⟩
 case round =>
  clear hrun HRD0
  obtain ⟨k, hk, rfl, qs, hqs, rfl, hrd⟩ := hrel
  obtain ⟨A2, c2, rfl⟩ := y0c hrd.own
  have HQS := xhd hqs
  have HRD := xhd hrd
  clear hqs hrd
  by_cases hkl : qs.length < us.length
  ·have i0' : (0 : Int) ≤ (qs.length : Int) := by omega
   have i1 : (qs.length : Int) < (us.length : Int) := by omega
   have d1 : decide ((qs.length : Int) < (us.length : Int)) = true := decide_eq_true (by omega)
   have d2 : decide (qs.length < us.length) = true := decide_eq_true hkl
   obtain ⟨bx, ox, pA, pc, pr, rfl, hFb, hcell, hwant, hpa⟩ := (HX.out.keeps HRD.out.kept (fun _ _ h => h)).pick qs.length hkl
   have hwl : pr.want.length ≤ 100000 := (HFU.out.ok _ (List.mem_of_getElem? hpa)).2
   have HTK := xhd (show (y08 us).take (qs.length + 1) = (y08 us).take qs.length ++ [pr] from Pure.take_snoc _ qs.length _ (by rw [List.getElem?_map, hpa]; rfl))
   have HRW := xhd hwant
   have x0 : wr.cell? ⟨bx, ox + qs.length * 7, none⟩ = some (.int .i64 pr.type) := hcell 0 _ rfl
   have x1 := hcell 1 _ rfl
   have x2 := hcell 2 _ rfl
   have x3 := hcell 3 _ rfl
   have x4 := hcell 4 _ rfl
   have x5 := hcell 5 _ rfl
   have x6 := hcell 6 _ rfl
   clear hcell hwant hpa
   go_upto_region 5 with fail
   obtain ⟨w3, hw3⟩ : ∃ w3, w3 = wr.alloc (.cells (y0a (.slice pA pr.want.length pc, pr)).toArray 122) := ⟨_, rfl⟩
   obtain ⟨gr, hgr⟩ : ∃ gr, gr = wr.heap.size := ⟨_, rfl⟩
   rw [show wr.alloc (.cells #[.int .i64 pr.type, .int .i64 pr.len, .int .i64 pr.how, .int .i64 pr.lo, .int .i64 pr.hi, .slice pA pr.want.length pc, .bool pr.need] 122) = w3 from hw3.symm, ← hgr]
   have hk3 : Keeps y01 wr w3 := by rw [hw3]; exact (Keeps.refl _ wr).alloc _
   have hb3 : Blk w3 gr 122 (y0a (.slice pA pr.want.length pc, pr)).toArray := by rw [hw3, hgr]; exact Blk.new wr _ _
   have hsz3 : w3.heap.size = gr + 1 := by rw [hw3, hgr]; simp
   have y5 : w3.cell? ⟨gr, 5, none⟩ = some (.slice pA pr.want.length pc) := by rw [hb3.cell]; rfl
   have HBC := xhd (y2g F (.slice pA pr.want.length pc) _ pr.want w3 (HRW.out.keeps hk3 (fun _ _ h => h)) (by omega))
   have HB3 := xhd hb3
   have HK3 := xhd hk3
   have HGR := xhd hgr
   have HS3 := xhd hsz3
   clear hw3 hgr hk3 hb3 x0 x1 x2 x3 x4 x5 x6 hsz3
   go_wp2_with fail
   refine HBC.out.mono ?_
   rintro e w4 ⟨u4, rfl, hu4, hbl4⟩
   obtain ⟨A4, c4, rfl⟩ := y0c hu4
   have hk4 : Keeps y01 w3 w4 := Keeps.new hbl4
   have hb4 := HB3.out.keeps hk4 (fun h => h)
   have z5 : w4.cell? ⟨gr, 5, none⟩ = some (.slice pA pr.want.length pc) := by rw [hb4.cell]; rfl
   have f5 := hb4.frozen 5
   have hrow4 := (Row.of_own hu4).mono (G := fun b => w3.heap.size ≤ b) (fun b hb => y0f hu4 b hb)
   have HB5 := xhd (show Blk (w4.setCell ⟨gr, 5, none⟩ (.slice A4 pr.want.length c4)) gr 122 (y0a (.slice A4 pr.want.length c4, pr)).toArray from hb4.set 5 _)
   have KR := (Keeps.refl (only gr) w4).put 5 (.slice A4 pr.want.length c4)
   have HROW5 := xhd (hrow4.keeps KR (fun b hb e => by have e : b = gr := e; have := HS3.out; omega))
   have HK5 := xhd (show Keeps y01 wr (w4.setCell ⟨gr, 5, none⟩ (.slice A4 pr.want.length c4)) from (HK3.out.trans hk4).trans' KR (fun i hi hl => by have e : i = gr := hi; have := HGR.out; omega))
   clear hu4 hbl4 hk4 hb4 hrow4 KR HBC y5
   go_upto_region 6 with fail
   generalize hw5 : w4.setCell ⟨gr, 5, none⟩ (.slice A4 pr.want.length c4) = w5 at HB5 HROW5 HK5 ⊢
   have b0 : w5.cell? ⟨gr, 0, none⟩ = some (.int .i64 pr.type) := by rw [HB5.out.cell]; rfl
   have b1 : w5.cell? ⟨gr, 1, none⟩ = some (.int .i64 pr.len) := by rw [HB5.out.cell]; rfl
   have b2 : w5.cell? ⟨gr, 2, none⟩ = some (.int .i64 pr.how) := by rw [HB5.out.cell]; rfl
   have b3 : w5.cell? ⟨gr, 3, none⟩ = some (.int .i64 pr.lo) := by rw [HB5.out.cell]; rfl
   have b4 : w5.cell? ⟨gr, 4, none⟩ = some (.int .i64 pr.hi) := by rw [HB5.out.cell]; rfl
   have b5 : w5.cell? ⟨gr, 5, none⟩ = some (.slice A4 pr.want.length c4) := by rw [HB5.out.cell]; rfl
   have b6 : w5.cell? ⟨gr, 6, none⟩ = some (.bool pr.need) := by rw [HB5.out.cell]; rfl
   have HR5 := xhd (HRD.out.keeps HK5.out)
   have HD5 := xhd ((HROW5.out.strongN (by omega)).mono (G := fun b => w.heap.size ≤ b ∧ (Value.slice A2 qs.length c2).ownBlock ≠ some b ∧ b < w5.heap.size) (fun b hb => by
    have h1 := HRD.out.kept.size
    have h2 := HS3.out
    have h3 := HGR.out
    exact ⟨by have := hb.1; omega, fun e => by have := y12 HRD.out.own b e; have := hb.1; omega, hb.2⟩))
   clear hw5 z5 f5
   go_wp2_with (at_builtin; refine y0t ?_)
   unfold Hid
   refine y7k rfl (.tmp 19) (.tmp 21) rfl w.heap.size (.slice A2 qs.length c2) qs (.slice A4 pr.want.length c4) pr rfl rfl rfl HR5.out.own (by omega) HR5.out.kept.size ?_
   intro A6 c6 w6 hown6 hk6 hob6
   have HR6 := xhd (HR5.out.more HD5.out hown6 hk6 hob6)
   clear hown6 hk6 hob6 b0 b1 b2 b3 b4 b5 b6
   go_wp2_with fail
   go_roundw
   case rel => exact ⟨qs.length + 1, by omega, by go_num, qs ++ [(.slice A4 pr.want.length c4, pr)], by rw [HTK.out, ← HQS.out]; simp [y08], by simp, HR6.out⟩
   case measure => simp [intOf] <;> omega
  ·have hkk : qs.length = us.length := by omega
   have d1 : decide ((qs.length : Int) < (us.length : Int)) = false := decide_eq_false (by omega)
   have d2 : decide (qs.length < us.length) = false := decide_eq_false (by omega)
   have HE := xhd (show y08 qs = y08 us by rw [HQS.out]; exact List.take_of_length_le (by simp; omega))
   go_wp2
   go_ret
   exact ⟨_, qs, rfl, HE.out, HRD.out⟩
namespace Pure
theorem actP_none (s : Neg × Said) : ∀ a, negActP none s a = y2o none s a
 | 0 => rfl | 1 => rfl | 2 => rfl | 3 => rfl | 4 => rfl | 5 => rfl | 6 => rfl | 7 => rfl | 8 => rfl | 9 => rfl | 10 => rfl | 11 => rfl
 | _ + 12 => rfl
theorem actsP_none (n : Neg) (l : List Nat) : n.actsP l none = n.acts l none := by
 unfold Neg.actsP Neg.acts
 have h : negActP none = y2o none := funext fun s => funext fun a => actP_none s a
 rw [h]
theorem fsm_few : ∀ s < 10, ∀ e < 16, (fsmAt s e).1.length ≤ 10 := by decide +kernel
theorem fsm_plain : ∀ s < 10, ∀ e < 6, ∀ a ∈ (fsmAt s e).1, a ≠ 7 ∧ a ≠ 8 ∧ a ≠ 11 := by decide +kernel
theorem act2_fst (m : Mach) (e : Int) : (m.act2 e).1 = if does e then (fsmAt m.state e.toNat).1 else [] := by
 unfold Mach.act2
 split <;> rfl
theorem act2_few {m : Mach} (h : m.Good) (e : Int) : (m.act2 e).1.length ≤ 100 := by
 rw [act2_fst]
 split
 ·rename_i hd
  unfold does at hd
  have := fsm_few m.state (by have := h.state; omega) e.toNat (by omega)
  omega
 ·simp
theorem act2_plain {m : Mach} (h : m.Good) {e : Int} (he : e < 6) : ∀ a ∈ (m.act2 e).1, a ≠ 7 ∧ a ≠ 8 ∧ a ≠ 11 := by
 rw [act2_fst]
 split
 ·rename_i hd
  unfold does at hd
  exact fsm_plain m.state (by have := h.state; omega) e.toNat (by omega)
 ·simp
end Pure
theorem NObj.machine {w w' : World} {g : Nat} {R : Nat → Prop} {f : NF} {n : Pure.Neg} (h : NObj w g R f n) {m' : Pure.Mach} (k : Keeps (only f.gm) w w') (hm : y11 w' f.gm m') (hg : m'.Good) (ht : m'.tries = n.m.tries) (hu : m'.timeout = n.m.timeout) :
  NObj w' g R f { n with m := m' } := by
 obtain ⟨us, r1, r2, r3⟩ := h.rules
 have hs : ∀ b, R b → ¬ only f.gm b := fun b hb e => h.nm (by have e : b = f.gm := e; exact e ▸ hb)
 have hw : ({ n with m := m' } : Pure.Neg).Well := ⟨hg, by show m'.tries ≤ 1000; rw [ht]; exact h.well.tries, by show m'.timeout ≤ 1000; rw [hu]; exact h.well.timeout, h.well.id, h.well.first, h.well.request, h.well.asked, h.well.ours⟩
 exact ⟨h.blk.keeps k (fun e => h.ne e), hm, hw, by rw [h.e1]; exact ht.symm, h.e2, h.e3, h.e4, h.e5, h.e6, ⟨us, r1.keeps k hs, r2, r3⟩, h.first.keeps k hs, h.request.keeps k hs, h.aopts.keeps k hs, h.mine.keeps k hs, h.given.keeps k hs, fun b hb => Nat.lt_of_lt_of_le (h.lt b hb) k.size, h.ng, h.nm, h.ne⟩
theorem y18.trans {w0 w1 w2 : World} {g : Nat} {R R1 : Nat → Prop} {f f1 : NF} {n : Pure.Neg} (hgm : f1.gm = f.gm) (hs : ∀ b, R1 b → R b ∨ w0.heap.size ≤ b) (k : Keeps (fun b => b = g ∨ b = f.gm) w0 w1) (h : y18 w1 w2 g R1 f1 n) : y18 w0 w2 g R f n := by
 obtain ⟨f2, R2, h1, h2, h3, h4⟩ := h
 refine ⟨f2, R2, h1, by rw [h2, hgm], fun b hb => ?_, k.trans (h4.mono (fun b e => by rw [hgm] at e; exact e))⟩
 rcases h3 b hb with h | h
 ·exact hs b h
 ·exact .inr (Nat.le_trans k.size h)
theorem Outs.since {w0 w1 w2 : World} {v : Value} {o : Pure.Said} (hk : w0.heap.size ≤ w1.heap.size) (h : Outs w1 w2 v o) : Outs w0 w2 v o := by
 obtain ⟨sv, ps, h1, h2, h3, h4⟩ := h
 exact ⟨sv, ps, h1, h2.mono (fun b hb => ⟨Nat.le_trans hk hb.1, hb.2⟩), h3, h4⟩
theorem Outs.far {w0 w w' : World} {r : Nat} {v : Value} {o : Pure.Said} (h : Outs w0 w v o) (k : Keeps (only r) w w') (hr : r < w0.heap.size) : Outs w0 w' v o := by
 obtain ⟨sv, ps, h1, h2, h3, h4⟩ := h
 refine ⟨sv, ps, h1, (h2.keeps k (fun b hb e => by have e : b = r := e; have := hb.1; omega)).mono (fun b hb => ⟨hb.1, Nat.lt_of_lt_of_le hb.2 k.size⟩), h3, h4⟩
theorem y18.close {w0 W w' w'' : World} {g ro : Nat} {R R1 : Nat → Prop} {f f1 : NF} {n : Pure.Neg} (hB : y18 W w' g R1 f1 n) (hgm : f1.gm = f.gm) (hs : ∀ b, R1 b → R b ∨ w0.heap.size ≤ b) (k0 : Keeps (fun b => b = g ∨ b = f.gm) w0 W) (k : Keeps (only ro) w' w'') (h0 : w0.heap.size ≤ ro) (hW : ro < W.heap.size)
  (hg : g ≠ ro) (hm : f.gm ≠ ro) (hR : ¬ R1 ro) : y18 w0 w'' g R f n := by
 obtain ⟨f', R', h1, h2, h3, h4⟩ := hB
 refine ⟨f', R', h1.keeps k (fun e => hg e) (fun e => hm (by have e : f'.gm = ro := e; rw [h2, hgm] at e; exact e)) (fun b hb e => ?_), by rw [h2, hgm], fun b hb => ?_, ?_⟩
 ·have e : b = ro := e
  subst e
  rcases h3 _ hb with h | h
  ·exact hR h
  ·omega
 ·rcases h3 b hb with h | h
  ·exact hs b h
  ·exact .inr (Nat.le_trans k0.size h)
 ·exact (k0.trans (h4.mono (fun b e => by rw [hgm] at e; exact e))).trans' k (fun i hi hl => by have e : i = ro := hi; omega)
theorem y6d (g _ : Nat) (R1 : Nat → Prop) (f1 : NF) (n1 : Pure.Neg) (m' : Pure.Mach) (l : List Nat) (W W0 : World) (h1 : NObj W g R1 f1 { n1 with m := m' }) (hp : ∀ a ∈ l, a ≠ 7 ∧ a ≠ 8 ∧ a ≠ 11) (hf : l.length ≤ 100) (hk1 : n1.naks ≤ 1000) (hW0 : g < W0.heap.size) (A : Option Addr) (c : Nat) (hl : Row W (fun b => W0.heap.size ≤ b) 1 (.slice A l.length c) l.length (ints l)) :
  Calls Tryz.prog 125 #[.pointer (some ⟨g, 0, none⟩), .slice A l.length c, .agg #[.int .i64 0, .int .i64 0, .slice none 0 0, .int .i64 0, .slice none 0 0]] W fun e' w' => ∃ v, e' = .returned v ∧ Outs W w' v (({ n1 with m := m' } : Pure.Neg).acts l none).2 ∧ y18 W w' g R1 f1 (({ n1 with m := m' } : Pure.Neg).acts l none).1 := by
 have hp := ya3 g R1 (fun b => W0.heap.size ≤ b) y01 f1 { n1 with m := m' } _ (.slice none 0 0) (.slice none 0 0) l ⟨0, 0, []⟩ 0 [] none W h1 hl (fun b hb => by omega) (Row.nil _ _ _) (ORow.nil _ _) ⟨by simp, by simp⟩ (fun b hb => hb.elim)
  (.inl ⟨rfl, by decide, hp⟩) hf hk1
 rw [Pure.actsP_none] at hp
 exact hp
namespace Pure
def amid (l others : List Opt) : Bool := l.all fun o => others.any fun q => decide (o = q)
def Neg.refuses (n : Neg) (p : Pkt) : Prop :=
 n.m.state ≤ 1 ∨ (p.code = 1 ∧ (split p.data).1 ≠ 0) ∨
 ((p.code = 2 ∨ p.code = 3 ∨ p.code = 4) ∧ ((n.waits = false ∨ p.id ≠ n.asked) ∨ (split p.data).1 ≠ 0 ∨ (p.code = 2 ∧ (split p.data).2 ≠ (split n.ours).2) ∨ (p.code = 4 ∧ amid (split p.data).2 (split n.ours).2 = false))) ∨
 (p.code = 7 ∧ p.data = [])
def Neg.heedsBy (n : Neg) (p : Pkt) (j : Nat × List Opt) : Nat × Neg × Reply :=
 if p.code = 1 then (if j.1 = 2 then 6 else 7, n, ⟨p, j.1, j.2⟩)
 else if p.code = 2 then (8, { n with waits := false, acked := (split n.ours).2 }, ⟨p, 0, []⟩)
 else if p.code = 3 then (9, { n with waits := false, request := naked n.rules n.request (split p.data).2 }, ⟨p, 0, []⟩)
 else if p.code = 4 then (9, { n with waits := false, request := left n.rules n.request (split p.data).2 }, ⟨p, 0, []⟩)
 else if p.code = 5 then (10, n, ⟨p, 0, []⟩)
 else if p.code = 6 then (11, n, ⟨p, 0, []⟩)
 else if p.code = 7 then (if 1 ≤ (p.data.headD 0).toNat ∧ (p.data.headD 0).toNat ≤ 7 then 14 else 13, n, ⟨p, 0, []⟩)
 else (12, n, ⟨p, 0, []⟩)
def Neg.heeds (n : Neg) (p : Pkt) : Nat × Neg × Reply := n.heedsBy p (judge n.rules (split p.data).2 (decide (n.m.tries ≤ n.naks)))
def Neg.eventP (n : Neg) (e : Nat) (r : Option Reply) : Neg × Said := { n with m := (n.m.act2 e).2 }.actsP (n.m.act2 e).1 r
theorem actP_some (s : Neg × Said) (q : Reply) (hq : q.code ≠ 2) : ∀ a, negActP (some q) s a = y2o (some q) s a
 | 0 => rfl | 1 => rfl | 2 => rfl | 3 => rfl | 4 => rfl | 5 => rfl | 6 => rfl
 | 7 => by show y16 s (some q) = y3w s (some q); unfold y16 y3w; simp only [if_neg hq]
 | 8 => by show y16 s (some q) = y3w s (some q); unfold y16 y3w; simp only [if_neg hq]
 | 9 => rfl | 10 => rfl | 11 => rfl
 | _ + 12 => rfl
theorem y65 (n : Neg) (e : Nat) (q : Reply) (hq : q.code ≠ 2) : n.eventP e (some q) = n.event e (some q) := by
 have h : negActP (some q) = y2o (some q) := funext fun s => funext fun a => actP_some s q hq a
 unfold Neg.eventP Neg.event Neg.actsP Neg.acts
 rw [h]
theorem y2q (n : Neg) (e : Nat) (p : Pkt) : n.eventP e (some ⟨p, 0, []⟩) = n.event e (some ⟨p, 0, []⟩) := y65 n e _ (show (0 : Nat) ≠ 2 by decide)
theorem y9r {n : Neg} (hs : 2 ≤ n.m.state) (h9 : n.m.state ≤ 9) (q : Reply) (hq : q.code = 2) :
  n.eventP 6 (some q) = if (n.event 6 (some q)).1.m.state = 8 ∨ (n.event 6 (some q)).1.m.state = 9 then ({ (n.event 6 (some q)).1 with theirs := q.l }, (n.event 6 (some q)).2) else n.event 6 (some q) := by
 obtain ⟨p, code, l⟩ := q
 dsimp only at hq
 subst hq
 obtain ⟨rules, first, request, ⟨st, c, lf, t, u⟩, id, asked, naks, waits, acked, theirs, dropped, ours⟩ := n
 dsimp only at hs h9
 obtain rfl | rfl | rfl | rfl | rfl | rfl | rfl | rfl : st = 2 ∨ st = 3 ∨ st = 4 ∨ st = 5 ∨ st = 6 ∨ st = 7 ∨ st = 8 ∨ st = 9 := by omega
 ·rw [if_neg (by rw [y25]; show ¬ ((2 : Nat) = 8 ∨ (2 : Nat) = 9); decide)]; rfl
 ·rw [if_pos (by rw [y25]; exact .inl rfl)]; rfl
 ·rw [if_neg (by rw [y25]; show ¬ ((4 : Nat) = 8 ∨ (4 : Nat) = 9); decide)]; rfl
 ·rw [if_neg (by rw [y25]; show ¬ ((5 : Nat) = 8 ∨ (5 : Nat) = 9); decide)]; rfl
 ·rw [if_pos (by rw [y25]; exact .inl rfl)]; rfl
 ·rw [if_pos (by rw [y25]; exact .inr rfl)]; rfl
 ·rw [if_pos (by rw [y25]; exact .inl rfl)]; rfl
 ·rw [if_pos (by rw [y25]; exact .inl rfl)]; rfl
theorem yb5 (rules : List Rule) (l : List Opt) (rejects : Bool) (h : (judge rules l rejects).1 = 2) : (judge rules l rejects).2 = l := by
 revert h
 unfold judge
 dsimp only
 by_cases h1 : (judgeTo rules rejects l l.length).1 ≠ []
 ·rw [if_pos h1]; intro h; exact absurd h (show ¬ (4 : Nat) = 2 by decide)
 ·rw [if_neg h1]
  generalize (if rejects = true then (judgeTo rules rejects l l.length).2 else y1f rules l (judgeTo rules rejects l l.length).2 rules.length) = nak
  by_cases h2 : nak ≠ []
  ·rw [if_pos h2]; intro h; exact absurd h (show ¬ (3 : Nat) = 2 by decide)
  ·rw [if_neg h2]; intro _; rfl
theorem input_refused {n : Neg} {p : Pkt} (hw : n.Well) (h : n.refuses p) : n.input p = n.drop := by
 unfold Neg.input
 by_cases hs : n.m.state ≤ 1
 ·rw [if_pos hs]
 rw [if_neg hs]
 rcases h with h | ⟨h1, h2⟩ | ⟨h1, h2⟩ | ⟨h1, h2⟩
 ·exact absurd h hs
 ·rw [if_pos h1, if_pos h2]
 ·have c1 : ¬ p.code = 1 := by omega
  rw [if_neg c1, if_pos h1]
  unfold Neg.answered
  by_cases ho : n.waits = false ∨ p.id ≠ n.asked
  ·rw [if_pos ho]
  rw [if_neg ho]
  rcases h2 with h2 | h2 | ⟨h2, h3⟩ | ⟨h2, h3⟩
  ·exact absurd h2 ho
  ·by_cases c2 : p.code = 2
   ·rw [if_pos c2, if_neg (fun e => h2 (by rw [e, ← hw.ours, y0e hw.asked]))]
   ·rw [if_neg c2, if_pos h2]
  ·rw [if_pos h2, if_neg (fun e => h3 (by rw [e]))]
  ·rw [if_neg (show ¬ p.code = 2 by omega)]
   by_cases hsp : (split p.data).1 ≠ 0
   ·rw [if_pos hsp]
   ·unfold amid at h3
    rw [if_neg hsp, if_pos h2, if_neg (fun e => by rw [e] at h3; cases h3)]
 ·rw [if_neg (by omega), if_neg (by omega), if_neg (by omega), if_neg (by omega), if_pos h1, h2]
theorem yf4 {n : Neg} {p : Pkt} (hw : n.Well) (h : ¬ n.refuses p) : n.input p = (n.heeds p).2.1.eventP (n.heeds p).1 (some (n.heeds p).2.2) := by
 have hs : ¬ n.m.state ≤ 1 := fun e => h (.inl e)
 have hs9 := hw.good.state
 unfold Neg.input Neg.heeds Neg.heedsBy
 rw [if_neg hs]
 by_cases c1 : p.code = 1
 ·have hsp : ¬ (split p.data).1 ≠ 0 := fun e => h (.inr (.inl ⟨c1, e⟩))
  rw [if_pos c1, if_pos c1, if_neg hsp]
  unfold Neg.judged
  have hA := yb5 n.rules (split p.data).2 (decide (n.m.tries ≤ n.naks))
  obtain ⟨k, a⟩ : ∃ j, j = judge n.rules (split p.data).2 (decide (n.m.tries ≤ n.naks)) := ⟨_, rfl⟩
  rw [← a] at hA ⊢
  dsimp only
  by_cases hk : k.1 = 2
  ·have hA := hA hk
   rw [if_pos hk, y9r (by omega) (by omega) _ hk]
   simp only [hk, true_and, hA]
  ·rw [if_neg hk, y65 _ _ _ hk]
   simp only [hk, false_and, if_false]
 rw [if_neg c1, if_neg c1]
 by_cases c2 : p.code = 2
 ·have hn : ¬ (n.waits = false ∨ p.id ≠ n.asked) := fun e => h (.inr (.inr (.inl ⟨.inl c2, .inl e⟩)))
  have hsp : ¬ (split p.data).1 ≠ 0 := fun e => h (.inr (.inr (.inl ⟨.inl c2, .inr (.inl e)⟩)))
  have heq : (split p.data).2 = (split n.ours).2 := Classical.byContradiction fun e => h (.inr (.inr (.inl ⟨.inl c2, .inr (.inr (.inl ⟨c2, e⟩))⟩)))
  have hd : p.data = n.ours := by
   have h1 : split p.data = (0, (split p.data).2) := by rw [← show (split p.data).1 = 0 by omega]
   have h2 := y5t h1
   have h3 := hw.ours
   rw [← heq, h2] at h3
   exact h3
  rw [if_pos (.inl c2), if_pos c2]
  unfold Neg.answered
  rw [if_neg hn, if_pos c2, if_pos hd]
  dsimp only
  rw [y2q]
 rw [if_neg c2]
 by_cases c3 : p.code = 3
 ·have hn : ¬ (n.waits = false ∨ p.id ≠ n.asked) := fun e => h (.inr (.inr (.inl ⟨.inr (.inl c3), .inl e⟩)))
  have hsp : ¬ (split p.data).1 ≠ 0 := fun e => h (.inr (.inr (.inl ⟨.inr (.inl c3), .inr (.inl e)⟩)))
  rw [if_pos (.inr (.inl c3)), if_pos c3]
  unfold Neg.answered
  rw [if_neg hn, if_neg c2, if_neg hsp, if_neg (by omega)]
  dsimp only
  rw [y2q]
 rw [if_neg c3]
 by_cases c4 : p.code = 4
 ·have hn : ¬ (n.waits = false ∨ p.id ≠ n.asked) := fun e => h (.inr (.inr (.inl ⟨.inr (.inr c4), .inl e⟩)))
  have hsp : ¬ (split p.data).1 ≠ 0 := fun e => h (.inr (.inr (.inl ⟨.inr (.inr c4), .inr (.inl e)⟩)))
  have hin : amid (split p.data).2 (split n.ours).2 = true := by
   cases hx : amid (split p.data).2 (split n.ours).2
   ·exact absurd (.inr (.inr (.inl ⟨.inr (.inr c4), .inr (.inr (.inr ⟨c4, hx⟩))⟩))) h
   ·rfl
  unfold amid at hin
  rw [if_pos (.inr (.inr c4)), if_pos c4]
  unfold Neg.answered
  rw [if_neg hn, if_neg c2, if_neg hsp, if_pos c4, if_pos hin]
  dsimp only
  rw [y2q]
 rw [if_neg c4, if_neg (by omega)]
 by_cases c5 : p.code = 5
 ·rw [if_pos c5, if_pos c5]
  dsimp only
  rw [y2q]
 rw [if_neg c5, if_neg c5]
 by_cases c6 : p.code = 6
 ·rw [if_pos c6, if_pos c6]
  dsimp only
  rw [y2q]
 rw [if_neg c6, if_neg c6]
 by_cases c7 : p.code = 7
 ·rw [if_pos c7, if_pos c7]
  dsimp only
  rw [y2q]
  have hne : p.data ≠ [] := fun e => h (.inr (.inr (.inr ⟨c7, e⟩)))
  cases hb : p.data with
  | nil => exact absurd hb hne
  | cons b r =>
   simp only [List.headD_cons]
   by_cases hq : 1 ≤ b.toNat ∧ b.toNat ≤ 7
   ·rw [if_pos hq]; exact congrArg (fun e => n.event e (some ⟨p, 0, []⟩)) (if_pos hq).symm
   ·rw [if_neg hq]; exact congrArg (fun e => n.event e (some ⟨p, 0, []⟩)) (if_neg hq).symm
 ·rw [if_neg c7, if_neg c7]
  dsimp only
  rw [y2q]
theorem fine_naked {rules : List Rule} {ask nak : List Opt} (ha : Fine ask) (hn : Fine nak) : Fine (naked rules ask nak) := by
 refine ⟨by unfold naked; rw [List.length_map]; exact ha.len, fun o ho => ?_⟩
 unfold naked at ho
 obtain ⟨x, hx, rfl⟩ := List.mem_map.1 ho
 have h0 := ha.odd x hx
 unfold nakedOne
 split
 ·exact h0
 ·rename_i p hp
  have hpn := hn.odd p (List.mem_of_find?_eq_some hp)
  split
  ·exact h0
  ·rename_i r hr
   unfold Opt.odd at h0 hpn ⊢
   split
   ·dsimp only; omega
   ·split
    ·rename_i hc
     have := hc.2.1; have := hc.2.2.1
     dsimp only
     rw [wide_length]; omega
    ·split
     ·rename_i hc
      have := hc.2.1; have := hc.2.2.1
      dsimp only
      rw [wide_length]; omega
     ·exact h0
theorem fine_left {rules : List Rule} {ask rej : List Opt} (ha : Fine ask) : Fine (left rules ask rej) := y0w ha _
theorem fine_of_split {b : List UInt8} (h : (split b).1 = 0) : Fine (split b).2 := by
 have h1 : split b = (0, (split b).2) := by rw [← h]
 have h2 := y5t h1
 exact y9k (by rw [h2])
theorem heeds_well {n : Neg} {p : Pkt} (hw : n.Well) (h : ¬ n.refuses p) (j : Nat × List Opt) : (n.heedsBy p j).2.1.Well := by
 have hsp : (p.code = 3 ∨ p.code = 4) → (split p.data).1 = 0 := fun hc => Classical.byContradiction fun e => h (.inr (.inr (.inl ⟨.inr hc, .inr (.inl e)⟩)))
 unfold Neg.heedsBy
 split
 ·exact hw
 split
 ·exact ⟨hw.good, hw.tries, hw.timeout, hw.id, hw.first, hw.request, hw.asked, hw.ours⟩
 split
 ·rename_i c3
  exact ⟨hw.good, hw.tries, hw.timeout, hw.id, hw.first, fine_naked hw.request (fine_of_split (hsp (.inl c3))), hw.asked, hw.ours⟩
 split
 ·exact ⟨hw.good, hw.tries, hw.timeout, hw.id, hw.first, fine_left hw.request, hw.asked, hw.ours⟩
 split
 ·exact hw
 split
 ·exact hw
 split <;> exact hw
end Pure
end Go.Proofs.YtmgicbckgpdkcaaGreatDoor
