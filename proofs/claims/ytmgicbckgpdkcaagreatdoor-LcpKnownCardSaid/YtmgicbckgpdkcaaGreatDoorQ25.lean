/- Package nego: perform. -/
import Derived.Test.YtmgicbckgpdkcaaGreatDoorQ24
import Derived.Test.YtmgicbckgpdkcaaGreatDoorQ20
namespace Go.Proofs.YtmgicbckgpdkcaaGreatDoor
set_option maxRecDepth 100000
set_option maxHeartbeats 16000000
open Lib renaming hid → xhd
open Go.RowKit
theorem out_info : (Tryz.prog.info? 59).map (·.size) = some 5 := by kernel_rfl
def Outs (w w' : World) (v : Value) (o : Pure.Said) : Prop :=
 ∃ sv, ∃ ps : List (Value × Pure.Pkt), v = .agg #[sv, .bool o.up, .bool o.down, .bool o.start, .bool o.done] ∧ PRow w' (fun b => w.heap.size ≤ b ∧ b < w'.heap.size) sv ps ∧ ps.map Prod.snd = o.send ∧ ps.length ≤ 100
def Becomes (w w' : World) (g : Nat) (R : Nat → Prop) (f : NF) (n : Pure.Neg) : Prop :=
 ∃ f' R', NObj w' g R' f' n ∧ f'.gm = f.gm ∧ (∀ b, R' b → R b ∨ w.heap.size ≤ b) ∧ Keeps (fun b => b = g ∨ b = f.gm) w w'
theorem PI.more {w1 w : World} {g go : Nat} {R R' : Nat → Prop} {m : Nat} {gm : GM} {s : Pure.Neg × Pure.Said} {f : NF} {sv : Value} {ps : List (Value × Pure.Pkt)} (h : PI w1 w g go R gm s m f R' sv ps) : PI w1 w g go R gm s (m + 1) f R' sv ps :=
 ⟨h.obj, h.gm, h.sub, h.out, h.sent, h.pkts, Nat.le_succ_of_le h.few, h.apart, h.kept, by have := h.naks; omega⟩
theorem act_else (r : Option Pure.Reply) (s : Pure.Neg × Pure.Said) (X : Nat) (h : X ≠ 0 ∧ X ≠ 1 ∧ X ≠ 2 ∧ X ≠ 3 ∧ X ≠ 6 ∧ X ≠ 7 ∧ X ≠ 8 ∧ X ≠ 9 ∧ X ≠ 10 ∧ X ≠ 11) : Pure.negActP r s X = s := by
 unfold Pure.negActP
 split <;> first | rfl | omega
theorem perform_all (g : Nat) (R Fl Fc : Nat → Prop) (f : NF) (n : Pure.Neg) (lv d ov : Value) (l : List Nat) (p : Pure.Pkt) (code : Nat) (zs : List (Value × Pure.Opt)) (r : Option Pure.Reply) (w : World) (h : NObj w g R f n)
  (hl : Row w Fl 1 lv l.length (ints l)) (hFl : ∀ b, Fl b → b ≠ g) (hd : Row w Fc 1 d p.data.length (u8s p.data)) (hz : ORow w Fc ov zs) (hfz : FewOpts zs) (hFc : ∀ b, Fc b → b < w.heap.size ∧ b ≠ g)
  (hr : (r = none ∧ p.code ≠ 5 ∧ ∀ a ∈ l, a ≠ 7 ∧ a ≠ 8 ∧ a ≠ 11) ∨ r = some ⟨p, code, optsOf zs⟩) (hll : l.length ≤ 100) (hnk : n.naks ≤ 1000) :
  Calls Tryz.prog 125 #[.pointer (some ⟨g, 0, none⟩), lv, causeV p d (code : Int) ov] w fun e w' => ∃ v, e = .returned v ∧ Outs w w' v (n.actsP l r).2 ∧ Becomes w w' g R f (n.actsP l r).1 := by
 obtain ⟨LA, lc, rfl, _⟩ := hl.form
 obtain ⟨D, cd, rfl, _⟩ := hd.form
 obtain ⟨O, co, rfl, _⟩ := hz.form
 have hgl := h.blk.lt
 have hml := Blk.lt h.mach
 have HI := xhd out_info
 obtain ⟨rc, hrc⟩ : ∃ q, q = w.heap.size := ⟨_, rfl⟩
 obtain ⟨ro, hro⟩ : ∃ q, q = rc + 1 := ⟨_, rfl⟩
 obtain ⟨go, hgo⟩ : ∃ q, q = ro + 1 := ⟨_, rfl⟩
 go_enter Tryz.func125, Tryz.ntmps125
 go_upto_region 2 with fail
 simp only [← hrc, ← hro, ← hgo]
 generalize hw1 : ((w.alloc _).alloc _).alloc _ = w1
 have hk1 : Keeps nobody w w1 := by rw [← hw1]; exact (((Keeps.refl _ w).alloc _).alloc _).alloc _
 have hC1 : Blk w1 rc 180 #[.int .i64 p.code, .int .i64 p.id, .slice D p.data.length cd, .int .i64 (code : Int), .slice O zs.length co] := by rw [← hw1, hrc]; exact ((Blk.new w _ _).alloc _).alloc _
 have hR1 : Blk w1 ro 59 #[.slice none 0 0, .bool false, .bool false, .bool false, .bool false] := by
  rw [← hw1, show ro = (w.alloc (.cells #[.int .i64 p.code, .int .i64 p.id, .slice D p.data.length cd, .int .i64 (code : Int), .slice O zs.length co] 180)).heap.size by rw [hro, hrc]; simp]
  exact (Blk.new _ _ _).alloc _
 have hO1 : Blk w1 go 59 #[.slice none 0 0, .bool false, .bool false, .bool false, .bool false] := by
  rw [← hw1, show go = ((w.alloc (.cells #[.int .i64 p.code, .int .i64 p.id, .slice D p.data.length cd, .int .i64 (code : Int), .slice O zs.length co] 180)).alloc (.cells #[.slice none 0 0, .bool false, .bool false, .bool false, .bool false] 59)).heap.size by rw [hgo, hro, hrc]; simp]
  exact Blk.new _ _ _
 have hs1 : w1.heap.size = rc + 3 := by rw [← hw1, hrc]; simp
 have HPS := xhd (show PS w1 g go R f.gm from ⟨by omega, by omega, by omega, by omega, by omega, fun e => by have := h.lt go e; omega⟩)
 have HPI0 := xhd (show PI w1 w1 g go R f.gm (n, Pure.mute) 0 f R (.slice none 0 0) [] from
  ⟨h.keeps hk1 (fun h => h) (fun h => h) (fun _ _ h => h), rfl, fun b hb => .inl hb, hO1, PSent.nil w1, rfl, by simp, fun b _ e => (by cases e), Keeps.refl _ _, (by show n.naks ≤ 1000 + 0; omega)⟩)
 have HKW1 := xhd hk1
 have HC1 := xhd hC1
 have HR1 := xhd hR1
 have HL1 := xhd (hl.keeps hk1 (fun _ _ h => h))
 have HD1 := xhd (hd.keeps hk1 (fun _ _ h => h))
 have HZ1 := xhd (hz.keeps hk1 (fun _ _ h => h))
 have HFL := xhd (show ∀ b, Fl b → b < w.heap.size → ¬ (b = g ∨ b = go) from fun b hb hlt e => by rcases e with e | e; exact hFl b hb e; omega)
 have HFC := xhd hFc
 have HFZ := xhd hfz
 have HR := xhd hr
 have HRCN := xhd (show ¬ (rc = g ∨ rc = go) by omega)
 have HRON := xhd (show ¬ (ro = g ∨ ro = go) by omega)
 have HGW := xhd (show go = w.heap.size + 2 by omega)
 have HRW := xhd (show ro = w.heap.size + 1 by omega)
 have HLS := xhd (hl.strongN (by omega))
 have HMG := xhd (show f.gm < w.heap.size by omega)
 have HLT := xhd (fun b (hb : R b) => show b < w.heap.size from by have := h.lt b hb; omega)
 clear hw1 hk1 hC1 hR1 hO1 h hl hFl hd hz hfz hFc hr hgl hml hs1 hrc hro hgo
 go_wp2_with fail
 go_loopw [12] (fun i wr => ∃ k : Nat, k ≤ l.length ∧ i = .int .i64 (k : Int) ∧ ∃ f' R' sv ps, PI w1 wr g go R f.gm ((l.take k).foldl (Pure.negActP r) (n, Pure.mute)) k f' R' sv ps) (fun i _ => l.length - (intOf i).toNat)
 case atStart => exact ⟨0, by omega, rfl, f, R, _, [], HPI0.out⟩
 case round =>
  clear HPI0
  obtain ⟨k, hk, rfl, f', R', sv, ps, hpi⟩ := hrel
  obtain ⟨s, hs⟩ : ∃ s, s = (l.take k).foldl (Pure.negActP r) (n, Pure.mute) := ⟨_, rfl⟩
  rw [← hs] at hpi
  have HSS := xhd hs
  have HPI := xhd hpi
  clear hs hpi
  by_cases hkl : k < l.length
  ·have i0 : (0 : Int) ≤ (k : Int) := by omega
   have i1 : (k : Int) < (l.length : Int) := by omega
   obtain ⟨bl, ol, rfl, hFb, hcl⟩ := (HLS.out.keeps HKW1.out (fun _ _ h => h)).cellAt (by omega)
   have hcx : wr.cell? ⟨bl, ol + k, none⟩ = some (.int .i64 ((l.getD k 0 : Nat) : Int)) := kept_cell HPI.out.kept (hcl k _ (ints_at l k hkl)) (HFL.out bl hFb.1 hFb.2)
   obtain ⟨X, hX⟩ : ∃ X, X = l.getD k 0 := ⟨_, rfl⟩
   rw [← hX] at hcx
   have hlk : l[k]? = some X := by rw [hX, List.getD_eq_getElem?_getD, List.getElem?_eq_getElem hkl]; rfl
   have HMEM := xhd (show X ∈ l from List.mem_of_getElem? hlk)
   have HFOLD := xhd (show (l.take (k + 1)).foldl (Pure.negActP r) (n, Pure.mute) = Pure.negActP r s X by rw [Pure.take_snoc l k X hlk, List.foldl_append, ← HSS.out]; rfl)
   have HCB := xhd (HC1.out.keeps HPI.out.kept HRCN.out)
   have HDR := xhd (HD1.out.keeps HPI.out.kept (fun b hb e => by have h1 := HFC.out b hb; have := HGW.out; rcases e with e | e; exact h1.2 e; omega))
   have HZR := xhd (HZ1.out.keeps HPI.out.kept (fun b hb e => by have h1 := HFC.out b hb; have := HGW.out; rcases e with e | e; exact h1.2 e; omega))
   clear hcl hFb hX hlk
   by_cases q0 : X = 0
   ·subst q0
    have HC0 := HCB
    have HP2 := xhd (HPI.out.flag HPS.out 1 true s.2.down s.2.start s.2.done rfl)
    have c0 : wr.cell? ⟨go, 1, none⟩ = some (.bool s.2.up) := by rw [HPI.out.out.cell]; rfl
    have f0 := HPI.out.out.frozen 1
    go_wp2_with fail
    go_roundw
    case rel => exact ⟨k + 1, by omega, by go_num, _, _, _, _, by rw [HFOLD.out]; exact HP2.out.more⟩
    case measure => simp [intOf] <;> omega
   have e0 : ((X : Int) == 0) = false := by rw [beq_eq_false_iff_ne]; omega
   by_cases q1 : X = 1
   ·subst q1
    have HC0 := HCB
    have HP2 := xhd (HPI.out.flag HPS.out 2 s.2.up true s.2.start s.2.done rfl)
    have c0 : wr.cell? ⟨go, 2, none⟩ = some (.bool s.2.down) := by rw [HPI.out.out.cell]; rfl
    have f0 := HPI.out.out.frozen 2
    go_wp2_with fail
    go_roundw
    case rel => exact ⟨k + 1, by omega, by go_num, _, _, _, _, by rw [HFOLD.out]; exact HP2.out.more⟩
    case measure => simp [intOf] <;> omega
   have e1 : ((X : Int) == 1) = false := by rw [beq_eq_false_iff_ne]; omega
   by_cases q2 : X = 2
   ·subst q2
    have HC0 := HCB
    have HP2 := xhd (HPI.out.flag HPS.out 3 s.2.up s.2.down true s.2.done rfl)
    have c0 : wr.cell? ⟨go, 3, none⟩ = some (.bool s.2.start) := by rw [HPI.out.out.cell]; rfl
    have f0 := HPI.out.out.frozen 3
    obtain ⟨zf, hzf, hze, hzw⟩ := HP2.out.obj.first
    have HBG := xhd (begin_any R' g f' zf _ HP2.out.obj.blk hzf hzw)
    have HZE := xhd hze
    clear hzf hze hzw
    go_wp2_with fail
    refine HBG.out.mono ?_
    rintro e w8 ⟨rfl, u8', q8, hq8, hr8, hb8, hk8⟩
    have HP8 := xhd (HP2.out.turned HPS.out (HP2.out.obj.begun hk8 (hq8.trans HZE.out) hr8 hb8) rfl hk8 (Nat.zero_le _))
    clear hq8 hr8 hb8 hk8 HBG c0 f0
    go_wp2_with fail
    go_roundw
    case rel => exact ⟨k + 1, by omega, by go_num, _, _, _, _, by rw [HFOLD.out]; exact HP8.out.more⟩
    case measure => simp [intOf] <;> omega
   have e2 : ((X : Int) == 2) = false := by rw [beq_eq_false_iff_ne]; omega
   by_cases q3 : X = 3
   ·subst q3
    have HC0 := HCB
    have HP2 := xhd (HPI.out.flag HPS.out 4 s.2.up s.2.down s.2.start true rfl)
    have c0 : wr.cell? ⟨go, 4, none⟩ = some (.bool s.2.done) := by rw [HPI.out.out.cell]; rfl
    have f0 := HPI.out.out.frozen 4
    go_wp2_with fail
    go_roundw
    case rel => exact ⟨k + 1, by omega, by go_num, _, _, _, _, by rw [HFOLD.out]; exact HP2.out.more⟩
    case measure => simp [intOf] <;> omega
   have e3 : ((X : Int) == 3) = false := by rw [beq_eq_false_iff_ne]; omega
   by_cases q6 : X = 6
   ·subst q6
    have HC0 := HCB
    obtain ⟨zq, hzq, hqe, hqw⟩ := HPI.out.obj.request
    have HAS := xhd (ask_as R' g f' zq s.1.next wr HPI.out.obj.blk (fun b hb => ⟨HPI.out.obj.lt b hb, fun e => HPI.out.obj.ng (e ▸ hb)⟩) hzq hqw (by rw [HPI.out.obj.e2]; exact HPI.out.obj.well.id) (by rw [HPI.out.obj.e2]; rfl))
    rw [hqe] at HAS
    have HQE := xhd hqe
    clear hzq hqe hqw
    go_wp2_with fail
    refine HAS.out.mono ?_
    rintro e w8 ⟨B, cb, u8', q8, rfl, hrow8, hq8, hr8, hb8, hk8⟩
    have HSN := xhd (HPI.out.sends HPS.out (HPI.out.obj.asks hk8 hq8 hr8 hb8) rfl hk8 ⟨1, (s.1.next : Nat), (Pure.options s.1.request).2⟩ (.slice B (Pure.options s.1.request).2.length cb) hrow8 (by omega) (Nat.le_succ _))
    clear hrow8 hq8 hr8 hb8 hk8 HAS
    go_wp2_with fail
    refine HSN.out.mono ?_
    rintro e w9 ⟨rfl, sv9, ps9, hpi9⟩
    have HP9 := xhd hpi9
    clear hpi9 HSN
    go_wp2_with fail
    go_roundw
    case rel => exact ⟨k + 1, by omega, by go_num, _, _, _, _, by rw [HFOLD.out]; exact HP9.out⟩
    case measure => simp [intOf] <;> omega
   have e6 : ((X : Int) == 6) = false := by rw [beq_eq_false_iff_ne]; omega
   by_cases q7 : X = 7
   ·subst q7
    have HC0 := HCB
    have b0 : wr.cell? ⟨rc, 0, none⟩ = some (.int .i64 p.code) := by rw [HCB.out.cell]; rfl
    have b1 : wr.cell? ⟨rc, 1, none⟩ = some (.int .i64 p.id) := by rw [HCB.out.cell]; rfl
    have b2 : wr.cell? ⟨rc, 2, none⟩ = some (.slice D p.data.length cd) := by rw [HCB.out.cell]; rfl
    have b3 : wr.cell? ⟨rc, 3, none⟩ = some (.int .i64 (code : Int)) := by rw [HCB.out.cell]; rfl
    have b4 : wr.cell? ⟨rc, 4, none⟩ = some (.slice O zs.length co) := by rw [HCB.out.cell]; rfl
    have hrs : r = some ⟨p, code, optsOf zs⟩ := by
     rcases HR.out with ⟨_, _, hn⟩ | h
     ·have := hn _ HMEM.out; omega
     ·exact h
    have HFOLD := xhd (HFOLD.out.trans (show Pure.negActP r s 7 = ({ s.1 with naks := if code = 3 then s.1.naks + 1 else s.1.naks, theirs := if code = 2 then optsOf zs else s.1.theirs }, s.2.more ⟨code, p.id, (Pure.options (optsOf zs)).2⟩) by rw [hrs]; rfl))
    have HAN := xhd (answer_any Fc g f' p (.slice D p.data.length cd) (code : Int) (.slice O zs.length co) zs wr HPI.out.obj.blk (fun b hb => ⟨Nat.lt_of_lt_of_le (HFC.out b hb).1 (Nat.le_trans HKW1.out.size HPI.out.kept.size), (HFC.out b hb).2⟩) HZR.out HFZ.out (by rw [HPI.out.obj.e3]; have := HPI.out.naks; omega))
    clear hrs
    go_wp2_with fail
    refine HAN.out.mono ?_
    rintro e w8 ⟨B, cb, f8, rfl, hrow8, ha8, hb8, hk8⟩
    obtain ⟨ho8, hg8⟩ := HPI.out.obj.answers (q := ⟨p, code, optsOf zs⟩) hk8 rfl HFZ.out ha8 hb8
    have HSN := xhd (HPI.out.sends HPS.out ho8 hg8 hk8 ⟨code, p.id, (Pure.options (optsOf zs)).2⟩ (.slice B (Pure.options (optsOf zs)).2.length cb) hrow8 (by omega) (by show (if code = 3 then s.1.naks + 1 else s.1.naks) ≤ _; split <;> omega))
    clear hrow8 ha8 hb8 hk8 HAN ho8 hg8
    clear b0 b1 b2 b3 b4
    go_wp2_with fail
    refine HSN.out.mono ?_
    rintro e w9 ⟨rfl, sv9, ps9, hpi9⟩
    have HP9 := xhd hpi9
    clear hpi9 HSN
    go_wp2_with fail
    go_roundw
    case rel => exact ⟨k + 1, by omega, by go_num, _, _, _, _, by rw [HFOLD.out]; exact HP9.out⟩
    case measure => simp [intOf] <;> omega
   have e7 : ((X : Int) == 7) = false := by rw [beq_eq_false_iff_ne]; omega
   by_cases q8 : X = 8
   ·subst q8
    have HC0 := HCB
    have b0 : wr.cell? ⟨rc, 0, none⟩ = some (.int .i64 p.code) := by rw [HCB.out.cell]; rfl
    have b1 : wr.cell? ⟨rc, 1, none⟩ = some (.int .i64 p.id) := by rw [HCB.out.cell]; rfl
    have b2 : wr.cell? ⟨rc, 2, none⟩ = some (.slice D p.data.length cd) := by rw [HCB.out.cell]; rfl
    have b3 : wr.cell? ⟨rc, 3, none⟩ = some (.int .i64 (code : Int)) := by rw [HCB.out.cell]; rfl
    have b4 : wr.cell? ⟨rc, 4, none⟩ = some (.slice O zs.length co) := by rw [HCB.out.cell]; rfl
    have hrs : r = some ⟨p, code, optsOf zs⟩ := by
     rcases HR.out with ⟨_, _, hn⟩ | h
     ·have := hn _ HMEM.out; omega
     ·exact h
    have HFOLD := xhd (HFOLD.out.trans (show Pure.negActP r s 8 = ({ s.1 with naks := if code = 3 then s.1.naks + 1 else s.1.naks, theirs := if code = 2 then optsOf zs else s.1.theirs }, s.2.more ⟨code, p.id, (Pure.options (optsOf zs)).2⟩) by rw [hrs]; rfl))
    have HAN := xhd (answer_any Fc g f' p (.slice D p.data.length cd) (code : Int) (.slice O zs.length co) zs wr HPI.out.obj.blk (fun b hb => ⟨Nat.lt_of_lt_of_le (HFC.out b hb).1 (Nat.le_trans HKW1.out.size HPI.out.kept.size), (HFC.out b hb).2⟩) HZR.out HFZ.out (by rw [HPI.out.obj.e3]; have := HPI.out.naks; omega))
    clear hrs
    go_wp2_with fail
    refine HAN.out.mono ?_
    rintro e w8 ⟨B, cb, f8, rfl, hrow8, ha8, hb8, hk8⟩
    obtain ⟨ho8, hg8⟩ := HPI.out.obj.answers (q := ⟨p, code, optsOf zs⟩) hk8 rfl HFZ.out ha8 hb8
    have HSN := xhd (HPI.out.sends HPS.out ho8 hg8 hk8 ⟨code, p.id, (Pure.options (optsOf zs)).2⟩ (.slice B (Pure.options (optsOf zs)).2.length cb) hrow8 (by omega) (by show (if code = 3 then s.1.naks + 1 else s.1.naks) ≤ _; split <;> omega))
    clear hrow8 ha8 hb8 hk8 HAN ho8 hg8
    clear b0 b1 b2 b3 b4
    go_wp2_with fail
    refine HSN.out.mono ?_
    rintro e w9 ⟨rfl, sv9, ps9, hpi9⟩
    have HP9 := xhd hpi9
    clear hpi9 HSN
    go_wp2_with fail
    go_roundw
    case rel => exact ⟨k + 1, by omega, by go_num, _, _, _, _, by rw [HFOLD.out]; exact HP9.out⟩
    case measure => simp [intOf] <;> omega
   have e8 : ((X : Int) == 8) = false := by rw [beq_eq_false_iff_ne]; omega
   by_cases q9 : X = 9
   ·subst q9
    have HC0 := HCB
    have HOW := xhd (own_as g f' 5 none 0 0 s.1.next wr HPI.out.obj.blk (by rw [HPI.out.obj.e2]; exact HPI.out.obj.well.id) (by rw [HPI.out.obj.e2]; rfl))
    go_wp2_with fail
    refine HOW.out.mono ?_
    rintro e w8 ⟨rfl, hb8, hk8⟩
    have HSN := xhd (HPI.out.sends HPS.out (HPI.out.obj.owned hk8 hb8) rfl hk8 ⟨5, (s.1.next : Nat), []⟩ (.slice none 0 0) (Row.nil _ _ _) (by omega) (Nat.le_succ _))
    clear hb8 hk8 HOW
    go_wp2_with fail
    refine HSN.out.mono ?_
    rintro e w9 ⟨rfl, sv9, ps9, hpi9⟩
    have HP9 := xhd hpi9
    clear hpi9 HSN
    go_wp2_with fail
    go_roundw
    case rel => exact ⟨k + 1, by omega, by go_num, _, _, _, _, by rw [HFOLD.out]; exact HP9.out⟩
    case measure => simp [intOf] <;> omega
   have e9 : ((X : Int) == 9) = false := by rw [beq_eq_false_iff_ne]; omega
   by_cases q10 : X = 10
   ·subst q10
    have HC0 := HCB
    have b0 : wr.cell? ⟨rc, 0, none⟩ = some (.int .i64 p.code) := by rw [HCB.out.cell]; rfl
    have b1 : wr.cell? ⟨rc, 1, none⟩ = some (.int .i64 p.id) := by rw [HCB.out.cell]; rfl
    have b2 : wr.cell? ⟨rc, 2, none⟩ = some (.slice D p.data.length cd) := by rw [HCB.out.cell]; rfl
    have b3 : wr.cell? ⟨rc, 3, none⟩ = some (.int .i64 (code : Int)) := by rw [HCB.out.cell]; rfl
    have b4 : wr.cell? ⟨rc, 4, none⟩ = some (.slice O zs.length co) := by rw [HCB.out.cell]; rfl
    by_cases h5 : p.code = 5
    ·have HFOLD := xhd (HFOLD.out.trans (show Pure.negActP r s 10 = (s.1, s.2.more ⟨6, p.id, []⟩) by
      rcases HR.out with ⟨_, hn, _⟩ | rfl
      ·exact absurd h5 hn
      ·show (if p.code = 5 then (s.1, s.2.more ⟨6, p.id, []⟩) else Pure.sendOwn s 6 []) = _
       rw [if_pos h5]))
     have HOW := xhd (terminated_req g f' p (.slice D p.data.length cd) (code : Int) (.slice O zs.length co) wr HPI.out.obj.blk h5)
     clear h5
     go_wp2_with fail
     refine HOW.out.mono ?_
     rintro e w8 ⟨rfl, hb8, hk8⟩
     have HSN := xhd (HPI.out.sends HPS.out (HPI.out.obj.same hk8 hb8) rfl hk8 ⟨6, p.id, []⟩ (.slice none 0 0) (Row.nil _ _ _) (by omega) (Nat.le_succ _))
     clear hb8 hk8 HOW
     clear b0 b1 b2 b3 b4
     go_wp2_with fail
     refine HSN.out.mono ?_
     rintro e w9 ⟨rfl, sv9, ps9, hpi9⟩
     have HP9 := xhd hpi9
     clear hpi9 HSN
     go_wp2_with fail
     go_roundw
     case rel => exact ⟨k + 1, by omega, by go_num, _, _, _, _, by rw [HFOLD.out]; exact HP9.out⟩
     case measure => simp [intOf] <;> omega
    ·have HFOLD := xhd (HFOLD.out.trans (show Pure.negActP r s 10 = Pure.sendOwn s 6 [] by
      rcases HR.out with ⟨rfl, _⟩ | rfl
      ·rfl
      ·show (if p.code = 5 then (s.1, s.2.more ⟨6, p.id, []⟩) else Pure.sendOwn s 6 []) = _
       rw [if_neg h5]))
     have HOW := xhd (terminated_own g f' p (.slice D p.data.length cd) (code : Int) (.slice O zs.length co) s.1.next wr HPI.out.obj.blk (by rw [HPI.out.obj.e2]; exact HPI.out.obj.well.id) (by rw [HPI.out.obj.e2]; rfl) h5)
     clear h5
     go_wp2_with fail
     refine HOW.out.mono ?_
     rintro e w8 ⟨rfl, hb8, hk8⟩
     have HSN := xhd (HPI.out.sends HPS.out (HPI.out.obj.owned hk8 hb8) rfl hk8 ⟨6, (s.1.next : Nat), []⟩ (.slice none 0 0) (Row.nil _ _ _) (by omega) (Nat.le_succ _))
     clear hb8 hk8 HOW
     clear b0 b1 b2 b3 b4
     go_wp2_with fail
     refine HSN.out.mono ?_
     rintro e w9 ⟨rfl, sv9, ps9, hpi9⟩
     have HP9 := xhd hpi9
     clear hpi9 HSN
     go_wp2_with fail
     go_roundw
     case rel => exact ⟨k + 1, by omega, by go_num, _, _, _, _, by rw [HFOLD.out]; exact HP9.out⟩
     case measure => simp [intOf] <;> omega
   have e10 : ((X : Int) == 10) = false := by rw [beq_eq_false_iff_ne]; omega
   by_cases q11 : X = 11
   ·subst q11
    have HC0 := HCB
    have b0 : wr.cell? ⟨rc, 0, none⟩ = some (.int .i64 p.code) := by rw [HCB.out.cell]; rfl
    have b1 : wr.cell? ⟨rc, 1, none⟩ = some (.int .i64 p.id) := by rw [HCB.out.cell]; rfl
    have b2 : wr.cell? ⟨rc, 2, none⟩ = some (.slice D p.data.length cd) := by rw [HCB.out.cell]; rfl
    have b3 : wr.cell? ⟨rc, 3, none⟩ = some (.int .i64 (code : Int)) := by rw [HCB.out.cell]; rfl
    have b4 : wr.cell? ⟨rc, 4, none⟩ = some (.slice O zs.length co) := by rw [HCB.out.cell]; rfl
    have hrs : r = some ⟨p, code, optsOf zs⟩ := by
     rcases HR.out with ⟨_, _, hn⟩ | h
     ·have := hn _ HMEM.out; omega
     ·exact h
    obtain ⟨E, hE⟩ : ∃ E, E = (Pure.encode p).2.take 1496 := ⟨_, rfl⟩
    have HFOLD := xhd (HFOLD.out.trans (show Pure.negActP r s 11 = Pure.sendOwn s 7 E by rw [hrs, hE]; rfl))
    have HRT := xhd (returned_any Fc (.slice D p.data.length cd) p wr (fun b hb => Nat.lt_of_lt_of_le (HFC.out b hb).1 (Nat.le_trans HKW1.out.size HPI.out.kept.size)) HDR.out)
    rw [← hE] at HRT
    clear hrs hE
    go_wp2_with fail
    refine HRT.out.mono ?_
    rintro e w7 ⟨B, cb, rfl, hrow7, hk7⟩
    have HOW := xhd (own_as g f' 7 B E.length cb s.1.next w7 (HPI.out.obj.blk.keeps hk7 (fun h => h)) (by rw [HPI.out.obj.e2]; exact HPI.out.obj.well.id) (by rw [HPI.out.obj.e2]; rfl))
    have HR7 := xhd hrow7
    have HK7 := xhd hk7
    clear hrow7 hk7 HRT
    go_wp2_with fail
    refine HOW.out.mono ?_
    rintro e w8 ⟨rfl, hb8, hk8⟩
    have hk78 : Keeps (only g) wr w8 := (HK7.out.mono (fun _ h => h.elim)).trans hk8
    have hrow8 := HR7.out.keeps hk8 (fun b hb e => by have e : b = g := e; have := HPI.out.obj.blk.lt; omega)
    have HSN := xhd (HPI.out.sends HPS.out (HPI.out.obj.owned hk78 hb8) rfl hk78 ⟨7, (s.1.next : Nat), E⟩ (.slice B E.length cb) hrow8 (by omega) (Nat.le_succ _))
    clear hb8 hk8 HOW hk78 hrow8 HR7 HK7
    clear b0 b1 b2 b3 b4
    go_wp2_with fail
    refine HSN.out.mono ?_
    rintro e w9 ⟨rfl, sv9, ps9, hpi9⟩
    have HP9 := xhd hpi9
    clear hpi9 HSN
    go_wp2_with fail
    go_roundw
    case rel => exact ⟨k + 1, by omega, by go_num, _, _, _, _, by rw [HFOLD.out]; exact HP9.out⟩
    case measure => simp [intOf] <;> omega
   have e11 : ((X : Int) == 11) = false := by rw [beq_eq_false_iff_ne]; omega
   have HFOLD := xhd (HFOLD.out.trans (act_else r s X ⟨q0, q1, q2, q3, q6, q7, q8, q9, q10, q11⟩))
   have HP9 := xhd (show PI w1 wr g go R f.gm s (k + 1) f' R' sv ps from ⟨HPI.out.obj, HPI.out.gm, HPI.out.sub, HPI.out.out, HPI.out.sent, HPI.out.pkts, Nat.le_succ_of_le HPI.out.few, HPI.out.apart, HPI.out.kept, by have := HPI.out.naks; omega⟩)
   clear q0 q1 q2 q3 q6 q7 q8 q9 q10 q11
   go_wp2_with fail
   go_roundw
   case rel => exact ⟨k + 1, by omega, by go_num, _, _, _, _, by rw [HFOLD.out]; exact HP9.out⟩
   case measure => simp [intOf] <;> omega
  ·have hkk : k = l.length := by omega
   subst hkk
   have HE := xhd (show s = n.actsP l r by rw [HSS.out, List.take_length]; rfl)
   have hO := HPI.out.out
   have hRo := HR1.out.keeps HPI.out.kept HRON.out
   have x0 : wr.cell? ⟨go, 0, none⟩ = some sv := by rw [hO.cell]; rfl
   have x1 : wr.cell? ⟨go, 1, none⟩ = some (.bool s.2.up) := by rw [hO.cell]; rfl
   have x2 : wr.cell? ⟨go, 2, none⟩ = some (.bool s.2.down) := by rw [hO.cell]; rfl
   have x3 : wr.cell? ⟨go, 3, none⟩ = some (.bool s.2.start) := by rw [hO.cell]; rfl
   have x4 : wr.cell? ⟨go, 4, none⟩ = some (.bool s.2.done) := by rw [hO.cell]; rfl
   have z0 : wr.cell? ⟨ro, 0, none⟩ = some (.slice none 0 0) := by rw [hRo.cell]; rfl
   have z1 : wr.cell? ⟨ro, 1, none⟩ = some (.bool false) := by rw [hRo.cell]; rfl
   have z2 : wr.cell? ⟨ro, 2, none⟩ = some (.bool false) := by rw [hRo.cell]; rfl
   have z3 : wr.cell? ⟨ro, 3, none⟩ = some (.bool false) := by rw [hRo.cell]; rfl
   have z4 : wr.cell? ⟨ro, 4, none⟩ = some (.bool false) := by rw [hRo.cell]; rfl
   have f0 := hRo.frozen 0
   have f1 := hRo.frozen 1
   have f2 := hRo.frozen 2
   have f3 := hRo.frozen 3
   have f4 := hRo.frozen 4
   obtain ⟨A2, c2, hsv⟩ := own_form HPI.out.sent.own
   rw [hsv] at x0
   have HZ := xhd (((((hRo.set 0 (.slice A2 ps.length c2)).set 1 (.bool s.2.up)).set 2 (.bool s.2.down)).set 3 (.bool s.2.start)).set 4 (.bool s.2.done))
   have KR := (((((Keeps.refl (only ro) wr).put 0 (.slice A2 ps.length c2)).put 1 (.bool s.2.up)).put 2 (.bool s.2.down)).put 3 (.bool s.2.start)).put 4 (.bool s.2.done)
   have HROW := xhd (((HPI.out.sent.other KR (fun b e => by have e : b = ro := e; have := HRW.out; have := HGW.out; have := HPS.out.go1; omega)).row).mono (G := fun b => w.heap.size ≤ b ∧ b < _) (fun b hb => ⟨Nat.le_trans HKW1.out.size hb.1, hb.2⟩))
   have HB := xhd (show Becomes w _ g R f s.1 from ⟨f', R', HPI.out.obj.keeps KR (fun e => by have e : g = ro := e; exact HRON.out (.inl e.symm)) (fun e => by
     have e : f'.gm = ro := e
     rw [HPI.out.gm] at e
     have := HPS.out.gm1
     have h1 := HMG.out
     have := HRW.out
     omega) (fun b hb e => by
     have e : b = ro := e
     rcases HPI.out.sub b hb with h1 | h1
     ·have := HLT.out b h1; have := HRW.out; omega
     ·have := HRW.out; have := HGW.out; have := HPS.out.go1; omega), HPI.out.gm, fun b hb => (HPI.out.sub b hb).imp (fun h => h) (fun h => Nat.le_trans HKW1.out.size h),
    (((HKW1.out.mono (T := fun b => b = g ∨ b = f.gm) (fun _ h => h.elim)).trans' HPI.out.kept (fun i hi hl => by rcases hi with e | e; exact .inl e; have := HGW.out; omega)).trans' KR (fun i hi hl => by have e : i = ro := hi; have := HRW.out; omega))⟩)
   have HPK := xhd HPI.out.pkts
   have HFW := xhd (show ps.length ≤ 100 by have := HPI.out.few; omega)
   rw [hsv] at HROW
   clear KR hO hRo hsv
   go_wp2_with fail
   refine bodyPost_ret (results_row1 rfl _ _ ro 59 _ (0, 0) _ rfl HZ.out Tryz.underlying59 rfl (by rw [HI.out]; rfl)) rfl ?_
   rw [← HE.out]
   exact ⟨_, rfl, ⟨_, ps, rfl, HROW.out, HPK.out, HFW.out⟩, HB.out⟩
namespace Pure
end Pure
end Go.Proofs.YtmgicbckgpdkcaaGreatDoor
