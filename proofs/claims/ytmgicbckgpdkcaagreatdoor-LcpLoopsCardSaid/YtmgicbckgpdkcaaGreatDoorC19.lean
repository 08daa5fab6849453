/- Package packet: two options compared. -/
import Derived.Test.YtmgicbckgpdkcaaGreatDoorC18
namespace Go.Proofs.YtmgicbckgpdkcaaGreatDoor
set_option maxRecDepth 100000
set_option maxHeartbeats 8000000
open _root_.Go.Lib renaming hid → xhd
open List renaming setIfInBounds_toArray → xqA, getElem_toArray → xqB, getElem_cons_succ → xqC, getElem_cons_zero → xqD, set_cons_succ → xqE, set_cons_zero → xqF
open Go.RowKit
theorem one_any (F G : Nat → Prop) (v u : Value) (a b : Pure.Opt) (w : World) (hx : Row w F 1 v a.2.length (u8s a.2)) (hy : Row w G 1 u b.2.length (u8s b.2)) :
  Calls Tryz.prog 234 #[optV (v, a), optV (u, b)] w fun e w' => e = .returned (.bool (decide (a = b))) ∧ Keeps y01 w w' := by
 obtain ⟨A, cA, rfl, hc⟩ := hx.form
 obtain ⟨B, cB, rfl, hd⟩ := hy.form
 obtain ⟨s, la⟩ := a
 obtain ⟨t, lb⟩ := b
 dsimp only at *
 have HX := xhd hx
 have HY := xhd hy
 clear hx hy
 obtain ⟨g, hg⟩ : ∃ g, g = w.heap.size := ⟨_, rfl⟩
 go_enter Tryz.func234, Tryz.ntmps234
 go_upto_region 1 with fail
 obtain ⟨w1, hw1⟩ : ∃ w1, w1 = (w.alloc (.cells #[.int .i64 s, .slice A la.length cA] 31)).alloc (.cells #[.int .i64 t, .slice B lb.length cB] 31) := ⟨_, rfl⟩
 rw [← hw1, ← hg]
 have hb1 : Blk w1 g 31 #[.int .i64 s, .slice A la.length cA] := by rw [hw1, hg]; exact (Blk.new w _ _).alloc _
 have hb2 : Blk w1 (g + 1) 31 #[.int .i64 t, .slice B lb.length cB] := by
  rw [hw1, hg]
  have := Blk.new (w.alloc (.cells #[.int .i64 s, .slice A la.length cA] 31)) 31 #[.int .i64 t, .slice B lb.length cB]
  rw [World.size_alloc] at this
  exact this
 have hk : Keeps y01 w w1 := by rw [hw1]; exact ((Keeps.refl _ w).alloc _).alloc _
 have a0 : w1.cell? ⟨g, 0, none⟩ = some (.int .i64 s) := by rw [hb1.cell]; rfl
 have a1 : w1.cell? ⟨g, 1, none⟩ = some (.slice A la.length cA) := by rw [hb1.cell]; rfl
 have b0 : w1.cell? ⟨g + 1, 0, none⟩ = some (.int .i64 t) := by rw [hb2.cell]; rfl
 have b1 : w1.cell? ⟨g + 1, 1, none⟩ = some (.slice B lb.length cB) := by rw [hb2.cell]; rfl
 have HS := xhd (y7o F G _ _ _ _ la lb w1 (HX.out.keeps hk (fun _ _ h => h)) (HY.out.keeps hk (fun _ _ h => h)))
 have HK := xhd hk
 clear hw1 hb1 hb2 hk hg
 by_cases hst : s = t
 ·have d0 : (s == t) = true := by rw [hst]; exact beq_self_eq_true t
  have hdec : decide ((s, la) = (t, lb)) = decide (la = lb) := by rw [hst]; simp
  have HD := xhd hdec
  obtain ⟨r, hr⟩ : ∃ r, r = decide (la = lb) := ⟨_, rfl⟩
  rw [← hr] at HS HD
  clear hst hdec hr
  go_wp2_with fail
  refine HS.out.mono ?_
  rintro e w2 ⟨rfl, rfl⟩
  have HK2 := HK
  clear HS
  cases r
  ·go_wp2
   go_ret
   exact ⟨by rw [HD.out]; rfl, HK2.out⟩
  ·go_wp2
   go_ret
   exact ⟨by rw [HD.out]; rfl, HK2.out⟩
 ·have d0 : (s == t) = false := by rw [beq_eq_false_iff_ne]; exact hst
  have HD := xhd (show decide ((s, la) = (t, lb)) = false from decide_eq_false (fun e => hst (congrArg Prod.fst e)))
  clear hst HS
  go_wp2
  go_ret
  exact ⟨by rw [HD.out]; rfl, HK.out⟩
theorem ye4 (F G : Nat → Prop) (x y : Value) (ps qs : List (Value × Pure.Opt)) (w : World) (hx : ORow w F x ps) (hy : ORow w G y qs) :
  Calls Tryz.prog 233 #[x, y, .func (.func 234) #[] #[]] w fun e w' => e = .returned (.bool (decide (y02 ps = y02 qs))) ∧ Keeps y01 w w' := by
 obtain ⟨A, cA, rfl, hc⟩ := hx.form
 obtain ⟨B, cB, rfl, hd⟩ := hy.form
 have hm := hx.out.2.1
 have hm2 := hy.out.2.1
 unfold maxLen at hm hm2
 have HX := xhd hx
 have HY := xhd hy
 clear hx hy
 by_cases hl : ps.length = qs.length
 ·have e1 : ((ps.length : Int) != (qs.length : Int)) = false := by rw [hl]; simp
  have HL := xhd hl
  rw [← hl] at HY ⊢
  rw [← hl] at e1
  clear hl hm2
  go_enter Tryz.func233, Tryz.ntmps233
  go_wp2
  clear e1
  go_loopw [17] (fun i wr => ∃ k : Nat, k ≤ ps.length ∧ i = .int .i64 (k : Int) ∧ (y02 ps).take k = (y02 qs).take k ∧ Keeps y01 w wr) (fun i _ => ps.length - (intOf i).toNat)
  case atStart => exact ⟨0, by omega, rfl, by simp, Keeps.refl _ _⟩
  case round =>
   obtain ⟨k, hk, rfl, hT, hK⟩ := hrel
   have HT := xhd hT
   have HK := xhd hK
   by_cases hkl : k < ps.length
   ·have i0 : (0 : Int) ≤ (k : Int) := by omega
    have i1 : (k : Int) < (ps.length : Int) := by omega
    have hkq : k < qs.length := by have := HL.out; omega
    obtain ⟨p, o, A1, c1, s, la, rfl, hFp, x0, x1, hra, hpa⟩ := (HX.out.keeps hK (fun _ _ h => h)).pick k hkl
    obtain ⟨q, o2, A2, c2, t, lb, rfl, hGq, y0, y1, hrb, hqb⟩ := (HY.out.keeps hK (fun _ _ h => h)).pick k hkq
    have HRA := xhd hra
    have HRB := xhd hrb
    have HPA := xhd hpa
    have HQB := xhd hqb
    clear hT hK hra hrb hpa hqb
    go_upto_region 6 with fail
    obtain ⟨r, hr⟩ : ∃ r, r = wr.heap.size := ⟨_, rfl⟩
    rw [← hr]
    generalize hw1 : wr.alloc _ = w1
    have hb1 : Blk w1 r 31 #[.int .i64 s, .slice A1 la.length c1] := by rw [← hw1, hr]; exact Blk.new wr _ _
    have hk1 : Keeps y01 wr w1 := by rw [← hw1]; exact (Keeps.refl _ wr).alloc _
    have y0' := y8w y0 hk1
    have y1' := y8w y1 hk1
    clear hw1 x0 x1 y0 y1 hr
    go_upto_region 7 with fail
    obtain ⟨r2, hr2⟩ : ∃ r, r = w1.heap.size := ⟨_, rfl⟩
    rw [← hr2]
    generalize hw2 : w1.alloc _ = w2
    have hb2 : Blk w2 r2 31 #[.int .i64 t, .slice A2 lb.length c2] := by rw [← hw2, hr2]; exact Blk.new w1 _ _
    have hk2 : Keeps y01 w1 w2 := by rw [← hw2]; exact (Keeps.refl _ w1).alloc _
    have hb1' := hb1.keeps hk2 (fun h => h)
    have hk12 := hk1.trans hk2
    have HO := xhd (one_any F G (.slice A1 la.length c1) (.slice A2 lb.length c2) (s, la) (t, lb) w2 (HRA.out.keeps hk12 (fun _ _ h => h)) (HRB.out.keeps hk12 (fun _ _ h => h)))
    have HK2 := xhd (HK.out.trans hk12)
    have x0 : w2.cell? ⟨r, 0, none⟩ = some (.int .i64 s) := by rw [hb1'.cell]; rfl
    have x1 : w2.cell? ⟨r, 1, none⟩ = some (.slice A1 la.length c1) := by rw [hb1'.cell]; rfl
    have z0 : w2.cell? ⟨r2, 0, none⟩ = some (.int .i64 t) := by rw [hb2.cell]; rfl
    have z1 : w2.cell? ⟨r2, 1, none⟩ = some (.slice A2 lb.length c2) := by rw [hb2.cell]; rfl
    obtain ⟨b, hb⟩ : ∃ b, b = decide ((s, la) = (t, lb)) := ⟨_, rfl⟩
    rw [← hb] at HO
    have HRr := xhd hb
    clear hw2 hr2 hb1 hk1 hb2 hk2 hb1' hk12 y0' y1' HK hb
    go_wp2_with fail
    refine HO.out.mono ?_
    rintro e w3 ⟨rfl, hk3⟩
    have HK3 := xhd (HK2.out.trans hk3)
    clear HO hk3 x0 x1 z0 z1 HK2
    have hps : (y02 ps)[k]? = some (s, la) := by rw [List.getElem?_map, HPA.out]; rfl
    have hqs : (y02 qs)[k]? = some (t, lb) := by rw [List.getElem?_map, HQB.out]; rfl
    cases b
    ·have hno : decide (y02 ps = y02 qs) = false := by
      rw [decide_eq_false_iff_not]
      intro he
      rw [he, hqs] at hps
      injection hps with hps
      have := HRr.out
      rw [hps] at this
      simp at this
     have HNO := xhd hno
     clear hno hps hqs
     go_wp2
     go_ret
     exact ⟨by rw [HNO.out]; rfl, HK3.out⟩
    ·have hyes : (s, la) = (t, lb) := of_decide_eq_true HRr.out.symm
     have hTk : (y02 ps).take (k + 1) = (y02 qs).take (k + 1) := by
      rw [List.take_succ_eq_append_getElem (by simpa using hkl), List.take_succ_eq_append_getElem (by simpa using hkq), HT.out]
      congr 1
      have e1 : (y02 ps)[k]'(by simpa using hkl) = (s, la) := by
       have := List.getElem?_eq_getElem (l := y02 ps) (i := k) (by simpa using hkl)
       rw [hps] at this
       injection this with this
       exact this.symm
      have e2 : (y02 qs)[k]'(by simpa using hkq) = (t, lb) := by
       have := List.getElem?_eq_getElem (l := y02 qs) (i := k) (by simpa using hkq)
       rw [hqs] at this
       injection this with this
       exact this.symm
      rw [e1, e2, hyes]
     have HTk := xhd hTk
     clear hyes hTk hps hqs HT
     go_wp2_with fail
     go_roundw
     case rel => exact ⟨k + 1, by omega, by go_num, HTk.out, HK3.out⟩
     case measure => simp [intOf]; omega
   ·have hkk : k = ps.length := by omega
    have hyes : decide (y02 ps = y02 qs) = true := by
     rw [decide_eq_true_eq]
     have h := HT.out
     rw [List.take_of_length_le (by simp; omega), List.take_of_length_le (by simp; have := HL.out; omega)] at h
     exact h
    have HYES := xhd hyes
    subst hkk
    clear hyes hT hK hkl hk HT
    go_wp2
    go_ret
    exact ⟨by rw [HYES.out]; rfl, HK.out⟩
 ·have e1 : ((ps.length : Int) != (qs.length : Int)) = true := by rw [bne_iff_ne]; omega
  have hno : decide (y02 ps = y02 qs) = false := by
   rw [decide_eq_false_iff_not]
   intro he
   have := congrArg List.length he
   simp at this
   exact hl this
  have HNO := xhd hno
  clear hno hl
  go_enter Tryz.func233, Tryz.ntmps233
  go_wp2
  go_ret
  exact ⟨by rw [HNO.out]; rfl, Keeps.refl _ _⟩
theorem same_opts (F G : Nat → Prop) (x y : Value) (ps qs : List (Value × Pure.Opt)) (w : World) (hx : ORow w F x ps) (hy : ORow w G y qs) :
  Calls Tryz.prog 198 #[x, y] w fun e w' => e = .returned (.bool (decide (y02 ps = y02 qs))) ∧ Keeps y01 w w' := by
 have HE := xhd (ye4 F G x y ps qs w hx hy)
 obtain ⟨A, cA, rfl, _⟩ := hx.form
 obtain ⟨B, cB, rfl, _⟩ := hy.form
 obtain ⟨r, hr⟩ : ∃ r, r = decide (y02 ps = y02 qs) := ⟨_, rfl⟩
 rw [← hr] at HE ⊢
 clear hx hy hr
 go_enter Tryz.func198, Tryz.ntmps198
 go_wp2_with fail
 refine HE.out.mono ?_
 rintro e w2 ⟨rfl, hk⟩
 have HK := xhd hk
 clear hk HE
 go_wp2
 go_ret
 exact ⟨rfl, HK.out⟩
def y7m (aid : Nat) (op : Bool) (L : List Pure.Opt) (p : Pure.Pkt) : Prop :=
 (op = false ∨ p.id ≠ (aid : Int)) ∨ (Pure.split p.data).1 ≠ 0 ∨ (p.code = 2 ∧ (Pure.split p.data).2 ≠ L) ∨ (p.code = 4 ∧ Pure.amid (Pure.split p.data).2 L = false)
theorem yew (F G : Nat → Prop) (aid : Nat) (ov d : Value) (qs : List (Value × Pure.Opt)) (op : Bool) (p : Pure.Pkt) (w : World) (hg : y17 w) (hF : ∀ b, F b → b < w.heap.size) (hd : Row w F 1 d p.data.length (u8s p.data)) (hq : ORow w G ov qs) :
  Calls Tryz.prog 171 #[.agg #[.int .i64 (aid : Int), ov, .bool op], pktV p d] w fun e w' => y2a w e w' (y7m aid op (y02 qs) p) (Pure.split p.data).2 := by
 obtain ⟨pc, pi, pd⟩ := p
 dsimp only at hd ⊢
 obtain ⟨DA, dc, rfl, _⟩ := hd.form
 obtain ⟨OA, oc, rfl, _⟩ := hq.form
 obtain ⟨ra, hra⟩ : ∃ r, r = w.heap.size := ⟨_, rfl⟩
 go_enter Tryz.func171, Tryz.ntmps171
 go_upto_region 1 with fail
 rw [← hra]
 generalize hw1 : (w.alloc _).alloc _ = w1
 have hk1 : Keeps y01 w w1 := by rw [← hw1]; exact ((Keeps.refl _ w).alloc _).alloc _
 have hA : Blk w1 ra 169 #[.int .i64 (aid : Int), .slice OA qs.length oc, .bool op] := by rw [← hw1, hra]; exact (Blk.new w _ _).alloc _
 have hP : Blk w1 (ra + 1) 56 #[.int .i64 pc, .int .i64 pi, .slice DA pd.length dc] := by
  rw [← hw1, show ra + 1 = (w.alloc (.cells #[.int .i64 (aid : Int), .slice OA qs.length oc, .bool op] 169)).heap.size by rw [hra]; simp]
  exact Blk.new _ _ _
 have a0 : w1.cell? ⟨ra, 0, none⟩ = some (.int .i64 (aid : Int)) := by rw [hA.cell]; rfl
 have a1 : w1.cell? ⟨ra, 1, none⟩ = some (.slice OA qs.length oc) := by rw [hA.cell]; rfl
 have a2 : w1.cell? ⟨ra, 2, none⟩ = some (.bool op) := by rw [hA.cell]; rfl
 have p0 : w1.cell? ⟨ra + 1, 0, none⟩ = some (.int .i64 pc) := by rw [hP.cell]; rfl
 have p1 : w1.cell? ⟨ra + 1, 1, none⟩ = some (.int .i64 pi) := by rw [hP.cell]; rfl
 have p2 : w1.cell? ⟨ra + 1, 2, none⟩ = some (.slice DA pd.length dc) := by rw [hP.cell]; rfl
 have HA := xhd hA
 have HP := xhd hP
 have HK1 := xhd hk1
 have HSP := xhd (ybg F _ pd w1 (hg.keeps hk1 (fun h => h)) (fun b hb => Nat.lt_of_lt_of_le (hF b hb) hk1.size) (hd.keeps hk1 (fun _ _ h => h)))
 have HQ := xhd (hq.keeps hk1 (fun _ _ h => h))
 have HKD := xhd (fun k : Int => (show Keeps y01 w (w1.alloc (.cells #[.int .i64 k] 220)) from hk1.alloc _))
 have HBX := xhd (fun (W : World) (k : Int) => y63 W (.int .i64 k) 220)
 clear hw1 hA hP hk1 hra hg hF hd hq
 cases op
 ·go_wp2_with fail
  go_ret2
  exact .inl ⟨.inl (.inl rfl), _, rfl, ⟨_, _, rfl, HBX.out _ 8⟩, HKD.out 8⟩
 by_cases hid : pi = (aid : Int)
 ·subst hid
  have HNB := xhd (show ¬ ((true : Bool) = false ∨ (aid : Int) ≠ (aid : Int)) by simp)
  go_wp2_with fail
  refine HSP.out.mono ?_
  rintro e w2 (⟨hbad, v, rfl, ⟨b, k, rfl, hv⟩, hk2⟩ | ⟨hok, u, zs, rfl, hz, hrow, hk2⟩)
  ·have HBAD := xhd hbad
   have HV := xhd hv
   have HK2 := xhd (HK1.out.trans hk2)
   clear hbad hv hk2 HSP
   go_wp2_with fail
   go_ret2
   exact .inl ⟨.inr (.inl HBAD.out), _, rfl, ⟨_, _, rfl, HV.out⟩, HK2.out⟩
  ·obtain ⟨U, uc, rfl, _⟩ := hrow.form
   have HOK := xhd hok
   have HZ := xhd hz
   have HK2 := xhd (HK1.out.trans hk2)
   have c0 : w2.cell? ⟨ra + 1, 0, none⟩ = some (.int .i64 pc) := by rw [(HP.out.keeps hk2 (fun h => h)).cell]; rfl
   have c1 : w2.cell? ⟨ra, 1, none⟩ = some (.slice OA qs.length oc) := by rw [(HA.out.keeps hk2 (fun h => h)).cell]; rfl
   have HROW := xhd (show ORow w2 (fun b => w.heap.size ≤ b ∧ b < w2.heap.size) (.slice U zs.length uc) zs from hrow.mono (fun b hb => ⟨Nat.le_trans HK1.out.size hb.1, hb.2⟩))
   have HSM := xhd (same_opts _ G _ _ zs qs w2 hrow (HQ.out.keeps hk2 (fun _ _ h => h)))
   have HWI := xhd (within_any _ G _ _ zs qs w2 hrow (HQ.out.keeps hk2 (fun _ _ h => h)))
   clear hok hz hrow hk2 HSP a0 a1 a2 p0 p1 p2
   by_cases h2 : pc = 2
   ·subst h2
    obtain ⟨r, hr⟩ : ∃ r, r = decide (y02 zs = y02 qs) := ⟨_, rfl⟩
    rw [← hr] at HSM
    have HR := xhd hr
    clear hr HWI
    go_wp2_with fail
    refine HSM.out.mono ?_
    rintro e w3 ⟨rfl, hk3⟩
    have HK3 := xhd (HK2.out.trans hk3)
    have HKD3 := xhd (fun k : Int => (show Keeps y01 w (w3.alloc (.cells #[.int .i64 k] 220)) from (HK2.out.trans hk3).alloc _))
    have d0 : w3.cell? ⟨ra + 1, 0, none⟩ = some (.int .i64 2) := y04 c0 hk3
    have HROW3 := xhd ((HROW.out.keeps hk3 (fun _ _ h => h)).mono (G := fun b => w.heap.size ≤ b ∧ b < w3.heap.size) (fun b hb => ⟨hb.1, Nat.lt_of_lt_of_le hb.2 hk3.size⟩))
    clear hk3 c0 c1 HSM
    cases r
    ·go_wp2_with fail
     go_ret2
     exact .inl ⟨.inr (.inr (.inl ⟨rfl, by rw [← HZ.out]; exact of_decide_eq_false HR.out.symm⟩)), _, rfl, ⟨_, _, rfl, HBX.out _ 10⟩, HKD3.out 10⟩
    ·go_wp2_with fail
     go_ret2
     refine .inr ⟨?_, _, zs, rfl, HZ.out, HROW3.out, HK3.out⟩
     rintro (h | h | ⟨_, h⟩ | ⟨h, _⟩)
     ·exact HNB.out h
     ·exact HOK.out h
     ·exact h (by rw [← HZ.out]; exact of_decide_eq_true HR.out.symm)
     ·exact absurd h (show ¬ (2 : Int) = 4 by decide)
   ·have q2 : (pc == 2) = false := by rw [beq_eq_false_iff_ne]; exact h2
    have H2 := xhd h2
    by_cases h4 : pc = 4
    ·subst h4
     obtain ⟨r, hr⟩ : ∃ r, r = Pure.amid (y02 zs) (y02 qs) := ⟨_, rfl⟩
     rw [← hr] at HWI
     have HR := xhd hr
     clear hr HSM q2 h2
     go_wp2_with fail
     refine HWI.out.mono ?_
     rintro e w3 ⟨rfl, hk3⟩
     have HK3 := xhd (HK2.out.trans hk3)
     have HKD3 := xhd (fun k : Int => (show Keeps y01 w (w3.alloc (.cells #[.int .i64 k] 220)) from (HK2.out.trans hk3).alloc _))
     have HROW3 := xhd ((HROW.out.keeps hk3 (fun _ _ h => h)).mono (G := fun b => w.heap.size ≤ b ∧ b < w3.heap.size) (fun b hb => ⟨hb.1, Nat.lt_of_lt_of_le hb.2 hk3.size⟩))
     clear hk3 c0 c1 HWI
     cases r
     ·go_wp2_with fail
      go_ret2
      exact .inl ⟨.inr (.inr (.inr ⟨rfl, by rw [← HZ.out]; exact HR.out.symm⟩)), _, rfl, ⟨_, _, rfl, HBX.out _ 10⟩, HKD3.out 10⟩
     ·go_wp2_with fail
      go_ret2
      refine .inr ⟨?_, _, zs, rfl, HZ.out, HROW3.out, HK3.out⟩
      rintro (h | h | ⟨h, _⟩ | ⟨_, h⟩)
      ·exact HNB.out h
      ·exact HOK.out h
      ·exact absurd h (show ¬ (4 : Int) = 2 by decide)
      ·rw [← HZ.out, ← HR.out] at h; cases h
    ·have q4 : (pc == 4) = false := by rw [beq_eq_false_iff_ne]; exact h4
     have H4 := xhd h4
     clear h2 h4 HSM HWI
     go_wp2_with fail
     go_ret2
     refine .inr ⟨?_, _, zs, rfl, HZ.out, HROW.out, HK2.out⟩
     rintro (h | h | ⟨h, _⟩ | ⟨h, _⟩)
     ·exact HNB.out h
     ·exact HOK.out h
     ·exact H2.out h
     ·exact H4.out h
 ·have q : (pi == (aid : Int)) = false := by rw [beq_eq_false_iff_ne]; exact hid
  have HID := xhd hid
  clear hid HSP
  go_wp2_with fail
  go_ret2
  exact .inl ⟨.inl (.inr HID.out), _, rfl, ⟨_, _, rfl, HBX.out _ 8⟩, HKD.out 8⟩
theorem do_up (g : Nat) (R : Nat → Prop) (f : NF) (n : Pure.Neg) (w : World) (h : NObj w g R f n) :
  Calls Tryz.prog 71 #[.pointer (some ⟨g, 0, none⟩), .int .i64 0] w fun r w' => ∃ v, r = .returned v ∧ Outs w w' v (n.act 0).2 ∧ y18 w w' g R f (n.act 0).1 := by
 have HI := xhd y3q
 have hgl := h.blk.lt
 have hml := Blk.lt h.mach
 obtain ⟨zf, hzf, hze, hzw⟩ := h.first
 have HZE := xhd hze
 have HAE := xhd (show n.act 0 = ({ n.again with m := (n.m.act2 (0 : Int)).2 } : Pure.Neg).acts (n.m.act2 (0 : Int)).1 none from rfl)
 obtain ⟨ro, hro⟩ : ∃ q, q = w.heap.size := ⟨_, rfl⟩
 rw [HAE.out]
 have HMA0 := xhd (fun (W : World) (f2 : NF) (R2 : Nat → Prop) (hW : NObj W g R2 f2 n.again) => y5h f2.gm 0 n.m W hW.mach hW.well.good hW.well.tries)
 have HGD := xhd (Pure.act2_good h.well.good (0 : Int))
 have hpl : ∀ a ∈ (n.m.act2 (0 : Int)).1, a ≠ 7 ∧ a ≠ 8 ∧ a ≠ 11 := Pure.act2_plain h.well.good (by omega)
 have HPL := xhd hpl
 have HFW := xhd (Pure.act2_few h.well.good (0 : Int))
 obtain ⟨l, hl⟩ : ∃ l, l = (n.m.act2 (0 : Int)).1 := ⟨_, rfl⟩
 obtain ⟨m', hm'⟩ : ∃ m', m' = (n.m.act2 (0 : Int)).2 := ⟨_, rfl⟩
 rw [← hl] at HPL HFW HMA0 ⊢
 rw [← hm'] at HMA0 HGD ⊢
 clear hl hm' hpl
 go_enter Tryz.func71, Tryz.ntmps71
 go_upto_region 1 with fail
 rw [← hro]
 generalize hw1 : w.alloc _ = w1
 have hk1 : Keeps y01 w w1 := by rw [← hw1]; exact (Keeps.refl _ w).alloc _
 have hs1 : w1.heap.size = ro + 1 := by rw [← hw1, hro]; simp
 have HRO1 := xhd (show Blk w1 ro 59 #[.slice none 0 0, .bool false, .bool false, .bool false, .bool false] by rw [← hw1, hro]; exact Blk.new w _ _)
 have H1 := xhd (h.keeps hk1 (fun h => h) (fun h => h) (fun _ _ h => h))
 have HK1 := xhd hk1
 have HMD := xhd (y22 g f w1 H1.out.blk)
 have HBG := xhd (y6j R g f zf w1 H1.out.blk (hzf.keeps hk1 (fun _ _ h => h)) hzw)
 have HRG := xhd (show ro ≠ g by omega)
 have HRM := xhd (show ro ≠ f.gm by omega)
 have HR0 := xhd (show w.heap.size ≤ ro by omega)
 have HS1 := xhd hs1
 have HLTR := xhd (show ¬ R ro from fun e => by have := h.lt ro e; omega)
 have HGW := xhd hgl
 clear hw1 hk1 hs1 hro hgl hml hzf hze hzw h
 go_wp2_with fail
 refine HMD.out.mono ?_
 rintro e' w' ⟨rfl, rfl⟩
 go_wp2_with fail
 refine HBG.out.mono ?_
 rintro e' w2 ⟨rfl, u2, q2, hq2, hr2, hb2, hk2⟩
 have HN2 := xhd (H1.out.begun hk2 (hq2.trans HZE.out) hr2 hb2)
 have HRO2 := xhd (HRO1.out.keeps hk2 (fun e => HRG.out e))
 have HK2 := xhd (show Keeps (fun b => b = g ∨ b = f.gm) w w2 from (HK1.out.mono (fun _ h => h.elim)).trans (hk2.mono (fun b e => .inl e)))
 have HNR := xhd (show ¬ y1c w1 w2 R ro from fun e => by rcases e.1 with e | e; exact HLTR.out e; have := HS1.out; omega)
 have HSUB := xhd (show ∀ b, y1c w1 w2 R b → R b ∨ w.heap.size ≤ b from fun b hb => hb.1.imp (fun h => h) (fun h => Nat.le_trans HK1.out.size h))
 clear hq2 hr2 hb2 hk2 HBG HMD H1 HRO1 HZE
 have c0 : w2.cell? ⟨g, 0, none⟩ = some (.pointer (some ⟨f.gm, 0, none⟩)) := HN2.out.blk.cell 0
 have HMA := xhd (HMA0.out w2 _ _ HN2.out)
 clear HMA0
 go_wp2_with fail
 refine HMA.out.mono ?_
 rintro e' w4 ⟨LA, lc, rfl, hrow4, hm4, hk4⟩
 have HN4 := xhd (HN2.out.machine (m' := m') hk4 hm4 HGD.out.1 HGD.out.2.1 HGD.out.2.2)
 have HROW := xhd (HRO2.out.keeps hk4 (fun e => HRM.out e))
 have HKW := xhd (show Keeps (fun b => b = g ∨ b = f.gm) w w4 from HK2.out.trans (hk4.mono (fun b e => .inr e)))
 have HRL := xhd (show ro < w4.heap.size from HROW.out.lt)
 have HPF := xhd (y6d g 0 _ _ n.again m' l w4 w2 HN4.out HPL.out HFW.out (Nat.zero_le _) HN2.out.blk.lt LA lc hrow4)
 clear hrow4 hm4 hk4 HMA HN2 HRO2 HK2 c0
 go_wp2_with fail
 refine HPF.out.mono ?_
 rintro e' w5 ⟨v, rfl, hout, hbec⟩
 have hRo : Blk w5 ro 59 #[.slice none 0 0, .bool false, .bool false, .bool false, .bool false] := by
  obtain ⟨_, _, _, _, _, hk⟩ := hbec
  exact HROW.out.keeps hk (fun e => by rcases e with e | e; exact HRG.out e; exact HRM.out e)
 have hfar := fun w'' (k : Keeps (only ro) w5 w'') => (hout.far k HRL.out).since HKW.out.size
 have hcl := fun w'' (k : Keeps (only ro) w5 w'') => hbec.close (f := f) rfl HSUB.out HKW.out k HR0.out HRL.out (fun e => HRG.out e.symm) (fun e => HRM.out e.symm) HNR.out
 obtain ⟨sv, ps, rfl, hprow, hpk, hfw⟩ := hout
 obtain ⟨A6, c6, rfl, _⟩ := hprow.form
 skip
 have z0 : w5.cell? ⟨ro, 0, none⟩ = some (.slice none 0 0) := by rw [hRo.cell]; rfl
 have z1 : w5.cell? ⟨ro, 1, none⟩ = some (.bool false) := by rw [hRo.cell]; rfl
 have z2 : w5.cell? ⟨ro, 2, none⟩ = some (.bool false) := by rw [hRo.cell]; rfl
 have z3 : w5.cell? ⟨ro, 3, none⟩ = some (.bool false) := by rw [hRo.cell]; rfl
 have z4 : w5.cell? ⟨ro, 4, none⟩ = some (.bool false) := by rw [hRo.cell]; rfl
 have f0 := hRo.frozen 0
 have f1 := hRo.frozen 1
 have f2 := hRo.frozen 2
 have f3 := hRo.frozen 3
 have f4 := hRo.frozen 4
 obtain ⟨O1, hO1⟩ : ∃ b, b = (Pure.Neg.acts { n.again with m := m' } l none).2.up := ⟨_, rfl⟩
 obtain ⟨O2, hO2⟩ : ∃ b, b = (Pure.Neg.acts { n.again with m := m' } l none).2.down := ⟨_, rfl⟩
 obtain ⟨O3, hO3⟩ : ∃ b, b = (Pure.Neg.acts { n.again with m := m' } l none).2.start := ⟨_, rfl⟩
 obtain ⟨O4, hO4⟩ : ∃ b, b = (Pure.Neg.acts { n.again with m := m' } l none).2.done := ⟨_, rfl⟩
 rw [← hO1, ← hO2, ← hO3, ← hO4] at hfar ⊢
 have HZ := xhd (((((hRo.set 0 (.slice A6 ps.length c6)).set 1 (.bool O1)).set 2 (.bool O2)).set 3 (.bool O3)).set 4 (.bool O4))
 have KR := (((((Keeps.refl (only ro) w5).put 0 (.slice A6 ps.length c6)).put 1 (.bool O1)).put 2 (.bool O2)).put 3 (.bool O3)).put 4 (.bool O4)
 have HFAR := xhd (hfar _ KR)
 have HCL := xhd (hcl _ KR)
 clear hRo hfar hcl hprow hpk hfw KR hO1 hO2 hO3 hO4 hbec HPF
 go_wp2_with fail
 refine bodyPost_ret (y07 rfl _ _ ro 59 _ (0, 0) _ rfl HZ.out Tryz.underlying59 rfl (by rw [HI.out]; rfl)) rfl ?_
 exact ⟨_, rfl, HFAR.out, HCL.out⟩
theorem do_other (g : Nat) (R : Nat → Prop) (f : NF) (n : Pure.Neg) (e : Int) (he : e = 1 ∨ e = 2 ∨ e = 3) (w : World) (h : NObj w g R f n) (hnk : n.naks ≤ 1000) :
  Calls Tryz.prog 71 #[.pointer (some ⟨g, 0, none⟩), .int .i64 e] w fun r w' => ∃ v, r = .returned v ∧ Outs w w' v (n.act e).2 ∧ y18 w w' g R f (n.act e).1 := by
 have HI := xhd y3q
 have hgl := h.blk.lt
 have hml := Blk.lt h.mach
 have HAE := xhd (show n.act e = ({ n with m := (n.m.act2 e).2 } : Pure.Neg).acts (n.m.act2 e).1 none by rcases he with rfl | rfl | rfl <;> rfl)
 have hpl : ∀ a ∈ (n.m.act2 e).1, a ≠ 7 ∧ a ≠ 8 ∧ a ≠ 11 := Pure.act2_plain h.well.good (by omega)
 obtain ⟨ro, hro⟩ : ∃ q, q = w.heap.size := ⟨_, rfl⟩
 rw [HAE.out]
 have HPL0 := xhd hpl
 have HMA0 := xhd (fun (W : World) (hW : NObj W g R f n) => y5h f.gm e n.m W hW.mach hW.well.good hW.well.tries)
 have HGD := xhd (Pure.act2_good h.well.good e)
 have HFW0 := xhd (Pure.act2_few h.well.good e)
 obtain ⟨l, hl⟩ : ∃ l, l = (n.m.act2 e).1 := ⟨_, rfl⟩
 obtain ⟨m', hm'⟩ : ∃ m', m' = (n.m.act2 e).2 := ⟨_, rfl⟩
 rw [← hl] at HPL0 HFW0 HMA0 ⊢
 rw [← hm'] at HMA0 HGD ⊢
 clear hl hm' hpl
 have HNK := xhd hnk
 clear hnk
 rcases he with rfl | rfl | rfl
 all_goals
  go_enter Tryz.func71, Tryz.ntmps71
  go_upto_region 1 with fail
  rw [← hro]
  generalize hw1 : w.alloc _ = w1
  have hk1 : Keeps y01 w w1 := by rw [← hw1]; exact (Keeps.refl _ w).alloc _
  have HRO1 := xhd (show Blk w1 ro 59 #[.slice none 0 0, .bool false, .bool false, .bool false, .bool false] by rw [← hw1, hro]; exact Blk.new w _ _)
  have H1 := xhd (h.keeps hk1 (fun h => h) (fun h => h) (fun _ _ h => h))
  have HK1 := xhd hk1
  have HMD := xhd (y22 g f w1 H1.out.blk)
  have HRG := xhd (show ro ≠ g by omega)
  have HRM := xhd (show ro ≠ f.gm by omega)
  have HR0 := xhd (show w.heap.size ≤ ro by omega)
  have HNR := xhd (show ¬ R ro from fun e => by have := h.lt ro e; omega)
  have HSUB := xhd (show ∀ b, R b → R b ∨ w.heap.size ≤ b from fun b hb => .inl hb)
  have c0 : w1.cell? ⟨g, 0, none⟩ = some (.pointer (some ⟨f.gm, 0, none⟩)) := H1.out.blk.cell 0
  have HMA := xhd (HMA0.out w1 H1.out)
  clear hw1 hk1 hro hgl hml h HMA0
  go_wp2_with fail
  refine HMD.out.mono ?_
  rintro e' w' ⟨rfl, rfl⟩
  go_wp2_with fail
  refine HMA.out.mono ?_
  rintro e' w4 ⟨LA, lc, rfl, hrow4, hm4, hk4⟩
  have HN4 := xhd (H1.out.machine (m' := m') hk4 hm4 HGD.out.1 HGD.out.2.1 HGD.out.2.2)
  have HROW := xhd (HRO1.out.keeps hk4 (fun e => HRM.out e))
  have HKW := xhd (show Keeps (fun b => b = g ∨ b = f.gm) w w4 from (HK1.out.mono (fun _ h => h.elim)).trans (hk4.mono (fun b e => .inr e)))
  have HRL := xhd (show ro < w4.heap.size from HROW.out.lt)
  have HPF := xhd (y6d g 0 _ _ n m' l w4 w1 HN4.out HPL0.out HFW0.out HNK.out H1.out.blk.lt LA lc hrow4)
  clear hrow4 hm4 hk4 HMA HRO1 c0
  go_wp2_with fail
  refine HPF.out.mono ?_
  rintro e' w5 ⟨v, rfl, hout, hbec⟩
  have hRo : Blk w5 ro 59 #[.slice none 0 0, .bool false, .bool false, .bool false, .bool false] := by
   obtain ⟨_, _, _, _, _, hk⟩ := hbec
   exact HROW.out.keeps hk (fun e => by rcases e with e | e; exact HRG.out e; exact HRM.out e)
  have hfar := fun w'' (k : Keeps (only ro) w5 w'') => (hout.far k HRL.out).since HKW.out.size
  have hcl := fun w'' (k : Keeps (only ro) w5 w'') => hbec.close (f := f) rfl HSUB.out HKW.out k HR0.out HRL.out (fun e => HRG.out e.symm) (fun e => HRM.out e.symm) HNR.out
  obtain ⟨sv, ps, rfl, hprow, hpk, hfw⟩ := hout
  obtain ⟨A6, c6, rfl, _⟩ := hprow.form
  skip
  have z0 : w5.cell? ⟨ro, 0, none⟩ = some (.slice none 0 0) := by rw [hRo.cell]; rfl
  have z1 : w5.cell? ⟨ro, 1, none⟩ = some (.bool false) := by rw [hRo.cell]; rfl
  have z2 : w5.cell? ⟨ro, 2, none⟩ = some (.bool false) := by rw [hRo.cell]; rfl
  have z3 : w5.cell? ⟨ro, 3, none⟩ = some (.bool false) := by rw [hRo.cell]; rfl
  have z4 : w5.cell? ⟨ro, 4, none⟩ = some (.bool false) := by rw [hRo.cell]; rfl
  have f0 := hRo.frozen 0
  have f1 := hRo.frozen 1
  have f2 := hRo.frozen 2
  have f3 := hRo.frozen 3
  have f4 := hRo.frozen 4
  obtain ⟨O1, hO1⟩ : ∃ b, b = (Pure.Neg.acts { n with m := m' } l none).2.up := ⟨_, rfl⟩
  obtain ⟨O2, hO2⟩ : ∃ b, b = (Pure.Neg.acts { n with m := m' } l none).2.down := ⟨_, rfl⟩
  obtain ⟨O3, hO3⟩ : ∃ b, b = (Pure.Neg.acts { n with m := m' } l none).2.start := ⟨_, rfl⟩
  obtain ⟨O4, hO4⟩ : ∃ b, b = (Pure.Neg.acts { n with m := m' } l none).2.done := ⟨_, rfl⟩
  rw [← hO1, ← hO2, ← hO3, ← hO4] at hfar ⊢
  have HZ := xhd (((((hRo.set 0 (.slice A6 ps.length c6)).set 1 (.bool O1)).set 2 (.bool O2)).set 3 (.bool O3)).set 4 (.bool O4))
  have KR := (((((Keeps.refl (only ro) w5).put 0 (.slice A6 ps.length c6)).put 1 (.bool O1)).put 2 (.bool O2)).put 3 (.bool O3)).put 4 (.bool O4)
  have HFAR := xhd (hfar _ KR)
  have HCL := xhd (hcl _ KR)
  clear hRo hfar hcl hprow hpk hfw KR hO1 hO2 hO3 hO4 hbec HPF
  go_wp2_with fail
  refine bodyPost_ret (y07 rfl _ _ ro 59 _ (0, 0) _ rfl HZ.out Tryz.underlying59 rfl (by rw [HI.out]; rfl)) rfl ?_
  exact ⟨_, rfl, HFAR.out, HCL.out⟩
theorem y7z (g : Nat) (R : Nat → Prop) (f : NF) (n : Pure.Neg) (w : World) (h : NObj w g R f n) :
  Calls Tryz.prog 96 #[.pointer (some ⟨g, 0, none⟩)] w fun e w' => e = .returned (.int .i64 (n.m.state : Nat)) ∧ w = w' := by
 have HMD := xhd (y22 g f w h.blk)
 have HST := xhd (state_any f.gm n.m w h.mach h.well.good.tries)
 have c0 : w.cell? ⟨g, 0, none⟩ = some (.pointer (some ⟨f.gm, 0, none⟩)) := h.blk.cell 0
 clear h
 go_enter Tryz.func96, Tryz.ntmps96
 go_wp2_with fail
 refine HMD.out.mono ?_
 rintro e w1 ⟨rfl, rfl⟩
 go_wp2_with fail
 refine HST.out.mono ?_
 rintro e w1 ⟨rfl, rfl⟩
 go_wp2_with fail
 go_ret
 exact ⟨rfl, rfl⟩
theorem y78 (g : Nat) (R : Nat → Prop) (f : NF) (n : Pure.Neg) (w : World) (h : NObj w g R f n) :
  Calls Tryz.prog 146 #[.pointer (some ⟨g, 0, none⟩)] w fun e w' => e = .returned (.bool (decide (n.m.state = 9))) ∧ w = w' := by
 have HST := xhd (y7z g R f n w h)
 clear h
 by_cases hs : n.m.state = 9
 ·have HD := xhd (decide_eq_true hs)
  rw [hs] at HST
  clear hs
  go_enter Tryz.func146, Tryz.ntmps146
  go_wp2_with fail
  refine HST.out.mono ?_
  rintro e w1 ⟨rfl, rfl⟩
  go_wp2_with fail
  go_ret
  exact ⟨by rw [HD.out]; rfl, rfl⟩
 ·have HD := xhd (decide_eq_false hs)
  have q : (((n.m.state : Nat) : Int) == 9) = false := by rw [beq_eq_false_iff_ne]; omega
  clear hs
  go_enter Tryz.func146, Tryz.ntmps146
  go_wp2_with fail
  refine HST.out.mono ?_
  rintro e w1 ⟨rfl, rfl⟩
  go_wp2_with fail
  go_ret
  exact ⟨by rw [HD.out]; rfl, rfl⟩
def Given (w w' : World) (e : Ending) (l : List Pure.Opt) : Prop :=
 ∃ u, ∃ qs : List (Value × Pure.Opt), e = .returned u ∧ y02 qs = l ∧ FewOpts qs ∧ ORow w' (fun b => w.heap.size ≤ b ∧ b < w'.heap.size) u qs ∧ Keeps y01 w w'
theorem y7s {qs zs : List (Value × Pure.Opt)} (h : y02 qs = y02 zs) (hf : FewOpts zs) : FewOpts qs := by
 refine ⟨?_, fun p hp => ?_⟩
 ·have := congrArg List.length h
  simp at this
  rw [this]; exact hf.len
 ·have h1 : p.2 ∈ y02 zs := by rw [← h]; exact List.mem_map.2 ⟨p, hp, rfl⟩
  obtain ⟨z, hz1, hz2⟩ := List.mem_map.1 h1
  rw [← hz2]; exact hf.data z hz1
theorem nmine_any (g : Nat) (R : Nat → Prop) (f : NF) (n : Pure.Neg) (w : World) (h : NObj w g R f n) :
  Calls Tryz.prog 98 #[.pointer (some ⟨g, 0, none⟩)] w fun e w' => Given w w' e n.mine := by
 have HOP := xhd (y78 g R f n w h)
 obtain ⟨zs, hz, hze, hzw⟩ := h.mine
 have HCP := xhd (y1v R f.mine zs w hz hzw.len hzw.data)
 obtain ⟨X, cx, hX, _⟩ := hz.form
 have c0 : w.cell? ⟨g, 11, none⟩ = some f.mine := h.blk.cell 11
 rw [hX] at HCP c0
 by_cases hs : n.m.state = 9
 ·have HE := xhd (show y02 zs = n.mine by unfold Pure.Neg.mine; rw [if_pos hs]; exact hze)
  have HW := xhd hzw
  rw [decide_eq_true hs] at HOP
  clear hs h hz hze hzw hX
  go_enter Tryz.func98, Tryz.ntmps98
  go_wp2_with fail
  refine HOP.out.mono ?_
  rintro e w1 ⟨rfl, rfl⟩
  go_wp2_with fail
  refine HCP.out.mono ?_
  rintro e w1 ⟨u, qs, rfl, hqs, hrd⟩
  have HQ := xhd hqs
  have HR := xhd hrd.row.strong
  have HK := xhd (show Keeps y01 w w1 from Keeps.new hrd.below)
  clear hqs hrd HCP c0
  go_wp2_with fail
  go_ret
  exact ⟨u, qs, rfl, HQ.out.trans HE.out, y7s HQ.out HW.out, HR.out, HK.out⟩
 ·have HE := xhd (show ([] : List Pure.Opt) = n.mine by unfold Pure.Neg.mine; rw [if_neg hs])
  rw [decide_eq_false hs] at HOP
  clear hs h hz hze hzw hX HCP c0
  go_enter Tryz.func98, Tryz.ntmps98
  go_wp2_with fail
  refine HOP.out.mono ?_
  rintro e w1 ⟨rfl, rfl⟩
  go_wp2_with fail
  go_ret
  exact ⟨_, [], rfl, HE.out, ⟨by simp, by simp⟩, ORow.nil _ _, Keeps.refl _ _⟩
def hears (p : Pure.Pkt) : List Pure.Opt := if p.code = 1 ∨ p.code = 2 ∨ p.code = 3 ∨ p.code = 4 then (Pure.split p.data).2 else []
theorem hears_none {p : Pure.Pkt} (h : ¬ (p.code = 1 ∨ p.code = 2 ∨ p.code = 3 ∨ p.code = 4)) : hears p = [] := if_neg h
theorem y4n {p : Pure.Pkt} (h : p.code = 1 ∨ p.code = 2 ∨ p.code = 3 ∨ p.code = 4) : hears p = (Pure.split p.data).2 := if_pos h
theorem yaq (F R : Nat → Prop) (g : Nat) (f : NF) (n : Pure.Neg) (d : Value) (p : Pure.Pkt) (w : World) (hg : y17 w) (h : NObj w g R f n) (hF : ∀ b, F b → b < w.heap.size) (hd : Row w F 1 d p.data.length (u8s p.data)) :
  Calls Tryz.prog 131 #[.pointer (some ⟨g, 0, none⟩), pktV p d] w fun e w' => y2a w e w' (n.refuses p) (hears p) := by
 obtain ⟨pc, pi, pd⟩ := p
 dsimp only at hd ⊢
 obtain ⟨DA, dc, rfl, _⟩ := hd.form
 obtain ⟨ra, hra⟩ : ∃ r, r = w.heap.size := ⟨_, rfl⟩
 obtain ⟨qs, hq, hqe, _⟩ := h.aopts
 obtain ⟨OA, oc, hOA, _⟩ := hq.form
 go_enter Tryz.func131, Tryz.ntmps131
 go_upto_region 1 with fail
 rw [← hra]
 generalize hw1 : w.alloc _ = w1
 have hk1 : Keeps y01 w w1 := by rw [← hw1]; exact (Keeps.refl _ w).alloc _
 have hP : Blk w1 ra 56 #[.int .i64 pc, .int .i64 pi, .slice DA pd.length dc] := by rw [← hw1, hra]; exact Blk.new w _ _
 have p0 : w1.cell? ⟨ra, 0, none⟩ = some (.int .i64 pc) := by rw [hP.cell]; rfl
 have p1 : w1.cell? ⟨ra, 1, none⟩ = some (.int .i64 pi) := by rw [hP.cell]; rfl
 have p2 : w1.cell? ⟨ra, 2, none⟩ = some (.slice DA pd.length dc) := by rw [hP.cell]; rfl
 have h1 := h.keeps hk1 (fun h => h) (fun h => h) (fun _ _ h => h)
 have c5 : w1.cell? ⟨g, 6, none⟩ = some (.int .i64 (f.aid : Int)) := h1.blk.cell 6
 have c6 : w1.cell? ⟨g, 7, none⟩ = some (.slice OA qs.length oc) := by rw [h1.blk.cell]; exact congrArg some hOA
 have c7 : w1.cell? ⟨g, 8, none⟩ = some (.bool f.aopen) := h1.blk.cell 8
 have hd1 := hd.keeps hk1 (fun _ _ h => h)
 have hF1 := fun b hb => Nat.lt_of_lt_of_le (hF b hb) hk1.size
 have HST := xhd (y7z g R f n w1 h1)
 have HSP := xhd (ybg F _ pd w1 (hg.keeps hk1 (fun h => h)) hF1 hd1)
 have hq1 := hq.keeps hk1 (fun _ _ h => h)
 rw [hOA] at hq1
 have HAN := xhd (fun (W : World) (k : Keeps y01 w1 W) => yew F R f.aid _ _ qs f.aopen ⟨pc, pi, pd⟩ W ((hg.keeps hk1 (fun h => h)).keeps k (fun h => h)) (fun b hb => Nat.lt_of_lt_of_le (hF1 b hb) k.size) (hd1.keeps k (fun _ _ h => h)) (hq1.keeps k (fun _ _ h => h)))
 have HE4 := xhd h.e4
 have HE5 := xhd h.e5
 have HQE := xhd hqe
 have HK1 := xhd hk1
 have HKD := xhd (fun k : Int => (show Keeps y01 w (w1.alloc (.cells #[.int .i64 k] 220)) from hk1.alloc _))
 have HBX := xhd (fun (W : World) (k : Int) => y63 W (.int .i64 k) 220)
 have hs9 := h.well.good.state
 have HRF := xhd (show n.refuses ⟨pc, pi, pd⟩ ↔ (n.m.state ≤ 1 ∨ (pc = 1 ∧ (Pure.split pd).1 ≠ 0) ∨ ((pc = 2 ∨ pc = 3 ∨ pc = 4) ∧ y7m f.aid f.aopen (y02 qs) ⟨pc, pi, pd⟩) ∨ (pc = 7 ∧ pd = [])) by
  unfold Pure.Neg.refuses y7m
  dsimp only
  rw [hqe, h.e4, h.e5])
 obtain ⟨st, hst⟩ : ∃ s, s = n.m.state := ⟨_, rfl⟩
 rw [← hst] at HST HRF hs9
 obtain ⟨len, hlen⟩ : ∃ s, s = pd.length := ⟨_, rfl⟩
 rw [← hlen] at HSP HAN p2
 have HLEN := xhd hlen
 clear hw1 hk1 hP hra hg hF hd h h1 hq hqe hq1 hOA hd1 hF1 hst hlen
 go_wp2_with fail
 refine HST.out.mono ?_
 rintro e w2 ⟨rfl, rfl⟩
 by_cases s0 : st = 0
 ·subst s0
  have HB := xhd (HRF.out.2 (.inl (by omega)))
  clear HST HSP HAN HRF
  go_wp2_with fail
  go_ret2
  exact .inl ⟨HB.out, _, rfl, ⟨_, _, rfl, HBX.out _ 6⟩, HKD.out 6⟩
 by_cases s1 : st = 1
 ·subst s1
  have HB := xhd (HRF.out.2 (.inl (by omega)))
  clear HST HSP HAN HRF
  go_wp2_with fail
  go_ret2
  exact .inl ⟨HB.out, _, rfl, ⟨_, _, rfl, HBX.out _ 6⟩, HKD.out 6⟩
 have q0 : (((st : Nat) : Int) == 0) = false := by rw [beq_eq_false_iff_ne]; omega
 have q1 : (((st : Nat) : Int) == 1) = false := by rw [beq_eq_false_iff_ne]; omega
 have HS2 := xhd (show ¬ st ≤ 1 by omega)
 clear s0 s1 hs9 HST
 by_cases k1 : pc = 1
 ·subst k1
  clear HAN c5 c6 c7
  go_wp2_with fail
  refine HSP.out.mono ?_
  intro e w2 hacc
  have hacc := y2a.since (w0 := w) (bad' := n.refuses ⟨1, pi, pd⟩) hacc HK1.out (by
   rw [HRF.out]
   constructor
   ·exact fun x => .inr (.inl ⟨by simp, x⟩)
   ·rintro (x | ⟨_, x⟩ | ⟨x, _⟩ | ⟨x, _⟩)
    ·exact absurd x HS2.out
    ·exact x
    ·omega
    ·omega)
  rw [show (Pure.split pd).2 = hears ⟨1, pi, pd⟩ from (y4n (p := ⟨1, pi, pd⟩) (.inl rfl)).symm] at hacc
  obtain ⟨a, b, rfl⟩ := hacc.returned
  have HACC := xhd hacc
  clear hacc HSP HRF
  go_wp2_with fail
  go_ret2
  exact HACC.out
 have r1 : (pc == 1) = false := by rw [beq_eq_false_iff_ne]; exact k1
 have HC1 := xhd k1
 clear k1 HSP
 by_cases k234 : pc = 2 ∨ pc = 3 ∨ pc = 4
 ·have HBI := xhd (show y7m f.aid f.aopen (y02 qs) ⟨pc, pi, pd⟩ ↔ n.refuses ⟨pc, pi, pd⟩ by
   rw [HRF.out]
   constructor
   ·exact fun x => .inr (.inr (.inl ⟨k234, x⟩))
   ·rintro (x | ⟨x, _⟩ | ⟨_, x⟩ | ⟨x, _⟩)
    ·exact absurd x HS2.out
    ·exact absurd x HC1.out
    ·exact x
    ·omega)
  have HHS := xhd (show (Pure.split pd).2 = hears ⟨pc, pi, pd⟩ from (y4n (p := ⟨pc, pi, pd⟩) (.inr k234)).symm)
  clear HRF
  have HKZ0 := xhd (Keeps.refl y01 w1)
  have HCL := xhd (And.intro c5 (And.intro c6 (And.intro c7 (And.intro p1 p2))))
  have HP0 := xhd p0
  rcases k234 with rfl | rfl | rfl
  --REGION
  ·go_wp2_with fail
   refine y0b (fun w' => w'.cell? ⟨g, 6, none⟩ = some (.int .i64 (f.aid : Int)) ∧ w'.cell? ⟨g, 7, none⟩ = some (.slice OA qs.length oc) ∧ w'.cell? ⟨g, 8, none⟩ = some (.bool f.aopen) ∧ w'.cell? ⟨ra, 0, none⟩ = some (.int .i64 2) ∧ w'.cell? ⟨ra, 1, none⟩ = some (.int .i64 pi) ∧ w'.cell? ⟨ra, 2, none⟩ = some (.slice DA len dc)) 9 10 rfl (by kernel_rfl) ⟨HCL.out.1, HCL.out.2.1, HCL.out.2.2.1, HP0.out, HCL.out.2.2.2.1, HCL.out.2.2.2.2⟩ (fun hHeld => ?_)
   have HSW := hHeld
   clear hHeld
   have HK0d := xhd (HKZ0.out.drew)
   refine y00 (i := 0) rfl (by kernel_rfl) (fun _ _ _ h => h) (Or.inl ⟨by rfl, by intro w hSw; obtain ⟨s0, s1, s2, s3, s4, s5⟩ := hSw; go_simp; try with_reducible rfl⟩) HSW.out ?_
   simp only [Act.put, xqA, xqB, xqD, xqE, xqF]
   refine y00 (i := 1) rfl (by kernel_rfl) (fun _ _ _ h => h) (Or.inl ⟨by rfl, by intro w hSw; obtain ⟨s0, s1, s2, s3, s4, s5⟩ := hSw; go_simp; try with_reducible rfl⟩) HSW.out ?_
   simp only [Act.put, xqA, xqB, xqC, xqD, xqE, xqF]
   refine y00 (i := 2) rfl (by kernel_rfl) (fun _ _ _ h => h) (Or.inl ⟨by rfl, by intro w hSw; obtain ⟨s0, s1, s2, s3, s4, s5⟩ := hSw; go_simp; try with_reducible rfl⟩) HSW.out ?_
   simp only [Act.put, xqA, xqB, xqC, xqD, xqE, xqF]
   refine y00 (i := 3) rfl (by kernel_rfl) (fun _ _ _ h => h) (Or.inl ⟨by rfl, by intro w hSw; obtain ⟨s0, s1, s2, s3, s4, s5⟩ := hSw; go_simp; try with_reducible rfl⟩) HSW.out ?_
   simp only [Act.put, xqA, xqB, xqC, xqD, xqE, xqF]
   refine y00 (i := 4) rfl (by kernel_rfl) (fun _ _ _ h => h) (Or.inl ⟨by rfl, by intro w hSw; obtain ⟨s0, s1, s2, s3, s4, s5⟩ := hSw; go_simp; try with_reducible rfl⟩) HSW.out ?_
   simp only [Act.put, xqA, xqB, xqC, xqD, xqE, xqF]
   refine y03 (i := 5) (by kernel_rfl) rfl (fun K hK => ?_)
   try rw [if_pos (by rfl)]
   go_simp
   refine (HAN.out _ HK0d.out).mono ?_
   intro e w2 hacc
   have hka : Keeps y01 (w1.drew) w2 := hacc.keeps
   have HS2B := xhd (And.intro (y04 HSW.out.1 hka) (And.intro (y04 HSW.out.2.1 hka) (And.intro (y04 HSW.out.2.2.1 hka) (And.intro (y04 HSW.out.2.2.2.1 hka) (And.intro (y04 HSW.out.2.2.2.2.1 hka) (y04 HSW.out.2.2.2.2.2 hka))))))
   have hacc := y2a.since (w0 := w) hacc (HK1.out.trans HK0d.out) HBI.out
   rw [HHS.out] at hacc
   obtain ⟨a, b, rfl⟩ := hacc.returned
   have HACC := xhd hacc
   clear hacc hka
   refine hK.out _ _ (fun _ => HS2B.out) ?_
   clear hK K
   try simp only [Act.put, xqA, Nat.reduceAdd, xqB, xqC, xqD, xqE, xqF]
   refine y00 (i := 6) rfl (by kernel_rfl) (fun _ _ _ h => h) (Or.inl ⟨by rfl, by intro w hSw; obtain ⟨s0, s1, s2, s3, s4, s5⟩ := hSw; go_simp; try with_reducible rfl⟩) HS2B.out ?_
   simp only [Act.put, xqA, xqB, xqC, xqD, xqE, xqF]
   refine y00 (i := 7) rfl (by kernel_rfl) (fun _ _ _ h => h) (Or.inl ⟨by rfl, by intro w hSw; obtain ⟨s0, s1, s2, s3, s4, s5⟩ := hSw; go_simp; try with_reducible rfl⟩) HS2B.out ?_
   simp only [Act.put, xqA, xqB, xqC, xqD, xqE, xqF]
   refine y00 (i := 8) rfl (by kernel_rfl) (fun _ _ _ h => h) (Or.inl ⟨by rfl, by intro w hSw; obtain ⟨s0, s1, s2, s3, s4, s5⟩ := hSw; go_simp; try with_reducible rfl⟩) HS2B.out ?_
   simp only [Act.put, xqA, xqB, xqC, xqD, xqE, xqF]
   refine y03 (i := 9) (by kernel_rfl) rfl (fun K hK => ?_)
   go_simp
   refine hK.out _ _ (fun h => absurd rfl h) ?_
   clear hK K
   refine y09 (by kernel_rfl) ?_ _
   go_wp2_with fail
   go_ret2
   exact HACC.out
  ·go_wp2_with fail
   refine y0b (fun w' => w'.cell? ⟨g, 6, none⟩ = some (.int .i64 (f.aid : Int)) ∧ w'.cell? ⟨g, 7, none⟩ = some (.slice OA qs.length oc) ∧ w'.cell? ⟨g, 8, none⟩ = some (.bool f.aopen) ∧ w'.cell? ⟨ra, 0, none⟩ = some (.int .i64 3) ∧ w'.cell? ⟨ra, 1, none⟩ = some (.int .i64 pi) ∧ w'.cell? ⟨ra, 2, none⟩ = some (.slice DA len dc)) 9 10 rfl (by kernel_rfl) ⟨HCL.out.1, HCL.out.2.1, HCL.out.2.2.1, HP0.out, HCL.out.2.2.2.1, HCL.out.2.2.2.2⟩ (fun hHeld => ?_)
   have HSW := hHeld
   clear hHeld
   have HK0d := xhd (HKZ0.out.drew)
   refine y00 (i := 0) rfl (by kernel_rfl) (fun _ _ _ h => h) (Or.inl ⟨by rfl, by intro w hSw; obtain ⟨s0, s1, s2, s3, s4, s5⟩ := hSw; go_simp; try with_reducible rfl⟩) HSW.out ?_
   simp only [Act.put, xqA, xqB, xqD, xqE, xqF]
   refine y00 (i := 1) rfl (by kernel_rfl) (fun _ _ _ h => h) (Or.inl ⟨by rfl, by intro w hSw; obtain ⟨s0, s1, s2, s3, s4, s5⟩ := hSw; go_simp; try with_reducible rfl⟩) HSW.out ?_
   simp only [Act.put, xqA, xqB, xqC, xqD, xqE, xqF]
   refine y00 (i := 2) rfl (by kernel_rfl) (fun _ _ _ h => h) (Or.inl ⟨by rfl, by intro w hSw; obtain ⟨s0, s1, s2, s3, s4, s5⟩ := hSw; go_simp; try with_reducible rfl⟩) HSW.out ?_
   simp only [Act.put, xqA, xqB, xqC, xqD, xqE, xqF]
   refine y00 (i := 3) rfl (by kernel_rfl) (fun _ _ _ h => h) (Or.inl ⟨by rfl, by intro w hSw; obtain ⟨s0, s1, s2, s3, s4, s5⟩ := hSw; go_simp; try with_reducible rfl⟩) HSW.out ?_
   simp only [Act.put, xqA, xqB, xqC, xqD, xqE, xqF]
   refine y00 (i := 4) rfl (by kernel_rfl) (fun _ _ _ h => h) (Or.inl ⟨by rfl, by intro w hSw; obtain ⟨s0, s1, s2, s3, s4, s5⟩ := hSw; go_simp; try with_reducible rfl⟩) HSW.out ?_
   simp only [Act.put, xqA, xqB, xqC, xqD, xqE, xqF]
   refine y03 (i := 5) (by kernel_rfl) rfl (fun K hK => ?_)
   try rw [if_pos (by rfl)]
   go_simp
   refine (HAN.out _ HK0d.out).mono ?_
   intro e w2 hacc
   have hka : Keeps y01 (w1.drew) w2 := hacc.keeps
   have HS2B := xhd (And.intro (y04 HSW.out.1 hka) (And.intro (y04 HSW.out.2.1 hka) (And.intro (y04 HSW.out.2.2.1 hka) (And.intro (y04 HSW.out.2.2.2.1 hka) (And.intro (y04 HSW.out.2.2.2.2.1 hka) (y04 HSW.out.2.2.2.2.2 hka))))))
   have hacc := y2a.since (w0 := w) hacc (HK1.out.trans HK0d.out) HBI.out
   rw [HHS.out] at hacc
   obtain ⟨a, b, rfl⟩ := hacc.returned
   have HACC := xhd hacc
   clear hacc hka
   refine hK.out _ _ (fun _ => HS2B.out) ?_
   clear hK K
   try simp only [Act.put, xqA, Nat.reduceAdd, xqB, xqC, xqD, xqE, xqF]
   refine y00 (i := 6) rfl (by kernel_rfl) (fun _ _ _ h => h) (Or.inl ⟨by rfl, by intro w hSw; obtain ⟨s0, s1, s2, s3, s4, s5⟩ := hSw; go_simp; try with_reducible rfl⟩) HS2B.out ?_
   simp only [Act.put, xqA, xqB, xqC, xqD, xqE, xqF]
   refine y00 (i := 7) rfl (by kernel_rfl) (fun _ _ _ h => h) (Or.inl ⟨by rfl, by intro w hSw; obtain ⟨s0, s1, s2, s3, s4, s5⟩ := hSw; go_simp; try with_reducible rfl⟩) HS2B.out ?_
   simp only [Act.put, xqA, xqB, xqC, xqD, xqE, xqF]
   refine y00 (i := 8) rfl (by kernel_rfl) (fun _ _ _ h => h) (Or.inl ⟨by rfl, by intro w hSw; obtain ⟨s0, s1, s2, s3, s4, s5⟩ := hSw; go_simp; try with_reducible rfl⟩) HS2B.out ?_
   simp only [Act.put, xqA, xqB, xqC, xqD, xqE, xqF]
   refine y03 (i := 9) (by kernel_rfl) rfl (fun K hK => ?_)
   go_simp
   refine hK.out _ _ (fun h => absurd rfl h) ?_
   clear hK K
   refine y09 (by kernel_rfl) ?_ _
   go_wp2_with fail
   go_ret2
   exact HACC.out
  ·go_wp2_with fail
   refine y0b (fun w' => w'.cell? ⟨g, 6, none⟩ = some (.int .i64 (f.aid : Int)) ∧ w'.cell? ⟨g, 7, none⟩ = some (.slice OA qs.length oc) ∧ w'.cell? ⟨g, 8, none⟩ = some (.bool f.aopen) ∧ w'.cell? ⟨ra, 0, none⟩ = some (.int .i64 4) ∧ w'.cell? ⟨ra, 1, none⟩ = some (.int .i64 pi) ∧ w'.cell? ⟨ra, 2, none⟩ = some (.slice DA len dc)) 9 10 rfl (by kernel_rfl) ⟨HCL.out.1, HCL.out.2.1, HCL.out.2.2.1, HP0.out, HCL.out.2.2.2.1, HCL.out.2.2.2.2⟩ (fun hHeld => ?_)
   have HSW := hHeld
   clear hHeld
   have HK0d := xhd (HKZ0.out.drew)
   refine y00 (i := 0) rfl (by kernel_rfl) (fun _ _ _ h => h) (Or.inl ⟨by rfl, by intro w hSw; obtain ⟨s0, s1, s2, s3, s4, s5⟩ := hSw; go_simp; try with_reducible rfl⟩) HSW.out ?_
   simp only [Act.put, xqA, xqB, xqD, xqE, xqF]
   refine y00 (i := 1) rfl (by kernel_rfl) (fun _ _ _ h => h) (Or.inl ⟨by rfl, by intro w hSw; obtain ⟨s0, s1, s2, s3, s4, s5⟩ := hSw; go_simp; try with_reducible rfl⟩) HSW.out ?_
   simp only [Act.put, xqA, xqB, xqC, xqD, xqE, xqF]
   refine y00 (i := 2) rfl (by kernel_rfl) (fun _ _ _ h => h) (Or.inl ⟨by rfl, by intro w hSw; obtain ⟨s0, s1, s2, s3, s4, s5⟩ := hSw; go_simp; try with_reducible rfl⟩) HSW.out ?_
   simp only [Act.put, xqA, xqB, xqC, xqD, xqE, xqF]
   refine y00 (i := 3) rfl (by kernel_rfl) (fun _ _ _ h => h) (Or.inl ⟨by rfl, by intro w hSw; obtain ⟨s0, s1, s2, s3, s4, s5⟩ := hSw; go_simp; try with_reducible rfl⟩) HSW.out ?_
   simp only [Act.put, xqA, xqB, xqC, xqD, xqE, xqF]
   refine y00 (i := 4) rfl (by kernel_rfl) (fun _ _ _ h => h) (Or.inl ⟨by rfl, by intro w hSw; obtain ⟨s0, s1, s2, s3, s4, s5⟩ := hSw; go_simp; try with_reducible rfl⟩) HSW.out ?_
   simp only [Act.put, xqA, xqB, xqC, xqD, xqE, xqF]
   refine y03 (i := 5) (by kernel_rfl) rfl (fun K hK => ?_)
   try rw [if_pos (by rfl)]
   go_simp
   refine (HAN.out _ HK0d.out).mono ?_
   intro e w2 hacc
   have hka : Keeps y01 (w1.drew) w2 := hacc.keeps
   have HS2B := xhd (And.intro (y04 HSW.out.1 hka) (And.intro (y04 HSW.out.2.1 hka) (And.intro (y04 HSW.out.2.2.1 hka) (And.intro (y04 HSW.out.2.2.2.1 hka) (And.intro (y04 HSW.out.2.2.2.2.1 hka) (y04 HSW.out.2.2.2.2.2 hka))))))
   have hacc := y2a.since (w0 := w) hacc (HK1.out.trans HK0d.out) HBI.out
   rw [HHS.out] at hacc
   obtain ⟨a, b, rfl⟩ := hacc.returned
   have HACC := xhd hacc
   clear hacc hka
   refine hK.out _ _ (fun _ => HS2B.out) ?_
   clear hK K
   try simp only [Act.put, xqA, Nat.reduceAdd, xqB, xqC, xqD, xqE, xqF]
   refine y00 (i := 6) rfl (by kernel_rfl) (fun _ _ _ h => h) (Or.inl ⟨by rfl, by intro w hSw; obtain ⟨s0, s1, s2, s3, s4, s5⟩ := hSw; go_simp; try with_reducible rfl⟩) HS2B.out ?_
   simp only [Act.put, xqA, xqB, xqC, xqD, xqE, xqF]
   refine y00 (i := 7) rfl (by kernel_rfl) (fun _ _ _ h => h) (Or.inl ⟨by rfl, by intro w hSw; obtain ⟨s0, s1, s2, s3, s4, s5⟩ := hSw; go_simp; try with_reducible rfl⟩) HS2B.out ?_
   simp only [Act.put, xqA, xqB, xqC, xqD, xqE, xqF]
   refine y00 (i := 8) rfl (by kernel_rfl) (fun _ _ _ h => h) (Or.inl ⟨by rfl, by intro w hSw; obtain ⟨s0, s1, s2, s3, s4, s5⟩ := hSw; go_simp; try with_reducible rfl⟩) HS2B.out ?_
   simp only [Act.put, xqA, xqB, xqC, xqD, xqE, xqF]
   refine y03 (i := 9) (by kernel_rfl) rfl (fun K hK => ?_)
   go_simp
   refine hK.out _ _ (fun h => absurd rfl h) ?_
   clear hK K
   refine y09 (by kernel_rfl) ?_ _
   go_wp2_with fail
   go_ret2
   exact HACC.out
  --END
 have r2 : (pc == 2) = false := by rw [beq_eq_false_iff_ne]; omega
 have r3 : (pc == 3) = false := by rw [beq_eq_false_iff_ne]; omega
 have r4 : (pc == 4) = false := by rw [beq_eq_false_iff_ne]; omega
 have HC := xhd k234
 have HHN := xhd (show hears ⟨pc, pi, pd⟩ = [] from hears_none (by have := HC1.out; dsimp only; omega))
 clear k234 HAN
 by_cases k7 : pc = 7
 ·subst k7
  by_cases hl : len = 0
  ·have HB := xhd (HRF.out.2 (.inr (.inr (.inr ⟨rfl, List.eq_nil_of_length_eq_zero (by have := HLEN.out; omega)⟩))))
   subst hl
   clear HRF
   go_wp2_with fail
   go_ret2
   exact .inl ⟨HB.out, _, rfl, ⟨_, _, rfl, HBX.out _ 2⟩, HKD.out 2⟩
  ·have ql : ((len : Int) == 0) = false := by rw [beq_eq_false_iff_ne]; omega
   have HB := xhd (show ¬ n.refuses ⟨7, pi, pd⟩ by
    rw [HRF.out]
    rintro (x | ⟨x, _⟩ | ⟨x, _⟩ | ⟨_, x⟩)
    ·exact HS2.out x
    ·omega
    ·omega
    ·have := HLEN.out; rw [x] at this; exact hl this)
   clear HRF hl
   go_wp2_with fail
   go_ret2
   rw [HHN.out]
   exact y2a.none _ _ _ HB.out HK1.out
 ·have r7 : (pc == 7) = false := by rw [beq_eq_false_iff_ne]; exact k7
  have HB := xhd (show ¬ n.refuses ⟨pc, pi, pd⟩ by
   rw [HRF.out]
   rintro (x | ⟨x, _⟩ | ⟨x, _⟩ | ⟨x, _⟩)
   ·exact HS2.out x
   ·exact HC1.out x
   ·exact HC.out x
   ·exact k7 x)
  clear HRF k7
  go_wp2_with fail
  go_ret2
  rw [HHN.out]
  exact y2a.none _ _ _ HB.out HK1.out
end Go.Proofs.YtmgicbckgpdkcaaGreatDoor
