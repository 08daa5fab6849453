/- The document's Naked. -/
import Derived.Test.YtgphfindolaljaaT1
namespace Go.Proofs.Ytgphfindolaljaa
set_option maxRecDepth 100000
set_option maxHeartbeats 16000000
open _root_.Go.Lib renaming hid → xhd
open List renaming setIfInBounds_toArray → xqA, getElem_toArray → xqB, getElem_cons_succ → xqC, getElem_cons_zero → xqD, set_cons_succ → xqE, set_cons_zero → xqF
open Go.RowKit
theorem run_max2 {P : Program} (ts : Array TypeId) (t : TypeId) (x y : Int) (w : World) : (Builtin.max_ ts t #[.int .i64 x, .int .i64 y]).run P w = .ok (.int .i64 (max x y)) w := by
 rw [show max x y = if x < y then y else x by split <;> omega]
 simp [Builtin.max_, Builtin.max2]
theorem run_min2 {P : Program} (ts : Array TypeId) (t : TypeId) (x y : Int) (w : World) : (Builtin.min_ ts t #[.int .i64 x, .int .i64 y]).run P w = .ok (.int .i64 (min x y)) w := by
 rw [show min x y = if y < x then y else x by split <;> omega]
 simp [Builtin.min_, Builtin.min2]
def y18 (w : World) (v : Value) (qs : List (Value × Pure.Opt)) (k : Nat) (o : Pure.Opt) (wx : World) : Prop :=
 ∃ qs' : List (Value × Pure.Opt), y01 qs' = (y01 qs).set k o ∧ qs'.length = qs.length ∧ Read w wx v qs'
theorem y18.same {w wr wx : World} {v : Value} {qs : List (Value × Pure.Opt)} {k : Nat} {o : Pure.Opt} (h : Read w wr v qs) (hk : Keeps y02 wr wx) (ho : (y01 qs)[k]? = some o) : y18 w v qs k o wx := by
 refine ⟨qs, ?_, rfl, h.keeps hk⟩
 obtain ⟨hl, he⟩ := List.getElem?_eq_some_iff.1 ho
 rw [← he, List.set_getElem_self]
theorem y6f (Fu Fx Fn : Nat → Prop) (xu x xn : Value) (us : List (Value × Pure.Rule)) (zs ns : List (Value × Pure.Opt)) (w : World) (hu : RRow w Fu xu us) (hx : ORow w Fx x zs) (hn : ORow w Fn xn ns) (hFx : ∀ b, Fx b → b < w.heap.size) (hFn : ∀ b, Fn b → b < w.heap.size) (hfu : FewRules us) (hfx : FewOpts zs) (hfn : FewOpts ns) :
  Calls Try.prog 13 #[xu, x, xn] w fun e w' => ∃ u, ∃ qs : List (Value × Pure.Opt), e = .returned u ∧ y01 qs = Pure.naked (y06 us) (y01 zs) (y01 ns) ∧ Read w w' u qs := by
 obtain ⟨U, cu, rfl, _⟩ := hu.form
 obtain ⟨X, cx, rfl, _⟩ := hx.form
 obtain ⟨V, cv, rfl, _⟩ := hn.form
 have HU := xhd hu
 have HN := xhd hn
 have HFU := xhd hfu
 have HFN := xhd hfn
 have HGN := xhd hFn
 have hzl := hfx.len
 have hnl := hfn.len
 have HCP := xhd (y0w Fx (.slice X zs.length cx) zs w hFx hx hfx.len hfx.data)
 clear hu hx hn hfu hfx hfn hFn hFx
 go_enter Try.func13, Try.ntmps13
 go_wp2_with fail
 refine HCP.out.mono ?_
 rintro e w1 ⟨u0, q0, rfl, hq0, hr0⟩
 obtain ⟨A2, c2, rfl⟩ := y0b hr0.own
 have hl0 : q0.length = zs.length := by have := congrArg List.length hq0; simpa using this
 rw [hl0] at hr0 ⊢
 have HQ0 := xhd hq0
 have HR0 := xhd hr0
 clear hq0 hr0 HCP hl0
 go_wp2_with fail
 go_loopw [8] (fun i wr => ∃ k : Nat, k ≤ zs.length ∧ i = .int .i64 (k : Int) ∧ ∃ qs : List (Value × Pure.Opt), y01 qs = y0r (y06 us) (y01 ns) (y01 zs) k ∧ Read w wr (.slice A2 zs.length c2) qs) (fun i _ => zs.length - (intOf i).toNat)
 case atStart => exact ⟨0, by omega, rfl, q0, by rw [HQ0.out]; simp [y0r], HR0.out⟩
 case round =>
  clear HQ0 HR0
  obtain ⟨k, hk, rfl, qs, hqs, hrd⟩ := hrel
  have hql : qs.length = zs.length := by
   have := congrArg List.length hqs
   simp [y0r] at this
   omega
  have HQS := xhd hqs
  have HRD := xhd hrd
  have HQL := xhd hql
  clear hqs
  by_cases hkl : k < zs.length
  ·have i0' : (0 : Int) ≤ (k : Int) := by omega
   have i1 : (k : Int) < (zs.length : Int) := by omega
   have d1 : decide ((k : Int) < (zs.length : Int)) = true := decide_eq_true (by omega)
   have d2 : decide (k < zs.length) = true := decide_eq_true hkl
   have hrow0 := hrd.row
   obtain ⟨g, rfl, hgl⟩ : ∃ g, A2 = some ⟨g, 0, none⟩ ∧ w.heap.size ≤ g := by
    rcases hrd.own.2 with ⟨e, h0⟩ | ⟨g, cap, cur, e, hg, _⟩
    ·omega
    ·injection e with e1
     exact ⟨g, e1, hg⟩
   have hok : (y01 zs)[k]? = some ((y01 zs)[k]'(by simpa using hkl)) := List.getElem?_eq_getElem _
   obtain ⟨⟨t, D⟩, hoz⟩ : ∃ o, o = (y01 zs)[k]'(by simpa using hkl) := ⟨_, rfl⟩
   rw [← hoz] at hok
   have hokq : (y01 qs)[k]? = some (t, D) := by
    rw [HQS.out]
    unfold y0r
    rw [List.getElem?_append_right (by rw [List.length_map, List.length_take]; omega), List.getElem?_drop, ← hok]
    congr 1
    simp
    omega
   have HOK := xhd hok
   have HOQ := xhd hokq
   rw [← hql] at hrow0
   obtain ⟨bx, ox, A1, c1, t', D', e1, hFb, x0, x1, hra, hpa⟩ := hrow0.pick k (by omega)
   obtain ⟨rfl, rfl⟩ : g = bx ∧ ox = 0 := by
    injection e1 with e1
    injection e1 with e1 e2
    exact ⟨e1, e2.symm⟩
   obtain ⟨rfl, rfl⟩ : t' = t ∧ D' = D := by
    rw [List.getElem?_map, hpa] at hokq
    injection hokq with hokq
    injection hokq with a b
    exact ⟨a, b⟩
   have HQK := xhd (show ∃ u, qs[k]? = some (u, (t', D')) from ⟨_, hpa⟩)
   rw [Nat.zero_add] at x0 x1
   have HX0 := xhd x0
   clear hok hokq hoz hrow0 e1 hra hpa hrd hql hFb x0 x1
   go_wp2_with fail
   go_loopw [9] (fun i wq => ∃ j : Nat, j ≤ ns.length ∧ i = .int .i64 (j : Int) ∧ (∀ p ∈ (y01 ns).take j, p.1 ≠ t') ∧ Keeps y02 wr wq) (fun i _ => ns.length - (intOf i).toNat)
   case atStart => exact ⟨0, by omega, rfl, by simp, Keeps.refl _ _⟩
   case round =>
    obtain ⟨j, hj, rfl, hno, hkq⟩ := hrel
    obtain ⟨wq, hwq, hkq⟩ : ∃ wx, wx = _ ∧ Keeps y02 _ wx := ⟨_, rfl, hkq⟩
    subst hwq
    have HNO := xhd hno
    have HKQ := xhd hkq
    have HKW := xhd (Keeps.new HRD.out.below)
    clear hno
    by_cases hjl : j < ns.length
    ·have j0 : (0 : Int) ≤ (j : Int) := by omega
     have j1 : (j : Int) < (ns.length : Int) := by omega
     have e1 : decide ((j : Int) < (ns.length : Int)) = true := decide_eq_true (by omega)
     have e2 : decide (j < ns.length) = true := decide_eq_true hjl
     obtain ⟨bn, nn, A5, c5, t5, D5, rfl, hFn, n0, n1, hrn, hpn⟩ := (HN.out.keeps (HKW.out.trans hkq) (fun _ _ h => h)).pick j hjl
     have hD5 : D5.length ≤ 100000 := HFN.out.data _ (List.mem_of_getElem? hpn)
     have HRN := xhd hrn
     have HPN := xhd (show (y01 ns)[j]? = some (t5, D5) by rw [List.getElem?_map, hpn]; rfl)
     have x0 := y08 HX0.out hkq
     clear hrn hpn hkq
     have HCS := xhd (And.intro x0 n0)
     have HN1 := xhd n1
     clear n1
     go_wp2_with fail
     refine y0e (fun w' => w'.cell? ⟨g, k * 2, none⟩ = some (.int .i64 t') ∧ w'.cell? ⟨bn, nn + j * 2, none⟩ = some (.int .i64 t5)) 10 11 rfl (by kernel_rfl) HCS.out (fun hHeld => ?_)
     have HSW := hHeld
     clear hHeld
     refine y00 (i := 0) rfl (by kernel_rfl) (fun _ _ _ h => h) (Or.inl ⟨by rfl, by intro w hSw; obtain ⟨s0, s1⟩ := hSw; go_simp; try with_reducible rfl⟩) HSW.out ?_
     simp only [Act.put, xqA, xqB, xqD, xqE, xqF]
     refine y00 (i := 1) rfl (by kernel_rfl) (fun _ _ _ h => h) (Or.inl ⟨by rfl, by intro w hSw; obtain ⟨s0, s1⟩ := hSw; go_simp; try with_reducible rfl⟩) HSW.out ?_
     simp only [Act.put, xqA, xqB, xqC, xqD, xqE, xqF]
     refine y00 (i := 2) rfl (by kernel_rfl) (fun _ _ _ h => h) (Or.inl ⟨by rfl, by intro w hSw; obtain ⟨s0, s1⟩ := hSw; go_simp; try with_reducible rfl⟩) HSW.out ?_
     simp only [Act.put, xqA, xqB, xqC, xqD, xqE, xqF]
     refine y00 (i := 3) rfl (by kernel_rfl) (fun _ _ _ h => h) (Or.inl ⟨by rfl, by intro w hSw; obtain ⟨s0, s1⟩ := hSw; go_simp; try with_reducible rfl⟩) HSW.out ?_
     simp only [Act.put, xqA, xqB, xqC, xqD, xqE, xqF]
     refine y00 (i := 4) rfl (by kernel_rfl) (fun _ _ _ h => h) (Or.inl ⟨by rfl, by intro w hSw; obtain ⟨s0, s1⟩ := hSw; go_simp; try with_reducible rfl⟩) HSW.out ?_
     simp only [Act.put, xqA, xqB, xqC, xqD, xqE, xqF]
     refine y00 (i := 5) rfl (by kernel_rfl) (fun _ _ _ h => h) (Or.inl ⟨by rfl, by intro w hSw; obtain ⟨s0, s1⟩ := hSw; go_simp; try with_reducible rfl⟩) HSW.out ?_
     simp only [Act.put, xqA, xqB, xqC, xqD, xqE, xqF]
     refine y00 (i := 6) rfl (by kernel_rfl) (fun _ _ _ h => h) (Or.inl ⟨by rfl, by intro w hSw; obtain ⟨s0, s1⟩ := hSw; go_simp; try with_reducible rfl⟩) HSW.out ?_
     simp only [Act.put, xqA, xqB, xqC, xqD, xqE, xqF]
     refine y00 (i := 7) rfl (by kernel_rfl) (fun _ _ _ h => h) (Or.inl ⟨by rfl, by intro w hSw; obtain ⟨s0, s1⟩ := hSw; go_simp; try with_reducible rfl⟩) HSW.out ?_
     simp only [Act.put, xqA, xqB, xqC, xqD, xqE, xqF]
     refine y00 (i := 8) rfl (by kernel_rfl) (fun _ _ _ h => h) (Or.inl ⟨by rfl, by intro w hSw; obtain ⟨s0, s1⟩ := hSw; go_simp; try with_reducible rfl⟩) HSW.out ?_
     simp only [Act.put, xqA, xqB, xqC, xqD, xqE, xqF]
     refine y00 (i := 9) rfl (by kernel_rfl) (fun _ _ _ h => h) (Or.inl ⟨by rfl, by intro w hSw; obtain ⟨s0, s1⟩ := hSw; go_simp; try with_reducible rfl⟩) HSW.out ?_
     simp only [Act.put, xqA, xqB, xqC, xqD, xqE, xqF]
     refine y05 (i := 10) (by kernel_rfl) rfl (fun K hK => ?_)
     go_simp
     refine hK.out _ _ (fun h => absurd rfl h) ?_
     clear hK K HSW
     refine y0d (by kernel_rfl) ?_ _
     clear x0 n0
     by_cases hne : t5 = t'
     ·subst hne
      have dne : decide (t5 = t5) = true := decide_eq_true rfl
      have HFND := xhd (show (y01 ns).find? (fun p => decide (p.1 = t5)) = some (t5, D5) from by
       rw [← List.take_append_drop (j + 1) (y01 ns), Pure.take_snoc _ j _ HPN.out, List.find?_append, List.find?_append, List.find?_eq_none.2 (fun p hp => by simpa using HNO.out p hp)]
       simp)
      have HKD := xhd (show Keeps y02 wr wq.drew from HKQ.out.drew)
      have HFD := xhd (y1o Fu (.slice U us.length cu) us t5 wq.drew (HU.out.keeps (HKW.out.trans HKD.out) (fun _ _ h => h)))
      have x0 : wq.drew.cell? ⟨g, k * 2, none⟩ = some (.int .i64 t5) := HCS.out.1
      clear HNO HKQ
      go_wp2_with fail
      refine HFD.out.mono ?_
      rintro e w1 ⟨⟨pv, pr⟩, fb, rfl, hk1, hfound⟩
      have hform : ∃ Ap cp, pv = .slice Ap pr.want.length cp := by
       rcases hfound with ⟨_, hm, _⟩ | ⟨_, he, _⟩
       ·obtain ⟨Aq, cq, hq, _⟩ := (HU.out.rows _ hm).form
        exact ⟨_, _, hq⟩
       ·injection he with h1 h2
        subst h1 h2
        exact ⟨_, _, rfl⟩
      obtain ⟨Ap, cp, rfl⟩ := hform
      have HFO := xhd hfound
      have HK1 := xhd (HKD.out.trans hk1)
      have m1 : w1.cell? ⟨bn, nn + j * 2 + 1, none⟩ = some (.slice A5 D5.length c5) := y08 (show wq.drew.cell? ⟨bn, nn + j * 2 + 1, none⟩ = some (.slice A5 D5.length c5) from HN1.out) hk1
      have HRN1 := xhd ((HRN.out.keeps (Keeps.refl y02 wq).drew (fun _ _ h => h)).keeps hk1 (fun _ _ h => h))
      have m1' := y0y (o := .cells (y04 (.slice Ap pr.want.length cp, pr)).toArray 53) m1
      clear hfound hk1 HFD x0 HKD HN1 HRN
      go_upto_block 4 with fail
      obtain ⟨gq, hgq⟩ : ∃ g, g = w1.heap.size := ⟨_, rfl⟩
      rw [← hgq]
      obtain ⟨w2, hw2⟩ : ∃ w2, w2 = w1.alloc (.cells (y04 (.slice Ap pr.want.length cp, pr)).toArray 53) := ⟨_, rfl⟩
      rw [show w1.alloc (.cells #[.int .i64 pr.type, .int .i64 pr.len, .int .i64 pr.how, .int .i64 pr.lo, .int .i64 pr.hi, .slice Ap pr.want.length cp, .bool pr.need] 53) = w2 from hw2.symm]
      have hb2 : Blk w2 gq 53 (y04 (.slice Ap pr.want.length cp, pr)).toArray := by rw [hw2, hgq]; exact Blk.new w1 _ _
      have hk2 : Keeps y02 w1 w2 := by rw [hw2]; exact (Keeps.refl y02 w1).alloc _
      have HC2 := xhd (fun j u (h : (y04 (.slice Ap pr.want.length cp, pr))[j]? = some u) => show w2.cell? ⟨gq, j, none⟩ = some u by rw [hb2.cell, List.getElem?_toArray]; exact h)
      have HK2 := xhd (HK1.out.trans hk2)
      have HR2 := xhd (HRD.out.keeps (HK1.out.trans hk2))
      have HRN2 := xhd (HRN1.out.keeps hk2 (fun _ _ h => h))
      clear m1 m1' hw2 hgq hb2 hk2 HRN1
      obtain ⟨O, hO⟩ : ∃ O, O = Pure.nakedOne (y06 us) (y01 ns) (t5, D') := ⟨_, rfl⟩
      have HO := xhd hO
      have HM := xhd (show O = match Pure.ruleOf (y06 us) t5 with | none => (t5, D') | some r => if r.how = 1 then (t5, D5) else if r.how = 2 ∧ r.numbered D5 then (t5, Pure.wide (min (max (Pure.bnum D5) r.lo.toNat) r.hi.toNat) r.len.toNat) else if r.how = 4 ∧ r.numbered D5 then (t5, Pure.wide (Pure.bnum D5 &&& r.hi.toNat) r.len.toNat) else (t5, D') from by
       rw [hO]
       unfold Pure.nakedOne
       rw [HFND.out]
       dsimp only
       cases Pure.ruleOf (y06 us) t5 <;> rfl)
      clear hO HFND
      go_cut [7] (fun s wx => s = .slice (some ⟨g, 0, none⟩) zs.length c2 ∧ y18 w (.slice (some ⟨g, 0, none⟩) zs.length c2) qs k O wx)
      case first =>
       cases fb
       ·have hO : O = (t5, D') := by
         rcases HFO.out with ⟨h, _⟩ | ⟨_, _, h⟩
         ·cases h
         ·rw [HM.out, h]
        have HT := xhd (show y18 w (.slice (some ⟨g, 0, none⟩) zs.length c2) qs k O w2 from by rw [hO]; exact y18.same HRD.out HK2.out HOQ.out)
        clear hO
        go_wp2_with fail
        go_meet
        exact ⟨rfl, HT.out⟩
       ·have hfnd : (Value.slice Ap pr.want.length cp, pr) ∈ us ∧ Pure.ruleOf (y06 us) t5 = some pr := by
         rcases HFO.out with ⟨_, h1, h2⟩ | ⟨h, _⟩
         ·exact ⟨h1, h2⟩
         ·cases h
        have HM := xhd (show O = if pr.how = 1 then (t5, D5) else if pr.how = 2 ∧ pr.numbered D5 then (t5, Pure.wide (min (max (Pure.bnum D5) pr.lo.toNat) pr.hi.toNat) pr.len.toNat) else if pr.how = 4 ∧ pr.numbered D5 then (t5, Pure.wide (Pure.bnum D5 &&& pr.hi.toNat) pr.len.toNat) else (t5, D') from by rw [HM.out, hfnd.2])
        have HOKR := xhd (HFU.out.ok _ hfnd.1).1
        have y2 : w2.cell? ⟨gq, 2, none⟩ = some (.int .i64 pr.how) := HC2.out 2 _ rfl
        clear hfnd HFO
        by_cases h1 : pr.how = 1
        ·have hO : O = (t5, D5) := HM.out.trans (if_pos h1)
         have b1 : (pr.how == 1) = true := by simp [h1]
         have HCPY := xhd (y3q Fn (.slice A5 D5.length c5) D5 w2 HRN2.out (fun b hb => Nat.lt_of_lt_of_le (HGN.out b hb) ((HKW.out.trans HK2.out).size)) (by omega))
         have HOE := xhd hO
         clear h1 hO
         go_wp2_with fail
         refine HCPY.out.mono ?_
         rintro e w3 ⟨u3, rfl, hu3, hb3⟩
         obtain ⟨A7, c7, rfl⟩ := y0b hu3
         obtain ⟨⟨uc, hc0⟩, hf0, hput⟩ := (HR2.out.keeps (Keeps.new hb3)).put k (t5, D') D5 A7 c7 HQK.out (HR2.out.fresh ((Row.of_own hu3).mono (fun b hb => y0c hu3 b hb)))
         have HPUT := xhd hput
         clear hput hu3 hb3 HCPY y2
         go_wp2_with fail
         go_meet
         exact ⟨rfl, qs.set k (.slice A7 D5.length c7, (t5, D5)), by rw [y1v, HOE.out], by simp, HPUT.out⟩
        ·have b1 : (pr.how == 1) = false := by simp [h1]
         have HM := xhd (HM.out.trans (if_neg h1))
         obtain ⟨nb, hnb⟩ : ∃ nb, nb = decide (pr.numbered D5) := ⟨_, rfl⟩
         have HNB := y0x Fn (.slice Ap pr.want.length cp) (.slice A5 D5.length c5) pr D5 w2 HRN2.out
         rw [← hnb] at HNB
         have HNB := xhd HNB
         have HND := xhd hnb
         clear h1 hnb
         have y0 : w2.cell? ⟨gq, 0, none⟩ = some (.int .i64 pr.type) := HC2.out 0 _ rfl
         have y1 : w2.cell? ⟨gq, 1, none⟩ = some (.int .i64 pr.len) := HC2.out 1 _ rfl
         have y3 : w2.cell? ⟨gq, 3, none⟩ = some (.int .i64 pr.lo) := HC2.out 3 _ rfl
         have y4 : w2.cell? ⟨gq, 4, none⟩ = some (.int .i64 pr.hi) := HC2.out 4 _ rfl
         have y5 : w2.cell? ⟨gq, 5, none⟩ = some (.slice Ap pr.want.length cp) := HC2.out 5 _ rfl
         have y6 : w2.cell? ⟨gq, 6, none⟩ = some (.bool pr.need) := HC2.out 6 _ rfl
         by_cases h2 : pr.how = 2
         ·have b2 : (pr.how == 2) = true := by simp [h2]
          have b4 : (pr.how == 4) = false := by simp [h2]
          cases nb
          ·have hO : O = (t5, D') := HM.out.trans (by
            have hn : ¬ pr.numbered D5 := of_decide_eq_false HND.out.symm
            rw [if_neg (fun h => hn h.2), if_neg (fun h => hn h.2)])
           have HT := xhd (fun (W : World) (hK : Keeps y02 w2 W) => show y18 w (.slice (some ⟨g, 0, none⟩) zs.length c2) qs k O W from by rw [hO]; exact y18.same HR2.out hK HOQ.out)
           clear h2 hO HM
           go_wp2_with fail
           refine HNB.out.mono ?_
           rintro e w3 ⟨rfl, hk3⟩
           have z2 := y08 y2 hk3
           have HK3 := xhd hk3
           clear y0 y1 y2 y3 y4 y5 y6 hk3
           go_wp2_with fail
           go_meet
           exact ⟨rfl, HT.out _ HK3.out⟩
          ·have hn : pr.numbered D5 := of_decide_eq_true HND.out.symm
           have hD4 : D5.length ≤ 4 := by have h := hn.2.1; have h' := hn.2.2; omega
           have hlen : 1 ≤ pr.len ∧ pr.len ≤ 4 := ⟨hn.1, hn.2.1⟩
           have hok3 : 0 ≤ pr.lo ∧ pr.lo ≤ pr.hi ∧ pr.hi < 4294967296 := HOKR.out hlen.1 hlen.2
           have hbn : Pure.bnum D5 < 4294967296 := by
            have h := Pure.bnum_lt D5
            have h' : 256 ^ D5.length ≤ 256 ^ 4 := Nat.pow_le_pow_right (by omega) hD4
            omega
           have HOE := xhd (show O = (t5, Pure.wide (min (max (Pure.bnum D5) pr.lo.toNat) pr.hi.toNat) pr.len.toNat) from HM.out.trans (if_pos ⟨h2, hn⟩))
           have HWI := xhd (fun W : World => show Calls Try.prog 35 #[.int .i64 (min (max (Pure.bnum D5 : Int) pr.lo) pr.hi), .int .i64 pr.len] W fun e w' => ∃ u, e = .returned u ∧ w'.ownsRow W.heap.size 5 1 u (Pure.wide (min (max (Pure.bnum D5) pr.lo.toNat) pr.hi.toNat) pr.len.toNat).length (u8s (Pure.wide (min (max (Pure.bnum D5) pr.lo.toNat) pr.hi.toNat) pr.len.toNat)) ∧ Below W.heap.size W w' from by
            have h := y0z (min (max (Pure.bnum D5) pr.lo.toNat) pr.hi.toNat) pr.len.toNat W (by omega) (by omega)
            rw [show ((min (max (Pure.bnum D5) pr.lo.toNat) pr.hi.toNat : Nat) : Int) = min (max (Pure.bnum D5 : Int) pr.lo) pr.hi by omega, Int.toNat_of_nonneg (show 0 ≤ pr.len by omega)] at h
            rw [Pure.wide_length]
            exact h)
           have hmax : ∀ w : World, (Builtin.max_ #[3, 3] 3 #[.int .i64 (Pure.bnum D5 : Int), .int .i64 pr.lo]).run Try.prog w = .ok (.int .i64 (max (Pure.bnum D5 : Int) pr.lo)) w := fun w => run_max2 _ _ _ _ w
           have hmin : ∀ w : World, (Builtin.min_ #[3, 3] 3 #[.int .i64 (max (Pure.bnum D5 : Int) pr.lo), .int .i64 pr.hi]).run Try.prog w = .ok (.int .i64 (min (max (Pure.bnum D5 : Int) pr.lo) pr.hi)) w := fun w => run_min2 _ _ _ _ w
           obtain ⟨wd, hwd⟩ : ∃ wd, wd = Pure.wide (min (max (Pure.bnum D5) pr.lo.toNat) pr.hi.toNat) pr.len.toNat := ⟨_, rfl⟩
           rw [← hwd] at HOE HWI
           obtain ⟨M2, hM2⟩ : ∃ M2, M2 = min (max (Pure.bnum D5 : Int) pr.lo) pr.hi := ⟨_, rfl⟩
           rw [← hM2] at HWI hmin
           obtain ⟨M1, hM1⟩ : ∃ M1, M1 = max (Pure.bnum D5 : Int) pr.lo := ⟨_, rfl⟩
           rw [← hM1] at hmin hmax
           have HD4 := xhd hD4
           clear h2 hn hD4 hlen hok3 hbn HM hwd hM2 hM1
           go_wp2_with fail
           refine HNB.out.mono ?_
           rintro e w3 ⟨rfl, hk3⟩
           have HK3 := xhd hk3
           have HC3 := xhd (fun j u (h : (y04 (.slice Ap pr.want.length cp, pr))[j]? = some u) => y08 (HC2.out j u h) HK3.out)
           have HRN3 := xhd (HRN2.out.keeps hk3 (fun _ _ h => h))
           have HKS := xhd (Keeps.refl y02 w3)
           clear y0 y1 y2 y3 y4 y5 y6 hk3
           go_wp2_with fail
           refine y0e (fun w' => ∀ j u, (y04 (.slice Ap pr.want.length cp, pr))[j]? = some u → w'.cell? ⟨gq, j, none⟩ = some u) 15 16 rfl (by kernel_rfl) (fun j u h => HC3.out j u h) (fun hHeld => ?_)
           have HSW := hHeld
           clear hHeld
           have HK0d := xhd (HKS.out.drew)
           refine y00 (i := 0) rfl (by kernel_rfl) (fun _ _ _ h => h) (Or.inl ⟨by rfl, by intro w hSw; have c0 := hSw 0 _ rfl; have c1 := hSw 1 _ rfl; have c2 := hSw 2 _ rfl; have c3 := hSw 3 _ rfl; have c4 := hSw 4 _ rfl; have c5 := hSw 5 _ rfl; have c6 := hSw 6 _ rfl; go_simp; try with_reducible rfl⟩) HSW.out ?_
           simp only [Act.put, xqA, xqB, xqD, xqE, xqF]
           refine y00 (i := 1) rfl (by kernel_rfl) (fun _ _ _ h => h) (Or.inl ⟨by rfl, by intro w hSw; have c0 := hSw 0 _ rfl; have c1 := hSw 1 _ rfl; have c2 := hSw 2 _ rfl; have c3 := hSw 3 _ rfl; have c4 := hSw 4 _ rfl; have c5 := hSw 5 _ rfl; have c6 := hSw 6 _ rfl; go_simp; try with_reducible rfl⟩) HSW.out ?_
           simp only [Act.put, xqA, xqB, xqC, xqD, xqE, xqF]
           refine y00 (i := 2) rfl (by kernel_rfl) (fun _ _ _ h => h) (Or.inl ⟨by rfl, by intro w hSw; have c0 := hSw 0 _ rfl; have c1 := hSw 1 _ rfl; have c2 := hSw 2 _ rfl; have c3 := hSw 3 _ rfl; have c4 := hSw 4 _ rfl; have c5 := hSw 5 _ rfl; have c6 := hSw 6 _ rfl; go_simp; try with_reducible rfl⟩) HSW.out ?_
           simp only [Act.put, xqA, xqB, xqC, xqD, xqE, xqF]
           refine y00 (i := 4) rfl (by kernel_rfl) (fun _ _ _ h => h) (Or.inl ⟨by rfl, by intro w hSw; have c0 := hSw 0 _ rfl; have c1 := hSw 1 _ rfl; have c2 := hSw 2 _ rfl; have c3 := hSw 3 _ rfl; have c4 := hSw 4 _ rfl; have c5 := hSw 5 _ rfl; have c6 := hSw 6 _ rfl; go_simp; try with_reducible rfl⟩) HSW.out ?_
           simp only [Act.put, xqA, xqB, xqC, xqD, xqE, xqF]
           refine y00 (i := 5) rfl (by kernel_rfl) (fun _ _ _ h => h) (Or.inl ⟨by rfl, by intro w hSw; have c0 := hSw 0 _ rfl; have c1 := hSw 1 _ rfl; have c2 := hSw 2 _ rfl; have c3 := hSw 3 _ rfl; have c4 := hSw 4 _ rfl; have c5 := hSw 5 _ rfl; have c6 := hSw 6 _ rfl; go_simp; try with_reducible rfl⟩) HSW.out ?_
           simp only [Act.put, xqA, xqB, xqC, xqD, xqE, xqF]
           refine y00 (i := 7) rfl (by kernel_rfl) (fun _ _ _ h => h) (Or.inl ⟨by rfl, by intro w hSw; have c0 := hSw 0 _ rfl; have c1 := hSw 1 _ rfl; have c2 := hSw 2 _ rfl; have c3 := hSw 3 _ rfl; have c4 := hSw 4 _ rfl; have c5 := hSw 5 _ rfl; have c6 := hSw 6 _ rfl; go_simp; try with_reducible rfl⟩) HSW.out ?_
           simp only [Act.put, xqA, xqB, xqC, xqD, xqE, xqF]
           refine y00 (i := 8) rfl (by kernel_rfl) (fun _ _ _ h => h) (Or.inl ⟨by rfl, by intro w hSw; have c0 := hSw 0 _ rfl; have c1 := hSw 1 _ rfl; have c2 := hSw 2 _ rfl; have c3 := hSw 3 _ rfl; have c4 := hSw 4 _ rfl; have c5 := hSw 5 _ rfl; have c6 := hSw 6 _ rfl; go_simp; try with_reducible rfl⟩) HSW.out ?_
           simp only [Act.put, xqA, xqB, xqC, xqD, xqE, xqF]
           refine y00 (i := 10) rfl (by kernel_rfl) (fun _ _ _ h => h) (Or.inl ⟨by rfl, by intro w hSw; have c0 := hSw 0 _ rfl; have c1 := hSw 1 _ rfl; have c2 := hSw 2 _ rfl; have c3 := hSw 3 _ rfl; have c4 := hSw 4 _ rfl; have c5 := hSw 5 _ rfl; have c6 := hSw 6 _ rfl; go_simp; try with_reducible rfl⟩) HSW.out ?_
           simp only [Act.put, xqA, xqB, xqC, xqD, xqE, xqF]
           refine y00 (i := 11) rfl (by kernel_rfl) (fun _ _ _ h => h) (Or.inl ⟨by rfl, by intro w hSw; have c0 := hSw 0 _ rfl; have c1 := hSw 1 _ rfl; have c2 := hSw 2 _ rfl; have c3 := hSw 3 _ rfl; have c4 := hSw 4 _ rfl; have c5 := hSw 5 _ rfl; have c6 := hSw 6 _ rfl; go_simp; try with_reducible rfl⟩) HSW.out ?_
           simp only [Act.put, xqA, xqB, xqC, xqD, xqE, xqF]
           refine y05 (i := 3) (by kernel_rfl) rfl (fun K hK => ?_)
           try rw [if_pos (by rfl)]
           go_simp
           refine (y1a Fn (.slice A5 D5.length c5) D5 _ (HRN3.out.keeps HK0d.out (fun _ _ h => h)) HD4.out).mono ?_
           rintro e wz ⟨rfl, rfl⟩
           refine hK.out _ _ (fun _ => HSW.out) ?_
           clear hK K
           try simp only [Act.put, xqA, Nat.reduceAdd, xqB, xqC, xqD, xqE, xqF]
           refine y00 (i := 6) rfl (by kernel_rfl) (fun _ _ _ h => h) (Or.inl ⟨by rfl, by intro w hSw; have c0 := hSw 0 _ rfl; have c1 := hSw 1 _ rfl; have c2 := hSw 2 _ rfl; have c3 := hSw 3 _ rfl; have c4 := hSw 4 _ rfl; have c5 := hSw 5 _ rfl; have c6 := hSw 6 _ rfl; go_simp; try with_reducible rfl⟩) HSW.out ?_
           simp only [Act.put, xqA, xqB, xqC, xqD, xqE, xqF]
           refine y00 (i := 9) rfl (by kernel_rfl) (fun _ _ _ h => h) (Or.inl ⟨by rfl, by intro w hSw; have c0 := hSw 0 _ rfl; have c1 := hSw 1 _ rfl; have c2 := hSw 2 _ rfl; have c3 := hSw 3 _ rfl; have c4 := hSw 4 _ rfl; have c5 := hSw 5 _ rfl; have c6 := hSw 6 _ rfl; go_simp; try with_reducible rfl⟩) HSW.out ?_
           simp only [Act.put, xqA, xqB, xqC, xqD, xqE, xqF]
           refine y05 (i := 12) (by kernel_rfl) rfl (fun K hK => ?_)
           try rw [if_pos (by rfl)]
           go_simp
           refine (HWI.out _).mono ?_
           rintro e w4 ⟨u4, rfl, hu4, hb4⟩
           obtain ⟨A7, c7, rfl⟩ := y0b hu4
           have HK4 := xhd (HK0d.out.trans (Keeps.new hb4))
           have HS4 := xhd (fun j u (h : (y04 (.slice Ap pr.want.length cp, pr))[j]? = some u) => y08 (HC3.out j u h) HK4.out)
           have HU4 := xhd ((Row.of_own hu4).mono (G := fun b => w3.heap.size ≤ b) (fun b hb => y0c hu4 b hb))
           clear hu4 hb4
           refine hK.out _ _ (fun _ => HS4.out) ?_
           clear hK K
           try simp only [Act.put, xqA, Nat.reduceAdd, xqB, xqC, xqD, xqE, xqF]
           refine y00 (i := 13) rfl (by kernel_rfl) (fun _ _ _ h => h) (Or.inl ⟨by rfl, by intro w hSw; have c0 := hSw 0 _ rfl; have c1 := hSw 1 _ rfl; have c2 := hSw 2 _ rfl; have c3 := hSw 3 _ rfl; have c4 := hSw 4 _ rfl; have c5 := hSw 5 _ rfl; have c6 := hSw 6 _ rfl; go_simp; try with_reducible rfl⟩) HS4.out ?_
           simp only [Act.put, xqA, xqB, xqC, xqD, xqE, xqF]
           refine y00 (i := 14) rfl (by kernel_rfl) (fun _ _ _ h => h) (Or.inl ⟨by rfl, by intro w hSw; have c0 := hSw 0 _ rfl; have c1 := hSw 1 _ rfl; have c2 := hSw 2 _ rfl; have c3 := hSw 3 _ rfl; have c4 := hSw 4 _ rfl; have c5 := hSw 5 _ rfl; have c6 := hSw 6 _ rfl; go_simp; try with_reducible rfl⟩) HS4.out ?_
           simp only [Act.put, xqA, xqB, xqC, xqD, xqE, xqF]
           obtain ⟨⟨uc, hc0⟩, hf0, hput⟩ := (HR2.out.keeps (HK3.out.trans HK4.out)).put k (t5, D') wd A7 c7 HQK.out (HR2.out.fresh (HU4.out.mono (G := fun b => w2.heap.size ≤ b) (fun b hb => Nat.le_trans HK3.out.size hb)))
           have HPUT := xhd hput
           clear hput
           refine y05 (i := 15) (by kernel_rfl) rfl (fun K hK => ?_)
           go_simp
           refine hK.out _ _ (fun h => absurd rfl h) ?_
           clear hK K
           refine y0d (by kernel_rfl) ?_ _
           go_wp2_with fail
           go_meet
           exact ⟨rfl, qs.set k (.slice A7 wd.length c7, (t5, wd)), by rw [y1v, HOE.out], by simp, HPUT.out⟩
         ·have b2 : (pr.how == 2) = false := by simp [h2]
          have HM := xhd (HM.out.trans (if_neg (fun h => h2 h.1)))
          clear h2
          by_cases h4 : pr.how = 4
          ·have b4 : (pr.how == 4) = true := by simp [h4]
           cases nb
           ·have hO : O = (t5, D') := HM.out.trans (by
             have hn : ¬ pr.numbered D5 := of_decide_eq_false HND.out.symm
             rw [if_neg (fun h => hn h.2)])
            have HT := xhd (fun (W : World) (hK : Keeps y02 w2 W) => show y18 w (.slice (some ⟨g, 0, none⟩) zs.length c2) qs k O W from by rw [hO]; exact y18.same HR2.out hK HOQ.out)
            clear h4 hO HM
            go_wp2_with fail
            refine HNB.out.mono ?_
            rintro e w3 ⟨rfl, hk3⟩
            have HK3 := xhd hk3
            clear y0 y1 y2 y3 y4 y5 y6 hk3
            go_wp2_with fail
            go_meet
            exact ⟨rfl, HT.out _ HK3.out⟩
           ·have hn : pr.numbered D5 := of_decide_eq_true HND.out.symm
            have hD4 : D5.length ≤ 4 := by have h := hn.2.1; have h' := hn.2.2; omega
            have hlen : 1 ≤ pr.len ∧ pr.len ≤ 4 := ⟨hn.1, hn.2.1⟩
            have hok3 : 0 ≤ pr.lo ∧ pr.lo ≤ pr.hi ∧ pr.hi < 4294967296 := HOKR.out hlen.1 hlen.2
            have hbn : Pure.bnum D5 < 4294967296 := by
             have h := Pure.bnum_lt D5
             have h' : 256 ^ D5.length ≤ 256 ^ 4 := Nat.pow_le_pow_right (by omega) hD4
             omega
            have hle : Pure.bnum D5 &&& pr.hi.toNat ≤ Pure.bnum D5 := Nat.and_le_left
            have dand : bits .and .i64 (Pure.bnum D5 : Int) pr.hi = ((Pure.bnum D5 &&& pr.hi.toNat : Nat) : Int) := by
             rw [i64_and _ _ (by omega) (by omega) (by omega) (by omega)]
             simp
            have HOE := xhd (show O = (t5, Pure.wide (Pure.bnum D5 &&& pr.hi.toNat) pr.len.toNat) from HM.out.trans (if_pos ⟨h4, hn⟩))
            have HWI := xhd (fun W : World => show Calls Try.prog 35 #[.int .i64 (bits .and .i64 (Pure.bnum D5 : Int) pr.hi), .int .i64 pr.len] W fun e w' => ∃ u, e = .returned u ∧ w'.ownsRow W.heap.size 5 1 u (Pure.wide (Pure.bnum D5 &&& pr.hi.toNat) pr.len.toNat).length (u8s (Pure.wide (Pure.bnum D5 &&& pr.hi.toNat) pr.len.toNat)) ∧ Below W.heap.size W w' from by
             have h := y0z (Pure.bnum D5 &&& pr.hi.toNat) pr.len.toNat W (by omega) (Nat.lt_of_le_of_lt hle (by omega))
             rw [← dand, Int.toNat_of_nonneg (show 0 ≤ pr.len by omega)] at h
             rw [Pure.wide_length]
             exact h)
            obtain ⟨wd, hwd⟩ : ∃ wd, wd = Pure.wide (Pure.bnum D5 &&& pr.hi.toNat) pr.len.toNat := ⟨_, rfl⟩
            rw [← hwd] at HOE HWI
            obtain ⟨M2, hM2⟩ : ∃ M2, M2 = bits .and .i64 (Pure.bnum D5 : Int) pr.hi := ⟨_, rfl⟩
            rw [← hM2] at HWI
            have hand : bits .and .i64 (Pure.bnum D5 : Int) pr.hi = M2 := hM2.symm
            have HD4 := xhd hD4
            clear h4 hn hD4 hlen hok3 hbn HM hwd hM2 dand hle
            go_wp2_with fail
            refine HNB.out.mono ?_
            rintro e w3 ⟨rfl, hk3⟩
            have HK3 := xhd hk3
            have HC3 := xhd (fun j u (h : (y04 (.slice Ap pr.want.length cp, pr))[j]? = some u) => y08 (HC2.out j u h) HK3.out)
            have HRN3 := xhd (HRN2.out.keeps hk3 (fun _ _ h => h))
            have HKS := xhd (Keeps.refl y02 w3)
            clear y0 y1 y2 y3 y4 y5 y6 hk3
            go_wp2_with fail
            refine y0e (fun w' => ∀ j u, (y04 (.slice Ap pr.want.length cp, pr))[j]? = some u → w'.cell? ⟨gq, j, none⟩ = some u) 12 13 rfl (by kernel_rfl) (fun j u h => HC3.out j u h) (fun hHeld => ?_)
            have HSW := hHeld
            clear hHeld
            have HK0d := xhd (HKS.out.drew)
            refine y00 (i := 0) rfl (by kernel_rfl) (fun _ _ _ h => h) (Or.inl ⟨by rfl, by intro w hSw; have c0 := hSw 0 _ rfl; have c1 := hSw 1 _ rfl; have c2 := hSw 2 _ rfl; have c3 := hSw 3 _ rfl; have c4 := hSw 4 _ rfl; have c5 := hSw 5 _ rfl; have c6 := hSw 6 _ rfl; go_simp; try with_reducible rfl⟩) HSW.out ?_
            simp only [Act.put, xqA, xqB, xqD, xqE, xqF]
            refine y00 (i := 1) rfl (by kernel_rfl) (fun _ _ _ h => h) (Or.inl ⟨by rfl, by intro w hSw; have c0 := hSw 0 _ rfl; have c1 := hSw 1 _ rfl; have c2 := hSw 2 _ rfl; have c3 := hSw 3 _ rfl; have c4 := hSw 4 _ rfl; have c5 := hSw 5 _ rfl; have c6 := hSw 6 _ rfl; go_simp; try with_reducible rfl⟩) HSW.out ?_
            simp only [Act.put, xqA, xqB, xqC, xqD, xqE, xqF]
            refine y00 (i := 2) rfl (by kernel_rfl) (fun _ _ _ h => h) (Or.inl ⟨by rfl, by intro w hSw; have c0 := hSw 0 _ rfl; have c1 := hSw 1 _ rfl; have c2 := hSw 2 _ rfl; have c3 := hSw 3 _ rfl; have c4 := hSw 4 _ rfl; have c5 := hSw 5 _ rfl; have c6 := hSw 6 _ rfl; go_simp; try with_reducible rfl⟩) HSW.out ?_
            simp only [Act.put, xqA, xqB, xqC, xqD, xqE, xqF]
            refine y00 (i := 4) rfl (by kernel_rfl) (fun _ _ _ h => h) (Or.inl ⟨by rfl, by intro w hSw; have c0 := hSw 0 _ rfl; have c1 := hSw 1 _ rfl; have c2 := hSw 2 _ rfl; have c3 := hSw 3 _ rfl; have c4 := hSw 4 _ rfl; have c5 := hSw 5 _ rfl; have c6 := hSw 6 _ rfl; go_simp; try with_reducible rfl⟩) HSW.out ?_
            simp only [Act.put, xqA, xqB, xqC, xqD, xqE, xqF]
            refine y00 (i := 5) rfl (by kernel_rfl) (fun _ _ _ h => h) (Or.inl ⟨by rfl, by intro w hSw; have c0 := hSw 0 _ rfl; have c1 := hSw 1 _ rfl; have c2 := hSw 2 _ rfl; have c3 := hSw 3 _ rfl; have c4 := hSw 4 _ rfl; have c5 := hSw 5 _ rfl; have c6 := hSw 6 _ rfl; go_simp; try with_reducible rfl⟩) HSW.out ?_
            simp only [Act.put, xqA, xqB, xqC, xqD, xqE, xqF]
            refine y00 (i := 7) rfl (by kernel_rfl) (fun _ _ _ h => h) (Or.inl ⟨by rfl, by intro w hSw; have c0 := hSw 0 _ rfl; have c1 := hSw 1 _ rfl; have c2 := hSw 2 _ rfl; have c3 := hSw 3 _ rfl; have c4 := hSw 4 _ rfl; have c5 := hSw 5 _ rfl; have c6 := hSw 6 _ rfl; go_simp; try with_reducible rfl⟩) HSW.out ?_
            simp only [Act.put, xqA, xqB, xqC, xqD, xqE, xqF]
            refine y00 (i := 8) rfl (by kernel_rfl) (fun _ _ _ h => h) (Or.inl ⟨by rfl, by intro w hSw; have c0 := hSw 0 _ rfl; have c1 := hSw 1 _ rfl; have c2 := hSw 2 _ rfl; have c3 := hSw 3 _ rfl; have c4 := hSw 4 _ rfl; have c5 := hSw 5 _ rfl; have c6 := hSw 6 _ rfl; go_simp; try with_reducible rfl⟩) HSW.out ?_
            simp only [Act.put, xqA, xqB, xqC, xqD, xqE, xqF]
            refine y05 (i := 3) (by kernel_rfl) rfl (fun K hK => ?_)
            try rw [if_pos (by rfl)]
            go_simp
            refine (y1a Fn (.slice A5 D5.length c5) D5 _ (HRN3.out.keeps HK0d.out (fun _ _ h => h)) HD4.out).mono ?_
            rintro e wz ⟨rfl, rfl⟩
            refine hK.out _ _ (fun _ => HSW.out) ?_
            clear hK K
            try simp only [Act.put, xqA, Nat.reduceAdd, xqB, xqC, xqD, xqE, xqF]
            refine y00 (i := 6) rfl (by kernel_rfl) (fun _ _ _ h => h) (Or.inl ⟨by rfl, by intro w hSw; have c0 := hSw 0 _ rfl; have c1 := hSw 1 _ rfl; have c2 := hSw 2 _ rfl; have c3 := hSw 3 _ rfl; have c4 := hSw 4 _ rfl; have c5 := hSw 5 _ rfl; have c6 := hSw 6 _ rfl; go_simp; try with_reducible rfl⟩) HSW.out ?_
            simp only [Act.put, xqA, xqB, xqC, xqD, xqE, xqF]
            refine y05 (i := 9) (by kernel_rfl) rfl (fun K hK => ?_)
            try rw [if_pos (by rfl)]
            go_simp
            refine (HWI.out _).mono ?_
            rintro e w4 ⟨u4, rfl, hu4, hb4⟩
            obtain ⟨A7, c7, rfl⟩ := y0b hu4
            have HK4 := xhd (HK0d.out.trans (Keeps.new hb4))
            have HS4 := xhd (fun j u (h : (y04 (.slice Ap pr.want.length cp, pr))[j]? = some u) => y08 (HC3.out j u h) HK4.out)
            have HU4 := xhd ((Row.of_own hu4).mono (G := fun b => w3.heap.size ≤ b) (fun b hb => y0c hu4 b hb))
            clear hu4 hb4
            refine hK.out _ _ (fun _ => HS4.out) ?_
            clear hK K
            try simp only [Act.put, xqA, Nat.reduceAdd, xqB, xqC, xqD, xqE, xqF]
            refine y00 (i := 10) rfl (by kernel_rfl) (fun _ _ _ h => h) (Or.inl ⟨by rfl, by intro w hSw; have c0 := hSw 0 _ rfl; have c1 := hSw 1 _ rfl; have c2 := hSw 2 _ rfl; have c3 := hSw 3 _ rfl; have c4 := hSw 4 _ rfl; have c5 := hSw 5 _ rfl; have c6 := hSw 6 _ rfl; go_simp; try with_reducible rfl⟩) HS4.out ?_
            simp only [Act.put, xqA, xqB, xqC, xqD, xqE, xqF]
            refine y00 (i := 11) rfl (by kernel_rfl) (fun _ _ _ h => h) (Or.inl ⟨by rfl, by intro w hSw; have c0 := hSw 0 _ rfl; have c1 := hSw 1 _ rfl; have c2 := hSw 2 _ rfl; have c3 := hSw 3 _ rfl; have c4 := hSw 4 _ rfl; have c5 := hSw 5 _ rfl; have c6 := hSw 6 _ rfl; go_simp; try with_reducible rfl⟩) HS4.out ?_
            simp only [Act.put, xqA, xqB, xqC, xqD, xqE, xqF]
            obtain ⟨⟨uc, hc0⟩, hf0, hput⟩ := (HR2.out.keeps (HK3.out.trans HK4.out)).put k (t5, D') wd A7 c7 HQK.out (HR2.out.fresh (HU4.out.mono (G := fun b => w2.heap.size ≤ b) (fun b hb => Nat.le_trans HK3.out.size hb)))
            have HPUT := xhd hput
            clear hput
            refine y05 (i := 12) (by kernel_rfl) rfl (fun K hK => ?_)
            go_simp
            refine hK.out _ _ (fun h => absurd rfl h) ?_
            clear hK K
            refine y0d (by kernel_rfl) ?_ _
            go_wp2_with fail
            go_meet
            exact ⟨rfl, qs.set k (.slice A7 wd.length c7, (t5, wd)), by rw [y1v, HOE.out], by simp, HPUT.out⟩
          ·have b4 : (pr.how == 4) = false := by simp [h4]
           have hO : O = (t5, D') := HM.out.trans (if_neg (fun h => h4 h.1))
           have HT := xhd (fun (W : World) (hK : Keeps y02 w2 W) => show y18 w (.slice (some ⟨g, 0, none⟩) zs.length c2) qs k O W from by rw [hO]; exact y18.same HR2.out hK HOQ.out)
           clear h4 hO HM
           go_wp2_with fail
           go_meet
           exact ⟨rfl, HT.out _ (Keeps.refl _ _)⟩
      case rest =>
       obtain ⟨hs, hT⟩ := hcut
       subst hs
       obtain ⟨qs', hq', hl', hr'⟩ := hT
       have HQ' := xhd (show y01 qs' = y0r (y06 us) (y01 ns) (y01 zs) (k + 1) from by rw [hq', HQS.out]; exact y5q _ _ _ k (t5, D') O HOK.out HO.out.symm)
       have HR' := xhd hr'
       clear hq' hl' hr' HC2 HR2 HRN2 HM
       go_wp2_with fail
       go_roundw
       case rel => exact ⟨k + 1, by omega, by go_num, qs', HQ'.out, HR'.out⟩
       case measure => simp [intOf] <;> omega
     ·have dne : decide (t5 = t') = false := decide_eq_false hne
      have HNO2 := xhd (show ∀ p ∈ (y01 ns).take (j + 1), p.1 ≠ t' from by
       intro p hp
       rw [Pure.take_snoc _ j _ HPN.out] at hp
       rcases List.mem_append.1 hp with hp | hp
       ·exact HNO.out p hp
       ·simp at hp
        subst hp
        exact hne)
      go_wp2_with fail
      go_roundw
      case rel => exact ⟨j + 1, by omega, by go_num, HNO2.out, HKQ.out.drew⟩
      case measure => simp [intOf] <;> omega
    ·have hjj : j = ns.length := by omega
     subst hjj
     have e1 : decide ((ns.length : Int) < (ns.length : Int)) = false := decide_eq_false (by omega)
     have e2 : decide (ns.length < ns.length) = false := decide_eq_false (by omega)
     have HE := xhd (show Pure.nakedOne (y06 us) (y01 ns) (t', D') = (t', D') from by
      unfold Pure.nakedOne
      rw [List.find?_eq_none.2 (fun p hp => by have h := HNO.out p (by rw [List.take_of_length_le (by simp)]; exact hp); simpa using h)])
     clear HNO HX0 hkq
     go_wp2_with fail
     go_roundw
     case rel => exact ⟨k + 1, by omega, by go_num, _, by rw [HQS.out]; exact y2k _ _ _ k (t', D') HOK.out HE.out, HRD.out.keeps HKQ.out⟩
     case measure => simp [intOf] <;> omega
  ·have hkk : k = zs.length := by omega
   subst hkk
   have d1 : decide ((zs.length : Int) < (zs.length : Int)) = false := decide_eq_false (by omega)
   have d2 : decide (zs.length < zs.length) = false := decide_eq_false (by omega)
   go_wp2
   go_ret
   exact ⟨_, qs, rfl, by rw [HQS.out]; unfold y0r Pure.naked; rw [List.take_of_length_le (by simp), List.drop_of_length_le (by simp), List.append_nil], HRD.out⟩
end Go.Proofs.Ytgphfindolaljaa
