/- Package nego: Naked. -/
import Derived.Test.YtmgicbckgpdkcaaGreatDoorC12
namespace Go.Proofs.YtmgicbckgpdkcaaGreatDoor
set_option maxRecDepth 100000
set_option maxHeartbeats 8000000
open _root_.Go.Lib renaming hid → xhd
open List renaming setIfInBounds_toArray → xqA, getElem_toArray → xqB, getElem_cons_succ → xqC, getElem_cons_zero → xqD, set_cons_succ → xqE, set_cons_zero → xqF
open Go.RowKit
namespace Pure
theorem naked_for (rules : List Rule) (hM : ∀ r : Int × Rule, ruleFor rules r.1 = r.2 → r.2.Ok) (nak : List Opt) (o : Opt) : nakedOne rules nak o = match nak.find? (fun p => decide (p.1 = o.1)) with
  | none => o
  | some p => match (ruleFor rules o.1).heedP p.2 with | some d => (o.1, d) | none => o := by
 unfold nakedOne
 cases nak.find? (fun p => decide (p.1 = o.1)) with
 | none => rfl
 | some p =>
  dsimp only
  unfold ruleFor
  cases hr : ruleOf rules o.1 with
  | none =>
   have : deadRule.heedP p.2 = none := by unfold Rule.heedP deadRule; simp
   simp only [Option.getD_none, this]
  | some r =>
   have hok : r.Ok := hM (o.1, r) (by unfold ruleFor; rw [hr]; rfl)
   simp only [Option.getD_some]
   unfold Rule.heedP
   by_cases h1 : r.how = 1
   ·rw [if_pos h1, if_pos h1]
   ·rw [if_neg h1, if_neg h1]
    by_cases h2 : r.how = 2
    ·by_cases hn : r.numbered p.2
     ·rw [if_pos (show r.how = 2 ∧ r.numbered p.2 from ⟨h2, hn⟩), if_pos (show (r.how = 2 ∨ r.how = 4) ∧ r.numbered p.2 from ⟨.inl h2, hn⟩)]
      unfold Rule.nearTo
      rw [if_neg (show ¬ r.how = 4 by omega)]
     ·rw [if_neg (show ¬ (r.how = 2 ∧ r.numbered p.2) from fun h => hn h.2), if_neg (show ¬ (r.how = 4 ∧ r.numbered p.2) from fun h => hn h.2), if_neg (show ¬ ((r.how = 2 ∨ r.how = 4) ∧ r.numbered p.2) from fun h => hn h.2)]
    ·rw [if_neg (show ¬ (r.how = 2 ∧ r.numbered p.2) from fun h => h2 h.1)]
     by_cases h4 : r.how = 4
     ·by_cases hn : r.numbered p.2
      ·rw [if_pos (show r.how = 4 ∧ r.numbered p.2 from ⟨h4, hn⟩), if_pos (show (r.how = 2 ∨ r.how = 4) ∧ r.numbered p.2 from ⟨.inr h4, hn⟩)]
       unfold Rule.nearTo
       rw [if_pos h4]
      ·rw [if_neg (show ¬ (r.how = 4 ∧ r.numbered p.2) from fun h => hn h.2), if_neg (show ¬ ((r.how = 2 ∨ r.how = 4) ∧ r.numbered p.2) from fun h => hn h.2)]
     ·rw [if_neg (show ¬ (r.how = 4 ∧ r.numbered p.2) from fun h => h4 h.1), if_neg (show ¬ ((r.how = 2 ∨ r.how = 4) ∧ r.numbered p.2) from fun h => by rcases h.1 with h | h; exact h2 h; exact h4 h)]
end Pure
theorem yfd (qs : List (Value × Pure.Opt)) (k : Nat) (t : Int) (D d : List UInt8) (u v : Value) (h : qs[k]? = some (u, (t, D))) : (y0i qs).set (2 * k + 1) v = y0i (qs.set k (v, (t, d))) := by
 induction qs generalizing k with
 | nil => simp at h
 | cons q qs ih =>
  rcases k with _ | k
  ·simp at h
   subst h
   rfl
  ·have := ih k (by simpa using h)
   rw [show 2 * (k + 1) + 1 = (2 * k + 1) + 1 + 1 by omega]
   show (Value.int .i64 q.2.1 :: q.1 :: y0i qs).set ((2 * k + 1) + 1 + 1) v = Value.int .i64 q.2.1 :: q.1 :: y0i (qs.set k (v, (t, d)))
   rw [xqE, xqE, this]
theorem Read.put {w0 w : World} {g n c : Nat} {qs : List (Value × Pure.Opt)} (h : Read w0 w (.slice (some ⟨g, 0, none⟩) n c) qs) (k : Nat) (o : Pure.Opt) (d : List UInt8) (A : Option Addr) (cc : Nat) (hk : ∃ u, qs[k]? = some (u, o))
  (hd : Row w (fun b => w0.heap.size ≤ b ∧ (Value.slice (some ⟨g, 0, none⟩) n c).ownBlock ≠ some b ∧ b < w.heap.size) 1 (.slice A d.length cc) d.length (u8s d)) :
  (∃ u, w.cell? ⟨g, k * 2 + 1, none⟩ = some u) ∧ w.frozen? ⟨g, k * 2 + 1, none⟩ = false ∧ Read w0 (w.setCell ⟨g, k * 2 + 1, none⟩ (.slice A d.length cc)) (.slice (some ⟨g, 0, none⟩) n c) (qs.set k (.slice A d.length cc, (o.1, d))) := by
 obtain ⟨u, hk⟩ := hk
 obtain ⟨t, D⟩ := o
 have hkl := (List.getElem?_eq_some_iff.1 hk).1
 obtain ⟨h1, h2⟩ := h.own
 rcases h2 with ⟨e, _⟩ | ⟨g', cap, cur, e, hg, hh, h3, h4, h5, h6⟩
 ·cases e
 ·injection e with e1 e2 e3
  injection e1 with e1
  injection e1 with e1
  subst e1 e2 e3
  have hb : Blk w g _ cur := hh
  have hsz : k * 2 + 1 < cur.size := by omega
  refine ⟨⟨cur[k * 2 + 1], by rw [hb.cell, Array.getElem?_eq_getElem hsz]⟩, hb.frozen _, ?_⟩
  have hK : Keeps (only g) w (w.setCell ⟨g, k * 2 + 1, none⟩ (.slice A d.length cc)) := (Keeps.refl (only g) w).store g (k * 2 + 1) (fun _ => rfl) _
  have hwsz : (w.setCell ⟨g, k * 2 + 1, none⟩ (.slice A d.length cc)).heap.size = w.heap.size := by simp [World.setCell]
  refine ⟨⟨?_, .inr ⟨g, c, _, by rw [List.length_set], hg, hb.set (k * 2 + 1) _, by rw [List.length_set]; exact h3, h4, by rw [Array.size_setIfInBounds]; exact h5, ?_⟩⟩, fun p hp => ?_, ?_⟩
  ·rw [ybi]
  ·rw [Array.toList_setIfInBounds, List.length_set, List.take_set, h6, show k * 2 + 1 = 2 * k + 1 by omega]
   exact yfd qs k t D d u _ hk
  ·have hrow : Row w (fun b => w0.heap.size ≤ b ∧ (Value.slice (some ⟨g, 0, none⟩) qs.length c).ownBlock ≠ some b ∧ b < w.heap.size) 1 p.1 p.2.2.length (u8s p.2.2) := by
    rcases List.mem_or_eq_of_mem_set hp with hp | rfl
    ·exact h.rows p hp
    ·exact hd
   have h7 := hrow.keeps hK (fun b hb e => hb.2.1 (by have e : b = g := e; rw [e]; rfl))
   refine h7.mono (fun b hb => ⟨hb.1, ?_, by rw [hwsz]; exact hb.2.2⟩)
   exact hb.2.1
  ·exact Below.keeps h.below hK h.below.size (fun i hi => by have e : i = g := hi; rw [e]; exact hg)
theorem optsOf_set (qs : List (Value × Pure.Opt)) (k : Nat) (p : Value × Pure.Opt) : y02 (qs.set k p) = (y02 qs).set k p.2 := by simp [y02, List.map_set]
def y2y (rules : List Pure.Rule) (nak l : List Pure.Opt) (k : Nat) : List Pure.Opt := (l.take k).map (Pure.nakedOne rules nak) ++ l.drop k
theorem ybc (rules : List Pure.Rule) (nak l : List Pure.Opt) (k : Nat) (o : Pure.Opt) (h : l[k]? = some o) (hn : Pure.nakedOne rules nak o = o) : y2y rules nak l k = y2y rules nak l (k + 1) := by
 unfold y2y
 rw [Pure.take_snoc l k o h, List.map_append, List.map_cons, List.map_nil, hn, List.append_assoc]
 congr 1
 have hk := (List.getElem?_eq_some_iff.1 h).1
 rw [List.drop_eq_getElem_cons hk, (List.getElem?_eq_some_iff.1 h).2]
 rfl
theorem naked_new (rules : List Pure.Rule) (nak l : List Pure.Opt) (k : Nat) (o p : Pure.Opt) (h : l[k]? = some o) (hn : Pure.nakedOne rules nak o = p) : (y2y rules nak l k).set k p = y2y rules nak l (k + 1) := by
 unfold y2y
 have hk := (List.getElem?_eq_some_iff.1 h).1
 rw [Pure.take_snoc l k o h, List.map_append, List.map_cons, List.map_nil, hn, List.append_assoc, List.drop_eq_getElem_cons hk]
 have hl : ((l.take k).map (Pure.nakedOne rules nak)).length = k := by rw [List.length_map, List.length_take]; omega
 rw [List.set_append_right _ _ (by omega), hl, Nat.sub_self, xqF]
 rfl
theorem naked_any (Fu Fx Fn : Nat → Prop) (xu x xn : Value) (us : List (Value × Pure.Rule)) (zs ns : List (Value × Pure.Opt)) (w : World) (hu : RRow w Fu xu us) (hx : ORow w Fx x zs) (hn : ORow w Fn xn ns) (hfu : FewRules us) (hfx : FewOpts zs) (hfn : FewOpts ns) :
  Calls Tryz.prog 200 #[xu, x, xn] w fun e w' => ∃ u, ∃ qs : List (Value × Pure.Opt), e = .returned u ∧ y02 qs = Pure.naked (y08 us) (y02 zs) (y02 ns) ∧ Read w w' u qs := by
 obtain ⟨U, cu, rfl, _⟩ := hu.form
 obtain ⟨V, cv, rfl, _⟩ := hn.form
 have HU := xhd hu
 have HN := xhd hn
 have HFU := xhd hfu
 have HFN := xhd hfn
 have hzl := hfx.len
 have hnl := hfn.len
 have HOKR := xhd (fun (r : Int × Pure.Rule) (hr : Pure.ruleFor (y08 us) r.1 = r.2) => show r.2.Ok by
  unfold Pure.ruleFor at hr
  cases ho : Pure.ruleOf (y08 us) r.1 with
  | none => rw [ho] at hr; rw [← hr]; exact dead_ok
  | some q =>
   rw [ho] at hr
   have hr : q = r.2 := hr
   unfold Pure.ruleOf at ho
   obtain ⟨p, hp, he⟩ := List.mem_map.1 (List.mem_of_find?_eq_some ho)
   rw [← hr, ← he]
   exact (hfu.ok p hp).1)
 have HCP := xhd (y1v Fx x zs w hx hfx.len hfx.data)
 clear hu hx hn hfu hfx hfn
 go_enter Tryz.func200, Tryz.ntmps200
 go_wp2_with fail
 refine HCP.out.mono ?_
 rintro e w1 ⟨u0, q0, rfl, hq0, hr0⟩
 obtain ⟨A2, c2, rfl⟩ := y0c hr0.own
 have hl0 : q0.length = zs.length := by have := congrArg List.length hq0; simpa using this
 rw [hl0] at hr0 ⊢
 have HQ0 := xhd hq0
 have HR0 := xhd hr0
 have hk0 : Keeps y01 w w1 := Keeps.new hr0.below
 clear hq0 hr0 HCP hl0 hk0
 go_wp2_with fail
 go_loopw [17] (fun i wr => ∃ k : Nat, k ≤ zs.length ∧ i = .int .i64 (k : Int) ∧ ∃ qs : List (Value × Pure.Opt), y02 qs = y2y (y08 us) (y02 ns) (y02 zs) k ∧ Read w wr (.slice A2 zs.length c2) qs) (fun i _ => zs.length - (intOf i).toNat)
 case atStart => exact ⟨0, by omega, rfl, q0, by rw [HQ0.out]; simp [y2y], HR0.out⟩
 case round =>
  clear HQ0 HR0
  obtain ⟨k, hk, rfl, qs, hqs, hrd⟩ := hrel
  have hql : qs.length = zs.length := by
   have := congrArg List.length hqs
   simp [y2y] at this
   omega
  have HQS := xhd hqs
  have HRD := xhd hrd
  have HQL := xhd hql
  clear hqs
  by_cases hkl : k < zs.length
  ·have i0' : (0 : Int) ≤ (k : Int) := by omega
   have i1 : (k : Int) < (zs.length : Int) := by omega
   have d1 : decide ((k : Int) < (zs.length : Int)) = true := decide_eq_true (by omega)
   have d2 : decide (k < zs.length) = true := decide_eq_true hkl
   have hrow0 := hrd.row
   obtain ⟨g, rfl, hgl⟩ : ∃ g, A2 = some ⟨g, 0, none⟩ ∧ w.heap.size ≤ g := by
    rcases hrd.own.2 with ⟨e, h0⟩ | ⟨g, cap, cur, e, hg, _⟩
    ·omega
    ·injection e with e1
     exact ⟨g, e1, hg⟩
   have hok : (y02 zs)[k]? = some ((y02 zs)[k]'(by simpa using hkl)) := List.getElem?_eq_getElem _
   obtain ⟨⟨t, D⟩, hoz⟩ : ∃ o, o = (y02 zs)[k]'(by simpa using hkl) := ⟨_, rfl⟩
   rw [← hoz] at hok
   have hokq : (y02 qs)[k]? = some (t, D) := by
    rw [HQS.out]
    unfold y2y
    rw [List.getElem?_append_right (by rw [List.length_map, List.length_take]; omega), List.getElem?_drop, ← hok]
    congr 1
    simp
    omega
   have HOK := xhd hok
   rw [← hql] at hrow0
   obtain ⟨bx, ox, A1, c1, t', D', e1, hFb, x0, x1, hra, hpa⟩ := hrow0.pick k (by omega)
   obtain ⟨rfl, rfl⟩ : g = bx ∧ ox = 0 := by
    injection e1 with e1
    injection e1 with e1 e2
    exact ⟨e1, e2.symm⟩
   obtain ⟨rfl, rfl⟩ : t' = t ∧ D' = D := by
    rw [List.getElem?_map, hpa] at hokq
    injection hokq with hokq
    injection hokq with a b
    exact ⟨a, b⟩
   have HQK := xhd (show ∃ u, qs[k]? = some (u, (t', D')) from ⟨_, hpa⟩)
   rw [Nat.zero_add] at x0 x1
   clear hok hokq hoz hrow0 e1 hra hpa hrd hql hFb
   go_upto_region 5 with fail
   obtain ⟨wb, hwb⟩ : ∃ wb, wb = wr.alloc (.cells #[.int .i64 t', .slice A1 D'.length c1] 31) := ⟨_, rfl⟩
   obtain ⟨gb, hgb⟩ : ∃ gb, gb = wr.heap.size := ⟨_, rfl⟩
   rw [← hwb, ← hgb]
   have hkb : Keeps y01 wr wb := by rw [hwb]; exact (Keeps.refl _ wr).alloc _
   have hbb : Blk wb gb 31 #[.int .i64 t', .slice A1 D'.length c1] := by rw [hwb, hgb]; exact Blk.new wr _ _
   have y0 : wb.cell? ⟨gb, 0, none⟩ = some (.int .i64 t') := by rw [hbb.cell]; rfl
   have HKW := xhd (Keeps.new HRD.out.below)
   have HKb := xhd hkb
   have HFI := xhd (yaf Fn (.slice V ns.length cv) ns t' wb (HN.out.keeps (HKW.out.trans hkb) (fun _ _ h => h)))
   clear hwb hgb hbb hkb x0 x1
   go_wp2_with fail
   refine HFI.out.mono ?_
   rintro e w2 ⟨i, rfl, hp, hk2⟩
   have HK1 := xhd (HKb.out.trans hk2)
   have HC0 := xhd (y04 y0 hk2)
   clear hk2 y0 HFI
   rcases hp.find with ⟨rfl, hnone⟩ | ⟨j, o, rfl, hjl, hjo, hsome⟩
   ·have HE := xhd (show Pure.nakedOne (y08 us) (y02 ns) (t', D') = (t', D') by unfold Pure.nakedOne; dsimp only; rw [hnone])
    clear hp hnone
    go_wp2_with fail
    go_roundw
    case rel => exact ⟨k + 1, by omega, by go_num, _, by rw [HQS.out]; exact ybc _ _ _ k (t', D') HOK.out HE.out, HRD.out.keeps HK1.out⟩
    case measure => simp [intOf] <;> omega
   ·have hjn : j < ns.length := by simpa using hjl
    obtain ⟨bn, nn, A5, c5, t5, D5, rfl, hFn, n0, n1, hrn, hpn⟩ := (HN.out.keeps (HKW.out.trans HK1.out) (fun _ _ h => h)).pick j hjn
    have ho5 : o = (t5, D5) := by
     rw [List.getElem?_map, hpn] at hjo
     injection hjo with hjo
     exact hjo.symm
    subst ho5
    have hD5 : D5.length ≤ 100000 := HFN.out.data _ (List.mem_of_getElem? hpn)
    have HFND := xhd (show (y02 ns).find? (fun p => decide (p.1 = t')) = some (t5, D5) from hsome)
    have HRN := xhd hrn
    have j0 : (0 : Int) ≤ (j : Int) := by omega
    have j1 : (j : Int) < (ns.length : Int) := by omega
    have dj : decide ((j : Int) < 0) = false := decide_eq_false (by omega)
    have HC1 := xhd (And.intro HC0.out n1)
    have HK13 := xhd HK1.out
    have HKZ := xhd (Keeps.refl y01 w2)
    have HRF := xhd (fun (W : World) (hK : Keeps y01 w2 W) => y5i Fu (.slice U us.length cu) us t' W (HU.out.keeps ((HKW.out.trans HK1.out).trans hK) (fun _ _ h => h)))
    clear hp hjl hjo hsome hrn hpn n0 n1 hFn
    go_wp2_with fail
    refine y0b (fun w' => w'.cell? ⟨gb, 0, none⟩ = some (.int .i64 t') ∧ w'.cell? ⟨bn, nn + j * 2 + 1, none⟩ = some (.slice A5 D5.length c5)) 14 15 rfl (by kernel_rfl) ⟨HC1.out.1, HC1.out.2⟩ (fun hHeld => ?_)
    have HSW := hHeld
    clear hHeld
    have HK0d := xhd (HKZ.out.drew)
    refine y00 (i := 0) rfl (by kernel_rfl) (fun _ _ _ h => h) (Or.inl ⟨by rfl, by intro w hSw; obtain ⟨s0, s1⟩ := hSw; go_simp; try with_reducible rfl⟩) HSW.out ?_
    simp only [Act.put, xqA, xqB, xqD, xqE, xqF]
    refine y00 (i := 1) rfl (by kernel_rfl) (fun _ _ _ h => h) (Or.inl ⟨by rfl, by intro w hSw; obtain ⟨s0, s1⟩ := hSw; go_simp; try with_reducible rfl⟩) HSW.out ?_
    simp only [Act.put, xqA, xqB, xqC, xqD, xqE, xqF]
    refine y00 (i := 2) rfl (by kernel_rfl) (fun _ _ _ h => h) (Or.inl ⟨by rfl, by intro w hSw; obtain ⟨s0, s1⟩ := hSw; go_simp; try with_reducible rfl⟩) HSW.out ?_
    simp only [Act.put, xqA, xqB, xqC, xqD, xqE, xqF]
    refine y00 (i := 4) rfl (by kernel_rfl) (fun _ _ _ h => h) (Or.inl ⟨by rfl, by intro w hSw; obtain ⟨s0, s1⟩ := hSw; go_simp; try with_reducible rfl⟩) HSW.out ?_
    simp only [Act.put, xqA, xqB, xqC, xqD, xqE, xqF]
    refine y00 (i := 5) rfl (by kernel_rfl) (fun _ _ _ h => h) (Or.inl ⟨by rfl, by intro w hSw; obtain ⟨s0, s1⟩ := hSw; go_simp; try with_reducible rfl⟩) HSW.out ?_
    simp only [Act.put, xqA, xqB, xqC, xqD, xqE, xqF]
    refine y00 (i := 6) rfl (by kernel_rfl) (fun _ _ _ h => h) (Or.inl ⟨by rfl, by intro w hSw; obtain ⟨s0, s1⟩ := hSw; go_simp; try with_reducible rfl⟩) HSW.out ?_
    simp only [Act.put, xqA, xqB, xqC, xqD, xqE, xqF]
    refine y00 (i := 7) rfl (by kernel_rfl) (fun _ _ _ h => h) (Or.inl ⟨by rfl, by intro w hSw; obtain ⟨s0, s1⟩ := hSw; go_simp; try with_reducible rfl⟩) HSW.out ?_
    simp only [Act.put, xqA, xqB, xqC, xqD, xqE, xqF]
    refine y00 (i := 8) rfl (by kernel_rfl) (fun _ _ _ h => h) (Or.inl ⟨by rfl, by intro w hSw; obtain ⟨s0, s1⟩ := hSw; go_simp; try with_reducible rfl⟩) HSW.out ?_
    simp only [Act.put, xqA, xqB, xqC, xqD, xqE, xqF]
    refine y03 (i := 3) (by kernel_rfl) rfl (fun K hK => ?_)
    try rw [if_pos (by rfl)]
    go_simp
    refine (HRF.out _ HK0d.out).mono ?_
    rintro e w3 ⟨pA, pc, pr, rfl, hpr, hrow, hin, hk3⟩
    have HPR := xhd hpr
    have HIN := xhd (HFU.out.pick hin)
    have HRW := xhd hrow
    have HK3 := xhd (HK0d.out.trans hk3)
    have HS3 := xhd (And.intro (y04 HSW.out.1 hk3) (y04 HSW.out.2 hk3))
    clear hpr hrow hin hk3
    refine hK.out _ _ (fun _ => HS3.out) ?_
    clear hK K
    try simp only [Act.put, xqA, Nat.reduceAdd, xqB, xqC, xqD, xqE, xqF]
    refine y03 (i := 9) (by kernel_rfl) rfl (fun K hK => ?_)
    try rw [if_pos (by rfl)]
    go_simp
    refine (heed_any Fn (.slice pA pr.want.length pc) (.slice A5 D5.length c5) pr D5 _ (HRN.out.keeps HK3.out (fun _ _ h => h)) (by omega) HIN.out.1).mono ?_
    rintro e w4 hoff
    obtain ⟨oA, on', oc, rfl, hk4, hdat⟩ := hoff.form
    have HDAT := xhd hdat
    have HK4 := xhd (HK3.out.trans hk4)
    have HS4 := xhd (And.intro (y04 HS3.out.1 hk4) (y04 HS3.out.2 hk4))
    obtain ⟨ok, hok⟩ : ∃ ok, ok = (pr.heedP D5).isSome := ⟨_, rfl⟩
    rw [← hok]
    have HOKS := xhd hok
    clear hoff hk4 hdat hok
    refine hK.out _ _ (fun _ => HS4.out) ?_
    clear hK K
    try simp only [Act.put, xqA, Nat.reduceAdd, xqB, xqC, xqD, xqE, xqF]
    refine y00 (i := 10) rfl (by kernel_rfl) (fun _ _ _ h => h) (Or.inl ⟨by rfl, by intro w hSw; obtain ⟨s0, s1⟩ := hSw; go_simp; try with_reducible rfl⟩) HS4.out ?_
    simp only [Act.put, xqA, xqB, xqC, xqD, xqE, xqF]
    refine y00 (i := 11) rfl (by kernel_rfl) (fun _ _ _ h => h) (Or.inl ⟨by rfl, by intro w hSw; obtain ⟨s0, s1⟩ := hSw; go_simp; try with_reducible rfl⟩) HS4.out ?_
    simp only [Act.put, xqA, xqB, xqC, xqD, xqE, xqF]
    refine y00 (i := 12) rfl (by kernel_rfl) (fun _ _ _ h => h) (Or.inl ⟨by rfl, by intro w hSw; obtain ⟨s0, s1⟩ := hSw; go_simp; try with_reducible rfl⟩) HS4.out ?_
    simp only [Act.put, xqA, xqB, xqC, xqD, xqE, xqF]
    refine y00 (i := 13) rfl (by kernel_rfl) (fun _ _ _ h => h) (Or.inl ⟨by rfl, by intro w hSw; obtain ⟨s0, s1⟩ := hSw; go_simp; try with_reducible rfl⟩) HS4.out ?_
    simp only [Act.put, xqA, xqB, xqC, xqD, xqE, xqF]
    refine y03 (i := 14) (by kernel_rfl) rfl (fun K hK => ?_)
    go_simp
    refine hK.out _ _ (fun h => absurd rfl h) ?_
    clear hK K
    refine y09 (by kernel_rfl) ?_ _
    have HE := xhd (show Pure.nakedOne (y08 us) (y02 ns) (t', D') = match pr.heedP D5 with | some d => (t', d) | none => (t', D') by
     rw [Pure.naked_for _ (fun r hr => HOKR.out r hr), HFND.out]
     dsimp only
     rw [← HPR.out]
     try (cases pr.heedP D5 <;> rfl))
    cases hh : pr.heedP D5 with
    | none =>
     have h1 : ok = false := by have := HOKS.out; rw [hh] at this; exact this
     subst h1
     have HE2 := xhd (HE.out.trans (by rw [hh]))
     clear hh HE HDAT
     go_wp2_with fail
     go_roundw
     case rel => exact ⟨k + 1, by omega, by go_num, _, by rw [HQS.out]; exact ybc _ _ _ k (t', D') HOK.out HE2.out, HRD.out.keeps (HK1.out.trans HK4.out)⟩
     case measure => simp [intOf] <;> omega
    | some d =>
     have h1 : ok = true := by have := HOKS.out; rw [hh] at this; exact this
     subst h1
     have HE2 := xhd (HE.out.trans (by rw [hh]))
     obtain ⟨rfl, hrow⟩ := HDAT.out d hh
     have hR4 := HRD.out.keeps (HK1.out.trans HK4.out)
     have hfr := HRD.out.fresh (hrow.mono (G := fun b => wr.heap.size ≤ b) (fun b hb => Nat.le_trans HK13.out.size (Nat.le_trans HK3.out.size hb)))
     obtain ⟨⟨uc, hc0⟩, hf0, hput⟩ := hR4.put k (t', D') d oA oc HQK.out hfr
     have HPUT := xhd hput
     clear hh HE HDAT hrow hR4 hfr hput
     go_wp2_with fail
     go_roundw
     case rel => exact ⟨k + 1, by omega, by go_num, qs.set k (.slice oA d.length oc, (t', d)), by rw [optsOf_set, HQS.out]; exact naked_new _ _ _ k (t', D') _ HOK.out HE2.out, HPUT.out⟩
     case measure => simp [intOf] <;> omega
  ·have hkk : k = zs.length := by omega
   subst hkk
   have d1 : decide ((zs.length : Int) < (zs.length : Int)) = false := decide_eq_false (by omega)
   have d2 : decide (zs.length < zs.length) = false := decide_eq_false (by omega)
   go_wp2
   go_ret
   exact ⟨_, qs, rfl, by rw [HQS.out]; unfold y2y Pure.naked; rw [List.take_of_length_le (by simp), List.drop_of_length_le (by simp), List.append_nil], HRD.out⟩
theorem y9u {s e : Int} (h : ¬ (0 ≤ s ∧ s ≤ 9 ∧ 0 ≤ e ∧ e < 16)) : Pure.fsmStep s e = ([], s) := if_neg h
theorem yay (s e : Nat) (hs : s < 10) (he : e < 16) : Pure.fsmStep s e = ((Pure.fsmAt s e).1, ((Pure.fsmAt s e).2 : Int)) := by
 unfold Pure.fsmStep
 rw [if_pos (by omega)]
 rfl
theorem act_other (m : Pure.Mach) (a : Nat) (h4 : a ≠ 4) (h5 : a ≠ 5) (h6 : a ≠ 6) (h9 : a ≠ 9) : m.act a = m := by
 unfold Pure.Mach.act
 rw [if_neg h4, if_neg h5, if_neg (by omega)]
theorem Row.ints_at {w : World} {F : Nat → Prop} {A : Option Addr} {c : Nat} {l : List Nat} (h : Row w F 1 (.slice A l.length c) l.length (ints l)) (k : Nat) (hk : k < l.length) :
  ∃ b off, A = some ⟨b, off, none⟩ ∧ F b ∧ w.cell? ⟨b, off + k, none⟩ = some (.int .i64 ((l.getD k 0 : Nat) : Int)) := by
 obtain ⟨b, off, e, hF, hc⟩ := h.cellAt (by omega)
 exact ⟨b, off, e, hF, hc k _ (Go.Proofs.YtmgicbckgpdkcaaGreatDoor.ints_at l k hk)⟩
def y6w (t u : Int) : Prop := 1 ≤ t ∧ t ≤ 1000 ∧ 1 ≤ u ∧ u ≤ 1000
instance (t u : Int) : Decidable (y6w t u) := by unfold y6w; infer_instance
def y92 (m : Pure.Mach) : Array Value := #[.int .i64 (m.tries : Nat), .int .i64 (m.timeout : Nat), .int .i64 (m.state : Nat), .int .i64 (m.count : Nat), .int .i64 (m.left : Nat)]
def y11 (w : World) (g : Nat) (m : Pure.Mach) : Prop := Blk w g 208 (y92 m)
theorem y11.keeps {S : Nat → Prop} {w w' : World} {g : Nat} {m : Pure.Mach} (h : y11 w g m) (k : Keeps S w w') (hs : ¬ S g) : y11 w' g m := Blk.keeps h k hs
theorem ya8 (n : Int) (w : World) : Calls Tryz.prog 154 #[.int .i64 n] w fun r w' => r = .returned (.bool (decide (1 ≤ n ∧ n ≤ 1000))) ∧ w = w' := by
 by_cases h1 : 1 ≤ n
 ·by_cases h2 : n ≤ 1000
  ·have d1 : decide (1 ≤ n) = true := decide_eq_true h1
   have d2 : decide (n ≤ 1000) = true := decide_eq_true h2
   have HR := xhd (show decide (1 ≤ n ∧ n ≤ 1000) = true from decide_eq_true ⟨h1, h2⟩)
   clear h1 h2
   go_enter Tryz.func154, Tryz.ntmps154
   go_wp2
   go_ret
   exact ⟨by rw [HR.out]; rfl, rfl⟩
  ·have d1 : decide (1 ≤ n) = true := decide_eq_true h1
   have d2 : decide (n ≤ 1000) = false := decide_eq_false h2
   have HR := xhd (show decide (1 ≤ n ∧ n ≤ 1000) = false from decide_eq_false fun h => h2 h.2)
   clear h1 h2
   go_enter Tryz.func154, Tryz.ntmps154
   go_wp2
   go_ret
   exact ⟨by rw [HR.out]; rfl, rfl⟩
 ·have d1 : decide (1 ≤ n) = false := decide_eq_false h1
  have HR := xhd (show decide (1 ≤ n ∧ n ≤ 1000) = false from decide_eq_false fun h => h1 h.1)
  clear h1
  go_enter Tryz.func154, Tryz.ntmps154
  go_wp2
  go_ret
  exact ⟨by rw [HR.out]; rfl, rfl⟩
theorem new_ok (t u : Nat) (w : World) (h : y6w t u) : Calls Tryz.prog 114 #[.int .i64 t, .int .i64 u] w fun r w' => r = .returned (.tuple #[.pointer (some ⟨w.heap.size, 0, none⟩), .int .i64 0]) ∧ y11 w' w.heap.size (Pure.newMach t u) ∧ Keeps y01 w w' := by
 unfold y6w at h
 have S1 := ya8 t w
 have S2 := ya8 u w
 rw [decide_eq_true (show 1 ≤ (t : Int) ∧ (t : Int) ≤ 1000 by omega)] at S1
 rw [decide_eq_true (show 1 ≤ (u : Int) ∧ (u : Int) ≤ 1000 by omega)] at S2
 have H1 := xhd S1
 have H2 := xhd S2
 have HB := xhd (show y11 (w.alloc (.cells (y92 (Pure.newMach t u)) 208)) w.heap.size (Pure.newMach t u) from Blk.new w _ _)
 have HK := xhd ((Keeps.refl y01 w).alloc (.cells (y92 (Pure.newMach t u)) 208))
 clear h S1 S2
 go_enter Tryz.func114, Tryz.ntmps114
 go_wp2_with fail
 refine H1.out.mono ?_
 rintro r w1 ⟨rfl, rfl⟩
 go_wp2_with fail
 refine H2.out.mono ?_
 rintro r w1 ⟨rfl, rfl⟩
 go_wp2
 go_ret2
 exact ⟨rfl, HB.out, HK.out⟩
section
variable (g : Nat) (m : Pure.Mach) (w : World)
theorem yai (hm : y11 w g m) (ht : 1 ≤ m.tries) : Calls Tryz.prog 165 #[.pointer (some ⟨g, 0, none⟩)] w fun r w' => r = .returned (.bool true) ∧ w = w' := by
 have c0 : w.cell? ⟨g, 0, none⟩ = some (.int .i64 (m.tries : Nat)) := by rw [Blk.cell hm]; rfl
 have d0 : decide ((0 : Int) < (m.tries : Int)) = true := decide_eq_true (by omega)
 have d1 : decide (0 < m.tries) = true := decide_eq_true (by omega)
 clear hm ht
 go_enter Tryz.func165, Tryz.ntmps165
 go_wp2
 go_ret
 exact ⟨rfl, rfl⟩
theorem state_any (hm : y11 w g m) (ht : 1 ≤ m.tries) : Calls Tryz.prog 145 #[.pointer (some ⟨g, 0, none⟩)] w fun r w' => r = .returned (.int .i64 (m.state : Nat)) ∧ w = w' := by
 have c0 : w.cell? ⟨g, 2, none⟩ = some (.int .i64 (m.state : Nat)) := by rw [Blk.cell hm]; rfl
 have HM := xhd (yai g m w hm ht)
 clear hm ht
 go_enter Tryz.func145, Tryz.ntmps145
 go_wp2_with fail
 refine HM.out.mono ?_
 rintro r w1 ⟨rfl, rfl⟩
 go_wp2
 go_ret
 exact ⟨rfl, rfl⟩
end
def Ans (w : World) (r : Ending) (w' : World) (l : List Nat) (n : Int) : Prop :=
 ∃ A c, r = .returned (.tuple #[.slice A l.length c, .int .i64 n]) ∧ Row w' (fun b => w.heap.size ≤ b) 1 (.slice A l.length c) l.length (ints l) ∧ Below w.heap.size w w'
theorem Ans.none (w : World) (n : Int) : Ans w (.returned (.tuple #[.slice Option.none 0 0, .int .i64 n])) w [] n := ⟨_, _, rfl, Row.nil _ _ _, Below.refl _ _⟩
theorem Ans.some (w : World) (l : List Nat) (cs : Array Value) (k : Nat) (n : Int) (hc : cs = (ints l).toArray) (hk : k = l.length) (hl : l.length ≤ 100000) :
  Ans w (.returned (.tuple #[.slice (.some ⟨w.heap.size, 0, Option.none⟩) k k, .int .i64 n])) (w.alloc (.cells cs 3)) l n := by
 refine ⟨.some ⟨w.heap.size, 0, Option.none⟩, k, by rw [hk], ?_, ?_⟩
 ·have := irow_new w l cs k hc hk hl
  rw [hk] at this ⊢
  exact this.mono fun b hb => by omega
 ·exact Keeps.to_below ((Keeps.refl _ w).alloc _)
theorem y05 (n : Int) (A : Option Addr) (k c : Nat) (w : World) : Calls Tryz.prog 225 #[.int .i64 n, .slice A k c] w fun r w' => r = .returned (.tuple #[.slice A k c, .int .i64 n]) ∧ w = w' := by
 go_enter Tryz.func225, Tryz.ntmps225
 go_wp2
 go_ret2
 exact ⟨rfl, rfl⟩
theorem ydu (n : Int) (w : World) : Calls Tryz.prog 195 #[.int .i64 n] w fun r w' => r = .returned (.bool (decide (4 ≤ n ∧ n ≤ 8))) ∧ w = w' := by
 by_cases h1 : 4 ≤ n
 ·by_cases h2 : n ≤ 8
  ·have d1 : decide (4 ≤ n) = true := decide_eq_true h1
   have d2 : decide (n ≤ 8) = true := decide_eq_true h2
   have HR := xhd (show decide (4 ≤ n ∧ n ≤ 8) = true from decide_eq_true ⟨h1, h2⟩)
   clear h1 h2
   go_enter Tryz.func195, Tryz.ntmps195
   go_wp2
   go_ret
   exact ⟨by rw [HR.out]; rfl, rfl⟩
  ·have d1 : decide (4 ≤ n) = true := decide_eq_true h1
   have d2 : decide (n ≤ 8) = false := decide_eq_false h2
   have HR := xhd (show decide (4 ≤ n ∧ n ≤ 8) = false from decide_eq_false fun h => h2 h.2)
   clear h1 h2
   go_enter Tryz.func195, Tryz.ntmps195
   go_wp2
   go_ret
   exact ⟨by rw [HR.out]; rfl, rfl⟩
 ·have d1 : decide (4 ≤ n) = false := decide_eq_false h1
  have HR := xhd (show decide (4 ≤ n ∧ n ≤ 8) = false from decide_eq_false fun h => h1 h.1)
  clear h1
  go_enter Tryz.func195, Tryz.ntmps195
  go_wp2
  go_ret
  exact ⟨by rw [HR.out]; rfl, rfl⟩
theorem ygb (w : World) : Calls Tryz.prog 226 #[.int .i64 0, .int .i64 0] w fun r w' => Ans w r w' [] 2 := by
 go_enter Tryz.func226, Tryz.ntmps226
 go_wp2_with fail
 refine (y05 _ _ _ _ _).mono ?_
 rintro r w1 ⟨rfl, rfl⟩
 go_wp2
 go_ret2
 exact Ans.none _ _
theorem ygc (w : World) : Calls Tryz.prog 226 #[.int .i64 1, .int .i64 0] w fun r w' => Ans w r w' [4, 6] 6 := by
 go_enter Tryz.func226, Tryz.ntmps226
 go_wp2_with fail
 refine (y05 _ _ _ _ _).mono ?_
 rintro r w1 ⟨rfl, rfl⟩
 go_wp2
 go_ret2
 exact Ans.some _ _ _ _ _ rfl rfl (by decide)
theorem ygd (w : World) : Calls Tryz.prog 226 #[.int .i64 2, .int .i64 0] w fun r w' => Ans w r w' [] 2 := by
 go_enter Tryz.func226, Tryz.ntmps226
 go_wp2_with fail
 refine (y05 _ _ _ _ _).mono ?_
 rintro r w1 ⟨rfl, rfl⟩
 go_wp2
 go_ret2
 exact Ans.none _ _
theorem yge (w : World) : Calls Tryz.prog 226 #[.int .i64 3, .int .i64 0] w fun r w' => Ans w r w' [] 3 := by
 go_enter Tryz.func226, Tryz.ntmps226
 go_wp2_with fail
 refine (y05 _ _ _ _ _).mono ?_
 rintro r w1 ⟨rfl, rfl⟩
 go_wp2
 go_ret2
 exact Ans.none _ _
theorem ygf (w : World) : Calls Tryz.prog 226 #[.int .i64 4, .int .i64 0] w fun r w' => Ans w r w' [] 4 := by
 go_enter Tryz.func226, Tryz.ntmps226
 go_wp2_with fail
 refine (y05 _ _ _ _ _).mono ?_
 rintro r w1 ⟨rfl, rfl⟩
 go_wp2
 go_ret2
 exact Ans.none _ _
theorem ygg (w : World) : Calls Tryz.prog 226 #[.int .i64 5, .int .i64 0] w fun r w' => Ans w r w' [] 5 := by
 go_enter Tryz.func226, Tryz.ntmps226
 go_wp2_with fail
 refine (y05 _ _ _ _ _).mono ?_
 rintro r w1 ⟨rfl, rfl⟩
 go_wp2
 go_ret2
 exact Ans.none _ _
theorem ygh (w : World) : Calls Tryz.prog 226 #[.int .i64 6, .int .i64 0] w fun r w' => Ans w r w' [] 6 := by
 go_enter Tryz.func226, Tryz.ntmps226
 go_wp2_with fail
 refine (y05 _ _ _ _ _).mono ?_
 rintro r w1 ⟨rfl, rfl⟩
 go_wp2
 go_ret2
 exact Ans.none _ _
theorem ygi (w : World) : Calls Tryz.prog 226 #[.int .i64 7, .int .i64 0] w fun r w' => Ans w r w' [] 7 := by
 go_enter Tryz.func226, Tryz.ntmps226
 go_wp2_with fail
 refine (y05 _ _ _ _ _).mono ?_
 rintro r w1 ⟨rfl, rfl⟩
 go_wp2
 go_ret2
 exact Ans.none _ _
theorem ygj (w : World) : Calls Tryz.prog 226 #[.int .i64 8, .int .i64 0] w fun r w' => Ans w r w' [] 8 := by
 go_enter Tryz.func226, Tryz.ntmps226
 go_wp2_with fail
 refine (y05 _ _ _ _ _).mono ?_
 rintro r w1 ⟨rfl, rfl⟩
 go_wp2
 go_ret2
 exact Ans.none _ _
theorem ygk (w : World) : Calls Tryz.prog 226 #[.int .i64 9, .int .i64 0] w fun r w' => Ans w r w' [] 9 := by
 go_enter Tryz.func226, Tryz.ntmps226
 go_wp2_with fail
 refine (y05 _ _ _ _ _).mono ?_
 rintro r w1 ⟨rfl, rfl⟩
 go_wp2
 go_ret2
 exact Ans.none _ _
theorem ygl (w : World) : Calls Tryz.prog 226 #[.int .i64 0, .int .i64 1] w fun r w' => Ans w r w' [] 0 := by
 go_enter Tryz.func226, Tryz.ntmps226
 go_wp2_with fail
 refine (y05 _ _ _ _ _).mono ?_
 rintro r w1 ⟨rfl, rfl⟩
 go_wp2
 go_ret2
 exact Ans.none _ _
theorem ygm (w : World) : Calls Tryz.prog 226 #[.int .i64 1, .int .i64 1] w fun r w' => Ans w r w' [] 1 := by
 go_enter Tryz.func226, Tryz.ntmps226
 go_wp2_with fail
 refine (y05 _ _ _ _ _).mono ?_
 rintro r w1 ⟨rfl, rfl⟩
 go_wp2
 go_ret2
 exact Ans.none _ _
theorem ygn (w : World) : Calls Tryz.prog 226 #[.int .i64 2, .int .i64 1] w fun r w' => Ans w r w' [] 0 := by
 go_enter Tryz.func226, Tryz.ntmps226
 go_wp2_with fail
 refine (y05 _ _ _ _ _).mono ?_
 rintro r w1 ⟨rfl, rfl⟩
 go_wp2
 go_ret2
 exact Ans.none _ _
theorem ygo (w : World) : Calls Tryz.prog 226 #[.int .i64 3, .int .i64 1] w fun r w' => Ans w r w' [2] 1 := by
 go_enter Tryz.func226, Tryz.ntmps226
 go_wp2_with fail
 refine (y05 _ _ _ _ _).mono ?_
 rintro r w1 ⟨rfl, rfl⟩
 go_wp2
 go_ret2
 exact Ans.some _ _ _ _ _ rfl rfl (by decide)
theorem ygp (w : World) : Calls Tryz.prog 226 #[.int .i64 4, .int .i64 1] w fun r w' => Ans w r w' [] 0 := by
 go_enter Tryz.func226, Tryz.ntmps226
 go_wp2_with fail
 refine (y05 _ _ _ _ _).mono ?_
 rintro r w1 ⟨rfl, rfl⟩
 go_wp2
 go_ret2
 exact Ans.none _ _
theorem ygq (w : World) : Calls Tryz.prog 226 #[.int .i64 5, .int .i64 1] w fun r w' => Ans w r w' [] 1 := by
 go_enter Tryz.func226, Tryz.ntmps226
 go_wp2_with fail
 refine (y05 _ _ _ _ _).mono ?_
 rintro r w1 ⟨rfl, rfl⟩
 go_wp2
 go_ret2
 exact Ans.none _ _
theorem ygr (w : World) : Calls Tryz.prog 226 #[.int .i64 6, .int .i64 1] w fun r w' => Ans w r w' [] 1 := by
 go_enter Tryz.func226, Tryz.ntmps226
 go_wp2_with fail
 refine (y05 _ _ _ _ _).mono ?_
 rintro r w1 ⟨rfl, rfl⟩
 go_wp2
 go_ret2
 exact Ans.none _ _
theorem ygs (w : World) : Calls Tryz.prog 226 #[.int .i64 7, .int .i64 1] w fun r w' => Ans w r w' [] 1 := by
 go_enter Tryz.func226, Tryz.ntmps226
 go_wp2_with fail
 refine (y05 _ _ _ _ _).mono ?_
 rintro r w1 ⟨rfl, rfl⟩
 go_wp2
 go_ret2
 exact Ans.none _ _
theorem ygt (w : World) : Calls Tryz.prog 226 #[.int .i64 8, .int .i64 1] w fun r w' => Ans w r w' [] 1 := by
 go_enter Tryz.func226, Tryz.ntmps226
 go_wp2_with fail
 refine (y05 _ _ _ _ _).mono ?_
 rintro r w1 ⟨rfl, rfl⟩
 go_wp2
 go_ret2
 exact Ans.none _ _
theorem ygu (w : World) : Calls Tryz.prog 226 #[.int .i64 9, .int .i64 1] w fun r w' => Ans w r w' [1] 1 := by
 go_enter Tryz.func226, Tryz.ntmps226
 go_wp2_with fail
 refine (y05 _ _ _ _ _).mono ?_
 rintro r w1 ⟨rfl, rfl⟩
 go_wp2
 go_ret2
 exact Ans.some _ _ _ _ _ rfl rfl (by decide)
theorem ygv (w : World) : Calls Tryz.prog 226 #[.int .i64 0, .int .i64 2] w fun r w' => Ans w r w' [2] 1 := by
 go_enter Tryz.func226, Tryz.ntmps226
 go_wp2_with fail
 refine (y05 _ _ _ _ _).mono ?_
 rintro r w1 ⟨rfl, rfl⟩
 go_wp2
 go_ret2
 exact Ans.some _ _ _ _ _ rfl rfl (by decide)
theorem ygw (w : World) : Calls Tryz.prog 226 #[.int .i64 1, .int .i64 2] w fun r w' => Ans w r w' [] 1 := by
 go_enter Tryz.func226, Tryz.ntmps226
 go_wp2_with fail
 refine (y05 _ _ _ _ _).mono ?_
 rintro r w1 ⟨rfl, rfl⟩
 go_wp2
 go_ret2
 exact Ans.none _ _
theorem ygx (w : World) : Calls Tryz.prog 226 #[.int .i64 2, .int .i64 2] w fun r w' => Ans w r w' [4, 6] 6 := by
 go_enter Tryz.func226, Tryz.ntmps226
 go_wp2_with fail
 refine (y05 _ _ _ _ _).mono ?_
 rintro r w1 ⟨rfl, rfl⟩
 go_wp2
 go_ret2
 exact Ans.some _ _ _ _ _ rfl rfl (by decide)
theorem ygy (w : World) : Calls Tryz.prog 226 #[.int .i64 3, .int .i64 2] w fun r w' => Ans w r w' [] 3 := by
 go_enter Tryz.func226, Tryz.ntmps226
 go_wp2_with fail
 refine (y05 _ _ _ _ _).mono ?_
 rintro r w1 ⟨rfl, rfl⟩
 go_wp2
 go_ret2
 exact Ans.none _ _
theorem ygz (w : World) : Calls Tryz.prog 226 #[.int .i64 4, .int .i64 2] w fun r w' => Ans w r w' [] 5 := by
 go_enter Tryz.func226, Tryz.ntmps226
 go_wp2_with fail
 refine (y05 _ _ _ _ _).mono ?_
 rintro r w1 ⟨rfl, rfl⟩
 go_wp2
 go_ret2
 exact Ans.none _ _
theorem yh0 (w : World) : Calls Tryz.prog 226 #[.int .i64 5, .int .i64 2] w fun r w' => Ans w r w' [] 5 := by
 go_enter Tryz.func226, Tryz.ntmps226
 go_wp2_with fail
 refine (y05 _ _ _ _ _).mono ?_
 rintro r w1 ⟨rfl, rfl⟩
 go_wp2
 go_ret2
 exact Ans.none _ _
theorem yh1 (w : World) : Calls Tryz.prog 226 #[.int .i64 6, .int .i64 2] w fun r w' => Ans w r w' [] 6 := by
 go_enter Tryz.func226, Tryz.ntmps226
 go_wp2_with fail
 refine (y05 _ _ _ _ _).mono ?_
 rintro r w1 ⟨rfl, rfl⟩
 go_wp2
 go_ret2
 exact Ans.none _ _
theorem yh2 (w : World) : Calls Tryz.prog 226 #[.int .i64 7, .int .i64 2] w fun r w' => Ans w r w' [] 7 := by
 go_enter Tryz.func226, Tryz.ntmps226
 go_wp2_with fail
 refine (y05 _ _ _ _ _).mono ?_
 rintro r w1 ⟨rfl, rfl⟩
 go_wp2
 go_ret2
 exact Ans.none _ _
theorem yh3 (w : World) : Calls Tryz.prog 226 #[.int .i64 8, .int .i64 2] w fun r w' => Ans w r w' [] 8 := by
 go_enter Tryz.func226, Tryz.ntmps226
 go_wp2_with fail
 refine (y05 _ _ _ _ _).mono ?_
 rintro r w1 ⟨rfl, rfl⟩
 go_wp2
 go_ret2
 exact Ans.none _ _
theorem yh4 (w : World) : Calls Tryz.prog 226 #[.int .i64 9, .int .i64 2] w fun r w' => Ans w r w' [] 9 := by
 go_enter Tryz.func226, Tryz.ntmps226
 go_wp2_with fail
 refine (y05 _ _ _ _ _).mono ?_
 rintro r w1 ⟨rfl, rfl⟩
 go_wp2
 go_ret2
 exact Ans.none _ _
theorem yh5 (w : World) : Calls Tryz.prog 226 #[.int .i64 0, .int .i64 3] w fun r w' => Ans w r w' [] 0 := by
 go_enter Tryz.func226, Tryz.ntmps226
 go_wp2_with fail
 refine (y05 _ _ _ _ _).mono ?_
 rintro r w1 ⟨rfl, rfl⟩
 go_wp2
 go_ret2
 exact Ans.none _ _
theorem yh6 (w : World) : Calls Tryz.prog 226 #[.int .i64 1, .int .i64 3] w fun r w' => Ans w r w' [3] 0 := by
 go_enter Tryz.func226, Tryz.ntmps226
 go_wp2_with fail
 refine (y05 _ _ _ _ _).mono ?_
 rintro r w1 ⟨rfl, rfl⟩
 go_wp2
 go_ret2
 exact Ans.some _ _ _ _ _ rfl rfl (by decide)
theorem yh7 (w : World) : Calls Tryz.prog 226 #[.int .i64 2, .int .i64 3] w fun r w' => Ans w r w' [] 2 := by
 go_enter Tryz.func226, Tryz.ntmps226
 go_wp2_with fail
 refine (y05 _ _ _ _ _).mono ?_
 rintro r w1 ⟨rfl, rfl⟩
 go_wp2
 go_ret2
 exact Ans.none _ _
theorem yh8 (w : World) : Calls Tryz.prog 226 #[.int .i64 3, .int .i64 3] w fun r w' => Ans w r w' [] 2 := by
 go_enter Tryz.func226, Tryz.ntmps226
 go_wp2_with fail
 refine (y05 _ _ _ _ _).mono ?_
 rintro r w1 ⟨rfl, rfl⟩
 go_wp2
 go_ret2
 exact Ans.none _ _
theorem yh9 (w : World) : Calls Tryz.prog 226 #[.int .i64 4, .int .i64 3] w fun r w' => Ans w r w' [] 4 := by
 go_enter Tryz.func226, Tryz.ntmps226
 go_wp2_with fail
 refine (y05 _ _ _ _ _).mono ?_
 rintro r w1 ⟨rfl, rfl⟩
 go_wp2
 go_ret2
 exact Ans.none _ _
theorem yha (w : World) : Calls Tryz.prog 226 #[.int .i64 5, .int .i64 3] w fun r w' => Ans w r w' [] 4 := by
 go_enter Tryz.func226, Tryz.ntmps226
 go_wp2_with fail
 refine (y05 _ _ _ _ _).mono ?_
 rintro r w1 ⟨rfl, rfl⟩
 go_wp2
 go_ret2
 exact Ans.none _ _
theorem yhb (w : World) : Calls Tryz.prog 226 #[.int .i64 6, .int .i64 3] w fun r w' => Ans w r w' [4, 9] 4 := by
 go_enter Tryz.func226, Tryz.ntmps226
 go_wp2_with fail
 refine (y05 _ _ _ _ _).mono ?_
 rintro r w1 ⟨rfl, rfl⟩
 go_wp2
 go_ret2
 exact Ans.some _ _ _ _ _ rfl rfl (by decide)
theorem yhc (w : World) : Calls Tryz.prog 226 #[.int .i64 7, .int .i64 3] w fun r w' => Ans w r w' [4, 9] 4 := by
 go_enter Tryz.func226, Tryz.ntmps226
 go_wp2_with fail
 refine (y05 _ _ _ _ _).mono ?_
 rintro r w1 ⟨rfl, rfl⟩
 go_wp2
 go_ret2
 exact Ans.some _ _ _ _ _ rfl rfl (by decide)
theorem yhd (w : World) : Calls Tryz.prog 226 #[.int .i64 8, .int .i64 3] w fun r w' => Ans w r w' [4, 9] 4 := by
 go_enter Tryz.func226, Tryz.ntmps226
 go_wp2_with fail
 refine (y05 _ _ _ _ _).mono ?_
 rintro r w1 ⟨rfl, rfl⟩
 go_wp2
 go_ret2
 exact Ans.some _ _ _ _ _ rfl rfl (by decide)
theorem yhe (w : World) : Calls Tryz.prog 226 #[.int .i64 9, .int .i64 3] w fun r w' => Ans w r w' [1, 4, 9] 4 := by
 go_enter Tryz.func226, Tryz.ntmps226
 go_wp2_with fail
 refine (y05 _ _ _ _ _).mono ?_
 rintro r w1 ⟨rfl, rfl⟩
 go_wp2
 go_ret2
 exact Ans.some _ _ _ _ _ rfl rfl (by decide)
theorem ordered_e0 (s : Nat) (w : World) (h1 : 0 ≤ s) (h2 : s ≤ 9) : Calls Tryz.prog 226 #[.int .i64 s, .int .i64 0] w fun r w' => Ans w r w' (Pure.fsmAt s 0).1 ((Pure.fsmAt s 0).2 : Nat) := by
 match s, h1, h2 with
 | 0, _, _ => exact ygb w
 | 1, _, _ => exact ygc w
 | 2, _, _ => exact ygd w
 | 3, _, _ => exact yge w
 | 4, _, _ => exact ygf w
 | 5, _, _ => exact ygg w
 | 6, _, _ => exact ygh w
 | 7, _, _ => exact ygi w
 | 8, _, _ => exact ygj w
 | 9, _, _ => exact ygk w
 | _ + 10, _, h => exact absurd h (by omega)
theorem ordered_e1 (s : Nat) (w : World) (h1 : 0 ≤ s) (h2 : s ≤ 9) : Calls Tryz.prog 226 #[.int .i64 s, .int .i64 1] w fun r w' => Ans w r w' (Pure.fsmAt s 1).1 ((Pure.fsmAt s 1).2 : Nat) := by
 match s, h1, h2 with
 | 0, _, _ => exact ygl w
 | 1, _, _ => exact ygm w
 | 2, _, _ => exact ygn w
 | 3, _, _ => exact ygo w
 | 4, _, _ => exact ygp w
 | 5, _, _ => exact ygq w
 | 6, _, _ => exact ygr w
 | 7, _, _ => exact ygs w
 | 8, _, _ => exact ygt w
 | 9, _, _ => exact ygu w
 | _ + 10, _, h => exact absurd h (by omega)
theorem ordered_e2 (s : Nat) (w : World) (h1 : 0 ≤ s) (h2 : s ≤ 9) : Calls Tryz.prog 226 #[.int .i64 s, .int .i64 2] w fun r w' => Ans w r w' (Pure.fsmAt s 2).1 ((Pure.fsmAt s 2).2 : Nat) := by
 match s, h1, h2 with
 | 0, _, _ => exact ygv w
 | 1, _, _ => exact ygw w
 | 2, _, _ => exact ygx w
 | 3, _, _ => exact ygy w
 | 4, _, _ => exact ygz w
 | 5, _, _ => exact yh0 w
 | 6, _, _ => exact yh1 w
 | 7, _, _ => exact yh2 w
 | 8, _, _ => exact yh3 w
 | 9, _, _ => exact yh4 w
 | _ + 10, _, h => exact absurd h (by omega)
theorem ordered_e3 (s : Nat) (w : World) (h1 : 0 ≤ s) (h2 : s ≤ 9) : Calls Tryz.prog 226 #[.int .i64 s, .int .i64 3] w fun r w' => Ans w r w' (Pure.fsmAt s 3).1 ((Pure.fsmAt s 3).2 : Nat) := by
 match s, h1, h2 with
 | 0, _, _ => exact yh5 w
 | 1, _, _ => exact yh6 w
 | 2, _, _ => exact yh7 w
 | 3, _, _ => exact yh8 w
 | 4, _, _ => exact yh9 w
 | 5, _, _ => exact yha w
 | 6, _, _ => exact yhb w
 | 7, _, _ => exact yhc w
 | 8, _, _ => exact yhd w
 | 9, _, _ => exact yhe w
 | _ + 10, _, h => exact absurd h (by omega)
theorem ybu (w : World) : Calls Tryz.prog 227 #[.int .i64 2, .int .i64 6] w fun r w' => Ans w r w' [10] 2 := by
 go_enter Tryz.func227, Tryz.ntmps227
 go_wp2_with fail
 refine (y05 _ _ _ _ _).mono ?_
 rintro r w1 ⟨rfl, rfl⟩
 go_wp2
 go_ret2
 exact Ans.some _ _ _ _ _ rfl rfl (by decide)
theorem ybv (w : World) : Calls Tryz.prog 227 #[.int .i64 3, .int .i64 6] w fun r w' => Ans w r w' [4, 6, 7] 8 := by
 go_enter Tryz.func227, Tryz.ntmps227
 go_wp2_with fail
 refine (y05 _ _ _ _ _).mono ?_
 rintro r w1 ⟨rfl, rfl⟩
 go_wp2
 go_ret2
 exact Ans.some _ _ _ _ _ rfl rfl (by decide)
theorem ybw (w : World) : Calls Tryz.prog 227 #[.int .i64 4, .int .i64 6] w fun r w' => Ans w r w' [] 4 := by
 go_enter Tryz.func227, Tryz.ntmps227
 go_wp2_with fail
 refine (y05 _ _ _ _ _).mono ?_
 rintro r w1 ⟨rfl, rfl⟩
 go_wp2
 go_ret2
 exact Ans.none _ _
theorem ybx (w : World) : Calls Tryz.prog 227 #[.int .i64 5, .int .i64 6] w fun r w' => Ans w r w' [] 5 := by
 go_enter Tryz.func227, Tryz.ntmps227
 go_wp2_with fail
 refine (y05 _ _ _ _ _).mono ?_
 rintro r w1 ⟨rfl, rfl⟩
 go_wp2
 go_ret2
 exact Ans.none _ _
theorem yby (w : World) : Calls Tryz.prog 227 #[.int .i64 6, .int .i64 6] w fun r w' => Ans w r w' [7] 8 := by
 go_enter Tryz.func227, Tryz.ntmps227
 go_wp2_with fail
 refine (y05 _ _ _ _ _).mono ?_
 rintro r w1 ⟨rfl, rfl⟩
 go_wp2
 go_ret2
 exact Ans.some _ _ _ _ _ rfl rfl (by decide)
theorem ybz (w : World) : Calls Tryz.prog 227 #[.int .i64 7, .int .i64 6] w fun r w' => Ans w r w' [7, 0] 9 := by
 go_enter Tryz.func227, Tryz.ntmps227
 go_wp2_with fail
 refine (y05 _ _ _ _ _).mono ?_
 rintro r w1 ⟨rfl, rfl⟩
 go_wp2
 go_ret2
 exact Ans.some _ _ _ _ _ rfl rfl (by decide)
theorem yc0 (w : World) : Calls Tryz.prog 227 #[.int .i64 8, .int .i64 6] w fun r w' => Ans w r w' [7] 8 := by
 go_enter Tryz.func227, Tryz.ntmps227
 go_wp2_with fail
 refine (y05 _ _ _ _ _).mono ?_
 rintro r w1 ⟨rfl, rfl⟩
 go_wp2
 go_ret2
 exact Ans.some _ _ _ _ _ rfl rfl (by decide)
theorem yc1 (w : World) : Calls Tryz.prog 227 #[.int .i64 9, .int .i64 6] w fun r w' => Ans w r w' [1, 6, 7] 8 := by
 go_enter Tryz.func227, Tryz.ntmps227
 go_wp2_with fail
 refine (y05 _ _ _ _ _).mono ?_
 rintro r w1 ⟨rfl, rfl⟩
 go_wp2
 go_ret2
 exact Ans.some _ _ _ _ _ rfl rfl (by decide)
theorem yc2 (w : World) : Calls Tryz.prog 227 #[.int .i64 2, .int .i64 7] w fun r w' => Ans w r w' [10] 2 := by
 go_enter Tryz.func227, Tryz.ntmps227
 go_wp2_with fail
 refine (y05 _ _ _ _ _).mono ?_
 rintro r w1 ⟨rfl, rfl⟩
 go_wp2
 go_ret2
 exact Ans.some _ _ _ _ _ rfl rfl (by decide)
theorem yc3 (w : World) : Calls Tryz.prog 227 #[.int .i64 3, .int .i64 7] w fun r w' => Ans w r w' [4, 6, 8] 6 := by
 go_enter Tryz.func227, Tryz.ntmps227
 go_wp2_with fail
 refine (y05 _ _ _ _ _).mono ?_
 rintro r w1 ⟨rfl, rfl⟩
 go_wp2
 go_ret2
 exact Ans.some _ _ _ _ _ rfl rfl (by decide)
theorem yc4 (w : World) : Calls Tryz.prog 227 #[.int .i64 4, .int .i64 7] w fun r w' => Ans w r w' [] 4 := by
 go_enter Tryz.func227, Tryz.ntmps227
 go_wp2_with fail
 refine (y05 _ _ _ _ _).mono ?_
 rintro r w1 ⟨rfl, rfl⟩
 go_wp2
 go_ret2
 exact Ans.none _ _
theorem yc5 (w : World) : Calls Tryz.prog 227 #[.int .i64 5, .int .i64 7] w fun r w' => Ans w r w' [] 5 := by
 go_enter Tryz.func227, Tryz.ntmps227
 go_wp2_with fail
 refine (y05 _ _ _ _ _).mono ?_
 rintro r w1 ⟨rfl, rfl⟩
 go_wp2
 go_ret2
 exact Ans.none _ _
theorem yc6 (w : World) : Calls Tryz.prog 227 #[.int .i64 6, .int .i64 7] w fun r w' => Ans w r w' [8] 6 := by
 go_enter Tryz.func227, Tryz.ntmps227
 go_wp2_with fail
 refine (y05 _ _ _ _ _).mono ?_
 rintro r w1 ⟨rfl, rfl⟩
 go_wp2
 go_ret2
 exact Ans.some _ _ _ _ _ rfl rfl (by decide)
theorem yc7 (w : World) : Calls Tryz.prog 227 #[.int .i64 7, .int .i64 7] w fun r w' => Ans w r w' [8] 7 := by
 go_enter Tryz.func227, Tryz.ntmps227
 go_wp2_with fail
 refine (y05 _ _ _ _ _).mono ?_
 rintro r w1 ⟨rfl, rfl⟩
 go_wp2
 go_ret2
 exact Ans.some _ _ _ _ _ rfl rfl (by decide)
theorem yc8 (w : World) : Calls Tryz.prog 227 #[.int .i64 8, .int .i64 7] w fun r w' => Ans w r w' [8] 6 := by
 go_enter Tryz.func227, Tryz.ntmps227
 go_wp2_with fail
 refine (y05 _ _ _ _ _).mono ?_
 rintro r w1 ⟨rfl, rfl⟩
 go_wp2
 go_ret2
 exact Ans.some _ _ _ _ _ rfl rfl (by decide)
theorem yc9 (w : World) : Calls Tryz.prog 227 #[.int .i64 9, .int .i64 7] w fun r w' => Ans w r w' [1, 6, 8] 6 := by
 go_enter Tryz.func227, Tryz.ntmps227
 go_wp2_with fail
 refine (y05 _ _ _ _ _).mono ?_
 rintro r w1 ⟨rfl, rfl⟩
 go_wp2
 go_ret2
 exact Ans.some _ _ _ _ _ rfl rfl (by decide)
theorem yca (w : World) : Calls Tryz.prog 227 #[.int .i64 2, .int .i64 8] w fun r w' => Ans w r w' [10] 2 := by
 go_enter Tryz.func227, Tryz.ntmps227
 go_wp2_with fail
 refine (y05 _ _ _ _ _).mono ?_
 rintro r w1 ⟨rfl, rfl⟩
 go_wp2
 go_ret2
 exact Ans.some _ _ _ _ _ rfl rfl (by decide)
theorem ycb (w : World) : Calls Tryz.prog 227 #[.int .i64 3, .int .i64 8] w fun r w' => Ans w r w' [10] 3 := by
 go_enter Tryz.func227, Tryz.ntmps227
 go_wp2_with fail
 refine (y05 _ _ _ _ _).mono ?_
 rintro r w1 ⟨rfl, rfl⟩
 go_wp2
 go_ret2
 exact Ans.some _ _ _ _ _ rfl rfl (by decide)
theorem ycc (w : World) : Calls Tryz.prog 227 #[.int .i64 4, .int .i64 8] w fun r w' => Ans w r w' [] 4 := by
 go_enter Tryz.func227, Tryz.ntmps227
 go_wp2_with fail
 refine (y05 _ _ _ _ _).mono ?_
 rintro r w1 ⟨rfl, rfl⟩
 go_wp2
 go_ret2
 exact Ans.none _ _
theorem ycd (w : World) : Calls Tryz.prog 227 #[.int .i64 5, .int .i64 8] w fun r w' => Ans w r w' [] 5 := by
 go_enter Tryz.func227, Tryz.ntmps227
 go_wp2_with fail
 refine (y05 _ _ _ _ _).mono ?_
 rintro r w1 ⟨rfl, rfl⟩
 go_wp2
 go_ret2
 exact Ans.none _ _
theorem yce (w : World) : Calls Tryz.prog 227 #[.int .i64 6, .int .i64 8] w fun r w' => Ans w r w' [4] 7 := by
 go_enter Tryz.func227, Tryz.ntmps227
 go_wp2_with fail
 refine (y05 _ _ _ _ _).mono ?_
 rintro r w1 ⟨rfl, rfl⟩
 go_wp2
 go_ret2
 exact Ans.some _ _ _ _ _ rfl rfl (by decide)
theorem ycf (w : World) : Calls Tryz.prog 227 #[.int .i64 7, .int .i64 8] w fun r w' => Ans w r w' [6] 6 := by
 go_enter Tryz.func227, Tryz.ntmps227
 go_wp2_with fail
 refine (y05 _ _ _ _ _).mono ?_
 rintro r w1 ⟨rfl, rfl⟩
 go_wp2
 go_ret2
 exact Ans.some _ _ _ _ _ rfl rfl (by decide)
theorem ycg (w : World) : Calls Tryz.prog 227 #[.int .i64 8, .int .i64 8] w fun r w' => Ans w r w' [4, 0] 9 := by
 go_enter Tryz.func227, Tryz.ntmps227
 go_wp2_with fail
 refine (y05 _ _ _ _ _).mono ?_
 rintro r w1 ⟨rfl, rfl⟩
 go_wp2
 go_ret2
 exact Ans.some _ _ _ _ _ rfl rfl (by decide)
theorem ych (w : World) : Calls Tryz.prog 227 #[.int .i64 9, .int .i64 8] w fun r w' => Ans w r w' [1, 6] 6 := by
 go_enter Tryz.func227, Tryz.ntmps227
 go_wp2_with fail
 refine (y05 _ _ _ _ _).mono ?_
 rintro r w1 ⟨rfl, rfl⟩
 go_wp2
 go_ret2
 exact Ans.some _ _ _ _ _ rfl rfl (by decide)
theorem yci (w : World) : Calls Tryz.prog 227 #[.int .i64 2, .int .i64 9] w fun r w' => Ans w r w' [10] 2 := by
 go_enter Tryz.func227, Tryz.ntmps227
 go_wp2_with fail
 refine (y05 _ _ _ _ _).mono ?_
 rintro r w1 ⟨rfl, rfl⟩
 go_wp2
 go_ret2
 exact Ans.some _ _ _ _ _ rfl rfl (by decide)
theorem ycj (w : World) : Calls Tryz.prog 227 #[.int .i64 3, .int .i64 9] w fun r w' => Ans w r w' [10] 3 := by
 go_enter Tryz.func227, Tryz.ntmps227
 go_wp2_with fail
 refine (y05 _ _ _ _ _).mono ?_
 rintro r w1 ⟨rfl, rfl⟩
 go_wp2
 go_ret2
 exact Ans.some _ _ _ _ _ rfl rfl (by decide)
theorem yck (w : World) : Calls Tryz.prog 227 #[.int .i64 4, .int .i64 9] w fun r w' => Ans w r w' [] 4 := by
 go_enter Tryz.func227, Tryz.ntmps227
 go_wp2_with fail
 refine (y05 _ _ _ _ _).mono ?_
 rintro r w1 ⟨rfl, rfl⟩
 go_wp2
 go_ret2
 exact Ans.none _ _
theorem ycl (w : World) : Calls Tryz.prog 227 #[.int .i64 5, .int .i64 9] w fun r w' => Ans w r w' [] 5 := by
 go_enter Tryz.func227, Tryz.ntmps227
 go_wp2_with fail
 refine (y05 _ _ _ _ _).mono ?_
 rintro r w1 ⟨rfl, rfl⟩
 go_wp2
 go_ret2
 exact Ans.none _ _
theorem ycm (w : World) : Calls Tryz.prog 227 #[.int .i64 6, .int .i64 9] w fun r w' => Ans w r w' [4, 6] 6 := by
 go_enter Tryz.func227, Tryz.ntmps227
 go_wp2_with fail
 refine (y05 _ _ _ _ _).mono ?_
 rintro r w1 ⟨rfl, rfl⟩
 go_wp2
 go_ret2
 exact Ans.some _ _ _ _ _ rfl rfl (by decide)
theorem ycn (w : World) : Calls Tryz.prog 227 #[.int .i64 7, .int .i64 9] w fun r w' => Ans w r w' [6] 6 := by
 go_enter Tryz.func227, Tryz.ntmps227
 go_wp2_with fail
 refine (y05 _ _ _ _ _).mono ?_
 rintro r w1 ⟨rfl, rfl⟩
 go_wp2
 go_ret2
 exact Ans.some _ _ _ _ _ rfl rfl (by decide)
theorem yco (w : World) : Calls Tryz.prog 227 #[.int .i64 8, .int .i64 9] w fun r w' => Ans w r w' [4, 6] 8 := by
 go_enter Tryz.func227, Tryz.ntmps227
 go_wp2_with fail
 refine (y05 _ _ _ _ _).mono ?_
 rintro r w1 ⟨rfl, rfl⟩
 go_wp2
 go_ret2
 exact Ans.some _ _ _ _ _ rfl rfl (by decide)
theorem ycp (w : World) : Calls Tryz.prog 227 #[.int .i64 9, .int .i64 9] w fun r w' => Ans w r w' [1, 6] 6 := by
 go_enter Tryz.func227, Tryz.ntmps227
 go_wp2_with fail
 refine (y05 _ _ _ _ _).mono ?_
 rintro r w1 ⟨rfl, rfl⟩
 go_wp2
 go_ret2
 exact Ans.some _ _ _ _ _ rfl rfl (by decide)
theorem ydz (s : Nat) (w : World) (h1 : 2 ≤ s) (h2 : s ≤ 9) : Calls Tryz.prog 227 #[.int .i64 s, .int .i64 6] w fun r w' => Ans w r w' (Pure.fsmAt s 6).1 ((Pure.fsmAt s 6).2 : Nat) := by
 match s, h1, h2 with
 | 0, h, _ => exact absurd h (by omega)
 | 1, h, _ => exact absurd h (by omega)
 | 2, _, _ => exact ybu w
 | 3, _, _ => exact ybv w
 | 4, _, _ => exact ybw w
 | 5, _, _ => exact ybx w
 | 6, _, _ => exact yby w
 | 7, _, _ => exact ybz w
 | 8, _, _ => exact yc0 w
 | 9, _, _ => exact yc1 w
 | _ + 10, _, h => exact absurd h (by omega)
theorem ye0 (s : Nat) (w : World) (h1 : 2 ≤ s) (h2 : s ≤ 9) : Calls Tryz.prog 227 #[.int .i64 s, .int .i64 7] w fun r w' => Ans w r w' (Pure.fsmAt s 7).1 ((Pure.fsmAt s 7).2 : Nat) := by
 match s, h1, h2 with
 | 0, h, _ => exact absurd h (by omega)
 | 1, h, _ => exact absurd h (by omega)
 | 2, _, _ => exact yc2 w
 | 3, _, _ => exact yc3 w
 | 4, _, _ => exact yc4 w
 | 5, _, _ => exact yc5 w
 | 6, _, _ => exact yc6 w
 | 7, _, _ => exact yc7 w
 | 8, _, _ => exact yc8 w
 | 9, _, _ => exact yc9 w
 | _ + 10, _, h => exact absurd h (by omega)
theorem ye1 (s : Nat) (w : World) (h1 : 2 ≤ s) (h2 : s ≤ 9) : Calls Tryz.prog 227 #[.int .i64 s, .int .i64 8] w fun r w' => Ans w r w' (Pure.fsmAt s 8).1 ((Pure.fsmAt s 8).2 : Nat) := by
 match s, h1, h2 with
 | 0, h, _ => exact absurd h (by omega)
 | 1, h, _ => exact absurd h (by omega)
 | 2, _, _ => exact yca w
 | 3, _, _ => exact ycb w
 | 4, _, _ => exact ycc w
 | 5, _, _ => exact ycd w
 | 6, _, _ => exact yce w
 | 7, _, _ => exact ycf w
 | 8, _, _ => exact ycg w
 | 9, _, _ => exact ych w
 | _ + 10, _, h => exact absurd h (by omega)
theorem ye2 (s : Nat) (w : World) (h1 : 2 ≤ s) (h2 : s ≤ 9) : Calls Tryz.prog 227 #[.int .i64 s, .int .i64 9] w fun r w' => Ans w r w' (Pure.fsmAt s 9).1 ((Pure.fsmAt s 9).2 : Nat) := by
 match s, h1, h2 with
 | 0, h, _ => exact absurd h (by omega)
 | 1, h, _ => exact absurd h (by omega)
 | 2, _, _ => exact yci w
 | 3, _, _ => exact ycj w
 | 4, _, _ => exact yck w
 | 5, _, _ => exact ycl w
 | 6, _, _ => exact ycm w
 | 7, _, _ => exact ycn w
 | 8, _, _ => exact yco w
 | 9, _, _ => exact ycp w
 | _ + 10, _, h => exact absurd h (by omega)
end Go.Proofs.YtmgicbckgpdkcaaGreatDoor
