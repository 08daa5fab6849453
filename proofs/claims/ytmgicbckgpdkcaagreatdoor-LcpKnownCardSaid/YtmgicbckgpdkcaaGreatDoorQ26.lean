/- Rows of rules that a call makes: package nego's copiesOfRules; the statements' Rules and rules. -/
import Derived.Test.YtmgicbckgpdkcaaGreatDoorQ25
import Derived.Test.YtmgicbckgpdkcaaGreatDoorQ3
import Derived.Test.YtmgicbckgpdkcaaGreatDoorQ2
import Derived.Test.YtmgicbckgpdkcaaGreatDoorQ11
import Derived.OwnWalk
import Derived.Test.YtmgicbckgpdkcaaGreatDoorQ15
import Derived.Test.YtmgicbckgpdkcaaGreatDoorQ5
import Derived.Test.YtmgicbckgpdkcaaGreatDoorQ13
import Derived.Lib.IfaceEq
namespace Go.Proofs.YtmgicbckgpdkcaaGreatDoor
set_option maxRecDepth 100000
set_option maxHeartbeats 4000000
open Lib renaming hid → xhd
open Go.RowKit
theorem nrule_all : (Tryz.prog.info? 122).map (fun i => (i.zero, i.size, i.bytes)) = some (some (.agg #[.int .i64 0, .int .i64 0, .int .i64 0, .int .i64 0, .int .i64 0, .slice none 0 0, .bool false]), 7, 72) := by kernel_rfl
theorem rulesCells_one (ps : List (Value × Pure.Rule)) (h : ∀ p ∈ ps, p.1.oneCell' = true) : ∀ u ∈ rulesCells ps, u.oneCell' = true := by
 intro u hu
 obtain ⟨p, hp, hu⟩ := List.mem_flatMap.1 hu
 simp at hu
 rcases hu with rfl | rfl | rfl | rfl | rfl | rfl | rfl
 ·rfl
 ·rfl
 ·rfl
 ·rfl
 ·rfl
 ·exact h p hp
 ·rfl
section
variable {w : World} {o : Oper} {a : Act} {Q : Exit → Act → World → Prop}
theorem wp_append_rule {ops : Array Oper} {rest : List Oper} (hgd : o.guard = none) (s x : Operand) (ho : o.op = .call { callee := .builtin .append, args := #[s, x], argTypes := #[118, 118] })
  (base : Nat) (v : Value) (qs : List (Value × Pure.Rule)) (D : Value) (r : Pure.Rule) (hone : D.oneCell' = true) (hs : a.eval s = v) (hx : a.eval x = .slice (some ⟨w.heap.size, 0, none⟩) 1 1) (hR : w.ownsRow base 122 7 v qs.length (rulesCells qs)) (hq : qs.length ≤ 1000000) (hb : base ≤ w.heap.size)
  (h : ∀ A c w', w'.ownsRow base 122 7 (.slice A (qs.length + 1) c) (qs.length + 1) (rulesCells (qs ++ [(D, r)])) → Keeps (fun b => v.ownBlock = some b) w w' → (∀ b, (Value.slice A (qs.length + 1) c).ownBlock = some b → v.ownBlock = some b ∨ w.heap.size ≤ b) → wpList Tryz.prog ops Q rest (a.put o.dst (.slice A (qs.length + 1) c)) w') :
  wpList Tryz.prog ops Q (o :: rest) a (w.alloc (.cells #[.int .i64 r.type, .int .i64 r.len, .int .i64 r.how, .int .i64 r.lo, .int .i64 r.hi, D, .bool r.need] 122)) := by
 obtain ⟨i0, hi0, hz0, hz1, hz2⟩ := info_parts nrule_all
 obtain ⟨wb, hwb⟩ : ∃ wb, wb = w.alloc (.cells (rulesCells [(D, r)]).toArray 122) := ⟨_, rfl⟩
 have hwb' : w.alloc (.cells #[.int .i64 r.type, .int .i64 r.len, .int .i64 r.how, .int .i64 r.lo, .int .i64 r.hi, D, .bool r.need] 122) = wb := hwb.symm
 rw [hwb']
 have hkb : Keeps nobody w wb := by rw [hwb]; exact (Keeps.refl _ w).alloc _
 have hbb : Blk wb w.heap.size 122 (rulesCells [(D, r)]).toArray := by rw [hwb]; exact Blk.new w _ _
 have hrb : Row wb (fun b => b = w.heap.size) 7 (.slice (some ⟨w.heap.size, 0, none⟩) 1 1) 1 (rulesCells [(D, r)]) := by
  have h := Row.block (F := fun b => b = w.heap.size) (n := 1) (c := 1) (size := 7) hbb rfl rfl (by unfold maxLen; omega) (Nat.le_refl _)
  exact h
 have hownb : wb.ownsRow base 122 7 v qs.length (rulesCells qs) := ownsRow_keeps hR hkb (fun _ _ h => h)
 have hone' : ∀ q ∈ ([(D, r)] : List (Value × Pure.Rule)), q.1.oneCell' = true := by
  intro q hq
  simp at hq
  subst hq
  exact hone
 refine wpList_append_row hgd s x _ ho base 122 i0 _ 7 72 Tryz.underlying118 hi0 hz0 hz1 hz2 rfl (by omega) v _ (rulesCells qs) hs hownb _ _ 1 (rulesCells [(D, r)]) hx hrb (rulesCells_one _ hone') (by unfold maxLen; omega) (by omega) (Nat.le_trans hb hkb.size) ?_
 intro v3 w3 hown3 hg3 hat3
 have hcat : rulesCells qs ++ rulesCells [(D, r)] = rulesCells (qs ++ [(D, r)]) := by simp [rulesCells]
 rw [hcat] at hown3
 have hkw : Keeps (fun b => v.ownBlock = some b) wb w3 := (Keeps.refl _ wb).grown hg3 (fun k hk _ => hk)
 have hwbs : w.heap.size < wb.heap.size := by rw [hwb]; simp
 obtain ⟨A4, c4, rfl⟩ := own_form hown3
 refine h A4 c4 w3 hown3 ((hkb.mono (fun _ h => h.elim)).trans hkw) (fun b hb => ?_)
 rcases hat3 with e | e
 ·exact .inl (e ▸ hb)
 ·rw [e] at hb; injection hb with hb; exact .inr (by omega)
end
structure RRead (w0 w : World) (F : Nat → Prop) (v : Value) (us : List (Value × Pure.Rule)) : Prop where
 own : w.ownsRow w0.heap.size 122 7 v us.length (rulesCells us)
 rows : ∀ p ∈ us, Row w (fun b => F b ∧ v.ownBlock ≠ some b ∧ b < w.heap.size) 1 p.1 p.2.want.length (u8s p.2.want)
 kept : Keeps nobody w0 w
theorem RRead.keeps {w0 w w' : World} {F : Nat → Prop} {v : Value} {us : List (Value × Pure.Rule)} (h : RRead w0 w F v us) (k : Keeps nobody w w') : RRead w0 w' F v us :=
 ⟨ownsRow_keeps h.own k (fun _ _ h => h), fun p hp => ((h.rows p hp).keeps k (fun _ _ h => h)).mono (fun _ hb => ⟨hb.1, hb.2.1, Nat.lt_of_lt_of_le hb.2.2 k.size⟩), h.kept.trans k⟩
theorem RRead.row {w0 w : World} {F : Nat → Prop} {v : Value} {us : List (Value × Pure.Rule)} (h : RRead w0 w F v us) : RRow w (fun b => (F b ∨ w0.heap.size ≤ b) ∧ b < w.heap.size) v us :=
 ⟨(Row.of_own h.own).mono (fun b hb => ⟨.inr (ownsRow_ge h.own b hb), ownsRow_lt h.own b hb⟩), fun p hp => (h.rows p hp).mono (fun _ hb => ⟨.inl hb.1, hb.2.2⟩)⟩
theorem RRead.more {w0 w w' : World} {F : Nat → Prop} {v v' D : Value} {us : List (Value × Pure.Rule)} {r : Pure.Rule} (h : RRead w0 w F v us) (hd : Row w (fun b => F b ∧ v.ownBlock ≠ some b ∧ b < w.heap.size) 1 D r.want.length (u8s r.want))
  (ho : w'.ownsRow w0.heap.size 122 7 v' (us.length + 1) (rulesCells (us ++ [(D, r)]))) (k : Keeps (fun b => v.ownBlock = some b) w w') (hb : ∀ b, v'.ownBlock = some b → v.ownBlock = some b ∨ w.heap.size ≤ b) : RRead w0 w' F v' (us ++ [(D, r)]) := by
 refine ⟨by rw [List.length_append]; exact ho, fun p hp => ?_, h.kept.trans' k (fun i hi hl => by have := ownsRow_ge h.own i hi; omega)⟩
 have hrow : Row w (fun b => F b ∧ v.ownBlock ≠ some b ∧ b < w.heap.size) 1 p.1 p.2.want.length (u8s p.2.want) := by
  rcases List.mem_append.1 hp with hp | hp
  ·exact h.rows p hp
  ·simp at hp
   subst hp
   exact hd
 refine (hrow.keeps k (fun b hb => hb.2.1)).mono (fun b hx => ⟨hx.1, fun e => ?_, Nat.lt_of_lt_of_le hx.2.2 k.size⟩)
 rcases hb b e with e | e
 ·exact hx.2.1 e
 ·omega
theorem made_rules (w : World) (n : Nat) (hn : n ≤ 1000000) (F : Nat → Prop) : ∃ cs, (Instr.makeSlice 118 (.int .i64 0) (.int .i64 (n : Int))).run Tryz.prog w = .ok (.slice (some ⟨w.heap.size, 0, none⟩) 0 n) (w.alloc (.cells cs 122)) ∧
  RRead w (w.alloc (.cells cs 122)) F (.slice (some ⟨w.heap.size, 0, none⟩) 0 n) [] := by
 obtain ⟨i0, hi0, hz0, hz1, hz2⟩ := info_parts nrule_all
 have hrun := run_make (P := Tryz.prog) w 118 122 i0 _ Tryz.underlying118 hi0 hz0 .i64 .i64 0 n (by omega) (by omega) (by rw [hz2]; omega) (by omega)
 rw [hz1, Int.toNat_natCast, show Int.toNat 0 = 0 from rfl] at hrun
 refine ⟨_, hrun, ⟨⟨by simp, .inr ⟨w.heap.size, n, _, rfl, Nat.le_refl _, Blk.new w _ _, by simp, by unfold maxLen; omega, by simp [madeCells], by simp⟩⟩, by simp, (Keeps.refl _ w).alloc _⟩⟩
theorem copiesOfRules_any (F : Nat → Prop) (x : Value) (us : List (Value × Pure.Rule)) (w : World) (hx : RRow w F x us) (hfu : FewRules us) :
  Calls Tryz.prog 116 #[x] w fun e w' => ∃ u, ∃ qs : List (Value × Pure.Rule), e = .returned u ∧ rulesOf qs = rulesOf us ∧ RRead w w' (fun b => w.heap.size ≤ b) u qs := by
 obtain ⟨X, cx, rfl, _⟩ := hx.form
 have hm := hx.out.2.1
 unfold maxLen at hm
 have HX := xhd hx
 have HFU := xhd hfu
 have hul := hfu.len
 clear hx hfu
 obtain ⟨cs, hrun, hrd0⟩ := made_rules w us.length (by omega) (fun b => w.heap.size ≤ b)
 obtain ⟨w1, hw1⟩ : ∃ w1, w1 = w.alloc (.cells cs 122) := ⟨_, rfl⟩
 rw [← hw1] at hrun hrd0
 have HRD0 := xhd hrd0
 clear hrd0 hw1
 go_enter Tryz.func116, Tryz.ntmps116
 go_wp2_with fail
 go_loopw [3, 11] (fun v i wr => ∃ k : Nat, k ≤ us.length ∧ i = .int .i64 (k : Int) ∧ ∃ qs : List (Value × Pure.Rule), rulesOf qs = (rulesOf us).take k ∧ qs.length = k ∧ RRead w wr (fun b => w.heap.size ≤ b) v qs) (fun _ i _ => us.length - (intOf i).toNat)
 case atStart => exact ⟨0, by omega, rfl, [], rfl, rfl, HRD0.out⟩
 case round =>
  clear hrun HRD0
  obtain ⟨k, hk, rfl, qs, hqs, rfl, hrd⟩ := hrel
  obtain ⟨A2, c2, rfl⟩ := own_form hrd.own
  have HQS := xhd hqs
  have HRD := xhd hrd
  clear hqs hrd
  by_cases hkl : qs.length < us.length
  ·have i0' : (0 : Int) ≤ (qs.length : Int) := by omega
   have i1 : (qs.length : Int) < (us.length : Int) := by omega
   have d1 : decide ((qs.length : Int) < (us.length : Int)) = true := decide_eq_true (by omega)
   have d2 : decide (qs.length < us.length) = true := decide_eq_true hkl
   obtain ⟨bx, ox, pA, pc, pr, rfl, hFb, hcell, hwant, hpa⟩ := (HX.out.keeps HRD.out.kept (fun _ _ h => h)).pick qs.length hkl
   have hwl : pr.want.length ≤ 100000 := (HFU.out.ok _ (List.mem_of_getElem? hpa)).2
   have HTK := xhd (show (rulesOf us).take (qs.length + 1) = (rulesOf us).take qs.length ++ [pr] from Pure.take_snoc _ qs.length _ (by rw [List.getElem?_map, hpa]; rfl))
   have HRW := xhd hwant
   have x0 : wr.cell? ⟨bx, ox + qs.length * 7, none⟩ = some (.int .i64 pr.type) := hcell 0 _ rfl
   have x1 := hcell 1 _ rfl
   have x2 := hcell 2 _ rfl
   have x3 := hcell 3 _ rfl
   have x4 := hcell 4 _ rfl
   have x5 := hcell 5 _ rfl
   have x6 := hcell 6 _ rfl
   clear hcell hwant hpa
   go_upto_region 5 with fail
   obtain ⟨w3, hw3⟩ : ∃ w3, w3 = wr.alloc (.cells (ruleCells (.slice pA pr.want.length pc, pr)).toArray 122) := ⟨_, rfl⟩
   obtain ⟨gr, hgr⟩ : ∃ gr, gr = wr.heap.size := ⟨_, rfl⟩
   rw [show wr.alloc (.cells #[.int .i64 pr.type, .int .i64 pr.len, .int .i64 pr.how, .int .i64 pr.lo, .int .i64 pr.hi, .slice pA pr.want.length pc, .bool pr.need] 122) = w3 from hw3.symm, ← hgr]
   have hk3 : Keeps nobody wr w3 := by rw [hw3]; exact (Keeps.refl _ wr).alloc _
   have hb3 : Blk w3 gr 122 (ruleCells (.slice pA pr.want.length pc, pr)).toArray := by rw [hw3, hgr]; exact Blk.new wr _ _
   have hsz3 : w3.heap.size = gr + 1 := by rw [hw3, hgr]; simp
   have y5 : w3.cell? ⟨gr, 5, none⟩ = some (.slice pA pr.want.length pc) := by rw [hb3.cell]; rfl
   have HBC := xhd (bclone_any F (.slice pA pr.want.length pc) _ pr.want w3 (HRW.out.keeps hk3 (fun _ _ h => h)) (by omega))
   have HB3 := xhd hb3
   have HK3 := xhd hk3
   have HGR := xhd hgr
   have HS3 := xhd hsz3
   clear hw3 hgr hk3 hb3 x0 x1 x2 x3 x4 x5 x6 hsz3
   go_wp2_with fail
   refine HBC.out.mono ?_
   rintro e w4 ⟨u4, rfl, hu4, hbl4⟩
   obtain ⟨A4, c4, rfl⟩ := own_form hu4
   have hk4 : Keeps nobody w3 w4 := Keeps.new hbl4
   have hb4 := HB3.out.keeps hk4 (fun h => h)
   have z5 : w4.cell? ⟨gr, 5, none⟩ = some (.slice pA pr.want.length pc) := by rw [hb4.cell]; rfl
   have f5 := hb4.frozen 5
   have hrow4 := (Row.of_own hu4).mono (G := fun b => w3.heap.size ≤ b) (fun b hb => ownsRow_ge hu4 b hb)
   have HB5 := xhd (show Blk (w4.setCell ⟨gr, 5, none⟩ (.slice A4 pr.want.length c4)) gr 122 (ruleCells (.slice A4 pr.want.length c4, pr)).toArray from hb4.set 5 _)
   have KR := (Keeps.refl (only gr) w4).put 5 (.slice A4 pr.want.length c4)
   have HROW5 := xhd (hrow4.keeps KR (fun b hb e => by have e : b = gr := e; have := HS3.out; omega))
   have HK5 := xhd (show Keeps nobody wr (w4.setCell ⟨gr, 5, none⟩ (.slice A4 pr.want.length c4)) from (HK3.out.trans hk4).trans' KR (fun i hi hl => by have e : i = gr := hi; have := HGR.out; omega))
   clear hu4 hbl4 hk4 hb4 hrow4 KR HBC y5
   go_upto_region 6 with fail
   generalize hw5 : w4.setCell ⟨gr, 5, none⟩ (.slice A4 pr.want.length c4) = w5 at HB5 HROW5 HK5 ⊢
   have b0 : w5.cell? ⟨gr, 0, none⟩ = some (.int .i64 pr.type) := by rw [HB5.out.cell]; rfl
   have b1 : w5.cell? ⟨gr, 1, none⟩ = some (.int .i64 pr.len) := by rw [HB5.out.cell]; rfl
   have b2 : w5.cell? ⟨gr, 2, none⟩ = some (.int .i64 pr.how) := by rw [HB5.out.cell]; rfl
   have b3 : w5.cell? ⟨gr, 3, none⟩ = some (.int .i64 pr.lo) := by rw [HB5.out.cell]; rfl
   have b4 : w5.cell? ⟨gr, 4, none⟩ = some (.int .i64 pr.hi) := by rw [HB5.out.cell]; rfl
   have b5 : w5.cell? ⟨gr, 5, none⟩ = some (.slice A4 pr.want.length c4) := by rw [HB5.out.cell]; rfl
   have b6 : w5.cell? ⟨gr, 6, none⟩ = some (.bool pr.need) := by rw [HB5.out.cell]; rfl
   have HR5 := xhd (HRD.out.keeps HK5.out)
   have HD5 := xhd ((HROW5.out.strongN (by omega)).mono (G := fun b => w.heap.size ≤ b ∧ (Value.slice A2 qs.length c2).ownBlock ≠ some b ∧ b < w5.heap.size) (fun b hb => by
    have h1 := HRD.out.kept.size
    have h2 := HS3.out
    have h3 := HGR.out
    exact ⟨by have := hb.1; omega, fun e => by have := ownsRow_lt HRD.out.own b e; have := hb.1; omega, hb.2⟩))
   clear hw5 z5 f5
   go_wp2_with (at_builtin; refine stopHere ?_)
   unfold Hid
   refine wp_append_rule rfl (.tmp 19) (.tmp 21) rfl w.heap.size (.slice A2 qs.length c2) qs (.slice A4 pr.want.length c4) pr rfl rfl rfl HR5.out.own (by omega) HR5.out.kept.size ?_
   intro A6 c6 w6 hown6 hk6 hob6
   have HR6 := xhd (HR5.out.more HD5.out hown6 hk6 hob6)
   clear hown6 hk6 hob6 b0 b1 b2 b3 b4 b5 b6
   go_wp2_with fail
   go_roundw
   case rel => exact ⟨qs.length + 1, by omega, by go_num, qs ++ [(.slice A4 pr.want.length c4, pr)], by rw [HTK.out, ← HQS.out]; simp [rulesOf], by simp, HR6.out⟩
   case measure => simp [intOf] <;> omega
  ·have hkk : qs.length = us.length := by omega
   have d1 : decide ((qs.length : Int) < (us.length : Int)) = false := decide_eq_false (by omega)
   have d2 : decide (qs.length < us.length) = false := decide_eq_false (by omega)
   have HE := xhd (show rulesOf qs = rulesOf us by rw [HQS.out]; exact List.take_of_length_le (by simp; omega))
   go_wp2
   go_ret
   exact ⟨_, qs, rfl, HE.out, HRD.out⟩
namespace Pure
theorem actP_none (s : Neg × Said) : ∀ a, negActP none s a = negAct none s a
 | 0 => rfl | 1 => rfl | 2 => rfl | 3 => rfl | 4 => rfl | 5 => rfl | 6 => rfl | 7 => rfl | 8 => rfl | 9 => rfl | 10 => rfl | 11 => rfl
 | _ + 12 => rfl
theorem actsP_none (n : Neg) (l : List Nat) : n.actsP l none = n.acts l none := by
 unfold Neg.actsP Neg.acts
 have h : negActP none = negAct none := funext fun s => funext fun a => actP_none s a
 rw [h]
theorem fsm_few : ∀ s < 10, ∀ e < 16, (fsmAt s e).1.length ≤ 10 := by decide +kernel
theorem fsm_plain : ∀ s < 10, ∀ e < 6, ∀ a ∈ (fsmAt s e).1, a ≠ 7 ∧ a ≠ 8 ∧ a ≠ 11 := by decide +kernel
theorem act2_fst (m : Mach) (e : Int) : (m.act2 e).1 = if does e then (fsmAt m.state e.toNat).1 else [] := by
 unfold Mach.act2
 split <;> rfl
theorem act2_few {m : Mach} (h : m.Good) (e : Int) : (m.act2 e).1.length ≤ 100 := by
 rw [act2_fst]
 split
 ·rename_i hd
  unfold does at hd
  have := fsm_few m.state (by have := h.state; omega) e.toNat (by omega)
  omega
 ·simp
theorem act2_plain {m : Mach} (h : m.Good) {e : Int} (he : e < 6) : ∀ a ∈ (m.act2 e).1, a ≠ 7 ∧ a ≠ 8 ∧ a ≠ 11 := by
 rw [act2_fst]
 split
 ·rename_i hd
  unfold does at hd
  exact fsm_plain m.state (by have := h.state; omega) e.toNat (by omega)
 ·simp
end Pure
theorem NObj.machine {w w' : World} {g : Nat} {R : Nat → Prop} {f : NF} {n : Pure.Neg} (h : NObj w g R f n) {m' : Pure.Mach} (k : Keeps (only f.gm) w w') (hm : PMach w' f.gm m') (hg : m'.Good) (ht : m'.tries = n.m.tries) (hu : m'.timeout = n.m.timeout) :
  NObj w' g R f { n with m := m' } := by
 obtain ⟨us, r1, r2, r3⟩ := h.rules
 have hs : ∀ b, R b → ¬ only f.gm b := fun b hb e => h.nm (by have e : b = f.gm := e; exact e ▸ hb)
 have hw : ({ n with m := m' } : Pure.Neg).Well := ⟨hg, by show m'.tries ≤ 1000; rw [ht]; exact h.well.tries, by show m'.timeout ≤ 1000; rw [hu]; exact h.well.timeout, h.well.id, h.well.first, h.well.request, h.well.asked, h.well.ours⟩
 exact ⟨h.blk.keeps k (fun e => h.ne e), hm, hw, by rw [h.e1]; exact ht.symm, h.e2, h.e3, h.e4, h.e5, h.e6, ⟨us, r1.keeps k hs, r2, r3⟩, h.first.keeps k hs, h.request.keeps k hs, h.aopts.keeps k hs, h.mine.keeps k hs, h.given.keeps k hs, fun b hb => Nat.lt_of_lt_of_le (h.lt b hb) k.size, h.ng, h.nm, h.ne⟩
theorem Becomes.trans {w0 w1 w2 : World} {g : Nat} {R R1 : Nat → Prop} {f f1 : NF} {n : Pure.Neg} (hgm : f1.gm = f.gm) (hs : ∀ b, R1 b → R b ∨ w0.heap.size ≤ b) (k : Keeps (fun b => b = g ∨ b = f.gm) w0 w1) (h : Becomes w1 w2 g R1 f1 n) : Becomes w0 w2 g R f n := by
 obtain ⟨f2, R2, h1, h2, h3, h4⟩ := h
 refine ⟨f2, R2, h1, by rw [h2, hgm], fun b hb => ?_, k.trans (h4.mono (fun b e => by rw [hgm] at e; exact e))⟩
 rcases h3 b hb with h | h
 ·exact hs b h
 ·exact .inr (Nat.le_trans k.size h)
theorem Outs.since {w0 w1 w2 : World} {v : Value} {o : Pure.Said} (hk : w0.heap.size ≤ w1.heap.size) (h : Outs w1 w2 v o) : Outs w0 w2 v o := by
 obtain ⟨sv, ps, h1, h2, h3, h4⟩ := h
 exact ⟨sv, ps, h1, h2.mono (fun b hb => ⟨Nat.le_trans hk hb.1, hb.2⟩), h3, h4⟩
theorem Outs.far {w0 w w' : World} {r : Nat} {v : Value} {o : Pure.Said} (h : Outs w0 w v o) (k : Keeps (only r) w w') (hr : r < w0.heap.size) : Outs w0 w' v o := by
 obtain ⟨sv, ps, h1, h2, h3, h4⟩ := h
 refine ⟨sv, ps, h1, (h2.keeps k (fun b hb e => by have e : b = r := e; have := hb.1; omega)).mono (fun b hb => ⟨hb.1, Nat.lt_of_lt_of_le hb.2 k.size⟩), h3, h4⟩
theorem Becomes.close {w0 W w' w'' : World} {g ro : Nat} {R R1 : Nat → Prop} {f f1 : NF} {n : Pure.Neg} (hB : Becomes W w' g R1 f1 n) (hgm : f1.gm = f.gm) (hs : ∀ b, R1 b → R b ∨ w0.heap.size ≤ b) (k0 : Keeps (fun b => b = g ∨ b = f.gm) w0 W) (k : Keeps (only ro) w' w'') (h0 : w0.heap.size ≤ ro) (hW : ro < W.heap.size)
  (hg : g ≠ ro) (hm : f.gm ≠ ro) (hR : ¬ R1 ro) : Becomes w0 w'' g R f n := by
 obtain ⟨f', R', h1, h2, h3, h4⟩ := hB
 refine ⟨f', R', h1.keeps k (fun e => hg e) (fun e => hm (by have e : f'.gm = ro := e; rw [h2, hgm] at e; exact e)) (fun b hb e => ?_), by rw [h2, hgm], fun b hb => ?_, ?_⟩
 ·have e : b = ro := e
  subst e
  rcases h3 _ hb with h | h
  ·exact hR h
  ·omega
 ·rcases h3 b hb with h | h
  ·exact hs b h
  ·exact .inr (Nat.le_trans k0.size h)
 ·exact (k0.trans (h4.mono (fun b e => by rw [hgm] at e; exact e))).trans' k (fun i hi hl => by have e : i = ro := hi; omega)
theorem perform_none (g _ : Nat) (R1 : Nat → Prop) (f1 : NF) (n1 : Pure.Neg) (m' : Pure.Mach) (l : List Nat) (W W0 : World) (h1 : NObj W g R1 f1 { n1 with m := m' }) (hp : ∀ a ∈ l, a ≠ 7 ∧ a ≠ 8 ∧ a ≠ 11) (hf : l.length ≤ 100) (hk1 : n1.naks ≤ 1000) (hW0 : g < W0.heap.size) (A : Option Addr) (c : Nat) (hl : Row W (fun b => W0.heap.size ≤ b) 1 (.slice A l.length c) l.length (ints l)) :
  Calls Tryz.prog 125 #[.pointer (some ⟨g, 0, none⟩), .slice A l.length c, .agg #[.int .i64 0, .int .i64 0, .slice none 0 0, .int .i64 0, .slice none 0 0]] W fun e' w' => ∃ v, e' = .returned v ∧ Outs W w' v (({ n1 with m := m' } : Pure.Neg).acts l none).2 ∧ Becomes W w' g R1 f1 (({ n1 with m := m' } : Pure.Neg).acts l none).1 := by
 have hp := perform_all g R1 (fun b => W0.heap.size ≤ b) nobody f1 { n1 with m := m' } _ (.slice none 0 0) (.slice none 0 0) l ⟨0, 0, []⟩ 0 [] none W h1 hl (fun b hb => by omega) (Row.nil _ _ _) (ORow.nil _ _) ⟨by simp, by simp⟩ (fun b hb => hb.elim)
  (.inl ⟨rfl, by decide, hp⟩) hf hk1
 rw [Pure.actsP_none] at hp
 exact hp
namespace Pure
def Neg.heedsBy (n : Neg) (p : Pkt) (j : Nat × List Opt) : Nat × Neg × Reply :=
 if p.code = 1 then (if j.1 = 2 then 6 else 7, n, ⟨p, j.1, j.2⟩)
 else if p.code = 2 then (8, { n with waits := false, acked := (split n.ours).2 }, ⟨p, 0, []⟩)
 else if p.code = 3 then (9, { n with waits := false, request := naked n.rules n.request (split p.data).2 }, ⟨p, 0, []⟩)
 else if p.code = 4 then (9, { n with waits := false, request := left n.rules n.request (split p.data).2 }, ⟨p, 0, []⟩)
 else if p.code = 5 then (10, n, ⟨p, 0, []⟩)
 else if p.code = 6 then (11, n, ⟨p, 0, []⟩)
 else if p.code = 7 then (if 1 ≤ (p.data.headD 0).toNat ∧ (p.data.headD 0).toNat ≤ 7 then 14 else 13, n, ⟨p, 0, []⟩)
 else (12, n, ⟨p, 0, []⟩)
def Neg.heeds (n : Neg) (p : Pkt) : Nat × Neg × Reply := n.heedsBy p (judge n.rules (split p.data).2 (decide (n.m.tries ≤ n.naks)))
end Pure
namespace Pure
end Pure
namespace Pure
end Pure
theorem ErrIs.far {w w' : World} {v : Value} {k p : Nat} (h : ErrIs w v k) (hk : Keeps (only p) w w') (hz : ∀ n : Int, n ≠ 0 → w.cell? ⟨p, 1, none⟩ ≠ some (.int .i64 n)) : ErrIs w' v k := by
 rcases h with h | ⟨h1, b, h2, h3⟩
 ·exact .inl h
 ·have hb : b ≠ p := fun e => hz k (by omega) (e ▸ h3)
  exact .inr ⟨h1, b, h2, (World.cell?_of_block (w := w) (a := ⟨b, 1, none⟩) (hk.block b (cell_lt h3) (fun e => hb e))).trans h3⟩
open Go.RowKit Go.Extern.Stop Go.Stop Go.Extern
namespace Pure
end Pure
end Go.Proofs.YtmgicbckgpdkcaaGreatDoor
