/- The document's CopyOptions: options in new memory. -/
import Derived.Test.YtmgicbckgpdkcaaGreatDoorK22
namespace Go.Proofs.YtmgicbckgpdkcaaGreatDoor
set_option maxRecDepth 100000
set_option maxHeartbeats 8000000
open _root_.Go.Lib renaming hid → xhd
open List renaming setIfInBounds_toArray → xqA, getElem_toArray → xqB, getElem_cons_succ → xqC, getElem_cons_zero → xqD, set_cons_succ → xqE, set_cons_zero → xqF
open Go.RowKit
theorem y1t (F : Nat → Prop) (x : Value) (ps : List (Value × Pure.Opt)) (w : World) (hF : ∀ b, F b → b < w.heap.size) (hx : ORow w F x ps) (hl : ps.length ≤ 100000) (hd : ∀ p ∈ ps, p.2.2.length ≤ 100000) :
  Calls Tryz.prog 106 #[x] w fun e w' => ∃ u, ∃ qs : List (Value × Pure.Opt), e = .returned u ∧ y02 qs = y02 ps ∧ Read w w' u qs := by
 obtain ⟨X, cx, rfl, _⟩ := hx.form
 have HX := xhd hx
 have HF := xhd hF
 have HDL := xhd hd
 clear hx hF hd
 obtain ⟨i0, hi0, hz0, hz1, hz2⟩ := info_parts y2h
 have HI := xhd (And.intro hi0 (And.intro hz0 (And.intro hz1 hz2)))
 clear hi0 hz0 hz1 hz2
 go_enter Tryz.func106, Tryz.ntmps106
 go_wp2_with fail
 go_loopw [3, 4] (fun v i wr => ∃ k : Nat, k ≤ ps.length ∧ i = .int .i64 (k : Int) ∧ ∃ qs : List (Value × Pure.Opt), y02 qs = (y02 ps).take k ∧ Read w wr v qs) (fun _ i _ => ps.length - (intOf i).toNat)
 case atStart => exact ⟨0, by omega, rfl, [], rfl, ⟨World.ownsRow_nil _ _ _ _, by simp, Below.refl _ _⟩⟩
 case round =>
  obtain ⟨k, hk, rfl, qs, hqs, hrd⟩ := hrel
  have hql : qs.length = k := by
   have := congrArg List.length hqs
   simp at this
   omega
  obtain ⟨A2, c2, rfl⟩ := y07 hrd.own
  subst hql
  have HQS := xhd hqs
  have HRD := xhd hrd
  clear hqs hrd
  by_cases hkl : qs.length < ps.length
  ·have i0' : (0 : Int) ≤ (qs.length : Int) := by omega
   have i1 : (qs.length : Int) < (ps.length : Int) := by omega
   have d1 : decide ((qs.length : Int) < (ps.length : Int)) = true := decide_eq_true (by omega)
   have d2 : decide (qs.length < ps.length) = true := decide_eq_true hkl
   obtain ⟨bx, ox, A1, c1, t, D, rfl, hFb, x0, x1, hra, hpa⟩ := (HX.out.keeps (Keeps.new HRD.out.below) (fun _ _ h => h)).pick qs.length hkl
   have hDl : D.length ≤ 100000 := HDL.out _ (List.mem_of_getElem? hpa)
   have HTK := xhd (show (y02 ps).take (qs.length + 1) = (y02 ps).take qs.length ++ [(t, D)] from y32 _ qs.length _ (by rw [List.getElem?_map, hpa]; rfl))
   have HRA := xhd hra
   have HP := xhd (And.intro x0 x1)
   clear hra hpa
   go_wp2_with fail
   refine y0d (fun w' => w'.cell? ⟨bx, ox + qs.length * 2, none⟩ = some (.int .i64 t) ∧ w'.cell? ⟨bx, ox + qs.length * 2 + 1, none⟩ = some (.slice A1 D.length c1)) 15 16 rfl (by kernel_rfl) HP.out (fun hHeld => ?_)
   refine y00 (i := 0) rfl (by kernel_rfl) (fun _ _ _ h => h) (Or.inl ⟨by rfl, by intro w hSw; obtain ⟨s0, s1⟩ := hSw; go_simp; try with_reducible rfl⟩) hHeld.out ?_
   simp only [Act.put, xqA, xqB, xqD, xqE, xqF]
   refine y00 (i := 1) rfl (by kernel_rfl) (fun _ _ _ h => h) (Or.inl ⟨by rfl, by intro w hSw; obtain ⟨s0, s1⟩ := hSw; go_simp; try with_reducible rfl⟩) hHeld.out ?_
   simp only [Act.put, xqA, xqB, xqC, xqD, xqE, xqF]
   refine y00 (i := 2) rfl (by kernel_rfl) (fun _ _ _ h => h) (Or.inl ⟨by rfl, by intro w hSw; obtain ⟨s0, s1⟩ := hSw; go_simp; try with_reducible rfl⟩) hHeld.out ?_
   simp only [Act.put, xqA, xqB, xqC, xqD, xqE, xqF]
   refine y00 (i := 3) rfl (by kernel_rfl) (fun _ _ _ h => h) (Or.inl ⟨by rfl, by intro w hSw; obtain ⟨s0, s1⟩ := hSw; go_simp; try with_reducible rfl⟩) hHeld.out ?_
   simp only [Act.put, xqA, xqB, xqC, xqD, xqE, xqF]
   refine y00 (i := 4) rfl (by kernel_rfl) (fun _ _ _ h => h) (Or.inl ⟨by rfl, by intro w hSw; obtain ⟨s0, s1⟩ := hSw; go_simp; try with_reducible rfl⟩) hHeld.out ?_
   simp only [Act.put, xqA, xqB, xqC, xqD, xqE, xqF]
   refine y00 (i := 5) rfl (by kernel_rfl) (fun _ _ _ h => h) (Or.inl ⟨by rfl, by intro w hSw; obtain ⟨s0, s1⟩ := hSw; go_simp; try with_reducible rfl⟩) hHeld.out ?_
   simp only [Act.put, xqA, xqB, xqC, xqD, xqE, xqF]
   refine y00 (i := 6) rfl (by kernel_rfl) (fun _ _ _ h => h) (Or.inl ⟨by rfl, by intro w hSw; obtain ⟨s0, s1⟩ := hSw; go_simp; try with_reducible rfl⟩) hHeld.out ?_
   simp only [Act.put, xqA, xqB, xqC, xqD, xqE, xqF]
   refine y00 (i := 7) rfl (by kernel_rfl) (fun _ _ _ h => h) (Or.inl ⟨by rfl, by intro w hSw; obtain ⟨s0, s1⟩ := hSw; go_simp; try with_reducible rfl⟩) hHeld.out ?_
   simp only [Act.put, xqA, xqB, xqC, xqD, xqE, xqF]
   refine y00 (i := 8) rfl (by kernel_rfl) (fun _ _ _ h => h) (Or.inl ⟨by rfl, by intro w hSw; obtain ⟨s0, s1⟩ := hSw; go_simp; try with_reducible rfl⟩) hHeld.out ?_
   simp only [Act.put, xqA, xqB, xqC, xqD, xqE, xqF]
   refine y00 (i := 9) rfl (by kernel_rfl) (fun _ _ _ h => h) (Or.inl ⟨by rfl, by intro w hSw; obtain ⟨s0, s1⟩ := hSw; go_simp; try with_reducible rfl⟩) hHeld.out ?_
   simp only [Act.put, xqA, xqB, xqC, xqD, xqE, xqF]
   refine y00 (i := 10) rfl (by kernel_rfl) (fun _ _ _ h => h) (Or.inl ⟨by rfl, by intro w hSw; obtain ⟨s0, s1⟩ := hSw; go_simp; try with_reducible rfl⟩) hHeld.out ?_
   simp only [Act.put, xqA, xqB, xqC, xqD, xqE, xqF]
   refine y05 (i := 11) (by kernel_rfl) rfl (fun K hK => ?_)
   go_simp
   have hsz := HRD.out.below.size
   refine (copy_any F (.slice A1 D.length c1) D wr.drew (HRA.out.keeps (Keeps.refl y01 _).drew (fun _ _ h => h)) (fun b hb => Nat.lt_of_lt_of_le (HF.out b hb) hsz) (by omega)).mono ?_
   rintro e w2 ⟨u, rfl, hu, hb2⟩
   have hk2 : Keeps y01 wr w2 := Keeps.new ⟨hb2.os, hb2.tape, hb2.output, hb2.size, hb2.block⟩
   have hu : w2.ownsRow wr.heap.size 5 1 u D.length (u8s D) := hu
   have c0 := And.intro (y08 HP.out.1 hk2) (y08 HP.out.2 hk2)
   refine hK.out _ _ (fun _ => c0) ?_
   clear hK K hHeld x0 x1
   obtain ⟨A3, c3, rfl⟩ := y07 hu
   have HU := xhd hu
   have HK2 := xhd hk2
   clear hu hb2 hk2
   try simp only [Act.put, xqA, Nat.reduceAdd, xqB, xqC, xqD, xqE, xqF]
   refine y00 (i := 12) rfl (by kernel_rfl) (fun _ _ _ h => h) (Or.inl ⟨by rfl, by intro w hSw; obtain ⟨s0, s1⟩ := hSw; go_simp; try with_reducible rfl⟩) c0 ?_
   simp only [Act.put, xqA, xqB, xqC, xqD, xqE, xqF]
   refine y05 (i := 13) (by kernel_rfl) rfl (fun K hK => ?_)
   go_simp
   refine hK.out _ _ (fun _ => ⟨y1o c0.1, y1o c0.2⟩) ?_
   clear hK K
   obtain ⟨wb, hwb⟩ : ∃ wb, wb = w2.alloc (.cells (y0b [(.slice A3 D.length c3, (t, D))]).toArray 31) := ⟨_, rfl⟩
   have hwb' : w2.alloc (.cells #[.int .i64 t, .slice A3 D.length c3] 31) = wb := hwb.symm
   rw [hwb']
   have hkb : Keeps y01 w2 wb := by rw [hwb]; exact (Keeps.refl _ w2).alloc _
   have hbb : Blk wb w2.heap.size 31 (y0b [(.slice A3 D.length c3, (t, D))]).toArray := by rw [hwb]; exact Blk.new w2 _ _
   have hrb : Row wb (fun b => b = w2.heap.size) 2 (.slice (some ⟨w2.heap.size, 0, none⟩) 1 1) 1 (y0b [(.slice A3 D.length c3, (t, D))]) := by
    have h := Row.block (F := fun b => b = w2.heap.size) (n := 1) (c := 1) (size := 2) hbb rfl rfl (by unfold maxLen; omega) (Nat.le_refl _)
    exact h
   have cb := And.intro (y08 c0.1 hkb) (y08 c0.2 hkb)
   have hkr : Keeps y01 wr wb := HK2.out.trans hkb
   have HKr := xhd hkr
   have hownb : wb.ownsRow w.heap.size 31 2 (.slice A2 qs.length c2) qs.length (y0b qs) := y0f HRD.out.own hkr (fun _ _ h => h)
   have hub : wb.ownsRow wr.heap.size 5 1 (.slice A3 D.length c3) D.length (u8s D) := y0f HU.out hkb (fun _ _ h => h)
   have hBb : Below w.heap.size w wb := Below.quiet HRD.out.below hkr HRD.out.below.size
   have hone : ∀ p ∈ ([(.slice A3 D.length c3, (t, D))] : List (Value × Pure.Opt)), p.1.oneCell' = true := by
    intro p hp
    simp at hp
    subst hp
    rfl
   clear hwb hwb'
   refine y05 (i := 14) (by kernel_rfl) rfl (fun K hK => ?_)
   rw [if_pos (by rfl)]
   refine y1b (.tmp 11) (.tmp 24) _ rfl w.heap.size 31 i0 _ 2 32 Tryz.underlying27 HI.out.1 HI.out.2.1 HI.out.2.2.1 HI.out.2.2.2 rfl (by omega) (.slice A2 qs.length c2) _ (y0b qs) rfl hownb _ _ 1 (y0b [(.slice A3 D.length c3, (t, D))]) rfl hrb (y1w _ hone) (by unfold maxLen; omega) (by omega) hBb.size ?_
   intro v3 w3 hown3 hg3 hat3
   have hcat : y0b qs ++ y0b [(.slice A3 D.length c3, (t, D))] = y0b (qs ++ [(.slice A3 D.length c3, (t, D))]) := by simp [y0b]
   rw [hcat] at hown3
   have hkw : Keeps (fun b => (Value.slice A2 qs.length c2).ownBlock = some b) wb w3 := (Keeps.refl _ wb).grown hg3 (fun k hk _ => hk)
   have hbx : bx < w.heap.size := HF.out bx hFb
   have hc3 : w3.cell? ⟨bx, ox + qs.length * 2, none⟩ = some (.int .i64 t) ∧ w3.cell? ⟨bx, ox + qs.length * 2 + 1, none⟩ = some (.slice A1 D.length c1) :=
    ⟨(World.cell?_of_block (w := wb) (a := ⟨bx, ox + qs.length * 2, none⟩) (hkw.block bx (y0m cb.1) (fun e => by have := y0a hownb bx e; omega))).trans cb.1,
     (World.cell?_of_block (w := wb) (a := ⟨bx, ox + qs.length * 2 + 1, none⟩) (hkw.block bx (y0m cb.1) (fun e => by have := y0a hownb bx e; omega))).trans cb.2⟩
   have hwbs : wr.heap.size ≤ wb.heap.size := hkr.size
   have hread : Read w w3 v3 (qs ++ [(.slice A3 D.length c3, (t, D))]) := by
    refine ⟨by rw [List.length_append]; exact hown3, fun p hp => ?_, hBb.grown hg3 hBb.size (fun k hk => y0a hownb k hk)⟩
    rcases List.mem_append.1 hp with hp | hp
    ·have h1 := ((HRD.out.rows p hp).keeps HKr.out (fun _ _ h => h)).keeps hkw (fun b hb => hb.2.1)
     refine h1.mono (fun b hb => ⟨hb.1, ?_, by have := hkw.size; omega⟩)
     rcases hat3 with e | e
     ·rw [e]; exact hb.2.1
     ·rw [e]; intro h; injection h with h; omega
    ·simp at hp
     subst hp
     have h1 := (Row.of_own hub).keeps hkw (fun b hb hs => by
      have h2 := y0a hub b hb
      have h3 := y0k HRD.out.own b hs
      omega)
     refine h1.mono (fun b hb => ⟨by have := y0a hub b hb; have := HRD.out.below.size; omega, ?_, by have := y0k hub b hb; have := hkw.size; omega⟩)
     have h2 := y0a hub b hb
     rcases hat3 with e | e
     ·rw [e]; intro h; have := y0k HRD.out.own b h; omega
     ·rw [e]; intro h; injection h with h; have := y0k hub b hb; omega
   have HRead := xhd hread
   have HC3 := xhd hc3
   obtain ⟨A4, c4, rfl⟩ := y07 hown3
   clear hown3 hg3 hat3 hcat hkw hread hc3 hrb hbb hub hownb hBb hone hkb hkr cb c0 hwbs
   refine hK.out _ _ (fun _ => HC3.out) ?_
   clear hK K
   try simp only [Nat.reduceAdd]
   refine y05 (i := 15) (by kernel_rfl) rfl (fun K hK => ?_)
   go_simp
   refine hK.out _ _ (fun h => absurd rfl h) ?_
   clear hK K
   refine y0c (by kernel_rfl) ?_ _
   go_wp2_with fail
   go_roundw
   case rel => exact ⟨qs.length + 1, by omega, by go_num, _, by rw [HTK.out, ← HQS.out]; simp [y02], HRead.out⟩
   case measure => simp [intOf] <;> omega
  ·have hkk : qs.length = ps.length := by omega
   have d1 : decide ((qs.length : Int) < (ps.length : Int)) = false := decide_eq_false (by omega)
   have d2 : decide (qs.length < ps.length) = false := decide_eq_false (by omega)
   have HE := xhd (show y02 qs = y02 ps by rw [HQS.out]; exact List.take_of_length_le (by simp; omega))
   go_wp2
   go_ret
   exact ⟨_, qs, rfl, HE.out, HRD.out⟩
theorem y1d : (Tryz.prog.info? 31).map (·.size) = some 2 := by kernel_rfl
def y1n (w : World) (e : Ending) (w' : World) : Option Pure.Opt → Prop
 | none => e = .returned (.tuple #[.agg #[.int .i64 0, .slice none 0 0], .bool false]) ∧ Keeps y01 w w'
 | some o => ∃ A c, e = .returned (.tuple #[.agg #[.int .i64 o.1, .slice A o.2.length c], .bool true]) ∧ Row w' (fun b => w.heap.size ≤ b) 1 (.slice A o.2.length c) o.2.length (u8s o.2) ∧ Keeps y01 w w'
theorem y4t (F G : Nat → Prop) (v x : Value) (r : Pure.Rule) (l : List UInt8) (w : World) (hr : Row w F 1 x l.length (u8s l)) (hv : Row w G 1 v r.want.length (u8s r.want)) (hG : ∀ b, G b → b < w.heap.size) (hw : r.want.length ≤ 1000) (h3 : r.how = 3) :
  Calls Tryz.prog 105 #[y16 (v, r), x] w fun e w' => y1n w e w' (r.offers l) := by
 obtain ⟨A, c, rfl, _⟩ := hr.form
 obtain ⟨A2, cc2, rfl, _⟩ := hv.form
 have HI := xhd y1d
 have ho : r.offers l = some (r.type, r.want) := by
  unfold Pure.Rule.offers
  rw [if_neg (by rw [h3]; simp), if_pos h3]
 rw [ho]
 have HV := xhd hv
 have HGl := xhd hG
 have HH3 := xhd h3
 clear ho hr hv hG h3
 obtain ⟨g, hg⟩ : ∃ g, g = w.heap.size := ⟨_, rfl⟩
 go_enter Tryz.func105, Tryz.ntmps105
 go_upto_region 1 with fail
 generalize hw1 : (w.alloc _).alloc _ = w1
 rw [← hg]
 have HK := xhd (show Keeps y01 w w1 by rw [← hw1]; exact ((Keeps.refl y01 w).alloc _).alloc _)
 have HB := xhd (show Blk w1 (g + 1) 31 #[.int .i64 0, .slice none 0 0] by
  rw [← hw1, show g + 1 = (w.alloc (.cells (y04 (.slice A2 r.want.length cc2, r)).toArray 148)).heap.size by rw [hg]; simp]
  exact Blk.new _ _ _)
 have HC := xhd (fun j u (h : (y04 (.slice A2 r.want.length cc2, r))[j]? = some u) => show w1.cell? ⟨g, j, none⟩ = some u by
  have hb : Blk w1 g 148 (y04 (.slice A2 r.want.length cc2, r)).toArray := by rw [← hw1, hg]; exact (Blk.new w _ _).alloc _
  rw [hb.cell, List.getElem?_toArray]; exact h)
 have HG := xhd hg
 have z0 := HC.out 0 _ rfl
 have z1 := HC.out 1 _ rfl
 have z2 := HC.out 2 _ rfl
 have z3 := HC.out 3 _ rfl
 have z4 := HC.out 4 _ rfl
 have z5 := HC.out 5 _ rfl
 clear hw1 hg
 rw [HH3.out] at z2
 go_wp2_with fail
 clear z0 z1 z2 z3 z4 z5
 refine y0d (fun w' => ∀ j u, (y04 (.slice A2 r.want.length cc2, r))[j]? = some u → w'.cell? ⟨g, j, none⟩ = some u) 7 8 rfl (by kernel_rfl) (fun j u h => HC.out j u h) (fun hHeld => ?_)
 have HSW := hHeld
 clear hHeld
 refine y00 (i := 0) rfl (by kernel_rfl) (fun _ _ _ h => h) (Or.inl ⟨by rfl, by intro w hSw; have c0 := hSw 0 _ rfl; have c1 := hSw 1 _ rfl; have c2 := hSw 2 _ rfl; have c3 := hSw 3 _ rfl; have c4 := hSw 4 _ rfl; have c5 := hSw 5 _ rfl; have c6 := hSw 6 _ rfl; go_simp; try with_reducible rfl⟩) HSW.out ?_
 simp only [Act.put, xqA, xqB, xqD, xqE, xqF]
 refine y00 (i := 1) rfl (by kernel_rfl) (fun _ _ _ h => h) (Or.inl ⟨by rfl, by intro w hSw; have c0 := hSw 0 _ rfl; have c1 := hSw 1 _ rfl; have c2 := hSw 2 _ rfl; have c3 := hSw 3 _ rfl; have c4 := hSw 4 _ rfl; have c5 := hSw 5 _ rfl; have c6 := hSw 6 _ rfl; go_simp; try with_reducible rfl⟩) HSW.out ?_
 simp only [Act.put, xqA, xqB, xqC, xqD, xqE, xqF]
 refine y00 (i := 2) rfl (by kernel_rfl) (fun _ _ _ h => h) (Or.inl ⟨by rfl, by intro w hSw; have c0 := hSw 0 _ rfl; have c1 := hSw 1 _ rfl; have c2 := hSw 2 _ rfl; have c3 := hSw 3 _ rfl; have c4 := hSw 4 _ rfl; have c5 := hSw 5 _ rfl; have c6 := hSw 6 _ rfl; go_simp; try with_reducible rfl⟩) HSW.out ?_
 simp only [Act.put, xqA, xqB, xqC, xqD, xqE, xqF]
 refine y00 (i := 3) rfl (by kernel_rfl) (fun _ _ _ h => h) (Or.inl ⟨by rfl, by intro w hSw; have c0 := hSw 0 _ rfl; have c1 := hSw 1 _ rfl; have c2 := hSw 2 _ rfl; have c3 := hSw 3 _ rfl; have c4 := hSw 4 _ rfl; have c5 := hSw 5 _ rfl; have c6 := hSw 6 _ rfl; go_simp; try with_reducible rfl⟩) HSW.out ?_
 simp only [Act.put, xqA, xqB, xqC, xqD, xqE, xqF]
 refine y05 (i := 4) (by kernel_rfl) rfl (fun K hK => ?_)
 go_simp
 refine (copy_any G (.slice A2 r.want.length cc2) r.want w1.drew ((HV.out.keeps HK.out (fun _ _ h => h)).keeps (Keeps.refl y01 _).drew (fun _ _ h => h)) (fun b hb => Nat.lt_of_lt_of_le (HGl.out b hb) HK.out.size) (by omega)).mono ?_
 rintro e w3 ⟨u, rfl, hu, hb3⟩
 have hk3 : Keeps y01 w1 w3 := Keeps.new ⟨hb3.os, hb3.tape, hb3.output, hb3.size, hb3.block⟩
 have HSW1 := xhd (fun j u (h : (y04 (.slice A2 r.want.length cc2, r))[j]? = some u) => y08 (HC.out j u h) hk3)
 refine hK.out _ _ (fun _ => HSW1.out) ?_
 clear hK K HSW
 have HSW := HSW1
 clear HSW1
 obtain ⟨A3, c3, rfl⟩ := y07 hu
 have HU3 := xhd (Row.of_own hu)
 have HGE := xhd (fun b hb => y0a hu b hb)
 have HB3 := xhd (HB.out.keeps hk3 (fun x => x))
 have HBL := xhd HB.out.lt
 have HK3 := xhd (HK.out.trans hk3)
 clear hu hb3 hk3
 try simp only [Act.put, xqA, Nat.reduceAdd, xqB, xqC, xqD, xqE, xqF]
 refine y00 (i := 5) rfl (by kernel_rfl) (fun _ _ _ h => h) (Or.inl ⟨by rfl, by intro w hSw; have c0 := hSw 0 _ rfl; have c1 := hSw 1 _ rfl; have c2 := hSw 2 _ rfl; have c3 := hSw 3 _ rfl; have c4 := hSw 4 _ rfl; have c5 := hSw 5 _ rfl; have c6 := hSw 6 _ rfl; go_simp; try with_reducible rfl⟩) HSW.out ?_
 simp only [Act.put, xqA, xqB, xqC, xqD, xqE, xqF]
 refine y05 (i := 6) (by kernel_rfl) rfl (fun K hK => ?_)
 rw [if_pos (by rfl)]
 refine wp_store_row 31 (.tmp 4) (.tmp 59) rfl (g + 1) _ rfl rfl 31 _ HB3.out (by rw [HI.out]; rfl) rfl (by simp [Value.oneCell']) ?_
 obtain ⟨w4, hw4⟩ : ∃ w4, w4 = w3.setRow (g + 1) #[.int .i64 r.type, .slice A3 r.want.length c3] := ⟨_, rfl⟩
 have hb4 : Blk w4 (g + 1) 31 #[.int .i64 r.type, .slice A3 r.want.length c3] := by rw [hw4]; exact Blk.rowSet HB3.out _
 have hkg : Keeps (only (g + 1)) w3 w4 := by rw [hw4]; exact (Keeps.refl (only (g + 1)) w3).rowSet (fun _ => rfl) _
 have hk4 : Keeps y01 w w4 := by rw [hw4]; exact HK3.out.rowSet (fun h => by have := HG.out; omega) _
 have hu4 : Row w4 (fun b => w.heap.size ≤ b) 1 (.slice A3 r.want.length c3) r.want.length (u8s r.want) := (HU3.out.keeps hkg (fun b hb hs => by have h1 := HGE.out b hb; have h2 : b = g + 1 := hs; have h3 := HBL.out; change w1.heap.size ≤ b at h1; omega)).mono (G := fun b => w.heap.size ≤ b) (fun b hb => Nat.le_trans HK.out.size (HGE.out b hb))
 have HU4 := xhd hu4
 have HB4 := xhd hb4
 have HK4 := xhd hk4
 have HS4 := xhd (fun j u (h : (y04 (.slice A2 r.want.length cc2, r))[j]? = some u) => (World.cell?_of_block (w := w3) (a := ⟨g, j, none⟩) (hkg.block g (y0m (HSW.out j u h)) (fun h => by have h : g = g + 1 := h; omega))).trans (HSW.out j u h))
 refine hK.out _ _ (fun _ => ?_) ?_
 ·rw [← hw4]; exact HS4.out
 rw [← hw4]
 simp only [Act.put]
 clear hK K hw4 hb4 hkg hk4 hu4
 refine y05 (i := 7) (by kernel_rfl) rfl (fun K hK => ?_)
 go_simp
 refine hK.out _ _ (fun _ => HS4.out) ?_
 clear hK K
 refine y0c (by kernel_rfl) ?_ _
 go_wp2_with fail
 refine bodyPost_ret (y0o rfl _ _ (g + 1) 31 _ (0, 0) _ rfl HB4.out Tryz.underlying31 rfl (by rw [HI.out]; rfl)) rfl ?_
 exact ⟨A3, c3, rfl, HU4.out, HK4.out⟩
end Go.Proofs.YtmgicbckgpdkcaaGreatDoor
