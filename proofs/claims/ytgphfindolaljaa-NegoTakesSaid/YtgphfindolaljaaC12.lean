/- The document's CopyOptions: options in new memory. -/
import Derived.Laws.BitsAllLaws
import Derived.Test.YtgphfindolaljaaC11
namespace Go.Proofs.Ytgphfindolaljaa
set_option maxRecDepth 100000
set_option maxHeartbeats 8000000
open _root_.Go.Lib renaming hid → xhd
open List renaming setIfInBounds_toArray → xqA, getElem_toArray → xqB, getElem_cons_succ → xqC, getElem_cons_zero → xqD, set_cons_succ → xqE, set_cons_zero → xqF
open Go.RowKit
theorem y0w (F : Nat → Prop) (x : Value) (ps : List (Value × Pure.Opt)) (w : World) (hF : ∀ b, F b → b < w.heap.size) (hx : ORow w F x ps) (hl : ps.length ≤ 100000) (hd : ∀ p ∈ ps, p.2.2.length ≤ 100000) :
  Calls Try.prog 28 #[x] w fun e w' => ∃ u, ∃ qs : List (Value × Pure.Opt), e = .returned u ∧ y01 qs = y01 ps ∧ Read w w' u qs := by
 obtain ⟨X, cx, rfl, _⟩ := hx.form
 have HX := xhd hx
 have HF := xhd hF
 have HDL := xhd hd
 clear hx hF hd
 obtain ⟨i0, hi0, hz0, hz1, hz2⟩ := info_parts y1m
 have HI := xhd (And.intro hi0 (And.intro hz0 (And.intro hz1 hz2)))
 clear hi0 hz0 hz1 hz2
 go_enter Try.func28, Try.ntmps28
 go_wp2_with fail
 go_loopw [3, 4] (fun v i wr => ∃ k : Nat, k ≤ ps.length ∧ i = .int .i64 (k : Int) ∧ ∃ qs : List (Value × Pure.Opt), y01 qs = (y01 ps).take k ∧ Read w wr v qs) (fun _ i _ => ps.length - (intOf i).toNat)
 case atStart => exact ⟨0, by omega, rfl, [], rfl, ⟨World.ownsRow_nil _ _ _ _, by simp, Below.refl _ _⟩⟩
 case round =>
  obtain ⟨k, hk, rfl, qs, hqs, hrd⟩ := hrel
  have hql : qs.length = k := by
   have := congrArg List.length hqs
   simp at this
   omega
  obtain ⟨A2, c2, rfl⟩ := y0b hrd.own
  subst hql
  have HQS := xhd hqs
  have HRD := xhd hrd
  clear hqs hrd
  by_cases hkl : qs.length < ps.length
  ·have i0' : (0 : Int) ≤ (qs.length : Int) := by omega
   have i1 : (qs.length : Int) < (ps.length : Int) := by omega
   have d1 : decide ((qs.length : Int) < (ps.length : Int)) = true := decide_eq_true (by omega)
   have d2 : decide (qs.length < ps.length) = true := decide_eq_true hkl
   obtain ⟨bx, ox, A1, c1, t, D, rfl, hFb, x0, x1, hra, hpa⟩ := (HX.out.keeps (Keeps.new HRD.out.below) (fun _ _ h => h)).pick qs.length hkl
   have hDl : D.length ≤ 100000 := HDL.out _ (List.mem_of_getElem? hpa)
   have HTK := xhd (show (y01 ps).take (qs.length + 1) = (y01 ps).take qs.length ++ [(t, D)] from y21 _ qs.length _ (by rw [List.getElem?_map, hpa]; rfl))
   have HRA := xhd hra
   have HP := xhd (And.intro x0 x1)
   clear hra hpa
   go_wp2_with fail
   refine y0e (fun w' => w'.cell? ⟨bx, ox + qs.length * 2, none⟩ = some (.int .i64 t) ∧ w'.cell? ⟨bx, ox + qs.length * 2 + 1, none⟩ = some (.slice A1 D.length c1)) 15 16 rfl (by kernel_rfl) HP.out (fun hHeld => ?_)
   refine y00 (i := 0) rfl (by kernel_rfl) (fun _ _ _ h => h) (Or.inl ⟨by rfl, by intro w hSw; obtain ⟨s0, s1⟩ := hSw; go_simp; try with_reducible rfl⟩) hHeld.out ?_
   simp only [Act.put, xqA, xqB, xqD, xqE, xqF]
   refine y00 (i := 1) rfl (by kernel_rfl) (fun _ _ _ h => h) (Or.inl ⟨by rfl, by intro w hSw; obtain ⟨s0, s1⟩ := hSw; go_simp; try with_reducible rfl⟩) hHeld.out ?_
   simp only [Act.put, xqA, xqB, xqC, xqD, xqE, xqF]
   refine y00 (i := 2) rfl (by kernel_rfl) (fun _ _ _ h => h) (Or.inl ⟨by rfl, by intro w hSw; obtain ⟨s0, s1⟩ := hSw; go_simp; try with_reducible rfl⟩) hHeld.out ?_
   simp only [Act.put, xqA, xqB, xqC, xqD, xqE, xqF]
   refine y00 (i := 3) rfl (by kernel_rfl) (fun _ _ _ h => h) (Or.inl ⟨by rfl, by intro w hSw; obtain ⟨s0, s1⟩ := hSw; go_simp; try with_reducible rfl⟩) hHeld.out ?_
   simp only [Act.put, xqA, xqB, xqC, xqD, xqE, xqF]
   refine y00 (i := 4) rfl (by kernel_rfl) (fun _ _ _ h => h) (Or.inl ⟨by rfl, by intro w hSw; obtain ⟨s0, s1⟩ := hSw; go_simp; try with_reducible rfl⟩) hHeld.out ?_
   simp only [Act.put, xqA, xqB, xqC, xqD, xqE, xqF]
   refine y00 (i := 5) rfl (by kernel_rfl) (fun _ _ _ h => h) (Or.inl ⟨by rfl, by intro w hSw; obtain ⟨s0, s1⟩ := hSw; go_simp; try with_reducible rfl⟩) hHeld.out ?_
   simp only [Act.put, xqA, xqB, xqC, xqD, xqE, xqF]
   refine y00 (i := 6) rfl (by kernel_rfl) (fun _ _ _ h => h) (Or.inl ⟨by rfl, by intro w hSw; obtain ⟨s0, s1⟩ := hSw; go_simp; try with_reducible rfl⟩) hHeld.out ?_
   simp only [Act.put, xqA, xqB, xqC, xqD, xqE, xqF]
   refine y00 (i := 7) rfl (by kernel_rfl) (fun _ _ _ h => h) (Or.inl ⟨by rfl, by intro w hSw; obtain ⟨s0, s1⟩ := hSw; go_simp; try with_reducible rfl⟩) hHeld.out ?_
   simp only [Act.put, xqA, xqB, xqC, xqD, xqE, xqF]
   refine y00 (i := 8) rfl (by kernel_rfl) (fun _ _ _ h => h) (Or.inl ⟨by rfl, by intro w hSw; obtain ⟨s0, s1⟩ := hSw; go_simp; try with_reducible rfl⟩) hHeld.out ?_
   simp only [Act.put, xqA, xqB, xqC, xqD, xqE, xqF]
   refine y00 (i := 9) rfl (by kernel_rfl) (fun _ _ _ h => h) (Or.inl ⟨by rfl, by intro w hSw; obtain ⟨s0, s1⟩ := hSw; go_simp; try with_reducible rfl⟩) hHeld.out ?_
   simp only [Act.put, xqA, xqB, xqC, xqD, xqE, xqF]
   refine y00 (i := 10) rfl (by kernel_rfl) (fun _ _ _ h => h) (Or.inl ⟨by rfl, by intro w hSw; obtain ⟨s0, s1⟩ := hSw; go_simp; try with_reducible rfl⟩) hHeld.out ?_
   simp only [Act.put, xqA, xqB, xqC, xqD, xqE, xqF]
   refine y05 (i := 11) (by kernel_rfl) rfl (fun K hK => ?_)
   go_simp
   have hsz := HRD.out.below.size
   refine (y3q F (.slice A1 D.length c1) D wr.drew (HRA.out.keeps (Keeps.refl y02 _).drew (fun _ _ h => h)) (fun b hb => Nat.lt_of_lt_of_le (HF.out b hb) hsz) (by omega)).mono ?_
   rintro e w2 ⟨u, rfl, hu, hb2⟩
   have hk2 : Keeps y02 wr w2 := Keeps.new ⟨hb2.os, hb2.tape, hb2.output, hb2.size, hb2.block⟩
   have hu : w2.ownsRow wr.heap.size 5 1 u D.length (u8s D) := hu
   have c0 := And.intro (y08 HP.out.1 hk2) (y08 HP.out.2 hk2)
   refine hK.out _ _ (fun _ => c0) ?_
   clear hK K hHeld x0 x1
   obtain ⟨A3, c3, rfl⟩ := y0b hu
   have HU := xhd hu
   have HK2 := xhd hk2
   clear hu hb2 hk2
   try simp only [Act.put, xqA, Nat.reduceAdd, xqB, xqC, xqD, xqE, xqF]
   refine y00 (i := 12) rfl (by kernel_rfl) (fun _ _ _ h => h) (Or.inl ⟨by rfl, by intro w hSw; obtain ⟨s0, s1⟩ := hSw; go_simp; try with_reducible rfl⟩) c0 ?_
   simp only [Act.put, xqA, xqB, xqC, xqD, xqE, xqF]
   refine y05 (i := 13) (by kernel_rfl) rfl (fun K hK => ?_)
   go_simp
   refine hK.out _ _ (fun _ => ⟨y0y c0.1, y0y c0.2⟩) ?_
   clear hK K
   obtain ⟨wb, hwb⟩ : ∃ wb, wb = w2.alloc (.cells (y09 [(.slice A3 D.length c3, (t, D))]).toArray 40) := ⟨_, rfl⟩
   have hwb' : w2.alloc (.cells #[.int .i64 t, .slice A3 D.length c3] 40) = wb := hwb.symm
   rw [hwb']
   have hkb : Keeps y02 w2 wb := by rw [hwb]; exact (Keeps.refl _ w2).alloc _
   have hbb : Blk wb w2.heap.size 40 (y09 [(.slice A3 D.length c3, (t, D))]).toArray := by rw [hwb]; exact Blk.new w2 _ _
   have hrb : Row wb (fun b => b = w2.heap.size) 2 (.slice (some ⟨w2.heap.size, 0, none⟩) 1 1) 1 (y09 [(.slice A3 D.length c3, (t, D))]) := by
    have h := Row.block (F := fun b => b = w2.heap.size) (n := 1) (c := 1) (size := 2) hbb rfl rfl (by unfold maxLen; omega) (Nat.le_refl _)
    exact h
   have cb := And.intro (y08 c0.1 hkb) (y08 c0.2 hkb)
   have hkr : Keeps y02 wr wb := HK2.out.trans hkb
   have HKr := xhd hkr
   have hownb : wb.ownsRow w.heap.size 40 2 (.slice A2 qs.length c2) qs.length (y09 qs) := y0f HRD.out.own hkr (fun _ _ h => h)
   have hub : wb.ownsRow wr.heap.size 5 1 (.slice A3 D.length c3) D.length (u8s D) := y0f HU.out hkb (fun _ _ h => h)
   have hBb : Below w.heap.size w wb := Below.quiet HRD.out.below hkr HRD.out.below.size
   have hone : ∀ p ∈ ([(.slice A3 D.length c3, (t, D))] : List (Value × Pure.Opt)), p.1.oneCell' = true := by
    intro p hp
    simp at hp
    subst hp
    rfl
   clear hwb hwb'
   refine y05 (i := 14) (by kernel_rfl) rfl (fun K hK => ?_)
   rw [if_pos (by rfl)]
   refine y1c (.tmp 11) (.tmp 24) _ rfl w.heap.size 40 i0 _ 2 32 Try.underlying23 HI.out.1 HI.out.2.1 HI.out.2.2.1 HI.out.2.2.2 rfl (by omega) (.slice A2 qs.length c2) _ (y09 qs) rfl hownb _ _ 1 (y09 [(.slice A3 D.length c3, (t, D))]) rfl hrb (y11 _ hone) (by unfold maxLen; omega) (by omega) hBb.size ?_
   intro v3 w3 hown3 hg3 hat3
   have hcat : y09 qs ++ y09 [(.slice A3 D.length c3, (t, D))] = y09 (qs ++ [(.slice A3 D.length c3, (t, D))]) := by simp [y09]
   rw [hcat] at hown3
   have hkw : Keeps (fun b => (Value.slice A2 qs.length c2).ownBlock = some b) wb w3 := (Keeps.refl _ wb).grown hg3 (fun k hk _ => hk)
   have hbx : bx < w.heap.size := HF.out bx hFb
   have hc3 : w3.cell? ⟨bx, ox + qs.length * 2, none⟩ = some (.int .i64 t) ∧ w3.cell? ⟨bx, ox + qs.length * 2 + 1, none⟩ = some (.slice A1 D.length c1) :=
    ⟨(World.cell?_of_block (w := wb) (a := ⟨bx, ox + qs.length * 2, none⟩) (hkw.block bx (y0n cb.1) (fun e => by have := y0c hownb bx e; omega))).trans cb.1,
     (World.cell?_of_block (w := wb) (a := ⟨bx, ox + qs.length * 2 + 1, none⟩) (hkw.block bx (y0n cb.1) (fun e => by have := y0c hownb bx e; omega))).trans cb.2⟩
   have hwbs : wr.heap.size ≤ wb.heap.size := hkr.size
   have hread : Read w w3 v3 (qs ++ [(.slice A3 D.length c3, (t, D))]) := by
    refine ⟨by rw [List.length_append]; exact hown3, fun p hp => ?_, hBb.grown hg3 hBb.size (fun k hk => y0c hownb k hk)⟩
    rcases List.mem_append.1 hp with hp | hp
    ·have h1 := ((HRD.out.rows p hp).keeps HKr.out (fun _ _ h => h)).keeps hkw (fun b hb => hb.2.1)
     refine h1.mono (fun b hb => ⟨hb.1, ?_, by have := hkw.size; omega⟩)
     rcases hat3 with e | e
     ·rw [e]; exact hb.2.1
     ·rw [e]; intro h; injection h with h; omega
    ·simp at hp
     subst hp
     have h1 := (Row.of_own hub).keeps hkw (fun b hb hs => by
      have h2 := y0c hub b hb
      have h3 := y0i HRD.out.own b hs
      omega)
     refine h1.mono (fun b hb => ⟨by have := y0c hub b hb; have := HRD.out.below.size; omega, ?_, by have := y0i hub b hb; have := hkw.size; omega⟩)
     have h2 := y0c hub b hb
     rcases hat3 with e | e
     ·rw [e]; intro h; have := y0i HRD.out.own b h; omega
     ·rw [e]; intro h; injection h with h; have := y0i hub b hb; omega
   have HRead := xhd hread
   have HC3 := xhd hc3
   obtain ⟨A4, c4, rfl⟩ := y0b hown3
   clear hown3 hg3 hat3 hcat hkw hread hc3 hrb hbb hub hownb hBb hone hkb hkr cb c0 hwbs
   refine hK.out _ _ (fun _ => HC3.out) ?_
   clear hK K
   try simp only [Nat.reduceAdd]
   refine y05 (i := 15) (by kernel_rfl) rfl (fun K hK => ?_)
   go_simp
   refine hK.out _ _ (fun h => absurd rfl h) ?_
   clear hK K
   refine y0d (by kernel_rfl) ?_ _
   go_wp2_with fail
   go_roundw
   case rel => exact ⟨qs.length + 1, by omega, by go_num, _, by rw [HTK.out, ← HQS.out]; simp [y01], HRead.out⟩
   case measure => simp [intOf] <;> omega
  ·have hkk : qs.length = ps.length := by omega
   have d1 : decide ((qs.length : Int) < (ps.length : Int)) = false := decide_eq_false (by omega)
   have d2 : decide (qs.length < ps.length) = false := decide_eq_false (by omega)
   have HE := xhd (show y01 qs = y01 ps by rw [HQS.out]; exact List.take_of_length_le (by simp; omega))
   go_wp2
   go_ret
   exact ⟨_, qs, rfl, HE.out, HRD.out⟩
theorem y1a (F : Nat → Prop) (x : Value) (l : List UInt8) (w : World) (hr : Row w F 1 x l.length (u8s l)) (hl : l.length ≤ 4) :
  Calls Try.prog 36 #[x] w fun e w' => e = .returned (.int .i64 (Pure.bnum l : Nat)) ∧ w = w' := by
 obtain ⟨A, c, rfl, hc⟩ := hr.form
 have HR := xhd hr
 have HT := xhd (fun (k : Nat) (h : k ≤ l.length) => show Pure.bnum (l.take k) < 4294967296 from Pure.bnum_small (by rw [List.length_take]; omega))
 have HT3 := xhd (fun (k : Nat) (h : k < l.length) => show Pure.bnum (l.take k) < 16777216 from Nat.lt_of_lt_of_le (Pure.bnum_lt _) (show 256 ^ (l.take k).length ≤ 256 ^ 3 from Nat.pow_le_pow_right (by omega) (by rw [List.length_take]; omega)))
 clear hr
 go_enter Try.func36, Try.ntmps36
 go_wp2_with fail
 go_loopw [3, 4] (fun v i wr => ∃ k : Nat, k ≤ l.length ∧ i = .int .i64 (k : Int) ∧ v = .int .i64 (Pure.bnum (l.take k) : Nat) ∧ wr = w) (fun _ i _ => l.length - (intOf i).toNat)
 case atStart => exact ⟨0, by omega, rfl, rfl, rfl⟩
 case round =>
  obtain ⟨k, hk, rfl, rfl, rfl⟩ := hrel
  by_cases hkl : k < l.length
  ·have i0 : (0 : Int) ≤ (k : Int) := by omega
   have i1 : (k : Int) < (l.length : Int) := by omega
   obtain ⟨b, off, rfl, _, hcx⟩ := HR.out.cellAt (by omega)
   have b0 := hcx k _ (y2f l k hkl)
   have hx := (l.getD k 0).toNat_lt
   have hN := HT3.out k hkl
   have hsn : Pure.bnum (l.take (k + 1)) = Pure.bnum (l.take k) * 256 + (l.getD k 0).toNat := by
    rw [List.take_succ_eq_append_getElem hkl, Pure.bnum_snoc]
    simp [List.getD_eq_getElem?_getD, hkl]
   have hM := HT.out (k + 1) (by omega)
   obtain ⟨N, hN'⟩ : ∃ N, N = Pure.bnum (l.take k) := ⟨_, rfl⟩
   obtain ⟨M, hM'⟩ : ∃ N, N = Pure.bnum (l.take (k + 1)) := ⟨_, rfl⟩
   obtain ⟨X, hX⟩ : ∃ N, N = (l.getD k 0).toNat := ⟨_, rfl⟩
   rw [← hN', ← hM', ← hX] at hsn
   rw [← hN'] at hN ⊢
   rw [← hM'] at hM
   rw [← hX] at b0 hx
   have eor : bits .or .i64 ((N : Int) * 256) (X : Int) = (M : Int) := by
    have h := y45 (N * 256) X (by omega) (by omega)
    rw [show N * 256 ||| X = M by rw [hsn, show (256 : Nat) = 2 ^ 8 by rfl, ← Nat.shiftLeft_eq, Nat.shiftLeft_add_eq_or_of_lt (show X < 2 ^ 8 by omega)]] at h
    simpa using h
   have HM := xhd hM'
   clear hcx hN' hM' hX hsn hM
   go_wp2_with fail
   go_roundw
   case rel => exact ⟨k + 1, by omega, by go_num, by rw [← HM.out], trivial⟩
   case measure => simp [intOf]; omega
  ·have hkk : k = l.length := by omega
   have HE := xhd (show Pure.bnum (l.take k) = Pure.bnum l by rw [hkk, List.take_length])
   subst hkk
   clear hkl hk
   go_wp2
   go_ret
   exact ⟨by rw [← HE.out]; rfl, rfl⟩
theorem y0x (F : Nat → Prop) (v x : Value) (r : Pure.Rule) (l : List UInt8) (w : World) (hr : Row w F 1 x l.length (u8s l)) :
  Calls Try.prog 34 #[y0g (v, r), x] w fun e w' => e = .returned (.bool (decide (r.numbered l))) ∧ Keeps y02 w w' := by
 obtain ⟨A, c, rfl, _⟩ := hr.form
 have HK := xhd ((Keeps.refl y02 w).alloc (.cells (y04 (v, r)).toArray 53))
 have hb := Blk.new w 53 (y04 (v, r)).toArray
 have c1 : (w.alloc (.cells (y04 (v, r)).toArray 53)).cell? ⟨w.heap.size, 1, none⟩ = some (.int .i64 r.len) := by rw [hb.cell]; rfl
 clear hr hb
 by_cases h1 : 1 ≤ r.len
 ·have d1 : decide (1 ≤ r.len) = true := decide_eq_true h1
  by_cases h4 : r.len ≤ 4
  ·have d4 : decide (r.len ≤ 4) = true := decide_eq_true h4
   by_cases hl : (l.length : Int) = r.len
   ·have dl : ((l.length : Int) == r.len) = true := by rw [beq_iff_eq]; exact hl
    have HD := xhd (show decide (r.numbered l) = true from decide_eq_true ⟨h1, h4, hl⟩)
    clear h1 h4 hl
    go_enter Try.func34, Try.ntmps34
    go_wp2
    go_ret
    exact ⟨by rw [HD.out]; rfl, HK.out⟩
   ·have dl : ((l.length : Int) == r.len) = false := by rw [beq_eq_false_iff_ne]; exact hl
    have HD := xhd (show decide (r.numbered l) = false from decide_eq_false fun h => hl h.2.2)
    clear h1 h4 hl
    go_enter Try.func34, Try.ntmps34
    go_wp2
    go_ret
    exact ⟨by rw [HD.out]; rfl, HK.out⟩
  ·have d4 : decide (r.len ≤ 4) = false := decide_eq_false h4
   have HD := xhd (show decide (r.numbered l) = false from decide_eq_false fun h => h4 h.2.1)
   clear h1 h4
   go_enter Try.func34, Try.ntmps34
   go_wp2
   go_ret
   exact ⟨by rw [HD.out]; rfl, HK.out⟩
 ·have d1 : decide (1 ≤ r.len) = false := decide_eq_false h1
  have HD := xhd (show decide (r.numbered l) = false from decide_eq_false fun h => h1 h.1)
  clear h1
  go_enter Try.func34, Try.ntmps34
  go_wp2
  go_ret
  exact ⟨by rw [HD.out]; rfl, HK.out⟩
theorem y0z (x n : Nat) (w : World) (hn : n ≤ 4) (_ : x < 4294967296) :
  Calls Try.prog 35 #[.int .i64 x, .int .i64 n] w fun e w' => ∃ u, e = .returned u ∧ w'.ownsRow w.heap.size 5 1 u n (u8s (Pure.wide x n)) ∧ Below w.heap.size w w' := by
 have e0 : wrap64 ((n : Int) - 1) = (n : Int) - 1 := IntWalk.wrap64_in _ (by omega)
 go_enter Try.func35, Try.ntmps35
 go_wp2_with fail
 go_loopw [5, 6] (fun v i wr => ∃ k : Nat, k ≤ n ∧ i = .int .i64 ((n : Int) - 1 - (k : Int)) ∧ wr.ownsRow w.heap.size 5 1 v k (u8s ((Pure.wide x n).take k)) ∧ Below w.heap.size w wr) (fun _ i _ => (intOf i + 1).toNat)
 case atStart => exact ⟨0, by omega, by simp, World.ownsRow_nil _ _ _ _, Below.refl _ _⟩
 case round =>
  obtain ⟨k, hk, rfl, hW, hB⟩ := hrel
  have HW := xhd hW
  have HB := xhd hB
  obtain ⟨A5, c5, rfl⟩ := y0b hW
  clear hW hB e0
  by_cases hkl : k < n
  ·obtain ⟨j, hj⟩ : ∃ j, n - 1 - k = j := ⟨_, rfl⟩
   have hji : (n : Int) - 1 - (k : Int) = (j : Int) := by omega
   have hj3 : j ≤ 3 := by omega
   rw [hji]
   have d0 : decide ((0 : Int) ≤ (j : Int)) = true := decide_eq_true (by omega)
   have e1 : wrap64 (8 * (j : Int)) = ((8 * j : Nat) : Int) := by rw [IntWalk.wrap64_in _ (by omega)]; omega
   have htk : (Pure.wide x n).take (k + 1) = (Pure.wide x n).take k ++ [UInt8.ofNat (x / 256 ^ j % 256)] := by
    rw [List.take_add_one]
    congr 1
    unfold Pure.wide
    rw [List.getElem?_map, List.getElem?_range hkl]
    show [UInt8.ofNat (x / 256 ^ (n - 1 - k) % 256)] = _
    rw [hj]
   obtain ⟨B, hBe⟩ : ∃ B, B = UInt8.ofNat (x / 256 ^ j % 256) := ⟨_, rfl⟩
   rw [← hBe] at htk
   have hbv : ((x : Int) / 2 ^ (8 * j) % 256) = (B.toNat : Int) := by
    rw [hBe, show (UInt8.ofNat (x / 256 ^ j % 256)).toNat = x / 256 ^ j % 256 by simp, show (256 : Nat) ^ j = 2 ^ (8 * j) by rw [Nat.pow_mul]]
    simp
   have hlen : ((Pure.wide x n).take k).length = k := by rw [List.length_take, Pure.wide_length]; omega
   have HTK := xhd htk
   have HRow := xhd (y5d wr [B] #[.int .u8 B.toNat] 1 rfl rfl (by simp))
   have hsz := HB.out.size
   clear htk hBe
   go_wp2_with (at_builtin; refine y0j ?_)
   unfold Hid
   rw [hbv]
   refine y23 rfl (.tmp 13) (.tmp 20) rfl w.heap.size _ k ((Pure.wide x n).take k) hlen rfl (HW.out.alloc _) _ _ [B] rfl HRow.out (by simp; omega) (by simp; omega) ?_
   intro v3 w3 hown3 hg3 hat3
   rw [← HTK.out] at hown3
   have O3 := xhd (show w3.ownsRow w.heap.size 5 1 v3 (k + 1) (u8s ((Pure.wide x n).take (k + 1))) by
    have e : ((Pure.wide x n).take (k + 1)).length = k + 1 := by rw [List.length_take, Pure.wide_length]; omega
    rw [e] at hown3
    exact hown3)
   have B3 := xhd (Below.grown (HB.out.alloc hsz (.cells #[.int .u8 B.toNat] 5)) hg3 (by simp; omega) (fun q hq => (y0c HW.out q hq)))
   have hjk : wrap64 ((j : Int) - 1) = (n : Int) - 1 - ((k + 1 : Nat) : Int) := by rw [IntWalk.wrap64_in _ (by omega)]; omega
   clear hown3 hg3 hat3 HRow e1
   go_wp2_with fail
   go_roundw
   case rel => exact ⟨k + 1, by omega, congrArg (Value.int .i64) (by omega), O3.out, B3.out⟩
   case measure => simp [intOf] <;> omega
  ·have hkk : k = n := by omega
   subst hkk
   have hm1 : (k : Int) - 1 - (k : Int) = -1 := by omega
   rw [hm1]
   have e : (Pure.wide x k).take k = Pure.wide x k := by rw [List.take_of_length_le (by rw [Pure.wide_length]; omega)]
   have HW2 := xhd (show wr.ownsRow w.heap.size 5 1 (.slice A5 k c5) k (u8s (Pure.wide x k)) by have := HW.out; rw [e] at this; exact this)
   clear e hm1
   go_wp2
   go_ret
   exact ⟨_, rfl, HW2.out, HB.out⟩
theorem fits_two {r : Pure.Rule} {l : List UInt8} (h : r.how = 2) : r.fits l ↔ (r.numbered l ∧ r.lo ≤ Pure.bnum l ∧ Pure.bnum l ≤ r.hi) := by
 unfold Pure.Rule.fits
 rw [h]
 simp
theorem fits_four {r : Pure.Rule} {l : List UInt8} (h : r.how = 4) : r.fits l ↔ (r.numbered l ∧ Pure.bnum l &&& r.hi.toNat = Pure.bnum l) := by
 unfold Pure.Rule.fits
 rw [h]
 simp
theorem rule_info : (Try.prog.info? 53).map (·.size) = some 7 := by kernel_rfl
def noRule : Pure.Rule := ⟨0, 0, 0, 0, 0, [], false⟩
theorem y8e (rs : List Pure.Rule) (r : Pure.Rule) (t : Int) (h : Pure.ruleOf rs t = none) : Pure.ruleOf (rs ++ [r]) t = if r.type = t then some r else none := by
 unfold Pure.ruleOf at h ⊢
 rw [List.find?_append, h]
 by_cases ht : r.type = t
 ·simp [ht]
 ·simp [ht]
theorem y68 (rs more : List Pure.Rule) (r : Pure.Rule) (t : Int) (h : Pure.ruleOf rs t = some r) : Pure.ruleOf (rs ++ more) t = some r := by
 unfold Pure.ruleOf at h ⊢
 rw [List.find?_append, h]
 rfl
def Found (w : World) (e : Ending) (w' : World) (ps : List (Value × Pure.Rule)) (t : Int) : Prop :=
 ∃ (p : Value × Pure.Rule) (b : Bool), e = .returned (.tuple #[y0g p, .bool b]) ∧ Keeps y02 w w' ∧ ((b = true ∧ p ∈ ps ∧ Pure.ruleOf (ps.map Prod.snd) t = some p.2) ∨ (b = false ∧ p = (.slice none 0 0, noRule) ∧ Pure.ruleOf (ps.map Prod.snd) t = none))
theorem y1o (F : Nat → Prop) (x : Value) (ps : List (Value × Pure.Rule)) (t : Int) (w : World) (hx : RRow w F x ps) :
  Calls Try.prog 24 #[x, .int .i64 t] w fun e w' => Found w e w' ps t := by
 obtain ⟨A, c, rfl, _⟩ := hx.form
 have hm := hx.out.2.1
 unfold maxLen at hm
 have HX := xhd hx
 clear hx
 have HI := xhd rule_info
 obtain ⟨g, hg⟩ : ∃ g, g = w.heap.size := ⟨_, rfl⟩
 go_enter Try.func24, Try.ntmps24
 go_upto_region 1 with fail
 rw [← hg]
 generalize hw1 : w.alloc _ = w1
 have hB : Blk w1 g 53 #[.int .i64 0, .int .i64 0, .int .i64 0, .int .i64 0, .int .i64 0, .slice none 0 0, .bool false] := by rw [← hw1, hg]; exact Blk.new w _ _
 have HB := xhd hB
 have HK := xhd (show Keeps y02 w w1 by rw [← hw1]; exact (Keeps.refl _ w).alloc _)
 have HG := xhd hg
 have HX1 := xhd (HX.out.keeps HK.out (fun _ _ h => h))
 clear hw1 hg hB HX
 go_wp2_with fail
 go_loopw [6] (fun i wr => ∃ k : Nat, k ≤ ps.length ∧ i = .int .i64 (k : Int) ∧ Pure.ruleOf ((ps.map Prod.snd).take k) t = none ∧ wr = w1) (fun i _ => ps.length - (intOf i).toNat)
 case atStart => exact ⟨0, by omega, rfl, rfl, rfl⟩
 case round =>
  obtain ⟨k, hk, rfl, hH, rfl⟩ := hrel
  have HH := xhd hH
  clear hH
  have cz0 : wr.cell? ⟨g, 0, none⟩ = some (.int .i64 0) := by rw [HB.out.cell]; rfl
  have fz0 := HB.out.frozen 0
  have cz1 : wr.cell? ⟨g, 1, none⟩ = some (.int .i64 0) := by rw [HB.out.cell]; rfl
  have fz1 := HB.out.frozen 1
  have cz2 : wr.cell? ⟨g, 2, none⟩ = some (.int .i64 0) := by rw [HB.out.cell]; rfl
  have fz2 := HB.out.frozen 2
  have cz3 : wr.cell? ⟨g, 3, none⟩ = some (.int .i64 0) := by rw [HB.out.cell]; rfl
  have fz3 := HB.out.frozen 3
  have cz4 : wr.cell? ⟨g, 4, none⟩ = some (.int .i64 0) := by rw [HB.out.cell]; rfl
  have fz4 := HB.out.frozen 4
  have cz5 : wr.cell? ⟨g, 5, none⟩ = some (.slice none 0 0) := by rw [HB.out.cell]; rfl
  have fz5 := HB.out.frozen 5
  have cz6 : wr.cell? ⟨g, 6, none⟩ = some (.bool false) := by rw [HB.out.cell]; rfl
  have fz6 := HB.out.frozen 6
  by_cases hkl : k < ps.length
  ·have i0 : (0 : Int) ≤ (k : Int) := by omega
   have i1 : (k : Int) < (ps.length : Int) := by omega
   have d1 : decide ((k : Int) < (ps.length : Int)) = true := decide_eq_true (by omega)
   have d2 : decide (k < ps.length) = true := decide_eq_true hkl
   obtain ⟨pb, po, A5, c5, r, rfl, hFp, hcell, hwant, hpa⟩ := HX1.out.pick k (by omega)
   have x0 : wr.cell? ⟨pb, po + k * 7, none⟩ = some (.int .i64 r.type) := hcell 0 _ rfl
   have x1 := hcell 1 _ rfl
   have x2 := hcell 2 _ rfl
   have x3 := hcell 3 _ rfl
   have x4 := hcell 4 _ rfl
   have x5 := hcell 5 _ rfl
   have x6 := hcell 6 _ rfl
   have htk : (ps.map Prod.snd).take (k + 1) = (ps.map Prod.snd).take k ++ [r] := by
    rw [List.take_add_one, List.getElem?_map, hpa]; rfl
   have HS := xhd (show Pure.ruleOf ((ps.map Prod.snd).take (k + 1)) t = if r.type = t then some r else none by rw [htk]; exact y8e _ r t HH.out)
   have HPA := xhd hpa
   clear hcell hwant hpa htk
   by_cases hst : r.type = t
   ·have HE := xhd (show Pure.ruleOf (ps.map Prod.snd) t = some r by
     have h := HS.out
     rw [if_pos hst] at h
     have := y68 _ ((ps.map Prod.snd).drop (k + 1)) r t h
     rwa [List.take_append_drop] at this)
    have dq : (r.type == t) = true := by rw [beq_iff_eq]; exact hst
    have hB := HB.out
    have HZS := xhd (((((((hB.set 0 (.int .i64 r.type)).set 1 (.int .i64 r.len)).set 2 (.int .i64 r.how)).set 3 (.int .i64 r.lo)).set 4 (.int .i64 r.hi)).set 5 (.slice A5 r.want.length c5)).set 6 (.bool r.need))
    have HKS := xhd (((((((HK.out.store g 0 (fun h => by have := HG.out; omega) (.int .i64 r.type)).store g 1 (fun h => by have := HG.out; omega) (.int .i64 r.len)).store g 2 (fun h => by have := HG.out; omega) (.int .i64 r.how)).store g 3 (fun h => by have := HG.out; omega) (.int .i64 r.lo)).store g 4 (fun h => by have := HG.out; omega) (.int .i64 r.hi)).store g 5 (fun h => by have := HG.out; omega) (.slice A5 r.want.length c5)).store g 6 (fun h => by have := HG.out; omega) (.bool r.need))
    clear hB hst
    go_wp2_with fail
    refine bodyPost_ret (y0m rfl _ _ g 53 _ (0, 0) _ rfl HZS.out Try.underlying53 rfl (by rw [HI.out]; rfl)) rfl ?_
    exact ⟨(.slice A5 r.want.length c5, r), true, rfl, HKS.out, .inl ⟨rfl, List.mem_of_getElem? HPA.out, HE.out⟩⟩
   ·have dq : (r.type == t) = false := by rw [beq_eq_false_iff_ne]; exact hst
    go_wp2_with fail
    go_roundw
    case rel => exact ⟨k + 1, by omega, by go_num, by rw [HS.out, if_neg hst], trivial⟩
    case measure => simp [intOf] <;> omega
  ·have hkk : k = ps.length := by omega
   subst hkk
   have d1 : decide ((ps.length : Int) < (ps.length : Int)) = false := decide_eq_false (by omega)
   have d2 : decide (ps.length < ps.length) = false := decide_eq_false (by omega)
   have HE := xhd (show Pure.ruleOf (ps.map Prod.snd) t = none by
    have h := HH.out
    rwa [List.take_of_length_le (by simp)] at h)
   have hB := HB.out
   have HZS := xhd (((((((hB.set 0 (.int .i64 0)).set 1 (.int .i64 0)).set 2 (.int .i64 0)).set 3 (.int .i64 0)).set 4 (.int .i64 0)).set 5 (.slice none 0 0)).set 6 (.bool false))
   have HKS := xhd (((((((HK.out.store g 0 (fun h => by have := HG.out; omega) (.int .i64 0)).store g 1 (fun h => by have := HG.out; omega) (.int .i64 0)).store g 2 (fun h => by have := HG.out; omega) (.int .i64 0)).store g 3 (fun h => by have := HG.out; omega) (.int .i64 0)).store g 4 (fun h => by have := HG.out; omega) (.int .i64 0)).store g 5 (fun h => by have := HG.out; omega) (.slice none 0 0)).store g 6 (fun h => by have := HG.out; omega) (.bool false))
   clear hB
   go_wp2_with fail
   refine bodyPost_ret (y0m rfl _ _ g 53 _ (0, 0) _ rfl HZS.out Try.underlying53 rfl (by rw [HI.out]; rfl)) rfl ?_
   exact ⟨(.slice none 0 0, noRule), false, rfl, HKS.out, .inr ⟨rfl, rfl, HE.out⟩⟩
section
variable {w0 w : World} {o : Oper} {a : Act} {Q : Exit → Act → World → Prop}
end
theorem Row.lt {w : World} {F : Nat → Prop} {size n : Nat} {v : Value} {xs : List Value} (hs : 0 < size) (h : Row w F size v n xs) : Row w (fun b => F b ∧ b < w.heap.size) size v n xs := by
 obtain ⟨h1, h0, A, c, h2, h3, h4, h5⟩ := h
 refine ⟨h1, h0, A, c, h2, h3, h4, fun hn => ?_⟩
 obtain ⟨b, off, e, f, g⟩ := h5 hn
 have hl : 0 < xs.length := by rw [h1]; exact Nat.mul_pos hn hs
 exact ⟨b, off, e, ⟨f, y0n (g 0 _ (List.getElem?_eq_getElem hl))⟩, g⟩
namespace Pure
end Pure
structure MayRules (us : List (Value × Pure.Rule)) : Prop where
 len : us.length ≤ 30
 each : ∀ p ∈ us, p.2.May
def MayAns (us : List (Value × Pure.Rule)) (w : World) (e : Ending) (w' : World) : Prop := ∃ B : Bool, e = .returned (.bool B) ∧ (B = true → MayRules us) ∧ Keeps y02 w w'
theorem MayRules.few {us : List (Value × Pure.Rule)} (h : MayRules us) : FewRules us := by
 refine ⟨by have := h.len; omega, fun p hp => ⟨fun h1 h2 => ?_, by have := (h.each p hp).want; omega⟩⟩
 obtain ⟨a, b, c⟩ := (h.each p hp).nums h1 h2
 refine ⟨a, b, Int.lt_of_lt_of_le c ?_⟩
 have h3 : p.2.len = 1 ∨ p.2.len = 2 ∨ p.2.len = 3 ∨ p.2.len = 4 := by omega
 rcases h3 with e | e | e | e <;> rw [e] <;> decide
theorem may_any (F : Nat → Prop) (x : Value) (us : List (Value × Pure.Rule)) (w : World) (hx : RRow w F x us) :
  Calls Try.prog 6 #[x] w fun e w' => MayAns us w e w' := by
 obtain ⟨U, cu, rfl, _⟩ := hx.form
 have hm := hx.out.2.1
 unfold maxLen at hm
 have HU := xhd hx
 clear hx
 go_enter Try.func6, Try.ntmps6
 by_cases hl : 30 < us.length
 ·have l1 : decide ((30 : Int) < (us.length : Int)) = true := decide_eq_true (by omega)
  have l2 : decide (30 < us.length) = true := decide_eq_true hl
  go_wp2_with fail
  go_ret
  exact ⟨_, rfl, (fun h => by cases h), Keeps.refl _ _⟩
 have l1 : decide ((30 : Int) < (us.length : Int)) = false := decide_eq_false (by omega)
 have l2 : decide (30 < us.length) = false := decide_eq_false hl
 go_wp2_with fail
 go_loopw [3] (fun i wr => ∃ k : Nat, k ≤ us.length ∧ i = .int .i64 (k : Int) ∧ (∀ p ∈ us.take k, p.2.May) ∧ Keeps y02 w wr) (fun i _ => us.length - (intOf i).toNat)
 case atStart => exact ⟨0, by omega, rfl, by simp, Keeps.refl _ _⟩
 case round =>
  obtain ⟨k, hk, rfl, hall, hkw⟩ := hrel
  have HALL := xhd hall
  have HKW := xhd hkw
  clear hall hkw
  by_cases hkl : k < us.length
  ·have i0' : (0 : Int) ≤ (k : Int) := by omega
   have i1 : (k : Int) < (us.length : Int) := by omega
   have e1 : decide ((k : Int) < (us.length : Int)) = true := decide_eq_true (by omega)
   have e2 : decide (k < us.length) = true := decide_eq_true hkl
   obtain ⟨bu, ou, pA, pc, pr, rfl, hFb, hcell, hwant, hpa⟩ := (HU.out.keeps HKW.out (fun _ _ h => h)).pick k hkl
   have HPA := xhd hpa
   have x0 : wr.cell? ⟨bu, ou + k * 7, none⟩ = some (.int .i64 pr.type) := hcell 0 _ rfl
   have x1 := hcell 1 _ rfl
   have x2 := hcell 2 _ rfl
   have x3 := hcell 3 _ rfl
   have x4 := hcell 4 _ rfl
   have x5 := hcell 5 _ rfl
   have x6 := hcell 6 _ rfl
   have hwl : pr.want.length ≤ maxLen := hwant.2.1
   unfold maxLen at hwl
   clear hcell hwant hpa
   go_upto_region 7 with fail
   obtain ⟨gq, hgq⟩ : ∃ g, g = wr.heap.size := ⟨_, rfl⟩
   rw [← hgq]
   obtain ⟨w2, hw2⟩ : ∃ w2, w2 = wr.alloc (.cells (y04 (.slice pA pr.want.length pc, pr)).toArray 53) := ⟨_, rfl⟩
   rw [show wr.alloc (.cells #[.int .i64 pr.type, .int .i64 pr.len, .int .i64 pr.how, .int .i64 pr.lo, .int .i64 pr.hi, .slice pA pr.want.length pc, .bool pr.need] 53) = w2 from hw2.symm]
   have hb2 : Blk w2 gq 53 (y04 (.slice pA pr.want.length pc, pr)).toArray := by rw [hw2, hgq]; exact Blk.new wr _ _
   have HC2 := xhd (fun j u (h : (y04 (.slice pA pr.want.length pc, pr))[j]? = some u) => show w2.cell? ⟨gq, j, none⟩ = some u by rw [hb2.cell, List.getElem?_toArray]; exact h)
   have HK2 := xhd (show Keeps y02 w w2 by rw [hw2]; exact HKW.out.alloc _)
   clear hw2 hgq hb2 x0 x1 x2 x3 x4 x5 x6
   go_cut [31] (fun s wx => (∃ B : Bool, s = .bool B ∧ (B = false → pr.want.length ≤ 253 ∧ 0 ≤ pr.type ∧ pr.type ≤ 255)) ∧ Keeps y02 w2 wx)
   case first =>
    have c0 := HC2.out 0 _ rfl
    have c5 := HC2.out 5 _ rfl
    by_cases a1 : 253 < pr.want.length
    ·have b1 : decide ((253 : Int) < (pr.want.length : Int)) = true := decide_eq_true (by omega)
     have b2 : decide (253 < pr.want.length) = true := decide_eq_true a1
     go_wp2_with fail
     go_meet
     exact ⟨⟨_, rfl, fun h => by cases h⟩, Keeps.refl _ _⟩
    ·have b1 : decide ((253 : Int) < (pr.want.length : Int)) = false := decide_eq_false (by omega)
     have b2 : decide (253 < pr.want.length) = false := decide_eq_false a1
     by_cases a2 : pr.type < 0
     ·have b3 : decide (pr.type < 0) = true := decide_eq_true a2
      go_wp2_with fail
      go_meet
      exact ⟨⟨_, rfl, fun h => by cases h⟩, Keeps.refl _ _⟩
     ·have b3 : decide (pr.type < 0) = false := decide_eq_false a2
      obtain ⟨B, hB⟩ : ∃ B, B = decide (255 < pr.type) := ⟨_, rfl⟩
      have HB := xhd hB
      have b4 : decide (255 < pr.type) = B := hB.symm
      clear hB
      go_wp2_with fail
      go_meet
      exact ⟨⟨_, rfl, fun h => ⟨by omega, by omega, by have h2 := HB.out; rw [h] at h2; have := of_decide_eq_false h2.symm; omega⟩⟩, Keeps.refl _ _⟩
   case rest =>
    obtain ⟨⟨B, hs, hB⟩, hkc⟩ := hcut
    obtain ⟨wx, hwx, hkc⟩ : ∃ wx, wx = _ ∧ Keeps y02 w2 wx := ⟨_, rfl, hkc⟩
    subst hwx hs
    have HB := xhd hB
    have HKX := xhd (HK2.out.trans hkc)
    have HC := xhd (fun j u (h : (y04 (.slice pA pr.want.length pc, pr))[j]? = some u) => y08 (HC2.out j u h) hkc)
    clear hB hkc HC2 HK2
    cases B
    ·have HB := xhd (HB.out rfl)
     go_upto_region 9 with fail
     go_cut [61] (fun s wy => (∃ B : Bool, s = .bool B ∧ (B = false → 1 ≤ pr.len → pr.len ≤ 4 → 0 ≤ pr.lo ∧ pr.lo ≤ pr.hi ∧ pr.hi < (256 : Int) ^ pr.len.toNat)) ∧ Keeps y02 wx wy)
     case first =>
      have c1 : wx.cell? ⟨gq, 1, none⟩ = some (.int .i64 pr.len) := HC.out 1 _ rfl
      have c3 : wx.cell? ⟨gq, 3, none⟩ = some (.int .i64 pr.lo) := HC.out 3 _ rfl
      have c4 : wx.cell? ⟨gq, 4, none⟩ = some (.int .i64 pr.hi) := HC.out 4 _ rfl
      obtain ⟨L, hL⟩ : ∃ L, L = pr.len := ⟨_, rfl⟩
      obtain ⟨lo, hlo⟩ : ∃ L, L = pr.lo := ⟨_, rfl⟩
      obtain ⟨hi, hhi⟩ : ∃ L, L = pr.hi := ⟨_, rfl⟩
      rw [← hL] at c1
      rw [← hlo] at c3
      rw [← hhi] at c4
      have HL := xhd (And.intro hL (And.intro hlo hhi))
      clear hL hlo hhi HC HB
      by_cases a1 : 1 ≤ L
      ·have b1 : decide (1 ≤ L) = true := decide_eq_true a1
       by_cases a2 : L ≤ 4
       ·have b2 : decide (L ≤ 4) = true := decide_eq_true a2
        by_cases a3 : lo < 0
        ·have b3 : decide (lo < 0) = true := decide_eq_true a3
         go_wp2_with fail
         go_meet
         rw [← HL.out.1, ← HL.out.2.1, ← HL.out.2.2]
         exact ⟨⟨_, rfl, fun h => by cases h⟩, Keeps.refl _ _⟩
        ·have b3 : decide (lo < 0) = false := decide_eq_false a3
         by_cases a4 : hi < lo
         ·have b4 : decide (hi < lo) = true := decide_eq_true a4
          go_wp2_with fail
          go_meet
          rw [← HL.out.1, ← HL.out.2.1, ← HL.out.2.2]
          exact ⟨⟨_, rfl, fun h => by cases h⟩, Keeps.refl _ _⟩
         ·have b4 : decide (hi < lo) = false := decide_eq_false a4
          have h3 : L = 1 ∨ L = 2 ∨ L = 3 ∨ L = 4 := by omega
          rcases h3 with rfl | rfl | rfl | rfl
          ·obtain ⟨B, hB⟩ : ∃ B, B = decide (256 ≤ hi) := ⟨_, rfl⟩
           have HB := xhd hB
           have b5 : decide (256 ≤ hi) = B := hB.symm
           clear hB
           go_wp2_with fail
           go_meet
           rw [← HL.out.1, ← HL.out.2.1, ← HL.out.2.2]
           exact ⟨⟨_, rfl, fun h _ _ => ⟨by omega, by omega, Int.lt_of_not_ge (of_decide_eq_false (b5.trans h))⟩⟩, Keeps.refl _ _⟩
          ·obtain ⟨B, hB⟩ : ∃ B, B = decide (65536 ≤ hi) := ⟨_, rfl⟩
           have HB := xhd hB
           have b5 : decide (65536 ≤ hi) = B := hB.symm
           clear hB
           go_wp2_with fail
           go_meet
           rw [← HL.out.1, ← HL.out.2.1, ← HL.out.2.2]
           exact ⟨⟨_, rfl, fun h _ _ => ⟨by omega, by omega, Int.lt_of_not_ge (of_decide_eq_false (b5.trans h))⟩⟩, Keeps.refl _ _⟩
          ·obtain ⟨B, hB⟩ : ∃ B, B = decide (16777216 ≤ hi) := ⟨_, rfl⟩
           have HB := xhd hB
           have b5 : decide (16777216 ≤ hi) = B := hB.symm
           clear hB
           go_wp2_with fail
           go_meet
           rw [← HL.out.1, ← HL.out.2.1, ← HL.out.2.2]
           exact ⟨⟨_, rfl, fun h _ _ => ⟨by omega, by omega, Int.lt_of_not_ge (of_decide_eq_false (b5.trans h))⟩⟩, Keeps.refl _ _⟩
          ·obtain ⟨B, hB⟩ : ∃ B, B = decide (4294967296 ≤ hi) := ⟨_, rfl⟩
           have HB := xhd hB
           have b5 : decide (4294967296 ≤ hi) = B := hB.symm
           clear hB
           go_wp2_with fail
           go_meet
           rw [← HL.out.1, ← HL.out.2.1, ← HL.out.2.2]
           exact ⟨⟨_, rfl, fun h _ _ => ⟨by omega, by omega, Int.lt_of_not_ge (of_decide_eq_false (b5.trans h))⟩⟩, Keeps.refl _ _⟩
       ·have b2 : decide (L ≤ 4) = false := decide_eq_false a2
        go_wp2_with fail
        go_meet
        rw [← HL.out.1, ← HL.out.2.1, ← HL.out.2.2]
        exact ⟨⟨_, rfl, fun _ _ h => by omega⟩, Keeps.refl _ _⟩
      ·have b1 : decide (1 ≤ L) = false := decide_eq_false a1
       go_wp2_with fail
       go_meet
       rw [← HL.out.1, ← HL.out.2.1, ← HL.out.2.2]
       exact ⟨⟨_, rfl, fun _ h => by omega⟩, Keeps.refl _ _⟩
     case rest =>
      obtain ⟨⟨B, hs, hB⟩, hkc⟩ := hcut
      subst hs
      have HB2 := xhd hB
      have HKY := xhd (HKX.out.trans hkc)
      clear hB hkc HC
      cases B
      ·have HM := xhd (show ∀ p ∈ us.take (k + 1), p.2.May from by
        intro p hp
        rw [List.take_add_one, HPA.out] at hp
        rcases List.mem_append.1 hp with hp | hp
        ·exact HALL.out p hp
        ·simp at hp
         subst hp
         exact ⟨HB.out.2.1, HB.out.2.2, HB.out.1, HB2.out rfl⟩)
       clear HB HB2
       go_wp2_with fail
       go_roundw
       case rel => exact ⟨k + 1, by omega, by go_num, HM.out, HKY.out⟩
       case measure => simp [intOf] <;> omega
      ·go_wp2_with fail
       go_ret
       exact ⟨_, rfl, (fun h => by cases h), HKY.out⟩
    ·go_wp2_with fail
     go_ret
     exact ⟨_, rfl, (fun h => by cases h), HKX.out⟩
  ·have hkk : k = us.length := by omega
   subst hkk
   have e1 : decide ((us.length : Int) < (us.length : Int)) = false := decide_eq_false (by omega)
   have e2 : decide (us.length < us.length) = false := decide_eq_false (by omega)
   go_wp2_with fail
   go_ret
   exact ⟨_, rfl, fun _ => ⟨by omega, by have h := HALL.out; rwa [List.take_length] at h⟩, HKW.out⟩
def y0t (l : List Pure.Opt) : Prop := l.length ≤ 60 ∧ ∀ o ∈ l, o.2.length ≤ 300
instance (l : List Pure.Opt) : Decidable (y0t l) := by unfold y0t; infer_instance
theorem y32 (F : Nat → Prop) (x : Value) (ps : List (Value × Pure.Opt)) (w : World) (hx : ORow w F x ps) :
  Calls Try.prog 7 #[x] w fun e w' => e = .returned (.bool (decide (y0t (y01 ps)))) ∧ w' = w := by
 obtain ⟨A, cA, rfl, hc⟩ := hx.form
 have hm := hx.out.2.1
 unfold maxLen at hm
 have HX := xhd hx
 have hlen : (y01 ps).length = ps.length := by simp
 clear hx
 go_enter Try.func7, Try.ntmps7
 by_cases h60 : 60 < ps.length
 ·have HO := xhd (show decide (y0t (y01 ps)) = false from decide_eq_false (fun h => by have := h.1; omega))
  have d0 : decide ((60 : Int) < (ps.length : Int)) = true := decide_eq_true (by omega)
  clear hlen
  go_wp2
  go_ret
  exact ⟨by rw [HO.out]; rfl, rfl⟩
 ·have d0 : decide ((60 : Int) < (ps.length : Int)) = false := decide_eq_false (by omega)
  have HLen := xhd hlen
  clear hlen
  go_wp2_with fail
  go_loopw [3] (fun i wr => ∃ k : Nat, k ≤ ps.length ∧ i = .int .i64 (k : Int) ∧ (∀ o ∈ (y01 ps).take k, o.2.length ≤ 300) ∧ wr = w) (fun i _ => ps.length - (intOf i).toNat)
  case atStart => exact ⟨0, by omega, rfl, by simp, rfl⟩
  case round =>
   obtain ⟨k, hk, rfl, hE, rfl⟩ := hrel
   have HE := xhd hE
   clear hE
   by_cases hkl : k < ps.length
   ·have i0 : (0 : Int) ≤ (k : Int) := by omega
    have i1 : (k : Int) < (ps.length : Int) := by omega
    obtain ⟨p, o, A1, c1, s, la, rfl, hFp, x0, x1, hra, hpa⟩ := HX.out.pick k hkl
    have hps : (y01 ps)[k]? = some (s, la) := by rw [List.getElem?_map, hpa]; rfl
    have HPS := xhd hps
    clear hra hpa hps
    by_cases hla : 300 < la.length
    ·have HO := xhd (show decide (y0t (y01 ps)) = false from decide_eq_false (fun h => by have := h.2 _ (List.mem_of_getElem? HPS.out); dsimp only at this; omega))
     have d1 : decide ((300 : Int) < (la.length : Int)) = true := decide_eq_true (by omega)
     clear HPS
     go_wp2
     go_ret
     exact ⟨by rw [HO.out]; rfl, rfl⟩
    ·have d1 : decide ((300 : Int) < (la.length : Int)) = false := decide_eq_false (by omega)
     have HE' := xhd (show ∀ q ∈ (y01 ps).take (k + 1), q.2.length ≤ 300 by
      intro q hq
      have hk2 := (List.getElem?_eq_some_iff.1 HPS.out).1
      rw [List.take_succ_eq_append_getElem hk2] at hq
      rcases List.mem_append.1 hq with h | h
      ·exact HE.out q h
      ·simp only [List.mem_singleton] at h
       have := HPS.out
       rw [List.getElem?_eq_getElem hk2] at this
       injection this with this
       rw [h, this]; dsimp only; omega)
     clear HPS HE
     go_wp2_with fail
     go_roundw
     case rel => exact ⟨k + 1, by omega, by go_num, HE'.out, trivial⟩
     case measure => simp [intOf]; omega
   ·have hkk : k = ps.length := by omega
    have HO := xhd (show decide (y0t (y01 ps)) = true from decide_eq_true ⟨by rw [HLen.out]; omega, by
     have h := HE.out
     rwa [List.take_of_length_le (by rw [HLen.out]; omega)] at h⟩)
    subst hkk
    clear hkl hk HE
    go_wp2
    go_ret
    exact ⟨by rw [HO.out]; rfl, rfl⟩
theorem FewRules.of_eq {qs us : List (Value × Pure.Rule)} (h : y06 qs = y06 us) (f : FewRules us) : FewRules qs := by
 refine ⟨by have := congrArg List.length h; simp at this; have := f.len; omega, fun p hp => ?_⟩
 have h1 : p.2 ∈ y06 us := by rw [← h]; exact List.mem_map.2 ⟨p, hp, rfl⟩
 obtain ⟨q, hq, e⟩ := List.mem_map.1 h1
 rw [← e]
 exact f.ok q hq
theorem y33 {zs : List (Value × Pure.Opt)} (h : y0t (y01 zs)) : FewOpts zs := by
 obtain ⟨h1, h2⟩ := h
 refine ⟨by simp at h1; omega, fun p hp => ?_⟩
 have := h2 p.2 (List.mem_map.2 ⟨p, hp, rfl⟩)
 omega
end Go.Proofs.Ytgphfindolaljaa
