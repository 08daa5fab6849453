/- The document's CopyOptions: options in new memory. -/
import Derived.Test.YteajofcdiankiaaQ5
import Derived.Test.YteajofcdiankiaaQ41
namespace Go.Proofs.Yteajofcdiankiaa
open Go.RowKit
theorem Read.orow {w0 w : World} {v : Value} {ps : List (Value × Pure.Opt)} (h : Read w0 w v ps) : ORow w (fun b => w0.heap.size ≤ b) v ps :=
  ⟨(Row.of_own h.own).mono (fun b hb => ownsRow_ge h.own b hb), fun p hp => (h.rows p hp).mono (fun _ hb => hb.1)⟩
set_option maxRecDepth 100000 in
set_option maxHeartbeats 8000000 in
theorem doccopyopts_any (F : Nat → Prop) (x : Value) (ps : List (Value × Pure.Opt)) (w : World) (hF : ∀ b, F b → b < w.heap.size) (hx : ORow w F x ps) (hl : ps.length ≤ 100000) (hd : ∀ p ∈ ps, p.2.2.length ≤ 100000) :
    Calls Try.prog 29 #[x] w fun e w' => ∃ u, ∃ qs : List (Value × Pure.Opt), e = .returned u ∧ optsOf qs = optsOf ps ∧ Read w w' u qs := by
  obtain ⟨X, cx, rfl, _⟩ := hx.form
  have HX := Lib.hid hx
  have HF := Lib.hid hF
  have HDL := Lib.hid hd
  clear hx hF hd
  obtain ⟨i0, hi0, hz0, hz1, hz2⟩ := info_parts opt_info
  have HI := Lib.hid (And.intro hi0 (And.intro hz0 (And.intro hz1 hz2)))
  clear hi0 hz0 hz1 hz2
  go_enter Try.func29, Try.ntmps29
  go_wp2_with fail
  go_loopw [3, 4] (fun v i wr => ∃ k : Nat, k ≤ ps.length ∧ i = .int .i64 (k : Int) ∧ ∃ qs : List (Value × Pure.Opt), optsOf qs = (optsOf ps).take k ∧ Read w wr v qs) (fun _ i _ => ps.length - (intOf i).toNat)
  case atStart => exact ⟨0, by omega, rfl, [], rfl, ⟨World.ownsRow_nil _ _ _ _, by simp, Below.refl _ _⟩⟩
  case round =>
    obtain ⟨k, hk, rfl, qs, hqs, hrd⟩ := hrel
    have hql : qs.length = k := by
      have := congrArg List.length hqs
      simp at this
      omega
    obtain ⟨A2, c2, rfl⟩ := own_form hrd.own
    subst hql
    have HQS := Lib.hid hqs
    have HRD := Lib.hid hrd
    clear hqs hrd
    by_cases hkl : qs.length < ps.length
    · have i0' : (0 : Int) ≤ (qs.length : Int) := by omega
      have i1 : (qs.length : Int) < (ps.length : Int) := by omega
      have d1 : decide ((qs.length : Int) < (ps.length : Int)) = true := decide_eq_true (by omega)
      have d2 : decide (qs.length < ps.length) = true := decide_eq_true hkl
      obtain ⟨bx, ox, A1, c1, t, D, rfl, hFb, x0, x1, hra, hpa⟩ := (HX.out.keeps (Keeps.new HRD.out.below) (fun _ _ h => h)).pick qs.length hkl
      have hDl : D.length ≤ 100000 := HDL.out _ (List.mem_of_getElem? hpa)
      have HTK := Lib.hid (show (optsOf ps).take (qs.length + 1) = (optsOf ps).take qs.length ++ [(t, D)] from opt_take _ qs.length _ (by rw [List.getElem?_map, hpa]; rfl))
      have HRA := Lib.hid hra
      have HP := Lib.hid (And.intro x0 x1)
      clear hra hpa
      go_wp2_with fail
      refine wp_region_Z (fun w' => w'.cell? ⟨bx, ox + qs.length * 2, none⟩ = some (.int .i64 t) ∧ w'.cell? ⟨bx, ox + qs.length * 2 + 1, none⟩ = some (.slice A1 D.length c1)) 15 16 rfl (by kernel_rfl) HP.out (fun hHeld => ?_)
      refine wpAnyZ_take (i := 0) rfl (by kernel_rfl) (fun _ _ _ h => h) (Or.inl ⟨by rfl, by intro w hSw; obtain ⟨s0, s1⟩ := hSw; go_simp; try with_reducible rfl⟩) hHeld.out ?_
      simp only [Act.put, List.setIfInBounds_toArray, List.getElem_toArray, List.getElem_cons_zero, List.set_cons_succ, List.set_cons_zero]
      refine wpAnyZ_take (i := 1) rfl (by kernel_rfl) (fun _ _ _ h => h) (Or.inl ⟨by rfl, by intro w hSw; obtain ⟨s0, s1⟩ := hSw; go_simp; try with_reducible rfl⟩) hHeld.out ?_
      simp only [Act.put, List.setIfInBounds_toArray, List.getElem_toArray, List.getElem_cons_succ, List.getElem_cons_zero, List.set_cons_succ, List.set_cons_zero]
      refine wpAnyZ_take (i := 2) rfl (by kernel_rfl) (fun _ _ _ h => h) (Or.inl ⟨by rfl, by intro w hSw; obtain ⟨s0, s1⟩ := hSw; go_simp; try with_reducible rfl⟩) hHeld.out ?_
      simp only [Act.put, List.setIfInBounds_toArray, List.getElem_toArray, List.getElem_cons_succ, List.getElem_cons_zero, List.set_cons_succ, List.set_cons_zero]
      refine wpAnyZ_take (i := 3) rfl (by kernel_rfl) (fun _ _ _ h => h) (Or.inl ⟨by rfl, by intro w hSw; obtain ⟨s0, s1⟩ := hSw; go_simp; try with_reducible rfl⟩) hHeld.out ?_
      simp only [Act.put, List.setIfInBounds_toArray, List.getElem_toArray, List.getElem_cons_succ, List.getElem_cons_zero, List.set_cons_succ, List.set_cons_zero]
      refine wpAnyZ_take (i := 4) rfl (by kernel_rfl) (fun _ _ _ h => h) (Or.inl ⟨by rfl, by intro w hSw; obtain ⟨s0, s1⟩ := hSw; go_simp; try with_reducible rfl⟩) hHeld.out ?_
      simp only [Act.put, List.setIfInBounds_toArray, List.getElem_toArray, List.getElem_cons_succ, List.getElem_cons_zero, List.set_cons_succ, List.set_cons_zero]
      refine wpAnyZ_take (i := 5) rfl (by kernel_rfl) (fun _ _ _ h => h) (Or.inl ⟨by rfl, by intro w hSw; obtain ⟨s0, s1⟩ := hSw; go_simp; try with_reducible rfl⟩) hHeld.out ?_
      simp only [Act.put, List.setIfInBounds_toArray, List.getElem_toArray, List.getElem_cons_succ, List.getElem_cons_zero, List.set_cons_succ, List.set_cons_zero]
      refine wpAnyZ_take (i := 6) rfl (by kernel_rfl) (fun _ _ _ h => h) (Or.inl ⟨by rfl, by intro w hSw; obtain ⟨s0, s1⟩ := hSw; go_simp; try with_reducible rfl⟩) hHeld.out ?_
      simp only [Act.put, List.setIfInBounds_toArray, List.getElem_toArray, List.getElem_cons_succ, List.getElem_cons_zero, List.set_cons_succ, List.set_cons_zero]
      refine wpAnyZ_take (i := 7) rfl (by kernel_rfl) (fun _ _ _ h => h) (Or.inl ⟨by rfl, by intro w hSw; obtain ⟨s0, s1⟩ := hSw; go_simp; try with_reducible rfl⟩) hHeld.out ?_
      simp only [Act.put, List.setIfInBounds_toArray, List.getElem_toArray, List.getElem_cons_succ, List.getElem_cons_zero, List.set_cons_succ, List.set_cons_zero]
      refine wpAnyZ_take (i := 8) rfl (by kernel_rfl) (fun _ _ _ h => h) (Or.inl ⟨by rfl, by intro w hSw; obtain ⟨s0, s1⟩ := hSw; go_simp; try with_reducible rfl⟩) hHeld.out ?_
      simp only [Act.put, List.setIfInBounds_toArray, List.getElem_toArray, List.getElem_cons_succ, List.getElem_cons_zero, List.set_cons_succ, List.set_cons_zero]
      refine wpAnyZ_take (i := 9) rfl (by kernel_rfl) (fun _ _ _ h => h) (Or.inl ⟨by rfl, by intro w hSw; obtain ⟨s0, s1⟩ := hSw; go_simp; try with_reducible rfl⟩) hHeld.out ?_
      simp only [Act.put, List.setIfInBounds_toArray, List.getElem_toArray, List.getElem_cons_succ, List.getElem_cons_zero, List.set_cons_succ, List.set_cons_zero]
      refine wpAnyZ_take (i := 10) rfl (by kernel_rfl) (fun _ _ _ h => h) (Or.inl ⟨by rfl, by intro w hSw; obtain ⟨s0, s1⟩ := hSw; go_simp; try with_reducible rfl⟩) hHeld.out ?_
      simp only [Act.put, List.setIfInBounds_toArray, List.getElem_toArray, List.getElem_cons_succ, List.getElem_cons_zero, List.set_cons_succ, List.set_cons_zero]
      refine wpAnyZ_one (i := 11) (by kernel_rfl) rfl (fun K hK => ?_)
      go_simp
      have hsz := HRD.out.below.size
      refine (copy_any F (.slice A1 D.length c1) D wr.drew (HRA.out.keeps (Keeps.refl nobody _).drew (fun _ _ h => h)) (fun b hb => Nat.lt_of_lt_of_le (HF.out b hb) hsz) (by omega)).mono ?_
      rintro e w2 ⟨u, rfl, hu, hb2⟩
      have hk2 : Keeps nobody wr w2 := Keeps.new ⟨hb2.os, hb2.tape, hb2.output, hb2.size, hb2.block⟩
      have hu : w2.ownsRow wr.heap.size 5 1 u D.length (u8s D) := hu
      have c0 := And.intro (opt_quiet HP.out.1 hk2) (opt_quiet HP.out.2 hk2)
      refine hK.out _ _ (fun _ => c0) ?_
      clear hK K hHeld x0 x1
      obtain ⟨A3, c3, rfl⟩ := own_form hu
      have HU := Lib.hid hu
      have HK2 := Lib.hid hk2
      clear hu hb2 hk2
      try simp only [Act.put, List.setIfInBounds_toArray, Nat.reduceAdd, List.getElem_toArray, List.getElem_cons_succ, List.getElem_cons_zero, List.set_cons_succ, List.set_cons_zero]
      refine wpAnyZ_take (i := 12) rfl (by kernel_rfl) (fun _ _ _ h => h) (Or.inl ⟨by rfl, by intro w hSw; obtain ⟨s0, s1⟩ := hSw; go_simp; try with_reducible rfl⟩) c0 ?_
      simp only [Act.put, List.setIfInBounds_toArray, List.getElem_toArray, List.getElem_cons_succ, List.getElem_cons_zero, List.set_cons_succ, List.set_cons_zero]
      refine wpAnyZ_one (i := 13) (by kernel_rfl) rfl (fun K hK => ?_)
      go_simp
      refine hK.out _ _ (fun _ => ⟨opt_later c0.1, opt_later c0.2⟩) ?_
      clear hK K
      obtain ⟨wb, hwb⟩ : ∃ wb, wb = w2.alloc (.cells (optCells [(.slice A3 D.length c3, (t, D))]).toArray 32) := ⟨_, rfl⟩
      have hwb' : w2.alloc (.cells #[.int .i64 t, .slice A3 D.length c3] 32) = wb := hwb.symm
      rw [hwb']
      have hkb : Keeps nobody w2 wb := by rw [hwb]; exact (Keeps.refl _ w2).alloc _
      have hbb : Blk wb w2.heap.size 32 (optCells [(.slice A3 D.length c3, (t, D))]).toArray := by rw [hwb]; exact Blk.new w2 _ _
      have hrb : Row wb (fun b => b = w2.heap.size) 2 (.slice (some ⟨w2.heap.size, 0, none⟩) 1 1) 1 (optCells [(.slice A3 D.length c3, (t, D))]) := by
        have h := Row.block (F := fun b => b = w2.heap.size) (n := 1) (c := 1) (size := 2) hbb rfl rfl (by unfold maxLen; omega) (Nat.le_refl _)
        exact h
      have cb := And.intro (opt_quiet c0.1 hkb) (opt_quiet c0.2 hkb)
      have hkr : Keeps nobody wr wb := HK2.out.trans hkb
      have HKr := Lib.hid hkr
      have hownb : wb.ownsRow w.heap.size 32 2 (.slice A2 qs.length c2) qs.length (optCells qs) := ownsRow_keeps HRD.out.own hkr (fun _ _ h => h)
      have hub : wb.ownsRow wr.heap.size 5 1 (.slice A3 D.length c3) D.length (u8s D) := ownsRow_keeps HU.out hkb (fun _ _ h => h)
      have hBb : Below w.heap.size w wb := Below.quiet HRD.out.below hkr HRD.out.below.size
      have hone : ∀ p ∈ ([(.slice A3 D.length c3, (t, D))] : List (Value × Pure.Opt)), p.1.oneCell' = true := by
        intro p hp
        simp at hp
        subst hp
        rfl
      clear hwb hwb'
      refine wpAnyZ_one (i := 14) (by kernel_rfl) rfl (fun K hK => ?_)
      rw [if_pos (by rfl)]
      refine wp_append_row (.tmp 11) (.tmp 24) _ rfl w.heap.size 32 i0 _ 2 32 Try.underlying27 HI.out.1 HI.out.2.1 HI.out.2.2.1 HI.out.2.2.2 rfl (by omega) (.slice A2 qs.length c2) _ (optCells qs) rfl hownb _ _ 1 (optCells [(.slice A3 D.length c3, (t, D))]) rfl hrb (optCells_one _ hone) (by unfold maxLen; omega) (by omega) hBb.size ?_
      intro v3 w3 hown3 hg3 hat3
      have hcat : optCells qs ++ optCells [(.slice A3 D.length c3, (t, D))] = optCells (qs ++ [(.slice A3 D.length c3, (t, D))]) := by simp [optCells]
      rw [hcat] at hown3
      have hkw : Keeps (fun b => (Value.slice A2 qs.length c2).ownBlock = some b) wb w3 := (Keeps.refl _ wb).grown hg3 (fun k hk _ => hk)
      have hbx : bx < w.heap.size := HF.out bx hFb
      have hc3 : w3.cell? ⟨bx, ox + qs.length * 2, none⟩ = some (.int .i64 t) ∧ w3.cell? ⟨bx, ox + qs.length * 2 + 1, none⟩ = some (.slice A1 D.length c1) :=
        ⟨(World.cell?_of_block (w := wb) (a := ⟨bx, ox + qs.length * 2, none⟩) (hkw.block bx (cell_lt cb.1) (fun e => by have := ownsRow_ge hownb bx e; omega))).trans cb.1,
         (World.cell?_of_block (w := wb) (a := ⟨bx, ox + qs.length * 2 + 1, none⟩) (hkw.block bx (cell_lt cb.1) (fun e => by have := ownsRow_ge hownb bx e; omega))).trans cb.2⟩
      have hwbs : wr.heap.size ≤ wb.heap.size := hkr.size
      have hread : Read w w3 v3 (qs ++ [(.slice A3 D.length c3, (t, D))]) := by
        refine ⟨by rw [List.length_append]; exact hown3, fun p hp => ?_, hBb.grown hg3 hBb.size (fun k hk => ownsRow_ge hownb k hk)⟩
        rcases List.mem_append.1 hp with hp | hp
        · have h1 := ((HRD.out.rows p hp).keeps HKr.out (fun _ _ h => h)).keeps hkw (fun b hb => hb.2.1)
          refine h1.mono (fun b hb => ⟨hb.1, ?_, by have := hkw.size; omega⟩)
          rcases hat3 with e | e
          · rw [e]; exact hb.2.1
          · rw [e]; intro h; injection h with h; omega
        · simp at hp
          subst hp
          have h1 := (Row.of_own hub).keeps hkw (fun b hb hs => by
            have h2 := ownsRow_ge hub b hb
            have h3 := ownsRow_lt HRD.out.own b hs
            omega)
          refine h1.mono (fun b hb => ⟨by have := ownsRow_ge hub b hb; have := HRD.out.below.size; omega, ?_, by have := ownsRow_lt hub b hb; have := hkw.size; omega⟩)
          have h2 := ownsRow_ge hub b hb
          rcases hat3 with e | e
          · rw [e]; intro h; have := ownsRow_lt HRD.out.own b h; omega
          · rw [e]; intro h; injection h with h; have := ownsRow_lt hub b hb; omega
      have HRead := Lib.hid hread
      have HC3 := Lib.hid hc3
      obtain ⟨A4, c4, rfl⟩ := own_form hown3
      clear hown3 hg3 hat3 hcat hkw hread hc3 hrb hbb hub hownb hBb hone hkb hkr cb c0 hwbs
      refine hK.out _ _ (fun _ => HC3.out) ?_
      clear hK K
      try simp only [Nat.reduceAdd]
      refine wpAnyZ_one (i := 15) (by kernel_rfl) rfl (fun K hK => ?_)
      go_simp
      refine hK.out _ _ (fun h => absurd rfl h) ?_
      clear hK K
      refine wpAnyZ_done (by kernel_rfl) ?_ _
      go_wp2_with fail
      go_roundw
      case rel => exact ⟨qs.length + 1, by omega, by go_num, _, by rw [HTK.out, ← HQS.out]; simp [optsOf], HRead.out⟩
      case measure => simp [intOf] <;> omega
    · have hkk : qs.length = ps.length := by omega
      have d1 : decide ((qs.length : Int) < (ps.length : Int)) = false := decide_eq_false (by omega)
      have d2 : decide (qs.length < ps.length) = false := decide_eq_false (by omega)
      have HE := Lib.hid (show optsOf qs = optsOf ps by rw [HQS.out]; exact List.take_of_length_le (by simp; omega))
      go_wp2
      go_ret
      exact ⟨_, qs, rfl, HE.out, HRD.out⟩
end Go.Proofs.Yteajofcdiankiaa
