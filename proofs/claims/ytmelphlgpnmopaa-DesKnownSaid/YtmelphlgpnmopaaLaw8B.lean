/- The laws of des: DesKnown, DesBlocks. -/
import Derived.Test.YtmelphlgpnmopaaLaw8A
namespace Go.Proofs.Ytmelphlgpnmopaa
open Go.RowKit
theorem wpo_make_u8 {w : World} {o : Oper} {a : Act} {Q : Exit → Act → World → Prop} {K : Act → World → Prop} (l c : Operand) (hop : o.op = Op.makeSlice 23 l c) (n : Nat) (kl kc : IntKind) (hl : a.eval l = .int kl (n : Int)) (hc : a.eval c = .int kc (n : Int)) (hn : n ≤ 1000000)
    (hK : ∀ w', Blk w' w.heap.size 5 (u8s (List.replicate n 0)).toArray → Keeps nobody w w' → w'.heap.size = w.heap.size + 1 → K (a.put o.dst (.slice (some ⟨w.heap.size, 0, none⟩) n n)) w') :
    o.wp Try.prog a w K Q := by
  obtain ⟨i0, hi0, hz0, hz1, hz2⟩ := info_parts u8_info
  have hrun := run_make (P := Try.prog) w 23 5 i0 _ Try.underlying23 hi0 hz0 kl kc n n (by omega) (by omega) (by rw [hz2]; omega) (by omega)
  rw [hz1, Int.toNat_natCast, made_bytes] at hrun
  obtain ⟨w', hw'⟩ : ∃ w', w' = w.alloc (.cells (u8s (List.replicate n 0)).toArray 5) := ⟨_, rfl⟩
  rw [← hw'] at hrun
  unfold Oper.wp
  simp [execOp, hop, hl, hc, hrun, Result.andThen]
  exact hK w' (by rw [hw']; exact Blk.new w _ _) (by rw [hw']; exact (Keeps.refl _ w).alloc _) (by rw [hw']; simp)
theorem row_zero {w : World} {g n : Nat} (h : Blk w g 5 (u8s (List.replicate n 0)).toArray) (hn : n ≤ 1000) : Row w (fun b => b = g) 1 (.slice (some ⟨g, 0, none⟩) n n) (List.replicate n (0 : UInt8)).length (u8s (List.replicate n 0)) := by
  have := Row.block (F := fun b => b = g) (size := 1) (n := n) (c := n) h rfl (by simp) (by unfold maxLen; omega) (Nat.le_refl _)
  rw [List.length_replicate]
  exact this
set_option maxRecDepth 100000 in
set_option maxHeartbeats 1000000 in
theorem desKnown_walk (w : World) : Calls Try.prog 3 #[] w fun e w' => e = .returned (.bool true) ∧ Below w.heap.size w w' := by
  go_enter Try.func3, Try.ntmps3
  go_wp2_with fail
  refine (awake_any w).mono ?_
  rintro e w1 ⟨rfl, hb1⟩
  have H1 := Lib.hid hb1
  clear hb1
  go_upto_region 3 with fail
  refine wp_region_Z (fun _ => True) 7 8 rfl (by kernel_rfl) trivial (fun hHeld => ?_)
  refine wpAnyZ_two (i := 0) (j := 1) (by kernel_rfl) rfl rfl (fun K hK => ?_) (fun K hK => ?_)
  · rw [if_pos (by rfl)]
    refine wpo_make_u8 _ _ rfl 8 .i64 .i64 rfl rfl (by omega) ?_
    intro wa hA hka hsa
    obtain ⟨g1, hg1⟩ : ∃ g, g = w1.drew.heap.size := ⟨_, rfl⟩
    rw [← hg1] at hA ⊢
    clear hg1 hsa
    refine hK.out _ _ (fun _ => trivial) ?_
    clear hK K
    simp only [Act.put, List.setIfInBounds_toArray, Nat.reduceAdd, List.getElem_toArray, List.getElem_cons_succ, List.getElem_cons_zero, List.set_cons_succ, List.set_cons_zero]
    refine wpAnyZ_one (i := 1) (by kernel_rfl) rfl (fun K hK => ?_)
    rw [if_pos (by rfl)]
    refine wpo_make_u8 _ _ rfl 8 .i64 .i64 rfl rfl (by omega) ?_
    intro wb hB hkb hsb
    obtain ⟨g2, hg2⟩ : ∃ g, g = wa.heap.size := ⟨_, rfl⟩
    rw [← hg2] at hB ⊢
    clear hg2 hsb
    have hA2 := hA.keeps hkb (fun h => h)
    have hkk : Keeps nobody w1 wb := ((Keeps.refl nobody w1).drew.trans hka).trans hkb
    refine hK.out _ _ (fun _ => trivial) ?_
    clear hK K
    simp only [Act.put, List.setIfInBounds_toArray, Nat.reduceAdd, List.getElem_toArray, List.getElem_cons_succ, List.getElem_cons_zero, List.set_cons_succ, List.set_cons_zero]
    refine wpAnyZ_one (i := 2) (by kernel_rfl) rfl (fun K hK => ?_)
    rw [if_pos (by rfl)]
    go_simp
    have hE := encN (F := fun b => b = g1) (G := fun b => b = g2) (key := List.replicate 8 0) (block := List.replicate 8 0) (x := .slice (some ⟨g1, 0, none⟩) 8 8) (y := .slice (some ⟨g2, 0, none⟩) 8 8) (Below.quiet H1.out hkk H1.out.size) (row_zero hA2 (by omega)) (row_zero hB (by omega)) (by simp)
    refine hE.mono ?_
    rintro e wc ⟨Ac, cc, rfl, _, _, hbc⟩
    have H1c := Lib.hid hbc
    clear hE hA hB hA2 hka hkb hkk hbc
    refine hK.out _ _ (fun _ => trivial) ?_
    clear hK K
    refine wpAnyZ_take (i := 3) rfl (by kernel_rfl) (fun _ _ _ h => h) (Or.inl ⟨by rfl, by intro w hSw; go_simp; try with_reducible rfl⟩) trivial ?_
    simp only [Act.put, List.setIfInBounds_toArray, Nat.reduceAdd, List.getElem_toArray, List.getElem_cons_succ, List.getElem_cons_zero, List.set_cons_succ, List.set_cons_zero]
    refine wpAnyZ_take (i := 4) rfl (by kernel_rfl) (fun _ _ _ h => h) (Or.inl ⟨by rfl, by intro w hSw; go_simp; try with_reducible rfl⟩) trivial ?_
    simp only [Act.put, List.setIfInBounds_toArray, Nat.reduceAdd, List.getElem_toArray, List.getElem_cons_succ, List.getElem_cons_zero, List.set_cons_succ, List.set_cons_zero]
    refine wpAnyZ_take (i := 5) rfl (by kernel_rfl) (fun _ _ _ h => h) (Or.inl ⟨by rfl, by intro w hSw; go_simp; try with_reducible rfl⟩) trivial ?_
    simp only [Act.put, List.setIfInBounds_toArray, Nat.reduceAdd, List.getElem_toArray, List.getElem_cons_succ, List.getElem_cons_zero, List.set_cons_succ, List.set_cons_zero]
    refine wpAnyZ_take (i := 6) rfl (by kernel_rfl) (fun _ _ _ h => h) (Or.inl ⟨by rfl, by intro w hSw; go_simp; try with_reducible rfl⟩) trivial ?_
    simp only [Act.put, List.setIfInBounds_toArray, Nat.reduceAdd, List.getElem_toArray, List.getElem_cons_succ, List.getElem_cons_zero, List.set_cons_succ, List.set_cons_zero]
    refine wpAnyZ_one (i := 7) (by kernel_rfl) rfl (fun K hK => ?_)
    rw [if_pos (by rfl)]
    go_simp
    refine hK.out _ _ (fun _ => trivial) ?_
    clear hK K
    refine wpAnyZ_done (by kernel_rfl) ?_ _
    obtain ⟨w1c, hwc⟩ : ∃ w1c, w1c = wc := ⟨_, rfl⟩
    rw [← hwc] at H1c ⊢
    clear hwc
    go_upto_region 4 with fail
    refine wp_region_Z (fun _ => True) 7 8 rfl (by kernel_rfl) trivial (fun hHeld => ?_)
    refine wpAnyZ_two (i := 0) (j := 1) (by kernel_rfl) rfl rfl (fun K hK => ?_) (fun K hK => ?_)
    · rw [if_pos (by rfl)]
      refine wpo_make_u8 _ _ rfl 7 .i64 .i64 rfl rfl (by omega) ?_
      intro wa hA hka hsa
      obtain ⟨g1, hg1⟩ : ∃ g, g = w1c.drew.heap.size := ⟨_, rfl⟩
      rw [← hg1] at hA ⊢
      clear hg1 hsa
      refine hK.out _ _ (fun _ => trivial) ?_
      clear hK K
      simp only [Act.put, List.setIfInBounds_toArray, Nat.reduceAdd, List.getElem_toArray, List.getElem_cons_succ, List.getElem_cons_zero, List.set_cons_succ, List.set_cons_zero]
      refine wpAnyZ_one (i := 1) (by kernel_rfl) rfl (fun K hK => ?_)
      rw [if_pos (by rfl)]
      refine wpo_make_u8 _ _ rfl 7 .i64 .i64 rfl rfl (by omega) ?_
      intro wb hB hkb hsb
      obtain ⟨g2, hg2⟩ : ∃ g, g = wa.heap.size := ⟨_, rfl⟩
      rw [← hg2] at hB ⊢
      clear hg2 hsb
      have hA2 := hA.keeps hkb (fun h => h)
      have hkk : Keeps nobody w1c wb := ((Keeps.refl nobody w1c).drew.trans hka).trans hkb
      refine hK.out _ _ (fun _ => trivial) ?_
      clear hK K
      simp only [Act.put, List.setIfInBounds_toArray, Nat.reduceAdd, List.getElem_toArray, List.getElem_cons_succ, List.getElem_cons_zero, List.set_cons_succ, List.set_cons_zero]
      refine wpAnyZ_one (i := 2) (by kernel_rfl) rfl (fun K hK => ?_)
      rw [if_pos (by rfl)]
      go_simp
      have hE := encN (F := fun b => b = g1) (G := fun b => b = g2) (key := List.replicate 7 0) (block := List.replicate 7 0) (x := .slice (some ⟨g1, 0, none⟩) 7 7) (y := .slice (some ⟨g2, 0, none⟩) 7 7) (Below.quiet H1c.out hkk H1c.out.size) (row_zero hA2 (by omega)) (row_zero hB (by omega)) (by simp)
      refine hE.mono ?_
      rintro e wc ⟨Ac, cc, rfl, _, _, hbc⟩
      have H1cc := Lib.hid hbc
      clear hE hA hB hA2 hka hkb hkk hbc
      refine hK.out _ _ (fun _ => trivial) ?_
      clear hK K
      refine wpAnyZ_take (i := 3) rfl (by kernel_rfl) (fun _ _ _ h => h) (Or.inl ⟨by rfl, by intro w hSw; go_simp; try with_reducible rfl⟩) trivial ?_
      simp only [Act.put, List.setIfInBounds_toArray, Nat.reduceAdd, List.getElem_toArray, List.getElem_cons_succ, List.getElem_cons_zero, List.set_cons_succ, List.set_cons_zero]
      refine wpAnyZ_take (i := 4) rfl (by kernel_rfl) (fun _ _ _ h => h) (Or.inl ⟨by rfl, by intro w hSw; go_simp; try with_reducible rfl⟩) trivial ?_
      simp only [Act.put, List.setIfInBounds_toArray, Nat.reduceAdd, List.getElem_toArray, List.getElem_cons_succ, List.getElem_cons_zero, List.set_cons_succ, List.set_cons_zero]
      refine wpAnyZ_take (i := 5) rfl (by kernel_rfl) (fun _ _ _ h => h) (Or.inl ⟨by rfl, by intro w hSw; go_simp; try with_reducible rfl⟩) trivial ?_
      simp only [Act.put, List.setIfInBounds_toArray, Nat.reduceAdd, List.getElem_toArray, List.getElem_cons_succ, List.getElem_cons_zero, List.set_cons_succ, List.set_cons_zero]
      refine wpAnyZ_take (i := 6) rfl (by kernel_rfl) (fun _ _ _ h => h) (Or.inl ⟨by rfl, by intro w hSw; go_simp; try with_reducible rfl⟩) trivial ?_
      simp only [Act.put, List.setIfInBounds_toArray, Nat.reduceAdd, List.getElem_toArray, List.getElem_cons_succ, List.getElem_cons_zero, List.set_cons_succ, List.set_cons_zero]
      refine wpAnyZ_one (i := 7) (by kernel_rfl) rfl (fun K hK => ?_)
      rw [if_pos (by rfl)]
      go_simp
      refine hK.out _ _ (fun _ => trivial) ?_
      clear hK K
      refine wpAnyZ_done (by kernel_rfl) ?_ _
      go_wp2
      go_ret
      exact ⟨rfl, H1cc.out⟩
    · rw [if_pos (by rfl)]
      refine wpo_make_u8 _ _ rfl 7 .i64 .i64 rfl rfl (by omega) ?_
      intro wa hA hka hsa
      obtain ⟨g1, hg1⟩ : ∃ g, g = w1c.drew.heap.size := ⟨_, rfl⟩
      rw [← hg1] at hA ⊢
      clear hg1 hsa
      refine hK.out _ _ (fun _ => trivial) ?_
      clear hK K
      simp only [Act.put, List.setIfInBounds_toArray, Nat.reduceAdd, List.getElem_toArray, List.getElem_cons_succ, List.getElem_cons_zero, List.set_cons_succ, List.set_cons_zero]
      refine wpAnyZ_one (i := 0) (by kernel_rfl) rfl (fun K hK => ?_)
      rw [if_pos (by rfl)]
      refine wpo_make_u8 _ _ rfl 7 .i64 .i64 rfl rfl (by omega) ?_
      intro wb hB hkb hsb
      obtain ⟨g2, hg2⟩ : ∃ g, g = wa.heap.size := ⟨_, rfl⟩
      rw [← hg2] at hB ⊢
      clear hg2 hsb
      have hA2 := hA.keeps hkb (fun h => h)
      have hkk : Keeps nobody w1c wb := ((Keeps.refl nobody w1c).drew.trans hka).trans hkb
      refine hK.out _ _ (fun _ => trivial) ?_
      clear hK K
      simp only [Act.put, List.setIfInBounds_toArray, Nat.reduceAdd, List.getElem_toArray, List.getElem_cons_succ, List.getElem_cons_zero, List.set_cons_succ, List.set_cons_zero]
      refine wpAnyZ_one (i := 2) (by kernel_rfl) rfl (fun K hK => ?_)
      rw [if_pos (by rfl)]
      go_simp
      have hE := encN (F := fun b => b = g2) (G := fun b => b = g1) (key := List.replicate 7 0) (block := List.replicate 7 0) (x := .slice (some ⟨g2, 0, none⟩) 7 7) (y := .slice (some ⟨g1, 0, none⟩) 7 7) (Below.quiet H1c.out hkk H1c.out.size) (row_zero hB (by omega)) (row_zero hA2 (by omega)) (by simp)
      refine hE.mono ?_
      rintro e wc ⟨Ac, cc, rfl, _, _, hbc⟩
      have H1cc := Lib.hid hbc
      clear hE hA hB hA2 hka hkb hkk hbc
      refine hK.out _ _ (fun _ => trivial) ?_
      clear hK K
      refine wpAnyZ_take (i := 3) rfl (by kernel_rfl) (fun _ _ _ h => h) (Or.inl ⟨by rfl, by intro w hSw; go_simp; try with_reducible rfl⟩) trivial ?_
      simp only [Act.put, List.setIfInBounds_toArray, Nat.reduceAdd, List.getElem_toArray, List.getElem_cons_succ, List.getElem_cons_zero, List.set_cons_succ, List.set_cons_zero]
      refine wpAnyZ_take (i := 4) rfl (by kernel_rfl) (fun _ _ _ h => h) (Or.inl ⟨by rfl, by intro w hSw; go_simp; try with_reducible rfl⟩) trivial ?_
      simp only [Act.put, List.setIfInBounds_toArray, Nat.reduceAdd, List.getElem_toArray, List.getElem_cons_succ, List.getElem_cons_zero, List.set_cons_succ, List.set_cons_zero]
      refine wpAnyZ_take (i := 5) rfl (by kernel_rfl) (fun _ _ _ h => h) (Or.inl ⟨by rfl, by intro w hSw; go_simp; try with_reducible rfl⟩) trivial ?_
      simp only [Act.put, List.setIfInBounds_toArray, Nat.reduceAdd, List.getElem_toArray, List.getElem_cons_succ, List.getElem_cons_zero, List.set_cons_succ, List.set_cons_zero]
      refine wpAnyZ_take (i := 6) rfl (by kernel_rfl) (fun _ _ _ h => h) (Or.inl ⟨by rfl, by intro w hSw; go_simp; try with_reducible rfl⟩) trivial ?_
      simp only [Act.put, List.setIfInBounds_toArray, Nat.reduceAdd, List.getElem_toArray, List.getElem_cons_succ, List.getElem_cons_zero, List.set_cons_succ, List.set_cons_zero]
      refine wpAnyZ_one (i := 7) (by kernel_rfl) rfl (fun K hK => ?_)
      rw [if_pos (by rfl)]
      go_simp
      refine hK.out _ _ (fun _ => trivial) ?_
      clear hK K
      refine wpAnyZ_done (by kernel_rfl) ?_ _
      go_wp2
      go_ret
      exact ⟨rfl, H1cc.out⟩
  · rw [if_pos (by rfl)]
    refine wpo_make_u8 _ _ rfl 8 .i64 .i64 rfl rfl (by omega) ?_
    intro wa hA hka hsa
    obtain ⟨g1, hg1⟩ : ∃ g, g = w1.drew.heap.size := ⟨_, rfl⟩
    rw [← hg1] at hA ⊢
    clear hg1 hsa
    refine hK.out _ _ (fun _ => trivial) ?_
    clear hK K
    simp only [Act.put, List.setIfInBounds_toArray, Nat.reduceAdd, List.getElem_toArray, List.getElem_cons_succ, List.getElem_cons_zero, List.set_cons_succ, List.set_cons_zero]
    refine wpAnyZ_one (i := 0) (by kernel_rfl) rfl (fun K hK => ?_)
    rw [if_pos (by rfl)]
    refine wpo_make_u8 _ _ rfl 8 .i64 .i64 rfl rfl (by omega) ?_
    intro wb hB hkb hsb
    obtain ⟨g2, hg2⟩ : ∃ g, g = wa.heap.size := ⟨_, rfl⟩
    rw [← hg2] at hB ⊢
    clear hg2 hsb
    have hA2 := hA.keeps hkb (fun h => h)
    have hkk : Keeps nobody w1 wb := ((Keeps.refl nobody w1).drew.trans hka).trans hkb
    refine hK.out _ _ (fun _ => trivial) ?_
    clear hK K
    simp only [Act.put, List.setIfInBounds_toArray, Nat.reduceAdd, List.getElem_toArray, List.getElem_cons_succ, List.getElem_cons_zero, List.set_cons_succ, List.set_cons_zero]
    refine wpAnyZ_one (i := 2) (by kernel_rfl) rfl (fun K hK => ?_)
    rw [if_pos (by rfl)]
    go_simp
    have hE := encN (F := fun b => b = g2) (G := fun b => b = g1) (key := List.replicate 8 0) (block := List.replicate 8 0) (x := .slice (some ⟨g2, 0, none⟩) 8 8) (y := .slice (some ⟨g1, 0, none⟩) 8 8) (Below.quiet H1.out hkk H1.out.size) (row_zero hB (by omega)) (row_zero hA2 (by omega)) (by simp)
    refine hE.mono ?_
    rintro e wc ⟨Ac, cc, rfl, _, _, hbc⟩
    have H1c := Lib.hid hbc
    clear hE hA hB hA2 hka hkb hkk hbc
    refine hK.out _ _ (fun _ => trivial) ?_
    clear hK K
    refine wpAnyZ_take (i := 3) rfl (by kernel_rfl) (fun _ _ _ h => h) (Or.inl ⟨by rfl, by intro w hSw; go_simp; try with_reducible rfl⟩) trivial ?_
    simp only [Act.put, List.setIfInBounds_toArray, Nat.reduceAdd, List.getElem_toArray, List.getElem_cons_succ, List.getElem_cons_zero, List.set_cons_succ, List.set_cons_zero]
    refine wpAnyZ_take (i := 4) rfl (by kernel_rfl) (fun _ _ _ h => h) (Or.inl ⟨by rfl, by intro w hSw; go_simp; try with_reducible rfl⟩) trivial ?_
    simp only [Act.put, List.setIfInBounds_toArray, Nat.reduceAdd, List.getElem_toArray, List.getElem_cons_succ, List.getElem_cons_zero, List.set_cons_succ, List.set_cons_zero]
    refine wpAnyZ_take (i := 5) rfl (by kernel_rfl) (fun _ _ _ h => h) (Or.inl ⟨by rfl, by intro w hSw; go_simp; try with_reducible rfl⟩) trivial ?_
    simp only [Act.put, List.setIfInBounds_toArray, Nat.reduceAdd, List.getElem_toArray, List.getElem_cons_succ, List.getElem_cons_zero, List.set_cons_succ, List.set_cons_zero]
    refine wpAnyZ_take (i := 6) rfl (by kernel_rfl) (fun _ _ _ h => h) (Or.inl ⟨by rfl, by intro w hSw; go_simp; try with_reducible rfl⟩) trivial ?_
    simp only [Act.put, List.setIfInBounds_toArray, Nat.reduceAdd, List.getElem_toArray, List.getElem_cons_succ, List.getElem_cons_zero, List.set_cons_succ, List.set_cons_zero]
    refine wpAnyZ_one (i := 7) (by kernel_rfl) rfl (fun K hK => ?_)
    rw [if_pos (by rfl)]
    go_simp
    refine hK.out _ _ (fun _ => trivial) ?_
    clear hK K
    refine wpAnyZ_done (by kernel_rfl) ?_ _
    obtain ⟨w1c, hwc⟩ : ∃ w1c, w1c = wc := ⟨_, rfl⟩
    rw [← hwc] at H1c ⊢
    clear hwc
    go_upto_region 4 with fail
    refine wp_region_Z (fun _ => True) 7 8 rfl (by kernel_rfl) trivial (fun hHeld => ?_)
    refine wpAnyZ_two (i := 0) (j := 1) (by kernel_rfl) rfl rfl (fun K hK => ?_) (fun K hK => ?_)
    · rw [if_pos (by rfl)]
      refine wpo_make_u8 _ _ rfl 7 .i64 .i64 rfl rfl (by omega) ?_
      intro wa hA hka hsa
      obtain ⟨g1, hg1⟩ : ∃ g, g = w1c.drew.heap.size := ⟨_, rfl⟩
      rw [← hg1] at hA ⊢
      clear hg1 hsa
      refine hK.out _ _ (fun _ => trivial) ?_
      clear hK K
      simp only [Act.put, List.setIfInBounds_toArray, Nat.reduceAdd, List.getElem_toArray, List.getElem_cons_succ, List.getElem_cons_zero, List.set_cons_succ, List.set_cons_zero]
      refine wpAnyZ_one (i := 1) (by kernel_rfl) rfl (fun K hK => ?_)
      rw [if_pos (by rfl)]
      refine wpo_make_u8 _ _ rfl 7 .i64 .i64 rfl rfl (by omega) ?_
      intro wb hB hkb hsb
      obtain ⟨g2, hg2⟩ : ∃ g, g = wa.heap.size := ⟨_, rfl⟩
      rw [← hg2] at hB ⊢
      clear hg2 hsb
      have hA2 := hA.keeps hkb (fun h => h)
      have hkk : Keeps nobody w1c wb := ((Keeps.refl nobody w1c).drew.trans hka).trans hkb
      refine hK.out _ _ (fun _ => trivial) ?_
      clear hK K
      simp only [Act.put, List.setIfInBounds_toArray, Nat.reduceAdd, List.getElem_toArray, List.getElem_cons_succ, List.getElem_cons_zero, List.set_cons_succ, List.set_cons_zero]
      refine wpAnyZ_one (i := 2) (by kernel_rfl) rfl (fun K hK => ?_)
      rw [if_pos (by rfl)]
      go_simp
      have hE := encN (F := fun b => b = g1) (G := fun b => b = g2) (key := List.replicate 7 0) (block := List.replicate 7 0) (x := .slice (some ⟨g1, 0, none⟩) 7 7) (y := .slice (some ⟨g2, 0, none⟩) 7 7) (Below.quiet H1c.out hkk H1c.out.size) (row_zero hA2 (by omega)) (row_zero hB (by omega)) (by simp)
      refine hE.mono ?_
      rintro e wc ⟨Ac, cc, rfl, _, _, hbc⟩
      have H1cc := Lib.hid hbc
      clear hE hA hB hA2 hka hkb hkk hbc
      refine hK.out _ _ (fun _ => trivial) ?_
      clear hK K
      refine wpAnyZ_take (i := 3) rfl (by kernel_rfl) (fun _ _ _ h => h) (Or.inl ⟨by rfl, by intro w hSw; go_simp; try with_reducible rfl⟩) trivial ?_
      simp only [Act.put, List.setIfInBounds_toArray, Nat.reduceAdd, List.getElem_toArray, List.getElem_cons_succ, List.getElem_cons_zero, List.set_cons_succ, List.set_cons_zero]
      refine wpAnyZ_take (i := 4) rfl (by kernel_rfl) (fun _ _ _ h => h) (Or.inl ⟨by rfl, by intro w hSw; go_simp; try with_reducible rfl⟩) trivial ?_
      simp only [Act.put, List.setIfInBounds_toArray, Nat.reduceAdd, List.getElem_toArray, List.getElem_cons_succ, List.getElem_cons_zero, List.set_cons_succ, List.set_cons_zero]
      refine wpAnyZ_take (i := 5) rfl (by kernel_rfl) (fun _ _ _ h => h) (Or.inl ⟨by rfl, by intro w hSw; go_simp; try with_reducible rfl⟩) trivial ?_
      simp only [Act.put, List.setIfInBounds_toArray, Nat.reduceAdd, List.getElem_toArray, List.getElem_cons_succ, List.getElem_cons_zero, List.set_cons_succ, List.set_cons_zero]
      refine wpAnyZ_take (i := 6) rfl (by kernel_rfl) (fun _ _ _ h => h) (Or.inl ⟨by rfl, by intro w hSw; go_simp; try with_reducible rfl⟩) trivial ?_
      simp only [Act.put, List.setIfInBounds_toArray, Nat.reduceAdd, List.getElem_toArray, List.getElem_cons_succ, List.getElem_cons_zero, List.set_cons_succ, List.set_cons_zero]
      refine wpAnyZ_one (i := 7) (by kernel_rfl) rfl (fun K hK => ?_)
      rw [if_pos (by rfl)]
      go_simp
      refine hK.out _ _ (fun _ => trivial) ?_
      clear hK K
      refine wpAnyZ_done (by kernel_rfl) ?_ _
      go_wp2
      go_ret
      exact ⟨rfl, H1cc.out⟩
    · rw [if_pos (by rfl)]
      refine wpo_make_u8 _ _ rfl 7 .i64 .i64 rfl rfl (by omega) ?_
      intro wa hA hka hsa
      obtain ⟨g1, hg1⟩ : ∃ g, g = w1c.drew.heap.size := ⟨_, rfl⟩
      rw [← hg1] at hA ⊢
      clear hg1 hsa
      refine hK.out _ _ (fun _ => trivial) ?_
      clear hK K
      simp only [Act.put, List.setIfInBounds_toArray, Nat.reduceAdd, List.getElem_toArray, List.getElem_cons_succ, List.getElem_cons_zero, List.set_cons_succ, List.set_cons_zero]
      refine wpAnyZ_one (i := 0) (by kernel_rfl) rfl (fun K hK => ?_)
      rw [if_pos (by rfl)]
      refine wpo_make_u8 _ _ rfl 7 .i64 .i64 rfl rfl (by omega) ?_
      intro wb hB hkb hsb
      obtain ⟨g2, hg2⟩ : ∃ g, g = wa.heap.size := ⟨_, rfl⟩
      rw [← hg2] at hB ⊢
      clear hg2 hsb
      have hA2 := hA.keeps hkb (fun h => h)
      have hkk : Keeps nobody w1c wb := ((Keeps.refl nobody w1c).drew.trans hka).trans hkb
      refine hK.out _ _ (fun _ => trivial) ?_
      clear hK K
      simp only [Act.put, List.setIfInBounds_toArray, Nat.reduceAdd, List.getElem_toArray, List.getElem_cons_succ, List.getElem_cons_zero, List.set_cons_succ, List.set_cons_zero]
      refine wpAnyZ_one (i := 2) (by kernel_rfl) rfl (fun K hK => ?_)
      rw [if_pos (by rfl)]
      go_simp
      have hE := encN (F := fun b => b = g2) (G := fun b => b = g1) (key := List.replicate 7 0) (block := List.replicate 7 0) (x := .slice (some ⟨g2, 0, none⟩) 7 7) (y := .slice (some ⟨g1, 0, none⟩) 7 7) (Below.quiet H1c.out hkk H1c.out.size) (row_zero hB (by omega)) (row_zero hA2 (by omega)) (by simp)
      refine hE.mono ?_
      rintro e wc ⟨Ac, cc, rfl, _, _, hbc⟩
      have H1cc := Lib.hid hbc
      clear hE hA hB hA2 hka hkb hkk hbc
      refine hK.out _ _ (fun _ => trivial) ?_
      clear hK K
      refine wpAnyZ_take (i := 3) rfl (by kernel_rfl) (fun _ _ _ h => h) (Or.inl ⟨by rfl, by intro w hSw; go_simp; try with_reducible rfl⟩) trivial ?_
      simp only [Act.put, List.setIfInBounds_toArray, Nat.reduceAdd, List.getElem_toArray, List.getElem_cons_succ, List.getElem_cons_zero, List.set_cons_succ, List.set_cons_zero]
      refine wpAnyZ_take (i := 4) rfl (by kernel_rfl) (fun _ _ _ h => h) (Or.inl ⟨by rfl, by intro w hSw; go_simp; try with_reducible rfl⟩) trivial ?_
      simp only [Act.put, List.setIfInBounds_toArray, Nat.reduceAdd, List.getElem_toArray, List.getElem_cons_succ, List.getElem_cons_zero, List.set_cons_succ, List.set_cons_zero]
      refine wpAnyZ_take (i := 5) rfl (by kernel_rfl) (fun _ _ _ h => h) (Or.inl ⟨by rfl, by intro w hSw; go_simp; try with_reducible rfl⟩) trivial ?_
      simp only [Act.put, List.setIfInBounds_toArray, Nat.reduceAdd, List.getElem_toArray, List.getElem_cons_succ, List.getElem_cons_zero, List.set_cons_succ, List.set_cons_zero]
      refine wpAnyZ_take (i := 6) rfl (by kernel_rfl) (fun _ _ _ h => h) (Or.inl ⟨by rfl, by intro w hSw; go_simp; try with_reducible rfl⟩) trivial ?_
      simp only [Act.put, List.setIfInBounds_toArray, Nat.reduceAdd, List.getElem_toArray, List.getElem_cons_succ, List.getElem_cons_zero, List.set_cons_succ, List.set_cons_zero]
      refine wpAnyZ_one (i := 7) (by kernel_rfl) rfl (fun K hK => ?_)
      rw [if_pos (by rfl)]
      go_simp
      refine hK.out _ _ (fun _ => trivial) ?_
      clear hK K
      refine wpAnyZ_done (by kernel_rfl) ?_ _
      go_wp2
      go_ret
      exact ⟨rfl, H1cc.out⟩
set_option maxRecDepth 100000 in
set_option maxHeartbeats 4000000 in
theorem desBlocks_walk (a0 : Option Addr) (len0 cap0 : Nat) (z0 : List Int) (a1 : Option Addr) (len1 cap1 : Nat) (z1 : List Int) (w : World) (w0 : IsRow .u8 w a0 len0 cap0 z0) (w1 : IsRow .u8 w a1 len1 cap1 z1) :
    Calls Try.prog 4 #[.slice a0 len0 cap0, .slice a1 len1 cap1] w fun e w' => e = .returned (.bool true) ∧ Below w.heap.size w w' := by
  obtain ⟨ks, hkl, hr⟩ := w0.bytes
  obtain ⟨xs, hxl, hs⟩ := w1.bytes
  rw [← hkl] at hr ⊢
  rw [← hxl] at hs ⊢
  have HR := Lib.hid hr.strong
  have HS := Lib.hid hs.strong
  clear hr hs w0 w1 hkl hxl
  obtain ⟨L, hL⟩ : ∃ L, L = ks.length := ⟨_, rfl⟩
  obtain ⟨M, hM⟩ : ∃ M, M = xs.length := ⟨_, rfl⟩
  rw [← hL] at HR ⊢
  rw [← hM] at HS ⊢
  have HL := Lib.hid hL
  have HM := Lib.hid hM
  clear hL hM
  go_enter Try.func4, Try.ntmps4
  go_wp2_with fail
  refine (awake_any w).mono ?_
  rintro e wa ⟨rfl, hb1⟩
  have H1 := Lib.hid hb1
  clear hb1
  by_cases hl : (L : Int) > 100
  · go_wp2
    go_ret
    exact ⟨rfl, H1.out⟩
  · by_cases hm : (M : Int) > 100
    · go_wp2
      go_ret
      exact ⟨rfl, H1.out⟩
    · have R1 := Lib.hid (HR.out.keeps (Keeps.new H1.out) (fun _ _ h => h))
      have S1 := Lib.hid (HS.out.keeps (Keeps.new H1.out) (fun _ _ h => h))
      by_cases hg : L = 7 ∧ M = 8
      · obtain ⟨rfl, rfl⟩ := hg
        have HE := Lib.hid (encL H1.out R1.out S1.out HL.out.symm HM.out.symm (fun b hb => Nat.lt_of_lt_of_le hb.2 H1.out.size) (fun b hb => Nat.lt_of_lt_of_le hb.2 H1.out.size))
        go_wp2_with fail
        refine HE.out.mono ?_
        rintro e w2 ⟨A2, c2, rfl, hu2, hk2, hb2⟩
        have B2 := Lib.hid hb2
        have U2 := Lib.hid hu2
        have HD := Lib.hid (docL B2.out (R1.out.keeps hk2 (fun _ _ h => h)) (S1.out.keeps hk2 (fun _ _ h => h)) HL.out.symm HM.out.symm (fun b hb => Nat.lt_of_lt_of_le hb.2 B2.out.size) (fun b hb => Nat.lt_of_lt_of_le hb.2 B2.out.size))
        clear hu2 hk2 hb2 HE R1 S1
        go_wp2_with fail
        refine HD.out.mono ?_
        rintro e w3 ⟨A3, c3, rfl, hu3, hk3, hb3⟩
        have HSM := Lib.hid (sameY hb3 (Row.of_own (own_quiet U2.out hk3)) (Row.of_own hu3) (Pure.des_length _ _) rfl)
        clear hu3 hk3 hb3 HD U2
        go_wp2_with fail
        refine HSM.out.mono ?_
        rintro e w4 ⟨rfl, _, hb4⟩
        have B4 := Lib.hid hb4
        clear hb4 HSM
        go_wp2
        go_ret
        exact ⟨rfl, B4.out⟩
      · have hbad : ks.length ≠ 7 ∨ xs.length ≠ 8 := by have := HL.out; have := HM.out; omega
        have R1' := R1.out
        have S1' := S1.out
        rw [HL.out] at R1'
        rw [HM.out] at S1'
        have HE := encN H1.out R1' S1' hbad
        rw [← HL.out, ← HM.out] at HE
        have HE := Lib.hid HE
        clear R1' S1'
        go_wp2_with fail
        refine HE.out.mono ?_
        rintro e w2 ⟨A2, c2, rfl, hu2, hk2, hb2⟩
        have B2 := Lib.hid hb2
        have U2 := Lib.hid hu2
        have R2 := R1.out.keeps hk2 (fun _ _ h => h)
        have S2 := S1.out.keeps hk2 (fun _ _ h => h)
        rw [HL.out] at R2
        rw [HM.out] at S2
        have HD := docdes_bad _ _ _ _ ks xs w2 R2 S2 hbad
        rw [← HL.out, ← HM.out] at HD
        have HD := Lib.hid HD
        clear hu2 hk2 hb2 HE R1 S1 R2 S2
        go_wp2_with fail
        refine HD.out.mono ?_
        rintro e w3 ⟨rfl, rfl⟩
        have HSM := Lib.hid (sameY (a := []) (b := []) B2.out U2.out (Row.nil _ nobody 1) rfl rfl)
        clear HD U2
        go_wp2_with fail
        refine HSM.out.mono ?_
        rintro e w4 ⟨rfl, _, hb4⟩
        have B4 := Lib.hid hb4
        clear hb4 HSM
        go_wp2
        go_ret
        exact ⟨rfl, B4.out⟩
end Go.Proofs.Ytmelphlgpnmopaa
