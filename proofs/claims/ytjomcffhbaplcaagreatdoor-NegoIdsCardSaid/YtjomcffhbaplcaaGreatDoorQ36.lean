/- Package nego: accept. -/
import Derived.Test.YtjomcffhbaplcaaGreatDoorQ34
import Derived.Test.YtjomcffhbaplcaaGreatDoorQ35
namespace Go.Proofs.YtjomcffhbaplcaaGreatDoor
open Go.RowKit
/-- The options of a packet, if it has any. -/
def hears (p : Pure.Pkt) : List Pure.Opt := if p.code = 1 ∨ p.code = 2 ∨ p.code = 3 ∨ p.code = 4 then (Pure.split p.data).2 else []
theorem hears_none {p : Pure.Pkt} (h : ¬ (p.code = 1 ∨ p.code = 2 ∨ p.code = 3 ∨ p.code = 4)) : hears p = [] := if_neg h
theorem hears_some {p : Pure.Pkt} (h : p.code = 1 ∨ p.code = 2 ∨ p.code = 3 ∨ p.code = 4) : hears p = (Pure.split p.data).2 := if_pos h
set_option maxRecDepth 100000 in
set_option maxHeartbeats 4000000 in
theorem accept_any (F R : Nat → Prop) (g : Nat) (f : NF) (n : Pure.Neg) (d : Value) (p : Pure.Pkt) (w : World) (hg : Handle w) (h : NObj w g R f n) (hF : ∀ b, F b → b < w.heap.size) (hd : Row w F 1 d p.data.length (u8s p.data)) :
    Calls Tryz.prog 40 #[.pointer (some ⟨g, 0, none⟩), pktV p d] w fun e w' => AccTo w e w' (n.refuses p) (hears p) := by
  obtain ⟨pc, pi, pd⟩ := p
  dsimp only at hd ⊢
  obtain ⟨DA, dc, rfl, _⟩ := hd.form
  obtain ⟨ra, hra⟩ : ∃ r, r = w.heap.size := ⟨_, rfl⟩
  obtain ⟨qs, hq, hqe, _⟩ := h.aopts
  obtain ⟨OA, oc, hOA, _⟩ := hq.form
  go_enter Tryz.func40, Tryz.ntmps40
  go_upto_region 1 with fail
  rw [← hra]
  generalize hw1 : w.alloc _ = w1
  have hk1 : Keeps nobody w w1 := by rw [← hw1]; exact (Keeps.refl _ w).alloc _
  have hP : Blk w1 ra 40 #[.int .i64 pc, .int .i64 pi, .slice DA pd.length dc] := by rw [← hw1, hra]; exact Blk.new w _ _
  have p0 : w1.cell? ⟨ra, 0, none⟩ = some (.int .i64 pc) := by rw [hP.cell]; rfl
  have p1 : w1.cell? ⟨ra, 1, none⟩ = some (.int .i64 pi) := by rw [hP.cell]; rfl
  have p2 : w1.cell? ⟨ra, 2, none⟩ = some (.slice DA pd.length dc) := by rw [hP.cell]; rfl
  have h1 := h.keeps hk1 (fun h => h) (fun h => h) (fun _ _ h => h)
  have c5 : w1.cell? ⟨g, 6, none⟩ = some (.int .i64 (f.aid : Int)) := h1.blk.cell 6
  have c6 : w1.cell? ⟨g, 7, none⟩ = some (.slice OA qs.length oc) := by rw [h1.blk.cell]; exact congrArg some hOA
  have c7 : w1.cell? ⟨g, 8, none⟩ = some (.bool f.aopen) := h1.blk.cell 8
  have hd1 := hd.keeps hk1 (fun _ _ h => h)
  have hF1 := fun b hb => Nat.lt_of_lt_of_le (hF b hb) hk1.size
  have HST := Lib.hid (nstate_any g R f n w1 h1)
  have HSP := Lib.hid (nsplit_any F _ pd w1 (hg.keeps hk1 (fun h => h)) hF1 hd1)
  have hq1 := hq.keeps hk1 (fun _ _ h => h)
  rw [hOA] at hq1
  have HAN := Lib.hid (fun (W : World) (k : Keeps nobody w1 W) => answered_any F R f.aid _ _ qs f.aopen ⟨pc, pi, pd⟩ W ((hg.keeps hk1 (fun h => h)).keeps k (fun h => h)) (fun b hb => Nat.lt_of_lt_of_le (hF1 b hb) k.size) (hd1.keeps k (fun _ _ h => h)) (hq1.keeps k (fun _ _ h => h)))
  have HE4 := Lib.hid h.e4
  have HE5 := Lib.hid h.e5
  have HQE := Lib.hid hqe
  have HK1 := Lib.hid hk1
  have HKD := Lib.hid (fun k : Int => (show Keeps nobody w (w1.alloc (.cells #[.int .i64 k] 108)) from hk1.alloc _))
  have HBX := Lib.hid (fun (W : World) (k : Int) => box_cell W (.int .i64 k) 108)
  have hs9 := h.well.good.state
  have HRF := Lib.hid (show n.refuses ⟨pc, pi, pd⟩ ↔ (n.m.state ≤ 1 ∨ (pc = 1 ∧ (Pure.split pd).1 ≠ 0) ∨ ((pc = 2 ∨ pc = 3 ∨ pc = 4) ∧ NoAnswer f.aid f.aopen (optsOf qs) ⟨pc, pi, pd⟩) ∨ (pc = 7 ∧ pd = [])) by
    unfold Pure.Neg.refuses NoAnswer
    dsimp only
    rw [hqe, h.e4, h.e5])
  obtain ⟨st, hst⟩ : ∃ s, s = n.m.state := ⟨_, rfl⟩
  rw [← hst] at HST HRF hs9
  obtain ⟨len, hlen⟩ : ∃ s, s = pd.length := ⟨_, rfl⟩
  rw [← hlen] at HSP HAN p2
  have HLEN := Lib.hid hlen
  clear hw1 hk1 hP hra hg hF hd h h1 hq hqe hq1 hOA hd1 hF1 hst hlen
  go_wp2_with fail
  refine HST.out.mono ?_
  rintro e w2 ⟨rfl, rfl⟩
  by_cases s0 : st = 0
  · subst s0
    have HB := Lib.hid (HRF.out.2 (.inl (by omega)))
    clear HST HSP HAN HRF
    go_wp2_with fail
    go_ret2
    exact .inl ⟨HB.out, _, rfl, ⟨_, _, rfl, HBX.out _ 6⟩, HKD.out 6⟩
  by_cases s1 : st = 1
  · subst s1
    have HB := Lib.hid (HRF.out.2 (.inl (by omega)))
    clear HST HSP HAN HRF
    go_wp2_with fail
    go_ret2
    exact .inl ⟨HB.out, _, rfl, ⟨_, _, rfl, HBX.out _ 6⟩, HKD.out 6⟩
  have q0 : (((st : Nat) : Int) == 0) = false := by rw [beq_eq_false_iff_ne]; omega
  have q1 : (((st : Nat) : Int) == 1) = false := by rw [beq_eq_false_iff_ne]; omega
  have HS2 := Lib.hid (show ¬ st ≤ 1 by omega)
  clear s0 s1 hs9 HST
  by_cases k1 : pc = 1
  · subst k1
    clear HAN c5 c6 c7
    go_wp2_with fail
    refine HSP.out.mono ?_
    intro e w2 hacc
    have hacc := AccTo.since (w0 := w) (bad' := n.refuses ⟨1, pi, pd⟩) hacc HK1.out (by
      rw [HRF.out]
      constructor
      · exact fun x => .inr (.inl ⟨by simp, x⟩)
      · rintro (x | ⟨_, x⟩ | ⟨x, _⟩ | ⟨x, _⟩)
        · exact absurd x HS2.out
        · exact x
        · omega
        · omega)
    rw [show (Pure.split pd).2 = hears ⟨1, pi, pd⟩ from (hears_some (p := ⟨1, pi, pd⟩) (.inl rfl)).symm] at hacc
    obtain ⟨a, b, rfl⟩ := hacc.returned
    have HACC := Lib.hid hacc
    clear hacc HSP HRF
    go_wp2_with fail
    go_ret2
    exact HACC.out
  have r1 : (pc == 1) = false := by rw [beq_eq_false_iff_ne]; exact k1
  have HC1 := Lib.hid k1
  clear k1 HSP
  by_cases k234 : pc = 2 ∨ pc = 3 ∨ pc = 4
  · have HBI := Lib.hid (show NoAnswer f.aid f.aopen (optsOf qs) ⟨pc, pi, pd⟩ ↔ n.refuses ⟨pc, pi, pd⟩ by
      rw [HRF.out]
      constructor
      · exact fun x => .inr (.inr (.inl ⟨k234, x⟩))
      · rintro (x | ⟨x, _⟩ | ⟨_, x⟩ | ⟨x, _⟩)
        · exact absurd x HS2.out
        · exact absurd x HC1.out
        · exact x
        · omega)
    have HHS := Lib.hid (show (Pure.split pd).2 = hears ⟨pc, pi, pd⟩ from (hears_some (p := ⟨pc, pi, pd⟩) (.inr k234)).symm)
    clear HRF
    have HKZ0 := Lib.hid (Keeps.refl nobody w1)
    have HCL := Lib.hid (And.intro c5 (And.intro c6 (And.intro c7 (And.intro p1 p2))))
    have HP0 := Lib.hid p0
    rcases k234 with rfl | rfl | rfl
    --REGION
    · go_wp2_with fail
      refine wp_region_Z (fun w' => w'.cell? ⟨g, 6, none⟩ = some (.int .i64 (f.aid : Int)) ∧ w'.cell? ⟨g, 7, none⟩ = some (.slice OA qs.length oc) ∧ w'.cell? ⟨g, 8, none⟩ = some (.bool f.aopen) ∧ w'.cell? ⟨ra, 0, none⟩ = some (.int .i64 2) ∧ w'.cell? ⟨ra, 1, none⟩ = some (.int .i64 pi) ∧ w'.cell? ⟨ra, 2, none⟩ = some (.slice DA len dc)) 9 10 rfl (by kernel_rfl) ⟨HCL.out.1, HCL.out.2.1, HCL.out.2.2.1, HP0.out, HCL.out.2.2.2.1, HCL.out.2.2.2.2⟩ (fun hHeld => ?_)
      have HSW := hHeld
      clear hHeld
      have HK0d := Lib.hid (HKZ0.out.drew)
      refine wpAnyZ_take (i := 0) rfl (by kernel_rfl) (fun _ _ _ h => h) (Or.inl ⟨by rfl, by intro w hSw; obtain ⟨s0, s1, s2, s3, s4, s5⟩ := hSw; go_simp; try with_reducible rfl⟩) HSW.out ?_
      simp only [Act.put, List.setIfInBounds_toArray, List.getElem_toArray, List.getElem_cons_zero, List.set_cons_succ, List.set_cons_zero]
      refine wpAnyZ_take (i := 1) rfl (by kernel_rfl) (fun _ _ _ h => h) (Or.inl ⟨by rfl, by intro w hSw; obtain ⟨s0, s1, s2, s3, s4, s5⟩ := hSw; go_simp; try with_reducible rfl⟩) HSW.out ?_
      simp only [Act.put, List.setIfInBounds_toArray, List.getElem_toArray, List.getElem_cons_succ, List.getElem_cons_zero, List.set_cons_succ, List.set_cons_zero]
      refine wpAnyZ_take (i := 2) rfl (by kernel_rfl) (fun _ _ _ h => h) (Or.inl ⟨by rfl, by intro w hSw; obtain ⟨s0, s1, s2, s3, s4, s5⟩ := hSw; go_simp; try with_reducible rfl⟩) HSW.out ?_
      simp only [Act.put, List.setIfInBounds_toArray, List.getElem_toArray, List.getElem_cons_succ, List.getElem_cons_zero, List.set_cons_succ, List.set_cons_zero]
      refine wpAnyZ_take (i := 3) rfl (by kernel_rfl) (fun _ _ _ h => h) (Or.inl ⟨by rfl, by intro w hSw; obtain ⟨s0, s1, s2, s3, s4, s5⟩ := hSw; go_simp; try with_reducible rfl⟩) HSW.out ?_
      simp only [Act.put, List.setIfInBounds_toArray, List.getElem_toArray, List.getElem_cons_succ, List.getElem_cons_zero, List.set_cons_succ, List.set_cons_zero]
      refine wpAnyZ_take (i := 4) rfl (by kernel_rfl) (fun _ _ _ h => h) (Or.inl ⟨by rfl, by intro w hSw; obtain ⟨s0, s1, s2, s3, s4, s5⟩ := hSw; go_simp; try with_reducible rfl⟩) HSW.out ?_
      simp only [Act.put, List.setIfInBounds_toArray, List.getElem_toArray, List.getElem_cons_succ, List.getElem_cons_zero, List.set_cons_succ, List.set_cons_zero]
      refine wpAnyZ_one (i := 5) (by kernel_rfl) rfl (fun K hK => ?_)
      try rw [if_pos (by rfl)]
      go_simp
      refine (HAN.out _ HK0d.out).mono ?_
      intro e w2 hacc
      have hka : Keeps nobody (w1.drew) w2 := hacc.keeps
      have HS2B := Lib.hid (And.intro (cell_quiet HSW.out.1 hka) (And.intro (cell_quiet HSW.out.2.1 hka) (And.intro (cell_quiet HSW.out.2.2.1 hka) (And.intro (cell_quiet HSW.out.2.2.2.1 hka) (And.intro (cell_quiet HSW.out.2.2.2.2.1 hka) (cell_quiet HSW.out.2.2.2.2.2 hka))))))
      have hacc := AccTo.since (w0 := w) hacc (HK1.out.trans HK0d.out) HBI.out
      rw [HHS.out] at hacc
      obtain ⟨a, b, rfl⟩ := hacc.returned
      have HACC := Lib.hid hacc
      clear hacc hka
      refine hK.out _ _ (fun _ => HS2B.out) ?_
      clear hK K
      try simp only [Act.put, List.setIfInBounds_toArray, Nat.reduceAdd, List.getElem_toArray, List.getElem_cons_succ, List.getElem_cons_zero, List.set_cons_succ, List.set_cons_zero]
      refine wpAnyZ_take (i := 6) rfl (by kernel_rfl) (fun _ _ _ h => h) (Or.inl ⟨by rfl, by intro w hSw; obtain ⟨s0, s1, s2, s3, s4, s5⟩ := hSw; go_simp; try with_reducible rfl⟩) HS2B.out ?_
      simp only [Act.put, List.setIfInBounds_toArray, List.getElem_toArray, List.getElem_cons_succ, List.getElem_cons_zero, List.set_cons_succ, List.set_cons_zero]
      refine wpAnyZ_take (i := 7) rfl (by kernel_rfl) (fun _ _ _ h => h) (Or.inl ⟨by rfl, by intro w hSw; obtain ⟨s0, s1, s2, s3, s4, s5⟩ := hSw; go_simp; try with_reducible rfl⟩) HS2B.out ?_
      simp only [Act.put, List.setIfInBounds_toArray, List.getElem_toArray, List.getElem_cons_succ, List.getElem_cons_zero, List.set_cons_succ, List.set_cons_zero]
      refine wpAnyZ_take (i := 8) rfl (by kernel_rfl) (fun _ _ _ h => h) (Or.inl ⟨by rfl, by intro w hSw; obtain ⟨s0, s1, s2, s3, s4, s5⟩ := hSw; go_simp; try with_reducible rfl⟩) HS2B.out ?_
      simp only [Act.put, List.setIfInBounds_toArray, List.getElem_toArray, List.getElem_cons_succ, List.getElem_cons_zero, List.set_cons_succ, List.set_cons_zero]
      refine wpAnyZ_one (i := 9) (by kernel_rfl) rfl (fun K hK => ?_)
      go_simp
      refine hK.out _ _ (fun h => absurd rfl h) ?_
      clear hK K
      refine wpAnyZ_done (by kernel_rfl) ?_ _
      go_wp2_with fail
      go_ret2
      exact HACC.out
    · go_wp2_with fail
      refine wp_region_Z (fun w' => w'.cell? ⟨g, 6, none⟩ = some (.int .i64 (f.aid : Int)) ∧ w'.cell? ⟨g, 7, none⟩ = some (.slice OA qs.length oc) ∧ w'.cell? ⟨g, 8, none⟩ = some (.bool f.aopen) ∧ w'.cell? ⟨ra, 0, none⟩ = some (.int .i64 3) ∧ w'.cell? ⟨ra, 1, none⟩ = some (.int .i64 pi) ∧ w'.cell? ⟨ra, 2, none⟩ = some (.slice DA len dc)) 9 10 rfl (by kernel_rfl) ⟨HCL.out.1, HCL.out.2.1, HCL.out.2.2.1, HP0.out, HCL.out.2.2.2.1, HCL.out.2.2.2.2⟩ (fun hHeld => ?_)
      have HSW := hHeld
      clear hHeld
      have HK0d := Lib.hid (HKZ0.out.drew)
      refine wpAnyZ_take (i := 0) rfl (by kernel_rfl) (fun _ _ _ h => h) (Or.inl ⟨by rfl, by intro w hSw; obtain ⟨s0, s1, s2, s3, s4, s5⟩ := hSw; go_simp; try with_reducible rfl⟩) HSW.out ?_
      simp only [Act.put, List.setIfInBounds_toArray, List.getElem_toArray, List.getElem_cons_zero, List.set_cons_succ, List.set_cons_zero]
      refine wpAnyZ_take (i := 1) rfl (by kernel_rfl) (fun _ _ _ h => h) (Or.inl ⟨by rfl, by intro w hSw; obtain ⟨s0, s1, s2, s3, s4, s5⟩ := hSw; go_simp; try with_reducible rfl⟩) HSW.out ?_
      simp only [Act.put, List.setIfInBounds_toArray, List.getElem_toArray, List.getElem_cons_succ, List.getElem_cons_zero, List.set_cons_succ, List.set_cons_zero]
      refine wpAnyZ_take (i := 2) rfl (by kernel_rfl) (fun _ _ _ h => h) (Or.inl ⟨by rfl, by intro w hSw; obtain ⟨s0, s1, s2, s3, s4, s5⟩ := hSw; go_simp; try with_reducible rfl⟩) HSW.out ?_
      simp only [Act.put, List.setIfInBounds_toArray, List.getElem_toArray, List.getElem_cons_succ, List.getElem_cons_zero, List.set_cons_succ, List.set_cons_zero]
      refine wpAnyZ_take (i := 3) rfl (by kernel_rfl) (fun _ _ _ h => h) (Or.inl ⟨by rfl, by intro w hSw; obtain ⟨s0, s1, s2, s3, s4, s5⟩ := hSw; go_simp; try with_reducible rfl⟩) HSW.out ?_
      simp only [Act.put, List.setIfInBounds_toArray, List.getElem_toArray, List.getElem_cons_succ, List.getElem_cons_zero, List.set_cons_succ, List.set_cons_zero]
      refine wpAnyZ_take (i := 4) rfl (by kernel_rfl) (fun _ _ _ h => h) (Or.inl ⟨by rfl, by intro w hSw; obtain ⟨s0, s1, s2, s3, s4, s5⟩ := hSw; go_simp; try with_reducible rfl⟩) HSW.out ?_
      simp only [Act.put, List.setIfInBounds_toArray, List.getElem_toArray, List.getElem_cons_succ, List.getElem_cons_zero, List.set_cons_succ, List.set_cons_zero]
      refine wpAnyZ_one (i := 5) (by kernel_rfl) rfl (fun K hK => ?_)
      try rw [if_pos (by rfl)]
      go_simp
      refine (HAN.out _ HK0d.out).mono ?_
      intro e w2 hacc
      have hka : Keeps nobody (w1.drew) w2 := hacc.keeps
      have HS2B := Lib.hid (And.intro (cell_quiet HSW.out.1 hka) (And.intro (cell_quiet HSW.out.2.1 hka) (And.intro (cell_quiet HSW.out.2.2.1 hka) (And.intro (cell_quiet HSW.out.2.2.2.1 hka) (And.intro (cell_quiet HSW.out.2.2.2.2.1 hka) (cell_quiet HSW.out.2.2.2.2.2 hka))))))
      have hacc := AccTo.since (w0 := w) hacc (HK1.out.trans HK0d.out) HBI.out
      rw [HHS.out] at hacc
      obtain ⟨a, b, rfl⟩ := hacc.returned
      have HACC := Lib.hid hacc
      clear hacc hka
      refine hK.out _ _ (fun _ => HS2B.out) ?_
      clear hK K
      try simp only [Act.put, List.setIfInBounds_toArray, Nat.reduceAdd, List.getElem_toArray, List.getElem_cons_succ, List.getElem_cons_zero, List.set_cons_succ, List.set_cons_zero]
      refine wpAnyZ_take (i := 6) rfl (by kernel_rfl) (fun _ _ _ h => h) (Or.inl ⟨by rfl, by intro w hSw; obtain ⟨s0, s1, s2, s3, s4, s5⟩ := hSw; go_simp; try with_reducible rfl⟩) HS2B.out ?_
      simp only [Act.put, List.setIfInBounds_toArray, List.getElem_toArray, List.getElem_cons_succ, List.getElem_cons_zero, List.set_cons_succ, List.set_cons_zero]
      refine wpAnyZ_take (i := 7) rfl (by kernel_rfl) (fun _ _ _ h => h) (Or.inl ⟨by rfl, by intro w hSw; obtain ⟨s0, s1, s2, s3, s4, s5⟩ := hSw; go_simp; try with_reducible rfl⟩) HS2B.out ?_
      simp only [Act.put, List.setIfInBounds_toArray, List.getElem_toArray, List.getElem_cons_succ, List.getElem_cons_zero, List.set_cons_succ, List.set_cons_zero]
      refine wpAnyZ_take (i := 8) rfl (by kernel_rfl) (fun _ _ _ h => h) (Or.inl ⟨by rfl, by intro w hSw; obtain ⟨s0, s1, s2, s3, s4, s5⟩ := hSw; go_simp; try with_reducible rfl⟩) HS2B.out ?_
      simp only [Act.put, List.setIfInBounds_toArray, List.getElem_toArray, List.getElem_cons_succ, List.getElem_cons_zero, List.set_cons_succ, List.set_cons_zero]
      refine wpAnyZ_one (i := 9) (by kernel_rfl) rfl (fun K hK => ?_)
      go_simp
      refine hK.out _ _ (fun h => absurd rfl h) ?_
      clear hK K
      refine wpAnyZ_done (by kernel_rfl) ?_ _
      go_wp2_with fail
      go_ret2
      exact HACC.out
    · go_wp2_with fail
      refine wp_region_Z (fun w' => w'.cell? ⟨g, 6, none⟩ = some (.int .i64 (f.aid : Int)) ∧ w'.cell? ⟨g, 7, none⟩ = some (.slice OA qs.length oc) ∧ w'.cell? ⟨g, 8, none⟩ = some (.bool f.aopen) ∧ w'.cell? ⟨ra, 0, none⟩ = some (.int .i64 4) ∧ w'.cell? ⟨ra, 1, none⟩ = some (.int .i64 pi) ∧ w'.cell? ⟨ra, 2, none⟩ = some (.slice DA len dc)) 9 10 rfl (by kernel_rfl) ⟨HCL.out.1, HCL.out.2.1, HCL.out.2.2.1, HP0.out, HCL.out.2.2.2.1, HCL.out.2.2.2.2⟩ (fun hHeld => ?_)
      have HSW := hHeld
      clear hHeld
      have HK0d := Lib.hid (HKZ0.out.drew)
      refine wpAnyZ_take (i := 0) rfl (by kernel_rfl) (fun _ _ _ h => h) (Or.inl ⟨by rfl, by intro w hSw; obtain ⟨s0, s1, s2, s3, s4, s5⟩ := hSw; go_simp; try with_reducible rfl⟩) HSW.out ?_
      simp only [Act.put, List.setIfInBounds_toArray, List.getElem_toArray, List.getElem_cons_zero, List.set_cons_succ, List.set_cons_zero]
      refine wpAnyZ_take (i := 1) rfl (by kernel_rfl) (fun _ _ _ h => h) (Or.inl ⟨by rfl, by intro w hSw; obtain ⟨s0, s1, s2, s3, s4, s5⟩ := hSw; go_simp; try with_reducible rfl⟩) HSW.out ?_
      simp only [Act.put, List.setIfInBounds_toArray, List.getElem_toArray, List.getElem_cons_succ, List.getElem_cons_zero, List.set_cons_succ, List.set_cons_zero]
      refine wpAnyZ_take (i := 2) rfl (by kernel_rfl) (fun _ _ _ h => h) (Or.inl ⟨by rfl, by intro w hSw; obtain ⟨s0, s1, s2, s3, s4, s5⟩ := hSw; go_simp; try with_reducible rfl⟩) HSW.out ?_
      simp only [Act.put, List.setIfInBounds_toArray, List.getElem_toArray, List.getElem_cons_succ, List.getElem_cons_zero, List.set_cons_succ, List.set_cons_zero]
      refine wpAnyZ_take (i := 3) rfl (by kernel_rfl) (fun _ _ _ h => h) (Or.inl ⟨by rfl, by intro w hSw; obtain ⟨s0, s1, s2, s3, s4, s5⟩ := hSw; go_simp; try with_reducible rfl⟩) HSW.out ?_
      simp only [Act.put, List.setIfInBounds_toArray, List.getElem_toArray, List.getElem_cons_succ, List.getElem_cons_zero, List.set_cons_succ, List.set_cons_zero]
      refine wpAnyZ_take (i := 4) rfl (by kernel_rfl) (fun _ _ _ h => h) (Or.inl ⟨by rfl, by intro w hSw; obtain ⟨s0, s1, s2, s3, s4, s5⟩ := hSw; go_simp; try with_reducible rfl⟩) HSW.out ?_
      simp only [Act.put, List.setIfInBounds_toArray, List.getElem_toArray, List.getElem_cons_succ, List.getElem_cons_zero, List.set_cons_succ, List.set_cons_zero]
      refine wpAnyZ_one (i := 5) (by kernel_rfl) rfl (fun K hK => ?_)
      try rw [if_pos (by rfl)]
      go_simp
      refine (HAN.out _ HK0d.out).mono ?_
      intro e w2 hacc
      have hka : Keeps nobody (w1.drew) w2 := hacc.keeps
      have HS2B := Lib.hid (And.intro (cell_quiet HSW.out.1 hka) (And.intro (cell_quiet HSW.out.2.1 hka) (And.intro (cell_quiet HSW.out.2.2.1 hka) (And.intro (cell_quiet HSW.out.2.2.2.1 hka) (And.intro (cell_quiet HSW.out.2.2.2.2.1 hka) (cell_quiet HSW.out.2.2.2.2.2 hka))))))
      have hacc := AccTo.since (w0 := w) hacc (HK1.out.trans HK0d.out) HBI.out
      rw [HHS.out] at hacc
      obtain ⟨a, b, rfl⟩ := hacc.returned
      have HACC := Lib.hid hacc
      clear hacc hka
      refine hK.out _ _ (fun _ => HS2B.out) ?_
      clear hK K
      try simp only [Act.put, List.setIfInBounds_toArray, Nat.reduceAdd, List.getElem_toArray, List.getElem_cons_succ, List.getElem_cons_zero, List.set_cons_succ, List.set_cons_zero]
      refine wpAnyZ_take (i := 6) rfl (by kernel_rfl) (fun _ _ _ h => h) (Or.inl ⟨by rfl, by intro w hSw; obtain ⟨s0, s1, s2, s3, s4, s5⟩ := hSw; go_simp; try with_reducible rfl⟩) HS2B.out ?_
      simp only [Act.put, List.setIfInBounds_toArray, List.getElem_toArray, List.getElem_cons_succ, List.getElem_cons_zero, List.set_cons_succ, List.set_cons_zero]
      refine wpAnyZ_take (i := 7) rfl (by kernel_rfl) (fun _ _ _ h => h) (Or.inl ⟨by rfl, by intro w hSw; obtain ⟨s0, s1, s2, s3, s4, s5⟩ := hSw; go_simp; try with_reducible rfl⟩) HS2B.out ?_
      simp only [Act.put, List.setIfInBounds_toArray, List.getElem_toArray, List.getElem_cons_succ, List.getElem_cons_zero, List.set_cons_succ, List.set_cons_zero]
      refine wpAnyZ_take (i := 8) rfl (by kernel_rfl) (fun _ _ _ h => h) (Or.inl ⟨by rfl, by intro w hSw; obtain ⟨s0, s1, s2, s3, s4, s5⟩ := hSw; go_simp; try with_reducible rfl⟩) HS2B.out ?_
      simp only [Act.put, List.setIfInBounds_toArray, List.getElem_toArray, List.getElem_cons_succ, List.getElem_cons_zero, List.set_cons_succ, List.set_cons_zero]
      refine wpAnyZ_one (i := 9) (by kernel_rfl) rfl (fun K hK => ?_)
      go_simp
      refine hK.out _ _ (fun h => absurd rfl h) ?_
      clear hK K
      refine wpAnyZ_done (by kernel_rfl) ?_ _
      go_wp2_with fail
      go_ret2
      exact HACC.out
    --END
  have r2 : (pc == 2) = false := by rw [beq_eq_false_iff_ne]; omega
  have r3 : (pc == 3) = false := by rw [beq_eq_false_iff_ne]; omega
  have r4 : (pc == 4) = false := by rw [beq_eq_false_iff_ne]; omega
  have HC := Lib.hid k234
  have HHN := Lib.hid (show hears ⟨pc, pi, pd⟩ = [] from hears_none (by have := HC1.out; dsimp only; omega))
  clear k234 HAN
  by_cases k7 : pc = 7
  · subst k7
    by_cases hl : len = 0
    · have HB := Lib.hid (HRF.out.2 (.inr (.inr (.inr ⟨rfl, List.eq_nil_of_length_eq_zero (by have := HLEN.out; omega)⟩))))
      subst hl
      clear HRF
      go_wp2_with fail
      go_ret2
      exact .inl ⟨HB.out, _, rfl, ⟨_, _, rfl, HBX.out _ 2⟩, HKD.out 2⟩
    · have ql : ((len : Int) == 0) = false := by rw [beq_eq_false_iff_ne]; omega
      have HB := Lib.hid (show ¬ n.refuses ⟨7, pi, pd⟩ by
        rw [HRF.out]
        rintro (x | ⟨x, _⟩ | ⟨x, _⟩ | ⟨_, x⟩)
        · exact HS2.out x
        · omega
        · omega
        · have := HLEN.out; rw [x] at this; exact hl this)
      clear HRF hl
      go_wp2_with fail
      go_ret2
      rw [HHN.out]
      exact AccTo.none _ _ _ HB.out HK1.out
  · have r7 : (pc == 7) = false := by rw [beq_eq_false_iff_ne]; exact k7
    have HB := Lib.hid (show ¬ n.refuses ⟨pc, pi, pd⟩ by
      rw [HRF.out]
      rintro (x | ⟨x, _⟩ | ⟨x, _⟩ | ⟨x, _⟩)
      · exact HS2.out x
      · exact HC1.out x
      · exact HC.out x
      · exact k7 x)
    clear HRF k7
    go_wp2_with fail
    go_ret2
    rw [HHN.out]
    exact AccTo.none _ _ _ HB.out HK1.out
end Go.Proofs.YtjomcffhbaplcaaGreatDoor
