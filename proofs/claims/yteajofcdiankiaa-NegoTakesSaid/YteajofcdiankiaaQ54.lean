/- The document's Left: the inner loop. -/
import Derived.Test.YteajofcdiankiaaQ49
import Derived.Test.YteajofcdiankiaaQ42
namespace Go.Proofs.Yteajofcdiankiaa
open Go.RowKit
set_option maxRecDepth 100000 in
set_option maxHeartbeats 8000000 in
theorem docleft_any (Fu Fa Fr : Nat → Prop) (xu xa xr : Value) (us : List (Value × Pure.Rule)) (zs rs : List (Value × Pure.Opt)) (w : World) (hu : RRow w Fu xu us) (ha : ORow w Fa xa zs) (hr : ORow w Fr xr rs) (hF : ∀ b, Fa b → b < w.heap.size) (hla : zs.length ≤ 100000) (hd : ∀ p ∈ zs, p.2.2.length ≤ 100000) :
    Calls Try.prog 17 #[xu, xa, xr] w fun e w' => ∃ u, ∃ qs : List (Value × Pure.Opt), e = .returned u ∧ optsOf qs = Pure.left (us.map Prod.snd) (optsOf zs) (optsOf rs) ∧ ORow w' (fun b => w.heap.size ≤ b) u qs ∧ Below w.heap.size w w' := by
  obtain ⟨Xu, cu, rfl, _⟩ := hu.form
  obtain ⟨Xa, ca, rfl, _⟩ := ha.form
  obtain ⟨Xr, cr, rfl, _⟩ := hr.form
  have hmr := hr.out.2.1
  unfold maxLen at hmr
  have HU := Lib.hid hu
  have HA := Lib.hid ha
  have HR := Lib.hid hr
  have HF := Lib.hid hF
  have HDL := Lib.hid hd
  clear hu ha hr hF hd
  obtain ⟨i0, hi0, hz0, hz1, hz2⟩ := info_parts opt_info
  have HI := Lib.hid (And.intro hi0 (And.intro hz0 (And.intro hz1 hz2)))
  clear hi0 hz0 hz1 hz2
  go_enter Try.func17, Try.ntmps17
  go_wp2_with fail
  go_loopw [7, 8] (fun v i wr => ∃ k : Nat, k ≤ zs.length ∧ i = .int .i64 (k : Int) ∧ ∃ os : List (Value × Pure.Opt), os = (zs.take k).filter (fun p => Pure.stays (us.map Prod.snd) (optsOf rs) p.2) ∧ wr.ownsRow w.heap.size 32 2 v os.length (optCells os) ∧ Below w.heap.size w wr) (fun _ i _ => zs.length - (intOf i).toNat)
  case atStart => exact ⟨0, by omega, rfl, [], rfl, World.ownsRow_nil _ _ _ _, Below.refl _ _⟩
  case round =>
    obtain ⟨k, hk, rfl, os, hos, hW, hB⟩ := hrel
    have HOS := Lib.hid hos
    have HW := Lib.hid hW
    have HB := Lib.hid hB
    obtain ⟨A7, c7, rfl⟩ := own_form hW
    clear hos hW hB
    by_cases hkl : k < zs.length
    · have i0' : (0 : Int) ≤ (k : Int) := by omega
      have i1 : (k : Int) < (zs.length : Int) := by omega
      have d1 : decide ((k : Int) < (zs.length : Int)) = true := decide_eq_true (by omega)
      have d2 : decide (k < zs.length) = true := decide_eq_true hkl
      obtain ⟨bx, ox, A1, c1, s, la, rfl, hFb, x0, x1, hra, hpa⟩ := (HA.out.keeps (Keeps.new HB.out) (fun _ _ h => h)).pick k hkl
      have HRA0 := Lib.hid hra
      have HPA := Lib.hid hpa
      have HX := Lib.hid (And.intro x0 x1)
      have HFD := Lib.hid (docfind_any Fu (.slice Xu us.length cu) us s wr (HU.out.keeps (Keeps.new HB.out) (fun _ _ h => h)))
      clear hra hpa x1
      go_wp2_with fail
      refine HFD.out.mono ?_
      rintro e w1 ⟨⟨pv, pr⟩, fb, rfl, hk1, hfound⟩
      have HFND := Lib.hid hfound
      have HK1 := Lib.hid hk1
      have HB1 := Lib.hid (Below.quiet HB.out hk1 HB.out.size)
      clear hfound hk1 HFD x0
      obtain ⟨Ap, np, cp, rfl⟩ : ∃ Ap np cp, pv = .slice Ap np cp := by
        rcases HFND.out with ⟨_, hm, _⟩ | ⟨_, he, _⟩
        · obtain ⟨Aq, cq, hq, _⟩ := (HU.out.rows _ hm).form
          exact ⟨_, _, _, hq⟩
        · injection he with h1 _
          exact ⟨_, _, _, h1⟩
      have HND := Lib.hid (show (fb && pr.need) = Pure.needy (us.map Prod.snd) s by
        unfold Pure.needy
        rcases HFND.out with ⟨rfl, _, hf⟩ | ⟨rfl, _, hf⟩
        · rw [hf]; simp
        · rw [hf]; rfl)
      clear HFND
      go_upto_region 6 with fail
      obtain ⟨gq, hgq⟩ : ∃ g, g = w1.heap.size := ⟨_, rfl⟩
      rw [← hgq]
      generalize hw2 : w1.alloc _ = w2
      have HQ := Lib.hid (show w2.cell? ⟨gq, 6, none⟩ = some (.bool pr.need) by rw [← hw2, hgq, (Blk.new w1 _ _).cell]; rfl)
      have HK2 := Lib.hid (show Keeps nobody wr w2 by rw [← hw2]; exact HK1.out.alloc _)
      have HB2 := Lib.hid (show Below w.heap.size w w2 by rw [← hw2]; exact Below.quiet HB1.out ((Keeps.refl nobody w1).alloc _) HB1.out.size)
      clear hw2 hgq HK1 HB1
      go_wp2_with fail
      go_loopw [11, 12] (fun gb i wq => ∃ j : Nat, j ≤ rs.length ∧ i = .int .i64 (j : Int) ∧ gb = .bool (((optsOf rs).take j).any fun p => decide ((s, la) = p)) ∧ Keeps nobody w2 wq) (fun _ i _ => rs.length - (intOf i).toNat)
      case atStart => exact ⟨0, by omega, rfl, rfl, Keeps.refl _ _⟩
      case round =>
        obtain ⟨j, hj, rfl, rfl, hkq⟩ := hrel
        have HKQ := Lib.hid hkq
        clear hkq
        obtain ⟨gb, hgb⟩ : ∃ gb, gb = ((optsOf rs).take j).any fun p => decide ((s, la) = p) := ⟨_, rfl⟩
        rw [← hgb]
        have HGB := Lib.hid hgb
        clear hgb
        by_cases hjl : j < rs.length
        · have j0 : (0 : Int) ≤ (j : Int) := by omega
          have j1 : (j : Int) < (rs.length : Int) := by omega
          have e1 : decide ((j : Int) < (rs.length : Int)) = true := decide_eq_true (by omega)
          have e2 : decide (j < rs.length) = true := decide_eq_true hjl
          obtain ⟨by', oy, A3, c3, t, lb, rfl, _, y0, y1, hrb, hpb⟩ := (HR.out.keeps (Keeps.new (Below.quiet HB2.out HKQ.out HB2.out.size)) (fun _ _ h => h)).pick j hjl
          have HCS := Lib.hid (show _ from And.intro (opt_quiet (opt_quiet HX.out.1 HK2.out) HKQ.out) (And.intro (opt_quiet (opt_quiet HX.out.2 HK2.out) HKQ.out) (And.intro y0 y1)))
          have HRA := Lib.hid ((HRA0.out.keeps HK2.out (fun _ _ h => h)).keeps HKQ.out (fun _ _ h => h))
          have HRB := Lib.hid hrb
          have HST := Lib.hid (show (((optsOf rs).take (j + 1)).any fun p => decide ((s, la) = p)) = (gb || decide ((s, la) = (t, lb))) by
            rw [opt_take _ j (t, lb) (by rw [List.getElem?_map, hpb]; rfl), List.any_append, ← HGB.out]
            simp)
          clear hrb hpb y0 y1
          cases gb with
          | true =>
            go_wp2_with fail
            refine wp_region_Z (fun w' => w'.cell? ⟨bx, ox + k * 2, none⟩ = some (.int .i64 s) ∧ w'.cell? ⟨bx, ox + k * 2 + 1, none⟩ = some (.slice A1 la.length c1) ∧ w'.cell? ⟨by', oy + j * 2, none⟩ = some (.int .i64 t) ∧ w'.cell? ⟨by', oy + j * 2 + 1, none⟩ = some (.slice A3 lb.length c3)) 12 13 rfl (by kernel_rfl) HCS.out (fun hHeld => ?_)
            have HSW := hHeld
            clear hHeld
            refine wpAnyZ_take (i := 0) rfl (by kernel_rfl) (fun _ _ _ h => h) (Or.inl ⟨by rfl, by intro w hSw; obtain ⟨s0, s1, s2, s3⟩ := hSw; go_simp; try with_reducible rfl⟩) HSW.out ?_
            simp only [Act.put, List.setIfInBounds_toArray, List.getElem_toArray, List.getElem_cons_zero, List.set_cons_succ, List.set_cons_zero]
            refine wpAnyZ_take (i := 1) rfl (by kernel_rfl) (fun _ _ _ h => h) (Or.inl ⟨by rfl, by intro w hSw; obtain ⟨s0, s1, s2, s3⟩ := hSw; go_simp; try with_reducible rfl⟩) HSW.out ?_
            simp only [Act.put, List.setIfInBounds_toArray, List.getElem_toArray, List.getElem_cons_succ, List.getElem_cons_zero, List.set_cons_succ, List.set_cons_zero]
            refine wpAnyZ_take (i := 2) rfl (by kernel_rfl) (fun _ _ _ h => h) (Or.inr ⟨by rfl, by rfl⟩) HSW.out ?_
            simp only [Act.put, List.setIfInBounds_toArray, List.getElem_toArray, List.getElem_cons_succ, List.getElem_cons_zero, List.set_cons_succ, List.set_cons_zero]
            refine wpAnyZ_take (i := 3) rfl (by kernel_rfl) (fun _ _ _ h => h) (Or.inr ⟨by rfl, by rfl⟩) HSW.out ?_
            simp only [Act.put, List.setIfInBounds_toArray, List.getElem_toArray, List.getElem_cons_succ, List.getElem_cons_zero, List.set_cons_succ, List.set_cons_zero]
            refine wpAnyZ_take (i := 4) rfl (by kernel_rfl) (fun _ _ _ h => h) (Or.inr ⟨by rfl, by rfl⟩) HSW.out ?_
            simp only [Act.put, List.setIfInBounds_toArray, List.getElem_toArray, List.getElem_cons_succ, List.getElem_cons_zero, List.set_cons_succ, List.set_cons_zero]
            refine wpAnyZ_take (i := 5) rfl (by kernel_rfl) (fun _ _ _ h => h) (Or.inr ⟨by rfl, by rfl⟩) HSW.out ?_
            simp only [Act.put, List.setIfInBounds_toArray, List.getElem_toArray, List.getElem_cons_succ, List.getElem_cons_zero, List.set_cons_succ, List.set_cons_zero]
            refine wpAnyZ_take (i := 6) rfl (by kernel_rfl) (fun _ _ _ h => h) (Or.inr ⟨by rfl, by rfl⟩) HSW.out ?_
            simp only [Act.put, List.setIfInBounds_toArray, List.getElem_toArray, List.getElem_cons_succ, List.getElem_cons_zero, List.set_cons_succ, List.set_cons_zero]
            refine wpAnyZ_take (i := 7) rfl (by kernel_rfl) (fun _ _ _ h => h) (Or.inr ⟨by rfl, by rfl⟩) HSW.out ?_
            simp only [Act.put, List.setIfInBounds_toArray, List.getElem_toArray, List.getElem_cons_succ, List.getElem_cons_zero, List.set_cons_succ, List.set_cons_zero]
            refine wpAnyZ_take (i := 8) rfl (by kernel_rfl) (fun _ _ _ h => h) (Or.inr ⟨by rfl, by rfl⟩) HSW.out ?_
            simp only [Act.put, List.setIfInBounds_toArray, List.getElem_toArray, List.getElem_cons_succ, List.getElem_cons_zero, List.set_cons_succ, List.set_cons_zero]
            refine wpAnyZ_take (i := 9) rfl (by kernel_rfl) (fun _ _ _ h => h) (Or.inr ⟨by rfl, by rfl⟩) HSW.out ?_
            simp only [Act.put, List.setIfInBounds_toArray, List.getElem_toArray, List.getElem_cons_succ, List.getElem_cons_zero, List.set_cons_succ, List.set_cons_zero]
            refine wpAnyZ_one (i := 10) (by kernel_rfl) rfl (fun K hK => ?_)
            rw [if_neg (by intro h; have h2 : false = true := h; cases h2)]
            refine hK.out _ _ (fun _ => HSW.out) ?_
            clear hK K
            try simp only [Act.put, List.setIfInBounds_toArray, List.getElem_toArray, List.getElem_cons_succ, List.getElem_cons_zero, List.set_cons_succ, List.set_cons_zero]
            refine wpAnyZ_take (i := 11) rfl (by kernel_rfl) (fun _ _ _ h => h) (Or.inl ⟨by rfl, by intro w hSw; obtain ⟨s0, s1, s2, s3⟩ := hSw; go_simp; try with_reducible rfl⟩) HSW.out ?_
            simp only [Act.put, List.setIfInBounds_toArray, List.getElem_toArray, List.getElem_cons_succ, List.getElem_cons_zero, List.set_cons_succ, List.set_cons_zero]
            refine wpAnyZ_one (i := 12) (by kernel_rfl) rfl (fun K hK => ?_)
            go_simp
            refine hK.out _ _ (fun h => absurd rfl h) ?_
            clear hK K
            refine wpAnyZ_done (by kernel_rfl) ?_ _
            go_wp2_with fail
            go_roundw
            case rel => exact ⟨j + 1, by omega, by go_num, by rw [HST.out]; rfl, HKQ.out.drew⟩
            case measure => simp [intOf] <;> omega
          | false =>
            go_wp2_with fail
            refine wp_region_Z (fun w' => w'.cell? ⟨bx, ox + k * 2, none⟩ = some (.int .i64 s) ∧ w'.cell? ⟨bx, ox + k * 2 + 1, none⟩ = some (.slice A1 la.length c1) ∧ w'.cell? ⟨by', oy + j * 2, none⟩ = some (.int .i64 t) ∧ w'.cell? ⟨by', oy + j * 2 + 1, none⟩ = some (.slice A3 lb.length c3)) 12 13 rfl (by kernel_rfl) HCS.out (fun hHeld => ?_)
            have HSW := hHeld
            clear hHeld
            refine wpAnyZ_take (i := 0) rfl (by kernel_rfl) (fun _ _ _ h => h) (Or.inl ⟨by rfl, by intro w hSw; obtain ⟨s0, s1, s2, s3⟩ := hSw; go_simp; try with_reducible rfl⟩) HSW.out ?_
            simp only [Act.put, List.setIfInBounds_toArray, List.getElem_toArray, List.getElem_cons_zero, List.set_cons_succ, List.set_cons_zero]
            refine wpAnyZ_take (i := 1) rfl (by kernel_rfl) (fun _ _ _ h => h) (Or.inl ⟨by rfl, by intro w hSw; obtain ⟨s0, s1, s2, s3⟩ := hSw; go_simp; try with_reducible rfl⟩) HSW.out ?_
            simp only [Act.put, List.setIfInBounds_toArray, List.getElem_toArray, List.getElem_cons_succ, List.getElem_cons_zero, List.set_cons_succ, List.set_cons_zero]
            refine wpAnyZ_take (i := 2) rfl (by kernel_rfl) (fun _ _ _ h => h) (Or.inl ⟨by rfl, by intro w hSw; obtain ⟨s0, s1, s2, s3⟩ := hSw; go_simp; try with_reducible rfl⟩) HSW.out ?_
            simp only [Act.put, List.setIfInBounds_toArray, List.getElem_toArray, List.getElem_cons_succ, List.getElem_cons_zero, List.set_cons_succ, List.set_cons_zero]
            refine wpAnyZ_take (i := 3) rfl (by kernel_rfl) (fun _ _ _ h => h) (Or.inl ⟨by rfl, by intro w hSw; obtain ⟨s0, s1, s2, s3⟩ := hSw; go_simp; try with_reducible rfl⟩) HSW.out ?_
            simp only [Act.put, List.setIfInBounds_toArray, List.getElem_toArray, List.getElem_cons_succ, List.getElem_cons_zero, List.set_cons_succ, List.set_cons_zero]
            refine wpAnyZ_take (i := 4) rfl (by kernel_rfl) (fun _ _ _ h => h) (Or.inl ⟨by rfl, by intro w hSw; obtain ⟨s0, s1, s2, s3⟩ := hSw; go_simp; try with_reducible rfl⟩) HSW.out ?_
            simp only [Act.put, List.setIfInBounds_toArray, List.getElem_toArray, List.getElem_cons_succ, List.getElem_cons_zero, List.set_cons_succ, List.set_cons_zero]
            refine wpAnyZ_take (i := 5) rfl (by kernel_rfl) (fun _ _ _ h => h) (Or.inl ⟨by rfl, by intro w hSw; obtain ⟨s0, s1, s2, s3⟩ := hSw; go_simp; try with_reducible rfl⟩) HSW.out ?_
            simp only [Act.put, List.setIfInBounds_toArray, List.getElem_toArray, List.getElem_cons_succ, List.getElem_cons_zero, List.set_cons_succ, List.set_cons_zero]
            refine wpAnyZ_take (i := 6) rfl (by kernel_rfl) (fun _ _ _ h => h) (Or.inl ⟨by rfl, by intro w hSw; obtain ⟨s0, s1, s2, s3⟩ := hSw; go_simp; try with_reducible rfl⟩) HSW.out ?_
            simp only [Act.put, List.setIfInBounds_toArray, List.getElem_toArray, List.getElem_cons_succ, List.getElem_cons_zero, List.set_cons_succ, List.set_cons_zero]
            refine wpAnyZ_take (i := 7) rfl (by kernel_rfl) (fun _ _ _ h => h) (Or.inl ⟨by rfl, by intro w hSw; obtain ⟨s0, s1, s2, s3⟩ := hSw; go_simp; try with_reducible rfl⟩) HSW.out ?_
            simp only [Act.put, List.setIfInBounds_toArray, List.getElem_toArray, List.getElem_cons_succ, List.getElem_cons_zero, List.set_cons_succ, List.set_cons_zero]
            refine wpAnyZ_take (i := 8) rfl (by kernel_rfl) (fun _ _ _ h => h) (Or.inl ⟨by rfl, by intro w hSw; obtain ⟨s0, s1, s2, s3⟩ := hSw; go_simp; try with_reducible rfl⟩) HSW.out ?_
            simp only [Act.put, List.setIfInBounds_toArray, List.getElem_toArray, List.getElem_cons_succ, List.getElem_cons_zero, List.set_cons_succ, List.set_cons_zero]
            refine wpAnyZ_take (i := 9) rfl (by kernel_rfl) (fun _ _ _ h => h) (Or.inl ⟨by rfl, by intro w hSw; obtain ⟨s0, s1, s2, s3⟩ := hSw; go_simp; try with_reducible rfl⟩) HSW.out ?_
            simp only [Act.put, List.setIfInBounds_toArray, List.getElem_toArray, List.getElem_cons_succ, List.getElem_cons_zero, List.set_cons_succ, List.set_cons_zero]
            refine wpAnyZ_one (i := 10) (by kernel_rfl) rfl (fun K hK => ?_)
            try rw [if_pos (by rfl)]
            go_simp
            refine (docone_any Fa Fr (.slice A1 la.length c1) (.slice A3 lb.length c3) (s, la) (t, lb) wr.drew (HRA.out.keeps (Keeps.refl nobody _).drew (fun _ _ h => h)) (HRB.out.keeps (Keeps.refl nobody _).drew (fun _ _ h => h))).mono ?_
            rintro e w5 ⟨rfl, hk5⟩
            have HK5 := Lib.hid (show Keeps nobody wr w5 from ⟨hk5.os, hk5.tape, hk5.output, hk5.size, hk5.block⟩)
            have HS5 := Lib.hid (show _ from And.intro (opt_quiet HCS.out.1 HK5.out) (And.intro (opt_quiet HCS.out.2.1 HK5.out) (And.intro (opt_quiet HCS.out.2.2.1 HK5.out) (opt_quiet HCS.out.2.2.2 HK5.out))))
            refine hK.out _ _ (fun _ => HS5.out) ?_
            clear hK K HSW hk5
            have HSW := HS5
            try simp only [Act.put, List.setIfInBounds_toArray, Nat.reduceAdd, List.getElem_toArray, List.getElem_cons_succ, List.getElem_cons_zero, List.set_cons_succ, List.set_cons_zero]
            refine wpAnyZ_take (i := 11) rfl (by kernel_rfl) (fun _ _ _ h => h) (Or.inl ⟨by rfl, by intro w hSw; obtain ⟨s0, s1, s2, s3⟩ := hSw; go_simp; try with_reducible rfl⟩) HSW.out ?_
            simp only [Act.put, List.setIfInBounds_toArray, List.getElem_toArray, List.getElem_cons_succ, List.getElem_cons_zero, List.set_cons_succ, List.set_cons_zero]
            refine wpAnyZ_one (i := 12) (by kernel_rfl) rfl (fun K hK => ?_)
            go_simp
            refine hK.out _ _ (fun h => absurd rfl h) ?_
            clear hK K
            refine wpAnyZ_done (by kernel_rfl) ?_ _
            go_wp2_with fail
            go_roundw
            case rel => exact ⟨j + 1, by omega, by go_num, by rw [HST.out]; simp, HKQ.out.trans HK5.out⟩
            case measure => simp [intOf] <;> omega
        · have e1 : decide ((j : Int) < (rs.length : Int)) = false := decide_eq_false (by omega)
          have e2 : decide (j < rs.length) = false := decide_eq_false hjl
          have HSTY := Lib.hid (show Pure.stays (us.map Prod.snd) (optsOf rs) (s, la) = (!gb || (fb && pr.need)) by
            unfold Pure.stays
            have h := HGB.out
            rw [List.take_of_length_le (by simp; omega)] at h
            rw [← h, HND.out])
          have HTK := Lib.hid (show zs.take (k + 1) = zs.take k ++ [(Value.slice A1 la.length c1, (s, la))] by rw [List.take_add_one, HPA.out]; rfl)
          have cq := HQ.out
          have cq : wr.cell? ⟨gq, 6, none⟩ = some (.bool pr.need) := opt_quiet cq HKQ.out
          have y0 := opt_quiet (opt_quiet HX.out.1 HK2.out) HKQ.out
          have y1 := opt_quiet (opt_quiet HX.out.2 HK2.out) HKQ.out
          have HWq := Lib.hid (ownsRow_keeps (ownsRow_keeps HW.out HK2.out (fun _ _ h => h)) HKQ.out (fun _ _ h => h))
          have HBq := Lib.hid (Below.quiet HB2.out HKQ.out HB2.out.size)
          obtain ⟨nd, hnd⟩ : ∃ nd, nd = pr.need := ⟨_, rfl⟩
          rw [← hnd] at cq HSTY
          clear hnd HGB HND HRA0 HPA hjl
          cases gb with
          | false =>
            have HOS2 := Lib.hid (show os ++ [(Value.slice A1 la.length c1, (s, la))] = (zs.take (k + 1)).filter (fun p => Pure.stays (us.map Prod.snd) (optsOf rs) p.2) by rw [HTK.out, List.filter_append, ← HOS.out, List.filter_cons, if_pos (by rw [HSTY.out]; rfl)]; rfl)
            go_wp2_with (at_builtin; refine stopHere ?_)
            unfold Hid
            obtain ⟨wb, hwb⟩ : ∃ wb, wb = wr.alloc (.cells (optCells [(Value.slice A1 la.length c1, (s, la))]).toArray 32) := ⟨_, rfl⟩
            have hwb' : wr.alloc (.cells #[.int .i64 s, .slice A1 la.length c1] 32) = wb := hwb.symm
            rw [hwb']
            have hkb : Keeps nobody wr wb := by rw [hwb]; exact (Keeps.refl _ wr).alloc _
            have hbb : Blk wb wr.heap.size 32 (optCells [(Value.slice A1 la.length c1, (s, la))]).toArray := by rw [hwb]; exact Blk.new wr _ _
            have hrb : Row wb (fun b => b = wr.heap.size) 2 (.slice (some ⟨wr.heap.size, 0, none⟩) 1 1) 1 (optCells [(Value.slice A1 la.length c1, (s, la))]) := Row.block (F := fun b => b = wr.heap.size) (n := 1) (c := 1) (size := 2) hbb rfl rfl (by unfold maxLen; omega) (Nat.le_refl _)
            have hownb := ownsRow_keeps HWq.out hkb (fun _ _ h => h)
            have hBb := Below.quiet HBq.out hkb HBq.out.size
            have hosl : os.length ≤ 100000 := by rw [HOS.out]; exact Nat.le_trans (List.length_filter_le _ _) (by rw [List.length_take]; omega)
            clear hwb hwb'
            refine wpList_append_row rfl (.tmp 56) (.tmp 61) _ rfl w.heap.size 32 i0 _ 2 32 Try.underlying27 HI.out.1 HI.out.2.1 HI.out.2.2.1 HI.out.2.2.2 rfl (by omega) (.slice A7 os.length c7) _ (optCells os) rfl hownb _ _ 1 (optCells [(Value.slice A1 la.length c1, (s, la))]) rfl hrb (optCells_one _ (by intro p hp; simp at hp; subst hp; rfl)) (by unfold maxLen; omega) (by omega) hBb.size ?_
            intro v3 w3 hown3 hg3 hat3
            have hcat : optCells os ++ optCells [(Value.slice A1 la.length c1, (s, la))] = optCells (os ++ [(Value.slice A1 la.length c1, (s, la))]) := by simp [optCells]
            rw [hcat] at hown3
            have HO3 := Lib.hid (show w3.ownsRow w.heap.size 32 2 v3 (os ++ [(Value.slice A1 la.length c1, (s, la))]).length (optCells (os ++ [(Value.slice A1 la.length c1, (s, la))])) by rw [List.length_append]; exact hown3)
            have HB3 := Lib.hid (hBb.grown hg3 hBb.size (fun k hk => ownsRow_ge hownb k hk))
            clear hown3 hg3 hat3 hcat hownb hBb hrb hbb hkb y0 y1 cq
            go_wp2_with fail
            go_roundw
            case rel => exact ⟨k + 1, by omega, by go_num, _, HOS2.out, HO3.out, HB3.out⟩
            case measure => simp [intOf] <;> omega
          | true =>
            cases fb with
            | false =>
              have HOS2 := Lib.hid (show os = (zs.take (k + 1)).filter (fun p => Pure.stays (us.map Prod.snd) (optsOf rs) p.2) by rw [HTK.out, List.filter_append, ← HOS.out, List.filter_cons, if_neg (by rw [HSTY.out]; simp)]; simp)
              go_wp2_with fail
              go_roundw
              case rel => exact ⟨k + 1, by omega, by go_num, _, HOS2.out, HWq.out, HBq.out⟩
              case measure => simp [intOf] <;> omega
            | true =>
              cases nd with
              | true =>
                have HOS2 := Lib.hid (show os ++ [(Value.slice A1 la.length c1, (s, la))] = (zs.take (k + 1)).filter (fun p => Pure.stays (us.map Prod.snd) (optsOf rs) p.2) by rw [HTK.out, List.filter_append, ← HOS.out, List.filter_cons, if_pos (by rw [HSTY.out]; rfl)]; rfl)
                go_wp2_with (at_builtin; refine stopHere ?_)
                unfold Hid
                obtain ⟨wb, hwb⟩ : ∃ wb, wb = wr.alloc (.cells (optCells [(Value.slice A1 la.length c1, (s, la))]).toArray 32) := ⟨_, rfl⟩
                have hwb' : wr.alloc (.cells #[.int .i64 s, .slice A1 la.length c1] 32) = wb := hwb.symm
                rw [hwb']
                have hkb : Keeps nobody wr wb := by rw [hwb]; exact (Keeps.refl _ wr).alloc _
                have hbb : Blk wb wr.heap.size 32 (optCells [(Value.slice A1 la.length c1, (s, la))]).toArray := by rw [hwb]; exact Blk.new wr _ _
                have hrb : Row wb (fun b => b = wr.heap.size) 2 (.slice (some ⟨wr.heap.size, 0, none⟩) 1 1) 1 (optCells [(Value.slice A1 la.length c1, (s, la))]) := Row.block (F := fun b => b = wr.heap.size) (n := 1) (c := 1) (size := 2) hbb rfl rfl (by unfold maxLen; omega) (Nat.le_refl _)
                have hownb := ownsRow_keeps HWq.out hkb (fun _ _ h => h)
                have hBb := Below.quiet HBq.out hkb HBq.out.size
                have hosl : os.length ≤ 100000 := by rw [HOS.out]; exact Nat.le_trans (List.length_filter_le _ _) (by rw [List.length_take]; omega)
                clear hwb hwb'
                refine wpList_append_row rfl (.tmp 56) (.tmp 61) _ rfl w.heap.size 32 i0 _ 2 32 Try.underlying27 HI.out.1 HI.out.2.1 HI.out.2.2.1 HI.out.2.2.2 rfl (by omega) (.slice A7 os.length c7) _ (optCells os) rfl hownb _ _ 1 (optCells [(Value.slice A1 la.length c1, (s, la))]) rfl hrb (optCells_one _ (by intro p hp; simp at hp; subst hp; rfl)) (by unfold maxLen; omega) (by omega) hBb.size ?_
                intro v3 w3 hown3 hg3 hat3
                have hcat : optCells os ++ optCells [(Value.slice A1 la.length c1, (s, la))] = optCells (os ++ [(Value.slice A1 la.length c1, (s, la))]) := by simp [optCells]
                rw [hcat] at hown3
                have HO3 := Lib.hid (show w3.ownsRow w.heap.size 32 2 v3 (os ++ [(Value.slice A1 la.length c1, (s, la))]).length (optCells (os ++ [(Value.slice A1 la.length c1, (s, la))])) by rw [List.length_append]; exact hown3)
                have HB3 := Lib.hid (hBb.grown hg3 hBb.size (fun k hk => ownsRow_ge hownb k hk))
                clear hown3 hg3 hat3 hcat hownb hBb hrb hbb hkb y0 y1 cq
                go_wp2_with fail
                go_roundw
                case rel => exact ⟨k + 1, by omega, by go_num, _, HOS2.out, HO3.out, HB3.out⟩
                case measure => simp [intOf] <;> omega
              | false =>
                have HOS2 := Lib.hid (show os = (zs.take (k + 1)).filter (fun p => Pure.stays (us.map Prod.snd) (optsOf rs) p.2) by rw [HTK.out, List.filter_append, ← HOS.out, List.filter_cons, if_neg (by rw [HSTY.out]; simp)]; simp)
                go_wp2_with fail
                go_roundw
                case rel => exact ⟨k + 1, by omega, by go_num, _, HOS2.out, HWq.out, HBq.out⟩
                case measure => simp [intOf] <;> omega
    · have hkk : k = zs.length := by omega
      have d1 : decide ((k : Int) < (zs.length : Int)) = false := decide_eq_false (by omega)
      have d2 : decide (k < zs.length) = false := decide_eq_false hkl
      have HOE := Lib.hid (show os = zs.filter (fun p => Pure.stays (us.map Prod.snd) (optsOf rs) p.2) by rw [HOS.out, List.take_of_length_le (by omega)])
      have HOR := Lib.hid (show ORow wr (fun b => b < wr.heap.size) (.slice A7 os.length c7) os from by
        refine ⟨(Row.of_own HW.out).mono (fun b hb => ownsRow_lt HW.out b hb), fun p hp => ?_⟩
        have hp2 : p ∈ zs := by rw [HOE.out] at hp; exact (List.mem_filter.1 hp).1
        exact ((HA.out.rows p hp2).keeps (Keeps.new HB.out) (fun _ _ h => h)).mono (fun b hb => Nat.lt_of_lt_of_le (HF.out b hb) HB.out.size))
      have HCP := Lib.hid (doccopyopts_any (fun b => b < wr.heap.size) (.slice A7 os.length c7) os wr (fun _ h => h) HOR.out (by rw [HOE.out]; exact Nat.le_trans (List.length_filter_le _ _) hla) (fun p hp => HDL.out p (by rw [HOE.out] at hp; exact (List.mem_filter.1 hp).1)))
      have HL := Lib.hid (show optsOf os = Pure.left (us.map Prod.snd) (optsOf zs) (optsOf rs) by
        rw [HOE.out]
        unfold Pure.left
        rw [List.filter_map]
        rfl)
      clear hkk
      go_wp2_with fail
      refine HCP.out.mono ?_
      rintro e w5 ⟨u, qs, rfl, hqs, hrd⟩
      have HQS := Lib.hid hqs
      have HRD := Lib.hid hrd
      obtain ⟨A9, c9, rfl⟩ := own_form hrd.own
      clear hqs hrd HCP
      go_wp2
      go_ret
      exact ⟨_, qs, rfl, by rw [HQS.out, HL.out], HRD.out.orow.mono (fun b hb => Nat.le_trans HB.out.size hb), Below.quiet HB.out (Keeps.new HRD.out.below) HB.out.size⟩
end Go.Proofs.Yteajofcdiankiaa
